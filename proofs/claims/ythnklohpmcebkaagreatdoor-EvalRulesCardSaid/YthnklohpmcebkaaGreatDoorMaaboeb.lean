/- By program out of: EvSort, EvFold. -/
import Derived.Test.YthnklohpmcebkaaGreatDoorMflebha
import Derived.Test.YthnklohpmcebkaaGreatDoorMbknfnd
import Derived.Test.YthnklohpmcebkaaGreatDoorMflfaoc
set_option linter.unusedVariables false
set_option linter.unusedSimpArgs false
namespace Go.Proofs.YthnklohpmcebkaaGreatDoor
open Go.RowKit Tm Rep Ev
def Two (W : World) (g : Nat) (x y : Int) : Prop := ∃ cur, W.heap[g]? = some (.cells cur 3 (0, 0)) ∧ cur[0]? = some (.int .i64 x) ∧ cur[1]? = some (.int .i64 y)
theorem Two.cells {W : World} {g : Nat} {x y : Int} (h : Two W g x y) : W.cell? ⟨g, 0, none⟩ = some (.int .i64 x) ∧ W.cell? ⟨g, 1, none⟩ = some (.int .i64 y) ∧ W.frozen? ⟨g, 0, none⟩ = false ∧ W.frozen? ⟨g, 1, none⟩ = false := by
  obtain ⟨cur, h1, h2, h3⟩ := h
  refine ⟨by simp [World.cell?, h1, h2], by simp [World.cell?, h1, h3], ?_, ?_⟩
  · have : 0 < cur.size := (Array.getElem?_eq_some_iff.1 h2).1
    simp [World.frozen?, h1]
  · have : 1 < cur.size := (Array.getElem?_eq_some_iff.1 h3).1
    simp [World.frozen?, h1]
theorem Two.lt {W : World} {g : Nat} {x y : Int} (h : Two W g x y) : g < W.heap.size := by
  obtain ⟨cur, h1, _⟩ := h
  exact (Array.getElem?_eq_some_iff.1 h1).1
theorem Two.kept {W W' : World} {g : Nat} {x y : Int} (h : Two W g x y) (hb : Below W.heap.size W W') : Two W' g x y := by
  have hl := h.lt
  obtain ⟨cur, h1, h2⟩ := h
  exact ⟨cur, (hb.block g hl).trans h1, h2⟩
theorem Two.put0 {W : World} {g : Nat} {x y : Int} (h : Two W g x y) (z : Int) : Two (W.setCell ⟨g, 0, none⟩ (.int .i64 z)) g z y := by
  obtain ⟨cur, h1, h2, h3⟩ := h
  refine ⟨_, heap_setCell_same W g 0 _ _ _ h1, ?_, ?_⟩
  · have : 0 < cur.size := (Array.getElem?_eq_some_iff.1 h2).1
    simp [this]
  · simpa using h3
theorem Two.put1 {W : World} {g : Nat} {x y : Int} (h : Two W g x y) (z : Int) : Two (W.setCell ⟨g, 1, none⟩ (.int .i64 z)) g x z := by
  obtain ⟨cur, h1, h2, h3⟩ := h
  refine ⟨_, heap_setCell_same W g 1 _ _ _ h1, ?_, ?_⟩
  · simpa using h2
  · have : 1 < cur.size := (Array.getElem?_eq_some_iff.1 h3).1
    simp [this]
set_option maxRecDepth 100000 in
set_option maxHeartbeats 1000000 in
theorem clone_ints {w : World} {a : Option Addr} {kids : List Int} {c : Nat} (h : KAt w a kids c) (hne : kids ≠ []) : Calls Tryz.prog 60 #[.slice a kids.length c] w (fun e w' => ∃ g c' cur, e = .returned (.slice (some ⟨g, 0, none⟩) kids.length c') ∧ w.heap.size ≤ g ∧ w'.heap[g]? = some (.cells cur 3 (0, 0)) ∧ cur.toList.take kids.length = i64s kids ∧ kids.length ≤ c' ∧ c' ≤ 9223372036854775807 ∧ Below w.heap.size w w') := by
  have hnil := fun (w : World) (a : Option Addr) (n c : Nat) => Lib.run_eql_slice_nil (P := Tryz.prog) w 31 3 a n c 0 0 Tryz.underlying31
  have hl6 : kids.length ≤ 1000000 := h.few
  obtain ⟨g0, off0, rfl⟩ := h.some10 hne
  have hcell : ∀ j u, (i64s kids)[j]? = some u → (w.alloc (.cells #[] 3)).cell? ((⟨g0, off0, none⟩ : Addr).add j) = some u := by
    intro j u hu
    rcases h.at_ with e | ⟨g, off, e, hr⟩
    · exact absurd e hne
    · cases e
      rw [Addr.add_mid]
      exact (World.cell?_alloc_lt w _ ⟨g0, off0 + j, none⟩ (World.block_lt_of_cell? _ _ (hr j u hu))).trans (hr j u hu)
  have hone : ∀ v ∈ i64s kids, v.oneCell' = true := by intro v hv; simp [i64s] at hv; obtain ⟨x, _, rfl⟩ := hv; rfl
  have hlen : (i64s kids).length = kids.length * 1 := by simp [i64s]
  have HR := Lib.hid (row_none w 3)
  have HC := Lib.hid (And.intro hlen (And.intro hcell hone))
  have hn2 : 0 + kids.length ≤ 2000000 := by omega
  have HN := Lib.hid hn2
  have hpos : 0 < kids.length := by cases kids with | nil => exact absurd rfl hne | cons _ _ => simp
  have HP := Lib.hid hpos
  generalize kids.length = l at *
  clear h hcell hone hn2 hlen hne hpos
  go_enter Tryz.func60, Tryz.ntmps60
  go_wp2_with (at_builtin; refine wpList_app_row rowT_int rfl (.tmp 5) (.tmp 6) rfl w.heap.size (.slice (some ⟨w.heap.size, 0, none⟩) 0 0) 0 [] rfl HR.out ⟨g0, off0, none⟩ l c _ rfl HC.out.1 HC.out.2.1 HC.out.2.2 HN.out (by simp) ?_; intro v' w' hown hgr hnew)
  go_ret
  have hp := HP.out
  obtain ⟨hl1, ⟨_, h0⟩ | ⟨g, cap, cur, rfl, hb, hg, hnc, hcm, hcs, htake⟩⟩ := hown
  · omega
  · have hlen := HC.out.1
    refine ⟨g, cap, cur, by rw [Nat.zero_add]; rfl, hb, hg, ?_, by omega, by unfold maxLen at hcm; omega, ((Below.refl _ _).alloc (Nat.le_refl _) _).grown hgr (by simp) (fun k hk => by cases hk; exact Nat.le_refl _)⟩
    rw [List.nil_append, Nat.zero_add, Nat.mul_one] at htake
    exact htake
section
variable {W : World} {E : Env} {vs : List Vl} {rs : List RV}
set_option maxRecDepth 100000 in
set_option maxHeartbeats 4000000 in
theorem dist1_any (h : RkAt W E vs rs) {B2 : Nat} (hB : W.cell? ⟨B2, 0, none⟩ = some (.pointer (some ⟨E.R, 0, none⟩))) (hs : ∀ v ∈ vs, szQ v.2 ≤ 100) {x y : Int} (hx : 0 ≤ x ∧ x < (vs.length : Int)) (hy : 0 ≤ y ∧ y < (vs.length : Int)) :
    Calls Tryz.prog 102 #[.int .i64 x, .int .i64 y, .pointer (some ⟨B2, 0, none⟩)] W (GivesV (.int .i64 (cmpV (vat vs x) (vat vs y))) W) := by
  obtain ⟨k1, d1, rfl, hk1, hd1, hok1, hrg1⟩ := h.get hx
  obtain ⟨k2, d2, rfl, hk2, hd2, hok2, hrg2⟩ := h.get hy
  have hdr : Below W.heap.size W W.drew := (Below.refl W.heap.size W).drew
  have HC := Lib.hid (compare_any (hok1.kept hdr) (hok2.kept hdr) (hs _ (vat_mem hk1)) (hs _ (vat_mem hk2)))
  obtain ⟨_, _, _, _, c4, _⟩ := h.cells
  generalize cmpV (vat vs (k1 : Int)) (vat vs (k2 : Int)) = r at *
  generalize vs.length = nv at *
  have HX : Hid (W.drew.cell? ⟨B2, 0, none⟩ = some (.pointer (some ⟨E.R, 0, none⟩)) ∧ W.drew.cell? ⟨E.R, 4, none⟩ = some (.slice (some ⟨E.G, 0, none⟩) nv E.cap) ∧ W.drew.rangeAt E.G (k1 * 4) d1.cells ∧ W.drew.rangeAt E.G (k2 * 4) d2.cells) := Lib.hid ⟨hB, c4, hrg1, hrg2⟩
  have HBD := Lib.hid hdr
  obtain ⟨hx0, hx1⟩ := hx
  obtain ⟨hy0, hy1⟩ := hy
  clear h hB hs hd1 hok1 hrg1 hd2 hok2 hrg2 c4 hdr
  go_enter Tryz.func102, Tryz.ntmps102
  go_wp2_with fail
  refine wp_region_held_drew (S := (fun w' => w'.cell? ⟨B2, 0, none⟩ = some (.pointer (some ⟨E.R, 0, none⟩)) ∧ w'.cell? ⟨E.R, 4, none⟩ = some (.slice (some ⟨E.G, 0, none⟩) nv E.cap) ∧ w'.rangeAt E.G (k1 * 4) d1.cells ∧ w'.rangeAt E.G (k2 * 4) d2.cells)) (by kernel_rfl) ?_ (fun hHeld => ?_)
  · exact HX.out
  refine wpAnyH_take (i := 0) (v := .pointer (some ⟨E.R, 0, none⟩)) (by rfl) (by kernel_rfl) (by kernel_rfl) (by kernel_rfl) (by exact fun _ _ _ h => h) (Or.inl ⟨by rfl, ?_⟩) hHeld ?_
  · intro w' hSw
    obtain ⟨s1, s2, s3, s4⟩ := hSw
    go_simp
  try simp only [Act.put, List.setIfInBounds_toArray, List.set_cons_zero, List.set_cons_succ, List.getElem_toArray, List.getElem_cons_zero, List.getElem_cons_succ]
  refine wpAnyH_take (i := 1) (v := ?_) (by rfl) (by kernel_rfl) (by kernel_rfl) (by kernel_rfl) (by exact fun _ _ _ h => h) (Or.inl ⟨by rfl, ?_⟩) hHeld ?_
  rotate_left 1
  · intro w' hSw
    (try dsimp only at hSw)
    go_simp
    try with_reducible rfl
  try simp only [Act.put, List.setIfInBounds_toArray, List.set_cons_zero, List.set_cons_succ, List.getElem_toArray, List.getElem_cons_zero, List.getElem_cons_succ]
  refine wpAnyH_take (i := 2) (v := ?_) (by rfl) (by kernel_rfl) (by kernel_rfl) (by kernel_rfl) (by exact fun _ _ _ h => h) (Or.inl ⟨by rfl, ?_⟩) hHeld ?_
  rotate_left 1
  · intro w' hSw
    (try dsimp only at hSw)
    go_simp
    try with_reducible rfl
  try simp only [Act.put, List.setIfInBounds_toArray, List.set_cons_zero, List.set_cons_succ, List.getElem_toArray, List.getElem_cons_zero, List.getElem_cons_succ]
  refine wpAnyH_take (i := 3) (v := .slice (some ⟨E.G, 0, none⟩) nv E.cap) (by rfl) (by kernel_rfl) (by kernel_rfl) (by kernel_rfl) (by exact fun _ _ _ h => h) (Or.inl ⟨by rfl, ?_⟩) hHeld ?_
  · intro w' hSw
    obtain ⟨s1, s2, s3, s4⟩ := hSw
    go_simp
  try simp only [Act.put, List.setIfInBounds_toArray, List.set_cons_zero, List.set_cons_succ, List.getElem_toArray, List.getElem_cons_zero, List.getElem_cons_succ]
  refine wpAnyH_take (i := 4) (v := ?_) (by rfl) (by kernel_rfl) (by kernel_rfl) (by kernel_rfl) (by exact fun _ _ _ h => h) (Or.inl ⟨by rfl, ?_⟩) hHeld ?_
  rotate_left 1
  · intro w' hSw
    (try dsimp only at hSw)
    go_simp
    try with_reducible rfl
  try simp only [Act.put, List.setIfInBounds_toArray, List.set_cons_zero, List.set_cons_succ, List.getElem_toArray, List.getElem_cons_zero, List.getElem_cons_succ]
  refine wpAnyH_take (i := 5) (v := ?_) (by rfl) (by kernel_rfl) (by kernel_rfl) (by kernel_rfl) (by exact fun _ _ _ h => h) (Or.inl ⟨by rfl, ?_⟩) hHeld ?_
  rotate_left 1
  · intro w' hSw
    (try dsimp only at hSw)
    go_simp
    try with_reducible rfl
  try simp only [Act.put, List.setIfInBounds_toArray, List.set_cons_zero, List.set_cons_succ, List.getElem_toArray, List.getElem_cons_zero, List.getElem_cons_succ]
  refine wpAnyH_take (i := 6) (v := .agg #[.bool d1.t, .bool d1.s, .slice d1.z1 d1.m1 d1.k1, .slice d1.z2 d1.m2 d1.k2]) (by rfl) (by kernel_rfl) (by kernel_rfl) (by kernel_rfl) (by exact fun _ _ _ h => h) (Or.inl ⟨by rfl, ?_⟩) hHeld ?_
  · intro w' hSw
    exact run_load_op 52 (.tmp 11) rfl E.G (k1 * 4) rfl d1.cells _ hSw.2.2.1 Tryz.underlying52 rfl (by rw [size_value]; rfl)
  try simp only [Act.put, List.setIfInBounds_toArray, List.set_cons_zero, List.set_cons_succ, List.getElem_toArray, List.getElem_cons_zero, List.getElem_cons_succ]
  refine wpAnyH_take (i := 7) (v := .pointer (some ⟨E.R, 0, none⟩)) (by rfl) (by kernel_rfl) (by kernel_rfl) (by kernel_rfl) (by exact fun _ _ _ h => h) (Or.inl ⟨by rfl, ?_⟩) hHeld ?_
  · intro w' hSw
    obtain ⟨s1, s2, s3, s4⟩ := hSw
    go_simp
  try simp only [Act.put, List.setIfInBounds_toArray, List.set_cons_zero, List.set_cons_succ, List.getElem_toArray, List.getElem_cons_zero, List.getElem_cons_succ]
  refine wpAnyH_take (i := 8) (v := ?_) (by rfl) (by kernel_rfl) (by kernel_rfl) (by kernel_rfl) (by exact fun _ _ _ h => h) (Or.inl ⟨by rfl, ?_⟩) hHeld ?_
  rotate_left 1
  · intro w' hSw
    (try dsimp only at hSw)
    go_simp
    try with_reducible rfl
  try simp only [Act.put, List.setIfInBounds_toArray, List.set_cons_zero, List.set_cons_succ, List.getElem_toArray, List.getElem_cons_zero, List.getElem_cons_succ]
  refine wpAnyH_take (i := 9) (v := ?_) (by rfl) (by kernel_rfl) (by kernel_rfl) (by kernel_rfl) (by exact fun _ _ _ h => h) (Or.inl ⟨by rfl, ?_⟩) hHeld ?_
  rotate_left 1
  · intro w' hSw
    (try dsimp only at hSw)
    go_simp
    try with_reducible rfl
  try simp only [Act.put, List.setIfInBounds_toArray, List.set_cons_zero, List.set_cons_succ, List.getElem_toArray, List.getElem_cons_zero, List.getElem_cons_succ]
  refine wpAnyH_take (i := 10) (v := .slice (some ⟨E.G, 0, none⟩) nv E.cap) (by rfl) (by kernel_rfl) (by kernel_rfl) (by kernel_rfl) (by exact fun _ _ _ h => h) (Or.inl ⟨by rfl, ?_⟩) hHeld ?_
  · intro w' hSw
    obtain ⟨s1, s2, s3, s4⟩ := hSw
    go_simp
  try simp only [Act.put, List.setIfInBounds_toArray, List.set_cons_zero, List.set_cons_succ, List.getElem_toArray, List.getElem_cons_zero, List.getElem_cons_succ]
  refine wpAnyH_take (i := 11) (v := ?_) (by rfl) (by kernel_rfl) (by kernel_rfl) (by kernel_rfl) (by exact fun _ _ _ h => h) (Or.inl ⟨by rfl, ?_⟩) hHeld ?_
  rotate_left 1
  · intro w' hSw
    (try dsimp only at hSw)
    go_simp
    try with_reducible rfl
  try simp only [Act.put, List.setIfInBounds_toArray, List.set_cons_zero, List.set_cons_succ, List.getElem_toArray, List.getElem_cons_zero, List.getElem_cons_succ]
  refine wpAnyH_take (i := 12) (v := ?_) (by rfl) (by kernel_rfl) (by kernel_rfl) (by kernel_rfl) (by exact fun _ _ _ h => h) (Or.inl ⟨by rfl, ?_⟩) hHeld ?_
  rotate_left 1
  · intro w' hSw
    (try dsimp only at hSw)
    go_simp
    try with_reducible rfl
  try simp only [Act.put, List.setIfInBounds_toArray, List.set_cons_zero, List.set_cons_succ, List.getElem_toArray, List.getElem_cons_zero, List.getElem_cons_succ]
  refine wpAnyH_take (i := 13) (v := .agg #[.bool d2.t, .bool d2.s, .slice d2.z1 d2.m1 d2.k1, .slice d2.z2 d2.m2 d2.k2]) (by rfl) (by kernel_rfl) (by kernel_rfl) (by kernel_rfl) (by exact fun _ _ _ h => h) (Or.inl ⟨by rfl, ?_⟩) hHeld ?_
  · intro w' hSw
    exact run_load_op 52 (.tmp 18) rfl E.G (k2 * 4) rfl d2.cells _ hSw.2.2.2 Tryz.underlying52 rfl (by rw [size_value]; rfl)
  try simp only [Act.put, List.setIfInBounds_toArray, List.set_cons_zero, List.set_cons_succ, List.getElem_toArray, List.getElem_cons_zero, List.getElem_cons_succ]
  refine wpAnyH_ready (rs := [14]) (by kernel_rfl) (by simp) ?_
  refine AllReadyH.cons (by rfl) (fun K hK => ?_) AllReadyH.nil
  go_simp
  refine HC.out.mono ?_
  rintro e w5 ⟨rfl, hb5⟩
  have HB5 := Lib.hid (HBD.out.trans (hb5.mono HBD.out.size))
  refine hK.out _ _ ?_ (fun hHeld => ?_)
  · exact ⟨(hb5.cell (p := ⟨B2, 0, none⟩) (World.block_lt_of_cell? _ _ HX.out.1)).trans HX.out.1, (hb5.cell (p := ⟨E.R, 4, none⟩) (World.block_lt_of_cell? _ _ HX.out.2.1)).trans HX.out.2.1, rangeAt_kept HX.out.2.2.1 hb5 (rangeAt_lt HX.out.2.2.1 (by simp [RV.cells])), rangeAt_kept HX.out.2.2.2 hb5 (rangeAt_lt HX.out.2.2.2 (by simp [RV.cells]))⟩
  clear hK K
  try simp only [Act.put, List.setIfInBounds_toArray, List.set_cons_zero, List.set_cons_succ, List.getElem_toArray, List.getElem_cons_zero, List.getElem_cons_succ]
  refine wpAnyH_take (i := 15) (v := ?_) (by rfl) (by kernel_rfl) (by kernel_rfl) (by kernel_rfl) (by exact fun _ _ _ h => h) (Or.inl ⟨by rfl, ?_⟩) hHeld ?_
  rotate_left 1
  · intro w' hSw
    (try dsimp only at hSw)
    go_simp
    try with_reducible rfl
  try simp only [Act.put, List.setIfInBounds_toArray, List.set_cons_zero, List.set_cons_succ, List.getElem_toArray, List.getElem_cons_zero, List.getElem_cons_succ]
  refine wpAnyH_done (by kernel_rfl) ?_ _
  clear hHeld hb5
  go_wp2_with fail
  go_ret
  exact GivesV.mk' rfl HB5.out
end
section
variable {w : World} {g c B2 : Nat} {x y r : Int} {f : FuncId}
def TwoIn (W : World) (g : Nat) (x y r : Int) : Prop := if r < 0 then Two W g y x else Two W g x y
set_option maxRecDepth 100000 in
set_option maxHeartbeats 8000000 in
theorem insertion2 (hen : ∀ args w, (callFunc f args).run Tryz.prog w = .ok (.enter f args) w) (h2 : Two w g x y) (hc : ∀ W, Below w.heap.size w W → Calls Tryz.prog f #[.int .i64 y, .int .i64 x, .pointer (some ⟨B2, 0, none⟩)] W (GivesV (.int .i64 r) W)) :
    Calls Tryz.prog 119 #[.slice (some ⟨g, 0, none⟩) 2 c, .int .i64 0, .int .i64 2, .func (.func f) #[] #[.pointer (some ⟨B2, 0, none⟩)]] w (fun e w' => e = .returned (.tuple #[]) ∧ TwoIn w' g x y r ∧ Chg (fun j => j = g) w w') := by
  have HT := Lib.hid h2
  have HC := Lib.hid hc
  clear h2 hc
  go_enter Tryz.func119, Tryz.ntmps119
  go_wp2_with fail
  go_loopw [8] (fun (iv : Value) (wr : World) => (iv = .int .i64 1 ∧ Hid (Below w.heap.size w wr)) ∨ (iv = .int .i64 2 ∧ Hid (TwoIn wr g x y r ∧ Chg (fun j => j = g) w wr))) (fun iv _ => 2 - (intOf iv).toNat)
  case atStart => exact .inl ⟨rfl, Lib.hid (Below.refl _ _)⟩
  case round =>
    rcases hrel with ⟨rfl, HB⟩ | ⟨rfl, HF⟩
    · have HT0 := Lib.hid (HT.out.kept HB.out)
      go_wp2_with fail
      go_loopw [9] (fun (jv : Value) (ws : World) => (jv = .int .i64 1 ∧ Hid (Below w.heap.size w ws)) ∨ (jv = .int .i64 0 ∧ Hid (TwoIn ws g x y r ∧ Chg (fun j => j = g) w ws))) (fun jv _ => (intOf jv).toNat)
      case atStart => exact .inl ⟨rfl, HB⟩
      case round =>
        rcases hrel with ⟨rfl, HB1⟩ | ⟨rfl, HF⟩
        · have HT1 := Lib.hid (HT.out.kept HB1.out)
          have HX : Hid (wr.drew.cell? ⟨g, 0, none⟩ = some (.int .i64 x) ∧ wr.drew.cell? ⟨g, 1, none⟩ = some (.int .i64 y)) := Lib.hid ⟨HT1.out.cells.1, HT1.out.cells.2.1⟩
          have HCC := Lib.hid (HC.out _ HB1.out.drew)
          have HBD := Lib.hid HB1.out.drew
          go_wp2_with fail
          refine wp_region_held_drew (S := (fun w' => w'.cell? ⟨g, 0, none⟩ = some (.int .i64 x) ∧ w'.cell? ⟨g, 1, none⟩ = some (.int .i64 y))) (by kernel_rfl) ?_ (fun hHeld => ?_)
          · exact HX.out
          refine wpAnyH_take (i := 0) (v := ?_) (by rfl) (by kernel_rfl) (by kernel_rfl) (by kernel_rfl) (by exact fun _ _ _ h => h) (Or.inl ⟨by rfl, ?_⟩) hHeld ?_
          rotate_left 1
          · intro w' hSw
            (try dsimp only at hSw)
            go_simp
            try with_reducible rfl
          try simp only [Act.put, List.setIfInBounds_toArray, List.set_cons_zero, List.set_cons_succ, List.getElem_toArray, List.getElem_cons_zero, List.getElem_cons_succ]
          refine wpAnyH_take (i := 1) (v := ?_) (by rfl) (by kernel_rfl) (by kernel_rfl) (by kernel_rfl) (by exact fun _ _ _ h => h) (Or.inl ⟨by rfl, ?_⟩) hHeld ?_
          rotate_left 1
          · intro w' hSw
            (try dsimp only at hSw)
            go_simp
            try with_reducible rfl
          try simp only [Act.put, List.setIfInBounds_toArray, List.set_cons_zero, List.set_cons_succ, List.getElem_toArray, List.getElem_cons_zero, List.getElem_cons_succ]
          refine wpAnyH_take (i := 2) (v := ?_) (by rfl) (by kernel_rfl) (by kernel_rfl) (by kernel_rfl) (by exact fun _ _ _ h => h) (Or.inl ⟨by rfl, ?_⟩) hHeld ?_
          rotate_left 1
          · intro w' hSw
            (try dsimp only at hSw)
            go_simp
            try with_reducible rfl
          try simp only [Act.put, List.setIfInBounds_toArray, List.set_cons_zero, List.set_cons_succ, List.getElem_toArray, List.getElem_cons_zero, List.getElem_cons_succ]
          refine wpAnyH_take (i := 3) (v := ?_) (by rfl) (by kernel_rfl) (by kernel_rfl) (by kernel_rfl) (by exact fun _ _ _ h => h) (Or.inl ⟨by rfl, ?_⟩) hHeld ?_
          rotate_left 1
          · intro w' hSw
            (try dsimp only at hSw)
            go_simp
            try with_reducible rfl
          try simp only [Act.put, List.setIfInBounds_toArray, List.set_cons_zero, List.set_cons_succ, List.getElem_toArray, List.getElem_cons_zero, List.getElem_cons_succ]
          refine wpAnyH_take (i := 4) (v := ?_) (by rfl) (by kernel_rfl) (by kernel_rfl) (by kernel_rfl) (by exact fun _ _ _ h => h) (Or.inl ⟨by rfl, ?_⟩) hHeld ?_
          rotate_left 1
          · intro w' hSw
            (try dsimp only at hSw)
            go_simp
            try with_reducible rfl
          try simp only [Act.put, List.setIfInBounds_toArray, List.set_cons_zero, List.set_cons_succ, List.getElem_toArray, List.getElem_cons_zero, List.getElem_cons_succ]
          refine wpAnyH_take (i := 5) (v := ?_) (by rfl) (by kernel_rfl) (by kernel_rfl) (by kernel_rfl) (by exact fun _ _ _ h => h) (Or.inl ⟨by rfl, ?_⟩) hHeld ?_
          rotate_left 1
          · intro w' hSw
            (try dsimp only at hSw)
            go_simp
            try with_reducible rfl
          try simp only [Act.put, List.setIfInBounds_toArray, List.set_cons_zero, List.set_cons_succ, List.getElem_toArray, List.getElem_cons_zero, List.getElem_cons_succ]
          refine wpAnyH_take (i := 6) (v := ?_) (by rfl) (by kernel_rfl) (by kernel_rfl) (by kernel_rfl) (by exact fun _ _ _ h => h) (Or.inl ⟨by rfl, ?_⟩) hHeld ?_
          rotate_left 1
          · intro w' hSw
            (try dsimp only at hSw)
            go_simp
            try with_reducible rfl
          try simp only [Act.put, List.setIfInBounds_toArray, List.set_cons_zero, List.set_cons_succ, List.getElem_toArray, List.getElem_cons_zero, List.getElem_cons_succ]
          refine wpAnyH_take (i := 7) (v := ?_) (by rfl) (by kernel_rfl) (by kernel_rfl) (by kernel_rfl) (by exact fun _ _ _ h => h) (Or.inl ⟨by rfl, ?_⟩) hHeld ?_
          rotate_left 1
          · intro w' hSw
            (try dsimp only at hSw)
            go_simp
            try with_reducible rfl
          try simp only [Act.put, List.setIfInBounds_toArray, List.set_cons_zero, List.set_cons_succ, List.getElem_toArray, List.getElem_cons_zero, List.getElem_cons_succ]
          refine wpAnyH_take (i := 8) (v := .int .i64 y) (by rfl) (by kernel_rfl) (by kernel_rfl) (by kernel_rfl) (by exact fun _ _ _ h => h) (Or.inl ⟨by rfl, ?_⟩) hHeld ?_
          · intro w' hSw
            obtain ⟨s1, s2⟩ := hSw
            go_simp
          try simp only [Act.put, List.setIfInBounds_toArray, List.set_cons_zero, List.set_cons_succ, List.getElem_toArray, List.getElem_cons_zero, List.getElem_cons_succ]
          refine wpAnyH_take (i := 9) (v := ?_) (by rfl) (by kernel_rfl) (by kernel_rfl) (by kernel_rfl) (by exact fun _ _ _ h => h) (Or.inl ⟨by rfl, ?_⟩) hHeld ?_
          rotate_left 1
          · intro w' hSw
            (try dsimp only at hSw)
            go_simp
            try with_reducible rfl
          try simp only [Act.put, List.setIfInBounds_toArray, List.set_cons_zero, List.set_cons_succ, List.getElem_toArray, List.getElem_cons_zero, List.getElem_cons_succ]
          refine wpAnyH_take (i := 10) (v := ?_) (by rfl) (by kernel_rfl) (by kernel_rfl) (by kernel_rfl) (by exact fun _ _ _ h => h) (Or.inl ⟨by rfl, ?_⟩) hHeld ?_
          rotate_left 1
          · intro w' hSw
            (try dsimp only at hSw)
            go_simp
            try with_reducible rfl
          try simp only [Act.put, List.setIfInBounds_toArray, List.set_cons_zero, List.set_cons_succ, List.getElem_toArray, List.getElem_cons_zero, List.getElem_cons_succ]
          refine wpAnyH_take (i := 11) (v := .int .i64 0) (by rfl) (by kernel_rfl) (by kernel_rfl) (by kernel_rfl) (by exact fun _ _ _ h => h) (Or.inl ⟨by rfl, ?_⟩) hHeld ?_
          · intro w' hSw
            obtain ⟨s1, s2⟩ := hSw
            go_simp
            try rfl
          try simp only [Act.put, List.setIfInBounds_toArray, List.set_cons_zero, List.set_cons_succ, List.getElem_toArray, List.getElem_cons_zero, List.getElem_cons_succ]
          refine wpAnyH_take (i := 12) (v := ?_) (by rfl) (by kernel_rfl) (by kernel_rfl) (by kernel_rfl) (by exact fun _ _ _ h => h) (Or.inl ⟨by rfl, ?_⟩) hHeld ?_
          rotate_left 1
          · intro w' hSw
            (try dsimp only at hSw)
            go_simp
            try with_reducible rfl
          try simp only [Act.put, List.setIfInBounds_toArray, List.set_cons_zero, List.set_cons_succ, List.getElem_toArray, List.getElem_cons_zero, List.getElem_cons_succ]
          refine wpAnyH_take (i := 13) (v := .int .i64 x) (by rfl) (by kernel_rfl) (by kernel_rfl) (by kernel_rfl) (by exact fun _ _ _ h => h) (Or.inl ⟨by rfl, ?_⟩) hHeld ?_
          · intro w' hSw
            obtain ⟨s1, s2⟩ := hSw
            go_simp
          try simp only [Act.put, List.setIfInBounds_toArray, List.set_cons_zero, List.set_cons_succ, List.getElem_toArray, List.getElem_cons_zero, List.getElem_cons_succ]
          refine wpAnyH_ready (rs := [14]) (by kernel_rfl) (by simp) ?_
          refine AllReadyH.cons (by rfl) (fun K hK => ?_) AllReadyH.nil
          go_simp
          refine HCC.out.mono ?_
          rintro e w5 ⟨rfl, hb5⟩
          have HB5 := Lib.hid (HBD.out.trans (hb5.mono HBD.out.size))
          refine hK.out _ _ ?_ (fun hHeld => ?_)
          · exact ⟨(hb5.cell (p := ⟨g, 0, none⟩) (World.block_lt_of_cell? _ _ HX.out.1)).trans HX.out.1, (hb5.cell (p := ⟨g, 1, none⟩) (World.block_lt_of_cell? _ _ HX.out.2)).trans HX.out.2⟩
          clear hK K
          try simp only [Act.put, List.setIfInBounds_toArray, List.set_cons_zero, List.set_cons_succ, List.getElem_toArray, List.getElem_cons_zero, List.getElem_cons_succ]
          refine wpAnyH_take (i := 15) (v := ?_) (by rfl) (by kernel_rfl) (by kernel_rfl) (by kernel_rfl) (by exact fun _ _ _ h => h) (Or.inl ⟨by rfl, ?_⟩) hHeld ?_
          rotate_left 1
          · intro w' hSw
            (try dsimp only at hSw)
            go_simp
            try with_reducible rfl
          try simp only [Act.put, List.setIfInBounds_toArray, List.set_cons_zero, List.set_cons_succ, List.getElem_toArray, List.getElem_cons_zero, List.getElem_cons_succ]
          refine wpAnyH_take (i := 16) (v := ?_) (by rfl) (by kernel_rfl) (by kernel_rfl) (by kernel_rfl) (by exact fun _ _ _ h => h) (Or.inl ⟨by rfl, ?_⟩) hHeld ?_
          rotate_left 1
          · intro w' hSw
            (try dsimp only at hSw)
            go_simp
            try with_reducible rfl
          try simp only [Act.put, List.setIfInBounds_toArray, List.set_cons_zero, List.set_cons_succ, List.getElem_toArray, List.getElem_cons_zero, List.getElem_cons_succ]
          refine wpAnyH_done (by kernel_rfl) ?_ _
          clear hHeld hb5
          have HT5 := Lib.hid (HT.out.kept HB5.out)
          by_cases hr : r < 0
          · have hr' : decide (r < 0) = true := by simpa using hr
            rw [hr']
            obtain ⟨x0, x1, x2, x3⟩ := HT5.out.cells
            have HEND : Hid (TwoIn ((w5.setCell ⟨g, 1, none⟩ (.int .i64 x)).setCell ⟨g, 0, none⟩ (.int .i64 y)).drew g x y r ∧ Chg (fun j => j = g) w ((w5.setCell ⟨g, 1, none⟩ (.int .i64 x)).setCell ⟨g, 0, none⟩ (.int .i64 y)).drew) := Lib.hid ⟨by unfold TwoIn; rw [if_pos hr]; exact ((HT.out.kept HB5.out).put1 x).put0 y, (((Chg.of_below HB5.out).and (chg_setCell (S := fun j => j = g) rfl _ _ _)).and (chg_setCell (S := fun j => j = g) rfl _ _ _)).and Chg.drew⟩
            clear hr
            go_wp2_with fail
            go_region
            go_wp2_with fail
            go_roundw
            case rel => exact .inr ⟨by go_num, HEND⟩
            case measure => simp [intOf]
          · have hr' : decide (r < 0) = false := by simpa using hr
            rw [hr']
            have HEND : Hid (TwoIn w5 g x y r ∧ Chg (fun j => j = g) w w5) := Lib.hid ⟨by unfold TwoIn; rw [if_neg hr]; exact HT5.out, .of_below HB5.out⟩
            clear hr
            go_wp2_with fail
            go_roundw
            case rel => exact .inr ⟨by go_num, HEND⟩
            case measure => simp [intOf]
        · go_wp2_with fail
          refine wp_region_held_drew (S := (fun w' => True)) (by kernel_rfl) ?_ (fun hHeld => ?_)
          · trivial
          refine wpAnyH_take (i := 0) (v := ?_) (by rfl) (by kernel_rfl) (by kernel_rfl) (by kernel_rfl) (by exact fun _ _ _ h => h) (Or.inl ⟨by rfl, ?_⟩) hHeld ?_
          rotate_left 1
          · intro w' hSw
            (try dsimp only at hSw)
            go_simp
            try with_reducible rfl
          try simp only [Act.put, List.setIfInBounds_toArray, List.set_cons_zero, List.set_cons_succ, List.getElem_toArray, List.getElem_cons_zero, List.getElem_cons_succ]
          refine wpAnyH_take (i := 1) (v := ?_) (by rfl) (by kernel_rfl) (by kernel_rfl) (by kernel_rfl) (by exact fun _ _ _ h => h) (Or.inl ⟨by rfl, ?_⟩) hHeld ?_
          rotate_left 1
          · intro w' hSw
            (try dsimp only at hSw)
            go_simp
            try with_reducible rfl
          try simp only [Act.put, List.setIfInBounds_toArray, List.set_cons_zero, List.set_cons_succ, List.getElem_toArray, List.getElem_cons_zero, List.getElem_cons_succ]
          refine wpAnyH_take (i := 2) (v := ?_) (by rfl) (by kernel_rfl) (by kernel_rfl) (by kernel_rfl) (by exact fun _ _ _ h => h) (Or.inl ⟨by rfl, ?_⟩) hHeld ?_
          rotate_left 1
          · intro w' hSw
            (try dsimp only at hSw)
            go_simp
            try with_reducible rfl
          try simp only [Act.put, List.setIfInBounds_toArray, List.set_cons_zero, List.set_cons_succ, List.getElem_toArray, List.getElem_cons_zero, List.getElem_cons_succ]
          refine wpAnyH_take (i := 3) (v := ?_) (by rfl) (by kernel_rfl) (by kernel_rfl) (by kernel_rfl) (by exact fun _ _ _ h => h) (Or.inl ⟨by rfl, ?_⟩) hHeld ?_
          rotate_left 1
          · intro w' hSw
            (try dsimp only at hSw)
            go_simp
            try with_reducible rfl
          try simp only [Act.put, List.setIfInBounds_toArray, List.set_cons_zero, List.set_cons_succ, List.getElem_toArray, List.getElem_cons_zero, List.getElem_cons_succ]
          refine wpAnyH_take (i := 4) (v := undef) (by rfl) (by kernel_rfl) (by kernel_rfl) (by kernel_rfl) (by exact fun _ _ _ h => h) (Or.inr ⟨by rfl, rfl⟩) hHeld ?_
          try simp only [Act.put, List.setIfInBounds_toArray, List.set_cons_zero, List.set_cons_succ, List.getElem_toArray, List.getElem_cons_zero, List.getElem_cons_succ]
          refine wpAnyH_take (i := 5) (v := undef) (by rfl) (by kernel_rfl) (by kernel_rfl) (by kernel_rfl) (by exact fun _ _ _ h => h) (Or.inr ⟨by rfl, rfl⟩) hHeld ?_
          try simp only [Act.put, List.setIfInBounds_toArray, List.set_cons_zero, List.set_cons_succ, List.getElem_toArray, List.getElem_cons_zero, List.getElem_cons_succ]
          refine wpAnyH_take (i := 6) (v := undef) (by rfl) (by kernel_rfl) (by kernel_rfl) (by kernel_rfl) (by exact fun _ _ _ h => h) (Or.inr ⟨by rfl, rfl⟩) hHeld ?_
          try simp only [Act.put, List.setIfInBounds_toArray, List.set_cons_zero, List.set_cons_succ, List.getElem_toArray, List.getElem_cons_zero, List.getElem_cons_succ]
          refine wpAnyH_take (i := 7) (v := undef) (by rfl) (by kernel_rfl) (by kernel_rfl) (by kernel_rfl) (by exact fun _ _ _ h => h) (Or.inr ⟨by rfl, rfl⟩) hHeld ?_
          try simp only [Act.put, List.setIfInBounds_toArray, List.set_cons_zero, List.set_cons_succ, List.getElem_toArray, List.getElem_cons_zero, List.getElem_cons_succ]
          refine wpAnyH_take (i := 8) (v := undef) (by rfl) (by kernel_rfl) (by kernel_rfl) (by kernel_rfl) (by exact fun _ _ _ h => h) (Or.inr ⟨by rfl, rfl⟩) hHeld ?_
          try simp only [Act.put, List.setIfInBounds_toArray, List.set_cons_zero, List.set_cons_succ, List.getElem_toArray, List.getElem_cons_zero, List.getElem_cons_succ]
          refine wpAnyH_take (i := 9) (v := undef) (by rfl) (by kernel_rfl) (by kernel_rfl) (by kernel_rfl) (by exact fun _ _ _ h => h) (Or.inr ⟨by rfl, rfl⟩) hHeld ?_
          try simp only [Act.put, List.setIfInBounds_toArray, List.set_cons_zero, List.set_cons_succ, List.getElem_toArray, List.getElem_cons_zero, List.getElem_cons_succ]
          refine wpAnyH_take (i := 10) (v := undef) (by rfl) (by kernel_rfl) (by kernel_rfl) (by kernel_rfl) (by exact fun _ _ _ h => h) (Or.inr ⟨by rfl, rfl⟩) hHeld ?_
          try simp only [Act.put, List.setIfInBounds_toArray, List.set_cons_zero, List.set_cons_succ, List.getElem_toArray, List.getElem_cons_zero, List.getElem_cons_succ]
          refine wpAnyH_take (i := 11) (v := undef) (by rfl) (by kernel_rfl) (by kernel_rfl) (by kernel_rfl) (by exact fun _ _ _ h => h) (Or.inr ⟨by rfl, rfl⟩) hHeld ?_
          try simp only [Act.put, List.setIfInBounds_toArray, List.set_cons_zero, List.set_cons_succ, List.getElem_toArray, List.getElem_cons_zero, List.getElem_cons_succ]
          refine wpAnyH_take (i := 12) (v := undef) (by rfl) (by kernel_rfl) (by kernel_rfl) (by kernel_rfl) (by exact fun _ _ _ h => h) (Or.inr ⟨by rfl, rfl⟩) hHeld ?_
          try simp only [Act.put, List.setIfInBounds_toArray, List.set_cons_zero, List.set_cons_succ, List.getElem_toArray, List.getElem_cons_zero, List.getElem_cons_succ]
          refine wpAnyH_take (i := 13) (v := undef) (by rfl) (by kernel_rfl) (by kernel_rfl) (by kernel_rfl) (by exact fun _ _ _ h => h) (Or.inr ⟨by rfl, rfl⟩) hHeld ?_
          try simp only [Act.put, List.setIfInBounds_toArray, List.set_cons_zero, List.set_cons_succ, List.getElem_toArray, List.getElem_cons_zero, List.getElem_cons_succ]
          refine wpAnyH_take (i := 14) (v := undef) (by rfl) (by kernel_rfl) (by kernel_rfl) (by kernel_rfl) (by exact fun _ _ _ h => h) (Or.inr ⟨by rfl, rfl⟩) hHeld ?_
          try simp only [Act.put, List.setIfInBounds_toArray, List.set_cons_zero, List.set_cons_succ, List.getElem_toArray, List.getElem_cons_zero, List.getElem_cons_succ]
          refine wpAnyH_take (i := 15) (v := undef) (by rfl) (by kernel_rfl) (by kernel_rfl) (by kernel_rfl) (by exact fun _ _ _ h => h) (Or.inr ⟨by rfl, rfl⟩) hHeld ?_
          try simp only [Act.put, List.setIfInBounds_toArray, List.set_cons_zero, List.set_cons_succ, List.getElem_toArray, List.getElem_cons_zero, List.getElem_cons_succ]
          refine wpAnyH_take (i := 16) (v := ?_) (by rfl) (by kernel_rfl) (by kernel_rfl) (by kernel_rfl) (by exact fun _ _ _ h => h) (Or.inl ⟨by rfl, ?_⟩) hHeld ?_
          rotate_left 1
          · intro w' hSw
            (try dsimp only at hSw)
            go_simp
            try with_reducible rfl
          try simp only [Act.put, List.setIfInBounds_toArray, List.set_cons_zero, List.set_cons_succ, List.getElem_toArray, List.getElem_cons_zero, List.getElem_cons_succ]
          refine wpAnyH_done (by kernel_rfl) ?_ _
          clear hHeld
          have HF' : Hid (TwoIn wr.drew g x y r ∧ Chg (fun j => j = g) w wr.drew) := Lib.hid ⟨HF.out.1, HF.out.2.and Chg.drew⟩
          go_wp2_with fail
          go_roundw
          case rel => exact .inr ⟨by go_num, HF'⟩
          case measure => simp [intOf]
    · go_wp2_with fail
      go_end0
      exact ⟨rfl, HF.out⟩
set_option maxRecDepth 100000 in
set_option maxHeartbeats 8000000 in
theorem pdq2 (hen : ∀ args w, (callFunc f args).run Tryz.prog w = .ok (.enter f args) w) (lim : Int) (h2 : Two w g x y) (hc : ∀ W, Below w.heap.size w W → Calls Tryz.prog f #[.int .i64 y, .int .i64 x, .pointer (some ⟨B2, 0, none⟩)] W (GivesV (.int .i64 r) W)) :
    Calls Tryz.prog 110 #[.slice (some ⟨g, 0, none⟩) 2 c, .int .i64 0, .int .i64 2, .int .i64 lim, .func (.func f) #[] #[.pointer (some ⟨B2, 0, none⟩)]] w (fun e w' => e = .returned (.tuple #[]) ∧ TwoIn w' g x y r ∧ Chg (fun j => j = g) w w') := by
  have HI := Lib.hid (insertion2 (c := c) hen h2 hc)
  clear h2 hc
  go_enter Tryz.func110, Tryz.ntmps110
  go_wp2_with fail
  go_loopw [1, 2] (fun (u v : Value) (wr : World) => u = .int .i64 0 ∧ v = .int .i64 2 ∧ w = wr) (fun _ _ _ => 0)
  case atStart => exact ⟨rfl, rfl, rfl⟩
  case round =>
    obtain ⟨rfl, rfl, rfl⟩ := hrel
    go_wp2_with fail
    refine HI.out.mono ?_
    rintro e w1 ⟨rfl, h1⟩
    have HE := Lib.hid h1
    clear h1
    go_wp2_with fail
    refine bodyPost_ret (results_none rfl _ _ _) rfl ?_
    exact ⟨rfl, HE.out⟩
set_option maxRecDepth 100000 in
set_option maxHeartbeats 8000000 in
theorem sortFunc2 (hen : ∀ args w, (callFunc f args).run Tryz.prog w = .ok (.enter f args) w) (h2 : Two w g x y) (hc : ∀ W, Below w.heap.size w W → Calls Tryz.prog f #[.int .i64 y, .int .i64 x, .pointer (some ⟨B2, 0, none⟩)] W (GivesV (.int .i64 r) W)) :
    Calls Tryz.prog 101 #[.slice (some ⟨g, 0, none⟩) 2 c, .func (.func f) #[] #[.pointer (some ⟨B2, 0, none⟩)]] w (fun e w' => e = .returned (.tuple #[]) ∧ TwoIn w' g x y r ∧ Chg (fun j => j = g) w w') := by
  have HP := Lib.hid (fun lim => pdq2 (c := c) hen lim h2 hc)
  have HL := Lib.hid (fun w => Tryz.bits_Len 2 w (by omega) (by omega))
  clear h2 hc
  go_enter Tryz.func101, Tryz.ntmps101
  go_wp2_with fail
  refine (HL.out _).mono ?_
  rintro e w1 ⟨rfl, rfl⟩
  go_wp2_with fail
  refine (HP.out _).mono ?_
  rintro e w2 ⟨rfl, h2⟩
  have HE := Lib.hid h2
  clear h2
  go_wp2_with fail
  go_end0
  exact ⟨rfl, HE.out⟩
end
section
variable {W : World} {E : Env} {vs : List Vl} {rs : List RV} {ka : Option Addr} {kids : List Int} {kc : Nat}
theorem two_kat {W : World} {g c : Nat} {x y : Int} (h : Two W g x y) (h2 : 2 ≤ c) (h63 : c ≤ 9223372036854775807) : KAt W (some ⟨g, 0, none⟩) [x, y] c := by
  obtain ⟨c0, c1, _, _⟩ := h.cells
  refine ⟨.inr ⟨g, 0, rfl, fun j u hu => ?_⟩, h2, h63, fun e => (by cases e), by simp⟩
  rw [Nat.zero_add]
  match j, hu with
  | 0, hu => simp [i64s] at hu; rw [← hu]; exact c0
  | 1, hu => simp [i64s] at hu; rw [← hu]; exact c1
  | j + 2, hu => simp [i64s] at hu
set_option maxRecDepth 100000
theorem less_ord (W : World) : OrdA W 65 (ordB 14) := ⟨fun args w => by go_simp, fun W' _ d1 d2 v1 v2 h1 h2 s1 s2 => less_any h1 h2 s1 s2⟩
theorem equal_ord (W : World) : OrdA W 67 (ordB 12) := ⟨fun args w => by go_simp, fun W' _ d1 d2 v1 v2 h1 h2 s1 s2 => equal_any h1 h2 s1 s2⟩
theorem OrAt.cell0 {W : World} {mo L : Nat} (h : OrAt W mo L) : W.cell? ⟨L, 0, none⟩ = some (.func (.func 65) #[] #[]) := by simp [World.cell?, h.cell]
theorem cell_kept {W W' : World} {L i : Nat} {v : Value} (h : W.cell? ⟨L, i, none⟩ = some v) (hb : Below W.heap.size W W') : W'.cell? ⟨L, i, none⟩ = some v := (hb.cell (p := ⟨L, i, none⟩) (World.block_lt_of_cell? _ _ h)).trans h
theorem atMost_ord {W : World} {mo L : Nat} (h : OrAt W mo L) : OrdB W 68 L (ordB 15) := ⟨fun args w => by go_simp, fun W' hb d1 d2 v1 v2 h1 h2 s1 s2 => atMost_any (cell_kept h.cell0 hb) h1 h2 s1 s2⟩
theorem greater_ord {W : World} {mo L : Nat} (h : OrAt W mo L) : OrdB W 69 L (ordB 16) := ⟨fun args w => by go_simp, fun W' hb d1 d2 v1 v2 h1 h2 s1 s2 => greater_any (cell_kept h.cell0 hb) h1 h2 s1 s2⟩
theorem atLeast_ord {W : World} {mo L : Nat} (h : OrAt W mo L) : OrdB W 70 L (ordB 17) := ⟨fun args w => by go_simp, fun W' hb d1 d2 v1 v2 h1 h2 s1 s2 => atLeast_any (cell_kept h.cell0 hb) h1 h2 s1 s2⟩
end
end Go.Proofs.YthnklohpmcebkaaGreatDoor

set_option linter.unusedVariables false
set_option linter.unusedSimpArgs false
namespace Go.Proofs.YthnklohpmcebkaaGreatDoor
open Go.RowKit Tm Rep Ev
structure FnOk (fo : FuncId) (b m : Nat) (F : Rat → Rat → Rat) : Prop where
  en : ∀ args w, (callFunc fo args).run Tryz.prog w = .ok (.enter fo args) w
  call : ∀ (W : World) (d1 d2 : RV) (x y : Rat), Bench W b m false → Tab W → VQ x d1.raw W → VQ y d2.raw W → szQ x ≤ 48 → szQ y ≤ 48 → szQ (F x y) ≤ 48 → szQ (F x y) ≤ m →
    Calls Tryz.prog fo #[.pointer (some ⟨b, 0, none⟩), .agg #[.bool d1.s, .slice d1.z1 d1.m1 d1.k1, .slice d1.z2 d1.m2 d1.k2], .agg #[.bool d2.s, .slice d2.z1 d2.m1 d2.k1, .slice d2.z2 d2.m2 d2.k2]] W (fun e W' => ∃ d : RV, d.t = false ∧ e = .returned (.agg #[.bool d.s, .slice d.z1 d.m1 d.k1, .slice d.z2 d.m2 d.k2]) ∧ Hid (RoomM b m W W') ∧ Hid (VQ (F x y) d.raw W'))
theorem fn_post {b m : Nat} {q : Rat} {W W' : World} {e : Ending} (h : GivesQ b m q W e W') (hm : szQ q ≤ m) (hB : Bench W b m false) (hT : Tab W) : ∃ d : RV, d.t = false ∧ e = .returned (.agg #[.bool d.s, .slice d.z1 d.m1 d.k1, .slice d.z2 d.m2 d.k2]) ∧ Hid (RoomM b m W W') ∧ Hid (VQ q d.raw W') := by
  obtain ⟨a1, c1, a2, c2, rfl, f1, f2, f3⟩ := h
  obtain ⟨o1, o2⟩ := ov_fits (m := m) (q := q) hm
  rw [o2] at f1 ⊢
  rw [o1] at f2
  exact ⟨⟨false, ngQ q, a1, _, c1, a2, _, c2⟩, rfl, rfl, Lib.hid ⟨f3, f2, hT.bench hB f3⟩, Lib.hid ⟨rfl, rfl, rfl, f1⟩⟩
theorem add_fn (b m : Nat) : FnOk 42 b m (fun x y => x + y) := ⟨fun args w => by go_simp, fun W d1 d2 x y hB hT hx hy s1 s2 s3 s4 => (Add_q hB hT (hx.ratx (by omega)) (hy.ratx (by omega))).mono fun e W' hg => fn_post hg s4 hB hT⟩
theorem sub_fn (b m : Nat) : FnOk 80 b m (fun x y => x - y) := ⟨fun args w => by go_simp, fun W d1 d2 x y hB hT hx hy s1 s2 s3 s4 => (Sub_q hB hT (hx.ratx (by omega)) (hy.ratx (by omega))).mono fun e W' hg => fn_post hg s4 hB hT⟩
def FoldSm (m : Nat) (F : Rat → Rat → Rat) (vs : List Vl) (a : Rat) (l : List Int) : Prop := ∀ j, szQ (Ev.fold F vs a (l.take j)) ≤ 48 ∧ (0 < j → szQ (Ev.fold F vs a (l.take j)) ≤ m)
theorem cell_room {W W' : World} {b g i m : Nat} {v : Value} (h : W.cell? ⟨g, i, none⟩ = some v) (hr : RoomM b m W W') (hne : g ≠ b) : W'.cell? ⟨g, i, none⟩ = some v :=
  (World.cell?_of_block (a := ⟨g, i, none⟩) (hr.g.block g (World.block_lt_of_cell? _ _ h) (by simpa using hne))).trans h
theorem KAt.room {W W' : World} {b m : Nat} {a : Option Addr} {kids : List Int} {c : Nat} (h : KAt W a kids c) (hr : RoomM b m W W') (hne : ∀ g off, a = some ⟨g, off, none⟩ → g ≠ b) : KAt W' a kids c := by
  refine ⟨?_, h.cap, h.capped, h.mid, h.few⟩
  rcases h.at_ with e | ⟨g, off, e, h⟩
  · exact .inl e
  · exact .inr ⟨g, off, e, range_room h hr.g (hne g off e)⟩
theorem cell_chg {W W' : World} {g i x : Nat} {v : Value} (h : W.cell? ⟨g, i, none⟩ = some v) (hc : Chg (fun j => j = x) W W') (hne : g ≠ x) : W'.cell? ⟨g, i, none⟩ = some v :=
  (World.cell?_of_block (a := ⟨g, i, none⟩) (hc.block g (World.block_lt_of_cell? _ _ h) hne)).trans h
theorem range_chg {W W' : World} {g off x : Nat} {C : List Value} (h : W.rangeAt g off C) (hc : Chg (fun j => j = x) W W') (hne : g ≠ x) : W'.rangeAt g off C := fun j u hu => cell_chg (h j u hu) hc hne
section
variable {W : World} {E : Env} {vs : List Vl} {rs : List RV} {ka : Option Addr} {kids : List Int} {kc : Nat} {F : Rat → Rat → Rat} {fo : FuncId}
theorem rat_of_cells {W : World} {g o : Nat} {d : RV} (h : W.rangeAt g o d.cells) : W.rangeAt g (o + 1) d.rat := fun j u hu => by
  have := h (1 + j) u (by rw [show d.cells = [.bool d.t] ++ d.rat from rfl, List.getElem?_append_right (by simp)]; simpa using hu)
  rw [← Nat.add_assoc] at this
  exact this
set_option maxRecDepth 100000 in
set_option maxHeartbeats 8000000 in
theorem fold_any (h : RkAt W E vs rs) (hk : KAt W ka kids kc) (hkb : ∀ g off, ka = some ⟨g, off, none⟩ → g ≠ E.b) (h2 : 2 ≤ kids.length) (hin : ∀ x ∈ kids, 0 ≤ x ∧ x < (vs.length : Int)) (hs : ∀ v ∈ vs, szQ v.2 ≤ 48)
    (ho : FnOk fo E.b E.m F) (hsm : FoldSm E.m F vs (numOf vs (kid kids 0)) (kids.drop 1)) :
    Calls Tryz.prog 41 #[.pointer (some ⟨E.R, 0, none⟩), .slice ka kids.length kc, .func (.func fo) #[] #[]] W (GotF E.b E.m W (false, Ev.fold F vs (numOf vs (kid kids 0)) (kids.drop 1))) := by
  obtain ⟨W2, hW2⟩ : ∃ W2, W2 = W.alloc (.cells #[.bool false, .bool false, .slice none 0 0, .slice none 0 0] 52) := ⟨_, rfl⟩
  have hb2 : Below W.heap.size W W2 := by rw [hW2]; exact (Below.refl _ _).alloc (Nat.le_refl _) _
  have hvb : VB W2 W.heap.size zRV.cells := by rw [hW2]; exact heap_alloc_new W _
  have hsz2 : W2.heap.size = W.heap.size + 1 := by rw [hW2]; simp
  have hget0 : kids[0]? = some (kids.getD 0 0) := by rw [List.getD_eq_getElem?_getD, List.getElem?_eq_getElem (by omega)]; rfl
  obtain ⟨g, off, rfl⟩ := hk.some10 (fun e => by rw [e] at h2; simp at h2)
  have hr0 := hin _ (List.mem_of_getElem? hget0)
  have hk0 := kid_at hget0
  obtain ⟨g0, o0, hg0, hc0⟩ := (hk.kept hb2).get hget0
  simp only [Option.some.injEq, Addr.mk.injEq] at hg0
  obtain ⟨rfl, rfl, _⟩ := hg0
  rw [Nat.add_zero] at hc0
  rw [hk0] at hsm ⊢
  generalize kids.getD 0 0 = x0 at *
  obtain ⟨k0, d0, rfl, hkl0, hd0, hok0, hrg0⟩ := (h.kept hb2).get hr0
  have hbn := h.bench
  unfold Bench at hbn
  have hRb : E.R ≠ E.b := tag_ne10 h.head hbn (by decide)
  have hGb : E.G ≠ E.b := h.row.ne_cells hbn (by decide)
  have hbl := (Array.getElem?_eq_some_iff.1 hbn).1
  have hRl := (Array.getElem?_eq_some_iff.1 h.head).1
  have hGl := h.row.lt
  obtain ⟨a, ha⟩ : ∃ a, numOf vs (k0 : Int) = a := ⟨_, rfl⟩
  rw [ha] at hsm ⊢
  obtain ⟨n, hn⟩ : ∃ n, kids.length = n := ⟨_, rfl⟩
  have hcap := hk.cap
  have hcp := hk.capped
  have hn6 : n ≤ 1000000 := by have := hk.few; omega
  obtain ⟨_, _, _, _, c4, _⟩ := (h.kept hb2).cells
  obtain ⟨nv, hnv⟩ : ∃ nv, vs.length = nv := ⟨_, rfl⟩
  have hq0 : VQ a d0.raw W2 := by rw [← ha]; exact hok0.q
  have hrat0 := rat_of_cells hrg0
  have HX1 : Hid (W2.drew.cell? ⟨E.R, 4, none⟩ = some (.slice (some ⟨E.G, 0, none⟩) nv E.cap) ∧ W2.drew.cell? ⟨g, off, none⟩ = some (.int .i64 (k0 : Int)) ∧ W2.drew.rangeAt E.G (k0 * 4 + 1) d0.rat) := Lib.hid ⟨by rw [← hnv]; exact c4, hc0, hrat0⟩
  have H0 := Lib.hid (And.intro h (And.intro hk (And.intro hkb (And.intro hin (And.intro hs (And.intro ho (And.intro hsm (And.intro hb2 (And.intro hvb (And.intro hq0 (And.intro hn hnv)))))))))))
  have HSZ := Lib.hid (And.intro hsz2 (And.intro hbl (And.intro hRl (And.intro hGl (And.intro hRb hGb)))))
  have hk01 : (k0 : Int) < (nv : Int) := by omega
  rw [hn] at h2 hcap ⊢
  have f0 : (0 : Int) < (n : Int) := by omega
  have f0' : 0 < n := by omega
  have f2 : (1 : Int) ≤ (n : Int) := by omega
  have f3 : (1 : Int) ≤ (kc : Int) := by omega
  have f4 : ¬ kc - 1 = 0 := by omega
  have hen := ho.en
  obtain ⟨res, hres⟩ : ∃ res, Ev.fold F vs a (kids.drop 1) = res := ⟨_, rfl⟩
  have HRES := Lib.hid hres
  rw [hres]
  clear h hk hkb hin hs ho hsm hb2 hvb hsz2 hget0 hr0 hk0 hc0 hkl0 hd0 hok0 hrg0 hbn hRb hGb hbl hRl hGl ha hn c4 hnv hq0 hrat0 hres
  go_enter Tryz.func41, Tryz.ntmps41
  go_wp2_with fail
  rw [show (W.alloc (Obj.cells #[.bool false, .bool false, .slice none 0 0, .slice none 0 0] 52)) = W2 from hW2.symm]
  clear hW2
  refine wp_region_held_drew (S := (fun w' => w'.cell? ⟨E.R, 4, none⟩ = some (.slice (some ⟨E.G, 0, none⟩) nv E.cap) ∧ w'.cell? ⟨g, off, none⟩ = some (.int .i64 (k0 : Int)) ∧ w'.rangeAt E.G (k0 * 4 + 1) d0.rat)) (by kernel_rfl) ?_ (fun hHeld => ?_)
  · exact HX1.out
  refine wpAnyH_take (i := 0) (v := ?_) (by rfl) (by kernel_rfl) (by kernel_rfl) (by kernel_rfl) (by exact fun _ _ _ h => h) (Or.inl ⟨by rfl, ?_⟩) hHeld ?_
  rotate_left 1
  · intro w' hSw
    (try dsimp only at hSw)
    go_simp
    try with_reducible rfl
  try simp only [Act.put, List.setIfInBounds_toArray, List.set_cons_zero, List.set_cons_succ, List.getElem_toArray, List.getElem_cons_zero, List.getElem_cons_succ]
  refine wpAnyH_take (i := 1) (v := ?_) (by rfl) (by kernel_rfl) (by kernel_rfl) (by kernel_rfl) (by exact fun _ _ _ h => h) (Or.inl ⟨by rfl, ?_⟩) hHeld ?_
  rotate_left 1
  · intro w' hSw
    (try dsimp only at hSw)
    go_simp
    try with_reducible rfl
  try simp only [Act.put, List.setIfInBounds_toArray, List.set_cons_zero, List.set_cons_succ, List.getElem_toArray, List.getElem_cons_zero, List.getElem_cons_succ]
  refine wpAnyH_take (i := 2) (v := ?_) (by rfl) (by kernel_rfl) (by kernel_rfl) (by kernel_rfl) (by exact fun _ _ _ h => h) (Or.inl ⟨by rfl, ?_⟩) hHeld ?_
  rotate_left 1
  · intro w' hSw
    (try dsimp only at hSw)
    go_simp
    try with_reducible rfl
  try simp only [Act.put, List.setIfInBounds_toArray, List.set_cons_zero, List.set_cons_succ, List.getElem_toArray, List.getElem_cons_zero, List.getElem_cons_succ]
  refine wpAnyH_take (i := 3) (v := .slice (some ⟨E.G, 0, none⟩) nv E.cap) (by rfl) (by kernel_rfl) (by kernel_rfl) (by kernel_rfl) (by exact fun _ _ _ h => h) (Or.inl ⟨by rfl, ?_⟩) hHeld ?_
  · intro w' hSw
    obtain ⟨s1, s2, s3⟩ := hSw
    go_simp
  try simp only [Act.put, List.setIfInBounds_toArray, List.set_cons_zero, List.set_cons_succ, List.getElem_toArray, List.getElem_cons_zero, List.getElem_cons_succ]
  refine wpAnyH_take (i := 4) (v := ?_) (by rfl) (by kernel_rfl) (by kernel_rfl) (by kernel_rfl) (by exact fun _ _ _ h => h) (Or.inl ⟨by rfl, ?_⟩) hHeld ?_
  rotate_left 1
  · intro w' hSw
    (try dsimp only at hSw)
    go_simp
    try with_reducible rfl
  try simp only [Act.put, List.setIfInBounds_toArray, List.set_cons_zero, List.set_cons_succ, List.getElem_toArray, List.getElem_cons_zero, List.getElem_cons_succ]
  refine wpAnyH_take (i := 5) (v := ?_) (by rfl) (by kernel_rfl) (by kernel_rfl) (by kernel_rfl) (by exact fun _ _ _ h => h) (Or.inl ⟨by rfl, ?_⟩) hHeld ?_
  rotate_left 1
  · intro w' hSw
    (try dsimp only at hSw)
    go_simp
    try with_reducible rfl
  try simp only [Act.put, List.setIfInBounds_toArray, List.set_cons_zero, List.set_cons_succ, List.getElem_toArray, List.getElem_cons_zero, List.getElem_cons_succ]
  refine wpAnyH_take (i := 6) (v := .int .i64 (k0 : Int)) (by rfl) (by kernel_rfl) (by kernel_rfl) (by kernel_rfl) (by exact fun _ _ _ h => h) (Or.inl ⟨by rfl, ?_⟩) hHeld ?_
  · intro w' hSw
    obtain ⟨s1, s2, s3⟩ := hSw
    go_simp
  try simp only [Act.put, List.setIfInBounds_toArray, List.set_cons_zero, List.set_cons_succ, List.getElem_toArray, List.getElem_cons_zero, List.getElem_cons_succ]
  refine wpAnyH_take (i := 7) (v := ?_) (by rfl) (by kernel_rfl) (by kernel_rfl) (by kernel_rfl) (by exact fun _ _ _ h => h) (Or.inl ⟨by rfl, ?_⟩) hHeld ?_
  rotate_left 1
  · intro w' hSw
    (try dsimp only at hSw)
    go_simp
    try with_reducible rfl
  try simp only [Act.put, List.setIfInBounds_toArray, List.set_cons_zero, List.set_cons_succ, List.getElem_toArray, List.getElem_cons_zero, List.getElem_cons_succ]
  refine wpAnyH_take (i := 8) (v := ?_) (by rfl) (by kernel_rfl) (by kernel_rfl) (by kernel_rfl) (by exact fun _ _ _ h => h) (Or.inl ⟨by rfl, ?_⟩) hHeld ?_
  rotate_left 1
  · intro w' hSw
    (try dsimp only at hSw)
    go_simp
    try with_reducible rfl
  try simp only [Act.put, List.setIfInBounds_toArray, List.set_cons_zero, List.set_cons_succ, List.getElem_toArray, List.getElem_cons_zero, List.getElem_cons_succ]
  refine wpAnyH_take (i := 9) (v := .agg #[.bool d0.s, .slice d0.z1 d0.m1 d0.k1, .slice d0.z2 d0.m2 d0.k2]) (by rfl) (by kernel_rfl) (by kernel_rfl) (by kernel_rfl) (by exact fun _ _ _ h => h) (Or.inl ⟨by rfl, ?_⟩) hHeld ?_
  · intro w' hSw
    exact run_load_op 27 (.tmp 18) rfl E.G (k0 * 4 + 1) rfl d0.rat _ hSw.2.2 Tryz.underlying27 rfl (by rw [size_ratio]; rfl)
  try simp only [Act.put, List.setIfInBounds_toArray, List.set_cons_zero, List.set_cons_succ, List.getElem_toArray, List.getElem_cons_zero, List.getElem_cons_succ]
  refine wpAnyH_ready (rs := [10]) (by kernel_rfl) (by simp) ?_
  refine AllReadyH.cons (by rfl) (fun K hK => ?_) AllReadyH.nil
  refine Rg.step_alloc_agg rfl 27 rfl zRat zero_rat ?_
  have hal := (Below.refl W2.drew.heap.size W2.drew).alloc (Nat.le_refl _) (.cells zRat 27)
  refine hK.out _ _ ?_ (fun hHeld => ?_)
  · exact ⟨cell_kept HX1.out.1 hal, cell_kept HX1.out.2.1 hal, fun j u hu => cell_kept (HX1.out.2.2 j u hu) hal⟩
  clear hK K
  try simp only [Act.put, List.setIfInBounds_toArray, List.set_cons_zero, List.set_cons_succ, List.getElem_toArray, List.getElem_cons_zero, List.getElem_cons_succ]
  refine wpAnyH_ready (rs := [11]) (by kernel_rfl) (by simp) ?_
  refine AllReadyH.cons (by rfl) (fun K hK => ?_) AllReadyH.nil
  refine Rg.step_store_new rfl 27 (.tmp 7) (.tmp 19) rfl W2.drew zRat d0.rat.toArray rfl rfl rfl (by rw [size_ratio]; rfl) rfl (one_rat d0) ?_
  have hal2 := (Below.refl W2.drew.heap.size W2.drew).alloc (Nat.le_refl _) (.cells d0.rat.toArray 27)
  refine hK.out _ _ ?_ (fun hHeld => ?_)
  · exact ⟨cell_kept HX1.out.1 hal2, cell_kept HX1.out.2.1 hal2, fun j u hu => cell_kept (HX1.out.2.2 j u hu) hal2⟩
  clear hK K
  try simp only [Act.put, List.setIfInBounds_toArray, List.set_cons_zero, List.set_cons_succ, List.getElem_toArray, List.getElem_cons_zero, List.getElem_cons_succ]
  refine wpAnyH_done (by kernel_rfl) ?_ _
  clear hHeld
  have hbX : Below W.heap.size W (W2.drew.alloc (.cells d0.rat.toArray 27)) := H0.out.2.2.2.2.2.2.2.1.drew.trans (hal2.mono H0.out.2.2.2.2.2.2.2.1.size)
  have hqX : QB (W2.drew.alloc (.cells d0.rat.toArray 27)) W2.drew.heap.size d0.rat := heap_alloc_new W2.drew _
  have hvX : VB (W2.drew.alloc (.cells d0.rat.toArray 27)) W.heap.size zRV.cells := (hal2.block _ (by have := HSZ.out.1; show W.heap.size < W2.heap.size; omega)).trans H0.out.2.2.2.2.2.2.2.2.1
  have hv0 : VQ a d0.raw (W2.drew.alloc (.cells d0.rat.toArray 27)) := (VQ.kept10 (W := W2.drew) (H0.out.2.2.2.2.2.2.2.2.2.1.kept10 (below_drew W2)) hal2)
  obtain ⟨X, hX⟩ : ∃ X, W2.drew.heap.size = X := ⟨_, rfl⟩
  have hXe : X = W.heap.size + 1 := by rw [← hX]; exact HSZ.out.1
  rw [hX] at hqX ⊢
  have HST : Hid (∃ d : RV, QB (W2.drew.alloc (.cells d0.rat.toArray 27)) X d.rat ∧ VQ (Ev.fold F vs a ((kids.drop 1).take 0)) d.raw (W2.drew.alloc (.cells d0.rat.toArray 27)) ∧ RoomM E.b E.m W (W2.drew.alloc (.cells d0.rat.toArray 27)) ∧ VB (W2.drew.alloc (.cells d0.rat.toArray 27)) W.heap.size zRV.cells) := Lib.hid ⟨d0, hqX, hv0, RoomM.of_below hbX H0.out.1.bench H0.out.1.tab, hvX⟩
  have HXE := Lib.hid hXe
  clear hbX hqX hvX hv0 hal hal2 hX hXe HX1
  generalize W2.drew.alloc (.cells d0.rat.toArray 27) = W4 at *
  go_wp2_with fail
  go_loopw [23] (fun (iv : Value) (wr : World) => ∃ k : Nat, k ≤ n - 1 ∧ iv = .int .i64 (k : Int) ∧ Hid (∃ d : RV, QB wr X d.rat ∧ VQ (Ev.fold F vs a ((kids.drop 1).take k)) d.raw wr ∧ RoomM E.b E.m W wr ∧ VB wr W.heap.size zRV.cells)) (fun iv _ => n - (intOf iv).toNat)
  case atStart => exact ⟨0, Nat.zero_le _, rfl, HST⟩
  case round =>
    obtain ⟨k, hkn, rfl, HE⟩ := hrel
    obtain ⟨d, hqb, hvq, hroom, hvb⟩ := HE.out
    clear HST
    by_cases hlt : k < n - 1
    · have hh := H0.out
      have hget : kids[k + 1]? = some (kids.getD (k + 1) 0) := by rw [List.getD_eq_getElem?_getD, List.getElem?_eq_getElem (by rw [hh.2.2.2.2.2.2.2.2.2.2.1]; omega)]; rfl
      have hgd : (kids.drop 1)[k]? = some (kids.getD (k + 1) 0) := by rw [List.getElem?_drop, Nat.add_comm]; exact hget
      have hr := hh.2.2.2.1 _ (List.mem_of_getElem? hget)
      obtain ⟨g1, o1, hg1, hc1⟩ := (hh.2.1.room hroom hh.2.2.1).get hget
      simp only [Option.some.injEq, Addr.mk.injEq] at hg1
      obtain ⟨rfl, rfl, _⟩ := hg1
      have hrk := hh.1.room hroom
      generalize kids.getD (k + 1) 0 = x at *
      obtain ⟨k2, d2, rfl, hkl2, hd2, hok2, hrg2⟩ := hrk.get hr
      have hsz := hh.2.2.2.2.1 _ (vat_mem hkl2)
      have hnext : Ev.fold F vs a ((kids.drop 1).take (k + 1)) = F (Ev.fold F vs a ((kids.drop 1).take k)) (vat vs (k2 : Int)).2 := by rw [take_next hgd, fold_app]; rfl
      have hsm := hh.2.2.2.2.2.2.1
      obtain ⟨c0, _, _, _, c4, _⟩ := hrk.cells
      have hdr := below_drew wr
      have HCALL := Lib.hid (hh.2.2.2.2.2.1.call wr.drew d d2 _ _ (hrk.kept hdr).bench (hrk.kept hdr).tab (hvq.kept10 hdr) (hok2.q.kept10 hdr) (hsm k).1 hsz (by rw [← hnext]; exact (hsm (k + 1)).1) (by rw [← hnext]; exact (hsm (k + 1)).2 (by omega)))
      rw [← hnext] at HCALL
      have hk21 : (k2 : Int) < (nv : Int) := by have := hh.2.2.2.2.2.2.2.2.2.2.2; omega
      have hc4' : wr.cell? ⟨E.R, 4, none⟩ = some (.slice (some ⟨E.G, 0, none⟩) nv E.cap) := by rw [← hh.2.2.2.2.2.2.2.2.2.2.2]; exact c4
      have HX : Hid (wr.drew.cell? ⟨E.R, 0, none⟩ = some (.pointer (some ⟨E.b, 0, none⟩)) ∧ wr.drew.cell? ⟨E.R, 4, none⟩ = some (.slice (some ⟨E.G, 0, none⟩) nv E.cap) ∧ wr.drew.rangeAt E.G (k2 * 4 + 1) d2.rat) := Lib.hid ⟨c0, hc4', rat_of_cells hrg2⟩
      have HXR : Hid (wr.drew.rangeAt X 0 d.rat) := Lib.hid (range_of_block hqb)
      have HRD := Lib.hid (hroom.kept hdr)
      have HQD : Hid (QB wr.drew X d.rat ∧ VB wr.drew W.heap.size zRV.cells) := Lib.hid ⟨hqb, hvb⟩
      have hki : (k : Int) < ((n - 1 : Nat) : Int) := by omega
      have hiw : wrap64 ((k : Int) + 1) = (k : Int) + 1 := IntWalk.wrap64_in _ (by omega)
      have hc1' : wr.cell? ⟨g, off + 1 + k, none⟩ = some (.int .i64 (k2 : Int)) := by rw [show off + 1 + k = off + (k + 1) by omega]; exact hc1
      clear hh hget hgd hr hc1 hrk hkl2 hd2 hok2 hrg2 hsz hnext hsm c0 c4 hc4' hdr hqb hvq hroom hvb HE
      go_wp2_with fail
      refine wp_region_held_drew (S := (fun w' => w'.cell? ⟨E.R, 0, none⟩ = some (.pointer (some ⟨E.b, 0, none⟩)) ∧ w'.cell? ⟨E.R, 4, none⟩ = some (.slice (some ⟨E.G, 0, none⟩) nv E.cap) ∧ w'.rangeAt E.G (k2 * 4 + 1) d2.rat)) (by kernel_rfl) ?_ (fun hHeld => ?_)
      · exact HX.out
      refine wpAnyH_take (i := 0) (v := ?_) (by rfl) (by kernel_rfl) (by kernel_rfl) (by kernel_rfl) (by exact fun _ _ _ h => h) (Or.inl ⟨by rfl, ?_⟩) hHeld ?_
      rotate_left 1
      · intro w' hSw
        (try dsimp only at hSw)
        go_simp
        try with_reducible rfl
      try simp only [Act.put, List.setIfInBounds_toArray, List.set_cons_zero, List.set_cons_succ, List.getElem_toArray, List.getElem_cons_zero, List.getElem_cons_succ]
      refine wpAnyH_take (i := 1) (v := ?_) (by rfl) (by kernel_rfl) (by kernel_rfl) (by kernel_rfl) (by exact fun _ _ _ h => h) (Or.inl ⟨by rfl, ?_⟩) hHeld ?_
      rotate_left 1
      · intro w' hSw
        (try dsimp only at hSw)
        go_simp
        try with_reducible rfl
      try simp only [Act.put, List.setIfInBounds_toArray, List.set_cons_zero, List.set_cons_succ, List.getElem_toArray, List.getElem_cons_zero, List.getElem_cons_succ]
      refine wpAnyH_take (i := 2) (v := ?_) (by rfl) (by kernel_rfl) (by kernel_rfl) (by kernel_rfl) (by exact fun _ _ _ h => h) (Or.inl ⟨by rfl, ?_⟩) hHeld ?_
      rotate_left 1
      · intro w' hSw
        (try dsimp only at hSw)
        go_simp
        try with_reducible rfl
      try simp only [Act.put, List.setIfInBounds_toArray, List.set_cons_zero, List.set_cons_succ, List.getElem_toArray, List.getElem_cons_zero, List.getElem_cons_succ]
      refine wpAnyH_take (i := 3) (v := ?_) (by rfl) (by kernel_rfl) (by kernel_rfl) (by kernel_rfl) (by exact fun _ _ _ h => h) (Or.inl ⟨by rfl, ?_⟩) hHeld ?_
      rotate_left 1
      · intro w' hSw
        (try dsimp only at hSw)
        go_simp
        try with_reducible rfl
      try simp only [Act.put, List.setIfInBounds_toArray, List.set_cons_zero, List.set_cons_succ, List.getElem_toArray, List.getElem_cons_zero, List.getElem_cons_succ]
      refine wpAnyH_take (i := 4) (v := .pointer (some ⟨E.b, 0, none⟩)) (by rfl) (by kernel_rfl) (by kernel_rfl) (by kernel_rfl) (by exact fun _ _ _ h => h) (Or.inl ⟨by rfl, ?_⟩) hHeld ?_
      · intro w' hSw
        obtain ⟨s1, s2, s3⟩ := hSw
        go_simp
      try simp only [Act.put, List.setIfInBounds_toArray, List.set_cons_zero, List.set_cons_succ, List.getElem_toArray, List.getElem_cons_zero, List.getElem_cons_succ]
      refine wpAnyH_take (i := 6) (v := ?_) (by rfl) (by kernel_rfl) (by kernel_rfl) (by kernel_rfl) (by exact fun _ _ _ h => h) (Or.inl ⟨by rfl, ?_⟩) hHeld ?_
      rotate_left 1
      · intro w' hSw
        (try dsimp only at hSw)
        go_simp
        try with_reducible rfl
      try simp only [Act.put, List.setIfInBounds_toArray, List.set_cons_zero, List.set_cons_succ, List.getElem_toArray, List.getElem_cons_zero, List.getElem_cons_succ]
      refine wpAnyH_take (i := 7) (v := ?_) (by rfl) (by kernel_rfl) (by kernel_rfl) (by kernel_rfl) (by exact fun _ _ _ h => h) (Or.inl ⟨by rfl, ?_⟩) hHeld ?_
      rotate_left 1
      · intro w' hSw
        (try dsimp only at hSw)
        go_simp
        try with_reducible rfl
      try simp only [Act.put, List.setIfInBounds_toArray, List.set_cons_zero, List.set_cons_succ, List.getElem_toArray, List.getElem_cons_zero, List.getElem_cons_succ]
      refine wpAnyH_take (i := 8) (v := ?_) (by rfl) (by kernel_rfl) (by kernel_rfl) (by kernel_rfl) (by exact fun _ _ _ h => h) (Or.inl ⟨by rfl, ?_⟩) hHeld ?_
      rotate_left 1
      · intro w' hSw
        (try dsimp only at hSw)
        go_simp
        try with_reducible rfl
      try simp only [Act.put, List.setIfInBounds_toArray, List.set_cons_zero, List.set_cons_succ, List.getElem_toArray, List.getElem_cons_zero, List.getElem_cons_succ]
      refine wpAnyH_take (i := 9) (v := .slice (some ⟨E.G, 0, none⟩) nv E.cap) (by rfl) (by kernel_rfl) (by kernel_rfl) (by kernel_rfl) (by exact fun _ _ _ h => h) (Or.inl ⟨by rfl, ?_⟩) hHeld ?_
      · intro w' hSw
        obtain ⟨s1, s2, s3⟩ := hSw
        go_simp
      try simp only [Act.put, List.setIfInBounds_toArray, List.set_cons_zero, List.set_cons_succ, List.getElem_toArray, List.getElem_cons_zero, List.getElem_cons_succ]
      refine wpAnyH_take (i := 10) (v := ?_) (by rfl) (by kernel_rfl) (by kernel_rfl) (by kernel_rfl) (by exact fun _ _ _ h => h) (Or.inl ⟨by rfl, ?_⟩) hHeld ?_
      rotate_left 1
      · intro w' hSw
        (try dsimp only at hSw)
        go_simp
        try with_reducible rfl
      try simp only [Act.put, List.setIfInBounds_toArray, List.set_cons_zero, List.set_cons_succ, List.getElem_toArray, List.getElem_cons_zero, List.getElem_cons_succ]
      refine wpAnyH_take (i := 11) (v := ?_) (by rfl) (by kernel_rfl) (by kernel_rfl) (by kernel_rfl) (by exact fun _ _ _ h => h) (Or.inl ⟨by rfl, ?_⟩) hHeld ?_
      rotate_left 1
      · intro w' hSw
        (try dsimp only at hSw)
        go_simp
        try with_reducible rfl
      try simp only [Act.put, List.setIfInBounds_toArray, List.set_cons_zero, List.set_cons_succ, List.getElem_toArray, List.getElem_cons_zero, List.getElem_cons_succ]
      refine wpAnyH_take (i := 12) (v := ?_) (by rfl) (by kernel_rfl) (by kernel_rfl) (by kernel_rfl) (by exact fun _ _ _ h => h) (Or.inl ⟨by rfl, ?_⟩) hHeld ?_
      rotate_left 1
      · intro w' hSw
        (try dsimp only at hSw)
        go_simp
        try with_reducible rfl
      try simp only [Act.put, List.setIfInBounds_toArray, List.set_cons_zero, List.set_cons_succ, List.getElem_toArray, List.getElem_cons_zero, List.getElem_cons_succ]
      refine wpAnyH_take (i := 13) (v := .agg #[.bool d2.s, .slice d2.z1 d2.m1 d2.k1, .slice d2.z2 d2.m2 d2.k2]) (by rfl) (by kernel_rfl) (by kernel_rfl) (by kernel_rfl) (by exact fun _ _ _ h => h) (Or.inl ⟨by rfl, ?_⟩) hHeld ?_
      · intro w' hSw
        exact run_load_op 27 (.tmp 39) rfl E.G (k2 * 4 + 1) rfl d2.rat _ hSw.2.2 Tryz.underlying27 rfl (by rw [size_ratio]; rfl)
      try simp only [Act.put, List.setIfInBounds_toArray, List.set_cons_zero, List.set_cons_succ, List.getElem_toArray, List.getElem_cons_zero, List.getElem_cons_succ]
      refine wpAnyH_ready (rs := [5]) (by kernel_rfl) (by simp) ?_
      refine AllReadyH.cons (by rfl) (fun K hK => ?_) AllReadyH.nil
      refine step_val (.agg #[.bool d.s, .slice d.z1 d.m1 d.k1, .slice d.z2 d.m2 d.k2]) (run_load_op 27 (.tmp 7) rfl X 0 rfl d.rat _ HXR.out Tryz.underlying27 rfl (by rw [size_ratio]; rfl)) rfl ?_
      refine hK.out _ _ ?_ (fun hHeld => ?_)
      · exact hHeld
      clear hK K
      try simp only [Act.put, List.setIfInBounds_toArray, List.set_cons_zero, List.set_cons_succ, List.getElem_toArray, List.getElem_cons_zero, List.getElem_cons_succ]
      refine wpAnyH_ready (rs := [14]) (by kernel_rfl) (by simp) ?_
      refine AllReadyH.cons (by rfl) (fun K hK => ?_) AllReadyH.nil
      go_simp
      refine HCALL.out.mono ?_
      rintro e w5 ⟨d5, hd5, rfl, R5, Q5⟩
      have hrm := HSZ.out.2.2.2.2
      have hXb : X ≠ E.b := by have := HXE.out; have := HSZ.out.2.1; omega
      have hqb5 := block_room HQD.out.1 R5.out hXb
      have hvb5 := block_room HQD.out.2 R5.out (by have := HSZ.out.2.1; omega)
      have hth5 : w5.there X 0 3 := there_of_block hqb5 (by simp [RV.rat])
      have HS5 : Hid (w5.cell? ⟨E.R, 0, none⟩ = some (.pointer (some ⟨E.b, 0, none⟩)) ∧ w5.cell? ⟨E.R, 4, none⟩ = some (.slice (some ⟨E.G, 0, none⟩) nv E.cap) ∧ w5.rangeAt E.G (k2 * 4 + 1) d2.rat) := Lib.hid ⟨cell_room HX.out.1 R5.out hrm.1, cell_room HX.out.2.1 R5.out hrm.1, range_room HX.out.2.2 R5.out.g hrm.2⟩
      refine hK.out _ _ ?_ (fun hHeld => ?_)
      · exact HS5.out
      clear hK K
      try simp only [Act.put, List.setIfInBounds_toArray, List.set_cons_zero, List.set_cons_succ, List.getElem_toArray, List.getElem_cons_zero, List.getElem_cons_succ]
      refine wpAnyH_ready (rs := [15]) (by kernel_rfl) (by simp) ?_
      refine AllReadyH.cons (by rfl) (fun K hK => ?_) AllReadyH.nil
      refine Rg.step_store_any rfl 27 (.tmp 7) (.tmp 41) rfl X 0 d5.rat.toArray rfl rfl hth5 (by rw [size_ratio]; rfl) (one_rat d5) ?_
      have hch : Chg (fun j => j = X) w5 (w5.setCells X 0 d5.rat) := chg_setCells (S := fun j => j = X) rfl _ _ _
      have hRX : E.R ≠ X := by have := HXE.out; have := HSZ.out.2.2.1; omega
      have hGX : E.G ≠ X := by have := HXE.out; have := HSZ.out.2.2.2.1; omega
      refine hK.out _ _ ?_ (fun hHeld => ?_)
      · exact ⟨cell_chg HS5.out.1 hch hRX, cell_chg HS5.out.2.1 hch hRX, range_chg HS5.out.2.2 hch hGX⟩
      clear hK K
      try simp only [Act.put, List.setIfInBounds_toArray, List.set_cons_zero, List.set_cons_succ, List.getElem_toArray, List.getElem_cons_zero, List.getElem_cons_succ]
      refine wpAnyH_done (by kernel_rfl) ?_ _
      have hni := noInt_of hqb5 (good_rat d)
      have HNX : Hid (∃ d : RV, QB (w5.setCells X 0 d5.rat) X d.rat ∧ VQ (Ev.fold F vs a ((kids.drop 1).take (k + 1))) d.raw (w5.setCells X 0 d5.rat) ∧ RoomM E.b E.m W (w5.setCells X 0 d5.rat) ∧ VB (w5.setCells X 0 d5.rat) W.heap.size zRV.cells) := Lib.hid ⟨d5, QB.put hqb5 d5, Q5.out.pastE hni (grown_of_chg hch), (HRD.out.trans R5.out).chg hch (by have := HXE.out; omega) hXb hni, (hch.block _ (Array.getElem?_eq_some_iff.1 hvb5).1 (by have := HXE.out; omega)).trans hvb5⟩
      clear hHeld hqb5 hvb5 hth5 hch hRX hGX hni Q5 R5 hrm hXb HS5
      try simp only [Array.toList_toArray]
      go_wp2_with fail
      go_roundw
      case rel => exact ⟨k + 1, by omega, by go_num, HNX⟩
      case measure => simp [intOf]; omega
    · obtain rfl : k = n - 1 := by omega
      have hres : Ev.fold F vs a ((kids.drop 1).take (n - 1)) = res := by
        rw [List.take_of_length_le (by rw [List.length_drop, H0.out.2.2.2.2.2.2.2.2.2.2.1]; exact Nat.le_refl _)]
        exact HRES.out
      rw [hres] at hvq
      obtain ⟨d9, hd9, e9⟩ : ∃ d9 : RV, d9.t = false ∧ d9.cells = .bool false :: d.rat := ⟨⟨false, d.s, d.z1, d.m1, d.k1, d.z2, d.m2, d.k2⟩, rfl, rfl⟩
      have hrX := range_of_block hqb
      have hth := there_of_block hvb (o := 0) (n := 4) (by simp [RV.cells])
      have hv9 : VB (wr.setCells W.heap.size 0 (RV.cells ⟨false, d.s, d.z1, d.m1, d.k1, d.z2, d.m2, d.k2⟩)) W.heap.size _ := hvb.put rfl ⟨false, d.s, d.z1, d.m1, d.k1, d.z2, d.m2, d.k2⟩
      have hrg9 := range_of_block hv9
      have hfin : GotF E.b E.m W (false, res) (.returned (.agg #[.bool false, .bool d.s, .slice d.z1 d.m1 d.k1, .slice d.z2 d.m2 d.k2])) (wr.setCells W.heap.size 0 (RV.cells ⟨false, d.s, d.z1, d.m1, d.k1, d.z2, d.m2, d.k2⟩)) := by
        have hni := noInt_of hvb (good_cells zRV)
        have hch : Chg (fun j => j = W.heap.size) wr (wr.setCells W.heap.size 0 (RV.cells ⟨false, d.s, d.z1, d.m1, d.k1, d.z2, d.m2, d.k2⟩)) := chg_setCells (S := fun j => j = W.heap.size) rfl _ _ _
        exact ⟨⟨false, d.s, d.z1, d.m1, d.k1, d.z2, d.m2, d.k2⟩, rfl, Lib.hid (hroom.chg hch (Nat.le_refl _) (by have := HSZ.out.2.1; omega) hni), Lib.hid ⟨rfl, hvq.pastE hni (grown_of_chg hch)⟩⟩
      have HFIN := Lib.hid hfin
      clear hfin hv9 hd9 e9 hvb hqb hvq hroom hres HE
      go_wp2_with (first
        | (refine wpList_val (.agg #[.bool d.s, .slice d.z1 d.m1 d.k1, .slice d.z2 d.m2 d.k2]) (run_load_op 27 (.tmp 7) (by with_reducible rfl) X 0 (by rfl) d.rat _ hrX Tryz.underlying27 rfl (by rw [size_ratio]; rfl)) (by rfl) ?_)
        | (refine wpList_store_mid rfl 52 (.tmp 6) (.tmp 44) rfl W.heap.size 0 (RV.cells ⟨false, d.s, d.z1, d.m1, d.k1, d.z2, d.m2, d.k2⟩).toArray rfl rfl hth (by rw [size_value]; rfl) (one_cells _) ?_))
      refine bodyPost_ret (v := .agg #[.bool false, .bool d.s, .slice d.z1 d.m1 d.k1, .slice d.z2 d.m2 d.k2]) ?_ rfl HFIN.out
      have := run_loadVar_mid (P := Tryz.prog) _ W.heap.size 0 52 _ _ hrg9 Tryz.underlying52 rfl (by rw [size_value]; rfl)
      simpa [results, Tryz.results41, asAddr, Act.put, RV.cells] using this
end
end Go.Proofs.YthnklohpmcebkaaGreatDoor
