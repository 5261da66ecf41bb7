/- By program out of: EvTruth. -/
import Derived.Test.YthnklohpmcebkaaGreatDoorMaaboeb
set_option linter.unusedVariables false
set_option linter.unusedSimpArgs false
namespace Go.Proofs.YthnklohpmcebkaaGreatDoor
open Go.RowKit Tm Rep Ev
theorem zero_ord (w : World) : (zeroValue 131).run Tryz.prog w = .ok .nilFunc w := by go_simp
theorem two_of {l : List Int} (h : l.length = 2) : ∃ x y, l = [x, y] := by
  match l, h with
  | [x, y], _ => exact ⟨x, y, rfl⟩
section
variable {W : World} {E : Env} {vs : List Vl} {rs : List RV} {ka : Option Addr} {kids : List Int} {kc : Nat}
set_option maxRecDepth 100000 in
set_option maxHeartbeats 8000000 in
theorem distinct_any (h : RkAt W E vs rs) (hk : KAt W ka kids kc) (h2 : kids.length = 2) (hin : ∀ x ∈ kids, 0 ≤ x ∧ x < (vs.length : Int)) (hs : ∀ v ∈ vs, szQ v.2 ≤ 100) :
    Calls Tryz.prog 84 #[.pointer (some ⟨E.R, 0, none⟩), .slice ka kids.length kc] W (GivesV (.bool (inOrder (ordB 14) vs (sort2 vs (kid kids 0) (kid kids 1)))) W) := by
  obtain ⟨x, y, rfl⟩ := two_of h2
  have hx := hin x (by simp)
  have hy := hin y (by simp)
  obtain ⟨W2, hW2⟩ : ∃ W2, W2 = W.alloc (.cells #[.pointer (some ⟨E.R, 0, none⟩)] 73) := ⟨_, rfl⟩
  have hb2 : Below W.heap.size W W2 := by rw [hW2]; exact (Below.refl _ _).alloc (Nat.le_refl _) _
  have hbox : W2.cell? ⟨W.heap.size, 0, none⟩ = some (.pointer (some ⟨E.R, 0, none⟩)) := by rw [hW2]; simp
  have HCL := Lib.hid (clone_ints (hk.kept hb2) (by simp))
  rw [show kid [x, y] 0 = x from rfl, show kid [x, y] 1 = y from rfl]
  obtain ⟨res, hres⟩ : ∃ res, inOrder (ordB 14) vs (sort2 vs x y) = res := ⟨_, rfl⟩
  rw [hres]
  have H0 := Lib.hid (And.intro h (And.intro hb2 (And.intro hbox (And.intro hs (And.intro hx hy)))))
  clear h hk h2 hin hs hx hy hb2 hbox
  go_enter Tryz.func84, Tryz.ntmps84
  go_wp2_with fail
  rw [← hW2]
  clear hW2
  refine HCL.out.mono ?_
  rintro e w1 ⟨g, c', cur, rfl, hg, hcur, htk, hc2, hc63, hb1⟩
  have h2w : Two w1 g x y := by
    refine ⟨cur, hcur, ?_, ?_⟩
    · have : (cur.toList.take 2)[0]? = (i64s [x, y])[0]? := by rw [← htk]; rfl
      simpa [i64s, List.getElem?_take] using this
    · have : (cur.toList.take 2)[1]? = (i64s [x, y])[1]? := by rw [← htk]; rfl
      simpa [i64s, List.getElem?_take] using this
  have hbw1 := H0.out.2.1.trans (hb1.mono H0.out.2.1.size)
  have HSF := Lib.hid (sortFunc2 (c := c') (B2 := W.heap.size) (f := 102) (r := cmpV (vat vs y) (vat vs x)) (fun args w => by go_simp) h2w (fun W' hW' => dist1_any ((H0.out.1.kept hbw1).kept hW') (cell_kept (cell_kept H0.out.2.2.1 hb1) hW') H0.out.2.2.2.1 H0.out.2.2.2.2.2 H0.out.2.2.2.2.1))
  have H1 := Lib.hid (And.intro hbw1 (And.intro hg (And.intro hc2 (And.intro hc63 hb1))))
  have hlen : ([x, y] : List Int).length = 2 := rfl
  rw [hlen]
  clear h2w hbw1 hg hcur htk hc2 hc63 hb1 HCL hlen
  go_wp2_with fail
  refine HSF.out.mono ?_
  rintro e w3 ⟨rfl, h3, hch⟩
  have hb3 : Below W.heap.size W w3 := H1.out.1.trans (hch.below (fun k hk => by rw [hk]; have := H1.out.2.1; have := H0.out.2.1.size; omega) H1.out.1.size)
  have hbx3 : w3.cell? ⟨W.heap.size, 0, none⟩ = some (.pointer (some ⟨E.R, 0, none⟩)) := by
    have h1 := cell_kept H0.out.2.2.1 H1.out.2.2.2.2
    have hl := World.block_lt_of_cell? _ _ h1
    have hl2 := World.block_lt_of_cell? _ _ H0.out.2.2.1
    have hne : W.heap.size ≠ g := by have := H1.out.2.1; simp only at hl2; omega
    exact (World.cell?_of_block (a := ⟨W.heap.size, 0, none⟩) (hch.block W.heap.size hl hne)).trans h1
  have hrk := H0.out.1.kept hb3
  obtain ⟨_, _, _, c3, _, _⟩ := hrk.cells
  have hkat : KAt w3 (some ⟨g, 0, none⟩) (sort2 vs x y) c' := by
    unfold TwoIn at h3
    unfold sort2
    split
    · rename_i hlt
      rw [if_pos hlt] at h3
      exact two_kat h3 H1.out.2.2.1 H1.out.2.2.2.1
    · rename_i hlt
      rw [if_neg hlt] at h3
      exact two_kat h3 H1.out.2.2.1 H1.out.2.2.2.1
  have hl2 : (sort2 vs x y).length = 2 := by unfold sort2; split <;> rfl
  have hin2 : ∀ z ∈ sort2 vs x y, 0 ≤ z ∧ z < (vs.length : Int) := by
    have hx := H0.out.2.2.2.2.1
    have hy := H0.out.2.2.2.2.2
    intro z hz
    unfold sort2 at hz
    split at hz <;> simp at hz <;> rcases hz with rfl | rfl <;> assumption
  have HIO : Hid (∀ W', Below w3.heap.size w3 W' → Calls Tryz.prog 85 #[.pointer (some ⟨E.R, 0, none⟩), .slice (some ⟨g, 0, none⟩) 2 c', .func (.func 65) #[] #[]] W' (GivesV (.bool res) W')) := Lib.hid fun W' hW' => by
    have := inOrderA (hrk.kept hW') (hkat.kept hW') (by omega) hin2 H0.out.2.2.2.1 (less_ord W')
    rw [hl2, hres] at this
    exact this
  have HX : Hid (w3.drew.cell? ⟨W.heap.size, 0, none⟩ = some (.pointer (some ⟨E.R, 0, none⟩)) ∧ w3.drew.cell? ⟨E.R, 3, none⟩ = some (.map (some E.mo)) ∧ IM w3.drew E.mo (ordL E.L)) := Lib.hid ⟨hbx3, c3, hrk.ords.map⟩
  have HBD := Lib.hid hb3.drew
  clear hrk hkat hin2 hl2 hbx3 hch h3 c3 hb3 HSF
  go_wp2_with fail
  refine wp_region_held_drew (S := (fun w' => w'.cell? ⟨W.heap.size, 0, none⟩ = some (.pointer (some ⟨E.R, 0, none⟩)) ∧ w'.cell? ⟨E.R, 3, none⟩ = some (.map (some E.mo)) ∧ IM w' E.mo (ordL E.L))) (by kernel_rfl) ?_ (fun hHeld => ?_)
  · exact HX.out
  refine wpAnyH_take (i := 0) (v := .pointer (some ⟨E.R, 0, none⟩)) (by rfl) (by kernel_rfl) (by kernel_rfl) (by kernel_rfl) (by exact fun _ _ _ h => h) (Or.inl ⟨by rfl, ?_⟩) hHeld ?_
  · intro w' hSw
    obtain ⟨s1, s2, s3⟩ := hSw
    go_simp
  try simp only [Act.put, List.setIfInBounds_toArray, List.set_cons_zero, List.set_cons_succ, List.getElem_toArray, List.getElem_cons_zero, List.getElem_cons_succ]
  refine wpAnyH_take (i := 1) (v := ?_) (by rfl) (by kernel_rfl) (by kernel_rfl) (by kernel_rfl) (by exact fun _ _ _ h => h) (Or.inl ⟨by rfl, ?_⟩) hHeld ?_
  rotate_left 1
  · intro w' hSw
    (try dsimp only at hSw)
    go_simp
    try with_reducible rfl
  try simp only [Act.put, List.setIfInBounds_toArray, List.set_cons_zero, List.set_cons_succ, List.getElem_toArray, List.getElem_cons_zero, List.getElem_cons_succ]
  refine wpAnyH_take (i := 2) (v := .pointer (some ⟨E.R, 0, none⟩)) (by rfl) (by kernel_rfl) (by kernel_rfl) (by kernel_rfl) (by exact fun _ _ _ h => h) (Or.inl ⟨by rfl, ?_⟩) hHeld ?_
  · intro w' hSw
    obtain ⟨s1, s2, s3⟩ := hSw
    go_simp
  try simp only [Act.put, List.setIfInBounds_toArray, List.set_cons_zero, List.set_cons_succ, List.getElem_toArray, List.getElem_cons_zero, List.getElem_cons_succ]
  refine wpAnyH_take (i := 3) (v := ?_) (by rfl) (by kernel_rfl) (by kernel_rfl) (by kernel_rfl) (by exact fun _ _ _ h => h) (Or.inl ⟨by rfl, ?_⟩) hHeld ?_
  rotate_left 1
  · intro w' hSw
    (try dsimp only at hSw)
    go_simp
    try with_reducible rfl
  try simp only [Act.put, List.setIfInBounds_toArray, List.set_cons_zero, List.set_cons_succ, List.getElem_toArray, List.getElem_cons_zero, List.getElem_cons_succ]
  refine wpAnyH_take (i := 4) (v := ?_) (by rfl) (by kernel_rfl) (by kernel_rfl) (by kernel_rfl) (by exact fun _ _ _ h => h) (Or.inl ⟨by rfl, ?_⟩) hHeld ?_
  rotate_left 1
  · intro w' hSw
    (try dsimp only at hSw)
    go_simp
    try with_reducible rfl
  try simp only [Act.put, List.setIfInBounds_toArray, List.set_cons_zero, List.set_cons_succ, List.getElem_toArray, List.getElem_cons_zero, List.getElem_cons_succ]
  refine wpAnyH_take (i := 5) (v := .map (some E.mo)) (by rfl) (by kernel_rfl) (by kernel_rfl) (by kernel_rfl) (by exact fun _ _ _ h => h) (Or.inl ⟨by rfl, ?_⟩) hHeld ?_
  · intro w' hSw
    obtain ⟨s1, s2, s3⟩ := hSw
    go_simp
  try simp only [Act.put, List.setIfInBounds_toArray, List.set_cons_zero, List.set_cons_succ, List.getElem_toArray, List.getElem_cons_zero, List.getElem_cons_succ]
  refine wpAnyH_take (i := 6) (v := (.func (.func 65) #[] #[])) (by rfl) (by kernel_rfl) (by kernel_rfl) (by kernel_rfl) (by exact fun _ _ _ h => h) (Or.inl ⟨by rfl, ?_⟩) hHeld ?_
  · intro w' hSw
    exact run_look_op (.tmp 16) (.const (.int .i64 14)) rfl Tryz.underlying75 Tryz.underlying3 .nilFunc (zero_ord _) E.mo rfl 14 rfl _ hSw.2.2 (.func (.func 65) #[] #[]) rfl
  try simp only [Act.put, List.setIfInBounds_toArray, List.set_cons_zero, List.set_cons_succ, List.getElem_toArray, List.getElem_cons_zero, List.getElem_cons_succ]
  refine wpAnyH_ready (rs := [7]) (by kernel_rfl) (by simp) ?_
  refine AllReadyH.cons (by rfl) (fun K hK => ?_) AllReadyH.nil
  go_simp
  refine (HIO.out _ (Below.refl _ _).drew).mono ?_
  rintro e w5 ⟨rfl, hb5⟩
  have HB5 := Lib.hid (HBD.out.trans (hb5.mono HBD.out.size))
  refine hK.out _ _ ?_ (fun hHeld => ?_)
  · exact ⟨cell_kept HX.out.1 hb5, cell_kept HX.out.2.1 hb5, HX.out.2.2.past (hb5.block _ HX.out.2.2.lt)⟩
  clear hK K
  try simp only [Act.put, List.setIfInBounds_toArray, List.set_cons_zero, List.set_cons_succ, List.getElem_toArray, List.getElem_cons_zero, List.getElem_cons_succ]
  refine wpAnyH_take (i := 8) (v := ?_) (by rfl) (by kernel_rfl) (by kernel_rfl) (by kernel_rfl) (by exact fun _ _ _ h => h) (Or.inl ⟨by rfl, ?_⟩) hHeld ?_
  rotate_left 1
  · intro w' hSw
    (try dsimp only at hSw)
    go_simp
    try with_reducible rfl
  try simp only [Act.put, List.setIfInBounds_toArray, List.set_cons_zero, List.set_cons_succ, List.getElem_toArray, List.getElem_cons_zero, List.getElem_cons_succ]
  refine wpAnyH_done (by kernel_rfl) ?_ _
  clear hHeld hb5
  go_wp2_with fail
  go_ret
  exact GivesV.mk' rfl HB5.out
set_option maxRecDepth 100000 in
set_option maxHeartbeats 8000000 in
theorem truth_1 (h : RkAt W E vs rs) (hk : KAt W ka kids kc) (hin : ∀ x ∈ kids, 0 ≤ x ∧ x < (vs.length : Int)) (v : Int) (s : Bool) (a1 : Option Addr) (l1 c1 : Nat) (a2 : Option Addr) (l2 c2 : Nat) :
    Calls Tryz.prog 46 #[.pointer (some ⟨E.R, 0, none⟩), .agg #[.int .i64 1, .int .i64 v, .slice ka kids.length kc, .bool s, .slice a1 l1 c1, .slice a2 l2 c2]] W (GivesV (.bool (true)) W) := by
  obtain ⟨W2, hW2⟩ : ∃ W2, W2 = W.alloc (.cells #[.int .i64 1, .int .i64 v, .slice ka kids.length kc, .bool s, .slice a1 l1 c1, .slice a2 l2 c2] 33) := ⟨_, rfl⟩
  have hb2 : Below W.heap.size W W2 := by rw [hW2]; exact (Below.refl _ _).alloc (Nat.le_refl _) _
  have HB2 := Lib.hid hb2
  clear h hk hin hb2
  go_enter Tryz.func46, Tryz.ntmps46
  go_wp2_with fail
  rw [← hW2]
  go_ret
  exact GivesV.mk' rfl HB2.out
set_option maxRecDepth 100000 in
set_option maxHeartbeats 8000000 in
theorem truth_2 (h : RkAt W E vs rs) (hk : KAt W ka kids kc) (hin : ∀ x ∈ kids, 0 ≤ x ∧ x < (vs.length : Int)) (v : Int) (s : Bool) (a1 : Option Addr) (l1 c1 : Nat) (a2 : Option Addr) (l2 c2 : Nat) :
    Calls Tryz.prog 46 #[.pointer (some ⟨E.R, 0, none⟩), .agg #[.int .i64 2, .int .i64 v, .slice ka kids.length kc, .bool s, .slice a1 l1 c1, .slice a2 l2 c2]] W (GivesV (.bool (false)) W) := by
  obtain ⟨W2, hW2⟩ : ∃ W2, W2 = W.alloc (.cells #[.int .i64 2, .int .i64 v, .slice ka kids.length kc, .bool s, .slice a1 l1 c1, .slice a2 l2 c2] 33) := ⟨_, rfl⟩
  have hb2 : Below W.heap.size W W2 := by rw [hW2]; exact (Below.refl _ _).alloc (Nat.le_refl _) _
  have HB2 := Lib.hid hb2
  clear h hk hin hb2
  go_enter Tryz.func46, Tryz.ntmps46
  go_wp2_with fail
  rw [← hW2]
  go_ret
  exact GivesV.mk' rfl HB2.out
set_option maxRecDepth 100000 in
set_option maxHeartbeats 8000000 in
theorem truth_7 (h : RkAt W E vs rs) (hk : KAt W ka kids kc) (hin : ∀ x ∈ kids, 0 ≤ x ∧ x < (vs.length : Int)) (v : Int) (s : Bool) (a1 : Option Addr) (l1 c1 : Nat) (a2 : Option Addr) (l2 c2 : Nat) :
    Calls Tryz.prog 46 #[.pointer (some ⟨E.R, 0, none⟩), .agg #[.int .i64 7, .int .i64 v, .slice ka kids.length kc, .bool s, .slice a1 l1 c1, .slice a2 l2 c2]] W (GivesV (.bool (kids.all (isT vs))) W) := by
  obtain ⟨W2, hW2⟩ : ∃ W2, W2 = W.alloc (.cells #[.int .i64 7, .int .i64 v, .slice ka kids.length kc, .bool s, .slice a1 l1 c1, .slice a2 l2 c2] 33) := ⟨_, rfl⟩
  have hb2 : Below W.heap.size W W2 := by rw [hW2]; exact (Below.refl _ _).alloc (Nat.le_refl _) _
  have HB2 := Lib.hid hb2
  have HC := Lib.hid (areTrue_any (h.kept hb2) (hk.kept hb2) hin)
  generalize kids.all (isT vs) = res at *
  clear h hk hin hb2
  go_enter Tryz.func46, Tryz.ntmps46
  go_wp2_with fail
  rw [← hW2]
  clear hW2
  refine HC.out.mono ?_
  rintro e w' ⟨rfl, hb⟩
  have HB := Lib.hid (HB2.out.trans (hb.mono HB2.out.size))
  clear hb
  go_wp2_with fail
  go_ret
  exact GivesV.mk' rfl HB.out
set_option maxRecDepth 100000 in
set_option maxHeartbeats 8000000 in
theorem truth_8 (h : RkAt W E vs rs) (hk : KAt W ka kids kc) (hin : ∀ x ∈ kids, 0 ≤ x ∧ x < (vs.length : Int)) (v : Int) (s : Bool) (a1 : Option Addr) (l1 c1 : Nat) (a2 : Option Addr) (l2 c2 : Nat) :
    Calls Tryz.prog 46 #[.pointer (some ⟨E.R, 0, none⟩), .agg #[.int .i64 8, .int .i64 v, .slice ka kids.length kc, .bool s, .slice a1 l1 c1, .slice a2 l2 c2]] W (GivesV (.bool (kids.any (isT vs))) W) := by
  obtain ⟨W2, hW2⟩ : ∃ W2, W2 = W.alloc (.cells #[.int .i64 8, .int .i64 v, .slice ka kids.length kc, .bool s, .slice a1 l1 c1, .slice a2 l2 c2] 33) := ⟨_, rfl⟩
  have hb2 : Below W.heap.size W W2 := by rw [hW2]; exact (Below.refl _ _).alloc (Nat.le_refl _) _
  have HB2 := Lib.hid hb2
  have HC := Lib.hid (contains_isTrue (b := E.R) (p := isT vs) (hk.kept hb2) (fun W' hW' x hx => isTrue_any ((h.kept hb2).kept hW') (hin x hx)))
  generalize kids.any (isT vs) = res at *
  clear h hk hin hb2
  go_enter Tryz.func46, Tryz.ntmps46
  go_wp2_with fail
  rw [← hW2]
  clear hW2
  refine HC.out.mono ?_
  rintro e w' ⟨rfl, hb⟩
  have HB := Lib.hid (HB2.out.trans (hb.mono HB2.out.size))
  clear hb
  go_wp2_with fail
  go_ret
  exact GivesV.mk' rfl HB.out
set_option maxRecDepth 100000 in
set_option maxHeartbeats 8000000 in
theorem truth_9 (h : RkAt W E vs rs) (hk : KAt W ka kids kc) (hin : ∀ x ∈ kids, 0 ≤ x ∧ x < (vs.length : Int)) (v : Int) (s : Bool) (a1 : Option Addr) (l1 c1 : Nat) (a2 : Option Addr) (l2 c2 : Nat) :
    Calls Tryz.prog 46 #[.pointer (some ⟨E.R, 0, none⟩), .agg #[.int .i64 9, .int .i64 v, .slice ka kids.length kc, .bool s, .slice a1 l1 c1, .slice a2 l2 c2]] W (GivesV (.bool (odd vs false kids)) W) := by
  obtain ⟨W2, hW2⟩ : ∃ W2, W2 = W.alloc (.cells #[.int .i64 9, .int .i64 v, .slice ka kids.length kc, .bool s, .slice a1 l1 c1, .slice a2 l2 c2] 33) := ⟨_, rfl⟩
  have hb2 : Below W.heap.size W W2 := by rw [hW2]; exact (Below.refl _ _).alloc (Nat.le_refl _) _
  have HB2 := Lib.hid hb2
  have HC := Lib.hid (isOdd_any (h.kept hb2) (hk.kept hb2) hin)
  generalize odd vs false kids = res at *
  clear h hk hin hb2
  go_enter Tryz.func46, Tryz.ntmps46
  go_wp2_with fail
  rw [← hW2]
  clear hW2
  refine HC.out.mono ?_
  rintro e w' ⟨rfl, hb⟩
  have HB := Lib.hid (HB2.out.trans (hb.mono HB2.out.size))
  clear hb
  go_wp2_with fail
  go_ret
  exact GivesV.mk' rfl HB.out
set_option maxRecDepth 100000 in
set_option maxHeartbeats 8000000 in
theorem truth_13 (h : RkAt W E vs rs) (hk : KAt W ka kids kc) (hin : ∀ x ∈ kids, 0 ≤ x ∧ x < (vs.length : Int)) (h2 : kids.length = 2) (hs : ∀ v ∈ vs, szQ v.2 ≤ 100) (v : Int) (s : Bool) (a1 : Option Addr) (l1 c1 : Nat) (a2 : Option Addr) (l2 c2 : Nat) :
    Calls Tryz.prog 46 #[.pointer (some ⟨E.R, 0, none⟩), .agg #[.int .i64 13, .int .i64 v, .slice ka kids.length kc, .bool s, .slice a1 l1 c1, .slice a2 l2 c2]] W (GivesV (.bool (inOrder (ordB 14) vs (sort2 vs (kid kids 0) (kid kids 1)))) W) := by
  obtain ⟨W2, hW2⟩ : ∃ W2, W2 = W.alloc (.cells #[.int .i64 13, .int .i64 v, .slice ka kids.length kc, .bool s, .slice a1 l1 c1, .slice a2 l2 c2] 33) := ⟨_, rfl⟩
  have hb2 : Below W.heap.size W W2 := by rw [hW2]; exact (Below.refl _ _).alloc (Nat.le_refl _) _
  have HB2 := Lib.hid hb2
  have HC := Lib.hid (distinct_any (h.kept hb2) (hk.kept hb2) h2 hin hs)
  generalize inOrder (ordB 14) vs (sort2 vs (kid kids 0) (kid kids 1)) = res at *
  clear h hk hin hb2 hs h2
  go_enter Tryz.func46, Tryz.ntmps46
  go_wp2_with fail
  rw [← hW2]
  clear hW2
  refine HC.out.mono ?_
  rintro e w' ⟨rfl, hb⟩
  have HB := Lib.hid (HB2.out.trans (hb.mono HB2.out.size))
  clear hb
  go_wp2_with fail
  go_ret
  exact GivesV.mk' rfl HB.out
set_option maxRecDepth 100000 in
set_option maxHeartbeats 8000000 in
theorem truth_6 (h : RkAt W E vs rs) (hk : KAt W ka kids kc) (hin : ∀ x ∈ kids, 0 ≤ x ∧ x < (vs.length : Int)) (h1 : 1 ≤ kids.length) (v : Int) (s : Bool) (a1 : Option Addr) (l1 c1 : Nat) (a2 : Option Addr) (l2 c2 : Nat) :
    Calls Tryz.prog 46 #[.pointer (some ⟨E.R, 0, none⟩), .agg #[.int .i64 6, .int .i64 v, .slice ka kids.length kc, .bool s, .slice a1 l1 c1, .slice a2 l2 c2]] W (GivesV (.bool (!isT vs (kid kids 0))) W) := by
  obtain ⟨W2, hW2⟩ : ∃ W2, W2 = W.alloc (.cells #[.int .i64 6, .int .i64 v, .slice ka kids.length kc, .bool s, .slice a1 l1 c1, .slice a2 l2 c2] 33) := ⟨_, rfl⟩
  have hb2 : Below W.heap.size W W2 := by rw [hW2]; exact (Below.refl _ _).alloc (Nat.le_refl _) _
  have HB2 := Lib.hid hb2
  have hget : kids[0]? = some (kids.getD 0 0) := by rw [List.getD_eq_getElem?_getD, List.getElem?_eq_getElem (by omega)]; rfl
  have HC := Lib.hid (isTrue_any (h.kept hb2) (hin _ (List.mem_of_getElem? hget)))
  obtain ⟨bb, off, rfl, hc⟩ := (hk.kept hb2).get hget
  have hk0 : kid kids 0 = kids.getD 0 0 := rfl
  rw [hk0]
  generalize kids.getD 0 0 = x at *
  generalize isT vs x = res at *
  have hl0 : (0 : Int) < (kids.length : Int) := by omega
  generalize kids.length = n at *
  clear h hk hin hb2 hget hk0
  rw [hW2] at hc
  rw [Nat.add_zero] at hc
  go_enter Tryz.func46, Tryz.ntmps46
  go_wp2_with fail
  rw [← hW2]
  clear hW2 hc
  refine HC.out.mono ?_
  rintro e w' ⟨rfl, hb⟩
  have HB := Lib.hid (HB2.out.trans (hb.mono HB2.out.size))
  clear hb
  go_wp2_with fail
  go_ret
  exact GivesV.mk' rfl HB.out
set_option maxRecDepth 100000 in
set_option maxHeartbeats 8000000 in
theorem truth_10 (h : RkAt W E vs rs) (hk : KAt W ka kids kc) (hin : ∀ x ∈ kids, 0 ≤ x ∧ x < (vs.length : Int)) (h1 : 1 ≤ kids.length) (v : Int) (s : Bool) (a1 : Option Addr) (l1 c1 : Nat) (a2 : Option Addr) (l2 c2 : Nat) :
    Calls Tryz.prog 46 #[.pointer (some ⟨E.R, 0, none⟩), .agg #[.int .i64 10, .int .i64 v, .slice ka kids.length kc, .bool s, .slice a1 l1 c1, .slice a2 l2 c2]] W (GivesV (.bool (isT vs (kid kids (kids.length - 1)) || !(kids.take (kids.length - 1)).all (isT vs))) W) := by
  obtain ⟨W2, hW2⟩ : ∃ W2, W2 = W.alloc (.cells #[.int .i64 10, .int .i64 v, .slice ka kids.length kc, .bool s, .slice a1 l1 c1, .slice a2 l2 c2] 33) := ⟨_, rfl⟩
  have hb2 : Below W.heap.size W W2 := by rw [hW2]; exact (Below.refl _ _).alloc (Nat.le_refl _) _
  have HB2 := Lib.hid hb2
  have hget : kids[kids.length - 1]? = some (kids.getD (kids.length - 1) 0) := by rw [List.getD_eq_getElem?_getD, List.getElem?_eq_getElem (by omega)]; rfl
  have HC := Lib.hid (isTrue_any (h.kept hb2) (hin _ (List.mem_of_getElem? hget)))
  have hkt : KAt W2 ka (kids.take (kids.length - 1)) kc := by
    have h0 := hk.kept hb2
    refine ⟨?_, by have := h0.cap; simp; omega, h0.capped, h0.mid, by have := h0.few; simp; omega⟩
    rcases h0.at_ with e | ⟨g, off, e, hr⟩
    · exact .inl (by rw [e]; rfl)
    · refine .inr ⟨g, off, e, fun j u hu => hr j u ?_⟩
      simp only [i64s, List.map_take, List.getElem?_take] at hu ⊢
      split at hu
      · exact hu
      · cases hu
  have HA : Hid (∀ W', Below W2.heap.size W2 W' → Calls Tryz.prog 82 #[.pointer (some ⟨E.R, 0, none⟩), .slice ka (kids.length - 1) kc] W' (GivesV (.bool ((kids.take (kids.length - 1)).all (isT vs))) W')) := Lib.hid fun W' hW' => by
    have := areTrue_any ((h.kept hb2).kept hW') (hkt.kept hW') (fun x hx => hin x (List.mem_of_mem_take hx))
    rw [List.length_take, Nat.min_eq_left (by omega)] at this
    exact this
  have hk0 : kid kids (kids.length - 1) = kids.getD (kids.length - 1) 0 := rfl
  rw [hk0]
  have hcap := hk.cap
  have hcp := hk.capped
  have hfw := hk.few
  obtain ⟨bb, off, rfl, hc⟩ := (hk.kept hb2).get hget
  generalize kids.getD (kids.length - 1) 0 = x at *
  generalize (kids.take (kids.length - 1)).all (isT vs) = res at *
  obtain ⟨q, hq⟩ : ∃ q, isT vs x = q := ⟨_, rfl⟩
  rw [hq] at HC ⊢
  have hw1 : wrap64 ((kids.length : Int) - 1) = ((kids.length - 1 : Nat) : Int) := by rw [IntWalk.wrap64_in _ (by omega)]; omega
  have hl0 : ((kids.length - 1 : Nat) : Int) < (kids.length : Int) := by omega
  have hl1 : ((kids.length - 1 : Nat) : Int) ≤ (kc : Int) := by omega
  have HKEEP : Hid (∀ W', Below W2.heap.size W2 W' → W'.cell? ⟨W.heap.size, 2, none⟩ = some (.slice (some ⟨bb, off, none⟩) kids.length kc)) := Lib.hid fun W' hW' => cell_kept (by rw [hW2]; simp) hW'
  generalize kids.length = n at *
  clear h hk hin hb2 hget hk0 hkt hq
  rw [hW2] at hc
  cases q with
  | true =>
    go_enter Tryz.func46, Tryz.ntmps46
    go_wp2_with fail
    rw [← hW2]
    clear hW2 hc HA
    refine HC.out.mono ?_
    rintro e w' ⟨rfl, hb⟩
    have HB := Lib.hid (HB2.out.trans (hb.mono HB2.out.size))
    clear hb
    go_wp2_with fail
    go_ret
    exact GivesV.mk' rfl HB.out
  | false =>
    go_enter Tryz.func46, Tryz.ntmps46
    go_wp2_with fail
    rw [← hW2]
    clear hW2 hc
    refine HC.out.mono ?_
    rintro e w' ⟨rfl, hb⟩
    have HB := Lib.hid (HB2.out.trans (hb.mono HB2.out.size))
    have HAA := Lib.hid (HA.out _ hb)
    have hx2 := HKEEP.out _ hb
    clear hb
    go_wp2_with fail
    refine HAA.out.mono ?_
    rintro e w5 ⟨rfl, hb⟩
    have HB5 := Lib.hid (HB.out.trans (hb.mono HB.out.size))
    clear hb
    go_wp2_with fail
    go_ret
    exact GivesV.mk' rfl HB5.out
set_option maxRecDepth 100000 in
set_option maxHeartbeats 8000000 in
theorem truth_3 (h : RkAt W E vs rs) (hk : KAt W ka kids kc) (hin : ∀ x ∈ kids, 0 ≤ x ∧ x < (vs.length : Int)) {v : Int} (hv : 0 ≤ v ∧ v < (E.bools.length : Int)) (s : Bool) (a1 : Option Addr) (l1 c1 : Nat) (a2 : Option Addr) (l2 c2 : Nat) :
    Calls Tryz.prog 46 #[.pointer (some ⟨E.R, 0, none⟩), .agg #[.int .i64 3, .int .i64 v, .slice ka kids.length kc, .bool s, .slice a1 l1 c1, .slice a2 l2 c2]] W (GivesV (.bool (E.bools.getD v.toNat false)) W) := by
  obtain ⟨W2, hW2⟩ : ∃ W2, W2 = W.alloc (.cells #[.int .i64 3, .int .i64 v, .slice ka kids.length kc, .bool s, .slice a1 l1 c1, .slice a2 l2 c2] 33) := ⟨_, rfl⟩
  have hb2 : Below W.heap.size W W2 := by rw [hW2]; exact (Below.refl _ _).alloc (Nat.le_refl _) _
  have HB2 := Lib.hid hb2
  obtain ⟨k, rfl⟩ : ∃ k : Nat, v = (k : Int) := ⟨v.toNat, by omega⟩
  have hkb : k < E.bools.length := by omega
  have hgb : E.bools[k]? = some (E.bools.getD k false) := by rw [List.getD_eq_getElem?_getD, List.getElem?_eq_getElem hkb]; rfl
  obtain ⟨_, c1', _⟩ := (h.kept hb2).cells
  obtain ⟨g, off, hba, hbr⟩ : ∃ g off, E.ba = some ⟨g, off, none⟩ ∧ W2.rangeAt g off (E.bools.map Value.bool) := by
    rcases (h.kept hb2).bools with e | ⟨g, off, e, _, hr⟩
    · rw [e] at hkb; simp at hkb
    · exact ⟨g, off, e, hr⟩
  rw [hba] at c1'
  have hcell : W2.cell? ⟨g, off + k, none⟩ = some (.bool (E.bools.getD k false)) := hbr k _ (by rw [List.getElem?_map, hgb]; rfl)
  have htn : ((k : Int)).toNat = k := by omega
  rw [htn]
  generalize E.bools.getD k false = res at *
  have hk1 : (k : Int) < (E.bools.length : Int) := hv.2
  generalize E.bools.length = nb at *
  have HX : Hid (W2.drew.cell? ⟨E.R, 1, none⟩ = some (.slice (some ⟨g, off, none⟩) nb E.bc) ∧ W2.drew.cell? ⟨W.heap.size, 1, none⟩ = some (.int .i64 (k : Int)) ∧ W2.drew.cell? ⟨g, off + k, none⟩ = some (.bool res)) := Lib.hid ⟨c1', by rw [hW2]; simp, hcell⟩
  clear h hk hin hb2 hgb hba hbr hcell c1' hv htn
  go_enter Tryz.func46, Tryz.ntmps46
  go_wp2_with fail
  rw [← hW2]
  clear hW2
  go_wp2_with fail
  refine wp_region_held_drew (S := (fun w' => w'.cell? ⟨E.R, 1, none⟩ = some (.slice (some ⟨g, off, none⟩) nb E.bc) ∧ w'.cell? ⟨W.heap.size, 1, none⟩ = some (.int .i64 (k : Int)) ∧ w'.cell? ⟨g, off + k, none⟩ = some (.bool res))) (by kernel_rfl) ?_ (fun hHeld => ?_)
  · exact HX.out
  refine wpAnyH_take (i := 0) (v := ?_) (by rfl) (by kernel_rfl) (by kernel_rfl) (by kernel_rfl) (by exact fun _ _ _ h => h) (Or.inl ⟨by rfl, ?_⟩) hHeld ?_
  rotate_left 1
  · intro w' hSw
    (try dsimp only at hSw)
    go_simp
    try with_reducible rfl
  try simp only [Act.put, List.setIfInBounds_toArray, List.set_cons_zero, List.set_cons_succ, List.getElem_toArray, List.getElem_cons_zero, List.getElem_cons_succ]
  refine wpAnyH_take (i := 1) (v := ?_) (by rfl) (by kernel_rfl) (by kernel_rfl) (by kernel_rfl) (by exact fun _ _ _ h => h) (Or.inl ⟨by rfl, ?_⟩) hHeld ?_
  rotate_left 1
  · intro w' hSw
    (try dsimp only at hSw)
    go_simp
    try with_reducible rfl
  try simp only [Act.put, List.setIfInBounds_toArray, List.set_cons_zero, List.set_cons_succ, List.getElem_toArray, List.getElem_cons_zero, List.getElem_cons_succ]
  refine wpAnyH_take (i := 2) (v := ?_) (by rfl) (by kernel_rfl) (by kernel_rfl) (by kernel_rfl) (by exact fun _ _ _ h => h) (Or.inl ⟨by rfl, ?_⟩) hHeld ?_
  rotate_left 1
  · intro w' hSw
    (try dsimp only at hSw)
    go_simp
    try with_reducible rfl
  try simp only [Act.put, List.setIfInBounds_toArray, List.set_cons_zero, List.set_cons_succ, List.getElem_toArray, List.getElem_cons_zero, List.getElem_cons_succ]
  refine wpAnyH_take (i := 3) (v := .slice (some ⟨g, off, none⟩) nb E.bc) (by rfl) (by kernel_rfl) (by kernel_rfl) (by kernel_rfl) (by exact fun _ _ _ h => h) (Or.inl ⟨by rfl, ?_⟩) hHeld ?_
  · intro w' hSw
    obtain ⟨s1, s2, s3⟩ := hSw
    go_simp
  try simp only [Act.put, List.setIfInBounds_toArray, List.set_cons_zero, List.set_cons_succ, List.getElem_toArray, List.getElem_cons_zero, List.getElem_cons_succ]
  refine wpAnyH_take (i := 4) (v := ?_) (by rfl) (by kernel_rfl) (by kernel_rfl) (by kernel_rfl) (by exact fun _ _ _ h => h) (Or.inl ⟨by rfl, ?_⟩) hHeld ?_
  rotate_left 1
  · intro w' hSw
    (try dsimp only at hSw)
    go_simp
    try with_reducible rfl
  try simp only [Act.put, List.setIfInBounds_toArray, List.set_cons_zero, List.set_cons_succ, List.getElem_toArray, List.getElem_cons_zero, List.getElem_cons_succ]
  refine wpAnyH_take (i := 5) (v := .int .i64 (k : Int)) (by rfl) (by kernel_rfl) (by kernel_rfl) (by kernel_rfl) (by exact fun _ _ _ h => h) (Or.inl ⟨by rfl, ?_⟩) hHeld ?_
  · intro w' hSw
    obtain ⟨s1, s2, s3⟩ := hSw
    go_simp
  try simp only [Act.put, List.setIfInBounds_toArray, List.set_cons_zero, List.set_cons_succ, List.getElem_toArray, List.getElem_cons_zero, List.getElem_cons_succ]
  refine wpAnyH_take (i := 6) (v := ?_) (by rfl) (by kernel_rfl) (by kernel_rfl) (by kernel_rfl) (by exact fun _ _ _ h => h) (Or.inl ⟨by rfl, ?_⟩) hHeld ?_
  rotate_left 1
  · intro w' hSw
    (try dsimp only at hSw)
    go_simp
    try with_reducible rfl
  try simp only [Act.put, List.setIfInBounds_toArray, List.set_cons_zero, List.set_cons_succ, List.getElem_toArray, List.getElem_cons_zero, List.getElem_cons_succ]
  refine wpAnyH_take (i := 7) (v := .bool res) (by rfl) (by kernel_rfl) (by kernel_rfl) (by kernel_rfl) (by exact fun _ _ _ h => h) (Or.inl ⟨by rfl, ?_⟩) hHeld ?_
  · intro w' hSw
    obtain ⟨s1, s2, s3⟩ := hSw
    go_simp
  try simp only [Act.put, List.setIfInBounds_toArray, List.set_cons_zero, List.set_cons_succ, List.getElem_toArray, List.getElem_cons_zero, List.getElem_cons_succ]
  refine wpAnyH_take (i := 8) (v := ?_) (by rfl) (by kernel_rfl) (by kernel_rfl) (by kernel_rfl) (by exact fun _ _ _ h => h) (Or.inl ⟨by rfl, ?_⟩) hHeld ?_
  rotate_left 1
  · intro w' hSw
    (try dsimp only at hSw)
    go_simp
    try with_reducible rfl
  try simp only [Act.put, List.setIfInBounds_toArray, List.set_cons_zero, List.set_cons_succ, List.getElem_toArray, List.getElem_cons_zero, List.getElem_cons_succ]
  refine wpAnyH_done (by kernel_rfl) ?_ _
  clear hHeld
  go_wp2_with fail
  go_ret
  exact GivesV.mk' rfl HB2.out.drew
set_option maxRecDepth 100000 in
set_option maxHeartbeats 8000000 in
theorem truth_12 (h : RkAt W E vs rs) (hk : KAt W ka kids kc) (hin : ∀ x ∈ kids, 0 ≤ x ∧ x < (vs.length : Int)) (h2 : 2 ≤ kids.length) (hs : ∀ v ∈ vs, szQ v.2 ≤ 100) (v : Int) (s : Bool) (a1 : Option Addr) (l1 c1 : Nat) (a2 : Option Addr) (l2 c2 : Nat) :
    Calls Tryz.prog 46 #[.pointer (some ⟨E.R, 0, none⟩), .agg #[.int .i64 12, .int .i64 v, .slice ka kids.length kc, .bool s, .slice a1 l1 c1, .slice a2 l2 c2]] W (GivesV (.bool (inOrder (ordB 12) vs kids)) W) := by
  obtain ⟨W2, hW2⟩ : ∃ W2, W2 = W.alloc (.cells #[.int .i64 12, .int .i64 v, .slice ka kids.length kc, .bool s, .slice a1 l1 c1, .slice a2 l2 c2] 33) := ⟨_, rfl⟩
  have hb2 : Below W.heap.size W W2 := by rw [hW2]; exact (Below.refl _ _).alloc (Nat.le_refl _) _
  have HB2 := Lib.hid hb2
  have HR := h.kept hb2
  obtain ⟨_, _, _, c3, _, _⟩ := HR.cells
  have HIO : Hid (∀ W', Below W2.heap.size W2 W' → Calls Tryz.prog 85 #[.pointer (some ⟨E.R, 0, none⟩), .slice ka kids.length kc, (.func (.func 67) #[] #[])] W' (GivesV (.bool (inOrder (ordB 12) vs kids)) W')) := Lib.hid fun W' hW' => by
    have HR := HR.kept hW'
    exact inOrderA HR ((hk.kept hb2).kept hW') h2 hin hs (equal_ord _)
  obtain ⟨n, hn⟩ : ∃ n, kids.length = n := ⟨_, rfl⟩
  rw [hn] at HIO hW2 ⊢
  have HX : Hid (W2.drew.cell? ⟨W.heap.size, 0, none⟩ = some (.int .i64 12) ∧ W2.drew.cell? ⟨W.heap.size, 2, none⟩ = some (.slice ka n kc) ∧ W2.drew.cell? ⟨E.R, 3, none⟩ = some (.map (some E.mo)) ∧ IM W2.drew E.mo (ordL E.L)) := Lib.hid ⟨by rw [hW2]; simp, by rw [hW2]; simp, c3, HR.ords.map⟩
  generalize inOrder (ordB 12) vs kids = res at *
  clear h hk hin hs hb2 c3 h2 hn HR
  go_enter Tryz.func46, Tryz.ntmps46
  go_wp2_with fail
  rw [← hW2]
  clear hW2
  refine wp_region_held_drew (S := (fun w' => w'.cell? ⟨W.heap.size, 0, none⟩ = some (.int .i64 12) ∧ w'.cell? ⟨W.heap.size, 2, none⟩ = some (.slice ka n kc) ∧ w'.cell? ⟨E.R, 3, none⟩ = some (.map (some E.mo)) ∧ IM w' E.mo (ordL E.L))) (by kernel_rfl) ?_ (fun hHeld => ?_)
  · exact HX.out
  refine wpAnyH_take (i := 0) (v := ?_) (by rfl) (by kernel_rfl) (by kernel_rfl) (by kernel_rfl) (by exact fun _ _ _ h => h) (Or.inl ⟨by rfl, ?_⟩) hHeld ?_
  rotate_left 1
  · intro w' hSw
    (try dsimp only at hSw)
    go_simp
    try with_reducible rfl
  try simp only [Act.put, List.setIfInBounds_toArray, List.set_cons_zero, List.set_cons_succ, List.getElem_toArray, List.getElem_cons_zero, List.getElem_cons_succ]
  refine wpAnyH_take (i := 1) (v := ?_) (by rfl) (by kernel_rfl) (by kernel_rfl) (by kernel_rfl) (by exact fun _ _ _ h => h) (Or.inl ⟨by rfl, ?_⟩) hHeld ?_
  rotate_left 1
  · intro w' hSw
    (try dsimp only at hSw)
    go_simp
    try with_reducible rfl
  try simp only [Act.put, List.setIfInBounds_toArray, List.set_cons_zero, List.set_cons_succ, List.getElem_toArray, List.getElem_cons_zero, List.getElem_cons_succ]
  refine wpAnyH_take (i := 2) (v := .slice ka n kc) (by rfl) (by kernel_rfl) (by kernel_rfl) (by kernel_rfl) (by exact fun _ _ _ h => h) (Or.inl ⟨by rfl, ?_⟩) hHeld ?_
  · intro w' hSw
    obtain ⟨s1, s2, s3, s4⟩ := hSw
    go_simp
  try simp only [Act.put, List.setIfInBounds_toArray, List.set_cons_zero, List.set_cons_succ, List.getElem_toArray, List.getElem_cons_zero, List.getElem_cons_succ]
  refine wpAnyH_take (i := 3) (v := ?_) (by rfl) (by kernel_rfl) (by kernel_rfl) (by kernel_rfl) (by exact fun _ _ _ h => h) (Or.inl ⟨by rfl, ?_⟩) hHeld ?_
  rotate_left 1
  · intro w' hSw
    (try dsimp only at hSw)
    go_simp
    try with_reducible rfl
  try simp only [Act.put, List.setIfInBounds_toArray, List.set_cons_zero, List.set_cons_succ, List.getElem_toArray, List.getElem_cons_zero, List.getElem_cons_succ]
  refine wpAnyH_take (i := 4) (v := ?_) (by rfl) (by kernel_rfl) (by kernel_rfl) (by kernel_rfl) (by exact fun _ _ _ h => h) (Or.inl ⟨by rfl, ?_⟩) hHeld ?_
  rotate_left 1
  · intro w' hSw
    (try dsimp only at hSw)
    go_simp
    try with_reducible rfl
  try simp only [Act.put, List.setIfInBounds_toArray, List.set_cons_zero, List.set_cons_succ, List.getElem_toArray, List.getElem_cons_zero, List.getElem_cons_succ]
  refine wpAnyH_take (i := 5) (v := ?_) (by rfl) (by kernel_rfl) (by kernel_rfl) (by kernel_rfl) (by exact fun _ _ _ h => h) (Or.inl ⟨by rfl, ?_⟩) hHeld ?_
  rotate_left 1
  · intro w' hSw
    (try dsimp only at hSw)
    go_simp
    try with_reducible rfl
  try simp only [Act.put, List.setIfInBounds_toArray, List.set_cons_zero, List.set_cons_succ, List.getElem_toArray, List.getElem_cons_zero, List.getElem_cons_succ]
  refine wpAnyH_take (i := 6) (v := .map (some E.mo)) (by rfl) (by kernel_rfl) (by kernel_rfl) (by kernel_rfl) (by exact fun _ _ _ h => h) (Or.inl ⟨by rfl, ?_⟩) hHeld ?_
  · intro w' hSw
    obtain ⟨s1, s2, s3, s4⟩ := hSw
    go_simp
  try simp only [Act.put, List.setIfInBounds_toArray, List.set_cons_zero, List.set_cons_succ, List.getElem_toArray, List.getElem_cons_zero, List.getElem_cons_succ]
  refine wpAnyH_take (i := 7) (v := ?_) (by rfl) (by kernel_rfl) (by kernel_rfl) (by kernel_rfl) (by exact fun _ _ _ h => h) (Or.inl ⟨by rfl, ?_⟩) hHeld ?_
  rotate_left 1
  · intro w' hSw
    (try dsimp only at hSw)
    go_simp
    try with_reducible rfl
  try simp only [Act.put, List.setIfInBounds_toArray, List.set_cons_zero, List.set_cons_succ, List.getElem_toArray, List.getElem_cons_zero, List.getElem_cons_succ]
  refine wpAnyH_take (i := 8) (v := .int .i64 12) (by rfl) (by kernel_rfl) (by kernel_rfl) (by kernel_rfl) (by exact fun _ _ _ h => h) (Or.inl ⟨by rfl, ?_⟩) hHeld ?_
  · intro w' hSw
    obtain ⟨s1, s2, s3, s4⟩ := hSw
    go_simp
  try simp only [Act.put, List.setIfInBounds_toArray, List.set_cons_zero, List.set_cons_succ, List.getElem_toArray, List.getElem_cons_zero, List.getElem_cons_succ]
  refine wpAnyH_take (i := 9) (v := (.func (.func 67) #[] #[])) (by rfl) (by kernel_rfl) (by kernel_rfl) (by kernel_rfl) (by exact fun _ _ _ h => h) (Or.inl ⟨by rfl, ?_⟩) hHeld ?_
  · intro w' hSw
    exact run_look_op (.tmp 88) (.tmp 90) rfl Tryz.underlying75 Tryz.underlying3 .nilFunc (zero_ord _) E.mo rfl 12 rfl _ hSw.2.2.2 (.func (.func 67) #[] #[]) rfl
  try simp only [Act.put, List.setIfInBounds_toArray, List.set_cons_zero, List.set_cons_succ, List.getElem_toArray, List.getElem_cons_zero, List.getElem_cons_succ]
  refine wpAnyH_ready (rs := [10]) (by kernel_rfl) (by simp) ?_
  refine AllReadyH.cons (by rfl) (fun K hK => ?_) AllReadyH.nil
  go_simp
  refine (HIO.out _ (Below.refl _ _).drew).mono ?_
  rintro e w5 ⟨rfl, hb5⟩
  have HB5 := Lib.hid (HB2.out.drew.trans (hb5.mono HB2.out.drew.size))
  refine hK.out _ _ ?_ (fun hHeld => ?_)
  · exact ⟨cell_kept HX.out.1 hb5, cell_kept HX.out.2.1 hb5, cell_kept HX.out.2.2.1 hb5, HX.out.2.2.2.past (hb5.block _ HX.out.2.2.2.lt)⟩
  clear hK K
  try simp only [Act.put, List.setIfInBounds_toArray, List.set_cons_zero, List.set_cons_succ, List.getElem_toArray, List.getElem_cons_zero, List.getElem_cons_succ]
  refine wpAnyH_take (i := 11) (v := ?_) (by rfl) (by kernel_rfl) (by kernel_rfl) (by kernel_rfl) (by exact fun _ _ _ h => h) (Or.inl ⟨by rfl, ?_⟩) hHeld ?_
  rotate_left 1
  · intro w' hSw
    (try dsimp only at hSw)
    go_simp
    try with_reducible rfl
  try simp only [Act.put, List.setIfInBounds_toArray, List.set_cons_zero, List.set_cons_succ, List.getElem_toArray, List.getElem_cons_zero, List.getElem_cons_succ]
  refine wpAnyH_done (by kernel_rfl) ?_ _
  clear hHeld hb5
  go_wp2_with fail
  go_ret
  exact GivesV.mk' rfl HB5.out
set_option maxRecDepth 100000 in
set_option maxHeartbeats 8000000 in
theorem truth_14 (h : RkAt W E vs rs) (hk : KAt W ka kids kc) (hin : ∀ x ∈ kids, 0 ≤ x ∧ x < (vs.length : Int)) (h2 : 2 ≤ kids.length) (hs : ∀ v ∈ vs, szQ v.2 ≤ 100) (v : Int) (s : Bool) (a1 : Option Addr) (l1 c1 : Nat) (a2 : Option Addr) (l2 c2 : Nat) :
    Calls Tryz.prog 46 #[.pointer (some ⟨E.R, 0, none⟩), .agg #[.int .i64 14, .int .i64 v, .slice ka kids.length kc, .bool s, .slice a1 l1 c1, .slice a2 l2 c2]] W (GivesV (.bool (inOrder (ordB 14) vs kids)) W) := by
  obtain ⟨W2, hW2⟩ : ∃ W2, W2 = W.alloc (.cells #[.int .i64 14, .int .i64 v, .slice ka kids.length kc, .bool s, .slice a1 l1 c1, .slice a2 l2 c2] 33) := ⟨_, rfl⟩
  have hb2 : Below W.heap.size W W2 := by rw [hW2]; exact (Below.refl _ _).alloc (Nat.le_refl _) _
  have HB2 := Lib.hid hb2
  have HR := h.kept hb2
  obtain ⟨_, _, _, c3, _, _⟩ := HR.cells
  have HIO : Hid (∀ W', Below W2.heap.size W2 W' → Calls Tryz.prog 85 #[.pointer (some ⟨E.R, 0, none⟩), .slice ka kids.length kc, (.func (.func 65) #[] #[])] W' (GivesV (.bool (inOrder (ordB 14) vs kids)) W')) := Lib.hid fun W' hW' => by
    have HR := HR.kept hW'
    exact inOrderA HR ((hk.kept hb2).kept hW') h2 hin hs (less_ord _)
  obtain ⟨n, hn⟩ : ∃ n, kids.length = n := ⟨_, rfl⟩
  rw [hn] at HIO hW2 ⊢
  have HX : Hid (W2.drew.cell? ⟨W.heap.size, 0, none⟩ = some (.int .i64 14) ∧ W2.drew.cell? ⟨W.heap.size, 2, none⟩ = some (.slice ka n kc) ∧ W2.drew.cell? ⟨E.R, 3, none⟩ = some (.map (some E.mo)) ∧ IM W2.drew E.mo (ordL E.L)) := Lib.hid ⟨by rw [hW2]; simp, by rw [hW2]; simp, c3, HR.ords.map⟩
  generalize inOrder (ordB 14) vs kids = res at *
  clear h hk hin hs hb2 c3 h2 hn HR
  go_enter Tryz.func46, Tryz.ntmps46
  go_wp2_with fail
  rw [← hW2]
  clear hW2
  refine wp_region_held_drew (S := (fun w' => w'.cell? ⟨W.heap.size, 0, none⟩ = some (.int .i64 14) ∧ w'.cell? ⟨W.heap.size, 2, none⟩ = some (.slice ka n kc) ∧ w'.cell? ⟨E.R, 3, none⟩ = some (.map (some E.mo)) ∧ IM w' E.mo (ordL E.L))) (by kernel_rfl) ?_ (fun hHeld => ?_)
  · exact HX.out
  refine wpAnyH_take (i := 0) (v := ?_) (by rfl) (by kernel_rfl) (by kernel_rfl) (by kernel_rfl) (by exact fun _ _ _ h => h) (Or.inl ⟨by rfl, ?_⟩) hHeld ?_
  rotate_left 1
  · intro w' hSw
    (try dsimp only at hSw)
    go_simp
    try with_reducible rfl
  try simp only [Act.put, List.setIfInBounds_toArray, List.set_cons_zero, List.set_cons_succ, List.getElem_toArray, List.getElem_cons_zero, List.getElem_cons_succ]
  refine wpAnyH_take (i := 1) (v := ?_) (by rfl) (by kernel_rfl) (by kernel_rfl) (by kernel_rfl) (by exact fun _ _ _ h => h) (Or.inl ⟨by rfl, ?_⟩) hHeld ?_
  rotate_left 1
  · intro w' hSw
    (try dsimp only at hSw)
    go_simp
    try with_reducible rfl
  try simp only [Act.put, List.setIfInBounds_toArray, List.set_cons_zero, List.set_cons_succ, List.getElem_toArray, List.getElem_cons_zero, List.getElem_cons_succ]
  refine wpAnyH_take (i := 2) (v := .slice ka n kc) (by rfl) (by kernel_rfl) (by kernel_rfl) (by kernel_rfl) (by exact fun _ _ _ h => h) (Or.inl ⟨by rfl, ?_⟩) hHeld ?_
  · intro w' hSw
    obtain ⟨s1, s2, s3, s4⟩ := hSw
    go_simp
  try simp only [Act.put, List.setIfInBounds_toArray, List.set_cons_zero, List.set_cons_succ, List.getElem_toArray, List.getElem_cons_zero, List.getElem_cons_succ]
  refine wpAnyH_take (i := 3) (v := ?_) (by rfl) (by kernel_rfl) (by kernel_rfl) (by kernel_rfl) (by exact fun _ _ _ h => h) (Or.inl ⟨by rfl, ?_⟩) hHeld ?_
  rotate_left 1
  · intro w' hSw
    (try dsimp only at hSw)
    go_simp
    try with_reducible rfl
  try simp only [Act.put, List.setIfInBounds_toArray, List.set_cons_zero, List.set_cons_succ, List.getElem_toArray, List.getElem_cons_zero, List.getElem_cons_succ]
  refine wpAnyH_take (i := 4) (v := ?_) (by rfl) (by kernel_rfl) (by kernel_rfl) (by kernel_rfl) (by exact fun _ _ _ h => h) (Or.inl ⟨by rfl, ?_⟩) hHeld ?_
  rotate_left 1
  · intro w' hSw
    (try dsimp only at hSw)
    go_simp
    try with_reducible rfl
  try simp only [Act.put, List.setIfInBounds_toArray, List.set_cons_zero, List.set_cons_succ, List.getElem_toArray, List.getElem_cons_zero, List.getElem_cons_succ]
  refine wpAnyH_take (i := 5) (v := ?_) (by rfl) (by kernel_rfl) (by kernel_rfl) (by kernel_rfl) (by exact fun _ _ _ h => h) (Or.inl ⟨by rfl, ?_⟩) hHeld ?_
  rotate_left 1
  · intro w' hSw
    (try dsimp only at hSw)
    go_simp
    try with_reducible rfl
  try simp only [Act.put, List.setIfInBounds_toArray, List.set_cons_zero, List.set_cons_succ, List.getElem_toArray, List.getElem_cons_zero, List.getElem_cons_succ]
  refine wpAnyH_take (i := 6) (v := .map (some E.mo)) (by rfl) (by kernel_rfl) (by kernel_rfl) (by kernel_rfl) (by exact fun _ _ _ h => h) (Or.inl ⟨by rfl, ?_⟩) hHeld ?_
  · intro w' hSw
    obtain ⟨s1, s2, s3, s4⟩ := hSw
    go_simp
  try simp only [Act.put, List.setIfInBounds_toArray, List.set_cons_zero, List.set_cons_succ, List.getElem_toArray, List.getElem_cons_zero, List.getElem_cons_succ]
  refine wpAnyH_take (i := 7) (v := ?_) (by rfl) (by kernel_rfl) (by kernel_rfl) (by kernel_rfl) (by exact fun _ _ _ h => h) (Or.inl ⟨by rfl, ?_⟩) hHeld ?_
  rotate_left 1
  · intro w' hSw
    (try dsimp only at hSw)
    go_simp
    try with_reducible rfl
  try simp only [Act.put, List.setIfInBounds_toArray, List.set_cons_zero, List.set_cons_succ, List.getElem_toArray, List.getElem_cons_zero, List.getElem_cons_succ]
  refine wpAnyH_take (i := 8) (v := .int .i64 14) (by rfl) (by kernel_rfl) (by kernel_rfl) (by kernel_rfl) (by exact fun _ _ _ h => h) (Or.inl ⟨by rfl, ?_⟩) hHeld ?_
  · intro w' hSw
    obtain ⟨s1, s2, s3, s4⟩ := hSw
    go_simp
  try simp only [Act.put, List.setIfInBounds_toArray, List.set_cons_zero, List.set_cons_succ, List.getElem_toArray, List.getElem_cons_zero, List.getElem_cons_succ]
  refine wpAnyH_take (i := 9) (v := (.func (.func 65) #[] #[])) (by rfl) (by kernel_rfl) (by kernel_rfl) (by kernel_rfl) (by exact fun _ _ _ h => h) (Or.inl ⟨by rfl, ?_⟩) hHeld ?_
  · intro w' hSw
    exact run_look_op (.tmp 88) (.tmp 90) rfl Tryz.underlying75 Tryz.underlying3 .nilFunc (zero_ord _) E.mo rfl 14 rfl _ hSw.2.2.2 (.func (.func 65) #[] #[]) rfl
  try simp only [Act.put, List.setIfInBounds_toArray, List.set_cons_zero, List.set_cons_succ, List.getElem_toArray, List.getElem_cons_zero, List.getElem_cons_succ]
  refine wpAnyH_ready (rs := [10]) (by kernel_rfl) (by simp) ?_
  refine AllReadyH.cons (by rfl) (fun K hK => ?_) AllReadyH.nil
  go_simp
  refine (HIO.out _ (Below.refl _ _).drew).mono ?_
  rintro e w5 ⟨rfl, hb5⟩
  have HB5 := Lib.hid (HB2.out.drew.trans (hb5.mono HB2.out.drew.size))
  refine hK.out _ _ ?_ (fun hHeld => ?_)
  · exact ⟨cell_kept HX.out.1 hb5, cell_kept HX.out.2.1 hb5, cell_kept HX.out.2.2.1 hb5, HX.out.2.2.2.past (hb5.block _ HX.out.2.2.2.lt)⟩
  clear hK K
  try simp only [Act.put, List.setIfInBounds_toArray, List.set_cons_zero, List.set_cons_succ, List.getElem_toArray, List.getElem_cons_zero, List.getElem_cons_succ]
  refine wpAnyH_take (i := 11) (v := ?_) (by rfl) (by kernel_rfl) (by kernel_rfl) (by kernel_rfl) (by exact fun _ _ _ h => h) (Or.inl ⟨by rfl, ?_⟩) hHeld ?_
  rotate_left 1
  · intro w' hSw
    (try dsimp only at hSw)
    go_simp
    try with_reducible rfl
  try simp only [Act.put, List.setIfInBounds_toArray, List.set_cons_zero, List.set_cons_succ, List.getElem_toArray, List.getElem_cons_zero, List.getElem_cons_succ]
  refine wpAnyH_done (by kernel_rfl) ?_ _
  clear hHeld hb5
  go_wp2_with fail
  go_ret
  exact GivesV.mk' rfl HB5.out
set_option maxRecDepth 100000 in
set_option maxHeartbeats 8000000 in
theorem truth_15 (h : RkAt W E vs rs) (hk : KAt W ka kids kc) (hin : ∀ x ∈ kids, 0 ≤ x ∧ x < (vs.length : Int)) (h2 : 2 ≤ kids.length) (hs : ∀ v ∈ vs, szQ v.2 ≤ 100) (v : Int) (s : Bool) (a1 : Option Addr) (l1 c1 : Nat) (a2 : Option Addr) (l2 c2 : Nat) :
    Calls Tryz.prog 46 #[.pointer (some ⟨E.R, 0, none⟩), .agg #[.int .i64 15, .int .i64 v, .slice ka kids.length kc, .bool s, .slice a1 l1 c1, .slice a2 l2 c2]] W (GivesV (.bool (inOrder (ordB 15) vs kids)) W) := by
  obtain ⟨W2, hW2⟩ : ∃ W2, W2 = W.alloc (.cells #[.int .i64 15, .int .i64 v, .slice ka kids.length kc, .bool s, .slice a1 l1 c1, .slice a2 l2 c2] 33) := ⟨_, rfl⟩
  have hb2 : Below W.heap.size W W2 := by rw [hW2]; exact (Below.refl _ _).alloc (Nat.le_refl _) _
  have HB2 := Lib.hid hb2
  have HR := h.kept hb2
  obtain ⟨_, _, _, c3, _, _⟩ := HR.cells
  have HIO : Hid (∀ W', Below W2.heap.size W2 W' → Calls Tryz.prog 85 #[.pointer (some ⟨E.R, 0, none⟩), .slice ka kids.length kc, (.func (.func 68) #[] #[.pointer (some ⟨E.L, 0, none⟩)])] W' (GivesV (.bool (inOrder (ordB 15) vs kids)) W')) := Lib.hid fun W' hW' => by
    have HR := HR.kept hW'
    exact inOrderB HR ((hk.kept hb2).kept hW') h2 hin hs (atMost_ord HR.ords)
  obtain ⟨n, hn⟩ : ∃ n, kids.length = n := ⟨_, rfl⟩
  rw [hn] at HIO hW2 ⊢
  have HX : Hid (W2.drew.cell? ⟨W.heap.size, 0, none⟩ = some (.int .i64 15) ∧ W2.drew.cell? ⟨W.heap.size, 2, none⟩ = some (.slice ka n kc) ∧ W2.drew.cell? ⟨E.R, 3, none⟩ = some (.map (some E.mo)) ∧ IM W2.drew E.mo (ordL E.L)) := Lib.hid ⟨by rw [hW2]; simp, by rw [hW2]; simp, c3, HR.ords.map⟩
  generalize inOrder (ordB 15) vs kids = res at *
  clear h hk hin hs hb2 c3 h2 hn HR
  go_enter Tryz.func46, Tryz.ntmps46
  go_wp2_with fail
  rw [← hW2]
  clear hW2
  refine wp_region_held_drew (S := (fun w' => w'.cell? ⟨W.heap.size, 0, none⟩ = some (.int .i64 15) ∧ w'.cell? ⟨W.heap.size, 2, none⟩ = some (.slice ka n kc) ∧ w'.cell? ⟨E.R, 3, none⟩ = some (.map (some E.mo)) ∧ IM w' E.mo (ordL E.L))) (by kernel_rfl) ?_ (fun hHeld => ?_)
  · exact HX.out
  refine wpAnyH_take (i := 0) (v := ?_) (by rfl) (by kernel_rfl) (by kernel_rfl) (by kernel_rfl) (by exact fun _ _ _ h => h) (Or.inl ⟨by rfl, ?_⟩) hHeld ?_
  rotate_left 1
  · intro w' hSw
    (try dsimp only at hSw)
    go_simp
    try with_reducible rfl
  try simp only [Act.put, List.setIfInBounds_toArray, List.set_cons_zero, List.set_cons_succ, List.getElem_toArray, List.getElem_cons_zero, List.getElem_cons_succ]
  refine wpAnyH_take (i := 1) (v := ?_) (by rfl) (by kernel_rfl) (by kernel_rfl) (by kernel_rfl) (by exact fun _ _ _ h => h) (Or.inl ⟨by rfl, ?_⟩) hHeld ?_
  rotate_left 1
  · intro w' hSw
    (try dsimp only at hSw)
    go_simp
    try with_reducible rfl
  try simp only [Act.put, List.setIfInBounds_toArray, List.set_cons_zero, List.set_cons_succ, List.getElem_toArray, List.getElem_cons_zero, List.getElem_cons_succ]
  refine wpAnyH_take (i := 2) (v := .slice ka n kc) (by rfl) (by kernel_rfl) (by kernel_rfl) (by kernel_rfl) (by exact fun _ _ _ h => h) (Or.inl ⟨by rfl, ?_⟩) hHeld ?_
  · intro w' hSw
    obtain ⟨s1, s2, s3, s4⟩ := hSw
    go_simp
  try simp only [Act.put, List.setIfInBounds_toArray, List.set_cons_zero, List.set_cons_succ, List.getElem_toArray, List.getElem_cons_zero, List.getElem_cons_succ]
  refine wpAnyH_take (i := 3) (v := ?_) (by rfl) (by kernel_rfl) (by kernel_rfl) (by kernel_rfl) (by exact fun _ _ _ h => h) (Or.inl ⟨by rfl, ?_⟩) hHeld ?_
  rotate_left 1
  · intro w' hSw
    (try dsimp only at hSw)
    go_simp
    try with_reducible rfl
  try simp only [Act.put, List.setIfInBounds_toArray, List.set_cons_zero, List.set_cons_succ, List.getElem_toArray, List.getElem_cons_zero, List.getElem_cons_succ]
  refine wpAnyH_take (i := 4) (v := ?_) (by rfl) (by kernel_rfl) (by kernel_rfl) (by kernel_rfl) (by exact fun _ _ _ h => h) (Or.inl ⟨by rfl, ?_⟩) hHeld ?_
  rotate_left 1
  · intro w' hSw
    (try dsimp only at hSw)
    go_simp
    try with_reducible rfl
  try simp only [Act.put, List.setIfInBounds_toArray, List.set_cons_zero, List.set_cons_succ, List.getElem_toArray, List.getElem_cons_zero, List.getElem_cons_succ]
  refine wpAnyH_take (i := 5) (v := ?_) (by rfl) (by kernel_rfl) (by kernel_rfl) (by kernel_rfl) (by exact fun _ _ _ h => h) (Or.inl ⟨by rfl, ?_⟩) hHeld ?_
  rotate_left 1
  · intro w' hSw
    (try dsimp only at hSw)
    go_simp
    try with_reducible rfl
  try simp only [Act.put, List.setIfInBounds_toArray, List.set_cons_zero, List.set_cons_succ, List.getElem_toArray, List.getElem_cons_zero, List.getElem_cons_succ]
  refine wpAnyH_take (i := 6) (v := .map (some E.mo)) (by rfl) (by kernel_rfl) (by kernel_rfl) (by kernel_rfl) (by exact fun _ _ _ h => h) (Or.inl ⟨by rfl, ?_⟩) hHeld ?_
  · intro w' hSw
    obtain ⟨s1, s2, s3, s4⟩ := hSw
    go_simp
  try simp only [Act.put, List.setIfInBounds_toArray, List.set_cons_zero, List.set_cons_succ, List.getElem_toArray, List.getElem_cons_zero, List.getElem_cons_succ]
  refine wpAnyH_take (i := 7) (v := ?_) (by rfl) (by kernel_rfl) (by kernel_rfl) (by kernel_rfl) (by exact fun _ _ _ h => h) (Or.inl ⟨by rfl, ?_⟩) hHeld ?_
  rotate_left 1
  · intro w' hSw
    (try dsimp only at hSw)
    go_simp
    try with_reducible rfl
  try simp only [Act.put, List.setIfInBounds_toArray, List.set_cons_zero, List.set_cons_succ, List.getElem_toArray, List.getElem_cons_zero, List.getElem_cons_succ]
  refine wpAnyH_take (i := 8) (v := .int .i64 15) (by rfl) (by kernel_rfl) (by kernel_rfl) (by kernel_rfl) (by exact fun _ _ _ h => h) (Or.inl ⟨by rfl, ?_⟩) hHeld ?_
  · intro w' hSw
    obtain ⟨s1, s2, s3, s4⟩ := hSw
    go_simp
  try simp only [Act.put, List.setIfInBounds_toArray, List.set_cons_zero, List.set_cons_succ, List.getElem_toArray, List.getElem_cons_zero, List.getElem_cons_succ]
  refine wpAnyH_take (i := 9) (v := (.func (.func 68) #[] #[.pointer (some ⟨E.L, 0, none⟩)])) (by rfl) (by kernel_rfl) (by kernel_rfl) (by kernel_rfl) (by exact fun _ _ _ h => h) (Or.inl ⟨by rfl, ?_⟩) hHeld ?_
  · intro w' hSw
    exact run_look_op (.tmp 88) (.tmp 90) rfl Tryz.underlying75 Tryz.underlying3 .nilFunc (zero_ord _) E.mo rfl 15 rfl _ hSw.2.2.2 (.func (.func 68) #[] #[.pointer (some ⟨E.L, 0, none⟩)]) rfl
  try simp only [Act.put, List.setIfInBounds_toArray, List.set_cons_zero, List.set_cons_succ, List.getElem_toArray, List.getElem_cons_zero, List.getElem_cons_succ]
  refine wpAnyH_ready (rs := [10]) (by kernel_rfl) (by simp) ?_
  refine AllReadyH.cons (by rfl) (fun K hK => ?_) AllReadyH.nil
  go_simp
  refine (HIO.out _ (Below.refl _ _).drew).mono ?_
  rintro e w5 ⟨rfl, hb5⟩
  have HB5 := Lib.hid (HB2.out.drew.trans (hb5.mono HB2.out.drew.size))
  refine hK.out _ _ ?_ (fun hHeld => ?_)
  · exact ⟨cell_kept HX.out.1 hb5, cell_kept HX.out.2.1 hb5, cell_kept HX.out.2.2.1 hb5, HX.out.2.2.2.past (hb5.block _ HX.out.2.2.2.lt)⟩
  clear hK K
  try simp only [Act.put, List.setIfInBounds_toArray, List.set_cons_zero, List.set_cons_succ, List.getElem_toArray, List.getElem_cons_zero, List.getElem_cons_succ]
  refine wpAnyH_take (i := 11) (v := ?_) (by rfl) (by kernel_rfl) (by kernel_rfl) (by kernel_rfl) (by exact fun _ _ _ h => h) (Or.inl ⟨by rfl, ?_⟩) hHeld ?_
  rotate_left 1
  · intro w' hSw
    (try dsimp only at hSw)
    go_simp
    try with_reducible rfl
  try simp only [Act.put, List.setIfInBounds_toArray, List.set_cons_zero, List.set_cons_succ, List.getElem_toArray, List.getElem_cons_zero, List.getElem_cons_succ]
  refine wpAnyH_done (by kernel_rfl) ?_ _
  clear hHeld hb5
  go_wp2_with fail
  go_ret
  exact GivesV.mk' rfl HB5.out
set_option maxRecDepth 100000 in
set_option maxHeartbeats 8000000 in
theorem truth_16 (h : RkAt W E vs rs) (hk : KAt W ka kids kc) (hin : ∀ x ∈ kids, 0 ≤ x ∧ x < (vs.length : Int)) (h2 : 2 ≤ kids.length) (hs : ∀ v ∈ vs, szQ v.2 ≤ 100) (v : Int) (s : Bool) (a1 : Option Addr) (l1 c1 : Nat) (a2 : Option Addr) (l2 c2 : Nat) :
    Calls Tryz.prog 46 #[.pointer (some ⟨E.R, 0, none⟩), .agg #[.int .i64 16, .int .i64 v, .slice ka kids.length kc, .bool s, .slice a1 l1 c1, .slice a2 l2 c2]] W (GivesV (.bool (inOrder (ordB 16) vs kids)) W) := by
  obtain ⟨W2, hW2⟩ : ∃ W2, W2 = W.alloc (.cells #[.int .i64 16, .int .i64 v, .slice ka kids.length kc, .bool s, .slice a1 l1 c1, .slice a2 l2 c2] 33) := ⟨_, rfl⟩
  have hb2 : Below W.heap.size W W2 := by rw [hW2]; exact (Below.refl _ _).alloc (Nat.le_refl _) _
  have HB2 := Lib.hid hb2
  have HR := h.kept hb2
  obtain ⟨_, _, _, c3, _, _⟩ := HR.cells
  have HIO : Hid (∀ W', Below W2.heap.size W2 W' → Calls Tryz.prog 85 #[.pointer (some ⟨E.R, 0, none⟩), .slice ka kids.length kc, (.func (.func 69) #[] #[.pointer (some ⟨E.L, 0, none⟩)])] W' (GivesV (.bool (inOrder (ordB 16) vs kids)) W')) := Lib.hid fun W' hW' => by
    have HR := HR.kept hW'
    exact inOrderB HR ((hk.kept hb2).kept hW') h2 hin hs (greater_ord HR.ords)
  obtain ⟨n, hn⟩ : ∃ n, kids.length = n := ⟨_, rfl⟩
  rw [hn] at HIO hW2 ⊢
  have HX : Hid (W2.drew.cell? ⟨W.heap.size, 0, none⟩ = some (.int .i64 16) ∧ W2.drew.cell? ⟨W.heap.size, 2, none⟩ = some (.slice ka n kc) ∧ W2.drew.cell? ⟨E.R, 3, none⟩ = some (.map (some E.mo)) ∧ IM W2.drew E.mo (ordL E.L)) := Lib.hid ⟨by rw [hW2]; simp, by rw [hW2]; simp, c3, HR.ords.map⟩
  generalize inOrder (ordB 16) vs kids = res at *
  clear h hk hin hs hb2 c3 h2 hn HR
  go_enter Tryz.func46, Tryz.ntmps46
  go_wp2_with fail
  rw [← hW2]
  clear hW2
  refine wp_region_held_drew (S := (fun w' => w'.cell? ⟨W.heap.size, 0, none⟩ = some (.int .i64 16) ∧ w'.cell? ⟨W.heap.size, 2, none⟩ = some (.slice ka n kc) ∧ w'.cell? ⟨E.R, 3, none⟩ = some (.map (some E.mo)) ∧ IM w' E.mo (ordL E.L))) (by kernel_rfl) ?_ (fun hHeld => ?_)
  · exact HX.out
  refine wpAnyH_take (i := 0) (v := ?_) (by rfl) (by kernel_rfl) (by kernel_rfl) (by kernel_rfl) (by exact fun _ _ _ h => h) (Or.inl ⟨by rfl, ?_⟩) hHeld ?_
  rotate_left 1
  · intro w' hSw
    (try dsimp only at hSw)
    go_simp
    try with_reducible rfl
  try simp only [Act.put, List.setIfInBounds_toArray, List.set_cons_zero, List.set_cons_succ, List.getElem_toArray, List.getElem_cons_zero, List.getElem_cons_succ]
  refine wpAnyH_take (i := 1) (v := ?_) (by rfl) (by kernel_rfl) (by kernel_rfl) (by kernel_rfl) (by exact fun _ _ _ h => h) (Or.inl ⟨by rfl, ?_⟩) hHeld ?_
  rotate_left 1
  · intro w' hSw
    (try dsimp only at hSw)
    go_simp
    try with_reducible rfl
  try simp only [Act.put, List.setIfInBounds_toArray, List.set_cons_zero, List.set_cons_succ, List.getElem_toArray, List.getElem_cons_zero, List.getElem_cons_succ]
  refine wpAnyH_take (i := 2) (v := .slice ka n kc) (by rfl) (by kernel_rfl) (by kernel_rfl) (by kernel_rfl) (by exact fun _ _ _ h => h) (Or.inl ⟨by rfl, ?_⟩) hHeld ?_
  · intro w' hSw
    obtain ⟨s1, s2, s3, s4⟩ := hSw
    go_simp
  try simp only [Act.put, List.setIfInBounds_toArray, List.set_cons_zero, List.set_cons_succ, List.getElem_toArray, List.getElem_cons_zero, List.getElem_cons_succ]
  refine wpAnyH_take (i := 3) (v := ?_) (by rfl) (by kernel_rfl) (by kernel_rfl) (by kernel_rfl) (by exact fun _ _ _ h => h) (Or.inl ⟨by rfl, ?_⟩) hHeld ?_
  rotate_left 1
  · intro w' hSw
    (try dsimp only at hSw)
    go_simp
    try with_reducible rfl
  try simp only [Act.put, List.setIfInBounds_toArray, List.set_cons_zero, List.set_cons_succ, List.getElem_toArray, List.getElem_cons_zero, List.getElem_cons_succ]
  refine wpAnyH_take (i := 4) (v := ?_) (by rfl) (by kernel_rfl) (by kernel_rfl) (by kernel_rfl) (by exact fun _ _ _ h => h) (Or.inl ⟨by rfl, ?_⟩) hHeld ?_
  rotate_left 1
  · intro w' hSw
    (try dsimp only at hSw)
    go_simp
    try with_reducible rfl
  try simp only [Act.put, List.setIfInBounds_toArray, List.set_cons_zero, List.set_cons_succ, List.getElem_toArray, List.getElem_cons_zero, List.getElem_cons_succ]
  refine wpAnyH_take (i := 5) (v := ?_) (by rfl) (by kernel_rfl) (by kernel_rfl) (by kernel_rfl) (by exact fun _ _ _ h => h) (Or.inl ⟨by rfl, ?_⟩) hHeld ?_
  rotate_left 1
  · intro w' hSw
    (try dsimp only at hSw)
    go_simp
    try with_reducible rfl
  try simp only [Act.put, List.setIfInBounds_toArray, List.set_cons_zero, List.set_cons_succ, List.getElem_toArray, List.getElem_cons_zero, List.getElem_cons_succ]
  refine wpAnyH_take (i := 6) (v := .map (some E.mo)) (by rfl) (by kernel_rfl) (by kernel_rfl) (by kernel_rfl) (by exact fun _ _ _ h => h) (Or.inl ⟨by rfl, ?_⟩) hHeld ?_
  · intro w' hSw
    obtain ⟨s1, s2, s3, s4⟩ := hSw
    go_simp
  try simp only [Act.put, List.setIfInBounds_toArray, List.set_cons_zero, List.set_cons_succ, List.getElem_toArray, List.getElem_cons_zero, List.getElem_cons_succ]
  refine wpAnyH_take (i := 7) (v := ?_) (by rfl) (by kernel_rfl) (by kernel_rfl) (by kernel_rfl) (by exact fun _ _ _ h => h) (Or.inl ⟨by rfl, ?_⟩) hHeld ?_
  rotate_left 1
  · intro w' hSw
    (try dsimp only at hSw)
    go_simp
    try with_reducible rfl
  try simp only [Act.put, List.setIfInBounds_toArray, List.set_cons_zero, List.set_cons_succ, List.getElem_toArray, List.getElem_cons_zero, List.getElem_cons_succ]
  refine wpAnyH_take (i := 8) (v := .int .i64 16) (by rfl) (by kernel_rfl) (by kernel_rfl) (by kernel_rfl) (by exact fun _ _ _ h => h) (Or.inl ⟨by rfl, ?_⟩) hHeld ?_
  · intro w' hSw
    obtain ⟨s1, s2, s3, s4⟩ := hSw
    go_simp
  try simp only [Act.put, List.setIfInBounds_toArray, List.set_cons_zero, List.set_cons_succ, List.getElem_toArray, List.getElem_cons_zero, List.getElem_cons_succ]
  refine wpAnyH_take (i := 9) (v := (.func (.func 69) #[] #[.pointer (some ⟨E.L, 0, none⟩)])) (by rfl) (by kernel_rfl) (by kernel_rfl) (by kernel_rfl) (by exact fun _ _ _ h => h) (Or.inl ⟨by rfl, ?_⟩) hHeld ?_
  · intro w' hSw
    exact run_look_op (.tmp 88) (.tmp 90) rfl Tryz.underlying75 Tryz.underlying3 .nilFunc (zero_ord _) E.mo rfl 16 rfl _ hSw.2.2.2 (.func (.func 69) #[] #[.pointer (some ⟨E.L, 0, none⟩)]) rfl
  try simp only [Act.put, List.setIfInBounds_toArray, List.set_cons_zero, List.set_cons_succ, List.getElem_toArray, List.getElem_cons_zero, List.getElem_cons_succ]
  refine wpAnyH_ready (rs := [10]) (by kernel_rfl) (by simp) ?_
  refine AllReadyH.cons (by rfl) (fun K hK => ?_) AllReadyH.nil
  go_simp
  refine (HIO.out _ (Below.refl _ _).drew).mono ?_
  rintro e w5 ⟨rfl, hb5⟩
  have HB5 := Lib.hid (HB2.out.drew.trans (hb5.mono HB2.out.drew.size))
  refine hK.out _ _ ?_ (fun hHeld => ?_)
  · exact ⟨cell_kept HX.out.1 hb5, cell_kept HX.out.2.1 hb5, cell_kept HX.out.2.2.1 hb5, HX.out.2.2.2.past (hb5.block _ HX.out.2.2.2.lt)⟩
  clear hK K
  try simp only [Act.put, List.setIfInBounds_toArray, List.set_cons_zero, List.set_cons_succ, List.getElem_toArray, List.getElem_cons_zero, List.getElem_cons_succ]
  refine wpAnyH_take (i := 11) (v := ?_) (by rfl) (by kernel_rfl) (by kernel_rfl) (by kernel_rfl) (by exact fun _ _ _ h => h) (Or.inl ⟨by rfl, ?_⟩) hHeld ?_
  rotate_left 1
  · intro w' hSw
    (try dsimp only at hSw)
    go_simp
    try with_reducible rfl
  try simp only [Act.put, List.setIfInBounds_toArray, List.set_cons_zero, List.set_cons_succ, List.getElem_toArray, List.getElem_cons_zero, List.getElem_cons_succ]
  refine wpAnyH_done (by kernel_rfl) ?_ _
  clear hHeld hb5
  go_wp2_with fail
  go_ret
  exact GivesV.mk' rfl HB5.out
set_option maxRecDepth 100000 in
set_option maxHeartbeats 8000000 in
theorem truth_17 (h : RkAt W E vs rs) (hk : KAt W ka kids kc) (hin : ∀ x ∈ kids, 0 ≤ x ∧ x < (vs.length : Int)) (h2 : 2 ≤ kids.length) (hs : ∀ v ∈ vs, szQ v.2 ≤ 100) (v : Int) (s : Bool) (a1 : Option Addr) (l1 c1 : Nat) (a2 : Option Addr) (l2 c2 : Nat) :
    Calls Tryz.prog 46 #[.pointer (some ⟨E.R, 0, none⟩), .agg #[.int .i64 17, .int .i64 v, .slice ka kids.length kc, .bool s, .slice a1 l1 c1, .slice a2 l2 c2]] W (GivesV (.bool (inOrder (ordB 17) vs kids)) W) := by
  obtain ⟨W2, hW2⟩ : ∃ W2, W2 = W.alloc (.cells #[.int .i64 17, .int .i64 v, .slice ka kids.length kc, .bool s, .slice a1 l1 c1, .slice a2 l2 c2] 33) := ⟨_, rfl⟩
  have hb2 : Below W.heap.size W W2 := by rw [hW2]; exact (Below.refl _ _).alloc (Nat.le_refl _) _
  have HB2 := Lib.hid hb2
  have HR := h.kept hb2
  obtain ⟨_, _, _, c3, _, _⟩ := HR.cells
  have HIO : Hid (∀ W', Below W2.heap.size W2 W' → Calls Tryz.prog 85 #[.pointer (some ⟨E.R, 0, none⟩), .slice ka kids.length kc, (.func (.func 70) #[] #[.pointer (some ⟨E.L, 0, none⟩)])] W' (GivesV (.bool (inOrder (ordB 17) vs kids)) W')) := Lib.hid fun W' hW' => by
    have HR := HR.kept hW'
    exact inOrderB HR ((hk.kept hb2).kept hW') h2 hin hs (atLeast_ord HR.ords)
  obtain ⟨n, hn⟩ : ∃ n, kids.length = n := ⟨_, rfl⟩
  rw [hn] at HIO hW2 ⊢
  have HX : Hid (W2.drew.cell? ⟨W.heap.size, 0, none⟩ = some (.int .i64 17) ∧ W2.drew.cell? ⟨W.heap.size, 2, none⟩ = some (.slice ka n kc) ∧ W2.drew.cell? ⟨E.R, 3, none⟩ = some (.map (some E.mo)) ∧ IM W2.drew E.mo (ordL E.L)) := Lib.hid ⟨by rw [hW2]; simp, by rw [hW2]; simp, c3, HR.ords.map⟩
  generalize inOrder (ordB 17) vs kids = res at *
  clear h hk hin hs hb2 c3 h2 hn HR
  go_enter Tryz.func46, Tryz.ntmps46
  go_wp2_with fail
  rw [← hW2]
  clear hW2
  refine wp_region_held_drew (S := (fun w' => w'.cell? ⟨W.heap.size, 0, none⟩ = some (.int .i64 17) ∧ w'.cell? ⟨W.heap.size, 2, none⟩ = some (.slice ka n kc) ∧ w'.cell? ⟨E.R, 3, none⟩ = some (.map (some E.mo)) ∧ IM w' E.mo (ordL E.L))) (by kernel_rfl) ?_ (fun hHeld => ?_)
  · exact HX.out
  refine wpAnyH_take (i := 0) (v := ?_) (by rfl) (by kernel_rfl) (by kernel_rfl) (by kernel_rfl) (by exact fun _ _ _ h => h) (Or.inl ⟨by rfl, ?_⟩) hHeld ?_
  rotate_left 1
  · intro w' hSw
    (try dsimp only at hSw)
    go_simp
    try with_reducible rfl
  try simp only [Act.put, List.setIfInBounds_toArray, List.set_cons_zero, List.set_cons_succ, List.getElem_toArray, List.getElem_cons_zero, List.getElem_cons_succ]
  refine wpAnyH_take (i := 1) (v := ?_) (by rfl) (by kernel_rfl) (by kernel_rfl) (by kernel_rfl) (by exact fun _ _ _ h => h) (Or.inl ⟨by rfl, ?_⟩) hHeld ?_
  rotate_left 1
  · intro w' hSw
    (try dsimp only at hSw)
    go_simp
    try with_reducible rfl
  try simp only [Act.put, List.setIfInBounds_toArray, List.set_cons_zero, List.set_cons_succ, List.getElem_toArray, List.getElem_cons_zero, List.getElem_cons_succ]
  refine wpAnyH_take (i := 2) (v := .slice ka n kc) (by rfl) (by kernel_rfl) (by kernel_rfl) (by kernel_rfl) (by exact fun _ _ _ h => h) (Or.inl ⟨by rfl, ?_⟩) hHeld ?_
  · intro w' hSw
    obtain ⟨s1, s2, s3, s4⟩ := hSw
    go_simp
  try simp only [Act.put, List.setIfInBounds_toArray, List.set_cons_zero, List.set_cons_succ, List.getElem_toArray, List.getElem_cons_zero, List.getElem_cons_succ]
  refine wpAnyH_take (i := 3) (v := ?_) (by rfl) (by kernel_rfl) (by kernel_rfl) (by kernel_rfl) (by exact fun _ _ _ h => h) (Or.inl ⟨by rfl, ?_⟩) hHeld ?_
  rotate_left 1
  · intro w' hSw
    (try dsimp only at hSw)
    go_simp
    try with_reducible rfl
  try simp only [Act.put, List.setIfInBounds_toArray, List.set_cons_zero, List.set_cons_succ, List.getElem_toArray, List.getElem_cons_zero, List.getElem_cons_succ]
  refine wpAnyH_take (i := 4) (v := ?_) (by rfl) (by kernel_rfl) (by kernel_rfl) (by kernel_rfl) (by exact fun _ _ _ h => h) (Or.inl ⟨by rfl, ?_⟩) hHeld ?_
  rotate_left 1
  · intro w' hSw
    (try dsimp only at hSw)
    go_simp
    try with_reducible rfl
  try simp only [Act.put, List.setIfInBounds_toArray, List.set_cons_zero, List.set_cons_succ, List.getElem_toArray, List.getElem_cons_zero, List.getElem_cons_succ]
  refine wpAnyH_take (i := 5) (v := ?_) (by rfl) (by kernel_rfl) (by kernel_rfl) (by kernel_rfl) (by exact fun _ _ _ h => h) (Or.inl ⟨by rfl, ?_⟩) hHeld ?_
  rotate_left 1
  · intro w' hSw
    (try dsimp only at hSw)
    go_simp
    try with_reducible rfl
  try simp only [Act.put, List.setIfInBounds_toArray, List.set_cons_zero, List.set_cons_succ, List.getElem_toArray, List.getElem_cons_zero, List.getElem_cons_succ]
  refine wpAnyH_take (i := 6) (v := .map (some E.mo)) (by rfl) (by kernel_rfl) (by kernel_rfl) (by kernel_rfl) (by exact fun _ _ _ h => h) (Or.inl ⟨by rfl, ?_⟩) hHeld ?_
  · intro w' hSw
    obtain ⟨s1, s2, s3, s4⟩ := hSw
    go_simp
  try simp only [Act.put, List.setIfInBounds_toArray, List.set_cons_zero, List.set_cons_succ, List.getElem_toArray, List.getElem_cons_zero, List.getElem_cons_succ]
  refine wpAnyH_take (i := 7) (v := ?_) (by rfl) (by kernel_rfl) (by kernel_rfl) (by kernel_rfl) (by exact fun _ _ _ h => h) (Or.inl ⟨by rfl, ?_⟩) hHeld ?_
  rotate_left 1
  · intro w' hSw
    (try dsimp only at hSw)
    go_simp
    try with_reducible rfl
  try simp only [Act.put, List.setIfInBounds_toArray, List.set_cons_zero, List.set_cons_succ, List.getElem_toArray, List.getElem_cons_zero, List.getElem_cons_succ]
  refine wpAnyH_take (i := 8) (v := .int .i64 17) (by rfl) (by kernel_rfl) (by kernel_rfl) (by kernel_rfl) (by exact fun _ _ _ h => h) (Or.inl ⟨by rfl, ?_⟩) hHeld ?_
  · intro w' hSw
    obtain ⟨s1, s2, s3, s4⟩ := hSw
    go_simp
  try simp only [Act.put, List.setIfInBounds_toArray, List.set_cons_zero, List.set_cons_succ, List.getElem_toArray, List.getElem_cons_zero, List.getElem_cons_succ]
  refine wpAnyH_take (i := 9) (v := (.func (.func 70) #[] #[.pointer (some ⟨E.L, 0, none⟩)])) (by rfl) (by kernel_rfl) (by kernel_rfl) (by kernel_rfl) (by exact fun _ _ _ h => h) (Or.inl ⟨by rfl, ?_⟩) hHeld ?_
  · intro w' hSw
    exact run_look_op (.tmp 88) (.tmp 90) rfl Tryz.underlying75 Tryz.underlying3 .nilFunc (zero_ord _) E.mo rfl 17 rfl _ hSw.2.2.2 (.func (.func 70) #[] #[.pointer (some ⟨E.L, 0, none⟩)]) rfl
  try simp only [Act.put, List.setIfInBounds_toArray, List.set_cons_zero, List.set_cons_succ, List.getElem_toArray, List.getElem_cons_zero, List.getElem_cons_succ]
  refine wpAnyH_ready (rs := [10]) (by kernel_rfl) (by simp) ?_
  refine AllReadyH.cons (by rfl) (fun K hK => ?_) AllReadyH.nil
  go_simp
  refine (HIO.out _ (Below.refl _ _).drew).mono ?_
  rintro e w5 ⟨rfl, hb5⟩
  have HB5 := Lib.hid (HB2.out.drew.trans (hb5.mono HB2.out.drew.size))
  refine hK.out _ _ ?_ (fun hHeld => ?_)
  · exact ⟨cell_kept HX.out.1 hb5, cell_kept HX.out.2.1 hb5, cell_kept HX.out.2.2.1 hb5, HX.out.2.2.2.past (hb5.block _ HX.out.2.2.2.lt)⟩
  clear hK K
  try simp only [Act.put, List.setIfInBounds_toArray, List.set_cons_zero, List.set_cons_succ, List.getElem_toArray, List.getElem_cons_zero, List.getElem_cons_succ]
  refine wpAnyH_take (i := 11) (v := ?_) (by rfl) (by kernel_rfl) (by kernel_rfl) (by kernel_rfl) (by exact fun _ _ _ h => h) (Or.inl ⟨by rfl, ?_⟩) hHeld ?_
  rotate_left 1
  · intro w' hSw
    (try dsimp only at hSw)
    go_simp
    try with_reducible rfl
  try simp only [Act.put, List.setIfInBounds_toArray, List.set_cons_zero, List.set_cons_succ, List.getElem_toArray, List.getElem_cons_zero, List.getElem_cons_succ]
  refine wpAnyH_done (by kernel_rfl) ?_ _
  clear hHeld hb5
  go_wp2_with fail
  go_ret
  exact GivesV.mk' rfl HB5.out
end
end Go.Proofs.YthnklohpmcebkaaGreatDoor
