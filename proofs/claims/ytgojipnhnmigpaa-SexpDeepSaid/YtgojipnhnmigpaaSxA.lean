/-
  Layer 8: within, last, put.
-/
import Derived.Test.YtgojipnhnmigpaaSxSt
import Derived.Test.YtgojipnhnmigpaaSxReg
set_option linter.unusedVariables false
set_option linter.unusedSimpArgs false
namespace Go.Proofs.Ytgojipnhnmigpaa
open Go.RowKit Sx

section
variable {w0 W W' : World} {R N : Nat} {fs : List Fr} {sv v : Value} {vs : List Value} {f : Fr}
set_option maxRecDepth 100000 in
set_option maxHeartbeats 2000000 in
theorem within_any {n : Nat} (h : RSt w0 R N W fs sv vs) (hn : fs.length = n + 1) : Calls Try.prog 14 #[.pointer (some ⟨R, 0, none⟩)] W (fun e w' => e = .returned (.int .i64 (n : Int)) ∧ w' = W) := by
  obtain ⟨c0, f0⟩ := h.cells
  obtain ⟨g, c, m, rfl, hm, hmc, hg, hgR⟩ := h.value
  obtain rfl : m = n := by omega
  have hd := h.deep
  have hw : wrap64 (m : Int) = (m : Int) := IntWalk.wrap64_in _ (by omega)
  clear h hn hm hmc hg hgR hd
  go_enter Try.func14, Try.ntmps14
  go_wp2_with fail
  go_ret
  exact ⟨by simp [hw], rfl⟩
set_option maxRecDepth 100000 in
set_option maxHeartbeats 4000000 in
theorem last_any {g c n : Nat} (h : RSt w0 R N W fs (.slice (some ⟨g, 0, none⟩) (n + 1) c) vs) (hn : fs.length = n + 1) : Calls Try.prog 15 #[.pointer (some ⟨R, 0, none⟩)] W (fun e w' => e = .returned (.pointer (some ⟨g, n * 5, none⟩)) ∧ w' = W.drew) := by
  obtain ⟨c0, f0⟩ := h.cells
  have hd := h.deep
  have hn1 : n ≤ 1000 := by omega
  clear h hn hd
  go_enter Try.func15, Try.ntmps15
  go_wp2_with fail
  refine wp_region_held_drew (S := (fun w' => w'.cell? ⟨R, 0, none⟩ = some (.slice (some ⟨g, 0, none⟩) (n + 1) c))) (by kernel_rfl) ?_ (fun hHeld => ?_)
  · exact c0
  refine wpAnyH_take (i := 0) (v := ?_) (by rfl) (by kernel_rfl) (by kernel_rfl) (by kernel_rfl) (by exact fun _ _ _ h => h) (Or.inl ⟨by rfl, ?_⟩) hHeld ?_
  rotate_left 1
  · intro w' hSw
    (try dsimp only at hSw)
    go_simp
    try with_reducible rfl
  try simp only [Act.put, List.setIfInBounds_toArray, List.set_cons_zero, List.set_cons_succ, List.getElem_toArray, List.getElem_cons_zero, List.getElem_cons_succ]
  refine wpAnyH_take (i := 1) (v := ?_) (by rfl) (by kernel_rfl) (by kernel_rfl) (by kernel_rfl) (by exact fun _ _ _ h => h) (Or.inl ⟨by rfl, ?_⟩) hHeld ?_
  rotate_left 1
  · intro w' hSw
    (try dsimp only at hSw)
    go_simp
    try with_reducible rfl
  try simp only [Act.put, List.setIfInBounds_toArray, List.set_cons_zero, List.set_cons_succ, List.getElem_toArray, List.getElem_cons_zero, List.getElem_cons_succ]
  refine wpAnyH_take (i := 2) (v := ?_) (by rfl) (by kernel_rfl) (by kernel_rfl) (by kernel_rfl) (by exact fun _ _ _ h => h) (Or.inl ⟨by rfl, ?_⟩) hHeld ?_
  rotate_left 1
  · intro w' hSw
    (try dsimp only at hSw)
    go_simp
    try with_reducible rfl
  try simp only [Act.put, List.setIfInBounds_toArray, List.set_cons_zero, List.set_cons_succ, List.getElem_toArray, List.getElem_cons_zero, List.getElem_cons_succ]
  refine wpAnyH_take (i := 3) (v := ?_) (by rfl) (by kernel_rfl) (by kernel_rfl) (by kernel_rfl) (by exact fun _ _ _ h => h) (Or.inl ⟨by rfl, ?_⟩) hHeld ?_
  rotate_left 1
  · intro w' hSw
    (try dsimp only at hSw)
    go_simp
    try with_reducible rfl
  try simp only [Act.put, List.setIfInBounds_toArray, List.set_cons_zero, List.set_cons_succ, List.getElem_toArray, List.getElem_cons_zero, List.getElem_cons_succ]
  refine wpAnyH_take (i := 4) (v := ?_) (by rfl) (by kernel_rfl) (by kernel_rfl) (by kernel_rfl) (by exact fun _ _ _ h => h) (Or.inl ⟨by rfl, ?_⟩) hHeld ?_
  rotate_left 1
  · intro w' hSw
    (try dsimp only at hSw)
    go_simp
    try with_reducible rfl
  try simp only [Act.put, List.setIfInBounds_toArray, List.set_cons_zero, List.set_cons_succ, List.getElem_toArray, List.getElem_cons_zero, List.getElem_cons_succ]
  refine wpAnyH_take (i := 5) (v := ?_) (by rfl) (by kernel_rfl) (by kernel_rfl) (by kernel_rfl) (by exact fun _ _ _ h => h) (Or.inl ⟨by rfl, ?_⟩) hHeld ?_
  rotate_left 1
  · intro w' hSw
    (try dsimp only at hSw)
    go_simp
    try with_reducible rfl
  try simp only [Act.put, List.setIfInBounds_toArray, List.set_cons_zero, List.set_cons_succ, List.getElem_toArray, List.getElem_cons_zero, List.getElem_cons_succ]
  refine wpAnyH_take (i := 6) (v := ?_) (by rfl) (by kernel_rfl) (by kernel_rfl) (by kernel_rfl) (by exact fun _ _ _ h => h) (Or.inl ⟨by rfl, ?_⟩) hHeld ?_
  rotate_left 1
  · intro w' hSw
    (try dsimp only at hSw)
    go_simp
    try with_reducible rfl
  try simp only [Act.put, List.setIfInBounds_toArray, List.set_cons_zero, List.set_cons_succ, List.getElem_toArray, List.getElem_cons_zero, List.getElem_cons_succ]
  refine wpAnyH_take (i := 7) (v := ?_) (by rfl) (by kernel_rfl) (by kernel_rfl) (by kernel_rfl) (by exact fun _ _ _ h => h) (Or.inl ⟨by rfl, ?_⟩) hHeld ?_
  rotate_left 1
  · intro w' hSw
    (try dsimp only at hSw)
    go_simp
    try with_reducible rfl
  try simp only [Act.put, List.setIfInBounds_toArray, List.set_cons_zero, List.set_cons_succ, List.getElem_toArray, List.getElem_cons_zero, List.getElem_cons_succ]
  refine wpAnyH_take (i := 8) (v := ?_) (by rfl) (by kernel_rfl) (by kernel_rfl) (by kernel_rfl) (by exact fun _ _ _ h => h) (Or.inl ⟨by rfl, ?_⟩) hHeld ?_
  rotate_left 1
  · intro w' hSw
    (try dsimp only at hSw)
    go_simp
    try with_reducible rfl
  try simp only [Act.put, List.setIfInBounds_toArray, List.set_cons_zero, List.set_cons_succ, List.getElem_toArray, List.getElem_cons_zero, List.getElem_cons_succ]
  refine wpAnyH_take (i := 9) (v := .int .i64 (n : Int)) (by rfl) (by kernel_rfl) (by kernel_rfl) (by kernel_rfl) (by exact fun _ _ _ h => h) (Or.inl ⟨by rfl, ?_⟩) hHeld ?_
  · intro w' hSw
    exact sub_one rfl rfl rfl (by omega)
  try simp only [Act.put, List.setIfInBounds_toArray, List.set_cons_zero, List.set_cons_succ, List.getElem_toArray, List.getElem_cons_zero, List.getElem_cons_succ]
  refine wpAnyH_take (i := 10) (v := .pointer (some ⟨g, n * 5, none⟩)) (by rfl) (by kernel_rfl) (by kernel_rfl) (by kernel_rfl) (by exact fun _ _ _ h => h) (Or.inl ⟨by rfl, ?_⟩) hHeld ?_
  · intro w' hSw
    exact idx_sexp rfl rfl rfl (by omega)
  try simp only [Act.put, List.setIfInBounds_toArray, List.set_cons_zero, List.set_cons_succ, List.getElem_toArray, List.getElem_cons_zero, List.getElem_cons_succ]
  refine wpAnyH_take (i := 11) (v := ?_) (by rfl) (by kernel_rfl) (by kernel_rfl) (by kernel_rfl) (by exact fun _ _ _ h => h) (Or.inl ⟨by rfl, ?_⟩) hHeld ?_
  rotate_left 1
  · intro w' hSw
    (try dsimp only at hSw)
    go_simp
    try with_reducible rfl
  try simp only [Act.put, List.setIfInBounds_toArray, List.set_cons_zero, List.set_cons_succ, List.getElem_toArray, List.getElem_cons_zero, List.getElem_cons_succ]
  refine wpAnyH_done (by kernel_rfl) ?_ _
  clear hHeld
  go_wp2_with fail
  go_ret
  exact ⟨rfl, rfl⟩
theorem RowS.form {w : World} {B : Nat} {F : Nat → Prop} {v : Value} {x : Fo} (h : RowS w B F v x) : ∃ a c, v = .slice a x.len c := by
  obtain ⟨C, ⟨_, ⟨rfl, e⟩ | ⟨g, cap, cur, rfl, _⟩⟩, _⟩ := h
  · exact ⟨none, 0, by rw [e]⟩
  · exact ⟨_, cap, rfl⟩
theorem ownsRow_form' {w : World} {B s n : Nat} {e : TypeId} {v : Value} {C : List Value} (h : w.ownsRow B e s v (n + 1) C) : ∃ g c, v = .slice (some ⟨g, 0, none⟩) (n + 1) c := by
  obtain ⟨_, ⟨_, e⟩ | ⟨g, cap, cur, rfl, _⟩⟩ := h
  · omega
  · exact ⟨g, cap, rfl⟩
theorem z5_new (w : World) : ∀ j u, z5[j]? = some u → (w.alloc (.cells z5.toArray 38)).cell? ((⟨w.heap.size, 0, none⟩ : Addr).add j) = some u := fun j u hu => by
  rw [Addr.add_mid]
  exact rangeAt_new w z5 38 j u hu
theorem rangeAt_blk {w w' : World} {b o : Nat} {cs : List Value} (h : w.rangeAt b o cs) (hb : w'.heap[b]? = w.heap[b]?) : w'.rangeAt b o cs := fun j u hu => (World.cell?_of_block (a := ⟨b, o + j, none⟩) hb).trans (h j u hu)
theorem z5_one : ∀ u ∈ z5, u.oneCell' = true := by
  intro u hu
  simp only [z5, List.mem_cons, List.not_mem_nil, or_false] at hu
  rcases hu with rfl | rfl | rfl | rfl | rfl <;> rfl
theorem SlAt.cell1 {w : World} {F : Nat → Prop} {v : Value} {k : Fo} (h : SlAt w F v k) : v.oneCell' = true := by
  obtain ⟨a, c, D, rfl, _⟩ := h
  rfl
set_option maxRecDepth 100000 in
set_option maxHeartbeats 8000000 in
theorem put_any {l : Bool} {t : Tk} {kv : Value} {k : Fo} (h : RSt w0 R N W (f :: fs) sv (v :: vs)) (hk : SlAt W (Free w0.heap.size (rv R :: sv :: v :: vs)) kv k) (hN : N + 1 ≤ 1000000) :
    Calls Try.prog 23 #[.pointer (some ⟨R, 0, none⟩), .agg #[.bool l, .int .i64 t.k, .string t.t, .int .i64 t.p, kv]] W (fun e w' => e = .returned (.tuple #[]) ∧ ∃ v', RSt w0 R (N + 1) w' (f.put (.one l t k) :: fs) sv (v' :: vs)) := by
  obtain ⟨g, c, n, rfl, hn, hnc, hgl, hgR⟩ := h.value
  have hn' : fs.length = n := by simpa using hn
  obtain ⟨va, vc, rfl⟩ := h.rows.1.form
  have b1 : Below W.heap.size W (W.alloc (.cells (sx5 l t kv).toArray 38)) := (Below.refl _ _).alloc (Nat.le_refl _) _
  have H1 := Lib.hid (h.kept b1)
  have HLAST := Lib.hid (last_any H1.out (by simpa using hn))
  have b4 : Below W.heap.size W ((W.alloc (.cells (sx5 l t kv).toArray 38)).drew.drew.alloc (.cells z5.toArray 38)) := b1.drew.drew.alloc b1.size _
  have H4 := Lib.hid (h.kept b4)
  have HK4 := Lib.hid (hk.kept b4)
  have hr4 := H4.out.rows.1
  obtain ⟨C, hC1, hC2⟩ := hr4
  have HROW := Lib.hid (And.intro hC1 hC2)
  have hfew := h.few f (by simp)
  have hsm := h.small
  have HLEN : Hid (f.acc.len + 1 ≤ 2000000) := Lib.hid (by omega)
  have HLE : Hid (w0.heap.size ≤ ((W.alloc (.cells (sx5 l t kv).toArray 38)).drew.drew.alloc (.cells z5.toArray 38)).heap.size) := Lib.hid (Nat.le_trans h.below.size b4.size)
  have hbox0 : ((W.alloc (.cells (sx5 l t kv).toArray 38)).drew.drew).rangeAt W.heap.size 0 (sx5 l t kv) := rangeAt_new W (sx5 l t kv) 38
  have HBOX4 : Hid (((W.alloc (.cells (sx5 l t kv).toArray 38)).drew.drew.alloc (.cells z5.toArray 38)).rangeAt W.heap.size 0 (sx5 l t kv)) := Lib.hid (World.rangeAt_alloc hbox0 _)
  have hst := H4.out.stack
  have hcell4 : ((W.alloc (.cells (sx5 l t kv).toArray 38)).drew.drew.alloc (.cells z5.toArray 38)).cell? ⟨g, n * 5 + 4, none⟩ = some (.slice va f.acc.len vc) := by
    rw [List.length_cons, hn'] at hst
    rw [hst.cellAt _ (by omega), stackC, List.getElem?_append_right (by rw [stackC_len h.rows.2]; omega), stackC_len h.rows.2, hn', Nat.add_sub_cancel_left]
    rfl
  have hcell2 : ((W.alloc (.cells (sx5 l t kv).toArray 38)).drew.drew).cell? ⟨g, n * 5 + 4, none⟩ = some (.slice va f.acc.len vc) := by
    rw [← World.cell?_alloc_lt ((W.alloc (.cells (sx5 l t kv).toArray 38)).drew.drew) (.cells z5.toArray 38) _ (by show g < _; have := b1.size; have e : ((W.alloc (.cells (sx5 l t kv).toArray 38)).drew.drew).heap.size = (W.alloc (.cells (sx5 l t kv).toArray 38)).heap.size := rfl; omega)]
    exact hcell4
  have HOWNV : Hid (∀ j, (Value.slice va f.acc.len vc).ownBlock = some j → j < W.heap.size) := Lib.hid (fun j hj => (h.own _ (by simp) j hj).2)
  have HKV := Lib.hid hk.cell1
  have HGL : Hid (g ≠ W.heap.size) := Lib.hid (by omega)
  have hz := z5_new ((W.alloc (.cells (sx5 l t kv).toArray 38)).drew.drew)
  rw [show ((W.alloc (.cells (sx5 l t kv).toArray 38)).drew.drew).heap.size = W.heap.size + 1 by simp] at hz
  have HZ := Lib.hid hz
  clear hz
  have HN := Lib.hid hN
  have HNN := Lib.hid hn'
  have HSF := Lib.hid (show sx5 l t kv = [.bool l, .int .i64 t.k, .string t.t, .int .i64 t.p, kv] from rfl)
  have HC2 := Lib.hid hcell2
  have HC4 := Lib.hid hcell4
  clear hcell2 hcell4 h hk hn hn' hnc hgl hgR b1 b4 hC1 hC2 hfew hsm hst hN
  go_enter Try.func23, Try.ntmps23
  go_wp2_with fail
  refine HLAST.out.mono ?_
  rintro e w2 ⟨rfl, rfl⟩
  clear HLAST
  go_wp2_with fail
  refine wp_region_held_drew (S := (fun w' => w'.rangeAt W.heap.size 0 (sx5 l t kv))) (by kernel_rfl) ?_ (fun hHeld => ?_)
  · exact hbox0
  refine wpAnyH_take (i := 0) (v := ?_) (by rfl) (by kernel_rfl) (by kernel_rfl) (by kernel_rfl) (by exact fun _ _ _ h => h) (Or.inl ⟨by rfl, ?_⟩) hHeld ?_
  rotate_left 1
  · intro w' hSw
    (try dsimp only at hSw)
    go_simp
    try with_reducible rfl
  try simp only [Act.put, List.setIfInBounds_toArray, List.set_cons_zero, List.set_cons_succ, List.getElem_toArray, List.getElem_cons_zero, List.getElem_cons_succ]
  refine wpAnyH_take (i := 1) (v := ?_) (by rfl) (by kernel_rfl) (by kernel_rfl) (by kernel_rfl) (by exact fun _ _ _ h => h) (Or.inl ⟨by rfl, ?_⟩) hHeld ?_
  rotate_left 1
  · intro w' hSw
    (try dsimp only at hSw)
    go_simp
    try with_reducible rfl
  try simp only [Act.put, List.setIfInBounds_toArray, List.set_cons_zero, List.set_cons_succ, List.getElem_toArray, List.getElem_cons_zero, List.getElem_cons_succ]
  refine wpAnyH_take (i := 2) (v := ?_) (by rfl) (by kernel_rfl) (by kernel_rfl) (by kernel_rfl) (by exact fun _ _ _ h => h) (Or.inl ⟨by rfl, ?_⟩) hHeld ?_
  rotate_left 1
  · intro w' hSw
    (try dsimp only at hSw)
    go_simp
    try with_reducible rfl
  try simp only [Act.put, List.setIfInBounds_toArray, List.set_cons_zero, List.set_cons_succ, List.getElem_toArray, List.getElem_cons_zero, List.getElem_cons_succ]
  refine wpAnyH_take (i := 4) (v := .agg (sx5 l t kv).toArray) (by rfl) (by kernel_rfl) (by kernel_rfl) (by kernel_rfl) (by exact fun _ _ _ h => h) (Or.inl ⟨by rfl, ?_⟩) hHeld ?_
  · intro w' hSw
    exact run_load_op 38 (.tmp 3) rfl W.heap.size 0 rfl (sx5 l t kv) _ hSw Try.underlying38 rfl size_sexp
  try simp only [Act.put, List.setIfInBounds_toArray, List.set_cons_zero, List.set_cons_succ, List.getElem_toArray, List.getElem_cons_zero, List.getElem_cons_succ]
  refine wpAnyH_ready (rs := [3, 6]) (by kernel_rfl) (by simp) ?_
  refine AllReadyH.cons (by rfl) (fun K hK => ?_) ?_
  · refine step_val _ (load_sl (.tmp 9) rfl rfl HC2.out) rfl ?_
    refine hK.out _ _ ?_ (fun hHeld => ?_)
    · exact hHeld
    clear hK K
    try simp only [Act.put, List.setIfInBounds_toArray, List.set_cons_zero, List.set_cons_succ, List.getElem_toArray, List.getElem_cons_zero, List.getElem_cons_succ]
    refine wpAnyH_take (i := 5) (v := ?_) (by rfl) (by kernel_rfl) (by kernel_rfl) (by kernel_rfl) (by exact fun _ _ _ h => h) (Or.inl ⟨by rfl, ?_⟩) hHeld ?_
    rotate_left 1
    · intro w' hSw
      (try dsimp only at hSw)
      go_simp
      try with_reducible rfl
    try simp only [Act.put, List.setIfInBounds_toArray, List.set_cons_zero, List.set_cons_succ, List.getElem_toArray, List.getElem_cons_zero, List.getElem_cons_succ]
    refine wpAnyH_ready (rs := [6]) (by kernel_rfl) (by simp) ?_
    refine AllReadyH.cons (by rfl) (fun K hK => ?_) AllReadyH.nil
    go_simp
    refine hK.out _ _ ?_ (fun hHeld => ?_)
    · exact HBOX4.out
    clear hK K
    try simp only [Act.put, List.setIfInBounds_toArray, List.set_cons_zero, List.set_cons_succ, List.getElem_toArray, List.getElem_cons_zero, List.getElem_cons_succ]
    refine wpAnyH_ready (rs := [7]) (by kernel_rfl) (by simp) ?_
    refine AllReadyH.cons (by rfl) (fun K hK => ?_) AllReadyH.nil
    refine step_app_sexp rfl (.tmp 10) (.tmp 13) rfl w0.heap.size (.slice va f.acc.len vc) f.acc.len C rfl HROW.out.1 ⟨W.heap.size + 1, 0, none⟩ 1 1 z5 rfl rfl (by exact HZ.out) z5_one HLEN.out HLE.out ?_
    intro v' w5 hown hgrw hnew
    obtain ⟨g', c', rfl⟩ := ownsRow_form' hown
    have HF := Lib.hid (put_fin (l := l) (t := t) H4.out HNN.out HROW.out.2 HK4.out HN.out hown hgrw (hnew g' rfl))
    have g5 : w5.rangeAt W.heap.size 0 (sx5 l t kv) := fun j u hu => hgrw.cell (HBOX4.out j u hu) (fun e => by have := HOWNV.out _ e.symm; exact Nat.lt_irrefl _ this)
    have HNE := Lib.hid HF.out.1
    have gc := HF.out.2.2.2.1.1
    have gf := HF.out.2.2.2.1.2
    have gc2 := HF.out.2.2.2.2.1.1
    have gf2 := HF.out.2.2.2.2.1.2
    have HG : Hid (g' ≠ W.heap.size ∧ g ≠ W.heap.size) := Lib.hid ⟨by
      rcases hnew g' rfl with e | e
      · have := HOWNV.out _ e
        omega
      · simp at e
        omega, HGL.out⟩
    clear hown hgrw hnew
    refine hK.out _ _ ?_ (fun hHeld => ?_)
    · exact g5
    clear hK K
    try simp only [Act.put, List.setIfInBounds_toArray, List.set_cons_zero, List.set_cons_succ, List.getElem_toArray, List.getElem_cons_zero, List.getElem_cons_succ]
    refine wpAnyH_take (i := 8) (v := .pointer (some ⟨g', f.acc.len * 5, none⟩)) (by rfl) (by kernel_rfl) (by kernel_rfl) (by kernel_rfl) (by exact fun _ _ _ h => h) (Or.inl ⟨by rfl, ?_⟩) hHeld ?_
    · intro w' hSw
      exact idx_sexp rfl rfl rfl (by omega)
    try simp only [Act.put, List.setIfInBounds_toArray, List.set_cons_zero, List.set_cons_succ, List.getElem_toArray, List.getElem_cons_zero, List.getElem_cons_succ]
    refine wpAnyH_take (i := 10) (v := ?_) (by rfl) (by kernel_rfl) (by kernel_rfl) (by kernel_rfl) (by exact fun _ _ _ h => h) (Or.inl ⟨by rfl, ?_⟩) hHeld ?_
    rotate_left 1
    · intro w' hSw
      (try dsimp only at hSw)
      go_simp
      try with_reducible rfl
    try simp only [Act.put, List.setIfInBounds_toArray, List.set_cons_zero, List.set_cons_succ, List.getElem_toArray, List.getElem_cons_zero, List.getElem_cons_succ]
    refine wpAnyH_take (i := 11) (v := ?_) (by rfl) (by kernel_rfl) (by kernel_rfl) (by kernel_rfl) (by exact fun _ _ _ h => h) (Or.inl ⟨by rfl, ?_⟩) hHeld ?_
    rotate_left 1
    · intro w' hSw
      (try dsimp only at hSw)
      go_simp
      try with_reducible rfl
    try simp only [Act.put, List.setIfInBounds_toArray, List.set_cons_zero, List.set_cons_succ, List.getElem_toArray, List.getElem_cons_zero, List.getElem_cons_succ]
    refine wpAnyH_ready (rs := [9, 12]) (by kernel_rfl) (by simp) ?_
    refine AllReadyH.cons (by rfl) (fun K hK => ?_) ?_
    · refine step_store_cells rfl 38 (.tmp 15) (.tmp 11) rfl g' (f.acc.len * 5) (sx5 l t kv).toArray rfl rfl (by exact HF.out.2.1) size_sexp (sx5_one l t HKV.out) ?_
      refine hK.out _ _ ?_ (fun hHeld => ?_)
      · exact rangeAt_blk hHeld (heap_setCells_other _ _ _ _ _ (fun e => HG.out.1 e.symm))
      clear hK K
      try simp only [Act.put, List.setIfInBounds_toArray, List.set_cons_zero, List.set_cons_succ, List.getElem_toArray, List.getElem_cons_zero, List.getElem_cons_succ]
      refine wpAnyH_ready (rs := [12]) (by kernel_rfl) (by simp) ?_
      refine AllReadyH.cons (by rfl) (fun K hK => ?_) AllReadyH.nil
      go_simp
      refine hK.out _ _ ?_ (fun hHeld => ?_)
      · exact rangeAt_blk hHeld (heap_setCell_other _ _ _ _ (fun e => HG.out.2 e.symm))
      clear hK K
      try simp only [Act.put, List.setIfInBounds_toArray, List.set_cons_zero, List.set_cons_succ, List.getElem_toArray, List.getElem_cons_zero, List.getElem_cons_succ]
      refine wpAnyH_done (by kernel_rfl) ?_ _
      clear hHeld
      go_wp2_with fail
      go_end0
      exact ⟨rfl, _, HF.out.2.2.2.2.2.1⟩
    refine AllReadyH.cons (by rfl) (fun K hK => ?_) ?_
    · go_simp
      refine hK.out _ _ ?_ (fun hHeld => ?_)
      · exact rangeAt_blk hHeld (heap_setCell_other _ _ _ _ (fun e => HG.out.2 e.symm))
      clear hK K
      try simp only [Act.put, List.setIfInBounds_toArray, List.set_cons_zero, List.set_cons_succ, List.getElem_toArray, List.getElem_cons_zero, List.getElem_cons_succ]
      refine wpAnyH_ready (rs := [9]) (by kernel_rfl) (by simp) ?_
      refine AllReadyH.cons (by rfl) (fun K hK => ?_) AllReadyH.nil
      refine step_store_cells rfl 38 (.tmp 15) (.tmp 11) rfl g' (f.acc.len * 5) (sx5 l t kv).toArray rfl rfl (by exact HF.out.2.2.1) size_sexp (sx5_one l t HKV.out) ?_
      refine hK.out _ _ ?_ (fun hHeld => ?_)
      · exact rangeAt_blk hHeld (heap_setCells_other _ _ _ _ _ (fun e => HG.out.1 e.symm))
      clear hK K
      try simp only [Act.put, List.setIfInBounds_toArray, List.set_cons_zero, List.set_cons_succ, List.getElem_toArray, List.getElem_cons_zero, List.getElem_cons_succ]
      refine wpAnyH_done (by kernel_rfl) ?_ _
      clear hHeld
      go_wp2_with fail
      go_end0
      exact ⟨rfl, _, HF.out.2.2.2.2.2.2⟩
    exact AllReadyH.nil
  refine AllReadyH.cons (by rfl) (fun K hK => ?_) ?_
  · go_simp
    refine hK.out _ _ ?_ (fun hHeld => ?_)
    · exact HBOX4.out
    clear hK K
    try simp only [Act.put, List.setIfInBounds_toArray, List.set_cons_zero, List.set_cons_succ, List.getElem_toArray, List.getElem_cons_zero, List.getElem_cons_succ]
    refine wpAnyH_ready (rs := [3]) (by kernel_rfl) (by simp) ?_
    refine AllReadyH.cons (by rfl) (fun K hK => ?_) AllReadyH.nil
    refine step_val _ (load_sl (.tmp 9) rfl rfl HC4.out) rfl ?_
    refine hK.out _ _ ?_ (fun hHeld => ?_)
    · exact hHeld
    clear hK K
    try simp only [Act.put, List.setIfInBounds_toArray, List.set_cons_zero, List.set_cons_succ, List.getElem_toArray, List.getElem_cons_zero, List.getElem_cons_succ]
    refine wpAnyH_take (i := 5) (v := ?_) (by rfl) (by kernel_rfl) (by kernel_rfl) (by kernel_rfl) (by exact fun _ _ _ h => h) (Or.inl ⟨by rfl, ?_⟩) hHeld ?_
    rotate_left 1
    · intro w' hSw
      (try dsimp only at hSw)
      go_simp
      try with_reducible rfl
    try simp only [Act.put, List.setIfInBounds_toArray, List.set_cons_zero, List.set_cons_succ, List.getElem_toArray, List.getElem_cons_zero, List.getElem_cons_succ]
    refine wpAnyH_ready (rs := [7]) (by kernel_rfl) (by simp) ?_
    refine AllReadyH.cons (by rfl) (fun K hK => ?_) AllReadyH.nil
    refine step_app_sexp rfl (.tmp 10) (.tmp 13) rfl w0.heap.size (.slice va f.acc.len vc) f.acc.len C rfl HROW.out.1 ⟨W.heap.size + 1, 0, none⟩ 1 1 z5 rfl rfl (by exact HZ.out) z5_one HLEN.out HLE.out ?_
    intro v' w5 hown hgrw hnew
    obtain ⟨g', c', rfl⟩ := ownsRow_form' hown
    have HF := Lib.hid (put_fin (l := l) (t := t) H4.out HNN.out HROW.out.2 HK4.out HN.out hown hgrw (hnew g' rfl))
    have g5 : w5.rangeAt W.heap.size 0 (sx5 l t kv) := fun j u hu => hgrw.cell (HBOX4.out j u hu) (fun e => by have := HOWNV.out _ e.symm; exact Nat.lt_irrefl _ this)
    have HNE := Lib.hid HF.out.1
    have gc := HF.out.2.2.2.1.1
    have gf := HF.out.2.2.2.1.2
    have gc2 := HF.out.2.2.2.2.1.1
    have gf2 := HF.out.2.2.2.2.1.2
    have HG : Hid (g' ≠ W.heap.size ∧ g ≠ W.heap.size) := Lib.hid ⟨by
      rcases hnew g' rfl with e | e
      · have := HOWNV.out _ e
        omega
      · simp at e
        omega, HGL.out⟩
    clear hown hgrw hnew
    refine hK.out _ _ ?_ (fun hHeld => ?_)
    · exact g5
    clear hK K
    try simp only [Act.put, List.setIfInBounds_toArray, List.set_cons_zero, List.set_cons_succ, List.getElem_toArray, List.getElem_cons_zero, List.getElem_cons_succ]
    refine wpAnyH_take (i := 8) (v := .pointer (some ⟨g', f.acc.len * 5, none⟩)) (by rfl) (by kernel_rfl) (by kernel_rfl) (by kernel_rfl) (by exact fun _ _ _ h => h) (Or.inl ⟨by rfl, ?_⟩) hHeld ?_
    · intro w' hSw
      exact idx_sexp rfl rfl rfl (by omega)
    try simp only [Act.put, List.setIfInBounds_toArray, List.set_cons_zero, List.set_cons_succ, List.getElem_toArray, List.getElem_cons_zero, List.getElem_cons_succ]
    refine wpAnyH_take (i := 10) (v := ?_) (by rfl) (by kernel_rfl) (by kernel_rfl) (by kernel_rfl) (by exact fun _ _ _ h => h) (Or.inl ⟨by rfl, ?_⟩) hHeld ?_
    rotate_left 1
    · intro w' hSw
      (try dsimp only at hSw)
      go_simp
      try with_reducible rfl
    try simp only [Act.put, List.setIfInBounds_toArray, List.set_cons_zero, List.set_cons_succ, List.getElem_toArray, List.getElem_cons_zero, List.getElem_cons_succ]
    refine wpAnyH_take (i := 11) (v := ?_) (by rfl) (by kernel_rfl) (by kernel_rfl) (by kernel_rfl) (by exact fun _ _ _ h => h) (Or.inl ⟨by rfl, ?_⟩) hHeld ?_
    rotate_left 1
    · intro w' hSw
      (try dsimp only at hSw)
      go_simp
      try with_reducible rfl
    try simp only [Act.put, List.setIfInBounds_toArray, List.set_cons_zero, List.set_cons_succ, List.getElem_toArray, List.getElem_cons_zero, List.getElem_cons_succ]
    refine wpAnyH_ready (rs := [9, 12]) (by kernel_rfl) (by simp) ?_
    refine AllReadyH.cons (by rfl) (fun K hK => ?_) ?_
    · refine step_store_cells rfl 38 (.tmp 15) (.tmp 11) rfl g' (f.acc.len * 5) (sx5 l t kv).toArray rfl rfl (by exact HF.out.2.1) size_sexp (sx5_one l t HKV.out) ?_
      refine hK.out _ _ ?_ (fun hHeld => ?_)
      · exact rangeAt_blk hHeld (heap_setCells_other _ _ _ _ _ (fun e => HG.out.1 e.symm))
      clear hK K
      try simp only [Act.put, List.setIfInBounds_toArray, List.set_cons_zero, List.set_cons_succ, List.getElem_toArray, List.getElem_cons_zero, List.getElem_cons_succ]
      refine wpAnyH_ready (rs := [12]) (by kernel_rfl) (by simp) ?_
      refine AllReadyH.cons (by rfl) (fun K hK => ?_) AllReadyH.nil
      go_simp
      refine hK.out _ _ ?_ (fun hHeld => ?_)
      · exact rangeAt_blk hHeld (heap_setCell_other _ _ _ _ (fun e => HG.out.2 e.symm))
      clear hK K
      try simp only [Act.put, List.setIfInBounds_toArray, List.set_cons_zero, List.set_cons_succ, List.getElem_toArray, List.getElem_cons_zero, List.getElem_cons_succ]
      refine wpAnyH_done (by kernel_rfl) ?_ _
      clear hHeld
      go_wp2_with fail
      go_end0
      exact ⟨rfl, _, HF.out.2.2.2.2.2.1⟩
    refine AllReadyH.cons (by rfl) (fun K hK => ?_) ?_
    · go_simp
      refine hK.out _ _ ?_ (fun hHeld => ?_)
      · exact rangeAt_blk hHeld (heap_setCell_other _ _ _ _ (fun e => HG.out.2 e.symm))
      clear hK K
      try simp only [Act.put, List.setIfInBounds_toArray, List.set_cons_zero, List.set_cons_succ, List.getElem_toArray, List.getElem_cons_zero, List.getElem_cons_succ]
      refine wpAnyH_ready (rs := [9]) (by kernel_rfl) (by simp) ?_
      refine AllReadyH.cons (by rfl) (fun K hK => ?_) AllReadyH.nil
      refine step_store_cells rfl 38 (.tmp 15) (.tmp 11) rfl g' (f.acc.len * 5) (sx5 l t kv).toArray rfl rfl (by exact HF.out.2.2.1) size_sexp (sx5_one l t HKV.out) ?_
      refine hK.out _ _ ?_ (fun hHeld => ?_)
      · exact rangeAt_blk hHeld (heap_setCells_other _ _ _ _ _ (fun e => HG.out.1 e.symm))
      clear hK K
      try simp only [Act.put, List.setIfInBounds_toArray, List.set_cons_zero, List.set_cons_succ, List.getElem_toArray, List.getElem_cons_zero, List.getElem_cons_succ]
      refine wpAnyH_done (by kernel_rfl) ?_ _
      clear hHeld
      go_wp2_with fail
      go_end0
      exact ⟨rfl, _, HF.out.2.2.2.2.2.2⟩
    exact AllReadyH.nil
  exact AllReadyH.nil
end
end Go.Proofs.Ytgojipnhnmigpaa

