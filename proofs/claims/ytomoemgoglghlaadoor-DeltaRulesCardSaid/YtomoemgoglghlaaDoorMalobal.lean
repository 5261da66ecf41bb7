/- By program out of: RatOps, RefCmp. -/
import Derived.Test.YtomoemgoglghlaaDoorMdpeeml
import Derived.Test.YtomoemgoglghlaaDoorMdnomnp
/-
  ratio.Sign, Neg, Cmp; Add, Sub, Mul, Div on a bench that is over.
-/
set_option linter.unusedVariables false
set_option linter.unusedSimpArgs false
namespace Go.Proofs.YtomoemgoglghlaaDoor
open Go.RowKit Rep

/-- A call gives 0, and leaves what there was as it was. -/
def GivesZ (w : World) (e : Ending) (w' : World) : Prop := e = .returned (ratV false (.slice none 0 0) (.slice none 0 0)) ∧ Below w.heap.size w w'

set_option maxRecDepth 100000 in
set_option maxHeartbeats 1000000 in
theorem AddQ_over {w : World} {b m : Nat} (hb : Bench w b m true) (sx sy : Bool) (ax bx ay by' : Option Addr) (lx cx kx ex ly cy ky ey : Nat) :
    Calls Tryd.prog 20 #[.pointer (some ⟨b, 0, none⟩), ratV sx (.slice ax lx cx) (.slice bx kx ex), ratV sy (.slice ay ly cy) (.slice by' ky ey)] w (GivesZ w) := by
  obtain ⟨W0, hW0, hB0, b1, b2, b3, hs⟩ := boxes3 w #[.bool sx, .slice ax lx cx, .slice bx kx ex] #[.bool sy, .slice ay ly cy, .slice by' ky ey] #[.bool false, .slice none 0 0, .slice none 0 0] 27 27 27
  have HOV := Lib.hid (over_any W0 b m true (hb.kept hB0))
  have HW0 := Lib.hid hW0
  have HE : Hid (GivesZ w (.returned (ratV false (.slice none 0 0) (.slice none 0 0))) (set3 W0 (w.heap.size + 1 + 1) false (.slice none 0 0) (.slice none 0 0))) := Lib.hid ⟨rfl, set3_below hB0 (by omega)⟩
  obtain ⟨m0, m1, m2, n0, n1, n2⟩ := cells3 b3
  clear hW0 hB0 b1 b2 b3 hs hb
  unfold ratV
  go_enter Tryd.func20, Tryd.ntmps20
  go_wp2_with fail
  rw [← HW0.out]
  refine HOV.out.mono ?_
  rintro e w1 ⟨rfl, rfl⟩
  go_wp2_with fail
  exact bodyPost_ret (v := ratV false (.slice none 0 0) (.slice none 0 0)) (by simp [results, Tryd.results20, go_sem, ratV, m0, m1, m2]) rfl HE.out
set_option maxRecDepth 100000 in
set_option maxHeartbeats 1000000 in
theorem MulQ_over {w : World} {b m : Nat} (hb : Bench w b m true) (sx sy : Bool) (ax bx ay by' : Option Addr) (lx cx kx ex ly cy ky ey : Nat) :
    Calls Tryd.prog 23 #[.pointer (some ⟨b, 0, none⟩), ratV sx (.slice ax lx cx) (.slice bx kx ex), ratV sy (.slice ay ly cy) (.slice by' ky ey)] w (GivesZ w) := by
  obtain ⟨W0, hW0, hB0, b1, b2, b3, hs⟩ := boxes3 w #[.bool sx, .slice ax lx cx, .slice bx kx ex] #[.bool sy, .slice ay ly cy, .slice by' ky ey] #[.bool false, .slice none 0 0, .slice none 0 0] 27 27 27
  have HOV := Lib.hid (over_any W0 b m true (hb.kept hB0))
  have HW0 := Lib.hid hW0
  have HE : Hid (GivesZ w (.returned (ratV false (.slice none 0 0) (.slice none 0 0))) (set3 W0 (w.heap.size + 1 + 1) false (.slice none 0 0) (.slice none 0 0))) := Lib.hid ⟨rfl, set3_below hB0 (by omega)⟩
  obtain ⟨m0, m1, m2, n0, n1, n2⟩ := cells3 b3
  clear hW0 hB0 b1 b2 b3 hs hb
  unfold ratV
  go_enter Tryd.func23, Tryd.ntmps23
  go_wp2_with fail
  rw [← HW0.out]
  refine HOV.out.mono ?_
  rintro e w1 ⟨rfl, rfl⟩
  go_wp2_with fail
  exact bodyPost_ret (v := ratV false (.slice none 0 0) (.slice none 0 0)) (by simp [results, Tryd.results23, go_sem, ratV, m0, m1, m2]) rfl HE.out
set_option maxRecDepth 100000 in
set_option maxHeartbeats 1000000 in
theorem SubQ_over {w : World} {b m : Nat} (hb : Bench w b m true) (sx sy : Bool) (ax bx ay by' : Option Addr) (lx cx kx ex ly cy ky ey : Nat) :
    Calls Tryd.prog 22 #[.pointer (some ⟨b, 0, none⟩), ratV sx (.slice ax lx cx) (.slice bx kx ex), ratV sy (.slice ay ly cy) (.slice by' ky ey)] w (GivesZ w) := by
  obtain ⟨W0, hW0, hB0, b1, b2, b3, hs⟩ := boxes3 w #[.bool sx, .slice ax lx cx, .slice bx kx ex] #[.bool (!sy), .slice ay ly cy, .slice by' ky ey] #[.bool false, .slice none 0 0, .slice none 0 0] 27 27 27
  have HA := Lib.hid (AddQ_over (hb.kept hB0) sx (!sy) ax bx ay by' lx cx kx ex ly cy ky ey)
  have HW0 := Lib.hid hW0
  have HR := Lib.hid (keep3 b3)
  have HE : Hid (∀ W, Below W0.heap.size W0 W → GivesZ w (.returned (ratV false (.slice none 0 0) (.slice none 0 0))) (set3 W (w.heap.size + 1 + 1) false (.slice none 0 0) (.slice none 0 0))) := Lib.hid fun W h => ⟨rfl, set3_below (hB0.trans (h.mono hB0.size)) (by omega)⟩
  clear hW0 hB0 b1 b2 b3 hs hb
  unfold ratV at HA ⊢
  go_enter Tryd.func22, Tryd.ntmps22
  go_wp2_with fail
  rw [← HW0.out]
  refine HA.out.mono ?_
  rintro e w1 ⟨rfl, hb1⟩
  obtain ⟨m0, m1, m2, n0, n1, n2⟩ := HR.out _ hb1
  have HE2 := Lib.hid (HE.out _ hb1)
  clear hb1 HE HR HA
  unfold ratV
  go_wp2_with fail
  exact bodyPost_ret (v := ratV false (.slice none 0 0) (.slice none 0 0)) (by simp [results, Tryd.results22, go_sem, ratV, m0, m1, m2]) rfl HE2.out
set_option maxRecDepth 100000 in
set_option maxHeartbeats 1000000 in
theorem Sign_q {w : World} {s : Bool} {a1 a2 : Option Addr} {l1 c1 l2 c2 n d d0 : Nat} {x : Rat} (h : RatX w s a1 l1 c1 a2 l2 c2 n d d0 x) :
    Calls Tryd.prog 12 #[ratV s (.slice a1 l1 c1) (.slice a2 l2 c2)] w (GivesInt (cmpQ x 0) w) := by
  have hb0 : Below w.heap.size w (w.alloc (.cells #[.bool s, .slice a1 l1 c1, .slice a2 l2 c2] 27)) := (Below.refl _ _).alloc (Nat.le_refl _) _
  have HI := Lib.hid (isZero_any (h.num.kept hb0))
  have hbl : (w.alloc (.cells #[.bool s, .slice a1 l1 c1, .slice a2 l2 c2] 27)).heap[w.heap.size]? = some (.cells #[.bool s, .slice a1 l1 c1, .slice a2 l2 c2] 27 (0, 0)) := heap_alloc_new w _
  have HK := Lib.hid (keep3 hbl)
  have HB := Lib.hid hb0
  have hv : cmpQ x 0 = if n = 0 then 0 else if s = true then -1 else 1 := by
    obtain ⟨m1, m2⟩ := mkQ_cop s h.pos h.cop
    have m3 := mkQ_ng s n h.pos
    rw [h.is] at m1 m3
    rw [cmpQ_sign, m1, m3]
    by_cases h0 : n = 0
    · simp [h0]
    · simp [h0]
  clear hb0 h hbl
  unfold ratV
  by_cases h0 : n = 0
  · rw [decide_eq_true h0] at HI
    rw [if_pos h0] at hv
    rw [hv]
    clear h0 hv
    go_enter Tryd.func12, Tryd.ntmps12
    go_wp2_with fail
    refine HI.out.mono ?_
    rintro e w1 ⟨rfl, hb1⟩
    have HE := Lib.hid (HB.out.trans (hb1.mono HB.out.size))
    clear hb1 HI
    go_wp2_with fail
    go_ret
    exact ⟨rfl, HE.out⟩
  · rw [decide_eq_false h0] at HI
    rw [if_neg h0] at hv
    clear h0
    cases s
    all_goals
      simp only [Bool.false_eq_true, if_false, if_true] at hv
      rw [hv]
      clear hv
      go_enter Tryd.func12, Tryd.ntmps12
      go_wp2_with fail
      refine HI.out.mono ?_
      rintro e w1 ⟨rfl, hb1⟩
      have HE := Lib.hid (HB.out.trans (hb1.mono HB.out.size))
      obtain ⟨m0, m1, m2, n0, n1, n2⟩ := HK.out _ hb1
      clear hb1 HI HK
      go_wp2_with fail
      go_ret
      exact ⟨rfl, HE.out⟩

/-- On a bench for what is reckoned on the way nothing becomes over. -/
theorem GivesQ.new {t : Nat} {q : Rat} {w W : World} {e : Ending} (h : GivesQ t 2147483647 q w e W) (hs : szQ q ≤ 1000000) (ht : w.heap.size ≤ t) : NewQ q w e W := by
  obtain ⟨a1, c1, a2, c2, rfl, h1, h3, h4⟩ := h
  have ho : ovQ 2147483647 q = false := by unfold szQ at hs; simp [ovQ, rO]; omega
  have hq : outQ 2147483647 q = q := by unfold outQ; rw [ho]; rfl
  rw [hq] at h1 ⊢
  exact ⟨a1, c1, a2, c2, rfl, h1, (Below.refl w.heap.size w).grown h4 (Nat.le_refl _) (fun k hk => by cases hk; exact ht)⟩

end Go.Proofs.YtomoemgoglghlaaDoor


/-
  The document's Cmp of ratios.
-/
set_option linter.unusedVariables false
set_option linter.unusedSimpArgs false
namespace Go.Proofs.YtomoemgoglghlaaDoor
open Go.RowKit Rep

end Go.Proofs.YtomoemgoglghlaaDoor

