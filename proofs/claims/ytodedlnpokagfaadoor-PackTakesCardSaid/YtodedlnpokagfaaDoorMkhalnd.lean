/- By program out of: PkRef6, PkPr, PkTake04, PkTakeC, PkThings, PkSpk, PkLaw, PkTakesW. -/
import Derived.Test.YtodedlnpokagfaaDoorMkfefhd
import Derived.Test.YtodedlnpokagfaaDoorMejeoaf
import Derived.Test.YtodedlnpokagfaaDoorMcdobkk
import Derived.Deep.RegionHeld3
import Derived.Deep.Draws
import Derived.BigQuiet
/-
  Layer 4: the document's In: Delta.
-/
set_option linter.unusedVariables false
set_option linter.unusedSimpArgs false
namespace Go.Proofs.YtodedlnpokagfaaDoor
open Go.RowKit Rep

/-- The document's In.Delta's own memory. -/
structure DxAt (w : World) (i : Nat) (s : Pk.St) (v0 v1 v2 v3 v4 v5 : Value) (W : World) : Prop where
  b3 : W.heap[w.heap.size + 1]? = some (.cells #[v0, v1, v2, v3, v4, v5] 38 (0, 0))
  b2 : W.heap[w.heap.size]? = some (.cells #[.bool false, .slice none 0 0, .slice none 0 0, .bool false, .slice none 0 0, .slice none 0 0] 38 (0, 0))
  inn : XSt W i s
  grown : w.grownBy W (some i)
  lt : i < w.heap.size
section
variable {w W W' : World} {i : Nat} {s s' : Pk.St} {v0 v1 v2 v3 v4 v5 : Value}
theorem DxAt.start (h : XSt w i s) : DxAt w i s (.bool false) (.slice none 0 0) (.slice none 0 0) (.bool false) (.slice none 0 0) (.slice none 0 0) ((w.alloc (.cells #[.bool false, .slice none 0 0, .slice none 0 0, .bool false, .slice none 0 0, .slice none 0 0] 38)).alloc (.cells #[.bool false, .slice none 0 0, .slice none 0 0, .bool false, .slice none 0 0, .slice none 0 0] 38)) := by
  have hb : Below w.heap.size w ((w.alloc (.cells #[.bool false, .slice none 0 0, .slice none 0 0, .bool false, .slice none 0 0, .slice none 0 0] 38)).alloc (.cells #[.bool false, .slice none 0 0, .slice none 0 0, .bool false, .slice none 0 0, .slice none 0 0] 38)) := ((Below.refl _ _).alloc (Nat.le_refl _) _).alloc (by simp) _
  refine ⟨?_, ?_, h.kept hb, grown_of_below hb _, h.lt⟩
  · have := heap_alloc_new (w.alloc (.cells #[.bool false, .slice none 0 0, .slice none 0 0, .bool false, .slice none 0 0, .slice none 0 0] 38)) (.cells #[.bool false, .slice none 0 0, .slice none 0 0, .bool false, .slice none 0 0, .slice none 0 0] 38)
    rwa [World.size_alloc] at this
  · rw [Below.heap_alloc _ _ _ (by simp)]; exact heap_alloc_new w _
theorem DxAt.move (h : DxAt w i s v0 v1 v2 v3 v4 v5 W) (G1 : XSt W' i s') (G2 : W.grownBy W' (some i)) : DxAt w i s' v0 v1 v2 v3 v4 v5 W' := by
  have hl := h.lt
  refine ⟨(G2.block _ (Array.getElem?_eq_some_iff.1 h.b3).1 (by simp; omega)).trans h.b3, (G2.block _ (Array.getElem?_eq_some_iff.1 h.b2).1 (by simp; omega)).trans h.b2, G1, grownBy_trans_new h.grown G2, hl⟩
theorem DxAt.put0 (h : DxAt w i s v0 v1 v2 v3 v4 v5 W) (u0 u1 u2 : Value) : DxAt w i s u0 u1 u2 v3 v4 v5 (((W.setCell ⟨w.heap.size + 1, 0, none⟩ u0).setCell ⟨w.heap.size + 1, 1, none⟩ u1).setCell ⟨w.heap.size + 1, 2, none⟩ u2) ∧ W.grownBy (((W.setCell ⟨w.heap.size + 1, 0, none⟩ u0).setCell ⟨w.heap.size + 1, 1, none⟩ u1).setCell ⟨w.heap.size + 1, 2, none⟩ u2) (some (w.heap.size + 1)) := by
  have hl := h.lt
  have hg : W.grownBy (((W.setCell ⟨w.heap.size + 1, 0, none⟩ u0).setCell ⟨w.heap.size + 1, 1, none⟩ u1).setCell ⟨w.heap.size + 1, 2, none⟩ u2) (some (w.heap.size + 1)) := grownBy_set (grownBy_set (grownBy_set (grown_refl W _)))
  have h3 := h.b3
  refine ⟨⟨?_, (hg.block _ (Array.getElem?_eq_some_iff.1 h.b2).1 (by simp)).trans h.b2, h.inn.newer (by omega) hg, grown_new h.grown hg (fun j e => by cases e; omega), hl⟩, hg⟩
  simp only [World.setCell, Array.getElem?_modify, h3]
  simp
theorem DxAt.put3 (h : DxAt w i s v0 v1 v2 v3 v4 v5 W) (u3 u4 u5 : Value) : DxAt w i s v0 v1 v2 u3 u4 u5 (((W.setCell ⟨w.heap.size + 1, 3, none⟩ u3).setCell ⟨w.heap.size + 1, 4, none⟩ u4).setCell ⟨w.heap.size + 1, 5, none⟩ u5) ∧ W.grownBy (((W.setCell ⟨w.heap.size + 1, 3, none⟩ u3).setCell ⟨w.heap.size + 1, 4, none⟩ u4).setCell ⟨w.heap.size + 1, 5, none⟩ u5) (some (w.heap.size + 1)) := by
  have hl := h.lt
  have hg : W.grownBy (((W.setCell ⟨w.heap.size + 1, 3, none⟩ u3).setCell ⟨w.heap.size + 1, 4, none⟩ u4).setCell ⟨w.heap.size + 1, 5, none⟩ u5) (some (w.heap.size + 1)) := grownBy_set (grownBy_set (grownBy_set (grown_refl W _)))
  have h3 := h.b3
  refine ⟨⟨?_, (hg.block _ (Array.getElem?_eq_some_iff.1 h.b2).1 (by simp)).trans h.b2, h.inn.newer (by omega) hg, grown_new h.grown hg (fun j e => by cases e; omega), hl⟩, hg⟩
  simp only [World.setCell, Array.getElem?_modify, h3]
  simp
theorem DxAt.fin (h : DxAt w i s v0 v1 v2 v3 v4 v5 W) (u0 u1 u2 u3 u4 u5 : Value) :
    (((((((W.setCell ⟨w.heap.size, 0, none⟩ u0).setCell ⟨w.heap.size, 1, none⟩ u1).setCell ⟨w.heap.size, 2, none⟩ u2).setCell ⟨w.heap.size, 3, none⟩ u3).setCell ⟨w.heap.size, 4, none⟩ u4).setCell ⟨w.heap.size, 5, none⟩ u5).cell? ⟨w.heap.size, 0, none⟩ = some u0 ∧ ((((((W.setCell ⟨w.heap.size, 0, none⟩ u0).setCell ⟨w.heap.size, 1, none⟩ u1).setCell ⟨w.heap.size, 2, none⟩ u2).setCell ⟨w.heap.size, 3, none⟩ u3).setCell ⟨w.heap.size, 4, none⟩ u4).setCell ⟨w.heap.size, 5, none⟩ u5).cell? ⟨w.heap.size, 1, none⟩ = some u1 ∧ ((((((W.setCell ⟨w.heap.size, 0, none⟩ u0).setCell ⟨w.heap.size, 1, none⟩ u1).setCell ⟨w.heap.size, 2, none⟩ u2).setCell ⟨w.heap.size, 3, none⟩ u3).setCell ⟨w.heap.size, 4, none⟩ u4).setCell ⟨w.heap.size, 5, none⟩ u5).cell? ⟨w.heap.size, 2, none⟩ = some u2 ∧ ((((((W.setCell ⟨w.heap.size, 0, none⟩ u0).setCell ⟨w.heap.size, 1, none⟩ u1).setCell ⟨w.heap.size, 2, none⟩ u2).setCell ⟨w.heap.size, 3, none⟩ u3).setCell ⟨w.heap.size, 4, none⟩ u4).setCell ⟨w.heap.size, 5, none⟩ u5).cell? ⟨w.heap.size, 3, none⟩ = some u3 ∧ ((((((W.setCell ⟨w.heap.size, 0, none⟩ u0).setCell ⟨w.heap.size, 1, none⟩ u1).setCell ⟨w.heap.size, 2, none⟩ u2).setCell ⟨w.heap.size, 3, none⟩ u3).setCell ⟨w.heap.size, 4, none⟩ u4).setCell ⟨w.heap.size, 5, none⟩ u5).cell? ⟨w.heap.size, 4, none⟩ = some u4 ∧ ((((((W.setCell ⟨w.heap.size, 0, none⟩ u0).setCell ⟨w.heap.size, 1, none⟩ u1).setCell ⟨w.heap.size, 2, none⟩ u2).setCell ⟨w.heap.size, 3, none⟩ u3).setCell ⟨w.heap.size, 4, none⟩ u4).setCell ⟨w.heap.size, 5, none⟩ u5).cell? ⟨w.heap.size, 5, none⟩ = some u5) ∧
    Hid (XSt ((((((W.setCell ⟨w.heap.size, 0, none⟩ u0).setCell ⟨w.heap.size, 1, none⟩ u1).setCell ⟨w.heap.size, 2, none⟩ u2).setCell ⟨w.heap.size, 3, none⟩ u3).setCell ⟨w.heap.size, 4, none⟩ u4).setCell ⟨w.heap.size, 5, none⟩ u5) i s) ∧ Hid (w.grownBy ((((((W.setCell ⟨w.heap.size, 0, none⟩ u0).setCell ⟨w.heap.size, 1, none⟩ u1).setCell ⟨w.heap.size, 2, none⟩ u2).setCell ⟨w.heap.size, 3, none⟩ u3).setCell ⟨w.heap.size, 4, none⟩ u4).setCell ⟨w.heap.size, 5, none⟩ u5) (some i)) ∧
    Hid (W.grownBy ((((((W.setCell ⟨w.heap.size, 0, none⟩ u0).setCell ⟨w.heap.size, 1, none⟩ u1).setCell ⟨w.heap.size, 2, none⟩ u2).setCell ⟨w.heap.size, 3, none⟩ u3).setCell ⟨w.heap.size, 4, none⟩ u4).setCell ⟨w.heap.size, 5, none⟩ u5) (some w.heap.size)) := by
  have hl := h.lt
  have hg : W.grownBy ((((((W.setCell ⟨w.heap.size, 0, none⟩ u0).setCell ⟨w.heap.size, 1, none⟩ u1).setCell ⟨w.heap.size, 2, none⟩ u2).setCell ⟨w.heap.size, 3, none⟩ u3).setCell ⟨w.heap.size, 4, none⟩ u4).setCell ⟨w.heap.size, 5, none⟩ u5) (some w.heap.size) := grownBy_set (grownBy_set (grownBy_set (grownBy_set (grownBy_set (grownBy_set (grown_refl W _))))))
  have h2 := h.b2
  have hh : ((((((W.setCell ⟨w.heap.size, 0, none⟩ u0).setCell ⟨w.heap.size, 1, none⟩ u1).setCell ⟨w.heap.size, 2, none⟩ u2).setCell ⟨w.heap.size, 3, none⟩ u3).setCell ⟨w.heap.size, 4, none⟩ u4).setCell ⟨w.heap.size, 5, none⟩ u5).heap[w.heap.size]? = some (.cells #[u0, u1, u2, u3, u4, u5] 38 (0, 0)) := by
    simp only [World.setCell, Array.getElem?_modify, h2]
    simp
  obtain ⟨a0, a1, a2, a3, a4, a5, _⟩ := cells6 hh
  exact ⟨⟨a0, a1, a2, a3, a4, a5⟩, Lib.hid (h.inn.newer hl hg), Lib.hid (grown_new h.grown hg (fun j e => by cases e; omega)), Lib.hid hg⟩
end
/-- A call on the document's In gives a number with a delta; the In is in this state then, and nothing else has changed. -/
def XTakesD (i : Nat) (b : Bool) (xs ds : List Nat) (b' : Bool) (ys es : List Nat) (s : Pk.St) (w : World) (e : Ending) (w' : World) : Prop :=
  ∃ a1 c1 a2 c2 a3 c3 a4 c4, e = .returned (.agg #[.bool b, .slice a1 xs.length c1, .slice a2 ds.length c2, .bool b', .slice a3 ys.length c3, .slice a4 es.length c4]) ∧
    Hid ((Lst w' w.heap.size a1 c1 xs ∧ Lst w' w.heap.size a2 c2 ds) ∧ Lst w' w.heap.size a3 c3 ys ∧ Lst w' w.heap.size a4 c4 es) ∧ Hid (XSt w' i s) ∧ Hid (w.grownBy w' (some i))

set_option maxRecDepth 100000 in
set_option maxHeartbeats 8000000 in
theorem XDelta_any {w : World} {i : Nat} {s : Pk.St} (h : XSt w i s) (hT : Tab w) (hsm : Pk.ratSm s) (hsm2 : Pk.ratSm (Pk.ratN s)) :
    Calls Tryd.prog 25 #[.pointer (some ⟨i, 0, none⟩)] w (XTakesD i (Pk.delOK s && Pk.ratS s) (if Pk.delOK s then Pk.ratX s else []) (if Pk.delOK s then Pk.ratD s else []) (Pk.delOK s && Pk.ratS (Pk.ratN s)) (if Pk.delOK s then Pk.ratX (Pk.ratN s) else []) (if Pk.delOK s then Pk.ratD (Pk.ratN s) else []) (Pk.delN s) w) := by
  obtain ⟨W0, hW0⟩ : ∃ W0, W0 = ((w.alloc (.cells #[.bool false, .slice none 0 0, .slice none 0 0, .bool false, .slice none 0 0, .slice none 0 0] 38)).alloc (.cells #[.bool false, .slice none 0 0, .slice none 0 0, .bool false, .slice none 0 0, .slice none 0 0] 38)) := ⟨_, rfl⟩
  have HS := Lib.hid (DxAt.start h)
  rw [← hW0] at HS
  have HW0 := Lib.hid hW0
  have HSZ : Hid (W0.heap.size = w.heap.size + 1 + 1) := Lib.hid (by rw [hW0]; simp)
  have HTB := Lib.hid hT
  have HNB := Lib.hid h.no
  have HF := Lib.hid (XRatio_any HS.out.inn (HTB.out.noByte HNB.out HS.out.grown) hsm)
  have HSM2 := Lib.hid hsm2
  have hil := h.lt
  clear h hT hW0 hsm hsm2
  obtain ⟨f0, h0⟩ : ∃ f, f = (Pk.delOK s && Pk.ratS s) := ⟨_, rfl⟩
  obtain ⟨f1, h1⟩ : ∃ f, f = (if Pk.delOK s then Pk.ratX s else []) := ⟨_, rfl⟩
  obtain ⟨f2, h2⟩ : ∃ f, f = (if Pk.delOK s then Pk.ratD s else []) := ⟨_, rfl⟩
  obtain ⟨f3, h3⟩ : ∃ f, f = (Pk.delOK s && Pk.ratS (Pk.ratN s)) := ⟨_, rfl⟩
  obtain ⟨f4, h4⟩ : ∃ f, f = (if Pk.delOK s then Pk.ratX (Pk.ratN s) else []) := ⟨_, rfl⟩
  obtain ⟨f5, h5⟩ : ∃ f, f = (if Pk.delOK s then Pk.ratD (Pk.ratN s) else []) := ⟨_, rfl⟩
  rw [← h0, ← h1, ← h2, ← h3, ← h4, ← h5]
  unfold Pk.delOK Pk.delN at h0 h1 h2 h3 h4 h5
  unfold Pk.delN
  have HQ := Lib.hid (And.intro h0 (And.intro h1 (And.intro h2 (And.intro h3 (And.intro h4 h5)))))
  clear h0 h1 h2 h3 h4 h5
  generalize Pk.ratS s = b at *
  generalize Pk.ratX s = xs at *
  generalize Pk.ratD s = ds at *
  generalize Pk.ratN s = s1 at *
  go_enter Tryd.func25, Tryd.ntmps25
  go_wp2_with fail
  rw [← HW0.out]
  refine HF.out.mono ?_
  rintro e w1 ⟨a1, c1, a2, c2, rfl, M, G1, G2⟩
  have HS1 := Lib.hid (HS.out.move G1.out G2.out)
  have HM1 : Hid (Lst w1 (w.heap.size + 1) a1 c1 xs ∧ Lst w1 (w.heap.size + 1) a2 c2 ds) := Lib.hid (by
    have hz := HSZ.out
    exact ⟨M.out.1.mono (by omega), M.out.2.mono (by omega)⟩)
  obtain ⟨q0, q1, q2, q3, q4, q5, t0, t1, t2, t3, t4, t5⟩ := cells6 HS1.out.b3
  have HS2 := Lib.hid (HS1.out.put0 (.bool b) (.slice a1 xs.length c1) (.slice a2 ds.length c2))
  have HM2 : Hid (Lst _ (w.heap.size + 1) a1 c1 xs ∧ Lst _ (w.heap.size + 1) a2 c2 ds) := Lib.hid ⟨HM1.out.1.past HS2.out.2 (Nat.le_refl _), HM1.out.2.past HS2.out.2 (Nat.le_refl _)⟩
  have HF2 := Lib.hid (XRatio_any HS2.out.1.inn (HTB.out.noByte HNB.out HS2.out.1.grown) HSM2.out)
  clear HF HS M G1 G2 HS1 HM1
  generalize Pk.ratS s1 = b' at *
  generalize Pk.ratX s1 = ys at *
  generalize Pk.ratD s1 = es at *
  generalize Pk.ratN s1 = s2 at *
  go_wp2_with fail
  refine HF2.out.mono ?_
  rintro e w2 ⟨a3, c3, a4, c4, rfl, M, G1, G2⟩
  have HS3 := Lib.hid (HS2.out.1.move G1.out G2.out)
  have HM3 : Hid ((Lst w2 (w.heap.size + 1) a1 c1 xs ∧ Lst w2 (w.heap.size + 1) a2 c2 ds) ∧ Lst w2 (w.heap.size + 1) a3 c3 ys ∧ Lst w2 (w.heap.size + 1) a4 c4 es) := Lib.hid (by
    have h1 := HS2.out.1.lt
    have h2 := (Array.getElem?_eq_some_iff.1 HS2.out.1.b3).1
    exact ⟨⟨HM2.out.1.past G2.out (by omega), HM2.out.2.past G2.out (by omega)⟩, M.out.1.mono (by omega), M.out.2.mono (by omega)⟩)
  clear q0 q1 q2 q3 q4 q5 t0 t1 t2 t3 t4 t5
  obtain ⟨q0, q1, q2, q3, q4, q5, t0, t1, t2, t3, t4, t5⟩ := cells6 HS3.out.b3
  obtain ⟨r0, r1, r2, r3, r4, r5, y0, y1, y2, y3, y4, y5⟩ := cells6 HS3.out.b2
  have HS4 := Lib.hid (HS3.out.put3 (.bool b') (.slice a3 ys.length c3) (.slice a4 es.length c4))
  have HM4 : Hid ((Lst _ (w.heap.size + 1) a1 c1 xs ∧ Lst _ (w.heap.size + 1) a2 c2 ds) ∧ Lst _ (w.heap.size + 1) a3 c3 ys ∧ Lst _ (w.heap.size + 1) a4 c4 es) := Lib.hid ⟨⟨HM3.out.1.1.past HS4.out.2 (Nat.le_refl _), HM3.out.1.2.past HS4.out.2 (Nat.le_refl _)⟩, HM3.out.2.1.past HS4.out.2 (Nat.le_refl _), HM3.out.2.2.past HS4.out.2 (Nat.le_refl _)⟩
  obtain ⟨ai, ci, BI, atI, hI⟩ := HS3.out.inn
  obtain ⟨i0, i2, i1, j0, j2, j1⟩ := hI.cells
  have h2 := (Array.getElem?_eq_some_iff.1 HS3.out.b2).1
  clear hI HF2 HS2 HS3 HM2 HM3 M G1 G2 HSM2
  cases s2
  case none =>
    obtain ⟨rfl, rfl, rfl, rfl, rfl, rfl⟩ : f0 = false ∧ f1 = [] ∧ f2 = [] ∧ f3 = false ∧ f4 = [] ∧ f5 = [] := HQ.out
    have HFI := Lib.hid (HS4.out.1.fin (.bool false) (.slice none 0 0) (.slice none 0 0) (.bool false) (.slice none 0 0) (.slice none 0 0))
    clear HS4 HM4
    go_wp2_with fail
    obtain ⟨⟨r0, r1, r2, r3, r4, r5⟩, k1, k2, _⟩ := HFI.out
    refine bodyPost_ret (v := .agg #[.bool false, .slice none 0 0, .slice none 0 0, .bool false, .slice none 0 0, .slice none 0 0]) ?_ rfl ?_
    · simp [results, Tryd.results25, go_sem, r0, r1, r2, r3, r4, r5]
    · exact ⟨none, 0, none, 0, none, 0, none, 0, rfl, Lib.hid ⟨⟨.nil _ _, .nil _ _⟩, .nil _ _, .nil _ _⟩, k1, k2⟩
  case some r =>
    obtain ⟨e0, e1, e2, e3, e4, e5⟩ : f0 = b ∧ f1 = xs ∧ f2 = ds ∧ f3 = b' ∧ f4 = ys ∧ f5 = es := HQ.out
    subst e0 e1 e2 e3 e4 e5
    clear HQ
    have HFI := Lib.hid (HS4.out.1.fin (.bool f0) (.slice a1 f1.length c1) (.slice a2 f2.length c2) (.bool f3) (.slice a3 f4.length c3) (.slice a4 f5.length c4))
    clear HS4
    go_wp2_with fail
    obtain ⟨⟨r0, r1, r2, r3, r4, r5⟩, k1, k2, k3⟩ := HFI.out
    refine bodyPost_ret (v := .agg #[.bool f0, .slice a1 f1.length c1, .slice a2 f2.length c2, .bool f3, .slice a3 f4.length c3, .slice a4 f5.length c4]) ?_ rfl ?_
    · simp [results, Tryd.results25, go_sem, r0, r1, r2, r3, r4, r5]
    · exact ⟨a1, c1, a2, c2, a3, c3, a4, c4, rfl, Lib.hid ⟨⟨(HM4.out.1.1.past k3.out (by omega)).mono (by omega), (HM4.out.1.2.past k3.out (by omega)).mono (by omega)⟩, (HM4.out.2.1.past k3.out (by omega)).mono (by omega), (HM4.out.2.2.past k3.out (by omega)).mono (by omega)⟩, k1, k2⟩
end Go.Proofs.YtodedlnpokagfaaDoor


/-
  law04: an In and the document's, side by side; Same of numbers with a delta.
-/
set_option linter.unusedVariables false
set_option linter.unusedSimpArgs false
namespace Go.Proofs.YtodedlnpokagfaaDoor
open Go.RowKit Rep

/-- Of what was there only blocks i and x have changed. -/
structure Two (i x : Nat) (w w' : World) : Prop where
  os : w'.os = w.os
  tape : w'.tape = w.tape
  output : w'.output = w.output
  size : w.heap.size ≤ w'.heap.size
  block : ∀ k, k < w.heap.size → k ≠ i → k ≠ x → w'.heap[k]? = w.heap[k]?
section
variable {i x : Nat} {w w1 w2 : World}
theorem Two.refl (i x : Nat) (w : World) : Two i x w w := ⟨rfl, rfl, rfl, Nat.le_refl _, fun _ _ _ _ => rfl⟩
theorem Two.trans (h : Two i x w w1) (k : Two i x w1 w2) : Two i x w w2 := ⟨k.os.trans h.os, k.tape.trans h.tape, k.output.trans h.output, Nat.le_trans h.size k.size, fun j hj h1 h2 => (k.block j (Nat.lt_of_lt_of_le hj h.size) h1 h2).trans (h.block j hj h1 h2)⟩
theorem Two.of_below (h : Below w.heap.size w w1) : Two i x w w1 := ⟨h.os, h.tape, h.output, h.size, fun k hk _ _ => h.block k hk⟩
theorem Two.of_first (h : w.grownBy w1 (some i)) : Two i x w w1 := ⟨h.os, h.tape, h.output, h.size, fun k hk h1 _ => h.block k hk (by simpa using h1)⟩
theorem Two.of_second (h : w.grownBy w1 (some x)) : Two i x w w1 := ⟨h.os, h.tape, h.output, h.size, fun k hk _ h2 => h.block k hk (by simpa using h2)⟩
theorem Two.below {B : Nat} (h : Two i x w w1) (hi : B ≤ i) (hx : B ≤ x) (hB : B ≤ w.heap.size) : Below B w w1 := ⟨h.os, h.tape, h.output, h.size, fun k hk => h.block k (by omega) (by omega) (by omega)⟩
end
/-- Both, in their states. -/
structure Pr (w W : World) (i x : Nat) (s t : Pk.St) : Prop where
  inn : InSt W i s
  ref : XSt W x t
  ne : i ≠ x
  frame : Two i x w W
  tab : Tab W
section
variable {w W W' : World} {i x : Nat} {s s' t t' : Pk.St}
theorem Pr.kept (h : Pr w W i x s t) (hb : Below W.heap.size W W') : Pr w W' i x s t := ⟨h.inn.kept hb, h.ref.kept hb, h.ne, h.frame.trans (.of_below hb), h.tab.kept hb⟩
theorem Pr.first (h : Pr w W i x s t) (hi : InSt W' i s') (hg : W.grownBy W' (some i)) : Pr w W' i x s' t := ⟨hi, h.ref.past h.inn.no h.ne.symm hg, h.ne, h.frame.trans (.of_first hg), h.tab.noByte h.inn.no hg⟩
theorem Pr.second (h : Pr w W i x s t) (hx : XSt W' x t') (hg : W.grownBy W' (some x)) : Pr w W' i x s t' := ⟨h.inn.past h.ref.no h.ne hg, hx, h.ne, h.frame.trans (.of_second hg), h.tab.noByte h.ref.no hg⟩
end
/-! ### How much is left -/
namespace Pk
theorem left_cut (k : Nat) (s : St) : left (cutN k s) ≤ left s := cutN_left k s
theorem left_count (m : Int) (s : St) : left (countN m s) ≤ left s := by
  unfold countN
  split
  · exact cutN_left 8 s
  · exact Nat.zero_le _
theorem left_repN (k n : Nat) (s : St) : left (repN k n s) ≤ left s := by
  induction n generalizing s with
  | zero => exact Nat.le_refl _
  | succ n ih => exact Nat.le_trans (ih (cutN k s)) (cutN_left k s)
theorem left_list (k : Nat) (s : St) : left (listN k s) ≤ left s := Nat.le_trans (left_repN _ _ _) (left_count _ _)
theorem left_flag (s : St) : left (flagN s) ≤ left s := by
  unfold flagN
  split
  · exact cutN_left 1 s
  · exact Nat.zero_le _
theorem left_bytes (s : St) : left (bytesN s) ≤ left s := Nat.le_trans (cutN_left _ _) (left_count _ _)
theorem left_rat (s : St) : left (ratN s) ≤ left s := by
  unfold ratN
  split
  · exact Nat.le_trans (left_list _ _) (Nat.le_trans (left_list _ _) (left_flag _))
  · exact Nat.zero_le _
theorem count_le (s : St) : countV 4 s ≤ left s / 4 := by
  unfold countV
  split
  · rename_i h
    unfold countOK at h
    rw [decide_eq_true_eq] at h
    have h1 : left (intN s) ≤ left s := cutN_left 8 s
    have h2 : (max (4 : Int) 1).toNat = 4 := by decide
    rw [h2] at h
    omega
  · exact Nat.zero_le _
theorem count_le' (s : St) : countV ((4 : Nat) : Int) s ≤ left s / 4 := count_le s
theorem sm_of {s : St} (h : left s ≤ 40000) : ratSm s := by
  refine ⟨?_, ?_⟩
  · unfold listV
    rw [rep_length]
    have := count_le' (flagN s)
    have := left_flag s
    omega
  · unfold listV
    rw [rep_length]
    have := count_le' (listN 4 (flagN s))
    have := left_flag s
    have := left_list 4 (flagN s)
    omega
end Pk
/-! ### Same -/
set_option maxRecDepth 100000 in
set_option maxHeartbeats 4000000 in
theorem SameL_any {w : World} {s1 s2 t1 t2 : Bool} {a1 b1 a2 b2 d1 e1 d2 e2 : Option Addr} {c1 c2 c3 c4 c5 c6 c7 c8 : Nat} {xs ds ys es xs' ds' ys' es' : List Nat}
    (h1 : Reads w a1 (xs.map u32v)) (h2 : Reads w b1 (ds.map u32v)) (h3 : Reads w a2 (ys.map u32v)) (h4 : Reads w b2 (es.map u32v)) (k1 : Reads w d1 (xs'.map u32v)) (k2 : Reads w e1 (ds'.map u32v)) (k3 : Reads w d2 (ys'.map u32v)) (k4 : Reads w e2 (es'.map u32v))
    (l1 : xs.length ≤ 1000000) (l2 : ds.length ≤ 1000000) (l3 : ys.length ≤ 1000000) (l4 : es.length ≤ 1000000) :
    Calls Tryd.prog 21 #[.agg #[.bool s1, .slice a1 xs.length c1, .slice b1 ds.length c2, .bool s2, .slice a2 ys.length c3, .slice b2 es.length c4], .agg #[.bool t1, .slice d1 xs'.length c5, .slice e1 ds'.length c6, .bool t2, .slice d2 ys'.length c7, .slice e2 es'.length c8]] w
      (GivesB (decide (s1 = t1 ∧ xs = xs' ∧ ds = ds') && decide (s2 = t2 ∧ ys = ys' ∧ es = es')) w) := by
  obtain ⟨W0, hW0, hB0, b0, b1', hs⟩ := boxes2 w #[.bool s1, .slice a1 xs.length c1, .slice b1 ds.length c2, .bool s2, .slice a2 ys.length c3, .slice b2 es.length c4] #[.bool t1, .slice d1 xs'.length c5, .slice e1 ds'.length c6, .bool t2, .slice d2 ys'.length c7, .slice e2 es'.length c8] 38 38
  have HK : Hid (∀ W, Below W0.heap.size W0 W → (W.cell? ⟨w.heap.size, 0, none⟩ = some (.bool s1) ∧ W.cell? ⟨w.heap.size, 1, none⟩ = some (.slice a1 xs.length c1) ∧ W.cell? ⟨w.heap.size, 2, none⟩ = some (.slice b1 ds.length c2) ∧ W.cell? ⟨w.heap.size, 3, none⟩ = some (.bool s2) ∧ W.cell? ⟨w.heap.size, 4, none⟩ = some (.slice a2 ys.length c3) ∧ W.cell? ⟨w.heap.size, 5, none⟩ = some (.slice b2 es.length c4) ∧ W.cell? ⟨w.heap.size + 1, 0, none⟩ = some (.bool t1) ∧ W.cell? ⟨w.heap.size + 1, 1, none⟩ = some (.slice d1 xs'.length c5) ∧ W.cell? ⟨w.heap.size + 1, 2, none⟩ = some (.slice e1 ds'.length c6) ∧ W.cell? ⟨w.heap.size + 1, 3, none⟩ = some (.bool t2) ∧ W.cell? ⟨w.heap.size + 1, 4, none⟩ = some (.slice d2 ys'.length c7) ∧ W.cell? ⟨w.heap.size + 1, 5, none⟩ = some (.slice e2 es'.length c8))) := Lib.hid fun W h => by
    obtain ⟨k0, k1, k2, k3, k4, k5, _⟩ := cells6 (stay b0 h)
    obtain ⟨k6, k7, k8, k9, k10, k11, _⟩ := cells6 (stay b1' h)
    exact ⟨k0, k1, k2, k3, k4, k5, k6, k7, k8, k9, k10, k11⟩
  have HBL := Lib.hid hB0
  have HW0 := Lib.hid hW0
  obtain ⟨k0, k1', k2', k3', k4', k5, k6, k7, k8, k9, k10, k11⟩ := HK.out W0 (Below.refl _ _)
  have HC1 := Lib.hid (fun W (h : Below W0.heap.size W0 W) => SameR_any s1 t1 a1 b1 d1 e1 c1 c2 c5 c6 xs ds xs' ds' W ((h1.kept hB0).kept h) ((h2.kept hB0).kept h) ((k1.kept hB0).kept h) ((k2.kept hB0).kept h) l1 l2)
  have HC2 := Lib.hid (fun W (h : Below W0.heap.size W0 W) => SameR_any s2 t2 a2 b2 d2 e2 c3 c4 c7 c8 ys es ys' es' W ((h3.kept hB0).kept h) ((h4.kept hB0).kept h) ((k3.kept hB0).kept h) ((k4.kept hB0).kept h) l3 l4)
  unfold ratV at HC1 HC2
  clear hW0 hB0 b0 b1' hs h1 h2 h3 h4 k1 k2 k3 k4 l1 l2 l3 l4
  generalize decide (s1 = t1 ∧ xs = xs' ∧ ds = ds') = q1 at *
  generalize decide (s2 = t2 ∧ ys = ys' ∧ es = es') = q2 at *
  cases q1 with
  | false =>
    clear HC2
    go_enter Tryd.func21, Tryd.ntmps21
    go_wp2_with fail
    rw [← HW0.out]
    refine (HC1.out W0 (Below.refl _ _)).mono ?_
    rintro e w3 ⟨rfl, G3⟩
    have HE := Lib.hid (HBL.out.trans (G3.mono HBL.out.size))
    clear HC1 G3
    go_wp2_with fail
    go_ret
    exact ⟨rfl, HE.out⟩
  | true =>
    go_enter Tryd.func21, Tryd.ntmps21
    go_wp2_with fail
    rw [← HW0.out]
    refine (HC1.out W0 (Below.refl _ _)).mono ?_
    rintro e w3 ⟨rfl, G3⟩
    obtain ⟨k0, k1, k2, k3, k4, k5, k6, k7, k8, k9, k10, k11⟩ := HK.out _ G3
    have HG3 := Lib.hid G3
    clear HC1 G3
    go_wp2_with fail
    refine (HC2.out _ HG3.out).mono ?_
    rintro e w4 ⟨rfl, G4⟩
    have HE := Lib.hid (HBL.out.trans ((HG3.out.trans (G4.mono HG3.out.size)).mono HBL.out.size))
    clear HC2 G4
    go_wp2_with fail
    go_ret
    exact ⟨by cases q2 <;> rfl, HE.out⟩
end Go.Proofs.YtodedlnpokagfaaDoor


/-
  law04.take: a thing is taken, of both.
-/
set_option linter.unusedVariables false
set_option linter.unusedSimpArgs false
namespace Go.Proofs.YtodedlnpokagfaaDoor
open Go.RowKit Rep

/-- What is taken of both. -/
def TakeT (w : World) (i x : Nat) (kd nn : Int) (s t : Pk.St) (e : Ending) (w' : World) : Prop :=
  ∃ b t', e = .returned (.bool b) ∧ Hid (Pr w w' i x (Pk.thN kd nn s) t') ∧ Hid (Pk.left t' ≤ Pk.left t) ∧ Hid (s = t → b = true ∧ t' = Pk.thN kd nn s)
theorem th0 (n : Int) (s : Pk.St) : Pk.thN 0 n s = Pk.intN s := rfl
theorem th1 (n : Int) (s : Pk.St) : Pk.thN 1 n s = Pk.flagN s := rfl
theorem th2 (n : Int) (s : Pk.St) : Pk.thN 2 n s = Pk.bytesN s := rfl
theorem th3 (n : Int) (s : Pk.St) : Pk.thN 3 n s = Pk.ratN s := by simp [Pk.thN]
theorem th4 (n : Int) (s : Pk.St) : Pk.thN 4 n s = Pk.ratN (Pk.ratN s) := by simp [Pk.thN]
theorem th5 (n : Int) (s : Pk.St) : Pk.thN 5 n s = Pk.listN 8 s := by simp [Pk.thN]
theorem th6 {kd : Int} (n : Int) (s : Pk.St) (h : kd < 0 ∨ 5 < kd) : Pk.thN kd n s = Pk.countN n s := by
  unfold Pk.thN
  rw [if_neg (by omega), if_neg (by omega), if_neg (by omega), if_neg (by omega), if_neg (by omega), if_neg (by omega)]
set_option maxRecDepth 100000 in
set_option maxHeartbeats 8000000 in
theorem take_k0 {w : World} {i x : Nat} {s t : Pk.St} {kd nn : Int} {v2 v4 v5 v7 v8 v9 : Value} {xb0 xb1 : Bool} (h : Pr w w i x s t) (h2 : v2.oneCell' = true) (h4 : v4.oneCell' = true) (h5 : v5.oneCell' = true) (h7 : v7.oneCell' = true) (h8 : v8.oneCell' = true) (h9 : v9.oneCell' = true) (hk : kd = 0) :
    Calls Tryd.prog 7 #[.pointer (some ⟨i, 0, none⟩), .pointer (some ⟨x, 0, none⟩), .agg #[.int .i64 kd, .int .i64 nn, v2, .bool xb0, v4, v5, .bool xb1, v7, v8, v9]] w (TakeT w i x kd nn s t) := by
  obtain ⟨W0, hW0⟩ : ∃ W0, W0 = w.alloc (.cells #[.int .i64 kd, .int .i64 nn, v2, .bool xb0, v4, v5, .bool xb1, v7, v8, v9] 41) := ⟨_, rfl⟩
  have hB0 : Below w.heap.size w W0 := by rw [hW0]; exact (Below.refl _ _).alloc (Nat.le_refl _) _
  have hb0 : W0.heap[w.heap.size]? = some (.cells #[.int .i64 kd, .int .i64 nn, v2, .bool xb0, v4, v5, .bool xb1, v7, v8, v9] 41 (0, 0)) := by rw [hW0]; exact heap_alloc_new w _
  obtain ⟨k0, k1, k2, k3, k4, k5, k6, k7, k8, k9⟩ := cells10 hb0
  have HP0 := Lib.hid (h.kept hB0)
  have HW0 := Lib.hid hW0
  have e0 : (kd == 0) = true := by rw [hk]; decide
  have HC1 := Lib.hid (Int_any HP0.out.inn)
  have HC2 : Hid (∀ W s', Pr w W i x s' t → Calls Tryd.prog 16 #[.pointer (some ⟨x, 0, none⟩)] W (XTakes x (.int .i64 (Pk.intV t)) (Pk.intN t) W)) := Lib.hid fun W s' hh => XInt_any hh.ref
  have HQ : Hid (s = t → Pk.intV s = Pk.intV t ∧ Pk.intN t = Pk.intN s) := Lib.hid fun e => by rw [e]; exact ⟨rfl, rfl⟩
  have HL : Hid (Pk.left (Pk.intN t) ≤ Pk.left t) := Lib.hid (Pk.left_cut 8 t)
  have HT : Hid (Pk.thN kd nn s = Pk.intN s) := Lib.hid (by rw [hk]; rfl)
  clear h hW0 hB0 hb0 hk
  generalize Pk.intV s = u at *
  generalize Pk.intV t = v at *
  generalize Pk.intN s = s1 at *
  generalize Pk.intN t = t1 at *
  go_enter Tryd.func7, Tryd.ntmps7
  go_wp2_with fail
  rw [← HW0.out]
  refine HC1.out.mono ?_
  rintro e w1 ⟨rfl, G1, G2⟩
  have HP1 := Lib.hid (HP0.out.first G1.out G2.out)
  clear G1 G2 HC1
  have HC3 := Lib.hid (HC2.out _ _ HP1.out)
  clear HC2
  go_wp2_with fail
  refine HC3.out.mono ?_
  rintro e w2 ⟨rfl, G1, G2⟩
  have HP2 := Lib.hid (HP1.out.second G1.out G2.out)
  clear G1 G2 HC3
  go_wp2_with fail
  go_ret
  exact ⟨u == v, t1, rfl, Lib.hid (by rw [HT.out]; exact HP2.out), HL, Lib.hid fun e => ⟨by rw [(HQ.out e).1]; simp, by rw [HT.out, (HQ.out e).2]⟩⟩
set_option maxRecDepth 100000 in
set_option maxHeartbeats 8000000 in
theorem take_k1 {w : World} {i x : Nat} {s t : Pk.St} {kd nn : Int} {v2 v4 v5 v7 v8 v9 : Value} {xb0 xb1 : Bool} (h : Pr w w i x s t) (h2 : v2.oneCell' = true) (h4 : v4.oneCell' = true) (h5 : v5.oneCell' = true) (h7 : v7.oneCell' = true) (h8 : v8.oneCell' = true) (h9 : v9.oneCell' = true) (hk : kd = 1) :
    Calls Tryd.prog 7 #[.pointer (some ⟨i, 0, none⟩), .pointer (some ⟨x, 0, none⟩), .agg #[.int .i64 kd, .int .i64 nn, v2, .bool xb0, v4, v5, .bool xb1, v7, v8, v9]] w (TakeT w i x kd nn s t) := by
  obtain ⟨W0, hW0⟩ : ∃ W0, W0 = w.alloc (.cells #[.int .i64 kd, .int .i64 nn, v2, .bool xb0, v4, v5, .bool xb1, v7, v8, v9] 41) := ⟨_, rfl⟩
  have hB0 : Below w.heap.size w W0 := by rw [hW0]; exact (Below.refl _ _).alloc (Nat.le_refl _) _
  have hb0 : W0.heap[w.heap.size]? = some (.cells #[.int .i64 kd, .int .i64 nn, v2, .bool xb0, v4, v5, .bool xb1, v7, v8, v9] 41 (0, 0)) := by rw [hW0]; exact heap_alloc_new w _
  obtain ⟨k0, k1, k2, k3, k4, k5, k6, k7, k8, k9⟩ := cells10 hb0
  have HP0 := Lib.hid (h.kept hB0)
  have HW0 := Lib.hid hW0
  have e0 : (kd == 0) = false := by rw [hk]; decide
  have e1 : (kd == 1) = true := by rw [hk]; decide
  have HC1 := Lib.hid (Flag_any HP0.out.inn)
  have HC2 : Hid (∀ W s', Pr w W i x s' t → Calls Tryd.prog 18 #[.pointer (some ⟨x, 0, none⟩)] W (XTakes x (.bool (Pk.flagV t)) (Pk.flagN t) W)) := Lib.hid fun W s' hh => XFlag_any hh.ref
  have HQ : Hid (s = t → Pk.flagV s = Pk.flagV t ∧ Pk.flagN t = Pk.flagN s) := Lib.hid fun e => by rw [e]; exact ⟨rfl, rfl⟩
  have HL : Hid (Pk.left (Pk.flagN t) ≤ Pk.left t) := Lib.hid (Pk.left_flag t)
  have HT : Hid (Pk.thN kd nn s = Pk.flagN s) := Lib.hid (by rw [hk]; rfl)
  clear h hW0 hB0 hb0 hk
  generalize Pk.flagV s = u at *
  generalize Pk.flagV t = v at *
  generalize Pk.flagN s = s1 at *
  generalize Pk.flagN t = t1 at *
  go_enter Tryd.func7, Tryd.ntmps7
  go_wp2_with fail
  rw [← HW0.out]
  refine HC1.out.mono ?_
  rintro e w1 ⟨rfl, G1, G2⟩
  have HP1 := Lib.hid (HP0.out.first G1.out G2.out)
  clear G1 G2 HC1
  have HC3 := Lib.hid (HC2.out _ _ HP1.out)
  clear HC2
  go_wp2_with fail
  refine HC3.out.mono ?_
  rintro e w2 ⟨rfl, G1, G2⟩
  have HP2 := Lib.hid (HP1.out.second G1.out G2.out)
  clear G1 G2 HC3
  go_wp2_with fail
  go_ret
  exact ⟨u == v, t1, rfl, Lib.hid (by rw [HT.out]; exact HP2.out), HL, Lib.hid fun e => ⟨by rw [(HQ.out e).1]; simp, by rw [HT.out, (HQ.out e).2]⟩⟩
theorem step_of {P : Program} {ops : Array Oper} {o : Oper} {a : Act} {w : World} {K : Act → World → Prop} {Q : Exit → Act → World → Prop} {E : Prop} (v : Value) (hr : (execOp a.eval o).run P w = .ok (.value v) w) (hw : Region.wanted o (yielded ops a.tmps) = true) (h : K (a.put o.dst v) w) :
    if Region.wanted o (yielded ops a.tmps) = true then Oper.wp P o a w K Q else E := by
  rw [if_pos hw]
  unfold Oper.wp
  rw [hr]
  exact h
theorem wpList_of {P : Program} {ops : Array Oper} {Q : Exit → Act → World → Prop} {a : Act} {w : World} {rest : List Oper} {o : Oper} (v : Value) (hr : (execOp a.eval o).run P w = .ok (.value v) w) (hw : Region.wanted o (yielded ops a.tmps) = true)
    (h : wpList P ops Q rest (a.put o.dst v) w) : wpList P ops Q (o :: rest) a w :=
  wpList_step fun K hK => by
    rw [if_pos hw]
    unfold Oper.wp
    rw [hr]
    exact hK _ _ h
/-- A text of bytes. -/
def ptx (bs : List Int) : ByteArray := bs.foldl (fun r n => r.push (UInt8.ofNat n.toNat)) ByteArray.empty
def ptxt (bs : List Nat) : ByteArray := ptx (bs.map Int.ofNat)
theorem run_ptxt {w : World} {a : Option Addr} {bs : List Nat} {c : Nat} (hb : Reads w a (bs.map u8v)) : (Conv.bytesToString (.slice a bs.length c)).run Tryd.prog w = .ok (.string (ptxt bs)) w := by
  have hl : (bs.map Int.ofNat).length = bs.length := by simp
  rcases hb with e | ⟨g, off, rfl, hr⟩
  · have e' : bs = [] := by simpa using e
    subst e'
    cases a with
    | none => simp [Conv.bytesToString, Sem.run_pure, ptxt, ptx]
    | some ad =>
      refine run_bytesToString w ad 0 c [] ?_
      exact run_loadCells_list (P := Tryd.prog) w ad [] (by simp)
  · refine run_bytesToString w ⟨g, off, none⟩ bs.length c (bs.map Int.ofNat) ?_
    have := run_loadCells_list (P := Tryd.prog) w ⟨g, off, none⟩ (bs.map u8v) (fun j v hv => by rw [Go.WideShapes.add_plain]; exact hr j v hv)
    rw [List.length_map] at this
    rw [this]
    simp [u8v]
theorem run_ptxt_op {o : Oper} {aa : Act} {w : World} (x : Operand) (ho : o.op = .convert 22 9 x) (a : Option Addr) (bs : List Nat) (c : Nat) (hx : aa.eval x = .slice a bs.length c) (hb : Reads w a (bs.map u8v)) :
    (execOp aa.eval o).run Tryd.prog w = .ok (.value (.string (ptxt bs))) w := by
  have h2 := (run_convert_bytes_string (P := Tryd.prog) w 22 9 5 a bs.length c Tryd.underlying22 Tryd.underlying5 Tryd.underlying9).trans (run_ptxt (c := c) hb)
  unfold execOp
  simp only [ho, hx, Sem.run_bind, h2, Result.andThen_ok, Sem.run_pure]
theorem Reads.byPast {w w' : World} {a : Option Addr} {bs : List Nat} {g : Nat} (h : Reads w a (bs.map u8v)) (hn : NoByte w g) (hg : w.grownBy w' (some g)) : Reads w' a (bs.map u8v) := by
  refine h.grown hg ?_
  rcases h with h0 | ⟨g', off, rfl, h0⟩
  · exact .inl h0
  · by_cases e : bs = []
    · exact .inl (by simp [e])
    · refine .inr fun g'' off' hgg hq => ?_
      simp at hgg hq
      obtain ⟨rfl, rfl⟩ := hgg
      subst hq
      exact hn _ _ (h0 0 _ (map_getElem? (xs := bs) (f := u8v) (List.length_pos_iff.2 e)))
set_option maxRecDepth 100000 in
set_option maxHeartbeats 8000000 in
theorem take_k2 {w : World} {i x : Nat} {s t : Pk.St} {kd nn : Int} {v2 v4 v5 v7 v8 v9 : Value} {xb0 xb1 : Bool} (h : Pr w w i x s t) (h2 : v2.oneCell' = true) (h4 : v4.oneCell' = true) (h5 : v5.oneCell' = true) (h7 : v7.oneCell' = true) (h8 : v8.oneCell' = true) (h9 : v9.oneCell' = true) (hk : kd = 2) :
    Calls Tryd.prog 7 #[.pointer (some ⟨i, 0, none⟩), .pointer (some ⟨x, 0, none⟩), .agg #[.int .i64 kd, .int .i64 nn, v2, .bool xb0, v4, v5, .bool xb1, v7, v8, v9]] w (TakeT w i x kd nn s t) := by
  obtain ⟨W0, hW0⟩ : ∃ W0, W0 = w.alloc (.cells #[.int .i64 kd, .int .i64 nn, v2, .bool xb0, v4, v5, .bool xb1, v7, v8, v9] 41) := ⟨_, rfl⟩
  have hB0 : Below w.heap.size w W0 := by rw [hW0]; exact (Below.refl _ _).alloc (Nat.le_refl _) _
  have hb0 : W0.heap[w.heap.size]? = some (.cells #[.int .i64 kd, .int .i64 nn, v2, .bool xb0, v4, v5, .bool xb1, v7, v8, v9] 41 (0, 0)) := by rw [hW0]; exact heap_alloc_new w _
  obtain ⟨k0, k1, k2, k3, k4, k5, k6, k7, k8, k9⟩ := cells10 hb0
  have HP0 := Lib.hid (h.kept hB0)
  have HW0 := Lib.hid hW0
  have e0 : (kd == 0) = false := by rw [hk]; decide
  have e1 : (kd == 1) = false := by rw [hk]; decide
  have e2 : (kd == 2) = true := by rw [hk]; decide
  have HPD : Hid (Pr w W0.drew i x s t) := Lib.hid (HP0.out.kept (Below.refl _ _).drew)
  have HC1 := Lib.hid (Bytes_any HPD.out.inn)
  have HC2 : Hid (∀ W s', Pr w W i x s' t → Calls Tryd.prog 20 #[.pointer (some ⟨x, 0, none⟩)] W (XTakesL u8v x (Pk.bytesV t) (Pk.bytesN t) W)) := Lib.hid fun W s' hh => XBytes_any hh.ref
  have HQ : Hid (s = t → Pk.bytesV s = Pk.bytesV t ∧ Pk.bytesN t = Pk.bytesN s) := Lib.hid fun e => by rw [e]; exact ⟨rfl, rfl⟩
  have HL : Hid (Pk.left (Pk.bytesN t) ≤ Pk.left t) := Lib.hid (Pk.left_bytes t)
  have HT : Hid (Pk.thN kd nn s = Pk.bytesN s) := Lib.hid (by rw [hk]; rfl)
  clear h hW0 hB0 hb0 hk
  generalize Pk.bytesV s = u at *
  generalize Pk.bytesV t = v at *
  generalize Pk.bytesN s = s1 at *
  generalize Pk.bytesN t = t1 at *
  go_enter Tryd.func7, Tryd.ntmps7
  go_wp2_with fail
  rw [← HW0.out]
  refine wp_region_held_drew (S := (fun _ => True)) (by kernel_rfl) ?_ (fun hHeld => ?_)
  · trivial
  refine wpAnyH_take (i := 0) (v := ?_) (by rfl) (by kernel_rfl) (by kernel_rfl) (by kernel_rfl) (by exact fun _ _ _ h => h) (Or.inl ⟨by rfl, ?_⟩) hHeld ?_
  rotate_left 1
  · intro w' hSw
    (try dsimp only at hSw)
    go_simp
    try with_reducible rfl
  try simp only [Act.put, List.setIfInBounds_toArray, List.set_cons_zero, List.set_cons_succ, List.getElem_toArray, List.getElem_cons_zero, List.getElem_cons_succ]
  refine wpAnyH_take (i := 3) (v := ?_) (by rfl) (by kernel_rfl) (by kernel_rfl) (by kernel_rfl) (by exact fun _ _ _ h => h) (Or.inl ⟨by rfl, ?_⟩) hHeld ?_
  rotate_left 1
  · intro w' hSw
    (try dsimp only at hSw)
    go_simp
    try with_reducible rfl
  try simp only [Act.put, List.setIfInBounds_toArray, List.set_cons_zero, List.set_cons_succ, List.getElem_toArray, List.getElem_cons_zero, List.getElem_cons_succ]
  refine wpAnyH_ready (rs := [1]) (by kernel_rfl) (by simp) ?_
  refine AllReadyH.cons (by rfl) (fun K hK => ?_) AllReadyH.nil
  go_simp
  refine HC1.out.mono ?_
  rintro e w1 ⟨a1, c1, rfl, GB, G1, G2⟩
  have HP1 := Lib.hid (HPD.out.first G1.out G2.out)
  have HU1 : Hid (Reads w1 a1 (u.map u8v)) := Lib.hid GB.out.reads
  clear GB G1 G2
  refine hK.out _ _ ?_ (fun hHeld => ?_)
  · trivial
  clear hK K
  try simp only [Act.put, List.setIfInBounds_toArray, List.set_cons_zero, List.set_cons_succ, List.getElem_toArray, List.getElem_cons_zero, List.getElem_cons_succ]
  refine wpAnyH_ready (rs := [2, 4]) (by kernel_rfl) (by simp) ?_
  refine AllReadyH.cons (by rfl) (fun K hK => ?_) ?_
  · refine step_of _ (run_ptxt_op (.tmp 30) rfl a1 u c1 rfl HU1.out) rfl ?_
    refine hK.out _ _ ?_ (fun hHeld => ?_)
    · trivial
    clear hK K
    try simp only [Act.put, List.setIfInBounds_toArray, List.set_cons_zero, List.set_cons_succ, List.getElem_toArray, List.getElem_cons_zero, List.getElem_cons_succ]
    refine wpAnyH_ready (rs := [4]) (by kernel_rfl) (by simp) ?_
    refine AllReadyH.cons (by rfl) (fun K hK => ?_) AllReadyH.nil
    go_simp
    refine (HC2.out _ _ HP1.out).mono ?_
    rintro e w2 ⟨a2, c2, rfl, GB, _, _, G1, G2⟩
    have HP2 := Lib.hid (HP1.out.second G1.out G2.out)
    have HU2 : Hid (Reads w2 a1 (u.map u8v)) := Lib.hid (HU1.out.byPast HP1.out.ref.no G2.out)
    have HV2 := Lib.hid GB.out
    clear GB G1 G2
    refine hK.out _ _ ?_ (fun hHeld => ?_)
    · trivial
    clear hK K
    try simp only [Act.put, List.setIfInBounds_toArray, List.set_cons_zero, List.set_cons_succ, List.getElem_toArray, List.getElem_cons_zero, List.getElem_cons_succ]
    refine wpAnyH_ready (rs := [5]) (by kernel_rfl) (by simp) ?_
    refine AllReadyH.cons (by rfl) (fun K hK => ?_) AllReadyH.nil
    refine step_of _ (run_ptxt_op (.tmp 33) rfl a2 v c2 rfl HV2.out) rfl ?_
    refine hK.out _ _ ?_ (fun hHeld => ?_)
    · trivial
    clear hK K
    try simp only [Act.put, List.setIfInBounds_toArray, List.set_cons_zero, List.set_cons_succ, List.getElem_toArray, List.getElem_cons_zero, List.getElem_cons_succ]
    refine wpAnyH_take (i := 6) (v := ?_) (by rfl) (by kernel_rfl) (by kernel_rfl) (by kernel_rfl) (by exact fun _ _ _ h => h) (Or.inl ⟨by rfl, ?_⟩) hHeld ?_
    rotate_left 1
    · intro w' hSw
      (try dsimp only at hSw)
      go_simp
      try with_reducible rfl
    try simp only [Act.put, List.setIfInBounds_toArray, List.set_cons_zero, List.set_cons_succ, List.getElem_toArray, List.getElem_cons_zero, List.getElem_cons_succ]
    refine wpAnyH_take (i := 7) (v := ?_) (by rfl) (by kernel_rfl) (by kernel_rfl) (by kernel_rfl) (by exact fun _ _ _ h => h) (Or.inl ⟨by rfl, ?_⟩) hHeld ?_
    rotate_left 1
    · intro w' hSw
      (try dsimp only at hSw)
      go_simp
      try with_reducible rfl
    try simp only [Act.put, List.setIfInBounds_toArray, List.set_cons_zero, List.set_cons_succ, List.getElem_toArray, List.getElem_cons_zero, List.getElem_cons_succ]
    refine wpAnyH_done (by kernel_rfl) ?_ _
    clear hHeld
    go_wp2_with fail
    go_ret
    exact ⟨_, t1, rfl, Lib.hid (by rw [HT.out]; exact HP2.out), HL, Lib.hid fun e => ⟨by rw [(HQ.out e).1]; simp, by rw [HT.out, (HQ.out e).2]⟩⟩
  refine AllReadyH.cons (by rfl) (fun K hK => ?_) ?_
  · go_simp
    refine (HC2.out _ _ HP1.out).mono ?_
    rintro e w2 ⟨a2, c2, rfl, GB, _, _, G1, G2⟩
    have HP2 := Lib.hid (HP1.out.second G1.out G2.out)
    have HU2 : Hid (Reads w2 a1 (u.map u8v)) := Lib.hid (HU1.out.byPast HP1.out.ref.no G2.out)
    have HV2 := Lib.hid GB.out
    clear GB G1 G2
    refine hK.out _ _ ?_ (fun hHeld => ?_)
    · trivial
    clear hK K
    try simp only [Act.put, List.setIfInBounds_toArray, List.set_cons_zero, List.set_cons_succ, List.getElem_toArray, List.getElem_cons_zero, List.getElem_cons_succ]
    refine wpAnyH_ready (rs := [2, 5]) (by kernel_rfl) (by simp) ?_
    refine AllReadyH.cons (by rfl) (fun K hK => ?_) ?_
    · refine step_of _ (run_ptxt_op (.tmp 30) rfl a1 u c1 rfl HU2.out) rfl ?_
      refine hK.out _ _ ?_ (fun hHeld => ?_)
      · trivial
      clear hK K
      try simp only [Act.put, List.setIfInBounds_toArray, List.set_cons_zero, List.set_cons_succ, List.getElem_toArray, List.getElem_cons_zero, List.getElem_cons_succ]
      refine wpAnyH_ready (rs := [5]) (by kernel_rfl) (by simp) ?_
      refine AllReadyH.cons (by rfl) (fun K hK => ?_) AllReadyH.nil
      refine step_of _ (run_ptxt_op (.tmp 33) rfl a2 v c2 rfl HV2.out) rfl ?_
      refine hK.out _ _ ?_ (fun hHeld => ?_)
      · trivial
      clear hK K
      try simp only [Act.put, List.setIfInBounds_toArray, List.set_cons_zero, List.set_cons_succ, List.getElem_toArray, List.getElem_cons_zero, List.getElem_cons_succ]
      refine wpAnyH_take (i := 6) (v := ?_) (by rfl) (by kernel_rfl) (by kernel_rfl) (by kernel_rfl) (by exact fun _ _ _ h => h) (Or.inl ⟨by rfl, ?_⟩) hHeld ?_
      rotate_left 1
      · intro w' hSw
        (try dsimp only at hSw)
        go_simp
        try with_reducible rfl
      try simp only [Act.put, List.setIfInBounds_toArray, List.set_cons_zero, List.set_cons_succ, List.getElem_toArray, List.getElem_cons_zero, List.getElem_cons_succ]
      refine wpAnyH_take (i := 7) (v := ?_) (by rfl) (by kernel_rfl) (by kernel_rfl) (by kernel_rfl) (by exact fun _ _ _ h => h) (Or.inl ⟨by rfl, ?_⟩) hHeld ?_
      rotate_left 1
      · intro w' hSw
        (try dsimp only at hSw)
        go_simp
        try with_reducible rfl
      try simp only [Act.put, List.setIfInBounds_toArray, List.set_cons_zero, List.set_cons_succ, List.getElem_toArray, List.getElem_cons_zero, List.getElem_cons_succ]
      refine wpAnyH_done (by kernel_rfl) ?_ _
      clear hHeld
      go_wp2_with fail
      go_ret
      exact ⟨_, t1, rfl, Lib.hid (by rw [HT.out]; exact HP2.out), HL, Lib.hid fun e => ⟨by rw [(HQ.out e).1]; simp, by rw [HT.out, (HQ.out e).2]⟩⟩
    refine AllReadyH.cons (by rfl) (fun K hK => ?_) ?_
    · refine step_of _ (run_ptxt_op (.tmp 33) rfl a2 v c2 rfl HV2.out) rfl ?_
      refine hK.out _ _ ?_ (fun hHeld => ?_)
      · trivial
      clear hK K
      try simp only [Act.put, List.setIfInBounds_toArray, List.set_cons_zero, List.set_cons_succ, List.getElem_toArray, List.getElem_cons_zero, List.getElem_cons_succ]
      refine wpAnyH_ready (rs := [2]) (by kernel_rfl) (by simp) ?_
      refine AllReadyH.cons (by rfl) (fun K hK => ?_) AllReadyH.nil
      refine step_of _ (run_ptxt_op (.tmp 30) rfl a1 u c1 rfl HU2.out) rfl ?_
      refine hK.out _ _ ?_ (fun hHeld => ?_)
      · trivial
      clear hK K
      try simp only [Act.put, List.setIfInBounds_toArray, List.set_cons_zero, List.set_cons_succ, List.getElem_toArray, List.getElem_cons_zero, List.getElem_cons_succ]
      refine wpAnyH_take (i := 6) (v := ?_) (by rfl) (by kernel_rfl) (by kernel_rfl) (by kernel_rfl) (by exact fun _ _ _ h => h) (Or.inl ⟨by rfl, ?_⟩) hHeld ?_
      rotate_left 1
      · intro w' hSw
        (try dsimp only at hSw)
        go_simp
        try with_reducible rfl
      try simp only [Act.put, List.setIfInBounds_toArray, List.set_cons_zero, List.set_cons_succ, List.getElem_toArray, List.getElem_cons_zero, List.getElem_cons_succ]
      refine wpAnyH_take (i := 7) (v := ?_) (by rfl) (by kernel_rfl) (by kernel_rfl) (by kernel_rfl) (by exact fun _ _ _ h => h) (Or.inl ⟨by rfl, ?_⟩) hHeld ?_
      rotate_left 1
      · intro w' hSw
        (try dsimp only at hSw)
        go_simp
        try with_reducible rfl
      try simp only [Act.put, List.setIfInBounds_toArray, List.set_cons_zero, List.set_cons_succ, List.getElem_toArray, List.getElem_cons_zero, List.getElem_cons_succ]
      refine wpAnyH_done (by kernel_rfl) ?_ _
      clear hHeld
      go_wp2_with fail
      go_ret
      exact ⟨_, t1, rfl, Lib.hid (by rw [HT.out]; exact HP2.out), HL, Lib.hid fun e => ⟨by rw [(HQ.out e).1]; simp, by rw [HT.out, (HQ.out e).2]⟩⟩
    exact AllReadyH.nil
  exact AllReadyH.nil
set_option maxRecDepth 100000 in
set_option maxHeartbeats 8000000 in
theorem take_kno {w : World} {i x : Nat} {s t : Pk.St} {kd nn : Int} {v2 v4 v5 v7 v8 v9 : Value} {xb0 xb1 : Bool} (h : Pr w w i x s t) (h2 : v2.oneCell' = true) (h4 : v4.oneCell' = true) (h5 : v5.oneCell' = true) (h7 : v7.oneCell' = true) (h8 : v8.oneCell' = true) (h9 : v9.oneCell' = true) (hk : kd < 0 ∨ 5 < kd) (hn : -9223372036854775808 ≤ nn ∧ nn ≤ 9223372036854775807) :
    Calls Tryd.prog 7 #[.pointer (some ⟨i, 0, none⟩), .pointer (some ⟨x, 0, none⟩), .agg #[.int .i64 kd, .int .i64 nn, v2, .bool xb0, v4, v5, .bool xb1, v7, v8, v9]] w (TakeT w i x kd nn s t) := by
  obtain ⟨W0, hW0⟩ : ∃ W0, W0 = w.alloc (.cells #[.int .i64 kd, .int .i64 nn, v2, .bool xb0, v4, v5, .bool xb1, v7, v8, v9] 41) := ⟨_, rfl⟩
  have hB0 : Below w.heap.size w W0 := by rw [hW0]; exact (Below.refl _ _).alloc (Nat.le_refl _) _
  have hb0 : W0.heap[w.heap.size]? = some (.cells #[.int .i64 kd, .int .i64 nn, v2, .bool xb0, v4, v5, .bool xb1, v7, v8, v9] 41 (0, 0)) := by rw [hW0]; exact heap_alloc_new w _
  obtain ⟨k0, k1, k2, k3, k4, k5, k6, k7, k8, k9⟩ := cells10 hb0
  have HP0 := Lib.hid (h.kept hB0)
  have HW0 := Lib.hid hW0
  have e0 : (kd == 0) = false := by simp; omega
  have e1 : (kd == 1) = false := by simp; omega
  have e2 : (kd == 2) = false := by simp; omega
  have e3 : (kd == 3) = false := by simp; omega
  have e4 : (kd == 4) = false := by simp; omega
  have e5 : (kd == 5) = false := by simp; omega
  have HPD : Hid (Pr w W0.drew i x s t) := Lib.hid (HP0.out.kept (Below.refl _ _).drew)
  have HBX : Hid (W0.drew.cell? ⟨w.heap.size, 1, none⟩ = some (.int .i64 nn)) := Lib.hid k1
  have HNE : Hid (w.heap.size ≠ i ∧ w.heap.size ≠ x) := Lib.hid ⟨fun e => by have := h.inn.lt; omega, fun e => by have := h.ref.lt; omega⟩
  have HC1 := Lib.hid (Count_any (m := nn) HPD.out.inn hn)
  have HC2 : Hid (∀ W s', Pr w W i x s' t → Calls Tryd.prog 27 #[.pointer (some ⟨x, 0, none⟩), .int .i64 nn] W (XTakes x (.int .i64 (Pk.countV nn t : Int)) (Pk.countN nn t) W)) := Lib.hid fun W s' hh => XCount_any hh.ref hn
  have HQ : Hid (s = t → (Pk.countV nn s : Int) = (Pk.countV nn t : Int) ∧ Pk.countN nn t = Pk.countN nn s) := Lib.hid fun e => by rw [e]; exact ⟨rfl, rfl⟩
  have HL : Hid (Pk.left (Pk.countN nn t) ≤ Pk.left t) := Lib.hid (Pk.left_count nn t)
  have HT : Hid (Pk.thN kd nn s = Pk.countN nn s) := Lib.hid (th6 nn s hk)
  clear h hW0 hB0 hb0 hk hn
  generalize (Pk.countV nn s : Int) = u at *
  generalize (Pk.countV nn t : Int) = v at *
  generalize Pk.countN nn s = s1 at *
  generalize Pk.countN nn t = t1 at *
  go_enter Tryd.func7, Tryd.ntmps7
  go_wp2_with fail
  rw [← HW0.out]
  refine wp_region_held_drew (S := (fun w' => w'.cell? ⟨w.heap.size, 1, none⟩ = some (.int .i64 nn))) (by kernel_rfl) ?_ (fun hHeld => ?_)
  · exact HBX.out
  refine wpAnyH_take (i := 0) (v := ?_) (by rfl) (by kernel_rfl) (by kernel_rfl) (by kernel_rfl) (by exact fun _ _ _ h => h) (Or.inl ⟨by rfl, ?_⟩) hHeld ?_
  rotate_left 1
  · intro w' hSw
    (try dsimp only at hSw)
    go_simp
    try with_reducible rfl
  try simp only [Act.put, List.setIfInBounds_toArray, List.set_cons_zero, List.set_cons_succ, List.getElem_toArray, List.getElem_cons_zero, List.getElem_cons_succ]
  refine wpAnyH_take (i := 1) (v := ?_) (by rfl) (by kernel_rfl) (by kernel_rfl) (by kernel_rfl) (by exact fun _ _ _ h => h) (Or.inl ⟨by rfl, ?_⟩) hHeld ?_
  rotate_left 1
  · intro w' hSw
    (try dsimp only at hSw)
    go_simp
    try with_reducible rfl
  try simp only [Act.put, List.setIfInBounds_toArray, List.set_cons_zero, List.set_cons_succ, List.getElem_toArray, List.getElem_cons_zero, List.getElem_cons_succ]
  refine wpAnyH_take (i := 2) (v := ?_) (by rfl) (by kernel_rfl) (by kernel_rfl) (by kernel_rfl) (by exact fun _ _ _ h => h) (Or.inl ⟨by rfl, ?_⟩) hHeld ?_
  rotate_left 1
  · intro w' hSw
    (try dsimp only at hSw)
    go_simp
    try with_reducible rfl
  try simp only [Act.put, List.setIfInBounds_toArray, List.set_cons_zero, List.set_cons_succ, List.getElem_toArray, List.getElem_cons_zero, List.getElem_cons_succ]
  refine wpAnyH_take (i := 4) (v := ?_) (by rfl) (by kernel_rfl) (by kernel_rfl) (by kernel_rfl) (by exact fun _ _ _ h => h) (Or.inl ⟨by rfl, ?_⟩) hHeld ?_
  rotate_left 1
  · intro w' hSw
    (try dsimp only at hSw)
    go_simp
    try with_reducible rfl
  try simp only [Act.put, List.setIfInBounds_toArray, List.set_cons_zero, List.set_cons_succ, List.getElem_toArray, List.getElem_cons_zero, List.getElem_cons_succ]
  refine wpAnyH_take (i := 5) (v := ?_) (by rfl) (by kernel_rfl) (by kernel_rfl) (by kernel_rfl) (by exact fun _ _ _ h => h) (Or.inl ⟨by rfl, ?_⟩) hHeld ?_
  rotate_left 1
  · intro w' hSw
    (try dsimp only at hSw)
    go_simp
    try with_reducible rfl
  try simp only [Act.put, List.setIfInBounds_toArray, List.set_cons_zero, List.set_cons_succ, List.getElem_toArray, List.getElem_cons_zero, List.getElem_cons_succ]
  refine wpAnyH_take (i := 6) (v := ?_) (by rfl) (by kernel_rfl) (by kernel_rfl) (by kernel_rfl) (by exact fun _ _ _ h => h) (Or.inl ⟨by rfl, ?_⟩) hHeld ?_
  rotate_left 1
  · intro w' hSw
    (try dsimp only at hSw)
    go_simp
    try with_reducible rfl
  try simp only [Act.put, List.setIfInBounds_toArray, List.set_cons_zero, List.set_cons_succ, List.getElem_toArray, List.getElem_cons_zero, List.getElem_cons_succ]
  refine wpAnyH_ready (rs := [3]) (by kernel_rfl) (by simp) ?_
  refine AllReadyH.cons (by rfl) (fun K hK => ?_) AllReadyH.nil
  go_simp
  refine HC1.out.mono ?_
  rintro e w1 ⟨rfl, G1, G2⟩
  have HP1 := Lib.hid (HPD.out.first G1.out G2.out)
  have HX1 : Hid (w1.cell? ⟨w.heap.size, 1, none⟩ = some (.int .i64 nn)) := Lib.hid ((World.cell?_of_block (a := ⟨w.heap.size, 1, none⟩) (G2.out.block _ (World.block_lt_of_cell? _ _ HBX.out) (by simpa using HNE.out.1))).trans HBX.out)
  clear G1 G2
  refine hK.out _ _ ?_ (fun hHeld => ?_)
  · exact HX1.out
  clear hK K
  try simp only [Act.put, List.setIfInBounds_toArray, List.set_cons_zero, List.set_cons_succ, List.getElem_toArray, List.getElem_cons_zero, List.getElem_cons_succ]
  refine wpAnyH_ready (rs := [7]) (by kernel_rfl) (by simp) ?_
  refine AllReadyH.cons (by rfl) (fun K hK => ?_) AllReadyH.nil
  go_simp
  refine (HC2.out _ _ HP1.out).mono ?_
  rintro e w2 ⟨rfl, G1, G2⟩
  have HP2 := Lib.hid (HP1.out.second G1.out G2.out)
  have HX2 : Hid (w2.cell? ⟨w.heap.size, 1, none⟩ = some (.int .i64 nn)) := Lib.hid ((World.cell?_of_block (a := ⟨w.heap.size, 1, none⟩) (G2.out.block _ (World.block_lt_of_cell? _ _ HX1.out) (by simpa using HNE.out.2))).trans HX1.out)
  clear G1 G2
  refine hK.out _ _ ?_ (fun hHeld => ?_)
  · exact HX2.out
  clear hK K
  try simp only [Act.put, List.setIfInBounds_toArray, List.set_cons_zero, List.set_cons_succ, List.getElem_toArray, List.getElem_cons_zero, List.getElem_cons_succ]
  refine wpAnyH_take (i := 8) (v := ?_) (by rfl) (by kernel_rfl) (by kernel_rfl) (by kernel_rfl) (by exact fun _ _ _ h => h) (Or.inl ⟨by rfl, ?_⟩) hHeld ?_
  rotate_left 1
  · intro w' hSw
    (try dsimp only at hSw)
    go_simp
    try with_reducible rfl
  try simp only [Act.put, List.setIfInBounds_toArray, List.set_cons_zero, List.set_cons_succ, List.getElem_toArray, List.getElem_cons_zero, List.getElem_cons_succ]
  refine wpAnyH_take (i := 9) (v := ?_) (by rfl) (by kernel_rfl) (by kernel_rfl) (by kernel_rfl) (by exact fun _ _ _ h => h) (Or.inl ⟨by rfl, ?_⟩) hHeld ?_
  rotate_left 1
  · intro w' hSw
    (try dsimp only at hSw)
    go_simp
    try with_reducible rfl
  try simp only [Act.put, List.setIfInBounds_toArray, List.set_cons_zero, List.set_cons_succ, List.getElem_toArray, List.getElem_cons_zero, List.getElem_cons_succ]
  refine wpAnyH_done (by kernel_rfl) ?_ _
  clear hHeld
  go_wp2_with fail
  go_ret
  exact ⟨u == v, t1, rfl, Lib.hid (by rw [HT.out]; exact HP2.out), HL, Lib.hid fun e => ⟨by rw [(HQ.out e).1]; simp, by rw [HT.out, (HQ.out e).2]⟩⟩
end Go.Proofs.YtodedlnpokagfaaDoor


/-
  law04.take: ratios, numbers with a delta, lists; any thing.
-/
set_option linter.unusedVariables false
set_option linter.unusedSimpArgs false
namespace Go.Proofs.YtodedlnpokagfaaDoor
open Go.RowKit Rep

theorem zero_delta (w : World) : (zeroValue 38).run Tryd.prog w = .ok (.agg #[.bool false, .slice none 0 0, .slice none 0 0, .bool false, .slice none 0 0, .slice none 0 0]) w := by go_simp
theorem rep_get (k : Nat) : ∀ (n j : Nat) (s : Pk.St), j < n → (Pk.rep k n s).getD j 0 = Pk.val (Pk.cutV k (Pk.repN k j s))
  | 0, j, s, h => by omega
  | n + 1, 0, s, h => rfl
  | n + 1, j + 1, s, h => by
    have := rep_get k n j (Pk.cutN k s) (by omega)
    simpa [Pk.rep, Pk.repN] using this
set_option maxRecDepth 100000 in
set_option maxHeartbeats 8000000 in
theorem take_k3 {w : World} {i x : Nat} {s t : Pk.St} {kd nn : Int} {v2 v4 v5 v7 v8 v9 : Value} {xb0 xb1 : Bool} (h : Pr w w i x s t) (h2 : v2.oneCell' = true) (h4 : v4.oneCell' = true) (h5 : v5.oneCell' = true) (h7 : v7.oneCell' = true) (h8 : v8.oneCell' = true) (h9 : v9.oneCell' = true) (hk : kd = 3) (hs : Pk.left s ≤ 40000) (ht : Pk.left t ≤ 40000) :
    Calls Tryd.prog 7 #[.pointer (some ⟨i, 0, none⟩), .pointer (some ⟨x, 0, none⟩), .agg #[.int .i64 kd, .int .i64 nn, v2, .bool xb0, v4, v5, .bool xb1, v7, v8, v9]] w (TakeT w i x kd nn s t) := by
  obtain ⟨W0, hW0⟩ : ∃ W0, W0 = w.alloc (.cells #[.int .i64 kd, .int .i64 nn, v2, .bool xb0, v4, v5, .bool xb1, v7, v8, v9] 41) := ⟨_, rfl⟩
  have hB0 : Below w.heap.size w W0 := by rw [hW0]; exact (Below.refl _ _).alloc (Nat.le_refl _) _
  have hb0 : W0.heap[w.heap.size]? = some (.cells #[.int .i64 kd, .int .i64 nn, v2, .bool xb0, v4, v5, .bool xb1, v7, v8, v9] 41 (0, 0)) := by rw [hW0]; exact heap_alloc_new w _
  obtain ⟨k0, k1, k2, k3, k4, k5, k6, k7, k8, k9⟩ := cells10 hb0
  have HP0 := Lib.hid (h.kept hB0)
  have HW0 := Lib.hid hW0
  have e0 : (kd == 0) = false := by rw [hk]; decide
  have e1 : (kd == 1) = false := by rw [hk]; decide
  have e2 : (kd == 2) = false := by rw [hk]; decide
  have e3 : (kd == 3) = true := by rw [hk]; decide
  have hlt := h.ref.lt
  have hsz : W0.heap.size = w.heap.size + 1 := by rw [hW0]; simp
  have HXL : Hid (x ≤ W0.heap.size + 1) := Lib.hid (by omega)
  have HC1 := Lib.hid (Ratio_any HP0.out.inn HP0.out.tab (Pk.sm_of hs))
  have HC2 : Hid (∀ W s', Pr w W i x s' t → Calls Tryd.prog 23 #[.pointer (some ⟨x, 0, none⟩)] W (XTakesR x (Pk.ratS t) (Pk.ratX t) (Pk.ratD t) (Pk.ratN t) W)) := Lib.hid fun W s' hh => XRatio_any hh.ref hh.tab (Pk.sm_of ht)
  have HQ : Hid (s = t → Pk.ratS s = Pk.ratS t ∧ Pk.ratX s = Pk.ratX t ∧ Pk.ratD s = Pk.ratD t ∧ Pk.ratN t = Pk.ratN s) := Lib.hid fun e => by rw [e]; exact ⟨rfl, rfl, rfl, rfl⟩
  have HL : Hid (Pk.left (Pk.ratN t) ≤ Pk.left t) := Lib.hid (Pk.left_rat t)
  have HT : Hid (Pk.thN kd nn s = Pk.ratN s) := Lib.hid (by rw [hk, th3])
  have HLE : Hid ((Pk.ratX s).length ≤ 1000000 ∧ (Pk.ratD s).length ≤ 1000000) := Lib.hid (by
    have := Pk.sm_of hs
    unfold Pk.ratSm at this
    unfold Pk.ratX Pk.ratD
    split
    · omega
    · simp)
  clear h hW0 hB0 hb0 hk hs ht hlt hsz
  generalize Pk.ratS s = u0 at *
  generalize Pk.ratX s = u1 at *
  generalize Pk.ratD s = u2 at *
  generalize Pk.ratN s = s1 at *
  generalize Pk.ratS t = v0 at *
  generalize Pk.ratX t = v1 at *
  generalize Pk.ratD t = v2' at *
  generalize Pk.ratN t = t1 at *
  go_enter Tryd.func7, Tryd.ntmps7
  go_wp2_with fail
  rw [← HW0.out]
  refine HC1.out.mono ?_
  rintro e w1 ⟨a1, c1, a2, c2, rfl, GL, G1, G2⟩
  have HP1 := Lib.hid (HP0.out.first G1.out G2.out)
  have HGL := Lib.hid GL.out
  clear G1 G2 HC1 GL
  have HC3 := Lib.hid (HC2.out _ _ HP1.out)
  clear HC2
  go_wp2_with fail
  refine HC3.out.mono ?_
  rintro e w2 ⟨b1, d1, b2, d2, rfl, GM, G3, G4⟩
  have HP2 := Lib.hid (HP1.out.second G3.out G4.out)
  have HL1 := Lib.hid (HGL.out.1.past G4.out HXL.out)
  have HL2 := Lib.hid (HGL.out.2.past G4.out HXL.out)
  have HSM := Lib.hid (SameL_any (s1 := u0) (s2 := false) (t1 := v0) (t2 := false) (c1 := c1) (c2 := c2) (c3 := 0) (c4 := 0) (c5 := d1) (c6 := d2) (c7 := 0) (c8 := 0) (a2 := none) (b2 := none) (d2 := none) (e2 := none) (ys := []) (es := []) (ys' := []) (es' := []) HL1.out.reads HL2.out.reads (.inl rfl) (.inl rfl) GM.out.1.reads GM.out.2.reads (.inl rfl) (.inl rfl) HLE.out.1 HLE.out.2 (by simp) (by simp))
  clear G3 G4 GM HC3
  go_wp2_with fail
  refine HSM.out.mono ?_
  rintro e w3 ⟨rfl, hb3⟩
  have HP3 := Lib.hid (HP2.out.kept hb3)
  clear hb3 HSM
  go_wp2_with fail
  go_ret
  exact ⟨_, t1, rfl, Lib.hid (by rw [HT.out]; exact HP3.out), HL, Lib.hid fun e => ⟨by obtain ⟨q1, q2, q3, _⟩ := HQ.out e; simp [q1, q2, q3], by rw [HT.out, (HQ.out e).2.2.2]⟩⟩
set_option maxRecDepth 100000 in
set_option maxHeartbeats 8000000 in
theorem take_k4 {w : World} {i x : Nat} {s t : Pk.St} {kd nn : Int} {v2 v4 v5 v7 v8 v9 : Value} {xb0 xb1 : Bool} (h : Pr w w i x s t) (h2 : v2.oneCell' = true) (h4 : v4.oneCell' = true) (h5 : v5.oneCell' = true) (h7 : v7.oneCell' = true) (h8 : v8.oneCell' = true) (h9 : v9.oneCell' = true) (hk : kd = 4) (hs : Pk.left s ≤ 40000) (ht : Pk.left t ≤ 40000) :
    Calls Tryd.prog 7 #[.pointer (some ⟨i, 0, none⟩), .pointer (some ⟨x, 0, none⟩), .agg #[.int .i64 kd, .int .i64 nn, v2, .bool xb0, v4, v5, .bool xb1, v7, v8, v9]] w (TakeT w i x kd nn s t) := by
  obtain ⟨W0, hW0⟩ : ∃ W0, W0 = w.alloc (.cells #[.int .i64 kd, .int .i64 nn, v2, .bool xb0, v4, v5, .bool xb1, v7, v8, v9] 41) := ⟨_, rfl⟩
  have hB0 : Below w.heap.size w W0 := by rw [hW0]; exact (Below.refl _ _).alloc (Nat.le_refl _) _
  have hb0 : W0.heap[w.heap.size]? = some (.cells #[.int .i64 kd, .int .i64 nn, v2, .bool xb0, v4, v5, .bool xb1, v7, v8, v9] 41 (0, 0)) := by rw [hW0]; exact heap_alloc_new w _
  obtain ⟨k0, k1, k2, k3, k4, k5, k6, k7, k8, k9⟩ := cells10 hb0
  have HP0 := Lib.hid (h.kept hB0)
  have HW0 := Lib.hid hW0
  have e0 : (kd == 0) = false := by rw [hk]; decide
  have e1 : (kd == 1) = false := by rw [hk]; decide
  have e2 : (kd == 2) = false := by rw [hk]; decide
  have e3 : (kd == 3) = false := by rw [hk]; decide
  have e4 : (kd == 4) = true := by rw [hk]; decide
  have hlt := h.ref.lt
  have hsz : W0.heap.size = w.heap.size + 1 := by rw [hW0]; simp
  have HXL : Hid (x ≤ W0.heap.size) := Lib.hid (by omega)
  have hs2 : Pk.left (Pk.ratN s) ≤ 40000 := Nat.le_trans (Pk.left_rat s) hs
  have ht2 : Pk.left (Pk.ratN t) ≤ 40000 := Nat.le_trans (Pk.left_rat t) ht
  have HC1 := Lib.hid (Delta_any HP0.out.inn HP0.out.tab (Pk.sm_of hs) (Pk.sm_of hs2))
  have HC2 := Lib.hid (fun W s' (hh : Pr w W i x s' t) => XDelta_any hh.ref hh.tab (Pk.sm_of ht) (Pk.sm_of ht2))
  have HL : Hid (Pk.left (Pk.delN t) ≤ Pk.left t) := Lib.hid (Nat.le_trans (Pk.left_rat _) (Pk.left_rat t))
  have HT : Hid (Pk.thN kd nn s = Pk.delN s) := Lib.hid (by rw [hk, th4]; rfl)
  have lenX : ∀ u : Pk.St, Pk.left u ≤ 40000 → (Pk.ratX u).length ≤ 1000000 ∧ (Pk.ratD u).length ≤ 1000000 := fun u hu => by
    have := Pk.sm_of hu
    unfold Pk.ratSm at this
    unfold Pk.ratX Pk.ratD
    split
    · omega
    · simp
  obtain ⟨u0, e00⟩ : ∃ f, f = (Pk.delOK s && Pk.ratS s) := ⟨_, rfl⟩
  obtain ⟨u1, e01⟩ : ∃ f, f = (if Pk.delOK s then Pk.ratX s else []) := ⟨_, rfl⟩
  obtain ⟨u2, e02⟩ : ∃ f, f = (if Pk.delOK s then Pk.ratD s else []) := ⟨_, rfl⟩
  obtain ⟨u3, e03⟩ : ∃ f, f = (Pk.delOK s && Pk.ratS (Pk.ratN s)) := ⟨_, rfl⟩
  obtain ⟨u4, e04⟩ : ∃ f, f = (if Pk.delOK s then Pk.ratX (Pk.ratN s) else []) := ⟨_, rfl⟩
  obtain ⟨u5, e05⟩ : ∃ f, f = (if Pk.delOK s then Pk.ratD (Pk.ratN s) else []) := ⟨_, rfl⟩
  obtain ⟨s1, e06⟩ : ∃ f, f = Pk.delN s := ⟨_, rfl⟩
  obtain ⟨v0, f00⟩ : ∃ f, f = (Pk.delOK t && Pk.ratS t) := ⟨_, rfl⟩
  obtain ⟨v1, f01⟩ : ∃ f, f = (if Pk.delOK t then Pk.ratX t else []) := ⟨_, rfl⟩
  obtain ⟨v2', f02⟩ : ∃ f, f = (if Pk.delOK t then Pk.ratD t else []) := ⟨_, rfl⟩
  obtain ⟨v3, f03⟩ : ∃ f, f = (Pk.delOK t && Pk.ratS (Pk.ratN t)) := ⟨_, rfl⟩
  obtain ⟨v4', f04⟩ : ∃ f, f = (if Pk.delOK t then Pk.ratX (Pk.ratN t) else []) := ⟨_, rfl⟩
  obtain ⟨v5', f05⟩ : ∃ f, f = (if Pk.delOK t then Pk.ratD (Pk.ratN t) else []) := ⟨_, rfl⟩
  obtain ⟨t1, f06⟩ : ∃ f, f = Pk.delN t := ⟨_, rfl⟩
  have HLE : Hid (u1.length ≤ 1000000 ∧ u2.length ≤ 1000000 ∧ u4.length ≤ 1000000 ∧ u5.length ≤ 1000000) := Lib.hid (by
    have h1 := lenX s hs
    have h2 := lenX _ hs2
    rw [e01, e02, e04, e05]
    split
    · exact ⟨h1.1, h1.2, h2.1, h2.2⟩
    · simp)
  have HQ : Hid (s = t → (u0 = v0 ∧ u1 = v1 ∧ u2 = v2') ∧ (u3 = v3 ∧ u4 = v4' ∧ u5 = v5') ∧ t1 = s1) := Lib.hid fun e => by
    rw [e00, e01, e02, e03, e04, e05, e06, f00, f01, f02, f03, f04, f05, f06, e]
    exact ⟨⟨rfl, rfl, rfl⟩, ⟨rfl, rfl, rfl⟩, rfl⟩
  rw [← e00, ← e01, ← e02, ← e03, ← e04, ← e05, ← e06] at HC1
  rw [← f00, ← f01, ← f02, ← f03, ← f04, ← f05, ← f06] at HC2
  rw [← f06] at HL
  rw [← e06] at HT
  clear h hW0 hB0 hb0 hk hs ht hlt hsz hs2 ht2 lenX e00 e01 e02 e03 e04 e05 e06 f00 f01 f02 f03 f04 f05 f06
  go_enter Tryd.func7, Tryd.ntmps7
  go_wp2_with fail
  rw [← HW0.out]
  refine HC1.out.mono ?_
  rintro e w1 ⟨a1, c1, a2, c2, a3, c3, a4, c4, rfl, GL, G1, G2⟩
  have HP1 := Lib.hid (HP0.out.first G1.out G2.out)
  have HGL := Lib.hid GL.out
  clear G1 G2 HC1 GL
  have HC3 := Lib.hid (HC2.out _ _ HP1.out)
  clear HC2
  go_wp2_with fail
  refine HC3.out.mono ?_
  rintro e w2 ⟨b1, d1, b2, d2, b3, d3, b4, d4, rfl, GM, G3, G4⟩
  have HP2 := Lib.hid (HP1.out.second G3.out G4.out)
  have HSM := Lib.hid (SameL_any (s1 := u0) (s2 := u3) (t1 := v0) (t2 := v3) (c1 := c1) (c2 := c2) (c3 := c3) (c4 := c4) (c5 := d1) (c6 := d2) (c7 := d3) (c8 := d4)
    (HGL.out.1.1.past G4.out HXL.out).reads (HGL.out.1.2.past G4.out HXL.out).reads (HGL.out.2.1.past G4.out HXL.out).reads (HGL.out.2.2.past G4.out HXL.out).reads GM.out.1.1.reads GM.out.1.2.reads GM.out.2.1.reads GM.out.2.2.reads HLE.out.1 HLE.out.2.1 HLE.out.2.2.1 HLE.out.2.2.2)
  clear G3 G4 GM HC3
  go_wp2_with fail
  refine HSM.out.mono ?_
  rintro e w3 ⟨rfl, hb3⟩
  have HP3 := Lib.hid (HP2.out.kept hb3)
  clear hb3 HSM
  go_wp2_with fail
  go_ret
  exact ⟨_, t1, rfl, Lib.hid (by rw [HT.out]; exact HP3.out), HL, Lib.hid fun e => ⟨by obtain ⟨⟨q1, q2, q3⟩, ⟨q4, q5, q6⟩, _⟩ := HQ.out e; simp [q1, q2, q3, q4, q5, q6], by rw [HT.out, (HQ.out e).2.2]⟩⟩
set_option maxRecDepth 100000 in
set_option maxHeartbeats 8000000 in
theorem take_k5 {w : World} {i x : Nat} {s t : Pk.St} {kd nn : Int} {v2 v4 v5 v7 v8 v9 : Value} {xb0 xb1 : Bool} (h : Pr w w i x s t) (h2 : v2.oneCell' = true) (h4 : v4.oneCell' = true) (h5 : v5.oneCell' = true) (h7 : v7.oneCell' = true) (h8 : v8.oneCell' = true) (h9 : v9.oneCell' = true) (hk : kd = 5) :
    Calls Tryd.prog 7 #[.pointer (some ⟨i, 0, none⟩), .pointer (some ⟨x, 0, none⟩), .agg #[.int .i64 kd, .int .i64 nn, v2, .bool xb0, v4, v5, .bool xb1, v7, v8, v9]] w (TakeT w i x kd nn s t) := by
  obtain ⟨W0, hW0⟩ : ∃ W0, W0 = w.alloc (.cells #[.int .i64 kd, .int .i64 nn, v2, .bool xb0, v4, v5, .bool xb1, v7, v8, v9] 41) := ⟨_, rfl⟩
  have hB0 : Below w.heap.size w W0 := by rw [hW0]; exact (Below.refl _ _).alloc (Nat.le_refl _) _
  have hb0 : W0.heap[w.heap.size]? = some (.cells #[.int .i64 kd, .int .i64 nn, v2, .bool xb0, v4, v5, .bool xb1, v7, v8, v9] 41 (0, 0)) := by rw [hW0]; exact heap_alloc_new w _
  obtain ⟨k0, k1, k2, k3, k4, k5, k6, k7, k8, k9⟩ := cells10 hb0
  have HP0 := Lib.hid (h.kept hB0)
  have HW0 := Lib.hid hW0
  have e0 : (kd == 0) = false := by rw [hk]; decide
  have e1 : (kd == 1) = false := by rw [hk]; decide
  have e2 : (kd == 2) = false := by rw [hk]; decide
  have e3 : (kd == 3) = false := by rw [hk]; decide
  have e4 : (kd == 4) = false := by rw [hk]; decide
  have e5 : (kd == 5) = true := by rw [hk]; decide
  have HC1 := Lib.hid (TakeI_any HP0.out.inn)
  have HC2 := Lib.hid (fun W s' (hh : Pr w W i x s' t) => XCount_any (m := 8) hh.ref ⟨by omega, by omega⟩)
  have HXW : Hid (x < W0.heap.size) := Lib.hid HP0.out.ref.lt
  have HL : Hid (Pk.left (Pk.countN 8 t) ≤ Pk.left t) := Lib.hid (Pk.left_count 8 t)
  have HT : Hid (Pk.thN kd nn s = Pk.listN 8 s) := Lib.hid (by rw [hk, th5])
  have HIN := Lib.hid (fun W s' t' (hh : Pr w W i x s' t') => XInt_any hh.ref)
  have HLEN : Hid ((Pk.listV 8 s).length = Pk.countV 8 s) := Lib.hid (by unfold Pk.listV; rw [Pk.rep_length]; rfl)
  have HEL : Hid (s = t → ∀ k, k < (Pk.listV 8 s).length → Pk.iN ((Pk.listV 8 s).getD k 0) = Pk.intV (Pk.repN 8 k (Pk.countN 8 t))) := Lib.hid fun e k hk2 => by
    rw [HLEN.out] at hk2
    subst e
    show Pk.iN ((Pk.rep 8 (Pk.countV ((8 : Nat) : Int) s) (Pk.countN ((8 : Nat) : Int) s)).getD k 0) = _
    rw [rep_get 8 (Pk.countV ((8 : Nat) : Int) s) k (Pk.countN ((8 : Nat) : Int) s) hk2]
    rfl
  have HFN : Hid (s = t → Pk.repN 8 (Pk.listV 8 s).length (Pk.countN 8 t) = Pk.listN 8 s) := Lib.hid fun e => by
    subst e
    rw [HLEN.out]
    rfl
  have HCN : Hid (s = t → (Pk.listV 8 s).length = Pk.countV 8 t) := Lib.hid fun e => by rw [HLEN.out, e]
  clear h hW0 hB0 hb0 hk
  generalize Pk.listV 8 s = ls at *
  generalize Pk.listN 8 s = s1 at *
  generalize Pk.countV 8 t = n2 at *
  generalize Pk.countN 8 t = t0 at *
  go_enter Tryd.func7, Tryd.ntmps7
  go_wp2_with fail
  rw [← HW0.out]
  refine HC1.out.mono ?_
  rintro e w1 ⟨la, lc, rfl, GR, GC, GN, G1, G2⟩
  have HP1 := Lib.hid (HP0.out.first G1.out G2.out)
  have HRD := Lib.hid GR.out
  have HNW : Hid (∀ j, blk la = some j → x < j) := Lib.hid fun j e => by have := GN.out j e; have := HXW.out; omega
  have hcc := GC.out
  unfold maxLen at hcc
  obtain ⟨hcc1, hcc2⟩ := hcc
  clear G1 G2 HC1 GR GC GN
  have HC3 := Lib.hid (HC2.out _ _ HP1.out)
  clear HC2
  obtain ⟨n1, hn1⟩ : ∃ n, ls.length = n := ⟨_, rfl⟩
  have HN1 := Lib.hid hn1
  rw [hn1] at hcc1 HEL HFN HCN ⊢
  go_wp2_with fail
  refine HC3.out.mono ?_
  rintro e w2 ⟨rfl, G3, G4⟩
  have HP2 := Lib.hid (HP1.out.second G3.out G4.out)
  have HRD2 : Hid (Reads w2 la (ls.map n64v)) := Lib.hid (HRD.out.grown G4.out (.inr fun g' off e e' => by subst e; have := HNW.out g' rfl; cases e'; omega))
  clear G3 G4 HC3 HRD hn1
  by_cases hne : n1 = n2
  · subst hne
    go_wp2_with fail
    go_loopw [66] (fun (iv : Value) (wr : World) => ∃ k : Nat, k ≤ n1 ∧ iv = .int .i64 (k : Int) ∧ Hid (∃ t', Pr w wr i x s1 t' ∧ Reads wr la (ls.map n64v) ∧ Pk.left t' ≤ Pk.left t0 ∧ (s = t → t' = Pk.repN 8 k t0))) (fun iv _ => n1 - (intOf iv).toNat)
    case atStart => exact ⟨0, Nat.zero_le _, rfl, Lib.hid ⟨t0, HP2.out, HRD2.out, Nat.le_refl _, fun _ => rfl⟩⟩
    case round =>
      obtain ⟨k, hkn, rfl, HI⟩ := hrel
      clear HP2 HRD2
      obtain ⟨t', hpr, hrd, hlf, hst⟩ := HI.out
      by_cases hlt : k < n1
      · obtain ⟨g, off, rfl, hg, hcell⟩ := hrd.open' (by rw [List.length_map, HN1.out]; omega)
        have hck := hcell k _ (map_getElem? (xs := ls) (by rw [HN1.out]; exact hlt))
        unfold n64v at hck
        have HC := Lib.hid (HIN.out _ _ _ hpr)
        have HK := Lib.hid (And.intro hpr (And.intro hrd (And.intro hlf hst)))
        have hki : (k : Int) < (n1 : Int) := by omega
        have hiw : wrap64 ((k : Int) + 1) = (k : Int) + 1 := IntWalk.wrap64_in _ (by omega)
        have HNX : Hid (s = t → Pk.intN t' = Pk.repN 8 (k + 1) t0) := Lib.hid fun e => by rw [hst e, Pk.repN_snoc]; rfl
        have HEQ : Hid (s = t → Pk.iN (ls.getD k 0) = Pk.intV t') := Lib.hid fun e => by rw [HEL.out e k hlt, hst e]
        have HLF : Hid (Pk.left (Pk.intN t') ≤ Pk.left t0) := Lib.hid (Nat.le_trans (Pk.left_cut 8 t') hlf)
        clear hpr hrd hlf hst hcell HI
        generalize Pk.iN (ls.getD k 0) = u at *
        generalize Pk.intV t' = v at *
        generalize Pk.intN t' = t2 at *
        go_wp2_with fail
        refine HC.out.mono ?_
        rintro e w5 ⟨rfl, G5, G6⟩
        have HP5 := Lib.hid (HK.out.1.second G5.out G6.out)
        have HRD5 : Hid (Reads w5 (some ⟨g, off, none⟩) (ls.map n64v)) := Lib.hid (HK.out.2.1.grown G6.out (.inr fun g' off e e' => by have := HNW.out g' (by cases e; rfl); cases e'; omega))
        clear G5 G6 HC
        cases huv : (u == v) with
        | true =>
          clear HEQ
          go_wp2_with fail
          exact ⟨⟨k + 1, by omega, by go_num, Lib.hid ⟨t2, HP5.out, HRD5.out, HLF.out, HNX.out⟩⟩, by simp [intOf]; omega⟩
        | false =>
          have HE : Hid (TakeT w i x kd nn s t (.returned (.bool false)) w5) := Lib.hid ⟨false, t2, rfl, Lib.hid (by rw [HT.out]; exact HP5.out), Lib.hid (Nat.le_trans HLF.out HL.out), Lib.hid fun e => by
            have := HEQ.out e
            rw [this] at huv
            simp at huv⟩
          go_wp2_with fail
          go_ret
          exact HE.out
      · obtain rfl : k = n1 := by omega
        have HE : Hid (TakeT w i x kd nn s t (.returned (.bool true)) wr) := Lib.hid ⟨true, t', rfl, Lib.hid (by rw [HT.out]; exact hpr), Lib.hid (Nat.le_trans hlf HL.out), Lib.hid fun e => ⟨rfl, by rw [HT.out, hst e, HFN.out e]⟩⟩
        clear hpr hrd hlf hst HI
        go_wp2_with fail
        go_ret
        exact HE.out
  · have hnb : ((n1 : Int) == (n2 : Int)) = false := by simp; omega
    have HE : Hid (TakeT w i x kd nn s t (.returned (.bool false)) w2) := Lib.hid ⟨false, t0, rfl, Lib.hid (by rw [HT.out]; exact HP2.out), HL, Lib.hid fun e => absurd (HCN.out e) hne⟩
    clear hne
    go_wp2_with fail
    go_ret
    exact HE.out
end Go.Proofs.YtodedlnpokagfaaDoor


/-
  law04: a thing as bytes; any thing is put, any thing is taken.
-/
set_option linter.unusedVariables false
set_option linter.unusedSimpArgs false
namespace Go.Proofs.YtodedlnpokagfaaDoor
open Go.RowKit Rep

/-- A thing that isn't great. -/
structure SmT (t : TD) : Prop where
  b : t.bs.length ≤ 300
  l : t.ls.length ≤ 60
  x1 : t.x.xs.length ≤ 6
  x2 : t.x.ds.length ≤ 6
  y1 : t.x.ys.length ≤ 6
  y2 : t.x.es.length ≤ 6
  r1 : rightB t.x.s t.x.xs t.x.ds = true
  r2 : rightB t.x.t t.x.ys t.x.es = true
theorem sm_t {t : TD} (h : greatT t = false) : SmT t := by
  unfold greatT at h
  simp only [Bool.or_eq_false_iff, decide_eq_false_iff_not, Nat.not_lt] at h
  obtain ⟨⟨h1, h2⟩, h3⟩ := h
  unfold oddE at h3
  rw [Bool.or_eq_false_iff] at h3
  obtain ⟨h4, h5⟩ := h3
  simp only [Bool.not_eq_false', Bool.and_eq_true] at h5
  obtain ⟨l1, l2, l3, l4⟩ := great_two h4
  exact ⟨h1, h2, l1, l2, l3, l4, h5.1, h5.2⟩
namespace Pk
theorem encI_byt (n : Int) : Byt (encI n) := be_byt _ _
theorem encF_byt (b : Bool) : Byt (encF b) := by
  intro x hx
  unfold encF at hx
  rw [List.mem_singleton] at hx
  subst hx
  split <;> omega
theorem flat_byt (k : Nat) (l : List Nat) : Byt (l.flatMap (be k)) := by
  intro x hx
  obtain ⟨y, _, hy⟩ := List.mem_flatMap.1 hx
  exact be_byt k y x hy
theorem encL_byt (l : List Nat) : Byt (encL l) := Byt.append (encI_byt _) (flat_byt 4 l)
theorem encR_byt (s : Bool) (xs ds : List Nat) : Byt (encR s xs ds) := Byt.append (Byt.append (encF_byt s) (encL_byt xs)) (encL_byt ds)
theorem encL_len (l : List Nat) : (encL l).length = 8 + 4 * l.length := by
  unfold encL
  rw [List.length_append, encI_length, flat_length, Nat.mul_comm]
theorem encR_len (s : Bool) (xs ds : List Nat) : (encR s xs ds).length = 17 + 4 * xs.length + 4 * ds.length := by
  unfold encR
  rw [List.length_append, List.length_append, encL_len, encL_len]
  simp only [encF, List.length_cons, List.length_nil]
  omega
end Pk
theorem encT_len {t : TD} (h : SmT t) : (encT t).length ≤ 490 := by
  have := h.b
  have := h.l
  have := h.x1
  have := h.x2
  have := h.y1
  have := h.y2
  unfold encT
  repeat' split
  · rw [Pk.encI_length]; omega
  · simp [Pk.encF]
  · unfold Pk.encB; rw [List.length_append, Pk.encI_length]; omega
  · rw [Pk.encR_len]; omega
  · rw [List.length_append, Pk.encR_len, Pk.encR_len]; omega
  · rw [List.length_append, Pk.encI_length, Pk.flat_length]; omega
  · simp
theorem encT_byt {w : World} {t : TD} (h : HandT w t) : Pk.Byt (encT t) := by
  unfold encT
  repeat' split
  · exact Pk.encI_byt _
  · exact Pk.encF_byt _
  · exact Pk.Byt.append (Pk.encI_byt _) h.byt
  · exact Pk.encR_byt _ _ _
  · exact Pk.Byt.append (Pk.encR_byt _ _ _) (Pk.encR_byt _ _ _)
  · exact Pk.Byt.append (Pk.encI_byt _) (Pk.flat_byt _ _)
  · intro b hb; cases hb
theorem encT_no {t : TD} (h : t.kind < 0 ∨ 5 < t.kind) : encT t = [] := by
  unfold encT
  rw [if_neg (by omega), if_neg (by omega), if_neg (by omega), if_neg (by omega), if_neg (by omega), if_neg (by omega)]
theorem enc_t {w : World} {t : TD} (hh : HandT w t) (h : SmT t) (hk : 0 ≤ t.kind ∧ t.kind ≤ 5) : Pk.Enc (Pk.thN t.kind t.n) (encT t) := by
  have hb := h.b
  have hl := h.l
  have h1 := h.x1
  have h2 := h.x2
  have h3 := h.y1
  have h4 := h.y2
  have e : t.kind = 0 ∨ t.kind = 1 ∨ t.kind = 2 ∨ t.kind = 3 ∨ t.kind = 4 ∨ t.kind = 5 := by omega
  have er1 : Pk.Enc Pk.ratN (Pk.encR t.x.s t.x.xs t.x.ds) := Pk.enc_rat (by omega) (by omega) hh.x.a.num.lim hh.x.a.den.lim h.r1
  have er2 : Pk.Enc Pk.ratN (Pk.encR t.x.t t.x.ys t.x.es) := Pk.enc_rat (by omega) (by omega) hh.x.b.num.lim hh.x.b.den.lim h.r2
  rcases e with e | e | e | e | e | e
  · have : Pk.thN t.kind t.n = Pk.intN := by funext s; rw [e, th0]
    rw [this]; unfold encT; rw [if_pos e]; exact Pk.enc_int _
  · have : Pk.thN t.kind t.n = Pk.flagN := by funext s; rw [e, th1]
    rw [this]; unfold encT; rw [if_neg (by omega), if_pos e]; exact Pk.enc_flag _
  · have : Pk.thN t.kind t.n = Pk.bytesN := by funext s; rw [e, th2]
    rw [this]; unfold encT; rw [if_neg (by omega), if_neg (by omega), if_pos e]; exact Pk.enc_bytes (by omega)
  · have : Pk.thN t.kind t.n = Pk.ratN := by funext s; rw [e, th3]
    rw [this]; unfold encT; rw [if_neg (by omega), if_neg (by omega), if_neg (by omega), if_pos e]; exact er1
  · have : Pk.thN t.kind t.n = fun s => Pk.ratN (Pk.ratN s) := by funext s; rw [e, th4]
    rw [this]; unfold encT; rw [if_neg (by omega), if_neg (by omega), if_neg (by omega), if_neg (by omega), if_pos e]; exact er1.comp er2
  · have : Pk.thN t.kind t.n = Pk.listN 8 := by funext s; rw [e, th5]
    rw [this]; unfold encT; rw [if_neg (by omega), if_neg (by omega), if_neg (by omega), if_neg (by omega), if_neg (by omega), if_pos e]; exact Pk.enc_list (by omega) (by omega)
/-- Things as bytes. -/
def encTs (ts : List TD) : List Nat := ts.flatMap encT
theorem encTs_len {ts : List TD} (h : ∀ t ∈ ts, SmT t) : (encTs ts).length ≤ 490 * ts.length := by
  induction ts with
  | nil => simp [encTs]
  | cons t ts ih =>
    have h1 := encT_len (h t (by simp))
    have h2 := ih fun u hu => h u (by simp [hu])
    unfold encTs at h2 ⊢
    rw [List.flatMap_cons, List.length_append, List.length_cons]
    omega
theorem encTs_byt {w : World} {ts : List TD} (h : ∀ t ∈ ts, HandT w t) : Pk.Byt (encTs ts) := by
  intro b hb
  obtain ⟨t, ht, hb⟩ := List.mem_flatMap.1 hb
  exact encT_byt (h t ht) b hb
theorem encTs_take {ts : List TD} {k : Nat} (hk : k < ts.length) : encTs (ts.take (k + 1)) = encTs (ts.take k) ++ encT ts[k] := by
  unfold encTs
  rw [List.take_succ_eq_append_getElem hk, List.flatMap_append]
  simp
theorem encTs_drop {ts : List TD} {k : Nat} (hk : k < ts.length) : encTs (ts.drop k) = encT ts[k] ++ encTs (ts.drop (k + 1)) := by
  unfold encTs
  rw [List.drop_eq_getElem_cons hk, List.flatMap_cons]
theorem encTs_take_le {ts : List TD} {k : Nat} : (encTs (ts.take k)).length ≤ (encTs ts).length := by
  have : encTs ts = encTs (ts.take k) ++ encTs (ts.drop k) := by
    unfold encTs
    rw [← List.flatMap_append, List.take_append_drop]
  rw [this, List.length_append]
  omega
theorem encTs_drop_le {ts : List TD} {k : Nat} : (encTs (ts.drop k)).length ≤ (encTs ts).length := by
  have : encTs ts = encTs (ts.take k) ++ encTs (ts.drop k) := by
    unfold encTs
    rw [← List.flatMap_append, List.take_append_drop]
  rw [this, List.length_append]
  omega
theorem take_any {w w0 : World} {i x : Nat} {s u : Pk.St} (h : Pr w w i x s u) {t : TD} (ht : HandT w0 t) (hs : Pk.left s ≤ 40000) (hu : Pk.left u ≤ 40000) :
    Calls Tryd.prog 7 #[.pointer (some ⟨i, 0, none⟩), .pointer (some ⟨x, 0, none⟩), .agg t.vals.toArray] w (TakeT w i x t.kind t.n s u) := by
  have hn := ht.n
  have e : t.kind = 0 ∨ t.kind = 1 ∨ t.kind = 2 ∨ t.kind = 3 ∨ t.kind = 4 ∨ t.kind = 5 ∨ (t.kind < 0 ∨ 5 < t.kind) := by omega
  clear ht
  obtain ⟨kd, nn, ba, bc, bl, ⟨xs, xa, xc, xl, xb, xe, xk, us, ua, uc, ul, ub, ue, uk⟩, la, lc, ls⟩ := t
  dsimp only at e hn ⊢
  rcases e with e | e | e | e | e | e | e
  · exact take_k0 h rfl rfl rfl rfl rfl rfl e
  · exact take_k1 h rfl rfl rfl rfl rfl rfl e
  · exact take_k2 h rfl rfl rfl rfl rfl rfl e
  · exact take_k3 h rfl rfl rfl rfl rfl rfl e hs hu
  · exact take_k4 h rfl rfl rfl rfl rfl rfl e hs hu
  · exact take_k5 h rfl rfl rfl rfl rfl rfl e
  · exact take_kno h rfl rfl rfl rfl rfl rfl e hn
end Go.Proofs.YtodedlnpokagfaaDoor


/-
  law04.speaks; an Out, the document's In, as they begin.
-/
set_option linter.unusedVariables false
set_option linter.unusedSimpArgs false
namespace Go.Proofs.YtodedlnpokagfaaDoor
open Go.RowKit Rep

/-- An Out of nothing. -/
theorem out_new (w : World) : OutSt (w.alloc (.cells #[.pointer none, .int .i64 0] 50)) w.heap.size (fun k => k = w.heap.size) [] := ⟨rfl, .inl ⟨rfl, heap_alloc_new w _⟩⟩
theorem enc_one : ([] : List Nat) ++ Pk.encI 1 = [0, 0, 0, 0, 0, 0, 0, 1] := by decide
theorem ptxt_one : ptxt [0, 0, 0, 0, 0, 0, 0, 1] = { data := #[0, 0, 0, 0, 0, 0, 0, 1] } := rfl

set_option maxRecDepth 100000 in
set_option maxHeartbeats 4000000 in
theorem speaks_any (w : World) : Calls Tryd.prog 4 #[] w (GivesB true w) := by
  have HO := Lib.hid (out_new w)
  have HC1 := Lib.hid (OInt_any (n := 1) HO.out (fun j e => by subst e; simp) (by simp))
  rw [enc_one] at HC1
  have HB := Lib.hid (((Below.refl w.heap.size w).alloc (Nat.le_refl _) (.cells #[.pointer none, .int .i64 0] 50)))
  clear HO
  go_enter Tryd.func4, Tryd.ntmps4
  go_wp2_with fail
  refine HC1.out.mono ?_
  rintro e w1 ⟨rfl, G1, G2⟩
  have HC2 := Lib.hid (ODone_any G1.out (by simp))
  have HE1 := Lib.hid (G2.out.below (B := w.heap.size) (by simp) (fun j e => by subst e; exact Nat.le_refl _))
  clear G1 G2 HC1
  go_wp2_with fail
  refine HC2.out.mono ?_
  rintro e w2 ⟨a, c, rfl, hown, hb⟩
  have HR := Lib.hid hown.reads
  have HE2 := Lib.hid (HB.out.trans ((HE1.out.trans (hb.mono (Nat.le_trans (by simp) HE1.out.size)))))
  clear hown hb HC2
  go_wp2_with (refine wpList_of _ (run_ptxt_op (.tmp 7) rfl a [0, 0, 0, 0, 0, 0, 0, 1] c rfl HR.out) rfl ?_)
  rw [ptxt_one]
  go_wp2_with fail
  go_ret
  exact ⟨by kernel_rfl, HE2.out⟩
end Go.Proofs.YtodedlnpokagfaaDoor


/-
  law04.PackPuts.
-/
set_option linter.unusedVariables false
set_option linter.unusedSimpArgs false
namespace Go.Proofs.YtodedlnpokagfaaDoor
open Go.RowKit Rep

theorem x_new {w : World} {a : Option Addr} {c : Nat} {B : List Nat} (h : BytesAt w a c B) : XSt (w.alloc (.cells #[.slice a B.length c, .int .i64 0, .bool false] 30)) w.heap.size (some B) := by
  refine ⟨a, c, B, 0, heap_alloc_new w _, h.kept ((Below.refl _ _).alloc (Nat.le_refl _) _), ?_, Nat.zero_le _, fun r e => by cases e; rfl⟩
  by_cases e : B = []
  · exact .inl e
  · obtain ⟨g, off, rfl, hg, _⟩ := h.reads.open' (by rw [List.length_map]; exact List.length_pos_iff.2 e)
    exact .inr ⟨g, off, rfl, hg⟩
section
variable {w W W' : World} {i x : Nat} {s s' t t' : Pk.St}
theorem Pr.start {bs B : List Nat} {a : Option Addr} {c : Nat} (hi : InSt W i (some bs)) (hb : Below w.heap.size w W) (hB : BytesAt W a c B) (hT : Tab w) :
    Pr w (W.alloc (.cells #[.slice a B.length c, .int .i64 0, .bool false] 30)) i W.heap.size (some bs) (some B) := by
  have h1 : Below W.heap.size W (W.alloc (.cells #[.slice a B.length c, .int .i64 0, .bool false] 30)) := (Below.refl _ _).alloc (Nat.le_refl _) _
  have hlt := hi.lt
  exact ⟨hi.kept h1, x_new hB, by omega, .of_below (hb.trans (h1.mono hb.size)), (hT.kept hb).kept h1⟩
theorem Pr.own (h : Pr w W i x s t) : Pr W W i x s t := ⟨h.inn, h.ref, h.ne, .refl _ _ _, h.tab⟩
theorem Pr.after (h : Pr w W i x s t) (k : Pr W W' i x s' t') : Pr w W' i x s' t' := ⟨k.inn, k.ref, h.ne, h.frame.trans k.frame, k.tab⟩
theorem OwnR.bytesAt {a : Option Addr} {c B : Nat} {bs : List Nat} (h : OwnR 5 u8v B w a c bs) (hB : Pk.Byt bs) (hl : bs.length ≤ 140737488355328) : BytesAt w a c bs :=
  ⟨h.reads, hB, h.le, by have := h.1; unfold maxLen at this; omega, hl⟩
theorem OwnR.le0 {a : Option Addr} {c B : Nat} {bs : List Nat} (h : OwnR 5 u8v B w a c bs) : OwnR 5 u8v 0 w a c bs := h.mono (Nat.zero_le _)
end
/-- An Out of nothing, a row of nothing. -/
theorem PSt.start (w : World) : PSt w ((w.alloc (.cells #[.pointer none, .int .i64 0] 50)).alloc (.cells #[] 5)) w.heap.size (fun k => k = w.heap.size) [] (some ⟨w.heap.size + 1, 0, none⟩) 0 [] := by
  have hs : (w.alloc (.cells #[.pointer none, .int .i64 0] 50)).heap.size = w.heap.size + 1 := by simp
  have h1 : Below w.heap.size w (w.alloc (.cells #[.pointer none, .int .i64 0] 50)) := (Below.refl _ _).alloc (Nat.le_refl _) _
  have h2 : Below (w.alloc (.cells #[.pointer none, .int .i64 0] 50)).heap.size (w.alloc (.cells #[.pointer none, .int .i64 0] 50)) ((w.alloc (.cells #[.pointer none, .int .i64 0] 50)).alloc (.cells #[] 5)) := (Below.refl _ _).alloc (Nat.le_refl _) _
  have h3 := OwnR.start 5 u8v (w.alloc (.cells #[.pointer none, .int .i64 0] 50))
  rw [hs] at h3
  refine ⟨(out_new w).kept h2, fun j e => ?_, fun j e => ?_, h3.le0, fun j e => ?_, fun j e h => ?_, h1.trans (h2.mono h1.size)⟩
  · subst e; simp; omega
  · subst e; exact Nat.le_refl _
  · cases e; show w.heap.size ≤ w.heap.size + 1; omega
  · cases e
    have h' : w.heap.size + 1 = w.heap.size := h
    omega
/-- What is known where nothing is great. -/
structure LawT (w : World) (ts : List TD) : Prop where
  few : ts.length ≤ 40
  sm : ∀ t ∈ ts, SmT t
  hand : ∀ t ∈ ts, HandT w t
theorem LawT.of {w : World} {ts : List TD} (h : greatL ts = false) (hh : ∀ t ∈ ts, HandT w t) : LawT w ts := by
  unfold greatL at h
  rw [Bool.or_eq_false_iff] at h
  refine ⟨by have := h.1; simp at this; omega, fun t ht => sm_t ?_, hh⟩
  have := List.any_eq_false.1 h.2 t ht
  simpa using this
theorem LawT.kept {w w' : World} {ts : List TD} (h : LawT w ts) (hb : Below w.heap.size w w') : LawT w' ts := ⟨h.few, h.sm, fun t ht => (h.hand t ht).kept hb⟩
theorem LawT.len {w : World} {ts : List TD} (h : LawT w ts) : (encTs ts).length ≤ 19600 := by
  have h1 := encTs_len h.sm
  have h2 := h.few
  omega
theorem LawT.take_len {w : World} {ts : List TD} (h : LawT w ts) (k : Nat) : (encTs (ts.take k)).length ≤ 19600 := Nat.le_trans encTs_take_le h.len
theorem LawT.drop_len {w : World} {ts : List TD} (h : LawT w ts) (k : Nat) : (encTs (ts.drop k)).length ≤ 19600 := Nat.le_trans encTs_drop_le h.len
end Go.Proofs.YtodedlnpokagfaaDoor


/-
  law04.PackTakes: the walk.
-/
set_option linter.unusedVariables false
set_option linter.unusedSimpArgs false
namespace Go.Proofs.YtodedlnpokagfaaDoor
open Go.RowKit Rep

theorem XSt.wrongCell {w : World} {x : Nat} {s : Pk.St} (h : XSt w x s) : w.cell? ⟨x, 2, none⟩ = some (.bool s.isNone) := by
  obtain ⟨a, c, B, at', h⟩ := h
  exact h.cells.2.2.1

set_option maxRecDepth 100000 in
set_option maxHeartbeats 8000000 in
theorem PackTakes_any {ab a : Option Addr} {cb c : Nat} {bs : List Nat} {ts : List TD} {w : World} (hb : Reads w ab (bs.map u8v)) (hby : Pk.Byt bs) (hbc : bs.length ≤ cb) (hbm : cb ≤ maxLen) (hp : ThingsIn w a c ts) (hh : ∀ t ∈ ts, HandT w t) (hT : Tab w) :
    Calls Tryd.prog 3 #[.slice ab bs.length cb, .slice a ts.length c] w (GivesB true w) := by
  have hle := hp.le
  have hmax := hp.max
  unfold maxLen at hmax hbm
  have HRB := Lib.hid hb
  have HBY := Lib.hid hby
  have HP := Lib.hid hp
  have HH := Lib.hid hh
  have HTB := Lib.hid hT
  have HS := Lib.hid (speaks_any w)
  clear hp hh hT hb hby
  obtain ⟨n, hn⟩ : ∃ n, bs.length = n := ⟨_, rfl⟩
  have HN := Lib.hid hn
  rw [hn] at hbc ⊢
  clear hn
  go_enter Tryd.func3, Tryd.ntmps3
  go_wp2_with fail
  refine HS.out.mono ?_
  rintro e w1 ⟨rfl, hb1⟩
  have HB1 := Lib.hid hb1
  have HG := Lib.hid (great04_any (HP.out.kept hb1) (fun t ht => (HH.out t ht).kept hb1))
  clear hb1 HS
  by_cases h2k : 2000 < n
  · have hd : decide ((2000 : Int) < (n : Int)) = true := decide_eq_true (by omega)
    clear HG HP HH HTB HRB HBY
    go_wp2_with fail
    go_ret
    exact ⟨rfl, HB1.out⟩
  · have hd : decide ((2000 : Int) < (n : Int)) = false := decide_eq_false (by omega)
    go_wp2_with fail
    refine HG.out.mono ?_
    rintro e w2 ⟨rfl, hb2⟩
    have HB2 := Lib.hid (HB1.out.trans (hb2.mono HB1.out.size))
    clear hb2 HG HB1
    cases hg : greatL ts with
    | true =>
      clear hle hmax HP HH HTB hg HRB HBY
      go_wp2_with fail
      go_ret
      exact ⟨rfl, HB2.out⟩
    | false =>
      have HLW := Lib.hid ((LawT.of hg HH.out).kept HB2.out)
      have HP2 := Lib.hid (HP.out.kept HB2.out)
      have HT2 := Lib.hid (HTB.out.kept HB2.out)
      have HR2 := Lib.hid (HRB.out.kept HB2.out)
      have HO := Lib.hid (OwnR.start 5 u8v w2).le0
      have HBA := Lib.hid ((Below.refl w2.heap.size w2).alloc (Nat.le_refl _) (.cells #[] 5))
      have HR3 := Lib.hid (HR2.out.kept HBA.out)
      have HSZ : Hid (n ≤ 2000) := Lib.hid (by omega)
      clear hg HP HH HTB HRB hd h2k
      have hns := HSZ.out
      go_wp2_with (at_builtin; refine wpList_append_rowN rfl (.tmp 18) (.tmp 19) 22 rfl 5 (.int .u8 0) 1 Tryd.underlying22 info_u8 rfl u8v u8_one 0 (some ⟨w2.heap.size, 0, none⟩) 0 0 [] rfl HO.out rfl ab n cb bs rfl HN.out HR3.out (by unfold maxLen; omega) (by omega) (Nat.zero_le _) ?_; intro a' c' w6 hown hgrw hnew; have HO6 : Hid (OwnR 5 u8v 0 w6 a' c' bs) := Lib.hid hown; have HB6 : Hid (Below w2.heap.size w2 w6) := Lib.hid (HBA.out.grown hgrw HBA.out.size (fun j e => by cases e; exact Nat.le_refl _)); clear hown hgrw hnew; have HFR := Lib.hid (From_any (c := c') HO6.out.reads HBY.out (by rw [HN.out]; omega)); rw [HN.out] at HFR; rw [Nat.zero_add])
      refine HFR.out.mono ?_
      rintro e w7 ⟨i, rfl, HIN, HGE, HBL⟩
      have HB7 := Lib.hid (HB6.out.trans (HBL.out.mono HB6.out.size))
      have HPR := Lib.hid (Pr.start (w := w2) (a := ab) (c := cb) (B := bs) HIN.out HB7.out ⟨HR2.out.kept HB7.out, HBY.out, by rw [HN.out]; exact hbc, hbm, by rw [HN.out]; omega⟩ HT2.out)
      have HI6 : Hid (w2.heap.size ≤ i ∧ w2.heap.size ≤ w7.heap.size) := Lib.hid ⟨Nat.le_trans HB6.out.size HGE.out, HB7.out.size⟩
      have HLB : Hid (Pk.left (some bs) ≤ 40000) := Lib.hid (by show bs.length ≤ 40000; rw [HN.out]; omega)
      rw [HN.out] at HPR
      clear HFR HIN HGE HBL HO6 HO HBA HR3 HB6 HB7 hns HR2
      have HST : Hid (∃ s, Pr w2 (w7.alloc (.cells #[.slice ab n cb, .int .i64 0, .bool false] 30)) i w7.heap.size s s ∧ Pk.left s ≤ 40000) := Lib.hid ⟨_, HPR.out, HLB.out⟩
      clear HPR HLB
      go_wp2_with fail
      generalize w7.heap.size = x at *
      go_loopw [27] (fun (iv : Value) (wr : World) => ∃ (k : Nat), k ≤ ts.length ∧ iv = .int .i64 (k : Int) ∧ Hid (∃ s, Pr w2 wr i x s s ∧ Pk.left s ≤ 40000)) (fun iv _ => ts.length - (intOf iv).toNat)
      case atStart => exact ⟨0, Nat.zero_le _, rfl, HST⟩
      case round =>
        obtain ⟨k, hk, rfl, HI⟩ := hrel
        clear HST
        obtain ⟨s, hpr, hlf⟩ := HI.out
        have HPR := Lib.hid hpr
        have HLF := Lib.hid hlf
        clear hpr hlf HI
        have HBW : Hid (Below w2.heap.size w2 wr) := Lib.hid (HPR.out.frame.below HI6.out.1 HI6.out.2 (Nat.le_refl _))
        by_cases hlt : k < ts.length
        · obtain ⟨g, off, rfl, hgl, d0, d1, d2, d3, d4, d5, d6, d7, d8, d9⟩ := (HP2.out.kept HBW.out).letters hlt
          have HTK : Hid (∀ W1, Below wr.heap.size wr W1 → Calls Tryd.prog 7 #[.pointer (some ⟨i, 0, none⟩), .pointer (some ⟨x, 0, none⟩), .agg ts[k].vals.toArray] W1 (TakeT W1 i x ts[k].kind ts[k].n s s)) := Lib.hid fun W1 hb =>
            take_any (HPR.out.kept hb).own (HLW.out.hand _ (List.getElem_mem hlt)) HLF.out HLF.out
          generalize ts[k] = t at *
          obtain ⟨kd, nn, ba, bc, bs, ⟨xs, xa, xc, xl, xb, xe, xk, us, ua, uc, ul, ub, ue, uk⟩, la, lc, ls⟩ := t
          dsimp only at d0 d1 d2 d3 d4 d5 d6 d7 d8 d9 HTK
          obtain ⟨W1, hW1⟩ : ∃ W1, W1 = wr.alloc (.cells #[.int .i64 kd, .int .i64 nn, .slice ba bs.length bc, .bool xs, .slice xa xl.length xc, .slice xb xk.length xe, .bool us, .slice ua ul.length uc, .slice ub uk.length ue, .slice la ls.length lc] 41) := ⟨_, rfl⟩
          have hb1 : Below wr.heap.size wr W1 := by rw [hW1]; exact (Below.refl _ _).alloc (Nat.le_refl _) _
          have hbx : W1.heap[wr.heap.size]? = some (.cells #[.int .i64 kd, .int .i64 nn, .slice ba bs.length bc, .bool xs, .slice xa xl.length xc, .slice xb xk.length xe, .bool us, .slice ua ul.length uc, .slice ub uk.length ue, .slice la ls.length lc] 41 (0, 0)) := by rw [hW1]; exact heap_alloc_new wr _
          have HW1 := Lib.hid hW1
          obtain ⟨k0, k1, k2, k3, k4, k5, k6, k7, k8, k9⟩ := cells10 hbx
          have HCW := Lib.hid (HTK.out W1.drew hb1.drew)
          have HP1 := Lib.hid (HPR.out.kept hb1.drew)
          have HBX : Hid (W1.drew.heap[wr.heap.size]? = some (.cells #[.int .i64 kd, .int .i64 nn, .slice ba bs.length bc, .bool xs, .slice xa xl.length xc, .slice xb xk.length xe, .bool us, .slice ua ul.length uc, .slice ub uk.length ue, .slice la ls.length lc] 41 (0, 0))) := Lib.hid hbx
          have HNE : Hid (wr.heap.size ≠ i ∧ wr.heap.size ≠ x ∧ wr.heap.size < W1.drew.heap.size) := Lib.hid ⟨fun e => by have := HPR.out.inn.lt; omega, fun e => by have := HPR.out.ref.lt; omega, (Array.getElem?_eq_some_iff.1 hbx).1⟩
          clear hb1 hW1 HTK HPR hbx
          unfold TD.vals at HCW
          dsimp only at HCW
          go_wp2_with fail
          rw [← HW1.out]
          refine wp_region_held_drew (S := (fun w' => w'.heap[wr.heap.size]? = some (.cells #[.int .i64 kd, .int .i64 nn, .slice ba bs.length bc, .bool xs, .slice xa xl.length xc, .slice xb xk.length xe, .bool us, .slice ua ul.length uc, .slice ub uk.length ue, .slice la ls.length lc] 41 (0, 0)))) (by kernel_rfl) ?_ (fun hHeld => ?_)
          · exact HBX.out
          refine wpAnyH_take (i := 0) (v := ?_) (by rfl) (by kernel_rfl) (by kernel_rfl) (by kernel_rfl) (by exact fun _ _ _ h => h) (Or.inl ⟨by rfl, ?_⟩) hHeld ?_
          rotate_left 1
          · intro w' hSw
            (try dsimp only at hSw)
            go_simp
            try with_reducible rfl
          try simp only [Act.put, List.setIfInBounds_toArray, List.set_cons_zero, List.set_cons_succ, List.getElem_toArray, List.getElem_cons_zero, List.getElem_cons_succ]
          refine wpAnyH_take (i := 1) (v := ?_) (by rfl) (by kernel_rfl) (by kernel_rfl) (by kernel_rfl) (by exact fun _ _ _ h => h) (Or.inl ⟨by rfl, ?_⟩) hHeld ?_
          rotate_left 1
          · intro w' hSw
            (try dsimp only at hSw)
            go_simp
            try with_reducible rfl
          try simp only [Act.put, List.setIfInBounds_toArray, List.set_cons_zero, List.set_cons_succ, List.getElem_toArray, List.getElem_cons_zero, List.getElem_cons_succ]
          refine wpAnyH_take (i := 2) (v := .agg #[.int .i64 kd, .int .i64 nn, .slice ba bs.length bc, .bool xs, .slice xa xl.length xc, .slice xb xk.length xe, .bool us, .slice ua ul.length uc, .slice ub uk.length ue, .slice la ls.length lc]) (by rfl) (by kernel_rfl) (by kernel_rfl) (by kernel_rfl) (by exact fun _ _ _ h => h) (Or.inl ⟨by rfl, ?_⟩) hHeld ?_
          · intro w' hSw
            have hk := cells10 hSw
            obtain ⟨q0, q1, q2, q3, q4, q5, q6, q7, q8, q9⟩ := hk
            go_simp
          try simp only [Act.put, List.setIfInBounds_toArray, List.set_cons_zero, List.set_cons_succ, List.getElem_toArray, List.getElem_cons_zero, List.getElem_cons_succ]
          refine wpAnyH_ready (rs := [3]) (by kernel_rfl) (by simp) ?_
          refine AllReadyH.cons (by rfl) (fun K hK => ?_) AllReadyH.nil
          go_simp
          refine HCW.out.mono ?_
          rintro e w5 ⟨b, t', rfl, K1, K2, K3⟩
          obtain ⟨hbt, rfl⟩ := K3.out rfl
          subst hbt
          have HPN := Lib.hid (HP1.out.after K1.out)
          have HLN := Lib.hid (Nat.le_trans K2.out HLF.out)
          have HHB : Hid (w5.heap[wr.heap.size]? = some (.cells #[.int .i64 kd, .int .i64 nn, .slice ba bs.length bc, .bool xs, .slice xa xl.length xc, .slice xb xk.length xe, .bool us, .slice ua ul.length uc, .slice ub uk.length ue, .slice la ls.length lc] 41 (0, 0))) := Lib.hid ((K1.out.frame.block _ HNE.out.2.2 HNE.out.1 HNE.out.2.1).trans HBX.out)
          clear K1 K2 K3 HCW HP1 HBX HLF
          generalize Pk.thN kd nn s = s5 at *
          have HWR := Lib.hid (fun W (hh : Pr w2 W i x s5 s5) => Wrong_any hh.inn)
          have HXC := Lib.hid (fun W (hh : Pr w2 W i x s5 s5) => hh.ref.wrongCell)
          have HD1 := Lib.hid (fun W (hh : Pr w2 W i x s5 s5) => Done_any hh.inn)
          have HD2 := Lib.hid (fun W (hh : Pr w2 W i x s5 s5) => XDone_any hh.ref)
          generalize s5.isNone = wn at *
          generalize doneV s5 = dv at *
          refine hK.out _ _ ?_ (fun hHeld => ?_)
          · exact HHB.out
          clear hK K
          try simp only [Act.put, List.setIfInBounds_toArray, List.set_cons_zero, List.set_cons_succ, List.getElem_toArray, List.getElem_cons_zero, List.getElem_cons_succ]
          refine wpAnyH_take (i := 4) (v := ?_) (by rfl) (by kernel_rfl) (by kernel_rfl) (by kernel_rfl) (by exact fun _ _ _ h => h) (Or.inl ⟨by rfl, ?_⟩) hHeld ?_
          rotate_left 1
          · intro w' hSw
            (try dsimp only at hSw)
            go_simp
            try with_reducible rfl
          try simp only [Act.put, List.setIfInBounds_toArray, List.set_cons_zero, List.set_cons_succ, List.getElem_toArray, List.getElem_cons_zero, List.getElem_cons_succ]
          refine wpAnyH_take (i := 5) (v := ?_) (by rfl) (by kernel_rfl) (by kernel_rfl) (by kernel_rfl) (by exact fun _ _ _ h => h) (Or.inl ⟨by rfl, ?_⟩) hHeld ?_
          rotate_left 1
          · intro w' hSw
            (try dsimp only at hSw)
            go_simp
            try with_reducible rfl
          try simp only [Act.put, List.setIfInBounds_toArray, List.set_cons_zero, List.set_cons_succ, List.getElem_toArray, List.getElem_cons_zero, List.getElem_cons_succ]
          refine wpAnyH_take (i := 6) (v := ?_) (by rfl) (by kernel_rfl) (by kernel_rfl) (by kernel_rfl) (by exact fun _ _ _ h => h) (Or.inl ⟨by rfl, ?_⟩) hHeld ?_
          rotate_left 1
          · intro w' hSw
            (try dsimp only at hSw)
            go_simp
            try with_reducible rfl
          try simp only [Act.put, List.setIfInBounds_toArray, List.set_cons_zero, List.set_cons_succ, List.getElem_toArray, List.getElem_cons_zero, List.getElem_cons_succ]
          refine wpAnyH_take (i := 8) (v := ?_) (by rfl) (by kernel_rfl) (by kernel_rfl) (by kernel_rfl) (by exact fun _ _ _ h => h) (Or.inl ⟨by rfl, ?_⟩) hHeld ?_
          rotate_left 1
          · intro w' hSw
            (try dsimp only at hSw)
            go_simp
            try with_reducible rfl
          try simp only [Act.put, List.setIfInBounds_toArray, List.set_cons_zero, List.set_cons_succ, List.getElem_toArray, List.getElem_cons_zero, List.getElem_cons_succ]
          refine wpAnyH_take (i := 9) (v := ?_) (by rfl) (by kernel_rfl) (by kernel_rfl) (by kernel_rfl) (by exact fun _ _ _ h => h) (Or.inl ⟨by rfl, ?_⟩) hHeld ?_
          rotate_left 1
          · intro w' hSw
            (try dsimp only at hSw)
            go_simp
            try with_reducible rfl
          try simp only [Act.put, List.setIfInBounds_toArray, List.set_cons_zero, List.set_cons_succ, List.getElem_toArray, List.getElem_cons_zero, List.getElem_cons_succ]
          refine wpAnyH_take (i := 10) (v := ?_) (by rfl) (by kernel_rfl) (by kernel_rfl) (by kernel_rfl) (by exact fun _ _ _ h => h) (Or.inl ⟨by rfl, ?_⟩) hHeld ?_
          rotate_left 1
          · intro w' hSw
            (try dsimp only at hSw)
            go_simp
            try with_reducible rfl
          try simp only [Act.put, List.setIfInBounds_toArray, List.set_cons_zero, List.set_cons_succ, List.getElem_toArray, List.getElem_cons_zero, List.getElem_cons_succ]
          refine wpAnyH_ready (rs := [7, 11]) (by kernel_rfl) (by simp) ?_
          refine AllReadyH.cons (by rfl) (fun K hK => ?_) ?_
          · go_simp
            refine (HWR.out _ HPN.out).mono ?_
            rintro e w7 ⟨rfl, rfl⟩
            refine hK.out _ _ ?_ (fun hHeld => ?_)
            · exact hHeld
            clear hK K
            try simp only [Act.put, List.setIfInBounds_toArray, List.set_cons_zero, List.set_cons_succ, List.getElem_toArray, List.getElem_cons_zero, List.getElem_cons_succ]
            refine wpAnyH_ready (rs := [11]) (by kernel_rfl) (by simp) ?_
            refine AllReadyH.cons (by rfl) (fun K hK => ?_) AllReadyH.nil
            have hxc := HXC.out _ HPN.out
            go_simp
            refine hK.out _ _ ?_ (fun hHeld => ?_)
            · exact hHeld
            clear hK K
            try simp only [Act.put, List.setIfInBounds_toArray, List.set_cons_zero, List.set_cons_succ, List.getElem_toArray, List.getElem_cons_zero, List.getElem_cons_succ]
            refine wpAnyH_take (i := 12) (v := ?_) (by rfl) (by kernel_rfl) (by kernel_rfl) (by kernel_rfl) (by exact fun _ _ _ h => h) (Or.inl ⟨by rfl, ?_⟩) hHeld ?_
            rotate_left 1
            · intro w' hSw
              (try dsimp only at hSw)
              go_simp
              try with_reducible rfl
            try simp only [Act.put, List.setIfInBounds_toArray, List.set_cons_zero, List.set_cons_succ, List.getElem_toArray, List.getElem_cons_zero, List.getElem_cons_succ]
            refine wpAnyH_take (i := 13) (v := ?_) (by rfl) (by kernel_rfl) (by kernel_rfl) (by kernel_rfl) (by exact fun _ _ _ h => h) (Or.inl ⟨by rfl, ?_⟩) hHeld ?_
            rotate_left 1
            · intro w' hSw
              (try dsimp only at hSw)
              go_simp
              try with_reducible rfl
            try simp only [Act.put, List.setIfInBounds_toArray, List.set_cons_zero, List.set_cons_succ, List.getElem_toArray, List.getElem_cons_zero, List.getElem_cons_succ]
            refine wpAnyH_take (i := 14) (v := ?_) (by rfl) (by kernel_rfl) (by kernel_rfl) (by kernel_rfl) (by exact fun _ _ _ h => h) (Or.inl ⟨by rfl, ?_⟩) hHeld ?_
            rotate_left 1
            · intro w' hSw
              (try dsimp only at hSw)
              go_simp
              try with_reducible rfl
            try simp only [Act.put, List.setIfInBounds_toArray, List.set_cons_zero, List.set_cons_succ, List.getElem_toArray, List.getElem_cons_zero, List.getElem_cons_succ]
            refine wpAnyH_take (i := 15) (v := ?_) (by rfl) (by kernel_rfl) (by kernel_rfl) (by kernel_rfl) (by exact fun _ _ _ h => h) (Or.inl ⟨by rfl, ?_⟩) hHeld ?_
            rotate_left 1
            · intro w' hSw
              (try dsimp only at hSw)
              go_simp
              try with_reducible rfl
            try simp only [Act.put, List.setIfInBounds_toArray, List.set_cons_zero, List.set_cons_succ, List.getElem_toArray, List.getElem_cons_zero, List.getElem_cons_succ]
            refine wpAnyH_take (i := 17) (v := ?_) (by rfl) (by kernel_rfl) (by kernel_rfl) (by kernel_rfl) (by exact fun _ _ _ h => h) (Or.inl ⟨by rfl, ?_⟩) hHeld ?_
            rotate_left 1
            · intro w' hSw
              (try dsimp only at hSw)
              go_simp
              try with_reducible rfl
            try simp only [Act.put, List.setIfInBounds_toArray, List.set_cons_zero, List.set_cons_succ, List.getElem_toArray, List.getElem_cons_zero, List.getElem_cons_succ]
            refine wpAnyH_ready (rs := [16]) (by kernel_rfl) (by simp) ?_
            refine AllReadyH.cons (by rfl) (fun K hK => ?_) AllReadyH.nil
            go_simp
            refine (HD1.out _ HPN.out).mono ?_
            rintro e w8 ⟨rfl, rfl⟩
            refine hK.out _ _ ?_ (fun hHeld => ?_)
            · exact hHeld
            clear hK K
            try simp only [Act.put, List.setIfInBounds_toArray, List.set_cons_zero, List.set_cons_succ, List.getElem_toArray, List.getElem_cons_zero, List.getElem_cons_succ]
            refine wpAnyH_ready (rs := [18]) (by kernel_rfl) (by simp) ?_
            refine AllReadyH.cons (by rfl) (fun K hK => ?_) AllReadyH.nil
            go_simp
            refine (HD2.out _ HPN.out).mono ?_
            rintro e w9 ⟨rfl, K5⟩
            have HPX := Lib.hid (HPN.out.kept K5.out)
            have HHX := Lib.hid (stay HHB.out K5.out)
            clear K5
            refine hK.out _ _ ?_ (fun hHeld => ?_)
            · exact HHX.out
            clear hK K
            try simp only [Act.put, List.setIfInBounds_toArray, List.set_cons_zero, List.set_cons_succ, List.getElem_toArray, List.getElem_cons_zero, List.getElem_cons_succ]
            refine wpAnyH_take (i := 19) (v := ?_) (by rfl) (by kernel_rfl) (by kernel_rfl) (by kernel_rfl) (by exact fun _ _ _ h => h) (Or.inl ⟨by rfl, ?_⟩) hHeld ?_
            rotate_left 1
            · intro w' hSw
              (try dsimp only at hSw)
              go_simp
              try with_reducible rfl
            try simp only [Act.put, List.setIfInBounds_toArray, List.set_cons_zero, List.set_cons_succ, List.getElem_toArray, List.getElem_cons_zero, List.getElem_cons_succ]
            refine wpAnyH_take (i := 20) (v := ?_) (by rfl) (by kernel_rfl) (by kernel_rfl) (by kernel_rfl) (by exact fun _ _ _ h => h) (Or.inl ⟨by rfl, ?_⟩) hHeld ?_
            rotate_left 1
            · intro w' hSw
              (try dsimp only at hSw)
              go_simp
              try with_reducible rfl
            try simp only [Act.put, List.setIfInBounds_toArray, List.set_cons_zero, List.set_cons_succ, List.getElem_toArray, List.getElem_cons_zero, List.getElem_cons_succ]
            refine wpAnyH_done (by kernel_rfl) ?_ _
            have HPF : Hid (∃ s, Pr w2 _ i x s s ∧ Pk.left s ≤ 40000) := Lib.hid ⟨_, HPX.out, HLN.out⟩
            clear hHeld HHX HPX HWR HXC HD1 HD2 HHB HPN HLN HNE
            go_wp2_with fail
            go_roundw
            case rel => exact ⟨k + 1, by omega, by go_num, HPF⟩
            case measure => simp [intOf]; omega
          refine AllReadyH.cons (by rfl) (fun K hK => ?_) ?_
          · have hxc := HXC.out _ HPN.out
            go_simp
            refine hK.out _ _ ?_ (fun hHeld => ?_)
            · exact hHeld
            clear hK K
            try simp only [Act.put, List.setIfInBounds_toArray, List.set_cons_zero, List.set_cons_succ, List.getElem_toArray, List.getElem_cons_zero, List.getElem_cons_succ]
            refine wpAnyH_ready (rs := [7]) (by kernel_rfl) (by simp) ?_
            refine AllReadyH.cons (by rfl) (fun K hK => ?_) AllReadyH.nil
            go_simp
            refine (HWR.out _ HPN.out).mono ?_
            rintro e w7 ⟨rfl, rfl⟩
            refine hK.out _ _ ?_ (fun hHeld => ?_)
            · exact hHeld
            clear hK K
            try simp only [Act.put, List.setIfInBounds_toArray, List.set_cons_zero, List.set_cons_succ, List.getElem_toArray, List.getElem_cons_zero, List.getElem_cons_succ]
            refine wpAnyH_take (i := 12) (v := ?_) (by rfl) (by kernel_rfl) (by kernel_rfl) (by kernel_rfl) (by exact fun _ _ _ h => h) (Or.inl ⟨by rfl, ?_⟩) hHeld ?_
            rotate_left 1
            · intro w' hSw
              (try dsimp only at hSw)
              go_simp
              try with_reducible rfl
            try simp only [Act.put, List.setIfInBounds_toArray, List.set_cons_zero, List.set_cons_succ, List.getElem_toArray, List.getElem_cons_zero, List.getElem_cons_succ]
            refine wpAnyH_take (i := 13) (v := ?_) (by rfl) (by kernel_rfl) (by kernel_rfl) (by kernel_rfl) (by exact fun _ _ _ h => h) (Or.inl ⟨by rfl, ?_⟩) hHeld ?_
            rotate_left 1
            · intro w' hSw
              (try dsimp only at hSw)
              go_simp
              try with_reducible rfl
            try simp only [Act.put, List.setIfInBounds_toArray, List.set_cons_zero, List.set_cons_succ, List.getElem_toArray, List.getElem_cons_zero, List.getElem_cons_succ]
            refine wpAnyH_take (i := 14) (v := ?_) (by rfl) (by kernel_rfl) (by kernel_rfl) (by kernel_rfl) (by exact fun _ _ _ h => h) (Or.inl ⟨by rfl, ?_⟩) hHeld ?_
            rotate_left 1
            · intro w' hSw
              (try dsimp only at hSw)
              go_simp
              try with_reducible rfl
            try simp only [Act.put, List.setIfInBounds_toArray, List.set_cons_zero, List.set_cons_succ, List.getElem_toArray, List.getElem_cons_zero, List.getElem_cons_succ]
            refine wpAnyH_take (i := 15) (v := ?_) (by rfl) (by kernel_rfl) (by kernel_rfl) (by kernel_rfl) (by exact fun _ _ _ h => h) (Or.inl ⟨by rfl, ?_⟩) hHeld ?_
            rotate_left 1
            · intro w' hSw
              (try dsimp only at hSw)
              go_simp
              try with_reducible rfl
            try simp only [Act.put, List.setIfInBounds_toArray, List.set_cons_zero, List.set_cons_succ, List.getElem_toArray, List.getElem_cons_zero, List.getElem_cons_succ]
            refine wpAnyH_take (i := 17) (v := ?_) (by rfl) (by kernel_rfl) (by kernel_rfl) (by kernel_rfl) (by exact fun _ _ _ h => h) (Or.inl ⟨by rfl, ?_⟩) hHeld ?_
            rotate_left 1
            · intro w' hSw
              (try dsimp only at hSw)
              go_simp
              try with_reducible rfl
            try simp only [Act.put, List.setIfInBounds_toArray, List.set_cons_zero, List.set_cons_succ, List.getElem_toArray, List.getElem_cons_zero, List.getElem_cons_succ]
            refine wpAnyH_ready (rs := [16]) (by kernel_rfl) (by simp) ?_
            refine AllReadyH.cons (by rfl) (fun K hK => ?_) AllReadyH.nil
            go_simp
            refine (HD1.out _ HPN.out).mono ?_
            rintro e w8 ⟨rfl, rfl⟩
            refine hK.out _ _ ?_ (fun hHeld => ?_)
            · exact hHeld
            clear hK K
            try simp only [Act.put, List.setIfInBounds_toArray, List.set_cons_zero, List.set_cons_succ, List.getElem_toArray, List.getElem_cons_zero, List.getElem_cons_succ]
            refine wpAnyH_ready (rs := [18]) (by kernel_rfl) (by simp) ?_
            refine AllReadyH.cons (by rfl) (fun K hK => ?_) AllReadyH.nil
            go_simp
            refine (HD2.out _ HPN.out).mono ?_
            rintro e w9 ⟨rfl, K5⟩
            have HPX := Lib.hid (HPN.out.kept K5.out)
            have HHX := Lib.hid (stay HHB.out K5.out)
            clear K5
            refine hK.out _ _ ?_ (fun hHeld => ?_)
            · exact HHX.out
            clear hK K
            try simp only [Act.put, List.setIfInBounds_toArray, List.set_cons_zero, List.set_cons_succ, List.getElem_toArray, List.getElem_cons_zero, List.getElem_cons_succ]
            refine wpAnyH_take (i := 19) (v := ?_) (by rfl) (by kernel_rfl) (by kernel_rfl) (by kernel_rfl) (by exact fun _ _ _ h => h) (Or.inl ⟨by rfl, ?_⟩) hHeld ?_
            rotate_left 1
            · intro w' hSw
              (try dsimp only at hSw)
              go_simp
              try with_reducible rfl
            try simp only [Act.put, List.setIfInBounds_toArray, List.set_cons_zero, List.set_cons_succ, List.getElem_toArray, List.getElem_cons_zero, List.getElem_cons_succ]
            refine wpAnyH_take (i := 20) (v := ?_) (by rfl) (by kernel_rfl) (by kernel_rfl) (by kernel_rfl) (by exact fun _ _ _ h => h) (Or.inl ⟨by rfl, ?_⟩) hHeld ?_
            rotate_left 1
            · intro w' hSw
              (try dsimp only at hSw)
              go_simp
              try with_reducible rfl
            try simp only [Act.put, List.setIfInBounds_toArray, List.set_cons_zero, List.set_cons_succ, List.getElem_toArray, List.getElem_cons_zero, List.getElem_cons_succ]
            refine wpAnyH_done (by kernel_rfl) ?_ _
            have HPF : Hid (∃ s, Pr w2 _ i x s s ∧ Pk.left s ≤ 40000) := Lib.hid ⟨_, HPX.out, HLN.out⟩
            clear hHeld HHX HPX HWR HXC HD1 HD2 HHB HPN HLN HNE
            go_wp2_with fail
            go_roundw
            case rel => exact ⟨k + 1, by omega, by go_num, HPF⟩
            case measure => simp [intOf]; omega
          exact AllReadyH.nil
        · obtain rfl : k = ts.length := by omega
          have HD1 := Lib.hid (Done_any HPR.out.inn)
          have HD2 := Lib.hid (XDone_any HPR.out.ref)
          have HFIN := Lib.hid (HB2.out.trans (HBW.out.mono HB2.out.size))
          generalize doneV s = dv at *
          clear HPR HLF
          go_wp2_with fail
          refine HD1.out.mono ?_
          rintro e w8 ⟨rfl, rfl⟩
          go_wp2_with fail
          refine HD2.out.mono ?_
          rintro e w9 ⟨rfl, K2⟩
          have HFN := Lib.hid (HFIN.out.trans (K2.out.mono HFIN.out.size))
          clear K2 HD1 HD2
          go_wp2_with fail
          go_ret
          exact ⟨by simp, HFN.out⟩
end Go.Proofs.YtodedlnpokagfaaDoor
