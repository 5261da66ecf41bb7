/- By program out of: SmCard. -/
import Derived.Test.YtknackfmepkiaaaGreatDoorMdpambg
import Derived.Test.YtknackfmepkiaaaGreatDoorMknfkeh
import Derived.Deep.Slices
import Derived.OpenShut
/-
  What a law's card asks beside its walk, where pairs of numbers with a delta are handed in.
-/
set_option linter.unusedVariables false
set_option linter.unusedSimpArgs false
namespace Go.Proofs.YtknackfmepkiaaaGreatDoor
open Go.ChangeShapes Go.WideShapes Go.ChangeAt Go.RowKit Rep

theorem list12 {l : List Value} (h : l.length = 12) : ∃ x0 x1 x2 x3 x4 x5 x6 x7 x8 x9 x10 x11, l = [x0, x1, x2, x3, x4, x5, x6, x7, x8, x9, x10, x11] := by
  match l, h with
  | [x0, x1, x2, x3, x4, x5, x6, x7, x8, x9, x10, x11], _ => exact ⟨x0, x1, x2, x3, x4, x5, x6, x7, x8, x9, x10, x11, rfl⟩

set_option maxRecDepth 100000 in
theorem delta_of_trod {H : Type} {enc : TypeId × Value → H} {W : World} {c0 c1 c2 c3 c4 c5 : Value} {fuel : Nat} {x : DataW H × List MemPlace}
    (hf : DataW.trod enc Tryz.prog W 0 (fun _ => true) true fuel 32 [c0, c1, c2, c3, c4, c5] = some x) : ∃ d : HD, [c0, c1, c2, c3, c4, c5] = d.vals ∧ HandD W d := by
  obtain ⟨y0, y1, n, hx, _, h0, h1⟩ := trod_struct2 Tryz.underlying32 hf
  have e1 : Tryz.prog.cellsOf 30 = 3 := by kernel_rfl
  simp only [e1, List.drop_zero, List.drop_succ_cons, List.take_succ_cons, List.take_zero] at h0 h1
  obtain ⟨s, a1, k1, xs, a2, k2, ds, rfl, rfl, rfl, g0⟩ := ratio_of_trod h0
  obtain ⟨t, b1, j1, ys, b2, j2, es, rfl, rfl, rfl, g1⟩ := ratio_of_trod h1
  exact ⟨⟨s, a1, k1, xs, a2, k2, ds, t, b1, j1, ys, b2, j2, es⟩, rfl, g0, g1⟩
theorem split12 {a b : List Value} {p q : List Value} (h1 : a = p) (h2 : b = q) : a ++ b = p ++ q := by rw [h1, h2]

set_option maxRecDepth 100000 in
theorem pair_of_trod {H : Type} {enc : TypeId × Value → H} {W : World} {cs : List Value} {fuel : Nat} {x : DataW H × List MemPlace}
    (hf : DataW.trod enc Tryz.prog W 0 (fun _ => true) true fuel 33 cs = some x) : ∃ p : HP, cs = valsP p ∧ HandD W p.1 ∧ HandD W p.2 := by
  obtain ⟨xs, m, _, _, hl, hxl, hel⟩ := DataW.trod_array Tryz.underlying33 hf
  obtain ⟨x0, x1, x2, x3, x4, x5, x6, x7, x8, x9, x10, x11, rfl⟩ := list12 (hl.trans (show Tryz.prog.cellsOf 33 = 12 by kernel_rfl))
  have e1 : Tryz.prog.cellsOf 32 = 6 := by kernel_rfl
  have h0 := hel 0 (by omega)
  have h1 := hel 1 (by omega)
  rw [List.getElem?_eq_getElem (by omega)] at h0 h1
  simp only [e1, Nat.zero_mul, Nat.one_mul, List.drop_zero, List.drop_succ_cons, List.take_succ_cons, List.take_zero] at h0 h1
  obtain ⟨d0, v0, g0⟩ := delta_of_trod h0
  obtain ⟨d1, v1, g1⟩ := delta_of_trod h1
  exact ⟨(d0, d1), split12 v0 v1, g0, g1⟩

set_option maxRecDepth 100000 in
/-- Pairs of numbers with a delta that a law is handed. -/
theorem open_pairs {H : Type} {enc : TypeId × Value → H} {W : World} {base : Nat} {v : Value} {d : DataW H} {ps : List MemPlace}
    (hv : Value.okWide Tryz.prog W .any base 22 v) (h : DataW.Trod enc Tryz.prog W 0 (fun _ => true) true 22 v d ps) :
    ∃ a c ts, v = .slice a ts.length c ∧ PairsIn W a c ts ∧ ∀ p ∈ ts, HandD W p.1 ∧ HandD W p.2 := by
  obtain ⟨a0, len0, cap0, rfl⟩ := okWide_slice Tryz.underlying22 hv
  obtain ⟨fuel, hf⟩ := h
  have hf' : DataW.trod enc Tryz.prog W 0 (fun _ => true) true fuel 22 [.slice a0 len0 cap0] = some (d, ps) := hf
  rcases Go.Deep.open_slice Tryz.underlying22 hf' with ⟨hcs, hx⟩ | ⟨a, len, cap, m, n, D, Pl, hcs, _, hl, hm, hmm, hx, hel⟩
  · simp only [List.cons.injEq, and_true, Value.slice.injEq] at hcs
    obtain ⟨rfl, rfl, rfl⟩ := hcs
    exact ⟨none, 0, [], rfl, ⟨by simp, by simp [maxLen], .inl rfl⟩, by simp⟩
  · simp only [List.cons.injEq, and_true, Value.slice.injEq] at hcs
    obtain ⟨rfl, rfl, rfl⟩ := hcs
    simp only [if_true] at hmm
    have e12 : Tryz.prog.cellsOf 33 = 12 := by kernel_rfl
    rw [e12] at hel
    have hch : ∀ i, i < len0 → ∃ p : HP, (∀ j u, (valsP p)[j]? = some u → W.cell? ((a.add (i * 12)).add j) = some u) ∧ HandD W p.1 ∧ HandD W p.2 := by
      intro i hi
      obtain ⟨cs', h1, h2⟩ := hel i (by omega)
      obtain ⟨_, h3, h4⟩ := World.cells?_some h1
      obtain ⟨p, rfl, g1, g2⟩ := pair_of_trod h2
      refine ⟨p, fun j u hu => ?_, g1, g2⟩
      have hj : j < 12 := by
        have := (List.getElem?_eq_some_iff.1 hu).1
        simpa [valsP, HD.vals] using this
      rw [h4 j hj]
      exact hu
    obtain ⟨f, hfs⟩ := Go.Deep.choose_lt hch
    have hlen : ((List.range len0).map f).length = len0 := by simp
    refine ⟨some a, cap0, (List.range len0).map f, by rw [hlen], ⟨by rw [hlen]; exact hl, hm, ?_⟩, fun p hp => ?_⟩
    · rcases Nat.eq_zero_or_pos len0 with h0 | h0
      · subst h0
        exact .inl (by simp)
      · have hc0 := (hfs 0 h0).1 0 (.bool (f 0).1.s) rfl
        have hsp := World.cell?_spot hc0
        obtain ⟨g, off, sp⟩ := a
        have hsp' : sp = none := by simpa [Addr.add] using hsp
        subst hsp'
        refine .inr ⟨g, off, rfl, fun k p hk j u hu => ?_⟩
        obtain ⟨hk1, rfl⟩ : k < len0 ∧ f k = p := by
          rw [List.getElem?_map] at hk
          obtain ⟨i, hi, rfl⟩ := Option.map_eq_some_iff.1 hk
          obtain ⟨hi1, hi2⟩ := List.getElem?_eq_some_iff.1 hi
          simp at hi1 hi2
          subst hi2
          exact ⟨hi1, rfl⟩
        have h := (hfs k hk1).1 j u hu
        rw [Go.Deep.add_add] at h
        rwa [show (⟨g, off + (k * 12 + j), none⟩ : Addr) = (⟨g, off, none⟩ : Addr).add (k * 12 + j) by unfold Addr.add; split <;> simp_all]
    · obtain ⟨i, hi, rfl⟩ := List.mem_map.1 hp
      exact (hfs i (by simpa using hi)).2
end Go.Proofs.YtknackfmepkiaaaGreatDoor

