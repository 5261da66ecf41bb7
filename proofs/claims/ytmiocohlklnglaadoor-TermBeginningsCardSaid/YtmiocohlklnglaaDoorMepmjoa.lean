/- By program out of: TmOpen. -/
import Derived.Test.YtmiocohlklnglaaDoorMmpgpef
import Derived.ProofKit
import Derived.ChangeSlices
import Derived.ChangeMaps5
import Derived.Deep.Slices
import Derived.OpenShut
/-
  Layer 9: lists of numbers that a law is handed.
-/
set_option linter.unusedVariables false
set_option linter.unusedSimpArgs false
namespace Go.Proofs.YtmiocohlklnglaaDoor
open Go.ChangeShapes Go.WideShapes Go.ChangeAt Go.RowKit Tm

/-- A list of numbers as it is handed in. -/
structure KIn (W : World) (a : Option Addr) (xs : List Int) (c : Nat) : Prop where
  at_ : xs = [] ∨ ∃ g off, a = some ⟨g, off, none⟩ ∧ W.rangeAt g off (i64s xs)
  cap : xs.length ≤ c
  capped : c ≤ 9223372036854775807
  mid : a = none → c = 0
set_option maxRecDepth 100000 in
/-- A []int that a law is handed. -/
theorem open_kids {H : Type} {enc : TypeId × Value → H} {W : World} {base : Nat} {v : Value} {d : DataW H} {ps : List MemPlace}
    (hv : Value.okWide Tryd.prog W .any base 22 v) (h : DataW.Trod enc Tryd.prog W 0 (fun _ => true) true 22 v d ps) :
    ∃ a c xs, v = .slice a xs.length c ∧ KIn W a xs c := by
  have ht := Tryd.underlying22
  obtain ⟨a0, l0, c0, rfl⟩ := okWide_slice ht hv
  obtain ⟨fuel, hf⟩ := h
  rcases open_ints ht Tryd.underlying3 (show Tryd.prog.cellsOf 3 = 1 by kernel_rfl) hf with ⟨hcs, hx⟩ | ⟨a, len, cap, zs, hcs, _, hl, hm, hz, hx, hcell, hw⟩
  · simp only [Value.cells, List.cons.injEq, Value.slice.injEq, and_true] at hcs
    obtain ⟨rfl, rfl, rfl⟩ := hcs
    exact ⟨none, 0, [], rfl, .inl rfl, by simp, by simp, fun _ => rfl⟩
  · simp only [Value.cells, List.cons.injEq, Value.slice.injEq, and_true] at hcs
    obtain ⟨rfl, rfl, rfl⟩ := hcs
    simp only [if_true] at hz
    have hlen : (zs.take l0).length = l0 := by simp; omega
    refine ⟨some a, c0, zs.take l0, by rw [hlen], ?_, by rw [hlen]; exact hl, hm, fun e => by cases e⟩
    rcases Nat.eq_zero_or_pos l0 with h0 | h0
    · subst h0
      exact .inl (by simp)
    · have hsp := World.cell?_spot (hcell 0 (by omega))
      obtain ⟨g, off, sp⟩ := a
      have hsp' : sp = none := by simpa [Addr.add] using hsp
      subst hsp'
      refine .inr ⟨g, off, rfl, fun i u hu => ?_⟩
      simp only [i64s, List.getElem?_map, List.getElem?_take] at hu
      split at hu
      · rename_i hi
        have hlt : i < zs.length := by omega
        rw [List.getElem?_eq_getElem hlt] at hu
        have h := hcell i hlt
        rw [List.getD_eq_getElem?_getD, List.getElem?_eq_getElem hlt] at h
        simp only [Option.map_some, Option.some.injEq] at hu
        rw [← hu]
        rw [show (⟨g, off + i, none⟩ : Addr) = (⟨g, off, none⟩ : Addr).add i by unfold Addr.add; split <;> simp_all]
        simpa only [Option.getD_some] using h
      · simp at hu
end Go.Proofs.YtmiocohlklnglaaDoor
