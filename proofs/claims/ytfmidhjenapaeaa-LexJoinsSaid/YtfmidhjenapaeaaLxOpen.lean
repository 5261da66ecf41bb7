/-
  A text that a law is handed.
-/
import Derived.Test.YtfmidhjenapaeaaLxLaw
import Derived.Test.YtfmidhjenapaeaaLawCard
set_option linter.unusedVariables false
set_option linter.unusedSimpArgs false
namespace Go.Proofs.Ytfmidhjenapaeaa
open Go.ChangeShapes Go.WideShapes Go.ChangeAt Go.RowKit Lx

theorem u8_wf {n : Int} (h : (Lit.int .u8 n).wf = true) : 0 ≤ n ∧ n < 256 := by
  have e1 : IntKind.u8.min = 0 := rfl
  have e2 : IntKind.u8.max = 255 := rfl
  simp [Lit.wf, e1, e2] at h
  omega
/-- A text, read out of memory. -/
theorem open_text {H : Type} {enc : TypeId × Value → H} {W : World} {base : Nat} {v : Value} {d : DataW H} {ps : List MemPlace}
    (hv : Value.okWide Try.prog W .any base 22 v) (h : DataW.Trod enc Try.prog W 0 (fun _ => true) true 22 v d ps) :
    ∃ a c bs, v = .slice a (List.length bs) c ∧ BytesAt W a bs ∧ TextIn a bs c := by
  obtain ⟨a0, len0, cap0, rfl⟩ := okWide_slice Try.underlying22 hv
  obtain ⟨fuel, hf⟩ := h
  have hf' : DataW.trod enc Try.prog W 0 (fun _ => true) true fuel 22 [.slice a0 len0 cap0] = some (d, ps) := hf
  rcases Go.ChangeShapes.open_ints Try.underlying22 Try.underlying5 (show Try.prog.cellsOf 5 = 1 by kernel_rfl) hf' with ⟨hcs, hx⟩ | ⟨a, len, cap, zs, hcs, _, hl, hm, hzl, hx, hel, hwf⟩
  · simp only [List.cons.injEq, and_true, Value.slice.injEq] at hcs
    obtain ⟨rfl, rfl, rfl⟩ := hcs
    exact ⟨none, 0, [], rfl, .inl rfl, by simp, by omega, (fun x hx => by cases hx), .inl ⟨rfl, rfl⟩⟩
  · simp only [List.cons.injEq, and_true, Value.slice.injEq] at hcs
    obtain ⟨rfl, rfl, rfl⟩ := hcs
    simp only [if_true] at hzl
    have hlen : (zs.take len0).length = len0 := by rw [List.length_take]; omega
    refine ⟨some a, cap0, zs.take len0, by rw [hlen], ?_, by rw [hlen]; exact hl, by unfold maxLen at hm; omega, fun x hx => u8_wf (hwf x (List.mem_of_mem_take hx)), .inr ⟨_, rfl⟩⟩
    rcases Nat.eq_zero_or_pos len0 with h0 | h0
    · subst h0
      exact .inl (by simp)
    · have hc0 := hel 0 (by omega)
      have hsp := World.cell?_spot hc0
      obtain ⟨g, off, sp⟩ := a
      have hsp' : sp = none := by simpa [Addr.add] using hsp
      subst hsp'
      refine .inr ⟨g, off, rfl, fun j u hu => ?_⟩
      rw [bys, List.getElem?_map, List.getElem?_take] at hu
      split at hu
      · rename_i hj
        have hj2 : j < zs.length := by omega
        have h := hel j hj2
        rw [List.getElem?_eq_getElem hj2] at hu
        simp only [Option.map_some, Option.some.injEq] at hu
        rw [show (⟨g, off + j, none⟩ : Addr) = (⟨g, off, none⟩ : Addr).add j by unfold Addr.add; split <;> simp_all, h, ← hu]
        simp [b8, List.getD_eq_getElem?_getD, List.getElem?_eq_getElem hj2]
      · cases hu
end Go.Proofs.Ytfmidhjenapaeaa
