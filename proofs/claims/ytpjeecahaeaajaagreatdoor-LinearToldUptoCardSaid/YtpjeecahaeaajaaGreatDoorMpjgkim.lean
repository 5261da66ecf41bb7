/- By program out of: RatCard. -/
import Derived.Test.YtpjeecahaeaajaaGreatDoorMbejngi
import Derived.Test.YtpjeecahaeaajaaGreatDoorMmkloij
import Derived.Test.YtpjeecahaeaajaaGreatDoorMpgddfh
import Derived.ChangeSame
set_option linter.unusedVariables false
set_option linter.unusedSimpArgs false
namespace Go.Proofs.YtpjeecahaeaajaaGreatDoor
open Go.ChangeShapes Go.WideShapes Go.ChangeAt Go.RowKit Rep
set_option maxRecDepth 100000 in
theorem limbs_of_trod {H : Type} {enc : TypeId × Value → H} {W : World} {t : TypeId} {c : Value} {fuel : Nat} {x : DataW H × List MemPlace}
    (ht : Tryz.prog.underlying t = some (.slice 68)) (hf : DataW.trod enc Tryz.prog W 0 (fun _ => true) true fuel t [c] = some x) :
    ∃ a k xs, c = .slice a xs.length k ∧ Handed W a k xs := by
  rcases open_ints ht Tryz.underlying68 (show Tryz.prog.cellsOf 68 = 1 by kernel_rfl) hf with ⟨hcs, hx⟩ | ⟨a, len, cap, zs, hcs, _, hl, hm, hz, hx, hcell, hw⟩
  · simp only [List.cons.injEq, and_true] at hcs
    subst hcs
    exact ⟨none, 0, [], rfl, Dig.nil _, Reads.nil _ _, by simp, by simp [maxLen]⟩
  · simp only [List.cons.injEq, and_true] at hcs
    subst hcs
    simp only [if_true] at hz
    have hnat : ∀ z ∈ zs, ∃ n : Nat, z = (n : Int) ∧ n < 4294967296 := by
      intro z hzm
      have h := hw z hzm
      have e1 : IntKind.u32.min = 0 := rfl
      have e2 : IntKind.u32.max = 4294967295 := rfl
      simp [Lit.wf, e1, e2] at h
      exact ⟨z.toNat, by omega, by omega⟩
    have hlen : ((zs.take len).map Int.toNat).length = len := by simp; omega
    refine ⟨some a, cap, (zs.take len).map Int.toNat, by rw [hlen], ?_, ?_, by rw [hlen]; exact hl, hm⟩
    · intro x hx
      obtain ⟨z, hzm, rfl⟩ := List.mem_map.1 hx
      obtain ⟨n, rfl, hn⟩ := hnat z (List.mem_of_mem_take hzm)
      simpa using hn
    · rcases Nat.eq_zero_or_pos len with h0 | h0
      · subst h0
        exact .inl (by simp)
      · have hsp := World.cell?_spot (hcell 0 (by omega))
        obtain ⟨g, off, sp⟩ := a
        have hsp' : sp = none := by simpa [Addr.add] using hsp
        subst hsp'
        refine .inr ⟨g, off, rfl, fun i u hu => ?_⟩
        rw [List.map_map, List.getElem?_map, List.getElem?_take] at hu
        split at hu
        · rename_i hi
          have hlt : i < zs.length := by omega
          rw [List.getElem?_eq_getElem hlt] at hu
          obtain ⟨n, hn, _⟩ := hnat zs[i] (List.getElem_mem hlt)
          have h := hcell i hlt
          rw [List.getD_eq_getElem?_getD, List.getElem?_eq_getElem hlt] at h
          simp only [Option.map_some, Option.some.injEq, Function.comp, u32v, hn, Int.toNat_natCast] at hu
          rw [← hu]
          rw [show (⟨g, off + i, none⟩ : Addr) = (⟨g, off, none⟩ : Addr).add i by unfold Addr.add; split <;> simp_all]
          simpa only [Option.getD_some, hn] using h
        · simp at hu
theorem array3' {a : Array Value} (h : a.size = 3) : ∃ x y z, a = #[x, y, z] := by
  obtain ⟨l⟩ := a
  match l, h with
  | [x, y, z], _ => exact ⟨x, y, z, rfl⟩
def zeroV : Value := .agg #[.bool false, .slice none 0 0, .slice none 0 0]
end Go.Proofs.YtpjeecahaeaajaaGreatDoor
