/- By program out of: RatCard. -/
import Derived.Test.YthnklohpmcebkaaGreatDoorMbejngi
import Derived.Test.YthnklohpmcebkaaGreatDoorMkeimog
import Derived.Test.YthnklohpmcebkaaGreatDoorMpgddfh
import Derived.ChangeSame
set_option linter.unusedVariables false
set_option linter.unusedSimpArgs false
namespace Go.Proofs.YthnklohpmcebkaaGreatDoor
open Go.ChangeShapes Go.WideShapes Go.ChangeAt Go.RowKit Rep
set_option maxRecDepth 100000 in
theorem limbs_of_trod {H : Type} {enc : TypeId × Value → H} {W : World} {t : TypeId} {c : Value} {fuel : Nat} {x : DataW H × List MemPlace}
    (ht : Tryz.prog.underlying t = some (.slice 53)) (hf : DataW.trod enc Tryz.prog W 0 (fun _ => true) true fuel t [c] = some x) :
    ∃ a k xs, c = .slice a xs.length k ∧ Handed W a k xs := by
  rcases open_ints ht Tryz.underlying53 (show Tryz.prog.cellsOf 53 = 1 by kernel_rfl) hf with ⟨hcs, hx⟩ | ⟨a, len, cap, zs, hcs, _, hl, hm, hz, hx, hcell, hw⟩
  · simp only [List.cons.injEq, and_true] at hcs
    subst hcs
    exact ⟨none, 0, [], rfl, Dig.nil _, Reads.nil _ _, by simp, by simp [maxLen]⟩
  · simp only [List.cons.injEq, and_true] at hcs
    subst hcs
    simp only [if_true] at hz
    have hnat : ∀ z ∈ zs, ∃ n : Nat, z = (n : Int) ∧ n < 4294967296 := by
      intro z hzm
      have h := hw z hzm
      have e1 : IntKind.u32.min = 0 := rfl
      have e2 : IntKind.u32.max = 4294967295 := rfl
      simp [Lit.wf, e1, e2] at h
      exact ⟨z.toNat, by omega, by omega⟩
    have hlen : ((zs.take len).map Int.toNat).length = len := by simp; omega
    refine ⟨some a, cap, (zs.take len).map Int.toNat, by rw [hlen], ?_, ?_, by rw [hlen]; exact hl, hm⟩
    · intro x hx
      obtain ⟨z, hzm, rfl⟩ := List.mem_map.1 hx
      obtain ⟨n, rfl, hn⟩ := hnat z (List.mem_of_mem_take hzm)
      simpa using hn
    · rcases Nat.eq_zero_or_pos len with h0 | h0
      · subst h0
        exact .inl (by simp)
      · have hsp := World.cell?_spot (hcell 0 (by omega))
        obtain ⟨g, off, sp⟩ := a
        have hsp' : sp = none := by simpa [Addr.add] using hsp
        subst hsp'
        refine .inr ⟨g, off, rfl, fun i u hu => ?_⟩
        rw [List.map_map, List.getElem?_map, List.getElem?_take] at hu
        split at hu
        · rename_i hi
          have hlt : i < zs.length := by omega
          rw [List.getElem?_eq_getElem hlt] at hu
          obtain ⟨n, hn, _⟩ := hnat zs[i] (List.getElem_mem hlt)
          have h := hcell i hlt
          rw [List.getD_eq_getElem?_getD, List.getElem?_eq_getElem hlt] at h
          simp only [Option.map_some, Option.some.injEq, Function.comp, u32v, hn, Int.toNat_natCast] at hu
          rw [← hu]
          rw [show (⟨g, off + i, none⟩ : Addr) = (⟨g, off, none⟩ : Addr).add i by unfold Addr.add; split <;> simp_all]
          simpa only [Option.getD_some, hn] using h
        · simp at hu
theorem array3' {a : Array Value} (h : a.size = 3) : ∃ x y z, a = #[x, y, z] := by
  obtain ⟨l⟩ := a
  match l, h with
  | [x, y, z], _ => exact ⟨x, y, z, rfl⟩
set_option maxRecDepth 100000 in
theorem open_ratio {H : Type} {enc : TypeId × Value → H} {W : World} {base : Nat} {v : Value} {d : DataW H} {ps : List MemPlace}
    (hv : Value.okWide Tryz.prog W .any base 27 v) (h : DataW.Trod enc Tryz.prog W 0 (fun _ => true) true 27 v d ps) :
    ∃ s a1 c1 xs a2 c2 ds, v = ratV s (.slice a1 xs.length c1) (.slice a2 ds.length c2) ∧ HandR W a1 c1 xs a2 c2 ds := by
  obtain ⟨cs, rfl, hsz⟩ := okWide_struct Tryz.underlying27 hv
  obtain ⟨c0, c1, c2, rfl⟩ := array3' (hsz.trans (show Tryz.prog.cellsOf 27 = 3 by kernel_rfl))
  obtain ⟨fuel, hf⟩ := h
  obtain ⟨y0, y1, n, hx, _, h0, h1⟩ := trod_struct2 Tryz.underlying27 hf
  have e1 : Tryz.prog.cellsOf 25 = 2 := by kernel_rfl
  have e2 : Tryz.prog.cellsOf 23 = 1 := by kernel_rfl
  have e3 : Tryz.prog.cellsOf 4 = 1 := by kernel_rfl
  simp only [Value.cells, e1, e2, List.drop_zero, List.drop_succ_cons, List.take_succ_cons, List.take_zero] at h0 h1
  obtain ⟨z0, z1, n2, hx2, _, g0, g1⟩ := trod_struct2 Tryz.underlying25 h0
  simp only [e2, e3, List.drop_zero, List.drop_succ_cons, List.take_succ_cons, List.take_zero] at g0 g1
  obtain ⟨s, hs, _⟩ := DataW.trod_bool Tryz.underlying4 g0
  obtain ⟨a1, k1, xs, rfl, hn⟩ := limbs_of_trod Tryz.underlying23 g1
  obtain ⟨a2, k2, ds, rfl, hd⟩ := limbs_of_trod Tryz.underlying23 h1
  simp only [List.cons.injEq, and_true] at hs
  subst hs
  exact ⟨s, a1, k1, xs, a2, k2, ds, rfl, hn, hd⟩
def zeroV : Value := .agg #[.bool false, .slice none 0 0, .slice none 0 0]
end Go.Proofs.YthnklohpmcebkaaGreatDoor
