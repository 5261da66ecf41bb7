/- By program out of: LnOpenR. -/
import Derived.Test.YtpjeecahaeaajaaGreatDoorMfeeodh
import Derived.Test.YtpjeecahaeaajaaGreatDoorMchbjdg
set_option linter.unusedVariables false
set_option linter.unusedSimpArgs false
namespace Go.Proofs.YtpjeecahaeaajaaGreatDoor
open Go.ChangeShapes Go.WideShapes Go.ChangeAt Go.RowKit Rep Ln
instance : Inhabited HQ := ⟨⟨false, none, 0, [], none, 0, []⟩⟩
theorem list3 {l : List Value} (h : l.length = 3) : ∃ x0 x1 x2, l = [x0, x1, x2] := by
 match l, h with
 | [x0, x1, x2], _ => exact ⟨x0, x1, x2, rfl⟩
set_option maxRecDepth 100000 in
theorem open_rats {H : Type} {enc : TypeId × Value → H} {W : World} {base : Nat} {v : Value} {d : DataW H} {ps : List MemPlace}
    (hv : Value.okWide Tryz.prog W .any base 31 v) (h : DataW.Trod enc Tryz.prog W 0 (fun _ => true) true 31 v d ps) (hb : Rows.uptoBulk d ≤ 2000000) : ∃ a k hs, v = .slice a (List.length hs) k ∧ HQs W a hs := by
 obtain ⟨a0, len0, cap0, rfl⟩ := okWide_slice Tryz.underlying31 hv
 obtain ⟨fuel, hf⟩ := h
 have hf' : DataW.trod enc Tryz.prog W 0 (fun _ => true) true fuel 31 [.slice a0 len0 cap0] = some (d, ps) := hf
 rcases Go.Deep.open_slice Tryz.underlying31 hf' with ⟨hcs, _⟩ | ⟨a, len, cap, m, n, D, Pl, hcs, _, hl, hm, hmm, hx, hel⟩
 ·simp only [List.cons.injEq, and_true, Value.slice.injEq] at hcs
  obtain ⟨rfl, rfl, rfl⟩ := hcs
  exact ⟨none, 0, [], rfl, ⟨.inl rfl, by simp⟩⟩
 ·simp only [List.cons.injEq, and_true, Value.slice.injEq] at hcs
  obtain ⟨rfl, rfl, rfl⟩ := hcs
  simp only [if_true] at hmm
  simp only [Prod.mk.injEq] at hx
  obtain ⟨rfl, -⟩ := hx
  have e3 : Tryz.prog.cellsOf 27 = 3 := by kernel_rfl
  rw [e3] at hel
  have hch : ∀ i, i < len0 → ∃ t : HQ, (∀ j u, (ratL t.raw)[j]? = some u → W.cell? ((a.add (i * 3)).add j) = some u) ∧ HandR W t.a1 t.c1 t.xs t.a2 t.c2 t.ds ∧ t.xs.length ≤ 2000000 ∧ t.ds.length ≤ 2000000 := by
   intro i hi
   obtain ⟨cs', h1, h2⟩ := hel i (by omega)
   obtain ⟨_, h3, h4⟩ := World.cells?_some h1
   obtain ⟨x0, x1, x2, rfl⟩ := list3 h3
   obtain ⟨s, a1, k1, xs, a2, k2, ds, rfl, rfl, rfl, hh, b1, b2⟩ := rat_bulk h2
   have b3 := bulk_in (List.mem_map.2 ⟨i, List.mem_range.2 hi, rfl⟩ : D i ∈ (List.range len0).map D)
   have b4 := bulk_row ((List.range len0).map D) ((List.range (m - len0)).map fun j => D (len0 + j))
   refine ⟨⟨s, a1, k1, xs, a2, k2, ds⟩, fun j u hu => ?_, hh, by dsimp only at b1 hb ⊢; omega, by dsimp only at b2 hb ⊢; omega⟩
   have hj : j < 3 := by
    have := (List.getElem?_eq_some_iff.1 hu).1
    simpa [ratL] using this
   rw [h4 j hj]
   exact hu
  obtain ⟨f, hfs⟩ := Go.Deep.choose_lt hch
  have hlen : ((List.range len0).map f).length = len0 := by simp
  refine ⟨some a, cap0, (List.range len0).map f, by rw [hlen], ⟨?_, fun p hp => ?_⟩⟩
  ·rcases Nat.eq_zero_or_pos len0 with h0 | h0
   ·subst h0
    exact .inl (by simp)
   ·have hc0 := (hfs 0 h0).1 0 (.bool (f 0).s) rfl
    have hsp := World.cell?_spot hc0
    obtain ⟨g, off, sp⟩ := a
    have hsp' : sp = none := by simpa [Addr.add] using hsp
    subst hsp'
    refine .inr ⟨g, off, rfl, fun k p hk j u hu => ?_⟩
    obtain ⟨hk1, rfl⟩ : k < len0 ∧ f k = p := by
     rw [List.getElem?_map] at hk
     obtain ⟨i, hi, rfl⟩ := Option.map_eq_some_iff.1 hk
     obtain ⟨hi1, hi2⟩ := List.getElem?_eq_some_iff.1 hi
     simp at hi1 hi2
     subst hi2
     exact ⟨hi1, rfl⟩
    have h := (hfs k hk1).1 j u hu
    rw [Go.Deep.add_add] at h
    rw [Nat.add_assoc]
    rwa [show (⟨g, off + (k * 3 + j), none⟩ : Addr) = (⟨g, off, none⟩ : Addr).add (k * 3 + j) by unfold Addr.add; split <;> simp_all]
  ·obtain ⟨i, hi, rfl⟩ := List.mem_map.1 hp
   exact (hfs i (by simpa using hi)).2
end Go.Proofs.YtpjeecahaeaajaaGreatDoor
