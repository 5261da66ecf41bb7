/-
  Tokens that a law is handed.
-/
import Derived.Test.YtgojipnhnmigpaaSxMem
import Derived.Test.YtgojipnhnmigpaaLawCard
import Derived.Deep.Slices
import Derived.Deep.Strs
import Derived.OpenShut
set_option linter.unusedVariables false
set_option linter.unusedSimpArgs false
namespace Go.Proofs.Ytgojipnhnmigpaa
open Go.ChangeShapes Go.WideShapes Go.ChangeAt Go.RowKit Sx

set_option maxRecDepth 100000 in
theorem token_of_trod {H : Type} {enc : TypeId × Value → H} {W : World} {cs : List Value} {fuel : Nat} {x : DataW H × List MemPlace}
    (hf : DataW.trod enc Try.prog W 0 (fun _ => true) true fuel 35 cs = some x) : ∃ t : Tk, cs = kcell t := by
  obtain ⟨y0, y1, y2, n, _, hl, h0, h1, h2⟩ := Go.Deep.trod_struct3 Try.underlying35 hf
  have e0 : Try.prog.cellsOf 35 = 3 := by kernel_rfl
  have e1 : Try.prog.cellsOf 3 = 1 := by kernel_rfl
  have e2 : Try.prog.cellsOf 9 = 1 := by kernel_rfl
  rw [e0] at hl
  match cs, hl with
  | [c0, c1, c2], _ =>
    simp only [e1, e2, List.drop_zero, List.drop_succ_cons, List.take_succ_cons, List.take_zero] at h0 h1 h2
    obtain ⟨k, hk, _⟩ := DataW.trod_int Try.underlying3 h0
    obtain ⟨s, hs, _⟩ := DataW.trod_string Try.underlying9 h1
    obtain ⟨p, hp, _⟩ := DataW.trod_int Try.underlying3 h2
    simp only [List.cons.injEq, and_true] at hk hs hp
    exact ⟨⟨k, s, p⟩, by rw [hk, hs, hp]; rfl⟩
theorem kcells_of : ∀ (l : List Tk) (j : Nat) (u : Value), (kcells l)[j]? = some u → ∃ i t, l[i]? = some t ∧ j / 3 = i ∧ (kcell t)[j % 3]? = some u
  | [], j, u, h => by simp [kcells] at h
  | t :: l, j, u, h => by
    have hl : (kcell t).length = 3 := rfl
    rw [kcells_cons] at h
    by_cases hj : j < 3
    · rw [List.getElem?_append_left (by omega)] at h
      exact ⟨0, t, rfl, by omega, by rw [Nat.mod_eq_of_lt hj]; exact h⟩
    · rw [List.getElem?_append_right (by omega), hl] at h
      obtain ⟨i, t', h1, h2, h3⟩ := kcells_of l (j - 3) u h
      refine ⟨i + 1, t', h1, by omega, ?_⟩
      rw [show j % 3 = (j - 3) % 3 by omega]
      exact h3
instance : Inhabited Tk := ⟨⟨0, ⟨#[]⟩, 0⟩⟩
/-- Tokens, read out of memory. -/
theorem open_tokens {H : Type} {enc : TypeId × Value → H} {W : World} {base : Nat} {v : Value} {d : DataW H} {ps : List MemPlace}
    (hv : Value.okWide Try.prog W .any base 22 v) (h : DataW.Trod enc Try.prog W 0 (fun _ => true) true 22 v d ps) :
    ∃ a c ts, v = .slice a (List.length ts) c ∧ TksIn W a ts c := by
  obtain ⟨a0, len0, cap0, rfl⟩ := okWide_slice Try.underlying22 hv
  obtain ⟨fuel, hf⟩ := h
  have hf' : DataW.trod enc Try.prog W 0 (fun _ => true) true fuel 22 [.slice a0 len0 cap0] = some (d, ps) := hf
  rcases Go.Deep.open_slice Try.underlying22 hf' with ⟨hcs, hx⟩ | ⟨a, len, cap, m, n, D, Pl, hcs, _, hl, hm, hmm, hx, hel⟩
  · simp only [List.cons.injEq, and_true, Value.slice.injEq] at hcs
    obtain ⟨rfl, rfl, rfl⟩ := hcs
    exact ⟨none, 0, [], rfl, ⟨.inl rfl, by simp, by omega, .inl ⟨rfl, rfl⟩⟩⟩
  · simp only [List.cons.injEq, and_true, Value.slice.injEq] at hcs
    obtain ⟨rfl, rfl, rfl⟩ := hcs
    simp only [if_true] at hmm
    have e3 : Try.prog.cellsOf 35 = 3 := by kernel_rfl
    rw [e3] at hel
    have hch : ∀ i, i < len0 → ∃ t : Tk, ∀ j u, (kcell t)[j]? = some u → W.cell? ((a.add (i * 3)).add j) = some u := by
      intro i hi
      obtain ⟨cs', h1, h2⟩ := hel i (by omega)
      obtain ⟨_, h3, h4⟩ := World.cells?_some h1
      obtain ⟨t, rfl⟩ := token_of_trod h2
      refine ⟨t, fun j u hu => ?_⟩
      have hj : j < 3 := by
        have := (List.getElem?_eq_some_iff.1 hu).1
        simpa [kcell] using this
      rw [h4 j hj]
      exact hu
    obtain ⟨f, hfs⟩ := Go.Deep.choose_lt hch
    have hlen : ((List.range len0).map f).length = len0 := by simp
    have hcapped : cap0 ≤ 9223372036854775807 := hm
    refine ⟨some a, cap0, (List.range len0).map f, by rw [hlen], ⟨?_, by rw [hlen]; exact hl, hcapped, .inr ⟨_, rfl⟩⟩⟩
    rcases Nat.eq_zero_or_pos len0 with h0 | h0
    · subst h0
      exact .inl (by simp)
    · have hc0 := hfs 0 h0 0 (.int .i64 (f 0).k) rfl
      have hsp := World.cell?_spot hc0
      obtain ⟨g, off, sp⟩ := a
      have hsp' : sp = none := by simpa [Addr.add] using hsp
      subst hsp'
      refine .inr ⟨g, off, rfl, fun j u hu => ?_⟩
      obtain ⟨i, t, h1, h2, h3⟩ := kcells_of _ _ _ hu
      rw [List.getElem?_map] at h1
      obtain ⟨i', hi', rfl⟩ := Option.map_eq_some_iff.1 h1
      obtain ⟨hi1, hi2⟩ := List.getElem?_eq_some_iff.1 hi'
      simp at hi1 hi2
      subst hi2
      have h := hfs i hi1 (j % 3) u h3
      rw [Go.Deep.add_add] at h
      have hj : i * 3 + j % 3 = j := by omega
      rw [hj] at h
      rwa [show (⟨g, off + j, none⟩ : Addr) = (⟨g, off, none⟩ : Addr).add j by unfold Addr.add; split <;> simp_all]
end Go.Proofs.Ytgojipnhnmigpaa
