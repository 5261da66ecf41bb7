/-
  What the laws of layer 17 are handed: numbers, and acts.
-/
import Derived.Test.YtkepengljbeipaaQuActs
import Derived.Test.YtkepengljbeipaaQuSorts
import Derived.Test.YtkepengljbeipaaLawCard
set_option linter.unusedVariables false
set_option linter.unusedSimpArgs false
namespace Go.Proofs.Ytkepengljbeipaa
open Go.ChangeShapes Go.WideShapes Go.ChangeAt Go.RowKit Qu

/-- Numbers, read out of memory. -/
theorem open_nums {H : Type} {enc : TypeId × Value → H} {W : World} {base : Nat} {v : Value} {d : DataW H} {ps : List MemPlace}
    (hv : Value.okWide Try.prog W .any base 24 v) (h : DataW.Trod enc Try.prog W 0 (fun _ => true) true 24 v d ps) :
    ∃ a c ns, v = .slice a (List.length ns) c ∧ NumsIn W a ns ∧ (∀ k, k < ns.length → -9223372036854775808 ≤ el ns k ∧ el ns k ≤ 9223372036854775807) ∧ ns.length ≤ maxLen := by
  obtain ⟨a0, len0, cap0, rfl⟩ := okWide_slice Try.underlying24 hv
  obtain ⟨fuel, hf⟩ := h
  have hf' : DataW.trod enc Try.prog W 0 (fun _ => true) true fuel 24 [.slice a0 len0 cap0] = some (d, ps) := hf
  rcases Go.ChangeShapes.open_ints Try.underlying24 Try.underlying3 (show Try.prog.cellsOf 3 = 1 by kernel_rfl) hf' with ⟨hcs, hx⟩ | ⟨a, len, cap, zs, hcs, _, hl, hm, hzl, hx, hel, hwf⟩
  · simp only [List.cons.injEq, and_true, Value.slice.injEq] at hcs
    obtain ⟨rfl, rfl, rfl⟩ := hcs
    exact ⟨none, 0, [], rfl, .inl rfl, fun k hk => by simp at hk, by simp [maxLen]⟩
  · simp only [List.cons.injEq, and_true, Value.slice.injEq] at hcs
    obtain ⟨rfl, rfl, rfl⟩ := hcs
    simp only [if_true] at hzl
    have hlen : (zs.take len0).length = len0 := by rw [List.length_take]; omega
    have het : ∀ k, k < len0 → el (zs.take len0) k = el zs k := fun k hk => by
      unfold el
      rw [List.getD_eq_getElem?_getD, List.getD_eq_getElem?_getD, List.getElem?_take, if_pos hk]
    refine ⟨some a, cap0, zs.take len0, by rw [hlen], ?_, fun k hk => ?_, by rw [hlen]; omega⟩
    · rcases Nat.eq_zero_or_pos len0 with h0 | h0
      · subst h0
        exact .inl (by simp)
      · have hc0 := hel 0 (by omega)
        have hsp := World.cell?_spot hc0
        obtain ⟨g, off, sp⟩ := a
        have hsp' : sp = none := by simpa [Addr.add] using hsp
        subst hsp'
        have hb := World.block_lt_of_cell? _ _ hc0
        refine .inr ⟨g, off, rfl, by simpa [Addr.add] using hb, fun j hj => ?_⟩
        rw [hlen] at hj
        have h := hel j (by omega)
        rw [het j hj, show (⟨g, off + j, none⟩ : Addr) = (⟨g, off, none⟩ : Addr).add j by unfold Addr.add; split <;> simp_all]
        exact h
    · rw [hlen] at hk
      rw [het k hk]
      have hkz : k < zs.length := by omega
      have := int_wf (hwf _ (List.getElem_mem hkz))
      simpa [el, List.getD_eq_getElem?_getD, List.getElem?_eq_getElem hkz] using this
theorem act_of_trod {H : Type} {enc : TypeId × Value → H} {W : World} {cs : List Value} {fuel : Nat} {x : DataW H × List MemPlace}
    (hf : DataW.trod enc Try.prog W 0 (fun _ => true) true fuel 31 cs = some x) : ∃ c : Int × Int × Int, cs = [.int .i64 c.1, .int .i64 c.2.1, .int .i64 c.2.2] ∧ -9223372036854775808 ≤ c.2.1 ∧ c.2.1 ≤ 9223372036854775807 ∧ -9223372036854775808 ≤ c.2.2 ∧ c.2.2 ≤ 9223372036854775807 := by
  obtain ⟨xs, m, _, _, hl, hxl, hel⟩ := DataW.trod_struct Try.underlying31 hf
  have hlen : cs.length = 3 := hl.trans (show Try.prog.cellsOf 31 = 3 by kernel_rfl)
  have e1 : Try.prog.cellsOf 3 = 1 := by kernel_rfl
  have hx3 : xs.length = 3 := hxl
  have h0 : DataW.trod enc Try.prog W 0 (fun _ => true) true m 3 ((cs.drop 0).take (Try.prog.cellsOf 3)) = xs[0]? := hel 0 _ rfl
  have h1 : DataW.trod enc Try.prog W 0 (fun _ => true) true m 3 ((cs.drop 1).take (Try.prog.cellsOf 3)) = xs[1]? := hel 1 _ rfl
  have h2 : DataW.trod enc Try.prog W 0 (fun _ => true) true m 3 ((cs.drop 2).take (Try.prog.cellsOf 3)) = xs[2]? := hel 2 _ rfl
  rw [List.getElem?_eq_getElem (by omega)] at h0 h1 h2
  rw [e1] at h0 h1 h2
  obtain ⟨n0, q0, _⟩ := DataW.trod_int Try.underlying3 h0
  obtain ⟨n1, q1, _, w1⟩ := DataW.trod_int Try.underlying3 h1
  obtain ⟨n2, q2, _, w2⟩ := DataW.trod_int Try.underlying3 h2
  refine ⟨(n0, n1, n2), ?_, (int_wf w1).1, (int_wf w1).2, (int_wf w2).1, (int_wf w2).2⟩
  match cs, hlen with
  | [a, b, c], _ =>
    simp at q0 q1 q2
    simp [q0, q1, q2]
/-- Acts, read out of memory. -/
theorem open_acts {H : Type} {enc : TypeId × Value → H} {W : World} {base : Nat} {v : Value} {d : DataW H} {ps : List MemPlace}
    (hv : Value.okWide Try.prog W .any base 22 v) (h : DataW.Trod enc Try.prog W 0 (fun _ => true) true 22 v d ps) :
    ∃ a c cs, v = .slice a (List.length cs) c ∧ ActsIn W a cs ∧ (∀ (k : Nat) (x : Int × Int × Int), cs[k]? = some x → -9223372036854775808 ≤ x.2.1 ∧ x.2.1 ≤ 9223372036854775807 ∧ -9223372036854775808 ≤ x.2.2 ∧ x.2.2 ≤ 9223372036854775807) ∧ cs.length ≤ maxLen := by
  obtain ⟨a0, len0, cap0, rfl⟩ := okWide_slice Try.underlying22 hv
  obtain ⟨fuel, hf⟩ := h
  have hf' : DataW.trod enc Try.prog W 0 (fun _ => true) true fuel 22 [.slice a0 len0 cap0] = some (d, ps) := hf
  rcases Go.Deep.open_slice Try.underlying22 hf' with ⟨hcs, hx⟩ | ⟨a, len, cap, m, n, D, Pl, hcs, _, hl, hm, hmm, hx, hel⟩
  · simp only [List.cons.injEq, and_true, Value.slice.injEq] at hcs
    obtain ⟨rfl, rfl, rfl⟩ := hcs
    exact ⟨none, 0, [], rfl, .inl rfl, fun k x hk => by simp at hk, by simp [maxLen]⟩
  · simp only [List.cons.injEq, and_true, Value.slice.injEq] at hcs
    obtain ⟨rfl, rfl, rfl⟩ := hcs
    simp only [if_true] at hmm
    have e3 : Try.prog.cellsOf 31 = 3 := by kernel_rfl
    rw [e3] at hel
    have hch : ∀ i, i < len0 → ∃ p : Int × Int × Int, (∀ j u, [Value.int .i64 p.1, .int .i64 p.2.1, .int .i64 p.2.2][j]? = some u → W.cell? ((a.add (i * 3)).add j) = some u) ∧ -9223372036854775808 ≤ p.2.1 ∧ p.2.1 ≤ 9223372036854775807 ∧ -9223372036854775808 ≤ p.2.2 ∧ p.2.2 ≤ 9223372036854775807 := by
      intro i hi
      obtain ⟨cs', h1, h2⟩ := hel i (by omega)
      obtain ⟨_, h3, h4⟩ := World.cells?_some h1
      obtain ⟨p, rfl, g1⟩ := act_of_trod h2
      refine ⟨p, fun j u hu => ?_, g1⟩
      have hj : j < 3 := (List.getElem?_eq_some_iff.1 hu).1
      rw [h4 j hj]
      exact hu
    obtain ⟨f, hfs⟩ := Go.Deep.choose_lt hch
    have hlen : ((List.range len0).map f).length = len0 := by simp
    have hget : ∀ k x, ((List.range len0).map f)[k]? = some x → k < len0 ∧ x = f k := fun k x hk => by
      rw [List.getElem?_map] at hk
      obtain ⟨i, hi, e⟩ := Option.map_eq_some_iff.1 hk
      obtain ⟨hi1, hi2⟩ := List.getElem?_eq_some_iff.1 hi
      simp at hi1 hi2
      subst hi2
      exact ⟨hi1, e.symm⟩
    refine ⟨some a, cap0, (List.range len0).map f, by rw [hlen], ?_, fun k x hk => ?_, by rw [hlen]; omega⟩
    · rcases Nat.eq_zero_or_pos len0 with h0 | h0
      · subst h0
        exact .inl (by simp)
      · have hc0 := (hfs 0 h0).1 0 _ rfl
        have hsp := World.cell?_spot hc0
        obtain ⟨g, off, sp⟩ := a
        have hsp' : sp = none := by simpa [Addr.add] using hsp
        subst hsp'
        have hb := World.block_lt_of_cell? _ _ hc0
        refine .inr ⟨g, off, rfl, by simpa [Addr.add] using hb, fun k x hx => ?_⟩
        obtain ⟨hk, rfl⟩ := hget k x hx
        have hj : ∀ j u, [Value.int .i64 (f k).1, .int .i64 (f k).2.1, .int .i64 (f k).2.2][j]? = some u → W.cell? ⟨g, off + k * 3 + j, none⟩ = some u := fun j u hu => by
          have h := (hfs k hk).1 j u hu
          rw [Go.Deep.add_add] at h
          rwa [show (⟨g, off + k * 3 + j, none⟩ : Addr) = (⟨g, off, none⟩ : Addr).add (k * 3 + j) by unfold Addr.add; split <;> simp_all; omega]
        exact ⟨hj 0 _ rfl, hj 1 _ rfl, hj 2 _ rfl⟩
    · obtain ⟨hk', rfl⟩ := hget k x hk
      exact (hfs k hk').2
end Go.Proofs.Ytkepengljbeipaa
