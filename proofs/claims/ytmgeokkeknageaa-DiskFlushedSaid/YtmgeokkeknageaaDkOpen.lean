/-
  Layer 5: what the laws are handed, read out of memory.
-/
import Derived.Test.YtmgeokkeknageaaDkPair
import Derived.Test.YtmgeokkeknageaaLawCard
set_option linter.unusedVariables false
set_option linter.unusedSimpArgs false
namespace Go.Proofs.Ytmgeokkeknageaa
open Go.ChangeShapes Go.WideShapes Go.ChangeAt Go.RowKit

instance : Inhabited HC := ⟨⟨0, 0, 0, [], .bool false⟩⟩
theorem five_parts (l : List Value) (h : l.length = 68) : l = (l.drop 0).take 1 ++ ((l.drop 1).take 1 ++ ((l.drop 2).take 1 ++ ((l.drop 3).take 64 ++ (l.drop 67).take 1))) := by
  have e : ∀ (a n : Nat), (l.drop a).take n ++ l.drop (a + n) = l.drop a := fun a n => by rw [← List.drop_drop]; exact List.take_append_drop n (l.drop a)
  have h5 : (l.drop 67).take 1 = l.drop 67 := List.take_of_length_le (by simp; omega)
  rw [h5, e 3 64, e 2 1, e 1 1, e 0 1]
  rfl
theorem bytes_of_trod {H : Type} {enc : TypeId × Value → H} {W : World} {cs : List Value} {fuel : Nat} {x : DataW H × List MemPlace}
    (hf : DataW.trod enc Try.prog W 0 (fun _ => true) true fuel 29 cs = some x) : ∃ S : List Int, cs = bys S ∧ S.length = 64 := by
  obtain ⟨xs, m, _, _, hl, hxl, hel⟩ := DataW.trod_array Try.underlying29 hf
  have hlen : cs.length = 64 := hl.trans (show Try.prog.cellsOf 29 = 64 by kernel_rfl)
  have e1 : Try.prog.cellsOf 5 = 1 := by kernel_rfl
  obtain ⟨F, hF⟩ := Go.Deep.choose_lt (α := Int) (n := 64) (p := fun i z => cs[i]? = some (.int .u8 z)) (fun i hi => by
    have h := hel i hi
    rw [List.getElem?_eq_getElem (by omega), e1, Nat.mul_one] at h
    obtain ⟨z, h1, _⟩ := DataW.trod_int Try.underlying5 h
    refine ⟨z, ?_⟩
    have := congrArg (·[0]?) h1
    simpa [List.getElem?_take, List.getElem?_drop] using this)
  refine ⟨(List.range 64).map F, ?_, by simp⟩
  apply List.ext_getElem?
  intro i
  by_cases hi : i < 64
  · rw [hF i hi]
    simp [bys, b8, hi]
  · rw [List.getElem?_eq_none (by omega), List.getElem?_eq_none (by simp [bys]; omega)]
set_option maxRecDepth 100000 in
theorem call_of_trod {H : Type} {enc : TypeId × Value → H} {W : World} {cs : List Value} {fuel : Nat} {x : DataW H × List MemPlace}
    (hf : DataW.trod enc Try.prog W 0 (fun _ => true) true fuel 31 cs = some x) : ∃ c : HC, cs = c.cells ∧ c.sec.length = 64 ∧ c.keep.oneCell' = true := by
  obtain ⟨xs, m, _, _, hl, hxl, hel⟩ := DataW.trod_struct Try.underlying31 hf
  have hlen : cs.length = 68 := hl.trans (show Try.prog.cellsOf 31 = 68 by kernel_rfl)
  have e3 : Try.prog.cellsOf 3 = 1 := by kernel_rfl
  have e64 : Try.prog.cellsOf 29 = 64 := by kernel_rfl
  have es : Try.prog.cellsOf 23 = 1 := by kernel_rfl
  have hx5 : xs.length = 5 := hxl
  have h0 : DataW.trod enc Try.prog W 0 (fun _ => true) true m 3 ((cs.drop 0).take (Try.prog.cellsOf 3)) = xs[0]? := hel 0 _ rfl
  have h1 : DataW.trod enc Try.prog W 0 (fun _ => true) true m 3 ((cs.drop 1).take (Try.prog.cellsOf 3)) = xs[1]? := hel 1 _ rfl
  have h2 : DataW.trod enc Try.prog W 0 (fun _ => true) true m 3 ((cs.drop 2).take (Try.prog.cellsOf 3)) = xs[2]? := hel 2 _ rfl
  have h3 : DataW.trod enc Try.prog W 0 (fun _ => true) true m 29 ((cs.drop 3).take (Try.prog.cellsOf 29)) = xs[3]? := hel 3 _ rfl
  have h4 : DataW.trod enc Try.prog W 0 (fun _ => true) true m 23 ((cs.drop 67).take (Try.prog.cellsOf 23)) = xs[4]? := hel 4 _ rfl
  rw [List.getElem?_eq_getElem (by omega)] at h0 h1 h2 h3 h4
  rw [e3] at h0 h1 h2
  rw [e64] at h3
  rw [es] at h4
  obtain ⟨n0, q0, _⟩ := DataW.trod_int Try.underlying3 h0
  obtain ⟨n1, q1, _⟩ := DataW.trod_int Try.underlying3 h1
  obtain ⟨n2, q2, _⟩ := DataW.trod_int Try.underlying3 h2
  obtain ⟨S, q3, hS⟩ := bytes_of_trod h3
  obtain ⟨v, q4, hv⟩ : ∃ v : Value, (cs.drop 67).take 1 = [v] ∧ v.oneCell' = true := by
    rcases DataW.trod_slice Try.underlying23 h4 with ⟨q, _⟩ | ⟨a, len, cap, _, _, _, _, q, _⟩
    · exact ⟨_, q, rfl⟩
    · exact ⟨_, q, rfl⟩
  refine ⟨⟨n0, n1, n2, S, v⟩, ?_, hS, hv⟩
  rw [five_parts cs hlen, q0, q1, q2, q3, q4]
  rfl
set_option maxRecDepth 100000 in
/-- Calls that a law is handed. -/
theorem open_calls {H : Type} {enc : TypeId × Value → H} {W : World} {base : Nat} {v : Value} {d : DataW H} {ps : List MemPlace}
    (hv : Value.okWide Try.prog W .any base 22 v) (h : DataW.Trod enc Try.prog W 0 (fun _ => true) true 22 v d ps) :
    ∃ a c cs, v = .slice a (List.length cs) c ∧ CallsIn' W a cs := by
  obtain ⟨a0, len0, cap0, rfl⟩ := okWide_slice Try.underlying22 hv
  obtain ⟨fuel, hf⟩ := h
  have hf' : DataW.trod enc Try.prog W 0 (fun _ => true) true fuel 22 [.slice a0 len0 cap0] = some (d, ps) := hf
  rcases Go.Deep.open_slice Try.underlying22 hf' with ⟨hcs, hx⟩ | ⟨a, len, cap, m, n, D, Pl, hcs, _, hl, hm, hmm, hx, hel⟩
  · simp only [List.cons.injEq, and_true, Value.slice.injEq] at hcs
    obtain ⟨rfl, rfl, rfl⟩ := hcs
    exact ⟨none, 0, [], rfl, ⟨by simp, .inl rfl⟩⟩
  · simp only [List.cons.injEq, and_true, Value.slice.injEq] at hcs
    obtain ⟨rfl, rfl, rfl⟩ := hcs
    simp only [if_true] at hmm
    have e68 : Try.prog.cellsOf 31 = 68 := by kernel_rfl
    rw [e68] at hel
    have hch : ∀ i, i < len0 → ∃ p : HC, (∀ j u, p.cells[j]? = some u → W.cell? ((a.add (i * 68)).add j) = some u) ∧ p.sec.length = 64 ∧ p.keep.oneCell' = true := by
      intro i hi
      obtain ⟨cs', h1, h2⟩ := hel i (by omega)
      obtain ⟨_, h3, h4⟩ := World.cells?_some h1
      obtain ⟨p, rfl, g1, g2⟩ := call_of_trod h2
      refine ⟨p, fun j u hu => ?_, g1, g2⟩
      have hj : j < 68 := by
        have := (List.getElem?_eq_some_iff.1 hu).1
        rwa [p.cells_len g1] at this
      rw [h4 j hj]
      exact hu
    obtain ⟨f, hfs⟩ := Go.Deep.choose_lt hch
    have hlen : ((List.range len0).map f).length = len0 := by simp
    refine ⟨some a, cap0, (List.range len0).map f, by rw [hlen], ⟨fun p hp => ?_, ?_⟩⟩
    · obtain ⟨i, hi, rfl⟩ := List.mem_map.1 hp
      exact (hfs i (by simpa using hi)).2
    · rcases Nat.eq_zero_or_pos len0 with h0 | h0
      · subst h0
        exact .inl (by simp)
      · have hc0 := (hfs 0 h0).1 0 _ rfl
        have hsp := World.cell?_spot hc0
        obtain ⟨g, off, sp⟩ := a
        have hsp' : sp = none := by simpa [Addr.add] using hsp
        subst hsp'
        refine .inr ⟨g, off, rfl, fun k hk j u hu => ?_⟩
        rw [hlen] at hk
        have e : ((List.range len0).map f).getD k ⟨0, 0, 0, [], undef⟩ = f k := by
          rw [List.getD_eq_getElem?_getD, List.getElem?_map, List.getElem?_range hk]
          rfl
        rw [e] at hu
        have h := (hfs k hk).1 j u hu
        rw [Go.Deep.add_add] at h
        rwa [show (⟨g, off + k * 68 + j, none⟩ : Addr) = (⟨g, off, none⟩ : Addr).add (k * 68 + j) by unfold Addr.add; split <;> simp_all; omega]
/-- Truths that a law is handed. -/
theorem open_truths {H : Type} {enc : TypeId × Value → H} {W : World} {base : Nat} {v : Value} {d : DataW H} {ps : List MemPlace}
    (hv : Value.okWide Try.prog W .any base 23 v) (h : DataW.Trod enc Try.prog W 0 (fun _ => true) true 23 v d ps) :
    ∃ a c ks, v = .slice a (List.length ks) c ∧ Truths W a ks := by
  obtain ⟨a0, len0, cap0, rfl⟩ := okWide_slice Try.underlying23 hv
  obtain ⟨fuel, hf⟩ := h
  have hf' : DataW.trod enc Try.prog W 0 (fun _ => true) true fuel 23 [.slice a0 len0 cap0] = some (d, ps) := hf
  rcases Go.Deep.open_bools Try.underlying23 Try.underlying4 (show Try.prog.cellsOf 4 = 1 by kernel_rfl) hf' with ⟨hcs, hx⟩ | ⟨a, len, cap, B, hcs, _, hl, hm, hx, hel⟩
  · simp only [List.cons.injEq, and_true, Value.slice.injEq] at hcs
    obtain ⟨rfl, rfl, rfl⟩ := hcs
    exact ⟨none, 0, [], rfl, .inl rfl⟩
  · simp only [List.cons.injEq, and_true, Value.slice.injEq] at hcs
    obtain ⟨rfl, rfl, rfl⟩ := hcs
    refine ⟨some a, cap0, (List.range len0).map B, by simp, ?_⟩
    rcases Nat.eq_zero_or_pos len0 with h0 | h0
    · subst h0
      exact .inl (by simp)
    · have hc0 := hel 0 (by omega)
      have hsp := World.cell?_spot hc0
      obtain ⟨g, off, sp⟩ := a
      have hsp' : sp = none := by simpa [Addr.add] using hsp
      subst hsp'
      refine .inr ⟨g, off, rfl, fun k b hb => ?_⟩
      rw [List.getElem?_map] at hb
      obtain ⟨i, hi, rfl⟩ := Option.map_eq_some_iff.1 hb
      obtain ⟨hi1, hi2⟩ := List.getElem?_eq_some_iff.1 hi
      simp at hi1 hi2
      subst hi2
      have h := hel k (by omega)
      rwa [show (⟨g, off + k, none⟩ : Addr) = (⟨g, off, none⟩ : Addr).add k by unfold Addr.add; split <;> simp_all]
end Go.Proofs.Ytmgeokkeknageaa
