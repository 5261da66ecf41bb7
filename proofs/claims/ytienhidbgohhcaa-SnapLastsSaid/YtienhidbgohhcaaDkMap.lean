/-
  A set of numbers that a law makes: a map from int to bool, whose values are all true.
-/
import Derived.Test.YtienhidbgohhcaaDkPair
import Derived.WideKeyElems
import Derived.Carry
set_option linter.unusedVariables false
set_option linter.unusedSimpArgs false
namespace Go.Proofs.Ytienhidbgohhcaa
open Go.RowKit Go.MapKept Go.ChangeMaps

def keysOf (es : List MapEntry) : List Value := es.map (·.key)
/-- Block b is a set of these numbers. -/
def IntSet (w : World) (b : Nat) (ks : List Int) : Prop :=
  ∃ es clock, w.heap[b]? = some (.map es clock) ∧ (∀ e ∈ es.toList, ∃ y, e.key = .int .i64 y ∧ e.val = .bool true) ∧ ∀ x : Int, (Value.int .i64 x ∈ keysOf es.toList) ↔ x ∈ ks
theorem IntSet.past {w w' : World} {b : Nat} {ks : List Int} (h : IntSet w b ks) (hb : w'.heap[b]? = w.heap[b]?) : IntSet w' b ks := by
  obtain ⟨es, clock, h1, h2⟩ := h
  exact ⟨es, clock, hb.trans h1, h2⟩
theorem IntSet.lt {w : World} {b : Nat} {ks : List Int} (h : IntSet w b ks) : b < w.heap.size := by
  obtain ⟨es, clock, h1, h2⟩ := h
  exact (Array.getElem?_eq_some_iff.1 h1).1
theorem IntSet.made (w : World) : IntSet (w.alloc (.map #[] 0)) w.heap.size [] :=
  ⟨#[], 0, heap_alloc_last w _, by simp, by simp [keysOf]⟩
theorem findNow_no (x : Int) : ∀ (es : List MapEntry) (i : Nat), (∀ e ∈ es, ∃ y, e.key = .int .i64 y ∧ e.val = .bool true) → ¬ (Value.int .i64 x ∈ keysOf es) →
    Instr.findNow (.int .i64) (.int .i64 x) es i = some none
  | [], _, _, _ => rfl
  | e :: es, i, h, hn => by
    obtain ⟨y, hy, _⟩ := h e (by simp)
    have hxy : (x == y) = false := by
      simp only [keysOf, List.map_cons, List.mem_cons, hy, Value.int.injEq, true_and] at hn
      simp; omega
    simp only [Instr.findNow, hy, Instr.sameNow, if_true, hxy]
    exact findNow_no x es (i + 1) (fun e he => h e (by simp [he])) (fun hk => hn (by simp only [keysOf, List.map_cons, List.mem_cons]; exact .inr hk))
theorem findNow_yes (x : Int) : ∀ (es : List MapEntry) (i : Nat), (∀ e ∈ es, ∃ y, e.key = .int .i64 y ∧ e.val = .bool true) → Value.int .i64 x ∈ keysOf es →
    ∃ j, j < es.length ∧ (es[j]?.map (·.key)) = some (.int .i64 x) ∧ Instr.findNow (.int .i64) (.int .i64 x) es i = some (some (i + j, .bool true))
  | [], _, _, h => by simp [keysOf] at h
  | e :: es, i, h, hm => by
    obtain ⟨y, hy, hv⟩ := h e (by simp)
    by_cases hxy : x = y
    · subst hxy
      exact ⟨0, by simp, by simp [hy], by simp [Instr.findNow, hy, Instr.sameNow, hv]⟩
    · have hk : Value.int .i64 x ∈ keysOf es := by
        simp only [keysOf, List.map_cons, List.mem_cons, hy, Value.int.injEq, true_and] at hm
        rcases hm with hm | hm
        · exact absurd hm hxy
        · exact hm
      obtain ⟨j, h1, h2, h3⟩ := findNow_yes x es (i + 1) (fun e he => h e (by simp [he])) hk
      refine ⟨j + 1, by simp; omega, by simpa using h2, ?_⟩
      have hb : (x == y) = false := by simpa using hxy
      simp only [Instr.findNow, hy, Instr.sameNow, if_true, hb]
      rw [h3]
      congr 3
      omega
section
variable {P : Program} {t k e : TypeId}
theorem run_checkKey_int (w : World) (em : Bool) (n : Nat) (hk : P.underlying k = some (.int .i64)) (x : Int) : (Instr.checkKey em (n + 1) k (.int .i64 x)).run P w = .ok () w := by
  unfold Instr.checkKey
  simp [run_underlying hk]
theorem run_set_lookup {w : World} {b : Nat} {ks : List Int} (h : IntSet w b ks) (ht : P.underlying t = some (.map k e)) (hk : P.underlying k = some (.int .i64)) (hz : (zeroValue e).run P w = .ok (.bool false) w) (x : Int) :
    (Instr.lookup t (.map (some b)) (.int .i64 x) false).run P w = .ok (.bool (decide (x ∈ ks))) w := by
  obtain ⟨es, clock, h1, h2, h3⟩ := h
  have hc := fun em => run_checkKey_int (P := P) w em 9999 hk x
  by_cases hx : x ∈ ks
  · obtain ⟨j, _, _, hj⟩ := findNow_yes x es.toList 0 h2 ((h3 x).2 hx)
    simp [Instr.lookup, run_underlying ht, MapKept.run_getObj_map h1, hc, Instr.findKey, run_underlying hk, hj, hx]
  · have hj := findNow_no x es.toList 0 h2 (fun e => hx ((h3 x).1 e))
    simp [Instr.lookup, run_underlying ht, MapKept.run_getObj_map h1, hc, Instr.findKey, run_underlying hk, hj, hx, hz]
theorem run_set_put {w : World} {b : Nat} {ks : List Int} (h : IntSet w b ks) (ht : P.underlying t = some (.map k e)) (hk : P.underlying k = some (.int .i64)) (x : Int) :
    ∃ w', (Instr.mapUpdate t (.map (some b)) (.int .i64 x) (.bool true)).run P w = .ok () w' ∧ IntSet w' b (x :: ks) ∧ Chg (fun j => j = b) w w' := by
  obtain ⟨es, clock, h1, h2, h3⟩ := h
  have hlt := (Array.getElem?_eq_some_iff.1 h1).1
  have hc := fun em => run_checkKey_int (P := P) w em 9999 hk x
  have hset : ∀ o, Chg (fun j => j = b) w (setBlock w b o) := fun o => ⟨rfl, rfl, rfl, by simp [setBlock], fun j _ hj => by
    show (w.heap.setIfInBounds b o)[j]? = _
    rw [Array.getElem?_setIfInBounds, if_neg (fun e => hj e.symm)]⟩
  by_cases hx : x ∈ ks
  · obtain ⟨j, hjl, hjk, hj⟩ := findNow_yes x es.toList 0 h2 ((h3 x).2 hx)
    rw [Nat.zero_add] at hj
    refine ⟨setBlock w b (.map (es.modify j fun e => { e with key := .int .i64 x, val := .bool true }) clock), ?_, ⟨es.modify j fun e => { e with key := .int .i64 x, val := .bool true }, clock, by simp [setBlock, hlt], ?_, ?_⟩, hset _⟩
    · have hkk : ((es[j]?).map (·.key)).getD (.int .i64 x) = .int .i64 x := by
        rw [show es[j]? = es.toList[j]? by simp, hjk]
        rfl
      simp [Instr.mapUpdate, run_underlying ht, MapKept.run_getObj_map h1, hc, Instr.findKey, run_underlying hk, hj, hkk, Instr.keyThatStays, Instr.sameBits, MapKept.run_setObj_map _ h1, setBlock]
    · intro e he
      obtain ⟨i, hi⟩ := List.mem_iff_getElem?.1 he
      rw [Array.getElem?_toList, Array.getElem?_modify] at hi
      split at hi
      · obtain ⟨e0, he0, rfl⟩ := Option.map_eq_some_iff.1 hi
        exact ⟨x, rfl, rfl⟩
      · exact h2 e (List.mem_iff_getElem?.2 ⟨i, by rw [Array.getElem?_toList]; exact hi⟩)
    · have hk2 : keysOf (es.modify j fun e => { e with key := .int .i64 x, val := .bool true }).toList = keysOf es.toList := by
        apply List.ext_getElem?
        intro i
        simp only [keysOf, List.getElem?_map, Array.getElem?_toList, Array.getElem?_modify]
        split
        · rename_i hij
          subst hij
          rw [Array.getElem?_toList] at hjk
          rw [hjk]
          cases hq : es[j]? with
          | none => rw [hq] at hjk; cases hjk
          | some q => rfl
        · rfl
      intro y
      rw [hk2, h3 y]
      simp only [List.mem_cons]
      exact ⟨fun h => .inr h, fun h => by rcases h with rfl | h; exact hx; exact h⟩
  · have hj := findNow_no x es.toList 0 h2 (fun e => hx ((h3 x).1 e))
    refine ⟨setBlock w b (.map (es.push { key := .int .i64 x, val := .bool true, born := clock }) (clock + 1)), ?_, ⟨es.push { key := .int .i64 x, val := .bool true, born := clock }, clock + 1, by simp [setBlock, hlt], ?_, ?_⟩, hset _⟩
    · simp [Instr.mapUpdate, run_underlying ht, MapKept.run_getObj_map h1, hc, Instr.findKey, run_underlying hk, hj, MapKept.run_setObj_map _ h1, setBlock]
    · intro e he
      rw [Array.toList_push, List.mem_append] at he
      rcases he with he | he
      · exact h2 e he
      · simp at he; subst he; exact ⟨x, rfl, rfl⟩
    · intro y
      have := h3 y
      rw [Array.toList_push]
      simp only [keysOf, List.map_append, List.map_cons, List.map_nil, List.mem_append, List.mem_singleton, Value.int.injEq, true_and, List.mem_cons, List.not_mem_nil, or_false] at this ⊢
      rw [this]
      exact Or.comm
/-- A number more, in a plain region. -/
theorem wpList_set_put {ops : Array Oper} {Q : Exit → Act → World → Prop} {a : Act} {w : World} {rest : List Oper} {o : Oper} (hg : o.guard = none) (m x v : Operand) (ho : o.op = .mapUpdate t m x v)
    (ht : P.underlying t = some (.map k e)) (hk : P.underlying k = some (.int .i64)) (b : Nat) (hm : a.eval m = .map (some b)) (y : Int) (hx : a.eval x = .int .i64 y) (hv : a.eval v = .bool true) (ks : List Int) (hs : IntSet w b ks)
    (h : ∀ w', IntSet w' b (y :: ks) → Chg (fun j => j = b) w w' → wpList P ops Q rest (a.put o.dst undef) w') : wpList P ops Q (o :: rest) a w := by
  refine wpList_plain hg fun K' hK' => ?_
  obtain ⟨w', hrun, r1, r2⟩ := run_set_put hs ht hk y
  unfold Oper.wp
  simp [execOp, ho, hm, hx, hv, hrun, Result.andThen]
  exact hK' _ _ (h w' r1 r2)
/-- Is it there? -/
theorem run_lookup_op {o : Oper} {a : Act} {w : World} (m x : Operand) (ho : o.op = .lookup t m x false) (ht : P.underlying t = some (.map k e)) (hk : P.underlying k = some (.int .i64)) (hz : (zeroValue e).run P w = .ok (.bool false) w)
    (b : Nat) (hm : a.eval m = .map (some b)) (y : Int) (hx : a.eval x = .int .i64 y) (ks : List Int) (hs : IntSet w b ks) : (execOp a.eval o).run P w = .ok (.value (.bool (decide (y ∈ ks)))) w := by
  have := run_set_lookup hs ht hk hz y
  unfold execOp
  simp [ho, hm, hx, this]
theorem run_lookup_yes {o : Oper} {a : Act} {w : World} (m x : Operand) (ho : o.op = .lookup t m x false) (ht : P.underlying t = some (.map k e)) (hk : P.underlying k = some (.int .i64)) (hz : (zeroValue e).run P w = .ok (.bool false) w)
    (b : Nat) (hm : a.eval m = .map (some b)) (y : Int) (hx : a.eval x = .int .i64 y) (ks : List Int) (hs : IntSet w b ks) (hin : y ∈ ks) : (execOp a.eval o).run P w = .ok (.value (.bool true)) w := by
  have := run_lookup_op m x ho ht hk hz b hm y hx ks hs
  simpa [hin] using this
theorem run_lookup_no {o : Oper} {a : Act} {w : World} (m x : Operand) (ho : o.op = .lookup t m x false) (ht : P.underlying t = some (.map k e)) (hk : P.underlying k = some (.int .i64)) (hz : (zeroValue e).run P w = .ok (.bool false) w)
    (b : Nat) (hm : a.eval m = .map (some b)) (y : Int) (hx : a.eval x = .int .i64 y) (ks : List Int) (hs : IntSet w b ks) (hin : ¬ y ∈ ks) : (execOp a.eval o).run P w = .ok (.value (.bool false)) w := by
  have := run_lookup_op m x ho ht hk hz b hm y hx ks hs
  simpa [hin] using this
end
end Go.Proofs.Ytienhidbgohhcaa

