/-
  Layer 9: maps from int, by their entries in order.
-/
import Derived.Test.YtmiocohlklnglaaDoorRegCut
import Derived.Test.YtmiocohlklnglaaDoorTmPure
import Derived.WideKeyElems
import Derived.Carry
set_option linter.unusedVariables false
set_option linter.unusedSimpArgs false
namespace Go.Proofs.YtmiocohlklnglaaDoor
open Go.RowKit Go.MapKept Go.ChangeMaps Tm

/-- Block b is a map with these entries. -/
def IM (w : World) (b : Nat) (M : List (Int × Value)) : Prop :=
  ∃ es clock, w.heap[b]? = some (.map es clock) ∧ es.toList.map (fun e => (e.key, e.val)) = M.map (fun e => (Value.int .i64 e.1, e.2))
def updI : List (Int × Value) → Int → Value → List (Int × Value)
  | [], x, v => [(x, v)]
  | e :: M, x, v => if x = e.1 then (x, v) :: M else e :: updI M x v
def spotI : List (Int × Value) → Int → Nat → Option (Nat × Value)
  | [], _, _ => none
  | e :: M, x, i => if x = e.1 then some (i, e.2) else spotI M x (i + 1)
theorem spotI_look : ∀ (M : List (Int × Value)) (x : Int) (i : Nat), (spotI M x i).map (·.2) = lookL M x
  | [], _, _ => rfl
  | e :: M, x, i => by
    unfold spotI lookL
    split
    · rfl
    · exact spotI_look M x (i + 1)
theorem spotI_at : ∀ (M : List (Int × Value)) (x : Int) (i j : Nat) (v : Value), spotI M x i = some (j, v) → ∃ k, j = i + k ∧ k < M.length ∧ (M[k]?.map (·.1)) = some x ∧ ∀ u, updI M x u = M.modify k (fun _ => (x, u))
  | [], _, _, _, _, h => by simp [spotI] at h
  | e :: M, x, i, j, v, h => by
    unfold spotI at h
    split at h
    · rename_i hp
      simp at h
      refine ⟨0, by omega, by simp, by simp [hp], fun d => ?_⟩
      unfold updI
      rw [if_pos hp]
      rfl
    · rename_i hp
      obtain ⟨k, h1, h2, h3, h4⟩ := spotI_at M x (i + 1) j v h
      refine ⟨k + 1, by omega, by simp; omega, by simpa using h3, fun d => ?_⟩
      unfold updI
      rw [if_neg hp, h4 d]
      rfl
theorem spotI_none : ∀ (M : List (Int × Value)) (x : Int) (i : Nat), spotI M x i = none → ∀ u, updI M x u = M ++ [(x, u)]
  | [], _, _, _, d => rfl
  | e :: M, x, i, h, d => by
    unfold spotI at h
    split at h
    · cases h
    · rename_i hp
      unfold updI
      rw [if_neg hp, spotI_none M x (i + 1) h d]
      rfl
theorem lookL_upd : ∀ (M : List (Int × Value)) (x : Int) (u : Value), lookL (updI M x u) x = some u
  | [], x, u => by simp [updI, lookL]
  | e :: M, x, u => by
    unfold updI
    split
    · simp [lookL]
    · rename_i h
      rw [lookL, if_neg h, lookL_upd M]
theorem lookL_other : ∀ (M : List (Int × Value)) (x y : Int) (u : Value), y ≠ x → lookL (updI M x u) y = lookL M y
  | [], x, y, u, h => by simp [updI, lookL, h]
  | e :: M, x, y, u, h => by
    unfold updI
    split
    · rename_i h'
      subst h'
      simp [lookL, h]
    · simp only [lookL, lookL_other M x y u h]
theorem findNow_im (x : Int) : ∀ (es : List MapEntry) (M : List (Int × Value)) (i : Nat), es.map (fun e => (e.key, e.val)) = M.map (fun e => (Value.int .i64 e.1, e.2)) →
    Instr.findNow (.int .i64) (.int .i64 x) es i = some (spotI M x i)
  | [], [], _, _ => rfl
  | [], _ :: _, i, h => by simp at h
  | _ :: _, [], i, h => by simp at h
  | e :: es, m :: M, i, h => by
    simp only [List.map_cons, List.cons.injEq, Prod.mk.injEq] at h
    obtain ⟨⟨h1, h2⟩, h3⟩ := h
    have ih := findNow_im x es M (i + 1) h3
    unfold spotI
    by_cases hx : x = m.1
    · rw [if_pos hx]
      simp [Instr.findNow, h1, h2, Instr.sameNow, hx]
    · rw [if_neg hx]
      have hb : (x == m.1) = false := by simpa using hx
      simp only [Instr.findNow, h1, Instr.sameNow, if_true, hb]
      exact ih
section
variable {P : Program} {w w' : World} {t k e : TypeId} {b : Nat} {M : List (Int × Value)}
theorem IM.past (h : IM w b M) (hb : w'.heap[b]? = w.heap[b]?) : IM w' b M := by
  obtain ⟨es, clock, h1, h2⟩ := h
  exact ⟨es, clock, hb.trans h1, h2⟩
theorem IM.lt (h : IM w b M) : b < w.heap.size := by
  obtain ⟨es, clock, h1, h2⟩ := h
  exact (Array.getElem?_eq_some_iff.1 h1).1
theorem IM.ne {g : Nat} {cs : Array Value} {ty : TypeId} {m : Nat × Nat} (h : IM w b M) (hg : w.heap[g]? = some (.cells cs ty m)) : b ≠ g := by
  rintro rfl
  obtain ⟨es, clock, h1, h2⟩ := h
  rw [h1] at hg
  cases hg
theorem IM.chg {S : Nat → Prop} (h : IM w b M) (hc : Chg S w w') (hS : ¬ S b) : IM w' b M := h.past (hc.block b h.lt hS)
theorem IM.made (w : World) : IM (w.alloc (.map #[] 0)) w.heap.size [] := ⟨#[], 0, heap_alloc_last w _, rfl⟩
theorem run_checkKey_i64 (w : World) (em : Bool) (n : Nat) (hk : P.underlying k = some (.int .i64)) (x : Int) : (Instr.checkKey em (n + 1) k (.int .i64 x)).run P w = .ok () w := by
  unfold Instr.checkKey
  simp [run_underlying hk]
theorem run_look (h : IM w b M) (ht : P.underlying t = some (.map k e)) (hk : P.underlying k = some (.int .i64)) {z : Value} (hz : (zeroValue e).run P w = .ok z w) (x : Int) :
    (Instr.lookup t (.map (some b)) (.int .i64 x) false).run P w = .ok ((lookL M x).getD z) w := by
  obtain ⟨es, clock, h1, h2⟩ := h
  have hc := fun em => run_checkKey_i64 (P := P) w em 9999 hk x
  have hf := findNow_im x es.toList M 0 h2
  have hl := spotI_look M x 0
  cases hs : spotI M x 0 with
  | none =>
    rw [hs] at hf hl
    have : lookL M x = none := by simpa using hl.symm
    simp [Instr.lookup, run_underlying ht, MapKept.run_getObj_map h1, hc, Instr.findKey, run_underlying hk, hf, this, hz]
  | some p =>
    obtain ⟨j, v⟩ := p
    rw [hs] at hf hl
    have : lookL M x = some v := by simpa using hl.symm
    simp [Instr.lookup, run_underlying ht, MapKept.run_getObj_map h1, hc, Instr.findKey, run_underlying hk, hf, this]
theorem run_look2 (h : IM w b M) (ht : P.underlying t = some (.map k e)) (hk : P.underlying k = some (.int .i64)) {z : Value} (hz : (zeroValue e).run P w = .ok z w) (x : Int) :
    (Instr.lookup t (.map (some b)) (.int .i64 x) true).run P w = .ok (.tuple #[(lookL M x).getD z, .bool (lookL M x).isSome]) w := by
  obtain ⟨es, clock, h1, h2⟩ := h
  have hc := fun em => run_checkKey_i64 (P := P) w em 9999 hk x
  have hf := findNow_im x es.toList M 0 h2
  have hl := spotI_look M x 0
  cases hs : spotI M x 0 with
  | none =>
    rw [hs] at hf hl
    have : lookL M x = none := by simpa using hl.symm
    simp [Instr.lookup, run_underlying ht, MapKept.run_getObj_map h1, hc, Instr.findKey, run_underlying hk, hf, this, hz]
  | some p =>
    obtain ⟨j, v⟩ := p
    rw [hs] at hf hl
    have : lookL M x = some v := by simpa using hl.symm
    simp [Instr.lookup, run_underlying ht, MapKept.run_getObj_map h1, hc, Instr.findKey, run_underlying hk, hf, this]
theorem run_upd (h : IM w b M) (ht : P.underlying t = some (.map k e)) (hk : P.underlying k = some (.int .i64)) (x : Int) (u : Value) :
    ∃ w', (Instr.mapUpdate t (.map (some b)) (.int .i64 x) u).run P w = .ok () w' ∧ IM w' b (updI M x u) ∧ Chg (fun j => j = b) w w' := by
  obtain ⟨es, clock, h1, h2⟩ := h
  have hlt := (Array.getElem?_eq_some_iff.1 h1).1
  have hc := fun em => run_checkKey_i64 (P := P) w em 9999 hk x
  have hf := findNow_im x es.toList M 0 h2
  have hset : ∀ o, Chg (fun j => j = b) w (setBlock w b o) := fun o => ⟨rfl, rfl, rfl, by simp [setBlock], fun j _ hj => by
    show (w.heap.setIfInBounds b o)[j]? = _
    rw [Array.getElem?_setIfInBounds, if_neg (fun e => hj e.symm)]⟩
  have hlen : es.toList.length = M.length := by have := congrArg List.length h2; simpa using this
  cases hs : spotI M x 0 with
  | none =>
    rw [hs] at hf
    refine ⟨setBlock w b (.map (es.push { key := .int .i64 x, val := u, born := clock }) (clock + 1)), ?_, ⟨_, _, by simp [setBlock, hlt]; exact ⟨rfl, rfl⟩, ?_⟩, hset _⟩
    · simp [Instr.mapUpdate, run_underlying ht, MapKept.run_getObj_map h1, hc, Instr.findKey, run_underlying hk, hf, MapKept.run_setObj_map _ h1, setBlock]
    · rw [spotI_none M x 0 hs, Array.toList_push, List.map_append, h2, List.map_append]
      rfl
  | some p =>
    obtain ⟨j, v⟩ := p
    rw [hs] at hf
    obtain ⟨i, hji, hil, him, hup⟩ := spotI_at M x 0 j v hs
    have hj : j = i := by omega
    subst hj
    have hkey : ((es[j]?).map (·.key)) = some (.int .i64 x) := by
      have := congrArg (fun l => l[j]?.map (·.1)) h2
      simp only [List.getElem?_map, Array.getElem?_toList, Option.map_map] at this
      rw [show (fun e : MapEntry => e.key) = (fun x : Value × Value => x.1) ∘ (fun e : MapEntry => (e.key, e.val)) from rfl, this]
      cases hq : M[j]? with
      | none => rw [hq] at him; simp at him
      | some y => rw [hq] at him; simp at him; simp [him]
    refine ⟨setBlock w b (.map (es.modify j fun e => { e with key := .int .i64 x, val := u }) clock), ?_, ⟨_, _, by simp [setBlock, hlt]; exact ⟨rfl, rfl⟩, ?_⟩, hset _⟩
    · have hkk : ((es[j]?).map (·.key)).getD (.int .i64 x) = .int .i64 x := by rw [hkey]; rfl
      simp [Instr.mapUpdate, run_underlying ht, MapKept.run_getObj_map h1, hc, Instr.findKey, run_underlying hk, hf, hkk, Instr.keyThatStays, Instr.sameBits, MapKept.run_setObj_map _ h1, setBlock]
    · rw [hup u]
      apply List.ext_getElem?
      intro i
      have hi := congrArg (fun l => l[i]?) h2
      simp only [List.getElem?_map, Array.getElem?_toList] at hi
      simp only [List.getElem?_map, Array.getElem?_toList, Array.getElem?_modify, List.getElem?_modify]
      by_cases hij : j = i
      · subst hij
        simp only [if_true]
        have hlt2 : j < es.size := by have : es.toList.length = es.size := by simp
                                      omega
        rw [Array.getElem?_eq_getElem hlt2, List.getElem?_eq_getElem hil]
        simp
      · simp only [if_neg hij]
        simpa [hij] using hi
/-- A number more, in a plain region. -/
theorem wpList_upd {ops : Array Oper} {Q : Exit → Act → World → Prop} {a : Act} {rest : List Oper} {o : Oper} (hg : o.guard = none) (m x v : Operand) (ho : o.op = .mapUpdate t m x v ∨ o.op = .insert t m x v)
    (ht : P.underlying t = some (.map k e)) (hk : P.underlying k = some (.int .i64)) (b : Nat) (hm : a.eval m = .map (some b)) (y : Int) (hx : a.eval x = .int .i64 y) (u : Value) (hv : a.eval v = u) (M : List (Int × Value)) (hs : IM w b M)
    (h : ∀ w', IM w' b (updI M y u) → Chg (fun j => j = b) w w' → wpList P ops Q rest (a.put o.dst undef) w') : wpList P ops Q (o :: rest) a w := by
  refine wpList_plain hg fun K' hK' => ?_
  obtain ⟨w', hrun, r1, r2⟩ := run_upd hs ht hk y u
  unfold Oper.wp
  rcases ho with ho | ho <;>
  · simp [execOp, ho, hm, hx, hv, hrun, Result.andThen]
    exact hK' _ _ (h w' r1 r2)
/-- A question, in a plain region. -/
theorem wpList_look {ops : Array Oper} {Q : Exit → Act → World → Prop} {a : Act} {rest : List Oper} {o : Oper} (hg : o.guard = none) (m x : Operand) (ho : o.op = .lookup t m x false)
    (ht : P.underlying t = some (.map k e)) (hk : P.underlying k = some (.int .i64)) (z : Value) (hz : (zeroValue e).run P w = .ok z w) (b : Nat) (hm : a.eval m = .map (some b)) (y : Int) (hx : a.eval x = .int .i64 y) (M : List (Int × Value)) (hs : IM w b M)
    (h : wpList P ops Q rest (a.put o.dst ((lookL M y).getD z)) w) : wpList P ops Q (o :: rest) a w := by
  refine wpList_plain hg fun K' hK' => ?_
  have hrun := run_look hs ht hk hz y
  unfold Oper.wp
  simp [execOp, ho, hm, hx, hrun, Result.andThen]
  exact hK' _ _ h
theorem wpList_look2 {ops : Array Oper} {Q : Exit → Act → World → Prop} {a : Act} {rest : List Oper} {o : Oper} (hg : o.guard = none) (m x : Operand) (ho : o.op = .lookup t m x true)
    (ht : P.underlying t = some (.map k e)) (hk : P.underlying k = some (.int .i64)) (z : Value) (hz : (zeroValue e).run P w = .ok z w) (b : Nat) (hm : a.eval m = .map (some b)) (y : Int) (hx : a.eval x = .int .i64 y) (M : List (Int × Value)) (hs : IM w b M)
    (h : wpList P ops Q rest (a.put o.dst (.tuple #[(lookL M y).getD z, .bool (lookL M y).isSome])) w) : wpList P ops Q (o :: rest) a w := by
  refine wpList_plain hg fun K' hK' => ?_
  have hrun := run_look2 hs ht hk hz y
  unfold Oper.wp
  simp [execOp, ho, hm, hx, hrun, Result.andThen]
  exact hK' _ _ h
/-- The same as an operation's answer. -/
theorem run_look_op {o : Oper} {a : Act} (m x : Operand) (ho : o.op = .lookup t m x false) (ht : P.underlying t = some (.map k e)) (hk : P.underlying k = some (.int .i64)) (z : Value) (hz : (zeroValue e).run P w = .ok z w)
    (b : Nat) (hm : a.eval m = .map (some b)) (y : Int) (hx : a.eval x = .int .i64 y) (M : List (Int × Value)) (hs : IM w b M) (v : Value) (hv : (lookL M y).getD z = v) : (execOp a.eval o).run P w = .ok (.value v) w := by
  have := run_look hs ht hk hz y
  rw [hv] at this
  unfold execOp
  simp [ho, hm, hx, this]
theorem run_look2_op {o : Oper} {a : Act} (m x : Operand) (ho : o.op = .lookup t m x true) (ht : P.underlying t = some (.map k e)) (hk : P.underlying k = some (.int .i64)) (z : Value) (hz : (zeroValue e).run P w = .ok z w)
    (b : Nat) (hm : a.eval m = .map (some b)) (y : Int) (hx : a.eval x = .int .i64 y) (M : List (Int × Value)) (hs : IM w b M) (v : Value) (q : Bool) (hv : (lookL M y).getD z = v) (hq : (lookL M y).isSome = q) : (execOp a.eval o).run P w = .ok (.value (.tuple #[v, .bool q])) w := by
  have := run_look2 hs ht hk hz y
  rw [hv, hq] at this
  unfold execOp
  simp [ho, hm, hx, this]
end
end Go.Proofs.YtmiocohlklnglaaDoor
