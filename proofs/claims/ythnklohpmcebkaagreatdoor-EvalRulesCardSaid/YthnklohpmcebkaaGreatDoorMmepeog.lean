/- By program out of: TmMap, TmMem, TmSmall, TmReg, TmSort, TmLin. -/
import Derived.Test.YthnklohpmcebkaaGreatDoorMllobde
import Derived.Test.YthnklohpmcebkaaGreatDoorMofflid
import Derived.WideKeyElems
import Derived.Carry
set_option linter.unusedVariables false
set_option linter.unusedSimpArgs false
namespace Go.Proofs.YthnklohpmcebkaaGreatDoor
open Go.RowKit Go.MapKept Go.ChangeMaps Tm
def IM (w : World) (b : Nat) (M : List (Int × Value)) : Prop :=
  ∃ es clock, w.heap[b]? = some (.map es clock) ∧ es.toList.map (fun e => (e.key, e.val)) = M.map (fun e => (Value.int .i64 e.1, e.2))
def updI : List (Int × Value) → Int → Value → List (Int × Value)
  | [], x, v => [(x, v)]
  | e :: M, x, v => if x = e.1 then (x, v) :: M else e :: updI M x v
def spotI : List (Int × Value) → Int → Nat → Option (Nat × Value)
  | [], _, _ => none
  | e :: M, x, i => if x = e.1 then some (i, e.2) else spotI M x (i + 1)
theorem spotI_look : ∀ (M : List (Int × Value)) (x : Int) (i : Nat), (spotI M x i).map (·.2) = lookL M x
  | [], _, _ => rfl
  | e :: M, x, i => by
    unfold spotI lookL
    split
    · rfl
    · exact spotI_look M x (i + 1)
theorem spotI_at : ∀ (M : List (Int × Value)) (x : Int) (i j : Nat) (v : Value), spotI M x i = some (j, v) → ∃ k, j = i + k ∧ k < M.length ∧ (M[k]?.map (·.1)) = some x ∧ ∀ u, updI M x u = M.modify k (fun _ => (x, u))
  | [], _, _, _, _, h => by simp [spotI] at h
  | e :: M, x, i, j, v, h => by
    unfold spotI at h
    split at h
    · rename_i hp
      simp at h
      refine ⟨0, by omega, by simp, by simp [hp], fun d => ?_⟩
      unfold updI
      rw [if_pos hp]
      rfl
    · rename_i hp
      obtain ⟨k, h1, h2, h3, h4⟩ := spotI_at M x (i + 1) j v h
      refine ⟨k + 1, by omega, by simp; omega, by simpa using h3, fun d => ?_⟩
      unfold updI
      rw [if_neg hp, h4 d]
      rfl
theorem spotI_none : ∀ (M : List (Int × Value)) (x : Int) (i : Nat), spotI M x i = none → ∀ u, updI M x u = M ++ [(x, u)]
  | [], _, _, _, d => rfl
  | e :: M, x, i, h, d => by
    unfold spotI at h
    split at h
    · cases h
    · rename_i hp
      unfold updI
      rw [if_neg hp, spotI_none M x (i + 1) h d]
      rfl
theorem findNow_im (x : Int) : ∀ (es : List MapEntry) (M : List (Int × Value)) (i : Nat), es.map (fun e => (e.key, e.val)) = M.map (fun e => (Value.int .i64 e.1, e.2)) →
    Instr.findNow (.int .i64) (.int .i64 x) es i = some (spotI M x i)
  | [], [], _, _ => rfl
  | [], _ :: _, i, h => by simp at h
  | _ :: _, [], i, h => by simp at h
  | e :: es, m :: M, i, h => by
    simp only [List.map_cons, List.cons.injEq, Prod.mk.injEq] at h
    obtain ⟨⟨h1, h2⟩, h3⟩ := h
    have ih := findNow_im x es M (i + 1) h3
    unfold spotI
    by_cases hx : x = m.1
    · rw [if_pos hx]
      simp [Instr.findNow, h1, h2, Instr.sameNow, hx]
    · rw [if_neg hx]
      have hb : (x == m.1) = false := by simpa using hx
      simp only [Instr.findNow, h1, Instr.sameNow, if_true, hb]
      exact ih
section
variable {P : Program} {w w' : World} {t k e : TypeId} {b : Nat} {M : List (Int × Value)}
theorem IM.past (h : IM w b M) (hb : w'.heap[b]? = w.heap[b]?) : IM w' b M := by
  obtain ⟨es, clock, h1, h2⟩ := h
  exact ⟨es, clock, hb.trans h1, h2⟩
theorem IM.lt (h : IM w b M) : b < w.heap.size := by
  obtain ⟨es, clock, h1, h2⟩ := h
  exact (Array.getElem?_eq_some_iff.1 h1).1
theorem IM.ne {g : Nat} {cs : Array Value} {ty : TypeId} {m : Nat × Nat} (h : IM w b M) (hg : w.heap[g]? = some (.cells cs ty m)) : b ≠ g := by
  rintro rfl
  obtain ⟨es, clock, h1, h2⟩ := h
  rw [h1] at hg
  cases hg
theorem IM.chg {S : Nat → Prop} (h : IM w b M) (hc : Chg S w w') (hS : ¬ S b) : IM w' b M := h.past (hc.block b h.lt hS)
theorem IM.made (w : World) : IM (w.alloc (.map #[] 0)) w.heap.size [] := ⟨#[], 0, heap_alloc_last w _, rfl⟩
theorem run_checkKey_i64 (w : World) (em : Bool) (n : Nat) (hk : P.underlying k = some (.int .i64)) (x : Int) : (Instr.checkKey em (n + 1) k (.int .i64 x)).run P w = .ok () w := by
  unfold Instr.checkKey
  simp [run_underlying hk]
theorem run_look (h : IM w b M) (ht : P.underlying t = some (.map k e)) (hk : P.underlying k = some (.int .i64)) {z : Value} (hz : (zeroValue e).run P w = .ok z w) (x : Int) :
    (Instr.lookup t (.map (some b)) (.int .i64 x) false).run P w = .ok ((lookL M x).getD z) w := by
  obtain ⟨es, clock, h1, h2⟩ := h
  have hc := fun em => run_checkKey_i64 (P := P) w em 9999 hk x
  have hf := findNow_im x es.toList M 0 h2
  have hl := spotI_look M x 0
  cases hs : spotI M x 0 with
  | none =>
    rw [hs] at hf hl
    have : lookL M x = none := by simpa using hl.symm
    simp [Instr.lookup, run_underlying ht, MapKept.run_getObj_map h1, hc, Instr.findKey, run_underlying hk, hf, this, hz]
  | some p =>
    obtain ⟨j, v⟩ := p
    rw [hs] at hf hl
    have : lookL M x = some v := by simpa using hl.symm
    simp [Instr.lookup, run_underlying ht, MapKept.run_getObj_map h1, hc, Instr.findKey, run_underlying hk, hf, this]
theorem run_look2 (h : IM w b M) (ht : P.underlying t = some (.map k e)) (hk : P.underlying k = some (.int .i64)) {z : Value} (hz : (zeroValue e).run P w = .ok z w) (x : Int) :
    (Instr.lookup t (.map (some b)) (.int .i64 x) true).run P w = .ok (.tuple #[(lookL M x).getD z, .bool (lookL M x).isSome]) w := by
  obtain ⟨es, clock, h1, h2⟩ := h
  have hc := fun em => run_checkKey_i64 (P := P) w em 9999 hk x
  have hf := findNow_im x es.toList M 0 h2
  have hl := spotI_look M x 0
  cases hs : spotI M x 0 with
  | none =>
    rw [hs] at hf hl
    have : lookL M x = none := by simpa using hl.symm
    simp [Instr.lookup, run_underlying ht, MapKept.run_getObj_map h1, hc, Instr.findKey, run_underlying hk, hf, this, hz]
  | some p =>
    obtain ⟨j, v⟩ := p
    rw [hs] at hf hl
    have : lookL M x = some v := by simpa using hl.symm
    simp [Instr.lookup, run_underlying ht, MapKept.run_getObj_map h1, hc, Instr.findKey, run_underlying hk, hf, this]
theorem run_upd (h : IM w b M) (ht : P.underlying t = some (.map k e)) (hk : P.underlying k = some (.int .i64)) (x : Int) (u : Value) :
    ∃ w', (Instr.mapUpdate t (.map (some b)) (.int .i64 x) u).run P w = .ok () w' ∧ IM w' b (updI M x u) ∧ Chg (fun j => j = b) w w' := by
  obtain ⟨es, clock, h1, h2⟩ := h
  have hlt := (Array.getElem?_eq_some_iff.1 h1).1
  have hc := fun em => run_checkKey_i64 (P := P) w em 9999 hk x
  have hf := findNow_im x es.toList M 0 h2
  have hset : ∀ o, Chg (fun j => j = b) w (setBlock w b o) := fun o => ⟨rfl, rfl, rfl, by simp [setBlock], fun j _ hj => by
    show (w.heap.setIfInBounds b o)[j]? = _
    rw [Array.getElem?_setIfInBounds, if_neg (fun e => hj e.symm)]⟩
  have hlen : es.toList.length = M.length := by have := congrArg List.length h2; simpa using this
  cases hs : spotI M x 0 with
  | none =>
    rw [hs] at hf
    refine ⟨setBlock w b (.map (es.push { key := .int .i64 x, val := u, born := clock }) (clock + 1)), ?_, ⟨_, _, by simp [setBlock, hlt]; exact ⟨rfl, rfl⟩, ?_⟩, hset _⟩
    · simp [Instr.mapUpdate, run_underlying ht, MapKept.run_getObj_map h1, hc, Instr.findKey, run_underlying hk, hf, MapKept.run_setObj_map _ h1, setBlock]
    · rw [spotI_none M x 0 hs, Array.toList_push, List.map_append, h2, List.map_append]
      rfl
  | some p =>
    obtain ⟨j, v⟩ := p
    rw [hs] at hf
    obtain ⟨i, hji, hil, him, hup⟩ := spotI_at M x 0 j v hs
    have hj : j = i := by omega
    subst hj
    have hkey : ((es[j]?).map (·.key)) = some (.int .i64 x) := by
      have := congrArg (fun l => l[j]?.map (·.1)) h2
      simp only [List.getElem?_map, Array.getElem?_toList, Option.map_map] at this
      rw [show (fun e : MapEntry => e.key) = (fun x : Value × Value => x.1) ∘ (fun e : MapEntry => (e.key, e.val)) from rfl, this]
      cases hq : M[j]? with
      | none => rw [hq] at him; simp at him
      | some y => rw [hq] at him; simp at him; simp [him]
    refine ⟨setBlock w b (.map (es.modify j fun e => { e with key := .int .i64 x, val := u }) clock), ?_, ⟨_, _, by simp [setBlock, hlt]; exact ⟨rfl, rfl⟩, ?_⟩, hset _⟩
    · have hkk : ((es[j]?).map (·.key)).getD (.int .i64 x) = .int .i64 x := by rw [hkey]; rfl
      simp [Instr.mapUpdate, run_underlying ht, MapKept.run_getObj_map h1, hc, Instr.findKey, run_underlying hk, hf, hkk, Instr.keyThatStays, Instr.sameBits, MapKept.run_setObj_map _ h1, setBlock]
    · rw [hup u]
      apply List.ext_getElem?
      intro i
      have hi := congrArg (fun l => l[i]?) h2
      simp only [List.getElem?_map, Array.getElem?_toList] at hi
      simp only [List.getElem?_map, Array.getElem?_toList, Array.getElem?_modify, List.getElem?_modify]
      by_cases hij : j = i
      · subst hij
        simp only [if_true]
        have hlt2 : j < es.size := by have : es.toList.length = es.size := by simp
                                      omega
        rw [Array.getElem?_eq_getElem hlt2, List.getElem?_eq_getElem hil]
        simp
      · simp only [if_neg hij]
        simpa [hij] using hi
theorem wpList_upd {ops : Array Oper} {Q : Exit → Act → World → Prop} {a : Act} {rest : List Oper} {o : Oper} (hg : o.guard = none) (m x v : Operand) (ho : o.op = .mapUpdate t m x v ∨ o.op = .insert t m x v)
    (ht : P.underlying t = some (.map k e)) (hk : P.underlying k = some (.int .i64)) (b : Nat) (hm : a.eval m = .map (some b)) (y : Int) (hx : a.eval x = .int .i64 y) (u : Value) (hv : a.eval v = u) (M : List (Int × Value)) (hs : IM w b M)
    (h : ∀ w', IM w' b (updI M y u) → Chg (fun j => j = b) w w' → wpList P ops Q rest (a.put o.dst undef) w') : wpList P ops Q (o :: rest) a w := by
  refine wpList_plain hg fun K' hK' => ?_
  obtain ⟨w', hrun, r1, r2⟩ := run_upd hs ht hk y u
  unfold Oper.wp
  rcases ho with ho | ho <;>
  · simp [execOp, ho, hm, hx, hv, hrun, Result.andThen]
    exact hK' _ _ (h w' r1 r2)
theorem run_look_op {o : Oper} {a : Act} (m x : Operand) (ho : o.op = .lookup t m x false) (ht : P.underlying t = some (.map k e)) (hk : P.underlying k = some (.int .i64)) (z : Value) (hz : (zeroValue e).run P w = .ok z w)
    (b : Nat) (hm : a.eval m = .map (some b)) (y : Int) (hx : a.eval x = .int .i64 y) (M : List (Int × Value)) (hs : IM w b M) (v : Value) (hv : (lookL M y).getD z = v) : (execOp a.eval o).run P w = .ok (.value v) w := by
  have := run_look hs ht hk hz y
  rw [hv] at this
  unfold execOp
  simp [ho, hm, hx, this]
theorem run_look2_op {o : Oper} {a : Act} (m x : Operand) (ho : o.op = .lookup t m x true) (ht : P.underlying t = some (.map k e)) (hk : P.underlying k = some (.int .i64)) (z : Value) (hz : (zeroValue e).run P w = .ok z w)
    (b : Nat) (hm : a.eval m = .map (some b)) (y : Int) (hx : a.eval x = .int .i64 y) (M : List (Int × Value)) (hs : IM w b M) (v : Value) (q : Bool) (hv : (lookL M y).getD z = v) (hq : (lookL M y).isSome = q) : (execOp a.eval o).run P w = .ok (.value (.tuple #[v, .bool q])) w := by
  have := run_look2 hs ht hk hz y
  rw [hv, hq] at this
  unfold execOp
  simp [ho, hm, hx, this]
end
end Go.Proofs.YthnklohpmcebkaaGreatDoor

set_option linter.unusedVariables false
set_option linter.unusedSimpArgs false
namespace Go.Proofs.YthnklohpmcebkaaGreatDoor
open Go.RowKit Tm
def i64s (l : List Int) : List Value := l.map (Value.int .i64)
theorem i64s_get {l : List Int} {i : Nat} {x : Int} (h : l[i]? = some x) : (i64s l)[i]? = some (.int .i64 x) := by simp [i64s, h]
structure KAt (w : World) (a : Option Addr) (kids : List Int) (c : Nat) : Prop where
  at_ : kids = [] ∨ ∃ g off, a = some ⟨g, off, none⟩ ∧ w.rangeAt g off (i64s kids)
  cap : kids.length ≤ c
  capped : c ≤ 9223372036854775807
  mid : a = none → c = 0
  few : kids.length ≤ 1000000
structure Cel (w : World) (a : Option Addr) (l c : Nat) : Prop where
  at_ : l = 0 ∨ ∃ g off C, a = some ⟨g, off, none⟩ ∧ C.length = l ∧ w.rangeAt g off C ∧ ∀ v ∈ C, v.oneCell' = true
  few : l ≤ 1000000
section
variable {w w' : World} {a : Option Addr} {kids : List Int} {c l : Nat}
theorem KAt.kept (h : KAt w a kids c) (hb : Below w.heap.size w w') : KAt w' a kids c := by
  refine ⟨?_, h.cap, h.capped, h.mid, h.few⟩
  rcases h.at_ with e | ⟨g, off, e, h⟩
  · exact .inl e
  · exact .inr ⟨g, off, e, fun j u hu => (hb.cell (p := ⟨g, off + j, none⟩) (World.block_lt_of_cell? _ _ (h j u hu))).trans (h j u hu)⟩
theorem Cel.kept (h : Cel w a l c) (hb : Below w.heap.size w w') : Cel w' a l c := by
  refine ⟨?_, h.few⟩
  rcases h.at_ with e | ⟨g, off, C, e, hl, h, h1⟩
  · exact .inl e
  · exact .inr ⟨g, off, C, e, hl, fun j u hu => (hb.cell (p := ⟨g, off + j, none⟩) (World.block_lt_of_cell? _ _ (h j u hu))).trans (h j u hu), h1⟩
theorem KAt.cel (h : KAt w a kids c) : Cel w a kids.length c := by
  refine ⟨?_, h.few⟩
  rcases h.at_ with e | ⟨g, off, e, h⟩
  · exact .inl (by rw [e]; rfl)
  · exact .inr ⟨g, off, i64s kids, e, by simp [i64s], h, by intro v hv; simp [i64s] at hv; obtain ⟨x, _, rfl⟩ := hv; rfl⟩
theorem KAt.get (h : KAt w a kids c) {i : Nat} {x : Int} (hi : kids[i]? = some x) : ∃ g off, a = some ⟨g, off, none⟩ ∧ w.cell? ⟨g, off + i, none⟩ = some (.int .i64 x) := by
  rcases h.at_ with e | ⟨g, off, e, h⟩
  · subst e; simp at hi
  · exact ⟨g, off, e, h i _ (i64s_get hi)⟩
theorem KAt.drop (h : KAt w a kids c) {m : Nat} (hm : m ≤ kids.length) {g off : Nat} (ha : a = some ⟨g, off, none⟩) : KAt w (some ⟨g, off + m, none⟩) (kids.drop m) (c - m) := by
  have := h.cap
  have := h.capped
  have := h.few
  refine ⟨?_, by simp; omega, by omega, fun e => (by cases e), by simp; omega⟩
  rcases h.at_ with e | ⟨g', off', e, h⟩
  · exact .inl (by rw [e]; simp)
  · rw [ha] at e
    cases e
    refine .inr ⟨g, off + m, rfl, fun j u hu => ?_⟩
    have hu' : (i64s kids)[m + j]? = some u := by
      simp only [i64s, List.getElem?_map, List.getElem?_drop] at hu ⊢
      exact hu
    rw [Nat.add_assoc]
    exact h (m + j) u hu'
theorem KAt.nil (w : World) : KAt w none [] 0 := ⟨.inl rfl, Nat.le_refl _, by omega, fun _ => rfl, by simp⟩
theorem Cel.nil (w : World) : Cel w none 0 0 := ⟨.inl rfl, by omega⟩
end
def GivesV (v : Value) (w : World) (e : Ending) (w' : World) : Prop := e = .returned v ∧ Below w.heap.size w w'
theorem GivesV.mk' {v : Value} {w w' : World} {e : Ending} (h : e = .returned v) (hb : Below w.heap.size w w') : GivesV v w e w' := ⟨h, hb⟩
theorem GivesV.of (v : Value) (w : World) (o : Obj) : GivesV v w (.returned v) (w.alloc o) := ⟨rfl, (Below.refl _ _).alloc (Nat.le_refl _) _⟩
structure NodeAt (w : World) (n : Nd) (ka : Option Addr) (kc : Nat) (s : Bool) (a1 : Option Addr) (l1 c1 : Nat) (a2 : Option Addr) (l2 c2 : Nat) : Prop where
  kids : KAt w ka n.kids kc
  z : n.z = (!s && decide (l1 = 0) && decide (l2 = 0))
  m1 : Cel w a1 l1 c1
  m2 : Cel w a2 l2 c2
  right : n.op = 5 → ∀ W, Below w.heap.size w W → Calls Tryz.prog 37 #[.agg #[.bool s, .slice a1 l1 c1, .slice a2 l2 c2]] W (GivesV (.bool n.ok) W)
theorem NodeAt.kept {w w' : World} {n : Nd} {ka : Option Addr} {kc : Nat} {s : Bool} {a1 : Option Addr} {l1 c1 : Nat} {a2 : Option Addr} {l2 c2 : Nat} (h : NodeAt w n ka kc s a1 l1 c1 a2 l2 c2) (hb : Below w.heap.size w w') : NodeAt w' n ka kc s a1 l1 c1 a2 l2 c2 :=
  ⟨h.kids.kept hb, h.z, h.m1.kept hb, h.m2.kept hb, fun h5 W hW => h.right h5 W (hb.trans (hW.mono hb.size))⟩
def opV (o : Opr) : Value := .agg #[.int .i64 o.least, .int .i64 o.most, .int .i64 o.first, .int .i64 o.others, .int .i64 o.sort]
def opsV : List (Int × Value) := oprs.map fun e => (e.1, opV e.2)
theorem lookL_map {α β : Type} (f : α → β) : ∀ (M : List (Int × α)) (x : Int), lookL (M.map fun e => (e.1, f e.2)) x = (lookL M x).map f
  | [], _ => rfl
  | e :: M, x => by
    simp only [List.map_cons, lookL]
    split
    · rfl
    · exact lookL_map f M x
theorem look_ops (x : Int) : lookL opsV x = (oprAt x).map opV := lookL_map opV oprs x
def k2 (k : Kd) : List Value := [.int .i64 k.1, .bool k.2]
def kindC (ks : List Kd) : List Value := ks.flatMap k2
theorem kindC_len (ks : List Kd) : (kindC ks).length = ks.length * 2 := by
  induction ks with
  | nil => rfl
  | cons k ks ih => simp only [kindC, List.flatMap_cons, List.length_append] at ih ⊢; rw [ih]; simp [k2]; omega
theorem kindC_app (ks ms : List Kd) : kindC (ks ++ ms) = kindC ks ++ kindC ms := by simp [kindC]
theorem kindC_at : ∀ (ks : List Kd) (i : Nat) (k : Kd), ks[i]? = some k → ∀ j v, (k2 k)[j]? = some v → (kindC ks)[i * 2 + j]? = some v
  | k' :: ks, 0, k, h, j, v, hv => by
    simp at h
    subst h
    have hj : j < (k2 k').length := (List.getElem?_eq_some_iff.1 hv).1
    simp only [kindC, List.flatMap_cons]
    rw [Nat.zero_mul, Nat.zero_add, List.getElem?_append_left hj]
    exact hv
  | k' :: ks, i + 1, k, h, j, v, hv => by
    have ih := kindC_at ks i k (by simpa using h) j v hv
    have hl : (k2 k').length = 2 := rfl
    simp only [kindC, List.flatMap_cons] at ih ⊢
    rw [List.getElem?_append_right (by omega), hl, show (i + 1) * 2 + j - 2 = i * 2 + j by omega]
    exact ih
structure RuAt (w : World) (B R mo mg : Nat) (kv : Value) (g : Ru) : Prop where
  head : w.heap[R]? = some (.cells #[.map (some mo), .map (some mg), kv] 111 (0, 0))
  ops : IM w mo opsV
  great : IM w mg [(1, .int .i64 g.b), (2, .int .i64 g.r)]
  row : w.ownsRow B 90 2 kv g.ks.length (kindC g.ks)
  low : B ≤ R ∧ B ≤ mo ∧ B ≤ mg ∧ mo ≠ mg
section
variable {w w' : World} {B R mo mg : Nat} {kv : Value} {g : Ru}
theorem own_tag {t : TypeId} {s n : Nat} {v : Value} {C : List Value} (h : w.ownsRow B t s v n C) {j : Nat} (hj : v.ownBlock = some j) : B ≤ j ∧ ∃ cur, w.heap[j]? = some (.cells cur t (0, 0)) := by
  obtain ⟨_, ⟨rfl, _⟩ | ⟨g, cap, cur, rfl, hb, hg, _⟩⟩ := h
  · simp [Value.ownBlock] at hj
  · cases hj
    exact ⟨hb, cur, hg⟩
theorem ownsRow_chg {S : Nat → Prop} {e : TypeId} {s n : Nat} {v : Value} {C : List Value} (h : w.ownsRow B e s v n C) (hc : Chg S w w') (hS : ∀ k, v.ownBlock = some k → ¬ S k) : w'.ownsRow B e s v n C := by
  obtain ⟨h1, h2 | ⟨g, cap, cur, hv, hb, hg, r⟩⟩ := h
  · exact ⟨h1, .inl h2⟩
  · have hl := (Array.getElem?_eq_some_iff.1 hg).1
    exact ⟨h1, .inr ⟨g, cap, cur, hv, hb, (hc.block g hl (hS g (by rw [hv]; rfl))).trans hg, r⟩⟩
theorem RuAt.chg {S : Nat → Prop} (h : RuAt w B R mo mg kv g) (hc : Chg S w w') (h1 : ¬ S R) (h2 : ¬ S mo) (h3 : ¬ S mg) (h4 : ∀ j, kv.ownBlock = some j → ¬ S j) : RuAt w' B R mo mg kv g := by
  have hR := (Array.getElem?_eq_some_iff.1 h.head).1
  exact ⟨(hc.block R hR h1).trans h.head, h.ops.chg hc h2, h.great.chg hc h3, ownsRow_chg h.row hc h4, h.low⟩
theorem RuAt.kept (h : RuAt w B R mo mg kv g) (hb : Below w.heap.size w w') : RuAt w' B R mo mg kv g := h.chg (S := fun _ => False) (.of_below hb) (fun h => h) (fun h => h) (fun h => h) (fun _ _ h => h)
theorem RuAt.cells (h : RuAt w B R mo mg kv g) : w.cell? ⟨R, 0, none⟩ = some (.map (some mo)) ∧ w.cell? ⟨R, 1, none⟩ = some (.map (some mg)) ∧ w.cell? ⟨R, 2, none⟩ = some kv ∧ w.frozen? ⟨R, 2, none⟩ = false := by
  have := h.head
  simp [World.cell?, World.frozen?, this]
theorem own_value {t : TypeId} {s n : Nat} {v : Value} {C : List Value} (h : w.ownsRow B t s v n C) : ∃ a c, v = .slice a n c ∧ n ≤ c ∧ (∀ x, a = some x → ∃ g, x = ⟨g, 0, none⟩ ∧ B ≤ g ∧ g < w.heap.size) := by
  obtain ⟨_, ⟨rfl, rfl⟩ | ⟨g, cap, cur, rfl, hb, hg, hnc, _⟩⟩ := h
  · exact ⟨none, 0, rfl, Nat.le_refl _, fun x hx => by cases hx⟩
  · exact ⟨some ⟨g, 0, none⟩, cap, rfl, hnc, fun x hx => by cases hx; exact ⟨g, rfl, hb, (Array.getElem?_eq_some_iff.1 hg).1⟩⟩
theorem RuAt.kind (h : RuAt w B R mo mg kv g) {k : Nat} (hk : k < g.ks.length) : ∃ b c, kv = .slice (some ⟨b, 0, none⟩) g.ks.length c ∧ w.cell? ⟨b, k * 2, none⟩ = some (.int .i64 (g.ks.getD k (0, false)).1) ∧ w.cell? ⟨b, k * 2 + 1, none⟩ = some (.bool (g.ks.getD k (0, false)).2) := by
  have hr := h.row
  have hkk : g.ks[k]? = some (g.ks.getD k (0, false)) := by rw [List.getD_eq_getElem?_getD, List.getElem?_eq_getElem hk]; rfl
  have hl := kindC_len g.ks
  obtain ⟨_, ⟨_, e⟩ | ⟨b, cap, cur, rfl, hb, hg, hnc, hcm, hcs, ht⟩⟩ := hr
  · omega
  · refine ⟨b, cap, rfl, ?_, ?_⟩
    · have := h.row.cellAt (k * 2) (by omega)
      rw [this]
      exact kindC_at g.ks k _ hkk 0 _ rfl
    · have := h.row.cellAt (k * 2 + 1) (by omega)
      rw [this]
      exact kindC_at g.ks k _ hkk 1 _ rfl
theorem field_kind (i : Nat) (w : World) (v0 v1 : Value) (hi : i < 2) : (Instr.field 90 (.agg #[v0, v1]) i).run Tryz.prog w = .ok (if i = 0 then v0 else v1) w := by
  have ht : Tryz.prog.underlying 90 = some (.struct (Tryz.prog.fieldsOf 90)) := by kernel_rfl
  have hf : (Tryz.prog.fieldsOf 90).toList.map (fun f => (f.type, f.offset)) = [(3, 0), (4, 1)] := by kernel_rfl
  have ui := Tryz.underlying3
  have ub := Tryz.underlying4
  unfold Instr.field
  simp only [Sem.run_bind, run_underlying ht, Result.andThen_ok]
  rw [← Array.getElem?_toList]
  generalize (Tryz.prog.fieldsOf 90).toList = fs at hf ⊢
  rcases fs with _ | ⟨f1, _ | ⟨f2, _ | ⟨f3, r⟩⟩⟩ <;> simp at hf
  obtain ⟨⟨t1, o1⟩, t2, o2⟩ := hf
  match i, hi with
  | 0, _ => simp [t1, o1, part, isAgg, run_underlying ui, asAgg]
  | 1, _ => simp [t2, o2, part, isAgg, run_underlying ub, asAgg]
theorem field_sort : ∀ (w : World) (v0 v1 : Value), (Instr.field 90 (.agg #[v0, v1]) 0).run Tryz.prog w = .ok v0 w := fun w v0 v1 => field_kind 0 w v0 v1 (by omega)
theorem field_ground : ∀ (w : World) (v0 v1 : Value), (Instr.field 90 (.agg #[v0, v1]) 1).run Tryz.prog w = .ok v1 w := fun w v0 v1 => field_kind 1 w v0 v1 (by omega)
theorem has_any (h : RuAt w B R mo mg kv g) (x : Int) : Calls Tryz.prog 54 #[.pointer (some ⟨R, 0, none⟩), .int .i64 x] w fun e w' => e = .returned (.bool (has g.ks x)) ∧ w = w' := by
  obtain ⟨_, _, c2, _⟩ := h.cells
  obtain ⟨a, c, rfl, _, _⟩ := own_value h.row
  unfold has
  generalize g.ks.length = n at *
  clear h
  by_cases h1 : 0 ≤ x
  · have h1' : decide ((0 : Int) ≤ x) = true := by simpa using h1
    rw [h1']
    by_cases h2 : x < (n : Int)
    · have h2' : decide (x < (n : Int)) = true := by simpa using h2
      rw [h2']
      go_enter Tryz.func54, Tryz.ntmps54
      go_wp2
      go_ret
      exact ⟨rfl, rfl⟩
    · have h2' : decide (x < (n : Int)) = false := by simpa using h2
      rw [h2']
      go_enter Tryz.func54, Tryz.ntmps54
      go_wp2
      go_ret
      exact ⟨rfl, rfl⟩
  · have h1' : decide ((0 : Int) ≤ x) = false := by simpa using h1
    rw [h1']
    go_enter Tryz.func54, Tryz.ntmps54
    go_wp2
    go_ret
    exact ⟨rfl, rfl⟩
theorem kind_any (h : RuAt w B R mo mg kv g) (x : Int) : Calls Tryz.prog 34 #[.pointer (some ⟨R, 0, none⟩), .int .i64 x] w (GivesV (.agg #[.int .i64 (kindOf g.ks x).1, .bool (kindOf g.ks x).2]) w) := by
  have HH := Lib.hid (fun (W : World) (hb : Below w.heap.size w W) => has_any (h.kept hb) x)
  obtain ⟨_, _, c2, _⟩ := h.cells
  have hR : R < w.heap.size := (Array.getElem?_eq_some_iff.1 h.head).1
  by_cases hx : has g.ks x = true
  · have hx' := kindOf_lt hx
    obtain ⟨k, rfl⟩ : ∃ k : Nat, x = (k : Int) := ⟨x.toNat, by omega⟩
    have hk : k < g.ks.length := by omega
    obtain ⟨b, c, rfl, d1, d2⟩ := h.kind hk
    have e1 : kindOf g.ks (k : Int) = g.ks.getD k (0, false) := by unfold kindOf; rw [if_pos hx]; rfl
    rw [e1]
    rw [hx] at HH
    generalize g.ks.getD k (0, false) = q at *
    obtain ⟨q1, q2⟩ := q
    simp only at d1 d2
    generalize g.ks.length = n at *
    have hb : b < w.heap.size := World.block_lt_of_cell? _ _ d1
    clear h e1 hx hx'
    go_enter Tryz.func34, Tryz.ntmps34
    go_wp2_with fail
    refine (HH.out _ ((Below.refl _ _).alloc (Nat.le_refl _) _)).mono ?_
    rintro e w' ⟨rfl, rfl⟩
    go_wp2_with fail
    refine bodyPost_ret (v := .agg #[.int .i64 q1, .bool q2]) ?_ rfl (GivesV.mk' rfl ?_)
    · simp [results, Tryz.results34, asAddr, Act.put]
      go_simp
    · exact (Below.refl _ _).alloc (Nat.le_refl _) _
  · have hx' : has g.ks x = false := by simpa using hx
    have e1 : kindOf g.ks x = (0, false) := by unfold kindOf; rw [if_neg hx]
    rw [e1]
    rw [hx'] at HH
    clear h e1 hx hx'
    go_enter Tryz.func34, Tryz.ntmps34
    go_wp2_with fail
    refine (HH.out _ ((Below.refl _ _).alloc (Nat.le_refl _) _)).mono ?_
    rintro e w' ⟨rfl, rfl⟩
    go_wp2_with fail
    refine bodyPost_ret (v := .agg #[.int .i64 0, .bool false]) ?_ rfl (GivesV.mk' rfl ?_)
    · simp [results, Tryz.results34, asAddr, Act.put]
      go_simp
    · exact (Below.refl _ _).alloc (Nat.le_refl _) _
end
end Go.Proofs.YthnklohpmcebkaaGreatDoor

set_option linter.unusedVariables false
set_option linter.unusedSimpArgs false
namespace Go.Proofs.YthnklohpmcebkaaGreatDoor
open Go.RowKit Tm
section
variable {w w' : World} {B R mo mg : Nat} {kv : Value} {g : Ru}
set_option maxRecDepth 100000 in
theorem loose_any (h : RuAt w B R mo mg kv g) (x : Int) : Calls Tryz.prog 90 #[.pointer (some ⟨R, 0, none⟩), .int .i64 x] w (GivesV (.bool (loose g.ks x)) w) := by
  have HK := Lib.hid (kind_any h x)
  unfold loose
  generalize kindOf g.ks x = q at *
  obtain ⟨q1, q2⟩ := q
  dsimp only at HK ⊢
  have hfg := field_ground
  clear h
  go_enter Tryz.func90, Tryz.ntmps90
  go_wp2_with fail
  refine HK.out.mono ?_
  rintro e w' ⟨rfl, hb⟩
  have HB := Lib.hid hb
  clear hb
  go_wp2_with fail
  go_ret
  exact GivesV.mk' rfl HB.out
theorem far_any (h : RuAt w B R mo mg kv g) {b : Nat} (hb : w.cell? ⟨b, 0, none⟩ = some (.pointer (some ⟨R, 0, none⟩))) (x : Int) : Calls Tryz.prog 53 #[.int .i64 x, .pointer (some ⟨b, 0, none⟩)] w (GivesV (.bool (!has g.ks x)) w) := by
  have HK := Lib.hid (has_any h x)
  generalize has g.ks x = q at *
  clear h
  go_enter Tryz.func53, Tryz.ntmps53
  go_wp2_with fail
  refine HK.out.mono ?_
  rintro e w' ⟨rfl, rfl⟩
  go_wp2_with fail
  go_ret
  exact GivesV.mk' rfl (Below.refl _ _)
theorem kidSort_any (w : World) (o : Opr) (i : Nat) : Calls Tryz.prog 89 #[.agg #[.int .i64 o.least, .int .i64 o.most, .int .i64 o.first, .int .i64 o.others, .int .i64 o.sort], .int .i64 (i : Int)] w (GivesV (.int .i64 (kidSort o i)) w) := by
  obtain ⟨o1, o2, o3, o4, o5⟩ := o
  unfold kidSort
  by_cases hi : i = 0
  · subst hi
    rw [if_pos rfl]
    go_enter Tryz.func89, Tryz.ntmps89
    go_wp2_with fail
    go_ret
    exact GivesV.mk' rfl ((Below.refl _ _).alloc (Nat.le_refl _) _)
  · rw [if_neg hi]
    have hi' : ((i : Int) == 0) = false := by simpa using hi
    clear hi
    go_enter Tryz.func89, Tryz.ntmps89
    go_wp2_with fail
    go_ret
    exact GivesV.mk' rfl ((Below.refl _ _).alloc (Nat.le_refl _) _)
theorem counts_any (w : World) (o : Opr) (n : Nat) : Calls Tryz.prog 55 #[.agg #[.int .i64 o.least, .int .i64 o.most, .int .i64 o.first, .int .i64 o.others, .int .i64 o.sort], .int .i64 (n : Int)] w (GivesV (.bool (counts o n)) w) := by
  obtain ⟨o1, o2, o3, o4, o5⟩ := o
  unfold counts
  dsimp only
  cases h1 : decide (o1 ≤ (n : Int)) with
  | false =>
    go_enter Tryz.func55, Tryz.ntmps55
    go_wp2_with fail
    go_ret
    exact GivesV.mk' rfl ((Below.refl _ _).alloc (Nat.le_refl _) _)
  | true =>
    cases h2 : decide ((n : Int) ≤ o2) with
    | false =>
      go_enter Tryz.func55, Tryz.ntmps55
      go_wp2_with fail
      go_ret
      exact GivesV.mk' rfl ((Below.refl _ _).alloc (Nat.le_refl _) _)
    | true =>
      go_enter Tryz.func55, Tryz.ntmps55
      go_wp2_with fail
      go_ret
      exact GivesV.mk' rfl ((Below.refl _ _).alloc (Nat.le_refl _) _)
theorem tmZero_any (w : World) (s : Bool) (a1 : Option Addr) (l1 c1 : Nat) (a2 : Option Addr) (l2 c2 : Nat) :
    Calls Tryz.prog 88 #[.agg #[.bool s, .slice a1 l1 c1, .slice a2 l2 c2]] w (GivesV (.bool (!s && decide (l1 = 0) && decide (l2 = 0))) w) := by
  cases s with
  | true =>
    go_enter Tryz.func88, Tryz.ntmps88
    go_wp2_with fail
    go_ret
    exact GivesV.mk' rfl ((Below.refl _ _).alloc (Nat.le_refl _) _)
  | false =>
    by_cases h1 : l1 = 0
    · subst h1
      by_cases h2 : l2 = 0
      · subst h2
        go_enter Tryz.func88, Tryz.ntmps88
        go_wp2_with fail
        go_ret
        exact GivesV.mk' rfl ((Below.refl _ _).alloc (Nat.le_refl _) _)
      · have h2' : ((l2 : Int) == 0) = false := by simpa using h2
        have h2'' : decide (l2 = 0) = false := by simpa using h2
        rw [h2'']
        clear h2 h2''
        go_enter Tryz.func88, Tryz.ntmps88
        go_wp2_with fail
        go_ret
        exact GivesV.mk' rfl ((Below.refl _ _).alloc (Nat.le_refl _) _)
    · have h1' : ((l1 : Int) == 0) = false := by simpa using h1
      have h1'' : decide (l1 = 0) = false := by simpa using h1
      rw [h1'']
      clear h1 h1''
      go_enter Tryz.func88, Tryz.ntmps88
      go_wp2_with fail
      go_ret
      exact GivesV.mk' rfl ((Below.refl _ _).alloc (Nat.le_refl _) _)
set_option maxRecDepth 100000 in
theorem sortOver_any (h : RuAt w B R mo mg kv g) {a : Option Addr} {kids : List Int} {c : Nat} (hk : KAt w a kids c) (s : Int) (hs : s = 0 → kids ≠ []) :
    Calls Tryz.prog 58 #[.pointer (some ⟨R, 0, none⟩), .slice a kids.length c, .int .i64 s] w (GivesV (.int .i64 (sortOver g.ks kids s)) w) := by
  unfold sortOver
  by_cases h0 : s = 0
  · subst h0
    rw [if_pos rfl]
    have hne : 0 < kids.length := List.length_pos_iff.2 (hs rfl)
    have hl : kids[kids.length - 1]? = some (lastOf kids) := by unfold lastOf; rw [List.getD_eq_getElem?_getD, List.getElem?_eq_getElem (by omega)]; rfl
    obtain ⟨b, off, rfl, hc⟩ := hk.get hl
    have HK := Lib.hid (kind_any h (lastOf kids))
    generalize lastOf kids = x at *
    obtain ⟨m, hm⟩ : ∃ m, kids.length = m + 1 := ⟨kids.length - 1, by omega⟩
    have hcap := hk.cap
    have hcp := hk.few
    rw [hm] at hc hcap hcp ⊢
    rw [show m + 1 - 1 = m by omega] at hc
    generalize kindOf g.ks x = q at *
    obtain ⟨q1, q2⟩ := q
    dsimp only at HK ⊢
    have hfs := field_sort
    have hsub : wrap64 (m : Int) = (m : Int) := IntWalk.wrap64_in _ (by omega)
    have hlt : (m : Int) < (m : Int) + 1 := by omega
    clear h hk hs hne hl hm hcap hcp
    go_enter Tryz.func58, Tryz.ntmps58
    go_wp2_with fail
    refine HK.out.mono ?_
    rintro e w' ⟨rfl, hb⟩
    have HB := Lib.hid hb
    clear hb
    go_wp2_with fail
    go_ret
    exact GivesV.mk' rfl HB.out
  · rw [if_neg h0]
    have h0' : (s == 0) = false := by simpa using h0
    clear h0 h hs hk
    go_enter Tryz.func58, Tryz.ntmps58
    go_wp2_with fail
    go_ret
    exact GivesV.mk' rfl (Below.refl _ _)
end
section
variable {w : World} {p : Int → Bool} {b : Nat}
set_option maxRecDepth 100000 in
set_option maxHeartbeats 2000000 in
theorem index_loose (hp : ∀ W, Below w.heap.size w W → ∀ x, Calls Tryz.prog 90 #[.pointer (some ⟨b, 0, none⟩), .int .i64 x] W (GivesV (.bool (p x)) W)) {a : Option Addr} {kids : List Int} {c : Nat} (hk : KAt w a kids c) :
    Calls Tryz.prog 35 #[.slice a kids.length c, .func (.func 90) #[.pointer (some ⟨b, 0, none⟩)] #[]] w (GivesV (.int .i64 (idxP p kids)) w) := by
  have HP := Lib.hid hp
  have HKK := Lib.hid hk
  obtain ⟨n, hn⟩ : ∃ n, kids.length = n := ⟨_, rfl⟩
  have HN := Lib.hid hn
  have hn6 : n ≤ 1000000 := by have := hk.few; omega
  rw [hn]
  clear hp hk hn
  go_enter Tryz.func35, Tryz.ntmps35
  go_wp2_with fail
  go_loopw [8] (fun (iv : Value) (wr : World) => ∃ k : Nat, k ≤ n ∧ iv = .int .i64 (k : Int) ∧ Hid (∀ y ∈ kids.take k, p y = false) ∧ Hid (Below w.heap.size w wr)) (fun iv _ => n - (intOf iv).toNat)
  case atStart => exact ⟨0, Nat.zero_le _, rfl, Lib.hid (by simp), Lib.hid (Below.refl _ _)⟩
  case round =>
    obtain ⟨k, hkn, rfl, HE, HB⟩ := hrel
    by_cases hlt : k < n
    · have hget : kids[k]? = some (kids.getD k 0) := by rw [List.getD_eq_getElem?_getD, List.getElem?_eq_getElem (by rw [HN.out]; exact hlt)]; rfl
      have HG := Lib.hid hget
      obtain ⟨bb, off, rfl, hc⟩ := (HKK.out.kept HB.out).get hget
      clear hget
      generalize kids.getD k 0 = x at *
      have HC := Lib.hid (HP.out wr HB.out x)
      have hki : (k : Int) < (n : Int) := by omega
      have hiw : wrap64 ((k : Int) + 1) = (k : Int) + 1 := IntWalk.wrap64_in _ (by omega)
      cases hq : p x with
      | true =>
        have HV := Lib.hid (idxP_at (p := p) HE.out HG.out hq)
        rw [hq] at HC
        clear hq
        go_wp2_with fail
        refine HC.out.mono ?_
        rintro e w2 ⟨rfl, hb2⟩
        have HB2 := Lib.hid (HB.out.trans (hb2.mono HB.out.size))
        clear hb2
        go_wp2_with fail
        go_ret
        exact GivesV.mk' (by rw [HV.out]; rfl) HB2.out
      | false =>
        have HV : Hid (∀ y ∈ kids.take (k + 1), p y = false) := Lib.hid (by
          have hk2 : k < kids.length := by rw [HN.out]; exact hlt
          have hx : kids[k] = x := by have := HG.out; rw [List.getElem?_eq_getElem hk2] at this; exact Option.some.inj this
          rw [List.take_succ_eq_append_getElem hk2, hx]
          intro y hy
          rcases List.mem_append.1 hy with hy | hy
          · exact HE.out y hy
          · have : y = x := by simpa using hy
            rw [this]; exact hq)
        rw [hq] at HC
        clear hq
        go_wp2_with fail
        refine HC.out.mono ?_
        rintro e w2 ⟨rfl, hb2⟩
        have HB2 := Lib.hid (HB.out.trans (hb2.mono HB.out.size))
        clear hb2
        go_wp2_with fail
        go_roundw
        case rel => exact ⟨k + 1, by omega, by go_num, HV, HB2⟩
        case measure => simp [intOf]; omega
    · obtain rfl : k = n := by omega
      have HV : Hid (idxP p kids = -1) := Lib.hid (idxP_none (by have := HE.out; rw [List.take_of_length_le (by rw [HN.out]; exact Nat.le_refl _)] at this; exact this))
      go_wp2_with fail
      go_ret
      exact GivesV.mk' (by rw [HV.out]; rfl) HB.out
theorem contains_loose (hp : ∀ W, Below w.heap.size w W → ∀ x, Calls Tryz.prog 90 #[.pointer (some ⟨b, 0, none⟩), .int .i64 x] W (GivesV (.bool (p x)) W)) {a : Option Addr} {kids : List Int} {c : Nat} (hk : KAt w a kids c) :
    Calls Tryz.prog 19 #[.slice a kids.length c, .func (.func 90) #[.pointer (some ⟨b, 0, none⟩)] #[]] w (GivesV (.bool (kids.any p)) w) := by
  have HI := Lib.hid (index_loose hp hk)
  have he := idxP_any p kids
  rw [← he]
  generalize idxP p kids = x at *
  clear hp hk he
  go_enter Tryz.func19, Tryz.ntmps19
  go_wp2_with fail
  refine HI.out.mono ?_
  rintro e w' ⟨rfl, hb⟩
  have HB := Lib.hid hb
  clear hb
  go_wp2_with fail
  go_ret
  exact GivesV.mk' rfl HB.out
end
section
variable {w : World} {p : Int → Bool} {b : Nat}
set_option maxRecDepth 100000 in
set_option maxHeartbeats 2000000 in
theorem index_far (hp : ∀ W, Below w.heap.size w W → ∀ x, Calls Tryz.prog 53 #[.int .i64 x, .pointer (some ⟨b, 0, none⟩)] W (GivesV (.bool (p x)) W)) {a : Option Addr} {kids : List Int} {c : Nat} (hk : KAt w a kids c) :
    Calls Tryz.prog 35 #[.slice a kids.length c, .func (.func 53) #[] #[.pointer (some ⟨b, 0, none⟩)]] w (GivesV (.int .i64 (idxP p kids)) w) := by
  have HP := Lib.hid hp
  have HKK := Lib.hid hk
  obtain ⟨n, hn⟩ : ∃ n, kids.length = n := ⟨_, rfl⟩
  have HN := Lib.hid hn
  have hn6 : n ≤ 1000000 := by have := hk.few; omega
  rw [hn]
  clear hp hk hn
  go_enter Tryz.func35, Tryz.ntmps35
  go_wp2_with fail
  go_loopw [8] (fun (iv : Value) (wr : World) => ∃ k : Nat, k ≤ n ∧ iv = .int .i64 (k : Int) ∧ Hid (∀ y ∈ kids.take k, p y = false) ∧ Hid (Below w.heap.size w wr)) (fun iv _ => n - (intOf iv).toNat)
  case atStart => exact ⟨0, Nat.zero_le _, rfl, Lib.hid (by simp), Lib.hid (Below.refl _ _)⟩
  case round =>
    obtain ⟨k, hkn, rfl, HE, HB⟩ := hrel
    by_cases hlt : k < n
    · have hget : kids[k]? = some (kids.getD k 0) := by rw [List.getD_eq_getElem?_getD, List.getElem?_eq_getElem (by rw [HN.out]; exact hlt)]; rfl
      have HG := Lib.hid hget
      obtain ⟨bb, off, rfl, hc⟩ := (HKK.out.kept HB.out).get hget
      clear hget
      generalize kids.getD k 0 = x at *
      have HC := Lib.hid (HP.out wr HB.out x)
      have hki : (k : Int) < (n : Int) := by omega
      have hiw : wrap64 ((k : Int) + 1) = (k : Int) + 1 := IntWalk.wrap64_in _ (by omega)
      cases hq : p x with
      | true =>
        have HV := Lib.hid (idxP_at (p := p) HE.out HG.out hq)
        rw [hq] at HC
        clear hq
        go_wp2_with fail
        refine HC.out.mono ?_
        rintro e w2 ⟨rfl, hb2⟩
        have HB2 := Lib.hid (HB.out.trans (hb2.mono HB.out.size))
        clear hb2
        go_wp2_with fail
        go_ret
        exact GivesV.mk' (by rw [HV.out]; rfl) HB2.out
      | false =>
        have HV : Hid (∀ y ∈ kids.take (k + 1), p y = false) := Lib.hid (by
          have hk2 : k < kids.length := by rw [HN.out]; exact hlt
          have hx : kids[k] = x := by have := HG.out; rw [List.getElem?_eq_getElem hk2] at this; exact Option.some.inj this
          rw [List.take_succ_eq_append_getElem hk2, hx]
          intro y hy
          rcases List.mem_append.1 hy with hy | hy
          · exact HE.out y hy
          · have : y = x := by simpa using hy
            rw [this]; exact hq)
        rw [hq] at HC
        clear hq
        go_wp2_with fail
        refine HC.out.mono ?_
        rintro e w2 ⟨rfl, hb2⟩
        have HB2 := Lib.hid (HB.out.trans (hb2.mono HB.out.size))
        clear hb2
        go_wp2_with fail
        go_roundw
        case rel => exact ⟨k + 1, by omega, by go_num, HV, HB2⟩
        case measure => simp [intOf]; omega
    · obtain rfl : k = n := by omega
      have HV : Hid (idxP p kids = -1) := Lib.hid (idxP_none (by have := HE.out; rw [List.take_of_length_le (by rw [HN.out]; exact Nat.le_refl _)] at this; exact this))
      go_wp2_with fail
      go_ret
      exact GivesV.mk' (by rw [HV.out]; rfl) HB.out
theorem contains_far (hp : ∀ W, Below w.heap.size w W → ∀ x, Calls Tryz.prog 53 #[.int .i64 x, .pointer (some ⟨b, 0, none⟩)] W (GivesV (.bool (p x)) W)) {a : Option Addr} {kids : List Int} {c : Nat} (hk : KAt w a kids c) :
    Calls Tryz.prog 19 #[.slice a kids.length c, .func (.func 53) #[] #[.pointer (some ⟨b, 0, none⟩)]] w (GivesV (.bool (kids.any p)) w) := by
  have HI := Lib.hid (index_far hp hk)
  have he := idxP_any p kids
  rw [← he]
  generalize idxP p kids = x at *
  clear hp hk he
  go_enter Tryz.func19, Tryz.ntmps19
  go_wp2_with fail
  refine HI.out.mono ?_
  rintro e w' ⟨rfl, hb⟩
  have HB := Lib.hid hb
  clear hb
  go_wp2_with fail
  go_ret
  exact GivesV.mk' rfl HB.out
end
end Go.Proofs.YthnklohpmcebkaaGreatDoor

set_option linter.unusedVariables false
set_option linter.unusedSimpArgs false
namespace Go.Proofs.YthnklohpmcebkaaGreatDoor
open Go.RowKit Tm
theorem rangeAt_new (w : World) (L : List Value) (t : TypeId) : (w.alloc (.cells L.toArray t)).rangeAt w.heap.size 0 L := fun j u hu => by
  rw [Nat.zero_add, World.cell?_alloc_new]
  simpa using hu
theorem rangeAt_kept {w w' : World} {b off B : Nat} {L : List Value} (h : w.rangeAt b off L) (hb : Below B w w') (hB : b < B) : w'.rangeAt b off L := fun j u hu =>
  (World.cell?_of_block (a := ⟨b, off + j, none⟩) (hb.block b hB)).trans (h j u hu)
theorem rangeAt_lt {w : World} {b off : Nat} {L : List Value} (h : w.rangeAt b off L) (hl : 0 < L.length) : b < w.heap.size := by
  have := h 0 L[0] (List.getElem?_eq_getElem hl)
  exact World.block_lt_of_cell? _ _ this
theorem wpList_val {P : Program} {ops : Array Oper} {Q : Exit → Act → World → Prop} {a : Act} {w : World} {rest : List Oper} {o : Oper} (v : Value) (hr : (execOp a.eval o).run P w = .ok (.value v) w) (hw : Region.wanted o (yielded ops a.tmps) = true)
    (h : wpList P ops Q rest (a.put o.dst v) w) : wpList P ops Q (o :: rest) a w :=
  wpList_step fun K hK => by
    rw [if_pos hw]
    unfold Oper.wp
    rw [hr]
    exact hK _ _ h
theorem step_val {o : Oper} {a : Act} {w : World} {ops : Array Oper} {K : Act → World → Prop} {Q : Exit → Act → World → Prop} {E : Prop} (v : Value) (hr : (execOp a.eval o).run Tryz.prog w = .ok (.value v) w) (hw : Region.wanted o (yielded ops a.tmps) = true) (h : K (a.put o.dst v) w) :
    if Region.wanted o (yielded ops a.tmps) = true then Oper.wp Tryz.prog o a w K Q else E := by
  rw [if_pos hw]
  unfold Oper.wp
  rw [hr]
  exact h
section
variable {P : Program} {w : World} {base : Nat}
theorem run_append_mine (t ty e : TypeId) (i : TypeInfo) (z : Value) (size bytes : Nat) (ht : P.underlying t = some (.slice e)) (hi : P.info? e = some i) (hz : i.zero = some z)
    (hsize : i.size = size) (hby : i.bytes = bytes) (hzs : z.cells.size = size) (hsz : 0 < size)
    (v : Value) (n : Nat) (xs : List Value) (hown : w.ownsRow base e size v n xs)
    (a : Addr) (m c : Nat) (news : List Value) (hl : news.length = m * size) (hnews : ∀ j u, news[j]? = some u → w.cell? (a.add j) = some u) (h1 : ∀ u ∈ news, u.oneCell' = true)
    (h63 : n + m ≤ maxLen) (hbytes : (n + m) * bytes ≤ 140737488355328) (hbase : base ≤ w.heap.size) :
    ∃ v' w', (Builtin.append_ #[t, t] ty #[v, .slice (some a) m c]).run P w = .ok v' w' ∧ w'.ownsRow base e size v' (n + m) (xs ++ news) ∧ w.grownBy w' v.ownBlock ∧ (∀ j, v'.ownBlock = some j → v.ownBlock = some j ∨ w.heap.size ≤ j) := by
  rcases hown.2 with ⟨rfl, rfl⟩ | ⟨g, cap, cur, rfl, hbg, hg, hnc, hcm, hcs, htake⟩
  · have hx : xs = [] := List.eq_nil_of_length_eq_zero (by simpa using hown.1)
    subst hx
    obtain ⟨v', w', q1, q2, q3, _⟩ := run_append_own (P := P) w w.heap.size t ty e i z size bytes ht hi hz hsize hby hzs hsz (.slice none 0 0) 0 [] (World.ownsRow_nil w _ _ _) a m c news hl hnews h1 h63 hbytes (Nat.le_refl _)
    refine ⟨v', w', q1, ⟨q2.1, ?_⟩, q3, fun j hj => .inr (World.ownsRow.lt q2 j hj).1⟩
    rcases q2.2 with h | ⟨g, cap, cur, e1, e2, e3⟩
    · exact .inl h
    · exact .inr ⟨g, cap, cur, e1, Nat.le_trans hbase e2, e3⟩
  · obtain ⟨v', w', q1, q2, q3, _⟩ := run_append_own (P := P) w base t ty e i z size bytes ht hi hz hsize hby hzs hsz _ n xs hown a m c news hl hnews h1 h63 hbytes hbase
    refine ⟨v', w', q1, q2, q3, ?_⟩
    subst hsize
    by_cases hroom : n + m ≤ cap
    · have hfit : n * i.size + news.length ≤ cur.size := by rw [hl, hcs, ← Nat.add_mul]; exact Nat.mul_le_mul_right _ hroom
      have hr := run_append_room (P := P) w t ty e i ht hi g n cap cur hg a m c news hl hnews h1 hroom hfit
      rw [q1] at hr
      cases hr
      intro j hj
      exact .inl hj
    · have holds : ∀ j u, xs[j]? = some u → w.cell? ((⟨g, 0, none⟩ : Addr).add j) = some u := hown.cells (g := g) rfl
      subst hby
      have hr := run_append_grow (P := P) w t ty e i z ht hi hz ⟨g, 0, none⟩ n cap xs hown.1 holds a m c news hl hnews (by omega) (by unfold maxLen at h63; omega) (growslice_fits (by omega) hbytes)
      rw [q1] at hr
      cases hr
      intro j hj
      simp [Value.ownBlock] at hj
      exact .inr (by omega)
end
structure RowT (t e : TypeId) (size bytes : Nat) : Prop where
  ut : Tryz.prog.underlying t = some (.slice e)
  info : ∃ i z, Tryz.prog.info? e = some i ∧ i.zero = some z ∧ i.size = size ∧ i.bytes = bytes ∧ z.cells.size = size
  pos : 0 < size
  few : bytes ≤ 10000000
theorem rowT_of {t e : TypeId} {size bytes : Nat} {z : Value} (ut : Tryz.prog.underlying t = some (.slice e)) (hi : (Tryz.prog.info? e).map (fun i => (i.zero, i.size, i.bytes)) = some (some z, size, bytes)) (hz : z.cells.size = size) (hp : 0 < size) (hf : bytes ≤ 10000000) : RowT t e size bytes := by
  refine ⟨ut, ?_, hp, hf⟩
  cases hq : Tryz.prog.info? e with
  | none => rw [hq] at hi; cases hi
  | some q => rw [hq] at hi; simp at hi; exact ⟨q, z, rfl, hi.1, hi.2.1, hi.2.2, hz⟩
theorem rowT_kind : RowT 109 90 2 16 := rowT_of (z := .agg #[.int .i64 0, .bool false]) Tryz.underlying109 (by kernel_rfl) rfl (by omega) (by omega)
theorem rowT_node : RowT 34 33 6 96 := rowT_of (z := .agg #[.int .i64 0, .int .i64 0, .slice none 0 0, .bool false, .slice none 0 0, .slice none 0 0]) Tryz.underlying34 (by kernel_rfl) rfl (by omega) (by omega)
section
variable {ops : Array Oper} {o : Oper} {a : Act} {w : World} {K : Act → World → Prop} {Q : Exit → Act → World → Prop} {E : Prop} {t e : TypeId} {size bytes : Nat}
theorem wp_app_row (hT : RowT t e size bytes) (s x : Operand) (ho : o.op = .call { callee := .builtin .append, args := #[s, x], argTypes := #[t, t] }) (B : Nat) (v : Value) (n : Nat) (xs : List Value) (hv : a.eval s = v) (hown : w.ownsRow B e size v n xs)
    (ad : Addr) (m c : Nat) (news : List Value) (hx : a.eval x = .slice (some ad) m c) (hl : news.length = m * size) (hnews : ∀ j u, news[j]? = some u → w.cell? (ad.add j) = some u) (h1 : ∀ u ∈ news, u.oneCell' = true) (hn : n + m ≤ 2000000) (hB : B ≤ w.heap.size)
    (h : ∀ v' w', w'.ownsRow B e size v' (n + m) (xs ++ news) → w.grownBy w' v.ownBlock → (∀ j, v'.ownBlock = some j → v.ownBlock = some j ∨ w.heap.size ≤ j) → K (a.put o.dst v') w') : o.wp Tryz.prog a w K Q := by
  obtain ⟨i, z, i1, i2, i3, i4, i5⟩ := hT.info
  have hf := hT.few
  have hbytes : (n + m) * bytes ≤ 140737488355328 := Nat.le_trans (Nat.mul_le_mul hn hf) (by omega)
  obtain ⟨v', w', q1, q2, q3, q4⟩ := run_append_mine (P := Tryz.prog) (w := w) (base := B) t o.type e i z size bytes hT.ut i1 i2 i3 i4 i5 hT.pos v n xs hown ad m c news hl hnews h1 (by unfold maxLen; omega) hbytes hB
  unfold Oper.wp execOp
  simp only [ho, resolve, invoke, builtin, Sem.run_bind, Sem.run_pure, Result.andThen_ok, List.map_toArray, List.map_cons, List.map_nil, hv, hx, q1]
  exact h v' w' q2 q3 q4
theorem step_app_row (hT : RowT t e size bytes) (hgd : o.guard = none) (s x : Operand) (ho : o.op = .call { callee := .builtin .append, args := #[s, x], argTypes := #[t, t] }) (B : Nat) (v : Value) (n : Nat) (xs : List Value) (hv : a.eval s = v) (hown : w.ownsRow B e size v n xs)
    (ad : Addr) (m c : Nat) (news : List Value) (hx : a.eval x = .slice (some ad) m c) (hl : news.length = m * size) (hnews : ∀ j u, news[j]? = some u → w.cell? (ad.add j) = some u) (h1 : ∀ u ∈ news, u.oneCell' = true) (hn : n + m ≤ 2000000) (hB : B ≤ w.heap.size)
    (h : ∀ v' w', w'.ownsRow B e size v' (n + m) (xs ++ news) → w.grownBy w' v.ownBlock → (∀ j, v'.ownBlock = some j → v.ownBlock = some j ∨ w.heap.size ≤ j) → K (a.put o.dst v') w') :
    if Region.wanted o (yielded ops a.tmps) = true then Oper.wp Tryz.prog o a w K Q else E := by
  have hw : Region.wanted o (yielded ops a.tmps) = true := by simp [Region.wanted, hgd]
  rw [if_pos hw]
  exact wp_app_row hT s x ho B v n xs hv hown ad m c news hx hl hnews h1 hn hB h
end
theorem size_node : (Tryz.prog.info? 33).map (·.size) = some 6 := by kernel_rfl
theorem size_ratio : (Tryz.prog.info? 27).map (·.size) = some 3 := by kernel_rfl
theorem size_opr : (Tryz.prog.info? 113).map (·.size) = some 5 := by kernel_rfl
end Go.Proofs.YthnklohpmcebkaaGreatDoor

set_option linter.unusedVariables false
set_option linter.unusedSimpArgs false
namespace Go.Proofs.YthnklohpmcebkaaGreatDoor
open Go.RowKit Tm
section
variable {w w' : World} {B R mo mg : Nat} {kv : Value} {g : Ru}
set_option maxRecDepth 100000 in
set_option maxHeartbeats 4000000 in
theorem sorted_any (h : RuAt w B R mo mg kv g) {a : Option Addr} {kids : List Int} {c : Nat} (hk : KAt w a kids c) (o : Opr) :
    Calls Tryz.prog 56 #[.pointer (some ⟨R, 0, none⟩), .slice a kids.length c, .agg #[.int .i64 o.least, .int .i64 o.most, .int .i64 o.first, .int .i64 o.others, .int .i64 o.sort]] w (GivesV (.bool (sorted g.ks kids o)) w) := by
  obtain ⟨W2, hW2⟩ : ∃ W2, W2 = w.alloc (.cells #[.int .i64 o.least, .int .i64 o.most, .int .i64 o.first, .int .i64 o.others, .int .i64 o.sort] 113) := ⟨_, rfl⟩
  have hb2 : Below w.heap.size w W2 := by rw [hW2]; exact (Below.refl _ _).alloc (Nat.le_refl _) _
  have hr2 : W2.rangeAt w.heap.size 0 [.int .i64 o.least, .int .i64 o.most, .int .i64 o.first, .int .i64 o.others, .int .i64 o.sort] := by rw [hW2]; exact rangeAt_new w [.int .i64 o.least, .int .i64 o.most, .int .i64 o.first, .int .i64 o.others, .int .i64 o.sort] 113
  have HRU := Lib.hid (h.kept hb2)
  have HKK := Lib.hid (hk.kept hb2)
  have HB2 := Lib.hid (And.intro hb2 hr2)
  obtain ⟨n, hn⟩ : ∃ n, kids.length = n := ⟨_, rfl⟩
  have HN := Lib.hid hn
  have hn6 : n ≤ 1000000 := by have := hk.few; omega
  have HO : Hid (∀ k, kidSort o k = kidSort o k) := Lib.hid fun _ => rfl
  rw [hn]
  clear h hk hb2 hr2 hn
  have HSO : Hid (∀ (W : World) (i : Nat), Calls Tryz.prog 89 #[.agg #[.int .i64 o.least, .int .i64 o.most, .int .i64 o.first, .int .i64 o.others, .int .i64 o.sort], .int .i64 (i : Int)] W (GivesV (.int .i64 (kidSort o i)) W)) := Lib.hid fun W i => kidSort_any W o i
  have HST : Hid ((∀ k, k < n → fits g.ks kids o k = false → sorted g.ks kids o = false) ∧ ((List.range n).all (fits g.ks kids o) = true → sorted g.ks kids o = true)) := Lib.hid ⟨fun k hk hf => by unfold sorted; exact all_range_stop (by rw [HN.out]; exact hk) hf, fun hh => by unfold sorted; rw [HN.out]; exact hh⟩
  have HFT : Hid (∀ k x, kids.getD k 0 = x → fits g.ks kids o k = decide ((kindOf g.ks x).1 = sortOver g.ks kids (kidSort o k))) := Lib.hid fun k x hx => by unfold fits; rw [hx]
  generalize sorted g.ks kids o = res at *
  obtain ⟨ft, hft⟩ : ∃ ft, fits g.ks kids o = ft := ⟨_, rfl⟩
  rw [hft] at HST HFT
  obtain ⟨ksf, hksf⟩ : ∃ ksf : Nat → Int, (fun k => kidSort o k) = ksf := ⟨_, rfl⟩
  have hks : ∀ k, kidSort o k = ksf k := fun k => congrFun hksf k
  simp only [hks] at HSO HFT
  clear hft hks hksf HO
  obtain ⟨o1, o2, o3, o4, o5⟩ := o
  dsimp only at HSO HB2 hW2 ⊢
  go_enter Tryz.func56, Tryz.ntmps56
  go_wp2_with fail
  rw [← hW2]
  clear hW2
  go_loopw [11] (fun (iv : Value) (wr : World) => ∃ (k : Nat), iv = .int .i64 (k : Int) ∧ k ≤ n ∧ Hid ((List.range k).all ft = true) ∧ Hid (Below W2.heap.size W2 wr)) (fun iv _ => n - (intOf iv).toNat)
  case atStart => exact ⟨0, rfl, Nat.zero_le _, Lib.hid rfl, Lib.hid (Below.refl _ _)⟩
  case round =>
    obtain ⟨k, rfl, hkn, HE, HB⟩ := hrel
    by_cases hlt : k < n
    · have hget : kids[k]? = some (kids.getD k 0) := by rw [List.getD_eq_getElem?_getD, List.getElem?_eq_getElem (by rw [HN.out]; exact hlt)]; rfl
      obtain ⟨bb, off, rfl, hc⟩ := (HKK.out.kept HB.out).get hget
      clear hget
      obtain ⟨x, hx⟩ : ∃ x, kids.getD k 0 = x := ⟨_, rfl⟩
      have hfit := HFT.out k x hx
      rw [hx] at hc
      clear hx
      obtain ⟨s0, hs0⟩ : ∃ s0, ksf k = s0 := ⟨_, rfl⟩
      have HS0 := Lib.hid (fun W => HSO.out W k)
      rw [hs0] at HS0 hfit
      have HC1 : Hid (∀ W, Below W2.heap.size W2 W → Calls Tryz.prog 34 #[.pointer (some ⟨R, 0, none⟩), .int .i64 x] W (GivesV (.agg #[.int .i64 (kindOf g.ks x).1, .bool (kindOf g.ks x).2]) W)) := Lib.hid fun W hW => kind_any (HRU.out.kept hW) x
      have HC3 : Hid (∀ W, Below W2.heap.size W2 W → Calls Tryz.prog 58 #[.pointer (some ⟨R, 0, none⟩), .slice (some ⟨bb, off, none⟩) n c, .int .i64 s0] W (GivesV (.int .i64 (sortOver g.ks kids s0)) W)) := Lib.hid fun W hW => by
        have := sortOver_any (HRU.out.kept hW) (HKK.out.kept hW) s0 (fun _ e => by have := HN.out; rw [e] at this; simp at this; omega)
        rw [HN.out] at this
        exact this
      generalize sortOver g.ks kids s0 = t0 at *
      generalize kindOf g.ks x = q at *
      obtain ⟨q1, q2⟩ := q
      dsimp only at HC1 hfit
      have HF := Lib.hid hfit
      have hfs := field_sort
      have HR : Hid (wr.drew.rangeAt w.heap.size 0 [.int .i64 o1, .int .i64 o2, .int .i64 o3, .int .i64 o4, .int .i64 o5]) := Lib.hid fun j u hu => (HB.out.drew.cell (p := ⟨w.heap.size, 0 + j, none⟩) (World.block_lt_of_cell? _ _ (HB2.out.2 j u hu))).trans (HB2.out.2 j u hu)
      have HBD := Lib.hid HB.out.drew
      have hki : (k : Int) < (n : Int) := by omega
      have hiw : wrap64 ((k : Int) + 1) = (k : Int) + 1 := IntWalk.wrap64_in _ (by omega)
      clear hfit hs0
      go_wp2_with fail
      refine wp_region_held_drew (S := (fun w' => w'.rangeAt w.heap.size 0 [.int .i64 o1, .int .i64 o2, .int .i64 o3, .int .i64 o4, .int .i64 o5])) (by kernel_rfl) ?_ (fun hHeld => ?_)
      · exact HR.out
      refine wpAnyH_take (i := 0) (v := ?_) (by rfl) (by kernel_rfl) (by kernel_rfl) (by kernel_rfl) (by exact fun _ _ _ h => h) (Or.inl ⟨by rfl, ?_⟩) hHeld ?_
      rotate_left 1
      · intro w' hSw
        (try dsimp only at hSw)
        go_simp
        try with_reducible rfl
      try simp only [Act.put, List.setIfInBounds_toArray, List.set_cons_zero, List.set_cons_succ, List.getElem_toArray, List.getElem_cons_zero, List.getElem_cons_succ]
      refine wpAnyH_take (i := 1) (v := ?_) (by rfl) (by kernel_rfl) (by kernel_rfl) (by kernel_rfl) (by exact fun _ _ _ h => h) (Or.inl ⟨by rfl, ?_⟩) hHeld ?_
      rotate_left 1
      · intro w' hSw
        (try dsimp only at hSw)
        go_simp
        try with_reducible rfl
      try simp only [Act.put, List.setIfInBounds_toArray, List.set_cons_zero, List.set_cons_succ, List.getElem_toArray, List.getElem_cons_zero, List.getElem_cons_succ]
      refine wpAnyH_take (i := 4) (v := ?_) (by rfl) (by kernel_rfl) (by kernel_rfl) (by kernel_rfl) (by exact fun _ _ _ h => h) (Or.inl ⟨by rfl, ?_⟩) hHeld ?_
      rotate_left 1
      · intro w' hSw
        (try dsimp only at hSw)
        go_simp
        try with_reducible rfl
      try simp only [Act.put, List.setIfInBounds_toArray, List.set_cons_zero, List.set_cons_succ, List.getElem_toArray, List.getElem_cons_zero, List.getElem_cons_succ]
      refine wpAnyH_take (i := 5) (v := ?_) (by rfl) (by kernel_rfl) (by kernel_rfl) (by kernel_rfl) (by exact fun _ _ _ h => h) (Or.inl ⟨by rfl, ?_⟩) hHeld ?_
      rotate_left 1
      · intro w' hSw
        (try dsimp only at hSw)
        go_simp
        try with_reducible rfl
      try simp only [Act.put, List.setIfInBounds_toArray, List.set_cons_zero, List.set_cons_succ, List.getElem_toArray, List.getElem_cons_zero, List.getElem_cons_succ]
      refine wpAnyH_take (i := 6) (v := .agg #[.int .i64 o1, .int .i64 o2, .int .i64 o3, .int .i64 o4, .int .i64 o5]) (by rfl) (by kernel_rfl) (by kernel_rfl) (by kernel_rfl) (by exact fun _ _ _ h => h) (Or.inl ⟨by rfl, ?_⟩) hHeld ?_
      · intro w' hSw
        exact run_load_op 113 (.tmp 5) rfl w.heap.size 0 rfl [.int .i64 o1, .int .i64 o2, .int .i64 o3, .int .i64 o4, .int .i64 o5] _ hSw Tryz.underlying113 rfl (by rw [size_opr]; rfl)
      try simp only [Act.put, List.setIfInBounds_toArray, List.set_cons_zero, List.set_cons_succ, List.getElem_toArray, List.getElem_cons_zero, List.getElem_cons_succ]
      refine wpAnyH_take (i := 7) (v := ?_) (by rfl) (by kernel_rfl) (by kernel_rfl) (by kernel_rfl) (by exact fun _ _ _ h => h) (Or.inl ⟨by rfl, ?_⟩) hHeld ?_
      rotate_left 1
      · intro w' hSw
        (try dsimp only at hSw)
        go_simp
        try with_reducible rfl
      try simp only [Act.put, List.setIfInBounds_toArray, List.set_cons_zero, List.set_cons_succ, List.getElem_toArray, List.getElem_cons_zero, List.getElem_cons_succ]
      refine wpAnyH_ready (rs := [2]) (by kernel_rfl) (by simp) ?_
      refine AllReadyH.cons (by rfl) (fun K hK => ?_) AllReadyH.nil
      go_simp
      refine (HC1.out _ HBD.out).mono ?_
      rintro e w5 ⟨rfl, hb5⟩
      have HB5 := Lib.hid (HBD.out.trans (hb5.mono HBD.out.size))
      have HR5 : Hid (w5.rangeAt w.heap.size 0 [.int .i64 o1, .int .i64 o2, .int .i64 o3, .int .i64 o4, .int .i64 o5]) := Lib.hid (by exact fun j u hu => (hb5.cell (p := ⟨w.heap.size, 0 + j, none⟩) (World.block_lt_of_cell? _ _ (HR.out j u hu))).trans (HR.out j u hu))
      clear hb5
      refine hK.out _ _ ?_ (fun hHeld => ?_)
      · exact HR5.out
      clear hK K
      try simp only [Act.put, List.setIfInBounds_toArray, List.set_cons_zero, List.set_cons_succ, List.getElem_toArray, List.getElem_cons_zero, List.getElem_cons_succ]
      refine wpAnyH_take (i := 3) (v := ?_) (by rfl) (by kernel_rfl) (by kernel_rfl) (by kernel_rfl) (by exact fun _ _ _ h => h) (Or.inl ⟨by rfl, ?_⟩) hHeld ?_
      rotate_left 1
      · intro w' hSw
        (try dsimp only at hSw)
        go_simp
        try with_reducible rfl
      try simp only [Act.put, List.setIfInBounds_toArray, List.set_cons_zero, List.set_cons_succ, List.getElem_toArray, List.getElem_cons_zero, List.getElem_cons_succ]
      refine wpAnyH_ready (rs := [8]) (by kernel_rfl) (by simp) ?_
      refine AllReadyH.cons (by rfl) (fun K hK => ?_) AllReadyH.nil
      go_simp
      refine (HS0.out _).mono ?_
      rintro e w6 ⟨rfl, hb6⟩
      have HB6 := Lib.hid (HB5.out.trans (hb6.mono HB5.out.size))
      have HR6 : Hid (w6.rangeAt w.heap.size 0 [.int .i64 o1, .int .i64 o2, .int .i64 o3, .int .i64 o4, .int .i64 o5]) := Lib.hid (by exact fun j u hu => (hb6.cell (p := ⟨w.heap.size, 0 + j, none⟩) (World.block_lt_of_cell? _ _ (HR5.out j u hu))).trans (HR5.out j u hu))
      clear hb6
      refine hK.out _ _ ?_ (fun hHeld => ?_)
      · exact HR6.out
      clear hK K
      try simp only [Act.put, List.setIfInBounds_toArray, List.set_cons_zero, List.set_cons_succ, List.getElem_toArray, List.getElem_cons_zero, List.getElem_cons_succ]
      refine wpAnyH_ready (rs := [9]) (by kernel_rfl) (by simp) ?_
      refine AllReadyH.cons (by rfl) (fun K hK => ?_) AllReadyH.nil
      go_simp
      refine (HC3.out _ HB6.out).mono ?_
      rintro e w7 ⟨rfl, hb7⟩
      have HB7 := Lib.hid (HB6.out.trans (hb7.mono HB6.out.size))
      have HR7 : Hid (w7.rangeAt w.heap.size 0 [.int .i64 o1, .int .i64 o2, .int .i64 o3, .int .i64 o4, .int .i64 o5]) := Lib.hid (by exact fun j u hu => (hb7.cell (p := ⟨w.heap.size, 0 + j, none⟩) (World.block_lt_of_cell? _ _ (HR6.out j u hu))).trans (HR6.out j u hu))
      clear hb7
      refine hK.out _ _ ?_ (fun hHeld => ?_)
      · exact HR7.out
      clear hK K
      try simp only [Act.put, List.setIfInBounds_toArray, List.set_cons_zero, List.set_cons_succ, List.getElem_toArray, List.getElem_cons_zero, List.getElem_cons_succ]
      refine wpAnyH_take (i := 10) (v := ?_) (by rfl) (by kernel_rfl) (by kernel_rfl) (by kernel_rfl) (by exact fun _ _ _ h => h) (Or.inl ⟨by rfl, ?_⟩) hHeld ?_
      rotate_left 1
      · intro w' hSw
        (try dsimp only at hSw)
        go_simp
        try with_reducible rfl
      try simp only [Act.put, List.setIfInBounds_toArray, List.set_cons_zero, List.set_cons_succ, List.getElem_toArray, List.getElem_cons_zero, List.getElem_cons_succ]
      refine wpAnyH_done (by kernel_rfl) ?_ _
      clear hHeld
      cases hqt : (q1 == t0) with
      | true =>
        have HNX : Hid ((List.range (k + 1)).all ft = true) := Lib.hid (by rw [all_range_succ, HE.out, HF.out, decide_eq_true (show q1 = t0 by simpa using hqt)]; rfl)
        clear HC1 HC3 HS0
        go_wp2_with fail
        go_roundw
        case rel => exact ⟨k + 1, by go_num, by omega, HNX, HB7⟩
        case measure => simp [intOf]; omega
      | false =>
        have HV := Lib.hid (HST.out.1 k hlt (by rw [HF.out]; exact decide_eq_false (show ¬ q1 = t0 by simpa using hqt)))
        have HEND := Lib.hid (HB2.out.1.trans (HB7.out.mono HB2.out.1.size))
        clear HC1 HC3 HS0
        go_wp2_with fail
        go_ret
        exact GivesV.mk' (by rw [HV.out]; rfl) HEND.out
    · obtain rfl : k = n := by omega
      have HV := Lib.hid (HST.out.2 HE.out)
      have HEND := Lib.hid (HB2.out.1.trans (HB.out.mono HB2.out.1.size))
      go_wp2_with fail
      go_ret
      exact GivesV.mk' (by rw [HV.out]; rfl) HEND.out
end
end Go.Proofs.YthnklohpmcebkaaGreatDoor

set_option linter.unusedVariables false
set_option linter.unusedSimpArgs false
namespace Go.Proofs.YthnklohpmcebkaaGreatDoor
open Go.RowKit Tm
section
variable {w w' : World} {B R mo mg : Nat} {kv : Value} {g : Ru}
theorem KAt.some_of {a : Option Addr} {kids : List Int} {c : Nat} (h : KAt w a kids c) (hn : kids ≠ []) : ∃ b off, a = some ⟨b, off, none⟩ := by
  rcases h.at_ with e | ⟨b, off, e, _⟩
  · exact absurd e hn
  · exact ⟨b, off, e⟩
set_option maxRecDepth 100000 in
set_option maxHeartbeats 4000000 in
theorem linear_any (h : RuAt w B R mo mg kv g) (n : Nd) {ka : Option Addr} {kc : Nat} (hk : KAt w ka n.kids kc) (s : Bool) (a1 : Option Addr) (l1 c1 : Nat) (a2 : Option Addr) (l2 c2 : Nat) (h21 : n.op = 21 → 1 ≤ n.kids.length) :
    Calls Tryz.prog 57 #[.pointer (some ⟨R, 0, none⟩), .agg #[.int .i64 n.op, .int .i64 n.v, .slice ka n.kids.length kc, .bool s, .slice a1 l1 c1, .slice a2 l2 c2]] w (GivesV (.bool (linear g.ks n)) w) := by
  have hb2 : Below w.heap.size w (w.alloc (.cells #[.int .i64 n.op, .int .i64 n.v, .slice ka n.kids.length kc, .bool s, .slice a1 l1 c1, .slice a2 l2 c2] 33)) := (Below.refl _ _).alloc (Nat.le_refl _) _
  have HI := Lib.hid (index_loose (w := (w.alloc (.cells #[.int .i64 n.op, .int .i64 n.v, .slice ka n.kids.length kc, .bool s, .slice a1 l1 c1, .slice a2 l2 c2] 33))) (b := R) (fun W hW x => loose_any ((h.kept hb2).kept hW) x) (hk.kept hb2))
  have HC : Hid (∀ m, m ≤ n.kids.length → ∀ b off, ka = some ⟨b, off, none⟩ → ∀ W, Below w.heap.size w W → Calls Tryz.prog 19 #[.slice (some ⟨b, off + m, none⟩) (n.kids.length - m) (kc - m), .func (.func 90) #[.pointer (some ⟨R, 0, none⟩)] #[]] W (GivesV (.bool ((n.kids.drop m).any (loose g.ks))) W)) := Lib.hid fun m hm b off e W hW => by
    have := contains_loose (w := W) (b := R) (fun W' hW' x => loose_any ((h.kept hW).kept hW') x) ((hk.kept hW).drop hm e)
    rw [List.length_drop] at this
    exact this
  have HC0 : Hid (∀ m, kc = m → ∀ b off, ka = some ⟨b, off, none⟩ → ∀ W, Below w.heap.size w W → Calls Tryz.prog 19 #[.slice (some ⟨b, off, none⟩) 0 0, .func (.func 90) #[.pointer (some ⟨R, 0, none⟩)] #[]] W (GivesV (.bool ((n.kids.drop m).any (loose g.ks))) W)) := Lib.hid fun m hm b off e W hW => by
    have hcap := hk.cap
    have hd : n.kids.drop m = [] := List.drop_eq_nil_of_le (by omega)
    have := contains_loose (w := W) (b := R) (fun W' hW' x => loose_any ((h.kept hW).kept hW') x) (a := some ⟨b, off, none⟩) (kids := n.kids.drop m) (c := 0) ⟨.inl hd, by rw [hd]; exact Nat.le_refl _, by omega, fun e => (by cases e), by rw [hd]; simp⟩
    have hl : (n.kids.drop m).length = 0 := by rw [hd]; rfl
    rw [hl] at this
    exact this
  have HKK := Lib.hid hk
  have hcap := hk.cap
  have hcp := hk.capped
  have hfw := hk.few
  have hib := idxP_bounds (loose g.ks) n.kids
  unfold linear
  clear h hk
  by_cases h20 : n.op = 20
  · rw [if_pos h20]
    have h20' : (n.op == 20) = true := by simpa using h20
    clear h20 h21
    by_cases hneg : idxP (loose g.ks) n.kids < 0
    · have hm1 : idxP (loose g.ks) n.kids = -1 := by omega
      rw [hm1] at HI ⊢
      clear hib hneg HC HC0 HKK hcap hcp
      go_enter Tryz.func57, Tryz.ntmps57
      go_wp2_with fail
      refine HI.out.mono ?_
      rintro e w' ⟨rfl, hb⟩
      have HB := Lib.hid (hb2.trans (hb.mono hb2.size))
      clear hb
      go_wp2_with fail
      go_ret
      exact GivesV.mk' rfl HB.out
    · obtain ⟨k, hkk⟩ : ∃ k : Nat, idxP (loose g.ks) n.kids = (k : Int) := ⟨(idxP (loose g.ks) n.kids).toNat, by omega⟩
      rw [hkk] at HI hib ⊢
      have hkn : k < n.kids.length := by omega
      have hne : n.kids ≠ [] := fun e => by rw [e] at hkn; simp at hkn
      obtain ⟨b, off, rfl⟩ := HKK.out.some_of hne
      have HD := Lib.hid (HC.out (k + 1) (by omega) b off rfl)
      have HD0 := Lib.hid (fun e => HC0.out (k + 1) e b off rfl)
      have hneg' : decide ((k : Int) < 0) = false := by simp
      have hne' : ¬ ((k : Int) < 0) := by omega
      have htn : ((k : Int)).toNat = k := by omega
      rw [hneg', htn]
      generalize (n.kids.drop (k + 1)).any (loose g.ks) = res at *
      have hiw : wrap64 ((k : Int) + 1) = (k : Int) + 1 := IntWalk.wrap64_in _ (by omega)
      have htn1 : ((k : Int) + 1).toNat = k + 1 := by omega
      have f1 : (0 : Int) ≤ (k : Int) + 1 := by omega
      have f2 : (k : Int) + 1 ≤ (n.kids.length : Int) := by omega
      have f3 : (k : Int) + 1 ≤ (kc : Int) := by omega
      generalize n.kids.length = len at *
      clear hib HC HC0 HKK hkk hneg hne htn
      by_cases hkc : kc = k + 1
      · have HDD := Lib.hid (HD0.out hkc)
        subst hkc
        clear HD HD0 f3
        go_enter Tryz.func57, Tryz.ntmps57
        go_wp2_with fail
        refine HI.out.mono ?_
        rintro e w' ⟨rfl, hb⟩
        have HB := Lib.hid (hb2.trans (hb.mono hb2.size))
        have HN : Hid (w'.cell? ⟨w.heap.size, 2, none⟩ = some (.slice (some ⟨b, off, none⟩) len (k + 1))) := Lib.hid ((hb.cell (p := ⟨w.heap.size, 2, none⟩) (by simp)).trans (by simp))
        have hx2 := HN.out
        clear hb
        go_wp2_with fail
        refine (HDD.out _ HB.out).mono ?_
        rintro e w3 ⟨rfl, hb3⟩
        have HB3 := Lib.hid (HB.out.trans (hb3.mono HB.out.size))
        clear hb3
        go_wp2_with fail
        go_ret
        exact GivesV.mk' rfl HB3.out
      · have f4 : ¬ kc - (k + 1) = 0 := by omega
        clear HD0 hkc
        go_enter Tryz.func57, Tryz.ntmps57
        go_wp2_with fail
        refine HI.out.mono ?_
        rintro e w' ⟨rfl, hb⟩
        have HB := Lib.hid (hb2.trans (hb.mono hb2.size))
        have HN : Hid (w'.cell? ⟨w.heap.size, 2, none⟩ = some (.slice (some ⟨b, off, none⟩) len kc)) := Lib.hid ((hb.cell (p := ⟨w.heap.size, 2, none⟩) (by simp)).trans (by simp))
        have hx2 := HN.out
        clear hb
        go_wp2_with fail
        refine (HD.out _ HB.out).mono ?_
        rintro e w3 ⟨rfl, hb3⟩
        have HB3 := Lib.hid (HB.out.trans (hb3.mono HB.out.size))
        clear hb3
        go_wp2_with fail
        go_ret
        exact GivesV.mk' rfl HB3.out
  · rw [if_neg h20]
    have h20' : (n.op == 20) = false := by simpa using h20
    by_cases h21' : n.op = 21
    · rw [if_pos h21']
      have h1 := h21 h21'
      have hne : n.kids ≠ [] := fun e => by rw [e] at h1; simp at h1
      obtain ⟨b, off, rfl⟩ := HKK.out.some_of hne
      have HD := Lib.hid (HC.out 1 h1 b off rfl _ hb2)
      have HD0 := Lib.hid (fun e => HC0.out 1 e b off rfl _ hb2)
      have e21 : (n.op == 21) = true := by simpa using h21'
      generalize (n.kids.drop 1).any (loose g.ks) = res at *
      have f2 : (1 : Int) ≤ (n.kids.length : Int) := by omega
      have f3 : (1 : Int) ≤ (kc : Int) := by omega
      generalize n.kids.length = len at *
      clear HI HC HC0 HKK hib h20 h21 h21' hne
      by_cases hkc : kc = 1
      · have HDD := Lib.hid (HD0.out hkc)
        clear HD HD0 f3
        subst hkc
        go_enter Tryz.func57, Tryz.ntmps57
        go_wp2_with fail
        refine HDD.out.mono ?_
        rintro e w' ⟨rfl, hb⟩
        have HB := Lib.hid (hb2.trans (hb.mono hb2.size))
        clear hb
        go_wp2_with fail
        go_ret
        exact GivesV.mk' rfl HB.out
      · have f4 : ¬ kc - 1 = 0 := by omega
        clear HD0 hkc
        go_enter Tryz.func57, Tryz.ntmps57
        go_wp2_with fail
        refine HD.out.mono ?_
        rintro e w' ⟨rfl, hb⟩
        have HB := Lib.hid (hb2.trans (hb.mono hb2.size))
        clear hb
        go_wp2_with fail
        go_ret
        exact GivesV.mk' rfl HB.out
    · rw [if_neg h21']
      have e21 : (n.op == 21) = false := by simpa using h21'
      clear HI HC HC0 HKK hib h20 h21 h21'
      go_enter Tryz.func57, Tryz.ntmps57
      go_wp2_with fail
      go_ret
      exact GivesV.mk' rfl hb2
set_option maxRecDepth 100000 in
set_option maxHeartbeats 4000000 in
theorem ground_any (h : RuAt w B R mo mg kv g) (n : Nd) {ka : Option Addr} {kc : Nat} (hk : KAt w ka n.kids kc) (s : Bool) (a1 : Option Addr) (l1 c1 : Nat) (a2 : Option Addr) (l2 c2 : Nat) :
    Calls Tryz.prog 59 #[.pointer (some ⟨R, 0, none⟩), .agg #[.int .i64 n.op, .int .i64 n.v, .slice ka n.kids.length kc, .bool s, .slice a1 l1 c1, .slice a2 l2 c2]] w (GivesV (.bool (ground g.ks n)) w) := by
  have hb2 : Below w.heap.size w (w.alloc (.cells #[.int .i64 n.op, .int .i64 n.v, .slice ka n.kids.length kc, .bool s, .slice a1 l1 c1, .slice a2 l2 c2] 33)) := (Below.refl _ _).alloc (Nat.le_refl _) _
  have HC := Lib.hid (contains_loose (w := (w.alloc (.cells #[.int .i64 n.op, .int .i64 n.v, .slice ka n.kids.length kc, .bool s, .slice a1 l1 c1, .slice a2 l2 c2] 33))) (b := R) (fun W hW x => loose_any ((h.kept hb2).kept hW) x) (hk.kept hb2))
  unfold ground
  generalize n.kids.any (loose g.ks) = res at *
  clear h hk
  by_cases h5 : n.op = 5
  · rw [if_pos h5]
    have e5 : (n.op == 5) = true := by simpa using h5
    clear h5 HC
    go_enter Tryz.func59, Tryz.ntmps59
    go_wp2_with fail
    go_ret
    exact GivesV.mk' rfl hb2
  · rw [if_neg h5]
    have e5 : (n.op == 5) = false := by simpa using h5
    by_cases hq : n.op = 18 ∨ n.op = 19 ∨ n.op = 20 ∨ n.op = 21
    · rw [if_pos hq]
      clear h5
      have go : ∀ b18 b19 b20 b21 : Bool, (n.op == 18) = b18 → (n.op == 19) = b19 → (n.op == 20) = b20 → (n.op == 21) = b21 → (b18 || b19 || b20 || b21) = true → Calls Tryz.prog 59 #[.pointer (some ⟨R, 0, none⟩), .agg #[.int .i64 n.op, .int .i64 n.v, .slice ka n.kids.length kc, .bool s, .slice a1 l1 c1, .slice a2 l2 c2]] w (GivesV (.bool (!res)) w) := by
        intro b18 b19 b20 b21 e18 e19 e20 e21 hb
        cases b18 <;> cases b19 <;> cases b20 <;> cases b21 <;> first | exact absurd hb (by decide) | (
          go_enter Tryz.func59, Tryz.ntmps59
          go_wp2_with fail
          refine HC.out.mono ?_
          rintro e w' ⟨rfl, hb⟩
          have HB := Lib.hid (hb2.trans (hb.mono hb2.size))
          clear hb
          go_wp2_with fail
          go_ret
          exact GivesV.mk' rfl HB.out)
      exact go _ _ _ _ rfl rfl rfl rfl (by rcases hq with h | h | h | h <;> simp [h])
    · rw [if_neg hq]
      have e18 : (n.op == 18) = false := by rw [beq_eq_false_iff_ne]; intro h; exact hq (by simp [h])
      have e19 : (n.op == 19) = false := by rw [beq_eq_false_iff_ne]; intro h; exact hq (by simp [h])
      have e20 : (n.op == 20) = false := by rw [beq_eq_false_iff_ne]; intro h; exact hq (by simp [h])
      have e21 : (n.op == 21) = false := by rw [beq_eq_false_iff_ne]; intro h; exact hq (by simp [h])
      clear h5 hq HC
      go_enter Tryz.func59, Tryz.ntmps59
      go_wp2_with fail
      go_ret
      exact GivesV.mk' rfl hb2
end
end Go.Proofs.YthnklohpmcebkaaGreatDoor
