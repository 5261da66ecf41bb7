/-
  Layer 8: places, and the map of those that are known.
-/
import Derived.Test.YtgojipnhnmigpaaSxReg
import Derived.WideKeyElems
import Derived.Carry
import Derived.LaidEqlPtr
import Derived.Laws.StructEq
set_option linter.unusedVariables false
set_option linter.unusedSimpArgs false
namespace Go.Proofs.Ytgojipnhnmigpaa
open Go.RowKit Go.MapKept Go.ChangeMaps Sx

/-- A place, as a value. -/
def pk (p : Nat × Nat) : Value := .agg #[.pointer (some ⟨p.1, 0, none⟩), .int .i64 (p.2 : Int)]
/-- A block of expressions. -/
def Blk (w : World) (g : Nat) : Prop := ∃ cur, w.heap[g]? = some (.cells cur 38 (0, 0))
theorem run_eql_pl {w : World} {p q : Nat × Nat} (hp : Blk w p.1) (hq : Blk w q.1) : (Op.equal 82 (pk p) (pk q)).run Try.prog w = .ok (decide (p = q)) w := by
  have e := run_equalIn_struct (P := Try.prog) w 9999 82 #[.pointer (some ⟨p.1, 0, none⟩), .int .i64 (p.2 : Int)] #[.pointer (some ⟨q.1, 0, none⟩), .int .i64 (q.2 : Int)] (by kernel_rfl) (by kernel_rfl)
  show (Op.equalIn 10000 82 (pk p) (pk q)).run Try.prog w = _
  refine e.trans ?_
  have hf : (Try.prog.fieldsOf 82).toList.map (fun f => (f.name == "_", f.type, f.offset)) = [(false, 48, 0), (false, 3, 1)] := by kernel_rfl
  generalize (Try.prog.fieldsOf 82).toList = fs at hf ⊢
  clear e
  rcases fs with _ | ⟨f1, _ | ⟨f2, _ | ⟨f3, r⟩⟩⟩ <;> simp at hf
  obtain ⟨⟨n1, t1, o1⟩, ⟨n2, t2, o2⟩⟩ := hf
  have ui := Try.underlying3
  have up := Try.underlying48
  have p1 : ∀ w, (part f1.type #[.pointer (some ⟨p.1, 0, none⟩), .int .i64 (p.2 : Int)] f1.offset).run Try.prog w = .ok (.pointer (some ⟨p.1, 0, none⟩)) w := fun w => by rw [t1, o1]; simp [part, isAgg, run_underlying up]
  have q1 : ∀ w, (part f1.type #[.pointer (some ⟨q.1, 0, none⟩), .int .i64 (q.2 : Int)] f1.offset).run Try.prog w = .ok (.pointer (some ⟨q.1, 0, none⟩)) w := fun w => by rw [t1, o1]; simp [part, isAgg, run_underlying up]
  have p2 : ∀ w, (part f2.type #[.pointer (some ⟨p.1, 0, none⟩), .int .i64 (p.2 : Int)] f2.offset).run Try.prog w = .ok (.int .i64 (p.2 : Int)) w := fun w => by rw [t2, o2]; simp [part, isAgg, run_underlying ui]
  have q2 : ∀ w, (part f2.type #[.pointer (some ⟨q.1, 0, none⟩), .int .i64 (q.2 : Int)] f2.offset).run Try.prog w = .ok (.int .i64 (q.2 : Int)) w := fun w => by rw [t2, o2]; simp [part, isAgg, run_underlying ui]
  have e2 : ∀ w, (Op.equalIn 9999 f2.type (.int .i64 (p.2 : Int)) (.int .i64 (q.2 : Int))).run Try.prog w = .ok ((p.2 : Int) == (q.2 : Int)) w := fun w => by rw [t2]; exact run_equalIn_int w 9998 _ _ _ _ _ ui
  obtain ⟨i, hi, hz, hsz, hby⟩ := info_sexp'
  have e1 : (Op.equalIn 9999 f1.type (.pointer (some ⟨p.1, 0, none⟩)) (.pointer (some ⟨q.1, 0, none⟩))).run Try.prog w = .ok (decide (p.1 = q.1)) w := by
    rw [t1]
    by_cases hpq : p.1 = q.1
    · have h : ∀ d : Nat, (Op.equalIn (d + 1) 48 (.pointer (some ⟨q.1, 0, none⟩)) (.pointer (some ⟨q.1, 0, none⟩))).run Try.prog w = .ok true w := fun d => by
        simp [Op.equalIn, run_underlying up, sizeOf, typeInfo, hi, hsz, run_sameAddr_same]
      rw [hpq, h 9998]
      simp
    · obtain ⟨ca, ha⟩ := hp
      obtain ⟨cb, hb⟩ := hq
      have h : ∀ d : Nat, (Op.equalIn (d + 1) 48 (.pointer (some ⟨p.1, 0, none⟩)) (.pointer (some ⟨q.1, 0, none⟩))).run Try.prog w = .ok false w := fun d => by
        simp [Op.equalIn, run_underlying up, sizeOf, typeInfo, hi, hsz, run_sameAddr_other w (show (⟨p.1, 0, none⟩ : Addr) ≠ ⟨q.1, 0, none⟩ from fun e => hpq (congrArg Addr.block e)) ha hb]
      rw [h 9998]
      simp [hpq]
  have hpq : decide (p = q) = (decide (p.1 = q.1) && ((p.2 : Int) == (q.2 : Int))) := by
    rw [Bool.eq_iff_iff]
    simp only [decide_eq_true_eq, Prod.ext_iff, Bool.and_eq_true, beq_iff_eq]
    omega
  rw [hpq]
  simp only [Op.eqFields, ne_eq, n1, n2, not_false_eq_true, if_true, Sem.run_bind, p1, q1, p2, q2, e1, e2, Result.andThen_ok]
  generalize (decide (p.1 = q.1)) = b1 at *
  generalize ((p.2 : Int) == (q.2 : Int)) = b2 at *
  cases b1 <;> cases b2 <;> simp [e2, p2, q2]
theorem run_check_pl (w : World) (em : Bool) (p : Nat × Nat) : (Instr.checkKey em 10000 82 (pk p)).run Try.prog w = .ok () w := by
  have ht : Try.prog.underlying 82 = some (.struct (Try.prog.fieldsOf 82)) := by kernel_rfl
  have hf : (Try.prog.fieldsOf 82).toList.map (fun f => (f.name == "_", f.type, f.offset)) = [(false, 48, 0), (false, 3, 1)] := by kernel_rfl
  have ui := Try.underlying3
  have up := Try.underlying48
  rw [Instr.checkKey]
  simp only [Sem.run_bind, run_underlying ht, Result.andThen_ok, pk]
  rw [← Array.forIn_toList]
  generalize (Try.prog.fieldsOf 82).toList = fs at hf ⊢
  clear ht
  rcases fs with _ | ⟨f1, _ | ⟨f2, _ | ⟨f3, r⟩⟩⟩ <;> simp at hf
  obtain ⟨⟨n1, t1, o1⟩, ⟨n2, t2, o2⟩⟩ := hf
  have c1 : ∀ v, (Instr.checkKey em 9999 48 v).run Try.prog w = .ok () w := fun v => by unfold Instr.checkKey; simp [run_underlying up]
  have c2 : ∀ v, (Instr.checkKey em 9999 3 v).run Try.prog w = .ok () w := fun v => by unfold Instr.checkKey; simp [run_underlying ui]
  simp [n1, n2, t1, t2, o1, o2, part, isAgg, run_underlying ui, run_underlying up, c1, c2]
/-! ### The map -/
/-- What is known: the entries, in order. -/
structure PMap (w : World) (m : Nat) (M : List ((Nat × Nat) × Int)) : Prop where
  at_ : ∃ es clock, w.heap[m]? = some (.map es clock) ∧ es.toList.map (fun e => (e.key, e.val)) = M.map (fun e => (pk e.1, Value.int .i64 e.2))
  blks : ∀ e ∈ M, Blk w e.1.1
/-- What is known of a place. -/
def look : List ((Nat × Nat) × Int) → Nat × Nat → Option Int
  | [], _ => none
  | e :: M, p => if p = e.1 then some e.2 else look M p
def upd : List ((Nat × Nat) × Int) → Nat × Nat → Int → List ((Nat × Nat) × Int)
  | [], p, d => [(p, d)]
  | e :: M, p, d => if p = e.1 then (p, d) :: M else e :: upd M p d
theorem look_upd : ∀ (M : List ((Nat × Nat) × Int)) (p : Nat × Nat) (d : Int), look (upd M p d) p = some d
  | [], p, d => by simp [upd, look]
  | e :: M, p, d => by
    unfold upd
    split
    · simp [look]
    · rename_i h
      rw [look, if_neg h, look_upd M]
theorem look_other : ∀ (M : List ((Nat × Nat) × Int)) (p q : Nat × Nat) (d : Int), q ≠ p → look (upd M p d) q = look M q
  | [], p, q, d, h => by simp [upd, look, h]
  | e :: M, p, q, d, h => by
    unfold upd
    split
    · rename_i h'
      subst h'
      simp [look, h]
    · simp only [look, look_other M p q d h]
theorem mem_upd : ∀ {M : List ((Nat × Nat) × Int)} {p : Nat × Nat} {d : Int} {e : (Nat × Nat) × Int}, e ∈ upd M p d → e ∈ M ∨ e = (p, d)
  | [], p, d, e, h => by simp [upd] at h; exact .inr h
  | e' :: M, p, d, e, h => by
    unfold upd at h
    split at h
    · rcases List.mem_cons.1 h with h | h
      · exact .inr h
      · exact .inl (by simp [h])
    · rcases List.mem_cons.1 h with h | h
      · exact .inl (by simp [h])
      · rcases mem_upd h with h | h
        · exact .inl (by simp [h])
        · exact .inr h
/-- Where a place stands. -/
def spot : List ((Nat × Nat) × Int) → Nat × Nat → Nat → Option (Nat × Value)
  | [], _, _ => none
  | e :: M, p, i => if p = e.1 then some (i, .int .i64 e.2) else spot M p (i + 1)
theorem spot_look : ∀ (M : List ((Nat × Nat) × Int)) (p : Nat × Nat) (i : Nat), (spot M p i).map (·.2) = (look M p).map (fun d => Value.int .i64 d)
  | [], _, _ => rfl
  | e :: M, p, i => by
    unfold spot look
    split
    · rfl
    · exact spot_look M p (i + 1)
theorem sameNow_pl (fs : Array Field) (p : Nat × Nat) (v : Value) : Instr.sameNow (.struct fs) (pk p) v = none := by
  unfold Instr.sameNow
  split <;> simp_all [pk]
theorem run_findAsking_pl {w : World} {p : Nat × Nat} (hp : Blk w p.1) : ∀ (es : List MapEntry) (M : List ((Nat × Nat) × Int)) (i : Nat), es.map (fun e => (e.key, e.val)) = M.map (fun e => (pk e.1, Value.int .i64 e.2)) → (∀ e ∈ M, Blk w e.1.1) →
    (Instr.findAsking 82 (pk p) es i).run Try.prog w = .ok (spot M p i) w
  | [], [], i, _, _ => rfl
  | [], _ :: _, i, h, _ => by simp at h
  | _ :: _, [], i, h, _ => by simp at h
  | e :: es, x :: M, i, h, hb => by
    simp only [List.map_cons, List.cons.injEq, Prod.mk.injEq] at h
    obtain ⟨⟨h1, h2⟩, h3⟩ := h
    have ih := run_findAsking_pl hp es M (i + 1) h3 (fun e he => hb e (by simp [he]))
    rw [Instr.findAsking, spot, h1, h2]
    simp only [Sem.run_bind, run_eql_pl hp (hb x (by simp)), Result.andThen_ok]
    by_cases hx : p = x.1
    · simp [hx]
    · simp [hx, ih]
theorem run_findKey_pl {w : World} {p : Nat × Nat} {es : Array MapEntry} {M : List ((Nat × Nat) × Int)} (hp : Blk w p.1) (he : es.toList.map (fun e => (e.key, e.val)) = M.map (fun e => (pk e.1, Value.int .i64 e.2))) (hb : ∀ e ∈ M, Blk w e.1.1) :
    (Instr.findKey 82 (pk p) es.toList).run Try.prog w = .ok (spot M p 0) w := by
  have ht : Try.prog.underlying 82 = some (.struct (Try.prog.fieldsOf 82)) := by kernel_rfl
  unfold Instr.findKey
  simp only [Sem.run_bind, run_underlying ht, Result.andThen_ok]
  have ha := run_findAsking_pl hp es.toList M 0 he hb
  match hl : es.toList with
  | [] =>
    rw [hl] at he
    have : M = [] := by simpa using he.symm
    subst this
    simp [Instr.findNow, spot]
  | e :: r =>
    rw [hl] at ha
    simp only [Instr.findNow]
    have : ∀ v, Instr.sameNow (.struct (Try.prog.fieldsOf 82)) (pk p) v = none := sameNow_pl _ p
    rw [this]
    exact ha
theorem spot_at : ∀ (M : List ((Nat × Nat) × Int)) (p : Nat × Nat) (i : Nat) (j : Nat) (v : Value), spot M p i = some (j, v) → ∃ k, j = i + k ∧ k < M.length ∧ (M[k]?.map (·.1)) = some p ∧ ∀ d, upd M p d = M.modify k (fun _ => (p, d))
  | [], _, _, _, _, h => by simp [spot] at h
  | e :: M, p, i, j, v, h => by
    unfold spot at h
    split at h
    · rename_i hp
      simp at h
      refine ⟨0, by omega, by simp, by simp [hp], fun d => ?_⟩
      unfold upd
      rw [if_pos hp]
      rfl
    · rename_i hp
      obtain ⟨k, h1, h2, h3, h4⟩ := spot_at M p (i + 1) j v h
      refine ⟨k + 1, by omega, by simp; omega, by simpa using h3, fun d => ?_⟩
      unfold upd
      rw [if_neg hp, h4 d]
      rfl
theorem spot_none : ∀ (M : List ((Nat × Nat) × Int)) (p : Nat × Nat) (i : Nat), spot M p i = none → ∀ d, upd M p d = M ++ [(p, d)]
  | [], _, _, _, d => rfl
  | e :: M, p, i, h, d => by
    unfold spot at h
    split at h
    · cases h
    · rename_i hp
      unfold upd
      rw [if_neg hp, spot_none M p (i + 1) h d]
      rfl
section
variable {w : World} {m : Nat} {M : List ((Nat × Nat) × Int)} {p : Nat × Nat}
theorem PMap.lookup (h : PMap w m M) (hp : Blk w p.1) : (Instr.lookup 69 (.map (some m)) (pk p) true).run Try.prog w = .ok (.tuple #[.int .i64 ((look M p).getD 0), .bool (look M p).isSome]) w := by
  obtain ⟨⟨es, clock, h1, h2⟩, h3⟩ := h
  have ht := Try.underlying69
  have hz : (zeroValue 3).run Try.prog w = .ok (.int .i64 0) w := by go_simp
  have hk := run_findKey_pl hp h2 h3
  have hl := spot_look M p 0
  unfold Instr.lookup
  simp only [Sem.run_bind, run_underlying ht, MapKept.run_getObj_map h1, Result.andThen_ok, Sem.run_pure, run_check_pl, hk]
  cases hs : spot M p 0 with
  | none =>
    rw [hs] at hl
    have : look M p = none := by simpa using hl.symm
    simp [this, hz]
  | some x =>
    obtain ⟨j, v⟩ := x
    rw [hs] at hl
    obtain ⟨d, hd, hv⟩ : ∃ d, look M p = some d ∧ Value.int .i64 d = v := by
      cases hq : look M p with
      | none => rw [hq] at hl; simp at hl
      | some d => rw [hq] at hl; simp at hl; exact ⟨d, rfl, hl.symm⟩
    simp [hd, hv]
theorem PMap.update (h : PMap w m M) (hp : Blk w p.1) (d : Int) : ∃ w', (Instr.mapUpdate 69 (.map (some m)) (pk p) (.int .i64 d)).run Try.prog w = .ok () w' ∧ PMap w' m (upd M p d) ∧ Chg (fun j => j = m) w w' := by
  obtain ⟨⟨es, clock, h1, h2⟩, h3⟩ := h
  have ht := Try.underlying69
  have hlt := (Array.getElem?_eq_some_iff.1 h1).1
  have hk := run_findKey_pl hp h2 h3
  have hset : ∀ o, Chg (fun j => j = m) w (setBlock w m o) := fun o => ⟨rfl, rfl, rfl, by simp [setBlock], fun j _ hj => by
    show (w.heap.setIfInBounds m o)[j]? = _
    rw [Array.getElem?_setIfInBounds, if_neg (fun e => hj e.symm)]⟩
  have hbl : ∀ o, ∀ e ∈ upd M p d, Blk (setBlock w m o) e.1.1 := by
    intro o e he
    have : Blk w e.1.1 := by
      rcases mem_upd he with he | rfl
      · exact h3 e he
      · exact hp
    obtain ⟨cur, hc⟩ := this
    have hne : e.1.1 ≠ m := fun e' => by rw [e', h1] at hc; cases hc
    exact ⟨cur, ((hset o).block _ (Array.getElem?_eq_some_iff.1 hc).1 hne).trans hc⟩
  have hlen : es.toList.length = M.length := by have := congrArg List.length h2; simpa using this
  cases hs : spot M p 0 with
  | none =>
    refine ⟨setBlock w m (.map (es.push { key := pk p, val := .int .i64 d, born := clock }) (clock + 1)), ?_, ⟨⟨_, _, by simp [setBlock, hlt]; exact ⟨rfl, rfl⟩, ?_⟩, hbl _⟩, hset _⟩
    · rw [hs] at hk
      simp [Instr.mapUpdate, run_underlying ht, MapKept.run_getObj_map h1, run_check_pl, hk, MapKept.run_setObj_map _ h1, setBlock]
    · rw [spot_none M p 0 hs, Array.toList_push, List.map_append, h2, List.map_append]
      rfl
  | some x =>
    obtain ⟨j, v⟩ := x
    obtain ⟨k, hjk, hkl, hkm, hup⟩ := spot_at M p 0 j v hs
    have hj : j = k := by omega
    subst hj
    have hkey : ((es[j]?).map (·.key)) = some (pk p) := by
      have := congrArg (fun l => l[j]?.map (·.1)) h2
      simp only [List.getElem?_map, Array.getElem?_toList, Option.map_map] at this
      rw [show (fun e : MapEntry => e.key) = (fun x : Value × Value => x.1) ∘ (fun e : MapEntry => (e.key, e.val)) from rfl, this]
      cases hq : M[j]? with
      | none => rw [hq] at hkm; simp at hkm
      | some y => rw [hq] at hkm; simp at hkm; simp [hkm]
    refine ⟨setBlock w m (.map (es.modify j fun e => { e with key := pk p, val := .int .i64 d }) clock), ?_, ⟨⟨_, _, by simp [setBlock, hlt]; exact ⟨rfl, rfl⟩, ?_⟩, hbl _⟩, hset _⟩
    · rw [hs] at hk
      have hkk : ((es[j]?).map (·.key)).getD (pk p) = pk p := by rw [hkey]; rfl
      have hsb : Instr.sameBits 10000 (pk p) (pk p) = true := by simp [Instr.sameBits, pk]
      simp [Instr.mapUpdate, run_underlying ht, MapKept.run_getObj_map h1, run_check_pl, hk, hkk, Instr.keyThatStays, hsb, MapKept.run_setObj_map _ h1, setBlock]
    · rw [hup d]
      apply List.ext_getElem?
      intro i
      have hi := congrArg (fun l => l[i]?) h2
      simp only [List.getElem?_map, Array.getElem?_toList] at hi
      simp only [List.getElem?_map, Array.getElem?_toList, Array.getElem?_modify, List.getElem?_modify]
      by_cases hij : j = i
      · subst hij
        simp only [if_true]
        have hlt2 : j < es.size := by have : es.toList.length = es.size := by simp
                                      omega
        rw [Array.getElem?_eq_getElem hlt2, List.getElem?_eq_getElem hkl]
        simp
      · simp only [if_neg hij]
        simpa [hij] using hi
theorem PMap.turn {w' : World} {S : Nat → Prop} (h : PMap w m M) (hc : Chg S w w') (hm : ¬ S m) (hS : ∀ g, Blk w g → (∃ d n, ((g, n), d) ∈ M) → ¬ S g) : PMap w' m M := by
  obtain ⟨⟨es, clock, h1, h2⟩, h3⟩ := h
  refine ⟨⟨es, clock, (hc.block m (Array.getElem?_eq_some_iff.1 h1).1 hm).trans h1, h2⟩, fun e he => ?_⟩
  obtain ⟨cur, hcur⟩ := h3 e he
  exact ⟨cur, (hc.block _ (Array.getElem?_eq_some_iff.1 hcur).1 (hS _ ⟨cur, hcur⟩ ⟨e.2, e.1.2, by obtain ⟨⟨g, n⟩, d⟩ := e; exact he⟩)).trans hcur⟩
end
end Go.Proofs.Ytgojipnhnmigpaa
