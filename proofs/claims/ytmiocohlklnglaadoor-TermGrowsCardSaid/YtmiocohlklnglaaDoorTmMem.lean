/-
  Layer 9: nodes, and rules, in memory; the smallest calls.
-/
import Derived.Test.YtmiocohlklnglaaDoorTmMap
set_option linter.unusedVariables false
set_option linter.unusedSimpArgs false
namespace Go.Proofs.YtmiocohlklnglaaDoor
open Go.RowKit Tm

/-! ### Lists in memory -/
def i64s (l : List Int) : List Value := l.map (Value.int .i64)
theorem i64s_get {l : List Int} {i : Nat} {x : Int} (h : l[i]? = some x) : (i64s l)[i]? = some (.int .i64 x) := by simp [i64s, h]
/-- Kids in memory. -/
structure KAt (w : World) (a : Option Addr) (kids : List Int) (c : Nat) : Prop where
  at_ : kids = [] ∨ ∃ g off, a = some ⟨g, off, none⟩ ∧ w.rangeAt g off (i64s kids)
  cap : kids.length ≤ c
  capped : c ≤ 9223372036854775807
  mid : a = none → c = 0
  few : kids.length ≤ 1000000
/-- Some cells in memory. -/
structure Cel (w : World) (a : Option Addr) (l c : Nat) : Prop where
  at_ : l = 0 ∨ ∃ g off C, a = some ⟨g, off, none⟩ ∧ C.length = l ∧ w.rangeAt g off C ∧ ∀ v ∈ C, v.oneCell' = true
  few : l ≤ 1000000
section
variable {w w' : World} {a : Option Addr} {kids : List Int} {c l : Nat}
theorem KAt.kept (h : KAt w a kids c) (hb : Below w.heap.size w w') : KAt w' a kids c := by
  refine ⟨?_, h.cap, h.capped, h.mid, h.few⟩
  rcases h.at_ with e | ⟨g, off, e, h⟩
  · exact .inl e
  · exact .inr ⟨g, off, e, fun j u hu => (hb.cell (p := ⟨g, off + j, none⟩) (World.block_lt_of_cell? _ _ (h j u hu))).trans (h j u hu)⟩
theorem Cel.kept (h : Cel w a l c) (hb : Below w.heap.size w w') : Cel w' a l c := by
  refine ⟨?_, h.few⟩
  rcases h.at_ with e | ⟨g, off, C, e, hl, h, h1⟩
  · exact .inl e
  · exact .inr ⟨g, off, C, e, hl, fun j u hu => (hb.cell (p := ⟨g, off + j, none⟩) (World.block_lt_of_cell? _ _ (h j u hu))).trans (h j u hu), h1⟩
theorem KAt.cel (h : KAt w a kids c) : Cel w a kids.length c := by
  refine ⟨?_, h.few⟩
  rcases h.at_ with e | ⟨g, off, e, h⟩
  · exact .inl (by rw [e]; rfl)
  · exact .inr ⟨g, off, i64s kids, e, by simp [i64s], h, by intro v hv; simp [i64s] at hv; obtain ⟨x, _, rfl⟩ := hv; rfl⟩
theorem KAt.get (h : KAt w a kids c) {i : Nat} {x : Int} (hi : kids[i]? = some x) : ∃ g off, a = some ⟨g, off, none⟩ ∧ w.cell? ⟨g, off + i, none⟩ = some (.int .i64 x) := by
  rcases h.at_ with e | ⟨g, off, e, h⟩
  · subst e; simp at hi
  · exact ⟨g, off, e, h i _ (i64s_get hi)⟩
theorem KAt.drop (h : KAt w a kids c) {m : Nat} (hm : m ≤ kids.length) {g off : Nat} (ha : a = some ⟨g, off, none⟩) : KAt w (some ⟨g, off + m, none⟩) (kids.drop m) (c - m) := by
  have := h.cap
  have := h.capped
  have := h.few
  refine ⟨?_, by simp; omega, by omega, fun e => (by cases e), by simp; omega⟩
  rcases h.at_ with e | ⟨g', off', e, h⟩
  · exact .inl (by rw [e]; simp)
  · rw [ha] at e
    cases e
    refine .inr ⟨g, off + m, rfl, fun j u hu => ?_⟩
    have hu' : (i64s kids)[m + j]? = some u := by
      simp only [i64s, List.getElem?_map, List.getElem?_drop] at hu ⊢
      exact hu
    rw [Nat.add_assoc]
    exact h (m + j) u hu'
theorem KAt.nil (w : World) : KAt w none [] 0 := ⟨.inl rfl, Nat.le_refl _, by omega, fun _ => rfl, by simp⟩
theorem Cel.nil (w : World) : Cel w none 0 0 := ⟨.inl rfl, by omega⟩
end
/-- A call that tells a value, and changes nothing. -/
def GivesV (v : Value) (w : World) (e : Ending) (w' : World) : Prop := e = .returned v ∧ Below w.heap.size w w'
theorem GivesV.mk' {v : Value} {w w' : World} {e : Ending} (h : e = .returned v) (hb : Below w.heap.size w w') : GivesV v w e w' := ⟨h, hb⟩
theorem GivesV.of (v : Value) (w : World) (o : Obj) : GivesV v w (.returned v) (w.alloc o) := ⟨rfl, (Below.refl _ _).alloc (Nat.le_refl _) _⟩

/-- A node, as it is handed in. -/
structure NodeAt (w : World) (n : Nd) (ka : Option Addr) (kc : Nat) (s : Bool) (a1 : Option Addr) (l1 c1 : Nat) (a2 : Option Addr) (l2 c2 : Nat) : Prop where
  kids : KAt w ka n.kids kc
  z : n.z = (!s && decide (l1 = 0) && decide (l2 = 0))
  m1 : Cel w a1 l1 c1
  m2 : Cel w a2 l2 c2
  right : n.op = 5 → ∀ W, Below w.heap.size w W → Calls Tryd.prog 32 #[.agg #[.bool s, .slice a1 l1 c1, .slice a2 l2 c2]] W (GivesV (.bool n.ok) W)
theorem NodeAt.kept {w w' : World} {n : Nd} {ka : Option Addr} {kc : Nat} {s : Bool} {a1 : Option Addr} {l1 c1 : Nat} {a2 : Option Addr} {l2 c2 : Nat} (h : NodeAt w n ka kc s a1 l1 c1 a2 l2 c2) (hb : Below w.heap.size w w') : NodeAt w' n ka kc s a1 l1 c1 a2 l2 c2 :=
  ⟨h.kids.kept hb, h.z, h.m1.kept hb, h.m2.kept hb, fun h5 W hW => h.right h5 W (hb.trans (hW.mono hb.size))⟩

/-! ### Rules -/
def opV (o : Opr) : Value := .agg #[.int .i64 o.least, .int .i64 o.most, .int .i64 o.first, .int .i64 o.others, .int .i64 o.sort]
def opsV : List (Int × Value) := oprs.map fun e => (e.1, opV e.2)
theorem lookL_map {α β : Type} (f : α → β) : ∀ (M : List (Int × α)) (x : Int), lookL (M.map fun e => (e.1, f e.2)) x = (lookL M x).map f
  | [], _ => rfl
  | e :: M, x => by
    simp only [List.map_cons, lookL]
    split
    · rfl
    · exact lookL_map f M x
theorem look_ops (x : Int) : lookL opsV x = (oprAt x).map opV := lookL_map opV oprs x
def k2 (k : Kd) : List Value := [.int .i64 k.1, .bool k.2]
def kindC (ks : List Kd) : List Value := ks.flatMap k2
theorem kindC_len (ks : List Kd) : (kindC ks).length = ks.length * 2 := by
  induction ks with
  | nil => rfl
  | cons k ks ih => simp only [kindC, List.flatMap_cons, List.length_append] at ih ⊢; rw [ih]; simp [k2]; omega
theorem kindC_app (ks ms : List Kd) : kindC (ks ++ ms) = kindC ks ++ kindC ms := by simp [kindC]
theorem kindC_at : ∀ (ks : List Kd) (i : Nat) (k : Kd), ks[i]? = some k → ∀ j v, (k2 k)[j]? = some v → (kindC ks)[i * 2 + j]? = some v
  | k' :: ks, 0, k, h, j, v, hv => by
    simp at h
    subst h
    have hj : j < (k2 k').length := (List.getElem?_eq_some_iff.1 hv).1
    simp only [kindC, List.flatMap_cons]
    rw [Nat.zero_mul, Nat.zero_add, List.getElem?_append_left hj]
    exact hv
  | k' :: ks, i + 1, k, h, j, v, hv => by
    have ih := kindC_at ks i k (by simpa using h) j v hv
    have hl : (k2 k').length = 2 := rfl
    simp only [kindC, List.flatMap_cons] at ih ⊢
    rw [List.getElem?_append_right (by omega), hl, show (i + 1) * 2 + j - 2 = i * 2 + j by omega]
    exact ih
/-- Rules in memory: a block, two maps, a row. -/
structure RuAt (w : World) (B R mo mg : Nat) (kv : Value) (g : Ru) : Prop where
  head : w.heap[R]? = some (.cells #[.map (some mo), .map (some mg), kv] 60 (0, 0))
  ops : IM w mo opsV
  great : IM w mg [(1, .int .i64 g.b), (2, .int .i64 g.r)]
  row : w.ownsRow B 53 2 kv g.ks.length (kindC g.ks)
  low : B ≤ R ∧ B ≤ mo ∧ B ≤ mg ∧ mo ≠ mg
section
variable {w w' : World} {B R mo mg : Nat} {kv : Value} {g : Ru}
theorem own_tag {t : TypeId} {s n : Nat} {v : Value} {C : List Value} (h : w.ownsRow B t s v n C) {j : Nat} (hj : v.ownBlock = some j) : B ≤ j ∧ ∃ cur, w.heap[j]? = some (.cells cur t (0, 0)) := by
  obtain ⟨_, ⟨rfl, _⟩ | ⟨g, cap, cur, rfl, hb, hg, _⟩⟩ := h
  · simp [Value.ownBlock] at hj
  · cases hj
    exact ⟨hb, cur, hg⟩
theorem ownsRow_chg {S : Nat → Prop} {e : TypeId} {s n : Nat} {v : Value} {C : List Value} (h : w.ownsRow B e s v n C) (hc : Chg S w w') (hS : ∀ k, v.ownBlock = some k → ¬ S k) : w'.ownsRow B e s v n C := by
  obtain ⟨h1, h2 | ⟨g, cap, cur, hv, hb, hg, r⟩⟩ := h
  · exact ⟨h1, .inl h2⟩
  · have hl := (Array.getElem?_eq_some_iff.1 hg).1
    exact ⟨h1, .inr ⟨g, cap, cur, hv, hb, (hc.block g hl (hS g (by rw [hv]; rfl))).trans hg, r⟩⟩
theorem RuAt.chg {S : Nat → Prop} (h : RuAt w B R mo mg kv g) (hc : Chg S w w') (h1 : ¬ S R) (h2 : ¬ S mo) (h3 : ¬ S mg) (h4 : ∀ j, kv.ownBlock = some j → ¬ S j) : RuAt w' B R mo mg kv g := by
  have hR := (Array.getElem?_eq_some_iff.1 h.head).1
  exact ⟨(hc.block R hR h1).trans h.head, h.ops.chg hc h2, h.great.chg hc h3, ownsRow_chg h.row hc h4, h.low⟩
theorem RuAt.kept (h : RuAt w B R mo mg kv g) (hb : Below w.heap.size w w') : RuAt w' B R mo mg kv g := h.chg (S := fun _ => False) (.of_below hb) (fun h => h) (fun h => h) (fun h => h) (fun _ _ h => h)
theorem RuAt.cells (h : RuAt w B R mo mg kv g) : w.cell? ⟨R, 0, none⟩ = some (.map (some mo)) ∧ w.cell? ⟨R, 1, none⟩ = some (.map (some mg)) ∧ w.cell? ⟨R, 2, none⟩ = some kv ∧ w.frozen? ⟨R, 2, none⟩ = false := by
  have := h.head
  simp [World.cell?, World.frozen?, this]
theorem own_value {t : TypeId} {s n : Nat} {v : Value} {C : List Value} (h : w.ownsRow B t s v n C) : ∃ a c, v = .slice a n c ∧ n ≤ c ∧ (∀ x, a = some x → ∃ g, x = ⟨g, 0, none⟩ ∧ B ≤ g ∧ g < w.heap.size) := by
  obtain ⟨_, ⟨rfl, rfl⟩ | ⟨g, cap, cur, rfl, hb, hg, hnc, _⟩⟩ := h
  · exact ⟨none, 0, rfl, Nat.le_refl _, fun x hx => by cases hx⟩
  · exact ⟨some ⟨g, 0, none⟩, cap, rfl, hnc, fun x hx => by cases hx; exact ⟨g, rfl, hb, (Array.getElem?_eq_some_iff.1 hg).1⟩⟩
/-- One kind. -/
theorem RuAt.kind (h : RuAt w B R mo mg kv g) {k : Nat} (hk : k < g.ks.length) : ∃ b c, kv = .slice (some ⟨b, 0, none⟩) g.ks.length c ∧ w.cell? ⟨b, k * 2, none⟩ = some (.int .i64 (g.ks.getD k (0, false)).1) ∧ w.cell? ⟨b, k * 2 + 1, none⟩ = some (.bool (g.ks.getD k (0, false)).2) := by
  have hr := h.row
  have hkk : g.ks[k]? = some (g.ks.getD k (0, false)) := by rw [List.getD_eq_getElem?_getD, List.getElem?_eq_getElem hk]; rfl
  have hl := kindC_len g.ks
  obtain ⟨_, ⟨_, e⟩ | ⟨b, cap, cur, rfl, hb, hg, hnc, hcm, hcs, ht⟩⟩ := hr
  · omega
  · refine ⟨b, cap, rfl, ?_, ?_⟩
    · have := h.row.cellAt (k * 2) (by omega)
      rw [this]
      exact kindC_at g.ks k _ hkk 0 _ rfl
    · have := h.row.cellAt (k * 2 + 1) (by omega)
      rw [this]
      exact kindC_at g.ks k _ hkk 1 _ rfl

/-- Parts of a kind. -/
theorem field_kind (i : Nat) (w : World) (v0 v1 : Value) (hi : i < 2) : (Instr.field 53 (.agg #[v0, v1]) i).run Tryd.prog w = .ok (if i = 0 then v0 else v1) w := by
  have ht : Tryd.prog.underlying 53 = some (.struct (Tryd.prog.fieldsOf 53)) := by kernel_rfl
  have hf : (Tryd.prog.fieldsOf 53).toList.map (fun f => (f.type, f.offset)) = [(3, 0), (4, 1)] := by kernel_rfl
  have ui := Tryd.underlying3
  have ub := Tryd.underlying4
  unfold Instr.field
  simp only [Sem.run_bind, run_underlying ht, Result.andThen_ok]
  rw [← Array.getElem?_toList]
  generalize (Tryd.prog.fieldsOf 53).toList = fs at hf ⊢
  rcases fs with _ | ⟨f1, _ | ⟨f2, _ | ⟨f3, r⟩⟩⟩ <;> simp at hf
  obtain ⟨⟨t1, o1⟩, t2, o2⟩ := hf
  match i, hi with
  | 0, _ => simp [t1, o1, part, isAgg, run_underlying ui, asAgg]
  | 1, _ => simp [t2, o2, part, isAgg, run_underlying ub, asAgg]
theorem field_sort : ∀ (w : World) (v0 v1 : Value), (Instr.field 53 (.agg #[v0, v1]) 0).run Tryd.prog w = .ok v0 w := fun w v0 v1 => field_kind 0 w v0 v1 (by omega)
theorem field_ground : ∀ (w : World) (v0 v1 : Value), (Instr.field 53 (.agg #[v0, v1]) 1).run Tryd.prog w = .ok v1 w := fun w v0 v1 => field_kind 1 w v0 v1 (by omega)

/-! ### The smallest calls -/
theorem has_any (h : RuAt w B R mo mg kv g) (x : Int) : Calls Tryd.prog 23 #[.pointer (some ⟨R, 0, none⟩), .int .i64 x] w fun e w' => e = .returned (.bool (has g.ks x)) ∧ w = w' := by
  obtain ⟨_, _, c2, _⟩ := h.cells
  obtain ⟨a, c, rfl, _, _⟩ := own_value h.row
  unfold has
  generalize g.ks.length = n at *
  clear h
  by_cases h1 : 0 ≤ x
  · have h1' : decide ((0 : Int) ≤ x) = true := by simpa using h1
    rw [h1']
    by_cases h2 : x < (n : Int)
    · have h2' : decide (x < (n : Int)) = true := by simpa using h2
      rw [h2']
      go_enter Tryd.func23, Tryd.ntmps23
      go_wp2
      go_ret
      exact ⟨rfl, rfl⟩
    · have h2' : decide (x < (n : Int)) = false := by simpa using h2
      rw [h2']
      go_enter Tryd.func23, Tryd.ntmps23
      go_wp2
      go_ret
      exact ⟨rfl, rfl⟩
  · have h1' : decide ((0 : Int) ≤ x) = false := by simpa using h1
    rw [h1']
    go_enter Tryd.func23, Tryd.ntmps23
    go_wp2
    go_ret
    exact ⟨rfl, rfl⟩
def kdV (k : Kd) : Value := .agg #[.int .i64 k.1, .bool k.2]
theorem kind_any (h : RuAt w B R mo mg kv g) (x : Int) : Calls Tryd.prog 17 #[.pointer (some ⟨R, 0, none⟩), .int .i64 x] w (GivesV (.agg #[.int .i64 (kindOf g.ks x).1, .bool (kindOf g.ks x).2]) w) := by
  have HH := Lib.hid (fun (W : World) (hb : Below w.heap.size w W) => has_any (h.kept hb) x)
  obtain ⟨_, _, c2, _⟩ := h.cells
  have hR : R < w.heap.size := (Array.getElem?_eq_some_iff.1 h.head).1
  by_cases hx : has g.ks x = true
  · have hx' := kindOf_lt hx
    obtain ⟨k, rfl⟩ : ∃ k : Nat, x = (k : Int) := ⟨x.toNat, by omega⟩
    have hk : k < g.ks.length := by omega
    obtain ⟨b, c, rfl, d1, d2⟩ := h.kind hk
    have e1 : kindOf g.ks (k : Int) = g.ks.getD k (0, false) := by unfold kindOf; rw [if_pos hx]; rfl
    rw [e1]
    rw [hx] at HH
    generalize g.ks.getD k (0, false) = q at *
    obtain ⟨q1, q2⟩ := q
    simp only at d1 d2
    generalize g.ks.length = n at *
    have hb : b < w.heap.size := World.block_lt_of_cell? _ _ d1
    clear h e1 hx hx'
    go_enter Tryd.func17, Tryd.ntmps17
    go_wp2_with fail
    refine (HH.out _ ((Below.refl _ _).alloc (Nat.le_refl _) _)).mono ?_
    rintro e w' ⟨rfl, rfl⟩
    go_wp2_with fail
    refine bodyPost_ret (v := .agg #[.int .i64 q1, .bool q2]) ?_ rfl (GivesV.mk' rfl ?_)
    · simp [results, Tryd.results17, asAddr, Act.put]
      go_simp
    · exact (Below.refl _ _).alloc (Nat.le_refl _) _
  · have hx' : has g.ks x = false := by simpa using hx
    have e1 : kindOf g.ks x = (0, false) := by unfold kindOf; rw [if_neg hx]
    rw [e1]
    rw [hx'] at HH
    clear h e1 hx hx'
    go_enter Tryd.func17, Tryd.ntmps17
    go_wp2_with fail
    refine (HH.out _ ((Below.refl _ _).alloc (Nat.le_refl _) _)).mono ?_
    rintro e w' ⟨rfl, rfl⟩
    go_wp2_with fail
    refine bodyPost_ret (v := .agg #[.int .i64 0, .bool false]) ?_ rfl (GivesV.mk' rfl ?_)
    · simp [results, Tryd.results17, asAddr, Act.put]
      go_simp
    · exact (Below.refl _ _).alloc (Nat.le_refl _) _
end
end Go.Proofs.YtmiocohlklnglaaDoor
