/-
  Layer 8: tokens and expressions in memory.
-/
import Derived.Test.YtgojipnhnmigpaaLxRead
import Derived.Test.YtgojipnhnmigpaaSxPure
set_option linter.unusedVariables false
set_option linter.unusedSimpArgs false
namespace Go.Proofs.Ytgojipnhnmigpaa
open Go.RowKit Sx

/-! ### append, and whose block is whose -/
section
variable {P : Program} {w : World} {base : Nat}
theorem run_append_mine (t ty e : TypeId) (i : TypeInfo) (z : Value) (size bytes : Nat) (ht : P.underlying t = some (.slice e)) (hi : P.info? e = some i) (hz : i.zero = some z)
    (hsize : i.size = size) (hby : i.bytes = bytes) (hzs : z.cells.size = size) (hsz : 0 < size)
    (v : Value) (n : Nat) (xs : List Value) (hown : w.ownsRow base e size v n xs)
    (a : Addr) (m c : Nat) (news : List Value) (hl : news.length = m * size) (hnews : ∀ j u, news[j]? = some u → w.cell? (a.add j) = some u) (h1 : ∀ u ∈ news, u.oneCell' = true)
    (h63 : n + m ≤ maxLen) (hbytes : (n + m) * bytes ≤ 140737488355328) (hbase : base ≤ w.heap.size) :
    ∃ v' w', (Builtin.append_ #[t, t] ty #[v, .slice (some a) m c]).run P w = .ok v' w' ∧ w'.ownsRow base e size v' (n + m) (xs ++ news) ∧ w.grownBy w' v.ownBlock ∧ (∀ j, v'.ownBlock = some j → v.ownBlock = some j ∨ w.heap.size ≤ j) := by
  rcases hown.2 with ⟨rfl, rfl⟩ | ⟨g, cap, cur, rfl, hbg, hg, hnc, hcm, hcs, htake⟩
  · have hx : xs = [] := List.eq_nil_of_length_eq_zero (by simpa using hown.1)
    subst hx
    obtain ⟨v', w', q1, q2, q3, _⟩ := run_append_own (P := P) w w.heap.size t ty e i z size bytes ht hi hz hsize hby hzs hsz (.slice none 0 0) 0 [] (World.ownsRow_nil w _ _ _) a m c news hl hnews h1 h63 hbytes (Nat.le_refl _)
    refine ⟨v', w', q1, ⟨q2.1, ?_⟩, q3, fun j hj => .inr (World.ownsRow.lt q2 j hj).1⟩
    rcases q2.2 with h | ⟨g, cap, cur, e1, e2, e3⟩
    · exact .inl h
    · exact .inr ⟨g, cap, cur, e1, Nat.le_trans hbase e2, e3⟩
  · obtain ⟨v', w', q1, q2, q3, _⟩ := run_append_own (P := P) w base t ty e i z size bytes ht hi hz hsize hby hzs hsz _ n xs hown a m c news hl hnews h1 h63 hbytes hbase
    refine ⟨v', w', q1, q2, q3, ?_⟩
    subst hsize
    by_cases hroom : n + m ≤ cap
    · have hfit : n * i.size + news.length ≤ cur.size := by rw [hl, hcs, ← Nat.add_mul]; exact Nat.mul_le_mul_right _ hroom
      have hr := run_append_room (P := P) w t ty e i ht hi g n cap cur hg a m c news hl hnews h1 hroom hfit
      rw [q1] at hr
      cases hr
      intro j hj
      exact .inl hj
    · have holds : ∀ j u, xs[j]? = some u → w.cell? ((⟨g, 0, none⟩ : Addr).add j) = some u := hown.cells (g := g) rfl
      subst hby
      have hr := run_append_grow (P := P) w t ty e i z ht hi hz ⟨g, 0, none⟩ n cap xs hown.1 holds a m c news hl hnews (by omega) (by unfold maxLen at h63; omega) (growslice_fits (by omega) hbytes)
      rw [q1] at hr
      cases hr
      intro j hj
      simp [Value.ownBlock] at hj
      exact .inr (by omega)
end

/-! ### Tokens -/
def kcell (t : Tk) : List Value := [.int .i64 t.k, .string t.t, .int .i64 t.p]
def kcells (l : List Tk) : List Value := l.flatMap kcell
theorem kcells_cons (t : Tk) (l : List Tk) : kcells (t :: l) = kcell t ++ kcells l := rfl
theorem kcells_app (l m : List Tk) : kcells (l ++ m) = kcells l ++ kcells m := by simp [kcells]
theorem kcells_len (l : List Tk) : (kcells l).length = l.length * 3 := by
  induction l with
  | nil => rfl
  | cons t l ih => rw [kcells_cons, List.length_append, ih]; simp [kcell]; omega
theorem kcells_one (l : List Tk) : ∀ v ∈ kcells l, v.oneCell' = true := by
  intro v hv
  obtain ⟨t, _, ht⟩ := List.mem_flatMap.1 hv
  simp [kcell] at ht
  rcases ht with rfl | rfl | rfl <;> rfl
theorem kcells_at : ∀ (l : List Tk) (i : Nat) (t : Tk), l[i]? = some t → ∀ j v, (kcell t)[j]? = some v → (kcells l)[i * 3 + j]? = some v
  | t' :: l, 0, t, h, j, v, hv => by
    simp at h
    subst h
    have hj : j < (kcell t').length := (List.getElem?_eq_some_iff.1 hv).1
    rw [kcells_cons, Nat.zero_mul, Nat.zero_add, List.getElem?_append_left hj]
    exact hv
  | t' :: l, i + 1, t, h, j, v, hv => by
    have ih := kcells_at l i t (by simpa using h) j v hv
    have hl : (kcell t').length = 3 := rfl
    rw [kcells_cons, List.getElem?_append_right (by omega), hl, show (i + 1) * 3 + j - 3 = i * 3 + j by omega]
    exact ih
/-- Tokens in memory. -/
def TksAt (w : World) (a : Option Addr) (l : List Tk) : Prop := l = [] ∨ ∃ g off, a = some ⟨g, off, none⟩ ∧ w.rangeAt g off (kcells l)
/-- Tokens that a call is handed, in old memory. -/
structure TksIn (w : World) (a : Option Addr) (l : List Tk) (c : Nat) : Prop where
  at_ : TksAt w a l
  cap : l.length ≤ c
  capped : c ≤ 9223372036854775807
  mid : a = none ∧ c = 0 ∨ ∃ x, a = some x
section
variable {w w' : World} {a : Option Addr} {l : List Tk} {c : Nat}
theorem TksAt.kept (h : TksAt w a l) (hb : Below w.heap.size w w') : TksAt w' a l := by
  rcases h with e | ⟨g, off, e, h⟩
  · exact .inl e
  · exact .inr ⟨g, off, e, fun j u hu => (hb.cell (p := ⟨g, off + j, none⟩) (World.block_lt_of_cell? _ _ (h j u hu))).trans (h j u hu)⟩
/-- What stands in old memory stays, whatever the call does with its own. -/
theorem TksAt.below {B : Nat} (h : TksAt w a l) (hB : ∀ g off, a = some ⟨g, off, none⟩ → l ≠ [] → g < B) (hb : Below B w w') : TksAt w' a l := by
  rcases h with e | ⟨g, off, e, h⟩
  · exact .inl e
  · by_cases hl : l = []
    · exact .inl hl
    · refine .inr ⟨g, off, e, fun j u hu => ?_⟩
      have := World.cell?_of_block (a := ⟨g, off + j, none⟩) (hb.block g (hB g off e hl))
      rw [this]
      exact h j u hu
theorem TksAt.lt (h : TksAt w a l) : ∀ g off, a = some ⟨g, off, none⟩ → l ≠ [] → g < w.heap.size := by
  intro g off e hl
  rcases h with e' | ⟨g', off', e', h⟩
  · exact absurd e' hl
  · rw [e] at e'
    cases e'
    cases l with
    | nil => exact absurd rfl hl
    | cons t r => exact World.block_lt_of_cell? _ _ (h 0 (.int .i64 t.k) rfl)
theorem TksAt.get (h : TksAt w a l) {i : Nat} {t : Tk} (hi : l[i]? = some t) : ∃ g off, a = some ⟨g, off, none⟩ ∧ w.rangeAt g (off + i * 3) (kcell t) := by
  rcases h with e | ⟨g, off, e, h⟩
  · subst e; simp at hi
  · exact ⟨g, off, e, fun j u hu => by rw [show off + i * 3 + j = off + (i * 3 + j) by omega]; exact h _ u (kcells_at l i t hi j u hu)⟩
end

/-! ### Expressions -/
/-- An expression's cells. -/
def sx5 (l : Bool) (t : Tk) (v : Value) : List Value := [.bool l, .int .i64 t.k, .string t.t, .int .i64 t.p, v]
/-- What is at a row's address. -/
def BlkAt (w : World) (F : Nat → Prop) (a : Option Addr) (n : Nat) (C : List Value) : Prop :=
  n = 0 ∨ ∃ g cur, a = some ⟨g, 0, none⟩ ∧ F g ∧ w.heap[g]? = some (.cells cur 38 (0, 0)) ∧ cur.toList.take (n * 5) = C
/-- Expressions, by their cells; all blocks that they reach are such. -/
def FoAt (w : World) (F : Nat → Prop) : Fo → List Value → Prop
  | .nil, C => C = []
  | .cons l t k r, C => ∃ a c D C', C = sx5 l t (.slice a k.len c) ++ C' ∧ k.len ≤ c ∧ c ≤ maxLen ∧ (a = none → c = 0) ∧ BlkAt w F a k.len D ∧ FoAt w F k D ∧ FoAt w F r C'
/-- A slice of expressions. -/
def SlAt (w : World) (F : Nat → Prop) (v : Value) (k : Fo) : Prop :=
  ∃ a c D, v = .slice a k.len c ∧ k.len ≤ c ∧ c ≤ maxLen ∧ (a = none → c = 0) ∧ BlkAt w F a k.len D ∧ FoAt w F k D
theorem FoAt_cons {w : World} {F : Nat → Prop} {l : Bool} {t : Tk} {k r : Fo} {C : List Value} : FoAt w F (.cons l t k r) C ↔ ∃ v C', C = sx5 l t v ++ C' ∧ SlAt w F v k ∧ FoAt w F r C' := by
  constructor
  · rintro ⟨a, c, D, C', h1, h2, h3, h4, h5, h6, h7⟩
    exact ⟨_, C', h1, ⟨a, c, D, rfl, h2, h3, h4, h5, h6⟩, h7⟩
  · rintro ⟨v, C', h1, ⟨a, c, D, rfl, h2, h3, h4, h5, h6⟩, h7⟩
    exact ⟨a, c, D, C', h1, h2, h3, h4, h5, h6, h7⟩
section
variable {w w' : World} {F G : Nat → Prop}
theorem BlkAt.lt {a : Option Addr} {n : Nat} {C : List Value} (h : BlkAt w F a n C) (hn : n ≠ 0) : ∃ g, a = some ⟨g, 0, none⟩ ∧ F g ∧ g < w.heap.size := by
  rcases h with e | ⟨g, cur, e, h1, h2, _⟩
  · exact absurd e hn
  · exact ⟨g, e, h1, (Array.getElem?_eq_some_iff.1 h2).1⟩
theorem BlkAt.turn {S : Nat → Prop} {a : Option Addr} {n : Nat} {C : List Value} (h : BlkAt w F a n C) (hc : Chg S w w') (hS : ∀ k, F k → k < w.heap.size → ¬ S k) (hG : ∀ k, F k → k < w.heap.size → G k) : BlkAt w' G a n C := by
  rcases h with e | ⟨g, cur, e, h1, h2, h3⟩
  · exact .inl e
  · have hl := (Array.getElem?_eq_some_iff.1 h2).1
    exact .inr ⟨g, cur, e, hG g h1 hl, (hc.block g hl (hS g h1 hl)).trans h2, h3⟩
theorem FoAt.turn {S : Nat → Prop} (hc : Chg S w w') (hS : ∀ k, F k → k < w.heap.size → ¬ S k) (hG : ∀ k, F k → k < w.heap.size → G k) : ∀ {x : Fo} {C : List Value}, FoAt w F x C → FoAt w' G x C
  | .nil, C, h => h
  | .cons l t k r, C, h => by
    obtain ⟨a, c, D, C', h1, h2, h3, h4, h5, h6, h7⟩ := h
    exact ⟨a, c, D, C', h1, h2, h3, h4, h5.turn hc hS hG, h6.turn hc hS hG, h7.turn hc hS hG⟩
theorem SlAt.turn {S : Nat → Prop} {v : Value} {k : Fo} (h : SlAt w F v k) (hc : Chg S w w') (hS : ∀ k, F k → k < w.heap.size → ¬ S k) (hG : ∀ k, F k → k < w.heap.size → G k) : SlAt w' G v k := by
  obtain ⟨a, c, D, h1, h2, h3, h4, h5, h6⟩ := h
  exact ⟨a, c, D, h1, h2, h3, h4, h5.turn hc hS hG, h6.turn hc hS hG⟩
theorem SlAt.kept {v : Value} {k : Fo} (h : SlAt w F v k) (hb : Below w.heap.size w w') : SlAt w' F v k := h.turn (S := fun _ => False) (.of_below hb) (fun _ _ _ h => h) (fun _ h _ => h)
theorem SlAt.mono {v : Value} {k : Fo} (h : SlAt w F v k) (hG : ∀ k, F k → k < w.heap.size → G k) : SlAt w G v k := h.turn (S := fun _ => False) (.of_below (.refl _ _)) (fun _ _ _ h => h) hG
theorem FoAt.len : ∀ {x : Fo} {C : List Value}, FoAt w F x C → C.length = x.len * 5
  | .nil, C, h => by rw [show C = [] from h]; rfl
  | .cons l t k r, C, h => by
    obtain ⟨a, c, D, C', rfl, h2, h3, h4, h5, h6, h7⟩ := h
    rw [List.length_append, h7.len]
    simp [sx5, Fo.len]
    omega
theorem FoAt.one : ∀ {x : Fo} {C : List Value}, FoAt w F x C → ∀ v ∈ C, v.oneCell' = true
  | .nil, C, h => by rw [show C = [] from h]; simp
  | .cons l t k r, C, h => by
    obtain ⟨a, c, D, C', rfl, h2, h3, h4, h5, h6, h7⟩ := h
    intro v hv
    rcases List.mem_append.1 hv with hv | hv
    · simp [sx5] at hv
      rcases hv with rfl | rfl | rfl | rfl | rfl <;> rfl
    · exact h7.one v hv
theorem FoAt.app : ∀ {x y : Fo} {C D : List Value}, FoAt w F x C → FoAt w F y D → FoAt w F (x.app y) (C ++ D)
  | .nil, y, C, D, h, h' => by rw [show C = [] from h]; exact h'
  | .cons l t k r, y, C, D, h, h' => by
    obtain ⟨v, C', rfl, h2, h3⟩ := FoAt_cons.1 h
    rw [List.append_assoc]
    exact FoAt_cons.2 ⟨v, _, rfl, h2, h3.app h'⟩
theorem FoAt.single {l : Bool} {t : Tk} {v : Value} {k : Fo} (h : SlAt w F v k) : FoAt w F (.one l t k) (sx5 l t v) := FoAt_cons.2 ⟨v, [], by simp, h, rfl⟩
theorem FoAt.get : ∀ {x : Fo} {C : List Value} {i : Nat} {l : Bool} {t : Tk} {k : Fo}, FoAt w F x C → x.at? i = some (l, t, k) → ∃ v, SlAt w F v k ∧ ∀ j u, (sx5 l t v)[j]? = some u → C[i * 5 + j]? = some u
  | .nil, C, i, l, t, k, h, hi => by simp [Fo.at?] at hi
  | .cons l' t' k' r, C, 0, l, t, k, h, hi => by
    obtain ⟨v, C', rfl, h2, h3⟩ := FoAt_cons.1 h
    simp [Fo.at?] at hi
    obtain ⟨rfl, rfl, rfl⟩ := hi
    refine ⟨v, h2, fun j u hu => ?_⟩
    rw [Nat.zero_mul, Nat.zero_add, List.getElem?_append_left (List.getElem?_eq_some_iff.1 hu).1]
    exact hu
  | .cons l' t' k' r, C, i + 1, l, t, k, h, hi => by
    obtain ⟨v', C', rfl, h2, h3⟩ := FoAt_cons.1 h
    obtain ⟨v, q1, q2⟩ := h3.get (i := i) hi
    refine ⟨v, q1, fun j u hu => ?_⟩
    have hl : (sx5 l' t' v').length = 5 := rfl
    rw [List.getElem?_append_right (by omega), hl, show (i + 1) * 5 + j - 5 = i * 5 + j by omega]
    exact q2 j u hu
/-- What is read of memory is one thing. -/
theorem FoAt.same : ∀ {x y : Fo} {C : List Value}, FoAt w F x C → FoAt w G y C → x = y
  | .nil, .nil, C, _, _ => rfl
  | .nil, .cons l t k r, C, h, h' => by
    obtain ⟨v, C', e, _⟩ := FoAt_cons.1 h'
    rw [show C = [] from h] at e
    simp [sx5] at e
  | .cons l t k r, .nil, C, h, h' => by
    obtain ⟨v, C', e, _⟩ := FoAt_cons.1 h
    rw [show C = [] from h'] at e
    simp [sx5] at e
  | .cons l t k r, .cons l' t' k' r', C, h, h' => by
    obtain ⟨a, c, D, C', rfl, h2, h3, h4, h5, h6, h7⟩ := h
    obtain ⟨a', c', D', C'', e, g2, g3, g4, g5, g6, g7⟩ := h'
    simp [sx5] at e
    obtain ⟨rfl, e1, e2, e3, ⟨rfl, e5, rfl⟩, rfl⟩ := e
    have ht : t = t' := by cases t; cases t'; simp_all
    subst ht
    have hk : k = k' := by
      rcases h5 with h5 | ⟨g, cur, rfl, _, hb, hd⟩
      · rw [Fo.len_zero h5, Fo.len_zero (by omega : k'.len = 0)]
      · rcases g5 with g5 | ⟨g', cur', ea, _, hb', hd'⟩
        · rw [Fo.len_zero (by omega : k.len = 0), Fo.len_zero g5]
        · cases ea
          rw [hb] at hb'
          cases hb'
          rw [← e5, hd] at hd'
          subst hd'
          exact h6.same g6
    rw [hk, h7.same g7]
theorem SlAt.value {v : Value} {k : Fo} (h : SlAt w F v k) : ∃ a c, v = .slice a k.len c ∧ k.len ≤ c ∧ c ≤ maxLen ∧ (a = none → c = 0) := by
  obtain ⟨a, c, D, h1, h2, h3, h4, _⟩ := h
  exact ⟨a, c, h1, h2, h3, h4⟩
theorem SlAt.nil (w : World) (F : Nat → Prop) : SlAt w F (.slice none 0 0) .nil := ⟨none, 0, [], rfl, Nat.zero_le _, by unfold maxLen; omega, fun _ => rfl, .inl rfl, rfl⟩
/-- One expression of a slice. -/
theorem SlAt.get {a : Option Addr} {n c : Nat} {k : Fo} (h : SlAt w F (.slice a n c) k) {i : Nat} {l : Bool} {t : Tk} {k' : Fo} (hi : k.at? i = some (l, t, k')) :
    ∃ g v, a = some ⟨g, 0, none⟩ ∧ F g ∧ SlAt w F v k' ∧ w.rangeAt g (i * 5) (sx5 l t v) := by
  obtain ⟨a', c', D, e, h2, h3, h4, h5, h6⟩ := h
  cases e
  obtain ⟨v, q1, q2⟩ := h6.get hi
  rcases h5 with h5 | ⟨g, cur, e, hF, hb, hd⟩
  · rw [Fo.len_zero h5] at hi
    simp [Fo.at?] at hi
  · refine ⟨g, v, e, hF, q1, fun j u hu => ?_⟩
    have := q2 j u hu
    rw [← hd, List.getElem?_take] at this
    split at this
    · simp only [World.cell?, hb]
      simpa using this
    · cases this
end
/-! ### Rows of expressions of a call's own -/
/-- A row in the call's own memory: its own block isn't reached by what is in it. -/
def RowS (w : World) (B : Nat) (F : Nat → Prop) (v : Value) (x : Fo) : Prop := ∃ C, w.ownsRow B 38 5 v x.len C ∧ FoAt w F x C
theorem info_sexp : (Try.prog.info? 38).map (fun i => (i.zero, i.size, i.bytes)) = some (some (.agg #[.bool false, .int .i64 0, .string { data := #[] }, .int .i64 0, .slice none 0 0]), 5, 64) := by kernel_rfl
theorem info_sexp' : ∃ i, Try.prog.info? 38 = some i ∧ i.zero = some (.agg #[.bool false, .int .i64 0, .string { data := #[] }, .int .i64 0, .slice none 0 0]) ∧ i.size = 5 ∧ i.bytes = 64 := by
  have hi := info_sexp
  cases hq : Try.prog.info? 38 with
  | none => rw [hq] at hi; cases hi
  | some q => rw [hq] at hi; simp at hi; exact ⟨q, rfl, hi.1, hi.2.1, hi.2.2⟩
section
variable {w w' : World} {B : Nat} {F : Nat → Prop} {v : Value} {x : Fo}
theorem RowS.nil (w : World) (B : Nat) (F : Nat → Prop) : RowS w B F (.slice none 0 0) .nil := ⟨[], World.ownsRow_nil _ _ _ _, rfl⟩
theorem RowS.lt (h : RowS w B F v x) : ∀ k, v.ownBlock = some k → B ≤ k ∧ k < w.heap.size := by
  obtain ⟨C, h1, _⟩ := h
  exact fun k hk => World.ownsRow.lt h1 k hk
theorem ownsRow_turn {S : Nat → Prop} {e : TypeId} {s n : Nat} {C : List Value} (h : w.ownsRow B e s v n C) (hc : Chg S w w') (hS : ∀ k, v.ownBlock = some k → ¬ S k) : w'.ownsRow B e s v n C := by
  obtain ⟨h1, h2 | ⟨g, cap, cur, hv, hb, hg, r⟩⟩ := h
  · exact ⟨h1, .inl h2⟩
  · have hl := (Array.getElem?_eq_some_iff.1 hg).1
    exact ⟨h1, .inr ⟨g, cap, cur, hv, hb, (hc.block g hl (hS g (by rw [hv]; rfl))).trans hg, r⟩⟩
theorem ownsRow_mono {B' : Nat} {e : TypeId} {s n : Nat} {C : List Value} (h : w.ownsRow B e s v n C) (hB : B' ≤ B) : w.ownsRow B' e s v n C := by
  obtain ⟨h1, h2 | ⟨g, cap, cur, hv, hb, r⟩⟩ := h
  · exact ⟨h1, .inl h2⟩
  · exact ⟨h1, .inr ⟨g, cap, cur, hv, Nat.le_trans hB hb, r⟩⟩
theorem RowS.turn {S G : Nat → Prop} (h : RowS w B F v x) (hc : Chg S w w') (hv : ∀ k, v.ownBlock = some k → ¬ S k) (hS : ∀ k, F k → k < w.heap.size → ¬ S k) (hG : ∀ k, F k → k < w.heap.size → G k) : RowS w' B G v x := by
  obtain ⟨C, h1, h2⟩ := h
  exact ⟨C, ownsRow_turn h1 hc hv, h2.turn hc hS hG⟩
/-- A row is a slice of expressions, to all to whom its own block is such. -/
theorem RowS.slice {G : Nat → Prop} (h : RowS w B F v x) (hG : ∀ k, F k → k < w.heap.size → G k) (hv : ∀ k, v.ownBlock = some k → G k) : SlAt w G v x := by
  obtain ⟨C, ⟨h1, h2 | ⟨g, cap, cur, rfl, hb, hg, hnc, hcm, hcs, ht⟩⟩, hf⟩ := h
  · obtain ⟨rfl, h2⟩ := h2
    rw [Fo.len_zero h2]
    exact SlAt.nil _ _
  · exact ⟨_, cap, C, rfl, hnc, hcm, (fun h => by cases h), .inr ⟨g, cur, rfl, hv g rfl, hg, ht⟩, hf.turn (S := fun _ => False) (.of_below (.refl _ _)) (fun _ _ _ h => h) hG⟩
end
end Go.Proofs.Ytgojipnhnmigpaa

