/-
  Layer 9: what a node must be, plainly.
-/
set_option linter.unusedVariables false
set_option linter.unusedSimpArgs false
namespace Go.Proofs.YtmiocohlklnglaaDoor.Tm

structure Opr where
  least : Int
  most : Int
  first : Int
  others : Int
  sort : Int
def big : Int := 9223372036854775807
def oprs : List (Int × Opr) :=
  [(1, ⟨0, 0, 0, 0, 1⟩), (2, ⟨0, 0, 0, 0, 1⟩), (3, ⟨0, 0, 0, 0, 1⟩), (4, ⟨0, 0, 0, 0, 2⟩), (5, ⟨0, 0, 0, 0, 2⟩), (6, ⟨1, 1, 1, 1, 1⟩),
   (7, ⟨2, big, 1, 1, 1⟩), (8, ⟨2, big, 1, 1, 1⟩), (9, ⟨2, big, 1, 1, 1⟩), (10, ⟨2, big, 1, 1, 1⟩), (11, ⟨3, 3, 1, 0, 0⟩), (12, ⟨2, big, 0, 0, 1⟩), (13, ⟨2, big, 0, 0, 1⟩),
   (14, ⟨2, big, 2, 2, 1⟩), (15, ⟨2, big, 2, 2, 1⟩), (16, ⟨2, big, 2, 2, 1⟩), (17, ⟨2, big, 2, 2, 1⟩), (18, ⟨2, big, 2, 2, 2⟩), (19, ⟨1, big, 2, 2, 2⟩), (20, ⟨2, big, 2, 2, 2⟩), (21, ⟨2, big, 2, 2, 2⟩)]
def lookL {α : Type} : List (Int × α) → Int → Option α
  | [], _ => none
  | e :: M, x => if x = e.1 then some e.2 else lookL M x
def oprAt (x : Int) : Option Opr := lookL oprs x
/-- A node: its operator, its unknown, its kids; whether its number is zero, and in its one form. -/
structure Nd where
  op : Int
  v : Int
  kids : List Int
  z : Bool
  ok : Bool
abbrev Kd := Int × Bool
/-- The greatest unknowns, the nodes ahead. -/
structure Ru where
  b : Int
  r : Int
  ks : List Kd
def has (ks : List Kd) (x : Int) : Bool := decide (0 ≤ x) && decide (x < (ks.length : Int))
def kindOf (ks : List Kd) (x : Int) : Kd := if has ks x = true then ks.getD x.toNat (0, false) else (0, false)
def loose (ks : List Kd) (x : Int) : Bool := !(kindOf ks x).2
def greatest (g : Ru) (s : Int) : Int := if s = 1 then g.b else if s = 2 then g.r else 0
def told (g : Ru) (n : Nd) (s : Int) : Bool :=
  if n.op = 3 ∨ n.op = 4 then decide (0 ≤ n.v) && decide (n.v ≤ greatest g s) && n.z
  else if n.op = 5 then decide (n.v = 0) && n.ok
  else decide (n.v = 0) && n.z
def lastOf (kids : List Int) : Int := kids.getD (kids.length - 1) 0
def sortOver (ks : List Kd) (kids : List Int) (s : Int) : Int := if s = 0 then (kindOf ks (lastOf kids)).1 else s
def kidSort (o : Opr) (i : Nat) : Int := if i = 0 then o.first else o.others
def fits (ks : List Kd) (kids : List Int) (o : Opr) (i : Nat) : Bool := decide ((kindOf ks (kids.getD i 0)).1 = sortOver ks kids (kidSort o i))
def sorted (ks : List Kd) (kids : List Int) (o : Opr) : Bool := (List.range kids.length).all (fits ks kids o)
def idxP (p : Int → Bool) : List Int → Int
  | [] => -1
  | x :: l => if p x = true then 0 else if idxP p l < 0 then -1 else idxP p l + 1
def linear (ks : List Kd) (n : Nd) : Bool :=
  if n.op = 20 then decide (idxP (loose ks) n.kids < 0) || !(n.kids.drop ((idxP (loose ks) n.kids).toNat + 1)).any (loose ks)
  else if n.op = 21 then !(n.kids.drop 1).any (loose ks)
  else true
def ground (ks : List Kd) (n : Nd) : Bool := if n.op = 5 then true else if n.op = 18 ∨ n.op = 19 ∨ n.op = 20 ∨ n.op = 21 then !n.kids.any (loose ks) else false
def counts (o : Opr) (k : Int) : Bool := decide (o.least ≤ k) && decide (k ≤ o.most)
def codeOf (g : Ru) (n : Nd) : Nat :=
  match oprAt n.op with
  | none => 1
  | some o =>
    if told g n o.sort = false then 1
    else if n.kids.any (fun x => !has g.ks x) = true then 2
    else if counts o n.kids.length = false then 15
    else if sorted g.ks n.kids o = false then 14
    else if linear g.ks n = false then 16
    else if 1048576 ≤ g.ks.length then 4
    else 0
def sortOf (g : Ru) (n : Nd) : Int := sortOver g.ks n.kids ((oprAt n.op).getD ⟨0, 0, 0, 0, 0⟩).sort
/-- Behind a node. -/
def next (g : Ru) (n : Nd) : Ru := if codeOf g n = 0 then { g with ks := g.ks ++ [(sortOf g n, ground g.ks n)] } else g

/-! ### Lists -/
theorem idxP_bounds (p : Int → Bool) : ∀ l, -1 ≤ idxP p l ∧ idxP p l < l.length
  | [] => by simp [idxP]
  | x :: l => by
    have := idxP_bounds p l
    unfold idxP
    simp only [List.length_cons]
    split
    · omega
    · split <;> omega
theorem idxP_any (p : Int → Bool) : ∀ l, decide (0 ≤ idxP p l) = l.any p
  | [] => by simp [idxP]
  | x :: l => by
    have ih := idxP_any p l
    have hb := idxP_bounds p l
    unfold idxP
    rw [List.any_cons, ← ih]
    by_cases h : p x = true
    · simp [h]
    · rw [if_neg h]
      split
      · rename_i h2
        simp [h]
        omega
      · rename_i h2
        simp [h]
        omega
theorem idxP_none {p : Int → Bool} : ∀ {l : List Int}, (∀ x ∈ l, p x = false) → idxP p l = -1
  | [], _ => rfl
  | x :: l, h => by
    have ih := idxP_none (p := p) (l := l) (fun y hy => h y (by simp [hy]))
    simp [idxP, ih, h x (by simp)]
theorem idxP_at {p : Int → Bool} : ∀ {l : List Int} {k : Nat} {x : Int}, (∀ y ∈ l.take k, p y = false) → l[k]? = some x → p x = true → idxP p l = k
  | [], k, x, _, h, _ => by simp at h
  | y :: l, 0, x, _, h, hp => by
    simp at h
    subst h
    simp [idxP, hp]
  | y :: l, k + 1, x, h1, h, hp => by
    have ih := idxP_at (p := p) (l := l) (k := k) (x := x) (fun z hz => h1 z (by simp [hz])) (by simpa using h) hp
    simp only [idxP, ih, h1 y (by simp)]
    have : ¬ ((k : Int) < 0) := by omega
    simp [this]
theorem all_range_succ (f : Nat → Bool) (k : Nat) : (List.range (k + 1)).all f = ((List.range k).all f && f k) := by
  rw [List.range_succ, List.all_append]
  simp
theorem all_range_stop {f : Nat → Bool} {k n : Nat} (hk : k < n) (hf : f k = false) : (List.range n).all f = false := by
  rw [Bool.eq_false_iff]
  intro h
  rw [List.all_eq_true] at h
  have := h k (by simpa using hk)
  rw [hf] at this
  cases this
theorem any_take_stop {p : Int → Bool} {l : List Int} {k : Nat} {x : Int} (h : l[k]? = some x) (hp : p x = true) : l.any p = true :=
  List.any_eq_true.2 ⟨x, List.mem_of_getElem? h, hp⟩

/-! ### What the statements need -/
theorem kindOf_lt {ks : List Kd} {x : Int} (h : has ks x = true) : 0 ≤ x ∧ x < ks.length := by
  unfold has at h
  simpa using h
/-- More unknowns spoil nothing. -/
theorem codeOf_more {g h : Ru} {n : Nd} (hk : h.ks = g.ks) (hb : g.b ≤ h.b) (hr : g.r ≤ h.r) (h0 : codeOf g n = 0) : codeOf h n = 0 := by
  unfold codeOf at h0 ⊢
  rw [hk]
  cases ho : oprAt n.op with
  | none => rw [ho] at h0; cases h0
  | some o =>
    rw [ho] at h0
    simp only at h0 ⊢
    have ht : told g n o.sort = true := by
      cases hq : told g n o.sort with
      | true => rfl
      | false => rw [hq] at h0; simp at h0
    have ht2 : told h n o.sort = true := by
      unfold told at ht ⊢
      split
      · rename_i h1
        rw [if_pos h1] at ht
        simp only [Bool.and_eq_true, decide_eq_true_eq] at ht ⊢
        refine ⟨⟨ht.1.1, ?_⟩, ht.2⟩
        have := ht.1.2
        unfold greatest at this ⊢
        split
        · rename_i h2; rw [if_pos h2] at this; omega
        · rename_i h2
          rw [if_neg h2] at this
          split
          · rename_i h3; rw [if_pos h3] at this; omega
          · rename_i h3; rw [if_neg h3] at this; exact this
      · rename_i h1
        rw [if_neg h1] at ht
        exact ht
    rw [ht] at h0
    rw [ht2]
    exact h0
theorem sortOf_more {g h : Ru} {n : Nd} (hk : h.ks = g.ks) : sortOf h n = sortOf g n := by unfold sortOf; rw [hk]
/-- Nodes, one behind the other. -/
def runs : Ru → List Nd → Bool
  | _, [] => true
  | g, n :: l => if codeOf g n = 0 then runs (next g n) l else false
def after : Ru → List Nd → Ru
  | g, [] => g
  | g, n :: l => after (next g n) l
theorem runs_app : ∀ (g : Ru) (l m : List Nd), runs g (l ++ m) = (runs g l && runs (after g l) m)
  | g, [], m => by simp [runs, after]
  | g, n :: l, m => by
    simp only [List.cons_append, runs, after]
    split
    · exact runs_app _ l m
    · rfl
theorem runs_take {g : Ru} {l : List Nd} (k : Nat) (h : runs g l = true) : runs g (l.take k) = true := by
  rw [← List.take_append_drop k l, runs_app, Bool.and_eq_true] at h
  exact h.1
theorem runs_at {g : Ru} {l : List Nd} {k : Nat} {n : Nd} (h : runs g l = true) (hn : l[k]? = some n) : codeOf (after g (l.take k)) n = 0 := by
  have hk : k < l.length := (List.getElem?_eq_some_iff.1 hn).1
  rw [← List.take_append_drop k l, runs_app, Bool.and_eq_true] at h
  have h2 := h.2
  rw [List.drop_eq_getElem_cons hk] at h2
  have : l[k] = n := by rw [List.getElem?_eq_getElem hk] at hn; exact Option.some.inj hn
  rw [this] at h2
  unfold runs at h2
  split at h2
  · assumption
  · cases h2
theorem after_take {g : Ru} {l : List Nd} {k : Nat} {n : Nd} (hn : l[k]? = some n) : after g (l.take (k + 1)) = next (after g (l.take k)) n := by
  have hk : k < l.length := (List.getElem?_eq_some_iff.1 hn).1
  have : l[k] = n := by rw [List.getElem?_eq_getElem hk] at hn; exact Option.some.inj hn
  rw [List.take_succ_eq_append_getElem hk, this]
  have app : ∀ (g : Ru) (l : List Nd) (n : Nd), after g (l ++ [n]) = next (after g l) n := by
    intro g l n
    induction l generalizing g with
    | nil => rfl
    | cons a l ih => exact ih _
  exact app g _ n
theorem runs_more : ∀ {g h : Ru} {l : List Nd}, h.ks = g.ks → g.b ≤ h.b → g.r ≤ h.r → runs g l = true → runs h l = true
  | g, h, [], _, _, _, _ => rfl
  | g, h, n :: l, hk, hb, hr, hh => by
    unfold runs at hh ⊢
    split at hh
    · rename_i h0
      have h1 := codeOf_more hk hb hr h0
      rw [if_pos h1]
      refine runs_more (g := next g n) ?_ ?_ ?_ hh
      · unfold next; rw [if_pos h0, if_pos h1]; simp only [hk, sortOf_more hk]
      · unfold next; rw [if_pos h0, if_pos h1]; exact hb
      · unfold next; rw [if_pos h0, if_pos h1]; exact hr
    · cases hh
theorem after_len : ∀ {g : Ru} {l : List Nd}, runs g l = true → (after g l).ks.length = g.ks.length + l.length
  | g, [], _ => rfl
  | g, n :: l, h => by
    unfold runs at h
    split at h
    · rename_i h0
      rw [after, after_len h]
      unfold next
      rw [if_pos h0]
      simp
      omega
    · cases h
theorem after_b : ∀ {g : Ru} {l : List Nd}, (after g l).b = g.b ∧ (after g l).r = g.r
  | g, [] => ⟨rfl, rfl⟩
  | g, n :: l => by
    rw [after]
    have := @after_b (next g n) l
    have e : (next g n).b = g.b ∧ (next g n).r = g.r := by unfold next; split <;> exact ⟨rfl, rfl⟩
    rw [e.1, e.2] at this
    exact this
/-- A node that is ground is a number, over such. -/
theorem ground_says {g : Ru} {n : Nd} (h0 : codeOf g n = 0) (hg : ground g.ks n = true) : sortOf g n = 2 ∧ ∀ x ∈ n.kids, has g.ks x = true ∧ (kindOf g.ks x).2 = true := by
  have hkids : n.op ≠ 5 → ∀ x ∈ n.kids, (kindOf g.ks x).2 = true := by
    intro h5 x hx
    unfold ground at hg
    rw [if_neg h5] at hg
    split at hg
    · have hh : n.kids.any (loose g.ks) = false := by simpa using hg
      rw [List.any_eq_false] at hh
      have := hh x hx
      unfold loose at this
      simpa using this
    · cases hg
  unfold codeOf at h0
  cases ho : oprAt n.op with
  | none => rw [ho] at h0; cases h0
  | some o =>
    rw [ho] at h0
    simp only at h0
    have hany : ∀ x ∈ n.kids, has g.ks x = true := by
      intro x hx
      split at h0
      · cases h0
      · split at h0
        · cases h0
        · rename_i hq
          have hq' : n.kids.any (fun x => !has g.ks x) = false := by simpa using hq
          rw [List.any_eq_false] at hq'
          simpa using hq' x hx
    have hcount : counts o n.kids.length = true := by
      split at h0
      · cases h0
      · split at h0
        · cases h0
        · split at h0
          · cases h0
          · rename_i hq
            simpa using hq
    unfold ground at hg
    by_cases h5 : n.op = 5
    · have hoo : o = ⟨0, 0, 0, 0, 2⟩ := by rw [h5] at ho; exact (Option.some.inj ho).symm
      subst hoo
      have hnil : n.kids = [] := by
        unfold counts at hcount
        rw [Bool.and_eq_true, decide_eq_true_eq, decide_eq_true_eq] at hcount
        have h2 := hcount.2
        simp only at h2
        exact List.length_eq_zero_iff.1 (by omega)
      refine ⟨?_, by rw [hnil]; simp⟩
      unfold sortOf
      rw [ho]
      rfl
    · refine ⟨?_, fun x hx => ⟨hany x hx, hkids h5 x hx⟩⟩
      rw [if_neg h5] at hg
      split at hg
      · rename_i h18
        unfold sortOf
        rw [ho]
        have hs : o.sort = 2 := by
          rcases h18 with h | h | h | h <;> (rw [h] at ho; cases (Option.some.inj ho); rfl)
        show sortOver _ _ o.sort = 2
        rw [hs]
        rfl
      · cases hg
theorem kindOf_last {g : Ru} {n : Nd} (h0 : codeOf g n = 0) : kindOf (next g n).ks (g.ks.length : Int) = (sortOf g n, ground g.ks n) := by
  unfold kindOf has next
  rw [if_pos h0]
  simp
  omega
theorem kindOf_old {g : Ru} {n : Nd} {x : Int} (h : has g.ks x = true) : kindOf (next g n).ks x = kindOf g.ks x := by
  have hx := kindOf_lt h
  unfold next
  split
  · have h2 : has (g.ks ++ [(sortOf g n, ground g.ks n)]) x = true := by
      unfold has
      simp
      omega
    unfold kindOf
    rw [if_pos h2, if_pos h]
    simp only [List.getD_eq_getElem?_getD]
    rw [List.getElem?_append_left (by omega)]
  · rfl
end Go.Proofs.YtmiocohlklnglaaDoor.Tm
