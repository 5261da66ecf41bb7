/-
  Layer 8, as plain lists: tokens, rows of expressions, the lists that aren't closed, what a read comes to.
-/
import Derived.Test.YtgojipnhnmigpaaLxPure
set_option linter.unusedVariables false
set_option linter.unusedSimpArgs false
namespace Go.Proofs.Ytgojipnhnmigpaa.Sx

/-- A token. -/
structure Tk where
  k : Int
  t : ByteArray
  p : Int
/-- A row of expressions, by its first one: whether it is a list, its token, its kids; and the rest. -/
inductive Fo where
  | nil
  | cons (l : Bool) (t : Tk) (k r : Fo)
namespace Fo
def len : Fo → Nat
  | nil => 0
  | cons _ _ _ r => r.len + 1
def app : Fo → Fo → Fo
  | nil, y => y
  | cons l t k r, y => cons l t k (r.app y)
def one (l : Bool) (t : Tk) (k : Fo) : Fo := cons l t k nil
theorem app_nil : ∀ x : Fo, x.app nil = x
  | nil => rfl
  | cons l t k r => by rw [app, app_nil r]
theorem app_assoc : ∀ x y z : Fo, (x.app y).app z = x.app (y.app z)
  | nil, _, _ => rfl
  | cons l t k r, y, z => by rw [app, app, app, app_assoc r]
theorem nil_app (x : Fo) : nil.app x = x := rfl
theorem len_app : ∀ x y : Fo, (x.app y).len = x.len + y.len
  | nil, _ => by simp [app, len]
  | cons l t k r, y => by rw [app, len, len, len_app r]; omega
theorem len_snoc (x : Fo) (l : Bool) (t : Tk) (k : Fo) : (x.app (one l t k)).len = x.len + 1 := by rw [len_app]; rfl
theorem len_zero : ∀ {x : Fo}, x.len = 0 → x = nil
  | nil, _ => rfl
  | cons _ _ _ _, h => by simp [len] at h
/-- The expression at a place. -/
def at? : Fo → Nat → Option (Bool × Tk × Fo)
  | nil, _ => none
  | cons l t k _, 0 => some (l, t, k)
  | cons _ _ _ r, i + 1 => r.at? i
theorem at_some : ∀ (x : Fo) (i : Nat), i < x.len → ∃ l t k, x.at? i = some (l, t, k)
  | nil, i, h => by simp [len] at h
  | cons l t k r, 0, _ => ⟨l, t, k, rfl⟩
  | cons l t k r, i + 1, h => at_some r i (by simp [len] at h; omega)
def size : Fo → Nat
  | nil => 0
  | cons _ _ k r => k.size + r.size + 1
theorem at_size : ∀ {x : Fo} {i : Nat} {l : Bool} {t : Tk} {k : Fo}, x.at? i = some (l, t, k) → k.size < x.size
  | nil, i, l, t, k, h => by simp [at?] at h
  | cons l' t' k' r, 0, l, t, k, h => by simp [at?] at h; obtain ⟨_, _, rfl⟩ := h; simp [size]; omega
  | cons l' t' k' r, i + 1, l, t, k, h => by have := at_size (x := r) (i := i) h; simp [size]; omega
/-- How deep the deepest of them is. -/
def deep : Fo → Nat
  | nil => 0
  | cons l _ k r => max (if l then k.deep + 1 else 0) r.deep
theorem at_deep : ∀ {x : Fo} {i : Nat} {l : Bool} {t : Tk} {k : Fo}, x.at? i = some (l, t, k) → (if l then k.deep + 1 else 0) ≤ x.deep
  | nil, i, l, t, k, h => by simp [at?] at h
  | cons l' t' k' r, 0, l, t, k, h => by simp [at?] at h; obtain ⟨rfl, _, rfl⟩ := h; simp only [deep]; omega
  | cons l' t' k' r, i + 1, l, t, k, h => by have := at_deep (x := r) (i := i) h; simp only [deep]; omega
/-- How deep the deepest of the first ones is. -/
def deepTo : Fo → Nat → Nat
  | nil, _ => 0
  | cons _ _ _ _, 0 => 0
  | cons l _ k r, i + 1 => max (if l then k.deep + 1 else 0) (r.deepTo i)
theorem deepTo_zero (x : Fo) : x.deepTo 0 = 0 := by cases x <;> rfl
theorem deepTo_len : ∀ x : Fo, x.deepTo x.len = x.deep
  | nil => rfl
  | cons l t k r => by rw [len, deepTo, deep, deepTo_len r]
theorem deepTo_succ : ∀ {x : Fo} {i : Nat} {l : Bool} {t : Tk} {k : Fo}, x.at? i = some (l, t, k) → x.deepTo (i + 1) = max (x.deepTo i) (if l then k.deep + 1 else 0)
  | nil, i, l, t, k, h => by simp [at?] at h
  | cons l' t' k' r, 0, l, t, k, h => by
    simp [at?] at h
    obtain ⟨rfl, _, rfl⟩ := h
    simp only [deepTo, deepTo_zero]
    omega
  | cons l' t' k' r, i + 1, l, t, k, h => by
    have := deepTo_succ (x := r) (i := i) h
    rw [deepTo, this, deepTo]
    omega
theorem deepTo_le : ∀ (x : Fo) (i : Nat), x.deepTo i ≤ x.deep
  | nil, _ => Nat.le_refl _
  | cons _ _ _ _, 0 => Nat.zero_le _
  | cons l t k r, i + 1 => by have := deepTo_le r i; simp only [deepTo, deep]; omega
/-- How much there is to do at the expressions from a place on. -/
def work : Fo → Nat
  | nil => 0
  | cons _ _ k r => k.work + r.work + 3
def workAt : Fo → Nat → Nat
  | nil, _ => 0
  | cons l t k r, 0 => (cons l t k r).work
  | cons _ _ _ r, i + 1 => r.workAt i
theorem workAt_zero (x : Fo) : x.workAt 0 = x.work := by cases x <;> rfl
theorem workAt_succ : ∀ {x : Fo} {i : Nat} {l : Bool} {t : Tk} {k : Fo}, x.at? i = some (l, t, k) → x.workAt i = k.work + x.workAt (i + 1) + 3
  | nil, i, l, t, k, h => by simp [at?] at h
  | cons l' t' k' r, 0, l, t, k, h => by
    simp [at?] at h
    obtain ⟨_, _, rfl⟩ := h
    rw [workAt, workAt, workAt_zero, work]
  | cons l' t' k' r, i + 1, l, t, k, h => by
    have := workAt_succ (x := r) (i := i) h
    rw [workAt, this, workAt]
end Fo
/-- A list that isn't closed. -/
structure Fr where
  l : Bool
  t : Tk
  acc : Fo
def Fr.put (f : Fr) (x : Fo) : Fr := ⟨f.l, f.t, f.acc.app x⟩
/-- The next token. -/
def stepF (fs : List Fr) (t : Tk) : Except (Int × Int) (List Fr) :=
  if t.k = 1 then (if 1001 ≤ fs.length then .error (18, t.p) else .ok (⟨true, t, .nil⟩ :: fs))
  else if t.k = 2 then
    match fs with
    | f :: g :: r => .ok (g.put (.one f.l f.t f.acc) :: r)
    | _ => .error (11, t.p)
  else
    match fs with
    | f :: r => .ok (f.put (.one false t .nil) :: r)
    | [] => .error (0, 0)
def runF : List Fr → List Tk → Except (Int × Int) Fo
  | [], [] => .ok .nil
  | [f], [] => .ok f.acc
  | f :: _ :: _, [] => .error (11, f.t.p)
  | fs, t :: ts =>
    match stepF fs t with
    | .error e => .error e
    | .ok gs => runF gs ts
def base : Fr := ⟨false, ⟨0, ⟨#[]⟩, 0⟩, .nil⟩
def readS (ts : List Tk) : Except (Int × Int) Fo := runF [base] ts
section
variable {fs gs : List Fr} {t : Tk} {ts : List Tk} {e : Int × Int}
theorem run_cons : runF fs (t :: ts) = match stepF fs t with | .error e => .error e | .ok gs => runF gs ts := by
  match fs with
  | [] => rfl
  | [_] => rfl
  | _ :: _ :: _ => rfl
theorem run_bad (h : stepF fs t = .error e) : runF fs (t :: ts) = .error e := by rw [run_cons, h]
theorem run_ok (h : stepF fs t = .ok gs) : runF fs (t :: ts) = runF gs ts := by rw [run_cons, h]
theorem step_open (h : t.k = 1) (hd : fs.length ≤ 1000) : stepF fs t = .ok (⟨true, t, .nil⟩ :: fs) := by unfold stepF; rw [if_pos h, if_neg (by omega)]
theorem step_deep (h : t.k = 1) (hd : 1001 ≤ fs.length) : stepF fs t = .error (18, t.p) := by unfold stepF; rw [if_pos h, if_pos hd]
theorem step_close {f g : Fr} {r : List Fr} (h : t.k = 2) : stepF (f :: g :: r) t = .ok (g.put (.one f.l f.t f.acc) :: r) := by unfold stepF; rw [if_neg (by omega), if_pos h]
theorem step_none {f : Fr} (h : t.k = 2) : stepF [f] t = .error (11, t.p) := by unfold stepF; rw [if_neg (by omega), if_pos h]
theorem step_leaf {f : Fr} {r : List Fr} (h1 : t.k ≠ 1) (h2 : t.k ≠ 2) : stepF (f :: r) t = .ok (f.put (.one false t .nil) :: r) := by unfold stepF; rw [if_neg h1, if_neg h2]
theorem step_some (hn : fs ≠ []) (h : stepF fs t = .ok gs) : gs ≠ [] ∧ gs.length ≤ fs.length + 1 := by
  match fs with
  | [] => exact absurd rfl hn
  | [f] =>
    by_cases h1 : t.k = 1
    · rw [step_open h1 (by simp)] at h; cases h; simp
    · by_cases h2 : t.k = 2
      · rw [step_none h2] at h; cases h
      · rw [step_leaf h1 h2] at h; cases h; simp
  | f :: g :: r =>
    by_cases h1 : t.k = 1
    · by_cases hd : (f :: g :: r).length ≤ 1000
      · rw [step_open h1 hd] at h; cases h; simp
      · rw [step_deep h1 (by omega)] at h; cases h
    · by_cases h2 : t.k = 2
      · rw [step_close h2] at h; cases h; simp
      · rw [step_leaf h1 h2] at h; cases h; simp
end
/-! ### Ahead of all -/
/-- Two rows of lists that are one, but for what the first list has ahead. -/
inductive Pre (x : Fo) : List Fr → List Fr → Prop
  | one {f g : Fr} : g.acc = x.app f.acc → Pre x [f] [g]
  | cons {h : Fr} {fs gs : List Fr} : Pre x fs gs → Pre x (h :: fs) (h :: gs)
theorem Pre.length {x : Fo} {fs gs : List Fr} (h : Pre x fs gs) : fs.length = gs.length ∧ 1 ≤ fs.length := by
  induction h with
  | one _ => simp
  | cons _ ih => simp; exact ih.1
theorem Pre.step {x : Fo} {fs gs : List Fr} (h : Pre x fs gs) (t : Tk) : (∃ e, stepF fs t = .error e ∧ stepF gs t = .error e) ∨ ∃ fs' gs', stepF fs t = .ok fs' ∧ stepF gs t = .ok gs' ∧ Pre x fs' gs' := by
  have hl := h.length
  by_cases h1 : t.k = 1
  · by_cases hd : fs.length ≤ 1000
    · exact .inr ⟨_, _, step_open h1 hd, step_open h1 (by omega), .cons h⟩
    · exact .inl ⟨_, step_deep h1 (by omega), step_deep h1 (by omega)⟩
  · by_cases h2 : t.k = 2
    · cases h with
      | one ha => exact .inl ⟨_, step_none h2, step_none h2⟩
      | cons h' =>
        cases h' with
        | one ha => exact .inr ⟨_, _, step_close h2, step_close h2, .one (by simp only [Fr.put, ha, Fo.app_assoc])⟩
        | cons h'' => exact .inr ⟨_, _, step_close h2, step_close h2, .cons h''⟩
    · cases h with
      | one ha => exact .inr ⟨_, _, step_leaf h1 h2, step_leaf h1 h2, .one (by simp only [Fr.put, ha, Fo.app_assoc])⟩
      | cons h' => exact .inr ⟨_, _, step_leaf h1 h2, step_leaf h1 h2, .cons h'⟩
theorem Pre.run {x : Fo} : ∀ (ts : List Tk) {fs gs : List Fr}, Pre x fs gs → runF gs ts = (match runF fs ts with | .error e => .error e | .ok y => .ok (x.app y))
  | [], fs, gs, h => by
    cases h with
    | one ha => simp [runF, ha]
    | cons h' =>
      cases h' with
      | one ha => simp [runF]
      | cons h'' => simp [runF]
  | t :: ts, fs, gs, h => by
    rcases h.step t with ⟨e, h1, h2⟩ | ⟨fs', gs', h1, h2, h3⟩
    · rw [run_bad h1, run_bad h2]
    · rw [run_ok h1, run_ok h2]
      exact Pre.run ts h3
/-- Of two rows of tokens the second goes on where the first ended. -/
theorem run_app : ∀ (a b : List Tk) {fs : List Fr} {x : Fo}, fs ≠ [] → runF fs a = .ok x → ∃ f : Fr, f.acc = x ∧ runF fs (a ++ b) = runF [f] b
  | [], b, fs, x, hn, h => by
    match fs with
    | [] => exact absurd rfl hn
    | [f] => simp [runF] at h; exact ⟨f, h, rfl⟩
    | _ :: _ :: _ => simp [runF] at h
  | t :: a, b, fs, x, hn, h => by
    cases hs : stepF fs t with
    | error e => rw [run_bad hs] at h; cases h
    | ok gs =>
      rw [run_ok hs] at h
      obtain ⟨f, h1, h2⟩ := run_app a b (step_some hn hs).1 h
      exact ⟨f, h1, by rw [List.cons_append, run_ok hs, h2]⟩
theorem read_joined {a b : List Tk} {x y : Fo} (hx : readS a = .ok x) (hy : readS b = .ok y) : readS (a ++ b) = .ok (x.app y) := by
  obtain ⟨f, h1, h2⟩ := run_app a b (by simp) hx
  have := (Pre.one (x := x) (f := base) (g := f) (by rw [h1]; show x = x.app .nil; rw [Fo.app_nil])).run b
  unfold readS at hy ⊢
  rw [h2, this, hy]
/-! ### Lists within lists -/
/-- Closing all of them. -/
def up (i n : Nat) : List Tk := (List.range n).map fun j => ⟨1, ⟨#[40]⟩, ((i + j : Nat) : Int)⟩
def down (i n : Nat) : List Tk := (List.range n).map fun j => ⟨2, ⟨#[41]⟩, ((i + j : Nat) : Int)⟩
theorem up_cons (i n : Nat) : up i (n + 1) = ⟨1, ⟨#[40]⟩, (i : Int)⟩ :: up (i + 1) n := by
  simp [up, List.range_succ_eq_map, Function.comp_def]
  intro a _
  omega
theorem down_cons (i n : Nat) : down i (n + 1) = ⟨2, ⟨#[41]⟩, (i : Int)⟩ :: down (i + 1) n := by
  simp [down, List.range_succ_eq_map, Function.comp_def]
  intro a _
  omega
theorem up_snoc (i n : Nat) : up i (n + 1) = up i n ++ [⟨1, ⟨#[40]⟩, ((i + n : Nat) : Int)⟩] := by simp [up, List.range_succ]
theorem down_snoc (i n : Nat) : down i (n + 1) = down i n ++ [⟨2, ⟨#[41]⟩, ((i + n : Nat) : Int)⟩] := by simp [down, List.range_succ]
theorem up_len (i n : Nat) : (up i n).length = n := by simp [up]
theorem down_len (i n : Nat) : (down i n).length = n := by simp [down]
/-- Lists that have nothing yet. -/
def Bare (fs : List Fr) : Prop := ∀ f ∈ fs, f.acc = .nil
theorem run_down : ∀ (n i d : Nat) (f : Fr) (fs : List Fr), fs.length = n → Bare fs → (∀ g ∈ (f :: fs).dropLast, g.l = true) → f.acc.deep = d → (f.acc.len ≤ 1) → (n = 0 → f.acc.len = 1) → ∃ x : Fo, runF (f :: fs) (down i n) = .ok x ∧ x.len = 1 ∧ x.deep = d + n
  | 0, i, d, f, fs, hl, hb, ht, hd, h1, h0 => by
    obtain rfl : fs = [] := List.eq_nil_of_length_eq_zero hl
    exact ⟨f.acc, rfl, h0 rfl, hd⟩
  | n + 1, i, d, f, fs, hl, hb, ht, hd, h1, h0 => by
    match fs with
    | [] => simp at hl
    | g :: r =>
      rw [down_cons, run_ok (step_close rfl)]
      have hg : g.acc = .nil := hb g (by simp)
      have hf : f.l = true := ht f (by simp [List.dropLast])
      have hdp : (g.put (.one f.l f.t f.acc)).acc.deep = d + 1 := by simp [Fr.put, hg, Fo.app, Fo.one, Fo.deep, hf, hd]
      have hln : (g.put (.one f.l f.t f.acc)).acc.len = 1 := by simp [Fr.put, hg, Fo.app, Fo.one, Fo.len]
      obtain ⟨x, e1, e2, e3⟩ := run_down n (i + 1) (d + 1) (g.put (.one f.l f.t f.acc)) r (by simpa using hl) (fun f hf => hb f (by simp [hf])) (fun f' hf' => by
        cases r with
        | nil => simp at hf'
        | cons r0 rs =>
          simp only [List.dropLast_cons_cons, List.mem_cons] at hf'
          rcases hf' with rfl | hf'
          · exact ht g (by simp)
          · exact ht f' (by simp [hf'])) hdp (by omega) (fun _ => hln)
      exact ⟨x, e1, e2, by omega⟩
theorem run_up : ∀ (n i : Nat) (fs : List Fr) (ts : List Tk), fs.length + n ≤ 1001 → ∃ gs, runF fs (up i n ++ ts) = runF (gs ++ fs) ts ∧ gs.length = n ∧ (∀ g ∈ gs, g.l = true ∧ g.acc = .nil)
  | 0, i, fs, ts, _ => ⟨[], rfl, rfl, by simp⟩
  | n + 1, i, fs, ts, h => by
    rw [up_cons, List.cons_append, run_ok (step_open rfl (by omega))]
    obtain ⟨gs, e1, e2, e3⟩ := run_up n (i + 1) (⟨true, ⟨1, ⟨#[40]⟩, (i : Int)⟩, .nil⟩ :: fs) ts (by simp; omega)
    refine ⟨gs ++ [⟨true, ⟨1, ⟨#[40]⟩, (i : Int)⟩, .nil⟩], by rw [e1]; simp, by simp [e2], ?_⟩
    intro g hg
    rcases List.mem_append.1 hg with hg | hg
    · exact e3 g hg
    · simp at hg; subst hg; simp
theorem read_nested {k i : Nat} (h1 : 1 ≤ k) (hk : k ≤ 1000) : ∃ x, readS (up 0 k ++ down i k) = .ok x ∧ x.len = 1 ∧ x.deep = k := by
  obtain ⟨gs, e1, e2, e3⟩ := run_up k 0 [base] (down i k) (by simp; omega)
  unfold readS
  rw [e1]
  match gs with
  | [] => simp at e2; omega
  | f :: gs =>
    obtain ⟨x, q1, q2, q3⟩ := run_down k i 0 f (gs ++ [base]) (by simpa using e2) (fun g hg => by
      rcases List.mem_append.1 hg with hg | hg
      · exact (e3 g (by simp [hg])).2
      · simp at hg; subst hg; rfl) (fun g hg => by
      rw [← List.cons_append, List.dropLast_concat] at hg
      exact (e3 g hg).1) (by rw [(e3 f (by simp)).2]; rfl) (by rw [(e3 f (by simp)).2]; simp [Fo.len]) (by omega)
    exact ⟨x, q1, q2, by omega⟩
theorem read_deep {k i : Nat} (hk : 1001 ≤ k) : readS (up 0 k ++ down i k) = .error (18, 1000) := by
  obtain ⟨m, rfl⟩ : ∃ m, k = 1000 + (m + 1) := ⟨k - 1001, by omega⟩
  have hs : up 0 (1000 + (m + 1)) = up 0 1000 ++ up 1000 (m + 1) := by
    unfold up
    rw [List.range_add, List.map_append, List.map_map]
    congr 1
    apply List.map_congr_left
    intro a _
    simp
  obtain ⟨gs, e1, e2, e3⟩ := run_up 1000 0 [base] (up 1000 (m + 1) ++ down i (1000 + (m + 1))) (by simp)
  unfold readS
  rw [hs, List.append_assoc, e1, up_cons, List.cons_append, run_bad (step_deep rfl (by simp [e2]))]
  rfl
end Go.Proofs.Ytgojipnhnmigpaa.Sx

