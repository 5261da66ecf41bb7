/-
  Layer 7: tokens of a text, as plain lists: what a text's bytes come to, from a place on.
-/
import Derived.Laws.CopyOwn
set_option linter.unusedVariables false
set_option linter.unusedSimpArgs false
namespace Go.Proofs.Ytgojipnhnmigpaa.Lx

def blankB (c : Int) : Bool := c == 9 || c == 10 || c == 13 || c == 32
def digitB (c : Int) : Bool := decide (48 ≤ c) && decide (c ≤ 57)
def letterB (c : Int) : Bool := decide (97 ≤ c) && decide (c ≤ 122) || decide (65 ≤ c) && decide (c ≤ 90)
def signs : List Int := [126, 33, 64, 36, 37, 94, 38, 42, 95, 45, 43, 61, 60, 62, 46, 63, 47]
def innerB (c : Int) : Bool := letterB c || digitB c || signs.contains c
def plainB (c : Int) : Bool := blankB c || decide (32 < c) && decide (c < 127)
def quotedB (c : Int) : Bool := plainB c && c != 124 && c != 92
def literalB (c : Int) : Bool := plainB c && c != 34
def lineB (c : Int) : Bool := c != 10

/-- Is the byte at a place such? -/
def sees (p : Int → Bool) (bs : List Int) (i : Nat) : Bool := (bs[i]?).any p
/-- The place behind all bytes from one on that are such. -/
def run (p : Int → Bool) (bs : List Int) (i : Nat) : Nat := i + ((bs.drop i).takeWhile p).length
/-- What stands from one place up to another. -/
def seg (bs : List Int) (i j : Nat) : List Int := (bs.drop i).take (j - i)

section
variable {p : Int → Bool} {bs : List Int} {i : Nat}
theorem sees_lt (h : sees p bs i = true) : i < bs.length := by
  unfold sees at h
  by_cases hi : i < bs.length
  · exact hi
  · rw [List.getElem?_eq_none (by omega)] at h
    simp at h
theorem sees_at (hi : i < bs.length) : sees p bs i = p (bs.getD i 0) := by simp [sees, hi]
theorem sees_out (hi : bs.length ≤ i) : sees p bs i = false := by simp [sees, hi]
theorem at_lt {x : Int} (h : bs[i]? = some x) : i < bs.length := (List.getElem?_eq_some_iff.1 h).1
theorem sees_some {x : Int} (h : bs[i]? = some x) : sees p bs i = p x := by simp [sees, h]
theorem run_yes (h : sees p bs i = true) : run p bs i = run p bs (i + 1) := by
  have hi := sees_lt h
  rw [sees_at hi] at h
  unfold run
  rw [List.drop_eq_getElem_cons hi, List.takeWhile_cons]
  simp [hi] at h
  simp [h]
  omega
theorem run_no (h : sees p bs i = false) : run p bs i = i := by
  unfold run
  by_cases hi : i < bs.length
  · rw [sees_at hi] at h
    simp [hi] at h
    rw [List.drop_eq_getElem_cons hi, List.takeWhile_cons]
    simp [h]
  · rw [List.drop_eq_nil_of_le (by omega)]
    simp
theorem run_ge : i ≤ run p bs i := by unfold run; omega
theorem run_le (h : i ≤ bs.length) : run p bs i ≤ bs.length := by
  unfold run
  have := (List.takeWhile_sublist p (l := bs.drop i)).length_le
  simp at this
  omega
theorem run_eq {k : Nat} (hk : sees p bs k = false) : ∀ (n i : Nat), k = i + n → (∀ j, i ≤ j → j < k → sees p bs j = true) → run p bs i = k
  | 0, i, e, _ => by
    obtain rfl : k = i := by omega
    exact run_no hk
  | n + 1, i, e, h => by
    rw [run_yes (h i (by omega) (by omega))]
    exact run_eq hk n (i + 1) (by omega) (fun j h1 h2 => h j (by omega) h2)
theorem run_spec (p : Int → Bool) (bs : List Int) : ∀ (n i : Nat), bs.length - i = n → sees p bs (run p bs i) = false ∧ ∀ j, i ≤ j → j < run p bs i → sees p bs j = true
  | 0, i, e => by
    have h : sees p bs i = false := sees_out (by omega)
    rw [run_no h]
    exact ⟨h, fun j h1 h2 => by omega⟩
  | n + 1, i, e => by
    by_cases h : sees p bs i = true
    · rw [run_yes h]
      obtain ⟨h1, h2⟩ := run_spec p bs n (i + 1) (by omega)
      exact ⟨h1, fun j h3 h4 => by
        by_cases hj : j = i
        · rw [hj]; exact h
        · exact h2 j (by omega) h4⟩
    · have h' : sees p bs i = false := by simpa using h
      rw [run_no h']
      exact ⟨h', fun j h1 h2 => by omega⟩
theorem sees_run : sees p bs (run p bs i) = false := (run_spec p bs _ i rfl).1
theorem run_in {j : Nat} (h1 : i ≤ j) (h2 : j < run p bs i) : sees p bs j = true := (run_spec p bs _ i rfl).2 j h1 h2
theorem run_run : run p bs (run p bs i) = run p bs i := run_no sees_run
theorem run_gt (h : sees p bs i = true) : i < run p bs i := by
  rw [run_yes h]
  have : i + 1 ≤ run p bs (i + 1) := run_ge
  omega
theorem sees_shift (l : List Int) : sees p (l ++ bs) (l.length + i) = sees p bs i := by
  unfold sees
  rw [List.getElem?_append_right (by omega)]
  congr 2
  omega
theorem at_shift (l : List Int) : (l ++ bs)[l.length + i]? = bs[i]? := by
  rw [List.getElem?_append_right (by omega)]
  congr 1
  omega
theorem drop_shift (l : List Int) : (l ++ bs).drop (l.length + i) = bs.drop i := by
  rw [List.drop_append, List.drop_eq_nil_of_le (by omega)]
  simp
theorem run_shift (l : List Int) : run p (l ++ bs) (l.length + i) = l.length + run p bs i := by
  unfold run
  rw [drop_shift]
  omega
theorem seg_shift (l : List Int) (j : Nat) : seg (l ++ bs) (l.length + i) (l.length + j) = seg bs i j := by
  unfold seg
  rw [drop_shift, show l.length + j - (l.length + i) = j - i by omega]
theorem sees_app (r : List Int) (h : i < bs.length) : sees p (bs ++ r) i = sees p bs i := by
  unfold sees
  rw [List.getElem?_append_left h]
theorem run_app {r : List Int} (hr : sees p r 0 = false) (hi : i ≤ bs.length) : run p (bs ++ r) i = run p bs i := by
  have hle : run p bs i ≤ bs.length := run_le hi
  have hge : i ≤ run p bs i := run_ge
  refine run_eq ?_ (run p bs i - i) i (by omega) ?_
  · by_cases h : run p bs i < bs.length
    · rw [sees_app r h]
      exact sees_run
    · have e : run p bs i = bs.length + 0 := by omega
      rw [e, sees_shift]
      exact hr
  · intro j h1 h2
    rw [sees_app r (by omega)]
    exact run_in h1 h2
theorem seg_app {r : List Int} {j : Nat} (hj : j ≤ bs.length) : seg (bs ++ r) i j = seg bs i j := by
  unfold seg
  by_cases h : i ≤ j
  · rw [List.drop_append_of_le_length (by omega), List.take_append_of_le_length (by simp; omega)]
  · rw [show j - i = 0 by omega]
    simp
theorem seg_length {j : Nat} (hj : j ≤ bs.length) : (seg bs i j).length = j - i := by
  unfold seg
  simp
  omega
theorem seg_self : seg bs i i = [] := by simp [seg]
theorem seg_snoc {j : Nat} (h1 : i ≤ j) (h2 : j < bs.length) : seg bs i (j + 1) = seg bs i j ++ [bs.getD j 0] := by
  unfold seg
  rw [show j + 1 - i = (j - i) + 1 by omega, List.take_add_one, List.getElem?_drop, show i + (j - i) = j by omega]
  simp [h2]
theorem seg_cons {j : Nat} (h1 : i < j) (h2 : i < bs.length) : seg bs i j = bs.getD i 0 :: seg bs (i + 1) j := by
  unfold seg
  rw [List.drop_eq_getElem_cons h2, show j - i = (j - (i + 1)) + 1 by omega, List.take_succ_cons]
  simp [h2]
end

/-- The place behind blanks. -/
def skipP (bs : List Int) (i : Nat) : Nat :=
  if h : sees blankB bs i = true then skipP bs (i + 1)
  else if h2 : bs[i]? = some 59 then skipP bs (run lineB bs (i + 1))
  else i
termination_by bs.length - i
decreasing_by
  · have := sees_lt h
    omega
  · have := at_lt h2
    have : i + 1 ≤ run lineB bs (i + 1) := run_ge
    omega
section
variable {bs : List Int} {i : Nat}
theorem skip_blank (h : sees blankB bs i = true) : skipP bs i = skipP bs (i + 1) := by rw [skipP]; simp [h]
theorem semi_noblank (h : bs[i]? = some 59) : sees blankB bs i = false := by rw [sees_some h]; rfl
theorem skip_semi (h : bs[i]? = some 59) : skipP bs i = skipP bs (run lineB bs (i + 1)) := by rw [skipP]; simp [h, semi_noblank h]
theorem skip_stop (h1 : sees blankB bs i = false) (h2 : bs[i]? ≠ some 59) : skipP bs i = i := by rw [skipP]; simp [h1, h2]
theorem skip_run (bs : List Int) : ∀ (n i : Nat), run blankB bs i = i + n → skipP bs i = skipP bs (run blankB bs i)
  | 0, i, e => by rw [e]; rfl
  | n + 1, i, e => by
    have h : sees blankB bs i = true := run_in (Nat.le_refl _) (by omega)
    rw [skip_blank h, run_yes h]
    exact skip_run bs n (i + 1) (by rw [← run_yes h]; omega)
theorem skip_pass (bs : List Int) (i : Nat) : skipP bs i = skipP bs (run blankB bs i) := by
  have : i ≤ run blankB bs i := run_ge
  exact skip_run bs (run blankB bs i - i) i (by omega)
theorem skip_round (h : bs[i]? = some 59) : skipP bs i = skipP bs (run blankB bs (run lineB bs (i + 1))) := by rw [skip_semi h, skip_pass]
theorem skip_ge_le (bs : List Int) : ∀ (n i : Nat), bs.length - i = n → i ≤ skipP bs i ∧ (i ≤ bs.length → skipP bs i ≤ bs.length) := by
  intro n
  induction n using Nat.strongRecOn with
  | _ n ih =>
    intro i e
    by_cases h : sees blankB bs i = true
    · have hl := sees_lt h
      rw [skip_blank h]
      have := ih (bs.length - (i + 1)) (by omega) (i + 1) rfl
      omega
    · by_cases h2 : bs[i]? = some 59
      · have hl := at_lt h2
        have h3 : i + 1 ≤ run lineB bs (i + 1) := run_ge
        have h4 : run lineB bs (i + 1) ≤ bs.length := run_le hl
        rw [skip_semi h2]
        have := ih (bs.length - run lineB bs (i + 1)) (by omega) _ rfl
        omega
      · rw [skip_stop (by simpa using h) h2]
        omega
theorem skip_ge : i ≤ skipP bs i := (skip_ge_le bs _ i rfl).1
theorem skip_le (h : i ≤ bs.length) : skipP bs i ≤ bs.length := (skip_ge_le bs _ i rfl).2 h
end

/-- What one token comes to: where it is wrong; or its kind, what it tells, and where it ends. -/
inductive Res where
  | bad (p : Nat)
  | tok (k : Int) (t : List Int) (e : Nat)

def litP (bs : List Int) (i : Nat) (acc : List Int) : Res :=
  if h : sees plainB bs i = true then
    if bs[i]? = some 34 then
      if bs[i + 1]? = some 34 then litP bs (i + 2) (acc ++ [34]) else .tok 7 acc (i + 1)
    else litP bs (i + 1) (acc ++ [bs.getD i 0])
  else .bad i
termination_by bs.length - i
decreasing_by
  · have := sees_lt h
    omega
  · have := sees_lt h
    omega
section
variable {bs : List Int} {i : Nat} {acc : List Int}
theorem quote_plain (h : bs[i]? = some 34) : sees plainB bs i = true := by rw [sees_some h]; rfl
theorem lit_bad (h : sees plainB bs i = false) : litP bs i acc = .bad i := by rw [litP]; simp [h]
theorem lit_two (h : bs[i]? = some 34) (h2 : bs[i + 1]? = some 34) : litP bs i acc = litP bs (i + 2) (acc ++ [34]) := by rw [litP]; simp [h, h2, quote_plain h]
theorem lit_end (h : bs[i]? = some 34) (h2 : bs[i + 1]? ≠ some 34) : litP bs i acc = .tok 7 acc (i + 1) := by rw [litP]; simp [h, h2, quote_plain h]
theorem lit_more (h : sees plainB bs i = true) (h2 : bs[i]? ≠ some 34) : litP bs i acc = litP bs (i + 1) (acc ++ [bs.getD i 0]) := by rw [litP]; simp [h, h2]
theorem literal_iff : sees literalB bs i = true ↔ sees plainB bs i = true ∧ bs[i]? ≠ some 34 := by
  unfold sees literalB
  cases bs[i]? <;> simp
theorem lit_run (bs : List Int) : ∀ (n i : Nat) (acc : List Int), run literalB bs i = i + n → litP bs i acc = litP bs (run literalB bs i) (acc ++ seg bs i (run literalB bs i))
  | 0, i, acc, e => by rw [e]; simp [seg_self]
  | n + 1, i, acc, e => by
    have h : sees literalB bs i = true := run_in (Nat.le_refl _) (by omega)
    obtain ⟨h1, h2⟩ := literal_iff.1 h
    have ih := lit_run bs n (i + 1) (acc ++ [bs.getD i 0]) (by rw [← run_yes h]; omega)
    rw [lit_more h1 h2, ih, ← run_yes h, seg_cons (i := i) (by omega) (sees_lt h)]
    simp
theorem lit_pass (bs : List Int) (i : Nat) (acc : List Int) : litP bs i acc = litP bs (run literalB bs i) (acc ++ seg bs i (run literalB bs i)) := by
  have : i ≤ run literalB bs i := run_ge
  exact lit_run bs (run literalB bs i - i) i acc (by omega)
/-- Behind the pass: no byte that may stand there, or a ". -/
theorem lit_stop (h : bs[run literalB bs i]? ≠ some 34) : litP bs (run literalB bs i) acc = .bad (run literalB bs i) := by
  have hs : sees literalB bs (run literalB bs i) = false := sees_run
  refine lit_bad ?_
  cases hp : sees plainB bs (run literalB bs i)
  · rfl
  · rw [literal_iff.2 ⟨hp, h⟩] at hs
    cases hs
end

def endP (bs : List Int) (k : Int) (i j : Nat) : Res := if sees innerB bs j = true then .bad j else .tok k (seg bs i j) j
def numP (bs : List Int) (i : Nat) : Res :=
  if bs[i]? = some 48 ∧ i + 1 < run digitB bs (i + 1) then .bad (i + 1)
  else if bs[run digitB bs (i + 1)]? = some 46 then
    (if run digitB bs (run digitB bs (i + 1) + 1) = run digitB bs (i + 1) + 1 then .bad (run digitB bs (i + 1) + 1) else endP bs 5 i (run digitB bs (run digitB bs (i + 1) + 1)))
  else endP bs 4 i (run digitB bs (i + 1))
/-- The token that begins with byte c at a place. -/
def tokC (bs : List Int) (i : Nat) (c : Int) : Res :=
  if c = 40 then .tok 1 [40] (i + 1) else if c = 41 then .tok 2 [41] (i + 1)
  else if c = 124 then (if bs[run quotedB bs (i + 1)]? = some 124 then .tok 3 (seg bs (i + 1) (run quotedB bs (i + 1))) (run quotedB bs (i + 1) + 1) else .bad (run quotedB bs (i + 1)))
  else if c = 34 then litP bs (i + 1) []
  else if c = 58 then (if run innerB bs (i + 1) = i + 1 then .bad (i + 1) else .tok 6 (seg bs (i + 1) (run innerB bs (i + 1))) (run innerB bs (i + 1)))
  else if digitB c = true then numP bs i
  else if innerB c = true then .tok 3 (seg bs i (run innerB bs i)) (run innerB bs i)
  else .bad i
def tokP (bs : List Int) (i : Nat) : Res := tokC bs i (bs.getD i 0)

structure Tok where
  kind : Int
  text : List Int
  pos : Nat

/-- Where a token ends: behind its beginning, and not behind the text. -/
def Res.fits (n i : Nat) : Res → Prop
  | .bad p => i ≤ p ∧ p ≤ n
  | .tok _ _ e => i < e ∧ e ≤ n
theorem lit_fits (bs : List Int) : ∀ (n i : Nat) (acc : List Int) (i0 : Nat), bs.length - i = n → i0 < i → i ≤ bs.length → (litP bs i acc).fits bs.length i0 := by
  intro n
  induction n using Nat.strongRecOn with
  | _ n ih =>
    intro i acc i0 e h1 h2
    cases hp : sees plainB bs i
    · rw [lit_bad hp]
      exact ⟨by omega, h2⟩
    · have hl := sees_lt hp
      by_cases h34 : bs[i]? = some 34
      · by_cases h35 : bs[i + 1]? = some 34
        · have := at_lt h35
          rw [lit_two h34 h35]
          exact ih _ (by omega) (i + 2) _ i0 rfl (by omega) (by omega)
        · rw [lit_end h34 h35]
          exact ⟨by omega, by omega⟩
      · rw [lit_more hp h34]
        exact ih _ (by omega) (i + 1) _ i0 rfl (by omega) (by omega)
theorem end_fits {bs : List Int} {k : Int} {i j : Nat} (h1 : i < j) (h2 : j ≤ bs.length) : (endP bs k i j).fits bs.length i := by
  unfold endP
  split
  · exact ⟨by omega, h2⟩
  · exact ⟨h1, h2⟩
theorem num_fits {bs : List Int} {i : Nat} (hi : i < bs.length) : (numP bs i).fits bs.length i := by
  have a1 : i + 1 ≤ run digitB bs (i + 1) := run_ge
  have a2 : run digitB bs (i + 1) ≤ bs.length := run_le hi
  unfold numP
  split
  · exact ⟨by omega, by omega⟩
  · split
    · rename_i h
      have hl := at_lt h
      have b1 : run digitB bs (i + 1) + 1 ≤ run digitB bs (run digitB bs (i + 1) + 1) := run_ge
      have b2 : run digitB bs (run digitB bs (i + 1) + 1) ≤ bs.length := run_le hl
      split
      · exact ⟨by omega, by omega⟩
      · exact end_fits (by omega) b2
    · exact end_fits (by omega) a2
theorem tok_fits {bs : List Int} {i : Nat} (hi : i < bs.length) : (tokP bs i).fits bs.length i := by
  unfold tokP tokC
  have q1 : i + 1 ≤ run quotedB bs (i + 1) := run_ge
  have q2 : run quotedB bs (i + 1) ≤ bs.length := run_le hi
  have s1 : i + 1 ≤ run innerB bs (i + 1) := run_ge
  have s2 : run innerB bs (i + 1) ≤ bs.length := run_le hi
  have s3 : run innerB bs i ≤ bs.length := run_le (by omega)
  split
  · exact ⟨by omega, by omega⟩
  split
  · exact ⟨by omega, by omega⟩
  split
  · split
    · rename_i h
      exact ⟨by omega, at_lt h⟩
    · exact ⟨by omega, by omega⟩
  split
  · exact lit_fits bs _ (i + 1) [] i rfl (by omega) (by omega)
  split
  · split
    · exact ⟨by omega, by omega⟩
    · exact ⟨by omega, s2⟩
  split
  · exact num_fits hi
  split
  · rename_i h
    have : i < run innerB bs i := run_gt (by rw [sees_at hi]; exact h)
    exact ⟨this, s3⟩
  · exact ⟨by omega, by omega⟩

/-- The tokens from a place on that is no blank's; or where it is wrong. -/
def rdP (bs : List Int) (i : Nat) (acc : List Tok) : Except Nat (List Tok) :=
  if i < bs.length then
    match tokP bs i with
    | .bad p => .error p
    | .tok k t e => if i < e then rdP bs (skipP bs e) (acc ++ [⟨k, t, i⟩]) else .error 0
  else .ok acc
termination_by bs.length - i
decreasing_by
  have : e ≤ skipP bs e := skip_ge
  omega
/-- The tokens of a text; or where it is wrong. -/
def readP (bs : List Int) : Except Nat (List Tok) := rdP bs (skipP bs 0) []
section
variable {bs : List Int} {i : Nat} {acc : List Tok}
theorem rd_end (h : bs.length ≤ i) : rdP bs i acc = .ok acc := by
  rw [rdP]
  simp [show ¬ i < bs.length by omega]
theorem rd_bad {p : Nat} (h : i < bs.length) (ht : tokP bs i = .bad p) : rdP bs i acc = .error p := by
  rw [rdP]
  simp [h, ht]
theorem rd_tok {k : Int} {t : List Int} {e : Nat} (h : i < bs.length) (ht : tokP bs i = .tok k t e) : rdP bs i acc = rdP bs (skipP bs e) (acc ++ [⟨k, t, i⟩]) := by
  have hf := tok_fits h
  rw [ht] at hf
  rw [rdP]
  simp [h, ht, hf.1]
theorem rd_count (bs : List Int) : ∀ (n i : Nat) (acc l : List Tok), bs.length - i = n → rdP bs i acc = .ok l → l.length + min i bs.length ≤ acc.length + bs.length := by
  intro n
  induction n using Nat.strongRecOn with
  | _ n ih =>
    intro i acc l e h
    by_cases hi : i < bs.length
    · cases ht : tokP bs i with
      | bad p => rw [rd_bad hi ht] at h; cases h
      | tok k t x =>
        have hf := tok_fits hi
        rw [ht] at hf
        obtain ⟨hf1, hf2⟩ := hf
        rw [rd_tok hi ht] at h
        have g1 : x ≤ skipP bs x := skip_ge
        have g2 : skipP bs x ≤ bs.length := skip_le hf2
        have := ih _ (by omega) _ _ _ rfl h
        simp at this
        omega
    · rw [rd_end (by omega)] at h
      cases h
      omega
end
end Go.Proofs.Ytgojipnhnmigpaa.Lx

