/-
  Layer 7: two texts with a comment between, as plain lists.
-/
import Derived.Test.YtfmidhjenapaeaaLxPure
set_option linter.unusedVariables false
set_option linter.unusedSimpArgs false
namespace Go.Proofs.Ytfmidhjenapaeaa.Lx

/-! ### Behind another text -/
def Res.shift (n : Nat) : Res → Res
  | .bad p => .bad (n + p)
  | .tok k t e => .tok k t (n + e)
def Tok.shift (n : Nat) (t : Tok) : Tok := ⟨t.kind, t.text, n + t.pos⟩
section
variable {bs : List Int} {i : Nat} (l : List Int)
theorem skip_shift : ∀ (n i : Nat), bs.length - i = n → skipP (l ++ bs) (l.length + i) = l.length + skipP bs i := by
  intro n
  induction n using Nat.strongRecOn with
  | _ n ih =>
    intro i e
    by_cases h : sees blankB bs i = true
    · have hl := sees_lt h
      rw [skip_blank h, skip_blank (i := l.length + i) (by rw [sees_shift]; exact h), Nat.add_assoc]
      exact ih _ (by omega) (i + 1) rfl
    · by_cases h2 : bs[i]? = some 59
      · have hl := at_lt h2
        have h3 : i + 1 ≤ run lineB bs (i + 1) := run_ge
        rw [skip_semi h2, skip_semi (i := l.length + i) (by rw [at_shift]; exact h2), Nat.add_assoc, run_shift]
        exact ih _ (by omega) _ rfl
      · rw [skip_stop (by simpa using h) h2, skip_stop (by rw [sees_shift]; simpa using h) (by rw [at_shift]; exact h2)]
theorem lit_shift : ∀ (n i : Nat) (acc : List Int), bs.length - i = n → litP (l ++ bs) (l.length + i) acc = (litP bs i acc).shift l.length := by
  intro n
  induction n using Nat.strongRecOn with
  | _ n ih =>
    intro i acc e
    cases hp : sees plainB bs i
    · rw [lit_bad hp, lit_bad (by rw [sees_shift]; exact hp)]
      rfl
    · have hl := sees_lt hp
      by_cases h34 : bs[i]? = some 34
      · by_cases h35 : bs[i + 1]? = some 34
        · rw [lit_two h34 h35, lit_two (i := l.length + i) (by rw [at_shift]; exact h34) (by rw [Nat.add_assoc, at_shift]; exact h35), Nat.add_assoc]
          exact ih _ (by omega) (i + 2) _ rfl
        · rw [lit_end h34 h35, lit_end (i := l.length + i) (by rw [at_shift]; exact h34) (by rw [Nat.add_assoc, at_shift]; exact h35)]
          rfl
      · have hg : (l ++ bs).getD (l.length + i) 0 = bs.getD i 0 := by rw [List.getD_eq_getElem?_getD, at_shift, ← List.getD_eq_getElem?_getD]
        rw [lit_more hp h34, lit_more (i := l.length + i) (by rw [sees_shift]; exact hp) (by rw [at_shift]; exact h34), hg, Nat.add_assoc]
        exact ih _ (by omega) (i + 1) _ rfl
theorem end_shift (k : Int) (i j : Nat) : endP (l ++ bs) k (l.length + i) (l.length + j) = (endP bs k i j).shift l.length := by
  unfold endP
  rw [sees_shift, seg_shift]
  split <;> rfl
theorem num_shift (i : Nat) : numP (l ++ bs) (l.length + i) = (numP bs i).shift l.length := by
  unfold numP
  rw [at_shift, Nat.add_assoc, run_shift, at_shift, Nat.add_assoc, run_shift, end_shift, end_shift]
  by_cases h1 : bs[i]? = some 48 ∧ i + 1 < run digitB bs (i + 1)
  · rw [if_pos h1, if_pos ⟨h1.1, by omega⟩]
    rfl
  · rw [if_neg h1, if_neg (by rintro ⟨h2, h3⟩; exact h1 ⟨h2, by omega⟩)]
    by_cases h2 : bs[run digitB bs (i + 1)]? = some 46
    · rw [if_pos h2, if_pos h2]
      by_cases h3 : run digitB bs (run digitB bs (i + 1) + 1) = run digitB bs (i + 1) + 1
      · rw [if_pos h3, if_pos (by omega)]
        rfl
      · rw [if_neg h3, if_neg (by omega)]
    · rw [if_neg h2, if_neg h2]
theorem tok_shift (hi : i < bs.length) : tokP (l ++ bs) (l.length + i) = (tokP bs i).shift l.length := by
  have hg : (l ++ bs).getD (l.length + i) 0 = bs.getD i 0 := by rw [List.getD_eq_getElem?_getD, at_shift, ← List.getD_eq_getElem?_getD]
  unfold tokP
  rw [hg]
  generalize bs.getD i 0 = c
  unfold tokC
  rw [Nat.add_assoc, run_shift, run_shift, run_shift, at_shift, seg_shift, seg_shift, seg_shift, lit_shift l _ _ _ rfl, num_shift]
  by_cases h40 : c = 40
  · rw [if_pos h40, if_pos h40]; rfl
  rw [if_neg h40, if_neg h40]
  by_cases h41 : c = 41
  · rw [if_pos h41, if_pos h41]; rfl
  rw [if_neg h41, if_neg h41]
  by_cases h124 : c = 124
  · rw [if_pos h124, if_pos h124]
    split <;> rfl
  rw [if_neg h124, if_neg h124]
  by_cases h34 : c = 34
  · rw [if_pos h34, if_pos h34]
  rw [if_neg h34, if_neg h34]
  by_cases h58 : c = 58
  · rw [if_pos h58, if_pos h58]
    by_cases h : run innerB bs (i + 1) = i + 1
    · rw [if_pos h, if_pos (by omega)]; rfl
    · rw [if_neg h, if_neg (by omega)]; rfl
  rw [if_neg h58, if_neg h58]
  by_cases hd : digitB c = true
  · rw [if_pos hd, if_pos hd]
  rw [if_neg hd, if_neg hd]
  by_cases hn : innerB c = true
  · rw [if_pos hn, if_pos hn]; rfl
  · rw [if_neg hn, if_neg hn]; rfl
theorem rd_shift : ∀ (n i : Nat) (pre acc y : List Tok), bs.length - i = n → rdP bs i acc = .ok y → rdP (l ++ bs) (l.length + i) (pre ++ acc.map (Tok.shift l.length)) = .ok (pre ++ y.map (Tok.shift l.length)) := by
  intro n
  induction n using Nat.strongRecOn with
  | _ n ih =>
    intro i pre acc y e h
    by_cases hi : i < bs.length
    · cases ht : tokP bs i with
      | bad p => rw [rd_bad hi ht] at h; cases h
      | tok k t x =>
        have hf := tok_fits hi
        rw [ht] at hf
        obtain ⟨hf1, hf2⟩ := hf
        have g1 : x ≤ skipP bs x := skip_ge
        rw [rd_tok hi ht] at h
        have hts := tok_shift (l := l) hi
        rw [ht] at hts
        rw [rd_tok (by simp; omega) hts, skip_shift l _ _ rfl]
        have := ih _ (by omega) (skipP bs x) pre _ y rfl h
        simpa [Tok.shift] using this
    · rw [rd_end (by omega)] at h
      cases h
      exact rd_end (by simp; omega)
end
/-! ### Ahead of a text that begins with a line's end -/
section
variable {a r : List Int} {i : Nat}
theorem run_app_lt {p : Int → Bool} (h : run p a i < a.length) : run p (a ++ r) i = run p a i := by
  have hge : i ≤ run p a i := run_ge
  refine run_eq (by rw [sees_app r h]; exact sees_run) (run p a i - i) i (by omega) ?_
  intro j h1 h2
  rw [sees_app r (by omega)]
  exact run_in h1 h2
theorem line0 (p : Int → Bool) (hp : p 10 = false) : sees p (10 :: r) 0 = false := by simpa [sees] using hp
theorem at_app {x : Int} {j : Nat} (hx : x ≠ 10) (hj : j ≤ a.length) : (a ++ 10 :: r)[j]? = some x ↔ a[j]? = some x := by
  by_cases h : j < a.length
  · rw [List.getElem?_append_left h]
  · obtain rfl : j = a.length := by omega
    rw [List.getElem?_append_right (Nat.le_refl _), Nat.sub_self, List.getElem?_eq_none (Nat.le_refl _)]
    simp
    omega
theorem sees_app_le {p : Int → Bool} (hp : p 10 = false) {j : Nat} (hj : j ≤ a.length) : sees p (a ++ 10 :: r) j = sees p a j := by
  by_cases h : j < a.length
  · exact sees_app _ h
  · obtain rfl : j = a.length := by omega
    have := sees_shift (p := p) (bs := 10 :: r) (i := 0) a
    rw [Nat.add_zero] at this
    rw [this, line0 p hp, sees_out (Nat.le_refl _)]
theorem skip_app : ∀ (n i : Nat), a.length - i = n → i ≤ a.length → (skipP a i < a.length → skipP (a ++ 10 :: r) i = skipP a i) ∧ (a.length ≤ skipP a i → skipP (a ++ 10 :: r) i = skipP (a ++ 10 :: r) a.length) := by
  intro n
  induction n using Nat.strongRecOn with
  | _ n ih =>
    intro i e hi
    by_cases hl : i < a.length
    · by_cases h : sees blankB a i = true
      · have := ih _ (by omega) (i + 1) rfl (by omega)
        rw [skip_blank h, skip_blank (bs := a ++ 10 :: r) (i := i) (by rw [sees_app _ hl]; exact h)]
        exact this
      · by_cases h2 : a[i]? = some 59
        · have h3 : i + 1 ≤ run lineB a (i + 1) := run_ge
          have h4 : run lineB a (i + 1) ≤ a.length := run_le hl
          have := ih _ (by omega) (run lineB a (i + 1)) rfl h4
          rw [skip_semi h2, skip_semi (bs := a ++ 10 :: r) (i := i) (by rw [List.getElem?_append_left hl]; exact h2), run_app (line0 lineB rfl) hl]
          exact this
        · have h' : sees blankB a i = false := by simpa using h
          rw [skip_stop h' h2, skip_stop (bs := a ++ 10 :: r) (i := i) (by rw [sees_app _ hl]; exact h') (by rw [List.getElem?_append_left hl]; exact h2)]
          exact ⟨fun _ => rfl, fun h => by omega⟩
    · obtain rfl : i = a.length := by omega
      have : a.length ≤ skipP a a.length := skip_ge
      exact ⟨fun h => by omega, fun _ => rfl⟩
theorem lit_app : ∀ (n i : Nat) (acc : List Int) (k : Int) (t : List Int) (e : Nat), a.length - i = n → litP a i acc = .tok k t e → litP (a ++ 10 :: r) i acc = .tok k t e := by
  intro n
  induction n using Nat.strongRecOn with
  | _ n ih =>
    intro i acc k t e en h
    cases hp : sees plainB a i
    · rw [lit_bad hp] at h; cases h
    · have hl := sees_lt hp
      have hg : (a ++ 10 :: r).getD i 0 = a.getD i 0 := by rw [List.getD_eq_getElem?_getD, List.getElem?_append_left hl, ← List.getD_eq_getElem?_getD]
      have hp' : sees plainB (a ++ 10 :: r) i = true := by rw [sees_app _ hl]; exact hp
      by_cases h34 : a[i]? = some 34
      · have h34' : (a ++ 10 :: r)[i]? = some 34 := by rw [List.getElem?_append_left hl]; exact h34
        by_cases h35 : a[i + 1]? = some 34
        · rw [lit_two h34 h35] at h
          rw [lit_two h34' (by rw [at_app (by omega) (by omega)]; exact h35)]
          exact ih _ (by omega) (i + 2) _ _ _ _ rfl h
        · rw [lit_end h34 h35] at h
          rw [lit_end h34' (by rw [ne_eq, at_app (by omega) (by omega)]; exact h35)]
          exact h
      · rw [lit_more hp h34] at h
        rw [lit_more hp' (by rw [List.getElem?_append_left hl]; exact h34), hg]
        exact ih _ (by omega) (i + 1) _ _ _ _ rfl h
theorem end_app {k : Int} {j : Nat} (hj : j ≤ a.length) : endP (a ++ 10 :: r) k i j = endP a k i j := by
  unfold endP
  rw [sees_app_le rfl hj, seg_app hj]
theorem num_app (hi : i < a.length) : numP (a ++ 10 :: r) i = numP a i := by
  have h1 : run digitB a (i + 1) ≤ a.length := run_le hi
  unfold numP
  rw [run_app (line0 digitB rfl) hi, List.getElem?_append_left hi, end_app h1]
  by_cases c1 : a[i]? = some 48 ∧ i + 1 < run digitB a (i + 1)
  · rw [if_pos c1, if_pos c1]
  rw [if_neg c1, if_neg c1]
  by_cases c2 : a[run digitB a (i + 1)]? = some 46
  · have hl := at_lt c2
    have h2 : run digitB a (run digitB a (i + 1) + 1) ≤ a.length := run_le hl
    rw [if_pos c2, if_pos ((at_app (by omega) h1).2 c2), run_app (line0 digitB rfl) hl, end_app h2]
  · rw [if_neg c2, if_neg (fun h => c2 ((at_app (by omega) h1).1 h))]
theorem tok_app {k : Int} {t : List Int} {e : Nat} (hi : i < a.length) (h : tokP a i = .tok k t e) : tokP (a ++ 10 :: r) i = .tok k t e := by
  have hg : (a ++ 10 :: r).getD i 0 = a.getD i 0 := by rw [List.getD_eq_getElem?_getD, List.getElem?_append_left hi, ← List.getD_eq_getElem?_getD]
  have s2 : run innerB a (i + 1) ≤ a.length := run_le hi
  have s3 : run innerB a i ≤ a.length := run_le (by omega)
  unfold tokP at h ⊢
  rw [hg]
  generalize a.getD i 0 = c at *
  unfold tokC at h ⊢
  by_cases h40 : c = 40
  · rw [if_pos h40] at h ⊢; exact h
  rw [if_neg h40] at h ⊢
  by_cases h41 : c = 41
  · rw [if_pos h41] at h ⊢; exact h
  rw [if_neg h41] at h ⊢
  by_cases h124 : c = 124
  · rw [if_pos h124] at h ⊢
    by_cases hq : a[run quotedB a (i + 1)]? = some 124
    · have hl := at_lt hq
      rw [if_pos hq] at h
      rw [run_app_lt hl, if_pos (by rw [List.getElem?_append_left hl]; exact hq), seg_app (by omega)]
      exact h
    · rw [if_neg hq] at h; cases h
  rw [if_neg h124] at h ⊢
  by_cases h34 : c = 34
  · rw [if_pos h34] at h ⊢
    exact lit_app _ _ _ _ _ _ rfl h
  rw [if_neg h34] at h ⊢
  by_cases h58 : c = 58
  · rw [if_pos h58] at h ⊢
    rw [run_app (line0 innerB rfl) hi, seg_app s2]
    exact h
  rw [if_neg h58] at h ⊢
  by_cases hd : digitB c = true
  · rw [if_pos hd] at h ⊢
    rw [num_app hi]
    exact h
  rw [if_neg hd] at h ⊢
  by_cases hn : innerB c = true
  · rw [if_pos hn] at h ⊢
    rw [run_app (line0 innerB rfl) (by omega), seg_app s3]
    exact h
  · rw [if_neg hn] at h; cases h
theorem rd_app : ∀ (n i : Nat) (acc x : List Tok), a.length - i = n → i ≤ a.length → rdP a (skipP a i) acc = .ok x → rdP (a ++ 10 :: r) (skipP (a ++ 10 :: r) i) acc = rdP (a ++ 10 :: r) (skipP (a ++ 10 :: r) a.length) x := by
  intro n
  induction n using Nat.strongRecOn with
  | _ n ih =>
    intro i acc x en hi h
    obtain ⟨s1, s2⟩ := skip_app (a := a) (r := r) _ i rfl hi
    have hge : i ≤ skipP a i := skip_ge
    by_cases hl : skipP a i < a.length
    · rw [s1 hl]
      cases ht : tokP a (skipP a i) with
      | bad p => rw [rd_bad hl ht] at h; cases h
      | tok k t e =>
        have hf := tok_fits hl
        rw [ht] at hf
        obtain ⟨hf1, hf2⟩ := hf
        rw [rd_tok hl ht] at h
        rw [rd_tok (by simp; omega) (tok_app hl ht)]
        exact ih _ (by omega) e _ x rfl hf2 h
    · rw [rd_end (by omega)] at h
      cases h
      rw [s2 (by omega)]
end
/-- A line's end, a comment, a line's end. -/
def midL (cs : List Int) : List Int := 10 :: 59 :: (cs ++ [10])
theorem mid_skip (a b cs : List Int) (hc : ∀ x ∈ cs, x ≠ 10) : skipP (a ++ (midL cs ++ b)) a.length = a.length + ((midL cs).length + skipP b 0) := by
  have e1 := skip_shift (bs := midL cs ++ b) a _ 0 rfl
  rw [Nat.add_zero] at e1
  rw [e1]
  congr 1
  have e2 := skip_shift (bs := b) (midL cs) _ 0 rfl
  rw [Nat.add_zero] at e2
  rw [← e2]
  have b0 : sees blankB (midL cs ++ b) 0 = true := rfl
  have b1 : (midL cs ++ b)[1]? = some 59 := rfl
  have hlen : (midL cs).length = cs.length + 3 := by simp [midL]
  have hat : ∀ j, j < cs.length → (midL cs ++ b)[j + 2]? = cs[j]? := fun j hj => by
    simp only [midL, List.cons_append, List.getElem?_cons_succ, List.append_assoc]
    rw [List.getElem?_append_left hj]
  have hend : (midL cs ++ b)[cs.length + 2]? = some 10 := by
    simp only [midL, List.cons_append, List.getElem?_cons_succ, List.append_assoc]
    rw [List.getElem?_append_right (Nat.le_refl _), Nat.sub_self]
    rfl
  have hrun : run lineB (midL cs ++ b) 2 = cs.length + 2 := by
    refine run_eq (by rw [sees_some hend]; rfl) cs.length 2 (by omega) ?_
    intro j h1 h2
    obtain ⟨m, rfl⟩ : ∃ m, j = m + 2 := ⟨j - 2, by omega⟩
    have hm : m < cs.length := by omega
    have := hat m hm
    rw [List.getElem?_eq_getElem hm] at this
    rw [sees_some this]
    simpa [lineB] using hc _ (List.getElem_mem hm)
  rw [skip_blank b0, skip_semi b1, hrun, skip_blank (by rw [sees_some hend]; rfl), hlen]
/-- Two texts with a comment between are the tokens of both. -/
theorem read_joined {a b cs : List Int} {x y : List Tok} (hc : ∀ x ∈ cs, x ≠ 10) (hx : readP a = .ok x) (hy : readP b = .ok y) : readP (a ++ (midL cs ++ b)) = .ok (x ++ y.map (Tok.shift (a.length + (midL cs).length))) := by
  unfold readP at hx hy ⊢
  have h1 := rd_app (a := a) (r := 59 :: (cs ++ [10]) ++ b) _ 0 [] x rfl (Nat.zero_le _) hx
  have e : a ++ (midL cs ++ b) = a ++ 10 :: (59 :: (cs ++ [10]) ++ b) := rfl
  rw [e, h1, ← e, mid_skip a b cs hc]
  have h2 := rd_shift (bs := b) (a ++ midL cs) _ (skipP b 0) x [] y rfl hy
  rw [List.append_assoc, List.length_append, Nat.add_assoc] at h2
  simpa using h2
end Go.Proofs.Ytfmidhjenapaeaa.Lx
