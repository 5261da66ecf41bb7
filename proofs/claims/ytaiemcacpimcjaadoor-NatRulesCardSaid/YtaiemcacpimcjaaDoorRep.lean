/-
  Plain mathematics of positional notation: 'val b l' is the number that a row of digits to base b tells (the least one first), 'rep b n' is a number's one row without noughts at its end. No program, no memory.
-/
namespace Go.Proofs.YtaiemcacpimcjaaDoor
namespace Rep

/-- The number of a row of digits, the least one first. -/
def val (b : Nat) : List Nat → Nat
  | [] => 0
  | d :: l => d + b * val b l

def repF (b : Nat) : Nat → Nat → List Nat
  | 0, _ => []
  | f + 1, n => if n = 0 then [] else (n % b) :: repF b f (n / b)

/-- The row of a number, without noughts at its end. -/
def rep (b n : Nat) : List Nat := repF b n n

/-- Digits alone. -/
def Dig (b : Nat) (l : List Nat) : Prop := ∀ d, d ∈ l → d < b
/-- No nought at the end. -/
def Top (l : List Nat) : Prop := l.getLast? ≠ some 0

theorem Dig.nil (b : Nat) : Dig b [] := fun _ h => by cases h
theorem Dig.cons {b d : Nat} {l : List Nat} (h : d < b) (hl : Dig b l) : Dig b (d :: l) := fun x hx => by
  rcases List.mem_cons.1 hx with rfl | hx
  · exact h
  · exact hl x hx
theorem Dig.head {b d : Nat} {l : List Nat} (h : Dig b (d :: l)) : d < b := h d (List.mem_cons_self ..)
theorem Dig.tail {b d : Nat} {l : List Nat} (h : Dig b (d :: l)) : Dig b l := fun x hx => h x (List.mem_cons_of_mem _ hx)
theorem Dig.append {b : Nat} {l m : List Nat} (h : Dig b l) (k : Dig b m) : Dig b (l ++ m) := fun x hx => by
  rcases List.mem_append.1 hx with hx | hx
  · exact h x hx
  · exact k x hx
theorem Dig.left {b : Nat} {l m : List Nat} (h : Dig b (l ++ m)) : Dig b l := fun x hx => h x (List.mem_append_left _ hx)
theorem Dig.right {b : Nat} {l m : List Nat} (h : Dig b (l ++ m)) : Dig b m := fun x hx => h x (List.mem_append_right _ hx)
theorem Dig.take {b : Nat} {l : List Nat} (h : Dig b l) (k : Nat) : Dig b (l.take k) := fun x hx => h x (List.mem_of_mem_take hx)
theorem Dig.drop {b : Nat} {l : List Nat} (h : Dig b l) (k : Nat) : Dig b (l.drop k) := fun x hx => h x (List.mem_of_mem_drop hx)
theorem Dig.set {b : Nat} {l : List Nat} (h : Dig b l) (k v : Nat) (hv : v < b) : Dig b (l.set k v) := fun x hx => by
  rcases List.mem_or_eq_of_mem_set hx with hx | rfl
  · exact h x hx
  · exact hv
theorem Dig.get {b : Nat} {l : List Nat} (h : Dig b l) (i : Nat) (hi : i < l.length) : l[i] < b := h _ (List.getElem_mem hi)
theorem Dig.getD {b : Nat} {l : List Nat} (h : Dig b l) (i : Nat) (hb : 0 < b) : l.getD i 0 < b := by
  by_cases hi : i < l.length
  · rw [List.getD_eq_getElem?_getD, List.getElem?_eq_getElem hi]; exact h.get i hi
  · rw [List.getD_eq_getElem?_getD, List.getElem?_eq_none (by omega)]; exact hb
theorem Dig.replicate (b k d : Nat) (h : d < b) : Dig b (List.replicate k d) := fun x hx => by
  rw [List.mem_replicate] at hx; omega

theorem val_nil (b : Nat) : val b [] = 0 := rfl
theorem val_cons (b d : Nat) (l : List Nat) : val b (d :: l) = d + b * val b l := rfl
theorem val_append (b : Nat) (l m : List Nat) : val b (l ++ m) = val b l + b ^ l.length * val b m := by
  induction l with
  | nil => simp [val]
  | cons d l ih => simp only [List.cons_append, val, ih, List.length_cons, Nat.pow_succ]; rw [Nat.mul_add, ← Nat.mul_assoc, Nat.mul_comm b (b ^ l.length), Nat.add_assoc]
theorem val_zeros (b k : Nat) : val b (List.replicate k 0) = 0 := by
  induction k with
  | zero => rfl
  | succ k ih => simp [List.replicate_succ, val, ih]
theorem val_snoc (b d : Nat) (l : List Nat) : val b (l ++ [d]) = val b l + b ^ l.length * d := by
  rw [val_append]; simp [val]
theorem val_lt {b : Nat} {l : List Nat} (h : Dig b l) : val b l < b ^ l.length := by
  induction l with
  | nil => simp [val]
  | cons d l ih =>
    have h1 := h.head
    have h2 := ih h.tail
    simp only [val, List.length_cons, Nat.pow_succ]
    have h3 : b * (val b l + 1) ≤ b * b ^ l.length := Nat.mul_le_mul_left b h2
    rw [Nat.mul_add, Nat.mul_one] at h3
    rw [Nat.mul_comm (b ^ l.length) b]
    omega
theorem val_take_drop (b k : Nat) (l : List Nat) (hk : k ≤ l.length) : val b l = val b (l.take k) + b ^ k * val b (l.drop k) := by
  conv => lhs; rw [← List.take_append_drop k l]
  rw [val_append, List.length_take, Nat.min_eq_left hk]

theorem repF_le (b : Nat) (hb : 2 ≤ b) : ∀ f n, n ≤ f → val b (repF b f n) = n := by
  intro f
  induction f with
  | zero => intro n hn; obtain rfl : n = 0 := by omega
            rfl
  | succ f ih =>
    intro n hn
    simp only [repF]
    split
    · subst n; rfl
    · have h1 : n / b < n := Nat.div_lt_self (by omega) hb
      rw [val, ih (n / b) (by omega)]
      exact Nat.mod_add_div n b
theorem val_rep {b : Nat} (hb : 2 ≤ b) (n : Nat) : val b (rep b n) = n := repF_le b hb n n (Nat.le_refl _)
theorem repF_dig (b : Nat) (hb : 0 < b) : ∀ f n, Dig b (repF b f n) := by
  intro f
  induction f with
  | zero => intro n; exact Dig.nil b
  | succ f ih =>
    intro n
    simp only [repF]
    split
    · exact Dig.nil b
    · exact Dig.cons (Nat.mod_lt _ hb) (ih _)
theorem rep_dig {b : Nat} (hb : 0 < b) (n : Nat) : Dig b (rep b n) := repF_dig b hb n n

theorem Top.nil : Top [] := by simp [Top]
theorem Top.tail {d : Nat} {l : List Nat} (h : Top (d :: l)) (hl : l ≠ []) : Top l := by
  unfold Top at h ⊢
  rwa [List.getLast?_cons_of_ne_nil hl] at h
theorem top_iff {l : List Nat} : Top l ↔ ∀ h : l ≠ [], l.getLast h ≠ 0 := by
  unfold Top
  constructor
  · intro h hn e
    exact h (by rw [List.getLast?_eq_some_getLast hn, e])
  · intro h e
    rcases List.eq_nil_or_concat l with rfl | ⟨m, d, rfl⟩
    · simp at e
    · simp at e
      exact h (by simp) (by simpa using e)
theorem top_snoc {l : List Nat} {d : Nat} : Top (l ++ [d]) ↔ d ≠ 0 := by simp [Top]

theorem val_eq_zero {b : Nat} (hb : 0 < b) {l : List Nat} (ht : Top l) (h : val b l = 0) : l = [] := by
  induction l with
  | nil => rfl
  | cons d l ih =>
    simp only [val] at h
    have hd : d = 0 := by omega
    have hm : b * val b l = 0 := by omega
    have hv : val b l = 0 := by
      rcases Nat.mul_eq_zero.1 hm with h | h
      · omega
      · exact h
    by_cases hl : l = []
    · subst hl; subst hd; simp [Top] at ht
    · exact absurd (ih (ht.tail hl) hv) hl

/-- One row tells one number: rows of digits without noughts at their ends are one where their numbers are. -/
theorem val_inj {b : Nat} (hb : 0 < b) : ∀ {l m : List Nat}, Dig b l → Dig b m → Top l → Top m → val b l = val b m → l = m := by
  intro l
  induction l with
  | nil => intro m _ _ _ hm h; exact (val_eq_zero hb hm h.symm).symm
  | cons d l ih =>
    intro m hl hm tl tm h
    cases m with
    | nil => exact val_eq_zero hb tl h
    | cons e m =>
      simp only [val] at h
      have hd := hl.head
      have he := hm.head
      have h1 : d = e := by
        have := congrArg (· % b) h
        simpa [Nat.add_mul_mod_self_left, Nat.mod_eq_of_lt hd, Nat.mod_eq_of_lt he] using this
      subst h1
      have h2 : b * val b l = b * val b m := by omega
      have h3 : val b l = val b m := Nat.eq_of_mul_eq_mul_left hb h2
      have tl' : Top l := by
        by_cases e : l = []
        · subst e; exact Top.nil
        · exact tl.tail e
      have tm' : Top m := by
        by_cases e : m = []
        · subst e; exact Top.nil
        · exact tm.tail e
      rw [ih hl.tail hm.tail tl' tm' h3]

theorem repF_top (b : Nat) (hb : 2 ≤ b) : ∀ f n, n ≤ f → Top (repF b f n) := by
  intro f
  induction f with
  | zero => intro n _; exact Top.nil
  | succ f ih =>
    intro n hn
    simp only [repF]
    split
    · exact Top.nil
    · rename_i h0
      have h1 : n / b < n := Nat.div_lt_self (by omega) hb
      have ht := ih (n / b) (by omega)
      by_cases e : repF b f (n / b) = []
      · rw [e]
        have hv := repF_le b hb f (n / b) (by omega)
        rw [e] at hv
        simp only [val] at hv
        have := Nat.mod_add_div n b
        rw [← hv] at this
        simp [Top]
        omega
      · unfold Top at ht ⊢
        rwa [List.getLast?_cons_of_ne_nil e]
theorem rep_top {b : Nat} (hb : 2 ≤ b) (n : Nat) : Top (rep b n) := repF_top b hb n n (Nat.le_refl _)

/-- A row of digits without noughts at its end is its number's row. -/
theorem eq_rep {b : Nat} (hb : 2 ≤ b) {l : List Nat} {n : Nat} (hd : Dig b l) (ht : Top l) (hv : val b l = n) : l = rep b n :=
  val_inj (by omega) hd (rep_dig (by omega) n) ht (rep_top hb n) (by rw [hv, val_rep hb])
theorem rep_inj {b : Nat} (hb : 2 ≤ b) {n m : Nat} (h : rep b n = rep b m) : n = m := by rw [← val_rep hb n, h, val_rep hb]
theorem rep_val {b : Nat} (hb : 2 ≤ b) {l : List Nat} (hd : Dig b l) (ht : Top l) : rep b (val b l) = l := (eq_rep hb hd ht rfl).symm
theorem rep_zero (b : Nat) : rep b 0 = [] := rfl
theorem rep_eq_nil {b : Nat} (hb : 2 ≤ b) {n : Nat} : rep b n = [] ↔ n = 0 := by
  constructor
  · intro h; have := val_rep hb n; rw [h] at this; exact this.symm
  · rintro rfl; rfl

/-- The number of a row's first digits. -/
theorem pow_le_val {b : Nat} {l : List Nat} (ht : Top l) (hl : l ≠ []) : b ^ (l.length - 1) ≤ val b l := by
  rcases List.eq_nil_or_concat l with rfl | ⟨m, d, rfl⟩
  · exact absurd rfl hl
  · rw [List.concat_eq_append] at ht ⊢
    rw [top_snoc] at ht
    rw [val_snoc]
    simp only [List.length_append, List.length_cons, List.length_nil, Nat.add_sub_cancel, Nat.zero_add]
    have : b ^ m.length * 1 ≤ b ^ m.length * d := Nat.mul_le_mul_left _ (by omega)
    omega
theorem rep_length_le {b : Nat} (hb : 2 ≤ b) (n k : Nat) : (rep b n).length ≤ k ↔ n < b ^ k := by
  constructor
  · intro h
    have h1 := val_lt (rep_dig (b := b) (by omega) n)
    rw [val_rep hb] at h1
    exact Nat.lt_of_lt_of_le h1 (Nat.pow_le_pow_right (by omega) h)
  · intro h
    by_cases e : rep b n = []
    · rw [e]; simp
    · have h1 := pow_le_val (b := b) (rep_top hb n) e
      rw [val_rep hb] at h1
      have h2 : b ^ ((rep b n).length - 1) < b ^ k := Nat.lt_of_le_of_lt h1 h
      have h3 : (rep b n).length - 1 < k := (Nat.pow_lt_pow_iff_right (by omega)).1 h2
      omega

/-! Noughts at the end. -/
/-- The place behind the last digit that isn't 0, from n downwards. -/
def cutAt (l : List Nat) : Nat → Nat
  | 0 => 0
  | n + 1 => if l.getD n 0 = 0 then cutAt l n else n + 1
theorem cutAt_le (l : List Nat) (n : Nat) : cutAt l n ≤ n := by
  induction n with
  | zero => exact Nat.le_refl _
  | succ n ih => simp only [cutAt]; split <;> omega
def strip (l : List Nat) : List Nat := l.take (cutAt l l.length)
theorem cutAt_zero (l : List Nat) (n : Nat) : ∀ i, cutAt l n ≤ i → i < n → l.getD i 0 = 0 := by
  induction n with
  | zero => intro i _ h; omega
  | succ n ih =>
    intro i h1 h2
    simp only [cutAt] at h1
    split at h1
    · by_cases e : i = n
      · subst e; assumption
      · exact ih i h1 (by omega)
    · omega
theorem cutAt_top (l : List Nat) (n : Nat) (h : cutAt l n ≠ 0) : l.getD (cutAt l n - 1) 0 ≠ 0 := by
  induction n with
  | zero => exact absurd rfl h
  | succ n ih =>
    simp only [cutAt] at h ⊢
    split
    · rename_i e; rw [if_pos e] at h; exact ih h
    · simpa using by assumption
theorem val_take_of_zeros (b : Nat) : ∀ (l : List Nat) (k : Nat), (∀ i, k ≤ i → i < l.length → l.getD i 0 = 0) → val b (l.take k) = val b l := by
  intro l
  induction l with
  | nil => intro k _; simp
  | cons d l ih =>
    intro k h
    cases k with
    | zero =>
      have hz : val b l = 0 := by
        have := ih 0 (fun i _ hi => by have := h (i + 1) (Nat.zero_le _) (by simpa using hi); simpa using this)
        simpa [val] using this.symm
      have hd : d = 0 := by have := h 0 (Nat.le_refl _) (by simp); simpa using this
      simp [val, hz, hd]
    | succ k =>
      simp only [List.take_succ_cons, val]
      rw [ih k (fun i hi hl => by have := h (i + 1) (by omega) (by simpa using hl); simpa using this)]
theorem val_strip (b : Nat) (l : List Nat) : val b (strip l) = val b l := val_take_of_zeros b l _ (cutAt_zero l l.length)
theorem strip_top (l : List Nat) : Top (strip l) := by
  have hle := cutAt_le l l.length
  by_cases e : cutAt l l.length = 0
  · unfold strip; rw [e]; simp [Top]
  · have h := cutAt_top l l.length e
    unfold strip Top
    rw [List.getLast?_eq_getElem?, List.length_take, Nat.min_eq_left hle, List.getElem?_take, if_pos (by omega)]
    rw [List.getD_eq_getElem?_getD] at h
    intro c
    rw [c] at h
    exact h rfl
theorem strip_dig {b : Nat} {l : List Nat} (h : Dig b l) : Dig b (strip l) := h.take _
theorem strip_eq {b : Nat} (hb : 2 ≤ b) {l : List Nat} (h : Dig b l) : strip l = rep b (val b l) :=
  eq_rep hb (strip_dig h) (strip_top l) (val_strip b l)
theorem strip_length (l : List Nat) : (strip l).length = cutAt l l.length := by
  unfold strip; rw [List.length_take]; have := cutAt_le l l.length; omega

end Rep
end Go.Proofs.YtaiemcacpimcjaaDoor
