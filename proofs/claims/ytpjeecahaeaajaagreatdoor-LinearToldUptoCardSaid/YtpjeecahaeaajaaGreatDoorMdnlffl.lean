/- By program out of: DivMath. -/
import Derived.Test.YtpjeecahaeaajaaGreatDoorMdegbog
import Derived.Lib.BitFns
set_option linter.unusedVariables false
set_option linter.unusedSimpArgs false
namespace Go.Proofs.YtpjeecahaeaajaaGreatDoor
open Go.RowKit Rep
theorem div_next {R T : List Nat} {i n X Y : Nat} (hR : Lim R) (hRl : i + n + 1 ≤ R.length) (hT : i < T.length) (h7 : V R + Y * (4294967296 ^ (i + 1) * V (T.drop (i + 1))) = X) (h8 : V (R.drop (i + 1)) < Y) (hY : Y ≤ 4294967296 ^ n) :
    V ((R.drop i).take (n + 1)) < 4294967296 * Y ∧
    ∀ Q, Q.length = n + 1 → V Q = V ((R.drop i).take (n + 1)) % Y →
      V (R.take i ++ Q ++ R.drop (i + n + 1)) + Y * (4294967296 ^ i * V ((T.set i (V ((R.drop i).take (n + 1)) / Y)).drop i)) = X ∧
      V ((R.take i ++ Q ++ R.drop (i + n + 1)).drop i) < Y := by
  have hri : R.getD i 0 < 4294967296 := hR.getD i (by omega)
  have e1 : V (R.drop i) = R.getD i 0 + 4294967296 * V (R.drop (i + 1)) := drop_cons 4294967296 R i (by omega)
  have e2 : V (R.drop i) = V ((R.drop i).take (n + 1)) + 4294967296 ^ (n + 1) * V (R.drop (i + n + 1)) := by
    have := val_take_drop 4294967296 (n + 1) (R.drop i) (by rw [List.length_drop]; omega)
    rw [List.drop_drop, show i + (n + 1) = i + n + 1 from rfl] at this
    exact this
  have e3 : V R = V (R.take i) + 4294967296 ^ i * V (R.drop i) := val_take_drop 4294967296 i R (by omega)
  have hlt : V (R.drop i) < 4294967296 * Y := by
    have : 4294967296 * (V (R.drop (i + 1)) + 1) ≤ 4294967296 * Y := Nat.mul_le_mul_left _ h8
    omega
  have hz : V (R.drop (i + n + 1)) = 0 := by
    rcases Nat.eq_zero_or_pos (V (R.drop (i + n + 1))) with h | h
    · exact h
    · have h1 : 4294967296 ^ (n + 1) * 1 ≤ 4294967296 ^ (n + 1) * V (R.drop (i + n + 1)) := Nat.mul_le_mul_left _ h
      have h2 : 4294967296 * Y ≤ 4294967296 ^ (n + 1) := by rw [Nat.pow_succ, Nat.mul_comm (4294967296 ^ n)]; exact Nat.mul_le_mul_left _ hY
      omega
  rw [hz, Nat.mul_zero, Nat.add_zero] at e2
  refine ⟨by omega, fun Q hQ hQv => ?_⟩
  have hY0 : 0 < Y := by omega
  have hal : (R.take i).length = i := by rw [List.length_take]; omega
  generalize hP : V ((R.drop i).take (n + 1)) = p at *
  have e4 : V (Q ++ R.drop (i + n + 1)) = V Q := by
    unfold V at *
    rw [val_append, hz, Nat.mul_zero, Nat.add_zero]
  have e5 : V (R.take i ++ Q ++ R.drop (i + n + 1)) = V (R.take i) + 4294967296 ^ i * V Q := by
    rw [List.append_assoc]
    unfold V at *
    rw [val_append, hal, e4]
  have e6 : V ((T.set i (p / Y)).drop i) = p / Y + 4294967296 * V (T.drop (i + 1)) := by
    have := drop_cons 4294967296 (T.set i (p / Y)) i (by simpa using hT)
    unfold V
    rw [this, getD_set_self hT, List.drop_set_of_lt (by omega)]
  refine ⟨?_, ?_⟩
  · rw [e5, e6]
    have h9 := Nat.div_add_mod p Y
    have h10 : 4294967296 ^ i * p = 4294967296 ^ i * (Y * (p / Y)) + 4294967296 ^ i * V Q := by rw [hQv, ← Nat.mul_add, h9]
    have h11 : Y * (4294967296 ^ i * (p / Y + 4294967296 * V (T.drop (i + 1)))) = 4294967296 ^ i * (Y * (p / Y)) + Y * (4294967296 ^ (i + 1) * V (T.drop (i + 1))) := by
      rw [Nat.mul_add, Nat.mul_add, Nat.pow_succ]
      congr 1
      · ac_rfl
      · ac_rfl
    rw [e3, e2] at h7
    omega
  · rw [List.append_assoc, List.drop_append_of_le_length (by omega), List.drop_of_length_le (by omega), List.nil_append, e4, hQv]
    exact Nat.mod_lt _ hY0
theorem part_split (R : List Nat) (i n : Nat) (h : i + n + 1 ≤ R.length) : R.take i ++ (R.drop i).take (n + 1) ++ R.drop (i + n + 1) = R := by
  rw [List.append_assoc, show i + n + 1 = i + (n + 1) from rfl, ← List.drop_drop, List.take_append_drop, List.take_append_drop]
theorem bitLenAux_gt : ∀ (f x : Nat), x < 2 ^ f → x < 2 ^ Lib.bitLenAux f x := by
  intro f
  induction f with
  | zero => intro x h; simpa [Lib.bitLenAux] using h
  | succ f ih =>
    intro x h
    simp only [Lib.bitLenAux]
    split
    · rename_i e; rw [e]; exact Nat.pow_pos (by omega)
    · have := ih (x / 2) (by rw [Nat.pow_succ] at h; omega)
      rw [Nat.add_comm 1, Nat.pow_succ]
      omega
theorem bitLenAux_le : ∀ (f x k : Nat), x < 2 ^ k → Lib.bitLenAux f x ≤ k := by
  intro f
  induction f with
  | zero => intro x k _; exact Nat.zero_le _
  | succ f ih =>
    intro x k h
    simp only [Lib.bitLenAux]
    split
    · exact Nat.zero_le _
    · cases k with
      | zero => simp at h; omega
      | succ k =>
        have := ih (x / 2) k (by rw [Nat.pow_succ] at h; omega)
        omega
theorem bitLen_range {x : Nat} (h0 : 0 < x) (h : x < 4294967296) : ∃ s : Nat, s < 32 ∧ (32 - (Lib.bitLen x : Int)) = (s : Int) ∧ (x + 1) * 2 ^ s ≤ 4294967296 := by
  have h1 : Lib.bitLen x ≤ 32 := bitLenAux_le 64 x 32 h
  have h3 : x < 2 ^ Lib.bitLen x := bitLenAux_gt 64 x (by omega)
  have h2 : 1 ≤ Lib.bitLen x := by
    unfold Lib.bitLen
    simp only [Lib.bitLenAux]
    rw [if_neg (by omega)]
    omega
  refine ⟨32 - Lib.bitLen x, by omega, by omega, ?_⟩
  have h4 : (x + 1) * 2 ^ (32 - Lib.bitLen x) ≤ 2 ^ Lib.bitLen x * 2 ^ (32 - Lib.bitLen x) := Nat.mul_le_mul_right _ h3
  rw [← Nat.pow_add, show Lib.bitLen x + (32 - Lib.bitLen x) = 32 from by omega] at h4
  exact h4
theorem top_limb {M : Nat} (h : 0 < (L M).length) : 0 < (L M).getD ((L M).length - 1) 0 := by
  have ht := rep_top (b := 4294967296) (by omega) M
  have h1 : (L M).getLast? ≠ some 0 := ht
  rw [List.getLast?_eq_getElem?] at h1
  rw [getD_lt (by omega)]
  rw [List.getElem?_eq_getElem (by omega)] at h1
  exact Nat.pos_of_ne_zero fun e => h1 (by rw [e])
theorem norm_lt {M s : Nat} (h : 0 < (L M).length) (hs : ((L M).getD ((L M).length - 1) 0 + 1) * 2 ^ s ≤ 4294967296) : M * 2 ^ s < 4294967296 ^ (L M).length := by
  obtain ⟨k, hk⟩ : ∃ k, (L M).length = k + 1 := ⟨(L M).length - 1, by omega⟩
  have e1 : M = V ((L M).take k) + 4294967296 ^ k * (L M).getD k 0 := by
    conv => lhs; rw [← V_L M]
    unfold V
    conv => lhs; rw [← List.take_length (l := L M), hk]
    exact val_take_succ _ _ _ (by omega)
  have e2 : V ((L M).take k) < 4294967296 ^ k := by
    have := val_lt ((L_lim M).take k)
    rwa [List.length_take, Nat.min_eq_left (by omega)] at this
  rw [hk] at hs ⊢
  rw [Nat.add_sub_cancel] at hs
  generalize (L M).getD k 0 = t at *
  have e3 : M < 4294967296 ^ k * (t + 1) := by rw [Nat.mul_add, Nat.mul_one]; omega
  have e4 : M * 2 ^ s < 4294967296 ^ k * (t + 1) * 2 ^ s := Nat.mul_lt_mul_of_pos_right e3 (Nat.pow_pos (by omega))
  have e5 : 4294967296 ^ k * ((t + 1) * 2 ^ s) ≤ 4294967296 ^ k * 4294967296 := Nat.mul_le_mul_left _ hs
  rw [Nat.pow_succ]
  rw [Nat.mul_assoc] at e4
  omega
theorem pow_le_of_len {M : Nat} (h : 0 < (L M).length) : 4294967296 ^ ((L M).length - 1) ≤ M := by
  have := pow_le_val (b := 4294967296) (rep_top (by omega) M) (List.length_pos_iff.1 h)
  rwa [val_rep (by omega)] at this
theorem norm_row {YL : List Nat} {n Y : Nat} (hl : YL.length = n + 1) (hd : Lim YL) (hv : V YL = Y) (hlt : Y < 4294967296 ^ n) (hn : 0 < n) (hge : 4294967296 ^ (n - 1) ≤ Y) :
    V (YL.take n) = Y ∧ 0 < (YL.take n).getD (n - 1) 0 := by
  have e1 : V YL = V (YL.take n) + 4294967296 ^ n * YL.getD n 0 := by
    unfold V
    conv => lhs; rw [← List.take_length (l := YL), hl]
    exact val_take_succ _ _ _ (by omega)
  have e2 : YL.getD n 0 = 0 := by
    rcases Nat.eq_zero_or_pos (YL.getD n 0) with h | h
    · exact h
    · have : 4294967296 ^ n * 1 ≤ 4294967296 ^ n * YL.getD n 0 := Nat.mul_le_mul_left _ h
      omega
  rw [e2, Nat.mul_zero, Nat.add_zero] at e1
  refine ⟨by omega, ?_⟩
  obtain ⟨k, rfl⟩ : ∃ k, n = k + 1 := ⟨n - 1, by omega⟩
  rw [Nat.add_sub_cancel] at *
  have e3 : V (YL.take (k + 1)) = V (YL.take k) + 4294967296 ^ k * YL.getD k 0 := val_take_succ _ _ _ (by omega)
  have e4 : V (YL.take k) < 4294967296 ^ k := by
    have := val_lt (hd.take k)
    rwa [List.length_take, Nat.min_eq_left (by omega)] at this
  have e5 : (YL.take (k + 1)).getD k 0 = YL.getD k 0 := by simp [List.getD_eq_getElem?_getD, List.getElem?_take]
  rw [e5]
  rcases Nat.eq_zero_or_pos (YL.getD k 0) with h | h
  · rw [h, Nat.mul_zero, Nat.add_zero] at e3; omega
  · exact h
theorem div_first {XL : List Nat} {N M s tl : Nat} (hl : XL.length = (L N).length + 1) (hd : Lim XL) (hv : V XL = N * 2 ^ s) (hm : 0 < (L M).length) (htl : tl + (L M).length = (L N).length + 1) : V (XL.drop tl) < M * 2 ^ s := by
  have e1 : V XL = V (XL.take tl) + 4294967296 ^ tl * V (XL.drop tl) := val_take_drop _ tl XL (by omega)
  have e2 : N < 4294967296 ^ (L N).length := (L_len N _).1 (Nat.le_refl _)
  have e3 := pow_le_of_len hm
  have e4 : 4294967296 ^ ((L M).length - 1) * 4294967296 ^ tl ≤ M * 4294967296 ^ tl := Nat.mul_le_mul_right _ e3
  rw [← Nat.pow_add, show (L M).length - 1 + tl = (L N).length from by omega] at e4
  have e5 : N * 2 ^ s < M * 4294967296 ^ tl * 2 ^ s := Nat.mul_lt_mul_of_pos_right (by omega) (Nat.pow_pos (by omega))
  have e6 : 4294967296 ^ tl * V (XL.drop tl) < 4294967296 ^ tl * (M * 2 ^ s) := by
    have : M * 4294967296 ^ tl * 2 ^ s = 4294967296 ^ tl * (M * 2 ^ s) := by ac_rfl
    omega
  exact Nat.lt_of_mul_lt_mul_left e6
theorem div_last {N M s r t : Nat} (h : r + M * 2 ^ s * t = N * 2 ^ s) (hlt : r < M * 2 ^ s) : t = N / M ∧ r / 2 ^ s = N % M := by
  have hp : 0 < 2 ^ s := Nat.pow_pos (by omega)
  have h1 : N * 2 ^ s / (M * 2 ^ s) = t := by
    rw [← h, Nat.add_comm, Nat.mul_add_div (by omega), Nat.div_eq_of_lt hlt, Nat.add_zero]
  have h2 : N * 2 ^ s % (M * 2 ^ s) = r := by
    rw [← h, Nat.add_comm, Nat.mul_add_mod, Nat.mod_eq_of_lt hlt]
  rw [Nat.mul_div_mul_right _ _ hp] at h1
  rw [Nat.mul_mod_mul_right] at h2
  exact ⟨h1.symm, by rw [← h2, Nat.mul_div_cancel _ hp]⟩
end Go.Proofs.YtpjeecahaeaajaaGreatDoor
