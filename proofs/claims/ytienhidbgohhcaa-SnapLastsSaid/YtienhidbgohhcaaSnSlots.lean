/-
  Layer 6: headers that are torn, and what slots become.
-/
import Derived.Test.YtienhidbgohhcaaSnPure
import Derived.Laws.Bits64b
set_option linter.unusedVariables false
set_option linter.unusedSimpArgs false
namespace Go.Proofs.Ytienhidbgohhcaa
open Go.RowKit

/-! ### Numbers in headers -/
theorem numByte_nat {x b : Nat} (h : x * 256 + b < 18446744073709551616) (hb : b < 256) : numByte (x : Int) (b : Int) = ((x * 256 + b : Nat) : Int) := by
  have e1 : IntKind.u64.wrap ((x : Int) * 256) = ((x * 256 : Nat) : Int) := by
    rw [IntWalk.u64_in ((x : Int) * 256) (by omega)]
    omega
  have e2 : IntKind.u64.wrap (b : Int) = (b : Int) := IntWalk.u64_in (b : Int) (by omega)
  have b1 : x * 256 < 18446744073709551616 := Nat.lt_of_le_of_lt (Nat.le_add_right _ _) h
  have b2 : b < 18446744073709551616 := by omega
  have e3 := bits_or_u64_nat (x * 256) b b1 b2
  unfold numByte
  rw [e1, e2, e3]
  have h2 : 256 * x + b = 256 * x ||| b := Nat.two_pow_add_eq_or_of_lt (i := 8) hb x
  rw [Nat.mul_comm x 256, ← h2]
theorem pow256_le {k : Nat} (h : k ≤ 8) : 256 ^ k ≤ 18446744073709551616 := by
  have := Nat.pow_le_pow_right (show 0 < 256 by omega) h
  simpa using this
theorem numOf_be : ∀ (k n : Nat), k ≤ 8 → numOf (be k n) = ((n % 256 ^ k : Nat) : Int)
  | 0, n, _ => by simp [numOf, be, Nat.mod_one]
  | k + 1, n, h => by
    have ih := numOf_be k (n / 256) (by omega)
    unfold numOf at ih ⊢
    rw [be, List.foldl_append, ih]
    simp only [List.foldl_cons, List.foldl_nil]
    have h1 : n / 256 % 256 ^ k < 256 ^ k := Nat.mod_lt _ (Nat.pow_pos (by omega))
    have h2 := pow256_le h
    rw [Nat.pow_succ] at h2
    have h3 : n % 256 < 256 := Nat.mod_lt _ (by omega)
    have h4 : n / 256 % 256 ^ k * 256 + n % 256 < 18446744073709551616 := by
      have : n / 256 % 256 ^ k + 1 ≤ 256 ^ k := h1
      have : (n / 256 % 256 ^ k + 1) * 256 ≤ 256 ^ k * 256 := Nat.mul_le_mul_right _ this
      omega
    rw [numByte_nat h4 h3]
    congr 1
    rw [Nat.pow_succ, Nat.mul_comm (256 ^ k) 256, Nat.mod_mul]
    omega
theorem seg_app {a b c : List Int} {o n : Nat} (ha : a.length = o) (hb : b.length = n) : seg (a ++ (b ++ c)) o n = b := by
  unfold seg
  rw [List.drop_left' ha, List.take_left' hb]
section
variable (e sz f s : Nat)
theorem hdr_seg1 : seg (hdrL e sz f s) 5 8 = be 8 e := seg_app rfl (be_len _ _)
theorem hdr_seg2 : seg (hdrL e sz f s) 13 8 = be 8 sz := by
  have : hdrL e sz f s = ([83, 84, 89, 49, 1] ++ be 8 e) ++ (be 8 sz ++ (be 4 f ++ (be 4 s ++ (List.replicate 27 0 ++ be 8 e)))) := by simp [hdrL]
  rw [this]
  exact seg_app (by simp [be_len]) (be_len _ _)
theorem hdr_seg3 : seg (hdrL e sz f s) 21 4 = be 4 f := by
  have : hdrL e sz f s = ([83, 84, 89, 49, 1] ++ be 8 e ++ be 8 sz) ++ (be 4 f ++ (be 4 s ++ (List.replicate 27 0 ++ be 8 e))) := by simp [hdrL]
  rw [this]
  exact seg_app (by simp [be_len]) (be_len _ _)
theorem hdr_seg4 : seg (hdrL e sz f s) 25 4 = be 4 s := by
  have : hdrL e sz f s = ([83, 84, 89, 49, 1] ++ be 8 e ++ be 8 sz ++ be 4 f) ++ (be 4 s ++ (List.replicate 27 0 ++ be 8 e)) := by simp [hdrL]
  rw [this]
  exact seg_app (by simp [be_len]) (be_len _ _)
theorem hdr_seg5 : seg (hdrL e sz f s) 56 8 = be 8 e := by
  have : hdrL e sz f s = ([83, 84, 89, 49, 1] ++ be 8 e ++ be 8 sz ++ be 4 f ++ be 4 s ++ List.replicate 27 0) ++ (be 8 e ++ []) := by simp [hdrL]
  rw [this]
  exact seg_app (by simp [be_len]) (be_len _ _)
end
/-- The number at a sector's end. -/
def LN (S : List Int) : Int := numOf (seg S 56 8)
theorem LN_range (S : List Int) : 0 ≤ LN S := (numOf_range _).1
section
variable {e sz f s : Nat}
theorem hE_hdr (h : e < 18446744073709551616) : hE (hdrL e sz f s) = (e : Int) := by
  unfold hE
  rw [hdr_seg1, numOf_be 8 e (by omega), Nat.mod_eq_of_lt h]
theorem hZ_hdr (h : sz < 18446744073709551616) : hZ (hdrL e sz f s) = (sz : Int) := by
  unfold hZ
  rw [hdr_seg2, numOf_be 8 sz (by omega), Nat.mod_eq_of_lt h]
theorem hF_hdr (h : f < 4294967296) : hF (hdrL e sz f s) = (f : Int) := by
  unfold hF
  rw [hdr_seg3, numOf_be 4 f (by omega), Nat.mod_eq_of_lt h]
  exact IntWalk.u32_in _ (by omega)
theorem hS_hdr (h : s < 4294967296) : hS (hdrL e sz f s) = (s : Int) := by
  unfold hS
  rw [hdr_seg4, numOf_be 4 s (by omega), Nat.mod_eq_of_lt h]
  exact IntWalk.u32_in _ (by omega)
theorem isHdr_hdr (h1 : 1 ≤ e) (h2 : e ≤ 4611686018427387904) (hz : sz < 18446744073709551616) (hf : f < 4294967296) (hs : s < 4294967296) : isHdr (hdrL e sz f s) = true := by
  unfold isHdr
  rw [hE_hdr (by omega), hZ_hdr hz, hF_hdr hf, hS_hdr hs]
  simp only [Int.toNat_natCast]
  simp
  omega
end
theorem isHdr_eq {S : List Int} (h : isHdr S = true) : 1 ≤ hE S ∧ S = hdrL (hE S).toNat (hZ S).toNat (hF S).toNat (hS S).toNat := by
  unfold isHdr at h
  have := of_decide_eq_true h
  exact ⟨this.1, this.2.2⟩
/-- A header's two numbers are one. -/
theorem LN_hdr {S : List Int} (h : isHdr S = true) : LN S = hE S := by
  obtain ⟨_, h2⟩ := isHdr_eq h
  have e1 : seg S 56 8 = seg S 5 8 := by
    generalize (hE S).toNat = e at h2
    rw [h2, hdr_seg5, hdr_seg1]
  unfold LN hE
  rw [e1]
/-- A header that is torn is the new one, or has the old one's last number, or is none. -/
theorem torn {e sz f s m : Nat} {T S : List Int} (hT : T.length = 64) (hm : m ≤ 64) (hS : S = (hdrL e sz f s).take m ++ T.drop m) : LN S = LN T ∨ isHdr S = false ∨ S = hdrL e sz f s := by
  have hl := hdrL_len e sz f s
  have htl : ((hdrL e sz f s).take m).length = m := by simp; omega
  by_cases h56 : m ≤ 56
  · left
    unfold LN seg
    rw [hS, List.drop_append, List.drop_eq_nil_of_le (by omega), List.nil_append, htl, List.drop_drop]
    rw [show m + (56 - m) = 56 by omega]
  · right
    cases hh : isHdr S
    · exact .inl rfl
    · right
      have hSl : S.length = 64 := by rw [hS]; simp; omega
      obtain ⟨_, h2⟩ := isHdr_eq hh
      have e1 : seg S 56 8 = seg S 5 8 := by
        generalize (hE S).toNat = e at h2
        rw [h2, hdr_seg5, hdr_seg1]
      have e2 : seg S 5 8 = seg (hdrL e sz f s) 5 8 := by
        unfold seg
        rw [hS, List.drop_append, htl, List.take_append, List.length_drop, htl]
        rw [show 8 - (m - 5) = 0 by omega, List.take_zero, List.append_nil, List.drop_take, List.take_take]
        congr 1
        omega
      have e3 : S.take 56 = (hdrL e sz f s).take 56 := by
        rw [hS, List.take_append, htl, show 56 - m = 0 by omega, List.take_zero, List.append_nil, List.take_take]
        congr 1
        omega
      have e4 : S.drop 56 = (hdrL e sz f s).drop 56 := by
        have a1 : S.drop 56 = seg S 56 8 := by unfold seg; rw [List.take_of_length_le (by simp; omega)]
        have a2 : (hdrL e sz f s).drop 56 = seg (hdrL e sz f s) 56 8 := by unfold seg; rw [List.take_of_length_le (by simp; omega)]
        rw [a1, a2, e1, e2, hdr_seg1, hdr_seg5]
      rw [← List.take_append_drop 56 S, e3, e4, List.take_append_drop]
end Go.Proofs.Ytienhidbgohhcaa
