/-
  Layer 6: numbers in a header.
-/
import Derived.Test.YtienhidbgohhcaaSnSum
set_option linter.unusedVariables false
set_option linter.unusedSimpArgs false
namespace Go.Proofs.Ytienhidbgohhcaa
open Go.RowKit

/-- A number's bytes, that of the greatest weight first. -/
def be : Nat → Nat → List Int
  | 0, _ => []
  | k + 1, n => be k (n / 256) ++ [((n % 256 : Nat) : Int)]
theorem be_len : ∀ (k n : Nat), (be k n).length = k
  | 0, _ => rfl
  | k + 1, n => by simp [be, be_len k]
theorem be_cons (p m : Nat) : be (p + 1) m = ((m / 256 ^ p % 256 : Nat) : Int) :: be p m := by
  induction p generalizing m with
  | zero => simp [be]
  | succ p ih =>
    show be (p + 1) (m / 256) ++ [((m % 256 : Nat) : Int)] = _
    rw [ih (m / 256), Nat.div_div_eq_div_mul, ← Nat.pow_succ']
    rfl
/-- What a number becomes by one byte more. -/
def numByte (n b : Int) : Int := bits .or .u64 (IntKind.u64.wrap (n * 256)) (IntKind.u64.wrap b)
def numOf (l : List Int) : Int := l.foldl numByte 0
theorem cell_blk {w : World} {b o : Nat} {C : List Value} {t : TypeId} (hb : w.heap[b]? = some (.cells C.toArray t (0, 0))) (ho : o < C.length) : ∃ u, w.cell? ⟨b, o, none⟩ = some u :=
  ⟨C[o], by simp [World.cell?, hb, ho]⟩
theorem splice_set (cur X : List Value) (o : Nat) (x : Value) (h : o + 1 + X.length ≤ cur.length) : (splice cur (o + 1) X).set o x = splice cur o (x :: X) := by
  have h3 : cur.take (o + 1) = cur.take o ++ [cur[o]] := List.take_succ_eq_append_getElem (by omega)
  have hl : (cur.take o).length = o := by simp; omega
  have h4 : splice cur (o + 1) X = cur.take o ++ (cur[o] :: (X ++ cur.drop (o + 1 + X.length))) := by
    simp only [splice, h3, List.append_assoc, List.singleton_append]
  have h5 : splice cur o (x :: X) = cur.take o ++ (x :: (X ++ cur.drop (o + 1 + X.length))) := by
    simp only [splice, List.length_cons, List.append_assoc, List.cons_append]
    rw [show o + (X.length + 1) = o + 1 + X.length by omega]
  rw [h4, h5, List.set_append_right _ _ (by omega), hl, Nat.sub_self]
  rfl
set_option maxRecDepth 100000 in
set_option maxHeartbeats 1000000 in
/-- put: so many bytes at a place become a number's. -/
theorem put_any {w : World} {b off k c n : Nat} {cur : List Value} {t : TypeId} (hb : w.heap[b]? = some (.cells cur.toArray t (0, 0))) (hl : off + k ≤ cur.length) (hk : k ≤ 8) (hn : n < 18446744073709551616) :
    Calls Try.prog 34 #[.slice (some ⟨b, off, none⟩) k c, .int .u64 (n : Int)] w fun e w' => e = .returned (.tuple #[]) ∧ w'.heap[b]? = some (.cells (splice cur off (bys (be k n))).toArray t (0, 0)) ∧ Chg (fun j => j = b) w w' := by
  have hk0 : (k : Int) ≤ 8 := by omega
  have HB := Lib.hid hb
  have HL := Lib.hid hl
  clear hb hl
  go_enter Try.func34, Try.ntmps34
  go_wp2
  go_loopw [4, 1] (fun (i m : Value) (wr : World) => ∃ j : Nat, j ≤ k ∧ i = .int .i64 ((j : Int) - 1) ∧ m = .int .u64 ((n / 256 ^ (k - j) : Nat) : Int) ∧
    Hid (wr.heap[b]? = some (.cells (splice cur (off + j) (bys (be (k - j) n))).toArray t (0, 0)) ∧ Chg (fun j => j = b) w wr)) (fun i _ _ => (intOf i + 1).toNat)
  case atStart => exact ⟨k, Nat.le_refl _, rfl, by simp, Lib.hid ⟨by rw [HB.out]; simp [be, bys, splice], Chg.refl _ _⟩⟩
  case round =>
    obtain ⟨j, hj, rfl, rfl, HR⟩ := hrel
    cases j with
    | zero =>
      obtain ⟨h1, h2⟩ := HR.out
      have HE := Lib.hid (And.intro h1 h2)
      clear HR h1 h2
      rw [show ((0 : Nat) : Int) - 1 = -1 from by omega]
      go_wp2
      go_end0
      exact ⟨rfl, by simpa using HE.out.1, HE.out.2⟩
    | succ j =>
      obtain ⟨h1, h2⟩ := HR.out
      have hoj : off + j < (splice cur (off + (j + 1)) (bys (be (k - (j + 1)) n))).length := by
        have := HL.out
        rw [length_splice _ _ _ (by rw [bys_len, be_len]; omega)]
        omega
      obtain ⟨u, hc⟩ := cell_blk h1 hoj
      have hf : wr.frozen? ⟨b, off + j, none⟩ = false := by simp [World.frozen?, h1]
      have hm : n / 256 ^ (k - (j + 1)) ≤ n := Nat.div_le_self _ _
      have hnx : Hid ((wr.setCell ⟨b, off + j, none⟩ (.int .u8 ((n / 256 ^ (k - (j + 1)) % 256 : Nat) : Int))).heap[b]? = some (.cells (splice cur (off + j) (bys (be (k - j) n))).toArray t (0, 0)) ∧ Chg (fun j => j = b) w (wr.setCell ⟨b, off + j, none⟩ (.int .u8 ((n / 256 ^ (k - (j + 1)) % 256 : Nat) : Int)))) := Lib.hid (by
        refine ⟨?_, h2.step (chg_setCell (S := fun j => j = b) rfl _ _ _)⟩
        have h3 := heap_setCell_same wr b (off + j) _ t (.int .u8 ((n / 256 ^ (k - (j + 1)) % 256 : Nat) : Int)) h1
        rw [h3, show k - j = (k - (j + 1)) + 1 by omega, be_cons, show bys (((n / 256 ^ (k - (j + 1)) % 256 : Nat) : Int) :: be (k - (j + 1)) n) = .int .u8 ((n / 256 ^ (k - (j + 1)) % 256 : Nat) : Int) :: bys (be (k - (j + 1)) n) from rfl]
        rw [← splice_set _ _ _ _ (by have := HL.out; rw [bys_len, be_len]; omega)]
        simp [Nat.add_assoc])
      have hd : n / 256 ^ (k - j) = n / 256 ^ (k - (j + 1)) / 256 := by
        rw [show k - j = (k - (j + 1)) + 1 by omega, Nat.pow_succ, Nat.div_div_eq_div_mul]
      have HD := Lib.hid hd
      have hjk : (j : Int) < (k : Int) := by omega
      have HJ := Lib.hid hj
      rw [show ((j + 1 : Nat) : Int) - 1 = (j : Int) from by omega]
      generalize n / 256 ^ (k - (j + 1)) = m at *
      clear HR h1 h2 hoj hd hj
      go_wp2
      go_roundw
      case rel => exact ⟨j, by have := HJ.out; omega, by go_num, by rw [HD.out]; rfl, hnx⟩
      case measure => simp [intOf]
theorem numByte_range (n b : Int) : 0 ≤ numByte n b ∧ numByte n b ≤ 18446744073709551615 := by
  have h := wf_bits .or .u64 (IntKind.u64.wrap (n * 256)) (IntKind.u64.wrap b)
  simp [Lit.wf, IntKind.min, IntKind.max, IntKind.signed, IntKind.bits] at h
  unfold numByte
  omega
theorem numOf_range (l : List Int) : 0 ≤ numOf l ∧ numOf l ≤ 18446744073709551615 := by
  unfold numOf
  rcases List.eq_nil_or_concat l with rfl | ⟨i, x, rfl⟩
  · simp
  · rw [List.concat_eq_append, List.foldl_append]
    exact numByte_range _ _
set_option maxRecDepth 100000 in
set_option maxHeartbeats 1000000 in
/-- number: the number that stands at a place. -/
theorem number_any {w : World} {b off c : Nat} {bs : List Int} (hb : w.rangeAt b off (bys bs)) (hl : bs.length ≤ 8) :
    Calls Try.prog 40 #[.slice (some ⟨b, off, none⟩) bs.length c] w fun e w' => e = .returned (.int .u64 (numOf bs)) ∧ w = w' := by
  have HB := Lib.hid hb
  clear hb
  go_enter Try.func40, Try.ntmps40
  go_wp2
  go_loop [8, 3] (fun (i s : Value) => ∃ k : Nat, k ≤ bs.length ∧ i = .int .i64 (k : Int) ∧ s = .int .u64 (numOf (bs.take k))) (fun i _ => bs.length - (intOf i).toNat)
  case atStart => exact ⟨0, Nat.zero_le _, rfl, rfl⟩
  case round =>
    obtain ⟨k, hk, rfl, rfl⟩ := hrel
    by_cases hlt : k < bs.length
    · have hk0 : (0 : Int) ≤ (k : Int) := by omega
      have hk1 : (k : Int) < (bs.length : Int) := by omega
      have hk2 : (k : Int) + 1 ≤ 100 := by omega
      have hc : w.cell? ⟨b, off + k, none⟩ = some (.int .u8 (bs.getD k 0)) := HB.out k _ (by simp [bys, b8, hlt])
      have hnext : numOf (bs.take (k + 1)) = numByte (numOf (bs.take k)) (bs.getD k 0) := by
        unfold numOf
        rw [List.take_succ_eq_append_getElem hlt, List.foldl_append]
        simp [hlt]
      unfold numByte at hnext
      have HN := Lib.hid hnext
      have HLT := Lib.hid hlt
      clear hnext hlt hk hl
      generalize numOf (bs.take k) = s at *
      generalize bs.getD k 0 = x at *
      generalize bs.length = L at *
      go_wp2
      go_roundw
      case rel => exact ⟨k + 1, by have := HLT.out; omega, by go_num, by rw [HN.out]⟩
      case measure => simp [intOf]; omega
    · obtain rfl : k = bs.length := by omega
      rw [List.take_length]
      clear hlt hk hl HB
      obtain ⟨s, hs⟩ : ∃ s, numOf bs = s := ⟨_, rfl⟩
      have HS := Lib.hid hs
      rw [hs]
      clear hs
      generalize bs.length = L at *
      go_wp2
      go_ret
      exact ⟨by rw [HS.out]; rfl, rfl⟩
end Go.Proofs.Ytienhidbgohhcaa
