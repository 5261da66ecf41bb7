/-
  Layer 7: what a byte is: lex's own questions, and the document's.
-/
import Derived.Test.YtfmidhjenapaeaaLxPure
import Derived.Test.YtfmidhjenapaeaaRows
import Derived.WalkKit
import Derived.WalkSpells
import Derived.WalkLawsBesides
import Derived.Lib.Hide
import Derived.Lib.Strings
import Derived.Lib.Slices
import Derived.Lib.Walk
import Derived.Lib.Bytealg
import Derived.Laws.OwnMore
set_option linter.unusedVariables false
set_option linter.unusedSimpArgs false
namespace Go.Proofs.Ytfmidhjenapaeaa
open Go.RowKit Lx

/-- A call that tells a truth of a byte, and changes nothing. -/
def Tells (b : Bool) (w : World) (e : Ending) (w' : World) : Prop := e = .returned (.bool b) ∧ w = w'
theorem Tells.mk {b b' : Bool} {w : World} (h : b = b') : Tells b' w (.returned (.bool b)) w := ⟨by rw [h], rfl⟩
set_option maxRecDepth 100000 in
theorem isDigit_any (w : World) (c : Int) : Calls Try.prog 23 #[.int .u8 c] w (Tells (digitB c) w) := by
  go_enter Try.func23, Try.ntmps23
  go_wp2
  all_goals (go_ret; refine Tells.mk ?_; refine Bool.eq_iff_iff.2 ?_; simp [digitB, letterB, innerB, plainB, quotedB, literalB, lineB, blankB] <;> omega)
set_option maxRecDepth 100000 in
theorem isLetter_any (w : World) (c : Int) : Calls Try.prog 36 #[.int .u8 c] w (Tells (letterB c) w) := by
  go_enter Try.func36, Try.ntmps36
  go_wp2
  all_goals (go_ret; refine Tells.mk ?_; refine Bool.eq_iff_iff.2 ?_; simp [digitB, letterB, innerB, plainB, quotedB, literalB, lineB, blankB] <;> omega)
set_option maxRecDepth 100000 in
theorem isControl_any (w : World) (c : Int) : Calls Try.prog 38 #[.int .u8 c] w (Tells (c == 9 || c == 10 || c == 13) w) := by
  go_enter Try.func38, Try.ntmps38
  go_wp2
  all_goals (go_ret; refine Tells.mk ?_; refine Bool.eq_iff_iff.2 ?_; simp [digitB, letterB, innerB, plainB, quotedB, literalB, lineB, blankB] <;> omega)
set_option maxRecDepth 100000 in
theorem isBlank_any (w : World) (c : Int) : Calls Try.prog 26 #[.int .u8 c] w (Tells (blankB c) w) := by
  go_enter Try.func26, Try.ntmps26
  go_wp2
  all_goals (go_ret; refine Tells.mk ?_; refine Bool.eq_iff_iff.2 ?_; simp [digitB, letterB, innerB, plainB, quotedB, literalB, lineB, blankB] <;> omega)
set_option maxRecDepth 100000 in
theorem isOfLine_any (w : World) (c : Int) : Calls Try.prog 28 #[.int .u8 c] w (Tells (lineB c) w) := by
  go_enter Try.func28, Try.ntmps28
  go_wp2
  all_goals (go_ret; refine Tells.mk ?_; refine Bool.eq_iff_iff.2 ?_; simp [digitB, letterB, innerB, plainB, quotedB, literalB, lineB, blankB] <;> omega)
set_option maxRecDepth 100000 in
theorem isPlain_any (w : World) (c : Int) : Calls Try.prog 39 #[.int .u8 c] w (Tells (plainB c) w) := by
  go_enter Try.func39, Try.ntmps39
  go_wp2
  all_goals (go_ret; refine Tells.mk ?_; refine Bool.eq_iff_iff.2 ?_; simp [digitB, letterB, innerB, plainB, quotedB, literalB, lineB, blankB] <;> omega)
set_option maxRecDepth 100000 in
theorem isOfQuoted_any (w : World) (c : Int) : Calls Try.prog 33 #[.int .u8 c] w (Tells (quotedB c) w) := by
  go_enter Try.func33, Try.ntmps33
  go_wp2
  all_goals (go_ret; refine Tells.mk ?_; refine Bool.eq_iff_iff.2 ?_; simp [digitB, letterB, innerB, plainB, quotedB, literalB, lineB, blankB] <;> omega)
set_option maxRecDepth 100000 in
theorem isOfLiteral_any (w : World) (c : Int) : Calls Try.prog 34 #[.int .u8 c] w (Tells (literalB c) w) := by
  go_enter Try.func34, Try.ntmps34
  go_wp2
  all_goals (go_ret; refine Tells.mk ?_; refine Bool.eq_iff_iff.2 ?_; simp [digitB, letterB, innerB, plainB, quotedB, literalB, lineB, blankB] <;> omega)
set_option maxRecDepth 100000 in
theorem digit_any (w : World) (c : Int) : Calls Try.prog 32 #[.int .u8 c] w (Tells (digitB c) w) := by
  go_enter Try.func32, Try.ntmps32
  go_wp2
  all_goals (go_ret; refine Tells.mk ?_; refine Bool.eq_iff_iff.2 ?_; simp [digitB, letterB, innerB, plainB, quotedB, literalB, lineB, blankB] <;> omega)
set_option maxRecDepth 100000 in
theorem blank_any (w : World) (c : Int) : Calls Try.prog 29 #[.int .u8 c] w (Tells (blankB c) w) := by
  go_enter Try.func29, Try.ntmps29
  go_wp2
  all_goals (go_ret; refine Tells.mk ?_; refine Bool.eq_iff_iff.2 ?_; simp [digitB, letterB, innerB, plainB, quotedB, literalB, lineB, blankB] <;> omega)
set_option maxRecDepth 100000 in
theorem plain_any (w : World) (c : Int) : Calls Try.prog 30 #[.int .u8 c] w (Tells (plainB c) w) := by
  go_enter Try.func30, Try.ntmps30
  go_wp2
  all_goals (go_ret; refine Tells.mk ?_; refine Bool.eq_iff_iff.2 ?_; simp [digitB, letterB, innerB, plainB, quotedB, literalB, lineB, blankB] <;> omega)
theorem sign_index (c : Int) (h0 : 0 ≤ c) (h1 : c < 256) : decide (0 ≤ Lib.indexByte (ByteArray.mk #[126, 33, 64, 36, 37, 94, 38, 42, 95, 45, 43, 61, 60, 62, 46, 63, 47]).data.toList c.toNat.toUInt8) = signs.contains c := by
  have key : ∀ n : Fin 256, decide (0 ≤ Lib.indexByte (ByteArray.mk #[126, 33, 64, 36, 37, 94, 38, 42, 95, 45, 43, 61, 60, 62, 46, 63, 47]).data.toList (n.val).toUInt8) = signs.contains (n.val : Int) := by decide +kernel
  have := key ⟨c.toNat, by omega⟩
  dsimp only at this
  rwa [show ((c.toNat : Nat) : Int) = c by omega] at this
set_option maxHeartbeats 1000000 in
set_option maxRecDepth 100000 in
theorem IndexByte_any (s : ByteArray) (c : Int) (w : World) : Calls Try.prog 37 #[.string s, .int .u8 c] w fun e w' => e = .returned (.int .i64 (Lib.indexByte s.data.toList c.toNat.toUInt8)) ∧ w = w' := by
  go_enter Try.func37, Try.ntmps37
  go_wp2
  rw [run_callFunc_extern Try.func41 (by kernel_rfl) (by kernel_rfl) (by kernel_rfl) (e := Extern.BytealgIndexByte.indexByte) (by kernel_rfl), Lib.run_indexByteString]
  simp only [Result.andThen]
  rw [Oper.upon_value]
  go_wp2
  go_ret
  exact ⟨rfl, rfl⟩
theorem isOfSymbol_any (w : World) (c : Int) (h0 : 0 ≤ c) (h1 : c < 256) : Calls Try.prog 24 #[.int .u8 c] w (Tells (innerB c) w) := by
  have hs := Lib.hid (sign_index c h0 h1)
  have HI := Lib.hid (IndexByte_any (ByteArray.mk #[126, 33, 64, 36, 37, 94, 38, 42, 95, 45, 43, 61, 60, 62, 46, 63, 47]) c w)
  have HL := Lib.hid (isLetter_any w c)
  have HD := Lib.hid (isDigit_any w c)
  generalize Lib.indexByte (ByteArray.mk #[126, 33, 64, 36, 37, 94, 38, 42, 95, 45, 43, 61, 60, 62, 46, 63, 47]).data.toList c.toNat.toUInt8 = m at *
  have e : innerB c = (letterB c || digitB c || decide (0 ≤ m)) := by rw [hs.out]; rfl
  rw [e]
  clear hs h0 h1 e
  generalize letterB c = l at *
  generalize digitB c = d at *
  go_enter Try.func24, Try.ntmps24
  go_wp2_with (first | (go_at_call 36; refine HL.out.mono ?_; rintro e w' ⟨rfl, rfl⟩) | (go_at_call 23; refine HD.out.mono ?_; rintro e w' ⟨rfl, rfl⟩) | (go_at_call 37; refine HI.out.mono ?_; rintro e w' ⟨rfl, rfl⟩))
  all_goals (go_ret; refine Tells.mk ?_; simp_all)
set_option maxRecDepth 100000 in
set_option maxHeartbeats 2000000 in
theorem inner_any (w : World) (c : Int) : Calls Try.prog 31 #[.int .u8 c] w (Tells (innerB c) w) := by
  have HD := Lib.hid (digit_any w c)
  go_enter Try.func31, Try.ntmps31
  go_wp2
  go_loopw [4] (fun (i : Value) (w1 : World) => w = w1 ∧ ∃ k : Nat, k ≤ 17 ∧ i = .int .i64 (k : Int) ∧ Hid ((signs.take k).contains c = false)) (fun i _ => 17 - (intOf i).toNat)
  case atStart => exact ⟨rfl, 0, by omega, rfl, Lib.hid rfl⟩
  case round =>
    obtain ⟨rfl, k, hk, rfl, HK⟩ := hrel
    obtain rfl | rfl | rfl | rfl | rfl | rfl | rfl | rfl | rfl | rfl | rfl | rfl | rfl | rfl | rfl | rfl | rfl | rfl : k = 0 ∨ k = 1 ∨ k = 2 ∨ k = 3 ∨ k = 4 ∨ k = 5 ∨ k = 6 ∨ k = 7 ∨ k = 8 ∨ k = 9 ∨ k = 10 ∨ k = 11 ∨ k = 12 ∨ k = 13 ∨ k = 14 ∨ k = 15 ∨ k = 16 ∨ k = 17 := by omega
    · have hv : ((((ByteArray.mk #[126, 33, 64, 36, 37, 94, 38, 42, 95, 45, 43, 61, 60, 62, 46, 63, 47])[0]'(by decide)).toNat : Nat) : Int) = 126 := by decide
      by_cases hc : c = 126
      · have hc2 : (((((ByteArray.mk #[126, 33, 64, 36, 37, 94, 38, 42, 95, 45, 43, 61, 60, 62, 46, 63, 47])[0]'(by decide)).toNat : Nat) : Int) == c) = true := by rw [hv, hc]; rfl
        have e : innerB c = true := by rw [hc]; rfl
        rw [e]
        clear HK hk hc hv e
        go_wp2
        go_ret
        exact Tells.mk rfl
      · have hc1 : Hid ((signs.take 1).contains c = false) := by
          have h := HK.out
          refine Lib.hid ?_
          simp [signs] at h ⊢
          omega
        have hc2 : (((((ByteArray.mk #[126, 33, 64, 36, 37, 94, 38, 42, 95, 45, 43, 61, 60, 62, 46, 63, 47])[0]'(by decide)).toNat : Nat) : Int) == c) = false := by rw [hv]; simp; omega
        clear HK hk hc hv
        go_wp2
        go_roundw
        case rel => exact ⟨trivial, 1, by omega, by go_num, hc1⟩
        case measure => simp [intOf]
    · have hv : ((((ByteArray.mk #[126, 33, 64, 36, 37, 94, 38, 42, 95, 45, 43, 61, 60, 62, 46, 63, 47])[1]'(by decide)).toNat : Nat) : Int) = 33 := by decide
      by_cases hc : c = 33
      · have hc2 : (((((ByteArray.mk #[126, 33, 64, 36, 37, 94, 38, 42, 95, 45, 43, 61, 60, 62, 46, 63, 47])[1]'(by decide)).toNat : Nat) : Int) == c) = true := by rw [hv, hc]; rfl
        have e : innerB c = true := by rw [hc]; rfl
        rw [e]
        clear HK hk hc hv e
        go_wp2
        go_ret
        exact Tells.mk rfl
      · have hc1 : Hid ((signs.take 2).contains c = false) := by
          have h := HK.out
          refine Lib.hid ?_
          simp [signs] at h ⊢
          omega
        have hc2 : (((((ByteArray.mk #[126, 33, 64, 36, 37, 94, 38, 42, 95, 45, 43, 61, 60, 62, 46, 63, 47])[1]'(by decide)).toNat : Nat) : Int) == c) = false := by rw [hv]; simp; omega
        clear HK hk hc hv
        go_wp2
        go_roundw
        case rel => exact ⟨trivial, 2, by omega, by go_num, hc1⟩
        case measure => simp [intOf]
    · have hv : ((((ByteArray.mk #[126, 33, 64, 36, 37, 94, 38, 42, 95, 45, 43, 61, 60, 62, 46, 63, 47])[2]'(by decide)).toNat : Nat) : Int) = 64 := by decide
      by_cases hc : c = 64
      · have hc2 : (((((ByteArray.mk #[126, 33, 64, 36, 37, 94, 38, 42, 95, 45, 43, 61, 60, 62, 46, 63, 47])[2]'(by decide)).toNat : Nat) : Int) == c) = true := by rw [hv, hc]; rfl
        have e : innerB c = true := by rw [hc]; rfl
        rw [e]
        clear HK hk hc hv e
        go_wp2
        go_ret
        exact Tells.mk rfl
      · have hc1 : Hid ((signs.take 3).contains c = false) := by
          have h := HK.out
          refine Lib.hid ?_
          simp [signs] at h ⊢
          omega
        have hc2 : (((((ByteArray.mk #[126, 33, 64, 36, 37, 94, 38, 42, 95, 45, 43, 61, 60, 62, 46, 63, 47])[2]'(by decide)).toNat : Nat) : Int) == c) = false := by rw [hv]; simp; omega
        clear HK hk hc hv
        go_wp2
        go_roundw
        case rel => exact ⟨trivial, 3, by omega, by go_num, hc1⟩
        case measure => simp [intOf]
    · have hv : ((((ByteArray.mk #[126, 33, 64, 36, 37, 94, 38, 42, 95, 45, 43, 61, 60, 62, 46, 63, 47])[3]'(by decide)).toNat : Nat) : Int) = 36 := by decide
      by_cases hc : c = 36
      · have hc2 : (((((ByteArray.mk #[126, 33, 64, 36, 37, 94, 38, 42, 95, 45, 43, 61, 60, 62, 46, 63, 47])[3]'(by decide)).toNat : Nat) : Int) == c) = true := by rw [hv, hc]; rfl
        have e : innerB c = true := by rw [hc]; rfl
        rw [e]
        clear HK hk hc hv e
        go_wp2
        go_ret
        exact Tells.mk rfl
      · have hc1 : Hid ((signs.take 4).contains c = false) := by
          have h := HK.out
          refine Lib.hid ?_
          simp [signs] at h ⊢
          omega
        have hc2 : (((((ByteArray.mk #[126, 33, 64, 36, 37, 94, 38, 42, 95, 45, 43, 61, 60, 62, 46, 63, 47])[3]'(by decide)).toNat : Nat) : Int) == c) = false := by rw [hv]; simp; omega
        clear HK hk hc hv
        go_wp2
        go_roundw
        case rel => exact ⟨trivial, 4, by omega, by go_num, hc1⟩
        case measure => simp [intOf]
    · have hv : ((((ByteArray.mk #[126, 33, 64, 36, 37, 94, 38, 42, 95, 45, 43, 61, 60, 62, 46, 63, 47])[4]'(by decide)).toNat : Nat) : Int) = 37 := by decide
      by_cases hc : c = 37
      · have hc2 : (((((ByteArray.mk #[126, 33, 64, 36, 37, 94, 38, 42, 95, 45, 43, 61, 60, 62, 46, 63, 47])[4]'(by decide)).toNat : Nat) : Int) == c) = true := by rw [hv, hc]; rfl
        have e : innerB c = true := by rw [hc]; rfl
        rw [e]
        clear HK hk hc hv e
        go_wp2
        go_ret
        exact Tells.mk rfl
      · have hc1 : Hid ((signs.take 5).contains c = false) := by
          have h := HK.out
          refine Lib.hid ?_
          simp [signs] at h ⊢
          omega
        have hc2 : (((((ByteArray.mk #[126, 33, 64, 36, 37, 94, 38, 42, 95, 45, 43, 61, 60, 62, 46, 63, 47])[4]'(by decide)).toNat : Nat) : Int) == c) = false := by rw [hv]; simp; omega
        clear HK hk hc hv
        go_wp2
        go_roundw
        case rel => exact ⟨trivial, 5, by omega, by go_num, hc1⟩
        case measure => simp [intOf]
    · have hv : ((((ByteArray.mk #[126, 33, 64, 36, 37, 94, 38, 42, 95, 45, 43, 61, 60, 62, 46, 63, 47])[5]'(by decide)).toNat : Nat) : Int) = 94 := by decide
      by_cases hc : c = 94
      · have hc2 : (((((ByteArray.mk #[126, 33, 64, 36, 37, 94, 38, 42, 95, 45, 43, 61, 60, 62, 46, 63, 47])[5]'(by decide)).toNat : Nat) : Int) == c) = true := by rw [hv, hc]; rfl
        have e : innerB c = true := by rw [hc]; rfl
        rw [e]
        clear HK hk hc hv e
        go_wp2
        go_ret
        exact Tells.mk rfl
      · have hc1 : Hid ((signs.take 6).contains c = false) := by
          have h := HK.out
          refine Lib.hid ?_
          simp [signs] at h ⊢
          omega
        have hc2 : (((((ByteArray.mk #[126, 33, 64, 36, 37, 94, 38, 42, 95, 45, 43, 61, 60, 62, 46, 63, 47])[5]'(by decide)).toNat : Nat) : Int) == c) = false := by rw [hv]; simp; omega
        clear HK hk hc hv
        go_wp2
        go_roundw
        case rel => exact ⟨trivial, 6, by omega, by go_num, hc1⟩
        case measure => simp [intOf]
    · have hv : ((((ByteArray.mk #[126, 33, 64, 36, 37, 94, 38, 42, 95, 45, 43, 61, 60, 62, 46, 63, 47])[6]'(by decide)).toNat : Nat) : Int) = 38 := by decide
      by_cases hc : c = 38
      · have hc2 : (((((ByteArray.mk #[126, 33, 64, 36, 37, 94, 38, 42, 95, 45, 43, 61, 60, 62, 46, 63, 47])[6]'(by decide)).toNat : Nat) : Int) == c) = true := by rw [hv, hc]; rfl
        have e : innerB c = true := by rw [hc]; rfl
        rw [e]
        clear HK hk hc hv e
        go_wp2
        go_ret
        exact Tells.mk rfl
      · have hc1 : Hid ((signs.take 7).contains c = false) := by
          have h := HK.out
          refine Lib.hid ?_
          simp [signs] at h ⊢
          omega
        have hc2 : (((((ByteArray.mk #[126, 33, 64, 36, 37, 94, 38, 42, 95, 45, 43, 61, 60, 62, 46, 63, 47])[6]'(by decide)).toNat : Nat) : Int) == c) = false := by rw [hv]; simp; omega
        clear HK hk hc hv
        go_wp2
        go_roundw
        case rel => exact ⟨trivial, 7, by omega, by go_num, hc1⟩
        case measure => simp [intOf]
    · have hv : ((((ByteArray.mk #[126, 33, 64, 36, 37, 94, 38, 42, 95, 45, 43, 61, 60, 62, 46, 63, 47])[7]'(by decide)).toNat : Nat) : Int) = 42 := by decide
      by_cases hc : c = 42
      · have hc2 : (((((ByteArray.mk #[126, 33, 64, 36, 37, 94, 38, 42, 95, 45, 43, 61, 60, 62, 46, 63, 47])[7]'(by decide)).toNat : Nat) : Int) == c) = true := by rw [hv, hc]; rfl
        have e : innerB c = true := by rw [hc]; rfl
        rw [e]
        clear HK hk hc hv e
        go_wp2
        go_ret
        exact Tells.mk rfl
      · have hc1 : Hid ((signs.take 8).contains c = false) := by
          have h := HK.out
          refine Lib.hid ?_
          simp [signs] at h ⊢
          omega
        have hc2 : (((((ByteArray.mk #[126, 33, 64, 36, 37, 94, 38, 42, 95, 45, 43, 61, 60, 62, 46, 63, 47])[7]'(by decide)).toNat : Nat) : Int) == c) = false := by rw [hv]; simp; omega
        clear HK hk hc hv
        go_wp2
        go_roundw
        case rel => exact ⟨trivial, 8, by omega, by go_num, hc1⟩
        case measure => simp [intOf]
    · have hv : ((((ByteArray.mk #[126, 33, 64, 36, 37, 94, 38, 42, 95, 45, 43, 61, 60, 62, 46, 63, 47])[8]'(by decide)).toNat : Nat) : Int) = 95 := by decide
      by_cases hc : c = 95
      · have hc2 : (((((ByteArray.mk #[126, 33, 64, 36, 37, 94, 38, 42, 95, 45, 43, 61, 60, 62, 46, 63, 47])[8]'(by decide)).toNat : Nat) : Int) == c) = true := by rw [hv, hc]; rfl
        have e : innerB c = true := by rw [hc]; rfl
        rw [e]
        clear HK hk hc hv e
        go_wp2
        go_ret
        exact Tells.mk rfl
      · have hc1 : Hid ((signs.take 9).contains c = false) := by
          have h := HK.out
          refine Lib.hid ?_
          simp [signs] at h ⊢
          omega
        have hc2 : (((((ByteArray.mk #[126, 33, 64, 36, 37, 94, 38, 42, 95, 45, 43, 61, 60, 62, 46, 63, 47])[8]'(by decide)).toNat : Nat) : Int) == c) = false := by rw [hv]; simp; omega
        clear HK hk hc hv
        go_wp2
        go_roundw
        case rel => exact ⟨trivial, 9, by omega, by go_num, hc1⟩
        case measure => simp [intOf]
    · have hv : ((((ByteArray.mk #[126, 33, 64, 36, 37, 94, 38, 42, 95, 45, 43, 61, 60, 62, 46, 63, 47])[9]'(by decide)).toNat : Nat) : Int) = 45 := by decide
      by_cases hc : c = 45
      · have hc2 : (((((ByteArray.mk #[126, 33, 64, 36, 37, 94, 38, 42, 95, 45, 43, 61, 60, 62, 46, 63, 47])[9]'(by decide)).toNat : Nat) : Int) == c) = true := by rw [hv, hc]; rfl
        have e : innerB c = true := by rw [hc]; rfl
        rw [e]
        clear HK hk hc hv e
        go_wp2
        go_ret
        exact Tells.mk rfl
      · have hc1 : Hid ((signs.take 10).contains c = false) := by
          have h := HK.out
          refine Lib.hid ?_
          simp [signs] at h ⊢
          omega
        have hc2 : (((((ByteArray.mk #[126, 33, 64, 36, 37, 94, 38, 42, 95, 45, 43, 61, 60, 62, 46, 63, 47])[9]'(by decide)).toNat : Nat) : Int) == c) = false := by rw [hv]; simp; omega
        clear HK hk hc hv
        go_wp2
        go_roundw
        case rel => exact ⟨trivial, 10, by omega, by go_num, hc1⟩
        case measure => simp [intOf]
    · have hv : ((((ByteArray.mk #[126, 33, 64, 36, 37, 94, 38, 42, 95, 45, 43, 61, 60, 62, 46, 63, 47])[10]'(by decide)).toNat : Nat) : Int) = 43 := by decide
      by_cases hc : c = 43
      · have hc2 : (((((ByteArray.mk #[126, 33, 64, 36, 37, 94, 38, 42, 95, 45, 43, 61, 60, 62, 46, 63, 47])[10]'(by decide)).toNat : Nat) : Int) == c) = true := by rw [hv, hc]; rfl
        have e : innerB c = true := by rw [hc]; rfl
        rw [e]
        clear HK hk hc hv e
        go_wp2
        go_ret
        exact Tells.mk rfl
      · have hc1 : Hid ((signs.take 11).contains c = false) := by
          have h := HK.out
          refine Lib.hid ?_
          simp [signs] at h ⊢
          omega
        have hc2 : (((((ByteArray.mk #[126, 33, 64, 36, 37, 94, 38, 42, 95, 45, 43, 61, 60, 62, 46, 63, 47])[10]'(by decide)).toNat : Nat) : Int) == c) = false := by rw [hv]; simp; omega
        clear HK hk hc hv
        go_wp2
        go_roundw
        case rel => exact ⟨trivial, 11, by omega, by go_num, hc1⟩
        case measure => simp [intOf]
    · have hv : ((((ByteArray.mk #[126, 33, 64, 36, 37, 94, 38, 42, 95, 45, 43, 61, 60, 62, 46, 63, 47])[11]'(by decide)).toNat : Nat) : Int) = 61 := by decide
      by_cases hc : c = 61
      · have hc2 : (((((ByteArray.mk #[126, 33, 64, 36, 37, 94, 38, 42, 95, 45, 43, 61, 60, 62, 46, 63, 47])[11]'(by decide)).toNat : Nat) : Int) == c) = true := by rw [hv, hc]; rfl
        have e : innerB c = true := by rw [hc]; rfl
        rw [e]
        clear HK hk hc hv e
        go_wp2
        go_ret
        exact Tells.mk rfl
      · have hc1 : Hid ((signs.take 12).contains c = false) := by
          have h := HK.out
          refine Lib.hid ?_
          simp [signs] at h ⊢
          omega
        have hc2 : (((((ByteArray.mk #[126, 33, 64, 36, 37, 94, 38, 42, 95, 45, 43, 61, 60, 62, 46, 63, 47])[11]'(by decide)).toNat : Nat) : Int) == c) = false := by rw [hv]; simp; omega
        clear HK hk hc hv
        go_wp2
        go_roundw
        case rel => exact ⟨trivial, 12, by omega, by go_num, hc1⟩
        case measure => simp [intOf]
    · have hv : ((((ByteArray.mk #[126, 33, 64, 36, 37, 94, 38, 42, 95, 45, 43, 61, 60, 62, 46, 63, 47])[12]'(by decide)).toNat : Nat) : Int) = 60 := by decide
      by_cases hc : c = 60
      · have hc2 : (((((ByteArray.mk #[126, 33, 64, 36, 37, 94, 38, 42, 95, 45, 43, 61, 60, 62, 46, 63, 47])[12]'(by decide)).toNat : Nat) : Int) == c) = true := by rw [hv, hc]; rfl
        have e : innerB c = true := by rw [hc]; rfl
        rw [e]
        clear HK hk hc hv e
        go_wp2
        go_ret
        exact Tells.mk rfl
      · have hc1 : Hid ((signs.take 13).contains c = false) := by
          have h := HK.out
          refine Lib.hid ?_
          simp [signs] at h ⊢
          omega
        have hc2 : (((((ByteArray.mk #[126, 33, 64, 36, 37, 94, 38, 42, 95, 45, 43, 61, 60, 62, 46, 63, 47])[12]'(by decide)).toNat : Nat) : Int) == c) = false := by rw [hv]; simp; omega
        clear HK hk hc hv
        go_wp2
        go_roundw
        case rel => exact ⟨trivial, 13, by omega, by go_num, hc1⟩
        case measure => simp [intOf]
    · have hv : ((((ByteArray.mk #[126, 33, 64, 36, 37, 94, 38, 42, 95, 45, 43, 61, 60, 62, 46, 63, 47])[13]'(by decide)).toNat : Nat) : Int) = 62 := by decide
      by_cases hc : c = 62
      · have hc2 : (((((ByteArray.mk #[126, 33, 64, 36, 37, 94, 38, 42, 95, 45, 43, 61, 60, 62, 46, 63, 47])[13]'(by decide)).toNat : Nat) : Int) == c) = true := by rw [hv, hc]; rfl
        have e : innerB c = true := by rw [hc]; rfl
        rw [e]
        clear HK hk hc hv e
        go_wp2
        go_ret
        exact Tells.mk rfl
      · have hc1 : Hid ((signs.take 14).contains c = false) := by
          have h := HK.out
          refine Lib.hid ?_
          simp [signs] at h ⊢
          omega
        have hc2 : (((((ByteArray.mk #[126, 33, 64, 36, 37, 94, 38, 42, 95, 45, 43, 61, 60, 62, 46, 63, 47])[13]'(by decide)).toNat : Nat) : Int) == c) = false := by rw [hv]; simp; omega
        clear HK hk hc hv
        go_wp2
        go_roundw
        case rel => exact ⟨trivial, 14, by omega, by go_num, hc1⟩
        case measure => simp [intOf]
    · have hv : ((((ByteArray.mk #[126, 33, 64, 36, 37, 94, 38, 42, 95, 45, 43, 61, 60, 62, 46, 63, 47])[14]'(by decide)).toNat : Nat) : Int) = 46 := by decide
      by_cases hc : c = 46
      · have hc2 : (((((ByteArray.mk #[126, 33, 64, 36, 37, 94, 38, 42, 95, 45, 43, 61, 60, 62, 46, 63, 47])[14]'(by decide)).toNat : Nat) : Int) == c) = true := by rw [hv, hc]; rfl
        have e : innerB c = true := by rw [hc]; rfl
        rw [e]
        clear HK hk hc hv e
        go_wp2
        go_ret
        exact Tells.mk rfl
      · have hc1 : Hid ((signs.take 15).contains c = false) := by
          have h := HK.out
          refine Lib.hid ?_
          simp [signs] at h ⊢
          omega
        have hc2 : (((((ByteArray.mk #[126, 33, 64, 36, 37, 94, 38, 42, 95, 45, 43, 61, 60, 62, 46, 63, 47])[14]'(by decide)).toNat : Nat) : Int) == c) = false := by rw [hv]; simp; omega
        clear HK hk hc hv
        go_wp2
        go_roundw
        case rel => exact ⟨trivial, 15, by omega, by go_num, hc1⟩
        case measure => simp [intOf]
    · have hv : ((((ByteArray.mk #[126, 33, 64, 36, 37, 94, 38, 42, 95, 45, 43, 61, 60, 62, 46, 63, 47])[15]'(by decide)).toNat : Nat) : Int) = 63 := by decide
      by_cases hc : c = 63
      · have hc2 : (((((ByteArray.mk #[126, 33, 64, 36, 37, 94, 38, 42, 95, 45, 43, 61, 60, 62, 46, 63, 47])[15]'(by decide)).toNat : Nat) : Int) == c) = true := by rw [hv, hc]; rfl
        have e : innerB c = true := by rw [hc]; rfl
        rw [e]
        clear HK hk hc hv e
        go_wp2
        go_ret
        exact Tells.mk rfl
      · have hc1 : Hid ((signs.take 16).contains c = false) := by
          have h := HK.out
          refine Lib.hid ?_
          simp [signs] at h ⊢
          omega
        have hc2 : (((((ByteArray.mk #[126, 33, 64, 36, 37, 94, 38, 42, 95, 45, 43, 61, 60, 62, 46, 63, 47])[15]'(by decide)).toNat : Nat) : Int) == c) = false := by rw [hv]; simp; omega
        clear HK hk hc hv
        go_wp2
        go_roundw
        case rel => exact ⟨trivial, 16, by omega, by go_num, hc1⟩
        case measure => simp [intOf]
    · have hv : ((((ByteArray.mk #[126, 33, 64, 36, 37, 94, 38, 42, 95, 45, 43, 61, 60, 62, 46, 63, 47])[16]'(by decide)).toNat : Nat) : Int) = 47 := by decide
      by_cases hc : c = 47
      · have hc2 : (((((ByteArray.mk #[126, 33, 64, 36, 37, 94, 38, 42, 95, 45, 43, 61, 60, 62, 46, 63, 47])[16]'(by decide)).toNat : Nat) : Int) == c) = true := by rw [hv, hc]; rfl
        have e : innerB c = true := by rw [hc]; rfl
        rw [e]
        clear HK hk hc hv e
        go_wp2
        go_ret
        exact Tells.mk rfl
      · have hc1 : Hid ((signs.take 17).contains c = false) := by
          have h := HK.out
          refine Lib.hid ?_
          simp [signs] at h ⊢
          omega
        have hc2 : (((((ByteArray.mk #[126, 33, 64, 36, 37, 94, 38, 42, 95, 45, 43, 61, 60, 62, 46, 63, 47])[16]'(by decide)).toNat : Nat) : Int) == c) = false := by rw [hv]; simp; omega
        clear HK hk hc hv
        go_wp2
        go_roundw
        case rel => exact ⟨trivial, 17, by omega, by go_num, hc1⟩
        case measure => simp [intOf]
    · have e : innerB c = (letterB c || digitB c) := by
        have h := HK.out
        rw [show signs.take 17 = signs from rfl] at h
        unfold innerB
        rw [h]
        simp
      have HE := Lib.hid e
      clear HK hk e
      generalize digitB c = d at *
      go_wp2_with ((go_at_call 32; refine HD.out.mono ?_; rintro e w' ⟨rfl, rfl⟩))
      all_goals (go_ret; refine Tells.mk ?_; rw [HE.out]; clear HE HD; (try subst d); refine Bool.eq_iff_iff.2 ?_; simp_all [letterB] <;> omega)
end Go.Proofs.Ytfmidhjenapaeaa
