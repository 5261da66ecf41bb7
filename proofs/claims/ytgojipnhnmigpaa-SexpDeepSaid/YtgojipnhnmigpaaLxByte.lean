/-
  Layer 7: what a byte is: lex's own questions, and the document's.
-/
import Derived.Test.YtgojipnhnmigpaaLxPure
import Derived.Test.YtgojipnhnmigpaaRows
import Derived.WalkKit
import Derived.WalkSpells
import Derived.WalkLawsBesides
import Derived.Lib.Hide
import Derived.Lib.Strings
import Derived.Lib.Slices
import Derived.Lib.Walk
import Derived.Lib.Bytealg
import Derived.Laws.OwnMore
set_option linter.unusedVariables false
set_option linter.unusedSimpArgs false
namespace Go.Proofs.Ytgojipnhnmigpaa
open Go.RowKit Lx

/-- A call that tells a truth of a byte, and changes nothing. -/
def Tells (b : Bool) (w : World) (e : Ending) (w' : World) : Prop := e = .returned (.bool b) ∧ w = w'
theorem Tells.mk {b b' : Bool} {w : World} (h : b = b') : Tells b' w (.returned (.bool b)) w := ⟨by rw [h], rfl⟩
set_option maxRecDepth 100000 in
theorem isDigit_any (w : World) (c : Int) : Calls Try.prog 35 #[.int .u8 c] w (Tells (digitB c) w) := by
  go_enter Try.func35, Try.ntmps35
  go_wp2
  all_goals (go_ret; refine Tells.mk ?_; refine Bool.eq_iff_iff.2 ?_; simp [digitB, letterB, innerB, plainB, quotedB, literalB, lineB, blankB] <;> omega)
set_option maxRecDepth 100000 in
theorem isLetter_any (w : World) (c : Int) : Calls Try.prog 45 #[.int .u8 c] w (Tells (letterB c) w) := by
  go_enter Try.func45, Try.ntmps45
  go_wp2
  all_goals (go_ret; refine Tells.mk ?_; refine Bool.eq_iff_iff.2 ?_; simp [digitB, letterB, innerB, plainB, quotedB, literalB, lineB, blankB] <;> omega)
set_option maxRecDepth 100000 in
theorem isControl_any (w : World) (c : Int) : Calls Try.prog 47 #[.int .u8 c] w (Tells (c == 9 || c == 10 || c == 13) w) := by
  go_enter Try.func47, Try.ntmps47
  go_wp2
  all_goals (go_ret; refine Tells.mk ?_; refine Bool.eq_iff_iff.2 ?_; simp [digitB, letterB, innerB, plainB, quotedB, literalB, lineB, blankB] <;> omega)
set_option maxRecDepth 100000 in
theorem isBlank_any (w : World) (c : Int) : Calls Try.prog 38 #[.int .u8 c] w (Tells (blankB c) w) := by
  go_enter Try.func38, Try.ntmps38
  go_wp2
  all_goals (go_ret; refine Tells.mk ?_; refine Bool.eq_iff_iff.2 ?_; simp [digitB, letterB, innerB, plainB, quotedB, literalB, lineB, blankB] <;> omega)
set_option maxRecDepth 100000 in
theorem isOfLine_any (w : World) (c : Int) : Calls Try.prog 40 #[.int .u8 c] w (Tells (lineB c) w) := by
  go_enter Try.func40, Try.ntmps40
  go_wp2
  all_goals (go_ret; refine Tells.mk ?_; refine Bool.eq_iff_iff.2 ?_; simp [digitB, letterB, innerB, plainB, quotedB, literalB, lineB, blankB] <;> omega)
set_option maxRecDepth 100000 in
theorem isPlain_any (w : World) (c : Int) : Calls Try.prog 48 #[.int .u8 c] w (Tells (plainB c) w) := by
  go_enter Try.func48, Try.ntmps48
  go_wp2
  all_goals (go_ret; refine Tells.mk ?_; refine Bool.eq_iff_iff.2 ?_; simp [digitB, letterB, innerB, plainB, quotedB, literalB, lineB, blankB] <;> omega)
set_option maxRecDepth 100000 in
theorem isOfQuoted_any (w : World) (c : Int) : Calls Try.prog 42 #[.int .u8 c] w (Tells (quotedB c) w) := by
  go_enter Try.func42, Try.ntmps42
  go_wp2
  all_goals (go_ret; refine Tells.mk ?_; refine Bool.eq_iff_iff.2 ?_; simp [digitB, letterB, innerB, plainB, quotedB, literalB, lineB, blankB] <;> omega)
set_option maxRecDepth 100000 in
theorem isOfLiteral_any (w : World) (c : Int) : Calls Try.prog 43 #[.int .u8 c] w (Tells (literalB c) w) := by
  go_enter Try.func43, Try.ntmps43
  go_wp2
  all_goals (go_ret; refine Tells.mk ?_; refine Bool.eq_iff_iff.2 ?_; simp [digitB, letterB, innerB, plainB, quotedB, literalB, lineB, blankB] <;> omega)
theorem sign_index (c : Int) (h0 : 0 ≤ c) (h1 : c < 256) : decide (0 ≤ Lib.indexByte (ByteArray.mk #[126, 33, 64, 36, 37, 94, 38, 42, 95, 45, 43, 61, 60, 62, 46, 63, 47]).data.toList c.toNat.toUInt8) = signs.contains c := by
  have key : ∀ n : Fin 256, decide (0 ≤ Lib.indexByte (ByteArray.mk #[126, 33, 64, 36, 37, 94, 38, 42, 95, 45, 43, 61, 60, 62, 46, 63, 47]).data.toList (n.val).toUInt8) = signs.contains (n.val : Int) := by decide +kernel
  have := key ⟨c.toNat, by omega⟩
  dsimp only at this
  rwa [show ((c.toNat : Nat) : Int) = c by omega] at this
set_option maxHeartbeats 1000000 in
set_option maxRecDepth 100000 in
theorem IndexByte_any (s : ByteArray) (c : Int) (w : World) : Calls Try.prog 46 #[.string s, .int .u8 c] w fun e w' => e = .returned (.int .i64 (Lib.indexByte s.data.toList c.toNat.toUInt8)) ∧ w = w' := by
  go_enter Try.func46, Try.ntmps46
  go_wp2
  rw [run_callFunc_extern Try.func50 (by kernel_rfl) (by kernel_rfl) (by kernel_rfl) (e := Extern.BytealgIndexByte.indexByte) (by kernel_rfl), Lib.run_indexByteString]
  simp only [Result.andThen]
  rw [Oper.upon_value]
  go_wp2
  go_ret
  exact ⟨rfl, rfl⟩
theorem isOfSymbol_any (w : World) (c : Int) (h0 : 0 ≤ c) (h1 : c < 256) : Calls Try.prog 36 #[.int .u8 c] w (Tells (innerB c) w) := by
  have hs := Lib.hid (sign_index c h0 h1)
  have HI := Lib.hid (IndexByte_any (ByteArray.mk #[126, 33, 64, 36, 37, 94, 38, 42, 95, 45, 43, 61, 60, 62, 46, 63, 47]) c w)
  have HL := Lib.hid (isLetter_any w c)
  have HD := Lib.hid (isDigit_any w c)
  generalize Lib.indexByte (ByteArray.mk #[126, 33, 64, 36, 37, 94, 38, 42, 95, 45, 43, 61, 60, 62, 46, 63, 47]).data.toList c.toNat.toUInt8 = m at *
  have e : innerB c = (letterB c || digitB c || decide (0 ≤ m)) := by rw [hs.out]; rfl
  rw [e]
  clear hs h0 h1 e
  generalize letterB c = l at *
  generalize digitB c = d at *
  go_enter Try.func36, Try.ntmps36
  go_wp2_with (first | (go_at_call 45; refine HL.out.mono ?_; rintro e w' ⟨rfl, rfl⟩) | (go_at_call 35; refine HD.out.mono ?_; rintro e w' ⟨rfl, rfl⟩) | (go_at_call 46; refine HI.out.mono ?_; rintro e w' ⟨rfl, rfl⟩))
  all_goals (go_ret; refine Tells.mk ?_; simp_all)
end Go.Proofs.Ytgojipnhnmigpaa

