/-
  Layer 5: the smallest calls: has, Dead, Ops, Stop, modulo, and how much of a write lasts.
-/
import Derived.Test.YtienhidbgohhcaaDkMem
import Derived.Deep.QuietTactic
import Derived.BigQuiet
set_option linter.unusedVariables false
set_option linter.unusedSimpArgs false
namespace Go.Proofs.Ytienhidbgohhcaa
open Go.RowKit

section
variable {w : World} {d s l : Nat} {v : Value} {n : Nat} {A : Dk.DV}

theorem has_yes (h : DkAt w d s l v n A) (i : Nat) (hi : i < n) : Calls Try.prog 32 #[.pointer (some ⟨d, 0, none⟩), .int .i64 (i : Int)] w fun e w' => e = .returned (.bool true) ∧ w = w' := by
  obtain ⟨c0, _, _, _, _, _⟩ := h.cells
  have h1 : ((0 : Int) ≤ (i : Int)) := by omega
  have h2 : decide (i < n) = true := by simpa using hi
  clear h hi
  go_enter Try.func32, Try.ntmps32
  go_wp2
  go_ret
  exact ⟨rfl, rfl⟩
theorem has_no (h : DkAt w d s l v n A) (i : Int) (hi : i < 0 ∨ (n : Int) ≤ i) : Calls Try.prog 32 #[.pointer (some ⟨d, 0, none⟩), .int .i64 i] w fun e w' => e = .returned (.bool false) ∧ w = w' := by
  obtain ⟨c0, _, _, _, _, _⟩ := h.cells
  clear h
  rcases hi with hi | hi
  · have h1 : decide ((0 : Int) ≤ i) = false := by simpa using hi
    clear hi
    go_enter Try.func32, Try.ntmps32
    go_wp2
    go_ret
    exact ⟨rfl, rfl⟩
  · have h1 : decide ((0 : Int) ≤ i) = true := by simp; omega
    have h2 : decide (i < (n : Int)) = false := by simpa using hi
    clear hi
    go_enter Try.func32, Try.ntmps32
    go_wp2
    go_ret
    exact ⟨rfl, rfl⟩
theorem Ops_any (h : DkAt w d s l v n A) : Calls Try.prog 10 #[.pointer (some ⟨d, 0, none⟩)] w fun e w' => e = .returned (.int .i64 (A.ops : Int)) ∧ w = w' := by
  obtain ⟨_, _, _, c3, _, _⟩ := h.cells
  clear h
  go_enter Try.func10, Try.ntmps10
  go_wp2
  go_ret
  exact ⟨rfl, rfl⟩
/-- A call that tells a truth, and draws. -/
def GivesDrew (b : Bool) (w : World) (e : Ending) (w' : World) : Prop := e = .returned (.bool b) ∧ ∃ k, w' = w.drewN k
theorem Dead_any (h : DkAt w d s l v n A) : Calls Try.prog 11 #[.pointer (some ⟨d, 0, none⟩)] w (GivesDrew A.dead w) := by
  obtain ⟨_, _, _, c3, c4, _⟩ := h.cells
  clear h
  have hd : decide (A.stop ≤ (A.ops : Int)) = A.dead := rfl
  generalize A.dead = b at *
  generalize (A.ops : Int) = m at *
  generalize A.stop = z at *
  go_enter Try.func11, Try.ntmps11
  go_wp2
  go_quiet (fail)
  go_wp2
  go_ret
  exact ⟨by simp [hd], _, rfl⟩
end
theorem modulo_any (w : World) (x : Int) (h1 : -9223372036854775808 ≤ x) (h2 : x ≤ 9223372036854775807) : Calls Try.prog 26 #[.int .i64 x, .int .i64 64] w fun e w' => e = .returned (.int .i64 (x % 64)) ∧ w = w' := by
  have k1 : -64 < x.tmod 64 ∧ x.tmod 64 < 64 ∧ (x.tmod 64 = x % 64 ∨ x.tmod 64 + 64 = x % 64) := by
    by_cases hx : 0 ≤ x
    · rw [Int.tmod_eq_emod_of_nonneg hx]
      omega
    · obtain ⟨y, rfl⟩ : ∃ y, x = -y := ⟨-x, by omega⟩
      rw [Int.neg_tmod, Int.tmod_eq_emod_of_nonneg (show 0 ≤ y by omega)]
      omega
  have e2 : (x.tmod 64 + 64).tmod 64 = x % 64 := by
    rw [Int.tmod_eq_emod_of_nonneg (by omega)]
    omega
  have e1 : IntKind.i64.wrap (x.tmod 64) = x.tmod 64 := IntWalk.i64_in _ (by omega)
  have e3 : IntKind.i64.wrap (x.tmod 64 + 64) = x.tmod 64 + 64 := IntWalk.i64_in _ (by omega)
  have e4 : IntKind.i64.wrap (x % 64) = x % 64 := IntWalk.i64_in _ (by omega)
  clear k1 h1 h2
  go_enter Try.func26, Try.ntmps26
  go_wp2
  go_ret
  simp [e1, e2, e3, e4]
theorem all_any (w : World) (x : Int) : Calls Try.prog 39 #[.int .i64 x] w fun e w' => e = .returned (.int .i64 64) ∧ w = w' := by
  go_enter Try.func39, Try.ntmps39
  go_wp2
  go_ret
  exact ⟨rfl, rfl⟩
end Go.Proofs.Ytienhidbgohhcaa

