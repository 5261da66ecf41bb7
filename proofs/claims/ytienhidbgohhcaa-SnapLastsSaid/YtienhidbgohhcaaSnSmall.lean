/-
  Layer 6: how great slots are, and where they lie.
-/
import Derived.Test.YtienhidbgohhcaaSnChunk
set_option linter.unusedVariables false
set_option linter.unusedSimpArgs false
namespace Go.Proofs.Ytienhidbgohhcaa
open Go.RowKit

theorem slotSectors_any (w : World) (n : Nat) (hn : n ≤ 1000000) : Calls Try.prog 14 #[.int .i64 (n : Int)] w fun e w' => e = .returned (.int .i64 ((n / 2 : Nat) : Int)) ∧ w = w' := by
  have h2 : (n : Int) / 2 = ((n / 2 : Nat) : Int) := rfl
  have h0 : (0 : Int) ≤ (n : Int) := by omega
  have h1 : (n : Int) ≤ 1000000 := by omega
  clear hn
  generalize n / 2 = m at *
  go_enter Try.func14, Try.ntmps14
  go_wp2
  go_ret
  exact ⟨by simp [h2], rfl⟩
theorem Room_any (w : World) (n : Nat) (hn : n ≤ 1000) : Calls Try.prog 6 #[.int .i64 (n : Int)] w fun e w' => e = .returned (.int .i64 ((64 * (n / 2 - 1) : Nat) : Int)) ∧ w = w' := by
  have HS := Lib.hid (slotSectors_any w n (by omega))
  have hm : n / 2 ≤ 500 := by omega
  generalize n / 2 = m at *
  have h0 : (if (m : Int) - 1 < 0 then (0 : Int) else (m : Int) - 1) = ((m - 1 : Nat) : Int) := by split <;> omega
  have hle : ((m - 1 : Nat) : Int) ≤ 500 := by omega
  have hpr : ((m - 1 : Nat) : Int) * 64 = ((64 * (m - 1) : Nat) : Int) := by omega
  have hge : 0 ≤ ((m - 1 : Nat) : Int) := by omega
  have hm1 : (m : Int) ≤ 500 := by omega
  go_enter Try.func6, Try.ntmps6
  go_wp2_with (first | (go_at_call 14; refine HS.out.mono ?_; rintro e w' ⟨rfl, rfl⟩))
  go_ret
  exact ⟨by simp, rfl⟩
section
variable {w : World} {d s l : Nat} {v : Value} {n : Nat} {A : Dk.DV}
theorem Len_any (h : DkAt w d s l v n A) : Calls Try.prog 15 #[.pointer (some ⟨d, 0, none⟩)] w fun e w' => e = .returned (.int .i64 (n : Int)) ∧ w = w' := by
  obtain ⟨c0, _, _, _, _, _⟩ := h.cells
  clear h
  go_enter Try.func15, Try.ntmps15
  go_wp2
  go_ret
  exact ⟨rfl, rfl⟩
theorem headerAt_any (h : DkAt w d s l v n A) (i : Nat) (hi : i < 2) : Calls Try.prog 22 #[.pointer (some ⟨d, 0, none⟩), .int .i64 (i : Int)] w fun e w' => e = .returned (.int .i64 ((i * (n / 2) : Nat) : Int)) ∧ w = w' := by
  have HL := Lib.hid (Len_any h)
  have HS := Lib.hid (slotSectors_any w n (by have := h.fits.small; omega))
  have hm : n / 2 ≤ 500 := by have := h.fits.small; omega
  clear h
  generalize n / 2 = m at *
  have h2 : (i : Int) * (m : Int) = ((i * m : Nat) : Int) := by simp
  have h3 : i * m ≤ 500 := by
    have : i = 0 ∨ i = 1 := by omega
    rcases this with rfl | rfl <;> omega
  have h4 : ((i * m : Nat) : Int) ≤ 500 := by omega
  have h5 : (0 : Int) ≤ ((i * m : Nat) : Int) := by omega
  clear h3 hi hm
  generalize i * m = k at *
  go_enter Try.func22, Try.ntmps22
  go_wp2_with (first | (go_at_call 15; refine HL.out.mono ?_; rintro e w' ⟨rfl, rfl⟩) | (go_at_call 14; refine HS.out.mono ?_; rintro e w' ⟨rfl, rfl⟩))
  go_ret
  exact ⟨by simp [h2], rfl⟩
end
end Go.Proofs.Ytienhidbgohhcaa
