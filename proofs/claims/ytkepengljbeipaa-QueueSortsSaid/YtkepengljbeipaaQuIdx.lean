/-
  Layer 17: who is in: slices.Index and Contains over the row of a queue, and Has.
-/
import Derived.Test.YtkepengljbeipaaQuOps
set_option linter.unusedVariables false
set_option linter.unusedSimpArgs false
namespace Go.Proofs.Ytkepengljbeipaa
open Go.RowKit Qu

section
variable {w : World} {b s h n : Nat} {sc l : List Int} {len : Nat}
/-- Numbers that may be read from a block's beginning on. -/
def Cells (w : World) (h : Nat) (l : List Int) (len : Nat) : Prop := ∀ k, k < len → w.cell? ⟨h, k, none⟩ = some (.int .i64 (el l k))
theorem Nums.cells {l : List Int} (k : Nums w h l) (hl : len ≤ l.length) : Cells w h l len := fun i hi => k.cell (by omega)
theorem Index_yes (C : Cells w h l len) (hf : len ≤ 1048576) (v : Int) (i : Nat) (hi : i < len) (he : el l i = v) (hn : ∀ k, k < i → el l k ≠ v) (c : Nat) :
    Calls Try.prog 20 #[.slice (some ⟨h, 0, none⟩) len c, .int .i64 v] w fun e w' => e = .returned (.int .i64 (i : Int)) ∧ w = w' := by
  have HC := Lib.hid C
  have HN := Lib.hid hn
  have HE := Lib.hid he
  clear C hn he
  go_enter Try.func20, Try.ntmps20
  go_wp2_with fail
  go_loop [8] (fun jv => ∃ k : Nat, k ≤ i ∧ jv = .int .i64 k) (fun jv => len - (intOf jv).toNat)
  case atStart => exact ⟨0, Nat.zero_le _, rfl⟩
  case round =>
    obtain ⟨k, hk, rfl⟩ := hrel
    have hkl : k < len := by omega
    have hc := HC.out k hkl
    by_cases hki : k = i
    · subst hki
      rw [HE.out] at hc
      go_wp2_with fail
      go_ret
      exact ⟨rfl, rfl⟩
    · have hne : (v == el l k) = false := by
        rw [beq_eq_false_iff_ne]
        exact fun e => HN.out k (by omega) e.symm
      generalize el l k = x at *
      go_wp2_with fail
      go_round
      case rel => exact ⟨k + 1, by omega, by go_num⟩
      case measure => simp [intOf]; omega
theorem Index_no (C : Cells w h l len) (hf : len ≤ 1048576) (v : Int) (hn : ¬ Mem l len v) (c : Nat) :
    Calls Try.prog 20 #[.slice (some ⟨h, 0, none⟩) len c, .int .i64 v] w fun e w' => e = .returned (.int .i64 (-1)) ∧ w = w' := by
  have HC := Lib.hid C
  have HN := Lib.hid hn
  clear C hn
  go_enter Try.func20, Try.ntmps20
  go_wp2_with fail
  go_loop [8] (fun jv => ∃ k : Nat, k ≤ len ∧ jv = .int .i64 k) (fun jv => len - (intOf jv).toNat)
  case atStart => exact ⟨0, Nat.zero_le _, rfl⟩
  case round =>
    obtain ⟨k, hk, rfl⟩ := hrel
    by_cases hkl : k < len
    · have hc := HC.out k hkl
      have hne : (v == el l k) = false := by
        rw [beq_eq_false_iff_ne]
        exact fun e => HN.out ⟨k, hkl, e.symm⟩
      generalize el l k = x at *
      go_wp2_with fail
      go_round
      case rel => exact ⟨k + 1, by omega, by go_num⟩
      case measure => simp [intOf]; omega
    · go_wp2_with fail
      go_ret
      exact ⟨rfl, rfl⟩
/-- The first place. -/
theorem first_place {l : List Int} {len : Nat} {v : Int} (h : Mem l len v) : ∃ i, i < len ∧ el l i = v ∧ ∀ k, k < i → el l k ≠ v := by
  obtain ⟨i, hi, he⟩ := h
  induction i using Nat.strongRecOn with
  | ind i ih =>
    by_cases c : ∃ k, k < i ∧ el l k = v
    · obtain ⟨k, hk, hv⟩ := c
      exact ih k hk (by omega) hv
    · exact ⟨i, hi, he, fun k hk hv => c ⟨k, hk, hv⟩⟩
theorem Contains_yes (C : Cells w h l len) (hf : len ≤ 1048576) (v : Int) (hm : Mem l len v) (c : Nat) :
    Calls Try.prog 27 #[.slice (some ⟨h, 0, none⟩) len c, .int .i64 v] w fun e w' => e = .returned (.bool true) ∧ w = w' := by
  obtain ⟨i, hi, he, hn⟩ := first_place hm
  have HI := Lib.hid (Index_yes C hf v i hi he hn c)
  clear C he hn hm
  go_enter Try.func27, Try.ntmps27
  go_wp2_with fail
  refine HI.out.mono ?_
  rintro e w' ⟨rfl, rfl⟩
  go_wp2_with fail
  go_ret
  exact ⟨rfl, rfl⟩
theorem Contains_no (C : Cells w h l len) (hf : len ≤ 1048576) (v : Int) (hm : ¬ Mem l len v) (c : Nat) :
    Calls Try.prog 27 #[.slice (some ⟨h, 0, none⟩) len c, .int .i64 v] w fun e w' => e = .returned (.bool false) ∧ w = w' := by
  have HI := Lib.hid (Index_no C hf v hm c)
  clear C hm
  go_enter Try.func27, Try.ntmps27
  go_wp2_with fail
  refine HI.out.mono ?_
  rintro e w' ⟨rfl, rfl⟩
  go_wp2_with fail
  go_ret
  exact ⟨rfl, rfl⟩
theorem RwAt.cells (k : RwAt w s h n sc l) (hl : len ≤ n) : Cells w h l len := k.heap.cells (by rw [k.ll]; exact hl)
theorem Has_yes (k : RwAt w s h n sc l) (hl : len ≤ n) (v : Int) (hm : Mem l len v) : Calls Try.prog 16 #[qV s h n len, .int .i64 v] w (GivesV (.bool true) w) := by
  have HI := Lib.hid (fun W (x : Below w.heap.size w W) => Contains_yes ((k.kept x).cells hl) (by have := k.few; omega) v hm n)
  unfold qV
  clear k hm
  go_enter Try.func16, Try.ntmps16
  go_wp2_with fail
  refine (HI.out _ ((Below.refl _ _).alloc (Nat.le_refl _) _)).mono ?_
  rintro e w' ⟨rfl, rfl⟩
  go_wp2_with fail
  go_ret
  exact GivesV.mk' rfl ((Below.refl _ _).alloc (Nat.le_refl _) _)
theorem Has_no (k : RwAt w s h n sc l) (hl : len ≤ n) (v : Int) (hm : ¬ Mem l len v) : Calls Try.prog 16 #[qV s h n len, .int .i64 v] w (GivesV (.bool false) w) := by
  have HI := Lib.hid (fun W (x : Below w.heap.size w W) => Contains_no ((k.kept x).cells hl) (by have := k.few; omega) v hm n)
  unfold qV
  clear k hm
  go_enter Try.func16, Try.ntmps16
  go_wp2_with fail
  refine (HI.out _ ((Below.refl _ _).alloc (Nat.le_refl _) _)).mono ?_
  rintro e w' ⟨rfl, rfl⟩
  go_wp2_with fail
  go_ret
  exact GivesV.mk' rfl ((Below.refl _ _).alloc (Nat.le_refl _) _)
end
end Go.Proofs.Ytkepengljbeipaa
