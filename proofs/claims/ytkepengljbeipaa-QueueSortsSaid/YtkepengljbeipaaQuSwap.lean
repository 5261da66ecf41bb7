/-
  Layer 17: two change places; one goes behind the others; the last one goes.
-/
import Derived.Test.YtkepengljbeipaaQuOps
import Derived.RegionTactic
import Derived.BigRegion
set_option linter.unusedVariables false
set_option linter.unusedSimpArgs false
namespace Go.Proofs.Ytkepengljbeipaa
open Go.RowKit Qu

section
variable {w : World} {b s h n : Nat} {sc l : List Int} {len : Nat}
set_option maxRecDepth 100000 in
set_option maxHeartbeats 2000000 in
theorem Swap_any (q : QAt w b s h n sc l len) (i j : Nat) (hi : i < len) (hj : j < len) :
    Calls Try.prog 53 #[ordV b, .int .i64 (i : Int), .int .i64 (j : Int)] w (GivesQ (.tuple #[]) (Is h) b s h n sc (sw l i j) len w) := by
  have hle := q.le
  have hlt := q.lts
  have hne := q.nes
  obtain ⟨W1, hW1⟩ : ∃ W1, W1 = w.alloc (.cells #[.pointer (some ⟨b, 0, none⟩)] 50) := ⟨_, rfl⟩
  have hB1 : Below w.heap.size w W1 := by rw [hW1]; exact (Below.refl _ _).alloc (Nat.le_refl _) _
  have q1 := q.kept hB1
  have k0 : W1.cell? ⟨w.heap.size, 0, none⟩ = some (.pointer (some ⟨b, 0, none⟩)) := by rw [hW1]; exact new_cell _ _ _
  obtain ⟨c0, c1⟩ := q1.reads
  have hc1 : W1.cell? ⟨h, i, none⟩ = some (.int .i64 (el l i)) := q1.hk (by omega) (Below.refl _ _)
  have hc2 : W1.cell? ⟨h, j, none⟩ = some (.int .i64 (el l j)) := q1.hk (by omega) (Below.refl _ _)
  have hf : ∀ k, W1.frozen? ⟨h, k, none⟩ = false := q1.rows.heap.frozen
  have HF : Hid (∀ W : World, W.heap = ((W1.setCell ⟨h, i, none⟩ (.int .i64 (el l j))).setCell ⟨h, j, none⟩ (.int .i64 (el l i))).heap → W.os = W1.os → W.tape = W1.tape → W.output = W1.output → GivesQ (.tuple #[]) (Is h) b s h n sc (sw l i j) len w (.returned (.tuple #[])) W) := by
    intro W hWh ho ht hp
    have r1 := q1.rows.heap.set i (el l j)
    have r2 := r1.set j (el l i)
    have z2 := Chg.set (S := Is h) (.set (.of_below hB1) (Is.mk h) i (.int .i64 (el l j))) (Is.mk h) j (.int .i64 (el l i))
    have z3 := Chg.set (S := Is h) (.set (.refl _ W1) (Is.mk h) i (.int .i64 (el l j))) (Is.mk h) j (.int .i64 (el l i))
    exact ⟨rfl, ⟨by unfold Head; rw [hWh, z3.block _ q1.lts.1 (fun e => hne.2.1 e)]; exact q1.head, ⟨by unfold Nums; rw [hWh, z3.block _ q1.lts.2.1 (fun e => hne.2.2 e)]; exact q1.rows.score, by unfold Nums; rw [hWh]; exact r2, q1.rows.ls, by rw [sw_len]; exact q1.rows.ll, q1.rows.ne, q1.rows.few⟩, hle⟩, ho.trans hB1.os, ht.trans hB1.tape, hp.trans hB1.output, by rw [hWh]; exact z2.size, fun k hk hS => by rw [hWh]; exact z2.block k hk hS⟩
  have hs : (W1.setCell ⟨h, i, none⟩ (.int .i64 (el l j))).cell? ⟨h, j, none⟩ = some (.int .i64 (el (l.set i (el l j)) j)) := (q1.rows.heap.set i (el l j)).cell (by rw [List.length_set, q1.rows.ll]; omega)
  generalize el (l.set i (el l j)) j = z at *
  have HW := Lib.hid hW1
  generalize el l i = x at *
  generalize el l j = y at *
  unfold ordV
  obtain ⟨n1, n2, n3⟩ := hne
  obtain ⟨m1, m2, m3⟩ := hlt
  have n4 : b ≠ w.heap.size := by omega
  have n5 : h ≠ w.heap.size := by omega
  have n6 : w.heap.size ≠ h := by omega
  have n7 : h ≠ b := Ne.symm n2
  clear q q1 hB1 hW1
  go_enter Try.func53, Try.ntmps53
  go_wp2_with fail
  rw [← HW.out]
  go_region
  go_wp2
  go_end0
  exact HF.out _ rfl rfl rfl rfl
end
end Go.Proofs.Ytkepengljbeipaa
