/-
  Layer 17: one goes behind the others; the last one goes.
-/
import Derived.Test.YtkepengljbeipaaQuOps
import Derived.RegionTactic
import Derived.BigRegion
import Derived.Deep.RegionLaw
import Derived.Deep.MidRow
set_option linter.unusedVariables false
set_option linter.unusedSimpArgs false
namespace Go.Proofs.Ytkepengljbeipaa
open Go.RowKit Qu

section
variable {w : World} {b s h n : Nat} {sc l : List Int} {len : Nat}
/-- The last one goes. -/
theorem MPop_any (q : QAt w b s h n sc l len) (h0 : 0 < len) :
    Calls Try.prog 51 #[ordV b] w (GivesQ (.iface 3 (.int .i64 (el l (len - 1)))) (Is b) b s h n sc l (len - 1) w) := by
  have hle := q.le
  have hlt := q.lts
  have hne := q.nes
  obtain ⟨W1, hW1⟩ : ∃ W1, W1 = w.alloc (.cells #[.pointer (some ⟨b, 0, none⟩)] 50) := ⟨_, rfl⟩
  have hB1 : Below w.heap.size w W1 := by rw [hW1]; exact (Below.refl _ _).alloc (Nat.le_refl _) _
  have q1 := q.kept hB1
  obtain ⟨m, rfl⟩ : ∃ m, len = m + 1 := ⟨len - 1, by omega⟩
  rw [Nat.add_sub_cancel]
  have k0 : W1.cell? ⟨w.heap.size, 0, none⟩ = some (.pointer (some ⟨b, 0, none⟩)) := by rw [hW1]; exact new_cell _ _ _
  obtain ⟨c0, c1⟩ := q1.reads
  have hc1 : W1.cell? ⟨h, m, none⟩ = some (.int .i64 (el l m)) := q1.hk (by omega) (Below.refl _ _)
  have hf : ∀ k, W1.frozen? ⟨b, k, none⟩ = false := q1.head.cells.2.2
  have HF : Hid (∀ W : World, W.heap = (W1.setCell ⟨b, 1, none⟩ (.slice (some ⟨h, 0, none⟩) m n)).heap → W.os = W1.os → W.tape = W1.tape → W.output = W1.output → GivesQ (.iface 3 (.int .i64 (el l m))) (Is b) b s h n sc l m w (.returned (.iface 3 (.int .i64 (el l m)))) W) := by
    intro W hWh ho ht hp
    have z2 := Chg.set (S := Is b) (.of_below hB1) (Is.mk b) 1 (.slice (some ⟨h, 0, none⟩) m n)
    have z3 := Chg.set (S := Is b) (.refl _ W1) (Is.mk b) 1 (.slice (some ⟨h, 0, none⟩) m n)
    have z4 := heap_setCell_same W1 b 1 _ 26 (.slice (some ⟨h, 0, none⟩) m n) q1.head
    exact ⟨rfl, ⟨by unfold Head; rw [hWh, z4]; rfl, q1.rows.past (by rw [hWh]; exact z3.block _ q1.lts.2.1 (fun e => hne.1 e.symm)) (by rw [hWh]; exact z3.block _ q1.lts.2.2 (fun e => hne.2.1 e.symm)), by omega⟩, ho.trans hB1.os, ht.trans hB1.tape, hp.trans hB1.output, by rw [hWh]; exact z2.size, fun k hk hS => by rw [hWh]; exact z2.block k hk hS⟩
  have HW := Lib.hid hW1
  have a1 := q.reads.2
  have a2 : w.cell? ⟨h, m, none⟩ = some (.int .i64 (el l m)) := q.hk (by omega) (Below.refl _ _)
  generalize el l m = x at *
  unfold ordV
  obtain ⟨n1, n2, n3⟩ := hne
  obtain ⟨m1, m2, m3⟩ := hlt
  have n4 : b ≠ w.heap.size := by omega
  have n6 : w.heap.size ≠ b := by omega
  have e1 : wrap64 (m : Int) = (m : Int) := IntWalk.wrap64_in _ (by have := q.rows.few; omega)
  have e2 : m < n := by omega
  have e3 : m ≤ m + 1 := by omega
  have e4 : m < m + 1 := by omega
  clear q q1 hB1 hW1
  go_enter Try.func51, Try.ntmps51
  go_wp2_with fail
  rw [← HW.out]
  go_region
  go_wp2
  go_ret
  exact HF.out _ rfl rfl rfl rfl
theorem assert_int (W : World) (v : Value) : (Instr.typeAssert (.iface 3 v) 20 3 true).run Try.prog W = .ok (.tuple #[v, .bool true]) W := by kernel_rfl
theorem info_int : (Try.prog.info? 3).map (fun i => (i.zero, i.size, i.bytes)) = some (some (.int .i64 0), 1, 8) := by kernel_rfl
set_option maxHeartbeats 2000000 in
/-- One goes behind the others, where there is room. -/
theorem MPush_any (q : QAt w b s h n sc l len) (h0 : len < n) (v : Int) :
    Calls Try.prog 52 #[ordV b, .iface 3 (.int .i64 v)] w (GivesQ (.tuple #[]) (IsB b h) b s h n sc (l.set len v) (len + 1) w) := by
  have hle := q.le
  have hlt := q.lts
  have hne := q.nes
  obtain ⟨W1, hW1⟩ : ∃ W1, W1 = w.alloc (.cells #[.pointer (some ⟨b, 0, none⟩)] 50) := ⟨_, rfl⟩
  have hB1 : Below w.heap.size w W1 := by rw [hW1]; exact (Below.refl _ _).alloc (Nat.le_refl _) _
  have hz1 : W1.heap.size = w.heap.size + 1 := by rw [hW1]; simp
  obtain ⟨W2, hW2⟩ : ∃ W2, W2 = (W1.alloc (.cells #[.int .i64 v] 3)).drew := ⟨_, rfl⟩
  have hB2 : Below w.heap.size w W2 := by rw [hW2]; exact (hB1.alloc (by omega) _).drew
  have q1 := q.kept hB1
  have q2 := q.kept hB2
  have k0 : W1.cell? ⟨w.heap.size, 0, none⟩ = some (.pointer (some ⟨b, 0, none⟩)) := by rw [hW1]; exact new_cell _ _ _
  have k1 : W2.cell? ⟨W1.heap.size, 0, none⟩ = some (.int .i64 v) := by rw [hW2]; exact new_cell _ _ _
  obtain ⟨c0, c1⟩ := q1.reads
  have hf : ∀ k, W2.frozen? ⟨b, k, none⟩ = false := q2.head.cells.2.2
  have s1 : Hid (∀ j u, [Value.int .i64 v][j]? = some u → W2.cell? (Addr.add ⟨W1.heap.size, 0, none⟩ j) = some u) := by
    intro j u hu
    match j, hu with
    | 0, hu => simp only [List.getElem?_cons_zero, Option.some.injEq] at hu; subst hu; exact k1
    | j + 1, hu => simp at hu
  have s3 : Hid (∀ j, j < [Value.int .i64 v].length → (W2.cell? ⟨h, 0 + len * 1 + j, none⟩).isSome = true ∧ W2.frozen? ⟨h, 0 + len * 1 + j, none⟩ = false) := by
    intro j hj
    simp only [List.length_cons, List.length_nil, Nat.zero_add, Nat.lt_one_iff] at hj
    subst hj
    rw [Nat.zero_add, Nat.mul_one, Nat.add_zero, q2.rows.heap.cell (by rw [q2.rows.ll]; exact h0), q2.rows.heap.frozen]
    exact ⟨rfl, rfl⟩
  have HF : Hid (∀ W : World, W.heap = ((W2.setCells h len [.int .i64 v]).setCell ⟨b, 1, none⟩ (.slice (some ⟨h, 0, none⟩) (len + 1) n)).heap → W.os = W2.os → W.tape = W2.tape → W.output = W2.output → GivesQ (.tuple #[]) (IsB b h) b s h n sc (l.set len v) (len + 1) w (.returned (.tuple #[])) W) := by
    intro W hWh ho ht hp
    have hWh' : W.heap = ((W2.setCell ⟨h, len, none⟩ (.int .i64 v)).setCell ⟨b, 1, none⟩ (.slice (some ⟨h, 0, none⟩) (len + 1) n)).heap := hWh
    have mh : IsB b h h := Or.inr rfl
    have mb : IsB b h b := Or.inl rfl
    have z2 := Chg.set (S := IsB b h) (.set (.of_below hB2) mh len (.int .i64 v)) mb 1 (.slice (some ⟨h, 0, none⟩) (len + 1) n)
    have z3 := Chg.set (S := IsB b h) (.set (.refl _ W2) mh len (.int .i64 v)) mb 1 (.slice (some ⟨h, 0, none⟩) (len + 1) n)
    have r1 := q2.rows.heap.set len v
    have r2 : Head (W2.setCell ⟨h, len, none⟩ (.int .i64 v)) b s h n len := (heap_setCell_other _ _ _ _ (show b ≠ h from hne.2.1)).trans q2.head
    have z4 := heap_setCell_same (W2.setCell ⟨h, len, none⟩ (.int .i64 v)) b 1 _ 26 (.slice (some ⟨h, 0, none⟩) (len + 1) n) r2
    refine ⟨rfl, ⟨by unfold Head; rw [hWh', z4]; rfl, ⟨by unfold Nums; rw [hWh', z3.block _ q2.lts.2.1 (fun e => by rcases e with e | e; exact hne.1 e.symm; exact hne.2.2 e)]; exact q2.rows.score, by unfold Nums; rw [hWh', heap_setCell_other _ _ _ _ (show h ≠ b from hne.2.1.symm)]; exact r1, q2.rows.ls, by rw [List.length_set]; exact q2.rows.ll, q2.rows.ne, q2.rows.few⟩, by omega⟩, ho.trans hB2.os, ht.trans hB2.tape, hp.trans hB2.output, by rw [hWh']; exact z2.size, fun k hk hS => by rw [hWh']; exact z2.block k hk hS⟩
  have HW := Lib.hid hW1
  have HW2 := Lib.hid hW2
  unfold ordV
  obtain ⟨n1, n2, n3⟩ := hne
  obtain ⟨m1, m2, m3⟩ := hlt
  have n4 : b ≠ w.heap.size := by omega
  have n6 : w.heap.size ≠ b := by omega
  have n7 : b ≠ W1.heap.size := by omega
  have n8 : w.heap.size ≠ W1.heap.size := by omega
  obtain ⟨i0, hi0, hzz, hsz, hbz⟩ := info_parts info_int
  have e1 : (W2.setCells h len [.int .i64 v]).cell? ⟨b, 1, none⟩ = some (.slice (some ⟨h, 0, none⟩) len n) := by
    have r2 : Head (W2.setCell ⟨h, len, none⟩ (.int .i64 v)) b s h n len := (heap_setCell_other _ _ _ _ (show b ≠ h from n2)).trans q2.head
    exact r2.cells.2.1
  have e2 : (W2.setCells h len [.int .i64 v]).frozen? ⟨b, 1, none⟩ = false := (World.frozen?_setCells h _ _ _ _).trans (hf 1)
  have e0 : (W1.alloc (.cells #[.int .i64 v] 3)).cell? ⟨b, 1, none⟩ = some (.slice (some ⟨h, 0, none⟩) len n) := by
    have := q2.reads.2
    rw [hW2] at this
    exact this
  have e00 : (W1.alloc (.cells #[.int .i64 v] 3)).cell? ⟨w.heap.size, 0, none⟩ = some (.pointer (some ⟨b, 0, none⟩)) := ((Below.refl W1.heap.size W1).alloc (Nat.le_refl _) _).cell (p := ⟨w.heap.size, 0, none⟩) (by simp [hz1]) |>.trans k0
  have e3 : (W2.setCells h len [.int .i64 v]).cell? ⟨w.heap.size, 0, none⟩ = some (.pointer (some ⟨b, 0, none⟩)) := by
    have k2 : W2.cell? ⟨w.heap.size, 0, none⟩ = some (.pointer (some ⟨b, 0, none⟩)) := by rw [hW2]; exact e00
    have e : (W2.setCell ⟨h, len, none⟩ (.int .i64 v)).heap[w.heap.size]? = W2.heap[w.heap.size]? := heap_setCell_other _ _ _ _ (show w.heap.size ≠ h by omega)
    exact (World.cell?_of_block (a := ⟨w.heap.size, 0, none⟩) e).trans k2
  have hta := fun W => assert_int W (.int .i64 v)
  clear q q1 q2 hB1 hB2 hW1 hW2 hz1 k1 hzz hbz
  go_enter Try.func52, Try.ntmps52
  go_wp2_with fail
  rw [← HW.out]
  go_region_law (rw [← HW2.out]; refine step_append_room rfl (.tmp 18) (.tmp 20) 24 rfl 3 i0 1 Try.underlying24 hi0 hsz h 0 len n (by simp [Act.eval, Act.put]) ⟨W1.heap.size, 0, none⟩ 1 1 [.int .i64 v] (by simp [Act.eval, Act.put]) rfl s1.out (by simp [Value.oneCell']) (by omega) s3.out ?_)
  all_goals go_wp2
  all_goals go_end0
  all_goals exact HF.out _ rfl rfl rfl rfl
end
end Go.Proofs.Ytkepengljbeipaa
