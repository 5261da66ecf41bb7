/-
  Layer 17: a new queue.
-/
import Derived.Test.YtkepengljbeipaaQuOps
import Derived.RegionTactic
import Derived.BigRegion
import Derived.Deep.DeepCutAuto
set_option linter.unusedVariables false
set_option linter.unusedSimpArgs false
namespace Go.Proofs.Ytkepengljbeipaa
open Go.RowKit Qu

theorem infoParts {P : Program} {t : TypeId} {z : Value} {s b : Nat} (h : (P.info? t).map (fun i => (i.zero, i.size, i.bytes)) = some (some z, s, b)) : ∃ i, P.info? t = some i ∧ i.zero = some z ∧ i.size = s ∧ i.bytes = b := by
  cases hq : P.info? t with
  | none => rw [hq] at h; cases h
  | some q =>
    rw [hq] at h
    simp only [Option.map_some, Option.some.injEq, Prod.mk.injEq] at h
    exact ⟨q, rfl, h.1, h.2.1, h.2.2⟩
theorem run_make_ints (w : World) (n : Nat) (hn : n ≤ 1000000) : (Instr.makeSlice 24 (.int .i64 (n : Int)) (.int .i64 (n : Int))).run Try.prog w = .ok (.slice (some ⟨w.heap.size, 0, none⟩) n n) (w.alloc (.cells (ints (List.replicate n 0)).toArray 3)) := by
  obtain ⟨i, h1, h2, h3, h4⟩ := infoParts (show (Try.prog.info? 3).map (fun i => (i.zero, i.size, i.bytes)) = some (some (.int .i64 0), 1, 8) by kernel_rfl)
  have := run_makeSlice (P := Try.prog) w 24 3 i _ Try.underlying24 h1 h2 .i64 .i64 (n : Int) (n : Int) (by omega) (Int.le_refl _) (by rw [h3]; simp; omega) (by rw [h4]; omega) (by omega)
  rw [this, h3]
  simp only [Int.toNat_natCast]
  congr 3
  apply Array.ext
  · simp [madeCells, ints_len]
  · intro i h1 h2
    simp [madeCells, ints, Value.cells, Nat.mod_one]
def bools (l : List Bool) : List Value := l.map fun x => .bool x
theorem run_make_bools (w : World) (n : Nat) (hn : n ≤ 1000000) : (Instr.makeSlice 32 (.int .i64 (n : Int)) (.int .i64 (n : Int))).run Try.prog w = .ok (.slice (some ⟨w.heap.size, 0, none⟩) n n) (w.alloc (.cells (bools (List.replicate n false)).toArray 4)) := by
  obtain ⟨i, h1, h2, h3, h4⟩ := infoParts (show (Try.prog.info? 4).map (fun i => (i.zero, i.size, i.bytes)) = some (some (.bool false), 1, 1) by kernel_rfl)
  have := run_makeSlice (P := Try.prog) w 32 4 i _ Try.underlying32 h1 h2 .i64 .i64 (n : Int) (n : Int) (by omega) (Int.le_refl _) (by rw [h3]; simp; omega) (by rw [h4]; omega) (by omega)
  rw [this, h3]
  simp only [Int.toNat_natCast]
  congr 3
  apply Array.ext
  · simp [madeCells, bools]
  · intro i h1 h2
    simp [madeCells, bools, Value.cells, Nat.mod_one]

/-- A new queue of n, all in. -/
def NewQ (n : Nat) (w : World) (e : Ending) (w' : World) : Prop := ∃ s h, e = .returned (qV s h n n) ∧ Below w.heap.size w w' ∧ RwAt w' s h n (List.replicate n 0) (ids n) ∧ w.heap.size ≤ s ∧ w.heap.size ≤ h
/-- While a queue is made: the answer's variable, and the queue in its own. -/
structure MadeQ (w : World) (n b s h : Nat) (sc l : List Int) (W : World) : Prop where
  ans : W.heap[w.heap.size]? = some (.cells #[.slice none 0 0, .slice none 0 0] 26 (0, 0))
  head : Head W b s h n n
  rows : RwAt W s h n sc l
  below : Below w.heap.size w W
  lt : w.heap.size < b ∧ w.heap.size < s ∧ w.heap.size < h
theorem MadeQ.mk' {w W : World} {n b s h : Nat} (hn : n ≤ 60) (h0 : W.heap[w.heap.size]? = some (.cells #[.slice none 0 0, .slice none 0 0] 26 (0, 0))) (hb : Head W b s h n n)
    (h1 : W.heap[s]? = some (.cells (ints (List.replicate n 0)).toArray 3 (0, 0))) (h2 : W.heap[h]? = some (.cells (ints (List.replicate n 0)).toArray 3 (0, 0))) (hne : s ≠ h) (hB : Below w.heap.size w W) (hlt : w.heap.size < b ∧ w.heap.size < s ∧ w.heap.size < h) :
    MadeQ w n b s h (List.replicate n 0) (List.replicate n 0) W :=
  ⟨h0, hb, ⟨h1, h2, by simp, by simp, hne, by omega⟩, hB, hlt⟩
theorem chain4 (w : World) (A B C D : Obj) : ((((w.alloc A).alloc B).alloc C).alloc D).drew.heap[w.heap.size]? = some A ∧ ((((w.alloc A).alloc B).alloc C).alloc D).drew.heap[w.heap.size + 1]? = some B ∧
    ((((w.alloc A).alloc B).alloc C).alloc D).drew.heap[w.heap.size + 1 + 1]? = some C ∧ ((((w.alloc A).alloc B).alloc C).alloc D).drew.heap[w.heap.size + 1 + 1 + 1]? = some D := by
  have e : ((((w.alloc A).alloc B).alloc C).alloc D).drew.heap = (((w.heap.push A).push B).push C).push D := rfl
  rw [e]
  simp only [Array.getElem?_push, Array.size_push]
  refine ⟨?_, ?_, ?_, ?_⟩ <;> repeat (first | rw [if_pos trivial] | rw [if_pos (by omega)] | rw [if_neg (by omega)])
theorem MadeQ.set {w W : World} {n b s h : Nat} {sc l : List Int} (k : MadeQ w n b s h sc l W) (i : Nat) (x : Int) : MadeQ w n b s h sc (l.set i x) (W.setCell ⟨h, i, none⟩ (.int .i64 x)) := by
  have h1 := k.lt
  have h2 := k.head.ne k.rows.heap
  have h3 := k.rows.ne
  exact ⟨(heap_setCell_other _ _ _ _ (show w.heap.size ≠ h by omega)).trans k.ans, (heap_setCell_other _ _ _ _ h2).trans k.head, ⟨(heap_setCell_other _ _ _ _ h3).trans k.rows.score, k.rows.heap.set i x, k.rows.ls, by rw [List.length_set]; exact k.rows.ll, h3, k.rows.few⟩, k.below.setCell (by show _ ≤ h; omega) _, h1⟩
def fill (n k : Nat) : List Int := (List.range n).map fun i : Nat => if i < k then (i : Int) else 0
theorem fill_set (n k : Nat) (hk : k < n) : (fill n k).set k (k : Int) = fill n (k + 1) := by
  apply List.ext_getElem
  · simp [fill]
  · intro i h1 h2
    simp only [fill, List.getElem_set, List.getElem_map, List.getElem_range]
    by_cases e : k = i
    · subst e
      simp
    · rw [if_neg e]
      by_cases c : i < k
      · rw [if_pos c, if_pos (by omega)]
      · rw [if_neg c, if_neg (by omega)]
theorem fill_zero (n : Nat) : fill n 0 = List.replicate n 0 := by
  apply List.ext_getElem
  · simp [fill]
  · intro i h1 h2
    simp [fill]
theorem fill_all (n : Nat) : fill n n = ids n := by
  unfold fill ids
  apply List.map_congr_left
  intro i hi
  rw [if_pos (List.mem_range.1 hi)]
theorem MadeQ.done {w W : World} {n b s h : Nat} (k : MadeQ w n b s h (List.replicate n 0) (fill n n) W) : NewQ n w (.returned (qV s h n n)) ((W.setCell ⟨w.heap.size, 0, none⟩ (.slice (some ⟨s, 0, none⟩) n n)).setCell ⟨w.heap.size, 1, none⟩ (.slice (some ⟨h, 0, none⟩) n n)) := by
  have h1 := k.lt
  rw [fill_all] at k
  refine ⟨s, h, rfl, (k.below.setCell (Nat.le_refl _) _).setCell (Nat.le_refl _) _, k.rows.past ?_ ?_, by omega, by omega⟩
  · rw [heap_setCell_other _ _ _ _ (show s ≠ w.heap.size by omega), heap_setCell_other _ _ _ _ (show s ≠ w.heap.size by omega)]
  · rw [heap_setCell_other _ _ _ _ (show h ≠ w.heap.size by omega), heap_setCell_other _ _ _ _ (show h ≠ w.heap.size by omega)]
set_option maxRecDepth 100000 in
set_option maxHeartbeats 2000000 in
theorem New_any (w : World) (N : Int) (n : Nat) (hn : n ≤ 60) (hN : max N 0 = (n : Int)) : Calls Try.prog 6 #[.int .i64 N] w (NewQ n w) := by
  have h2 : min (n : Int) 1048576 = (n : Int) := by omega
  have k1 : (n : Int) ≤ 1048576 := by omega
  have HN := Lib.hid hN
  have hmk := fun W => run_make_ints W n (by omega)
  have HM := Lib.hid (fun W b s h => @MadeQ.mk' w W n b s h hn)
  generalize (ints (List.replicate n 0)).toArray = Z at *
  go_enter Try.func6, Try.ntmps6
  clear hN
  go_upto_region 1 with fail
  go_cut [0] (fun s0 wx => s0 = .int .i64 (n : Int) ∧ wx = w.alloc (.cells #[.slice none 0 0, .slice none 0 0] 26))
  case first =>
    rcases Int.lt_or_le N 0 with hneg | hpos
    · obtain rfl : n = 0 := by have := HN.out; omega
      have h1 : max N 0 = 0 := by omega
      have h3 : N ≤ 0 := by omega
      go_wp2_with fail
      go_meet
      exact ⟨rfl, rfl⟩
    · obtain rfl : N = (n : Int) := by have := HN.out; omega
      have h1 : max (n : Int) 0 = (n : Int) := by omega
      go_wp2_with fail
      go_meet
      exact ⟨rfl, rfl⟩
  obtain ⟨rfl, rfl⟩ := hcut
  go_upto_region 2 with fail
  go_cut [3] (fun s3 wx => ∃ b s h : Nat, s3 = .pointer (some ⟨b, 0, none⟩) ∧ MadeQ w n b s h (List.replicate n 0) (List.replicate n 0) wx)
  case first =>
    go_region
    all_goals go_wp2_with fail
    all_goals go_meet
    all_goals first | exact ⟨w.heap.size + 1, w.heap.size + 1 + 1, w.heap.size + 1 + 1 + 1, rfl, HM.out _ _ _ _ (chain4 _ _ _ _ _).1 (chain4 _ _ _ _ _).2.1 (chain4 _ _ _ _ _).2.2.1 (chain4 _ _ _ _ _).2.2.2 (by omega) (((((Below.refl _ _).alloc (Nat.le_refl _) _).alloc (by simp) _).alloc (by simp; omega) _).alloc (by simp; omega) _).drew (by omega)⟩ | exact ⟨w.heap.size + 1, w.heap.size + 1 + 1 + 1, w.heap.size + 1 + 1, rfl, HM.out _ _ _ _ (chain4 _ _ _ _ _).1 (chain4 _ _ _ _ _).2.1 (chain4 _ _ _ _ _).2.2.2 (chain4 _ _ _ _ _).2.2.1 (by omega) (((((Below.refl _ _).alloc (Nat.le_refl _) _).alloc (by simp) _).alloc (by simp; omega) _).alloc (by simp; omega) _).drew (by omega)⟩ | exact ⟨w.heap.size + 1 + 1, w.heap.size + 1, w.heap.size + 1 + 1 + 1, rfl, HM.out _ _ _ _ (chain4 _ _ _ _ _).1 (chain4 _ _ _ _ _).2.2.1 (chain4 _ _ _ _ _).2.1 (chain4 _ _ _ _ _).2.2.2 (by omega) (((((Below.refl _ _).alloc (Nat.le_refl _) _).alloc (by simp) _).alloc (by simp; omega) _).alloc (by simp; omega) _).drew (by omega)⟩ | exact ⟨w.heap.size + 1 + 1, w.heap.size + 1 + 1 + 1, w.heap.size + 1, rfl, HM.out _ _ _ _ (chain4 _ _ _ _ _).1 (chain4 _ _ _ _ _).2.2.1 (chain4 _ _ _ _ _).2.2.2 (chain4 _ _ _ _ _).2.1 (by omega) (((((Below.refl _ _).alloc (Nat.le_refl _) _).alloc (by simp) _).alloc (by simp; omega) _).alloc (by simp; omega) _).drew (by omega)⟩ | exact ⟨w.heap.size + 1 + 1 + 1, w.heap.size + 1, w.heap.size + 1 + 1, rfl, HM.out _ _ _ _ (chain4 _ _ _ _ _).1 (chain4 _ _ _ _ _).2.2.2 (chain4 _ _ _ _ _).2.1 (chain4 _ _ _ _ _).2.2.1 (by omega) (((((Below.refl _ _).alloc (Nat.le_refl _) _).alloc (by simp) _).alloc (by simp; omega) _).alloc (by simp; omega) _).drew (by omega)⟩ | exact ⟨w.heap.size + 1 + 1 + 1, w.heap.size + 1 + 1, w.heap.size + 1, rfl, HM.out _ _ _ _ (chain4 _ _ _ _ _).1 (chain4 _ _ _ _ _).2.2.2 (chain4 _ _ _ _ _).2.2.1 (chain4 _ _ _ _ _).2.1 (by omega) (((((Below.refl _ _).alloc (Nat.le_refl _) _).alloc (by simp) _).alloc (by simp; omega) _).alloc (by simp; omega) _).drew (by omega)⟩
  case rest =>
    obtain ⟨b, s, h, rfl, HQ⟩ := hcut
    clear h2 k1 hmk HM
    rw [← fill_zero n] at HQ
    have HQ' := Lib.hid HQ
    rw [fill_zero n] at HQ'
    clear HQ
    go_wp2_with fail
    go_loopw [14] (fun iv wr => ∃ k : Nat, k ≤ n ∧ iv = .int .i64 k ∧ MadeQ w n b s h (List.replicate n 0) (fill n k) wr) (fun iv _ => n - (intOf iv).toNat)
    case atStart => exact ⟨0, Nat.zero_le _, rfl, by have := HQ'.out; rw [← fill_zero n] at this; rw [fill_zero n] at this ⊢; exact this⟩
    case round =>
      obtain ⟨k, hk, rfl, HK⟩ := hrel
      have HQK := Lib.hid HK
      obtain ⟨c0, c1, c2⟩ := HK.head.cells
      have f0 : wr.cell? ⟨w.heap.size, 0, none⟩ = some (.slice none 0 0) ∧ wr.cell? ⟨w.heap.size, 1, none⟩ = some (.slice none 0 0) ∧ ∀ i, wr.frozen? ⟨w.heap.size, i, none⟩ = false := by
        simp [World.cell?, World.frozen?, HK.ans]
      obtain ⟨f0, f1, f2⟩ := f0
      by_cases hkn : k < n
      · have hc : wr.cell? ⟨h, k, none⟩ = some (.int .i64 (el (fill n k) k)) := HK.rows.heap.cell (by rw [HK.rows.ll]; exact hkn)
        have hf : wr.frozen? ⟨h, k, none⟩ = false := HK.rows.heap.frozen k
        generalize el (fill n k) k = x at *
        clear HK c2 f0 f1 f2
        go_wp2_with fail
        go_roundw
        case rel =>
          have := HQK.out.set k (k : Int)
          rw [fill_set n k hkn] at this
          exact ⟨k + 1, by omega, by go_num, this⟩
        case measure => simp [intOf]; omega
      · obtain rfl : k = n := by omega
        have z1 := heap_setCell_same wr w.heap.size 0 _ _ (.slice (some ⟨s, 0, none⟩) k k) HK.ans
        have z2 := heap_setCell_same _ w.heap.size 1 _ _ (.slice (some ⟨h, 0, none⟩) k k) z1
        have d0 : (wr.setCell ⟨w.heap.size, 0, none⟩ (.slice (some ⟨s, 0, none⟩) k k)).cell? ⟨w.heap.size, 0, none⟩ = some (.slice (some ⟨s, 0, none⟩) k k) := by simp [World.cell?, z1]
        have d1 : ((wr.setCell ⟨w.heap.size, 0, none⟩ (.slice (some ⟨s, 0, none⟩) k k)).setCell ⟨w.heap.size, 1, none⟩ (.slice (some ⟨h, 0, none⟩) k k)).cell? ⟨w.heap.size, 1, none⟩ = some (.slice (some ⟨h, 0, none⟩) k k) := by simp [World.cell?, z2]
        clear HK c2 HQ' z1 z2
        go_wp2_with fail
        exact bodyPost_ret (v := qV s h k k) (by simp [results, Try.results6, go_sem, qV, d0, d1]) rfl HQK.out.done
end Go.Proofs.Ytkepengljbeipaa
