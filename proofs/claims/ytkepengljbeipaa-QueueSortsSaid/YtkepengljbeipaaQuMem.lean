/-
  Layer 17: a queue in memory: its two slices, the block of the scores, the block of those that are in.
-/
import Derived.Test.YtkepengljbeipaaQuPure
import Derived.Test.YtkepengljbeipaaChecked
import Derived.WalkKit
import Derived.WalkSpells
import Derived.WalkLawsBesides
import Derived.Handy
import Derived.Lib.Hide
import Derived.Deep.Draws
import Derived.Deep.QuietTactic
import Derived.BigQuiet
import Derived.Deep.RegionHeld3
import Derived.Laws.OwnMore
import Derived.IntWalk
set_option linter.unusedVariables false
set_option linter.unusedSimpArgs false
namespace Go.Proofs.Ytkepengljbeipaa
open Go.RowKit Qu

/-- Of what was there only blocks of S have changed. -/
structure Chg (S : Nat → Prop) (w w' : World) : Prop where
  os : w'.os = w.os
  tape : w'.tape = w.tape
  output : w'.output = w.output
  size : w.heap.size ≤ w'.heap.size
  block : ∀ k, k < w.heap.size → ¬ S k → w'.heap[k]? = w.heap[k]?
section
variable {w w1 w2 : World} {S : Nat → Prop}
theorem Chg.refl (S : Nat → Prop) (w : World) : Chg S w w := ⟨rfl, rfl, rfl, Nat.le_refl _, fun _ _ _ => rfl⟩
theorem Chg.of_below (h : Below w.heap.size w w1) : Chg S w w1 := ⟨h.os, h.tape, h.output, h.size, fun k hk _ => h.block k hk⟩
theorem Chg.trans (h : Chg S w w1) (k : Chg S w1 w2) : Chg S w w2 :=
  ⟨k.os.trans h.os, k.tape.trans h.tape, k.output.trans h.output, Nat.le_trans h.size k.size, fun j hj hS => (k.block j (Nat.lt_of_lt_of_le hj h.size) hS).trans (h.block j hj hS)⟩
theorem Chg.mono {S' : Nat → Prop} (h : Chg S w w1) (hS : ∀ k, k < w.heap.size → S k → S' k) : Chg S' w w1 := ⟨h.os, h.tape, h.output, h.size, fun k hk hn => h.block k hk (fun e => hn (hS k hk e))⟩
theorem Chg.below {B : Nat} (h : Chg S w w1) (hS : ∀ k, S k → B ≤ k) (hB : B ≤ w.heap.size) : Below B w w1 := ⟨h.os, h.tape, h.output, h.size, fun k hk => h.block k (by omega) (fun e => by have := hS k e; omega)⟩
theorem Chg.drew : Chg S w w.drew := .of_below ((Below.refl _ _).drew)
theorem Chg.set (h : Chg S w w1) {b : Nat} (hb : S b) (i : Nat) (v : Value) : Chg S w (w1.setCell ⟨b, i, none⟩ v) :=
  ⟨h.os, h.tape, h.output, by simpa [World.setCell] using h.size, fun k hk hS => (heap_setCell_other _ _ _ _ (show k ≠ b from fun e => hS (e ▸ hb))).trans (h.block k hk hS)⟩
end
theorem Below.of_kept {B : Nat} {w w1 : World} (h : Below B w w1) {k : Nat} (hk : k < B) : w1.heap[k]? = w.heap[k]? := h.block k hk

def ints (l : List Int) : List Value := l.map fun n => .int .i64 n
theorem ints_len (l : List Int) : (ints l).length = l.length := by simp [ints]
theorem ints_get {l : List Int} {k : Nat} (h : k < l.length) : (ints l)[k]? = some (.int .i64 (el l k)) := by simp [ints, el_get h]
theorem ints_set (l : List Int) (k : Nat) (x : Int) : (ints l).set k (.int .i64 x) = ints (l.set k x) := by simp [ints, List.map_set]
/-- A block of numbers, known whole. -/
def Nums (w : World) (b : Nat) (l : List Int) : Prop := w.heap[b]? = some (.cells (ints l).toArray 3 (0, 0))
section
variable {w w1 : World} {b : Nat} {l : List Int}
theorem Nums.lt (h : Nums w b l) : b < w.heap.size := (Array.getElem?_eq_some_iff.1 h).1
theorem Nums.past (h : Nums w b l) (hb : w1.heap[b]? = w.heap[b]?) : Nums w1 b l := hb.trans h
theorem Nums.cell (h : Nums w b l) {k : Nat} (hk : k < l.length) : w.cell? ⟨b, k, none⟩ = some (.int .i64 (el l k)) := by
  have h' : w.heap[b]? = some (.cells (ints l).toArray 3 (0, 0)) := h
  simp [World.cell?, h', ints_get hk]
theorem Nums.frozen (h : Nums w b l) (k : Nat) : w.frozen? ⟨b, k, none⟩ = false := by
  have h' : w.heap[b]? = some (.cells (ints l).toArray 3 (0, 0)) := h
  simp [World.frozen?, h']
theorem Nums.set (h : Nums w b l) (k : Nat) (x : Int) : Nums (w.setCell ⟨b, k, none⟩ (.int .i64 x)) b (l.set k x) := by
  have := heap_setCell_same w b k (ints l).toArray 3 (.int .i64 x) h
  unfold Nums
  rw [this]
  simp [ints, List.map_set]
end
theorem heap_drew (w : World) : w.drew.heap = w.heap := rfl

/-- Block b has the slices of a queue of n, of whom len are in. -/
def Head (w : World) (b s h n len : Nat) : Prop := w.heap[b]? = some (.cells #[.slice (some ⟨s, 0, none⟩) n n, .slice (some ⟨h, 0, none⟩) len n] 26 (0, 0))
def qV (s h n len : Nat) : Value := .agg #[.slice (some ⟨s, 0, none⟩) n n, .slice (some ⟨h, 0, none⟩) len n]
/-- The two rows of a queue. -/
structure RwAt (w : World) (s h n : Nat) (sc l : List Int) : Prop where
  score : Nums w s sc
  heap : Nums w h l
  ls : sc.length = n
  ll : l.length = n
  ne : s ≠ h
  few : n ≤ 1048576
structure QAt (w : World) (b s h n : Nat) (sc l : List Int) (len : Nat) : Prop where
  head : Head w b s h n len
  rows : RwAt w s h n sc l
  le : len ≤ n
section
variable {w w1 : World} {b s h n : Nat} {sc l : List Int} {len : Nat}
theorem Head.lt (k : Head w b s h n len) : b < w.heap.size := (Array.getElem?_eq_some_iff.1 k).1
theorem Head.ne (k : Head w b s h n len) {g : Nat} {m : List Int} (hg : Nums w g m) : b ≠ g := by
  rintro rfl
  have := Eq.trans (Eq.symm k) hg
  simp at this
theorem Head.cells (k : Head w b s h n len) : w.cell? ⟨b, 0, none⟩ = some (.slice (some ⟨s, 0, none⟩) n n) ∧ w.cell? ⟨b, 1, none⟩ = some (.slice (some ⟨h, 0, none⟩) len n) ∧ ∀ i, w.frozen? ⟨b, i, none⟩ = false := by
  have k' : w.heap[b]? = some (.cells #[.slice (some ⟨s, 0, none⟩) n n, .slice (some ⟨h, 0, none⟩) len n] 26 (0, 0)) := k
  simp [World.cell?, World.frozen?, k']
theorem RwAt.past (k : RwAt w s h n sc l) (h1 : w1.heap[s]? = w.heap[s]?) (h2 : w1.heap[h]? = w.heap[h]?) : RwAt w1 s h n sc l := ⟨k.score.past h1, k.heap.past h2, k.ls, k.ll, k.ne, k.few⟩
theorem RwAt.kept (k : RwAt w s h n sc l) (hb : Below w.heap.size w w1) : RwAt w1 s h n sc l := k.past (hb.block _ k.score.lt) (hb.block _ k.heap.lt)
theorem QAt.kept (k : QAt w b s h n sc l len) (hb : Below w.heap.size w w1) : QAt w1 b s h n sc l len := ⟨(hb.block _ k.head.lt).trans k.head, k.rows.kept hb, k.le⟩
theorem QAt.lts (k : QAt w b s h n sc l len) : b < w.heap.size ∧ s < w.heap.size ∧ h < w.heap.size := ⟨k.head.lt, k.rows.score.lt, k.rows.heap.lt⟩
theorem QAt.nes (k : QAt w b s h n sc l len) : b ≠ s ∧ b ≠ h ∧ s ≠ h := ⟨k.head.ne k.rows.score, k.head.ne k.rows.heap, k.rows.ne⟩
/-- What a walk may read. -/
theorem QAt.reads (k : QAt w b s h n sc l len) : w.cell? ⟨b, 0, none⟩ = some (.slice (some ⟨s, 0, none⟩) n n) ∧ w.cell? ⟨b, 1, none⟩ = some (.slice (some ⟨h, 0, none⟩) len n) := ⟨k.head.cells.1, k.head.cells.2.1⟩
end
def GivesV (v : Value) (w : World) (e : Ending) (w' : World) : Prop := e = .returned v ∧ Below w.heap.size w w'
theorem GivesV.mk' {v : Value} {w w' : World} {e : Ending} (h : e = .returned v) (hb : Below w.heap.size w w') : GivesV v w e w' := ⟨h, hb⟩
/-- A call that changes blocks of S of a queue. -/
def GivesQ (v : Value) (S : Nat → Prop) (b s h n : Nat) (sc l : List Int) (len : Nat) (w : World) (e : Ending) (w' : World) : Prop := e = .returned v ∧ QAt w' b s h n sc l len ∧ Chg S w w'
theorem GivesQ.mk' {v : Value} {S : Nat → Prop} {b s h n : Nat} {sc l : List Int} {len : Nat} {w w' : World} {e : Ending} (a : e = .returned v) (q : QAt w' b s h n sc l len) (c : Chg S w w') : GivesQ v S b s h n sc l len w e w' := ⟨a, q, c⟩
/-- One block, two blocks, all of a queue. -/
def Is (b k : Nat) : Prop := k = b
def IsB (b h k : Nat) : Prop := k = b ∨ k = h
def Foot (b s h k : Nat) : Prop := k = b ∨ k = s ∨ k = h
theorem Is.mk (b : Nat) : Is b b := rfl
def ordV (b : Nat) : Value := .agg #[.pointer (some ⟨b, 0, none⟩)]

section
variable {w : World} {b s h n : Nat} {sc l : List Int} {len : Nat}
theorem Len_any (q : QAt w b s h n sc l len) : Calls Try.prog 31 #[ordV b] w (GivesV (.int .i64 (len : Int)) w) := by
  obtain ⟨c0, c1⟩ := q.reads
  have hb := q.lts.1
  unfold ordV
  clear q
  go_enter Try.func31, Try.ntmps31
  go_wp2
  go_ret
  exact GivesV.mk' rfl ((Below.refl _ _).alloc (Nat.le_refl _) _)
theorem known_any (w : World) (s h n len : Nat) (v : Int) : Calls Try.prog 17 #[qV s h n len, .int .i64 v] w (GivesV (.bool (decide (0 ≤ v) && decide (v < (n : Int)))) w) := by
  unfold qV
  cases h1 : decide (0 ≤ v) with
  | false =>
    go_enter Try.func17, Try.ntmps17
    go_wp2
    go_ret
    exact GivesV.mk' rfl ((Below.refl _ _).alloc (Nat.le_refl _) _)
  | true =>
    cases h2 : decide (v < (n : Int)) with
    | false =>
      go_enter Try.func17, Try.ntmps17
      go_wp2
      go_ret
      exact GivesV.mk' rfl ((Below.refl _ _).alloc (Nat.le_refl _) _)
    | true =>
      go_enter Try.func17, Try.ntmps17
      go_wp2
      go_ret
      exact GivesV.mk' rfl ((Below.refl _ _).alloc (Nat.le_refl _) _)
end
end Go.Proofs.Ytkepengljbeipaa
