/- By program out of: DkMem. -/
import Derived.Test.YtmiocohlklnglaaDoorMnicbhm
import Derived.Test.YtmiocohlklnglaaDoorRows
import Derived.WalkKit
import Derived.WalkSpells
import Derived.WalkLawsBesides
import Derived.Lib.Hide
import Derived.Deep.Draws
import Derived.Deep.MidRow
import Derived.Laws.StructEq
import Derived.Laws.CopyRow
import Derived.Laws.OwnMore
/-
  Layer 5: a disk in memory: its five cells, the block of what is seen, the block of what lasts, the row of what waits.
-/
set_option linter.unusedVariables false
set_option linter.unusedSimpArgs false
namespace Go.Proofs.YtmiocohlklnglaaDoor
open Go.RowKit

def b8 (n : Int) : Value := .int .u8 n
def bys (l : List Int) : List Value := l.map b8
theorem bys_len (l : List Int) : (bys l).length = l.length := by simp [bys]
theorem bys_one (l : List Int) : ∀ v ∈ bys l, v.oneCell' = true := by
  intro v hv
  obtain ⟨x, _, rfl⟩ := List.mem_map.1 hv
  rfl
theorem bys_app (a b : List Int) : bys (a ++ b) = bys a ++ bys b := by simp [bys]
theorem bys_splice (a b : List Int) (o : Nat) : bys (splice a o b) = splice (bys a) o (bys b) := by simp [bys, splice, List.map_append, List.map_take, List.map_drop]

/-- Of what was there only blocks of S have changed. -/
structure Chg (S : Nat → Prop) (w w' : World) : Prop where
  os : w'.os = w.os
  tape : w'.tape = w.tape
  output : w'.output = w.output
  size : w.heap.size ≤ w'.heap.size
  block : ∀ k, k < w.heap.size → ¬ S k → w'.heap[k]? = w.heap[k]?
section
variable {w w1 w2 : World} {S : Nat → Prop}
theorem Chg.refl (S : Nat → Prop) (w : World) : Chg S w w := ⟨rfl, rfl, rfl, Nat.le_refl _, fun _ _ _ => rfl⟩
theorem Chg.of_below (h : Below w.heap.size w w1) : Chg S w w1 := ⟨h.os, h.tape, h.output, h.size, fun k hk _ => h.block k hk⟩
theorem Chg.of_grown {r : Option Nat} (h : w.grownBy w1 r) (hg : ∀ k, r = some k → S k) : Chg S w w1 := ⟨h.os, h.tape, h.output, h.size, fun k hk hS => h.block k hk (fun e => hS (hg k e.symm))⟩
theorem Chg.trans (h : Chg S w w1) (k : Chg (fun j => S j ∨ w.heap.size ≤ j) w1 w2) : Chg S w w2 :=
  ⟨k.os.trans h.os, k.tape.trans h.tape, k.output.trans h.output, Nat.le_trans h.size k.size, fun j hj hS => (k.block j (Nat.lt_of_lt_of_le hj h.size) (fun e => by rcases e with e | e; exact hS e; omega)).trans (h.block j hj hS)⟩
theorem Chg.mono {S' : Nat → Prop} (h : Chg S w w1) (hS : ∀ k, k < w.heap.size → S k → S' k) : Chg S' w w1 := ⟨h.os, h.tape, h.output, h.size, fun k hk hn => h.block k hk (fun e => hn (hS k hk e))⟩
theorem Chg.below {B : Nat} (h : Chg S w w1) (hS : ∀ k, S k → B ≤ k) (hB : B ≤ w.heap.size) : Below B w w1 := ⟨h.os, h.tape, h.output, h.size, fun k hk => h.block k (by omega) (fun e => by have := hS k e; omega)⟩
theorem Chg.drew : Chg S w w.drew := .of_below ((Below.refl _ _).drew)
end

/-! ### Blocks known whole -/
theorem heap_setCells_other (b : Nat) : ∀ (vs : List Value) (o : Nat) (w : World) (k : Nat), k ≠ b → (w.setCells b o vs).heap[k]? = w.heap[k]?
  | [], _, _, _, _ => rfl
  | v :: r, o, w, k, h => by rw [World.setCells, heap_setCells_other b r (o + 1) _ k h, heap_setCell_other _ _ _ _ h]
theorem size_setCells (b : Nat) : ∀ (vs : List Value) (o : Nat) (w : World), (w.setCells b o vs).heap.size = w.heap.size
  | [], _, _ => rfl
  | v :: r, o, w => by rw [World.setCells, size_setCells b r]; simp [World.setCell]
theorem heap_setCells_same (b : Nat) (t : TypeId) : ∀ (vs : List Value) (o : Nat) (w : World) (cur : List Value), w.heap[b]? = some (.cells cur.toArray t (0, 0)) → o + vs.length ≤ cur.length →
    (w.setCells b o vs).heap[b]? = some (.cells (splice cur o vs).toArray t (0, 0))
  | [], o, w, cur, h, hl => by simpa [World.setCells, splice] using h
  | v :: r, o, w, cur, h, hl => by
    simp only [List.length_cons] at hl
    have h1 := heap_setCell_same w b o cur.toArray t v h
    rw [World.setCells, heap_setCells_same b t r (o + 1) _ (cur.set o v) (by simpa using h1) (by simp; omega)]
    congr 2
    have h2 := list_seg_step cur o v r hl
    simp only [splice, List.length_cons, Array.mk.injEq]
    rw [List.append_assoc, List.append_assoc] at h2
    exact h2
theorem rangeAt_blk {w : World} {b : Nat} {C : List Value} {t : TypeId} (hb : w.heap[b]? = some (.cells C.toArray t (0, 0))) (o n : Nat) : w.rangeAt b o ((C.drop o).take n) := fun j v hv => by
  simp only [List.getElem?_take, List.getElem?_drop] at hv
  split at hv
  · simp [World.cell?, hb, hv]
  · cases hv
theorem there_blk {w : World} {b : Nat} {C : List Value} {t : TypeId} (hb : w.heap[b]? = some (.cells C.toArray t (0, 0))) (o n : Nat) (h : o + n ≤ C.length) : w.there b o n := fun j hj => by
  simp [World.cell?, World.frozen?, hb]
  omega
theorem chg_setCells {S : Nat → Prop} {b : Nat} (hS : S b) (w : World) (o : Nat) (vs : List Value) : Chg S w (w.setCells b o vs) := by
  have h : ∀ (vs : List Value) (o : Nat) (w : World), (w.setCells b o vs).os = w.os ∧ (w.setCells b o vs).tape = w.tape ∧ (w.setCells b o vs).output = w.output := by
    intro vs
    induction vs with
    | nil => intro o w; exact ⟨rfl, rfl, rfl⟩
    | cons v r ih => intro o w; rw [World.setCells]; exact ih (o + 1) (w.setCell ⟨b, o, none⟩ v)
  obtain ⟨h1, h2, h3⟩ := h vs o w
  exact ⟨h1, h2, h3, by rw [size_setCells]; exact Nat.le_refl _, fun k _ hk => heap_setCells_other b vs o w k (fun e => hk (e ▸ hS))⟩
theorem chg_setCell {S : Nat → Prop} {b : Nat} (hS : S b) (w : World) (o : Nat) (v : Value) : Chg S w (w.setCell ⟨b, o, none⟩ v) := chg_setCells hS w o [v]
theorem chg_alloc {S : Nat → Prop} (w : World) (o : Obj) : Chg S w (w.alloc o) := .of_below ((Below.refl _ _).alloc (Nat.le_refl _) _)

/-! ### Sectors held against one another -/
theorem all_range_int : ∀ (xs ys : List Int), xs.length = ys.length → ((List.range xs.length).all fun i => xs.getD i 0 == ys.getD i 0) = decide (xs = ys)
  | [], [], _ => rfl
  | x :: xs, y :: ys, h => by
    have ih := all_range_int xs ys (by simpa using h)
    rw [List.length_cons, List.range_succ_eq_map, List.all_cons, List.all_map]
    simp only [List.getD_cons_zero, Function.comp_def, List.getD_cons_succ, ih]
    rw [Bool.eq_iff_iff]
    simp
  | [], _ :: _, h => by simp at h
  | _ :: _, [], h => by simp at h
section
variable {P : Program} (w : World)
theorem run_equalIn_row (d : Nat) (t e : TypeId) (n : Nat) (ht : P.underlying t = some (.array n e)) (he : P.underlying e = some (.int .u8)) (hsz : ∀ w, (sizeOf e).run P w = .ok 1 w)
    (xs ys : List Int) (hx : xs.length = n) (hy : ys.length = n) :
    (Op.equalIn (d + 2) t (.agg (bys xs).toArray) (.agg (bys ys).toArray)).run P w = .ok (decide (xs = ys)) w := by
  rw [← all_range_int xs ys (hx.trans hy.symm), hx, List.range_eq_range', Op.equalIn]
  simp only [Sem.run_bind, run_underlying ht, Result.andThen_ok, hsz, Std.Legacy.Range.forIn_eq_forIn_range', Std.Legacy.Range.size, Nat.sub_zero, Nat.add_sub_cancel, Nat.div_one]
  have hl : ∀ i ∈ List.range' 0 n 1, i < n := fun i hi => by simpa using (List.mem_range'_1.1 hi).2
  generalize List.range' 0 n 1 = l at hl ⊢
  induction l with
  | nil => simp
  | cons i l ih =>
    have hi : i < n := hl i (by simp)
    have px : (part e (bys xs).toArray (i * 1)).run P w = .ok (b8 (xs.getD i 0)) w := by
      simp [part, isAgg, run_underlying he, bys, List.getD, List.getElem?_eq_getElem (show i < xs.length by omega)]
    have py : (part e (bys ys).toArray (i * 1)).run P w = .ok (b8 (ys.getD i 0)) w := by
      simp [part, isAgg, run_underlying he, bys, List.getD, List.getElem?_eq_getElem (show i < ys.length by omega)]
    have pe : (Op.equalIn (d + 1) e (b8 (xs.getD i 0)) (b8 (ys.getD i 0))).run P w = .ok (xs.getD i 0 == ys.getD i 0) w := run_equalIn_int w d e .u8 .u8 _ _ he
    simp only [List.forIn_cons, Sem.run_bind, px, py, pe, Result.andThen_ok, List.all_cons]
    cases hb : (xs.getD i 0 == ys.getD i 0)
    · simp
    · simp only [Bool.not_true, Bool.false_eq_true, if_false, Sem.run_pure, Result.andThen_ok, Bool.true_and]
      exact ih fun j hj => hl j (by simp [hj])
theorem run_eql_row (t e : TypeId) (n : Nat) (ht : P.underlying t = some (.array n e)) (he : P.underlying e = some (.int .u8)) (hsz : ∀ w, (sizeOf e).run P w = .ok 1 w)
    (xs ys : List Int) (hx : xs.length = n) (hy : ys.length = n) :
    (binOp .eql t (.agg (bys xs).toArray) (.agg (bys ys).toArray)).run P w = .ok (.bool (decide (xs = ys))) w := by
  rw [run_eql_struct, run_equalIn_row w 9998 t e n ht he hsz xs ys hx hy]
  rfl
theorem run_neq_row (t e : TypeId) (n : Nat) (ht : P.underlying t = some (.array n e)) (he : P.underlying e = some (.int .u8)) (hsz : ∀ w, (sizeOf e).run P w = .ok 1 w)
    (xs ys : List Int) (hx : xs.length = n) (hy : ys.length = n) :
    (binOp .neq t (.agg (bys xs).toArray) (.agg (bys ys).toArray)).run P w = .ok (.bool (!decide (xs = ys))) w := by
  rw [run_neq_struct, run_equalIn_row w 9998 t e n ht he hsz xs ys hx hy]
  rfl
end

/-! ### A disk -/
/-- What waits, as cells. -/
def wcell (x : Nat × List Int) : List Value := .int .i64 (x.1 : Int) :: bys x.2
def wcells (l : List (Nat × List Int)) : List Value := l.flatMap wcell
theorem wcells_len {l : List (Nat × List Int)} (h : ∀ x ∈ l, x.2.length = 64) : (wcells l).length = l.length * 65 := by
  induction l with
  | nil => rfl
  | cons a l ih =>
    have h1 := h a (by simp)
    have h2 := ih fun x hx => h x (by simp [hx])
    simp only [wcells, List.flatMap_cons, List.length_append, List.length_cons] at h2 ⊢
    rw [h2]
    simp [wcell, bys, h1]
    omega
theorem wcells_snoc (l : List (Nat × List Int)) (x : Nat × List Int) : wcells (l ++ [x]) = wcells l ++ wcell x := by simp [wcells]
theorem wcells_at : ∀ (l : List (Nat × List Int)) (_ : ∀ x ∈ l, x.2.length = 64) (k : Nat) (_ : k < l.length) (j : Nat) (v : Value), (wcell (l.getD k (0, [])))[j]? = some v → (wcells l)[65 * k + j]? = some v
  | a :: l, h, 0, _, j, v, hv => by
    have ha : (wcell a).length = 65 := by simp [wcell, bys, h a (by simp)]
    simp only [List.getD_cons_zero] at hv
    have hj : j < (wcell a).length := (List.getElem?_eq_some_iff.1 hv).1
    simp only [wcells, List.flatMap_cons, Nat.mul_zero, Nat.zero_add]
    rw [List.getElem?_append_left hj]
    exact hv
  | a :: l, h, k + 1, hk, j, v, hv => by
    have ha : (wcell a).length = 65 := by simp [wcell, bys, h a (by simp)]
    have ih := wcells_at l (fun x hx => h x (by simp [hx])) k (by simpa using hk) j v (by simpa using hv)
    simp only [wcells, List.flatMap_cons] at ih ⊢
    rw [List.getElem?_append_right (by omega), ha]
    rw [show 65 * (k + 1) + j - 65 = 65 * k + j by omega]
    exact ih

/-- The blocks of a disk. -/
def Foot (d s l : Nat) (v : Value) (k : Nat) : Prop := k = d ∨ k = s ∨ k = l ∨ v.ownBlock = some k
end Go.Proofs.YtmiocohlklnglaaDoor

