/-
  Layer 5: a write is put together, and a row of one.
-/
import Derived.Test.YtienhidbgohhcaaDkLaw
set_option linter.unusedVariables false
set_option linter.unusedSimpArgs false
namespace Go.Proofs.Ytienhidbgohhcaa
open Go.RowKit

theorem fill_fold : ∀ (vs : List Value) (o j : Nat) (cs : List Value), o + j + vs.length ≤ cs.length →
    ((vs.zipIdx j).foldl (fun (cs : Array Value) (x : Value × Nat) => cs.setIfInBounds (o + x.2) x.1) cs.toArray) = (splice cs (o + j) vs).toArray
  | [], o, j, cs, h => by simp [splice]
  | v :: r, o, j, cs, h => by
    simp only [List.length_cons] at h
    simp only [List.zipIdx_cons, List.foldl_cons, List.setIfInBounds_toArray]
    rw [fill_fold r o (j + 1) (cs.set (o + j) v) (by simp; omega)]
    have h2 := list_seg_step cs (o + j) v r h
    simp only [splice, List.length_cons]
    rw [List.append_assoc, List.append_assoc] at h2
    exact congrArg _ h2
theorem fill_fold' (C : Array Value) (o : Nat) (cs : List Value) (h : o + C.size ≤ cs.length) :
    (C.zipIdx.foldl (fun (cs : Array Value) (x : Value × Nat) => cs.setIfInBounds (o + x.2) x.1) cs.toArray) = (splice cs o C.toList).toArray := by
  have := fill_fold C.toList o 0 cs (by simpa using h)
  rw [Nat.add_zero] at this
  rw [← this, ← Array.foldl_toList, Array.toList_zipIdx]
theorem splice_all (cs vs : List Value) (h : cs.length = vs.length) : splice cs 0 vs = vs := by simp [splice, ← h]
set_option maxRecDepth 100000 in
theorem run_build_write (w : World) (i : Nat) (S : List Int) (hS : S.length = 64) :
    (Instr.build 73 #[(0, .int .i64 (i : Int)), (1, .agg (bys S).toArray)]).run Try.prog w = .ok (.agg (wcell (i, S)).toArray) w := by
  have hz := (zero_of_info zero_write).1 w
  have s3 : ∀ w, (sizeOf 3).run Try.prog w = .ok 1 w := fun w => by
    cases hq : Try.prog.info? 3 with
    | none => exact absurd hq (by have : (Try.prog.info? 3).isSome = true := by kernel_rfl
                                  intro e; rw [e] at this; cases this)
    | some q =>
      have : (Try.prog.info? 3).map (·.size) = some 1 := by kernel_rfl
      rw [hq] at this
      simp [sizeOf, typeInfo, hq] at this ⊢
      exact this
  have s38 : ∀ w, (sizeOf 57).run Try.prog w = .ok 64 w := fun w => by
    have := size_sector
    cases hq : Try.prog.info? 57 with
    | none => rw [hq] at this; cases this
    | some q =>
      rw [hq] at this
      simp [sizeOf, typeInfo, hq] at this ⊢
      exact this
  have hb : (bys S).length = 64 := by rw [bys_len, hS]
  obtain ⟨Z, hZ⟩ : ∃ Z, wcell (0, List.replicate 64 0) = Z := ⟨_, rfl⟩
  have hZl : Z.length = 65 := by rw [← hZ]; simp [wcell, bys_len]
  rw [hZ] at hz
  obtain ⟨a, t, rfl⟩ : ∃ a t, Z = a :: t := by
    cases Z with
    | nil => simp at hZl
    | cons a t => exact ⟨a, t, rfl⟩
  have htl : t.length = 64 := by simpa using hZl
  have h1 := fill_fold (bys S) 1 0 (Value.int .i64 (i : Int) :: t) (by simp [hb]; omega)
  have h2 : splice (Value.int .i64 (i : Int) :: t) (1 + 0) (bys S) = wcell (i, S) := by
    simp only [splice, wcell, hb, Nat.add_zero, List.take_succ_cons, List.take_zero]
    rw [List.drop_eq_nil_of_le (by simp; omega)]
    simp
  rw [h2] at h1
  clear hZ h2
  simp [Instr.build, hz, run_underlying Try.underlying73, s3, s38, Instr.fill, Value.cells, hb, htl, h1]
theorem size_of {P : Program} {t : TypeId} {n : Nat} (h : (P.info? t).map (·.size) = some n) (w : World) : (sizeOf t).run P w = .ok n w := by
  cases hq : P.info? t with
  | none => rw [hq] at h; cases h
  | some q =>
    rw [hq] at h
    simp [sizeOf, typeInfo, hq] at h ⊢
    exact h
theorem madeCells_one (z : Array Value) : (Array.range z.size).map (z[· % z.size]!) = z := by
  apply Array.ext
  · simp
  · intro i h1 h2
    simp [Nat.mod_eq_of_lt h2, getElem!_pos, h2]
theorem run_row_write (w : World) (C : Array Value) (hC : C.size = 65) :
    (Instr.buildSlice 41 1 #[(0, .agg C)]).run Try.prog w = .ok (.slice (some ⟨w.heap.size, 0, none⟩) 1 1) (w.alloc (.cells C 73)) := by
  have hz := (zero_of_info zero_write).1 w
  have s51 := fun w => size_of size_write w
  obtain ⟨Z, hZ⟩ : ∃ Z, wcell (0, List.replicate 64 0) = Z := ⟨_, rfl⟩
  have hZl : Z.length = 65 := by rw [← hZ]; simp [wcell, bys_len]
  rw [hZ] at hz
  have hm := madeCells_one Z.toArray
  rw [show Z.toArray.size = 65 by simpa using hZl] at hm
  have h1 := fill_fold' C 0 Z (by omega)
  rw [show splice Z 0 C.toList = C.toList from splice_all Z C.toList (by simp; omega)] at h1
  simp only [Nat.zero_add, Array.toArray_toList] at h1
  clear hZ
  simp [Instr.buildSlice, hz, run_underlying Try.underlying41, s51, Instr.fill, Value.cells, hC, hZl, newRow]
  have hm' : Array.map (fun x => Z[x % 65]?.getD default) (Array.range 65) = Z.toArray := by simpa using hm
  rw [hm']
  have e : C.zipIdx.size = 65 := by simpa using hC
  rw [← e, h1]
end Go.Proofs.Ytienhidbgohhcaa

