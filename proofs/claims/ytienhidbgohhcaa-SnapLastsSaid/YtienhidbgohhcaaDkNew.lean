/-
  Layer 5: Read, New, and the document's example.
-/
import Derived.Test.YtienhidbgohhcaaDkRead
set_option linter.unusedVariables false
set_option linter.unusedSimpArgs false
namespace Go.Proofs.Ytienhidbgohhcaa
open Go.RowKit

/-- A new disk. -/
def Dk.DV.new (n : Nat) : Dk.DV := { seen := List.replicate (64 * n) 0, last := List.replicate (64 * n) 0, wait := [], ops := 0, stop := 9223372036854775807 }
/-- What New answers. -/
def Newed (n : Nat) (w : World) (e : Ending) (w' : World) : Prop :=
  ∃ d s l, e = .returned (.tuple #[.pointer (some ⟨d, 0, none⟩), .int .i64 0]) ∧ DkAt w' d s l (.slice none 0 0) n (Dk.DV.new n) ∧ w.heap.size ≤ d ∧ w.heap.size ≤ s ∧ w.heap.size ≤ l ∧ Below w.heap.size w w'
theorem size_alloc' (w : World) (o : Obj) : (w.alloc o).heap.size = w.heap.size + 1 := by simp
theorem made_zero' (m k : Nat) (hm : 0 < m) : madeCells (bys (List.replicate m 0)).toArray k = (bys (List.replicate k 0)).toArray := by
  apply Array.ext
  · simp [madeCells, bys_len]
  · intro i h1 h2
    have h3 : i % m < m := Nat.mod_lt _ hm
    simp [madeCells, bys, h3]
theorem made_zero (n : Nat) : madeCells (bys (List.replicate 64 0)).toArray (n * 64) = (bys (List.replicate (64 * n) 0)).toArray := by
  rw [made_zero' 64 (n * 64) (by omega), Nat.mul_comm]
theorem run_make_sectors (w : World) (n : Nat) (hn : n ≤ 1000) : (Instr.makeSlice 40 (.int .i64 (n : Int)) (.int .i64 (n : Int))).run Try.prog w = .ok (.slice (some ⟨w.heap.size, 0, none⟩) n n) (w.alloc (.cells (bys (List.replicate (64 * n) 0)).toArray 57)) := by
  have hi := info_sector
  obtain ⟨i, h1, h2, h3, h4⟩ : ∃ i, Try.prog.info? 57 = some i ∧ i.zero = some (.agg (bys (List.replicate 64 0)).toArray) ∧ i.size = 64 ∧ i.bytes = 64 := by
    cases hq : Try.prog.info? 57 with
    | none => rw [hq] at hi; cases hi
    | some q =>
      rw [hq] at hi
      simp only [Option.map_some, Option.some.injEq, Prod.mk.injEq] at hi
      exact ⟨q, rfl, hi.1, hi.2.1, hi.2.2⟩
  have := run_makeSlice (P := Try.prog) w 40 57 i _ Try.underlying40 h1 h2 .i64 .i64 (n : Int) (n : Int) (by omega) (Int.le_refl _) (by rw [h3]; simp; omega) (by rw [h4]; omega) (by omega)
  rw [this, h3]
  simp only [Int.toNat_natCast]
  rw [← made_zero]
  rfl
set_option maxRecDepth 100000 in
set_option maxHeartbeats 1000000 in
theorem New_any (w : World) (n : Nat) (h0 : 1 ≤ n) (hn : n ≤ 1000) : Calls Try.prog 5 #[.int .i64 (n : Int)] w (Newed n w) := by
  have hmk := fun w => run_make_sectors w n hn
  have k0 : (1 : Int) ≤ (n : Int) := by omega
  have k1 : (n : Int) ≤ 65536 := by omega
  have HR0 := Lib.hid h0
  have HR1 := Lib.hid hn
  obtain ⟨W, hW⟩ : ∃ W, W = ((w.alloc (.cells #[.slice (some ⟨w.heap.size + 1, 0, none⟩) n n, .slice (some ⟨w.heap.size + 1 + 1, 0, none⟩) n n, .slice none 0 0, .int .i64 0, .int .i64 9223372036854775807] 43)).alloc (.cells (bys (List.replicate (64 * n) 0)).toArray 57)).alloc (.cells (bys (List.replicate (64 * n) 0)).toArray 57) := ⟨_, rfl⟩
  have HP : Hid (Newed n w (.returned (.tuple #[.pointer (some ⟨w.heap.size, 0, none⟩), .int .i64 0])) W) := Lib.hid (by
    refine ⟨_, w.heap.size + 1, w.heap.size + 1 + 1, rfl, ⟨?_, ?_, ?_, World.ownsRow_nil _ _ _ _, ⟨?_, ?_, (fun x hx => by cases hx), hn⟩, by omega, (fun k hk => by cases hk)⟩, Nat.le_refl _, by omega, by omega, ?_⟩
    · rw [hW, Below.heap_alloc _ _ _ (by simp; omega), Below.heap_alloc _ _ _ (by simp)]
      exact heap_alloc_last w _
    · rw [hW, Below.heap_alloc _ _ _ (by simp)]
      have := heap_alloc_last (w.alloc (.cells #[.slice (some ⟨w.heap.size + 1, 0, none⟩) n n, .slice (some ⟨w.heap.size + 1 + 1, 0, none⟩) n n, .slice none 0 0, .int .i64 0, .int .i64 9223372036854775807] 43)) (.cells (bys (List.replicate (64 * n) 0)).toArray 57)
      simp only [size_alloc'] at this
      exact this
    · rw [hW]
      have := heap_alloc_last ((w.alloc (.cells #[.slice (some ⟨w.heap.size + 1, 0, none⟩) n n, .slice (some ⟨w.heap.size + 1 + 1, 0, none⟩) n n, .slice none 0 0, .int .i64 0, .int .i64 9223372036854775807] 43)).alloc (.cells (bys (List.replicate (64 * n) 0)).toArray 57)) (.cells (bys (List.replicate (64 * n) 0)).toArray 57)
      simp only [size_alloc'] at this
      exact this
    · simp [Dk.DV.new]
    · simp [Dk.DV.new]
    · rw [hW]
      exact (((Below.refl _ _).alloc (Nat.le_refl _) _).alloc (by simp) _).alloc (by simp; omega) _)
  have HW := Lib.hid hW
  clear hW
  generalize List.replicate (64 * n) (0 : Int) = Z at *
  clear h0 hn
  go_enter Try.func5, Try.ntmps5
  go_wp2
  go_ret2
  rw [← HW.out]
  exact HP.out
/-- What Read answers. -/
def Reads1 (R : List Int) (w : World) (e : Ending) (w' : World) : Prop := e = .returned (.tuple #[.agg (bys R).toArray, .int .i64 0]) ∧ Below w.heap.size w w'
section
variable {w : World} {d s l : Nat} {v : Value} {n : Nat} {A : Dk.DV}
set_option maxRecDepth 100000 in
set_option maxHeartbeats 1000000 in
theorem Read_yes (h : DkAt w d s l v n A) (i : Nat) (hi : i < n) : Calls Try.prog 35 #[.pointer (some ⟨d, 0, none⟩), .int .i64 (i : Int)] w (Reads1 (Dk.sec A.seen i) w) := by
  have zs := fun w => (zero_of_info zero_sector).1 w
  obtain ⟨Z, hZ⟩ : ∃ Z, bys (List.replicate 64 0) = Z := ⟨_, rfl⟩
  rw [hZ] at zs
  have hZl : Z.length = 64 := by rw [← hZ]; simp [bys_len]
  have HZL := Lib.hid hZl
  have hc1 : Chg (fun _ => False) w (w.alloc (.cells Z.toArray 57)) := chg_alloc _ _
  have h1 := h.apart hc1 (fun _ _ h => h)
  have HN := Lib.hid (has_yes h1 i hi)
  obtain ⟨c0, c1, c2, c3, c4, f⟩ := h1.cells
  have hd := h.lt d (.inl rfl)
  have hs := h.lt s (.inr (.inl rfl))
  have hdz : d ≠ w.heap.size := by omega
  have hl64 := Dk.sec_len h.fits.seen hi
  have HL64 : Hid ((Dk.sec A.seen i).length = 64) := Lib.hid hl64
  have hrd : (w.alloc (.cells Z.toArray 57)).rangeAt s (i * 64) (bys (Dk.sec A.seen i)) := by
    unfold Dk.sec
    rw [bys_sec, Nat.mul_comm]
    exact rangeAt_blk h1.seen (64 * i) 64
  have hsr : (Try.prog.info? 57).map (·.size) = some (bys (Dk.sec A.seen i)).length := by rw [bys_len, HL64.out]; exact size_sector
  have hi0 : (0 : Int) ≤ (i : Int) := by omega
  have hns := h.fits.small
  have hall := bys_one (Dk.sec A.seen i)
  have HA := Lib.hid hall
  clear h h1 hZ hZl hl64 hc1 hall
  go_enter Try.func35, Try.ntmps35
  go_wp2_with (with_reducible refine wpList_alloc_agg rfl 57 rfl Z.toArray zs ?_)
  refine HN.out.mono ?_
  rintro e w' ⟨rfl, rfl⟩
  clear HN
  go_wp2_with (first | (with_reducible refine wpList_load_mid rfl 57 (.tmp 16) rfl s (i * 64) rfl (bys (Dk.sec A.seen i)) _ hrd Try.underlying57 rfl hsr ?_) | (with_reducible refine wpList_store_new rfl 57 (.tmp 4) (.tmp 17) rfl w Z.toArray (bys (Dk.sec A.seen i)).toArray rfl rfl rfl (by rw [hsr]; simp) (by rw [List.size_toArray, List.size_toArray, bys_len, HZL.out, HL64.out]) (all_oneCell_toArray HA.out) ?_))
  have hld := run_loadVar_new (P := Try.prog) w 57 (bys (Dk.sec A.seen i)).toArray 64 5 Try.underlying57 (by rw [hsr]; simp)
  refine bodyPost_ret (v := .tuple #[.agg (bys (Dk.sec A.seen i)).toArray, .int .i64 0]) (by simp [results, Try.results35, asAddr, hld]) rfl ⟨rfl, (Below.refl _ _).alloc (Nat.le_refl _) _⟩
end
end Go.Proofs.Ytienhidbgohhcaa

