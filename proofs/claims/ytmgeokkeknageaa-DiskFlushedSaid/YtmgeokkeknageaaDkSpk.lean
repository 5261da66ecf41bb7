/-
  Layer 5: the document's example.
-/
import Derived.Test.YtmgeokkeknageaaDkNew
set_option linter.unusedVariables false
set_option linter.unusedSimpArgs false
namespace Go.Proofs.Ytmgeokkeknageaa
open Go.RowKit

def sev : List Int := 7 :: List.replicate 63 0
def zer : List Int := List.replicate 64 0
set_option maxRecDepth 100000 in
theorem run_build_zero (w : World) : (Instr.build 38 #[]).run Try.prog w = .ok (.agg (bys zer).toArray) w := by
  have hz := (zero_of_info zero_sector).1 w
  simp only [zer]
  generalize bys (List.replicate 64 0) = Z at *
  simp [Instr.build, hz, run_underlying Try.underlying38, size_of size_byte, Instr.fill, Value.cells]
set_option maxRecDepth 100000 in
theorem run_build_sev (w : World) : (Instr.build 38 #[(0, .int .u8 7)]).run Try.prog w = .ok (.agg (bys sev).toArray) w := by
  have hz := (zero_of_info zero_sector).1 w
  have hs : bys sev = .int .u8 7 :: bys (List.replicate 63 0) := rfl
  rw [hs]
  rw [show bys (List.replicate 64 0) = .int .u8 0 :: bys (List.replicate 63 0) from rfl] at hz
  generalize bys (List.replicate 63 0) = Z at *
  simp [Instr.build, hz, run_underlying Try.underlying38, size_of size_byte, Instr.fill, Value.cells]
theorem run_eq_op {o : Oper} {a : Act} {w : World} (t2 : TypeId) (x y : Operand) (ho : o.op = .binOp .eql 38 x y t2) (xs ys : List Int) (hx : a.eval x = .agg (bys xs).toArray) (hy : a.eval y = .agg (bys ys).toArray) (h1 : xs.length = 64) (h2 : ys.length = 64) :
    (execOp a.eval o).run Try.prog w = .ok (.value (.bool (decide (xs = ys)))) w := by
  have hg := run_eqGuard_agg (P := Try.prog) w .eql 38 x y (bys xs).toArray (bys ys).toArray (by kernel_rfl)
  have hr := run_eql_row (P := Try.prog) w 38 5 64 Try.underlying38 Try.underlying5 (fun w => size_of size_byte w) xs ys h1 h2
  unfold execOp
  simp [ho, hx, hy, hg, hr]
theorem run_sev_op {o : Oper} {a : Act} {w : World} (ho : o.op = .build 38 #[(0, .const (.int .u8 7))]) : (execOp a.eval o).run Try.prog w = .ok (.value (.agg (bys sev).toArray)) w := by
  have := run_build_sev w
  unfold execOp
  simp [ho, Act.eval, this]
theorem run_zer_op {o : Oper} {a : Act} {w : World} (ho : o.op = .build 38 #[]) : (execOp a.eval o).run Try.prog w = .ok (.value (.agg (bys zer).toArray)) w := by
  have := run_build_zero w
  unfold execOp
  simp [ho, this]
/-- An operation that yields its value and does nothing else, in a plain region. -/
theorem wpList_val {P : Program} {ops : Array Oper} {Q : Exit → Act → World → Prop} {a : Act} {w : World} {rest : List Oper} {o : Oper} (v : Value) (hr : (execOp a.eval o).run P w = .ok (.value v) w) (hw : Region.wanted o (yielded ops a.tmps) = true)
    (h : wpList P ops Q rest (a.put o.dst v) w) : wpList P ops Q (o :: rest) a w :=
  wpList_step fun K hK => by
    rw [if_pos hw]
    unfold Oper.wp
    rw [hr]
    exact hK _ _ h
theorem run_eq_same {o : Oper} {a : Act} {w : World} (t2 : TypeId) (x y : Operand) (ho : o.op = .binOp .eql 38 x y t2) (xs : List Int) (hx : a.eval x = .agg (bys xs).toArray) (hy : a.eval y = .agg (bys xs).toArray) (h1 : xs.length = 64) :
    (execOp a.eval o).run Try.prog w = .ok (.value (.bool true)) w := by
  have := run_eq_op (w := w) t2 x y ho xs xs hx hy h1 h1
  simpa using this
theorem zer_len : zer.length = 64 := by simp [zer]
theorem sev_len : sev.length = 64 := by simp [sev]

/-- The example's states. -/
def A1 : Dk.DV := (Dk.DV.new 3).writes 1 sev
def A2 : Dk.DV := A1.crash (muchN [] (-1) 0)
theorem A1_sec : Dk.sec A1.seen 1 = sev := by decide +kernel
theorem A2_sec : Dk.sec A2.seen 1 = zer := by decide +kernel

/-- A call tells that it holds. -/
def Says (w : World) (e : Ending) (w' : World) : Prop := e = .returned (.bool true) ∧ Below w.heap.size w w'
set_option maxRecDepth 100000 in
set_option maxHeartbeats 4000000 in
theorem speaks05 (w : World) : Calls Try.prog 5 #[] w (Says w) := by
  have HN := Lib.hid (New_any w 3 (by omega) (by omega))
  have hb7 := run_build_sev
  have hb0 := run_build_zero
  go_enter Try.func5, Try.ntmps5
  go_wp2_with fail
  refine HN.out.mono ?_
  rintro e w1 ⟨d, s, l, rfl, h1, ld, ls, ll, hb1⟩
  have HW := Lib.hid (Write_yes h1 (i := 1) (S := sev) (by omega) sev_len (by simp [Dk.DV.new]) (by simp [Dk.DV.new]))
  have HB1 := Lib.hid hb1
  have HL := Lib.hid (And.intro ld (And.intro ls ll))
  have HBB : Hid (w.heap.size ≤ w1.heap.size) := Lib.hid hb1.size
  clear h1 ld ls ll hb1 HN
  clear hb7 hb0
  go_wp2_with (refine wpList_val (.agg (bys sev).toArray) (run_sev_op (by with_reducible rfl)) (by rfl) ?_)
  refine HW.out.mono ?_
  rintro e w2 ⟨rfl, _, v2, h2, k2, n2⟩
  have hb2 : Below w.heap.size w w2 := by
    refine HB1.out.trans (k2.below (fun k hk => ?_) HB1.out.size)
    have := HL.out
    rcases hk with rfl | rfl | rfl | hk
    · omega
    · omega
    · omega
    · cases hk
  have HR := Lib.hid (Read_yes h2 1 (by omega))
  rw [show Dk.sec (Dk.DV.writes 1 sev (Dk.DV.new 3)).seen 1 = sev from A1_sec] at HR
  have HH2 := Lib.hid h2
  have HN2 := Lib.hid n2
  have HB2 := Lib.hid hb2
  clear HW HB1 h2 k2 n2 hb2
  have zs := fun w => (zero_of_info zero_sector).1 w
  have hZl : (bys (List.replicate 64 0)).length = 64 := by simp [bys_len]
  generalize bys (List.replicate 64 0) = Z at *
  have HZL := Lib.hid hZl
  have hsv : (Try.prog.info? 38).map (·.size) = some (bys sev).length := by rw [bys_len, sev_len]; exact size_sector
  have hzv : (Try.prog.info? 38).map (·.size) = some (bys zer).length := by rw [bys_len, zer_len]; exact size_sector
  clear hZl
  go_wp2_with fail
  refine HR.out.mono ?_
  rintro e w3 ⟨rfl, hb3⟩
  have HB3 := Lib.hid (HB2.out.trans (hb3.mono HB2.out.size))
  have hB1 : Below w2.heap.size w2 (w3.alloc (.cells (bys sev).toArray 38)) := hb3.trans ((Below.refl _ _).alloc hb3.size _)
  have h3 := HH2.out.kept hB1
  have HC := Lib.hid (Crash_any h3 (a := none) (ks := []) (c := 0) (torn := -1) (tear := 0) ⟨.nil _ _, by simp, by omega, by omega, .inl rfl⟩)
  have HLT : Hid (∀ k, Foot d s l v2 k → k < w3.heap.size) := Lib.hid fun k hk => Nat.lt_of_lt_of_le (HH2.out.lt k hk) hb3.size
  have HRG : Hid ((w3.alloc (.cells (bys sev).toArray 38)).rangeAt w3.heap.size 0 (bys sev)) := Lib.hid fun j u hu => by
    rw [Nat.zero_add, cell_of_row _ _ j _ _ _ (heap_alloc_last w3 _)]
    simpa using hu
  clear HR hb3 hB1 h3
  go_wp2_with (first | (with_reducible refine wpList_alloc_agg rfl 38 rfl Z.toArray zs ?_) | (with_reducible refine wpList_store_new rfl 38 (.tmp 3) (.tmp 26) rfl w3 Z.toArray (bys sev).toArray rfl rfl rfl (by rw [hsv]; simp) (by rw [List.size_toArray, List.size_toArray, HZL.out, bys_len, sev_len]) (all_oneCell_toArray (bys_one sev)) ?_))
  refine HC.out.mono ?_
  rintro e w4 ⟨rfl, v4, h4, k4, n4⟩
  have HR := Lib.hid (Read_yes h4 1 (by omega))
  rw [show Dk.sec (Dk.DV.crash (muchN [] (-1) 0) (Dk.DV.writes 1 sev (Dk.DV.new 3))).seen 1 = zer from A2_sec] at HR
  have HRG4 : Hid (w4.rangeAt w3.heap.size 0 (bys sev)) := Lib.hid fun j u hu => (World.cell?_of_block (k4.block w3.heap.size (by simp) (fun e => by have := HLT.out _ e; omega))).trans (HRG.out j u hu)
  have HB4 : Hid (Below w.heap.size w w4) := Lib.hid (by
    have h5 : Below w.heap.size w (w3.alloc (.cells (bys sev).toArray 38)) := HB3.out.alloc HB3.out.size _
    refine h5.trans (k4.below (fun k hk => ?_) h5.size)
    have := HL.out
    rcases hk with rfl | rfl | rfl | hk
    · omega
    · omega
    · omega
    · rcases HN2.out k hk with e | e
      · cases e
      · exact Nat.le_trans HBB.out e)
  clear HC h4 k4 n4 HRG HLT HB3 HH2 HN2
  go_wp2_with fail
  refine HR.out.mono ?_
  rintro e w5 ⟨rfl, hb5⟩
  have HB5 := Lib.hid (HB4.out.trans (hb5.mono HB4.out.size))
  have HLB : Hid (w3.heap.size < w4.heap.size) := Lib.hid (by
    have := HRG4.out 0 (.int .u8 7) rfl
    exact World.block_lt_of_cell? _ _ this)
  have r1 : (w5.alloc (.cells (bys zer).toArray 38)).rangeAt w3.heap.size 0 (bys sev) := World.rangeAt_alloc (fun j u hu => (hb5.cell (p := ⟨w3.heap.size, 0 + j, none⟩) HLB.out).trans (HRG4.out j u hu)) _
  have r2 : (w5.alloc (.cells (bys zer).toArray 38)).rangeAt w5.heap.size 0 (bys zer) := fun j u hu => by
    rw [Nat.zero_add, cell_of_row _ _ j _ _ _ (heap_alloc_last w5 _)]
    simpa using hu
  have R1 := Lib.hid r1
  have R2 := Lib.hid r2
  clear HR hb5 HB4 HRG4 r1 r2
  go_wp2_with (first | (with_reducible refine wpList_alloc_agg rfl 38 rfl Z.toArray zs ?_) | (with_reducible refine wpList_store_new rfl 38 (.tmp 5) (.tmp 33) rfl w5 Z.toArray (bys zer).toArray rfl rfl rfl (by rw [hzv]; simp) (by rw [List.size_toArray, List.size_toArray, HZL.out, bys_len, zer_len]) (all_oneCell_toArray (bys_one zer)) ?_) | (refine wpList_val (.agg (bys sev).toArray) (run_load_op 38 (.tmp 3) (by with_reducible rfl) w3.heap.size 0 (by rfl) (bys sev) _ R1.out Try.underlying38 rfl hsv) (by rfl) ?_) | (refine wpList_val (.agg (bys sev).toArray) (run_sev_op (by with_reducible rfl)) (by rfl) ?_) | (refine wpList_val (.agg (bys zer).toArray) (run_load_op 38 (.tmp 5) (by with_reducible rfl) w5.heap.size 0 (by rfl) (bys zer) _ R2.out Try.underlying38 rfl hzv) (by rfl) ?_) | (refine wpList_val (.agg (bys zer).toArray) (run_zer_op (by with_reducible rfl)) (by rfl) ?_) | (refine wpList_val (.bool true) (run_eq_same 38 (.tmp 35) (.tmp 36) (by with_reducible rfl) sev (by rfl) (by rfl) sev_len) (by rfl) ?_) | (refine wpList_val (.bool true) (run_eq_same 38 (.tmp 39) (.tmp 40) (by with_reducible rfl) zer (by rfl) (by rfl) zer_len) (by rfl) ?_))
  go_ret
  exact ⟨rfl, HB5.out.alloc HB5.out.size _⟩
end Go.Proofs.Ytmgeokkeknageaa
