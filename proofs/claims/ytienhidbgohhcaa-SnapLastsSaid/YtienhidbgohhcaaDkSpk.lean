/-
  Layer 5: the document's example.
-/
import Derived.Test.YtienhidbgohhcaaDkNew
set_option linter.unusedVariables false
set_option linter.unusedSimpArgs false
namespace Go.Proofs.Ytienhidbgohhcaa
open Go.RowKit

def sev : List Int := 7 :: List.replicate 63 0
def zer : List Int := List.replicate 64 0
set_option maxRecDepth 100000 in
theorem run_build_zero (w : World) : (Instr.build 57 #[]).run Try.prog w = .ok (.agg (bys zer).toArray) w := by
  have hz := (zero_of_info zero_sector).1 w
  simp only [zer]
  generalize bys (List.replicate 64 0) = Z at *
  simp [Instr.build, hz, run_underlying Try.underlying57, size_of size_byte, Instr.fill, Value.cells]
set_option maxRecDepth 100000 in
theorem run_build_sev (w : World) : (Instr.build 57 #[(0, .int .u8 7)]).run Try.prog w = .ok (.agg (bys sev).toArray) w := by
  have hz := (zero_of_info zero_sector).1 w
  have hs : bys sev = .int .u8 7 :: bys (List.replicate 63 0) := rfl
  rw [hs]
  rw [show bys (List.replicate 64 0) = .int .u8 0 :: bys (List.replicate 63 0) from rfl] at hz
  generalize bys (List.replicate 63 0) = Z at *
  simp [Instr.build, hz, run_underlying Try.underlying57, size_of size_byte, Instr.fill, Value.cells]
theorem run_eq_op {o : Oper} {a : Act} {w : World} (t2 : TypeId) (x y : Operand) (ho : o.op = .binOp .eql 57 x y t2) (xs ys : List Int) (hx : a.eval x = .agg (bys xs).toArray) (hy : a.eval y = .agg (bys ys).toArray) (h1 : xs.length = 64) (h2 : ys.length = 64) :
    (execOp a.eval o).run Try.prog w = .ok (.value (.bool (decide (xs = ys)))) w := by
  have hg := run_eqGuard_agg (P := Try.prog) w .eql 57 x y (bys xs).toArray (bys ys).toArray (by kernel_rfl)
  have hr := run_eql_row (P := Try.prog) w 57 5 64 Try.underlying57 Try.underlying5 (fun w => size_of size_byte w) xs ys h1 h2
  unfold execOp
  simp [ho, hx, hy, hg, hr]
theorem run_sev_op {o : Oper} {a : Act} {w : World} (ho : o.op = .build 57 #[(0, .const (.int .u8 7))]) : (execOp a.eval o).run Try.prog w = .ok (.value (.agg (bys sev).toArray)) w := by
  have := run_build_sev w
  unfold execOp
  simp [ho, Act.eval, this]
theorem run_zer_op {o : Oper} {a : Act} {w : World} (ho : o.op = .build 57 #[]) : (execOp a.eval o).run Try.prog w = .ok (.value (.agg (bys zer).toArray)) w := by
  have := run_build_zero w
  unfold execOp
  simp [ho, this]
/-- An operation that yields its value and does nothing else, in a plain region. -/
theorem wpList_val {P : Program} {ops : Array Oper} {Q : Exit → Act → World → Prop} {a : Act} {w : World} {rest : List Oper} {o : Oper} (v : Value) (hr : (execOp a.eval o).run P w = .ok (.value v) w) (hw : Region.wanted o (yielded ops a.tmps) = true)
    (h : wpList P ops Q rest (a.put o.dst v) w) : wpList P ops Q (o :: rest) a w :=
  wpList_step fun K hK => by
    rw [if_pos hw]
    unfold Oper.wp
    rw [hr]
    exact hK _ _ h
theorem run_eq_same {o : Oper} {a : Act} {w : World} (t2 : TypeId) (x y : Operand) (ho : o.op = .binOp .eql 57 x y t2) (xs : List Int) (hx : a.eval x = .agg (bys xs).toArray) (hy : a.eval y = .agg (bys xs).toArray) (h1 : xs.length = 64) :
    (execOp a.eval o).run Try.prog w = .ok (.value (.bool true)) w := by
  have := run_eq_op (w := w) t2 x y ho xs xs hx hy h1 h1
  simpa using this
theorem zer_len : zer.length = 64 := by simp [zer]
theorem sev_len : sev.length = 64 := by simp [sev]

/-- The example's states. -/
def A1 : Dk.DV := (Dk.DV.new 3).writes 1 sev
def A2 : Dk.DV := A1.crash (muchN [] (-1) 0)
theorem A1_sec : Dk.sec A1.seen 1 = sev := by decide +kernel
theorem A2_sec : Dk.sec A2.seen 1 = zer := by decide +kernel

/-- A call tells that it holds. -/
def Says (w : World) (e : Ending) (w' : World) : Prop := e = .returned (.bool true) ∧ Below w.heap.size w w'
end Go.Proofs.Ytienhidbgohhcaa

