/- By program out of: DkLaw, RegCut. -/
import Derived.Test.YtpjeecahaeaajaaGreatDoorMecjhpo
import Derived.Deep.WholeRow
import Derived.Deep.RegionHeld3
set_option linter.unusedVariables false
set_option linter.unusedSimpArgs false
namespace Go.Proofs.YtpjeecahaeaajaaGreatDoor
open Go.RowKit
section
variable {P : Program} {ops : Array Oper} {o : Oper} {a : Act} {w : World} {K : Act → World → Prop} {Q : Exit → Act → World → Prop} {rest : List Oper}
theorem wpList_alloc_agg (hgd : o.guard = none) (ty : TypeId) (ho : o.op = .alloc ty) (Z : Array Value) (hz : ∀ w, (zeroValue ty).run P w = .ok (.agg Z) w)
    (h : wpList P ops Q rest (a.put o.dst (.pointer (some ⟨w.heap.size, 0, none⟩))) (w.alloc (.cells Z ty))) : wpList P ops Q (o :: rest) a w :=
  wpList_plain hgd fun K hK => by
    have hr : (Instr.alloc ty true (.tuple #[])).run P w = .ok (.pointer (some ⟨w.heap.size, 0, none⟩)) (w.alloc (.cells Z ty)) := by
      simp [Instr.alloc, hz, newVar, newRow, Value.cells]
    unfold Oper.wp execOp
    simp only [ho, Sem.run_bind, hr, Result.andThen_ok, Sem.run_pure]
    exact hK _ _ h
theorem wpList_store_new (hgd : o.guard = none) (ty : TypeId) (x y : Operand) (ho : o.op = .store ty x y) (w0 : World) (C C' : Array Value) (hx : a.eval x = .pointer (some ⟨w0.heap.size, 0, none⟩)) (hy : a.eval y = .agg C')
    (hw : w = w0.alloc (.cells C ty)) (hi : (P.info? ty).map (·.size) = some C'.size) (hs : C.size = C'.size) (h1 : C'.all (·.oneCell') = true)
    (h : wpList P ops Q rest (a.put o.dst undef) (w0.alloc (.cells C' ty))) : wpList P ops Q (o :: rest) a w :=
  wpList_plain hgd fun K hK => by
    subst hw
    have hr := run_storeAt_new (P := P) w0 ty C C' hi hs h1
    unfold Oper.wp execOp
    simp only [ho, hx, hy, Sem.run_bind, hr, Result.andThen_ok, Sem.run_pure]
    exact hK _ _ h
theorem run_load_op {o : Oper} {a : Act} {w : World} (ty : TypeId) (x : Operand) (ho : o.op = .load ty x)
    (b off : Nat) (hx : a.eval x = .pointer (some ⟨b, off, none⟩)) (cs : List Value) (d : TypeDesc) (hc : w.rangeAt b off cs)
    (hu : P.underlying ty = some d) (hd : d.isRow = true) (hi : (P.info? ty).map (·.size) = some cs.length) : (execOp a.eval o).run P w = .ok (.value (.agg cs.toArray)) w := by
  unfold execOp
  simp only [ho, hx, Instr.loadAt, Instr.sureAddr, Sem.run_bind, Sem.run_pure, Result.andThen_ok, run_loadVar_mid w b off ty cs d hc hu hd hi]
end
end Go.Proofs.YtpjeecahaeaajaaGreatDoor

set_option linter.unusedVariables false
set_option linter.unusedSimpArgs false
namespace Go.Proofs.YtpjeecahaeaajaaGreatDoor.Rg
open Go.RowKit
def Only (A : Act) (R : World → Prop) : Exit → Act → World → Prop
  | .normal, a, w => a = A ∧ R w
  | _, _, _ => False
theorem Only.out {A : Act} {R : World → Prop} {e : Exit} {a : Act} {w : World} (h : Only A R e a w) : e = .normal ∧ a = A ∧ R w := by
  cases e <;> first | exact ⟨rfl, h.1, h.2⟩ | exact h.elim
theorem Only.mk' {A : Act} {R : World → Prop} {a : Act} {w : World} (h : a = A) (hr : R w) : Only A R .normal a w := ⟨h, hr⟩
theorem cut {P : Program} {id : Nat} {ops : Array Oper} {Q : Exit → Act → World → Prop} {a : Act} {w : World} {A : Act} (R : World → Prop)
    (h : (Code.region id ops true).wp P (Only A R) a w) (hq : ∀ w', R w' → Q .normal A w') : (Code.region id ops true).wp P Q a w :=
  Code.wp_mono (fun e a' w' ho => by
    obtain ⟨rfl, rfl, hr⟩ := ho.out
    exact hq w' hr) h
def OnlyEx {ι : Type} (A : ι → Act) (R : ι → World → Prop) : Exit → Act → World → Prop
  | .normal, a, w => ∃ i, a = A i ∧ R i w
  | _, _, _ => False
theorem OnlyEx.out {ι : Type} {A : ι → Act} {R : ι → World → Prop} {e : Exit} {a : Act} {w : World} (h : OnlyEx A R e a w) : e = .normal ∧ ∃ i, a = A i ∧ R i w := by
  cases e <;> first | exact ⟨rfl, h⟩ | exact h.elim
theorem OnlyEx.mk' {ι : Type} {A : ι → Act} {R : ι → World → Prop} {a : Act} {w : World} (i : ι) (h : a = A i) (hr : R i w) : OnlyEx A R .normal a w := ⟨i, h, hr⟩
section
variable {P : Program} {ops : Array Oper} {o : Oper} {a : Act} {w : World} {K : Act → World → Prop} {Q : Exit → Act → World → Prop} {E : Prop}
end
end Go.Proofs.YtpjeecahaeaajaaGreatDoor.Rg
