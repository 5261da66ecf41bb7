/-
  Layer 5: the smallest calls: has, Dead, Ops, Stop, modulo, and how much of a write lasts.
-/
import Derived.Test.YtmiocohlklnglaaDoorDkMem
import Derived.Deep.QuietTactic
import Derived.BigQuiet
set_option linter.unusedVariables false
set_option linter.unusedSimpArgs false
namespace Go.Proofs.YtmiocohlklnglaaDoor
open Go.RowKit

section
variable {w : World} {d s l : Nat} {v : Value} {n : Nat} {A : Dk.DV}

/-- A call that tells a truth, and draws. -/
def GivesDrew (b : Bool) (w : World) (e : Ending) (w' : World) : Prop := e = .returned (.bool b) ∧ ∃ k, w' = w.drewN k
end
end Go.Proofs.YtmiocohlklnglaaDoor

