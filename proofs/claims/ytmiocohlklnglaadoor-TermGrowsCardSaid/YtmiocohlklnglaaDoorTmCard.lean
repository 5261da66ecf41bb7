/-
  Layer 9: a world for the witnesses.
-/
import Derived.Test.YtmiocohlklnglaaDoorLawCard
import Derived.Test.YtmiocohlklnglaaDoorCards
import Derived.Test.YtmiocohlklnglaaDoorTie
import Derived.Test.YtmiocohlklnglaaDoorTmOpen
import Derived.Lib.LaidIn
set_option linter.unusedVariables false
set_option linter.unusedSimpArgs false
namespace Go.Proofs.YtmiocohlklnglaaDoor
open Go.ChangeShapes Go.WideShapes Go.ChangeAt Go.RowKit Tm

/-- A table's data as cells. -/
def flatOne : DataW Unit → List Value
  | .lit (.int k n) => [.int k n]
  | .agg xs => xs.flatMap fun
    | .lit (.int k n) => [.int k n]
    | _ => []
  | _ => []
def flat : DataW Unit → Array Value
  | .agg xs => (xs.flatMap flatOne).toArray
  | d => (flatOne d).toArray
def putCells (h : Array Obj) (g : Nat) (cs : Array Value) : Array Obj := h.modify g fun
  | .cells _ t frozen => .cells cs t frozen
  | o => o

noncomputable def laidWorldT (os : Os) : World :=
  let w0 := World.holding Tryd.prog os ⟨#[], #[], []⟩
  { w0 with heap := putCells w0.heap 0 (flat Rows.laid_math_bits_deBruijn32tab) }
end Go.Proofs.YtmiocohlklnglaaDoor
