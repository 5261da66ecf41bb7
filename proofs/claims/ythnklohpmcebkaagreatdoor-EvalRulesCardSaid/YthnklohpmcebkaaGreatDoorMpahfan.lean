/- By program out of: TmOpenN. -/
import Derived.Test.YthnklohpmcebkaaGreatDoorMhemifl
import Derived.Test.YthnklohpmcebkaaGreatDoorMpjgkim
import Derived.Deep.Slices
import Derived.OpenShut
set_option linter.unusedVariables false
set_option linter.unusedSimpArgs false
namespace Go.Proofs.YthnklohpmcebkaaGreatDoor
open Go.ChangeShapes Go.WideShapes Go.ChangeAt Go.RowKit Tm Rep
noncomputable def laidWorldT (os : Os) : World :=
  let w0 := World.holding Tryz.prog os ⟨#[], #[], []⟩
  { w0 with heap := putCells w0.heap 0 (flat Rows.laid_math_bits_deBruijn32tab) }
instance : Inhabited HN := ⟨⟨0, 0, none, 0, [], false, none, 0, [], none, 0, []⟩⟩
end Go.Proofs.YthnklohpmcebkaaGreatDoor
