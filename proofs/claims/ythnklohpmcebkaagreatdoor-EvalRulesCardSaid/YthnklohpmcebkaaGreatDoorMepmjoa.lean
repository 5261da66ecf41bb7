/- By program out of: TmOpen. -/
import Derived.Test.YthnklohpmcebkaaGreatDoorMmepeog
import Derived.ProofKit
import Derived.ChangeSlices
import Derived.ChangeMaps5
import Derived.Deep.Slices
import Derived.OpenShut
set_option linter.unusedVariables false
set_option linter.unusedSimpArgs false
namespace Go.Proofs.YthnklohpmcebkaaGreatDoor
open Go.ChangeShapes Go.WideShapes Go.ChangeAt Go.RowKit Tm
structure KIn (W : World) (a : Option Addr) (xs : List Int) (c : Nat) : Prop where
  at_ : xs = [] ∨ ∃ g off, a = some ⟨g, off, none⟩ ∧ W.rangeAt g off (i64s xs)
  cap : xs.length ≤ c
  capped : c ≤ 9223372036854775807
  mid : a = none → c = 0
end Go.Proofs.YthnklohpmcebkaaGreatDoor
