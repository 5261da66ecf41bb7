/- By program out of: DkMath. -/
import Derived.Laws.CopyOwn
set_option linter.unusedVariables false
set_option linter.unusedSimpArgs false
namespace Go.Proofs.YtpjeecahaeaajaaGreatDoor.Dk
structure DV where
  seen : List Int
  last : List Int
  wait : List (Nat × List Int)
  ops : Nat
  stop : Int
structure Fits (N : Nat) (A : DV) : Prop where
  seen : A.seen.length = 64 * N
  last : A.last.length = 64 * N
  wait : ∀ x ∈ A.wait, x.1 < N ∧ x.2.length = 64
  small : N ≤ 1000
end Go.Proofs.YtpjeecahaeaajaaGreatDoor.Dk
