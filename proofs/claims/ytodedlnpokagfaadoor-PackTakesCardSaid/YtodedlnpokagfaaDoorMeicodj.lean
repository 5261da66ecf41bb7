/- By program out of: Trail. -/
import Derived.Shelf.Spec.TrailingZeros
import Derived.KernelRfl
import Derived.Test.YtodedlnpokagfaaDoorRows
/-
  The library's own TrailingZeros32, at this program's numbers.
-/
set_option linter.unusedVariables false
set_option linter.unusedSimpArgs false
namespace Go.Proofs.YtodedlnpokagfaaDoor
open Go.RowKit

def lays28_ren : Go.Shelf.Ren := ⟨fun | 28 => 90 | n => n, fun | 0 => 0 | 3 => 3 | 4 => 4 | 5 => 5 | 25 => 79 | 27 => 71 | 53 => 128 | n => n, fun | 0 => 0 | n => n⟩
theorem lays28 : Go.Proofs.Lays7.n28 Tryd.prog lays28_ren := {
  mixed := by kernel_rfl
  f28 := Tryd.func90.trans (congrArg some (by kernel_rfl))
  t0 := Tryd.underlying0
  a0 := Tryd.isAgg0
  z0 := Tryd.sizeOf0
  v0 := Tryd.zeroValue0
  i0 := by kernel_rfl
  t3 := Tryd.underlying3
  a3 := Tryd.isAgg3
  z3 := Tryd.sizeOf3
  v3 := Tryd.zeroValue3
  i3 := by kernel_rfl
  t4 := Tryd.underlying4
  a4 := Tryd.isAgg4
  z4 := Tryd.sizeOf4
  v4 := Tryd.zeroValue4
  i4 := by kernel_rfl
  t5 := Tryd.underlying5
  a5 := Tryd.isAgg5
  z5 := Tryd.sizeOf5
  v5 := Tryd.zeroValue5
  i5 := by kernel_rfl
  t25 := Tryd.underlying79
  a25 := Tryd.isAgg79
  z25 := Tryd.sizeOf79
  v25 := Tryd.zeroValue79
  i25 := by kernel_rfl
  t27 := Tryd.underlying71
  a27 := Tryd.isAgg71
  z27 := Tryd.sizeOf71
  v27 := Tryd.zeroValue71
  i27 := by kernel_rfl
  t53 := Tryd.underlying128
  a53 := Tryd.isAgg128
  z53 := Tryd.sizeOf128
  v53 := Tryd.zeroValue128
  i53 := by kernel_rfl
  g0 := by kernel_rfl }
/-- math/bits.TrailingZeros32. -/
theorem trailing_any (x : Nat) (hx : x < 4294967296) (w : World) (hT : x ≠ 0 → TabAt 0 Lib.deBruijn32tab w) :
    Calls Tryd.prog 90 #[.int .u32 x] w fun e w' => e = .returned (.int .i64 (Lib.ctz 32 x)) ∧ w' = w := Any7.bits_TrailingZeros32 lays28 x hx w hT
end Go.Proofs.YtodedlnpokagfaaDoor

