/- By program out of: Trail. -/
import Derived.Shelf.Spec.TrailingZeros
import Derived.KernelRfl
import Derived.Test.YtodedlnpokagfaaGreatDoorRows
/-
  The library's own TrailingZeros32, at this program's numbers.
-/
set_option linter.unusedVariables false
set_option linter.unusedSimpArgs false
namespace Go.Proofs.YtodedlnpokagfaaGreatDoor
open Go.RowKit

def lays28_ren : Go.Shelf.Ren := ⟨fun | 28 => 105 | n => n, fun | 0 => 0 | 3 => 3 | 4 => 4 | 5 => 5 | 25 => 94 | 27 => 81 | 53 => 142 | n => n, fun | 0 => 0 | n => n⟩
theorem lays28 : Go.Proofs.Lays7.n28 Tryz.prog lays28_ren := {
  mixed := by kernel_rfl
  f28 := Tryz.func105.trans (congrArg some (by kernel_rfl))
  t0 := Tryz.underlying0
  a0 := Tryz.isAgg0
  z0 := Tryz.sizeOf0
  v0 := Tryz.zeroValue0
  i0 := by kernel_rfl
  t3 := Tryz.underlying3
  a3 := Tryz.isAgg3
  z3 := Tryz.sizeOf3
  v3 := Tryz.zeroValue3
  i3 := by kernel_rfl
  t4 := Tryz.underlying4
  a4 := Tryz.isAgg4
  z4 := Tryz.sizeOf4
  v4 := Tryz.zeroValue4
  i4 := by kernel_rfl
  t5 := Tryz.underlying5
  a5 := Tryz.isAgg5
  z5 := Tryz.sizeOf5
  v5 := Tryz.zeroValue5
  i5 := by kernel_rfl
  t25 := Tryz.underlying94
  a25 := Tryz.isAgg94
  z25 := Tryz.sizeOf94
  v25 := Tryz.zeroValue94
  i25 := by kernel_rfl
  t27 := Tryz.underlying81
  a27 := Tryz.isAgg81
  z27 := Tryz.sizeOf81
  v27 := Tryz.zeroValue81
  i27 := by kernel_rfl
  t53 := Tryz.underlying142
  a53 := Tryz.isAgg142
  z53 := Tryz.sizeOf142
  v53 := Tryz.zeroValue142
  i53 := by kernel_rfl
  g0 := by kernel_rfl }
/-- math/bits.TrailingZeros32. -/
theorem trailing_any (x : Nat) (hx : x < 4294967296) (w : World) (hT : x ≠ 0 → TabAt 0 Lib.deBruijn32tab w) :
    Calls Tryz.prog 105 #[.int .u32 x] w fun e w' => e = .returned (.int .i64 (Lib.ctz 32 x)) ∧ w' = w := Any7.bits_TrailingZeros32 lays28 x hx w hT
end Go.Proofs.YtodedlnpokagfaaGreatDoor

