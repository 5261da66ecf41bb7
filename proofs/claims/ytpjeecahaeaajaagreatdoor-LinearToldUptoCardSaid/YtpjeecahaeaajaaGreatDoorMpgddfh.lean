/- By program out of: Tab. -/
import Derived.Test.YtpjeecahaeaajaaGreatDoorMihmiff
import Derived.Test.YtpjeecahaeaajaaGreatDoorRows
import Derived.Lib.LaidU8
import Derived.Lib.LaidTab
import Derived.MakeChecks
set_option linter.unusedVariables false
set_option linter.unusedSimpArgs false
namespace Go.Proofs.YtpjeecahaeaajaaGreatDoor
open Go.RowKit Go.Lib
theorem laid_tab : (Rows.laid_math_bits_deBruijn32tab : DataW Unit) = Lib.tabData .u8 (Lib.deBruijn32tab.map Int.ofNat) := by kernel_rfl
theorem tab_of_reads {W : World} (h : VarReads Tryz.prog W "math/bits.deBruijn32tab" Rows.laid_math_bits_deBruijn32tab) : Tab W := by
  obtain ⟨g, t, cs, fuel, p, h1, h2, h3, h4⟩ := h
  obtain rfl : g = 3 := by
    have : Tryz.prog.globalNamed "math/bits.deBruijn32tab" = some 3 := by kernel_rfl
    rw [this] at h1
    exact (Option.some.inj h1).symm
  obtain rfl : t = 147 := by
    have : (Tryz.prog.globals[3]?).map (·.type) = some 147 := by kernel_rfl
    rw [this] at h2
    exact (Option.some.inj h2).symm
  rw [laid_tab] at h4
  have hcs := Lib.cells_of_tab Tryz.underlying147 Tryz.underlying5 (show Tryz.prog.cellsOf 5 = 1 by kernel_rfl) (show Tryz.prog.cellsOf 147 = 32 by kernel_rfl) h4
  intro j hj
  rw [World.var?_cell h1 h3 j]
  have hj2 : cs[j]? = cs.toList[j]? := by simp
  rw [hj2, hcs, List.map_map, List.getElem?_map, List.getElem?_eq_getElem hj, List.getD_eq_getElem?_getD, List.getElem?_eq_getElem hj]
  rfl
theorem tab_of_laid {W : World} {l : List (String × DataW Unit)} (h : laidMetH Tryz.prog l W) (hp : (l.all fun x => x.2.handleName?.isNone) = true) (hm : ("math/bits.deBruijn32tab", Rows.laid_math_bits_deBruijn32tab) ∈ l) : Tab W := by
  rw [Go.MakeChecks.laidMetH_plain _ _ _ hp] at h
  exact tab_of_reads (Go.Lib.laidMet.reads h hm)
end Go.Proofs.YtpjeecahaeaajaaGreatDoor
