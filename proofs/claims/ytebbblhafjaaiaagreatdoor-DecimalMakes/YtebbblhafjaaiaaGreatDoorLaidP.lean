/-
  What the rows' lists of variables give: the table of the powers of ten of strconv.
-/
import Derived.Test.YtebbblhafjaaiaaGreatDoorRows
import Derived.Test.YtebbblhafjaaiaaGreatDoorFmt10
import Derived.Lib.LaidTab
import Derived.Stop.LaidErr
namespace Go.Proofs.YtebbblhafjaaiaaGreatDoor
open Go.RowKit Go.Shelf
set_option linter.unusedVariables false

theorem gPow : Tryz.prog.globalNamed "internal/strconv.uint64pow10" = some 7 := by kernel_rfl
theorem gPowT : (Tryz.prog.globals[7]?).map (·.type) = some 267 := by kernel_rfl
theorem cPow : Tryz.prog.cellsOf 267 = 20 := by kernel_rfl
theorem cU64 : Tryz.prog.cellsOf 94 = 1 := by kernel_rfl
theorem ptOf {W : World} {rest : List (String × DataW Unit)} (h : laidMet Tryz.prog (("internal/strconv.uint64pow10", Rows.laid_internal_strconv_uint64pow10) :: rest) W) : Pt W :=
  Go.Lib.tabIs_of_head (zs := Go.Lib.pow10Tab) gPow gPowT Tryz.underlying267 Tryz.underlying94 cU64 cPow h
end Go.Proofs.YtebbblhafjaaiaaGreatDoor
