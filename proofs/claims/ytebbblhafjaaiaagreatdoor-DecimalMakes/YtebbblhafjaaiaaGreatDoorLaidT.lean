/-
  What the rows' lists of variables give: the table of the powers of ten of decimal.
-/
import Derived.Test.YtebbblhafjaaiaaGreatDoorLaidP
import Derived.Test.YtebbblhafjaaiaaGreatDoorDec7
namespace Go.Proofs.YtebbblhafjaaiaaGreatDoor
open Go.RowKit Go.Shelf
set_option linter.unusedVariables false

theorem gTens : Tryz.prog.globalNamed "tollbook/decimal.tens" = some 0 := by kernel_rfl
theorem gTensT : (Tryz.prog.globals[0]?).map (·.type) = some 101 := by kernel_rfl
theorem cTens : Tryz.prog.cellsOf 101 = 10 := by kernel_rfl
theorem cI64 : Tryz.prog.cellsOf 2 = 1 := by kernel_rfl
theorem tnOf {W : World} {rest : List (String × DataW Unit)} (h : laidMet Tryz.prog (("tollbook/decimal.tens", Rows.laid_tollbook_decimal_tens) :: rest) W) : Tn W :=
  Go.Lib.tabIs_of_head (zs := [1, 10, 100, 1000, 10000, 100000, 1000000, 10000000, 100000000, 1000000000]) gTens gTensT Tryz.underlying101 Tryz.underlying2 cI64 cTens h
end Go.Proofs.YtebbblhafjaaiaaGreatDoor
