/-
  What the rows' lists of variables give: the table of math/bits.
-/
import Derived.Test.YtclefkmhchfkkaaGreatDoorRows
import Derived.Test.YtclefkmhchfkkaaGreatDoorTzP
import Derived.Lib.LaidTab
import Derived.Stop.LaidErr
namespace Go.Proofs.YtclefkmhchfkkaaGreatDoor
open Go.RowKit Go.Shelf
set_option linter.unusedVariables false

theorem gTzT : (Tryz.prog.globals[5]?).map (·.type) = some 143 := by kernel_rfl
theorem cTz : Tryz.prog.cellsOf 143 = 64 := by kernel_rfl
theorem cU8 : Tryz.prog.cellsOf 5 = 1 := by kernel_rfl
theorem tzOf {W : World} {rest : List (String × DataW Unit)} (h : laidMet Tryz.prog (("math/bits.deBruijn64tab", Rows.laid_math_bits_deBruijn64tab) :: rest) W) : Tz W :=
  Go.Lib.tabIs_of_head (zs := tzTab) gTz gTzT Tryz.underlying143 Tryz.underlying5 cU8 cTz h
end Go.Proofs.YtclefkmhchfkkaaGreatDoor
