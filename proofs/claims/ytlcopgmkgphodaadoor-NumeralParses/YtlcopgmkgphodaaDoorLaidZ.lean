/-
  What the rows' lists of variables give: the table of math/bits.
-/
import Derived.Test.YtlcopgmkgphodaaDoorRows
import Derived.Test.YtlcopgmkgphodaaDoorTzP
import Derived.Lib.LaidTab
import Derived.Stop.LaidErr
namespace Go.Proofs.YtlcopgmkgphodaaDoor
open Go.RowKit Go.Shelf
set_option linter.unusedVariables false

theorem gTzT : (Tryd.prog.globals[5]?).map (·.type) = some 127 := by kernel_rfl
theorem cTz : Tryd.prog.cellsOf 127 = 64 := by kernel_rfl
theorem cU8 : Tryd.prog.cellsOf 5 = 1 := by kernel_rfl
theorem tzOf {W : World} {rest : List (String × DataW Unit)} (h : laidMet Tryd.prog (("math/bits.deBruijn64tab", Rows.laid_math_bits_deBruijn64tab) :: rest) W) : Tz W :=
  Go.Lib.tabIs_of_head (zs := tzTab) gTz gTzT Tryd.underlying127 Tryd.underlying5 cU8 cTz h
end Go.Proofs.YtlcopgmkgphodaaDoor
