/-
  What the rows' lists of variables give: the table of the powers of ten of strconv.
-/
import Derived.Test.YtpfbcicjfnfpgaaDoorRows
import Derived.Test.YtpfbcicjfnfpgaaDoorFmt10
import Derived.Lib.LaidTab
import Derived.Stop.LaidErr
namespace Go.Proofs.YtpfbcicjfnfpgaaDoor
open Go.RowKit Go.Shelf
set_option linter.unusedVariables false

theorem gPow : Tryd.prog.globalNamed "internal/strconv.uint64pow10" = some 1 := by kernel_rfl
theorem gPowT : (Tryd.prog.globals[1]?).map (·.type) = some 106 := by kernel_rfl
theorem cPow : Tryd.prog.cellsOf 106 = 20 := by kernel_rfl
theorem cU64 : Tryd.prog.cellsOf 43 = 1 := by kernel_rfl
theorem ptOf {W : World} {rest : List (String × DataW Unit)} (h : laidMet Tryd.prog (("internal/strconv.uint64pow10", Rows.laid_internal_strconv_uint64pow10) :: rest) W) : Pt W :=
  Go.Lib.tabIs_of_head (zs := Go.Lib.pow10Tab) gPow gPowT Tryd.underlying106 Tryd.underlying43 cU64 cPow h
end Go.Proofs.YtpfbcicjfnfpgaaDoor
