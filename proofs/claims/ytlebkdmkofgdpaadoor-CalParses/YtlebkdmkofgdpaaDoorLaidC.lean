/-
  What the rows' lists of variables give: the lengths of the months, the powers of ten of strconv.
-/
import Derived.Test.YtlebkdmkofgdpaaDoorRows
import Derived.Test.YtlebkdmkofgdpaaDoorCa4
import Derived.Lib.LaidTab
import Derived.Stop.LaidErr
namespace Go.Proofs.YtlebkdmkofgdpaaDoor
open Go.RowKit Go.Shelf
set_option linter.unusedVariables false

theorem gTlT : (Tryd.prog.globals[0]?).map (·.type) = some 51 := by kernel_rfl
theorem cTl : Tryd.prog.cellsOf 51 = 13 := by kernel_rfl
theorem cInt : Tryd.prog.cellsOf 3 = 1 := by kernel_rfl
theorem tlOf {W : World} {rest : List (String × DataW Unit)} (h : laidMet Tryd.prog (("tollbook/calendar.lengths", Rows.laid_tollbook_calendar_lengths) :: rest) W) : Tl W :=
  Go.Lib.tabIs_of_head (zs := [0, 31, 28, 31, 30, 31, 30, 31, 31, 30, 31, 30, 31]) gTl gTlT Tryd.underlying51 Tryd.underlying3 cInt cTl h
theorem gPow : Tryd.prog.globalNamed "internal/strconv.uint64pow10" = some 1 := by kernel_rfl
theorem gPowT : (Tryd.prog.globals[1]?).map (·.type) = some 86 := by kernel_rfl
theorem cPow : Tryd.prog.cellsOf 86 = 20 := by kernel_rfl
theorem cU64 : Tryd.prog.cellsOf 72 = 1 := by kernel_rfl
theorem ptOf {W : World} {rest : List (String × DataW Unit)} (h : laidMet Tryd.prog (("internal/strconv.uint64pow10", Rows.laid_internal_strconv_uint64pow10) :: rest) W) : Pt W :=
  Go.Lib.tabIs_of_head (zs := Go.Lib.pow10Tab) gPow gPowT Tryd.underlying86 Tryd.underlying72 cU64 cPow h
theorem ba_eta (s : ByteArray) : (⟨s.data.toList.toArray⟩ : ByteArray) = s := by simp
theorem b64_of_wf {x : Int} (h : (Lit.int .i64 x).wf = true) : -9223372036854775808 ≤ x ∧ x ≤ 9223372036854775807 := by
  simp [Lit.wf, IntKind.min, IntKind.max, IntKind.signed, IntKind.bits] at h
  exact ⟨by omega, by omega⟩
end Go.Proofs.YtlebkdmkofgdpaaDoor
