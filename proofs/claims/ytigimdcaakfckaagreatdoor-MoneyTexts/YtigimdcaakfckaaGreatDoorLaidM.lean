/-
  What the rows' lists of variables give: the table of the powers of ten of money.
-/
import Derived.Test.YtigimdcaakfckaaGreatDoorLaidP
import Derived.Test.YtigimdcaakfckaaGreatDoorMy4
namespace Go.Proofs.YtigimdcaakfckaaGreatDoor
open Go.RowKit Go.Shelf
set_option linter.unusedVariables false

theorem gTmT : (Tryz.prog.globals[0]?).map (·.type) = some 94 := by kernel_rfl
theorem cTm : Tryz.prog.cellsOf 94 = 5 := by kernel_rfl
theorem cI64m : Tryz.prog.cellsOf 2 = 1 := by kernel_rfl
theorem tmOf {W : World} {rest : List (String × DataW Unit)} (h : laidMet Tryz.prog (("tollbook/money.tens", Rows.laid_tollbook_money_tens) :: rest) W) : Tm W :=
  Go.Lib.tabIs_of_head (zs := [1, 10, 100, 1000, 10000]) gTm gTmT Tryz.underlying94 Tryz.underlying2 cI64m cTm h
theorem ba_eta (s : ByteArray) : (⟨s.data.toList.toArray⟩ : ByteArray) = s := by simp
theorem b64_of_wf {x : Int} (h : (Lit.int .i64 x).wf = true) : -9223372036854775808 ≤ x ∧ x ≤ 9223372036854775807 := by
  simp [Lit.wf, IntKind.min, IntKind.max, IntKind.signed, IntKind.bits] at h
  exact ⟨by omega, by omega⟩
end Go.Proofs.YtigimdcaakfckaaGreatDoor
