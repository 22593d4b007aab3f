/-
  The document's Finite, and what x + 0 is.
-/
import Derived.Test.YtogabmggdcefaabGreatRf3
namespace Go.Proofs.YtogabmggdcefaabGreat
open Go.RowKit Go.Shelf
set_option linter.unusedVariables false

theorem finite8_yes (x : Nat) (h : x < 18446744073709551616) (hr : x % 9223372036854775808 < 9218868437227405312) (w : World) : Calls Tryz.prog 10 #[.float .f64 x] w fun e w' => e = .returned (.bool true) ∧ Below w.heap.size w w' := by
  have m1 : floatBits .sub .f64 x x = some 0 := sub_self h hr
  have q1 : (FloatKind.f64.format.order 0 0 == some .eq) = true := by decide
  go_enter Tryz.func10, Tryz.ntmps10
  go_wp2_with (simp only [run_float_arith _ _ _ _ _ _ _ m1])
  go_ret
  exact ⟨rfl, Below.refl _ _⟩
theorem sub_drawn (x : Nat) (h : x < 18446744073709551616) (hr : 9218868437227405312 ≤ x % 9223372036854775808) (t : TypeId) (w : World) : ∃ N, (binOp .sub t (.float .f64 x) (.float .f64 x)).run Tryz.prog w = .ok (.float .f64 N) w.drew ∧ 9218868437227405312 < N % 9223372036854775808 ∧ N < 18446744073709551616 := by
  have m1 : FloatKind.f64.format.sub x x = none := sub_self_not h hr
  refine ⟨(Question.nanBits .f64 x x).cut (w.tape w.drawn (.nanBits .f64 x x)), ?_, nan_cut _ _ _⟩
  simp [binOp, Op.floatArith, m1, Question.forced]
theorem finite8_no (x : Nat) (h : x < 18446744073709551616) (hr : 9218868437227405312 ≤ x % 9223372036854775808) (w : World) : Calls Tryz.prog 10 #[.float .f64 x] w fun e w' => e = .returned (.bool false) ∧ Below w.heap.size w w' := by
  obtain ⟨N, e1, e2, e3⟩ := sub_drawn x h hr 24 w
  have q1 : (FloatKind.f64.format.order N 0 == some .eq) = false := float_nan .eq e3 (by decide) (.inl e2)
  go_enter Tryz.func10, Tryz.ntmps10
  go_wp2_with (simp only [e1])
  go_ret
  exact ⟨rfl, (Below.refl _ _).drew⟩
end Go.Proofs.YtogabmggdcefaabGreat
