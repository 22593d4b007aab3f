/-
  Floats as the walks meet them: comparisons by their numbers; a NaN drawn is a NaN.
-/
import Derived.Test.YtogabmggdcefaaaGreatFlR
import GoSem.Core.Sem
import GoSem.Core.Float
namespace Go.Proofs.YtogabmggdcefaaaGreat
open Go
set_option linter.unusedVariables false

theorem f64_format : FloatKind.f64.format = Ieee.double := rfl
theorem float_lt {x y : Nat} (hx : Fr x) (hy : Fr y) : (FloatKind.f64.format.order x y == some .lt) = decide (fz x < fz y) := by
  rw [f64_format, order_fz hx hy]
  by_cases h : fz x < fz y
  · simp [compare, compareOfLessAndEq, h]
  · by_cases g : fz x = fz y
    · simp [compare, compareOfLessAndEq, g]
    · simp [compare, compareOfLessAndEq, h, g]
theorem float_eq {x y : Nat} (hx : Fr x) (hy : Fr y) : (FloatKind.f64.format.order x y == some .eq) = decide (fz x = fz y) := by
  rw [f64_format, order_fz hx hy]
  by_cases h : fz x < fz y
  · have : fz x ≠ fz y := by omega
    simp [compare, compareOfLessAndEq, h, this]
  · by_cases g : fz x = fz y
    · simp [compare, compareOfLessAndEq, g]
    · simp [compare, compareOfLessAndEq, h, g]
theorem float_gt {x y : Nat} (hx : Fr x) (hy : Fr y) : (FloatKind.f64.format.order x y == some .gt) = decide (fz y < fz x) := by
  rw [f64_format, order_fz hx hy]
  by_cases h : fz x < fz y
  · have : ¬ fz y < fz x := by omega
    simp [compare, compareOfLessAndEq, h, this]
  · by_cases g : fz x = fz y
    · simp [compare, compareOfLessAndEq, g]
    · have : fz y < fz x := by omega
      simp [compare, compareOfLessAndEq, h, g, this]
theorem float_nan {x y : Nat} (o : Ordering) (lx : x < 18446744073709551616) (ly : y < 18446744073709551616) (h : 9218868437227405312 < x % 9223372036854775808 ∨ 9218868437227405312 < y % 9223372036854775808) : (FloatKind.f64.format.order x y == some o) = false := by
  rw [f64_format, order_nan lx ly h]; rfl
theorem nan_cut (x y t : Nat) : 9218868437227405312 < (Question.nanBits .f64 x y).cut t % 9223372036854775808 ∧ (Question.nanBits .f64 x y).cut t < 18446744073709551616 := by
  have e : (Question.nanBits .f64 x y).cut t = (t % 2) * 9223372036854775808 + 9218868437227405312 + 1 + (t / 2) % 4503599627370495 := by
    simp [Question.cut]
  rw [e]
  have h1 : t % 2 = 0 ∨ t % 2 = 1 := by omega
  have h2 := Nat.mod_lt (t / 2) (show 4503599627370495 > 0 by decide)
  generalize t / 2 % 4503599627370495 = u at *
  rcases h1 with h1 | h1 <;> rw [h1] <;> omega
end Go.Proofs.YtogabmggdcefaaaGreat
