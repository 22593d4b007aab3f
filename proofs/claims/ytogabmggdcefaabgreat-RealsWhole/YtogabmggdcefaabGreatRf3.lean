/-
  What RealsRounds looks at, in numbers.
-/
import Derived.Test.YtogabmggdcefaabGreatBrC
namespace Go.Proofs.YtogabmggdcefaabGreat
open Go.RowKit Go.Shelf
set_option linter.unusedVariables false

theorem feq {x y : Nat} (hx : Fr x) (hy : Fr y) (h : fz x = fz y) : (FloatKind.f64.format.order x y == some .eq) = true := by
  rw [float_eq hx hy]; exact decide_eq_true h
end Go.Proofs.YtogabmggdcefaabGreat
