/-
  rat.Floor, Ceil, Frac.
-/
import Derived.Test.YtjaigmgbeganhabGreatRt4
import Derived.Test.YtjaigmgbeganhabGreatAl
import Derived.Test.YtjaigmgbeganhabGreatWh4
namespace Go.Proofs.YtjaigmgbeganhabGreat
open Go.RowKit Go.Shelf
set_option linter.unusedVariables false

/-- What Floor and Ceil answer. -/
def FlP (w : World) (x : Int) (e : Ending) (w' : World) : Prop := ∃ s' a' l' c' zs', e = .returned (.agg #[.bool s', .slice a' l' c']) ∧ It w' s' a' l' c' zs' ∧ iv s' zs' = x ∧ Below w.heap.size w w'
end Go.Proofs.YtjaigmgbeganhabGreat
