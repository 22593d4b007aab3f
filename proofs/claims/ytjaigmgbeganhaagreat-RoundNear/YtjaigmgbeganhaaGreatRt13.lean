/-
 rat.Floor, Ceil.
-/
import Derived.Test.YtjaigmgbeganhaaGreatRt13p
namespace Go.Proofs.YtjaigmgbeganhaaGreat
open Go.RowKit Go.Shelf
set_option linter.unusedVariables false

end Go.Proofs.YtjaigmgbeganhaaGreat
