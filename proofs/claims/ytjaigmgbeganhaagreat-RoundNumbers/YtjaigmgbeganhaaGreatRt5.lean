/-
 rat.Add, Sub.
-/
import Derived.Test.YtjaigmgbeganhaaGreatRt5p
import Derived.Test.YtjaigmgbeganhaaGreatAl
namespace Go.Proofs.YtjaigmgbeganhaaGreat
open Go.RowKit Go.Shelf
set_option linter.unusedVariables false

end Go.Proofs.YtjaigmgbeganhaaGreat
