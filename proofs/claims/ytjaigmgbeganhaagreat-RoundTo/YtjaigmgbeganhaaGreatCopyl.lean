/-
  CopyLimbs.
-/
import Derived.Test.YtjaigmgbeganhaaGreatBsI
namespace Go.Proofs.YtjaigmgbeganhaaGreat
open Go.RowKit Go.Shelf
set_option linter.unusedVariables false

end Go.Proofs.YtjaigmgbeganhaaGreat
