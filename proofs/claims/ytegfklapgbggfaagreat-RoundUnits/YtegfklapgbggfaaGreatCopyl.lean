/-
  CopyLimbs.
-/
import Derived.Test.YtegfklapgbggfaaGreatBsI
namespace Go.Proofs.YtegfklapgbggfaaGreat
open Go.RowKit Go.Shelf
set_option linter.unusedVariables false

end Go.Proofs.YtegfklapgbggfaaGreat
