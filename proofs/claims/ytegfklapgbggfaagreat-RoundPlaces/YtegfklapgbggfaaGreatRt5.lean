/-
 rat.Add, Sub.
-/
import Derived.Test.YtegfklapgbggfaaGreatRt5p
import Derived.Test.YtegfklapgbggfaaGreatAl
namespace Go.Proofs.YtegfklapgbggfaaGreat
open Go.RowKit Go.Shelf
set_option linter.unusedVariables false

end Go.Proofs.YtegfklapgbggfaaGreat
