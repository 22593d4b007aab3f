/-
 rat.Add, Sub.
-/
import Derived.Test.YtmhfoeooccppfaaGreatRt5p
import Derived.Test.YtmhfoeooccppfaaGreatAl
namespace Go.Proofs.YtmhfoeooccppfaaGreat
open Go.RowKit Go.Shelf
set_option linter.unusedVariables false

end Go.Proofs.YtmhfoeooccppfaaGreat
