/-
 rat.Add, Sub.
-/
import Derived.Test.YtogabmggdcefaabGreatRt5p
import Derived.Test.YtogabmggdcefaabGreatAl
namespace Go.Proofs.YtogabmggdcefaabGreat
open Go.RowKit Go.Shelf
set_option linter.unusedVariables false

end Go.Proofs.YtogabmggdcefaabGreat
