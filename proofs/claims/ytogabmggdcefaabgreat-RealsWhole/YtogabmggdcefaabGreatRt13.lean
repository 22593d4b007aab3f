/-
 rat.Floor, Ceil.
-/
import Derived.Test.YtogabmggdcefaabGreatRt13p
namespace Go.Proofs.YtogabmggdcefaabGreat
open Go.RowKit Go.Shelf
set_option linter.unusedVariables false

end Go.Proofs.YtogabmggdcefaabGreat
