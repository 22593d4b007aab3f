/-
  The document's Finite, and what x + 0 is.
-/
import Derived.Test.YtogabmggdcefaabGreatRf3
namespace Go.Proofs.YtogabmggdcefaabGreat
open Go.RowKit Go.Shelf
set_option linter.unusedVariables false

end Go.Proofs.YtogabmggdcefaabGreat
