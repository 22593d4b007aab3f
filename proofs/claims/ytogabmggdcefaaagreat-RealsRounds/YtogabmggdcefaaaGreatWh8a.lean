/-
  Int64 of the program.
-/
import Derived.Test.YtogabmggdcefaaaGreatBsM
import Derived.Test.YtogabmggdcefaaaGreatBsH
namespace Go.Proofs.YtogabmggdcefaaaGreat
open Go.RowKit Go.Shelf
set_option linter.unusedVariables false


end Go.Proofs.YtogabmggdcefaaaGreat
