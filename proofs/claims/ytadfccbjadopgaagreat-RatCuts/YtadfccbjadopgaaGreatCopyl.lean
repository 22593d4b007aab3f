/-
  CopyLimbs.
-/
import Derived.Test.YtadfccbjadopgaaGreatBsI
namespace Go.Proofs.YtadfccbjadopgaaGreat
open Go.RowKit Go.Shelf
set_option linter.unusedVariables false

end Go.Proofs.YtadfccbjadopgaaGreat
