/-
  CopyLimbs.
-/
import Derived.Test.YtlcopgmkgphodaaDoorBsI
namespace Go.Proofs.YtlcopgmkgphodaaDoor
open Go.RowKit Go.Shelf
set_option linter.unusedVariables false

end Go.Proofs.YtlcopgmkgphodaaDoor
