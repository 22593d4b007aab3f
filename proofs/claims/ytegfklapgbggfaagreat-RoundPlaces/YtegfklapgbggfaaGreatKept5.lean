/-
  Whether what was lent is still as it was.
-/
import Derived.Test.YtegfklapgbggfaaGreatLent5
namespace Go.Proofs.YtegfklapgbggfaaGreat
open Go.RowKit Go.Shelf

end Go.Proofs.YtegfklapgbggfaaGreat
