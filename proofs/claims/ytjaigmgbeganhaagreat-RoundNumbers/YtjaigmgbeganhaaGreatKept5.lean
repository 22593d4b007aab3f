/-
  Whether what was lent is still as it was.
-/
import Derived.Test.YtjaigmgbeganhaaGreatLent5
namespace Go.Proofs.YtjaigmgbeganhaaGreat
open Go.RowKit Go.Shelf

end Go.Proofs.YtjaigmgbeganhaaGreat
