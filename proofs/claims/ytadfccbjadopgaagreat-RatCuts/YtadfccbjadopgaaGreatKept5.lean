/-
  Whether what was lent is still as it was.
-/
import Derived.Test.YtadfccbjadopgaaGreatLent5
namespace Go.Proofs.YtadfccbjadopgaaGreat
open Go.RowKit Go.Shelf

end Go.Proofs.YtadfccbjadopgaaGreat
