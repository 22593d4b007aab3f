/-
  Lists that are lent with marks behind their ends, and whether they are still as they were.
-/
import Derived.Test.YtogabmggdcefaabGreatBsJ
import Derived.Test.YtogabmggdcefaabGreatBsE
import Derived.Deep.RegionWith
namespace Go.Proofs.YtogabmggdcefaabGreat
open Go.RowKit Go.Shelf

/-- The marks. -/
def marks : Nat → List Int
  | 0 => []
  | k + 1 => marks k ++ [8000024 + (k : Int)]
end Go.Proofs.YtogabmggdcefaabGreat
