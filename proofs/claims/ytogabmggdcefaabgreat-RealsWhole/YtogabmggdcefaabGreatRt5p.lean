/-
  What a sum goes by.
-/
import Derived.Test.YtogabmggdcefaabGreatRt4
namespace Go.Proofs.YtogabmggdcefaabGreat
open Go.RowKit Go.Shelf
set_option linter.unusedVariables false

theorem two_pw (n : Nat) : 2 * pw n ≤ pw (n + 1) := by
  show _ ≤ 18446744073709551616 * pw n
  have := pw_pos n
  omega
end Go.Proofs.YtogabmggdcefaabGreat
