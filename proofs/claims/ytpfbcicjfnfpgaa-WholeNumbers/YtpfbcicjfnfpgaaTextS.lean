/-
  numeral.Text to the base 10 of a number below 10^19: one piece.
-/
import Derived.Test.YtpfbcicjfnfpgaaTextW
import Derived.Test.YtpfbcicjfnfpgaaReads2
namespace Go.Proofs.Ytpfbcicjfnfpgaa
open Go.RowKit Go.Shelf
set_option linter.unusedVariables false

def oneD (d : Dg) : Nat → Dg
  | 0 => d
  | _ + 1 => d0
end Go.Proofs.Ytpfbcicjfnfpgaa
