/-
  reals.Compare, Next, Int64.
-/
import Derived.Test.YtogabmggdcefaabGreatRe7
import Derived.Test.YtogabmggdcefaabGreatWh8a
namespace Go.Proofs.YtogabmggdcefaabGreat
open Go.RowKit Go.Shelf
set_option linter.unusedVariables false

theorem qcmp_fv (x : Nat) (v : Rat) : qcmp (fv x) v = cmp3 (fz x * (v.den : Int)) (v.num * (K8 : Int)) := by
  have h := @fv_lt x v
  unfold qcmp cmp3
  have h3 : v.num * ((fv x).den : Int) < (fv x).num * (v.den : Int) ↔ v.num * (K8 : Int) < fz x * (v.den : Int) := by
    generalize (fv x).num * (v.den : Int) = A at *
    generalize v.num * ((fv x).den : Int) = B at *
    generalize fz x * (v.den : Int) = C at *
    generalize v.num * (K8 : Int) = D at *
    omega
  simp only [h.1, h3]
/-- The next float, up or down. -/
def nx (x : Nat) (up : Bool) : Nat := if x % 9223372036854775808 = 0 then wd (!up) 1 else if up = fsg x then x - 1 else if x % 9223372036854775808 = 9218868437227405312 then x else x + 1
end Go.Proofs.YtogabmggdcefaabGreat
