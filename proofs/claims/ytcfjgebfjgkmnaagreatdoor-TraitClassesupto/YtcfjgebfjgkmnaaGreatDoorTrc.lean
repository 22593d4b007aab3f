/-
  traits.fold at forms: the closure that goes down, fold, Plain.
-/
import Derived.Test.YtcfjgebfjgkmnaaGreatDoorTrb
namespace Go.Proofs.YtcfjgebfjgkmnaaGreatDoor
open Go.RowKit Go.Shelf
set_option linter.unusedVariables false

theorem fl_app (neg : Bool) : ∀ a b : Fo, (a.app b).fl neg = a.fl neg ++ b.fl neg
  | .nil, b => rfl
  | .cons n k r, b => by simp only [Fo.app, Fo.fl, fl_app neg r b, List.cons_append]
/-- How down ends. -/
def DfE (BB : Nat) (ns : List Nd) (bat : Nat) (y n : List Nd) (p : Nat) (w : World) (e : Ending) (w' : World) : Prop := ∃ x : Fm, e = .returned (fmv x) ∧ FmR BB w' x y n ∧ p ≤ ns.length ∧ Va w' bat 3 #[.int .i64 p] ∧ w.grownBy w' (some bat)
end Go.Proofs.YtcfjgebfjgkmnaaGreatDoor
