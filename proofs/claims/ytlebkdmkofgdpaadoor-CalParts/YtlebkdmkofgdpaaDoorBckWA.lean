/-
  What the statements of calendar share (Pick, day, awake); the walk of CalBack.
-/
import Derived.Test.YtlebkdmkofgdpaaDoorCa5
namespace Go.Proofs.YtlebkdmkofgdpaaDoor
open Go.RowKit Go.Shelf
set_option linter.unusedVariables false

theorem awake_any (w : World) (hT : Tl w) : Calls Tryd.prog 13 #[] w fun e w' => e = .returned (.bool true) ∧ w' = w := by
  have oy := of_yes 2024 1 31 w ⟨by omega, by omega, by omega, by omega, by omega, by decide⟩ hT
  rw [show ahd 2024 1 + (31 - 1) = 738915 by decide] at oy
  go_enter Tryd.func13, Tryd.ntmps13
  go_wp2_with (go_at_call 9; refine oy.mono ?_; rintro e w2 ⟨rfl, rfl⟩)
  go_ret
  exact ⟨rfl, rfl⟩
end Go.Proofs.YtlebkdmkofgdpaaDoor
