/-
  A variable of several cells; money's reader: fixed, farthest, digit.
-/
import Derived.Test.YtigimdcaakfckaaGreatDoorMy1
namespace Go.Proofs.YtigimdcaakfckaaGreatDoor
open Go.RowKit Go.Shelf
set_option linter.unusedVariables false

theorem Va.seti {w : World} {b : Nat} {t : TypeId} {cs : Array Value} (h : Va w b t cs) (i : Nat) (v' : Value) : Va (w.setCell ⟨b, i, none⟩ v') b t (cs.setIfInBounds i v') := by
  unfold Va at *
  simp only [World.setCell]
  rw [Array.getElem?_modify, if_pos rfl, h]
  simp
theorem far9 (b : Nat) (s a d f : Value) (neg : Bool) (w : World) (h : Va w b 126 #[s, a, d, .bool neg, f]) : Calls Tryz.prog 163 #[.pointer (some ⟨b, 0, none⟩)] w fun e w' => e = .returned (.int .u64 (mostU neg : Int)) ∧ w' = w := by
  have c3 := h.cellAt 3
  cases neg
  · go_enter Tryz.func163, Tryz.ntmps163
    go_wp2_with fail
    go_ret
    exact ⟨rfl, rfl⟩
  · go_enter Tryz.func163, Tryz.ntmps163
    go_wp2_with fail
    go_ret
    exact ⟨rfl, rfl⟩
end Go.Proofs.YtigimdcaakfckaaGreatDoor
