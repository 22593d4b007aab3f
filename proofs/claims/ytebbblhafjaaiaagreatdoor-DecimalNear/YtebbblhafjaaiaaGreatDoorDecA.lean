/-
  awake of the statements of layer 6.
-/
import Derived.Test.YtebbblhafjaaiaaGreatDoorMgAk
import Derived.Test.YtebbblhafjaaiaaGreatDoorMgAs
namespace Go.Proofs.YtebbblhafjaaiaaGreatDoor
open Go.RowKit Go.Shelf
set_option linter.unusedVariables false

theorem aw1 : readL [45, 50, 46, 53, 48] = (-25, 1, 0, 0) := by decide
theorem aw2 : readL [53, 46, 120] = (0, 0, 2, 60) := by decide
theorem aw3 : dtx (-5) 2 = [45, 48, 46, 48, 53] := by
  unfold dtx
  rw [show Int.natAbs (-5) = 5 from rfl, Go.Lib.decDigits_one (by omega)]
  decide
set_option maxHeartbeats 4000000 in
theorem awake6 (w : World) (hT : Pt w) : Calls Tryz.prog 17 #[] w fun e W' => e = .returned (.bool true) ∧ Below w.heap.size w W' := by
  have p1 := parse_dec [45, 50, 46, 53, 48] (by decide)
  rw [aw1] at p1
  have p2 := parse_dec [53, 46, 120] (by decide)
  rw [aw2] at p2
  have HT : Hid (Pt w) := hT
  clear hT
  have B0 : Below w.heap.size w w := Below.refl _ _
  go_enter Tryz.func17, Tryz.ntmps17
  go_wp2_with fail
  refine (p1 _).mono ?_
  rintro e x1 ⟨rfl, hb⟩
  replace B0 := step B0 hb
  clear hb
  go_wp2_with fail
  refine ent1 x1 _ _ (Q := fun W => Calls Tryz.prog _ _ W _) ?_
  intro x2 hb hs_x2 V0
  replace B0 := step B0 hb
  clear hb hs_x2
  have t1 := dtext_ok (-5) 2 (by omega) (by omega) ⟨by omega, fun _ => by decide⟩ x2 (HT.out.to B0)
  rw [aw3] at t1
  refine (t1).mono ?_
  rintro e x3 ⟨rfl, hb⟩
  replace V0 := Va.after hb V0
  replace B0 := step B0 hb
  clear hb
  have c_V0 := V0.c0
  have f0_V0 := V0.frozen 0
  have d_V0 := V0.c1
  have f1_V0 := V0.frozen 1
  have l_V0 := V0.lt
  have m_V0 := Nat.le_of_lt l_V0
  go_wp2_with fail
  refine (p2 _).mono ?_
  rintro e x4 ⟨rfl, hb⟩
  replace V0 := Va.after hb V0
  replace B0 := step B0 hb
  clear hb
  clear c_V0 f0_V0 d_V0 f1_V0 l_V0 m_V0
  have c_V0 := V0.c0
  have f0_V0 := V0.frozen 0
  have d_V0 := V0.c1
  have f1_V0 := V0.frozen 1
  have l_V0 := V0.lt
  have m_V0 := Nat.le_of_lt l_V0
  go_wp2_with fail
  refine ent1 x4 _ _ (Q := fun W => Calls Tryz.prog _ _ W _) ?_
  intro x5 hb hs_x5 V1
  replace V0 := Va.after hb V0
  replace B0 := step B0 hb
  clear hb hs_x5
  refine (check_no 20 1 (fun h => h.2.2 (by omega) rfl) _).mono ?_
  rintro e x6 ⟨rfl, hb⟩
  replace V0 := Va.after hb V0
  replace V1 := Va.after hb V1
  replace B0 := step B0 hb
  clear hb
  clear c_V0 f0_V0 d_V0 f1_V0 l_V0 m_V0
  go_wp2_with fail
  go_ret
  exact ⟨rfl, B0⟩
end Go.Proofs.YtebbblhafjaaiaaGreatDoor
