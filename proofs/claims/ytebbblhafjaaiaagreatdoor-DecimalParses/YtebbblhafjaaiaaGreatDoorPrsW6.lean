/-
  The walk of DecimalParses: each call by its contract.
-/
import Derived.Test.YtebbblhafjaaiaaGreatDoorDp2
import Derived.Test.YtebbblhafjaaiaaGreatDoorDecA
namespace Go.Proofs.YtebbblhafjaaiaaGreatDoor
open Go.RowKit Go.Shelf
set_option linter.unusedVariables false

set_option maxHeartbeats 4000000 in
set_option maxRecDepth 8000 in
theorem dparses_walk (l : List UInt8) (hl : l.length ≤ 140737488351232) (w : World) (hPt : Pt w) :
    Calls Tryz.prog 4 #[.string ⟨l.toArray⟩] w fun e W' => e = .returned (.bool true) ∧ Below w.heap.size w W' := by
  have HPt : Hid (Pt w) := hPt
  clear hPt
  have hp := parse_dec l (by omega)
  have hq := rparse6 l (by omega)
  obtain ⟨⟨U, P, A, E⟩, hr⟩ : ∃ p, readL l = p := ⟨_, rfl⟩
  rw [hr] at hp hq
  simp only at hp hq
  have b1 : (U == U) = true := beq_self_eq_true U
  have b2 : ((P : Int) == P) = true := beq_self_eq_true _
  have b3 : ((A : Int) == A) = true := beq_self_eq_true _
  have b4 : (E == E) = true := beq_self_eq_true E
  clear hr
  have B0 : Below w.heap.size w w := Below.refl _ _
  go_enter Tryz.func4, Tryz.ntmps4
  go_wp2_with fail
  refine (hq _).mono ?_
  rintro e x1 ⟨rfl, hb⟩
  replace B0 := step B0 hb
  clear hb hq
  go_wp2_with fail
  refine ent1 x1 _ _ (Q := fun W => Calls Tryz.prog _ _ W _) ?_
  intro x2 hb hs_x2 V0
  replace B0 := step B0 hb
  clear hb hs_x2
  refine (hp _).mono ?_
  rintro e x3 ⟨rfl, hb⟩
  replace V0 := Va.after hb V0
  replace B0 := step B0 hb
  clear hb hp
  have c_V0 := V0.c0
  have f0_V0 := V0.frozen 0
  have d_V0 := V0.c1
  have f1_V0 := V0.frozen 1
  have l_V0 := V0.lt
  have m_V0 := Nat.le_of_lt l_V0
  go_wp2_with fail
  refine ent1 x3 _ _ (Q := fun W => Calls Tryz.prog _ _ W _) ?_
  intro x4 hb hs_x4 V1
  replace B0 := step B0 hb
  clear hb hs_x4
  refine (awake6 _ (HPt.out.to B0)).mono ?_
  rintro e x5 ⟨rfl, hb⟩
  replace B0 := step B0 hb
  clear hb
  go_wp2_with fail
  go_ret
  exact ⟨rfl, B0⟩
end Go.Proofs.YtebbblhafjaaiaaGreatDoor
