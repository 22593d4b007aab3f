/-
  The walks of CalOf and CalNumbers.
-/
import Derived.Test.YtlebkdmkofgdpaaDoorBckWA
import Derived.Test.YtlebkdmkofgdpaaDoorCr2
namespace Go.Proofs.YtlebkdmkofgdpaaDoor
open Go.RowKit Go.Shelf
set_option linter.unusedVariables false

set_option maxHeartbeats 1000000 in
theorem of_walk (y m k : Int) (w : World) (y1 : -9223372036854775808 ≤ y) (y2 : y ≤ 9223372036854775807) (m1 : -9223372036854775808 ≤ m) (m2 : m ≤ 9223372036854775807) (k1 : -9223372036854775808 ≤ k) (k2 : k ≤ 9223372036854775807) (hT : Tl w) :
    Calls Tryd.prog 4 #[.int .i64 y, .int .i64 m, .int .i64 k] w fun e w' => e = .returned (.bool true) ∧ Below w.heap.size w w' := by
  have aw := awake_any w hT
  by_cases h : Ok3 y m k
  · have a := of_yes y m k w h hT
    have b := rof_yes y m k w h
    generalize ahd y m + (k - 1) = d at *
    clear hT
    go_enter Tryd.func4, Tryd.ntmps4
    go_wp2_with (first
      | (go_at_call 9; refine a.mono ?_; rintro e w2 ⟨rfl, rfl⟩)
      | (go_at_call 12; refine b.mono ?_; rintro e w2 ⟨rfl, rfl⟩)
      | (go_at_call 13; refine aw.mono ?_; rintro e w2 ⟨rfl, rfl⟩))
    go_ret
    exact ⟨rfl, Below.refl _ _⟩
  · have a := of_no y m k w h hT
    have b := rof_no y m k w h
    clear hT
    go_enter Tryd.func4, Tryd.ntmps4
    go_wp2_with (first
      | (go_at_call 9; refine a.mono ?_; rintro e w2 ⟨rfl, rfl⟩)
      | (go_at_call 12; refine b.mono ?_; rintro e w2 ⟨rfl, rfl⟩)
      | (go_at_call 13; refine aw.mono ?_; rintro e w2 ⟨rfl, rfl⟩))
    go_ret
    exact ⟨rfl, Below.refl _ _⟩
set_option maxHeartbeats 1000000 in
theorem numbers_walk (w : World) (hT : Tl w) (hP : Pt w) :
    Calls Tryd.prog 3 #[] w fun e w' => e = .returned (.bool true) ∧ Below w.heap.size w w' := by
  have a := of_yes 9999 12 31 w ⟨by omega, by omega, by omega, by omega, by omega, by decide⟩ hT
  rw [show ahd 9999 12 + (31 - 1) = 3652058 by decide] at a
  have hD : Dt 3652058 9999 12 31 := ⟨by omega, by omega, by omega, by omega, by omega, by decide, by decide⟩
  have b := text_no 3652059 w (by omega)
  have c := fun W h => period_yes hD 1 W h (by omega)
  rw [show ahd 9999 (pFrom 1 12) = 3651694 by decide, show ahd 9999 (pTo 1 12) = 3652059 by decide] at c
  have e := fun W h => period_arg hD 4 W h (by omega) (by omega) (by omega)
  have HT : Hid (Tl w) := hT
  clear hT hP hD
  go_enter Tryd.func3, Tryd.ntmps3
  go_wp2_with (first
    | (go_at_call 9; refine a.mono ?_; rintro e w2 ⟨rfl, rfl⟩)
    | (go_at_call 10; refine b.mono ?_; rintro e w2 ⟨rfl, rfl⟩))
  go_at_call 11
  refine (c _ HT.out).mono ?_
  rintro e w3 ⟨rfl, hb3⟩
  have HB : Hid (Below _ _ _) := hb3
  clear hb3 a b c
  go_wp2_with fail
  refine ent1 w3 _ _ (Q := fun W => Calls Tryd.prog _ _ W _) ?_
  intro x0 B0 hs0 V0
  have HB0 : Hid (Below _ _ _) := step HB.out B0
  clear HB B0 hs0
  refine (e _ (HT.out.to HB0.out)).mono ?_
  rintro e w5 ⟨rfl, hb5⟩
  have V5 := Va.after hb5 V0
  have HB5 : Hid (Below _ _ _) := step HB0.out hb5
  have c0 : w5.cell? ⟨w3.heap.size, 0, none⟩ = some (.int .i64 3651694) := V5.cellAt 0
  have c1 : w5.cell? ⟨w3.heap.size, 1, none⟩ = some (.int .i64 3652059) := V5.cellAt 1
  have lt5 := V5.lt
  clear V5 hb5 V0 HB0
  go_wp2_with fail
  go_ret
  exact ⟨rfl, HB5.out.alloc HB5.out.size _⟩
end Go.Proofs.YtlebkdmkofgdpaaDoor
