/-
  The walks of CalMonths and CalPeriods.
-/
import Derived.Test.YtlebkdmkofgdpaaDoorBckWA
import Derived.Test.YtlebkdmkofgdpaaDoorCr3
namespace Go.Proofs.YtlebkdmkofgdpaaDoor
open Go.RowKit Go.Shelf
set_option linter.unusedVariables false

theorem rmonths_any {d y m k : Int} (hD : Dt d y m k) (n : Int) (w : World) :
    Calls Tryd.prog 22 #[.int .i64 d, .int .i64 n] w fun e w' => e = .returned (MoV (ser y m + n) k) ∧ w' = w := by
  by_cases h : n < -200000 ∨ 200000 < n
  · have b := ser_bd hD
    have e : MoV (ser y m + n) k = .tuple #[.int .i64 0, .int .i64 100] := by unfold MoV; rw [if_neg (by omega)]
    rw [e]
    exact rmonths_far hD n w h
  · exact rmonths_near hD n w (by omega) (by omega)
theorem months_any {d y m k : Int} (hD : Dt d y m k) (n : Int) (w : World) (hT : Tl w) (hn : -9223372036854775808 ≤ n) (hn' : n ≤ 9223372036854775807) :
    Calls Tryd.prog 21 #[.int .i64 d, .int .i64 n] w fun e w' => e = .returned (MoV (ser y m + n) k) ∧ w' = w := by
  by_cases h : 0 ≤ ser y m + n ∧ ser y m + n ≤ 119987
  · rw [show MoV (ser y m + n) k = .tuple #[.int .i64 (moD (ser y m + n) k), .int .i64 0] by unfold MoV; rw [if_pos h]]
    exact months_ok hD n w hT h.1 h.2
  · rw [show MoV (ser y m + n) k = .tuple #[.int .i64 0, .int .i64 100] by unfold MoV; rw [if_neg h]]
    exact months_out hD n w hT hn hn' h
theorem moV_two (s k : Int) : ∃ a b : Int, MoV s k = .tuple #[.int .i64 a, .int .i64 b] := by
  unfold MoV
  split
  · exact ⟨_, _, rfl⟩
  · exact ⟨_, _, rfl⟩
set_option maxHeartbeats 1000000 in
theorem months_walk (n m : Int) (w : World) (n1 : -9223372036854775808 ≤ n) (n2 : n ≤ 9223372036854775807) (m1 : -9223372036854775808 ≤ m) (m2 : m ≤ 9223372036854775807) (hT : Tl w) :
    Calls Tryd.prog 7 #[.int .i64 n, .int .i64 m] w fun e w' => e = .returned (.bool true) ∧ Below w.heap.size w w' := by
  have aw := awake_any w hT
  have hab : ∃ a b : Int, (Calls Tryd.prog 21 #[.int .i64 n, .int .i64 m] w fun e w' => e = .returned (.tuple #[.int .i64 a, .int .i64 b]) ∧ w' = w) ∧ (Calls Tryd.prog 22 #[.int .i64 n, .int .i64 m] w fun e w' => e = .returned (.tuple #[.int .i64 a, .int .i64 b]) ∧ w' = w) := by
    by_cases h : 0 ≤ n ∧ n ≤ 3652058
    · obtain ⟨y, q, k, hD⟩ := dt_any h.1 h.2
      obtain ⟨a, b, e⟩ := moV_two (ser y q + m) k
      refine ⟨a, b, ?_, ?_⟩
      · rw [← e]; exact months_any hD m w hT m1 m2
      · rw [← e]; exact rmonths_any hD m w
    · exact ⟨0, 100, months_no n m w h, rmonths_no n m w h⟩
  obtain ⟨a, b, c1, c2⟩ := hab
  clear hT
  go_enter Tryd.func7, Tryd.ntmps7
  go_wp2_with (first
    | (go_at_call 21; refine c1.mono ?_; rintro e w2 ⟨rfl, rfl⟩)
    | (go_at_call 22; refine c2.mono ?_; rintro e w2 ⟨rfl, rfl⟩)
    | (go_at_call 13; refine aw.mono ?_; rintro e w2 ⟨rfl, rfl⟩))
  go_ret
  exact ⟨rfl, Below.refl _ _⟩
set_option maxHeartbeats 1000000 in
theorem periods_walk (n p : Int) (w : World) (n1 : -9223372036854775808 ≤ n) (n2 : n ≤ 9223372036854775807) (p1 : -9223372036854775808 ≤ p) (p2 : p ≤ 9223372036854775807) (hT : Tl w) :
    Calls Tryd.prog 8 #[.int .i64 n, .int .i64 p] w fun e w' => e = .returned (.bool true) ∧ Below w.heap.size w w' := by
  have hab : ∃ a b c : Int, (Calls Tryd.prog 11 #[.int .i64 n, .int .i64 p] w fun e w' => e = .returned (.tuple #[.agg #[.int .i64 a, .int .i64 b], .int .i64 c]) ∧ Below w.heap.size w w') ∧ (∀ W, Calls Tryd.prog 23 #[.int .i64 n, .int .i64 p] W fun e w' => e = .returned (.tuple #[.agg #[.int .i64 a, .int .i64 b], .int .i64 c]) ∧ Below W.heap.size W w') := by
    by_cases h : 0 ≤ n ∧ n ≤ 3652058
    · obtain ⟨y, q, k, hD⟩ := dt_any h.1 h.2
      by_cases hp : p = 1 ∨ p = 2 ∨ p = 3
      · exact ⟨_, _, _, period_yes hD p w hT hp, fun W => rperiod_yes hD p W hp⟩
      · exact ⟨_, _, _, period_arg hD p w hT (by omega) (by omega) (by omega), fun W => rperiod_arg hD p W (by omega) (by omega) (by omega)⟩
    · exact ⟨_, _, _, period_no n p w h, fun W => rperiod_no n p W h⟩
  obtain ⟨a, b, c, c1, c2⟩ := hab
  have aw := fun W h => awake_any W h
  have HT : Hid (Tl w) := hT
  clear hT
  go_enter Tryd.func8, Tryd.ntmps8
  go_wp2_with fail
  go_at_call 11
  refine c1.mono ?_
  rintro e w3 ⟨rfl, hb3⟩
  have HB3 : Hid (Below _ _ _) := hb3
  clear hb3 c1
  go_wp2_with fail
  refine ent1 w3 _ _ (Q := fun W => Calls Tryd.prog _ _ W _) ?_
  intro x0 B0 hs0 V0
  have HB0 : Hid (Below _ _ _) := step HB3.out B0
  clear HB3 B0 hs0
  refine (c2 _).mono ?_
  rintro e w5 ⟨rfl, hb5⟩
  have V5 := Va.after hb5 V0
  have HB5 : Hid (Below _ _ _) := step HB0.out hb5
  have d0 : w5.cell? ⟨w3.heap.size, 0, none⟩ = some (.int .i64 a) := V5.cellAt 0
  have d1 : w5.cell? ⟨w3.heap.size, 1, none⟩ = some (.int .i64 b) := V5.cellAt 1
  have lt5 := V5.lt
  clear V5 hb5 V0 HB0
  go_wp2_with fail
  go_at_call 13
  refine (aw _ (HT.out.to (HB5.out.alloc HB5.out.size _))).mono ?_
  rintro e w6 ⟨rfl, rfl⟩
  go_wp2_with fail
  go_ret
  exact ⟨rfl, HB5.out.alloc HB5.out.size _⟩
end Go.Proofs.YtlebkdmkofgdpaaDoor
