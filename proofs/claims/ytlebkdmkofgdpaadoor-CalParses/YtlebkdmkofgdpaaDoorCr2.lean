/-
  The document's calendar: Of, There, Parts, Weekday.
-/
import Derived.Test.YtlebkdmkofgdpaaDoorCr1
namespace Go.Proofs.YtlebkdmkofgdpaaDoor
open Go.RowKit
set_option linter.unusedVariables false

set_option maxHeartbeats 1000000 in
theorem rof_yes (y m k : Int) (w : World) (h : Ok3 y m k) :
    Calls Tryd.prog 12 #[.int .i64 y, .int .i64 m, .int .i64 k] w fun e w' => e = .returned (.tuple #[.int .i64 (ahd y m + (k - 1)), .int .i64 0]) ∧ w' = w := by
  obtain ⟨y1, y2, m1, m2, k1, k2⟩ := h
  have la := rdays_any y m w (by omega) (by omega)
  have fa := rahead_any y.toNat m.toNat w (by omega) (by omega) (by omega) (by omega)
  rw [show ((y.toNat : Nat) : Int) = y by omega, show ((m.toNat : Nat) : Int) = m by omega] at fa
  have hd := dim_bd y m
  have ha := ahd_bd (y := y) (m := m) y1 y2 m1 (by omega)
  go_enter Tryd.func12, Tryd.ntmps12
  go_wp2_with (first
    | (go_at_call 27; refine la.mono ?_; rintro e w2 ⟨rfl, rfl⟩)
    | (go_at_call 28; refine fa.mono ?_; rintro e w2 ⟨rfl, rfl⟩))
  go_ret2
  exact ⟨by rw [show ahd y m + (k - 1) = ahd y m + k - 1 by omega]; rfl, rfl⟩
set_option maxHeartbeats 1000000 in
theorem rof_no (y m k : Int) (w : World) (h : ¬ Ok3 y m k) :
    Calls Tryd.prog 12 #[.int .i64 y, .int .i64 m, .int .i64 k] w fun e w' => e = .returned (.tuple #[.int .i64 0, .int .i64 100]) ∧ w' = w := by
  by_cases h1 : 1 ≤ y
  · by_cases h2 : y ≤ 9999
    · by_cases h3 : 1 ≤ m
      · by_cases h4 : m ≤ 12
        · have la := rdays_any y m w (by omega) (by omega)
          by_cases h5 : 1 ≤ k
          · have h6 : ¬ k ≤ dim y m := fun h' => h ⟨h1, h2, h3, h4, h5, h'⟩
            go_enter Tryd.func12, Tryd.ntmps12
            go_wp2_with (go_at_call 27; refine la.mono ?_; rintro e w2 ⟨rfl, rfl⟩)
            go_ret2
            exact ⟨rfl, rfl⟩
          · go_enter Tryd.func12, Tryd.ntmps12
            go_wp2_with (go_at_call 27; refine la.mono ?_; rintro e w2 ⟨rfl, rfl⟩)
            go_ret2
            exact ⟨rfl, rfl⟩
        · go_enter Tryd.func12, Tryd.ntmps12
          go_wp2
          go_ret2
          exact ⟨rfl, rfl⟩
      · go_enter Tryd.func12, Tryd.ntmps12
        go_wp2
        go_ret2
        exact ⟨rfl, rfl⟩
    · go_enter Tryd.func12, Tryd.ntmps12
      go_wp2
      go_ret2
      exact ⟨rfl, rfl⟩
  · go_enter Tryd.func12, Tryd.ntmps12
    go_wp2
    go_ret2
    exact ⟨rfl, rfl⟩
theorem rthere_any (d : Int) (w : World) :
    Calls Tryd.prog 31 #[.int .i64 d] w fun e w' => e = .returned (.bool (decide (0 ≤ d ∧ d ≤ 3652058))) ∧ w' = w := by
  by_cases a : 0 ≤ d
  · by_cases b : d ≤ 3652058
    · go_enter Tryd.func31, Tryd.ntmps31
      go_wp2
      go_ret
      exact ⟨ret_bool (by simp <;> omega), rfl⟩
    · go_enter Tryd.func31, Tryd.ntmps31
      go_wp2
      go_ret
      exact ⟨ret_bool (by simp <;> omega), rfl⟩
  · go_enter Tryd.func31, Tryd.ntmps31
    go_wp2
    go_ret
    exact ⟨ret_bool (by simp; omega), rfl⟩
theorem rthere_yes {d : Int} (h0 : 0 ≤ d) (h : d ≤ 3652058) (w : World) : Calls Tryd.prog 31 #[.int .i64 d] w fun e w' => e = .returned (.bool true) ∧ w' = w := by
  have := rthere_any d w; rw [decide_eq_true (show 0 ≤ d ∧ d ≤ 3652058 from ⟨h0, h⟩)] at this; exact this
theorem rthere_no {d : Int} (h : ¬ (0 ≤ d ∧ d ≤ 3652058)) (w : World) : Calls Tryd.prog 31 #[.int .i64 d] w fun e w' => e = .returned (.bool false) ∧ w' = w := by
  have := rthere_any d w; rw [decide_eq_false h] at this; exact this
theorem rweekday_yes (d : Int) (w : World) (h0 : 0 ≤ d) (h : d ≤ 3652058) :
    Calls Tryd.prog 18 #[.int .i64 d] w fun e w' => e = .returned (.tuple #[.int .i64 (d % 7 + 1), .int .i64 0]) ∧ w' = w := by
  have ty := rthere_yes h0 h w
  go_enter Tryd.func18, Tryd.ntmps18
  go_wp2_with (go_at_call 31; refine ty.mono ?_; rintro e w' ⟨rfl, rfl⟩)
  go_ret2
  exact ⟨rfl, rfl⟩
theorem rweekday_no (d : Int) (w : World) (h : ¬ (0 ≤ d ∧ d ≤ 3652058)) :
    Calls Tryd.prog 18 #[.int .i64 d] w fun e w' => e = .returned (.tuple #[.int .i64 0, .int .i64 100]) ∧ w' = w := by
  have ty := rthere_no h w
  go_enter Tryd.func18, Tryd.ntmps18
  go_wp2_with (go_at_call 31; refine ty.mono ?_; rintro e w' ⟨rfl, rfl⟩)
  go_ret2
  exact ⟨rfl, rfl⟩
theorem rparts_no (d : Int) (w : World) (h : ¬ (0 ≤ d ∧ d ≤ 3652058)) :
    Calls Tryd.prog 15 #[.int .i64 d] w fun e w' => e = .returned (.tuple #[.int .i64 0, .int .i64 0, .int .i64 0, .int .i64 100]) ∧ w' = w := by
  have ty := rthere_no h w
  go_enter Tryd.func15, Tryd.ntmps15
  go_wp2_with (go_at_call 31; refine ty.mono ?_; rintro e w' ⟨rfl, rfl⟩)
  exact bodyPost_ret (v := .tuple #[.int .i64 0, .int .i64 0, .int .i64 0, .int .i64 100]) (by simp [results, Tryd.results15, go_sem]) rfl ⟨rfl, rfl⟩
set_option maxHeartbeats 1000000 in
theorem rparts_at {d y m k : Int} (hD : Dt d y m k) (w : World) :
    Calls Tryd.prog 15 #[.int .i64 d] w fun e w' => e = .returned (.tuple #[.int .i64 y, .int .i64 m, .int .i64 k, .int .i64 0]) ∧ w' = w := by
  obtain ⟨d0, d1⟩ := hD.there
  have ty := rthere_yes d0 d1 w
  have HD : Hid (Dt d y m k) := hD
  clear hD
  go_enter Tryd.func15, Tryd.ntmps15
  go_wp2_with (go_at_call 31; refine ty.mono ?_; rintro e w' ⟨rfl, rfl⟩)
  go_loop [6, 7, 8] (fun l a b => ∃ Y M : Int, 1 ≤ Y ∧ Y ≤ 9999 ∧ 1 ≤ M ∧ M ≤ 12 ∧ a = .int .i64 Y ∧ b = .int .i64 M ∧ 0 ≤ d - ahd Y M ∧ l = .int .i64 (d - ahd Y M)) (fun _ a b => (200000 - 12 * intOf a - intOf b).toNat)
  case atStart => exact ⟨1, 1, by omega, by omega, by omega, by omega, rfl, rfl, by rw [show ahd 1 1 = 0 by decide]; omega, int_of (by rw [show ahd 1 1 = 0 by decide]; omega)⟩
  case round =>
    obtain ⟨Y, M, hY1, hY2, hM1, hM2, rfl, rfl, hr, rfl⟩ := hrel
    have la := rdays_any Y M w' (by omega) (by omega)
    have ha := ahd_succ Y M hM1 hM2
    have hd := dim_bd Y M
    have hu := ahd_bd (y := Y) (m := M) hY1 hY2 hM1 (by omega)
    clear ty
    by_cases hc : dim Y M ≤ d - ahd Y M
    · by_cases h12 : M = 12
      · subst h12
        have h13 : ahd Y (12 + 1) = dby (Y + 1) := ahd_next Y hY1
        have hY3 : Y < 9999 := by
          rcases Int.lt_or_le Y 9999 with h | h
          · exact h
          · obtain rfl : Y = 9999 := by omega
            have := dby_top
            rw [show (9999 : Int) + 1 = 10000 from rfl] at h13
            omega
        have HA : Hid (ahd (Y + 1) 1 = ahd Y 12 + dim Y 12) := by show _ = _; rw [ahd_year]; omega
        clear ha h13
        go_wp2_with (go_at_call 27; refine la.mono ?_; rintro e w3 ⟨rfl, rfl⟩)
        go_round
        case rel => exact ⟨Y + 1, 1, by omega, by omega, by omega, by omega, rfl, rfl, by have := HA.out; omega, int_of (by have := HA.out; omega)⟩
        case measure => simp [intOf]; omega
      · have h12b : ((M + 1 == 13) : Bool) = false := by simp; omega
        have HA : Hid (ahd Y (M + 1) = ahd Y M + dim Y M) := ha
        have h12c : ¬ M + 1 = 13 := by omega
        clear ha
        go_wp2_with (go_at_call 27; refine la.mono ?_; rintro e w3 ⟨rfl, rfl⟩)
        go_round
        case rel => exact ⟨Y, M + 1, by omega, by omega, by omega, by omega, rfl, rfl, by have := HA.out; omega, int_of (by have := HA.out; omega)⟩
        case measure => simp [intOf]; omega
    · have hE : Dt d Y M (d - ahd Y M + 1) := ⟨hY1, hY2, hM1, hM2, by omega, by omega, by omega⟩
      have HU : Hid (Y = y ∧ M = m ∧ d - ahd Y M + 1 = k) := HD.out.unique hE
      clear ha hE HD
      go_wp2_with (go_at_call 27; refine la.mono ?_; rintro e w3 ⟨rfl, rfl⟩)
      refine bodyPost_ret (v := .tuple #[.int .i64 Y, .int .i64 M, .int .i64 (d - ahd Y M + 1), .int .i64 0]) (by simp [results, Tryd.results15, go_sem]) rfl ⟨?_, rfl⟩
      obtain ⟨e1, e2, e3⟩ := HU.out
      rw [e3, e1, e2]
end Go.Proofs.YtlebkdmkofgdpaaDoor
