/-
  The document's calendar: Leap, Days, Ahead, Of, There, Weekday.
-/
import Derived.Test.YtlebkdmkofgdpaaDoorCa3
namespace Go.Proofs.YtlebkdmkofgdpaaDoor
open Go.RowKit
set_option linter.unusedVariables false

theorem rleap_any (y : Int) (w : World) (h1 : 0 ≤ y) (h2 : y ≤ 100000) :
    Calls Tryd.prog 37 #[.int .i64 y] w fun e w' => e = .returned (.bool (lpB y)) ∧ w' = w := by
  by_cases a : y % 4 = 0 <;> by_cases b : y % 100 = 0 <;> by_cases c : y % 400 = 0
  all_goals
    go_enter Tryd.func37, Tryd.ntmps37
    go_wp2
    go_ret
    exact ⟨ret_bool (by unfold lpB; rw [Bool.eq_iff_iff]; simp <;> omega), rfl⟩
set_option maxHeartbeats 1000000 in
theorem rdays_any (y m : Int) (w : World) (h1 : 0 ≤ y) (h2 : y ≤ 100000) :
    Calls Tryd.prog 27 #[.int .i64 y, .int .i64 m] w fun e w' => e = .returned (.int .i64 (dim y m)) ∧ w' = w := by
  by_cases m2 : m = 2
  · subst m2
    have il := rleap_any y w h1 h2
    cases hl : lpB y
    · rw [hl] at il
      have hd : dim y 2 = 28 := by unfold dim; rw [lp_not hl]; rfl
      rw [hd]
      clear hl hd
      go_enter Tryd.func27, Tryd.ntmps27
      go_wp2_with (go_at_call 37; refine il.mono ?_; rintro e w' ⟨rfl, rfl⟩)
      go_ret
      exact ⟨rfl, rfl⟩
    · rw [hl] at il
      have hd : dim y 2 = 29 := by unfold dim; rw [lp_pos hl]; rfl
      rw [hd]
      clear hl hd
      go_enter Tryd.func27, Tryd.ntmps27
      go_wp2_with (go_at_call 37; refine il.mono ?_; rintro e w' ⟨rfl, rfl⟩)
      go_ret
      exact ⟨rfl, rfl⟩
  · have b2 : (m == 2) = false := by simpa using m2
    by_cases h30 : m = 4 ∨ m = 6 ∨ m = 9 ∨ m = 11
    · have hd : dim y m = 30 := by unfold dim; rw [if_neg m2, if_pos h30]
      rw [hd]
      clear hd m2
      rcases h30 with rfl | rfl | rfl | rfl
      all_goals
        go_enter Tryd.func27, Tryd.ntmps27
        go_wp2
        go_ret
        exact ⟨rfl, rfl⟩
    · have hd : dim y m = 31 := by unfold dim; rw [if_neg m2, if_neg h30]
      have b4 : (m == 4) = false := by simp; omega
      have b6 : (m == 6) = false := by simp; omega
      have b9 : (m == 9) = false := by simp; omega
      have bb : (m == 11) = false := by simp; omega
      rw [hd]
      clear hd m2 h30
      go_enter Tryd.func27, Tryd.ntmps27
      go_wp2
      go_ret
      exact ⟨rfl, rfl⟩
set_option maxHeartbeats 1000000 in
theorem rahead_any (y M : Nat) (w : World) (h1 : 1 ≤ y) (h2 : y ≤ 10000) (m1 : 1 ≤ M) (m2 : M ≤ 13) :
    Calls Tryd.prog 28 #[.int .i64 y, .int .i64 M] w fun e w' => e = .returned (.int .i64 (ahd y M)) ∧ w' = w := by
  go_enter Tryd.func28, Tryd.ntmps28
  go_wp2
  go_loop [5, 6] (fun n k => ∃ j : Nat, 1 ≤ j ∧ j ≤ y ∧ k = .int .i64 j ∧ n = .int .i64 (dby j)) (fun _ k => ((y : Int) - intOf k).toNat)
  case atStart => exact ⟨1, by omega, by omega, rfl, int_of (by decide)⟩
  case round =>
    obtain ⟨j, hj1, hj2, rfl, rfl⟩ := hrel
    have b := dby_bd (a := (j : Int)) (by omega) (by omega)
    by_cases hlt : j < y
    · have hi : (j : Int) < y := by omega
      have hs := dby_succ (j : Int) (by omega)
      have il := rleap_any (j : Int) w (by omega) (by omega)
      cases hl : lpB (j : Int)
      · rw [hl] at il
        rw [lp_not hl] at hs
        have HS : Hid (dby ((j : Int) + 1) = dby (j : Int) + 365 + 0) := hs
        clear hs hl
        go_wp2_with (go_at_call 37; refine il.mono ?_; rintro e w' ⟨rfl, rfl⟩)
        go_round
        case rel => exact ⟨j + 1, by omega, by omega, by go_num, int_of (by have := HS.out; rw [show ((j + 1 : Nat) : Int) = (j : Int) + 1 by omega]; omega)⟩
        case measure => simp [intOf]; omega
      · rw [hl] at il
        rw [lp_pos hl] at hs
        have HS : Hid (dby ((j : Int) + 1) = dby (j : Int) + 365 + 1) := hs
        clear hs hl
        go_wp2_with (go_at_call 37; refine il.mono ?_; rintro e w' ⟨rfl, rfl⟩)
        go_round
        case rel => exact ⟨j + 1, by omega, by omega, by go_num, int_of (by have := HS.out; rw [show ((j + 1 : Nat) : Int) = (j : Int) + 1 by omega]; omega)⟩
        case measure => simp [intOf]; omega
    · have hi : ¬ (j : Int) < y := by omega
      obtain rfl : j = y := by omega
      go_wp2
      go_loop [5, 7] (fun n k => ∃ i : Nat, 1 ≤ i ∧ i ≤ M ∧ k = .int .i64 i ∧ n = .int .i64 (ahd j i)) (fun _ k => ((M : Int) - intOf k).toNat)
      case atStart => exact ⟨1, by omega, by omega, rfl, int_of (by show _ = ahd j 1; rw [ahd_year])⟩
      case round =>
        obtain ⟨i, hi1, hi2, rfl, rfl⟩ := hrel
        by_cases hlt : i < M
        · have hi : (i : Int) < M := by omega
          have la := rdays_any j i w (by omega) (by omega)
          have hs := ahd_succ j i (by omega) (by omega)
          have hd := dim_bd j i
          have hc := cum_bd j i (by omega) (by omega)
          have hl := lp_01 j
          have ha : 0 ≤ ahd j i ∧ ahd j i ≤ 3652500 := by unfold ahd; omega
          have HS : Hid (ahd j ((i : Int) + 1) = ahd j i + dim j i) := hs
          clear hs hc hl b
          go_wp2_with (go_at_call 27; refine la.mono ?_; rintro e w' ⟨rfl, rfl⟩)
          go_round
          case rel => exact ⟨i + 1, by omega, by omega, by go_num, int_of (by have := HS.out; rw [show ((i + 1 : Nat) : Int) = (i : Int) + 1 by omega]; omega)⟩
          case measure => simp [intOf]; omega
        · have hi : ¬ (i : Int) < M := by omega
          have e : i = M := by omega
          go_wp2
          go_ret
          exact ⟨rfl, rfl⟩
end Go.Proofs.YtlebkdmkofgdpaaDoor
