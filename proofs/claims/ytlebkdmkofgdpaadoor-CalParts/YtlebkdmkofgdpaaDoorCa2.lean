/-
  calendar: first, isThere, yearOf, Parts, Of, Weekday.
-/
import Derived.Test.YtlebkdmkofgdpaaDoorCa1
namespace Go.Proofs.YtlebkdmkofgdpaaDoor
open Go.RowKit
set_option linter.unusedVariables false

theorem int_of {a b : Int} (h : a = b) : Value.int .i64 a = .int .i64 b := by rw [h]
set_option maxHeartbeats 1000000 in
theorem first_any (y : Int) (M : Nat) (w : World) (h1 : 1 ≤ y) (h2 : y ≤ 10000) (m1 : 1 ≤ M) (m2 : M ≤ 13) (hT : Tl w) :
    Calls Tryd.prog 25 #[.int .i64 y, .int .i64 M] w fun e w' => e = .returned (.int .i64 (ahd y M)) ∧ w' = w := by
  have b := dby_bd h1 h2
  go_enter Tryd.func25, Tryd.ntmps25
  go_wp2
  go_loop [6, 7] (fun d k => ∃ j : Nat, 1 ≤ j ∧ j ≤ M ∧ k = .int .i64 j ∧ d = .int .i64 (ahd y j)) (fun _ k => ((M : Int) - intOf k).toNat)
  case atStart => exact ⟨1, by omega, by omega, rfl, int_of (by show _ = ahd y 1; rw [ahd_year]; unfold dby; omega)⟩
  case round =>
    obtain ⟨j, hj1, hj2, rfl, rfl⟩ := hrel
    by_cases hlt : j < M
    · have hi : (j : Int) < M := by omega
      have la := length_any y j w (by omega) (by omega) hj1 (by omega) hT
      have hs := ahd_succ y j (by omega) (by omega)
      have hd := dim_bd y j
      have hc := cum_bd y j (by omega) (by omega)
      have hl := lp_01 y
      have ha : 0 ≤ ahd y j ∧ ahd y j ≤ 3652500 := by unfold ahd; omega
      have HS : Hid (ahd y ((j : Int) + 1) = ahd y j + dim y j) := hs
      clear hs hc hl b
      go_wp2_with (go_at_call 24; refine la.mono ?_; rintro e w' ⟨rfl, rfl⟩)
      go_round
      case rel => exact ⟨j + 1, by omega, by omega, by go_num, int_of (by have := HS.out; rw [show ((j + 1 : Nat) : Int) = (j : Int) + 1 by omega]; omega)⟩
      case measure => simp [intOf]; omega
    · have hi : ¬ (j : Int) < M := by omega
      have e : j = M := by omega
      go_wp2
      go_ret
      exact ⟨rfl, rfl⟩
theorem there_any (d : Int) (w : World) :
    Calls Tryd.prog 29 #[.int .i64 d] w fun e w' => e = .returned (.bool (decide (0 ≤ d ∧ d ≤ 3652058))) ∧ w' = w := by
  by_cases a : 0 ≤ d
  · by_cases b : d ≤ 3652058
    · go_enter Tryd.func29, Tryd.ntmps29
      go_wp2
      go_ret
      exact ⟨ret_bool (by simp <;> omega), rfl⟩
    · go_enter Tryd.func29, Tryd.ntmps29
      go_wp2
      go_ret
      exact ⟨ret_bool (by simp <;> omega), rfl⟩
  · go_enter Tryd.func29, Tryd.ntmps29
    go_wp2
    go_ret
    exact ⟨ret_bool (by simp; omega), rfl⟩
theorem there_yes {d : Int} (h0 : 0 ≤ d) (h : d ≤ 3652058) (w : World) : Calls Tryd.prog 29 #[.int .i64 d] w fun e w' => e = .returned (.bool true) ∧ w' = w := by
  have := there_any d w; rw [decide_eq_true (show 0 ≤ d ∧ d ≤ 3652058 from ⟨h0, h⟩)] at this; exact this
theorem there_no {d : Int} (h : ¬ (0 ≤ d ∧ d ≤ 3652058)) (w : World) : Calls Tryd.prog 29 #[.int .i64 d] w fun e w' => e = .returned (.bool false) ∧ w' = w := by
  have := there_any d w; rw [decide_eq_false h] at this; exact this
set_option maxHeartbeats 1000000 in
theorem yearOf_any (d : Int) (w : World) (h1 : 0 ≤ d) (h2 : d ≤ 3652058) (hT : Tl w) :
    Calls Tryd.prog 30 #[.int .i64 d] w fun e w' => ∃ y : Int, e = .returned (.int .i64 y) ∧ 1 ≤ y ∧ y ≤ 9999 ∧ dby y ≤ d ∧ d < dby (y + 1) ∧ w' = w := by
  have g0 := dby_guess h1
  go_enter Tryd.func30, Tryd.ntmps30
  go_wp2
  go_loop [3] (fun t => ∃ y : Int, 1 ≤ y ∧ y ≤ 9999 ∧ dby y ≤ d ∧ t = .int .i64 y) (fun t => (9999 - intOf t).toNat)
  case atStart => exact ⟨1 + d / 366, by omega, by omega, g0, rfl⟩
  case round =>
    obtain ⟨y, hy1, hy2, hy3, rfl⟩ := hrel
    have fa := first_any (y + 1) 1 w (by omega) (by omega) (by omega) (by omega) hT
    rw [show ((1 : Nat) : Int) = 1 from rfl, ahd_year] at fa
    clear g0
    by_cases hc : dby (y + 1) ≤ d
    · have hy4 : y < 9999 := by
        rcases Int.lt_or_le y 9999 with h | h
        · exact h
        · have : y = 9999 := by omega
          subst this
          have := dby_top
          rw [show (9999 : Int) + 1 = 10000 from rfl] at hc
          omega
      go_wp2_with (go_at_call 25; refine fa.mono ?_; rintro e w' ⟨rfl, rfl⟩)
      go_round
      case rel => exact ⟨y + 1, by omega, by omega, hc, rfl⟩
      case measure => simp [intOf]; omega
    · go_wp2_with (go_at_call 25; refine fa.mono ?_; rintro e w' ⟨rfl, rfl⟩)
      go_ret
      exact ⟨y, rfl, hy1, hy2, hy3, by omega, rfl⟩
/-- Four results. -/
def PtR (d : Int) (w : World) (e : Ending) (w' : World) : Prop := ∃ y m k : Int, e = .returned (.tuple #[.int .i64 y, .int .i64 m, .int .i64 k, .int .i64 0]) ∧ Dt d y m k ∧ w' = w
theorem ret4 {a b c : Int} {a' b' c' z : Int} (h1 : a = a') (h2 : b = b') (h3 : c = c') : Ending.returned (.tuple #[.int .i64 a, .int .i64 b, .int .i64 c, .int .i64 z]) = .returned (.tuple #[.int .i64 a', .int .i64 b', .int .i64 c', .int .i64 z]) := by rw [h1, h2, h3]
set_option maxHeartbeats 1000000 in
theorem parts_yes (d : Int) (w : World) (h1 : 0 ≤ d) (h2 : d ≤ 3652058) (hT : Tl w) :
    Calls Tryd.prog 14 #[.int .i64 d] w fun e w' => PtR d w e w' := by
  have ty := there_yes h1 h2 w
  have yo := yearOf_any d w h1 h2 hT
  go_enter Tryd.func14, Tryd.ntmps14
  go_wp2_with (go_at_call 29; refine ty.mono ?_; rintro e w' ⟨rfl, rfl⟩)
  go_at_call 30
  refine yo.mono ?_
  rintro e w' ⟨y, rfl, hy1, hy2, hy3, hy4, rfl⟩
  have fa := first_any y 1 w' (by omega) (by omega) (by omega) (by omega) hT
  rw [show ((1 : Nat) : Int) = 1 from rfl, ahd_year] at fa
  have hs := dby_succ y hy1
  have hb := dby_bd hy1 (by omega)
  have hl := lp_01 y
  clear ty yo
  go_wp2_with (go_at_call 25; refine fa.mono ?_; rintro e w2 ⟨rfl, rfl⟩)
  go_loop [7, 8] (fun k r => ∃ m : Nat, 1 ≤ m ∧ m ≤ 12 ∧ k = .int .i64 m ∧ 0 ≤ d - ahd y m ∧ r = .int .i64 (d - ahd y m)) (fun k _ => (12 - intOf k).toNat)
  case atStart => exact ⟨1, by omega, by omega, rfl, by show 0 ≤ d - ahd y 1; rw [ahd_year]; omega, int_of (by show _ = d - ahd y 1; rw [ahd_year])⟩
  case round =>
    obtain ⟨m, hm1, hm2, rfl, hr, rfl⟩ := hrel
    have la := length_any y m w2 (by omega) (by omega) hm1 hm2 hT
    have ha := ahd_succ y m (by omega) (by omega)
    have hd := dim_bd y m
    have hu := (ahd_bd (y := y) (m := m) hy1 hy2 (by omega) (by omega))
    by_cases hc : dim y m ≤ d - ahd y m
    · have hm3 : m < 12 := by
        rcases Nat.lt_or_ge m 12 with h | h
        · exact h
        · have : m = 12 := by omega
          subst this
          have h13 : ahd y (12 + 1) = dby (y + 1) := ahd_next y hy1
          have ha' : ahd y (12 + 1) = ahd y 12 + dim y 12 := ha
          have hc' : dim y 12 ≤ d - ahd y 12 := hc
          omega
      have HA : Hid (ahd y ((m : Int) + 1) = ahd y m + dim y m) := ha
      clear ha hs
      go_wp2_with (go_at_call 24; refine la.mono ?_; rintro e w3 ⟨rfl, rfl⟩)
      go_round
      case rel => exact ⟨m + 1, by omega, by omega, by go_num, by have := HA.out; rw [show ((m + 1 : Nat) : Int) = (m : Int) + 1 by omega]; omega, int_of (by have := HA.out; rw [show ((m + 1 : Nat) : Int) = (m : Int) + 1 by omega]; omega)⟩
      case measure => simp [intOf]; omega
    · clear ha hs
      go_wp2_with (go_at_call 24; refine la.mono ?_; rintro e w3 ⟨rfl, rfl⟩)
      exact bodyPost_ret (v := .tuple #[.int .i64 y, .int .i64 m, .int .i64 (d - ahd y m + 1), .int .i64 0]) (by simp [results, Tryd.results14, go_sem]) rfl ⟨y, m, d - ahd y m + 1, rfl, ⟨hy1, hy2, by omega, by omega, by omega, by omega, by omega⟩, rfl⟩
theorem parts_no (d : Int) (w : World) (h : ¬ (0 ≤ d ∧ d ≤ 3652058)) :
    Calls Tryd.prog 14 #[.int .i64 d] w fun e w' => e = .returned (.tuple #[.int .i64 0, .int .i64 0, .int .i64 0, .int .i64 100]) ∧ w' = w := by
  have ty := there_no h w
  go_enter Tryd.func14, Tryd.ntmps14
  go_wp2_with (go_at_call 29; refine ty.mono ?_; rintro e w' ⟨rfl, rfl⟩)
  exact bodyPost_ret (v := .tuple #[.int .i64 0, .int .i64 0, .int .i64 0, .int .i64 100]) (by simp [results, Tryd.results14, go_sem]) rfl ⟨rfl, rfl⟩
/-- What three numbers have to be. -/
def Ok3 (y m k : Int) : Prop := 1 ≤ y ∧ y ≤ 9999 ∧ 1 ≤ m ∧ m ≤ 12 ∧ 1 ≤ k ∧ k ≤ dim y m
theorem Dt.ok {d y m k : Int} (h : Dt d y m k) : Ok3 y m k := ⟨h.y1, h.y2, h.m1, h.m2, h.k1, h.k2⟩
theorem Ok3.dt {y m k : Int} (h : Ok3 y m k) : Dt (ahd y m + (k - 1)) y m k := ⟨h.1, h.2.1, h.2.2.1, h.2.2.2.1, h.2.2.2.2.1, h.2.2.2.2.2, rfl⟩
set_option maxHeartbeats 1000000 in
theorem of_yes (y m k : Int) (w : World) (h : Ok3 y m k) (hT : Tl w) :
    Calls Tryd.prog 9 #[.int .i64 y, .int .i64 m, .int .i64 k] w fun e w' => e = .returned (.tuple #[.int .i64 (ahd y m + (k - 1)), .int .i64 0]) ∧ w' = w := by
  obtain ⟨y1, y2, m1, m2, k1, k2⟩ := h
  obtain ⟨M, rfl⟩ : ∃ M : Nat, m = M := ⟨m.toNat, by omega⟩
  have la := length_any y M w (by omega) (by omega) (by omega) (by omega) hT
  have fa := first_any y M w (by omega) (by omega) (by omega) (by omega) hT
  have hd := dim_bd y M
  have ha := ahd_bd (y := y) (m := M) y1 y2 m1 (by omega)
  go_enter Tryd.func9, Tryd.ntmps9
  go_wp2_with (first
    | (go_at_call 24; refine la.mono ?_; rintro e w2 ⟨rfl, rfl⟩)
    | (go_at_call 25; refine fa.mono ?_; rintro e w2 ⟨rfl, rfl⟩))
  go_ret2
  exact ⟨rfl, rfl⟩
set_option maxHeartbeats 1000000 in
theorem of_no (y m k : Int) (w : World) (h : ¬ Ok3 y m k) (hT : Tl w) :
    Calls Tryd.prog 9 #[.int .i64 y, .int .i64 m, .int .i64 k] w fun e w' => e = .returned (.tuple #[.int .i64 0, .int .i64 100]) ∧ w' = w := by
  by_cases h1 : 1 ≤ y
  · by_cases h2 : y ≤ 9999
    · by_cases h3 : 1 ≤ m
      · by_cases h4 : m ≤ 12
        · obtain ⟨M, rfl⟩ : ∃ M : Nat, m = M := ⟨m.toNat, by omega⟩
          have la := length_any y M w (by omega) (by omega) (by omega) (by omega) hT
          by_cases h5 : 1 ≤ k
          · have h6 : ¬ k ≤ dim y M := fun h' => h ⟨h1, h2, h3, h4, h5, h'⟩
            go_enter Tryd.func9, Tryd.ntmps9
            go_wp2_with (go_at_call 24; refine la.mono ?_; rintro e w2 ⟨rfl, rfl⟩)
            go_ret2
            exact ⟨rfl, rfl⟩
          · go_enter Tryd.func9, Tryd.ntmps9
            go_wp2_with (go_at_call 24; refine la.mono ?_; rintro e w2 ⟨rfl, rfl⟩)
            go_ret2
            exact ⟨rfl, rfl⟩
        · go_enter Tryd.func9, Tryd.ntmps9
          go_wp2
          go_ret2
          exact ⟨rfl, rfl⟩
      · go_enter Tryd.func9, Tryd.ntmps9
        go_wp2
        go_ret2
        exact ⟨rfl, rfl⟩
    · go_enter Tryd.func9, Tryd.ntmps9
      go_wp2
      go_ret2
      exact ⟨rfl, rfl⟩
  · go_enter Tryd.func9, Tryd.ntmps9
    go_wp2
    go_ret2
    exact ⟨rfl, rfl⟩
theorem weekday_yes (d : Int) (w : World) (h0 : 0 ≤ d) (h : d ≤ 3652058) :
    Calls Tryd.prog 17 #[.int .i64 d] w fun e w' => e = .returned (.tuple #[.int .i64 (d % 7 + 1), .int .i64 0]) ∧ w' = w := by
  have ty := there_yes h0 h w
  go_enter Tryd.func17, Tryd.ntmps17
  go_wp2_with (go_at_call 29; refine ty.mono ?_; rintro e w' ⟨rfl, rfl⟩)
  go_ret2
  exact ⟨rfl, rfl⟩
theorem weekday_no (d : Int) (w : World) (h : ¬ (0 ≤ d ∧ d ≤ 3652058)) :
    Calls Tryd.prog 17 #[.int .i64 d] w fun e w' => e = .returned (.tuple #[.int .i64 0, .int .i64 100]) ∧ w' = w := by
  have ty := there_no h w
  go_enter Tryd.func17, Tryd.ntmps17
  go_wp2_with (go_at_call 29; refine ty.mono ?_; rintro e w' ⟨rfl, rfl⟩)
  go_ret2
  exact ⟨rfl, rfl⟩
end Go.Proofs.YtlebkdmkofgdpaaDoor
