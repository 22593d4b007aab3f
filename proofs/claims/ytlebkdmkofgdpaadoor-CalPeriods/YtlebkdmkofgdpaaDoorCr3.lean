/-
  The document's calendar: Months, Period.
-/
import Derived.Test.YtlebkdmkofgdpaaDoorCr2
namespace Go.Proofs.YtlebkdmkofgdpaaDoor
open Go.RowKit
set_option linter.unusedVariables false

theorem rmonths_no (d n : Int) (w : World) (h : ¬ (0 ≤ d ∧ d ≤ 3652058)) :
    Calls Tryd.prog 22 #[.int .i64 d, .int .i64 n] w fun e w' => e = .returned (.tuple #[.int .i64 0, .int .i64 100]) ∧ w' = w := by
  have pa := rparts_no d w h
  go_enter Tryd.func22, Tryd.ntmps22
  go_wp2_with (go_at_call 15; refine pa.mono ?_; rintro e w2 ⟨rfl, rfl⟩)
  go_ret2
  exact ⟨rfl, rfl⟩
theorem rmonths_far {d y m k : Int} (hD : Dt d y m k) (n : Int) (w : World) (h : n < -200000 ∨ 200000 < n) :
    Calls Tryd.prog 22 #[.int .i64 d, .int .i64 n] w fun e w' => e = .returned (.tuple #[.int .i64 0, .int .i64 100]) ∧ w' = w := by
  have pa := rparts_at hD w
  rcases h with h | h
  · go_enter Tryd.func22, Tryd.ntmps22
    go_wp2_with (go_at_call 15; refine pa.mono ?_; rintro e w2 ⟨rfl, rfl⟩)
    go_ret2
    exact ⟨rfl, rfl⟩
  · go_enter Tryd.func22, Tryd.ntmps22
    go_wp2_with (go_at_call 15; refine pa.mono ?_; rintro e w2 ⟨rfl, rfl⟩)
    go_ret2
    exact ⟨rfl, rfl⟩
/-- What Months answers. -/
def MoV (s k : Int) : Value := if 0 ≤ s ∧ s ≤ 119987 then .tuple #[.int .i64 (moD s k), .int .i64 0] else .tuple #[.int .i64 0, .int .i64 100]
theorem moV_in {Y M s : Int} (h1 : 1 ≤ M) (h2 : M ≤ 12) (hs : ser Y M = s) : 1 + s / 12 = Y ∧ 1 + s % 12 = M := by unfold ser at hs; omega
set_option maxHeartbeats 2000000 in
theorem rmonths_near {d y m k : Int} (hD : Dt d y m k) (n : Int) (w : World) (n1 : -200000 ≤ n) (n2 : n ≤ 200000) :
    Calls Tryd.prog 22 #[.int .i64 d, .int .i64 n] w fun e w' => e = .returned (MoV (ser y m + n) k) ∧ w' = w := by
  have pa := rparts_at hD w
  have y1 := hD.y1; have y2 := hD.y2; have m1 := hD.m1; have m2 := hD.m2; have k1 := hD.k1; have k2 := hD.k2
  have kb := dim_bd y m
  obtain ⟨s, hs⟩ : ∃ s, ser y m + n = s := ⟨_, rfl⟩
  rw [hs]
  have HS : Hid (12 * (y - 1) + (m - 1) + n = s) := hs
  clear hs hD
  go_enter Tryd.func22, Tryd.ntmps22
  go_wp2_with (go_at_call 15; refine pa.mono ?_; rintro e w2 ⟨rfl, rfl⟩)
  clear pa
  go_loop [1, 6, 7] (fun c a b => ∃ N Y M : Int, c = .int .i64 N ∧ a = .int .i64 Y ∧ b = .int .i64 M ∧ 1 ≤ Y ∧ Y ≤ 10000 ∧ 1 ≤ M ∧ M ≤ 12 ∧ -200000 ≤ N ∧ N ≤ 200000 ∧ (0 < n → 0 ≤ N) ∧ (n ≤ 0 → N = n ∧ Y ≤ 9999) ∧ 12 * (Y - 1) + (M - 1) + N = s) (fun c _ _ => (intOf c).toNat)
  case atStart => exact ⟨n, y, m, rfl, rfl, rfl, by omega, by omega, by omega, by omega, by omega, by omega, by omega, by omega, HS.out⟩
  case round =>
    obtain ⟨N, Y, M, rfl, rfl, rfl, Y1, Y2, M1, M2, N1, N2, c1, c2, hsum⟩ := hrel
    have HC : Hid ((0 < n → 0 ≤ N) ∧ (n ≤ 0 → N = n ∧ Y ≤ 9999)) := ⟨c1, c2⟩
    have HQ : Hid (12 * (Y - 1) + (M - 1) + N = s) := hsum
    clear c1 c2 hsum
    by_cases hN : 0 < N
    · by_cases hY : Y ≤ 9999
      · by_cases h12 : M = 12
        · subst h12
          go_wp2
          go_round
          case rel => exact ⟨N - 1, Y + 1, 1, rfl, rfl, rfl, by omega, by omega, by omega, by omega, by omega, by omega, by omega, by have := HC.out.2; omega, by have := HQ.out; omega⟩
          case measure => simp [intOf]; omega
        · have h12b : ((M + 1 == 13) : Bool) = false := by simp; omega
          have h12c : ¬ M + 1 = 13 := by omega
          go_wp2
          go_round
          case rel => exact ⟨N - 1, Y, M + 1, rfl, rfl, rfl, by omega, by omega, by omega, by omega, by omega, by omega, by omega, by have := HC.out.2; omega, by have := HQ.out; omega⟩
          case measure => simp [intOf]; omega
      · have hN' : ¬ N < 0 := by omega
        have HV : Hid (MoV s k = .tuple #[.int .i64 0, .int .i64 100]) := by
          show _ = _
          unfold MoV; rw [if_neg]; have := HQ.out; omega
        clear HC HQ HS
        go_wp2
        go_loop [1, 6, 7] (fun c a b => c = .int .i64 N ∧ a = .int .i64 Y ∧ b = .int .i64 M) (fun c _ _ => 0)
        case atStart => exact ⟨rfl, rfl, rfl⟩
        case round =>
          obtain ⟨rfl, rfl, rfl⟩ := hrel
          go_wp2
          go_ret2
          exact ⟨by rw [HV.out]; rfl, rfl⟩
    · have HR : Hid (N ≤ 0 ∧ (N < 0 → Y ≤ 9999)) := by have := HC.out; exact ⟨by omega, by omega⟩
      clear HC HS
      go_wp2
      go_loop [1, 6, 7] (fun c a b => ∃ N Y M : Int, c = .int .i64 N ∧ a = .int .i64 Y ∧ b = .int .i64 M ∧ 0 ≤ Y ∧ Y ≤ 10000 ∧ 1 ≤ M ∧ M ≤ 12 ∧ -200000 ≤ N ∧ N ≤ 0 ∧ (N < 0 → Y ≤ 9999) ∧ 12 * (Y - 1) + (M - 1) + N = s) (fun c _ _ => (- intOf c).toNat)
      case atStart => exact ⟨N, Y, M, rfl, rfl, rfl, by omega, by omega, by omega, by omega, by omega, by omega, HR.out.2, HQ.out⟩
      case round =>
        clear HR HQ hN Y1 Y2 M1 M2 N1 N2
        obtain ⟨N, Y, M, rfl, rfl, rfl, Y1, Y2, M1, M2, N1, N2, c1, hsum⟩ := hrel
        have HC : Hid (N < 0 → Y ≤ 9999) := c1
        have HQ : Hid (12 * (Y - 1) + (M - 1) + N = s) := hsum
        clear c1 hsum
        by_cases hY : 1 ≤ Y
        · by_cases hN : N < 0
          · by_cases h1 : M = 1
            · subst h1
              go_wp2
              go_round
              case rel => exact ⟨N + 1, Y - 1, 12, rfl, rfl, rfl, by omega, by omega, by omega, by omega, by omega, by omega, by have := HC.out; omega, by have := HQ.out; omega⟩
              case measure => simp [intOf]; omega
            · have h1b : ((M - 1 == 0) : Bool) = false := by simp; omega
              have h1c : ¬ M - 1 = 0 := by omega
              go_wp2
              go_round
              case rel => exact ⟨N + 1, Y, M - 1, rfl, rfl, rfl, by omega, by omega, by omega, by omega, by omega, by omega, by have := HC.out; omega, by have := HQ.out; omega⟩
              case measure => simp [intOf]; omega
          · by_cases hY9 : Y ≤ 9999
            · have hsy : 1 + s / 12 = Y ∧ 1 + s % 12 = M ∧ 0 ≤ s ∧ s ≤ 119987 := by have := HQ.out; omega
              have hv : MoV s k = .tuple #[.int .i64 (moD s k), .int .i64 0] := by
                unfold MoV; rw [if_pos ⟨hsy.2.2.1, hsy.2.2.2⟩]
              have la := rdays_any Y M w2 (by omega) (by omega)
              have oy := rof_yes _ _ _ w2 (cutD_ok (s := s) (k := k) hsy.2.2.1 hsy.2.2.2 k1)
              unfold moD at hv
              rw [hsy.1, hsy.2.1] at oy hv
              have db := dim_bd Y M
              by_cases hk : k ≤ dim Y M
              · have hcut : cutD s k = k := by unfold cutD; rw [hsy.1, hsy.2.1, if_pos hk]
                rw [hcut] at oy hv
                have HV : Hid (MoV s k = .tuple #[.int .i64 (ahd Y M + (k - 1)), .int .i64 0]) := hv
                clear hv hcut hsy HC HQ
                go_wp2_with (first
                  | (go_at_call 27; refine la.mono ?_; rintro e w3 ⟨rfl, rfl⟩)
                  | (go_at_call 12; refine oy.mono ?_; rintro e w3 ⟨rfl, rfl⟩))
                go_ret2
                exact ⟨by rw [HV.out]; rfl, rfl⟩
              · have hcut : cutD s k = dim Y M := by unfold cutD; rw [hsy.1, hsy.2.1, if_neg hk]
                rw [hcut] at oy hv
                have HV : Hid (MoV s k = .tuple #[.int .i64 (ahd Y M + (dim Y M - 1)), .int .i64 0]) := hv
                clear hv hcut hsy HC HQ
                go_wp2_with (first
                  | (go_at_call 27; refine la.mono ?_; rintro e w3 ⟨rfl, rfl⟩)
                  | (go_at_call 12; refine oy.mono ?_; rintro e w3 ⟨rfl, rfl⟩))
                go_ret2
                exact ⟨by rw [HV.out]; rfl, rfl⟩
            · have HV : Hid (MoV s k = .tuple #[.int .i64 0, .int .i64 100]) := by
                show _ = _
                unfold MoV; rw [if_neg]; have := HQ.out; omega
              clear HC HQ
              go_wp2
              go_ret2
              exact ⟨by rw [HV.out]; rfl, rfl⟩
        · have HV : Hid (MoV s k = .tuple #[.int .i64 0, .int .i64 100]) := by
            show _ = _
            unfold MoV; rw [if_neg]; have := HQ.out; omega
          clear HC HQ
          by_cases hN : N < 0
          · go_wp2
            go_ret2
            exact ⟨by rw [HV.out]; rfl, rfl⟩
          · go_wp2
            go_ret2
            exact ⟨by rw [HV.out]; rfl, rfl⟩
theorem rperiod_no (d p : Int) (w : World) (h : ¬ (0 ≤ d ∧ d ≤ 3652058)) :
    Calls Tryd.prog 23 #[.int .i64 d, .int .i64 p] w fun e w' => e = .returned (.tuple #[.agg #[.int .i64 0, .int .i64 0], .int .i64 100]) ∧ Below w.heap.size w w' := by
  have pa := fun W => rparts_no d W h
  go_enter Tryd.func23, Tryd.ntmps23
  go_wp2_with (go_at_call 15; refine (pa _).mono ?_; rintro e w2 ⟨rfl, rfl⟩)
  refine bodyPost_ret (v := .tuple #[.agg #[.int .i64 0, .int .i64 0], .int .i64 100]) (by simp [results, Tryd.results23, go_sem]) rfl ⟨rfl, ?_⟩
  exact (Below.refl _ _).alloc (Nat.le_refl _) _
theorem rperiod_arg {d y m k : Int} (hD : Dt d y m k) (p : Int) (w : World) (h1 : ¬ p = 1) (h2 : ¬ p = 2) (h3 : ¬ p = 3) :
    Calls Tryd.prog 23 #[.int .i64 d, .int .i64 p] w fun e w' => e = .returned (.tuple #[.agg #[.int .i64 0, .int .i64 0], .int .i64 2]) ∧ Below w.heap.size w w' := by
  have pa := fun W => rparts_at hD W
  have b1 : (p == 1) = false := by simpa using h1
  have b2 : (p == 2) = false := by simpa using h2
  have b3 : (p == 3) = false := by simpa using h3
  go_enter Tryd.func23, Tryd.ntmps23
  go_wp2_with (go_at_call 15; refine (pa _).mono ?_; rintro e w2 ⟨rfl, rfl⟩)
  refine bodyPost_ret (v := .tuple #[.agg #[.int .i64 0, .int .i64 0], .int .i64 2]) (by simp [results, Tryd.results23, go_sem]) rfl ⟨rfl, ?_⟩
  exact (Below.refl _ _).alloc (Nat.le_refl _) _
set_option maxHeartbeats 1000000 in
theorem rperiod_yes {d y m k : Int} (hD : Dt d y m k) (p : Int) (w : World) (hp : p = 1 ∨ p = 2 ∨ p = 3) :
    Calls Tryd.prog 23 #[.int .i64 d, .int .i64 p] w fun e w' => e = .returned (.tuple #[.agg #[.int .i64 (ahd y (pFrom p m)), .int .i64 (ahd y (pTo p m))], .int .i64 0]) ∧ Below w.heap.size w w' := by
  have pa := fun W => rparts_at hD W
  have y1 := hD.y1; have y2 := hD.y2; have m1 := hD.m1; have m2 := hD.m2
  have ra : ∀ (a b : Int) W, 1 ≤ a → a ≤ 10000 → 1 ≤ b → b ≤ 13 → Calls Tryd.prog 28 #[.int .i64 a, .int .i64 b] W fun e w' => e = .returned (.int .i64 (ahd a b)) ∧ w' = W := by
    intro a b W h1 h2 h3 h4
    have := rahead_any a.toNat b.toNat W (by omega) (by omega) (by omega) (by omega)
    rw [show ((a.toNat : Nat) : Int) = a by omega, show ((b.toNat : Nat) : Int) = b by omega] at this
    exact this
  rcases hp with rfl | rfl | rfl
  · have f1 := fun W => ra y 1 W (by omega) (by omega) (by omega) (by omega)
    have f2 := fun W => ra (y + 1) 1 W (by omega) (by omega) (by omega) (by omega)
    have e1 : ahd y (pFrom 1 m) = ahd y 1 := rfl
    have e2 : ahd y (pTo 1 m) = ahd (y + 1) 1 := by rw [ahd_year]; exact ahd_next y y1
    rw [e1, e2]
    clear e1 e2 ra
    go_enter Tryd.func23, Tryd.ntmps23
    go_wp2_with (go_at_call 15; refine (pa _).mono ?_; rintro e w2 ⟨rfl, rfl⟩)
    go_at_call 28
    refine (f1 _).mono ?_
    rintro e w2 ⟨rfl, rfl⟩
    go_wp2_with fail
    go_at_call 28
    refine (f2 _).mono ?_
    rintro e w2 ⟨rfl, rfl⟩
    go_wp2_with fail
    refine bodyPost_ret (v := .tuple #[.agg #[.int .i64 (ahd y 1), .int .i64 (ahd (y + 1) 1)], .int .i64 0]) (by simp [results, Tryd.results23, go_sem]) rfl ⟨rfl, ?_⟩
    exact (Below.refl _ _).alloc (Nat.le_refl _) _
  · obtain ⟨q, hq⟩ : ∃ q, m - (m - 1) % 3 = q := ⟨_, rfl⟩
    have e1 : pFrom 2 m = q := hq
    have e2 : pTo 2 m = q + 3 := by rw [← hq]; rfl
    rw [e1, e2]
    clear e1 e2
    have q1 : 1 ≤ q := by omega
    have q2 : q ≤ 10 := by omega
    have HQ : Hid (m - (m - 1) % 3 = q) := hq
    clear hq
    go_enter Tryd.func23, Tryd.ntmps23
    go_wp2_with (go_at_call 15; refine (pa _).mono ?_; rintro e w2 ⟨rfl, rfl⟩)
    go_loop [10] (fun f => ∃ F : Int, f = .int .i64 F ∧ 1 ≤ F ∧ F ≤ m ∧ (F - 1) % 3 = 0) (fun f => (13 - intOf f).toNat)
    case atStart => exact ⟨1, rfl, by omega, by omega, by omega⟩
    case round =>
      obtain ⟨F, rfl, F1, F2, F3⟩ := hrel
      have HF : Hid ((F - 1) % 3 = 0) := F3
      clear F3
      by_cases hc : F + 3 ≤ m
      · go_wp2
        go_round
        case rel => exact ⟨F + 3, rfl, by omega, by omega, by have := HF.out; omega⟩
        case measure => simp [intOf]; omega
      · obtain rfl : F = q := by have := HF.out; have := HQ.out; omega
        clear HF HQ
        go_wp2_with fail
        go_at_call 28
        refine (ra y F _ (by omega) (by omega) (by omega) (by omega)).mono ?_
        rintro e w2 ⟨rfl, rfl⟩
        go_wp2_with fail
        go_at_call 28
        refine (ra y (F + 3) _ (by omega) (by omega) (by omega) (by omega)).mono ?_
        rintro e w2 ⟨rfl, rfl⟩
        go_wp2_with fail
        refine bodyPost_ret (v := .tuple #[.agg #[.int .i64 (ahd y F), .int .i64 (ahd y (F + 3))], .int .i64 0]) (by simp [results, Tryd.results23, go_sem]) rfl ⟨rfl, ?_⟩
        exact (Below.refl _ _).alloc (Nat.le_refl _) _
  · have f1 := fun W => ra y m W (by omega) (by omega) (by omega) (by omega)
    have f2 := fun W => ra y (m + 1) W (by omega) (by omega) (by omega) (by omega)
    have e1 : pFrom 3 m = m := rfl
    have e2 : pTo 3 m = m + 1 := rfl
    rw [e1, e2]
    clear e1 e2 ra
    go_enter Tryd.func23, Tryd.ntmps23
    go_wp2_with (go_at_call 15; refine (pa _).mono ?_; rintro e w2 ⟨rfl, rfl⟩)
    go_at_call 28
    refine (f1 _).mono ?_
    rintro e w2 ⟨rfl, rfl⟩
    go_wp2_with fail
    go_at_call 28
    refine (f2 _).mono ?_
    rintro e w2 ⟨rfl, rfl⟩
    go_wp2_with fail
    refine bodyPost_ret (v := .tuple #[.agg #[.int .i64 (ahd y m), .int .i64 (ahd y (m + 1))], .int .i64 0]) (by simp [results, Tryd.results23, go_sem]) rfl ⟨rfl, ?_⟩
    exact (Below.refl _ _).alloc (Nat.le_refl _) _
end Go.Proofs.YtlebkdmkofgdpaaDoor
