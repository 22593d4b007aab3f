/-
  calendar: Parts at a day's own numbers, Months, Period.
-/
import Derived.Test.YtlebkdmkofgdpaaDoorCa2
namespace Go.Proofs.YtlebkdmkofgdpaaDoor
open Go.RowKit
set_option linter.unusedVariables false

theorem dt_zero : Dt 0 1 1 1 := ⟨by omega, by omega, by omega, by omega, by omega, by decide, by decide⟩
theorem dt_nat (n : Nat) (h : n ≤ 3652058) : ∃ y m k, Dt n y m k := by
  induction n with
  | zero => exact ⟨1, 1, 1, dt_zero⟩
  | succ n ih =>
    obtain ⟨y, m, k, hD⟩ := ih (by omega)
    rcases hD.next (by omega) with ⟨_, h2⟩ | ⟨_, _, h2⟩ | ⟨_, _, h2⟩
    all_goals exact ⟨_, _, _, h2⟩
theorem dt_any {d : Int} (h0 : 0 ≤ d) (h : d ≤ 3652058) : ∃ y m k, Dt d y m k := by
  have := dt_nat d.toNat (by omega)
  rw [show ((d.toNat : Nat) : Int) = d by omega] at this
  exact this
theorem parts_at {d y m k : Int} (hD : Dt d y m k) (w : World) (hT : Tl w) :
    Calls Tryd.prog 14 #[.int .i64 d] w fun e w' => e = .returned (.tuple #[.int .i64 y, .int .i64 m, .int .i64 k, .int .i64 0]) ∧ w' = w := by
  obtain ⟨h0, h1⟩ := hD.there
  refine (parts_yes d w h0 h1 hT).mono ?_
  rintro e w' ⟨y', m', k', rfl, hD', rfl⟩
  obtain ⟨rfl, rfl, rfl⟩ := hD.unique hD'
  exact ⟨rfl, rfl⟩
/-- The number of a month, from that of the year 1 on. -/
def ser (y m : Int) : Int := 12 * (y - 1) + (m - 1)
/-- The day of a number in a month, or the last one. -/
def cutD (s k : Int) : Int := if k ≤ dim (1 + s / 12) (1 + s % 12) then k else dim (1 + s / 12) (1 + s % 12)
theorem cutD_ok {s k : Int} (h0 : 0 ≤ s) (h1 : s ≤ 119987) (hk : 1 ≤ k) : Ok3 (1 + s / 12) (1 + s % 12) (cutD s k) := by
  have := dim_bd (1 + s / 12) (1 + s % 12)
  refine ⟨by omega, by omega, by omega, by omega, ?_, ?_⟩
  · unfold cutD; split <;> omega
  · unfold cutD; split <;> omega
def moD (s k : Int) : Int := ahd (1 + s / 12) (1 + s % 12) + (cutD s k - 1)
theorem moD_dt {s k : Int} (h0 : 0 ≤ s) (h1 : s ≤ 119987) (hk : 1 ≤ k) : Dt (moD s k) (1 + s / 12) (1 + s % 12) (cutD s k) := (cutD_ok h0 h1 hk).dt
theorem ser_bd {d y m k : Int} (h : Dt d y m k) : 0 ≤ ser y m ∧ ser y m ≤ 119987 := by
  have := h.y1; have := h.y2; have := h.m1; have := h.m2
  unfold ser; omega
theorem ser_back {d y m k : Int} (h : Dt d y m k) : 1 + ser y m / 12 = y ∧ 1 + ser y m % 12 = m := by
  have := h.m1; have := h.m2
  unfold ser; omega
set_option maxHeartbeats 1000000 in
theorem months_ok {d y m k : Int} (hD : Dt d y m k) (n : Int) (w : World) (hT : Tl w) (h0 : 0 ≤ ser y m + n) (h1 : ser y m + n ≤ 119987) :
    Calls Tryd.prog 21 #[.int .i64 d, .int .i64 n] w fun e w' => e = .returned (.tuple #[.int .i64 (moD (ser y m + n) k), .int .i64 0]) ∧ w' = w := by
  have pa := parts_at hD w hT
  have y1 := hD.y1; have y2 := hD.y2; have m1 := hD.m1; have m2 := hD.m2; have k1 := hD.k1; have k2 := hD.k2
  have kb := dim_bd y m
  obtain ⟨s, hs⟩ : ∃ s, ser y m + n = s := ⟨_, rfl⟩
  rw [hs] at h0 h1 ⊢
  have hse : (y - 1) * 12 + m - 1 + n = s := by rw [← hs]; unfold ser; omega
  have la := length_any (1 + s / 12) (1 + s % 12).toNat w (by omega) (by omega) (by omega) (by omega) hT
  rw [show (((1 + s % 12).toNat : Nat) : Int) = 1 + s % 12 by omega] at la
  have oy := of_yes _ _ _ w (cutD_ok h0 h1 k1) hT
  have db := dim_bd (1 + s / 12) (1 + s % 12)
  have HS : Hid (ser y m + n = s) := hs
  have hn1 : ¬ n < -((y - 1) * 12 + m - 1) := by omega
  have hn2 : ¬ 119987 - ((y - 1) * 12 + m - 1) < n := by omega
  clear hs hT
  by_cases hk : k ≤ dim (1 + s / 12) (1 + s % 12)
  · have hcut : cutD s k = k := by unfold cutD; rw [if_pos hk]
    unfold moD
    rw [hcut] at oy ⊢
    clear hcut
    go_enter Tryd.func21, Tryd.ntmps21
    go_wp2_with (first
      | (go_at_call 14; refine pa.mono ?_; rintro e w2 ⟨rfl, rfl⟩)
      | (go_at_call 24; refine la.mono ?_; rintro e w2 ⟨rfl, rfl⟩)
      | (go_at_call 9; refine oy.mono ?_; rintro e w2 ⟨rfl, rfl⟩))
    go_ret2
    exact ⟨rfl, rfl⟩
  · have hcut : cutD s k = dim (1 + s / 12) (1 + s % 12) := by unfold cutD; rw [if_neg hk]
    unfold moD
    rw [hcut] at oy ⊢
    clear hcut
    go_enter Tryd.func21, Tryd.ntmps21
    go_wp2_with (first
      | (go_at_call 14; refine pa.mono ?_; rintro e w2 ⟨rfl, rfl⟩)
      | (go_at_call 24; refine la.mono ?_; rintro e w2 ⟨rfl, rfl⟩)
      | (go_at_call 9; refine oy.mono ?_; rintro e w2 ⟨rfl, rfl⟩))
    go_ret2
    exact ⟨rfl, rfl⟩
theorem months_out {d y m k : Int} (hD : Dt d y m k) (n : Int) (w : World) (hT : Tl w) (hn : -9223372036854775808 ≤ n) (hn' : n ≤ 9223372036854775807) (h : ¬ (0 ≤ ser y m + n ∧ ser y m + n ≤ 119987)) :
    Calls Tryd.prog 21 #[.int .i64 d, .int .i64 n] w fun e w' => e = .returned (.tuple #[.int .i64 0, .int .i64 100]) ∧ w' = w := by
  have pa := parts_at hD w hT
  have y1 := hD.y1; have y2 := hD.y2; have m1 := hD.m1; have m2 := hD.m2
  unfold ser at h
  by_cases h0 : n < -((y - 1) * 12 + m - 1)
  · clear h hT
    go_enter Tryd.func21, Tryd.ntmps21
    go_wp2_with (go_at_call 14; refine pa.mono ?_; rintro e w2 ⟨rfl, rfl⟩)
    go_ret2
    exact ⟨rfl, rfl⟩
  · have h1 : 119987 - ((y - 1) * 12 + m - 1) < n := by omega
    clear h hT
    go_enter Tryd.func21, Tryd.ntmps21
    go_wp2_with (go_at_call 14; refine pa.mono ?_; rintro e w2 ⟨rfl, rfl⟩)
    go_ret2
    exact ⟨rfl, rfl⟩
theorem months_no (d n : Int) (w : World) (h : ¬ (0 ≤ d ∧ d ≤ 3652058)) :
    Calls Tryd.prog 21 #[.int .i64 d, .int .i64 n] w fun e w' => e = .returned (.tuple #[.int .i64 0, .int .i64 100]) ∧ w' = w := by
  have pa := parts_no d w h
  go_enter Tryd.func21, Tryd.ntmps21
  go_wp2_with (go_at_call 14; refine pa.mono ?_; rintro e w2 ⟨rfl, rfl⟩)
  go_ret2
  exact ⟨rfl, rfl⟩
theorem belo2 {B : Nat} {a w : World} (h : Below B a w) {c : Nat} (hc : B ≤ c) (x y : Value) : Below B a ((w.setCell ⟨c, 0, none⟩ x).setCell ⟨c, 1, none⟩ y) :=
  (h.setCell (p := ⟨c, 0, none⟩) hc x).setCell (p := ⟨c, 1, none⟩) hc y
theorem period_no (d p : Int) (w : World) (h : ¬ (0 ≤ d ∧ d ≤ 3652058)) :
    Calls Tryd.prog 11 #[.int .i64 d, .int .i64 p] w fun e w' => e = .returned (.tuple #[.agg #[.int .i64 0, .int .i64 0], .int .i64 100]) ∧ Below w.heap.size w w' := by
  have pa := fun W => parts_no d W h
  go_enter Tryd.func11, Tryd.ntmps11
  go_wp2_with (go_at_call 14; refine (pa _).mono ?_; rintro e w2 ⟨rfl, rfl⟩)
  refine bodyPost_ret (v := .tuple #[.agg #[.int .i64 0, .int .i64 0], .int .i64 100]) (by simp [results, Tryd.results11, go_sem]) rfl ⟨rfl, ?_⟩
  exact (Below.refl _ _).alloc (Nat.le_refl _) _
theorem period_arg {d y m k : Int} (hD : Dt d y m k) (p : Int) (w : World) (hT : Tl w) (h1 : ¬ p = 1) (h2 : ¬ p = 2) (h3 : ¬ p = 3) :
    Calls Tryd.prog 11 #[.int .i64 d, .int .i64 p] w fun e w' => e = .returned (.tuple #[.agg #[.int .i64 0, .int .i64 0], .int .i64 2]) ∧ Below w.heap.size w w' := by
  have pa := fun W => parts_at hD W
  have b1 : (p == 1) = false := by simpa using h1
  have b2 : (p == 2) = false := by simpa using h2
  have b3 : (p == 3) = false := by simpa using h3
  go_enter Tryd.func11, Tryd.ntmps11
  go_wp2_with (go_at_call 14; refine (pa _ (hT.to ((Below.refl _ _).alloc (Nat.le_refl _) _))).mono ?_; rintro e w2 ⟨rfl, rfl⟩)
  refine bodyPost_ret (v := .tuple #[.agg #[.int .i64 0, .int .i64 0], .int .i64 2]) (by simp [results, Tryd.results11, go_sem]) rfl ⟨rfl, ?_⟩
  exact (Below.refl _ _).alloc (Nat.le_refl _) _
/-- The period's first month, and the one behind its last one. -/
def pFrom (p m : Int) : Int := if p = 1 then 1 else if p = 2 then m - (m - 1) % 3 else m
def pTo (p m : Int) : Int := if p = 1 then 13 else if p = 2 then m - (m - 1) % 3 + 3 else m + 1
set_option maxHeartbeats 1000000 in
theorem period_yes {d y m k : Int} (hD : Dt d y m k) (p : Int) (w : World) (hT : Tl w) (hp : p = 1 ∨ p = 2 ∨ p = 3) :
    Calls Tryd.prog 11 #[.int .i64 d, .int .i64 p] w fun e w' => e = .returned (.tuple #[.agg #[.int .i64 (ahd y (pFrom p m)), .int .i64 (ahd y (pTo p m))], .int .i64 0]) ∧ Below w.heap.size w w' := by
  have pa := fun W => parts_at hD W
  have y1 := hD.y1; have y2 := hD.y2; have m1 := hD.m1; have m2 := hD.m2
  rcases hp with rfl | rfl | rfl
  · have f1 := fun W h => first_any y 1 W (by omega) (by omega) (by omega) (by omega) h
    have f2 := fun W h => first_any (y + 1) 1 W (by omega) (by omega) (by omega) (by omega) h
    have e1 : ahd y (pFrom 1 m) = ahd y 1 := rfl
    have e2 : ahd y (pTo 1 m) = ahd (y + 1) 1 := by rw [ahd_year]; exact ahd_next y y1
    rw [e1, e2]
    clear e1 e2
    go_enter Tryd.func11, Tryd.ntmps11
    go_wp2_with (go_at_call 14; refine (pa _ (hT.to ((Below.refl _ _).alloc (Nat.le_refl _) _))).mono ?_; rintro e w2 ⟨rfl, rfl⟩)
    go_at_call 25
    refine (f1 _ (hT.to ((Below.refl _ _).alloc (Nat.le_refl _) _))).mono ?_
    rintro e w2 ⟨rfl, rfl⟩
    go_wp2_with fail
    go_at_call 25
    refine (f2 _ (hT.to ((Below.refl _ _).alloc (Nat.le_refl _) _))).mono ?_
    rintro e w2 ⟨rfl, rfl⟩
    go_wp2_with fail
    refine bodyPost_ret (v := .tuple #[.agg #[.int .i64 (ahd y 1), .int .i64 (ahd (y + 1) 1)], .int .i64 0]) (by simp [results, Tryd.results11, go_sem]) rfl ⟨rfl, ?_⟩
    exact (Below.refl _ _).alloc (Nat.le_refl _) _
  · obtain ⟨q, hq⟩ : ∃ q, m - (m - 1) % 3 = q := ⟨_, rfl⟩
    have f1 := fun W h => first_any y q.toNat W (by omega) (by omega) (by omega) (by omega) h
    have f2 := fun W h => first_any y (q + 3).toNat W (by omega) (by omega) (by omega) (by omega) h
    have e1 : pFrom 2 m = q := hq
    have e2 : pTo 2 m = q + 3 := by rw [← hq]; rfl
    rw [show ((q.toNat : Nat) : Int) = q by omega] at f1
    rw [show (((q + 3).toNat : Nat) : Int) = q + 3 by omega] at f2
    rw [e1, e2]
    clear e1 e2
    have q1 : 1 ≤ q := by omega
    have q2 : q ≤ 10 := by omega
    go_enter Tryd.func11, Tryd.ntmps11
    go_wp2_with (go_at_call 14; refine (pa _ (hT.to ((Below.refl _ _).alloc (Nat.le_refl _) _))).mono ?_; rintro e w2 ⟨rfl, rfl⟩)
    go_at_call 25
    refine (f1 _ (hT.to ((Below.refl _ _).alloc (Nat.le_refl _) _))).mono ?_
    rintro e w2 ⟨rfl, rfl⟩
    go_wp2_with fail
    go_at_call 25
    refine (f2 _ (hT.to ((Below.refl _ _).alloc (Nat.le_refl _) _))).mono ?_
    rintro e w2 ⟨rfl, rfl⟩
    go_wp2_with fail
    refine bodyPost_ret (v := .tuple #[.agg #[.int .i64 (ahd y q), .int .i64 (ahd y (q + 3))], .int .i64 0]) (by simp [results, Tryd.results11, go_sem]) rfl ⟨rfl, ?_⟩
    exact (Below.refl _ _).alloc (Nat.le_refl _) _
  · have f1 := fun W h => first_any y m.toNat W (by omega) (by omega) (by omega) (by omega) h
    have f2 := fun W h => first_any y (m + 1).toNat W (by omega) (by omega) (by omega) (by omega) h
    have e1 : pFrom 3 m = m := rfl
    have e2 : pTo 3 m = m + 1 := rfl
    rw [show ((m.toNat : Nat) : Int) = m by omega] at f1
    rw [show (((m + 1).toNat : Nat) : Int) = m + 1 by omega] at f2
    rw [e1, e2]
    clear e1 e2
    go_enter Tryd.func11, Tryd.ntmps11
    go_wp2_with (go_at_call 14; refine (pa _ (hT.to ((Below.refl _ _).alloc (Nat.le_refl _) _))).mono ?_; rintro e w2 ⟨rfl, rfl⟩)
    go_at_call 25
    refine (f1 _ (hT.to ((Below.refl _ _).alloc (Nat.le_refl _) _))).mono ?_
    rintro e w2 ⟨rfl, rfl⟩
    go_wp2_with fail
    go_at_call 25
    refine (f2 _ (hT.to ((Below.refl _ _).alloc (Nat.le_refl _) _))).mono ?_
    rintro e w2 ⟨rfl, rfl⟩
    go_wp2_with fail
    refine bodyPost_ret (v := .tuple #[.agg #[.int .i64 (ahd y m), .int .i64 (ahd y (m + 1))], .int .i64 0]) (by simp [results, Tryd.results11, go_sem]) rfl ⟨rfl, ?_⟩
    exact (Below.refl _ _).alloc (Nat.le_refl _) _
end Go.Proofs.YtlebkdmkofgdpaaDoor
