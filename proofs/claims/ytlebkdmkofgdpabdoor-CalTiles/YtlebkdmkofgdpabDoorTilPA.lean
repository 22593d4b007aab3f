/-
  Periods in numbers: which days lie in one, where the next one begins, how many days and months it has.
-/
import Derived.Test.YtlebkdmkofgdpabDoorCa3
namespace Go.Proofs.YtlebkdmkofgdpabDoor
open Go.RowKit
set_option linter.unusedVariables false

/-- A period from the month a up to the month b of a year. -/
structure Per (p a b : Int) : Prop where
  a1 : 1 ≤ a
  ab : a < b
  b13 : b ≤ 13
  fr : ∀ m, a ≤ m → m < b → pFrom p m = a
  tt : ∀ m, a ≤ m → m < b → pTo p m = b
  up : b ≤ 12 → pFrom p b = b
  one : pFrom p 1 = 1
  cnt : (p = 1 ∧ a = 1 ∧ b = 13) ∨ (p = 2 ∧ b = a + 3 ∧ (a = 1 ∨ a = 4 ∨ a = 7 ∨ a = 10)) ∨ (p = 3 ∧ b = a + 1)
theorem per_of {p m : Int} (hp : p = 1 ∨ p = 2 ∨ p = 3) (h1 : 1 ≤ m) (h2 : m ≤ 12) : Per p (pFrom p m) (pTo p m) ∧ pFrom p m ≤ m ∧ m < pTo p m := by
  rcases hp with rfl | rfl | rfl
  · have e1 : ∀ m, pFrom 1 m = 1 := fun _ => rfl
    have e2 : ∀ m, pTo 1 m = 13 := fun _ => rfl
    rw [e1, e2]
    exact ⟨⟨by omega, by omega, by omega, fun _ _ _ => rfl, fun _ _ _ => rfl, fun h => by omega, rfl, by omega⟩, by omega, by omega⟩
  · have e1 : ∀ m, pFrom 2 m = m - (m - 1) % 3 := fun _ => rfl
    have e2 : ∀ m, pTo 2 m = m - (m - 1) % 3 + 3 := fun _ => rfl
    rw [e1, e2]
    refine ⟨⟨by omega, by omega, by omega, fun x _ _ => ?_, fun x _ _ => ?_, fun h => ?_, rfl, by omega⟩, by omega, by omega⟩
    · rw [e1]; omega
    · rw [e2]; omega
    · rw [e1]; omega
  · have e1 : ∀ m, pFrom 3 m = m := fun _ => rfl
    have e2 : ∀ m, pTo 3 m = m + 1 := fun _ => rfl
    rw [e1, e2]
    refine ⟨⟨by omega, by omega, by omega, fun x _ _ => ?_, fun x _ _ => ?_, fun h => ?_, rfl, by omega⟩, by omega, by omega⟩
    · rw [e1]; omega
    · rw [e2]; omega
    · rw [e1]
theorem ahd_mono {y a b : Int} (h1 : 1 ≤ a) (h : a ≤ b) (h2 : b ≤ 13) : ahd y a ≤ ahd y b := by unfold ahd; have := cum_mono y a b h1 h h2; omega
theorem ahd_lt {y a b : Int} (h1 : 1 ≤ a) (h : a < b) (h2 : b ≤ 13) : ahd y a < ahd y b := by
  unfold ahd; have := cum_lt y a b h1 h h2; have := dim_bd y a; omega
/-- A day that lies in a period. -/
theorem per_in {y x p a b : Int} (hP : Per p a b) (y1 : 1 ≤ y) (y2 : y ≤ 9999) (h1 : ahd y a ≤ x) (h2 : x < ahd y b) : ∃ m k, Dt x y m k ∧ pFrom p m = a ∧ pTo p m = b := by
  obtain ⟨a1, ab, b13, fr, tt, up, one, cnt⟩ := hP
  have u1 := ahd_bd y1 y2 a1 (by omega)
  have u2 := ahd_bd (m := b) y1 y2 (by omega) b13
  obtain ⟨y', m', k', hD⟩ := dt_any (d := x) (by omega) (by omega)
  have v1 := ahd_mono (y := y) (a := 1) (b := a) (by omega) a1 (by omega)
  have v2 := ahd_mono (y := y) (a := b) (b := 13) (by omega) b13 (by omega)
  rw [ahd_year] at v1; rw [ahd_next y y1] at v2
  have hy := hD.year_eq y1 (by omega) (by omega)
  subst hy
  have m1 := hD.m1; have m2 := hD.m2; have k1 := hD.k1; have k2 := hD.k2; have hat := hD.at_
  have hs := ahd_succ y m' m1 m2
  have g1 : a ≤ m' := by
    rcases Int.lt_or_le m' a with h | h
    · have := ahd_mono (y := y) (a := m' + 1) (b := a) (by omega) (by omega) (by omega); omega
    · exact h
  have g2 : m' < b := by
    rcases Int.lt_or_le m' b with h | h
    · exact h
    · have := ahd_mono (y := y) (a := b) (b := m') (by omega) h (by omega); omega
  exact ⟨m', k', hD, fr m' g1 g2, tt m' g1 g2⟩
/-- The period behind another one. -/
theorem per_next {y p a b : Int} (hP : Per p a b) (y1 : 1 ≤ y) (y2 : y ≤ 9999) (h : ahd y b ≤ 3652058) : ∃ y' m k, Dt (ahd y b) y' m k ∧ ahd y' (pFrom p m) = ahd y b := by
  obtain ⟨a1, ab, b13, fr, tt, up, one, cnt⟩ := hP
  by_cases hb : b ≤ 12
  · have := dim_bd y b
    exact ⟨y, b, 1, ⟨y1, y2, by omega, hb, by omega, by omega, by omega⟩, by rw [up hb]⟩
  · obtain rfl : b = 13 := by omega
    have e := ahd_next y y1
    have hy : y < 9999 := by
      rcases Int.lt_or_le y 9999 with h' | h'
      · exact h'
      · obtain rfl : y = 9999 := by omega
        have := dby_top
        rw [show (9999 : Int) + 1 = 10000 from rfl] at e
        omega
    have := dim_bd (y + 1) 1
    exact ⟨y + 1, 1, 1, ⟨by omega, by omega, by omega, by omega, by omega, by omega, by rw [ahd_year]; omega⟩, by rw [one, ahd_year, e]⟩
/-- How many days it has. -/
theorem per_days {y p a b : Int} (hP : Per p a b) : (p = 1 ∧ b - a = 12 ∧ (ahd y b - ahd y a = 365 ∨ ahd y b - ahd y a = 366)) ∨ (p = 2 ∧ b - a = 3 ∧ 90 ≤ ahd y b - ahd y a ∧ ahd y b - ahd y a ≤ 92) ∨ (p = 3 ∧ b - a = 1 ∧ 28 ≤ ahd y b - ahd y a ∧ ahd y b - ahd y a ≤ 31) := by
  have hl := lp_01 y
  obtain ⟨a1, ab, b13, fr, tt, up, one, cnt⟩ := hP
  rcases cnt with ⟨rfl, rfl, rfl⟩ | ⟨rfl, rfl, h⟩ | ⟨rfl, rfl⟩
  · refine Or.inl ⟨rfl, by omega, ?_⟩
    unfold ahd; rw [cum_one, cum_all]; omega
  · refine Or.inr (Or.inl ⟨rfl, by omega, ?_⟩)
    unfold ahd cum
    rcases h with rfl | rfl | rfl | rfl <;> simp <;> omega
  · refine Or.inr (Or.inr ⟨rfl, by omega, ?_⟩)
    rw [ahd_succ y a a1 (by omega)]
    have := dim_bd y a
    omega
theorem dt_first {y j : Int} (y1 : 1 ≤ y) (y2 : y ≤ 9999) (h1 : 1 ≤ j) (h2 : j ≤ 12) : Dt (ahd y j) y j 1 := by
  have := dim_bd y j
  exact ⟨y1, y2, h1, h2, by omega, by omega, by omega⟩
end Go.Proofs.YtlebkdmkofgdpabDoor
