/-
  Days of the Gregorian calendar in numbers: leap years, lengths of months, days ahead of a year and of a month; which three numbers a day is. Plain Lean.
-/
namespace Go.Proofs.YtlebkdmkofgdpaaDoor
set_option linter.unusedVariables false

/-- Is it a leap year? -/
def lpB (y : Int) : Bool := decide ((y % 4 = 0 ∧ y % 100 ≠ 0) ∨ y % 400 = 0)
def lp (y : Int) : Int := if lpB y = true then 1 else 0
theorem lpB_iff (y : Int) : lpB y = true ↔ ((y % 4 = 0 ∧ y % 100 ≠ 0) ∨ y % 400 = 0) := by unfold lpB; simp
theorem lp_pos {y : Int} (h : lpB y = true) : lp y = 1 := by unfold lp; rw [if_pos h]
theorem lp_not {y : Int} (h : lpB y = false) : lp y = 0 := by unfold lp; rw [h]; rfl
theorem lp_01 (y : Int) : 0 ≤ lp y ∧ lp y ≤ 1 := by unfold lp; split <;> omega
/-- How many days a month has. -/
def dim (y m : Int) : Int := if m = 2 then 28 + lp y else if m = 4 ∨ m = 6 ∨ m = 9 ∨ m = 11 then 30 else 31
theorem dim_bd (y m : Int) : 28 ≤ dim y m ∧ dim y m ≤ 31 := by
  have := lp_01 y
  unfold dim
  split
  · omega
  · split <;> omega
/-- The days ahead of a year. -/
def dby (y : Int) : Int := 365 * (y - 1) + (y - 1) / 4 - (y - 1) / 100 + (y - 1) / 400
theorem dby_succ (y : Int) (h : 1 ≤ y) : dby (y + 1) = dby y + 365 + lp y := by
  unfold dby
  cases hl : lpB y
  · rw [lp_not hl]
    have h2 : ¬ ((y % 4 = 0 ∧ y % 100 ≠ 0) ∨ y % 400 = 0) := fun h' => by have := (lpB_iff y).2 h'; rw [hl] at this; cases this
    omega
  · rw [lp_pos hl]
    have h2 := (lpB_iff y).1 hl
    omega
theorem dby_one : dby 1 = 0 := by decide
theorem dby_top : dby 10000 = 3652059 := by decide
theorem dby_mono {a b : Int} (h0 : 1 ≤ a) (h : a ≤ b) : dby a ≤ dby b := by unfold dby; omega
theorem dby_lt {a b : Int} (h0 : 1 ≤ a) (h : a < b) : dby a + 365 + lp a ≤ dby b := by
  rw [← dby_succ a h0]; exact dby_mono (by omega) (by omega)
theorem dby_bd {a : Int} (h0 : 1 ≤ a) (h : a ≤ 10000) : 0 ≤ dby a ∧ dby a ≤ 3652059 := by
  have h1 := dby_mono (a := 1) (b := a) (by omega) h0
  have h2 := dby_mono h0 h
  rw [dby_one] at h1; rw [dby_top] at h2
  exact ⟨h1, h2⟩
theorem dby_guess {d : Int} (h : 0 ≤ d) : dby (1 + d / 366) ≤ d := by unfold dby; omega
/-- The days ahead of a month in its year. -/
def cum (y m : Int) : Int := (367 * m - 362) / 12 - (if m ≤ 2 then 0 else 2 - lp y)
theorem cum_one (y : Int) : cum y 1 = 0 := by unfold cum; rw [if_pos (by omega)]; rfl
theorem cum_all (y : Int) : cum y 13 = 365 + lp y := by unfold cum; rw [if_neg (by omega)]; omega
theorem months (m : Int) (h1 : 1 ≤ m) (h2 : m ≤ 12) : m = 1 ∨ m = 2 ∨ m = 3 ∨ m = 4 ∨ m = 5 ∨ m = 6 ∨ m = 7 ∨ m = 8 ∨ m = 9 ∨ m = 10 ∨ m = 11 ∨ m = 12 := by omega
theorem cum_succ (y m : Int) (h1 : 1 ≤ m) (h2 : m ≤ 12) : cum y (m + 1) = cum y m + dim y m := by
  unfold cum dim
  rcases months m h1 h2 with h | h | h | h | h | h | h | h | h | h | h | h <;> subst h <;> simp <;> omega
theorem cum_bd (y m : Int) (h1 : 1 ≤ m) (h2 : m ≤ 13) : 0 ≤ cum y m ∧ cum y m ≤ 365 + lp y := by
  have := lp_01 y
  unfold cum
  split <;> omega
theorem cum_mono (y a b : Int) (h0 : 1 ≤ a) (h : a ≤ b) (hb : b ≤ 13) : cum y a ≤ cum y b := by
  have := lp_01 y
  unfold cum
  split <;> split <;> omega
theorem cum_lt (y a b : Int) (h0 : 1 ≤ a) (h : a < b) (hb : b ≤ 13) : cum y a + dim y a ≤ cum y b := by
  rw [← cum_succ y a h0 (by omega)]
  exact cum_mono y _ _ (by omega) (by omega) hb
/-- The first day of a month. -/
def ahd (y m : Int) : Int := dby y + cum y m
theorem ahd_year (y : Int) : ahd y 1 = dby y := by unfold ahd; rw [cum_one]; omega
theorem ahd_next (y : Int) (h : 1 ≤ y) : ahd y 13 = dby (y + 1) := by unfold ahd; rw [cum_all, dby_succ y h]; omega
theorem ahd_succ (y m : Int) (h1 : 1 ≤ m) (h2 : m ≤ 12) : ahd y (m + 1) = ahd y m + dim y m := by unfold ahd; rw [cum_succ y m h1 h2]; omega
theorem ahd_bd {y m : Int} (h0 : 1 ≤ y) (h : y ≤ 9999) (h1 : 1 ≤ m) (h2 : m ≤ 13) : 0 ≤ ahd y m ∧ ahd y m ≤ 3652059 := by
  have a := dby_bd h0 (by omega)
  have b := dby_succ y h0
  have c := (dby_bd (a := y + 1) (by omega) (by omega)).2
  have e := cum_bd y m h1 h2
  unfold ahd
  omega
/-- The day d is the k-th of the month m of the year y. -/
structure Dt (d y m k : Int) : Prop where
  y1 : 1 ≤ y
  y2 : y ≤ 9999
  m1 : 1 ≤ m
  m2 : m ≤ 12
  k1 : 1 ≤ k
  k2 : k ≤ dim y m
  at_ : ahd y m + (k - 1) = d
theorem Dt.there {d y m k : Int} (h : Dt d y m k) : 0 ≤ d ∧ d ≤ 3652058 := by
  have a := ahd_bd h.y1 h.y2 h.m1 (by have := h.m2; omega)
  have b := ahd_bd (m := m + 1) h.y1 h.y2 (by have := h.m1; omega) (by have := h.m2; omega)
  rw [ahd_succ y m h.m1 h.m2] at b
  have := h.k1; have := h.k2; have := h.at_
  omega
theorem Dt.inYear {d y m k : Int} (h : Dt d y m k) : dby y ≤ d ∧ d < dby (y + 1) := by
  have a := cum_bd y m h.m1 (by have := h.m2; omega)
  have b := cum_lt y m 13 h.m1 (by have := h.m2; omega) (by omega)
  rw [cum_all] at b
  have := h.k1; have := h.k2; have := h.at_
  rw [dby_succ y h.y1]
  unfold ahd at this
  omega
theorem Dt.year_eq {d y m k y' : Int} (h : Dt d y m k) (h1 : 1 ≤ y') (h2 : dby y' ≤ d) (h3 : d < dby (y' + 1)) : y' = y := by
  obtain ⟨a, b⟩ := h.inYear
  have hy := h.y1
  rcases Int.lt_trichotomy y' y with h' | h' | h'
  · have := dby_mono (a := y' + 1) (b := y) (by omega) (by omega); omega
  · exact h'
  · have := dby_mono (a := y + 1) (b := y') (by omega) (by omega); omega
theorem Dt.unique {d y m k y' m' k' : Int} (h : Dt d y m k) (h' : Dt d y' m' k') : y' = y ∧ m' = m ∧ k' = k := by
  obtain ⟨a, b⟩ := h'.inYear
  have e := h.year_eq h'.y1 a b
  subst e
  have e2 : m' = m := by
    have p1 := h.at_; have p2 := h'.at_; have q1 := h.k1; have q2 := h'.k1; have r1 := h.k2; have r2 := h'.k2
    have u1 := h.m1; have u2 := h'.m1; have v1 := h.m2; have v2 := h'.m2
    unfold ahd at p1 p2
    rcases Int.lt_trichotomy m' m with h3 | h3 | h3
    · have := cum_lt y' m' m u2 h3 (by omega); omega
    · exact h3
    · have := cum_lt y' m m' u1 h3 (by omega); omega
  subst e2
  refine ⟨rfl, rfl, ?_⟩
  have p1 := h.at_; have p2 := h'.at_
  omega
theorem Dt.next {d y m k : Int} (h : Dt d y m k) (hd : d < 3652058) :
    (k < dim y m ∧ Dt (d + 1) y m (k + 1)) ∨ (k = dim y m ∧ m < 12 ∧ Dt (d + 1) y (m + 1) 1) ∨ (k = dim y m ∧ m = 12 ∧ Dt (d + 1) (y + 1) 1 1) := by
  obtain ⟨y1, y2, m1, m2, k1, k2, at_⟩ := h
  have hs := ahd_succ y m m1 m2
  by_cases h1 : k < dim y m
  · exact Or.inl ⟨h1, ⟨y1, y2, m1, m2, by omega, by omega, by omega⟩⟩
  · have hk : k = dim y m := by omega
    have hq := dim_bd y (m + 1)
    by_cases h2 : m < 12
    · exact Or.inr (Or.inl ⟨hk, h2, ⟨y1, y2, by omega, by omega, by omega, by omega, by omega⟩⟩)
    · have hm : m = 12 := by omega
      subst hm
      have h13 : ahd y (12 + 1) = dby (y + 1) := ahd_next y y1
      have ht : y < 9999 := by
        rcases Int.lt_or_le y 9999 with h' | h'
        · exact h'
        · have : y = 9999 := by omega
          subst this
          have := dby_top
          rw [show (9999 : Int) + 1 = 10000 by rfl] at h13
          omega
      have hq1 := dim_bd (y + 1) 1
      exact Or.inr (Or.inr ⟨hk, rfl, ⟨by omega, by omega, by omega, by omega, by omega, by omega, by rw [ahd_year]; omega⟩⟩)
end Go.Proofs.YtlebkdmkofgdpaaDoor
