/-
  Floats in a row: place k has the number fp k (in units of 2 ^ -1074); fpl x is the last place that is not above x, out of x's first 53 digits. Nearest: between a place and the next, by twice the number.
-/
import Derived.Test.YtogabmggdcefaaaGreatFlP
namespace Go.Proofs.YtogabmggdcefaaaGreat
set_option linter.unusedVariables false

/-- The number of a place in the row. -/
def fp (k : Int) : Int := if 0 ≤ k then (fi k.toNat : Int) else -(fi (-k).toNat : Int)
theorem fp_neg (k : Int) : fp (-k) = -fp k := by
  unfold fp
  by_cases h : k = 0
  · rw [h]; rfl
  by_cases g : 0 ≤ k
  · rw [if_neg (by omega), if_pos g]; simp
  · rw [if_pos (by omega), if_neg g]; simp
theorem fp_lt {j k : Int} (h : j < k) : fp j < fp k := by
  unfold fp
  by_cases g : 0 ≤ j
  · rw [if_pos g, if_pos (by omega)]
    have := @fi_lt j.toNat k.toNat (by omega)
    omega
  · rw [if_neg g]
    have p := @fi_pos (-j).toNat (by omega)
    by_cases g2 : 0 ≤ k
    · rw [if_pos g2]; omega
    · rw [if_neg g2]
      have := @fi_lt (-k).toNat (-j).toNat (by omega)
      omega
theorem fp_lt_iff {j k : Int} : fp j < fp k ↔ j < k := by
  constructor
  · intro h
    by_cases g : j < k
    · exact g
    · by_cases g2 : k < j
      · have := fp_lt g2; omega
      · have : j = k := by omega
        rw [this] at h; omega
  · exact fp_lt
theorem fp_le_iff {j k : Int} : fp j ≤ fp k ↔ j ≤ k := by
  have := @fp_lt_iff k j; omega
/-- The last rung that is not above n. -/
def flr (n : Nat) : Nat := if n < 9007199254740992 then n else (n.log2 - 52) * 4503599627370496 + n / 2 ^ (n.log2 - 52)
theorem flr_cell (n : Nat) : fi (flr n) ≤ n ∧ n < fi (flr n + 1) := by
  unfold flr
  by_cases g : n < 9007199254740992
  · rw [if_pos g]
    have := fi_cell 0 n n (.inl rfl) g (by simp) (by simp)
    simpa using this
  · rw [if_neg g]
    have n0 : n ≠ 0 := by omega
    have hl := (Nat.log2_eq_iff n0).1 rfl
    have l52 : 53 ≤ n.log2 := by
      rcases Nat.lt_or_ge n.log2 53 with c | c
      · have := Nat.pow_le_pow_right (show 0 < 2 by decide) (show n.log2 + 1 ≤ 53 by omega)
        have e : (2 : Nat) ^ 53 = 9007199254740992 := by decide
        omega
      · exact c
    generalize hd : n.log2 - 52 = e at *
    have z : 0 < 2 ^ e := Nat.pow_pos (by decide)
    have e1 : 2 ^ n.log2 = 4503599627370496 * 2 ^ e := by
      have : (4503599627370496 : Nat) = 2 ^ 52 := by decide
      rw [this, ← Nat.pow_add]; congr 1; omega
    have e2 : 2 ^ (n.log2 + 1) = 9007199254740992 * 2 ^ e := by
      have : (9007199254740992 : Nat) = 2 ^ 53 := by decide
      rw [this, ← Nat.pow_add]; congr 1; omega
    rw [e1, e2] at hl
    refine fi_cell e _ n (.inr ?_) ?_ ?_ ?_
    · exact (Nat.le_div_iff_mul_le z).2 hl.1
    · exact (Nat.div_lt_iff_lt_mul z).2 hl.2
    · exact Nat.div_mul_le_self n _
    · rw [Nat.add_mul, Nat.one_mul]
      have h5 := Nat.div_add_mod n (2 ^ e)
      have h6 := Nat.mod_lt n z
      rw [Nat.mul_comm] at h5
      omega
/-- The first rung that is not below n. -/
def cei (n : Nat) : Nat := if fi (flr n) = n then flr n else flr n + 1
/-- The last place that is not above x. -/
def fpl (x : Int) : Int := if 0 ≤ x then (flr x.toNat : Int) else -(cei (-x).toNat : Int)
/-- Place j is the nearest to N / D (in units of 2 ^ -1074), of two that are equally near the even one. -/
def Near8 (N D j : Int) : Prop :=
  ((fp (j - 1) + fp j) * D < 2 * N ∨ (fp (j - 1) + fp j) * D = 2 * N ∧ j % 2 = 0) ∧ (2 * N < (fp j + fp (j + 1)) * D ∨ 2 * N = (fp j + fp (j + 1)) * D ∧ j % 2 = 0)
theorem Near8.neg {N D j : Int} (h : Near8 N D j) : Near8 (-N) D (-j) := by
  unfold Near8 at *
  have e1 : (fp (-j - 1) + fp (-j)) * D = -((fp j + fp (j + 1)) * D) := by
    rw [show -j - 1 = -(j + 1) by omega, fp_neg, fp_neg, ← Int.neg_mul]; congr 1; omega
  have e2 : (fp (-j) + fp (-j + 1)) * D = -((fp (j - 1) + fp j) * D) := by
    rw [show -j + 1 = -(j - 1) by omega, fp_neg, fp_neg, ← Int.neg_mul]; congr 1; omega
  rw [e1, e2]
  generalize (fp j + fp (j + 1)) * D = a at *
  generalize (fp (j - 1) + fp j) * D = b at *
  omega
theorem Near8.mono {N D j N' D' j' : Int} (h : Near8 N D j) (h' : Near8 N' D' j') (hD : 0 < D) (hD' : 0 < D') (hl : N * D' ≤ N' * D) : j ≤ j' := by
  by_cases g : j ≤ j'
  · exact g
  have g : j' + 1 ≤ j := by omega
  have a1 := @fp_le_iff (j' + 1) j
  have a2 := @fp_le_iff j' (j - 1)
  have a3 := @fp_lt_iff (j' + 1) j
  have a4 := @fp_lt_iff j' (j - 1)
  have le : fp j' + fp (j' + 1) ≤ fp (j - 1) + fp j := by omega
  have b1 : (fp (j - 1) + fp j) * D ≤ 2 * N := by have := h.1; omega
  have b2 : 2 * N' ≤ (fp j' + fp (j' + 1)) * D' := by have := h'.2; omega
  have c1 := Int.mul_le_mul_of_nonneg_right b1 (Int.le_of_lt hD')
  have c2 := Int.mul_le_mul_of_nonneg_right b2 (Int.le_of_lt hD)
  have c3 := Int.mul_le_mul_of_nonneg_right (Int.mul_le_mul_of_nonneg_right le (Int.le_of_lt hD)) (Int.le_of_lt hD')
  have r1 : (fp j' + fp (j' + 1)) * D' * D = (fp j' + fp (j' + 1)) * D * D' := by rw [Int.mul_assoc, Int.mul_comm D' D, ← Int.mul_assoc]
  have r2 : 2 * N * D' = 2 * (N * D') := Int.mul_assoc _ _ _
  have r3 : 2 * N' * D = 2 * (N' * D) := Int.mul_assoc _ _ _
  have q1 : (fp j' + fp (j' + 1)) * D * D' = (fp (j - 1) + fp j) * D * D' := by omega
  have q2 : (fp (j - 1) + fp j) * D * D' = 2 * N * D' := by omega
  have q3 : 2 * N' * D = (fp j' + fp (j' + 1)) * D' * D := by omega
  have d0 : D ≠ 0 := by omega
  have d1 : D' ≠ 0 := by omega
  have s1 : fp j' + fp (j' + 1) = fp (j - 1) + fp j := Int.eq_of_mul_eq_mul_right d0 (Int.eq_of_mul_eq_mul_right d1 q1)
  have s2 : (fp (j - 1) + fp j) * D = 2 * N := Int.eq_of_mul_eq_mul_right d1 q2
  have s3 : 2 * N' = (fp j' + fp (j' + 1)) * D' := Int.eq_of_mul_eq_mul_right d0 q3
  have t1 := h.1
  have t2 := h'.2
  omega
theorem Near8.uno {N D j j' : Int} (h : Near8 N D j) (h' : Near8 N D j') (hD : 0 < D) : j = j' := by
  have := h.mono h' hD hD (Int.le_refl _)
  have := h'.mono h hD hD (Int.le_refl _)
  omega
end Go.Proofs.YtogabmggdcefaaaGreat
