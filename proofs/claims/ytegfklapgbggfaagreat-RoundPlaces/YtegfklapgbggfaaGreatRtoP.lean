/-
  The document's way to round, in numbers.
-/
import Derived.Test.YtegfklapgbggfaaGreatRdP
namespace Go.Proofs.YtegfklapgbggfaaGreat
open Go.RowKit Go.Shelf
set_option linter.unusedVariables false

theorem neg_floor (v : Rat) : - qfl (-v) = if v.num % (v.den : Int) = 0 then qfl v else qfl v + 1 := by
  have hd := v.den_pos
  have hD : 0 < (v.den : Int) := by omega
  unfold qfl
  rw [Rat.neg_num, Rat.neg_den]
  generalize (v.den : Int) = D at *
  generalize v.num = n at *
  have a1 := Int.emod_nonneg n (show D ≠ 0 by omega)
  have a2 := Int.emod_lt_of_pos n hD
  have a3 := Int.mul_ediv_add_emod n D
  by_cases hz : n % D = 0
  · rw [if_pos hz]
    have x : -n = (-(n / D)) * D + 0 := by rw [hz] at a3; rw [Int.neg_mul, Int.mul_comm (n / D)]; omega
    have e1 : (-n) / D = -(n / D) := by
      rw [x, Int.add_comm, Int.add_mul_ediv_right _ _ (by omega)]; simp
    omega
  · rw [if_neg hz]
    have x : -n = (-(n / D) - 1) * D + (D - n % D) := by
      have : (-(n / D) - 1) * D = - (D * (n / D)) - D := by grind
      omega
    have e1 : (-n) / D = -(n / D) - 1 := by
      rw [x, Int.add_comm, Int.add_mul_ediv_right _ _ (by omega), Int.ediv_eq_zero_of_lt (by omega) (by omega)]; omega
    omega
/-- Which of the two whole numbers beside it the document takes. -/
def ToC (q : Int) (v : Rat) (nr i : Int) : Prop :=
  (q = 1 → i = qfl v) ∧ (q = 2 → i = - qfl (-v)) ∧ (3 ≤ q → nr = -1 → i = qfl v) ∧ (3 ≤ q → nr = 1 → i = - qfl (-v)) ∧ (q = 3 → nr = 0 → i = - qfl (-v)) ∧ (q = 4 → nr = 0 → i = qfl v) ∧ (q = 5 → nr = 0 → qfl v % 2 = 0 → i = qfl v) ∧ (q = 5 → nr = 0 → qfl v % 2 ≠ 0 → i = - qfl (-v))
theorem near_cmp (v : Rat) : qcmp (v - ((qfl v : Int) : Rat)) (((- qfl (-v) : Int) : Rat) - v) = if v.num % (v.den : Int) = 0 then 0 else cmp3 (2 * (v.num % (v.den : Int))) v.den := by
  have hd := v.den_pos
  have e0 : ((- qfl (-v) : Int) : Rat) - v = -(v - ((- qfl (-v) : Int) : Rat)) := by rw [Rat.neg_sub]
  obtain ⟨e1, e2⟩ := sub_int_parts v (qfl v)
  obtain ⟨f1, f2⟩ := sub_int_parts v (- qfl (-v))
  rw [e0]
  unfold qcmp
  rw [Rat.neg_num, Rat.neg_den, e1, e2, f1, f2, neg_floor]
  have a3 := Int.mul_ediv_add_emod v.num (v.den : Int)
  rw [Int.mul_comm] at a3
  have hq : v.num - qfl v * (v.den : Int) = v.num % (v.den : Int) := by unfold qfl; omega
  by_cases hz : v.num % (v.den : Int) = 0
  · rw [if_pos hz, if_pos hz, hq, hz]; simp [cmp3]
  · rw [if_neg hz, if_neg hz, hq, Int.add_mul, Int.one_mul]
    have hq2 : v.num - (qfl v * (v.den : Int) + (v.den : Int)) = v.num % (v.den : Int) - v.den := by omega
    rw [hq2]
    generalize v.num % (v.den : Int) = r at *
    generalize hDD : (v.den : Int) = D at *
    have hD : 0 < D := by omega
    rcases Int.lt_trichotomy (2 * r) D with h | h | h
    · rw [cmp3_lt h, cmp3_lt]
      exact Int.mul_lt_mul_of_pos_right (by omega) hD
    · rw [cmp3_eq h, cmp3_eq]
      congr 1; omega
    · rw [cmp3_gt h, cmp3_gt]
      exact Int.mul_lt_mul_of_pos_right (by omega) hD
theorem to_c (v : Rat) (q : Int) (q1 : 1 ≤ q) (q2 : q ≤ 5) : ToC q v (qcmp (v - ((qfl v : Int) : Rat)) (((- qfl (-v) : Int) : Rat) - v)) (rnd q v.num v.den) := by
  rw [near_cmp]
  unfold ToC
  rw [neg_floor]
  have hq : qfl v = v.num / (v.den : Int) := rfl
  by_cases hz : v.num % (v.den : Int) = 0
  · have e : rnd q v.num v.den = qfl v := by unfold rnd; rw [if_pos hz]; rfl
    rw [if_pos hz, if_pos hz, e]
    refine ⟨fun _ => rfl, fun _ => rfl, fun _ _ => rfl, fun _ _ => rfl, fun _ _ => rfl, fun _ _ => rfl, fun _ _ _ => rfl, fun _ _ _ => rfl⟩
  · have U : rnd q v.num v.den = if rise q (cmp3 (2 * (v.num % (v.den : Int))) v.den) (decide (qfl v % 2 ≠ 0)) then qfl v + 1 else qfl v := by unfold rnd; rw [if_neg hz]; rfl
    rw [if_neg hz, if_neg hz, U]
    generalize cmp3 (2 * (v.num % (v.den : Int))) v.den = h
    generalize qfl v = f
    obtain rfl | rfl | rfl | rfl | rfl : q = 1 ∨ q = 2 ∨ q = 3 ∨ q = 4 ∨ q = 5 := by omega
    · exact ⟨fun _ => rfl, fun h => by omega, fun h => by omega, fun h => by omega, fun h => by omega, fun h => by omega, fun h => by omega, fun h => by omega⟩
    · exact ⟨fun h => by omega, fun _ => rfl, fun h => by omega, fun h => by omega, fun h => by omega, fun h => by omega, fun h => by omega, fun h => by omega⟩
    · exact ⟨fun h => by omega, fun h => by omega, fun _ e => by rw [e]; rfl, fun _ e => by rw [e]; rfl, fun _ e => by rw [e]; rfl, fun h => by omega, fun h => by omega, fun h => by omega⟩
    · exact ⟨fun h => by omega, fun h => by omega, fun _ e => by rw [e]; rfl, fun _ e => by rw [e]; rfl, fun h => by omega, fun _ e => by rw [e]; rfl, fun h => by omega, fun h => by omega⟩
    · refine ⟨fun h => by omega, fun h => by omega, fun _ e => by rw [e]; rfl, fun _ e => by rw [e]; rfl, fun h => by omega, fun h => by omega, fun _ e o => by rw [e, o]; rfl, fun _ e o => ?_⟩
      rw [e, show f % 2 = 1 by omega]; rfl
end Go.Proofs.YtegfklapgbggfaaGreat
