/-
  Which of two lists of digits to the base 2^32 is the greater: plain.
-/
import Derived.Test.YtkfpblonjinfmaaOrder
import Derived.Test.YtkfpblonjinfmaaNumsH
namespace Go.Proofs.Ytkfpblonjinfmaa.H
theorem num_above {a b : List Int} {t : Nat} (h : ∀ j, t ≤ j → a.getD j 0 = b.getD j 0) : ∀ k, num (a.take (t + k)) - num (a.take t) = num (b.take (t + k)) - num (b.take t)
  | 0 => by simp only [Nat.add_zero]; omega
  | k + 1 => by
    have ih := num_above h k
    rw [← Nat.add_assoc, num_take_succ, num_take_succ, h (t + k) (by omega)]; omega
theorem num_above' {a b : List Int} {t : Nat} (h : ∀ j, t ≤ j → a.getD j 0 = b.getD j 0) : num a - num (a.take t) = num b - num (b.take t) := by
  have e := num_above h (a.length + b.length)
  have e1 : a.take (t + (a.length + b.length)) = a := List.take_of_length_le (by omega)
  have e2 : b.take (t + (a.length + b.length)) = b := List.take_of_length_le (by omega)
  rw [e1, e2] at e; exact e
/-- The highest limb in which they differ decides. -/
theorem num_lt_at {a b : List Int} {t : Nat} (ha : Limbs a) (hb : Limbs b) (h : ∀ j, t < j → a.getD j 0 = b.getD j 0) (hlt : a.getD t 0 < b.getD t 0) : num a < num b := by
  have e := num_above' (t := t + 1) (fun j hj => h j (by omega))
  rw [num_take_succ, num_take_succ] at e
  have h1 := num_lt (ha.take t); have h2 := num_nonneg (hb.take t)
  have h3 : num (a.take t) < pw t := by
    refine Int.lt_of_lt_of_le h1 (pw_mono ?_)
    rw [List.length_take]; omega
  have h4 : (a.getD t 0 + 1) * pw t ≤ b.getD t 0 * pw t := Int.mul_le_mul_of_nonneg_right (by omega) (by have := pw_pos t; omega)
  rw [Int.add_mul, Int.one_mul] at h4
  omega
theorem num_lt_len {a b : List Int} (ha : Limbs a) (hb : Limbs b) (h : usedN a < usedN b) : num a < num b := by
  have h1 := num_lt_used ha; have h2 := num_ge_used hb (by omega)
  have := pw_mono (show usedN a ≤ usedN b - 1 by omega); omega
theorem num_eq_of {a b : List Int} (h : ∀ j, a.getD j 0 = b.getD j 0) : num a = num b := by
  have e := num_above' (a := a) (b := b) (t := 0) (fun j _ => h j)
  simp [num] at e; omega
theorem num_set (zs : List Int) (j : Nat) (v : Int) (h : j < zs.length) : num (zs.set j v) = num zs + (v - zs.getD j 0) * pw j := by
  have e := num_above' (a := zs.set j v) (b := zs) (t := j + 1) (fun i hi => getD_set_other zs j i v (by omega))
  rw [num_set_take _ _ _ h, num_take_succ] at e
  rw [Int.sub_mul]
  omega
theorem num_two (zs : List Int) : num zs = zs.getD 0 0 + 4294967296 * zs.getD 1 0 + 18446744073709551616 * num (zs.drop 2) := by
  match zs with
  | [] => simp [num]
  | [x] => simp [num]
  | x :: y :: r => simp [num]; omega
end Go.Proofs.Ytkfpblonjinfmaa.H
