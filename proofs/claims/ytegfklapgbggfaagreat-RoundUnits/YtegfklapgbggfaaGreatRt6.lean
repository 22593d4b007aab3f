/-
  rat.Mul, Quo.
-/
import Derived.Test.YtegfklapgbggfaaGreatRt4
namespace Go.Proofs.YtegfklapgbggfaaGreat
open Go.RowKit Go.Shelf
set_option linter.unusedVariables false

theorem Short.over {u v : Rat} (h1 : Short u) (h2 : Short v) : Short (Rat.divInt u.num (v.den : Int)) := by
  have e : Rat.divInt u.num (v.den : Int) = mkRat u.num v.den := Rat.divInt_ofNat _ _
  rw [e]
  unfold Short
  rw [Rat.num_mkRat, Rat.den_mkRat, if_neg v.den_nz, if_neg v.den_nz]
  refine ⟨Int.lt_of_le_of_lt ?_ h1.1, Int.lt_of_le_of_lt ?_ h2.2⟩
  · have : (u.num / (v.den.gcd u.num.natAbs : Nat)).natAbs ≤ u.num.natAbs := by
      rw [Int.natAbs_ediv_of_dvd (Int.ofNat_dvd_left.2 (Nat.gcd_dvd_right _ _))]
      exact Nat.div_le_self _ _
    exact_mod_cast this
  · exact_mod_cast Nat.div_le_self _ _
theorem Short.nn {u v : Rat} (h1 : Short u) (h2 : Short v) : ((u.num * v.num).natAbs : Int) < pw 4096 := by
  rw [Int.natAbs_mul, Int.natCast_mul]; exact rt_fits (by omega) (by omega) h1.1 h2.1 (by omega)
theorem Short.dd {u v : Rat} (h1 : Short u) (h2 : Short v) : (u.den : Int) * v.den < pw 4096 := rt_fits (by omega) (by omega) h1.2 h2.2 (by omega)
theorem Short.inv {v : Rat} (h : Short v) : Short v⁻¹ := by
  unfold Short
  rw [Rat.num_inv, Rat.den_inv]
  refine ⟨?_, ?_⟩
  · refine Int.lt_of_le_of_lt ?_ h.2
    rw [Int.natAbs_mul]
    have : v.num.sign.natAbs ≤ 1 := by
      rcases Int.lt_trichotomy v.num 0 with h | h | h
      · rw [Int.sign_eq_neg_one_of_neg h]; decide
      · rw [h]; decide
      · rw [Int.sign_eq_one_of_pos h]; decide
    have h2 := Nat.mul_le_mul_right v.den this
    simp only [Int.natAbs_natCast]
    omega
  · split
    · exact one_lt_pw (by omega)
    · exact h.1
theorem RA.ok {v v' : Rat} {er : Int} (h : RA v er v') (hs : Short v) : v' = v := by
  rcases h with ⟨_, _, h⟩ | ⟨h, _⟩
  · exact h
  · exact absurd hs h
theorem qsign_ne {y : Int} (h : y ≠ 0) : (Int.sign y == 0) = false := by
  rcases Int.lt_or_le y 0 with h' | h'
  · rw [Int.sign_eq_neg_one_of_neg h']; rfl
  · rw [Int.sign_eq_one_of_pos (by omega)]; rfl

end Go.Proofs.YtegfklapgbggfaaGreat
