/-
  What a number is rounded to.
-/
import Derived.Test.YtegfklapgbggfaaGreatRt13p
import Derived.Test.YtegfklapgbggfaaGreatRd1
namespace Go.Proofs.YtegfklapgbggfaaGreat
open Go.RowKit Go.Shelf
set_option linter.unusedVariables false

/-- What n over d is rounded to. -/
def rnd (m n d : Int) : Int := if n % d = 0 then n / d else if rise m (cmp3 (2 * (n % d)) d) (decide (n / d % 2 ≠ 0)) then n / d + 1 else n / d
theorem rnd_cases (m n d : Int) : (rnd m n d = n / d) ∨ (rnd m n d = n / d + 1 ∧ n % d ≠ 0) := by
  unfold rnd
  by_cases h : n % d = 0
  · rw [if_pos h]; exact Or.inl rfl
  · rw [if_neg h]
    split
    · exact Or.inr ⟨rfl, h⟩
    · exact Or.inl rfl
theorem sub_int_parts (v : Rat) (k : Int) : (v - (k : Rat)).num = v.num - k * v.den ∧ (v - (k : Rat)).den = v.den := by
  rw [Rat.sub_def']
  refine rat_of_coprime (Nat.mul_ne_zero v.den_nz (by simp)) v.den_nz ?_ ?_
  · have g1 := Nat.gcd_dvd_right (v.num - k * (v.den : Int)).natAbs v.den
    have g2 : ((Nat.gcd (v.num - k * (v.den : Int)).natAbs v.den : Nat) : Int) ∣ v.num - k * (v.den : Int) := Int.ofNat_dvd_left.2 (Nat.gcd_dvd_left _ _)
    have g3 : ((Nat.gcd (v.num - k * (v.den : Int)).natAbs v.den : Nat) : Int) ∣ v.num := by
      have h := Int.dvd_add (Int.dvd_mul_of_dvd_right (Int.ofNat_dvd.2 g1) (b := k)) g2
      rw [show k * (v.den : Int) + (v.num - k * (v.den : Int)) = v.num by omega] at h
      exact h
    have g4 := Nat.dvd_gcd (Int.ofNat_dvd_left.1 g3) g1
    rw [v.reduced] at g4
    exact Nat.eq_one_of_dvd_one g4
  · simp only [Rat.num_intCast, Rat.den_intCast]
    simp
/-- The rest behind rounding. -/
theorem rnd_rest {m n d : Int} (hd : 0 < d) : -d < n - rnd m n d * d ∧ n - rnd m n d * d < d ∧ (n % d = 0 → n - rnd m n d * d = 0) ∧ (n - rnd m n d * d = n % d ∧ rnd m n d = n / d ∨ (n - rnd m n d * d = n % d - d ∧ rnd m n d = n / d + 1 ∧ n % d ≠ 0)) := by
  have h1 := Int.emod_nonneg n (show d ≠ 0 by omega)
  have h2 := Int.emod_lt_of_pos n hd
  have h3 := Int.mul_ediv_add_emod n d
  rw [Int.mul_comm] at h3
  rcases rnd_cases m n d with h | ⟨h, h0⟩
  · rw [h]
    refine ⟨by omega, by omega, fun e => by omega, Or.inl ⟨by omega, rfl⟩⟩
  · rw [h, Int.add_mul, Int.one_mul]
    refine ⟨by omega, by omega, fun e => absurd e h0, Or.inr ⟨by omega, rfl, h0⟩⟩
theorem rnd_abs {m n d : Int} (hd : 0 < d) : ((rnd m n d).natAbs : Int) ≤ (n.natAbs : Int) := by
  obtain ⟨r1, r2, r3, -⟩ := rnd_rest (m := m) (n := n) hd
  by_cases h1 : d = 1
  · subst h1; rw [Int.emod_one] at r3; have := r3 rfl; omega
  · generalize rnd m n d = i at *
    by_cases hi : i = 0
    · subst hi; omega
    · rcases Int.lt_or_lt_of_ne hi with h | h
      · have := Int.mul_le_mul_of_nonneg_left (show (2 : Int) ≤ d by omega) (show 0 ≤ -i - 1 by omega)
        have e : (-i - 1) * d = - (i * d) - d := by grind
        rw [e] at this; omega
      · have := Int.mul_le_mul_of_nonneg_left (show (2 : Int) ≤ d by omega) (show 0 ≤ i - 1 by omega)
        have e : (i - 1) * d = i * d - d := by grind
        rw [e] at this; omega
end Go.Proofs.YtegfklapgbggfaaGreat
