/-
  What a sum goes by.
-/
import Derived.Test.YtmhfoeooccppfaaGreatRt4
namespace Go.Proofs.YtmhfoeooccppfaaGreat
open Go.RowKit Go.Shelf
set_option linter.unusedVariables false

theorem pos_le_mul {a b : Int} (ha : 1 ≤ a) (hb : 0 ≤ b) : b ≤ a * b := by
  have := Int.mul_le_mul_of_nonneg_right ha hb; omega
theorem two_pw (n : Nat) : 2 * pw n ≤ pw (n + 1) := by
  show _ ≤ 18446744073709551616 * pw n
  have := pw_pos n
  omega
theorem add_fits {P Q x y z : Int} (w1 : P ≤ Q) (w2 : 2 * P ≤ Q) (h1 : (x.natAbs : Int) < P) (h2 : (y.natAbs : Int) < P) (h3 : z < P) : (x.natAbs : Int) < Q ∧ (y.natAbs : Int) < Q ∧ ((x + y).natAbs : Int) < Q ∧ z < Q := by omega
/-- What a sum goes by. -/
structure AddP (v1 v2 : Rat) (g A B : Int) : Prop where
  g0 : g ≠ 0
  gl : g < pw 4096
  f1 : ((v1.num * B).natAbs : Int) < pw 4096
  f2 : ((v2.num * A).natAbs : Int) < pw 4096
  f3 : ((v1.num * B + v2.num * A).natAbs : Int) < pw 4096
  f4 : A * B < pw 4096
  f5 : ∀ v : Rat, Short v → A * B * (v.den : Int) < pw 4096
  num : (v1 + v2).num = (Rat.divInt (v1.num * B + v2.num * A) g).num
  den : ((v1 + v2).den : Int) = A * B * (Rat.divInt (v1.num * B + v2.num * A) g).den
  lng : Short (v1 + v2) → Short (Rat.divInt (v1.num * B + v2.num * A) g)
theorem add_parts {v1 v2 : Rat} (h1 : Short v1) (h2 : Short v2) {g A B : Int} (hg : g = (Int.gcd (v1.den : Int) (v2.den : Int) : Nat)) (A0 : 0 ≤ A) (B0 : 0 ≤ B) (hA : A * g = v1.den) (hB : B * g = v2.den) : AddP v1 v2 g A B := by
  obtain ⟨ad, rfl⟩ := Int.eq_ofNat_of_zero_le A0
  obtain ⟨bd, rfl⟩ := Int.eq_ofNat_of_zero_le B0
  have hg2 : g = ((Nat.gcd v1.den v2.den : Nat) : Int) := hg
  subst hg2
  have ha' : ad * Nat.gcd v1.den v2.den = v1.den := by exact_mod_cast hA
  have hb' : bd * Nat.gcd v1.den v2.den = v2.den := by exact_mod_cast hB
  obtain ⟨e1, e2⟩ := rat_add_low v1 v2 rfl ha' hb'
  have p1 := v1.den_pos
  have p2 := v2.den_pos
  have g0 : 0 < Nat.gcd v1.den v2.den := Nat.gcd_pos_of_pos_left _ p1
  have gle : Nat.gcd v1.den v2.den ≤ v1.den := Nat.gcd_le_left _ p1
  have a1 : ad ≤ v1.den := by rw [← ha']; exact Nat.le_mul_of_pos_right _ g0
  have b1 : bd ≤ v2.den := by rw [← hb']; exact Nat.le_mul_of_pos_right _ g0
  have a0 : 1 ≤ ad := by rcases Nat.eq_zero_or_pos ad with h | h; · rw [h] at ha'; omega
                         · exact h
  have b0 : 1 ≤ bd := by rcases Nat.eq_zero_or_pos bd with h | h; · rw [h] at hb'; omega
                         · exact h
  have m1 : ((v1.num * (bd : Int)).natAbs : Int) < pw 2048 := by
    rw [Int.natAbs_mul, Int.natCast_mul]
    exact rt_fits (by omega) (by omega) h1.1 (show ((Int.natAbs (bd : Int) : Nat) : Int) < pw 1024 from Int.lt_of_le_of_lt (by exact_mod_cast b1) h2.2) (by omega)
  have m2 : ((v2.num * (ad : Int)).natAbs : Int) < pw 2048 := by
    rw [Int.natAbs_mul, Int.natCast_mul]
    exact rt_fits (by omega) (by omega) h2.1 (show ((Int.natAbs (ad : Int) : Nat) : Int) < pw 1024 from Int.lt_of_le_of_lt (by exact_mod_cast a1) h1.2) (by omega)
  have m3 : (ad : Int) * bd < pw 2048 := rt_fits (by omega) (by omega) (Int.lt_of_le_of_lt (by exact_mod_cast a1) h1.2) (Int.lt_of_le_of_lt (by exact_mod_cast b1) h2.2) (by omega)
  have w1 : pw 2048 ≤ pw 4096 := pw_mono (by omega)
  have w2 : 2 * pw 2048 ≤ pw 4096 := by
    exact Int.le_trans (two_pw 2048) (pw_mono (by omega))
  obtain ⟨q1, q2, q3, q4⟩ := add_fits w1 w2 m1 m2 m3
  refine ⟨by omega, ?_, q1, q2, q3, q4, ?_, e1, ?_, ?_⟩
  · exact Int.lt_of_lt_of_le (Int.lt_of_le_of_lt (by exact_mod_cast gle) h1.2) (pw_mono (by omega))
  · intro v hv
    exact rt_fits (Int.mul_nonneg (by omega) (by omega)) (by omega) m3 hv.2 (by omega)
  · rw [e2]; simp
  · intro h
    refine ⟨by rw [← e1]; exact h.1, Int.lt_of_le_of_lt ?_ h.2⟩
    rw [e2]
    exact_mod_cast Nat.le_mul_of_pos_left _ (Nat.mul_pos a0 b0)
end Go.Proofs.YtmhfoeooccppfaaGreat
