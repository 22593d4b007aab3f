/-
  reals.pastOf, twoIn.
-/
import Derived.Test.YtmhfoeooccppfaaGreatBrB
import Derived.Test.YtmhfoeooccppfaaGreatRt2
import Derived.Test.YtmhfoeooccppfaaGreatBsO
import Derived.Test.YtmhfoeooccppfaaGreatBrA
namespace Go.Proofs.YtmhfoeooccppfaaGreat
open Go.RowKit Go.Shelf
set_option linter.unusedVariables false

theorem bits_nn {xs : List Int} (h : Limbs xs) : 0 ≤ bitsN xs := (bits_limbs h).1
theorem bits_zero {xs : List Int} (h : Limbs xs) : num xs = 0 ↔ usedN xs = 0 := num_eq_zero h
theorem bits_shift {xs zs : List Int} (h : Limbs xs) (hz : Limbs zs) {t : Nat} (e : num zs = num xs * 2 ^ t) : bitsN zs ≤ bitsN xs + t := by
  rcases Nat.eq_zero_or_pos (usedN xs) with h0 | h0
  · have e0 := (num_eq_zero h).2 h0
    rw [e0, Int.zero_mul] at e
    have := bits_nought ((num_eq_zero hz).1 e)
    have := bits_nn h
    omega
  · have := bits_moved h hz h0 e
    omega
theorem bits_le {xs ys : List Int} (h : Limbs xs) (hy : Limbs ys) (e : num xs ≤ num ys) : bitsN xs ≤ bitsN ys := by
  rcases Nat.eq_zero_or_pos (usedN xs) with h0 | h0
  · have := bits_nought h0
    have := bits_nn hy
    omega
  · obtain ⟨k, e1, e2, e3⟩ := bits_spec h h0
    have hp : 0 < usedN ys := by
      rcases Nat.eq_zero_or_pos (usedN ys) with g | g
      · have := (num_eq_zero hy).2 g
        have h5 : (0 : Int) < 2 ^ k := Int.pow_pos (by decide)
        omega
      · exact g
    obtain ⟨j, f1, f2, f3⟩ := bits_spec hy hp
    rcases Nat.lt_or_ge j k with g | g
    · have h6 : (2 : Int) ^ (j + 1) ≤ 2 ^ k := by
        have := Nat.pow_le_pow_right (show 0 < 2 by decide) (show j + 1 ≤ k by omega)
        exact_mod_cast this
      omega
    · omega
theorem nleft_b (a : Option Addr) (la ca : Nat) (xs : List Int) (t : Nat) (w : World) (ha : Nt w a la ca xs) (hf : bitsN xs + t ≤ 262144) :
    Calls Tryz.prog 65 #[.agg #[.slice a la ca], .int .i64 t] w fun e w' => ∃ a' l' c' zs, e = .returned (.tuple #[.agg #[.slice a' l' c'], .int .i64 0]) ∧ Nt w' a' l' c' zs ∧ Hid (num zs = num xs * 2 ^ t ∧ bitsN zs ≤ bitsN xs + t) ∧ Below w.heap.size w w' := by
  refine (nleft_ok a la ca xs t w ha (Or.inr hf)).mono ?_
  rintro e w' ⟨a', l', c', zs, rfl, h, hz, hb⟩
  exact ⟨a', l', c', zs, rfl, h, ⟨hz, bits_shift ha.limbs h.limbs hz⟩, hb⟩
theorem nleft_1 (a : Option Addr) (la ca : Nat) (xs : List Int) (w : World) (ha : Nt w a la ca xs) (hf : bitsN xs + 1 ≤ 262144) :
    Calls Tryz.prog 65 #[.agg #[.slice a la ca], .int .i64 1] w fun e w' => ∃ a' l' c' zs, e = .returned (.tuple #[.agg #[.slice a' l' c'], .int .i64 0]) ∧ Nt w' a' l' c' zs ∧ num zs = 2 * num xs ∧ Below w.heap.size w w' := by
  refine (nleft_ok a la ca xs 1 w ha (Or.inr hf)).mono ?_
  rintro e w' ⟨a', l', c', zs, rfl, h, hz, hb⟩
  exact ⟨a', l', c', zs, rfl, h, by rw [hz]; omega, hb⟩
/-- How far a rest is on its way. -/
def pst (r d : Int) : Int := if r = 0 then 0 else if 2 * r < d then 1 else if 2 * r = d then 2 else 3

/-- The power of the greatest power of two that is not above N / D. -/
def Tw (N D t : Int) : Prop := -65537 ≤ t ∧ t ≤ 65536 ∧ (N = 0 → t < 0) ∧ (0 < N → D * 2 ^ t.toNat ≤ N * 2 ^ (-t).toNat ∧ N * 2 ^ (-t).toNat < 2 * (D * 2 ^ t.toNat))
theorem pow_split (m n : Nat) : (2 : Int) ^ (m + n) = 2 ^ m * 2 ^ n := Int.pow_add _ _ _
theorem two_pos' (n : Nat) : (0 : Int) < 2 ^ n := Int.pow_pos (by decide)
theorem pow_cast (n : Nat) : ((2 ^ n : Nat) : Int) = (2 : Int) ^ n := by rw [Int.natCast_pow]; rfl
/-- By how many digits two numbers have. -/
theorem tw_of {N D : Int} {k j : Nat} (n1 : 2 ^ k ≤ N) (n2 : N < 2 ^ (k + 1)) (d1 : 2 ^ j ≤ D) (d2 : D < 2 ^ (j + 1)) (hk : k < 65536) (hj : j < 65536) (T : Int) (hT : T = k - j) (a b : Nat) (ha : (a : Int) = max (-T) 0) (hb : (b : Int) = max T 0) :
    (N * 2 ^ a < D * 2 ^ b → Tw N D (T - 1)) ∧ (¬ N * 2 ^ a < D * 2 ^ b → Tw N D T) := by
  have hD : 0 < D := Int.lt_of_lt_of_le (two_pos' j) d1
  have hN : 0 < N := Int.lt_of_lt_of_le (two_pos' k) n1
  -- N * 2 ^ a is below twice what stands there
  have up : N * 2 ^ a < 2 * (D * 2 ^ b) := by
    have h1 := Int.mul_lt_mul_of_pos_right n2 (two_pos' a)
    have h2 := Int.mul_le_mul_of_nonneg_right d1 (Int.le_of_lt (two_pos' b))
    rw [← pow_split] at h1 h2
    have e : k + 1 + a = j + b + 1 := by omega
    rw [e, pow_split] at h1
    omega
  have lo : D * 2 ^ b < 2 * (N * 2 ^ a) := by
    have h1 := Int.mul_lt_mul_of_pos_right d2 (two_pos' b)
    have h2 := Int.mul_le_mul_of_nonneg_right n1 (Int.le_of_lt (two_pos' a))
    rw [← pow_split] at h1 h2
    have e : j + 1 + b = k + a + 1 := by omega
    rw [e, pow_split] at h1
    omega
  constructor
  · intro c
    refine ⟨by omega, by omega, fun h => by omega, fun _ => ?_⟩
    rcases Int.lt_or_le 0 T with g | g
    · have e1 : (T - 1).toNat + 1 = b := by omega
      have e2 : (-(T - 1)).toNat = a := by omega
      rw [← e1, Int.pow_succ, ← Int.mul_assoc] at lo c
      rw [e2]
      generalize D * 2 ^ (T - 1).toNat = x at *
      generalize N * 2 ^ a = y at *
      omega
    · have e1 : (T - 1).toNat = b := by omega
      have e2 : (-(T - 1)).toNat = a + 1 := by omega
      rw [e1, e2, Int.pow_succ, ← Int.mul_assoc]
      generalize D * 2 ^ b = x at *
      generalize N * 2 ^ a = y at *
      omega
  · intro c
    have e1 : T.toNat = b := by omega
    have e2 : (-T).toNat = a := by omega
    refine ⟨by omega, by omega, fun h => by omega, fun _ => ?_⟩
    rw [e1, e2]
    generalize D * 2 ^ b = x at *
    generalize N * 2 ^ a = y at *
    omega

end Go.Proofs.YtmhfoeooccppfaaGreat
