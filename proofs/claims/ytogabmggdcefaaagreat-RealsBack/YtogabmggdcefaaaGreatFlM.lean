/-
  Floats in numbers: products by a power of two; the word of a whole number of 53 bits; where a number lies between two floats.
-/
import Derived.Test.YtogabmggdcefaaaGreatFlR
namespace Go.Proofs.YtogabmggdcefaaaGreat
set_option linter.unusedVariables false

/-- What the format has is written as it is; the number may be told at a place below the least. -/
theorem nearest_deep (s : Bool) (mag p q r : Nat) (hr : r < 9218868437227405312) (h : mag * 2 ^ p = fi r * 2 ^ q) :
    Ieee.double.nearest s mag ((p : Int) - 1074 - q) = if s then 9223372036854775808 + r else r := by
  unfold Ieee.Format.nearest
  have zq : 0 < 2 ^ q := Nat.pow_pos (by decide)
  have zp : 0 < 2 ^ p := Nat.pow_pos (by decide)
  by_cases m0 : mag = 0
  · rw [if_pos m0]
    have e0 : fi r * 2 ^ q = 0 := by rw [← h, m0, Nat.zero_mul]
    have e1 : fi r = 0 := by
      rcases Nat.mul_eq_zero.1 e0 with g | g
      · exact g
      · omega
    have e := fi_inj (e1.trans fi_zero.symm)
    unfold Ieee.Format.word
    rw [e, d_sw]
  rw [if_neg m0, d_lp, d_bi, d_in]
  dsimp only
  have f52 : (Ieee.double.fractionBits : Int) = 52 := rfl
  rw [f52]
  have f0 : fi r ≠ 0 := by
    intro g; rw [g, Nat.zero_mul] at h
    rcases Nat.mul_eq_zero.1 h with g | g <;> omega
  have hl := log2_mul p m0
  rw [h, log2_mul q f0] at hl
  obtain ⟨t, k, ht, hk, hv, k0⟩ : ∃ t k : Nat, max (((p : Int) - 1074 - q) + (mag.log2 : Nat) - 52) (-1074) = (t : Int) - 1074 ∧ k * 2 ^ t = fi r ∧ t * 4503599627370496 + k = r ∧ k ≠ 0 := by
    by_cases g : r < 4503599627370496
    · have e : fi r = r := by unfold fi; rw [if_pos g]
      have n0 : r ≠ 0 := fun g0 => f0 (by rw [e, g0])
      refine ⟨0, r, ?_, by rw [e, Nat.pow_zero, Nat.mul_one], by rw [Nat.zero_mul, Nat.zero_add], n0⟩
      have := (Nat.log2_lt n0).2 (show r < 2 ^ 52 by omega)
      rw [e] at hl
      omega
    · have e : fi r = (4503599627370496 + r % 4503599627370496) * 2 ^ (r / 4503599627370496 - 1) := by unfold fi; rw [if_neg g]
      refine ⟨r / 4503599627370496 - 1, 4503599627370496 + r % 4503599627370496, ?_, e.symm, by omega, by omega⟩
      have l2 : (4503599627370496 + r % 4503599627370496).log2 = 52 := by
        rw [Nat.log2_eq_iff (by omega)]; omega
      rw [e, log2_mul _ (by omega), l2] at hl
      omega
  rw [ht]
  have hh : mag * 2 ^ p = k * 2 ^ (t + q) := by rw [h, ← hk, Nat.pow_add, Nat.mul_assoc]
  have kk : Ieee.Toward.even.cut s (mag <<< ((p : Int) - 1074 - q - ((t : Int) - 1074)).toNat) (((t : Int) - 1074) - ((p : Int) - 1074 - q)).toNat = k := by
    rcases Nat.le_total (t + q) p with c | c
    · have e1 : ((p : Int) - 1074 - q - ((t : Int) - 1074)).toNat = p - (t + q) := by omega
      have e2 : (((t : Int) - 1074) - ((p : Int) - 1074 - q)).toNat = 0 := by omega
      rw [e1, e2, Nat.shiftLeft_eq]
      have e3 : mag * 2 ^ (p - (t + q)) = k := by
        have : mag * 2 ^ (p - (t + q)) * 2 ^ (t + q) = k * 2 ^ (t + q) := by
          rw [← hh, Nat.mul_assoc, ← Nat.pow_add]; congr 2; omega
        exact Nat.eq_of_mul_eq_mul_right (Nat.pow_pos (by decide)) this
      rw [e3]
      have := cut_exact s 0 k0
      simpa using this
    · have e1 : ((p : Int) - 1074 - q - ((t : Int) - 1074)).toNat = 0 := by omega
      have e2 : (((t : Int) - 1074) - ((p : Int) - 1074 - q)).toNat = t + q - p := by omega
      rw [e1, e2, Nat.shiftLeft_eq, Nat.pow_zero, Nat.mul_one]
      have e3 : mag = k * 2 ^ (t + q - p) := by
        have : mag * 2 ^ p = k * 2 ^ (t + q - p) * 2 ^ p := by
          rw [hh, Nat.mul_assoc, ← Nat.pow_add]; congr 2; omega
        exact Nat.eq_of_mul_eq_mul_right (Nat.pow_pos (by decide)) this
      rw [e3]
      exact cut_exact s _ k0
  rw [kk]
  have e4 : (((t : Int) - 1074) - -1074).toNat = t := by omega
  rw [e4, hv, Nat.min_eq_left (by omega)]
  unfold Ieee.Format.word
  rw [d_sw]
theorem read_two (j : Nat) (h : j ≤ 1000) : Ieee.double.read ((1023 - j) * 4503599627370496) = .number false 4503599627370496 (-52 - j) := by
  unfold Ieee.Format.read
  rw [d_sw, d_bi, d_in, d_lp, sg_read (by omega)]
  dsimp only
  have e : (1023 - j) * 4503599627370496 % 9223372036854775808 = (1023 - j) * 4503599627370496 := by omega
  rw [e, if_neg (by omega), if_pos (by omega)]
  have e1 : (1023 - j) * 4503599627370496 / 4503599627370496 = 1023 - j := by omega
  have e2 : (1023 - j) * 4503599627370496 % 4503599627370496 = 0 := by omega
  have e3 : fsg ((1023 - j) * 4503599627370496) = false := by unfold fsg; rw [decide_eq_false_iff_not]; omega
  rw [e1, e2, e3, Nat.add_zero]
  congr 1
  omega
/-- A float times 2 to the power -j, where that is a float. -/
theorem mul_two (j x r : Nat) (h : j ≤ 1000) (hx : x < 9218868437227405312) (hr : r < 9218868437227405312) (he : fi x = fi r * 2 ^ j) :
    Ieee.double.mul ((1023 - j) * 4503599627370496) x = some r := by
  have hm : x % 9223372036854775808 = x := by omega
  obtain ⟨m, p, e, v⟩ := @read_fin x (by omega) (by omega)
  rw [hm] at v
  have e3 : fsg x = false := by unfold fsg; rw [decide_eq_false_iff_not]; omega
  rw [e3] at e
  unfold Ieee.Format.mul
  rw [read_two j h, e]
  simp only [Ieee.Datum.product, Option.map_some]
  show some (Ieee.double.nearest _ _ _) = _
  have q := nearest_deep false (4503599627370496 * m) p (52 + j) r hr (by
    have e52 : (4503599627370496 : Nat) = 2 ^ 52 := by decide
    rw [Nat.mul_assoc, v, he, Nat.pow_add, e52]
    generalize (2 : Nat) ^ 52 = A
    generalize (2 : Nat) ^ j = B
    generalize fi r = C
    rw [← Nat.mul_assoc, Nat.mul_comm A C, Nat.mul_assoc])
  have e4 : (-52 - (j : Int)) + ((p : Int) - 1074) = (p : Int) - 1074 - ((52 + j : Nat) : Int) := by omega
  have e5 : (false ^^ false) = false := rfl
  rw [e4, e5, q]
  rfl
/-- The word of a whole number of at most 53 bits. -/
def wi (n : Nat) : Nat := if n = 0 then 0 else (1022 + n.log2) * 4503599627370496 + n * 2 ^ (52 - n.log2)
theorem log_53 {n : Nat} (h : n < 9007199254740992) (n0 : n ≠ 0) : n.log2 ≤ 52 ∧ 2 ^ n.log2 ≤ n ∧ n < 2 ^ (n.log2 + 1) := by
  have hl := (Nat.log2_eq_iff n0).1 rfl
  have : n.log2 < 53 := (Nat.log2_lt n0).2 (by omega)
  exact ⟨by omega, hl.1, hl.2⟩
theorem wi_m {n : Nat} (h : n < 9007199254740992) (n0 : n ≠ 0) : 4503599627370496 ≤ n * 2 ^ (52 - n.log2) ∧ n * 2 ^ (52 - n.log2) < 9007199254740992 := by
  obtain ⟨a, b, c⟩ := log_53 h n0
  have z : 0 < 2 ^ (52 - n.log2) := Nat.pow_pos (by decide)
  have e1 : 2 ^ n.log2 * 2 ^ (52 - n.log2) = 4503599627370496 := by
    rw [← Nat.pow_add, show n.log2 + (52 - n.log2) = 52 by omega]
  have e2 : 2 ^ (n.log2 + 1) * 2 ^ (52 - n.log2) = 9007199254740992 := by
    rw [← Nat.pow_add, show n.log2 + 1 + (52 - n.log2) = 53 by omega]
  constructor
  · rw [← e1]; exact Nat.mul_le_mul_right _ b
  · rw [← e2]; exact Nat.mul_lt_mul_of_pos_right c z
theorem wi_lt {n : Nat} (h : n < 9007199254740992) : wi n < 9218868437227405312 := by
  unfold wi
  by_cases n0 : n = 0
  · rw [if_pos n0]; decide
  · rw [if_neg n0]
    have a := wi_m h n0
    have b := (log_53 h n0).1
    omega
theorem fi_wi {n : Nat} (h : n < 9007199254740992) : fi (wi n) = n * 2 ^ 1074 := by
  unfold wi
  by_cases n0 : n = 0
  · rw [if_pos n0, n0]
    generalize (2 : Nat) ^ 1074 = A
    rw [Nat.zero_mul]; rfl
  · rw [if_neg n0]
    have a := wi_m h n0
    have b := (log_53 h n0).1
    rw [fi_at _ _ (.inr a.1) (by omega), Nat.mul_assoc, ← Nat.pow_add]
    congr 2
    omega
/-- float64 of a whole number of at most 53 bits, not below 0. -/
theorem of_nat {n : Nat} (h : n < 9007199254740992) : Ieee.double.nearest false n 0 = wi n := by
  have q := nearest_exact false n 1074 (wi n) (wi_lt h) (fi_wi h).symm
  have e : ((1074 : Nat) : Int) - 1074 = 0 := by omega
  rw [e] at q
  exact q
/-- Where N / D (in units of 2 ^ -1074: X / D) lies: behind the float of rung k, p being 0 at it, 1 below the middle to the next, 2 in it, 3 above it. -/
def Pl (X D k p : Nat) : Prop := k < 9218868437227405312 ∧
  ((p = 0 ∧ fi k * D = X) ∨ (p = 1 ∧ fi k * D < X ∧ 2 * X < (fi k + fi (k + 1)) * D) ∨ (p = 2 ∧ 2 * X = (fi k + fi (k + 1)) * D) ∨ (p = 3 ∧ (fi k + fi (k + 1)) * D < 2 * X ∧ (X < fi (k + 1) * D ∨ k = 9218868437227405311)))
theorem pl_of {X D e q rest c d : Nat} (hD : 0 < d) (hq : e = 0 ∨ 4503599627370496 ≤ q) (hq2 : q < 9007199254740992) (he : e ≤ 2045) (hd : D * 2 ^ e = d * 2 ^ c) (hX : X = (q * d + rest) * 2 ^ c) (hr : rest < d) :
    (rest = 0 → Pl X D (e * 4503599627370496 + q) 0) ∧ (rest ≠ 0 → 2 * rest < d → Pl X D (e * 4503599627370496 + q) 1) ∧ (2 * rest = d → Pl X D (e * 4503599627370496 + q) 2) ∧ (d < 2 * rest → Pl X D (e * 4503599627370496 + q) 3) := by
  have zc : 0 < 2 ^ c := Nat.pow_pos (by decide)
  have f0 := fi_at e q hq (by omega)
  have f1 : fi (e * 4503599627370496 + q + 1) = (q + 1) * 2 ^ e := by rw [Nat.add_assoc, fi_at e (q + 1) (by omega) (by omega)]
  have g0 : fi (e * 4503599627370496 + q) * D = q * d * 2 ^ c := by rw [f0, Nat.mul_assoc, Nat.mul_comm (2 ^ e) D, hd, Nat.mul_assoc]
  have g1 : fi (e * 4503599627370496 + q + 1) * D = q * d * 2 ^ c + d * 2 ^ c := by
    rw [f1, Nat.mul_assoc, Nat.mul_comm (2 ^ e) D, hd, Nat.add_mul, Nat.one_mul, Nat.mul_assoc]
  have hX2 : X = q * d * 2 ^ c + rest * 2 ^ c := by rw [hX, Nat.add_mul]
  have hk : e * 4503599627370496 + q < 9218868437227405312 := by omega
  have u0 : rest * 2 ^ c < d * 2 ^ c := Nat.mul_lt_mul_of_pos_right hr zc
  unfold Pl
  rw [Nat.add_mul, g0, g1]
  refine ⟨fun h => ⟨hk, .inl ⟨rfl, by rw [hX2, h]; omega⟩⟩, fun h h2 => ⟨hk, .inr (.inl ⟨rfl, ?_, ?_⟩)⟩, fun h => ⟨hk, .inr (.inr (.inl ⟨rfl, ?_⟩))⟩, fun h => ⟨hk, .inr (.inr (.inr ⟨rfl, ?_, .inl ?_⟩))⟩⟩
  · have : 0 < rest * 2 ^ c := Nat.mul_pos (by omega) zc
    omega
  · have := Nat.mul_lt_mul_of_pos_right h2 zc
    rw [Nat.mul_assoc] at this
    omega
  · have : 2 * rest * 2 ^ c = d * 2 ^ c := by rw [h]
    rw [Nat.mul_assoc] at this
    omega
  · have := Nat.mul_lt_mul_of_pos_right h zc
    rw [Nat.mul_assoc] at this
    omega
  · omega
theorem fi_top : fi (9218868437227405311 + 1) = 2 ^ 2098 := fi_inf
/-- Beyond all floats. -/
theorem pl_far {X D : Nat} (hD : 0 < D) (h : 2 ^ 2098 * D ≤ X) : Pl X D 9218868437227405311 3 := by
  refine ⟨by decide, .inr (.inr (.inr ⟨rfl, ?_, .inr rfl⟩))⟩
  have q := @fi_lt_iff 9218868437227405311 (9218868437227405311 + 1)
  have lt : fi 9218868437227405311 < fi (9218868437227405311 + 1) := q.2 (by decide)
  rw [← fi_top] at h
  generalize fi 9218868437227405311 = a at *
  generalize fi (9218868437227405311 + 1) = b at *
  have := Nat.mul_lt_mul_of_pos_right lt hD
  rw [Nat.add_mul]
  omega
end Go.Proofs.YtogabmggdcefaaaGreat
