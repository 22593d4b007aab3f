/-
  Where a number lies among the floats: there is one place, and one alone; a float's own number.
-/
import Derived.Test.YtogabmggdcefaaaGreatFlM
namespace Go.Proofs.YtogabmggdcefaaaGreat
set_option linter.unusedVariables false

theorem K8_has (n : Nat) : ∃ K : Nat, K = 2 ^ n := ⟨_, rfl⟩
/-- 2 to the power 1074. -/
noncomputable def K8 : Nat := Classical.choose (K8_has 1074)
theorem K8_eq : K8 = 2 ^ 1074 := Classical.choose_spec (K8_has 1074)
theorem two_pos (n : Nat) : 0 < 2 ^ n := Nat.pow_pos (by decide)
theorem K8_pos : 0 < K8 := by rw [K8_eq]; exact two_pos 1074
theorem Pl.le {X D k p : Nat} (hD : 0 < D) (h : Pl X D k p) : fi k * D ≤ X := by
  have g := Nat.mul_lt_mul_of_pos_right (fi_succ k) hD
  obtain ⟨hk, h⟩ := h
  rw [Nat.add_mul] at h
  omega
theorem Pl.lt {X D k p : Nat} (hD : 0 < D) (h : Pl X D k p) (hk : k ≠ 9218868437227405311) : X < fi (k + 1) * D := by
  have g := Nat.mul_lt_mul_of_pos_right (fi_succ k) hD
  obtain ⟨-, h⟩ := h
  rw [Nat.add_mul] at h
  omega
theorem Pl.up {X D k p k' p' : Nat} (hD : 0 < D) (h : Pl X D k p) (h' : Pl X D k' p') : k' ≤ k := by
  rcases Nat.lt_or_ge k k' with c | c
  · have a := h.lt hD (by have := h'.1; omega)
    have b := h'.le hD
    have d := Nat.mul_le_mul_right D (fi_le_iff.2 (show k + 1 ≤ k' from c))
    omega
  · exact c
theorem Pl.uno {X D k p k' p' : Nat} (hD : 0 < D) (h : Pl X D k p) (h' : Pl X D k' p') : k = k' ∧ p = p' := by
  have e : k = k' := Nat.le_antisymm (h'.up hD h) (h.up hD h')
  subst e
  refine ⟨rfl, ?_⟩
  have g := Nat.mul_lt_mul_of_pos_right (fi_succ k) hD
  obtain ⟨-, h⟩ := h
  obtain ⟨-, h'⟩ := h'
  rw [Nat.add_mul] at h h'
  omega
theorem Pl.has (X D : Nat) (hD : 0 < D) : ∃ k p, Pl X D k p := by
  by_cases g : 2 ^ 2098 * D ≤ X
  · exact ⟨_, _, pl_far hD g⟩
  have c := flr_cell (X / D)
  generalize hk : flr (X / D) = k at c
  have c1 : fi k * D ≤ X := (Nat.le_div_iff_mul_le hD).1 c.1
  have c2 : X < fi (k + 1) * D := (Nat.div_lt_iff_lt_mul hD).1 c.2
  have kl : k < 9218868437227405312 := by
    rw [← fi_inf] at g
    rcases Nat.lt_or_ge k 9218868437227405312 with d | d
    · exact d
    · have := Nat.mul_le_mul_right D (fi_le_iff.2 d)
      omega
  by_cases e0 : fi k * D = X
  · exact ⟨k, 0, kl, .inl ⟨rfl, e0⟩⟩
  rcases Nat.lt_trichotomy (2 * X) ((fi k + fi (k + 1)) * D) with d | d | d
  · exact ⟨k, 1, kl, .inr (.inl ⟨rfl, by omega, d⟩)⟩
  · exact ⟨k, 2, kl, .inr (.inr (.inl ⟨rfl, d⟩))⟩
  · exact ⟨k, 3, kl, .inr (.inr (.inr ⟨rfl, d, .inl c2⟩))⟩
/-- Where a rational number's distance from 0 lies. -/
def Pv (v : Rat) (k p : Nat) : Prop := Pl (v.num.natAbs * K8) v.den k p
theorem Pv.has (v : Rat) : ∃ k p, Pv v k p := Pl.has _ _ v.den_pos
theorem Pv.uno {v : Rat} {k p k' p' : Nat} (h : Pv v k p) (h' : Pv v k' p') : k = k' ∧ p = p' := Pl.uno v.den_pos h h'
theorem Pv.lt {v : Rat} {k p : Nat} (h : Pv v k p) : k < 9218868437227405312 := h.1
theorem Pv.p3 {v : Rat} {k p : Nat} (h : Pv v k p) : p ≤ 3 := by
  obtain ⟨-, h⟩ := h; omega
/-- A finite word's rational number. -/
noncomputable def fv (x : Nat) : Rat := mkRat (fz x) K8
theorem fv_num (x : Nat) : (fv x).num * K8 = fz x * (fv x).den := by
  have h : mkRat (fz x) K8 = mkRat (fv x).num (fv x).den := (Rat.mkRat_self (fv x)).symm
  exact ((Rat.mkRat_eq_iff (Nat.ne_of_gt K8_pos) (fv x).den_nz).1 h).symm
theorem fv_abs {x : Nat} (h : x < 18446744073709551616) : (fv x).num.natAbs * K8 = fi (x % 9223372036854775808) * (fv x).den := by
  have e := congrArg Int.natAbs (fv_num x)
  rw [Int.natAbs_mul, Int.natAbs_mul, Int.natAbs_natCast, Int.natAbs_natCast] at e
  rw [e]
  congr 1
  rw [fz_sg h]
  cases fsg x <;> simp
theorem fv_pv {x : Nat} (h : x < 18446744073709551616) (hr : x % 9223372036854775808 < 9218868437227405312) : Pv (fv x) (x % 9223372036854775808) 0 :=
  ⟨hr, .inl ⟨rfl, (fv_abs h).symm⟩⟩
theorem fv_sign (x : Nat) : ((fv x).num < 0 ↔ fz x < 0) ∧ ((fv x).num = 0 ↔ fz x = 0) := by
  have e := fv_num x
  have hd : (0 : Int) < ((fv x).den : Int) := by have := (fv x).den_pos; omega
  have hk : (0 : Int) < (K8 : Int) := by have := K8_pos; omega
  generalize (fv x).num = a at *
  generalize ((fv x).den : Int) = b at *
  generalize (K8 : Int) = k at *
  generalize fz x = c at *
  have m1 : a < 0 ↔ a * k < 0 := ⟨fun h => Int.mul_neg_of_neg_of_pos h hk, fun h => by
    rcases Int.lt_or_le a 0 with g | g
    · exact g
    · have := Int.mul_nonneg g (Int.le_of_lt hk); omega⟩
  have m2 : c < 0 ↔ c * b < 0 := ⟨fun h => Int.mul_neg_of_neg_of_pos h hd, fun h => by
    rcases Int.lt_or_le c 0 with g | g
    · exact g
    · have := Int.mul_nonneg g (Int.le_of_lt hd); omega⟩
  refine ⟨by rw [m1, m2, e], ?_⟩
  constructor
  · intro h; rw [h, Int.zero_mul] at e
    rcases Int.mul_eq_zero.1 e.symm with g | g <;> omega
  · intro h; rw [h, Int.zero_mul] at e
    rcases Int.mul_eq_zero.1 e with g | g <;> omega
/-- The order of a float's number and another one. -/
theorem fv_lt {x : Nat} {v : Rat} : ((fv x).num * v.den < v.num * (fv x).den ↔ fz x * v.den < v.num * K8) ∧ ((fv x).num * v.den = v.num * (fv x).den ↔ fz x * v.den = v.num * K8) := by
  have e := fv_num x
  have hd : (0 : Int) < ((fv x).den : Int) := by have := (fv x).den_pos; omega
  have hk : (0 : Int) < (K8 : Int) := by have := K8_pos; omega
  generalize (fv x).num = a at *
  generalize ((fv x).den : Int) = b at *
  generalize (K8 : Int) = k at *
  generalize fz x = c at *
  generalize (v.den : Int) = d at *
  generalize v.num = n at *
  have e1 : a * d * k = c * d * b := by rw [Int.mul_assoc, Int.mul_comm d k, ← Int.mul_assoc, e, Int.mul_assoc, Int.mul_comm b d, ← Int.mul_assoc]
  have e2 : n * b * k = n * k * b := by rw [Int.mul_assoc, Int.mul_comm b k, ← Int.mul_assoc]
  constructor
  · constructor
    · intro h
      have := Int.mul_lt_mul_of_pos_right h hk
      rw [e1, e2] at this
      exact Int.lt_of_mul_lt_mul_right this (Int.le_of_lt hd)
    · intro h
      have := Int.mul_lt_mul_of_pos_right h hd
      rw [← e1, ← e2] at this
      exact Int.lt_of_mul_lt_mul_right this (Int.le_of_lt hk)
  · constructor
    · intro h
      have : a * d * k = n * b * k := by rw [h]
      rw [e1, e2] at this
      exact Int.eq_of_mul_eq_mul_right (by omega) this
    · intro h
      have : c * d * b = n * k * b := by rw [h]
      rw [← e1, ← e2] at this
      exact Int.eq_of_mul_eq_mul_right (by omega) this
theorem pow_shift (d : Nat) {a u b c : Nat} (h : a + c = u + b) : d * 2 ^ a * 2 ^ c = d * 2 ^ u * 2 ^ b := by
  rw [Nat.mul_assoc, Nat.mul_assoc, ← Nat.pow_add, ← Nat.pow_add, h]
/-- A float's number as it is made: digits times a power of two. -/
theorem fv_made (x : Nat) (s : Bool) (d u t : Nat) (h : fz x = if s then -((d * 2 ^ u : Nat) : Int) else ((d * 2 ^ u : Nat) : Int)) (a b : Nat) (hab : a + 1074 = u + b) (n : Int) (hn : n = if s then -((d * 2 ^ a : Nat) : Int) else ((d * 2 ^ a : Nat) : Int)) (D : Int) (hD : D = ((2 ^ b : Nat) : Int)) : Rat.divInt n D = fv x := by
  have zb : 0 < 2 ^ b := Nat.pow_pos (by decide)
  rw [hD, Rat.divInt_ofNat]
  unfold fv
  rw [Rat.mkRat_eq_iff (by omega) (Nat.ne_of_gt K8_pos), h, hn]
  have e : d * 2 ^ a * K8 = d * 2 ^ u * 2 ^ b := by
    have := pow_shift d hab
    rw [← K8_eq] at this
    exact this
  have e2 : ((d * 2 ^ a : Nat) : Int) * (K8 : Int) = ((d * 2 ^ u : Nat) : Int) * ((2 ^ b : Nat) : Int) := by
    rw [← Int.natCast_mul, ← Int.natCast_mul, e]
  generalize ((d * 2 ^ a : Nat) : Int) = A at *
  generalize ((d * 2 ^ u : Nat) : Int) = B at *
  generalize ((2 ^ b : Nat) : Int) = C at *
  generalize (K8 : Int) = E at *
  cases s
  · exact e2
  · simp only [if_true, Int.neg_mul]
    rw [e2]
end Go.Proofs.YtogabmggdcefaaaGreat
