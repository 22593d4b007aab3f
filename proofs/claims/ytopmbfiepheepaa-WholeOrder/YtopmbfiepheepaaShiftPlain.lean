/-
  A list of limbs moved by fewer than 64 binary digits, limb by limb: plain arithmetic.
-/
import Derived.Test.YtopmbfiepheepaaWide
namespace Go.Proofs.Ytopmbfiepheepaa

theorem pw_eq : ∀ n : Nat, pw n = 2 ^ (64 * n)
  | 0 => by simp [pw]
  | n + 1 => by
    rw [pw, pw_eq n, Nat.mul_add, Int.pow_add, Int.mul_comm]; rfl

/-- What holds behind k limbs moved up, from place o on. -/
def UInv (xs cs : List Int) (P : Int) (o k : Nat) (c : Int) : Prop :=
  cs.length = xs.length ∧ Limbs cs ∧ (∀ j, o + k ≤ j → cs.getD j 0 = xs.getD j 0) ∧ num (cs.take (o + k)) + c * pw (o + k) = num (xs.take (o + k)) * P ∧ 0 ≤ c ∧ c < P

theorem uinv_start {xs : List Int} {P : Int} {o : Nat} (hx : Limbs xs) (hP : 0 < P) (h0 : num (xs.take o) = 0) : UInv xs xs P o 0 0 :=
  ⟨rfl, hx, fun _ _ => rfl, by simp [h0], by omega, hP⟩

/-- One limb moved up: P is a power of two below 2^64, D what is left of 2^64. -/
theorem up_word {x c P D : Int} (hPD : P * D = 18446744073709551616) (hP : 0 < P) (hD : 0 < D) (hx : 0 ≤ x ∧ x < 18446744073709551616) (hc : 0 ≤ c ∧ c < P) :
    (x * P) % 18446744073709551616 + c + 18446744073709551616 * (x / D) = x * P + c ∧ 0 ≤ (x * P) % 18446744073709551616 + c ∧ (x * P) % 18446744073709551616 + c < 18446744073709551616 ∧ 0 ≤ x / D ∧ x / D < P ∧ (x * P) % 18446744073709551616 = (x % D) * P := by
  have e1 : (x * P) % 18446744073709551616 = (x % D) * P := by
    rw [← hPD, Int.mul_comm x P, Int.mul_emod_mul_of_pos _ _ hP, Int.mul_comm]
  have h1 := Int.emod_nonneg x (b := D) (by omega)
  have h2 := Int.emod_lt_of_pos x hD
  have h3 := Int.mul_ediv_add_emod x D
  have h4 : 0 ≤ x / D := Int.ediv_nonneg hx.1 (by omega)
  have h5 : x / D < P := Int.ediv_lt_of_lt_mul hD (by rw [hPD]; exact hx.2)
  have h6 : (x % D + 1) * P ≤ D * P := Int.mul_le_mul_of_nonneg_right (by omega) (by omega)
  rw [Int.add_mul, Int.one_mul, Int.mul_comm D P, hPD] at h6
  have h7 : 0 ≤ (x % D) * P := Int.mul_nonneg h1 (by omega)
  have h8 : x * P = 18446744073709551616 * (x / D) + (x % D) * P := by
    rw [← hPD, Int.mul_assoc P D, Int.mul_comm P, ← Int.add_mul, h3]
  rw [e1]
  exact ⟨by omega, by omega, by omega, h4, h5, rfl⟩

theorem uinv_step {xs cs : List Int} {P D : Int} {o k : Nat} {c : Int} (hPD : P * D = 18446744073709551616) (hP : 0 < P) (hD : 0 < D) (I : UInv xs cs P o k c) (h : o + k < xs.length) :
    UInv xs (cs.set (o + k) ((cs.getD (o + k) 0 * P) % 18446744073709551616 + c)) P o (k + 1) (cs.getD (o + k) 0 / D) := by
  obtain ⟨i1, i2, i3, i4, i5, i6⟩ := I
  have b1 := i2.getD (o + k)
  have e := i3 (o + k) (Nat.le_refl _)
  obtain ⟨p1, p2, p3, p4, p5, -⟩ := up_word hPD hP hD b1 ⟨i5, i6⟩
  refine ⟨by rw [List.length_set]; exact i1, i2.set _ ⟨p2, p3⟩, fun j hj => by rw [getD_set_other _ _ _ _ (by omega)]; exact i3 j (by omega), ?_, p4, p5⟩
  have hc := carry_step (p := pw (o + k)) p1
  rw [← Nat.add_assoc, num_set_take _ _ _ (by omega), num_take_succ, pw, ← e, Int.add_mul (num (xs.take (o + k)))]
  rw [Int.add_mul (cs.getD (o + k) 0 * P), Int.mul_right_comm] at hc
  omega

/-- What holds behind k limbs moved down. -/
def DnInv (xs cs : List Int) (P : Int) (k : Nat) : Prop :=
  cs.length = xs.length ∧ Limbs cs ∧ (∀ j, k ≤ j → cs.getD j 0 = xs.getD j 0) ∧ P * num (cs.take k) + xs.getD 0 0 % P = num (xs.take k) + xs.getD k 0 % P * pw k

theorem dninv_start {xs : List Int} {P : Int} (hx : Limbs xs) : DnInv xs xs P 0 := ⟨rfl, hx, fun _ _ => rfl, by simp [num, pw]⟩
theorem down_word {x y P D : Int} (hPD : P * D = 18446744073709551616) (hP : 0 < P) (hD : 0 < D) (hx : 0 ≤ x ∧ x < 18446744073709551616) :
    P * (x / P + (y * D) % 18446744073709551616) + x % P = x + 18446744073709551616 * (y % P) ∧ 0 ≤ x / P ∧ x / P < D ∧ (y * D) % 18446744073709551616 = (y % P) * D ∧ 0 ≤ x / P + (y * D) % 18446744073709551616 ∧ x / P + (y * D) % 18446744073709551616 < 18446744073709551616 := by
  have e1 : (y * D) % 18446744073709551616 = (y % P) * D := by
    rw [← hPD, Int.mul_comm P D, Int.mul_comm y D, Int.mul_emod_mul_of_pos _ _ hD, Int.mul_comm]
  have h1 := Int.emod_nonneg y (b := P) (by omega)
  have h2 := Int.emod_lt_of_pos y hP
  have h3 := Int.mul_ediv_add_emod x P
  have h4 : 0 ≤ x / P := Int.ediv_nonneg hx.1 (by omega)
  have h5 : x / P < D := Int.ediv_lt_of_lt_mul hP (by rw [Int.mul_comm, hPD]; exact hx.2)
  have h6 : (y % P + 1) * D ≤ P * D := Int.mul_le_mul_of_nonneg_right (by omega) (by omega)
  rw [Int.add_mul, Int.one_mul, hPD] at h6
  have h7 : 0 ≤ (y % P) * D := Int.mul_nonneg h1 (by omega)
  rw [e1]
  refine ⟨?_, h4, h5, rfl, by omega, by omega⟩
  rw [Int.mul_add, Int.mul_left_comm P, hPD, Int.mul_comm _ 18446744073709551616]
  omega
theorem dninv_step {xs cs : List Int} {P D : Int} {k : Nat} (hPD : P * D = 18446744073709551616) (hP : 0 < P) (hD : 0 < D) (I : DnInv xs cs P k) (h : k < xs.length) :
    DnInv xs (cs.set k (cs.getD k 0 / P + (cs.getD (k + 1) 0 * D) % 18446744073709551616)) P (k + 1) := by
  obtain ⟨i1, i2, i3, i4⟩ := I
  have b1 := i2.getD k
  have e := i3 k (Nat.le_refl _)
  have e' := i3 (k + 1) (by omega)
  obtain ⟨p1, p2, p3, p4, p5, p6⟩ := down_word (y := cs.getD (k + 1) 0) hPD hP hD b1
  refine ⟨by rw [List.length_set]; exact i1, i2.set k ⟨p5, p6⟩, fun j hj => by rw [getD_set_other _ _ _ _ (by omega)]; exact i3 j (by omega), ?_⟩
  rw [num_set_take _ _ _ (by omega), num_take_succ, ← e, ← e', pw, Int.mul_add, ← Int.mul_assoc P]
  rw [← e] at i4
  have hc : (P * (cs.getD k 0 / P + (cs.getD (k + 1) 0 * D) % 18446744073709551616) + cs.getD k 0 % P) * pw k = (cs.getD k 0 + 18446744073709551616 * (cs.getD (k + 1) 0 % P)) * pw k := by rw [p1]
  rw [Int.add_mul, Int.add_mul, Int.mul_comm 18446744073709551616 (cs.getD (k + 1) 0 % P), Int.mul_assoc (cs.getD (k + 1) 0 % P)] at hc
  omega
theorem dninv_end {xs cs : List Int} {P : Int} (hP : 0 < P) (I : DnInv xs cs P xs.length) : num cs = num xs / P := by
  obtain ⟨i1, i2, i3, i4⟩ := I
  have e : xs.getD xs.length 0 = 0 := by rw [List.getD_eq_getElem?_getD, List.getElem?_eq_none (Nat.le_refl _)]; rfl
  rw [e, List.take_of_length_le (Nat.le_refl _), List.take_of_length_le (by omega), Int.zero_emod, Int.zero_mul, Int.add_zero] at i4
  have h1 := Int.emod_nonneg (xs.getD 0 0) (b := P) (by omega)
  have h2 := Int.emod_lt_of_pos (xs.getD 0 0) hP
  rw [← i4, Int.add_comm, Int.add_mul_ediv_left _ _ (by omega), Int.ediv_eq_zero_of_lt h1 h2, Int.zero_add]
end Go.Proofs.Ytopmbfiepheepaa
