/-
  One place of a quotient of two half words by the school method, guessed too great and lowered: plain arithmetic.
-/
import Init.Omega
namespace Go.Proofs.Ytopmbfiepheepaa

/-- What holds of the guess a and what it leaves, b: the place is Q. -/
def DInv (yn1 u Q a b : Int) : Prop := 0 ≤ a ∧ a ≤ 4294967297 ∧ 0 ≤ b ∧ b < 4294967296 ∧ a * yn1 + b = u ∧ Q ≤ a ∧ 0 ≤ Q

/-- The divisor, cut in two, and what is divided. -/
def DSet (Y yn1 yn0 u u1 Q : Int) : Prop :=
  Y = yn1 * 4294967296 + yn0 ∧ 2147483648 ≤ yn1 ∧ yn1 < 4294967296 ∧ 0 ≤ yn0 ∧ yn0 < 4294967296 ∧ 0 ≤ u1 ∧ u1 < 4294967296 ∧ 0 ≤ u ∧ u < Y ∧ Q = (u * 4294967296 + u1) / Y

theorem dset_q {Y yn1 yn0 u u1 Q : Int} (S : DSet Y yn1 yn0 u u1 Q) : 0 ≤ Q ∧ Q < 4294967296 := by
  obtain ⟨e, c1, c2, c3, c4, c5, c6, c7, c8, hq⟩ := S
  subst hq
  refine ⟨Int.ediv_nonneg (by omega) (by omega), Int.ediv_lt_of_lt_mul (by omega) ?_⟩
  omega

theorem dset_lt {Y yn1 yn0 u u1 Q a b : Int} (S : DSet Y yn1 yn0 u u1 Q) (I : a * yn1 + b = u) (h : 4294967296 * b + u1 < a * yn0) : Q < a := by
  obtain ⟨e, c1, c2, c3, c4, c5, c6, c7, c8, hq⟩ := S
  subst hq
  refine Int.ediv_lt_of_lt_mul (by omega) ?_
  have : a * Y = a * yn1 * 4294967296 + a * yn0 := by rw [e, Int.mul_add, Int.mul_assoc]
  rw [this]
  generalize a * yn1 = p at *
  generalize a * yn0 = t at *
  omega

theorem dset_ge {Y yn1 yn0 u u1 Q a b : Int} (S : DSet Y yn1 yn0 u u1 Q) (I : a * yn1 + b = u) (h : a * yn0 ≤ 4294967296 * b + u1) : a ≤ Q := by
  obtain ⟨e, c1, c2, c3, c4, c5, c6, c7, c8, hq⟩ := S
  subst hq
  refine Int.le_ediv_of_mul_le (by omega) ?_
  have : a * Y = a * yn1 * 4294967296 + a * yn0 := by rw [e, Int.mul_add, Int.mul_assoc]
  rw [this]
  generalize a * yn1 = p at *
  generalize a * yn0 = t at *
  omega

theorem dinv_start {Y yn1 yn0 u u1 Q : Int} (S : DSet Y yn1 yn0 u u1 Q) : DInv yn1 u Q (u / yn1) (u - u / yn1 * yn1) := by
  obtain ⟨q0, q1⟩ := dset_q S
  have S' := S
  obtain ⟨e, c1, c2, c3, c4, c5, c6, c7, c8, hq⟩ := S
  have hm := Int.emod_nonneg u (b := yn1) (by omega)
  have hl := Int.emod_lt_of_pos u (b := yn1) (by omega)
  have he := Int.mul_ediv_add_emod u yn1
  have hc : u / yn1 * yn1 = yn1 * (u / yn1) := Int.mul_comm _ _
  have hle : u / yn1 ≤ 4294967297 := by
    have : u / yn1 < 4294967298 := Int.ediv_lt_of_lt_mul (by omega) (by omega)
    omega
  have h0 : 0 ≤ u / yn1 := Int.ediv_nonneg c7 (by omega)
  refine ⟨h0, hle, by omega, by omega, by omega, ?_, q0⟩
  rcases Int.lt_or_le (u / yn1) Q with h | h
  · exfalso
    -- the next one up is too great already without the lower half
    have h1 : Q * yn1 > u := by
      have : (u / yn1 + 1) * yn1 ≤ Q * yn1 := Int.mul_le_mul_of_nonneg_right (by omega) (by omega)
      rw [Int.add_mul, Int.one_mul] at this
      omega
    have h2 : Q * Y ≤ u * 4294967296 + u1 := by
      have := Int.ediv_mul_le (u * 4294967296 + u1) (b := Y) (by omega)
      rw [← hq] at this; exact this
    have h3 : Q * Y = Q * yn1 * 4294967296 + Q * yn0 := by rw [e, Int.mul_add, Int.mul_assoc]
    have h4 : 0 ≤ Q * yn0 := Int.mul_nonneg q0 c3
    rw [h3] at h2
    generalize Q * yn1 = p at *
    generalize Q * yn0 = t at *
    omega
  · exact h

theorem dinv_low {Y yn1 yn0 u u1 Q a b : Int} (S : DSet Y yn1 yn0 u u1 Q) (I : DInv yn1 u Q a b) (h : 4294967296 ≤ a ∨ 4294967296 * b + u1 < a * yn0) : Q < a := by
  obtain ⟨q0, q1⟩ := dset_q S
  rcases h with h | h
  · omega
  · exact dset_lt S I.2.2.2.2.1 h

theorem dinv_step {Y yn1 yn0 u u1 Q a b : Int} (S : DSet Y yn1 yn0 u u1 Q) (I : DInv yn1 u Q a b) (h : 4294967296 ≤ a ∨ 4294967296 * b + u1 < a * yn0) (hb : b + yn1 < 4294967296) :
    DInv yn1 u Q (a - 1) (b + yn1) := by
  have hl := dinv_low S I h
  obtain ⟨i1, i2, i3, i4, i5, i6, i7⟩ := I
  obtain ⟨e, c1, c2, c3, c4, c5, c6, c7, c8, hq⟩ := S
  refine ⟨by omega, by omega, by omega, hb, ?_, by omega, i7⟩
  rw [Int.sub_mul, Int.one_mul]
  omega

theorem dinv_break {Y yn1 yn0 u u1 Q a b : Int} (S : DSet Y yn1 yn0 u u1 Q) (I : DInv yn1 u Q a b) (h : 4294967296 ≤ a ∨ 4294967296 * b + u1 < a * yn0) (hb : 4294967296 ≤ b + yn1) :
    a - 1 = Q := by
  have hl := dinv_low S I h
  obtain ⟨i1, i2, i3, i4, i5, i6, i7⟩ := I
  have hge : a - 1 ≤ Q := by
    refine dset_ge S (b := b + yn1) (by rw [Int.sub_mul, Int.one_mul]; omega) ?_
    obtain ⟨e, c1, c2, c3, c4, c5, c6, c7, c8, hq⟩ := S
    have : (a - 1) * yn0 ≤ 4294967296 * yn0 := Int.mul_le_mul_of_nonneg_right (by omega) c3
    omega
  omega

theorem dinv_done {Y yn1 yn0 u u1 Q a b : Int} (S : DSet Y yn1 yn0 u u1 Q) (I : DInv yn1 u Q a b) (h : a * yn0 ≤ 4294967296 * b + u1) : a = Q := by
  have h1 := dset_ge S I.2.2.2.2.1 h
  have h2 := I.2.2.2.2.2.1
  omega

theorem half_mul {a b : Int} (h0 : 0 ≤ a) (h1 : a < 4294967296) (h2 : 0 ≤ b) (h3 : b < 4294967296) : 0 ≤ a * b ∧ a * b < 18446744073709551616 := by
  refine ⟨Int.mul_nonneg h0 h2, ?_⟩
  have : a * b ≤ 4294967295 * b := Int.mul_le_mul_of_nonneg_right (by omega) h2
  omega

/-- What is left behind a place, as words wrap it. -/
theorem dset_rest {Y yn1 yn0 u u1 Q : Int} (S : DSet Y yn1 yn0 u u1 Q) :
    (((u * 4294967296) % 18446744073709551616 + u1) % 18446744073709551616 - (Q * Y) % 18446744073709551616) % 18446744073709551616 = (u * 4294967296 + u1) % Y := by
  obtain ⟨e, c1, c2, c3, c4, c5, c6, c7, c8, hq⟩ := S
  have hm := Int.emod_nonneg (u * 4294967296 + u1) (b := Y) (by omega)
  have hl := Int.emod_lt_of_pos (u * 4294967296 + u1) (b := Y) (by omega)
  have he := Int.mul_ediv_add_emod (u * 4294967296 + u1) Y
  rw [← hq, Int.mul_comm] at he
  generalize Q * Y = p at *
  generalize (u * 4294967296 + u1) % Y = r at *
  omega
end Go.Proofs.Ytopmbfiepheepaa
