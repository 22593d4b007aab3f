/-
  A row of limbs, to which a list times a limb is added, or off which it is taken: what holds place by place. Plain arithmetic.
-/
import Derived.Test.YtopmbfiepheepaaRowp
namespace Go.Proofs.Ytopmbfiepheepaa

/-- Behind k places of adding. -/
def BInv (cs0 ls : List Int) (b : Int) (off k : Nat) (c : Int) (cs : List Int) : Prop :=
  cs.length = cs0.length ∧ Limbs cs ∧ (∀ j, j < off ∨ off + k ≤ j → cs.getD j 0 = cs0.getD j 0) ∧ num cs + c * pw (off + k) = num cs0 + num (ls.take k) * b * pw off ∧ 0 ≤ c ∧ c < 18446744073709551616
/-- Behind k places of taking off. -/
def RInv (cs0 ls : List Int) (b : Int) (off k : Nat) (c : Int) (cs : List Int) : Prop :=
  cs.length = cs0.length ∧ Limbs cs ∧ (∀ j, j < off ∨ off + k ≤ j → cs.getD j 0 = cs0.getD j 0) ∧ num cs - c * pw (off + k) = num cs0 - num (ls.take k) * b * pw off ∧ 0 ≤ c ∧ c < 18446744073709551616
theorem binv_start {cs ls : List Int} {b : Int} {off : Nat} (h : Limbs cs) : BInv cs ls b off 0 0 cs := ⟨rfl, h, fun _ _ => rfl, by simp [num], by decide, by decide⟩
theorem rinv_start {cs ls : List Int} {b : Int} {off : Nat} (h : Limbs cs) : RInv cs ls b off 0 0 cs := ⟨rfl, h, fun _ _ => rfl, by simp [num], by decide, by decide⟩
theorem mul_word {x b : Int} (hx : 0 ≤ x ∧ x < 18446744073709551616) (hb : 0 ≤ b ∧ b < 18446744073709551616) : 0 ≤ x * b ∧ x * b ≤ 18446744073709551615 * 18446744073709551615 :=
  ⟨Int.mul_nonneg hx.1 hb.1, Int.mul_le_mul (by omega) (by omega) hb.1 (by decide)⟩
theorem ring_add {N N0 T v y c q x b po pk p : Int} (hd : v + 18446744073709551616 * q = x * b + y + c) (i4 : N + c * p = N0 + T * b * po) (hp : p = po * pk) :
    N + (v - y) * p + q * (18446744073709551616 * p) = N0 + (T + x * pk) * b * po := by grind
theorem ring_sub {N N0 T v y c q x b po pk p : Int} (hd : v + 18446744073709551616 * q = y - x * b - c) (i4 : N - c * p = N0 - T * b * po) (hp : p = po * pk) :
    N + (v - y) * p - -q * (18446744073709551616 * p) = N0 - (T + x * pk) * b * po := by grind
theorem binv_step {cs0 ls cs : List Int} {b : Int} {off k : Nat} {c : Int} (hl : Limbs ls) (hb : 0 ≤ b ∧ b < 18446744073709551616) (I : BInv cs0 ls b off k c cs) (h : off + k < cs0.length) :
    BInv cs0 ls b off (k + 1) ((ls.getD k 0 * b + cs.getD (off + k) 0 + c) / 18446744073709551616) (cs.set (off + k) ((ls.getD k 0 * b + cs.getD (off + k) 0 + c) % 18446744073709551616)) := by
  obtain ⟨i1, i2, i3, i4, i5, i6⟩ := I
  have b1 := i2.getD (off + k); have b2 := hl.getD k
  obtain ⟨p1, p2⟩ := mul_word b2 hb
  have hs := num_set (cs := cs) (i := off + k) ((ls.getD k 0 * b + cs.getD (off + k) 0 + c) % 18446744073709551616) (by omega)
  have ht := num_take_succ ls k
  have hpw : pw (off + (k + 1)) = 18446744073709551616 * pw (off + k) := rfl
  have hpa := pw_add off k
  generalize ls.getD k 0 = x at *
  generalize cs.getD (off + k) 0 = y at *
  have hd : (x * b + y + c) % 18446744073709551616 + 18446744073709551616 * ((x * b + y + c) / 18446744073709551616) = x * b + y + c := by omega
  refine ⟨by rw [List.length_set]; exact i1, i2.set _ ⟨by omega, by omega⟩, fun j hj => by rw [getD_set_other _ _ _ _ (by omega)]; exact i3 j (by omega), ?_, by omega, by omega⟩
  rw [hs, hpw, ht]
  exact ring_add hd i4 hpa
theorem rinv_step {cs0 ls cs : List Int} {b : Int} {off k : Nat} {c : Int} (hl : Limbs ls) (hb : 0 ≤ b ∧ b < 18446744073709551616) (I : RInv cs0 ls b off k c cs) (h : off + k < cs0.length) :
    RInv cs0 ls b off (k + 1) (-((cs.getD (off + k) 0 - ls.getD k 0 * b - c) / 18446744073709551616)) (cs.set (off + k) ((cs.getD (off + k) 0 - ls.getD k 0 * b - c) % 18446744073709551616)) := by
  obtain ⟨i1, i2, i3, i4, i5, i6⟩ := I
  have b1 := i2.getD (off + k); have b2 := hl.getD k
  obtain ⟨p1, p2⟩ := mul_word b2 hb
  have hs := num_set (cs := cs) (i := off + k) ((cs.getD (off + k) 0 - ls.getD k 0 * b - c) % 18446744073709551616) (by omega)
  have ht := num_take_succ ls k
  have hpw : pw (off + (k + 1)) = 18446744073709551616 * pw (off + k) := rfl
  have hpa := pw_add off k
  generalize ls.getD k 0 = x at *
  generalize cs.getD (off + k) 0 = y at *
  have hd : (y - x * b - c) % 18446744073709551616 + 18446744073709551616 * ((y - x * b - c) / 18446744073709551616) = y - x * b - c := by omega
  refine ⟨by rw [List.length_set]; exact i1, i2.set _ ⟨by omega, by omega⟩, fun j hj => by rw [getD_set_other _ _ _ _ (by omega)]; exact i3 j (by omega), ?_, by omega, by omega⟩
  rw [hs, hpw, ht]
  exact ring_sub hd i4 hpa
end Go.Proofs.Ytopmbfiepheepaa
