/-
  The document's answers: the product of two lists of limbs.
-/
import Derived.Test.YtpfbcicjfnfpgaaBsJ
namespace Go.Proofs.Ytpfbcicjfnfpgaa
open Go.RowKit Go.Shelf

def RPrInv (xs ys cs : List Int) (n lb i : Nat) : Prop :=
  cs.length = n ∧ H.Limbs cs ∧ (∀ j, i + lb ≤ j → cs.getD j 0 = 0) ∧ H.num cs = H.num (xs.take i) * H.num ys
def InInv (ys cs : List Int) (n lb i k : Nat) (T x c : Int) : Prop :=
  cs.length = n ∧ H.Limbs cs ∧ (∀ j, i + lb ≤ j → cs.getD j 0 = 0) ∧ H.num cs + c * H.pw (i + k) = T + x * H.num (ys.take k) * H.pw i ∧ 0 ≤ c ∧ c < 4294967296

theorem in_start {xs ys cs : List Int} {n lb i : Nat} (x : Int) (I : RPrInv xs ys cs n lb i) : InInv ys cs n lb i 0 (H.num (xs.take i) * H.num ys) x 0 := by
  obtain ⟨i1, i2, i3, i4⟩ := I
  exact ⟨i1, i2, i3, by rw [i4]; simp [H.num], by omega, by omega⟩
theorem in_word {o x y c : Int} (ho : 0 ≤ o ∧ o < 4294967296) (hx : 0 ≤ x ∧ x < 4294967296) (hy : 0 ≤ y ∧ y < 4294967296) (hc : 0 ≤ c ∧ c < 4294967296) :
    0 ≤ x * y ∧ x * y ≤ 18446744065119617025 ∧ (o + x * y + c) / 4294967296 < 4294967296 := by
  have h1 : 0 ≤ x * y := Int.mul_nonneg hx.1 hy.1
  have h2 : x * y ≤ 4294967295 * y := Int.mul_le_mul_of_nonneg_right (by omega) hy.1
  generalize x * y = p at *
  omega
theorem in_step {ys cs : List Int} {n lb i k : Nat} {T x c : Int} (hx : 0 ≤ x ∧ x < 4294967296) (hy : H.Limbs ys) (hk : k < lb) (hn : i + lb ≤ n) (I : InInv ys cs n lb i k T x c) :
    InInv ys (cs.set (i + k) ((cs.getD (i + k) 0 + x * ys.getD k 0 + c) % 4294967296)) n lb i (k + 1) T x ((cs.getD (i + k) 0 + x * ys.getD k 0 + c) / 4294967296) := by
  obtain ⟨i1, i2, i3, i4, i5, i6⟩ := I
  have b1 := i2.getD (i + k); have b2 := hy.getD k
  obtain ⟨p1, p2, p3⟩ := in_word b1 hx b2 ⟨i5, i6⟩
  refine ⟨by rw [List.length_set]; exact i1, i2.set _ ⟨by omega, by omega⟩, fun j hj => by rw [getD_set_other _ _ _ _ (by omega)]; exact i3 j hj, ?_, by omega, p3⟩
  have hc := H.carry_step (v := (cs.getD (i + k) 0 + x * ys.getD k 0 + c) % 4294967296) (c' := (cs.getD (i + k) 0 + x * ys.getD k 0 + c) / 4294967296) (p := H.pw (i + k)) (s := cs.getD (i + k) 0 + x * ys.getD k 0 + c) (by omega)
  rw [Int.add_mul (cs.getD (i + k) 0 + x * ys.getD k 0), Int.add_mul (cs.getD (i + k) 0)] at hc
  rw [H.num_set _ _ _ (by omega), H.num_take_succ, ← Nat.add_assoc, H.pw, Int.sub_mul, Int.mul_add x, Int.add_mul (x * H.num (ys.take k))]
  have e : x * (ys.getD k 0 * H.pw k) * H.pw i = x * ys.getD k 0 * H.pw (i + k) := by
    rw [H.pw_add, Int.mul_comm (H.pw i), Int.mul_assoc, Int.mul_assoc, Int.mul_assoc]
  rw [e]
  omega
theorem in_end {xs ys cs : List Int} {n lb i : Nat} {c : Int} (hlb : ys.length = lb) (hn : i + lb < n) (I : InInv ys cs n lb i lb (H.num (xs.take i) * H.num ys) (xs.getD i 0) c) : RPrInv xs ys (cs.set (i + lb) c) n lb (i + 1) := by
  obtain ⟨i1, i2, i3, i4, i5, i6⟩ := I
  refine ⟨by rw [List.length_set]; exact i1, i2.set _ ⟨i5, i6⟩, fun j hj => by rw [getD_set_other _ _ _ _ (by omega)]; exact i3 j (by omega), ?_⟩
  have et : ys.take lb = ys := List.take_of_length_le (by omega)
  rw [et] at i4
  rw [H.num_set _ _ _ (by omega), i3 (i + lb) (Nat.le_refl _), Int.sub_zero, H.num_take_succ, Int.add_mul, Int.mul_right_comm (xs.getD i 0)]
  exact i4

end Go.Proofs.Ytpfbcicjfnfpgaa
