/-
  The document's answers: the difference of two lists of limbs.
-/
import Derived.Test.YtpfbcicjfnfpgaaBsJ
namespace Go.Proofs.Ytpfbcicjfnfpgaa
open Go.RowKit Go.Shelf

def DfInv (xs ys cs : List Int) (k : Nat) (c : Int) : Prop :=
  cs.length = k ∧ H.Limbs cs ∧ H.num cs - c * H.pw k = H.num (xs.take k) - H.num (ys.take k) ∧ 0 ≤ c ∧ c ≤ 1
theorem borrow_stepH {v c' s p : Int} (h : v - 4294967296 * c' = s) : v * p - c' * (4294967296 * p) = s * p := by
  rw [← h, Int.sub_mul, Int.mul_comm 4294967296 c', Int.mul_assoc]
theorem df_step {xs ys cs : List Int} {k : Nat} {c : Int} (hx : H.Limbs xs) (hy : H.Limbs ys) (I : DfInv xs ys cs k c) :
    DfInv xs ys (cs ++ [(4294967296 + xs.getD k 0 - ys.getD k 0 - c) % 4294967296]) (k + 1) (1 - (4294967296 + xs.getD k 0 - ys.getD k 0 - c) / 4294967296) := by
  obtain ⟨i1, i2, i3, i4, i5⟩ := I
  have b1 := hx.getD k; have b2 := hy.getD k
  refine ⟨by simp; omega, i2.snoc ⟨by omega, by omega⟩, ?_, by omega, by omega⟩
  have hc := borrow_stepH (v := (4294967296 + xs.getD k 0 - ys.getD k 0 - c) % 4294967296) (c' := 1 - (4294967296 + xs.getD k 0 - ys.getD k 0 - c) / 4294967296) (p := H.pw k) (s := xs.getD k 0 - ys.getD k 0 - c) (by omega)
  rw [H.num_snoc, i1, H.num_take_succ, H.num_take_succ, H.pw]
  rw [Int.sub_mul (xs.getD k 0 - ys.getD k 0), Int.sub_mul (xs.getD k 0)] at hc
  omega
theorem df_end {xs ys cs : List Int} {n : Nat} {c : Int} (hx : H.Limbs xs) (hy : H.Limbs ys) (hn : xs.length = n) (I : DfInv xs ys cs n c) (h : H.num ys ≤ H.num xs) : H.num cs = H.num xs - H.num ys := by
  obtain ⟨i1, i2, i3, i4, i5⟩ := I
  have hu := usedN_le xs
  have hle : usedN ys ≤ usedN xs := by
    rcases Nat.lt_or_ge (usedN xs) (usedN ys) with h' | h'
    · have := H.num_lt_len hx hy h'; omega
    · exact h'
  rw [H.num_take_used xs (by omega), H.num_take_used ys (by omega)] at i3
  have h1 := H.num_lt i2
  rw [i1] at h1
  have : c = 0 ∨ c = 1 := by omega
  rcases this with rfl | rfl
  · simpa using i3
  · rw [Int.one_mul] at i3; omega


end Go.Proofs.Ytpfbcicjfnfpgaa
