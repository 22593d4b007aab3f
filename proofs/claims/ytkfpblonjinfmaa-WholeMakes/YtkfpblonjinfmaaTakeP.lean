/-
  A divisor taken off a piece of a row, as often as that goes: plain arithmetic.
-/
import Derived.Test.YtkfpblonjinfmaaRowsP
import Derived.Test.YtkfpblonjinfmaaKnuth
namespace Go.Proofs.Ytkfpblonjinfmaa

/-- The piece has lost t times the divisor; b: what was borrowed from beyond it. -/
def SInv (V : Int) (cs0 : List Int) (off n : Nat) (t b : Int) (ds : List Int) : Prop :=
  ds.length = cs0.length ∧ Limbs ds ∧ (∀ j, j < off ∨ off + n + 1 ≤ j → ds.getD j 0 = cs0.getD j 0) ∧ num ds = num cs0 - V * t * pw off + b * pw (off + n + 1) ∧ 0 ≤ b ∧ b ≤ 1

theorem ring_first {N N0 V t y c v q po p : Int} (h1 : N - c * p = N0 - V * t * po) (h2 : v + 18446744073709551616 * q = y - c) : N + (v - y) * p = N0 - V * t * po + -q * (18446744073709551616 * p) := by grind
theorem ring_more {N N0 M V t y c v q po p : Int} (h0 : N = N0 - V * t * po + 1 * (18446744073709551616 * p)) (h1 : M + c * p = N + V * 1 * po) (h2 : v + 18446744073709551616 * q = y + c) : M + (v - y) * p = N0 - V * (t - 1) * po + (1 - q) * (18446744073709551616 * p) := by grind

theorem sinv_first {cs0 vs ds : List Int} {off n : Nat} {t c : Int} (hv : vs.length = n) (hf : off + n < cs0.length) (R : RInv cs0 vs t off n c ds) :
    SInv (num vs) cs0 off n t (-((cs0.getD (off + n) 0 - c) / 18446744073709551616)) (ds.set (off + n) ((cs0.getD (off + n) 0 - c) % 18446744073709551616)) := by
  obtain ⟨r1, r2, r3, r4, r5, r6⟩ := R
  have hy : ds.getD (off + n) 0 = cs0.getD (off + n) 0 := r3 _ (.inr (Nat.le_refl _))
  have hb := r2.getD (off + n)
  rw [hy] at hb
  rw [List.take_of_length_le (by omega)] at r4
  have hs := num_set (cs := ds) (i := off + n) ((cs0.getD (off + n) 0 - c) % 18446744073709551616) (by omega)
  rw [hy] at hs
  generalize cs0.getD (off + n) 0 = y at *
  refine ⟨by rw [List.length_set]; exact r1, r2.set _ ⟨by omega, by omega⟩, fun j hj => by rw [getD_set_other _ _ _ _ (by omega)]; exact r3 j (by omega), ?_, by omega, by omega⟩
  rw [hs]
  exact ring_first r4 (by omega)
theorem sinv_more {cs0 vs ds es : List Int} {off n : Nat} {t c : Int} (hv : vs.length = n) (hf : off + n < cs0.length) (S : SInv (num vs) cs0 off n t 1 ds) (B : BInv ds vs 1 off n c es) :
    SInv (num vs) cs0 off n (t - 1) (1 - (ds.getD (off + n) 0 + c) / 18446744073709551616) (es.set (off + n) ((ds.getD (off + n) 0 + c) % 18446744073709551616)) := by
  obtain ⟨s1, s2, s3, s4, s5, s6⟩ := S
  obtain ⟨r1, r2, r3, r4, r5, r6⟩ := B
  have hy : es.getD (off + n) 0 = ds.getD (off + n) 0 := r3 _ (.inr (Nat.le_refl _))
  have hb := r2.getD (off + n)
  rw [hy] at hb
  rw [List.take_of_length_le (by omega)] at r4
  have hs := num_set (cs := es) (i := off + n) ((ds.getD (off + n) 0 + c) % 18446744073709551616) (by omega)
  rw [hy] at hs
  generalize ds.getD (off + n) 0 = y at *
  refine ⟨by rw [List.length_set]; omega, r2.set _ ⟨by omega, by omega⟩, fun j hj => ?_, ?_, by omega, by omega⟩
  · rw [getD_set_other _ _ _ _ (by omega), r3 j (by omega)]; exact s3 j hj
  · rw [hs]
    exact ring_more s4 r4 (by omega)
theorem sinv_seg {V : Int} {cs0 ds : List Int} {off n : Nat} {t b : Int} (hf : off + n < cs0.length) (S : SInv V cs0 off n t b ds) :
    num ((ds.drop off).take (n + 1)) = num ((cs0.drop off).take (n + 1)) - t * V + b * pw (n + 1) := by
  obtain ⟨s1, s2, s3, s4, s5, s6⟩ := S
  have h := num_piece (cs := ds) (ds := cs0) (off := off) (n := n + 1) s1 (by omega) (fun j hj => s3 j (by omega))
  have hp : pw (off + n + 1) = pw off * pw (n + 1) := by rw [Nat.add_assoc, pw_add]
  rw [s4, hp] at h
  refine mul_cancel (pw_pos off) ?_
  generalize num ((ds.drop off).take (n + 1)) = D at *
  generalize num ((cs0.drop off).take (n + 1)) = C at *
  grind
theorem sinv_neg {V : Int} {cs0 ds : List Int} {off n : Nat} {t : Int} (hV : 0 < V) (hL : Limbs cs0) (hf : off + n < cs0.length) (S : SInv V cs0 off n t 1 ds) : num ((cs0.drop off).take (n + 1)) / V + 1 ≤ t := by
  have h := sinv_seg hf S
  have h1 := num_take_lt (S.2.1.drop off) (n + 1)
  obtain ⟨q0, q1, q2⟩ := quot_facts hV (num_take_nonneg (hL.drop off) (n + 1))
  generalize num ((ds.drop off).take (n + 1)) = D at *
  generalize num ((cs0.drop off).take (n + 1)) = C at *
  have : C / V * V < t * V := by omega
  have := lt_cancel hV this
  omega
theorem sinv_end {V : Int} {cs0 ds : List Int} {off n : Nat} {t : Int} (hV : 0 < V) (hL : Limbs cs0) (hf : off + n < cs0.length) (S : SInv V cs0 off n t 0 ds) (hq : num ((cs0.drop off).take (n + 1)) / V ≤ t) :
    num ((ds.drop off).take (n + 1)) = num ((cs0.drop off).take (n + 1)) - t * V ∧ num ((ds.drop off).take (n + 1)) < V := by
  have h := sinv_seg hf S
  obtain ⟨q0, q1, q2⟩ := quot_facts hV (num_take_nonneg (hL.drop off) (n + 1))
  generalize num ((ds.drop off).take (n + 1)) = D at *
  generalize num ((cs0.drop off).take (n + 1)) = C at *
  have h2 : C / V * V ≤ t * V := mul_le (by omega) hq
  rw [Int.zero_mul] at h
  rw [Int.add_mul] at q2
  exact ⟨by omega, by omega⟩
end Go.Proofs.Ytkfpblonjinfmaa
