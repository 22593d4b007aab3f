/-
  Left: a list of limbs moved up by any number of binary digits; the refusals.
-/
import Derived.Test.YtopmbfiepheepaaLists3
import Derived.Test.YtopmbfiepheepaaShift
import Derived.Deep.RegionLaw
namespace Go.Proofs.Ytopmbfiepheepaa
open Go.RowKit Go.Shelf

theorem bitsN_bd {xs : List Int} (h : Limbs xs) (hu : 0 < usedN xs) : 64 * ((usedN xs : Int) - 1) + 1 ≤ bitsN xs ∧ bitsN xs ≤ 64 * (usedN xs : Int) := by
  have ht := usedN_top xs hu
  have hw := h.getD (usedN xs - 1)
  obtain ⟨p1, p2⟩ := bitLen_spec 64 (xs.getD (usedN xs - 1) 0).toNat (by omega) (by omega)
  have p3 : Lib.bitLen (xs.getD (usedN xs - 1) 0).toNat ≤ 64 := Lib.bitLen_le _ 64 (by omega) (by omega)
  have : Lib.bitLen (xs.getD (usedN xs - 1) 0).toNat ≠ 0 := by
    intro e
    rw [e] at p1
    omega
  simp only [bitsN, if_neg (show ¬ usedN xs = 0 by omega)]
  omega

theorem splice_row (A B : List Int) (p : Nat) : splice (row A) p (row B) = row (A.take p ++ (B ++ A.drop (p + B.length))) := by
  simp only [splice, row, List.length_map, List.map_append, List.map_take, List.map_drop]
theorem src_row {W : World} {b o la n : Nat} {xs : List Int} (ha : Sl W (some ⟨b, o, none⟩) la xs) (hn : n ≤ la) : ∀ j v, (row (xs.take n))[j]? = some v → W.cell? ((⟨b, o, none⟩ : Addr).add j) = some v := by
  intro j v hj
  have hj' : j < (row (xs.take n)).length := by
    rcases Nat.lt_or_ge j (row (xs.take n)).length with h' | h'
    · exact h'
    · rw [List.getElem?_eq_none h'] at hj; cases hj
  rw [row_length, List.length_take] at hj'
  have hz := ha.1
  rw [row_getElem? _ _ (by rw [List.length_take]; omega), getD_take_lt _ _ _ (by omega)] at hj
  cases hj
  obtain ⟨b', o', e, hc⟩ := ha.2.2 (by omega)
  cases e
  rw [addr_add]
  exact hc j (by omega)
theorem row_one (cs : List Int) : ∀ v ∈ row cs, v.oneCell' = true := by
  intro v hv
  simp only [row, List.mem_map] at hv
  obtain ⟨x, -, rfl⟩ := hv
  rfl
theorem up_start (xs : List Int) (p n : Nat) (hn : usedN xs = n) : (List.replicate (p + n + 1) (0 : Int)).take p ++ (xs.take n ++ (List.replicate (p + n + 1) (0 : Int)).drop (p + (xs.take n).length)) = List.replicate p 0 ++ (xs.take n ++ [0]) := by
  have hu := usedN_le xs
  rw [List.length_take, Nat.min_eq_left (by omega), List.take_replicate, List.drop_replicate, Nat.min_eq_left (by omega), show p + n + 1 - (p + n) = 1 by omega]; rfl
theorem up_num (xs : List Int) (p n : Nat) (hn : usedN xs = n) : num (List.replicate p 0 ++ (xs.take n ++ [0])) = num xs * pw p ∧ (List.replicate p 0 ++ (xs.take n ++ [0])).length = p + n + 1 ∧ num ((List.replicate p 0 ++ (xs.take n ++ [0])).take p) = 0 := by
  have hu := usedN_le xs
  refine ⟨?_, by simp; omega, ?_⟩
  · rw [num_append, num_zeros, num_append, List.length_replicate, num_take_used xs (by omega)]; simp [num]
  · rw [List.take_append_of_le_length (by simp), List.take_of_length_le (by simp), num_zeros]
theorem up_end {xs cs : List Int} {p n s t : Nat} {r : Int} (hx : Limbs xs) (hn : usedN xs = n) (ht : t = 64 * p + s) (hs : s ≤ 63) (I : UInv (List.replicate p 0 ++ (xs.take n ++ [0])) cs (2 ^ s) p (n + 1) r) : cs.length = p + n + 1 ∧ Limbs cs ∧ num cs = num xs * 2 ^ t := by
  obtain ⟨i1, i2, i3, i4, i5, i6⟩ := I
  obtain ⟨u1, u2, u3⟩ := up_num xs p n hn
  rw [List.take_of_length_le (by omega), List.take_of_length_le (by omega), u1] at i4
  refine ⟨by omega, i2, ?_⟩
  have e : num xs * pw p * 2 ^ s = num xs * 2 ^ t := by
    rw [pw_eq, Int.mul_assoc, ← Int.pow_add, ht]
  rw [e] at i4
  have h1 := num_lt_used hx
  rw [hn] at h1
  have hP : (0 : Int) < 2 ^ s := Int.pow_pos (by decide)
  have hP2 : (2 : Int) ^ s ≤ 2 ^ 63 := by
    have := Nat.pow_le_pow_right (n := 2) (by decide) hs
    have h := Int.ofNat_le.2 this
    simpa using h
  have h2 := num_nonneg i2
  have h3 := pw_pos (p + (n + 1))
  have h4 : pw (p + (n + 1)) = pw p * (18446744073709551616 * pw n) := by rw [pw_add, pw]
  have h5 : num xs * pw p * 2 ^ s < pw (p + (n + 1)) := by
    have a1 : num xs * pw p ≤ pw n * pw p := Int.mul_le_mul_of_nonneg_right (by omega) (by have := pw_pos p; omega)
    have a2 : num xs * pw p * 2 ^ s ≤ pw n * pw p * 2 ^ 63 := Int.le_trans (Int.mul_le_mul_of_nonneg_right a1 (by omega)) (Int.mul_le_mul_of_nonneg_left hP2 (Int.mul_nonneg (by have := pw_pos n; omega) (by have := pw_pos p; omega)))
    have a3 : pw p * (18446744073709551616 * pw n) = pw n * pw p * 18446744073709551616 := by
      rw [Int.mul_comm (pw p), Int.mul_comm 18446744073709551616, Int.mul_assoc, Int.mul_comm 18446744073709551616, ← Int.mul_assoc]
    have a4 : 0 < pw n * pw p := Int.mul_pos (pw_pos n) (pw_pos p)
    rw [h4, a3]
    generalize pw n * pw p = z at *
    have : z * 2 ^ 63 = 9223372036854775808 * z := by rw [Int.mul_comm]; rfl
    omega
  rw [e] at h5
  have : r = 0 := by
    rcases Int.lt_or_le 0 r with h | h
    · have : 1 * pw (p + (n + 1)) ≤ r * pw (p + (n + 1)) := Int.mul_le_mul_of_nonneg_right (by omega) (by omega)
      omega
    · omega
  subst this
  simpa using i4

end Go.Proofs.Ytopmbfiepheepaa
