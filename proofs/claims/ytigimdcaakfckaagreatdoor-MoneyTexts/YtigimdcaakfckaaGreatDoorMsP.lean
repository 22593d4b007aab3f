/-
  The sum of units by halves, in numbers (made ready for stage 9).
-/
import Derived.Test.YtigimdcaakfckaaGreatDoorBsA
namespace Go.Proofs.YtigimdcaakfckaaGreatDoor
set_option linter.unusedVariables false

/-- The sum of a list. -/
def lsum : List Int → Int
  | [] => 0
  | z :: t => z + lsum t
theorem lsum_append (a b : List Int) : lsum (a ++ b) = lsum a + lsum b := by
  induction a with
  | nil => simp [lsum]
  | cons z t ih => rw [List.cons_append]; simp only [lsum]; omega
theorem take_one {zs : List Int} {k : Nat} (h : k < zs.length) : zs.take (k + 1) = zs.take k ++ [zs.getD k 0] := by
  rw [List.take_succ_eq_append_getElem h, List.getD_eq_getElem?_getD, List.getElem?_eq_getElem h]; rfl
theorem lsum_take {zs : List Int} {k : Nat} (h : k < zs.length) : lsum (zs.take (k + 1)) = lsum (zs.take k) + zs.getD k 0 := by
  rw [take_one h, lsum_append]; simp [lsum]
theorem lsum_perm {a b : List Int} (h : a.Perm b) : lsum a = lsum b := by
  induction h with
  | nil => rfl
  | cons x _ ih => simp only [lsum]; omega
  | swap x y l => simp only [lsum]; omega
  | trans _ _ h1 h2 => omega
theorem lsum_reverse (a : List Int) : lsum a.reverse = lsum a := lsum_perm (List.reverse_perm a)
/-- What Go's quotient and rest by 2 ^ 32 are of a number not below 0, and of one below. -/
theorem hf_pos {z : Int} (h : 0 ≤ z) : z.tmod 4294967296 = z % 4294967296 ∧ z.tdiv 4294967296 = z / 4294967296 := ⟨Int.tmod_eq_emod_of_nonneg h, Int.tdiv_eq_ediv_of_nonneg h⟩
theorem hf_neg {z : Int} (h : z < 0) : z.tmod 4294967296 = -((-z) % 4294967296) ∧ z.tdiv 4294967296 = -((-z) / 4294967296) := by
  have e1 : z.tmod 4294967296 = -((-z).tmod 4294967296) := by rw [Int.neg_tmod, Int.neg_neg]
  have e2 : z.tdiv 4294967296 = -((-z).tdiv 4294967296) := by rw [Int.neg_tdiv, Int.neg_neg]
  rw [e1, e2, Int.tmod_eq_emod_of_nonneg (by omega), Int.tdiv_eq_ediv_of_nonneg (by omega)]
  exact ⟨rfl, rfl⟩
theorem hf_low {z : Int} (h : z.tmod 4294967296 < 0) : z.tmod 4294967296 + 4294967296 = z % 4294967296 ∧ z.tdiv 4294967296 - 1 = z / 4294967296 := by
  rcases Int.lt_or_le z 0 with g | g
  · obtain ⟨e1, e2⟩ := hf_neg g
    rw [e1] at h ⊢; rw [e2]
    omega
  · obtain ⟨e1, e2⟩ := hf_pos g
    rw [e1] at h; omega
theorem hf_high {z : Int} (h : ¬ z.tmod 4294967296 < 0) : z.tmod 4294967296 = z % 4294967296 ∧ z.tdiv 4294967296 = z / 4294967296 := by
  rcases Int.lt_or_le z 0 with g | g
  · obtain ⟨e1, e2⟩ := hf_neg g
    rw [e1] at h ⊢; rw [e2]
    omega
  · exact hf_pos g
/-- The halves of the first k. -/
def HInv (zs : List Int) (k : Nat) (low high : Int) : Prop := high * 4294967296 + low = lsum (zs.take k) ∧ 0 ≤ low ∧ low ≤ k * 4294967295 ∧ -(k * 2147483648 : Int) ≤ high ∧ high ≤ k * 2147483648
theorem hinv_nil (zs : List Int) : HInv zs 0 0 0 := by
  refine ⟨by simp [lsum], by omega, by omega, by omega, by omega⟩
theorem hinv_step {zs : List Int} {k : Nat} {low high : Int} (I : HInv zs k low high) (h : k < zs.length) (b1 : -9223372036854775808 ≤ zs.getD k 0) (b2 : zs.getD k 0 ≤ 9223372036854775807) :
    HInv zs (k + 1) (low + zs.getD k 0 % 4294967296) (high + zs.getD k 0 / 4294967296) := by
  obtain ⟨i1, i2, i3, i4, i5⟩ := I
  have e := lsum_take h
  generalize zs.getD k 0 = z at *
  refine ⟨?_, by omega, by omega, by omega, by omega⟩
  rw [e, ← i1]; omega
/-- The end: the sum as it is where it fits, and whether it does. -/
theorem hinv_end {zs : List Int} {low high : Int} (I : HInv zs zs.length low high) : (high + low / 4294967296) * 4294967296 + low % 4294967296 = lsum zs ∧ ((-2147483648 ≤ high + low / 4294967296 ∧ high + low / 4294967296 < 2147483648) ↔ (-9223372036854775808 ≤ lsum zs ∧ lsum zs ≤ 9223372036854775807)) := by
  obtain ⟨i1, i2, i3, i4, i5⟩ := I
  rw [List.take_length] at i1
  generalize lsum zs = S at *
  constructor <;> omega
/-- The sum of the first k in 128 bits. -/
def SI (zs : List Int) (k : Nat) (low high : Int) : Prop := high * 18446744073709551616 + low = lsum (zs.take k) ∧ 0 ≤ low ∧ low < 18446744073709551616 ∧ -(k : Int) ≤ high ∧ high ≤ k
theorem si_nil (zs : List Int) : SI zs 0 0 0 := ⟨by simp [lsum], by omega, by omega, by omega, by omega⟩
def b64 (z : Int) : Prop := -9223372036854775808 ≤ z ∧ z ≤ 9223372036854775807
theorem si_step {zs : List Int} {k : Nat} {low high : Int} (I : SI zs k low high) (h : k < zs.length) (b : b64 (zs.getD k 0)) :
    SI zs (k + 1) ((low + zs.getD k 0 % 18446744073709551616) % 18446744073709551616) (high + zs.getD k 0 / 9223372036854775808 + (low + zs.getD k 0 % 18446744073709551616) / 18446744073709551616) := by
  obtain ⟨i1, i2, i3, i4, i5⟩ := I
  obtain ⟨b1, b2⟩ := b
  have e := lsum_take h
  generalize zs.getD k 0 = z at *
  refine ⟨?_, by omega, by omega, by omega, by omega⟩
  rw [e, ← i1]; omega
/-- The number of 64 bits, or the error. -/
def fit9 (s : Int) : Int × Int := if -9223372036854775808 ≤ s ∧ s ≤ 9223372036854775807 then (s, 0) else (0, 5)
theorem fit9_in {s : Int} (h1 : -9223372036854775808 ≤ s) (h2 : s ≤ 9223372036854775807) : fit9 s = (s, 0) := by unfold fit9; rw [if_pos ⟨h1, h2⟩]
theorem fit9_out {s : Int} (h : s < -9223372036854775808 ∨ 9223372036854775807 < s) : fit9 s = (0, 5) := by unfold fit9; rw [if_neg (by omega)]
/-- The end: the low word as a number with a sign, and whether the high one goes with it. -/
theorem si_end {zs : List Int} {low high : Int} (I : SI zs zs.length low high) (s : Int) (hs : s = if low < 9223372036854775808 then low else low - 18446744073709551616) :
    (high = s / 9223372036854775808 → fit9 (lsum zs) = (s, 0)) ∧ (high ≠ s / 9223372036854775808 → fit9 (lsum zs) = (0, 5)) := by
  obtain ⟨i1, i2, i3, i4, i5⟩ := I
  rw [List.take_length] at i1
  constructor
  · intro h
    have e : lsum zs = s := by rw [← i1]; split at hs <;> omega
    rw [e]
    exact fit9_in (by split at hs <;> omega) (by split at hs <;> omega)
  · intro h
    apply fit9_out
    rw [← i1]; split at hs <;> omega
end Go.Proofs.YtigimdcaakfckaaGreatDoor
