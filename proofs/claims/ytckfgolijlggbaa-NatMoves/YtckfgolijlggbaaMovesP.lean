/-
  The walk of NatMoves: each call by its contract.
-/
import Derived.Test.YtckfgolijlggbaaFits
import Derived.Test.YtckfgolijlggbaaHeld3
namespace Go.Proofs.Ytckfgolijlggbaa.natMoves
open Go.RowKit Go.Shelf
set_option linter.unusedVariables false

/-- Down and up again: what is left has so few binary digits. -/
theorem bits_le_of {zs : List Int} (h : Limbs zs) {n : Nat} (hlt : num zs < 2 ^ n) : bitsN zs ≤ n := by
  rcases Nat.eq_zero_or_pos (usedN zs) with h0 | h0
  · rw [bits_nought h0]; omega
  · obtain ⟨k, e, k1, k2⟩ := bits_spec h h0
    rcases Nat.lt_or_ge k n with h' | h'
    · omega
    · have := p2_mono h'; omega
theorem bits_at {zs : List Int} (h : Limbs zs) {k : Nat} (h1 : 2 ^ k ≤ num zs) (h2 : num zs < 2 ^ (k + 1)) : bitsN zs = (k : Int) + 1 := by
  have hp := p2_pos k
  have u : 0 < usedN zs := by
    rcases Nat.eq_zero_or_pos (usedN zs) with h' | h'
    · have := (num_eq_zero h).2 h'; omega
    · exact h'
  obtain ⟨j, e, j1, j2⟩ := bits_spec h u
  rcases Nat.lt_or_ge j k with h' | h'
  · have := p2_mono (show j + 1 ≤ k by omega); omega
  · rcases Nat.lt_or_ge k j with h'' | h''
    · have := p2_mono (show k + 1 ≤ j by omega); omega
    · omega
theorem bits_up {zs us : List Int} (h : Limbs zs) (hu : Limbs us) {n : Nat} (h0 : num zs ≠ 0) (e : num us = num zs * 2 ^ n) : bitsN us = bitsN zs + n := by
  have u : 0 < usedN zs := by
    rcases Nat.eq_zero_or_pos (usedN zs) with h' | h'
    · exact absurd ((num_eq_zero h).2 h') h0
    · exact h'
  obtain ⟨j, e1, j1, j2⟩ := bits_spec h u
  have hp := p2_pos n
  have g1 : 2 ^ j * 2 ^ n ≤ num zs * 2 ^ n := Int.mul_le_mul_of_nonneg_right j1 (Int.le_of_lt hp)
  have g2 : num zs * 2 ^ n < 2 ^ (j + 1) * 2 ^ n := Int.mul_lt_mul_of_pos_right j2 hp
  rw [← Int.pow_add] at g1 g2
  have := bits_at hu (k := j + n) (by rw [e]; exact g1) (by rw [e, show j + n + 1 = j + 1 + n by omega]; exact g2)
  rw [this, e1, Int.natCast_add]; omega
theorem rest_fits {zx zl : List Int} (hx : Limbs zx) (hl : Limbs zl) {n : Nat} (hb : bitsN zx ≤ 262144) (nl : num zl = num zx / 2 ^ n) : num zl = 0 ∨ bitsN zl + n ≤ 262144 := by
  have d1 := Int.emod_nonneg (num zx) (show (2 : Int) ^ n ≠ 0 from Int.ne_of_gt (p2_pos n))
  have d3 := Int.mul_ediv_add_emod (num zx) (2 ^ n)
  rcases Nat.eq_zero_or_pos (usedN zl) with h | h
  · exact .inl ((num_eq_zero hl).2 h)
  · right
    obtain ⟨k, e, k1, k2⟩ := bits_spec hl h
    have ux : 0 < usedN zx := by
      rcases Nat.eq_zero_or_pos (usedN zx) with h' | h'
      · have h5 := (num_eq_zero hx).2 h'
        rw [h5, Int.zero_ediv] at nl
        have := p2_pos k; omega
      · exact h'
    obtain ⟨j, f, j1, j2⟩ := bits_spec hx ux
    have h6 : (2 : Int) ^ (k + n) ≤ num zx := by
      rw [Int.pow_add]
      have : 2 ^ k * 2 ^ n ≤ num zl * 2 ^ n := Int.mul_le_mul_of_nonneg_right k1 (Int.le_of_lt (p2_pos n))
      rw [nl, Int.mul_comm (num zx / 2 ^ n)] at this
      omega
    rcases Nat.lt_or_ge j (k + n) with h7 | h7
    · have := p2_mono (show j + 1 ≤ k + n by omega); omega
    · omega
end Go.Proofs.Ytckfgolijlggbaa.natMoves
