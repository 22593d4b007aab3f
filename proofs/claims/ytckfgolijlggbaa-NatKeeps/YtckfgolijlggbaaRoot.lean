/-
  Newton's steps come down to the root: plain arithmetic.
-/
import Init.Omega
namespace Go.Proofs.Ytckfgolijlggbaa

theorem sq_mono {x y : Int} (h0 : 0 ≤ x) (h : x ≤ y) : x * x ≤ y * y := Int.mul_le_mul h h h0 (by omega)
theorem sq_lt {x y : Int} (h0 : 0 ≤ y) (h : x * x < y * y) : x < y := by
  rcases Int.lt_or_le x y with h' | h'
  · exact h'
  · have := sq_mono h0 h'; omega
theorem sq_le {x y : Int} (h0 : 0 ≤ y) (h : x * x < (y + 1) * (y + 1)) : x ≤ y := by
  have := sq_lt (by omega) h; omega
/-- A step from above stays above. -/
theorem newton_above {a r : Int} (hr : 0 < r) (ha : 0 ≤ a) : a < ((r + a / r) / 2 + 1) * ((r + a / r) / 2 + 1) := by
  have hm := Int.mul_ediv_add_emod a r
  have h1 := Int.emod_lt_of_pos a hr
  have hq : 0 ≤ a / r := Int.ediv_nonneg ha (by omega)
  generalize a / r = q at *
  generalize a % r = s at *
  have h2 : r + q + 1 ≤ 2 * ((r + q) / 2 + 1) := by omega
  generalize (r + q) / 2 + 1 = m at *
  have h3 := sq_mono (by omega) h2
  have h4 : 0 ≤ (r - (q + 1)) * (r - (q + 1)) := by
    rcases Int.lt_or_le (r - (q + 1)) 0 with h | h
    · have := Int.mul_pos_of_neg_of_neg h h; omega
    · exact Int.mul_nonneg h h
  have h5 : (r + q + 1) * (r + q + 1) = (r - (q + 1)) * (r - (q + 1)) + 4 * (r * q + r) := by grind
  have h6 : 2 * m * (2 * m) = 4 * (m * m) := by grind
  omega
/-- A step that does not fall is made from the root. -/
theorem newton_end {a r : Int} (hr : 0 < r) (h : r ≤ (r + a / r) / 2) : r * r ≤ a := by
  have hm := Int.mul_ediv_add_emod a r
  have h1 := Int.emod_nonneg a (show r ≠ 0 by omega)
  have hq : r ≤ a / r := by omega
  have := Int.mul_le_mul_of_nonneg_left hq (show 0 ≤ r by omega)
  omega
/-- One root a number. -/
theorem root_one {a r s : Int} (hr : 0 ≤ r) (hs : 0 ≤ s) (h1 : r * r ≤ a) (h2 : a < (r + 1) * (r + 1)) (h3 : s * s ≤ a) (h4 : a < (s + 1) * (s + 1)) : r = s := by
  have := sq_le hs (show r * r < (s + 1) * (s + 1) by omega)
  have := sq_le hr (show s * s < (r + 1) * (r + 1) by omega)
  omega
/-- Where the steps begin. -/
theorem root_start {a t p : Int} (hp : 0 < p) (h1 : a / (p * p) < (t + 1) * (t + 1)) : a < ((t + 1) * p + 1) * ((t + 1) * p + 1) ∨ t < 0 := by
  rcases Int.lt_or_le t 0 with h | h
  · exact .inr h
  left
  have hpp : 0 < p * p := Int.mul_pos hp hp
  have hm := Int.mul_ediv_add_emod a (p * p)
  have h2 := Int.emod_lt_of_pos a hpp
  generalize a / (p * p) = q at *
  have h3 : (q + 1) * (p * p) ≤ (t + 1) * (t + 1) * (p * p) := Int.mul_le_mul_of_nonneg_right (by omega) (by omega)
  have h4 : (t + 1) * (t + 1) * (p * p) = ((t + 1) * p) * ((t + 1) * p) := by grind
  have h5 : (q + 1) * (p * p) = p * p * q + p * p := by grind
  have h6 : 0 ≤ (t + 1) * p := Int.mul_nonneg (by omega) (by omega)
  have h7 := sq_mono h6 (show (t + 1) * p ≤ (t + 1) * p + 1 by omega)
  omega
end Go.Proofs.Ytckfgolijlggbaa
