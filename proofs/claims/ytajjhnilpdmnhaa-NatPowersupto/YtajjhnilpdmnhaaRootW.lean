/-
  Root of numbers: where Newton's steps begin.
-/
import Derived.Test.YtajjhnilpdmnhaaPow
import Derived.Test.YtajjhnilpdmnhaaRoot
import Derived.Test.YtajjhnilpdmnhaaMeas
import Derived.Test.YtajjhnilpdmnhaaDivMod
namespace Go.Proofs.Ytajjhnilpdmnhaa
open Go.RowKit Go.Shelf

/-- The root of a number. -/
def IsRoot (x r : Int) : Prop := 0 ≤ r ∧ r * r ≤ x ∧ x < (r + 1) * (r + 1)
/-- Not above half of what may be. -/
structure Low (x : Int) : Prop where
  lt : 2 * x < pw 4096
theorem le_sq {t x : Int} (h0 : 0 ≤ t) (h : t * t ≤ x) : t ≤ x := by
  rcases Int.lt_or_le t 1 with h1 | h1
  · have : t = 0 := by omega
    subst this; omega
  · have : t * 1 ≤ t * t := Int.mul_le_mul_of_nonneg_left h1 h0
    omega
theorem bits_low {zs : List Int} (h : Limbs zs) {n : Nat} (hlt : num zs < 2 ^ n) : bitsN zs ≤ n := by
  rcases Nat.eq_zero_or_pos (usedN zs) with h0 | h0
  · rw [bits_nought h0]; omega
  · obtain ⟨k, e, k1, k2⟩ := bits_spec h h0
    rcases Nat.lt_or_ge k n with h' | h'
    · omega
    · have := p2_mono h'; omega
/-- The numbers on the way to the beginning. -/
theorem above_nums {x t : Int} {B h : Nat} (hB : B ≤ 262144) (h3 : 3 ≤ B) (hh : h = (B + 1) / 4) (hx : x < 2 ^ B) (ht : IsRoot (x / 2 ^ (2 * h)) t) :
    t + 1 ≤ 2 ^ (B - 2 * h) ∧ Low ((t + 1) * 2 ^ h) ∧ x < ((t + 1) * 2 ^ h + 1) * ((t + 1) * 2 ^ h + 1) ∧ 0 < (t + 1) * 2 ^ h ∧ Fit (t + 1) := by
  obtain ⟨t0, t1, t2⟩ := ht
  have e1 : x / 2 ^ (2 * h) < 2 ^ (B - 2 * h) := by
    apply Int.ediv_lt_of_lt_mul (p2_pos _)
    rw [← Int.pow_add, show B - 2 * h + 2 * h = B by omega]; exact hx
  have e2 := le_sq t0 t1
  have e3 : t + 1 ≤ 2 ^ (B - 2 * h) := by omega
  have e4 : (t + 1) * 2 ^ h ≤ 2 ^ (B - 2 * h) * 2 ^ h := Int.mul_le_mul_of_nonneg_right e3 (Int.le_of_lt (p2_pos h))
  rw [← Int.pow_add, show B - 2 * h + h = B - h by omega] at e4
  have e5 : (2 : Int) * 2 ^ (B - h) = 2 ^ (B - h + 1) := by rw [Int.pow_succ]; omega
  have e6 := p2_mono (show B - h + 1 ≤ 262143 by omega)
  have e7 : (2 : Int) ^ 262143 < 2 ^ (262143 + 1) := by
    rw [Int.pow_succ]; have := p2_pos 262143; omega
  have e8 := p2_pos h
  have e9 : 0 < (t + 1) * 2 ^ h := Int.mul_pos (by omega) e8
  have e10 := p2_mono (show B - 2 * h ≤ 262143 by omega)
  refine ⟨e3, ⟨?_⟩, ?_, e9, ⟨?_⟩⟩
  · rw [pw_4096]; omega
  · rcases root_start (a := x) (t := t) (p := 2 ^ h) e8 (by rw [← Int.pow_add, ← Nat.two_mul]; exact t2) with h' | h'
    · exact h'
    · omega
  · rw [pw_4096]; omega
end Go.Proofs.Ytajjhnilpdmnhaa
