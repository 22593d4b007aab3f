/-
  The document's Compare, even, To; isWhole of the statements of layer 7.
-/
import Derived.Test.YtjlodljgfjjclaaGreatRt17
import Derived.Test.YtjlodljgfjjclaaGreatBtE
import Derived.Test.YtjlodljgfjjclaaGreatAl
namespace Go.Proofs.YtjlodljgfjjclaaGreat
open Go.RowKit Go.Shelf
set_option linter.unusedVariables false

theorem sign_mul_pos {x d : Int} (h : 0 < d) : Int.sign (x * d) = Int.sign x := by rw [Int.sign_mul, Int.sign_eq_one_of_pos h, Int.mul_one]
theorem cmp_signs {x y : Int} (h : Int.sign x ≠ Int.sign y) : cmp3 x y = if Int.sign x < Int.sign y then -1 else 1 := by
  rcases Int.lt_trichotomy x 0 with a | a | a <;> rcases Int.lt_trichotomy y 0 with b | b | b <;> (try subst a) <;> (try subst b) <;> (try rw [Int.sign_eq_neg_one_of_neg a]) <;> (try rw [Int.sign_eq_neg_one_of_neg b]) <;> (try rw [Int.sign_eq_one_of_pos a]) <;> (try rw [Int.sign_eq_one_of_pos b]) <;> (try simp only [Int.sign_zero]) <;> first | (rw [cmp3_lt (by omega)]; rfl) | (rw [cmp3_gt (by omega)]; rfl) | (exfalso; apply h; first | rfl | (rw [Int.sign_eq_neg_one_of_neg a, Int.sign_eq_neg_one_of_neg b]) | (rw [Int.sign_eq_one_of_pos a, Int.sign_eq_one_of_pos b]))
theorem qcmp_signs {u v : Rat} (h : Int.sign u.num ≠ Int.sign v.num) : qcmp u v = if Int.sign u.num < Int.sign v.num then -1 else 1 := by
  have h1 := u.den_pos
  have h2 := v.den_pos
  unfold qcmp
  rw [cmp_signs (by rw [sign_mul_pos (by omega), sign_mul_pos (by omega)]; exact h), sign_mul_pos (by omega), sign_mul_pos (by omega)]
theorem cmp3_anti (x y : Int) : cmp3 (-x) (-y) = - cmp3 x y := by
  rcases Int.lt_trichotomy x y with h | h | h
  · rw [cmp3_lt h, cmp3_gt (by omega)]; rfl
  · rw [cmp3_eq h, cmp3_eq (by omega)]; rfl
  · rw [cmp3_gt h, cmp3_lt (by omega)]
theorem cmp3_vals7 (x y : Int) : cmp3 x y = -1 ∨ cmp3 x y = 0 ∨ cmp3 x y = 1 := by unfold cmp3; grind
/-- Of two numbers on one side of 0. -/
theorem qcmp_side {s1 s2 : Bool} {z1 z2 y1 y2 : List Int} {u v : Rat} (e1 : iv s1 z1 = u.num) (f1 : num y1 = u.den) (e2 : iv s2 z2 = v.num) (f2 : num y2 = v.den) (p1 : 0 ≤ num z1) (p2 : 0 ≤ num z2) (n1 : s1 = true → num z1 ≠ 0) (n2 : s2 = true → num z2 ≠ 0) (h : Int.sign u.num = Int.sign v.num) :
    qcmp u v = if Int.sign u.num < 0 then - cmp3 (num z1 * num y2) (num z2 * num y1) else cmp3 (num z1 * num y2) (num z2 * num y1) := by
  have sg : ∀ x : Int, 0 ≤ x → ¬ Int.sign x < 0 := fun x hx => by
    rcases Int.lt_trichotomy x 0 with a | a | a
    · omega
    · rw [a]; decide
    · rw [Int.sign_eq_one_of_pos a]; decide
  have key : (0 ≤ u.num ∧ u.num = num z1 ∧ v.num = num z2) ∨ (u.num < 0 ∧ u.num = - num z1 ∧ v.num = - num z2) := by
    cases s1
    · rw [iv_f] at e1
      cases s2
      · rw [iv_f] at e2; exact Or.inl ⟨by omega, e1.symm, e2.symm⟩
      · rw [iv_t] at e2
        have := n2 rfl
        have h3 := sg u.num (by omega)
        rw [h, Int.sign_eq_neg_one_of_neg (show v.num < 0 by omega)] at h3
        exact absurd (by decide) h3
    · rw [iv_t] at e1
      have := n1 rfl
      cases s2
      · rw [iv_f] at e2
        have h3 := sg v.num (by omega)
        rw [← h, Int.sign_eq_neg_one_of_neg (show u.num < 0 by omega)] at h3
        exact absurd (by decide) h3
      · rw [iv_t] at e2; exact Or.inr ⟨by omega, e1.symm, e2.symm⟩
  have e5 : qcmp u v = cmp3 (u.num * num y2) (v.num * num y1) := by unfold qcmp; rw [f1, f2]
  rw [e5]
  rcases key with ⟨k0, k1, k2⟩ | ⟨k0, k1, k2⟩
  · rw [if_neg (sg _ k0), k1, k2]
  · rw [if_pos (by rw [Int.sign_eq_neg_one_of_neg k0]; decide), k1, k2, Int.neg_mul, Int.neg_mul, cmp3_anti]

end Go.Proofs.YtjlodljgfjjclaaGreat
