/-
  The document's Compare, even, To; isWhole of the statements of layer 7.
-/
import Derived.Test.YtegfklapgbggfaaGreatRt17
import Derived.Test.YtegfklapgbggfaaGreatRtoP
import Derived.Test.YtegfklapgbggfaaGreatAl
namespace Go.Proofs.YtegfklapgbggfaaGreat
open Go.RowKit Go.Shelf
set_option linter.unusedVariables false

theorem sign_mul_pos {x d : Int} (h : 0 < d) : Int.sign (x * d) = Int.sign x := by rw [Int.sign_mul, Int.sign_eq_one_of_pos h, Int.mul_one]
theorem cmp_signs {x y : Int} (h : Int.sign x ≠ Int.sign y) : cmp3 x y = if Int.sign x < Int.sign y then -1 else 1 := by
  rcases Int.lt_trichotomy x 0 with a | a | a <;> rcases Int.lt_trichotomy y 0 with b | b | b <;> (try subst a) <;> (try subst b) <;> (try rw [Int.sign_eq_neg_one_of_neg a]) <;> (try rw [Int.sign_eq_neg_one_of_neg b]) <;> (try rw [Int.sign_eq_one_of_pos a]) <;> (try rw [Int.sign_eq_one_of_pos b]) <;> (try simp only [Int.sign_zero]) <;> first | (rw [cmp3_lt (by omega)]; rfl) | (rw [cmp3_gt (by omega)]; rfl) | (exfalso; apply h; first | rfl | (rw [Int.sign_eq_neg_one_of_neg a, Int.sign_eq_neg_one_of_neg b]) | (rw [Int.sign_eq_one_of_pos a, Int.sign_eq_one_of_pos b]))
theorem qcmp_signs {u v : Rat} (h : Int.sign u.num ≠ Int.sign v.num) : qcmp u v = if Int.sign u.num < Int.sign v.num then -1 else 1 := by
  have h1 := u.den_pos
  have h2 := v.den_pos
  unfold qcmp
  rw [cmp_signs (by rw [sign_mul_pos (by omega), sign_mul_pos (by omega)]; exact h), sign_mul_pos (by omega), sign_mul_pos (by omega)]
theorem cmp3_anti (x y : Int) : cmp3 (-x) (-y) = - cmp3 x y := by
  rcases Int.lt_trichotomy x y with h | h | h
  · rw [cmp3_lt h, cmp3_gt (by omega)]; rfl
  · rw [cmp3_eq h, cmp3_eq (by omega)]; rfl
  · rw [cmp3_gt h, cmp3_lt (by omega)]
theorem cmp3_vals7 (x y : Int) : cmp3 x y = -1 ∨ cmp3 x y = 0 ∨ cmp3 x y = 1 := by unfold cmp3; grind
/-- Of two numbers on one side of 0. -/
theorem qcmp_side {s1 s2 : Bool} {z1 z2 y1 y2 : List Int} {u v : Rat} (e1 : iv s1 z1 = u.num) (f1 : num y1 = u.den) (e2 : iv s2 z2 = v.num) (f2 : num y2 = v.den) (p1 : 0 ≤ num z1) (p2 : 0 ≤ num z2) (n1 : s1 = true → num z1 ≠ 0) (n2 : s2 = true → num z2 ≠ 0) (h : Int.sign u.num = Int.sign v.num) :
    qcmp u v = if Int.sign u.num < 0 then - cmp3 (num z1 * num y2) (num z2 * num y1) else cmp3 (num z1 * num y2) (num z2 * num y1) := by
  have sg : ∀ x : Int, 0 ≤ x → ¬ Int.sign x < 0 := fun x hx => by
    rcases Int.lt_trichotomy x 0 with a | a | a
    · omega
    · rw [a]; decide
    · rw [Int.sign_eq_one_of_pos a]; decide
  have key : (0 ≤ u.num ∧ u.num = num z1 ∧ v.num = num z2) ∨ (u.num < 0 ∧ u.num = - num z1 ∧ v.num = - num z2) := by
    cases s1
    · rw [iv_f] at e1
      cases s2
      · rw [iv_f] at e2; exact Or.inl ⟨by omega, e1.symm, e2.symm⟩
      · rw [iv_t] at e2
        have := n2 rfl
        have h3 := sg u.num (by omega)
        rw [h, Int.sign_eq_neg_one_of_neg (show v.num < 0 by omega)] at h3
        exact absurd (by decide) h3
    · rw [iv_t] at e1
      have := n1 rfl
      cases s2
      · rw [iv_f] at e2
        have h3 := sg v.num (by omega)
        rw [← h, Int.sign_eq_neg_one_of_neg (show u.num < 0 by omega)] at h3
        exact absurd (by decide) h3
      · rw [iv_t] at e2; exact Or.inr ⟨by omega, e1.symm, e2.symm⟩
  have e5 : qcmp u v = cmp3 (u.num * num y2) (v.num * num y1) := by unfold qcmp; rw [f1, f2]
  rw [e5]
  rcases key with ⟨k0, k1, k2⟩ | ⟨k0, k1, k2⟩
  · rw [if_neg (sg _ k0), k1, k2]
  · rw [if_pos (by rw [Int.sign_eq_neg_one_of_neg k0]; decide), k1, k2, Int.neg_mul, Int.neg_mul, cmp3_anti]

theorem num_even {zs : List Int} {l : Nat} (hl : zs.length = l) (h0 : 0 < l) : num zs % 2 = zs.getD 0 0 % 2 := by
  cases zs with
  | nil => simp at hl; omega
  | cons z r => simp only [num, List.getD_cons_zero]; omega
theorem reven7 (s1 : Bool) (a1 : Option Addr) (l1 c1 : Nat) (z1 : List Int) (b1 : Option Addr) (m1 d1 : Nat) (y1 : List Int) (v : Rat) (w : World) (h : Rr w s1 a1 l1 c1 z1 b1 m1 d1 y1 v) :
    Calls Tryz.prog 66 #[.agg #[.bool s1, .slice a1 l1 c1, .slice b1 m1 d1]] w fun e w' => e = .returned (.bool (decide (num z1 % 2 = 0))) ∧ Below w.heap.size w w' := by
  have B0 := (Below.refl w.heap.size w).alloc (Nat.le_refl _) (.cells #[.bool s1, .slice a1 l1 c1, .slice b1 m1 d1] 31)
  by_cases h0 : l1 = 0
  · subst h0
    have HZ : Hid (num z1 = 0) := (num_eq_zero h.1.2.1).2 h.2.2.1
    go_enter Tryz.func66, Tryz.ntmps66
    go_wp2_with fail
    go_ret
    exact ⟨by rw [HZ.out]; rfl, B0⟩
  · obtain ⟨bb, off, rfl, hc⟩ := h.1.2.2 (by omega)
    have hW := h.1.2.1 (z1.getD 0 0) (by
      have hl := h.1.1
      cases z1 with
      | nil => simp at hl; omega
      | cons z r => simp)
    have HE : Hid (num z1 % 2 = z1.getD 0 0 % 2) := num_even h.1.1 (by omega)
    obtain ⟨z, hz⟩ : ∃ z, z1.getD 0 0 = z := ⟨_, rfl⟩
    have hcell := Sl.after B0 h.1
    obtain ⟨bb', off', e', hc'⟩ := hcell.2.2 (by omega)
    cases e'
    have c0 := hc' 0 (by omega)
    rw [hz] at c0 HE hW
    rw [Nat.add_zero] at c0
    have w0 : 0 ≤ z ∧ z < 18446744073709551616 := hW
    have t1 : z.tmod 2 = z % 2 := by rw [Int.tmod_eq_emod_of_nonneg w0.1]
    have t2 : IntKind.u64.wrap (z % 2) = z % 2 := by rw [IntKind.wrap_u64]; omega
    have nl : ((l1 : Int) == 0) = false := by simp; omega
    have nl2 : (0 : Int) < (l1 : Int) := by omega
    clear hc hc' hcell h hz hW
    go_enter Tryz.func66, Tryz.ntmps66
    go_wp2_with fail
    go_ret
    refine ⟨?_, B0⟩
    rw [HE.out]
    first | rfl | (simp; done)

end Go.Proofs.YtegfklapgbggfaaGreat
