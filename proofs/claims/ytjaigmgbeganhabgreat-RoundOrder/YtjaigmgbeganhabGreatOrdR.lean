/-
  Rounding and the order, sums with whole numbers, the other side of 0.
-/
import Derived.Test.YtjaigmgbeganhabGreatRdP
namespace Go.Proofs.YtjaigmgbeganhabGreat
open Go.RowKit Go.Shelf
set_option linter.unusedVariables false

theorem cmp3_vals (x y : Int) : cmp3 x y = -1 ∨ cmp3 x y = 0 ∨ cmp3 x y = 1 := by unfold cmp3; grind
theorem rise_mono {q a b : Int} {o : Bool} (h : a ≤ b) (r : rise q a o = true) (hb : b = -1 ∨ b = 0 ∨ b = 1) (ha : a = -1 ∨ a = 0 ∨ a = 1) : rise q b o = true := by
  unfold rise at *
  rcases ha with rfl | rfl | rfl <;> rcases hb with rfl | rfl | rfl <;> first | (exfalso; omega) | (split at r <;> first | exact r | (split <;> simp_all) | simp_all) | (simp_all; done)
theorem rnd_mono {q n1 d1 n2 d2 : Int} (h1 : 0 < d1) (h2 : 0 < d2) (h : n1 * d2 ≤ n2 * d1) : rnd q n1 d1 ≤ rnd q n2 d2 := by
  have a1 := Int.emod_nonneg n1 (show d1 ≠ 0 by omega)
  have a2 := Int.emod_lt_of_pos n1 h1
  have a3 := Int.mul_ediv_add_emod n1 d1
  have b1 := Int.emod_nonneg n2 (show d2 ≠ 0 by omega)
  have b2 := Int.emod_lt_of_pos n2 h2
  have b3 := Int.mul_ediv_add_emod n2 d2
  have hf : n1 / d1 ≤ n2 / d2 := by
    rcases Int.lt_or_le (n2 / d2) (n1 / d1) with hlt | hle
    · exfalso
      generalize n1 / d1 = f at *
      generalize n2 / d2 = g at *
      generalize n1 % d1 = r at *
      generalize n2 % d2 = s at *
      have e1 : n1 * d2 = d1 * d2 * f + r * d2 := by rw [← a3]; grind
      have e2 : n2 * d1 = d1 * d2 * g + s * d1 := by rw [← b3]; grind
      have p : 0 < d1 * d2 := Int.mul_pos h1 h2
      have e3 : d1 * d2 * (g + 1) ≤ d1 * d2 * f := Int.mul_le_mul_of_nonneg_left (by omega) (by omega)
      have e4 : s * d1 < d2 * d1 := Int.mul_lt_mul_of_pos_right b2 h1
      have e5 : 0 ≤ r * d2 := Int.mul_nonneg a1 (by omega)
      rw [Int.mul_add, Int.mul_one, Int.mul_comm d1 d2] at e3
      rw [Int.mul_comm d1 d2] at e1 e2
      omega
    · exact hle
  rcases rnd_cases q n1 d1 with c1 | ⟨c1, c1'⟩
  · rcases rnd_cases q n2 d2 with c2 | ⟨c2, -⟩ <;> omega
  · rcases rnd_cases q n2 d2 with c2 | ⟨c2, -⟩
    · rcases Int.lt_or_le (n1 / d1) (n2 / d2) with hlt | hge
      · omega
      · exfalso
        have he : n1 / d1 = n2 / d2 := by omega
        have U1 : rise q (cmp3 (2 * (n1 % d1)) d1) (decide (n1 / d1 % 2 ≠ 0)) = true := by
          unfold rnd at c1; rw [if_neg c1'] at c1
          split at c1
          · assumption
          · omega
        have hr : n1 % d1 * d2 ≤ n2 % d2 * d1 := by
          rw [he] at a3
          generalize n2 / d2 = g at *
          generalize n1 % d1 = r at *
          generalize n2 % d2 = s at *
          have e1 : n1 * d2 = d1 * d2 * g + r * d2 := by rw [← a3]; grind
          have e2 : n2 * d1 = d1 * d2 * g + s * d1 := by rw [← b3]; grind
          omega
        by_cases hz : n2 % d2 = 0
        · rw [hz, Int.zero_mul] at hr
          have := Int.mul_pos (show 0 < n1 % d1 by omega) h2
          omega
        · have hc : cmp3 (2 * (n1 % d1)) d1 ≤ cmp3 (2 * (n2 % d2)) d2 := by
            generalize n1 % d1 = r at *
            generalize n2 % d2 = s at *
            rcases Int.lt_trichotomy (2 * r) d1 with x | x | x
            · rw [cmp3_lt x]; rcases cmp3_vals (2 * s) d2 with y | y | y <;> omega
            · have y : d2 ≤ 2 * s := by
                refine Int.le_of_mul_le_mul_right (a := d1) ?_ h1
                have e1 : d2 * d1 = 2 * (r * d2) := by rw [← x]; grind
                have e2 : 2 * s * d1 = 2 * (s * d1) := by grind
                omega
              rw [cmp3_eq x]
              rcases Int.lt_or_eq_of_le y with y | y
              · rw [cmp3_gt y]; omega
              · rw [cmp3_eq y.symm]; omega
            · have y : d2 < 2 * s := by
                refine Int.lt_of_mul_lt_mul_right (a := d1) ?_ (by omega)
                have e1 : d1 * d2 < 2 * r * d2 := Int.mul_lt_mul_of_pos_right x h2
                have e2 : 2 * s * d1 = 2 * (s * d1) := by grind
                have e3 : 2 * r * d2 = 2 * (r * d2) := by grind
                rw [Int.mul_comm d1 d2] at e1
                omega
              rw [cmp3_gt x, cmp3_gt y]; omega
          have U2 := rise_mono hc U1 (cmp3_vals _ _) (cmp3_vals _ _)
          rw [he] at U1 U2
          unfold rnd at c2
          rw [if_neg hz, if_pos U2] at c2
          omega
    · omega
theorem rnd_le {q : Int} {v u : Rat} (h : v ≤ u) : rnd q v.num v.den ≤ rnd q u.num u.den := by
  rw [Rat.le_iff] at h
  have h1 := v.den_pos
  have h2 := u.den_pos
  exact rnd_mono (by omega) (by omega) h
theorem rise_odd {q h : Int} (hq : q ≠ 5) (h1 : 1 ≤ q) (h2 : q ≤ 5) (a b : Bool) : rise q h a = rise q h b := by
  obtain rfl | rfl | rfl | rfl : q = 1 ∨ q = 2 ∨ q = 3 ∨ q = 4 := by omega
  all_goals rfl
theorem rnd_more {q n d k : Int} (hd : 0 < d) (h1 : 1 ≤ q) (h2 : q ≤ 5) (hk : q = 5 → k % 2 = 0) : rnd q (n + k * d) d = rnd q n d + k := by
  unfold rnd
  rw [Int.add_mul_emod_self_right, Int.add_mul_ediv_right _ _ (by omega)]
  by_cases hz : n % d = 0
  · rw [if_pos hz, if_pos hz]
  · rw [if_neg hz, if_neg hz]
    have e : rise q (cmp3 (2 * (n % d)) d) (decide ((n / d + k) % 2 ≠ 0)) = rise q (cmp3 (2 * (n % d)) d) (decide (n / d % 2 ≠ 0)) := by
      by_cases h5 : q = 5
      · have := hk h5
        have : (n / d + k) % 2 = n / d % 2 := by omega
        rw [this]
      · exact rise_odd h5 h1 h2 _ _
    rw [e]
    split <;> omega
theorem rnd_add {q k : Int} {v : Rat} (h1 : 1 ≤ q) (h2 : q ≤ 5) (hk : q = 5 → k % 2 = 0) : rnd q (v + (k : Rat)).num (v + (k : Rat)).den = rnd q v.num v.den + k := by
  have e : v + (k : Rat) = v - ((-k : Int) : Rat) := by rw [Rat.intCast_neg, Rat.sub_eq_add_neg, Rat.neg_neg]
  obtain ⟨e1, e2⟩ := sub_int_parts v (-k)
  rw [e, e1, e2]
  have hd := v.den_pos
  rw [show v.num - -k * (v.den : Int) = v.num + k * (v.den : Int) by rw [Int.neg_mul]; omega]
  exact rnd_more (by omega) h1 h2 hk
/-- The other way up. -/
def turn (q : Int) : Int := if q = 1 then 2 else if q = 2 then 1 else if q = 3 then 4 else if q = 4 then 3 else q
theorem rise_turn {q h : Int} (h1 : 1 ≤ q) (h2 : q ≤ 5) (hh : h = -1 ∨ h = 0 ∨ h = 1) (o : Bool) : rise (turn q) (-h) (!o) = !(rise q h o) := by
  obtain rfl | rfl | rfl | rfl | rfl : q = 1 ∨ q = 2 ∨ q = 3 ∨ q = 4 ∨ q = 5 := by omega
  all_goals rcases hh with rfl | rfl | rfl <;> cases o <;> decide
theorem rnd_neg {q n d : Int} (hd : 0 < d) (h1 : 1 ≤ q) (h2 : q ≤ 5) : rnd (turn q) (-n) d = - rnd q n d := by
  have a1 := Int.emod_nonneg n (show d ≠ 0 by omega)
  have a2 := Int.emod_lt_of_pos n hd
  have a3 := Int.mul_ediv_add_emod n d
  by_cases hz : n % d = 0
  · have hz2 : (-n) % d = 0 := by
      have : d ∣ n := Int.dvd_of_emod_eq_zero hz
      exact Int.emod_eq_zero_of_dvd ((Int.dvd_neg).2 this)
    have e : (-n) / d = - (n / d) := by
      have b3 := Int.mul_ediv_add_emod (-n) d
      rw [hz2] at b3; rw [hz] at a3
      refine Int.eq_of_mul_eq_mul_left (a := d) (by omega) ?_
      rw [Int.mul_neg]; omega
    unfold rnd
    rw [if_pos hz, if_pos hz2, e]
  · have e : (-n) % d = d - n % d ∧ (-n) / d = - (n / d) - 1 := by
      have x : -n = (-(n / d) - 1) * d + (d - n % d) := by
        have : (-(n / d) - 1) * d = - (d * (n / d)) - d := by grind
        omega
      have e1 : (-n) / d = -(n / d) - 1 := by
        rw [x, Int.add_comm, Int.add_mul_ediv_right _ _ (by omega), Int.ediv_eq_zero_of_lt (by omega) (by omega)]; omega
      refine ⟨?_, e1⟩
      have y := Int.mul_ediv_add_emod (-n) d
      rw [e1, Int.mul_comm] at y
      omega
    have hc : cmp3 (2 * (d - n % d)) d = - cmp3 (2 * (n % d)) d := by
      rcases Int.lt_trichotomy (2 * (n % d)) d with x | x | x
      · rw [cmp3_lt x, cmp3_gt (by omega)]; rfl
      · rw [cmp3_eq x, cmp3_eq (by omega)]; rfl
      · rw [cmp3_gt x, cmp3_lt (by omega)]
    have ho : decide ((-(n / d) - 1) % 2 ≠ 0) = !(decide (n / d % 2 ≠ 0)) := by
      rcases Int.emod_two_eq (n / d) with y | y
      · rw [y, show (-(n / d) - 1) % 2 = 1 by omega]; rfl
      · rw [y, show (-(n / d) - 1) % 2 = 0 by omega]; rfl
    unfold rnd
    rw [e.1, e.2, if_neg hz, if_neg (by omega), hc, ho, rise_turn h1 h2 (cmp3_vals _ _)]
    cases rise q (cmp3 (2 * (n % d)) d) (decide (n / d % 2 ≠ 0))
    · first | (simp; done) | (simp; omega)
    · first | (simp; done) | (simp; omega)
theorem rnd_negr {q : Int} {v : Rat} (h1 : 1 ≤ q) (h2 : q ≤ 5) : rnd (turn q) (-v).num (-v).den = - rnd q v.num v.den := by
  rw [Rat.neg_num, Rat.neg_den]
  have hd := v.den_pos
  exact rnd_neg (by omega) h1 h2
end Go.Proofs.YtjaigmgbeganhabGreat
