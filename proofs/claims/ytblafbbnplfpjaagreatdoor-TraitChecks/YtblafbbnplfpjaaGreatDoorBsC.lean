/-
  Put together of: Order, Lists2.
-/
import Derived.Test.YtblafbbnplfpjaaGreatDoorBsA
import Derived.Test.YtblafbbnplfpjaaGreatDoorLists
namespace Go.Proofs.YtblafbbnplfpjaaGreatDoor

/-- -1, 0 or 1. -/
def cmp3 (x y : Int) : Int := if x < y then -1 else if y < x then 1 else 0
theorem cmp3_lt {x y : Int} (h : x < y) : cmp3 x y = -1 := by simp [cmp3, h]
theorem cmp3_gt {x y : Int} (h : y < x) : cmp3 x y = 1 := by unfold cmp3; rw [if_neg (by omega), if_pos h]
theorem cmp3_eq {x y : Int} (h : x = y) : cmp3 x y = 0 := by subst h; simp [cmp3]
theorem cmp3_turn (x y : Int) : cmp3 y x = -cmp3 x y := by
  rcases Int.lt_trichotomy x y with h | h | h
  · rw [cmp3_lt h, cmp3_gt h]; rfl
  · rw [cmp3_eq h, cmp3_eq h.symm]; rfl
  · rw [cmp3_gt h, cmp3_lt h]
theorem cmp3_bd (x y : Int) : -1 ≤ cmp3 x y ∧ cmp3 x y ≤ 1 := by
  rcases Int.lt_trichotomy x y with h | h | h
  · rw [cmp3_lt h]; decide
  · rw [cmp3_eq h]; decide
  · rw [cmp3_gt h]; decide
theorem cmp3_self (x : Int) : cmp3 x x = 0 := cmp3_eq rfl
theorem cmp3_neg_iff (x y : Int) : cmp3 x y < 0 ↔ x < y := by
  rcases Int.lt_trichotomy x y with h | h | h
  · rw [cmp3_lt h]; omega
  · rw [cmp3_eq h]; omega
  · rw [cmp3_gt h]; omega

theorem num_above {a b : List Int} {t : Nat} (h : ∀ j, t ≤ j → a.getD j 0 = b.getD j 0) : ∀ k, num (a.take (t + k)) - num (a.take t) = num (b.take (t + k)) - num (b.take t)
  | 0 => by simp only [Nat.add_zero]; omega
  | k + 1 => by
    have ih := num_above h k
    rw [← Nat.add_assoc, num_take_succ, num_take_succ, h (t + k) (by omega)]; omega
theorem num_above' {a b : List Int} {t : Nat} (h : ∀ j, t ≤ j → a.getD j 0 = b.getD j 0) : num a - num (a.take t) = num b - num (b.take t) := by
  have e := num_above h (a.length + b.length)
  have e1 : a.take (t + (a.length + b.length)) = a := List.take_of_length_le (by omega)
  have e2 : b.take (t + (a.length + b.length)) = b := List.take_of_length_le (by omega)
  rw [e1, e2] at e; exact e
/-- The highest limb in which they differ decides. -/
theorem num_lt_at {a b : List Int} {t : Nat} (ha : Limbs a) (hb : Limbs b) (h : ∀ j, t < j → a.getD j 0 = b.getD j 0) (hlt : a.getD t 0 < b.getD t 0) : num a < num b := by
  have e := num_above' (t := t + 1) (fun j hj => h j (by omega))
  rw [num_take_succ, num_take_succ] at e
  have h1 := num_lt (ha.take t); have h2 := num_nonneg (hb.take t)
  have h3 : num (a.take t) < pw t := by
    refine Int.lt_of_lt_of_le h1 (pw_mono ?_)
    rw [List.length_take]; omega
  have h4 : (a.getD t 0 + 1) * pw t ≤ b.getD t 0 * pw t := Int.mul_le_mul_of_nonneg_right (by omega) (by have := pw_pos t; omega)
  rw [Int.add_mul, Int.one_mul] at h4
  omega
theorem num_lt_len {a b : List Int} (ha : Limbs a) (hb : Limbs b) (h : usedN a < usedN b) : num a < num b := by
  have h1 := num_lt_used ha; have h2 := num_ge_used hb (by omega)
  have := pw_mono (show usedN a ≤ usedN b - 1 by omega); omega
theorem num_eq_of {a b : List Int} (h : ∀ j, a.getD j 0 = b.getD j 0) : num a = num b := by
  have e := num_above' (a := a) (b := b) (t := 0) (fun j _ => h j)
  simp [num] at e; omega
end Go.Proofs.YtblafbbnplfpjaaGreatDoor

namespace Go.Proofs.YtblafbbnplfpjaaGreatDoor
open Go.RowKit Go.Shelf

theorem sign_any (b : Bool) (w : World) : Calls Tryz.prog 164 #[.bool b] w fun e w' => e = .returned (.int .i64 (if b then 1 else -1)) ∧ w' = w := by
  cases b
  all_goals
    go_enter Tryz.func164, Tryz.ntmps164
    go_wp2_with fail
    go_ret
    exact ⟨rfl, rfl⟩

theorem trim_any (a : Option Addr) (len cap : Nat) (zs : List Int) (w : World) (h : Sl w a len zs) (hl : len ≤ 20000000000000) (hcap : len ≤ cap) :
    Calls Tryz.prog 181 #[.slice a len cap] w fun e w' =>
      ∃ g, e = .returned (.slice (some ⟨g, 0, none⟩) (usedN zs) (usedN zs)) ∧ w.heap.size ≤ g ∧ Own w' g (zs.take (usedN zs)) ∧ Below w.heap.size w w' := by
  have hu := usedN_le zs
  have hz := h.1
  go_enter Tryz.func181, Tryz.ntmps181
  go_wp2_with fail
  refine (used_any a len cap zs _ h (by omega)).mono ?_
  rintro e w' ⟨rfl, rfl⟩
  go_wp2_with fail
  refine (widened_any a len cap (usedN zs) zs _ h hl hcap (Nat.le_refl _) (by omega)).mono ?_
  rintro e w' ⟨g, rfl, hg, ho, hb⟩
  go_wp2_with fail
  go_ret
  refine ⟨g, rfl, hg, ?_, hb⟩
  rw [Nat.sub_self, List.replicate_zero, List.append_nil] at ho
  exact ho

set_option maxHeartbeats 1000000 in
theorem compare_any (a b : Option Addr) (la ca lb cb : Nat) (xs ys : List Int) (w : World) (ha : Sl w a la xs) (hb : Sl w b lb ys) (h1 : la ≤ 40000000000000) (h2 : lb ≤ 40000000000000) :
    Calls Tryz.prog 139 #[.slice a la ca, .slice b lb cb] w fun e w' => e = .returned (.int .i64 (cmp3 (num xs) (num ys))) ∧ ∃ n, w' = w.drewN n := by
  have hux := usedN_le xs; have huy := usedN_le ys
  have hza := ha.1; have hzb := hb.1
  have hLx := ha.2.1; have hLy := hb.2.1
  have U := used_any a la ca xs w ha h1
  have V := used_any b lb cb ys w hb h2
  by_cases hne : usedN xs = usedN ys
  · by_cases h0 : usedN xs = 0
    · have e1 : cmp3 (num xs) (num ys) = 0 := cmp3_eq (by rw [(num_eq_zero hLx).2 h0, (num_eq_zero hLy).2 (by omega)])
      rw [e1]
      rw [h0] at U
      rw [← hne, h0] at V
      clear ha hb hne h0
      go_enter Tryz.func139, Tryz.ntmps139
      go_wp2_with fail
      refine U.mono ?_
      rintro e w' ⟨rfl, rfl⟩
      go_wp2_with fail
      refine V.mono ?_
      rintro e w' ⟨rfl, rfl⟩
      go_wp2_with fail
      refine wp_loop_rounds 1 ?_
      rw [rounds_succ]
      go_wp2_with fail
      go_ret
      exact ⟨rfl, 0, rfl⟩
    · obtain ⟨ba, oa, rfl, hca⟩ := ha.2.2 (by omega)
      obtain ⟨bb, ob, rfl, hcb⟩ := hb.2.2 (by omega)
      rw [← hne] at V
      obtain ⟨n, hn⟩ : ∃ n, usedN xs = n := ⟨_, rfl⟩
      rw [hn] at U V
      have hna : n ≤ la := by omega
      have hnb : n ≤ lb := by omega
      have HN : Hid (usedN xs = n) := hn
      have HE : Hid (usedN xs = usedN ys) := hne
      have g1 : ((n : Int) != n) = false := by simp
      clear hn hne h0 ha hb hux huy
      go_enter Tryz.func139, Tryz.ntmps139
      go_wp2_with fail
      refine U.mono ?_
      rintro e w' ⟨rfl, rfl⟩
      go_wp2_with fail
      refine V.mono ?_
      rintro e w' ⟨rfl, rfl⟩
      clear U V
      go_wp2_with fail
      go_loopw [21] (fun i wr => ∃ k : Nat, k ≤ n ∧ i = .int .i64 k ∧ Hid (∀ j, n - k ≤ j → j < n → xs.getD j 0 = ys.getD j 0) ∧ ∃ q, wr = w'.drewN q) (fun i _ => n - (intOf i).toNat)
      case atStart => exact ⟨0, Nat.zero_le _, rfl, fun j h1 h2 => absurd h1 (by omega), 0, rfl⟩
      case round =>
        obtain ⟨k, hk, rfl, hI, q, rfl⟩ := hrel
        by_cases hlt : k < n
        · have hcx := hca (n - 1 - k) (by omega)
          have hcy := hcb (n - 1 - k) (by omega)
          have ex : ((n : Int) - 1 - k).toNat = n - 1 - k := by omega
          obtain ⟨x, hx⟩ : ∃ x, xs.getD (n - 1 - k) 0 = x := ⟨_, rfl⟩
          obtain ⟨y, hy⟩ : ∃ y, ys.getD (n - 1 - k) 0 = y := ⟨_, rfl⟩
          rw [hx] at hcx
          rw [hy] at hcy
          have HX : Hid (xs.getD (n - 1 - k) 0 = x) := hx
          have HY : Hid (ys.getD (n - 1 - k) 0 = y) := hy
          clear hx hy
          by_cases hxy : x = y
          · have g2 : (x != y) = false := by simp [hxy]
            have HXY : Hid (x = y) := hxy
            clear hxy
            go_wp2_with fail
            go_quiet (fail)
            go_wp2_with fail
            go_roundw
            case rel =>
              refine ⟨k + 1, by omega, by go_num, ?_, q + nq, rfl⟩
              intro j h1 h2
              by_cases hj : j = n - 1 - k
              · rw [hj, HX.out, HY.out, HXY.out]
              · exact hI.out j (by omega) h2
            case measure => simp [intOf]; omega
          · have g2 : (x != y) = true := by simp [hxy]
            have g3 : Hid (∀ j, n - 1 - k < j → xs.getD j 0 = ys.getD j 0) := by
              intro j hj
              by_cases hjn : j < n
              · exact hI.out j (by omega) hjn
              · rw [usedN_beyond xs j (by rw [HN.out]; omega), usedN_beyond ys j (by rw [← HE.out, HN.out]; omega)]
            by_cases hyx : y < x
            · have e1 : cmp3 (num xs) (num ys) = 1 := cmp3_gt (num_lt_at hLy hLx (fun j hj => (g3.out j hj).symm) (by rw [HX.out, HY.out]; exact hyx))
              have E1 : Hid (cmp3 (num xs) (num ys) = 1) := e1
              clear e1 hxy
              go_wp2_with fail
              go_quiet (fail)
              go_wp2_with fail
              go_region_with (go_at_call 164; refine (sign_any _ _).mono ?_; rintro e w1 ⟨rfl, rfl⟩)
              all_goals
                go_wp2_with fail
                go_ret
                exact ⟨ret_int (by rw [E1.out]), _, rfl⟩
            · have e1 : cmp3 (num xs) (num ys) = -1 := cmp3_lt (num_lt_at hLx hLy g3.out (by rw [HX.out, HY.out]; omega))
              have E1 : Hid (cmp3 (num xs) (num ys) = -1) := e1
              clear e1 hxy
              go_wp2_with fail
              go_quiet (fail)
              go_wp2_with fail
              go_region_with (go_at_call 164; refine (sign_any _ _).mono ?_; rintro e w1 ⟨rfl, rfl⟩)
              all_goals
                go_wp2_with fail
                go_ret
                exact ⟨ret_int (by rw [E1.out]), _, rfl⟩
        · have e1 : cmp3 (num xs) (num ys) = 0 := by
            refine cmp3_eq (num_eq_of fun j => ?_)
            by_cases hjn : j < n
            · exact hI.out j (by omega) hjn
            · rw [usedN_beyond xs j (by rw [HN.out]; omega), usedN_beyond ys j (by rw [← HE.out, HN.out]; omega)]
          have E1 : Hid (cmp3 (num xs) (num ys) = 0) := e1
          clear e1
          go_wp2_with fail
          go_ret
          exact ⟨ret_int (by rw [E1.out]), q, rfl⟩
  · have g1 : ((usedN xs : Int) != usedN ys) = true := by simp; omega
    by_cases hgt : usedN ys < usedN xs
    · have e1 : cmp3 (num xs) (num ys) = 1 := cmp3_gt (num_lt_len hLy hLx hgt)
      rw [e1]
      clear ha hb hne e1
      go_enter Tryz.func139, Tryz.ntmps139
      go_wp2_with fail
      refine U.mono ?_
      rintro e w' ⟨rfl, rfl⟩
      go_wp2_with fail
      refine V.mono ?_
      rintro e w' ⟨rfl, rfl⟩
      go_wp2_with fail
      refine (sign_any _ _).mono ?_
      rintro e w' ⟨rfl, rfl⟩
      go_wp2_with fail
      go_ret
      exact ⟨rfl, 0, rfl⟩
    · have e1 : cmp3 (num xs) (num ys) = -1 := cmp3_lt (num_lt_len hLx hLy (by omega))
      rw [e1]
      clear ha hb hne e1
      go_enter Tryz.func139, Tryz.ntmps139
      go_wp2_with fail
      refine U.mono ?_
      rintro e w' ⟨rfl, rfl⟩
      go_wp2_with fail
      refine V.mono ?_
      rintro e w' ⟨rfl, rfl⟩
      go_wp2_with fail
      refine (sign_any _ _).mono ?_
      rintro e w' ⟨rfl, rfl⟩
      go_wp2_with fail
      go_ret
      exact ⟨rfl, 0, rfl⟩
end Go.Proofs.YtblafbbnplfpjaaGreatDoor
