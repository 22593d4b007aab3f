/-
  The document's answers: which of two lists of limbs is the greater number; small numbers, nought.
-/
import Derived.Test.YtkfpblonjinfmaaLaw3
namespace Go.Proofs.Ytkfpblonjinfmaa
open Go.RowKit Go.Shelf

set_option maxHeartbeats 2000000 in
theorem rcompare_any (a b : Option Addr) (la ca lb cb : Nat) (xs ys : List Int) (w : World) (ha : Sl w a la xs) (hb : Sl w b lb ys) (na : a = none → la = 0 ∧ ca = 0) (nb : b = none → lb = 0 ∧ cb = 0) (h1 : la ≤ 17592186044416) (h2 : lb ≤ 17592186044416) (hca : la ≤ ca) (hcb : lb ≤ cb) :
    Calls Try.prog 43 #[.slice a la ca, .slice b lb cb] w fun e w' => e = .returned (.int .i64 (cmp3 (num xs) (num ys))) ∧ Below w.heap.size w w' := by
  have hux := usedN_le xs; have huy := usedN_le ys
  have hza := ha.1; have hzb := hb.1
  have hLx := ha.2.1; have hLy := hb.2.1
  have TA := rtrim_any a la ca xs w ha na h1 hca
  have TB := fun W h => rtrim_any b lb cb ys W h nb h2 hcb
  obtain ⟨n, hn⟩ : ∃ n, usedN xs = n := ⟨_, rfl⟩
  obtain ⟨m, hm⟩ : ∃ m, usedN ys = m := ⟨_, rfl⟩
  have HXS : Hid (num (xs.take n) = num xs) := by rw [← hn]; exact num_take_used xs (Nat.le_refl _)
  have HYS : Hid (num (ys.take m) = num ys) := by rw [← hm]; exact num_take_used ys (Nat.le_refl _)
  have HUX : Hid (usedN (xs.take n) = n) := by rw [← hn]; exact usedN_take xs (Nat.le_refl _)
  have HUY : Hid (usedN (ys.take m) = m) := by rw [← hm]; exact usedN_take ys (Nat.le_refl _)
  have hLX := hLx.take n
  have hLY := hLy.take m
  rw [hn] at TA
  simp only [hm] at TB
  have hnl : n ≤ 17592186044416 := by omega
  have hml : m ≤ 17592186044416 := by omega
  rw [← HXS.out, ← HYS.out]
  obtain ⟨X, hX⟩ : ∃ X, xs.take n = X := ⟨_, rfl⟩
  obtain ⟨Y, hY⟩ : ∃ Y, ys.take m = Y := ⟨_, rfl⟩
  rw [hX] at TA HUX hLX ⊢
  rw [hY] at HUY hLY ⊢
  simp only [hY] at TB
  have HTB : Hid (∀ W, Sl W b lb ys → Calls Try.prog 42 #[.slice b lb cb] W fun e w' => ∃ a' c', e = .returned (.slice a' m c') ∧ Sl w' a' m Y ∧ m ≤ c' ∧ Below W.heap.size W w') := TB
  have HB : Hid (Sl w b lb ys) := hb
  clear TB hb ha na nb hX hY HXS HYS hn hm hux huy hza hzb hLx hLy hca hcb h1 h2
  go_enter Try.func43, Try.ntmps43
  go_wp2_with fail
  refine TA.mono ?_
  rintro e wa ⟨a1, c1, rfl, sa, hc1, ba⟩
  clear TA
  go_wp2_with fail
  refine (HTB.out wa (HB.out.below ba (Nat.le_refl _))).mono ?_
  rintro e wb ⟨b1, d1, rfl, sb, hd1, bb⟩
  replace sa := sa.below bb (Nat.le_refl _)
  have B0 := step ba bb
  have HBB : Hid (Below w.heap.size w wb) := B0
  clear ba bb B0 HTB HB
  have hzX := sa.1; have hzY := sb.1
  by_cases hne : n = m
  · subst hne
    have g1 : ((n : Int) != n) = false := by simp
    go_wp2_with fail
    go_loopw [7] (fun i wr => ∃ t : Nat, t ≤ n ∧ i = .int .i64 ((t : Int) - 1) ∧ Hid (∀ j, t ≤ j → X.getD j 0 = Y.getD j 0) ∧ ∃ q, wr = wb.drewN q) (fun i _ => (intOf i + 1).toNat)
    case atStart =>
      refine ⟨n, Nat.le_refl _, rfl, fun j hj => ?_, 0, rfl⟩
      rw [List.getD_eq_getElem?_getD, List.getD_eq_getElem?_getD, List.getElem?_eq_none (by omega), List.getElem?_eq_none (by omega)]
    case round =>
      obtain ⟨t, ht, rfl, hI, q, rfl⟩ := hrel
      by_cases hlt : 0 < t
      · obtain ⟨ba, oa, rfl, hca⟩ := sa.2.2 (by omega)
        obtain ⟨bb, ob, rfl, hcb⟩ := sb.2.2 (by omega)
        have hcx := hca (t - 1) (by omega)
        have hcy := hcb (t - 1) (by omega)
        have ex : ((t : Int) - 1).toNat = t - 1 := by omega
        have ht1 : 1 ≤ (t : Int) := by omega
        obtain ⟨x, hx⟩ : ∃ x, X.getD (t - 1) 0 = x := ⟨_, rfl⟩
        obtain ⟨y, hy⟩ : ∃ y, Y.getD (t - 1) 0 = y := ⟨_, rfl⟩
        rw [hx] at hcx
        rw [hy] at hcy
        have HX : Hid (X.getD (t - 1) 0 = x) := hx
        have HY : Hid (Y.getD (t - 1) 0 = y) := hy
        have HJ : Hid (∀ j, t - 1 < j → X.getD j 0 = Y.getD j 0) := fun j hj => hI.out j (by omega)
        clear hx hy hca hcb sa sb hI
        by_cases hxy : x < y
        · have e1 : cmp3 (num X) (num Y) = -1 := cmp3_lt (num_lt_at hLX hLY HJ.out (by rw [HX.out, HY.out]; omega))
          have E1 : Hid (cmp3 (num X) (num Y) = -1) := e1
          clear e1
          go_wp2_with fail
          go_quiet (fail)
          go_wp2_with fail
          go_ret
          exact ⟨ret_int E1.out.symm, below_drewN (below_drewN HBB.out _) _⟩
        · by_cases hyx : y < x
          · have e1 : cmp3 (num X) (num Y) = 1 := cmp3_gt (num_lt_at hLY hLX (fun j hj => (HJ.out j hj).symm) (by rw [HX.out, HY.out]; exact hyx))
            have E1 : Hid (cmp3 (num X) (num Y) = 1) := e1
            clear e1
            go_wp2_with fail
            go_quiet (fail)
            go_wp2_with fail
            go_quiet (fail)
            go_wp2_with fail
            go_ret
            exact ⟨ret_int E1.out.symm, below_drewN (below_drewN (below_drewN HBB.out _) _) _⟩
          · have HXY : Hid (x = y) := (by omega : x = y)
            go_wp2_with fail
            go_quiet (fail)
            go_wp2_with fail
            go_quiet (fail)
            go_wp2_with fail
            go_roundw
            case rel =>
              refine ⟨t - 1, by omega, by rw [show ((t - 1 : Nat) : Int) - 1 = (t : Int) - 1 - 1 by omega], ?_, _, rfl⟩
              intro j hj
              by_cases hjt : j = t - 1
              · rw [hjt, HX.out, HY.out, HXY.out]
              · exact HJ.out j (by omega)
            case measure => simp [intOf]; omega
      · obtain rfl : t = 0 := by omega
        have e1 : cmp3 (num X) (num Y) = 0 := cmp3_eq (num_eq_of fun j => hI.out j (by omega))
        have E1 : Hid (cmp3 (num X) (num Y) = 0) := e1
        clear e1
        go_wp2_with fail
        go_ret
        exact ⟨ret_int E1.out.symm, below_drewN HBB.out _⟩
  · have g1 : ((n : Int) != m) = true := by simp; omega
    by_cases hgt : m < n
    · have e1 : cmp3 (num X) (num Y) = 1 := cmp3_gt (num_lt_len hLY hLX (by rw [HUX.out, HUY.out]; exact hgt))
      have E1 : Hid (cmp3 (num X) (num Y) = 1) := e1
      clear e1
      go_wp2_with fail
      go_ret
      exact ⟨ret_int E1.out.symm, HBB.out⟩
    · have e1 : cmp3 (num X) (num Y) = -1 := cmp3_lt (num_lt_len hLX hLY (by rw [HUX.out, HUY.out]; omega))
      have E1 : Hid (cmp3 (num X) (num Y) = -1) := e1
      clear e1
      have hlt : n < m := by omega
      go_wp2_with fail
      go_ret
      exact ⟨ret_int E1.out.symm, HBB.out⟩
end Go.Proofs.Ytkfpblonjinfmaa
