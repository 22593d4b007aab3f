/-
  The walk of LimbShifts: each call by its contract.
-/
import Derived.Test.YtkgbhiccjbnldabAwake
import Derived.Test.YtkgbhiccjbnldabTimes
import Derived.Test.YtkgbhiccjbnldabOver
namespace Go.Proofs.Ytkgbhiccjbnldab.limbShifts
open Go.RowKit Go.Shelf

theorem tmod_cases (x : Int) : (0 ≤ x ∧ x.tmod 300 = x % 300) ∨ (x < 0 ∧ x.tmod 300 = -((-x) % 300)) := by
  rcases Int.lt_or_le x 0 with h | h
  · have e := Int.neg_tmod (a := -x) (b := 300)
    have e2 := Int.tmod_eq_emod_of_nonneg (a := -x) (b := 300) (by omega)
    rw [Int.neg_neg, e2] at e
    exact .inr ⟨h, e⟩
  · exact .inl ⟨h, Int.tmod_eq_emod_of_nonneg h⟩
theorem pick_any (x : Int) (hx : -9223372036854775808 ≤ x ∧ x ≤ 9223372036854775807) (w : World) : Calls Try.prog 10 #[.int .i64 x, .int .i64 300] w fun e w' => ∃ p : Nat, p < 300 ∧ e = .returned (.int .i64 p) ∧ w' = w := by
  obtain ⟨x1, x2⟩ := hx
  have h1 := Int.emod_nonneg x (b := 300) (by decide)
  have h2 := Int.emod_lt_of_pos x (b := 300) (by decide)
  obtain ⟨p, hp⟩ := Int.eq_ofNat_of_zero_le h1
  by_cases h0 : x.tmod 300 < 0
  · have e1 : x.tmod 300 + 300 = p := by
      rw [← hp]
      rcases tmod_cases x with h | h <;> omega
    obtain ⟨q, hq⟩ : ∃ q, x.tmod 300 = q := ⟨_, rfl⟩
    rw [hq] at h0 e1
    have q1 : -300 ≤ q := by omega
    have E1 : Hid (q + 300 = (p : Int)) := e1
    clear e1 h1 h2
    go_enter Try.func10, Try.ntmps10
    go_wp2_with fail
    go_ret
    exact ⟨p, by omega, ret_int E1.out, rfl⟩
  · have e1 : x.tmod 300 = p := by
      rw [← hp]
      rcases tmod_cases x with h | h <;> omega
    obtain ⟨q, hq⟩ : ∃ q, x.tmod 300 = q := ⟨_, rfl⟩
    rw [hq] at h0 e1
    have E1 : Hid (q = (p : Int)) := e1
    clear e1 h1 h2
    go_enter Try.func10, Try.ntmps10
    go_wp2_with fail
    go_ret
    exact ⟨p, by omega, ret_int E1.out, rfl⟩

theorem back_div (x : Int) (t : Nat) : x * 2 ^ t / 2 ^ t = x := Int.mul_ediv_cancel _ (by have := p2_pos t; omega)
theorem p2_word {s : Nat} (h : s ≤ 63) : Word (2 ^ s) ∧ (0 : Int) < 2 ^ s := by
  have h1 := p2_pos s
  have h2 := p2_mono h
  have h3 : (2 : Int) ^ 63 = 9223372036854775808 := by decide
  exact ⟨⟨by omega, by omega⟩, h1⟩
theorem quot_of {x q r b : Int} (h : x = q * b + r) (h0 : 0 ≤ r) (h1 : r < b) : q = x / b := by
  rw [h, Int.add_comm, Int.add_mul_ediv_right _ _ (by omega), Int.ediv_eq_zero_of_lt h0 h1, Int.zero_add]

set_option maxHeartbeats 4000000 in
theorem walk (a0 : Option Addr) (len0 cap0 : Nat) (z0 : List Int) (a1 : Int) (w : World) (s0 : Sl w a0 len0 z0) (c0 : len0 ≤ cap0) (r0 : cap0 ≤ 17592186043904) (w1 : (Lit.int .i64 a1).wf = true) :
    Calls Try.prog 4 #[.slice a0 len0 cap0, .int .i64 a1] w fun e w' => e = .returned (.bool true) ∧ Below w.heap.size w w' := by
  have hx : -9223372036854775808 ≤ a1 ∧ a1 ≤ 9223372036854775807 := by
    simp [Lit.wf, IntKind.min, IntKind.max, IntKind.signed, IntKind.bits] at w1
    exact ⟨by omega, by omega⟩
  have L0 := s0.2.1
  have hu0 : usedN z0 ≤ len0 := by have := usedN_le z0; have := s0.1; omega
  have B : Below w.heap.size w w := Below.refl _ _
  have PK := pick_any a1 hx w
  clear w1 hx
  by_cases hlong : 4000 < len0
  · have sS := s0.take (m := 4000) (by omega)
    have cS : 4000 ≤ cap0 := by omega
    obtain ⟨zS, hzS⟩ : ∃ z, z = z0.take 4000 := ⟨_, rfl⟩
    rw [← hzS] at sS
    clear hzS
    have LS := sS.2.1
    have huS : usedN zS ≤ 4000 := by have := usedN_le zS; have := sS.1; omega
    go_enter Try.func4, Try.ntmps4
    go_wp2_with fail
    refine PK.mono ?_
    rintro e w2 ⟨p, hp, rfl, rfl⟩
    clear PK
    go_wp2_with fail
    have hfit : usedN zS = 0 ∨ bitsN zS + p ≤ 262144 := by
      rcases Nat.eq_zero_or_pos (usedN zS) with h | h
      · exact .inl h
      · have := bitsN_bd LS h; exact .inr (by omega)
    refine (left_val a0 4000 cap0 zS p _ sS (by omega) cS hfit).mono ?_
    rintro e w3 ⟨a3, m3, k3, zs3, rfl, hk3, hm3, t3, hu, hn, hb3⟩
    have N3 : Hid (num zs3 = num zS * 2 ^ p) := hn
    have U3 : Hid (usedN zs3 = m3) := hu
    clear hn hu hfit
    replace s0 := s0.below hb3 (Nat.le_refl _)
    replace sS := sS.below hb3 (Nat.le_refl _)
    replace B := step B hb3
    clear hb3
    go_wp2_with fail
    refine (right_val a3 m3 k3 zs3 p _ t3 (by omega) hk3 (by omega)).mono ?_
    rintro e w4 ⟨a4, m4, k4, zs4, rfl, hk4, hm4, t4, hu, hn, hb4⟩
    obtain ⟨e1, e2⟩ := one_list t4.2.1 LS t4.1 hu (by rw [hn, N3.out, back_div])
    subst e1 e2
    clear hn hu
    replace s0 := s0.below hb4 (Nat.le_refl _)
    replace sS := sS.below hb4 (Nat.le_refl _)
    replace t3 := t3.below hb4 (Nat.le_refl _)
    replace B := step B hb4
    clear hb4
    go_wp2_with fail
    refine (trimmed_any a3 m3 k3 zs3 _ t3 (by omega) U3.out).mono ?_
    rintro e w5 ⟨rfl, rfl⟩
    go_wp2_with fail
    refine (trim_b a0 4000 cap0 zS _ sS (by omega) cS).mono ?_
    rintro e w6 ⟨g6, rfl, t6, hb6⟩
    replace s0 := s0.below hb6 (Nat.le_refl _)
    replace sS := sS.below hb6 (Nat.le_refl _)
    replace t3 := t3.below hb6 (Nat.le_refl _)
    replace t4 := t4.below hb6 (Nat.le_refl _)
    replace B := step B hb6
    clear hb6
    go_wp2_with fail
    refine (same_b a4 (some ⟨g6, 0, none⟩) (usedN zS) k4 (usedN zS) _ _ t4 t6 (by omega)).mono ?_
    rintro e w7 ⟨rfl, hb7⟩
    replace s0 := s0.below hb7 (Nat.le_refl _)
    replace sS := sS.below hb7 (Nat.le_refl _)
    replace t3 := t3.below hb7 (Nat.le_refl _)
    replace B := step B hb7
    clear hb7 t4 t6
    go_wp2_with fail
    refine (bits_any a0 4000 cap0 zS _ sS (by omega)).mono ?_
    rintro e w8 ⟨rfl, rfl⟩
    obtain ⟨s, hs⟩ : ∃ s, p % 64 = s := ⟨_, rfl⟩
    have es : (p : Int) % 64 = s := by omega
    have hs63 : s ≤ 63 := by omega
    obtain ⟨pw1, pw2⟩ := p2_word hs63
    obtain ⟨PP, hPP⟩ : ∃ q : Int, (2 : Int) ^ s = q := ⟨_, rfl⟩
    have HPP : Hid ((2 : Int) ^ s = PP) := hPP
    have hwr : IntKind.u64.wrap ((2 : Int) ^ s) = PP := by rw [hPP] at pw1 ⊢; obtain ⟨_, _⟩ := pw1; rw [IntKind.wrap_u64]; omega
    rw [hPP] at pw1 pw2
    have m1 : min s 64 = s := by omega
    have hfit2 : Hid (usedN zS = 0 ∨ bitsN zS + s ≤ 262144) := by
      rcases Nat.eq_zero_or_pos (usedN zS) with h | h
      · exact .inl h
      · have := bitsN_bd LS h; exact .inr (by omega)
    clear hs hPP
    by_cases hz : usedN zS = 0
    · have hm0 : m3 = 0 := by
        rw [← U3.out]
        exact (num_eq_zero t3.2.1).1 (by rw [N3.out, (num_eq_zero LS).2 hz, Int.zero_mul])
      subst hm0
      rw [bits_nought hz]
      clear t3
      go_wp2_with fail
      refine (left_val a0 4000 cap0 zS s _ sS (by omega) cS hfit2.out).mono ?_
      rintro e w10 ⟨a10, m10, k10, zs10, rfl, hk10, hm10, t10, hu, hn, hb10⟩
      have N10 : Hid (num zs10 = num zS * 2 ^ s) := hn
      have U10 : Hid (usedN zs10 = m10) := hu
      clear hn hu
      replace s0 := s0.below hb10 (Nat.le_refl _)
      replace sS := sS.below hb10 (Nat.le_refl _)
      replace B := step B hb10
      clear hb10
      go_wp2_with fail
      refine (right_val a0 len0 cap0 z0 s _ s0 (by omega) c0 (by omega)).mono ?_
      rintro e w11 ⟨a11, m11, k11, zs11, rfl, hk11, hm11, t11, hu, hn, hb11⟩
      have N11 : Hid (num zs11 = num z0 / 2 ^ s) := hn
      have U11 : Hid (usedN zs11 = m11) := hu
      clear hn hu
      replace s0 := s0.below hb11 (Nat.le_refl _)
      replace sS := sS.below hb11 (Nat.le_refl _)
      replace t10 := t10.below hb11 (Nat.le_refl _)
      replace B := step B hb11
      clear hb11
      go_wp2_with fail
      refine (over_ok a0 len0 cap0 z0 PP _ s0 (by omega) c0 pw1 pw2).mono ?_
      rintro e w12 ⟨g12, m12, k12, zs12, r12, rfl, -, hk12, hm12, t12, hu, hn, hq0, hq1, hb12⟩
      have e5 : num zs12 = num zs11 := by rw [N11.out, HPP.out]; exact quot_of hn hq0 hq1
      obtain ⟨e1, e2⟩ := one_list t12.2.1 t11.2.1 t12.1 hu e5
      rw [U11.out] at e1 e2
      have e3 : zs11.take m11 = zs11 := List.take_of_length_le (by have := t11.1; omega)
      rw [e3] at e2
      subst e1 e2
      clear hn hu e5 e3 hq0 hq1 s0
      replace sS := sS.below hb12 (Nat.le_refl _)
      replace t10 := t10.below hb12 (Nat.le_refl _)
      replace t11 := t11.below hb12 (Nat.le_refl _)
      replace B := step B hb12
      clear hb12
      go_wp2_with fail
      refine (awake_any _).mono ?_
      rintro e w13 ⟨rfl, hb13⟩
      replace sS := sS.below hb13 (Nat.le_refl _)
      replace t10 := t10.below hb13 (Nat.le_refl _)
      replace t11 := t11.below hb13 (Nat.le_refl _)
      replace t12 := t12.below hb13 (Nat.le_refl _)
      replace B := step B hb13
      clear hb13
      go_wp2_with fail
      refine (times_any a0 4000 cap0 zS PP 0 _ sS (by omega) cS pw1 ⟨by omega, by omega⟩).mono ?_
      rintro e w14 ⟨g14, m14, k14, zs14, rfl, -, hk14, hm14, t14, hu, hn, hb14⟩
      obtain ⟨e1, e2⟩ := one_list t14.2.1 t10.2.1 t14.1 hu (by rw [hn, N10.out, HPP.out, Int.add_zero])
      rw [U10.out] at e1 e2
      have e3 : zs10.take m10 = zs10 := List.take_of_length_le (by have := t10.1; omega)
      rw [e3] at e2
      subst e1 e2
      replace t10 := t10.below hb14 (Nat.le_refl _)
      replace t11 := t11.below hb14 (Nat.le_refl _)
      replace t12 := t12.below hb14 (Nat.le_refl _)
      replace B := step B hb14
      clear hn hu e3 hb14 sS
      go_wp2_with fail
      refine (same_b a10 (some ⟨g14, 0, none⟩) m14 k10 k14 zs14 _ t10 t14 (by omega)).mono ?_
      rintro e w15 ⟨rfl, hb15⟩
      replace t11 := t11.below hb15 (Nat.le_refl _)
      replace t12 := t12.below hb15 (Nat.le_refl _)
      replace B := step B hb15
      clear hb15 t10 t14
      go_wp2_with fail
      refine (same_b a11 (some ⟨g12, 0, none⟩) m12 k11 k12 zs12 _ t11 t12 (by omega)).mono ?_
      rintro e w16 ⟨rfl, hb16⟩
      replace B := step B hb16
      go_wp2_with fail
      go_ret
      exact ⟨rfl, B⟩
    · have hbp := bits_pos LS (by omega)
      have hbd := bitsN_bd LS (by omega)
      have hmv : Hid (bitsN zs3 = bitsN zS + p) := bits_moved LS t3.2.1 (by omega) N3.out
      obtain ⟨q, hq⟩ : ∃ q, bitsN zS = q := ⟨_, rfl⟩
      have HQ : Hid (bitsN zS = q) := hq
      rw [hq] at hbp hbd ⊢
      have q1 : q ≤ 256000 := by omega
      have g1 : (q == 0) = false := by simp; omega
      have g2 : (q + (p : Int) != q + p) = false := by simp
      clear hq hbd
      go_wp2_with fail
      refine (bits_any a3 m3 k3 zs3 _ t3 (by omega)).mono ?_
      rintro e w9 ⟨rfl, rfl⟩
      rw [hmv.out, HQ.out]
      clear t3
      go_wp2_with fail
      refine (left_val a0 4000 cap0 zS s _ sS (by omega) cS hfit2.out).mono ?_
      rintro e w10 ⟨a10, m10, k10, zs10, rfl, hk10, hm10, t10, hu, hn, hb10⟩
      have N10 : Hid (num zs10 = num zS * 2 ^ s) := hn
      have U10 : Hid (usedN zs10 = m10) := hu
      clear hn hu
      replace s0 := s0.below hb10 (Nat.le_refl _)
      replace sS := sS.below hb10 (Nat.le_refl _)
      replace B := step B hb10
      clear hb10
      go_wp2_with fail
      refine (right_val a0 len0 cap0 z0 s _ s0 (by omega) c0 (by omega)).mono ?_
      rintro e w11 ⟨a11, m11, k11, zs11, rfl, hk11, hm11, t11, hu, hn, hb11⟩
      have N11 : Hid (num zs11 = num z0 / 2 ^ s) := hn
      have U11 : Hid (usedN zs11 = m11) := hu
      clear hn hu
      replace s0 := s0.below hb11 (Nat.le_refl _)
      replace sS := sS.below hb11 (Nat.le_refl _)
      replace t10 := t10.below hb11 (Nat.le_refl _)
      replace B := step B hb11
      clear hb11
      go_wp2_with fail
      refine (over_ok a0 len0 cap0 z0 PP _ s0 (by omega) c0 pw1 pw2).mono ?_
      rintro e w12 ⟨g12, m12, k12, zs12, r12, rfl, -, hk12, hm12, t12, hu, hn, hq0, hq1, hb12⟩
      have e5 : num zs12 = num zs11 := by rw [N11.out, HPP.out]; exact quot_of hn hq0 hq1
      obtain ⟨e1, e2⟩ := one_list t12.2.1 t11.2.1 t12.1 hu e5
      rw [U11.out] at e1 e2
      have e3 : zs11.take m11 = zs11 := List.take_of_length_le (by have := t11.1; omega)
      rw [e3] at e2
      subst e1 e2
      clear hn hu e5 e3 hq0 hq1 s0
      replace sS := sS.below hb12 (Nat.le_refl _)
      replace t10 := t10.below hb12 (Nat.le_refl _)
      replace t11 := t11.below hb12 (Nat.le_refl _)
      replace B := step B hb12
      clear hb12
      go_wp2_with fail
      refine (awake_any _).mono ?_
      rintro e w13 ⟨rfl, hb13⟩
      replace sS := sS.below hb13 (Nat.le_refl _)
      replace t10 := t10.below hb13 (Nat.le_refl _)
      replace t11 := t11.below hb13 (Nat.le_refl _)
      replace t12 := t12.below hb13 (Nat.le_refl _)
      replace B := step B hb13
      clear hb13
      go_wp2_with fail
      refine (times_any a0 4000 cap0 zS PP 0 _ sS (by omega) cS pw1 ⟨by omega, by omega⟩).mono ?_
      rintro e w14 ⟨g14, m14, k14, zs14, rfl, -, hk14, hm14, t14, hu, hn, hb14⟩
      obtain ⟨e1, e2⟩ := one_list t14.2.1 t10.2.1 t14.1 hu (by rw [hn, N10.out, HPP.out, Int.add_zero])
      rw [U10.out] at e1 e2
      have e3 : zs10.take m10 = zs10 := List.take_of_length_le (by have := t10.1; omega)
      rw [e3] at e2
      subst e1 e2
      replace t10 := t10.below hb14 (Nat.le_refl _)
      replace t11 := t11.below hb14 (Nat.le_refl _)
      replace t12 := t12.below hb14 (Nat.le_refl _)
      replace B := step B hb14
      clear hn hu e3 hb14 sS
      go_wp2_with fail
      refine (same_b a10 (some ⟨g14, 0, none⟩) m14 k10 k14 zs14 _ t10 t14 (by omega)).mono ?_
      rintro e w15 ⟨rfl, hb15⟩
      replace t11 := t11.below hb15 (Nat.le_refl _)
      replace t12 := t12.below hb15 (Nat.le_refl _)
      replace B := step B hb15
      clear hb15 t10 t14
      go_wp2_with fail
      refine (same_b a11 (some ⟨g12, 0, none⟩) m12 k11 k12 zs12 _ t11 t12 (by omega)).mono ?_
      rintro e w16 ⟨rfl, hb16⟩
      replace B := step B hb16
      go_wp2_with fail
      go_ret
      exact ⟨rfl, B⟩
  · have sS := s0
    have cS : len0 ≤ cap0 := c0
    have LS := L0
    have huS : usedN z0 ≤ 4000 := by omega
    have hlen4 : len0 ≤ 4000 := by omega
    go_enter Try.func4, Try.ntmps4
    go_wp2_with fail
    refine PK.mono ?_
    rintro e w2 ⟨p, hp, rfl, rfl⟩
    clear PK
    go_wp2_with fail
    have hfit : usedN z0 = 0 ∨ bitsN z0 + p ≤ 262144 := by
      rcases Nat.eq_zero_or_pos (usedN z0) with h | h
      · exact .inl h
      · have := bitsN_bd LS h; exact .inr (by omega)
    refine (left_val a0 len0 cap0 z0 p _ sS (by omega) cS hfit).mono ?_
    rintro e w3 ⟨a3, m3, k3, zs3, rfl, hk3, hm3, t3, hu, hn, hb3⟩
    have N3 : Hid (num zs3 = num z0 * 2 ^ p) := hn
    have U3 : Hid (usedN zs3 = m3) := hu
    clear hn hu hfit
    replace s0 := s0.below hb3 (Nat.le_refl _)
    replace sS := sS.below hb3 (Nat.le_refl _)
    replace B := step B hb3
    clear hb3
    go_wp2_with fail
    refine (right_val a3 m3 k3 zs3 p _ t3 (by omega) hk3 (by omega)).mono ?_
    rintro e w4 ⟨a4, m4, k4, zs4, rfl, hk4, hm4, t4, hu, hn, hb4⟩
    obtain ⟨e1, e2⟩ := one_list t4.2.1 LS t4.1 hu (by rw [hn, N3.out, back_div])
    subst e1 e2
    clear hn hu
    replace s0 := s0.below hb4 (Nat.le_refl _)
    replace sS := sS.below hb4 (Nat.le_refl _)
    replace t3 := t3.below hb4 (Nat.le_refl _)
    replace B := step B hb4
    clear hb4
    go_wp2_with fail
    refine (trimmed_any a3 m3 k3 zs3 _ t3 (by omega) U3.out).mono ?_
    rintro e w5 ⟨rfl, rfl⟩
    go_wp2_with fail
    refine (trim_b a0 len0 cap0 z0 _ sS (by omega) cS).mono ?_
    rintro e w6 ⟨g6, rfl, t6, hb6⟩
    replace s0 := s0.below hb6 (Nat.le_refl _)
    replace sS := sS.below hb6 (Nat.le_refl _)
    replace t3 := t3.below hb6 (Nat.le_refl _)
    replace t4 := t4.below hb6 (Nat.le_refl _)
    replace B := step B hb6
    clear hb6
    go_wp2_with fail
    refine (same_b a4 (some ⟨g6, 0, none⟩) (usedN z0) k4 (usedN z0) _ _ t4 t6 (by omega)).mono ?_
    rintro e w7 ⟨rfl, hb7⟩
    replace s0 := s0.below hb7 (Nat.le_refl _)
    replace sS := sS.below hb7 (Nat.le_refl _)
    replace t3 := t3.below hb7 (Nat.le_refl _)
    replace B := step B hb7
    clear hb7 t4 t6
    go_wp2_with fail
    refine (bits_any a0 len0 cap0 z0 _ sS (by omega)).mono ?_
    rintro e w8 ⟨rfl, rfl⟩
    obtain ⟨s, hs⟩ : ∃ s, p % 64 = s := ⟨_, rfl⟩
    have es : (p : Int) % 64 = s := by omega
    have hs63 : s ≤ 63 := by omega
    obtain ⟨pw1, pw2⟩ := p2_word hs63
    obtain ⟨PP, hPP⟩ : ∃ q : Int, (2 : Int) ^ s = q := ⟨_, rfl⟩
    have HPP : Hid ((2 : Int) ^ s = PP) := hPP
    have hwr : IntKind.u64.wrap ((2 : Int) ^ s) = PP := by rw [hPP] at pw1 ⊢; obtain ⟨_, _⟩ := pw1; rw [IntKind.wrap_u64]; omega
    rw [hPP] at pw1 pw2
    have m1 : min s 64 = s := by omega
    have hfit2 : Hid (usedN z0 = 0 ∨ bitsN z0 + s ≤ 262144) := by
      rcases Nat.eq_zero_or_pos (usedN z0) with h | h
      · exact .inl h
      · have := bitsN_bd LS h; exact .inr (by omega)
    clear hs hPP
    by_cases hz : usedN z0 = 0
    · have hm0 : m3 = 0 := by
        rw [← U3.out]
        exact (num_eq_zero t3.2.1).1 (by rw [N3.out, (num_eq_zero LS).2 hz, Int.zero_mul])
      subst hm0
      rw [bits_nought hz]
      clear t3
      go_wp2_with fail
      refine (left_val a0 len0 cap0 z0 s _ sS (by omega) cS hfit2.out).mono ?_
      rintro e w10 ⟨a10, m10, k10, zs10, rfl, hk10, hm10, t10, hu, hn, hb10⟩
      have N10 : Hid (num zs10 = num z0 * 2 ^ s) := hn
      have U10 : Hid (usedN zs10 = m10) := hu
      clear hn hu
      replace s0 := s0.below hb10 (Nat.le_refl _)
      replace sS := sS.below hb10 (Nat.le_refl _)
      replace B := step B hb10
      clear hb10
      go_wp2_with fail
      refine (right_val a0 len0 cap0 z0 s _ s0 (by omega) c0 (by omega)).mono ?_
      rintro e w11 ⟨a11, m11, k11, zs11, rfl, hk11, hm11, t11, hu, hn, hb11⟩
      have N11 : Hid (num zs11 = num z0 / 2 ^ s) := hn
      have U11 : Hid (usedN zs11 = m11) := hu
      clear hn hu
      replace s0 := s0.below hb11 (Nat.le_refl _)
      replace sS := sS.below hb11 (Nat.le_refl _)
      replace t10 := t10.below hb11 (Nat.le_refl _)
      replace B := step B hb11
      clear hb11
      go_wp2_with fail
      refine (over_ok a0 len0 cap0 z0 PP _ s0 (by omega) c0 pw1 pw2).mono ?_
      rintro e w12 ⟨g12, m12, k12, zs12, r12, rfl, -, hk12, hm12, t12, hu, hn, hq0, hq1, hb12⟩
      have e5 : num zs12 = num zs11 := by rw [N11.out, HPP.out]; exact quot_of hn hq0 hq1
      obtain ⟨e1, e2⟩ := one_list t12.2.1 t11.2.1 t12.1 hu e5
      rw [U11.out] at e1 e2
      have e3 : zs11.take m11 = zs11 := List.take_of_length_le (by have := t11.1; omega)
      rw [e3] at e2
      subst e1 e2
      clear hn hu e5 e3 hq0 hq1 s0
      replace sS := sS.below hb12 (Nat.le_refl _)
      replace t10 := t10.below hb12 (Nat.le_refl _)
      replace t11 := t11.below hb12 (Nat.le_refl _)
      replace B := step B hb12
      clear hb12
      go_wp2_with fail
      refine (awake_any _).mono ?_
      rintro e w13 ⟨rfl, hb13⟩
      replace sS := sS.below hb13 (Nat.le_refl _)
      replace t10 := t10.below hb13 (Nat.le_refl _)
      replace t11 := t11.below hb13 (Nat.le_refl _)
      replace t12 := t12.below hb13 (Nat.le_refl _)
      replace B := step B hb13
      clear hb13
      go_wp2_with fail
      refine (times_any a0 len0 cap0 z0 PP 0 _ sS (by omega) cS pw1 ⟨by omega, by omega⟩).mono ?_
      rintro e w14 ⟨g14, m14, k14, zs14, rfl, -, hk14, hm14, t14, hu, hn, hb14⟩
      obtain ⟨e1, e2⟩ := one_list t14.2.1 t10.2.1 t14.1 hu (by rw [hn, N10.out, HPP.out, Int.add_zero])
      rw [U10.out] at e1 e2
      have e3 : zs10.take m10 = zs10 := List.take_of_length_le (by have := t10.1; omega)
      rw [e3] at e2
      subst e1 e2
      replace t10 := t10.below hb14 (Nat.le_refl _)
      replace t11 := t11.below hb14 (Nat.le_refl _)
      replace t12 := t12.below hb14 (Nat.le_refl _)
      replace B := step B hb14
      clear hn hu e3 hb14 sS
      go_wp2_with fail
      refine (same_b a10 (some ⟨g14, 0, none⟩) m14 k10 k14 zs14 _ t10 t14 (by omega)).mono ?_
      rintro e w15 ⟨rfl, hb15⟩
      replace t11 := t11.below hb15 (Nat.le_refl _)
      replace t12 := t12.below hb15 (Nat.le_refl _)
      replace B := step B hb15
      clear hb15 t10 t14
      go_wp2_with fail
      refine (same_b a11 (some ⟨g12, 0, none⟩) m12 k11 k12 zs12 _ t11 t12 (by omega)).mono ?_
      rintro e w16 ⟨rfl, hb16⟩
      replace B := step B hb16
      go_wp2_with fail
      go_ret
      exact ⟨rfl, B⟩
    · have hbp := bits_pos LS (by omega)
      have hbd := bitsN_bd LS (by omega)
      have hmv : Hid (bitsN zs3 = bitsN z0 + p) := bits_moved LS t3.2.1 (by omega) N3.out
      obtain ⟨q, hq⟩ : ∃ q, bitsN z0 = q := ⟨_, rfl⟩
      have HQ : Hid (bitsN z0 = q) := hq
      rw [hq] at hbp hbd ⊢
      have q1 : q ≤ 256000 := by omega
      have g1 : (q == 0) = false := by simp; omega
      have g2 : (q + (p : Int) != q + p) = false := by simp
      clear hq hbd
      go_wp2_with fail
      refine (bits_any a3 m3 k3 zs3 _ t3 (by omega)).mono ?_
      rintro e w9 ⟨rfl, rfl⟩
      rw [hmv.out, HQ.out]
      clear t3
      go_wp2_with fail
      refine (left_val a0 len0 cap0 z0 s _ sS (by omega) cS hfit2.out).mono ?_
      rintro e w10 ⟨a10, m10, k10, zs10, rfl, hk10, hm10, t10, hu, hn, hb10⟩
      have N10 : Hid (num zs10 = num z0 * 2 ^ s) := hn
      have U10 : Hid (usedN zs10 = m10) := hu
      clear hn hu
      replace s0 := s0.below hb10 (Nat.le_refl _)
      replace sS := sS.below hb10 (Nat.le_refl _)
      replace B := step B hb10
      clear hb10
      go_wp2_with fail
      refine (right_val a0 len0 cap0 z0 s _ s0 (by omega) c0 (by omega)).mono ?_
      rintro e w11 ⟨a11, m11, k11, zs11, rfl, hk11, hm11, t11, hu, hn, hb11⟩
      have N11 : Hid (num zs11 = num z0 / 2 ^ s) := hn
      have U11 : Hid (usedN zs11 = m11) := hu
      clear hn hu
      replace s0 := s0.below hb11 (Nat.le_refl _)
      replace sS := sS.below hb11 (Nat.le_refl _)
      replace t10 := t10.below hb11 (Nat.le_refl _)
      replace B := step B hb11
      clear hb11
      go_wp2_with fail
      refine (over_ok a0 len0 cap0 z0 PP _ s0 (by omega) c0 pw1 pw2).mono ?_
      rintro e w12 ⟨g12, m12, k12, zs12, r12, rfl, -, hk12, hm12, t12, hu, hn, hq0, hq1, hb12⟩
      have e5 : num zs12 = num zs11 := by rw [N11.out, HPP.out]; exact quot_of hn hq0 hq1
      obtain ⟨e1, e2⟩ := one_list t12.2.1 t11.2.1 t12.1 hu e5
      rw [U11.out] at e1 e2
      have e3 : zs11.take m11 = zs11 := List.take_of_length_le (by have := t11.1; omega)
      rw [e3] at e2
      subst e1 e2
      clear hn hu e5 e3 hq0 hq1 s0
      replace sS := sS.below hb12 (Nat.le_refl _)
      replace t10 := t10.below hb12 (Nat.le_refl _)
      replace t11 := t11.below hb12 (Nat.le_refl _)
      replace B := step B hb12
      clear hb12
      go_wp2_with fail
      refine (awake_any _).mono ?_
      rintro e w13 ⟨rfl, hb13⟩
      replace sS := sS.below hb13 (Nat.le_refl _)
      replace t10 := t10.below hb13 (Nat.le_refl _)
      replace t11 := t11.below hb13 (Nat.le_refl _)
      replace t12 := t12.below hb13 (Nat.le_refl _)
      replace B := step B hb13
      clear hb13
      go_wp2_with fail
      refine (times_any a0 len0 cap0 z0 PP 0 _ sS (by omega) cS pw1 ⟨by omega, by omega⟩).mono ?_
      rintro e w14 ⟨g14, m14, k14, zs14, rfl, -, hk14, hm14, t14, hu, hn, hb14⟩
      obtain ⟨e1, e2⟩ := one_list t14.2.1 t10.2.1 t14.1 hu (by rw [hn, N10.out, HPP.out, Int.add_zero])
      rw [U10.out] at e1 e2
      have e3 : zs10.take m10 = zs10 := List.take_of_length_le (by have := t10.1; omega)
      rw [e3] at e2
      subst e1 e2
      replace t10 := t10.below hb14 (Nat.le_refl _)
      replace t11 := t11.below hb14 (Nat.le_refl _)
      replace t12 := t12.below hb14 (Nat.le_refl _)
      replace B := step B hb14
      clear hn hu e3 hb14 sS
      go_wp2_with fail
      refine (same_b a10 (some ⟨g14, 0, none⟩) m14 k10 k14 zs14 _ t10 t14 (by omega)).mono ?_
      rintro e w15 ⟨rfl, hb15⟩
      replace t11 := t11.below hb15 (Nat.le_refl _)
      replace t12 := t12.below hb15 (Nat.le_refl _)
      replace B := step B hb15
      clear hb15 t10 t14
      go_wp2_with fail
      refine (same_b a11 (some ⟨g12, 0, none⟩) m12 k11 k12 zs12 _ t11 t12 (by omega)).mono ?_
      rintro e w16 ⟨rfl, hb16⟩
      replace B := step B hb16
      go_wp2_with fail
      go_ret
      exact ⟨rfl, B⟩
end Go.Proofs.Ytkgbhiccjbnldab.limbShifts
