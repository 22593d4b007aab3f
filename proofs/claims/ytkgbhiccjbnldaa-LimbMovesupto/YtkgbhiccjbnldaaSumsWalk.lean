/-
  The walk of LimbSums: each call by its contract; lists of at most 1048576 limbs.
-/
import Derived.Test.YtkgbhiccjbnldaaKept
import Derived.Test.YtkgbhiccjbnldaaRefM
import Derived.Test.YtkgbhiccjbnldaaPlus
import Derived.Test.YtkgbhiccjbnldaaLess
namespace Go.Proofs.Ytkgbhiccjbnldaa.limbSums
open Go.RowKit Go.Shelf

theorem lent_sl {w : World} {g la : Nat} {zs : List Int} (h : Own w g (zs ++ marks 12)) (hL : Limbs zs) (hz : zs.length = la) : Sl w (some ⟨g, 0, none⟩) la zs := by
  refine ⟨hz, hL, fun _ => ⟨g, 0, rfl, fun i hi => ?_⟩⟩
  rw [Nat.zero_add, h.cell i (by rw [List.length_append]; omega), List.getD_eq_getElem?_getD, List.getElem?_append_left (by omega), ← List.getD_eq_getElem?_getD]

set_option maxHeartbeats 4000000 in
theorem walk (a0 : Option Addr) (len0 cap0 : Nat) (z0 : List Int) (a1 : Option Addr) (len1 cap1 : Nat) (z1 : List Int) (w : World) (s0 : Sl w a0 len0 z0) (c0 : len0 ≤ cap0) (r0 : cap0 ≤ 1048576) (e0 : a0 = none → len0 = 0 ∧ cap0 = 0) (s1 : Sl w a1 len1 z1) (c1 : len1 ≤ cap1) (r1 : cap1 ≤ 1048576) (e1 : a1 = none → len1 = 0 ∧ cap1 = 0) :
    Calls Try.prog 5 #[.slice a0 len0 cap0, .slice a1 len1 cap1] w fun e w' => e = .returned (.bool true) ∧ Below w.heap.size w w' := by
  have L0 := s0.2.1; have L1 := s1.2.1
  have HZ0 : Hid (z0.length = len0) := s0.1
  have HZ1 : Hid (z1.length = len1) := s1.1
  have hu0 : usedN z0 ≤ len0 := by have := usedN_le z0; have := s0.1; omega
  have hu1 : usedN z1 ≤ len1 := by have := usedN_le z1; have := s1.1; omega
  have B : Below w.heap.size w w := Below.refl _ _
  have LT0 := lent_any a0 len0 cap0 z0 w s0 e0 (by omega)
  have E1 : Hid (a1 = none → len1 = 0 ∧ cap1 = 0) := e1
  clear e0 e1
  go_enter Try.func5, Try.ntmps5
  go_wp2_with fail
  refine LT0.mono ?_
  rintro e w1 ⟨gx, rfl, -, ox, hb1⟩
  clear LT0
  replace s0 := s0.below hb1 (Nat.le_refl _)
  replace s1 := s1.below hb1 (Nat.le_refl _)
  replace B := step B hb1
  clear hb1
  have lx := ox.lt
  go_wp2_with fail
  refine (lent_any a1 len1 cap1 z1 _ s1 E1.out (by omega)).mono ?_
  rintro e w2 ⟨gy, rfl, -, oy, hb2⟩
  replace s0 := s0.below hb2 (Nat.le_refl _)
  replace s1 := s1.below hb2 (Nat.le_refl _)
  replace ox := ox.below hb2 lx
  replace B := step B hb2
  replace lx := ox.lt
  have ly := oy.lt
  clear hb2
  go_wp2_with fail
  refine (plus_any (some ⟨gx, 0, none⟩) (some ⟨gy, 0, none⟩) len0 (len0 + 12) len1 (len1 + 12) z0 z1 _ (lent_sl ox L0 HZ0.out) (lent_sl oy L1 HZ1.out) (by omega) (by omega) (by omega)).mono ?_
  rintro e w3 ⟨g3, m3, k3, zs3, rfl, -, hk3, hm3, t3, hu, hn, hb3⟩
  have N3 : Hid (num zs3 = num z0 + num z1) := hn
  have U3 : Hid (usedN zs3 = m3) := hu
  clear hn hu
  have hm3' : m3 ≤ 1048577 := by omega
  replace s0 := s0.below hb3 (Nat.le_refl _)
  replace s1 := s1.below hb3 (Nat.le_refl _)
  replace ox := ox.below hb3 lx
  replace oy := oy.below hb3 ly
  replace lx := ox.lt
  replace ly := oy.lt
  replace B := step B hb3
  clear hb3
  go_wp2_with fail
  by_cases hle : num z1 ≤ num z0
  · refine (less_ok (some ⟨gx, 0, none⟩) (some ⟨gy, 0, none⟩) len0 (len0 + 12) len1 (len1 + 12) z0 z1 _ (lent_sl ox L0 HZ0.out) (lent_sl oy L1 HZ1.out) (by omega) (by omega) (by omega) hle).mono ?_
    rintro e w4 ⟨g4, m4, k4, zs4, rfl, -, hk4, hm4, t4, hu, hn, hb4⟩
    have N4 : Hid (num zs4 = num z0 - num z1) := hn
    have U4 : Hid (usedN zs4 = m4) := hu
    clear hn hu
    replace s0 := s0.below hb4 (Nat.le_refl _)
    replace s1 := s1.below hb4 (Nat.le_refl _)
    replace t3 := t3.below hb4 (Nat.le_refl _)
    replace ox := ox.below hb4 lx
    replace oy := oy.below hb4 ly
    replace lx := ox.lt
    replace ly := oy.lt
    replace B := step B hb4
    clear hb4
    go_wp2_with fail
    refine (rless_ok a0 a1 len0 cap0 len1 cap1 z0 z1 _ s0 s1 (by omega) (by omega) hle).mono ?_
    rintro e w5 ⟨a5, m5, k5, zs5, rfl, hk5, hm5, t5, hu, hn, hb5⟩
    obtain ⟨e1, e2⟩ := one_list t5.2.1 t4.2.1 t5.1 hu (hn.trans N4.out.symm)
    rw [U4.out] at e1 e2
    have e3 : zs4.take m4 = zs4 := List.take_of_length_le (by have := t4.1; omega)
    rw [e3] at e2
    subst e1 e2
    clear hn hu e3
    replace s0 := s0.below hb5 (Nat.le_refl _)
    replace s1 := s1.below hb5 (Nat.le_refl _)
    replace t3 := t3.below hb5 (Nat.le_refl _)
    replace t4 := t4.below hb5 (Nat.le_refl _)
    replace ox := ox.below hb5 lx
    replace oy := oy.below hb5 ly
    replace lx := ox.lt
    replace ly := oy.lt
    replace B := step B hb5
    clear hb5
    go_wp2_with fail
    refine (rplus_any a0 a1 len0 cap0 len1 cap1 z0 z1 _ s0 s1 (by omega) (by omega)).mono ?_
    rintro e w6 ⟨a6, m6, k6, zs6, rfl, hk6, hm6, t6, hu, hn, hb6⟩
    obtain ⟨e1, e2⟩ := one_list t6.2.1 t3.2.1 t6.1 hu (hn.trans N3.out.symm)
    rw [U3.out] at e1 e2
    have e3 : zs3.take m3 = zs3 := List.take_of_length_le (by have := t3.1; omega)
    rw [e3] at e2
    subst e1 e2
    clear hn hu e3
    replace s0 := s0.below hb6 (Nat.le_refl _)
    replace s1 := s1.below hb6 (Nat.le_refl _)
    replace t3 := t3.below hb6 (Nat.le_refl _)
    replace t4 := t4.below hb6 (Nat.le_refl _)
    replace t5 := t5.below hb6 (Nat.le_refl _)
    replace ox := ox.below hb6 lx
    replace oy := oy.below hb6 ly
    replace lx := ox.lt
    replace ly := oy.lt
    replace B := step B hb6
    clear hb6
    go_wp2_with fail
    refine (same_b (some ⟨g3, 0, none⟩) a6 m6 k3 k6 zs6 _ t3 t6 (by omega)).mono ?_
    rintro e w7 ⟨rfl, hb7⟩
    clear t3 t6
    replace s0 := s0.below hb7 (Nat.le_refl _)
    replace s1 := s1.below hb7 (Nat.le_refl _)
    replace t4 := t4.below hb7 (Nat.le_refl _)
    replace t5 := t5.below hb7 (Nat.le_refl _)
    replace ox := ox.below hb7 lx
    replace oy := oy.below hb7 ly
    replace lx := ox.lt
    replace ly := oy.lt
    replace B := step B hb7
    clear hb7
    go_wp2_with fail
    refine (same_b (some ⟨g4, 0, none⟩) a5 m5 k4 k5 zs5 _ t4 t5 (by omega)).mono ?_
    rintro e w8 ⟨rfl, hb8⟩
    clear t4 t5
    replace s0 := s0.below hb8 (Nat.le_refl _)
    replace s1 := s1.below hb8 (Nat.le_refl _)
    replace ox := ox.below hb8 lx
    replace oy := oy.below hb8 ly
    replace lx := ox.lt
    replace ly := oy.lt
    replace B := step B hb8
    clear hb8
    go_wp2_with fail
    refine (compare_b (some ⟨gx, 0, none⟩) (some ⟨gy, 0, none⟩) len0 (len0 + 12) len1 (len1 + 12) z0 z1 _ (lent_sl ox L0 HZ0.out) (lent_sl oy L1 HZ1.out) (by omega) (by omega)).mono ?_
    rintro e w9 ⟨rfl, hb9⟩
    obtain ⟨cc, hcc⟩ : ∃ c, cmp3 (num z0) (num z1) = c := ⟨_, rfl⟩
    rw [hcc]
    have HC : Hid (cmp3 (num z0) (num z1) = cc) := hcc
    have g1 : (cc != cc) = false := by simp
    clear hcc
    replace s0 := s0.below hb9 (Nat.le_refl _)
    replace s1 := s1.below hb9 (Nat.le_refl _)
    replace ox := ox.below hb9 lx
    replace oy := oy.below hb9 ly
    replace lx := ox.lt
    replace ly := oy.lt
    replace B := step B hb9
    clear hb9
    go_wp2_with fail
    refine (rcompare_any a0 a1 len0 cap0 len1 cap1 z0 z1 _ s0 s1 (by omega) (by omega)).mono ?_
    rintro e w10 ⟨rfl, hb10⟩
    rw [HC.out]
    replace s0 := s0.below hb10 (Nat.le_refl _)
    replace s1 := s1.below hb10 (Nat.le_refl _)
    replace ox := ox.below hb10 lx
    replace oy := oy.below hb10 ly
    replace lx := ox.lt
    replace ly := oy.lt
    replace B := step B hb10
    clear hb10
    go_wp2_with fail
    refine (bits_any (some ⟨gx, 0, none⟩) len0 (len0 + 12) z0 _ (lent_sl ox L0 HZ0.out) (by omega)).mono ?_
    rintro e w11 ⟨rfl, hw⟩
    rw [hw]
    obtain ⟨bb, hbb⟩ : ∃ c, bitsN z0 = c := ⟨_, rfl⟩
    rw [hbb]
    have HB : Hid (bitsN z0 = bb) := hbb
    have g2 : (bb != bb) = false := by simp
    clear hw hbb
    go_wp2_with fail
    refine (rbits_any a0 len0 cap0 z0 _ s0 (by omega)).mono ?_
    rintro e w12 ⟨rfl, hb12⟩
    rw [HB.out]
    replace s0 := s0.below hb12 (Nat.le_refl _)
    replace s1 := s1.below hb12 (Nat.le_refl _)
    replace ox := ox.below hb12 lx
    replace oy := oy.below hb12 ly
    replace lx := ox.lt
    replace ly := oy.lt
    replace B := step B hb12
    clear hb12
    go_wp2_with fail
    refine (trim_b (some ⟨gx, 0, none⟩) len0 (len0 + 12) z0 _ (lent_sl ox L0 HZ0.out) (by omega) (by omega)).mono ?_
    rintro e w13 ⟨g13, rfl, t13, hb13⟩
    replace s0 := s0.below hb13 (Nat.le_refl _)
    replace s1 := s1.below hb13 (Nat.le_refl _)
    replace ox := ox.below hb13 lx
    replace oy := oy.below hb13 ly
    replace lx := ox.lt
    replace ly := oy.lt
    replace B := step B hb13
    clear hb13
    go_wp2_with fail
    refine (rtrim_any a0 len0 cap0 z0 _ s0 (by omega)).mono ?_
    rintro e w14 ⟨a14, m14, k14, zs14, rfl, hk14, hm14, t14, hu, hn, hb14⟩
    obtain ⟨e1, e2⟩ := one_list t14.2.1 L0 t14.1 hu hn
    subst e1 e2
    clear hn hu
    replace s0 := s0.below hb14 (Nat.le_refl _)
    replace s1 := s1.below hb14 (Nat.le_refl _)
    replace t13 := t13.below hb14 (Nat.le_refl _)
    replace ox := ox.below hb14 lx
    replace oy := oy.below hb14 ly
    replace lx := ox.lt
    replace ly := oy.lt
    replace B := step B hb14
    clear hb14
    go_wp2_with fail
    refine (same_b (some ⟨g13, 0, none⟩) a14 (usedN z0) (usedN z0) k14 _ _ t13 t14 (by omega)).mono ?_
    rintro e w15 ⟨rfl, hb15⟩
    clear t13 t14
    replace s0 := s0.below hb15 (Nat.le_refl _)
    replace s1 := s1.below hb15 (Nat.le_refl _)
    replace ox := ox.below hb15 lx
    replace oy := oy.below hb15 ly
    replace lx := ox.lt
    replace ly := oy.lt
    replace B := step B hb15
    clear hb15
    go_wp2_with fail
    refine (kept_any a0 len0 cap0 gx z0 _ s0 ox (by omega)).mono ?_
    rintro e w16 ⟨rfl, hb16⟩
    replace s0 := s0.below hb16 (Nat.le_refl _)
    replace s1 := s1.below hb16 (Nat.le_refl _)
    replace ox := ox.below hb16 lx
    replace oy := oy.below hb16 ly
    replace lx := ox.lt
    replace ly := oy.lt
    replace B := step B hb16
    clear hb16
    go_wp2_with fail
    refine (kept_any a1 len1 cap1 gy z1 _ s1 oy (by omega)).mono ?_
    rintro e w17 ⟨rfl, hb17⟩
    replace B := step B hb17
    go_wp2_with fail
    go_ret
    exact ⟨rfl, B⟩
  · refine (less_below (some ⟨gx, 0, none⟩) (some ⟨gy, 0, none⟩) len0 (len0 + 12) len1 (len1 + 12) z0 z1 _ (lent_sl ox L0 HZ0.out) (lent_sl oy L1 HZ1.out) (by omega) (by omega) (by omega)).mono ?_
    rintro e w4 ⟨rfl, n4, hw4⟩
    have hb4 : Below w3.heap.size w3 w4 := by rw [hw4]; exact below_drewN (Below.refl _ _) n4
    clear hw4
    replace s0 := s0.below hb4 (Nat.le_refl _)
    replace s1 := s1.below hb4 (Nat.le_refl _)
    replace t3 := t3.below hb4 (Nat.le_refl _)
    replace ox := ox.below hb4 lx
    replace oy := oy.below hb4 ly
    replace lx := ox.lt
    replace ly := oy.lt
    replace B := step B hb4
    clear hb4
    go_wp2_with fail
    refine (rless_below a0 a1 len0 cap0 len1 cap1 z0 z1 _ s0 s1 (by omega) (by omega) (by omega)).mono ?_
    rintro e w5 ⟨rfl, hb5⟩
    replace s0 := s0.below hb5 (Nat.le_refl _)
    replace s1 := s1.below hb5 (Nat.le_refl _)
    replace t3 := t3.below hb5 (Nat.le_refl _)
    replace ox := ox.below hb5 lx
    replace oy := oy.below hb5 ly
    replace lx := ox.lt
    replace ly := oy.lt
    replace B := step B hb5
    clear hb5
    go_wp2_with fail
    refine (rplus_any a0 a1 len0 cap0 len1 cap1 z0 z1 _ s0 s1 (by omega) (by omega)).mono ?_
    rintro e w6 ⟨a6, m6, k6, zs6, rfl, hk6, hm6, t6, hu, hn, hb6⟩
    obtain ⟨e1, e2⟩ := one_list t6.2.1 t3.2.1 t6.1 hu (hn.trans N3.out.symm)
    rw [U3.out] at e1 e2
    have e3 : zs3.take m3 = zs3 := List.take_of_length_le (by have := t3.1; omega)
    rw [e3] at e2
    subst e1 e2
    clear hn hu e3
    replace s0 := s0.below hb6 (Nat.le_refl _)
    replace s1 := s1.below hb6 (Nat.le_refl _)
    replace t3 := t3.below hb6 (Nat.le_refl _)
    replace ox := ox.below hb6 lx
    replace oy := oy.below hb6 ly
    replace lx := ox.lt
    replace ly := oy.lt
    replace B := step B hb6
    clear hb6
    go_wp2_with fail
    refine (same_b (some ⟨g3, 0, none⟩) a6 m6 k3 k6 zs6 _ t3 t6 (by omega)).mono ?_
    rintro e w7 ⟨rfl, hb7⟩
    clear t3 t6
    replace s0 := s0.below hb7 (Nat.le_refl _)
    replace s1 := s1.below hb7 (Nat.le_refl _)
    replace ox := ox.below hb7 lx
    replace oy := oy.below hb7 ly
    replace lx := ox.lt
    replace ly := oy.lt
    replace B := step B hb7
    clear hb7
    go_wp2_with fail
    refine (same_b none none 0 0 0 [] _ ⟨rfl, Limbs.nil, fun h => absurd h (by decide)⟩ ⟨rfl, Limbs.nil, fun h => absurd h (by decide)⟩ (by omega)).mono ?_
    rintro e w8 ⟨rfl, hb8⟩
    replace s0 := s0.below hb8 (Nat.le_refl _)
    replace s1 := s1.below hb8 (Nat.le_refl _)
    replace ox := ox.below hb8 lx
    replace oy := oy.below hb8 ly
    replace lx := ox.lt
    replace ly := oy.lt
    replace B := step B hb8
    clear hb8
    go_wp2_with fail
    refine (compare_b (some ⟨gx, 0, none⟩) (some ⟨gy, 0, none⟩) len0 (len0 + 12) len1 (len1 + 12) z0 z1 _ (lent_sl ox L0 HZ0.out) (lent_sl oy L1 HZ1.out) (by omega) (by omega)).mono ?_
    rintro e w9 ⟨rfl, hb9⟩
    obtain ⟨cc, hcc⟩ : ∃ c, cmp3 (num z0) (num z1) = c := ⟨_, rfl⟩
    rw [hcc]
    have HC : Hid (cmp3 (num z0) (num z1) = cc) := hcc
    have g1 : (cc != cc) = false := by simp
    clear hcc
    replace s0 := s0.below hb9 (Nat.le_refl _)
    replace s1 := s1.below hb9 (Nat.le_refl _)
    replace ox := ox.below hb9 lx
    replace oy := oy.below hb9 ly
    replace lx := ox.lt
    replace ly := oy.lt
    replace B := step B hb9
    clear hb9
    go_wp2_with fail
    refine (rcompare_any a0 a1 len0 cap0 len1 cap1 z0 z1 _ s0 s1 (by omega) (by omega)).mono ?_
    rintro e w10 ⟨rfl, hb10⟩
    rw [HC.out]
    replace s0 := s0.below hb10 (Nat.le_refl _)
    replace s1 := s1.below hb10 (Nat.le_refl _)
    replace ox := ox.below hb10 lx
    replace oy := oy.below hb10 ly
    replace lx := ox.lt
    replace ly := oy.lt
    replace B := step B hb10
    clear hb10
    go_wp2_with fail
    refine (bits_any (some ⟨gx, 0, none⟩) len0 (len0 + 12) z0 _ (lent_sl ox L0 HZ0.out) (by omega)).mono ?_
    rintro e w11 ⟨rfl, hw⟩
    rw [hw]
    obtain ⟨bb, hbb⟩ : ∃ c, bitsN z0 = c := ⟨_, rfl⟩
    rw [hbb]
    have HB : Hid (bitsN z0 = bb) := hbb
    have g2 : (bb != bb) = false := by simp
    clear hw hbb
    go_wp2_with fail
    refine (rbits_any a0 len0 cap0 z0 _ s0 (by omega)).mono ?_
    rintro e w12 ⟨rfl, hb12⟩
    rw [HB.out]
    replace s0 := s0.below hb12 (Nat.le_refl _)
    replace s1 := s1.below hb12 (Nat.le_refl _)
    replace ox := ox.below hb12 lx
    replace oy := oy.below hb12 ly
    replace lx := ox.lt
    replace ly := oy.lt
    replace B := step B hb12
    clear hb12
    go_wp2_with fail
    refine (trim_b (some ⟨gx, 0, none⟩) len0 (len0 + 12) z0 _ (lent_sl ox L0 HZ0.out) (by omega) (by omega)).mono ?_
    rintro e w13 ⟨g13, rfl, t13, hb13⟩
    replace s0 := s0.below hb13 (Nat.le_refl _)
    replace s1 := s1.below hb13 (Nat.le_refl _)
    replace ox := ox.below hb13 lx
    replace oy := oy.below hb13 ly
    replace lx := ox.lt
    replace ly := oy.lt
    replace B := step B hb13
    clear hb13
    go_wp2_with fail
    refine (rtrim_any a0 len0 cap0 z0 _ s0 (by omega)).mono ?_
    rintro e w14 ⟨a14, m14, k14, zs14, rfl, hk14, hm14, t14, hu, hn, hb14⟩
    obtain ⟨e1, e2⟩ := one_list t14.2.1 L0 t14.1 hu hn
    subst e1 e2
    clear hn hu
    replace s0 := s0.below hb14 (Nat.le_refl _)
    replace s1 := s1.below hb14 (Nat.le_refl _)
    replace t13 := t13.below hb14 (Nat.le_refl _)
    replace ox := ox.below hb14 lx
    replace oy := oy.below hb14 ly
    replace lx := ox.lt
    replace ly := oy.lt
    replace B := step B hb14
    clear hb14
    go_wp2_with fail
    refine (same_b (some ⟨g13, 0, none⟩) a14 (usedN z0) (usedN z0) k14 _ _ t13 t14 (by omega)).mono ?_
    rintro e w15 ⟨rfl, hb15⟩
    clear t13 t14
    replace s0 := s0.below hb15 (Nat.le_refl _)
    replace s1 := s1.below hb15 (Nat.le_refl _)
    replace ox := ox.below hb15 lx
    replace oy := oy.below hb15 ly
    replace lx := ox.lt
    replace ly := oy.lt
    replace B := step B hb15
    clear hb15
    go_wp2_with fail
    refine (kept_any a0 len0 cap0 gx z0 _ s0 ox (by omega)).mono ?_
    rintro e w16 ⟨rfl, hb16⟩
    replace s0 := s0.below hb16 (Nat.le_refl _)
    replace s1 := s1.below hb16 (Nat.le_refl _)
    replace ox := ox.below hb16 lx
    replace oy := oy.below hb16 ly
    replace lx := ox.lt
    replace ly := oy.lt
    replace B := step B hb16
    clear hb16
    go_wp2_with fail
    refine (kept_any a1 len1 cap1 gy z1 _ s1 oy (by omega)).mono ?_
    rintro e w17 ⟨rfl, hb17⟩
    replace B := step B hb17
    go_wp2_with fail
    go_ret
    exact ⟨rfl, B⟩
end Go.Proofs.Ytkgbhiccjbnldaa.limbSums
