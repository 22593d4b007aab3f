/-
  The walk of LimbTimes: each call by its contract; lists of at most 1048576 limbs.
-/
import Derived.Test.YtkgbhiccjbnldaaSumsWalk
import Derived.Test.YtkgbhiccjbnldaaRefO
import Derived.Test.YtkgbhiccjbnldaaTimes
import Derived.Test.YtkgbhiccjbnldaaOver
namespace Go.Proofs.Ytkgbhiccjbnldaa.limbTimes
open Go.RowKit Go.Shelf Go.Proofs.Ytkgbhiccjbnldaa.limbSums

theorem div_same {x b q r q' r' : Int} (h : x = q * b + r) (h0 : 0 ≤ r) (h1 : r < b) (h' : x = q' * b + r') (h0' : 0 ≤ r') (h1' : r' < b) : q' = q ∧ r' = r := by
  have e1 : q = x / b := by rw [h, Int.add_comm, Int.add_mul_ediv_right _ _ (by omega), Int.ediv_eq_zero_of_lt h0 h1, Int.zero_add]
  have e2 : q' = x / b := by rw [h', Int.add_comm, Int.add_mul_ediv_right _ _ (by omega), Int.ediv_eq_zero_of_lt h0' h1', Int.zero_add]
  have e3 : q' = q := by rw [e1, e2]
  subst e3
  exact ⟨rfl, by omega⟩

set_option maxHeartbeats 4000000 in
theorem walk (a0 : Option Addr) (len0 cap0 : Nat) (z0 : List Int) (b m : Int) (w : World) (s0 : Sl w a0 len0 z0) (c0 : len0 ≤ cap0) (r0 : cap0 ≤ 1048576) (e0 : a0 = none → len0 = 0 ∧ cap0 = 0) (hb : Word b) (hm : Word m) :
    Calls Try.prog 6 #[.slice a0 len0 cap0, .int .u64 b, .int .u64 m] w fun e w' => e = .returned (.bool true) ∧ Below w.heap.size w w' := by
  have L0 := s0.2.1
  have HZ0 : Hid (z0.length = len0) := s0.1
  have hu0 : usedN z0 ≤ len0 := by have := usedN_le z0; have := s0.1; omega
  have B : Below w.heap.size w w := Below.refl _ _
  have LT0 := lent_any a0 len0 cap0 z0 w s0 e0 (by omega)
  clear e0
  by_cases hb0 : b = 0
  · subst hb0
    go_enter Try.func6, Try.ntmps6
    go_wp2_with fail
    refine LT0.mono ?_
    rintro e w1 ⟨gx, rfl, -, ox, hb1⟩
    clear LT0
    replace s0 := s0.below hb1 (Nat.le_refl _)
    replace B := step B hb1
    clear hb1
    have lx := ox.lt
    go_wp2_with fail
    refine (times_any (some ⟨gx, 0, none⟩) len0 (len0 + 12) z0 0 m _ (lent_sl ox L0 HZ0.out) (by omega) (by omega) hb hm).mono ?_
    rintro e w2 ⟨g2, m2, k2, zs2, rfl, -, hk2, hm2, t2, hu, hn, hb2⟩
    have N2 : Hid (num zs2 = num z0 * 0 + m) := hn
    have U2 : Hid (usedN zs2 = m2) := hu
    clear hn hu
    replace s0 := s0.below hb2 (Nat.le_refl _)
    replace ox := ox.below hb2 lx
    replace lx := ox.lt
    replace B := step B hb2
    clear hb2
    go_wp2_with fail
    refine (over_nought (some ⟨gx, 0, none⟩) len0 (len0 + 12) _).mono ?_
    rintro e w3 ⟨rfl, hw⟩
    rw [hw]
    clear hw
    go_wp2_with fail
    refine (rover_nought a0 len0 cap0 _).mono ?_
    rintro e w4 ⟨rfl, hw⟩
    rw [hw]
    clear hw
    go_wp2_with fail
    refine (rtimes_any a0 len0 cap0 z0 0 m _ s0 (by omega) hb hm).mono ?_
    rintro e w5 ⟨a5, m5, k5, zs5, rfl, hk5, hm5, t5, hu, hn, hb5⟩
    obtain ⟨e1, e2⟩ := one_list t5.2.1 t2.2.1 t5.1 hu (hn.trans N2.out.symm)
    rw [U2.out] at e1 e2
    have e3 : zs2.take m2 = zs2 := List.take_of_length_le (by have := t2.1; omega)
    rw [e3] at e2
    subst e1 e2
    clear hn hu e3
    replace s0 := s0.below hb5 (Nat.le_refl _)
    replace t2 := t2.below hb5 (Nat.le_refl _)
    replace ox := ox.below hb5 lx
    replace lx := ox.lt
    replace B := step B hb5
    clear hb5
    go_wp2_with fail
    refine (same_b (some ⟨g2, 0, none⟩) a5 m5 k2 k5 zs5 _ t2 t5 (by omega)).mono ?_
    rintro e w6 ⟨rfl, hb6⟩
    clear t2 t5
    replace s0 := s0.below hb6 (Nat.le_refl _)
    replace ox := ox.below hb6 lx
    replace lx := ox.lt
    replace B := step B hb6
    clear hb6
    go_wp2_with fail
    refine (same_b none none 0 0 0 [] _ ⟨rfl, Limbs.nil, fun h => absurd h (by decide)⟩ ⟨rfl, Limbs.nil, fun h => absurd h (by decide)⟩ (by omega)).mono ?_
    rintro e w7 ⟨rfl, hb7⟩
    replace s0 := s0.below hb7 (Nat.le_refl _)
    replace ox := ox.below hb7 lx
    replace lx := ox.lt
    replace B := step B hb7
    clear hb7
    go_wp2_with fail
    refine (kept_any a0 len0 cap0 gx z0 _ s0 ox (by omega)).mono ?_
    rintro e w8 ⟨rfl, hb8⟩
    replace B := step B hb8
    go_wp2_with fail
    go_ret
    exact ⟨rfl, B⟩
  · have hbp : 0 < b := by have := hb.1; omega
    clear hb0
    go_enter Try.func6, Try.ntmps6
    go_wp2_with fail
    refine LT0.mono ?_
    rintro e w1 ⟨gx, rfl, -, ox, hb1⟩
    clear LT0
    replace s0 := s0.below hb1 (Nat.le_refl _)
    replace B := step B hb1
    clear hb1
    have lx := ox.lt
    go_wp2_with fail
    refine (times_any (some ⟨gx, 0, none⟩) len0 (len0 + 12) z0 b m _ (lent_sl ox L0 HZ0.out) (by omega) (by omega) hb hm).mono ?_
    rintro e w2 ⟨g2, m2, k2, zs2, rfl, -, hk2, hm2, t2, hu, hn, hb2⟩
    have N2 : Hid (num zs2 = num z0 * b + m) := hn
    have U2 : Hid (usedN zs2 = m2) := hu
    clear hn hu
    replace s0 := s0.below hb2 (Nat.le_refl _)
    replace ox := ox.below hb2 lx
    replace lx := ox.lt
    replace B := step B hb2
    clear hb2
    go_wp2_with fail
    refine (over_ok (some ⟨gx, 0, none⟩) len0 (len0 + 12) z0 b _ (lent_sl ox L0 HZ0.out) (by omega) (by omega) hb hbp).mono ?_
    rintro e w3 ⟨g3, m3, k3, zs3, r3, rfl, -, hk3, hm3, t3, hu, hn, hq0, hq1, hb3⟩
    have N3 : Hid (num z0 = num zs3 * b + r3) := hn
    have U3 : Hid (usedN zs3 = m3) := hu
    have Q0 : Hid (0 ≤ r3) := hq0
    have Q1 : Hid (r3 < b) := hq1
    have g1 : (r3 == r3) = true := by simp
    clear hn hu hq0 hq1
    replace s0 := s0.below hb3 (Nat.le_refl _)
    replace t2 := t2.below hb3 (Nat.le_refl _)
    replace ox := ox.below hb3 lx
    replace lx := ox.lt
    replace B := step B hb3
    clear hb3
    go_wp2_with fail
    refine (rover_ok a0 len0 cap0 z0 b _ s0 (by omega) hb hbp).mono ?_
    rintro e w4 ⟨a4, m4, k4, zs4, r4, rfl, hk4, hm4, t4, hu, hn, hq0, hq1, hb4⟩
    obtain ⟨e5, e6⟩ := div_same N3.out Q0.out Q1.out hn hq0 hq1
    obtain ⟨e1, e2⟩ := one_list t4.2.1 t3.2.1 t4.1 hu e5
    rw [U3.out] at e1 e2
    have e3 : zs3.take m3 = zs3 := List.take_of_length_le (by have := t3.1; omega)
    rw [e3] at e2
    subst e1 e2 e6
    clear hn hu e3 e5 hq0 hq1
    replace s0 := s0.below hb4 (Nat.le_refl _)
    replace t2 := t2.below hb4 (Nat.le_refl _)
    replace t3 := t3.below hb4 (Nat.le_refl _)
    replace ox := ox.below hb4 lx
    replace lx := ox.lt
    replace B := step B hb4
    clear hb4
    go_wp2_with fail
    refine (rtimes_any a0 len0 cap0 z0 b m _ s0 (by omega) hb hm).mono ?_
    rintro e w5 ⟨a5, m5, k5, zs5, rfl, hk5, hm5, t5, hu, hn, hb5⟩
    obtain ⟨e1, e2⟩ := one_list t5.2.1 t2.2.1 t5.1 hu (hn.trans N2.out.symm)
    rw [U2.out] at e1 e2
    have e3 : zs2.take m2 = zs2 := List.take_of_length_le (by have := t2.1; omega)
    rw [e3] at e2
    subst e1 e2
    clear hn hu e3
    replace s0 := s0.below hb5 (Nat.le_refl _)
    replace t2 := t2.below hb5 (Nat.le_refl _)
    replace t3 := t3.below hb5 (Nat.le_refl _)
    replace t4 := t4.below hb5 (Nat.le_refl _)
    replace ox := ox.below hb5 lx
    replace lx := ox.lt
    replace B := step B hb5
    clear hb5
    go_wp2_with fail
    refine (same_b (some ⟨g2, 0, none⟩) a5 m5 k2 k5 zs5 _ t2 t5 (by omega)).mono ?_
    rintro e w6 ⟨rfl, hb6⟩
    clear t2 t5
    replace s0 := s0.below hb6 (Nat.le_refl _)
    replace t3 := t3.below hb6 (Nat.le_refl _)
    replace t4 := t4.below hb6 (Nat.le_refl _)
    replace ox := ox.below hb6 lx
    replace lx := ox.lt
    replace B := step B hb6
    clear hb6
    go_wp2_with fail
    refine (same_b (some ⟨g3, 0, none⟩) a4 m4 k3 k4 zs4 _ t3 t4 (by omega)).mono ?_
    rintro e w7 ⟨rfl, hb7⟩
    clear t3 t4
    replace s0 := s0.below hb7 (Nat.le_refl _)
    replace ox := ox.below hb7 lx
    replace lx := ox.lt
    replace B := step B hb7
    clear hb7
    go_wp2_with fail
    refine (kept_any a0 len0 cap0 gx z0 _ s0 ox (by omega)).mono ?_
    rintro e w8 ⟨rfl, hb8⟩
    replace B := step B hb8
    go_wp2_with fail
    go_ret
    exact ⟨rfl, B⟩
end Go.Proofs.Ytkgbhiccjbnldaa.limbTimes
