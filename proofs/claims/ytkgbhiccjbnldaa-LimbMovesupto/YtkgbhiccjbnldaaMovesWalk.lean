/-
  The walk of LimbMoves: each call by its contract; lists of at most 1048576 limbs.
-/
import Derived.Test.YtkgbhiccjbnldaaSumsWalk
import Derived.Test.YtkgbhiccjbnldaaRefR
namespace Go.Proofs.Ytkgbhiccjbnldaa.limbMoves
open Go.RowKit Go.Shelf Go.Proofs.Ytkgbhiccjbnldaa.limbSums

theorem nil_sl (w : World) : Sl w none 0 [] := ⟨rfl, Limbs.nil, fun h => absurd h (by decide)⟩
theorem rleft_val (a : Option Addr) (la ca : Nat) (xs : List Int) (t : Nat) (w : World) (ha : Sl w a la xs) (h1 : la ≤ 2000000000000) (hfit : usedN xs = 0 ∨ bitsN xs + t ≤ 262144) :
    Calls Try.prog 36 #[.slice a la ca, .int .i64 t] w fun e w' =>
      ∃ a' m c zs, e = .returned (.tuple #[.slice a' m c, .int .i64 0]) ∧ m ≤ c ∧ m ≤ 2 * la + 20000 ∧ Sl w' a' m zs ∧ usedN zs = m ∧ num zs = num xs * 2 ^ t ∧ Below w.heap.size w w' := by
  rcases Nat.eq_zero_or_pos (usedN xs) with h0 | h0
  · refine (rleft_none a la ca xs t w ha (by omega) (by omega) h0).mono ?_
    rintro e w' ⟨rfl, hb⟩
    refine ⟨none, 0, 0, [], rfl, Nat.le_refl _, by omega, nil_sl _, rfl, ?_, hb⟩
    rw [(num_eq_zero ha.2.1).2 h0, Int.zero_mul]; rfl
  · exact rleft_ok a la ca xs t w ha h1 h0 (by omega)

set_option maxHeartbeats 4000000 in
theorem walk (a0 : Option Addr) (len0 cap0 : Nat) (z0 : List Int) (t : Int) (w : World) (s0 : Sl w a0 len0 z0) (c0 : len0 ≤ cap0) (r0 : cap0 ≤ 1048576) (e0 : a0 = none → len0 = 0 ∧ cap0 = 0) (w1 : (Lit.int .i64 t).wf = true) :
    Calls Try.prog 7 #[.slice a0 len0 cap0, .int .i64 t] w fun e w' => e = .returned (.bool true) ∧ Below w.heap.size w w' := by
  have hx : -9223372036854775808 ≤ t ∧ t ≤ 9223372036854775807 := by
    simp [Lit.wf, IntKind.min, IntKind.max, IntKind.signed, IntKind.bits] at w1
    exact ⟨by omega, by omega⟩
  have ht2 := hx.2
  have L0 := s0.2.1
  have HZ0 : Hid (z0.length = len0) := s0.1
  have B : Below w.heap.size w w := Below.refl _ _
  have LT0 := lent_any a0 len0 cap0 z0 w s0 e0 (by omega)
  clear e0 w1 hx
  by_cases hneg : t < 0
  · go_enter Try.func7, Try.ntmps7
    go_wp2_with fail
    refine LT0.mono ?_
    rintro e w2 ⟨gx, rfl, -, ox, hb1⟩
    clear LT0
    replace s0 := s0.below hb1 (Nat.le_refl _)
    replace B := step B hb1
    clear hb1
    have lx := ox.lt
    go_wp2_with fail
    refine (left_neg (some ⟨gx, 0, none⟩) len0 (len0 + 12) t _ hneg).mono ?_
    rintro e w3 ⟨rfl, hw⟩
    rw [hw]
    clear hw
    go_wp2_with fail
    refine (right_neg (some ⟨gx, 0, none⟩) len0 (len0 + 12) t _ hneg).mono ?_
    rintro e w3 ⟨rfl, hw⟩
    rw [hw]
    clear hw
    go_wp2_with fail
    refine (rleft_neg a0 len0 cap0 t _ hneg).mono ?_
    rintro e w3 ⟨rfl, hw⟩
    rw [hw]
    clear hw
    go_wp2_with fail
    refine (rright_neg a0 len0 cap0 t _ hneg).mono ?_
    rintro e w3 ⟨rfl, hw⟩
    rw [hw]
    clear hw
    go_wp2_with fail
    refine (same_b none none 0 0 0 [] _ (nil_sl _) (nil_sl _) (by omega)).mono ?_
    rintro e w7 ⟨rfl, hb7⟩
    replace s0 := s0.below hb7 (Nat.le_refl _)
    replace ox := ox.below hb7 lx
    replace lx := ox.lt
    replace B := step B hb7
    clear hb7
    go_wp2_with fail
    refine (same_b none none 0 0 0 [] _ (nil_sl _) (nil_sl _) (by omega)).mono ?_
    rintro e w8 ⟨rfl, hb8⟩
    replace s0 := s0.below hb8 (Nat.le_refl _)
    replace ox := ox.below hb8 lx
    replace lx := ox.lt
    replace B := step B hb8
    clear hb8
    go_wp2_with fail
    refine (kept_any a0 len0 cap0 gx z0 _ s0 ox (by omega)).mono ?_
    rintro e w9 ⟨rfl, hb9⟩
    replace B := step B hb9
    go_wp2_with fail
    go_ret
    exact ⟨rfl, B⟩
  · obtain ⟨n, rfl⟩ := Int.eq_ofNat_of_zero_le (show 0 ≤ t by omega)
    have hnb : n ≤ 9223372036854775807 := by omega
    clear hneg
    by_cases hfit : usedN z0 = 0 ∨ bitsN z0 + n ≤ 262144
    · have HF : Hid (usedN z0 = 0 ∨ bitsN z0 + n ≤ 262144) := hfit
      clear hfit
      go_enter Try.func7, Try.ntmps7
      go_wp2_with fail
      refine LT0.mono ?_
      rintro e w2 ⟨gx, rfl, -, ox, hb1⟩
      clear LT0
      replace s0 := s0.below hb1 (Nat.le_refl _)
      replace B := step B hb1
      clear hb1
      have lx := ox.lt
      go_wp2_with fail
      refine (left_val (some ⟨gx, 0, none⟩) len0 (len0 + 12) z0 n _ (lent_sl ox L0 HZ0.out) (by omega) (by omega) HF.out).mono ?_
      rintro e w3 ⟨a3, m3, k3, zs3, rfl, hk3, hm3, t3, hu, hn, hb3⟩
      have N3 : Hid (num zs3 = num z0 * 2 ^ n) := hn
      have U3 : Hid (usedN zs3 = m3) := hu
      clear hn hu
      replace s0 := s0.below hb3 (Nat.le_refl _)
      replace ox := ox.below hb3 lx
      replace lx := ox.lt
      replace B := step B hb3
      clear hb3
      go_wp2_with fail
      refine (right_val (some ⟨gx, 0, none⟩) len0 (len0 + 12) z0 n _ (lent_sl ox L0 HZ0.out) (by omega) (by omega) hnb).mono ?_
      rintro e w4 ⟨a4, m4, k4, zs4, rfl, hk4, hm4, t4, hu, hn, hb4⟩
      have N4 : Hid (num zs4 = num z0 / 2 ^ n) := hn
      have U4 : Hid (usedN zs4 = m4) := hu
      clear hn hu
      replace s0 := s0.below hb4 (Nat.le_refl _)
      replace t3 := t3.below hb4 (Nat.le_refl _)
      replace ox := ox.below hb4 lx
      replace lx := ox.lt
      replace B := step B hb4
      clear hb4
      go_wp2_with fail
      refine (rleft_val a0 len0 cap0 z0 n _ s0 (by omega) HF.out).mono ?_
      rintro e w5 ⟨a5, m5, k5, zs5, rfl, hk5, hm5, t5, hu, hn, hb5⟩
      obtain ⟨e1, e2⟩ := one_list t5.2.1 t3.2.1 t5.1 hu (hn.trans N3.out.symm)
      rw [U3.out] at e1 e2
      have e3 : zs3.take m3 = zs3 := List.take_of_length_le (by have := t3.1; omega)
      rw [e3] at e2
      subst e1 e2
      clear hn hu e3
      replace s0 := s0.below hb5 (Nat.le_refl _)
      replace t3 := t3.below hb5 (Nat.le_refl _)
      replace t4 := t4.below hb5 (Nat.le_refl _)
      replace ox := ox.below hb5 lx
      replace lx := ox.lt
      replace B := step B hb5
      clear hb5
      go_wp2_with fail
      refine (rright_val a0 len0 cap0 z0 n _ s0 (by omega) hnb).mono ?_
      rintro e w6 ⟨a6, m6, k6, zs6, rfl, hk6, hm6, t6, hu, hn, hb6⟩
      obtain ⟨e1, e2⟩ := one_list t6.2.1 t4.2.1 t6.1 hu (hn.trans N4.out.symm)
      rw [U4.out] at e1 e2
      have e3 : zs4.take m4 = zs4 := List.take_of_length_le (by have := t4.1; omega)
      rw [e3] at e2
      subst e1 e2
      clear hn hu e3
      replace s0 := s0.below hb6 (Nat.le_refl _)
      replace t3 := t3.below hb6 (Nat.le_refl _)
      replace t4 := t4.below hb6 (Nat.le_refl _)
      replace t5 := t5.below hb6 (Nat.le_refl _)
      replace ox := ox.below hb6 lx
      replace lx := ox.lt
      replace B := step B hb6
      clear hb6
      go_wp2_with fail
      refine (same_b a3 a5 m5 k3 k5 zs5 _ t3 t5 (by omega)).mono ?_
      rintro e w7 ⟨rfl, hb7⟩
      clear t3 t5
      replace s0 := s0.below hb7 (Nat.le_refl _)
      replace t4 := t4.below hb7 (Nat.le_refl _)
      replace t6 := t6.below hb7 (Nat.le_refl _)
      replace ox := ox.below hb7 lx
      replace lx := ox.lt
      replace B := step B hb7
      clear hb7
      go_wp2_with fail
      refine (same_b a4 a6 m6 k4 k6 zs6 _ t4 t6 (by omega)).mono ?_
      rintro e w8 ⟨rfl, hb8⟩
      clear t4 t6
      replace s0 := s0.below hb8 (Nat.le_refl _)
      replace ox := ox.below hb8 lx
      replace lx := ox.lt
      replace B := step B hb8
      clear hb8
      go_wp2_with fail
      refine (kept_any a0 len0 cap0 gx z0 _ s0 ox (by omega)).mono ?_
      rintro e w9 ⟨rfl, hb9⟩
      replace B := step B hb9
      go_wp2_with fail
      go_ret
      exact ⟨rfl, B⟩
    · have HF : Hid (0 < usedN z0 ∧ 262144 < bitsN z0 + n) := ⟨by omega, by omega⟩
      clear hfit
      go_enter Try.func7, Try.ntmps7
      go_wp2_with fail
      refine LT0.mono ?_
      rintro e w2 ⟨gx, rfl, -, ox, hb1⟩
      clear LT0
      replace s0 := s0.below hb1 (Nat.le_refl _)
      replace B := step B hb1
      clear hb1
      have lx := ox.lt
      go_wp2_with fail
      refine (left_long (some ⟨gx, 0, none⟩) len0 (len0 + 12) z0 n _ (lent_sl ox L0 HZ0.out) (by omega) (by omega) HF.out.1 HF.out.2).mono ?_
      rintro e w3 ⟨rfl, hw⟩
      rw [hw]
      clear hw
      go_wp2_with fail
      refine (right_val (some ⟨gx, 0, none⟩) len0 (len0 + 12) z0 n _ (lent_sl ox L0 HZ0.out) (by omega) (by omega) hnb).mono ?_
      rintro e w4 ⟨a4, m4, k4, zs4, rfl, hk4, hm4, t4, hu, hn, hb4⟩
      have N4 : Hid (num zs4 = num z0 / 2 ^ n) := hn
      have U4 : Hid (usedN zs4 = m4) := hu
      clear hn hu
      replace s0 := s0.below hb4 (Nat.le_refl _)
      replace ox := ox.below hb4 lx
      replace lx := ox.lt
      replace B := step B hb4
      clear hb4
      go_wp2_with fail
      refine (rleft_long a0 len0 cap0 z0 n _ s0 (by omega) (by omega) HF.out.1 HF.out.2).mono ?_
      rintro e w5 ⟨rfl, hb5⟩
      replace s0 := s0.below hb5 (Nat.le_refl _)
      replace t4 := t4.below hb5 (Nat.le_refl _)
      replace ox := ox.below hb5 lx
      replace lx := ox.lt
      replace B := step B hb5
      clear hb5
      go_wp2_with fail
      refine (rright_val a0 len0 cap0 z0 n _ s0 (by omega) hnb).mono ?_
      rintro e w6 ⟨a6, m6, k6, zs6, rfl, hk6, hm6, t6, hu, hn, hb6⟩
      obtain ⟨e1, e2⟩ := one_list t6.2.1 t4.2.1 t6.1 hu (hn.trans N4.out.symm)
      rw [U4.out] at e1 e2
      have e3 : zs4.take m4 = zs4 := List.take_of_length_le (by have := t4.1; omega)
      rw [e3] at e2
      subst e1 e2
      clear hn hu e3
      replace s0 := s0.below hb6 (Nat.le_refl _)
      replace t4 := t4.below hb6 (Nat.le_refl _)
      replace ox := ox.below hb6 lx
      replace lx := ox.lt
      replace B := step B hb6
      clear hb6
      go_wp2_with fail
      refine (same_b none none 0 0 0 [] _ (nil_sl _) (nil_sl _) (by omega)).mono ?_
      rintro e w7 ⟨rfl, hb7⟩
      replace s0 := s0.below hb7 (Nat.le_refl _)
      replace t4 := t4.below hb7 (Nat.le_refl _)
      replace t6 := t6.below hb7 (Nat.le_refl _)
      replace ox := ox.below hb7 lx
      replace lx := ox.lt
      replace B := step B hb7
      clear hb7
      go_wp2_with fail
      refine (same_b a4 a6 m6 k4 k6 zs6 _ t4 t6 (by omega)).mono ?_
      rintro e w8 ⟨rfl, hb8⟩
      clear t4 t6
      replace s0 := s0.below hb8 (Nat.le_refl _)
      replace ox := ox.below hb8 lx
      replace lx := ox.lt
      replace B := step B hb8
      clear hb8
      go_wp2_with fail
      refine (kept_any a0 len0 cap0 gx z0 _ s0 ox (by omega)).mono ?_
      rintro e w9 ⟨rfl, hb9⟩
      replace B := step B hb9
      go_wp2_with fail
      go_ret
      exact ⟨rfl, B⟩
end Go.Proofs.Ytkgbhiccjbnldaa.limbMoves
