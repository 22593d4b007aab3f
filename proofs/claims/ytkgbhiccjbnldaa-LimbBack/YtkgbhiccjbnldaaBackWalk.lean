/-
  The walk of LimbBack: each call by its contract.
-/
import Derived.Test.YtkgbhiccjbnldaaUni
import Derived.Test.YtkgbhiccjbnldaaPlus
import Derived.Test.YtkgbhiccjbnldaaLess
import Derived.Test.YtkgbhiccjbnldaaTimes
import Derived.Test.YtkgbhiccjbnldaaOver
namespace Go.Proofs.Ytkgbhiccjbnldaa.limbBack
open Go.RowKit Go.Shelf

/-- The tests of the law, as the text reckons them. -/
theorem cmp_sum {x y : Int} (hy : 0 ≤ y) : ¬ cmp3 (x + y) x < 0 := by rw [cmp3_neg_iff]; omega
theorem cmp_sum0 {x y : Int} (hy : 0 ≤ y) : (cmp3 (x + y) x == 0) = (y == 0) := by
  rcases Int.lt_trichotomy x (x + y) with h | h | h
  · rw [cmp3_gt h]
    have : (y == 0) = false := by simp; omega
    rw [this]; rfl
  · have : y = 0 := by omega
    subst this
    rw [Int.add_zero, cmp3_self]
  · omega
theorem bits0 {zs : List Int} (h : Limbs zs) : (bitsN zs == 0) = (num zs == 0) := by
  by_cases h0 : usedN zs = 0
  · have e1 : bitsN zs = 0 := by simp [bitsN, h0]
    rw [e1, (num_eq_zero h).2 h0]
  · have e1 : bitsN zs ≠ 0 := by
      have ht := usedN_top zs (by omega)
      have hw := h.getD (usedN zs - 1)
      obtain ⟨p1, p2⟩ := bitLen_spec 64 (zs.getD (usedN zs - 1) 0).toNat (by omega) (by omega)
      have : Lib.bitLen (zs.getD (usedN zs - 1) 0).toNat ≠ 0 := by
        intro e
        rw [e] at p1
        omega
      simp only [bitsN, if_neg h0]
      omega
    have e2 : num zs ≠ 0 := fun e => h0 ((num_eq_zero h).1 e)
    have e3 : (bitsN zs == 0) = false := by simpa using e1
    have e4 : (num zs == 0) = false := by simpa using e2
    rw [e3, e4]
theorem div_back {x b m q r : Int} (hm : 0 ≤ m) (hmb : m < b) (hr : 0 ≤ r) (hrb : r < b) (h : x * b + m = q * b + r) : q = x ∧ r = m := by
  have e1 : (x * b + m) / b = x := by rw [Int.add_comm, Int.add_mul_ediv_right _ _ (by omega), Int.ediv_eq_zero_of_lt hm hmb, Int.zero_add]
  have e2 : (q * b + r) / b = q := by rw [Int.add_comm, Int.add_mul_ediv_right _ _ (by omega), Int.ediv_eq_zero_of_lt hr hrb, Int.zero_add]
  have e3 : q = x := by rw [← e2, ← h, e1]
  subst e3
  exact ⟨rfl, by omega⟩

set_option maxHeartbeats 4000000 in
theorem walk (a0 : Option Addr) (len0 cap0 : Nat) (z0 : List Int) (a1 : Option Addr) (len1 cap1 : Nat) (z1 : List Int) (b m : Int) (w : World) (s0 : Sl w a0 len0 z0) (c0 : len0 ≤ cap0) (r0 : cap0 ≤ 17592186043904) (s1 : Sl w a1 len1 z1) (c1 : len1 ≤ cap1) (r1 : cap1 ≤ 17592186043904) (hb : Word b) (hm : Word m) :
    Calls Try.prog 8 #[.slice a0 len0 cap0, .slice a1 len1 cap1, .int .u64 b, .int .u64 m] w fun e w' => e = .returned (.bool true) ∧ Below w.heap.size w w' := by
  have L0 := s0.2.1; have L1 := s1.2.1
  have hu0 : usedN z0 ≤ len0 := by have := usedN_le z0; have := s0.1; omega
  have hu1 : usedN z1 ≤ len1 := by have := usedN_le z1; have := s1.1; omega
  have n0 := num_nonneg L0; have n1 := num_nonneg L1
  have B : Below w.heap.size w w := Below.refl _ _
  go_enter Try.func8, Try.ntmps8
  go_wp2_with fail
  refine (plus_any a0 a1 len0 cap0 len1 cap1 z0 z1 _ s0 s1 (by omega) (by omega) c0).mono ?_
  rintro e w1 ⟨g1, m1, k1, zs1, rfl, -, hk1, hm1, t1, hu, hn, hb1⟩
  have N1 : Hid (num zs1 = num z0 + num z1) := hn
  have U1 : Hid (usedN zs1 = m1) := hu
  have hm1' : m1 ≤ 17592186043905 := by omega
  clear hn hu hm1
  replace s0 := s0.below hb1 (Nat.le_refl _)
  replace s1 := s1.below hb1 (Nat.le_refl _)
  replace B := step B hb1
  clear hb1
  go_wp2_with fail
  refine (plus_any a1 a0 len1 cap1 len0 cap0 z1 z0 _ s1 s0 (by omega) (by omega) c1).mono ?_
  rintro e w2 ⟨g2, m2, k2, zs2, rfl, -, hk2, hm2, t2, hu, hn, hb2⟩
  obtain ⟨e1, e2⟩ := one_list t2.2.1 t1.2.1 t2.1 hu (by rw [hn, N1.out]; omega)
  rw [U1.out] at e1 e2
  have e3 : zs1.take m1 = zs1 := List.take_of_length_le (by have := t1.1; omega)
  rw [e3] at e2
  subst e1 e2
  clear hu hn hm2 e3
  replace s0 := s0.below hb2 (Nat.le_refl _)
  replace s1 := s1.below hb2 (Nat.le_refl _)
  replace t1 := t1.below hb2 (Nat.le_refl _)
  replace B := step B hb2
  clear hb2
  go_wp2_with fail
  refine (less_ok (some ⟨g1, 0, none⟩) a1 m2 k1 len1 cap1 zs2 z1 _ t1 s1 (by omega) (by omega) hk1 (by rw [N1.out]; omega)).mono ?_
  rintro e w3 ⟨g3, m3, k3, zs3, rfl, -, hk3, hm3, t3, hu, hn, hb3⟩
  obtain ⟨e1, e2⟩ := one_list t3.2.1 L0 t3.1 hu (by rw [hn, N1.out]; omega)
  subst e1 e2
  clear hu hn hm3
  replace s0 := s0.below hb3 (Nat.le_refl _)
  replace s1 := s1.below hb3 (Nat.le_refl _)
  replace t1 := t1.below hb3 (Nat.le_refl _)
  replace t2 := t2.below hb3 (Nat.le_refl _)
  replace B := step B hb3
  clear hb3
  go_wp2_with fail
  refine (less_ok (some ⟨g1, 0, none⟩) a0 m2 k1 len0 cap0 zs2 z0 _ t1 s0 (by omega) (by omega) hk1 (by rw [N1.out]; omega)).mono ?_
  rintro e w4 ⟨g4, m4, k4, zs4, rfl, -, hk4, hm4, t4, hu, hn, hb4⟩
  obtain ⟨e1, e2⟩ := one_list t4.2.1 L1 t4.1 hu (by rw [hn, N1.out]; omega)
  subst e1 e2
  clear hu hn hm4
  replace s0 := s0.below hb4 (Nat.le_refl _)
  replace s1 := s1.below hb4 (Nat.le_refl _)
  replace t1 := t1.below hb4 (Nat.le_refl _)
  replace t2 := t2.below hb4 (Nat.le_refl _)
  replace t3 := t3.below hb4 (Nat.le_refl _)
  replace B := step B hb4
  clear hb4
  go_wp2_with fail
  refine (trimmed_any (some ⟨g1, 0, none⟩) m2 k1 zs2 _ t1 (by omega) U1.out).mono ?_
  rintro e w5 ⟨rfl, rfl⟩
  go_wp2_with fail
  refine (same_b (some ⟨g1, 0, none⟩) (some ⟨g2, 0, none⟩) m2 k1 k2 zs2 _ t1 t2 (by omega)).mono ?_
  rintro e w6 ⟨rfl, hb6⟩
  replace s0 := s0.below hb6 (Nat.le_refl _)
  replace s1 := s1.below hb6 (Nat.le_refl _)
  replace t1 := t1.below hb6 (Nat.le_refl _)
  replace t2 := t2.below hb6 (Nat.le_refl _)
  replace t3 := t3.below hb6 (Nat.le_refl _)
  replace t4 := t4.below hb6 (Nat.le_refl _)
  replace B := step B hb6
  clear hb6
  go_wp2_with fail
  clear t2
  refine (trim_b a0 len0 cap0 z0 _ s0 (by omega) c0).mono ?_
  rintro e w7 ⟨g7, rfl, t7, hb7⟩
  replace s0 := s0.below hb7 (Nat.le_refl _)
  replace s1 := s1.below hb7 (Nat.le_refl _)
  replace t1 := t1.below hb7 (Nat.le_refl _)
  replace t3 := t3.below hb7 (Nat.le_refl _)
  replace t4 := t4.below hb7 (Nat.le_refl _)
  replace B := step B hb7
  clear hb7
  go_wp2_with fail
  refine (same_b (some ⟨g3, 0, none⟩) (some ⟨g7, 0, none⟩) (usedN z0) k3 (usedN z0) _ _ t3 t7 (by omega)).mono ?_
  rintro e w8 ⟨rfl, hb8⟩
  replace s0 := s0.below hb8 (Nat.le_refl _)
  replace s1 := s1.below hb8 (Nat.le_refl _)
  replace t1 := t1.below hb8 (Nat.le_refl _)
  replace t3 := t3.below hb8 (Nat.le_refl _)
  replace t4 := t4.below hb8 (Nat.le_refl _)
  replace t7 := t7.below hb8 (Nat.le_refl _)
  replace B := step B hb8
  clear hb8
  go_wp2_with fail
  clear t7 t3
  refine (trim_b a1 len1 cap1 z1 _ s1 (by omega) c1).mono ?_
  rintro e w9 ⟨g9, rfl, t9, hb9⟩
  replace s0 := s0.below hb9 (Nat.le_refl _)
  replace s1 := s1.below hb9 (Nat.le_refl _)
  replace t1 := t1.below hb9 (Nat.le_refl _)
  replace t4 := t4.below hb9 (Nat.le_refl _)
  replace B := step B hb9
  clear hb9
  go_wp2_with fail
  refine (same_b (some ⟨g4, 0, none⟩) (some ⟨g9, 0, none⟩) (usedN z1) k4 (usedN z1) _ _ t4 t9 (by omega)).mono ?_
  rintro e w10 ⟨rfl, hb10⟩
  replace s0 := s0.below hb10 (Nat.le_refl _)
  replace s1 := s1.below hb10 (Nat.le_refl _)
  replace t1 := t1.below hb10 (Nat.le_refl _)
  replace t4 := t4.below hb10 (Nat.le_refl _)
  replace t9 := t9.below hb10 (Nat.le_refl _)
  replace B := step B hb10
  clear hb10
  go_wp2_with fail
  clear t9 t4
  refine (compare_b (some ⟨g1, 0, none⟩) a0 m2 k1 len0 cap0 zs2 z0 _ t1 s0 (by omega) (by omega)).mono ?_
  rintro e w11 ⟨rfl, hb11⟩
  rw [N1.out]
  have q1 := cmp_sum (x := num z0) n1
  have q2 := cmp_sum0 (x := num z0) n1
  have q3 := bits0 L1
  obtain ⟨cc, hcc⟩ : ∃ c, cmp3 (num z0 + num z1) (num z0) = c := ⟨_, rfl⟩
  rw [hcc] at q1 q2 ⊢
  obtain ⟨yy, hyy⟩ : ∃ c, (num z1 == 0) = c := ⟨_, rfl⟩
  rw [hyy] at q2 q3
  have HC : Hid (cmp3 (num z0 + num z1) (num z0) = cc) := hcc
  clear hcc hyy
  replace s0 := s0.below hb11 (Nat.le_refl _)
  replace s1 := s1.below hb11 (Nat.le_refl _)
  replace t1 := t1.below hb11 (Nat.le_refl _)
  replace B := step B hb11
  clear hb11
  go_wp2_with fail
  refine (compare_b (some ⟨g1, 0, none⟩) a0 m2 k1 len0 cap0 zs2 z0 _ t1 s0 (by omega) (by omega)).mono ?_
  rintro e w12 ⟨rfl, hb12⟩
  rw [N1.out, HC.out]
  replace s0 := s0.below hb12 (Nat.le_refl _)
  replace s1 := s1.below hb12 (Nat.le_refl _)
  replace t1 := t1.below hb12 (Nat.le_refl _)
  replace B := step B hb12
  clear hb12
  go_wp2_with fail
  clear t1
  refine (bits_any a1 len1 cap1 z1 _ s1 (by omega)).mono ?_
  rintro e w13 ⟨rfl, rfl⟩
  obtain ⟨bb, hbb⟩ : ∃ c, bitsN z1 = c := ⟨_, rfl⟩
  rw [hbb] at q3 ⊢
  clear hbb s1
  by_cases hb0 : b = 0
  · go_wp2_with fail
    refine (times_any a0 len0 cap0 z0 0 m _ s0 (by omega) c0 ⟨by omega, by omega⟩ hm).mono ?_
    rintro e w14 ⟨g5, m5, k5, zs5, rfl, -, hk5, hm5, t5, hu, hn, hb5⟩
    replace B := step B hb5
    clear hb5 s0
    rw [Int.mul_zero, Int.zero_add] at hn
    go_wp2_with fail
    have t6 := sl_one w14 m hm
    have hbx : Below w14.heap.size w14 (w14.alloc (.cells #[.int .u64 m] 26)) := (Below.refl _ _).alloc (Nat.le_refl _) _
    refine (trim_b (some ⟨w14.heap.size, 0, none⟩) 1 1 [m] _ t6 (by omega) (by omega)).mono ?_
    rintro e w15 ⟨g6, rfl, t7, hb7⟩
    have hb8 := step hbx hb7
    replace B := step B hb8
    replace t5 := t5.below hb8 (Nat.le_refl _)
    obtain ⟨e1, e2⟩ := one_list (xs := [m]) t5.2.1 t6.2.1 t5.1 hu (by rw [hn]; simp [num])
    subst e1 e2
    clear hb7 hb8 hbx t6 hn hu
    have hu6 := usedN_le [m]
    go_wp2_with fail
    refine (same_b (some ⟨g5, 0, none⟩) (some ⟨g6, 0, none⟩) (usedN [m]) k5 (usedN [m]) _ _ t5 t7 (by simp at hu6; omega)).mono ?_
    rintro e w16 ⟨rfl, hb9⟩
    replace B := step B hb9
    go_wp2_with fail
    go_ret
    exact ⟨rfl, B⟩
  · have hbp : 0 < b := by have := hb.1; omega
    have gb : (b == 0) = false := by simp [hb0]
    have hr0 := Int.emod_nonneg m hb0
    have hr1 := Int.emod_lt_of_pos m hbp
    obtain ⟨r, hr⟩ : ∃ r, m % b = r := ⟨_, rfl⟩
    rw [hr] at hr0 hr1
    have hrw : Word r := ⟨hr0, by have := hb.2; omega⟩
    have hm0 := hm.1
    have hrt : m.tmod b = r := by rw [← hr, Int.tmod_eq_emod_of_nonneg hm0]
    have gr : (r != r) = false := by simp
    clear hb0
    go_wp2_with fail
    refine (times_any a0 len0 cap0 z0 b r _ s0 (by omega) c0 hb hrw).mono ?_
    rintro e w14 ⟨g5, m5, k5, zs5, rfl, -, hk5, hm5, t5, hu, hn, hb5⟩
    have N5 : Hid (num zs5 = num z0 * b + r) := hn
    have U5 : Hid (usedN zs5 = m5) := hu
    clear hn hu
    replace s0 := s0.below hb5 (Nat.le_refl _)
    replace B := step B hb5
    clear hb5
    go_wp2_with fail
    refine (over_ok (some ⟨g5, 0, none⟩) m5 k5 zs5 b _ t5 (by omega) hk5 hb hbp).mono ?_
    rintro e w15 ⟨g6, m6, k6, zs6, r6, rfl, -, hk6, hm6, t6, hu, hn, hq0, hq1, hb6⟩
    obtain ⟨e3, e4⟩ := div_back hr0 hr1 hq0 hq1 (N5.out.symm.trans hn)
    obtain ⟨e1, e2⟩ := one_list t6.2.1 L0 t6.1 hu e3
    subst e1 e2 e4
    clear hu hn e3 hq0 hq1
    replace s0 := s0.below hb6 (Nat.le_refl _)
    replace t5 := t5.below hb6 (Nat.le_refl _)
    replace B := step B hb6
    clear hb6
    go_wp2_with fail
    refine (trimmed_any (some ⟨g5, 0, none⟩) m5 k5 zs5 _ t5 (by omega) U5.out).mono ?_
    rintro e w16 ⟨rfl, rfl⟩
    clear t5
    go_wp2_with fail
    refine (trim_b a0 len0 cap0 z0 _ s0 (by omega) c0).mono ?_
    rintro e w17 ⟨g7, rfl, t7, hb7⟩
    replace s0 := s0.below hb7 (Nat.le_refl _)
    replace t6 := t6.below hb7 (Nat.le_refl _)
    replace B := step B hb7
    clear hb7
    go_wp2_with fail
    refine (same_b (some ⟨g6, 0, none⟩) (some ⟨g7, 0, none⟩) (usedN z0) k6 (usedN z0) _ _ t6 t7 (by omega)).mono ?_
    rintro e w18 ⟨rfl, hb8⟩
    replace s0 := s0.below hb8 (Nat.le_refl _)
    replace B := step B hb8
    clear hb8 t6 t7
    go_wp2_with fail
    refine (over_ok a0 len0 cap0 z0 b _ s0 (by omega) c0 hb hbp).mono ?_
    rintro e w19 ⟨g8, m8, k8, zs8, r8, rfl, -, hk8, hm8, t8, hu, hn, hq0, hq1, hb9⟩
    have N8 : Hid (num z0 = num zs8 * b + r8) := hn
    have U8 : Hid (usedN zs8 = m8) := hu
    clear hn hu
    replace s0 := s0.below hb9 (Nat.le_refl _)
    replace B := step B hb9
    clear hb9
    go_wp2_with fail
    refine (trimmed_any (some ⟨g8, 0, none⟩) m8 k8 zs8 _ t8 (by omega) U8.out).mono ?_
    rintro e w20 ⟨rfl, rfl⟩
    go_wp2_with fail
    refine (times_any (some ⟨g8, 0, none⟩) m8 k8 zs8 b r8 _ t8 (by omega) hk8 hb ⟨hq0, by have := hb.2; omega⟩).mono ?_
    rintro e w21 ⟨g9, m9, k9, zs9, rfl, -, hk9, hm9, t9, hu, hn, hb10⟩
    obtain ⟨e1, e2⟩ := one_list t9.2.1 L0 t9.1 hu (hn.trans N8.out.symm)
    subst e1 e2
    clear hu hn t8
    replace s0 := s0.below hb10 (Nat.le_refl _)
    replace B := step B hb10
    clear hb10
    go_wp2_with fail
    refine (trim_b a0 len0 cap0 z0 _ s0 (by omega) c0).mono ?_
    rintro e w22 ⟨g10, rfl, t10, hb11⟩
    replace t9 := t9.below hb11 (Nat.le_refl _)
    replace B := step B hb11
    clear hb11
    go_wp2_with fail
    refine (same_b (some ⟨g9, 0, none⟩) (some ⟨g10, 0, none⟩) (usedN z0) k9 (usedN z0) _ _ t9 t10 (by omega)).mono ?_
    rintro e w23 ⟨rfl, hb12⟩
    replace B := step B hb12
    go_wp2_with fail
    go_ret
    exact ⟨rfl, B⟩
end Go.Proofs.Ytkgbhiccjbnldaa.limbBack
