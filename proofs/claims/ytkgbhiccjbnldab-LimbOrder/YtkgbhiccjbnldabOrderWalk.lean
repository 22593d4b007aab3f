/-
  The walk of LimbOrder: each call by its contract.
-/
import Derived.Test.YtkgbhiccjbnldabAwake
namespace Go.Proofs.Ytkgbhiccjbnldab.limbOrder
open Go.RowKit Go.Shelf

theorem by_bits {xs ys : List Int} (hx : Limbs xs) (hy : Limbs ys) (h : bitsN ys < bitsN xs) : num ys < num xs := by
  rcases Nat.eq_zero_or_pos (usedN xs) with h0 | h0
  · rw [bits_nought h0] at h
    rcases Nat.eq_zero_or_pos (usedN ys) with h1 | h1
    · rw [bits_nought h1] at h; omega
    · have := bits_pos hy h1; omega
  · obtain ⟨k, e, k1, k2⟩ := bits_spec hx h0
    rcases Nat.eq_zero_or_pos (usedN ys) with h1 | h1
    · rw [(num_eq_zero hy).2 h1]; have := p2_pos k; omega
    · obtain ⟨j, e', j1, j2⟩ := bits_spec hy h1
      have := p2_mono (show j + 1 ≤ k by omega)
      omega
theorem same_bits {xs ys : List Int} (hx : Limbs xs) (hy : Limbs ys) (h : num xs = num ys) : bitsN xs = bitsN ys := by
  rcases Int.lt_trichotomy (bitsN xs) (bitsN ys) with h' | h' | h'
  · have := by_bits hy hx h'; omega
  · exact h'
  · have := by_bits hx hy h'; omega
theorem cases_of {xs ys : List Int} (hx : Limbs xs) (hy : Limbs ys) :
    (bitsN ys < bitsN xs ∧ cmp3 (num xs) (num ys) = 1) ∨ (bitsN xs < bitsN ys ∧ cmp3 (num xs) (num ys) = -1) ∨ (bitsN xs = bitsN ys ∧ cmp3 (num xs) (num ys) = 0) ∨ (bitsN xs = bitsN ys ∧ cmp3 (num xs) (num ys) = 1) ∨ (bitsN xs = bitsN ys ∧ cmp3 (num xs) (num ys) = -1) := by
  rcases Int.lt_trichotomy (bitsN xs) (bitsN ys) with h | h | h
  · exact .inr (.inl ⟨h, cmp3_lt (by_bits hy hx h)⟩)
  · rcases Int.lt_trichotomy (num xs) (num ys) with h' | h' | h'
    · exact .inr (.inr (.inr (.inr ⟨h, cmp3_lt h'⟩)))
    · exact .inr (.inr (.inl ⟨h, cmp3_eq h'⟩))
    · exact .inr (.inr (.inr (.inl ⟨h, cmp3_gt h'⟩)))
  · exact .inl ⟨h, cmp3_gt (by_bits hx hy h)⟩
theorem bitsN_top {xs : List Int} (h : Limbs xs) (len : Nat) (hl : usedN xs ≤ len) : 0 ≤ bitsN xs ∧ bitsN xs ≤ 64 * (len : Int) := by
  rcases Nat.eq_zero_or_pos (usedN xs) with h0 | h0
  · rw [bits_nought h0]; omega
  · have := bitsN_bd h h0; omega

set_option maxHeartbeats 4000000 in
theorem walk (a0 : Option Addr) (len0 cap0 : Nat) (z0 : List Int) (a1 : Option Addr) (len1 cap1 : Nat) (z1 : List Int) (w : World) (s0 : Sl w a0 len0 z0) (c0 : len0 ≤ cap0) (r0 : cap0 ≤ 17592186043904) (s1 : Sl w a1 len1 z1) (c1 : len1 ≤ cap1) (r1 : cap1 ≤ 17592186043904) :
    Calls Try.prog 5 #[.slice a0 len0 cap0, .slice a1 len1 cap1] w fun e w' => e = .returned (.bool true) ∧ Below w.heap.size w w' := by
  have L0 := s0.2.1; have L1 := s1.2.1
  have hu0 : usedN z0 ≤ len0 := by have := usedN_le z0; have := s0.1; omega
  have hu1 : usedN z1 ≤ len1 := by have := usedN_le z1; have := s1.1; omega
  have B : Below w.heap.size w w := Below.refl _ _
  have hcase := cases_of L0 L1
  have hturn := cmp3_turn (num z0) (num z1)
  have hself := cmp3_self (num z0)
  obtain ⟨cc1, cc2⟩ := cmp3_bd (num z0) (num z1)
  have hbi := bitsN_top L0 len0 hu0
  have hbk := bitsN_top L1 len1 hu1
  have hti := num_take_used z0 (Nat.le_refl _)
  have htk := num_take_used z1 (Nat.le_refl _)
  have HTI : Hid (num (z0.take (usedN z0)) = num z0) := hti
  have HTK : Hid (num (z1.take (usedN z1)) = num z1) := htk
  obtain ⟨c, hc⟩ : ∃ c, cmp3 (num z0) (num z1) = c := ⟨_, rfl⟩
  rw [hc] at hcase hturn cc1 cc2
  have HC : Hid (cmp3 (num z0) (num z1) = c) := hc
  have HT : Hid (cmp3 (num z1) (num z0) = -c) := hturn
  have HS : Hid (cmp3 (num z0) (num z0) = 0) := hself
  obtain ⟨i, hi⟩ : ∃ i, bitsN z0 = i := ⟨_, rfl⟩
  obtain ⟨k, hk⟩ : ∃ k, bitsN z1 = k := ⟨_, rfl⟩
  rw [hi, hk] at hcase
  rw [hi] at hbi
  rw [hk] at hbk
  have HI : Hid (bitsN z0 = i) := hi
  have HK : Hid (bitsN z1 = k) := hk
  obtain ⟨bi1, bi2⟩ := hbi
  obtain ⟨bk1, bk2⟩ := hbk
  have HCASE : Hid ((k < i ∧ c = 1) ∨ (i < k ∧ c = -1) ∨ (i = k ∧ c = 0) ∨ (i = k ∧ c = 1) ∨ (i = k ∧ c = -1)) := hcase
  have g1 : (-c != -c) = false := by simp
  have g2 : (c != c) = false := by simp
  clear hc hturn hself hi hk hcase hti htk
  go_enter Try.func5, Try.ntmps5
  go_wp2_with fail
  refine (compare_b a0 a1 len0 cap0 len1 cap1 z0 z1 _ s0 s1 (by omega) (by omega)).mono ?_
  rintro e w1 ⟨rfl, hb1⟩
  rw [HC.out]
  replace s0 := s0.below hb1 (Nat.le_refl _)
  replace s1 := s1.below hb1 (Nat.le_refl _)
  replace B := step B hb1
  clear hb1
  go_wp2_with fail
  refine (compare_b a1 a0 len1 cap1 len0 cap0 z1 z0 _ s1 s0 (by omega) (by omega)).mono ?_
  rintro e w2 ⟨rfl, hb2⟩
  rw [HT.out]
  replace s0 := s0.below hb2 (Nat.le_refl _)
  replace s1 := s1.below hb2 (Nat.le_refl _)
  replace B := step B hb2
  clear hb2
  go_wp2_with fail
  refine (trim_b a0 len0 cap0 z0 _ s0 (by omega) c0).mono ?_
  rintro e w3 ⟨g3, rfl, t3, hb3⟩
  replace s0 := s0.below hb3 (Nat.le_refl _)
  replace s1 := s1.below hb3 (Nat.le_refl _)
  replace B := step B hb3
  clear hb3
  go_wp2_with fail
  refine (compare_b (some ⟨g3, 0, none⟩) a1 (usedN z0) (usedN z0) len1 cap1 _ z1 _ t3 s1 (by omega) (by omega)).mono ?_
  rintro e w4 ⟨rfl, hb4⟩
  rw [HTI.out, HC.out]
  replace s0 := s0.below hb4 (Nat.le_refl _)
  replace s1 := s1.below hb4 (Nat.le_refl _)
  replace B := step B hb4
  clear hb4
  go_wp2_with fail
  clear t3
  refine (trim_b a1 len1 cap1 z1 _ s1 (by omega) c1).mono ?_
  rintro e w5 ⟨g5, rfl, t5, hb5⟩
  replace s0 := s0.below hb5 (Nat.le_refl _)
  replace s1 := s1.below hb5 (Nat.le_refl _)
  replace B := step B hb5
  clear hb5
  go_wp2_with fail
  refine (compare_b a0 (some ⟨g5, 0, none⟩) len0 cap0 (usedN z1) (usedN z1) z0 _ _ s0 t5 (by omega) (by omega)).mono ?_
  rintro e w6 ⟨rfl, hb6⟩
  rw [HTK.out, HC.out]
  replace s0 := s0.below hb6 (Nat.le_refl _)
  replace s1 := s1.below hb6 (Nat.le_refl _)
  replace B := step B hb6
  clear hb6
  go_wp2_with fail
  clear t5
  refine (compare_b a0 a0 len0 cap0 len0 cap0 z0 z0 _ s0 s0 (by omega) (by omega)).mono ?_
  rintro e w7 ⟨rfl, hb7⟩
  rw [HS.out]
  replace s0 := s0.below hb7 (Nat.le_refl _)
  replace s1 := s1.below hb7 (Nat.le_refl _)
  replace B := step B hb7
  clear hb7
  go_wp2_with fail
  refine (bits_any a0 len0 cap0 z0 _ s0 (by omega)).mono ?_
  rintro e w8 ⟨rfl, rfl⟩
  rw [HI.out]
  go_wp2_with fail
  refine (bits_any a1 len1 cap1 z1 _ s1 (by omega)).mono ?_
  rintro e w9 ⟨rfl, rfl⟩
  rw [HK.out]
  clear s1 HK HC HT HS HTI HTK
  rcases HCASE.out with ⟨x1, rfl⟩ | ⟨x1, rfl⟩ | ⟨rfl, rfl⟩ | ⟨rfl, rfl⟩ | ⟨rfl, rfl⟩
  all_goals
    clear HCASE g1 g2
    go_wp2_with fail
    refine (trim_b a0 len0 cap0 z0 _ s0 (by omega) c0).mono ?_
    rintro e w10 ⟨g10, rfl, t10, hb10⟩
    replace s0 := s0.below hb10 (Nat.le_refl _)
    replace B := step B hb10
    clear hb10
    go_wp2_with fail
    refine (trimmed_any (some ⟨g10, 0, none⟩) (usedN z0) (usedN z0) _ _ t10 (by omega) (usedN_take z0 (Nat.le_refl _))).mono ?_
    rintro e w11 ⟨rfl, rfl⟩
    clear t10
    by_cases h0 : i = 0
    · have q0 : (i == 0) = true := by simp [h0]
      clear h0
      go_wp2_with fail
      refine (awake_any _).mono ?_
      rintro e w12 ⟨rfl, hb12⟩
      replace B := step B hb12
      go_wp2_with fail
      go_ret
      exact ⟨rfl, B⟩
    · have q0 : (i == 0) = false := by simp [h0]
      by_cases hbig : 262143 < i
      · go_wp2_with fail
        refine (awake_any _).mono ?_
        rintro e w12 ⟨rfl, hb12⟩
        replace B := step B hb12
        go_wp2_with fail
        go_ret
        exact ⟨rfl, B⟩
      · have hup : 0 < usedN z0 := by
          rcases Nat.eq_zero_or_pos (usedN z0) with h | h
          · exact absurd (HI.out.symm.trans (bits_nought h)) h0
          · exact h
        obtain ⟨j, e1, j1, j2⟩ := bits_spec L0 hup
        rw [HI.out] at e1
        have J1 : Hid ((2 : Int) ^ j ≤ num z0) := j1
        have J2 : Hid (num z0 < (2 : Int) ^ (j + 1)) := j2
        have hj : j ≤ 262142 := by omega
        have E1 : Hid (i = (j : Int) + 1) := e1
        have E2 : Hid (i - 1 = (j : Int)) := by show i - 1 = (j : Int); omega
        have b1 : Hid (bitsN [1] = 1) := by show bitsN [1] = 1; decide +kernel
        clear e1 j1 j2
        go_wp2_with fail
        rw [E2.out]
        have t20 := sl_new w11 [1] (limbs_of _ (by decide))
        refine (left_val (some ⟨w11.heap.size, 0, none⟩) 1 1 [1] j _ t20 (by omega) (by omega) (.inr (by rw [b1.out]; omega))).mono ?_
        rintro e w12 ⟨a12, m12, k12, zs12, rfl, -, hm12, t12, -, hn, hb12⟩
        have N12 : Hid (num zs12 = 2 ^ j) := by show num zs12 = 2 ^ j; rw [hn]; simp [num]
        have hb13 := step ((Below.refl w11.heap.size w11).alloc (Nat.le_refl _) (.cells (row [1]).toArray 22)) hb12
        replace s0 := s0.below hb13 (Nat.le_refl _)
        replace B := step B hb13
        clear hb12 hb13 t20 hn
        go_wp2_with fail
        rw [E1.out]
        have t21 := sl_new w12 [1] (limbs_of _ (by decide))
        have LV := left_val (some ⟨w12.heap.size, 0, none⟩) 1 1 [1] (j + 1) _ t21 (by omega) (by omega) (.inr (by rw [b1.out]; omega))
        rw [show ((j + 1 : Nat) : Int) = (j : Int) + 1 by omega] at LV
        refine LV.mono ?_
        rintro e w14 ⟨a14, m14, k14, zs14, rfl, -, hm14, t14, -, hn, hb14⟩
        have N14 : Hid (num zs14 = 2 ^ (j + 1)) := by show num zs14 = 2 ^ (j + 1); rw [hn]; simp [num]
        have hb15 := step ((Below.refl w12.heap.size w12).alloc (Nat.le_refl _) (.cells (row [1]).toArray 22)) hb14
        replace s0 := s0.below hb15 (Nat.le_refl _)
        replace t12 := t12.below hb15 (Nat.le_refl _)
        replace B := step B hb15
        clear hb14 hb15 t21 hn LV
        go_wp2_with fail
        refine (awake_any _).mono ?_
        rintro e w16 ⟨rfl, hb16⟩
        replace s0 := s0.below hb16 (Nat.le_refl _)
        replace t12 := t12.below hb16 (Nat.le_refl _)
        replace t14 := t14.below hb16 (Nat.le_refl _)
        replace B := step B hb16
        clear hb16
        go_wp2_with fail
        refine (compare_b a0 a12 len0 cap0 m12 k12 z0 zs12 _ s0 t12 (by omega) (by omega)).mono ?_
        rintro e w17 ⟨rfl, hb17⟩
        have q1 : 0 ≤ cmp3 (num z0) (num zs12) := by
          have := cmp3_neg_iff (num z0) (num zs12)
          have := J1.out
          have := N12.out
          omega
        obtain ⟨d1, hd1⟩ : ∃ d, cmp3 (num z0) (num zs12) = d := ⟨_, rfl⟩
        rw [hd1] at q1 ⊢
        clear hd1
        replace s0 := s0.below hb17 (Nat.le_refl _)
        replace t14 := t14.below hb17 (Nat.le_refl _)
        replace B := step B hb17
        clear hb17 t12
        go_wp2_with fail
        refine (compare_b a0 a14 len0 cap0 m14 k14 z0 zs14 _ s0 t14 (by omega) (by omega)).mono ?_
        rintro e w18 ⟨rfl, hb18⟩
        have q2 : cmp3 (num z0) (num zs14) < 0 := by
          have := cmp3_neg_iff (num z0) (num zs14)
          have := J2.out
          have := N14.out
          omega
        obtain ⟨d2, hd2⟩ : ∃ d, cmp3 (num z0) (num zs14) = d := ⟨_, rfl⟩
        rw [hd2] at q2 ⊢
        clear hd2
        replace B := step B hb18
        go_wp2_with fail
        go_ret
        exact ⟨rfl, B⟩
end Go.Proofs.Ytkgbhiccjbnldab.limbOrder
