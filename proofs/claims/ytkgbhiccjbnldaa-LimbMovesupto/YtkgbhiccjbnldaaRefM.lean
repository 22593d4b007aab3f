/-
  The document's answers for lists of limbs: Trim, Plus, Compare, Less, Times, Bits.
-/
import Derived.Test.YtkgbhiccjbnldaaRefL
import Derived.Test.YtkgbhiccjbnldaaRef7
import Derived.Test.YtkgbhiccjbnldaaUni2
namespace Go.Proofs.Ytkgbhiccjbnldaa
open Go.RowKit Go.Shelf

theorem rtrim_any (a : Option Addr) (la ca : Nat) (zs : List Int) (w : World) (h : Sl w a la zs) (hl : la ≤ 8000000000000) :
    Calls Try.prog 31 #[.slice a la ca] w fun e w' => LRes w w' e (num zs) (2 * la) := by
  go_enter Try.func31, Try.ntmps31
  go_wp2_with fail
  refine (digits_any a la ca zs _ h hl).mono ?_
  rintro e w1 ⟨a1, m1, c1, d1, rfl, k1, l1, t1, L1, -, n1, b1⟩
  have N1 : Hid (H.num d1 = num zs) := n1
  clear n1
  go_wp2_with fail
  refine (limbsr_any a1 m1 c1 d1 _ t1 L1 (by omega)).mono ?_
  rintro e w2 ⟨a2, m2, c2, d2, rfl, k2, l2, t2, u2, n2, b2⟩
  have N2 : Hid (num d2 = num zs) := n2.trans N1.out
  clear n2
  go_wp2_with fail
  go_ret
  exact ⟨a2, m2, c2, d2, rfl, k2, by omega, t2, u2, N2.out, step b1 b2⟩

theorem rplus_any (a b : Option Addr) (la ca lb cb : Nat) (xs ys : List Int) (w : World) (ha : Sl w a la xs) (hb : Sl w b lb ys) (h1 : la ≤ 8000000000000) (h2 : lb ≤ 8000000000000) :
    Calls Try.prog 25 #[.slice a la ca, .slice b lb cb] w fun e w' => LRes w w' e (num xs + num ys) (2 * max la lb + 1) := by
  go_enter Try.func25, Try.ntmps25
  go_wp2_with fail
  refine (digits_any a la ca xs _ ha h1).mono ?_
  rintro e w1 ⟨a1, m1, c1, d1, rfl, k1, l1, t1, L1, -, n1, b1⟩
  replace hb := hb.below b1 (Nat.le_refl _)
  have N1 : Hid (H.num d1 = num xs) := n1
  clear n1
  go_wp2_with fail
  refine (digits_any b lb cb ys _ hb h2).mono ?_
  rintro e w2 ⟨a2, m2, c2, d2, rfl, k2, l2, t2, L2, -, n2, b2⟩
  replace t1 := t1.below b2 (Nat.le_refl _)
  have B2 := step b1 b2
  have N2 : Hid (H.num d2 = num ys) := n2
  clear n2 b1 b2
  go_wp2_with fail
  refine (sum_any a1 a2 m1 c1 m2 c2 d1 d2 _ t1 t2 L1 L2 (by omega) (by omega)).mono ?_
  rintro e w3 ⟨a3, m3, c3, d3, rfl, k3, l3, t3, L3, -, n3, b3⟩
  have B3 := step B2 b3
  have N3 : Hid (H.num d3 = num xs + num ys) := by show _ = _; rw [n3, N1.out, N2.out]
  clear n3 b3 t1 t2 B2
  go_wp2_with fail
  refine (limbsr_any a3 m3 c3 d3 _ t3 L3 (by omega)).mono ?_
  rintro e w4 ⟨a4, m4, c4, d4, rfl, k4, l4, t4, u4, n4, b4⟩
  have N4 : Hid (num d4 = num xs + num ys) := n4.trans N3.out
  clear n4
  go_wp2_with fail
  go_ret
  exact ⟨a4, m4, c4, d4, rfl, k4, by omega, t4, u4, N4.out, step B3 b4⟩

theorem rcompare_any (a b : Option Addr) (la ca lb cb : Nat) (xs ys : List Int) (w : World) (ha : Sl w a la xs) (hb : Sl w b lb ys) (h1 : la ≤ 8000000000000) (h2 : lb ≤ 8000000000000) :
    Calls Try.prog 27 #[.slice a la ca, .slice b lb cb] w fun e w' => e = .returned (.int .i64 (cmp3 (num xs) (num ys))) ∧ Below w.heap.size w w' := by
  go_enter Try.func27, Try.ntmps27
  go_wp2_with fail
  refine (digits_any a la ca xs _ ha h1).mono ?_
  rintro e w1 ⟨a1, m1, c1, d1, rfl, k1, l1, t1, L1, -, n1, b1⟩
  replace hb := hb.below b1 (Nat.le_refl _)
  have N1 : Hid (H.num d1 = num xs) := n1
  clear n1
  go_wp2_with fail
  refine (digits_any b lb cb ys _ hb h2).mono ?_
  rintro e w2 ⟨a2, m2, c2, d2, rfl, k2, l2, t2, L2, -, n2, b2⟩
  replace t1 := t1.below b2 (Nat.le_refl _)
  have B2 := step b1 b2
  have N2 : Hid (H.num d2 = num ys) := n2
  clear n2 b1 b2
  go_wp2_with fail
  refine (order_any a1 a2 m1 c1 m2 c2 d1 d2 _ t1 t2 L1 L2 (by omega) (by omega) k1 k2).mono ?_
  rintro e w3 ⟨rfl, hw⟩
  rw [hw, N1.out, N2.out]
  clear hw
  go_wp2_with fail
  go_ret
  exact ⟨rfl, B2⟩

theorem rless_below (a b : Option Addr) (la ca lb cb : Nat) (xs ys : List Int) (w : World) (ha : Sl w a la xs) (hb : Sl w b lb ys) (h1 : la ≤ 8000000000000) (h2 : lb ≤ 8000000000000) (hlt : num xs < num ys) :
    Calls Try.prog 23 #[.slice a la ca, .slice b lb cb] w fun e w' => e = .returned (.tuple #[.slice none 0 0, .int .i64 6]) ∧ Below w.heap.size w w' := by
  have HC : Hid (cmp3 (num xs) (num ys) = -1) := cmp3_lt hlt
  go_enter Try.func23, Try.ntmps23
  go_wp2_with fail
  refine (digits_any a la ca xs _ ha h1).mono ?_
  rintro e w1 ⟨a1, m1, c1, d1, rfl, k1, l1, t1, L1, -, n1, b1⟩
  replace hb := hb.below b1 (Nat.le_refl _)
  have N1 : Hid (H.num d1 = num xs) := n1
  clear n1
  go_wp2_with fail
  refine (digits_any b lb cb ys _ hb h2).mono ?_
  rintro e w2 ⟨a2, m2, c2, d2, rfl, k2, l2, t2, L2, -, n2, b2⟩
  replace t1 := t1.below b2 (Nat.le_refl _)
  have B2 := step b1 b2
  have N2 : Hid (H.num d2 = num ys) := n2
  clear n2 b1 b2
  go_wp2_with fail
  refine (order_any a1 a2 m1 c1 m2 c2 d1 d2 _ t1 t2 L1 L2 (by omega) (by omega) k1 k2).mono ?_
  rintro e w3 ⟨rfl, hw⟩
  rw [hw, N1.out, N2.out, HC.out]
  clear hw
  go_wp2_with fail
  go_ret2
  exact ⟨rfl, B2⟩
theorem rless_ok (a b : Option Addr) (la ca lb cb : Nat) (xs ys : List Int) (w : World) (ha : Sl w a la xs) (hb : Sl w b lb ys) (h1 : la ≤ 8000000000000) (h2 : lb ≤ 8000000000000) (hle : num ys ≤ num xs) :
    Calls Try.prog 23 #[.slice a la ca, .slice b lb cb] w fun e w' =>
      ∃ a' m c zs, e = .returned (.tuple #[.slice a' m c, .int .i64 0]) ∧ m ≤ c ∧ m ≤ 2 * la ∧ Sl w' a' m zs ∧ usedN zs = m ∧ num zs = num xs - num ys ∧ Below w.heap.size w w' := by
  have hcm : ¬ cmp3 (num xs) (num ys) < 0 := by rw [cmp3_neg_iff]; omega
  obtain ⟨z, hz⟩ : ∃ z, cmp3 (num xs) (num ys) = z := ⟨_, rfl⟩
  rw [hz] at hcm
  have HC : Hid (cmp3 (num xs) (num ys) = z) := hz
  have HLE : Hid (num ys ≤ num xs) := hle
  clear hz hle
  go_enter Try.func23, Try.ntmps23
  go_wp2_with fail
  refine (digits_any a la ca xs _ ha h1).mono ?_
  rintro e w1 ⟨a1, m1, c1, d1, rfl, k1, l1, t1, L1, -, n1, b1⟩
  replace hb := hb.below b1 (Nat.le_refl _)
  have N1 : Hid (H.num d1 = num xs) := n1
  clear n1
  go_wp2_with fail
  refine (digits_any b lb cb ys _ hb h2).mono ?_
  rintro e w2 ⟨a2, m2, c2, d2, rfl, k2, l2, t2, L2, -, n2, b2⟩
  replace t1 := t1.below b2 (Nat.le_refl _)
  have B2 := step b1 b2
  have N2 : Hid (H.num d2 = num ys) := n2
  clear n2 b1 b2
  go_wp2_with fail
  refine (order_any a1 a2 m1 c1 m2 c2 d1 d2 _ t1 t2 L1 L2 (by omega) (by omega) k1 k2).mono ?_
  rintro e w3 ⟨rfl, hw⟩
  rw [hw, N1.out, N2.out, HC.out]
  clear hw
  go_wp2_with fail
  refine (difference_any a1 a2 m1 c1 m2 c2 d1 d2 _ t1 t2 L1 L2 (by omega) (by rw [N1.out, N2.out]; exact HLE.out)).mono ?_
  rintro e w3 ⟨a3, m3, c3, d3, rfl, k3, l3, t3, L3, -, n3, b3⟩
  have B3 := step B2 b3
  have N3 : Hid (H.num d3 = num xs - num ys) := by show _ = _; rw [n3, N1.out, N2.out]
  clear n3 b3 t1 t2 B2
  go_wp2_with fail
  refine (limbsr_any a3 m3 c3 d3 _ t3 L3 (by omega)).mono ?_
  rintro e w4 ⟨a4, m4, c4, d4, rfl, k4, l4, t4, u4, n4, b4⟩
  have N4 : Hid (num d4 = num xs - num ys) := n4.trans N3.out
  clear n4
  go_wp2_with fail
  go_ret2
  exact ⟨a4, m4, c4, d4, rfl, k4, by omega, t4, u4, N4.out, step B3 b4⟩

theorem rtimes_any (a : Option Addr) (la ca : Nat) (xs : List Int) (b m : Int) (w : World) (ha : Sl w a la xs) (h1 : la ≤ 2000000000000) (hb : Word b) (hm : Word m) :
    Calls Try.prog 35 #[.slice a la ca, .int .u64 b, .int .u64 m] w fun e w' => LRes w w' e (num xs * b + m) (2 * la + 4) := by
  go_enter Try.func35, Try.ntmps35
  go_wp2_with fail
  refine (digits_any a la ca xs _ ha (by omega)).mono ?_
  rintro e w1 ⟨a1, m1, c1, d1, rfl, k1, l1, t1, L1, -, n1, b1⟩
  have N1 : Hid (H.num d1 = num xs) := n1
  clear n1
  go_wp2_with fail
  refine (digits1 b hb _).mono ?_
  rintro e w2 ⟨a2, m2, c2, d2, rfl, k2, l2, t2, L2, -, n2, b2⟩
  replace t1 := t1.below b2 (Nat.le_refl _)
  have B2 := step b1 b2
  have N2 : Hid (H.num d2 = b) := n2
  clear n2 b1 b2
  go_wp2_with fail
  refine (product_any a1 a2 m1 c1 m2 c2 d1 d2 _ t1 t2 L1 L2 (by omega) (by omega)).mono ?_
  rintro e w3 ⟨a3, m3, c3, d3, rfl, k3, l3, t3, L3, -, n3, b3⟩
  have B3 := step B2 b3
  have N3 : Hid (H.num d3 = num xs * b) := by show _ = _; rw [n3, N1.out, N2.out]
  clear n3 b3 t1 t2 B2
  go_wp2_with fail
  refine (digits1 m hm _).mono ?_
  rintro e w4 ⟨a4, m4, c4, d4, rfl, k4, l4, t4, L4, -, n4, b4⟩
  replace t3 := t3.below b4 (Nat.le_refl _)
  have B4 := step B3 b4
  have N4 : Hid (H.num d4 = m) := n4
  clear n4 b4 B3
  go_wp2_with fail
  refine (sum_any a3 a4 m3 c3 m4 c4 d3 d4 _ t3 t4 L3 L4 (by omega) (by omega)).mono ?_
  rintro e w5 ⟨a5, m5, c5, d5, rfl, k5, l5, t5, L5, -, n5, b5⟩
  have B5 := step B4 b5
  have N5 : Hid (H.num d5 = num xs * b + m) := by show _ = _; rw [n5, N3.out, N4.out]
  clear n5 b5 t3 t4 B4
  go_wp2_with fail
  refine (limbsr_any a5 m5 c5 d5 _ t5 L5 (by omega)).mono ?_
  rintro e w6 ⟨a6, m6, c6, d6, rfl, k6, l6, t6, u6, n6, b6⟩
  have N6 : Hid (num d6 = num xs * b + m) := n6.trans N5.out
  clear n6
  go_wp2_with fail
  go_ret
  exact ⟨a6, m6, c6, d6, rfl, k6, by omega, t6, u6, N6.out, step B5 b6⟩

theorem Hpw_eq : ∀ n : Nat, H.pw n = 2 ^ (32 * n)
  | 0 => by simp [H.pw]
  | n + 1 => by
    rw [H.pw, Hpw_eq n, Nat.mul_add, Int.pow_add, Int.mul_comm]; rfl
/-- Where the halving stops. -/
def HvInv (d x : Int) (j : Nat) : Prop := x = d / 2 ^ j ∧ (0 < j → 2 ^ (j - 1) ≤ d)
theorem hv_step {d x : Int} {j : Nat} (hd : 0 ≤ d) (I : HvInv d x j) (hx : 0 < x) : HvInv d (x / 2) (j + 1) := by
  obtain ⟨i1, i2⟩ := I
  refine ⟨by rw [i1, Int.pow_succ, Int.ediv_ediv_of_nonneg (Int.le_of_lt (p2_pos _))], fun _ => ?_⟩
  rw [Nat.add_sub_cancel]
  rcases Int.lt_or_le d (2 ^ j) with h | h
  · rw [i1, Int.ediv_eq_zero_of_lt hd h] at hx; omega
  · exact h
theorem hv_end {d x : Int} {j : Nat} (hd : 0 < d) (I : HvInv d x j) (hx : x = 0) : 0 < j ∧ 2 ^ (j - 1) ≤ d ∧ d < 2 ^ j := by
  obtain ⟨i1, i2⟩ := I
  have h1 : d < 2 ^ j := by
    rcases Int.lt_or_le d (2 ^ j) with h | h
    · exact h
    · have := Int.le_ediv_of_mul_le (p2_pos j) (show 1 * 2 ^ j ≤ d by omega)
      omega
  have h0 : 0 < j := by
    rcases Nat.eq_zero_or_pos j with h | h
    · rw [h] at h1; simp at h1; omega
    · exact h
  exact ⟨h0, i2 h0, h1⟩
theorem bits_digits {zs ds : List Int} {m j : Nat} (hz : Limbs zs) (hd : H.Limbs ds) (hl : ds.length = m) (hu : usedN ds = m) (hm : 0 < m) (e : H.num ds = num zs) (h0 : 0 < j) (h1 : 2 ^ (j - 1) ≤ ds.getD (m - 1) 0) (h2 : ds.getD (m - 1) 0 < 2 ^ j) : bitsN zs = 32 * ((m : Int) - 1) + j := by
  have hn := H.num_take_succ ds (m - 1)
  rw [Nat.sub_add_cancel hm, List.take_of_length_le (by omega), Hpw_eq, e] at hn
  have q1 := H.num_nonneg (hd.take (m - 1))
  have q2 := H.num_lt (hd.take (m - 1))
  rw [List.length_take, Nat.min_eq_left (by omega), Hpw_eq] at q2
  have q3 : (2 : Int) ^ (j - 1) * 2 ^ (32 * (m - 1)) ≤ ds.getD (m - 1) 0 * 2 ^ (32 * (m - 1)) := Int.mul_le_mul_of_nonneg_right h1 (Int.le_of_lt (p2_pos _))
  have q4 : (ds.getD (m - 1) 0 + 1) * 2 ^ (32 * (m - 1)) ≤ (2 : Int) ^ j * 2 ^ (32 * (m - 1)) := Int.mul_le_mul_of_nonneg_right (by omega) (Int.le_of_lt (p2_pos _))
  rw [← Int.pow_add] at q3 q4
  rw [Int.add_mul, Int.one_mul] at q4
  have := bits_of hz (k := j - 1 + 32 * (m - 1)) (by omega) (by rw [show j - 1 + 32 * (m - 1) + 1 = j + 32 * (m - 1) by omega]; omega)
  rw [this]; omega

set_option maxHeartbeats 1000000 in
theorem rbits_any (a : Option Addr) (la ca : Nat) (zs : List Int) (w : World) (h : Sl w a la zs) (hl : la ≤ 8000000000000) :
    Calls Try.prog 29 #[.slice a la ca] w fun e w' => e = .returned (.int .i64 (bitsN zs)) ∧ Below w.heap.size w w' := by
  have hLz := h.2.1
  go_enter Try.func29, Try.ntmps29
  go_wp2_with fail
  refine (digits_any a la ca zs _ h hl).mono ?_
  rintro e w1 ⟨a1, m1, c1, d1, rfl, k1, l1, t1, L1, hu1, n1, b1⟩
  have N1 : Hid (H.num d1 = num zs) := n1
  have U1 : Hid (usedN d1 = m1) := hu1
  clear n1 hu1 h
  by_cases h0 : m1 = 0
  · have e0 : Hid (bitsN zs = 0) := bits_nought ((num_eq_zero hLz).1 (by rw [← N1.out]; exact (H.num_eq_zero L1).2 (by rw [U1.out, h0])))
    subst h0
    go_wp2_with fail
    go_ret
    exact ⟨ret_int e0.out.symm, b1⟩
  · obtain ⟨b, o, rfl, hc⟩ := t1.2.2 (by omega)
    have hcx := hc (m1 - 1) (by omega)
    have hd0 := L1.getD (m1 - 1)
    have hne := usedN_top d1 (by rw [U1.out]; omega)
    rw [U1.out] at hne
    have ex : ((m1 : Int) - 1).toNat = m1 - 1 := by omega
    have g1 : ((m1 : Int) == 0) = false := by simp; omega
    have BD : Hid (∀ j : Nat, 0 < j → 2 ^ (j - 1) ≤ d1.getD (m1 - 1) 0 → d1.getD (m1 - 1) 0 < 2 ^ j → bitsN zs = 32 * ((m1 : Int) - 1) + j) :=
      fun j j0 j1 j2 => bits_digits hLz L1 t1.1 U1.out (by omega) N1.out j0 j1 j2
    obtain ⟨d, hd⟩ : ∃ d, d1.getD (m1 - 1) 0 = d := ⟨_, rfl⟩
    rw [hd] at hcx hd0 hne BD
    clear hd hc t1
    have hdp : 0 < d := by omega
    go_wp2_with fail
    go_loop [4, 5] (fun nn xx => ∃ (j : Nat) (x : Int), nn = .int .i64 (32 * ((m1 : Int) - 1) + j) ∧ xx = .int .u64 x ∧ 0 ≤ x ∧ x < 4294967296 ∧ j ≤ 40 ∧ Hid (HvInv d x j)) (fun _ xx => (intOf xx).toNat)
    case atStart => exact ⟨0, d, by simp, rfl, by omega, by omega, by omega, ⟨by simp, fun h => absurd h (by omega)⟩⟩
    case round =>
      obtain ⟨j, x, rfl, rfl, x1, x2, hj, hI⟩ := hrel
      by_cases hx : 0 < x
      · have hs : Hid (HvInv d (x / 2) (j + 1)) := hv_step (by omega) hI.out hx
        have hj2 : j + 1 ≤ 40 := by
          have := hs.out.2 (by omega)
          rcases Nat.lt_or_ge j 33 with h | h
          · omega
          · have h3 := p2_mono (show 33 ≤ j + 1 - 1 by omega)
            have h4 : (2 : Int) ^ 33 = 8589934592 := by decide
            omega
        go_wp2_with fail
        go_round
        case rel => exact ⟨j + 1, x / 2, by rw [show 32 * ((m1 : Int) - 1) + ((j + 1 : Nat) : Int) = 32 * ((m1 : Int) - 1) + j + 1 by omega], rfl, by omega, by omega, hj2, hs⟩
        case measure => simp [intOf]; omega
      · obtain ⟨j0, j1, j2⟩ := hv_end hdp hI.out (by omega)
        have HE : Hid (bitsN zs = 32 * ((m1 : Int) - 1) + j) := BD.out j j0 j1 j2
        clear j0 j1 j2
        go_wp2_with fail
        go_ret
        exact ⟨ret_int HE.out.symm, b1⟩
end Go.Proofs.Ytkgbhiccjbnldaa
