/-
  The document's answers: one limb more behind a rest, divided binary digit by digit.
-/
import Derived.Test.YtkgbhiccjbnldaaLists
namespace Go.Proofs.Ytkgbhiccjbnldaa
open Go.RowKit Go.Shelf

def StInv (rest limb b : Int) (t : Nat) (q r : Int) : Prop := rest * 2 ^ (64 - t) + limb / 2 ^ t = q * b + r ∧ 0 ≤ r ∧ r < b ∧ 0 ≤ q ∧ q < 2 ^ (64 - t)
theorem st_start {rest limb b : Int} (h0 : 0 ≤ rest) (h1 : rest < b) (hl : 0 ≤ limb ∧ limb < 18446744073709551616) : StInv rest limb b 64 0 rest := by
  have e : limb / 2 ^ 64 = 0 := Int.ediv_eq_zero_of_lt hl.1 (by simpa using hl.2)
  exact ⟨by rw [e]; simp, h0, h1, by omega, by decide⟩
theorem st_next {rest limb b q r : Int} {s : Nat} (hs : s ≤ 63) (I : StInv rest limb b (s + 1) q r) :
    rest * 2 ^ (64 - s) + limb / 2 ^ s = (2 * q) * b + (2 * r + limb / 2 ^ s % 2) ∧ 0 ≤ limb / 2 ^ s % 2 ∧ limb / 2 ^ s % 2 ≤ 1 ∧ (2 : Int) ^ (64 - s) = 2 * 2 ^ (64 - (s + 1)) ∧ q < 9223372036854775808 := by
  obtain ⟨i1, i2, i3, i4, i5⟩ := I
  have e1 : (2 : Int) ^ (64 - s) = 2 * 2 ^ (64 - (s + 1)) := by rw [show 64 - s = 64 - (s + 1) + 1 by omega, Int.pow_succ, Int.mul_comm]
  have e2 : limb / 2 ^ (s + 1) = limb / 2 ^ s / 2 := by rw [Int.pow_succ, Int.ediv_ediv_of_nonneg (Int.le_of_lt (Int.pow_pos (by decide)))]
  have e3 : (2 : Int) ^ (64 - (s + 1)) ≤ 2 ^ 63 := by
    have h := Int.ofNat_le.2 (Nat.pow_le_pow_right (n := 2) (by decide) (show 64 - (s + 1) ≤ 63 by omega))
    simpa using h
  have e4 : (2 : Int) ^ 63 = 9223372036854775808 := by decide
  rw [e2] at i1
  refine ⟨?_, by omega, by omega, e1, by omega⟩
  rw [e1, Int.mul_left_comm, Int.mul_assoc]
  generalize limb / 2 ^ s = z at *
  generalize rest * 2 ^ (64 - (s + 1)) = y at *
  generalize q * b = x at *
  omega
theorem st_up {rest limb b q r : Int} {s : Nat} (hs : s ≤ 63) (I : StInv rest limb b (s + 1) q r) (h : b ≤ 2 * r + limb / 2 ^ s % 2) : StInv rest limb b s (2 * q + 1) (2 * r + limb / 2 ^ s % 2 - b) := by
  obtain ⟨n1, n2, n3, n4, n5⟩ := st_next hs I
  obtain ⟨i1, i2, i3, i4, i5⟩ := I
  refine ⟨?_, by omega, by omega, by omega, by omega⟩
  rw [n1, Int.add_mul, Int.one_mul]; omega
theorem st_stay {rest limb b q r : Int} {s : Nat} (hs : s ≤ 63) (I : StInv rest limb b (s + 1) q r) (h : 2 * r + limb / 2 ^ s % 2 < b) : StInv rest limb b s (2 * q) (2 * r + limb / 2 ^ s % 2) := by
  obtain ⟨n1, n2, n3, n4, n5⟩ := st_next hs I
  obtain ⟨i1, i2, i3, i4, i5⟩ := I
  exact ⟨n1, by omega, h, by omega, by omega⟩
theorem st_end {rest limb b q r : Int} (I : StInv rest limb b 0 q r) : q = (rest * 18446744073709551616 + limb) / b ∧ r = (rest * 18446744073709551616 + limb) % b := by
  obtain ⟨i1, i2, i3, i4, i5⟩ := I
  have e : rest * 18446744073709551616 + limb = q * b + r := by
    rw [← i1]
    have : (2 : Int) ^ (64 - 0) = 18446744073709551616 := by decide
    rw [this]; simp
  rw [e, Int.add_comm, Int.add_mul_ediv_right _ _ (by omega), Int.add_mul_emod_self_right, Int.ediv_eq_zero_of_lt i2 i3, Int.emod_eq_of_lt i2 i3, Int.zero_add]
  exact ⟨rfl, rfl⟩

set_option maxHeartbeats 1000000 in
theorem step_any (rest limb b : Int) (h1 : Word rest) (h2 : Word limb) (h3 : Word b) (hlt : rest < b) (w : World) :
    Calls Try.prog 55 #[.int .u64 rest, .int .u64 limb, .int .u64 b] w fun e w' =>
      e = .returned (.tuple #[.int .u64 ((rest * 18446744073709551616 + limb) / b), .int .u64 ((rest * 18446744073709551616 + limb) % b)]) ∧ w' = w := by
  have I0 : Hid (StInv rest limb b 64 0 rest) := st_start h1.1 hlt h2
  obtain ⟨l1, l2⟩ := h2
  obtain ⟨b1, b2⟩ := h3
  clear h1
  go_enter Try.func55, Try.ntmps55
  go_wp2_with fail
  go_loop [0, 8, 9] (fun rr qq kk => ∃ (t : Nat) (q r : Int), kk = .int .i64 ((t : Int) - 1) ∧ rr = .int .u64 r ∧ qq = .int .u64 q ∧ t ≤ 64 ∧ Hid (StInv rest limb b t q r)) (fun _ _ kk => (intOf kk + 1).toNat)
  case atStart => exact ⟨64, 0, rest, rfl, rfl, rfl, by omega, I0⟩
  case round =>
    obtain ⟨t, q, r, rfl, rfl, rfl, ht, hI⟩ := hrel
    by_cases h0 : t = 0
    · subst h0
      obtain ⟨e1, e2⟩ := st_end hI.out
      have E1 : Hid (q = (rest * 18446744073709551616 + limb) / b) := e1
      have E2 : Hid (r = (rest * 18446744073709551616 + limb) % b) := e2
      clear e1 e2
      go_wp2_with fail
      go_ret2
      exact ⟨ret_two E1.out E2.out, rfl⟩
    · obtain ⟨s, rfl⟩ : ∃ s, t = s + 1 := ⟨t - 1, by omega⟩
      obtain ⟨n1, n2, n3, n4, n5⟩ := st_next (by omega) hI.out
      have r0 := hI.out.2.1
      have r1 := hI.out.2.2.1
      have q0 := hI.out.2.2.2.1
      have up := fun h => st_up (by omega) hI.out h
      have stay := fun h => st_stay (by omega) hI.out h
      obtain ⟨bit, hbit⟩ : ∃ z, limb / 2 ^ s % 2 = z := ⟨_, rfl⟩
      rw [hbit] at n2 n3 up stay
      have ebit : (limb / 2 ^ s).tmod 2 = bit := by rw [Int.tmod_eq_emod_of_nonneg (Int.ediv_nonneg l1 (Int.le_of_lt (Int.pow_pos (by decide)))), hbit]
      have hs : s ≤ 63 := by omega
      have m1 : min s 64 = s := by omega
      rw [show (((s + 1 : Nat) : Int) - 1) = (s : Int) by omega]
      have es : Hid (((s : Nat) : Int) - 1 = (s : Int) - 1) := rfl
      clear n1 n4 h0 ht
      by_cases c1 : 9223372036854775808 ≤ r
      · have U : Hid (StInv rest limb b s (2 * q + 1) (2 * r + bit - b)) := up (by omega)
        obtain ⟨z, hz⟩ : ∃ z, 2 * r - 18446744073709551616 = z := ⟨_, rfl⟩
        have z1 : 0 ≤ z := by omega
        have z2 : z < 18446744073709551615 := by omega
        have e1 : IntKind.u64.wrap (2 * r) = z := by rw [IntKind.wrap_u64]; omega
        obtain ⟨r2, hr2⟩ : ∃ z, 2 * r + bit - b = z := ⟨_, rfl⟩
        have e3 : IntKind.u64.wrap (z + bit - b) = r2 := by rw [IntKind.wrap_u64]; omega
        have U2 : Hid (StInv rest limb b s (2 * q + 1) r2) := by have := U.out; rw [hr2] at this; exact this
        clear up stay hz hr2 U
        go_wp2_with fail
        go_round
        case rel => exact ⟨s, _, _, rfl, rfl, rfl, by omega, U2⟩
        case measure => simp [intOf]
      · by_cases c2 : b ≤ 2 * r + bit
        · have U : Hid (StInv rest limb b s (2 * q + 1) (2 * r + bit - b)) := up c2
          clear up stay
          go_wp2_with fail
          go_round
          case rel => exact ⟨s, _, _, rfl, rfl, rfl, by omega, U⟩
          case measure => simp [intOf]
        · have U : Hid (StInv rest limb b s (2 * q) (2 * r + bit)) := stay (by omega)
          clear up stay
          go_wp2_with fail
          go_round
          case rel => exact ⟨s, _, _, rfl, rfl, rfl, by omega, U⟩
          case measure => simp [intOf]

theorem rdiv_ok (hi lo y : Int) (h1 : Word hi) (h2 : Word lo) (h3 : Word y) (hlt : hi < y) (w : World) :
    Calls Try.prog 20 #[.int .u64 hi, .int .u64 lo, .int .u64 y] w fun e w' =>
      e = .returned (.tuple #[.int .u64 ((hi * 18446744073709551616 + lo) / y), .int .u64 ((hi * 18446744073709551616 + lo) % y), .int .i64 0]) ∧ w' = w := by
  have g1 : (y == 0) = false := by have := h1.1; simp; omega
  have g3 : ¬ y ≤ hi := by omega
  go_enter Try.func20, Try.ntmps20
  go_wp2_with fail
  refine (step_any hi lo y h1 h2 h3 hlt _).mono ?_
  rintro e w' ⟨rfl, rfl⟩
  go_wp2_with fail
  go_ret3
  exact ⟨rfl, rfl⟩
theorem rdiv_nought (hi lo : Int) (w : World) :
    Calls Try.prog 20 #[.int .u64 hi, .int .u64 lo, .int .u64 0] w fun e w' => e = .returned (.tuple #[.int .u64 0, .int .u64 0, .int .i64 4]) ∧ w' = w := by
  go_enter Try.func20, Try.ntmps20
  go_wp2_with fail
  go_ret3
  exact ⟨rfl, rfl⟩
theorem rdiv_over (hi lo y : Int) (h3 : 0 < y) (hlt : y ≤ hi) (w : World) :
    Calls Try.prog 20 #[.int .u64 hi, .int .u64 lo, .int .u64 y] w fun e w' => e = .returned (.tuple #[.int .u64 0, .int .u64 0, .int .i64 5]) ∧ w' = w := by
  have g1 : (y == 0) = false := by simp; omega
  go_enter Try.func20, Try.ntmps20
  go_wp2_with fail
  go_ret3
  exact ⟨rfl, rfl⟩
end Go.Proofs.Ytkgbhiccjbnldaa
