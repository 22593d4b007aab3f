/-
  isBase, greatPower, worth of a digit, the reverse of a list of one.
-/
import Derived.Test.YtpfbcicjfnfpgaaAdded
import Derived.Lib.OthersKept
namespace Go.Proofs.Ytpfbcicjfnfpgaa
open Go.RowKit Go.Shelf
set_option linter.unusedVariables false

theorem isBase_any (b : Int) (h1 : 2 ≤ b) (h2 : b ≤ 36) (w : World) : Calls Try.prog 51 #[.int .i64 b] w fun e w' => e = .returned (.bool true) ∧ w' = w := by
  go_enter Try.func51, Try.ntmps51
  go_wp2_with fail
  go_ret
  exact ⟨rfl, rfl⟩

theorem two_le_pow {b : Int} (hb : 2 ≤ b) : ∀ k : Nat, (2 : Int) ^ k ≤ b ^ k := by
  intro k
  induction k with
  | zero => simp
  | succ k ih =>
    rw [Int.pow_succ, Int.pow_succ]
    have h0 : (0 : Int) ≤ 2 ^ k := Int.le_of_lt (Int.pow_pos (by omega))
    calc (2 : Int) ^ k * 2 ≤ 2 ^ k * b := Int.mul_le_mul_of_nonneg_left hb h0
      _ ≤ b ^ k * b := Int.mul_le_mul_of_nonneg_right ih (by omega)
set_option maxHeartbeats 1000000 in
/-- The greatest power of a base that a word holds, and how many digits a number below it has. -/
theorem greatPower_any (b : Int) (h1 : 2 ≤ b) (h2 : b ≤ 36) (w : World) :
    Calls Try.prog 52 #[.int .i64 b] w fun e w' => ∃ s : Nat, e = .returned (.tuple #[.int .u64 (b ^ s), .int .i64 s]) ∧ Hid (1 ≤ s ∧ s ≤ 63 ∧ b ^ s < 18446744073709551616 ∧ 18446744073709551616 ≤ b ^ s * b) ∧ w' = w := by
  have e1 : IntKind.u64.wrap b = b := by rw [IntKind.wrap_u64]; omega
  obtain ⟨Q, hQ⟩ : ∃ Q, (18446744073709551615 : Int).tdiv b = Q := ⟨_, rfl⟩
  have HQ : Hid (∀ p : Int, 0 ≤ p → (p ≤ Q ↔ p * b ≤ 18446744073709551615)) := by
    intro p hp
    rw [← hQ, Int.tdiv_eq_ediv_of_nonneg (by omega)]
    exact Int.le_ediv_iff_mul_le (by omega)
  have hQ0 : 0 ≤ Q := by rw [← hQ, Int.tdiv_eq_ediv_of_nonneg (by omega)]; exact Int.ediv_nonneg (by omega) (by omega)
  have eQ : IntKind.u64.wrap Q = Q := by
    have h5 := (HQ.out Q hQ0).1 (Int.le_refl _)
    have h6 : Q * 1 ≤ Q * b := Int.mul_le_mul_of_nonneg_left (by omega) hQ0
    rw [IntKind.wrap_u64]; omega
  have hb0 : (b == 0) = false := by simp; omega
  have hbn : b ≠ 0 := by omega
  go_enter Try.func52, Try.ntmps52
  go_wp2_with fail
  go_loop [2, 3] (fun p s => ∃ (k : Nat) (P : Int), p = .int .u64 P ∧ s = .int .i64 k ∧ Hid (P = b ^ k ∧ 1 ≤ k ∧ k ≤ 63 ∧ 0 ≤ P ∧ P < 18446744073709551616) ∧ k ≤ 63) (fun _ s => 63 - (intOf s).toNat)
  case atStart => exact ⟨1, b, rfl, rfl, ⟨by show b = b ^ 1; rw [Int.pow_succ, Int.pow_zero, Int.one_mul], by omega, by omega, by omega, by omega⟩, by omega⟩
  case round =>
    obtain ⟨k, P, rfl, rfl, hI, hk⟩ := hrel
    obtain ⟨i1', i2, i3, i4, i5⟩ := hI.out
    have i1 : Hid (P = b ^ k) := i1'
    clear i1'
    by_cases hle : P ≤ Q
    · have hm := (HQ.out P i4).1 hle
      have ew : IntKind.u64.wrap (P * b) = P * b := by
        rw [IntKind.wrap_u64]
        have := Int.mul_nonneg i4 (show 0 ≤ b by omega)
        omega
      have hk2 : k + 1 ≤ 63 := by
        rcases Nat.lt_or_ge k 63 with h' | h'
        · omega
        · exfalso
          have hk3 : k = 63 := by omega
          have h64 : b ^ 64 = P * b := by rw [i1.out, hk3, ← Int.pow_succ]
          have := two_le_pow h1 64
          rw [h64] at this
          omega
      have hnn : 0 ≤ P * b := Int.mul_nonneg i4 (by omega)
      clear hI i2 i3
      go_wp2_with fail
      go_round
      case rel => exact ⟨k + 1, P * b, rfl, by go_num, ⟨by rw [i1.out, ← Int.pow_succ], by omega, hk2, hnn, by omega⟩, hk2⟩
      case measure => simp [intOf]; omega
    · have hm : ¬ P * b ≤ 18446744073709551615 := fun h => hle ((HQ.out P i4).2 h)
      go_wp2_with fail
      go_ret2
      exact ⟨k, by rw [← i1.out]; rfl, ⟨i2, i3, by rw [← i1.out]; exact i5, by rw [← i1.out]; omega⟩, rfl⟩

theorem worth_digit (c : Int) (h1 : 48 ≤ c) (h2 : c ≤ 57) (w : World) : Calls Try.prog 73 #[.int .i32 c] w fun e w' => e = .returned (.int .i64 (c - 48)) ∧ w' = w := by
  have e1 : IntKind.i32.wrap (c - 48) = c - 48 := by rw [IntKind.wrap_i32]; omega
  have e2 : IntKind.i64.wrap (c - 48) = c - 48 := by rw [IntKind.wrap_i64]; omega
  go_enter Try.func73, Try.ntmps73
  go_wp2_with fail
  go_ret
  exact ⟨rfl, rfl⟩

theorem reverse_one (a : Option Addr) (cap : Nat) (w : World) : Calls Try.prog 74 #[.slice a 1 cap] w fun e w' => (∃ v, e = .returned v) ∧ w' = w := by
  go_enter Try.func74, Try.ntmps74
  go_wp2_with fail
  refine wp_loop_rounds 1 ?_
  rw [rounds_succ]
  go_wp2_with fail
  go_end0
  exact ⟨⟨_, rfl⟩, rfl⟩
end Go.Proofs.Ytpfbcicjfnfpgaa
