/-
  The bits of floats as numbers.
-/
import Derived.Laws.BitsAllLaws
import Derived.Laws.BitsLemmas
import Derived.Test.YtogabmggdcefaaaGreatFlP
namespace Go.Proofs.YtogabmggdcefaaaGreat
open Go
set_option linter.unusedVariables false

theorem b_mask52 (x : Nat) (h : x < 18446744073709551616) : bits .and .u64 (x : Int) 4503599627370495 = ((x % 4503599627370496 : Nat) : Int) := by
  have e := u64_and_nat x 4503599627370495 h (by decide)
  have q : x &&& 4503599627370495 = x % 4503599627370496 := Nat.and_two_pow_sub_one_eq_mod x 52
  rw [q] at e; exact e
theorem b_low1 (x : Nat) (h : x < 18446744073709551616) : bits .and .u64 (x : Int) 1 = ((x % 2 : Nat) : Int) := by
  have e := u64_and_nat x 1 h (by decide)
  have q : x &&& 1 = x % 2 := Nat.and_two_pow_sub_one_eq_mod x 1
  rw [q] at e; exact e
theorem b_sign (x : Nat) (h : x < 18446744073709551616) : bits .and .u64 (x : Int) 9223372036854775808 = if fsg x then 9223372036854775808 else 0 := by
  have e := u64_and_nat x 9223372036854775808 h (by decide)
  have q : x &&& 9223372036854775808 = x / 9223372036854775808 % 2 * 9223372036854775808 := nat_bit 63 x
  rw [q] at e
  unfold fsg
  by_cases g : 9223372036854775808 ≤ x
  · have : x / 9223372036854775808 % 2 = 1 := by omega
    rw [this] at e; simp only [g, decide_true, if_true]; exact e
  · have : x / 9223372036854775808 % 2 = 0 := by omega
    rw [this] at e; simp only [g, decide_false, Bool.false_eq_true, if_false]; exact e
theorem b_exp (E : Nat) (h : E < 4096) : bits .and .u64 (E : Int) 2047 = ((E % 2048 : Nat) : Int) := by
  have e := u64_and_nat E 2047 (by omega) (by decide)
  have q : E &&& 2047 = E % 2048 := Nat.and_two_pow_sub_one_eq_mod E 11
  rw [q] at e; exact e
theorem b_expi (E : Nat) (h : E < 2048) : bits .and .i64 (E : Int) 2047 = (E : Int) := by
  have e := (bits_nat .i64 63 (by decide) (fun n h0 h1 => by rw [IntKind.wrap_i64]; omega) E 2047 (by omega) (by decide)).1
  have q : E &&& 2047 = E % 2048 := Nat.and_two_pow_sub_one_eq_mod E 11
  rw [q, Nat.mod_eq_of_lt h] at e; exact e
theorem b_hidden (d : Nat) (h : d < 4503599627370496) : bits .or .u64 (d : Int) 4503599627370496 = ((d + 4503599627370496 : Nat) : Int) := by
  have e := u64_or_nat d 4503599627370496 (by omega) (by decide)
  have q : 4503599627370496 ||| d = 4503599627370496 + d := nat_join 52 4503599627370496 d (by decide) h
  rw [Nat.or_comm, q, Nat.add_comm] at e; exact e
theorem b_neg (x : Nat) (h : x < 9223372036854775808) : bits .or .u64 (x : Int) 9223372036854775808 = ((9223372036854775808 + x : Nat) : Int) := by
  have e := u64_or_nat x 9223372036854775808 (by omega) (by decide)
  have q : 9223372036854775808 ||| x = 9223372036854775808 + x := nat_join 63 9223372036854775808 x (by decide) h
  rw [Nat.or_comm, q] at e; exact e
theorem b_frac (x : Nat) (h : x < 9223372036854775808) : bits .andNot .u64 (x : Int) 9218868437227405312 = ((x % 4503599627370496 : Nat) : Int) := by
  have e := u64_andNot_nat x 9218868437227405312 (by omega) (by decide)
  have q : x &&& (18446744073709551615 - 9218868437227405312) = x % 4503599627370496 := by
    have d : (18446744073709551615 - 9218868437227405312 : Nat) = 9223372036854775808 ||| 4503599627370495 := by decide
    rw [d, Nat.and_or_distrib_left]
    have q1 : x &&& 9223372036854775808 = x / 9223372036854775808 % 2 * 9223372036854775808 := nat_bit 63 x
    have q2 : x &&& 4503599627370495 = x % 4503599627370496 := Nat.and_two_pow_sub_one_eq_mod x 52
    have q3 : x / 9223372036854775808 % 2 = 0 := by omega
    rw [q1, q2, q3, Nat.zero_mul, Nat.zero_or]
  rw [q] at e; exact e
theorem b_join (d E : Nat) (h : d < 4503599627370496) (hE : E < 2048) : bits .or .u64 (d : Int) ((E * 4503599627370496 : Nat) : Int) = ((E * 4503599627370496 + d : Nat) : Int) := by
  have e := u64_or_nat d (E * 4503599627370496) (by omega) (by omega)
  have q : E * 4503599627370496 ||| d = E * 4503599627370496 + d := nat_join 52 (E * 4503599627370496) d (Nat.mul_mod_left _ _) h
  rw [Nat.or_comm, q] at e; exact e
theorem b_abs (x : Nat) (h : x < 18446744073709551616) : bits .andNot .u64 (x : Int) 9223372036854775808 = ((x % 9223372036854775808 : Nat) : Int) := by
  have e := u64_andNot_nat x 9223372036854775808 h (by decide)
  have q : x &&& (18446744073709551615 - 9223372036854775808) = x % 9223372036854775808 := Nat.and_two_pow_sub_one_eq_mod x 63
  rw [q] at e; exact e
end Go.Proofs.YtogabmggdcefaaaGreat
