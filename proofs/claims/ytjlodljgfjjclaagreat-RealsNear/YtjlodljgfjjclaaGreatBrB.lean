/-
  Put together of: FlG, Re1, Re2, Re3.
-/
import Derived.Test.YtjlodljgfjjclaaGreatBrA
import GoSem.Core.Sem
import GoSem.Core.Float
import Derived.Test.YtjlodljgfjjclaaGreatBsA
import Derived.WalkLawsBesides
import Derived.Laws.FloatArith
import Derived.Deep.Cut
import Derived.Test.YtjlodljgfjjclaaGreatBsM
namespace Go.Proofs.YtjlodljgfjjclaaGreat
open Go
set_option linter.unusedVariables false

theorem f64_format : FloatKind.f64.format = Ieee.double := rfl
theorem float_lt {x y : Nat} (hx : Fr x) (hy : Fr y) : (FloatKind.f64.format.order x y == some .lt) = decide (fz x < fz y) := by
  rw [f64_format, order_fz hx hy]
  by_cases h : fz x < fz y
  · simp [compare, compareOfLessAndEq, h]
  · by_cases g : fz x = fz y
    · simp [compare, compareOfLessAndEq, g]
    · simp [compare, compareOfLessAndEq, h, g]
theorem float_eq {x y : Nat} (hx : Fr x) (hy : Fr y) : (FloatKind.f64.format.order x y == some .eq) = decide (fz x = fz y) := by
  rw [f64_format, order_fz hx hy]
  by_cases h : fz x < fz y
  · have : fz x ≠ fz y := by omega
    simp [compare, compareOfLessAndEq, h, this]
  · by_cases g : fz x = fz y
    · simp [compare, compareOfLessAndEq, g]
    · simp [compare, compareOfLessAndEq, h, g]
theorem float_gt {x y : Nat} (hx : Fr x) (hy : Fr y) : (FloatKind.f64.format.order x y == some .gt) = decide (fz y < fz x) := by
  rw [f64_format, order_fz hx hy]
  by_cases h : fz x < fz y
  · have : ¬ fz y < fz x := by omega
    simp [compare, compareOfLessAndEq, h, this]
  · by_cases g : fz x = fz y
    · simp [compare, compareOfLessAndEq, g]
    · have : fz y < fz x := by omega
      simp [compare, compareOfLessAndEq, h, g, this]
theorem float_nan {x y : Nat} (o : Ordering) (lx : x < 18446744073709551616) (ly : y < 18446744073709551616) (h : 9218868437227405312 < x % 9223372036854775808 ∨ 9218868437227405312 < y % 9223372036854775808) : (FloatKind.f64.format.order x y == some o) = false := by
  rw [f64_format, order_nan lx ly h]; rfl
theorem nan_cut (x y t : Nat) : 9218868437227405312 < (Question.nanBits .f64 x y).cut t % 9223372036854775808 ∧ (Question.nanBits .f64 x y).cut t < 18446744073709551616 := by
  have e : (Question.nanBits .f64 x y).cut t = (t % 2) * 9223372036854775808 + 9218868437227405312 + 1 + (t / 2) % 4503599627370495 := by
    simp [Question.cut]
  rw [e]
  have h1 : t % 2 = 0 ∨ t % 2 = 1 := by omega
  have h2 := Nat.mod_lt (t / 2) (show 4503599627370495 > 0 by decide)
  generalize t / 2 % 4503599627370495 = u at *
  rcases h1 with h1 | h1 <;> rw [h1] <;> omega
end Go.Proofs.YtjlodljgfjjclaaGreat

namespace Go.Proofs.YtjlodljgfjjclaaGreat
open Go.RowKit Go.Shelf
set_option linter.unusedVariables false

theorem fbits (b : Nat) (w : World) : (callFunc 63 #[.float .f64 b]).run Tryz.prog w = .ok (.value (.int .u64 b)) w := by
  rw [run_callFunc_extern Tryz.func63 (by kernel_rfl) (by kernel_rfl) (by kernel_rfl) (e := Extern.MathFloatBits.float64bits) (by kernel_rfl)]
  rfl
theorem ffrom (b : Nat) (w : World) : (callFunc 7 #[.int .u64 (b : Int)]).run Tryz.prog w = .ok (.value (.float .f64 b)) w := by
  rw [run_callFunc_extern Tryz.func7 (by kernel_rfl) (by kernel_rfl) (by kernel_rfl) (e := Extern.MathFloatBits.float64frombits) (by kernel_rfl)]
  rfl

theorem outward8 (x : Nat) (h : x < 18446744073709551615) (w : World) : Calls Tryz.prog 69 #[.float .f64 x] w fun e w' => e = .returned (.float .f64 (x + 1)) ∧ w' = w := by
  obtain ⟨y, hy⟩ : ∃ y, x + 1 = y := ⟨_, rfl⟩
  have e1 : IntKind.u64.wrap ((x : Int) + 1) = (y : Int) := by rw [IntKind.wrap_u64]; omega
  rw [hy]
  have f1 := fbits x
  have f2 := ffrom y
  clear hy
  go_enter Tryz.func69, Tryz.ntmps69
  go_wp2_with fail
  go_ret
  exact ⟨rfl, rfl⟩
theorem inward8 (x : Nat) (h0 : 0 < x) (h : x < 18446744073709551616) (w : World) : Calls Tryz.prog 73 #[.float .f64 x] w fun e w' => e = .returned (.float .f64 (x - 1)) ∧ w' = w := by
  obtain ⟨y, hy⟩ : ∃ y, x - 1 = y := ⟨_, rfl⟩
  have e1 : IntKind.u64.wrap ((x : Int) - 1) = (y : Int) := by rw [IntKind.wrap_u64]; omega
  rw [hy]
  have f1 := fbits x
  have f2 := ffrom y
  clear hy
  go_enter Tryz.func73, Tryz.ntmps73
  go_wp2_with fail
  go_ret
  exact ⟨rfl, rfl⟩
theorem isOdd8 (x : Nat) (h : x < 18446744073709551616) (w : World) : Calls Tryz.prog 68 #[.float .f64 x] w fun e w' => e = .returned (.bool (decide (x % 2 = 1))) ∧ w' = w := by
  have e1 := b_low1 x h
  have f1 := fbits x
  obtain ⟨r, hr⟩ : ∃ r, x % 2 = r := ⟨_, rfl⟩
  rw [hr] at e1 ⊢
  have e2 : r = 0 ∨ r = 1 := by omega
  clear hr
  rcases e2 with rfl | rfl
  all_goals
    go_enter Tryz.func68, Tryz.ntmps68
    go_wp2_with fail
    go_ret
    exact ⟨rfl, rfl⟩
theorem signed8 (x : Nat) (s : Bool) (h : x < 9223372036854775808) (w : World) : Calls Tryz.prog 59 #[.float .f64 x, .bool s] w fun e w' => e = .returned (.float .f64 (wd s x)) ∧ w' = w := by
  have e1 := b_neg x h
  have hw : wd s x = if s then 9223372036854775808 + x else x := rfl
  rw [hw]
  obtain ⟨y, hy⟩ : ∃ y, 9223372036854775808 + x = y := ⟨_, rfl⟩
  rw [hy] at e1 ⊢
  have f1 := fbits x
  have f2 := ffrom y
  clear hy hw
  cases s
  all_goals
    go_enter Tryz.func59, Tryz.ntmps59
    go_wp2_with fail
    go_ret
    exact ⟨rfl, rfl⟩
theorem abs8 (x : Nat) (h : x < 18446744073709551616) (w : World) : Calls Tryz.prog 166 #[.float .f64 x] w fun e w' => e = .returned (.float .f64 (x % 9223372036854775808)) ∧ w' = w := by
  have e1 := b_abs x h
  obtain ⟨y, hy⟩ : ∃ y, x % 9223372036854775808 = y := ⟨_, rfl⟩
  rw [hy] at e1 ⊢
  have f1 := fbits x
  have f2 := ffrom y
  clear hy
  go_enter Tryz.func166, Tryz.ntmps166
  go_wp2_with fail
  go_ret
  exact ⟨rfl, rfl⟩
theorem order_self {x : Nat} (h : x < 18446744073709551616) : (FloatKind.f64.format.order x x == some .eq) = decide (x % 9223372036854775808 ≤ 9218868437227405312) := by
  by_cases g : x % 9223372036854775808 ≤ 9218868437227405312
  · rw [float_eq ⟨g, h⟩ ⟨g, h⟩]; simp [g]
  · rw [float_nan .eq h h (.inl (by omega))]; simp; omega
theorem order_not {x : Nat} (h : x < 18446744073709551616) : (FloatKind.f64.format.order x x != some .eq) = decide (9218868437227405312 < x % 9223372036854775808) := by
  unfold bne
  rw [order_self h, ← decide_not, decide_eq_decide]; omega
theorem isNaN8 (x : Nat) (h : x < 18446744073709551616) (w : World) : Calls Tryz.prog 72 #[.float .f64 x] w fun e w' => e = .returned (.bool (decide (9218868437227405312 < x % 9223372036854775808))) ∧ w' = w := by
  rw [← order_not h]
  go_enter Tryz.func72, Tryz.ntmps72
  go_wp2_with fail
  go_ret
  exact ⟨rfl, rfl⟩
/-- IsInf where 0 is asked. -/
theorem isInf8 (x : Nat) (h : x < 18446744073709551616) (w : World) : Calls Tryz.prog 157 #[.float .f64 x, .int .i64 0] w fun e w' => e = .returned (.bool (decide (x % 9223372036854775808 = 9218868437227405312))) ∧ w' = w := by
  have e1 : (FloatKind.f64.format.order (x % 9223372036854775808) 9218868437227405311 == some .gt) = decide (x % 9223372036854775808 = 9218868437227405312) := by
    by_cases g : x % 9223372036854775808 ≤ 9218868437227405312
    · rw [float_gt ⟨by omega, by omega⟩ ⟨by decide, by decide⟩, decide_eq_decide]
      have q := @wd_fz false (x % 9223372036854775808) (by omega)
      have r := @wd_fz false 9218868437227405311 (by decide)
      simp only [wd, Bool.false_eq_true, if_false] at q r
      rw [q, r]
      have := @fi_lt_iff 9218868437227405311 (x % 9223372036854775808)
      omega
    · rw [float_nan .gt (by omega) (by decide) (.inl (by omega))]
      symm; rw [decide_eq_false_iff_not]; omega
  have A := abs8 x h
  obtain ⟨y, hy⟩ : ∃ y, x % 9223372036854775808 = y := ⟨_, rfl⟩
  obtain ⟨z, hz⟩ : ∃ z, decide (x % 9223372036854775808 = 9218868437227405312) = z := ⟨_, rfl⟩
  rw [hz] at e1 ⊢
  rw [hy] at e1 A
  clear hy hz
  go_enter Tryz.func157, Tryz.ntmps157
  go_wp2_with fail
  refine (A _).mono ?_
  rintro e w' ⟨rfl, rfl⟩
  go_wp2_with fail
  go_ret
  exact ⟨by rw [← e1]; rfl, rfl⟩
/-- normalize of a float that is normal. -/
theorem normalize8 (x : Nat) (h : x < 18446744073709551616) (h0 : 4503599627370496 ≤ x % 9223372036854775808) (h1 : x % 9223372036854775808 ≤ 9218868437227405312) (w : World) : Calls Tryz.prog 158 #[.float .f64 x] w fun e w' => e = .returned (.tuple #[.float .f64 x, .int .i64 0]) ∧ w' = w := by
  have e1 : (FloatKind.f64.format.order (x % 9223372036854775808) 4503599627370496 == some .lt) = false := by
    rw [float_lt ⟨by omega, by omega⟩ ⟨by decide, by decide⟩, decide_eq_false_iff_not]
    have q := @wd_fz false (x % 9223372036854775808) (by omega)
    have r := @wd_fz false 4503599627370496 (by decide)
    simp only [wd, Bool.false_eq_true, if_false] at q r
    rw [q, r]
    have := @fi_le_iff 4503599627370496 (x % 9223372036854775808)
    omega
  have A := abs8 x h
  obtain ⟨y, hy⟩ : ∃ y, x % 9223372036854775808 = y := ⟨_, rfl⟩
  rw [hy] at e1 A
  clear hy
  go_enter Tryz.func158, Tryz.ntmps158
  go_wp2_with fail
  refine (A _).mono ?_
  rintro e w' ⟨rfl, rfl⟩
  go_wp2_with fail
  go_ret2
  exact ⟨rfl, rfl⟩
end Go.Proofs.YtjlodljgfjjclaaGreat

namespace Go.Proofs.YtjlodljgfjjclaaGreat
open Go.RowKit Go.Shelf
set_option linter.unusedVariables false

theorem ldexp_core (X : Nat) (p q : Int) (L E f Y r : Nat) (hX : X < 9218868437227405312) (hX0 : 4503599627370496 ≤ X) (hL : X / 4503599627370496 = 1023 + L) (hL2 : L ≤ 52) (hf : X % 4503599627370496 = f) (p1 : -1074 ≤ p) (p2 : p ≤ 971) (hq : p + L = q) (q2 : q ≤ 1023)
    (hc : (-1022 ≤ q ∧ (E : Int) = q + 1023 ∧ E * 4503599627370496 + f = Y ∧ Ieee.double.mul 4607182418800017408 Y = some r) ∨ (q < -1022 ∧ (E : Int) = q + 53 + 1023 ∧ E * 4503599627370496 + f = Y ∧ Ieee.double.mul 4368491638549381120 Y = some r)) (w : World) :
    Calls Tryz.prog 143 #[.float .f64 X, .int .i64 p] w fun e w' => e = .returned (.float .f64 r) ∧ w' = w := by
  have hm : X % 9223372036854775808 = X := by omega
  have e0 : (FloatKind.f64.format.order X 0 == some .eq) = false := by
    rw [float_eq ⟨by omega, by omega⟩ ⟨by decide, by decide⟩, decide_eq_false_iff_not]
    have a := @wd_fz false X (by omega)
    have b := @wd_fz false 0 (by decide)
    simp only [wd, Bool.false_eq_true, if_false] at a b
    rw [a, b]
    have := @fi_pos X (by omega)
    rw [fi_zero]
    omega
  have HI : ∀ w, Calls Tryz.prog 157 #[.float .f64 X, .int .i64 0] w fun e w' => e = .returned (.bool false) ∧ w' = w := fun w => by
    have := isInf8 X (by omega) w
    rw [show decide (X % 9223372036854775808 = 9218868437227405312) = false by rw [decide_eq_false_iff_not]; omega] at this
    exact this
  have HN : ∀ w, Calls Tryz.prog 72 #[.float .f64 X] w fun e w' => e = .returned (.bool false) ∧ w' = w := fun w => by
    have := isNaN8 X (by omega) w
    rw [show decide (9218868437227405312 < X % 9223372036854775808) = false by rw [decide_eq_false_iff_not]; omega] at this
    exact this
  have HZ := normalize8 X (by omega) (by omega) (by omega)
  have f1 := fbits X
  have f2 := ffrom Y
  have w1 : IntKind.i64.wrap p = p := by rw [IntKind.wrap_i64]; omega
  have s1 : (X : Int) / 4503599627370496 = ((1023 + L : Nat) : Int) := by omega
  have s2 : IntKind.i64.wrap ((1023 + L : Nat) : Int) = ((1023 + L : Nat) : Int) := by rw [IntKind.wrap_i64]; omega
  have s3 := b_expi (1023 + L) (by omega)
  generalize hM : 1023 + L = M at *
  have s4 : IntKind.i64.wrap ((M : Int) - 1023) = (L : Int) := by rw [IntKind.wrap_i64]; omega
  have s5 : IntKind.i64.wrap (p + (L : Int)) = q := by rw [IntKind.wrap_i64]; omega
  have g1 : decide (q < -1075) = false := by rw [decide_eq_false_iff_not]; omega
  have g2 : decide (1023 < q) = false := by rw [decide_eq_false_iff_not]; omega
  have b1 := b_frac X (by omega)
  rw [hf] at b1
  have hfl : f < 4503599627370496 := by omega
  rcases hc with ⟨c1, c2, c3, c4⟩ | ⟨c1, c2, c3, c4⟩
  · have g3 : decide (q < -1022) = false := by rw [decide_eq_false_iff_not]; omega
    have s6 : IntKind.i64.wrap (q + 1023) = (E : Int) := by rw [IntKind.wrap_i64]; omega
    have s7 : IntKind.u64.wrap (E : Int) = (E : Int) := by rw [IntKind.wrap_u64]; omega
    have s8 : IntKind.u64.wrap ((E : Int) * 4503599627370496) = ((E * 4503599627370496 : Nat) : Int) := by rw [IntKind.wrap_u64]; omega
    have b2 := b_join f E hfl (by omega)
    rw [c3] at b2
    generalize hG : E * 4503599627370496 = G at *
    have m1 : floatBits .mul .f64 4607182418800017408 Y = some r := c4
    clear c1 c2 c3 c4 hG hM hL hf hm hX hX0 hL2 p1 p2 hq q2 hfl
    go_enter Tryz.func143, Tryz.ntmps143
    go_wp2_with fail
    refine (HI _).mono ?_
    rintro e w' ⟨rfl, rfl⟩
    go_wp2_with fail
    refine (HN _).mono ?_
    rintro e w' ⟨rfl, rfl⟩
    go_wp2_with fail
    refine (HZ _).mono ?_
    rintro e w' ⟨rfl, rfl⟩
    go_wp2_with (simp only [run_float_arith _ _ _ _ _ _ _ m1])
    go_ret
    exact ⟨rfl, rfl⟩
  · have g3 : decide (q < -1022) = true := by rw [decide_eq_true_iff]; omega
    have s9 : IntKind.i64.wrap (q + 53) = q + 53 := by rw [IntKind.wrap_i64]; omega
    have s6 : IntKind.i64.wrap (q + 53 + 1023) = (E : Int) := by rw [IntKind.wrap_i64]; omega
    have s7 : IntKind.u64.wrap (E : Int) = (E : Int) := by rw [IntKind.wrap_u64]; omega
    have s8 : IntKind.u64.wrap ((E : Int) * 4503599627370496) = ((E * 4503599627370496 : Nat) : Int) := by rw [IntKind.wrap_u64]; omega
    have b2 := b_join f E hfl (by omega)
    rw [c3] at b2
    generalize hG : E * 4503599627370496 = G at *
    have m1 : floatBits .mul .f64 4368491638549381120 Y = some r := c4
    clear c1 c2 c3 c4 hG hM hL hf hm hX hX0 hL2 p1 p2 hq q2 hfl
    go_enter Tryz.func143, Tryz.ntmps143
    go_wp2_with fail
    refine (HI _).mono ?_
    rintro e w' ⟨rfl, rfl⟩
    go_wp2_with fail
    refine (HN _).mono ?_
    rintro e w' ⟨rfl, rfl⟩
    go_wp2_with fail
    refine (HZ _).mono ?_
    rintro e w' ⟨rfl, rfl⟩
    go_wp2_with (simp only [run_float_arith _ _ _ _ _ _ _ m1])
    go_ret
    exact ⟨rfl, rfl⟩

set_option maxRecDepth 4000 in
theorem ldexp8 (n e : Nat) (h : n < 9007199254740992) (he : e = 0 ∨ 4503599627370496 ≤ n) (he2 : e ≤ 2045) (w : World) :
    Calls Tryz.prog 143 #[.float .f64 (wi n), .int .i64 ((e : Int) - 1074)] w fun x w' => x = .returned (.float .f64 (e * 4503599627370496 + n)) ∧ w' = w := by
  by_cases n0 : n = 0
  · subst n0
    obtain rfl : e = 0 := by omega
    have e0 : (FloatKind.f64.format.order 0 0 == some .eq) = true := by decide
    go_enter Tryz.func143, Tryz.ntmps143
    go_wp2_with fail
    go_ret
    exact ⟨rfl, rfl⟩
  · obtain ⟨a, b, c⟩ := log_53 h n0
    obtain ⟨m1, m2⟩ := wi_m h n0
    have hw : wi n = (1022 + n.log2) * 4503599627370496 + n * 2 ^ (52 - n.log2) := by unfold wi; rw [if_neg n0]
    have hlt := wi_lt h
    by_cases h52 : n.log2 = 52
    · have hm : n * 2 ^ (52 - n.log2) = n := by rw [h52]; simp
      rw [hm] at hw m1 m2
      refine ldexp_core (wi n) ((e : Int) - 1074) ((e : Int) - 1022) n.log2 (e + 1) (n - 4503599627370496) (e * 4503599627370496 + n) (e * 4503599627370496 + n) hlt (by omega) (by omega) a (by omega) (by omega) (by omega) (by omega) (by omega) (.inl ⟨by omega, by omega, by omega, ?_⟩) w
      exact mul_two 0 _ _ (by omega) (by omega) (by omega) (by simp)
    · obtain rfl : e = 0 := by
        rcases he with he | he
        · exact he
        · have : n.log2 = 52 := (Nat.log2_eq_iff n0).2 ⟨he, h⟩
          omega
      have e3 : fi ((n.log2 + 1) * 4503599627370496 + n * 2 ^ (52 - n.log2)) = fi n * 2 ^ 53 := by
        rw [fi_at _ _ (.inr m1) (by omega)]
        have f0 := fi_at 0 n (.inl rfl) (by omega)
        rw [Nat.zero_mul, Nat.zero_add, Nat.pow_zero, Nat.mul_one] at f0
        rw [f0, Nat.mul_assoc, ← Nat.pow_add]
        congr 2; omega
      obtain ⟨m, hm⟩ : ∃ m, n * 2 ^ (52 - n.log2) = m := ⟨_, rfl⟩
      rw [hm] at hw m1 m2 e3
      clear hm b c
      refine ldexp_core (wi n) (((0 : Nat) : Int) - 1074) ((n.log2 : Int) - 1074) n.log2 (n.log2 + 2) (m - 4503599627370496) ((n.log2 + 1) * 4503599627370496 + m) (0 * 4503599627370496 + n) hlt (by omega) (by omega) a (by omega) (by omega) (by omega) (by omega) (by omega) (.inr ⟨by omega, by omega, by omega, ?_⟩) w
      have q := mul_two 53 ((n.log2 + 1) * 4503599627370496 + m) n (by omega) (by omega) (by omega) e3
      have e4 : (1023 - 53) * 4503599627370496 = 4368491638549381120 := by decide
      rw [e4] at q
      rw [Nat.zero_mul, Nat.zero_add]
      exact q
theorem together8 (n e : Nat) (h : n < 9007199254740992) (he : e = 0 ∨ 4503599627370496 ≤ n) (he2 : e ≤ 2045) (p : Int) (hp : p = (e : Int) - 1074) (w : World) :
    Calls Tryz.prog 98 #[.int .u64 (n : Int), .int .i64 p] w fun x w' => x = .returned (.float .f64 (e * 4503599627370496 + n)) ∧ w' = w := by
  have hf : floatOfInt FloatKind.f64 (n : Int) = wi n := by
    have := of_nat h
    rw [← this]
    show Ieee.double.nearest (decide ((n : Int) < 0)) (n : Int).natAbs 0 = _
    rw [show decide ((n : Int) < 0) = false by rw [decide_eq_false_iff_not]; omega]
    rfl
  have A := ldexp8 n e h he he2
  rw [← hp] at A
  obtain ⟨y, hy⟩ : ∃ y, wi n = y := ⟨_, rfl⟩
  rw [hy] at A hf
  have B : ∀ w, Calls Tryz.prog 125 #[.float .f64 y, .int .i64 p] w fun x w' => x = .returned (.float .f64 (e * 4503599627370496 + n)) ∧ w' = w := by
    intro w
    clear hp hy hf
    go_enter Tryz.func125, Tryz.ntmps125
    go_wp2_with fail
    refine (A _).mono ?_
    rintro e w' ⟨rfl, rfl⟩
    go_wp2_with fail
    go_ret
    exact ⟨rfl, rfl⟩
  clear hp hy A
  go_enter Tryz.func98, Tryz.ntmps98
  go_wp2_with fail
  refine (B _).mono ?_
  rintro e w' ⟨rfl, rfl⟩
  go_wp2_with fail
  go_ret
  exact ⟨rfl, rfl⟩
end Go.Proofs.YtjlodljgfjjclaaGreat

namespace Go.Proofs.YtjlodljgfjjclaaGreat
open Go.RowKit Go.Shelf
set_option linter.unusedVariables false

theorem results_pt {fn : Func} {i j b : Nat} {x y z : Value} {tmps : Array Value} {w : World} (h : fn.results = #[.cell i 61, .tmp j]) (hi : tmps.getD i undef = .pointer (some ⟨b, 0, none⟩)) (hv : Va w b 61 #[x, y, z]) :
    (results fn tmps).run Tryz.prog w = .ok (.tuple #[.agg #[x, y, z], tmps.getD j undef]) w := by
  have c := hv.d0; have d := hv.d1; have e := hv.d2
  rw [Array.getD_eq_getD_getElem?] at hi
  simp [results, h, hi, c, d, e, go_sem]
theorem apart_core (x : Nat) (h : x < 18446744073709551616) (E f d : Nat) (s : Bool) (p : Int) (hE : x / 4503599627370496 % 2048 = E) (hf : x % 4503599627370496 = f) (hs : fsg x = s) (b : Bool)
    (hc : (E = 2047 ∧ b = false) ∨ (E = 0 ∧ d = f ∧ p = -1074 ∧ b = true) ∨ (E ≠ 0 ∧ E ≠ 2047 ∧ d = f + 4503599627370496 ∧ p = (E : Int) - 1075 ∧ b = true)) (w : World) :
    Calls Tryz.prog 30 #[.float .f64 x] w fun e w' => e = .returned (.tuple #[if b then .agg #[.bool s, .int .u64 (d : Int), .int .i64 p] else .agg #[.bool false, .int .u64 0, .int .i64 0], .bool b]) ∧ Below w.heap.size w w' := by
  have f1 := fbits x
  have b1 := b_sign x h
  rw [hs] at b1
  have b2 := b_mask52 x h
  rw [hf] at b2
  have s1 : (x : Int) / 4503599627370496 = ((x / 4503599627370496 : Nat) : Int) := by omega
  have b3 := b_exp (x / 4503599627370496) (by omega)
  rw [hE] at b3
  have hq : f < 4503599627370496 := by omega
  have hE2 : E < 2048 := by omega
  have s2 : IntKind.i64.wrap (E : Int) = (E : Int) := by rw [IntKind.wrap_i64]; omega
  obtain ⟨M, hM⟩ : ∃ M, x / 4503599627370496 = M := ⟨_, rfl⟩
  rw [hM] at s1 b3
  have b4 := b_hidden f hq
  have V := Va.new w 61 #[.bool false, .int .u64 0, .int .i64 0]
  clear hM hE hf hs h
  have B0 : Below w.heap.size w w := Below.refl _ _
  rcases hc with ⟨rfl, rfl⟩ | ⟨rfl, rfl, rfl, rfl⟩ | ⟨c1, c2, c3, c4, rfl⟩
  · cases s
    all_goals
      clear V
      go_enter Tryz.func30, Tryz.ntmps30
      go_wp2_with fail
      refine bodyPost_ret (results_pt rfl rfl (Va.new w _ _)) rfl ?_
      exact ⟨rfl, B0.alloc (Nat.le_refl _) _⟩
  · cases s
    all_goals
      clear V
      go_enter Tryz.func30, Tryz.ntmps30
      go_wp2_with fail
      refine bodyPost_ret (results_pt rfl rfl (Va.new w _ _)) rfl ?_
      exact ⟨rfl, B0.alloc (Nat.le_refl _) _⟩
  · rw [← c3] at b4
    have g1 : ((E : Int) == 2047) = false := by rw [beq_eq_false_iff_ne]; omega
    have g2 : ((E : Int) == 0) = false := by rw [beq_eq_false_iff_ne]; omega
    have g3 : ¬ ((E : Int) = 2047) := by omega
    have g4 : ¬ ((E : Int) = 0) := by omega
    have s3 : IntKind.i64.wrap (-1074 + (E : Int)) = -1074 + (E : Int) := by rw [IntKind.wrap_i64]; omega
    have s4 : IntKind.i64.wrap (-1074 + (E : Int) - 1) = p := by rw [IntKind.wrap_i64]; omega
    clear V c1 c2 c3 c4 hq hE2
    cases s
    all_goals
      go_enter Tryz.func30, Tryz.ntmps30
      go_wp2_with fail
      refine bodyPost_ret (results_pt rfl rfl (Va.new w _ _)) rfl ?_
      exact ⟨rfl, B0.alloc (Nat.le_refl _) _⟩
theorem apart_no (x : Nat) (h : x < 18446744073709551616) (hr : 9218868437227405312 ≤ x % 9223372036854775808) (w : World) :
    Calls Tryz.prog 30 #[.float .f64 x] w fun e w' => e = .returned (.tuple #[.agg #[.bool false, .int .u64 0, .int .i64 0], .bool false]) ∧ Below w.heap.size w w' :=
  apart_core x h 2047 (x % 4503599627370496) 0 (fsg x) 0 (by omega) rfl rfl false (.inl ⟨rfl, rfl⟩) w
theorem apart_fin (x : Nat) (h : x < 18446744073709551616) (hr : x % 9223372036854775808 < 9218868437227405312) (w : World) :
    Calls Tryz.prog 30 #[.float .f64 x] w fun e w' => ∃ d u : Nat, e = .returned (.tuple #[.agg #[.bool (fsg x), .int .u64 (d : Int), .int .i64 ((u : Int) - 1074)], .bool true]) ∧ Hid (d < 9007199254740992 ∧ u ≤ 2045 ∧ fi (x % 9223372036854775808) = d * 2 ^ u) ∧ Below w.heap.size w w' := by
  by_cases g : x % 9223372036854775808 < 4503599627370496
  · refine (apart_core x h 0 (x % 4503599627370496) (x % 4503599627370496) (fsg x) (((0 : Nat) : Int) - 1074) (by omega) rfl rfl true (.inr (.inl ⟨rfl, rfl, rfl, rfl⟩)) w).mono ?_
    rintro e w' ⟨rfl, hb⟩
    refine ⟨x % 4503599627370496, 0, rfl, ⟨by omega, by omega, ?_⟩, hb⟩
    unfold fi; rw [if_pos g, Nat.pow_zero, Nat.mul_one]; omega
  · obtain ⟨E, hE⟩ : ∃ E, x / 4503599627370496 % 2048 = E := ⟨_, rfl⟩
    refine (apart_core x h E (x % 4503599627370496) (x % 4503599627370496 + 4503599627370496) (fsg x) (((E - 1 : Nat) : Int) - 1074) hE rfl rfl true (.inr (.inr ⟨by omega, by omega, rfl, by omega, rfl⟩)) w).mono ?_
    rintro e w' ⟨rfl, hb⟩
    refine ⟨x % 4503599627370496 + 4503599627370496, E - 1, rfl, ⟨by omega, by omega, ?_⟩, hb⟩
    unfold fi; rw [if_neg g]
    have e1 : x % 9223372036854775808 / 4503599627370496 - 1 = E - 1 := by omega
    have e2 : 4503599627370496 + x % 9223372036854775808 % 4503599627370496 = x % 4503599627370496 + 4503599627370496 := by omega
    rw [e1, e2]
end Go.Proofs.YtjlodljgfjjclaaGreat
