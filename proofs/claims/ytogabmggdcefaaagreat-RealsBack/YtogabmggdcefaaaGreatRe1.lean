/-
  The bits of floats: Float64bits and its fellows, outward, inward, isOdd, signed, Abs, IsNaN, IsInf, Signbit, normalize.
-/
import Derived.Test.YtogabmggdcefaaaGreatBsA
import Derived.WalkLawsBesides
import Derived.Laws.FloatArith
import Derived.Test.YtogabmggdcefaaaGreatFlB
import Derived.Test.YtogabmggdcefaaaGreatFlG
import Derived.Test.YtogabmggdcefaaaGreatFlM
namespace Go.Proofs.YtogabmggdcefaaaGreat
open Go.RowKit Go.Shelf
set_option linter.unusedVariables false

theorem fbits (b : Nat) (w : World) : (callFunc 67 #[.float .f64 b]).run Tryz.prog w = .ok (.value (.int .u64 b)) w := by
  rw [run_callFunc_extern Tryz.func67 (by kernel_rfl) (by kernel_rfl) (by kernel_rfl) (e := Extern.MathFloatBits.float64bits) (by kernel_rfl)]
  rfl
theorem ffrom (b : Nat) (w : World) : (callFunc 9 #[.int .u64 (b : Int)]).run Tryz.prog w = .ok (.value (.float .f64 b)) w := by
  rw [run_callFunc_extern Tryz.func9 (by kernel_rfl) (by kernel_rfl) (by kernel_rfl) (e := Extern.MathFloatBits.float64frombits) (by kernel_rfl)]
  rfl

theorem outward8 (x : Nat) (h : x < 18446744073709551615) (w : World) : Calls Tryz.prog 73 #[.float .f64 x] w fun e w' => e = .returned (.float .f64 (x + 1)) ∧ w' = w := by
  obtain ⟨y, hy⟩ : ∃ y, x + 1 = y := ⟨_, rfl⟩
  have e1 : IntKind.u64.wrap ((x : Int) + 1) = (y : Int) := by rw [IntKind.wrap_u64]; omega
  rw [hy]
  have f1 := fbits x
  have f2 := ffrom y
  clear hy
  go_enter Tryz.func73, Tryz.ntmps73
  go_wp2_with fail
  go_ret
  exact ⟨rfl, rfl⟩
theorem inward8 (x : Nat) (h0 : 0 < x) (h : x < 18446744073709551616) (w : World) : Calls Tryz.prog 77 #[.float .f64 x] w fun e w' => e = .returned (.float .f64 (x - 1)) ∧ w' = w := by
  obtain ⟨y, hy⟩ : ∃ y, x - 1 = y := ⟨_, rfl⟩
  have e1 : IntKind.u64.wrap ((x : Int) - 1) = (y : Int) := by rw [IntKind.wrap_u64]; omega
  rw [hy]
  have f1 := fbits x
  have f2 := ffrom y
  clear hy
  go_enter Tryz.func77, Tryz.ntmps77
  go_wp2_with fail
  go_ret
  exact ⟨rfl, rfl⟩
theorem isOdd8 (x : Nat) (h : x < 18446744073709551616) (w : World) : Calls Tryz.prog 72 #[.float .f64 x] w fun e w' => e = .returned (.bool (decide (x % 2 = 1))) ∧ w' = w := by
  have e1 := b_low1 x h
  have f1 := fbits x
  obtain ⟨r, hr⟩ : ∃ r, x % 2 = r := ⟨_, rfl⟩
  rw [hr] at e1 ⊢
  have e2 : r = 0 ∨ r = 1 := by omega
  clear hr
  rcases e2 with rfl | rfl
  all_goals
    go_enter Tryz.func72, Tryz.ntmps72
    go_wp2_with fail
    go_ret
    exact ⟨rfl, rfl⟩
theorem signed8 (x : Nat) (s : Bool) (h : x < 9223372036854775808) (w : World) : Calls Tryz.prog 64 #[.float .f64 x, .bool s] w fun e w' => e = .returned (.float .f64 (wd s x)) ∧ w' = w := by
  have e1 := b_neg x h
  have hw : wd s x = if s then 9223372036854775808 + x else x := rfl
  rw [hw]
  obtain ⟨y, hy⟩ : ∃ y, 9223372036854775808 + x = y := ⟨_, rfl⟩
  rw [hy] at e1 ⊢
  have f1 := fbits x
  have f2 := ffrom y
  clear hy hw
  cases s
  all_goals
    go_enter Tryz.func64, Tryz.ntmps64
    go_wp2_with fail
    go_ret
    exact ⟨rfl, rfl⟩
theorem abs8 (x : Nat) (h : x < 18446744073709551616) (w : World) : Calls Tryz.prog 177 #[.float .f64 x] w fun e w' => e = .returned (.float .f64 (x % 9223372036854775808)) ∧ w' = w := by
  have e1 := b_abs x h
  obtain ⟨y, hy⟩ : ∃ y, x % 9223372036854775808 = y := ⟨_, rfl⟩
  rw [hy] at e1 ⊢
  have f1 := fbits x
  have f2 := ffrom y
  clear hy
  go_enter Tryz.func177, Tryz.ntmps177
  go_wp2_with fail
  go_ret
  exact ⟨rfl, rfl⟩
theorem signbit8 (x : Nat) (h : x < 18446744073709551616) (w : World) : Calls Tryz.prog 34 #[.float .f64 x] w fun e w' => e = .returned (.bool (fsg x)) ∧ w' = w := by
  have f1 := fbits x
  by_cases g : 9223372036854775808 ≤ x
  · have e1 : IntKind.i64.wrap (x : Int) = (x : Int) - 18446744073709551616 := by rw [IntKind.wrap_i64]; omega
    have e2 : decide ((x : Int) - 18446744073709551616 < 0) = true := by rw [decide_eq_true_iff]; omega
    have e3 : fsg x = true := by unfold fsg; simp [g]
    rw [e3]
    go_enter Tryz.func34, Tryz.ntmps34
    go_wp2_with fail
    go_ret
    first | exact ⟨rfl, rfl⟩ | (refine ⟨?_, rfl⟩; rw [e2])
  · have e1 : IntKind.i64.wrap (x : Int) = (x : Int) := by rw [IntKind.wrap_i64]; omega
    have e2 : decide ((x : Int) < 0) = false := by rw [decide_eq_false_iff_not]; omega
    have e3 : fsg x = false := by unfold fsg; simp; omega
    rw [e3]
    go_enter Tryz.func34, Tryz.ntmps34
    go_wp2_with fail
    go_ret
    first | exact ⟨rfl, rfl⟩ | (refine ⟨?_, rfl⟩; rw [e2])
theorem order_self {x : Nat} (h : x < 18446744073709551616) : (FloatKind.f64.format.order x x == some .eq) = decide (x % 9223372036854775808 ≤ 9218868437227405312) := by
  by_cases g : x % 9223372036854775808 ≤ 9218868437227405312
  · rw [float_eq ⟨g, h⟩ ⟨g, h⟩]; simp [g]
  · rw [float_nan .eq h h (.inl (by omega))]; simp; omega
theorem order_not {x : Nat} (h : x < 18446744073709551616) : (FloatKind.f64.format.order x x != some .eq) = decide (9218868437227405312 < x % 9223372036854775808) := by
  unfold bne
  rw [order_self h, ← decide_not, decide_eq_decide]; omega
theorem isNaN8 (x : Nat) (h : x < 18446744073709551616) (w : World) : Calls Tryz.prog 76 #[.float .f64 x] w fun e w' => e = .returned (.bool (decide (9218868437227405312 < x % 9223372036854775808))) ∧ w' = w := by
  rw [← order_not h]
  go_enter Tryz.func76, Tryz.ntmps76
  go_wp2_with fail
  go_ret
  exact ⟨rfl, rfl⟩
/-- IsInf where 0 is asked. -/
theorem isInf8 (x : Nat) (h : x < 18446744073709551616) (w : World) : Calls Tryz.prog 168 #[.float .f64 x, .int .i64 0] w fun e w' => e = .returned (.bool (decide (x % 9223372036854775808 = 9218868437227405312))) ∧ w' = w := by
  have e1 : (FloatKind.f64.format.order (x % 9223372036854775808) 9218868437227405311 == some .gt) = decide (x % 9223372036854775808 = 9218868437227405312) := by
    by_cases g : x % 9223372036854775808 ≤ 9218868437227405312
    · rw [float_gt ⟨by omega, by omega⟩ ⟨by decide, by decide⟩, decide_eq_decide]
      have q := @wd_fz false (x % 9223372036854775808) (by omega)
      have r := @wd_fz false 9218868437227405311 (by decide)
      simp only [wd, Bool.false_eq_true, if_false] at q r
      rw [q, r]
      have := @fi_lt_iff 9218868437227405311 (x % 9223372036854775808)
      omega
    · rw [float_nan .gt (by omega) (by decide) (.inl (by omega))]
      symm; rw [decide_eq_false_iff_not]; omega
  have A := abs8 x h
  obtain ⟨y, hy⟩ : ∃ y, x % 9223372036854775808 = y := ⟨_, rfl⟩
  obtain ⟨z, hz⟩ : ∃ z, decide (x % 9223372036854775808 = 9218868437227405312) = z := ⟨_, rfl⟩
  rw [hz] at e1 ⊢
  rw [hy] at e1 A
  clear hy hz
  go_enter Tryz.func168, Tryz.ntmps168
  go_wp2_with fail
  refine (A _).mono ?_
  rintro e w' ⟨rfl, rfl⟩
  go_wp2_with fail
  go_ret
  exact ⟨by rw [← e1]; rfl, rfl⟩
/-- normalize of a float that is normal. -/
theorem normalize8 (x : Nat) (h : x < 18446744073709551616) (h0 : 4503599627370496 ≤ x % 9223372036854775808) (h1 : x % 9223372036854775808 ≤ 9218868437227405312) (w : World) : Calls Tryz.prog 169 #[.float .f64 x] w fun e w' => e = .returned (.tuple #[.float .f64 x, .int .i64 0]) ∧ w' = w := by
  have e1 : (FloatKind.f64.format.order (x % 9223372036854775808) 4503599627370496 == some .lt) = false := by
    rw [float_lt ⟨by omega, by omega⟩ ⟨by decide, by decide⟩, decide_eq_false_iff_not]
    have q := @wd_fz false (x % 9223372036854775808) (by omega)
    have r := @wd_fz false 4503599627370496 (by decide)
    simp only [wd, Bool.false_eq_true, if_false] at q r
    rw [q, r]
    have := @fi_le_iff 4503599627370496 (x % 9223372036854775808)
    omega
  have A := abs8 x h
  obtain ⟨y, hy⟩ : ∃ y, x % 9223372036854775808 = y := ⟨_, rfl⟩
  rw [hy] at e1 A
  clear hy
  go_enter Tryz.func169, Tryz.ntmps169
  go_wp2_with fail
  refine (A _).mono ?_
  rintro e w' ⟨rfl, rfl⟩
  go_wp2_with fail
  go_ret2
  exact ⟨rfl, rfl⟩
end Go.Proofs.YtogabmggdcefaaaGreat
