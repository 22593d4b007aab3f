/-
  Put together of: FlG, Re1, Re2, Re3.
-/
import Derived.Test.YtmhfoeooccppfaaGreatBrA
import GoSem.Core.Sem
import GoSem.Core.Float
import Derived.Test.YtmhfoeooccppfaaGreatBsA
import Derived.WalkLawsBesides
import Derived.Laws.FloatArith
import Derived.Deep.Cut
import Derived.Test.YtmhfoeooccppfaaGreatBsM
namespace Go.Proofs.YtmhfoeooccppfaaGreat
open Go
set_option linter.unusedVariables false

theorem f64_format : FloatKind.f64.format = Ieee.double := rfl
theorem float_lt {x y : Nat} (hx : Fr x) (hy : Fr y) : (FloatKind.f64.format.order x y == some .lt) = decide (fz x < fz y) := by
  rw [f64_format, order_fz hx hy]
  by_cases h : fz x < fz y
  · simp [compare, compareOfLessAndEq, h]
  · by_cases g : fz x = fz y
    · simp [compare, compareOfLessAndEq, g]
    · simp [compare, compareOfLessAndEq, h, g]
theorem float_eq {x y : Nat} (hx : Fr x) (hy : Fr y) : (FloatKind.f64.format.order x y == some .eq) = decide (fz x = fz y) := by
  rw [f64_format, order_fz hx hy]
  by_cases h : fz x < fz y
  · have : fz x ≠ fz y := by omega
    simp [compare, compareOfLessAndEq, h, this]
  · by_cases g : fz x = fz y
    · simp [compare, compareOfLessAndEq, g]
    · simp [compare, compareOfLessAndEq, h, g]
theorem float_gt {x y : Nat} (hx : Fr x) (hy : Fr y) : (FloatKind.f64.format.order x y == some .gt) = decide (fz y < fz x) := by
  rw [f64_format, order_fz hx hy]
  by_cases h : fz x < fz y
  · have : ¬ fz y < fz x := by omega
    simp [compare, compareOfLessAndEq, h, this]
  · by_cases g : fz x = fz y
    · simp [compare, compareOfLessAndEq, g]
    · have : fz y < fz x := by omega
      simp [compare, compareOfLessAndEq, h, g, this]
theorem float_nan {x y : Nat} (o : Ordering) (lx : x < 18446744073709551616) (ly : y < 18446744073709551616) (h : 9218868437227405312 < x % 9223372036854775808 ∨ 9218868437227405312 < y % 9223372036854775808) : (FloatKind.f64.format.order x y == some o) = false := by
  rw [f64_format, order_nan lx ly h]; rfl
theorem nan_cut (x y t : Nat) : 9218868437227405312 < (Question.nanBits .f64 x y).cut t % 9223372036854775808 ∧ (Question.nanBits .f64 x y).cut t < 18446744073709551616 := by
  have e : (Question.nanBits .f64 x y).cut t = (t % 2) * 9223372036854775808 + 9218868437227405312 + 1 + (t / 2) % 4503599627370495 := by
    simp [Question.cut]
  rw [e]
  have h1 : t % 2 = 0 ∨ t % 2 = 1 := by omega
  have h2 := Nat.mod_lt (t / 2) (show 4503599627370495 > 0 by decide)
  generalize t / 2 % 4503599627370495 = u at *
  rcases h1 with h1 | h1 <;> rw [h1] <;> omega
end Go.Proofs.YtmhfoeooccppfaaGreat

namespace Go.Proofs.YtmhfoeooccppfaaGreat
open Go.RowKit Go.Shelf
set_option linter.unusedVariables false

theorem fbits (b : Nat) (w : World) : (callFunc 94 #[.float .f64 b]).run Tryz.prog w = .ok (.value (.int .u64 b)) w := by
  rw [run_callFunc_extern Tryz.func94 (by kernel_rfl) (by kernel_rfl) (by kernel_rfl) (e := Extern.MathFloatBits.float64bits) (by kernel_rfl)]
  rfl
theorem ffrom (b : Nat) (w : World) : (callFunc 113 #[.int .u64 (b : Int)]).run Tryz.prog w = .ok (.value (.float .f64 b)) w := by
  rw [run_callFunc_extern Tryz.func113 (by kernel_rfl) (by kernel_rfl) (by kernel_rfl) (e := Extern.MathFloatBits.float64frombits) (by kernel_rfl)]
  rfl

theorem abs8 (x : Nat) (h : x < 18446744073709551616) (w : World) : Calls Tryz.prog 91 #[.float .f64 x] w fun e w' => e = .returned (.float .f64 (x % 9223372036854775808)) ∧ w' = w := by
  have e1 := b_abs x h
  obtain ⟨y, hy⟩ : ∃ y, x % 9223372036854775808 = y := ⟨_, rfl⟩
  rw [hy] at e1 ⊢
  have f1 := fbits x
  have f2 := ffrom y
  clear hy
  go_enter Tryz.func91, Tryz.ntmps91
  go_wp2_with fail
  go_ret
  exact ⟨rfl, rfl⟩
theorem order_self {x : Nat} (h : x < 18446744073709551616) : (FloatKind.f64.format.order x x == some .eq) = decide (x % 9223372036854775808 ≤ 9218868437227405312) := by
  by_cases g : x % 9223372036854775808 ≤ 9218868437227405312
  · rw [float_eq ⟨g, h⟩ ⟨g, h⟩]; simp [g]
  · rw [float_nan .eq h h (.inl (by omega))]; simp; omega
theorem order_not {x : Nat} (h : x < 18446744073709551616) : (FloatKind.f64.format.order x x != some .eq) = decide (9218868437227405312 < x % 9223372036854775808) := by
  unfold bne
  rw [order_self h, ← decide_not, decide_eq_decide]; omega
/-- IsInf where 0 is asked. -/
theorem isInf8 (x : Nat) (h : x < 18446744073709551616) (w : World) : Calls Tryz.prog 57 #[.float .f64 x, .int .i64 0] w fun e w' => e = .returned (.bool (decide (x % 9223372036854775808 = 9218868437227405312))) ∧ w' = w := by
  have e1 : (FloatKind.f64.format.order (x % 9223372036854775808) 9218868437227405311 == some .gt) = decide (x % 9223372036854775808 = 9218868437227405312) := by
    by_cases g : x % 9223372036854775808 ≤ 9218868437227405312
    · rw [float_gt ⟨by omega, by omega⟩ ⟨by decide, by decide⟩, decide_eq_decide]
      have q := @wd_fz false (x % 9223372036854775808) (by omega)
      have r := @wd_fz false 9218868437227405311 (by decide)
      simp only [wd, Bool.false_eq_true, if_false] at q r
      rw [q, r]
      have := @fi_lt_iff 9218868437227405311 (x % 9223372036854775808)
      omega
    · rw [float_nan .gt (by omega) (by decide) (.inl (by omega))]
      symm; rw [decide_eq_false_iff_not]; omega
  have A := abs8 x h
  obtain ⟨y, hy⟩ : ∃ y, x % 9223372036854775808 = y := ⟨_, rfl⟩
  obtain ⟨z, hz⟩ : ∃ z, decide (x % 9223372036854775808 = 9218868437227405312) = z := ⟨_, rfl⟩
  rw [hz] at e1 ⊢
  rw [hy] at e1 A
  clear hy hz
  go_enter Tryz.func57, Tryz.ntmps57
  go_wp2_with fail
  refine (A _).mono ?_
  rintro e w' ⟨rfl, rfl⟩
  go_wp2_with fail
  go_ret
  exact ⟨by rw [← e1]; rfl, rfl⟩
end Go.Proofs.YtmhfoeooccppfaaGreat

namespace Go.Proofs.YtmhfoeooccppfaaGreat
open Go.RowKit Go.Shelf
set_option linter.unusedVariables false

end Go.Proofs.YtmhfoeooccppfaaGreat

namespace Go.Proofs.YtmhfoeooccppfaaGreat
open Go.RowKit Go.Shelf
set_option linter.unusedVariables false

theorem results_pt {fn : Func} {i j b : Nat} {x y z : Value} {tmps : Array Value} {w : World} (h : fn.results = #[.cell i 118, .tmp j]) (hi : tmps.getD i undef = .pointer (some ⟨b, 0, none⟩)) (hv : Va w b 118 #[x, y, z]) :
    (results fn tmps).run Tryz.prog w = .ok (.tuple #[.agg #[x, y, z], tmps.getD j undef]) w := by
  have c := hv.d0; have d := hv.d1; have e := hv.d2
  rw [Array.getD_eq_getD_getElem?] at hi
  simp [results, h, hi, c, d, e, go_sem]
theorem apart_core (x : Nat) (h : x < 18446744073709551616) (E f d : Nat) (s : Bool) (p : Int) (hE : x / 4503599627370496 % 2048 = E) (hf : x % 4503599627370496 = f) (hs : fsg x = s) (b : Bool)
    (hc : (E = 2047 ∧ b = false) ∨ (E = 0 ∧ d = f ∧ p = -1074 ∧ b = true) ∨ (E ≠ 0 ∧ E ≠ 2047 ∧ d = f + 4503599627370496 ∧ p = (E : Int) - 1075 ∧ b = true)) (w : World) :
    Calls Tryz.prog 64 #[.float .f64 x] w fun e w' => e = .returned (.tuple #[if b then .agg #[.bool s, .int .u64 (d : Int), .int .i64 p] else .agg #[.bool false, .int .u64 0, .int .i64 0], .bool b]) ∧ Below w.heap.size w w' := by
  have f1 := fbits x
  have b1 := b_sign x h
  rw [hs] at b1
  have b2 := b_mask52 x h
  rw [hf] at b2
  have s1 : (x : Int) / 4503599627370496 = ((x / 4503599627370496 : Nat) : Int) := by omega
  have b3 := b_exp (x / 4503599627370496) (by omega)
  rw [hE] at b3
  have hq : f < 4503599627370496 := by omega
  have hE2 : E < 2048 := by omega
  have s2 : IntKind.i64.wrap (E : Int) = (E : Int) := by rw [IntKind.wrap_i64]; omega
  obtain ⟨M, hM⟩ : ∃ M, x / 4503599627370496 = M := ⟨_, rfl⟩
  rw [hM] at s1 b3
  have b4 := b_hidden f hq
  have V := Va.new w 118 #[.bool false, .int .u64 0, .int .i64 0]
  clear hM hE hf hs h
  have B0 : Below w.heap.size w w := Below.refl _ _
  rcases hc with ⟨rfl, rfl⟩ | ⟨rfl, rfl, rfl, rfl⟩ | ⟨c1, c2, c3, c4, rfl⟩
  · cases s
    all_goals
      clear V
      go_enter Tryz.func64, Tryz.ntmps64
      go_wp2_with fail
      refine bodyPost_ret (results_pt rfl rfl (Va.new w _ _)) rfl ?_
      exact ⟨rfl, B0.alloc (Nat.le_refl _) _⟩
  · cases s
    all_goals
      clear V
      go_enter Tryz.func64, Tryz.ntmps64
      go_wp2_with fail
      refine bodyPost_ret (results_pt rfl rfl (Va.new w _ _)) rfl ?_
      exact ⟨rfl, B0.alloc (Nat.le_refl _) _⟩
  · rw [← c3] at b4
    have g1 : ((E : Int) == 2047) = false := by rw [beq_eq_false_iff_ne]; omega
    have g2 : ((E : Int) == 0) = false := by rw [beq_eq_false_iff_ne]; omega
    have g3 : ¬ ((E : Int) = 2047) := by omega
    have g4 : ¬ ((E : Int) = 0) := by omega
    have s3 : IntKind.i64.wrap (-1074 + (E : Int)) = -1074 + (E : Int) := by rw [IntKind.wrap_i64]; omega
    have s4 : IntKind.i64.wrap (-1074 + (E : Int) - 1) = p := by rw [IntKind.wrap_i64]; omega
    clear V c1 c2 c3 c4 hq hE2
    cases s
    all_goals
      go_enter Tryz.func64, Tryz.ntmps64
      go_wp2_with fail
      refine bodyPost_ret (results_pt rfl rfl (Va.new w _ _)) rfl ?_
      exact ⟨rfl, B0.alloc (Nat.le_refl _) _⟩
theorem apart_no (x : Nat) (h : x < 18446744073709551616) (hr : 9218868437227405312 ≤ x % 9223372036854775808) (w : World) :
    Calls Tryz.prog 64 #[.float .f64 x] w fun e w' => e = .returned (.tuple #[.agg #[.bool false, .int .u64 0, .int .i64 0], .bool false]) ∧ Below w.heap.size w w' :=
  apart_core x h 2047 (x % 4503599627370496) 0 (fsg x) 0 (by omega) rfl rfl false (.inl ⟨rfl, rfl⟩) w
theorem apart_fin (x : Nat) (h : x < 18446744073709551616) (hr : x % 9223372036854775808 < 9218868437227405312) (w : World) :
    Calls Tryz.prog 64 #[.float .f64 x] w fun e w' => ∃ d u : Nat, e = .returned (.tuple #[.agg #[.bool (fsg x), .int .u64 (d : Int), .int .i64 ((u : Int) - 1074)], .bool true]) ∧ Hid (d < 9007199254740992 ∧ u ≤ 2045 ∧ fi (x % 9223372036854775808) = d * 2 ^ u) ∧ Below w.heap.size w w' := by
  by_cases g : x % 9223372036854775808 < 4503599627370496
  · refine (apart_core x h 0 (x % 4503599627370496) (x % 4503599627370496) (fsg x) (((0 : Nat) : Int) - 1074) (by omega) rfl rfl true (.inr (.inl ⟨rfl, rfl, rfl, rfl⟩)) w).mono ?_
    rintro e w' ⟨rfl, hb⟩
    refine ⟨x % 4503599627370496, 0, rfl, ⟨by omega, by omega, ?_⟩, hb⟩
    unfold fi; rw [if_pos g, Nat.pow_zero, Nat.mul_one]; omega
  · obtain ⟨E, hE⟩ : ∃ E, x / 4503599627370496 % 2048 = E := ⟨_, rfl⟩
    refine (apart_core x h E (x % 4503599627370496) (x % 4503599627370496 + 4503599627370496) (fsg x) (((E - 1 : Nat) : Int) - 1074) hE rfl rfl true (.inr (.inr ⟨by omega, by omega, rfl, by omega, rfl⟩)) w).mono ?_
    rintro e w' ⟨rfl, hb⟩
    refine ⟨x % 4503599627370496 + 4503599627370496, E - 1, rfl, ⟨by omega, by omega, ?_⟩, hb⟩
    unfold fi; rw [if_neg g]
    have e1 : x % 9223372036854775808 / 4503599627370496 - 1 = E - 1 := by omega
    have e2 : 4503599627370496 + x % 9223372036854775808 % 4503599627370496 = x % 4503599627370496 + 4503599627370496 := by omega
    rw [e1, e2]
end Go.Proofs.YtmhfoeooccppfaaGreat
