/-
  math.Ldexp where nothing is rounded; reals.together.
-/
import Derived.Test.YtogabmggdcefaaaGreatRe1
import Derived.Deep.Cut
namespace Go.Proofs.YtogabmggdcefaaaGreat
open Go.RowKit Go.Shelf
set_option linter.unusedVariables false

theorem ldexp_core (X : Nat) (p q : Int) (L E f Y r : Nat) (hX : X < 9218868437227405312) (hX0 : 4503599627370496 ≤ X) (hL : X / 4503599627370496 = 1023 + L) (hL2 : L ≤ 52) (hf : X % 4503599627370496 = f) (p1 : -1074 ≤ p) (p2 : p ≤ 971) (hq : p + L = q) (q2 : q ≤ 1023)
    (hc : (-1022 ≤ q ∧ (E : Int) = q + 1023 ∧ E * 4503599627370496 + f = Y ∧ Ieee.double.mul 4607182418800017408 Y = some r) ∨ (q < -1022 ∧ (E : Int) = q + 53 + 1023 ∧ E * 4503599627370496 + f = Y ∧ Ieee.double.mul 4368491638549381120 Y = some r)) (w : World) :
    Calls Tryz.prog 153 #[.float .f64 X, .int .i64 p] w fun e w' => e = .returned (.float .f64 r) ∧ w' = w := by
  have hm : X % 9223372036854775808 = X := by omega
  have e0 : (FloatKind.f64.format.order X 0 == some .eq) = false := by
    rw [float_eq ⟨by omega, by omega⟩ ⟨by decide, by decide⟩, decide_eq_false_iff_not]
    have a := @wd_fz false X (by omega)
    have b := @wd_fz false 0 (by decide)
    simp only [wd, Bool.false_eq_true, if_false] at a b
    rw [a, b]
    have := @fi_pos X (by omega)
    rw [fi_zero]
    omega
  have HI : ∀ w, Calls Tryz.prog 168 #[.float .f64 X, .int .i64 0] w fun e w' => e = .returned (.bool false) ∧ w' = w := fun w => by
    have := isInf8 X (by omega) w
    rw [show decide (X % 9223372036854775808 = 9218868437227405312) = false by rw [decide_eq_false_iff_not]; omega] at this
    exact this
  have HN : ∀ w, Calls Tryz.prog 76 #[.float .f64 X] w fun e w' => e = .returned (.bool false) ∧ w' = w := fun w => by
    have := isNaN8 X (by omega) w
    rw [show decide (9218868437227405312 < X % 9223372036854775808) = false by rw [decide_eq_false_iff_not]; omega] at this
    exact this
  have HZ := normalize8 X (by omega) (by omega) (by omega)
  have f1 := fbits X
  have f2 := ffrom Y
  have w1 : IntKind.i64.wrap p = p := by rw [IntKind.wrap_i64]; omega
  have s1 : (X : Int) / 4503599627370496 = ((1023 + L : Nat) : Int) := by omega
  have s2 : IntKind.i64.wrap ((1023 + L : Nat) : Int) = ((1023 + L : Nat) : Int) := by rw [IntKind.wrap_i64]; omega
  have s3 := b_expi (1023 + L) (by omega)
  generalize hM : 1023 + L = M at *
  have s4 : IntKind.i64.wrap ((M : Int) - 1023) = (L : Int) := by rw [IntKind.wrap_i64]; omega
  have s5 : IntKind.i64.wrap (p + (L : Int)) = q := by rw [IntKind.wrap_i64]; omega
  have g1 : decide (q < -1075) = false := by rw [decide_eq_false_iff_not]; omega
  have g2 : decide (1023 < q) = false := by rw [decide_eq_false_iff_not]; omega
  have b1 := b_frac X (by omega)
  rw [hf] at b1
  have hfl : f < 4503599627370496 := by omega
  rcases hc with ⟨c1, c2, c3, c4⟩ | ⟨c1, c2, c3, c4⟩
  · have g3 : decide (q < -1022) = false := by rw [decide_eq_false_iff_not]; omega
    have s6 : IntKind.i64.wrap (q + 1023) = (E : Int) := by rw [IntKind.wrap_i64]; omega
    have s7 : IntKind.u64.wrap (E : Int) = (E : Int) := by rw [IntKind.wrap_u64]; omega
    have s8 : IntKind.u64.wrap ((E : Int) * 4503599627370496) = ((E * 4503599627370496 : Nat) : Int) := by rw [IntKind.wrap_u64]; omega
    have b2 := b_join f E hfl (by omega)
    rw [c3] at b2
    generalize hG : E * 4503599627370496 = G at *
    have m1 : floatBits .mul .f64 4607182418800017408 Y = some r := c4
    clear c1 c2 c3 c4 hG hM hL hf hm hX hX0 hL2 p1 p2 hq q2 hfl
    go_enter Tryz.func153, Tryz.ntmps153
    go_wp2_with fail
    refine (HI _).mono ?_
    rintro e w' ⟨rfl, rfl⟩
    go_wp2_with fail
    refine (HN _).mono ?_
    rintro e w' ⟨rfl, rfl⟩
    go_wp2_with fail
    refine (HZ _).mono ?_
    rintro e w' ⟨rfl, rfl⟩
    go_wp2_with (simp only [run_float_arith _ _ _ _ _ _ _ m1])
    go_ret
    exact ⟨rfl, rfl⟩
  · have g3 : decide (q < -1022) = true := by rw [decide_eq_true_iff]; omega
    have s9 : IntKind.i64.wrap (q + 53) = q + 53 := by rw [IntKind.wrap_i64]; omega
    have s6 : IntKind.i64.wrap (q + 53 + 1023) = (E : Int) := by rw [IntKind.wrap_i64]; omega
    have s7 : IntKind.u64.wrap (E : Int) = (E : Int) := by rw [IntKind.wrap_u64]; omega
    have s8 : IntKind.u64.wrap ((E : Int) * 4503599627370496) = ((E * 4503599627370496 : Nat) : Int) := by rw [IntKind.wrap_u64]; omega
    have b2 := b_join f E hfl (by omega)
    rw [c3] at b2
    generalize hG : E * 4503599627370496 = G at *
    have m1 : floatBits .mul .f64 4368491638549381120 Y = some r := c4
    clear c1 c2 c3 c4 hG hM hL hf hm hX hX0 hL2 p1 p2 hq q2 hfl
    go_enter Tryz.func153, Tryz.ntmps153
    go_wp2_with fail
    refine (HI _).mono ?_
    rintro e w' ⟨rfl, rfl⟩
    go_wp2_with fail
    refine (HN _).mono ?_
    rintro e w' ⟨rfl, rfl⟩
    go_wp2_with fail
    refine (HZ _).mono ?_
    rintro e w' ⟨rfl, rfl⟩
    go_wp2_with (simp only [run_float_arith _ _ _ _ _ _ _ m1])
    go_ret
    exact ⟨rfl, rfl⟩

set_option maxRecDepth 4000 in
theorem ldexp8 (n e : Nat) (h : n < 9007199254740992) (he : e = 0 ∨ 4503599627370496 ≤ n) (he2 : e ≤ 2045) (w : World) :
    Calls Tryz.prog 153 #[.float .f64 (wi n), .int .i64 ((e : Int) - 1074)] w fun x w' => x = .returned (.float .f64 (e * 4503599627370496 + n)) ∧ w' = w := by
  by_cases n0 : n = 0
  · subst n0
    obtain rfl : e = 0 := by omega
    have e0 : (FloatKind.f64.format.order 0 0 == some .eq) = true := by decide
    go_enter Tryz.func153, Tryz.ntmps153
    go_wp2_with fail
    go_ret
    exact ⟨rfl, rfl⟩
  · obtain ⟨a, b, c⟩ := log_53 h n0
    obtain ⟨m1, m2⟩ := wi_m h n0
    have hw : wi n = (1022 + n.log2) * 4503599627370496 + n * 2 ^ (52 - n.log2) := by unfold wi; rw [if_neg n0]
    have hlt := wi_lt h
    by_cases h52 : n.log2 = 52
    · have hm : n * 2 ^ (52 - n.log2) = n := by rw [h52]; simp
      rw [hm] at hw m1 m2
      refine ldexp_core (wi n) ((e : Int) - 1074) ((e : Int) - 1022) n.log2 (e + 1) (n - 4503599627370496) (e * 4503599627370496 + n) (e * 4503599627370496 + n) hlt (by omega) (by omega) a (by omega) (by omega) (by omega) (by omega) (by omega) (.inl ⟨by omega, by omega, by omega, ?_⟩) w
      exact mul_two 0 _ _ (by omega) (by omega) (by omega) (by simp)
    · obtain rfl : e = 0 := by
        rcases he with he | he
        · exact he
        · have : n.log2 = 52 := (Nat.log2_eq_iff n0).2 ⟨he, h⟩
          omega
      have e3 : fi ((n.log2 + 1) * 4503599627370496 + n * 2 ^ (52 - n.log2)) = fi n * 2 ^ 53 := by
        rw [fi_at _ _ (.inr m1) (by omega)]
        have f0 := fi_at 0 n (.inl rfl) (by omega)
        rw [Nat.zero_mul, Nat.zero_add, Nat.pow_zero, Nat.mul_one] at f0
        rw [f0, Nat.mul_assoc, ← Nat.pow_add]
        congr 2; omega
      obtain ⟨m, hm⟩ : ∃ m, n * 2 ^ (52 - n.log2) = m := ⟨_, rfl⟩
      rw [hm] at hw m1 m2 e3
      clear hm b c
      refine ldexp_core (wi n) (((0 : Nat) : Int) - 1074) ((n.log2 : Int) - 1074) n.log2 (n.log2 + 2) (m - 4503599627370496) ((n.log2 + 1) * 4503599627370496 + m) (0 * 4503599627370496 + n) hlt (by omega) (by omega) a (by omega) (by omega) (by omega) (by omega) (by omega) (.inr ⟨by omega, by omega, by omega, ?_⟩) w
      have q := mul_two 53 ((n.log2 + 1) * 4503599627370496 + m) n (by omega) (by omega) (by omega) e3
      have e4 : (1023 - 53) * 4503599627370496 = 4368491638549381120 := by decide
      rw [e4] at q
      rw [Nat.zero_mul, Nat.zero_add]
      exact q
theorem together8 (n e : Nat) (h : n < 9007199254740992) (he : e = 0 ∨ 4503599627370496 ≤ n) (he2 : e ≤ 2045) (p : Int) (hp : p = (e : Int) - 1074) (w : World) :
    Calls Tryz.prog 104 #[.int .u64 (n : Int), .int .i64 p] w fun x w' => x = .returned (.float .f64 (e * 4503599627370496 + n)) ∧ w' = w := by
  have hf : floatOfInt FloatKind.f64 (n : Int) = wi n := by
    have := of_nat h
    rw [← this]
    show Ieee.double.nearest (decide ((n : Int) < 0)) (n : Int).natAbs 0 = _
    rw [show decide ((n : Int) < 0) = false by rw [decide_eq_false_iff_not]; omega]
    rfl
  have A := ldexp8 n e h he he2
  rw [← hp] at A
  obtain ⟨y, hy⟩ : ∃ y, wi n = y := ⟨_, rfl⟩
  rw [hy] at A hf
  have B : ∀ w, Calls Tryz.prog 133 #[.float .f64 y, .int .i64 p] w fun x w' => x = .returned (.float .f64 (e * 4503599627370496 + n)) ∧ w' = w := by
    intro w
    clear hp hy hf
    go_enter Tryz.func133, Tryz.ntmps133
    go_wp2_with fail
    refine (A _).mono ?_
    rintro e w' ⟨rfl, rfl⟩
    go_wp2_with fail
    go_ret
    exact ⟨rfl, rfl⟩
  clear hp hy A
  go_enter Tryz.func104, Tryz.ntmps104
  go_wp2_with fail
  refine (B _).mono ?_
  rintro e w' ⟨rfl, rfl⟩
  go_wp2_with fail
  go_ret
  exact ⟨rfl, rfl⟩
end Go.Proofs.YtogabmggdcefaaaGreat
