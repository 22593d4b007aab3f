/-
  Put together of: Rf3, Rf4, Rg1.
-/
import Derived.Test.YtjlodljgfjjclaaGreatBrC
namespace Go.Proofs.YtjlodljgfjjclaaGreat
open Go.RowKit Go.Shelf
set_option linter.unusedVariables false

end Go.Proofs.YtjlodljgfjjclaaGreat

namespace Go.Proofs.YtjlodljgfjjclaaGreat
open Go.RowKit Go.Shelf
set_option linter.unusedVariables false

theorem finite8_yes (x : Nat) (h : x < 18446744073709551616) (hr : x % 9223372036854775808 < 9218868437227405312) (w : World) : Calls Tryz.prog 39 #[.float .f64 x] w fun e w' => e = .returned (.bool true) ∧ Below w.heap.size w w' := by
  have m1 : floatBits .sub .f64 x x = some 0 := sub_self h hr
  have q1 : (FloatKind.f64.format.order 0 0 == some .eq) = true := by decide
  go_enter Tryz.func39, Tryz.ntmps39
  go_wp2_with (simp only [run_float_arith _ _ _ _ _ _ _ m1])
  go_ret
  exact ⟨rfl, Below.refl _ _⟩
theorem sub_drawn (x : Nat) (h : x < 18446744073709551616) (hr : 9218868437227405312 ≤ x % 9223372036854775808) (t : TypeId) (w : World) : ∃ N, (binOp .sub t (.float .f64 x) (.float .f64 x)).run Tryz.prog w = .ok (.float .f64 N) w.drew ∧ 9218868437227405312 < N % 9223372036854775808 ∧ N < 18446744073709551616 := by
  have m1 : FloatKind.f64.format.sub x x = none := sub_self_not h hr
  refine ⟨(Question.nanBits .f64 x x).cut (w.tape w.drawn (.nanBits .f64 x x)), ?_, nan_cut _ _ _⟩
  simp [binOp, Op.floatArith, m1, Question.forced]
theorem finite8_no (x : Nat) (h : x < 18446744073709551616) (hr : 9218868437227405312 ≤ x % 9223372036854775808) (w : World) : Calls Tryz.prog 39 #[.float .f64 x] w fun e w' => e = .returned (.bool false) ∧ Below w.heap.size w w' := by
  obtain ⟨N, e1, e2, e3⟩ := sub_drawn x h hr 23 w
  have q1 : (FloatKind.f64.format.order N 0 == some .eq) = false := float_nan .eq e3 (by decide) (.inl e2)
  go_enter Tryz.func39, Tryz.ntmps39
  go_wp2_with (simp only [e1])
  go_ret
  exact ⟨rfl, (Below.refl _ _).drew⟩
end Go.Proofs.YtjlodljgfjjclaaGreat

namespace Go.Proofs.YtjlodljgfjjclaaGreat
open Go.RowKit Go.Shelf
set_option linter.unusedVariables false

theorem run_neg (b : Nat) (w : World) : (Op.unary .neg (.float .f64 b)).run Tryz.prog w = .ok (.float .f64 (Op.negFloat .f64 b)) w := rfl
theorem neg_f {b : Nat} (hb : b < 18446744073709551616) : Op.negFloat .f64 b = wd (!fsg b) (b % 9223372036854775808) := by
  show b ^^^ 2 ^ 63 = _
  exact b_flip b hb
theorem wd_mod8 {s : Bool} {r : Nat} (h : r ≤ 9218868437227405312) : wd s r < 18446744073709551616 ∧ wd s r % 9223372036854775808 = r ∧ fsg (wd s r) = s := by
  unfold wd fsg
  cases s
  · simp only [Bool.false_eq_true, if_false]
    exact ⟨by omega, by omega, decide_eq_false (by omega)⟩
  · simp only [if_true]
    exact ⟨by omega, by omega, decide_eq_true (by omega)⟩
theorem inf_p (w : World) : Calls Tryz.prog 66 #[.int .i64 1] w fun e w' => e = .returned (.float .f64 9218868437227405312) ∧ w' = w := by
  have f2 : ∀ w, (callFunc 7 #[.int .u64 9218868437227405312]).run Tryz.prog w = .ok (.value (.float .f64 9218868437227405312)) w := fun w => ffrom 9218868437227405312 w
  go_enter Tryz.func66, Tryz.ntmps66
  go_wp2_with fail
  go_ret
  exact ⟨rfl, rfl⟩
theorem inf_n (w : World) : Calls Tryz.prog 66 #[.int .i64 (-1)] w fun e w' => e = .returned (.float .f64 18442240474082181120) ∧ w' = w := by
  have f2 : ∀ w, (callFunc 7 #[.int .u64 18442240474082181120]).run Tryz.prog w = .ok (.value (.float .f64 18442240474082181120)) w := fun w => ffrom 18442240474082181120 w
  go_enter Tryz.func66, Tryz.ntmps66
  go_wp2_with fail
  go_ret
  exact ⟨rfl, rfl⟩
/-- The place of a word in the row. -/
def plc (x : Nat) : Int := if fsg x then -((x % 9223372036854775808 : Nat) : Int) else ((x % 9223372036854775808 : Nat) : Int)
theorem rplace8 (x : Nat) (h : Fr x) (w : World) : Calls Tryz.prog 42 #[.float .f64 x] w fun e w' => e = .returned (.int .i64 (plc x)) ∧ w' = w := by
  have f1 := fbits x
  obtain ⟨m, hm⟩ : ∃ m, x % 9223372036854775808 = m := ⟨_, rfl⟩
  have hm2 : m < 9223372036854775808 := by omega
  have e1 : (x : Int).tmod 9223372036854775808 = (m : Int) := by rw [Int.tmod_eq_emod_of_nonneg (by omega)]; omega
  have e1' : (x : Int) % 9223372036854775808 = (m : Int) := by omega
  have e2 : IntKind.u64.wrap (m : Int) = (m : Int) := by rw [IntKind.wrap_u64]; omega
  have e3 : IntKind.i64.wrap (m : Int) = (m : Int) := by rw [IntKind.wrap_i64]; omega
  have e4 : IntKind.i64.wrap (-(m : Int)) = -(m : Int) := by rw [IntKind.wrap_i64]; omega
  have hp : plc x = if fsg x then -(m : Int) else (m : Int) := by unfold plc; rw [hm]
  by_cases h0 : m = 0
  · have q : (FloatKind.f64.format.order x 0 == some .lt) = false := by
      rw [float_lt h ⟨by decide, by decide⟩]
      have z : fz x = 0 := by rw [fz_sg h.2, hm, h0, fi_zero]; cases fsg x <;> rfl
      rw [z]; decide
    have hp2 : plc x = (m : Int) := by rw [hp, h0]; cases fsg x <;> rfl
    rw [hp2]
    clear hp hp2 hm h0
    go_enter Tryz.func42, Tryz.ntmps42
    go_wp2_with fail
    go_ret
    exact ⟨rfl, rfl⟩
  · have q := lt_zero h (by omega)
    obtain ⟨t, ht⟩ : ∃ t, fsg x = t := ⟨_, rfl⟩
    rw [ht] at q hp
    rw [hp]
    clear hp hm h0 ht
    cases t
    all_goals
      go_enter Tryz.func42, Tryz.ntmps42
      go_wp2_with fail
      go_ret
      exact ⟨rfl, rfl⟩
theorem rfloat8 (k : Int) (h : k.natAbs ≤ 9218868437227405312) (w : World) : Calls Tryz.prog 62 #[.int .i64 k] w fun e w' => e = .returned (.float .f64 (fw k)) ∧ w' = w := by
  by_cases g : k < 0
  · obtain ⟨m, hm⟩ : ∃ m : Nat, (-k).toNat = m := ⟨_, rfl⟩
    have e1 : IntKind.i64.wrap (-k) = (m : Int) := by rw [IntKind.wrap_i64]; omega
    have e2 : IntKind.u64.wrap (m : Int) = (m : Int) := by rw [IntKind.wrap_u64]; omega
    have f2 := ffrom m
    have g1 : decide (k < 0) = true := decide_eq_true g
    have hn := run_neg m
    have hw : fw k = Op.negFloat .f64 m := by
      rw [neg_f (by omega)]
      unfold fw fsg wd
      rw [if_neg (by omega), decide_eq_false (by omega), hm]
      simp only [Bool.not_false, if_true]
      omega
    rw [hw]
    clear hw hm h
    go_enter Tryz.func62, Tryz.ntmps62
    go_wp2_with fail
    go_ret
    exact ⟨rfl, rfl⟩
  · obtain ⟨m, rfl⟩ := Int.eq_ofNat_of_zero_le (show 0 ≤ k by omega)
    have e2 : IntKind.u64.wrap (m : Int) = (m : Int) := by rw [IntKind.wrap_u64]; omega
    have f2 := ffrom m
    have g1 : decide ((m : Int) < 0) = false := decide_eq_false g
    have hw : fw (m : Int) = m := by unfold fw; rw [if_pos (by omega)]; omega
    rw [hw]
    clear hw h
    go_enter Tryz.func62, Tryz.ntmps62
    go_wp2_with fail
    go_ret
    exact ⟨rfl, rfl⟩
theorem rnan_no' (x : Nat) (h : Fr x) (w : World) : Calls Tryz.prog 64 #[.float .f64 x] w fun e w' => e = .returned (.bool false) ∧ w' = w := by
  have := rnan8 x h.2 w
  rw [show decide (9218868437227405312 < x % 9223372036854775808) = false by rw [decide_eq_false_iff_not]; have := h.1; omega] at this
  exact this
theorem rnan_yes' (x : Nat) (h : x < 18446744073709551616) (h2 : 9218868437227405312 < x % 9223372036854775808) (w : World) : Calls Tryz.prog 64 #[.float .f64 x] w fun e w' => e = .returned (.bool true) ∧ w' = w := by
  have := rnan8 x h w
  rw [show decide (9218868437227405312 < x % 9223372036854775808) = true by rw [decide_eq_true_iff]; exact h2] at this
  exact this
theorem rnext_nan (x : Nat) (up : Bool) (h : x < 18446744073709551616) (h2 : 9218868437227405312 < x % 9223372036854775808) (w : World) : Calls Tryz.prog 29 #[.float .f64 x, .bool up] w fun e w' => e = .returned (.tuple #[.float .f64 0, .int .i64 80]) ∧ Below w.heap.size w w' := by
  have A := rnan_yes' x h h2
  clear h h2
  go_enter Tryz.func29, Tryz.ntmps29
  go_wp2_with fail
  refine (A _).mono ?_
  rintro e w' ⟨rfl, rfl⟩
  go_wp2_with fail
  go_ret2
  exact ⟨rfl, Below.refl _ _⟩
theorem fw_nx {x : Nat} (h : Fr x) (hr : x % 9223372036854775808 < 9218868437227405312) (h1 : plc x ≠ 9218868437227405311) (h2 : plc x ≠ -1) : fw (plc x + 1) = nx x true ∧ (plc x + 1).natAbs ≤ 9218868437227405312 := by
  have hx := h.2
  unfold plc at *
  cases hs : fsg x
  · rw [hs] at h1 h2
    have hlt : x < 9223372036854775808 := by have := of_decide_eq_false hs; omega
    have hm : x % 9223372036854775808 = x := by omega
    simp only [Bool.false_eq_true, if_false] at h1 h2 ⊢
    rw [hm] at h1 h2 ⊢
    refine ⟨?_, by omega⟩
    unfold fw nx
    rw [if_pos (by omega), hm, hs]
    by_cases h0 : x = 0
    · rw [if_pos h0, h0]; rfl
    · rw [if_neg h0, if_neg (by decide), if_neg (by omega)]; omega
  · rw [hs] at h1 h2
    have hge : 9223372036854775808 ≤ x := of_decide_eq_true hs
    simp only [if_true] at *
    refine ⟨?_, by omega⟩
    unfold fw nx
    rw [hs]
    by_cases h0 : x % 9223372036854775808 = 0
    · rw [if_pos h0, h0]; rfl
    · rw [if_neg h0, if_pos rfl, if_neg (by omega)]; omega
set_option maxHeartbeats 2000000 in
theorem rnext_up (x : Nat) (h : Fr x) (w : World) : Calls Tryz.prog 29 #[.float .f64 x, .bool true] w fun e w' => e = .returned (.tuple #[.float .f64 (nx x true), .int .i64 0]) ∧ Below w.heap.size w w' := by
  have A := rnan_no' x h
  have HF : Hid (Fr x) := h
  have B0 : Below w.heap.size w w := Below.refl _ _
  by_cases hi : x % 9223372036854775808 = 9218868437227405312
  · have HN : Hid (9218868437227405312 ≤ x % 9223372036854775808) := by show _ ≤ _; omega
    have q := gt_zero' h (by omega)
    have FN := finite8_no x h.2 HN.out
    by_cases hs : fsg x = true
    · have e1 : nx x true = 18442240474082181119 := by
        have hx : x = 18442240474082181120 := by have := h.2; have := of_decide_eq_true hs; omega
        rw [hx]; decide
      rw [hs] at q
      have R := rfloat8 (-9218868437227405311) (by decide)
      have e2 : fw (-9218868437227405311) = 18442240474082181119 := by decide
      rw [e2] at R
      rw [e1]
      clear e1 e2 hs hi h
      go_enter Tryz.func29, Tryz.ntmps29
      go_wp2_with fail
      refine (A _).mono ?_
      rintro e w' ⟨rfl, rfl⟩
      go_wp2_with fail
      refine (FN _).mono ?_
      rintro e w1 ⟨rfl, hb⟩
      go_wp2_with fail
      refine (R _).mono ?_
      rintro e w2 ⟨rfl, rfl⟩
      go_wp2_with fail
      go_ret2
      exact ⟨rfl, hb⟩
    · have hs' : fsg x = false := by simpa using hs
      have e1 : nx x true = x := by
        unfold nx; rw [if_neg (by omega), hs', if_neg (by decide), if_pos hi]
      rw [hs'] at q
      rw [e1]
      clear e1 hs hs' hi h
      go_enter Tryz.func29, Tryz.ntmps29
      go_wp2_with fail
      refine (A _).mono ?_
      rintro e w' ⟨rfl, rfl⟩
      go_wp2_with fail
      refine (FN _).mono ?_
      rintro e w1 ⟨rfl, hb⟩
      go_wp2_with fail
      go_ret2
      exact ⟨rfl, hb⟩
  · have hr : x % 9223372036854775808 < 9218868437227405312 := by have := h.1; omega
    have FY := finite8_yes x h.2 hr
    have P := rplace8 x h
    have qe : ∃ t, (FloatKind.f64.format.order x 0 == some .gt) = t := ⟨_, rfl⟩
    obtain ⟨t, q⟩ := qe
    obtain ⟨k, hk⟩ : ∃ k, plc x = k := ⟨_, rfl⟩
    rw [hk] at P
    by_cases h1 : k = 9218868437227405311
    · have e1 : nx x true = 9218868437227405312 := by
        have hx : x = 9218868437227405311 := by
          have := h.2
          unfold plc at hk
          cases hs : fsg x
          · rw [hs] at hk; have := of_decide_eq_false hs; simp only [Bool.false_eq_true, if_false] at hk; omega
          · rw [hs] at hk; simp only [if_true] at hk; omega
        rw [hx]; decide
      rw [e1]
      have I := inf_p
      clear e1 hi h hr hk
      subst h1
      cases t
      ·
        go_enter Tryz.func29, Tryz.ntmps29
        go_wp2_with fail
        refine (A _).mono ?_
        rintro e w' ⟨rfl, rfl⟩
        go_wp2_with fail
        refine (FY _).mono ?_
        rintro e w1 ⟨rfl, hb⟩
        replace B0 := step B0 hb
        clear hb
        go_wp2_with fail
        refine (P _).mono ?_
        rintro e w3 ⟨rfl, rfl⟩
        go_wp2_with fail
        refine (I _).mono ?_
        rintro e w3 ⟨rfl, rfl⟩
        go_wp2_with fail
        go_ret2
        exact ⟨rfl, B0⟩
      ·
        go_enter Tryz.func29, Tryz.ntmps29
        go_wp2_with fail
        refine (A _).mono ?_
        rintro e w' ⟨rfl, rfl⟩
        go_wp2_with fail
        refine (FY _).mono ?_
        rintro e w1 ⟨rfl, hb⟩
        replace B0 := step B0 hb
        clear hb
        go_wp2_with fail
        refine (FY _).mono ?_
        rintro e w1 ⟨rfl, hb⟩
        replace B0 := step B0 hb
        clear hb
        go_wp2_with fail
        refine (P _).mono ?_
        rintro e w3 ⟨rfl, rfl⟩
        go_wp2_with fail
        refine (I _).mono ?_
        rintro e w3 ⟨rfl, rfl⟩
        go_wp2_with fail
        go_ret2
        exact ⟨rfl, B0⟩
    · have g1 : (k == 9218868437227405311) = false := by rw [beq_eq_false_iff_ne]; exact h1
      by_cases h2 : k = -1
      · have e1 : nx x true = Op.negFloat .f64 0 := by
          have hx : x = 9223372036854775809 := by
            have := h.2
            unfold plc at hk
            cases hs : fsg x
            · rw [hs] at hk; simp only [Bool.false_eq_true, if_false] at hk; omega
            · rw [hs] at hk; have := of_decide_eq_true hs; simp only [if_true] at hk; omega
          rw [hx]; decide
        rw [e1]
        have I := rfloat8 0 (by decide)
        have e2 : fw 0 = 0 := by decide
        rw [e2] at I
        have ng := run_neg 0
        clear e1 e2 hi h hr hk h1 g1
        subst h2
        cases t
        ·
          go_enter Tryz.func29, Tryz.ntmps29
          go_wp2_with fail
          refine (A _).mono ?_
          rintro e w' ⟨rfl, rfl⟩
          go_wp2_with fail
          refine (FY _).mono ?_
          rintro e w1 ⟨rfl, hb⟩
          replace B0 := step B0 hb
          clear hb
          go_wp2_with fail
          refine (P _).mono ?_
          rintro e w3 ⟨rfl, rfl⟩
          go_wp2_with fail
          refine (I _).mono ?_
          rintro e w3 ⟨rfl, rfl⟩
          go_wp2_with fail
          go_ret2
          exact ⟨rfl, B0⟩
        ·
          go_enter Tryz.func29, Tryz.ntmps29
          go_wp2_with fail
          refine (A _).mono ?_
          rintro e w' ⟨rfl, rfl⟩
          go_wp2_with fail
          refine (FY _).mono ?_
          rintro e w1 ⟨rfl, hb⟩
          replace B0 := step B0 hb
          clear hb
          go_wp2_with fail
          refine (FY _).mono ?_
          rintro e w1 ⟨rfl, hb⟩
          replace B0 := step B0 hb
          clear hb
          go_wp2_with fail
          refine (P _).mono ?_
          rintro e w3 ⟨rfl, rfl⟩
          go_wp2_with fail
          refine (I _).mono ?_
          rintro e w3 ⟨rfl, rfl⟩
          go_wp2_with fail
          go_ret2
          exact ⟨rfl, B0⟩
      · have g2 : (k == -1) = false := by rw [beq_eq_false_iff_ne]; exact h2
        obtain ⟨e1, e2⟩ := fw_nx h hr (by rw [hk]; exact h1) (by rw [hk]; exact h2)
        rw [hk] at e1 e2
        have I := rfloat8 (k + 1) e2
        rw [e1] at I
        have w1 : IntKind.i64.wrap (k + 1) = k + 1 := by rw [IntKind.wrap_i64]; omega
        clear e1 e2 hi h hr hk
        cases t
        ·
          go_enter Tryz.func29, Tryz.ntmps29
          go_wp2_with fail
          refine (A _).mono ?_
          rintro e w' ⟨rfl, rfl⟩
          go_wp2_with fail
          refine (FY _).mono ?_
          rintro e w1 ⟨rfl, hb⟩
          replace B0 := step B0 hb
          clear hb
          go_wp2_with fail
          refine (P _).mono ?_
          rintro e w3 ⟨rfl, rfl⟩
          go_wp2_with fail
          refine (I _).mono ?_
          rintro e w3 ⟨rfl, rfl⟩
          go_wp2_with fail
          go_ret2
          exact ⟨rfl, B0⟩
        ·
          go_enter Tryz.func29, Tryz.ntmps29
          go_wp2_with fail
          refine (A _).mono ?_
          rintro e w' ⟨rfl, rfl⟩
          go_wp2_with fail
          refine (FY _).mono ?_
          rintro e w1 ⟨rfl, hb⟩
          replace B0 := step B0 hb
          clear hb
          go_wp2_with fail
          refine (FY _).mono ?_
          rintro e w1 ⟨rfl, hb⟩
          replace B0 := step B0 hb
          clear hb
          go_wp2_with fail
          refine (P _).mono ?_
          rintro e w3 ⟨rfl, rfl⟩
          go_wp2_with fail
          refine (I _).mono ?_
          rintro e w3 ⟨rfl, rfl⟩
          go_wp2_with fail
          go_ret2
          exact ⟨rfl, B0⟩
theorem nx_flip {x : Nat} (h : Fr x) : Op.negFloat .f64 (nx (Op.negFloat .f64 x) true) = nx x false ∧ Fr (Op.negFloat .f64 x) := by
  have hx := h.2
  have h1 := h.1
  have hm := @wd_mod8 (!fsg x) (x % 9223372036854775808) h1
  rw [neg_f hx]
  have hs : fsg (wd (!fsg x) (x % 9223372036854775808)) = !fsg x := hm.2.2
  refine ⟨?_, wd_fr h1⟩
  have hnx : nx (wd (!fsg x) (x % 9223372036854775808)) true < 18446744073709551616 := by
    unfold nx
    rw [hm.2.1, hs]
    have := hm.1
    split
    · decide
    · split
      · omega
      · split
        · omega
        · unfold wd at *
          split <;> rename_i g <;> simp_all <;> omega
  rw [neg_f hnx]
  unfold nx
  rw [hm.2.1, hs]
  have hw := wd_sg hx
  by_cases h0 : x % 9223372036854775808 = 0
  · rw [if_pos h0, if_pos h0]; decide
  · rw [if_neg h0, if_neg h0]
    cases hg : fsg x
    · have hlt := of_decide_eq_false hg
      rw [if_pos (by rfl), if_pos rfl]
      unfold wd fsg
      simp only [Bool.not_false, if_true]
      rw [decide_eq_true (by omega)]
      simp only [Bool.not_true, Bool.false_eq_true, if_false]
      omega
    · have hge := of_decide_eq_true hg
      rw [if_neg (show ¬ (true = !true) by decide), if_neg (show ¬ (false = true) by decide)]
      by_cases hi : x % 9223372036854775808 = 9218868437227405312
      · rw [if_pos hi, if_pos hi]
        unfold wd fsg
        simp only [Bool.not_true, Bool.false_eq_true, if_false]
        rw [decide_eq_false (by omega)]
        simp only [Bool.not_false, if_true]
        omega
      · rw [if_neg hi, if_neg hi]
        unfold wd fsg
        simp only [Bool.not_true, Bool.false_eq_true, if_false]
        rw [decide_eq_false (by omega)]
        simp only [Bool.not_false, if_true]
        omega
theorem rnext_down (x : Nat) (h : Fr x) (w : World) : Calls Tryz.prog 29 #[.float .f64 x, .bool false] w fun e w' => e = .returned (.tuple #[.float .f64 (nx x false), .int .i64 0]) ∧ Below w.heap.size w w' := by
  have A := rnan_no' x h
  obtain ⟨e1, e2⟩ := nx_flip h
  have R := rnext_up _ e2
  rw [← e1]
  have n1 := run_neg x
  obtain ⟨y, hy⟩ : ∃ y, Op.negFloat .f64 x = y := ⟨_, rfl⟩
  rw [hy] at R n1 ⊢
  obtain ⟨z, hz⟩ : ∃ z, nx y true = z := ⟨_, rfl⟩
  rw [hz] at R ⊢
  have n2 := run_neg z
  clear e1 e2 hy hz h
  go_enter Tryz.func29, Tryz.ntmps29
  go_wp2_with fail
  refine (A _).mono ?_
  rintro e w' ⟨rfl, rfl⟩
  go_wp2_with fail
  refine (R _).mono ?_
  rintro e w1 ⟨rfl, hb⟩
  go_wp2_with fail
  go_ret2
  exact ⟨rfl, hb⟩
end Go.Proofs.YtjlodljgfjjclaaGreat
