/-
  reals.Compare, Next, Int64.
-/
import Derived.Test.YtjlodljgfjjclaaGreatRe7
import Derived.Test.YtjlodljgfjjclaaGreatWh8a
namespace Go.Proofs.YtjlodljgfjjclaaGreat
open Go.RowKit Go.Shelf
set_option linter.unusedVariables false

/-- A float held against a number. -/
noncomputable def cw (x : Nat) (v : Rat) : Int := if x % 9223372036854775808 = 9218868437227405312 then (if fsg x then -1 else 1) else cmp3 (fz x * (v.den : Int)) (v.num * (K8 : Int))
theorem qcmp_fv (x : Nat) (v : Rat) : qcmp (fv x) v = cmp3 (fz x * (v.den : Int)) (v.num * (K8 : Int)) := by
  have h := @fv_lt x v
  unfold qcmp cmp3
  have h3 : v.num * ((fv x).den : Int) < (fv x).num * (v.den : Int) ↔ v.num * (K8 : Int) < fz x * (v.den : Int) := by
    generalize (fv x).num * (v.den : Int) = A at *
    generalize v.num * ((fv x).den : Int) = B at *
    generalize fz x * (v.den : Int) = C at *
    generalize v.num * (K8 : Int) = D at *
    omega
  simp only [h.1, h3]
theorem isNaN_no (x : Nat) (h : Fr x) (w : World) : Calls Tryz.prog 72 #[.float .f64 x] w fun e w' => e = .returned (.bool false) ∧ w' = w := by
  have := isNaN8 x h.2 w
  rw [show decide (9218868437227405312 < x % 9223372036854775808) = false by rw [decide_eq_false_iff_not]; have := h.1; omega] at this
  exact this
theorem isNaN_yes (x : Nat) (h : x < 18446744073709551616) (h2 : 9218868437227405312 < x % 9223372036854775808) (w : World) : Calls Tryz.prog 72 #[.float .f64 x] w fun e w' => e = .returned (.bool true) ∧ w' = w := by
  have := isNaN8 x h w
  rw [show decide (9218868437227405312 < x % 9223372036854775808) = true by rw [decide_eq_true_iff]; exact h2] at this
  exact this
theorem fz_neg_iff {x : Nat} (h : x < 18446744073709551616) (h0 : x % 9223372036854775808 ≠ 0) : (fz x < 0 ↔ fsg x = true) ∧ (0 < fz x ↔ fsg x = false) ∧ fz x ≠ 0 := by
  have hp := @fi_pos (x % 9223372036854775808) (by omega)
  rw [fz_sg h]
  cases fsg x <;> simp <;> omega
theorem lt_zero {x : Nat} (h : Fr x) (h0 : x % 9223372036854775808 ≠ 0) : (FloatKind.f64.format.order x 0 == some .lt) = fsg x := by
  rw [float_lt h ⟨by decide, by decide⟩]
  have := fz_neg_iff h.2 h0
  have z : fz 0 = 0 := rfl
  rw [z]
  cases hs : fsg x
  · rw [decide_eq_false_iff_not]; rw [hs] at this; simp at this; omega
  · rw [decide_eq_true_iff]; exact this.1.2 hs
theorem gt_zero' {x : Nat} (h : Fr x) (h0 : x % 9223372036854775808 ≠ 0) : (FloatKind.f64.format.order x 0 == some .gt) = !fsg x := by
  rw [float_gt h ⟨by decide, by decide⟩]
  have := fz_neg_iff h.2 h0
  have z : fz 0 = 0 := rfl
  rw [z]
  cases hs : fsg x
  · rw [Bool.not_false, decide_eq_true_iff]; exact this.2.1.2 hs
  · rw [Bool.not_true, decide_eq_false_iff_not]; rw [hs] at this; simp at this; omega
theorem eq_zero {x : Nat} (h : Fr x) : (FloatKind.f64.format.order x 0 == some .eq) = decide (x % 9223372036854775808 = 0) := by
  rw [float_eq h ⟨by decide, by decide⟩, decide_eq_decide]
  have z : fz 0 = 0 := rfl
  rw [z]
  by_cases h0 : x % 9223372036854775808 = 0
  · have : fz x = 0 := by rw [fz_sg h.2, h0, fi_zero]; cases fsg x <;> rfl
    simp [this, h0]
  · have := (fz_neg_iff h.2 h0).2.2
    constructor
    · intro g; exact absurd g this
    · intro g; exact absurd g h0

set_option maxHeartbeats 2000000 in
theorem compare8 (x : Nat) (hx : Fr x) (s : Bool) (a : Option Addr) (l c : Nat) (zs : List Int) (b : Option Addr) (m d : Nat) (ds : List Int) (v : Rat) (w : World) (hr : Rt w s a l c zs b m d ds v) :
    Calls Tryz.prog 26 #[.float .f64 x, .agg #[.bool s, .slice a l c, .slice b m d]] w fun e w' => e = .returned (.tuple #[.int .i64 (cw x v), .int .i64 0]) ∧ Below w.heap.size w w' := by
  have B0 : Below w.heap.size w w := Below.refl _ _
  have HX : Hid (Fr x) := hx
  by_cases hf : x % 9223372036854775808 = 9218868437227405312
  ·
    have HC : Hid (cw x v = if fsg x then -1 else 1) := if_pos hf
    have HF : Hid (9218868437227405312 ≤ x % 9223372036854775808) := by show _ ≤ _; omega
    have hl := lt_zero hx (by omega)
    obtain ⟨t, ht⟩ : ∃ t, fsg x = t := ⟨_, rfl⟩
    rw [ht] at hl HC
    clear ht hf hx
    go_enter Tryz.func26, Tryz.ntmps26
    go_wp2_with fail
    refine ent1 w _ _ (Q := fun W => Calls Tryz.prog _ _ W _) ?_
    intro x1 hb hs_x1 V0
    replace hr := Rt.after hb hr
    replace B0 := step B0 hb
    clear hb hs_x1
    refine (of8_no x HX.out.2 HF.out x1).mono ?_
    rintro e x2 ⟨rfl, hb⟩
    replace V0 := Va.after hb V0
    replace hr := Rt.after hb hr
    replace B0 := step B0 hb
    clear hb
    go_wp2_with fail
    refine ent1 x2 _ _ (Q := fun W => Calls Tryz.prog _ _ W _) ?_
    intro x3 hb hs_x3 V6
    replace V0 := Va.after hb V0
    replace hr := Rt.after hb hr
    replace B0 := step B0 hb
    clear hb hs_x3
    refine (isNaN_no x HX.out _).mono ?_
    rintro e x4 ⟨rfl, hw⟩
    rw [hw]
    clear hw
    cases t
    ·
      go_wp2_with fail
      go_ret2
      exact ⟨by rw [HC.out]; rfl, B0⟩
    ·
      go_wp2_with fail
      go_ret2
      exact ⟨by rw [HC.out]; rfl, B0⟩
  ·
    have HC : Hid (cw x v = qcmp (fv x) v) := by show _ = _; rw [qcmp_fv]; exact if_neg hf
    have HF : Hid (x % 9223372036854775808 < 9218868437227405312) := by have h5 := hx.1; show _ < _; omega
    clear hf hx
    go_enter Tryz.func26, Tryz.ntmps26
    go_wp2_with fail
    refine ent1 w _ _ (Q := fun W => Calls Tryz.prog _ _ W _) ?_
    intro x1 hb hs_x1 V0
    replace hr := Rt.after hb hr
    replace B0 := step B0 hb
    clear hb hs_x1
    refine (of8 x HX.out.2 HF.out x1).mono ?_
    rintro e x2 ⟨s6, a6, l6, c6, z6, b6, m6, d6, y6, rfl, h6, hb⟩
    replace V0 := Va.after hb V0
    replace hr := Rt.after hb hr
    replace B0 := step B0 hb
    clear hb
    have c_V0 := V0.d0
    have f0_V0 := V0.frozen 0
    have d_V0 := V0.d1
    have f1_V0 := V0.frozen 1
    have e_V0 := V0.d2
    have f2_V0 := V0.frozen 2
    have l_V0 := V0.lt
    have m_V0 := Nat.le_of_lt l_V0
    go_wp2_with fail
    refine ent1 x2 _ _ (Q := fun W => Calls Tryz.prog _ _ W _) ?_
    intro x3 hb hs_x3 V6
    replace V0 := Va.after hb V0
    replace hr := Rt.after hb hr
    replace h6 := Rt.after hb h6
    replace B0 := step B0 hb
    clear hb hs_x3
    refine (qcompare_any s6 a6 l6 c6 z6 b6 m6 d6 y6 (fv x) s a l c zs b m d ds v x3 h6 hr).mono ?_
    rintro e x4 ⟨rfl, hb⟩
    replace V0 := Va.after hb V0
    replace V6 := Va.after hb V6
    replace hr := Rt.after hb hr
    replace h6 := Rt.after hb h6
    replace B0 := step B0 hb
    clear hb
    rw [← HC.out]
    go_wp2_with fail
    go_ret2
    exact ⟨rfl, B0⟩

theorem compare8_nan (x : Nat) (h : x < 18446744073709551616) (h2 : 9218868437227405312 < x % 9223372036854775808) (s : Bool) (a : Option Addr) (l c : Nat) (b : Option Addr) (m d : Nat) (w : World) :
    Calls Tryz.prog 26 #[.float .f64 x, .agg #[.bool s, .slice a l c, .slice b m d]] w fun e w' => e = .returned (.tuple #[.int .i64 0, .int .i64 80]) ∧ Below w.heap.size w w' := by
  have B0 : Below w.heap.size w w := Below.refl _ _
  go_enter Tryz.func26, Tryz.ntmps26
  go_wp2_with fail
  refine ent1 w _ _ (Q := fun W => Calls Tryz.prog _ _ W _) ?_
  intro x1 hb hs_x1 V0
  replace B0 := step B0 hb
  clear hb hs_x1
  refine (of8_no x h (by omega) x1).mono ?_
  rintro e x2 ⟨rfl, hb⟩
  replace V0 := Va.after hb V0
  replace B0 := step B0 hb
  clear hb
  go_wp2_with fail
  refine ent1 x2 _ _ (Q := fun W => Calls Tryz.prog _ _ W _) ?_
  intro x3 hb hs_x3 V6
  replace V0 := Va.after hb V0
  replace B0 := step B0 hb
  clear hb hs_x3
  refine (isNaN_yes x h h2 _).mono ?_
  rintro e x4 ⟨rfl, hw⟩
  rw [hw]
  clear hw
  go_wp2_with fail
  go_ret2
  exact ⟨rfl, B0⟩

/-- The next float, up or down. -/
def nx (x : Nat) (up : Bool) : Nat := if x % 9223372036854775808 = 0 then wd (!up) 1 else if up = fsg x then x - 1 else if x % 9223372036854775808 = 9218868437227405312 then x else x + 1
/-- What apart tells, in one. -/
theorem apart8 (x : Nat) (h : x < 18446744073709551616) (w : World) :
    Calls Tryz.prog 30 #[.float .f64 x] w fun e w' => ∃ q d p, e = .returned (.tuple #[.agg #[.bool q, .int .u64 d, .int .i64 p], .bool (decide (x % 9223372036854775808 < 9218868437227405312))]) ∧ Below w.heap.size w w' := by
  by_cases g : x % 9223372036854775808 < 9218868437227405312
  · refine (apart_fin x h g w).mono ?_
    rintro e w' ⟨d, u, rfl, -, hb⟩
    exact ⟨_, _, _, by rw [decide_eq_true g], hb⟩
  · refine (apart_no x h (by omega) w).mono ?_
    rintro e w' ⟨rfl, hb⟩
    exact ⟨_, _, _, by rw [decide_eq_false g], hb⟩

set_option maxHeartbeats 2000000 in
theorem next8 (x : Nat) (hx : Fr x) (up : Bool) (w : World) :
    Calls Tryz.prog 28 #[.float .f64 x, .bool up] w fun e w' => e = .returned (.tuple #[.float .f64 (nx x up), .int .i64 0]) ∧ Below w.heap.size w w' := by
  have B0 : Below w.heap.size w w := Below.refl _ _
  have HX : Hid (Fr x) := hx
  have he := eq_zero hx
  obtain ⟨z, hz⟩ : ∃ z, decide (x % 9223372036854775808 = 0) = z := ⟨_, rfl⟩
  obtain ⟨fb, hfb⟩ : ∃ fb, decide (x % 9223372036854775808 < 9218868437227405312) = fb := ⟨_, rfl⟩
  have HFB : Hid (decide (x % 9223372036854775808 < 9218868437227405312) = fb) := hfb
  rw [hz] at he
  have HZ : Hid (decide (x % 9223372036854775808 = 0) = z) := hz
  clear hfb hz
  go_enter Tryz.func28, Tryz.ntmps28
  go_wp2_with fail
  refine (apart8 x HX.out.2 w).mono ?_
  rintro e x1 ⟨qa, da, pa, rfl, hb⟩
  replace B0 := step B0 hb
  clear hb
  rw [HFB.out]
  go_wp2_with fail
  refine ent1 x1 _ _ (Q := fun W => Calls Tryz.prog _ _ W _) ?_
  intro x2 hb hs_x2 Vp
  replace B0 := step B0 hb
  clear hb hs_x2
  refine (isNaN_no x HX.out _).mono ?_
  rintro e x3 ⟨rfl, hw⟩
  rw [hw]
  clear hw
  cases z
  ·
    have n0 : x % 9223372036854775808 ≠ 0 := of_decide_eq_false HZ.out
    have hg := gt_zero' hx n0
    have HN : Hid (nx x up = if up = fsg x then x - 1 else if x % 9223372036854775808 = 9218868437227405312 then x else x + 1) := if_neg n0
    have HN0 : Hid (x % 9223372036854775808 ≠ 0) := n0
    obtain ⟨t, ht⟩ : ∃ t, fsg x = t := ⟨_, rfl⟩
    rw [ht] at hg HN
    clear ht n0 HZ hx
    cases up <;> cases t
    ·
      go_wp2_with fail
      refine (inward8 x (by have h5 := HN0.out; omega) HX.out.2 _).mono ?_
      rintro e x4 ⟨rfl, hw⟩
      rw [hw]
      clear hw
      go_wp2_with fail
      go_ret2
      exact ⟨by rw [HN.out]; rfl, B0⟩
    ·
      cases fb
      ·
        have HI : Hid (x % 9223372036854775808 = 9218868437227405312) := by have h5 := of_decide_eq_false HFB.out; have h6 := HX.out.1; show _ = _; omega
        go_wp2_with fail
        go_ret2
        exact ⟨by rw [HN.out, if_neg (by decide), if_pos HI.out]; rfl, B0⟩
      ·
        have HI : Hid (¬ x % 9223372036854775808 = 9218868437227405312) := by have h5 := of_decide_eq_true HFB.out; show ¬ _; omega
        go_wp2_with fail
        refine (outward8 x (by have h5 := of_decide_eq_true HFB.out; have h6 := HX.out.2; omega) _).mono ?_
        rintro e x4 ⟨rfl, hw⟩
        rw [hw]
        clear hw
        go_wp2_with fail
        go_ret2
        exact ⟨by rw [HN.out, if_neg (by decide), if_neg HI.out]; rfl, B0⟩
    ·
      cases fb
      ·
        have HI : Hid (x % 9223372036854775808 = 9218868437227405312) := by have h5 := of_decide_eq_false HFB.out; have h6 := HX.out.1; show _ = _; omega
        go_wp2_with fail
        go_ret2
        exact ⟨by rw [HN.out, if_neg (by decide), if_pos HI.out]; rfl, B0⟩
      ·
        have HI : Hid (¬ x % 9223372036854775808 = 9218868437227405312) := by have h5 := of_decide_eq_true HFB.out; show ¬ _; omega
        go_wp2_with fail
        refine (outward8 x (by have h5 := of_decide_eq_true HFB.out; have h6 := HX.out.2; omega) _).mono ?_
        rintro e x4 ⟨rfl, hw⟩
        rw [hw]
        clear hw
        go_wp2_with fail
        go_ret2
        exact ⟨by rw [HN.out, if_neg (by decide), if_neg HI.out]; rfl, B0⟩
    ·
      go_wp2_with fail
      refine (inward8 x (by have h5 := HN0.out; omega) HX.out.2 _).mono ?_
      rintro e x4 ⟨rfl, hw⟩
      rw [hw]
      clear hw
      go_wp2_with fail
      go_ret2
      exact ⟨by rw [HN.out]; rfl, B0⟩
  ·
    have HN : Hid (nx x up = wd (!up) 1) := if_pos (of_decide_eq_true HZ.out)
    clear hx
    go_wp2_with fail
    refine (outward8 0 (by decide) _).mono ?_
    rintro e x4 ⟨rfl, hw⟩
    rw [hw]
    clear hw
    go_wp2_with fail
    refine (signed8 (0 + 1) (!up) (by decide) _).mono ?_
    rintro e x5 ⟨rfl, hw⟩
    rw [hw]
    clear hw
    go_wp2_with fail
    go_ret2
    exact ⟨by rw [HN.out]; rfl, B0⟩

theorem next8_nan (x : Nat) (h : x < 18446744073709551616) (h2 : 9218868437227405312 < x % 9223372036854775808) (up : Bool) (w : World) :
    Calls Tryz.prog 28 #[.float .f64 x, .bool up] w fun e w' => e = .returned (.tuple #[.float .f64 0, .int .i64 80]) ∧ Below w.heap.size w w' := by
  have B0 : Below w.heap.size w w := Below.refl _ _
  go_enter Tryz.func28, Tryz.ntmps28
  go_wp2_with fail
  refine (apart_no x h (by omega) w).mono ?_
  rintro e x1 ⟨rfl, hb⟩
  replace B0 := step B0 hb
  clear hb
  go_wp2_with fail
  refine ent1 x1 _ _ (Q := fun W => Calls Tryz.prog _ _ W _) ?_
  intro x2 hb hs_x2 Vp
  replace B0 := step B0 hb
  clear hb hs_x2
  refine (isNaN_yes x h h2 _).mono ?_
  rintro e x3 ⟨rfl, hw⟩
  rw [hw]
  clear hw
  go_wp2_with fail
  go_ret2
  exact ⟨rfl, B0⟩
end Go.Proofs.YtjlodljgfjjclaaGreat
