/-
  reals.Int64.
-/
import Derived.Test.YtogabmggdcefaabGreatRe8
namespace Go.Proofs.YtogabmggdcefaabGreat
open Go.RowKit Go.Shelf
set_option linter.unusedVariables false

/-- What Int64 tells of a finite float. -/
noncomputable def i8v (x : Nat) : Int := if (fv x).den ≠ 1 then 0 else if -9223372036854775808 ≤ (fv x).num ∧ (fv x).num ≤ 9223372036854775807 then (fv x).num else 0
noncomputable def i8e (x : Nat) : Int := if (fv x).den ≠ 1 then 80 else if -9223372036854775808 ≤ (fv x).num ∧ (fv x).num ≤ 9223372036854775807 then 0 else 5
theorem i8_in {x : Nat} (hd : (fv x).den = 1) (hi : -9223372036854775808 ≤ (fv x).num ∧ (fv x).num ≤ 9223372036854775807) : i8v x = (fv x).num ∧ i8e x = 0 := by
  have n : ¬ ((fv x).den ≠ 1) := fun g => g hd
  exact ⟨by unfold i8v; rw [if_neg n, if_pos hi], by unfold i8e; rw [if_neg n, if_pos hi]⟩
theorem i8_out {x : Nat} (hd : (fv x).den = 1) (hi : ¬ (-9223372036854775808 ≤ (fv x).num ∧ (fv x).num ≤ 9223372036854775807)) : i8v x = 0 ∧ i8e x = 5 := by
  have n : ¬ ((fv x).den ≠ 1) := fun g => g hd
  exact ⟨by unfold i8v; rw [if_neg n, if_neg hi], by unfold i8e; rw [if_neg n, if_neg hi]⟩
theorem i8_part {x : Nat} (hd : (fv x).den ≠ 1) : i8v x = 0 ∧ i8e x = 80 := ⟨if_pos hd, if_pos hd⟩
theorem den_uint (b : Option Addr) (m d : Nat) (y : List Int) (w : World) (h : Nt w b m d y) (n : Nat) (hn : num y = (n : Int)) : Calls Tryz.prog 61 #[.agg #[.slice b m d]] w fun e w' => ∃ t q, e = .returned (.tuple #[.int .u64 t, .bool q]) ∧ Hid (((t == 1) = decide (n = 1)) ∧ ((t != 1) = decide (n ≠ 1))) ∧ Below w.heap.size w w' := by
  by_cases g : num y < 18446744073709551616
  · refine (uint64_small b m d y w h g).mono ?_
    rintro e w' ⟨rfl, hb⟩
    refine ⟨_, _, rfl, ?_, hb⟩
    rw [hn]
    constructor
    · by_cases c : n = 1
      · subst c; rfl
      · rw [decide_eq_false c, beq_eq_false_iff_ne]; omega
    · by_cases c : n = 1
      · subst c; rfl
      · rw [decide_eq_true c, bne_iff_ne]; omega
  · refine (uint64_great b m d y w h (by omega)).mono ?_
    rintro e w' ⟨rfl, hb⟩
    refine ⟨_, _, rfl, ?_, hb⟩
    constructor
    · rw [decide_eq_false (by omega)]; rfl
    · rw [decide_eq_true (by omega)]; rfl

set_option maxHeartbeats 2000000 in
theorem int64r_no (x : Nat) (h : x < 18446744073709551616) (hr : 9218868437227405312 ≤ x % 9223372036854775808) (w : World) :
    Calls Tryz.prog 26 #[.float .f64 x] w fun e w' => e = .returned (.tuple #[.int .i64 0, .int .i64 80]) ∧ Below w.heap.size w w' := by
  have B0 : Below w.heap.size w w := Below.refl _ _
  go_enter Tryz.func26, Tryz.ntmps26
  go_wp2_with fail
  refine (of8_no x h hr w).mono ?_
  rintro e x1 ⟨rfl, hb⟩
  replace B0 := step B0 hb
  clear hb
  go_wp2_with fail
  refine ent1 x1 _ _ (Q := fun W => Calls Tryz.prog _ _ W _) ?_
  intro x2 hb hs_x2 V4
  replace B0 := step B0 hb
  clear hb hs_x2
  refine (rden_any false none 0 0 none 0 0 [] x2 (Nt.nil _)).mono ?_
  rintro e x3 ⟨b3, m3, d3, y3, rfl, h3, e3, hb⟩
  replace V4 := Va.after hb V4
  replace B0 := step B0 hb
  clear hb
  go_wp2_with fail
  refine (den_uint b3 m3 d3 y3 x3 h3 1 (by rw [e3]; rfl)).mono ?_
  rintro e x4 ⟨t, q, rfl, HT, hb⟩
  replace V4 := Va.after hb V4
  replace h3 := Nt.after hb h3
  replace B0 := step B0 hb
  clear hb
  go_wp2_with fail
  go_ret2
  exact ⟨rfl, B0⟩

set_option maxHeartbeats 2000000 in
theorem int64r (x : Nat) (h : x < 18446744073709551616) (hr : x % 9223372036854775808 < 9218868437227405312) (w : World) :
    Calls Tryz.prog 26 #[.float .f64 x] w fun e w' => e = .returned (.tuple #[.int .i64 (i8v x), .int .i64 (i8e x)]) ∧ Below w.heap.size w w' := by
  have HX : Hid (x < 18446744073709551616 ∧ x % 9223372036854775808 < 9218868437227405312) := ⟨h, hr⟩
  clear h hr
  have B0 : Below w.heap.size w w := Below.refl _ _
  go_enter Tryz.func26, Tryz.ntmps26
  go_wp2_with fail
  refine (of8 x HX.out.1 HX.out.2 w).mono ?_
  rintro e x1 ⟨sr, ar, lr, cr, zr, br, mr, dr, yr, rfl, hr, hb⟩
  replace B0 := step B0 hb
  clear hb
  go_wp2_with fail
  refine ent1 x1 _ _ (Q := fun W => Calls Tryz.prog _ _ W _) ?_
  intro x2 hb hs_x2 V4
  replace hr := Rt.after hb hr
  replace B0 := step B0 hb
  clear hb hs_x2
  refine (rden_any sr ar lr cr br mr dr yr x2 hr.2.1).mono ?_
  rintro e x3 ⟨b3, m3, d3, y3, rfl, h3, e3, hb⟩
  replace V4 := Va.after hb V4
  replace hr := Rt.after hb hr
  replace B0 := step B0 hb
  clear hb
  have E3 : Hid (num y3 = ((fv x).den : Int)) := e3.trans hr.2.2.2.1
  clear e3
  go_wp2_with fail
  refine (den_uint b3 m3 d3 y3 x3 h3 (fv x).den E3.out).mono ?_
  rintro e x4 ⟨t, q, rfl, HT, hb⟩
  replace V4 := Va.after hb V4
  replace hr := Rt.after hb hr
  replace h3 := Nt.after hb h3
  replace B0 := step B0 hb
  clear hb
  by_cases hd : (fv x).den = 1
  ·
    have t1 : (t == 1) = true := by rw [HT.out.1]; exact decide_eq_true hd
    have t2 : (t != 1) = false := by rw [HT.out.2]; exact decide_eq_false (by simpa using hd)
    obtain rfl : t = 1 := eq_of_beq t1
    clear HT t1 t2
    have c_V4 := V4.d0
    have f0_V4 := V4.frozen 0
    have d_V4 := V4.d1
    have f1_V4 := V4.frozen 1
    have e_V4 := V4.d2
    have f2_V4 := V4.frozen 2
    have l_V4 := V4.lt
    have m_V4 := Nat.le_of_lt l_V4
    go_wp2_with fail
    refine (qnum_any sr ar lr cr br mr dr x4).mono ?_
    rintro e x5 ⟨rfl, hb⟩
    replace V4 := Va.after hb V4
    replace hr := Rt.after hb hr
    replace h3 := Nt.after hb h3
    replace B0 := step B0 hb
    clear hb
    clear c_V4 f0_V4 d_V4 f1_V4 e_V4 f2_V4 l_V4 m_V4
    go_wp2_with fail
    have HV : Hid (iv sr zr = (fv x).num) := hr.2.2.1
    by_cases hi : -9223372036854775808 ≤ (fv x).num ∧ (fv x).num ≤ 9223372036854775807
    ·
      have HI : Hid (i8v x = iv sr zr ∧ i8e x = 0 ∧ -9223372036854775808 ≤ iv sr zr ∧ iv sr zr ≤ 9223372036854775807) := by
        show _ ∧ _
        rw [HV.out]
        exact ⟨(i8_in hd hi).1, (i8_in hd hi).2, hi⟩
      clear hi hd
      refine (wint64_in sr ar lr cr zr x5 hr.1 HI.out.2.2.1 HI.out.2.2.2).mono ?_
      rintro e x6 ⟨rfl, hb⟩
      replace V4 := Va.after hb V4
      replace hr := Rt.after hb hr
      replace h3 := Nt.after hb h3
      replace B0 := step B0 hb
      clear hb
      go_wp2_with fail
      go_ret2
      exact ⟨by rw [HI.out.1, HI.out.2.1]; rfl, B0⟩
    ·
      have HI : Hid (i8v x = 0 ∧ i8e x = 5 ∧ (iv sr zr < -9223372036854775808 ∨ 9223372036854775807 < iv sr zr)) := by
        show _ ∧ _
        rw [HV.out]
        exact ⟨(i8_out hd hi).1, (i8_out hd hi).2, by omega⟩
      clear hi hd
      refine (wint64_out sr ar lr cr zr x5 hr.1 HI.out.2.2).mono ?_
      rintro e x6 ⟨rfl, hb⟩
      replace V4 := Va.after hb V4
      replace hr := Rt.after hb hr
      replace h3 := Nt.after hb h3
      replace B0 := step B0 hb
      clear hb
      go_wp2_with fail
      go_ret2
      exact ⟨by rw [HI.out.1, HI.out.2.1]; rfl, B0⟩
  ·
    have t1 : (t == 1) = false := by rw [HT.out.1]; exact decide_eq_false hd
    have t2 : (t != 1) = true := by rw [HT.out.2]; exact decide_eq_true (by simpa using hd)
    have t3 : ¬ (t = 1) := by rw [beq_eq_false_iff_ne] at t1; exact t1
    have HI : Hid (i8v x = 0 ∧ i8e x = 80) := i8_part hd
    clear HT hd
    have c_V4 := V4.d0
    have f0_V4 := V4.frozen 0
    have d_V4 := V4.d1
    have f1_V4 := V4.frozen 1
    have e_V4 := V4.d2
    have f2_V4 := V4.frozen 2
    have l_V4 := V4.lt
    have m_V4 := Nat.le_of_lt l_V4
    go_wp2_with fail
    go_ret2
    exact ⟨by rw [HI.out.1, HI.out.2]; rfl, B0⟩
end Go.Proofs.YtogabmggdcefaabGreat
