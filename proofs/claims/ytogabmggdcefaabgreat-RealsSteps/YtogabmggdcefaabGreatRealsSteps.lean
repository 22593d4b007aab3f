/-
  RealsSteps holds: a step up and a step down again is the same number, what stands between two neighbours is no float, and its floor and ceiling are the two; at any 64 bits; no condition.
-/
import Derived.Test.YtogabmggdcefaabGreatTk
import Derived.Test.YtogabmggdcefaabGreatAl
import Derived.Test.YtogabmggdcefaabGreatRf4
import Derived.Test.YtogabmggdcefaabGreatRt6
import Derived.Test.YtogabmggdcefaabGreatRows
import Derived.ProofKit
import Derived.OpenShut
import Derived.ShutString
import Derived.ChangeOld
import Derived.SizedLaws
namespace Go.Proofs.YtogabmggdcefaabGreat
open Go.RowKit Go.Shelf
set_option linter.unusedVariables false

/-- The middle of two floats. -/
noncomputable def mid8 (x y : Nat) : Rat := mkRat (fz x + fz y) (2 * K8)
theorem mid_half (x y : Nat) : (fv x + fv y) * Rat.divInt 1 2 = mid8 x y := by
  have e := mid_add x y
  rw [← e]
  show (mid8 x y + mid8 x y) * Rat.divInt 1 2 = mid8 x y
  have h : (Rat.divInt 1 2 : Rat) = 1 / 2 := by decide +kernel
  rw [h]
  generalize mid8 x y = m
  grind
theorem mid_num (x y : Nat) : (mid8 x y).num * ((2 * K8 : Nat) : Int) = (fz x + fz y) * (mid8 x y).den := mk_num _ (by have := K8_pos; omega)
theorem mid_abs (x y : Nat) : 2 * ((mid8 x y).num.natAbs * K8) = (fz x + fz y).natAbs * (mid8 x y).den := by
  have e := congrArg Int.natAbs (mid_num x y)
  rw [Int.natAbs_mul, Int.natAbs_mul, Int.natAbs_natCast, Int.natAbs_natCast] at e
  rw [← e, ← Nat.mul_assoc, ← Nat.mul_assoc, Nat.mul_comm 2]
theorem mid_sign (x y : Nat) : sn (mid8 x y) = decide (fz x + fz y < 0) := by
  unfold sn
  rw [decide_eq_decide]
  have e := mid_num x y
  have hd : (0 : Int) < ((mid8 x y).den : Int) := by have := (mid8 x y).den_pos; omega
  have hk : (0 : Int) < ((2 * K8 : Nat) : Int) := by have := K8_pos; omega
  generalize (mid8 x y).num = a at *
  generalize ((mid8 x y).den : Int) = b at *
  generalize ((2 * K8 : Nat) : Int) = k at *
  generalize fz x + fz y = c at *
  constructor
  · intro h
    have := Int.mul_neg_of_neg_of_pos h hk
    rcases Int.lt_or_le c 0 with g | g
    · exact g
    · have := Int.mul_nonneg g (Int.le_of_lt hd); omega
  · intro h
    have := Int.mul_neg_of_neg_of_pos h hd
    rcases Int.lt_or_le a 0 with g | g
    · exact g
    · have := Int.mul_nonneg g (Int.le_of_lt hk); omega
theorem mid_pv {x y k : Nat} (hk : k < 9218868437227405312) (h : (fz x + fz y).natAbs = fi k + fi (k + 1)) : Pv (mid8 x y) k 2 := by
  refine ⟨hk, .inr (.inr (.inl ⟨rfl, ?_⟩))⟩
  rw [mid_abs, h]
theorem mid_lt {x y : Nat} (h : fz x < fz y) : qcmp (fv x) (mid8 x y) = -1 ∧ qcmp (mid8 x y) (fv y) = -1 := by
  have e : mid8 x y + mid8 x y = fv x + fv y := mid_add x y
  have l : fv x < fv y := by
    unfold fv
    rw [(mk_lt K8_pos).1]
    have q := mk_num (fz y) K8_pos
    rw [q]
    exact Int.mul_lt_mul_of_pos_right h (by have := (mkRat (fz y) K8).den_pos; omega)
  generalize mid8 x y = m at *
  exact ⟨qcmp_lt (by grind), qcmp_lt (by grind)⟩
/-- One step up of a finite float, and back. -/
theorem steps_f {x : Nat} (hx : x < 18446744073709551616) (hr : x % 9223372036854775808 < 9218868437227405312) :
    Fr (nx x true) ∧ fz x < fz (nx x true) ∧ fz (nx (nx x true) false) = fz x ∧ Fr (nx (nx x true) false) ∧
    ((nx x true) % 9223372036854775808 = 9218868437227405312 ∧ x = 9218868437227405311 ∧ nx x true = 9218868437227405312 ∨
     (nx x true) % 9223372036854775808 < 9218868437227405312 ∧ ∃ k, Pv (mid8 x (nx x true)) k 2 ∧ fz (flw (mid8 x (nx x true)) k 2) = fz x ∧ fz (cew (mid8 x (nx x true)) k 2) = fz (nx x true)) := by
  by_cases hs : fsg x = true
  · have hge : 9223372036854775808 ≤ x := of_decide_eq_true hs
    by_cases h0 : x % 9223372036854775808 = 0
    · have hx0 : x = 9223372036854775808 := by omega
      subst hx0
      have e1 : nx 9223372036854775808 true = 1 := by decide
      have e2 : nx 1 false = 0 := by decide
      rw [e1, e2]
      have z : fz 9223372036854775808 = 0 := by decide
      have o : fz 1 = 1 := by decide
      have p1 : Pv (mid8 9223372036854775808 1) 0 2 := mid_pv (by decide) (by rw [z, o]; decide)
      have s1 : sn (mid8 9223372036854775808 1) = false := by rw [mid_sign, z, o]; decide
      refine ⟨⟨by decide, by decide⟩, by rw [z, o]; decide, by rw [z]; decide, ⟨by decide, by decide⟩, .inr ⟨by decide, 0, p1, ?_, ?_⟩⟩
      · rw [(flw_fz (by decide)).1, s1, z]; rfl
      · rw [(cew_fz (by decide)).1, s1, o]; rfl
    · -- below 0
      obtain ⟨r, hr'⟩ : ∃ r, x % 9223372036854775808 = r + 1 := ⟨x % 9223372036854775808 - 1, by omega⟩
      have hxr : x = 9223372036854775808 + (r + 1) := by omega
      have e1 : nx x true = 9223372036854775808 + r := by
        unfold nx; rw [if_neg h0, hs, if_pos rfl]; omega
      rw [e1]
      have w1 : wd true (r + 1) = x := by unfold wd; rw [if_pos rfl]; omega
      have w2 : wd true r = 9223372036854775808 + r := by unfold wd; rw [if_pos rfl]
      have z1 : fz x = -(fi (r + 1) : Int) := by rw [← w1]; have := @wd_fz true (r + 1) (by omega); simpa using this
      have z2 : fz (9223372036854775808 + r) = -(fi r : Int) := by rw [← w2]; have := @wd_fz true r (by omega); simpa using this
      have g := fi_succ r
      have hsum : (fz x + fz (9223372036854775808 + r)).natAbs = fi r + fi (r + 1) := by rw [z1, z2]; omega
      have p1 : Pv (mid8 x (9223372036854775808 + r)) r 2 := mid_pv (by omega) hsum
      have s1 : sn (mid8 x (9223372036854775808 + r)) = true := by rw [mid_sign, z1, z2, decide_eq_true_iff]; omega
      have hb : fz (nx (9223372036854775808 + r) false) = fz x ∧ Fr (nx (9223372036854775808 + r) false) := by
        by_cases r0 : r = 0
        · subst r0
          have e2 : nx (9223372036854775808 + 0) false = wd true 1 := by decide
          rw [e2, z1]
          refine ⟨?_, wd_fr (by decide)⟩
          have := @wd_fz true 1 (by decide)
          simpa using this
        · have e2 : nx (9223372036854775808 + r) false = x := by
            unfold nx
            have hm : (9223372036854775808 + r) % 9223372036854775808 = r := by omega
            have hs2 : fsg (9223372036854775808 + r) = true := by unfold fsg; rw [decide_eq_true_iff]; omega
            rw [hm, hs2, if_neg r0, if_neg (by decide), if_neg (by omega)]; omega
          rw [e2]
          exact ⟨rfl, by omega, by omega⟩
      refine ⟨⟨by omega, by omega⟩, by rw [z1, z2]; omega, hb.1, hb.2, .inr ⟨by omega, r, p1, ?_, ?_⟩⟩
      · rw [(flw_fz (by omega)).1, s1, z1]; rfl
      · rw [(cew_fz (by omega)).1, s1, z2]; rfl
  · have hs' : fsg x = false := by simpa using hs
    have hlt : x < 9223372036854775808 := by have := of_decide_eq_false hs'; omega
    have hm : x % 9223372036854775808 = x := by omega
    rw [hm] at hr
    have e1 : nx x true = x + 1 := by
      unfold nx
      rw [hm, hs']
      by_cases h0 : x = 0
      · rw [if_pos h0, h0]; rfl
      · rw [if_neg h0, if_neg (by decide), if_neg (by omega)]
    have e2 : nx (x + 1) false = x := by
      unfold nx
      have hm2 : (x + 1) % 9223372036854775808 = x + 1 := by omega
      have hs2 : fsg (x + 1) = false := by unfold fsg; rw [decide_eq_false_iff_not]; omega
      rw [hm2, hs2, if_neg (by omega), if_pos rfl]; omega
    rw [e1, e2]
    have z1 : fz x = (fi x : Int) := fz_pos (by omega)
    have z2 : fz (x + 1) = (fi (x + 1) : Int) := fz_pos (by omega)
    have g := fi_succ x
    refine ⟨⟨by omega, by omega⟩, by rw [z1, z2]; omega, rfl, ⟨by omega, by omega⟩, ?_⟩
    by_cases hmx : x = 9218868437227405311
    · subst hmx; exact .inl ⟨by decide, rfl, rfl⟩
    · have p1 : Pv (mid8 x (x + 1)) x 2 := mid_pv (by omega) (by rw [z1, z2]; omega)
      have s1 : sn (mid8 x (x + 1)) = false := by rw [mid_sign, z1, z2, decide_eq_false_iff_not]; omega
      refine .inr ⟨by omega, x, p1, ?_, ?_⟩
      · rw [(flw_fz (by omega)).1, s1, z1]; rfl
      · rw [(cew_fz (by omega)).1, s1, z2]; rfl
theorem far_up : (FloatKind.f64.format.order 9218868437227405311 9214871658872686752 == some .gt) = true := by
  rw [float_gt fr_max ⟨by decide, by decide⟩, decide_eq_true_iff, fz_max, fz_pos (by decide)]
  have := @fi_lt_iff 9214871658872686752 9218868437227405311
  have := this.2 (by decide)
  omega
theorem far_down : (FloatKind.f64.format.order 18442240474082181119 18438243695727462560 == some .lt) = true := by
  have h2 : fz 18438243695727462560 = -(fi 9214871658872686752 : Int) := by
    have := @wd_fz true 9214871658872686752 (by decide)
    simpa [wd] using this
  rw [float_lt fr_neg ⟨by decide, by decide⟩, decide_eq_true_iff, fz_neg, h2]
  have := @fi_lt_iff 9214871658872686752 9218868437227405311
  have := this.2 (by decide)
  omega
end Go.Proofs.YtogabmggdcefaabGreat
namespace Go.Proofs.YtogabmggdcefaabGreat
open Go.RowKit Go.Shelf
set_option linter.unusedVariables false

theorem rnan_no (x : Nat) (h : Fr x) (w : World) : Calls Tryz.prog 9 #[.float .f64 x] w fun e w' => e = .returned (.bool false) ∧ w' = w := by
  have := rnan8 x h.2 w
  rw [show decide (9218868437227405312 < x % 9223372036854775808) = false by rw [decide_eq_false_iff_not]; have := h.1; omega] at this
  exact this
theorem rnan_yes (x : Nat) (h : x < 18446744073709551616) (h2 : 9218868437227405312 < x % 9223372036854775808) (w : World) : Calls Tryz.prog 9 #[.float .f64 x] w fun e w' => e = .returned (.bool true) ∧ w' = w := by
  have := rnan8 x h w
  rw [show decide (9218868437227405312 < x % 9223372036854775808) = true by rw [decide_eq_true_iff]; exact h2] at this
  exact this
theorem half_sz : Sz 1 (Rat.divInt 1 2) := by
  have e : Rat.divInt 1 2 = mkRat 1 2 := by decide +kernel
  rw [e]
  have p : pw 1 = 18446744073709551616 := by decide
  exact Sz.mk (by decide) (by rw [p]; decide) (by rw [p]; decide)

set_option maxHeartbeats 8000000 in
set_option maxRecDepth 8000 in
theorem steps_walk (a : Int) (w : World) (ha : Word a) :
  Calls Tryz.prog 3 #[.int .u64 a] w fun e w' => e = .returned (.bool true) ∧ Below w.heap.size w w' := by
 obtain ⟨x, rfl⟩ := Int.eq_ofNat_of_zero_le ha.1; (have hx : x < 18446744073709551616 := by have := ha.2; omega); have HX : Hid (x < 18446744073709551616) := hx; clear ha; have ff := ffrom x; have B0 : Below w.heap.size w w := Below.refl _ _
 go_enter Tryz.func3, Tryz.ntmps3
 (go_wp2_with fail); refine (awake8 w).mono ?_; rintro e x1 ⟨rfl, hb⟩; replace B0 := step B0 hb; clear hb
 by_cases hn : 9218868437227405312 < x % 9223372036854775808
 ·
  have HN : Hid (9218868437227405312 < x % 9223372036854775808) := hn; (have q1 : (FloatKind.f64.format.order 0 0 == some .eq) = true := by decide); clear hn hx; (go_wp2_with fail); refine (next8_nan x HX.out HN.out true x1).mono ?_; rintro e x2 ⟨rfl, hb⟩; replace B0 := step B0 hb; clear hb; (go_wp2_with fail); refine (rnan_yes x HX.out HN.out _).mono ?_; rintro e x3 ⟨rfl, hw⟩; rw [hw]; clear hw; (go_wp2_with fail)
  go_ret
  exact ⟨rfl, B0⟩
 ·
  have HF : Hid (Fr x) := ⟨by omega, hx⟩; (go_wp2_with fail)
  by_cases hi : x % 9223372036854775808 = 9218868437227405312
  ·
   (have hxx : x = 9218868437227405312 ∨ x = 18442240474082181120 := by omega)
   rcases hxx with hxx | hxx
   ·
    (have HU : Hid (nx x true = x) := by show _ = _; rw [hxx]; decide); have q1 := feq HF.out HF.out rfl; (have q2 : (FloatKind.f64.format.order x 0 == some .gt) = true := by rw [gt_zero (by omega), decide_eq_true_iff]; omega); (have HI : Hid (9218868437227405312 ≤ x % 9223372036854775808) := by show _ ≤ _; omega); (obtain ⟨Z, hZ⟩ : ∃ Z, nx x false = Z := ⟨_, rfl⟩); have HZ : Hid (nx x false = Z) := hZ; clear hn hi hx hxx hZ; refine (next8 x HF.out true x1).mono ?_; rintro e x2 ⟨rfl, hb⟩; replace B0 := step B0 hb; clear hb; rw [HU.out]; (go_wp2_with fail); refine (rnan_no x HF.out _).mono ?_; rintro e x3 ⟨rfl, hw⟩; rw [hw]; clear hw; (go_wp2_with fail); refine (next8 x HF.out false x2).mono ?_; rintro e x4 ⟨rfl, hb⟩; replace B0 := step B0 hb; clear hb; rw [HZ.out]; (go_wp2_with fail); refine (finite8_no x HX.out HI.out x4).mono ?_; rintro e x5 ⟨rfl, hb⟩; replace B0 := step B0 hb; clear hb; (go_wp2_with fail)
    go_ret
    exact ⟨rfl, B0⟩
   ·
    (obtain ⟨U, hU⟩ : ∃ U, nx x true = U := ⟨_, rfl⟩); (have hU2 : U = 18442240474082181119 := by rw [← hU, hxx]; decide); (obtain ⟨M, hM⟩ : ∃ M, M = 18438243695727462560 := ⟨_, rfl⟩); have HU : Hid (nx x true = U ∧ nx U false = x) := ⟨hU, by rw [hU2, hxx]; decide⟩; (have HFU : Hid (Fr U) := by show Fr U; rw [hU2]; exact fr_neg); (have HUR : Hid (U % 9223372036854775808 < 9218868437227405312) := by show _ < _; omega); have q1 := feq HF.out HF.out rfl
    have q2 : (FloatKind.f64.format.order U x == some .eq) = false := by
     refine fne HFU.out HF.out (fun e => ?_); have h5 := fz_inj HFU.out HF.out e (by rw [hU2, fz_neg]; have h6 := @fi_pos 9218868437227405311 (by decide); omega)
     omega
    (have q3 : (FloatKind.f64.format.order x 0 == some .lt) = true := by rw [lt_zero HF.out (by omega)]; unfold fsg; rw [decide_eq_true_iff]; omega); (have q4 : (FloatKind.f64.format.order U 18438243695727462560 == some .lt) = true := by rw [hU2]; exact far_down); (have HI : Hid (9218868437227405312 ≤ x % 9223372036854775808) := by show _ ≤ _; omega); clear hn hi hx hxx hU hU2 hM; refine (next8 x HF.out true x1).mono ?_; rintro e x2 ⟨rfl, hb⟩; replace B0 := step B0 hb; clear hb; rw [HU.out.1]; (go_wp2_with fail); refine (rnan_no x HF.out _).mono ?_; rintro e x3 ⟨rfl, hw⟩; rw [hw]; clear hw; (go_wp2_with fail); refine (next8 U HFU.out false x2).mono ?_; rintro e x4 ⟨rfl, hb⟩; replace B0 := step B0 hb; clear hb; rw [HU.out.2]; (go_wp2_with fail); refine (finite8_no x HX.out HI.out x4).mono ?_; rintro e x5 ⟨rfl, hb⟩; replace B0 := step B0 hb; clear hb; (go_wp2_with fail); refine (finite8_yes U HFU.out.2 HUR.out x5).mono ?_; rintro e x6 ⟨rfl, hb⟩; replace B0 := step B0 hb
    clear hb; (go_wp2_with fail)
    go_ret
    exact ⟨rfl, B0⟩
  ·
   (have hr : x % 9223372036854775808 < 9218868437227405312 := by omega); have HR : Hid (x % 9223372036854775808 < 9218868437227405312) := hr; obtain ⟨f1, f2, f3, f4, f5⟩ := steps_f hx hr; (obtain ⟨U, hU⟩ : ∃ U, nx x true = U := ⟨_, rfl⟩); rw [hU] at f1 f2 f3 f4 f5; (obtain ⟨Z, hZ⟩ : ∃ Z, nx U false = Z := ⟨_, rfl⟩); rw [hZ] at f3 f4; have HU : Hid (nx x true = U ∧ nx U false = Z) := ⟨hU, hZ⟩; have HFU : Hid (Fr U) := f1; have q1 : (FloatKind.f64.format.order Z x != some .eq) = false := fbe f4 HF.out f3; (have q2 : (FloatKind.f64.format.order U x == some .lt) = false := by rw [float_lt f1 HF.out]; exact decide_eq_false (by omega)); have q3 : (FloatKind.f64.format.order U x == some .eq) = false := fne f1 HF.out (by omega); have HLT : Hid (fz x < fz U) := f2; have H5 : Hid (U % 9223372036854775808 = 9218868437227405312 ∧ x = 9218868437227405311 ∧ U = 9218868437227405312 ∨ U % 9223372036854775808 < 9218868437227405312 ∧ ∃ k, Pv (mid8 x U) k 2 ∧ fz (flw (mid8 x U) k 2) = fz x ∧ fz (cew (mid8 x U) k 2) = fz U) := f5
   clear f1 f2 f3 f4 f5 hU hZ hr hn hi hx; refine (next8 x HF.out true x1).mono ?_; rintro e x2 ⟨rfl, hb⟩; replace B0 := step B0 hb; clear hb; rw [HU.out.1]; (go_wp2_with fail); refine (rnan_no x HF.out _).mono ?_; rintro e x3 ⟨rfl, hw⟩; rw [hw]; clear hw; (go_wp2_with fail); refine (next8 U HFU.out false x2).mono ?_; rintro e x4 ⟨rfl, hb⟩; replace B0 := step B0 hb; clear hb; rw [HU.out.2]; (go_wp2_with fail); refine (finite8_yes x HX.out HR.out x4).mono ?_; rintro e x5 ⟨rfl, hb⟩; replace B0 := step B0 hb; clear hb; (go_wp2_with fail)
   rcases H5.out with ⟨-, e1, e2⟩ | ⟨hu, k, p1, p2, p3⟩
   ·
    (have q4 : (FloatKind.f64.format.order x 9214871658872686752 == some .gt) = true := by rw [e1]; exact far_up); (have HI : Hid (9218868437227405312 ≤ U % 9223372036854775808) := by show _ ≤ _; omega); clear H5 e1 e2; refine (finite8_no U HFU.out.2 HI.out x5).mono ?_; rintro e x6 ⟨rfl, hb⟩; replace B0 := step B0 hb; clear hb; (go_wp2_with fail)
    go_ret
    exact ⟨rfl, B0⟩
   ·
    have HUR : Hid (U % 9223372036854775808 < 9218868437227405312) := hu; have HP : Hid (Pv (mid8 x U) k 2) := p1; have hk := p1.lt; (obtain ⟨LO, hLO⟩ : ∃ y, flw (mid8 x U) k 2 = y := ⟨_, rfl⟩); (obtain ⟨HI, hHI⟩ : ∃ y, cew (mid8 x U) k 2 = y := ⟨_, rfl⟩); have g1 := (@flw_fz (mid8 x U) k 2 hk).2; have g2 := (@cew_fz (mid8 x U) k 2 hk).2; rw [hLO] at p2 g1; rw [hHI] at p3 g2; have q4 : (FloatKind.f64.format.order LO x == some .eq) = true := feq g1 HF.out p2; have q5 : (FloatKind.f64.format.order HI U == some .eq) = true := feq g2 HFU.out p3; have HW : Hid (flw (mid8 x U) k 2 = LO ∧ cew (mid8 x U) k 2 = HI ∧ exw (mid8 x U) k 2 = 0 ∧ exb 2 = false) := ⟨hLO, hHI, rfl, rfl⟩; clear hu p1 p2 p3 hLO hHI hk g1 g2 H5 q1 q2 q3; refine (finite8_yes U HFU.out.2 HUR.out x5).mono ?_; rintro e x6 ⟨rfl, hb⟩; replace B0 := step B0 hb; clear hb; (go_wp2_with fail); refine (of8 x HX.out HR.out x6).mono ?_; rintro e x7 ⟨sr, ar, lr, cr, zr, br, mr, dr, yr, rfl, hr, hb⟩
    replace B0 := step B0 hb; clear hb; (go_wp2_with fail); refine ent1 x7 _ _ (Q := fun W => Calls Tryz.prog _ _ W _) ?_; intro x8 hb hs_x8 Vr; replace hr := Rt.after hb hr; replace B0 := step B0 hb; clear hb hs_x8; refine (of8 U HFU.out.2 HUR.out x8).mono ?_; rintro e x9 ⟨su, au, lu, cu, zu, bu, mu, du, yu, rfl, hu, hb⟩; replace Vr := Va.after hb Vr; replace hr := Rt.after hb hr; replace B0 := step B0 hb; clear hb; have c_Vr := Vr.d0; have f0_Vr := Vr.frozen 0; have d_Vr := Vr.d1; have f1_Vr := Vr.frozen 1; have e_Vr := Vr.d2; have f2_Vr := Vr.frozen 2; have l_Vr := Vr.lt; have m_Vr := Nat.le_of_lt l_Vr; (go_wp2_with fail); refine ent1 x9 _ _ (Q := fun W => Calls Tryz.prog _ _ W _) ?_; intro x10 hb hs_x10 Vu; replace Vr := Va.after hb Vr; replace hr := Rt.after hb hr; replace hu := Rt.after hb hu; replace B0 := step B0 hb; clear hb hs_x10; (obtain ⟨vs, hvs⟩ : ∃ q, fv x + fv U = q := ⟨_, rfl⟩); have HV : Hid (fv x + fv U = vs ∧ vs * Rat.divInt 1 2 = mid8 x U) := ⟨hvs, by rw [← hvs]; exact mid_half x U⟩
    (have HS1 : Hid (Sz 67 vs) := by show Sz 67 vs; rw [← hvs]; exact ((sz_fv HX.out HR.out).add (sz_fv HFU.out.2 HUR.out)).mono (by omega)); (have HS2 : Hid (Short (mid8 x U)) := by show Short _; rw [← HV.out.2]; exact (HS1.out.mul half_sz).short (by omega)); clear hvs; refine (qadd_to sr ar lr cr zr br mr dr yr (fv x) su au lu cu zu bu mu du yu (fv U) vs x10 hr hu HV.out.1 (HS1.out.short (by omega))).mono ?_; rintro e x11 ⟨sg, ag, lg, cg, zg, bg, mg, dg, yg, rfl, hg, hb⟩; replace Vr := Va.after hb Vr; replace Vu := Va.after hb Vu; replace hr := Rt.after hb hr; replace hu := Rt.after hb hu; replace B0 := step B0 hb; clear hb; clear c_Vr f0_Vr d_Vr f1_Vr e_Vr f2_Vr l_Vr m_Vr; have c_Vr := Vr.d0; have f0_Vr := Vr.frozen 0; have d_Vr := Vr.d1; have f1_Vr := Vr.frozen 1; have e_Vr := Vr.d2; have f2_Vr := Vr.frozen 2; have l_Vr := Vr.lt; have m_Vr := Nat.le_of_lt l_Vr; have c_Vu := Vu.d0; have f0_Vu := Vu.frozen 0; have d_Vu := Vu.d1; have f1_Vu := Vu.frozen 1
    have e_Vu := Vu.d2; have f2_Vu := Vu.frozen 2; have l_Vu := Vu.lt; have m_Vu := Nat.le_of_lt l_Vu; (go_wp2_with fail); refine ent1 x11 _ _ (Q := fun W => Code.wp Tryz.prog _ _ _ W) ?_; intro x12 hb hs_x12 Vt; replace Vr := Va.after hb Vr; replace Vu := Va.after hb Vu; replace hr := Rt.after hb hr; replace hu := Rt.after hb hu; replace hg := Rt.after hb hg; replace B0 := step B0 hb; clear hb hs_x12; clear c_Vr f0_Vr d_Vr f1_Vr e_Vr f2_Vr l_Vr m_Vr c_Vu f0_Vu d_Vu f1_Vu e_Vu f2_Vu l_Vu m_Vu; (have LS : Hid (∀ W, Below x12.heap.size x12 W → (fun W => W.cell? ⟨x11.heap.size, 0, none⟩ = some (.bool sg) ∧ W.cell? ⟨x11.heap.size, 1, none⟩ = some (.slice ag lg cg) ∧ W.cell? ⟨x11.heap.size, 2, none⟩ = some (.slice bg mg dg)) W) := fun W hb => ⟨(Va.after hb Vt).d0, (Va.after hb Vt).d1, (Va.after hb Vt).d2⟩); have lb_Vr := Vr.lt; have L_Vr : Hid (Va x12 (x7.heap.size) 36 #[.bool sr, .slice ar lr cr, .slice br mr dr]) := Vr; have lb_Vu := Vu.lt
    have L_Vu : Hid (Va x12 (x9.heap.size) 36 #[.bool su, .slice au lu cu, .slice bu mu du]) := Vu; have lb_Vt := Vt.lt; have L_Vt : Hid (Va x12 (x11.heap.size) 36 #[.bool sg, .slice ag lg cg, .slice bg mg dg]) := Vt; have L_hr : Hid (Rt x12 sr ar lr cr zr br mr dr yr (fv x)) := hr; have L_hu : Hid (Rt x12 su au lu cu zu bu mu du yu (fv U)) := hu; have L_hg : Hid (Rt x12 sg ag lg cg zg bg mg dg yg vs) := hg; have L_B : Hid (Below w.heap.size w x12) := B0; clear Vr Vu Vt hr hu hg B0; have BX := Below.refl x12.heap.size x12
    go_cut [14] (fun s14 wx => ∃ (q14 : Nat) (sm : Bool) (am : Option Addr) (lm cm : Nat) (zm : List Int) (bm : Option Addr) (mm dm : Nat) (ym : List Int), s14 = .pointer (some ⟨q14, 0, none⟩) ∧ Hid (Va wx q14 36 #[.bool sm, .slice am lm cm, .slice bm mm dm]) ∧ Hid (Rt wx sm am lm cm zm bm mm dm ym (mid8 x U)) ∧ Hid (Below x12.heap.size x12 wx))
    case first =>
     refine wp_region_noPanic ?_; replace BX := Below.drew BX; refine wp_region_held_drew (S := (fun W => W.cell? ⟨x11.heap.size, 0, none⟩ = some (.bool sg) ∧ W.cell? ⟨x11.heap.size, 1, none⟩ = some (.slice ag lg cg) ∧ W.cell? ⟨x11.heap.size, 2, none⟩ = some (.slice bg mg dg))) (by kernel_rfl) (LS.out _ BX) (fun hHeld => ?_); (obtain ⟨x13, hxd⟩ : ∃ xd, xd = x12.drew := ⟨_, rfl⟩); rw [← hxd] at BX hHeld ⊢; clear hxd; refine tk 0 rfl hHeld ?_; simp only [gA, gB, Act.put, gD, gE, gF]; refine wpAnyH_ready (rs := [1, 7]) (by kernel_rfl) (by simp) ?_; refine AllReadyH.cons rfl (fun K hK => ?_) (AllReadyH.cons rfl (fun K hK => ?_) AllReadyH.nil)
     ·
      simp only [gA, gB, gC]; (go_simp); refine (ratioOf8 1 2 (by decide) (by decide) (by decide) (by decide) (by decide) _).mono ?_; rintro e x14 ⟨sp, ap, lp, cp, zp, bp, mp, dp, yp, rfl, hp, hN, hb⟩; replace BX := step BX hb; clear hb; (try go_wp2_with fail); refine hK.out _ _ (LS.out _ BX) (fun hHeld => ?_); clear hK K; refine wpAnyH_ready (rs := [2, 7]) (by kernel_rfl) (by simp) ?_; refine AllReadyH.cons rfl (fun K hK => ?_) (AllReadyH.cons rfl (fun K hK => ?_) AllReadyH.nil)
      ·
       simp only [gA, gB, gC]; (go_simp); refine (oflaw8 sp ap lp cp zp bp mp dp yp (Rat.divInt 1 2) _ hp hN).mono ?_; rintro e x15 ⟨sh, ah, lh, ch, zh, bh, mh, dh, yh, rfl, hh, hb⟩; replace hp := Rr.after hb hp; replace BX := step BX hb; clear hb; clear hp hN; (try go_wp2_with fail); refine hK.out _ _ (LS.out _ BX) (fun hHeld => ?_); clear hK K; refine wpAnyH_ready (rs := [3, 7]) (by kernel_rfl) (by simp) ?_; refine AllReadyH.cons rfl (fun K hK => ?_) (AllReadyH.cons rfl (fun K hK => ?_) AllReadyH.nil)
       ·
        simp only [gA, gB, gC]; (go_simp); refine (qmul_to sg ag lg cg zg bg mg dg yg vs sh ah lh ch zh bh mh dh yh (Rat.divInt 1 2) (mid8 x U) _ (Rt.after BX L_hg.out) hh HV.out.2 HS2.out).mono ?_; rintro e x16 ⟨sm, am, lm, cm, zm, bm, mm, dm, ym, rfl, hm, hb⟩; replace hh := Rt.after hb hh; replace BX := step BX hb; clear hb; clear hh; (try go_wp2_with fail); refine hK.out _ _ (LS.out _ BX) (fun hHeld => ?_); clear hK K; refine tk 4 rfl hHeld ?_; simp only [gA, gB, gC, Act.put, gD, gE, gF]; refine tk 5 rfl hHeld ?_; simp only [gA, gB, gC, Act.put, gD, gE, gF]; refine tk 6 rfl hHeld ?_; simp only [gA, gB, gC, Act.put, gD, gE, gF]; refine wpAnyH_ready (rs := [7]) (by kernel_rfl) (by simp) ?_; refine AllReadyH.cons rfl (fun K hK => ?_) AllReadyH.nil
        ·
         simp only [gA, gB, gC]; (go_simp); have sz_Vm := BX.size; refine ent1 _ _ _ (Q := fun V => K _ V) ?_; intro x17 hb hs_ Vm; replace hm := Rt.after hb hm; replace BX := step BX hb; clear hb hs_; refine hK.out _ _ (LS.out _ BX) (fun hHeld => ?_); clear hK K; have c_Vm := Vm.d0; have f0_Vm := Vm.frozen 0; have d_Vm := Vm.d1; have f1_Vm := Vm.frozen 1; have e_Vm := Vm.d2; have f2_Vm := Vm.frozen 2; have l_Vm := Vm.lt; have m_Vm := Nat.le_of_lt l_Vm; refine wpAnyH_ready (rs := [8]) (by kernel_rfl) (by simp) ?_; refine AllReadyH.cons rfl (fun K hK => ?_) AllReadyH.nil; simp only [gA, gB, gC]; (go_simp); clear c_Vm f0_Vm d_Vm f1_Vm e_Vm f2_Vm l_Vm m_Vm; refine sto3 Vm (.bool sm) (.slice am lm cm) (.slice bm mm dm) (Q := fun W => K _ W) ?_; intro x18 V' oth far; replace hm := hm.far Vm (noInt3 _ _ _ _ _ _ _) far.1; replace BX := far.2 _ _ (by first | omega | (simp; omega)) BX; replace Vm := V'; clear oth far; refine hK.out _ _ (LS.out _ BX) (fun hHeld => ?_)
         clear hK K; refine tk 9 rfl hHeld ?_; simp only [gA, gB, gC, Act.put, gD, gE, gF]; refine wpAnyH_done (by kernel_rfl) ?_ _; refine NoPanic.normal ?_; clear hHeld; (go_wp2_with fail)
         go_meet
         exact ⟨_, sm, am, lm, cm, zm, bm, mm, dm, ym, rfl, Vm, hm, BX⟩
       ·
        simp only [gA, gB, gC]; (go_simp); have sz_Vm := BX.size; refine ent1 _ _ _ (Q := fun V => K _ V) ?_; intro x16 hb hs_ Vm; replace hh := Rt.after hb hh; replace BX := step BX hb; clear hb hs_; refine hK.out _ _ (LS.out _ BX) (fun hHeld => ?_); clear hK K; refine wpAnyH_ready (rs := [3]) (by kernel_rfl) (by simp) ?_; refine AllReadyH.cons rfl (fun K hK => ?_) AllReadyH.nil
        ·
         simp only [gA, gB, gC]; (go_simp); refine (qmul_to sg ag lg cg zg bg mg dg yg vs sh ah lh ch zh bh mh dh yh (Rat.divInt 1 2) (mid8 x U) _ (Rt.after BX L_hg.out) hh HV.out.2 HS2.out).mono ?_; rintro e x17 ⟨sm, am, lm, cm, zm, bm, mm, dm, ym, rfl, hm, hb⟩; replace Vm := Va.after hb Vm; replace hh := Rt.after hb hh; replace BX := step BX hb; clear hb; clear hh; (try go_wp2_with fail); refine hK.out _ _ (LS.out _ BX) (fun hHeld => ?_); clear hK K; refine tk 4 rfl hHeld ?_; simp only [gA, gB, gC, Act.put, gD, gE, gF]; refine tk 5 rfl hHeld ?_; simp only [gA, gB, gC, Act.put, gD, gE, gF]; refine tk 6 rfl hHeld ?_; simp only [gA, gB, gC, Act.put, gD, gE, gF]; have c_Vm := Vm.d0; have f0_Vm := Vm.frozen 0; have d_Vm := Vm.d1; have f1_Vm := Vm.frozen 1; have e_Vm := Vm.d2; have f2_Vm := Vm.frozen 2; have l_Vm := Vm.lt; have m_Vm := Nat.le_of_lt l_Vm; refine wpAnyH_ready (rs := [8]) (by kernel_rfl) (by simp) ?_; refine AllReadyH.cons rfl (fun K hK => ?_) AllReadyH.nil
         simp only [gA, gB, gC]; (go_simp); clear c_Vm f0_Vm d_Vm f1_Vm e_Vm f2_Vm l_Vm m_Vm; refine sto3 Vm (.bool sm) (.slice am lm cm) (.slice bm mm dm) (Q := fun W => K _ W) ?_; intro x18 V' oth far; replace hm := hm.far Vm (noInt3 _ _ _ _ _ _ _) far.1; replace BX := far.2 _ _ (by first | omega | (simp; omega)) BX; replace Vm := V'; clear oth far; refine hK.out _ _ (LS.out _ BX) (fun hHeld => ?_); clear hK K; refine tk 9 rfl hHeld ?_; simp only [gA, gB, gC, Act.put, gD, gE, gF]; refine wpAnyH_done (by kernel_rfl) ?_ _; refine NoPanic.normal ?_; clear hHeld; (go_wp2_with fail)
         go_meet
         exact ⟨_, sm, am, lm, cm, zm, bm, mm, dm, ym, rfl, Vm, hm, BX⟩
      ·
       simp only [gA, gB, gC]; (go_simp); have sz_Vm := BX.size; refine ent1 _ _ _ (Q := fun V => K _ V) ?_; intro x15 hb hs_ Vm; replace hp := Rr.after hb hp; replace BX := step BX hb; clear hb hs_; refine hK.out _ _ (LS.out _ BX) (fun hHeld => ?_); clear hK K; refine wpAnyH_ready (rs := [2]) (by kernel_rfl) (by simp) ?_; refine AllReadyH.cons rfl (fun K hK => ?_) AllReadyH.nil
       ·
        simp only [gA, gB, gC]; (go_simp); refine (oflaw8 sp ap lp cp zp bp mp dp yp (Rat.divInt 1 2) _ hp hN).mono ?_; rintro e x16 ⟨sh, ah, lh, ch, zh, bh, mh, dh, yh, rfl, hh, hb⟩; replace Vm := Va.after hb Vm; replace hp := Rr.after hb hp; replace BX := step BX hb; clear hb; clear hp hN; (try go_wp2_with fail); refine hK.out _ _ (LS.out _ BX) (fun hHeld => ?_); clear hK K; refine wpAnyH_ready (rs := [3]) (by kernel_rfl) (by simp) ?_; refine AllReadyH.cons rfl (fun K hK => ?_) AllReadyH.nil
        ·
         simp only [gA, gB, gC]; (go_simp); refine (qmul_to sg ag lg cg zg bg mg dg yg vs sh ah lh ch zh bh mh dh yh (Rat.divInt 1 2) (mid8 x U) _ (Rt.after BX L_hg.out) hh HV.out.2 HS2.out).mono ?_; rintro e x17 ⟨sm, am, lm, cm, zm, bm, mm, dm, ym, rfl, hm, hb⟩; replace Vm := Va.after hb Vm; replace hh := Rt.after hb hh; replace BX := step BX hb; clear hb; clear hh; (try go_wp2_with fail); refine hK.out _ _ (LS.out _ BX) (fun hHeld => ?_); clear hK K; refine tk 4 rfl hHeld ?_; simp only [gA, gB, gC, Act.put, gD, gE, gF]; refine tk 5 rfl hHeld ?_; simp only [gA, gB, gC, Act.put, gD, gE, gF]; refine tk 6 rfl hHeld ?_; simp only [gA, gB, gC, Act.put, gD, gE, gF]; have c_Vm := Vm.d0; have f0_Vm := Vm.frozen 0; have d_Vm := Vm.d1; have f1_Vm := Vm.frozen 1; have e_Vm := Vm.d2; have f2_Vm := Vm.frozen 2; have l_Vm := Vm.lt; have m_Vm := Nat.le_of_lt l_Vm; refine wpAnyH_ready (rs := [8]) (by kernel_rfl) (by simp) ?_; refine AllReadyH.cons rfl (fun K hK => ?_) AllReadyH.nil
         simp only [gA, gB, gC]; (go_simp); clear c_Vm f0_Vm d_Vm f1_Vm e_Vm f2_Vm l_Vm m_Vm; refine sto3 Vm (.bool sm) (.slice am lm cm) (.slice bm mm dm) (Q := fun W => K _ W) ?_; intro x18 V' oth far; replace hm := hm.far Vm (noInt3 _ _ _ _ _ _ _) far.1; replace BX := far.2 _ _ (by first | omega | (simp; omega)) BX; replace Vm := V'; clear oth far; refine hK.out _ _ (LS.out _ BX) (fun hHeld => ?_); clear hK K; refine tk 9 rfl hHeld ?_; simp only [gA, gB, gC, Act.put, gD, gE, gF]; refine wpAnyH_done (by kernel_rfl) ?_ _; refine NoPanic.normal ?_; clear hHeld; (go_wp2_with fail)
         go_meet
         exact ⟨_, sm, am, lm, cm, zm, bm, mm, dm, ym, rfl, Vm, hm, BX⟩
     ·
      simp only [gA, gB, gC]; (go_simp); have sz_Vm := BX.size; refine ent1 _ _ _ (Q := fun V => K _ V) ?_; intro x14 hb hs_ Vm; replace BX := step BX hb; clear hb hs_; refine hK.out _ _ (LS.out _ BX) (fun hHeld => ?_); clear hK K; refine wpAnyH_ready (rs := [1]) (by kernel_rfl) (by simp) ?_; refine AllReadyH.cons rfl (fun K hK => ?_) AllReadyH.nil
      ·
       simp only [gA, gB, gC]; (go_simp); refine (ratioOf8 1 2 (by decide) (by decide) (by decide) (by decide) (by decide) _).mono ?_; rintro e x15 ⟨sp, ap, lp, cp, zp, bp, mp, dp, yp, rfl, hp, hN, hb⟩; replace Vm := Va.after hb Vm; replace BX := step BX hb; clear hb; (try go_wp2_with fail); refine hK.out _ _ (LS.out _ BX) (fun hHeld => ?_); clear hK K; refine wpAnyH_ready (rs := [2]) (by kernel_rfl) (by simp) ?_; refine AllReadyH.cons rfl (fun K hK => ?_) AllReadyH.nil
       ·
        simp only [gA, gB, gC]; (go_simp); refine (oflaw8 sp ap lp cp zp bp mp dp yp (Rat.divInt 1 2) _ hp hN).mono ?_; rintro e x16 ⟨sh, ah, lh, ch, zh, bh, mh, dh, yh, rfl, hh, hb⟩; replace Vm := Va.after hb Vm; replace hp := Rr.after hb hp; replace BX := step BX hb; clear hb; clear hp hN; (try go_wp2_with fail); refine hK.out _ _ (LS.out _ BX) (fun hHeld => ?_); clear hK K; refine wpAnyH_ready (rs := [3]) (by kernel_rfl) (by simp) ?_; refine AllReadyH.cons rfl (fun K hK => ?_) AllReadyH.nil
        ·
         simp only [gA, gB, gC]; (go_simp); refine (qmul_to sg ag lg cg zg bg mg dg yg vs sh ah lh ch zh bh mh dh yh (Rat.divInt 1 2) (mid8 x U) _ (Rt.after BX L_hg.out) hh HV.out.2 HS2.out).mono ?_; rintro e x17 ⟨sm, am, lm, cm, zm, bm, mm, dm, ym, rfl, hm, hb⟩; replace Vm := Va.after hb Vm; replace hh := Rt.after hb hh; replace BX := step BX hb; clear hb; clear hh; (try go_wp2_with fail); refine hK.out _ _ (LS.out _ BX) (fun hHeld => ?_); clear hK K; refine tk 4 rfl hHeld ?_; simp only [gA, gB, gC, Act.put, gD, gE, gF]; refine tk 5 rfl hHeld ?_; simp only [gA, gB, gC, Act.put, gD, gE, gF]; refine tk 6 rfl hHeld ?_; simp only [gA, gB, gC, Act.put, gD, gE, gF]; have c_Vm := Vm.d0; have f0_Vm := Vm.frozen 0; have d_Vm := Vm.d1; have f1_Vm := Vm.frozen 1; have e_Vm := Vm.d2; have f2_Vm := Vm.frozen 2; have l_Vm := Vm.lt; have m_Vm := Nat.le_of_lt l_Vm; refine wpAnyH_ready (rs := [8]) (by kernel_rfl) (by simp) ?_; refine AllReadyH.cons rfl (fun K hK => ?_) AllReadyH.nil
         simp only [gA, gB, gC]; (go_simp); clear c_Vm f0_Vm d_Vm f1_Vm e_Vm f2_Vm l_Vm m_Vm; refine sto3 Vm (.bool sm) (.slice am lm cm) (.slice bm mm dm) (Q := fun W => K _ W) ?_; intro x18 V' oth far; replace hm := hm.far Vm (noInt3 _ _ _ _ _ _ _) far.1; replace BX := far.2 _ _ (by first | omega | (simp; omega)) BX; replace Vm := V'; clear oth far; refine hK.out _ _ (LS.out _ BX) (fun hHeld => ?_); clear hK K; refine tk 9 rfl hHeld ?_; simp only [gA, gB, gC, Act.put, gD, gE, gF]; refine wpAnyH_done (by kernel_rfl) ?_ _; refine NoPanic.normal ?_; clear hHeld; (go_wp2_with fail)
         go_meet
         exact ⟨_, sm, am, lm, cm, zm, bm, mm, dm, ym, rfl, Vm, hm, BX⟩
    case rest =>
     clear BX; obtain ⟨q14, sm, am, lm, cm, zm, bm, mm, dm, ym, rfl, Vm', hm', BX'⟩ := hcut; have Vm := Vm'.out; have hm := hm'.out; have BX := BX'.out; clear Vm' hm' BX'; have Vr := Va.after BX L_Vr.out; have Vu := Va.after BX L_Vu.out; have Vt := Va.after BX L_Vt.out; have hr := Rt.after BX L_hr.out; have hu := Rt.after BX L_hu.out; have hg := Rt.after BX L_hg.out; have B0 := step L_B.out BX; clear Vt hg; have HQ : Hid (qcmp (fv x) (mid8 x U) = -1 ∧ qcmp (mid8 x U) (fv U) = -1) := mid_lt HLT.out; have c_Vm := Vm.d0; have f0_Vm := Vm.frozen 0; have d_Vm := Vm.d1; have f1_Vm := Vm.frozen 1; have e_Vm := Vm.d2; have f2_Vm := Vm.frozen 2; have l_Vm := Vm.lt; have m_Vm := Nat.le_of_lt l_Vm; (go_wp2_with fail); refine (exact8 sm am lm cm zm bm mm dm ym (mid8 x U) k 2 HP wc hm).mono ?_; rintro e x13 ⟨rfl, hb⟩; replace Vr := Va.after hb Vr; replace Vu := Va.after hb Vu; replace Vm := Va.after hb Vm; replace hr := Rt.after hb hr; replace hu := Rt.after hb hu
     replace hm := Rt.after hb hm; replace B0 := step B0 hb; clear hb; rw [HW.out.2.2.1, HW.out.2.2.2]; clear c_Vm f0_Vm d_Vm f1_Vm e_Vm f2_Vm l_Vm m_Vm; have c_Vm := Vm.d0; have f0_Vm := Vm.frozen 0; have d_Vm := Vm.d1; have f1_Vm := Vm.frozen 1; have e_Vm := Vm.d2; have f2_Vm := Vm.frozen 2; have l_Vm := Vm.lt; have m_Vm := Nat.le_of_lt l_Vm; (go_wp2_with fail); refine (floor8 sm am lm cm zm bm mm dm ym (mid8 x U) k 2 HP x13 hm).mono ?_; rintro e x14 ⟨rfl, hb⟩; replace Vr := Va.after hb Vr; replace Vu := Va.after hb Vu; replace Vm := Va.after hb Vm; replace hr := Rt.after hb hr; replace hu := Rt.after hb hu; replace hm := Rt.after hb hm; replace B0 := step B0 hb; clear hb; rw [HW.out.1]; clear c_Vm f0_Vm d_Vm f1_Vm e_Vm f2_Vm l_Vm m_Vm; have c_Vm := Vm.d0; have f0_Vm := Vm.frozen 0; have d_Vm := Vm.d1; have f1_Vm := Vm.frozen 1; have e_Vm := Vm.d2; have f2_Vm := Vm.frozen 2; have l_Vm := Vm.lt; have m_Vm := Nat.le_of_lt l_Vm; (go_wp2_with fail); refine (ceil8 sm am lm cm zm bm mm dm ym (mid8 x U) k 2 HP x14 hm).mono ?_
     rintro e x15 ⟨rfl, hb⟩; replace Vr := Va.after hb Vr; replace Vu := Va.after hb Vu; replace Vm := Va.after hb Vm; replace hr := Rt.after hb hr; replace hu := Rt.after hb hu; replace hm := Rt.after hb hm; replace B0 := step B0 hb; clear hb; rw [HW.out.2.1]; clear c_Vm f0_Vm d_Vm f1_Vm e_Vm f2_Vm l_Vm m_Vm; have c_Vm := Vm.d0; have f0_Vm := Vm.frozen 0; have d_Vm := Vm.d1; have f1_Vm := Vm.frozen 1; have e_Vm := Vm.d2; have f2_Vm := Vm.frozen 2; have l_Vm := Vm.lt; have m_Vm := Nat.le_of_lt l_Vm; have c_Vr := Vr.d0; have f0_Vr := Vr.frozen 0; have d_Vr := Vr.d1; have f1_Vr := Vr.frozen 1; have e_Vr := Vr.d2; have f2_Vr := Vr.frozen 2; have l_Vr := Vr.lt; have m_Vr := Nat.le_of_lt l_Vr; (go_wp2_with fail); refine (qcompare_any sr ar lr cr zr br mr dr yr (fv x) sm am lm cm zm bm mm dm ym (mid8 x U) x15 hr hm).mono ?_; rintro e x16 ⟨rfl, hb⟩; replace Vr := Va.after hb Vr; replace Vu := Va.after hb Vu; replace Vm := Va.after hb Vm; replace hr := Rt.after hb hr
     replace hu := Rt.after hb hu; replace hm := Rt.after hb hm; replace B0 := step B0 hb; clear hb; rw [HQ.out.1]; clear c_Vm f0_Vm d_Vm f1_Vm e_Vm f2_Vm l_Vm m_Vm c_Vr f0_Vr d_Vr f1_Vr e_Vr f2_Vr l_Vr m_Vr; have c_Vm := Vm.d0; have f0_Vm := Vm.frozen 0; have d_Vm := Vm.d1; have f1_Vm := Vm.frozen 1; have e_Vm := Vm.d2; have f2_Vm := Vm.frozen 2; have l_Vm := Vm.lt; have m_Vm := Nat.le_of_lt l_Vm; have c_Vu := Vu.d0; have f0_Vu := Vu.frozen 0; have d_Vu := Vu.d1; have f1_Vu := Vu.frozen 1; have e_Vu := Vu.d2; have f2_Vu := Vu.frozen 2; have l_Vu := Vu.lt; have m_Vu := Nat.le_of_lt l_Vu; (go_wp2_with fail); refine (qcompare_any sm am lm cm zm bm mm dm ym (mid8 x U) su au lu cu zu bu mu du yu (fv U) x16 hm hu).mono ?_; rintro e x17 ⟨rfl, hb⟩; replace Vr := Va.after hb Vr; replace Vu := Va.after hb Vu; replace Vm := Va.after hb Vm; replace hr := Rt.after hb hr; replace hu := Rt.after hb hu; replace hm := Rt.after hb hm; replace B0 := step B0 hb; clear hb; rw [HQ.out.2]
     clear c_Vm f0_Vm d_Vm f1_Vm e_Vm f2_Vm l_Vm m_Vm c_Vu f0_Vu d_Vu f1_Vu e_Vu f2_Vu l_Vu m_Vu; (go_wp2_with fail)
     go_ret
     exact ⟨rfl, B0⟩
end Go.Proofs.YtogabmggdcefaabGreat
namespace Go.Proofs.YtogabmggdcefaabGreat.realsSteps
open Go.ChangeShapes Go.WideShapes Go.ChangeAt Go.RowKit
set_option linter.unusedVariables false

theorem own : ownKnob Tryz.prog.godebug = none := by kernel_rfl
theorem laidOut : laidOutB Tryz.prog = true := by kernel_rfl
theorem bytes8 : Tryz.prog.bytesOf 22 = 8 := by kernel_rfl

set_option maxRecDepth 100000 in
theorem contract (H : Type) (enc : TypeId × Value → H) (W : World) (base : Nat) (args : Array Value) (ds gs : List (DataW H)) (before : List MemPlace)
    (hval : ∀ (j : Nat) t v, Tryz.f3.params[j]? = some t → args[j]? = some v → Value.okWide Tryz.prog W .any base t v)
    (hW : DataW.Whole enc Tryz.prog Tryz.f3.params.toList Rows.realsStepsSpec.vars false W args.toList ds gs before) (hsz : (DataW.weightsEach Tryz.prog (Tryz.f3.params.toList ++ Rows.realsStepsSpec.plain.varTypes Tryz.prog) (ds ++ gs)).all (· ≤ reachBytes) = true) :
    Calls Tryz.prog 3 args W fun e W' => ∃ v, e = .returned v ∧ Rows.realsStepsSpec.post enc Tryz.prog Tryz.f3 false true false false W args v W' := by
  have hW' := hW
  obtain ⟨p, q, hA0, hV, rfl, hfz, hnd⟩ := hW
  have hA : DataW.TrodAll enc Tryz.prog W 0 (fun _ => true) true Tryz.f3.params.toList args.toList ds p := hA0
  rw [Tryz.params3] at hA hval hsz
  obtain ⟨v0, vs0, d0, ds0, p0, q0, hargs, rfl, rfl, h0, r0⟩ := trodAll_cons hA
  obtain ⟨rfl, rfl, rfl⟩ := trodAll_nil r0
  obtain rfl : args = #[v0] := by cases args; simp_all
  obtain ⟨rfl, rfl⟩ := trodVars_none hV
  obtain ⟨a0, rfl, rfl, rfl, w0⟩ := open_int Tryz.underlying22 (hval 0 22 v0 rfl rfl) h0
  clear hA0
  refine (steps_walk a0 W (word_of_wf w0)).mono fun e W' ⟨he, bel⟩ => ?_
  subst he
  exact ⟨_, rfl, _, _, _, [], _, [], hW', trodAll_mk1 (shut_bool Tryz.underlying4 _), (trodAll_cons_mk (shut_int Tryz.underlying22 w0) trodAll_mk0), rfl, bel.frame _, fun h => by cases h⟩

set_option maxRecDepth 100000 in
theorem lifted (os : Os) (started : os.Started) (H : Type) (enc : TypeId × Value → H) :
    ReturnsInHanded {} Tryz.checked os 3 .any (Rows.realsStepsSpec.pre6 enc Tryz.prog Tryz.f3 Rows.realsStepsRow.domain false) (Rows.realsStepsSpec.post enc Tryz.prog Tryz.f3 false true false false) := by
  refine returnsInHanded_of_change_sized (C := Tryz.checked) own started (by kernel_rfl) Tryz.func3
    (ChangeSpec.witness6 (enc := enc) (C := Tryz.checked) false ⟨#[], #[.int .u64 0], []⟩ 8 (by kernel_rfl) (by kernel_rfl) (by kernel_rfl) (by kernel_rfl)) ?_
  intro W base args ds gs before hval0 hW _ hsz0 _
  exact contract H enc W base args ds gs before hval0 hW hsz0

theorem over : Rows.realsStepsRow.holds Tryz.pinned (OpenSpec.ofChange Rows.realsStepsSpec) :=
  OpenClaim.holds_of_wide 3 Tryz.f3 rfl rfl rfl rfl rfl rfl rfl ⟨rfl, rfl, rfl, rfl, rfl⟩ rfl rfl rfl rfl rfl (by kernel_rfl) Tryz.func3 (by kernel_rfl)
    (of_decide_eq_true (by kernel_rfl)) (by unfold Func.isWrapper; first | (rw [if_pos (by decide +kernel)]; kernel_rfl) | (rw [if_neg (by decide +kernel)]; exact ⟨rfl, rfl⟩))
    (fun os started H enc _ => lifted os started H enc)
end Go.Proofs.YtogabmggdcefaabGreat.realsSteps
namespace Go.Proofs.YtogabmggdcefaabGreat
theorem realsSteps_holds : Rows.RealsStepsSaid := realsSteps.over
#print axioms realsSteps_holds
end Go.Proofs.YtogabmggdcefaabGreat
