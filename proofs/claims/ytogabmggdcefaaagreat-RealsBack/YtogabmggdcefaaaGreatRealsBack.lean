/-
  RealsBack holds: a float's number is rounded back to that float in every way, but that -0 becomes +0; of what is no finite float there is none; at any 64 bits; no condition.
-/
import Derived.Test.YtogabmggdcefaaaGreatRf3
import Derived.Test.YtogabmggdcefaaaGreatRows
import Derived.ProofKit
import Derived.OpenShut
import Derived.ShutString
import Derived.ChangeOld
import Derived.SizedLaws
namespace Go.Proofs.YtogabmggdcefaaaGreat
open Go.RowKit Go.Shelf
set_option linter.unusedVariables false

theorem finite8_yes (x : Nat) (h : x < 18446744073709551616) (hr : x % 9223372036854775808 < 9218868437227405312) (w : World) : Calls Tryz.prog 36 #[.float .f64 x] w fun e w' => e = .returned (.bool true) ∧ Below w.heap.size w w' := by
  have m1 : floatBits .sub .f64 x x = some 0 := sub_self h hr
  have q1 : (FloatKind.f64.format.order 0 0 == some .eq) = true := by decide
  go_enter Tryz.func36, Tryz.ntmps36
  go_wp2_with (simp only [run_float_arith _ _ _ _ _ _ _ m1])
  go_ret
  exact ⟨rfl, Below.refl _ _⟩
theorem sub_drawn (x : Nat) (h : x < 18446744073709551616) (hr : 9218868437227405312 ≤ x % 9223372036854775808) (t : TypeId) (w : World) : ∃ N, (binOp .sub t (.float .f64 x) (.float .f64 x)).run Tryz.prog w = .ok (.float .f64 N) w.drew ∧ 9218868437227405312 < N % 9223372036854775808 ∧ N < 18446744073709551616 := by
  have m1 : FloatKind.f64.format.sub x x = none := sub_self_not h hr
  refine ⟨(Question.nanBits .f64 x x).cut (w.tape w.drawn (.nanBits .f64 x x)), ?_, nan_cut _ _ _⟩
  simp [binOp, Op.floatArith, m1, Question.forced]
theorem finite8_no (x : Nat) (h : x < 18446744073709551616) (hr : 9218868437227405312 ≤ x % 9223372036854775808) (w : World) : Calls Tryz.prog 36 #[.float .f64 x] w fun e w' => e = .returned (.bool false) ∧ Below w.heap.size w w' := by
  obtain ⟨N, e1, e2, e3⟩ := sub_drawn x h hr 23 w
  have q1 : (FloatKind.f64.format.order N 0 == some .eq) = false := float_nan .eq e3 (by decide) (.inl e2)
  go_enter Tryz.func36, Tryz.ntmps36
  go_wp2_with (simp only [e1])
  go_ret
  exact ⟨rfl, (Below.refl _ _).drew⟩
end Go.Proofs.YtogabmggdcefaaaGreat
namespace Go.Proofs.YtogabmggdcefaaaGreat
open Go.RowKit Go.Shelf
set_option linter.unusedVariables false

theorem back_word {x : Nat} (h : x < 18446744073709551616) : wd (sn (fv x)) (x % 9223372036854775808) = if x = 9223372036854775808 then 0 else x := by
  have e : sn (fv x) = decide (fz x < 0) := by unfold sn; rw [decide_eq_decide]; exact (fv_sign x).1
  rw [e]
  by_cases h0 : x % 9223372036854775808 = 0
  · have z : fz x = 0 := by rw [fz_sg h, h0, fi_zero]; cases fsg x <;> rfl
    rw [z, h0]
    by_cases g : x = 9223372036854775808
    · rw [if_pos g]; rfl
    · rw [if_neg g]
      have : x = 0 := by omega
      rw [this]; rfl
  · have q := (fz_neg_iff h h0).1
    rw [if_neg (by omega)]
    have hw := wd_sg h
    cases hs : fsg x
    · rw [hs] at q hw
      rw [decide_eq_false (by simpa using q)]
      exact hw
    · rw [hs] at q hw
      rw [decide_eq_true (q.2 rfl)]
      exact hw
theorem cw_self {x : Nat} (hr : x % 9223372036854775808 < 9218868437227405312) : cw x (fv x) = 0 := by
  rw [cw_word (by omega)]
  exact cmp3_eq (fv_num x).symm

set_option maxHeartbeats 4000000 in
theorem back_walk (a : Int) (w : World) (ha : Word a) :
    Calls Tryz.prog 8 #[.int .u64 a] w fun e w' => e = .returned (.bool true) ∧ Below w.heap.size w w' := by
  obtain ⟨x, rfl⟩ := Int.eq_ofNat_of_zero_le ha.1
  have hx : x < 18446744073709551616 := by have := ha.2; omega
  have HX : Hid (x < 18446744073709551616) := hx
  clear ha
  have ff := ffrom x
  have B0 : Below w.heap.size w w := Below.refl _ _
  go_enter Tryz.func8, Tryz.ntmps8
  go_wp2_with fail
  refine (awake8 w).mono ?_
  rintro e x1 ⟨rfl, hb⟩
  replace B0 := step B0 hb
  clear hb
  by_cases hr : x % 9223372036854775808 < 9218868437227405312
  ·
    have HR : Hid (x % 9223372036854775808 < 9218868437227405312) := hr
    have HF : Hid (Fr x) := ⟨by omega, hx⟩
    have hP := fv_pv hx hr
    have HP : Hid (Pv (fv x) (x % 9223372036854775808) 0) := hP
    have HA := all_zero hP
    rw [back_word hx] at HA
    have m1 : floatBits .add .f64 x 0 = some (if x = 9223372036854775808 then 0 else x) := add_nought hx hr
    obtain ⟨W, hW⟩ : ∃ W, (if x = 9223372036854775808 then 0 else x) = W := ⟨_, rfl⟩
    rw [hW] at HA m1
    have HE : Hid (flw (fv x) (x % 9223372036854775808) 0 = W ∧ cew (fv x) (x % 9223372036854775808) 0 = W ∧ nrw (fv x) (x % 9223372036854775808) 0 = W ∧ exw (fv x) (x % 9223372036854775808) 0 = W ∧ exb 0 = true) := HA
    clear hW HA hP hr hx
    go_wp2_with fail
    refine (of8 x HX.out HR.out x1).mono ?_
    rintro e x2 ⟨sr, ar, lr, cr, zr, br, mr, dr, yr, rfl, hr, hb⟩
    replace B0 := step B0 hb
    clear hb
    go_wp2_with fail
    refine ent1 x2 _ _ (Q := fun W => Calls Tryz.prog _ _ W _) ?_
    intro x3 hb hs_x3 V4
    replace hr := Rt.after hb hr
    replace B0 := step B0 hb
    clear hb hs_x3
    refine (finite8_yes x HX.out HR.out x3).mono ?_
    rintro e x4 ⟨rfl, hb⟩
    replace V4 := Va.after hb V4
    replace hr := Rt.after hb hr
    replace B0 := step B0 hb
    clear hb
    have c_V4 := V4.d0
    have f0_V4 := V4.frozen 0
    have d_V4 := V4.d1
    have f1_V4 := V4.frozen 1
    have e_V4 := V4.d2
    have f2_V4 := V4.frozen 2
    have l_V4 := V4.lt
    have m_V4 := Nat.le_of_lt l_V4
    go_wp2_with (simp only [run_float_arith _ _ _ _ _ _ _ m1])
    refine (exact8 sr ar lr cr zr br mr dr yr (fv x) (x % 9223372036854775808) 0 HP x4 hr).mono ?_
    rintro e x5 ⟨rfl, hb⟩
    replace V4 := Va.after hb V4
    replace hr := Rt.after hb hr
    replace B0 := step B0 hb
    clear hb
    rw [HE.out.2.2.2.1, HE.out.2.2.2.2]
    clear c_V4 f0_V4 d_V4 f1_V4 e_V4 f2_V4 l_V4 m_V4
    have c_V4 := V4.d0
    have f0_V4 := V4.frozen 0
    have d_V4 := V4.d1
    have f1_V4 := V4.frozen 1
    have e_V4 := V4.d2
    have f2_V4 := V4.frozen 2
    have l_V4 := V4.lt
    have m_V4 := Nat.le_of_lt l_V4
    go_wp2_with fail
    refine (compare8 x HF.out sr ar lr cr zr br mr dr yr (fv x) x5 hr).mono ?_
    rintro e x6 ⟨rfl, hb⟩
    replace V4 := Va.after hb V4
    replace hr := Rt.after hb hr
    replace B0 := step B0 hb
    clear hb
    rw [cw_self HR.out]
    clear c_V4 f0_V4 d_V4 f1_V4 e_V4 f2_V4 l_V4 m_V4
    go_wp2_with fail
    refine (one_same W _).mono ?_
    rintro e x7 ⟨rfl, hw⟩
    rw [hw]
    clear hw
    have c_V4 := V4.d0
    have f0_V4 := V4.frozen 0
    have d_V4 := V4.d1
    have f1_V4 := V4.frozen 1
    have e_V4 := V4.d2
    have f2_V4 := V4.frozen 2
    have l_V4 := V4.lt
    have m_V4 := Nat.le_of_lt l_V4
    go_wp2_with fail
    refine (floor8 sr ar lr cr zr br mr dr yr (fv x) (x % 9223372036854775808) 0 HP x6 hr).mono ?_
    rintro e x8 ⟨rfl, hb⟩
    replace V4 := Va.after hb V4
    replace hr := Rt.after hb hr
    replace B0 := step B0 hb
    clear hb
    rw [HE.out.1]
    clear c_V4 f0_V4 d_V4 f1_V4 e_V4 f2_V4 l_V4 m_V4
    go_wp2_with fail
    refine (one_same W _).mono ?_
    rintro e x9 ⟨rfl, hw⟩
    rw [hw]
    clear hw
    have c_V4 := V4.d0
    have f0_V4 := V4.frozen 0
    have d_V4 := V4.d1
    have f1_V4 := V4.frozen 1
    have e_V4 := V4.d2
    have f2_V4 := V4.frozen 2
    have l_V4 := V4.lt
    have m_V4 := Nat.le_of_lt l_V4
    go_wp2_with fail
    refine (ceil8 sr ar lr cr zr br mr dr yr (fv x) (x % 9223372036854775808) 0 HP x8 hr).mono ?_
    rintro e x10 ⟨rfl, hb⟩
    replace V4 := Va.after hb V4
    replace hr := Rt.after hb hr
    replace B0 := step B0 hb
    clear hb
    rw [HE.out.2.1]
    clear c_V4 f0_V4 d_V4 f1_V4 e_V4 f2_V4 l_V4 m_V4
    go_wp2_with fail
    refine (one_same W _).mono ?_
    rintro e x11 ⟨rfl, hw⟩
    rw [hw]
    clear hw
    have c_V4 := V4.d0
    have f0_V4 := V4.frozen 0
    have d_V4 := V4.d1
    have f1_V4 := V4.frozen 1
    have e_V4 := V4.d2
    have f2_V4 := V4.frozen 2
    have l_V4 := V4.lt
    have m_V4 := Nat.le_of_lt l_V4
    go_wp2_with fail
    refine (nearest8 sr ar lr cr zr br mr dr yr (fv x) (x % 9223372036854775808) 0 HP x10 hr).mono ?_
    rintro e x12 ⟨rfl, hb⟩
    replace V4 := Va.after hb V4
    replace hr := Rt.after hb hr
    replace B0 := step B0 hb
    clear hb
    rw [HE.out.2.2.1]
    clear c_V4 f0_V4 d_V4 f1_V4 e_V4 f2_V4 l_V4 m_V4
    go_wp2_with fail
    refine (one_same W _).mono ?_
    rintro e x13 ⟨rfl, hw⟩
    rw [hw]
    clear hw
    have c_V4 := V4.d0
    have f0_V4 := V4.frozen 0
    have d_V4 := V4.d1
    have f1_V4 := V4.frozen 1
    have e_V4 := V4.d2
    have f2_V4 := V4.frozen 2
    have l_V4 := V4.lt
    have m_V4 := Nat.le_of_lt l_V4
    go_wp2_with fail
    go_ret
    exact ⟨rfl, B0⟩
  ·
    have HR : Hid (9218868437227405312 ≤ x % 9223372036854775808) := by show _ ≤ _; omega
    clear hr hx
    go_wp2_with fail
    refine (of8_no x HX.out HR.out x1).mono ?_
    rintro e x2 ⟨rfl, hb⟩
    replace B0 := step B0 hb
    clear hb
    go_wp2_with fail
    refine ent1 x2 _ _ (Q := fun W => Calls Tryz.prog _ _ W _) ?_
    intro x3 hb hs_x3 V4
    replace B0 := step B0 hb
    clear hb hs_x3
    refine (finite8_no x HX.out HR.out x3).mono ?_
    rintro e x4 ⟨rfl, hb⟩
    replace V4 := Va.after hb V4
    replace B0 := step B0 hb
    clear hb
    have c_V4 := V4.d0
    have f0_V4 := V4.frozen 0
    have d_V4 := V4.d1
    have f1_V4 := V4.frozen 1
    have e_V4 := V4.d2
    have f2_V4 := V4.frozen 2
    have l_V4 := V4.lt
    have m_V4 := Nat.le_of_lt l_V4
    go_wp2_with fail
    refine (qsign_any false none 0 0 [] none 0 0 [] 0 x4 (Rt.nil _)).mono ?_
    rintro e x5 ⟨rfl, hb⟩
    replace V4 := Va.after hb V4
    replace B0 := step B0 hb
    clear hb
    rw [show Int.sign (0 : Rat).num = 0 from rfl]
    clear c_V4 f0_V4 d_V4 f1_V4 e_V4 f2_V4 l_V4 m_V4
    go_wp2_with fail
    go_ret
    exact ⟨rfl, B0⟩
end Go.Proofs.YtogabmggdcefaaaGreat
namespace Go.Proofs.YtogabmggdcefaaaGreat.realsBack
open Go.ChangeShapes Go.WideShapes Go.ChangeAt Go.RowKit
set_option linter.unusedVariables false

theorem own : ownKnob Tryz.prog.godebug = none := by kernel_rfl
theorem laidOut : laidOutB Tryz.prog = true := by kernel_rfl
theorem bytes8 : Tryz.prog.bytesOf 22 = 8 := by kernel_rfl

set_option maxRecDepth 100000 in
theorem contract (H : Type) (enc : TypeId × Value → H) (W : World) (base : Nat) (args : Array Value) (ds gs : List (DataW H)) (before : List MemPlace)
    (hval : ∀ (j : Nat) t v, Tryz.f8.params[j]? = some t → args[j]? = some v → Value.okWide Tryz.prog W .any base t v)
    (hW : DataW.Whole enc Tryz.prog Tryz.f8.params.toList Rows.realsBackSpec.vars false W args.toList ds gs before) (hsz : (DataW.weightsEach Tryz.prog (Tryz.f8.params.toList ++ Rows.realsBackSpec.plain.varTypes Tryz.prog) (ds ++ gs)).all (· ≤ reachBytes) = true) :
    Calls Tryz.prog 8 args W fun e W' => ∃ v, e = .returned v ∧ Rows.realsBackSpec.post enc Tryz.prog Tryz.f8 false true false false W args v W' := by
  have hW' := hW
  obtain ⟨p, q, hA0, hV, rfl, hfz, hnd⟩ := hW
  have hA : DataW.TrodAll enc Tryz.prog W 0 (fun _ => true) true Tryz.f8.params.toList args.toList ds p := hA0
  rw [Tryz.params8] at hA hval hsz
  obtain ⟨v0, vs0, d0, ds0, p0, q0, hargs, rfl, rfl, h0, r0⟩ := trodAll_cons hA
  obtain ⟨rfl, rfl, rfl⟩ := trodAll_nil r0
  obtain rfl : args = #[v0] := by cases args; simp_all
  obtain ⟨rfl, rfl⟩ := trodVars_none hV
  obtain ⟨a0, rfl, rfl, rfl, w0⟩ := open_int Tryz.underlying22 (hval 0 22 v0 rfl rfl) h0
  clear hA0
  refine (back_walk a0 W (word_of_wf w0)).mono fun e W' ⟨he, bel⟩ => ?_
  subst he
  exact ⟨_, rfl, _, _, _, [], _, [], hW', trodAll_mk1 (shut_bool Tryz.underlying4 _), (trodAll_cons_mk (shut_int Tryz.underlying22 w0) trodAll_mk0), rfl, bel.frame _, fun h => by cases h⟩

set_option maxRecDepth 100000 in
theorem lifted (os : Os) (started : os.Started) (H : Type) (enc : TypeId × Value → H) :
    ReturnsInHanded {} Tryz.checked os 8 .any (Rows.realsBackSpec.pre6 enc Tryz.prog Tryz.f8 Rows.realsBackRow.domain false) (Rows.realsBackSpec.post enc Tryz.prog Tryz.f8 false true false false) := by
  refine returnsInHanded_of_change_sized (C := Tryz.checked) own started (by kernel_rfl) Tryz.func8
    (ChangeSpec.witness6 (enc := enc) (C := Tryz.checked) false ⟨#[], #[.int .u64 0], []⟩ 8 (by kernel_rfl) (by kernel_rfl) (by kernel_rfl) (by kernel_rfl)) ?_
  intro W base args ds gs before hval0 hW _ hsz0 _
  exact contract H enc W base args ds gs before hval0 hW hsz0

theorem over : Rows.realsBackRow.holds Tryz.pinned (OpenSpec.ofChange Rows.realsBackSpec) :=
  OpenClaim.holds_of_wide 8 Tryz.f8 rfl rfl rfl rfl rfl rfl rfl ⟨rfl, rfl, rfl, rfl, rfl⟩ rfl rfl rfl rfl rfl (by kernel_rfl) Tryz.func8 (by kernel_rfl)
    (of_decide_eq_true (by kernel_rfl)) (by unfold Func.isWrapper; first | (rw [if_pos (by decide +kernel)]; kernel_rfl) | (rw [if_neg (by decide +kernel)]; exact ⟨rfl, rfl⟩))
    (fun os started H enc _ => lifted os started H enc)
end Go.Proofs.YtogabmggdcefaaaGreat.realsBack
namespace Go.Proofs.YtogabmggdcefaaaGreat
theorem realsBack_holds : Rows.RealsBackSaid := realsBack.over
#print axioms realsBack_holds
end Go.Proofs.YtogabmggdcefaaaGreat
