/-
  The walk of RatFloors: each call by its contract.
-/
import Derived.Test.YtadfccbjadopgabGreatAl
import Derived.Test.YtadfccbjadopgabGreatRt9
import Derived.Test.YtadfccbjadopgabGreatRt11
import Derived.Test.YtadfccbjadopgabGreatRt12
import Derived.Test.YtadfccbjadopgabGreatRt14
namespace Go.Proofs.YtadfccbjadopgabGreat
open Go.RowKit Go.Shelf
set_option linter.unusedVariables false

theorem qfl_le (v : Rat) : ((qfl v : Int) : Rat) ≤ v := by
  rw [Rat.le_iff]
  have hd := v.den_pos
  have h1 := Int.emod_nonneg v.num (show (v.den : Int) ≠ 0 by omega)
  have h2 := Int.mul_ediv_add_emod v.num (v.den : Int)
  rw [Int.mul_comm] at h2
  simp only [Rat.num_intCast, Rat.den_intCast]
  unfold qfl
  simp
  omega
theorem qfl_lt (v : Rat) : v < ((qfl v : Int) : Rat) + 1 := by
  have e : ((qfl v : Int) : Rat) + 1 = ((qfl v + 1 : Int) : Rat) := by rw [Rat.intCast_add]; rfl
  rw [e, Rat.lt_iff]
  have hd := v.den_pos
  have h1 := Int.emod_lt_of_pos v.num (show (0 : Int) < v.den by omega)
  have h2 := Int.mul_ediv_add_emod v.num (v.den : Int)
  rw [Int.mul_comm] at h2
  simp only [Rat.num_intCast, Rat.den_intCast]
  unfold qfl
  simp
  rw [Int.add_mul]
  omega
theorem qfl_bound (v : Rat) : (qfl v).natAbs ≤ v.num.natAbs := by
  unfold qfl
  exact Int.natAbs_ediv_le_natAbs v.num v.den
theorem Sz.int {n : Nat} (hn : 1 ≤ n) {x : Int} (h : (x.natAbs : Int) < pw n) : Sz n ((x : Int) : Rat) := ⟨h, one_lt_pw hn⟩
theorem le_qcmp {x y : Rat} (h : x ≤ y) : qcmp x y ≤ 0 := by
  rcases Rat.le_iff_lt_or_eq.1 h with h | h
  · rw [qcmp_lt h]; decide
  · rw [h, qcmp_eq]; decide
theorem ge_qcmp {x y : Rat} (h : y ≤ x) : 0 ≤ qcmp x y := by
  rcases Rat.le_iff_lt_or_eq.1 h with h | h
  · rw [qcmp_gt h]; decide
  · rw [h, qcmp_eq]; decide
/-- What comes out, and that nothing is too long. -/
structure FloorV (v vl vh vm ve : Rat) (kf k1 k3 : Int) : Prop where
  l : ((qfl v : Int) : Rat) = vl
  h : ((- qfl (-v) : Int) : Rat) = vh
  o : Rat.divInt 1 1 = 1
  m : vl + 1 = vm
  e : vh - 1 = ve
  s : vl + (v - ((qfl v : Int) : Rat)) = v
  f1 : Int.sign (v - ((qfl v : Int) : Rat)).num = kf
  f2 : 0 ≤ kf
  f3 : qcmp (v - ((qfl v : Int) : Rat)) 1 = -1
  c1 : qcmp vl v = k1
  d1 : k1 ≤ 0
  c2 : qcmp vm v = 1
  c3 : qcmp vh v = k3
  d3 : 0 ≤ k3
  c4 : qcmp ve v = -1
  v : Short v
  vl : Short vl
  vh : Short vh
  v1 : Short 1
  vm : Short vm
  ve : Short ve
theorem floor_v {v : Rat} (hv : Sz 100 v) : FloorV v ((qfl v : Int) : Rat) ((- qfl (-v) : Int) : Rat) (((qfl v : Int) : Rat) + 1) (((- qfl (-v) : Int) : Rat) - 1) (Int.sign (v - ((qfl v : Int) : Rat)).num) (qcmp ((qfl v : Int) : Rat) v) (qcmp ((- qfl (-v) : Int) : Rat) v) := by
  have z1 : Sz 1 (1 : Rat) := ⟨by decide, by decide⟩
  have zl : Sz 100 ((qfl v : Int) : Rat) := Sz.int (by omega) (Int.lt_of_le_of_lt (by exact_mod_cast qfl_bound v) hv.1)
  have zh : Sz 100 ((- qfl (-v) : Int) : Rat) := Sz.int (by omega) (Int.lt_of_le_of_lt (by rw [Int.natAbs_neg]; have := qfl_bound (-v); rw [Rat.neg_num, Int.natAbs_neg] at this; exact_mod_cast this) hv.1)
  have l1 := qfl_le v
  have l2 := qfl_lt v
  have l3 := qfl_le (-v)
  have l4 := qfl_lt (-v)
  have eh : ((- qfl (-v) : Int) : Rat) = - ((qfl (-v) : Int) : Rat) := Rat.intCast_neg _
  have fp := frac_parts v
  have hd := v.den_pos
  have e1 := Int.emod_nonneg v.num (show (v.den : Int) ≠ 0 by omega)
  have e2 := Int.emod_lt_of_pos v.num (show (0 : Int) < v.den by omega)
  exact {
    l := rfl, h := rfl, o := by decide +kernel, m := rfl, e := rfl
    s := by rw [Rat.sub_eq_add_neg, Rat.add_comm v, ← Rat.add_assoc, Rat.add_neg_cancel, Rat.zero_add]
    f1 := rfl
    f2 := by
      rw [fp.1]
      rcases Int.lt_trichotomy (v.num % (v.den : Int)) 0 with h | h | h
      · omega
      · rw [h]; decide
      · rw [Int.sign_eq_one_of_pos h]; decide
    f3 := qcmp_lt (by rw [Rat.lt_iff, fp.1, fp.2]; simpa using e2)
    c1 := rfl
    d1 := le_qcmp l1
    c2 := qcmp_gt l2
    c3 := rfl
    d3 := ge_qcmp (by rw [eh]; have := Rat.neg_le_neg l3; rwa [Rat.neg_neg] at this)
    c4 := qcmp_lt (by
      rw [eh]
      have h5 := Rat.neg_lt_neg l4
      rw [Rat.neg_neg, Rat.neg_add, ← Rat.sub_eq_add_neg] at h5
      exact h5)
    v := hv.short (by omega)
    vl := zl.short (by omega)
    vh := zh.short (by omega)
    v1 := z1.short (by omega)
    vm := (zl.add z1).short (by omega)
    ve := (zh.sub z1).short (by omega) }

set_option maxHeartbeats 32000000 in
set_option maxRecDepth 20000 in
theorem floors5_walk (s0 : Bool) (a0 : Option Addr) (l0 c0 : Nat) (z0 : List Int) (b0 : Option Addr) (m0 d0 : Nat) (y0 : List Int) (w : World) (h0 : Ri w a0 l0 c0 z0 b0 m0 d0 y0) (n0 : a0 = none → l0 = 0 ∧ c0 = 0) (o0 : b0 = none → m0 = 0 ∧ d0 = 0) :
    Calls Tryz.prog 3 #[.agg #[.bool s0, .slice a0 l0 c0, .slice b0 m0 d0]] w fun e w' => e = .returned (.bool true) ∧ Below w.heap.size w w' := by
  have B0 : Below w.heap.size w w := Below.refl _ _
  go_enter Tryz.func3, Tryz.ntmps3
  (go_wp2_with fail); refine ent1 w _ _ (Q := fun W => Calls Tryz.prog _ _ W _) ?_; intro x1 hb hs_x1 V0; replace h0 := Ri.after hb h0; replace B0 := step B0 hb; clear hb hs_x1; refine (awake5 x1).mono ?_; rintro e x2 ⟨rfl, hb⟩; replace V0 := Va.after hb V0; replace h0 := Ri.after hb h0; replace B0 := step B0 hb; clear hb; have c_V0 := V0.d0; have f0_V0 := V0.frozen 0; have d_V0 := V0.d1; have f1_V0 := V0.frozen 1; have e_V0 := V0.d2; have f2_V0 := V0.frozen 2; have l_V0 := V0.lt; have m_V0 := Nat.le_of_lt l_V0; (go_wp2_with fail); refine ent1 x2 _ _ (Q := fun W => Calls Tryz.prog _ _ W _) ?_; intro x3 hb hs_x3 Vt; replace V0 := Va.after hb V0; replace h0 := Ri.after hb h0; replace B0 := step B0 hb; clear hb hs_x3; refine (tiny5 _ 1 _ _ (fun i => (⟨s0, a0, l0, c0, z0, b0, m0, d0, y0⟩ : R1)) x3 Vt ?_ ?_ (by omega)).mono ?_
  · intro i hi
    match i, hi with
    | 0, _ => exact ⟨rfl, rfl, rfl⟩
  · intro i hi
    match i, hi with
    | 0, _ => exact h0
  rintro e x4 ⟨t, rfl, ht, hb⟩; replace V0 := Va.after hb V0; replace Vt := Va.after hb Vt; replace h0 := Ri.after hb h0; replace B0 := step B0 hb; clear hb; clear Vt
  cases t
  ·
    clear c_V0 f0_V0 d_V0 f1_V0 e_V0 f2_V0 l_V0 m_V0; (go_wp2_with fail)
    go_ret
    exact ⟨rfl, B0⟩
  ·
    have ok0 := ht.out rfl 0 (by omega); have HN0 : Hid (l0 ≤ 100 ∧ m0 ≤ 100 ∧ Norm s0 z0 y0) := ok0; clear ok0; obtain ⟨v0, hv0, hd0, hs0⟩ := norm_rat h0.1.2.1 h0.2.1.2.1 HN0.out.2.2; have HV0 : Hid (iv s0 z0 = v0.num ∧ num y0 = v0.den ∧ (s0 = true → num z0 ≠ 0)) := ⟨hv0, hd0, hs0⟩; have HZ0 : Hid (Sz 100 v0) := sz_of h0.1 h0.2.1 HN0.out.1 HN0.out.2.1 hv0 hd0; clear hv0 hd0 hs0; clear ht; (obtain ⟨vl, vh, vm, ve, kf, k1, k3, HS0⟩ : ∃ vl vh vm ve kf k1 k3, FloorV v0 vl vh vm ve kf k1 k3 := ⟨_, _, _, _, _, _, _, floor_v HZ0.out⟩); have HS : Hid (FloorV v0 vl vh vm ve kf k1 k3) := HS0; clear HS0 HZ0; clear c_V0 f0_V0 d_V0 f1_V0 e_V0 f2_V0 l_V0 m_V0; have c_V0 := V0.d0; have f0_V0 := V0.frozen 0; have d_V0 := V0.d1; have f1_V0 := V0.frozen 1; have e_V0 := V0.d2; have f2_V0 := V0.frozen 2; have l_V0 := V0.lt; have m_V0 := Nat.le_of_lt l_V0; (go_wp2_with fail); refine (of5 s0 a0 l0 c0 z0 b0 m0 d0 y0 v0 x4 h0 n0 o0 (by have := HN0.out.1; omega) (by have := HN0.out.2.1; omega) HN0.out.2.2 HV0.out.1 HV0.out.2.1 HV0.out.2.2).mono ?_
    rintro e x5 ⟨si, ai, li, ci, zi, bi, mi, di, yi, rfl, hi, hb⟩; replace V0 := Va.after hb V0; replace h0 := Ri.after hb h0; replace B0 := step B0 hb; clear hb; clear c_V0 f0_V0 d_V0 f1_V0 e_V0 f2_V0 l_V0 m_V0; (go_wp2_with fail); refine ent1 x5 _ _ (Q := fun W => Calls Tryz.prog _ _ W _) ?_; intro x6 hb hs_x6 Xi; replace V0 := Va.after hb V0; replace h0 := Ri.after hb h0; replace hi := Rt.after hb hi; replace B0 := step B0 hb; clear hb hs_x6; clear V0 h0; refine (qfloor_any si ai li ci zi bi mi di yi v0 x6 hi).mono ?_; rintro e x7 ⟨s5, a5, l5, c5, z5, rfl, h5, e5, hb⟩; replace Xi := Va.after hb Xi; replace hi := Rt.after hb hi; replace B0 := step B0 hb; clear hb; (go_wp2_with fail); refine (qwhole_to s5 a5 l5 c5 z5 vl x7 h5 (by rw [e5]; exact HS.out.l) HS.out.vl).mono ?_; rintro e x8 ⟨sL, aL, lL, cL, zL, bL, mL, dL, yL, rfl, hL, hb⟩; replace Xi := Va.after hb Xi; replace hi := Rt.after hb hi; replace h5 := It.after hb h5; replace B0 := step B0 hb
    clear hb; have c_Xi := Xi.d0; have f0_Xi := Xi.frozen 0; have d_Xi := Xi.d1; have f1_Xi := Xi.frozen 1; have e_Xi := Xi.d2; have f2_Xi := Xi.frozen 2; have l_Xi := Xi.lt; have m_Xi := Nat.le_of_lt l_Xi; (go_wp2_with fail); clear h5; refine ent1 x8 _ _ (Q := fun W => Calls Tryz.prog _ _ W _) ?_; intro x9 hb hs_x9 XL; replace Xi := Va.after hb Xi; replace hi := Rt.after hb hi; replace hL := Rt.after hb hL; replace B0 := step B0 hb; clear hb hs_x9; clear e5; refine (qceil_any si ai li ci zi bi mi di yi v0 x9 hi).mono ?_; rintro e x10 ⟨s5, a5, l5, c5, z5, rfl, h5, e5, hb⟩; replace Xi := Va.after hb Xi; replace XL := Va.after hb XL; replace hi := Rt.after hb hi; replace hL := Rt.after hb hL; replace B0 := step B0 hb; clear hb; clear c_Xi f0_Xi d_Xi f1_Xi e_Xi f2_Xi l_Xi m_Xi; (go_wp2_with fail); refine (qwhole_to s5 a5 l5 c5 z5 vh x10 h5 (by rw [e5]; exact HS.out.h) HS.out.vh).mono ?_; rintro e x11 ⟨sH, aH, lH, cH, zH, bH, mH, dH, yH, rfl, hH, hb⟩; replace Xi := Va.after hb Xi
    replace XL := Va.after hb XL; replace hi := Rt.after hb hi; replace hL := Rt.after hb hL; replace h5 := It.after hb h5; replace B0 := step B0 hb; clear hb; (go_wp2_with fail); clear h5; refine ent1 x11 _ _ (Q := fun W => Calls Tryz.prog _ _ W _) ?_; intro x12 hb hs_x12 XH; replace Xi := Va.after hb Xi; replace XL := Va.after hb XL; replace hi := Rt.after hb hi; replace hL := Rt.after hb hL; replace hH := Rt.after hb hH; replace B0 := step B0 hb; clear hb hs_x12; clear e5; refine (qsmall_to 1 1 (by omega) (by omega) (by omega) (by omega) (by omega) 1 x12 HS.out.o HS.out.v1).mono ?_; rintro e x13 ⟨sO, aO, lO, cO, zO, bO, mO, dO, yO, rfl, hO, hb⟩; replace Xi := Va.after hb Xi; replace XL := Va.after hb XL; replace XH := Va.after hb XH; replace hi := Rt.after hb hi; replace hL := Rt.after hb hL; replace hH := Rt.after hb hH; replace B0 := step B0 hb; clear hb; have c_XL := XL.d0; have f0_XL := XL.frozen 0; have d_XL := XL.d1; have f1_XL := XL.frozen 1; have e_XL := XL.d2
    have f2_XL := XL.frozen 2; have l_XL := XL.lt; have m_XL := Nat.le_of_lt l_XL; (go_wp2_with fail); refine ent1 x13 _ _ (Q := fun W => Calls Tryz.prog _ _ W _) ?_; intro x14 hb hs_x14 XO; replace Xi := Va.after hb Xi; replace XL := Va.after hb XL; replace XH := Va.after hb XH; replace hi := Rt.after hb hi; replace hL := Rt.after hb hL; replace hH := Rt.after hb hH; replace hO := Rt.after hb hO; replace B0 := step B0 hb; clear hb hs_x14; refine (qadd_to sL aL lL cL zL bL mL dL yL vl sO aO lO cO zO bO mO dO yO 1 vm x14 hL hO HS.out.m HS.out.vm).mono ?_; rintro e x15 ⟨sM, aM, lM, cM, zM, bM, mM, dM, yM, rfl, hM, hb⟩; replace Xi := Va.after hb Xi; replace XL := Va.after hb XL; replace XH := Va.after hb XH; replace XO := Va.after hb XO; replace hi := Rt.after hb hi; replace hL := Rt.after hb hL; replace hH := Rt.after hb hH; replace hO := Rt.after hb hO; replace B0 := step B0 hb; clear hb; clear c_XL f0_XL d_XL f1_XL e_XL f2_XL l_XL m_XL; have c_XH := XH.d0
    have f0_XH := XH.frozen 0; have d_XH := XH.d1; have f1_XH := XH.frozen 1; have e_XH := XH.d2; have f2_XH := XH.frozen 2; have l_XH := XH.lt; have m_XH := Nat.le_of_lt l_XH; have c_XO := XO.d0; have f0_XO := XO.frozen 0; have d_XO := XO.d1; have f1_XO := XO.frozen 1; have e_XO := XO.d2; have f2_XO := XO.frozen 2; have l_XO := XO.lt; have m_XO := Nat.le_of_lt l_XO; (go_wp2_with fail); refine ent1 x15 _ _ (Q := fun W => Calls Tryz.prog _ _ W _) ?_; intro x16 hb hs_x16 XM; replace Xi := Va.after hb Xi; replace XL := Va.after hb XL; replace XH := Va.after hb XH; replace XO := Va.after hb XO; replace hi := Rt.after hb hi; replace hL := Rt.after hb hL; replace hH := Rt.after hb hH; replace hO := Rt.after hb hO; replace hM := Rt.after hb hM; replace B0 := step B0 hb; clear hb hs_x16; refine (qsub_to sH aH lH cH zH bH mH dH yH vh sO aO lO cO zO bO mO dO yO 1 ve x16 hH hO HS.out.e HS.out.ve).mono ?_; rintro e x17 ⟨sE, aE, lE, cE, zE, bE, mE, dE, yE, rfl, hE, hb⟩
    replace Xi := Va.after hb Xi; replace XL := Va.after hb XL; replace XH := Va.after hb XH; replace XO := Va.after hb XO; replace XM := Va.after hb XM; replace hi := Rt.after hb hi; replace hL := Rt.after hb hL; replace hH := Rt.after hb hH; replace hO := Rt.after hb hO; replace hM := Rt.after hb hM; replace B0 := step B0 hb; clear hb; clear c_XH f0_XH d_XH f1_XH e_XH f2_XH l_XH m_XH c_XO f0_XO d_XO f1_XO e_XO f2_XO l_XO m_XO; (go_wp2_with fail); refine ent1 x17 _ _ (Q := fun W => Code.wp Tryz.prog _ _ _ W) ?_; intro x18 hb hs_x18 XE; replace Xi := Va.after hb Xi; replace XL := Va.after hb XL; replace XH := Va.after hb XH; replace XO := Va.after hb XO; replace XM := Va.after hb XM; replace hi := Rt.after hb hi; replace hL := Rt.after hb hL; replace hH := Rt.after hb hH; replace hO := Rt.after hb hO; replace hM := Rt.after hb hM; replace hE := Rt.after hb hE; replace B0 := step B0 hb; clear hb hs_x18; (have LS : Hid (∀ W, Below x18.heap.size x18 W → (fun W => W.cell? ⟨x5.heap.size, 0, none⟩ = some (.bool si) ∧ W.cell? ⟨x5.heap.size, 1, none⟩ = some (.slice ai li ci) ∧ W.cell? ⟨x5.heap.size, 2, none⟩ = some (.slice bi mi di) ∧ W.cell? ⟨x8.heap.size, 0, none⟩ = some (.bool sL) ∧ W.cell? ⟨x8.heap.size, 1, none⟩ = some (.slice aL lL cL) ∧ W.cell? ⟨x8.heap.size, 2, none⟩ = some (.slice bL mL dL)) W) := fun W hb => ⟨(Va.after hb Xi).d0, (Va.after hb Xi).d1, (Va.after hb Xi).d2, (Va.after hb XL).d0, (Va.after hb XL).d1, (Va.after hb XL).d2⟩)
    have lb_Xi := Xi.lt; have L_Xi : Hid (Va x18 (x5.heap.size) 32 #[.bool si, .slice ai li ci, .slice bi mi di]) := Xi; have lb_XL := XL.lt; have L_XL : Hid (Va x18 (x8.heap.size) 32 #[.bool sL, .slice aL lL cL, .slice bL mL dL]) := XL; have lb_XH := XH.lt; have L_XH : Hid (Va x18 (x11.heap.size) 32 #[.bool sH, .slice aH lH cH, .slice bH mH dH]) := XH; have lb_XO := XO.lt; have L_XO : Hid (Va x18 (x13.heap.size) 32 #[.bool sO, .slice aO lO cO, .slice bO mO dO]) := XO; have lb_XM := XM.lt; have L_XM : Hid (Va x18 (x15.heap.size) 32 #[.bool sM, .slice aM lM cM, .slice bM mM dM]) := XM; have lb_XE := XE.lt; have L_XE : Hid (Va x18 (x17.heap.size) 32 #[.bool sE, .slice aE lE cE, .slice bE mE dE]) := XE; have L_hi : Hid (Rt x18 si ai li ci zi bi mi di yi v0) := hi; have L_hL : Hid (Rt x18 sL aL lL cL zL bL mL dL yL vl) := hL; have L_hH : Hid (Rt x18 sH aH lH cH zH bH mH dH yH vh) := hH; have L_hO : Hid (Rt x18 sO aO lO cO zO bO mO dO yO 1) := hO
    have L_hM : Hid (Rt x18 sM aM lM cM zM bM mM dM yM vm) := hM; have L_hE : Hid (Rt x18 sE aE lE cE zE bE mE dE yE ve) := hE; have L_B : Hid (Below w.heap.size w x18) := B0; clear Xi XL XH XO XM XE hi hL hH hO hM hE B0; have BX := Below.refl x18.heap.size x18
    go_cut [15, 16] (fun s15 s16 wx => ∃ (b15 : Nat) (sS : Bool) (aS : Option Addr) (lS cS : Nat) (zS : List Int) (bS : Option Addr) (mS dS : Nat) (yS : List Int), s15 = .pointer (some ⟨b15, 0, none⟩) ∧ s16 = .int .i64 0 ∧ Hid (Va wx b15 32 #[.bool sS, .slice aS lS cS, .slice bS mS dS]) ∧ Hid (Rt wx sS aS lS cS zS bS mS dS yS v0) ∧ Hid (Below x18.heap.size x18 wx))
    case first =>
      refine wp_region_noPanic ?_; replace BX := Below.drew BX; refine wp_region_held_drew (S := (fun W => W.cell? ⟨x5.heap.size, 0, none⟩ = some (.bool si) ∧ W.cell? ⟨x5.heap.size, 1, none⟩ = some (.slice ai li ci) ∧ W.cell? ⟨x5.heap.size, 2, none⟩ = some (.slice bi mi di) ∧ W.cell? ⟨x8.heap.size, 0, none⟩ = some (.bool sL) ∧ W.cell? ⟨x8.heap.size, 1, none⟩ = some (.slice aL lL cL) ∧ W.cell? ⟨x8.heap.size, 2, none⟩ = some (.slice bL mL dL))) (by kernel_rfl) (LS.out _ BX) (fun hHeld => ?_); (obtain ⟨x19, hxd⟩ : ∃ xd, xd = x18.drew := ⟨_, rfl⟩); rw [← hxd] at BX hHeld ⊢; clear hxd; refine wpAnyH_take (i := 0) (v := ?_) rfl (by kernel_rfl) (by kernel_rfl) (by kernel_rfl) (fun _ _ _ h => h) (Or.inl ⟨by rfl, ?_⟩) hHeld ?_; rotate_left
      · (intro W hSw; (try dsimp only at hSw); go_simp; all_goals (with_reducible rfl))
      simp only [gA, gB, Act.put, gD, gE, gF]; refine wpAnyH_take (i := 1) (v := ?_) rfl (by kernel_rfl) (by kernel_rfl) (by kernel_rfl) (fun _ _ _ h => h) (Or.inl ⟨by rfl, ?_⟩) hHeld ?_; rotate_left
      · (intro W hSw; (try dsimp only at hSw); go_simp; all_goals (with_reducible rfl))
      simp only [gA, gB, gC, Act.put, gD, gE, gF]; refine wpAnyH_ready (rs := [2, 7]) (by kernel_rfl) (by simp) ?_; refine AllReadyH.cons rfl (fun K hK => ?_) (AllReadyH.cons rfl (fun K hK => ?_) AllReadyH.nil)
      ·
        simp only [gA, gB, gC]; (go_simp); refine (qfrac_any si ai li ci zi bi mi di yi v0 _ (Rt.after BX L_hi.out)).mono ?_; rintro e x20 ⟨s6, a6, l6, c6, z6, rfl, h6, hb⟩; replace BX := step BX hb; clear hb; (try go_wp2_with fail); refine hK.out _ _ (LS.out _ BX) (fun hHeld => ?_); clear hK K; refine wpAnyH_ready (rs := [3, 7]) (by kernel_rfl) (by simp) ?_; refine AllReadyH.cons rfl (fun K hK => ?_) (AllReadyH.cons rfl (fun K hK => ?_) AllReadyH.nil)
        ·
          simp only [gA, gB, gC]; (go_simp); refine (qadd_to sL aL lL cL zL bL mL dL yL vl s6 a6 l6 c6 z6 bi mi di yi (v0 - ((qfl v0 : Int) : Rat)) v0 _ (Rt.after BX L_hL.out) h6 HS.out.s HS.out.v).mono ?_; rintro e x21 ⟨sS, aS, lS, cS, zS, bS, mS, dS, yS, rfl, hS, hb⟩; replace h6 := Rt.after hb h6; replace BX := step BX hb; clear hb; (try go_wp2_with fail); refine hK.out _ _ (LS.out _ BX) (fun hHeld => ?_); clear hK K; refine wpAnyH_take (i := 4) (v := ?_) rfl (by kernel_rfl) (by kernel_rfl) (by kernel_rfl) (fun _ _ _ h => h) (Or.inl ⟨by rfl, ?_⟩) hHeld ?_; rotate_left
          · (intro W hSw; (try dsimp only at hSw); go_simp; all_goals (with_reducible rfl))
          simp only [gA, gB, gC, Act.put, gD, gE, gF]; refine wpAnyH_take (i := 5) (v := ?_) rfl (by kernel_rfl) (by kernel_rfl) (by kernel_rfl) (fun _ _ _ h => h) (Or.inl ⟨by rfl, ?_⟩) hHeld ?_; rotate_left
          · (intro W hSw; (try dsimp only at hSw); go_simp; all_goals (with_reducible rfl))
          simp only [gA, gB, gC, Act.put, gD, gE, gF]; refine wpAnyH_take (i := 6) (v := ?_) rfl (by kernel_rfl) (by kernel_rfl) (by kernel_rfl) (fun _ _ _ h => h) (Or.inl ⟨by rfl, ?_⟩) hHeld ?_; rotate_left
          · (intro W hSw; (try dsimp only at hSw); go_simp; all_goals (with_reducible rfl))
          simp only [gA, gB, gC, Act.put, gD, gE, gF]; refine wpAnyH_ready (rs := [7]) (by kernel_rfl) (by simp) ?_; refine AllReadyH.cons rfl (fun K hK => ?_) AllReadyH.nil
          ·
            simp only [gA, gB, gC]; (go_simp); have sz_XS := BX.size; refine ent1 _ _ _ (Q := fun V => K _ V) ?_; intro x22 hb hs_ XS; replace h6 := Rt.after hb h6; replace hS := Rt.after hb hS; replace BX := step BX hb; clear hb hs_; refine hK.out _ _ (LS.out _ BX) (fun hHeld => ?_); clear hK K; have c_XS := XS.d0; have f0_XS := XS.frozen 0; have d_XS := XS.d1; have f1_XS := XS.frozen 1; have e_XS := XS.d2; have f2_XS := XS.frozen 2; have l_XS := XS.lt; have m_XS := Nat.le_of_lt l_XS; refine wpAnyH_ready (rs := [8]) (by kernel_rfl) (by simp) ?_; refine AllReadyH.cons rfl (fun K hK => ?_) AllReadyH.nil; simp only [gA, gB, gC]; (go_simp); clear c_XS f0_XS d_XS f1_XS e_XS f2_XS l_XS m_XS; refine sto3 XS (.bool sS) (.slice aS lS cS) (.slice bS mS dS) (Q := fun W => K _ W) ?_; intro x23 V' oth far; replace h6 := h6.far XS (noInt3 _ _ _ _ _ _ _) far.1; replace hS := hS.far XS (noInt3 _ _ _ _ _ _ _) far.1; replace BX := far.2 _ _ (by first | omega | (simp; omega)) BX
            replace XS := V'; clear oth far; refine hK.out _ _ (LS.out _ BX) (fun hHeld => ?_); clear hK K; refine wpAnyH_take (i := 9) (v := ?_) rfl (by kernel_rfl) (by kernel_rfl) (by kernel_rfl) (fun _ _ _ h => h) (Or.inl ⟨by rfl, ?_⟩) hHeld ?_; rotate_left
            · (intro W hSw; (try dsimp only at hSw); go_simp; all_goals (with_reducible rfl))
            simp only [gA, gB, gC, Act.put, gD, gE, gF]; refine wpAnyH_done (by kernel_rfl) ?_ _; refine NoPanic.normal ?_; clear hHeld; (go_wp2_with fail)
            go_meet
            exact ⟨_, sS, aS, lS, cS, zS, bS, mS, dS, yS, rfl, rfl, XS, hS, BX⟩
        ·
          simp only [gA, gB, gC]; (go_simp); have sz_XS := BX.size; refine ent1 _ _ _ (Q := fun V => K _ V) ?_; intro x21 hb hs_ XS; replace h6 := Rt.after hb h6; replace BX := step BX hb; clear hb hs_; refine hK.out _ _ (LS.out _ BX) (fun hHeld => ?_); clear hK K; refine wpAnyH_ready (rs := [3]) (by kernel_rfl) (by simp) ?_; refine AllReadyH.cons rfl (fun K hK => ?_) AllReadyH.nil
          ·
            simp only [gA, gB, gC]; (go_simp); refine (qadd_to sL aL lL cL zL bL mL dL yL vl s6 a6 l6 c6 z6 bi mi di yi (v0 - ((qfl v0 : Int) : Rat)) v0 _ (Rt.after BX L_hL.out) h6 HS.out.s HS.out.v).mono ?_; rintro e x22 ⟨sS, aS, lS, cS, zS, bS, mS, dS, yS, rfl, hS, hb⟩; replace XS := Va.after hb XS; replace h6 := Rt.after hb h6; replace BX := step BX hb; clear hb; (try go_wp2_with fail); refine hK.out _ _ (LS.out _ BX) (fun hHeld => ?_); clear hK K; refine wpAnyH_take (i := 4) (v := ?_) rfl (by kernel_rfl) (by kernel_rfl) (by kernel_rfl) (fun _ _ _ h => h) (Or.inl ⟨by rfl, ?_⟩) hHeld ?_; rotate_left
            · (intro W hSw; (try dsimp only at hSw); go_simp; all_goals (with_reducible rfl))
            simp only [gA, gB, gC, Act.put, gD, gE, gF]; refine wpAnyH_take (i := 5) (v := ?_) rfl (by kernel_rfl) (by kernel_rfl) (by kernel_rfl) (fun _ _ _ h => h) (Or.inl ⟨by rfl, ?_⟩) hHeld ?_; rotate_left
            · (intro W hSw; (try dsimp only at hSw); go_simp; all_goals (with_reducible rfl))
            simp only [gA, gB, gC, Act.put, gD, gE, gF]; refine wpAnyH_take (i := 6) (v := ?_) rfl (by kernel_rfl) (by kernel_rfl) (by kernel_rfl) (fun _ _ _ h => h) (Or.inl ⟨by rfl, ?_⟩) hHeld ?_; rotate_left
            · (intro W hSw; (try dsimp only at hSw); go_simp; all_goals (with_reducible rfl))
            simp only [gA, gB, gC, Act.put, gD, gE, gF]; have c_XS := XS.d0; have f0_XS := XS.frozen 0; have d_XS := XS.d1; have f1_XS := XS.frozen 1; have e_XS := XS.d2; have f2_XS := XS.frozen 2; have l_XS := XS.lt; have m_XS := Nat.le_of_lt l_XS; refine wpAnyH_ready (rs := [8]) (by kernel_rfl) (by simp) ?_; refine AllReadyH.cons rfl (fun K hK => ?_) AllReadyH.nil; simp only [gA, gB, gC]; (go_simp); clear c_XS f0_XS d_XS f1_XS e_XS f2_XS l_XS m_XS; refine sto3 XS (.bool sS) (.slice aS lS cS) (.slice bS mS dS) (Q := fun W => K _ W) ?_; intro x23 V' oth far; replace h6 := h6.far XS (noInt3 _ _ _ _ _ _ _) far.1; replace hS := hS.far XS (noInt3 _ _ _ _ _ _ _) far.1; replace BX := far.2 _ _ (by first | omega | (simp; omega)) BX; replace XS := V'; clear oth far; refine hK.out _ _ (LS.out _ BX) (fun hHeld => ?_); clear hK K; refine wpAnyH_take (i := 9) (v := ?_) rfl (by kernel_rfl) (by kernel_rfl) (by kernel_rfl) (fun _ _ _ h => h) (Or.inl ⟨by rfl, ?_⟩) hHeld ?_
            rotate_left
            · (intro W hSw; (try dsimp only at hSw); go_simp; all_goals (with_reducible rfl))
            simp only [gA, gB, gC, Act.put, gD, gE, gF]; refine wpAnyH_done (by kernel_rfl) ?_ _; refine NoPanic.normal ?_; clear hHeld; (go_wp2_with fail)
            go_meet
            exact ⟨_, sS, aS, lS, cS, zS, bS, mS, dS, yS, rfl, rfl, XS, hS, BX⟩
      ·
        simp only [gA, gB, gC]; (go_simp); have sz_XS := BX.size; refine ent1 _ _ _ (Q := fun V => K _ V) ?_; intro x20 hb hs_ XS; replace BX := step BX hb; clear hb hs_; refine hK.out _ _ (LS.out _ BX) (fun hHeld => ?_); clear hK K; refine wpAnyH_ready (rs := [2]) (by kernel_rfl) (by simp) ?_; refine AllReadyH.cons rfl (fun K hK => ?_) AllReadyH.nil
        ·
          simp only [gA, gB, gC]; (go_simp); refine (qfrac_any si ai li ci zi bi mi di yi v0 _ (Rt.after BX L_hi.out)).mono ?_; rintro e x21 ⟨s6, a6, l6, c6, z6, rfl, h6, hb⟩; replace XS := Va.after hb XS; replace BX := step BX hb; clear hb; (try go_wp2_with fail); refine hK.out _ _ (LS.out _ BX) (fun hHeld => ?_); clear hK K; refine wpAnyH_ready (rs := [3]) (by kernel_rfl) (by simp) ?_; refine AllReadyH.cons rfl (fun K hK => ?_) AllReadyH.nil
          ·
            simp only [gA, gB, gC]; (go_simp); refine (qadd_to sL aL lL cL zL bL mL dL yL vl s6 a6 l6 c6 z6 bi mi di yi (v0 - ((qfl v0 : Int) : Rat)) v0 _ (Rt.after BX L_hL.out) h6 HS.out.s HS.out.v).mono ?_; rintro e x22 ⟨sS, aS, lS, cS, zS, bS, mS, dS, yS, rfl, hS, hb⟩; replace XS := Va.after hb XS; replace h6 := Rt.after hb h6; replace BX := step BX hb; clear hb; (try go_wp2_with fail); refine hK.out _ _ (LS.out _ BX) (fun hHeld => ?_); clear hK K; refine wpAnyH_take (i := 4) (v := ?_) rfl (by kernel_rfl) (by kernel_rfl) (by kernel_rfl) (fun _ _ _ h => h) (Or.inl ⟨by rfl, ?_⟩) hHeld ?_; rotate_left
            · (intro W hSw; (try dsimp only at hSw); go_simp; all_goals (with_reducible rfl))
            simp only [gA, gB, gC, Act.put, gD, gE, gF]; refine wpAnyH_take (i := 5) (v := ?_) rfl (by kernel_rfl) (by kernel_rfl) (by kernel_rfl) (fun _ _ _ h => h) (Or.inl ⟨by rfl, ?_⟩) hHeld ?_; rotate_left
            · (intro W hSw; (try dsimp only at hSw); go_simp; all_goals (with_reducible rfl))
            simp only [gA, gB, gC, Act.put, gD, gE, gF]; refine wpAnyH_take (i := 6) (v := ?_) rfl (by kernel_rfl) (by kernel_rfl) (by kernel_rfl) (fun _ _ _ h => h) (Or.inl ⟨by rfl, ?_⟩) hHeld ?_; rotate_left
            · (intro W hSw; (try dsimp only at hSw); go_simp; all_goals (with_reducible rfl))
            simp only [gA, gB, gC, Act.put, gD, gE, gF]; have c_XS := XS.d0; have f0_XS := XS.frozen 0; have d_XS := XS.d1; have f1_XS := XS.frozen 1; have e_XS := XS.d2; have f2_XS := XS.frozen 2; have l_XS := XS.lt; have m_XS := Nat.le_of_lt l_XS; refine wpAnyH_ready (rs := [8]) (by kernel_rfl) (by simp) ?_; refine AllReadyH.cons rfl (fun K hK => ?_) AllReadyH.nil; simp only [gA, gB, gC]; (go_simp); clear c_XS f0_XS d_XS f1_XS e_XS f2_XS l_XS m_XS; refine sto3 XS (.bool sS) (.slice aS lS cS) (.slice bS mS dS) (Q := fun W => K _ W) ?_; intro x23 V' oth far; replace h6 := h6.far XS (noInt3 _ _ _ _ _ _ _) far.1; replace hS := hS.far XS (noInt3 _ _ _ _ _ _ _) far.1; replace BX := far.2 _ _ (by first | omega | (simp; omega)) BX; replace XS := V'; clear oth far; refine hK.out _ _ (LS.out _ BX) (fun hHeld => ?_); clear hK K; refine wpAnyH_take (i := 9) (v := ?_) rfl (by kernel_rfl) (by kernel_rfl) (by kernel_rfl) (fun _ _ _ h => h) (Or.inl ⟨by rfl, ?_⟩) hHeld ?_
            rotate_left
            · (intro W hSw; (try dsimp only at hSw); go_simp; all_goals (with_reducible rfl))
            simp only [gA, gB, gC, Act.put, gD, gE, gF]; refine wpAnyH_done (by kernel_rfl) ?_ _; refine NoPanic.normal ?_; clear hHeld; (go_wp2_with fail)
            go_meet
            exact ⟨_, sS, aS, lS, cS, zS, bS, mS, dS, yS, rfl, rfl, XS, hS, BX⟩
    case rest =>
      clear BX; obtain ⟨b15, sS, aS, lS, cS, zS, bS, mS, dS, yS, rfl, rfl, XS', hS', BX'⟩ := hcut; have XS := XS'.out; have hS := hS'.out; have BX := BX'.out; clear XS' hS' BX'; (go_wp2_with fail); have Xi := Va.after BX L_Xi.out; have XL := Va.after BX L_XL.out; have XH := Va.after BX L_XH.out; have XO := Va.after BX L_XO.out; have XM := Va.after BX L_XM.out; have XE := Va.after BX L_XE.out; have hi := Rt.after BX L_hi.out; have hL := Rt.after BX L_hL.out; have hH := Rt.after BX L_hH.out; have hO := Rt.after BX L_hO.out; have hM := Rt.after BX L_hM.out; have hE := Rt.after BX L_hE.out; have B0 := step L_B.out BX; (have df : decide (kf < 0) = false := by have := HS.out.f2; simp; omega); refine wp_region_noPanic ?_; replace Xi : Va wc.drew _ _ _ := Xi; replace XL : Va wc.drew _ _ _ := XL; replace XH : Va wc.drew _ _ _ := XH; replace XO : Va wc.drew _ _ _ := XO; replace XM : Va wc.drew _ _ _ := XM; replace XE : Va wc.drew _ _ _ := XE; replace XS : Va wc.drew _ _ _ := XS
      replace hi := hi.drw; replace hL := hL.drw; replace hH := hH.drw; replace hO := hO.drw; replace hM := hM.drw; replace hE := hE.drw; replace hS := hS.drw; replace B0 := Below.drew B0; refine wp_region_held_drew (S := (fun W => W.cell? ⟨x5.heap.size, 0, none⟩ = some (.bool si) ∧ W.cell? ⟨x5.heap.size, 1, none⟩ = some (.slice ai li ci) ∧ W.cell? ⟨x5.heap.size, 2, none⟩ = some (.slice bi mi di) ∧ W.cell? ⟨x13.heap.size, 0, none⟩ = some (.bool sO) ∧ W.cell? ⟨x13.heap.size, 1, none⟩ = some (.slice aO lO cO) ∧ W.cell? ⟨x13.heap.size, 2, none⟩ = some (.slice bO mO dO) ∧ W.cell? ⟨b15, 0, none⟩ = some (.bool sS) ∧ W.cell? ⟨b15, 1, none⟩ = some (.slice aS lS cS) ∧ W.cell? ⟨b15, 2, none⟩ = some (.slice bS mS dS))) (by kernel_rfl) ⟨Xi.d0, Xi.d1, Xi.d2, XO.d0, XO.d1, XO.d2, XS.d0, XS.d1, XS.d2⟩ (fun hHeld => ?_); (obtain ⟨x19, hxd⟩ : ∃ xd, xd = wc.drew := ⟨_, rfl⟩); rw [← hxd] at Xi XL XH XO XM XE XS hi hL hH hO hM hE hS B0 hHeld ⊢
      clear hxd; refine wpAnyH_take (i := 0) (v := ?_) rfl (by kernel_rfl) (by kernel_rfl) (by kernel_rfl) (fun _ _ _ h => h) (Or.inl ⟨by rfl, ?_⟩) hHeld ?_; rotate_left
      · (intro W hSw; (try dsimp only at hSw); go_simp; all_goals (with_reducible rfl))
      simp only [gA, gB, Act.put, gD, gE, gF]; refine wpAnyH_take (i := 1) (v := ?_) rfl (by kernel_rfl) (by kernel_rfl) (by kernel_rfl) (fun _ _ _ h => h) (Or.inl ⟨by rfl, ?_⟩) hHeld ?_; rotate_left
      · (intro W hSw; (try dsimp only at hSw); go_simp; all_goals (with_reducible rfl))
      simp only [gA, gB, gC, Act.put, gD, gE, gF]; refine wpAnyH_take (i := 2) (v := ?_) rfl (by kernel_rfl) (by kernel_rfl) (by kernel_rfl) (fun _ _ _ h => h) (Or.inl ⟨by rfl, ?_⟩) hHeld ?_; rotate_left
      · (intro W hSw; (try dsimp only at hSw); go_simp; all_goals (with_reducible rfl))
      simp only [gA, gB, gC, Act.put, gD, gE, gF]; refine wpAnyH_take (i := 3) (v := ?_) rfl (by kernel_rfl) (by kernel_rfl) (by kernel_rfl) (fun _ _ _ h => h) (Or.inl ⟨by rfl, ?_⟩) hHeld ?_; rotate_left
      · (intro W hSw; (try dsimp only at hSw); go_simp; all_goals (with_reducible rfl))
      simp only [gA, gB, gC, Act.put, gD, gE, gF]; refine wpAnyH_take (i := 4) (v := ?_) rfl (by kernel_rfl) (by kernel_rfl) (by kernel_rfl) (fun _ _ _ h => h) (Or.inl ⟨by rfl, ?_⟩) hHeld ?_; rotate_left
      · (intro W hSw; (try dsimp only at hSw); go_simp; all_goals (with_reducible rfl))
      simp only [gA, gB, gC, Act.put, gD, gE, gF]; refine wpAnyH_take (i := 5) (v := ?_) rfl (by kernel_rfl) (by kernel_rfl) (by kernel_rfl) (fun _ _ _ h => h) (Or.inl ⟨by rfl, ?_⟩) hHeld ?_; rotate_left
      · (intro W hSw; (try dsimp only at hSw); go_simp; all_goals (with_reducible rfl))
      simp only [gA, gB, gC, Act.put, gD, gE, gF]; refine wpAnyH_ready (rs := [6]) (by kernel_rfl) (by simp) ?_; refine AllReadyH.cons rfl (fun K hK => ?_) AllReadyH.nil; simp only [gA, gB, gC]; (go_simp); have lt_Vf_Xi := Xi.lt; have lt_Vf_XL := XL.lt; have lt_Vf_XH := XH.lt; have lt_Vf_XO := XO.lt; have lt_Vf_XM := XM.lt; have lt_Vf_XE := XE.lt; have lt_Vf_XS := XS.lt; have sz_Vf := B0.size; refine ent1 _ _ _ (Q := fun V => K _ V) ?_; intro x20 hb hs_ Vf; replace Xi := Va.after hb Xi; replace XL := Va.after hb XL; replace XH := Va.after hb XH; replace XO := Va.after hb XO; replace XM := Va.after hb XM; replace XE := Va.after hb XE; replace XS := Va.after hb XS; replace hi := Rt.after hb hi; replace hL := Rt.after hb hL; replace hH := Rt.after hb hH; replace hO := Rt.after hb hO; replace hM := Rt.after hb hM; replace hE := Rt.after hb hE; replace hS := Rt.after hb hS; replace B0 := step B0 hb; clear hb hs_; refine hK.out _ _ ⟨Xi.d0, Xi.d1, Xi.d2, XO.d0, XO.d1, XO.d2, XS.d0, XS.d1, XS.d2⟩ (fun hHeld => ?_)
      clear hK K; refine wpAnyH_ready (rs := [7]) (by kernel_rfl) (by simp) ?_; refine AllReadyH.cons rfl (fun K hK => ?_) AllReadyH.nil; simp only [gA, gB, gC]; (go_simp); refine (fine5 _ 6 _ _ _ Vf (fun i hi => match i, hi with | 0, _ => rfl | 1, _ => rfl | 2, _ => rfl | 3, _ => rfl | 4, _ => rfl | 5, _ => rfl) (by omega)).mono ?_; rintro e x21 ⟨rfl, hb⟩; replace Xi := Va.after hb Xi; replace XL := Va.after hb XL; replace XH := Va.after hb XH; replace XO := Va.after hb XO; replace XM := Va.after hb XM; replace XE := Va.after hb XE; replace XS := Va.after hb XS; replace Vf := Va.after hb Vf; replace hi := Rt.after hb hi; replace hL := Rt.after hb hL; replace hH := Rt.after hb hH; replace hO := Rt.after hb hO; replace hM := Rt.after hb hM; replace hE := Rt.after hb hE; replace hS := Rt.after hb hS; replace B0 := step B0 hb; clear hb; (try go_wp2_with fail); refine hK.out _ _ ⟨Xi.d0, Xi.d1, Xi.d2, XO.d0, XO.d1, XO.d2, XS.d0, XS.d1, XS.d2⟩ (fun hHeld => ?_)
      clear hK K; refine wpAnyH_take (i := 8) (v := ?_) rfl (by kernel_rfl) (by kernel_rfl) (by kernel_rfl) (fun _ _ _ h => h) (Or.inl ⟨by rfl, ?_⟩) hHeld ?_; rotate_left
      · (intro W hSw; (try dsimp only at hSw); go_simp; all_goals (with_reducible rfl))
      simp only [gA, gB, gC, Act.put, gD, gE, gF]; refine wpAnyH_take (i := 9) (v := ?_) rfl (by kernel_rfl) (by kernel_rfl) (by kernel_rfl) (fun _ _ _ h => h) (Or.inl ⟨by rfl, ?_⟩) hHeld ?_; rotate_left
      · (intro W hSw; (try dsimp only at hSw); go_simp; all_goals (with_reducible rfl))
      simp only [gA, gB, gC, Act.put, gD, gE, gF]; refine wpAnyH_take (i := 10) (v := ?_) rfl (by kernel_rfl) (by kernel_rfl) (by kernel_rfl) (fun _ _ _ h => h) (Or.inl ⟨by rfl, ?_⟩) hHeld ?_; rotate_left
      · (intro W hSw; (try dsimp only at hSw); go_simp; all_goals (with_reducible rfl))
      simp only [gA, gB, gC, Act.put, gD, gE, gF]; refine wpAnyH_take (i := 11) (v := ?_) rfl (by kernel_rfl) (by kernel_rfl) (by kernel_rfl) (fun _ _ _ h => h) (Or.inl ⟨by rfl, ?_⟩) hHeld ?_; rotate_left
      · (intro W hSw; (try dsimp only at hSw); go_simp; all_goals (with_reducible rfl))
      simp only [gA, gB, gC, Act.put, gD, gE, gF]; refine wpAnyH_ready (rs := [12]) (by kernel_rfl) (by simp) ?_; refine AllReadyH.cons rfl (fun K hK => ?_) AllReadyH.nil; simp only [gA, gB, gC]; (go_simp); refine (alike5 sS aS lS cS zS bS mS dS yS si ai li ci zi bi mi di yi v0 _ hS hi).mono ?_; rintro e x22 ⟨rfl, hb⟩; replace Xi := Va.after hb Xi; replace XL := Va.after hb XL; replace XH := Va.after hb XH; replace XO := Va.after hb XO; replace XM := Va.after hb XM; replace XE := Va.after hb XE; replace XS := Va.after hb XS; replace Vf := Va.after hb Vf; replace hi := Rt.after hb hi; replace hL := Rt.after hb hL; replace hH := Rt.after hb hH; replace hO := Rt.after hb hO; replace hM := Rt.after hb hM; replace hE := Rt.after hb hE; replace hS := Rt.after hb hS; replace B0 := step B0 hb; clear hb; (try go_wp2_with fail); refine hK.out _ _ ⟨Xi.d0, Xi.d1, Xi.d2, XO.d0, XO.d1, XO.d2, XS.d0, XS.d1, XS.d2⟩ (fun hHeld => ?_); clear hK K; refine wpAnyH_take (i := 13) (v := ?_) rfl (by kernel_rfl) (by kernel_rfl) (by kernel_rfl) (fun _ _ _ h => h) (Or.inl ⟨by rfl, ?_⟩) hHeld ?_
      rotate_left
      · (intro W hSw; (try dsimp only at hSw); go_simp; all_goals (with_reducible rfl))
      simp only [gA, gB, gC, Act.put, gD, gE, gF]; refine wpAnyH_take (i := 14) (v := ?_) rfl (by kernel_rfl) (by kernel_rfl) (by kernel_rfl) (fun _ _ _ h => h) (Or.inl ⟨by rfl, ?_⟩) hHeld ?_; rotate_left
      · (intro W hSw; (try dsimp only at hSw); go_simp; all_goals (with_reducible rfl))
      simp only [gA, gB, gC, Act.put, gD, gE, gF]; refine wpAnyH_take (i := 15) (v := ?_) rfl (by kernel_rfl) (by kernel_rfl) (by kernel_rfl) (fun _ _ _ h => h) (Or.inl ⟨by rfl, ?_⟩) hHeld ?_; rotate_left
      · (intro W hSw; (try dsimp only at hSw); go_simp; all_goals (with_reducible rfl))
      simp only [gA, gB, gC, Act.put, gD, gE, gF]; refine wpAnyH_take (i := 16) (v := ?_) rfl (by kernel_rfl) (by kernel_rfl) (by kernel_rfl) (fun _ _ _ h => h) (Or.inl ⟨by rfl, ?_⟩) hHeld ?_; rotate_left
      · (intro W hSw; (try dsimp only at hSw); go_simp; all_goals (with_reducible rfl))
      simp only [gA, gB, gC, Act.put, gD, gE, gF]; refine wpAnyH_ready (rs := [17]) (by kernel_rfl) (by simp) ?_; refine AllReadyH.cons rfl (fun K hK => ?_) AllReadyH.nil; simp only [gA, gB, gC]; (go_simp); refine (qfrac_any si ai li ci zi bi mi di yi v0 _ hi).mono ?_; rintro e x23 ⟨s6, a6, l6, c6, z6, rfl, h6, hb⟩; replace Xi := Va.after hb Xi; replace XL := Va.after hb XL; replace XH := Va.after hb XH; replace XO := Va.after hb XO; replace XM := Va.after hb XM; replace XE := Va.after hb XE; replace XS := Va.after hb XS; replace Vf := Va.after hb Vf; replace hi := Rt.after hb hi; replace hL := Rt.after hb hL; replace hH := Rt.after hb hH; replace hO := Rt.after hb hO; replace hM := Rt.after hb hM; replace hE := Rt.after hb hE; replace hS := Rt.after hb hS; replace B0 := step B0 hb; clear hb; (try go_wp2_with fail); refine hK.out _ _ ⟨Xi.d0, Xi.d1, Xi.d2, XO.d0, XO.d1, XO.d2, XS.d0, XS.d1, XS.d2⟩ (fun hHeld => ?_); clear hK K; refine wpAnyH_ready (rs := [18]) (by kernel_rfl) (by simp) ?_
      refine AllReadyH.cons rfl (fun K hK => ?_) AllReadyH.nil; simp only [gA, gB, gC]; (go_simp); refine (qsign_any s6 a6 l6 c6 z6 bi mi di yi (v0 - ((qfl v0 : Int) : Rat)) _ h6).mono ?_; rintro e x24 ⟨rfl, hb⟩; replace Xi := Va.after hb Xi; replace XL := Va.after hb XL; replace XH := Va.after hb XH; replace XO := Va.after hb XO; replace XM := Va.after hb XM; replace XE := Va.after hb XE; replace XS := Va.after hb XS; replace Vf := Va.after hb Vf; replace hi := Rt.after hb hi; replace hL := Rt.after hb hL; replace hH := Rt.after hb hH; replace hO := Rt.after hb hO; replace hM := Rt.after hb hM; replace hE := Rt.after hb hE; replace hS := Rt.after hb hS; replace h6 := Rt.after hb h6; replace B0 := step B0 hb; clear hb; rw [HS.out.f1]; (try go_wp2_with fail); refine hK.out _ _ ⟨Xi.d0, Xi.d1, Xi.d2, XO.d0, XO.d1, XO.d2, XS.d0, XS.d1, XS.d2⟩ (fun hHeld => ?_); clear hK K; refine wpAnyH_take (i := 19) (v := .bool false) rfl (by kernel_rfl) (by kernel_rfl) (by kernel_rfl) (fun _ _ _ h => h) (Or.inl ⟨by rfl, ?_⟩) hHeld ?_
      · (intro W hSw; (try dsimp only at hSw); go_simp; first | (rw [df]) | skip)
      simp only [gA, gB, gC, Act.put, gD, gE, gF]; refine wpAnyH_take (i := 20) (v := ?_) rfl (by kernel_rfl) (by kernel_rfl) (by kernel_rfl) (fun _ _ _ h => h) (Or.inl ⟨by rfl, ?_⟩) hHeld ?_; rotate_left
      · (intro W hSw; (try dsimp only at hSw); go_simp; all_goals (with_reducible rfl))
      simp only [gA, gB, gC, Act.put, gD, gE, gF]; refine wpAnyH_take (i := 21) (v := ?_) rfl (by kernel_rfl) (by kernel_rfl) (by kernel_rfl) (fun _ _ _ h => h) (Or.inl ⟨by rfl, ?_⟩) hHeld ?_; rotate_left
      · (intro W hSw; (try dsimp only at hSw); go_simp; all_goals (with_reducible rfl))
      simp only [gA, gB, gC, Act.put, gD, gE, gF]; refine wpAnyH_take (i := 22) (v := ?_) rfl (by kernel_rfl) (by kernel_rfl) (by kernel_rfl) (fun _ _ _ h => h) (Or.inl ⟨by rfl, ?_⟩) hHeld ?_; rotate_left
      · (intro W hSw; (try dsimp only at hSw); go_simp; all_goals (with_reducible rfl))
      simp only [gA, gB, gC, Act.put, gD, gE, gF]; refine wpAnyH_take (i := 24) (v := ?_) rfl (by kernel_rfl) (by kernel_rfl) (by kernel_rfl) (fun _ _ _ h => h) (Or.inl ⟨by rfl, ?_⟩) hHeld ?_; rotate_left
      · (intro W hSw; (try dsimp only at hSw); go_simp; all_goals (with_reducible rfl))
      simp only [gA, gB, gC, Act.put, gD, gE, gF]; refine wpAnyH_ready (rs := [23]) (by kernel_rfl) (by simp) ?_; refine AllReadyH.cons rfl (fun K hK => ?_) AllReadyH.nil; simp only [gA, gB, gC]; (go_simp); refine (qfrac_any si ai li ci zi bi mi di yi v0 _ hi).mono ?_; rintro e x25 ⟨s7, a7, l7, c7, z7, rfl, h7, hb⟩; replace Xi := Va.after hb Xi; replace XL := Va.after hb XL; replace XH := Va.after hb XH; replace XO := Va.after hb XO; replace XM := Va.after hb XM; replace XE := Va.after hb XE; replace XS := Va.after hb XS; replace Vf := Va.after hb Vf; replace hi := Rt.after hb hi; replace hL := Rt.after hb hL; replace hH := Rt.after hb hH; replace hO := Rt.after hb hO; replace hM := Rt.after hb hM; replace hE := Rt.after hb hE; replace hS := Rt.after hb hS; replace h6 := Rt.after hb h6; replace B0 := step B0 hb; clear hb; (try go_wp2_with fail); refine hK.out _ _ ⟨Xi.d0, Xi.d1, Xi.d2, XO.d0, XO.d1, XO.d2, XS.d0, XS.d1, XS.d2⟩ (fun hHeld => ?_); clear hK K
      refine wpAnyH_ready (rs := [25]) (by kernel_rfl) (by simp) ?_; refine AllReadyH.cons rfl (fun K hK => ?_) AllReadyH.nil; simp only [gA, gB, gC]; (go_simp); refine (qcompare_any s7 a7 l7 c7 z7 bi mi di yi (v0 - ((qfl v0 : Int) : Rat)) sO aO lO cO zO bO mO dO yO 1 _ h7 hO).mono ?_; rintro e x26 ⟨rfl, hb⟩; replace Xi := Va.after hb Xi; replace XL := Va.after hb XL; replace XH := Va.after hb XH; replace XO := Va.after hb XO; replace XM := Va.after hb XM; replace XE := Va.after hb XE; replace XS := Va.after hb XS; replace Vf := Va.after hb Vf; replace hi := Rt.after hb hi; replace hL := Rt.after hb hL; replace hH := Rt.after hb hH; replace hO := Rt.after hb hO; replace hM := Rt.after hb hM; replace hE := Rt.after hb hE; replace hS := Rt.after hb hS; replace h6 := Rt.after hb h6; replace h7 := Rt.after hb h7; replace B0 := step B0 hb; clear hb; rw [HS.out.f3]; (try go_wp2_with fail); refine hK.out _ _ ⟨Xi.d0, Xi.d1, Xi.d2, XO.d0, XO.d1, XO.d2, XS.d0, XS.d1, XS.d2⟩ (fun hHeld => ?_)
      clear hK K; refine wpAnyH_take (i := 26) (v := ?_) rfl (by kernel_rfl) (by kernel_rfl) (by kernel_rfl) (fun _ _ _ h => h) (Or.inl ⟨by rfl, ?_⟩) hHeld ?_; rotate_left
      · (intro W hSw; (try dsimp only at hSw); go_simp; all_goals (with_reducible rfl))
      simp only [gA, gB, gC, Act.put, gD, gE, gF]; refine wpAnyH_take (i := 27) (v := ?_) rfl (by kernel_rfl) (by kernel_rfl) (by kernel_rfl) (fun _ _ _ h => h) (Or.inl ⟨by rfl, ?_⟩) hHeld ?_; rotate_left
      · (intro W hSw; (try dsimp only at hSw); go_simp; all_goals (with_reducible rfl))
      simp only [gA, gB, gC, Act.put, gD, gE, gF]; refine wpAnyH_done (by kernel_rfl) ?_ _; refine NoPanic.normal ?_; clear hHeld; clear Vf h6 h7 XS hS XO hO; have g1 := HS.out.d1; have g3 := HS.out.d3; have c_XL := XL.d0; have f0_XL := XL.frozen 0; have d_XL := XL.d1; have f1_XL := XL.frozen 1; have e_XL := XL.d2; have f2_XL := XL.frozen 2; have l_XL := XL.lt; have m_XL := Nat.le_of_lt l_XL; have c_Xi := Xi.d0; have f0_Xi := Xi.frozen 0; have d_Xi := Xi.d1; have f1_Xi := Xi.frozen 1; have e_Xi := Xi.d2; have f2_Xi := Xi.frozen 2; have l_Xi := Xi.lt; have m_Xi := Nat.le_of_lt l_Xi; (go_wp2_with fail); refine (qcompare_any sL aL lL cL zL bL mL dL yL vl si ai li ci zi bi mi di yi v0 x26 hL hi).mono ?_; rintro e x27 ⟨rfl, hb⟩; replace Xi := Va.after hb Xi; replace XL := Va.after hb XL; replace XH := Va.after hb XH; replace XM := Va.after hb XM; replace XE := Va.after hb XE; replace hi := Rt.after hb hi; replace hL := Rt.after hb hL; replace hH := Rt.after hb hH
      replace hM := Rt.after hb hM; replace hE := Rt.after hb hE; replace B0 := step B0 hb; clear hb; rw [HS.out.c1]; clear c_XL f0_XL d_XL f1_XL e_XL f2_XL l_XL m_XL c_Xi f0_Xi d_Xi f1_Xi e_Xi f2_Xi l_Xi m_Xi; have c_XM := XM.d0; have f0_XM := XM.frozen 0; have d_XM := XM.d1; have f1_XM := XM.frozen 1; have e_XM := XM.d2; have f2_XM := XM.frozen 2; have l_XM := XM.lt; have m_XM := Nat.le_of_lt l_XM; have c_Xi := Xi.d0; have f0_Xi := Xi.frozen 0; have d_Xi := Xi.d1; have f1_Xi := Xi.frozen 1; have e_Xi := Xi.d2; have f2_Xi := Xi.frozen 2; have l_Xi := Xi.lt; have m_Xi := Nat.le_of_lt l_Xi; (go_wp2_with fail); refine (qcompare_any sM aM lM cM zM bM mM dM yM vm si ai li ci zi bi mi di yi v0 x27 hM hi).mono ?_; rintro e x28 ⟨rfl, hb⟩; replace Xi := Va.after hb Xi; replace XL := Va.after hb XL; replace XH := Va.after hb XH; replace XM := Va.after hb XM; replace XE := Va.after hb XE; replace hi := Rt.after hb hi; replace hL := Rt.after hb hL; replace hH := Rt.after hb hH
      replace hM := Rt.after hb hM; replace hE := Rt.after hb hE; replace B0 := step B0 hb; clear hb; rw [HS.out.c2]; clear c_XM f0_XM d_XM f1_XM e_XM f2_XM l_XM m_XM c_Xi f0_Xi d_Xi f1_Xi e_Xi f2_Xi l_Xi m_Xi; have c_XH := XH.d0; have f0_XH := XH.frozen 0; have d_XH := XH.d1; have f1_XH := XH.frozen 1; have e_XH := XH.d2; have f2_XH := XH.frozen 2; have l_XH := XH.lt; have m_XH := Nat.le_of_lt l_XH; have c_Xi := Xi.d0; have f0_Xi := Xi.frozen 0; have d_Xi := Xi.d1; have f1_Xi := Xi.frozen 1; have e_Xi := Xi.d2; have f2_Xi := Xi.frozen 2; have l_Xi := Xi.lt; have m_Xi := Nat.le_of_lt l_Xi; (go_wp2_with fail); refine (qcompare_any sH aH lH cH zH bH mH dH yH vh si ai li ci zi bi mi di yi v0 x28 hH hi).mono ?_; rintro e x29 ⟨rfl, hb⟩; replace Xi := Va.after hb Xi; replace XL := Va.after hb XL; replace XH := Va.after hb XH; replace XM := Va.after hb XM; replace XE := Va.after hb XE; replace hi := Rt.after hb hi; replace hL := Rt.after hb hL; replace hH := Rt.after hb hH
      replace hM := Rt.after hb hM; replace hE := Rt.after hb hE; replace B0 := step B0 hb; clear hb; rw [HS.out.c3]; clear c_XH f0_XH d_XH f1_XH e_XH f2_XH l_XH m_XH c_Xi f0_Xi d_Xi f1_Xi e_Xi f2_Xi l_Xi m_Xi; have c_XE := XE.d0; have f0_XE := XE.frozen 0; have d_XE := XE.d1; have f1_XE := XE.frozen 1; have e_XE := XE.d2; have f2_XE := XE.frozen 2; have l_XE := XE.lt; have m_XE := Nat.le_of_lt l_XE; have c_Xi := Xi.d0; have f0_Xi := Xi.frozen 0; have d_Xi := Xi.d1; have f1_Xi := Xi.frozen 1; have e_Xi := Xi.d2; have f2_Xi := Xi.frozen 2; have l_Xi := Xi.lt; have m_Xi := Nat.le_of_lt l_Xi; (go_wp2_with fail); refine (qcompare_any sE aE lE cE zE bE mE dE yE ve si ai li ci zi bi mi di yi v0 x29 hE hi).mono ?_; rintro e x30 ⟨rfl, hb⟩; replace Xi := Va.after hb Xi; replace XL := Va.after hb XL; replace XH := Va.after hb XH; replace XM := Va.after hb XM; replace XE := Va.after hb XE; replace hi := Rt.after hb hi; replace hL := Rt.after hb hL; replace hH := Rt.after hb hH
      replace hM := Rt.after hb hM; replace hE := Rt.after hb hE; replace B0 := step B0 hb; clear hb; rw [HS.out.c4]; clear c_XE f0_XE d_XE f1_XE e_XE f2_XE l_XE m_XE c_Xi f0_Xi d_Xi f1_Xi e_Xi f2_Xi l_Xi m_Xi; (go_wp2_with fail)
      go_ret
      exact ⟨rfl, B0⟩
end Go.Proofs.YtadfccbjadopgabGreat
