/-
  The walk of RatField: each call by its contract.
-/
import Derived.Test.YtadfccbjadopgaaGreatRt9
import Derived.Test.YtadfccbjadopgaaGreatRt11
import Derived.Test.YtadfccbjadopgaaGreatRt12
namespace Go.Proofs.YtadfccbjadopgaaGreat
open Go.RowKit Go.Shelf
set_option linter.unusedVariables false

/-- What comes out, and that nothing is too long. -/
structure FieldV (v0 v1 v2 vS vU vW vP vQ vL vK vA : Rat) : Prop where
  e1 : v0 + v1 = vS
  e2 : v1 + v0 = vS
  e3 : vS + v2 = vU
  e4 : v1 + v2 = vW
  e5 : v0 + vW = vU
  e6 : vS - v1 = v0
  e7 : v0 - v0 = 0
  p1 : v0 * v1 = vP
  p2 : v1 * v0 = vP
  p3 : v1 * v2 = vQ
  p4 : vP * v2 = vL
  p5 : v0 * vQ = vL
  p6 : v0 * v2 = vK
  p7 : vS * v2 = vA
  p8 : vK + vQ = vA
  p9 : v1 ≠ 0 → vP / v1 = v0
  v0 : Short v0
  z : Short 0
  vS : Short vS
  vU : Short vU
  vW : Short vW
  vP : Short vP
  vQ : Short vQ
  vL : Short vL
  vK : Short vK
  vA : Short vA
theorem field_v {v0 v1 v2 : Rat} (h0 : Sz 100 v0) (h1 : Sz 100 v1) (h2 : Sz 100 v2) : FieldV v0 v1 v2 (v0 + v1) (v0 + v1 + v2) (v1 + v2) (v0 * v1) (v1 * v2) (v0 * v1 * v2) (v0 * v2) ((v0 + v1) * v2) where
  e1 := rfl
  e2 := Rat.add_comm _ _
  e3 := rfl
  e4 := rfl
  e5 := (Rat.add_assoc _ _ _).symm
  e6 := Rat.add_sub_cancel
  e7 := Rat.sub_self
  p1 := rfl
  p2 := Rat.mul_comm _ _
  p3 := rfl
  p4 := rfl
  p5 := (Rat.mul_assoc _ _ _).symm
  p6 := rfl
  p7 := rfl
  p8 := (Rat.add_mul _ _ _).symm
  p9 := fun h => Rat.mul_div_cancel h
  v0 := h0.short (by omega)
  z := ⟨Int.lt_trans (by decide) (one_lt_pw (by omega)), one_lt_pw (by omega)⟩
  vS := (h0.add h1).short (by omega)
  vU := ((h0.add h1).add h2).short (by omega)
  vW := (h1.add h2).short (by omega)
  vP := (h0.mul h1).short (by omega)
  vQ := (h1.mul h2).short (by omega)
  vL := ((h0.mul h1).mul h2).short (by omega)
  vK := (h0.mul h2).short (by omega)
  vA := ((h0.add h1).mul h2).short (by omega)

set_option maxHeartbeats 32000000 in
set_option maxRecDepth 20000 in
theorem field_walk (s0 : Bool) (a0 : Option Addr) (l0 c0 : Nat) (z0 : List Int) (b0 : Option Addr) (m0 d0 : Nat) (y0 : List Int) (s1 : Bool) (a1 : Option Addr) (l1 c1 : Nat) (z1 : List Int) (b1 : Option Addr) (m1 d1 : Nat) (y1 : List Int) (s2 : Bool) (a2 : Option Addr) (l2 c2 : Nat) (z2 : List Int) (b2 : Option Addr) (m2 d2 : Nat) (y2 : List Int) (w : World) (h0 : Ri w a0 l0 c0 z0 b0 m0 d0 y0) (n0 : a0 = none → l0 = 0 ∧ c0 = 0) (o0 : b0 = none → m0 = 0 ∧ d0 = 0) (h1 : Ri w a1 l1 c1 z1 b1 m1 d1 y1) (n1 : a1 = none → l1 = 0 ∧ c1 = 0) (o1 : b1 = none → m1 = 0 ∧ d1 = 0) (h2 : Ri w a2 l2 c2 z2 b2 m2 d2 y2) (n2 : a2 = none → l2 = 0 ∧ c2 = 0) (o2 : b2 = none → m2 = 0 ∧ d2 = 0) :
    Calls Tryz.prog 6 #[.agg #[.bool s0, .slice a0 l0 c0, .slice b0 m0 d0], .agg #[.bool s1, .slice a1 l1 c1, .slice b1 m1 d1], .agg #[.bool s2, .slice a2 l2 c2, .slice b2 m2 d2]] w fun e w' => e = .returned (.bool true) ∧ Below w.heap.size w w' := by
  have B0 : Below w.heap.size w w := Below.refl _ _
  go_enter Tryz.func6, Tryz.ntmps6
  go_wp2_with fail
  refine ent3 w _ _ _ _ _ _ (Q := fun W => Calls Tryz.prog _ _ W _) ?_
  intro x1 hb hs_x1 V0 V1 V2
  replace h0 := Ri.after hb h0
  replace h1 := Ri.after hb h1
  replace h2 := Ri.after hb h2
  replace B0 := step B0 hb
  clear hb hs_x1
  refine (awake5 x1).mono ?_
  rintro e x2 ⟨rfl, hb⟩
  replace V0 := Va.after hb V0
  replace V1 := Va.after hb V1
  replace V2 := Va.after hb V2
  replace h0 := Ri.after hb h0
  replace h1 := Ri.after hb h1
  replace h2 := Ri.after hb h2
  replace B0 := step B0 hb
  clear hb
  have c_V0 := V0.d0
  have f0_V0 := V0.frozen 0
  have d_V0 := V0.d1
  have f1_V0 := V0.frozen 1
  have e_V0 := V0.d2
  have f2_V0 := V0.frozen 2
  have l_V0 := V0.lt
  have m_V0 := Nat.le_of_lt l_V0
  have c_V1 := V1.d0
  have f0_V1 := V1.frozen 0
  have d_V1 := V1.d1
  have f1_V1 := V1.frozen 1
  have e_V1 := V1.d2
  have f2_V1 := V1.frozen 2
  have l_V1 := V1.lt
  have m_V1 := Nat.le_of_lt l_V1
  have c_V2 := V2.d0
  have f0_V2 := V2.frozen 0
  have d_V2 := V2.d1
  have f1_V2 := V2.frozen 1
  have e_V2 := V2.d2
  have f2_V2 := V2.frozen 2
  have l_V2 := V2.lt
  have m_V2 := Nat.le_of_lt l_V2
  go_wp2_with fail
  refine ent1 x2 _ _ (Q := fun W => Calls Tryz.prog _ _ W _) ?_
  intro x3 hb hs_x3 Vt
  replace V0 := Va.after hb V0
  replace V1 := Va.after hb V1
  replace V2 := Va.after hb V2
  replace h0 := Ri.after hb h0
  replace h1 := Ri.after hb h1
  replace h2 := Ri.after hb h2
  replace B0 := step B0 hb
  clear hb hs_x3
  refine (tiny5 _ 3 _ _ (fun i => if i = 0 then (⟨s0, a0, l0, c0, z0, b0, m0, d0, y0⟩ : R1) else if i = 1 then (⟨s1, a1, l1, c1, z1, b1, m1, d1, y1⟩ : R1) else (⟨s2, a2, l2, c2, z2, b2, m2, d2, y2⟩ : R1)) x3 Vt ?_ ?_ (by omega)).mono ?_
  · intro i hi
    match i, hi with
    | 0, _ => exact ⟨rfl, rfl, rfl⟩
    | 1, _ => exact ⟨rfl, rfl, rfl⟩
    | 2, _ => exact ⟨rfl, rfl, rfl⟩
  · intro i hi
    match i, hi with
    | 0, _ => exact h0
    | 1, _ => exact h1
    | 2, _ => exact h2
  rintro e x4 ⟨t, rfl, ht, hb⟩
  replace V0 := Va.after hb V0
  replace V1 := Va.after hb V1
  replace V2 := Va.after hb V2
  replace Vt := Va.after hb Vt
  replace h0 := Ri.after hb h0
  replace h1 := Ri.after hb h1
  replace h2 := Ri.after hb h2
  replace B0 := step B0 hb
  clear hb
  clear Vt
  cases t
  ·
    clear c_V0 f0_V0 d_V0 f1_V0 e_V0 f2_V0 l_V0 m_V0 c_V1 f0_V1 d_V1 f1_V1 e_V1 f2_V1 l_V1 m_V1 c_V2 f0_V2 d_V2 f1_V2 e_V2 f2_V2 l_V2 m_V2
    go_wp2_with fail
    go_ret
    exact ⟨rfl, B0⟩
  ·
    have ok0 := ht.out rfl 0 (by omega)
    have HN0 : Hid (l0 ≤ 100 ∧ m0 ≤ 100 ∧ Norm s0 z0 y0) := ok0
    clear ok0
    have ok1 := ht.out rfl 1 (by omega)
    have HN1 : Hid (l1 ≤ 100 ∧ m1 ≤ 100 ∧ Norm s1 z1 y1) := ok1
    clear ok1
    have ok2 := ht.out rfl 2 (by omega)
    have HN2 : Hid (l2 ≤ 100 ∧ m2 ≤ 100 ∧ Norm s2 z2 y2) := ok2
    clear ok2
    obtain ⟨v0, hv0, hd0, hs0⟩ := norm_rat h0.1.2.1 h0.2.1.2.1 HN0.out.2.2
    have HV0 : Hid (iv s0 z0 = v0.num ∧ num y0 = v0.den ∧ (s0 = true → num z0 ≠ 0)) := ⟨hv0, hd0, hs0⟩
    have HZ0 : Hid (Sz 100 v0) := sz_of h0.1 h0.2.1 HN0.out.1 HN0.out.2.1 hv0 hd0
    clear hv0 hd0 hs0
    obtain ⟨v1, hv1, hd1, hs1⟩ := norm_rat h1.1.2.1 h1.2.1.2.1 HN1.out.2.2
    have HV1 : Hid (iv s1 z1 = v1.num ∧ num y1 = v1.den ∧ (s1 = true → num z1 ≠ 0)) := ⟨hv1, hd1, hs1⟩
    have HZ1 : Hid (Sz 100 v1) := sz_of h1.1 h1.2.1 HN1.out.1 HN1.out.2.1 hv1 hd1
    clear hv1 hd1 hs1
    obtain ⟨v2, hv2, hd2, hs2⟩ := norm_rat h2.1.2.1 h2.2.1.2.1 HN2.out.2.2
    have HV2 : Hid (iv s2 z2 = v2.num ∧ num y2 = v2.den ∧ (s2 = true → num z2 ≠ 0)) := ⟨hv2, hd2, hs2⟩
    have HZ2 : Hid (Sz 100 v2) := sz_of h2.1 h2.2.1 HN2.out.1 HN2.out.2.1 hv2 hd2
    clear hv2 hd2 hs2
    clear ht
    obtain ⟨vS, vU, vW, vP, vQ, vL, vK, vA, HS0⟩ : ∃ vS vU vW vP vQ vL vK vA, FieldV v0 v1 v2 vS vU vW vP vQ vL vK vA := ⟨_, _, _, _, _, _, _, _, field_v HZ0.out HZ1.out HZ2.out⟩
    have HS : Hid (FieldV v0 v1 v2 vS vU vW vP vQ vL vK vA) := HS0
    clear HS0 HZ0 HZ1 HZ2
    clear c_V0 f0_V0 d_V0 f1_V0 e_V0 f2_V0 l_V0 m_V0 c_V1 f0_V1 d_V1 f1_V1 e_V1 f2_V1 l_V1 m_V1 c_V2 f0_V2 d_V2 f1_V2 e_V2 f2_V2 l_V2 m_V2
    have c_V0 := V0.d0
    have f0_V0 := V0.frozen 0
    have d_V0 := V0.d1
    have f1_V0 := V0.frozen 1
    have e_V0 := V0.d2
    have f2_V0 := V0.frozen 2
    have l_V0 := V0.lt
    have m_V0 := Nat.le_of_lt l_V0
    go_wp2_with fail
    refine (of5 s0 a0 l0 c0 z0 b0 m0 d0 y0 v0 x4 h0 n0 o0 (by have := HN0.out.1; omega) (by have := HN0.out.2.1; omega) HN0.out.2.2 HV0.out.1 HV0.out.2.1 HV0.out.2.2).mono ?_
    rintro e x5 ⟨si, ai, li, ci, zi, bi, mi, di, yi, rfl, hi, hb⟩
    replace V0 := Va.after hb V0
    replace V1 := Va.after hb V1
    replace V2 := Va.after hb V2
    replace h0 := Ri.after hb h0
    replace h1 := Ri.after hb h1
    replace h2 := Ri.after hb h2
    replace B0 := step B0 hb
    clear hb
    clear c_V0 f0_V0 d_V0 f1_V0 e_V0 f2_V0 l_V0 m_V0
    have c_V1 := V1.d0
    have f0_V1 := V1.frozen 0
    have d_V1 := V1.d1
    have f1_V1 := V1.frozen 1
    have e_V1 := V1.d2
    have f2_V1 := V1.frozen 2
    have l_V1 := V1.lt
    have m_V1 := Nat.le_of_lt l_V1
    go_wp2_with fail
    refine ent1 x5 _ _ (Q := fun W => Calls Tryz.prog _ _ W _) ?_
    intro x6 hb hs_x6 Xi
    replace V0 := Va.after hb V0
    replace V1 := Va.after hb V1
    replace V2 := Va.after hb V2
    replace h0 := Ri.after hb h0
    replace h1 := Ri.after hb h1
    replace h2 := Ri.after hb h2
    replace hi := Rt.after hb hi
    replace B0 := step B0 hb
    clear hb hs_x6
    refine (of5 s1 a1 l1 c1 z1 b1 m1 d1 y1 v1 x6 h1 n1 o1 (by have := HN1.out.1; omega) (by have := HN1.out.2.1; omega) HN1.out.2.2 HV1.out.1 HV1.out.2.1 HV1.out.2.2).mono ?_
    rintro e x7 ⟨sj, aj, lj, cj, zj, bj, mj, dj, yj, rfl, hj, hb⟩
    replace V0 := Va.after hb V0
    replace V1 := Va.after hb V1
    replace V2 := Va.after hb V2
    replace Xi := Va.after hb Xi
    replace h0 := Ri.after hb h0
    replace h1 := Ri.after hb h1
    replace h2 := Ri.after hb h2
    replace hi := Rt.after hb hi
    replace B0 := step B0 hb
    clear hb
    clear c_V1 f0_V1 d_V1 f1_V1 e_V1 f2_V1 l_V1 m_V1
    have c_V2 := V2.d0
    have f0_V2 := V2.frozen 0
    have d_V2 := V2.d1
    have f1_V2 := V2.frozen 1
    have e_V2 := V2.d2
    have f2_V2 := V2.frozen 2
    have l_V2 := V2.lt
    have m_V2 := Nat.le_of_lt l_V2
    go_wp2_with fail
    refine ent1 x7 _ _ (Q := fun W => Calls Tryz.prog _ _ W _) ?_
    intro x8 hb hs_x8 Xj
    replace V0 := Va.after hb V0
    replace V1 := Va.after hb V1
    replace V2 := Va.after hb V2
    replace Xi := Va.after hb Xi
    replace h0 := Ri.after hb h0
    replace h1 := Ri.after hb h1
    replace h2 := Ri.after hb h2
    replace hi := Rt.after hb hi
    replace hj := Rt.after hb hj
    replace B0 := step B0 hb
    clear hb hs_x8
    refine (of5 s2 a2 l2 c2 z2 b2 m2 d2 y2 v2 x8 h2 n2 o2 (by have := HN2.out.1; omega) (by have := HN2.out.2.1; omega) HN2.out.2.2 HV2.out.1 HV2.out.2.1 HV2.out.2.2).mono ?_
    rintro e x9 ⟨sk, ak, lk, ck, zk, bk, mk, dk, yk, rfl, hk, hb⟩
    replace V0 := Va.after hb V0
    replace V1 := Va.after hb V1
    replace V2 := Va.after hb V2
    replace Xi := Va.after hb Xi
    replace Xj := Va.after hb Xj
    replace h0 := Ri.after hb h0
    replace h1 := Ri.after hb h1
    replace h2 := Ri.after hb h2
    replace hi := Rt.after hb hi
    replace hj := Rt.after hb hj
    replace B0 := step B0 hb
    clear hb
    clear c_V2 f0_V2 d_V2 f1_V2 e_V2 f2_V2 l_V2 m_V2
    have c_Xi := Xi.d0
    have f0_Xi := Xi.frozen 0
    have d_Xi := Xi.d1
    have f1_Xi := Xi.frozen 1
    have e_Xi := Xi.d2
    have f2_Xi := Xi.frozen 2
    have l_Xi := Xi.lt
    have m_Xi := Nat.le_of_lt l_Xi
    have c_Xj := Xj.d0
    have f0_Xj := Xj.frozen 0
    have d_Xj := Xj.d1
    have f1_Xj := Xj.frozen 1
    have e_Xj := Xj.d2
    have f2_Xj := Xj.frozen 2
    have l_Xj := Xj.lt
    have m_Xj := Nat.le_of_lt l_Xj
    go_wp2_with fail
    refine ent1 x9 _ _ (Q := fun W => Calls Tryz.prog _ _ W _) ?_
    intro x10 hb hs_x10 Xk
    replace V0 := Va.after hb V0
    replace V1 := Va.after hb V1
    replace V2 := Va.after hb V2
    replace Xi := Va.after hb Xi
    replace Xj := Va.after hb Xj
    replace h0 := Ri.after hb h0
    replace h1 := Ri.after hb h1
    replace h2 := Ri.after hb h2
    replace hi := Rt.after hb hi
    replace hj := Rt.after hb hj
    replace hk := Rt.after hb hk
    replace B0 := step B0 hb
    clear hb hs_x10
    clear c_Xi f0_Xi d_Xi f1_Xi e_Xi f2_Xi l_Xi m_Xi c_Xj f0_Xj d_Xj f1_Xj e_Xj f2_Xj l_Xj m_Xj
    clear V0 V1 V2 h0 h1 h2
    refine (qadd_to si ai li ci zi bi mi di yi v0 sj aj lj cj zj bj mj dj yj v1 vS x10 hi hj HS.out.e1 HS.out.vS).mono ?_
    rintro e x11 ⟨sS, aS, lS, cS, zS, bS, mS, dS, yS, rfl, hS, hb⟩
    replace Xi := Va.after hb Xi
    replace Xj := Va.after hb Xj
    replace Xk := Va.after hb Xk
    replace hi := Rt.after hb hi
    replace hj := Rt.after hb hj
    replace hk := Rt.after hb hk
    replace B0 := step B0 hb
    clear hb
    have c_Xj := Xj.d0
    have f0_Xj := Xj.frozen 0
    have d_Xj := Xj.d1
    have f1_Xj := Xj.frozen 1
    have e_Xj := Xj.d2
    have f2_Xj := Xj.frozen 2
    have l_Xj := Xj.lt
    have m_Xj := Nat.le_of_lt l_Xj
    have c_Xi := Xi.d0
    have f0_Xi := Xi.frozen 0
    have d_Xi := Xi.d1
    have f1_Xi := Xi.frozen 1
    have e_Xi := Xi.d2
    have f2_Xi := Xi.frozen 2
    have l_Xi := Xi.lt
    have m_Xi := Nat.le_of_lt l_Xi
    go_wp2_with fail
    refine ent1 x11 _ _ (Q := fun W => Calls Tryz.prog _ _ W _) ?_
    intro x12 hb hs_x12 XS
    replace Xi := Va.after hb Xi
    replace Xj := Va.after hb Xj
    replace Xk := Va.after hb Xk
    replace hi := Rt.after hb hi
    replace hj := Rt.after hb hj
    replace hk := Rt.after hb hk
    replace hS := Rt.after hb hS
    replace B0 := step B0 hb
    clear hb hs_x12
    refine (qadd_to sj aj lj cj zj bj mj dj yj v1 si ai li ci zi bi mi di yi v0 vS x12 hj hi HS.out.e2 HS.out.vS).mono ?_
    rintro e x13 ⟨sT, aT, lT, cT, zT, bT, mT, dT, yT, rfl, hT, hb⟩
    replace Xi := Va.after hb Xi
    replace Xj := Va.after hb Xj
    replace Xk := Va.after hb Xk
    replace XS := Va.after hb XS
    replace hi := Rt.after hb hi
    replace hj := Rt.after hb hj
    replace hk := Rt.after hb hk
    replace hS := Rt.after hb hS
    replace B0 := step B0 hb
    clear hb
    clear c_Xj f0_Xj d_Xj f1_Xj e_Xj f2_Xj l_Xj m_Xj c_Xi f0_Xi d_Xi f1_Xi e_Xi f2_Xi l_Xi m_Xi
    have c_XS := XS.d0
    have f0_XS := XS.frozen 0
    have d_XS := XS.d1
    have f1_XS := XS.frozen 1
    have e_XS := XS.d2
    have f2_XS := XS.frozen 2
    have l_XS := XS.lt
    have m_XS := Nat.le_of_lt l_XS
    have c_Xk := Xk.d0
    have f0_Xk := Xk.frozen 0
    have d_Xk := Xk.d1
    have f1_Xk := Xk.frozen 1
    have e_Xk := Xk.d2
    have f2_Xk := Xk.frozen 2
    have l_Xk := Xk.lt
    have m_Xk := Nat.le_of_lt l_Xk
    go_wp2_with fail
    refine ent1 x13 _ _ (Q := fun W => Calls Tryz.prog _ _ W _) ?_
    intro x14 hb hs_x14 XT
    replace Xi := Va.after hb Xi
    replace Xj := Va.after hb Xj
    replace Xk := Va.after hb Xk
    replace XS := Va.after hb XS
    replace hi := Rt.after hb hi
    replace hj := Rt.after hb hj
    replace hk := Rt.after hb hk
    replace hS := Rt.after hb hS
    replace hT := Rt.after hb hT
    replace B0 := step B0 hb
    clear hb hs_x14
    refine (qadd_to sS aS lS cS zS bS mS dS yS vS sk ak lk ck zk bk mk dk yk v2 vU x14 hS hk HS.out.e3 HS.out.vU).mono ?_
    rintro e x15 ⟨sU, aU, lU, cU, zU, bU, mU, dU, yU, rfl, hU, hb⟩
    replace Xi := Va.after hb Xi
    replace Xj := Va.after hb Xj
    replace Xk := Va.after hb Xk
    replace XS := Va.after hb XS
    replace XT := Va.after hb XT
    replace hi := Rt.after hb hi
    replace hj := Rt.after hb hj
    replace hk := Rt.after hb hk
    replace hS := Rt.after hb hS
    replace hT := Rt.after hb hT
    replace B0 := step B0 hb
    clear hb
    clear c_XS f0_XS d_XS f1_XS e_XS f2_XS l_XS m_XS c_Xk f0_Xk d_Xk f1_Xk e_Xk f2_Xk l_Xk m_Xk
    have c_Xj := Xj.d0
    have f0_Xj := Xj.frozen 0
    have d_Xj := Xj.d1
    have f1_Xj := Xj.frozen 1
    have e_Xj := Xj.d2
    have f2_Xj := Xj.frozen 2
    have l_Xj := Xj.lt
    have m_Xj := Nat.le_of_lt l_Xj
    have c_Xk := Xk.d0
    have f0_Xk := Xk.frozen 0
    have d_Xk := Xk.d1
    have f1_Xk := Xk.frozen 1
    have e_Xk := Xk.d2
    have f2_Xk := Xk.frozen 2
    have l_Xk := Xk.lt
    have m_Xk := Nat.le_of_lt l_Xk
    go_wp2_with fail
    refine ent1 x15 _ _ (Q := fun W => Calls Tryz.prog _ _ W _) ?_
    intro x16 hb hs_x16 XU
    replace Xi := Va.after hb Xi
    replace Xj := Va.after hb Xj
    replace Xk := Va.after hb Xk
    replace XS := Va.after hb XS
    replace XT := Va.after hb XT
    replace hi := Rt.after hb hi
    replace hj := Rt.after hb hj
    replace hk := Rt.after hb hk
    replace hS := Rt.after hb hS
    replace hT := Rt.after hb hT
    replace hU := Rt.after hb hU
    replace B0 := step B0 hb
    clear hb hs_x16
    refine (qadd_to sj aj lj cj zj bj mj dj yj v1 sk ak lk ck zk bk mk dk yk v2 vW x16 hj hk HS.out.e4 HS.out.vW).mono ?_
    rintro e x17 ⟨sW, aW, lW, cW, zW, bW, mW, dW, yW, rfl, hW, hb⟩
    replace Xi := Va.after hb Xi
    replace Xj := Va.after hb Xj
    replace Xk := Va.after hb Xk
    replace XS := Va.after hb XS
    replace XT := Va.after hb XT
    replace XU := Va.after hb XU
    replace hi := Rt.after hb hi
    replace hj := Rt.after hb hj
    replace hk := Rt.after hb hk
    replace hS := Rt.after hb hS
    replace hT := Rt.after hb hT
    replace hU := Rt.after hb hU
    replace B0 := step B0 hb
    clear hb
    clear c_Xj f0_Xj d_Xj f1_Xj e_Xj f2_Xj l_Xj m_Xj c_Xk f0_Xk d_Xk f1_Xk e_Xk f2_Xk l_Xk m_Xk
    have c_Xi := Xi.d0
    have f0_Xi := Xi.frozen 0
    have d_Xi := Xi.d1
    have f1_Xi := Xi.frozen 1
    have e_Xi := Xi.d2
    have f2_Xi := Xi.frozen 2
    have l_Xi := Xi.lt
    have m_Xi := Nat.le_of_lt l_Xi
    go_wp2_with fail
    refine ent1 x17 _ _ (Q := fun W => Calls Tryz.prog _ _ W _) ?_
    intro x18 hb hs_x18 XW
    replace Xi := Va.after hb Xi
    replace Xj := Va.after hb Xj
    replace Xk := Va.after hb Xk
    replace XS := Va.after hb XS
    replace XT := Va.after hb XT
    replace XU := Va.after hb XU
    replace hi := Rt.after hb hi
    replace hj := Rt.after hb hj
    replace hk := Rt.after hb hk
    replace hS := Rt.after hb hS
    replace hT := Rt.after hb hT
    replace hU := Rt.after hb hU
    replace hW := Rt.after hb hW
    replace B0 := step B0 hb
    clear hb hs_x18
    refine (qadd_to si ai li ci zi bi mi di yi v0 sW aW lW cW zW bW mW dW yW vW vU x18 hi hW HS.out.e5 HS.out.vU).mono ?_
    rintro e x19 ⟨sD, aD, lD, cD, zD, bD, mD, dD, yD, rfl, hD, hb⟩
    replace Xi := Va.after hb Xi
    replace Xj := Va.after hb Xj
    replace Xk := Va.after hb Xk
    replace XS := Va.after hb XS
    replace XT := Va.after hb XT
    replace XU := Va.after hb XU
    replace XW := Va.after hb XW
    replace hi := Rt.after hb hi
    replace hj := Rt.after hb hj
    replace hk := Rt.after hb hk
    replace hS := Rt.after hb hS
    replace hT := Rt.after hb hT
    replace hU := Rt.after hb hU
    replace hW := Rt.after hb hW
    replace B0 := step B0 hb
    clear hb
    clear c_Xi f0_Xi d_Xi f1_Xi e_Xi f2_Xi l_Xi m_Xi
    go_wp2_with fail
    refine ent2 x19 _ _ _ _ (Q := fun W => Calls Tryz.prog _ _ W _) ?_
    intro x20 hb hs_x20 XD Vf
    replace Xi := Va.after hb Xi
    replace Xj := Va.after hb Xj
    replace Xk := Va.after hb Xk
    replace XS := Va.after hb XS
    replace XT := Va.after hb XT
    replace XU := Va.after hb XU
    replace XW := Va.after hb XW
    replace hi := Rt.after hb hi
    replace hj := Rt.after hb hj
    replace hk := Rt.after hb hk
    replace hS := Rt.after hb hS
    replace hT := Rt.after hb hT
    replace hU := Rt.after hb hU
    replace hW := Rt.after hb hW
    replace hD := Rt.after hb hD
    replace B0 := step B0 hb
    clear hb hs_x20
    refine (fine5 _ 5 _ _ x20 Vf (fun i hi => ?_) (by omega)).mono ?_
    · match i, hi with
      | 0, _ => rfl
      | 1, _ => rfl
      | 2, _ => rfl
      | 3, _ => rfl
      | 4, _ => rfl
    rintro e x21 ⟨rfl, hb⟩
    replace Xi := Va.after hb Xi
    replace Xj := Va.after hb Xj
    replace Xk := Va.after hb Xk
    replace XS := Va.after hb XS
    replace XT := Va.after hb XT
    replace XU := Va.after hb XU
    replace XW := Va.after hb XW
    replace XD := Va.after hb XD
    replace Vf := Va.after hb Vf
    replace hi := Rt.after hb hi
    replace hj := Rt.after hb hj
    replace hk := Rt.after hb hk
    replace hS := Rt.after hb hS
    replace hT := Rt.after hb hT
    replace hU := Rt.after hb hU
    replace hW := Rt.after hb hW
    replace hD := Rt.after hb hD
    replace B0 := step B0 hb
    clear hb
    clear Vf
    have c_XS := XS.d0
    have f0_XS := XS.frozen 0
    have d_XS := XS.d1
    have f1_XS := XS.frozen 1
    have e_XS := XS.d2
    have f2_XS := XS.frozen 2
    have l_XS := XS.lt
    have m_XS := Nat.le_of_lt l_XS
    have c_XT := XT.d0
    have f0_XT := XT.frozen 0
    have d_XT := XT.d1
    have f1_XT := XT.frozen 1
    have e_XT := XT.d2
    have f2_XT := XT.frozen 2
    have l_XT := XT.lt
    have m_XT := Nat.le_of_lt l_XT
    go_wp2_with fail
    refine (alike5 sS aS lS cS zS bS mS dS yS sT aT lT cT zT bT mT dT yT vS x21 hS hT).mono ?_
    rintro e x22 ⟨rfl, hb⟩
    replace Xi := Va.after hb Xi
    replace Xj := Va.after hb Xj
    replace Xk := Va.after hb Xk
    replace XS := Va.after hb XS
    replace XT := Va.after hb XT
    replace XU := Va.after hb XU
    replace XW := Va.after hb XW
    replace XD := Va.after hb XD
    replace hi := Rt.after hb hi
    replace hj := Rt.after hb hj
    replace hk := Rt.after hb hk
    replace hS := Rt.after hb hS
    replace hT := Rt.after hb hT
    replace hU := Rt.after hb hU
    replace hW := Rt.after hb hW
    replace hD := Rt.after hb hD
    replace B0 := step B0 hb
    clear hb
    clear c_XS f0_XS d_XS f1_XS e_XS f2_XS l_XS m_XS c_XT f0_XT d_XT f1_XT e_XT f2_XT l_XT m_XT
    have c_XU := XU.d0
    have f0_XU := XU.frozen 0
    have d_XU := XU.d1
    have f1_XU := XU.frozen 1
    have e_XU := XU.d2
    have f2_XU := XU.frozen 2
    have l_XU := XU.lt
    have m_XU := Nat.le_of_lt l_XU
    have c_XD := XD.d0
    have f0_XD := XD.frozen 0
    have d_XD := XD.d1
    have f1_XD := XD.frozen 1
    have e_XD := XD.d2
    have f2_XD := XD.frozen 2
    have l_XD := XD.lt
    have m_XD := Nat.le_of_lt l_XD
    go_wp2_with fail
    refine (alike5 sU aU lU cU zU bU mU dU yU sD aD lD cD zD bD mD dD yD vU x22 hU hD).mono ?_
    rintro e x23 ⟨rfl, hb⟩
    replace Xi := Va.after hb Xi
    replace Xj := Va.after hb Xj
    replace Xk := Va.after hb Xk
    replace XS := Va.after hb XS
    replace XT := Va.after hb XT
    replace XU := Va.after hb XU
    replace XW := Va.after hb XW
    replace XD := Va.after hb XD
    replace hi := Rt.after hb hi
    replace hj := Rt.after hb hj
    replace hk := Rt.after hb hk
    replace hS := Rt.after hb hS
    replace hT := Rt.after hb hT
    replace hU := Rt.after hb hU
    replace hW := Rt.after hb hW
    replace hD := Rt.after hb hD
    replace B0 := step B0 hb
    clear hb
    clear c_XU f0_XU d_XU f1_XU e_XU f2_XU l_XU m_XU c_XD f0_XD d_XD f1_XD e_XD f2_XD l_XD m_XD
    have c_XS := XS.d0
    have f0_XS := XS.frozen 0
    have d_XS := XS.d1
    have f1_XS := XS.frozen 1
    have e_XS := XS.d2
    have f2_XS := XS.frozen 2
    have l_XS := XS.lt
    have m_XS := Nat.le_of_lt l_XS
    have c_Xj := Xj.d0
    have f0_Xj := Xj.frozen 0
    have d_Xj := Xj.d1
    have f1_Xj := Xj.frozen 1
    have e_Xj := Xj.d2
    have f2_Xj := Xj.frozen 2
    have l_Xj := Xj.lt
    have m_Xj := Nat.le_of_lt l_Xj
    go_wp2_with fail
    clear c_XS f0_XS d_XS f1_XS e_XS f2_XS l_XS m_XS c_Xj f0_Xj d_Xj f1_Xj e_Xj f2_Xj l_Xj m_Xj
    clear XT hT XU hU XW hW XD hD
    refine (qsub_to sS aS lS cS zS bS mS dS yS vS sj aj lj cj zj bj mj dj yj v1 v0 x23 hS hj HS.out.e6 HS.out.v0).mono ?_
    rintro e x24 ⟨sB, aB, lB, cB, zB, bB, mB, dB, yB, rfl, hB, hb⟩
    replace Xi := Va.after hb Xi
    replace Xj := Va.after hb Xj
    replace Xk := Va.after hb Xk
    replace XS := Va.after hb XS
    replace hi := Rt.after hb hi
    replace hj := Rt.after hb hj
    replace hk := Rt.after hb hk
    replace hS := Rt.after hb hS
    replace B0 := step B0 hb
    clear hb
    have c_Xi := Xi.d0
    have f0_Xi := Xi.frozen 0
    have d_Xi := Xi.d1
    have f1_Xi := Xi.frozen 1
    have e_Xi := Xi.d2
    have f2_Xi := Xi.frozen 2
    have l_Xi := Xi.lt
    have m_Xi := Nat.le_of_lt l_Xi
    go_wp2_with fail
    refine ent1 x24 _ _ (Q := fun W => Calls Tryz.prog _ _ W _) ?_
    intro x25 hb hs_x25 XB
    replace Xi := Va.after hb Xi
    replace Xj := Va.after hb Xj
    replace Xk := Va.after hb Xk
    replace XS := Va.after hb XS
    replace hi := Rt.after hb hi
    replace hj := Rt.after hb hj
    replace hk := Rt.after hb hk
    replace hS := Rt.after hb hS
    replace hB := Rt.after hb hB
    replace B0 := step B0 hb
    clear hb hs_x25
    refine (qsub_to si ai li ci zi bi mi di yi v0 si ai li ci zi bi mi di yi v0 0 x25 hi hi HS.out.e7 HS.out.z).mono ?_
    rintro e x26 ⟨sN, aN, lN, cN, zN, bN, mN, dN, yN, rfl, hN, hb⟩
    replace Xi := Va.after hb Xi
    replace Xj := Va.after hb Xj
    replace Xk := Va.after hb Xk
    replace XS := Va.after hb XS
    replace XB := Va.after hb XB
    replace hi := Rt.after hb hi
    replace hj := Rt.after hb hj
    replace hk := Rt.after hb hk
    replace hS := Rt.after hb hS
    replace hB := Rt.after hb hB
    replace B0 := step B0 hb
    clear hb
    clear c_Xi f0_Xi d_Xi f1_Xi e_Xi f2_Xi l_Xi m_Xi
    go_wp2_with fail
    refine ent2 x26 _ _ _ _ (Q := fun W => Calls Tryz.prog _ _ W _) ?_
    intro x27 hb hs_x27 XN Vf
    replace Xi := Va.after hb Xi
    replace Xj := Va.after hb Xj
    replace Xk := Va.after hb Xk
    replace XS := Va.after hb XS
    replace XB := Va.after hb XB
    replace hi := Rt.after hb hi
    replace hj := Rt.after hb hj
    replace hk := Rt.after hb hk
    replace hS := Rt.after hb hS
    replace hB := Rt.after hb hB
    replace hN := Rt.after hb hN
    replace B0 := step B0 hb
    clear hb hs_x27
    refine (fine5 _ 2 _ _ x27 Vf (fun i hi => ?_) (by omega)).mono ?_
    · match i, hi with
      | 0, _ => rfl
      | 1, _ => rfl
    rintro e x28 ⟨rfl, hb⟩
    replace Xi := Va.after hb Xi
    replace Xj := Va.after hb Xj
    replace Xk := Va.after hb Xk
    replace XS := Va.after hb XS
    replace XB := Va.after hb XB
    replace XN := Va.after hb XN
    replace Vf := Va.after hb Vf
    replace hi := Rt.after hb hi
    replace hj := Rt.after hb hj
    replace hk := Rt.after hb hk
    replace hS := Rt.after hb hS
    replace hB := Rt.after hb hB
    replace hN := Rt.after hb hN
    replace B0 := step B0 hb
    clear hb
    clear Vf
    have c_XB := XB.d0
    have f0_XB := XB.frozen 0
    have d_XB := XB.d1
    have f1_XB := XB.frozen 1
    have e_XB := XB.d2
    have f2_XB := XB.frozen 2
    have l_XB := XB.lt
    have m_XB := Nat.le_of_lt l_XB
    have c_Xi := Xi.d0
    have f0_Xi := Xi.frozen 0
    have d_Xi := Xi.d1
    have f1_Xi := Xi.frozen 1
    have e_Xi := Xi.d2
    have f2_Xi := Xi.frozen 2
    have l_Xi := Xi.lt
    have m_Xi := Nat.le_of_lt l_Xi
    go_wp2_with fail
    refine (alike5 sB aB lB cB zB bB mB dB yB si ai li ci zi bi mi di yi v0 x28 hB hi).mono ?_
    rintro e x29 ⟨rfl, hb⟩
    replace Xi := Va.after hb Xi
    replace Xj := Va.after hb Xj
    replace Xk := Va.after hb Xk
    replace XS := Va.after hb XS
    replace XB := Va.after hb XB
    replace XN := Va.after hb XN
    replace hi := Rt.after hb hi
    replace hj := Rt.after hb hj
    replace hk := Rt.after hb hk
    replace hS := Rt.after hb hS
    replace hB := Rt.after hb hB
    replace hN := Rt.after hb hN
    replace B0 := step B0 hb
    clear hb
    clear c_XB f0_XB d_XB f1_XB e_XB f2_XB l_XB m_XB c_Xi f0_Xi d_Xi f1_Xi e_Xi f2_Xi l_Xi m_Xi
    have c_XN := XN.d0
    have f0_XN := XN.frozen 0
    have d_XN := XN.d1
    have f1_XN := XN.frozen 1
    have e_XN := XN.d2
    have f2_XN := XN.frozen 2
    have l_XN := XN.lt
    have m_XN := Nat.le_of_lt l_XN
    go_wp2_with fail
    refine (qsign_any sN aN lN cN zN bN mN dN yN 0 x29 hN).mono ?_
    rintro e x30 ⟨rfl, hb⟩
    replace Xi := Va.after hb Xi
    replace Xj := Va.after hb Xj
    replace Xk := Va.after hb Xk
    replace XS := Va.after hb XS
    replace XB := Va.after hb XB
    replace XN := Va.after hb XN
    replace hi := Rt.after hb hi
    replace hj := Rt.after hb hj
    replace hk := Rt.after hb hk
    replace hS := Rt.after hb hS
    replace hB := Rt.after hb hB
    replace hN := Rt.after hb hN
    replace B0 := step B0 hb
    clear hb
    rw [Rat.zero_num, Int.sign_zero]
    clear c_XN f0_XN d_XN f1_XN e_XN f2_XN l_XN m_XN
    have c_Xi := Xi.d0
    have f0_Xi := Xi.frozen 0
    have d_Xi := Xi.d1
    have f1_Xi := Xi.frozen 1
    have e_Xi := Xi.d2
    have f2_Xi := Xi.frozen 2
    have l_Xi := Xi.lt
    have m_Xi := Nat.le_of_lt l_Xi
    have c_Xj := Xj.d0
    have f0_Xj := Xj.frozen 0
    have d_Xj := Xj.d1
    have f1_Xj := Xj.frozen 1
    have e_Xj := Xj.d2
    have f2_Xj := Xj.frozen 2
    have l_Xj := Xj.lt
    have m_Xj := Nat.le_of_lt l_Xj
    go_wp2_with fail
    clear c_Xi f0_Xi d_Xi f1_Xi e_Xi f2_Xi l_Xi m_Xi c_Xj f0_Xj d_Xj f1_Xj e_Xj f2_Xj l_Xj m_Xj
    clear XB hB XN hN
    refine (qmul_to si ai li ci zi bi mi di yi v0 sj aj lj cj zj bj mj dj yj v1 vP x30 hi hj HS.out.p1 HS.out.vP).mono ?_
    rintro e x31 ⟨sP, aP, lP, cP, zP, bP, mP, dP, yP, rfl, hP, hb⟩
    replace Xi := Va.after hb Xi
    replace Xj := Va.after hb Xj
    replace Xk := Va.after hb Xk
    replace XS := Va.after hb XS
    replace hi := Rt.after hb hi
    replace hj := Rt.after hb hj
    replace hk := Rt.after hb hk
    replace hS := Rt.after hb hS
    replace B0 := step B0 hb
    clear hb
    have c_Xj := Xj.d0
    have f0_Xj := Xj.frozen 0
    have d_Xj := Xj.d1
    have f1_Xj := Xj.frozen 1
    have e_Xj := Xj.d2
    have f2_Xj := Xj.frozen 2
    have l_Xj := Xj.lt
    have m_Xj := Nat.le_of_lt l_Xj
    have c_Xi := Xi.d0
    have f0_Xi := Xi.frozen 0
    have d_Xi := Xi.d1
    have f1_Xi := Xi.frozen 1
    have e_Xi := Xi.d2
    have f2_Xi := Xi.frozen 2
    have l_Xi := Xi.lt
    have m_Xi := Nat.le_of_lt l_Xi
    go_wp2_with fail
    refine ent1 x31 _ _ (Q := fun W => Calls Tryz.prog _ _ W _) ?_
    intro x32 hb hs_x32 XP
    replace Xi := Va.after hb Xi
    replace Xj := Va.after hb Xj
    replace Xk := Va.after hb Xk
    replace XS := Va.after hb XS
    replace hi := Rt.after hb hi
    replace hj := Rt.after hb hj
    replace hk := Rt.after hb hk
    replace hS := Rt.after hb hS
    replace hP := Rt.after hb hP
    replace B0 := step B0 hb
    clear hb hs_x32
    refine (qmul_to sj aj lj cj zj bj mj dj yj v1 si ai li ci zi bi mi di yi v0 vP x32 hj hi HS.out.p2 HS.out.vP).mono ?_
    rintro e x33 ⟨sG, aG, lG, cG, zG, bG, mG, dG, yG, rfl, hG, hb⟩
    replace Xi := Va.after hb Xi
    replace Xj := Va.after hb Xj
    replace Xk := Va.after hb Xk
    replace XS := Va.after hb XS
    replace XP := Va.after hb XP
    replace hi := Rt.after hb hi
    replace hj := Rt.after hb hj
    replace hk := Rt.after hb hk
    replace hS := Rt.after hb hS
    replace hP := Rt.after hb hP
    replace B0 := step B0 hb
    clear hb
    clear c_Xj f0_Xj d_Xj f1_Xj e_Xj f2_Xj l_Xj m_Xj c_Xi f0_Xi d_Xi f1_Xi e_Xi f2_Xi l_Xi m_Xi
    have c_Xj := Xj.d0
    have f0_Xj := Xj.frozen 0
    have d_Xj := Xj.d1
    have f1_Xj := Xj.frozen 1
    have e_Xj := Xj.d2
    have f2_Xj := Xj.frozen 2
    have l_Xj := Xj.lt
    have m_Xj := Nat.le_of_lt l_Xj
    have c_Xk := Xk.d0
    have f0_Xk := Xk.frozen 0
    have d_Xk := Xk.d1
    have f1_Xk := Xk.frozen 1
    have e_Xk := Xk.d2
    have f2_Xk := Xk.frozen 2
    have l_Xk := Xk.lt
    have m_Xk := Nat.le_of_lt l_Xk
    go_wp2_with fail
    refine ent1 x33 _ _ (Q := fun W => Calls Tryz.prog _ _ W _) ?_
    intro x34 hb hs_x34 XG
    replace Xi := Va.after hb Xi
    replace Xj := Va.after hb Xj
    replace Xk := Va.after hb Xk
    replace XS := Va.after hb XS
    replace XP := Va.after hb XP
    replace hi := Rt.after hb hi
    replace hj := Rt.after hb hj
    replace hk := Rt.after hb hk
    replace hS := Rt.after hb hS
    replace hP := Rt.after hb hP
    replace hG := Rt.after hb hG
    replace B0 := step B0 hb
    clear hb hs_x34
    refine (qmul_to sj aj lj cj zj bj mj dj yj v1 sk ak lk ck zk bk mk dk yk v2 vQ x34 hj hk HS.out.p3 HS.out.vQ).mono ?_
    rintro e x35 ⟨sQ, aQ, lQ, cQ, zQ, bQ, mQ, dQ, yQ, rfl, hQ, hb⟩
    replace Xi := Va.after hb Xi
    replace Xj := Va.after hb Xj
    replace Xk := Va.after hb Xk
    replace XS := Va.after hb XS
    replace XP := Va.after hb XP
    replace XG := Va.after hb XG
    replace hi := Rt.after hb hi
    replace hj := Rt.after hb hj
    replace hk := Rt.after hb hk
    replace hS := Rt.after hb hS
    replace hP := Rt.after hb hP
    replace hG := Rt.after hb hG
    replace B0 := step B0 hb
    clear hb
    clear c_Xj f0_Xj d_Xj f1_Xj e_Xj f2_Xj l_Xj m_Xj c_Xk f0_Xk d_Xk f1_Xk e_Xk f2_Xk l_Xk m_Xk
    have c_XP := XP.d0
    have f0_XP := XP.frozen 0
    have d_XP := XP.d1
    have f1_XP := XP.frozen 1
    have e_XP := XP.d2
    have f2_XP := XP.frozen 2
    have l_XP := XP.lt
    have m_XP := Nat.le_of_lt l_XP
    have c_Xk := Xk.d0
    have f0_Xk := Xk.frozen 0
    have d_Xk := Xk.d1
    have f1_Xk := Xk.frozen 1
    have e_Xk := Xk.d2
    have f2_Xk := Xk.frozen 2
    have l_Xk := Xk.lt
    have m_Xk := Nat.le_of_lt l_Xk
    go_wp2_with fail
    refine ent1 x35 _ _ (Q := fun W => Calls Tryz.prog _ _ W _) ?_
    intro x36 hb hs_x36 XQ
    replace Xi := Va.after hb Xi
    replace Xj := Va.after hb Xj
    replace Xk := Va.after hb Xk
    replace XS := Va.after hb XS
    replace XP := Va.after hb XP
    replace XG := Va.after hb XG
    replace hi := Rt.after hb hi
    replace hj := Rt.after hb hj
    replace hk := Rt.after hb hk
    replace hS := Rt.after hb hS
    replace hP := Rt.after hb hP
    replace hG := Rt.after hb hG
    replace hQ := Rt.after hb hQ
    replace B0 := step B0 hb
    clear hb hs_x36
    refine (qmul_to sP aP lP cP zP bP mP dP yP vP sk ak lk ck zk bk mk dk yk v2 vL x36 hP hk HS.out.p4 HS.out.vL).mono ?_
    rintro e x37 ⟨sL, aL, lL, cL, zL, bL, mL, dL, yL, rfl, hL, hb⟩
    replace Xi := Va.after hb Xi
    replace Xj := Va.after hb Xj
    replace Xk := Va.after hb Xk
    replace XS := Va.after hb XS
    replace XP := Va.after hb XP
    replace XG := Va.after hb XG
    replace XQ := Va.after hb XQ
    replace hi := Rt.after hb hi
    replace hj := Rt.after hb hj
    replace hk := Rt.after hb hk
    replace hS := Rt.after hb hS
    replace hP := Rt.after hb hP
    replace hG := Rt.after hb hG
    replace hQ := Rt.after hb hQ
    replace B0 := step B0 hb
    clear hb
    clear c_XP f0_XP d_XP f1_XP e_XP f2_XP l_XP m_XP c_Xk f0_Xk d_Xk f1_Xk e_Xk f2_Xk l_Xk m_Xk
    have c_Xi := Xi.d0
    have f0_Xi := Xi.frozen 0
    have d_Xi := Xi.d1
    have f1_Xi := Xi.frozen 1
    have e_Xi := Xi.d2
    have f2_Xi := Xi.frozen 2
    have l_Xi := Xi.lt
    have m_Xi := Nat.le_of_lt l_Xi
    have c_XQ := XQ.d0
    have f0_XQ := XQ.frozen 0
    have d_XQ := XQ.d1
    have f1_XQ := XQ.frozen 1
    have e_XQ := XQ.d2
    have f2_XQ := XQ.frozen 2
    have l_XQ := XQ.lt
    have m_XQ := Nat.le_of_lt l_XQ
    go_wp2_with fail
    refine ent1 x37 _ _ (Q := fun W => Calls Tryz.prog _ _ W _) ?_
    intro x38 hb hs_x38 XL
    replace Xi := Va.after hb Xi
    replace Xj := Va.after hb Xj
    replace Xk := Va.after hb Xk
    replace XS := Va.after hb XS
    replace XP := Va.after hb XP
    replace XG := Va.after hb XG
    replace XQ := Va.after hb XQ
    replace hi := Rt.after hb hi
    replace hj := Rt.after hb hj
    replace hk := Rt.after hb hk
    replace hS := Rt.after hb hS
    replace hP := Rt.after hb hP
    replace hG := Rt.after hb hG
    replace hQ := Rt.after hb hQ
    replace hL := Rt.after hb hL
    replace B0 := step B0 hb
    clear hb hs_x38
    refine (qmul_to si ai li ci zi bi mi di yi v0 sQ aQ lQ cQ zQ bQ mQ dQ yQ vQ vL x38 hi hQ HS.out.p5 HS.out.vL).mono ?_
    rintro e x39 ⟨sM, aM, lM, cM, zM, bM, mM, dM, yM, rfl, hM, hb⟩
    replace Xi := Va.after hb Xi
    replace Xj := Va.after hb Xj
    replace Xk := Va.after hb Xk
    replace XS := Va.after hb XS
    replace XP := Va.after hb XP
    replace XG := Va.after hb XG
    replace XQ := Va.after hb XQ
    replace XL := Va.after hb XL
    replace hi := Rt.after hb hi
    replace hj := Rt.after hb hj
    replace hk := Rt.after hb hk
    replace hS := Rt.after hb hS
    replace hP := Rt.after hb hP
    replace hG := Rt.after hb hG
    replace hQ := Rt.after hb hQ
    replace hL := Rt.after hb hL
    replace B0 := step B0 hb
    clear hb
    clear c_Xi f0_Xi d_Xi f1_Xi e_Xi f2_Xi l_Xi m_Xi c_XQ f0_XQ d_XQ f1_XQ e_XQ f2_XQ l_XQ m_XQ
    go_wp2_with fail
    refine ent2 x39 _ _ _ _ (Q := fun W => Calls Tryz.prog _ _ W _) ?_
    intro x40 hb hs_x40 XM Vf
    replace Xi := Va.after hb Xi
    replace Xj := Va.after hb Xj
    replace Xk := Va.after hb Xk
    replace XS := Va.after hb XS
    replace XP := Va.after hb XP
    replace XG := Va.after hb XG
    replace XQ := Va.after hb XQ
    replace XL := Va.after hb XL
    replace hi := Rt.after hb hi
    replace hj := Rt.after hb hj
    replace hk := Rt.after hb hk
    replace hS := Rt.after hb hS
    replace hP := Rt.after hb hP
    replace hG := Rt.after hb hG
    replace hQ := Rt.after hb hQ
    replace hL := Rt.after hb hL
    replace hM := Rt.after hb hM
    replace B0 := step B0 hb
    clear hb hs_x40
    refine (fine5 _ 5 _ _ x40 Vf (fun i hi => ?_) (by omega)).mono ?_
    · match i, hi with
      | 0, _ => rfl
      | 1, _ => rfl
      | 2, _ => rfl
      | 3, _ => rfl
      | 4, _ => rfl
    rintro e x41 ⟨rfl, hb⟩
    replace Xi := Va.after hb Xi
    replace Xj := Va.after hb Xj
    replace Xk := Va.after hb Xk
    replace XS := Va.after hb XS
    replace XP := Va.after hb XP
    replace XG := Va.after hb XG
    replace XQ := Va.after hb XQ
    replace XL := Va.after hb XL
    replace XM := Va.after hb XM
    replace Vf := Va.after hb Vf
    replace hi := Rt.after hb hi
    replace hj := Rt.after hb hj
    replace hk := Rt.after hb hk
    replace hS := Rt.after hb hS
    replace hP := Rt.after hb hP
    replace hG := Rt.after hb hG
    replace hQ := Rt.after hb hQ
    replace hL := Rt.after hb hL
    replace hM := Rt.after hb hM
    replace B0 := step B0 hb
    clear hb
    clear Vf
    have c_XP := XP.d0
    have f0_XP := XP.frozen 0
    have d_XP := XP.d1
    have f1_XP := XP.frozen 1
    have e_XP := XP.d2
    have f2_XP := XP.frozen 2
    have l_XP := XP.lt
    have m_XP := Nat.le_of_lt l_XP
    have c_XG := XG.d0
    have f0_XG := XG.frozen 0
    have d_XG := XG.d1
    have f1_XG := XG.frozen 1
    have e_XG := XG.d2
    have f2_XG := XG.frozen 2
    have l_XG := XG.lt
    have m_XG := Nat.le_of_lt l_XG
    go_wp2_with fail
    refine (alike5 sP aP lP cP zP bP mP dP yP sG aG lG cG zG bG mG dG yG vP x41 hP hG).mono ?_
    rintro e x42 ⟨rfl, hb⟩
    replace Xi := Va.after hb Xi
    replace Xj := Va.after hb Xj
    replace Xk := Va.after hb Xk
    replace XS := Va.after hb XS
    replace XP := Va.after hb XP
    replace XG := Va.after hb XG
    replace XQ := Va.after hb XQ
    replace XL := Va.after hb XL
    replace XM := Va.after hb XM
    replace hi := Rt.after hb hi
    replace hj := Rt.after hb hj
    replace hk := Rt.after hb hk
    replace hS := Rt.after hb hS
    replace hP := Rt.after hb hP
    replace hG := Rt.after hb hG
    replace hQ := Rt.after hb hQ
    replace hL := Rt.after hb hL
    replace hM := Rt.after hb hM
    replace B0 := step B0 hb
    clear hb
    clear c_XP f0_XP d_XP f1_XP e_XP f2_XP l_XP m_XP c_XG f0_XG d_XG f1_XG e_XG f2_XG l_XG m_XG
    have c_XL := XL.d0
    have f0_XL := XL.frozen 0
    have d_XL := XL.d1
    have f1_XL := XL.frozen 1
    have e_XL := XL.d2
    have f2_XL := XL.frozen 2
    have l_XL := XL.lt
    have m_XL := Nat.le_of_lt l_XL
    have c_XM := XM.d0
    have f0_XM := XM.frozen 0
    have d_XM := XM.d1
    have f1_XM := XM.frozen 1
    have e_XM := XM.d2
    have f2_XM := XM.frozen 2
    have l_XM := XM.lt
    have m_XM := Nat.le_of_lt l_XM
    go_wp2_with fail
    refine (alike5 sL aL lL cL zL bL mL dL yL sM aM lM cM zM bM mM dM yM vL x42 hL hM).mono ?_
    rintro e x43 ⟨rfl, hb⟩
    replace Xi := Va.after hb Xi
    replace Xj := Va.after hb Xj
    replace Xk := Va.after hb Xk
    replace XS := Va.after hb XS
    replace XP := Va.after hb XP
    replace XG := Va.after hb XG
    replace XQ := Va.after hb XQ
    replace XL := Va.after hb XL
    replace XM := Va.after hb XM
    replace hi := Rt.after hb hi
    replace hj := Rt.after hb hj
    replace hk := Rt.after hb hk
    replace hS := Rt.after hb hS
    replace hP := Rt.after hb hP
    replace hG := Rt.after hb hG
    replace hQ := Rt.after hb hQ
    replace hL := Rt.after hb hL
    replace hM := Rt.after hb hM
    replace B0 := step B0 hb
    clear hb
    clear c_XL f0_XL d_XL f1_XL e_XL f2_XL l_XL m_XL c_XM f0_XM d_XM f1_XM e_XM f2_XM l_XM m_XM
    have c_Xi := Xi.d0
    have f0_Xi := Xi.frozen 0
    have d_Xi := Xi.d1
    have f1_Xi := Xi.frozen 1
    have e_Xi := Xi.d2
    have f2_Xi := Xi.frozen 2
    have l_Xi := Xi.lt
    have m_Xi := Nat.le_of_lt l_Xi
    have c_Xk := Xk.d0
    have f0_Xk := Xk.frozen 0
    have d_Xk := Xk.d1
    have f1_Xk := Xk.frozen 1
    have e_Xk := Xk.d2
    have f2_Xk := Xk.frozen 2
    have l_Xk := Xk.lt
    have m_Xk := Nat.le_of_lt l_Xk
    go_wp2_with fail
    clear c_Xi f0_Xi d_Xi f1_Xi e_Xi f2_Xi l_Xi m_Xi c_Xk f0_Xk d_Xk f1_Xk e_Xk f2_Xk l_Xk m_Xk
    clear XG hG XL hL XM hM
    refine (qmul_to si ai li ci zi bi mi di yi v0 sk ak lk ck zk bk mk dk yk v2 vK x43 hi hk HS.out.p6 HS.out.vK).mono ?_
    rintro e x44 ⟨sK, aK, lK, cK, zK, bK, mK, dK, yK, rfl, hK, hb⟩
    replace Xi := Va.after hb Xi
    replace Xj := Va.after hb Xj
    replace Xk := Va.after hb Xk
    replace XS := Va.after hb XS
    replace XP := Va.after hb XP
    replace XQ := Va.after hb XQ
    replace hi := Rt.after hb hi
    replace hj := Rt.after hb hj
    replace hk := Rt.after hb hk
    replace hS := Rt.after hb hS
    replace hP := Rt.after hb hP
    replace hQ := Rt.after hb hQ
    replace B0 := step B0 hb
    clear hb
    have c_XS := XS.d0
    have f0_XS := XS.frozen 0
    have d_XS := XS.d1
    have f1_XS := XS.frozen 1
    have e_XS := XS.d2
    have f2_XS := XS.frozen 2
    have l_XS := XS.lt
    have m_XS := Nat.le_of_lt l_XS
    have c_Xk := Xk.d0
    have f0_Xk := Xk.frozen 0
    have d_Xk := Xk.d1
    have f1_Xk := Xk.frozen 1
    have e_Xk := Xk.d2
    have f2_Xk := Xk.frozen 2
    have l_Xk := Xk.lt
    have m_Xk := Nat.le_of_lt l_Xk
    go_wp2_with fail
    refine ent1 x44 _ _ (Q := fun W => Calls Tryz.prog _ _ W _) ?_
    intro x45 hb hs_x45 XK
    replace Xi := Va.after hb Xi
    replace Xj := Va.after hb Xj
    replace Xk := Va.after hb Xk
    replace XS := Va.after hb XS
    replace XP := Va.after hb XP
    replace XQ := Va.after hb XQ
    replace hi := Rt.after hb hi
    replace hj := Rt.after hb hj
    replace hk := Rt.after hb hk
    replace hS := Rt.after hb hS
    replace hP := Rt.after hb hP
    replace hQ := Rt.after hb hQ
    replace hK := Rt.after hb hK
    replace B0 := step B0 hb
    clear hb hs_x45
    refine (qmul_to sS aS lS cS zS bS mS dS yS vS sk ak lk ck zk bk mk dk yk v2 vA x45 hS hk HS.out.p7 HS.out.vA).mono ?_
    rintro e x46 ⟨sA, aA, lA, cA, zA, bA, mA, dA, yA, rfl, hA, hb⟩
    replace Xi := Va.after hb Xi
    replace Xj := Va.after hb Xj
    replace Xk := Va.after hb Xk
    replace XS := Va.after hb XS
    replace XP := Va.after hb XP
    replace XQ := Va.after hb XQ
    replace XK := Va.after hb XK
    replace hi := Rt.after hb hi
    replace hj := Rt.after hb hj
    replace hk := Rt.after hb hk
    replace hS := Rt.after hb hS
    replace hP := Rt.after hb hP
    replace hQ := Rt.after hb hQ
    replace hK := Rt.after hb hK
    replace B0 := step B0 hb
    clear hb
    clear c_XS f0_XS d_XS f1_XS e_XS f2_XS l_XS m_XS c_Xk f0_Xk d_Xk f1_Xk e_Xk f2_Xk l_Xk m_Xk
    have c_XK := XK.d0
    have f0_XK := XK.frozen 0
    have d_XK := XK.d1
    have f1_XK := XK.frozen 1
    have e_XK := XK.d2
    have f2_XK := XK.frozen 2
    have l_XK := XK.lt
    have m_XK := Nat.le_of_lt l_XK
    have c_XQ := XQ.d0
    have f0_XQ := XQ.frozen 0
    have d_XQ := XQ.d1
    have f1_XQ := XQ.frozen 1
    have e_XQ := XQ.d2
    have f2_XQ := XQ.frozen 2
    have l_XQ := XQ.lt
    have m_XQ := Nat.le_of_lt l_XQ
    go_wp2_with fail
    refine ent1 x46 _ _ (Q := fun W => Calls Tryz.prog _ _ W _) ?_
    intro x47 hb hs_x47 XA
    replace Xi := Va.after hb Xi
    replace Xj := Va.after hb Xj
    replace Xk := Va.after hb Xk
    replace XS := Va.after hb XS
    replace XP := Va.after hb XP
    replace XQ := Va.after hb XQ
    replace XK := Va.after hb XK
    replace hi := Rt.after hb hi
    replace hj := Rt.after hb hj
    replace hk := Rt.after hb hk
    replace hS := Rt.after hb hS
    replace hP := Rt.after hb hP
    replace hQ := Rt.after hb hQ
    replace hK := Rt.after hb hK
    replace hA := Rt.after hb hA
    replace B0 := step B0 hb
    clear hb hs_x47
    refine (qadd_to sK aK lK cK zK bK mK dK yK vK sQ aQ lQ cQ zQ bQ mQ dQ yQ vQ vA x47 hK hQ HS.out.p8 HS.out.vA).mono ?_
    rintro e x48 ⟨sH, aH, lH, cH, zH, bH, mH, dH, yH, rfl, hH, hb⟩
    replace Xi := Va.after hb Xi
    replace Xj := Va.after hb Xj
    replace Xk := Va.after hb Xk
    replace XS := Va.after hb XS
    replace XP := Va.after hb XP
    replace XQ := Va.after hb XQ
    replace XK := Va.after hb XK
    replace XA := Va.after hb XA
    replace hi := Rt.after hb hi
    replace hj := Rt.after hb hj
    replace hk := Rt.after hb hk
    replace hS := Rt.after hb hS
    replace hP := Rt.after hb hP
    replace hQ := Rt.after hb hQ
    replace hK := Rt.after hb hK
    replace hA := Rt.after hb hA
    replace B0 := step B0 hb
    clear hb
    clear c_XK f0_XK d_XK f1_XK e_XK f2_XK l_XK m_XK c_XQ f0_XQ d_XQ f1_XQ e_XQ f2_XQ l_XQ m_XQ
    go_wp2_with fail
    refine ent2 x48 _ _ _ _ (Q := fun W => Calls Tryz.prog _ _ W _) ?_
    intro x49 hb hs_x49 XH Vf
    replace Xi := Va.after hb Xi
    replace Xj := Va.after hb Xj
    replace Xk := Va.after hb Xk
    replace XS := Va.after hb XS
    replace XP := Va.after hb XP
    replace XQ := Va.after hb XQ
    replace XK := Va.after hb XK
    replace XA := Va.after hb XA
    replace hi := Rt.after hb hi
    replace hj := Rt.after hb hj
    replace hk := Rt.after hb hk
    replace hS := Rt.after hb hS
    replace hP := Rt.after hb hP
    replace hQ := Rt.after hb hQ
    replace hK := Rt.after hb hK
    replace hA := Rt.after hb hA
    replace hH := Rt.after hb hH
    replace B0 := step B0 hb
    clear hb hs_x49
    refine (fine5 _ 3 _ _ x49 Vf (fun i hi => ?_) (by omega)).mono ?_
    · match i, hi with
      | 0, _ => rfl
      | 1, _ => rfl
      | 2, _ => rfl
    rintro e x50 ⟨rfl, hb⟩
    replace Xi := Va.after hb Xi
    replace Xj := Va.after hb Xj
    replace Xk := Va.after hb Xk
    replace XS := Va.after hb XS
    replace XP := Va.after hb XP
    replace XQ := Va.after hb XQ
    replace XK := Va.after hb XK
    replace XA := Va.after hb XA
    replace XH := Va.after hb XH
    replace Vf := Va.after hb Vf
    replace hi := Rt.after hb hi
    replace hj := Rt.after hb hj
    replace hk := Rt.after hb hk
    replace hS := Rt.after hb hS
    replace hP := Rt.after hb hP
    replace hQ := Rt.after hb hQ
    replace hK := Rt.after hb hK
    replace hA := Rt.after hb hA
    replace hH := Rt.after hb hH
    replace B0 := step B0 hb
    clear hb
    clear Vf
    have c_XA := XA.d0
    have f0_XA := XA.frozen 0
    have d_XA := XA.d1
    have f1_XA := XA.frozen 1
    have e_XA := XA.d2
    have f2_XA := XA.frozen 2
    have l_XA := XA.lt
    have m_XA := Nat.le_of_lt l_XA
    have c_XH := XH.d0
    have f0_XH := XH.frozen 0
    have d_XH := XH.d1
    have f1_XH := XH.frozen 1
    have e_XH := XH.d2
    have f2_XH := XH.frozen 2
    have l_XH := XH.lt
    have m_XH := Nat.le_of_lt l_XH
    go_wp2_with fail
    refine (alike5 sA aA lA cA zA bA mA dA yA sH aH lH cH zH bH mH dH yH vA x50 hA hH).mono ?_
    rintro e x51 ⟨rfl, hb⟩
    replace Xi := Va.after hb Xi
    replace Xj := Va.after hb Xj
    replace Xk := Va.after hb Xk
    replace XS := Va.after hb XS
    replace XP := Va.after hb XP
    replace XQ := Va.after hb XQ
    replace XK := Va.after hb XK
    replace XA := Va.after hb XA
    replace XH := Va.after hb XH
    replace hi := Rt.after hb hi
    replace hj := Rt.after hb hj
    replace hk := Rt.after hb hk
    replace hS := Rt.after hb hS
    replace hP := Rt.after hb hP
    replace hQ := Rt.after hb hQ
    replace hK := Rt.after hb hK
    replace hA := Rt.after hb hA
    replace hH := Rt.after hb hH
    replace B0 := step B0 hb
    clear hb
    clear c_XA f0_XA d_XA f1_XA e_XA f2_XA l_XA m_XA c_XH f0_XH d_XH f1_XH e_XH f2_XH l_XH m_XH
    have c_XP := XP.d0
    have f0_XP := XP.frozen 0
    have d_XP := XP.d1
    have f1_XP := XP.frozen 1
    have e_XP := XP.d2
    have f2_XP := XP.frozen 2
    have l_XP := XP.lt
    have m_XP := Nat.le_of_lt l_XP
    have c_Xj := Xj.d0
    have f0_Xj := Xj.frozen 0
    have d_Xj := Xj.d1
    have f1_Xj := Xj.frozen 1
    have e_Xj := Xj.d2
    have f2_Xj := Xj.frozen 2
    have l_Xj := Xj.lt
    have m_Xj := Nat.le_of_lt l_Xj
    go_wp2_with fail
    clear c_XP f0_XP d_XP f1_XP e_XP f2_XP l_XP m_XP c_Xj f0_Xj d_Xj f1_Xj e_Xj f2_Xj l_Xj m_Xj
    clear XS hS XQ hQ XK hK XA hA XH hH Xk hk
    by_cases y0 : v1 = 0
    ·
      refine (qquo_nought sP aP lP cP zP bP mP dP yP vP sj aj lj cj zj bj mj dj yj v1 x51 hP hj y0).mono ?_
      rintro e x52 ⟨rfl, hb⟩
      replace Xi := Va.after hb Xi
      replace Xj := Va.after hb Xj
      replace XP := Va.after hb XP
      replace hi := Rt.after hb hi
      replace hj := Rt.after hb hj
      replace hP := Rt.after hb hP
      replace B0 := step B0 hb
      clear hb
      have c_Xj := Xj.d0
      have f0_Xj := Xj.frozen 0
      have d_Xj := Xj.d1
      have f1_Xj := Xj.frozen 1
      have e_Xj := Xj.d2
      have f2_Xj := Xj.frozen 2
      have l_Xj := Xj.lt
      have m_Xj := Nat.le_of_lt l_Xj
      go_wp2_with fail
      refine ent1 x52 _ _ (Q := fun W => Calls Tryz.prog _ _ W _) ?_
      intro x53 hb hs_x53 Xq
      replace Xi := Va.after hb Xi
      replace Xj := Va.after hb Xj
      replace XP := Va.after hb XP
      replace hi := Rt.after hb hi
      replace hj := Rt.after hb hj
      replace hP := Rt.after hb hP
      replace B0 := step B0 hb
      clear hb hs_x53
      refine (qsign_any sj aj lj cj zj bj mj dj yj v1 x53 hj).mono ?_
      rintro e x54 ⟨rfl, hb⟩
      replace Xi := Va.after hb Xi
      replace Xj := Va.after hb Xj
      replace XP := Va.after hb XP
      replace Xq := Va.after hb Xq
      replace hi := Rt.after hb hi
      replace hj := Rt.after hb hj
      replace hP := Rt.after hb hP
      replace B0 := step B0 hb
      clear hb
      rw [y0, Rat.zero_num, Int.sign_zero]
      clear c_Xj f0_Xj d_Xj f1_Xj e_Xj f2_Xj l_Xj m_Xj
      have c_Xq := Xq.d0
      have f0_Xq := Xq.frozen 0
      have d_Xq := Xq.d1
      have f1_Xq := Xq.frozen 1
      have e_Xq := Xq.d2
      have f2_Xq := Xq.frozen 2
      have l_Xq := Xq.lt
      have m_Xq := Nat.le_of_lt l_Xq
      go_wp2_with fail
      refine (qsign_any false none 0 0 [] none 0 0 [] 0 x54 (Rt.nil _)).mono ?_
      rintro e x55 ⟨rfl, hb⟩
      replace Xi := Va.after hb Xi
      replace Xj := Va.after hb Xj
      replace XP := Va.after hb XP
      replace Xq := Va.after hb Xq
      replace hi := Rt.after hb hi
      replace hj := Rt.after hb hj
      replace hP := Rt.after hb hP
      replace B0 := step B0 hb
      clear hb
      rw [Rat.zero_num, Int.sign_zero]
      clear c_Xq f0_Xq d_Xq f1_Xq e_Xq f2_Xq l_Xq m_Xq
      go_wp2_with fail
      go_ret
      exact ⟨rfl, B0⟩
    ·
      refine (qquo_to sP aP lP cP zP bP mP dP yP vP sj aj lj cj zj bj mj dj yj v1 v0 x51 hP hj (HS.out.p9 y0) HS.out.v0 y0).mono ?_
      rintro e x52 ⟨sq, aq, lq, cq, zq, bq, mq, dq, yq, rfl, hq, hb⟩
      replace Xi := Va.after hb Xi
      replace Xj := Va.after hb Xj
      replace XP := Va.after hb XP
      replace hi := Rt.after hb hi
      replace hj := Rt.after hb hj
      replace hP := Rt.after hb hP
      replace B0 := step B0 hb
      clear hb
      have c_Xj := Xj.d0
      have f0_Xj := Xj.frozen 0
      have d_Xj := Xj.d1
      have f1_Xj := Xj.frozen 1
      have e_Xj := Xj.d2
      have f2_Xj := Xj.frozen 2
      have l_Xj := Xj.lt
      have m_Xj := Nat.le_of_lt l_Xj
      go_wp2_with fail
      refine ent1 x52 _ _ (Q := fun W => Calls Tryz.prog _ _ W _) ?_
      intro x53 hb hs_x53 Xq
      replace Xi := Va.after hb Xi
      replace Xj := Va.after hb Xj
      replace XP := Va.after hb XP
      replace hi := Rt.after hb hi
      replace hj := Rt.after hb hj
      replace hP := Rt.after hb hP
      replace hq := Rt.after hb hq
      replace B0 := step B0 hb
      clear hb hs_x53
      refine (qsign_any sj aj lj cj zj bj mj dj yj v1 x53 hj).mono ?_
      rintro e x54 ⟨rfl, hb⟩
      replace Xi := Va.after hb Xi
      replace Xj := Va.after hb Xj
      replace XP := Va.after hb XP
      replace Xq := Va.after hb Xq
      replace hi := Rt.after hb hi
      replace hj := Rt.after hb hj
      replace hP := Rt.after hb hP
      replace hq := Rt.after hb hq
      replace B0 := step B0 hb
      clear hb
      have sgn := qsign_ne (fun h => y0 (Rat.num_eq_zero.1 h))
      obtain ⟨sg, hsg⟩ : ∃ sg, Int.sign v1.num = sg := ⟨_, rfl⟩
      rw [hsg] at sgn ⊢
      clear hsg
      clear c_Xj f0_Xj d_Xj f1_Xj e_Xj f2_Xj l_Xj m_Xj
      have c_Xq := Xq.d0
      have f0_Xq := Xq.frozen 0
      have d_Xq := Xq.d1
      have f1_Xq := Xq.frozen 1
      have e_Xq := Xq.d2
      have f2_Xq := Xq.frozen 2
      have l_Xq := Xq.lt
      have m_Xq := Nat.le_of_lt l_Xq
      have c_Xi := Xi.d0
      have f0_Xi := Xi.frozen 0
      have d_Xi := Xi.d1
      have f1_Xi := Xi.frozen 1
      have e_Xi := Xi.d2
      have f2_Xi := Xi.frozen 2
      have l_Xi := Xi.lt
      have m_Xi := Nat.le_of_lt l_Xi
      go_wp2_with fail
      refine (alike5 sq aq lq cq zq bq mq dq yq si ai li ci zi bi mi di yi v0 x54 hq hi).mono ?_
      rintro e x55 ⟨rfl, hb⟩
      replace Xi := Va.after hb Xi
      replace Xj := Va.after hb Xj
      replace XP := Va.after hb XP
      replace Xq := Va.after hb Xq
      replace hi := Rt.after hb hi
      replace hj := Rt.after hb hj
      replace hP := Rt.after hb hP
      replace hq := Rt.after hb hq
      replace B0 := step B0 hb
      clear hb
      clear c_Xq f0_Xq d_Xq f1_Xq e_Xq f2_Xq l_Xq m_Xq c_Xi f0_Xi d_Xi f1_Xi e_Xi f2_Xi l_Xi m_Xi
      go_wp2_with fail
      go_ret
      exact ⟨rfl, B0⟩
end Go.Proofs.YtadfccbjadopgaaGreat
