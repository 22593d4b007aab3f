/-
  The walk of RatOrder: each call by its contract.
-/
import Derived.Test.YtadfccbjadopgaaGreatRt9
import Derived.Test.YtadfccbjadopgaaGreatRt11
import Derived.Test.YtadfccbjadopgaaGreatRt12
namespace Go.Proofs.YtadfccbjadopgaaGreat
open Go.RowKit Go.Shelf
set_option linter.unusedVariables false

theorem rnum_pos {q : Rat} : 0 < q ↔ 0 < q.num := by
  rw [Rat.lt_iff]
  simp
theorem rat_tri (x y : Rat) : x < y ∨ x = y ∨ y < x := by
  rcases Rat.le_total (a := x) (b := y) with h | h
  · rcases Rat.le_iff_lt_or_eq.1 h with h | h
    · exact Or.inl h
    · exact Or.inr (Or.inl h)
  · rcases Rat.le_iff_lt_or_eq.1 h with h | h
    · exact Or.inr (Or.inr h)
    · exact Or.inr (Or.inl h.symm)
theorem qsign_sub (x y : Rat) : Int.sign (x - y).num = qcmp x y := by
  rcases rat_tri x y with h | h | h
  · rw [qcmp_lt h]
    have h1 := rnum_pos.1 ((Rat.lt_iff_sub_pos x y).1 h)
    rw [← Rat.neg_sub, Rat.neg_num]
    exact Int.sign_eq_neg_one_of_neg (by omega)
  · subst h; rw [qcmp_eq, Rat.sub_self]; rfl
  · rw [qcmp_gt h]
    exact Int.sign_eq_one_of_pos (rnum_pos.1 ((Rat.lt_iff_sub_pos y x).1 h))
theorem qcmp_swap (x y : Rat) : qcmp y x = - qcmp x y := by
  rcases rat_tri x y with h | h | h
  · rw [qcmp_lt h, qcmp_gt h]; rfl
  · subst h; rw [qcmp_eq]; rfl
  · rw [qcmp_gt h, qcmp_lt h]
theorem qcmp_add (x y z : Rat) : qcmp (x + z) (y + z) = qcmp x y := by
  rcases rat_tri x y with h | h | h
  · rw [qcmp_lt h, qcmp_lt (Rat.add_lt_add_right.2 h)]
  · subst h; rw [qcmp_eq, qcmp_eq]
  · rw [qcmp_gt h, qcmp_gt (Rat.add_lt_add_right.2 h)]
theorem qcmp_range (x y : Rat) : -1 ≤ qcmp x y ∧ qcmp x y ≤ 1 := by
  rcases rat_tri x y with h | h | h
  · rw [qcmp_lt h]; omega
  · subst h; rw [qcmp_eq]; omega
  · rw [qcmp_gt h]; omega
theorem sign_range (x : Int) : -1 ≤ Int.sign x ∧ Int.sign x ≤ 1 := by
  rcases Int.lt_trichotomy x 0 with h | h | h
  · rw [Int.sign_eq_neg_one_of_neg h]; omega
  · rw [h, Int.sign_zero]; omega
  · rw [Int.sign_eq_one_of_pos h]; omega
/-- What comes out, and that nothing is too long. -/
structure OrderV (v0 v1 v2 vD vP vQ vM vN : Rat) (k g : Int) : Prop where
  d : v0 - v1 = vD
  p : v0 + v2 = vP
  q : v1 + v2 = vQ
  m : Rat.divInt (-1) 1 = vM
  n : v0 * vM = vN
  vn : vN = -v0
  sd : Int.sign vD.num = k
  c1 : qcmp v0 v1 = k
  c2 : qcmp v1 v0 = -k
  c3 : qcmp vP vQ = k
  g1 : Int.sign v0.num = g
  g2 : Int.sign (-v0).num = -g
  kk : -1 ≤ k ∧ k ≤ 1
  gg : -1 ≤ g ∧ g ≤ 1
  vD : Short vD
  vP : Short vP
  vQ : Short vQ
  vM : Short vM
  vN : Short vN
theorem order_v {v0 v1 v2 : Rat} (h0 : Sz 100 v0) (h1 : Sz 100 v1) (h2 : Sz 100 v2) : OrderV v0 v1 v2 (v0 - v1) (v0 + v2) (v1 + v2) (Rat.divInt (-1) 1) (v0 * Rat.divInt (-1) 1) (qcmp v0 v1) (Int.sign v0.num) where
  d := rfl
  p := rfl
  q := rfl
  m := rfl
  n := rfl
  vn := by
    have : Rat.divInt (-1) 1 = -1 := by decide +kernel
    rw [this, Rat.mul_neg, Rat.mul_one]
  sd := qsign_sub v0 v1
  c1 := rfl
  c2 := qcmp_swap v0 v1
  c3 := qcmp_add v0 v1 v2
  g1 := rfl
  g2 := by rw [Rat.neg_num, Int.sign_neg]
  kk := qcmp_range v0 v1
  gg := sign_range _
  vD := (h0.sub h1).short (by omega)
  vP := (h0.add h2).short (by omega)
  vQ := (h1.add h2).short (by omega)
  vM := short_tiny (-1) 1 (by decide) (by omega) (by omega) _ rfl
  vN := by
    have : Rat.divInt (-1) 1 = -1 := by decide +kernel
    rw [this, Rat.mul_neg, Rat.mul_one]
    exact h0.neg.short (by omega)

set_option maxHeartbeats 32000000 in
set_option maxRecDepth 20000 in
theorem order5_walk (s0 : Bool) (a0 : Option Addr) (l0 c0 : Nat) (z0 : List Int) (b0 : Option Addr) (m0 d0 : Nat) (y0 : List Int) (s1 : Bool) (a1 : Option Addr) (l1 c1 : Nat) (z1 : List Int) (b1 : Option Addr) (m1 d1 : Nat) (y1 : List Int) (s2 : Bool) (a2 : Option Addr) (l2 c2 : Nat) (z2 : List Int) (b2 : Option Addr) (m2 d2 : Nat) (y2 : List Int) (w : World) (h0 : Ri w a0 l0 c0 z0 b0 m0 d0 y0) (n0 : a0 = none → l0 = 0 ∧ c0 = 0) (o0 : b0 = none → m0 = 0 ∧ d0 = 0) (h1 : Ri w a1 l1 c1 z1 b1 m1 d1 y1) (n1 : a1 = none → l1 = 0 ∧ c1 = 0) (o1 : b1 = none → m1 = 0 ∧ d1 = 0) (h2 : Ri w a2 l2 c2 z2 b2 m2 d2 y2) (n2 : a2 = none → l2 = 0 ∧ c2 = 0) (o2 : b2 = none → m2 = 0 ∧ d2 = 0) :
    Calls Tryz.prog 7 #[.agg #[.bool s0, .slice a0 l0 c0, .slice b0 m0 d0], .agg #[.bool s1, .slice a1 l1 c1, .slice b1 m1 d1], .agg #[.bool s2, .slice a2 l2 c2, .slice b2 m2 d2]] w fun e w' => e = .returned (.bool true) ∧ Below w.heap.size w w' := by
  have B0 : Below w.heap.size w w := Below.refl _ _
  go_enter Tryz.func7, Tryz.ntmps7
  go_wp2_with fail
  refine ent3 w _ _ _ _ _ _ (Q := fun W => Calls Tryz.prog _ _ W _) ?_
  intro x1 hb hs_x1 V0 V1 V2
  replace h0 := Ri.after hb h0
  replace h1 := Ri.after hb h1
  replace h2 := Ri.after hb h2
  replace B0 := step B0 hb
  clear hb hs_x1
  refine (awake5 x1).mono ?_
  rintro e x2 ⟨rfl, hb⟩
  replace V0 := Va.after hb V0
  replace V1 := Va.after hb V1
  replace V2 := Va.after hb V2
  replace h0 := Ri.after hb h0
  replace h1 := Ri.after hb h1
  replace h2 := Ri.after hb h2
  replace B0 := step B0 hb
  clear hb
  have c_V0 := V0.d0
  have f0_V0 := V0.frozen 0
  have d_V0 := V0.d1
  have f1_V0 := V0.frozen 1
  have e_V0 := V0.d2
  have f2_V0 := V0.frozen 2
  have l_V0 := V0.lt
  have m_V0 := Nat.le_of_lt l_V0
  have c_V1 := V1.d0
  have f0_V1 := V1.frozen 0
  have d_V1 := V1.d1
  have f1_V1 := V1.frozen 1
  have e_V1 := V1.d2
  have f2_V1 := V1.frozen 2
  have l_V1 := V1.lt
  have m_V1 := Nat.le_of_lt l_V1
  have c_V2 := V2.d0
  have f0_V2 := V2.frozen 0
  have d_V2 := V2.d1
  have f1_V2 := V2.frozen 1
  have e_V2 := V2.d2
  have f2_V2 := V2.frozen 2
  have l_V2 := V2.lt
  have m_V2 := Nat.le_of_lt l_V2
  go_wp2_with fail
  refine ent1 x2 _ _ (Q := fun W => Calls Tryz.prog _ _ W _) ?_
  intro x3 hb hs_x3 Vt
  replace V0 := Va.after hb V0
  replace V1 := Va.after hb V1
  replace V2 := Va.after hb V2
  replace h0 := Ri.after hb h0
  replace h1 := Ri.after hb h1
  replace h2 := Ri.after hb h2
  replace B0 := step B0 hb
  clear hb hs_x3
  refine (tiny5 _ 3 _ _ (fun i => if i = 0 then (⟨s0, a0, l0, c0, z0, b0, m0, d0, y0⟩ : R1) else if i = 1 then (⟨s1, a1, l1, c1, z1, b1, m1, d1, y1⟩ : R1) else (⟨s2, a2, l2, c2, z2, b2, m2, d2, y2⟩ : R1)) x3 Vt ?_ ?_ (by omega)).mono ?_
  · intro i hi
    match i, hi with
    | 0, _ => exact ⟨rfl, rfl, rfl⟩
    | 1, _ => exact ⟨rfl, rfl, rfl⟩
    | 2, _ => exact ⟨rfl, rfl, rfl⟩
  · intro i hi
    match i, hi with
    | 0, _ => exact h0
    | 1, _ => exact h1
    | 2, _ => exact h2
  rintro e x4 ⟨t, rfl, ht, hb⟩
  replace V0 := Va.after hb V0
  replace V1 := Va.after hb V1
  replace V2 := Va.after hb V2
  replace Vt := Va.after hb Vt
  replace h0 := Ri.after hb h0
  replace h1 := Ri.after hb h1
  replace h2 := Ri.after hb h2
  replace B0 := step B0 hb
  clear hb
  clear Vt
  cases t
  ·
    clear c_V0 f0_V0 d_V0 f1_V0 e_V0 f2_V0 l_V0 m_V0 c_V1 f0_V1 d_V1 f1_V1 e_V1 f2_V1 l_V1 m_V1 c_V2 f0_V2 d_V2 f1_V2 e_V2 f2_V2 l_V2 m_V2
    go_wp2_with fail
    go_ret
    exact ⟨rfl, B0⟩
  ·
    have ok0 := ht.out rfl 0 (by omega)
    have HN0 : Hid (l0 ≤ 100 ∧ m0 ≤ 100 ∧ Norm s0 z0 y0) := ok0
    clear ok0
    have ok1 := ht.out rfl 1 (by omega)
    have HN1 : Hid (l1 ≤ 100 ∧ m1 ≤ 100 ∧ Norm s1 z1 y1) := ok1
    clear ok1
    have ok2 := ht.out rfl 2 (by omega)
    have HN2 : Hid (l2 ≤ 100 ∧ m2 ≤ 100 ∧ Norm s2 z2 y2) := ok2
    clear ok2
    obtain ⟨v0, hv0, hd0, hs0⟩ := norm_rat h0.1.2.1 h0.2.1.2.1 HN0.out.2.2
    have HV0 : Hid (iv s0 z0 = v0.num ∧ num y0 = v0.den ∧ (s0 = true → num z0 ≠ 0)) := ⟨hv0, hd0, hs0⟩
    have HZ0 : Hid (Sz 100 v0) := sz_of h0.1 h0.2.1 HN0.out.1 HN0.out.2.1 hv0 hd0
    clear hv0 hd0 hs0
    obtain ⟨v1, hv1, hd1, hs1⟩ := norm_rat h1.1.2.1 h1.2.1.2.1 HN1.out.2.2
    have HV1 : Hid (iv s1 z1 = v1.num ∧ num y1 = v1.den ∧ (s1 = true → num z1 ≠ 0)) := ⟨hv1, hd1, hs1⟩
    have HZ1 : Hid (Sz 100 v1) := sz_of h1.1 h1.2.1 HN1.out.1 HN1.out.2.1 hv1 hd1
    clear hv1 hd1 hs1
    obtain ⟨v2, hv2, hd2, hs2⟩ := norm_rat h2.1.2.1 h2.2.1.2.1 HN2.out.2.2
    have HV2 : Hid (iv s2 z2 = v2.num ∧ num y2 = v2.den ∧ (s2 = true → num z2 ≠ 0)) := ⟨hv2, hd2, hs2⟩
    have HZ2 : Hid (Sz 100 v2) := sz_of h2.1 h2.2.1 HN2.out.1 HN2.out.2.1 hv2 hd2
    clear hv2 hd2 hs2
    clear ht
    obtain ⟨vD, vP, vQ, vM, vN, kk, gg, HS0⟩ : ∃ vD vP vQ vM vN kk gg, OrderV v0 v1 v2 vD vP vQ vM vN kk gg := ⟨_, _, _, _, _, _, _, order_v HZ0.out HZ1.out HZ2.out⟩
    have HS : Hid (OrderV v0 v1 v2 vD vP vQ vM vN kk gg) := HS0
    clear HS0 HZ0 HZ1 HZ2
    clear c_V0 f0_V0 d_V0 f1_V0 e_V0 f2_V0 l_V0 m_V0 c_V1 f0_V1 d_V1 f1_V1 e_V1 f2_V1 l_V1 m_V1 c_V2 f0_V2 d_V2 f1_V2 e_V2 f2_V2 l_V2 m_V2
    have c_V0 := V0.d0
    have f0_V0 := V0.frozen 0
    have d_V0 := V0.d1
    have f1_V0 := V0.frozen 1
    have e_V0 := V0.d2
    have f2_V0 := V0.frozen 2
    have l_V0 := V0.lt
    have m_V0 := Nat.le_of_lt l_V0
    go_wp2_with fail
    refine (of5 s0 a0 l0 c0 z0 b0 m0 d0 y0 v0 x4 h0 n0 o0 (by have := HN0.out.1; omega) (by have := HN0.out.2.1; omega) HN0.out.2.2 HV0.out.1 HV0.out.2.1 HV0.out.2.2).mono ?_
    rintro e x5 ⟨si, ai, li, ci, zi, bi, mi, di, yi, rfl, hi, hb⟩
    replace V0 := Va.after hb V0
    replace V1 := Va.after hb V1
    replace V2 := Va.after hb V2
    replace h0 := Ri.after hb h0
    replace h1 := Ri.after hb h1
    replace h2 := Ri.after hb h2
    replace B0 := step B0 hb
    clear hb
    clear c_V0 f0_V0 d_V0 f1_V0 e_V0 f2_V0 l_V0 m_V0
    have c_V1 := V1.d0
    have f0_V1 := V1.frozen 0
    have d_V1 := V1.d1
    have f1_V1 := V1.frozen 1
    have e_V1 := V1.d2
    have f2_V1 := V1.frozen 2
    have l_V1 := V1.lt
    have m_V1 := Nat.le_of_lt l_V1
    go_wp2_with fail
    refine ent1 x5 _ _ (Q := fun W => Calls Tryz.prog _ _ W _) ?_
    intro x6 hb hs_x6 Xi
    replace V0 := Va.after hb V0
    replace V1 := Va.after hb V1
    replace V2 := Va.after hb V2
    replace h0 := Ri.after hb h0
    replace h1 := Ri.after hb h1
    replace h2 := Ri.after hb h2
    replace hi := Rt.after hb hi
    replace B0 := step B0 hb
    clear hb hs_x6
    refine (of5 s1 a1 l1 c1 z1 b1 m1 d1 y1 v1 x6 h1 n1 o1 (by have := HN1.out.1; omega) (by have := HN1.out.2.1; omega) HN1.out.2.2 HV1.out.1 HV1.out.2.1 HV1.out.2.2).mono ?_
    rintro e x7 ⟨sj, aj, lj, cj, zj, bj, mj, dj, yj, rfl, hj, hb⟩
    replace V0 := Va.after hb V0
    replace V1 := Va.after hb V1
    replace V2 := Va.after hb V2
    replace Xi := Va.after hb Xi
    replace h0 := Ri.after hb h0
    replace h1 := Ri.after hb h1
    replace h2 := Ri.after hb h2
    replace hi := Rt.after hb hi
    replace B0 := step B0 hb
    clear hb
    clear c_V1 f0_V1 d_V1 f1_V1 e_V1 f2_V1 l_V1 m_V1
    have c_V2 := V2.d0
    have f0_V2 := V2.frozen 0
    have d_V2 := V2.d1
    have f1_V2 := V2.frozen 1
    have e_V2 := V2.d2
    have f2_V2 := V2.frozen 2
    have l_V2 := V2.lt
    have m_V2 := Nat.le_of_lt l_V2
    go_wp2_with fail
    refine ent1 x7 _ _ (Q := fun W => Calls Tryz.prog _ _ W _) ?_
    intro x8 hb hs_x8 Xj
    replace V0 := Va.after hb V0
    replace V1 := Va.after hb V1
    replace V2 := Va.after hb V2
    replace Xi := Va.after hb Xi
    replace h0 := Ri.after hb h0
    replace h1 := Ri.after hb h1
    replace h2 := Ri.after hb h2
    replace hi := Rt.after hb hi
    replace hj := Rt.after hb hj
    replace B0 := step B0 hb
    clear hb hs_x8
    refine (of5 s2 a2 l2 c2 z2 b2 m2 d2 y2 v2 x8 h2 n2 o2 (by have := HN2.out.1; omega) (by have := HN2.out.2.1; omega) HN2.out.2.2 HV2.out.1 HV2.out.2.1 HV2.out.2.2).mono ?_
    rintro e x9 ⟨sk, ak, lk, ck, zk, bk, mk, dk, yk, rfl, hk, hb⟩
    replace V0 := Va.after hb V0
    replace V1 := Va.after hb V1
    replace V2 := Va.after hb V2
    replace Xi := Va.after hb Xi
    replace Xj := Va.after hb Xj
    replace h0 := Ri.after hb h0
    replace h1 := Ri.after hb h1
    replace h2 := Ri.after hb h2
    replace hi := Rt.after hb hi
    replace hj := Rt.after hb hj
    replace B0 := step B0 hb
    clear hb
    clear c_V2 f0_V2 d_V2 f1_V2 e_V2 f2_V2 l_V2 m_V2
    have c_Xi := Xi.d0
    have f0_Xi := Xi.frozen 0
    have d_Xi := Xi.d1
    have f1_Xi := Xi.frozen 1
    have e_Xi := Xi.d2
    have f2_Xi := Xi.frozen 2
    have l_Xi := Xi.lt
    have m_Xi := Nat.le_of_lt l_Xi
    have c_Xj := Xj.d0
    have f0_Xj := Xj.frozen 0
    have d_Xj := Xj.d1
    have f1_Xj := Xj.frozen 1
    have e_Xj := Xj.d2
    have f2_Xj := Xj.frozen 2
    have l_Xj := Xj.lt
    have m_Xj := Nat.le_of_lt l_Xj
    go_wp2_with fail
    refine ent1 x9 _ _ (Q := fun W => Calls Tryz.prog _ _ W _) ?_
    intro x10 hb hs_x10 Xk
    replace V0 := Va.after hb V0
    replace V1 := Va.after hb V1
    replace V2 := Va.after hb V2
    replace Xi := Va.after hb Xi
    replace Xj := Va.after hb Xj
    replace h0 := Ri.after hb h0
    replace h1 := Ri.after hb h1
    replace h2 := Ri.after hb h2
    replace hi := Rt.after hb hi
    replace hj := Rt.after hb hj
    replace hk := Rt.after hb hk
    replace B0 := step B0 hb
    clear hb hs_x10
    clear c_Xi f0_Xi d_Xi f1_Xi e_Xi f2_Xi l_Xi m_Xi c_Xj f0_Xj d_Xj f1_Xj e_Xj f2_Xj l_Xj m_Xj
    clear V0 V1 V2 h0 h1 h2
    refine (qsub_to si ai li ci zi bi mi di yi v0 sj aj lj cj zj bj mj dj yj v1 vD x10 hi hj HS.out.d HS.out.vD).mono ?_
    rintro e x11 ⟨sD, aD, lD, cD, zD, bD, mD, dD, yD, rfl, hD, hb⟩
    replace Xi := Va.after hb Xi
    replace Xj := Va.after hb Xj
    replace Xk := Va.after hb Xk
    replace hi := Rt.after hb hi
    replace hj := Rt.after hb hj
    replace hk := Rt.after hb hk
    replace B0 := step B0 hb
    clear hb
    have c_Xi := Xi.d0
    have f0_Xi := Xi.frozen 0
    have d_Xi := Xi.d1
    have f1_Xi := Xi.frozen 1
    have e_Xi := Xi.d2
    have f2_Xi := Xi.frozen 2
    have l_Xi := Xi.lt
    have m_Xi := Nat.le_of_lt l_Xi
    have c_Xk := Xk.d0
    have f0_Xk := Xk.frozen 0
    have d_Xk := Xk.d1
    have f1_Xk := Xk.frozen 1
    have e_Xk := Xk.d2
    have f2_Xk := Xk.frozen 2
    have l_Xk := Xk.lt
    have m_Xk := Nat.le_of_lt l_Xk
    go_wp2_with fail
    refine ent1 x11 _ _ (Q := fun W => Calls Tryz.prog _ _ W _) ?_
    intro x12 hb hs_x12 XD
    replace Xi := Va.after hb Xi
    replace Xj := Va.after hb Xj
    replace Xk := Va.after hb Xk
    replace hi := Rt.after hb hi
    replace hj := Rt.after hb hj
    replace hk := Rt.after hb hk
    replace hD := Rt.after hb hD
    replace B0 := step B0 hb
    clear hb hs_x12
    refine (qadd_to si ai li ci zi bi mi di yi v0 sk ak lk ck zk bk mk dk yk v2 vP x12 hi hk HS.out.p HS.out.vP).mono ?_
    rintro e x13 ⟨sP, aP, lP, cP, zP, bP, mP, dP, yP, rfl, hP, hb⟩
    replace Xi := Va.after hb Xi
    replace Xj := Va.after hb Xj
    replace Xk := Va.after hb Xk
    replace XD := Va.after hb XD
    replace hi := Rt.after hb hi
    replace hj := Rt.after hb hj
    replace hk := Rt.after hb hk
    replace hD := Rt.after hb hD
    replace B0 := step B0 hb
    clear hb
    clear c_Xi f0_Xi d_Xi f1_Xi e_Xi f2_Xi l_Xi m_Xi c_Xk f0_Xk d_Xk f1_Xk e_Xk f2_Xk l_Xk m_Xk
    have c_Xj := Xj.d0
    have f0_Xj := Xj.frozen 0
    have d_Xj := Xj.d1
    have f1_Xj := Xj.frozen 1
    have e_Xj := Xj.d2
    have f2_Xj := Xj.frozen 2
    have l_Xj := Xj.lt
    have m_Xj := Nat.le_of_lt l_Xj
    have c_Xk := Xk.d0
    have f0_Xk := Xk.frozen 0
    have d_Xk := Xk.d1
    have f1_Xk := Xk.frozen 1
    have e_Xk := Xk.d2
    have f2_Xk := Xk.frozen 2
    have l_Xk := Xk.lt
    have m_Xk := Nat.le_of_lt l_Xk
    go_wp2_with fail
    refine ent1 x13 _ _ (Q := fun W => Calls Tryz.prog _ _ W _) ?_
    intro x14 hb hs_x14 XP
    replace Xi := Va.after hb Xi
    replace Xj := Va.after hb Xj
    replace Xk := Va.after hb Xk
    replace XD := Va.after hb XD
    replace hi := Rt.after hb hi
    replace hj := Rt.after hb hj
    replace hk := Rt.after hb hk
    replace hD := Rt.after hb hD
    replace hP := Rt.after hb hP
    replace B0 := step B0 hb
    clear hb hs_x14
    refine (qadd_to sj aj lj cj zj bj mj dj yj v1 sk ak lk ck zk bk mk dk yk v2 vQ x14 hj hk HS.out.q HS.out.vQ).mono ?_
    rintro e x15 ⟨sQ, aQ, lQ, cQ, zQ, bQ, mQ, dQ, yQ, rfl, hQ, hb⟩
    replace Xi := Va.after hb Xi
    replace Xj := Va.after hb Xj
    replace Xk := Va.after hb Xk
    replace XD := Va.after hb XD
    replace XP := Va.after hb XP
    replace hi := Rt.after hb hi
    replace hj := Rt.after hb hj
    replace hk := Rt.after hb hk
    replace hD := Rt.after hb hD
    replace hP := Rt.after hb hP
    replace B0 := step B0 hb
    clear hb
    clear c_Xj f0_Xj d_Xj f1_Xj e_Xj f2_Xj l_Xj m_Xj c_Xk f0_Xk d_Xk f1_Xk e_Xk f2_Xk l_Xk m_Xk
    go_wp2_with fail
    refine ent1 x15 _ _ (Q := fun W => Calls Tryz.prog _ _ W _) ?_
    intro x16 hb hs_x16 XQ
    replace Xi := Va.after hb Xi
    replace Xj := Va.after hb Xj
    replace Xk := Va.after hb Xk
    replace XD := Va.after hb XD
    replace XP := Va.after hb XP
    replace hi := Rt.after hb hi
    replace hj := Rt.after hb hj
    replace hk := Rt.after hb hk
    replace hD := Rt.after hb hD
    replace hP := Rt.after hb hP
    replace hQ := Rt.after hb hQ
    replace B0 := step B0 hb
    clear hb hs_x16
    refine (qsmall_to (-1) 1 (by omega) (by omega) (by omega) (by omega) (by omega) vM x16 HS.out.m HS.out.vM).mono ?_
    rintro e x17 ⟨sM, aM, lM, cM, zM, bM, mM, dM, yM, rfl, hM, hb⟩
    replace Xi := Va.after hb Xi
    replace Xj := Va.after hb Xj
    replace Xk := Va.after hb Xk
    replace XD := Va.after hb XD
    replace XP := Va.after hb XP
    replace XQ := Va.after hb XQ
    replace hi := Rt.after hb hi
    replace hj := Rt.after hb hj
    replace hk := Rt.after hb hk
    replace hD := Rt.after hb hD
    replace hP := Rt.after hb hP
    replace hQ := Rt.after hb hQ
    replace B0 := step B0 hb
    clear hb
    have c_Xi := Xi.d0
    have f0_Xi := Xi.frozen 0
    have d_Xi := Xi.d1
    have f1_Xi := Xi.frozen 1
    have e_Xi := Xi.d2
    have f2_Xi := Xi.frozen 2
    have l_Xi := Xi.lt
    have m_Xi := Nat.le_of_lt l_Xi
    go_wp2_with fail
    refine ent1 x17 _ _ (Q := fun W => Calls Tryz.prog _ _ W _) ?_
    intro x18 hb hs_x18 XM
    replace Xi := Va.after hb Xi
    replace Xj := Va.after hb Xj
    replace Xk := Va.after hb Xk
    replace XD := Va.after hb XD
    replace XP := Va.after hb XP
    replace XQ := Va.after hb XQ
    replace hi := Rt.after hb hi
    replace hj := Rt.after hb hj
    replace hk := Rt.after hb hk
    replace hD := Rt.after hb hD
    replace hP := Rt.after hb hP
    replace hQ := Rt.after hb hQ
    replace hM := Rt.after hb hM
    replace B0 := step B0 hb
    clear hb hs_x18
    refine (qmul_to si ai li ci zi bi mi di yi v0 sM aM lM cM zM bM mM dM yM vM vN x18 hi hM HS.out.n HS.out.vN).mono ?_
    rintro e x19 ⟨sN, aN, lN, cN, zN, bN, mN, dN, yN, rfl, hN, hb⟩
    replace Xi := Va.after hb Xi
    replace Xj := Va.after hb Xj
    replace Xk := Va.after hb Xk
    replace XD := Va.after hb XD
    replace XP := Va.after hb XP
    replace XQ := Va.after hb XQ
    replace XM := Va.after hb XM
    replace hi := Rt.after hb hi
    replace hj := Rt.after hb hj
    replace hk := Rt.after hb hk
    replace hD := Rt.after hb hD
    replace hP := Rt.after hb hP
    replace hQ := Rt.after hb hQ
    replace hM := Rt.after hb hM
    replace B0 := step B0 hb
    clear hb
    clear c_Xi f0_Xi d_Xi f1_Xi e_Xi f2_Xi l_Xi m_Xi
    have c_Xi := Xi.d0
    have f0_Xi := Xi.frozen 0
    have d_Xi := Xi.d1
    have f1_Xi := Xi.frozen 1
    have e_Xi := Xi.d2
    have f2_Xi := Xi.frozen 2
    have l_Xi := Xi.lt
    have m_Xi := Nat.le_of_lt l_Xi
    have c_Xj := Xj.d0
    have f0_Xj := Xj.frozen 0
    have d_Xj := Xj.d1
    have f1_Xj := Xj.frozen 1
    have e_Xj := Xj.d2
    have f2_Xj := Xj.frozen 2
    have l_Xj := Xj.lt
    have m_Xj := Nat.le_of_lt l_Xj
    go_wp2_with fail
    refine ent1 x19 _ _ (Q := fun W => Calls Tryz.prog _ _ W _) ?_
    intro x20 hb hs_x20 XN
    replace Xi := Va.after hb Xi
    replace Xj := Va.after hb Xj
    replace Xk := Va.after hb Xk
    replace XD := Va.after hb XD
    replace XP := Va.after hb XP
    replace XQ := Va.after hb XQ
    replace XM := Va.after hb XM
    replace hi := Rt.after hb hi
    replace hj := Rt.after hb hj
    replace hk := Rt.after hb hk
    replace hD := Rt.after hb hD
    replace hP := Rt.after hb hP
    replace hQ := Rt.after hb hQ
    replace hM := Rt.after hb hM
    replace hN := Rt.after hb hN
    replace B0 := step B0 hb
    clear hb hs_x20
    refine (qcompare_any si ai li ci zi bi mi di yi v0 sj aj lj cj zj bj mj dj yj v1 x20 hi hj).mono ?_
    rintro e x21 ⟨rfl, hb⟩
    replace Xi := Va.after hb Xi
    replace Xj := Va.after hb Xj
    replace Xk := Va.after hb Xk
    replace XD := Va.after hb XD
    replace XP := Va.after hb XP
    replace XQ := Va.after hb XQ
    replace XM := Va.after hb XM
    replace XN := Va.after hb XN
    replace hi := Rt.after hb hi
    replace hj := Rt.after hb hj
    replace hk := Rt.after hb hk
    replace hD := Rt.after hb hD
    replace hP := Rt.after hb hP
    replace hQ := Rt.after hb hQ
    replace hM := Rt.after hb hM
    replace hN := Rt.after hb hN
    replace B0 := step B0 hb
    clear hb
    rw [HS.out.c1]
    clear c_Xi f0_Xi d_Xi f1_Xi e_Xi f2_Xi l_Xi m_Xi c_Xj f0_Xj d_Xj f1_Xj e_Xj f2_Xj l_Xj m_Xj
    go_wp2_with fail
    clear XM hM Xk hk
    have hkk := HS.out.kk
    have hgg := HS.out.gg
    have wk : IntKind.i64.wrap (-kk) = -kk := by rw [IntKind.wrap_i64]; omega
    have wg : IntKind.i64.wrap (-gg) = -gg := by rw [IntKind.wrap_i64]; omega
    have ek : (kk == kk) = true := by simp
    have en : (-kk == -kk) = true := by simp
    have eg : (-gg == -gg) = true := by simp
    clear hkk hgg
    refine wp_region_noPanic ?_
    replace Xi : Va x21.drew _ _ _ := Xi
    replace Xj : Va x21.drew _ _ _ := Xj
    replace XD : Va x21.drew _ _ _ := XD
    replace XP : Va x21.drew _ _ _ := XP
    replace XQ : Va x21.drew _ _ _ := XQ
    replace XN : Va x21.drew _ _ _ := XN
    replace hi := hi.drw
    replace hj := hj.drw
    replace hD := hD.drw
    replace hP := hP.drw
    replace hQ := hQ.drw
    replace hN := hN.drw
    replace B0 := Below.drew B0
    refine wp_region_held_drew (S := (fun W => W.cell? ⟨x5.heap.size, 0, none⟩ = some (.bool si) ∧ W.cell? ⟨x5.heap.size, 1, none⟩ = some (.slice ai li ci) ∧ W.cell? ⟨x5.heap.size, 2, none⟩ = some (.slice bi mi di) ∧ W.cell? ⟨x7.heap.size, 0, none⟩ = some (.bool sj) ∧ W.cell? ⟨x7.heap.size, 1, none⟩ = some (.slice aj lj cj) ∧ W.cell? ⟨x7.heap.size, 2, none⟩ = some (.slice bj mj dj) ∧ W.cell? ⟨x11.heap.size, 0, none⟩ = some (.bool sD) ∧ W.cell? ⟨x11.heap.size, 1, none⟩ = some (.slice aD lD cD) ∧ W.cell? ⟨x11.heap.size, 2, none⟩ = some (.slice bD mD dD) ∧ W.cell? ⟨x13.heap.size, 0, none⟩ = some (.bool sP) ∧ W.cell? ⟨x13.heap.size, 1, none⟩ = some (.slice aP lP cP) ∧ W.cell? ⟨x13.heap.size, 2, none⟩ = some (.slice bP mP dP) ∧ W.cell? ⟨x15.heap.size, 0, none⟩ = some (.bool sQ) ∧ W.cell? ⟨x15.heap.size, 1, none⟩ = some (.slice aQ lQ cQ) ∧ W.cell? ⟨x15.heap.size, 2, none⟩ = some (.slice bQ mQ dQ) ∧ W.cell? ⟨x19.heap.size, 0, none⟩ = some (.bool sN) ∧ W.cell? ⟨x19.heap.size, 1, none⟩ = some (.slice aN lN cN) ∧ W.cell? ⟨x19.heap.size, 2, none⟩ = some (.slice bN mN dN))) (by kernel_rfl) ⟨Xi.d0, Xi.d1, Xi.d2, Xj.d0, Xj.d1, Xj.d2, XD.d0, XD.d1, XD.d2, XP.d0, XP.d1, XP.d2, XQ.d0, XQ.d1, XQ.d2, XN.d0, XN.d1, XN.d2⟩ (fun hHeld => ?_)
    obtain ⟨x22, hxd⟩ : ∃ xd, xd = x21.drew := ⟨_, rfl⟩
    rw [← hxd] at Xi Xj XD XP XQ XN hi hj hD hP hQ hN B0 hHeld ⊢
    clear hxd
    refine wpAnyH_take (i := 0) (v := ?_) rfl (by kernel_rfl) (by kernel_rfl) (by kernel_rfl) (fun _ _ _ h => h) (Or.inl ⟨by rfl, ?_⟩) hHeld ?_
    rotate_left
    · (intro W hSw; (try dsimp only at hSw); go_simp; all_goals (with_reducible rfl))
    simp only [List.getElem_toArray, List.getElem_cons_zero, Act.put, List.setIfInBounds_toArray, List.set_cons_zero, List.set_cons_succ]
    refine wpAnyH_take (i := 1) (v := ?_) rfl (by kernel_rfl) (by kernel_rfl) (by kernel_rfl) (fun _ _ _ h => h) (Or.inl ⟨by rfl, ?_⟩) hHeld ?_
    rotate_left
    · (intro W hSw; (try dsimp only at hSw); go_simp; all_goals (with_reducible rfl))
    simp only [List.getElem_toArray, List.getElem_cons_zero, List.getElem_cons_succ, Act.put, List.setIfInBounds_toArray, List.set_cons_zero, List.set_cons_succ]
    refine wpAnyH_take (i := 2) (v := ?_) rfl (by kernel_rfl) (by kernel_rfl) (by kernel_rfl) (fun _ _ _ h => h) (Or.inl ⟨by rfl, ?_⟩) hHeld ?_
    rotate_left
    · (intro W hSw; (try dsimp only at hSw); go_simp; all_goals (with_reducible rfl))
    simp only [List.getElem_toArray, List.getElem_cons_zero, List.getElem_cons_succ, Act.put, List.setIfInBounds_toArray, List.set_cons_zero, List.set_cons_succ]
    refine wpAnyH_take (i := 3) (v := ?_) rfl (by kernel_rfl) (by kernel_rfl) (by kernel_rfl) (fun _ _ _ h => h) (Or.inl ⟨by rfl, ?_⟩) hHeld ?_
    rotate_left
    · (intro W hSw; (try dsimp only at hSw); go_simp; all_goals (with_reducible rfl))
    simp only [List.getElem_toArray, List.getElem_cons_zero, List.getElem_cons_succ, Act.put, List.setIfInBounds_toArray, List.set_cons_zero, List.set_cons_succ]
    refine wpAnyH_take (i := 4) (v := ?_) rfl (by kernel_rfl) (by kernel_rfl) (by kernel_rfl) (fun _ _ _ h => h) (Or.inl ⟨by rfl, ?_⟩) hHeld ?_
    rotate_left
    · (intro W hSw; (try dsimp only at hSw); go_simp; all_goals (with_reducible rfl))
    simp only [List.getElem_toArray, List.getElem_cons_zero, List.getElem_cons_succ, Act.put, List.setIfInBounds_toArray, List.set_cons_zero, List.set_cons_succ]
    refine wpAnyH_ready (rs := [5]) (by kernel_rfl) (by simp) ?_
    refine AllReadyH.cons rfl (fun K hK => ?_) AllReadyH.nil
    simp only [List.getElem_toArray, List.getElem_cons_zero, List.getElem_cons_succ]
    go_simp
    have lt_Vf_Xi := Xi.lt
    have lt_Vf_Xj := Xj.lt
    have lt_Vf_XD := XD.lt
    have lt_Vf_XP := XP.lt
    have lt_Vf_XQ := XQ.lt
    have lt_Vf_XN := XN.lt
    have sz_Vf := B0.size
    refine ent1 _ _ _ (Q := fun V => K _ V) ?_
    intro x23 hb hs_ Vf
    replace Xi := Va.after hb Xi
    replace Xj := Va.after hb Xj
    replace XD := Va.after hb XD
    replace XP := Va.after hb XP
    replace XQ := Va.after hb XQ
    replace XN := Va.after hb XN
    replace hi := Rt.after hb hi
    replace hj := Rt.after hb hj
    replace hD := Rt.after hb hD
    replace hP := Rt.after hb hP
    replace hQ := Rt.after hb hQ
    replace hN := Rt.after hb hN
    replace B0 := step B0 hb
    clear hb hs_
    refine hK.out _ _ ⟨Xi.d0, Xi.d1, Xi.d2, Xj.d0, Xj.d1, Xj.d2, XD.d0, XD.d1, XD.d2, XP.d0, XP.d1, XP.d2, XQ.d0, XQ.d1, XQ.d2, XN.d0, XN.d1, XN.d2⟩ (fun hHeld => ?_)
    clear hK K
    refine wpAnyH_ready (rs := [6]) (by kernel_rfl) (by simp) ?_
    refine AllReadyH.cons rfl (fun K hK => ?_) AllReadyH.nil
    simp only [List.getElem_toArray, List.getElem_cons_zero, List.getElem_cons_succ]
    go_simp
    refine (fine5 _ 5 _ _ _ Vf (fun i hi => match i, hi with | 0, _ => rfl | 1, _ => rfl | 2, _ => rfl | 3, _ => rfl | 4, _ => rfl) (by omega)).mono ?_
    rintro e x24 ⟨rfl, hb⟩
    replace Xi := Va.after hb Xi
    replace Xj := Va.after hb Xj
    replace XD := Va.after hb XD
    replace XP := Va.after hb XP
    replace XQ := Va.after hb XQ
    replace XN := Va.after hb XN
    replace Vf := Va.after hb Vf
    replace hi := Rt.after hb hi
    replace hj := Rt.after hb hj
    replace hD := Rt.after hb hD
    replace hP := Rt.after hb hP
    replace hQ := Rt.after hb hQ
    replace hN := Rt.after hb hN
    replace B0 := step B0 hb
    clear hb
    try go_wp2_with fail
    refine hK.out _ _ ⟨Xi.d0, Xi.d1, Xi.d2, Xj.d0, Xj.d1, Xj.d2, XD.d0, XD.d1, XD.d2, XP.d0, XP.d1, XP.d2, XQ.d0, XQ.d1, XQ.d2, XN.d0, XN.d1, XN.d2⟩ (fun hHeld => ?_)
    clear hK K
    refine wpAnyH_take (i := 7) (v := ?_) rfl (by kernel_rfl) (by kernel_rfl) (by kernel_rfl) (fun _ _ _ h => h) (Or.inl ⟨by rfl, ?_⟩) hHeld ?_
    rotate_left
    · (intro W hSw; (try dsimp only at hSw); go_simp; all_goals (with_reducible rfl))
    simp only [List.getElem_toArray, List.getElem_cons_zero, List.getElem_cons_succ, Act.put, List.setIfInBounds_toArray, List.set_cons_zero, List.set_cons_succ]
    refine wpAnyH_take (i := 8) (v := ?_) rfl (by kernel_rfl) (by kernel_rfl) (by kernel_rfl) (fun _ _ _ h => h) (Or.inl ⟨by rfl, ?_⟩) hHeld ?_
    rotate_left
    · (intro W hSw; (try dsimp only at hSw); go_simp; all_goals (with_reducible rfl))
    simp only [List.getElem_toArray, List.getElem_cons_zero, List.getElem_cons_succ, Act.put, List.setIfInBounds_toArray, List.set_cons_zero, List.set_cons_succ]
    refine wpAnyH_take (i := 9) (v := ?_) rfl (by kernel_rfl) (by kernel_rfl) (by kernel_rfl) (fun _ _ _ h => h) (Or.inl ⟨by rfl, ?_⟩) hHeld ?_
    rotate_left
    · (intro W hSw; (try dsimp only at hSw); go_simp; all_goals (with_reducible rfl))
    simp only [List.getElem_toArray, List.getElem_cons_zero, List.getElem_cons_succ, Act.put, List.setIfInBounds_toArray, List.set_cons_zero, List.set_cons_succ]
    refine wpAnyH_ready (rs := [10]) (by kernel_rfl) (by simp) ?_
    refine AllReadyH.cons rfl (fun K hK => ?_) AllReadyH.nil
    simp only [List.getElem_toArray, List.getElem_cons_zero, List.getElem_cons_succ]
    go_simp
    refine (qsign_any sD aD lD cD zD bD mD dD yD vD _ hD).mono ?_
    rintro e x25 ⟨rfl, hb⟩
    replace Xi := Va.after hb Xi
    replace Xj := Va.after hb Xj
    replace XD := Va.after hb XD
    replace XP := Va.after hb XP
    replace XQ := Va.after hb XQ
    replace XN := Va.after hb XN
    replace Vf := Va.after hb Vf
    replace hi := Rt.after hb hi
    replace hj := Rt.after hb hj
    replace hD := Rt.after hb hD
    replace hP := Rt.after hb hP
    replace hQ := Rt.after hb hQ
    replace hN := Rt.after hb hN
    replace B0 := step B0 hb
    clear hb
    rw [HS.out.sd]
    try go_wp2_with fail
    refine hK.out _ _ ⟨Xi.d0, Xi.d1, Xi.d2, Xj.d0, Xj.d1, Xj.d2, XD.d0, XD.d1, XD.d2, XP.d0, XP.d1, XP.d2, XQ.d0, XQ.d1, XQ.d2, XN.d0, XN.d1, XN.d2⟩ (fun hHeld => ?_)
    clear hK K
    refine wpAnyH_take (i := 11) (v := .bool true) rfl (by kernel_rfl) (by kernel_rfl) (by kernel_rfl) (fun _ _ _ h => h) (Or.inl ⟨by rfl, ?_⟩) hHeld ?_
    · (intro W hSw; (try dsimp only at hSw); go_simp; first | (rw [ek]) | skip)
    simp only [List.getElem_toArray, List.getElem_cons_zero, List.getElem_cons_succ, Act.put, List.setIfInBounds_toArray, List.set_cons_zero, List.set_cons_succ]
    refine wpAnyH_take (i := 12) (v := ?_) rfl (by kernel_rfl) (by kernel_rfl) (by kernel_rfl) (fun _ _ _ h => h) (Or.inl ⟨by rfl, ?_⟩) hHeld ?_
    rotate_left
    · (intro W hSw; (try dsimp only at hSw); go_simp; all_goals (with_reducible rfl))
    simp only [List.getElem_toArray, List.getElem_cons_zero, List.getElem_cons_succ, Act.put, List.setIfInBounds_toArray, List.set_cons_zero, List.set_cons_succ]
    refine wpAnyH_take (i := 13) (v := ?_) rfl (by kernel_rfl) (by kernel_rfl) (by kernel_rfl) (fun _ _ _ h => h) (Or.inl ⟨by rfl, ?_⟩) hHeld ?_
    rotate_left
    · (intro W hSw; (try dsimp only at hSw); go_simp; all_goals (with_reducible rfl))
    simp only [List.getElem_toArray, List.getElem_cons_zero, List.getElem_cons_succ, Act.put, List.setIfInBounds_toArray, List.set_cons_zero, List.set_cons_succ]
    refine wpAnyH_take (i := 14) (v := ?_) rfl (by kernel_rfl) (by kernel_rfl) (by kernel_rfl) (fun _ _ _ h => h) (Or.inl ⟨by rfl, ?_⟩) hHeld ?_
    rotate_left
    · (intro W hSw; (try dsimp only at hSw); go_simp; all_goals (with_reducible rfl))
    simp only [List.getElem_toArray, List.getElem_cons_zero, List.getElem_cons_succ, Act.put, List.setIfInBounds_toArray, List.set_cons_zero, List.set_cons_succ]
    refine wpAnyH_take (i := 15) (v := ?_) rfl (by kernel_rfl) (by kernel_rfl) (by kernel_rfl) (fun _ _ _ h => h) (Or.inl ⟨by rfl, ?_⟩) hHeld ?_
    rotate_left
    · (intro W hSw; (try dsimp only at hSw); go_simp; all_goals (with_reducible rfl))
    simp only [List.getElem_toArray, List.getElem_cons_zero, List.getElem_cons_succ, Act.put, List.setIfInBounds_toArray, List.set_cons_zero, List.set_cons_succ]
    refine wpAnyH_take (i := 17) (v := ?_) rfl (by kernel_rfl) (by kernel_rfl) (by kernel_rfl) (fun _ _ _ h => h) (Or.inl ⟨by rfl, ?_⟩) hHeld ?_
    rotate_left
    · (intro W hSw; (try dsimp only at hSw); go_simp; all_goals (with_reducible rfl))
    simp only [List.getElem_toArray, List.getElem_cons_zero, List.getElem_cons_succ, Act.put, List.setIfInBounds_toArray, List.set_cons_zero, List.set_cons_succ]
    refine wpAnyH_take (i := 18) (v := .int .i64 (-kk)) rfl (by kernel_rfl) (by kernel_rfl) (by kernel_rfl) (fun _ _ _ h => h) (Or.inl ⟨by rfl, ?_⟩) hHeld ?_
    · (intro W hSw; (try dsimp only at hSw); go_simp; first | (rw [wk]) | skip)
    simp only [List.getElem_toArray, List.getElem_cons_zero, List.getElem_cons_succ, Act.put, List.setIfInBounds_toArray, List.set_cons_zero, List.set_cons_succ]
    refine wpAnyH_ready (rs := [16]) (by kernel_rfl) (by simp) ?_
    refine AllReadyH.cons rfl (fun K hK => ?_) AllReadyH.nil
    simp only [List.getElem_toArray, List.getElem_cons_zero, List.getElem_cons_succ]
    go_simp
    refine (qcompare_any sj aj lj cj zj bj mj dj yj v1 si ai li ci zi bi mi di yi v0 _ hj hi).mono ?_
    rintro e x26 ⟨rfl, hb⟩
    replace Xi := Va.after hb Xi
    replace Xj := Va.after hb Xj
    replace XD := Va.after hb XD
    replace XP := Va.after hb XP
    replace XQ := Va.after hb XQ
    replace XN := Va.after hb XN
    replace Vf := Va.after hb Vf
    replace hi := Rt.after hb hi
    replace hj := Rt.after hb hj
    replace hD := Rt.after hb hD
    replace hP := Rt.after hb hP
    replace hQ := Rt.after hb hQ
    replace hN := Rt.after hb hN
    replace B0 := step B0 hb
    clear hb
    rw [HS.out.c2]
    try go_wp2_with fail
    refine hK.out _ _ ⟨Xi.d0, Xi.d1, Xi.d2, Xj.d0, Xj.d1, Xj.d2, XD.d0, XD.d1, XD.d2, XP.d0, XP.d1, XP.d2, XQ.d0, XQ.d1, XQ.d2, XN.d0, XN.d1, XN.d2⟩ (fun hHeld => ?_)
    clear hK K
    refine wpAnyH_take (i := 19) (v := .bool true) rfl (by kernel_rfl) (by kernel_rfl) (by kernel_rfl) (fun _ _ _ h => h) (Or.inl ⟨by rfl, ?_⟩) hHeld ?_
    · (intro W hSw; (try dsimp only at hSw); go_simp; first | (rw [en]) | skip)
    simp only [List.getElem_toArray, List.getElem_cons_zero, List.getElem_cons_succ, Act.put, List.setIfInBounds_toArray, List.set_cons_zero, List.set_cons_succ]
    refine wpAnyH_take (i := 20) (v := ?_) rfl (by kernel_rfl) (by kernel_rfl) (by kernel_rfl) (fun _ _ _ h => h) (Or.inl ⟨by rfl, ?_⟩) hHeld ?_
    rotate_left
    · (intro W hSw; (try dsimp only at hSw); go_simp; all_goals (with_reducible rfl))
    simp only [List.getElem_toArray, List.getElem_cons_zero, List.getElem_cons_succ, Act.put, List.setIfInBounds_toArray, List.set_cons_zero, List.set_cons_succ]
    refine wpAnyH_take (i := 21) (v := ?_) rfl (by kernel_rfl) (by kernel_rfl) (by kernel_rfl) (fun _ _ _ h => h) (Or.inl ⟨by rfl, ?_⟩) hHeld ?_
    rotate_left
    · (intro W hSw; (try dsimp only at hSw); go_simp; all_goals (with_reducible rfl))
    simp only [List.getElem_toArray, List.getElem_cons_zero, List.getElem_cons_succ, Act.put, List.setIfInBounds_toArray, List.set_cons_zero, List.set_cons_succ]
    refine wpAnyH_take (i := 22) (v := ?_) rfl (by kernel_rfl) (by kernel_rfl) (by kernel_rfl) (fun _ _ _ h => h) (Or.inl ⟨by rfl, ?_⟩) hHeld ?_
    rotate_left
    · (intro W hSw; (try dsimp only at hSw); go_simp; all_goals (with_reducible rfl))
    simp only [List.getElem_toArray, List.getElem_cons_zero, List.getElem_cons_succ, Act.put, List.setIfInBounds_toArray, List.set_cons_zero, List.set_cons_succ]
    refine wpAnyH_take (i := 23) (v := ?_) rfl (by kernel_rfl) (by kernel_rfl) (by kernel_rfl) (fun _ _ _ h => h) (Or.inl ⟨by rfl, ?_⟩) hHeld ?_
    rotate_left
    · (intro W hSw; (try dsimp only at hSw); go_simp; all_goals (with_reducible rfl))
    simp only [List.getElem_toArray, List.getElem_cons_zero, List.getElem_cons_succ, Act.put, List.setIfInBounds_toArray, List.set_cons_zero, List.set_cons_succ]
    refine wpAnyH_take (i := 25) (v := ?_) rfl (by kernel_rfl) (by kernel_rfl) (by kernel_rfl) (fun _ _ _ h => h) (Or.inl ⟨by rfl, ?_⟩) hHeld ?_
    rotate_left
    · (intro W hSw; (try dsimp only at hSw); go_simp; all_goals (with_reducible rfl))
    simp only [List.getElem_toArray, List.getElem_cons_zero, List.getElem_cons_succ, Act.put, List.setIfInBounds_toArray, List.set_cons_zero, List.set_cons_succ]
    refine wpAnyH_ready (rs := [24]) (by kernel_rfl) (by simp) ?_
    refine AllReadyH.cons rfl (fun K hK => ?_) AllReadyH.nil
    simp only [List.getElem_toArray, List.getElem_cons_zero, List.getElem_cons_succ]
    go_simp
    refine (qcompare_any sP aP lP cP zP bP mP dP yP vP sQ aQ lQ cQ zQ bQ mQ dQ yQ vQ _ hP hQ).mono ?_
    rintro e x27 ⟨rfl, hb⟩
    replace Xi := Va.after hb Xi
    replace Xj := Va.after hb Xj
    replace XD := Va.after hb XD
    replace XP := Va.after hb XP
    replace XQ := Va.after hb XQ
    replace XN := Va.after hb XN
    replace Vf := Va.after hb Vf
    replace hi := Rt.after hb hi
    replace hj := Rt.after hb hj
    replace hD := Rt.after hb hD
    replace hP := Rt.after hb hP
    replace hQ := Rt.after hb hQ
    replace hN := Rt.after hb hN
    replace B0 := step B0 hb
    clear hb
    rw [HS.out.c3]
    try go_wp2_with fail
    refine hK.out _ _ ⟨Xi.d0, Xi.d1, Xi.d2, Xj.d0, Xj.d1, Xj.d2, XD.d0, XD.d1, XD.d2, XP.d0, XP.d1, XP.d2, XQ.d0, XQ.d1, XQ.d2, XN.d0, XN.d1, XN.d2⟩ (fun hHeld => ?_)
    clear hK K
    refine wpAnyH_take (i := 26) (v := .bool true) rfl (by kernel_rfl) (by kernel_rfl) (by kernel_rfl) (fun _ _ _ h => h) (Or.inl ⟨by rfl, ?_⟩) hHeld ?_
    · (intro W hSw; (try dsimp only at hSw); go_simp; first | (rw [ek]) | skip)
    simp only [List.getElem_toArray, List.getElem_cons_zero, List.getElem_cons_succ, Act.put, List.setIfInBounds_toArray, List.set_cons_zero, List.set_cons_succ]
    refine wpAnyH_take (i := 27) (v := ?_) rfl (by kernel_rfl) (by kernel_rfl) (by kernel_rfl) (fun _ _ _ h => h) (Or.inl ⟨by rfl, ?_⟩) hHeld ?_
    rotate_left
    · (intro W hSw; (try dsimp only at hSw); go_simp; all_goals (with_reducible rfl))
    simp only [List.getElem_toArray, List.getElem_cons_zero, List.getElem_cons_succ, Act.put, List.setIfInBounds_toArray, List.set_cons_zero, List.set_cons_succ]
    refine wpAnyH_take (i := 28) (v := ?_) rfl (by kernel_rfl) (by kernel_rfl) (by kernel_rfl) (fun _ _ _ h => h) (Or.inl ⟨by rfl, ?_⟩) hHeld ?_
    rotate_left
    · (intro W hSw; (try dsimp only at hSw); go_simp; all_goals (with_reducible rfl))
    simp only [List.getElem_toArray, List.getElem_cons_zero, List.getElem_cons_succ, Act.put, List.setIfInBounds_toArray, List.set_cons_zero, List.set_cons_succ]
    refine wpAnyH_take (i := 29) (v := ?_) rfl (by kernel_rfl) (by kernel_rfl) (by kernel_rfl) (fun _ _ _ h => h) (Or.inl ⟨by rfl, ?_⟩) hHeld ?_
    rotate_left
    · (intro W hSw; (try dsimp only at hSw); go_simp; all_goals (with_reducible rfl))
    simp only [List.getElem_toArray, List.getElem_cons_zero, List.getElem_cons_succ, Act.put, List.setIfInBounds_toArray, List.set_cons_zero, List.set_cons_succ]
    refine wpAnyH_take (i := 30) (v := ?_) rfl (by kernel_rfl) (by kernel_rfl) (by kernel_rfl) (fun _ _ _ h => h) (Or.inl ⟨by rfl, ?_⟩) hHeld ?_
    rotate_left
    · (intro W hSw; (try dsimp only at hSw); go_simp; all_goals (with_reducible rfl))
    simp only [List.getElem_toArray, List.getElem_cons_zero, List.getElem_cons_succ, Act.put, List.setIfInBounds_toArray, List.set_cons_zero, List.set_cons_succ]
    refine wpAnyH_ready (rs := [31]) (by kernel_rfl) (by simp) ?_
    refine AllReadyH.cons rfl (fun K hK => ?_) AllReadyH.nil
    simp only [List.getElem_toArray, List.getElem_cons_zero, List.getElem_cons_succ]
    go_simp
    refine (qneg_any si ai li ci zi bi mi di yi v0 _ hi).mono ?_
    rintro e x28 ⟨s5, rfl, h5, hb⟩
    replace Xi := Va.after hb Xi
    replace Xj := Va.after hb Xj
    replace XD := Va.after hb XD
    replace XP := Va.after hb XP
    replace XQ := Va.after hb XQ
    replace XN := Va.after hb XN
    replace Vf := Va.after hb Vf
    replace hi := Rt.after hb hi
    replace hj := Rt.after hb hj
    replace hD := Rt.after hb hD
    replace hP := Rt.after hb hP
    replace hQ := Rt.after hb hQ
    replace hN := Rt.after hb hN
    replace B0 := step B0 hb
    clear hb
    rw [← HS.out.vn] at h5
    try go_wp2_with fail
    refine hK.out _ _ ⟨Xi.d0, Xi.d1, Xi.d2, Xj.d0, Xj.d1, Xj.d2, XD.d0, XD.d1, XD.d2, XP.d0, XP.d1, XP.d2, XQ.d0, XQ.d1, XQ.d2, XN.d0, XN.d1, XN.d2⟩ (fun hHeld => ?_)
    clear hK K
    refine wpAnyH_ready (rs := [32]) (by kernel_rfl) (by simp) ?_
    refine AllReadyH.cons rfl (fun K hK => ?_) AllReadyH.nil
    simp only [List.getElem_toArray, List.getElem_cons_zero, List.getElem_cons_succ]
    go_simp
    refine (alike5 sN aN lN cN zN bN mN dN yN s5 ai li ci zi bi mi di yi vN _ hN h5).mono ?_
    rintro e x29 ⟨rfl, hb⟩
    replace Xi := Va.after hb Xi
    replace Xj := Va.after hb Xj
    replace XD := Va.after hb XD
    replace XP := Va.after hb XP
    replace XQ := Va.after hb XQ
    replace XN := Va.after hb XN
    replace Vf := Va.after hb Vf
    replace hi := Rt.after hb hi
    replace hj := Rt.after hb hj
    replace hD := Rt.after hb hD
    replace hP := Rt.after hb hP
    replace hQ := Rt.after hb hQ
    replace hN := Rt.after hb hN
    replace h5 := Rt.after hb h5
    replace B0 := step B0 hb
    clear hb
    try go_wp2_with fail
    refine hK.out _ _ ⟨Xi.d0, Xi.d1, Xi.d2, Xj.d0, Xj.d1, Xj.d2, XD.d0, XD.d1, XD.d2, XP.d0, XP.d1, XP.d2, XQ.d0, XQ.d1, XQ.d2, XN.d0, XN.d1, XN.d2⟩ (fun hHeld => ?_)
    clear hK K
    refine wpAnyH_take (i := 33) (v := ?_) rfl (by kernel_rfl) (by kernel_rfl) (by kernel_rfl) (fun _ _ _ h => h) (Or.inl ⟨by rfl, ?_⟩) hHeld ?_
    rotate_left
    · (intro W hSw; (try dsimp only at hSw); go_simp; all_goals (with_reducible rfl))
    simp only [List.getElem_toArray, List.getElem_cons_zero, List.getElem_cons_succ, Act.put, List.setIfInBounds_toArray, List.set_cons_zero, List.set_cons_succ]
    refine wpAnyH_take (i := 34) (v := ?_) rfl (by kernel_rfl) (by kernel_rfl) (by kernel_rfl) (fun _ _ _ h => h) (Or.inl ⟨by rfl, ?_⟩) hHeld ?_
    rotate_left
    · (intro W hSw; (try dsimp only at hSw); go_simp; all_goals (with_reducible rfl))
    simp only [List.getElem_toArray, List.getElem_cons_zero, List.getElem_cons_succ, Act.put, List.setIfInBounds_toArray, List.set_cons_zero, List.set_cons_succ]
    refine wpAnyH_take (i := 35) (v := ?_) rfl (by kernel_rfl) (by kernel_rfl) (by kernel_rfl) (fun _ _ _ h => h) (Or.inl ⟨by rfl, ?_⟩) hHeld ?_
    rotate_left
    · (intro W hSw; (try dsimp only at hSw); go_simp; all_goals (with_reducible rfl))
    simp only [List.getElem_toArray, List.getElem_cons_zero, List.getElem_cons_succ, Act.put, List.setIfInBounds_toArray, List.set_cons_zero, List.set_cons_succ]
    refine wpAnyH_take (i := 38) (v := ?_) rfl (by kernel_rfl) (by kernel_rfl) (by kernel_rfl) (fun _ _ _ h => h) (Or.inl ⟨by rfl, ?_⟩) hHeld ?_
    rotate_left
    · (intro W hSw; (try dsimp only at hSw); go_simp; all_goals (with_reducible rfl))
    simp only [List.getElem_toArray, List.getElem_cons_zero, List.getElem_cons_succ, Act.put, List.setIfInBounds_toArray, List.set_cons_zero, List.set_cons_succ]
    refine wpAnyH_ready (rs := [36]) (by kernel_rfl) (by simp) ?_
    refine AllReadyH.cons rfl (fun K hK => ?_) AllReadyH.nil
    simp only [List.getElem_toArray, List.getElem_cons_zero, List.getElem_cons_succ]
    go_simp
    refine (qneg_any si ai li ci zi bi mi di yi v0 _ hi).mono ?_
    rintro e x30 ⟨s6, rfl, h6, hb⟩
    replace Xi := Va.after hb Xi
    replace Xj := Va.after hb Xj
    replace XD := Va.after hb XD
    replace XP := Va.after hb XP
    replace XQ := Va.after hb XQ
    replace XN := Va.after hb XN
    replace Vf := Va.after hb Vf
    replace hi := Rt.after hb hi
    replace hj := Rt.after hb hj
    replace hD := Rt.after hb hD
    replace hP := Rt.after hb hP
    replace hQ := Rt.after hb hQ
    replace hN := Rt.after hb hN
    replace h5 := Rt.after hb h5
    replace B0 := step B0 hb
    clear hb
    try go_wp2_with fail
    refine hK.out _ _ ⟨Xi.d0, Xi.d1, Xi.d2, Xj.d0, Xj.d1, Xj.d2, XD.d0, XD.d1, XD.d2, XP.d0, XP.d1, XP.d2, XQ.d0, XQ.d1, XQ.d2, XN.d0, XN.d1, XN.d2⟩ (fun hHeld => ?_)
    clear hK K
    refine wpAnyH_ready (rs := [37]) (by kernel_rfl) (by simp) ?_
    refine AllReadyH.cons rfl (fun K hK => ?_) AllReadyH.nil
    simp only [List.getElem_toArray, List.getElem_cons_zero, List.getElem_cons_succ]
    go_simp
    refine (qneg_any s6 ai li ci zi bi mi di yi (-v0) _ h6).mono ?_
    rintro e x31 ⟨s7, rfl, h7, hb⟩
    replace Xi := Va.after hb Xi
    replace Xj := Va.after hb Xj
    replace XD := Va.after hb XD
    replace XP := Va.after hb XP
    replace XQ := Va.after hb XQ
    replace XN := Va.after hb XN
    replace Vf := Va.after hb Vf
    replace hi := Rt.after hb hi
    replace hj := Rt.after hb hj
    replace hD := Rt.after hb hD
    replace hP := Rt.after hb hP
    replace hQ := Rt.after hb hQ
    replace hN := Rt.after hb hN
    replace h5 := Rt.after hb h5
    replace h6 := Rt.after hb h6
    replace B0 := step B0 hb
    clear hb
    rw [Rat.neg_neg] at h7
    try go_wp2_with fail
    refine hK.out _ _ ⟨Xi.d0, Xi.d1, Xi.d2, Xj.d0, Xj.d1, Xj.d2, XD.d0, XD.d1, XD.d2, XP.d0, XP.d1, XP.d2, XQ.d0, XQ.d1, XQ.d2, XN.d0, XN.d1, XN.d2⟩ (fun hHeld => ?_)
    clear hK K
    refine wpAnyH_ready (rs := [39]) (by kernel_rfl) (by simp) ?_
    refine AllReadyH.cons rfl (fun K hK => ?_) AllReadyH.nil
    simp only [List.getElem_toArray, List.getElem_cons_zero, List.getElem_cons_succ]
    go_simp
    refine (alike5 s7 ai li ci zi bi mi di yi si ai li ci zi bi mi di yi v0 _ h7 hi).mono ?_
    rintro e x32 ⟨rfl, hb⟩
    replace Xi := Va.after hb Xi
    replace Xj := Va.after hb Xj
    replace XD := Va.after hb XD
    replace XP := Va.after hb XP
    replace XQ := Va.after hb XQ
    replace XN := Va.after hb XN
    replace Vf := Va.after hb Vf
    replace hi := Rt.after hb hi
    replace hj := Rt.after hb hj
    replace hD := Rt.after hb hD
    replace hP := Rt.after hb hP
    replace hQ := Rt.after hb hQ
    replace hN := Rt.after hb hN
    replace h5 := Rt.after hb h5
    replace h6 := Rt.after hb h6
    replace h7 := Rt.after hb h7
    replace B0 := step B0 hb
    clear hb
    try go_wp2_with fail
    refine hK.out _ _ ⟨Xi.d0, Xi.d1, Xi.d2, Xj.d0, Xj.d1, Xj.d2, XD.d0, XD.d1, XD.d2, XP.d0, XP.d1, XP.d2, XQ.d0, XQ.d1, XQ.d2, XN.d0, XN.d1, XN.d2⟩ (fun hHeld => ?_)
    clear hK K
    refine wpAnyH_take (i := 40) (v := ?_) rfl (by kernel_rfl) (by kernel_rfl) (by kernel_rfl) (fun _ _ _ h => h) (Or.inl ⟨by rfl, ?_⟩) hHeld ?_
    rotate_left
    · (intro W hSw; (try dsimp only at hSw); go_simp; all_goals (with_reducible rfl))
    simp only [List.getElem_toArray, List.getElem_cons_zero, List.getElem_cons_succ, Act.put, List.setIfInBounds_toArray, List.set_cons_zero, List.set_cons_succ]
    refine wpAnyH_take (i := 41) (v := ?_) rfl (by kernel_rfl) (by kernel_rfl) (by kernel_rfl) (fun _ _ _ h => h) (Or.inl ⟨by rfl, ?_⟩) hHeld ?_
    rotate_left
    · (intro W hSw; (try dsimp only at hSw); go_simp; all_goals (with_reducible rfl))
    simp only [List.getElem_toArray, List.getElem_cons_zero, List.getElem_cons_succ, Act.put, List.setIfInBounds_toArray, List.set_cons_zero, List.set_cons_succ]
    refine wpAnyH_take (i := 42) (v := ?_) rfl (by kernel_rfl) (by kernel_rfl) (by kernel_rfl) (fun _ _ _ h => h) (Or.inl ⟨by rfl, ?_⟩) hHeld ?_
    rotate_left
    · (intro W hSw; (try dsimp only at hSw); go_simp; all_goals (with_reducible rfl))
    simp only [List.getElem_toArray, List.getElem_cons_zero, List.getElem_cons_succ, Act.put, List.setIfInBounds_toArray, List.set_cons_zero, List.set_cons_succ]
    refine wpAnyH_take (i := 45) (v := ?_) rfl (by kernel_rfl) (by kernel_rfl) (by kernel_rfl) (fun _ _ _ h => h) (Or.inl ⟨by rfl, ?_⟩) hHeld ?_
    rotate_left
    · (intro W hSw; (try dsimp only at hSw); go_simp; all_goals (with_reducible rfl))
    simp only [List.getElem_toArray, List.getElem_cons_zero, List.getElem_cons_succ, Act.put, List.setIfInBounds_toArray, List.set_cons_zero, List.set_cons_succ]
    refine wpAnyH_ready (rs := [43]) (by kernel_rfl) (by simp) ?_
    refine AllReadyH.cons rfl (fun K hK => ?_) AllReadyH.nil
    simp only [List.getElem_toArray, List.getElem_cons_zero, List.getElem_cons_succ]
    go_simp
    refine (qneg_any si ai li ci zi bi mi di yi v0 _ hi).mono ?_
    rintro e x33 ⟨s8, rfl, h8, hb⟩
    replace Xi := Va.after hb Xi
    replace Xj := Va.after hb Xj
    replace XD := Va.after hb XD
    replace XP := Va.after hb XP
    replace XQ := Va.after hb XQ
    replace XN := Va.after hb XN
    replace Vf := Va.after hb Vf
    replace hi := Rt.after hb hi
    replace hj := Rt.after hb hj
    replace hD := Rt.after hb hD
    replace hP := Rt.after hb hP
    replace hQ := Rt.after hb hQ
    replace hN := Rt.after hb hN
    replace h5 := Rt.after hb h5
    replace h6 := Rt.after hb h6
    replace h7 := Rt.after hb h7
    replace B0 := step B0 hb
    clear hb
    try go_wp2_with fail
    refine hK.out _ _ ⟨Xi.d0, Xi.d1, Xi.d2, Xj.d0, Xj.d1, Xj.d2, XD.d0, XD.d1, XD.d2, XP.d0, XP.d1, XP.d2, XQ.d0, XQ.d1, XQ.d2, XN.d0, XN.d1, XN.d2⟩ (fun hHeld => ?_)
    clear hK K
    refine wpAnyH_ready (rs := [44]) (by kernel_rfl) (by simp) ?_
    refine AllReadyH.cons rfl (fun K hK => ?_) AllReadyH.nil
    simp only [List.getElem_toArray, List.getElem_cons_zero, List.getElem_cons_succ]
    go_simp
    refine (qsign_any s8 ai li ci zi bi mi di yi (-v0) _ h8).mono ?_
    rintro e x34 ⟨rfl, hb⟩
    replace Xi := Va.after hb Xi
    replace Xj := Va.after hb Xj
    replace XD := Va.after hb XD
    replace XP := Va.after hb XP
    replace XQ := Va.after hb XQ
    replace XN := Va.after hb XN
    replace Vf := Va.after hb Vf
    replace hi := Rt.after hb hi
    replace hj := Rt.after hb hj
    replace hD := Rt.after hb hD
    replace hP := Rt.after hb hP
    replace hQ := Rt.after hb hQ
    replace hN := Rt.after hb hN
    replace h5 := Rt.after hb h5
    replace h6 := Rt.after hb h6
    replace h7 := Rt.after hb h7
    replace h8 := Rt.after hb h8
    replace B0 := step B0 hb
    clear hb
    rw [HS.out.g2]
    try go_wp2_with fail
    refine hK.out _ _ ⟨Xi.d0, Xi.d1, Xi.d2, Xj.d0, Xj.d1, Xj.d2, XD.d0, XD.d1, XD.d2, XP.d0, XP.d1, XP.d2, XQ.d0, XQ.d1, XQ.d2, XN.d0, XN.d1, XN.d2⟩ (fun hHeld => ?_)
    clear hK K
    refine wpAnyH_ready (rs := [46]) (by kernel_rfl) (by simp) ?_
    refine AllReadyH.cons rfl (fun K hK => ?_) AllReadyH.nil
    simp only [List.getElem_toArray, List.getElem_cons_zero, List.getElem_cons_succ]
    go_simp
    refine (qsign_any si ai li ci zi bi mi di yi v0 _ hi).mono ?_
    rintro e x35 ⟨rfl, hb⟩
    replace Xi := Va.after hb Xi
    replace Xj := Va.after hb Xj
    replace XD := Va.after hb XD
    replace XP := Va.after hb XP
    replace XQ := Va.after hb XQ
    replace XN := Va.after hb XN
    replace Vf := Va.after hb Vf
    replace hi := Rt.after hb hi
    replace hj := Rt.after hb hj
    replace hD := Rt.after hb hD
    replace hP := Rt.after hb hP
    replace hQ := Rt.after hb hQ
    replace hN := Rt.after hb hN
    replace h5 := Rt.after hb h5
    replace h6 := Rt.after hb h6
    replace h7 := Rt.after hb h7
    replace h8 := Rt.after hb h8
    replace B0 := step B0 hb
    clear hb
    rw [HS.out.g1]
    try go_wp2_with fail
    refine hK.out _ _ ⟨Xi.d0, Xi.d1, Xi.d2, Xj.d0, Xj.d1, Xj.d2, XD.d0, XD.d1, XD.d2, XP.d0, XP.d1, XP.d2, XQ.d0, XQ.d1, XQ.d2, XN.d0, XN.d1, XN.d2⟩ (fun hHeld => ?_)
    clear hK K
    refine wpAnyH_take (i := 47) (v := .int .i64 (-gg)) rfl (by kernel_rfl) (by kernel_rfl) (by kernel_rfl) (fun _ _ _ h => h) (Or.inl ⟨by rfl, ?_⟩) hHeld ?_
    · (intro W hSw; (try dsimp only at hSw); go_simp; first | (rw [wg]) | skip)
    simp only [List.getElem_toArray, List.getElem_cons_zero, List.getElem_cons_succ, Act.put, List.setIfInBounds_toArray, List.set_cons_zero, List.set_cons_succ]
    refine wpAnyH_take (i := 48) (v := .bool true) rfl (by kernel_rfl) (by kernel_rfl) (by kernel_rfl) (fun _ _ _ h => h) (Or.inl ⟨by rfl, ?_⟩) hHeld ?_
    · (intro W hSw; (try dsimp only at hSw); go_simp; first | (rw [eg]) | skip)
    simp only [List.getElem_toArray, List.getElem_cons_zero, List.getElem_cons_succ, Act.put, List.setIfInBounds_toArray, List.set_cons_zero, List.set_cons_succ]
    refine wpAnyH_take (i := 49) (v := ?_) rfl (by kernel_rfl) (by kernel_rfl) (by kernel_rfl) (fun _ _ _ h => h) (Or.inl ⟨by rfl, ?_⟩) hHeld ?_
    rotate_left
    · (intro W hSw; (try dsimp only at hSw); go_simp; all_goals (with_reducible rfl))
    simp only [List.getElem_toArray, List.getElem_cons_zero, List.getElem_cons_succ, Act.put, List.setIfInBounds_toArray, List.set_cons_zero, List.set_cons_succ]
    refine wpAnyH_take (i := 50) (v := ?_) rfl (by kernel_rfl) (by kernel_rfl) (by kernel_rfl) (fun _ _ _ h => h) (Or.inl ⟨by rfl, ?_⟩) hHeld ?_
    rotate_left
    · (intro W hSw; (try dsimp only at hSw); go_simp; all_goals (with_reducible rfl))
    simp only [List.getElem_toArray, List.getElem_cons_zero, List.getElem_cons_succ, Act.put, List.setIfInBounds_toArray, List.set_cons_zero, List.set_cons_succ]
    refine wpAnyH_done (by kernel_rfl) ?_ _
    refine NoPanic.normal ?_
    clear hHeld
    go_wp2_with fail
    go_ret
    exact ⟨rfl, B0⟩
end Go.Proofs.YtadfccbjadopgaaGreat
