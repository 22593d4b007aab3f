/-
  The walk of RoundUnits: each call by its contract.
-/
import Derived.Test.YtegfklapgbggfaaGreatRu7
import Derived.Test.YtegfklapgbggfaaGreatRl8
namespace Go.Proofs.YtegfklapgbggfaaGreat
open Go.RowKit Go.Shelf
set_option linter.unusedVariables false

theorem ra_one {v x y : Rat} {e f : Int} (h1 : RA v e x) (h2 : RA v f y) : f = e ∧ y = x := by
  rcases h1 with ⟨a, b, c⟩ | ⟨a, b, c⟩ <;> rcases h2 with ⟨a', b', c'⟩ | ⟨a', b', c'⟩
  · exact ⟨by rw [b, b'], by rw [c, c']⟩
  · exact absurd a a'
  · exact absurd a' a
  · exact ⟨by rw [b, b'], by rw [c, c']⟩
set_option maxHeartbeats 8000000 in
set_option maxRecDepth 4000 in
theorem units7_walk (s0 : Bool) (a0 : Option Addr) (l0 c0 : Nat) (z0 : List Int) (b0 : Option Addr) (m0 d0 : Nat) (y0 : List Int) (s1 : Bool) (a1 : Option Addr) (l1 c1 : Nat) (z1 : List Int) (b1 : Option Addr) (m1 d1 : Nat) (y1 : List Int) (q : Int) (w : World) (h1 : Sl w a0 l0 z0) (h2 : Sl w b0 m0 y0) (k1 : l0 ≤ c0) (k2 : m0 ≤ d0) (h3 : Sl w a1 l1 z1) (h4 : Sl w b1 m1 y1) (k3 : l1 ≤ c1) (k4 : m1 ≤ d1) (wx : (Lit.int .i64 q).wf = true) :
    Calls Tryz.prog 3 #[.agg #[.bool s0, .slice a0 l0 c0, .slice b0 m0 d0], .agg #[.bool s1, .slice a1 l1 c1, .slice b1 m1 d1], .int .i64 q] w fun e w' => e = .returned (.bool true) ∧ Below w.heap.size w w' := by
  clear wx
  have B0 : Below w.heap.size w w := Below.refl _ _
  go_enter Tryz.func3, Tryz.ntmps3
  go_wp2_with fail
  refine ent2 w _ _ _ _ (Q := fun W => Calls Tryz.prog _ _ W _) ?_
  intro x1 hb hs_x1 V0 V1
  replace h1 := Sl.after hb h1
  replace h2 := Sl.after hb h2
  replace h3 := Sl.after hb h3
  replace h4 := Sl.after hb h4
  replace B0 := step B0 hb
  clear hb hs_x1
  refine (of7 s0 a0 l0 c0 z0 b0 m0 d0 y0 x1 h1 h2 k1 k2).mono ?_
  rintro e x2 ⟨sr, ar, lr, cr, zr, br, mr, dr, yr, sa, aa, la, ca, za, ba, ma, da, ya, v, rfl, hr, ha, hb⟩
  replace V0 := Va.after hb V0
  replace V1 := Va.after hb V1
  replace h1 := Sl.after hb h1
  replace h2 := Sl.after hb h2
  replace h3 := Sl.after hb h3
  replace h4 := Sl.after hb h4
  replace B0 := step B0 hb
  clear hb
  have hvS : Hid (Short v) := hr.2.2.2.2
  have c_V1 := V1.d0
  have f0_V1 := V1.frozen 0
  have d_V1 := V1.d1
  have f1_V1 := V1.frozen 1
  have e_V1 := V1.d2
  have f2_V1 := V1.frozen 2
  have l_V1 := V1.lt
  have m_V1 := Nat.le_of_lt l_V1
  have p0_V1 := ((V1.old (.cells #[.bool sr, .slice ar lr cr, .slice br mr dr] 30)).old (.cells #[.bool sa, .slice aa la ca, .slice ba ma da] 31)).d0
  have q0_V1 := ((V1.old (.cells #[.bool sr, .slice ar lr cr, .slice br mr dr] 30)).old (.cells #[.bool sa, .slice aa la ca, .slice ba ma da] 31)).frozen 0
  have p1_V1 := ((V1.old (.cells #[.bool sr, .slice ar lr cr, .slice br mr dr] 30)).old (.cells #[.bool sa, .slice aa la ca, .slice ba ma da] 31)).d1
  have q1_V1 := ((V1.old (.cells #[.bool sr, .slice ar lr cr, .slice br mr dr] 30)).old (.cells #[.bool sa, .slice aa la ca, .slice ba ma da] 31)).frozen 1
  have p2_V1 := ((V1.old (.cells #[.bool sr, .slice ar lr cr, .slice br mr dr] 30)).old (.cells #[.bool sa, .slice aa la ca, .slice ba ma da] 31)).d2
  have q2_V1 := ((V1.old (.cells #[.bool sr, .slice ar lr cr, .slice br mr dr] 30)).old (.cells #[.bool sa, .slice aa la ca, .slice ba ma da] 31)).frozen 2
  go_wp2_with fail
  clear h1 h2 V0
  refine ent2 x2 _ _ _ _ (Q := fun W => Calls Tryz.prog _ _ W _) ?_
  intro x3 hb hs_x3 Xr Xa
  replace V1 := Va.after hb V1
  replace h3 := Sl.after hb h3
  replace h4 := Sl.after hb h4
  replace hr := Rt.after hb hr
  replace ha := Rr.after hb ha
  replace B0 := step B0 hb
  clear hb hs_x3
  refine (of7 s1 a1 l1 c1 z1 b1 m1 d1 y1 x3 h3 h4 k3 k4).mono ?_
  rintro e x4 ⟨su, au, lu, cu, zu, bu, mu, du, yu, sb, ab, lb, cb, zb, bb, mb, db, yb, t, rfl, hu, hb_, hb⟩
  replace V1 := Va.after hb V1
  replace Xr := Va.after hb Xr
  replace Xa := Va.after hb Xa
  replace h3 := Sl.after hb h3
  replace h4 := Sl.after hb h4
  replace hr := Rt.after hb hr
  replace ha := Rr.after hb ha
  replace B0 := step B0 hb
  clear hb
  have htS : Hid (Short t) := hu.2.2.2.2
  clear c_V1 f0_V1 d_V1 f1_V1 e_V1 f2_V1 l_V1 m_V1 p0_V1 q0_V1 p1_V1 q1_V1 p2_V1 q2_V1
  have c_Xr := Xr.d0
  have f0_Xr := Xr.frozen 0
  have d_Xr := Xr.d1
  have f1_Xr := Xr.frozen 1
  have e_Xr := Xr.d2
  have f2_Xr := Xr.frozen 2
  have l_Xr := Xr.lt
  have m_Xr := Nat.le_of_lt l_Xr
  have p0_Xr := ((Xr.old (.cells #[.bool su, .slice au lu cu, .slice bu mu du] 30)).old (.cells #[.bool sb, .slice ab lb cb, .slice bb mb db] 31)).d0
  have q0_Xr := ((Xr.old (.cells #[.bool su, .slice au lu cu, .slice bu mu du] 30)).old (.cells #[.bool sb, .slice ab lb cb, .slice bb mb db] 31)).frozen 0
  have p1_Xr := ((Xr.old (.cells #[.bool su, .slice au lu cu, .slice bu mu du] 30)).old (.cells #[.bool sb, .slice ab lb cb, .slice bb mb db] 31)).d1
  have q1_Xr := ((Xr.old (.cells #[.bool su, .slice au lu cu, .slice bu mu du] 30)).old (.cells #[.bool sb, .slice ab lb cb, .slice bb mb db] 31)).frozen 1
  have p2_Xr := ((Xr.old (.cells #[.bool su, .slice au lu cu, .slice bu mu du] 30)).old (.cells #[.bool sb, .slice ab lb cb, .slice bb mb db] 31)).d2
  have q2_Xr := ((Xr.old (.cells #[.bool su, .slice au lu cu, .slice bu mu du] 30)).old (.cells #[.bool sb, .slice ab lb cb, .slice bb mb db] 31)).frozen 2
  go_wp2_with fail
  clear h3 h4 V1
  refine ent2 x4 _ _ _ _ (Q := fun W => Calls Tryz.prog _ _ W _) ?_
  intro x5 hb hs_x5 Xu Xb
  replace Xr := Va.after hb Xr
  replace Xa := Va.after hb Xa
  replace hr := Rt.after hb hr
  replace ha := Rr.after hb ha
  replace hu := Rt.after hb hu
  replace hb_ := Rr.after hb hb_
  replace B0 := step B0 hb
  clear hb hs_x5
  by_cases hm : q < 1 ∨ 5 < q ∨ t.num ≤ 0
  ·
    have HM : Hid (q < 1 ∨ 5 < q ∨ t.num ≤ 0) := hm
    clear hm
    refine (units_bad q sr ar lr cr br mr dr su au lu cu zu bu mu du yu t x5 hu HM.out).mono ?_
    rintro e x6 ⟨rfl, hb⟩
    replace Xr := Va.after hb Xr
    replace Xa := Va.after hb Xa
    replace Xu := Va.after hb Xu
    replace Xb := Va.after hb Xb
    replace hr := Rt.after hb hr
    replace ha := Rr.after hb ha
    replace hu := Rt.after hb hu
    replace hb_ := Rr.after hb hb_
    replace B0 := step B0 hb
    clear hb
    clear c_Xr f0_Xr d_Xr f1_Xr e_Xr f2_Xr l_Xr m_Xr p0_Xr q0_Xr p1_Xr q1_Xr p2_Xr q2_Xr
    have c_Xa := Xa.d0
    have f0_Xa := Xa.frozen 0
    have d_Xa := Xa.d1
    have f1_Xa := Xa.frozen 1
    have e_Xa := Xa.d2
    have f2_Xa := Xa.frozen 2
    have l_Xa := Xa.lt
    have m_Xa := Nat.le_of_lt l_Xa
    have c_Xb := Xb.d0
    have f0_Xb := Xb.frozen 0
    have d_Xb := Xb.d1
    have f1_Xb := Xb.frozen 1
    have e_Xb := Xb.d2
    have f2_Xb := Xb.frozen 2
    have l_Xb := Xb.lt
    have m_Xb := Nat.le_of_lt l_Xb
    have p0_Xa := (Xa.old (.cells #[.bool false, .slice none 0 0, .slice none 0 0] 30)).d0
    have q0_Xa := (Xa.old (.cells #[.bool false, .slice none 0 0, .slice none 0 0] 30)).frozen 0
    have p1_Xa := (Xa.old (.cells #[.bool false, .slice none 0 0, .slice none 0 0] 30)).d1
    have q1_Xa := (Xa.old (.cells #[.bool false, .slice none 0 0, .slice none 0 0] 30)).frozen 1
    have p2_Xa := (Xa.old (.cells #[.bool false, .slice none 0 0, .slice none 0 0] 30)).d2
    have q2_Xa := (Xa.old (.cells #[.bool false, .slice none 0 0, .slice none 0 0] 30)).frozen 2
    have p0_Xb := (Xb.old (.cells #[.bool false, .slice none 0 0, .slice none 0 0] 30)).d0
    have q0_Xb := (Xb.old (.cells #[.bool false, .slice none 0 0, .slice none 0 0] 30)).frozen 0
    have p1_Xb := (Xb.old (.cells #[.bool false, .slice none 0 0, .slice none 0 0] 30)).d1
    have q1_Xb := (Xb.old (.cells #[.bool false, .slice none 0 0, .slice none 0 0] 30)).frozen 1
    have p2_Xb := (Xb.old (.cells #[.bool false, .slice none 0 0, .slice none 0 0] 30)).d2
    have q2_Xb := (Xb.old (.cells #[.bool false, .slice none 0 0, .slice none 0 0] 30)).frozen 2
    go_wp2_with fail
    refine ent1 x6 _ _ (Q := fun W => Calls Tryz.prog _ _ W _) ?_
    intro x7 hb hs_x7 Xy
    replace Xr := Va.after hb Xr
    replace Xa := Va.after hb Xa
    replace Xu := Va.after hb Xu
    replace Xb := Va.after hb Xb
    replace hr := Rt.after hb hr
    replace ha := Rr.after hb ha
    replace hu := Rt.after hb hu
    replace hb_ := Rr.after hb hb_
    replace B0 := step B0 hb
    clear hb hs_x7
    refine (runits_bad q sa aa la ca ba ma da sb ab lb cb zb bb mb db yb t x7 hb_ HM.out).mono ?_
    rintro e x8 ⟨sk, ak, lk, ck, zk, bk, mk, dk, yk, rfl, hk, hb⟩
    replace Xr := Va.after hb Xr
    replace Xa := Va.after hb Xa
    replace Xu := Va.after hb Xu
    replace Xb := Va.after hb Xb
    replace Xy := Va.after hb Xy
    replace hr := Rt.after hb hr
    replace ha := Rr.after hb ha
    replace hu := Rt.after hb hu
    replace hb_ := Rr.after hb hb_
    replace B0 := step B0 hb
    clear hb
    clear c_Xa f0_Xa d_Xa f1_Xa e_Xa f2_Xa l_Xa m_Xa c_Xb f0_Xb d_Xb f1_Xb e_Xb f2_Xb l_Xb m_Xb p0_Xa q0_Xa p1_Xa q1_Xa p2_Xa q2_Xa p0_Xb q0_Xb p1_Xb q1_Xb p2_Xb q2_Xb
    have c_Xy := Xy.d0
    have f0_Xy := Xy.frozen 0
    have d_Xy := Xy.d1
    have f1_Xy := Xy.frozen 1
    have e_Xy := Xy.d2
    have f2_Xy := Xy.frozen 2
    have l_Xy := Xy.lt
    have m_Xy := Nat.le_of_lt l_Xy
    have p0_Xy := (Xy.old (.cells #[.bool sk, .slice ak lk ck, .slice bk mk dk] 31)).d0
    have q0_Xy := (Xy.old (.cells #[.bool sk, .slice ak lk ck, .slice bk mk dk] 31)).frozen 0
    have p1_Xy := (Xy.old (.cells #[.bool sk, .slice ak lk ck, .slice bk mk dk] 31)).d1
    have q1_Xy := (Xy.old (.cells #[.bool sk, .slice ak lk ck, .slice bk mk dk] 31)).frozen 1
    have p2_Xy := (Xy.old (.cells #[.bool sk, .slice ak lk ck, .slice bk mk dk] 31)).d2
    have q2_Xy := (Xy.old (.cells #[.bool sk, .slice ak lk ck, .slice bk mk dk] 31)).frozen 2
    go_wp2_with fail
    refine ent1 x8 _ _ (Q := fun W => Calls Tryz.prog _ _ W _) ?_
    intro x9 hb hs_x9 Xk
    replace Xr := Va.after hb Xr
    replace Xa := Va.after hb Xa
    replace Xu := Va.after hb Xu
    replace Xb := Va.after hb Xb
    replace Xy := Va.after hb Xy
    replace hr := Rt.after hb hr
    replace ha := Rr.after hb ha
    replace hu := Rt.after hb hu
    replace hb_ := Rr.after hb hb_
    replace hk := Rr.after hb hk
    replace B0 := step B0 hb
    clear hb hs_x9
    refine (is7 false none 0 0 [] none 0 0 [] 0 sk ak lk ck zk bk mk dk yk x9 (Rt.nil _) hk).mono ?_
    rintro e x10 ⟨rfl, hb⟩
    replace Xr := Va.after hb Xr
    replace Xa := Va.after hb Xa
    replace Xu := Va.after hb Xu
    replace Xb := Va.after hb Xb
    replace Xy := Va.after hb Xy
    replace Xk := Va.after hb Xk
    replace hr := Rt.after hb hr
    replace ha := Rr.after hb ha
    replace hu := Rt.after hb hu
    replace hb_ := Rr.after hb hb_
    replace hk := Rr.after hb hk
    replace B0 := step B0 hb
    clear hb
    clear c_Xy f0_Xy d_Xy f1_Xy e_Xy f2_Xy l_Xy m_Xy p0_Xy q0_Xy p1_Xy q1_Xy p2_Xy q2_Xy
    go_wp2_with fail
    go_ret
    exact ⟨rfl, B0⟩
  ·
    have HM : Hid (1 ≤ q ∧ q ≤ 5 ∧ 0 < t.num) := by show _ ∧ _; omega
    have HTP : Hid (0 < t.num) := HM.out.2.2
    clear hm
    refine (units_ok q HM.out.1 HM.out.2.1 sr ar lr cr zr br mr dr yr v su au lu cu zu bu mu du yu t x5 hr hu HTP).mono ?_
    rintro e x6 ⟨er, sx, ax, lx, cx, zx, bx, mx, dx, yx, v1, rfl, hy, hra, hb⟩
    replace Xr := Va.after hb Xr
    replace Xa := Va.after hb Xa
    replace Xu := Va.after hb Xu
    replace Xb := Va.after hb Xb
    replace hr := Rt.after hb hr
    replace ha := Rr.after hb ha
    replace hu := Rt.after hb hu
    replace hb_ := Rr.after hb hb_
    replace B0 := step B0 hb
    clear hb
    clear c_Xr f0_Xr d_Xr f1_Xr e_Xr f2_Xr l_Xr m_Xr p0_Xr q0_Xr p1_Xr q1_Xr p2_Xr q2_Xr
    have c_Xa := Xa.d0
    have f0_Xa := Xa.frozen 0
    have d_Xa := Xa.d1
    have f1_Xa := Xa.frozen 1
    have e_Xa := Xa.d2
    have f2_Xa := Xa.frozen 2
    have l_Xa := Xa.lt
    have m_Xa := Nat.le_of_lt l_Xa
    have c_Xb := Xb.d0
    have f0_Xb := Xb.frozen 0
    have d_Xb := Xb.d1
    have f1_Xb := Xb.frozen 1
    have e_Xb := Xb.d2
    have f2_Xb := Xb.frozen 2
    have l_Xb := Xb.lt
    have m_Xb := Nat.le_of_lt l_Xb
    have p0_Xa := (Xa.old (.cells #[.bool sx, .slice ax lx cx, .slice bx mx dx] 30)).d0
    have q0_Xa := (Xa.old (.cells #[.bool sx, .slice ax lx cx, .slice bx mx dx] 30)).frozen 0
    have p1_Xa := (Xa.old (.cells #[.bool sx, .slice ax lx cx, .slice bx mx dx] 30)).d1
    have q1_Xa := (Xa.old (.cells #[.bool sx, .slice ax lx cx, .slice bx mx dx] 30)).frozen 1
    have p2_Xa := (Xa.old (.cells #[.bool sx, .slice ax lx cx, .slice bx mx dx] 30)).d2
    have q2_Xa := (Xa.old (.cells #[.bool sx, .slice ax lx cx, .slice bx mx dx] 30)).frozen 2
    have p0_Xb := (Xb.old (.cells #[.bool sx, .slice ax lx cx, .slice bx mx dx] 30)).d0
    have q0_Xb := (Xb.old (.cells #[.bool sx, .slice ax lx cx, .slice bx mx dx] 30)).frozen 0
    have p1_Xb := (Xb.old (.cells #[.bool sx, .slice ax lx cx, .slice bx mx dx] 30)).d1
    have q1_Xb := (Xb.old (.cells #[.bool sx, .slice ax lx cx, .slice bx mx dx] 30)).frozen 1
    have p2_Xb := (Xb.old (.cells #[.bool sx, .slice ax lx cx, .slice bx mx dx] 30)).d2
    have q2_Xb := (Xb.old (.cells #[.bool sx, .slice ax lx cx, .slice bx mx dx] 30)).frozen 2
    go_wp2_with fail
    refine ent1 x6 _ _ (Q := fun W => Calls Tryz.prog _ _ W _) ?_
    intro x7 hb hs_x7 Xy
    replace Xr := Va.after hb Xr
    replace Xa := Va.after hb Xa
    replace Xu := Va.after hb Xu
    replace Xb := Va.after hb Xb
    replace hr := Rt.after hb hr
    replace ha := Rr.after hb ha
    replace hu := Rt.after hb hu
    replace hb_ := Rr.after hb hb_
    replace hy := Rt.after hb hy
    replace B0 := step B0 hb
    clear hb hs_x7
    refine (runits_ok q HM.out.1 HM.out.2.1 sa aa la ca za ba ma da ya v sb ab lb cb zb bb mb db yb t x7 ha hb_ hvS.out htS.out HM.out.2.2).mono ?_
    rintro e x8 ⟨er2, sk, ak, lk, ck, zk, bk, mk, dk, yk, v2, rfl, hk, hra2, hb⟩
    replace Xr := Va.after hb Xr
    replace Xa := Va.after hb Xa
    replace Xu := Va.after hb Xu
    replace Xb := Va.after hb Xb
    replace Xy := Va.after hb Xy
    replace hr := Rt.after hb hr
    replace ha := Rr.after hb ha
    replace hu := Rt.after hb hu
    replace hb_ := Rr.after hb hb_
    replace hy := Rt.after hb hy
    replace B0 := step B0 hb
    clear hb
    obtain ⟨e8, e9⟩ := ra_one hra.out hra2.out
    subst e8
    subst e9
    clear hra hra2
    clear c_Xa f0_Xa d_Xa f1_Xa e_Xa f2_Xa l_Xa m_Xa c_Xb f0_Xb d_Xb f1_Xb e_Xb f2_Xb l_Xb m_Xb p0_Xa q0_Xa p1_Xa q1_Xa p2_Xa q2_Xa p0_Xb q0_Xb p1_Xb q1_Xb p2_Xb q2_Xb
    have c_Xy := Xy.d0
    have f0_Xy := Xy.frozen 0
    have d_Xy := Xy.d1
    have f1_Xy := Xy.frozen 1
    have e_Xy := Xy.d2
    have f2_Xy := Xy.frozen 2
    have l_Xy := Xy.lt
    have m_Xy := Nat.le_of_lt l_Xy
    have p0_Xy := (Xy.old (.cells #[.bool sk, .slice ak lk ck, .slice bk mk dk] 31)).d0
    have q0_Xy := (Xy.old (.cells #[.bool sk, .slice ak lk ck, .slice bk mk dk] 31)).frozen 0
    have p1_Xy := (Xy.old (.cells #[.bool sk, .slice ak lk ck, .slice bk mk dk] 31)).d1
    have q1_Xy := (Xy.old (.cells #[.bool sk, .slice ak lk ck, .slice bk mk dk] 31)).frozen 1
    have p2_Xy := (Xy.old (.cells #[.bool sk, .slice ak lk ck, .slice bk mk dk] 31)).d2
    have q2_Xy := (Xy.old (.cells #[.bool sk, .slice ak lk ck, .slice bk mk dk] 31)).frozen 2
    go_wp2_with fail
    refine ent1 x8 _ _ (Q := fun W => Calls Tryz.prog _ _ W _) ?_
    intro x9 hb hs_x9 Xk
    replace Xr := Va.after hb Xr
    replace Xa := Va.after hb Xa
    replace Xu := Va.after hb Xu
    replace Xb := Va.after hb Xb
    replace Xy := Va.after hb Xy
    replace hr := Rt.after hb hr
    replace ha := Rr.after hb ha
    replace hu := Rt.after hb hu
    replace hb_ := Rr.after hb hb_
    replace hy := Rt.after hb hy
    replace hk := Rr.after hb hk
    replace B0 := step B0 hb
    clear hb hs_x9
    refine (is7 sx ax lx cx zx bx mx dx yx _ sk ak lk ck zk bk mk dk yk x9 hy hk).mono ?_
    rintro e x10 ⟨rfl, hb⟩
    replace Xr := Va.after hb Xr
    replace Xa := Va.after hb Xa
    replace Xu := Va.after hb Xu
    replace Xb := Va.after hb Xb
    replace Xy := Va.after hb Xy
    replace Xk := Va.after hb Xk
    replace hr := Rt.after hb hr
    replace ha := Rr.after hb ha
    replace hu := Rt.after hb hu
    replace hb_ := Rr.after hb hb_
    replace hy := Rt.after hb hy
    replace hk := Rr.after hb hk
    replace B0 := step B0 hb
    clear hb
    clear c_Xy f0_Xy d_Xy f1_Xy e_Xy f2_Xy l_Xy m_Xy p0_Xy q0_Xy p1_Xy q1_Xy p2_Xy q2_Xy
    go_wp2_with fail
    go_ret
    exact ⟨rfl, B0⟩
end Go.Proofs.YtegfklapgbggfaaGreat
