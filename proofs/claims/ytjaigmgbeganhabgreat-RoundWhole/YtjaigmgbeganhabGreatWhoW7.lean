/-
  The walk of RoundWhole: each call by its contract.
-/
import Derived.Test.YtjaigmgbeganhabGreatRd5
import Derived.Test.YtjaigmgbeganhabGreatAw7
import Derived.Test.YtjaigmgbeganhabGreatMd7
import Derived.Test.YtjaigmgbeganhabGreatRt6
namespace Go.Proofs.YtjaigmgbeganhabGreat
open Go.RowKit Go.Shelf
set_option linter.unusedVariables false

theorem pick7b (x n p : Int) (h1 : -9223372036854775808 ≤ x) (h2 : x ≤ 9223372036854775807) (hn : 1 ≤ n) (hn2 : n ≤ 100000) (hp : x % n = p) (w : World) :
    Calls Tryz.prog 10 #[.int .i64 x, .int .i64 n] w fun e w' => e = .returned (.int .i64 p) ∧ Below w.heap.size w w' := by
  subst hp
  refine (pick7 x n h1 h2 hn hn2 w).mono ?_
  rintro e w' ⟨rfl, rfl⟩
  exact ⟨rfl, Below.refl _ _⟩
theorem divInt_int (k : Int) : Rat.divInt k 1 = (k : Rat) := by rw [show (1 : Int) = ((1 : Nat) : Int) from rfl, Rat.divInt_ofNat, Rat.mkRat_one]
theorem int64_short {k : Int} (h0 : -9223372036854775808 ≤ k) (h1 : k ≤ 9223372036854775807) : Short (k : Rat) := ⟨Int.lt_of_lt_of_le (show ((k.natAbs : Nat) : Int) < pw 1 from Int.lt_of_le_of_lt (show _ ≤ (9223372036854775808 : Int) by omega) (by decide)) (pw_mono (by omega)), one_lt_pw (by omega)⟩
theorem short_zero : Short 0 := ⟨Int.lt_trans (by decide) (one_lt_pw (n := 1024) (by omega)), one_lt_pw (by omega)⟩
/-- What stays when it is rounded again. -/
theorem ra_again {q : Int} {x y t : Rat} {k er er' : Int} {z : Rat} (ht : 0 < t.num) (hx : x = (k : Rat) * t) (hS : Short x) (h : RA (uv q x t) er' z) : er' = 0 ∧ z = x := by
  rw [uv_self ht hx] at h
  rcases h with ⟨-, e1, e2⟩ | ⟨h, -⟩
  · exact ⟨e1, e2⟩
  · exact absurd hS h

set_option maxHeartbeats 32000000 in
set_option maxRecDepth 8000 in
theorem whole7_walk (s0 : Bool) (a0 : Option Addr) (l0 c0 : Nat) (z0 : List Int) (b0 : Option Addr) (m0 d0 : Nat) (y0 : List Int) (s1 : Bool) (a1 : Option Addr) (l1 c1 : Nat) (z1 : List Int) (b1 : Option Addr) (m1 d1 : Nat) (y1 : List Int) (n x g : Int) (w : World) (h1 : Sl w a0 l0 z0) (h2 : Sl w b0 m0 y0) (k1 : l0 ≤ c0) (k2 : m0 ≤ d0) (h3 : Sl w a1 l1 z1) (h4 : Sl w b1 m1 y1) (k3 : l1 ≤ c1) (k4 : m1 ≤ d1) (wn : (Lit.int .i64 n).wf = true) (wx : (Lit.int .i64 x).wf = true) (wg : (Lit.int .i64 g).wf = true) :
    Calls Tryz.prog 4 #[.agg #[.bool s0, .slice a0 l0 c0, .slice b0 m0 d0], .agg #[.bool s1, .slice a1 l1 c1, .slice b1 m1 d1], .int .i64 n, .int .i64 x, .int .i64 g] w fun e w' => e = .returned (.bool true) ∧ Below w.heap.size w w' := by
  have hn : -9223372036854775808 ≤ n ∧ n ≤ 9223372036854775807 := by simp [Lit.wf, IntKind.min, IntKind.max, IntKind.signed, IntKind.bits] at wn; omega
  have hx : -9223372036854775808 ≤ x ∧ x ≤ 9223372036854775807 := by simp [Lit.wf, IntKind.min, IntKind.max, IntKind.signed, IntKind.bits] at wx; omega
  have hg : -9223372036854775808 ≤ g ∧ g ≤ 9223372036854775807 := by simp [Lit.wf, IntKind.min, IntKind.max, IntKind.signed, IntKind.bits] at wg; omega
  obtain ⟨q, hq⟩ : ∃ q, 1 + x % 5 = q := ⟨_, rfl⟩
  have HQ : Hid (1 + x % 5 = q ∧ 1 ≤ q ∧ q ≤ 5) := ⟨hq, by omega, by omega⟩
  obtain ⟨p, hp⟩ : ∃ p : Nat, g % 9 = (p : Int) := ⟨(g % 9).toNat, by omega⟩
  have HP : Hid (g % 9 = (p : Int) ∧ p ≤ 8) := ⟨hp, by omega⟩
  have HN : Hid (-9223372036854775808 ≤ n ∧ n ≤ 9223372036854775807) := hn
  have HX : Hid (-9223372036854775808 ≤ x ∧ x ≤ 9223372036854775807) := hx
  have HG : Hid (-9223372036854775808 ≤ g ∧ g ≤ 9223372036854775807) := hg
  clear hq hp hx hn hg wx wn wg
  have B0 : Below w.heap.size w w := Below.refl _ _
  go_enter Tryz.func4, Tryz.ntmps4
  go_wp2_with fail
  refine ent2 w _ _ _ _ (Q := fun W => Calls Tryz.prog _ _ W _) ?_
  intro x1 hb hs_x1 V0 V1
  replace h1 := Sl.after hb h1
  replace h2 := Sl.after hb h2
  replace h3 := Sl.after hb h3
  replace h4 := Sl.after hb h4
  replace B0 := step B0 hb
  clear hb hs_x1
  refine (of7 s0 a0 l0 c0 z0 b0 m0 d0 y0 x1 h1 h2 k1 k2).mono ?_
  rintro e x2 ⟨sr, ar, lr, cr, zr, br, mr, dr, yr, sq, aq, lq, cq, zq, bq, mq, dq, yq, v, rfl, hr, hq, hb⟩
  replace V0 := Va.after hb V0
  replace V1 := Va.after hb V1
  replace h1 := Sl.after hb h1
  replace h2 := Sl.after hb h2
  replace h3 := Sl.after hb h3
  replace h4 := Sl.after hb h4
  replace B0 := step B0 hb
  clear hb
  have hvS : Hid (Short v) := hr.2.2.2.2
  have c_V1 := V1.d0
  have f0_V1 := V1.frozen 0
  have d_V1 := V1.d1
  have f1_V1 := V1.frozen 1
  have e_V1 := V1.d2
  have f2_V1 := V1.frozen 2
  have l_V1 := V1.lt
  have m_V1 := Nat.le_of_lt l_V1
  have p0_V1 := ((V1.old (.cells #[.bool sr, .slice ar lr cr, .slice br mr dr] 30)).old (.cells #[.bool sq, .slice aq lq cq, .slice bq mq dq] 31)).d0
  have q0_V1 := ((V1.old (.cells #[.bool sr, .slice ar lr cr, .slice br mr dr] 30)).old (.cells #[.bool sq, .slice aq lq cq, .slice bq mq dq] 31)).frozen 0
  have p1_V1 := ((V1.old (.cells #[.bool sr, .slice ar lr cr, .slice br mr dr] 30)).old (.cells #[.bool sq, .slice aq lq cq, .slice bq mq dq] 31)).d1
  have q1_V1 := ((V1.old (.cells #[.bool sr, .slice ar lr cr, .slice br mr dr] 30)).old (.cells #[.bool sq, .slice aq lq cq, .slice bq mq dq] 31)).frozen 1
  have p2_V1 := ((V1.old (.cells #[.bool sr, .slice ar lr cr, .slice br mr dr] 30)).old (.cells #[.bool sq, .slice aq lq cq, .slice bq mq dq] 31)).d2
  have q2_V1 := ((V1.old (.cells #[.bool sr, .slice ar lr cr, .slice br mr dr] 30)).old (.cells #[.bool sq, .slice aq lq cq, .slice bq mq dq] 31)).frozen 2
  go_wp2_with fail
  clear h1 h2 V0
  refine ent2 x2 _ _ _ _ (Q := fun W => Calls Tryz.prog _ _ W _) ?_
  intro x3 hb hs_x3 Xr Xq
  replace V1 := Va.after hb V1
  replace h3 := Sl.after hb h3
  replace h4 := Sl.after hb h4
  replace hr := Rt.after hb hr
  replace hq := Rr.after hb hq
  replace B0 := step B0 hb
  clear hb hs_x3
  clear hq Xq
  refine (of7 s1 a1 l1 c1 z1 b1 m1 d1 y1 x3 h3 h4 k3 k4).mono ?_
  rintro e x4 ⟨su, au, lu, cu, zu, bu, mu, du, yu, sq, aq, lq, cq, zq, bq, mq, dq, yq, u, rfl, hu, hq, hb⟩
  replace V1 := Va.after hb V1
  replace Xr := Va.after hb Xr
  replace h3 := Sl.after hb h3
  replace h4 := Sl.after hb h4
  replace hr := Rt.after hb hr
  replace B0 := step B0 hb
  clear hb
  have hlr := Xr.lt
  have hw4 := B0.size
  clear c_V1 f0_V1 d_V1 f1_V1 e_V1 f2_V1 l_V1 m_V1 p0_V1 q0_V1 p1_V1 q1_V1 p2_V1 q2_V1
  go_wp2_with fail
  clear h3 h4 V1
  refine ent2 x4 _ _ _ _ (Q := fun W => Calls Tryz.prog _ _ W _) ?_
  intro x5 hb hs_x5 Xu Xq
  replace Xr := Va.after hb Xr
  replace hr := Rt.after hb hr
  replace hu := Rt.after hb hu
  replace hq := Rr.after hb hq
  replace B0 := step B0 hb
  clear hb hs_x5
  clear hq Xq
  refine (mode7q x q HX.out.1 HX.out.2 HQ.out.1 x5).mono ?_
  rintro e x6 ⟨rfl, hb⟩
  replace Xr := Va.after hb Xr
  replace Xu := Va.after hb Xu
  replace hr := Rt.after hb hr
  replace hu := Rt.after hb hu
  replace B0 := step B0 hb
  clear hb
  have c_Xu := Xu.d0
  have f0_Xu := Xu.frozen 0
  have d_Xu := Xu.d1
  have f1_Xu := Xu.frozen 1
  have e_Xu := Xu.d2
  have f2_Xu := Xu.frozen 2
  have l_Xu := Xu.lt
  have m_Xu := Nat.le_of_lt l_Xu
  go_wp2_with fail
  obtain ⟨sg, hsg⟩ : ∃ sg, Int.sign u.num = sg := ⟨_, rfl⟩
  have HSG : Hid (Int.sign u.num = sg) := hsg
  clear hsg
  refine (qsign_any su au lu cu zu bu mu du yu u x6 hu).mono ?_
  rintro e x7 ⟨rfl, hb⟩
  replace Xr := Va.after hb Xr
  replace Xu := Va.after hb Xu
  replace hr := Rt.after hb hr
  replace hu := Rt.after hb hu
  replace B0 := step B0 hb
  clear hb
  rw [HSG.out]
  go_upto_if 53 with fail
  go_cut [] (fun  wx => ∃ (sw : Bool) (aw : Option Addr) (lw cw : Nat) (zw : List Int) (bw : Option Addr) (mw dw : Nat) (yw : List Int) (t : Rat), Hid (Va wx (x2.heap.size) 30 #[.bool sr, .slice ar lr cr, .slice br mr dr]) ∧ Hid (Rt wx sr ar lr cr zr br mr dr yr v) ∧ Hid (Rt wx sw aw lw cw zw bw mw dw yw t) ∧ Hid (Va wx (x4.heap.size) 30 #[.bool sw, .slice aw lw cw, .slice bw mw dw]) ∧ Hid (0 ≤ t.num) ∧ Hid (Below w.heap.size w wx))
  case first =>
    by_cases hs : u.num < 0
    ·
      obtain rfl : sg = -1 := by rw [← HSG.out]; exact Int.sign_eq_neg_one_of_neg hs
      have HS : Hid (u.num < 0) := hs
      clear hs
      clear c_Xu f0_Xu d_Xu f1_Xu e_Xu f2_Xu l_Xu m_Xu
      have c_Xu := Xu.d0
      have f0_Xu := Xu.frozen 0
      have d_Xu := Xu.d1
      have f1_Xu := Xu.frozen 1
      have e_Xu := Xu.d2
      have f2_Xu := Xu.frozen 2
      have l_Xu := Xu.lt
      have m_Xu := Nat.le_of_lt l_Xu
      go_wp2_with fail
      refine (qneg_any su au lu cu zu bu mu du yu u x7 hu).mono ?_
      rintro e x8 ⟨s6, rfl, h6, hb⟩
      replace Xr := Va.after hb Xr
      replace Xu := Va.after hb Xu
      replace hr := Rt.after hb hr
      replace hu := Rt.after hb hu
      replace B0 := step B0 hb
      clear hb
      clear c_Xu f0_Xu d_Xu f1_Xu e_Xu f2_Xu l_Xu m_Xu
      have c_Xu := Xu.d0
      have f0_Xu := Xu.frozen 0
      have d_Xu := Xu.d1
      have f1_Xu := Xu.frozen 1
      have e_Xu := Xu.d2
      have f2_Xu := Xu.frozen 2
      have l_Xu := Xu.lt
      have m_Xu := Nat.le_of_lt l_Xu
      go_wp2_with fail
      go_meet
      exact ⟨s6, au, lu, cu, zu, bu, mu, du, yu, -u, Xr.stay (fa3 _ _ _ _ _) (Nat.ne_of_lt hlr), hr.far Xu (noInt3 _ _ _ _ _ _ _) (fa3 _ _ _ _ _), h6.far Xu (noInt3 _ _ _ _ _ _ _) (fa3 _ _ _ _ _), Xu.set3 _ _ _, by show 0 ≤ (-u).num; rw [Rat.neg_num]; have := HS.out; omega, belo3 B0 hw4 _ _ _⟩
    ·
      have t0 : decide (sg < 0) = false := by
        have h5 := HSG.out
        rcases Int.lt_trichotomy u.num 0 with h6 | h6 | h6
        · exact absurd h6 hs
        · rw [← h5, h6]; rfl
        · rw [← h5, Int.sign_eq_one_of_pos h6]; rfl
      have t1 : ¬ (sg < 0) := by simpa using t0
      go_wp2_with fail
      go_meet
      exact ⟨su, au, lu, cu, zu, bu, mu, du, yu, u, Xr, hr, hu, Xu, (by show 0 ≤ u.num; omega), B0⟩
  case rest =>
    clear c_Xu f0_Xu d_Xu f1_Xu e_Xu f2_Xu l_Xu m_Xu
    clear Xr Xu hr hu B0
    obtain ⟨sw, aw, lw, cw, zw, bw, mw, dw, yw, t, Xr', hr', ht', Xt', HT0', B0'⟩ := hcut
    have Xr := Xr'.out
    have hr := hr'.out
    have ht := ht'.out
    have Xt := Xt'.out
    have HT0 := HT0'.out
    have B0 := B0'.out
    clear Xr' hr' ht' Xt' HT0' B0'
    have HT : Hid (0 ≤ t.num) := HT0
    clear HT0
    try clear HSG
    go_wp2_with fail
    refine (qsmall_to n 1 HN.out.1 HN.out.2 (by omega) (by omega) (by omega) (n : Rat) wc (divInt_int n) (int64_short HN.out.1 HN.out.2)).mono ?_
    rintro e x8 ⟨sn, an, ln, cn, zn, bn, mn, dn, yn, rfl, hn, hb⟩
    replace Xr := Va.after hb Xr
    replace Xt := Va.after hb Xt
    replace hr := Rt.after hb hr
    replace ht := Rt.after hb ht
    replace B0 := step B0 hb
    clear hb
    have c_Xt := Xt.d0
    have f0_Xt := Xt.frozen 0
    have d_Xt := Xt.d1
    have f1_Xt := Xt.frozen 1
    have e_Xt := Xt.d2
    have f2_Xt := Xt.frozen 2
    have l_Xt := Xt.lt
    have m_Xt := Nat.le_of_lt l_Xt
    have p0_Xt := (Xt.old (.cells #[.bool sn, .slice an ln cn, .slice bn mn dn] 30)).d0
    have q0_Xt := (Xt.old (.cells #[.bool sn, .slice an ln cn, .slice bn mn dn] 30)).frozen 0
    have p1_Xt := (Xt.old (.cells #[.bool sn, .slice an ln cn, .slice bn mn dn] 30)).d1
    have q1_Xt := (Xt.old (.cells #[.bool sn, .slice an ln cn, .slice bn mn dn] 30)).frozen 1
    have p2_Xt := (Xt.old (.cells #[.bool sn, .slice an ln cn, .slice bn mn dn] 30)).d2
    have q2_Xt := (Xt.old (.cells #[.bool sn, .slice an ln cn, .slice bn mn dn] 30)).frozen 2
    go_wp2_with fail
    refine ent1 x8 _ _ (Q := fun W => Calls Tryz.prog _ _ W _) ?_
    intro x9 hb hs_x9 Xn
    replace Xr := Va.after hb Xr
    replace Xt := Va.after hb Xt
    replace hr := Rt.after hb hr
    replace ht := Rt.after hb ht
    replace hn := Rt.after hb hn
    replace B0 := step B0 hb
    clear hb hs_x9
    refine (qmul_any sn an ln cn zn bn mn dn yn (n : Rat) sw aw lw cw zw bw mw dw yw t x9 hn ht).mono ?_
    rintro e x10 ⟨ea, sa, aa, la, ca, za, ba, ma, da, ya, va, rfl, ha, hra, hb⟩
    replace Xr := Va.after hb Xr
    replace Xt := Va.after hb Xt
    replace Xn := Va.after hb Xn
    replace hr := Rt.after hb hr
    replace ht := Rt.after hb ht
    replace hn := Rt.after hb hn
    replace B0 := step B0 hb
    clear hb
    go_upto_region 10 with fail
    refine ent1 x10 _ _ (Q := fun W => Code.wp Tryz.prog _ _ _ W) ?_
    intro x11 hb hs_x11 Xa
    replace Xr := Va.after hb Xr
    replace Xt := Va.after hb Xt
    replace Xn := Va.after hb Xn
    replace hr := Rt.after hb hr
    replace ht := Rt.after hb ht
    replace hn := Rt.after hb hn
    replace ha := Rt.after hb ha
    replace B0 := step B0 hb
    clear hb hs_x11
    clear Xn hn
    go_cut [79] (fun s79 wx => ∃ (bb : Bool), s79 = .bool bb ∧ Hid (Va wx (x2.heap.size) 30 #[.bool sr, .slice ar lr cr, .slice br mr dr]) ∧ Hid (Va wx (x4.heap.size) 30 #[.bool sw, .slice aw lw cw, .slice bw mw dw]) ∧ Hid (Va wx (x10.heap.size) 30 #[.bool sa, .slice aa la ca, .slice ba ma da]) ∧ Hid (Rt wx sr ar lr cr zr br mr dr yr v) ∧ Hid (Rt wx sw aw lw cw zw bw mw dw yw t) ∧ Hid (Rt wx sa aa la ca za ba ma da ya va) ∧ Hid (bb = true → 0 < t.num ∧ ea = 0) ∧ Hid (Below w.heap.size w wx))
    case first =>
      by_cases hz : t.num = 0
      ·
        have HZ : Hid (t.num = 0) := hz
        clear hz
        clear c_Xt f0_Xt d_Xt f1_Xt e_Xt f2_Xt l_Xt m_Xt p0_Xt q0_Xt p1_Xt q1_Xt p2_Xt q2_Xt
        have c_Xt := Xt.d0
        have f0_Xt := Xt.frozen 0
        have d_Xt := Xt.d1
        have f1_Xt := Xt.frozen 1
        have e_Xt := Xt.d2
        have f2_Xt := Xt.frozen 2
        have l_Xt := Xt.lt
        have m_Xt := Nat.le_of_lt l_Xt
        go_wp2_with fail
        refine (qsign_any sw aw lw cw zw bw mw dw yw t x11 ht).mono ?_
        rintro e x12 ⟨rfl, hb⟩
        replace Xr := Va.after hb Xr
        replace Xt := Va.after hb Xt
        replace Xa := Va.after hb Xa
        replace hr := Rt.after hb hr
        replace ht := Rt.after hb ht
        replace ha := Rt.after hb ha
        replace B0 := step B0 hb
        clear hb
        rw [HZ.out, Int.sign_zero]
        go_wp2_with fail
        go_meet
        exact ⟨false, rfl, Xr, Xt, Xa, hr, ht, ha, (by show _ → _; intro h; cases h), B0⟩
      ·
        have HZ : Hid (0 < t.num) := by show 0 < t.num; have := HT.out; omega
        clear hz
        rcases hra.out with ⟨-, e8, -⟩ | ⟨-, e8, -⟩
        ·
          have E8 : Hid (ea = 0) := e8
          subst e8
          clear c_Xt f0_Xt d_Xt f1_Xt e_Xt f2_Xt l_Xt m_Xt p0_Xt q0_Xt p1_Xt q1_Xt p2_Xt q2_Xt
          have c_Xt := Xt.d0
          have f0_Xt := Xt.frozen 0
          have d_Xt := Xt.d1
          have f1_Xt := Xt.frozen 1
          have e_Xt := Xt.d2
          have f2_Xt := Xt.frozen 2
          have l_Xt := Xt.lt
          have m_Xt := Nat.le_of_lt l_Xt
          go_wp2_with fail
          refine (qsign_any sw aw lw cw zw bw mw dw yw t x11 ht).mono ?_
          rintro e x12 ⟨rfl, hb⟩
          replace Xr := Va.after hb Xr
          replace Xt := Va.after hb Xt
          replace Xa := Va.after hb Xa
          replace hr := Rt.after hb hr
          replace ht := Rt.after hb ht
          replace ha := Rt.after hb ha
          replace B0 := step B0 hb
          clear hb
          rw [Int.sign_eq_one_of_pos HZ.out]
          go_wp2_with fail
          go_meet
          exact ⟨true, rfl, Xr, Xt, Xa, hr, ht, ha, (by show _ → _ ∧ _; exact fun _ => ⟨HZ.out, by first | rfl | trivial⟩), B0⟩
        ·
          have E8 : Hid (ea = 3) := e8
          subst e8
          clear c_Xt f0_Xt d_Xt f1_Xt e_Xt f2_Xt l_Xt m_Xt p0_Xt q0_Xt p1_Xt q1_Xt p2_Xt q2_Xt
          have c_Xt := Xt.d0
          have f0_Xt := Xt.frozen 0
          have d_Xt := Xt.d1
          have f1_Xt := Xt.frozen 1
          have e_Xt := Xt.d2
          have f2_Xt := Xt.frozen 2
          have l_Xt := Xt.lt
          have m_Xt := Nat.le_of_lt l_Xt
          go_wp2_with fail
          refine (qsign_any sw aw lw cw zw bw mw dw yw t x11 ht).mono ?_
          rintro e x12 ⟨rfl, hb⟩
          replace Xr := Va.after hb Xr
          replace Xt := Va.after hb Xt
          replace Xa := Va.after hb Xa
          replace hr := Rt.after hb hr
          replace ht := Rt.after hb ht
          replace ha := Rt.after hb ha
          replace B0 := step B0 hb
          clear hb
          rw [Int.sign_eq_one_of_pos HZ.out]
          go_wp2_with fail
          go_meet
          exact ⟨false, rfl, Xr, Xt, Xa, hr, ht, ha, (by show _ → _; intro h; cases h), B0⟩
    case rest =>
      clear c_Xt f0_Xt d_Xt f1_Xt e_Xt f2_Xt l_Xt m_Xt p0_Xt q0_Xt p1_Xt q1_Xt p2_Xt q2_Xt
      clear Xr Xt Xa hr ht ha B0
      obtain ⟨bb, rfl, Xr', Xt', Xa', hr', ht', ha', HB0', B0'⟩ := hcut
      have Xr := Xr'.out
      have Xt := Xt'.out
      have Xa := Xa'.out
      have hr := hr'.out
      have ht := ht'.out
      have ha := ha'.out
      have HB0 := HB0'.out
      have B0 := B0'.out
      clear Xr' Xt' Xa' hr' ht' ha' HB0' B0'
      have HB : Hid (bb = true → 0 < t.num ∧ ea = 0) := HB0
      clear HB0
      go_upto_if 79 with fail
      go_cut [] (fun  wx => Hid (Va wx (x2.heap.size) 30 #[.bool sr, .slice ar lr cr, .slice br mr dr]) ∧ Hid (Rt wx sr ar lr cr zr br mr dr yr v) ∧ Hid (Below w.heap.size w wx))
      case first =>
        cases bb
        ·
          go_wp2_with fail
          go_meet
          exact ⟨Xr, hr, B0⟩
        ·
          have HZ : Hid (0 < t.num) := (HB.out rfl).1
          obtain rfl : ea = 0 := (HB.out rfl).2
          have HA : Hid (va = (n : Rat) * t ∧ Short va) := by
            rcases hra.out with ⟨h5, -, h6⟩ | ⟨-, h6, -⟩
            · exact ⟨h6, by rw [h6]; exact h5⟩
            · cases h6
          clear HB hra
          have c_Xa := Xa.d0
          have f0_Xa := Xa.frozen 0
          have d_Xa := Xa.d1
          have f1_Xa := Xa.frozen 1
          have e_Xa := Xa.d2
          have f2_Xa := Xa.frozen 2
          have l_Xa := Xa.lt
          have m_Xa := Nat.le_of_lt l_Xa
          have c_Xt := Xt.d0
          have f0_Xt := Xt.frozen 0
          have d_Xt := Xt.d1
          have f1_Xt := Xt.frozen 1
          have e_Xt := Xt.d2
          have f2_Xt := Xt.frozen 2
          have l_Xt := Xt.lt
          have m_Xt := Nat.le_of_lt l_Xt
          go_wp2_with fail
          refine (units_ok q HQ.out.2.1 HQ.out.2.2 sa aa la ca za ba ma da ya va sw aw lw cw zw bw mw dw yw t wc ha ht HZ).mono ?_
          rintro e x12 ⟨e1, sc, ac, lc, cc, zc, bc, mc, dc, yc, vc, rfl, hc, hra1, hb⟩
          replace Xr := Va.after hb Xr
          replace Xt := Va.after hb Xt
          replace Xa := Va.after hb Xa
          replace hr := Rt.after hb hr
          replace ht := Rt.after hb ht
          replace ha := Rt.after hb ha
          replace B0 := step B0 hb
          clear hb
          obtain ⟨e8, e9⟩ := ra_again (y := 0) (er := 0) HZ.out HA.out.1 HA.out.2 hra1.out
          subst e8
          subst e9
          clear hra1
          clear c_Xa f0_Xa d_Xa f1_Xa e_Xa f2_Xa l_Xa m_Xa c_Xt f0_Xt d_Xt f1_Xt e_Xt f2_Xt l_Xt m_Xt
          have c_Xa := Xa.d0
          have f0_Xa := Xa.frozen 0
          have d_Xa := Xa.d1
          have f1_Xa := Xa.frozen 1
          have e_Xa := Xa.d2
          have f2_Xa := Xa.frozen 2
          have l_Xa := Xa.lt
          have m_Xa := Nat.le_of_lt l_Xa
          have p0_Xa := (Xa.old (.cells #[.bool sc, .slice ac lc cc, .slice bc mc dc] 30)).d0
          have q0_Xa := (Xa.old (.cells #[.bool sc, .slice ac lc cc, .slice bc mc dc] 30)).frozen 0
          have p1_Xa := (Xa.old (.cells #[.bool sc, .slice ac lc cc, .slice bc mc dc] 30)).d1
          have q1_Xa := (Xa.old (.cells #[.bool sc, .slice ac lc cc, .slice bc mc dc] 30)).frozen 1
          have p2_Xa := (Xa.old (.cells #[.bool sc, .slice ac lc cc, .slice bc mc dc] 30)).d2
          have q2_Xa := (Xa.old (.cells #[.bool sc, .slice ac lc cc, .slice bc mc dc] 30)).frozen 2
          go_wp2_with fail
          refine ent1 x12 _ _ (Q := fun W => Calls Tryz.prog _ _ W _) ?_
          intro x13 hb hs_x13 Xc
          replace Xr := Va.after hb Xr
          replace Xt := Va.after hb Xt
          replace Xa := Va.after hb Xa
          replace hr := Rt.after hb hr
          replace ht := Rt.after hb ht
          replace ha := Rt.after hb ha
          replace hc := Rt.after hb hc
          replace B0 := step B0 hb
          clear hb hs_x13
          refine (qcompare_any sc ac lc cc zc bc mc dc yc vc sa aa la ca za ba ma da ya vc x13 hc ha).mono ?_
          rintro e x14 ⟨rfl, hb⟩
          replace Xr := Va.after hb Xr
          replace Xt := Va.after hb Xt
          replace Xa := Va.after hb Xa
          replace Xc := Va.after hb Xc
          replace hr := Rt.after hb hr
          replace ht := Rt.after hb ht
          replace ha := Rt.after hb ha
          replace hc := Rt.after hb hc
          replace B0 := step B0 hb
          clear hb
          rw [qcmp_eq]
          clear c_Xa f0_Xa d_Xa f1_Xa e_Xa f2_Xa l_Xa m_Xa p0_Xa q0_Xa p1_Xa q1_Xa p2_Xa q2_Xa
          have c_Xr := Xr.d0
          have f0_Xr := Xr.frozen 0
          have d_Xr := Xr.d1
          have f1_Xr := Xr.frozen 1
          have e_Xr := Xr.d2
          have f2_Xr := Xr.frozen 2
          have l_Xr := Xr.lt
          have m_Xr := Nat.le_of_lt l_Xr
          have c_Xt := Xt.d0
          have f0_Xt := Xt.frozen 0
          have d_Xt := Xt.d1
          have f1_Xt := Xt.frozen 1
          have e_Xt := Xt.d2
          have f2_Xt := Xt.frozen 2
          have l_Xt := Xt.lt
          have m_Xt := Nat.le_of_lt l_Xt
          go_wp2_with fail
          clear Xc hc Xa ha
          refine (units_ok q HQ.out.2.1 HQ.out.2.2 sr ar lr cr zr br mr dr yr v sw aw lw cw zw bw mw dw yw t x14 hr ht HZ).mono ?_
          rintro e x15 ⟨e2, sk, ak, lk, ck, zk, bk, mk, dk, yk, vy, rfl, hy, hra2, hb⟩
          replace Xr := Va.after hb Xr
          replace Xt := Va.after hb Xt
          replace hr := Rt.after hb hr
          replace ht := Rt.after hb ht
          replace B0 := step B0 hb
          clear hb
          clear c_Xr f0_Xr d_Xr f1_Xr e_Xr f2_Xr l_Xr m_Xr c_Xt f0_Xt d_Xt f1_Xt e_Xt f2_Xt l_Xt m_Xt
          have c_Xt := Xt.d0
          have f0_Xt := Xt.frozen 0
          have d_Xt := Xt.d1
          have f1_Xt := Xt.frozen 1
          have e_Xt := Xt.d2
          have f2_Xt := Xt.frozen 2
          have l_Xt := Xt.lt
          have m_Xt := Nat.le_of_lt l_Xt
          have p0_Xt := (Xt.old (.cells #[.bool sk, .slice ak lk ck, .slice bk mk dk] 30)).d0
          have q0_Xt := (Xt.old (.cells #[.bool sk, .slice ak lk ck, .slice bk mk dk] 30)).frozen 0
          have p1_Xt := (Xt.old (.cells #[.bool sk, .slice ak lk ck, .slice bk mk dk] 30)).d1
          have q1_Xt := (Xt.old (.cells #[.bool sk, .slice ak lk ck, .slice bk mk dk] 30)).frozen 1
          have p2_Xt := (Xt.old (.cells #[.bool sk, .slice ak lk ck, .slice bk mk dk] 30)).d2
          have q2_Xt := (Xt.old (.cells #[.bool sk, .slice ak lk ck, .slice bk mk dk] 30)).frozen 2
          go_wp2_with fail
          refine ent1 x15 _ _ (Q := fun W => Calls Tryz.prog _ _ W _) ?_
          intro x16 hb hs_x16 Xy
          replace Xr := Va.after hb Xr
          replace Xt := Va.after hb Xt
          replace hr := Rt.after hb hr
          replace ht := Rt.after hb ht
          replace hy := Rt.after hb hy
          replace B0 := step B0 hb
          clear hb hs_x16
          refine (units_ok q HQ.out.2.1 HQ.out.2.2 sk ak lk ck zk bk mk dk yk vy sw aw lw cw zw bw mw dw yw t x16 hy ht HZ).mono ?_
          rintro e x17 ⟨e3, sz, az, lz, cz, zz, bz, mz, dz, yz, vz, rfl, hz, hra3, hb⟩
          replace Xr := Va.after hb Xr
          replace Xt := Va.after hb Xt
          replace Xy := Va.after hb Xy
          replace hr := Rt.after hb hr
          replace ht := Rt.after hb ht
          replace hy := Rt.after hb hy
          replace B0 := step B0 hb
          clear hb
          rcases hra2.out with ⟨h5, e8, e9⟩ | ⟨-, e8, -⟩
          ·
            obtain ⟨f8, f9⟩ := ra_again (y := 0) (er := 0) HZ.out (show vy = ((rnd q (v.num * (t.den : Int)) ((v.den : Int) * t.num) : Int) : Rat) * t from e9) (by rw [e9]; exact h5) hra3.out
            subst e8
            subst f8
            subst f9
            clear e9 h5 hra2 hra3
            clear c_Xt f0_Xt d_Xt f1_Xt e_Xt f2_Xt l_Xt m_Xt p0_Xt q0_Xt p1_Xt q1_Xt p2_Xt q2_Xt
            have c_Xy := Xy.d0
            have f0_Xy := Xy.frozen 0
            have d_Xy := Xy.d1
            have f1_Xy := Xy.frozen 1
            have e_Xy := Xy.d2
            have f2_Xy := Xy.frozen 2
            have l_Xy := Xy.lt
            have m_Xy := Nat.le_of_lt l_Xy
            have p0_Xy := (Xy.old (.cells #[.bool sz, .slice az lz cz, .slice bz mz dz] 30)).d0
            have q0_Xy := (Xy.old (.cells #[.bool sz, .slice az lz cz, .slice bz mz dz] 30)).frozen 0
            have p1_Xy := (Xy.old (.cells #[.bool sz, .slice az lz cz, .slice bz mz dz] 30)).d1
            have q1_Xy := (Xy.old (.cells #[.bool sz, .slice az lz cz, .slice bz mz dz] 30)).frozen 1
            have p2_Xy := (Xy.old (.cells #[.bool sz, .slice az lz cz, .slice bz mz dz] 30)).d2
            have q2_Xy := (Xy.old (.cells #[.bool sz, .slice az lz cz, .slice bz mz dz] 30)).frozen 2
            go_wp2_with fail
            refine ent1 x17 _ _ (Q := fun W => Calls Tryz.prog _ _ W _) ?_
            intro x18 hb hs_x18 Xz
            replace Xr := Va.after hb Xr
            replace Xt := Va.after hb Xt
            replace Xy := Va.after hb Xy
            replace hr := Rt.after hb hr
            replace ht := Rt.after hb ht
            replace hy := Rt.after hb hy
            replace hz := Rt.after hb hz
            replace B0 := step B0 hb
            clear hb hs_x18
            refine (qcompare_any sz az lz cz zz bz mz dz yz vz sk ak lk ck zk bk mk dk yk vz x18 hz hy).mono ?_
            rintro e x19 ⟨rfl, hb⟩
            replace Xr := Va.after hb Xr
            replace Xt := Va.after hb Xt
            replace Xy := Va.after hb Xy
            replace Xz := Va.after hb Xz
            replace hr := Rt.after hb hr
            replace ht := Rt.after hb ht
            replace hy := Rt.after hb hy
            replace hz := Rt.after hb hz
            replace B0 := step B0 hb
            clear hb
            rw [qcmp_eq]
            go_wp2_with fail
            go_meet
            exact ⟨Xr, hr, B0⟩
          ·
            subst e8
            clear hra2 hra3
            go_wp2_with fail
            go_meet
            exact ⟨Va.old Xr _, Rt.after ((Below.refl _ _).alloc (Nat.le_refl _) _) hr, B0.alloc B0.size _⟩
      case rest =>
        clear Xr Xt Xa hr ht ha B0
        obtain ⟨Xr', hr', B0'⟩ := hcut
        have Xr := Xr'.out
        have hr := hr'.out
        have B0 := B0'.out
        clear Xr' hr' B0'
        try clear HB hra
        have c_Xr := Xr.d0
        have f0_Xr := Xr.frozen 0
        have d_Xr := Xr.d1
        have f1_Xr := Xr.frozen 1
        have e_Xr := Xr.d2
        have f2_Xr := Xr.frozen 2
        have l_Xr := Xr.lt
        have m_Xr := Nat.le_of_lt l_Xr
        go_wp2_with fail
        refine (to_ok q HQ.out.2.1 HQ.out.2.2 sr ar lr cr zr br mr dr yr v wc hr).mono ?_
        rintro e x12 ⟨si, ai, li, ci, zi, rfl, hi, ei, hb⟩
        replace Xr := Va.after hb Xr
        replace hr := Rt.after hb hr
        replace B0 := step B0 hb
        clear hb
        have EI : Hid (iv si zi = rnd q v.num v.den) := ei
        clear ei
        clear c_Xr f0_Xr d_Xr f1_Xr e_Xr f2_Xr l_Xr m_Xr
        have c_Xr := Xr.d0
        have f0_Xr := Xr.frozen 0
        have d_Xr := Xr.d1
        have f1_Xr := Xr.frozen 1
        have e_Xr := Xr.d2
        have f2_Xr := Xr.frozen 2
        have l_Xr := Xr.lt
        have m_Xr := Nat.le_of_lt l_Xr
        have p0_Xr := (Xr.old (.cells #[.bool si, .slice ai li ci] 28)).d0
        have q0_Xr := (Xr.old (.cells #[.bool si, .slice ai li ci] 28)).frozen 0
        have p1_Xr := (Xr.old (.cells #[.bool si, .slice ai li ci] 28)).d1
        have q1_Xr := (Xr.old (.cells #[.bool si, .slice ai li ci] 28)).frozen 1
        have p2_Xr := (Xr.old (.cells #[.bool si, .slice ai li ci] 28)).d2
        have q2_Xr := (Xr.old (.cells #[.bool si, .slice ai li ci] 28)).frozen 2
        go_wp2_with fail
        refine ent1 x12 _ _ (Q := fun W => Calls Tryz.prog _ _ W _) ?_
        intro x13 hb hs_x13 Xi
        replace Xr := Va.after hb Xr
        replace hr := Rt.after hb hr
        replace hi := It.after hb hi
        replace B0 := step B0 hb
        clear hb hs_x13
        refine (places_ok q HQ.out.2.1 HQ.out.2.2 sr ar lr cr zr br mr dr yr v 0 0 rfl (by omega) x13 hr).mono ?_
        rintro e x14 ⟨e4, sj, aj, lj, cj, zj, bj, mj, dj, yj, vj, rfl, hj, hra4, hb⟩
        replace Xr := Va.after hb Xr
        replace Xi := Va.after hb Xi
        replace hr := Rt.after hb hr
        replace hi := It.after hb hi
        replace B0 := step B0 hb
        clear hb
        have HJ : Hid (e4 = 0 ∧ vj = ((rnd q v.num v.den : Int) : Rat)) := by
          have h5 := hra4.out
          rw [tenth_zero, uv_one] at h5
          rcases h5 with ⟨-, e8, e9⟩ | ⟨h5, -⟩
          · exact ⟨e8, e9⟩
          · exact absurd (rnd_short hvS.out) h5
        obtain rfl : e4 = 0 := HJ.out.1
        clear hra4
        clear c_Xr f0_Xr d_Xr f1_Xr e_Xr f2_Xr l_Xr m_Xr p0_Xr q0_Xr p1_Xr q1_Xr p2_Xr q2_Xr
        have c_Xi := Xi.c0
        have f0_Xi := Xi.frozen 0
        have d_Xi := Xi.c1
        have f1_Xi := Xi.frozen 1
        have l_Xi := Xi.lt
        have m_Xi := Nat.le_of_lt l_Xi
        have p0_Xi := (Xi.old (.cells #[.bool sj, .slice aj lj cj, .slice bj mj dj] 30)).c0
        have q0_Xi := (Xi.old (.cells #[.bool sj, .slice aj lj cj, .slice bj mj dj] 30)).frozen 0
        have p1_Xi := (Xi.old (.cells #[.bool sj, .slice aj lj cj, .slice bj mj dj] 30)).c1
        have q1_Xi := (Xi.old (.cells #[.bool sj, .slice aj lj cj, .slice bj mj dj] 30)).frozen 1
        go_wp2_with fail
        refine ent1 x14 _ _ (Q := fun W => Calls Tryz.prog _ _ W _) ?_
        intro x15 hb hs_x15 Xj
        replace Xr := Va.after hb Xr
        replace Xi := Va.after hb Xi
        replace hr := Rt.after hb hr
        replace hi := It.after hb hi
        replace hj := Rt.after hb hj
        replace B0 := step B0 hb
        clear hb hs_x15
        refine (less7 sj aj lj cj zj bj mj dj yj vj si ai li ci zi (rnd q v.num v.den) 0 x15 hj hi EI.out (rnd_short hvS.out) (by show vj - _ = 0; rw [HJ.out.2, Rat.sub_eq_add_neg, Rat.add_neg_cancel]) short_zero).mono ?_
        rintro e x16 ⟨se, ae, le, ce, ze, be, me, de, ye, rfl, he, hb⟩
        replace Xr := Va.after hb Xr
        replace Xi := Va.after hb Xi
        replace Xj := Va.after hb Xj
        replace hr := Rt.after hb hr
        replace hi := It.after hb hi
        replace hj := Rt.after hb hj
        replace B0 := step B0 hb
        clear hb
        clear c_Xi f0_Xi d_Xi f1_Xi l_Xi m_Xi p0_Xi q0_Xi p1_Xi q1_Xi
        go_wp2_with fail
        refine ent1 x16 _ _ (Q := fun W => Calls Tryz.prog _ _ W _) ?_
        intro x17 hb hs_x17 Xe
        replace Xr := Va.after hb Xr
        replace Xi := Va.after hb Xi
        replace Xj := Va.after hb Xj
        replace hr := Rt.after hb hr
        replace hi := It.after hb hi
        replace hj := Rt.after hb hj
        replace he := Rt.after hb he
        replace B0 := step B0 hb
        clear hb hs_x17
        refine (qsign_any se ae le ce ze be me de ye 0 x17 he).mono ?_
        rintro e x18 ⟨rfl, hb⟩
        replace Xr := Va.after hb Xr
        replace Xi := Va.after hb Xi
        replace Xj := Va.after hb Xj
        replace Xe := Va.after hb Xe
        replace hr := Rt.after hb hr
        replace hi := It.after hb hi
        replace hj := Rt.after hb hj
        replace he := Rt.after hb he
        replace B0 := step B0 hb
        clear hb
        rw [Rat.zero_num, Int.sign_zero]
        go_wp2_with fail
        clear Xe he Xj hj Xi hi
        have w1 : IntKind.i64.wrap ((p : Int) + 1) = (p : Int) + 1 := by rw [IntKind.wrap_i64]; have := HP.out.2; omega
        refine (pick7b g 9 p HG.out.1 HG.out.2 (by omega) (by omega) HP.out.1 x18).mono ?_
        rintro e x19 ⟨rfl, hb⟩
        replace Xr := Va.after hb Xr
        replace hr := Rt.after hb hr
        replace B0 := step B0 hb
        clear hb
        have c_Xr := Xr.d0
        have f0_Xr := Xr.frozen 0
        have d_Xr := Xr.d1
        have f1_Xr := Xr.frozen 1
        have e_Xr := Xr.d2
        have f2_Xr := Xr.frozen 2
        have l_Xr := Xr.lt
        have m_Xr := Nat.le_of_lt l_Xr
        go_wp2_with fail
        refine (places_ok q HQ.out.2.1 HQ.out.2.2 sr ar lr cr zr br mr dr yr v p p rfl (by have := HP.out.2; omega) x19 hr).mono ?_
        rintro e x20 ⟨e5, sf, af, lf, cf, zf, bf, mf, df, yf, vf, rfl, hf, hra5, hb⟩
        replace Xr := Va.after hb Xr
        replace hr := Rt.after hb hr
        replace B0 := step B0 hb
        clear hb
        clear c_Xr f0_Xr d_Xr f1_Xr e_Xr f2_Xr l_Xr m_Xr
        go_wp2_with fail
        refine ent1 x20 _ _ (Q := fun W => Calls Tryz.prog _ _ W _) ?_
        intro x21 hb hs_x21 Xf
        replace Xr := Va.after hb Xr
        replace hr := Rt.after hb hr
        replace hf := Rt.after hb hf
        replace B0 := step B0 hb
        clear hb hs_x21
        refine (places_ok q HQ.out.2.1 HQ.out.2.2 sf af lf cf zf bf mf df yf vf ((p : Int) + 1) (p + 1) (by omega) (by have := HP.out.2; omega) x21 hf).mono ?_
        rintro e x22 ⟨e6, sg, ag, lg, cg, zg, bg, mg, dg, yg, vg, rfl, hg, hra6, hb⟩
        replace Xr := Va.after hb Xr
        replace Xf := Va.after hb Xf
        replace hr := Rt.after hb hr
        replace hf := Rt.after hb hf
        replace B0 := step B0 hb
        clear hb
        go_wp2_with fail
        refine ent1 x22 _ _ (Q := fun W => Calls Tryz.prog _ _ W _) ?_
        intro x23 hb hs_x23 Xg
        replace Xr := Va.after hb Xr
        replace Xf := Va.after hb Xf
        replace hr := Rt.after hb hr
        replace hf := Rt.after hb hf
        replace hg := Rt.after hb hg
        replace B0 := step B0 hb
        clear hb hs_x23
        rcases hra5.out with ⟨h5, e8, e9⟩ | ⟨-, e8, -⟩
        ·
          obtain ⟨f8, f9⟩ := ra_again (y := 0) (er := 0) (k := 10 * rnd q (v.num * ((tenth p).den : Int)) ((v.den : Int) * (tenth p).num)) (by rw [(tenth_parts (p + 1)).1]; omega) (by rw [e9, ← tenth_succ]; rfl) (by rw [e9]; exact h5) hra6.out
          subst e8
          subst f8
          subst f9
          clear e9 h5 hra5 hra6
          refine (awake7 x23).mono ?_
          rintro e x24 ⟨rfl, hb⟩
          replace Xr := Va.after hb Xr
          replace Xf := Va.after hb Xf
          replace Xg := Va.after hb Xg
          replace hr := Rt.after hb hr
          replace hf := Rt.after hb hf
          replace hg := Rt.after hb hg
          replace B0 := step B0 hb
          clear hb
          have c_Xf := Xf.d0
          have f0_Xf := Xf.frozen 0
          have d_Xf := Xf.d1
          have f1_Xf := Xf.frozen 1
          have e_Xf := Xf.d2
          have f2_Xf := Xf.frozen 2
          have l_Xf := Xf.lt
          have m_Xf := Nat.le_of_lt l_Xf
          have c_Xg := Xg.d0
          have f0_Xg := Xg.frozen 0
          have d_Xg := Xg.d1
          have f1_Xg := Xg.frozen 1
          have e_Xg := Xg.d2
          have f2_Xg := Xg.frozen 2
          have l_Xg := Xg.lt
          have m_Xg := Nat.le_of_lt l_Xg
          go_wp2_with fail
          refine (qcompare_any sf af lf cf zf bf mf df yf vg sg ag lg cg zg bg mg dg yg vg x24 hf hg).mono ?_
          rintro e x25 ⟨rfl, hb⟩
          replace Xr := Va.after hb Xr
          replace Xf := Va.after hb Xf
          replace Xg := Va.after hb Xg
          replace hr := Rt.after hb hr
          replace hf := Rt.after hb hf
          replace hg := Rt.after hb hg
          replace B0 := step B0 hb
          clear hb
          rw [qcmp_eq]
          clear c_Xf f0_Xf d_Xf f1_Xf e_Xf f2_Xf l_Xf m_Xf c_Xg f0_Xg d_Xg f1_Xg e_Xg f2_Xg l_Xg m_Xg
          go_wp2_with fail
          go_ret
          exact ⟨rfl, B0⟩
        ·
          subst e8
          clear hra5 hra6
          refine (awake7 x23).mono ?_
          rintro e x24 ⟨rfl, hb⟩
          replace Xr := Va.after hb Xr
          replace Xf := Va.after hb Xf
          replace Xg := Va.after hb Xg
          replace hr := Rt.after hb hr
          replace hf := Rt.after hb hf
          replace hg := Rt.after hb hg
          replace B0 := step B0 hb
          clear hb
          go_wp2_with fail
          go_ret
          exact ⟨rfl, B0⟩
end Go.Proofs.YtjaigmgbeganhabGreat
