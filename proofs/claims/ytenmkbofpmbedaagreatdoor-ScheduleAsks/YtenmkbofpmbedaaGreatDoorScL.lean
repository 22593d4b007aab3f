import Derived.Test.YtenmkbofpmbedaaGreatDoorScK
import Derived.Test.YtenmkbofpmbedaaGreatDoorMgAs
namespace Go.Proofs.YtenmkbofpmbedaaGreatDoor
open Go.RowKit Go.Shelf
set_option linter.unusedVariables false
set_option maxRecDepth 20000

theorem rat_sign9 : Int.sign (0 : Rat).num = 0 := by decide +kernel
def Eqv (w : World) (r q : Rc) : Prop := (q = Rc.nil ∧ Rv w r 0) ∨ ∃ v, Rv w r v ∧ Rn w q v
theorem Eqv.after {w w' : World} (hb : Below w.heap.size w w') {r q : Rc} (h : Eqv w r q) : Eqv w' r q := by
  rcases h with ⟨h1, h2⟩ | ⟨v, h1, h2⟩
  · exact .inl ⟨h1, h2.after hb⟩
  · exact .inr ⟨v, h1.after hb, h2.after hb⟩
theorem Rv.sz {w : World} {r : Rc} {v : Rat} (h : Rv w r v) : Sz 4000 v := (show Sz 1024 v from h.2.2.2.2).mono (by omega)
theorem is_zero (r q : Rc) (w : World) (hr : Rv w r 0) (hq : q = Rc.nil) :
    Calls Tryz.prog 27 #[.agg #[.bool r.s, .slice r.a r.l r.c, .slice r.b r.m r.d], .agg #[.bool q.s, .slice q.a q.l q.c, .slice q.b q.m q.d]] w fun e w' => e = .returned (.bool true) ∧ Below w.heap.size w w' := by
  subst hq
  have B0 : Below w.heap.size w w := Below.refl _ _
  show Calls Tryz.prog 27 #[.agg #[.bool r.s, .slice r.a r.l r.c, .slice r.b r.m r.d], .agg #[.bool false, .slice none 0 0, .slice none 0 0]] w _
  go_enter Tryz.func27, Tryz.ntmps27
  go_wp2_with fail
  refine ent2 w _ _ _ _ (Q := fun W => Calls Tryz.prog _ _ W _) ?_
  intro x1 hb hs_x1 V2 V3
  replace hr := Rv.after hb hr
  replace B0 := step B0 hb
  clear hb hs_x1
  refine (sign_rc r 0 _ hr).mono ?_
  rintro e x2 ⟨rfl, hb⟩
  replace V2 := V2.a hb
  replace V3 := V3.a hb
  replace hr := Rv.after hb hr
  replace B0 := step B0 hb
  clear hb
  rw [rat_sign9]
  go_wp2_with fail
  go_ret
  exact ⟨rfl, B0⟩
theorem is_both (r q : Rc) (w : World) (h : Eqv w r q) :
    Calls Tryz.prog 27 #[.agg #[.bool r.s, .slice r.a r.l r.c, .slice r.b r.m r.d], .agg #[.bool q.s, .slice q.a q.l q.c, .slice q.b q.m q.d]] w fun e w' => e = .returned (.bool true) ∧ Below w.heap.size w w' := by
  rcases h with ⟨h1, h2⟩ | ⟨v, h1, h2⟩
  · exact is_zero r q w h2 h1
  · exact is_rc r q v w h1 h2 h1.sz
def SlR (w : World) (q : Rc) (er : Int) (l : List Pq) (v : Rat) : Prop := (er = 2 ∧ v < 0 ∧ Rv w q 0) ∨ (er = 0 ∧ 0 ≤ v ∧ ∃ k, Bg l v (k + 1) ∧ Rv w q (rq l k))
theorem SlR.after {w w' : World} (hb : Below w.heap.size w w') {q : Rc} {er : Int} {l : List Pq} {v : Rat} (h : SlR w q er l v) : SlR w' q er l v := by
  rcases h with ⟨h0, h1, h2⟩ | ⟨h0, h1, k, h2, h3⟩
  · exact .inl ⟨h0, h1, h2.after hb⟩
  · exact .inr ⟨h0, h1, k, h2, h3.after hb⟩
theorem slope8_any (g b off n c : Nat) (xs : List Pc) (l : List Pq) (r : Rc) (v : Rat) (w : World) (hd : Sd w g b off n c xs l) (hr : Rv w r v) :
    Calls Tryz.prog 25 #[.pointer (some ⟨g, 0, none⟩), .agg #[.bool r.s, .slice r.a r.l r.c, .slice r.b r.m r.d]] w fun e w' => ∃ (q : Rc) (er : Int), e = .returned (.tuple #[.agg #[.bool q.s, .slice q.a q.l q.c, .slice q.b q.m q.d], .int .i64 er]) ∧ Hid (SlR w' q er l v) ∧ Below w.heap.size w w' := by
  by_cases h0 : 0 ≤ v
  · obtain ⟨k, hk⟩ := Bg.ex hd.ok v
    have h1 := hk.pos hd.ok h0
    refine (slope8_ok g b off n c xs l r v w hd hr k hk h0).mono ?_
    rintro e w' ⟨q, rfl, hq, hb⟩
    exact ⟨q, 0, rfl, .inr ⟨rfl, h0, k - 1, by rwa [show k - 1 + 1 = k by omega], hq⟩, hb⟩
  · obtain ⟨sv, hsv⟩ : ∃ s, Int.sign v.num = s := ⟨_, rfl⟩
    have hv : v < 0 := by grind
    have HV : Hid (v < 0) := hv
    have e1 : decide (sv < 0) = true := by have := sgn_lt v; rw [hsv] at this; exact decide_eq_true (this.2 hv)
    clear h0 hv
    have B0 : Below w.heap.size w w := Below.refl _ _
    go_enter Tryz.func25, Tryz.ntmps25
    go_wp2_with fail
    refine ent2 w _ _ _ _ (Q := fun W => Calls Tryz.prog _ _ W _) ?_
    intro x1 hb hs_x1 V3 V4
    replace hd := Sd.after hb hd
    replace hr := Rv.after hb hr
    replace B0 := step B0 hb
    clear hb hs_x1
    have h1 := hd.few.1
    refine (isSch_yes g b off n c _ hd.va h1).mono ?_
    rintro e wz ⟨rfl, hw⟩
    rw [hw]
    clear hw wz h1
    have c_V3 := V3.d0
    have f0_V3 := V3.frozen 0
    have d_V3 := V3.d1
    have f1_V3 := V3.frozen 1
    have e_V3 := V3.d2
    have f2_V3 := V3.frozen 2
    have l_V3 := V3.lt
    have m_V3 := Nat.le_of_lt l_V3
    go_wp2_with fail
    refine (sign_rc r v _ hr).mono ?_
    rintro e x2 ⟨rfl, hb⟩
    replace V3 := V3.a hb
    replace V4 := V4.a hb
    replace hd := Sd.after hb hd
    replace hr := Rv.after hb hr
    replace B0 := step B0 hb
    clear hb
    rw [hsv]
    clear c_V3 f0_V3 d_V3 f1_V3 e_V3 f2_V3 l_V3 m_V3
    have c_V4 := V4.d0
    have f0_V4 := V4.frozen 0
    have d_V4 := V4.d1
    have f1_V4 := V4.frozen 1
    have e_V4 := V4.d2
    have f2_V4 := V4.frozen 2
    have l_V4 := V4.lt
    have m_V4 := Nat.le_of_lt l_V4
    go_wp2_with fail
    clear c_V4 f0_V4 d_V4 f1_V4 e_V4 f2_V4 l_V4 m_V4
    refine bodyPost_ret (results_rt rfl rfl (V4.set3 _ _ _)) rfl ?_
    exact ⟨Rc.nil, 2, rfl, .inl ⟨rfl, HV.out, Rv.nil _⟩, belo3 B0 (by omega) _ _ _⟩
theorem at_both {w : World} {r q : Rc} {e e' : Int} {l : List Pq} {v : Rat} (h : AtR w r e l v) (g : ArR w q e' l v) : e' = e ∧ Eqv w r q := by
  rcases h with ⟨h0, h1, h2⟩ | ⟨h0, h1, h2, h3⟩ | ⟨h0, h1, h2, a, h3, -, h4⟩ <;> rcases g with ⟨g0, g1, g2⟩ | ⟨g0, g1, g2, g3⟩ | ⟨g0, g1, g2, b, g3, g4⟩
  · exact ⟨by omega, .inl ⟨g2, h2⟩⟩
  · exact absurd h1 (Rat.not_lt.2 g1)
  · exact absurd h1 (Rat.not_lt.2 g1)
  · exact absurd g1 (Rat.not_lt.2 h1)
  · exact ⟨by omega, .inl ⟨g3, h3⟩⟩
  · exact absurd g2 h2
  · exact absurd g1 (Rat.not_lt.2 h1)
  · exact absurd h2 g2
  · have e1 := h3.uniq g3
    subst e1
    exact ⟨by omega, .inr ⟨a, h4, g4⟩⟩
theorem slope_both {w : World} {r q : Rc} {e e' : Int} {l : List Pq} {v : Rat} (h : SlR w r e l v) (g : SrR w q e' l v) : e' = e ∧ Eqv w r q := by
  rcases h with ⟨h0, h1, h2⟩ | ⟨h0, h1, k, h2, h3⟩ <;> rcases g with ⟨g0, g1, g2⟩ | ⟨g0, g1, j, g2, g3⟩
  · exact ⟨by omega, .inl ⟨g2, h2⟩⟩
  · exact absurd h1 (Rat.not_lt.2 g1)
  · exact absurd g1 (Rat.not_lt.2 h1)
  · have e1 := h2.uniq g2
    obtain rfl : k = j := by omega
    exact ⟨by omega, .inr ⟨_, h3, g3⟩⟩
theorem next_both {w : World} {r q : Rc} {t u : Bool} {l : List Pq} {n k : Nat} {v : Rat} (hk : Bg l v k) (h : NxR w r t n k l) (g : NrR w q u l n v) : u = t ∧ Eqv w r q := by
  rcases h with ⟨h0, h1, h2⟩ | ⟨h0, h1, h2⟩ <;> rcases g with ⟨g0, j, g1, g2, g3⟩ | ⟨g0, g1, g2⟩
  · have e1 := hk.uniq g1
    subst e1
    exact ⟨by rw [g0, h0], .inr ⟨_, h2, g3⟩⟩
  · have e1 := hk.uniq g1
    omega
  · have e1 := hk.uniq g1
    omega
  · exact ⟨by rw [g0, h0], .inl ⟨g2, h2⟩⟩
set_option maxHeartbeats 32000000 in
theorem asks_walk (a : Option Addr) (n c : Nat) (ps : List Pc) (px : Rc) (w : World) (hT : Tn w) (hL : Le elP w a n ps) (hR : Rp w ps n) (hG : ∀ i, i < n → Lng (ps.getD i pz).1 ∧ Lng (ps.getD i pz).2) (hn : n ≤ 1256584717423) (hx : Rd2 w px) (gx : Lng px) :
    Calls Tryz.prog 5 #[.slice a n c, .agg #[.bool px.s, .slice px.a px.l px.c, .slice px.b px.m px.d]] w fun e w' => e = .returned (.bool true) ∧ Below w.heap.size w w' := by
  have B0 : Below w.heap.size w w := Below.refl _ _
  go_enter Tryz.func5, Tryz.ntmps5
  go_wp2_with fail
  refine ent1 w _ _ (Q := fun W => Calls Tryz.prog _ _ W _) ?_
  intro x1 hb hs_x1 V3
  replace hT := Tn.after hb hT
  replace hL := Le.after hb hL
  replace hR := Rp.after hb hR
  replace hx := Rd2.after hb hx
  replace B0 := step B0 hb
  clear hb hs_x1
  refine (base_any px _ hx gx).mono ?_
  rintro e x2 ⟨r, t, rfl, hbs, hb⟩
  replace V3 := V3.a hb
  replace hT := Tn.after hb hT
  replace hL := Le.after hb hL
  replace hR := Rp.after hb hR
  replace hx := Rd2.after hb hx
  replace B0 := step B0 hb
  clear hb
  have hb9 : BsR x2 r t px := hbs.out
  clear hbs
  cases t
  ·
    clear hb9 V3 hx hL hR hT
    go_wp2_with fail
    go_ret
    exact ⟨rfl, B0.alloc (by have := B0.size; omega) _⟩
  ·
    obtain ⟨v, hv, hr⟩ := Or.elim hb9 (fun h => h.2.2) (fun h => absurd h.1 (by decide))
    have hxn := rd_rn hx hv
    have HSV : Hid (Short v) := hr.2.2.2.2
    clear hb9 hv
    clear hx
    go_wp2_with fail
    have lt_V5_V3 := V3.lt
    refine ent1 x2 _ _ (Q := fun W => Calls Tryz.prog _ _ W _) ?_
    intro x3 hb hs_x3 V5
    replace V3 := V3.a hb
    replace hT := Tn.after hb hT
    replace hL := Le.after hb hL
    replace hR := Rp.after hb hR
    replace hr := Rv.after hb hr
    replace hxn := Rn.after hb hxn
    replace B0 := step B0 hb
    clear hb hs_x3
    refine (rof_any a n c ps _ hL hR).mono ?_
    rintro e x4 ⟨wr, rfl, hwr, hb⟩
    replace V3 := V3.a hb
    replace V5 := V5.a hb
    replace hT := Tn.after hb hT
    replace hL := Le.after hb hL
    replace hR := Rp.after hb hR
    replace hr := Rv.after hb hr
    replace hxn := Rn.after hb hxn
    replace B0 := step B0 hb
    clear hb
    by_cases z : wr = 0
    ·
      have HF : Hid (Fin ps n) := Or.elim hwr.out (fun h => h.2) (fun h => absurd z h.1)
      subst z
      clear hwr
      go_wp2_with fail
      refine (copyPs a n c ps _ hL hR hG hn).mono ?_
      rintro e x5 ⟨a2, c2, qs, rfl, hL2, hR2, hsm, hb⟩
      replace V3 := V3.a hb
      replace V5 := V5.a hb
      replace hT := Tn.after hb hT
      replace hL := Le.after hb hL
      replace hR := Rp.after hb hR
      replace hr := Rv.after hb hr
      replace hxn := Rn.after hb hxn
      replace B0 := step B0 hb
      clear hb
      go_wp2_with fail
      refine (of8_any a2 n c2 qs _ hL2 hR2).mono ?_
      rintro e x6 ⟨q9, er, rfl, ho, hb⟩
      replace V3 := V3.a hb
      replace V5 := V5.a hb
      replace hT := Tn.after hb hT
      replace hL := Le.after hb hL
      replace hR := Rp.after hb hR
      replace hr := Rv.after hb hr
      replace hxn := Rn.after hb hxn
      replace hL2 := Le.after hb hL2
      replace hR2 := Rp.after hb hR2
      replace B0 := step B0 hb
      clear hb
      clear hL2 hR2
      obtain ⟨rfl, g, b, xs, l, rfl, hd, hvl, -, -⟩ := Or.elim ho.out id (fun h => absurd HF.out (fun hf => ofe_not (hsm.out.ofe h.2.2) hf))
      have HVP : Hid (Vals ps l n) := hsm.out.vals.2 hvl
      clear ho hsm hvl
      have hP : Ps x6 ps l n := fun i hi => ⟨rd_rn (hR i hi).1 (HVP.out.2 i hi).1, rd_rn (hR i hi).2 (HVP.out.2 i hi).2⟩
      have few := hd.few
      obtain ⟨lb, lo, rfl⟩ := hL.ex few.1
      have HO : Hid (Sok l ∧ Sht l ∧ l.length = n) := ⟨hd.ok, hd.sh, hd.ln⟩
      clear few
      clear hR
      have c_V3 := V3.d0
      have f0_V3 := V3.frozen 0
      have d_V3 := V3.d1
      have f1_V3 := V3.frozen 1
      have e_V3 := V3.d2
      have f2_V3 := V3.frozen 2
      have l_V3 := V3.lt
      have m_V3 := Nat.le_of_lt l_V3
      go_wp2_with fail
      clear c_V3 f0_V3 d_V3 f1_V3 e_V3 f2_V3 l_V3 m_V3
      refine (rat_any lb lo n c ps l px v _ hL hP HO.out.2.2 HO.out.1 HO.out.2.1 hxn HSV.out).mono ?_
      rintro e x7 ⟨q1, e1, rfl, ha0, hb⟩
      replace V3 := V3.a hb
      replace V5 := V5.a hb
      replace hT := Tn.after hb hT
      replace hL := Le.after hb hL
      replace hr := Rv.after hb hr
      replace hxn := Rn.after hb hxn
      replace hd := Sd.after hb hd
      replace hP := Ps.after hb hP
      replace B0 := step B0 hb
      clear hb
      have ha : ArR x7 q1 e1 l v := ha0.out
      clear ha0
      have c_V3 := V3.d0
      have f0_V3 := V3.frozen 0
      have d_V3 := V3.d1
      have f1_V3 := V3.frozen 1
      have e_V3 := V3.d2
      have f2_V3 := V3.frozen 2
      have l_V3 := V3.lt
      have m_V3 := Nat.le_of_lt l_V3
      go_wp2_with fail
      have lt_V9_V3 := V3.lt
      have lt_V9_V5 := V5.lt
      refine ent1 x7 _ _ (Q := fun W => Calls Tryz.prog _ _ W _) ?_
      intro x8 hb hs_x8 V9
      replace V3 := V3.a hb
      replace V5 := V5.a hb
      replace hT := Tn.after hb hT
      replace hL := Le.after hb hL
      replace hr := Rv.after hb hr
      replace hxn := Rn.after hb hxn
      replace hd := Sd.after hb hd
      replace hP := Ps.after hb hP
      replace ha := ArR.after hb ha
      replace B0 := step B0 hb
      clear hb hs_x8
      clear c_V3 f0_V3 d_V3 f1_V3 e_V3 f2_V3 l_V3 m_V3
      refine (rslope_any lb lo n c ps l px v _ hL hP HO.out.2.2 HO.out.1 HO.out.2.1 hxn HSV.out).mono ?_
      rintro e x9 ⟨q2, e2, rfl, hs0, hb⟩
      replace V3 := V3.a hb
      replace V5 := V5.a hb
      replace V9 := V9.a hb
      replace hT := Tn.after hb hT
      replace hL := Le.after hb hL
      replace hr := Rv.after hb hr
      replace hxn := Rn.after hb hxn
      replace hd := Sd.after hb hd
      replace hP := Ps.after hb hP
      replace ha := ArR.after hb ha
      replace B0 := step B0 hb
      clear hb
      have hs : SrR x9 q2 e2 l v := hs0.out
      clear hs0
      have c_V3 := V3.d0
      have f0_V3 := V3.frozen 0
      have d_V3 := V3.d1
      have f1_V3 := V3.frozen 1
      have e_V3 := V3.d2
      have f2_V3 := V3.frozen 2
      have l_V3 := V3.lt
      have m_V3 := Nat.le_of_lt l_V3
      go_wp2_with fail
      have lt_V11_V3 := V3.lt
      have lt_V11_V5 := V5.lt
      have lt_V11_V9 := V9.lt
      refine ent1 x9 _ _ (Q := fun W => Calls Tryz.prog _ _ W _) ?_
      intro x10 hb hs_x10 V11
      replace V3 := V3.a hb
      replace V5 := V5.a hb
      replace V9 := V9.a hb
      replace hT := Tn.after hb hT
      replace hL := Le.after hb hL
      replace hr := Rv.after hb hr
      replace hxn := Rn.after hb hxn
      replace hd := Sd.after hb hd
      replace hP := Ps.after hb hP
      replace ha := ArR.after hb ha
      replace hs := SrR.after hb hs
      replace B0 := step B0 hb
      clear hb hs_x10
      clear c_V3 f0_V3 d_V3 f1_V3 e_V3 f2_V3 l_V3 m_V3
      refine (rnext_any lb lo n c ps l px v _ hL hP HO.out.2.2 HO.out.1 HO.out.2.1 hxn HSV.out).mono ?_
      rintro e x11 ⟨q3, t3, rfl, hn0, hb⟩
      replace V3 := V3.a hb
      replace V5 := V5.a hb
      replace V9 := V9.a hb
      replace V11 := V11.a hb
      replace hT := Tn.after hb hT
      replace hL := Le.after hb hL
      replace hr := Rv.after hb hr
      replace hxn := Rn.after hb hxn
      replace hd := Sd.after hb hd
      replace hP := Ps.after hb hP
      replace ha := ArR.after hb ha
      replace hs := SrR.after hb hs
      replace B0 := step B0 hb
      clear hb
      obtain ⟨u3, rfl, hn1⟩ := hn0.out
      have hnx : NrR x11 q3 u3 l n v := hn1
      clear hn0 hn1
      clear hL hP
      have c_V5 := V5.d0
      have f0_V5 := V5.frozen 0
      have d_V5 := V5.d1
      have f1_V5 := V5.frozen 1
      have e_V5 := V5.d2
      have f2_V5 := V5.frozen 2
      have l_V5 := V5.lt
      have m_V5 := Nat.le_of_lt l_V5
      go_wp2_with fail
      have lt_V13_V3 := V3.lt
      have lt_V13_V5 := V5.lt
      have lt_V13_V9 := V9.lt
      have lt_V13_V11 := V11.lt
      refine ent1 x11 _ _ (Q := fun W => Calls Tryz.prog _ _ W _) ?_
      intro x12 hb hs_x12 V13
      replace V3 := V3.a hb
      replace V5 := V5.a hb
      replace V9 := V9.a hb
      replace V11 := V11.a hb
      replace hT := Tn.after hb hT
      replace hr := Rv.after hb hr
      replace hxn := Rn.after hb hxn
      replace hd := Sd.after hb hd
      replace ha := ArR.after hb ha
      replace hs := SrR.after hb hs
      replace hnx := NrR.after hb hnx
      replace B0 := step B0 hb
      clear hb hs_x12
      clear c_V5 f0_V5 d_V5 f1_V5 e_V5 f2_V5 l_V5 m_V5
      refine (at8_any g b 0 n n xs l r v _ hd hr).mono ?_
      rintro e x13 ⟨r1, e4, rfl, h4, hb⟩
      replace V3 := V3.a hb
      replace V5 := V5.a hb
      replace V9 := V9.a hb
      replace V11 := V11.a hb
      replace V13 := V13.a hb
      replace hT := Tn.after hb hT
      replace hr := Rv.after hb hr
      replace hxn := Rn.after hb hxn
      replace hd := Sd.after hb hd
      replace ha := ArR.after hb ha
      replace hs := SrR.after hb hs
      replace hnx := NrR.after hb hnx
      replace B0 := step B0 hb
      clear hb
      obtain ⟨rfl, hq1⟩ := at_both h4.out ha
      clear h4 ha
      have c_V5 := V5.d0
      have f0_V5 := V5.frozen 0
      have d_V5 := V5.d1
      have f1_V5 := V5.frozen 1
      have e_V5 := V5.d2
      have f2_V5 := V5.frozen 2
      have l_V5 := V5.lt
      have m_V5 := Nat.le_of_lt l_V5
      go_wp2_with fail
      have lt_V15_V3 := V3.lt
      have lt_V15_V5 := V5.lt
      have lt_V15_V9 := V9.lt
      have lt_V15_V11 := V11.lt
      have lt_V15_V13 := V13.lt
      refine ent1 x13 _ _ (Q := fun W => Calls Tryz.prog _ _ W _) ?_
      intro x14 hb hs_x14 V15
      replace V3 := V3.a hb
      replace V5 := V5.a hb
      replace V9 := V9.a hb
      replace V11 := V11.a hb
      replace V13 := V13.a hb
      replace hT := Tn.after hb hT
      replace hr := Rv.after hb hr
      replace hxn := Rn.after hb hxn
      replace hd := Sd.after hb hd
      replace hs := SrR.after hb hs
      replace hnx := NrR.after hb hnx
      replace hq1 := Eqv.after hb hq1
      replace B0 := step B0 hb
      clear hb hs_x14
      clear c_V5 f0_V5 d_V5 f1_V5 e_V5 f2_V5 l_V5 m_V5
      refine (slope8_any g b 0 n n xs l r v _ hd hr).mono ?_
      rintro e x15 ⟨r2, e5, rfl, h5, hb⟩
      replace V3 := V3.a hb
      replace V5 := V5.a hb
      replace V9 := V9.a hb
      replace V11 := V11.a hb
      replace V13 := V13.a hb
      replace V15 := V15.a hb
      replace hT := Tn.after hb hT
      replace hr := Rv.after hb hr
      replace hxn := Rn.after hb hxn
      replace hd := Sd.after hb hd
      replace hs := SrR.after hb hs
      replace hnx := NrR.after hb hnx
      replace hq1 := Eqv.after hb hq1
      replace B0 := step B0 hb
      clear hb
      obtain ⟨rfl, hq2⟩ := slope_both h5.out hs
      clear h5 hs
      have c_V5 := V5.d0
      have f0_V5 := V5.frozen 0
      have d_V5 := V5.d1
      have f1_V5 := V5.frozen 1
      have e_V5 := V5.d2
      have f2_V5 := V5.frozen 2
      have l_V5 := V5.lt
      have m_V5 := Nat.le_of_lt l_V5
      go_wp2_with fail
      have lt_V16_V3 := V3.lt
      have lt_V16_V5 := V5.lt
      have lt_V16_V9 := V9.lt
      have lt_V16_V11 := V11.lt
      have lt_V16_V13 := V13.lt
      have lt_V16_V15 := V15.lt
      refine ent1 x15 _ _ (Q := fun W => Calls Tryz.prog _ _ W _) ?_
      intro x16 hb hs_x16 V16
      replace V3 := V3.a hb
      replace V5 := V5.a hb
      replace V9 := V9.a hb
      replace V11 := V11.a hb
      replace V13 := V13.a hb
      replace V15 := V15.a hb
      replace hT := Tn.after hb hT
      replace hr := Rv.after hb hr
      replace hxn := Rn.after hb hxn
      replace hd := Sd.after hb hd
      replace hnx := NrR.after hb hnx
      replace hq1 := Eqv.after hb hq1
      replace hq2 := Eqv.after hb hq2
      replace B0 := step B0 hb
      clear hb hs_x16
      clear c_V5 f0_V5 d_V5 f1_V5 e_V5 f2_V5 l_V5 m_V5
      obtain ⟨kk, hkk⟩ := Bg.ex HO.out.1 v
      refine (next8_any g b 0 n n xs l r v _ hd hr kk hkk).mono ?_
      rintro e x17 ⟨r3, u4, rfl, h6, hb⟩
      replace V3 := V3.a hb
      replace V5 := V5.a hb
      replace V9 := V9.a hb
      replace V11 := V11.a hb
      replace V13 := V13.a hb
      replace V15 := V15.a hb
      replace V16 := V16.a hb
      replace hT := Tn.after hb hT
      replace hr := Rv.after hb hr
      replace hxn := Rn.after hb hxn
      replace hd := Sd.after hb hd
      replace hnx := NrR.after hb hnx
      replace hq1 := Eqv.after hb hq1
      replace hq2 := Eqv.after hb hq2
      replace B0 := step B0 hb
      clear hb
      obtain ⟨rfl, hq3⟩ := next_both hkk h6.out hnx
      clear h6 hnx hkk
      clear hd
      have hq4 : Eqv x17 r px := .inr ⟨v, hr, hxn⟩
      clear hr hxn
      have c_V9 := V9.d0
      have f0_V9 := V9.frozen 0
      have d_V9 := V9.d1
      have f1_V9 := V9.frozen 1
      have e_V9 := V9.d2
      have f2_V9 := V9.frozen 2
      have l_V9 := V9.lt
      have m_V9 := Nat.le_of_lt l_V9
      have c_V15 := V15.d0
      have f0_V15 := V15.frozen 0
      have d_V15 := V15.d1
      have f1_V15 := V15.frozen 1
      have e_V15 := V15.d2
      have f2_V15 := V15.frozen 2
      have l_V15 := V15.lt
      have m_V15 := Nat.le_of_lt l_V15
      go_wp2_with fail
      have lt_V18_V3 := V3.lt
      have lt_V18_V5 := V5.lt
      have lt_V18_V9 := V9.lt
      have lt_V18_V11 := V11.lt
      have lt_V18_V13 := V13.lt
      have lt_V18_V15 := V15.lt
      have lt_V18_V16 := V16.lt
      refine ent1 x17 _ _ (Q := fun W => Calls Tryz.prog _ _ W _) ?_
      intro x18 hb hs_x18 V18
      replace V3 := V3.a hb
      replace V5 := V5.a hb
      replace V9 := V9.a hb
      replace V11 := V11.a hb
      replace V13 := V13.a hb
      replace V15 := V15.a hb
      replace V16 := V16.a hb
      replace hT := Tn.after hb hT
      replace hq1 := Eqv.after hb hq1
      replace hq2 := Eqv.after hb hq2
      replace hq3 := Eqv.after hb hq3
      replace hq4 := Eqv.after hb hq4
      replace B0 := step B0 hb
      clear hb hs_x18
      clear c_V9 f0_V9 d_V9 f1_V9 e_V9 f2_V9 l_V9 m_V9 c_V15 f0_V15 d_V15 f1_V15 e_V15 f2_V15 l_V15 m_V15
      refine (is_both r1 q1 _ hq1).mono ?_
      rintro e x19 ⟨rfl, hb⟩
      replace V3 := V3.a hb
      replace V5 := V5.a hb
      replace V9 := V9.a hb
      replace V11 := V11.a hb
      replace V13 := V13.a hb
      replace V15 := V15.a hb
      replace V16 := V16.a hb
      replace V18 := V18.a hb
      replace hT := Tn.after hb hT
      replace hq1 := Eqv.after hb hq1
      replace hq2 := Eqv.after hb hq2
      replace hq3 := Eqv.after hb hq3
      replace hq4 := Eqv.after hb hq4
      replace B0 := step B0 hb
      clear hb
      have c_V11 := V11.d0
      have f0_V11 := V11.frozen 0
      have d_V11 := V11.d1
      have f1_V11 := V11.frozen 1
      have e_V11 := V11.d2
      have f2_V11 := V11.frozen 2
      have l_V11 := V11.lt
      have m_V11 := Nat.le_of_lt l_V11
      have c_V16 := V16.d0
      have f0_V16 := V16.frozen 0
      have d_V16 := V16.d1
      have f1_V16 := V16.frozen 1
      have e_V16 := V16.d2
      have f2_V16 := V16.frozen 2
      have l_V16 := V16.lt
      have m_V16 := Nat.le_of_lt l_V16
      go_wp2_with fail
      clear c_V11 f0_V11 d_V11 f1_V11 e_V11 f2_V11 l_V11 m_V11 c_V16 f0_V16 d_V16 f1_V16 e_V16 f2_V16 l_V16 m_V16
      refine (is_both r2 q2 _ hq2).mono ?_
      rintro e x20 ⟨rfl, hb⟩
      replace V3 := V3.a hb
      replace V5 := V5.a hb
      replace V9 := V9.a hb
      replace V11 := V11.a hb
      replace V13 := V13.a hb
      replace V15 := V15.a hb
      replace V16 := V16.a hb
      replace V18 := V18.a hb
      replace hT := Tn.after hb hT
      replace hq1 := Eqv.after hb hq1
      replace hq2 := Eqv.after hb hq2
      replace hq3 := Eqv.after hb hq3
      replace hq4 := Eqv.after hb hq4
      replace B0 := step B0 hb
      clear hb
      have c_V13 := V13.d0
      have f0_V13 := V13.frozen 0
      have d_V13 := V13.d1
      have f1_V13 := V13.frozen 1
      have e_V13 := V13.d2
      have f2_V13 := V13.frozen 2
      have l_V13 := V13.lt
      have m_V13 := Nat.le_of_lt l_V13
      have c_V18 := V18.d0
      have f0_V18 := V18.frozen 0
      have d_V18 := V18.d1
      have f1_V18 := V18.frozen 1
      have e_V18 := V18.d2
      have f2_V18 := V18.frozen 2
      have l_V18 := V18.lt
      have m_V18 := Nat.le_of_lt l_V18
      go_wp2_with fail
      clear c_V13 f0_V13 d_V13 f1_V13 e_V13 f2_V13 l_V13 m_V13 c_V18 f0_V18 d_V18 f1_V18 e_V18 f2_V18 l_V18 m_V18
      refine (is_both r3 q3 _ hq3).mono ?_
      rintro e x21 ⟨rfl, hb⟩
      replace V3 := V3.a hb
      replace V5 := V5.a hb
      replace V9 := V9.a hb
      replace V11 := V11.a hb
      replace V13 := V13.a hb
      replace V15 := V15.a hb
      replace V16 := V16.a hb
      replace V18 := V18.a hb
      replace hT := Tn.after hb hT
      replace hq1 := Eqv.after hb hq1
      replace hq2 := Eqv.after hb hq2
      replace hq3 := Eqv.after hb hq3
      replace hq4 := Eqv.after hb hq4
      replace B0 := step B0 hb
      clear hb
      have c_V3 := V3.d0
      have f0_V3 := V3.frozen 0
      have d_V3 := V3.d1
      have f1_V3 := V3.frozen 1
      have e_V3 := V3.d2
      have f2_V3 := V3.frozen 2
      have l_V3 := V3.lt
      have m_V3 := Nat.le_of_lt l_V3
      have c_V5 := V5.d0
      have f0_V5 := V5.frozen 0
      have d_V5 := V5.d1
      have f1_V5 := V5.frozen 1
      have e_V5 := V5.d2
      have f2_V5 := V5.frozen 2
      have l_V5 := V5.lt
      have m_V5 := Nat.le_of_lt l_V5
      go_wp2_with fail
      clear c_V3 f0_V3 d_V3 f1_V3 e_V3 f2_V3 l_V3 m_V3 c_V5 f0_V5 d_V5 f1_V5 e_V5 f2_V5 l_V5 m_V5
      refine (is_both r px _ hq4).mono ?_
      rintro e x22 ⟨rfl, hb⟩
      replace V3 := V3.a hb
      replace V5 := V5.a hb
      replace V9 := V9.a hb
      replace V11 := V11.a hb
      replace V13 := V13.a hb
      replace V15 := V15.a hb
      replace V16 := V16.a hb
      replace V18 := V18.a hb
      replace hT := Tn.after hb hT
      replace hq1 := Eqv.after hb hq1
      replace hq2 := Eqv.after hb hq2
      replace hq3 := Eqv.after hb hq3
      replace hq4 := Eqv.after hb hq4
      replace B0 := step B0 hb
      clear hb
      go_wp2_with fail
      refine (awake18 _ hT).mono ?_
      rintro e x23 ⟨rfl, hb⟩
      replace V3 := V3.a hb
      replace V5 := V5.a hb
      replace V9 := V9.a hb
      replace V11 := V11.a hb
      replace V13 := V13.a hb
      replace V15 := V15.a hb
      replace V16 := V16.a hb
      replace V18 := V18.a hb
      replace hT := Tn.after hb hT
      replace hq1 := Eqv.after hb hq1
      replace hq2 := Eqv.after hb hq2
      replace hq3 := Eqv.after hb hq3
      replace hq4 := Eqv.after hb hq4
      replace B0 := step B0 hb
      clear hb
      go_wp2_with fail
      go_ret
      exact ⟨rfl, B0⟩
    ·
      have z1 : (wr != 0) = true := by simp [z]
      have z2 : (wr == 0) = false := by simp [z]
      go_wp2_with fail
      go_ret
      exact ⟨rfl, B0⟩
end Go.Proofs.YtenmkbofpmbedaaGreatDoor
