/-
 rounding.Units, Places.
-/
import Derived.Test.YtegfklapgbggfaaGreatRd3
import Derived.Test.YtegfklapgbggfaaGreatRdU
import Derived.Test.YtegfklapgbggfaaGreatPow
import Derived.Test.YtegfklapgbggfaaGreatAl
namespace Go.Proofs.YtegfklapgbggfaaGreat
open Go.RowKit Go.Shelf
set_option linter.unusedVariables false

/-- What Units and Places answer, of a number that may be too long. -/
def UnP (w : World) (v : Rat) (e : Ending) (w' : World) : Prop := ∃ er s' a' l' c' zs' b' m' d' ds' v', e = .returned (.tuple #[.agg #[.bool s', .slice a' l' c', .slice b' m' d'], .int .i64 er]) ∧ Rt w' s' a' l' c' zs' b' m' d' ds' v' ∧ Hid (RA v er v') ∧ Below w.heap.size w w'
theorem units_num {v t : Rat} (h1 : Short v) (h2 : Short t) : ∀ n, n = 2048 → ((v.num * (t.den : Int)).natAbs : Int) < pw n := fun n e => by subst e; exact h1.mul h2
theorem units_den {v t : Rat} (h1 : Short v) (h2 : Short t) (h : 0 < t.num) : ∀ n, n = 2048 → (v.den : Int) * t.num < pw n := fun n e => by
 subst e
 refine rt_fits (by omega) (by omega) h1.2 ?_ (show 1024 + 1024 ≤ 2048 by omega)
 have := h2.1; omega
theorem units_prod {q : Int} {v t : Rat} (h1 : Short v) (h2 : Short t) (h : 0 < t.num) : ∀ n, n = 4096 → ((rnd q (v.num * (t.den : Int)) ((v.den : Int) * t.num) * t.num).natAbs : Int) < pw n := fun n e => by
 subst e
 have hd := v.den_pos
 have a := rnd_abs (m := q) (n := v.num * (t.den : Int)) (d := (v.den : Int) * t.num) (Int.mul_pos (by omega) h)
 rw [Int.natAbs_mul, Int.natCast_mul]
 exact rt_fits (by omega) (by omega) (Int.lt_of_le_of_lt a (h1.mul h2)) h2.1 (show 2048 + 1024 ≤ 4096 by omega)

set_option maxHeartbeats 16000000 in
set_option maxRecDepth 4000 in
theorem units_ok (q : Int) (q1 : 1 ≤ q) (q2 : q ≤ 5) (s1 : Bool) (a1 : Option Addr) (l1 c1 : Nat) (z1 : List Int) (b1 : Option Addr) (m1 d1 : Nat) (y1 : List Int) (v : Rat) (s2 : Bool) (a2 : Option Addr) (l2 c2 : Nat) (z2 : List Int) (b2 : Option Addr) (m2 d2 : Nat) (y2 : List Int) (t : Rat) (w : World) (hr : Rt w s1 a1 l1 c1 z1 b1 m1 d1 y1 v) (hu : Rt w s2 a2 l2 c2 z2 b2 m2 d2 y2 t) (ht : Hid (0 < t.num)) :
  Calls Tryz.prog 6 #[.agg #[.bool s1, .slice a1 l1 c1, .slice b1 m1 d1], .agg #[.bool s2, .slice a2 l2 c2, .slice b2 m2 d2], .int .i64 q] w fun e w' => UnP w (uv q v t) e w' := by
 obtain ⟨nm, Kf, C, CK, CE⟩ := wayOf_ok q q1 q2
 have HC : Hid (∀ w, Calls Tryz.prog 17 #[.int .i64 q] w fun e w' => e = .returned (.tuple #[.agg #[.int .i64 q, .string nm, .func (.func Kf) #[] #[]], .bool true]) ∧ Below w.heap.size w w') := C
 have HK : Hid (∀ h p w, Calls Tryz.prog Kf #[.int .i64 h, .bool p] w fun e w' => e = .returned (.bool (rise q h p)) ∧ w' = w) := CK
 have HE : Hid (∀ args w, (callFunc Kf args).run Tryz.prog w = .ok (.enter Kf args) w) := CE
 clear C CK CE
 have F1 : Hid (∀ n, n = 2048 → ((v.num * (t.den : Int)).natAbs : Int) < pw n) := units_num hr.2.2.2.2 hu.2.2.2.2
 have F2 : Hid (∀ n, n = 2048 → (v.den : Int) * t.num < pw n) := units_den hr.2.2.2.2 hu.2.2.2.2 ht.out
 have F3 : Hid (∀ n, n = 4096 → ((rnd q (v.num * (t.den : Int)) ((v.den : Int) * t.num) * t.num).natAbs : Int) < pw n) := units_prod hr.2.2.2.2 hu.2.2.2.2 ht.out
 have B0 : Below w.heap.size w w := Below.refl _ _
 go_enter Tryz.func6, Tryz.ntmps6
 go_wp2_with fail
 refine ent3 w _ _ _ _ _ _ (Q := fun W => Calls Tryz.prog _ _ W _) ?_
 intro x1 hb hs_x1 V0 V1 V2
 replace hr := Rt.after hb hr
 replace hu := Rt.after hb hu
 replace B0 := step B0 hb
 clear hb hs_x1
 refine (HC.out x1).mono ?_
 rintro e x2 ⟨rfl, hb⟩
 replace V0 := Va.after hb V0
 replace V1 := Va.after hb V1
 replace V2 := Va.after hb V2
 replace hr := Rt.after hb hr
 replace hu := Rt.after hb hu
 replace B0 := step B0 hb
 clear hb
 have lw := V2.lt
 have c_V1 := V1.d0
 have f0_V1 := V1.frozen 0
 have d_V1 := V1.d1
 have f1_V1 := V1.frozen 1
 have e_V1 := V1.d2
 have f2_V1 := V1.frozen 2
 have l_V1 := V1.lt
 have m_V1 := Nat.le_of_lt l_V1
 have p0_V1 := (V1.old (.cells #[.int .i64 q, .string nm, .func (.func Kf) #[] #[]] 54)).d0
 have q0_V1 := (V1.old (.cells #[.int .i64 q, .string nm, .func (.func Kf) #[] #[]] 54)).frozen 0
 have p1_V1 := (V1.old (.cells #[.int .i64 q, .string nm, .func (.func Kf) #[] #[]] 54)).d1
 have q1_V1 := (V1.old (.cells #[.int .i64 q, .string nm, .func (.func Kf) #[] #[]] 54)).frozen 1
 have p2_V1 := (V1.old (.cells #[.int .i64 q, .string nm, .func (.func Kf) #[] #[]] 54)).d2
 have q2_V1 := (V1.old (.cells #[.int .i64 q, .string nm, .func (.func Kf) #[] #[]] 54)).frozen 2
 go_wp2_with fail
 refine ent1 x2 _ _ (Q := fun W => Calls Tryz.prog _ _ W _) ?_
 intro x3 hb hs_x3 Vw
 replace V0 := Va.after hb V0
 replace V1 := Va.after hb V1
 replace V2 := Va.after hb V2
 replace hr := Rt.after hb hr
 replace hu := Rt.after hb hu
 replace B0 := step B0 hb
 clear hb hs_x3
 refine (qsign_any s2 a2 l2 c2 z2 b2 m2 d2 y2 t x3 hu).mono ?_
 rintro e x4 ⟨rfl, hb⟩
 replace V0 := Va.after hb V0
 replace V1 := Va.after hb V1
 replace V2 := Va.after hb V2
 replace Vw := Va.after hb Vw
 replace hr := Rt.after hb hr
 replace hu := Rt.after hb hu
 replace B0 := step B0 hb
 clear hb
 rw [Int.sign_eq_one_of_pos ht.out]
 clear c_V1 f0_V1 d_V1 f1_V1 e_V1 f2_V1 l_V1 m_V1 p0_V1 q0_V1 p1_V1 q1_V1 p2_V1 q2_V1
 go_wp2_with fail
 have LS : Hid (∀ W, Below x4.heap.size x4 W → (fun W => W.cell? ⟨w.heap.size, 0, none⟩ = some (.bool s1) ∧ W.cell? ⟨w.heap.size, 1, none⟩ = some (.slice a1 l1 c1) ∧ W.cell? ⟨w.heap.size, 2, none⟩ = some (.slice b1 m1 d1) ∧ W.cell? ⟨w.heap.size + 1, 0, none⟩ = some (.bool s2) ∧ W.cell? ⟨w.heap.size + 1, 1, none⟩ = some (.slice a2 l2 c2) ∧ W.cell? ⟨w.heap.size + 1, 2, none⟩ = some (.slice b2 m2 d2)) W) := fun W hb => ⟨(Va.after hb V0).d0, (Va.after hb V0).d1, (Va.after hb V0).d2, (Va.after hb V1).d0, (Va.after hb V1).d1, (Va.after hb V1).d2⟩
 have lb_V0 := V0.lt
 have L_V0 : Hid (Va x4 (w.heap.size) 30 #[.bool s1, .slice a1 l1 c1, .slice b1 m1 d1]) := V0
 have lb_V1 := V1.lt
 have L_V1 : Hid (Va x4 (w.heap.size + 1) 30 #[.bool s2, .slice a2 l2 c2, .slice b2 m2 d2]) := V1
 have lb_V2 := V2.lt
 have L_V2 : Hid (Va x4 (w.heap.size + 1 + 1) 30 #[.bool false, .slice none 0 0, .slice none 0 0]) := V2
 have lb_Vw := Vw.lt
 have L_Vw : Hid (Va x4 (x2.heap.size) 54 #[.int .i64 q, .string nm, .func (.func Kf) #[] #[]]) := Vw
 have L_hr : Hid (Rt x4 s1 a1 l1 c1 z1 b1 m1 d1 y1 v) := hr
 have L_hu : Hid (Rt x4 s2 a2 l2 c2 z2 b2 m2 d2 y2 t) := hu
 have L_B : Hid (Below w.heap.size w x4) := B0
 clear V0 V1 V2 Vw hr hu B0
 have BX := Below.refl x4.heap.size x4
 go_cut [10, 11] (fun s10 s11 wx => ∃ (b10 : Nat) (sn : Bool) (an : Option Addr) (ln cn : Nat) (zn : List Int), s10 = .pointer (some ⟨b10, 0, none⟩) ∧ s11 = .int .i64 0 ∧ Hid (Va wx b10 28 #[.bool sn, .slice an ln cn]) ∧ Hid (It wx sn an ln cn zn) ∧ Hid (iv sn zn = v.num * (t.den : Int)) ∧ Hid (Below x4.heap.size x4 wx))
 case first =>
  refine wp_region_noPanic ?_
  replace BX := Below.drew BX
  refine wp_region_held_drew (S := (fun W => W.cell? ⟨w.heap.size, 0, none⟩ = some (.bool s1) ∧ W.cell? ⟨w.heap.size, 1, none⟩ = some (.slice a1 l1 c1) ∧ W.cell? ⟨w.heap.size, 2, none⟩ = some (.slice b1 m1 d1) ∧ W.cell? ⟨w.heap.size + 1, 0, none⟩ = some (.bool s2) ∧ W.cell? ⟨w.heap.size + 1, 1, none⟩ = some (.slice a2 l2 c2) ∧ W.cell? ⟨w.heap.size + 1, 2, none⟩ = some (.slice b2 m2 d2))) (by kernel_rfl) (LS.out _ BX) (fun hHeld => ?_)
  obtain ⟨x5, hxd⟩ : ∃ xd, xd = x4.drew := ⟨_, rfl⟩
  rw [← hxd] at BX hHeld ⊢
  clear hxd
  refine wpAnyH_take (i := 0) (v := ?_) rfl (by kernel_rfl) (by kernel_rfl) (by kernel_rfl) (fun _ _ _ h => h) (Or.inl ⟨by rfl, ?_⟩) hHeld ?_
  rotate_left
  · (intro W hSw; (try dsimp only at hSw); go_simp; all_goals (with_reducible rfl))
  simp only [gA, gB, Act.put, gD, gE, gF]
  refine wpAnyH_take (i := 2) (v := ?_) rfl (by kernel_rfl) (by kernel_rfl) (by kernel_rfl) (fun _ _ _ h => h) (Or.inl ⟨by rfl, ?_⟩) hHeld ?_
  rotate_left
  · (intro W hSw; (try dsimp only at hSw); go_simp; all_goals (with_reducible rfl))
  simp only [gA, gB, gC, Act.put, gD, gE, gF]
  refine wpAnyH_ready (rs := [1, 9]) (by kernel_rfl) (by simp) ?_
  refine AllReadyH.cons rfl (fun K hK => ?_) (AllReadyH.cons rfl (fun K hK => ?_) AllReadyH.nil)
  ·
   simp only [gA, gB, gC]
   go_simp
   refine (qnum_any s1 a1 l1 c1 b1 m1 d1 _).mono ?_
   rintro e x6 ⟨rfl, hb⟩
   replace BX := step BX hb
   clear hb
   try go_wp2_with fail
   refine hK.out _ _ (LS.out _ BX) (fun hHeld => ?_)
   clear hK K
   refine wpAnyH_ready (rs := [3, 9]) (by kernel_rfl) (by simp) ?_
   refine AllReadyH.cons rfl (fun K hK => ?_) (AllReadyH.cons rfl (fun K hK => ?_) AllReadyH.nil)
   ·
    simp only [gA, gB, gC]
    go_simp
    refine (rden_any s2 a2 l2 c2 b2 m2 d2 y2 _ (Rt.after BX L_hu.out).2.1).mono ?_
    rintro e x7 ⟨b3, m3, d3, y3, rfl, h3, e3, hb⟩
    replace BX := step BX hb
    clear hb
    have E3 : Hid (num y3 = (t.den : Int)) := e3.trans L_hu.out.2.2.2.1
    clear e3
    try go_wp2_with fail
    refine hK.out _ _ (LS.out _ BX) (fun hHeld => ?_)
    clear hK K
    refine wpAnyH_ready (rs := [4, 9]) (by kernel_rfl) (by simp) ?_
    refine AllReadyH.cons rfl (fun K hK => ?_) (AllReadyH.cons rfl (fun K hK => ?_) AllReadyH.nil)
    ·
     simp only [gA, gB, gC]
     go_simp
     refine (above7 b3 m3 d3 y3 _ h3).mono ?_
     rintro e x8 ⟨rfl, h4, hb⟩
     replace h3 := Nt.after hb h3
     replace BX := step BX hb
     clear hb
     try go_wp2_with fail
     refine hK.out _ _ (LS.out _ BX) (fun hHeld => ?_)
     clear hK K
     refine wpAnyH_ready (rs := [5, 9]) (by kernel_rfl) (by simp) ?_
     refine AllReadyH.cons rfl (fun K hK => ?_) (AllReadyH.cons rfl (fun K hK => ?_) AllReadyH.nil)
     ·
      simp only [gA, gB, gC]
      go_simp
      refine (wmul_ok s1 false a1 b3 l1 c1 m3 d3 z1 y3 _ (Rt.after BX L_hr.out).1 h4 (by show ((iv s1 z1 * iv false y3).natAbs : Int) < _; rw [L_hr.out.2.2.1, iv_f, E3.out]; exact Int.lt_of_lt_of_le (F1.out 2048 rfl) (pw_mono (by omega)))).mono ?_
      rintro e x9 ⟨sn, an, ln, cn, zn, rfl, hn, en, hb⟩
      replace h3 := Nt.after hb h3
      replace h4 := It.after hb h4
      replace BX := step BX hb
      clear hb
      replace en : iv sn zn = v.num * (t.den : Int) := by rw [en, L_hr.out.2.2.1, iv_f, E3.out]
      try go_wp2_with fail
      refine hK.out _ _ (LS.out _ BX) (fun hHeld => ?_)
      clear hK K
      refine wpAnyH_take (i := 6) (v := ?_) rfl (by kernel_rfl) (by kernel_rfl) (by kernel_rfl) (fun _ _ _ h => h) (Or.inl ⟨by rfl, ?_⟩) hHeld ?_
      rotate_left
      · (intro W hSw; (try dsimp only at hSw); go_simp; all_goals (with_reducible rfl))
      simp only [gA, gB, gC, Act.put, gD, gE, gF]
      refine wpAnyH_take (i := 7) (v := ?_) rfl (by kernel_rfl) (by kernel_rfl) (by kernel_rfl) (fun _ _ _ h => h) (Or.inl ⟨by rfl, ?_⟩) hHeld ?_
      rotate_left
      · (intro W hSw; (try dsimp only at hSw); go_simp; all_goals (with_reducible rfl))
      simp only [gA, gB, gC, Act.put, gD, gE, gF]
      refine wpAnyH_take (i := 8) (v := ?_) rfl (by kernel_rfl) (by kernel_rfl) (by kernel_rfl) (fun _ _ _ h => h) (Or.inl ⟨by rfl, ?_⟩) hHeld ?_
      rotate_left
      · (intro W hSw; (try dsimp only at hSw); go_simp; all_goals (with_reducible rfl))
      simp only [gA, gB, gC, Act.put, gD, gE, gF]
      refine wpAnyH_ready (rs := [9]) (by kernel_rfl) (by simp) ?_
      refine AllReadyH.cons rfl (fun K hK => ?_) AllReadyH.nil
      ·
       simp only [gA, gB, gC]
       go_simp
       have sz_Vn := BX.size
       refine ent1 _ _ _ (Q := fun V => K _ V) ?_
       intro x10 hb hs_ Vn
       replace h3 := Nt.after hb h3
       replace h4 := It.after hb h4
       replace hn := It.after hb hn
       replace BX := step BX hb
       clear hb hs_
       refine hK.out _ _ (LS.out _ BX) (fun hHeld => ?_)
       clear hK K
       have c_Vn := Vn.c0
       have f0_Vn := Vn.frozen 0
       have d_Vn := Vn.c1
       have f1_Vn := Vn.frozen 1
       have l_Vn := Vn.lt
       have m_Vn := Nat.le_of_lt l_Vn
       refine wpAnyH_ready (rs := [10]) (by kernel_rfl) (by simp) ?_
       refine AllReadyH.cons rfl (fun K hK => ?_) AllReadyH.nil
       simp only [gA, gB, gC]
       go_simp
       clear c_Vn f0_Vn d_Vn f1_Vn l_Vn m_Vn
       refine st2 Vn (.bool sn) (.slice an ln cn) (Q := fun W => K _ W) ?_
       intro x11 V' oth far
       replace h3 := h3.far Vn (noInt2 _ _ _ _) far.1
       replace h4 := h4.far Vn (noInt2 _ _ _ _) far.1
       replace hn := hn.far Vn (noInt2 _ _ _ _) far.1
       replace BX := far.2 _ _ (by first | omega | (simp; omega)) BX
       replace Vn := V'
       clear oth far
       refine hK.out _ _ (LS.out _ BX) (fun hHeld => ?_)
       clear hK K
       refine wpAnyH_take (i := 11) (v := ?_) rfl (by kernel_rfl) (by kernel_rfl) (by kernel_rfl) (fun _ _ _ h => h) (Or.inl ⟨by rfl, ?_⟩) hHeld ?_
       rotate_left
       · (intro W hSw; (try dsimp only at hSw); go_simp; all_goals (with_reducible rfl))
       simp only [gA, gB, gC, Act.put, gD, gE, gF]
       refine wpAnyH_done (by kernel_rfl) ?_ _
       refine NoPanic.normal ?_
       clear hHeld
       go_wp2_with fail
       go_meet
       exact ⟨_, sn, an, ln, cn, zn, rfl, rfl, Vn, hn, en, BX⟩
     ·
      simp only [gA, gB, gC]
      go_simp
      have sz_Vn := BX.size
      refine ent1 _ _ _ (Q := fun V => K _ V) ?_
      intro x9 hb hs_ Vn
      replace h3 := Nt.after hb h3
      replace h4 := It.after hb h4
      replace BX := step BX hb
      clear hb hs_
      refine hK.out _ _ (LS.out _ BX) (fun hHeld => ?_)
      clear hK K
      refine wpAnyH_ready (rs := [5]) (by kernel_rfl) (by simp) ?_
      refine AllReadyH.cons rfl (fun K hK => ?_) AllReadyH.nil
      ·
       simp only [gA, gB, gC]
       go_simp
       refine (wmul_ok s1 false a1 b3 l1 c1 m3 d3 z1 y3 _ (Rt.after BX L_hr.out).1 h4 (by show ((iv s1 z1 * iv false y3).natAbs : Int) < _; rw [L_hr.out.2.2.1, iv_f, E3.out]; exact Int.lt_of_lt_of_le (F1.out 2048 rfl) (pw_mono (by omega)))).mono ?_
       rintro e x10 ⟨sn, an, ln, cn, zn, rfl, hn, en, hb⟩
       replace Vn := Va.after hb Vn
       replace h3 := Nt.after hb h3
       replace h4 := It.after hb h4
       replace BX := step BX hb
       clear hb
       replace en : iv sn zn = v.num * (t.den : Int) := by rw [en, L_hr.out.2.2.1, iv_f, E3.out]
       try go_wp2_with fail
       refine hK.out _ _ (LS.out _ BX) (fun hHeld => ?_)
       clear hK K
       refine wpAnyH_take (i := 6) (v := ?_) rfl (by kernel_rfl) (by kernel_rfl) (by kernel_rfl) (fun _ _ _ h => h) (Or.inl ⟨by rfl, ?_⟩) hHeld ?_
       rotate_left
       · (intro W hSw; (try dsimp only at hSw); go_simp; all_goals (with_reducible rfl))
       simp only [gA, gB, gC, Act.put, gD, gE, gF]
       refine wpAnyH_take (i := 7) (v := ?_) rfl (by kernel_rfl) (by kernel_rfl) (by kernel_rfl) (fun _ _ _ h => h) (Or.inl ⟨by rfl, ?_⟩) hHeld ?_
       rotate_left
       · (intro W hSw; (try dsimp only at hSw); go_simp; all_goals (with_reducible rfl))
       simp only [gA, gB, gC, Act.put, gD, gE, gF]
       refine wpAnyH_take (i := 8) (v := ?_) rfl (by kernel_rfl) (by kernel_rfl) (by kernel_rfl) (fun _ _ _ h => h) (Or.inl ⟨by rfl, ?_⟩) hHeld ?_
       rotate_left
       · (intro W hSw; (try dsimp only at hSw); go_simp; all_goals (with_reducible rfl))
       simp only [gA, gB, gC, Act.put, gD, gE, gF]
       have c_Vn := Vn.c0
       have f0_Vn := Vn.frozen 0
       have d_Vn := Vn.c1
       have f1_Vn := Vn.frozen 1
       have l_Vn := Vn.lt
       have m_Vn := Nat.le_of_lt l_Vn
       refine wpAnyH_ready (rs := [10]) (by kernel_rfl) (by simp) ?_
       refine AllReadyH.cons rfl (fun K hK => ?_) AllReadyH.nil
       simp only [gA, gB, gC]
       go_simp
       clear c_Vn f0_Vn d_Vn f1_Vn l_Vn m_Vn
       refine st2 Vn (.bool sn) (.slice an ln cn) (Q := fun W => K _ W) ?_
       intro x11 V' oth far
       replace h3 := h3.far Vn (noInt2 _ _ _ _) far.1
       replace h4 := h4.far Vn (noInt2 _ _ _ _) far.1
       replace hn := hn.far Vn (noInt2 _ _ _ _) far.1
       replace BX := far.2 _ _ (by first | omega | (simp; omega)) BX
       replace Vn := V'
       clear oth far
       refine hK.out _ _ (LS.out _ BX) (fun hHeld => ?_)
       clear hK K
       refine wpAnyH_take (i := 11) (v := ?_) rfl (by kernel_rfl) (by kernel_rfl) (by kernel_rfl) (fun _ _ _ h => h) (Or.inl ⟨by rfl, ?_⟩) hHeld ?_
       rotate_left
       · (intro W hSw; (try dsimp only at hSw); go_simp; all_goals (with_reducible rfl))
       simp only [gA, gB, gC, Act.put, gD, gE, gF]
       refine wpAnyH_done (by kernel_rfl) ?_ _
       refine NoPanic.normal ?_
       clear hHeld
       go_wp2_with fail
       go_meet
       exact ⟨_, sn, an, ln, cn, zn, rfl, rfl, Vn, hn, en, BX⟩
    ·
     simp only [gA, gB, gC]
     go_simp
     have sz_Vn := BX.size
     refine ent1 _ _ _ (Q := fun V => K _ V) ?_
     intro x8 hb hs_ Vn
     replace h3 := Nt.after hb h3
     replace BX := step BX hb
     clear hb hs_
     refine hK.out _ _ (LS.out _ BX) (fun hHeld => ?_)
     clear hK K
     refine wpAnyH_ready (rs := [4]) (by kernel_rfl) (by simp) ?_
     refine AllReadyH.cons rfl (fun K hK => ?_) AllReadyH.nil
     ·
      simp only [gA, gB, gC]
      go_simp
      refine (above7 b3 m3 d3 y3 _ h3).mono ?_
      rintro e x9 ⟨rfl, h4, hb⟩
      replace Vn := Va.after hb Vn
      replace h3 := Nt.after hb h3
      replace BX := step BX hb
      clear hb
      try go_wp2_with fail
      refine hK.out _ _ (LS.out _ BX) (fun hHeld => ?_)
      clear hK K
      refine wpAnyH_ready (rs := [5]) (by kernel_rfl) (by simp) ?_
      refine AllReadyH.cons rfl (fun K hK => ?_) AllReadyH.nil
      ·
       simp only [gA, gB, gC]
       go_simp
       refine (wmul_ok s1 false a1 b3 l1 c1 m3 d3 z1 y3 _ (Rt.after BX L_hr.out).1 h4 (by show ((iv s1 z1 * iv false y3).natAbs : Int) < _; rw [L_hr.out.2.2.1, iv_f, E3.out]; exact Int.lt_of_lt_of_le (F1.out 2048 rfl) (pw_mono (by omega)))).mono ?_
       rintro e x10 ⟨sn, an, ln, cn, zn, rfl, hn, en, hb⟩
       replace Vn := Va.after hb Vn
       replace h3 := Nt.after hb h3
       replace h4 := It.after hb h4
       replace BX := step BX hb
       clear hb
       replace en : iv sn zn = v.num * (t.den : Int) := by rw [en, L_hr.out.2.2.1, iv_f, E3.out]
       try go_wp2_with fail
       refine hK.out _ _ (LS.out _ BX) (fun hHeld => ?_)
       clear hK K
       refine wpAnyH_take (i := 6) (v := ?_) rfl (by kernel_rfl) (by kernel_rfl) (by kernel_rfl) (fun _ _ _ h => h) (Or.inl ⟨by rfl, ?_⟩) hHeld ?_
       rotate_left
       · (intro W hSw; (try dsimp only at hSw); go_simp; all_goals (with_reducible rfl))
       simp only [gA, gB, gC, Act.put, gD, gE, gF]
       refine wpAnyH_take (i := 7) (v := ?_) rfl (by kernel_rfl) (by kernel_rfl) (by kernel_rfl) (fun _ _ _ h => h) (Or.inl ⟨by rfl, ?_⟩) hHeld ?_
       rotate_left
       · (intro W hSw; (try dsimp only at hSw); go_simp; all_goals (with_reducible rfl))
       simp only [gA, gB, gC, Act.put, gD, gE, gF]
       refine wpAnyH_take (i := 8) (v := ?_) rfl (by kernel_rfl) (by kernel_rfl) (by kernel_rfl) (fun _ _ _ h => h) (Or.inl ⟨by rfl, ?_⟩) hHeld ?_
       rotate_left
       · (intro W hSw; (try dsimp only at hSw); go_simp; all_goals (with_reducible rfl))
       simp only [gA, gB, gC, Act.put, gD, gE, gF]
       have c_Vn := Vn.c0
       have f0_Vn := Vn.frozen 0
       have d_Vn := Vn.c1
       have f1_Vn := Vn.frozen 1
       have l_Vn := Vn.lt
       have m_Vn := Nat.le_of_lt l_Vn
       refine wpAnyH_ready (rs := [10]) (by kernel_rfl) (by simp) ?_
       refine AllReadyH.cons rfl (fun K hK => ?_) AllReadyH.nil
       simp only [gA, gB, gC]
       go_simp
       clear c_Vn f0_Vn d_Vn f1_Vn l_Vn m_Vn
       refine st2 Vn (.bool sn) (.slice an ln cn) (Q := fun W => K _ W) ?_
       intro x11 V' oth far
       replace h3 := h3.far Vn (noInt2 _ _ _ _) far.1
       replace h4 := h4.far Vn (noInt2 _ _ _ _) far.1
       replace hn := hn.far Vn (noInt2 _ _ _ _) far.1
       replace BX := far.2 _ _ (by first | omega | (simp; omega)) BX
       replace Vn := V'
       clear oth far
       refine hK.out _ _ (LS.out _ BX) (fun hHeld => ?_)
       clear hK K
       refine wpAnyH_take (i := 11) (v := ?_) rfl (by kernel_rfl) (by kernel_rfl) (by kernel_rfl) (fun _ _ _ h => h) (Or.inl ⟨by rfl, ?_⟩) hHeld ?_
       rotate_left
       · (intro W hSw; (try dsimp only at hSw); go_simp; all_goals (with_reducible rfl))
       simp only [gA, gB, gC, Act.put, gD, gE, gF]
       refine wpAnyH_done (by kernel_rfl) ?_ _
       refine NoPanic.normal ?_
       clear hHeld
       go_wp2_with fail
       go_meet
       exact ⟨_, sn, an, ln, cn, zn, rfl, rfl, Vn, hn, en, BX⟩
   ·
    simp only [gA, gB, gC]
    go_simp
    have sz_Vn := BX.size
    refine ent1 _ _ _ (Q := fun V => K _ V) ?_
    intro x7 hb hs_ Vn
    replace BX := step BX hb
    clear hb hs_
    refine hK.out _ _ (LS.out _ BX) (fun hHeld => ?_)
    clear hK K
    refine wpAnyH_ready (rs := [3]) (by kernel_rfl) (by simp) ?_
    refine AllReadyH.cons rfl (fun K hK => ?_) AllReadyH.nil
    ·
     simp only [gA, gB, gC]
     go_simp
     refine (rden_any s2 a2 l2 c2 b2 m2 d2 y2 _ (Rt.after BX L_hu.out).2.1).mono ?_
     rintro e x8 ⟨b3, m3, d3, y3, rfl, h3, e3, hb⟩
     replace Vn := Va.after hb Vn
     replace BX := step BX hb
     clear hb
     have E3 : Hid (num y3 = (t.den : Int)) := e3.trans L_hu.out.2.2.2.1
     clear e3
     try go_wp2_with fail
     refine hK.out _ _ (LS.out _ BX) (fun hHeld => ?_)
     clear hK K
     refine wpAnyH_ready (rs := [4]) (by kernel_rfl) (by simp) ?_
     refine AllReadyH.cons rfl (fun K hK => ?_) AllReadyH.nil
     ·
      simp only [gA, gB, gC]
      go_simp
      refine (above7 b3 m3 d3 y3 _ h3).mono ?_
      rintro e x9 ⟨rfl, h4, hb⟩
      replace Vn := Va.after hb Vn
      replace h3 := Nt.after hb h3
      replace BX := step BX hb
      clear hb
      try go_wp2_with fail
      refine hK.out _ _ (LS.out _ BX) (fun hHeld => ?_)
      clear hK K
      refine wpAnyH_ready (rs := [5]) (by kernel_rfl) (by simp) ?_
      refine AllReadyH.cons rfl (fun K hK => ?_) AllReadyH.nil
      ·
       simp only [gA, gB, gC]
       go_simp
       refine (wmul_ok s1 false a1 b3 l1 c1 m3 d3 z1 y3 _ (Rt.after BX L_hr.out).1 h4 (by show ((iv s1 z1 * iv false y3).natAbs : Int) < _; rw [L_hr.out.2.2.1, iv_f, E3.out]; exact Int.lt_of_lt_of_le (F1.out 2048 rfl) (pw_mono (by omega)))).mono ?_
       rintro e x10 ⟨sn, an, ln, cn, zn, rfl, hn, en, hb⟩
       replace Vn := Va.after hb Vn
       replace h3 := Nt.after hb h3
       replace h4 := It.after hb h4
       replace BX := step BX hb
       clear hb
       replace en : iv sn zn = v.num * (t.den : Int) := by rw [en, L_hr.out.2.2.1, iv_f, E3.out]
       try go_wp2_with fail
       refine hK.out _ _ (LS.out _ BX) (fun hHeld => ?_)
       clear hK K
       refine wpAnyH_take (i := 6) (v := ?_) rfl (by kernel_rfl) (by kernel_rfl) (by kernel_rfl) (fun _ _ _ h => h) (Or.inl ⟨by rfl, ?_⟩) hHeld ?_
       rotate_left
       · (intro W hSw; (try dsimp only at hSw); go_simp; all_goals (with_reducible rfl))
       simp only [gA, gB, gC, Act.put, gD, gE, gF]
       refine wpAnyH_take (i := 7) (v := ?_) rfl (by kernel_rfl) (by kernel_rfl) (by kernel_rfl) (fun _ _ _ h => h) (Or.inl ⟨by rfl, ?_⟩) hHeld ?_
       rotate_left
       · (intro W hSw; (try dsimp only at hSw); go_simp; all_goals (with_reducible rfl))
       simp only [gA, gB, gC, Act.put, gD, gE, gF]
       refine wpAnyH_take (i := 8) (v := ?_) rfl (by kernel_rfl) (by kernel_rfl) (by kernel_rfl) (fun _ _ _ h => h) (Or.inl ⟨by rfl, ?_⟩) hHeld ?_
       rotate_left
       · (intro W hSw; (try dsimp only at hSw); go_simp; all_goals (with_reducible rfl))
       simp only [gA, gB, gC, Act.put, gD, gE, gF]
       have c_Vn := Vn.c0
       have f0_Vn := Vn.frozen 0
       have d_Vn := Vn.c1
       have f1_Vn := Vn.frozen 1
       have l_Vn := Vn.lt
       have m_Vn := Nat.le_of_lt l_Vn
       refine wpAnyH_ready (rs := [10]) (by kernel_rfl) (by simp) ?_
       refine AllReadyH.cons rfl (fun K hK => ?_) AllReadyH.nil
       simp only [gA, gB, gC]
       go_simp
       clear c_Vn f0_Vn d_Vn f1_Vn l_Vn m_Vn
       refine st2 Vn (.bool sn) (.slice an ln cn) (Q := fun W => K _ W) ?_
       intro x11 V' oth far
       replace h3 := h3.far Vn (noInt2 _ _ _ _) far.1
       replace h4 := h4.far Vn (noInt2 _ _ _ _) far.1
       replace hn := hn.far Vn (noInt2 _ _ _ _) far.1
       replace BX := far.2 _ _ (by first | omega | (simp; omega)) BX
       replace Vn := V'
       clear oth far
       refine hK.out _ _ (LS.out _ BX) (fun hHeld => ?_)
       clear hK K
       refine wpAnyH_take (i := 11) (v := ?_) rfl (by kernel_rfl) (by kernel_rfl) (by kernel_rfl) (fun _ _ _ h => h) (Or.inl ⟨by rfl, ?_⟩) hHeld ?_
       rotate_left
       · (intro W hSw; (try dsimp only at hSw); go_simp; all_goals (with_reducible rfl))
       simp only [gA, gB, gC, Act.put, gD, gE, gF]
       refine wpAnyH_done (by kernel_rfl) ?_ _
       refine NoPanic.normal ?_
       clear hHeld
       go_wp2_with fail
       go_meet
       exact ⟨_, sn, an, ln, cn, zn, rfl, rfl, Vn, hn, en, BX⟩
  ·
   simp only [gA, gB, gC]
   go_simp
   have sz_Vn := BX.size
   refine ent1 _ _ _ (Q := fun V => K _ V) ?_
   intro x6 hb hs_ Vn
   replace BX := step BX hb
   clear hb hs_
   refine hK.out _ _ (LS.out _ BX) (fun hHeld => ?_)
   clear hK K
   refine wpAnyH_ready (rs := [1]) (by kernel_rfl) (by simp) ?_
   refine AllReadyH.cons rfl (fun K hK => ?_) AllReadyH.nil
   ·
    simp only [gA, gB, gC]
    go_simp
    refine (qnum_any s1 a1 l1 c1 b1 m1 d1 _).mono ?_
    rintro e x7 ⟨rfl, hb⟩
    replace Vn := Va.after hb Vn
    replace BX := step BX hb
    clear hb
    try go_wp2_with fail
    refine hK.out _ _ (LS.out _ BX) (fun hHeld => ?_)
    clear hK K
    refine wpAnyH_ready (rs := [3]) (by kernel_rfl) (by simp) ?_
    refine AllReadyH.cons rfl (fun K hK => ?_) AllReadyH.nil
    ·
     simp only [gA, gB, gC]
     go_simp
     refine (rden_any s2 a2 l2 c2 b2 m2 d2 y2 _ (Rt.after BX L_hu.out).2.1).mono ?_
     rintro e x8 ⟨b3, m3, d3, y3, rfl, h3, e3, hb⟩
     replace Vn := Va.after hb Vn
     replace BX := step BX hb
     clear hb
     have E3 : Hid (num y3 = (t.den : Int)) := e3.trans L_hu.out.2.2.2.1
     clear e3
     try go_wp2_with fail
     refine hK.out _ _ (LS.out _ BX) (fun hHeld => ?_)
     clear hK K
     refine wpAnyH_ready (rs := [4]) (by kernel_rfl) (by simp) ?_
     refine AllReadyH.cons rfl (fun K hK => ?_) AllReadyH.nil
     ·
      simp only [gA, gB, gC]
      go_simp
      refine (above7 b3 m3 d3 y3 _ h3).mono ?_
      rintro e x9 ⟨rfl, h4, hb⟩
      replace Vn := Va.after hb Vn
      replace h3 := Nt.after hb h3
      replace BX := step BX hb
      clear hb
      try go_wp2_with fail
      refine hK.out _ _ (LS.out _ BX) (fun hHeld => ?_)
      clear hK K
      refine wpAnyH_ready (rs := [5]) (by kernel_rfl) (by simp) ?_
      refine AllReadyH.cons rfl (fun K hK => ?_) AllReadyH.nil
      ·
       simp only [gA, gB, gC]
       go_simp
       refine (wmul_ok s1 false a1 b3 l1 c1 m3 d3 z1 y3 _ (Rt.after BX L_hr.out).1 h4 (by show ((iv s1 z1 * iv false y3).natAbs : Int) < _; rw [L_hr.out.2.2.1, iv_f, E3.out]; exact Int.lt_of_lt_of_le (F1.out 2048 rfl) (pw_mono (by omega)))).mono ?_
       rintro e x10 ⟨sn, an, ln, cn, zn, rfl, hn, en, hb⟩
       replace Vn := Va.after hb Vn
       replace h3 := Nt.after hb h3
       replace h4 := It.after hb h4
       replace BX := step BX hb
       clear hb
       replace en : iv sn zn = v.num * (t.den : Int) := by rw [en, L_hr.out.2.2.1, iv_f, E3.out]
       try go_wp2_with fail
       refine hK.out _ _ (LS.out _ BX) (fun hHeld => ?_)
       clear hK K
       refine wpAnyH_take (i := 6) (v := ?_) rfl (by kernel_rfl) (by kernel_rfl) (by kernel_rfl) (fun _ _ _ h => h) (Or.inl ⟨by rfl, ?_⟩) hHeld ?_
       rotate_left
       · (intro W hSw; (try dsimp only at hSw); go_simp; all_goals (with_reducible rfl))
       simp only [gA, gB, gC, Act.put, gD, gE, gF]
       refine wpAnyH_take (i := 7) (v := ?_) rfl (by kernel_rfl) (by kernel_rfl) (by kernel_rfl) (fun _ _ _ h => h) (Or.inl ⟨by rfl, ?_⟩) hHeld ?_
       rotate_left
       · (intro W hSw; (try dsimp only at hSw); go_simp; all_goals (with_reducible rfl))
       simp only [gA, gB, gC, Act.put, gD, gE, gF]
       refine wpAnyH_take (i := 8) (v := ?_) rfl (by kernel_rfl) (by kernel_rfl) (by kernel_rfl) (fun _ _ _ h => h) (Or.inl ⟨by rfl, ?_⟩) hHeld ?_
       rotate_left
       · (intro W hSw; (try dsimp only at hSw); go_simp; all_goals (with_reducible rfl))
       simp only [gA, gB, gC, Act.put, gD, gE, gF]
       have c_Vn := Vn.c0
       have f0_Vn := Vn.frozen 0
       have d_Vn := Vn.c1
       have f1_Vn := Vn.frozen 1
       have l_Vn := Vn.lt
       have m_Vn := Nat.le_of_lt l_Vn
       refine wpAnyH_ready (rs := [10]) (by kernel_rfl) (by simp) ?_
       refine AllReadyH.cons rfl (fun K hK => ?_) AllReadyH.nil
       simp only [gA, gB, gC]
       go_simp
       clear c_Vn f0_Vn d_Vn f1_Vn l_Vn m_Vn
       refine st2 Vn (.bool sn) (.slice an ln cn) (Q := fun W => K _ W) ?_
       intro x11 V' oth far
       replace h3 := h3.far Vn (noInt2 _ _ _ _) far.1
       replace h4 := h4.far Vn (noInt2 _ _ _ _) far.1
       replace hn := hn.far Vn (noInt2 _ _ _ _) far.1
       replace BX := far.2 _ _ (by first | omega | (simp; omega)) BX
       replace Vn := V'
       clear oth far
       refine hK.out _ _ (LS.out _ BX) (fun hHeld => ?_)
       clear hK K
       refine wpAnyH_take (i := 11) (v := ?_) rfl (by kernel_rfl) (by kernel_rfl) (by kernel_rfl) (fun _ _ _ h => h) (Or.inl ⟨by rfl, ?_⟩) hHeld ?_
       rotate_left
       · (intro W hSw; (try dsimp only at hSw); go_simp; all_goals (with_reducible rfl))
       simp only [gA, gB, gC, Act.put, gD, gE, gF]
       refine wpAnyH_done (by kernel_rfl) ?_ _
       refine NoPanic.normal ?_
       clear hHeld
       go_wp2_with fail
       go_meet
       exact ⟨_, sn, an, ln, cn, zn, rfl, rfl, Vn, hn, en, BX⟩
 case rest =>
  clear BX
  obtain ⟨b10, sn, an, ln, cn, zn, rfl, rfl, Vn', hn', en', BX'⟩ := hcut
  have Vn := Vn'.out
  have hn := hn'.out
  have en := en'.out
  have BX := BX'.out
  clear Vn' hn' en' BX'
  have V0 := Va.after BX L_V0.out
  have V1 := Va.after BX L_V1.out
  have V2 := Va.after BX L_V2.out
  have Vw := Va.after BX L_Vw.out
  have hr := Rt.after BX L_hr.out
  have hu := Rt.after BX L_hu.out
  have B0 := step L_B.out BX
  have EN : Hid (iv sn zn = v.num * (t.den : Int)) := en
  clear en
  go_wp2_with fail
  have LS : Hid (∀ W, Below wc.heap.size wc W → (fun W => W.cell? ⟨w.heap.size, 0, none⟩ = some (.bool s1) ∧ W.cell? ⟨w.heap.size, 1, none⟩ = some (.slice a1 l1 c1) ∧ W.cell? ⟨w.heap.size, 2, none⟩ = some (.slice b1 m1 d1) ∧ W.cell? ⟨w.heap.size + 1, 0, none⟩ = some (.bool s2) ∧ W.cell? ⟨w.heap.size + 1, 1, none⟩ = some (.slice a2 l2 c2) ∧ W.cell? ⟨w.heap.size + 1, 2, none⟩ = some (.slice b2 m2 d2)) W) := fun W hb => ⟨(Va.after hb V0).d0, (Va.after hb V0).d1, (Va.after hb V0).d2, (Va.after hb V1).d0, (Va.after hb V1).d1, (Va.after hb V1).d2⟩
  have lb_V0 := V0.lt
  have L_V0 : Hid (Va wc (w.heap.size) 30 #[.bool s1, .slice a1 l1 c1, .slice b1 m1 d1]) := V0
  have lb_V1 := V1.lt
  have L_V1 : Hid (Va wc (w.heap.size + 1) 30 #[.bool s2, .slice a2 l2 c2, .slice b2 m2 d2]) := V1
  have lb_V2 := V2.lt
  have L_V2 : Hid (Va wc (w.heap.size + 1 + 1) 30 #[.bool false, .slice none 0 0, .slice none 0 0]) := V2
  have lb_Vw := Vw.lt
  have L_Vw : Hid (Va wc (x2.heap.size) 54 #[.int .i64 q, .string nm, .func (.func Kf) #[] #[]]) := Vw
  have lb_Vn := Vn.lt
  have L_Vn : Hid (Va wc (b10) 28 #[.bool sn, .slice an ln cn]) := Vn
  have L_hr : Hid (Rt wc s1 a1 l1 c1 z1 b1 m1 d1 y1 v) := hr
  have L_hu : Hid (Rt wc s2 a2 l2 c2 z2 b2 m2 d2 y2 t) := hu
  have L_hn : Hid (It wc sn an ln cn zn) := hn
  have L_B : Hid (Below w.heap.size w wc) := B0
  clear V0 V1 V2 Vw Vn hr hu hn B0
  have BX := Below.refl wc.heap.size wc
  go_cut [12, 13] (fun s12 s13 wx => ∃ (b12 : Nat) (bd : Option Addr) (md dd : Nat) (yd : List Int), s12 = .pointer (some ⟨b12, 0, none⟩) ∧ s13 = .int .i64 0 ∧ Hid (Va wx b12 26 #[.slice bd md dd]) ∧ Hid (Nt wx bd md dd yd) ∧ Hid (num yd = (v.den : Int) * t.num) ∧ Hid (Below wc.heap.size wc wx))
  case first =>
   refine wp_region_noPanic ?_
   replace BX := Below.drew BX
   refine wp_region_held_drew (S := (fun W => W.cell? ⟨w.heap.size, 0, none⟩ = some (.bool s1) ∧ W.cell? ⟨w.heap.size, 1, none⟩ = some (.slice a1 l1 c1) ∧ W.cell? ⟨w.heap.size, 2, none⟩ = some (.slice b1 m1 d1) ∧ W.cell? ⟨w.heap.size + 1, 0, none⟩ = some (.bool s2) ∧ W.cell? ⟨w.heap.size + 1, 1, none⟩ = some (.slice a2 l2 c2) ∧ W.cell? ⟨w.heap.size + 1, 2, none⟩ = some (.slice b2 m2 d2))) (by kernel_rfl) (LS.out _ BX) (fun hHeld => ?_)
   obtain ⟨x5, hxd⟩ : ∃ xd, xd = wc.drew := ⟨_, rfl⟩
   rw [← hxd] at BX hHeld ⊢
   clear hxd
   refine wpAnyH_take (i := 0) (v := ?_) rfl (by kernel_rfl) (by kernel_rfl) (by kernel_rfl) (fun _ _ _ h => h) (Or.inl ⟨by rfl, ?_⟩) hHeld ?_
   rotate_left
   · (intro W hSw; (try dsimp only at hSw); go_simp; all_goals (with_reducible rfl))
   simp only [gA, gB, Act.put, gD, gE, gF]
   refine wpAnyH_take (i := 2) (v := ?_) rfl (by kernel_rfl) (by kernel_rfl) (by kernel_rfl) (fun _ _ _ h => h) (Or.inl ⟨by rfl, ?_⟩) hHeld ?_
   rotate_left
   · (intro W hSw; (try dsimp only at hSw); go_simp; all_goals (with_reducible rfl))
   simp only [gA, gB, gC, Act.put, gD, gE, gF]
   refine wpAnyH_ready (rs := [1, 9]) (by kernel_rfl) (by simp) ?_
   refine AllReadyH.cons rfl (fun K hK => ?_) (AllReadyH.cons rfl (fun K hK => ?_) AllReadyH.nil)
   ·
    simp only [gA, gB, gC]
    go_simp
    refine (rden_any s1 a1 l1 c1 b1 m1 d1 y1 _ (Rt.after BX L_hr.out).2.1).mono ?_
    rintro e x6 ⟨b3, m3, d3, y3, rfl, h3, e3, hb⟩
    replace BX := step BX hb
    clear hb
    have E3 : Hid (num y3 = (v.den : Int)) := e3.trans L_hr.out.2.2.2.1
    clear e3
    try go_wp2_with fail
    refine hK.out _ _ (LS.out _ BX) (fun hHeld => ?_)
    clear hK K
    refine wpAnyH_ready (rs := [3, 9]) (by kernel_rfl) (by simp) ?_
    refine AllReadyH.cons rfl (fun K hK => ?_) (AllReadyH.cons rfl (fun K hK => ?_) AllReadyH.nil)
    ·
     simp only [gA, gB, gC]
     go_simp
     refine (qnum_any s2 a2 l2 c2 b2 m2 d2 _).mono ?_
     rintro e x7 ⟨rfl, hb⟩
     replace h3 := Nt.after hb h3
     replace BX := step BX hb
     clear hb
     try go_wp2_with fail
     refine hK.out _ _ (LS.out _ BX) (fun hHeld => ?_)
     clear hK K
     refine wpAnyH_ready (rs := [4, 9]) (by kernel_rfl) (by simp) ?_
     refine AllReadyH.cons rfl (fun K hK => ?_) (AllReadyH.cons rfl (fun K hK => ?_) AllReadyH.nil)
     ·
      simp only [gA, gB, gC]
      go_simp
      refine (wabs_any s2 a2 l2 c2 _).mono ?_
      rintro e x8 ⟨rfl, hb⟩
      replace h3 := Nt.after hb h3
      replace BX := step BX hb
      clear hb
      try go_wp2_with fail
      refine hK.out _ _ (LS.out _ BX) (fun hHeld => ?_)
      clear hK K
      refine wpAnyH_ready (rs := [5, 9]) (by kernel_rfl) (by simp) ?_
      refine AllReadyH.cons rfl (fun K hK => ?_) (AllReadyH.cons rfl (fun K hK => ?_) AllReadyH.nil)
      ·
       simp only [gA, gB, gC]
       go_simp
       refine (nmul_ok b3 a2 m3 d3 l2 c2 y3 z2 _ h3 (Rt.after BX L_hu.out).1.1 (by rw [E3.out, L_hu.out.1.abs, L_hu.out.2.2.1]; have h9 := ht.out; rw [show ((t.num.natAbs : Nat) : Int) = t.num by omega]; exact Int.lt_of_lt_of_le (F2.out 2048 rfl) (pw_mono (by omega)))).mono ?_
       rintro e x9 ⟨bd, md, dd, yd, rfl, hd, ed, hb⟩
       replace h3 := Nt.after hb h3
       replace BX := step BX hb
       clear hb
       replace ed : num yd = (v.den : Int) * t.num := by rw [ed, E3.out, L_hu.out.1.abs, L_hu.out.2.2.1]; have h9 := ht.out; rw [show ((t.num.natAbs : Nat) : Int) = t.num by omega]
       try go_wp2_with fail
       refine hK.out _ _ (LS.out _ BX) (fun hHeld => ?_)
       clear hK K
       refine wpAnyH_take (i := 6) (v := ?_) rfl (by kernel_rfl) (by kernel_rfl) (by kernel_rfl) (fun _ _ _ h => h) (Or.inl ⟨by rfl, ?_⟩) hHeld ?_
       rotate_left
       · (intro W hSw; (try dsimp only at hSw); go_simp; all_goals (with_reducible rfl))
       simp only [gA, gB, gC, Act.put, gD, gE, gF]
       refine wpAnyH_take (i := 7) (v := ?_) rfl (by kernel_rfl) (by kernel_rfl) (by kernel_rfl) (fun _ _ _ h => h) (Or.inl ⟨by rfl, ?_⟩) hHeld ?_
       rotate_left
       · (intro W hSw; (try dsimp only at hSw); go_simp; all_goals (with_reducible rfl))
       simp only [gA, gB, gC, Act.put, gD, gE, gF]
       refine wpAnyH_take (i := 8) (v := ?_) rfl (by kernel_rfl) (by kernel_rfl) (by kernel_rfl) (fun _ _ _ h => h) (Or.inl ⟨by rfl, ?_⟩) hHeld ?_
       rotate_left
       · (intro W hSw; (try dsimp only at hSw); go_simp; all_goals (with_reducible rfl))
       simp only [gA, gB, gC, Act.put, gD, gE, gF]
       refine wpAnyH_ready (rs := [9]) (by kernel_rfl) (by simp) ?_
       refine AllReadyH.cons rfl (fun K hK => ?_) AllReadyH.nil
       ·
        simp only [gA, gB, gC]
        go_simp
        have sz_Vd := BX.size
        refine ent1 _ _ _ (Q := fun V => K _ V) ?_
        intro x10 hb hs_ Vd
        replace h3 := Nt.after hb h3
        replace hd := Nt.after hb hd
        replace BX := step BX hb
        clear hb hs_
        refine hK.out _ _ (LS.out _ BX) (fun hHeld => ?_)
        clear hK K
        have c_Vd := Vd.cell
        have f0_Vd := Vd.frozen 0
        have l_Vd := Vd.lt
        have m_Vd := Nat.le_of_lt l_Vd
        refine wpAnyH_ready (rs := [10]) (by kernel_rfl) (by simp) ?_
        refine AllReadyH.cons rfl (fun K hK => ?_) AllReadyH.nil
        simp only [gA, gB, gC]
        go_simp
        clear c_Vd f0_Vd l_Vd m_Vd
        refine sto1 Vd (.slice bd md dd) (Q := fun W => K _ W) ?_
        intro x11 V' oth far
        replace h3 := h3.far Vd (noInt1 _ _ _) far.1
        replace hd := hd.far Vd (noInt1 _ _ _) far.1
        replace BX := far.2 _ _ (by first | omega | (simp; omega)) BX
        replace Vd := V'
        clear oth far
        refine hK.out _ _ (LS.out _ BX) (fun hHeld => ?_)
        clear hK K
        refine wpAnyH_take (i := 11) (v := ?_) rfl (by kernel_rfl) (by kernel_rfl) (by kernel_rfl) (fun _ _ _ h => h) (Or.inl ⟨by rfl, ?_⟩) hHeld ?_
        rotate_left
        · (intro W hSw; (try dsimp only at hSw); go_simp; all_goals (with_reducible rfl))
        simp only [gA, gB, gC, Act.put, gD, gE, gF]
        refine wpAnyH_done (by kernel_rfl) ?_ _
        refine NoPanic.normal ?_
        clear hHeld
        go_wp2_with fail
        go_meet
        exact ⟨_, bd, md, dd, yd, rfl, rfl, Vd, hd, ed, BX⟩
      ·
       simp only [gA, gB, gC]
       go_simp
       have sz_Vd := BX.size
       refine ent1 _ _ _ (Q := fun V => K _ V) ?_
       intro x9 hb hs_ Vd
       replace h3 := Nt.after hb h3
       replace BX := step BX hb
       clear hb hs_
       refine hK.out _ _ (LS.out _ BX) (fun hHeld => ?_)
       clear hK K
       refine wpAnyH_ready (rs := [5]) (by kernel_rfl) (by simp) ?_
       refine AllReadyH.cons rfl (fun K hK => ?_) AllReadyH.nil
       ·
        simp only [gA, gB, gC]
        go_simp
        refine (nmul_ok b3 a2 m3 d3 l2 c2 y3 z2 _ h3 (Rt.after BX L_hu.out).1.1 (by rw [E3.out, L_hu.out.1.abs, L_hu.out.2.2.1]; have h9 := ht.out; rw [show ((t.num.natAbs : Nat) : Int) = t.num by omega]; exact Int.lt_of_lt_of_le (F2.out 2048 rfl) (pw_mono (by omega)))).mono ?_
        rintro e x10 ⟨bd, md, dd, yd, rfl, hd, ed, hb⟩
        replace Vd := Va.after hb Vd
        replace h3 := Nt.after hb h3
        replace BX := step BX hb
        clear hb
        replace ed : num yd = (v.den : Int) * t.num := by rw [ed, E3.out, L_hu.out.1.abs, L_hu.out.2.2.1]; have h9 := ht.out; rw [show ((t.num.natAbs : Nat) : Int) = t.num by omega]
        try go_wp2_with fail
        refine hK.out _ _ (LS.out _ BX) (fun hHeld => ?_)
        clear hK K
        refine wpAnyH_take (i := 6) (v := ?_) rfl (by kernel_rfl) (by kernel_rfl) (by kernel_rfl) (fun _ _ _ h => h) (Or.inl ⟨by rfl, ?_⟩) hHeld ?_
        rotate_left
        · (intro W hSw; (try dsimp only at hSw); go_simp; all_goals (with_reducible rfl))
        simp only [gA, gB, gC, Act.put, gD, gE, gF]
        refine wpAnyH_take (i := 7) (v := ?_) rfl (by kernel_rfl) (by kernel_rfl) (by kernel_rfl) (fun _ _ _ h => h) (Or.inl ⟨by rfl, ?_⟩) hHeld ?_
        rotate_left
        · (intro W hSw; (try dsimp only at hSw); go_simp; all_goals (with_reducible rfl))
        simp only [gA, gB, gC, Act.put, gD, gE, gF]
        refine wpAnyH_take (i := 8) (v := ?_) rfl (by kernel_rfl) (by kernel_rfl) (by kernel_rfl) (fun _ _ _ h => h) (Or.inl ⟨by rfl, ?_⟩) hHeld ?_
        rotate_left
        · (intro W hSw; (try dsimp only at hSw); go_simp; all_goals (with_reducible rfl))
        simp only [gA, gB, gC, Act.put, gD, gE, gF]
        have c_Vd := Vd.cell
        have f0_Vd := Vd.frozen 0
        have l_Vd := Vd.lt
        have m_Vd := Nat.le_of_lt l_Vd
        refine wpAnyH_ready (rs := [10]) (by kernel_rfl) (by simp) ?_
        refine AllReadyH.cons rfl (fun K hK => ?_) AllReadyH.nil
        simp only [gA, gB, gC]
        go_simp
        clear c_Vd f0_Vd l_Vd m_Vd
        refine sto1 Vd (.slice bd md dd) (Q := fun W => K _ W) ?_
        intro x11 V' oth far
        replace h3 := h3.far Vd (noInt1 _ _ _) far.1
        replace hd := hd.far Vd (noInt1 _ _ _) far.1
        replace BX := far.2 _ _ (by first | omega | (simp; omega)) BX
        replace Vd := V'
        clear oth far
        refine hK.out _ _ (LS.out _ BX) (fun hHeld => ?_)
        clear hK K
        refine wpAnyH_take (i := 11) (v := ?_) rfl (by kernel_rfl) (by kernel_rfl) (by kernel_rfl) (fun _ _ _ h => h) (Or.inl ⟨by rfl, ?_⟩) hHeld ?_
        rotate_left
        · (intro W hSw; (try dsimp only at hSw); go_simp; all_goals (with_reducible rfl))
        simp only [gA, gB, gC, Act.put, gD, gE, gF]
        refine wpAnyH_done (by kernel_rfl) ?_ _
        refine NoPanic.normal ?_
        clear hHeld
        go_wp2_with fail
        go_meet
        exact ⟨_, bd, md, dd, yd, rfl, rfl, Vd, hd, ed, BX⟩
     ·
      simp only [gA, gB, gC]
      go_simp
      have sz_Vd := BX.size
      refine ent1 _ _ _ (Q := fun V => K _ V) ?_
      intro x8 hb hs_ Vd
      replace h3 := Nt.after hb h3
      replace BX := step BX hb
      clear hb hs_
      refine hK.out _ _ (LS.out _ BX) (fun hHeld => ?_)
      clear hK K
      refine wpAnyH_ready (rs := [4]) (by kernel_rfl) (by simp) ?_
      refine AllReadyH.cons rfl (fun K hK => ?_) AllReadyH.nil
      ·
       simp only [gA, gB, gC]
       go_simp
       refine (wabs_any s2 a2 l2 c2 _).mono ?_
       rintro e x9 ⟨rfl, hb⟩
       replace Vd := Va.after hb Vd
       replace h3 := Nt.after hb h3
       replace BX := step BX hb
       clear hb
       try go_wp2_with fail
       refine hK.out _ _ (LS.out _ BX) (fun hHeld => ?_)
       clear hK K
       refine wpAnyH_ready (rs := [5]) (by kernel_rfl) (by simp) ?_
       refine AllReadyH.cons rfl (fun K hK => ?_) AllReadyH.nil
       ·
        simp only [gA, gB, gC]
        go_simp
        refine (nmul_ok b3 a2 m3 d3 l2 c2 y3 z2 _ h3 (Rt.after BX L_hu.out).1.1 (by rw [E3.out, L_hu.out.1.abs, L_hu.out.2.2.1]; have h9 := ht.out; rw [show ((t.num.natAbs : Nat) : Int) = t.num by omega]; exact Int.lt_of_lt_of_le (F2.out 2048 rfl) (pw_mono (by omega)))).mono ?_
        rintro e x10 ⟨bd, md, dd, yd, rfl, hd, ed, hb⟩
        replace Vd := Va.after hb Vd
        replace h3 := Nt.after hb h3
        replace BX := step BX hb
        clear hb
        replace ed : num yd = (v.den : Int) * t.num := by rw [ed, E3.out, L_hu.out.1.abs, L_hu.out.2.2.1]; have h9 := ht.out; rw [show ((t.num.natAbs : Nat) : Int) = t.num by omega]
        try go_wp2_with fail
        refine hK.out _ _ (LS.out _ BX) (fun hHeld => ?_)
        clear hK K
        refine wpAnyH_take (i := 6) (v := ?_) rfl (by kernel_rfl) (by kernel_rfl) (by kernel_rfl) (fun _ _ _ h => h) (Or.inl ⟨by rfl, ?_⟩) hHeld ?_
        rotate_left
        · (intro W hSw; (try dsimp only at hSw); go_simp; all_goals (with_reducible rfl))
        simp only [gA, gB, gC, Act.put, gD, gE, gF]
        refine wpAnyH_take (i := 7) (v := ?_) rfl (by kernel_rfl) (by kernel_rfl) (by kernel_rfl) (fun _ _ _ h => h) (Or.inl ⟨by rfl, ?_⟩) hHeld ?_
        rotate_left
        · (intro W hSw; (try dsimp only at hSw); go_simp; all_goals (with_reducible rfl))
        simp only [gA, gB, gC, Act.put, gD, gE, gF]
        refine wpAnyH_take (i := 8) (v := ?_) rfl (by kernel_rfl) (by kernel_rfl) (by kernel_rfl) (fun _ _ _ h => h) (Or.inl ⟨by rfl, ?_⟩) hHeld ?_
        rotate_left
        · (intro W hSw; (try dsimp only at hSw); go_simp; all_goals (with_reducible rfl))
        simp only [gA, gB, gC, Act.put, gD, gE, gF]
        have c_Vd := Vd.cell
        have f0_Vd := Vd.frozen 0
        have l_Vd := Vd.lt
        have m_Vd := Nat.le_of_lt l_Vd
        refine wpAnyH_ready (rs := [10]) (by kernel_rfl) (by simp) ?_
        refine AllReadyH.cons rfl (fun K hK => ?_) AllReadyH.nil
        simp only [gA, gB, gC]
        go_simp
        clear c_Vd f0_Vd l_Vd m_Vd
        refine sto1 Vd (.slice bd md dd) (Q := fun W => K _ W) ?_
        intro x11 V' oth far
        replace h3 := h3.far Vd (noInt1 _ _ _) far.1
        replace hd := hd.far Vd (noInt1 _ _ _) far.1
        replace BX := far.2 _ _ (by first | omega | (simp; omega)) BX
        replace Vd := V'
        clear oth far
        refine hK.out _ _ (LS.out _ BX) (fun hHeld => ?_)
        clear hK K
        refine wpAnyH_take (i := 11) (v := ?_) rfl (by kernel_rfl) (by kernel_rfl) (by kernel_rfl) (fun _ _ _ h => h) (Or.inl ⟨by rfl, ?_⟩) hHeld ?_
        rotate_left
        · (intro W hSw; (try dsimp only at hSw); go_simp; all_goals (with_reducible rfl))
        simp only [gA, gB, gC, Act.put, gD, gE, gF]
        refine wpAnyH_done (by kernel_rfl) ?_ _
        refine NoPanic.normal ?_
        clear hHeld
        go_wp2_with fail
        go_meet
        exact ⟨_, bd, md, dd, yd, rfl, rfl, Vd, hd, ed, BX⟩
    ·
     simp only [gA, gB, gC]
     go_simp
     have sz_Vd := BX.size
     refine ent1 _ _ _ (Q := fun V => K _ V) ?_
     intro x7 hb hs_ Vd
     replace h3 := Nt.after hb h3
     replace BX := step BX hb
     clear hb hs_
     refine hK.out _ _ (LS.out _ BX) (fun hHeld => ?_)
     clear hK K
     refine wpAnyH_ready (rs := [3]) (by kernel_rfl) (by simp) ?_
     refine AllReadyH.cons rfl (fun K hK => ?_) AllReadyH.nil
     ·
      simp only [gA, gB, gC]
      go_simp
      refine (qnum_any s2 a2 l2 c2 b2 m2 d2 _).mono ?_
      rintro e x8 ⟨rfl, hb⟩
      replace Vd := Va.after hb Vd
      replace h3 := Nt.after hb h3
      replace BX := step BX hb
      clear hb
      try go_wp2_with fail
      refine hK.out _ _ (LS.out _ BX) (fun hHeld => ?_)
      clear hK K
      refine wpAnyH_ready (rs := [4]) (by kernel_rfl) (by simp) ?_
      refine AllReadyH.cons rfl (fun K hK => ?_) AllReadyH.nil
      ·
       simp only [gA, gB, gC]
       go_simp
       refine (wabs_any s2 a2 l2 c2 _).mono ?_
       rintro e x9 ⟨rfl, hb⟩
       replace Vd := Va.after hb Vd
       replace h3 := Nt.after hb h3
       replace BX := step BX hb
       clear hb
       try go_wp2_with fail
       refine hK.out _ _ (LS.out _ BX) (fun hHeld => ?_)
       clear hK K
       refine wpAnyH_ready (rs := [5]) (by kernel_rfl) (by simp) ?_
       refine AllReadyH.cons rfl (fun K hK => ?_) AllReadyH.nil
       ·
        simp only [gA, gB, gC]
        go_simp
        refine (nmul_ok b3 a2 m3 d3 l2 c2 y3 z2 _ h3 (Rt.after BX L_hu.out).1.1 (by rw [E3.out, L_hu.out.1.abs, L_hu.out.2.2.1]; have h9 := ht.out; rw [show ((t.num.natAbs : Nat) : Int) = t.num by omega]; exact Int.lt_of_lt_of_le (F2.out 2048 rfl) (pw_mono (by omega)))).mono ?_
        rintro e x10 ⟨bd, md, dd, yd, rfl, hd, ed, hb⟩
        replace Vd := Va.after hb Vd
        replace h3 := Nt.after hb h3
        replace BX := step BX hb
        clear hb
        replace ed : num yd = (v.den : Int) * t.num := by rw [ed, E3.out, L_hu.out.1.abs, L_hu.out.2.2.1]; have h9 := ht.out; rw [show ((t.num.natAbs : Nat) : Int) = t.num by omega]
        try go_wp2_with fail
        refine hK.out _ _ (LS.out _ BX) (fun hHeld => ?_)
        clear hK K
        refine wpAnyH_take (i := 6) (v := ?_) rfl (by kernel_rfl) (by kernel_rfl) (by kernel_rfl) (fun _ _ _ h => h) (Or.inl ⟨by rfl, ?_⟩) hHeld ?_
        rotate_left
        · (intro W hSw; (try dsimp only at hSw); go_simp; all_goals (with_reducible rfl))
        simp only [gA, gB, gC, Act.put, gD, gE, gF]
        refine wpAnyH_take (i := 7) (v := ?_) rfl (by kernel_rfl) (by kernel_rfl) (by kernel_rfl) (fun _ _ _ h => h) (Or.inl ⟨by rfl, ?_⟩) hHeld ?_
        rotate_left
        · (intro W hSw; (try dsimp only at hSw); go_simp; all_goals (with_reducible rfl))
        simp only [gA, gB, gC, Act.put, gD, gE, gF]
        refine wpAnyH_take (i := 8) (v := ?_) rfl (by kernel_rfl) (by kernel_rfl) (by kernel_rfl) (fun _ _ _ h => h) (Or.inl ⟨by rfl, ?_⟩) hHeld ?_
        rotate_left
        · (intro W hSw; (try dsimp only at hSw); go_simp; all_goals (with_reducible rfl))
        simp only [gA, gB, gC, Act.put, gD, gE, gF]
        have c_Vd := Vd.cell
        have f0_Vd := Vd.frozen 0
        have l_Vd := Vd.lt
        have m_Vd := Nat.le_of_lt l_Vd
        refine wpAnyH_ready (rs := [10]) (by kernel_rfl) (by simp) ?_
        refine AllReadyH.cons rfl (fun K hK => ?_) AllReadyH.nil
        simp only [gA, gB, gC]
        go_simp
        clear c_Vd f0_Vd l_Vd m_Vd
        refine sto1 Vd (.slice bd md dd) (Q := fun W => K _ W) ?_
        intro x11 V' oth far
        replace h3 := h3.far Vd (noInt1 _ _ _) far.1
        replace hd := hd.far Vd (noInt1 _ _ _) far.1
        replace BX := far.2 _ _ (by first | omega | (simp; omega)) BX
        replace Vd := V'
        clear oth far
        refine hK.out _ _ (LS.out _ BX) (fun hHeld => ?_)
        clear hK K
        refine wpAnyH_take (i := 11) (v := ?_) rfl (by kernel_rfl) (by kernel_rfl) (by kernel_rfl) (fun _ _ _ h => h) (Or.inl ⟨by rfl, ?_⟩) hHeld ?_
        rotate_left
        · (intro W hSw; (try dsimp only at hSw); go_simp; all_goals (with_reducible rfl))
        simp only [gA, gB, gC, Act.put, gD, gE, gF]
        refine wpAnyH_done (by kernel_rfl) ?_ _
        refine NoPanic.normal ?_
        clear hHeld
        go_wp2_with fail
        go_meet
        exact ⟨_, bd, md, dd, yd, rfl, rfl, Vd, hd, ed, BX⟩
   ·
    simp only [gA, gB, gC]
    go_simp
    have sz_Vd := BX.size
    refine ent1 _ _ _ (Q := fun V => K _ V) ?_
    intro x6 hb hs_ Vd
    replace BX := step BX hb
    clear hb hs_
    refine hK.out _ _ (LS.out _ BX) (fun hHeld => ?_)
    clear hK K
    refine wpAnyH_ready (rs := [1]) (by kernel_rfl) (by simp) ?_
    refine AllReadyH.cons rfl (fun K hK => ?_) AllReadyH.nil
    ·
     simp only [gA, gB, gC]
     go_simp
     refine (rden_any s1 a1 l1 c1 b1 m1 d1 y1 _ (Rt.after BX L_hr.out).2.1).mono ?_
     rintro e x7 ⟨b3, m3, d3, y3, rfl, h3, e3, hb⟩
     replace Vd := Va.after hb Vd
     replace BX := step BX hb
     clear hb
     have E3 : Hid (num y3 = (v.den : Int)) := e3.trans L_hr.out.2.2.2.1
     clear e3
     try go_wp2_with fail
     refine hK.out _ _ (LS.out _ BX) (fun hHeld => ?_)
     clear hK K
     refine wpAnyH_ready (rs := [3]) (by kernel_rfl) (by simp) ?_
     refine AllReadyH.cons rfl (fun K hK => ?_) AllReadyH.nil
     ·
      simp only [gA, gB, gC]
      go_simp
      refine (qnum_any s2 a2 l2 c2 b2 m2 d2 _).mono ?_
      rintro e x8 ⟨rfl, hb⟩
      replace Vd := Va.after hb Vd
      replace h3 := Nt.after hb h3
      replace BX := step BX hb
      clear hb
      try go_wp2_with fail
      refine hK.out _ _ (LS.out _ BX) (fun hHeld => ?_)
      clear hK K
      refine wpAnyH_ready (rs := [4]) (by kernel_rfl) (by simp) ?_
      refine AllReadyH.cons rfl (fun K hK => ?_) AllReadyH.nil
      ·
       simp only [gA, gB, gC]
       go_simp
       refine (wabs_any s2 a2 l2 c2 _).mono ?_
       rintro e x9 ⟨rfl, hb⟩
       replace Vd := Va.after hb Vd
       replace h3 := Nt.after hb h3
       replace BX := step BX hb
       clear hb
       try go_wp2_with fail
       refine hK.out _ _ (LS.out _ BX) (fun hHeld => ?_)
       clear hK K
       refine wpAnyH_ready (rs := [5]) (by kernel_rfl) (by simp) ?_
       refine AllReadyH.cons rfl (fun K hK => ?_) AllReadyH.nil
       ·
        simp only [gA, gB, gC]
        go_simp
        refine (nmul_ok b3 a2 m3 d3 l2 c2 y3 z2 _ h3 (Rt.after BX L_hu.out).1.1 (by rw [E3.out, L_hu.out.1.abs, L_hu.out.2.2.1]; have h9 := ht.out; rw [show ((t.num.natAbs : Nat) : Int) = t.num by omega]; exact Int.lt_of_lt_of_le (F2.out 2048 rfl) (pw_mono (by omega)))).mono ?_
        rintro e x10 ⟨bd, md, dd, yd, rfl, hd, ed, hb⟩
        replace Vd := Va.after hb Vd
        replace h3 := Nt.after hb h3
        replace BX := step BX hb
        clear hb
        replace ed : num yd = (v.den : Int) * t.num := by rw [ed, E3.out, L_hu.out.1.abs, L_hu.out.2.2.1]; have h9 := ht.out; rw [show ((t.num.natAbs : Nat) : Int) = t.num by omega]
        try go_wp2_with fail
        refine hK.out _ _ (LS.out _ BX) (fun hHeld => ?_)
        clear hK K
        refine wpAnyH_take (i := 6) (v := ?_) rfl (by kernel_rfl) (by kernel_rfl) (by kernel_rfl) (fun _ _ _ h => h) (Or.inl ⟨by rfl, ?_⟩) hHeld ?_
        rotate_left
        · (intro W hSw; (try dsimp only at hSw); go_simp; all_goals (with_reducible rfl))
        simp only [gA, gB, gC, Act.put, gD, gE, gF]
        refine wpAnyH_take (i := 7) (v := ?_) rfl (by kernel_rfl) (by kernel_rfl) (by kernel_rfl) (fun _ _ _ h => h) (Or.inl ⟨by rfl, ?_⟩) hHeld ?_
        rotate_left
        · (intro W hSw; (try dsimp only at hSw); go_simp; all_goals (with_reducible rfl))
        simp only [gA, gB, gC, Act.put, gD, gE, gF]
        refine wpAnyH_take (i := 8) (v := ?_) rfl (by kernel_rfl) (by kernel_rfl) (by kernel_rfl) (fun _ _ _ h => h) (Or.inl ⟨by rfl, ?_⟩) hHeld ?_
        rotate_left
        · (intro W hSw; (try dsimp only at hSw); go_simp; all_goals (with_reducible rfl))
        simp only [gA, gB, gC, Act.put, gD, gE, gF]
        have c_Vd := Vd.cell
        have f0_Vd := Vd.frozen 0
        have l_Vd := Vd.lt
        have m_Vd := Nat.le_of_lt l_Vd
        refine wpAnyH_ready (rs := [10]) (by kernel_rfl) (by simp) ?_
        refine AllReadyH.cons rfl (fun K hK => ?_) AllReadyH.nil
        simp only [gA, gB, gC]
        go_simp
        clear c_Vd f0_Vd l_Vd m_Vd
        refine sto1 Vd (.slice bd md dd) (Q := fun W => K _ W) ?_
        intro x11 V' oth far
        replace h3 := h3.far Vd (noInt1 _ _ _) far.1
        replace hd := hd.far Vd (noInt1 _ _ _) far.1
        replace BX := far.2 _ _ (by first | omega | (simp; omega)) BX
        replace Vd := V'
        clear oth far
        refine hK.out _ _ (LS.out _ BX) (fun hHeld => ?_)
        clear hK K
        refine wpAnyH_take (i := 11) (v := ?_) rfl (by kernel_rfl) (by kernel_rfl) (by kernel_rfl) (fun _ _ _ h => h) (Or.inl ⟨by rfl, ?_⟩) hHeld ?_
        rotate_left
        · (intro W hSw; (try dsimp only at hSw); go_simp; all_goals (with_reducible rfl))
        simp only [gA, gB, gC, Act.put, gD, gE, gF]
        refine wpAnyH_done (by kernel_rfl) ?_ _
        refine NoPanic.normal ?_
        clear hHeld
        go_wp2_with fail
        go_meet
        exact ⟨_, bd, md, dd, yd, rfl, rfl, Vd, hd, ed, BX⟩
  case rest =>
   clear BX
   obtain ⟨b12, bd, md, dd, yd, rfl, rfl, Vd', hd', ed', BX'⟩ := hcut
   have Vd := Vd'.out
   have hd := hd'.out
   have ed := ed'.out
   have BX := BX'.out
   clear Vd' hd' ed' BX'
   have V0 := Va.after BX L_V0.out
   have V1 := Va.after BX L_V1.out
   have V2 := Va.after BX L_V2.out
   have Vw := Va.after BX L_Vw.out
   have Vn := Va.after BX L_Vn.out
   have hr := Rt.after BX L_hr.out
   have hu := Rt.after BX L_hu.out
   have hn := It.after BX L_hn.out
   have B0 := step L_B.out BX
   have ED : Hid (num yd = (v.den : Int) * t.num) := ed
   clear ed
   go_wp2_with fail
   have LS : Hid (∀ W, Below wc.heap.size wc W → (fun W => W.cell? ⟨x2.heap.size, 0, none⟩ = some (.int .i64 q) ∧ W.cell? ⟨x2.heap.size, 1, none⟩ = some (.string nm) ∧ W.cell? ⟨x2.heap.size, 2, none⟩ = some (.func (.func Kf) #[] #[]) ∧ W.cell? ⟨b10, 0, none⟩ = some (.bool sn) ∧ W.cell? ⟨b10, 1, none⟩ = some (.slice an ln cn) ∧ W.cell? ⟨b12, 0, none⟩ = some (.slice bd md dd) ∧ W.cell? ⟨w.heap.size + 1, 0, none⟩ = some (.bool s2) ∧ W.cell? ⟨w.heap.size + 1, 1, none⟩ = some (.slice a2 l2 c2) ∧ W.cell? ⟨w.heap.size + 1, 2, none⟩ = some (.slice b2 m2 d2)) W) := fun W hb => ⟨(Va.after hb Vw).d0, (Va.after hb Vw).d1, (Va.after hb Vw).d2, (Va.after hb Vn).c0, (Va.after hb Vn).c1, (Va.after hb Vd).cell, (Va.after hb V1).d0, (Va.after hb V1).d1, (Va.after hb V1).d2⟩
   have lb_V0 := V0.lt
   have L_V0 : Hid (Va wc (w.heap.size) 30 #[.bool s1, .slice a1 l1 c1, .slice b1 m1 d1]) := V0
   have lb_V1 := V1.lt
   have L_V1 : Hid (Va wc (w.heap.size + 1) 30 #[.bool s2, .slice a2 l2 c2, .slice b2 m2 d2]) := V1
   have lb_V2 := V2.lt
   have L_V2 : Hid (Va wc (w.heap.size + 1 + 1) 30 #[.bool false, .slice none 0 0, .slice none 0 0]) := V2
   have lb_Vw := Vw.lt
   have L_Vw : Hid (Va wc (x2.heap.size) 54 #[.int .i64 q, .string nm, .func (.func Kf) #[] #[]]) := Vw
   have lb_Vn := Vn.lt
   have L_Vn : Hid (Va wc (b10) 28 #[.bool sn, .slice an ln cn]) := Vn
   have lb_Vd := Vd.lt
   have L_Vd : Hid (Va wc (b12) 26 #[.slice bd md dd]) := Vd
   have L_hr : Hid (Rt wc s1 a1 l1 c1 z1 b1 m1 d1 y1 v) := hr
   have L_hu : Hid (Rt wc s2 a2 l2 c2 z2 b2 m2 d2 y2 t) := hu
   have L_hn : Hid (It wc sn an ln cn zn) := hn
   have L_hd : Hid (Nt wc bd md dd yd) := hd
   have L_B : Hid (Below w.heap.size w wc) := B0
   clear V0 V1 V2 Vw Vn Vd hr hu hn hd B0
   have BX := Below.refl wc.heap.size wc
   go_cut [14, 15] (fun s14 s15 wx => ∃ (b14 : Nat) (sp : Bool) (ap : Option Addr) (lp cp : Nat) (zp : List Int), s14 = .pointer (some ⟨b14, 0, none⟩) ∧ s15 = .int .i64 0 ∧ Hid (Va wx b14 28 #[.bool sp, .slice ap lp cp]) ∧ Hid (It wx sp ap lp cp zp) ∧ Hid (iv sp zp = rnd q (v.num * (t.den : Int)) ((v.den : Int) * t.num) * t.num) ∧ Hid (Below wc.heap.size wc wx) ∧ Hid (w.heap.size + 3 ≤ b14))
   case first =>
    refine wp_region_noPanic ?_
    replace BX := Below.drew BX
    refine wp_region_held_drew (S := (fun W => W.cell? ⟨x2.heap.size, 0, none⟩ = some (.int .i64 q) ∧ W.cell? ⟨x2.heap.size, 1, none⟩ = some (.string nm) ∧ W.cell? ⟨x2.heap.size, 2, none⟩ = some (.func (.func Kf) #[] #[]) ∧ W.cell? ⟨b10, 0, none⟩ = some (.bool sn) ∧ W.cell? ⟨b10, 1, none⟩ = some (.slice an ln cn) ∧ W.cell? ⟨b12, 0, none⟩ = some (.slice bd md dd) ∧ W.cell? ⟨w.heap.size + 1, 0, none⟩ = some (.bool s2) ∧ W.cell? ⟨w.heap.size + 1, 1, none⟩ = some (.slice a2 l2 c2) ∧ W.cell? ⟨w.heap.size + 1, 2, none⟩ = some (.slice b2 m2 d2))) (by kernel_rfl) (LS.out _ BX) (fun hHeld => ?_)
    obtain ⟨x5, hxd⟩ : ∃ xd, xd = wc.drew := ⟨_, rfl⟩
    rw [← hxd] at BX hHeld ⊢
    clear hxd
    refine wpAnyH_take (i := 0) (v := ?_) rfl (by kernel_rfl) (by kernel_rfl) (by kernel_rfl) (fun _ _ _ h => h) (Or.inl ⟨by rfl, ?_⟩) hHeld ?_
    rotate_left
    · (intro W hSw; (try dsimp only at hSw); go_simp; all_goals (with_reducible rfl))
    simp only [gA, gB, Act.put, gD, gE, gF]
    refine wpAnyH_take (i := 1) (v := ?_) rfl (by kernel_rfl) (by kernel_rfl) (by kernel_rfl) (fun _ _ _ h => h) (Or.inl ⟨by rfl, ?_⟩) hHeld ?_
    rotate_left
    · (intro W hSw; (try dsimp only at hSw); go_simp; all_goals (with_reducible rfl))
    simp only [gA, gB, gC, Act.put, gD, gE, gF]
    refine wpAnyH_take (i := 2) (v := ?_) rfl (by kernel_rfl) (by kernel_rfl) (by kernel_rfl) (fun _ _ _ h => h) (Or.inl ⟨by rfl, ?_⟩) hHeld ?_
    rotate_left
    · (intro W hSw; (try dsimp only at hSw); go_simp; all_goals (with_reducible rfl))
    simp only [gA, gB, gC, Act.put, gD, gE, gF]
    refine wpAnyH_take (i := 4) (v := ?_) rfl (by kernel_rfl) (by kernel_rfl) (by kernel_rfl) (fun _ _ _ h => h) (Or.inl ⟨by rfl, ?_⟩) hHeld ?_
    rotate_left
    · (intro W hSw; (try dsimp only at hSw); go_simp; all_goals (with_reducible rfl))
    simp only [gA, gB, gC, Act.put, gD, gE, gF]
    refine wpAnyH_ready (rs := [3, 10]) (by kernel_rfl) (by simp) ?_
    refine AllReadyH.cons rfl (fun K hK => ?_) (AllReadyH.cons rfl (fun K hK => ?_) AllReadyH.nil)
    ·
     simp only [gA, gB, gC]
     go_simp
     refine (rounded7 q nm Kf HK HE sn an ln cn zn bd md dd yd _ (It.after BX L_hn.out) (Nt.after BX L_hd.out) ⟨by rw [ED.out]; have := v.den_pos; exact Int.mul_pos (by omega) ht.out, fun n e => by rw [ED.out]; exact F2.out n e⟩).mono ?_
     rintro e x6 ⟨sg, ag, lg, cg, zg, rfl, hg, eg, hb⟩
     replace BX := step BX hb
     clear hb
     have EG : Hid (iv sg zg = rnd q (v.num * (t.den : Int)) ((v.den : Int) * t.num)) := by show _ = _; rw [eg, EN.out, ED.out]
     clear eg
     try go_wp2_with fail
     refine hK.out _ _ (LS.out _ BX) (fun hHeld => ?_)
     clear hK K
     refine wpAnyH_ready (rs := [5, 10]) (by kernel_rfl) (by simp) ?_
     refine AllReadyH.cons rfl (fun K hK => ?_) (AllReadyH.cons rfl (fun K hK => ?_) AllReadyH.nil)
     ·
      simp only [gA, gB, gC]
      go_simp
      refine (qnum_any s2 a2 l2 c2 b2 m2 d2 _).mono ?_
      rintro e x7 ⟨rfl, hb⟩
      replace hg := It.after hb hg
      replace BX := step BX hb
      clear hb
      try go_wp2_with fail
      refine hK.out _ _ (LS.out _ BX) (fun hHeld => ?_)
      clear hK K
      refine wpAnyH_ready (rs := [6, 10]) (by kernel_rfl) (by simp) ?_
      refine AllReadyH.cons rfl (fun K hK => ?_) (AllReadyH.cons rfl (fun K hK => ?_) AllReadyH.nil)
      ·
       simp only [gA, gB, gC]
       go_simp
       refine (wmul_ok sg s2 ag a2 lg cg l2 c2 zg z2 _ hg (Rt.after BX L_hu.out).1 (by show ((iv sg zg * iv s2 z2).natAbs : Int) < _; rw [EG.out, L_hu.out.2.2.1]; exact F3.out 4096 rfl)).mono ?_
       rintro e x8 ⟨sp, ap, lp, cp, zp, rfl, hp, ep, hb⟩
       replace hg := It.after hb hg
       replace BX := step BX hb
       clear hb
       replace ep : iv sp zp = rnd q (v.num * (t.den : Int)) ((v.den : Int) * t.num) * t.num := by rw [ep, EG.out, L_hu.out.2.2.1]
       try go_wp2_with fail
       refine hK.out _ _ (LS.out _ BX) (fun hHeld => ?_)
       clear hK K
       refine wpAnyH_take (i := 7) (v := ?_) rfl (by kernel_rfl) (by kernel_rfl) (by kernel_rfl) (fun _ _ _ h => h) (Or.inl ⟨by rfl, ?_⟩) hHeld ?_
       rotate_left
       · (intro W hSw; (try dsimp only at hSw); go_simp; all_goals (with_reducible rfl))
       simp only [gA, gB, gC, Act.put, gD, gE, gF]
       refine wpAnyH_take (i := 8) (v := ?_) rfl (by kernel_rfl) (by kernel_rfl) (by kernel_rfl) (fun _ _ _ h => h) (Or.inl ⟨by rfl, ?_⟩) hHeld ?_
       rotate_left
       · (intro W hSw; (try dsimp only at hSw); go_simp; all_goals (with_reducible rfl))
       simp only [gA, gB, gC, Act.put, gD, gE, gF]
       refine wpAnyH_take (i := 9) (v := ?_) rfl (by kernel_rfl) (by kernel_rfl) (by kernel_rfl) (fun _ _ _ h => h) (Or.inl ⟨by rfl, ?_⟩) hHeld ?_
       rotate_left
       · (intro W hSw; (try dsimp only at hSw); go_simp; all_goals (with_reducible rfl))
       simp only [gA, gB, gC, Act.put, gD, gE, gF]
       refine wpAnyH_ready (rs := [10]) (by kernel_rfl) (by simp) ?_
       refine AllReadyH.cons rfl (fun K hK => ?_) AllReadyH.nil
       ·
        simp only [gA, gB, gC]
        go_simp
        have sz_Vp := BX.size
        refine ent1 _ _ _ (Q := fun V => K _ V) ?_
        intro x9 hb hs_ Vp
        replace hg := It.after hb hg
        replace hp := It.after hb hp
        replace BX := step BX hb
        clear hb hs_
        refine hK.out _ _ (LS.out _ BX) (fun hHeld => ?_)
        clear hK K
        have c_Vp := Vp.c0
        have f0_Vp := Vp.frozen 0
        have d_Vp := Vp.c1
        have f1_Vp := Vp.frozen 1
        have l_Vp := Vp.lt
        have m_Vp := Nat.le_of_lt l_Vp
        refine wpAnyH_ready (rs := [11]) (by kernel_rfl) (by simp) ?_
        refine AllReadyH.cons rfl (fun K hK => ?_) AllReadyH.nil
        simp only [gA, gB, gC]
        go_simp
        clear c_Vp f0_Vp d_Vp f1_Vp l_Vp m_Vp
        refine st2 Vp (.bool sp) (.slice ap lp cp) (Q := fun W => K _ W) ?_
        intro x10 V' oth far
        replace hg := hg.far Vp (noInt2 _ _ _ _) far.1
        replace hp := hp.far Vp (noInt2 _ _ _ _) far.1
        replace BX := far.2 _ _ (by first | omega | (simp; omega)) BX
        replace Vp := V'
        clear oth far
        refine hK.out _ _ (LS.out _ BX) (fun hHeld => ?_)
        clear hK K
        refine wpAnyH_take (i := 12) (v := ?_) rfl (by kernel_rfl) (by kernel_rfl) (by kernel_rfl) (fun _ _ _ h => h) (Or.inl ⟨by rfl, ?_⟩) hHeld ?_
        rotate_left
        · (intro W hSw; (try dsimp only at hSw); go_simp; all_goals (with_reducible rfl))
        simp only [gA, gB, gC, Act.put, gD, gE, gF]
        refine wpAnyH_done (by kernel_rfl) ?_ _
        refine NoPanic.normal ?_
        clear hHeld
        go_wp2_with fail
        go_meet
        exact ⟨_, sp, ap, lp, cp, zp, rfl, rfl, Vp, hp, ep, BX, by show _ ≤ _; omega⟩
      ·
       simp only [gA, gB, gC]
       go_simp
       have sz_Vp := BX.size
       refine ent1 _ _ _ (Q := fun V => K _ V) ?_
       intro x8 hb hs_ Vp
       replace hg := It.after hb hg
       replace BX := step BX hb
       clear hb hs_
       refine hK.out _ _ (LS.out _ BX) (fun hHeld => ?_)
       clear hK K
       refine wpAnyH_ready (rs := [6]) (by kernel_rfl) (by simp) ?_
       refine AllReadyH.cons rfl (fun K hK => ?_) AllReadyH.nil
       ·
        simp only [gA, gB, gC]
        go_simp
        refine (wmul_ok sg s2 ag a2 lg cg l2 c2 zg z2 _ hg (Rt.after BX L_hu.out).1 (by show ((iv sg zg * iv s2 z2).natAbs : Int) < _; rw [EG.out, L_hu.out.2.2.1]; exact F3.out 4096 rfl)).mono ?_
        rintro e x9 ⟨sp, ap, lp, cp, zp, rfl, hp, ep, hb⟩
        replace Vp := Va.after hb Vp
        replace hg := It.after hb hg
        replace BX := step BX hb
        clear hb
        replace ep : iv sp zp = rnd q (v.num * (t.den : Int)) ((v.den : Int) * t.num) * t.num := by rw [ep, EG.out, L_hu.out.2.2.1]
        try go_wp2_with fail
        refine hK.out _ _ (LS.out _ BX) (fun hHeld => ?_)
        clear hK K
        refine wpAnyH_take (i := 7) (v := ?_) rfl (by kernel_rfl) (by kernel_rfl) (by kernel_rfl) (fun _ _ _ h => h) (Or.inl ⟨by rfl, ?_⟩) hHeld ?_
        rotate_left
        · (intro W hSw; (try dsimp only at hSw); go_simp; all_goals (with_reducible rfl))
        simp only [gA, gB, gC, Act.put, gD, gE, gF]
        refine wpAnyH_take (i := 8) (v := ?_) rfl (by kernel_rfl) (by kernel_rfl) (by kernel_rfl) (fun _ _ _ h => h) (Or.inl ⟨by rfl, ?_⟩) hHeld ?_
        rotate_left
        · (intro W hSw; (try dsimp only at hSw); go_simp; all_goals (with_reducible rfl))
        simp only [gA, gB, gC, Act.put, gD, gE, gF]
        refine wpAnyH_take (i := 9) (v := ?_) rfl (by kernel_rfl) (by kernel_rfl) (by kernel_rfl) (fun _ _ _ h => h) (Or.inl ⟨by rfl, ?_⟩) hHeld ?_
        rotate_left
        · (intro W hSw; (try dsimp only at hSw); go_simp; all_goals (with_reducible rfl))
        simp only [gA, gB, gC, Act.put, gD, gE, gF]
        have c_Vp := Vp.c0
        have f0_Vp := Vp.frozen 0
        have d_Vp := Vp.c1
        have f1_Vp := Vp.frozen 1
        have l_Vp := Vp.lt
        have m_Vp := Nat.le_of_lt l_Vp
        refine wpAnyH_ready (rs := [11]) (by kernel_rfl) (by simp) ?_
        refine AllReadyH.cons rfl (fun K hK => ?_) AllReadyH.nil
        simp only [gA, gB, gC]
        go_simp
        clear c_Vp f0_Vp d_Vp f1_Vp l_Vp m_Vp
        refine st2 Vp (.bool sp) (.slice ap lp cp) (Q := fun W => K _ W) ?_
        intro x10 V' oth far
        replace hg := hg.far Vp (noInt2 _ _ _ _) far.1
        replace hp := hp.far Vp (noInt2 _ _ _ _) far.1
        replace BX := far.2 _ _ (by first | omega | (simp; omega)) BX
        replace Vp := V'
        clear oth far
        refine hK.out _ _ (LS.out _ BX) (fun hHeld => ?_)
        clear hK K
        refine wpAnyH_take (i := 12) (v := ?_) rfl (by kernel_rfl) (by kernel_rfl) (by kernel_rfl) (fun _ _ _ h => h) (Or.inl ⟨by rfl, ?_⟩) hHeld ?_
        rotate_left
        · (intro W hSw; (try dsimp only at hSw); go_simp; all_goals (with_reducible rfl))
        simp only [gA, gB, gC, Act.put, gD, gE, gF]
        refine wpAnyH_done (by kernel_rfl) ?_ _
        refine NoPanic.normal ?_
        clear hHeld
        go_wp2_with fail
        go_meet
        exact ⟨_, sp, ap, lp, cp, zp, rfl, rfl, Vp, hp, ep, BX, by show _ ≤ _; omega⟩
     ·
      simp only [gA, gB, gC]
      go_simp
      have sz_Vp := BX.size
      refine ent1 _ _ _ (Q := fun V => K _ V) ?_
      intro x7 hb hs_ Vp
      replace hg := It.after hb hg
      replace BX := step BX hb
      clear hb hs_
      refine hK.out _ _ (LS.out _ BX) (fun hHeld => ?_)
      clear hK K
      refine wpAnyH_ready (rs := [5]) (by kernel_rfl) (by simp) ?_
      refine AllReadyH.cons rfl (fun K hK => ?_) AllReadyH.nil
      ·
       simp only [gA, gB, gC]
       go_simp
       refine (qnum_any s2 a2 l2 c2 b2 m2 d2 _).mono ?_
       rintro e x8 ⟨rfl, hb⟩
       replace Vp := Va.after hb Vp
       replace hg := It.after hb hg
       replace BX := step BX hb
       clear hb
       try go_wp2_with fail
       refine hK.out _ _ (LS.out _ BX) (fun hHeld => ?_)
       clear hK K
       refine wpAnyH_ready (rs := [6]) (by kernel_rfl) (by simp) ?_
       refine AllReadyH.cons rfl (fun K hK => ?_) AllReadyH.nil
       ·
        simp only [gA, gB, gC]
        go_simp
        refine (wmul_ok sg s2 ag a2 lg cg l2 c2 zg z2 _ hg (Rt.after BX L_hu.out).1 (by show ((iv sg zg * iv s2 z2).natAbs : Int) < _; rw [EG.out, L_hu.out.2.2.1]; exact F3.out 4096 rfl)).mono ?_
        rintro e x9 ⟨sp, ap, lp, cp, zp, rfl, hp, ep, hb⟩
        replace Vp := Va.after hb Vp
        replace hg := It.after hb hg
        replace BX := step BX hb
        clear hb
        replace ep : iv sp zp = rnd q (v.num * (t.den : Int)) ((v.den : Int) * t.num) * t.num := by rw [ep, EG.out, L_hu.out.2.2.1]
        try go_wp2_with fail
        refine hK.out _ _ (LS.out _ BX) (fun hHeld => ?_)
        clear hK K
        refine wpAnyH_take (i := 7) (v := ?_) rfl (by kernel_rfl) (by kernel_rfl) (by kernel_rfl) (fun _ _ _ h => h) (Or.inl ⟨by rfl, ?_⟩) hHeld ?_
        rotate_left
        · (intro W hSw; (try dsimp only at hSw); go_simp; all_goals (with_reducible rfl))
        simp only [gA, gB, gC, Act.put, gD, gE, gF]
        refine wpAnyH_take (i := 8) (v := ?_) rfl (by kernel_rfl) (by kernel_rfl) (by kernel_rfl) (fun _ _ _ h => h) (Or.inl ⟨by rfl, ?_⟩) hHeld ?_
        rotate_left
        · (intro W hSw; (try dsimp only at hSw); go_simp; all_goals (with_reducible rfl))
        simp only [gA, gB, gC, Act.put, gD, gE, gF]
        refine wpAnyH_take (i := 9) (v := ?_) rfl (by kernel_rfl) (by kernel_rfl) (by kernel_rfl) (fun _ _ _ h => h) (Or.inl ⟨by rfl, ?_⟩) hHeld ?_
        rotate_left
        · (intro W hSw; (try dsimp only at hSw); go_simp; all_goals (with_reducible rfl))
        simp only [gA, gB, gC, Act.put, gD, gE, gF]
        have c_Vp := Vp.c0
        have f0_Vp := Vp.frozen 0
        have d_Vp := Vp.c1
        have f1_Vp := Vp.frozen 1
        have l_Vp := Vp.lt
        have m_Vp := Nat.le_of_lt l_Vp
        refine wpAnyH_ready (rs := [11]) (by kernel_rfl) (by simp) ?_
        refine AllReadyH.cons rfl (fun K hK => ?_) AllReadyH.nil
        simp only [gA, gB, gC]
        go_simp
        clear c_Vp f0_Vp d_Vp f1_Vp l_Vp m_Vp
        refine st2 Vp (.bool sp) (.slice ap lp cp) (Q := fun W => K _ W) ?_
        intro x10 V' oth far
        replace hg := hg.far Vp (noInt2 _ _ _ _) far.1
        replace hp := hp.far Vp (noInt2 _ _ _ _) far.1
        replace BX := far.2 _ _ (by first | omega | (simp; omega)) BX
        replace Vp := V'
        clear oth far
        refine hK.out _ _ (LS.out _ BX) (fun hHeld => ?_)
        clear hK K
        refine wpAnyH_take (i := 12) (v := ?_) rfl (by kernel_rfl) (by kernel_rfl) (by kernel_rfl) (fun _ _ _ h => h) (Or.inl ⟨by rfl, ?_⟩) hHeld ?_
        rotate_left
        · (intro W hSw; (try dsimp only at hSw); go_simp; all_goals (with_reducible rfl))
        simp only [gA, gB, gC, Act.put, gD, gE, gF]
        refine wpAnyH_done (by kernel_rfl) ?_ _
        refine NoPanic.normal ?_
        clear hHeld
        go_wp2_with fail
        go_meet
        exact ⟨_, sp, ap, lp, cp, zp, rfl, rfl, Vp, hp, ep, BX, by show _ ≤ _; omega⟩
    ·
     simp only [gA, gB, gC]
     go_simp
     have sz_Vp := BX.size
     refine ent1 _ _ _ (Q := fun V => K _ V) ?_
     intro x6 hb hs_ Vp
     replace BX := step BX hb
     clear hb hs_
     refine hK.out _ _ (LS.out _ BX) (fun hHeld => ?_)
     clear hK K
     refine wpAnyH_ready (rs := [3]) (by kernel_rfl) (by simp) ?_
     refine AllReadyH.cons rfl (fun K hK => ?_) AllReadyH.nil
     ·
      simp only [gA, gB, gC]
      go_simp
      refine (rounded7 q nm Kf HK HE sn an ln cn zn bd md dd yd _ (It.after BX L_hn.out) (Nt.after BX L_hd.out) ⟨by rw [ED.out]; have := v.den_pos; exact Int.mul_pos (by omega) ht.out, fun n e => by rw [ED.out]; exact F2.out n e⟩).mono ?_
      rintro e x7 ⟨sg, ag, lg, cg, zg, rfl, hg, eg, hb⟩
      replace Vp := Va.after hb Vp
      replace BX := step BX hb
      clear hb
      have EG : Hid (iv sg zg = rnd q (v.num * (t.den : Int)) ((v.den : Int) * t.num)) := by show _ = _; rw [eg, EN.out, ED.out]
      clear eg
      try go_wp2_with fail
      refine hK.out _ _ (LS.out _ BX) (fun hHeld => ?_)
      clear hK K
      refine wpAnyH_ready (rs := [5]) (by kernel_rfl) (by simp) ?_
      refine AllReadyH.cons rfl (fun K hK => ?_) AllReadyH.nil
      ·
       simp only [gA, gB, gC]
       go_simp
       refine (qnum_any s2 a2 l2 c2 b2 m2 d2 _).mono ?_
       rintro e x8 ⟨rfl, hb⟩
       replace Vp := Va.after hb Vp
       replace hg := It.after hb hg
       replace BX := step BX hb
       clear hb
       try go_wp2_with fail
       refine hK.out _ _ (LS.out _ BX) (fun hHeld => ?_)
       clear hK K
       refine wpAnyH_ready (rs := [6]) (by kernel_rfl) (by simp) ?_
       refine AllReadyH.cons rfl (fun K hK => ?_) AllReadyH.nil
       ·
        simp only [gA, gB, gC]
        go_simp
        refine (wmul_ok sg s2 ag a2 lg cg l2 c2 zg z2 _ hg (Rt.after BX L_hu.out).1 (by show ((iv sg zg * iv s2 z2).natAbs : Int) < _; rw [EG.out, L_hu.out.2.2.1]; exact F3.out 4096 rfl)).mono ?_
        rintro e x9 ⟨sp, ap, lp, cp, zp, rfl, hp, ep, hb⟩
        replace Vp := Va.after hb Vp
        replace hg := It.after hb hg
        replace BX := step BX hb
        clear hb
        replace ep : iv sp zp = rnd q (v.num * (t.den : Int)) ((v.den : Int) * t.num) * t.num := by rw [ep, EG.out, L_hu.out.2.2.1]
        try go_wp2_with fail
        refine hK.out _ _ (LS.out _ BX) (fun hHeld => ?_)
        clear hK K
        refine wpAnyH_take (i := 7) (v := ?_) rfl (by kernel_rfl) (by kernel_rfl) (by kernel_rfl) (fun _ _ _ h => h) (Or.inl ⟨by rfl, ?_⟩) hHeld ?_
        rotate_left
        · (intro W hSw; (try dsimp only at hSw); go_simp; all_goals (with_reducible rfl))
        simp only [gA, gB, gC, Act.put, gD, gE, gF]
        refine wpAnyH_take (i := 8) (v := ?_) rfl (by kernel_rfl) (by kernel_rfl) (by kernel_rfl) (fun _ _ _ h => h) (Or.inl ⟨by rfl, ?_⟩) hHeld ?_
        rotate_left
        · (intro W hSw; (try dsimp only at hSw); go_simp; all_goals (with_reducible rfl))
        simp only [gA, gB, gC, Act.put, gD, gE, gF]
        refine wpAnyH_take (i := 9) (v := ?_) rfl (by kernel_rfl) (by kernel_rfl) (by kernel_rfl) (fun _ _ _ h => h) (Or.inl ⟨by rfl, ?_⟩) hHeld ?_
        rotate_left
        · (intro W hSw; (try dsimp only at hSw); go_simp; all_goals (with_reducible rfl))
        simp only [gA, gB, gC, Act.put, gD, gE, gF]
        have c_Vp := Vp.c0
        have f0_Vp := Vp.frozen 0
        have d_Vp := Vp.c1
        have f1_Vp := Vp.frozen 1
        have l_Vp := Vp.lt
        have m_Vp := Nat.le_of_lt l_Vp
        refine wpAnyH_ready (rs := [11]) (by kernel_rfl) (by simp) ?_
        refine AllReadyH.cons rfl (fun K hK => ?_) AllReadyH.nil
        simp only [gA, gB, gC]
        go_simp
        clear c_Vp f0_Vp d_Vp f1_Vp l_Vp m_Vp
        refine st2 Vp (.bool sp) (.slice ap lp cp) (Q := fun W => K _ W) ?_
        intro x10 V' oth far
        replace hg := hg.far Vp (noInt2 _ _ _ _) far.1
        replace hp := hp.far Vp (noInt2 _ _ _ _) far.1
        replace BX := far.2 _ _ (by first | omega | (simp; omega)) BX
        replace Vp := V'
        clear oth far
        refine hK.out _ _ (LS.out _ BX) (fun hHeld => ?_)
        clear hK K
        refine wpAnyH_take (i := 12) (v := ?_) rfl (by kernel_rfl) (by kernel_rfl) (by kernel_rfl) (fun _ _ _ h => h) (Or.inl ⟨by rfl, ?_⟩) hHeld ?_
        rotate_left
        · (intro W hSw; (try dsimp only at hSw); go_simp; all_goals (with_reducible rfl))
        simp only [gA, gB, gC, Act.put, gD, gE, gF]
        refine wpAnyH_done (by kernel_rfl) ?_ _
        refine NoPanic.normal ?_
        clear hHeld
        go_wp2_with fail
        go_meet
        exact ⟨_, sp, ap, lp, cp, zp, rfl, rfl, Vp, hp, ep, BX, by show _ ≤ _; omega⟩
   case rest =>
    clear BX
    obtain ⟨b14, sp, ap, lp, cp, zp, rfl, rfl, Vp', hp', ep', BX', hineq'⟩ := hcut
    have Vp := Vp'.out
    have hp := hp'.out
    have ep := ep'.out
    have BX := BX'.out
    have hineq := hineq'.out
    clear Vp' hp' ep' BX' hineq'
    have iq0 := hineq
    clear hineq
    have V1 := Va.after BX L_V1.out
    have V2 := Va.after BX L_V2.out
    have hu := Rt.after BX L_hu.out
    have B0 := step L_B.out BX
    have EP : Hid (iv sp zp = rnd q (v.num * (t.den : Int)) ((v.den : Int) * t.num) * t.num) := ep
    clear ep
    go_wp2_with fail
    refine wp_region_noPanic ?_
    replace V1 : Va wc.drew _ _ _ := V1
    replace V2 : Va wc.drew _ _ _ := V2
    replace Vp : Va wc.drew _ _ _ := Vp
    replace hu := hu.drw
    replace hp := hp.drw
    replace B0 := Below.drew B0
    refine wp_region_held_drew (S := (fun W => W.cell? ⟨b14, 0, none⟩ = some (.bool sp) ∧ W.cell? ⟨b14, 1, none⟩ = some (.slice ap lp cp) ∧ W.cell? ⟨w.heap.size + 1, 0, none⟩ = some (.bool s2) ∧ W.cell? ⟨w.heap.size + 1, 1, none⟩ = some (.slice a2 l2 c2) ∧ W.cell? ⟨w.heap.size + 1, 2, none⟩ = some (.slice b2 m2 d2))) (by kernel_rfl) ⟨Vp.c0, Vp.c1, V1.d0, V1.d1, V1.d2⟩ (fun hHeld => ?_)
    obtain ⟨x5, hxd⟩ : ∃ xd, xd = wc.drew := ⟨_, rfl⟩
    rw [← hxd] at V1 V2 Vp hu hp B0 hHeld ⊢
    clear hxd
    refine wpAnyH_take (i := 0) (v := ?_) rfl (by kernel_rfl) (by kernel_rfl) (by kernel_rfl) (fun _ _ _ h => h) (Or.inl ⟨by rfl, ?_⟩) hHeld ?_
    rotate_left
    · (intro W hSw; (try dsimp only at hSw); go_simp; all_goals (with_reducible rfl))
    simp only [gA, gB, Act.put, gD, gE, gF]
    refine wpAnyH_take (i := 1) (v := ?_) rfl (by kernel_rfl) (by kernel_rfl) (by kernel_rfl) (fun _ _ _ h => h) (Or.inl ⟨by rfl, ?_⟩) hHeld ?_
    rotate_left
    · (intro W hSw; (try dsimp only at hSw); go_simp; all_goals (with_reducible rfl))
    simp only [gA, gB, gC, Act.put, gD, gE, gF]
    refine wpAnyH_ready (rs := [2]) (by kernel_rfl) (by simp) ?_
    refine AllReadyH.cons rfl (fun K hK => ?_) AllReadyH.nil
    simp only [gA, gB, gC]
    go_simp
    refine (rden_any s2 a2 l2 c2 b2 m2 d2 y2 _ hu.2.1).mono ?_
    rintro e x6 ⟨b3, m3, d3, y3, rfl, h3, e3, hb⟩
    replace V1 := Va.after hb V1
    replace V2 := Va.after hb V2
    replace Vp := Va.after hb Vp
    replace hu := Rt.after hb hu
    replace hp := It.after hb hp
    replace B0 := step B0 hb
    clear hb
    have E3 : Hid (num y3 = (t.den : Int)) := e3.trans hu.2.2.2.1
    clear e3
    try go_wp2_with fail
    refine hK.out _ _ ⟨Vp.c0, Vp.c1, V1.d0, V1.d1, V1.d2⟩ (fun hHeld => ?_)
    clear hK K
    refine wpAnyH_ready (rs := [3]) (by kernel_rfl) (by simp) ?_
    refine AllReadyH.cons rfl (fun K hK => ?_) AllReadyH.nil
    simp only [gA, gB, gC]
    go_simp
    refine (above7 b3 m3 d3 y3 _ h3).mono ?_
    rintro e x7 ⟨rfl, h4, hb⟩
    replace V1 := Va.after hb V1
    replace V2 := Va.after hb V2
    replace Vp := Va.after hb Vp
    replace hu := Rt.after hb hu
    replace hp := It.after hb hp
    replace h3 := Nt.after hb h3
    replace B0 := step B0 hb
    clear hb
    try go_wp2_with fail
    refine hK.out _ _ ⟨Vp.c0, Vp.c1, V1.d0, V1.d1, V1.d2⟩ (fun hHeld => ?_)
    clear hK K
    refine wpAnyH_ready (rs := [4]) (by kernel_rfl) (by simp) ?_
    refine AllReadyH.cons rfl (fun K hK => ?_) AllReadyH.nil
    simp only [gA, gB, gC]
    go_simp
    refine (qnew_ok sp false ap b3 lp cp m3 d3 zp y3 _ hp h4 (by rw [iv_f, E3.out]; have := t.den_pos; omega)).mono ?_
    rintro e x8 ⟨er, sf, af, lf, cf, zf, bf, mf, df, yf, v', rfl, h', hra, hb⟩
    replace V1 := Va.after hb V1
    replace V2 := Va.after hb V2
    replace Vp := Va.after hb Vp
    replace hu := Rt.after hb hu
    replace hp := It.after hb hp
    replace h3 := Nt.after hb h3
    replace h4 := It.after hb h4
    replace B0 := step B0 hb
    clear hb
    rw [EP.out, iv_f, E3.out, divInt_units] at hra
    have HRA : Hid (RA (uv q v t) er v') := hra
    clear hra
    try go_wp2_with fail
    refine hK.out _ _ ⟨Vp.c0, Vp.c1, V1.d0, V1.d1, V1.d2⟩ (fun hHeld => ?_)
    clear hK K
    refine wpAnyH_take (i := 5) (v := ?_) rfl (by kernel_rfl) (by kernel_rfl) (by kernel_rfl) (fun _ _ _ h => h) (Or.inl ⟨by rfl, ?_⟩) hHeld ?_
    rotate_left
    · (intro W hSw; (try dsimp only at hSw); go_simp; all_goals (with_reducible rfl))
    simp only [gA, gB, gC, Act.put, gD, gE, gF]
    refine wpAnyH_take (i := 6) (v := ?_) rfl (by kernel_rfl) (by kernel_rfl) (by kernel_rfl) (fun _ _ _ h => h) (Or.inl ⟨by rfl, ?_⟩) hHeld ?_
    rotate_left
    · (intro W hSw; (try dsimp only at hSw); go_simp; all_goals (with_reducible rfl))
    simp only [gA, gB, gC, Act.put, gD, gE, gF]
    have c_V2 := V2.d0
    have f0_V2 := V2.frozen 0
    have d_V2 := V2.d1
    have f1_V2 := V2.frozen 1
    have e_V2 := V2.d2
    have f2_V2 := V2.frozen 2
    have l_V2 := V2.lt
    have m_V2 := Nat.le_of_lt l_V2
    refine wpAnyH_ready (rs := [7]) (by kernel_rfl) (by simp) ?_
    refine AllReadyH.cons rfl (fun K hK => ?_) AllReadyH.nil
    simp only [gA, gB, gC]
    go_simp
    clear c_V2 f0_V2 d_V2 f1_V2 e_V2 f2_V2 l_V2 m_V2
    refine sto3 V2 (.bool sf) (.slice af lf cf) (.slice bf mf df) (Q := fun W => K _ W) ?_
    intro x9 V' oth far
    replace V1 := oth _ _ _ (by first | omega | assumption | (simp; omega)) V1
    replace Vp := oth _ _ _ (by first | omega | assumption | (simp; omega)) Vp
    replace hu := hu.far V2 (noInt3 _ _ _ _ _ _ _) far.1
    replace hp := hp.far V2 (noInt3 _ _ _ _ _ _ _) far.1
    replace h3 := h3.far V2 (noInt3 _ _ _ _ _ _ _) far.1
    replace h4 := h4.far V2 (noInt3 _ _ _ _ _ _ _) far.1
    replace h' := h'.far V2 (noInt3 _ _ _ _ _ _ _) far.1
    replace B0 := far.2 _ _ (by first | omega | (simp; omega)) B0
    replace V2 := V'
    clear oth far
    refine hK.out _ _ ⟨Vp.c0, Vp.c1, V1.d0, V1.d1, V1.d2⟩ (fun hHeld => ?_)
    clear hK K
    refine wpAnyH_take (i := 8) (v := ?_) rfl (by kernel_rfl) (by kernel_rfl) (by kernel_rfl) (fun _ _ _ h => h) (Or.inl ⟨by rfl, ?_⟩) hHeld ?_
    rotate_left
    · (intro W hSw; (try dsimp only at hSw); go_simp; all_goals (with_reducible rfl))
    simp only [gA, gB, gC, Act.put, gD, gE, gF]
    refine wpAnyH_done (by kernel_rfl) ?_ _
    refine NoPanic.normal ?_
    clear hHeld
    go_wp2_with fail
    refine bodyPost_ret (results_rt rfl rfl V2) rfl ?_
    exact ⟨er, sf, af, lf, cf, zf, bf, mf, df, yf, v', rfl, h', HRA, B0⟩
end Go.Proofs.YtegfklapgbggfaaGreat
