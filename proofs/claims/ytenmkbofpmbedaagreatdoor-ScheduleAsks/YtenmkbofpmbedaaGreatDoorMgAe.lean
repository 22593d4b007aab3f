import Derived.Test.YtenmkbofpmbedaaGreatDoorMgAa
import Derived.Test.YtenmkbofpmbedaaGreatDoorBsM
import Derived.Test.YtenmkbofpmbedaaGreatDoorWh3
import Derived.Test.YtenmkbofpmbedaaGreatDoorBsO
import Derived.Test.YtenmkbofpmbedaaGreatDoorBsJ
namespace Go.Proofs.YtenmkbofpmbedaaGreatDoor
open Go.RowKit Go.Shelf
set_option linter.unusedVariables false

theorem qabove_any (a : Option Addr) (l c : Nat) (zs : List Int) (w : World) (h : Nt w a l c zs) :
    Calls Tryz.prog 72 #[.agg #[.slice a l c]] w fun e w' => e = .returned (.agg #[.bool false, .slice a l c]) ∧ It w' false a l c zs ∧ Below w.heap.size w w' := by
  have B0 : Below w.heap.size w w := Below.refl _ _
  go_enter Tryz.func72, Tryz.ntmps72
  go_wp2_with fail
  refine ent2 w _ _ _ _ (Q := fun W => Calls Tryz.prog _ _ W _) ?_
  intro x1 hb hs_x1 V0 V1
  replace h := h.a hb
  replace B0 := step B0 hb
  clear hb hs_x1
  refine (wnew_any false a l c zs x1 h).mono ?_
  rintro e x2 ⟨s', rfl, h', e', hb⟩
  replace V0 := V0.a hb
  replace V1 := V1.a hb
  replace h := h.a hb
  replace B0 := step B0 hb
  clear hb
  have es : s' = false := by have := h'.sign; rw [e', iv_f] at this; have h0 := h.nonneg; rw [this]; simpa using h0
  subst es
  have c_V1 := V1.c0
  have f0_V1 := V1.frozen 0
  have d_V1 := V1.c1
  have f1_V1 := V1.frozen 1
  have l_V1 := V1.lt
  have m_V1 := Nat.le_of_lt l_V1
  go_wp2_with fail
  refine bodyPost_ret (results_w rfl rfl (V1.set2 _ _)) rfl ?_
  exact ⟨rfl, h'.far V1 (noInt2 _ _ _ _) (far2 _ _ _ _), below_2 B0 (by omega) _ _⟩

set_option maxHeartbeats 4000000 in
theorem rover_ok (a b : Option Addr) (la ca lb cb : Nat) (xs ys : List Int) (w : World) (ha : Nt w a la ca xs) (hb0 : Nt w b lb cb ys) (h0 : num ys ≠ 0) (hd : num ys ∣ num xs) :
    Calls Tryz.prog 108 #[.agg #[.slice a la ca], .agg #[.slice b lb cb]] w fun e w' => ∃ aq lq kq zq, e = .returned (.agg #[.slice aq lq kq]) ∧ Nt w' aq lq kq zq ∧ num zq * num ys = num xs ∧ Below w.heap.size w w' := by
  have B0 : Below w.heap.size w w := Below.refl _ _
  go_enter Tryz.func108, Tryz.ntmps108
  go_wp2_with fail
  refine ent3 w _ _ _ _ _ _ (Q := fun W => Calls Tryz.prog _ _ W _) ?_
  intro x1 hb hs_x1 V0 V1 V2
  replace ha := ha.a hb
  replace hb0 := hb0.a hb
  replace B0 := step B0 hb
  clear hb hs_x1
  refine (ndiv_ok a b la ca lb cb xs ys x1 ha hb0 h0).mono ?_
  rintro e x2 ⟨aq, lq, kq, ar, lr, kr, zq, zr, rfl, hq, hr, d1, d2, hb⟩
  replace V0 := V0.a hb
  replace V1 := V1.a hb
  replace V2 := V2.a hb
  replace ha := ha.a hb
  replace hb0 := hb0.a hb
  replace B0 := step B0 hb
  clear hb
  have HE : Hid (num zq * num ys = num xs) := by
    have r0 := hr.nonneg
    have e1 : num zr = 0 := by
      obtain ⟨q, hq'⟩ := hd
      have e2 : num zr = num ys * (q - num zq) := by rw [Int.mul_sub, ← hq', d1, Int.mul_comm (num ys)]; omega
      have y0 := hb0.nonneg
      rcases Int.lt_or_le (q - num zq) 1 with h1 | h1
      · have := Int.mul_le_mul_of_nonneg_left (show q - num zq ≤ 0 by omega) y0; rw [Int.mul_zero] at this; omega
      · have := Int.mul_le_mul_of_nonneg_left h1 y0; rw [Int.mul_one] at this; omega
    show _ = _; omega
  clear d1 d2 hd h0
  have c_V2 := V2.cell
  have f0_V2 := V2.frozen 0
  have l_V2 := V2.lt
  have m_V2 := Nat.le_of_lt l_V2
  have p0_V2 := ((V2.old (.cells #[.slice aq lq kq] 32)).old (.cells #[.slice ar lr kr] 32)).cell
  have q0_V2 := ((V2.old (.cells #[.slice aq lq kq] 32)).old (.cells #[.slice ar lr kr] 32)).frozen 0
  go_wp2_with fail
  refine bodyPost_ret (results_c rfl rfl (((V2.old _).old _).set _)) rfl ?_
  have sz := B0.size
  exact ⟨aq, lq, kq, zq, rfl, ((hq.al _).al _).store ((V2.old _).old _) _, HE, ((B0.alloc sz _).alloc (by simp; omega) _).setCell (by dsimp only; omega) _⟩

theorem qlimbs_any (a : Option Addr) (l c : Nat) (zs : List Int) (w : World) (h : Nt w a l c zs) :
    Calls Tryz.prog 94 #[.agg #[.slice a l c]] w fun e w' => e = .returned (.int .i64 l) ∧ Below w.heap.size w w' := by
  obtain ⟨p1, p2, p3⟩ := bits_limbs h.limbs
  have hu : usedN zs = l := h.2.1
  have hl : l ≤ 4096 := h.2.2.2
  rw [hu] at p2 p3
  have B0 : Below w.heap.size w w := Below.refl _ _
  go_enter Tryz.func94, Tryz.ntmps94
  go_wp2_with fail
  refine ent1 w _ _ (Q := fun W => Calls Tryz.prog _ _ W _) ?_
  intro x1 hb hs_x1 V0
  replace h := h.a hb
  replace B0 := step B0 hb
  clear hb hs_x1
  refine (nbits_any a l c zs x1 h).mono ?_
  rintro e x2 ⟨rfl, hb⟩
  replace V0 := V0.a hb
  replace h := h.a hb
  replace B0 := step B0 hb
  clear hb
  obtain ⟨B, hB⟩ : ∃ B, bitsN zs = B := ⟨_, rfl⟩
  rw [hB] at p1 p2 p3 ⊢
  have e1 : IntKind.i64.wrap (B + 64) = B + 64 := by rw [IntKind.wrap_i64]; omega
  have e2 : IntKind.i64.wrap (B + 64 - 1) = B + 64 - 1 := by rw [IntKind.wrap_i64]; omega
  have e3 : (B + 64 - 1).tdiv 64 = (l : Int) := by rw [Int.tdiv_eq_ediv_of_nonneg (by omega)]; exact p2
  have e4 : IntKind.i64.wrap (l : Int) = l := by rw [IntKind.wrap_i64]; omega
  go_wp2_with fail
  go_ret
  exact ⟨rfl, B0⟩

set_option maxHeartbeats 4000000 in
theorem times_ok (s : Bool) (a b : Option Addr) (l c m d : Nat) (xs ys : List Int) (w : World) (hx : It w s a l c xs) (hy : Nt w b m d ys) (hfit : Hid (((iv s xs * num ys).natAbs : Int) < pw 4096)) :
  Calls Tryz.prog 69 #[.agg #[.bool s, .slice a l c], .agg #[.slice b m d]] w fun e w' => ∃ sp ap lp kp zp, e = .returned (.agg #[.bool sp, .slice ap lp kp]) ∧ It w' sp ap lp kp zp ∧ iv sp zp = iv s xs * num ys ∧ Below w.heap.size w w' := by
 have B0 : Below w.heap.size w w := Below.refl _ _
 go_enter Tryz.func69, Tryz.ntmps69
 (go_wp2_with fail); refine ent3 w _ _ _ _ _ _ (Q := fun W => Code.wp Tryz.prog _ _ _ W) ?_; intro x1 hb hs_x1 V0 V1 V2; replace hx := It.after hb hx; replace hy := hy.a hb; replace B0 := step B0 hb; clear hb hs_x1; refine wp_region_noPanic ?_; replace V0 : Va x1.drew _ _ _ := V0; replace V1 : Va x1.drew _ _ _ := V1; replace V2 : Va x1.drew _ _ _ := V2; replace hx := hx.drw; replace hy := hy.drw; replace B0 := Below.drew B0; refine wp_region_held_drew (S := (fun W => W.cell? ⟨w.heap.size, 0, none⟩ = some (.bool s) ∧ W.cell? ⟨w.heap.size, 1, none⟩ = some (.slice a l c) ∧ W.cell? ⟨w.heap.size + 1, 0, none⟩ = some (.slice b m d))) (by kernel_rfl) ⟨V0.c0, V0.c1, V1.cell⟩ (fun hHeld => ?_); (obtain ⟨x2, hxd⟩ : ∃ xd, xd = x1.drew := ⟨_, rfl⟩); rw [← hxd] at V0 V1 V2 hx hy B0 hHeld ⊢; clear hxd; refine tjz 0 hHeld ?_; refine tjz 1 hHeld ?_
 refine wpAnyH_ready (rs := [2, 7]) (by kernel_rfl) (by simp) ?_; refine AllReadyH.cons rfl (fun K hK => ?_) (AllReadyH.cons rfl (fun K hK => ?_) AllReadyH.nil)
 ·
  simp only [gA, gB, gC]; (go_simp); refine (qabove_any b m d ys _ hy).mono ?_; rintro e x3 ⟨rfl, hy', hb⟩; replace V0 := V0.a hb; replace V1 := V1.a hb; replace V2 := V2.a hb; replace hx := It.after hb hx; replace hy := hy.a hb; replace B0 := step B0 hb; clear hb; (try go_wp2_with fail); refine hK.out _ _ ⟨V0.c0, V0.c1, V1.cell⟩ (fun hHeld => ?_); clear hK K; refine wpAnyH_ready (rs := [3, 7]) (by kernel_rfl) (by simp) ?_; refine AllReadyH.cons rfl (fun K hK => ?_) (AllReadyH.cons rfl (fun K hK => ?_) AllReadyH.nil)
  ·
   simp only [gA, gB, gC]; (go_simp); refine (wmul_ok s false a b l c m d xs ys _ hx hy' hfit).mono ?_; rintro e x4 ⟨sp, ap, lp, kp, zp, rfl, hp, ep, hb⟩; replace V0 := V0.a hb; replace V1 := V1.a hb; replace V2 := V2.a hb; replace hx := It.after hb hx; replace hy := hy.a hb; replace hy' := It.after hb hy'; replace B0 := step B0 hb; clear hb; (try go_wp2_with fail); refine hK.out _ _ ⟨V0.c0, V0.c1, V1.cell⟩ (fun hHeld => ?_); clear hK K; refine tjz 4 hHeld ?_; refine tjz 5 hHeld ?_; refine tjz 6 hHeld ?_; refine ryz 7 (fun K hK => ?_)
   ·
    simp only [gA, gB, gC]; (go_simp); have lt_Vp_V0 := V0.lt; have lt_Vp_V1 := V1.lt; have lt_Vp_V2 := V2.lt; have sz_Vp := B0.size; refine ent1 _ _ _ (Q := fun V => K _ V) ?_; intro x5 hb hs_ Vp; replace V0 := V0.a hb; replace V1 := V1.a hb; replace V2 := V2.a hb; replace hx := It.after hb hx; replace hy := hy.a hb; replace hy' := It.after hb hy'; replace hp := It.after hb hp; replace B0 := step B0 hb; clear hb hs_; refine hK.out _ _ ⟨V0.c0, V0.c1, V1.cell⟩ (fun hHeld => ?_); clear hK K; have c_Vp := Vp.c0; have f0_Vp := Vp.frozen 0; have d_Vp := Vp.c1; have f1_Vp := Vp.frozen 1; have l_Vp := Vp.lt; have m_Vp := Nat.le_of_lt l_Vp; refine ryz 8 (fun K hK => ?_); simp only [gA, gB, gC]; (go_simp); clear c_Vp f0_Vp d_Vp f1_Vp l_Vp m_Vp; refine st2 Vp (.bool sp) (.slice ap lp kp) (Q := fun W => K _ W) ?_; intro x6 V' oth far; replace V0 := apz (oth _ _ _) V0
    replace V1 := apz (oth _ _ _) V1; replace V2 := apz (oth _ _ _) V2; replace hx := hx.far Vp (noInt2 _ _ _ _) far.1; replace hy := hy.far Vp (noInt2 _ _ _ _) far.1; replace hy' := hy'.far Vp (noInt2 _ _ _ _) far.1; replace hp := hp.far Vp (noInt2 _ _ _ _) far.1; replace B0 := apz (far.2 _ _) B0; replace Vp := V'; clear oth far; refine hK.out _ _ ⟨V0.c0, V0.c1, V1.cell⟩ (fun hHeld => ?_); clear hK K; refine tjz 9 hHeld ?_; refine dnz ?_; clear hHeld; have c_Vp := Vp.c0; have f0_Vp := Vp.frozen 0; have d_Vp := Vp.c1; have f1_Vp := Vp.frozen 1; have l_Vp := Vp.lt; have m_Vp := Nat.le_of_lt l_Vp; have c_V2 := V2.c0; have f0_V2 := V2.frozen 0; have d_V2 := V2.c1; have f1_V2 := V2.frozen 1; have l_V2 := V2.lt; have m_V2 := Nat.le_of_lt l_V2
    (go_wp2_with fail); refine bodyPost_ret (results_w rfl rfl (V2.set2 _ _)) rfl ?_; exact ⟨sp, ap, lp, kp, zp, rfl, hp.far V2 (noInt2 _ _ _ _) (far2 _ _ _ _), ep, below_2 B0 (by omega) _ _⟩
  ·
   simp only [gA, gB, gC]; (go_simp); have lt_Vp_V0 := V0.lt; have lt_Vp_V1 := V1.lt; have lt_Vp_V2 := V2.lt; have sz_Vp := B0.size; refine ent1 _ _ _ (Q := fun V => K _ V) ?_; intro x4 hb hs_ Vp; replace V0 := V0.a hb; replace V1 := V1.a hb; replace V2 := V2.a hb; replace hx := It.after hb hx; replace hy := hy.a hb; replace hy' := It.after hb hy'; replace B0 := step B0 hb; clear hb hs_; refine hK.out _ _ ⟨V0.c0, V0.c1, V1.cell⟩ (fun hHeld => ?_); clear hK K; refine ryz 3 (fun K hK => ?_)
   ·
    simp only [gA, gB, gC]; (go_simp); refine (wmul_ok s false a b l c m d xs ys _ hx hy' hfit).mono ?_; rintro e x5 ⟨sp, ap, lp, kp, zp, rfl, hp, ep, hb⟩; replace V0 := V0.a hb; replace V1 := V1.a hb; replace V2 := V2.a hb; replace Vp := Vp.a hb; replace hx := It.after hb hx; replace hy := hy.a hb; replace hy' := It.after hb hy'; replace B0 := step B0 hb; clear hb; (try go_wp2_with fail); refine hK.out _ _ ⟨V0.c0, V0.c1, V1.cell⟩ (fun hHeld => ?_); clear hK K; refine tjz 4 hHeld ?_; refine tjz 5 hHeld ?_; refine tjz 6 hHeld ?_; have c_Vp := Vp.c0; have f0_Vp := Vp.frozen 0; have d_Vp := Vp.c1; have f1_Vp := Vp.frozen 1; have l_Vp := Vp.lt; have m_Vp := Nat.le_of_lt l_Vp; refine ryz 8 (fun K hK => ?_)
    simp only [gA, gB, gC]; (go_simp); clear c_Vp f0_Vp d_Vp f1_Vp l_Vp m_Vp; refine st2 Vp (.bool sp) (.slice ap lp kp) (Q := fun W => K _ W) ?_; intro x6 V' oth far; replace V0 := apz (oth _ _ _) V0; replace V1 := apz (oth _ _ _) V1; replace V2 := apz (oth _ _ _) V2; replace hx := hx.far Vp (noInt2 _ _ _ _) far.1; replace hy := hy.far Vp (noInt2 _ _ _ _) far.1; replace hy' := hy'.far Vp (noInt2 _ _ _ _) far.1; replace hp := hp.far Vp (noInt2 _ _ _ _) far.1; replace B0 := apz (far.2 _ _) B0; replace Vp := V'; clear oth far; refine hK.out _ _ ⟨V0.c0, V0.c1, V1.cell⟩ (fun hHeld => ?_); clear hK K; refine tjz 9 hHeld ?_; refine dnz ?_; clear hHeld; have c_Vp := Vp.c0; have f0_Vp := Vp.frozen 0
    have d_Vp := Vp.c1; have f1_Vp := Vp.frozen 1; have l_Vp := Vp.lt; have m_Vp := Nat.le_of_lt l_Vp; have c_V2 := V2.c0; have f0_V2 := V2.frozen 0; have d_V2 := V2.c1; have f1_V2 := V2.frozen 1; have l_V2 := V2.lt; have m_V2 := Nat.le_of_lt l_V2; (go_wp2_with fail); refine bodyPost_ret (results_w rfl rfl (V2.set2 _ _)) rfl ?_; exact ⟨sp, ap, lp, kp, zp, rfl, hp.far V2 (noInt2 _ _ _ _) (far2 _ _ _ _), ep, below_2 B0 (by omega) _ _⟩
 ·
  simp only [gA, gB, gC]; (go_simp); have lt_Vp_V0 := V0.lt; have lt_Vp_V1 := V1.lt; have lt_Vp_V2 := V2.lt; have sz_Vp := B0.size; refine ent1 _ _ _ (Q := fun V => K _ V) ?_; intro x3 hb hs_ Vp; replace V0 := V0.a hb; replace V1 := V1.a hb; replace V2 := V2.a hb; replace hx := It.after hb hx; replace hy := hy.a hb; replace B0 := step B0 hb; clear hb hs_; refine hK.out _ _ ⟨V0.c0, V0.c1, V1.cell⟩ (fun hHeld => ?_); clear hK K; refine ryz 2 (fun K hK => ?_)
  ·
   simp only [gA, gB, gC]; (go_simp); refine (qabove_any b m d ys _ hy).mono ?_; rintro e x4 ⟨rfl, hy', hb⟩; replace V0 := V0.a hb; replace V1 := V1.a hb; replace V2 := V2.a hb; replace Vp := Vp.a hb; replace hx := It.after hb hx; replace hy := hy.a hb; replace B0 := step B0 hb; clear hb; (try go_wp2_with fail); refine hK.out _ _ ⟨V0.c0, V0.c1, V1.cell⟩ (fun hHeld => ?_); clear hK K; refine ryz 3 (fun K hK => ?_)
   ·
    simp only [gA, gB, gC]; (go_simp); refine (wmul_ok s false a b l c m d xs ys _ hx hy' hfit).mono ?_; rintro e x5 ⟨sp, ap, lp, kp, zp, rfl, hp, ep, hb⟩; replace V0 := V0.a hb; replace V1 := V1.a hb; replace V2 := V2.a hb; replace Vp := Vp.a hb; replace hx := It.after hb hx; replace hy := hy.a hb; replace hy' := It.after hb hy'; replace B0 := step B0 hb; clear hb; (try go_wp2_with fail); refine hK.out _ _ ⟨V0.c0, V0.c1, V1.cell⟩ (fun hHeld => ?_); clear hK K; refine tjz 4 hHeld ?_; refine tjz 5 hHeld ?_; refine tjz 6 hHeld ?_; have c_Vp := Vp.c0; have f0_Vp := Vp.frozen 0; have d_Vp := Vp.c1; have f1_Vp := Vp.frozen 1; have l_Vp := Vp.lt; have m_Vp := Nat.le_of_lt l_Vp; refine ryz 8 (fun K hK => ?_)
    simp only [gA, gB, gC]; (go_simp); clear c_Vp f0_Vp d_Vp f1_Vp l_Vp m_Vp; refine st2 Vp (.bool sp) (.slice ap lp kp) (Q := fun W => K _ W) ?_; intro x6 V' oth far; replace V0 := apz (oth _ _ _) V0; replace V1 := apz (oth _ _ _) V1; replace V2 := apz (oth _ _ _) V2; replace hx := hx.far Vp (noInt2 _ _ _ _) far.1; replace hy := hy.far Vp (noInt2 _ _ _ _) far.1; replace hy' := hy'.far Vp (noInt2 _ _ _ _) far.1; replace hp := hp.far Vp (noInt2 _ _ _ _) far.1; replace B0 := apz (far.2 _ _) B0; replace Vp := V'; clear oth far; refine hK.out _ _ ⟨V0.c0, V0.c1, V1.cell⟩ (fun hHeld => ?_); clear hK K; refine tjz 9 hHeld ?_; refine dnz ?_; clear hHeld; have c_Vp := Vp.c0; have f0_Vp := Vp.frozen 0
    have d_Vp := Vp.c1; have f1_Vp := Vp.frozen 1; have l_Vp := Vp.lt; have m_Vp := Nat.le_of_lt l_Vp; have c_V2 := V2.c0; have f0_V2 := V2.frozen 0; have d_V2 := V2.c1; have f1_V2 := V2.frozen 1; have l_V2 := V2.lt; have m_V2 := Nat.le_of_lt l_V2; (go_wp2_with fail); refine bodyPost_ret (results_w rfl rfl (V2.set2 _ _)) rfl ?_; exact ⟨sp, ap, lp, kp, zp, rfl, hp.far V2 (noInt2 _ _ _ _) (far2 _ _ _ _), ep, below_2 B0 (by omega) _ _⟩

theorem rden_any (s : Bool) (a : Option Addr) (l c : Nat) (b : Option Addr) (m d : Nat) (ds : List Int) (w : World) (h : Nt w b m d ds) :
    Calls Tryz.prog 70 #[.agg #[.bool s, .slice a l c, .slice b m d]] w fun e w' => ∃ b' m' d' ds', e = .returned (.agg #[.slice b' m' d']) ∧ Nt w' b' m' d' ds' ∧ num ds' = dn ds ∧ Below w.heap.size w w' := by
  have hz := h.zero
  by_cases h0 : num ds = 0
  ·
    have ez : ((m : Int) == 0) = true := by rw [hz]; simpa using h0
    have ed : dn ds = 1 := by unfold dn; rw [if_pos h0]
    clear hz h0
    have B0 : Below w.heap.size w w := Below.refl _ _
    go_enter Tryz.func70, Tryz.ntmps70
    go_wp2_with fail
    refine ent2 w _ _ _ _ (Q := fun W => Calls Tryz.prog _ _ W _) ?_
    intro x1 hb hs_x1 V0 V1
    replace h := h.a hb
    replace B0 := step B0 hb
    clear hb hs_x1
    refine (isZero_any b m d x1).mono ?_
    rintro e x2 ⟨rfl, hb⟩
    replace V0 := V0.a hb
    replace V1 := V1.a hb
    replace h := h.a hb
    replace B0 := step B0 hb
    clear hb
    rw [ez]
    have c_V1 := V1.cell
    have f0_V1 := V1.frozen 0
    have l_V1 := V1.lt
    have m_V1 := Nat.le_of_lt l_V1
    go_wp2_with fail
    refine (small_any 1 ⟨by omega, by omega⟩ x2).mono ?_
    rintro e x3 ⟨b', m', d', ds', rfl, h', e', hb⟩
    replace V0 := V0.a hb
    replace V1 := V1.a hb
    replace h := h.a hb
    replace B0 := step B0 hb
    clear hb
    clear c_V1 f0_V1 l_V1 m_V1
    have c_V1 := V1.cell
    have f0_V1 := V1.frozen 0
    have l_V1 := V1.lt
    have m_V1 := Nat.le_of_lt l_V1
    go_wp2_with fail
    refine bodyPost_ret (results_c rfl rfl (V1.set _)) rfl ?_
    exact ⟨b', m', d', ds', rfl, h'.store V1 _, by rw [e', ed], B0.setCell (by simp) _⟩
  ·
    have ez : ((m : Int) == 0) = false := by rw [hz]; simpa using h0
    have ed : dn ds = num ds := by unfold dn; rw [if_neg h0]
    clear hz h0
    have B0 : Below w.heap.size w w := Below.refl _ _
    go_enter Tryz.func70, Tryz.ntmps70
    go_wp2_with fail
    refine ent2 w _ _ _ _ (Q := fun W => Calls Tryz.prog _ _ W _) ?_
    intro x1 hb hs_x1 V0 V1
    replace h := h.a hb
    replace B0 := step B0 hb
    clear hb hs_x1
    refine (isZero_any b m d x1).mono ?_
    rintro e x2 ⟨rfl, hb⟩
    replace V0 := V0.a hb
    replace V1 := V1.a hb
    replace h := h.a hb
    replace B0 := step B0 hb
    clear hb
    rw [ez]
    have c_V0 := V0.d0
    have f0_V0 := V0.frozen 0
    have d_V0 := V0.d1
    have f1_V0 := V0.frozen 1
    have e_V0 := V0.d2
    have f2_V0 := V0.frozen 2
    have l_V0 := V0.lt
    have m_V0 := Nat.le_of_lt l_V0
    have c_V1 := V1.cell
    have f0_V1 := V1.frozen 0
    have l_V1 := V1.lt
    have m_V1 := Nat.le_of_lt l_V1
    go_wp2_with fail
    refine bodyPost_ret (results_c rfl rfl (V1.set _)) rfl ?_
    exact ⟨b, m, d, ds, rfl, h.store V1 _, ed.symm, B0.setCell (by simp) _⟩

theorem Nt.short {w : World} {a : Option Addr} {l c : Nat} {zs : List Int} (h : Nt w a l c zs) (n : Nat) : l ≤ n ↔ num zs < pw n := by
  have hu : usedN zs = l := h.2.1
  constructor
  · intro h1; exact lt_of_used h.limbs (by omega)
  · intro h1; have := used_of_lt h.limbs h1; omega
set_option maxHeartbeats 4000000 in
theorem rlongr_any (s : Bool) (a : Option Addr) (l c : Nat) (zs : List Int) (b : Option Addr) (m d : Nat) (ds : List Int) (w : World) (hz : It w s a l c zs) (hd : Nt w b m d ds) :
  Calls Tryz.prog 49 #[.agg #[.bool s, .slice a l c, .slice b m d]] w fun e w' => ∃ (b' : Option Addr) (m' d' : Nat) (ds' : List Int), e = .returned (.int .i64 (max (l : Int) (m' : Int))) ∧ Nt w' b' m' d' ds' ∧ num ds' = dn ds ∧ Below w.heap.size w w' := by
 have B0 : Below w.heap.size w w := Below.refl _ _
 go_enter Tryz.func49, Tryz.ntmps49
 (go_wp2_with fail); refine ent1 w _ _ (Q := fun W => Code.wp Tryz.prog _ _ _ W) ?_; intro x1 hb hs_x1 V0; replace hz := It.after hb hz; replace hd := hd.a hb; replace B0 := step B0 hb; clear hb hs_x1; refine wp_region_noPanic ?_; replace V0 : Va x1.drew _ _ _ := V0; replace hz := hz.drw; replace hd := hd.drw; replace B0 := Below.drew B0; refine wp_region_held_drew (S := (fun W => W.cell? ⟨w.heap.size, 0, none⟩ = some (.bool s) ∧ W.cell? ⟨w.heap.size, 1, none⟩ = some (.slice a l c) ∧ W.cell? ⟨w.heap.size, 2, none⟩ = some (.slice b m d))) (by kernel_rfl) ⟨V0.d0, V0.d1, V0.d2⟩ (fun hHeld => ?_); (obtain ⟨x2, hxd⟩ : ∃ xd, xd = x1.drew := ⟨_, rfl⟩); rw [← hxd] at V0 hz hd B0 hHeld ⊢; clear hxd; refine tjz 0 hHeld ?_; refine tjz 1 hHeld ?_; refine tjz 4 hHeld ?_; refine wpAnyH_ready (rs := [2]) (by kernel_rfl) (by simp) ?_
 refine AllReadyH.cons rfl (fun K hK => ?_) AllReadyH.nil; simp only [gA, gB, gC]; (go_simp); refine (wabs_any s a l c _).mono ?_; rintro e x3 ⟨rfl, hb⟩; replace V0 := V0.a hb; replace hz := It.after hb hz; replace hd := hd.a hb; replace B0 := step B0 hb; clear hb; (try go_wp2_with fail); refine hK.out _ _ ⟨V0.d0, V0.d1, V0.d2⟩ (fun hHeld => ?_); clear hK K; refine ryz 3 (fun K hK => ?_); simp only [gA, gB, gC]; (go_simp); refine (qlimbs_any a l c zs _ hz.1).mono ?_; rintro e x4 ⟨rfl, hb⟩; replace V0 := V0.a hb; replace hz := It.after hb hz; replace hd := hd.a hb; replace B0 := step B0 hb; clear hb; (try go_wp2_with fail); refine hK.out _ _ ⟨V0.d0, V0.d1, V0.d2⟩ (fun hHeld => ?_); clear hK K; refine ryz 5 (fun K hK => ?_); simp only [gA, gB, gC]
 (go_simp); refine (rden_any s a l c b m d ds _ hd).mono ?_; rintro e x5 ⟨b', m', d', ds', rfl, h', e', hb⟩; replace V0 := V0.a hb; replace hz := It.after hb hz; replace hd := hd.a hb; replace B0 := step B0 hb; clear hb; (try go_wp2_with fail); refine hK.out _ _ ⟨V0.d0, V0.d1, V0.d2⟩ (fun hHeld => ?_); clear hK K; refine ryz 6 (fun K hK => ?_); simp only [gA, gB, gC]; (go_simp); refine (qlimbs_any b' m' d' ds' _ h').mono ?_; rintro e x6 ⟨rfl, hb⟩; replace V0 := V0.a hb; replace hz := It.after hb hz; replace hd := hd.a hb; replace h' := Nt.after hb h'; replace B0 := step B0 hb; clear hb; (try go_wp2_with fail); refine hK.out _ _ ⟨V0.d0, V0.d1, V0.d2⟩ (fun hHeld => ?_); clear hK K; refine tjz 7 hHeld ?_; refine tjz 8 hHeld ?_; refine wpAnyH_done (by kernel_rfl) ?_ _
 refine NoPanic.normal ?_; clear hHeld; (go_wp2_with fail)
 go_ret
 exact ⟨b', m', d', ds', rfl, h', e', B0⟩

set_option maxHeartbeats 4000000 in
theorem rmade_any (s : Bool) (a : Option Addr) (l c : Nat) (zs : List Int) (b : Option Addr) (m d : Nat) (ds : List Int) (v : Rat) (w : World) (hz : It w s a l c zs) (hd : Nt w b m d ds) (h1 : iv s zs = v.num) (h2 : dn ds = v.den) :
    Calls Tryz.prog 75 #[.agg #[.bool s, .slice a l c], .agg #[.slice b m d]] w fun e w' => ∃ er s' a' l' c' zs' b' m' d' ds' v', e = .returned (.tuple #[.agg #[.bool s', .slice a' l' c', .slice b' m' d'], .int .i64 er]) ∧ Rt w' s' a' l' c' zs' b' m' d' ds' v' ∧ Hid (RA v er v') ∧ Below w.heap.size w w' := by
  have HL : Hid (∀ W (b' : Option Addr) (m' d' : Nat) (ds' : List Int), Nt W b' m' d' ds' → num ds' = dn ds → (max (l : Int) (m' : Int) ≤ 1024 ↔ Short v)) := by
    intro W b' m' d' ds' h' e'
    have p1 := hz.1.short 1024
    have p2 := h'.short 1024
    have e1 : num zs = (v.num.natAbs : Int) := by rw [← h1]; exact hz.abs
    rw [e1] at p1
    rw [e', h2] at p2
    unfold Short
    rw [← p1, ← p2]
    omega
  have H1 : Hid (iv s zs = v.num ∧ dn ds = v.den) := ⟨h1, h2⟩
  clear h1 h2
  have B0 : Below w.heap.size w w := Below.refl _ _
  go_enter Tryz.func75, Tryz.ntmps75
  go_wp2_with fail
  refine ent4 w _ _ _ _ _ _ _ _ (Q := fun W => Calls Tryz.prog _ _ W _) ?_
  intro x1 hb hs_x1 V0 V1 V2 V3
  replace hz := It.after hb hz
  replace hd := hd.a hb
  replace B0 := step B0 hb
  clear hb hs_x1
  refine (rlongr_any s a l c zs b m d ds x1 hz hd).mono ?_
  rintro e x2 ⟨b', m', d', ds', rfl, h', e', hb⟩
  replace V0 := V0.a hb
  replace V1 := V1.a hb
  replace V2 := V2.a hb
  replace V3 := V3.a hb
  replace hz := It.after hb hz
  replace hd := hd.a hb
  replace B0 := step B0 hb
  clear hb
  have hlm := HL.out _ _ _ _ _ h' e'
  obtain ⟨n, hn⟩ : ∃ n : Int, max (l : Int) (m' : Int) = n := ⟨_, rfl⟩
  rw [hn] at hlm ⊢
  clear hn HL e'
  clear h'
  by_cases hs : n ≤ 1024
  ·
    have HS : Hid (Short v) := hlm.1 hs
    clear hlm
    have c_V2 := V2.d0
    have f0_V2 := V2.frozen 0
    have d_V2 := V2.d1
    have f1_V2 := V2.frozen 1
    have e_V2 := V2.d2
    have f2_V2 := V2.frozen 2
    have l_V2 := V2.lt
    have m_V2 := Nat.le_of_lt l_V2
    have c_V3 := V3.d0
    have f0_V3 := V3.frozen 0
    have d_V3 := V3.d1
    have f1_V3 := V3.frozen 1
    have e_V3 := V3.d2
    have f2_V3 := V3.frozen 2
    have l_V3 := V3.lt
    have m_V3 := Nat.le_of_lt l_V3
    go_wp2_with fail
    refine bodyPost_ret (results_rt rfl rfl (V2.set3 _ _ _)) rfl ?_
    exact ⟨_, s, a, l, c, zs, b, m, d, ds, v, rfl, ⟨hz.far V2 (noInt3 _ _ _ _ _ _ _) (fa3 _ _ _ _ _), hd.far V2 (noInt3 _ _ _ _ _ _ _) (fa3 _ _ _ _ _), H1.out.1, H1.out.2, HS.out⟩, Or.inl ⟨HS.out, rfl, rfl⟩, belo3 B0 (by omega) _ _ _⟩
  ·
    have HS : Hid (¬ Short v) := fun h => hs (hlm.2 h)
    clear hlm
    have c_V2 := V2.d0
    have f0_V2 := V2.frozen 0
    have d_V2 := V2.d1
    have f1_V2 := V2.frozen 1
    have e_V2 := V2.d2
    have f2_V2 := V2.frozen 2
    have l_V2 := V2.lt
    have m_V2 := Nat.le_of_lt l_V2
    have c_V3 := V3.d0
    have f0_V3 := V3.frozen 0
    have d_V3 := V3.d1
    have f1_V3 := V3.frozen 1
    have e_V3 := V3.d2
    have f2_V3 := V3.frozen 2
    have l_V3 := V3.lt
    have m_V3 := Nat.le_of_lt l_V3
    go_wp2_with fail
    refine bodyPost_ret (results_rt rfl rfl (V2.set3 _ _ _)) rfl ?_
    exact ⟨_, _, _, _, _, _, _, _, _, _, _, rfl, Rt.nil _, Or.inr ⟨HS.out, rfl, rfl⟩, belo3 B0 (by omega) _ _ _⟩
end Go.Proofs.YtenmkbofpmbedaaGreatDoor
namespace Go.Proofs.YtenmkbofpmbedaaGreatDoor
open Go.RowKit Go.Shelf

def RPrInv (xs ys cs : List Int) (n lb i : Nat) : Prop :=
  cs.length = n ∧ H.Limbs cs ∧ (∀ j, i + lb ≤ j → cs.getD j 0 = 0) ∧ H.num cs = H.num (xs.take i) * H.num ys
def InInv (ys cs : List Int) (n lb i k : Nat) (T x c : Int) : Prop :=
  cs.length = n ∧ H.Limbs cs ∧ (∀ j, i + lb ≤ j → cs.getD j 0 = 0) ∧ H.num cs + c * H.pw (i + k) = T + x * H.num (ys.take k) * H.pw i ∧ 0 ≤ c ∧ c < 4294967296

theorem in_start {xs ys cs : List Int} {n lb i : Nat} (x : Int) (I : RPrInv xs ys cs n lb i) : InInv ys cs n lb i 0 (H.num (xs.take i) * H.num ys) x 0 := by
  obtain ⟨i1, i2, i3, i4⟩ := I
  exact ⟨i1, i2, i3, by rw [i4]; simp [H.num], by omega, by omega⟩
theorem in_word {o x y c : Int} (ho : 0 ≤ o ∧ o < 4294967296) (hx : 0 ≤ x ∧ x < 4294967296) (hy : 0 ≤ y ∧ y < 4294967296) (hc : 0 ≤ c ∧ c < 4294967296) :
    0 ≤ x * y ∧ x * y ≤ 18446744065119617025 ∧ (o + x * y + c) / 4294967296 < 4294967296 := by
  have h1 : 0 ≤ x * y := Int.mul_nonneg hx.1 hy.1
  have h2 : x * y ≤ 4294967295 * y := Int.mul_le_mul_of_nonneg_right (by omega) hy.1
  generalize x * y = p at *
  omega
theorem in_step {ys cs : List Int} {n lb i k : Nat} {T x c : Int} (hx : 0 ≤ x ∧ x < 4294967296) (hy : H.Limbs ys) (hk : k < lb) (hn : i + lb ≤ n) (I : InInv ys cs n lb i k T x c) :
    InInv ys (cs.set (i + k) ((cs.getD (i + k) 0 + x * ys.getD k 0 + c) % 4294967296)) n lb i (k + 1) T x ((cs.getD (i + k) 0 + x * ys.getD k 0 + c) / 4294967296) := by
  obtain ⟨i1, i2, i3, i4, i5, i6⟩ := I
  have b1 := i2.getD (i + k); have b2 := hy.getD k
  obtain ⟨p1, p2, p3⟩ := in_word b1 hx b2 ⟨i5, i6⟩
  refine ⟨by rw [List.length_set]; exact i1, i2.set _ ⟨by omega, by omega⟩, fun j hj => by rw [getD_set_other _ _ _ _ (by omega)]; exact i3 j hj, ?_, by omega, p3⟩
  have hc := H.carry_step (v := (cs.getD (i + k) 0 + x * ys.getD k 0 + c) % 4294967296) (c' := (cs.getD (i + k) 0 + x * ys.getD k 0 + c) / 4294967296) (p := H.pw (i + k)) (s := cs.getD (i + k) 0 + x * ys.getD k 0 + c) (by omega)
  rw [Int.add_mul (cs.getD (i + k) 0 + x * ys.getD k 0), Int.add_mul (cs.getD (i + k) 0)] at hc
  rw [H.num_set _ _ _ (by omega), H.num_take_succ, ← Nat.add_assoc, H.pw, Int.sub_mul, Int.mul_add x, Int.add_mul (x * H.num (ys.take k))]
  have e : x * (ys.getD k 0 * H.pw k) * H.pw i = x * ys.getD k 0 * H.pw (i + k) := by
    rw [H.pw_add, Int.mul_comm (H.pw i), Int.mul_assoc, Int.mul_assoc, Int.mul_assoc]
  rw [e]
  omega
theorem in_end {xs ys cs : List Int} {n lb i : Nat} {c : Int} (hlb : ys.length = lb) (hn : i + lb < n) (I : InInv ys cs n lb i lb (H.num (xs.take i) * H.num ys) (xs.getD i 0) c) : RPrInv xs ys (cs.set (i + lb) c) n lb (i + 1) := by
  obtain ⟨i1, i2, i3, i4, i5, i6⟩ := I
  refine ⟨by rw [List.length_set]; exact i1, i2.set _ ⟨i5, i6⟩, fun j hj => by rw [getD_set_other _ _ _ _ (by omega)]; exact i3 j (by omega), ?_⟩
  have et : ys.take lb = ys := List.take_of_length_le (by omega)
  rw [et] at i4
  rw [H.num_set _ _ _ (by omega), i3 (i + lb) (Nat.le_refl _), Int.sub_zero, H.num_take_succ, Int.add_mul, Int.mul_right_comm (xs.getD i 0)]
  exact i4

set_option maxHeartbeats 2000000 in
theorem rproduct_any (a b : Option Addr) (la ca lb cb : Nat) (xs ys : List Int) (w : World) (ha : Sl w a la xs) (hb : Sl w b lb ys) (hx : H.Limbs xs) (hy : H.Limbs ys) (h1 : la ≤ 8000000000000) (h2 : lb ≤ 8000000000000) :
    Calls Tryz.prog 121 #[.slice a la ca, .slice b lb cb] w fun e w' => DRes w w' e (H.num xs * H.num ys) (la + lb) := by
  have hza := ha.1; have hzb := hb.1
  have hmk := make_row (la + lb) (by omega)
  rw [show ((la + lb : Nat) : Int) = (la : Int) + lb by omega] at hmk
  have I0 : Hid (RPrInv xs ys (List.replicate (la + lb) 0) (la + lb) lb 0) :=
    ⟨by simp, fun z hz => by rw [List.eq_of_mem_replicate hz]; decide, fun j _ => by rw [List.getD_eq_getElem?_getD, List.getElem?_replicate]; split <;> rfl, by rw [H.num_zeros]; simp [H.num]⟩
  have O0 : Hid (Own (w.alloc (.cells (row (List.replicate (la + lb) 0)).toArray 125)) w.heap.size (List.replicate (la + lb) 0)) := heap_alloc_new _ _
  go_enter Tryz.func121, Tryz.ntmps121
  go_wp2_with fail
  clear hmk
  go_loopw [6] (fun ii wr => ∃ (i : Nat) (cs : List Int), ii = .int .i64 i ∧ i ≤ la ∧ Hid (RPrInv xs ys cs (la + lb) lb i) ∧ Hid (Own wr w.heap.size cs) ∧ Below w.heap.size w wr) (fun ii _ => la - (intOf ii).toNat)
  case atStart => exact ⟨0, _, rfl, by omega, I0, O0, (Below.refl _ _).alloc (Nat.le_refl _) _⟩
  case round =>
    obtain ⟨i, cs, rfl, hi, hI, hO, hbl⟩ := hrel
    by_cases hlt : i < la
    · obtain ⟨x, hxx⟩ : ∃ x, xs.getD i 0 = x := ⟨_, rfl⟩
      have hxw := hx.getD i
      rw [hxx] at hxw
      have HXX : Hid (xs.getD i 0 = x) := hxx
      have IN0 : Hid (InInv ys cs (la + lb) lb i 0 (H.num (xs.take i) * H.num ys) x 0) := in_start x hI.out
      obtain ⟨ba, oa, rfl, hca⟩ := ha.2.2 (by omega)
      have hcax := hca i hlt
      rw [hxx] at hcax
      have hba : ba < w.heap.size := by
        rcases Nat.lt_or_ge ba w.heap.size with h' | h'
        · exact h'
        · simp [World.cell?, Array.getElem?_eq_none h'] at hcax
      obtain ⟨wo, hwo⟩ : ∃ wo : World, wo = wr := ⟨_, rfl⟩
      rw [← hwo] at hO hbl
      clear hxx hca
      go_wp2_with fail
      rw [← hwo]
      clear hwo
      go_loopw [7, 8] (fun cc kk wq => ∃ (k : Nat) (c : Int) (ds : List Int), kk = .int .i64 k ∧ cc = .int .u64 c ∧ k ≤ lb ∧ Hid (InInv ys ds (la + lb) lb i k (H.num (xs.take i) * H.num ys) x c) ∧ Hid (Own wq w.heap.size ds) ∧ Below w.heap.size w wq) (fun _ kk _ => lb - (intOf kk).toNat)
      case atStart => exact ⟨0, 0, cs, rfl, rfl, by omega, IN0, hO, hbl⟩
      case round =>
        obtain ⟨k, c, ds, rfl, rfl, hk, hJ, hP, hbq⟩ := hrel
        by_cases hkl : k < lb
        · obtain ⟨bb, ob, rfl, hcb⟩ := hb.2.2 (by omega)
          have hcbx := hcb k hkl
          have hbb : bb < w.heap.size := by
            rcases Nat.lt_or_ge bb w.heap.size with h' | h'
            · exact h'
            · simp [World.cell?, Array.getElem?_eq_none h'] at hcbx
          obtain ⟨y, hyy⟩ : ∃ y, ys.getD k 0 = y := ⟨_, rfl⟩
          have hyw := hy.getD k
          have hstep := in_step hxw hy hkl (by omega) hJ.out
          have hcx := hP.out.cell (i + k) (by rw [hJ.out.1]; omega)
          have hfx := hP.out.frozen (i + k)
          have how := hJ.out.2.1.getD (i + k)
          have hc0 := hJ.out.2.2.2.2.1
          have hc1 := hJ.out.2.2.2.2.2
          obtain ⟨o, hoo⟩ : ∃ o, ds.getD (i + k) 0 = o := ⟨_, rfl⟩
          rw [hyy] at hcbx hyw hstep
          rw [hoo] at hcx how hstep
          obtain ⟨p1, p2, p3⟩ := in_word how hxw hyw ⟨hc0, hc1⟩
          obtain ⟨p, hp⟩ : ∃ p, x * y = p := ⟨_, rfl⟩
          rw [hp] at p1 p2 p3 hstep
          obtain ⟨o1, o2⟩ := how
          have ca1 : wr.cell? ⟨ba, oa + i, none⟩ = some (.int .u64 x) := (hbq.cell (p := ⟨ba, oa + i, none⟩) hba).trans hcax
          have cb1 : wr.cell? ⟨bb, ob + k, none⟩ = some (.int .u64 y) := (hbq.cell (p := ⟨bb, ob + k, none⟩) hbb).trans hcbx
          obtain ⟨t, ht⟩ : ∃ t, o + p + c = t := ⟨_, rfl⟩
          rw [ht] at hstep p3
          have t0 : 0 ≤ t := by omega
          have t1 : t < 18446744073709551616 := by omega
          have m0 : IntKind.i64.wrap ((i : Int) + k) = i + k := by rw [IntKind.wrap_i64]; omega
          have m1 : IntKind.u64.wrap (x * y) = p := by rw [hp, IntKind.wrap_u64]; omega
          have m2 : IntKind.u64.wrap (p + o) = p + o := by rw [IntKind.wrap_u64]; omega
          have m3 : IntKind.u64.wrap (p + o + c) = t := by rw [IntKind.wrap_u64]; omega
          have m4 : ((i : Int) + k).toNat = i + k := by omega
          have m5 : (i : Int) + k < la + lb := by omega
          have HS : Hid (InInv ys (ds.set (i + k) (t % 4294967296)) (la + lb) lb i (k + 1) (H.num (xs.take i) * H.num ys) x (t / 4294967296)) := hstep
          clear hstep hyy hoo hp ht hcb hcbx hcax hyw p3
          go_wp2_with fail
          go_quiet (fail)
          clear m1 m2 m3
          go_wp2_with fail
          go_roundw
          case rel => exact ⟨k + 1, _, _, by go_num, rfl, by omega, HS, Own.set (w := wr.drewN nq) hP.out (i + k) _, (below_drewN hbq nq).setCell (Nat.le_refl _) _⟩
          case measure => simp [intOf]; omega
        · obtain rfl : k = lb := by omega
          have hJ' := hJ.out
          rw [← HXX.out] at hJ'
          have HE : Hid (RPrInv xs ys (ds.set (i + k) c) (la + k) k (i + 1)) := in_end hzb (by omega) hJ'
          have hcx := hP.out.cell (i + k) (by rw [hJ.out.1]; omega)
          have hfx := hP.out.frozen (i + k)
          have m4 : ((i : Int) + k).toNat = i + k := by omega
          have m5 : (i : Int) + k < la + k := by omega
          clear hJ' hcax
          go_wp2_with fail
          go_roundw
          case rel => exact ⟨i + 1, _, by go_num, by omega, HE, Own.set hP.out (i + k) _, hbq.setCell (Nat.le_refl _) _⟩
          case measure => simp [intOf]; omega
    · obtain rfl : i = la := by omega
      obtain ⟨i1, i2, i3, i4⟩ := hI.out
      have et : xs.take i = xs := List.take_of_length_le (by omega)
      rw [et] at i4
      have hsl := hO.out.sl i2.up
      rw [i1] at hsl
      have hu := usedN_le cs
      have hle : usedN cs ≤ i + lb := by omega
      clear i1 et
      go_wp2_with fail
      refine (cutr_any (some ⟨w.heap.size, 0, none⟩) (i + lb) (i + lb) cs _ hsl (by omega) (Nat.le_refl _)).mono ?_
      rintro e w2 ⟨rfl, rfl⟩
      go_wp2_with fail
      go_ret
      exact ⟨_, usedN cs, i + lb, cs.take (usedN cs), rfl, hle, hle, hsl.take hle, i2.take _, usedN_take cs (Nat.le_refl _), by rw [H.num_take_used cs (Nat.le_refl _)]; exact i4, hbl⟩

theorem rmul_any (a0 a1 : Option Addr) (l0 k0 l1 k1 : Nat) (z0 z1 : List Int) (w : World) (ha0 : Sl w a0 l0 z0) (hb0 : Sl w a1 l1 z1) (h1 : l0 ≤ 2000000000000) (h2 : l1 ≤ 2000000000000) :
    Calls Tryz.prog 82 #[.slice a0 l0 k0, .slice a1 l1 k1] w fun e w' => LRes w w' e (num z0 * num z1) (2 * l0 + 2 * l1) := by
  go_enter Tryz.func82, Tryz.ntmps82
  go_wp2_with fail
  refine (digits_any a0 l0 k0 z0 w ha0 (by omega)).mono ?_
  rintro e wa ⟨a, la, ca, xs, rfl, -, hla, ha, hx, ux, nx, ba⟩
  go_wp2_with fail
  refine (digits_any a1 l1 k1 z1 wa (hb0.below ba (Nat.le_refl _)) (by omega)).mono ?_
  rintro e wb ⟨b, lb, cb, ys, rfl, -, hlb, hb, hy, uy, ny, bb⟩
  replace ha := ha.below bb (Nat.le_refl _)
  have HB : Hid (Below w.heap.size w wb) := step ba bb
  go_wp2_with fail
  refine (rproduct_any a b la ca lb cb xs ys wb ha hb hx hy (by omega) (by omega)).mono ?_
  rintro e wd ⟨ad, md, cd, ds, rfl, -, hmd, sd, hd, ud, nd, bd⟩
  go_wp2_with fail
  refine (limbsr_any ad md cd ds wd sd hd (by omega)).mono ?_
  rintro e w4 ⟨a4, m4, c4, z4, rfl, k4, k5, s4, u4, n4, b4⟩
  go_wp2_with fail
  go_ret
  exact ⟨a4, m4, c4, z4, rfl, k4, by omega, s4, u4, by rw [n4, nd, nx, ny], step (step HB.out bd) b4⟩
end Go.Proofs.YtenmkbofpmbedaaGreatDoor
