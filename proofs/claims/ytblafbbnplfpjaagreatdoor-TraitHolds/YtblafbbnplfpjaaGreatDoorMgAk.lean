import Derived.Test.YtblafbbnplfpjaaGreatDoorMgAa
import Derived.Test.YtblafbbnplfpjaaGreatDoorMgAf
import Derived.Test.YtblafbbnplfpjaaGreatDoorMgAh
import Derived.Test.YtblafbbnplfpjaaGreatDoorBsO
import Derived.Test.YtblafbbnplfpjaaGreatDoorMgAl
namespace Go.Proofs.YtblafbbnplfpjaaGreatDoor
open Go.RowKit Go.Shelf
set_option linter.unusedVariables false

theorem qabove_any (a : Option Addr) (l c : Nat) (zs : List Int) (w : World) (h : Nt w a l c zs) :
    Calls Tryz.prog 101 #[.agg #[.slice a l c]] w fun e w' => e = .returned (.agg #[.bool false, .slice a l c]) ∧ It w' false a l c zs ∧ Below w.heap.size w w' := by
  have B0 : Below w.heap.size w w := Below.refl _ _
  go_enter Tryz.func101, Tryz.ntmps101
  go_wp2_with fail
  refine ent2 w _ _ _ _ (Q := fun W => Calls Tryz.prog _ _ W _) ?_
  intro x1 hb hs_x1 V0 V1
  replace h := h.a hb
  replace B0 := step B0 hb
  clear hb hs_x1
  refine (wnew_any false a l c zs x1 h).mono ?_
  rintro e x2 ⟨s', rfl, h', e', hb⟩
  replace V0 := V0.a hb
  replace V1 := V1.a hb
  replace h := h.a hb
  replace B0 := step B0 hb
  clear hb
  have es : s' = false := by have := h'.sign; rw [e', iv_f] at this; have h0 := h.nonneg; rw [this]; simpa using h0
  subst es
  have c_V1 := V1.c0
  have f0_V1 := V1.frozen 0
  have d_V1 := V1.c1
  have f1_V1 := V1.frozen 1
  have l_V1 := V1.lt
  have m_V1 := Nat.le_of_lt l_V1
  go_wp2_with fail
  refine bodyPost_ret (results_w rfl rfl (V1.set2 _ _)) rfl ?_
  exact ⟨rfl, h'.far V1 (noInt2 _ _ _ _) (far2 _ _ _ _), below_2 B0 (by omega) _ _⟩

set_option maxHeartbeats 4000000 in
theorem rover_ok (a b : Option Addr) (la ca lb cb : Nat) (xs ys : List Int) (w : World) (ha : Nt w a la ca xs) (hb0 : Nt w b lb cb ys) (h0 : num ys ≠ 0) (hd : num ys ∣ num xs) :
    Calls Tryz.prog 138 #[.agg #[.slice a la ca], .agg #[.slice b lb cb]] w fun e w' => ∃ aq lq kq zq, e = .returned (.agg #[.slice aq lq kq]) ∧ Nt w' aq lq kq zq ∧ num zq * num ys = num xs ∧ Below w.heap.size w w' := by
  have B0 : Below w.heap.size w w := Below.refl _ _
  go_enter Tryz.func138, Tryz.ntmps138
  go_wp2_with fail
  refine ent3 w _ _ _ _ _ _ (Q := fun W => Calls Tryz.prog _ _ W _) ?_
  intro x1 hb hs_x1 V0 V1 V2
  replace ha := ha.a hb
  replace hb0 := hb0.a hb
  replace B0 := step B0 hb
  clear hb hs_x1
  refine (ndiv_ok a b la ca lb cb xs ys x1 ha hb0 h0).mono ?_
  rintro e x2 ⟨aq, lq, kq, ar, lr, kr, zq, zr, rfl, hq, hr, d1, d2, hb⟩
  replace V0 := V0.a hb
  replace V1 := V1.a hb
  replace V2 := V2.a hb
  replace ha := ha.a hb
  replace hb0 := hb0.a hb
  replace B0 := step B0 hb
  clear hb
  have HE : Hid (num zq * num ys = num xs) := by
    have r0 := hr.nonneg
    have e1 : num zr = 0 := by
      obtain ⟨q, hq'⟩ := hd
      have e2 : num zr = num ys * (q - num zq) := by rw [Int.mul_sub, ← hq', d1, Int.mul_comm (num ys)]; omega
      have y0 := hb0.nonneg
      rcases Int.lt_or_le (q - num zq) 1 with h1 | h1
      · have := Int.mul_le_mul_of_nonneg_left (show q - num zq ≤ 0 by omega) y0; rw [Int.mul_zero] at this; omega
      · have := Int.mul_le_mul_of_nonneg_left h1 y0; rw [Int.mul_one] at this; omega
    show _ = _; omega
  clear d1 d2 hd h0
  have c_V2 := V2.cell
  have f0_V2 := V2.frozen 0
  have l_V2 := V2.lt
  have m_V2 := Nat.le_of_lt l_V2
  have p0_V2 := ((V2.old (.cells #[.slice aq lq kq] 62)).old (.cells #[.slice ar lr kr] 62)).cell
  have q0_V2 := ((V2.old (.cells #[.slice aq lq kq] 62)).old (.cells #[.slice ar lr kr] 62)).frozen 0
  go_wp2_with fail
  refine bodyPost_ret (results_c rfl rfl (((V2.old _).old _).set _)) rfl ?_
  have sz := B0.size
  exact ⟨aq, lq, kq, zq, rfl, ((hq.al _).al _).store ((V2.old _).old _) _, HE, ((B0.alloc sz _).alloc (by simp; omega) _).setCell (by dsimp only; omega) _⟩

theorem qlimbs_any (a : Option Addr) (l c : Nat) (zs : List Int) (w : World) (h : Nt w a l c zs) :
    Calls Tryz.prog 184 #[.agg #[.slice a l c]] w fun e w' => e = .returned (.int .i64 l) ∧ Below w.heap.size w w' := by
  obtain ⟨p1, p2, p3⟩ := bits_limbs h.limbs
  have hu : usedN zs = l := h.2.1
  have hl : l ≤ 4096 := h.2.2.2
  rw [hu] at p2 p3
  have B0 : Below w.heap.size w w := Below.refl _ _
  go_enter Tryz.func184, Tryz.ntmps184
  go_wp2_with fail
  refine ent1 w _ _ (Q := fun W => Calls Tryz.prog _ _ W _) ?_
  intro x1 hb hs_x1 V0
  replace h := h.a hb
  replace B0 := step B0 hb
  clear hb hs_x1
  refine (nbits_any a l c zs x1 h).mono ?_
  rintro e x2 ⟨rfl, hb⟩
  replace V0 := V0.a hb
  replace h := h.a hb
  replace B0 := step B0 hb
  clear hb
  obtain ⟨B, hB⟩ : ∃ B, bitsN zs = B := ⟨_, rfl⟩
  rw [hB] at p1 p2 p3 ⊢
  have e1 : IntKind.i64.wrap (B + 64) = B + 64 := by rw [IntKind.wrap_i64]; omega
  have e2 : IntKind.i64.wrap (B + 64 - 1) = B + 64 - 1 := by rw [IntKind.wrap_i64]; omega
  have e3 : (B + 64 - 1).tdiv 64 = (l : Int) := by rw [Int.tdiv_eq_ediv_of_nonneg (by omega)]; exact p2
  have e4 : IntKind.i64.wrap (l : Int) = l := by rw [IntKind.wrap_i64]; omega
  go_wp2_with fail
  go_ret
  exact ⟨rfl, B0⟩

set_option maxHeartbeats 4000000 in
theorem times_ok (s : Bool) (a b : Option Addr) (l c m d : Nat) (xs ys : List Int) (w : World) (hx : It w s a l c xs) (hy : Nt w b m d ys) (hfit : Hid (((iv s xs * num ys).natAbs : Int) < pw 4096)) :
  Calls Tryz.prog 82 #[.agg #[.bool s, .slice a l c], .agg #[.slice b m d]] w fun e w' => ∃ sp ap lp kp zp, e = .returned (.agg #[.bool sp, .slice ap lp kp]) ∧ It w' sp ap lp kp zp ∧ iv sp zp = iv s xs * num ys ∧ Below w.heap.size w w' := by
 have B0 : Below w.heap.size w w := Below.refl _ _
 go_enter Tryz.func82, Tryz.ntmps82
 (go_wp2_with fail); refine ent3 w _ _ _ _ _ _ (Q := fun W => Code.wp Tryz.prog _ _ _ W) ?_; intro x1 hb hs_x1 V0 V1 V2; replace hx := It.after hb hx; replace hy := hy.a hb; replace B0 := step B0 hb; clear hb hs_x1; refine wp_region_noPanic ?_; replace V0 : Va x1.drew _ _ _ := V0; replace V1 : Va x1.drew _ _ _ := V1; replace V2 : Va x1.drew _ _ _ := V2; replace hx := hx.drw; replace hy := hy.drw; replace B0 := Below.drew B0; refine wp_region_held_drew (S := (fun W => W.cell? ⟨w.heap.size, 0, none⟩ = some (.bool s) ∧ W.cell? ⟨w.heap.size, 1, none⟩ = some (.slice a l c) ∧ W.cell? ⟨w.heap.size + 1, 0, none⟩ = some (.slice b m d))) (by kernel_rfl) ⟨V0.c0, V0.c1, V1.cell⟩ (fun hHeld => ?_); (obtain ⟨x2, hxd⟩ : ∃ xd, xd = x1.drew := ⟨_, rfl⟩); rw [← hxd] at V0 V1 V2 hx hy B0 hHeld ⊢; clear hxd; refine tjz 0 hHeld ?_; refine tjz 1 hHeld ?_
 refine wpAnyH_ready (rs := [2, 7]) (by kernel_rfl) (by simp) ?_; refine AllReadyH.cons rfl (fun K hK => ?_) (AllReadyH.cons rfl (fun K hK => ?_) AllReadyH.nil)
 ·
  simp only [gA, gB, gC]; (go_simp); refine (qabove_any b m d ys _ hy).mono ?_; rintro e x3 ⟨rfl, hy', hb⟩; replace V0 := V0.a hb; replace V1 := V1.a hb; replace V2 := V2.a hb; replace hx := It.after hb hx; replace hy := hy.a hb; replace B0 := step B0 hb; clear hb; (try go_wp2_with fail); refine hK.out _ _ ⟨V0.c0, V0.c1, V1.cell⟩ (fun hHeld => ?_); clear hK K; refine wpAnyH_ready (rs := [3, 7]) (by kernel_rfl) (by simp) ?_; refine AllReadyH.cons rfl (fun K hK => ?_) (AllReadyH.cons rfl (fun K hK => ?_) AllReadyH.nil)
  ·
   simp only [gA, gB, gC]; (go_simp); refine (wmul_ok s false a b l c m d xs ys _ hx hy' hfit).mono ?_; rintro e x4 ⟨sp, ap, lp, kp, zp, rfl, hp, ep, hb⟩; replace V0 := V0.a hb; replace V1 := V1.a hb; replace V2 := V2.a hb; replace hx := It.after hb hx; replace hy := hy.a hb; replace hy' := It.after hb hy'; replace B0 := step B0 hb; clear hb; (try go_wp2_with fail); refine hK.out _ _ ⟨V0.c0, V0.c1, V1.cell⟩ (fun hHeld => ?_); clear hK K; refine tjz 4 hHeld ?_; refine tjz 5 hHeld ?_; refine tjz 6 hHeld ?_; refine ryz 7 (fun K hK => ?_)
   ·
    simp only [gA, gB, gC]; (go_simp); have lt_Vp_V0 := V0.lt; have lt_Vp_V1 := V1.lt; have lt_Vp_V2 := V2.lt; have sz_Vp := B0.size; refine ent1 _ _ _ (Q := fun V => K _ V) ?_; intro x5 hb hs_ Vp; replace V0 := V0.a hb; replace V1 := V1.a hb; replace V2 := V2.a hb; replace hx := It.after hb hx; replace hy := hy.a hb; replace hy' := It.after hb hy'; replace hp := It.after hb hp; replace B0 := step B0 hb; clear hb hs_; refine hK.out _ _ ⟨V0.c0, V0.c1, V1.cell⟩ (fun hHeld => ?_); clear hK K; have c_Vp := Vp.c0; have f0_Vp := Vp.frozen 0; have d_Vp := Vp.c1; have f1_Vp := Vp.frozen 1; have l_Vp := Vp.lt; have m_Vp := Nat.le_of_lt l_Vp; refine ryz 8 (fun K hK => ?_); simp only [gA, gB, gC]; (go_simp); clear c_Vp f0_Vp d_Vp f1_Vp l_Vp m_Vp; refine st2 Vp (.bool sp) (.slice ap lp kp) (Q := fun W => K _ W) ?_; intro x6 V' oth far; replace V0 := apz (oth _ _ _) V0
    replace V1 := apz (oth _ _ _) V1; replace V2 := apz (oth _ _ _) V2; replace hx := hx.far Vp (noInt2 _ _ _ _) far.1; replace hy := hy.far Vp (noInt2 _ _ _ _) far.1; replace hy' := hy'.far Vp (noInt2 _ _ _ _) far.1; replace hp := hp.far Vp (noInt2 _ _ _ _) far.1; replace B0 := apz (far.2 _ _) B0; replace Vp := V'; clear oth far; refine hK.out _ _ ⟨V0.c0, V0.c1, V1.cell⟩ (fun hHeld => ?_); clear hK K; refine tjz 9 hHeld ?_; refine dnz ?_; clear hHeld; have c_Vp := Vp.c0; have f0_Vp := Vp.frozen 0; have d_Vp := Vp.c1; have f1_Vp := Vp.frozen 1; have l_Vp := Vp.lt; have m_Vp := Nat.le_of_lt l_Vp; have c_V2 := V2.c0; have f0_V2 := V2.frozen 0; have d_V2 := V2.c1; have f1_V2 := V2.frozen 1; have l_V2 := V2.lt; have m_V2 := Nat.le_of_lt l_V2
    (go_wp2_with fail); refine bodyPost_ret (results_w rfl rfl (V2.set2 _ _)) rfl ?_; exact ⟨sp, ap, lp, kp, zp, rfl, hp.far V2 (noInt2 _ _ _ _) (far2 _ _ _ _), ep, below_2 B0 (by omega) _ _⟩
  ·
   simp only [gA, gB, gC]; (go_simp); have lt_Vp_V0 := V0.lt; have lt_Vp_V1 := V1.lt; have lt_Vp_V2 := V2.lt; have sz_Vp := B0.size; refine ent1 _ _ _ (Q := fun V => K _ V) ?_; intro x4 hb hs_ Vp; replace V0 := V0.a hb; replace V1 := V1.a hb; replace V2 := V2.a hb; replace hx := It.after hb hx; replace hy := hy.a hb; replace hy' := It.after hb hy'; replace B0 := step B0 hb; clear hb hs_; refine hK.out _ _ ⟨V0.c0, V0.c1, V1.cell⟩ (fun hHeld => ?_); clear hK K; refine ryz 3 (fun K hK => ?_)
   ·
    simp only [gA, gB, gC]; (go_simp); refine (wmul_ok s false a b l c m d xs ys _ hx hy' hfit).mono ?_; rintro e x5 ⟨sp, ap, lp, kp, zp, rfl, hp, ep, hb⟩; replace V0 := V0.a hb; replace V1 := V1.a hb; replace V2 := V2.a hb; replace Vp := Vp.a hb; replace hx := It.after hb hx; replace hy := hy.a hb; replace hy' := It.after hb hy'; replace B0 := step B0 hb; clear hb; (try go_wp2_with fail); refine hK.out _ _ ⟨V0.c0, V0.c1, V1.cell⟩ (fun hHeld => ?_); clear hK K; refine tjz 4 hHeld ?_; refine tjz 5 hHeld ?_; refine tjz 6 hHeld ?_; have c_Vp := Vp.c0; have f0_Vp := Vp.frozen 0; have d_Vp := Vp.c1; have f1_Vp := Vp.frozen 1; have l_Vp := Vp.lt; have m_Vp := Nat.le_of_lt l_Vp; refine ryz 8 (fun K hK => ?_)
    simp only [gA, gB, gC]; (go_simp); clear c_Vp f0_Vp d_Vp f1_Vp l_Vp m_Vp; refine st2 Vp (.bool sp) (.slice ap lp kp) (Q := fun W => K _ W) ?_; intro x6 V' oth far; replace V0 := apz (oth _ _ _) V0; replace V1 := apz (oth _ _ _) V1; replace V2 := apz (oth _ _ _) V2; replace hx := hx.far Vp (noInt2 _ _ _ _) far.1; replace hy := hy.far Vp (noInt2 _ _ _ _) far.1; replace hy' := hy'.far Vp (noInt2 _ _ _ _) far.1; replace hp := hp.far Vp (noInt2 _ _ _ _) far.1; replace B0 := apz (far.2 _ _) B0; replace Vp := V'; clear oth far; refine hK.out _ _ ⟨V0.c0, V0.c1, V1.cell⟩ (fun hHeld => ?_); clear hK K; refine tjz 9 hHeld ?_; refine dnz ?_; clear hHeld; have c_Vp := Vp.c0; have f0_Vp := Vp.frozen 0
    have d_Vp := Vp.c1; have f1_Vp := Vp.frozen 1; have l_Vp := Vp.lt; have m_Vp := Nat.le_of_lt l_Vp; have c_V2 := V2.c0; have f0_V2 := V2.frozen 0; have d_V2 := V2.c1; have f1_V2 := V2.frozen 1; have l_V2 := V2.lt; have m_V2 := Nat.le_of_lt l_V2; (go_wp2_with fail); refine bodyPost_ret (results_w rfl rfl (V2.set2 _ _)) rfl ?_; exact ⟨sp, ap, lp, kp, zp, rfl, hp.far V2 (noInt2 _ _ _ _) (far2 _ _ _ _), ep, below_2 B0 (by omega) _ _⟩
 ·
  simp only [gA, gB, gC]; (go_simp); have lt_Vp_V0 := V0.lt; have lt_Vp_V1 := V1.lt; have lt_Vp_V2 := V2.lt; have sz_Vp := B0.size; refine ent1 _ _ _ (Q := fun V => K _ V) ?_; intro x3 hb hs_ Vp; replace V0 := V0.a hb; replace V1 := V1.a hb; replace V2 := V2.a hb; replace hx := It.after hb hx; replace hy := hy.a hb; replace B0 := step B0 hb; clear hb hs_; refine hK.out _ _ ⟨V0.c0, V0.c1, V1.cell⟩ (fun hHeld => ?_); clear hK K; refine ryz 2 (fun K hK => ?_)
  ·
   simp only [gA, gB, gC]; (go_simp); refine (qabove_any b m d ys _ hy).mono ?_; rintro e x4 ⟨rfl, hy', hb⟩; replace V0 := V0.a hb; replace V1 := V1.a hb; replace V2 := V2.a hb; replace Vp := Vp.a hb; replace hx := It.after hb hx; replace hy := hy.a hb; replace B0 := step B0 hb; clear hb; (try go_wp2_with fail); refine hK.out _ _ ⟨V0.c0, V0.c1, V1.cell⟩ (fun hHeld => ?_); clear hK K; refine ryz 3 (fun K hK => ?_)
   ·
    simp only [gA, gB, gC]; (go_simp); refine (wmul_ok s false a b l c m d xs ys _ hx hy' hfit).mono ?_; rintro e x5 ⟨sp, ap, lp, kp, zp, rfl, hp, ep, hb⟩; replace V0 := V0.a hb; replace V1 := V1.a hb; replace V2 := V2.a hb; replace Vp := Vp.a hb; replace hx := It.after hb hx; replace hy := hy.a hb; replace hy' := It.after hb hy'; replace B0 := step B0 hb; clear hb; (try go_wp2_with fail); refine hK.out _ _ ⟨V0.c0, V0.c1, V1.cell⟩ (fun hHeld => ?_); clear hK K; refine tjz 4 hHeld ?_; refine tjz 5 hHeld ?_; refine tjz 6 hHeld ?_; have c_Vp := Vp.c0; have f0_Vp := Vp.frozen 0; have d_Vp := Vp.c1; have f1_Vp := Vp.frozen 1; have l_Vp := Vp.lt; have m_Vp := Nat.le_of_lt l_Vp; refine ryz 8 (fun K hK => ?_)
    simp only [gA, gB, gC]; (go_simp); clear c_Vp f0_Vp d_Vp f1_Vp l_Vp m_Vp; refine st2 Vp (.bool sp) (.slice ap lp kp) (Q := fun W => K _ W) ?_; intro x6 V' oth far; replace V0 := apz (oth _ _ _) V0; replace V1 := apz (oth _ _ _) V1; replace V2 := apz (oth _ _ _) V2; replace hx := hx.far Vp (noInt2 _ _ _ _) far.1; replace hy := hy.far Vp (noInt2 _ _ _ _) far.1; replace hy' := hy'.far Vp (noInt2 _ _ _ _) far.1; replace hp := hp.far Vp (noInt2 _ _ _ _) far.1; replace B0 := apz (far.2 _ _) B0; replace Vp := V'; clear oth far; refine hK.out _ _ ⟨V0.c0, V0.c1, V1.cell⟩ (fun hHeld => ?_); clear hK K; refine tjz 9 hHeld ?_; refine dnz ?_; clear hHeld; have c_Vp := Vp.c0; have f0_Vp := Vp.frozen 0
    have d_Vp := Vp.c1; have f1_Vp := Vp.frozen 1; have l_Vp := Vp.lt; have m_Vp := Nat.le_of_lt l_Vp; have c_V2 := V2.c0; have f0_V2 := V2.frozen 0; have d_V2 := V2.c1; have f1_V2 := V2.frozen 1; have l_V2 := V2.lt; have m_V2 := Nat.le_of_lt l_V2; (go_wp2_with fail); refine bodyPost_ret (results_w rfl rfl (V2.set2 _ _)) rfl ?_; exact ⟨sp, ap, lp, kp, zp, rfl, hp.far V2 (noInt2 _ _ _ _) (far2 _ _ _ _), ep, below_2 B0 (by omega) _ _⟩

theorem rden_any (s : Bool) (a : Option Addr) (l c : Nat) (b : Option Addr) (m d : Nat) (ds : List Int) (w : World) (h : Nt w b m d ds) :
    Calls Tryz.prog 83 #[.agg #[.bool s, .slice a l c, .slice b m d]] w fun e w' => ∃ b' m' d' ds', e = .returned (.agg #[.slice b' m' d']) ∧ Nt w' b' m' d' ds' ∧ num ds' = dn ds ∧ Below w.heap.size w w' := by
  have hz := h.zero
  by_cases h0 : num ds = 0
  ·
    have ez : ((m : Int) == 0) = true := by rw [hz]; simpa using h0
    have ed : dn ds = 1 := by unfold dn; rw [if_pos h0]
    clear hz h0
    have B0 : Below w.heap.size w w := Below.refl _ _
    go_enter Tryz.func83, Tryz.ntmps83
    go_wp2_with fail
    refine ent2 w _ _ _ _ (Q := fun W => Calls Tryz.prog _ _ W _) ?_
    intro x1 hb hs_x1 V0 V1
    replace h := h.a hb
    replace B0 := step B0 hb
    clear hb hs_x1
    refine (isZero_any b m d x1).mono ?_
    rintro e x2 ⟨rfl, hb⟩
    replace V0 := V0.a hb
    replace V1 := V1.a hb
    replace h := h.a hb
    replace B0 := step B0 hb
    clear hb
    rw [ez]
    have c_V1 := V1.cell
    have f0_V1 := V1.frozen 0
    have l_V1 := V1.lt
    have m_V1 := Nat.le_of_lt l_V1
    go_wp2_with fail
    refine (small_any 1 ⟨by omega, by omega⟩ x2).mono ?_
    rintro e x3 ⟨b', m', d', ds', rfl, h', e', hb⟩
    replace V0 := V0.a hb
    replace V1 := V1.a hb
    replace h := h.a hb
    replace B0 := step B0 hb
    clear hb
    clear c_V1 f0_V1 l_V1 m_V1
    have c_V1 := V1.cell
    have f0_V1 := V1.frozen 0
    have l_V1 := V1.lt
    have m_V1 := Nat.le_of_lt l_V1
    go_wp2_with fail
    refine bodyPost_ret (results_c rfl rfl (V1.set _)) rfl ?_
    exact ⟨b', m', d', ds', rfl, h'.store V1 _, by rw [e', ed], B0.setCell (by simp) _⟩
  ·
    have ez : ((m : Int) == 0) = false := by rw [hz]; simpa using h0
    have ed : dn ds = num ds := by unfold dn; rw [if_neg h0]
    clear hz h0
    have B0 : Below w.heap.size w w := Below.refl _ _
    go_enter Tryz.func83, Tryz.ntmps83
    go_wp2_with fail
    refine ent2 w _ _ _ _ (Q := fun W => Calls Tryz.prog _ _ W _) ?_
    intro x1 hb hs_x1 V0 V1
    replace h := h.a hb
    replace B0 := step B0 hb
    clear hb hs_x1
    refine (isZero_any b m d x1).mono ?_
    rintro e x2 ⟨rfl, hb⟩
    replace V0 := V0.a hb
    replace V1 := V1.a hb
    replace h := h.a hb
    replace B0 := step B0 hb
    clear hb
    rw [ez]
    have c_V0 := V0.d0
    have f0_V0 := V0.frozen 0
    have d_V0 := V0.d1
    have f1_V0 := V0.frozen 1
    have e_V0 := V0.d2
    have f2_V0 := V0.frozen 2
    have l_V0 := V0.lt
    have m_V0 := Nat.le_of_lt l_V0
    have c_V1 := V1.cell
    have f0_V1 := V1.frozen 0
    have l_V1 := V1.lt
    have m_V1 := Nat.le_of_lt l_V1
    go_wp2_with fail
    refine bodyPost_ret (results_c rfl rfl (V1.set _)) rfl ?_
    exact ⟨b, m, d, ds, rfl, h.store V1 _, ed.symm, B0.setCell (by simp) _⟩

theorem Nt.short {w : World} {a : Option Addr} {l c : Nat} {zs : List Int} (h : Nt w a l c zs) (n : Nat) : l ≤ n ↔ num zs < pw n := by
  have hu : usedN zs = l := h.2.1
  constructor
  · intro h1; exact lt_of_used h.limbs (by omega)
  · intro h1; have := used_of_lt h.limbs h1; omega
set_option maxHeartbeats 4000000 in
theorem rlongr_any (s : Bool) (a : Option Addr) (l c : Nat) (zs : List Int) (b : Option Addr) (m d : Nat) (ds : List Int) (w : World) (hz : It w s a l c zs) (hd : Nt w b m d ds) :
  Calls Tryz.prog 161 #[.agg #[.bool s, .slice a l c, .slice b m d]] w fun e w' => ∃ (b' : Option Addr) (m' d' : Nat) (ds' : List Int), e = .returned (.int .i64 (max (l : Int) (m' : Int))) ∧ Nt w' b' m' d' ds' ∧ num ds' = dn ds ∧ Below w.heap.size w w' := by
 have B0 : Below w.heap.size w w := Below.refl _ _
 go_enter Tryz.func161, Tryz.ntmps161
 (go_wp2_with fail); refine ent1 w _ _ (Q := fun W => Code.wp Tryz.prog _ _ _ W) ?_; intro x1 hb hs_x1 V0; replace hz := It.after hb hz; replace hd := hd.a hb; replace B0 := step B0 hb; clear hb hs_x1; refine wp_region_noPanic ?_; replace V0 : Va x1.drew _ _ _ := V0; replace hz := hz.drw; replace hd := hd.drw; replace B0 := Below.drew B0; refine wp_region_held_drew (S := (fun W => W.cell? ⟨w.heap.size, 0, none⟩ = some (.bool s) ∧ W.cell? ⟨w.heap.size, 1, none⟩ = some (.slice a l c) ∧ W.cell? ⟨w.heap.size, 2, none⟩ = some (.slice b m d))) (by kernel_rfl) ⟨V0.d0, V0.d1, V0.d2⟩ (fun hHeld => ?_); (obtain ⟨x2, hxd⟩ : ∃ xd, xd = x1.drew := ⟨_, rfl⟩); rw [← hxd] at V0 hz hd B0 hHeld ⊢; clear hxd; refine tjz 0 hHeld ?_; refine tjz 1 hHeld ?_; refine tjz 4 hHeld ?_; refine wpAnyH_ready (rs := [2]) (by kernel_rfl) (by simp) ?_
 refine AllReadyH.cons rfl (fun K hK => ?_) AllReadyH.nil; simp only [gA, gB, gC]; (go_simp); refine (wabs_any s a l c _).mono ?_; rintro e x3 ⟨rfl, hb⟩; replace V0 := V0.a hb; replace hz := It.after hb hz; replace hd := hd.a hb; replace B0 := step B0 hb; clear hb; (try go_wp2_with fail); refine hK.out _ _ ⟨V0.d0, V0.d1, V0.d2⟩ (fun hHeld => ?_); clear hK K; refine ryz 3 (fun K hK => ?_); simp only [gA, gB, gC]; (go_simp); refine (qlimbs_any a l c zs _ hz.1).mono ?_; rintro e x4 ⟨rfl, hb⟩; replace V0 := V0.a hb; replace hz := It.after hb hz; replace hd := hd.a hb; replace B0 := step B0 hb; clear hb; (try go_wp2_with fail); refine hK.out _ _ ⟨V0.d0, V0.d1, V0.d2⟩ (fun hHeld => ?_); clear hK K; refine ryz 5 (fun K hK => ?_); simp only [gA, gB, gC]
 (go_simp); refine (rden_any s a l c b m d ds _ hd).mono ?_; rintro e x5 ⟨b', m', d', ds', rfl, h', e', hb⟩; replace V0 := V0.a hb; replace hz := It.after hb hz; replace hd := hd.a hb; replace B0 := step B0 hb; clear hb; (try go_wp2_with fail); refine hK.out _ _ ⟨V0.d0, V0.d1, V0.d2⟩ (fun hHeld => ?_); clear hK K; refine ryz 6 (fun K hK => ?_); simp only [gA, gB, gC]; (go_simp); refine (qlimbs_any b' m' d' ds' _ h').mono ?_; rintro e x6 ⟨rfl, hb⟩; replace V0 := V0.a hb; replace hz := It.after hb hz; replace hd := hd.a hb; replace h' := Nt.after hb h'; replace B0 := step B0 hb; clear hb; (try go_wp2_with fail); refine hK.out _ _ ⟨V0.d0, V0.d1, V0.d2⟩ (fun hHeld => ?_); clear hK K; refine tjz 7 hHeld ?_; refine tjz 8 hHeld ?_; refine wpAnyH_done (by kernel_rfl) ?_ _
 refine NoPanic.normal ?_; clear hHeld; (go_wp2_with fail)
 go_ret
 exact ⟨b', m', d', ds', rfl, h', e', B0⟩

set_option maxHeartbeats 4000000 in
theorem rmade_any (s : Bool) (a : Option Addr) (l c : Nat) (zs : List Int) (b : Option Addr) (m d : Nat) (ds : List Int) (v : Rat) (w : World) (hz : It w s a l c zs) (hd : Nt w b m d ds) (h1 : iv s zs = v.num) (h2 : dn ds = v.den) :
    Calls Tryz.prog 136 #[.agg #[.bool s, .slice a l c], .agg #[.slice b m d]] w fun e w' => ∃ er s' a' l' c' zs' b' m' d' ds' v', e = .returned (.tuple #[.agg #[.bool s', .slice a' l' c', .slice b' m' d'], .int .i64 er]) ∧ Rt w' s' a' l' c' zs' b' m' d' ds' v' ∧ Hid (RA v er v') ∧ Below w.heap.size w w' := by
  have HL : Hid (∀ W (b' : Option Addr) (m' d' : Nat) (ds' : List Int), Nt W b' m' d' ds' → num ds' = dn ds → (max (l : Int) (m' : Int) ≤ 1024 ↔ Short v)) := by
    intro W b' m' d' ds' h' e'
    have p1 := hz.1.short 1024
    have p2 := h'.short 1024
    have e1 : num zs = (v.num.natAbs : Int) := by rw [← h1]; exact hz.abs
    rw [e1] at p1
    rw [e', h2] at p2
    unfold Short
    rw [← p1, ← p2]
    omega
  have H1 : Hid (iv s zs = v.num ∧ dn ds = v.den) := ⟨h1, h2⟩
  clear h1 h2
  have B0 : Below w.heap.size w w := Below.refl _ _
  go_enter Tryz.func136, Tryz.ntmps136
  go_wp2_with fail
  refine ent4 w _ _ _ _ _ _ _ _ (Q := fun W => Calls Tryz.prog _ _ W _) ?_
  intro x1 hb hs_x1 V0 V1 V2 V3
  replace hz := It.after hb hz
  replace hd := hd.a hb
  replace B0 := step B0 hb
  clear hb hs_x1
  refine (rlongr_any s a l c zs b m d ds x1 hz hd).mono ?_
  rintro e x2 ⟨b', m', d', ds', rfl, h', e', hb⟩
  replace V0 := V0.a hb
  replace V1 := V1.a hb
  replace V2 := V2.a hb
  replace V3 := V3.a hb
  replace hz := It.after hb hz
  replace hd := hd.a hb
  replace B0 := step B0 hb
  clear hb
  have hlm := HL.out _ _ _ _ _ h' e'
  obtain ⟨n, hn⟩ : ∃ n : Int, max (l : Int) (m' : Int) = n := ⟨_, rfl⟩
  rw [hn] at hlm ⊢
  clear hn HL e'
  clear h'
  by_cases hs : n ≤ 1024
  ·
    have HS : Hid (Short v) := hlm.1 hs
    clear hlm
    have c_V2 := V2.d0
    have f0_V2 := V2.frozen 0
    have d_V2 := V2.d1
    have f1_V2 := V2.frozen 1
    have e_V2 := V2.d2
    have f2_V2 := V2.frozen 2
    have l_V2 := V2.lt
    have m_V2 := Nat.le_of_lt l_V2
    have c_V3 := V3.d0
    have f0_V3 := V3.frozen 0
    have d_V3 := V3.d1
    have f1_V3 := V3.frozen 1
    have e_V3 := V3.d2
    have f2_V3 := V3.frozen 2
    have l_V3 := V3.lt
    have m_V3 := Nat.le_of_lt l_V3
    go_wp2_with fail
    refine bodyPost_ret (results_rt rfl rfl (V2.set3 _ _ _)) rfl ?_
    exact ⟨_, s, a, l, c, zs, b, m, d, ds, v, rfl, ⟨hz.far V2 (noInt3 _ _ _ _ _ _ _) (fa3 _ _ _ _ _), hd.far V2 (noInt3 _ _ _ _ _ _ _) (fa3 _ _ _ _ _), H1.out.1, H1.out.2, HS.out⟩, Or.inl ⟨HS.out, rfl, rfl⟩, belo3 B0 (by omega) _ _ _⟩
  ·
    have HS : Hid (¬ Short v) := fun h => hs (hlm.2 h)
    clear hlm
    have c_V2 := V2.d0
    have f0_V2 := V2.frozen 0
    have d_V2 := V2.d1
    have f1_V2 := V2.frozen 1
    have e_V2 := V2.d2
    have f2_V2 := V2.frozen 2
    have l_V2 := V2.lt
    have m_V2 := Nat.le_of_lt l_V2
    have c_V3 := V3.d0
    have f0_V3 := V3.frozen 0
    have d_V3 := V3.d1
    have f1_V3 := V3.frozen 1
    have e_V3 := V3.d2
    have f2_V3 := V3.frozen 2
    have l_V3 := V3.lt
    have m_V3 := Nat.le_of_lt l_V3
    go_wp2_with fail
    refine bodyPost_ret (results_rt rfl rfl (V2.set3 _ _ _)) rfl ?_
    exact ⟨_, _, _, _, _, _, _, _, _, _, _, rfl, Rt.nil _, Or.inr ⟨HS.out, rfl, rfl⟩, belo3 B0 (by omega) _ _ _⟩
end Go.Proofs.YtblafbbnplfpjaaGreatDoor
namespace Go.Proofs.YtblafbbnplfpjaaGreatDoor
open Go.RowKit Go.Shelf

theorem gr_own {w : World} {B : Nat} {v : Value} {cs : List Int} (h : Gr w B v cs) : ∀ a cap, v = .slice a cs.length cap → ∀ x : Nat, x ≠ 0 → x = cs.length → ∃ g cur, a = some ⟨g, 0, none⟩ ∧ B ≤ g ∧ w.heap[g]? = some (.cells cur 124 (0, 0)) := by
  intro a cap hv x hx hxc
  obtain ⟨h1, h2 | ⟨g, cap2, cur, rfl, hB, hh, hc, hm, hs, ht⟩⟩ := h
  · omega
  · cases hv
    exact ⟨g, cur, rfl, hB, hh⟩
def DRes3 (w w' : World) (e : Ending) (N : Int) (bound : Nat) : Prop :=
  ∃ a m c ds, e = .returned (.slice a m c) ∧ m ≤ c ∧ m ≤ bound ∧ Sl w' a m ds ∧ H.Limbs ds ∧ usedN ds = m ∧ H.num ds = N ∧ (m ≠ 0 → ∃ g cur, a = some ⟨g, 0, none⟩ ∧ w.heap.size ≤ g ∧ w'.heap[g]? = some (.cells cur 124 (0, 0))) ∧ Below w.heap.size w w'
set_option maxHeartbeats 400000 in
theorem cut3_any (a : Option Addr) (len cap : Nat) (zs : List Int) (w : World) (h : Sl w a len zs) (hl : len ≤ 40000000000000) (hcap : len ≤ cap) :
    Calls Tryz.prog 204 #[.slice a len cap] w fun e w' => e = .returned (.slice a (usedN zs) cap) ∧ w' = w := by
  obtain ⟨hz, hL, hc⟩ := h
  by_cases h0 : len = 0
  · subst h0
    have e0 : usedN zs = 0 := by have := usedN_le zs; omega
    rw [e0]
    cases a with
    | none =>
      go_enter Tryz.func204, Tryz.ntmps204
      go_wp2_with fail
      refine wp_loop_rounds 1 ?_
      rw [rounds_succ]
      go_wp2_with fail
      go_ret
      exact ⟨rfl, rfl⟩
    | some a =>
      go_enter Tryz.func204, Tryz.ntmps204
      go_wp2_with fail
      refine wp_loop_rounds 1 ?_
      rw [rounds_succ]
      go_wp2_with fail
      go_ret
      exact ⟨rfl, rfl⟩
  · obtain ⟨b, off, rfl, hcell⟩ := hc (by omega)
    go_enter Tryz.func204, Tryz.ntmps204
    go_wp2_with fail
    go_loop [3] (fun i => ∃ k : Nat, k ≤ len ∧ i = .int .i64 k ∧ Hid (∀ j, k ≤ j → j < len → zs.getD j 0 = 0)) (fun i => (intOf i).toNat)
    case atStart => exact ⟨len, Nat.le_refl _, rfl, fun j h1 h2 => absurd h1 (by omega)⟩
    case round =>
      obtain ⟨k, hk, rfl, hI⟩ := hrel
      by_cases hlt : 0 < k
      · have hcx := hcell (k - 1) (by omega)
        have ex : ((k : Int) - 1).toNat = k - 1 := by omega
        obtain ⟨x, hx⟩ : ∃ x, zs.getD (k - 1) 0 = x := ⟨_, rfl⟩
        rw [hx] at hcx
        have HX : Hid (zs.getD (k - 1) 0 = x) := hx
        clear hx
        by_cases hx0 : x = 0
        · have g1 : (x == 0) = true := by simp [hx0]
          have HX0 : Hid (x = 0) := hx0
          clear hx0
          go_wp2_with fail
          go_round
          case rel =>
            refine ⟨k - 1, by omega, by rw [show ((k - 1 : Nat) : Int) = (k : Int) - 1 by omega], ?_⟩
            intro j h1 h2
            by_cases hj : j = k - 1
            · rw [hj, HX.out, HX0.out]
            · exact hI.out j (by omega) h2
          case measure => simp [intOf]; omega
        · have g1 : (x == 0) = false := by simp [hx0]
          have hu : usedN zs = k := usedN_eq (by omega) (fun i h1 h2 => hI.out i h1 (by omega)) (.inr (by rw [HX.out]; exact hx0))
          have HU : Hid (usedN zs = k) := hu
          clear hu hx0
          go_wp2_with fail
          go_ret
          exact ⟨ret_sl HU.out.symm, rfl⟩
      · obtain rfl : k = 0 := by omega
        have hu : usedN zs = 0 := usedN_eq (by omega) (fun i h1 h2 => hI.out i (by omega) (by omega)) (.inl rfl)
        have HU : Hid (usedN zs = 0) := hu
        clear hu
        go_wp2_with fail
        go_ret
        exact ⟨ret_sl HU.out.symm, rfl⟩

set_option maxHeartbeats 1000000 in
theorem halves3 (a : Option Addr) (la ca : Nat) (zs : List Int) (w : World) (h : Sl w a la zs) (hl : la ≤ 8000000000000) :
    Calls Tryz.prog 189 #[.slice a la ca] w fun e w' => DRes3 w w' e (num zs) (2 * la) := by
  have hz := h.1
  have hL := h.2.1
  go_enter Tryz.func189, Tryz.ntmps189
  go_wp2_with fail
  go_loopw [3, 4] (fun v i wr => ∃ (k : Nat) (cs : List Int), k ≤ la ∧ i = .int .i64 k ∧ Hid (GInv zs cs k) ∧ Hid (Gr wr w.heap.size v cs) ∧ Below w.heap.size w wr) (fun _ i _ => la - (intOf i).toNat)
  case atStart => exact ⟨0, [], Nat.zero_le _, rfl, ⟨rfl, H.Limbs.nil, rfl⟩, Gr.nil _ _, Below.refl _ _⟩
  case round =>
    obtain ⟨k, cs, hk, rfl, hI, hG, hb⟩ := hrel
    by_cases hlt : k < la
    · have hs := h.below hb (Nat.le_refl _)
      obtain ⟨b, off, rfl, hcell⟩ := hs.2.2 (by omega)
      have hcx := hcell k hlt
      have hstep := ginv_step hL hI.out
      have hw := hL.getD k
      obtain ⟨x, hx⟩ : ∃ x, zs.getD k 0 = x := ⟨_, rfl⟩
      rw [hx] at hcx hstep hw
      obtain ⟨x1, x2⟩ := hw
      obtain ⟨d0, hd0⟩ : ∃ d, x % 4294967296 = d := ⟨_, rfl⟩
      obtain ⟨d1, hd1⟩ : ∃ d, x / 4294967296 = d := ⟨_, rfl⟩
      rw [hd0, hd1] at hstep
      have e1 : x.tmod 4294967296 = d0 := by rw [Int.tmod_eq_emod_of_nonneg x1, hd0]
      have e2 : IntKind.u64.wrap (x.tdiv 4294967296) = d1 := by rw [Int.tdiv_eq_ediv_of_nonneg x1, IntKind.wrap_u64]; omega
      have HS : Hid (GInv zs (cs ++ [d0, d1]) (k + 1)) := hstep
      have hcl : cs.length ≤ 2 * k := by have := hI.out.1; omega
      clear hs hcell hx hstep hd0 hd1
      go_wp2_with fail
      go_region_law (refine step_app rfl (.tmp 11) (.tmp 22) rfl w.heap.size u3 cs (by simp [Act.eval]) (by exact hG.out.alloc _) wr.heap.size 2 2 [d0, d1] (by simp [Act.eval]) rfl (by exact heap_alloc_new _ _) (by omega) (by have := hb.size; simp; omega) ?_; intro v1 w1 hG1 hb1)
      all_goals
        have hb2 : Below w.heap.size w w1 := ((hb.alloc hb.size _).drew).trans hb1
        have HG1 : Hid (Gr w1 w.heap.size v1 (cs ++ [d0, d1])) := hG1
        clear hG1 hb1
        go_wp2_with fail
        go_roundw
        case rel => exact ⟨k + 1, _, by omega, by go_num, HS, HG1, hb2⟩
        case measure => simp [intOf]; omega
    · obtain rfl : k = la := by omega
      obtain ⟨i1, i2, i3⟩ := hI.out
      rw [List.take_of_length_le (by omega)] at i3
      have hown := gr_own hG.out
      obtain ⟨aa, cap, hv, hcap, hsl⟩ := hG.out.sl i2.up
      have hu := usedN_le cs
      have hle : cs.length ≤ 2 * k := by omega
      rw [hv] at hown
      have HOWN : Hid (∀ x : Nat, x ≠ 0 → x = cs.length → ∃ g cur, aa = some ⟨g, 0, none⟩ ∧ w.heap.size ≤ g ∧ wr.heap[g]? = some (.cells cur 124 (0, 0))) := hown aa cap rfl
      rw [hv]
      clear hG hv i1 hown
      go_wp2_with fail
      refine (cut3_any aa cs.length cap cs _ hsl (by omega) hcap).mono ?_
      rintro e w2 ⟨rfl, rfl⟩
      go_wp2_with fail
      go_ret
      exact ⟨aa, usedN cs, cap, cs.take (usedN cs), rfl, by omega, by omega, hsl.take hu, i2.take _, usedN_take cs (Nat.le_refl _), by rw [H.num_take_used cs (Nat.le_refl _)]; exact i3, fun h0 => HOWN.out cs.length (by omega) rfl, hb⟩
set_option maxHeartbeats 1000000 in
theorem limbs3 (a : Option Addr) (m ca : Nat) (ds : List Int) (w : World) (h : Sl w a m ds) (hd : H.Limbs ds) (hl : m ≤ 17000000000000) :
    Calls Tryz.prog 191 #[.slice a m ca] w fun e w' => LRes w w' e (H.num ds) m := by
  have hz := h.1
  have HSL : Hid (Sl w a m ds) := h
  clear h
  go_enter Tryz.func191, Tryz.ntmps191
  go_wp2_with fail
  go_loopw [3, 4] (fun v i wr => ∃ (k : Nat) (cs : List Int), i = .int .i64 (2 * (k : Int)) ∧ 2 * k ≤ m + 1 ∧ Hid (LmInv ds cs k) ∧ Hid (Gr wr w.heap.size v cs) ∧ Below w.heap.size w wr) (fun _ i _ => m + 1 - (intOf i).toNat)
  case atStart => exact ⟨0, [], rfl, by omega, ⟨rfl, Limbs.nil, rfl⟩, Gr.nil _ _, Below.refl _ _⟩
  case round =>
    obtain ⟨k, cs, rfl, hk, hI, hG, hb⟩ := hrel
    by_cases hlt : 2 * k < m
    · have hs := HSL.out.below hb (Nat.le_refl _)
      obtain ⟨b, off, rfl, hcell⟩ := hs.2.2 (by omega)
      have hcx := hcell (2 * k) hlt
      have hstep := lm_step hd hI.out
      have b1 := hd.getD (2 * k); have b2 := hd.getD (2 * k + 1)
      have hcl : cs.length ≤ k := by have := hI.out.1; omega
      have hbs := hb.size
      have ek : (2 * (k : Int)).toNat = 2 * k := by omega
      have ek1 : (2 * (k : Int) + 1).toNat = 2 * k + 1 := by omega
      obtain ⟨x, hx⟩ : ∃ x, ds.getD (2 * k) 0 = x := ⟨_, rfl⟩
      obtain ⟨y, hy⟩ : ∃ y, ds.getD (2 * k + 1) 0 = y := ⟨_, rfl⟩
      rw [hx] at hcx hstep b1
      rw [hy] at hstep b2
      obtain ⟨x1, x2⟩ := b1; obtain ⟨y1, y2⟩ := b2
      by_cases hlt2 : 2 * k + 1 < m
      · have hcy := hcell (2 * k + 1) hlt2
        rw [hy] at hcy
        have HS : Hid (LmInv ds (cs ++ [x + 4294967296 * y]) (k + 1)) := hstep
        have HSZ : Hid (w.heap.size ≤ (wr.alloc (.cells (row [x + 4294967296 * y]).toArray 124)).heap.size) := by show _ ≤ _; simp; omega
        have q1 : (2 * (k : Int)) < m := by omega
        have q2 : (2 * (k : Int)) + 1 < m := by omega
        clear hs hcell hx hy hstep
        go_wp2_with (at_builtin; refine wpList_app rfl (.tmp 29) (.tmp 31) rfl w.heap.size u3 cs rfl (hG.out.alloc _) wr.heap.size 1 1 [x + 4294967296 * y] rfl rfl (heap_alloc_new _ _) (by omega) HSZ.out ?_; intro v1 w1 hG1 hb1)
        have hb2 : Below w.heap.size w w1 := (hb.alloc hbs _).trans hb1
        clear hb1
        go_wp2_with fail
        go_roundw
        case rel => exact ⟨k + 1, _, by rw [show 2 * ((k + 1 : Nat) : Int) = 2 * (k : Int) + 2 by omega], by omega, HS, hG1, hb2⟩
        case measure => simp [intOf]; omega
      · have hy0 : y = 0 := by rw [← hy, List.getD_eq_getElem?_getD, List.getElem?_eq_none (by omega)]; rfl
        rw [hy0, Int.mul_zero, Int.add_zero] at hstep
        have HS : Hid (LmInv ds (cs ++ [x]) (k + 1)) := hstep
        have HSZ : Hid (w.heap.size ≤ (wr.alloc (.cells (row [x]).toArray 124)).heap.size) := by show _ ≤ _; simp; omega
        have q1 : (2 * (k : Int)) < m := by omega
        have q2 : ¬ (2 * (k : Int)) + 1 < m := by omega
        clear hs hcell hx hy hstep hy0
        go_wp2_with (at_builtin; refine wpList_app rfl (.tmp 29) (.tmp 31) rfl w.heap.size u3 cs rfl (hG.out.alloc _) wr.heap.size 1 1 [x] rfl rfl (heap_alloc_new _ _) (by omega) HSZ.out ?_; intro v1 w1 hG1 hb1)
        have hb2 : Below w.heap.size w w1 := (hb.alloc hbs _).trans hb1
        clear hb1
        go_wp2_with fail
        go_roundw
        case rel => exact ⟨k + 1, _, by rw [show 2 * ((k + 1 : Nat) : Int) = 2 * (k : Int) + 2 by omega], by omega, HS, hG1, hb2⟩
        case measure => simp [intOf]; omega
    · obtain ⟨i1, i2, i3⟩ := hI.out
      have et : ds.take (2 * k) = ds := List.take_of_length_le (by omega)
      rw [et] at i3
      obtain ⟨aa, cap, gm, hv, hcap, hsl, -, hnil, -⟩ := hG.out.parts i2
      have hu := usedN_le cs
      have hle : cs.length ≤ m := by omega
      have q1 : ¬ (2 * (k : Int)) < m := by omega
      rw [hv]
      clear hG hv i1 et
      go_wp2_with fail
      refine (rtrim_any aa cs.length cap cs _ hsl hnil (by omega) hcap).mono ?_
      rintro e w2 ⟨a2, c2, rfl, s2, hc2, b2⟩
      go_wp2_with fail
      go_ret
      exact ⟨a2, usedN cs, c2, cs.take (usedN cs), rfl, hc2, by omega, s2, usedN_take cs (Nat.le_refl _), by rw [num_take_used cs (Nat.le_refl _)]; exact i3, step hb b2⟩

end Go.Proofs.YtblafbbnplfpjaaGreatDoor
namespace Go.Proofs.YtblafbbnplfpjaaGreatDoor
open Go.RowKit Go.Shelf
set_option linter.unusedVariables false

end Go.Proofs.YtblafbbnplfpjaaGreatDoor
