/-
  The document's Compare and Int64 of layer 8; SameRatio of a number's plain form and the document's.
-/
import Derived.Test.YtjlodljgfjjclaaGreatTk
import Derived.Test.YtjlodljgfjjclaaGreatAl
import Derived.Test.YtjlodljgfjjclaaGreatBtG
import Derived.Test.YtjlodljgfjjclaaGreatRi7
import Derived.Test.YtjlodljgfjjclaaGreatBtB
namespace Go.Proofs.YtjlodljgfjjclaaGreat
open Go.RowKit Go.Shelf
set_option linter.unusedVariables false

theorem same8 {w0 : World} (s : Bool) (a : Option Addr) (l c : Nat) (zs : List Int) (b : Option Addr) (m d : Nat) (ds : List Int) (v : Rat) (s2 : Bool) (a2 : Option Addr) (l2 c2 : Nat) (xs : List Int) (b2 : Option Addr) (m2 d2 : Nat) (es : List Int) (g h : Nat) (ys : List Int) (w : World) (hr : Rt w0 s a l c zs b m d ds v) (hw : Rr w s2 a2 l2 c2 xs b2 m2 d2 es v) (hg : Ow w g zs) (hh : Ow w h ys) (hy : Limbs ys ∧ usedN ys = ys.length ∧ num ys = v.den) :
    Calls Tryz.prog 13 #[.agg #[.bool s, .slice (some ⟨g, 0, none⟩) l l, .slice (some ⟨h, 0, none⟩) ys.length ys.length], .agg #[.bool s2, .slice a2 l2 c2, .slice b2 m2 d2]] w fun e w' => e = .returned (.bool true) ∧ Below w.heap.size w w' := by
  have hl := len_4096 hr.1.1
  have hzl : zs.length = l := hr.1.1.1.1
  have hm := den_4096 hr.2.2.2.2 hy
  obtain ⟨rfl, rfl, rfl, rfl, rfl⟩ := rt_rr hr hw hy
  exact rsame5 s2 (some ⟨g, 0, none⟩) a2 (some ⟨h, 0, none⟩) b2 l2 es.length l2 c2 es.length d2 xs es w (hg.sl hr.1.1.limbs hzl) hw.1 (hh.sl hy.1 rfl) hw.2.1 (by omega) (by omega)

set_option maxHeartbeats 4000000 in
theorem rcomp8 (x : Nat) (hx : Fr x) (s1 : Bool) (a1 : Option Addr) (l1 c1 : Nat) (z1 : List Int) (b1 : Option Addr) (m1 d1 : Nat) (y1 : List Int) (v : Rat) (w : World) (h1 : Rr w s1 a1 l1 c1 z1 b1 m1 d1 y1 v) (t1 : Sz 4000 v) :
  Calls Tryz.prog 27 #[.float .f64 x, .agg #[.bool s1, .slice a1 l1 c1, .slice b1 m1 d1]] w fun e w' => e = .returned (.tuple #[.int .i64 (cw x v), .int .i64 0]) ∧ Below w.heap.size w w' := by
 have HX : Hid (Fr x) := hx; (have HT : Hid (∀ n, n = 4000 → Sz n v) := fun n e => by subst e; exact t1); clear t1
 by_cases hf : x % 9223372036854775808 = 9218868437227405312
 ·
  have HC : Hid (cw x v = if fsg x then -1 else 1) := if_pos hf; (have HN : Hid (9218868437227405312 ≤ x % 9223372036854775808) := by show _ ≤ _; omega); have q := gt_zero' hx (by omega); (obtain ⟨t, ht⟩ : ∃ t, fsg x = t := ⟨_, rfl⟩); rw [ht] at q HC; clear ht hf hx; have B0 : Below w.heap.size w w := Below.refl _ _
  go_enter Tryz.func27, Tryz.ntmps27
  (go_wp2_with fail); refine ent1 w _ _ (Q := fun W => Calls Tryz.prog _ _ W _) ?_; intro x1 hb hs_x1 V3; replace h1 := Rr.after hb h1; replace B0 := step B0 hb; clear hb hs_x1; refine (rnan_no' x HX.out _).mono ?_; rintro e x2 ⟨rfl, hw⟩; rw [hw]; clear hw; (go_wp2_with fail); refine (finite8_no x HX.out.2 HN.out x1).mono ?_; rintro e x3 ⟨rfl, hb⟩; replace V3 := Va.after hb V3; replace h1 := Rr.after hb h1; replace B0 := step B0 hb; clear hb
  cases t
  ·
   (go_wp2_with fail)
   go_ret2
   exact ⟨by rw [HC.out]; rfl, B0⟩
  ·
   (go_wp2_with fail)
   go_ret2
   exact ⟨by rw [HC.out]; rfl, B0⟩
 ·
  (have HC : Hid (cw x v = qcmp (fv x) v) := by show _ = _; rw [qcmp_fv]; exact if_neg hf); (have HN : Hid (x % 9223372036854775808 < 9218868437227405312) := by have h5 := hx.1; show _ < _; omega); clear hf hx; have B0 : Below w.heap.size w w := Below.refl _ _
  go_enter Tryz.func27, Tryz.ntmps27
  (go_wp2_with fail); refine ent1 w _ _ (Q := fun W => Calls Tryz.prog _ _ W _) ?_; intro x1 hb hs_x1 V3; replace h1 := Rr.after hb h1; replace B0 := step B0 hb; clear hb hs_x1; refine (rnan_no' x HX.out _).mono ?_; rintro e x2 ⟨rfl, hw⟩; rw [hw]; clear hw; (go_wp2_with fail); refine (finite8_yes x HX.out.2 HN.out x1).mono ?_; rintro e x3 ⟨rfl, hb⟩; replace V3 := Va.after hb V3; replace h1 := Rr.after hb h1; replace B0 := step B0 hb; clear hb; (go_wp2_with fail); refine wp_region_noPanic ?_; replace V3 : Va x3.drew _ _ _ := V3; replace h1 := h1.drw; replace B0 := Below.drew B0; refine wp_region_held_drew (S := (fun W => W.cell? ⟨w.heap.size, 0, none⟩ = some (.bool s1) ∧ W.cell? ⟨w.heap.size, 1, none⟩ = some (.slice a1 l1 c1) ∧ W.cell? ⟨w.heap.size, 2, none⟩ = some (.slice b1 m1 d1))) (by kernel_rfl) ⟨V3.d0, V3.d1, V3.d2⟩ (fun hHeld => ?_); (obtain ⟨x4, hxd⟩ : ∃ xd, xd = x3.drew := ⟨_, rfl⟩); rw [← hxd] at V3 h1 B0 hHeld ⊢; clear hxd; refine tk 0 rfl hHeld ?_
  simp only [gA, gB, Act.put, gD, gE, gF]; refine tk 3 rfl hHeld ?_; simp only [gA, gB, gC, Act.put, gD, gE, gF]; refine wpAnyH_ready (rs := [1]) (by kernel_rfl) (by simp) ?_; refine AllReadyH.cons rfl (fun K hK => ?_) AllReadyH.nil; simp only [gA, gB, gC]; (go_simp); refine (rplace8 x HX.out _).mono ?_; rintro e x5 ⟨rfl, hw⟩; rw [hw]; clear hw; (try go_wp2_with fail); refine hK.out _ _ ⟨V3.d0, V3.d1, V3.d2⟩ (fun hHeld => ?_); clear hK K; refine wpAnyH_ready (rs := [2]) (by kernel_rfl) (by simp) ?_; refine AllReadyH.cons rfl (fun K hK => ?_) AllReadyH.nil; simp only [gA, gB, gC]; (go_simp); refine (rvalue8 (plc x) (plc_bd HN.out) _).mono ?_; rintro e x6 ⟨sr, ar, lr, cr, zr, br, mr, dr, yr, rfl, hr, hb⟩; replace V3 := Va.after hb V3; replace h1 := Rr.after hb h1; replace B0 := step B0 hb; clear hb; rw [pv8_fv HX.out] at hr; (try go_wp2_with fail); refine hK.out _ _ ⟨V3.d0, V3.d1, V3.d2⟩ (fun hHeld => ?_); clear hK K; refine wpAnyH_ready (rs := [4]) (by kernel_rfl) (by simp) ?_
  refine AllReadyH.cons rfl (fun K hK => ?_) AllReadyH.nil; simp only [gA, gB, gC]; (go_simp); refine (rcompare9 sr ar lr cr zr br mr dr yr (fv x) s1 a1 l1 c1 z1 b1 m1 d1 y1 v _ hr h1 ((sz_fv HX.out.2 HN.out).mono (by omega)) (HT.out 4000 rfl)).mono ?_; rintro e x7 ⟨rfl, hb⟩; replace V3 := Va.after hb V3; replace h1 := Rr.after hb h1; replace hr := Rr.after hb hr; replace B0 := step B0 hb; clear hb; rw [← HC.out]; (try go_wp2_with fail); refine hK.out _ _ ⟨V3.d0, V3.d1, V3.d2⟩ (fun hHeld => ?_); clear hK K; refine tk 5 rfl hHeld ?_; simp only [gA, gB, gC, Act.put, gD, gE, gF]; refine tk 6 rfl hHeld ?_; simp only [gA, gB, gC, Act.put, gD, gE, gF]; refine wpAnyH_done (by kernel_rfl) ?_ _; refine NoPanic.normal ?_; clear hHeld; (go_wp2_with fail)
  go_ret2
  exact ⟨rfl, B0⟩

theorem rcomp8_nan (x : Nat) (h : x < 18446744073709551616) (h2 : 9218868437227405312 < x % 9223372036854775808) (s : Bool) (a : Option Addr) (l c : Nat) (b : Option Addr) (m d : Nat) (w : World) :
    Calls Tryz.prog 27 #[.float .f64 x, .agg #[.bool s, .slice a l c, .slice b m d]] w fun e w' => e = .returned (.tuple #[.int .i64 0, .int .i64 80]) ∧ Below w.heap.size w w' := by
  have B0 : Below w.heap.size w w := Below.refl _ _
  go_enter Tryz.func27, Tryz.ntmps27
  go_wp2_with fail
  refine ent1 w _ _ (Q := fun W => Calls Tryz.prog _ _ W _) ?_
  intro x1 hb hs_x1 V3
  replace B0 := step B0 hb
  clear hb hs_x1
  refine (rnan_yes' x h h2 _).mono ?_
  rintro e x2 ⟨rfl, hw⟩
  rw [hw]
  clear hw
  go_wp2_with fail
  go_ret2
  exact ⟨rfl, B0⟩

theorem whole_cmp (v : Rat) : (v.den = 1 → qcmp v ((qfl v : Int) : Rat) = 0 ∧ v = ((v.num : Int) : Rat)) ∧ (v.den ≠ 1 → qcmp v ((qfl v : Int) : Rat) = 1) := by
  have hd := v.den_pos
  constructor
  · intro h
    have e : v = ((v.num : Int) : Rat) := Rat.ext rfl h
    refine ⟨?_, e⟩
    have q : qfl v = v.num := by unfold qfl; rw [h]; simp
    rw [q, ← e]
    exact cmp3_eq rfl
  · intro h
    refine cmp3_gt ?_
    show qfl v * (v.den : Int) < v.num * ((1 : Nat) : Int)
    have h0 := Int.emod_nonneg v.num (show (v.den : Int) ≠ 0 by omega)
    have e0 := Int.mul_ediv_add_emod v.num (v.den : Int)
    have hne : v.num % (v.den : Int) ≠ 0 := by
      intro g
      apply h
      have dv : (v.den : Int) ∣ v.num := Int.dvd_of_emod_eq_zero g
      have dn : v.den ∣ v.num.natAbs := Int.ofNat_dvd_left.1 dv
      have h1 := Nat.gcd_eq_right dn
      have h2 : Nat.gcd v.num.natAbs v.den = 1 := v.reduced
      omega
    unfold qfl
    rw [Int.mul_comm]
    omega
set_option maxHeartbeats 4000000 in
theorem rint64_8 (x : Nat) (hx : Fr x) (hr : x % 9223372036854775808 < 9218868437227405312) (w : World) :
  Calls Tryz.prog 11 #[.float .f64 x] w fun e w' => e = .returned (.tuple #[.int .i64 (i8v x), .int .i64 (i8e x)]) ∧ Below w.heap.size w w' := by
 have HX : Hid (Fr x ∧ x % 9223372036854775808 < 9218868437227405312) := ⟨hx, hr⟩; clear hx hr; have B0 : Below w.heap.size w w := Below.refl _ _
 go_enter Tryz.func11, Tryz.ntmps11
 (go_wp2_with fail); refine (rof8 x HX.out.1 HX.out.2 w).mono ?_; rintro e x1 ⟨sr, ar, lr, cr, zr, br, mr, dr, yr, rfl, hr, hb⟩; replace B0 := step B0 hb; clear hb; (go_wp2_with fail); refine ent1 x1 _ _ (Q := fun W => Code.wp Tryz.prog _ _ _ W) ?_; intro x2 hb hs_x2 V4; replace hr := Rr.after hb hr; replace B0 := step B0 hb; clear hb hs_x2; have HZ : Hid (Sz 33 (fv x)) := sz_fv HX.out.1.2 HX.out.2
 by_cases hd : (fv x).den = 1
 ·
  have HQ : Hid (qcmp (fv x) ((qfl (fv x) : Int) : Rat) = 0) := ((whole_cmp (fv x)).1 hd).1; have HV : Hid (fv x = (((fv x).num : Int) : Rat)) := ((whole_cmp (fv x)).1 hd).2
  have HG : Hid (Sz 34 ((qfl (fv x) : Int) : Rat)) := by
   refine ⟨?_, one_lt_pw (by omega)⟩
   have h5 : ((qfl (fv x)).natAbs : Int) ≤ ((fv x).num.natAbs : Int) + 1 := by
    have hd0 := (fv x).den_pos; have h6 := Int.mul_ediv_add_emod (fv x).num ((fv x).den : Int); have h7 := Int.emod_nonneg (fv x).num (show ((fv x).den : Int) ≠ 0 by omega); have h8 := Int.emod_lt_of_pos (fv x).num (show (0 : Int) < ((fv x).den : Int) by omega); have h9 := Int.natAbs_ediv_le_natAbs (fv x).num ((fv x).den : Int)
    unfold qfl
    omega
   have h6 := HZ.out.1
   have h7 : pw 33 + 1 ≤ pw 34 := by
    have h8 : pw 34 = pw 33 * pw 1 := pw_add 33 1; (have h9 : pw 1 = 18446744073709551616 := by decide); have h10 := one_lt_pw (n := 33) (by omega); rw [h8, h9]; omega
   show ((qfl (fv x)).natAbs : Int) < pw 34
   omega
  refine wp_region_noPanic ?_; replace V4 : Va x2.drew _ _ _ := V4; replace hr := hr.drw; replace B0 := Below.drew B0; refine wp_region_held_drew (S := (fun W => W.cell? ⟨x1.heap.size, 0, none⟩ = some (.bool sr) ∧ W.cell? ⟨x1.heap.size, 1, none⟩ = some (.slice ar lr cr) ∧ W.cell? ⟨x1.heap.size, 2, none⟩ = some (.slice br mr dr))) (by kernel_rfl) ⟨V4.d0, V4.d1, V4.d2⟩ (fun hHeld => ?_); (obtain ⟨x3, hxd⟩ : ∃ xd, xd = x2.drew := ⟨_, rfl⟩); rw [← hxd] at V4 hr B0 hHeld ⊢; clear hxd; refine tk 0 rfl hHeld ?_; simp only [gA, gB, Act.put, gD, gE, gF]; refine tk 1 rfl hHeld ?_; simp only [gA, gB, gC, Act.put, gD, gE, gF]; refine tk 2 rfl hHeld ?_; simp only [gA, gB, gC, Act.put, gD, gE, gF]; refine tk 3 rfl hHeld ?_; simp only [gA, gB, gC, Act.put, gD, gE, gF]; refine tk 4 rfl hHeld ?_; simp only [gA, gB, gC, Act.put, gD, gE, gF]; refine wpAnyH_ready (rs := [5]) (by kernel_rfl) (by simp) ?_; refine AllReadyH.cons rfl (fun K hK => ?_) AllReadyH.nil
  simp only [gA, gB, gC]; (go_simp); refine (rfloor9 sr ar lr cr zr br mr dr yr (fv x) _ hr (HZ.out.mono (by omega))).mono ?_; rintro e x4 ⟨sg, ag, lg, cg, zg, bg, mg, dg, yg, rfl, hg, hb⟩; replace V4 := Va.after hb V4; replace hr := Rr.after hb hr; replace B0 := step B0 hb; clear hb; (try go_wp2_with fail); refine hK.out _ _ ⟨V4.d0, V4.d1, V4.d2⟩ (fun hHeld => ?_); clear hK K; refine wpAnyH_ready (rs := [6]) (by kernel_rfl) (by simp) ?_; refine AllReadyH.cons rfl (fun K hK => ?_) AllReadyH.nil; simp only [gA, gB, gC]; (go_simp); refine (rcompare9 sr ar lr cr zr br mr dr yr (fv x) sg ag lg cg zg bg mg dg yg ((qfl (fv x) : Int) : Rat) _ hr hg (HZ.out.mono (by omega)) (HG.out.mono (by omega))).mono ?_; rintro e x5 ⟨rfl, hb⟩; replace V4 := Va.after hb V4; replace hr := Rr.after hb hr; replace hg := Rr.after hb hg; replace B0 := step B0 hb; clear hb; rw [HQ.out]; (try go_wp2_with fail); refine hK.out _ _ ⟨V4.d0, V4.d1, V4.d2⟩ (fun hHeld => ?_)
  clear hK K; refine tk 7 rfl hHeld ?_; simp only [gA, gB, gC, Act.put, gD, gE, gF]; refine tk 8 rfl hHeld ?_; simp only [gA, gB, gC, Act.put, gD, gE, gF]; refine wpAnyH_done (by kernel_rfl) ?_ _; refine NoPanic.normal ?_; clear hHeld; clear hg; have c_V4 := V4.d0; have f0_V4 := V4.frozen 0; have d_V4 := V4.d1; have f1_V4 := V4.frozen 1; have e_V4 := V4.d2; have f2_V4 := V4.frozen 2; have l_V4 := V4.lt; have m_V4 := Nat.le_of_lt l_V4; (go_wp2_with fail); have hr2 := hr; rw [HV.out] at hr2; (have HLN : Hid (lr ≤ 1000000) := by have h5 := (hr.len9 (HZ.out.mono (by omega))).1; show _ ≤ _; omega); refine (rint7 sr ar lr cr zr br mr dr yr (fv x).num x5 hr2 HLN.out).mono ?_; rintro e x6 ⟨rfl, hb⟩; replace V4 := Va.after hb V4; replace hr := Rr.after hb hr; replace hr2 := Rr.after hb hr2; replace B0 := step B0 hb; clear hb
  by_cases hi : -9223372036854775808 ≤ (fv x).num ∧ (fv x).num ≤ 9223372036854775807
  ·
   have HI : Hid (i8v x = i64v (fv x).num ∧ i8e x = 0) := by
    have h5 := i8_in hd hi; exact ⟨by rw [h5.1]; unfold i64v; rw [if_pos hi], h5.2⟩
   (have hb2 : i64b (fv x).num = true := by unfold i64b; simpa using hi); rw [hb2]; clear hi hd hb2; (go_wp2_with fail)
   go_ret2
   exact ⟨by rw [HI.out.1, HI.out.2]; rfl, B0⟩
  ·
   have HI : Hid (i8v x = 0 ∧ i8e x = 5) := i8_out hd hi; (have hb2 : i64b (fv x).num = false := by unfold i64b; simpa using hi); rw [hb2]; clear hi hd hb2; (go_wp2_with fail)
   go_ret2
   exact ⟨by rw [HI.out.1, HI.out.2]; rfl, B0⟩
 ·
  have HQ : Hid (qcmp (fv x) ((qfl (fv x) : Int) : Rat) = 1) := (whole_cmp (fv x)).2 hd; have HI : Hid (i8v x = 0 ∧ i8e x = 80) := i8_part hd
  have HG : Hid (Sz 34 ((qfl (fv x) : Int) : Rat)) := by
   refine ⟨?_, one_lt_pw (by omega)⟩
   have h5 : ((qfl (fv x)).natAbs : Int) ≤ ((fv x).num.natAbs : Int) + 1 := by
    have hd0 := (fv x).den_pos; have h6 := Int.mul_ediv_add_emod (fv x).num ((fv x).den : Int); have h7 := Int.emod_nonneg (fv x).num (show ((fv x).den : Int) ≠ 0 by omega); have h8 := Int.emod_lt_of_pos (fv x).num (show (0 : Int) < ((fv x).den : Int) by omega); have h9 := Int.natAbs_ediv_le_natAbs (fv x).num ((fv x).den : Int)
    unfold qfl
    omega
   have h6 := HZ.out.1
   have h7 : pw 33 + 1 ≤ pw 34 := by
    have h8 : pw 34 = pw 33 * pw 1 := pw_add 33 1; (have h9 : pw 1 = 18446744073709551616 := by decide); have h10 := one_lt_pw (n := 33) (by omega); rw [h8, h9]; omega
   show ((qfl (fv x)).natAbs : Int) < pw 34
   omega
  clear hd; refine wp_region_noPanic ?_; replace V4 : Va x2.drew _ _ _ := V4; replace hr := hr.drw; replace B0 := Below.drew B0; refine wp_region_held_drew (S := (fun W => W.cell? ⟨x1.heap.size, 0, none⟩ = some (.bool sr) ∧ W.cell? ⟨x1.heap.size, 1, none⟩ = some (.slice ar lr cr) ∧ W.cell? ⟨x1.heap.size, 2, none⟩ = some (.slice br mr dr))) (by kernel_rfl) ⟨V4.d0, V4.d1, V4.d2⟩ (fun hHeld => ?_); (obtain ⟨x3, hxd⟩ : ∃ xd, xd = x2.drew := ⟨_, rfl⟩); rw [← hxd] at V4 hr B0 hHeld ⊢; clear hxd; refine tk 0 rfl hHeld ?_; simp only [gA, gB, Act.put, gD, gE, gF]; refine tk 1 rfl hHeld ?_; simp only [gA, gB, gC, Act.put, gD, gE, gF]; refine tk 2 rfl hHeld ?_; simp only [gA, gB, gC, Act.put, gD, gE, gF]; refine tk 3 rfl hHeld ?_; simp only [gA, gB, gC, Act.put, gD, gE, gF]; refine tk 4 rfl hHeld ?_; simp only [gA, gB, gC, Act.put, gD, gE, gF]; refine wpAnyH_ready (rs := [5]) (by kernel_rfl) (by simp) ?_; refine AllReadyH.cons rfl (fun K hK => ?_) AllReadyH.nil
  simp only [gA, gB, gC]; (go_simp); refine (rfloor9 sr ar lr cr zr br mr dr yr (fv x) _ hr (HZ.out.mono (by omega))).mono ?_; rintro e x4 ⟨sg, ag, lg, cg, zg, bg, mg, dg, yg, rfl, hg, hb⟩; replace V4 := Va.after hb V4; replace hr := Rr.after hb hr; replace B0 := step B0 hb; clear hb; (try go_wp2_with fail); refine hK.out _ _ ⟨V4.d0, V4.d1, V4.d2⟩ (fun hHeld => ?_); clear hK K; refine wpAnyH_ready (rs := [6]) (by kernel_rfl) (by simp) ?_; refine AllReadyH.cons rfl (fun K hK => ?_) AllReadyH.nil; simp only [gA, gB, gC]; (go_simp); refine (rcompare9 sr ar lr cr zr br mr dr yr (fv x) sg ag lg cg zg bg mg dg yg ((qfl (fv x) : Int) : Rat) _ hr hg (HZ.out.mono (by omega)) (HG.out.mono (by omega))).mono ?_; rintro e x5 ⟨rfl, hb⟩; replace V4 := Va.after hb V4; replace hr := Rr.after hb hr; replace hg := Rr.after hb hg; replace B0 := step B0 hb; clear hb; rw [HQ.out]; (try go_wp2_with fail); refine hK.out _ _ ⟨V4.d0, V4.d1, V4.d2⟩ (fun hHeld => ?_)
  clear hK K; refine tk 7 rfl hHeld ?_; simp only [gA, gB, gC, Act.put, gD, gE, gF]; refine tk 8 rfl hHeld ?_; simp only [gA, gB, gC, Act.put, gD, gE, gF]; refine wpAnyH_done (by kernel_rfl) ?_ _; refine NoPanic.normal ?_; clear hHeld; clear hg; (go_wp2_with fail)
  go_ret2
  exact ⟨by rw [HI.out.1, HI.out.2]; rfl, B0⟩

theorem rint64_8no (x : Nat) (h : x < 18446744073709551616) (hr : 9218868437227405312 ≤ x % 9223372036854775808) (w : World) :
  Calls Tryz.prog 11 #[.float .f64 x] w fun e w' => e = .returned (.tuple #[.int .i64 0, .int .i64 80]) ∧ Below w.heap.size w w' := by
 have B0 : Below w.heap.size w w := Below.refl _ _
 go_enter Tryz.func11, Tryz.ntmps11
 (go_wp2_with fail); refine (rof8_no x h hr w).mono ?_; rintro e x1 ⟨sr, ar, lr, cr, zr, br, mr, dr, yr, rfl, hq, hb⟩; replace B0 := step B0 hb; clear hb; (go_wp2_with fail); refine ent1 x1 _ _ (Q := fun W => Code.wp Tryz.prog _ _ _ W) ?_; intro x2 hb hs_x2 V4; replace hq := Rr.after hb hq; replace B0 := step B0 hb; clear hb hs_x2; refine wp_region_noPanic ?_; replace V4 : Va x2.drew _ _ _ := V4; replace hq := hq.drw; replace B0 := Below.drew B0; refine wp_region_held_drew (S := (fun W => W.cell? ⟨x1.heap.size, 0, none⟩ = some (.bool sr) ∧ W.cell? ⟨x1.heap.size, 1, none⟩ = some (.slice ar lr cr) ∧ W.cell? ⟨x1.heap.size, 2, none⟩ = some (.slice br mr dr))) (by kernel_rfl) ⟨V4.d0, V4.d1, V4.d2⟩ (fun hHeld => ?_); (obtain ⟨x3, hxd⟩ : ∃ xd, xd = x2.drew := ⟨_, rfl⟩); rw [← hxd] at V4 hq B0 hHeld ⊢; clear hxd; refine tk 0 rfl hHeld ?_; simp only [gA, gB, Act.put, gD, gE, gF]; refine tk 1 rfl hHeld ?_; simp only [gA, gB, gC, Act.put, gD, gE, gF]
 refine tk 2 rfl hHeld ?_; simp only [gA, gB, gC, Act.put, gD, gE, gF]; refine wpAnyH_take (i := 3) (v := undef) rfl (by kernel_rfl) (by kernel_rfl) (by kernel_rfl) (fun _ _ _ h => h) (Or.inr ⟨by rfl, rfl⟩) hHeld ?_; simp only [gA, gB, gC, Act.put, gD, gE, gF]; refine wpAnyH_take (i := 4) (v := undef) rfl (by kernel_rfl) (by kernel_rfl) (by kernel_rfl) (fun _ _ _ h => h) (Or.inr ⟨by rfl, rfl⟩) hHeld ?_; simp only [gA, gB, gC, Act.put, gD, gE, gF]; refine wpAnyH_take (i := 5) (v := undef) rfl (by kernel_rfl) (by kernel_rfl) (by kernel_rfl) (fun _ _ _ h => h) (Or.inr ⟨by rfl, rfl⟩) hHeld ?_; simp only [gA, gB, gC, Act.put, gD, gE, gF]; refine wpAnyH_take (i := 6) (v := undef) rfl (by kernel_rfl) (by kernel_rfl) (by kernel_rfl) (fun _ _ _ h => h) (Or.inr ⟨by rfl, rfl⟩) hHeld ?_; simp only [gA, gB, gC, Act.put, gD, gE, gF]; refine wpAnyH_take (i := 7) (v := undef) rfl (by kernel_rfl) (by kernel_rfl) (by kernel_rfl) (fun _ _ _ h => h) (Or.inr ⟨by rfl, rfl⟩) hHeld ?_
 simp only [gA, gB, gC, Act.put, gD, gE, gF]; refine tk 8 rfl hHeld ?_; simp only [gA, gB, gC, Act.put, gD, gE, gF]; refine wpAnyH_done (by kernel_rfl) ?_ _; refine NoPanic.normal ?_; clear hHeld; (go_wp2_with fail)
 go_ret2
 exact ⟨rfl, B0⟩
end Go.Proofs.YtjlodljgfjjclaaGreat
