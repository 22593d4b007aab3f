/-
  awake of the statements of layer 8.
-/
import Derived.Test.YtogabmggdcefaaaGreatTk
import Derived.Test.YtogabmggdcefaaaGreatAl
import Derived.Test.YtogabmggdcefaaaGreatRf1
namespace Go.Proofs.YtogabmggdcefaaaGreat
open Go.RowKit Go.Shelf
set_option linter.unusedVariables false

theorem K8_at (a b : Nat) (h : a + b = 1074) : K8 = 2 ^ a * 2 ^ b := by
  have := pow_shift 1 (a := 0) (u := a) (b := b) (c := 1074) (by omega)
  rw [← K8_eq, Nat.pow_zero, Nat.one_mul, Nat.one_mul] at this
  exact this
theorem pv_at {v : Rat} {N D : Nat} (hN : v.num.natAbs = N) (hD : v.den = D) (e q rest b k p : Nat) (h1 : b + e = 1074) (h2 : N * 2 ^ b = q * D + rest) (hr : rest < D) (hq : e = 0 ∨ 4503599627370496 ≤ q) (hq2 : q < 9007199254740992) (he : e ≤ 2045) (hk : e * 4503599627370496 + q = k)
    (hp : (p = 0 ∧ rest = 0) ∨ (p = 3 ∧ D < 2 * rest)) : Pv v k p := by
  unfold Pv
  rw [hN, hD, K8_at b e h1, ← hk]
  have := @pl_of (N * (2 ^ b * 2 ^ e)) D e q rest e D (by omega) hq hq2 he rfl (by rw [← Nat.mul_assoc, h2]) hr
  rcases hp with ⟨rfl, h⟩ | ⟨rfl, h⟩
  · exact this.1 h
  · exact this.2.2.2 h
theorem pv_34 : Pv (Rat.divInt (-3) 4) 4604930618986332160 0 :=
  pv_at (N := 3) (D := 4) (by decide +kernel) (by decide +kernel) 1021 6755399441055744 0 53 _ _ rfl (by decide +kernel) (by decide) (by decide) (by decide) (by decide) (by decide +kernel) (.inl ⟨rfl, rfl⟩)
theorem pv_10 : Pv (Rat.divInt 1 10) 4591870180066957721 3 :=
  pv_at (N := 1) (D := 10) (by decide +kernel) (by decide +kernel) 1018 7205759403792793 6 56 _ _ rfl (by decide +kernel) (by decide) (by decide) (by decide) (by decide) (by decide +kernel) (.inr ⟨rfl, by decide⟩)
theorem fz_half : fz 4602678819172646912 = ((4503599627370496 * 2 ^ 1021 : Nat) : Int) := by
  have h := fi_at 1021 4503599627370496 (.inr (by decide)) (by decide)
  rw [show 1021 * 4503599627370496 + 4503599627370496 = 4602678819172646912 by decide] at h
  rw [fz_pos (by decide), h]
theorem half_cmp : qcmp (fv 4602678819172646912) (Rat.divInt 1 2) = 0 := by
  rw [qcmp_fv, fz_half]
  have n1 : (Rat.divInt 1 2).num = 1 := by decide +kernel
  have n2 : (Rat.divInt 1 2).den = 2 := by decide +kernel
  have hk := K8_at 53 1021 rfl
  rw [n1, n2, hk]
  refine cmp3_eq ?_
  generalize (2 : Nat) ^ 1021 = A
  rw [show (2 : Nat) ^ 53 = 9007199254740992 by decide, Int.natCast_mul, Int.natCast_mul]
  generalize (A : Int) = B
  show (4503599627370496 : Int) * B * 2 = 1 * (9007199254740992 * B)
  omega
set_option maxHeartbeats 4000000 in
theorem awake8 (w : World) :
    Calls Tryz.prog 14 #[] w fun e w' => e = .returned (.bool true) ∧ Below w.heap.size w w' := by
  (have q1 : (FloatKind.f64.format.order 13828302655841107968 13828302655841107968 == some .eq) = true := by rw [order_self (by decide)]; decide); (have q2 : (FloatKind.f64.format.order 4591870180066957722 4591870180066957722 == some .eq) = true := by rw [order_self (by decide)]; decide); (have HE : Hid (exw (Rat.divInt (-3) 4) 4604930618986332160 0 = 13828302655841107968 ∧ exb 0 = true ∧ nrw (Rat.divInt 1 10) 4591870180066957721 3 = 4591870180066957722) := by show _ ∧ _; decide +kernel); have B0 : Below w.heap.size w w := Below.refl _ _
  go_enter Tryz.func14, Tryz.ntmps14
  (go_wp2_with fail); refine (of8 4602678819172646912 (by decide) (by decide) w).mono ?_; rintro e x1 ⟨s1, a1, l1, c1, z1, b1, m1, d1, y1, rfl, h1, hb⟩; replace B0 := step B0 hb; clear hb; (go_wp2_with fail); refine ent1 x1 _ _ (Q := fun W => Calls Tryz.prog _ _ W _) ?_; intro x2 hb hs_x2 V1; replace h1 := Rt.after hb h1; replace B0 := step B0 hb; clear hb hs_x2; refine (ratioOf8 (-3) 4 (by decide) (by decide) (by decide) (by decide) (by decide) x2).mono ?_; rintro e x3 ⟨spa, apa, lpa, cpa, zpa, bpa, mpa, dpa, ypa, rfl, hpa, hNa, hb⟩; replace V1 := Va.after hb V1; replace h1 := Rt.after hb h1; replace B0 := step B0 hb; clear hb; (go_wp2_with fail); refine (oflaw8 spa apa lpa cpa zpa bpa mpa dpa ypa (Rat.divInt (-3) 4) x3 hpa hNa).mono ?_; rintro e x4 ⟨sra, ara, lra, cra, zra, bra, mra, dra, yra, rfl, hra, hb⟩; replace V1 := Va.after hb V1; replace h1 := Rt.after hb h1; replace hpa := Rr.after hb hpa; replace B0 := step B0 hb; clear hb; (go_wp2_with fail)
  clear hpa; refine (exact8 sra ara lra cra zra bra mra dra yra (Rat.divInt (-3) 4) 4604930618986332160 0 pv_34 x4 hra).mono ?_; rintro e x5 ⟨rfl, hb⟩; replace V1 := Va.after hb V1; replace h1 := Rt.after hb h1; replace hra := Rt.after hb hra; replace B0 := step B0 hb; clear hb; rw [HE.out.1, HE.out.2.1]; (go_wp2_with fail); clear hra; refine wp_region_noPanic ?_; replace V1 : Va x5.drew _ _ _ := V1; replace h1 := h1.drw; replace B0 := Below.drew B0; refine wp_region_held_drew (S := (fun W => W.cell? ⟨x1.heap.size, 0, none⟩ = some (.bool s1) ∧ W.cell? ⟨x1.heap.size, 1, none⟩ = some (.slice a1 l1 c1) ∧ W.cell? ⟨x1.heap.size, 2, none⟩ = some (.slice b1 m1 d1))) (by kernel_rfl) ⟨V1.d0, V1.d1, V1.d2⟩ (fun hHeld => ?_); (obtain ⟨x6, hxd⟩ : ∃ xd, xd = x5.drew := ⟨_, rfl⟩); rw [← hxd] at V1 h1 B0 hHeld ⊢; clear hxd; refine tk 0 rfl hHeld ?_; simp only [gA, gB, Act.put, gD, gE, gF]; refine tk 1 rfl hHeld ?_; simp only [gA, gB, gC, Act.put, gD, gE, gF]
  refine tk 2 rfl hHeld ?_; simp only [gA, gB, gC, Act.put, gD, gE, gF]; refine tk 3 rfl hHeld ?_; simp only [gA, gB, gC, Act.put, gD, gE, gF]; refine wpAnyH_ready (rs := [4]) (by kernel_rfl) (by simp) ?_; refine AllReadyH.cons rfl (fun K hK => ?_) AllReadyH.nil; simp only [gA, gB, gC]; (go_simp); refine (ratioOf8 1 2 (by decide) (by decide) (by decide) (by decide) (by decide) _).mono ?_; rintro e x7 ⟨spb, apb, lpb, cpb, zpb, bpb, mpb, dpb, ypb, rfl, hpb, hNb, hb⟩; replace V1 := Va.after hb V1; replace h1 := Rt.after hb h1; replace B0 := step B0 hb; clear hb; (try go_wp2_with fail); refine hK.out _ _ ⟨V1.d0, V1.d1, V1.d2⟩ (fun hHeld => ?_); clear hK K; refine wpAnyH_ready (rs := [5]) (by kernel_rfl) (by simp) ?_; refine AllReadyH.cons rfl (fun K hK => ?_) AllReadyH.nil; simp only [gA, gB, gC]; (go_simp); refine (oflaw8 spb apb lpb cpb zpb bpb mpb dpb ypb (Rat.divInt 1 2) _ hpb hNb).mono ?_; rintro e x8 ⟨srb, arb, lrb, crb, zrb, brb, mrb, drb, yrb, rfl, hrb, hb⟩
  replace V1 := Va.after hb V1; replace h1 := Rt.after hb h1; replace hpb := Rr.after hb hpb; replace B0 := step B0 hb; clear hb; (try go_wp2_with fail); refine hK.out _ _ ⟨V1.d0, V1.d1, V1.d2⟩ (fun hHeld => ?_); clear hK K; refine wpAnyH_ready (rs := [6]) (by kernel_rfl) (by simp) ?_; refine AllReadyH.cons rfl (fun K hK => ?_) AllReadyH.nil; simp only [gA, gB, gC]; (go_simp); refine (qcompare_any s1 a1 l1 c1 z1 b1 m1 d1 y1 (fv 4602678819172646912) srb arb lrb crb zrb brb mrb drb yrb (Rat.divInt 1 2) _ h1 hrb).mono ?_; rintro e x9 ⟨rfl, hb⟩; replace V1 := Va.after hb V1; replace h1 := Rt.after hb h1; replace hrb := Rt.after hb hrb; replace B0 := step B0 hb; clear hb; rw [half_cmp]; (try go_wp2_with fail); refine hK.out _ _ ⟨V1.d0, V1.d1, V1.d2⟩ (fun hHeld => ?_); clear hK K; refine tk 7 rfl hHeld ?_; simp only [gA, gB, gC, Act.put, gD, gE, gF]; refine tk 8 rfl hHeld ?_; simp only [gA, gB, gC, Act.put, gD, gE, gF]; refine tk 9 rfl hHeld ?_; simp only [gA, gB, gC, Act.put, gD, gE, gF]
  refine tk 10 rfl hHeld ?_; simp only [gA, gB, gC, Act.put, gD, gE, gF]; refine tk 11 rfl hHeld ?_; simp only [gA, gB, gC, Act.put, gD, gE, gF]; refine tk 12 rfl hHeld ?_; simp only [gA, gB, gC, Act.put, gD, gE, gF]; refine tk 13 rfl hHeld ?_; simp only [gA, gB, gC, Act.put, gD, gE, gF]; refine wpAnyH_take (i := 14) (v := .bool true) rfl (by kernel_rfl) (by kernel_rfl) (by kernel_rfl) (fun _ _ _ h => h) (Or.inl ⟨by rfl, ?_⟩) hHeld ?_
  · (intro W hSw; (try dsimp only at hSw); go_simp; first | rfl | (rw [q1]) | skip)
  simp only [gA, gB, gC, Act.put, gD, gE, gF]; refine tk 15 rfl hHeld ?_; simp only [gA, gB, gC, Act.put, gD, gE, gF]; refine tk 16 rfl hHeld ?_; simp only [gA, gB, gC, Act.put, gD, gE, gF]; refine wpAnyH_ready (rs := [17]) (by kernel_rfl) (by simp) ?_; refine AllReadyH.cons rfl (fun K hK => ?_) AllReadyH.nil; simp only [gA, gB, gC]; (go_simp); refine (ratioOf8 1 10 (by decide) (by decide) (by decide) (by decide) (by decide) _).mono ?_; rintro e x10 ⟨spg, apg, lpg, cpg, zpg, bpg, mpg, dpg, ypg, rfl, hpg, hNg, hb⟩; replace V1 := Va.after hb V1; replace h1 := Rt.after hb h1; replace hrb := Rt.after hb hrb; replace B0 := step B0 hb; clear hb; (try go_wp2_with fail); refine hK.out _ _ ⟨V1.d0, V1.d1, V1.d2⟩ (fun hHeld => ?_); clear hK K; refine wpAnyH_ready (rs := [18]) (by kernel_rfl) (by simp) ?_; refine AllReadyH.cons rfl (fun K hK => ?_) AllReadyH.nil; simp only [gA, gB, gC]; (go_simp); refine (oflaw8 spg apg lpg cpg zpg bpg mpg dpg ypg (Rat.divInt 1 10) _ hpg hNg).mono ?_
  rintro e x11 ⟨srg, arg, lrg, crg, zrg, brg, mrg, drg, yrg, rfl, hrg, hb⟩; replace V1 := Va.after hb V1; replace h1 := Rt.after hb h1; replace hrb := Rt.after hb hrb; replace hpg := Rr.after hb hpg; replace B0 := step B0 hb; clear hb; (try go_wp2_with fail); refine hK.out _ _ ⟨V1.d0, V1.d1, V1.d2⟩ (fun hHeld => ?_); clear hK K; refine wpAnyH_ready (rs := [19]) (by kernel_rfl) (by simp) ?_; refine AllReadyH.cons rfl (fun K hK => ?_) AllReadyH.nil; simp only [gA, gB, gC]; (go_simp); refine (nearest8 srg arg lrg crg zrg brg mrg drg yrg (Rat.divInt 1 10) 4591870180066957721 3 pv_10 _ hrg).mono ?_; rintro e x12 ⟨rfl, hb⟩; replace V1 := Va.after hb V1; replace h1 := Rt.after hb h1; replace hrb := Rt.after hb hrb; replace hrg := Rt.after hb hrg; replace B0 := step B0 hb; clear hb; rw [HE.out.2.2]; (try go_wp2_with fail); refine hK.out _ _ ⟨V1.d0, V1.d1, V1.d2⟩ (fun hHeld => ?_); clear hK K; refine wpAnyH_take (i := 20) (v := .bool true) rfl (by kernel_rfl) (by kernel_rfl) (by kernel_rfl) (fun _ _ _ h => h) (Or.inl ⟨by rfl, ?_⟩) hHeld ?_
  · (intro W hSw; (try dsimp only at hSw); go_simp; first | rfl | (rw [q2]) | skip)
  simp only [gA, gB, gC, Act.put, gD, gE, gF]; refine tk 21 rfl hHeld ?_; simp only [gA, gB, gC, Act.put, gD, gE, gF]; refine tk 22 rfl hHeld ?_; simp only [gA, gB, gC, Act.put, gD, gE]; refine wpAnyH_done (by kernel_rfl) ?_ _; refine NoPanic.normal ?_; clear hHeld; (go_wp2_with fail)
  go_ret
  exact ⟨rfl, B0⟩
end Go.Proofs.YtogabmggdcefaaaGreat
