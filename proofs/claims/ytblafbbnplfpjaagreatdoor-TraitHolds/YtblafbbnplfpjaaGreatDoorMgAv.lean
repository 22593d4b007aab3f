import Derived.Test.YtblafbbnplfpjaaGreatDoorMgAq
import Derived.Test.YtblafbbnplfpjaaGreatDoorHoB
import Derived.Test.YtblafbbnplfpjaaGreatDoorMgAa
import Derived.Test.YtblafbbnplfpjaaGreatDoorMgAt
import Derived.Test.YtblafbbnplfpjaaGreatDoorMgAu
import Derived.Test.YtblafbbnplfpjaaGreatDoorCards
import Derived.ProofKit
import Derived.OpenShut
import Derived.ShutString
import Derived.ChangeOld
import Derived.SizedLaws
import Derived.SliceStrings
import Derived.Deep.Slices
import Derived.Lib.SmallJoins
import Derived.Lib.LaidTab
import Derived.Stop.LaidErr
namespace Go.Proofs.YtblafbbnplfpjaaGreatDoor
open Go.RowKit Go.Shelf
set_option linter.unusedVariables false
set_option linter.unusedSimpArgs false

set_option maxHeartbeats 8000000 in
theorem rHolds_any (ns : List Nd) (a : Option Addr) (cap : Nat) (a1 : Option Addr) (c1 : Nat) (a2 : Option Addr) (c2 : Nat) (f : Fx) (w : World) (hL : Le elN w a ns.length ns) (h64 : ∀ n ∈ ns, N64 n) (hf : Lf w a1 c1 a2 c2 f)  :
    Calls Tryz.prog 16 #[.slice a ns.length cap, fxv a1 c1 a2 c2 f] w fun e w' => e = .returned (.tuple #[.bool (hoB ns f), .int .i64 (hoE ns f)]) ∧ Below w.heap.size w w' := by
  have HL : Hid (Le elN w a ns.length ns) := hL
  have H6 : Hid (∀ n ∈ ns, N64 n) := h64
  have HF : Hid (Lf w a1 c1 a2 c2 f) := hf
  obtain ⟨RB, hRB⟩ : ∃ R, hoB ns f = R := ⟨_, rfl⟩
  obtain ⟨RE, hRE⟩ : ∃ R, hoE ns f = R := ⟨_, rfl⟩
  have HRB : Hid (hoB ns f = RB) := hRB
  have HRE : Hid (hoE ns f = RE) := hRE
  rw [hRB, hRE]
  clear hL h64 hf hRB hRE
  obtain ⟨byr, lin, am, dg, qt⟩ := f
  dsimp only [fxv] at *
  have C1 := fun W h => rchk13_any ns a cap W H6.out h
  have C2 := fun W h1 h2 => rfit_any byr lin a1 c1 a2 c2 am dg qt W h1 h2
  rcases Classical.em (Cond wdB ns) with hc | hc
  rotate_left
  · have e1 : Hid (RB = false ∧ RE = 131) := ⟨by rw [← HRB.out]; simp [hoB, hc], by rw [← HRE.out]; simp [hoE, hc]⟩
    rw [ckE_no hc] at C1
    go_enter Tryz.func16, Tryz.ntmps16
    go_upto_region 1 with fail
    refine ent1 w _ _ (Q := fun W => Code.wp _ _ _ _ W) ?_
    intro W1 hb1 hs1 V1
    have D1 := C1 W1 (HL.out.after hb1)
    go_wp2_with fail
    refine D1.mono ?_
    rintro e W2 ⟨rfl, hb2⟩
    go_wp2_with fail
    go_ret2
    exact ⟨by rw [e1.out.1, e1.out.2]; rfl, step hb1 hb2⟩
  rw [ckE_ok hc] at C1
  have HC : Hid (Cond wdB ns) := hc
  rcases Classical.em (FtOk byr lin am dg qt) with hf | hf
  rotate_left
  · have e1 : Hid (RB = false ∧ RE = 141) := ⟨by rw [← HRB.out]; simp [hoB, Fx.Ok, hf], by rw [← HRE.out]; simp [hoE, hc, ftE_no hf]⟩
    rw [ftE_no hf] at C2
    clear hc
    go_enter Tryz.func16, Tryz.ntmps16
    go_upto_region 1 with fail
    refine ent1 w _ _ (Q := fun W => Code.wp _ _ _ _ W) ?_
    intro W1 hb1 hs1 V1
    have D1 := C1 W1 (HL.out.after hb1)
    go_wp2_with fail
    refine D1.mono ?_
    rintro e W2 ⟨rfl, hb2⟩
    have V2 := V1.after hb2
    have v0 := V2.f0
    have v1 := V2.f1
    have v2 := V2.f2
    have v3 := V2.f3
    have v4 := V2.f4
    have D2 := C2 W2 (HF.out.l1.after (step hb1 hb2)) (HF.out.l2.after (step hb1 hb2))
    clear D1
    go_wp2_with fail
    refine D2.mono ?_
    rintro e W3 ⟨rfl, hb3⟩
    go_wp2_with fail
    go_ret2
    exact ⟨by rw [e1.out.1, e1.out.2]; rfl, step (step hb1 hb2) hb3⟩
  rw [ftE_ok hf] at C2
  have HFT : Hid (FtOk byr lin am dg qt) := hf
  have e1 : Hid (RB = hoV ns (Fx.vf ⟨byr, lin, am, dg, qt⟩) ∧ RE = 0) := ⟨by rw [← HRB.out]; simp [hoB, hc, Fx.Ok, hf], by rw [← HRE.out]; simp [hoE, hc, ftE_ok hf]⟩
  clear hc hf
  go_enter Tryz.func16, Tryz.ntmps16
  go_upto_region 1 with fail
  refine ent1 w _ _ (Q := fun W => Code.wp _ _ _ _ W) ?_
  intro W1 hb1 hs1 V1
  have D1 := C1 W1 (HL.out.after hb1)
  go_wp2_with fail
  refine D1.mono ?_
  rintro e W2 ⟨rfl, hb2⟩
  have V2 := V1.after hb2
  have v0 := V2.f0
  have v1 := V2.f1
  have v2 := V2.f2
  have v3 := V2.f3
  have v4 := V2.f4
  have D2 := C2 W2 (HF.out.l1.after (step hb1 hb2)) (HF.out.l2.after (step hb1 hb2))
  clear D1 C1 C2
  go_wp2_with fail
  refine D2.mono ?_
  rintro e W3 ⟨rfl, hb3⟩
  have V0 := V2.after hb3
  have B0 := step (step hb1 hb2) hb3
  clear D2 v0 v1 v2 v3 v4 V2 V1 hb1 hb2 hb3 hs1
  rcases Nat.eq_zero_or_pos ns.length with h0 | h0
  · have hn0 : ((ns.length : Int) == 0) = true := by rw [h0]; rfl
    have e2 : Hid (RB = true ∧ RE = 0) := ⟨by rw [e1.out.1, List.length_eq_zero_iff.1 h0, hoV_nil], e1.out.2⟩
    go_wp2_with fail
    go_ret2
    exact ⟨by rw [e2.out.1, e2.out.2]; rfl, B0⟩
  have hne : ns ≠ [] := fun h => by rw [h] at h0; exact absurd h0 (Nat.lt_irrefl _)
  have hn0 : ((ns.length : Int) == 0) = false := by simp; omega
  have D3 := of13_any ns a cap W3 H6.out (HL.out.after B0)
  clear h0
  go_wp2_with fail
  refine D3.mono ?_
  rintro e W4 ⟨hb4, ⟨t, rfl, hno⟩ | ⟨n, k, t, rfl, he, ok, hle, hr⟩⟩
  · exact absurd HC.out (hno.resolve_left hne)
  · obtain ⟨t, ts0, kts, e0, htn, htl, hLk, hP, hK, hZ⟩ := hr
    cases e0
    obtain ⟨tn, ta, tl, tc⟩ := t
    dsimp only at htn htl hLk hP
    subst htn
    have HR4 : Hid (Rtw W4 (fun b => W3.heap.size ≤ b) (.cons tn k .nil) [⟨tn, ta, tl, tc⟩]) := ⟨_, [], kts, rfl, rfl, htl, hLk, hP, hK, rfl⟩
    have HE : Hid (ns = (Fo.cons tn k .nil).flat ∧ (Fo.cons tn k .nil).Ok wdB 0 1 ∧ ns.length ≤ 64) := ⟨he, ok, hle⟩
    have HEV : Hid (RB = val (Fx.vf ⟨byr, lin, am, dg, qt⟩) tn (k.ev (Fx.vf ⟨byr, lin, am, dg, qt⟩))) := by
      show _ = _
      rw [e1.out.1, hoV_eq he ok]
    have V0 := V0.after hb4
    have B4 := step B0 hb4
    have HV0 : Hid (Va W4 w.heap.size 25 #[.slice a1 byr.length c1, .slice a2 lin.length c2, .int .i64 am, .int .i64 dg, .int .i64 qt]) := V0
    clear V0 hb4 D3 he ok hle hLk hP hK hZ htl B0
    go_upto_region 8 with fail
    refine ent1 W4 _ _ (Q := fun W => Code.wp _ _ _ _ W) ?_
    intro W5 hb5 hs5 V6
    have V0 := HV0.out.after hb5
    have B5 := step B4 hb5
    have D4 := rholds_any a1 c1 a2 c2 ⟨byr, lin, am, dg, qt⟩ (fun b => W3.heap.size ≤ b) HFT.out HFT.out.1.1 HFT.out.2.1.1 16 1 rfl tn k 0 ⟨tn, ta, tl, tc⟩ W5 HE.out.2.1 (fun m hm => H6.out m (by rw [HE.out.1]; exact hm)) (by have h9 := HE.out.2.2; rw [HE.out.1] at h9; simp only [Fo.flat, List.length_cons, List.append_nil] at h9; omega) (Rtw.imp (fun b hb hp => ⟨hp, hb5.block b hb⟩) HR4.out) (HF.out.after B5)
    dsimp only [fxv, tvT, cT] at D4
    have g0 := V6.t0
    have g1 := V6.t1
    have g2 := V6.t2
    have g3 := V6.t3
    have g4 := V6.t4
    have g5 := V6.t5
    have g6 := V6.t6
    have v0 := V0.f0
    have v1 := V0.f1
    have v2 := V0.f2
    have v3 := V0.f3
    have v4 := V0.f4
    clear V0 V6 hb5 hs5 HR4 HV0
    go_wp2_with fail
    refine D4.mono ?_
    rintro e W6 ⟨rfl, hb6⟩
    have B6 := step B5 hb6
    clear g0 g1 g2 g3 g4 g5 g6 v0 v1 v2 v3 v4 D4 hb6
    go_wp2_with fail
    go_ret2
    exact ⟨by rw [HEV.out, e1.out.2]; rfl, B6⟩
end Go.Proofs.YtblafbbnplfpjaaGreatDoor
namespace Go.Proofs.YtblafbbnplfpjaaGreatDoor
open Go.RowKit Go.Shelf
set_option linter.unusedVariables false

set_option maxRecDepth 20000 in
set_option maxHeartbeats 16000000 in
theorem traitHolds_walk (ns : List Nd) (xa : Option Addr) (ca : Nat) (a1 : Option Addr) (c1 : Nat) (a2 : Option Addr) (c2 : Nat) (f : Fx) (w : World) (hA : Le elN w xa ns.length ns) (h6 : ∀ n ∈ ns, N64 n) (hn : xa = none → ns.length = 0 ∧ ca = 0) (hl : ns.length ≤ 5000000000000)
  (hf : Lf w a1 c1 a2 c2 f) (hn1 : a1 = none → f.byr.length = 0 ∧ c1 = 0) (hn2 : a2 = none → f.lin.length = 0 ∧ c2 = 0) (hl1 : f.byr.length ≤ 9000000000000) (hl2 : f.lin.length ≤ 9000000000000) (hT : Tn w) :
  Calls Tryz.prog 4 #[.slice xa ns.length ca, fxv a1 c1 a2 c2 f] w fun e w' => e = .returned (.bool true) ∧ Below w.heap.size w w' := by
 have HA : Hid (Le elN w xa ns.length ns) := hA; have H6 : Hid (∀ n ∈ ns, N64 n) := h6; have HF : Hid (Lf w a1 c1 a2 c2 f) := hf; have HT : Hid (Tn w) := hT; have HN : Hid ((xa = none → ns.length = 0 ∧ ca = 0) ∧ ns.length ≤ 5000000000000) := ⟨hn, hl⟩; have HN1 : Hid ((a1 = none → f.byr.length = 0 ∧ c1 = 0) ∧ (a2 = none → f.lin.length = 0 ∧ c2 = 0)) := ⟨hn1, hn2⟩; have HN2 : Hid (f.byr.length ≤ 9000000000000 ∧ f.lin.length ≤ 9000000000000) := ⟨hl1, hl2⟩; clear hA h6 hn hl hf hn1 hn2 hl1 hl2 hT
 dsimp only [fxv]
 go_enter Tryz.func4, Tryz.ntmps4
 go_upto_region 1 with fail
 refine ent1 w _ _ (Q := fun W => Code.wp _ _ _ _ W) ?_; intro W1 hb1 hs1 V3; have B0 : Below w.heap.size w W1 := hb1; clear hb1 hs1; (go_wp2_with fail)
 go_cut [5, 6] (fun s5 s6 wx => ∃ (b6 : Nat) (gn g1 g2 : Nat), s6 = .pointer (some ⟨b6, 0, none⟩) ∧ s5 = .slice (some ⟨gn, 0, none⟩) ns.length (ns.length + 12) ∧ Hid (Va wx b6 25 #[.slice (some ⟨g1, 0, none⟩) f.byr.length (f.byr.length + 12), .slice (some ⟨g2, 0, none⟩) f.lin.length (f.lin.length + 12), .int .i64 f.amt, .int .i64 f.dig, .int .i64 f.qty]) ∧ Hid (Va wx (w.heap.size) 25 #[.slice a1 f.byr.length c1, .slice a2 f.lin.length c2, .int .i64 f.amt, .int .i64 f.dig, .int .i64 f.qty]) ∧ Hid (Om wx gn ns) ∧ Hid (Ot wx g1 f.byr) ∧ Hid (Ot wx g2 f.lin) ∧ Hid (Below w.heap.size w wx) ∧ Hid (w.heap.size ≤ b6))
 case first =>
  refine wp_region_noPanic ?_; replace V3 : Va W1.drew _ _ _ := V3; replace B0 := Below.drew B0; refine wp_region_held_drew (S := (fun W => W.cell? ⟨w.heap.size, 0, none⟩ = some (.slice a1 f.byr.length c1) ∧ W.cell? ⟨w.heap.size, 1, none⟩ = some (.slice a2 f.lin.length c2) ∧ W.cell? ⟨w.heap.size, 2, none⟩ = some (.int .i64 f.amt) ∧ W.cell? ⟨w.heap.size, 3, none⟩ = some (.int .i64 f.dig) ∧ W.cell? ⟨w.heap.size, 4, none⟩ = some (.int .i64 f.qty))) (by kernel_rfl) ⟨V3.f0, V3.f1, V3.f2, V3.f3, V3.f4⟩ (fun hHeld => ?_); (obtain ⟨x11, hxd⟩ : ∃ xd, xd = W1.drew := ⟨_, rfl⟩); rw [← hxd] at V3 B0 hHeld ⊢; clear hxd; refine tjz 0 hHeld ?_; refine tjz 2 hHeld ?_; refine wpAnyH_ready (rs := [1, 4]) (by kernel_rfl) (by simp) ?_; refine AllReadyH.cons rfl (fun K hK => ?_) (AllReadyH.cons rfl (fun K hK => ?_) AllReadyH.nil)
  ·
   simp only [gA, gB, gC]; (go_simp); refine (lentN_ex xa ca ns _ (HA.out.after B0) HN.out.1 HN.out.2).mono ?_; rintro e x12 ⟨gn, rfl, on, hb⟩; replace V3 := V3.a hb; replace B0 := step B0 hb; clear hb; (try go_wp2_with fail); refine hK.out _ _ ⟨V3.f0, V3.f1, V3.f2, V3.f3, V3.f4⟩ (fun hHeld => ?_); clear hK K; refine wpAnyH_ready (rs := [3, 4]) (by kernel_rfl) (by simp) ?_; refine AllReadyH.cons rfl (fun K hK => ?_) (AllReadyH.cons rfl (fun K hK => ?_) AllReadyH.nil)
   ·
    simp only [gA, gB, gC]; (go_simp); refine (lentF_ex a1 c1 a2 c2 f _ (HF.out.after B0) HN1.out.1 HN1.out.2 HN2.out.1 HN2.out.2).mono ?_; rintro e x13 ⟨g1, g2, rfl, o1, o2, hb⟩; replace V3 := V3.a hb; replace on := Om.after hb on; replace B0 := step B0 hb; clear hb; (try go_wp2_with fail); refine hK.out _ _ ⟨V3.f0, V3.f1, V3.f2, V3.f3, V3.f4⟩ (fun hHeld => ?_); clear hK K; refine ryz 4 (fun K hK => ?_)
    ·
     simp only [gA, gB, gC]; (go_simp); have lt_V6_V3 := V3.lt; have sz_V6 := B0.size; refine ent1 _ _ _ (Q := fun V => K _ V) ?_; intro x14 hb hs_ V6; replace V3 := V3.a hb; replace on := Om.after hb on; replace o1 := Ot.after hb o1; replace o2 := Ot.after hb o2; replace B0 := step B0 hb; clear hb hs_; refine hK.out _ _ ⟨V3.f0, V3.f1, V3.f2, V3.f3, V3.f4⟩ (fun hHeld => ?_); clear hK K; refine tjz 5 hHeld ?_; have c_V6 := V6.f0; have f0_V6 := V6.frozen 0; have d_V6 := V6.f1; have f1_V6 := V6.frozen 1; have e_V6 := V6.f2; have f2_V6 := V6.frozen 2; have j_V6 := V6.f3; have f3_V6 := V6.frozen 3; have k_V6 := V6.f4; have f4_V6 := V6.frozen 4; have l_V6 := V6.lt; have m_V6 := Nat.le_of_lt l_V6; refine ryz 6 (fun K hK => ?_); simp only [gA, gB, gC]; (go_simp); clear c_V6 f0_V6 d_V6 f1_V6 e_V6 f2_V6 j_V6 f3_V6 k_V6 f4_V6 l_V6 m_V6
     refine stoF5 V6 (.slice (some ⟨g1, 0, none⟩) f.byr.length (f.byr.length + 12)) (.slice (some ⟨g2, 0, none⟩) f.lin.length (f.lin.length + 12)) (.int .i64 f.amt) (.int .i64 f.dig) (.int .i64 f.qty) (Q := fun W => K _ W) ?_; intro x15 V' oth far; replace V3 := apz (oth _ _ _) V3; replace on := Om.farS on V6 far.1; replace o1 := Ot.farS o1 V6 far.1; replace o2 := Ot.farS o2 V6 far.1; replace B0 := apz (far.2 _ _) B0; replace V6 := V'; clear oth far; refine hK.out _ _ ⟨V3.f0, V3.f1, V3.f2, V3.f3, V3.f4⟩ (fun hHeld => ?_); clear hK K; refine dnz ?_; clear hHeld; (go_wp2_with fail)
     go_meet
     exact ⟨_, gn, g1, g2, rfl, rfl, V6, V3, on, o1, o2, B0, by show _ ≤ _; omega⟩
   ·
    simp only [gA, gB, gC]; (go_simp); have lt_V6_V3 := V3.lt; have sz_V6 := B0.size; refine ent1 _ _ _ (Q := fun V => K _ V) ?_; intro x13 hb hs_ V6; replace V3 := V3.a hb; replace on := Om.after hb on; replace B0 := step B0 hb; clear hb hs_; refine hK.out _ _ ⟨V3.f0, V3.f1, V3.f2, V3.f3, V3.f4⟩ (fun hHeld => ?_); clear hK K; refine ryz 3 (fun K hK => ?_)
    ·
     simp only [gA, gB, gC]; (go_simp); refine (lentF_ex a1 c1 a2 c2 f _ (HF.out.after B0) HN1.out.1 HN1.out.2 HN2.out.1 HN2.out.2).mono ?_; rintro e x14 ⟨g1, g2, rfl, o1, o2, hb⟩; replace V3 := V3.a hb; replace V6 := V6.a hb; replace on := Om.after hb on; replace B0 := step B0 hb; clear hb; (try go_wp2_with fail); refine hK.out _ _ ⟨V3.f0, V3.f1, V3.f2, V3.f3, V3.f4⟩ (fun hHeld => ?_); clear hK K; refine tjz 5 hHeld ?_; have c_V6 := V6.f0; have f0_V6 := V6.frozen 0; have d_V6 := V6.f1; have f1_V6 := V6.frozen 1; have e_V6 := V6.f2; have f2_V6 := V6.frozen 2; have j_V6 := V6.f3; have f3_V6 := V6.frozen 3; have k_V6 := V6.f4; have f4_V6 := V6.frozen 4; have l_V6 := V6.lt; have m_V6 := Nat.le_of_lt l_V6; refine ryz 6 (fun K hK => ?_); simp only [gA, gB, gC]; (go_simp); clear c_V6 f0_V6 d_V6 f1_V6 e_V6 f2_V6 j_V6 f3_V6 k_V6 f4_V6 l_V6 m_V6
     refine stoF5 V6 (.slice (some ⟨g1, 0, none⟩) f.byr.length (f.byr.length + 12)) (.slice (some ⟨g2, 0, none⟩) f.lin.length (f.lin.length + 12)) (.int .i64 f.amt) (.int .i64 f.dig) (.int .i64 f.qty) (Q := fun W => K _ W) ?_; intro x15 V' oth far; replace V3 := apz (oth _ _ _) V3; replace on := Om.farS on V6 far.1; replace o1 := Ot.farS o1 V6 far.1; replace o2 := Ot.farS o2 V6 far.1; replace B0 := apz (far.2 _ _) B0; replace V6 := V'; clear oth far; refine hK.out _ _ ⟨V3.f0, V3.f1, V3.f2, V3.f3, V3.f4⟩ (fun hHeld => ?_); clear hK K; refine dnz ?_; clear hHeld; (go_wp2_with fail)
     go_meet
     exact ⟨_, gn, g1, g2, rfl, rfl, V6, V3, on, o1, o2, B0, by show _ ≤ _; omega⟩
  ·
   simp only [gA, gB, gC]; (go_simp); have lt_V6_V3 := V3.lt; have sz_V6 := B0.size; refine ent1 _ _ _ (Q := fun V => K _ V) ?_; intro x12 hb hs_ V6; replace V3 := V3.a hb; replace B0 := step B0 hb; clear hb hs_; refine hK.out _ _ ⟨V3.f0, V3.f1, V3.f2, V3.f3, V3.f4⟩ (fun hHeld => ?_); clear hK K; refine ryz 1 (fun K hK => ?_)
   ·
    simp only [gA, gB, gC]; (go_simp); refine (lentN_ex xa ca ns _ (HA.out.after B0) HN.out.1 HN.out.2).mono ?_; rintro e x13 ⟨gn, rfl, on, hb⟩; replace V3 := V3.a hb; replace V6 := V6.a hb; replace B0 := step B0 hb; clear hb; (try go_wp2_with fail); refine hK.out _ _ ⟨V3.f0, V3.f1, V3.f2, V3.f3, V3.f4⟩ (fun hHeld => ?_); clear hK K; refine ryz 3 (fun K hK => ?_)
    ·
     simp only [gA, gB, gC]; (go_simp); refine (lentF_ex a1 c1 a2 c2 f _ (HF.out.after B0) HN1.out.1 HN1.out.2 HN2.out.1 HN2.out.2).mono ?_; rintro e x14 ⟨g1, g2, rfl, o1, o2, hb⟩; replace V3 := V3.a hb; replace V6 := V6.a hb; replace on := Om.after hb on; replace B0 := step B0 hb; clear hb; (try go_wp2_with fail); refine hK.out _ _ ⟨V3.f0, V3.f1, V3.f2, V3.f3, V3.f4⟩ (fun hHeld => ?_); clear hK K; refine tjz 5 hHeld ?_; have c_V6 := V6.f0; have f0_V6 := V6.frozen 0; have d_V6 := V6.f1; have f1_V6 := V6.frozen 1; have e_V6 := V6.f2; have f2_V6 := V6.frozen 2; have j_V6 := V6.f3; have f3_V6 := V6.frozen 3; have k_V6 := V6.f4; have f4_V6 := V6.frozen 4; have l_V6 := V6.lt; have m_V6 := Nat.le_of_lt l_V6; refine ryz 6 (fun K hK => ?_); simp only [gA, gB, gC]; (go_simp); clear c_V6 f0_V6 d_V6 f1_V6 e_V6 f2_V6 j_V6 f3_V6 k_V6 f4_V6 l_V6 m_V6
     refine stoF5 V6 (.slice (some ⟨g1, 0, none⟩) f.byr.length (f.byr.length + 12)) (.slice (some ⟨g2, 0, none⟩) f.lin.length (f.lin.length + 12)) (.int .i64 f.amt) (.int .i64 f.dig) (.int .i64 f.qty) (Q := fun W => K _ W) ?_; intro x15 V' oth far; replace V3 := apz (oth _ _ _) V3; replace on := Om.farS on V6 far.1; replace o1 := Ot.farS o1 V6 far.1; replace o2 := Ot.farS o2 V6 far.1; replace B0 := apz (far.2 _ _) B0; replace V6 := V'; clear oth far; refine hK.out _ _ ⟨V3.f0, V3.f1, V3.f2, V3.f3, V3.f4⟩ (fun hHeld => ?_); clear hK K; refine dnz ?_; clear hHeld; (go_wp2_with fail)
     go_meet
     exact ⟨_, gn, g1, g2, rfl, rfl, V6, V3, on, o1, o2, B0, by show _ ≤ _; omega⟩
 case rest =>
  clear V3 B0; obtain ⟨b6, gn, g1, g2, rfl, rfl, V6', V3', on', o1', o2', B0', hineq'⟩ := hcut; have V6 := V6'.out; have V3 := V3'.out; have on := on'.out; have o1 := o1'.out; have o2 := o2'.out; have B0 := B0'.out; have hineq := hineq'.out; clear V6' V3' on' o1' o2' B0' hineq'; have iq0 := hineq; clear hineq; (obtain ⟨YB, hYB⟩ : ∃ x, hoB ns f = x := ⟨_, rfl⟩); (obtain ⟨YE, hYE⟩ : ∃ x, hoE ns f = x := ⟨_, rfl⟩); have HY : Hid (hoB ns f = YB ∧ hoE ns f = YE) := ⟨hYB, hYE⟩; clear hYB hYE; have D1 := holds_any ns (some ⟨gn, 0, none⟩) (ns.length + 12) (some ⟨g1, 0, none⟩) (f.byr.length + 12) (some ⟨g2, 0, none⟩) (f.lin.length + 12) f wc (le_preE (E := elN) on) H6.out ⟨le_preE (E := elS) o1, le_preE (E := elS) o2, HF.out.b1, HF.out.b2, HF.out.b3⟩ (HT.out.to B0); rw [HY.out.1, HY.out.2] at D1
  dsimp only [fxv] at D1
  have c_V6 := V6.f0; have f0_V6 := V6.frozen 0; have d_V6 := V6.f1; have f1_V6 := V6.frozen 1; have e_V6 := V6.f2; have f2_V6 := V6.frozen 2; have j_V6 := V6.f3; have f3_V6 := V6.frozen 3; have k_V6 := V6.f4; have f4_V6 := V6.frozen 4; have l_V6 := V6.lt; have m_V6 := Nat.le_of_lt l_V6; (go_wp2_with fail); clear c_V6 f0_V6 d_V6 f1_V6 e_V6 f2_V6 j_V6 f3_V6 k_V6 f4_V6 l_V6 m_V6; refine (D1).mono ?_; rintro e x11 ⟨rfl, hb⟩; replace V3 := V3.a hb; replace V6 := V6.a hb; replace on := Om.after hb on; replace o1 := Ot.after hb o1; replace o2 := Ot.after hb o2; replace B0 := step B0 hb; clear hb; clear D1; have D2 := rHolds_any ns xa ca a1 c1 a2 c2 f x11 (HA.out.after B0) H6.out (HF.out.after B0); rw [HY.out.1, HY.out.2] at D2
  dsimp only [fxv] at D2
  have c_V3 := V3.f0; have f0_V3 := V3.frozen 0; have d_V3 := V3.f1; have f1_V3 := V3.frozen 1; have e_V3 := V3.f2; have f2_V3 := V3.frozen 2; have j_V3 := V3.f3; have f3_V3 := V3.frozen 3; have k_V3 := V3.f4; have f4_V3 := V3.frozen 4; have l_V3 := V3.lt; have m_V3 := Nat.le_of_lt l_V3; (go_wp2_with fail); clear c_V3 f0_V3 d_V3 f1_V3 e_V3 f2_V3 j_V3 f3_V3 k_V3 f4_V3 l_V3 m_V3; refine (D2).mono ?_; rintro e x12 ⟨rfl, hb⟩; replace V3 := V3.a hb; replace V6 := V6.a hb; replace on := Om.after hb on; replace o1 := Ot.after hb o1; replace o2 := Ot.after hb o2; replace B0 := step B0 hb; clear hb; clear D2; (have qB : (YB == YB) = true := by simp); (have qE : (YE == YE) = true := by simp); have D3 := keptN_any xa ns.length ca gn ns x12 (HA.out.after B0) on HN.out.2; (go_wp2_with fail); refine (D3).mono ?_; rintro e x13 ⟨rfl, hb⟩; replace V3 := V3.a hb; replace V6 := V6.a hb; replace on := Om.after hb on; replace o1 := Ot.after hb o1; replace o2 := Ot.after hb o2
  replace B0 := step B0 hb; clear hb; clear D3; have D4 := keptF_any f g1 g2 a1 c1 a2 c2 x13 (HF.out.after B0) o1 o2 HN2.out.1 HN2.out.2
  dsimp only [fxv] at D4
  have c_V3 := V3.f0; have f0_V3 := V3.frozen 0; have d_V3 := V3.f1; have f1_V3 := V3.frozen 1; have e_V3 := V3.f2; have f2_V3 := V3.frozen 2; have j_V3 := V3.f3; have f3_V3 := V3.frozen 3; have k_V3 := V3.f4; have f4_V3 := V3.frozen 4; have l_V3 := V3.lt; have m_V3 := Nat.le_of_lt l_V3; have c_V6 := V6.f0; have f0_V6 := V6.frozen 0; have d_V6 := V6.f1; have f1_V6 := V6.frozen 1; have e_V6 := V6.f2; have f2_V6 := V6.frozen 2; have j_V6 := V6.f3; have f3_V6 := V6.frozen 3; have k_V6 := V6.f4; have f4_V6 := V6.frozen 4; have l_V6 := V6.lt; have m_V6 := Nat.le_of_lt l_V6; (go_wp2_with fail); clear c_V3 f0_V3 d_V3 f1_V3 e_V3 f2_V3 j_V3 f3_V3 k_V3 f4_V3 l_V3 m_V3 c_V6 f0_V6 d_V6 f1_V6 e_V6 f2_V6 j_V6 f3_V6 k_V6 f4_V6 l_V6 m_V6; refine (D4).mono ?_; rintro e x14 ⟨rfl, hb⟩; replace V3 := V3.a hb; replace V6 := V6.a hb; replace on := Om.after hb on; replace o1 := Ot.after hb o1; replace o2 := Ot.after hb o2; replace B0 := step B0 hb; clear hb; clear D4
  have D5 := awake13 x14 (HT.out.to B0); (go_wp2_with fail); refine (D5).mono ?_; rintro e x15 ⟨rfl, hb⟩; replace V3 := V3.a hb; replace V6 := V6.a hb; replace on := Om.after hb on; replace o1 := Ot.after hb o1; replace o2 := Ot.after hb o2; replace B0 := step B0 hb; clear hb; clear D5; (go_wp2_with fail)
  go_ret
  exact ⟨rfl, B0⟩
end Go.Proofs.YtblafbbnplfpjaaGreatDoor
namespace Go.Proofs.YtblafbbnplfpjaaGreatDoor
open Go.ChangeShapes Go.WideShapes Go.ChangeAt Go.RowKit
set_option linter.unusedVariables false

theorem gTens : Tryz.prog.globalNamed "tollbook/decimal.tens" = some 0 := by kernel_rfl
theorem gTensT : (Tryz.prog.globals[0]?).map (·.type) = some 118 := by kernel_rfl
theorem cTens : Tryz.prog.cellsOf 118 = 10 := by kernel_rfl
theorem cI64 : Tryz.prog.cellsOf 2 = 1 := by kernel_rfl
theorem tnOf {W : World} {rest : List (String × DataW Unit)} (h : laidMet Tryz.prog (("tollbook/decimal.tens", Rows.laid_tollbook_decimal_tens) :: rest) W) : Tn W :=
  Go.Lib.tabIs_of_head (zs := [1, 10, 100, 1000, 10000, 100000, 1000000, 10000000, 100000000, 1000000000]) gTens gTensT Tryz.underlying118 Tryz.underlying2 cI64 cTens h
theorem list5 {α : Type} {l : List α} (h : l.length = 5) : ∃ a b c d e, l = [a, b, c, d, e] := by
  match l, h with
  | [a, b, c, d, e], _ => exact ⟨a, b, c, d, e, rfl⟩
theorem list6 {α : Type} {l : List α} (h : l.length = 6) : ∃ a b c d e f, l = [a, b, c, d, e, f] := by
  match l, h with
  | [a, b, c, d, e, f], _ => exact ⟨a, b, c, d, e, f, rfl⟩
theorem B64_of_wf {x : Int} (h : (Lit.int .i64 x).wf = true) : -9223372036854775808 ≤ x ∧ x ≤ 9223372036854775807 := by
  simp [Lit.wf, IntKind.min, IntKind.max, IntKind.signed, IntKind.bits] at h
  omega
theorem sv_of (s : ByteArray) : Value.string s = sv s.data.toList := by simp [sv]
instance : Inhabited Nd := ⟨nd0⟩
theorem cNode : Tryz.prog.cellsOf 48 = 6 := by kernel_rfl
section
variable {H : Type} {enc : TypeId × Value → H} {W : World} {sp : Nat → Bool} {hd : Bool}
theorem node_open {n : Nat} {cs : List Value} {y : DataW H × List MemPlace} (h2 : DataW.trod enc Tryz.prog W 0 sp hd n 48 cs = some y) : ∃ nd : Nd, cs = encN nd ∧ N64 nd := by
  obtain ⟨xs, k, _, _, hl, hxl, hf⟩ := DataW.trod_struct Tryz.underlying48 h2
  obtain ⟨v0, v1, v2, v3, v4, v5, rfl⟩ := list6 (hl.trans cNode)
  obtain ⟨y0, y1, y2, y3, y4, rfl⟩ := list5 hxl
  have g0 := hf 0 _ rfl
  have g1 := hf 1 _ rfl
  have g2 := hf 2 _ rfl
  have g3 := hf 3 _ rfl
  have g4 := hf 4 _ rfl
  have e1 : Tryz.prog.cellsOf 43 = 1 := by kernel_rfl
  have e2 : Tryz.prog.cellsOf 3 = 1 := by kernel_rfl
  have e3 : Tryz.prog.cellsOf 9 = 1 := by kernel_rfl
  have e4 : Tryz.prog.cellsOf 44 = 1 := by kernel_rfl
  have e5 : Tryz.prog.cellsOf 46 = 2 := by kernel_rfl
  simp [e1, e2, e3, e4, e5] at g0 g1 g2 g3 g4
  obtain ⟨kd, h0, -, w0⟩ := DataW.trod_int Tryz.underlying43 g0
  obtain ⟨ks, h1, -, w1⟩ := DataW.trod_int Tryz.underlying3 g1
  obtain ⟨nm, h2', -, -⟩ := DataW.trod_string Tryz.underlying9 g2
  obtain ⟨op, h3, -, w3⟩ := DataW.trod_int Tryz.underlying44 g3
  obtain ⟨xs5, k5, _, _, hl5, hxl5, hf5⟩ := DataW.trod_struct Tryz.underlying46 g4
  have q0 := hf5 0 _ rfl
  have q1 := hf5 1 _ rfl
  have e6 : Tryz.prog.cellsOf 2 = 1 := by kernel_rfl
  have hx5 : xs5.length = 2 := hxl5
  match xs5, hx5 with
  | [z0, z1], _ =>
    simp [e6, e2] at q0 q1
    obtain ⟨un, h4, -, w4⟩ := DataW.trod_int Tryz.underlying2 q0
    obtain ⟨pl, h5, -, w5⟩ := DataW.trod_int Tryz.underlying3 q1
    simp at h0 h1 h2' h3 h4 h5
    subst h0 h1 h2' h3 h4 h5
    refine ⟨⟨kd, ks, nm.data.toList, op, un, pl⟩, by simp [encN, sv], ?_⟩
    intro x hx
    simp only [List.mem_cons, List.not_mem_nil, or_false] at hx
    rcases hx with rfl | rfl | rfl | rfl | rfl
    · exact B64_of_wf w0
    · exact B64_of_wf w1
    · exact B64_of_wf w3
    · exact B64_of_wf w4
    · exact B64_of_wf w5
theorem open_nodes {a : Option Addr} {len cap : Nat} {d : DataW H} {p : List MemPlace} (h : DataW.Trod enc Tryz.prog W 0 sp hd 22 (.slice a len cap) d p) :
    ∃ ns : List Nd, Le elN W a len ns ∧ (∀ n ∈ ns, N64 n) := by
  obtain ⟨fuel, hf⟩ := h
  rcases Go.Deep.open_slice Tryz.underlying22 hf with ⟨hcs, _⟩ | ⟨ad, l, c, m, n, D, Pl, hcs, _, hl, hm, hmm, _, hx⟩
  · simp [Value.cells] at hcs
    obtain ⟨rfl, rfl, rfl⟩ := hcs
    exact ⟨[], Le.nil _ _, fun n hn => by simp at hn⟩
  · simp [Value.cells] at hcs
    obtain ⟨rfl, rfl, rfl⟩ := hcs
    have hlm : len ≤ m := by rw [hmm]; split <;> omega
    have each : ∀ i, i < len → ∃ nd : Nd, (∀ j u, (encN nd)[j]? = some u → W.cell? ((ad.add (i * 6)).add j) = some u) ∧ N64 nd := by
      intro i hi
      obtain ⟨cs', h1, h2⟩ := hx i (by omega)
      rw [cNode] at h1
      obtain ⟨nd, rfl, h6⟩ := node_open h2
      obtain ⟨_, hlen, hcell⟩ := World.cells?_some h1
      refine ⟨nd, fun j u hj => ?_, h6⟩
      have hj6 : j < 6 := by
        rcases Nat.lt_or_ge j 6 with h' | h'
        · exact h'
        · rw [List.getElem?_eq_none (by exact h')] at hj; cases hj
      have := hcell j hj6
      rw [this, hj]
    obtain ⟨Q, hQ⟩ := Go.Deep.choose_lt each
    refine ⟨(List.range len).map Q, ⟨by simp, fun h0 => ?_⟩, fun n hn => ?_⟩
    · obtain ⟨b, off, spot⟩ := ad
      have hspot : spot = none := by
        have := (hQ 0 h0).1 0 _ rfl
        simpa [Addr.add] using World.cell?_spot this
      subst hspot
      refine ⟨b, off, rfl, fun i u hu => ?_⟩
      have hlen : (rowE elN ((List.range len).map Q)).length = len * 6 := by rw [rowE_length]; simp; rfl
      have hi : i < len * 6 := by
        rcases Nat.lt_or_ge i (rowE elN ((List.range len).map Q)).length with h' | h'
        · omega
        · rw [List.getElem?_eq_none h'] at hu; cases hu
      have hq := rowE_get elN (i % 6) (Nat.mod_lt _ (by decide)) ((List.range len).map Q) (i / 6) (by simp; omega)
      rw [show i / 6 * elN.s + i % 6 = i by show i / 6 * 6 + i % 6 = i; omega, hu] at hq
      have hg : ((List.range len).map Q).getD (i / 6) elN.dft = Q (i / 6) := by simp [show i / 6 < len by omega]
      rw [hg] at hq
      have := (hQ (i / 6) (by omega)).1 (i % 6) u hq.symm
      rw [Go.WideShapes.add_plain, Go.WideShapes.add_plain] at this
      rw [← this]
      congr 2
      omega
    · simp only [List.mem_map, List.mem_range] at hn
      obtain ⟨i, hi, rfl⟩ := hn
      exact (hQ i hi).2
theorem texts_open {n : Nat} {cs : List Value} {y : DataW H × List MemPlace} (h : DataW.trod enc Tryz.prog W 0 sp hd n 23 cs = some y) : ∃ (a : Option Addr) (c : Nat) (l : List (List UInt8)), cs = [.slice a l.length c] ∧ Le elS W a l.length l := by
  rcases open_strings Tryz.underlying23 Tryz.underlying9 (by kernel_rfl) h with ⟨hcs, _⟩ | ⟨ad, l, c, ss, hcs, _, hl, hm, hz, hx, hcell, _⟩
  · exact ⟨none, 0, [], hcs, Le.nil _ _⟩
  · have hzl : l ≤ ss.length := by rw [hz]; split <;> omega
    have hll : ((ss.take l).map (fun s : ByteArray => s.data.toList)).length = l := by simp; omega
    refine ⟨some ad, c, (ss.take l).map (fun s : ByteArray => s.data.toList), by rw [hll]; exact hcs, rfl, fun h0 => ?_⟩
    rw [hll] at h0
    obtain ⟨b, off, spot⟩ := ad
    have hspot : spot = none := by
      have := hcell 0 (by omega)
      simpa [Addr.add] using World.cell?_spot this
    subst hspot
    refine ⟨b, off, rfl, fun i u hu => ?_⟩
    have hi : i < l := by
      rcases Nat.lt_or_ge i (rowE elS ((ss.take l).map (fun s : ByteArray => s.data.toList))).length with h' | h'
      · rw [rowE_length, hll] at h'
        have h'' : i < l * 1 := h'
        omega
      · rw [List.getElem?_eq_none h'] at hu; cases hu
    have hq := rowE_get elS 0 (by decide) ((ss.take l).map (fun s : ByteArray => s.data.toList)) i (by rw [hll]; exact hi)
    rw [show i * elS.s + 0 = i by show i * 1 + 0 = i; omega, hu] at hq
    have hg : ((ss.take l).map (fun s : ByteArray => s.data.toList)).getD i elS.dft = (ss.getD i ByteArray.empty).data.toList := by
      rw [List.getD_eq_getElem?_getD, List.getElem?_map, List.getElem?_take_of_lt hi, List.getD_eq_getElem?_getD, List.getElem?_eq_getElem (by omega)]; rfl
    rw [hg] at hq
    have e : u = sv (ss.getD i ByteArray.empty).data.toList := by simpa [elS] using hq
    have := hcell i (by omega)
    rw [Go.WideShapes.add_plain] at this
    rw [this, e, sv_of]
end
end Go.Proofs.YtblafbbnplfpjaaGreatDoor
namespace Go.Proofs.YtblafbbnplfpjaaGreatDoor
open Go.ChangeShapes Go.WideShapes Go.ChangeAt Go.RowKit
set_option linter.unusedVariables false

theorem bNode : Tryz.prog.bytesOf 48 = 56 := by kernel_rfl
theorem bStr : Tryz.prog.bytesOf 9 = 16 := by kernel_rfl
section
variable {H : Type} {enc : TypeId × Value → H} {W : World} {sp : Nat → Bool} {hd : Bool}
theorem nodes_need {a : Option Addr} {len cap : Nat} {d : DataW H} {p : List MemPlace} {ts : List TypeId} {ds : List (DataW H)} {j : Nat} (h : DataW.Trod enc Tryz.prog W 0 sp hd 22 (.slice a len cap) d p)
    (hsz : (DataW.weightsEach Tryz.prog ts ds).all (· ≤ reachBytes) = true) (ht : ts[j]? = some 22) (hj : ds[j]? = some d) : (a = none → len = 0 ∧ cap = 0) ∧ len ≤ 5000000000000 := by
  obtain ⟨fuel, hf⟩ := h
  rcases Go.Deep.open_slice Tryz.underlying22 hf with ⟨hcs, _⟩ | ⟨ad, l, c, m, n, D, Pl, hcs, _, hl, hm, hmm, hx, _⟩
  · simp [Value.cells] at hcs
    obtain ⟨rfl, rfl, rfl⟩ := hcs
    exact ⟨fun _ => ⟨rfl, rfl⟩, by omega⟩
  · simp [Value.cells] at hcs
    obtain ⟨rfl, rfl, rfl⟩ := hcs
    have hd' : d = _ := congrArg Prod.fst hx
    have hs := sized_slice hsz (j := j) (t := 22) (e := 48) ht (by rw [hj, hd']) Tryz.underlying22
    rw [bNode] at hs
    refine ⟨fun h => (by cases h), ?_⟩
    simp only [List.length_map, List.length_range, reachBytes] at hs
    omega
theorem texts_open2 {n : Nat} {cs : List Value} {y : DataW H × List MemPlace} (h : DataW.trod enc Tryz.prog W 0 sp hd n 23 cs = some y) : ∃ (a : Option Addr) (c : Nat) (l : List (List UInt8)), cs = [.slice a l.length c] ∧ Le elS W a l.length l ∧ (a = none → l.length = 0 ∧ c = 0) ∧ ((∀ k ∈ y.1.weights Tryz.prog 23, k ≤ reachBytes) → l.length ≤ 9000000000000) := by
  obtain ⟨a, c, l, rfl, hL⟩ := texts_open h
  refine ⟨a, c, l, rfl, hL, ?_⟩
  rcases open_strings Tryz.underlying23 Tryz.underlying9 (by kernel_rfl) h with ⟨hcs, _⟩ | ⟨ad, l', c', ss, hcs, _, hl, hm, hz, hx, hcell, _⟩
  · simp at hcs
    obtain ⟨rfl, h1, rfl⟩ := hcs
    exact ⟨fun _ => ⟨by rw [h1]; rfl, rfl⟩, fun _ => by rw [h1]; simp⟩
  · simp at hcs
    obtain ⟨rfl, h1, rfl⟩ := hcs
    refine ⟨fun h => (by cases h), fun hk => ?_⟩
    have hd' : y.1 = DataW.slice (strs (ss.take l')) (strs (ss.drop l')) := congrArg Prod.fst hx
    have hs := hk (((strs (H := H) (ss.take l')).length + (strs (H := H) (ss.drop l')).length) * Tryz.prog.bytesOf 9) (by rw [hd']; simp [DataW.weights, Tryz.underlying23])
    rw [bStr] at hs
    have hzl : l' ≤ ss.length := by rw [hz]; split <;> omega
    simp only [strs, List.length_map, List.length_take, List.length_drop, reachBytes] at hs
    omega
set_option maxRecDepth 100000 in
theorem facts_open {r : Reach} {b0 : Nat} {v : Value} {d : DataW H} {p : List MemPlace} {ts : List TypeId} {ds : List (DataW H)} {j : Nat} (hv : Value.okWide Tryz.prog W r b0 25 v) (h : DataW.Trod enc Tryz.prog W 0 sp hd 25 v d p)
    (hsz : (DataW.weightsEach Tryz.prog ts ds).all (· ≤ reachBytes) = true) (ht : ts[j]? = some 25) (hj : ds[j]? = some d) :
    ∃ (a1 : Option Addr) (c1 : Nat) (a2 : Option Addr) (c2 : Nat) (f : Fx), v = fxv a1 c1 a2 c2 f ∧ Lf W a1 c1 a2 c2 f ∧ (a1 = none → f.byr.length = 0 ∧ c1 = 0) ∧ (a2 = none → f.lin.length = 0 ∧ c2 = 0) ∧ f.byr.length ≤ 9000000000000 ∧ f.lin.length ≤ 9000000000000 := by
  obtain ⟨cs, rfl, hsz'⟩ := okWide_struct Tryz.underlying25 hv
  obtain ⟨fuel, hf⟩ := h
  obtain ⟨xs, k, _, hx, hl, hxl, hf⟩ := DataW.trod_struct Tryz.underlying25 hf
  have hd' : d = DataW.agg (xs.map (·.1)) := congrArg Prod.fst hx
  have hC : Tryz.prog.cellsOf 25 = 5 := by kernel_rfl
  have hcl : (Value.agg cs).cells.toList.length = 5 := hl.trans hC
  obtain ⟨v0, v1, v2, v3, v4, hcs⟩ := list5 hcl
  have hcs' : cs.toList = [v0, v1, v2, v3, v4] := hcs
  obtain rfl : cs = #[v0, v1, v2, v3, v4] := by rw [← hcs']
  obtain ⟨y0, y1, y2, y3, y4, rfl⟩ := list5 hxl
  have g0 := hf 0 _ rfl
  have g1 := hf 1 _ rfl
  have g2 := hf 2 _ rfl
  have g3 := hf 3 _ rfl
  have g4 := hf 4 _ rfl
  have e1 : Tryz.prog.cellsOf 23 = 1 := by kernel_rfl
  have e2 : Tryz.prog.cellsOf 3 = 1 := by kernel_rfl
  have e3 : Tryz.prog.cellsOf 2 = 1 := by kernel_rfl
  rw [hcs] at g0 g1 g2 g3 g4
  simp [e1, e2, e3] at g0 g1 g2 g3 g4
  have hw : ∀ k ∈ DataW.weightsEach Tryz.prog [23, 23, 2, 3, 2] [y0.1, y1.1, y2.1, y3.1, y4.1], k ≤ reachBytes := fun k hk => by
    have h2 : k ∈ DataW.weights Tryz.prog 25 d := by
      rw [hd']
      simp only [DataW.weights, Tryz.underlying25]
      exact hk
    exact of_decide_eq_true (List.all_eq_true.1 hsz _ (DataW.weights_mem_each (j := j) (t := 25) (d := d) ht hj _ h2))
  obtain ⟨a1, c1, l1, h0, L1, n1, b1⟩ := texts_open2 g0
  obtain ⟨a2, c2, l2, h1, L2, n2, b2⟩ := texts_open2 g1
  obtain ⟨am, h2, -, w2⟩ := DataW.trod_int Tryz.underlying2 g2
  obtain ⟨dg, h3, -, w3⟩ := DataW.trod_int Tryz.underlying3 g3
  obtain ⟨qt, h4, -, w4⟩ := DataW.trod_int Tryz.underlying2 g4
  simp at h0 h1 h2 h3 h4
  subst h0 h1 h2 h3 h4
  exact ⟨a1, c1, a2, c2, ⟨l1, l2, am, dg, qt⟩, rfl, ⟨L1, L2, B64_of_wf w2, B64_of_wf w3, B64_of_wf w4⟩, n1, n2, b1 (fun k hk => hw k (DataW.weights_mem_each (j := 0) (t := 23) rfl rfl k hk)), b2 (fun k hk => hw k (DataW.weights_mem_each (j := 1) (t := 23) rfl rfl k hk))⟩
end
end Go.Proofs.YtblafbbnplfpjaaGreatDoor
