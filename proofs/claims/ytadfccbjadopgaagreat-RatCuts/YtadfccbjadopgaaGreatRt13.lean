/-
 rat.Floor, Ceil.
-/
import Derived.Test.YtadfccbjadopgaaGreatAl
import Derived.Test.YtadfccbjadopgaaGreatRt13p
namespace Go.Proofs.YtadfccbjadopgaaGreat
open Go.RowKit Go.Shelf
set_option linter.unusedVariables false

set_option maxHeartbeats 8000000 in
theorem qfloor_any (s : Bool) (a : Option Addr) (l c : Nat) (zs : List Int) (b : Option Addr) (m d : Nat) (ds : List Int) (v : Rat) (w : World) (hr : Rt w s a l c zs b m d ds v) :
  Calls Tryz.prog 33 #[.agg #[.bool s, .slice a l c, .slice b m d]] w fun e w' => FlP w (qfl v) e w' := by
 have B0 : Below w.heap.size w w := Below.refl _ _
 go_enter Tryz.func33, Tryz.ntmps33
 (go_wp2_with fail); refine ent2 w _ _ _ _ (Q := fun W => Code.wp Tryz.prog _ _ _ W) ?_; intro x1 hb hs_x1 V0 V1; replace hr := Rt.after hb hr; replace B0 := step B0 hb; clear hb hs_x1; have HR : Hid (Rt x1 s a l c zs b m d ds v) := hr; (have LS : Hid (∀ W, Below x1.heap.size x1 W → (fun W => W.cell? ⟨w.heap.size, 0, none⟩ = some (.bool s) ∧ W.cell? ⟨w.heap.size, 1, none⟩ = some (.slice a l c) ∧ W.cell? ⟨w.heap.size, 2, none⟩ = some (.slice b m d)) W) := fun W hb => ⟨(Va.after hb V0).d0, (Va.after hb V0).d1, (Va.after hb V0).d2⟩); have lb_V0 := V0.lt; have L_V0 : Hid (Va x1 (w.heap.size) 32 #[.bool s, .slice a l c, .slice b m d]) := V0; have lb_V1 := V1.lt; have L_V1 : Hid (Va x1 (w.heap.size + 1) 30 #[.bool false, .slice none 0 0]) := V1; have L_hr : Hid (Rt x1 s a l c zs b m d ds v) := hr; have L_B : Hid (Below w.heap.size w x1) := B0; clear V0 V1 hr B0; have BX := Below.refl x1.heap.size x1
 go_cut [3, 4] (fun s3 s4 wx => ∃ (b3 : Nat) (b4 : Nat) (sq : Bool) (aq : Option Addr) (lq kq : Nat) (zq : List Int) (sr : Bool) (ar : Option Addr) (lr kr : Nat) (zr : List Int), s3 = .pointer (some ⟨b3, 0, none⟩) ∧ s4 = .pointer (some ⟨b4, 0, none⟩) ∧ Hid (Va wx b3 30 #[.bool sq, .slice aq lq kq]) ∧ Hid (Va wx b4 30 #[.bool sr, .slice ar lr kr]) ∧ Hid (It wx sq aq lq kq zq) ∧ Hid (It wx sr ar lr kr zr) ∧ Hid (iv sq zq = qfl v ∧ iv sr zr = v.num % (v.den : Int)) ∧ Hid (Below x1.heap.size x1 wx) ∧ Hid (w.heap.size + 2 ≤ b3 ∧ w.heap.size + 2 ≤ b4 ∧ b3 ≠ b4))
 case first =>
  refine wp_region_noPanic ?_; replace BX := Below.drew BX; refine wp_region_held_drew (S := (fun W => W.cell? ⟨w.heap.size, 0, none⟩ = some (.bool s) ∧ W.cell? ⟨w.heap.size, 1, none⟩ = some (.slice a l c) ∧ W.cell? ⟨w.heap.size, 2, none⟩ = some (.slice b m d))) (by kernel_rfl) (LS.out _ BX) (fun hHeld => ?_); (obtain ⟨x2, hxd⟩ : ∃ xd, xd = x1.drew := ⟨_, rfl⟩); rw [← hxd] at BX hHeld ⊢; clear hxd; refine wpAnyH_take (i := 0) (v := ?_) rfl (by kernel_rfl) (by kernel_rfl) (by kernel_rfl) (fun _ _ _ h => h) (Or.inl ⟨by rfl, ?_⟩) hHeld ?_; rotate_left
  · (intro W hSw; (try dsimp only at hSw); go_simp; all_goals (with_reducible rfl))
  simp only [gA, gB, Act.put, gD, gE, gF]; refine wpAnyH_take (i := 1) (v := ?_) rfl (by kernel_rfl) (by kernel_rfl) (by kernel_rfl) (fun _ _ _ h => h) (Or.inl ⟨by rfl, ?_⟩) hHeld ?_; rotate_left
  · (intro W hSw; (try dsimp only at hSw); go_simp; all_goals (with_reducible rfl))
  simp only [gA, gB, gC, Act.put, gD, gE, gF]; refine wpAnyH_take (i := 2) (v := ?_) rfl (by kernel_rfl) (by kernel_rfl) (by kernel_rfl) (fun _ _ _ h => h) (Or.inl ⟨by rfl, ?_⟩) hHeld ?_; rotate_left
  · (intro W hSw; (try dsimp only at hSw); go_simp; all_goals (with_reducible rfl))
  simp only [gA, gB, gC, Act.put, gD, gE, gF]; refine wpAnyH_ready (rs := [3, 10, 11]) (by kernel_rfl) (by simp) ?_; refine AllReadyH.cons rfl (fun K hK => ?_) (AllReadyH.cons rfl (fun K hK => ?_) (AllReadyH.cons rfl (fun K hK => ?_) AllReadyH.nil))
  ·
   simp only [gA, gB, gC]; (go_simp); refine (rden_any s a l c b m d ds _ (Rt.after BX L_hr.out).2.1).mono ?_; rintro e x3 ⟨b3, m3, d3, y3, rfl, h3, e3, hb⟩; replace BX := step BX hb; clear hb; replace e3 := e3.trans L_hr.out.2.2.2.1; (try go_wp2_with fail); refine hK.out _ _ (LS.out _ BX) (fun hHeld => ?_); clear hK K; refine wpAnyH_ready (rs := [4, 10, 11]) (by kernel_rfl) (by simp) ?_; refine AllReadyH.cons rfl (fun K hK => ?_) (AllReadyH.cons rfl (fun K hK => ?_) (AllReadyH.cons rfl (fun K hK => ?_) AllReadyH.nil))
   ·
    simp only [gA, gB, gC]; (go_simp); refine (qabove_any b3 m3 d3 y3 _ h3).mono ?_; rintro e x4 ⟨rfl, h4, hb⟩; replace h3 := Nt.after hb h3; replace BX := step BX hb; clear hb; (try go_wp2_with fail); refine hK.out _ _ (LS.out _ BX) (fun hHeld => ?_); clear hK K; refine wpAnyH_ready (rs := [5, 10, 11]) (by kernel_rfl) (by simp) ?_; refine AllReadyH.cons rfl (fun K hK => ?_) (AllReadyH.cons rfl (fun K hK => ?_) (AllReadyH.cons rfl (fun K hK => ?_) AllReadyH.nil))
    ·
     simp only [gA, gB, gC]; (go_simp); refine (wdiv_ok s false a b3 l c m3 d3 zs y3 _ (Rt.after BX L_hr.out).1 h4 (by show num y3 ≠ 0; rw [e3]; have := v.den_pos; omega)).mono ?_; rintro e x5 ⟨sq, aq, lq, kq, zq, sr, ar, lr, kr, zr, rfl, hq, hr2, d1, d2, hb⟩; replace h3 := Nt.after hb h3; replace h4 := It.after hb h4; replace BX := step BX hb; clear hb
     have ev : iv sq zq = qfl v ∧ iv sr zr = v.num % (v.den : Int) := by
      rw [iv_f, e3] at d1 d2; have hd := v.den_pos; exact qfl_of (by rw [← L_hr.out.2.2.1]; exact d1) (by omega) (by omega)
     clear d1 d2 e3 h3 h4; (try go_wp2_with fail); refine hK.out _ _ (LS.out _ BX) (fun hHeld => ?_); clear hK K; refine wpAnyH_take (i := 6) (v := ?_) rfl (by kernel_rfl) (by kernel_rfl) (by kernel_rfl) (fun _ _ _ h => h) (Or.inl ⟨by rfl, ?_⟩) hHeld ?_; rotate_left
     · (intro W hSw; (try dsimp only at hSw); go_simp; all_goals (with_reducible rfl))
     simp only [gA, gB, gC, Act.put, gD, gE, gF]; refine wpAnyH_take (i := 7) (v := ?_) rfl (by kernel_rfl) (by kernel_rfl) (by kernel_rfl) (fun _ _ _ h => h) (Or.inl ⟨by rfl, ?_⟩) hHeld ?_; rotate_left
     · (intro W hSw; (try dsimp only at hSw); go_simp; all_goals (with_reducible rfl))
     simp only [gA, gB, gC, Act.put, gD, gE, gF]; refine wpAnyH_take (i := 8) (v := ?_) rfl (by kernel_rfl) (by kernel_rfl) (by kernel_rfl) (fun _ _ _ h => h) (Or.inl ⟨by rfl, ?_⟩) hHeld ?_; rotate_left
     · (intro W hSw; (try dsimp only at hSw); go_simp; all_goals (with_reducible rfl))
     simp only [gA, gB, gC, Act.put, gD, gE, gF]; refine wpAnyH_take (i := 9) (v := ?_) rfl (by kernel_rfl) (by kernel_rfl) (by kernel_rfl) (fun _ _ _ h => h) (Or.inl ⟨by rfl, ?_⟩) hHeld ?_; rotate_left
     · (intro W hSw; (try dsimp only at hSw); go_simp; all_goals (with_reducible rfl))
     simp only [gA, gB, gC, Act.put, gD, gE, gF]; refine wpAnyH_ready (rs := [10, 11]) (by kernel_rfl) (by simp) ?_; refine AllReadyH.cons rfl (fun K hK => ?_) (AllReadyH.cons rfl (fun K hK => ?_) AllReadyH.nil)
     ·
      simp only [gA, gB, gC]; (go_simp); have sz_Vq := BX.size; refine ent1 _ _ _ (Q := fun V => K _ V) ?_; intro x6 hb hs_ Vq; replace hq := It.after hb hq; replace hr2 := It.after hb hr2; replace BX := step BX hb; clear hb hs_; refine hK.out _ _ (LS.out _ BX) (fun hHeld => ?_); clear hK K; refine wpAnyH_ready (rs := [11]) (by kernel_rfl) (by simp) ?_; refine AllReadyH.cons rfl (fun K hK => ?_) AllReadyH.nil
      ·
       simp only [gA, gB, gC]; (go_simp); have lt_Vr_Vq := Vq.lt; have sz_Vr := BX.size; refine ent1 _ _ _ (Q := fun V => K _ V) ?_; intro x7 hb hs_ Vr; replace Vq := Va.after hb Vq; replace hq := It.after hb hq; replace hr2 := It.after hb hr2; replace BX := step BX hb; clear hb hs_; refine hK.out _ _ (LS.out _ BX) (fun hHeld => ?_); clear hK K; have c_Vq := Vq.c0; have f0_Vq := Vq.frozen 0; have d_Vq := Vq.c1; have f1_Vq := Vq.frozen 1; have l_Vq := Vq.lt; have m_Vq := Nat.le_of_lt l_Vq; refine wpAnyH_ready (rs := [12]) (by kernel_rfl) (by simp) ?_; refine AllReadyH.cons rfl (fun K hK => ?_) AllReadyH.nil; simp only [gA, gB, gC]; (go_simp); clear c_Vq f0_Vq d_Vq f1_Vq l_Vq m_Vq; refine st2 Vq (.bool sq) (.slice aq lq kq) (Q := fun W => K _ W) ?_; intro x8 V' oth far; replace Vr := oth _ _ _ (by first | omega | assumption | (simp; omega)) Vr; replace hq := hq.far Vq (noInt2 _ _ _ _) far.1; replace hr2 := hr2.far Vq (noInt2 _ _ _ _) far.1; replace BX := far.2 _ _ (by first | omega | (simp; omega)) BX
       replace Vq := V'; clear oth far; refine hK.out _ _ (LS.out _ BX) (fun hHeld => ?_); clear hK K; have c_Vr := Vr.c0; have f0_Vr := Vr.frozen 0; have d_Vr := Vr.c1; have f1_Vr := Vr.frozen 1; have l_Vr := Vr.lt; have m_Vr := Nat.le_of_lt l_Vr; refine wpAnyH_ready (rs := [13]) (by kernel_rfl) (by simp) ?_; refine AllReadyH.cons rfl (fun K hK => ?_) AllReadyH.nil; simp only [gA, gB, gC]; (go_simp); clear c_Vr f0_Vr d_Vr f1_Vr l_Vr m_Vr; refine st2 Vr (.bool sr) (.slice ar lr kr) (Q := fun W => K _ W) ?_; intro x9 V' oth far; replace Vq := oth _ _ _ (by first | omega | assumption | (simp; omega)) Vq; replace hq := hq.far Vr (noInt2 _ _ _ _) far.1; replace hr2 := hr2.far Vr (noInt2 _ _ _ _) far.1; replace BX := far.2 _ _ (by first | omega | (simp; omega)) BX; replace Vr := V'; clear oth far; refine hK.out _ _ (LS.out _ BX) (fun hHeld => ?_); clear hK K; refine wpAnyH_take (i := 14) (v := ?_) rfl (by kernel_rfl) (by kernel_rfl) (by kernel_rfl) (fun _ _ _ h => h) (Or.inl ⟨by rfl, ?_⟩) hHeld ?_
       rotate_left
       · (intro W hSw; (try dsimp only at hSw); go_simp; all_goals (with_reducible rfl))
       simp only [gA, gB, gC, Act.put, gD, gE, gF]; refine wpAnyH_done (by kernel_rfl) ?_ _; refine NoPanic.normal ?_; clear hHeld; (go_wp2_with fail)
       go_meet
       exact ⟨_, _, sq, aq, lq, kq, zq, sr, ar, lr, kr, zr, rfl, rfl, Vq, Vr, hq, hr2, ev, BX, ⟨by omega, by omega, by omega⟩⟩
     ·
      simp only [gA, gB, gC]; (go_simp); have sz_Vr := BX.size; refine ent1 _ _ _ (Q := fun V => K _ V) ?_; intro x6 hb hs_ Vr; replace hq := It.after hb hq; replace hr2 := It.after hb hr2; replace BX := step BX hb; clear hb hs_; refine hK.out _ _ (LS.out _ BX) (fun hHeld => ?_); clear hK K; refine wpAnyH_ready (rs := [10]) (by kernel_rfl) (by simp) ?_; refine AllReadyH.cons rfl (fun K hK => ?_) AllReadyH.nil
      ·
       simp only [gA, gB, gC]; (go_simp); have lt_Vq_Vr := Vr.lt; have sz_Vq := BX.size; refine ent1 _ _ _ (Q := fun V => K _ V) ?_; intro x7 hb hs_ Vq; replace Vr := Va.after hb Vr; replace hq := It.after hb hq; replace hr2 := It.after hb hr2; replace BX := step BX hb; clear hb hs_; refine hK.out _ _ (LS.out _ BX) (fun hHeld => ?_); clear hK K; have c_Vq := Vq.c0; have f0_Vq := Vq.frozen 0; have d_Vq := Vq.c1; have f1_Vq := Vq.frozen 1; have l_Vq := Vq.lt; have m_Vq := Nat.le_of_lt l_Vq; refine wpAnyH_ready (rs := [12]) (by kernel_rfl) (by simp) ?_; refine AllReadyH.cons rfl (fun K hK => ?_) AllReadyH.nil; simp only [gA, gB, gC]; (go_simp); clear c_Vq f0_Vq d_Vq f1_Vq l_Vq m_Vq; refine st2 Vq (.bool sq) (.slice aq lq kq) (Q := fun W => K _ W) ?_; intro x8 V' oth far; replace Vr := oth _ _ _ (by first | omega | assumption | (simp; omega)) Vr; replace hq := hq.far Vq (noInt2 _ _ _ _) far.1; replace hr2 := hr2.far Vq (noInt2 _ _ _ _) far.1; replace BX := far.2 _ _ (by first | omega | (simp; omega)) BX
       replace Vq := V'; clear oth far; refine hK.out _ _ (LS.out _ BX) (fun hHeld => ?_); clear hK K; have c_Vr := Vr.c0; have f0_Vr := Vr.frozen 0; have d_Vr := Vr.c1; have f1_Vr := Vr.frozen 1; have l_Vr := Vr.lt; have m_Vr := Nat.le_of_lt l_Vr; refine wpAnyH_ready (rs := [13]) (by kernel_rfl) (by simp) ?_; refine AllReadyH.cons rfl (fun K hK => ?_) AllReadyH.nil; simp only [gA, gB, gC]; (go_simp); clear c_Vr f0_Vr d_Vr f1_Vr l_Vr m_Vr; refine st2 Vr (.bool sr) (.slice ar lr kr) (Q := fun W => K _ W) ?_; intro x9 V' oth far; replace Vq := oth _ _ _ (by first | omega | assumption | (simp; omega)) Vq; replace hq := hq.far Vr (noInt2 _ _ _ _) far.1; replace hr2 := hr2.far Vr (noInt2 _ _ _ _) far.1; replace BX := far.2 _ _ (by first | omega | (simp; omega)) BX; replace Vr := V'; clear oth far; refine hK.out _ _ (LS.out _ BX) (fun hHeld => ?_); clear hK K; refine wpAnyH_take (i := 14) (v := ?_) rfl (by kernel_rfl) (by kernel_rfl) (by kernel_rfl) (fun _ _ _ h => h) (Or.inl ⟨by rfl, ?_⟩) hHeld ?_
       rotate_left
       · (intro W hSw; (try dsimp only at hSw); go_simp; all_goals (with_reducible rfl))
       simp only [gA, gB, gC, Act.put, gD, gE, gF]; refine wpAnyH_done (by kernel_rfl) ?_ _; refine NoPanic.normal ?_; clear hHeld; (go_wp2_with fail)
       go_meet
       exact ⟨_, _, sq, aq, lq, kq, zq, sr, ar, lr, kr, zr, rfl, rfl, Vq, Vr, hq, hr2, ev, BX, ⟨by omega, by omega, by omega⟩⟩
    ·
     simp only [gA, gB, gC]; (go_simp); have sz_Vq := BX.size; refine ent1 _ _ _ (Q := fun V => K _ V) ?_; intro x5 hb hs_ Vq; replace h3 := Nt.after hb h3; replace h4 := It.after hb h4; replace BX := step BX hb; clear hb hs_; refine hK.out _ _ (LS.out _ BX) (fun hHeld => ?_); clear hK K; refine wpAnyH_ready (rs := [5, 11]) (by kernel_rfl) (by simp) ?_; refine AllReadyH.cons rfl (fun K hK => ?_) (AllReadyH.cons rfl (fun K hK => ?_) AllReadyH.nil)
     ·
      simp only [gA, gB, gC]; (go_simp); refine (wdiv_ok s false a b3 l c m3 d3 zs y3 _ (Rt.after BX L_hr.out).1 h4 (by show num y3 ≠ 0; rw [e3]; have := v.den_pos; omega)).mono ?_; rintro e x6 ⟨sq, aq, lq, kq, zq, sr, ar, lr, kr, zr, rfl, hq, hr2, d1, d2, hb⟩; replace Vq := Va.after hb Vq; replace h3 := Nt.after hb h3; replace h4 := It.after hb h4; replace BX := step BX hb; clear hb
      have ev : iv sq zq = qfl v ∧ iv sr zr = v.num % (v.den : Int) := by
       rw [iv_f, e3] at d1 d2; have hd := v.den_pos; exact qfl_of (by rw [← L_hr.out.2.2.1]; exact d1) (by omega) (by omega)
      clear d1 d2 e3 h3 h4; (try go_wp2_with fail); refine hK.out _ _ (LS.out _ BX) (fun hHeld => ?_); clear hK K; refine wpAnyH_take (i := 6) (v := ?_) rfl (by kernel_rfl) (by kernel_rfl) (by kernel_rfl) (fun _ _ _ h => h) (Or.inl ⟨by rfl, ?_⟩) hHeld ?_; rotate_left
      · (intro W hSw; (try dsimp only at hSw); go_simp; all_goals (with_reducible rfl))
      simp only [gA, gB, gC, Act.put, gD, gE, gF]; refine wpAnyH_take (i := 7) (v := ?_) rfl (by kernel_rfl) (by kernel_rfl) (by kernel_rfl) (fun _ _ _ h => h) (Or.inl ⟨by rfl, ?_⟩) hHeld ?_; rotate_left
      · (intro W hSw; (try dsimp only at hSw); go_simp; all_goals (with_reducible rfl))
      simp only [gA, gB, gC, Act.put, gD, gE, gF]; refine wpAnyH_take (i := 8) (v := ?_) rfl (by kernel_rfl) (by kernel_rfl) (by kernel_rfl) (fun _ _ _ h => h) (Or.inl ⟨by rfl, ?_⟩) hHeld ?_; rotate_left
      · (intro W hSw; (try dsimp only at hSw); go_simp; all_goals (with_reducible rfl))
      simp only [gA, gB, gC, Act.put, gD, gE, gF]; refine wpAnyH_take (i := 9) (v := ?_) rfl (by kernel_rfl) (by kernel_rfl) (by kernel_rfl) (fun _ _ _ h => h) (Or.inl ⟨by rfl, ?_⟩) hHeld ?_; rotate_left
      · (intro W hSw; (try dsimp only at hSw); go_simp; all_goals (with_reducible rfl))
      simp only [gA, gB, gC, Act.put, gD, gE, gF]; refine wpAnyH_ready (rs := [11]) (by kernel_rfl) (by simp) ?_; refine AllReadyH.cons rfl (fun K hK => ?_) AllReadyH.nil
      ·
       simp only [gA, gB, gC]; (go_simp); have lt_Vr_Vq := Vq.lt; have sz_Vr := BX.size; refine ent1 _ _ _ (Q := fun V => K _ V) ?_; intro x7 hb hs_ Vr; replace Vq := Va.after hb Vq; replace hq := It.after hb hq; replace hr2 := It.after hb hr2; replace BX := step BX hb; clear hb hs_; refine hK.out _ _ (LS.out _ BX) (fun hHeld => ?_); clear hK K; have c_Vq := Vq.c0; have f0_Vq := Vq.frozen 0; have d_Vq := Vq.c1; have f1_Vq := Vq.frozen 1; have l_Vq := Vq.lt; have m_Vq := Nat.le_of_lt l_Vq; refine wpAnyH_ready (rs := [12]) (by kernel_rfl) (by simp) ?_; refine AllReadyH.cons rfl (fun K hK => ?_) AllReadyH.nil; simp only [gA, gB, gC]; (go_simp); clear c_Vq f0_Vq d_Vq f1_Vq l_Vq m_Vq; refine st2 Vq (.bool sq) (.slice aq lq kq) (Q := fun W => K _ W) ?_; intro x8 V' oth far; replace Vr := oth _ _ _ (by first | omega | assumption | (simp; omega)) Vr; replace hq := hq.far Vq (noInt2 _ _ _ _) far.1; replace hr2 := hr2.far Vq (noInt2 _ _ _ _) far.1; replace BX := far.2 _ _ (by first | omega | (simp; omega)) BX
       replace Vq := V'; clear oth far; refine hK.out _ _ (LS.out _ BX) (fun hHeld => ?_); clear hK K; have c_Vr := Vr.c0; have f0_Vr := Vr.frozen 0; have d_Vr := Vr.c1; have f1_Vr := Vr.frozen 1; have l_Vr := Vr.lt; have m_Vr := Nat.le_of_lt l_Vr; refine wpAnyH_ready (rs := [13]) (by kernel_rfl) (by simp) ?_; refine AllReadyH.cons rfl (fun K hK => ?_) AllReadyH.nil; simp only [gA, gB, gC]; (go_simp); clear c_Vr f0_Vr d_Vr f1_Vr l_Vr m_Vr; refine st2 Vr (.bool sr) (.slice ar lr kr) (Q := fun W => K _ W) ?_; intro x9 V' oth far; replace Vq := oth _ _ _ (by first | omega | assumption | (simp; omega)) Vq; replace hq := hq.far Vr (noInt2 _ _ _ _) far.1; replace hr2 := hr2.far Vr (noInt2 _ _ _ _) far.1; replace BX := far.2 _ _ (by first | omega | (simp; omega)) BX; replace Vr := V'; clear oth far; refine hK.out _ _ (LS.out _ BX) (fun hHeld => ?_); clear hK K; refine wpAnyH_take (i := 14) (v := ?_) rfl (by kernel_rfl) (by kernel_rfl) (by kernel_rfl) (fun _ _ _ h => h) (Or.inl ⟨by rfl, ?_⟩) hHeld ?_
       rotate_left
       · (intro W hSw; (try dsimp only at hSw); go_simp; all_goals (with_reducible rfl))
       simp only [gA, gB, gC, Act.put, gD, gE, gF]; refine wpAnyH_done (by kernel_rfl) ?_ _; refine NoPanic.normal ?_; clear hHeld; (go_wp2_with fail)
       go_meet
       exact ⟨_, _, sq, aq, lq, kq, zq, sr, ar, lr, kr, zr, rfl, rfl, Vq, Vr, hq, hr2, ev, BX, ⟨by omega, by omega, by omega⟩⟩
     ·
      simp only [gA, gB, gC]; (go_simp); have lt_Vr_Vq := Vq.lt; have sz_Vr := BX.size; refine ent1 _ _ _ (Q := fun V => K _ V) ?_; intro x6 hb hs_ Vr; replace Vq := Va.after hb Vq; replace h3 := Nt.after hb h3; replace h4 := It.after hb h4; replace BX := step BX hb; clear hb hs_; refine hK.out _ _ (LS.out _ BX) (fun hHeld => ?_); clear hK K; refine wpAnyH_ready (rs := [5]) (by kernel_rfl) (by simp) ?_; refine AllReadyH.cons rfl (fun K hK => ?_) AllReadyH.nil
      ·
       simp only [gA, gB, gC]; (go_simp); refine (wdiv_ok s false a b3 l c m3 d3 zs y3 _ (Rt.after BX L_hr.out).1 h4 (by show num y3 ≠ 0; rw [e3]; have := v.den_pos; omega)).mono ?_; rintro e x7 ⟨sq, aq, lq, kq, zq, sr, ar, lr, kr, zr, rfl, hq, hr2, d1, d2, hb⟩; replace Vq := Va.after hb Vq; replace Vr := Va.after hb Vr; replace h3 := Nt.after hb h3; replace h4 := It.after hb h4; replace BX := step BX hb; clear hb
       have ev : iv sq zq = qfl v ∧ iv sr zr = v.num % (v.den : Int) := by
        rw [iv_f, e3] at d1 d2; have hd := v.den_pos; exact qfl_of (by rw [← L_hr.out.2.2.1]; exact d1) (by omega) (by omega)
       clear d1 d2 e3 h3 h4; (try go_wp2_with fail); refine hK.out _ _ (LS.out _ BX) (fun hHeld => ?_); clear hK K; refine wpAnyH_take (i := 6) (v := ?_) rfl (by kernel_rfl) (by kernel_rfl) (by kernel_rfl) (fun _ _ _ h => h) (Or.inl ⟨by rfl, ?_⟩) hHeld ?_; rotate_left
       · (intro W hSw; (try dsimp only at hSw); go_simp; all_goals (with_reducible rfl))
       simp only [gA, gB, gC, Act.put, gD, gE, gF]; refine wpAnyH_take (i := 7) (v := ?_) rfl (by kernel_rfl) (by kernel_rfl) (by kernel_rfl) (fun _ _ _ h => h) (Or.inl ⟨by rfl, ?_⟩) hHeld ?_; rotate_left
       · (intro W hSw; (try dsimp only at hSw); go_simp; all_goals (with_reducible rfl))
       simp only [gA, gB, gC, Act.put, gD, gE, gF]; refine wpAnyH_take (i := 8) (v := ?_) rfl (by kernel_rfl) (by kernel_rfl) (by kernel_rfl) (fun _ _ _ h => h) (Or.inl ⟨by rfl, ?_⟩) hHeld ?_; rotate_left
       · (intro W hSw; (try dsimp only at hSw); go_simp; all_goals (with_reducible rfl))
       simp only [gA, gB, gC, Act.put, gD, gE, gF]; refine wpAnyH_take (i := 9) (v := ?_) rfl (by kernel_rfl) (by kernel_rfl) (by kernel_rfl) (fun _ _ _ h => h) (Or.inl ⟨by rfl, ?_⟩) hHeld ?_; rotate_left
       · (intro W hSw; (try dsimp only at hSw); go_simp; all_goals (with_reducible rfl))
       simp only [gA, gB, gC, Act.put, gD, gE, gF]; have c_Vq := Vq.c0; have f0_Vq := Vq.frozen 0; have d_Vq := Vq.c1; have f1_Vq := Vq.frozen 1; have l_Vq := Vq.lt; have m_Vq := Nat.le_of_lt l_Vq; refine wpAnyH_ready (rs := [12]) (by kernel_rfl) (by simp) ?_; refine AllReadyH.cons rfl (fun K hK => ?_) AllReadyH.nil; simp only [gA, gB, gC]; (go_simp); clear c_Vq f0_Vq d_Vq f1_Vq l_Vq m_Vq; refine st2 Vq (.bool sq) (.slice aq lq kq) (Q := fun W => K _ W) ?_; intro x8 V' oth far; replace Vr := oth _ _ _ (by first | omega | assumption | (simp; omega)) Vr; replace hq := hq.far Vq (noInt2 _ _ _ _) far.1; replace hr2 := hr2.far Vq (noInt2 _ _ _ _) far.1; replace BX := far.2 _ _ (by first | omega | (simp; omega)) BX; replace Vq := V'; clear oth far; refine hK.out _ _ (LS.out _ BX) (fun hHeld => ?_); clear hK K; have c_Vr := Vr.c0; have f0_Vr := Vr.frozen 0; have d_Vr := Vr.c1; have f1_Vr := Vr.frozen 1; have l_Vr := Vr.lt; have m_Vr := Nat.le_of_lt l_Vr; refine wpAnyH_ready (rs := [13]) (by kernel_rfl) (by simp) ?_
       refine AllReadyH.cons rfl (fun K hK => ?_) AllReadyH.nil; simp only [gA, gB, gC]; (go_simp); clear c_Vr f0_Vr d_Vr f1_Vr l_Vr m_Vr; refine st2 Vr (.bool sr) (.slice ar lr kr) (Q := fun W => K _ W) ?_; intro x9 V' oth far; replace Vq := oth _ _ _ (by first | omega | assumption | (simp; omega)) Vq; replace hq := hq.far Vr (noInt2 _ _ _ _) far.1; replace hr2 := hr2.far Vr (noInt2 _ _ _ _) far.1; replace BX := far.2 _ _ (by first | omega | (simp; omega)) BX; replace Vr := V'; clear oth far; refine hK.out _ _ (LS.out _ BX) (fun hHeld => ?_); clear hK K; refine wpAnyH_take (i := 14) (v := ?_) rfl (by kernel_rfl) (by kernel_rfl) (by kernel_rfl) (fun _ _ _ h => h) (Or.inl ⟨by rfl, ?_⟩) hHeld ?_; rotate_left
       · (intro W hSw; (try dsimp only at hSw); go_simp; all_goals (with_reducible rfl))
       simp only [gA, gB, gC, Act.put, gD, gE, gF]; refine wpAnyH_done (by kernel_rfl) ?_ _; refine NoPanic.normal ?_; clear hHeld; (go_wp2_with fail)
       go_meet
       exact ⟨_, _, sq, aq, lq, kq, zq, sr, ar, lr, kr, zr, rfl, rfl, Vq, Vr, hq, hr2, ev, BX, ⟨by omega, by omega, by omega⟩⟩
    ·
     simp only [gA, gB, gC]; (go_simp); have sz_Vr := BX.size; refine ent1 _ _ _ (Q := fun V => K _ V) ?_; intro x5 hb hs_ Vr; replace h3 := Nt.after hb h3; replace h4 := It.after hb h4; replace BX := step BX hb; clear hb hs_; refine hK.out _ _ (LS.out _ BX) (fun hHeld => ?_); clear hK K; refine wpAnyH_ready (rs := [5, 10]) (by kernel_rfl) (by simp) ?_; refine AllReadyH.cons rfl (fun K hK => ?_) (AllReadyH.cons rfl (fun K hK => ?_) AllReadyH.nil)
     ·
      simp only [gA, gB, gC]; (go_simp); refine (wdiv_ok s false a b3 l c m3 d3 zs y3 _ (Rt.after BX L_hr.out).1 h4 (by show num y3 ≠ 0; rw [e3]; have := v.den_pos; omega)).mono ?_; rintro e x6 ⟨sq, aq, lq, kq, zq, sr, ar, lr, kr, zr, rfl, hq, hr2, d1, d2, hb⟩; replace Vr := Va.after hb Vr; replace h3 := Nt.after hb h3; replace h4 := It.after hb h4; replace BX := step BX hb; clear hb
      have ev : iv sq zq = qfl v ∧ iv sr zr = v.num % (v.den : Int) := by
       rw [iv_f, e3] at d1 d2; have hd := v.den_pos; exact qfl_of (by rw [← L_hr.out.2.2.1]; exact d1) (by omega) (by omega)
      clear d1 d2 e3 h3 h4; (try go_wp2_with fail); refine hK.out _ _ (LS.out _ BX) (fun hHeld => ?_); clear hK K; refine wpAnyH_take (i := 6) (v := ?_) rfl (by kernel_rfl) (by kernel_rfl) (by kernel_rfl) (fun _ _ _ h => h) (Or.inl ⟨by rfl, ?_⟩) hHeld ?_; rotate_left
      · (intro W hSw; (try dsimp only at hSw); go_simp; all_goals (with_reducible rfl))
      simp only [gA, gB, gC, Act.put, gD, gE, gF]; refine wpAnyH_take (i := 7) (v := ?_) rfl (by kernel_rfl) (by kernel_rfl) (by kernel_rfl) (fun _ _ _ h => h) (Or.inl ⟨by rfl, ?_⟩) hHeld ?_; rotate_left
      · (intro W hSw; (try dsimp only at hSw); go_simp; all_goals (with_reducible rfl))
      simp only [gA, gB, gC, Act.put, gD, gE, gF]; refine wpAnyH_take (i := 8) (v := ?_) rfl (by kernel_rfl) (by kernel_rfl) (by kernel_rfl) (fun _ _ _ h => h) (Or.inl ⟨by rfl, ?_⟩) hHeld ?_; rotate_left
      · (intro W hSw; (try dsimp only at hSw); go_simp; all_goals (with_reducible rfl))
      simp only [gA, gB, gC, Act.put, gD, gE, gF]; refine wpAnyH_take (i := 9) (v := ?_) rfl (by kernel_rfl) (by kernel_rfl) (by kernel_rfl) (fun _ _ _ h => h) (Or.inl ⟨by rfl, ?_⟩) hHeld ?_; rotate_left
      · (intro W hSw; (try dsimp only at hSw); go_simp; all_goals (with_reducible rfl))
      simp only [gA, gB, gC, Act.put, gD, gE, gF]; refine wpAnyH_ready (rs := [10]) (by kernel_rfl) (by simp) ?_; refine AllReadyH.cons rfl (fun K hK => ?_) AllReadyH.nil
      ·
       simp only [gA, gB, gC]; (go_simp); have lt_Vq_Vr := Vr.lt; have sz_Vq := BX.size; refine ent1 _ _ _ (Q := fun V => K _ V) ?_; intro x7 hb hs_ Vq; replace Vr := Va.after hb Vr; replace hq := It.after hb hq; replace hr2 := It.after hb hr2; replace BX := step BX hb; clear hb hs_; refine hK.out _ _ (LS.out _ BX) (fun hHeld => ?_); clear hK K; have c_Vq := Vq.c0; have f0_Vq := Vq.frozen 0; have d_Vq := Vq.c1; have f1_Vq := Vq.frozen 1; have l_Vq := Vq.lt; have m_Vq := Nat.le_of_lt l_Vq; refine wpAnyH_ready (rs := [12]) (by kernel_rfl) (by simp) ?_; refine AllReadyH.cons rfl (fun K hK => ?_) AllReadyH.nil; simp only [gA, gB, gC]; (go_simp); clear c_Vq f0_Vq d_Vq f1_Vq l_Vq m_Vq; refine st2 Vq (.bool sq) (.slice aq lq kq) (Q := fun W => K _ W) ?_; intro x8 V' oth far; replace Vr := oth _ _ _ (by first | omega | assumption | (simp; omega)) Vr; replace hq := hq.far Vq (noInt2 _ _ _ _) far.1; replace hr2 := hr2.far Vq (noInt2 _ _ _ _) far.1; replace BX := far.2 _ _ (by first | omega | (simp; omega)) BX
       replace Vq := V'; clear oth far; refine hK.out _ _ (LS.out _ BX) (fun hHeld => ?_); clear hK K; have c_Vr := Vr.c0; have f0_Vr := Vr.frozen 0; have d_Vr := Vr.c1; have f1_Vr := Vr.frozen 1; have l_Vr := Vr.lt; have m_Vr := Nat.le_of_lt l_Vr; refine wpAnyH_ready (rs := [13]) (by kernel_rfl) (by simp) ?_; refine AllReadyH.cons rfl (fun K hK => ?_) AllReadyH.nil; simp only [gA, gB, gC]; (go_simp); clear c_Vr f0_Vr d_Vr f1_Vr l_Vr m_Vr; refine st2 Vr (.bool sr) (.slice ar lr kr) (Q := fun W => K _ W) ?_; intro x9 V' oth far; replace Vq := oth _ _ _ (by first | omega | assumption | (simp; omega)) Vq; replace hq := hq.far Vr (noInt2 _ _ _ _) far.1; replace hr2 := hr2.far Vr (noInt2 _ _ _ _) far.1; replace BX := far.2 _ _ (by first | omega | (simp; omega)) BX; replace Vr := V'; clear oth far; refine hK.out _ _ (LS.out _ BX) (fun hHeld => ?_); clear hK K; refine wpAnyH_take (i := 14) (v := ?_) rfl (by kernel_rfl) (by kernel_rfl) (by kernel_rfl) (fun _ _ _ h => h) (Or.inl ⟨by rfl, ?_⟩) hHeld ?_
       rotate_left
       · (intro W hSw; (try dsimp only at hSw); go_simp; all_goals (with_reducible rfl))
       simp only [gA, gB, gC, Act.put, gD, gE, gF]; refine wpAnyH_done (by kernel_rfl) ?_ _; refine NoPanic.normal ?_; clear hHeld; (go_wp2_with fail)
       go_meet
       exact ⟨_, _, sq, aq, lq, kq, zq, sr, ar, lr, kr, zr, rfl, rfl, Vq, Vr, hq, hr2, ev, BX, ⟨by omega, by omega, by omega⟩⟩
     ·
      simp only [gA, gB, gC]; (go_simp); have lt_Vq_Vr := Vr.lt; have sz_Vq := BX.size; refine ent1 _ _ _ (Q := fun V => K _ V) ?_; intro x6 hb hs_ Vq; replace Vr := Va.after hb Vr; replace h3 := Nt.after hb h3; replace h4 := It.after hb h4; replace BX := step BX hb; clear hb hs_; refine hK.out _ _ (LS.out _ BX) (fun hHeld => ?_); clear hK K; refine wpAnyH_ready (rs := [5]) (by kernel_rfl) (by simp) ?_; refine AllReadyH.cons rfl (fun K hK => ?_) AllReadyH.nil
      ·
       simp only [gA, gB, gC]; (go_simp); refine (wdiv_ok s false a b3 l c m3 d3 zs y3 _ (Rt.after BX L_hr.out).1 h4 (by show num y3 ≠ 0; rw [e3]; have := v.den_pos; omega)).mono ?_; rintro e x7 ⟨sq, aq, lq, kq, zq, sr, ar, lr, kr, zr, rfl, hq, hr2, d1, d2, hb⟩; replace Vr := Va.after hb Vr; replace Vq := Va.after hb Vq; replace h3 := Nt.after hb h3; replace h4 := It.after hb h4; replace BX := step BX hb; clear hb
       have ev : iv sq zq = qfl v ∧ iv sr zr = v.num % (v.den : Int) := by
        rw [iv_f, e3] at d1 d2; have hd := v.den_pos; exact qfl_of (by rw [← L_hr.out.2.2.1]; exact d1) (by omega) (by omega)
       clear d1 d2 e3 h3 h4; (try go_wp2_with fail); refine hK.out _ _ (LS.out _ BX) (fun hHeld => ?_); clear hK K; refine wpAnyH_take (i := 6) (v := ?_) rfl (by kernel_rfl) (by kernel_rfl) (by kernel_rfl) (fun _ _ _ h => h) (Or.inl ⟨by rfl, ?_⟩) hHeld ?_; rotate_left
       · (intro W hSw; (try dsimp only at hSw); go_simp; all_goals (with_reducible rfl))
       simp only [gA, gB, gC, Act.put, gD, gE, gF]; refine wpAnyH_take (i := 7) (v := ?_) rfl (by kernel_rfl) (by kernel_rfl) (by kernel_rfl) (fun _ _ _ h => h) (Or.inl ⟨by rfl, ?_⟩) hHeld ?_; rotate_left
       · (intro W hSw; (try dsimp only at hSw); go_simp; all_goals (with_reducible rfl))
       simp only [gA, gB, gC, Act.put, gD, gE, gF]; refine wpAnyH_take (i := 8) (v := ?_) rfl (by kernel_rfl) (by kernel_rfl) (by kernel_rfl) (fun _ _ _ h => h) (Or.inl ⟨by rfl, ?_⟩) hHeld ?_; rotate_left
       · (intro W hSw; (try dsimp only at hSw); go_simp; all_goals (with_reducible rfl))
       simp only [gA, gB, gC, Act.put, gD, gE, gF]; refine wpAnyH_take (i := 9) (v := ?_) rfl (by kernel_rfl) (by kernel_rfl) (by kernel_rfl) (fun _ _ _ h => h) (Or.inl ⟨by rfl, ?_⟩) hHeld ?_; rotate_left
       · (intro W hSw; (try dsimp only at hSw); go_simp; all_goals (with_reducible rfl))
       simp only [gA, gB, gC, Act.put, gD, gE, gF]; have c_Vq := Vq.c0; have f0_Vq := Vq.frozen 0; have d_Vq := Vq.c1; have f1_Vq := Vq.frozen 1; have l_Vq := Vq.lt; have m_Vq := Nat.le_of_lt l_Vq; refine wpAnyH_ready (rs := [12]) (by kernel_rfl) (by simp) ?_; refine AllReadyH.cons rfl (fun K hK => ?_) AllReadyH.nil; simp only [gA, gB, gC]; (go_simp); clear c_Vq f0_Vq d_Vq f1_Vq l_Vq m_Vq; refine st2 Vq (.bool sq) (.slice aq lq kq) (Q := fun W => K _ W) ?_; intro x8 V' oth far; replace Vr := oth _ _ _ (by first | omega | assumption | (simp; omega)) Vr; replace hq := hq.far Vq (noInt2 _ _ _ _) far.1; replace hr2 := hr2.far Vq (noInt2 _ _ _ _) far.1; replace BX := far.2 _ _ (by first | omega | (simp; omega)) BX; replace Vq := V'; clear oth far; refine hK.out _ _ (LS.out _ BX) (fun hHeld => ?_); clear hK K; have c_Vr := Vr.c0; have f0_Vr := Vr.frozen 0; have d_Vr := Vr.c1; have f1_Vr := Vr.frozen 1; have l_Vr := Vr.lt; have m_Vr := Nat.le_of_lt l_Vr; refine wpAnyH_ready (rs := [13]) (by kernel_rfl) (by simp) ?_
       refine AllReadyH.cons rfl (fun K hK => ?_) AllReadyH.nil; simp only [gA, gB, gC]; (go_simp); clear c_Vr f0_Vr d_Vr f1_Vr l_Vr m_Vr; refine st2 Vr (.bool sr) (.slice ar lr kr) (Q := fun W => K _ W) ?_; intro x9 V' oth far; replace Vq := oth _ _ _ (by first | omega | assumption | (simp; omega)) Vq; replace hq := hq.far Vr (noInt2 _ _ _ _) far.1; replace hr2 := hr2.far Vr (noInt2 _ _ _ _) far.1; replace BX := far.2 _ _ (by first | omega | (simp; omega)) BX; replace Vr := V'; clear oth far; refine hK.out _ _ (LS.out _ BX) (fun hHeld => ?_); clear hK K; refine wpAnyH_take (i := 14) (v := ?_) rfl (by kernel_rfl) (by kernel_rfl) (by kernel_rfl) (fun _ _ _ h => h) (Or.inl ⟨by rfl, ?_⟩) hHeld ?_; rotate_left
       · (intro W hSw; (try dsimp only at hSw); go_simp; all_goals (with_reducible rfl))
       simp only [gA, gB, gC, Act.put, gD, gE, gF]; refine wpAnyH_done (by kernel_rfl) ?_ _; refine NoPanic.normal ?_; clear hHeld; (go_wp2_with fail)
       go_meet
       exact ⟨_, _, sq, aq, lq, kq, zq, sr, ar, lr, kr, zr, rfl, rfl, Vq, Vr, hq, hr2, ev, BX, ⟨by omega, by omega, by omega⟩⟩
   ·
    simp only [gA, gB, gC]; (go_simp); have sz_Vq := BX.size; refine ent1 _ _ _ (Q := fun V => K _ V) ?_; intro x4 hb hs_ Vq; replace h3 := Nt.after hb h3; replace BX := step BX hb; clear hb hs_; refine hK.out _ _ (LS.out _ BX) (fun hHeld => ?_); clear hK K; refine wpAnyH_ready (rs := [4, 11]) (by kernel_rfl) (by simp) ?_; refine AllReadyH.cons rfl (fun K hK => ?_) (AllReadyH.cons rfl (fun K hK => ?_) AllReadyH.nil)
    ·
     simp only [gA, gB, gC]; (go_simp); refine (qabove_any b3 m3 d3 y3 _ h3).mono ?_; rintro e x5 ⟨rfl, h4, hb⟩; replace Vq := Va.after hb Vq; replace h3 := Nt.after hb h3; replace BX := step BX hb; clear hb; (try go_wp2_with fail); refine hK.out _ _ (LS.out _ BX) (fun hHeld => ?_); clear hK K; refine wpAnyH_ready (rs := [5, 11]) (by kernel_rfl) (by simp) ?_; refine AllReadyH.cons rfl (fun K hK => ?_) (AllReadyH.cons rfl (fun K hK => ?_) AllReadyH.nil)
     ·
      simp only [gA, gB, gC]; (go_simp); refine (wdiv_ok s false a b3 l c m3 d3 zs y3 _ (Rt.after BX L_hr.out).1 h4 (by show num y3 ≠ 0; rw [e3]; have := v.den_pos; omega)).mono ?_; rintro e x6 ⟨sq, aq, lq, kq, zq, sr, ar, lr, kr, zr, rfl, hq, hr2, d1, d2, hb⟩; replace Vq := Va.after hb Vq; replace h3 := Nt.after hb h3; replace h4 := It.after hb h4; replace BX := step BX hb; clear hb
      have ev : iv sq zq = qfl v ∧ iv sr zr = v.num % (v.den : Int) := by
       rw [iv_f, e3] at d1 d2; have hd := v.den_pos; exact qfl_of (by rw [← L_hr.out.2.2.1]; exact d1) (by omega) (by omega)
      clear d1 d2 e3 h3 h4; (try go_wp2_with fail); refine hK.out _ _ (LS.out _ BX) (fun hHeld => ?_); clear hK K; refine wpAnyH_take (i := 6) (v := ?_) rfl (by kernel_rfl) (by kernel_rfl) (by kernel_rfl) (fun _ _ _ h => h) (Or.inl ⟨by rfl, ?_⟩) hHeld ?_; rotate_left
      · (intro W hSw; (try dsimp only at hSw); go_simp; all_goals (with_reducible rfl))
      simp only [gA, gB, gC, Act.put, gD, gE, gF]; refine wpAnyH_take (i := 7) (v := ?_) rfl (by kernel_rfl) (by kernel_rfl) (by kernel_rfl) (fun _ _ _ h => h) (Or.inl ⟨by rfl, ?_⟩) hHeld ?_; rotate_left
      · (intro W hSw; (try dsimp only at hSw); go_simp; all_goals (with_reducible rfl))
      simp only [gA, gB, gC, Act.put, gD, gE, gF]; refine wpAnyH_take (i := 8) (v := ?_) rfl (by kernel_rfl) (by kernel_rfl) (by kernel_rfl) (fun _ _ _ h => h) (Or.inl ⟨by rfl, ?_⟩) hHeld ?_; rotate_left
      · (intro W hSw; (try dsimp only at hSw); go_simp; all_goals (with_reducible rfl))
      simp only [gA, gB, gC, Act.put, gD, gE, gF]; refine wpAnyH_take (i := 9) (v := ?_) rfl (by kernel_rfl) (by kernel_rfl) (by kernel_rfl) (fun _ _ _ h => h) (Or.inl ⟨by rfl, ?_⟩) hHeld ?_; rotate_left
      · (intro W hSw; (try dsimp only at hSw); go_simp; all_goals (with_reducible rfl))
      simp only [gA, gB, gC, Act.put, gD, gE, gF]; refine wpAnyH_ready (rs := [11]) (by kernel_rfl) (by simp) ?_; refine AllReadyH.cons rfl (fun K hK => ?_) AllReadyH.nil
      ·
       simp only [gA, gB, gC]; (go_simp); have lt_Vr_Vq := Vq.lt; have sz_Vr := BX.size; refine ent1 _ _ _ (Q := fun V => K _ V) ?_; intro x7 hb hs_ Vr; replace Vq := Va.after hb Vq; replace hq := It.after hb hq; replace hr2 := It.after hb hr2; replace BX := step BX hb; clear hb hs_; refine hK.out _ _ (LS.out _ BX) (fun hHeld => ?_); clear hK K; have c_Vq := Vq.c0; have f0_Vq := Vq.frozen 0; have d_Vq := Vq.c1; have f1_Vq := Vq.frozen 1; have l_Vq := Vq.lt; have m_Vq := Nat.le_of_lt l_Vq; refine wpAnyH_ready (rs := [12]) (by kernel_rfl) (by simp) ?_; refine AllReadyH.cons rfl (fun K hK => ?_) AllReadyH.nil; simp only [gA, gB, gC]; (go_simp); clear c_Vq f0_Vq d_Vq f1_Vq l_Vq m_Vq; refine st2 Vq (.bool sq) (.slice aq lq kq) (Q := fun W => K _ W) ?_; intro x8 V' oth far; replace Vr := oth _ _ _ (by first | omega | assumption | (simp; omega)) Vr; replace hq := hq.far Vq (noInt2 _ _ _ _) far.1; replace hr2 := hr2.far Vq (noInt2 _ _ _ _) far.1; replace BX := far.2 _ _ (by first | omega | (simp; omega)) BX
       replace Vq := V'; clear oth far; refine hK.out _ _ (LS.out _ BX) (fun hHeld => ?_); clear hK K; have c_Vr := Vr.c0; have f0_Vr := Vr.frozen 0; have d_Vr := Vr.c1; have f1_Vr := Vr.frozen 1; have l_Vr := Vr.lt; have m_Vr := Nat.le_of_lt l_Vr; refine wpAnyH_ready (rs := [13]) (by kernel_rfl) (by simp) ?_; refine AllReadyH.cons rfl (fun K hK => ?_) AllReadyH.nil; simp only [gA, gB, gC]; (go_simp); clear c_Vr f0_Vr d_Vr f1_Vr l_Vr m_Vr; refine st2 Vr (.bool sr) (.slice ar lr kr) (Q := fun W => K _ W) ?_; intro x9 V' oth far; replace Vq := oth _ _ _ (by first | omega | assumption | (simp; omega)) Vq; replace hq := hq.far Vr (noInt2 _ _ _ _) far.1; replace hr2 := hr2.far Vr (noInt2 _ _ _ _) far.1; replace BX := far.2 _ _ (by first | omega | (simp; omega)) BX; replace Vr := V'; clear oth far; refine hK.out _ _ (LS.out _ BX) (fun hHeld => ?_); clear hK K; refine wpAnyH_take (i := 14) (v := ?_) rfl (by kernel_rfl) (by kernel_rfl) (by kernel_rfl) (fun _ _ _ h => h) (Or.inl ⟨by rfl, ?_⟩) hHeld ?_
       rotate_left
       · (intro W hSw; (try dsimp only at hSw); go_simp; all_goals (with_reducible rfl))
       simp only [gA, gB, gC, Act.put, gD, gE, gF]; refine wpAnyH_done (by kernel_rfl) ?_ _; refine NoPanic.normal ?_; clear hHeld; (go_wp2_with fail)
       go_meet
       exact ⟨_, _, sq, aq, lq, kq, zq, sr, ar, lr, kr, zr, rfl, rfl, Vq, Vr, hq, hr2, ev, BX, ⟨by omega, by omega, by omega⟩⟩
     ·
      simp only [gA, gB, gC]; (go_simp); have lt_Vr_Vq := Vq.lt; have sz_Vr := BX.size; refine ent1 _ _ _ (Q := fun V => K _ V) ?_; intro x6 hb hs_ Vr; replace Vq := Va.after hb Vq; replace h3 := Nt.after hb h3; replace h4 := It.after hb h4; replace BX := step BX hb; clear hb hs_; refine hK.out _ _ (LS.out _ BX) (fun hHeld => ?_); clear hK K; refine wpAnyH_ready (rs := [5]) (by kernel_rfl) (by simp) ?_; refine AllReadyH.cons rfl (fun K hK => ?_) AllReadyH.nil
      ·
       simp only [gA, gB, gC]; (go_simp); refine (wdiv_ok s false a b3 l c m3 d3 zs y3 _ (Rt.after BX L_hr.out).1 h4 (by show num y3 ≠ 0; rw [e3]; have := v.den_pos; omega)).mono ?_; rintro e x7 ⟨sq, aq, lq, kq, zq, sr, ar, lr, kr, zr, rfl, hq, hr2, d1, d2, hb⟩; replace Vq := Va.after hb Vq; replace Vr := Va.after hb Vr; replace h3 := Nt.after hb h3; replace h4 := It.after hb h4; replace BX := step BX hb; clear hb
       have ev : iv sq zq = qfl v ∧ iv sr zr = v.num % (v.den : Int) := by
        rw [iv_f, e3] at d1 d2; have hd := v.den_pos; exact qfl_of (by rw [← L_hr.out.2.2.1]; exact d1) (by omega) (by omega)
       clear d1 d2 e3 h3 h4; (try go_wp2_with fail); refine hK.out _ _ (LS.out _ BX) (fun hHeld => ?_); clear hK K; refine wpAnyH_take (i := 6) (v := ?_) rfl (by kernel_rfl) (by kernel_rfl) (by kernel_rfl) (fun _ _ _ h => h) (Or.inl ⟨by rfl, ?_⟩) hHeld ?_; rotate_left
       · (intro W hSw; (try dsimp only at hSw); go_simp; all_goals (with_reducible rfl))
       simp only [gA, gB, gC, Act.put, gD, gE, gF]; refine wpAnyH_take (i := 7) (v := ?_) rfl (by kernel_rfl) (by kernel_rfl) (by kernel_rfl) (fun _ _ _ h => h) (Or.inl ⟨by rfl, ?_⟩) hHeld ?_; rotate_left
       · (intro W hSw; (try dsimp only at hSw); go_simp; all_goals (with_reducible rfl))
       simp only [gA, gB, gC, Act.put, gD, gE, gF]; refine wpAnyH_take (i := 8) (v := ?_) rfl (by kernel_rfl) (by kernel_rfl) (by kernel_rfl) (fun _ _ _ h => h) (Or.inl ⟨by rfl, ?_⟩) hHeld ?_; rotate_left
       · (intro W hSw; (try dsimp only at hSw); go_simp; all_goals (with_reducible rfl))
       simp only [gA, gB, gC, Act.put, gD, gE, gF]; refine wpAnyH_take (i := 9) (v := ?_) rfl (by kernel_rfl) (by kernel_rfl) (by kernel_rfl) (fun _ _ _ h => h) (Or.inl ⟨by rfl, ?_⟩) hHeld ?_; rotate_left
       · (intro W hSw; (try dsimp only at hSw); go_simp; all_goals (with_reducible rfl))
       simp only [gA, gB, gC, Act.put, gD, gE, gF]; have c_Vq := Vq.c0; have f0_Vq := Vq.frozen 0; have d_Vq := Vq.c1; have f1_Vq := Vq.frozen 1; have l_Vq := Vq.lt; have m_Vq := Nat.le_of_lt l_Vq; refine wpAnyH_ready (rs := [12]) (by kernel_rfl) (by simp) ?_; refine AllReadyH.cons rfl (fun K hK => ?_) AllReadyH.nil; simp only [gA, gB, gC]; (go_simp); clear c_Vq f0_Vq d_Vq f1_Vq l_Vq m_Vq; refine st2 Vq (.bool sq) (.slice aq lq kq) (Q := fun W => K _ W) ?_; intro x8 V' oth far; replace Vr := oth _ _ _ (by first | omega | assumption | (simp; omega)) Vr; replace hq := hq.far Vq (noInt2 _ _ _ _) far.1; replace hr2 := hr2.far Vq (noInt2 _ _ _ _) far.1; replace BX := far.2 _ _ (by first | omega | (simp; omega)) BX; replace Vq := V'; clear oth far; refine hK.out _ _ (LS.out _ BX) (fun hHeld => ?_); clear hK K; have c_Vr := Vr.c0; have f0_Vr := Vr.frozen 0; have d_Vr := Vr.c1; have f1_Vr := Vr.frozen 1; have l_Vr := Vr.lt; have m_Vr := Nat.le_of_lt l_Vr; refine wpAnyH_ready (rs := [13]) (by kernel_rfl) (by simp) ?_
       refine AllReadyH.cons rfl (fun K hK => ?_) AllReadyH.nil; simp only [gA, gB, gC]; (go_simp); clear c_Vr f0_Vr d_Vr f1_Vr l_Vr m_Vr; refine st2 Vr (.bool sr) (.slice ar lr kr) (Q := fun W => K _ W) ?_; intro x9 V' oth far; replace Vq := oth _ _ _ (by first | omega | assumption | (simp; omega)) Vq; replace hq := hq.far Vr (noInt2 _ _ _ _) far.1; replace hr2 := hr2.far Vr (noInt2 _ _ _ _) far.1; replace BX := far.2 _ _ (by first | omega | (simp; omega)) BX; replace Vr := V'; clear oth far; refine hK.out _ _ (LS.out _ BX) (fun hHeld => ?_); clear hK K; refine wpAnyH_take (i := 14) (v := ?_) rfl (by kernel_rfl) (by kernel_rfl) (by kernel_rfl) (fun _ _ _ h => h) (Or.inl ⟨by rfl, ?_⟩) hHeld ?_; rotate_left
       · (intro W hSw; (try dsimp only at hSw); go_simp; all_goals (with_reducible rfl))
       simp only [gA, gB, gC, Act.put, gD, gE, gF]; refine wpAnyH_done (by kernel_rfl) ?_ _; refine NoPanic.normal ?_; clear hHeld; (go_wp2_with fail)
       go_meet
       exact ⟨_, _, sq, aq, lq, kq, zq, sr, ar, lr, kr, zr, rfl, rfl, Vq, Vr, hq, hr2, ev, BX, ⟨by omega, by omega, by omega⟩⟩
    ·
     simp only [gA, gB, gC]; (go_simp); have lt_Vr_Vq := Vq.lt; have sz_Vr := BX.size; refine ent1 _ _ _ (Q := fun V => K _ V) ?_; intro x5 hb hs_ Vr; replace Vq := Va.after hb Vq; replace h3 := Nt.after hb h3; replace BX := step BX hb; clear hb hs_; refine hK.out _ _ (LS.out _ BX) (fun hHeld => ?_); clear hK K; refine wpAnyH_ready (rs := [4]) (by kernel_rfl) (by simp) ?_; refine AllReadyH.cons rfl (fun K hK => ?_) AllReadyH.nil
     ·
      simp only [gA, gB, gC]; (go_simp); refine (qabove_any b3 m3 d3 y3 _ h3).mono ?_; rintro e x6 ⟨rfl, h4, hb⟩; replace Vq := Va.after hb Vq; replace Vr := Va.after hb Vr; replace h3 := Nt.after hb h3; replace BX := step BX hb; clear hb; (try go_wp2_with fail); refine hK.out _ _ (LS.out _ BX) (fun hHeld => ?_); clear hK K; refine wpAnyH_ready (rs := [5]) (by kernel_rfl) (by simp) ?_; refine AllReadyH.cons rfl (fun K hK => ?_) AllReadyH.nil
      ·
       simp only [gA, gB, gC]; (go_simp); refine (wdiv_ok s false a b3 l c m3 d3 zs y3 _ (Rt.after BX L_hr.out).1 h4 (by show num y3 ≠ 0; rw [e3]; have := v.den_pos; omega)).mono ?_; rintro e x7 ⟨sq, aq, lq, kq, zq, sr, ar, lr, kr, zr, rfl, hq, hr2, d1, d2, hb⟩; replace Vq := Va.after hb Vq; replace Vr := Va.after hb Vr; replace h3 := Nt.after hb h3; replace h4 := It.after hb h4; replace BX := step BX hb; clear hb
       have ev : iv sq zq = qfl v ∧ iv sr zr = v.num % (v.den : Int) := by
        rw [iv_f, e3] at d1 d2; have hd := v.den_pos; exact qfl_of (by rw [← L_hr.out.2.2.1]; exact d1) (by omega) (by omega)
       clear d1 d2 e3 h3 h4; (try go_wp2_with fail); refine hK.out _ _ (LS.out _ BX) (fun hHeld => ?_); clear hK K; refine wpAnyH_take (i := 6) (v := ?_) rfl (by kernel_rfl) (by kernel_rfl) (by kernel_rfl) (fun _ _ _ h => h) (Or.inl ⟨by rfl, ?_⟩) hHeld ?_; rotate_left
       · (intro W hSw; (try dsimp only at hSw); go_simp; all_goals (with_reducible rfl))
       simp only [gA, gB, gC, Act.put, gD, gE, gF]; refine wpAnyH_take (i := 7) (v := ?_) rfl (by kernel_rfl) (by kernel_rfl) (by kernel_rfl) (fun _ _ _ h => h) (Or.inl ⟨by rfl, ?_⟩) hHeld ?_; rotate_left
       · (intro W hSw; (try dsimp only at hSw); go_simp; all_goals (with_reducible rfl))
       simp only [gA, gB, gC, Act.put, gD, gE, gF]; refine wpAnyH_take (i := 8) (v := ?_) rfl (by kernel_rfl) (by kernel_rfl) (by kernel_rfl) (fun _ _ _ h => h) (Or.inl ⟨by rfl, ?_⟩) hHeld ?_; rotate_left
       · (intro W hSw; (try dsimp only at hSw); go_simp; all_goals (with_reducible rfl))
       simp only [gA, gB, gC, Act.put, gD, gE, gF]; refine wpAnyH_take (i := 9) (v := ?_) rfl (by kernel_rfl) (by kernel_rfl) (by kernel_rfl) (fun _ _ _ h => h) (Or.inl ⟨by rfl, ?_⟩) hHeld ?_; rotate_left
       · (intro W hSw; (try dsimp only at hSw); go_simp; all_goals (with_reducible rfl))
       simp only [gA, gB, gC, Act.put, gD, gE, gF]; have c_Vq := Vq.c0; have f0_Vq := Vq.frozen 0; have d_Vq := Vq.c1; have f1_Vq := Vq.frozen 1; have l_Vq := Vq.lt; have m_Vq := Nat.le_of_lt l_Vq; refine wpAnyH_ready (rs := [12]) (by kernel_rfl) (by simp) ?_; refine AllReadyH.cons rfl (fun K hK => ?_) AllReadyH.nil; simp only [gA, gB, gC]; (go_simp); clear c_Vq f0_Vq d_Vq f1_Vq l_Vq m_Vq; refine st2 Vq (.bool sq) (.slice aq lq kq) (Q := fun W => K _ W) ?_; intro x8 V' oth far; replace Vr := oth _ _ _ (by first | omega | assumption | (simp; omega)) Vr; replace hq := hq.far Vq (noInt2 _ _ _ _) far.1; replace hr2 := hr2.far Vq (noInt2 _ _ _ _) far.1; replace BX := far.2 _ _ (by first | omega | (simp; omega)) BX; replace Vq := V'; clear oth far; refine hK.out _ _ (LS.out _ BX) (fun hHeld => ?_); clear hK K; have c_Vr := Vr.c0; have f0_Vr := Vr.frozen 0; have d_Vr := Vr.c1; have f1_Vr := Vr.frozen 1; have l_Vr := Vr.lt; have m_Vr := Nat.le_of_lt l_Vr; refine wpAnyH_ready (rs := [13]) (by kernel_rfl) (by simp) ?_
       refine AllReadyH.cons rfl (fun K hK => ?_) AllReadyH.nil; simp only [gA, gB, gC]; (go_simp); clear c_Vr f0_Vr d_Vr f1_Vr l_Vr m_Vr; refine st2 Vr (.bool sr) (.slice ar lr kr) (Q := fun W => K _ W) ?_; intro x9 V' oth far; replace Vq := oth _ _ _ (by first | omega | assumption | (simp; omega)) Vq; replace hq := hq.far Vr (noInt2 _ _ _ _) far.1; replace hr2 := hr2.far Vr (noInt2 _ _ _ _) far.1; replace BX := far.2 _ _ (by first | omega | (simp; omega)) BX; replace Vr := V'; clear oth far; refine hK.out _ _ (LS.out _ BX) (fun hHeld => ?_); clear hK K; refine wpAnyH_take (i := 14) (v := ?_) rfl (by kernel_rfl) (by kernel_rfl) (by kernel_rfl) (fun _ _ _ h => h) (Or.inl ⟨by rfl, ?_⟩) hHeld ?_; rotate_left
       · (intro W hSw; (try dsimp only at hSw); go_simp; all_goals (with_reducible rfl))
       simp only [gA, gB, gC, Act.put, gD, gE, gF]; refine wpAnyH_done (by kernel_rfl) ?_ _; refine NoPanic.normal ?_; clear hHeld; (go_wp2_with fail)
       go_meet
       exact ⟨_, _, sq, aq, lq, kq, zq, sr, ar, lr, kr, zr, rfl, rfl, Vq, Vr, hq, hr2, ev, BX, ⟨by omega, by omega, by omega⟩⟩
   ·
    simp only [gA, gB, gC]; (go_simp); have sz_Vr := BX.size; refine ent1 _ _ _ (Q := fun V => K _ V) ?_; intro x4 hb hs_ Vr; replace h3 := Nt.after hb h3; replace BX := step BX hb; clear hb hs_; refine hK.out _ _ (LS.out _ BX) (fun hHeld => ?_); clear hK K; refine wpAnyH_ready (rs := [4, 10]) (by kernel_rfl) (by simp) ?_; refine AllReadyH.cons rfl (fun K hK => ?_) (AllReadyH.cons rfl (fun K hK => ?_) AllReadyH.nil)
    ·
     simp only [gA, gB, gC]; (go_simp); refine (qabove_any b3 m3 d3 y3 _ h3).mono ?_; rintro e x5 ⟨rfl, h4, hb⟩; replace Vr := Va.after hb Vr; replace h3 := Nt.after hb h3; replace BX := step BX hb; clear hb; (try go_wp2_with fail); refine hK.out _ _ (LS.out _ BX) (fun hHeld => ?_); clear hK K; refine wpAnyH_ready (rs := [5, 10]) (by kernel_rfl) (by simp) ?_; refine AllReadyH.cons rfl (fun K hK => ?_) (AllReadyH.cons rfl (fun K hK => ?_) AllReadyH.nil)
     ·
      simp only [gA, gB, gC]; (go_simp); refine (wdiv_ok s false a b3 l c m3 d3 zs y3 _ (Rt.after BX L_hr.out).1 h4 (by show num y3 ≠ 0; rw [e3]; have := v.den_pos; omega)).mono ?_; rintro e x6 ⟨sq, aq, lq, kq, zq, sr, ar, lr, kr, zr, rfl, hq, hr2, d1, d2, hb⟩; replace Vr := Va.after hb Vr; replace h3 := Nt.after hb h3; replace h4 := It.after hb h4; replace BX := step BX hb; clear hb
      have ev : iv sq zq = qfl v ∧ iv sr zr = v.num % (v.den : Int) := by
       rw [iv_f, e3] at d1 d2; have hd := v.den_pos; exact qfl_of (by rw [← L_hr.out.2.2.1]; exact d1) (by omega) (by omega)
      clear d1 d2 e3 h3 h4; (try go_wp2_with fail); refine hK.out _ _ (LS.out _ BX) (fun hHeld => ?_); clear hK K; refine wpAnyH_take (i := 6) (v := ?_) rfl (by kernel_rfl) (by kernel_rfl) (by kernel_rfl) (fun _ _ _ h => h) (Or.inl ⟨by rfl, ?_⟩) hHeld ?_; rotate_left
      · (intro W hSw; (try dsimp only at hSw); go_simp; all_goals (with_reducible rfl))
      simp only [gA, gB, gC, Act.put, gD, gE, gF]; refine wpAnyH_take (i := 7) (v := ?_) rfl (by kernel_rfl) (by kernel_rfl) (by kernel_rfl) (fun _ _ _ h => h) (Or.inl ⟨by rfl, ?_⟩) hHeld ?_; rotate_left
      · (intro W hSw; (try dsimp only at hSw); go_simp; all_goals (with_reducible rfl))
      simp only [gA, gB, gC, Act.put, gD, gE, gF]; refine wpAnyH_take (i := 8) (v := ?_) rfl (by kernel_rfl) (by kernel_rfl) (by kernel_rfl) (fun _ _ _ h => h) (Or.inl ⟨by rfl, ?_⟩) hHeld ?_; rotate_left
      · (intro W hSw; (try dsimp only at hSw); go_simp; all_goals (with_reducible rfl))
      simp only [gA, gB, gC, Act.put, gD, gE, gF]; refine wpAnyH_take (i := 9) (v := ?_) rfl (by kernel_rfl) (by kernel_rfl) (by kernel_rfl) (fun _ _ _ h => h) (Or.inl ⟨by rfl, ?_⟩) hHeld ?_; rotate_left
      · (intro W hSw; (try dsimp only at hSw); go_simp; all_goals (with_reducible rfl))
      simp only [gA, gB, gC, Act.put, gD, gE, gF]; refine wpAnyH_ready (rs := [10]) (by kernel_rfl) (by simp) ?_; refine AllReadyH.cons rfl (fun K hK => ?_) AllReadyH.nil
      ·
       simp only [gA, gB, gC]; (go_simp); have lt_Vq_Vr := Vr.lt; have sz_Vq := BX.size; refine ent1 _ _ _ (Q := fun V => K _ V) ?_; intro x7 hb hs_ Vq; replace Vr := Va.after hb Vr; replace hq := It.after hb hq; replace hr2 := It.after hb hr2; replace BX := step BX hb; clear hb hs_; refine hK.out _ _ (LS.out _ BX) (fun hHeld => ?_); clear hK K; have c_Vq := Vq.c0; have f0_Vq := Vq.frozen 0; have d_Vq := Vq.c1; have f1_Vq := Vq.frozen 1; have l_Vq := Vq.lt; have m_Vq := Nat.le_of_lt l_Vq; refine wpAnyH_ready (rs := [12]) (by kernel_rfl) (by simp) ?_; refine AllReadyH.cons rfl (fun K hK => ?_) AllReadyH.nil; simp only [gA, gB, gC]; (go_simp); clear c_Vq f0_Vq d_Vq f1_Vq l_Vq m_Vq; refine st2 Vq (.bool sq) (.slice aq lq kq) (Q := fun W => K _ W) ?_; intro x8 V' oth far; replace Vr := oth _ _ _ (by first | omega | assumption | (simp; omega)) Vr; replace hq := hq.far Vq (noInt2 _ _ _ _) far.1; replace hr2 := hr2.far Vq (noInt2 _ _ _ _) far.1; replace BX := far.2 _ _ (by first | omega | (simp; omega)) BX
       replace Vq := V'; clear oth far; refine hK.out _ _ (LS.out _ BX) (fun hHeld => ?_); clear hK K; have c_Vr := Vr.c0; have f0_Vr := Vr.frozen 0; have d_Vr := Vr.c1; have f1_Vr := Vr.frozen 1; have l_Vr := Vr.lt; have m_Vr := Nat.le_of_lt l_Vr; refine wpAnyH_ready (rs := [13]) (by kernel_rfl) (by simp) ?_; refine AllReadyH.cons rfl (fun K hK => ?_) AllReadyH.nil; simp only [gA, gB, gC]; (go_simp); clear c_Vr f0_Vr d_Vr f1_Vr l_Vr m_Vr; refine st2 Vr (.bool sr) (.slice ar lr kr) (Q := fun W => K _ W) ?_; intro x9 V' oth far; replace Vq := oth _ _ _ (by first | omega | assumption | (simp; omega)) Vq; replace hq := hq.far Vr (noInt2 _ _ _ _) far.1; replace hr2 := hr2.far Vr (noInt2 _ _ _ _) far.1; replace BX := far.2 _ _ (by first | omega | (simp; omega)) BX; replace Vr := V'; clear oth far; refine hK.out _ _ (LS.out _ BX) (fun hHeld => ?_); clear hK K; refine wpAnyH_take (i := 14) (v := ?_) rfl (by kernel_rfl) (by kernel_rfl) (by kernel_rfl) (fun _ _ _ h => h) (Or.inl ⟨by rfl, ?_⟩) hHeld ?_
       rotate_left
       · (intro W hSw; (try dsimp only at hSw); go_simp; all_goals (with_reducible rfl))
       simp only [gA, gB, gC, Act.put, gD, gE, gF]; refine wpAnyH_done (by kernel_rfl) ?_ _; refine NoPanic.normal ?_; clear hHeld; (go_wp2_with fail)
       go_meet
       exact ⟨_, _, sq, aq, lq, kq, zq, sr, ar, lr, kr, zr, rfl, rfl, Vq, Vr, hq, hr2, ev, BX, ⟨by omega, by omega, by omega⟩⟩
     ·
      simp only [gA, gB, gC]; (go_simp); have lt_Vq_Vr := Vr.lt; have sz_Vq := BX.size; refine ent1 _ _ _ (Q := fun V => K _ V) ?_; intro x6 hb hs_ Vq; replace Vr := Va.after hb Vr; replace h3 := Nt.after hb h3; replace h4 := It.after hb h4; replace BX := step BX hb; clear hb hs_; refine hK.out _ _ (LS.out _ BX) (fun hHeld => ?_); clear hK K; refine wpAnyH_ready (rs := [5]) (by kernel_rfl) (by simp) ?_; refine AllReadyH.cons rfl (fun K hK => ?_) AllReadyH.nil
      ·
       simp only [gA, gB, gC]; (go_simp); refine (wdiv_ok s false a b3 l c m3 d3 zs y3 _ (Rt.after BX L_hr.out).1 h4 (by show num y3 ≠ 0; rw [e3]; have := v.den_pos; omega)).mono ?_; rintro e x7 ⟨sq, aq, lq, kq, zq, sr, ar, lr, kr, zr, rfl, hq, hr2, d1, d2, hb⟩; replace Vr := Va.after hb Vr; replace Vq := Va.after hb Vq; replace h3 := Nt.after hb h3; replace h4 := It.after hb h4; replace BX := step BX hb; clear hb
       have ev : iv sq zq = qfl v ∧ iv sr zr = v.num % (v.den : Int) := by
        rw [iv_f, e3] at d1 d2; have hd := v.den_pos; exact qfl_of (by rw [← L_hr.out.2.2.1]; exact d1) (by omega) (by omega)
       clear d1 d2 e3 h3 h4; (try go_wp2_with fail); refine hK.out _ _ (LS.out _ BX) (fun hHeld => ?_); clear hK K; refine wpAnyH_take (i := 6) (v := ?_) rfl (by kernel_rfl) (by kernel_rfl) (by kernel_rfl) (fun _ _ _ h => h) (Or.inl ⟨by rfl, ?_⟩) hHeld ?_; rotate_left
       · (intro W hSw; (try dsimp only at hSw); go_simp; all_goals (with_reducible rfl))
       simp only [gA, gB, gC, Act.put, gD, gE, gF]; refine wpAnyH_take (i := 7) (v := ?_) rfl (by kernel_rfl) (by kernel_rfl) (by kernel_rfl) (fun _ _ _ h => h) (Or.inl ⟨by rfl, ?_⟩) hHeld ?_; rotate_left
       · (intro W hSw; (try dsimp only at hSw); go_simp; all_goals (with_reducible rfl))
       simp only [gA, gB, gC, Act.put, gD, gE, gF]; refine wpAnyH_take (i := 8) (v := ?_) rfl (by kernel_rfl) (by kernel_rfl) (by kernel_rfl) (fun _ _ _ h => h) (Or.inl ⟨by rfl, ?_⟩) hHeld ?_; rotate_left
       · (intro W hSw; (try dsimp only at hSw); go_simp; all_goals (with_reducible rfl))
       simp only [gA, gB, gC, Act.put, gD, gE, gF]; refine wpAnyH_take (i := 9) (v := ?_) rfl (by kernel_rfl) (by kernel_rfl) (by kernel_rfl) (fun _ _ _ h => h) (Or.inl ⟨by rfl, ?_⟩) hHeld ?_; rotate_left
       · (intro W hSw; (try dsimp only at hSw); go_simp; all_goals (with_reducible rfl))
       simp only [gA, gB, gC, Act.put, gD, gE, gF]; have c_Vq := Vq.c0; have f0_Vq := Vq.frozen 0; have d_Vq := Vq.c1; have f1_Vq := Vq.frozen 1; have l_Vq := Vq.lt; have m_Vq := Nat.le_of_lt l_Vq; refine wpAnyH_ready (rs := [12]) (by kernel_rfl) (by simp) ?_; refine AllReadyH.cons rfl (fun K hK => ?_) AllReadyH.nil; simp only [gA, gB, gC]; (go_simp); clear c_Vq f0_Vq d_Vq f1_Vq l_Vq m_Vq; refine st2 Vq (.bool sq) (.slice aq lq kq) (Q := fun W => K _ W) ?_; intro x8 V' oth far; replace Vr := oth _ _ _ (by first | omega | assumption | (simp; omega)) Vr; replace hq := hq.far Vq (noInt2 _ _ _ _) far.1; replace hr2 := hr2.far Vq (noInt2 _ _ _ _) far.1; replace BX := far.2 _ _ (by first | omega | (simp; omega)) BX; replace Vq := V'; clear oth far; refine hK.out _ _ (LS.out _ BX) (fun hHeld => ?_); clear hK K; have c_Vr := Vr.c0; have f0_Vr := Vr.frozen 0; have d_Vr := Vr.c1; have f1_Vr := Vr.frozen 1; have l_Vr := Vr.lt; have m_Vr := Nat.le_of_lt l_Vr; refine wpAnyH_ready (rs := [13]) (by kernel_rfl) (by simp) ?_
       refine AllReadyH.cons rfl (fun K hK => ?_) AllReadyH.nil; simp only [gA, gB, gC]; (go_simp); clear c_Vr f0_Vr d_Vr f1_Vr l_Vr m_Vr; refine st2 Vr (.bool sr) (.slice ar lr kr) (Q := fun W => K _ W) ?_; intro x9 V' oth far; replace Vq := oth _ _ _ (by first | omega | assumption | (simp; omega)) Vq; replace hq := hq.far Vr (noInt2 _ _ _ _) far.1; replace hr2 := hr2.far Vr (noInt2 _ _ _ _) far.1; replace BX := far.2 _ _ (by first | omega | (simp; omega)) BX; replace Vr := V'; clear oth far; refine hK.out _ _ (LS.out _ BX) (fun hHeld => ?_); clear hK K; refine wpAnyH_take (i := 14) (v := ?_) rfl (by kernel_rfl) (by kernel_rfl) (by kernel_rfl) (fun _ _ _ h => h) (Or.inl ⟨by rfl, ?_⟩) hHeld ?_; rotate_left
       · (intro W hSw; (try dsimp only at hSw); go_simp; all_goals (with_reducible rfl))
       simp only [gA, gB, gC, Act.put, gD, gE, gF]; refine wpAnyH_done (by kernel_rfl) ?_ _; refine NoPanic.normal ?_; clear hHeld; (go_wp2_with fail)
       go_meet
       exact ⟨_, _, sq, aq, lq, kq, zq, sr, ar, lr, kr, zr, rfl, rfl, Vq, Vr, hq, hr2, ev, BX, ⟨by omega, by omega, by omega⟩⟩
    ·
     simp only [gA, gB, gC]; (go_simp); have lt_Vq_Vr := Vr.lt; have sz_Vq := BX.size; refine ent1 _ _ _ (Q := fun V => K _ V) ?_; intro x5 hb hs_ Vq; replace Vr := Va.after hb Vr; replace h3 := Nt.after hb h3; replace BX := step BX hb; clear hb hs_; refine hK.out _ _ (LS.out _ BX) (fun hHeld => ?_); clear hK K; refine wpAnyH_ready (rs := [4]) (by kernel_rfl) (by simp) ?_; refine AllReadyH.cons rfl (fun K hK => ?_) AllReadyH.nil
     ·
      simp only [gA, gB, gC]; (go_simp); refine (qabove_any b3 m3 d3 y3 _ h3).mono ?_; rintro e x6 ⟨rfl, h4, hb⟩; replace Vr := Va.after hb Vr; replace Vq := Va.after hb Vq; replace h3 := Nt.after hb h3; replace BX := step BX hb; clear hb; (try go_wp2_with fail); refine hK.out _ _ (LS.out _ BX) (fun hHeld => ?_); clear hK K; refine wpAnyH_ready (rs := [5]) (by kernel_rfl) (by simp) ?_; refine AllReadyH.cons rfl (fun K hK => ?_) AllReadyH.nil
      ·
       simp only [gA, gB, gC]; (go_simp); refine (wdiv_ok s false a b3 l c m3 d3 zs y3 _ (Rt.after BX L_hr.out).1 h4 (by show num y3 ≠ 0; rw [e3]; have := v.den_pos; omega)).mono ?_; rintro e x7 ⟨sq, aq, lq, kq, zq, sr, ar, lr, kr, zr, rfl, hq, hr2, d1, d2, hb⟩; replace Vr := Va.after hb Vr; replace Vq := Va.after hb Vq; replace h3 := Nt.after hb h3; replace h4 := It.after hb h4; replace BX := step BX hb; clear hb
       have ev : iv sq zq = qfl v ∧ iv sr zr = v.num % (v.den : Int) := by
        rw [iv_f, e3] at d1 d2; have hd := v.den_pos; exact qfl_of (by rw [← L_hr.out.2.2.1]; exact d1) (by omega) (by omega)
       clear d1 d2 e3 h3 h4; (try go_wp2_with fail); refine hK.out _ _ (LS.out _ BX) (fun hHeld => ?_); clear hK K; refine wpAnyH_take (i := 6) (v := ?_) rfl (by kernel_rfl) (by kernel_rfl) (by kernel_rfl) (fun _ _ _ h => h) (Or.inl ⟨by rfl, ?_⟩) hHeld ?_; rotate_left
       · (intro W hSw; (try dsimp only at hSw); go_simp; all_goals (with_reducible rfl))
       simp only [gA, gB, gC, Act.put, gD, gE, gF]; refine wpAnyH_take (i := 7) (v := ?_) rfl (by kernel_rfl) (by kernel_rfl) (by kernel_rfl) (fun _ _ _ h => h) (Or.inl ⟨by rfl, ?_⟩) hHeld ?_; rotate_left
       · (intro W hSw; (try dsimp only at hSw); go_simp; all_goals (with_reducible rfl))
       simp only [gA, gB, gC, Act.put, gD, gE, gF]; refine wpAnyH_take (i := 8) (v := ?_) rfl (by kernel_rfl) (by kernel_rfl) (by kernel_rfl) (fun _ _ _ h => h) (Or.inl ⟨by rfl, ?_⟩) hHeld ?_; rotate_left
       · (intro W hSw; (try dsimp only at hSw); go_simp; all_goals (with_reducible rfl))
       simp only [gA, gB, gC, Act.put, gD, gE, gF]; refine wpAnyH_take (i := 9) (v := ?_) rfl (by kernel_rfl) (by kernel_rfl) (by kernel_rfl) (fun _ _ _ h => h) (Or.inl ⟨by rfl, ?_⟩) hHeld ?_; rotate_left
       · (intro W hSw; (try dsimp only at hSw); go_simp; all_goals (with_reducible rfl))
       simp only [gA, gB, gC, Act.put, gD, gE, gF]; have c_Vq := Vq.c0; have f0_Vq := Vq.frozen 0; have d_Vq := Vq.c1; have f1_Vq := Vq.frozen 1; have l_Vq := Vq.lt; have m_Vq := Nat.le_of_lt l_Vq; refine wpAnyH_ready (rs := [12]) (by kernel_rfl) (by simp) ?_; refine AllReadyH.cons rfl (fun K hK => ?_) AllReadyH.nil; simp only [gA, gB, gC]; (go_simp); clear c_Vq f0_Vq d_Vq f1_Vq l_Vq m_Vq; refine st2 Vq (.bool sq) (.slice aq lq kq) (Q := fun W => K _ W) ?_; intro x8 V' oth far; replace Vr := oth _ _ _ (by first | omega | assumption | (simp; omega)) Vr; replace hq := hq.far Vq (noInt2 _ _ _ _) far.1; replace hr2 := hr2.far Vq (noInt2 _ _ _ _) far.1; replace BX := far.2 _ _ (by first | omega | (simp; omega)) BX; replace Vq := V'; clear oth far; refine hK.out _ _ (LS.out _ BX) (fun hHeld => ?_); clear hK K; have c_Vr := Vr.c0; have f0_Vr := Vr.frozen 0; have d_Vr := Vr.c1; have f1_Vr := Vr.frozen 1; have l_Vr := Vr.lt; have m_Vr := Nat.le_of_lt l_Vr; refine wpAnyH_ready (rs := [13]) (by kernel_rfl) (by simp) ?_
       refine AllReadyH.cons rfl (fun K hK => ?_) AllReadyH.nil; simp only [gA, gB, gC]; (go_simp); clear c_Vr f0_Vr d_Vr f1_Vr l_Vr m_Vr; refine st2 Vr (.bool sr) (.slice ar lr kr) (Q := fun W => K _ W) ?_; intro x9 V' oth far; replace Vq := oth _ _ _ (by first | omega | assumption | (simp; omega)) Vq; replace hq := hq.far Vr (noInt2 _ _ _ _) far.1; replace hr2 := hr2.far Vr (noInt2 _ _ _ _) far.1; replace BX := far.2 _ _ (by first | omega | (simp; omega)) BX; replace Vr := V'; clear oth far; refine hK.out _ _ (LS.out _ BX) (fun hHeld => ?_); clear hK K; refine wpAnyH_take (i := 14) (v := ?_) rfl (by kernel_rfl) (by kernel_rfl) (by kernel_rfl) (fun _ _ _ h => h) (Or.inl ⟨by rfl, ?_⟩) hHeld ?_; rotate_left
       · (intro W hSw; (try dsimp only at hSw); go_simp; all_goals (with_reducible rfl))
       simp only [gA, gB, gC, Act.put, gD, gE, gF]; refine wpAnyH_done (by kernel_rfl) ?_ _; refine NoPanic.normal ?_; clear hHeld; (go_wp2_with fail)
       go_meet
       exact ⟨_, _, sq, aq, lq, kq, zq, sr, ar, lr, kr, zr, rfl, rfl, Vq, Vr, hq, hr2, ev, BX, ⟨by omega, by omega, by omega⟩⟩
  ·
   simp only [gA, gB, gC]; (go_simp); have sz_Vq := BX.size; refine ent1 _ _ _ (Q := fun V => K _ V) ?_; intro x3 hb hs_ Vq; replace BX := step BX hb; clear hb hs_; refine hK.out _ _ (LS.out _ BX) (fun hHeld => ?_); clear hK K; refine wpAnyH_ready (rs := [3, 11]) (by kernel_rfl) (by simp) ?_; refine AllReadyH.cons rfl (fun K hK => ?_) (AllReadyH.cons rfl (fun K hK => ?_) AllReadyH.nil)
   ·
    simp only [gA, gB, gC]; (go_simp); refine (rden_any s a l c b m d ds _ (Rt.after BX L_hr.out).2.1).mono ?_; rintro e x4 ⟨b3, m3, d3, y3, rfl, h3, e3, hb⟩; replace Vq := Va.after hb Vq; replace BX := step BX hb; clear hb; replace e3 := e3.trans L_hr.out.2.2.2.1; (try go_wp2_with fail); refine hK.out _ _ (LS.out _ BX) (fun hHeld => ?_); clear hK K; refine wpAnyH_ready (rs := [4, 11]) (by kernel_rfl) (by simp) ?_; refine AllReadyH.cons rfl (fun K hK => ?_) (AllReadyH.cons rfl (fun K hK => ?_) AllReadyH.nil)
    ·
     simp only [gA, gB, gC]; (go_simp); refine (qabove_any b3 m3 d3 y3 _ h3).mono ?_; rintro e x5 ⟨rfl, h4, hb⟩; replace Vq := Va.after hb Vq; replace h3 := Nt.after hb h3; replace BX := step BX hb; clear hb; (try go_wp2_with fail); refine hK.out _ _ (LS.out _ BX) (fun hHeld => ?_); clear hK K; refine wpAnyH_ready (rs := [5, 11]) (by kernel_rfl) (by simp) ?_; refine AllReadyH.cons rfl (fun K hK => ?_) (AllReadyH.cons rfl (fun K hK => ?_) AllReadyH.nil)
     ·
      simp only [gA, gB, gC]; (go_simp); refine (wdiv_ok s false a b3 l c m3 d3 zs y3 _ (Rt.after BX L_hr.out).1 h4 (by show num y3 ≠ 0; rw [e3]; have := v.den_pos; omega)).mono ?_; rintro e x6 ⟨sq, aq, lq, kq, zq, sr, ar, lr, kr, zr, rfl, hq, hr2, d1, d2, hb⟩; replace Vq := Va.after hb Vq; replace h3 := Nt.after hb h3; replace h4 := It.after hb h4; replace BX := step BX hb; clear hb
      have ev : iv sq zq = qfl v ∧ iv sr zr = v.num % (v.den : Int) := by
       rw [iv_f, e3] at d1 d2; have hd := v.den_pos; exact qfl_of (by rw [← L_hr.out.2.2.1]; exact d1) (by omega) (by omega)
      clear d1 d2 e3 h3 h4; (try go_wp2_with fail); refine hK.out _ _ (LS.out _ BX) (fun hHeld => ?_); clear hK K; refine wpAnyH_take (i := 6) (v := ?_) rfl (by kernel_rfl) (by kernel_rfl) (by kernel_rfl) (fun _ _ _ h => h) (Or.inl ⟨by rfl, ?_⟩) hHeld ?_; rotate_left
      · (intro W hSw; (try dsimp only at hSw); go_simp; all_goals (with_reducible rfl))
      simp only [gA, gB, gC, Act.put, gD, gE, gF]; refine wpAnyH_take (i := 7) (v := ?_) rfl (by kernel_rfl) (by kernel_rfl) (by kernel_rfl) (fun _ _ _ h => h) (Or.inl ⟨by rfl, ?_⟩) hHeld ?_; rotate_left
      · (intro W hSw; (try dsimp only at hSw); go_simp; all_goals (with_reducible rfl))
      simp only [gA, gB, gC, Act.put, gD, gE, gF]; refine wpAnyH_take (i := 8) (v := ?_) rfl (by kernel_rfl) (by kernel_rfl) (by kernel_rfl) (fun _ _ _ h => h) (Or.inl ⟨by rfl, ?_⟩) hHeld ?_; rotate_left
      · (intro W hSw; (try dsimp only at hSw); go_simp; all_goals (with_reducible rfl))
      simp only [gA, gB, gC, Act.put, gD, gE, gF]; refine wpAnyH_take (i := 9) (v := ?_) rfl (by kernel_rfl) (by kernel_rfl) (by kernel_rfl) (fun _ _ _ h => h) (Or.inl ⟨by rfl, ?_⟩) hHeld ?_; rotate_left
      · (intro W hSw; (try dsimp only at hSw); go_simp; all_goals (with_reducible rfl))
      simp only [gA, gB, gC, Act.put, gD, gE, gF]; refine wpAnyH_ready (rs := [11]) (by kernel_rfl) (by simp) ?_; refine AllReadyH.cons rfl (fun K hK => ?_) AllReadyH.nil
      ·
       simp only [gA, gB, gC]; (go_simp); have lt_Vr_Vq := Vq.lt; have sz_Vr := BX.size; refine ent1 _ _ _ (Q := fun V => K _ V) ?_; intro x7 hb hs_ Vr; replace Vq := Va.after hb Vq; replace hq := It.after hb hq; replace hr2 := It.after hb hr2; replace BX := step BX hb; clear hb hs_; refine hK.out _ _ (LS.out _ BX) (fun hHeld => ?_); clear hK K; have c_Vq := Vq.c0; have f0_Vq := Vq.frozen 0; have d_Vq := Vq.c1; have f1_Vq := Vq.frozen 1; have l_Vq := Vq.lt; have m_Vq := Nat.le_of_lt l_Vq; refine wpAnyH_ready (rs := [12]) (by kernel_rfl) (by simp) ?_; refine AllReadyH.cons rfl (fun K hK => ?_) AllReadyH.nil; simp only [gA, gB, gC]; (go_simp); clear c_Vq f0_Vq d_Vq f1_Vq l_Vq m_Vq; refine st2 Vq (.bool sq) (.slice aq lq kq) (Q := fun W => K _ W) ?_; intro x8 V' oth far; replace Vr := oth _ _ _ (by first | omega | assumption | (simp; omega)) Vr; replace hq := hq.far Vq (noInt2 _ _ _ _) far.1; replace hr2 := hr2.far Vq (noInt2 _ _ _ _) far.1; replace BX := far.2 _ _ (by first | omega | (simp; omega)) BX
       replace Vq := V'; clear oth far; refine hK.out _ _ (LS.out _ BX) (fun hHeld => ?_); clear hK K; have c_Vr := Vr.c0; have f0_Vr := Vr.frozen 0; have d_Vr := Vr.c1; have f1_Vr := Vr.frozen 1; have l_Vr := Vr.lt; have m_Vr := Nat.le_of_lt l_Vr; refine wpAnyH_ready (rs := [13]) (by kernel_rfl) (by simp) ?_; refine AllReadyH.cons rfl (fun K hK => ?_) AllReadyH.nil; simp only [gA, gB, gC]; (go_simp); clear c_Vr f0_Vr d_Vr f1_Vr l_Vr m_Vr; refine st2 Vr (.bool sr) (.slice ar lr kr) (Q := fun W => K _ W) ?_; intro x9 V' oth far; replace Vq := oth _ _ _ (by first | omega | assumption | (simp; omega)) Vq; replace hq := hq.far Vr (noInt2 _ _ _ _) far.1; replace hr2 := hr2.far Vr (noInt2 _ _ _ _) far.1; replace BX := far.2 _ _ (by first | omega | (simp; omega)) BX; replace Vr := V'; clear oth far; refine hK.out _ _ (LS.out _ BX) (fun hHeld => ?_); clear hK K; refine wpAnyH_take (i := 14) (v := ?_) rfl (by kernel_rfl) (by kernel_rfl) (by kernel_rfl) (fun _ _ _ h => h) (Or.inl ⟨by rfl, ?_⟩) hHeld ?_
       rotate_left
       · (intro W hSw; (try dsimp only at hSw); go_simp; all_goals (with_reducible rfl))
       simp only [gA, gB, gC, Act.put, gD, gE, gF]; refine wpAnyH_done (by kernel_rfl) ?_ _; refine NoPanic.normal ?_; clear hHeld; (go_wp2_with fail)
       go_meet
       exact ⟨_, _, sq, aq, lq, kq, zq, sr, ar, lr, kr, zr, rfl, rfl, Vq, Vr, hq, hr2, ev, BX, ⟨by omega, by omega, by omega⟩⟩
     ·
      simp only [gA, gB, gC]; (go_simp); have lt_Vr_Vq := Vq.lt; have sz_Vr := BX.size; refine ent1 _ _ _ (Q := fun V => K _ V) ?_; intro x6 hb hs_ Vr; replace Vq := Va.after hb Vq; replace h3 := Nt.after hb h3; replace h4 := It.after hb h4; replace BX := step BX hb; clear hb hs_; refine hK.out _ _ (LS.out _ BX) (fun hHeld => ?_); clear hK K; refine wpAnyH_ready (rs := [5]) (by kernel_rfl) (by simp) ?_; refine AllReadyH.cons rfl (fun K hK => ?_) AllReadyH.nil
      ·
       simp only [gA, gB, gC]; (go_simp); refine (wdiv_ok s false a b3 l c m3 d3 zs y3 _ (Rt.after BX L_hr.out).1 h4 (by show num y3 ≠ 0; rw [e3]; have := v.den_pos; omega)).mono ?_; rintro e x7 ⟨sq, aq, lq, kq, zq, sr, ar, lr, kr, zr, rfl, hq, hr2, d1, d2, hb⟩; replace Vq := Va.after hb Vq; replace Vr := Va.after hb Vr; replace h3 := Nt.after hb h3; replace h4 := It.after hb h4; replace BX := step BX hb; clear hb
       have ev : iv sq zq = qfl v ∧ iv sr zr = v.num % (v.den : Int) := by
        rw [iv_f, e3] at d1 d2; have hd := v.den_pos; exact qfl_of (by rw [← L_hr.out.2.2.1]; exact d1) (by omega) (by omega)
       clear d1 d2 e3 h3 h4; (try go_wp2_with fail); refine hK.out _ _ (LS.out _ BX) (fun hHeld => ?_); clear hK K; refine wpAnyH_take (i := 6) (v := ?_) rfl (by kernel_rfl) (by kernel_rfl) (by kernel_rfl) (fun _ _ _ h => h) (Or.inl ⟨by rfl, ?_⟩) hHeld ?_; rotate_left
       · (intro W hSw; (try dsimp only at hSw); go_simp; all_goals (with_reducible rfl))
       simp only [gA, gB, gC, Act.put, gD, gE, gF]; refine wpAnyH_take (i := 7) (v := ?_) rfl (by kernel_rfl) (by kernel_rfl) (by kernel_rfl) (fun _ _ _ h => h) (Or.inl ⟨by rfl, ?_⟩) hHeld ?_; rotate_left
       · (intro W hSw; (try dsimp only at hSw); go_simp; all_goals (with_reducible rfl))
       simp only [gA, gB, gC, Act.put, gD, gE, gF]; refine wpAnyH_take (i := 8) (v := ?_) rfl (by kernel_rfl) (by kernel_rfl) (by kernel_rfl) (fun _ _ _ h => h) (Or.inl ⟨by rfl, ?_⟩) hHeld ?_; rotate_left
       · (intro W hSw; (try dsimp only at hSw); go_simp; all_goals (with_reducible rfl))
       simp only [gA, gB, gC, Act.put, gD, gE, gF]; refine wpAnyH_take (i := 9) (v := ?_) rfl (by kernel_rfl) (by kernel_rfl) (by kernel_rfl) (fun _ _ _ h => h) (Or.inl ⟨by rfl, ?_⟩) hHeld ?_; rotate_left
       · (intro W hSw; (try dsimp only at hSw); go_simp; all_goals (with_reducible rfl))
       simp only [gA, gB, gC, Act.put, gD, gE, gF]; have c_Vq := Vq.c0; have f0_Vq := Vq.frozen 0; have d_Vq := Vq.c1; have f1_Vq := Vq.frozen 1; have l_Vq := Vq.lt; have m_Vq := Nat.le_of_lt l_Vq; refine wpAnyH_ready (rs := [12]) (by kernel_rfl) (by simp) ?_; refine AllReadyH.cons rfl (fun K hK => ?_) AllReadyH.nil; simp only [gA, gB, gC]; (go_simp); clear c_Vq f0_Vq d_Vq f1_Vq l_Vq m_Vq; refine st2 Vq (.bool sq) (.slice aq lq kq) (Q := fun W => K _ W) ?_; intro x8 V' oth far; replace Vr := oth _ _ _ (by first | omega | assumption | (simp; omega)) Vr; replace hq := hq.far Vq (noInt2 _ _ _ _) far.1; replace hr2 := hr2.far Vq (noInt2 _ _ _ _) far.1; replace BX := far.2 _ _ (by first | omega | (simp; omega)) BX; replace Vq := V'; clear oth far; refine hK.out _ _ (LS.out _ BX) (fun hHeld => ?_); clear hK K; have c_Vr := Vr.c0; have f0_Vr := Vr.frozen 0; have d_Vr := Vr.c1; have f1_Vr := Vr.frozen 1; have l_Vr := Vr.lt; have m_Vr := Nat.le_of_lt l_Vr; refine wpAnyH_ready (rs := [13]) (by kernel_rfl) (by simp) ?_
       refine AllReadyH.cons rfl (fun K hK => ?_) AllReadyH.nil; simp only [gA, gB, gC]; (go_simp); clear c_Vr f0_Vr d_Vr f1_Vr l_Vr m_Vr; refine st2 Vr (.bool sr) (.slice ar lr kr) (Q := fun W => K _ W) ?_; intro x9 V' oth far; replace Vq := oth _ _ _ (by first | omega | assumption | (simp; omega)) Vq; replace hq := hq.far Vr (noInt2 _ _ _ _) far.1; replace hr2 := hr2.far Vr (noInt2 _ _ _ _) far.1; replace BX := far.2 _ _ (by first | omega | (simp; omega)) BX; replace Vr := V'; clear oth far; refine hK.out _ _ (LS.out _ BX) (fun hHeld => ?_); clear hK K; refine wpAnyH_take (i := 14) (v := ?_) rfl (by kernel_rfl) (by kernel_rfl) (by kernel_rfl) (fun _ _ _ h => h) (Or.inl ⟨by rfl, ?_⟩) hHeld ?_; rotate_left
       · (intro W hSw; (try dsimp only at hSw); go_simp; all_goals (with_reducible rfl))
       simp only [gA, gB, gC, Act.put, gD, gE, gF]; refine wpAnyH_done (by kernel_rfl) ?_ _; refine NoPanic.normal ?_; clear hHeld; (go_wp2_with fail)
       go_meet
       exact ⟨_, _, sq, aq, lq, kq, zq, sr, ar, lr, kr, zr, rfl, rfl, Vq, Vr, hq, hr2, ev, BX, ⟨by omega, by omega, by omega⟩⟩
    ·
     simp only [gA, gB, gC]; (go_simp); have lt_Vr_Vq := Vq.lt; have sz_Vr := BX.size; refine ent1 _ _ _ (Q := fun V => K _ V) ?_; intro x5 hb hs_ Vr; replace Vq := Va.after hb Vq; replace h3 := Nt.after hb h3; replace BX := step BX hb; clear hb hs_; refine hK.out _ _ (LS.out _ BX) (fun hHeld => ?_); clear hK K; refine wpAnyH_ready (rs := [4]) (by kernel_rfl) (by simp) ?_; refine AllReadyH.cons rfl (fun K hK => ?_) AllReadyH.nil
     ·
      simp only [gA, gB, gC]; (go_simp); refine (qabove_any b3 m3 d3 y3 _ h3).mono ?_; rintro e x6 ⟨rfl, h4, hb⟩; replace Vq := Va.after hb Vq; replace Vr := Va.after hb Vr; replace h3 := Nt.after hb h3; replace BX := step BX hb; clear hb; (try go_wp2_with fail); refine hK.out _ _ (LS.out _ BX) (fun hHeld => ?_); clear hK K; refine wpAnyH_ready (rs := [5]) (by kernel_rfl) (by simp) ?_; refine AllReadyH.cons rfl (fun K hK => ?_) AllReadyH.nil
      ·
       simp only [gA, gB, gC]; (go_simp); refine (wdiv_ok s false a b3 l c m3 d3 zs y3 _ (Rt.after BX L_hr.out).1 h4 (by show num y3 ≠ 0; rw [e3]; have := v.den_pos; omega)).mono ?_; rintro e x7 ⟨sq, aq, lq, kq, zq, sr, ar, lr, kr, zr, rfl, hq, hr2, d1, d2, hb⟩; replace Vq := Va.after hb Vq; replace Vr := Va.after hb Vr; replace h3 := Nt.after hb h3; replace h4 := It.after hb h4; replace BX := step BX hb; clear hb
       have ev : iv sq zq = qfl v ∧ iv sr zr = v.num % (v.den : Int) := by
        rw [iv_f, e3] at d1 d2; have hd := v.den_pos; exact qfl_of (by rw [← L_hr.out.2.2.1]; exact d1) (by omega) (by omega)
       clear d1 d2 e3 h3 h4; (try go_wp2_with fail); refine hK.out _ _ (LS.out _ BX) (fun hHeld => ?_); clear hK K; refine wpAnyH_take (i := 6) (v := ?_) rfl (by kernel_rfl) (by kernel_rfl) (by kernel_rfl) (fun _ _ _ h => h) (Or.inl ⟨by rfl, ?_⟩) hHeld ?_; rotate_left
       · (intro W hSw; (try dsimp only at hSw); go_simp; all_goals (with_reducible rfl))
       simp only [gA, gB, gC, Act.put, gD, gE, gF]; refine wpAnyH_take (i := 7) (v := ?_) rfl (by kernel_rfl) (by kernel_rfl) (by kernel_rfl) (fun _ _ _ h => h) (Or.inl ⟨by rfl, ?_⟩) hHeld ?_; rotate_left
       · (intro W hSw; (try dsimp only at hSw); go_simp; all_goals (with_reducible rfl))
       simp only [gA, gB, gC, Act.put, gD, gE, gF]; refine wpAnyH_take (i := 8) (v := ?_) rfl (by kernel_rfl) (by kernel_rfl) (by kernel_rfl) (fun _ _ _ h => h) (Or.inl ⟨by rfl, ?_⟩) hHeld ?_; rotate_left
       · (intro W hSw; (try dsimp only at hSw); go_simp; all_goals (with_reducible rfl))
       simp only [gA, gB, gC, Act.put, gD, gE, gF]; refine wpAnyH_take (i := 9) (v := ?_) rfl (by kernel_rfl) (by kernel_rfl) (by kernel_rfl) (fun _ _ _ h => h) (Or.inl ⟨by rfl, ?_⟩) hHeld ?_; rotate_left
       · (intro W hSw; (try dsimp only at hSw); go_simp; all_goals (with_reducible rfl))
       simp only [gA, gB, gC, Act.put, gD, gE, gF]; have c_Vq := Vq.c0; have f0_Vq := Vq.frozen 0; have d_Vq := Vq.c1; have f1_Vq := Vq.frozen 1; have l_Vq := Vq.lt; have m_Vq := Nat.le_of_lt l_Vq; refine wpAnyH_ready (rs := [12]) (by kernel_rfl) (by simp) ?_; refine AllReadyH.cons rfl (fun K hK => ?_) AllReadyH.nil; simp only [gA, gB, gC]; (go_simp); clear c_Vq f0_Vq d_Vq f1_Vq l_Vq m_Vq; refine st2 Vq (.bool sq) (.slice aq lq kq) (Q := fun W => K _ W) ?_; intro x8 V' oth far; replace Vr := oth _ _ _ (by first | omega | assumption | (simp; omega)) Vr; replace hq := hq.far Vq (noInt2 _ _ _ _) far.1; replace hr2 := hr2.far Vq (noInt2 _ _ _ _) far.1; replace BX := far.2 _ _ (by first | omega | (simp; omega)) BX; replace Vq := V'; clear oth far; refine hK.out _ _ (LS.out _ BX) (fun hHeld => ?_); clear hK K; have c_Vr := Vr.c0; have f0_Vr := Vr.frozen 0; have d_Vr := Vr.c1; have f1_Vr := Vr.frozen 1; have l_Vr := Vr.lt; have m_Vr := Nat.le_of_lt l_Vr; refine wpAnyH_ready (rs := [13]) (by kernel_rfl) (by simp) ?_
       refine AllReadyH.cons rfl (fun K hK => ?_) AllReadyH.nil; simp only [gA, gB, gC]; (go_simp); clear c_Vr f0_Vr d_Vr f1_Vr l_Vr m_Vr; refine st2 Vr (.bool sr) (.slice ar lr kr) (Q := fun W => K _ W) ?_; intro x9 V' oth far; replace Vq := oth _ _ _ (by first | omega | assumption | (simp; omega)) Vq; replace hq := hq.far Vr (noInt2 _ _ _ _) far.1; replace hr2 := hr2.far Vr (noInt2 _ _ _ _) far.1; replace BX := far.2 _ _ (by first | omega | (simp; omega)) BX; replace Vr := V'; clear oth far; refine hK.out _ _ (LS.out _ BX) (fun hHeld => ?_); clear hK K; refine wpAnyH_take (i := 14) (v := ?_) rfl (by kernel_rfl) (by kernel_rfl) (by kernel_rfl) (fun _ _ _ h => h) (Or.inl ⟨by rfl, ?_⟩) hHeld ?_; rotate_left
       · (intro W hSw; (try dsimp only at hSw); go_simp; all_goals (with_reducible rfl))
       simp only [gA, gB, gC, Act.put, gD, gE, gF]; refine wpAnyH_done (by kernel_rfl) ?_ _; refine NoPanic.normal ?_; clear hHeld; (go_wp2_with fail)
       go_meet
       exact ⟨_, _, sq, aq, lq, kq, zq, sr, ar, lr, kr, zr, rfl, rfl, Vq, Vr, hq, hr2, ev, BX, ⟨by omega, by omega, by omega⟩⟩
   ·
    simp only [gA, gB, gC]; (go_simp); have lt_Vr_Vq := Vq.lt; have sz_Vr := BX.size; refine ent1 _ _ _ (Q := fun V => K _ V) ?_; intro x4 hb hs_ Vr; replace Vq := Va.after hb Vq; replace BX := step BX hb; clear hb hs_; refine hK.out _ _ (LS.out _ BX) (fun hHeld => ?_); clear hK K; refine wpAnyH_ready (rs := [3]) (by kernel_rfl) (by simp) ?_; refine AllReadyH.cons rfl (fun K hK => ?_) AllReadyH.nil
    ·
     simp only [gA, gB, gC]; (go_simp); refine (rden_any s a l c b m d ds _ (Rt.after BX L_hr.out).2.1).mono ?_; rintro e x5 ⟨b3, m3, d3, y3, rfl, h3, e3, hb⟩; replace Vq := Va.after hb Vq; replace Vr := Va.after hb Vr; replace BX := step BX hb; clear hb; replace e3 := e3.trans L_hr.out.2.2.2.1; (try go_wp2_with fail); refine hK.out _ _ (LS.out _ BX) (fun hHeld => ?_); clear hK K; refine wpAnyH_ready (rs := [4]) (by kernel_rfl) (by simp) ?_; refine AllReadyH.cons rfl (fun K hK => ?_) AllReadyH.nil
     ·
      simp only [gA, gB, gC]; (go_simp); refine (qabove_any b3 m3 d3 y3 _ h3).mono ?_; rintro e x6 ⟨rfl, h4, hb⟩; replace Vq := Va.after hb Vq; replace Vr := Va.after hb Vr; replace h3 := Nt.after hb h3; replace BX := step BX hb; clear hb; (try go_wp2_with fail); refine hK.out _ _ (LS.out _ BX) (fun hHeld => ?_); clear hK K; refine wpAnyH_ready (rs := [5]) (by kernel_rfl) (by simp) ?_; refine AllReadyH.cons rfl (fun K hK => ?_) AllReadyH.nil
      ·
       simp only [gA, gB, gC]; (go_simp); refine (wdiv_ok s false a b3 l c m3 d3 zs y3 _ (Rt.after BX L_hr.out).1 h4 (by show num y3 ≠ 0; rw [e3]; have := v.den_pos; omega)).mono ?_; rintro e x7 ⟨sq, aq, lq, kq, zq, sr, ar, lr, kr, zr, rfl, hq, hr2, d1, d2, hb⟩; replace Vq := Va.after hb Vq; replace Vr := Va.after hb Vr; replace h3 := Nt.after hb h3; replace h4 := It.after hb h4; replace BX := step BX hb; clear hb
       have ev : iv sq zq = qfl v ∧ iv sr zr = v.num % (v.den : Int) := by
        rw [iv_f, e3] at d1 d2; have hd := v.den_pos; exact qfl_of (by rw [← L_hr.out.2.2.1]; exact d1) (by omega) (by omega)
       clear d1 d2 e3 h3 h4; (try go_wp2_with fail); refine hK.out _ _ (LS.out _ BX) (fun hHeld => ?_); clear hK K; refine wpAnyH_take (i := 6) (v := ?_) rfl (by kernel_rfl) (by kernel_rfl) (by kernel_rfl) (fun _ _ _ h => h) (Or.inl ⟨by rfl, ?_⟩) hHeld ?_; rotate_left
       · (intro W hSw; (try dsimp only at hSw); go_simp; all_goals (with_reducible rfl))
       simp only [gA, gB, gC, Act.put, gD, gE, gF]; refine wpAnyH_take (i := 7) (v := ?_) rfl (by kernel_rfl) (by kernel_rfl) (by kernel_rfl) (fun _ _ _ h => h) (Or.inl ⟨by rfl, ?_⟩) hHeld ?_; rotate_left
       · (intro W hSw; (try dsimp only at hSw); go_simp; all_goals (with_reducible rfl))
       simp only [gA, gB, gC, Act.put, gD, gE, gF]; refine wpAnyH_take (i := 8) (v := ?_) rfl (by kernel_rfl) (by kernel_rfl) (by kernel_rfl) (fun _ _ _ h => h) (Or.inl ⟨by rfl, ?_⟩) hHeld ?_; rotate_left
       · (intro W hSw; (try dsimp only at hSw); go_simp; all_goals (with_reducible rfl))
       simp only [gA, gB, gC, Act.put, gD, gE, gF]; refine wpAnyH_take (i := 9) (v := ?_) rfl (by kernel_rfl) (by kernel_rfl) (by kernel_rfl) (fun _ _ _ h => h) (Or.inl ⟨by rfl, ?_⟩) hHeld ?_; rotate_left
       · (intro W hSw; (try dsimp only at hSw); go_simp; all_goals (with_reducible rfl))
       simp only [gA, gB, gC, Act.put, gD, gE, gF]; have c_Vq := Vq.c0; have f0_Vq := Vq.frozen 0; have d_Vq := Vq.c1; have f1_Vq := Vq.frozen 1; have l_Vq := Vq.lt; have m_Vq := Nat.le_of_lt l_Vq; refine wpAnyH_ready (rs := [12]) (by kernel_rfl) (by simp) ?_; refine AllReadyH.cons rfl (fun K hK => ?_) AllReadyH.nil; simp only [gA, gB, gC]; (go_simp); clear c_Vq f0_Vq d_Vq f1_Vq l_Vq m_Vq; refine st2 Vq (.bool sq) (.slice aq lq kq) (Q := fun W => K _ W) ?_; intro x8 V' oth far; replace Vr := oth _ _ _ (by first | omega | assumption | (simp; omega)) Vr; replace hq := hq.far Vq (noInt2 _ _ _ _) far.1; replace hr2 := hr2.far Vq (noInt2 _ _ _ _) far.1; replace BX := far.2 _ _ (by first | omega | (simp; omega)) BX; replace Vq := V'; clear oth far; refine hK.out _ _ (LS.out _ BX) (fun hHeld => ?_); clear hK K; have c_Vr := Vr.c0; have f0_Vr := Vr.frozen 0; have d_Vr := Vr.c1; have f1_Vr := Vr.frozen 1; have l_Vr := Vr.lt; have m_Vr := Nat.le_of_lt l_Vr; refine wpAnyH_ready (rs := [13]) (by kernel_rfl) (by simp) ?_
       refine AllReadyH.cons rfl (fun K hK => ?_) AllReadyH.nil; simp only [gA, gB, gC]; (go_simp); clear c_Vr f0_Vr d_Vr f1_Vr l_Vr m_Vr; refine st2 Vr (.bool sr) (.slice ar lr kr) (Q := fun W => K _ W) ?_; intro x9 V' oth far; replace Vq := oth _ _ _ (by first | omega | assumption | (simp; omega)) Vq; replace hq := hq.far Vr (noInt2 _ _ _ _) far.1; replace hr2 := hr2.far Vr (noInt2 _ _ _ _) far.1; replace BX := far.2 _ _ (by first | omega | (simp; omega)) BX; replace Vr := V'; clear oth far; refine hK.out _ _ (LS.out _ BX) (fun hHeld => ?_); clear hK K; refine wpAnyH_take (i := 14) (v := ?_) rfl (by kernel_rfl) (by kernel_rfl) (by kernel_rfl) (fun _ _ _ h => h) (Or.inl ⟨by rfl, ?_⟩) hHeld ?_; rotate_left
       · (intro W hSw; (try dsimp only at hSw); go_simp; all_goals (with_reducible rfl))
       simp only [gA, gB, gC, Act.put, gD, gE, gF]; refine wpAnyH_done (by kernel_rfl) ?_ _; refine NoPanic.normal ?_; clear hHeld; (go_wp2_with fail)
       go_meet
       exact ⟨_, _, sq, aq, lq, kq, zq, sr, ar, lr, kr, zr, rfl, rfl, Vq, Vr, hq, hr2, ev, BX, ⟨by omega, by omega, by omega⟩⟩
  ·
   simp only [gA, gB, gC]; (go_simp); have sz_Vr := BX.size; refine ent1 _ _ _ (Q := fun V => K _ V) ?_; intro x3 hb hs_ Vr; replace BX := step BX hb; clear hb hs_; refine hK.out _ _ (LS.out _ BX) (fun hHeld => ?_); clear hK K; refine wpAnyH_ready (rs := [3, 10]) (by kernel_rfl) (by simp) ?_; refine AllReadyH.cons rfl (fun K hK => ?_) (AllReadyH.cons rfl (fun K hK => ?_) AllReadyH.nil)
   ·
    simp only [gA, gB, gC]; (go_simp); refine (rden_any s a l c b m d ds _ (Rt.after BX L_hr.out).2.1).mono ?_; rintro e x4 ⟨b3, m3, d3, y3, rfl, h3, e3, hb⟩; replace Vr := Va.after hb Vr; replace BX := step BX hb; clear hb; replace e3 := e3.trans L_hr.out.2.2.2.1; (try go_wp2_with fail); refine hK.out _ _ (LS.out _ BX) (fun hHeld => ?_); clear hK K; refine wpAnyH_ready (rs := [4, 10]) (by kernel_rfl) (by simp) ?_; refine AllReadyH.cons rfl (fun K hK => ?_) (AllReadyH.cons rfl (fun K hK => ?_) AllReadyH.nil)
    ·
     simp only [gA, gB, gC]; (go_simp); refine (qabove_any b3 m3 d3 y3 _ h3).mono ?_; rintro e x5 ⟨rfl, h4, hb⟩; replace Vr := Va.after hb Vr; replace h3 := Nt.after hb h3; replace BX := step BX hb; clear hb; (try go_wp2_with fail); refine hK.out _ _ (LS.out _ BX) (fun hHeld => ?_); clear hK K; refine wpAnyH_ready (rs := [5, 10]) (by kernel_rfl) (by simp) ?_; refine AllReadyH.cons rfl (fun K hK => ?_) (AllReadyH.cons rfl (fun K hK => ?_) AllReadyH.nil)
     ·
      simp only [gA, gB, gC]; (go_simp); refine (wdiv_ok s false a b3 l c m3 d3 zs y3 _ (Rt.after BX L_hr.out).1 h4 (by show num y3 ≠ 0; rw [e3]; have := v.den_pos; omega)).mono ?_; rintro e x6 ⟨sq, aq, lq, kq, zq, sr, ar, lr, kr, zr, rfl, hq, hr2, d1, d2, hb⟩; replace Vr := Va.after hb Vr; replace h3 := Nt.after hb h3; replace h4 := It.after hb h4; replace BX := step BX hb; clear hb
      have ev : iv sq zq = qfl v ∧ iv sr zr = v.num % (v.den : Int) := by
       rw [iv_f, e3] at d1 d2; have hd := v.den_pos; exact qfl_of (by rw [← L_hr.out.2.2.1]; exact d1) (by omega) (by omega)
      clear d1 d2 e3 h3 h4; (try go_wp2_with fail); refine hK.out _ _ (LS.out _ BX) (fun hHeld => ?_); clear hK K; refine wpAnyH_take (i := 6) (v := ?_) rfl (by kernel_rfl) (by kernel_rfl) (by kernel_rfl) (fun _ _ _ h => h) (Or.inl ⟨by rfl, ?_⟩) hHeld ?_; rotate_left
      · (intro W hSw; (try dsimp only at hSw); go_simp; all_goals (with_reducible rfl))
      simp only [gA, gB, gC, Act.put, gD, gE, gF]; refine wpAnyH_take (i := 7) (v := ?_) rfl (by kernel_rfl) (by kernel_rfl) (by kernel_rfl) (fun _ _ _ h => h) (Or.inl ⟨by rfl, ?_⟩) hHeld ?_; rotate_left
      · (intro W hSw; (try dsimp only at hSw); go_simp; all_goals (with_reducible rfl))
      simp only [gA, gB, gC, Act.put, gD, gE, gF]; refine wpAnyH_take (i := 8) (v := ?_) rfl (by kernel_rfl) (by kernel_rfl) (by kernel_rfl) (fun _ _ _ h => h) (Or.inl ⟨by rfl, ?_⟩) hHeld ?_; rotate_left
      · (intro W hSw; (try dsimp only at hSw); go_simp; all_goals (with_reducible rfl))
      simp only [gA, gB, gC, Act.put, gD, gE, gF]; refine wpAnyH_take (i := 9) (v := ?_) rfl (by kernel_rfl) (by kernel_rfl) (by kernel_rfl) (fun _ _ _ h => h) (Or.inl ⟨by rfl, ?_⟩) hHeld ?_; rotate_left
      · (intro W hSw; (try dsimp only at hSw); go_simp; all_goals (with_reducible rfl))
      simp only [gA, gB, gC, Act.put, gD, gE, gF]; refine wpAnyH_ready (rs := [10]) (by kernel_rfl) (by simp) ?_; refine AllReadyH.cons rfl (fun K hK => ?_) AllReadyH.nil
      ·
       simp only [gA, gB, gC]; (go_simp); have lt_Vq_Vr := Vr.lt; have sz_Vq := BX.size; refine ent1 _ _ _ (Q := fun V => K _ V) ?_; intro x7 hb hs_ Vq; replace Vr := Va.after hb Vr; replace hq := It.after hb hq; replace hr2 := It.after hb hr2; replace BX := step BX hb; clear hb hs_; refine hK.out _ _ (LS.out _ BX) (fun hHeld => ?_); clear hK K; have c_Vq := Vq.c0; have f0_Vq := Vq.frozen 0; have d_Vq := Vq.c1; have f1_Vq := Vq.frozen 1; have l_Vq := Vq.lt; have m_Vq := Nat.le_of_lt l_Vq; refine wpAnyH_ready (rs := [12]) (by kernel_rfl) (by simp) ?_; refine AllReadyH.cons rfl (fun K hK => ?_) AllReadyH.nil; simp only [gA, gB, gC]; (go_simp); clear c_Vq f0_Vq d_Vq f1_Vq l_Vq m_Vq; refine st2 Vq (.bool sq) (.slice aq lq kq) (Q := fun W => K _ W) ?_; intro x8 V' oth far; replace Vr := oth _ _ _ (by first | omega | assumption | (simp; omega)) Vr; replace hq := hq.far Vq (noInt2 _ _ _ _) far.1; replace hr2 := hr2.far Vq (noInt2 _ _ _ _) far.1; replace BX := far.2 _ _ (by first | omega | (simp; omega)) BX
       replace Vq := V'; clear oth far; refine hK.out _ _ (LS.out _ BX) (fun hHeld => ?_); clear hK K; have c_Vr := Vr.c0; have f0_Vr := Vr.frozen 0; have d_Vr := Vr.c1; have f1_Vr := Vr.frozen 1; have l_Vr := Vr.lt; have m_Vr := Nat.le_of_lt l_Vr; refine wpAnyH_ready (rs := [13]) (by kernel_rfl) (by simp) ?_; refine AllReadyH.cons rfl (fun K hK => ?_) AllReadyH.nil; simp only [gA, gB, gC]; (go_simp); clear c_Vr f0_Vr d_Vr f1_Vr l_Vr m_Vr; refine st2 Vr (.bool sr) (.slice ar lr kr) (Q := fun W => K _ W) ?_; intro x9 V' oth far; replace Vq := oth _ _ _ (by first | omega | assumption | (simp; omega)) Vq; replace hq := hq.far Vr (noInt2 _ _ _ _) far.1; replace hr2 := hr2.far Vr (noInt2 _ _ _ _) far.1; replace BX := far.2 _ _ (by first | omega | (simp; omega)) BX; replace Vr := V'; clear oth far; refine hK.out _ _ (LS.out _ BX) (fun hHeld => ?_); clear hK K; refine wpAnyH_take (i := 14) (v := ?_) rfl (by kernel_rfl) (by kernel_rfl) (by kernel_rfl) (fun _ _ _ h => h) (Or.inl ⟨by rfl, ?_⟩) hHeld ?_
       rotate_left
       · (intro W hSw; (try dsimp only at hSw); go_simp; all_goals (with_reducible rfl))
       simp only [gA, gB, gC, Act.put, gD, gE, gF]; refine wpAnyH_done (by kernel_rfl) ?_ _; refine NoPanic.normal ?_; clear hHeld; (go_wp2_with fail)
       go_meet
       exact ⟨_, _, sq, aq, lq, kq, zq, sr, ar, lr, kr, zr, rfl, rfl, Vq, Vr, hq, hr2, ev, BX, ⟨by omega, by omega, by omega⟩⟩
     ·
      simp only [gA, gB, gC]; (go_simp); have lt_Vq_Vr := Vr.lt; have sz_Vq := BX.size; refine ent1 _ _ _ (Q := fun V => K _ V) ?_; intro x6 hb hs_ Vq; replace Vr := Va.after hb Vr; replace h3 := Nt.after hb h3; replace h4 := It.after hb h4; replace BX := step BX hb; clear hb hs_; refine hK.out _ _ (LS.out _ BX) (fun hHeld => ?_); clear hK K; refine wpAnyH_ready (rs := [5]) (by kernel_rfl) (by simp) ?_; refine AllReadyH.cons rfl (fun K hK => ?_) AllReadyH.nil
      ·
       simp only [gA, gB, gC]; (go_simp); refine (wdiv_ok s false a b3 l c m3 d3 zs y3 _ (Rt.after BX L_hr.out).1 h4 (by show num y3 ≠ 0; rw [e3]; have := v.den_pos; omega)).mono ?_; rintro e x7 ⟨sq, aq, lq, kq, zq, sr, ar, lr, kr, zr, rfl, hq, hr2, d1, d2, hb⟩; replace Vr := Va.after hb Vr; replace Vq := Va.after hb Vq; replace h3 := Nt.after hb h3; replace h4 := It.after hb h4; replace BX := step BX hb; clear hb
       have ev : iv sq zq = qfl v ∧ iv sr zr = v.num % (v.den : Int) := by
        rw [iv_f, e3] at d1 d2; have hd := v.den_pos; exact qfl_of (by rw [← L_hr.out.2.2.1]; exact d1) (by omega) (by omega)
       clear d1 d2 e3 h3 h4; (try go_wp2_with fail); refine hK.out _ _ (LS.out _ BX) (fun hHeld => ?_); clear hK K; refine wpAnyH_take (i := 6) (v := ?_) rfl (by kernel_rfl) (by kernel_rfl) (by kernel_rfl) (fun _ _ _ h => h) (Or.inl ⟨by rfl, ?_⟩) hHeld ?_; rotate_left
       · (intro W hSw; (try dsimp only at hSw); go_simp; all_goals (with_reducible rfl))
       simp only [gA, gB, gC, Act.put, gD, gE, gF]; refine wpAnyH_take (i := 7) (v := ?_) rfl (by kernel_rfl) (by kernel_rfl) (by kernel_rfl) (fun _ _ _ h => h) (Or.inl ⟨by rfl, ?_⟩) hHeld ?_; rotate_left
       · (intro W hSw; (try dsimp only at hSw); go_simp; all_goals (with_reducible rfl))
       simp only [gA, gB, gC, Act.put, gD, gE, gF]; refine wpAnyH_take (i := 8) (v := ?_) rfl (by kernel_rfl) (by kernel_rfl) (by kernel_rfl) (fun _ _ _ h => h) (Or.inl ⟨by rfl, ?_⟩) hHeld ?_; rotate_left
       · (intro W hSw; (try dsimp only at hSw); go_simp; all_goals (with_reducible rfl))
       simp only [gA, gB, gC, Act.put, gD, gE, gF]; refine wpAnyH_take (i := 9) (v := ?_) rfl (by kernel_rfl) (by kernel_rfl) (by kernel_rfl) (fun _ _ _ h => h) (Or.inl ⟨by rfl, ?_⟩) hHeld ?_; rotate_left
       · (intro W hSw; (try dsimp only at hSw); go_simp; all_goals (with_reducible rfl))
       simp only [gA, gB, gC, Act.put, gD, gE, gF]; have c_Vq := Vq.c0; have f0_Vq := Vq.frozen 0; have d_Vq := Vq.c1; have f1_Vq := Vq.frozen 1; have l_Vq := Vq.lt; have m_Vq := Nat.le_of_lt l_Vq; refine wpAnyH_ready (rs := [12]) (by kernel_rfl) (by simp) ?_; refine AllReadyH.cons rfl (fun K hK => ?_) AllReadyH.nil; simp only [gA, gB, gC]; (go_simp); clear c_Vq f0_Vq d_Vq f1_Vq l_Vq m_Vq; refine st2 Vq (.bool sq) (.slice aq lq kq) (Q := fun W => K _ W) ?_; intro x8 V' oth far; replace Vr := oth _ _ _ (by first | omega | assumption | (simp; omega)) Vr; replace hq := hq.far Vq (noInt2 _ _ _ _) far.1; replace hr2 := hr2.far Vq (noInt2 _ _ _ _) far.1; replace BX := far.2 _ _ (by first | omega | (simp; omega)) BX; replace Vq := V'; clear oth far; refine hK.out _ _ (LS.out _ BX) (fun hHeld => ?_); clear hK K; have c_Vr := Vr.c0; have f0_Vr := Vr.frozen 0; have d_Vr := Vr.c1; have f1_Vr := Vr.frozen 1; have l_Vr := Vr.lt; have m_Vr := Nat.le_of_lt l_Vr; refine wpAnyH_ready (rs := [13]) (by kernel_rfl) (by simp) ?_
       refine AllReadyH.cons rfl (fun K hK => ?_) AllReadyH.nil; simp only [gA, gB, gC]; (go_simp); clear c_Vr f0_Vr d_Vr f1_Vr l_Vr m_Vr; refine st2 Vr (.bool sr) (.slice ar lr kr) (Q := fun W => K _ W) ?_; intro x9 V' oth far; replace Vq := oth _ _ _ (by first | omega | assumption | (simp; omega)) Vq; replace hq := hq.far Vr (noInt2 _ _ _ _) far.1; replace hr2 := hr2.far Vr (noInt2 _ _ _ _) far.1; replace BX := far.2 _ _ (by first | omega | (simp; omega)) BX; replace Vr := V'; clear oth far; refine hK.out _ _ (LS.out _ BX) (fun hHeld => ?_); clear hK K; refine wpAnyH_take (i := 14) (v := ?_) rfl (by kernel_rfl) (by kernel_rfl) (by kernel_rfl) (fun _ _ _ h => h) (Or.inl ⟨by rfl, ?_⟩) hHeld ?_; rotate_left
       · (intro W hSw; (try dsimp only at hSw); go_simp; all_goals (with_reducible rfl))
       simp only [gA, gB, gC, Act.put, gD, gE, gF]; refine wpAnyH_done (by kernel_rfl) ?_ _; refine NoPanic.normal ?_; clear hHeld; (go_wp2_with fail)
       go_meet
       exact ⟨_, _, sq, aq, lq, kq, zq, sr, ar, lr, kr, zr, rfl, rfl, Vq, Vr, hq, hr2, ev, BX, ⟨by omega, by omega, by omega⟩⟩
    ·
     simp only [gA, gB, gC]; (go_simp); have lt_Vq_Vr := Vr.lt; have sz_Vq := BX.size; refine ent1 _ _ _ (Q := fun V => K _ V) ?_; intro x5 hb hs_ Vq; replace Vr := Va.after hb Vr; replace h3 := Nt.after hb h3; replace BX := step BX hb; clear hb hs_; refine hK.out _ _ (LS.out _ BX) (fun hHeld => ?_); clear hK K; refine wpAnyH_ready (rs := [4]) (by kernel_rfl) (by simp) ?_; refine AllReadyH.cons rfl (fun K hK => ?_) AllReadyH.nil
     ·
      simp only [gA, gB, gC]; (go_simp); refine (qabove_any b3 m3 d3 y3 _ h3).mono ?_; rintro e x6 ⟨rfl, h4, hb⟩; replace Vr := Va.after hb Vr; replace Vq := Va.after hb Vq; replace h3 := Nt.after hb h3; replace BX := step BX hb; clear hb; (try go_wp2_with fail); refine hK.out _ _ (LS.out _ BX) (fun hHeld => ?_); clear hK K; refine wpAnyH_ready (rs := [5]) (by kernel_rfl) (by simp) ?_; refine AllReadyH.cons rfl (fun K hK => ?_) AllReadyH.nil
      ·
       simp only [gA, gB, gC]; (go_simp); refine (wdiv_ok s false a b3 l c m3 d3 zs y3 _ (Rt.after BX L_hr.out).1 h4 (by show num y3 ≠ 0; rw [e3]; have := v.den_pos; omega)).mono ?_; rintro e x7 ⟨sq, aq, lq, kq, zq, sr, ar, lr, kr, zr, rfl, hq, hr2, d1, d2, hb⟩; replace Vr := Va.after hb Vr; replace Vq := Va.after hb Vq; replace h3 := Nt.after hb h3; replace h4 := It.after hb h4; replace BX := step BX hb; clear hb
       have ev : iv sq zq = qfl v ∧ iv sr zr = v.num % (v.den : Int) := by
        rw [iv_f, e3] at d1 d2; have hd := v.den_pos; exact qfl_of (by rw [← L_hr.out.2.2.1]; exact d1) (by omega) (by omega)
       clear d1 d2 e3 h3 h4; (try go_wp2_with fail); refine hK.out _ _ (LS.out _ BX) (fun hHeld => ?_); clear hK K; refine wpAnyH_take (i := 6) (v := ?_) rfl (by kernel_rfl) (by kernel_rfl) (by kernel_rfl) (fun _ _ _ h => h) (Or.inl ⟨by rfl, ?_⟩) hHeld ?_; rotate_left
       · (intro W hSw; (try dsimp only at hSw); go_simp; all_goals (with_reducible rfl))
       simp only [gA, gB, gC, Act.put, gD, gE, gF]; refine wpAnyH_take (i := 7) (v := ?_) rfl (by kernel_rfl) (by kernel_rfl) (by kernel_rfl) (fun _ _ _ h => h) (Or.inl ⟨by rfl, ?_⟩) hHeld ?_; rotate_left
       · (intro W hSw; (try dsimp only at hSw); go_simp; all_goals (with_reducible rfl))
       simp only [gA, gB, gC, Act.put, gD, gE, gF]; refine wpAnyH_take (i := 8) (v := ?_) rfl (by kernel_rfl) (by kernel_rfl) (by kernel_rfl) (fun _ _ _ h => h) (Or.inl ⟨by rfl, ?_⟩) hHeld ?_; rotate_left
       · (intro W hSw; (try dsimp only at hSw); go_simp; all_goals (with_reducible rfl))
       simp only [gA, gB, gC, Act.put, gD, gE, gF]; refine wpAnyH_take (i := 9) (v := ?_) rfl (by kernel_rfl) (by kernel_rfl) (by kernel_rfl) (fun _ _ _ h => h) (Or.inl ⟨by rfl, ?_⟩) hHeld ?_; rotate_left
       · (intro W hSw; (try dsimp only at hSw); go_simp; all_goals (with_reducible rfl))
       simp only [gA, gB, gC, Act.put, gD, gE, gF]; have c_Vq := Vq.c0; have f0_Vq := Vq.frozen 0; have d_Vq := Vq.c1; have f1_Vq := Vq.frozen 1; have l_Vq := Vq.lt; have m_Vq := Nat.le_of_lt l_Vq; refine wpAnyH_ready (rs := [12]) (by kernel_rfl) (by simp) ?_; refine AllReadyH.cons rfl (fun K hK => ?_) AllReadyH.nil; simp only [gA, gB, gC]; (go_simp); clear c_Vq f0_Vq d_Vq f1_Vq l_Vq m_Vq; refine st2 Vq (.bool sq) (.slice aq lq kq) (Q := fun W => K _ W) ?_; intro x8 V' oth far; replace Vr := oth _ _ _ (by first | omega | assumption | (simp; omega)) Vr; replace hq := hq.far Vq (noInt2 _ _ _ _) far.1; replace hr2 := hr2.far Vq (noInt2 _ _ _ _) far.1; replace BX := far.2 _ _ (by first | omega | (simp; omega)) BX; replace Vq := V'; clear oth far; refine hK.out _ _ (LS.out _ BX) (fun hHeld => ?_); clear hK K; have c_Vr := Vr.c0; have f0_Vr := Vr.frozen 0; have d_Vr := Vr.c1; have f1_Vr := Vr.frozen 1; have l_Vr := Vr.lt; have m_Vr := Nat.le_of_lt l_Vr; refine wpAnyH_ready (rs := [13]) (by kernel_rfl) (by simp) ?_
       refine AllReadyH.cons rfl (fun K hK => ?_) AllReadyH.nil; simp only [gA, gB, gC]; (go_simp); clear c_Vr f0_Vr d_Vr f1_Vr l_Vr m_Vr; refine st2 Vr (.bool sr) (.slice ar lr kr) (Q := fun W => K _ W) ?_; intro x9 V' oth far; replace Vq := oth _ _ _ (by first | omega | assumption | (simp; omega)) Vq; replace hq := hq.far Vr (noInt2 _ _ _ _) far.1; replace hr2 := hr2.far Vr (noInt2 _ _ _ _) far.1; replace BX := far.2 _ _ (by first | omega | (simp; omega)) BX; replace Vr := V'; clear oth far; refine hK.out _ _ (LS.out _ BX) (fun hHeld => ?_); clear hK K; refine wpAnyH_take (i := 14) (v := ?_) rfl (by kernel_rfl) (by kernel_rfl) (by kernel_rfl) (fun _ _ _ h => h) (Or.inl ⟨by rfl, ?_⟩) hHeld ?_; rotate_left
       · (intro W hSw; (try dsimp only at hSw); go_simp; all_goals (with_reducible rfl))
       simp only [gA, gB, gC, Act.put, gD, gE, gF]; refine wpAnyH_done (by kernel_rfl) ?_ _; refine NoPanic.normal ?_; clear hHeld; (go_wp2_with fail)
       go_meet
       exact ⟨_, _, sq, aq, lq, kq, zq, sr, ar, lr, kr, zr, rfl, rfl, Vq, Vr, hq, hr2, ev, BX, ⟨by omega, by omega, by omega⟩⟩
   ·
    simp only [gA, gB, gC]; (go_simp); have lt_Vq_Vr := Vr.lt; have sz_Vq := BX.size; refine ent1 _ _ _ (Q := fun V => K _ V) ?_; intro x4 hb hs_ Vq; replace Vr := Va.after hb Vr; replace BX := step BX hb; clear hb hs_; refine hK.out _ _ (LS.out _ BX) (fun hHeld => ?_); clear hK K; refine wpAnyH_ready (rs := [3]) (by kernel_rfl) (by simp) ?_; refine AllReadyH.cons rfl (fun K hK => ?_) AllReadyH.nil
    ·
     simp only [gA, gB, gC]; (go_simp); refine (rden_any s a l c b m d ds _ (Rt.after BX L_hr.out).2.1).mono ?_; rintro e x5 ⟨b3, m3, d3, y3, rfl, h3, e3, hb⟩; replace Vr := Va.after hb Vr; replace Vq := Va.after hb Vq; replace BX := step BX hb; clear hb; replace e3 := e3.trans L_hr.out.2.2.2.1; (try go_wp2_with fail); refine hK.out _ _ (LS.out _ BX) (fun hHeld => ?_); clear hK K; refine wpAnyH_ready (rs := [4]) (by kernel_rfl) (by simp) ?_; refine AllReadyH.cons rfl (fun K hK => ?_) AllReadyH.nil
     ·
      simp only [gA, gB, gC]; (go_simp); refine (qabove_any b3 m3 d3 y3 _ h3).mono ?_; rintro e x6 ⟨rfl, h4, hb⟩; replace Vr := Va.after hb Vr; replace Vq := Va.after hb Vq; replace h3 := Nt.after hb h3; replace BX := step BX hb; clear hb; (try go_wp2_with fail); refine hK.out _ _ (LS.out _ BX) (fun hHeld => ?_); clear hK K; refine wpAnyH_ready (rs := [5]) (by kernel_rfl) (by simp) ?_; refine AllReadyH.cons rfl (fun K hK => ?_) AllReadyH.nil
      ·
       simp only [gA, gB, gC]; (go_simp); refine (wdiv_ok s false a b3 l c m3 d3 zs y3 _ (Rt.after BX L_hr.out).1 h4 (by show num y3 ≠ 0; rw [e3]; have := v.den_pos; omega)).mono ?_; rintro e x7 ⟨sq, aq, lq, kq, zq, sr, ar, lr, kr, zr, rfl, hq, hr2, d1, d2, hb⟩; replace Vr := Va.after hb Vr; replace Vq := Va.after hb Vq; replace h3 := Nt.after hb h3; replace h4 := It.after hb h4; replace BX := step BX hb; clear hb
       have ev : iv sq zq = qfl v ∧ iv sr zr = v.num % (v.den : Int) := by
        rw [iv_f, e3] at d1 d2; have hd := v.den_pos; exact qfl_of (by rw [← L_hr.out.2.2.1]; exact d1) (by omega) (by omega)
       clear d1 d2 e3 h3 h4; (try go_wp2_with fail); refine hK.out _ _ (LS.out _ BX) (fun hHeld => ?_); clear hK K; refine wpAnyH_take (i := 6) (v := ?_) rfl (by kernel_rfl) (by kernel_rfl) (by kernel_rfl) (fun _ _ _ h => h) (Or.inl ⟨by rfl, ?_⟩) hHeld ?_; rotate_left
       · (intro W hSw; (try dsimp only at hSw); go_simp; all_goals (with_reducible rfl))
       simp only [gA, gB, gC, Act.put, gD, gE, gF]; refine wpAnyH_take (i := 7) (v := ?_) rfl (by kernel_rfl) (by kernel_rfl) (by kernel_rfl) (fun _ _ _ h => h) (Or.inl ⟨by rfl, ?_⟩) hHeld ?_; rotate_left
       · (intro W hSw; (try dsimp only at hSw); go_simp; all_goals (with_reducible rfl))
       simp only [gA, gB, gC, Act.put, gD, gE, gF]; refine wpAnyH_take (i := 8) (v := ?_) rfl (by kernel_rfl) (by kernel_rfl) (by kernel_rfl) (fun _ _ _ h => h) (Or.inl ⟨by rfl, ?_⟩) hHeld ?_; rotate_left
       · (intro W hSw; (try dsimp only at hSw); go_simp; all_goals (with_reducible rfl))
       simp only [gA, gB, gC, Act.put, gD, gE, gF]; refine wpAnyH_take (i := 9) (v := ?_) rfl (by kernel_rfl) (by kernel_rfl) (by kernel_rfl) (fun _ _ _ h => h) (Or.inl ⟨by rfl, ?_⟩) hHeld ?_; rotate_left
       · (intro W hSw; (try dsimp only at hSw); go_simp; all_goals (with_reducible rfl))
       simp only [gA, gB, gC, Act.put, gD, gE, gF]; have c_Vq := Vq.c0; have f0_Vq := Vq.frozen 0; have d_Vq := Vq.c1; have f1_Vq := Vq.frozen 1; have l_Vq := Vq.lt; have m_Vq := Nat.le_of_lt l_Vq; refine wpAnyH_ready (rs := [12]) (by kernel_rfl) (by simp) ?_; refine AllReadyH.cons rfl (fun K hK => ?_) AllReadyH.nil; simp only [gA, gB, gC]; (go_simp); clear c_Vq f0_Vq d_Vq f1_Vq l_Vq m_Vq; refine st2 Vq (.bool sq) (.slice aq lq kq) (Q := fun W => K _ W) ?_; intro x8 V' oth far; replace Vr := oth _ _ _ (by first | omega | assumption | (simp; omega)) Vr; replace hq := hq.far Vq (noInt2 _ _ _ _) far.1; replace hr2 := hr2.far Vq (noInt2 _ _ _ _) far.1; replace BX := far.2 _ _ (by first | omega | (simp; omega)) BX; replace Vq := V'; clear oth far; refine hK.out _ _ (LS.out _ BX) (fun hHeld => ?_); clear hK K; have c_Vr := Vr.c0; have f0_Vr := Vr.frozen 0; have d_Vr := Vr.c1; have f1_Vr := Vr.frozen 1; have l_Vr := Vr.lt; have m_Vr := Nat.le_of_lt l_Vr; refine wpAnyH_ready (rs := [13]) (by kernel_rfl) (by simp) ?_
       refine AllReadyH.cons rfl (fun K hK => ?_) AllReadyH.nil; simp only [gA, gB, gC]; (go_simp); clear c_Vr f0_Vr d_Vr f1_Vr l_Vr m_Vr; refine st2 Vr (.bool sr) (.slice ar lr kr) (Q := fun W => K _ W) ?_; intro x9 V' oth far; replace Vq := oth _ _ _ (by first | omega | assumption | (simp; omega)) Vq; replace hq := hq.far Vr (noInt2 _ _ _ _) far.1; replace hr2 := hr2.far Vr (noInt2 _ _ _ _) far.1; replace BX := far.2 _ _ (by first | omega | (simp; omega)) BX; replace Vr := V'; clear oth far; refine hK.out _ _ (LS.out _ BX) (fun hHeld => ?_); clear hK K; refine wpAnyH_take (i := 14) (v := ?_) rfl (by kernel_rfl) (by kernel_rfl) (by kernel_rfl) (fun _ _ _ h => h) (Or.inl ⟨by rfl, ?_⟩) hHeld ?_; rotate_left
       · (intro W hSw; (try dsimp only at hSw); go_simp; all_goals (with_reducible rfl))
       simp only [gA, gB, gC, Act.put, gD, gE, gF]; refine wpAnyH_done (by kernel_rfl) ?_ _; refine NoPanic.normal ?_; clear hHeld; (go_wp2_with fail)
       go_meet
       exact ⟨_, _, sq, aq, lq, kq, zq, sr, ar, lr, kr, zr, rfl, rfl, Vq, Vr, hq, hr2, ev, BX, ⟨by omega, by omega, by omega⟩⟩
 case rest =>
  clear BX; obtain ⟨b3, b4, sq, aq, lq, kq, zq, sr, ar, lr, kr, zr, rfl, rfl, Vq', Vr', hq', hr2', EV', BX', hineq'⟩ := hcut; have Vq := Vq'.out; have Vr := Vr'.out; have hq := hq'.out; have hr2 := hr2'.out; have EV := EV'.out; have BX := BX'.out; have hineq := hineq'.out; clear Vq' Vr' hq' hr2' EV' BX' hineq'; obtain ⟨iq0, iq1, iq2⟩ := hineq; have V0 := Va.after BX L_V0.out; have V1 := Va.after BX L_V1.out; have hr := Rt.after BX L_hr.out; have B0 := step L_B.out BX; have c_Vq := Vq.c0; have f0_Vq := Vq.frozen 0; have d_Vq := Vq.c1; have f1_Vq := Vq.frozen 1; have l_Vq := Vq.lt; have m_Vq := Nat.le_of_lt l_Vq; have c_V1 := V1.c0; have f0_V1 := V1.frozen 0; have d_V1 := V1.c1; have f1_V1 := V1.frozen 1; have l_V1 := V1.lt; have m_V1 := Nat.le_of_lt l_V1; (go_wp2_with fail); refine bodyPost_ret (results_w rfl rfl (V1.set2 _ _)) rfl ?_; exact ⟨sq, aq, lq, kq, zq, rfl, hq.far V1 (noInt2 _ _ _ _) (far2 _ _ _ _), EV.1, below_2 B0 (by omega) _ _⟩

set_option maxHeartbeats 4000000 in
theorem qceil_any (s : Bool) (a : Option Addr) (l c : Nat) (zs : List Int) (b : Option Addr) (m d : Nat) (ds : List Int) (v : Rat) (w : World) (hr : Rt w s a l c zs b m d ds v) :
  Calls Tryz.prog 35 #[.agg #[.bool s, .slice a l c, .slice b m d]] w fun e w' => FlP w (- qfl (-v)) e w' := by
 have B0 : Below w.heap.size w w := Below.refl _ _
 go_enter Tryz.func35, Tryz.ntmps35
 go_wp2_with fail
 refine ent2 w _ _ _ _ (Q := fun W => Calls Tryz.prog _ _ W _) ?_
 intro x1 hb hs_x1 V0 V1
 replace hr := Rt.after hb hr
 replace B0 := step B0 hb
 clear hb hs_x1
 refine (qneg_any s a l c zs b m d ds v x1 hr).mono ?_
 rintro e x2 ⟨s2, rfl, h2, hb⟩
 replace V0 := Va.after hb V0
 replace V1 := Va.after hb V1
 replace hr := Rt.after hb hr
 replace B0 := step B0 hb
 clear hb
 have c_V1 := V1.c0
 have f0_V1 := V1.frozen 0
 have d_V1 := V1.c1
 have f1_V1 := V1.frozen 1
 have l_V1 := V1.lt
 have m_V1 := Nat.le_of_lt l_V1
 go_wp2_with fail
 refine (qfloor_any s2 a l c zs b m d ds (-v) x2 h2).mono ?_
 rintro e x3 ⟨s3, a3, l3, c3, z3, rfl, h3, e3, hb⟩
 replace V0 := Va.after hb V0
 replace V1 := Va.after hb V1
 replace hr := Rt.after hb hr
 replace h2 := Rt.after hb h2
 replace B0 := step B0 hb
 clear hb
 clear c_V1 f0_V1 d_V1 f1_V1 l_V1 m_V1
 have c_V1 := V1.c0
 have f0_V1 := V1.frozen 0
 have d_V1 := V1.c1
 have f1_V1 := V1.frozen 1
 have l_V1 := V1.lt
 have m_V1 := Nat.le_of_lt l_V1
 go_wp2_with fail
 refine (wneg_any s3 a3 l3 c3 z3 x3 h3).mono ?_
 rintro e x4 ⟨s4, rfl, h4, e4, hb⟩
 replace V0 := Va.after hb V0
 replace V1 := Va.after hb V1
 replace hr := Rt.after hb hr
 replace h2 := Rt.after hb h2
 replace h3 := It.after hb h3
 replace B0 := step B0 hb
 clear hb
 clear c_V1 f0_V1 d_V1 f1_V1 l_V1 m_V1
 have c_V1 := V1.c0
 have f0_V1 := V1.frozen 0
 have d_V1 := V1.c1
 have f1_V1 := V1.frozen 1
 have l_V1 := V1.lt
 have m_V1 := Nat.le_of_lt l_V1
 go_wp2_with fail
 refine bodyPost_ret (results_w rfl rfl (V1.set2 _ _)) rfl ?_
 exact ⟨s4, a3, l3, c3, z3, rfl, h4.far V1 (noInt2 _ _ _ _) (far2 _ _ _ _), by rw [e4, e3], below_2 B0 (by omega) _ _⟩
end Go.Proofs.YtadfccbjadopgaaGreat
