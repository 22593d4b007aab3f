/-
 rat.Add, Sub.
-/
import Derived.Test.YtebbblhafjaaiaaGreatDoorRt5p
import Derived.Test.YtebbblhafjaaiaaGreatDoorAl
namespace Go.Proofs.YtebbblhafjaaiaaGreatDoor
open Go.RowKit Go.Shelf
set_option linter.unusedVariables false

set_option maxHeartbeats 16000000 in
set_option maxRecDepth 4000 in
theorem qadd_any (s1 : Bool) (a1 : Option Addr) (l1 c1 : Nat) (z1 : List Int) (b1 : Option Addr) (m1 d1 : Nat) (y1 : List Int) (v1 : Rat) (s2 : Bool) (a2 : Option Addr) (l2 c2 : Nat) (z2 : List Int) (b2 : Option Addr) (m2 d2 : Nat) (y2 : List Int) (v2 : Rat) (w : World) (h1 : Rt w s1 a1 l1 c1 z1 b1 m1 d1 y1 v1) (h2 : Rt w s2 a2 l2 c2 z2 b2 m2 d2 y2 v2) :
  Calls Tryz.prog 35 #[.agg #[.bool s1, .slice a1 l1 c1, .slice b1 m1 d1], .agg #[.bool s2, .slice a2 l2 c2, .slice b2 m2 d2]] w fun e w' => ∃ er s' a' l' c' zs' b' m' d' ds' v', e = .returned (.tuple #[.agg #[.bool s', .slice a' l' c', .slice b' m' d'], .int .i64 er]) ∧ Rt w' s' a' l' c' zs' b' m' d' ds' v' ∧ Hid (RA (v1 + v2) er v') ∧ Below w.heap.size w w' := by
 have B0 : Below w.heap.size w w := Below.refl _ _
 go_enter Tryz.func35, Tryz.ntmps35
 go_wp2_with fail
 refine ent3 w _ _ _ _ _ _ (Q := fun W => Code.wp Tryz.prog _ _ _ W) ?_
 intro x1 hb hs_x1 V0 V1 V2
 replace h1 := Rt.after hb h1
 replace h2 := Rt.after hb h2
 replace B0 := step B0 hb
 clear hb hs_x1
 have LS : Hid (∀ W, Below x1.heap.size x1 W → (fun W => W.cell? ⟨w.heap.size, 0, none⟩ = some (.bool s1) ∧ W.cell? ⟨w.heap.size, 1, none⟩ = some (.slice a1 l1 c1) ∧ W.cell? ⟨w.heap.size, 2, none⟩ = some (.slice b1 m1 d1) ∧ W.cell? ⟨w.heap.size + 1, 0, none⟩ = some (.bool s2) ∧ W.cell? ⟨w.heap.size + 1, 1, none⟩ = some (.slice a2 l2 c2) ∧ W.cell? ⟨w.heap.size + 1, 2, none⟩ = some (.slice b2 m2 d2)) W) := fun W hb => ⟨(Va.after hb V0).d0, (Va.after hb V0).d1, (Va.after hb V0).d2, (Va.after hb V1).d0, (Va.after hb V1).d1, (Va.after hb V1).d2⟩
 have lb_V0 := V0.lt
 have L_V0 : Hid (Va x1 (w.heap.size) 45 #[.bool s1, .slice a1 l1 c1, .slice b1 m1 d1]) := V0
 have lb_V1 := V1.lt
 have L_V1 : Hid (Va x1 (w.heap.size + 1) 45 #[.bool s2, .slice a2 l2 c2, .slice b2 m2 d2]) := V1
 have lb_V2 := V2.lt
 have L_V2 : Hid (Va x1 (w.heap.size + 1 + 1) 45 #[.bool false, .slice none 0 0, .slice none 0 0]) := V2
 have L_h1 : Hid (Rt x1 s1 a1 l1 c1 z1 b1 m1 d1 y1 v1) := h1
 have L_h2 : Hid (Rt x1 s2 a2 l2 c2 z2 b2 m2 d2 y2 v2) := h2
 have L_B : Hid (Below w.heap.size w x1) := B0
 clear V0 V1 V2 h1 h2 B0
 have BX := Below.refl x1.heap.size x1
 go_cut [6] (fun s6 wx => ∃ (b6 : Nat) (ag : Option Addr) (lg kg : Nat) (zg : List Int), s6 = .pointer (some ⟨b6, 0, none⟩) ∧ Hid (Va wx b6 41 #[.slice ag lg kg]) ∧ Hid (Nt wx ag lg kg zg) ∧ Hid (num zg = (Int.gcd (v1.den : Int) (v2.den : Int) : Nat)) ∧ Hid (Below x1.heap.size x1 wx) ∧ Hid (w.heap.size + 3 ≤ b6))
 case first =>
  refine wp_region_noPanic ?_
  replace BX := Below.drew BX
  refine wp_region_held_drew (S := (fun W => W.cell? ⟨w.heap.size, 0, none⟩ = some (.bool s1) ∧ W.cell? ⟨w.heap.size, 1, none⟩ = some (.slice a1 l1 c1) ∧ W.cell? ⟨w.heap.size, 2, none⟩ = some (.slice b1 m1 d1) ∧ W.cell? ⟨w.heap.size + 1, 0, none⟩ = some (.bool s2) ∧ W.cell? ⟨w.heap.size + 1, 1, none⟩ = some (.slice a2 l2 c2) ∧ W.cell? ⟨w.heap.size + 1, 2, none⟩ = some (.slice b2 m2 d2))) (by kernel_rfl) (LS.out _ BX) (fun hHeld => ?_)
  obtain ⟨x2, hxd⟩ : ∃ xd, xd = x1.drew := ⟨_, rfl⟩
  rw [← hxd] at BX hHeld ⊢
  clear hxd
  refine wpAnyH_take (i := 0) (v := ?_) rfl (by kernel_rfl) (by kernel_rfl) (by kernel_rfl) (fun _ _ _ h => h) (Or.inl ⟨by rfl, ?_⟩) hHeld ?_
  rotate_left
  · (intro W hSw; (try dsimp only at hSw); go_simp; all_goals (with_reducible rfl))
  simp only [gA, gB, Act.put, gD, gE, gF]
  refine wpAnyH_take (i := 2) (v := ?_) rfl (by kernel_rfl) (by kernel_rfl) (by kernel_rfl) (fun _ _ _ h => h) (Or.inl ⟨by rfl, ?_⟩) hHeld ?_
  rotate_left
  · (intro W hSw; (try dsimp only at hSw); go_simp; all_goals (with_reducible rfl))
  simp only [gA, gB, gC, Act.put, gD, gE, gF]
  refine wpAnyH_ready (rs := [1, 5]) (by kernel_rfl) (by simp) ?_
  refine AllReadyH.cons rfl (fun K hK => ?_) (AllReadyH.cons rfl (fun K hK => ?_) AllReadyH.nil)
  ·
   simp only [gA, gB, gC]
   go_simp
   refine (rden_any s1 a1 l1 c1 b1 m1 d1 y1 _ (Rt.after BX L_h1.out).2.1).mono ?_
   rintro e x3 ⟨b3, m3, d3, y3, rfl, h3, e3, hb⟩
   replace BX := step BX hb
   clear hb
   replace e3 := e3.trans L_h1.out.2.2.2.1
   try go_wp2_with fail
   refine hK.out _ _ (LS.out _ BX) (fun hHeld => ?_)
   clear hK K
   refine wpAnyH_ready (rs := [3, 5]) (by kernel_rfl) (by simp) ?_
   refine AllReadyH.cons rfl (fun K hK => ?_) (AllReadyH.cons rfl (fun K hK => ?_) AllReadyH.nil)
   ·
    simp only [gA, gB, gC]
    go_simp
    refine (rden_any s2 a2 l2 c2 b2 m2 d2 y2 _ (Rt.after BX L_h2.out).2.1).mono ?_
    rintro e x4 ⟨b4, m4, d4, y4, rfl, h4, e4, hb⟩
    replace h3 := Nt.after hb h3
    replace BX := step BX hb
    clear hb
    replace e4 := e4.trans L_h2.out.2.2.2.1
    try go_wp2_with fail
    refine hK.out _ _ (LS.out _ BX) (fun hHeld => ?_)
    clear hK K
    refine wpAnyH_ready (rs := [4, 5]) (by kernel_rfl) (by simp) ?_
    refine AllReadyH.cons rfl (fun K hK => ?_) (AllReadyH.cons rfl (fun K hK => ?_) AllReadyH.nil)
    ·
     simp only [gA, gB, gC]
     go_simp
     refine (ngcd_any b3 b4 m3 d3 m4 d4 y3 y4 _ h3 h4).mono ?_
     rintro e x5 ⟨ag, lg, kg, zg, rfl, hg, eg, hb⟩
     replace h3 := Nt.after hb h3
     replace h4 := Nt.after hb h4
     replace BX := step BX hb
     clear hb
     try go_wp2_with fail
     refine hK.out _ _ (LS.out _ BX) (fun hHeld => ?_)
     clear hK K
     refine wpAnyH_ready (rs := [5]) (by kernel_rfl) (by simp) ?_
     refine AllReadyH.cons rfl (fun K hK => ?_) AllReadyH.nil
     ·
      simp only [gA, gB, gC]
      go_simp
      have sz_Vg := BX.size
      refine ent1 _ _ _ (Q := fun V => K _ V) ?_
      intro x6 hb hs_ Vg
      replace h3 := Nt.after hb h3
      replace h4 := Nt.after hb h4
      replace hg := Nt.after hb hg
      replace BX := step BX hb
      clear hb hs_
      refine hK.out _ _ (LS.out _ BX) (fun hHeld => ?_)
      clear hK K
      have c_Vg := Vg.cell
      have f0_Vg := Vg.frozen 0
      have l_Vg := Vg.lt
      have m_Vg := Nat.le_of_lt l_Vg
      refine wpAnyH_ready (rs := [6]) (by kernel_rfl) (by simp) ?_
      refine AllReadyH.cons rfl (fun K hK => ?_) AllReadyH.nil
      simp only [gA, gB, gC]
      go_simp
      clear c_Vg f0_Vg l_Vg m_Vg
      refine sto1 Vg (.slice ag lg kg) (Q := fun W => K _ W) ?_
      intro x7 V' oth far
      replace h3 := h3.far Vg (noInt1 _ _ _) far.1
      replace h4 := h4.far Vg (noInt1 _ _ _) far.1
      replace hg := hg.far Vg (noInt1 _ _ _) far.1
      replace BX := far.2 _ _ (by first | omega | (simp; omega)) BX
      replace Vg := V'
      clear oth far
      refine hK.out _ _ (LS.out _ BX) (fun hHeld => ?_)
      clear hK K
      refine wpAnyH_done (by kernel_rfl) ?_ _
      refine NoPanic.normal ?_
      clear hHeld
      go_wp2_with fail
      go_meet
      exact ⟨_, ag, lg, kg, zg, rfl, Vg, hg, (by show _ = _; rw [eg, e3, e4]), BX, by show _ ≤ _; omega⟩
    ·
     simp only [gA, gB, gC]
     go_simp
     have sz_Vg := BX.size
     refine ent1 _ _ _ (Q := fun V => K _ V) ?_
     intro x5 hb hs_ Vg
     replace h3 := Nt.after hb h3
     replace h4 := Nt.after hb h4
     replace BX := step BX hb
     clear hb hs_
     refine hK.out _ _ (LS.out _ BX) (fun hHeld => ?_)
     clear hK K
     refine wpAnyH_ready (rs := [4]) (by kernel_rfl) (by simp) ?_
     refine AllReadyH.cons rfl (fun K hK => ?_) AllReadyH.nil
     ·
      simp only [gA, gB, gC]
      go_simp
      refine (ngcd_any b3 b4 m3 d3 m4 d4 y3 y4 _ h3 h4).mono ?_
      rintro e x6 ⟨ag, lg, kg, zg, rfl, hg, eg, hb⟩
      replace Vg := Va.after hb Vg
      replace h3 := Nt.after hb h3
      replace h4 := Nt.after hb h4
      replace BX := step BX hb
      clear hb
      try go_wp2_with fail
      refine hK.out _ _ (LS.out _ BX) (fun hHeld => ?_)
      clear hK K
      have c_Vg := Vg.cell
      have f0_Vg := Vg.frozen 0
      have l_Vg := Vg.lt
      have m_Vg := Nat.le_of_lt l_Vg
      refine wpAnyH_ready (rs := [6]) (by kernel_rfl) (by simp) ?_
      refine AllReadyH.cons rfl (fun K hK => ?_) AllReadyH.nil
      simp only [gA, gB, gC]
      go_simp
      clear c_Vg f0_Vg l_Vg m_Vg
      refine sto1 Vg (.slice ag lg kg) (Q := fun W => K _ W) ?_
      intro x7 V' oth far
      replace h3 := h3.far Vg (noInt1 _ _ _) far.1
      replace h4 := h4.far Vg (noInt1 _ _ _) far.1
      replace hg := hg.far Vg (noInt1 _ _ _) far.1
      replace BX := far.2 _ _ (by first | omega | (simp; omega)) BX
      replace Vg := V'
      clear oth far
      refine hK.out _ _ (LS.out _ BX) (fun hHeld => ?_)
      clear hK K
      refine wpAnyH_done (by kernel_rfl) ?_ _
      refine NoPanic.normal ?_
      clear hHeld
      go_wp2_with fail
      go_meet
      exact ⟨_, ag, lg, kg, zg, rfl, Vg, hg, (by show _ = _; rw [eg, e3, e4]), BX, by show _ ≤ _; omega⟩
   ·
    simp only [gA, gB, gC]
    go_simp
    have sz_Vg := BX.size
    refine ent1 _ _ _ (Q := fun V => K _ V) ?_
    intro x4 hb hs_ Vg
    replace h3 := Nt.after hb h3
    replace BX := step BX hb
    clear hb hs_
    refine hK.out _ _ (LS.out _ BX) (fun hHeld => ?_)
    clear hK K
    refine wpAnyH_ready (rs := [3]) (by kernel_rfl) (by simp) ?_
    refine AllReadyH.cons rfl (fun K hK => ?_) AllReadyH.nil
    ·
     simp only [gA, gB, gC]
     go_simp
     refine (rden_any s2 a2 l2 c2 b2 m2 d2 y2 _ (Rt.after BX L_h2.out).2.1).mono ?_
     rintro e x5 ⟨b4, m4, d4, y4, rfl, h4, e4, hb⟩
     replace Vg := Va.after hb Vg
     replace h3 := Nt.after hb h3
     replace BX := step BX hb
     clear hb
     replace e4 := e4.trans L_h2.out.2.2.2.1
     try go_wp2_with fail
     refine hK.out _ _ (LS.out _ BX) (fun hHeld => ?_)
     clear hK K
     refine wpAnyH_ready (rs := [4]) (by kernel_rfl) (by simp) ?_
     refine AllReadyH.cons rfl (fun K hK => ?_) AllReadyH.nil
     ·
      simp only [gA, gB, gC]
      go_simp
      refine (ngcd_any b3 b4 m3 d3 m4 d4 y3 y4 _ h3 h4).mono ?_
      rintro e x6 ⟨ag, lg, kg, zg, rfl, hg, eg, hb⟩
      replace Vg := Va.after hb Vg
      replace h3 := Nt.after hb h3
      replace h4 := Nt.after hb h4
      replace BX := step BX hb
      clear hb
      try go_wp2_with fail
      refine hK.out _ _ (LS.out _ BX) (fun hHeld => ?_)
      clear hK K
      have c_Vg := Vg.cell
      have f0_Vg := Vg.frozen 0
      have l_Vg := Vg.lt
      have m_Vg := Nat.le_of_lt l_Vg
      refine wpAnyH_ready (rs := [6]) (by kernel_rfl) (by simp) ?_
      refine AllReadyH.cons rfl (fun K hK => ?_) AllReadyH.nil
      simp only [gA, gB, gC]
      go_simp
      clear c_Vg f0_Vg l_Vg m_Vg
      refine sto1 Vg (.slice ag lg kg) (Q := fun W => K _ W) ?_
      intro x7 V' oth far
      replace h3 := h3.far Vg (noInt1 _ _ _) far.1
      replace h4 := h4.far Vg (noInt1 _ _ _) far.1
      replace hg := hg.far Vg (noInt1 _ _ _) far.1
      replace BX := far.2 _ _ (by first | omega | (simp; omega)) BX
      replace Vg := V'
      clear oth far
      refine hK.out _ _ (LS.out _ BX) (fun hHeld => ?_)
      clear hK K
      refine wpAnyH_done (by kernel_rfl) ?_ _
      refine NoPanic.normal ?_
      clear hHeld
      go_wp2_with fail
      go_meet
      exact ⟨_, ag, lg, kg, zg, rfl, Vg, hg, (by show _ = _; rw [eg, e3, e4]), BX, by show _ ≤ _; omega⟩
  ·
   simp only [gA, gB, gC]
   go_simp
   have sz_Vg := BX.size
   refine ent1 _ _ _ (Q := fun V => K _ V) ?_
   intro x3 hb hs_ Vg
   replace BX := step BX hb
   clear hb hs_
   refine hK.out _ _ (LS.out _ BX) (fun hHeld => ?_)
   clear hK K
   refine wpAnyH_ready (rs := [1]) (by kernel_rfl) (by simp) ?_
   refine AllReadyH.cons rfl (fun K hK => ?_) AllReadyH.nil
   ·
    simp only [gA, gB, gC]
    go_simp
    refine (rden_any s1 a1 l1 c1 b1 m1 d1 y1 _ (Rt.after BX L_h1.out).2.1).mono ?_
    rintro e x4 ⟨b3, m3, d3, y3, rfl, h3, e3, hb⟩
    replace Vg := Va.after hb Vg
    replace BX := step BX hb
    clear hb
    replace e3 := e3.trans L_h1.out.2.2.2.1
    try go_wp2_with fail
    refine hK.out _ _ (LS.out _ BX) (fun hHeld => ?_)
    clear hK K
    refine wpAnyH_ready (rs := [3]) (by kernel_rfl) (by simp) ?_
    refine AllReadyH.cons rfl (fun K hK => ?_) AllReadyH.nil
    ·
     simp only [gA, gB, gC]
     go_simp
     refine (rden_any s2 a2 l2 c2 b2 m2 d2 y2 _ (Rt.after BX L_h2.out).2.1).mono ?_
     rintro e x5 ⟨b4, m4, d4, y4, rfl, h4, e4, hb⟩
     replace Vg := Va.after hb Vg
     replace h3 := Nt.after hb h3
     replace BX := step BX hb
     clear hb
     replace e4 := e4.trans L_h2.out.2.2.2.1
     try go_wp2_with fail
     refine hK.out _ _ (LS.out _ BX) (fun hHeld => ?_)
     clear hK K
     refine wpAnyH_ready (rs := [4]) (by kernel_rfl) (by simp) ?_
     refine AllReadyH.cons rfl (fun K hK => ?_) AllReadyH.nil
     ·
      simp only [gA, gB, gC]
      go_simp
      refine (ngcd_any b3 b4 m3 d3 m4 d4 y3 y4 _ h3 h4).mono ?_
      rintro e x6 ⟨ag, lg, kg, zg, rfl, hg, eg, hb⟩
      replace Vg := Va.after hb Vg
      replace h3 := Nt.after hb h3
      replace h4 := Nt.after hb h4
      replace BX := step BX hb
      clear hb
      try go_wp2_with fail
      refine hK.out _ _ (LS.out _ BX) (fun hHeld => ?_)
      clear hK K
      have c_Vg := Vg.cell
      have f0_Vg := Vg.frozen 0
      have l_Vg := Vg.lt
      have m_Vg := Nat.le_of_lt l_Vg
      refine wpAnyH_ready (rs := [6]) (by kernel_rfl) (by simp) ?_
      refine AllReadyH.cons rfl (fun K hK => ?_) AllReadyH.nil
      simp only [gA, gB, gC]
      go_simp
      clear c_Vg f0_Vg l_Vg m_Vg
      refine sto1 Vg (.slice ag lg kg) (Q := fun W => K _ W) ?_
      intro x7 V' oth far
      replace h3 := h3.far Vg (noInt1 _ _ _) far.1
      replace h4 := h4.far Vg (noInt1 _ _ _) far.1
      replace hg := hg.far Vg (noInt1 _ _ _) far.1
      replace BX := far.2 _ _ (by first | omega | (simp; omega)) BX
      replace Vg := V'
      clear oth far
      refine hK.out _ _ (LS.out _ BX) (fun hHeld => ?_)
      clear hK K
      refine wpAnyH_done (by kernel_rfl) ?_ _
      refine NoPanic.normal ?_
      clear hHeld
      go_wp2_with fail
      go_meet
      exact ⟨_, ag, lg, kg, zg, rfl, Vg, hg, (by show _ = _; rw [eg, e3, e4]), BX, by show _ ≤ _; omega⟩
 case rest =>
  clear BX
  obtain ⟨b6, ag, lg, kg, zg, rfl, Vg', hg', EG', BX', hineq'⟩ := hcut
  have Vg := Vg'.out
  have hg := hg'.out
  have EG := EG'.out
  have BX := BX'.out
  have hineq := hineq'.out
  clear Vg' hg' EG' BX' hineq'
  have iq0 := hineq
  clear hineq
  go_wp2_with fail
  have V0 := Va.after BX L_V0.out
  have V1 := Va.after BX L_V1.out
  have V2 := Va.after BX L_V2.out
  have h1 := Rt.after BX L_h1.out
  have h2 := Rt.after BX L_h2.out
  have B0 := step L_B.out BX
  have HE : Hid (num zg = (Int.gcd (v1.den : Int) (v2.den : Int) : Nat)) := EG
  have HG : Hid (num zg ≠ 0 ∧ num zg ∣ (v1.den : Int) ∧ num zg ∣ (v2.den : Int)) := by
   refine ⟨?_, ?_, ?_⟩
   · rw [EG]; exact gcd_ne (by have := v2.den_pos; omega)
   · rw [EG]; exact Int.gcd_dvd_left ..
   · rw [EG]; exact Int.gcd_dvd_right ..
  clear EG
  have LS : Hid (∀ W, Below wc.heap.size wc W → (fun W => W.cell? ⟨w.heap.size, 0, none⟩ = some (.bool s1) ∧ W.cell? ⟨w.heap.size, 1, none⟩ = some (.slice a1 l1 c1) ∧ W.cell? ⟨w.heap.size, 2, none⟩ = some (.slice b1 m1 d1) ∧ W.cell? ⟨w.heap.size + 1, 0, none⟩ = some (.bool s2) ∧ W.cell? ⟨w.heap.size + 1, 1, none⟩ = some (.slice a2 l2 c2) ∧ W.cell? ⟨w.heap.size + 1, 2, none⟩ = some (.slice b2 m2 d2) ∧ W.cell? ⟨b6, 0, none⟩ = some (.slice ag lg kg)) W) := fun W hb => ⟨(Va.after hb V0).d0, (Va.after hb V0).d1, (Va.after hb V0).d2, (Va.after hb V1).d0, (Va.after hb V1).d1, (Va.after hb V1).d2, (Va.after hb Vg).cell⟩
  have lb_V0 := V0.lt
  have L_V0 : Hid (Va wc (w.heap.size) 45 #[.bool s1, .slice a1 l1 c1, .slice b1 m1 d1]) := V0
  have lb_V1 := V1.lt
  have L_V1 : Hid (Va wc (w.heap.size + 1) 45 #[.bool s2, .slice a2 l2 c2, .slice b2 m2 d2]) := V1
  have lb_V2 := V2.lt
  have L_V2 : Hid (Va wc (w.heap.size + 1 + 1) 45 #[.bool false, .slice none 0 0, .slice none 0 0]) := V2
  have lb_Vg := Vg.lt
  have L_Vg : Hid (Va wc (b6) 41 #[.slice ag lg kg]) := Vg
  have L_h1 : Hid (Rt wc s1 a1 l1 c1 z1 b1 m1 d1 y1 v1) := h1
  have L_h2 : Hid (Rt wc s2 a2 l2 c2 z2 b2 m2 d2 y2 v2) := h2
  have L_hg : Hid (Nt wc ag lg kg zg) := hg
  have L_B : Hid (Below w.heap.size w wc) := B0
  clear V0 V1 V2 Vg h1 h2 hg B0
  have BX := Below.refl wc.heap.size wc
  go_cut [7, 8] (fun s7 s8 wx => ∃ (b7 : Nat) (b8 : Nat) (aA : Option Addr) (lA kA : Nat) (zA : List Int) (aB : Option Addr) (lB kB : Nat) (zB : List Int), s7 = .pointer (some ⟨b7, 0, none⟩) ∧ s8 = .pointer (some ⟨b8, 0, none⟩) ∧ Hid (Va wx b7 41 #[.slice aA lA kA]) ∧ Hid (Va wx b8 41 #[.slice aB lB kB]) ∧ Hid (Nt wx aA lA kA zA) ∧ Hid (Nt wx aB lB kB zB) ∧ Hid (num zA * num zg = v1.den) ∧ Hid (num zB * num zg = v2.den) ∧ Hid (Below wc.heap.size wc wx) ∧ Hid (w.heap.size + 3 ≤ b7 ∧ w.heap.size + 3 ≤ b8 ∧ b7 ≠ b8))
  case first =>
   refine wp_region_noPanic ?_
   replace BX := Below.drew BX
   refine wp_region_held_drew (S := (fun W => W.cell? ⟨w.heap.size, 0, none⟩ = some (.bool s1) ∧ W.cell? ⟨w.heap.size, 1, none⟩ = some (.slice a1 l1 c1) ∧ W.cell? ⟨w.heap.size, 2, none⟩ = some (.slice b1 m1 d1) ∧ W.cell? ⟨w.heap.size + 1, 0, none⟩ = some (.bool s2) ∧ W.cell? ⟨w.heap.size + 1, 1, none⟩ = some (.slice a2 l2 c2) ∧ W.cell? ⟨w.heap.size + 1, 2, none⟩ = some (.slice b2 m2 d2) ∧ W.cell? ⟨b6, 0, none⟩ = some (.slice ag lg kg))) (by kernel_rfl) (LS.out _ BX) (fun hHeld => ?_)
   obtain ⟨x2, hxd⟩ : ∃ xd, xd = wc.drew := ⟨_, rfl⟩
   rw [← hxd] at BX hHeld ⊢
   clear hxd
   refine wpAnyH_take (i := 0) (v := ?_) rfl (by kernel_rfl) (by kernel_rfl) (by kernel_rfl) (fun _ _ _ h => h) (Or.inl ⟨by rfl, ?_⟩) hHeld ?_
   rotate_left
   · (intro W hSw; (try dsimp only at hSw); go_simp; all_goals (with_reducible rfl))
   simp only [gA, gB, Act.put, gD, gE, gF]
   refine wpAnyH_take (i := 2) (v := ?_) rfl (by kernel_rfl) (by kernel_rfl) (by kernel_rfl) (fun _ _ _ h => h) (Or.inl ⟨by rfl, ?_⟩) hHeld ?_
   rotate_left
   · (intro W hSw; (try dsimp only at hSw); go_simp; all_goals (with_reducible rfl))
   simp only [gA, gB, gC, Act.put, gD, gE, gF]
   refine wpAnyH_take (i := 4) (v := ?_) rfl (by kernel_rfl) (by kernel_rfl) (by kernel_rfl) (fun _ _ _ h => h) (Or.inl ⟨by rfl, ?_⟩) hHeld ?_
   rotate_left
   · (intro W hSw; (try dsimp only at hSw); go_simp; all_goals (with_reducible rfl))
   simp only [gA, gB, gC, Act.put, gD, gE, gF]
   refine wpAnyH_take (i := 6) (v := ?_) rfl (by kernel_rfl) (by kernel_rfl) (by kernel_rfl) (fun _ _ _ h => h) (Or.inl ⟨by rfl, ?_⟩) hHeld ?_
   rotate_left
   · (intro W hSw; (try dsimp only at hSw); go_simp; all_goals (with_reducible rfl))
   simp only [gA, gB, gC, Act.put, gD, gE, gF]
   refine wpAnyH_ready (rs := [1, 8, 9]) (by kernel_rfl) (by simp) ?_
   refine AllReadyH.cons rfl (fun K hK => ?_) (AllReadyH.cons rfl (fun K hK => ?_) (AllReadyH.cons rfl (fun K hK => ?_) AllReadyH.nil))
   ·
    simp only [gA, gB, gC]
    go_simp
    refine (rden_any s1 a1 l1 c1 b1 m1 d1 y1 _ (Rt.after BX L_h1.out).2.1).mono ?_
    rintro e x3 ⟨b3, m3, d3, y3, rfl, h3, e3, hb⟩
    replace BX := step BX hb
    clear hb
    replace e3 := e3.trans L_h1.out.2.2.2.1
    try go_wp2_with fail
    refine hK.out _ _ (LS.out _ BX) (fun hHeld => ?_)
    clear hK K
    refine wpAnyH_ready (rs := [3, 8, 9]) (by kernel_rfl) (by simp) ?_
    refine AllReadyH.cons rfl (fun K hK => ?_) (AllReadyH.cons rfl (fun K hK => ?_) (AllReadyH.cons rfl (fun K hK => ?_) AllReadyH.nil))
    ·
     simp only [gA, gB, gC]
     go_simp
     refine (rover_ok b3 ag m3 d3 lg kg y3 zg _ h3 (Nt.after BX L_hg.out) HG.out.1 (by rw [e3]; exact HG.out.2.1)).mono ?_
     rintro e x4 ⟨aA, lA, kA, zA, rfl, hA, eA, hb⟩
     replace h3 := Nt.after hb h3
     replace BX := step BX hb
     clear hb
     rw [e3] at eA
     clear h3 e3
     try go_wp2_with fail
     refine hK.out _ _ (LS.out _ BX) (fun hHeld => ?_)
     clear hK K
     refine wpAnyH_ready (rs := [5, 8, 9]) (by kernel_rfl) (by simp) ?_
     refine AllReadyH.cons rfl (fun K hK => ?_) (AllReadyH.cons rfl (fun K hK => ?_) (AllReadyH.cons rfl (fun K hK => ?_) AllReadyH.nil))
     ·
      simp only [gA, gB, gC]
      go_simp
      refine (rden_any s2 a2 l2 c2 b2 m2 d2 y2 _ (Rt.after BX L_h2.out).2.1).mono ?_
      rintro e x5 ⟨b4, m4, d4, y4, rfl, h4, e4, hb⟩
      replace hA := Nt.after hb hA
      replace BX := step BX hb
      clear hb
      replace e4 := e4.trans L_h2.out.2.2.2.1
      try go_wp2_with fail
      refine hK.out _ _ (LS.out _ BX) (fun hHeld => ?_)
      clear hK K
      refine wpAnyH_ready (rs := [7, 8, 9]) (by kernel_rfl) (by simp) ?_
      refine AllReadyH.cons rfl (fun K hK => ?_) (AllReadyH.cons rfl (fun K hK => ?_) (AllReadyH.cons rfl (fun K hK => ?_) AllReadyH.nil))
      ·
       simp only [gA, gB, gC]
       go_simp
       refine (rover_ok b4 ag m4 d4 lg kg y4 zg _ h4 (Nt.after BX L_hg.out) HG.out.1 (by rw [e4]; exact HG.out.2.2)).mono ?_
       rintro e x6 ⟨aB, lB, kB, zB, rfl, hB, eB, hb⟩
       replace hA := Nt.after hb hA
       replace h4 := Nt.after hb h4
       replace BX := step BX hb
       clear hb
       rw [e4] at eB
       clear h4 e4
       try go_wp2_with fail
       refine hK.out _ _ (LS.out _ BX) (fun hHeld => ?_)
       clear hK K
       refine wpAnyH_ready (rs := [8, 9]) (by kernel_rfl) (by simp) ?_
       refine AllReadyH.cons rfl (fun K hK => ?_) (AllReadyH.cons rfl (fun K hK => ?_) AllReadyH.nil)
       ·
        simp only [gA, gB, gC]
        go_simp
        have sz_VA := BX.size
        refine ent1 _ _ _ (Q := fun V => K _ V) ?_
        intro x7 hb hs_ VA
        replace hA := Nt.after hb hA
        replace hB := Nt.after hb hB
        replace BX := step BX hb
        clear hb hs_
        refine hK.out _ _ (LS.out _ BX) (fun hHeld => ?_)
        clear hK K
        refine wpAnyH_ready (rs := [9]) (by kernel_rfl) (by simp) ?_
        refine AllReadyH.cons rfl (fun K hK => ?_) AllReadyH.nil
        ·
         simp only [gA, gB, gC]
         go_simp
         have lt_VB_VA := VA.lt
         have sz_VB := BX.size
         refine ent1 _ _ _ (Q := fun V => K _ V) ?_
         intro x8 hb hs_ VB
         replace VA := Va.after hb VA
         replace hA := Nt.after hb hA
         replace hB := Nt.after hb hB
         replace BX := step BX hb
         clear hb hs_
         refine hK.out _ _ (LS.out _ BX) (fun hHeld => ?_)
         clear hK K
         have c_VA := VA.cell
         have f0_VA := VA.frozen 0
         have l_VA := VA.lt
         have m_VA := Nat.le_of_lt l_VA
         refine wpAnyH_ready (rs := [10]) (by kernel_rfl) (by simp) ?_
         refine AllReadyH.cons rfl (fun K hK => ?_) AllReadyH.nil
         simp only [gA, gB, gC]
         go_simp
         clear c_VA f0_VA l_VA m_VA
         refine sto1 VA (.slice aA lA kA) (Q := fun W => K _ W) ?_
         intro x9 V' oth far
         replace VB := oth _ _ _ (by first | omega | assumption | (simp; omega)) VB
         replace hA := hA.far VA (noInt1 _ _ _) far.1
         replace hB := hB.far VA (noInt1 _ _ _) far.1
         replace BX := far.2 _ _ (by first | omega | (simp; omega)) BX
         replace VA := V'
         clear oth far
         refine hK.out _ _ (LS.out _ BX) (fun hHeld => ?_)
         clear hK K
         have c_VB := VB.cell
         have f0_VB := VB.frozen 0
         have l_VB := VB.lt
         have m_VB := Nat.le_of_lt l_VB
         refine wpAnyH_ready (rs := [11]) (by kernel_rfl) (by simp) ?_
         refine AllReadyH.cons rfl (fun K hK => ?_) AllReadyH.nil
         simp only [gA, gB, gC]
         go_simp
         clear c_VB f0_VB l_VB m_VB
         refine sto1 VB (.slice aB lB kB) (Q := fun W => K _ W) ?_
         intro x10 V' oth far
         replace VA := oth _ _ _ (by first | omega | assumption | (simp; omega)) VA
         replace hA := hA.far VB (noInt1 _ _ _) far.1
         replace hB := hB.far VB (noInt1 _ _ _) far.1
         replace BX := far.2 _ _ (by first | omega | (simp; omega)) BX
         replace VB := V'
         clear oth far
         refine hK.out _ _ (LS.out _ BX) (fun hHeld => ?_)
         clear hK K
         refine wpAnyH_done (by kernel_rfl) ?_ _
         refine NoPanic.normal ?_
         clear hHeld
         go_wp2_with fail
         go_meet
         exact ⟨_, _, aA, lA, kA, zA, aB, lB, kB, zB, rfl, rfl, VA, VB, hA, hB, eA, eB, BX, ⟨by omega, by omega, by omega⟩⟩
       ·
        simp only [gA, gB, gC]
        go_simp
        have sz_VB := BX.size
        refine ent1 _ _ _ (Q := fun V => K _ V) ?_
        intro x7 hb hs_ VB
        replace hA := Nt.after hb hA
        replace hB := Nt.after hb hB
        replace BX := step BX hb
        clear hb hs_
        refine hK.out _ _ (LS.out _ BX) (fun hHeld => ?_)
        clear hK K
        refine wpAnyH_ready (rs := [8]) (by kernel_rfl) (by simp) ?_
        refine AllReadyH.cons rfl (fun K hK => ?_) AllReadyH.nil
        ·
         simp only [gA, gB, gC]
         go_simp
         have lt_VA_VB := VB.lt
         have sz_VA := BX.size
         refine ent1 _ _ _ (Q := fun V => K _ V) ?_
         intro x8 hb hs_ VA
         replace VB := Va.after hb VB
         replace hA := Nt.after hb hA
         replace hB := Nt.after hb hB
         replace BX := step BX hb
         clear hb hs_
         refine hK.out _ _ (LS.out _ BX) (fun hHeld => ?_)
         clear hK K
         have c_VA := VA.cell
         have f0_VA := VA.frozen 0
         have l_VA := VA.lt
         have m_VA := Nat.le_of_lt l_VA
         refine wpAnyH_ready (rs := [10]) (by kernel_rfl) (by simp) ?_
         refine AllReadyH.cons rfl (fun K hK => ?_) AllReadyH.nil
         simp only [gA, gB, gC]
         go_simp
         clear c_VA f0_VA l_VA m_VA
         refine sto1 VA (.slice aA lA kA) (Q := fun W => K _ W) ?_
         intro x9 V' oth far
         replace VB := oth _ _ _ (by first | omega | assumption | (simp; omega)) VB
         replace hA := hA.far VA (noInt1 _ _ _) far.1
         replace hB := hB.far VA (noInt1 _ _ _) far.1
         replace BX := far.2 _ _ (by first | omega | (simp; omega)) BX
         replace VA := V'
         clear oth far
         refine hK.out _ _ (LS.out _ BX) (fun hHeld => ?_)
         clear hK K
         have c_VB := VB.cell
         have f0_VB := VB.frozen 0
         have l_VB := VB.lt
         have m_VB := Nat.le_of_lt l_VB
         refine wpAnyH_ready (rs := [11]) (by kernel_rfl) (by simp) ?_
         refine AllReadyH.cons rfl (fun K hK => ?_) AllReadyH.nil
         simp only [gA, gB, gC]
         go_simp
         clear c_VB f0_VB l_VB m_VB
         refine sto1 VB (.slice aB lB kB) (Q := fun W => K _ W) ?_
         intro x10 V' oth far
         replace VA := oth _ _ _ (by first | omega | assumption | (simp; omega)) VA
         replace hA := hA.far VB (noInt1 _ _ _) far.1
         replace hB := hB.far VB (noInt1 _ _ _) far.1
         replace BX := far.2 _ _ (by first | omega | (simp; omega)) BX
         replace VB := V'
         clear oth far
         refine hK.out _ _ (LS.out _ BX) (fun hHeld => ?_)
         clear hK K
         refine wpAnyH_done (by kernel_rfl) ?_ _
         refine NoPanic.normal ?_
         clear hHeld
         go_wp2_with fail
         go_meet
         exact ⟨_, _, aA, lA, kA, zA, aB, lB, kB, zB, rfl, rfl, VA, VB, hA, hB, eA, eB, BX, ⟨by omega, by omega, by omega⟩⟩
      ·
       simp only [gA, gB, gC]
       go_simp
       have sz_VA := BX.size
       refine ent1 _ _ _ (Q := fun V => K _ V) ?_
       intro x6 hb hs_ VA
       replace hA := Nt.after hb hA
       replace h4 := Nt.after hb h4
       replace BX := step BX hb
       clear hb hs_
       refine hK.out _ _ (LS.out _ BX) (fun hHeld => ?_)
       clear hK K
       refine wpAnyH_ready (rs := [7, 9]) (by kernel_rfl) (by simp) ?_
       refine AllReadyH.cons rfl (fun K hK => ?_) (AllReadyH.cons rfl (fun K hK => ?_) AllReadyH.nil)
       ·
        simp only [gA, gB, gC]
        go_simp
        refine (rover_ok b4 ag m4 d4 lg kg y4 zg _ h4 (Nt.after BX L_hg.out) HG.out.1 (by rw [e4]; exact HG.out.2.2)).mono ?_
        rintro e x7 ⟨aB, lB, kB, zB, rfl, hB, eB, hb⟩
        replace VA := Va.after hb VA
        replace hA := Nt.after hb hA
        replace h4 := Nt.after hb h4
        replace BX := step BX hb
        clear hb
        rw [e4] at eB
        clear h4 e4
        try go_wp2_with fail
        refine hK.out _ _ (LS.out _ BX) (fun hHeld => ?_)
        clear hK K
        refine wpAnyH_ready (rs := [9]) (by kernel_rfl) (by simp) ?_
        refine AllReadyH.cons rfl (fun K hK => ?_) AllReadyH.nil
        ·
         simp only [gA, gB, gC]
         go_simp
         have lt_VB_VA := VA.lt
         have sz_VB := BX.size
         refine ent1 _ _ _ (Q := fun V => K _ V) ?_
         intro x8 hb hs_ VB
         replace VA := Va.after hb VA
         replace hA := Nt.after hb hA
         replace hB := Nt.after hb hB
         replace BX := step BX hb
         clear hb hs_
         refine hK.out _ _ (LS.out _ BX) (fun hHeld => ?_)
         clear hK K
         have c_VA := VA.cell
         have f0_VA := VA.frozen 0
         have l_VA := VA.lt
         have m_VA := Nat.le_of_lt l_VA
         refine wpAnyH_ready (rs := [10]) (by kernel_rfl) (by simp) ?_
         refine AllReadyH.cons rfl (fun K hK => ?_) AllReadyH.nil
         simp only [gA, gB, gC]
         go_simp
         clear c_VA f0_VA l_VA m_VA
         refine sto1 VA (.slice aA lA kA) (Q := fun W => K _ W) ?_
         intro x9 V' oth far
         replace VB := oth _ _ _ (by first | omega | assumption | (simp; omega)) VB
         replace hA := hA.far VA (noInt1 _ _ _) far.1
         replace hB := hB.far VA (noInt1 _ _ _) far.1
         replace BX := far.2 _ _ (by first | omega | (simp; omega)) BX
         replace VA := V'
         clear oth far
         refine hK.out _ _ (LS.out _ BX) (fun hHeld => ?_)
         clear hK K
         have c_VB := VB.cell
         have f0_VB := VB.frozen 0
         have l_VB := VB.lt
         have m_VB := Nat.le_of_lt l_VB
         refine wpAnyH_ready (rs := [11]) (by kernel_rfl) (by simp) ?_
         refine AllReadyH.cons rfl (fun K hK => ?_) AllReadyH.nil
         simp only [gA, gB, gC]
         go_simp
         clear c_VB f0_VB l_VB m_VB
         refine sto1 VB (.slice aB lB kB) (Q := fun W => K _ W) ?_
         intro x10 V' oth far
         replace VA := oth _ _ _ (by first | omega | assumption | (simp; omega)) VA
         replace hA := hA.far VB (noInt1 _ _ _) far.1
         replace hB := hB.far VB (noInt1 _ _ _) far.1
         replace BX := far.2 _ _ (by first | omega | (simp; omega)) BX
         replace VB := V'
         clear oth far
         refine hK.out _ _ (LS.out _ BX) (fun hHeld => ?_)
         clear hK K
         refine wpAnyH_done (by kernel_rfl) ?_ _
         refine NoPanic.normal ?_
         clear hHeld
         go_wp2_with fail
         go_meet
         exact ⟨_, _, aA, lA, kA, zA, aB, lB, kB, zB, rfl, rfl, VA, VB, hA, hB, eA, eB, BX, ⟨by omega, by omega, by omega⟩⟩
       ·
        simp only [gA, gB, gC]
        go_simp
        have lt_VB_VA := VA.lt
        have sz_VB := BX.size
        refine ent1 _ _ _ (Q := fun V => K _ V) ?_
        intro x7 hb hs_ VB
        replace VA := Va.after hb VA
        replace hA := Nt.after hb hA
        replace h4 := Nt.after hb h4
        replace BX := step BX hb
        clear hb hs_
        refine hK.out _ _ (LS.out _ BX) (fun hHeld => ?_)
        clear hK K
        refine wpAnyH_ready (rs := [7]) (by kernel_rfl) (by simp) ?_
        refine AllReadyH.cons rfl (fun K hK => ?_) AllReadyH.nil
        ·
         simp only [gA, gB, gC]
         go_simp
         refine (rover_ok b4 ag m4 d4 lg kg y4 zg _ h4 (Nt.after BX L_hg.out) HG.out.1 (by rw [e4]; exact HG.out.2.2)).mono ?_
         rintro e x8 ⟨aB, lB, kB, zB, rfl, hB, eB, hb⟩
         replace VA := Va.after hb VA
         replace VB := Va.after hb VB
         replace hA := Nt.after hb hA
         replace h4 := Nt.after hb h4
         replace BX := step BX hb
         clear hb
         rw [e4] at eB
         clear h4 e4
         try go_wp2_with fail
         refine hK.out _ _ (LS.out _ BX) (fun hHeld => ?_)
         clear hK K
         have c_VA := VA.cell
         have f0_VA := VA.frozen 0
         have l_VA := VA.lt
         have m_VA := Nat.le_of_lt l_VA
         refine wpAnyH_ready (rs := [10]) (by kernel_rfl) (by simp) ?_
         refine AllReadyH.cons rfl (fun K hK => ?_) AllReadyH.nil
         simp only [gA, gB, gC]
         go_simp
         clear c_VA f0_VA l_VA m_VA
         refine sto1 VA (.slice aA lA kA) (Q := fun W => K _ W) ?_
         intro x9 V' oth far
         replace VB := oth _ _ _ (by first | omega | assumption | (simp; omega)) VB
         replace hA := hA.far VA (noInt1 _ _ _) far.1
         replace hB := hB.far VA (noInt1 _ _ _) far.1
         replace BX := far.2 _ _ (by first | omega | (simp; omega)) BX
         replace VA := V'
         clear oth far
         refine hK.out _ _ (LS.out _ BX) (fun hHeld => ?_)
         clear hK K
         have c_VB := VB.cell
         have f0_VB := VB.frozen 0
         have l_VB := VB.lt
         have m_VB := Nat.le_of_lt l_VB
         refine wpAnyH_ready (rs := [11]) (by kernel_rfl) (by simp) ?_
         refine AllReadyH.cons rfl (fun K hK => ?_) AllReadyH.nil
         simp only [gA, gB, gC]
         go_simp
         clear c_VB f0_VB l_VB m_VB
         refine sto1 VB (.slice aB lB kB) (Q := fun W => K _ W) ?_
         intro x10 V' oth far
         replace VA := oth _ _ _ (by first | omega | assumption | (simp; omega)) VA
         replace hA := hA.far VB (noInt1 _ _ _) far.1
         replace hB := hB.far VB (noInt1 _ _ _) far.1
         replace BX := far.2 _ _ (by first | omega | (simp; omega)) BX
         replace VB := V'
         clear oth far
         refine hK.out _ _ (LS.out _ BX) (fun hHeld => ?_)
         clear hK K
         refine wpAnyH_done (by kernel_rfl) ?_ _
         refine NoPanic.normal ?_
         clear hHeld
         go_wp2_with fail
         go_meet
         exact ⟨_, _, aA, lA, kA, zA, aB, lB, kB, zB, rfl, rfl, VA, VB, hA, hB, eA, eB, BX, ⟨by omega, by omega, by omega⟩⟩
      ·
       simp only [gA, gB, gC]
       go_simp
       have sz_VB := BX.size
       refine ent1 _ _ _ (Q := fun V => K _ V) ?_
       intro x6 hb hs_ VB
       replace hA := Nt.after hb hA
       replace h4 := Nt.after hb h4
       replace BX := step BX hb
       clear hb hs_
       refine hK.out _ _ (LS.out _ BX) (fun hHeld => ?_)
       clear hK K
       refine wpAnyH_ready (rs := [7, 8]) (by kernel_rfl) (by simp) ?_
       refine AllReadyH.cons rfl (fun K hK => ?_) (AllReadyH.cons rfl (fun K hK => ?_) AllReadyH.nil)
       ·
        simp only [gA, gB, gC]
        go_simp
        refine (rover_ok b4 ag m4 d4 lg kg y4 zg _ h4 (Nt.after BX L_hg.out) HG.out.1 (by rw [e4]; exact HG.out.2.2)).mono ?_
        rintro e x7 ⟨aB, lB, kB, zB, rfl, hB, eB, hb⟩
        replace VB := Va.after hb VB
        replace hA := Nt.after hb hA
        replace h4 := Nt.after hb h4
        replace BX := step BX hb
        clear hb
        rw [e4] at eB
        clear h4 e4
        try go_wp2_with fail
        refine hK.out _ _ (LS.out _ BX) (fun hHeld => ?_)
        clear hK K
        refine wpAnyH_ready (rs := [8]) (by kernel_rfl) (by simp) ?_
        refine AllReadyH.cons rfl (fun K hK => ?_) AllReadyH.nil
        ·
         simp only [gA, gB, gC]
         go_simp
         have lt_VA_VB := VB.lt
         have sz_VA := BX.size
         refine ent1 _ _ _ (Q := fun V => K _ V) ?_
         intro x8 hb hs_ VA
         replace VB := Va.after hb VB
         replace hA := Nt.after hb hA
         replace hB := Nt.after hb hB
         replace BX := step BX hb
         clear hb hs_
         refine hK.out _ _ (LS.out _ BX) (fun hHeld => ?_)
         clear hK K
         have c_VA := VA.cell
         have f0_VA := VA.frozen 0
         have l_VA := VA.lt
         have m_VA := Nat.le_of_lt l_VA
         refine wpAnyH_ready (rs := [10]) (by kernel_rfl) (by simp) ?_
         refine AllReadyH.cons rfl (fun K hK => ?_) AllReadyH.nil
         simp only [gA, gB, gC]
         go_simp
         clear c_VA f0_VA l_VA m_VA
         refine sto1 VA (.slice aA lA kA) (Q := fun W => K _ W) ?_
         intro x9 V' oth far
         replace VB := oth _ _ _ (by first | omega | assumption | (simp; omega)) VB
         replace hA := hA.far VA (noInt1 _ _ _) far.1
         replace hB := hB.far VA (noInt1 _ _ _) far.1
         replace BX := far.2 _ _ (by first | omega | (simp; omega)) BX
         replace VA := V'
         clear oth far
         refine hK.out _ _ (LS.out _ BX) (fun hHeld => ?_)
         clear hK K
         have c_VB := VB.cell
         have f0_VB := VB.frozen 0
         have l_VB := VB.lt
         have m_VB := Nat.le_of_lt l_VB
         refine wpAnyH_ready (rs := [11]) (by kernel_rfl) (by simp) ?_
         refine AllReadyH.cons rfl (fun K hK => ?_) AllReadyH.nil
         simp only [gA, gB, gC]
         go_simp
         clear c_VB f0_VB l_VB m_VB
         refine sto1 VB (.slice aB lB kB) (Q := fun W => K _ W) ?_
         intro x10 V' oth far
         replace VA := oth _ _ _ (by first | omega | assumption | (simp; omega)) VA
         replace hA := hA.far VB (noInt1 _ _ _) far.1
         replace hB := hB.far VB (noInt1 _ _ _) far.1
         replace BX := far.2 _ _ (by first | omega | (simp; omega)) BX
         replace VB := V'
         clear oth far
         refine hK.out _ _ (LS.out _ BX) (fun hHeld => ?_)
         clear hK K
         refine wpAnyH_done (by kernel_rfl) ?_ _
         refine NoPanic.normal ?_
         clear hHeld
         go_wp2_with fail
         go_meet
         exact ⟨_, _, aA, lA, kA, zA, aB, lB, kB, zB, rfl, rfl, VA, VB, hA, hB, eA, eB, BX, ⟨by omega, by omega, by omega⟩⟩
       ·
        simp only [gA, gB, gC]
        go_simp
        have lt_VA_VB := VB.lt
        have sz_VA := BX.size
        refine ent1 _ _ _ (Q := fun V => K _ V) ?_
        intro x7 hb hs_ VA
        replace VB := Va.after hb VB
        replace hA := Nt.after hb hA
        replace h4 := Nt.after hb h4
        replace BX := step BX hb
        clear hb hs_
        refine hK.out _ _ (LS.out _ BX) (fun hHeld => ?_)
        clear hK K
        refine wpAnyH_ready (rs := [7]) (by kernel_rfl) (by simp) ?_
        refine AllReadyH.cons rfl (fun K hK => ?_) AllReadyH.nil
        ·
         simp only [gA, gB, gC]
         go_simp
         refine (rover_ok b4 ag m4 d4 lg kg y4 zg _ h4 (Nt.after BX L_hg.out) HG.out.1 (by rw [e4]; exact HG.out.2.2)).mono ?_
         rintro e x8 ⟨aB, lB, kB, zB, rfl, hB, eB, hb⟩
         replace VB := Va.after hb VB
         replace VA := Va.after hb VA
         replace hA := Nt.after hb hA
         replace h4 := Nt.after hb h4
         replace BX := step BX hb
         clear hb
         rw [e4] at eB
         clear h4 e4
         try go_wp2_with fail
         refine hK.out _ _ (LS.out _ BX) (fun hHeld => ?_)
         clear hK K
         have c_VA := VA.cell
         have f0_VA := VA.frozen 0
         have l_VA := VA.lt
         have m_VA := Nat.le_of_lt l_VA
         refine wpAnyH_ready (rs := [10]) (by kernel_rfl) (by simp) ?_
         refine AllReadyH.cons rfl (fun K hK => ?_) AllReadyH.nil
         simp only [gA, gB, gC]
         go_simp
         clear c_VA f0_VA l_VA m_VA
         refine sto1 VA (.slice aA lA kA) (Q := fun W => K _ W) ?_
         intro x9 V' oth far
         replace VB := oth _ _ _ (by first | omega | assumption | (simp; omega)) VB
         replace hA := hA.far VA (noInt1 _ _ _) far.1
         replace hB := hB.far VA (noInt1 _ _ _) far.1
         replace BX := far.2 _ _ (by first | omega | (simp; omega)) BX
         replace VA := V'
         clear oth far
         refine hK.out _ _ (LS.out _ BX) (fun hHeld => ?_)
         clear hK K
         have c_VB := VB.cell
         have f0_VB := VB.frozen 0
         have l_VB := VB.lt
         have m_VB := Nat.le_of_lt l_VB
         refine wpAnyH_ready (rs := [11]) (by kernel_rfl) (by simp) ?_
         refine AllReadyH.cons rfl (fun K hK => ?_) AllReadyH.nil
         simp only [gA, gB, gC]
         go_simp
         clear c_VB f0_VB l_VB m_VB
         refine sto1 VB (.slice aB lB kB) (Q := fun W => K _ W) ?_
         intro x10 V' oth far
         replace VA := oth _ _ _ (by first | omega | assumption | (simp; omega)) VA
         replace hA := hA.far VB (noInt1 _ _ _) far.1
         replace hB := hB.far VB (noInt1 _ _ _) far.1
         replace BX := far.2 _ _ (by first | omega | (simp; omega)) BX
         replace VB := V'
         clear oth far
         refine hK.out _ _ (LS.out _ BX) (fun hHeld => ?_)
         clear hK K
         refine wpAnyH_done (by kernel_rfl) ?_ _
         refine NoPanic.normal ?_
         clear hHeld
         go_wp2_with fail
         go_meet
         exact ⟨_, _, aA, lA, kA, zA, aB, lB, kB, zB, rfl, rfl, VA, VB, hA, hB, eA, eB, BX, ⟨by omega, by omega, by omega⟩⟩
     ·
      simp only [gA, gB, gC]
      go_simp
      have sz_VA := BX.size
      refine ent1 _ _ _ (Q := fun V => K _ V) ?_
      intro x5 hb hs_ VA
      replace hA := Nt.after hb hA
      replace BX := step BX hb
      clear hb hs_
      refine hK.out _ _ (LS.out _ BX) (fun hHeld => ?_)
      clear hK K
      refine wpAnyH_ready (rs := [5, 9]) (by kernel_rfl) (by simp) ?_
      refine AllReadyH.cons rfl (fun K hK => ?_) (AllReadyH.cons rfl (fun K hK => ?_) AllReadyH.nil)
      ·
       simp only [gA, gB, gC]
       go_simp
       refine (rden_any s2 a2 l2 c2 b2 m2 d2 y2 _ (Rt.after BX L_h2.out).2.1).mono ?_
       rintro e x6 ⟨b4, m4, d4, y4, rfl, h4, e4, hb⟩
       replace VA := Va.after hb VA
       replace hA := Nt.after hb hA
       replace BX := step BX hb
       clear hb
       replace e4 := e4.trans L_h2.out.2.2.2.1
       try go_wp2_with fail
       refine hK.out _ _ (LS.out _ BX) (fun hHeld => ?_)
       clear hK K
       refine wpAnyH_ready (rs := [7, 9]) (by kernel_rfl) (by simp) ?_
       refine AllReadyH.cons rfl (fun K hK => ?_) (AllReadyH.cons rfl (fun K hK => ?_) AllReadyH.nil)
       ·
        simp only [gA, gB, gC]
        go_simp
        refine (rover_ok b4 ag m4 d4 lg kg y4 zg _ h4 (Nt.after BX L_hg.out) HG.out.1 (by rw [e4]; exact HG.out.2.2)).mono ?_
        rintro e x7 ⟨aB, lB, kB, zB, rfl, hB, eB, hb⟩
        replace VA := Va.after hb VA
        replace hA := Nt.after hb hA
        replace h4 := Nt.after hb h4
        replace BX := step BX hb
        clear hb
        rw [e4] at eB
        clear h4 e4
        try go_wp2_with fail
        refine hK.out _ _ (LS.out _ BX) (fun hHeld => ?_)
        clear hK K
        refine wpAnyH_ready (rs := [9]) (by kernel_rfl) (by simp) ?_
        refine AllReadyH.cons rfl (fun K hK => ?_) AllReadyH.nil
        ·
         simp only [gA, gB, gC]
         go_simp
         have lt_VB_VA := VA.lt
         have sz_VB := BX.size
         refine ent1 _ _ _ (Q := fun V => K _ V) ?_
         intro x8 hb hs_ VB
         replace VA := Va.after hb VA
         replace hA := Nt.after hb hA
         replace hB := Nt.after hb hB
         replace BX := step BX hb
         clear hb hs_
         refine hK.out _ _ (LS.out _ BX) (fun hHeld => ?_)
         clear hK K
         have c_VA := VA.cell
         have f0_VA := VA.frozen 0
         have l_VA := VA.lt
         have m_VA := Nat.le_of_lt l_VA
         refine wpAnyH_ready (rs := [10]) (by kernel_rfl) (by simp) ?_
         refine AllReadyH.cons rfl (fun K hK => ?_) AllReadyH.nil
         simp only [gA, gB, gC]
         go_simp
         clear c_VA f0_VA l_VA m_VA
         refine sto1 VA (.slice aA lA kA) (Q := fun W => K _ W) ?_
         intro x9 V' oth far
         replace VB := oth _ _ _ (by first | omega | assumption | (simp; omega)) VB
         replace hA := hA.far VA (noInt1 _ _ _) far.1
         replace hB := hB.far VA (noInt1 _ _ _) far.1
         replace BX := far.2 _ _ (by first | omega | (simp; omega)) BX
         replace VA := V'
         clear oth far
         refine hK.out _ _ (LS.out _ BX) (fun hHeld => ?_)
         clear hK K
         have c_VB := VB.cell
         have f0_VB := VB.frozen 0
         have l_VB := VB.lt
         have m_VB := Nat.le_of_lt l_VB
         refine wpAnyH_ready (rs := [11]) (by kernel_rfl) (by simp) ?_
         refine AllReadyH.cons rfl (fun K hK => ?_) AllReadyH.nil
         simp only [gA, gB, gC]
         go_simp
         clear c_VB f0_VB l_VB m_VB
         refine sto1 VB (.slice aB lB kB) (Q := fun W => K _ W) ?_
         intro x10 V' oth far
         replace VA := oth _ _ _ (by first | omega | assumption | (simp; omega)) VA
         replace hA := hA.far VB (noInt1 _ _ _) far.1
         replace hB := hB.far VB (noInt1 _ _ _) far.1
         replace BX := far.2 _ _ (by first | omega | (simp; omega)) BX
         replace VB := V'
         clear oth far
         refine hK.out _ _ (LS.out _ BX) (fun hHeld => ?_)
         clear hK K
         refine wpAnyH_done (by kernel_rfl) ?_ _
         refine NoPanic.normal ?_
         clear hHeld
         go_wp2_with fail
         go_meet
         exact ⟨_, _, aA, lA, kA, zA, aB, lB, kB, zB, rfl, rfl, VA, VB, hA, hB, eA, eB, BX, ⟨by omega, by omega, by omega⟩⟩
       ·
        simp only [gA, gB, gC]
        go_simp
        have lt_VB_VA := VA.lt
        have sz_VB := BX.size
        refine ent1 _ _ _ (Q := fun V => K _ V) ?_
        intro x7 hb hs_ VB
        replace VA := Va.after hb VA
        replace hA := Nt.after hb hA
        replace h4 := Nt.after hb h4
        replace BX := step BX hb
        clear hb hs_
        refine hK.out _ _ (LS.out _ BX) (fun hHeld => ?_)
        clear hK K
        refine wpAnyH_ready (rs := [7]) (by kernel_rfl) (by simp) ?_
        refine AllReadyH.cons rfl (fun K hK => ?_) AllReadyH.nil
        ·
         simp only [gA, gB, gC]
         go_simp
         refine (rover_ok b4 ag m4 d4 lg kg y4 zg _ h4 (Nt.after BX L_hg.out) HG.out.1 (by rw [e4]; exact HG.out.2.2)).mono ?_
         rintro e x8 ⟨aB, lB, kB, zB, rfl, hB, eB, hb⟩
         replace VA := Va.after hb VA
         replace VB := Va.after hb VB
         replace hA := Nt.after hb hA
         replace h4 := Nt.after hb h4
         replace BX := step BX hb
         clear hb
         rw [e4] at eB
         clear h4 e4
         try go_wp2_with fail
         refine hK.out _ _ (LS.out _ BX) (fun hHeld => ?_)
         clear hK K
         have c_VA := VA.cell
         have f0_VA := VA.frozen 0
         have l_VA := VA.lt
         have m_VA := Nat.le_of_lt l_VA
         refine wpAnyH_ready (rs := [10]) (by kernel_rfl) (by simp) ?_
         refine AllReadyH.cons rfl (fun K hK => ?_) AllReadyH.nil
         simp only [gA, gB, gC]
         go_simp
         clear c_VA f0_VA l_VA m_VA
         refine sto1 VA (.slice aA lA kA) (Q := fun W => K _ W) ?_
         intro x9 V' oth far
         replace VB := oth _ _ _ (by first | omega | assumption | (simp; omega)) VB
         replace hA := hA.far VA (noInt1 _ _ _) far.1
         replace hB := hB.far VA (noInt1 _ _ _) far.1
         replace BX := far.2 _ _ (by first | omega | (simp; omega)) BX
         replace VA := V'
         clear oth far
         refine hK.out _ _ (LS.out _ BX) (fun hHeld => ?_)
         clear hK K
         have c_VB := VB.cell
         have f0_VB := VB.frozen 0
         have l_VB := VB.lt
         have m_VB := Nat.le_of_lt l_VB
         refine wpAnyH_ready (rs := [11]) (by kernel_rfl) (by simp) ?_
         refine AllReadyH.cons rfl (fun K hK => ?_) AllReadyH.nil
         simp only [gA, gB, gC]
         go_simp
         clear c_VB f0_VB l_VB m_VB
         refine sto1 VB (.slice aB lB kB) (Q := fun W => K _ W) ?_
         intro x10 V' oth far
         replace VA := oth _ _ _ (by first | omega | assumption | (simp; omega)) VA
         replace hA := hA.far VB (noInt1 _ _ _) far.1
         replace hB := hB.far VB (noInt1 _ _ _) far.1
         replace BX := far.2 _ _ (by first | omega | (simp; omega)) BX
         replace VB := V'
         clear oth far
         refine hK.out _ _ (LS.out _ BX) (fun hHeld => ?_)
         clear hK K
         refine wpAnyH_done (by kernel_rfl) ?_ _
         refine NoPanic.normal ?_
         clear hHeld
         go_wp2_with fail
         go_meet
         exact ⟨_, _, aA, lA, kA, zA, aB, lB, kB, zB, rfl, rfl, VA, VB, hA, hB, eA, eB, BX, ⟨by omega, by omega, by omega⟩⟩
      ·
       simp only [gA, gB, gC]
       go_simp
       have lt_VB_VA := VA.lt
       have sz_VB := BX.size
       refine ent1 _ _ _ (Q := fun V => K _ V) ?_
       intro x6 hb hs_ VB
       replace VA := Va.after hb VA
       replace hA := Nt.after hb hA
       replace BX := step BX hb
       clear hb hs_
       refine hK.out _ _ (LS.out _ BX) (fun hHeld => ?_)
       clear hK K
       refine wpAnyH_ready (rs := [5]) (by kernel_rfl) (by simp) ?_
       refine AllReadyH.cons rfl (fun K hK => ?_) AllReadyH.nil
       ·
        simp only [gA, gB, gC]
        go_simp
        refine (rden_any s2 a2 l2 c2 b2 m2 d2 y2 _ (Rt.after BX L_h2.out).2.1).mono ?_
        rintro e x7 ⟨b4, m4, d4, y4, rfl, h4, e4, hb⟩
        replace VA := Va.after hb VA
        replace VB := Va.after hb VB
        replace hA := Nt.after hb hA
        replace BX := step BX hb
        clear hb
        replace e4 := e4.trans L_h2.out.2.2.2.1
        try go_wp2_with fail
        refine hK.out _ _ (LS.out _ BX) (fun hHeld => ?_)
        clear hK K
        refine wpAnyH_ready (rs := [7]) (by kernel_rfl) (by simp) ?_
        refine AllReadyH.cons rfl (fun K hK => ?_) AllReadyH.nil
        ·
         simp only [gA, gB, gC]
         go_simp
         refine (rover_ok b4 ag m4 d4 lg kg y4 zg _ h4 (Nt.after BX L_hg.out) HG.out.1 (by rw [e4]; exact HG.out.2.2)).mono ?_
         rintro e x8 ⟨aB, lB, kB, zB, rfl, hB, eB, hb⟩
         replace VA := Va.after hb VA
         replace VB := Va.after hb VB
         replace hA := Nt.after hb hA
         replace h4 := Nt.after hb h4
         replace BX := step BX hb
         clear hb
         rw [e4] at eB
         clear h4 e4
         try go_wp2_with fail
         refine hK.out _ _ (LS.out _ BX) (fun hHeld => ?_)
         clear hK K
         have c_VA := VA.cell
         have f0_VA := VA.frozen 0
         have l_VA := VA.lt
         have m_VA := Nat.le_of_lt l_VA
         refine wpAnyH_ready (rs := [10]) (by kernel_rfl) (by simp) ?_
         refine AllReadyH.cons rfl (fun K hK => ?_) AllReadyH.nil
         simp only [gA, gB, gC]
         go_simp
         clear c_VA f0_VA l_VA m_VA
         refine sto1 VA (.slice aA lA kA) (Q := fun W => K _ W) ?_
         intro x9 V' oth far
         replace VB := oth _ _ _ (by first | omega | assumption | (simp; omega)) VB
         replace hA := hA.far VA (noInt1 _ _ _) far.1
         replace hB := hB.far VA (noInt1 _ _ _) far.1
         replace BX := far.2 _ _ (by first | omega | (simp; omega)) BX
         replace VA := V'
         clear oth far
         refine hK.out _ _ (LS.out _ BX) (fun hHeld => ?_)
         clear hK K
         have c_VB := VB.cell
         have f0_VB := VB.frozen 0
         have l_VB := VB.lt
         have m_VB := Nat.le_of_lt l_VB
         refine wpAnyH_ready (rs := [11]) (by kernel_rfl) (by simp) ?_
         refine AllReadyH.cons rfl (fun K hK => ?_) AllReadyH.nil
         simp only [gA, gB, gC]
         go_simp
         clear c_VB f0_VB l_VB m_VB
         refine sto1 VB (.slice aB lB kB) (Q := fun W => K _ W) ?_
         intro x10 V' oth far
         replace VA := oth _ _ _ (by first | omega | assumption | (simp; omega)) VA
         replace hA := hA.far VB (noInt1 _ _ _) far.1
         replace hB := hB.far VB (noInt1 _ _ _) far.1
         replace BX := far.2 _ _ (by first | omega | (simp; omega)) BX
         replace VB := V'
         clear oth far
         refine hK.out _ _ (LS.out _ BX) (fun hHeld => ?_)
         clear hK K
         refine wpAnyH_done (by kernel_rfl) ?_ _
         refine NoPanic.normal ?_
         clear hHeld
         go_wp2_with fail
         go_meet
         exact ⟨_, _, aA, lA, kA, zA, aB, lB, kB, zB, rfl, rfl, VA, VB, hA, hB, eA, eB, BX, ⟨by omega, by omega, by omega⟩⟩
     ·
      simp only [gA, gB, gC]
      go_simp
      have sz_VB := BX.size
      refine ent1 _ _ _ (Q := fun V => K _ V) ?_
      intro x5 hb hs_ VB
      replace hA := Nt.after hb hA
      replace BX := step BX hb
      clear hb hs_
      refine hK.out _ _ (LS.out _ BX) (fun hHeld => ?_)
      clear hK K
      refine wpAnyH_ready (rs := [5, 8]) (by kernel_rfl) (by simp) ?_
      refine AllReadyH.cons rfl (fun K hK => ?_) (AllReadyH.cons rfl (fun K hK => ?_) AllReadyH.nil)
      ·
       simp only [gA, gB, gC]
       go_simp
       refine (rden_any s2 a2 l2 c2 b2 m2 d2 y2 _ (Rt.after BX L_h2.out).2.1).mono ?_
       rintro e x6 ⟨b4, m4, d4, y4, rfl, h4, e4, hb⟩
       replace VB := Va.after hb VB
       replace hA := Nt.after hb hA
       replace BX := step BX hb
       clear hb
       replace e4 := e4.trans L_h2.out.2.2.2.1
       try go_wp2_with fail
       refine hK.out _ _ (LS.out _ BX) (fun hHeld => ?_)
       clear hK K
       refine wpAnyH_ready (rs := [7, 8]) (by kernel_rfl) (by simp) ?_
       refine AllReadyH.cons rfl (fun K hK => ?_) (AllReadyH.cons rfl (fun K hK => ?_) AllReadyH.nil)
       ·
        simp only [gA, gB, gC]
        go_simp
        refine (rover_ok b4 ag m4 d4 lg kg y4 zg _ h4 (Nt.after BX L_hg.out) HG.out.1 (by rw [e4]; exact HG.out.2.2)).mono ?_
        rintro e x7 ⟨aB, lB, kB, zB, rfl, hB, eB, hb⟩
        replace VB := Va.after hb VB
        replace hA := Nt.after hb hA
        replace h4 := Nt.after hb h4
        replace BX := step BX hb
        clear hb
        rw [e4] at eB
        clear h4 e4
        try go_wp2_with fail
        refine hK.out _ _ (LS.out _ BX) (fun hHeld => ?_)
        clear hK K
        refine wpAnyH_ready (rs := [8]) (by kernel_rfl) (by simp) ?_
        refine AllReadyH.cons rfl (fun K hK => ?_) AllReadyH.nil
        ·
         simp only [gA, gB, gC]
         go_simp
         have lt_VA_VB := VB.lt
         have sz_VA := BX.size
         refine ent1 _ _ _ (Q := fun V => K _ V) ?_
         intro x8 hb hs_ VA
         replace VB := Va.after hb VB
         replace hA := Nt.after hb hA
         replace hB := Nt.after hb hB
         replace BX := step BX hb
         clear hb hs_
         refine hK.out _ _ (LS.out _ BX) (fun hHeld => ?_)
         clear hK K
         have c_VA := VA.cell
         have f0_VA := VA.frozen 0
         have l_VA := VA.lt
         have m_VA := Nat.le_of_lt l_VA
         refine wpAnyH_ready (rs := [10]) (by kernel_rfl) (by simp) ?_
         refine AllReadyH.cons rfl (fun K hK => ?_) AllReadyH.nil
         simp only [gA, gB, gC]
         go_simp
         clear c_VA f0_VA l_VA m_VA
         refine sto1 VA (.slice aA lA kA) (Q := fun W => K _ W) ?_
         intro x9 V' oth far
         replace VB := oth _ _ _ (by first | omega | assumption | (simp; omega)) VB
         replace hA := hA.far VA (noInt1 _ _ _) far.1
         replace hB := hB.far VA (noInt1 _ _ _) far.1
         replace BX := far.2 _ _ (by first | omega | (simp; omega)) BX
         replace VA := V'
         clear oth far
         refine hK.out _ _ (LS.out _ BX) (fun hHeld => ?_)
         clear hK K
         have c_VB := VB.cell
         have f0_VB := VB.frozen 0
         have l_VB := VB.lt
         have m_VB := Nat.le_of_lt l_VB
         refine wpAnyH_ready (rs := [11]) (by kernel_rfl) (by simp) ?_
         refine AllReadyH.cons rfl (fun K hK => ?_) AllReadyH.nil
         simp only [gA, gB, gC]
         go_simp
         clear c_VB f0_VB l_VB m_VB
         refine sto1 VB (.slice aB lB kB) (Q := fun W => K _ W) ?_
         intro x10 V' oth far
         replace VA := oth _ _ _ (by first | omega | assumption | (simp; omega)) VA
         replace hA := hA.far VB (noInt1 _ _ _) far.1
         replace hB := hB.far VB (noInt1 _ _ _) far.1
         replace BX := far.2 _ _ (by first | omega | (simp; omega)) BX
         replace VB := V'
         clear oth far
         refine hK.out _ _ (LS.out _ BX) (fun hHeld => ?_)
         clear hK K
         refine wpAnyH_done (by kernel_rfl) ?_ _
         refine NoPanic.normal ?_
         clear hHeld
         go_wp2_with fail
         go_meet
         exact ⟨_, _, aA, lA, kA, zA, aB, lB, kB, zB, rfl, rfl, VA, VB, hA, hB, eA, eB, BX, ⟨by omega, by omega, by omega⟩⟩
       ·
        simp only [gA, gB, gC]
        go_simp
        have lt_VA_VB := VB.lt
        have sz_VA := BX.size
        refine ent1 _ _ _ (Q := fun V => K _ V) ?_
        intro x7 hb hs_ VA
        replace VB := Va.after hb VB
        replace hA := Nt.after hb hA
        replace h4 := Nt.after hb h4
        replace BX := step BX hb
        clear hb hs_
        refine hK.out _ _ (LS.out _ BX) (fun hHeld => ?_)
        clear hK K
        refine wpAnyH_ready (rs := [7]) (by kernel_rfl) (by simp) ?_
        refine AllReadyH.cons rfl (fun K hK => ?_) AllReadyH.nil
        ·
         simp only [gA, gB, gC]
         go_simp
         refine (rover_ok b4 ag m4 d4 lg kg y4 zg _ h4 (Nt.after BX L_hg.out) HG.out.1 (by rw [e4]; exact HG.out.2.2)).mono ?_
         rintro e x8 ⟨aB, lB, kB, zB, rfl, hB, eB, hb⟩
         replace VB := Va.after hb VB
         replace VA := Va.after hb VA
         replace hA := Nt.after hb hA
         replace h4 := Nt.after hb h4
         replace BX := step BX hb
         clear hb
         rw [e4] at eB
         clear h4 e4
         try go_wp2_with fail
         refine hK.out _ _ (LS.out _ BX) (fun hHeld => ?_)
         clear hK K
         have c_VA := VA.cell
         have f0_VA := VA.frozen 0
         have l_VA := VA.lt
         have m_VA := Nat.le_of_lt l_VA
         refine wpAnyH_ready (rs := [10]) (by kernel_rfl) (by simp) ?_
         refine AllReadyH.cons rfl (fun K hK => ?_) AllReadyH.nil
         simp only [gA, gB, gC]
         go_simp
         clear c_VA f0_VA l_VA m_VA
         refine sto1 VA (.slice aA lA kA) (Q := fun W => K _ W) ?_
         intro x9 V' oth far
         replace VB := oth _ _ _ (by first | omega | assumption | (simp; omega)) VB
         replace hA := hA.far VA (noInt1 _ _ _) far.1
         replace hB := hB.far VA (noInt1 _ _ _) far.1
         replace BX := far.2 _ _ (by first | omega | (simp; omega)) BX
         replace VA := V'
         clear oth far
         refine hK.out _ _ (LS.out _ BX) (fun hHeld => ?_)
         clear hK K
         have c_VB := VB.cell
         have f0_VB := VB.frozen 0
         have l_VB := VB.lt
         have m_VB := Nat.le_of_lt l_VB
         refine wpAnyH_ready (rs := [11]) (by kernel_rfl) (by simp) ?_
         refine AllReadyH.cons rfl (fun K hK => ?_) AllReadyH.nil
         simp only [gA, gB, gC]
         go_simp
         clear c_VB f0_VB l_VB m_VB
         refine sto1 VB (.slice aB lB kB) (Q := fun W => K _ W) ?_
         intro x10 V' oth far
         replace VA := oth _ _ _ (by first | omega | assumption | (simp; omega)) VA
         replace hA := hA.far VB (noInt1 _ _ _) far.1
         replace hB := hB.far VB (noInt1 _ _ _) far.1
         replace BX := far.2 _ _ (by first | omega | (simp; omega)) BX
         replace VB := V'
         clear oth far
         refine hK.out _ _ (LS.out _ BX) (fun hHeld => ?_)
         clear hK K
         refine wpAnyH_done (by kernel_rfl) ?_ _
         refine NoPanic.normal ?_
         clear hHeld
         go_wp2_with fail
         go_meet
         exact ⟨_, _, aA, lA, kA, zA, aB, lB, kB, zB, rfl, rfl, VA, VB, hA, hB, eA, eB, BX, ⟨by omega, by omega, by omega⟩⟩
      ·
       simp only [gA, gB, gC]
       go_simp
       have lt_VA_VB := VB.lt
       have sz_VA := BX.size
       refine ent1 _ _ _ (Q := fun V => K _ V) ?_
       intro x6 hb hs_ VA
       replace VB := Va.after hb VB
       replace hA := Nt.after hb hA
       replace BX := step BX hb
       clear hb hs_
       refine hK.out _ _ (LS.out _ BX) (fun hHeld => ?_)
       clear hK K
       refine wpAnyH_ready (rs := [5]) (by kernel_rfl) (by simp) ?_
       refine AllReadyH.cons rfl (fun K hK => ?_) AllReadyH.nil
       ·
        simp only [gA, gB, gC]
        go_simp
        refine (rden_any s2 a2 l2 c2 b2 m2 d2 y2 _ (Rt.after BX L_h2.out).2.1).mono ?_
        rintro e x7 ⟨b4, m4, d4, y4, rfl, h4, e4, hb⟩
        replace VB := Va.after hb VB
        replace VA := Va.after hb VA
        replace hA := Nt.after hb hA
        replace BX := step BX hb
        clear hb
        replace e4 := e4.trans L_h2.out.2.2.2.1
        try go_wp2_with fail
        refine hK.out _ _ (LS.out _ BX) (fun hHeld => ?_)
        clear hK K
        refine wpAnyH_ready (rs := [7]) (by kernel_rfl) (by simp) ?_
        refine AllReadyH.cons rfl (fun K hK => ?_) AllReadyH.nil
        ·
         simp only [gA, gB, gC]
         go_simp
         refine (rover_ok b4 ag m4 d4 lg kg y4 zg _ h4 (Nt.after BX L_hg.out) HG.out.1 (by rw [e4]; exact HG.out.2.2)).mono ?_
         rintro e x8 ⟨aB, lB, kB, zB, rfl, hB, eB, hb⟩
         replace VB := Va.after hb VB
         replace VA := Va.after hb VA
         replace hA := Nt.after hb hA
         replace h4 := Nt.after hb h4
         replace BX := step BX hb
         clear hb
         rw [e4] at eB
         clear h4 e4
         try go_wp2_with fail
         refine hK.out _ _ (LS.out _ BX) (fun hHeld => ?_)
         clear hK K
         have c_VA := VA.cell
         have f0_VA := VA.frozen 0
         have l_VA := VA.lt
         have m_VA := Nat.le_of_lt l_VA
         refine wpAnyH_ready (rs := [10]) (by kernel_rfl) (by simp) ?_
         refine AllReadyH.cons rfl (fun K hK => ?_) AllReadyH.nil
         simp only [gA, gB, gC]
         go_simp
         clear c_VA f0_VA l_VA m_VA
         refine sto1 VA (.slice aA lA kA) (Q := fun W => K _ W) ?_
         intro x9 V' oth far
         replace VB := oth _ _ _ (by first | omega | assumption | (simp; omega)) VB
         replace hA := hA.far VA (noInt1 _ _ _) far.1
         replace hB := hB.far VA (noInt1 _ _ _) far.1
         replace BX := far.2 _ _ (by first | omega | (simp; omega)) BX
         replace VA := V'
         clear oth far
         refine hK.out _ _ (LS.out _ BX) (fun hHeld => ?_)
         clear hK K
         have c_VB := VB.cell
         have f0_VB := VB.frozen 0
         have l_VB := VB.lt
         have m_VB := Nat.le_of_lt l_VB
         refine wpAnyH_ready (rs := [11]) (by kernel_rfl) (by simp) ?_
         refine AllReadyH.cons rfl (fun K hK => ?_) AllReadyH.nil
         simp only [gA, gB, gC]
         go_simp
         clear c_VB f0_VB l_VB m_VB
         refine sto1 VB (.slice aB lB kB) (Q := fun W => K _ W) ?_
         intro x10 V' oth far
         replace VA := oth _ _ _ (by first | omega | assumption | (simp; omega)) VA
         replace hA := hA.far VB (noInt1 _ _ _) far.1
         replace hB := hB.far VB (noInt1 _ _ _) far.1
         replace BX := far.2 _ _ (by first | omega | (simp; omega)) BX
         replace VB := V'
         clear oth far
         refine hK.out _ _ (LS.out _ BX) (fun hHeld => ?_)
         clear hK K
         refine wpAnyH_done (by kernel_rfl) ?_ _
         refine NoPanic.normal ?_
         clear hHeld
         go_wp2_with fail
         go_meet
         exact ⟨_, _, aA, lA, kA, zA, aB, lB, kB, zB, rfl, rfl, VA, VB, hA, hB, eA, eB, BX, ⟨by omega, by omega, by omega⟩⟩
    ·
     simp only [gA, gB, gC]
     go_simp
     have sz_VA := BX.size
     refine ent1 _ _ _ (Q := fun V => K _ V) ?_
     intro x4 hb hs_ VA
     replace h3 := Nt.after hb h3
     replace BX := step BX hb
     clear hb hs_
     refine hK.out _ _ (LS.out _ BX) (fun hHeld => ?_)
     clear hK K
     refine wpAnyH_ready (rs := [3, 9]) (by kernel_rfl) (by simp) ?_
     refine AllReadyH.cons rfl (fun K hK => ?_) (AllReadyH.cons rfl (fun K hK => ?_) AllReadyH.nil)
     ·
      simp only [gA, gB, gC]
      go_simp
      refine (rover_ok b3 ag m3 d3 lg kg y3 zg _ h3 (Nt.after BX L_hg.out) HG.out.1 (by rw [e3]; exact HG.out.2.1)).mono ?_
      rintro e x5 ⟨aA, lA, kA, zA, rfl, hA, eA, hb⟩
      replace VA := Va.after hb VA
      replace h3 := Nt.after hb h3
      replace BX := step BX hb
      clear hb
      rw [e3] at eA
      clear h3 e3
      try go_wp2_with fail
      refine hK.out _ _ (LS.out _ BX) (fun hHeld => ?_)
      clear hK K
      refine wpAnyH_ready (rs := [5, 9]) (by kernel_rfl) (by simp) ?_
      refine AllReadyH.cons rfl (fun K hK => ?_) (AllReadyH.cons rfl (fun K hK => ?_) AllReadyH.nil)
      ·
       simp only [gA, gB, gC]
       go_simp
       refine (rden_any s2 a2 l2 c2 b2 m2 d2 y2 _ (Rt.after BX L_h2.out).2.1).mono ?_
       rintro e x6 ⟨b4, m4, d4, y4, rfl, h4, e4, hb⟩
       replace VA := Va.after hb VA
       replace hA := Nt.after hb hA
       replace BX := step BX hb
       clear hb
       replace e4 := e4.trans L_h2.out.2.2.2.1
       try go_wp2_with fail
       refine hK.out _ _ (LS.out _ BX) (fun hHeld => ?_)
       clear hK K
       refine wpAnyH_ready (rs := [7, 9]) (by kernel_rfl) (by simp) ?_
       refine AllReadyH.cons rfl (fun K hK => ?_) (AllReadyH.cons rfl (fun K hK => ?_) AllReadyH.nil)
       ·
        simp only [gA, gB, gC]
        go_simp
        refine (rover_ok b4 ag m4 d4 lg kg y4 zg _ h4 (Nt.after BX L_hg.out) HG.out.1 (by rw [e4]; exact HG.out.2.2)).mono ?_
        rintro e x7 ⟨aB, lB, kB, zB, rfl, hB, eB, hb⟩
        replace VA := Va.after hb VA
        replace hA := Nt.after hb hA
        replace h4 := Nt.after hb h4
        replace BX := step BX hb
        clear hb
        rw [e4] at eB
        clear h4 e4
        try go_wp2_with fail
        refine hK.out _ _ (LS.out _ BX) (fun hHeld => ?_)
        clear hK K
        refine wpAnyH_ready (rs := [9]) (by kernel_rfl) (by simp) ?_
        refine AllReadyH.cons rfl (fun K hK => ?_) AllReadyH.nil
        ·
         simp only [gA, gB, gC]
         go_simp
         have lt_VB_VA := VA.lt
         have sz_VB := BX.size
         refine ent1 _ _ _ (Q := fun V => K _ V) ?_
         intro x8 hb hs_ VB
         replace VA := Va.after hb VA
         replace hA := Nt.after hb hA
         replace hB := Nt.after hb hB
         replace BX := step BX hb
         clear hb hs_
         refine hK.out _ _ (LS.out _ BX) (fun hHeld => ?_)
         clear hK K
         have c_VA := VA.cell
         have f0_VA := VA.frozen 0
         have l_VA := VA.lt
         have m_VA := Nat.le_of_lt l_VA
         refine wpAnyH_ready (rs := [10]) (by kernel_rfl) (by simp) ?_
         refine AllReadyH.cons rfl (fun K hK => ?_) AllReadyH.nil
         simp only [gA, gB, gC]
         go_simp
         clear c_VA f0_VA l_VA m_VA
         refine sto1 VA (.slice aA lA kA) (Q := fun W => K _ W) ?_
         intro x9 V' oth far
         replace VB := oth _ _ _ (by first | omega | assumption | (simp; omega)) VB
         replace hA := hA.far VA (noInt1 _ _ _) far.1
         replace hB := hB.far VA (noInt1 _ _ _) far.1
         replace BX := far.2 _ _ (by first | omega | (simp; omega)) BX
         replace VA := V'
         clear oth far
         refine hK.out _ _ (LS.out _ BX) (fun hHeld => ?_)
         clear hK K
         have c_VB := VB.cell
         have f0_VB := VB.frozen 0
         have l_VB := VB.lt
         have m_VB := Nat.le_of_lt l_VB
         refine wpAnyH_ready (rs := [11]) (by kernel_rfl) (by simp) ?_
         refine AllReadyH.cons rfl (fun K hK => ?_) AllReadyH.nil
         simp only [gA, gB, gC]
         go_simp
         clear c_VB f0_VB l_VB m_VB
         refine sto1 VB (.slice aB lB kB) (Q := fun W => K _ W) ?_
         intro x10 V' oth far
         replace VA := oth _ _ _ (by first | omega | assumption | (simp; omega)) VA
         replace hA := hA.far VB (noInt1 _ _ _) far.1
         replace hB := hB.far VB (noInt1 _ _ _) far.1
         replace BX := far.2 _ _ (by first | omega | (simp; omega)) BX
         replace VB := V'
         clear oth far
         refine hK.out _ _ (LS.out _ BX) (fun hHeld => ?_)
         clear hK K
         refine wpAnyH_done (by kernel_rfl) ?_ _
         refine NoPanic.normal ?_
         clear hHeld
         go_wp2_with fail
         go_meet
         exact ⟨_, _, aA, lA, kA, zA, aB, lB, kB, zB, rfl, rfl, VA, VB, hA, hB, eA, eB, BX, ⟨by omega, by omega, by omega⟩⟩
       ·
        simp only [gA, gB, gC]
        go_simp
        have lt_VB_VA := VA.lt
        have sz_VB := BX.size
        refine ent1 _ _ _ (Q := fun V => K _ V) ?_
        intro x7 hb hs_ VB
        replace VA := Va.after hb VA
        replace hA := Nt.after hb hA
        replace h4 := Nt.after hb h4
        replace BX := step BX hb
        clear hb hs_
        refine hK.out _ _ (LS.out _ BX) (fun hHeld => ?_)
        clear hK K
        refine wpAnyH_ready (rs := [7]) (by kernel_rfl) (by simp) ?_
        refine AllReadyH.cons rfl (fun K hK => ?_) AllReadyH.nil
        ·
         simp only [gA, gB, gC]
         go_simp
         refine (rover_ok b4 ag m4 d4 lg kg y4 zg _ h4 (Nt.after BX L_hg.out) HG.out.1 (by rw [e4]; exact HG.out.2.2)).mono ?_
         rintro e x8 ⟨aB, lB, kB, zB, rfl, hB, eB, hb⟩
         replace VA := Va.after hb VA
         replace VB := Va.after hb VB
         replace hA := Nt.after hb hA
         replace h4 := Nt.after hb h4
         replace BX := step BX hb
         clear hb
         rw [e4] at eB
         clear h4 e4
         try go_wp2_with fail
         refine hK.out _ _ (LS.out _ BX) (fun hHeld => ?_)
         clear hK K
         have c_VA := VA.cell
         have f0_VA := VA.frozen 0
         have l_VA := VA.lt
         have m_VA := Nat.le_of_lt l_VA
         refine wpAnyH_ready (rs := [10]) (by kernel_rfl) (by simp) ?_
         refine AllReadyH.cons rfl (fun K hK => ?_) AllReadyH.nil
         simp only [gA, gB, gC]
         go_simp
         clear c_VA f0_VA l_VA m_VA
         refine sto1 VA (.slice aA lA kA) (Q := fun W => K _ W) ?_
         intro x9 V' oth far
         replace VB := oth _ _ _ (by first | omega | assumption | (simp; omega)) VB
         replace hA := hA.far VA (noInt1 _ _ _) far.1
         replace hB := hB.far VA (noInt1 _ _ _) far.1
         replace BX := far.2 _ _ (by first | omega | (simp; omega)) BX
         replace VA := V'
         clear oth far
         refine hK.out _ _ (LS.out _ BX) (fun hHeld => ?_)
         clear hK K
         have c_VB := VB.cell
         have f0_VB := VB.frozen 0
         have l_VB := VB.lt
         have m_VB := Nat.le_of_lt l_VB
         refine wpAnyH_ready (rs := [11]) (by kernel_rfl) (by simp) ?_
         refine AllReadyH.cons rfl (fun K hK => ?_) AllReadyH.nil
         simp only [gA, gB, gC]
         go_simp
         clear c_VB f0_VB l_VB m_VB
         refine sto1 VB (.slice aB lB kB) (Q := fun W => K _ W) ?_
         intro x10 V' oth far
         replace VA := oth _ _ _ (by first | omega | assumption | (simp; omega)) VA
         replace hA := hA.far VB (noInt1 _ _ _) far.1
         replace hB := hB.far VB (noInt1 _ _ _) far.1
         replace BX := far.2 _ _ (by first | omega | (simp; omega)) BX
         replace VB := V'
         clear oth far
         refine hK.out _ _ (LS.out _ BX) (fun hHeld => ?_)
         clear hK K
         refine wpAnyH_done (by kernel_rfl) ?_ _
         refine NoPanic.normal ?_
         clear hHeld
         go_wp2_with fail
         go_meet
         exact ⟨_, _, aA, lA, kA, zA, aB, lB, kB, zB, rfl, rfl, VA, VB, hA, hB, eA, eB, BX, ⟨by omega, by omega, by omega⟩⟩
      ·
       simp only [gA, gB, gC]
       go_simp
       have lt_VB_VA := VA.lt
       have sz_VB := BX.size
       refine ent1 _ _ _ (Q := fun V => K _ V) ?_
       intro x6 hb hs_ VB
       replace VA := Va.after hb VA
       replace hA := Nt.after hb hA
       replace BX := step BX hb
       clear hb hs_
       refine hK.out _ _ (LS.out _ BX) (fun hHeld => ?_)
       clear hK K
       refine wpAnyH_ready (rs := [5]) (by kernel_rfl) (by simp) ?_
       refine AllReadyH.cons rfl (fun K hK => ?_) AllReadyH.nil
       ·
        simp only [gA, gB, gC]
        go_simp
        refine (rden_any s2 a2 l2 c2 b2 m2 d2 y2 _ (Rt.after BX L_h2.out).2.1).mono ?_
        rintro e x7 ⟨b4, m4, d4, y4, rfl, h4, e4, hb⟩
        replace VA := Va.after hb VA
        replace VB := Va.after hb VB
        replace hA := Nt.after hb hA
        replace BX := step BX hb
        clear hb
        replace e4 := e4.trans L_h2.out.2.2.2.1
        try go_wp2_with fail
        refine hK.out _ _ (LS.out _ BX) (fun hHeld => ?_)
        clear hK K
        refine wpAnyH_ready (rs := [7]) (by kernel_rfl) (by simp) ?_
        refine AllReadyH.cons rfl (fun K hK => ?_) AllReadyH.nil
        ·
         simp only [gA, gB, gC]
         go_simp
         refine (rover_ok b4 ag m4 d4 lg kg y4 zg _ h4 (Nt.after BX L_hg.out) HG.out.1 (by rw [e4]; exact HG.out.2.2)).mono ?_
         rintro e x8 ⟨aB, lB, kB, zB, rfl, hB, eB, hb⟩
         replace VA := Va.after hb VA
         replace VB := Va.after hb VB
         replace hA := Nt.after hb hA
         replace h4 := Nt.after hb h4
         replace BX := step BX hb
         clear hb
         rw [e4] at eB
         clear h4 e4
         try go_wp2_with fail
         refine hK.out _ _ (LS.out _ BX) (fun hHeld => ?_)
         clear hK K
         have c_VA := VA.cell
         have f0_VA := VA.frozen 0
         have l_VA := VA.lt
         have m_VA := Nat.le_of_lt l_VA
         refine wpAnyH_ready (rs := [10]) (by kernel_rfl) (by simp) ?_
         refine AllReadyH.cons rfl (fun K hK => ?_) AllReadyH.nil
         simp only [gA, gB, gC]
         go_simp
         clear c_VA f0_VA l_VA m_VA
         refine sto1 VA (.slice aA lA kA) (Q := fun W => K _ W) ?_
         intro x9 V' oth far
         replace VB := oth _ _ _ (by first | omega | assumption | (simp; omega)) VB
         replace hA := hA.far VA (noInt1 _ _ _) far.1
         replace hB := hB.far VA (noInt1 _ _ _) far.1
         replace BX := far.2 _ _ (by first | omega | (simp; omega)) BX
         replace VA := V'
         clear oth far
         refine hK.out _ _ (LS.out _ BX) (fun hHeld => ?_)
         clear hK K
         have c_VB := VB.cell
         have f0_VB := VB.frozen 0
         have l_VB := VB.lt
         have m_VB := Nat.le_of_lt l_VB
         refine wpAnyH_ready (rs := [11]) (by kernel_rfl) (by simp) ?_
         refine AllReadyH.cons rfl (fun K hK => ?_) AllReadyH.nil
         simp only [gA, gB, gC]
         go_simp
         clear c_VB f0_VB l_VB m_VB
         refine sto1 VB (.slice aB lB kB) (Q := fun W => K _ W) ?_
         intro x10 V' oth far
         replace VA := oth _ _ _ (by first | omega | assumption | (simp; omega)) VA
         replace hA := hA.far VB (noInt1 _ _ _) far.1
         replace hB := hB.far VB (noInt1 _ _ _) far.1
         replace BX := far.2 _ _ (by first | omega | (simp; omega)) BX
         replace VB := V'
         clear oth far
         refine hK.out _ _ (LS.out _ BX) (fun hHeld => ?_)
         clear hK K
         refine wpAnyH_done (by kernel_rfl) ?_ _
         refine NoPanic.normal ?_
         clear hHeld
         go_wp2_with fail
         go_meet
         exact ⟨_, _, aA, lA, kA, zA, aB, lB, kB, zB, rfl, rfl, VA, VB, hA, hB, eA, eB, BX, ⟨by omega, by omega, by omega⟩⟩
     ·
      simp only [gA, gB, gC]
      go_simp
      have lt_VB_VA := VA.lt
      have sz_VB := BX.size
      refine ent1 _ _ _ (Q := fun V => K _ V) ?_
      intro x5 hb hs_ VB
      replace VA := Va.after hb VA
      replace h3 := Nt.after hb h3
      replace BX := step BX hb
      clear hb hs_
      refine hK.out _ _ (LS.out _ BX) (fun hHeld => ?_)
      clear hK K
      refine wpAnyH_ready (rs := [3]) (by kernel_rfl) (by simp) ?_
      refine AllReadyH.cons rfl (fun K hK => ?_) AllReadyH.nil
      ·
       simp only [gA, gB, gC]
       go_simp
       refine (rover_ok b3 ag m3 d3 lg kg y3 zg _ h3 (Nt.after BX L_hg.out) HG.out.1 (by rw [e3]; exact HG.out.2.1)).mono ?_
       rintro e x6 ⟨aA, lA, kA, zA, rfl, hA, eA, hb⟩
       replace VA := Va.after hb VA
       replace VB := Va.after hb VB
       replace h3 := Nt.after hb h3
       replace BX := step BX hb
       clear hb
       rw [e3] at eA
       clear h3 e3
       try go_wp2_with fail
       refine hK.out _ _ (LS.out _ BX) (fun hHeld => ?_)
       clear hK K
       refine wpAnyH_ready (rs := [5]) (by kernel_rfl) (by simp) ?_
       refine AllReadyH.cons rfl (fun K hK => ?_) AllReadyH.nil
       ·
        simp only [gA, gB, gC]
        go_simp
        refine (rden_any s2 a2 l2 c2 b2 m2 d2 y2 _ (Rt.after BX L_h2.out).2.1).mono ?_
        rintro e x7 ⟨b4, m4, d4, y4, rfl, h4, e4, hb⟩
        replace VA := Va.after hb VA
        replace VB := Va.after hb VB
        replace hA := Nt.after hb hA
        replace BX := step BX hb
        clear hb
        replace e4 := e4.trans L_h2.out.2.2.2.1
        try go_wp2_with fail
        refine hK.out _ _ (LS.out _ BX) (fun hHeld => ?_)
        clear hK K
        refine wpAnyH_ready (rs := [7]) (by kernel_rfl) (by simp) ?_
        refine AllReadyH.cons rfl (fun K hK => ?_) AllReadyH.nil
        ·
         simp only [gA, gB, gC]
         go_simp
         refine (rover_ok b4 ag m4 d4 lg kg y4 zg _ h4 (Nt.after BX L_hg.out) HG.out.1 (by rw [e4]; exact HG.out.2.2)).mono ?_
         rintro e x8 ⟨aB, lB, kB, zB, rfl, hB, eB, hb⟩
         replace VA := Va.after hb VA
         replace VB := Va.after hb VB
         replace hA := Nt.after hb hA
         replace h4 := Nt.after hb h4
         replace BX := step BX hb
         clear hb
         rw [e4] at eB
         clear h4 e4
         try go_wp2_with fail
         refine hK.out _ _ (LS.out _ BX) (fun hHeld => ?_)
         clear hK K
         have c_VA := VA.cell
         have f0_VA := VA.frozen 0
         have l_VA := VA.lt
         have m_VA := Nat.le_of_lt l_VA
         refine wpAnyH_ready (rs := [10]) (by kernel_rfl) (by simp) ?_
         refine AllReadyH.cons rfl (fun K hK => ?_) AllReadyH.nil
         simp only [gA, gB, gC]
         go_simp
         clear c_VA f0_VA l_VA m_VA
         refine sto1 VA (.slice aA lA kA) (Q := fun W => K _ W) ?_
         intro x9 V' oth far
         replace VB := oth _ _ _ (by first | omega | assumption | (simp; omega)) VB
         replace hA := hA.far VA (noInt1 _ _ _) far.1
         replace hB := hB.far VA (noInt1 _ _ _) far.1
         replace BX := far.2 _ _ (by first | omega | (simp; omega)) BX
         replace VA := V'
         clear oth far
         refine hK.out _ _ (LS.out _ BX) (fun hHeld => ?_)
         clear hK K
         have c_VB := VB.cell
         have f0_VB := VB.frozen 0
         have l_VB := VB.lt
         have m_VB := Nat.le_of_lt l_VB
         refine wpAnyH_ready (rs := [11]) (by kernel_rfl) (by simp) ?_
         refine AllReadyH.cons rfl (fun K hK => ?_) AllReadyH.nil
         simp only [gA, gB, gC]
         go_simp
         clear c_VB f0_VB l_VB m_VB
         refine sto1 VB (.slice aB lB kB) (Q := fun W => K _ W) ?_
         intro x10 V' oth far
         replace VA := oth _ _ _ (by first | omega | assumption | (simp; omega)) VA
         replace hA := hA.far VB (noInt1 _ _ _) far.1
         replace hB := hB.far VB (noInt1 _ _ _) far.1
         replace BX := far.2 _ _ (by first | omega | (simp; omega)) BX
         replace VB := V'
         clear oth far
         refine hK.out _ _ (LS.out _ BX) (fun hHeld => ?_)
         clear hK K
         refine wpAnyH_done (by kernel_rfl) ?_ _
         refine NoPanic.normal ?_
         clear hHeld
         go_wp2_with fail
         go_meet
         exact ⟨_, _, aA, lA, kA, zA, aB, lB, kB, zB, rfl, rfl, VA, VB, hA, hB, eA, eB, BX, ⟨by omega, by omega, by omega⟩⟩
    ·
     simp only [gA, gB, gC]
     go_simp
     have sz_VB := BX.size
     refine ent1 _ _ _ (Q := fun V => K _ V) ?_
     intro x4 hb hs_ VB
     replace h3 := Nt.after hb h3
     replace BX := step BX hb
     clear hb hs_
     refine hK.out _ _ (LS.out _ BX) (fun hHeld => ?_)
     clear hK K
     refine wpAnyH_ready (rs := [3, 8]) (by kernel_rfl) (by simp) ?_
     refine AllReadyH.cons rfl (fun K hK => ?_) (AllReadyH.cons rfl (fun K hK => ?_) AllReadyH.nil)
     ·
      simp only [gA, gB, gC]
      go_simp
      refine (rover_ok b3 ag m3 d3 lg kg y3 zg _ h3 (Nt.after BX L_hg.out) HG.out.1 (by rw [e3]; exact HG.out.2.1)).mono ?_
      rintro e x5 ⟨aA, lA, kA, zA, rfl, hA, eA, hb⟩
      replace VB := Va.after hb VB
      replace h3 := Nt.after hb h3
      replace BX := step BX hb
      clear hb
      rw [e3] at eA
      clear h3 e3
      try go_wp2_with fail
      refine hK.out _ _ (LS.out _ BX) (fun hHeld => ?_)
      clear hK K
      refine wpAnyH_ready (rs := [5, 8]) (by kernel_rfl) (by simp) ?_
      refine AllReadyH.cons rfl (fun K hK => ?_) (AllReadyH.cons rfl (fun K hK => ?_) AllReadyH.nil)
      ·
       simp only [gA, gB, gC]
       go_simp
       refine (rden_any s2 a2 l2 c2 b2 m2 d2 y2 _ (Rt.after BX L_h2.out).2.1).mono ?_
       rintro e x6 ⟨b4, m4, d4, y4, rfl, h4, e4, hb⟩
       replace VB := Va.after hb VB
       replace hA := Nt.after hb hA
       replace BX := step BX hb
       clear hb
       replace e4 := e4.trans L_h2.out.2.2.2.1
       try go_wp2_with fail
       refine hK.out _ _ (LS.out _ BX) (fun hHeld => ?_)
       clear hK K
       refine wpAnyH_ready (rs := [7, 8]) (by kernel_rfl) (by simp) ?_
       refine AllReadyH.cons rfl (fun K hK => ?_) (AllReadyH.cons rfl (fun K hK => ?_) AllReadyH.nil)
       ·
        simp only [gA, gB, gC]
        go_simp
        refine (rover_ok b4 ag m4 d4 lg kg y4 zg _ h4 (Nt.after BX L_hg.out) HG.out.1 (by rw [e4]; exact HG.out.2.2)).mono ?_
        rintro e x7 ⟨aB, lB, kB, zB, rfl, hB, eB, hb⟩
        replace VB := Va.after hb VB
        replace hA := Nt.after hb hA
        replace h4 := Nt.after hb h4
        replace BX := step BX hb
        clear hb
        rw [e4] at eB
        clear h4 e4
        try go_wp2_with fail
        refine hK.out _ _ (LS.out _ BX) (fun hHeld => ?_)
        clear hK K
        refine wpAnyH_ready (rs := [8]) (by kernel_rfl) (by simp) ?_
        refine AllReadyH.cons rfl (fun K hK => ?_) AllReadyH.nil
        ·
         simp only [gA, gB, gC]
         go_simp
         have lt_VA_VB := VB.lt
         have sz_VA := BX.size
         refine ent1 _ _ _ (Q := fun V => K _ V) ?_
         intro x8 hb hs_ VA
         replace VB := Va.after hb VB
         replace hA := Nt.after hb hA
         replace hB := Nt.after hb hB
         replace BX := step BX hb
         clear hb hs_
         refine hK.out _ _ (LS.out _ BX) (fun hHeld => ?_)
         clear hK K
         have c_VA := VA.cell
         have f0_VA := VA.frozen 0
         have l_VA := VA.lt
         have m_VA := Nat.le_of_lt l_VA
         refine wpAnyH_ready (rs := [10]) (by kernel_rfl) (by simp) ?_
         refine AllReadyH.cons rfl (fun K hK => ?_) AllReadyH.nil
         simp only [gA, gB, gC]
         go_simp
         clear c_VA f0_VA l_VA m_VA
         refine sto1 VA (.slice aA lA kA) (Q := fun W => K _ W) ?_
         intro x9 V' oth far
         replace VB := oth _ _ _ (by first | omega | assumption | (simp; omega)) VB
         replace hA := hA.far VA (noInt1 _ _ _) far.1
         replace hB := hB.far VA (noInt1 _ _ _) far.1
         replace BX := far.2 _ _ (by first | omega | (simp; omega)) BX
         replace VA := V'
         clear oth far
         refine hK.out _ _ (LS.out _ BX) (fun hHeld => ?_)
         clear hK K
         have c_VB := VB.cell
         have f0_VB := VB.frozen 0
         have l_VB := VB.lt
         have m_VB := Nat.le_of_lt l_VB
         refine wpAnyH_ready (rs := [11]) (by kernel_rfl) (by simp) ?_
         refine AllReadyH.cons rfl (fun K hK => ?_) AllReadyH.nil
         simp only [gA, gB, gC]
         go_simp
         clear c_VB f0_VB l_VB m_VB
         refine sto1 VB (.slice aB lB kB) (Q := fun W => K _ W) ?_
         intro x10 V' oth far
         replace VA := oth _ _ _ (by first | omega | assumption | (simp; omega)) VA
         replace hA := hA.far VB (noInt1 _ _ _) far.1
         replace hB := hB.far VB (noInt1 _ _ _) far.1
         replace BX := far.2 _ _ (by first | omega | (simp; omega)) BX
         replace VB := V'
         clear oth far
         refine hK.out _ _ (LS.out _ BX) (fun hHeld => ?_)
         clear hK K
         refine wpAnyH_done (by kernel_rfl) ?_ _
         refine NoPanic.normal ?_
         clear hHeld
         go_wp2_with fail
         go_meet
         exact ⟨_, _, aA, lA, kA, zA, aB, lB, kB, zB, rfl, rfl, VA, VB, hA, hB, eA, eB, BX, ⟨by omega, by omega, by omega⟩⟩
       ·
        simp only [gA, gB, gC]
        go_simp
        have lt_VA_VB := VB.lt
        have sz_VA := BX.size
        refine ent1 _ _ _ (Q := fun V => K _ V) ?_
        intro x7 hb hs_ VA
        replace VB := Va.after hb VB
        replace hA := Nt.after hb hA
        replace h4 := Nt.after hb h4
        replace BX := step BX hb
        clear hb hs_
        refine hK.out _ _ (LS.out _ BX) (fun hHeld => ?_)
        clear hK K
        refine wpAnyH_ready (rs := [7]) (by kernel_rfl) (by simp) ?_
        refine AllReadyH.cons rfl (fun K hK => ?_) AllReadyH.nil
        ·
         simp only [gA, gB, gC]
         go_simp
         refine (rover_ok b4 ag m4 d4 lg kg y4 zg _ h4 (Nt.after BX L_hg.out) HG.out.1 (by rw [e4]; exact HG.out.2.2)).mono ?_
         rintro e x8 ⟨aB, lB, kB, zB, rfl, hB, eB, hb⟩
         replace VB := Va.after hb VB
         replace VA := Va.after hb VA
         replace hA := Nt.after hb hA
         replace h4 := Nt.after hb h4
         replace BX := step BX hb
         clear hb
         rw [e4] at eB
         clear h4 e4
         try go_wp2_with fail
         refine hK.out _ _ (LS.out _ BX) (fun hHeld => ?_)
         clear hK K
         have c_VA := VA.cell
         have f0_VA := VA.frozen 0
         have l_VA := VA.lt
         have m_VA := Nat.le_of_lt l_VA
         refine wpAnyH_ready (rs := [10]) (by kernel_rfl) (by simp) ?_
         refine AllReadyH.cons rfl (fun K hK => ?_) AllReadyH.nil
         simp only [gA, gB, gC]
         go_simp
         clear c_VA f0_VA l_VA m_VA
         refine sto1 VA (.slice aA lA kA) (Q := fun W => K _ W) ?_
         intro x9 V' oth far
         replace VB := oth _ _ _ (by first | omega | assumption | (simp; omega)) VB
         replace hA := hA.far VA (noInt1 _ _ _) far.1
         replace hB := hB.far VA (noInt1 _ _ _) far.1
         replace BX := far.2 _ _ (by first | omega | (simp; omega)) BX
         replace VA := V'
         clear oth far
         refine hK.out _ _ (LS.out _ BX) (fun hHeld => ?_)
         clear hK K
         have c_VB := VB.cell
         have f0_VB := VB.frozen 0
         have l_VB := VB.lt
         have m_VB := Nat.le_of_lt l_VB
         refine wpAnyH_ready (rs := [11]) (by kernel_rfl) (by simp) ?_
         refine AllReadyH.cons rfl (fun K hK => ?_) AllReadyH.nil
         simp only [gA, gB, gC]
         go_simp
         clear c_VB f0_VB l_VB m_VB
         refine sto1 VB (.slice aB lB kB) (Q := fun W => K _ W) ?_
         intro x10 V' oth far
         replace VA := oth _ _ _ (by first | omega | assumption | (simp; omega)) VA
         replace hA := hA.far VB (noInt1 _ _ _) far.1
         replace hB := hB.far VB (noInt1 _ _ _) far.1
         replace BX := far.2 _ _ (by first | omega | (simp; omega)) BX
         replace VB := V'
         clear oth far
         refine hK.out _ _ (LS.out _ BX) (fun hHeld => ?_)
         clear hK K
         refine wpAnyH_done (by kernel_rfl) ?_ _
         refine NoPanic.normal ?_
         clear hHeld
         go_wp2_with fail
         go_meet
         exact ⟨_, _, aA, lA, kA, zA, aB, lB, kB, zB, rfl, rfl, VA, VB, hA, hB, eA, eB, BX, ⟨by omega, by omega, by omega⟩⟩
      ·
       simp only [gA, gB, gC]
       go_simp
       have lt_VA_VB := VB.lt
       have sz_VA := BX.size
       refine ent1 _ _ _ (Q := fun V => K _ V) ?_
       intro x6 hb hs_ VA
       replace VB := Va.after hb VB
       replace hA := Nt.after hb hA
       replace BX := step BX hb
       clear hb hs_
       refine hK.out _ _ (LS.out _ BX) (fun hHeld => ?_)
       clear hK K
       refine wpAnyH_ready (rs := [5]) (by kernel_rfl) (by simp) ?_
       refine AllReadyH.cons rfl (fun K hK => ?_) AllReadyH.nil
       ·
        simp only [gA, gB, gC]
        go_simp
        refine (rden_any s2 a2 l2 c2 b2 m2 d2 y2 _ (Rt.after BX L_h2.out).2.1).mono ?_
        rintro e x7 ⟨b4, m4, d4, y4, rfl, h4, e4, hb⟩
        replace VB := Va.after hb VB
        replace VA := Va.after hb VA
        replace hA := Nt.after hb hA
        replace BX := step BX hb
        clear hb
        replace e4 := e4.trans L_h2.out.2.2.2.1
        try go_wp2_with fail
        refine hK.out _ _ (LS.out _ BX) (fun hHeld => ?_)
        clear hK K
        refine wpAnyH_ready (rs := [7]) (by kernel_rfl) (by simp) ?_
        refine AllReadyH.cons rfl (fun K hK => ?_) AllReadyH.nil
        ·
         simp only [gA, gB, gC]
         go_simp
         refine (rover_ok b4 ag m4 d4 lg kg y4 zg _ h4 (Nt.after BX L_hg.out) HG.out.1 (by rw [e4]; exact HG.out.2.2)).mono ?_
         rintro e x8 ⟨aB, lB, kB, zB, rfl, hB, eB, hb⟩
         replace VB := Va.after hb VB
         replace VA := Va.after hb VA
         replace hA := Nt.after hb hA
         replace h4 := Nt.after hb h4
         replace BX := step BX hb
         clear hb
         rw [e4] at eB
         clear h4 e4
         try go_wp2_with fail
         refine hK.out _ _ (LS.out _ BX) (fun hHeld => ?_)
         clear hK K
         have c_VA := VA.cell
         have f0_VA := VA.frozen 0
         have l_VA := VA.lt
         have m_VA := Nat.le_of_lt l_VA
         refine wpAnyH_ready (rs := [10]) (by kernel_rfl) (by simp) ?_
         refine AllReadyH.cons rfl (fun K hK => ?_) AllReadyH.nil
         simp only [gA, gB, gC]
         go_simp
         clear c_VA f0_VA l_VA m_VA
         refine sto1 VA (.slice aA lA kA) (Q := fun W => K _ W) ?_
         intro x9 V' oth far
         replace VB := oth _ _ _ (by first | omega | assumption | (simp; omega)) VB
         replace hA := hA.far VA (noInt1 _ _ _) far.1
         replace hB := hB.far VA (noInt1 _ _ _) far.1
         replace BX := far.2 _ _ (by first | omega | (simp; omega)) BX
         replace VA := V'
         clear oth far
         refine hK.out _ _ (LS.out _ BX) (fun hHeld => ?_)
         clear hK K
         have c_VB := VB.cell
         have f0_VB := VB.frozen 0
         have l_VB := VB.lt
         have m_VB := Nat.le_of_lt l_VB
         refine wpAnyH_ready (rs := [11]) (by kernel_rfl) (by simp) ?_
         refine AllReadyH.cons rfl (fun K hK => ?_) AllReadyH.nil
         simp only [gA, gB, gC]
         go_simp
         clear c_VB f0_VB l_VB m_VB
         refine sto1 VB (.slice aB lB kB) (Q := fun W => K _ W) ?_
         intro x10 V' oth far
         replace VA := oth _ _ _ (by first | omega | assumption | (simp; omega)) VA
         replace hA := hA.far VB (noInt1 _ _ _) far.1
         replace hB := hB.far VB (noInt1 _ _ _) far.1
         replace BX := far.2 _ _ (by first | omega | (simp; omega)) BX
         replace VB := V'
         clear oth far
         refine hK.out _ _ (LS.out _ BX) (fun hHeld => ?_)
         clear hK K
         refine wpAnyH_done (by kernel_rfl) ?_ _
         refine NoPanic.normal ?_
         clear hHeld
         go_wp2_with fail
         go_meet
         exact ⟨_, _, aA, lA, kA, zA, aB, lB, kB, zB, rfl, rfl, VA, VB, hA, hB, eA, eB, BX, ⟨by omega, by omega, by omega⟩⟩
     ·
      simp only [gA, gB, gC]
      go_simp
      have lt_VA_VB := VB.lt
      have sz_VA := BX.size
      refine ent1 _ _ _ (Q := fun V => K _ V) ?_
      intro x5 hb hs_ VA
      replace VB := Va.after hb VB
      replace h3 := Nt.after hb h3
      replace BX := step BX hb
      clear hb hs_
      refine hK.out _ _ (LS.out _ BX) (fun hHeld => ?_)
      clear hK K
      refine wpAnyH_ready (rs := [3]) (by kernel_rfl) (by simp) ?_
      refine AllReadyH.cons rfl (fun K hK => ?_) AllReadyH.nil
      ·
       simp only [gA, gB, gC]
       go_simp
       refine (rover_ok b3 ag m3 d3 lg kg y3 zg _ h3 (Nt.after BX L_hg.out) HG.out.1 (by rw [e3]; exact HG.out.2.1)).mono ?_
       rintro e x6 ⟨aA, lA, kA, zA, rfl, hA, eA, hb⟩
       replace VB := Va.after hb VB
       replace VA := Va.after hb VA
       replace h3 := Nt.after hb h3
       replace BX := step BX hb
       clear hb
       rw [e3] at eA
       clear h3 e3
       try go_wp2_with fail
       refine hK.out _ _ (LS.out _ BX) (fun hHeld => ?_)
       clear hK K
       refine wpAnyH_ready (rs := [5]) (by kernel_rfl) (by simp) ?_
       refine AllReadyH.cons rfl (fun K hK => ?_) AllReadyH.nil
       ·
        simp only [gA, gB, gC]
        go_simp
        refine (rden_any s2 a2 l2 c2 b2 m2 d2 y2 _ (Rt.after BX L_h2.out).2.1).mono ?_
        rintro e x7 ⟨b4, m4, d4, y4, rfl, h4, e4, hb⟩
        replace VB := Va.after hb VB
        replace VA := Va.after hb VA
        replace hA := Nt.after hb hA
        replace BX := step BX hb
        clear hb
        replace e4 := e4.trans L_h2.out.2.2.2.1
        try go_wp2_with fail
        refine hK.out _ _ (LS.out _ BX) (fun hHeld => ?_)
        clear hK K
        refine wpAnyH_ready (rs := [7]) (by kernel_rfl) (by simp) ?_
        refine AllReadyH.cons rfl (fun K hK => ?_) AllReadyH.nil
        ·
         simp only [gA, gB, gC]
         go_simp
         refine (rover_ok b4 ag m4 d4 lg kg y4 zg _ h4 (Nt.after BX L_hg.out) HG.out.1 (by rw [e4]; exact HG.out.2.2)).mono ?_
         rintro e x8 ⟨aB, lB, kB, zB, rfl, hB, eB, hb⟩
         replace VB := Va.after hb VB
         replace VA := Va.after hb VA
         replace hA := Nt.after hb hA
         replace h4 := Nt.after hb h4
         replace BX := step BX hb
         clear hb
         rw [e4] at eB
         clear h4 e4
         try go_wp2_with fail
         refine hK.out _ _ (LS.out _ BX) (fun hHeld => ?_)
         clear hK K
         have c_VA := VA.cell
         have f0_VA := VA.frozen 0
         have l_VA := VA.lt
         have m_VA := Nat.le_of_lt l_VA
         refine wpAnyH_ready (rs := [10]) (by kernel_rfl) (by simp) ?_
         refine AllReadyH.cons rfl (fun K hK => ?_) AllReadyH.nil
         simp only [gA, gB, gC]
         go_simp
         clear c_VA f0_VA l_VA m_VA
         refine sto1 VA (.slice aA lA kA) (Q := fun W => K _ W) ?_
         intro x9 V' oth far
         replace VB := oth _ _ _ (by first | omega | assumption | (simp; omega)) VB
         replace hA := hA.far VA (noInt1 _ _ _) far.1
         replace hB := hB.far VA (noInt1 _ _ _) far.1
         replace BX := far.2 _ _ (by first | omega | (simp; omega)) BX
         replace VA := V'
         clear oth far
         refine hK.out _ _ (LS.out _ BX) (fun hHeld => ?_)
         clear hK K
         have c_VB := VB.cell
         have f0_VB := VB.frozen 0
         have l_VB := VB.lt
         have m_VB := Nat.le_of_lt l_VB
         refine wpAnyH_ready (rs := [11]) (by kernel_rfl) (by simp) ?_
         refine AllReadyH.cons rfl (fun K hK => ?_) AllReadyH.nil
         simp only [gA, gB, gC]
         go_simp
         clear c_VB f0_VB l_VB m_VB
         refine sto1 VB (.slice aB lB kB) (Q := fun W => K _ W) ?_
         intro x10 V' oth far
         replace VA := oth _ _ _ (by first | omega | assumption | (simp; omega)) VA
         replace hA := hA.far VB (noInt1 _ _ _) far.1
         replace hB := hB.far VB (noInt1 _ _ _) far.1
         replace BX := far.2 _ _ (by first | omega | (simp; omega)) BX
         replace VB := V'
         clear oth far
         refine hK.out _ _ (LS.out _ BX) (fun hHeld => ?_)
         clear hK K
         refine wpAnyH_done (by kernel_rfl) ?_ _
         refine NoPanic.normal ?_
         clear hHeld
         go_wp2_with fail
         go_meet
         exact ⟨_, _, aA, lA, kA, zA, aB, lB, kB, zB, rfl, rfl, VA, VB, hA, hB, eA, eB, BX, ⟨by omega, by omega, by omega⟩⟩
   ·
    simp only [gA, gB, gC]
    go_simp
    have sz_VA := BX.size
    refine ent1 _ _ _ (Q := fun V => K _ V) ?_
    intro x3 hb hs_ VA
    replace BX := step BX hb
    clear hb hs_
    refine hK.out _ _ (LS.out _ BX) (fun hHeld => ?_)
    clear hK K
    refine wpAnyH_ready (rs := [1, 9]) (by kernel_rfl) (by simp) ?_
    refine AllReadyH.cons rfl (fun K hK => ?_) (AllReadyH.cons rfl (fun K hK => ?_) AllReadyH.nil)
    ·
     simp only [gA, gB, gC]
     go_simp
     refine (rden_any s1 a1 l1 c1 b1 m1 d1 y1 _ (Rt.after BX L_h1.out).2.1).mono ?_
     rintro e x4 ⟨b3, m3, d3, y3, rfl, h3, e3, hb⟩
     replace VA := Va.after hb VA
     replace BX := step BX hb
     clear hb
     replace e3 := e3.trans L_h1.out.2.2.2.1
     try go_wp2_with fail
     refine hK.out _ _ (LS.out _ BX) (fun hHeld => ?_)
     clear hK K
     refine wpAnyH_ready (rs := [3, 9]) (by kernel_rfl) (by simp) ?_
     refine AllReadyH.cons rfl (fun K hK => ?_) (AllReadyH.cons rfl (fun K hK => ?_) AllReadyH.nil)
     ·
      simp only [gA, gB, gC]
      go_simp
      refine (rover_ok b3 ag m3 d3 lg kg y3 zg _ h3 (Nt.after BX L_hg.out) HG.out.1 (by rw [e3]; exact HG.out.2.1)).mono ?_
      rintro e x5 ⟨aA, lA, kA, zA, rfl, hA, eA, hb⟩
      replace VA := Va.after hb VA
      replace h3 := Nt.after hb h3
      replace BX := step BX hb
      clear hb
      rw [e3] at eA
      clear h3 e3
      try go_wp2_with fail
      refine hK.out _ _ (LS.out _ BX) (fun hHeld => ?_)
      clear hK K
      refine wpAnyH_ready (rs := [5, 9]) (by kernel_rfl) (by simp) ?_
      refine AllReadyH.cons rfl (fun K hK => ?_) (AllReadyH.cons rfl (fun K hK => ?_) AllReadyH.nil)
      ·
       simp only [gA, gB, gC]
       go_simp
       refine (rden_any s2 a2 l2 c2 b2 m2 d2 y2 _ (Rt.after BX L_h2.out).2.1).mono ?_
       rintro e x6 ⟨b4, m4, d4, y4, rfl, h4, e4, hb⟩
       replace VA := Va.after hb VA
       replace hA := Nt.after hb hA
       replace BX := step BX hb
       clear hb
       replace e4 := e4.trans L_h2.out.2.2.2.1
       try go_wp2_with fail
       refine hK.out _ _ (LS.out _ BX) (fun hHeld => ?_)
       clear hK K
       refine wpAnyH_ready (rs := [7, 9]) (by kernel_rfl) (by simp) ?_
       refine AllReadyH.cons rfl (fun K hK => ?_) (AllReadyH.cons rfl (fun K hK => ?_) AllReadyH.nil)
       ·
        simp only [gA, gB, gC]
        go_simp
        refine (rover_ok b4 ag m4 d4 lg kg y4 zg _ h4 (Nt.after BX L_hg.out) HG.out.1 (by rw [e4]; exact HG.out.2.2)).mono ?_
        rintro e x7 ⟨aB, lB, kB, zB, rfl, hB, eB, hb⟩
        replace VA := Va.after hb VA
        replace hA := Nt.after hb hA
        replace h4 := Nt.after hb h4
        replace BX := step BX hb
        clear hb
        rw [e4] at eB
        clear h4 e4
        try go_wp2_with fail
        refine hK.out _ _ (LS.out _ BX) (fun hHeld => ?_)
        clear hK K
        refine wpAnyH_ready (rs := [9]) (by kernel_rfl) (by simp) ?_
        refine AllReadyH.cons rfl (fun K hK => ?_) AllReadyH.nil
        ·
         simp only [gA, gB, gC]
         go_simp
         have lt_VB_VA := VA.lt
         have sz_VB := BX.size
         refine ent1 _ _ _ (Q := fun V => K _ V) ?_
         intro x8 hb hs_ VB
         replace VA := Va.after hb VA
         replace hA := Nt.after hb hA
         replace hB := Nt.after hb hB
         replace BX := step BX hb
         clear hb hs_
         refine hK.out _ _ (LS.out _ BX) (fun hHeld => ?_)
         clear hK K
         have c_VA := VA.cell
         have f0_VA := VA.frozen 0
         have l_VA := VA.lt
         have m_VA := Nat.le_of_lt l_VA
         refine wpAnyH_ready (rs := [10]) (by kernel_rfl) (by simp) ?_
         refine AllReadyH.cons rfl (fun K hK => ?_) AllReadyH.nil
         simp only [gA, gB, gC]
         go_simp
         clear c_VA f0_VA l_VA m_VA
         refine sto1 VA (.slice aA lA kA) (Q := fun W => K _ W) ?_
         intro x9 V' oth far
         replace VB := oth _ _ _ (by first | omega | assumption | (simp; omega)) VB
         replace hA := hA.far VA (noInt1 _ _ _) far.1
         replace hB := hB.far VA (noInt1 _ _ _) far.1
         replace BX := far.2 _ _ (by first | omega | (simp; omega)) BX
         replace VA := V'
         clear oth far
         refine hK.out _ _ (LS.out _ BX) (fun hHeld => ?_)
         clear hK K
         have c_VB := VB.cell
         have f0_VB := VB.frozen 0
         have l_VB := VB.lt
         have m_VB := Nat.le_of_lt l_VB
         refine wpAnyH_ready (rs := [11]) (by kernel_rfl) (by simp) ?_
         refine AllReadyH.cons rfl (fun K hK => ?_) AllReadyH.nil
         simp only [gA, gB, gC]
         go_simp
         clear c_VB f0_VB l_VB m_VB
         refine sto1 VB (.slice aB lB kB) (Q := fun W => K _ W) ?_
         intro x10 V' oth far
         replace VA := oth _ _ _ (by first | omega | assumption | (simp; omega)) VA
         replace hA := hA.far VB (noInt1 _ _ _) far.1
         replace hB := hB.far VB (noInt1 _ _ _) far.1
         replace BX := far.2 _ _ (by first | omega | (simp; omega)) BX
         replace VB := V'
         clear oth far
         refine hK.out _ _ (LS.out _ BX) (fun hHeld => ?_)
         clear hK K
         refine wpAnyH_done (by kernel_rfl) ?_ _
         refine NoPanic.normal ?_
         clear hHeld
         go_wp2_with fail
         go_meet
         exact ⟨_, _, aA, lA, kA, zA, aB, lB, kB, zB, rfl, rfl, VA, VB, hA, hB, eA, eB, BX, ⟨by omega, by omega, by omega⟩⟩
       ·
        simp only [gA, gB, gC]
        go_simp
        have lt_VB_VA := VA.lt
        have sz_VB := BX.size
        refine ent1 _ _ _ (Q := fun V => K _ V) ?_
        intro x7 hb hs_ VB
        replace VA := Va.after hb VA
        replace hA := Nt.after hb hA
        replace h4 := Nt.after hb h4
        replace BX := step BX hb
        clear hb hs_
        refine hK.out _ _ (LS.out _ BX) (fun hHeld => ?_)
        clear hK K
        refine wpAnyH_ready (rs := [7]) (by kernel_rfl) (by simp) ?_
        refine AllReadyH.cons rfl (fun K hK => ?_) AllReadyH.nil
        ·
         simp only [gA, gB, gC]
         go_simp
         refine (rover_ok b4 ag m4 d4 lg kg y4 zg _ h4 (Nt.after BX L_hg.out) HG.out.1 (by rw [e4]; exact HG.out.2.2)).mono ?_
         rintro e x8 ⟨aB, lB, kB, zB, rfl, hB, eB, hb⟩
         replace VA := Va.after hb VA
         replace VB := Va.after hb VB
         replace hA := Nt.after hb hA
         replace h4 := Nt.after hb h4
         replace BX := step BX hb
         clear hb
         rw [e4] at eB
         clear h4 e4
         try go_wp2_with fail
         refine hK.out _ _ (LS.out _ BX) (fun hHeld => ?_)
         clear hK K
         have c_VA := VA.cell
         have f0_VA := VA.frozen 0
         have l_VA := VA.lt
         have m_VA := Nat.le_of_lt l_VA
         refine wpAnyH_ready (rs := [10]) (by kernel_rfl) (by simp) ?_
         refine AllReadyH.cons rfl (fun K hK => ?_) AllReadyH.nil
         simp only [gA, gB, gC]
         go_simp
         clear c_VA f0_VA l_VA m_VA
         refine sto1 VA (.slice aA lA kA) (Q := fun W => K _ W) ?_
         intro x9 V' oth far
         replace VB := oth _ _ _ (by first | omega | assumption | (simp; omega)) VB
         replace hA := hA.far VA (noInt1 _ _ _) far.1
         replace hB := hB.far VA (noInt1 _ _ _) far.1
         replace BX := far.2 _ _ (by first | omega | (simp; omega)) BX
         replace VA := V'
         clear oth far
         refine hK.out _ _ (LS.out _ BX) (fun hHeld => ?_)
         clear hK K
         have c_VB := VB.cell
         have f0_VB := VB.frozen 0
         have l_VB := VB.lt
         have m_VB := Nat.le_of_lt l_VB
         refine wpAnyH_ready (rs := [11]) (by kernel_rfl) (by simp) ?_
         refine AllReadyH.cons rfl (fun K hK => ?_) AllReadyH.nil
         simp only [gA, gB, gC]
         go_simp
         clear c_VB f0_VB l_VB m_VB
         refine sto1 VB (.slice aB lB kB) (Q := fun W => K _ W) ?_
         intro x10 V' oth far
         replace VA := oth _ _ _ (by first | omega | assumption | (simp; omega)) VA
         replace hA := hA.far VB (noInt1 _ _ _) far.1
         replace hB := hB.far VB (noInt1 _ _ _) far.1
         replace BX := far.2 _ _ (by first | omega | (simp; omega)) BX
         replace VB := V'
         clear oth far
         refine hK.out _ _ (LS.out _ BX) (fun hHeld => ?_)
         clear hK K
         refine wpAnyH_done (by kernel_rfl) ?_ _
         refine NoPanic.normal ?_
         clear hHeld
         go_wp2_with fail
         go_meet
         exact ⟨_, _, aA, lA, kA, zA, aB, lB, kB, zB, rfl, rfl, VA, VB, hA, hB, eA, eB, BX, ⟨by omega, by omega, by omega⟩⟩
      ·
       simp only [gA, gB, gC]
       go_simp
       have lt_VB_VA := VA.lt
       have sz_VB := BX.size
       refine ent1 _ _ _ (Q := fun V => K _ V) ?_
       intro x6 hb hs_ VB
       replace VA := Va.after hb VA
       replace hA := Nt.after hb hA
       replace BX := step BX hb
       clear hb hs_
       refine hK.out _ _ (LS.out _ BX) (fun hHeld => ?_)
       clear hK K
       refine wpAnyH_ready (rs := [5]) (by kernel_rfl) (by simp) ?_
       refine AllReadyH.cons rfl (fun K hK => ?_) AllReadyH.nil
       ·
        simp only [gA, gB, gC]
        go_simp
        refine (rden_any s2 a2 l2 c2 b2 m2 d2 y2 _ (Rt.after BX L_h2.out).2.1).mono ?_
        rintro e x7 ⟨b4, m4, d4, y4, rfl, h4, e4, hb⟩
        replace VA := Va.after hb VA
        replace VB := Va.after hb VB
        replace hA := Nt.after hb hA
        replace BX := step BX hb
        clear hb
        replace e4 := e4.trans L_h2.out.2.2.2.1
        try go_wp2_with fail
        refine hK.out _ _ (LS.out _ BX) (fun hHeld => ?_)
        clear hK K
        refine wpAnyH_ready (rs := [7]) (by kernel_rfl) (by simp) ?_
        refine AllReadyH.cons rfl (fun K hK => ?_) AllReadyH.nil
        ·
         simp only [gA, gB, gC]
         go_simp
         refine (rover_ok b4 ag m4 d4 lg kg y4 zg _ h4 (Nt.after BX L_hg.out) HG.out.1 (by rw [e4]; exact HG.out.2.2)).mono ?_
         rintro e x8 ⟨aB, lB, kB, zB, rfl, hB, eB, hb⟩
         replace VA := Va.after hb VA
         replace VB := Va.after hb VB
         replace hA := Nt.after hb hA
         replace h4 := Nt.after hb h4
         replace BX := step BX hb
         clear hb
         rw [e4] at eB
         clear h4 e4
         try go_wp2_with fail
         refine hK.out _ _ (LS.out _ BX) (fun hHeld => ?_)
         clear hK K
         have c_VA := VA.cell
         have f0_VA := VA.frozen 0
         have l_VA := VA.lt
         have m_VA := Nat.le_of_lt l_VA
         refine wpAnyH_ready (rs := [10]) (by kernel_rfl) (by simp) ?_
         refine AllReadyH.cons rfl (fun K hK => ?_) AllReadyH.nil
         simp only [gA, gB, gC]
         go_simp
         clear c_VA f0_VA l_VA m_VA
         refine sto1 VA (.slice aA lA kA) (Q := fun W => K _ W) ?_
         intro x9 V' oth far
         replace VB := oth _ _ _ (by first | omega | assumption | (simp; omega)) VB
         replace hA := hA.far VA (noInt1 _ _ _) far.1
         replace hB := hB.far VA (noInt1 _ _ _) far.1
         replace BX := far.2 _ _ (by first | omega | (simp; omega)) BX
         replace VA := V'
         clear oth far
         refine hK.out _ _ (LS.out _ BX) (fun hHeld => ?_)
         clear hK K
         have c_VB := VB.cell
         have f0_VB := VB.frozen 0
         have l_VB := VB.lt
         have m_VB := Nat.le_of_lt l_VB
         refine wpAnyH_ready (rs := [11]) (by kernel_rfl) (by simp) ?_
         refine AllReadyH.cons rfl (fun K hK => ?_) AllReadyH.nil
         simp only [gA, gB, gC]
         go_simp
         clear c_VB f0_VB l_VB m_VB
         refine sto1 VB (.slice aB lB kB) (Q := fun W => K _ W) ?_
         intro x10 V' oth far
         replace VA := oth _ _ _ (by first | omega | assumption | (simp; omega)) VA
         replace hA := hA.far VB (noInt1 _ _ _) far.1
         replace hB := hB.far VB (noInt1 _ _ _) far.1
         replace BX := far.2 _ _ (by first | omega | (simp; omega)) BX
         replace VB := V'
         clear oth far
         refine hK.out _ _ (LS.out _ BX) (fun hHeld => ?_)
         clear hK K
         refine wpAnyH_done (by kernel_rfl) ?_ _
         refine NoPanic.normal ?_
         clear hHeld
         go_wp2_with fail
         go_meet
         exact ⟨_, _, aA, lA, kA, zA, aB, lB, kB, zB, rfl, rfl, VA, VB, hA, hB, eA, eB, BX, ⟨by omega, by omega, by omega⟩⟩
     ·
      simp only [gA, gB, gC]
      go_simp
      have lt_VB_VA := VA.lt
      have sz_VB := BX.size
      refine ent1 _ _ _ (Q := fun V => K _ V) ?_
      intro x5 hb hs_ VB
      replace VA := Va.after hb VA
      replace h3 := Nt.after hb h3
      replace BX := step BX hb
      clear hb hs_
      refine hK.out _ _ (LS.out _ BX) (fun hHeld => ?_)
      clear hK K
      refine wpAnyH_ready (rs := [3]) (by kernel_rfl) (by simp) ?_
      refine AllReadyH.cons rfl (fun K hK => ?_) AllReadyH.nil
      ·
       simp only [gA, gB, gC]
       go_simp
       refine (rover_ok b3 ag m3 d3 lg kg y3 zg _ h3 (Nt.after BX L_hg.out) HG.out.1 (by rw [e3]; exact HG.out.2.1)).mono ?_
       rintro e x6 ⟨aA, lA, kA, zA, rfl, hA, eA, hb⟩
       replace VA := Va.after hb VA
       replace VB := Va.after hb VB
       replace h3 := Nt.after hb h3
       replace BX := step BX hb
       clear hb
       rw [e3] at eA
       clear h3 e3
       try go_wp2_with fail
       refine hK.out _ _ (LS.out _ BX) (fun hHeld => ?_)
       clear hK K
       refine wpAnyH_ready (rs := [5]) (by kernel_rfl) (by simp) ?_
       refine AllReadyH.cons rfl (fun K hK => ?_) AllReadyH.nil
       ·
        simp only [gA, gB, gC]
        go_simp
        refine (rden_any s2 a2 l2 c2 b2 m2 d2 y2 _ (Rt.after BX L_h2.out).2.1).mono ?_
        rintro e x7 ⟨b4, m4, d4, y4, rfl, h4, e4, hb⟩
        replace VA := Va.after hb VA
        replace VB := Va.after hb VB
        replace hA := Nt.after hb hA
        replace BX := step BX hb
        clear hb
        replace e4 := e4.trans L_h2.out.2.2.2.1
        try go_wp2_with fail
        refine hK.out _ _ (LS.out _ BX) (fun hHeld => ?_)
        clear hK K
        refine wpAnyH_ready (rs := [7]) (by kernel_rfl) (by simp) ?_
        refine AllReadyH.cons rfl (fun K hK => ?_) AllReadyH.nil
        ·
         simp only [gA, gB, gC]
         go_simp
         refine (rover_ok b4 ag m4 d4 lg kg y4 zg _ h4 (Nt.after BX L_hg.out) HG.out.1 (by rw [e4]; exact HG.out.2.2)).mono ?_
         rintro e x8 ⟨aB, lB, kB, zB, rfl, hB, eB, hb⟩
         replace VA := Va.after hb VA
         replace VB := Va.after hb VB
         replace hA := Nt.after hb hA
         replace h4 := Nt.after hb h4
         replace BX := step BX hb
         clear hb
         rw [e4] at eB
         clear h4 e4
         try go_wp2_with fail
         refine hK.out _ _ (LS.out _ BX) (fun hHeld => ?_)
         clear hK K
         have c_VA := VA.cell
         have f0_VA := VA.frozen 0
         have l_VA := VA.lt
         have m_VA := Nat.le_of_lt l_VA
         refine wpAnyH_ready (rs := [10]) (by kernel_rfl) (by simp) ?_
         refine AllReadyH.cons rfl (fun K hK => ?_) AllReadyH.nil
         simp only [gA, gB, gC]
         go_simp
         clear c_VA f0_VA l_VA m_VA
         refine sto1 VA (.slice aA lA kA) (Q := fun W => K _ W) ?_
         intro x9 V' oth far
         replace VB := oth _ _ _ (by first | omega | assumption | (simp; omega)) VB
         replace hA := hA.far VA (noInt1 _ _ _) far.1
         replace hB := hB.far VA (noInt1 _ _ _) far.1
         replace BX := far.2 _ _ (by first | omega | (simp; omega)) BX
         replace VA := V'
         clear oth far
         refine hK.out _ _ (LS.out _ BX) (fun hHeld => ?_)
         clear hK K
         have c_VB := VB.cell
         have f0_VB := VB.frozen 0
         have l_VB := VB.lt
         have m_VB := Nat.le_of_lt l_VB
         refine wpAnyH_ready (rs := [11]) (by kernel_rfl) (by simp) ?_
         refine AllReadyH.cons rfl (fun K hK => ?_) AllReadyH.nil
         simp only [gA, gB, gC]
         go_simp
         clear c_VB f0_VB l_VB m_VB
         refine sto1 VB (.slice aB lB kB) (Q := fun W => K _ W) ?_
         intro x10 V' oth far
         replace VA := oth _ _ _ (by first | omega | assumption | (simp; omega)) VA
         replace hA := hA.far VB (noInt1 _ _ _) far.1
         replace hB := hB.far VB (noInt1 _ _ _) far.1
         replace BX := far.2 _ _ (by first | omega | (simp; omega)) BX
         replace VB := V'
         clear oth far
         refine hK.out _ _ (LS.out _ BX) (fun hHeld => ?_)
         clear hK K
         refine wpAnyH_done (by kernel_rfl) ?_ _
         refine NoPanic.normal ?_
         clear hHeld
         go_wp2_with fail
         go_meet
         exact ⟨_, _, aA, lA, kA, zA, aB, lB, kB, zB, rfl, rfl, VA, VB, hA, hB, eA, eB, BX, ⟨by omega, by omega, by omega⟩⟩
    ·
     simp only [gA, gB, gC]
     go_simp
     have lt_VB_VA := VA.lt
     have sz_VB := BX.size
     refine ent1 _ _ _ (Q := fun V => K _ V) ?_
     intro x4 hb hs_ VB
     replace VA := Va.after hb VA
     replace BX := step BX hb
     clear hb hs_
     refine hK.out _ _ (LS.out _ BX) (fun hHeld => ?_)
     clear hK K
     refine wpAnyH_ready (rs := [1]) (by kernel_rfl) (by simp) ?_
     refine AllReadyH.cons rfl (fun K hK => ?_) AllReadyH.nil
     ·
      simp only [gA, gB, gC]
      go_simp
      refine (rden_any s1 a1 l1 c1 b1 m1 d1 y1 _ (Rt.after BX L_h1.out).2.1).mono ?_
      rintro e x5 ⟨b3, m3, d3, y3, rfl, h3, e3, hb⟩
      replace VA := Va.after hb VA
      replace VB := Va.after hb VB
      replace BX := step BX hb
      clear hb
      replace e3 := e3.trans L_h1.out.2.2.2.1
      try go_wp2_with fail
      refine hK.out _ _ (LS.out _ BX) (fun hHeld => ?_)
      clear hK K
      refine wpAnyH_ready (rs := [3]) (by kernel_rfl) (by simp) ?_
      refine AllReadyH.cons rfl (fun K hK => ?_) AllReadyH.nil
      ·
       simp only [gA, gB, gC]
       go_simp
       refine (rover_ok b3 ag m3 d3 lg kg y3 zg _ h3 (Nt.after BX L_hg.out) HG.out.1 (by rw [e3]; exact HG.out.2.1)).mono ?_
       rintro e x6 ⟨aA, lA, kA, zA, rfl, hA, eA, hb⟩
       replace VA := Va.after hb VA
       replace VB := Va.after hb VB
       replace h3 := Nt.after hb h3
       replace BX := step BX hb
       clear hb
       rw [e3] at eA
       clear h3 e3
       try go_wp2_with fail
       refine hK.out _ _ (LS.out _ BX) (fun hHeld => ?_)
       clear hK K
       refine wpAnyH_ready (rs := [5]) (by kernel_rfl) (by simp) ?_
       refine AllReadyH.cons rfl (fun K hK => ?_) AllReadyH.nil
       ·
        simp only [gA, gB, gC]
        go_simp
        refine (rden_any s2 a2 l2 c2 b2 m2 d2 y2 _ (Rt.after BX L_h2.out).2.1).mono ?_
        rintro e x7 ⟨b4, m4, d4, y4, rfl, h4, e4, hb⟩
        replace VA := Va.after hb VA
        replace VB := Va.after hb VB
        replace hA := Nt.after hb hA
        replace BX := step BX hb
        clear hb
        replace e4 := e4.trans L_h2.out.2.2.2.1
        try go_wp2_with fail
        refine hK.out _ _ (LS.out _ BX) (fun hHeld => ?_)
        clear hK K
        refine wpAnyH_ready (rs := [7]) (by kernel_rfl) (by simp) ?_
        refine AllReadyH.cons rfl (fun K hK => ?_) AllReadyH.nil
        ·
         simp only [gA, gB, gC]
         go_simp
         refine (rover_ok b4 ag m4 d4 lg kg y4 zg _ h4 (Nt.after BX L_hg.out) HG.out.1 (by rw [e4]; exact HG.out.2.2)).mono ?_
         rintro e x8 ⟨aB, lB, kB, zB, rfl, hB, eB, hb⟩
         replace VA := Va.after hb VA
         replace VB := Va.after hb VB
         replace hA := Nt.after hb hA
         replace h4 := Nt.after hb h4
         replace BX := step BX hb
         clear hb
         rw [e4] at eB
         clear h4 e4
         try go_wp2_with fail
         refine hK.out _ _ (LS.out _ BX) (fun hHeld => ?_)
         clear hK K
         have c_VA := VA.cell
         have f0_VA := VA.frozen 0
         have l_VA := VA.lt
         have m_VA := Nat.le_of_lt l_VA
         refine wpAnyH_ready (rs := [10]) (by kernel_rfl) (by simp) ?_
         refine AllReadyH.cons rfl (fun K hK => ?_) AllReadyH.nil
         simp only [gA, gB, gC]
         go_simp
         clear c_VA f0_VA l_VA m_VA
         refine sto1 VA (.slice aA lA kA) (Q := fun W => K _ W) ?_
         intro x9 V' oth far
         replace VB := oth _ _ _ (by first | omega | assumption | (simp; omega)) VB
         replace hA := hA.far VA (noInt1 _ _ _) far.1
         replace hB := hB.far VA (noInt1 _ _ _) far.1
         replace BX := far.2 _ _ (by first | omega | (simp; omega)) BX
         replace VA := V'
         clear oth far
         refine hK.out _ _ (LS.out _ BX) (fun hHeld => ?_)
         clear hK K
         have c_VB := VB.cell
         have f0_VB := VB.frozen 0
         have l_VB := VB.lt
         have m_VB := Nat.le_of_lt l_VB
         refine wpAnyH_ready (rs := [11]) (by kernel_rfl) (by simp) ?_
         refine AllReadyH.cons rfl (fun K hK => ?_) AllReadyH.nil
         simp only [gA, gB, gC]
         go_simp
         clear c_VB f0_VB l_VB m_VB
         refine sto1 VB (.slice aB lB kB) (Q := fun W => K _ W) ?_
         intro x10 V' oth far
         replace VA := oth _ _ _ (by first | omega | assumption | (simp; omega)) VA
         replace hA := hA.far VB (noInt1 _ _ _) far.1
         replace hB := hB.far VB (noInt1 _ _ _) far.1
         replace BX := far.2 _ _ (by first | omega | (simp; omega)) BX
         replace VB := V'
         clear oth far
         refine hK.out _ _ (LS.out _ BX) (fun hHeld => ?_)
         clear hK K
         refine wpAnyH_done (by kernel_rfl) ?_ _
         refine NoPanic.normal ?_
         clear hHeld
         go_wp2_with fail
         go_meet
         exact ⟨_, _, aA, lA, kA, zA, aB, lB, kB, zB, rfl, rfl, VA, VB, hA, hB, eA, eB, BX, ⟨by omega, by omega, by omega⟩⟩
   ·
    simp only [gA, gB, gC]
    go_simp
    have sz_VB := BX.size
    refine ent1 _ _ _ (Q := fun V => K _ V) ?_
    intro x3 hb hs_ VB
    replace BX := step BX hb
    clear hb hs_
    refine hK.out _ _ (LS.out _ BX) (fun hHeld => ?_)
    clear hK K
    refine wpAnyH_ready (rs := [1, 8]) (by kernel_rfl) (by simp) ?_
    refine AllReadyH.cons rfl (fun K hK => ?_) (AllReadyH.cons rfl (fun K hK => ?_) AllReadyH.nil)
    ·
     simp only [gA, gB, gC]
     go_simp
     refine (rden_any s1 a1 l1 c1 b1 m1 d1 y1 _ (Rt.after BX L_h1.out).2.1).mono ?_
     rintro e x4 ⟨b3, m3, d3, y3, rfl, h3, e3, hb⟩
     replace VB := Va.after hb VB
     replace BX := step BX hb
     clear hb
     replace e3 := e3.trans L_h1.out.2.2.2.1
     try go_wp2_with fail
     refine hK.out _ _ (LS.out _ BX) (fun hHeld => ?_)
     clear hK K
     refine wpAnyH_ready (rs := [3, 8]) (by kernel_rfl) (by simp) ?_
     refine AllReadyH.cons rfl (fun K hK => ?_) (AllReadyH.cons rfl (fun K hK => ?_) AllReadyH.nil)
     ·
      simp only [gA, gB, gC]
      go_simp
      refine (rover_ok b3 ag m3 d3 lg kg y3 zg _ h3 (Nt.after BX L_hg.out) HG.out.1 (by rw [e3]; exact HG.out.2.1)).mono ?_
      rintro e x5 ⟨aA, lA, kA, zA, rfl, hA, eA, hb⟩
      replace VB := Va.after hb VB
      replace h3 := Nt.after hb h3
      replace BX := step BX hb
      clear hb
      rw [e3] at eA
      clear h3 e3
      try go_wp2_with fail
      refine hK.out _ _ (LS.out _ BX) (fun hHeld => ?_)
      clear hK K
      refine wpAnyH_ready (rs := [5, 8]) (by kernel_rfl) (by simp) ?_
      refine AllReadyH.cons rfl (fun K hK => ?_) (AllReadyH.cons rfl (fun K hK => ?_) AllReadyH.nil)
      ·
       simp only [gA, gB, gC]
       go_simp
       refine (rden_any s2 a2 l2 c2 b2 m2 d2 y2 _ (Rt.after BX L_h2.out).2.1).mono ?_
       rintro e x6 ⟨b4, m4, d4, y4, rfl, h4, e4, hb⟩
       replace VB := Va.after hb VB
       replace hA := Nt.after hb hA
       replace BX := step BX hb
       clear hb
       replace e4 := e4.trans L_h2.out.2.2.2.1
       try go_wp2_with fail
       refine hK.out _ _ (LS.out _ BX) (fun hHeld => ?_)
       clear hK K
       refine wpAnyH_ready (rs := [7, 8]) (by kernel_rfl) (by simp) ?_
       refine AllReadyH.cons rfl (fun K hK => ?_) (AllReadyH.cons rfl (fun K hK => ?_) AllReadyH.nil)
       ·
        simp only [gA, gB, gC]
        go_simp
        refine (rover_ok b4 ag m4 d4 lg kg y4 zg _ h4 (Nt.after BX L_hg.out) HG.out.1 (by rw [e4]; exact HG.out.2.2)).mono ?_
        rintro e x7 ⟨aB, lB, kB, zB, rfl, hB, eB, hb⟩
        replace VB := Va.after hb VB
        replace hA := Nt.after hb hA
        replace h4 := Nt.after hb h4
        replace BX := step BX hb
        clear hb
        rw [e4] at eB
        clear h4 e4
        try go_wp2_with fail
        refine hK.out _ _ (LS.out _ BX) (fun hHeld => ?_)
        clear hK K
        refine wpAnyH_ready (rs := [8]) (by kernel_rfl) (by simp) ?_
        refine AllReadyH.cons rfl (fun K hK => ?_) AllReadyH.nil
        ·
         simp only [gA, gB, gC]
         go_simp
         have lt_VA_VB := VB.lt
         have sz_VA := BX.size
         refine ent1 _ _ _ (Q := fun V => K _ V) ?_
         intro x8 hb hs_ VA
         replace VB := Va.after hb VB
         replace hA := Nt.after hb hA
         replace hB := Nt.after hb hB
         replace BX := step BX hb
         clear hb hs_
         refine hK.out _ _ (LS.out _ BX) (fun hHeld => ?_)
         clear hK K
         have c_VA := VA.cell
         have f0_VA := VA.frozen 0
         have l_VA := VA.lt
         have m_VA := Nat.le_of_lt l_VA
         refine wpAnyH_ready (rs := [10]) (by kernel_rfl) (by simp) ?_
         refine AllReadyH.cons rfl (fun K hK => ?_) AllReadyH.nil
         simp only [gA, gB, gC]
         go_simp
         clear c_VA f0_VA l_VA m_VA
         refine sto1 VA (.slice aA lA kA) (Q := fun W => K _ W) ?_
         intro x9 V' oth far
         replace VB := oth _ _ _ (by first | omega | assumption | (simp; omega)) VB
         replace hA := hA.far VA (noInt1 _ _ _) far.1
         replace hB := hB.far VA (noInt1 _ _ _) far.1
         replace BX := far.2 _ _ (by first | omega | (simp; omega)) BX
         replace VA := V'
         clear oth far
         refine hK.out _ _ (LS.out _ BX) (fun hHeld => ?_)
         clear hK K
         have c_VB := VB.cell
         have f0_VB := VB.frozen 0
         have l_VB := VB.lt
         have m_VB := Nat.le_of_lt l_VB
         refine wpAnyH_ready (rs := [11]) (by kernel_rfl) (by simp) ?_
         refine AllReadyH.cons rfl (fun K hK => ?_) AllReadyH.nil
         simp only [gA, gB, gC]
         go_simp
         clear c_VB f0_VB l_VB m_VB
         refine sto1 VB (.slice aB lB kB) (Q := fun W => K _ W) ?_
         intro x10 V' oth far
         replace VA := oth _ _ _ (by first | omega | assumption | (simp; omega)) VA
         replace hA := hA.far VB (noInt1 _ _ _) far.1
         replace hB := hB.far VB (noInt1 _ _ _) far.1
         replace BX := far.2 _ _ (by first | omega | (simp; omega)) BX
         replace VB := V'
         clear oth far
         refine hK.out _ _ (LS.out _ BX) (fun hHeld => ?_)
         clear hK K
         refine wpAnyH_done (by kernel_rfl) ?_ _
         refine NoPanic.normal ?_
         clear hHeld
         go_wp2_with fail
         go_meet
         exact ⟨_, _, aA, lA, kA, zA, aB, lB, kB, zB, rfl, rfl, VA, VB, hA, hB, eA, eB, BX, ⟨by omega, by omega, by omega⟩⟩
       ·
        simp only [gA, gB, gC]
        go_simp
        have lt_VA_VB := VB.lt
        have sz_VA := BX.size
        refine ent1 _ _ _ (Q := fun V => K _ V) ?_
        intro x7 hb hs_ VA
        replace VB := Va.after hb VB
        replace hA := Nt.after hb hA
        replace h4 := Nt.after hb h4
        replace BX := step BX hb
        clear hb hs_
        refine hK.out _ _ (LS.out _ BX) (fun hHeld => ?_)
        clear hK K
        refine wpAnyH_ready (rs := [7]) (by kernel_rfl) (by simp) ?_
        refine AllReadyH.cons rfl (fun K hK => ?_) AllReadyH.nil
        ·
         simp only [gA, gB, gC]
         go_simp
         refine (rover_ok b4 ag m4 d4 lg kg y4 zg _ h4 (Nt.after BX L_hg.out) HG.out.1 (by rw [e4]; exact HG.out.2.2)).mono ?_
         rintro e x8 ⟨aB, lB, kB, zB, rfl, hB, eB, hb⟩
         replace VB := Va.after hb VB
         replace VA := Va.after hb VA
         replace hA := Nt.after hb hA
         replace h4 := Nt.after hb h4
         replace BX := step BX hb
         clear hb
         rw [e4] at eB
         clear h4 e4
         try go_wp2_with fail
         refine hK.out _ _ (LS.out _ BX) (fun hHeld => ?_)
         clear hK K
         have c_VA := VA.cell
         have f0_VA := VA.frozen 0
         have l_VA := VA.lt
         have m_VA := Nat.le_of_lt l_VA
         refine wpAnyH_ready (rs := [10]) (by kernel_rfl) (by simp) ?_
         refine AllReadyH.cons rfl (fun K hK => ?_) AllReadyH.nil
         simp only [gA, gB, gC]
         go_simp
         clear c_VA f0_VA l_VA m_VA
         refine sto1 VA (.slice aA lA kA) (Q := fun W => K _ W) ?_
         intro x9 V' oth far
         replace VB := oth _ _ _ (by first | omega | assumption | (simp; omega)) VB
         replace hA := hA.far VA (noInt1 _ _ _) far.1
         replace hB := hB.far VA (noInt1 _ _ _) far.1
         replace BX := far.2 _ _ (by first | omega | (simp; omega)) BX
         replace VA := V'
         clear oth far
         refine hK.out _ _ (LS.out _ BX) (fun hHeld => ?_)
         clear hK K
         have c_VB := VB.cell
         have f0_VB := VB.frozen 0
         have l_VB := VB.lt
         have m_VB := Nat.le_of_lt l_VB
         refine wpAnyH_ready (rs := [11]) (by kernel_rfl) (by simp) ?_
         refine AllReadyH.cons rfl (fun K hK => ?_) AllReadyH.nil
         simp only [gA, gB, gC]
         go_simp
         clear c_VB f0_VB l_VB m_VB
         refine sto1 VB (.slice aB lB kB) (Q := fun W => K _ W) ?_
         intro x10 V' oth far
         replace VA := oth _ _ _ (by first | omega | assumption | (simp; omega)) VA
         replace hA := hA.far VB (noInt1 _ _ _) far.1
         replace hB := hB.far VB (noInt1 _ _ _) far.1
         replace BX := far.2 _ _ (by first | omega | (simp; omega)) BX
         replace VB := V'
         clear oth far
         refine hK.out _ _ (LS.out _ BX) (fun hHeld => ?_)
         clear hK K
         refine wpAnyH_done (by kernel_rfl) ?_ _
         refine NoPanic.normal ?_
         clear hHeld
         go_wp2_with fail
         go_meet
         exact ⟨_, _, aA, lA, kA, zA, aB, lB, kB, zB, rfl, rfl, VA, VB, hA, hB, eA, eB, BX, ⟨by omega, by omega, by omega⟩⟩
      ·
       simp only [gA, gB, gC]
       go_simp
       have lt_VA_VB := VB.lt
       have sz_VA := BX.size
       refine ent1 _ _ _ (Q := fun V => K _ V) ?_
       intro x6 hb hs_ VA
       replace VB := Va.after hb VB
       replace hA := Nt.after hb hA
       replace BX := step BX hb
       clear hb hs_
       refine hK.out _ _ (LS.out _ BX) (fun hHeld => ?_)
       clear hK K
       refine wpAnyH_ready (rs := [5]) (by kernel_rfl) (by simp) ?_
       refine AllReadyH.cons rfl (fun K hK => ?_) AllReadyH.nil
       ·
        simp only [gA, gB, gC]
        go_simp
        refine (rden_any s2 a2 l2 c2 b2 m2 d2 y2 _ (Rt.after BX L_h2.out).2.1).mono ?_
        rintro e x7 ⟨b4, m4, d4, y4, rfl, h4, e4, hb⟩
        replace VB := Va.after hb VB
        replace VA := Va.after hb VA
        replace hA := Nt.after hb hA
        replace BX := step BX hb
        clear hb
        replace e4 := e4.trans L_h2.out.2.2.2.1
        try go_wp2_with fail
        refine hK.out _ _ (LS.out _ BX) (fun hHeld => ?_)
        clear hK K
        refine wpAnyH_ready (rs := [7]) (by kernel_rfl) (by simp) ?_
        refine AllReadyH.cons rfl (fun K hK => ?_) AllReadyH.nil
        ·
         simp only [gA, gB, gC]
         go_simp
         refine (rover_ok b4 ag m4 d4 lg kg y4 zg _ h4 (Nt.after BX L_hg.out) HG.out.1 (by rw [e4]; exact HG.out.2.2)).mono ?_
         rintro e x8 ⟨aB, lB, kB, zB, rfl, hB, eB, hb⟩
         replace VB := Va.after hb VB
         replace VA := Va.after hb VA
         replace hA := Nt.after hb hA
         replace h4 := Nt.after hb h4
         replace BX := step BX hb
         clear hb
         rw [e4] at eB
         clear h4 e4
         try go_wp2_with fail
         refine hK.out _ _ (LS.out _ BX) (fun hHeld => ?_)
         clear hK K
         have c_VA := VA.cell
         have f0_VA := VA.frozen 0
         have l_VA := VA.lt
         have m_VA := Nat.le_of_lt l_VA
         refine wpAnyH_ready (rs := [10]) (by kernel_rfl) (by simp) ?_
         refine AllReadyH.cons rfl (fun K hK => ?_) AllReadyH.nil
         simp only [gA, gB, gC]
         go_simp
         clear c_VA f0_VA l_VA m_VA
         refine sto1 VA (.slice aA lA kA) (Q := fun W => K _ W) ?_
         intro x9 V' oth far
         replace VB := oth _ _ _ (by first | omega | assumption | (simp; omega)) VB
         replace hA := hA.far VA (noInt1 _ _ _) far.1
         replace hB := hB.far VA (noInt1 _ _ _) far.1
         replace BX := far.2 _ _ (by first | omega | (simp; omega)) BX
         replace VA := V'
         clear oth far
         refine hK.out _ _ (LS.out _ BX) (fun hHeld => ?_)
         clear hK K
         have c_VB := VB.cell
         have f0_VB := VB.frozen 0
         have l_VB := VB.lt
         have m_VB := Nat.le_of_lt l_VB
         refine wpAnyH_ready (rs := [11]) (by kernel_rfl) (by simp) ?_
         refine AllReadyH.cons rfl (fun K hK => ?_) AllReadyH.nil
         simp only [gA, gB, gC]
         go_simp
         clear c_VB f0_VB l_VB m_VB
         refine sto1 VB (.slice aB lB kB) (Q := fun W => K _ W) ?_
         intro x10 V' oth far
         replace VA := oth _ _ _ (by first | omega | assumption | (simp; omega)) VA
         replace hA := hA.far VB (noInt1 _ _ _) far.1
         replace hB := hB.far VB (noInt1 _ _ _) far.1
         replace BX := far.2 _ _ (by first | omega | (simp; omega)) BX
         replace VB := V'
         clear oth far
         refine hK.out _ _ (LS.out _ BX) (fun hHeld => ?_)
         clear hK K
         refine wpAnyH_done (by kernel_rfl) ?_ _
         refine NoPanic.normal ?_
         clear hHeld
         go_wp2_with fail
         go_meet
         exact ⟨_, _, aA, lA, kA, zA, aB, lB, kB, zB, rfl, rfl, VA, VB, hA, hB, eA, eB, BX, ⟨by omega, by omega, by omega⟩⟩
     ·
      simp only [gA, gB, gC]
      go_simp
      have lt_VA_VB := VB.lt
      have sz_VA := BX.size
      refine ent1 _ _ _ (Q := fun V => K _ V) ?_
      intro x5 hb hs_ VA
      replace VB := Va.after hb VB
      replace h3 := Nt.after hb h3
      replace BX := step BX hb
      clear hb hs_
      refine hK.out _ _ (LS.out _ BX) (fun hHeld => ?_)
      clear hK K
      refine wpAnyH_ready (rs := [3]) (by kernel_rfl) (by simp) ?_
      refine AllReadyH.cons rfl (fun K hK => ?_) AllReadyH.nil
      ·
       simp only [gA, gB, gC]
       go_simp
       refine (rover_ok b3 ag m3 d3 lg kg y3 zg _ h3 (Nt.after BX L_hg.out) HG.out.1 (by rw [e3]; exact HG.out.2.1)).mono ?_
       rintro e x6 ⟨aA, lA, kA, zA, rfl, hA, eA, hb⟩
       replace VB := Va.after hb VB
       replace VA := Va.after hb VA
       replace h3 := Nt.after hb h3
       replace BX := step BX hb
       clear hb
       rw [e3] at eA
       clear h3 e3
       try go_wp2_with fail
       refine hK.out _ _ (LS.out _ BX) (fun hHeld => ?_)
       clear hK K
       refine wpAnyH_ready (rs := [5]) (by kernel_rfl) (by simp) ?_
       refine AllReadyH.cons rfl (fun K hK => ?_) AllReadyH.nil
       ·
        simp only [gA, gB, gC]
        go_simp
        refine (rden_any s2 a2 l2 c2 b2 m2 d2 y2 _ (Rt.after BX L_h2.out).2.1).mono ?_
        rintro e x7 ⟨b4, m4, d4, y4, rfl, h4, e4, hb⟩
        replace VB := Va.after hb VB
        replace VA := Va.after hb VA
        replace hA := Nt.after hb hA
        replace BX := step BX hb
        clear hb
        replace e4 := e4.trans L_h2.out.2.2.2.1
        try go_wp2_with fail
        refine hK.out _ _ (LS.out _ BX) (fun hHeld => ?_)
        clear hK K
        refine wpAnyH_ready (rs := [7]) (by kernel_rfl) (by simp) ?_
        refine AllReadyH.cons rfl (fun K hK => ?_) AllReadyH.nil
        ·
         simp only [gA, gB, gC]
         go_simp
         refine (rover_ok b4 ag m4 d4 lg kg y4 zg _ h4 (Nt.after BX L_hg.out) HG.out.1 (by rw [e4]; exact HG.out.2.2)).mono ?_
         rintro e x8 ⟨aB, lB, kB, zB, rfl, hB, eB, hb⟩
         replace VB := Va.after hb VB
         replace VA := Va.after hb VA
         replace hA := Nt.after hb hA
         replace h4 := Nt.after hb h4
         replace BX := step BX hb
         clear hb
         rw [e4] at eB
         clear h4 e4
         try go_wp2_with fail
         refine hK.out _ _ (LS.out _ BX) (fun hHeld => ?_)
         clear hK K
         have c_VA := VA.cell
         have f0_VA := VA.frozen 0
         have l_VA := VA.lt
         have m_VA := Nat.le_of_lt l_VA
         refine wpAnyH_ready (rs := [10]) (by kernel_rfl) (by simp) ?_
         refine AllReadyH.cons rfl (fun K hK => ?_) AllReadyH.nil
         simp only [gA, gB, gC]
         go_simp
         clear c_VA f0_VA l_VA m_VA
         refine sto1 VA (.slice aA lA kA) (Q := fun W => K _ W) ?_
         intro x9 V' oth far
         replace VB := oth _ _ _ (by first | omega | assumption | (simp; omega)) VB
         replace hA := hA.far VA (noInt1 _ _ _) far.1
         replace hB := hB.far VA (noInt1 _ _ _) far.1
         replace BX := far.2 _ _ (by first | omega | (simp; omega)) BX
         replace VA := V'
         clear oth far
         refine hK.out _ _ (LS.out _ BX) (fun hHeld => ?_)
         clear hK K
         have c_VB := VB.cell
         have f0_VB := VB.frozen 0
         have l_VB := VB.lt
         have m_VB := Nat.le_of_lt l_VB
         refine wpAnyH_ready (rs := [11]) (by kernel_rfl) (by simp) ?_
         refine AllReadyH.cons rfl (fun K hK => ?_) AllReadyH.nil
         simp only [gA, gB, gC]
         go_simp
         clear c_VB f0_VB l_VB m_VB
         refine sto1 VB (.slice aB lB kB) (Q := fun W => K _ W) ?_
         intro x10 V' oth far
         replace VA := oth _ _ _ (by first | omega | assumption | (simp; omega)) VA
         replace hA := hA.far VB (noInt1 _ _ _) far.1
         replace hB := hB.far VB (noInt1 _ _ _) far.1
         replace BX := far.2 _ _ (by first | omega | (simp; omega)) BX
         replace VB := V'
         clear oth far
         refine hK.out _ _ (LS.out _ BX) (fun hHeld => ?_)
         clear hK K
         refine wpAnyH_done (by kernel_rfl) ?_ _
         refine NoPanic.normal ?_
         clear hHeld
         go_wp2_with fail
         go_meet
         exact ⟨_, _, aA, lA, kA, zA, aB, lB, kB, zB, rfl, rfl, VA, VB, hA, hB, eA, eB, BX, ⟨by omega, by omega, by omega⟩⟩
    ·
     simp only [gA, gB, gC]
     go_simp
     have lt_VA_VB := VB.lt
     have sz_VA := BX.size
     refine ent1 _ _ _ (Q := fun V => K _ V) ?_
     intro x4 hb hs_ VA
     replace VB := Va.after hb VB
     replace BX := step BX hb
     clear hb hs_
     refine hK.out _ _ (LS.out _ BX) (fun hHeld => ?_)
     clear hK K
     refine wpAnyH_ready (rs := [1]) (by kernel_rfl) (by simp) ?_
     refine AllReadyH.cons rfl (fun K hK => ?_) AllReadyH.nil
     ·
      simp only [gA, gB, gC]
      go_simp
      refine (rden_any s1 a1 l1 c1 b1 m1 d1 y1 _ (Rt.after BX L_h1.out).2.1).mono ?_
      rintro e x5 ⟨b3, m3, d3, y3, rfl, h3, e3, hb⟩
      replace VB := Va.after hb VB
      replace VA := Va.after hb VA
      replace BX := step BX hb
      clear hb
      replace e3 := e3.trans L_h1.out.2.2.2.1
      try go_wp2_with fail
      refine hK.out _ _ (LS.out _ BX) (fun hHeld => ?_)
      clear hK K
      refine wpAnyH_ready (rs := [3]) (by kernel_rfl) (by simp) ?_
      refine AllReadyH.cons rfl (fun K hK => ?_) AllReadyH.nil
      ·
       simp only [gA, gB, gC]
       go_simp
       refine (rover_ok b3 ag m3 d3 lg kg y3 zg _ h3 (Nt.after BX L_hg.out) HG.out.1 (by rw [e3]; exact HG.out.2.1)).mono ?_
       rintro e x6 ⟨aA, lA, kA, zA, rfl, hA, eA, hb⟩
       replace VB := Va.after hb VB
       replace VA := Va.after hb VA
       replace h3 := Nt.after hb h3
       replace BX := step BX hb
       clear hb
       rw [e3] at eA
       clear h3 e3
       try go_wp2_with fail
       refine hK.out _ _ (LS.out _ BX) (fun hHeld => ?_)
       clear hK K
       refine wpAnyH_ready (rs := [5]) (by kernel_rfl) (by simp) ?_
       refine AllReadyH.cons rfl (fun K hK => ?_) AllReadyH.nil
       ·
        simp only [gA, gB, gC]
        go_simp
        refine (rden_any s2 a2 l2 c2 b2 m2 d2 y2 _ (Rt.after BX L_h2.out).2.1).mono ?_
        rintro e x7 ⟨b4, m4, d4, y4, rfl, h4, e4, hb⟩
        replace VB := Va.after hb VB
        replace VA := Va.after hb VA
        replace hA := Nt.after hb hA
        replace BX := step BX hb
        clear hb
        replace e4 := e4.trans L_h2.out.2.2.2.1
        try go_wp2_with fail
        refine hK.out _ _ (LS.out _ BX) (fun hHeld => ?_)
        clear hK K
        refine wpAnyH_ready (rs := [7]) (by kernel_rfl) (by simp) ?_
        refine AllReadyH.cons rfl (fun K hK => ?_) AllReadyH.nil
        ·
         simp only [gA, gB, gC]
         go_simp
         refine (rover_ok b4 ag m4 d4 lg kg y4 zg _ h4 (Nt.after BX L_hg.out) HG.out.1 (by rw [e4]; exact HG.out.2.2)).mono ?_
         rintro e x8 ⟨aB, lB, kB, zB, rfl, hB, eB, hb⟩
         replace VB := Va.after hb VB
         replace VA := Va.after hb VA
         replace hA := Nt.after hb hA
         replace h4 := Nt.after hb h4
         replace BX := step BX hb
         clear hb
         rw [e4] at eB
         clear h4 e4
         try go_wp2_with fail
         refine hK.out _ _ (LS.out _ BX) (fun hHeld => ?_)
         clear hK K
         have c_VA := VA.cell
         have f0_VA := VA.frozen 0
         have l_VA := VA.lt
         have m_VA := Nat.le_of_lt l_VA
         refine wpAnyH_ready (rs := [10]) (by kernel_rfl) (by simp) ?_
         refine AllReadyH.cons rfl (fun K hK => ?_) AllReadyH.nil
         simp only [gA, gB, gC]
         go_simp
         clear c_VA f0_VA l_VA m_VA
         refine sto1 VA (.slice aA lA kA) (Q := fun W => K _ W) ?_
         intro x9 V' oth far
         replace VB := oth _ _ _ (by first | omega | assumption | (simp; omega)) VB
         replace hA := hA.far VA (noInt1 _ _ _) far.1
         replace hB := hB.far VA (noInt1 _ _ _) far.1
         replace BX := far.2 _ _ (by first | omega | (simp; omega)) BX
         replace VA := V'
         clear oth far
         refine hK.out _ _ (LS.out _ BX) (fun hHeld => ?_)
         clear hK K
         have c_VB := VB.cell
         have f0_VB := VB.frozen 0
         have l_VB := VB.lt
         have m_VB := Nat.le_of_lt l_VB
         refine wpAnyH_ready (rs := [11]) (by kernel_rfl) (by simp) ?_
         refine AllReadyH.cons rfl (fun K hK => ?_) AllReadyH.nil
         simp only [gA, gB, gC]
         go_simp
         clear c_VB f0_VB l_VB m_VB
         refine sto1 VB (.slice aB lB kB) (Q := fun W => K _ W) ?_
         intro x10 V' oth far
         replace VA := oth _ _ _ (by first | omega | assumption | (simp; omega)) VA
         replace hA := hA.far VB (noInt1 _ _ _) far.1
         replace hB := hB.far VB (noInt1 _ _ _) far.1
         replace BX := far.2 _ _ (by first | omega | (simp; omega)) BX
         replace VB := V'
         clear oth far
         refine hK.out _ _ (LS.out _ BX) (fun hHeld => ?_)
         clear hK K
         refine wpAnyH_done (by kernel_rfl) ?_ _
         refine NoPanic.normal ?_
         clear hHeld
         go_wp2_with fail
         go_meet
         exact ⟨_, _, aA, lA, kA, zA, aB, lB, kB, zB, rfl, rfl, VA, VB, hA, hB, eA, eB, BX, ⟨by omega, by omega, by omega⟩⟩
  case rest =>
   clear BX
   obtain ⟨b7, b8, aA, lA, kA, zA, aB, lB, kB, zB, rfl, rfl, VA', VB', hA', hB', EA', EB', BX', hineq'⟩ := hcut
   have VA := VA'.out
   have VB := VB'.out
   have hA := hA'.out
   have hB := hB'.out
   have EA := EA'.out
   have EB := EB'.out
   have BX := BX'.out
   have hineq := hineq'.out
   clear VA' VB' hA' hB' EA' EB' BX' hineq'
   obtain ⟨iq1, iq2, iq3⟩ := hineq
   go_wp2_with fail
   have V0 := Va.after BX L_V0.out
   have V1 := Va.after BX L_V1.out
   have V2 := Va.after BX L_V2.out
   have Vg := Va.after BX L_Vg.out
   have h1 := Rt.after BX L_h1.out
   have h2 := Rt.after BX L_h2.out
   have hg := Nt.after BX L_hg.out
   have B0 := step L_B.out BX
   have HP : Hid (AddP v1 v2 (num zg) (num zA) (num zB)) := add_parts h1.2.2.2.2 h2.2.2.2.2 HE.out hA.nonneg hB.nonneg EA EB
   clear HE HG EA EB
   have LS : Hid (∀ W, Below wc.heap.size wc W → (fun W => W.cell? ⟨w.heap.size, 0, none⟩ = some (.bool s1) ∧ W.cell? ⟨w.heap.size, 1, none⟩ = some (.slice a1 l1 c1) ∧ W.cell? ⟨w.heap.size, 2, none⟩ = some (.slice b1 m1 d1) ∧ W.cell? ⟨w.heap.size + 1, 0, none⟩ = some (.bool s2) ∧ W.cell? ⟨w.heap.size + 1, 1, none⟩ = some (.slice a2 l2 c2) ∧ W.cell? ⟨w.heap.size + 1, 2, none⟩ = some (.slice b2 m2 d2) ∧ W.cell? ⟨b7, 0, none⟩ = some (.slice aA lA kA) ∧ W.cell? ⟨b8, 0, none⟩ = some (.slice aB lB kB)) W) := fun W hb => ⟨(Va.after hb V0).d0, (Va.after hb V0).d1, (Va.after hb V0).d2, (Va.after hb V1).d0, (Va.after hb V1).d1, (Va.after hb V1).d2, (Va.after hb VA).cell, (Va.after hb VB).cell⟩
   have lb_V0 := V0.lt
   have L_V0 : Hid (Va wc (w.heap.size) 45 #[.bool s1, .slice a1 l1 c1, .slice b1 m1 d1]) := V0
   have lb_V1 := V1.lt
   have L_V1 : Hid (Va wc (w.heap.size + 1) 45 #[.bool s2, .slice a2 l2 c2, .slice b2 m2 d2]) := V1
   have lb_V2 := V2.lt
   have L_V2 : Hid (Va wc (w.heap.size + 1 + 1) 45 #[.bool false, .slice none 0 0, .slice none 0 0]) := V2
   have lb_Vg := Vg.lt
   have L_Vg : Hid (Va wc (b6) 41 #[.slice ag lg kg]) := Vg
   have lb_VA := VA.lt
   have L_VA : Hid (Va wc (b7) 41 #[.slice aA lA kA]) := VA
   have lb_VB := VB.lt
   have L_VB : Hid (Va wc (b8) 41 #[.slice aB lB kB]) := VB
   have L_h1 : Hid (Rt wc s1 a1 l1 c1 z1 b1 m1 d1 y1 v1) := h1
   have L_h2 : Hid (Rt wc s2 a2 l2 c2 z2 b2 m2 d2 y2 v2) := h2
   have L_hg : Hid (Nt wc ag lg kg zg) := hg
   have L_hA : Hid (Nt wc aA lA kA zA) := hA
   have L_hB : Hid (Nt wc aB lB kB zB) := hB
   have L_B : Hid (Below w.heap.size w wc) := B0
   clear V0 V1 V2 Vg VA VB h1 h2 hg hA hB B0
   have BX := Below.refl wc.heap.size wc
   go_cut [9] (fun s9 wx => ∃ (b9 : Nat) (ss : Bool) (aS : Option Addr) (ls ks : Nat) (zs : List Int), s9 = .pointer (some ⟨b9, 0, none⟩) ∧ Hid (Va wx b9 43 #[.bool ss, .slice aS ls ks]) ∧ Hid (It wx ss aS ls ks zs) ∧ Hid (iv ss zs = v1.num * num zB + v2.num * num zA) ∧ Hid (Below wc.heap.size wc wx) ∧ Hid (w.heap.size + 3 ≤ b9))
   case first =>
    refine wp_region_noPanic ?_
    replace BX := Below.drew BX
    refine wp_region_held_drew (S := (fun W => W.cell? ⟨w.heap.size, 0, none⟩ = some (.bool s1) ∧ W.cell? ⟨w.heap.size, 1, none⟩ = some (.slice a1 l1 c1) ∧ W.cell? ⟨w.heap.size, 2, none⟩ = some (.slice b1 m1 d1) ∧ W.cell? ⟨w.heap.size + 1, 0, none⟩ = some (.bool s2) ∧ W.cell? ⟨w.heap.size + 1, 1, none⟩ = some (.slice a2 l2 c2) ∧ W.cell? ⟨w.heap.size + 1, 2, none⟩ = some (.slice b2 m2 d2) ∧ W.cell? ⟨b7, 0, none⟩ = some (.slice aA lA kA) ∧ W.cell? ⟨b8, 0, none⟩ = some (.slice aB lB kB))) (by kernel_rfl) (LS.out _ BX) (fun hHeld => ?_)
    obtain ⟨x2, hxd⟩ : ∃ xd, xd = wc.drew := ⟨_, rfl⟩
    rw [← hxd] at BX hHeld ⊢
    clear hxd
    refine wpAnyH_take (i := 0) (v := ?_) rfl (by kernel_rfl) (by kernel_rfl) (by kernel_rfl) (fun _ _ _ h => h) (Or.inl ⟨by rfl, ?_⟩) hHeld ?_
    rotate_left
    · (intro W hSw; (try dsimp only at hSw); go_simp; all_goals (with_reducible rfl))
    simp only [gA, gB, Act.put, gD, gE, gF]
    refine wpAnyH_take (i := 1) (v := ?_) rfl (by kernel_rfl) (by kernel_rfl) (by kernel_rfl) (fun _ _ _ h => h) (Or.inl ⟨by rfl, ?_⟩) hHeld ?_
    rotate_left
    · (intro W hSw; (try dsimp only at hSw); go_simp; all_goals (with_reducible rfl))
    simp only [gA, gB, gC, Act.put, gD, gE, gF]
    refine wpAnyH_take (i := 2) (v := ?_) rfl (by kernel_rfl) (by kernel_rfl) (by kernel_rfl) (fun _ _ _ h => h) (Or.inl ⟨by rfl, ?_⟩) hHeld ?_
    rotate_left
    · (intro W hSw; (try dsimp only at hSw); go_simp; all_goals (with_reducible rfl))
    simp only [gA, gB, gC, Act.put, gD, gE, gF]
    refine wpAnyH_take (i := 4) (v := ?_) rfl (by kernel_rfl) (by kernel_rfl) (by kernel_rfl) (fun _ _ _ h => h) (Or.inl ⟨by rfl, ?_⟩) hHeld ?_
    rotate_left
    · (intro W hSw; (try dsimp only at hSw); go_simp; all_goals (with_reducible rfl))
    simp only [gA, gB, gC, Act.put, gD, gE, gF]
    refine wpAnyH_take (i := 5) (v := ?_) rfl (by kernel_rfl) (by kernel_rfl) (by kernel_rfl) (fun _ _ _ h => h) (Or.inl ⟨by rfl, ?_⟩) hHeld ?_
    rotate_left
    · (intro W hSw; (try dsimp only at hSw); go_simp; all_goals (with_reducible rfl))
    simp only [gA, gB, gC, Act.put, gD, gE, gF]
    refine wpAnyH_take (i := 6) (v := ?_) rfl (by kernel_rfl) (by kernel_rfl) (by kernel_rfl) (fun _ _ _ h => h) (Or.inl ⟨by rfl, ?_⟩) hHeld ?_
    rotate_left
    · (intro W hSw; (try dsimp only at hSw); go_simp; all_goals (with_reducible rfl))
    simp only [gA, gB, gC, Act.put, gD, gE, gF]
    refine wpAnyH_ready (rs := [3, 12]) (by kernel_rfl) (by simp) ?_
    refine AllReadyH.cons rfl (fun K hK => ?_) (AllReadyH.cons rfl (fun K hK => ?_) AllReadyH.nil)
    ·
     simp only [gA, gB, gC]
     go_simp
     refine (times_ok s1 a1 aB l1 c1 lB kB z1 zB _ (Rt.after BX L_h1.out).1 (Nt.after BX L_hB.out) (by rw [L_h1.out.2.2.1]; exact HP.out.f1)).mono ?_
     rintro e x3 ⟨s5, a5, l5, c5, z5, rfl, h5, e5, hb⟩
     replace BX := step BX hb
     clear hb
     rw [L_h1.out.2.2.1] at e5
     try go_wp2_with fail
     refine hK.out _ _ (LS.out _ BX) (fun hHeld => ?_)
     clear hK K
     refine wpAnyH_ready (rs := [7, 12]) (by kernel_rfl) (by simp) ?_
     refine AllReadyH.cons rfl (fun K hK => ?_) (AllReadyH.cons rfl (fun K hK => ?_) AllReadyH.nil)
     ·
      simp only [gA, gB, gC]
      go_simp
      refine (times_ok s2 a2 aA l2 c2 lA kA z2 zA _ (Rt.after BX L_h2.out).1 (Nt.after BX L_hA.out) (by rw [L_h2.out.2.2.1]; exact HP.out.f2)).mono ?_
      rintro e x4 ⟨s6, a6, l6, c6, z6, rfl, h6, e6, hb⟩
      replace h5 := It.after hb h5
      replace BX := step BX hb
      clear hb
      rw [L_h2.out.2.2.1] at e6
      try go_wp2_with fail
      refine hK.out _ _ (LS.out _ BX) (fun hHeld => ?_)
      clear hK K
      refine wpAnyH_ready (rs := [8, 12]) (by kernel_rfl) (by simp) ?_
      refine AllReadyH.cons rfl (fun K hK => ?_) (AllReadyH.cons rfl (fun K hK => ?_) AllReadyH.nil)
      ·
       simp only [gA, gB, gC]
       go_simp
       refine (wadd_ok s5 s6 a5 a6 l5 c5 l6 c6 z5 z6 _ h5 h6 (by rw [e5, e6]; exact HP.out.f3)).mono ?_
       rintro e x5 ⟨ss, aS, ls, ks, zs, rfl, hs, es, hb⟩
       replace h5 := It.after hb h5
       replace h6 := It.after hb h6
       replace BX := step BX hb
       clear hb
       rw [e5, e6] at es
       try go_wp2_with fail
       refine hK.out _ _ (LS.out _ BX) (fun hHeld => ?_)
       clear hK K
       refine wpAnyH_take (i := 9) (v := ?_) rfl (by kernel_rfl) (by kernel_rfl) (by kernel_rfl) (fun _ _ _ h => h) (Or.inl ⟨by rfl, ?_⟩) hHeld ?_
       rotate_left
       · (intro W hSw; (try dsimp only at hSw); go_simp; all_goals (with_reducible rfl))
       simp only [gA, gB, gC, Act.put, gD, gE, gF]
       refine wpAnyH_take (i := 10) (v := ?_) rfl (by kernel_rfl) (by kernel_rfl) (by kernel_rfl) (fun _ _ _ h => h) (Or.inl ⟨by rfl, ?_⟩) hHeld ?_
       rotate_left
       · (intro W hSw; (try dsimp only at hSw); go_simp; all_goals (with_reducible rfl))
       simp only [gA, gB, gC, Act.put, gD, gE, gF]
       refine wpAnyH_take (i := 11) (v := ?_) rfl (by kernel_rfl) (by kernel_rfl) (by kernel_rfl) (fun _ _ _ h => h) (Or.inl ⟨by rfl, ?_⟩) hHeld ?_
       rotate_left
       · (intro W hSw; (try dsimp only at hSw); go_simp; all_goals (with_reducible rfl))
       simp only [gA, gB, gC, Act.put, gD, gE, gF]
       refine wpAnyH_ready (rs := [12]) (by kernel_rfl) (by simp) ?_
       refine AllReadyH.cons rfl (fun K hK => ?_) AllReadyH.nil
       ·
        simp only [gA, gB, gC]
        go_simp
        have sz_Vs := BX.size
        refine ent1 _ _ _ (Q := fun V => K _ V) ?_
        intro x6 hb hs_ Vs
        replace h5 := It.after hb h5
        replace h6 := It.after hb h6
        replace hs := It.after hb hs
        replace BX := step BX hb
        clear hb hs_
        refine hK.out _ _ (LS.out _ BX) (fun hHeld => ?_)
        clear hK K
        have c_Vs := Vs.c0
        have f0_Vs := Vs.frozen 0
        have d_Vs := Vs.c1
        have f1_Vs := Vs.frozen 1
        have l_Vs := Vs.lt
        have m_Vs := Nat.le_of_lt l_Vs
        refine wpAnyH_ready (rs := [13]) (by kernel_rfl) (by simp) ?_
        refine AllReadyH.cons rfl (fun K hK => ?_) AllReadyH.nil
        simp only [gA, gB, gC]
        go_simp
        clear c_Vs f0_Vs d_Vs f1_Vs l_Vs m_Vs
        refine st2 Vs (.bool ss) (.slice aS ls ks) (Q := fun W => K _ W) ?_
        intro x7 V' oth far
        replace h5 := h5.far Vs (noInt2 _ _ _ _) far.1
        replace h6 := h6.far Vs (noInt2 _ _ _ _) far.1
        replace hs := hs.far Vs (noInt2 _ _ _ _) far.1
        replace BX := far.2 _ _ (by first | omega | (simp; omega)) BX
        replace Vs := V'
        clear oth far
        refine hK.out _ _ (LS.out _ BX) (fun hHeld => ?_)
        clear hK K
        refine wpAnyH_take (i := 14) (v := ?_) rfl (by kernel_rfl) (by kernel_rfl) (by kernel_rfl) (fun _ _ _ h => h) (Or.inl ⟨by rfl, ?_⟩) hHeld ?_
        rotate_left
        · (intro W hSw; (try dsimp only at hSw); go_simp; all_goals (with_reducible rfl))
        simp only [gA, gB, gC, Act.put, gD, gE, gF]
        refine wpAnyH_done (by kernel_rfl) ?_ _
        refine NoPanic.normal ?_
        clear hHeld
        go_wp2_with fail
        go_meet
        exact ⟨_, ss, aS, ls, ks, zs, rfl, Vs, hs, es, BX, by show _ ≤ _; omega⟩
      ·
       simp only [gA, gB, gC]
       go_simp
       have sz_Vs := BX.size
       refine ent1 _ _ _ (Q := fun V => K _ V) ?_
       intro x5 hb hs_ Vs
       replace h5 := It.after hb h5
       replace h6 := It.after hb h6
       replace BX := step BX hb
       clear hb hs_
       refine hK.out _ _ (LS.out _ BX) (fun hHeld => ?_)
       clear hK K
       refine wpAnyH_ready (rs := [8]) (by kernel_rfl) (by simp) ?_
       refine AllReadyH.cons rfl (fun K hK => ?_) AllReadyH.nil
       ·
        simp only [gA, gB, gC]
        go_simp
        refine (wadd_ok s5 s6 a5 a6 l5 c5 l6 c6 z5 z6 _ h5 h6 (by rw [e5, e6]; exact HP.out.f3)).mono ?_
        rintro e x6 ⟨ss, aS, ls, ks, zs, rfl, hs, es, hb⟩
        replace Vs := Va.after hb Vs
        replace h5 := It.after hb h5
        replace h6 := It.after hb h6
        replace BX := step BX hb
        clear hb
        rw [e5, e6] at es
        try go_wp2_with fail
        refine hK.out _ _ (LS.out _ BX) (fun hHeld => ?_)
        clear hK K
        refine wpAnyH_take (i := 9) (v := ?_) rfl (by kernel_rfl) (by kernel_rfl) (by kernel_rfl) (fun _ _ _ h => h) (Or.inl ⟨by rfl, ?_⟩) hHeld ?_
        rotate_left
        · (intro W hSw; (try dsimp only at hSw); go_simp; all_goals (with_reducible rfl))
        simp only [gA, gB, gC, Act.put, gD, gE, gF]
        refine wpAnyH_take (i := 10) (v := ?_) rfl (by kernel_rfl) (by kernel_rfl) (by kernel_rfl) (fun _ _ _ h => h) (Or.inl ⟨by rfl, ?_⟩) hHeld ?_
        rotate_left
        · (intro W hSw; (try dsimp only at hSw); go_simp; all_goals (with_reducible rfl))
        simp only [gA, gB, gC, Act.put, gD, gE, gF]
        refine wpAnyH_take (i := 11) (v := ?_) rfl (by kernel_rfl) (by kernel_rfl) (by kernel_rfl) (fun _ _ _ h => h) (Or.inl ⟨by rfl, ?_⟩) hHeld ?_
        rotate_left
        · (intro W hSw; (try dsimp only at hSw); go_simp; all_goals (with_reducible rfl))
        simp only [gA, gB, gC, Act.put, gD, gE, gF]
        have c_Vs := Vs.c0
        have f0_Vs := Vs.frozen 0
        have d_Vs := Vs.c1
        have f1_Vs := Vs.frozen 1
        have l_Vs := Vs.lt
        have m_Vs := Nat.le_of_lt l_Vs
        refine wpAnyH_ready (rs := [13]) (by kernel_rfl) (by simp) ?_
        refine AllReadyH.cons rfl (fun K hK => ?_) AllReadyH.nil
        simp only [gA, gB, gC]
        go_simp
        clear c_Vs f0_Vs d_Vs f1_Vs l_Vs m_Vs
        refine st2 Vs (.bool ss) (.slice aS ls ks) (Q := fun W => K _ W) ?_
        intro x7 V' oth far
        replace h5 := h5.far Vs (noInt2 _ _ _ _) far.1
        replace h6 := h6.far Vs (noInt2 _ _ _ _) far.1
        replace hs := hs.far Vs (noInt2 _ _ _ _) far.1
        replace BX := far.2 _ _ (by first | omega | (simp; omega)) BX
        replace Vs := V'
        clear oth far
        refine hK.out _ _ (LS.out _ BX) (fun hHeld => ?_)
        clear hK K
        refine wpAnyH_take (i := 14) (v := ?_) rfl (by kernel_rfl) (by kernel_rfl) (by kernel_rfl) (fun _ _ _ h => h) (Or.inl ⟨by rfl, ?_⟩) hHeld ?_
        rotate_left
        · (intro W hSw; (try dsimp only at hSw); go_simp; all_goals (with_reducible rfl))
        simp only [gA, gB, gC, Act.put, gD, gE, gF]
        refine wpAnyH_done (by kernel_rfl) ?_ _
        refine NoPanic.normal ?_
        clear hHeld
        go_wp2_with fail
        go_meet
        exact ⟨_, ss, aS, ls, ks, zs, rfl, Vs, hs, es, BX, by show _ ≤ _; omega⟩
     ·
      simp only [gA, gB, gC]
      go_simp
      have sz_Vs := BX.size
      refine ent1 _ _ _ (Q := fun V => K _ V) ?_
      intro x4 hb hs_ Vs
      replace h5 := It.after hb h5
      replace BX := step BX hb
      clear hb hs_
      refine hK.out _ _ (LS.out _ BX) (fun hHeld => ?_)
      clear hK K
      refine wpAnyH_ready (rs := [7]) (by kernel_rfl) (by simp) ?_
      refine AllReadyH.cons rfl (fun K hK => ?_) AllReadyH.nil
      ·
       simp only [gA, gB, gC]
       go_simp
       refine (times_ok s2 a2 aA l2 c2 lA kA z2 zA _ (Rt.after BX L_h2.out).1 (Nt.after BX L_hA.out) (by rw [L_h2.out.2.2.1]; exact HP.out.f2)).mono ?_
       rintro e x5 ⟨s6, a6, l6, c6, z6, rfl, h6, e6, hb⟩
       replace Vs := Va.after hb Vs
       replace h5 := It.after hb h5
       replace BX := step BX hb
       clear hb
       rw [L_h2.out.2.2.1] at e6
       try go_wp2_with fail
       refine hK.out _ _ (LS.out _ BX) (fun hHeld => ?_)
       clear hK K
       refine wpAnyH_ready (rs := [8]) (by kernel_rfl) (by simp) ?_
       refine AllReadyH.cons rfl (fun K hK => ?_) AllReadyH.nil
       ·
        simp only [gA, gB, gC]
        go_simp
        refine (wadd_ok s5 s6 a5 a6 l5 c5 l6 c6 z5 z6 _ h5 h6 (by rw [e5, e6]; exact HP.out.f3)).mono ?_
        rintro e x6 ⟨ss, aS, ls, ks, zs, rfl, hs, es, hb⟩
        replace Vs := Va.after hb Vs
        replace h5 := It.after hb h5
        replace h6 := It.after hb h6
        replace BX := step BX hb
        clear hb
        rw [e5, e6] at es
        try go_wp2_with fail
        refine hK.out _ _ (LS.out _ BX) (fun hHeld => ?_)
        clear hK K
        refine wpAnyH_take (i := 9) (v := ?_) rfl (by kernel_rfl) (by kernel_rfl) (by kernel_rfl) (fun _ _ _ h => h) (Or.inl ⟨by rfl, ?_⟩) hHeld ?_
        rotate_left
        · (intro W hSw; (try dsimp only at hSw); go_simp; all_goals (with_reducible rfl))
        simp only [gA, gB, gC, Act.put, gD, gE, gF]
        refine wpAnyH_take (i := 10) (v := ?_) rfl (by kernel_rfl) (by kernel_rfl) (by kernel_rfl) (fun _ _ _ h => h) (Or.inl ⟨by rfl, ?_⟩) hHeld ?_
        rotate_left
        · (intro W hSw; (try dsimp only at hSw); go_simp; all_goals (with_reducible rfl))
        simp only [gA, gB, gC, Act.put, gD, gE, gF]
        refine wpAnyH_take (i := 11) (v := ?_) rfl (by kernel_rfl) (by kernel_rfl) (by kernel_rfl) (fun _ _ _ h => h) (Or.inl ⟨by rfl, ?_⟩) hHeld ?_
        rotate_left
        · (intro W hSw; (try dsimp only at hSw); go_simp; all_goals (with_reducible rfl))
        simp only [gA, gB, gC, Act.put, gD, gE, gF]
        have c_Vs := Vs.c0
        have f0_Vs := Vs.frozen 0
        have d_Vs := Vs.c1
        have f1_Vs := Vs.frozen 1
        have l_Vs := Vs.lt
        have m_Vs := Nat.le_of_lt l_Vs
        refine wpAnyH_ready (rs := [13]) (by kernel_rfl) (by simp) ?_
        refine AllReadyH.cons rfl (fun K hK => ?_) AllReadyH.nil
        simp only [gA, gB, gC]
        go_simp
        clear c_Vs f0_Vs d_Vs f1_Vs l_Vs m_Vs
        refine st2 Vs (.bool ss) (.slice aS ls ks) (Q := fun W => K _ W) ?_
        intro x7 V' oth far
        replace h5 := h5.far Vs (noInt2 _ _ _ _) far.1
        replace h6 := h6.far Vs (noInt2 _ _ _ _) far.1
        replace hs := hs.far Vs (noInt2 _ _ _ _) far.1
        replace BX := far.2 _ _ (by first | omega | (simp; omega)) BX
        replace Vs := V'
        clear oth far
        refine hK.out _ _ (LS.out _ BX) (fun hHeld => ?_)
        clear hK K
        refine wpAnyH_take (i := 14) (v := ?_) rfl (by kernel_rfl) (by kernel_rfl) (by kernel_rfl) (fun _ _ _ h => h) (Or.inl ⟨by rfl, ?_⟩) hHeld ?_
        rotate_left
        · (intro W hSw; (try dsimp only at hSw); go_simp; all_goals (with_reducible rfl))
        simp only [gA, gB, gC, Act.put, gD, gE, gF]
        refine wpAnyH_done (by kernel_rfl) ?_ _
        refine NoPanic.normal ?_
        clear hHeld
        go_wp2_with fail
        go_meet
        exact ⟨_, ss, aS, ls, ks, zs, rfl, Vs, hs, es, BX, by show _ ≤ _; omega⟩
    ·
     simp only [gA, gB, gC]
     go_simp
     have sz_Vs := BX.size
     refine ent1 _ _ _ (Q := fun V => K _ V) ?_
     intro x3 hb hs_ Vs
     replace BX := step BX hb
     clear hb hs_
     refine hK.out _ _ (LS.out _ BX) (fun hHeld => ?_)
     clear hK K
     refine wpAnyH_ready (rs := [3]) (by kernel_rfl) (by simp) ?_
     refine AllReadyH.cons rfl (fun K hK => ?_) AllReadyH.nil
     ·
      simp only [gA, gB, gC]
      go_simp
      refine (times_ok s1 a1 aB l1 c1 lB kB z1 zB _ (Rt.after BX L_h1.out).1 (Nt.after BX L_hB.out) (by rw [L_h1.out.2.2.1]; exact HP.out.f1)).mono ?_
      rintro e x4 ⟨s5, a5, l5, c5, z5, rfl, h5, e5, hb⟩
      replace Vs := Va.after hb Vs
      replace BX := step BX hb
      clear hb
      rw [L_h1.out.2.2.1] at e5
      try go_wp2_with fail
      refine hK.out _ _ (LS.out _ BX) (fun hHeld => ?_)
      clear hK K
      refine wpAnyH_ready (rs := [7]) (by kernel_rfl) (by simp) ?_
      refine AllReadyH.cons rfl (fun K hK => ?_) AllReadyH.nil
      ·
       simp only [gA, gB, gC]
       go_simp
       refine (times_ok s2 a2 aA l2 c2 lA kA z2 zA _ (Rt.after BX L_h2.out).1 (Nt.after BX L_hA.out) (by rw [L_h2.out.2.2.1]; exact HP.out.f2)).mono ?_
       rintro e x5 ⟨s6, a6, l6, c6, z6, rfl, h6, e6, hb⟩
       replace Vs := Va.after hb Vs
       replace h5 := It.after hb h5
       replace BX := step BX hb
       clear hb
       rw [L_h2.out.2.2.1] at e6
       try go_wp2_with fail
       refine hK.out _ _ (LS.out _ BX) (fun hHeld => ?_)
       clear hK K
       refine wpAnyH_ready (rs := [8]) (by kernel_rfl) (by simp) ?_
       refine AllReadyH.cons rfl (fun K hK => ?_) AllReadyH.nil
       ·
        simp only [gA, gB, gC]
        go_simp
        refine (wadd_ok s5 s6 a5 a6 l5 c5 l6 c6 z5 z6 _ h5 h6 (by rw [e5, e6]; exact HP.out.f3)).mono ?_
        rintro e x6 ⟨ss, aS, ls, ks, zs, rfl, hs, es, hb⟩
        replace Vs := Va.after hb Vs
        replace h5 := It.after hb h5
        replace h6 := It.after hb h6
        replace BX := step BX hb
        clear hb
        rw [e5, e6] at es
        try go_wp2_with fail
        refine hK.out _ _ (LS.out _ BX) (fun hHeld => ?_)
        clear hK K
        refine wpAnyH_take (i := 9) (v := ?_) rfl (by kernel_rfl) (by kernel_rfl) (by kernel_rfl) (fun _ _ _ h => h) (Or.inl ⟨by rfl, ?_⟩) hHeld ?_
        rotate_left
        · (intro W hSw; (try dsimp only at hSw); go_simp; all_goals (with_reducible rfl))
        simp only [gA, gB, gC, Act.put, gD, gE, gF]
        refine wpAnyH_take (i := 10) (v := ?_) rfl (by kernel_rfl) (by kernel_rfl) (by kernel_rfl) (fun _ _ _ h => h) (Or.inl ⟨by rfl, ?_⟩) hHeld ?_
        rotate_left
        · (intro W hSw; (try dsimp only at hSw); go_simp; all_goals (with_reducible rfl))
        simp only [gA, gB, gC, Act.put, gD, gE, gF]
        refine wpAnyH_take (i := 11) (v := ?_) rfl (by kernel_rfl) (by kernel_rfl) (by kernel_rfl) (fun _ _ _ h => h) (Or.inl ⟨by rfl, ?_⟩) hHeld ?_
        rotate_left
        · (intro W hSw; (try dsimp only at hSw); go_simp; all_goals (with_reducible rfl))
        simp only [gA, gB, gC, Act.put, gD, gE, gF]
        have c_Vs := Vs.c0
        have f0_Vs := Vs.frozen 0
        have d_Vs := Vs.c1
        have f1_Vs := Vs.frozen 1
        have l_Vs := Vs.lt
        have m_Vs := Nat.le_of_lt l_Vs
        refine wpAnyH_ready (rs := [13]) (by kernel_rfl) (by simp) ?_
        refine AllReadyH.cons rfl (fun K hK => ?_) AllReadyH.nil
        simp only [gA, gB, gC]
        go_simp
        clear c_Vs f0_Vs d_Vs f1_Vs l_Vs m_Vs
        refine st2 Vs (.bool ss) (.slice aS ls ks) (Q := fun W => K _ W) ?_
        intro x7 V' oth far
        replace h5 := h5.far Vs (noInt2 _ _ _ _) far.1
        replace h6 := h6.far Vs (noInt2 _ _ _ _) far.1
        replace hs := hs.far Vs (noInt2 _ _ _ _) far.1
        replace BX := far.2 _ _ (by first | omega | (simp; omega)) BX
        replace Vs := V'
        clear oth far
        refine hK.out _ _ (LS.out _ BX) (fun hHeld => ?_)
        clear hK K
        refine wpAnyH_take (i := 14) (v := ?_) rfl (by kernel_rfl) (by kernel_rfl) (by kernel_rfl) (fun _ _ _ h => h) (Or.inl ⟨by rfl, ?_⟩) hHeld ?_
        rotate_left
        · (intro W hSw; (try dsimp only at hSw); go_simp; all_goals (with_reducible rfl))
        simp only [gA, gB, gC, Act.put, gD, gE, gF]
        refine wpAnyH_done (by kernel_rfl) ?_ _
        refine NoPanic.normal ?_
        clear hHeld
        go_wp2_with fail
        go_meet
        exact ⟨_, ss, aS, ls, ks, zs, rfl, Vs, hs, es, BX, by show _ ≤ _; omega⟩
   case rest =>
    clear BX
    obtain ⟨b9, ss, aS, ls, ks, zs, rfl, Vs', hs', ES', BX', hineq'⟩ := hcut
    have Vs := Vs'.out
    have hs := hs'.out
    have ES := ES'.out
    have BX := BX'.out
    have hineq := hineq'.out
    clear Vs' hs' ES' BX' hineq'
    have iq4 := hineq
    clear hineq
    go_wp2_with fail
    have V0 := Va.after BX L_V0.out
    have V1 := Va.after BX L_V1.out
    have V2 := Va.after BX L_V2.out
    have Vg := Va.after BX L_Vg.out
    have VA := Va.after BX L_VA.out
    have VB := Va.after BX L_VB.out
    have h1 := Rt.after BX L_h1.out
    have h2 := Rt.after BX L_h2.out
    have hg := Nt.after BX L_hg.out
    have hA := Nt.after BX L_hA.out
    have hB := Nt.after BX L_hB.out
    have B0 := step L_B.out BX
    have LS : Hid (∀ W, Below wc.heap.size wc W → (fun W => W.cell? ⟨b9, 0, none⟩ = some (.bool ss) ∧ W.cell? ⟨b9, 1, none⟩ = some (.slice aS ls ks) ∧ W.cell? ⟨b6, 0, none⟩ = some (.slice ag lg kg)) W) := fun W hb => ⟨(Va.after hb Vs).c0, (Va.after hb Vs).c1, (Va.after hb Vg).cell⟩
    have lb_V0 := V0.lt
    have L_V0 : Hid (Va wc (w.heap.size) 45 #[.bool s1, .slice a1 l1 c1, .slice b1 m1 d1]) := V0
    have lb_V1 := V1.lt
    have L_V1 : Hid (Va wc (w.heap.size + 1) 45 #[.bool s2, .slice a2 l2 c2, .slice b2 m2 d2]) := V1
    have lb_V2 := V2.lt
    have L_V2 : Hid (Va wc (w.heap.size + 1 + 1) 45 #[.bool false, .slice none 0 0, .slice none 0 0]) := V2
    have lb_Vg := Vg.lt
    have L_Vg : Hid (Va wc (b6) 41 #[.slice ag lg kg]) := Vg
    have lb_VA := VA.lt
    have L_VA : Hid (Va wc (b7) 41 #[.slice aA lA kA]) := VA
    have lb_VB := VB.lt
    have L_VB : Hid (Va wc (b8) 41 #[.slice aB lB kB]) := VB
    have lb_Vs := Vs.lt
    have L_Vs : Hid (Va wc (b9) 43 #[.bool ss, .slice aS ls ks]) := Vs
    have L_h1 : Hid (Rt wc s1 a1 l1 c1 z1 b1 m1 d1 y1 v1) := h1
    have L_h2 : Hid (Rt wc s2 a2 l2 c2 z2 b2 m2 d2 y2 v2) := h2
    have L_hg : Hid (Nt wc ag lg kg zg) := hg
    have L_hA : Hid (Nt wc aA lA kA zA) := hA
    have L_hB : Hid (Nt wc aB lB kB zB) := hB
    have L_hs : Hid (It wc ss aS ls ks zs) := hs
    have L_B : Hid (Below w.heap.size w wc) := B0
    clear V0 V1 V2 Vg VA VB Vs h1 h2 hg hA hB hs B0
    have BX := Below.refl wc.heap.size wc
    go_cut [11, 12] (fun s11 s12 wx => ∃ (b11 : Nat) (er : Int) (s7 : Bool) (a7 : Option Addr) (l7 c7 : Nat) (z7 : List Int) (b7' : Option Addr) (m7 d7 : Nat) (y7 : List Int) (v7 : Rat), s11 = .pointer (some ⟨b11, 0, none⟩) ∧ s12 = .int .i64 er ∧ Hid (Va wx b11 45 #[.bool s7, .slice a7 l7 c7, .slice b7' m7 d7]) ∧ Hid (Rt wx s7 a7 l7 c7 z7 b7' m7 d7 y7 v7) ∧ Hid (RA (Rat.divInt (v1.num * num zB + v2.num * num zA) (num zg)) er v7) ∧ Hid (Below wc.heap.size wc wx) ∧ Hid (w.heap.size + 3 ≤ b11))
    case first =>
     refine wp_region_noPanic ?_
     replace BX := Below.drew BX
     refine wp_region_held_drew (S := (fun W => W.cell? ⟨b9, 0, none⟩ = some (.bool ss) ∧ W.cell? ⟨b9, 1, none⟩ = some (.slice aS ls ks) ∧ W.cell? ⟨b6, 0, none⟩ = some (.slice ag lg kg))) (by kernel_rfl) (LS.out _ BX) (fun hHeld => ?_)
     obtain ⟨x2, hxd⟩ : ∃ xd, xd = wc.drew := ⟨_, rfl⟩
     rw [← hxd] at BX hHeld ⊢
     clear hxd
     refine wpAnyH_take (i := 0) (v := ?_) rfl (by kernel_rfl) (by kernel_rfl) (by kernel_rfl) (fun _ _ _ h => h) (Or.inl ⟨by rfl, ?_⟩) hHeld ?_
     rotate_left
     · (intro W hSw; (try dsimp only at hSw); go_simp; all_goals (with_reducible rfl))
     simp only [gA, gB, Act.put, gD, gE, gF]
     refine wpAnyH_take (i := 1) (v := ?_) rfl (by kernel_rfl) (by kernel_rfl) (by kernel_rfl) (fun _ _ _ h => h) (Or.inl ⟨by rfl, ?_⟩) hHeld ?_
     rotate_left
     · (intro W hSw; (try dsimp only at hSw); go_simp; all_goals (with_reducible rfl))
     simp only [gA, gB, gC, Act.put, gD, gE, gF]
     refine wpAnyH_ready (rs := [2, 7]) (by kernel_rfl) (by simp) ?_
     refine AllReadyH.cons rfl (fun K hK => ?_) (AllReadyH.cons rfl (fun K hK => ?_) AllReadyH.nil)
     ·
      simp only [gA, gB, gC]
      go_simp
      refine (qabove_any ag lg kg zg _ (Nt.after BX L_hg.out)).mono ?_
      rintro e x3 ⟨rfl, hgi, hb⟩
      replace BX := step BX hb
      clear hb
      try go_wp2_with fail
      refine hK.out _ _ (LS.out _ BX) (fun hHeld => ?_)
      clear hK K
      refine wpAnyH_ready (rs := [3, 7]) (by kernel_rfl) (by simp) ?_
      refine AllReadyH.cons rfl (fun K hK => ?_) (AllReadyH.cons rfl (fun K hK => ?_) AllReadyH.nil)
      ·
       simp only [gA, gB, gC]
       go_simp
       refine (qnew_ok ss false aS ag ls ks lg kg zs zg _ (It.after BX L_hs.out) hgi (by show num zg ≠ 0; exact HP.out.g0)).mono ?_
       rintro e x4 ⟨er, s7, a7, l7, c7, z7, b7', m7, d7, y7, v7, rfl, h7, hra, hb⟩
       replace hgi := It.after hb hgi
       replace BX := step BX hb
       clear hb
       try go_wp2_with fail
       refine hK.out _ _ (LS.out _ BX) (fun hHeld => ?_)
       clear hK K
       refine wpAnyH_take (i := 4) (v := ?_) rfl (by kernel_rfl) (by kernel_rfl) (by kernel_rfl) (fun _ _ _ h => h) (Or.inl ⟨by rfl, ?_⟩) hHeld ?_
       rotate_left
       · (intro W hSw; (try dsimp only at hSw); go_simp; all_goals (with_reducible rfl))
       simp only [gA, gB, gC, Act.put, gD, gE, gF]
       refine wpAnyH_take (i := 5) (v := ?_) rfl (by kernel_rfl) (by kernel_rfl) (by kernel_rfl) (fun _ _ _ h => h) (Or.inl ⟨by rfl, ?_⟩) hHeld ?_
       rotate_left
       · (intro W hSw; (try dsimp only at hSw); go_simp; all_goals (with_reducible rfl))
       simp only [gA, gB, gC, Act.put, gD, gE, gF]
       refine wpAnyH_take (i := 6) (v := ?_) rfl (by kernel_rfl) (by kernel_rfl) (by kernel_rfl) (fun _ _ _ h => h) (Or.inl ⟨by rfl, ?_⟩) hHeld ?_
       rotate_left
       · (intro W hSw; (try dsimp only at hSw); go_simp; all_goals (with_reducible rfl))
       simp only [gA, gB, gC, Act.put, gD, gE, gF]
       refine wpAnyH_ready (rs := [7]) (by kernel_rfl) (by simp) ?_
       refine AllReadyH.cons rfl (fun K hK => ?_) AllReadyH.nil
       ·
        simp only [gA, gB, gC]
        go_simp
        have sz_Vl := BX.size
        refine ent1 _ _ _ (Q := fun V => K _ V) ?_
        intro x5 hb hs_ Vl
        replace hgi := It.after hb hgi
        replace h7 := Rt.after hb h7
        replace BX := step BX hb
        clear hb hs_
        refine hK.out _ _ (LS.out _ BX) (fun hHeld => ?_)
        clear hK K
        have c_Vl := Vl.d0
        have f0_Vl := Vl.frozen 0
        have d_Vl := Vl.d1
        have f1_Vl := Vl.frozen 1
        have e_Vl := Vl.d2
        have f2_Vl := Vl.frozen 2
        have l_Vl := Vl.lt
        have m_Vl := Nat.le_of_lt l_Vl
        refine wpAnyH_ready (rs := [8]) (by kernel_rfl) (by simp) ?_
        refine AllReadyH.cons rfl (fun K hK => ?_) AllReadyH.nil
        simp only [gA, gB, gC]
        go_simp
        clear c_Vl f0_Vl d_Vl f1_Vl e_Vl f2_Vl l_Vl m_Vl
        refine sto3 Vl (.bool s7) (.slice a7 l7 c7) (.slice b7' m7 d7) (Q := fun W => K _ W) ?_
        intro x6 V' oth far
        replace hgi := hgi.far Vl (noInt3 _ _ _ _ _ _ _) far.1
        replace h7 := h7.far Vl (noInt3 _ _ _ _ _ _ _) far.1
        replace BX := far.2 _ _ (by first | omega | (simp; omega)) BX
        replace Vl := V'
        clear oth far
        refine hK.out _ _ (LS.out _ BX) (fun hHeld => ?_)
        clear hK K
        refine wpAnyH_take (i := 9) (v := ?_) rfl (by kernel_rfl) (by kernel_rfl) (by kernel_rfl) (fun _ _ _ h => h) (Or.inl ⟨by rfl, ?_⟩) hHeld ?_
        rotate_left
        · (intro W hSw; (try dsimp only at hSw); go_simp; all_goals (with_reducible rfl))
        simp only [gA, gB, gC, Act.put, gD, gE, gF]
        refine wpAnyH_done (by kernel_rfl) ?_ _
        refine NoPanic.normal ?_
        clear hHeld
        go_wp2_with fail
        go_meet
        exact ⟨_, er, s7, a7, l7, c7, z7, b7', m7, d7, y7, v7, rfl, rfl, Vl, h7, (by show RA _ _ _; rw [ES] at hra; exact hra), BX, by show _ ≤ _; omega⟩
      ·
       simp only [gA, gB, gC]
       go_simp
       have sz_Vl := BX.size
       refine ent1 _ _ _ (Q := fun V => K _ V) ?_
       intro x4 hb hs_ Vl
       replace hgi := It.after hb hgi
       replace BX := step BX hb
       clear hb hs_
       refine hK.out _ _ (LS.out _ BX) (fun hHeld => ?_)
       clear hK K
       refine wpAnyH_ready (rs := [3]) (by kernel_rfl) (by simp) ?_
       refine AllReadyH.cons rfl (fun K hK => ?_) AllReadyH.nil
       ·
        simp only [gA, gB, gC]
        go_simp
        refine (qnew_ok ss false aS ag ls ks lg kg zs zg _ (It.after BX L_hs.out) hgi (by show num zg ≠ 0; exact HP.out.g0)).mono ?_
        rintro e x5 ⟨er, s7, a7, l7, c7, z7, b7', m7, d7, y7, v7, rfl, h7, hra, hb⟩
        replace Vl := Va.after hb Vl
        replace hgi := It.after hb hgi
        replace BX := step BX hb
        clear hb
        try go_wp2_with fail
        refine hK.out _ _ (LS.out _ BX) (fun hHeld => ?_)
        clear hK K
        refine wpAnyH_take (i := 4) (v := ?_) rfl (by kernel_rfl) (by kernel_rfl) (by kernel_rfl) (fun _ _ _ h => h) (Or.inl ⟨by rfl, ?_⟩) hHeld ?_
        rotate_left
        · (intro W hSw; (try dsimp only at hSw); go_simp; all_goals (with_reducible rfl))
        simp only [gA, gB, gC, Act.put, gD, gE, gF]
        refine wpAnyH_take (i := 5) (v := ?_) rfl (by kernel_rfl) (by kernel_rfl) (by kernel_rfl) (fun _ _ _ h => h) (Or.inl ⟨by rfl, ?_⟩) hHeld ?_
        rotate_left
        · (intro W hSw; (try dsimp only at hSw); go_simp; all_goals (with_reducible rfl))
        simp only [gA, gB, gC, Act.put, gD, gE, gF]
        refine wpAnyH_take (i := 6) (v := ?_) rfl (by kernel_rfl) (by kernel_rfl) (by kernel_rfl) (fun _ _ _ h => h) (Or.inl ⟨by rfl, ?_⟩) hHeld ?_
        rotate_left
        · (intro W hSw; (try dsimp only at hSw); go_simp; all_goals (with_reducible rfl))
        simp only [gA, gB, gC, Act.put, gD, gE, gF]
        have c_Vl := Vl.d0
        have f0_Vl := Vl.frozen 0
        have d_Vl := Vl.d1
        have f1_Vl := Vl.frozen 1
        have e_Vl := Vl.d2
        have f2_Vl := Vl.frozen 2
        have l_Vl := Vl.lt
        have m_Vl := Nat.le_of_lt l_Vl
        refine wpAnyH_ready (rs := [8]) (by kernel_rfl) (by simp) ?_
        refine AllReadyH.cons rfl (fun K hK => ?_) AllReadyH.nil
        simp only [gA, gB, gC]
        go_simp
        clear c_Vl f0_Vl d_Vl f1_Vl e_Vl f2_Vl l_Vl m_Vl
        refine sto3 Vl (.bool s7) (.slice a7 l7 c7) (.slice b7' m7 d7) (Q := fun W => K _ W) ?_
        intro x6 V' oth far
        replace hgi := hgi.far Vl (noInt3 _ _ _ _ _ _ _) far.1
        replace h7 := h7.far Vl (noInt3 _ _ _ _ _ _ _) far.1
        replace BX := far.2 _ _ (by first | omega | (simp; omega)) BX
        replace Vl := V'
        clear oth far
        refine hK.out _ _ (LS.out _ BX) (fun hHeld => ?_)
        clear hK K
        refine wpAnyH_take (i := 9) (v := ?_) rfl (by kernel_rfl) (by kernel_rfl) (by kernel_rfl) (fun _ _ _ h => h) (Or.inl ⟨by rfl, ?_⟩) hHeld ?_
        rotate_left
        · (intro W hSw; (try dsimp only at hSw); go_simp; all_goals (with_reducible rfl))
        simp only [gA, gB, gC, Act.put, gD, gE, gF]
        refine wpAnyH_done (by kernel_rfl) ?_ _
        refine NoPanic.normal ?_
        clear hHeld
        go_wp2_with fail
        go_meet
        exact ⟨_, er, s7, a7, l7, c7, z7, b7', m7, d7, y7, v7, rfl, rfl, Vl, h7, (by show RA _ _ _; rw [ES] at hra; exact hra), BX, by show _ ≤ _; omega⟩
     ·
      simp only [gA, gB, gC]
      go_simp
      have sz_Vl := BX.size
      refine ent1 _ _ _ (Q := fun V => K _ V) ?_
      intro x3 hb hs_ Vl
      replace BX := step BX hb
      clear hb hs_
      refine hK.out _ _ (LS.out _ BX) (fun hHeld => ?_)
      clear hK K
      refine wpAnyH_ready (rs := [2]) (by kernel_rfl) (by simp) ?_
      refine AllReadyH.cons rfl (fun K hK => ?_) AllReadyH.nil
      ·
       simp only [gA, gB, gC]
       go_simp
       refine (qabove_any ag lg kg zg _ (Nt.after BX L_hg.out)).mono ?_
       rintro e x4 ⟨rfl, hgi, hb⟩
       replace Vl := Va.after hb Vl
       replace BX := step BX hb
       clear hb
       try go_wp2_with fail
       refine hK.out _ _ (LS.out _ BX) (fun hHeld => ?_)
       clear hK K
       refine wpAnyH_ready (rs := [3]) (by kernel_rfl) (by simp) ?_
       refine AllReadyH.cons rfl (fun K hK => ?_) AllReadyH.nil
       ·
        simp only [gA, gB, gC]
        go_simp
        refine (qnew_ok ss false aS ag ls ks lg kg zs zg _ (It.after BX L_hs.out) hgi (by show num zg ≠ 0; exact HP.out.g0)).mono ?_
        rintro e x5 ⟨er, s7, a7, l7, c7, z7, b7', m7, d7, y7, v7, rfl, h7, hra, hb⟩
        replace Vl := Va.after hb Vl
        replace hgi := It.after hb hgi
        replace BX := step BX hb
        clear hb
        try go_wp2_with fail
        refine hK.out _ _ (LS.out _ BX) (fun hHeld => ?_)
        clear hK K
        refine wpAnyH_take (i := 4) (v := ?_) rfl (by kernel_rfl) (by kernel_rfl) (by kernel_rfl) (fun _ _ _ h => h) (Or.inl ⟨by rfl, ?_⟩) hHeld ?_
        rotate_left
        · (intro W hSw; (try dsimp only at hSw); go_simp; all_goals (with_reducible rfl))
        simp only [gA, gB, gC, Act.put, gD, gE, gF]
        refine wpAnyH_take (i := 5) (v := ?_) rfl (by kernel_rfl) (by kernel_rfl) (by kernel_rfl) (fun _ _ _ h => h) (Or.inl ⟨by rfl, ?_⟩) hHeld ?_
        rotate_left
        · (intro W hSw; (try dsimp only at hSw); go_simp; all_goals (with_reducible rfl))
        simp only [gA, gB, gC, Act.put, gD, gE, gF]
        refine wpAnyH_take (i := 6) (v := ?_) rfl (by kernel_rfl) (by kernel_rfl) (by kernel_rfl) (fun _ _ _ h => h) (Or.inl ⟨by rfl, ?_⟩) hHeld ?_
        rotate_left
        · (intro W hSw; (try dsimp only at hSw); go_simp; all_goals (with_reducible rfl))
        simp only [gA, gB, gC, Act.put, gD, gE, gF]
        have c_Vl := Vl.d0
        have f0_Vl := Vl.frozen 0
        have d_Vl := Vl.d1
        have f1_Vl := Vl.frozen 1
        have e_Vl := Vl.d2
        have f2_Vl := Vl.frozen 2
        have l_Vl := Vl.lt
        have m_Vl := Nat.le_of_lt l_Vl
        refine wpAnyH_ready (rs := [8]) (by kernel_rfl) (by simp) ?_
        refine AllReadyH.cons rfl (fun K hK => ?_) AllReadyH.nil
        simp only [gA, gB, gC]
        go_simp
        clear c_Vl f0_Vl d_Vl f1_Vl e_Vl f2_Vl l_Vl m_Vl
        refine sto3 Vl (.bool s7) (.slice a7 l7 c7) (.slice b7' m7 d7) (Q := fun W => K _ W) ?_
        intro x6 V' oth far
        replace hgi := hgi.far Vl (noInt3 _ _ _ _ _ _ _) far.1
        replace h7 := h7.far Vl (noInt3 _ _ _ _ _ _ _) far.1
        replace BX := far.2 _ _ (by first | omega | (simp; omega)) BX
        replace Vl := V'
        clear oth far
        refine hK.out _ _ (LS.out _ BX) (fun hHeld => ?_)
        clear hK K
        refine wpAnyH_take (i := 9) (v := ?_) rfl (by kernel_rfl) (by kernel_rfl) (by kernel_rfl) (fun _ _ _ h => h) (Or.inl ⟨by rfl, ?_⟩) hHeld ?_
        rotate_left
        · (intro W hSw; (try dsimp only at hSw); go_simp; all_goals (with_reducible rfl))
        simp only [gA, gB, gC, Act.put, gD, gE, gF]
        refine wpAnyH_done (by kernel_rfl) ?_ _
        refine NoPanic.normal ?_
        clear hHeld
        go_wp2_with fail
        go_meet
        exact ⟨_, er, s7, a7, l7, c7, z7, b7', m7, d7, y7, v7, rfl, rfl, Vl, h7, (by show RA _ _ _; rw [ES] at hra; exact hra), BX, by show _ ≤ _; omega⟩
    case rest =>
     clear BX
     obtain ⟨b11, er, s7, a7, l7, c7, z7, b7', m7, d7, y7, v7, rfl, rfl, Vl', h7', HR', BX', hineq'⟩ := hcut
     have Vl := Vl'.out
     have h7 := h7'.out
     have HR := HR'.out
     have BX := BX'.out
     have hineq := hineq'.out
     clear Vl' h7' HR' BX' hineq'
     have iq5 := hineq
     clear hineq
     have V2 := Va.after BX L_V2.out
     have VA := Va.after BX L_VA.out
     have VB := Va.after BX L_VB.out
     have hA := Nt.after BX L_hA.out
     have hB := Nt.after BX L_hB.out
     have B0 := step L_B.out BX
     rcases HR with ⟨hS, rfl, rfl⟩ | ⟨hS, rfl, rfl⟩
     ·
      obtain ⟨v7, hv7⟩ : ∃ v7, v7 = Rat.divInt (v1.num * num zB + v2.num * num zA) (num zg) := ⟨_, rfl⟩
      rw [← hv7] at h7 hS
      have H8 : Hid ((v1 + v2).num = v7.num ∧ ((v1 + v2).den : Int) = num zA * num zB * v7.den ∧ num zA * num zB < pw 4096 ∧ num zA * num zB * (v7.den : Int) < pw 4096) := ⟨by rw [hv7]; exact HP.out.num, by rw [hv7]; exact HP.out.den, HP.out.f4, HP.out.f5 _ hS⟩
      clear HP hv7 hS
      have c_VA := VA.cell
      have f0_VA := VA.frozen 0
      have l_VA := VA.lt
      have m_VA := Nat.le_of_lt l_VA
      have c_VB := VB.cell
      have f0_VB := VB.frozen 0
      have l_VB := VB.lt
      have m_VB := Nat.le_of_lt l_VB
      go_wp2_with fail
      refine (nmul_ok aA aB lA kA lB kB zA zB wc hA hB H8.out.2.2.1).mono ?_
      rintro e x2 ⟨aD, lD, kD, zD, rfl, hD, eD, hb⟩
      replace V2 := Va.after hb V2
      replace VA := Va.after hb VA
      replace VB := Va.after hb VB
      replace Vl := Va.after hb Vl
      replace hA := Nt.after hb hA
      replace hB := Nt.after hb hB
      replace h7 := Rt.after hb h7
      replace B0 := step B0 hb
      clear hb
      clear c_VA f0_VA l_VA m_VA c_VB f0_VB l_VB m_VB
      go_wp2_with fail
      have szd := B0.size
      have lt_d_V2 := V2.lt
      have lt_d_VA := VA.lt
      have lt_d_VB := VB.lt
      have lt_d_Vl := Vl.lt
      refine ent1 x2 _ _ (Q := fun W => Code.wp Tryz.prog _ _ _ W) ?_
      intro x3 hb hs_x3 Vd
      replace V2 := Va.after hb V2
      replace VA := Va.after hb VA
      replace VB := Va.after hb VB
      replace Vl := Va.after hb Vl
      replace hA := Nt.after hb hA
      replace hB := Nt.after hb hB
      replace h7 := Rt.after hb h7
      replace hD := Nt.after hb hD
      replace B0 := step B0 hb
      clear hb hs_x3
      refine wp_region_noPanic ?_
      replace V2 : Va x3.drew _ _ _ := V2
      replace VA : Va x3.drew _ _ _ := VA
      replace VB : Va x3.drew _ _ _ := VB
      replace Vl : Va x3.drew _ _ _ := Vl
      replace Vd : Va x3.drew _ _ _ := Vd
      replace hA := hA.drw
      replace hB := hB.drw
      replace h7 := h7.drw
      replace hD := hD.drw
      replace B0 := Below.drew B0
      refine wp_region_held_drew (S := (fun W => W.cell? ⟨b11, 0, none⟩ = some (.bool s7) ∧ W.cell? ⟨b11, 1, none⟩ = some (.slice a7 l7 c7) ∧ W.cell? ⟨b11, 2, none⟩ = some (.slice b7' m7 d7))) (by kernel_rfl) ⟨Vl.d0, Vl.d1, Vl.d2⟩ (fun hHeld => ?_)
      obtain ⟨x4, hxd⟩ : ∃ xd, xd = x3.drew := ⟨_, rfl⟩
      rw [← hxd] at V2 VA VB Vl Vd hA hB h7 hD B0 hHeld ⊢
      clear hxd
      refine wpAnyH_take (i := 1) (v := ?_) rfl (by kernel_rfl) (by kernel_rfl) (by kernel_rfl) (fun _ _ _ h => h) (Or.inl ⟨by rfl, ?_⟩) hHeld ?_
      rotate_left
      · (intro W hSw; (try dsimp only at hSw); go_simp; all_goals (with_reducible rfl))
      simp only [gA, gB, gC, Act.put, gD, gE, gF]
      refine wpAnyH_ready (rs := [0, 2]) (by kernel_rfl) (by simp) ?_
      refine AllReadyH.cons rfl (fun K hK => ?_) (AllReadyH.cons rfl (fun K hK => ?_) AllReadyH.nil)
      ·
       have c_Vd := Vd.cell
       have f0_Vd := Vd.frozen 0
       have l_Vd := Vd.lt
       have m_Vd := Nat.le_of_lt l_Vd
       simp only [gA, gB]
       go_simp
       clear c_Vd f0_Vd l_Vd m_Vd
       refine hK.out _ _ ⟨Vl.d0, Vl.d1, Vl.d2⟩ (fun hHeld => ?_)
       clear hK K
       refine wpAnyH_ready (rs := [2]) (by kernel_rfl) (by simp) ?_
       refine AllReadyH.cons rfl (fun K hK => ?_) AllReadyH.nil
       ·
        simp only [gA, gB, gC]
        go_simp
        refine (rden_any s7 a7 l7 c7 b7' m7 d7 y7 _ h7.2.1).mono ?_
        rintro e x5 ⟨b8', m8, d8, y8, rfl, h8, e8, hb⟩
        replace V2 := Va.after hb V2
        replace VA := Va.after hb VA
        replace VB := Va.after hb VB
        replace Vl := Va.after hb Vl
        replace Vd := Va.after hb Vd
        replace hA := Nt.after hb hA
        replace hB := Nt.after hb hB
        replace h7 := Rt.after hb h7
        replace hD := Nt.after hb hD
        replace B0 := step B0 hb
        clear hb
        replace e8 := e8.trans h7.2.2.2.1
        try go_wp2_with fail
        refine hK.out _ _ ⟨Vl.d0, Vl.d1, Vl.d2⟩ (fun hHeld => ?_)
        clear hK K
        refine wpAnyH_ready (rs := [3]) (by kernel_rfl) (by simp) ?_
        refine AllReadyH.cons rfl (fun K hK => ?_) AllReadyH.nil
        ·
         simp only [gA, gB, gC]
         go_simp
         refine (nmul_ok aD b8' lD kD m8 d8 zD y8 _ hD h8 (by rw [eD, e8]; exact H8.out.2.2.2)).mono ?_
         rintro e x6 ⟨aE, lE, kE, zE, rfl, hE, eE, hb⟩
         replace V2 := Va.after hb V2
         replace VA := Va.after hb VA
         replace VB := Va.after hb VB
         replace Vl := Va.after hb Vl
         replace Vd := Va.after hb Vd
         replace hA := Nt.after hb hA
         replace hB := Nt.after hb hB
         replace h7 := Rt.after hb h7
         replace hD := Nt.after hb hD
         replace h8 := Nt.after hb h8
         replace B0 := step B0 hb
         clear hb
         rw [eD, e8] at eE
         try go_wp2_with fail
         refine hK.out _ _ ⟨Vl.d0, Vl.d1, Vl.d2⟩ (fun hHeld => ?_)
         clear hK K
         refine wpAnyH_take (i := 4) (v := ?_) rfl (by kernel_rfl) (by kernel_rfl) (by kernel_rfl) (fun _ _ _ h => h) (Or.inl ⟨by rfl, ?_⟩) hHeld ?_
         rotate_left
         · (intro W hSw; (try dsimp only at hSw); go_simp; all_goals (with_reducible rfl))
         simp only [gA, gB, gC, Act.put, gD, gE, gF]
         refine wpAnyH_take (i := 5) (v := ?_) rfl (by kernel_rfl) (by kernel_rfl) (by kernel_rfl) (fun _ _ _ h => h) (Or.inl ⟨by rfl, ?_⟩) hHeld ?_
         rotate_left
         · (intro W hSw; (try dsimp only at hSw); go_simp; all_goals (with_reducible rfl))
         simp only [gA, gB, gC, Act.put, gD, gE, gF]
         refine wpAnyH_take (i := 6) (v := ?_) rfl (by kernel_rfl) (by kernel_rfl) (by kernel_rfl) (fun _ _ _ h => h) (Or.inl ⟨by rfl, ?_⟩) hHeld ?_
         rotate_left
         · (intro W hSw; (try dsimp only at hSw); go_simp; all_goals (with_reducible rfl))
         simp only [gA, gB, gC, Act.put, gD, gE, gF]
         have c_Vd := Vd.cell
         have f0_Vd := Vd.frozen 0
         have l_Vd := Vd.lt
         have m_Vd := Nat.le_of_lt l_Vd
         refine wpAnyH_ready (rs := [7]) (by kernel_rfl) (by simp) ?_
         refine AllReadyH.cons rfl (fun K hK => ?_) AllReadyH.nil
         simp only [gA, gB, gC]
         go_simp
         clear c_Vd f0_Vd l_Vd m_Vd
         refine sto1 Vd (.slice aE lE kE) (Q := fun W => K _ W) ?_
         intro x7 V' oth far
         replace V2 := oth _ _ _ (by first | omega | assumption | (simp; omega)) V2
         replace VA := oth _ _ _ (by first | omega | assumption | (simp; omega)) VA
         replace VB := oth _ _ _ (by first | omega | assumption | (simp; omega)) VB
         replace Vl := oth _ _ _ (by first | omega | assumption | (simp; omega)) Vl
         replace hA := hA.far Vd (noInt1 _ _ _) far.1
         replace hB := hB.far Vd (noInt1 _ _ _) far.1
         replace h7 := h7.far Vd (noInt1 _ _ _) far.1
         replace hD := hD.far Vd (noInt1 _ _ _) far.1
         replace h8 := h8.far Vd (noInt1 _ _ _) far.1
         replace hE := hE.far Vd (noInt1 _ _ _) far.1
         replace B0 := far.2 _ _ (by first | omega | (simp; omega)) B0
         replace Vd := V'
         clear oth far
         refine hK.out _ _ ⟨Vl.d0, Vl.d1, Vl.d2⟩ (fun hHeld => ?_)
         clear hK K
         refine wpAnyH_done (by kernel_rfl) ?_ _
         refine NoPanic.normal ?_
         clear hHeld
         have c_Vl := Vl.d0
         have f0_Vl := Vl.frozen 0
         have d_Vl := Vl.d1
         have f1_Vl := Vl.frozen 1
         have e_Vl := Vl.d2
         have f2_Vl := Vl.frozen 2
         have l_Vl := Vl.lt
         have m_Vl := Nat.le_of_lt l_Vl
         have c_Vd := Vd.cell
         have f0_Vd := Vd.frozen 0
         have l_Vd := Vd.lt
         have m_Vd := Nat.le_of_lt l_Vd
         have c_V2 := V2.d0
         have f0_V2 := V2.frozen 0
         have d_V2 := V2.d1
         have f1_V2 := V2.frozen 1
         have e_V2 := V2.d2
         have f2_V2 := V2.frozen 2
         have l_V2 := V2.lt
         have m_V2 := Nat.le_of_lt l_V2
         go_wp2_with fail
         refine (rmade_any s7 a7 l7 c7 z7 aE lE kE zE (v1 + v2) x7 h7.1 hE (by rw [H8.out.1]; exact h7.2.2.1) (by unfold dn; rw [eE, ← H8.out.2.1, if_neg (by have := (v1 + v2).den_pos; omega)])).mono ?_
         rintro e x8 ⟨er', s', a', l', c', zs', b', m', d', ds', v', rfl, h', hra, hb⟩
         replace V2 := Va.after hb V2
         replace VA := Va.after hb VA
         replace VB := Va.after hb VB
         replace Vl := Va.after hb Vl
         replace Vd := Va.after hb Vd
         replace hA := Nt.after hb hA
         replace hB := Nt.after hb hB
         replace h7 := Rt.after hb h7
         replace hD := Nt.after hb hD
         replace h8 := Nt.after hb h8
         replace hE := Nt.after hb hE
         replace B0 := step B0 hb
         clear hb
         clear c_Vl f0_Vl d_Vl f1_Vl e_Vl f2_Vl l_Vl m_Vl c_Vd f0_Vd l_Vd m_Vd c_V2 f0_V2 d_V2 f1_V2 e_V2 f2_V2 l_V2 m_V2
         have c_V2 := V2.d0
         have f0_V2 := V2.frozen 0
         have d_V2 := V2.d1
         have f1_V2 := V2.frozen 1
         have e_V2 := V2.d2
         have f2_V2 := V2.frozen 2
         have l_V2 := V2.lt
         have m_V2 := Nat.le_of_lt l_V2
         go_wp2_with fail
         refine bodyPost_ret (results_rt rfl rfl (V2.set3 _ _ _)) rfl ?_
         exact ⟨er', s', a', l', c', zs', b', m', d', ds', v', rfl, h'.far V2 (noInt3 _ _ _ _ _ _ _) (fa3 _ _ _ _ _), hra, belo3 B0 (by omega) _ _ _⟩
      ·
       simp only [gA, gB, gC]
       go_simp
       refine (rden_any s7 a7 l7 c7 b7' m7 d7 y7 _ h7.2.1).mono ?_
       rintro e x5 ⟨b8', m8, d8, y8, rfl, h8, e8, hb⟩
       replace V2 := Va.after hb V2
       replace VA := Va.after hb VA
       replace VB := Va.after hb VB
       replace Vl := Va.after hb Vl
       replace Vd := Va.after hb Vd
       replace hA := Nt.after hb hA
       replace hB := Nt.after hb hB
       replace h7 := Rt.after hb h7
       replace hD := Nt.after hb hD
       replace B0 := step B0 hb
       clear hb
       replace e8 := e8.trans h7.2.2.2.1
       try go_wp2_with fail
       refine hK.out _ _ ⟨Vl.d0, Vl.d1, Vl.d2⟩ (fun hHeld => ?_)
       clear hK K
       refine wpAnyH_ready (rs := [0]) (by kernel_rfl) (by simp) ?_
       refine AllReadyH.cons rfl (fun K hK => ?_) AllReadyH.nil
       ·
        have c_Vd := Vd.cell
        have f0_Vd := Vd.frozen 0
        have l_Vd := Vd.lt
        have m_Vd := Nat.le_of_lt l_Vd
        simp only [gA, gB]
        go_simp
        clear c_Vd f0_Vd l_Vd m_Vd
        refine hK.out _ _ ⟨Vl.d0, Vl.d1, Vl.d2⟩ (fun hHeld => ?_)
        clear hK K
        refine wpAnyH_ready (rs := [3]) (by kernel_rfl) (by simp) ?_
        refine AllReadyH.cons rfl (fun K hK => ?_) AllReadyH.nil
        ·
         simp only [gA, gB, gC]
         go_simp
         refine (nmul_ok aD b8' lD kD m8 d8 zD y8 _ hD h8 (by rw [eD, e8]; exact H8.out.2.2.2)).mono ?_
         rintro e x6 ⟨aE, lE, kE, zE, rfl, hE, eE, hb⟩
         replace V2 := Va.after hb V2
         replace VA := Va.after hb VA
         replace VB := Va.after hb VB
         replace Vl := Va.after hb Vl
         replace Vd := Va.after hb Vd
         replace hA := Nt.after hb hA
         replace hB := Nt.after hb hB
         replace h7 := Rt.after hb h7
         replace hD := Nt.after hb hD
         replace h8 := Nt.after hb h8
         replace B0 := step B0 hb
         clear hb
         rw [eD, e8] at eE
         try go_wp2_with fail
         refine hK.out _ _ ⟨Vl.d0, Vl.d1, Vl.d2⟩ (fun hHeld => ?_)
         clear hK K
         refine wpAnyH_take (i := 4) (v := ?_) rfl (by kernel_rfl) (by kernel_rfl) (by kernel_rfl) (fun _ _ _ h => h) (Or.inl ⟨by rfl, ?_⟩) hHeld ?_
         rotate_left
         · (intro W hSw; (try dsimp only at hSw); go_simp; all_goals (with_reducible rfl))
         simp only [gA, gB, gC, Act.put, gD, gE, gF]
         refine wpAnyH_take (i := 5) (v := ?_) rfl (by kernel_rfl) (by kernel_rfl) (by kernel_rfl) (fun _ _ _ h => h) (Or.inl ⟨by rfl, ?_⟩) hHeld ?_
         rotate_left
         · (intro W hSw; (try dsimp only at hSw); go_simp; all_goals (with_reducible rfl))
         simp only [gA, gB, gC, Act.put, gD, gE, gF]
         refine wpAnyH_take (i := 6) (v := ?_) rfl (by kernel_rfl) (by kernel_rfl) (by kernel_rfl) (fun _ _ _ h => h) (Or.inl ⟨by rfl, ?_⟩) hHeld ?_
         rotate_left
         · (intro W hSw; (try dsimp only at hSw); go_simp; all_goals (with_reducible rfl))
         simp only [gA, gB, gC, Act.put, gD, gE, gF]
         have c_Vd := Vd.cell
         have f0_Vd := Vd.frozen 0
         have l_Vd := Vd.lt
         have m_Vd := Nat.le_of_lt l_Vd
         refine wpAnyH_ready (rs := [7]) (by kernel_rfl) (by simp) ?_
         refine AllReadyH.cons rfl (fun K hK => ?_) AllReadyH.nil
         simp only [gA, gB, gC]
         go_simp
         clear c_Vd f0_Vd l_Vd m_Vd
         refine sto1 Vd (.slice aE lE kE) (Q := fun W => K _ W) ?_
         intro x7 V' oth far
         replace V2 := oth _ _ _ (by first | omega | assumption | (simp; omega)) V2
         replace VA := oth _ _ _ (by first | omega | assumption | (simp; omega)) VA
         replace VB := oth _ _ _ (by first | omega | assumption | (simp; omega)) VB
         replace Vl := oth _ _ _ (by first | omega | assumption | (simp; omega)) Vl
         replace hA := hA.far Vd (noInt1 _ _ _) far.1
         replace hB := hB.far Vd (noInt1 _ _ _) far.1
         replace h7 := h7.far Vd (noInt1 _ _ _) far.1
         replace hD := hD.far Vd (noInt1 _ _ _) far.1
         replace h8 := h8.far Vd (noInt1 _ _ _) far.1
         replace hE := hE.far Vd (noInt1 _ _ _) far.1
         replace B0 := far.2 _ _ (by first | omega | (simp; omega)) B0
         replace Vd := V'
         clear oth far
         refine hK.out _ _ ⟨Vl.d0, Vl.d1, Vl.d2⟩ (fun hHeld => ?_)
         clear hK K
         refine wpAnyH_done (by kernel_rfl) ?_ _
         refine NoPanic.normal ?_
         clear hHeld
         have c_Vl := Vl.d0
         have f0_Vl := Vl.frozen 0
         have d_Vl := Vl.d1
         have f1_Vl := Vl.frozen 1
         have e_Vl := Vl.d2
         have f2_Vl := Vl.frozen 2
         have l_Vl := Vl.lt
         have m_Vl := Nat.le_of_lt l_Vl
         have c_Vd := Vd.cell
         have f0_Vd := Vd.frozen 0
         have l_Vd := Vd.lt
         have m_Vd := Nat.le_of_lt l_Vd
         have c_V2 := V2.d0
         have f0_V2 := V2.frozen 0
         have d_V2 := V2.d1
         have f1_V2 := V2.frozen 1
         have e_V2 := V2.d2
         have f2_V2 := V2.frozen 2
         have l_V2 := V2.lt
         have m_V2 := Nat.le_of_lt l_V2
         go_wp2_with fail
         refine (rmade_any s7 a7 l7 c7 z7 aE lE kE zE (v1 + v2) x7 h7.1 hE (by rw [H8.out.1]; exact h7.2.2.1) (by unfold dn; rw [eE, ← H8.out.2.1, if_neg (by have := (v1 + v2).den_pos; omega)])).mono ?_
         rintro e x8 ⟨er', s', a', l', c', zs', b', m', d', ds', v', rfl, h', hra, hb⟩
         replace V2 := Va.after hb V2
         replace VA := Va.after hb VA
         replace VB := Va.after hb VB
         replace Vl := Va.after hb Vl
         replace Vd := Va.after hb Vd
         replace hA := Nt.after hb hA
         replace hB := Nt.after hb hB
         replace h7 := Rt.after hb h7
         replace hD := Nt.after hb hD
         replace h8 := Nt.after hb h8
         replace hE := Nt.after hb hE
         replace B0 := step B0 hb
         clear hb
         clear c_Vl f0_Vl d_Vl f1_Vl e_Vl f2_Vl l_Vl m_Vl c_Vd f0_Vd l_Vd m_Vd c_V2 f0_V2 d_V2 f1_V2 e_V2 f2_V2 l_V2 m_V2
         have c_V2 := V2.d0
         have f0_V2 := V2.frozen 0
         have d_V2 := V2.d1
         have f1_V2 := V2.frozen 1
         have e_V2 := V2.d2
         have f2_V2 := V2.frozen 2
         have l_V2 := V2.lt
         have m_V2 := Nat.le_of_lt l_V2
         go_wp2_with fail
         refine bodyPost_ret (results_rt rfl rfl (V2.set3 _ _ _)) rfl ?_
         exact ⟨er', s', a', l', c', zs', b', m', d', ds', v', rfl, h'.far V2 (noInt3 _ _ _ _ _ _ _) (fa3 _ _ _ _ _), hra, belo3 B0 (by omega) _ _ _⟩
     ·
      have HS : Hid (¬ Short (v1 + v2)) := fun h => hS (HP.out.lng h)
      clear HP hS
      have c_V2 := V2.d0
      have f0_V2 := V2.frozen 0
      have d_V2 := V2.d1
      have f1_V2 := V2.frozen 1
      have e_V2 := V2.d2
      have f2_V2 := V2.frozen 2
      have l_V2 := V2.lt
      have m_V2 := Nat.le_of_lt l_V2
      go_wp2_with fail
      refine bodyPost_ret (results_rt rfl rfl (V2.set3 _ _ _)) rfl ?_
      first
      | exact ⟨_, _, _, _, _, _, _, _, _, _, _, rfl, Rt.nil _, Or.inr ⟨HS.out, rfl, rfl⟩, belo3 B0 (by omega) _ _ _⟩
      | exact ⟨_, Or.inl ⟨_, _, _, _, _, _, _, rfl, _, _, Rt.nil _, Or.inr ⟨HS.out, rfl, rfl⟩, belo3 B0 (by omega) _ _ _⟩⟩

end Go.Proofs.YtebbblhafjaaiaaGreatDoor
