/-
  decimal.fromParts.
-/
import Derived.Test.YtebbblhafjaaiaaGreatDoorDec7
import Derived.Test.YtebbblhafjaaiaaGreatDoorWh3
import Derived.Test.YtebbblhafjaaiaaGreatDoorWh8a
namespace Go.Proofs.YtebbblhafjaaiaaGreatDoor
open Go.RowKit Go.Shelf
set_option linter.unusedVariables false

/-- Units and places, or an error where the units are not of 64 bits. -/
def frp (x : Int) (P : Nat) : Int × Nat × Int := if -9223372036854775808 ≤ x ∧ x ≤ 9223372036854775807 then (x, P, 0) else (0, 0, 5)
set_option maxHeartbeats 8000000 in
theorem frp_in (s : Bool) (a : Option Addr) (l c : Nat) (zs : List Int) (N T : Int) (P : Nat) (w : World) (hN : It w s a l c zs) (hv : iv s zs = N) (t1 : -9223372036854775808 ≤ T) (t2 : T ≤ 9223372036854775807) (hf : ((N * T).natAbs : Int) < pw 4096) (hx : -9223372036854775808 ≤ N * T ∧ N * T ≤ 9223372036854775807) :
    Calls Tryz.prog 71 #[.agg #[.bool s, .slice a l c], .int .i64 T, .int .i64 P] w fun e W' => e = .returned (.tuple #[.agg #[.int .i64 (N * T), .int .i64 P], .int .i64 0]) ∧ Below w.heap.size w W' := by
  have HV : Hid (iv s zs = N) := hv
  have HF : Hid _ := hf
  have HX : Hid _ := hx
  clear hv hf hx
  have B0 : Below w.heap.size w w := Below.refl _ _
  go_enter Tryz.func71, Tryz.ntmps71
  go_wp2_with fail
  refine ent2 w _ _ _ _ (Q := fun W => Code.wp Tryz.prog _ _ _ W) ?_
  intro x1 hb hs_x1 V0 V1
  replace hN := It.after hb hN
  replace B0 := step B0 hb
  clear hb hs_x1
  refine wp_region_noPanic ?_
  replace V0 : Va x1.drew _ _ _ := V0
  replace V1 : Va x1.drew _ _ _ := V1
  replace hN := hN.drw
  replace B0 := Below.drew B0
  refine wp_region_held_drew (S := (fun W => W.cell? ⟨w.heap.size, 0, none⟩ = some (.bool s) ∧ W.cell? ⟨w.heap.size, 1, none⟩ = some (.slice a l c))) (by kernel_rfl) ⟨V0.c0, V0.c1⟩ (fun hHeld => ?_)
  obtain ⟨x2, hxd⟩ : ∃ xd, xd = x1.drew := ⟨_, rfl⟩
  rw [← hxd] at V0 V1 hN B0 hHeld ⊢
  clear hxd
  refine wpAnyH_take (i := 0) (v := ?_) rfl (by kernel_rfl) (by kernel_rfl) (by kernel_rfl) (fun _ _ _ h => h) (Or.inl ⟨by rfl, ?_⟩) hHeld ?_
  rotate_left
  · (intro W hSw; (try dsimp only at hSw); go_simp; all_goals (with_reducible rfl))
  simp only [List.getElem_toArray, List.getElem_cons_zero, Act.put, List.setIfInBounds_toArray, List.set_cons_zero, List.set_cons_succ]
  refine wpAnyH_take (i := 1) (v := ?_) rfl (by kernel_rfl) (by kernel_rfl) (by kernel_rfl) (fun _ _ _ h => h) (Or.inl ⟨by rfl, ?_⟩) hHeld ?_
  rotate_left
  · (intro W hSw; (try dsimp only at hSw); go_simp; all_goals (with_reducible rfl))
  simp only [List.getElem_toArray, List.getElem_cons_zero, List.getElem_cons_succ, Act.put, List.setIfInBounds_toArray, List.set_cons_zero, List.set_cons_succ]
  refine wpAnyH_ready (rs := [2, 7]) (by kernel_rfl) (by simp) ?_
  refine AllReadyH.cons rfl (fun K hK => ?_) (AllReadyH.cons rfl (fun K hK => ?_) AllReadyH.nil)
  ·
    simp only [List.getElem_toArray, List.getElem_cons_zero, List.getElem_cons_succ]
    go_simp
    refine (wsmall_any T t1 t2 _).mono ?_
    rintro e x3 ⟨s2, a2, l2, c2, z2, rfl, h2, e2, hb⟩
    replace V0 := Va.after hb V0
    replace V1 := Va.after hb V1
    replace hN := It.after hb hN
    replace B0 := step B0 hb
    clear hb
    try go_wp2_with fail
    refine hK.out _ _ ⟨V0.c0, V0.c1⟩ (fun hHeld => ?_)
    clear hK K
    refine wpAnyH_ready (rs := [3, 7]) (by kernel_rfl) (by simp) ?_
    refine AllReadyH.cons rfl (fun K hK => ?_) (AllReadyH.cons rfl (fun K hK => ?_) AllReadyH.nil)
    ·
      simp only [List.getElem_toArray, List.getElem_cons_zero, List.getElem_cons_succ]
      go_simp
      refine (wmul_ok s s2 a a2 l c l2 c2 zs z2 _ hN h2 (by show _ < _; rw [e2, HV.out]; exact HF.out)).mono ?_
      rintro e x4 ⟨sp, ap, lp, cp, zp, rfl, hp, ep, hb⟩
      replace V0 := Va.after hb V0
      replace V1 := Va.after hb V1
      replace hN := It.after hb hN
      replace h2 := It.after hb h2
      replace B0 := step B0 hb
      clear hb
      rw [e2, HV.out] at ep
      try go_wp2_with fail
      refine hK.out _ _ ⟨V0.c0, V0.c1⟩ (fun hHeld => ?_)
      clear hK K
      refine wpAnyH_take (i := 4) (v := ?_) rfl (by kernel_rfl) (by kernel_rfl) (by kernel_rfl) (fun _ _ _ h => h) (Or.inl ⟨by rfl, ?_⟩) hHeld ?_
      rotate_left
      · (intro W hSw; (try dsimp only at hSw); go_simp; all_goals (with_reducible rfl))
      simp only [List.getElem_toArray, List.getElem_cons_zero, List.getElem_cons_succ, Act.put, List.setIfInBounds_toArray, List.set_cons_zero, List.set_cons_succ]
      refine wpAnyH_take (i := 5) (v := ?_) rfl (by kernel_rfl) (by kernel_rfl) (by kernel_rfl) (fun _ _ _ h => h) (Or.inl ⟨by rfl, ?_⟩) hHeld ?_
      rotate_left
      · (intro W hSw; (try dsimp only at hSw); go_simp; all_goals (with_reducible rfl))
      simp only [List.getElem_toArray, List.getElem_cons_zero, List.getElem_cons_succ, Act.put, List.setIfInBounds_toArray, List.set_cons_zero, List.set_cons_succ]
      refine wpAnyH_take (i := 6) (v := ?_) rfl (by kernel_rfl) (by kernel_rfl) (by kernel_rfl) (fun _ _ _ h => h) (Or.inl ⟨by rfl, ?_⟩) hHeld ?_
      rotate_left
      · (intro W hSw; (try dsimp only at hSw); go_simp; all_goals (with_reducible rfl))
      simp only [List.getElem_toArray, List.getElem_cons_zero, List.getElem_cons_succ, Act.put, List.setIfInBounds_toArray, List.set_cons_zero, List.set_cons_succ]
      refine wpAnyH_ready (rs := [7]) (by kernel_rfl) (by simp) ?_
      refine AllReadyH.cons rfl (fun K hK => ?_) AllReadyH.nil
      ·
        simp only [List.getElem_toArray, List.getElem_cons_zero, List.getElem_cons_succ]
        go_simp
        have lt_Vp_V0 := V0.lt
        have lt_Vp_V1 := V1.lt
        have sz_Vp := B0.size
        refine ent1 _ _ _ (Q := fun V => K _ V) ?_
        intro x5 hb hs_ Vp
        replace V0 := Va.after hb V0
        replace V1 := Va.after hb V1
        replace hN := It.after hb hN
        replace h2 := It.after hb h2
        replace hp := It.after hb hp
        replace B0 := step B0 hb
        clear hb hs_
        refine hK.out _ _ ⟨V0.c0, V0.c1⟩ (fun hHeld => ?_)
        clear hK K
        have c_Vp := Vp.c0
        have f0_Vp := Vp.frozen 0
        have d_Vp := Vp.c1
        have f1_Vp := Vp.frozen 1
        have l_Vp := Vp.lt
        have m_Vp := Nat.le_of_lt l_Vp
        refine wpAnyH_ready (rs := [8]) (by kernel_rfl) (by simp) ?_
        refine AllReadyH.cons rfl (fun K hK => ?_) AllReadyH.nil
        simp only [List.getElem_toArray, List.getElem_cons_zero, List.getElem_cons_succ]
        go_simp
        clear c_Vp f0_Vp d_Vp f1_Vp l_Vp m_Vp
        refine st2 Vp (.bool sp) (.slice ap lp cp) (Q := fun W => K _ W) ?_
        intro x6 V' oth far
        replace V0 := oth _ _ _ (by first | omega | assumption | (simp; omega)) V0
        replace V1 := oth _ _ _ (by first | omega | assumption | (simp; omega)) V1
        replace hN := hN.far Vp (noInt2 _ _ _ _) far.1
        replace h2 := h2.far Vp (noInt2 _ _ _ _) far.1
        replace hp := hp.far Vp (noInt2 _ _ _ _) far.1
        replace B0 := far.2 _ _ (by first | omega | (simp; omega)) B0
        replace Vp := V'
        clear oth far
        refine hK.out _ _ ⟨V0.c0, V0.c1⟩ (fun hHeld => ?_)
        clear hK K
        refine wpAnyH_take (i := 9) (v := ?_) rfl (by kernel_rfl) (by kernel_rfl) (by kernel_rfl) (fun _ _ _ h => h) (Or.inl ⟨by rfl, ?_⟩) hHeld ?_
        rotate_left
        · (intro W hSw; (try dsimp only at hSw); go_simp; all_goals (with_reducible rfl))
        simp only [List.getElem_toArray, List.getElem_cons_zero, List.getElem_cons_succ, Act.put, List.setIfInBounds_toArray, List.set_cons_zero, List.set_cons_succ]
        refine wpAnyH_done (by kernel_rfl) ?_ _
        refine NoPanic.normal ?_
        clear hHeld
        have c_Vp := Vp.c0
        have f0_Vp := Vp.frozen 0
        have d_Vp := Vp.c1
        have f1_Vp := Vp.frozen 1
        have l_Vp := Vp.lt
        have m_Vp := Nat.le_of_lt l_Vp
        go_wp2_with fail
        have hw := wint64_in sp ap lp cp zp x6 hp (by rw [ep]; exact HX.out.1) (by rw [ep]; exact HX.out.2)
        rw [ep] at hw
        refine (hw).mono ?_
        rintro e x7 ⟨rfl, hb⟩
        replace V0 := Va.after hb V0
        replace V1 := Va.after hb V1
        replace Vp := Va.after hb Vp
        replace hN := It.after hb hN
        replace h2 := It.after hb h2
        replace hp := It.after hb hp
        replace B0 := step B0 hb
        clear hb
        clear c_Vp f0_Vp d_Vp f1_Vp l_Vp m_Vp
        have c_V1 := V1.c0
        have f0_V1 := V1.frozen 0
        have d_V1 := V1.c1
        have f1_V1 := V1.frozen 1
        have l_V1 := V1.lt
        have m_V1 := Nat.le_of_lt l_V1
        go_wp2_with fail
        refine bodyPost_ret (results_dt rfl rfl (V1.set2 _ _)) rfl ?_
        exact ⟨rfl, below_2 B0 (by omega) _ _⟩
    ·
      simp only [List.getElem_toArray, List.getElem_cons_zero, List.getElem_cons_succ]
      go_simp
      have lt_Vp_V0 := V0.lt
      have lt_Vp_V1 := V1.lt
      have sz_Vp := B0.size
      refine ent1 _ _ _ (Q := fun V => K _ V) ?_
      intro x4 hb hs_ Vp
      replace V0 := Va.after hb V0
      replace V1 := Va.after hb V1
      replace hN := It.after hb hN
      replace h2 := It.after hb h2
      replace B0 := step B0 hb
      clear hb hs_
      refine hK.out _ _ ⟨V0.c0, V0.c1⟩ (fun hHeld => ?_)
      clear hK K
      refine wpAnyH_ready (rs := [3]) (by kernel_rfl) (by simp) ?_
      refine AllReadyH.cons rfl (fun K hK => ?_) AllReadyH.nil
      ·
        simp only [List.getElem_toArray, List.getElem_cons_zero, List.getElem_cons_succ]
        go_simp
        refine (wmul_ok s s2 a a2 l c l2 c2 zs z2 _ hN h2 (by show _ < _; rw [e2, HV.out]; exact HF.out)).mono ?_
        rintro e x5 ⟨sp, ap, lp, cp, zp, rfl, hp, ep, hb⟩
        replace V0 := Va.after hb V0
        replace V1 := Va.after hb V1
        replace Vp := Va.after hb Vp
        replace hN := It.after hb hN
        replace h2 := It.after hb h2
        replace B0 := step B0 hb
        clear hb
        rw [e2, HV.out] at ep
        try go_wp2_with fail
        refine hK.out _ _ ⟨V0.c0, V0.c1⟩ (fun hHeld => ?_)
        clear hK K
        refine wpAnyH_take (i := 4) (v := ?_) rfl (by kernel_rfl) (by kernel_rfl) (by kernel_rfl) (fun _ _ _ h => h) (Or.inl ⟨by rfl, ?_⟩) hHeld ?_
        rotate_left
        · (intro W hSw; (try dsimp only at hSw); go_simp; all_goals (with_reducible rfl))
        simp only [List.getElem_toArray, List.getElem_cons_zero, List.getElem_cons_succ, Act.put, List.setIfInBounds_toArray, List.set_cons_zero, List.set_cons_succ]
        refine wpAnyH_take (i := 5) (v := ?_) rfl (by kernel_rfl) (by kernel_rfl) (by kernel_rfl) (fun _ _ _ h => h) (Or.inl ⟨by rfl, ?_⟩) hHeld ?_
        rotate_left
        · (intro W hSw; (try dsimp only at hSw); go_simp; all_goals (with_reducible rfl))
        simp only [List.getElem_toArray, List.getElem_cons_zero, List.getElem_cons_succ, Act.put, List.setIfInBounds_toArray, List.set_cons_zero, List.set_cons_succ]
        refine wpAnyH_take (i := 6) (v := ?_) rfl (by kernel_rfl) (by kernel_rfl) (by kernel_rfl) (fun _ _ _ h => h) (Or.inl ⟨by rfl, ?_⟩) hHeld ?_
        rotate_left
        · (intro W hSw; (try dsimp only at hSw); go_simp; all_goals (with_reducible rfl))
        simp only [List.getElem_toArray, List.getElem_cons_zero, List.getElem_cons_succ, Act.put, List.setIfInBounds_toArray, List.set_cons_zero, List.set_cons_succ]
        have c_Vp := Vp.c0
        have f0_Vp := Vp.frozen 0
        have d_Vp := Vp.c1
        have f1_Vp := Vp.frozen 1
        have l_Vp := Vp.lt
        have m_Vp := Nat.le_of_lt l_Vp
        refine wpAnyH_ready (rs := [8]) (by kernel_rfl) (by simp) ?_
        refine AllReadyH.cons rfl (fun K hK => ?_) AllReadyH.nil
        simp only [List.getElem_toArray, List.getElem_cons_zero, List.getElem_cons_succ]
        go_simp
        clear c_Vp f0_Vp d_Vp f1_Vp l_Vp m_Vp
        refine st2 Vp (.bool sp) (.slice ap lp cp) (Q := fun W => K _ W) ?_
        intro x6 V' oth far
        replace V0 := oth _ _ _ (by first | omega | assumption | (simp; omega)) V0
        replace V1 := oth _ _ _ (by first | omega | assumption | (simp; omega)) V1
        replace hN := hN.far Vp (noInt2 _ _ _ _) far.1
        replace h2 := h2.far Vp (noInt2 _ _ _ _) far.1
        replace hp := hp.far Vp (noInt2 _ _ _ _) far.1
        replace B0 := far.2 _ _ (by first | omega | (simp; omega)) B0
        replace Vp := V'
        clear oth far
        refine hK.out _ _ ⟨V0.c0, V0.c1⟩ (fun hHeld => ?_)
        clear hK K
        refine wpAnyH_take (i := 9) (v := ?_) rfl (by kernel_rfl) (by kernel_rfl) (by kernel_rfl) (fun _ _ _ h => h) (Or.inl ⟨by rfl, ?_⟩) hHeld ?_
        rotate_left
        · (intro W hSw; (try dsimp only at hSw); go_simp; all_goals (with_reducible rfl))
        simp only [List.getElem_toArray, List.getElem_cons_zero, List.getElem_cons_succ, Act.put, List.setIfInBounds_toArray, List.set_cons_zero, List.set_cons_succ]
        refine wpAnyH_done (by kernel_rfl) ?_ _
        refine NoPanic.normal ?_
        clear hHeld
        have c_Vp := Vp.c0
        have f0_Vp := Vp.frozen 0
        have d_Vp := Vp.c1
        have f1_Vp := Vp.frozen 1
        have l_Vp := Vp.lt
        have m_Vp := Nat.le_of_lt l_Vp
        go_wp2_with fail
        have hw := wint64_in sp ap lp cp zp x6 hp (by rw [ep]; exact HX.out.1) (by rw [ep]; exact HX.out.2)
        rw [ep] at hw
        refine (hw).mono ?_
        rintro e x7 ⟨rfl, hb⟩
        replace V0 := Va.after hb V0
        replace V1 := Va.after hb V1
        replace Vp := Va.after hb Vp
        replace hN := It.after hb hN
        replace h2 := It.after hb h2
        replace hp := It.after hb hp
        replace B0 := step B0 hb
        clear hb
        clear c_Vp f0_Vp d_Vp f1_Vp l_Vp m_Vp
        have c_V1 := V1.c0
        have f0_V1 := V1.frozen 0
        have d_V1 := V1.c1
        have f1_V1 := V1.frozen 1
        have l_V1 := V1.lt
        have m_V1 := Nat.le_of_lt l_V1
        go_wp2_with fail
        refine bodyPost_ret (results_dt rfl rfl (V1.set2 _ _)) rfl ?_
        exact ⟨rfl, below_2 B0 (by omega) _ _⟩
  ·
    simp only [List.getElem_toArray, List.getElem_cons_zero, List.getElem_cons_succ]
    go_simp
    have lt_Vp_V0 := V0.lt
    have lt_Vp_V1 := V1.lt
    have sz_Vp := B0.size
    refine ent1 _ _ _ (Q := fun V => K _ V) ?_
    intro x3 hb hs_ Vp
    replace V0 := Va.after hb V0
    replace V1 := Va.after hb V1
    replace hN := It.after hb hN
    replace B0 := step B0 hb
    clear hb hs_
    refine hK.out _ _ ⟨V0.c0, V0.c1⟩ (fun hHeld => ?_)
    clear hK K
    refine wpAnyH_ready (rs := [2]) (by kernel_rfl) (by simp) ?_
    refine AllReadyH.cons rfl (fun K hK => ?_) AllReadyH.nil
    ·
      simp only [List.getElem_toArray, List.getElem_cons_zero, List.getElem_cons_succ]
      go_simp
      refine (wsmall_any T t1 t2 _).mono ?_
      rintro e x4 ⟨s2, a2, l2, c2, z2, rfl, h2, e2, hb⟩
      replace V0 := Va.after hb V0
      replace V1 := Va.after hb V1
      replace Vp := Va.after hb Vp
      replace hN := It.after hb hN
      replace B0 := step B0 hb
      clear hb
      try go_wp2_with fail
      refine hK.out _ _ ⟨V0.c0, V0.c1⟩ (fun hHeld => ?_)
      clear hK K
      refine wpAnyH_ready (rs := [3]) (by kernel_rfl) (by simp) ?_
      refine AllReadyH.cons rfl (fun K hK => ?_) AllReadyH.nil
      ·
        simp only [List.getElem_toArray, List.getElem_cons_zero, List.getElem_cons_succ]
        go_simp
        refine (wmul_ok s s2 a a2 l c l2 c2 zs z2 _ hN h2 (by show _ < _; rw [e2, HV.out]; exact HF.out)).mono ?_
        rintro e x5 ⟨sp, ap, lp, cp, zp, rfl, hp, ep, hb⟩
        replace V0 := Va.after hb V0
        replace V1 := Va.after hb V1
        replace Vp := Va.after hb Vp
        replace hN := It.after hb hN
        replace h2 := It.after hb h2
        replace B0 := step B0 hb
        clear hb
        rw [e2, HV.out] at ep
        try go_wp2_with fail
        refine hK.out _ _ ⟨V0.c0, V0.c1⟩ (fun hHeld => ?_)
        clear hK K
        refine wpAnyH_take (i := 4) (v := ?_) rfl (by kernel_rfl) (by kernel_rfl) (by kernel_rfl) (fun _ _ _ h => h) (Or.inl ⟨by rfl, ?_⟩) hHeld ?_
        rotate_left
        · (intro W hSw; (try dsimp only at hSw); go_simp; all_goals (with_reducible rfl))
        simp only [List.getElem_toArray, List.getElem_cons_zero, List.getElem_cons_succ, Act.put, List.setIfInBounds_toArray, List.set_cons_zero, List.set_cons_succ]
        refine wpAnyH_take (i := 5) (v := ?_) rfl (by kernel_rfl) (by kernel_rfl) (by kernel_rfl) (fun _ _ _ h => h) (Or.inl ⟨by rfl, ?_⟩) hHeld ?_
        rotate_left
        · (intro W hSw; (try dsimp only at hSw); go_simp; all_goals (with_reducible rfl))
        simp only [List.getElem_toArray, List.getElem_cons_zero, List.getElem_cons_succ, Act.put, List.setIfInBounds_toArray, List.set_cons_zero, List.set_cons_succ]
        refine wpAnyH_take (i := 6) (v := ?_) rfl (by kernel_rfl) (by kernel_rfl) (by kernel_rfl) (fun _ _ _ h => h) (Or.inl ⟨by rfl, ?_⟩) hHeld ?_
        rotate_left
        · (intro W hSw; (try dsimp only at hSw); go_simp; all_goals (with_reducible rfl))
        simp only [List.getElem_toArray, List.getElem_cons_zero, List.getElem_cons_succ, Act.put, List.setIfInBounds_toArray, List.set_cons_zero, List.set_cons_succ]
        have c_Vp := Vp.c0
        have f0_Vp := Vp.frozen 0
        have d_Vp := Vp.c1
        have f1_Vp := Vp.frozen 1
        have l_Vp := Vp.lt
        have m_Vp := Nat.le_of_lt l_Vp
        refine wpAnyH_ready (rs := [8]) (by kernel_rfl) (by simp) ?_
        refine AllReadyH.cons rfl (fun K hK => ?_) AllReadyH.nil
        simp only [List.getElem_toArray, List.getElem_cons_zero, List.getElem_cons_succ]
        go_simp
        clear c_Vp f0_Vp d_Vp f1_Vp l_Vp m_Vp
        refine st2 Vp (.bool sp) (.slice ap lp cp) (Q := fun W => K _ W) ?_
        intro x6 V' oth far
        replace V0 := oth _ _ _ (by first | omega | assumption | (simp; omega)) V0
        replace V1 := oth _ _ _ (by first | omega | assumption | (simp; omega)) V1
        replace hN := hN.far Vp (noInt2 _ _ _ _) far.1
        replace h2 := h2.far Vp (noInt2 _ _ _ _) far.1
        replace hp := hp.far Vp (noInt2 _ _ _ _) far.1
        replace B0 := far.2 _ _ (by first | omega | (simp; omega)) B0
        replace Vp := V'
        clear oth far
        refine hK.out _ _ ⟨V0.c0, V0.c1⟩ (fun hHeld => ?_)
        clear hK K
        refine wpAnyH_take (i := 9) (v := ?_) rfl (by kernel_rfl) (by kernel_rfl) (by kernel_rfl) (fun _ _ _ h => h) (Or.inl ⟨by rfl, ?_⟩) hHeld ?_
        rotate_left
        · (intro W hSw; (try dsimp only at hSw); go_simp; all_goals (with_reducible rfl))
        simp only [List.getElem_toArray, List.getElem_cons_zero, List.getElem_cons_succ, Act.put, List.setIfInBounds_toArray, List.set_cons_zero, List.set_cons_succ]
        refine wpAnyH_done (by kernel_rfl) ?_ _
        refine NoPanic.normal ?_
        clear hHeld
        have c_Vp := Vp.c0
        have f0_Vp := Vp.frozen 0
        have d_Vp := Vp.c1
        have f1_Vp := Vp.frozen 1
        have l_Vp := Vp.lt
        have m_Vp := Nat.le_of_lt l_Vp
        go_wp2_with fail
        have hw := wint64_in sp ap lp cp zp x6 hp (by rw [ep]; exact HX.out.1) (by rw [ep]; exact HX.out.2)
        rw [ep] at hw
        refine (hw).mono ?_
        rintro e x7 ⟨rfl, hb⟩
        replace V0 := Va.after hb V0
        replace V1 := Va.after hb V1
        replace Vp := Va.after hb Vp
        replace hN := It.after hb hN
        replace h2 := It.after hb h2
        replace hp := It.after hb hp
        replace B0 := step B0 hb
        clear hb
        clear c_Vp f0_Vp d_Vp f1_Vp l_Vp m_Vp
        have c_V1 := V1.c0
        have f0_V1 := V1.frozen 0
        have d_V1 := V1.c1
        have f1_V1 := V1.frozen 1
        have l_V1 := V1.lt
        have m_V1 := Nat.le_of_lt l_V1
        go_wp2_with fail
        refine bodyPost_ret (results_dt rfl rfl (V1.set2 _ _)) rfl ?_
        exact ⟨rfl, below_2 B0 (by omega) _ _⟩
set_option maxHeartbeats 8000000 in
theorem frp_out (s : Bool) (a : Option Addr) (l c : Nat) (zs : List Int) (N T : Int) (P : Nat) (w : World) (hN : It w s a l c zs) (hv : iv s zs = N) (t1 : -9223372036854775808 ≤ T) (t2 : T ≤ 9223372036854775807) (hf : ((N * T).natAbs : Int) < pw 4096) (hx : N * T < -9223372036854775808 ∨ 9223372036854775807 < N * T) :
    Calls Tryz.prog 71 #[.agg #[.bool s, .slice a l c], .int .i64 T, .int .i64 P] w fun e W' => e = .returned (.tuple #[.agg #[.int .i64 0, .int .i64 0], .int .i64 5]) ∧ Below w.heap.size w W' := by
  have HV : Hid (iv s zs = N) := hv
  have HF : Hid _ := hf
  have HX : Hid _ := hx
  clear hv hf hx
  have B0 : Below w.heap.size w w := Below.refl _ _
  go_enter Tryz.func71, Tryz.ntmps71
  go_wp2_with fail
  refine ent2 w _ _ _ _ (Q := fun W => Code.wp Tryz.prog _ _ _ W) ?_
  intro x1 hb hs_x1 V0 V1
  replace hN := It.after hb hN
  replace B0 := step B0 hb
  clear hb hs_x1
  refine wp_region_noPanic ?_
  replace V0 : Va x1.drew _ _ _ := V0
  replace V1 : Va x1.drew _ _ _ := V1
  replace hN := hN.drw
  replace B0 := Below.drew B0
  refine wp_region_held_drew (S := (fun W => W.cell? ⟨w.heap.size, 0, none⟩ = some (.bool s) ∧ W.cell? ⟨w.heap.size, 1, none⟩ = some (.slice a l c))) (by kernel_rfl) ⟨V0.c0, V0.c1⟩ (fun hHeld => ?_)
  obtain ⟨x2, hxd⟩ : ∃ xd, xd = x1.drew := ⟨_, rfl⟩
  rw [← hxd] at V0 V1 hN B0 hHeld ⊢
  clear hxd
  refine wpAnyH_take (i := 0) (v := ?_) rfl (by kernel_rfl) (by kernel_rfl) (by kernel_rfl) (fun _ _ _ h => h) (Or.inl ⟨by rfl, ?_⟩) hHeld ?_
  rotate_left
  · (intro W hSw; (try dsimp only at hSw); go_simp; all_goals (with_reducible rfl))
  simp only [List.getElem_toArray, List.getElem_cons_zero, Act.put, List.setIfInBounds_toArray, List.set_cons_zero, List.set_cons_succ]
  refine wpAnyH_take (i := 1) (v := ?_) rfl (by kernel_rfl) (by kernel_rfl) (by kernel_rfl) (fun _ _ _ h => h) (Or.inl ⟨by rfl, ?_⟩) hHeld ?_
  rotate_left
  · (intro W hSw; (try dsimp only at hSw); go_simp; all_goals (with_reducible rfl))
  simp only [List.getElem_toArray, List.getElem_cons_zero, List.getElem_cons_succ, Act.put, List.setIfInBounds_toArray, List.set_cons_zero, List.set_cons_succ]
  refine wpAnyH_ready (rs := [2, 7]) (by kernel_rfl) (by simp) ?_
  refine AllReadyH.cons rfl (fun K hK => ?_) (AllReadyH.cons rfl (fun K hK => ?_) AllReadyH.nil)
  ·
    simp only [List.getElem_toArray, List.getElem_cons_zero, List.getElem_cons_succ]
    go_simp
    refine (wsmall_any T t1 t2 _).mono ?_
    rintro e x3 ⟨s2, a2, l2, c2, z2, rfl, h2, e2, hb⟩
    replace V0 := Va.after hb V0
    replace V1 := Va.after hb V1
    replace hN := It.after hb hN
    replace B0 := step B0 hb
    clear hb
    try go_wp2_with fail
    refine hK.out _ _ ⟨V0.c0, V0.c1⟩ (fun hHeld => ?_)
    clear hK K
    refine wpAnyH_ready (rs := [3, 7]) (by kernel_rfl) (by simp) ?_
    refine AllReadyH.cons rfl (fun K hK => ?_) (AllReadyH.cons rfl (fun K hK => ?_) AllReadyH.nil)
    ·
      simp only [List.getElem_toArray, List.getElem_cons_zero, List.getElem_cons_succ]
      go_simp
      refine (wmul_ok s s2 a a2 l c l2 c2 zs z2 _ hN h2 (by show _ < _; rw [e2, HV.out]; exact HF.out)).mono ?_
      rintro e x4 ⟨sp, ap, lp, cp, zp, rfl, hp, ep, hb⟩
      replace V0 := Va.after hb V0
      replace V1 := Va.after hb V1
      replace hN := It.after hb hN
      replace h2 := It.after hb h2
      replace B0 := step B0 hb
      clear hb
      rw [e2, HV.out] at ep
      try go_wp2_with fail
      refine hK.out _ _ ⟨V0.c0, V0.c1⟩ (fun hHeld => ?_)
      clear hK K
      refine wpAnyH_take (i := 4) (v := ?_) rfl (by kernel_rfl) (by kernel_rfl) (by kernel_rfl) (fun _ _ _ h => h) (Or.inl ⟨by rfl, ?_⟩) hHeld ?_
      rotate_left
      · (intro W hSw; (try dsimp only at hSw); go_simp; all_goals (with_reducible rfl))
      simp only [List.getElem_toArray, List.getElem_cons_zero, List.getElem_cons_succ, Act.put, List.setIfInBounds_toArray, List.set_cons_zero, List.set_cons_succ]
      refine wpAnyH_take (i := 5) (v := ?_) rfl (by kernel_rfl) (by kernel_rfl) (by kernel_rfl) (fun _ _ _ h => h) (Or.inl ⟨by rfl, ?_⟩) hHeld ?_
      rotate_left
      · (intro W hSw; (try dsimp only at hSw); go_simp; all_goals (with_reducible rfl))
      simp only [List.getElem_toArray, List.getElem_cons_zero, List.getElem_cons_succ, Act.put, List.setIfInBounds_toArray, List.set_cons_zero, List.set_cons_succ]
      refine wpAnyH_take (i := 6) (v := ?_) rfl (by kernel_rfl) (by kernel_rfl) (by kernel_rfl) (fun _ _ _ h => h) (Or.inl ⟨by rfl, ?_⟩) hHeld ?_
      rotate_left
      · (intro W hSw; (try dsimp only at hSw); go_simp; all_goals (with_reducible rfl))
      simp only [List.getElem_toArray, List.getElem_cons_zero, List.getElem_cons_succ, Act.put, List.setIfInBounds_toArray, List.set_cons_zero, List.set_cons_succ]
      refine wpAnyH_ready (rs := [7]) (by kernel_rfl) (by simp) ?_
      refine AllReadyH.cons rfl (fun K hK => ?_) AllReadyH.nil
      ·
        simp only [List.getElem_toArray, List.getElem_cons_zero, List.getElem_cons_succ]
        go_simp
        have lt_Vp_V0 := V0.lt
        have lt_Vp_V1 := V1.lt
        have sz_Vp := B0.size
        refine ent1 _ _ _ (Q := fun V => K _ V) ?_
        intro x5 hb hs_ Vp
        replace V0 := Va.after hb V0
        replace V1 := Va.after hb V1
        replace hN := It.after hb hN
        replace h2 := It.after hb h2
        replace hp := It.after hb hp
        replace B0 := step B0 hb
        clear hb hs_
        refine hK.out _ _ ⟨V0.c0, V0.c1⟩ (fun hHeld => ?_)
        clear hK K
        have c_Vp := Vp.c0
        have f0_Vp := Vp.frozen 0
        have d_Vp := Vp.c1
        have f1_Vp := Vp.frozen 1
        have l_Vp := Vp.lt
        have m_Vp := Nat.le_of_lt l_Vp
        refine wpAnyH_ready (rs := [8]) (by kernel_rfl) (by simp) ?_
        refine AllReadyH.cons rfl (fun K hK => ?_) AllReadyH.nil
        simp only [List.getElem_toArray, List.getElem_cons_zero, List.getElem_cons_succ]
        go_simp
        clear c_Vp f0_Vp d_Vp f1_Vp l_Vp m_Vp
        refine st2 Vp (.bool sp) (.slice ap lp cp) (Q := fun W => K _ W) ?_
        intro x6 V' oth far
        replace V0 := oth _ _ _ (by first | omega | assumption | (simp; omega)) V0
        replace V1 := oth _ _ _ (by first | omega | assumption | (simp; omega)) V1
        replace hN := hN.far Vp (noInt2 _ _ _ _) far.1
        replace h2 := h2.far Vp (noInt2 _ _ _ _) far.1
        replace hp := hp.far Vp (noInt2 _ _ _ _) far.1
        replace B0 := far.2 _ _ (by first | omega | (simp; omega)) B0
        replace Vp := V'
        clear oth far
        refine hK.out _ _ ⟨V0.c0, V0.c1⟩ (fun hHeld => ?_)
        clear hK K
        refine wpAnyH_take (i := 9) (v := ?_) rfl (by kernel_rfl) (by kernel_rfl) (by kernel_rfl) (fun _ _ _ h => h) (Or.inl ⟨by rfl, ?_⟩) hHeld ?_
        rotate_left
        · (intro W hSw; (try dsimp only at hSw); go_simp; all_goals (with_reducible rfl))
        simp only [List.getElem_toArray, List.getElem_cons_zero, List.getElem_cons_succ, Act.put, List.setIfInBounds_toArray, List.set_cons_zero, List.set_cons_succ]
        refine wpAnyH_done (by kernel_rfl) ?_ _
        refine NoPanic.normal ?_
        clear hHeld
        have c_Vp := Vp.c0
        have f0_Vp := Vp.frozen 0
        have d_Vp := Vp.c1
        have f1_Vp := Vp.frozen 1
        have l_Vp := Vp.lt
        have m_Vp := Nat.le_of_lt l_Vp
        go_wp2_with fail
        have hw := wint64_out sp ap lp cp zp x6 hp (by rw [ep]; exact HX.out)
        refine (hw).mono ?_
        rintro e x7 ⟨rfl, hb⟩
        replace V0 := Va.after hb V0
        replace V1 := Va.after hb V1
        replace Vp := Va.after hb Vp
        replace hN := It.after hb hN
        replace h2 := It.after hb h2
        replace hp := It.after hb hp
        replace B0 := step B0 hb
        clear hb
        clear c_Vp f0_Vp d_Vp f1_Vp l_Vp m_Vp
        have c_V1 := V1.c0
        have f0_V1 := V1.frozen 0
        have d_V1 := V1.c1
        have f1_V1 := V1.frozen 1
        have l_V1 := V1.lt
        have m_V1 := Nat.le_of_lt l_V1
        go_wp2_with fail
        refine bodyPost_ret (results_dt rfl rfl (V1.set2 _ _)) rfl ?_
        exact ⟨rfl, below_2 B0 (by omega) _ _⟩
    ·
      simp only [List.getElem_toArray, List.getElem_cons_zero, List.getElem_cons_succ]
      go_simp
      have lt_Vp_V0 := V0.lt
      have lt_Vp_V1 := V1.lt
      have sz_Vp := B0.size
      refine ent1 _ _ _ (Q := fun V => K _ V) ?_
      intro x4 hb hs_ Vp
      replace V0 := Va.after hb V0
      replace V1 := Va.after hb V1
      replace hN := It.after hb hN
      replace h2 := It.after hb h2
      replace B0 := step B0 hb
      clear hb hs_
      refine hK.out _ _ ⟨V0.c0, V0.c1⟩ (fun hHeld => ?_)
      clear hK K
      refine wpAnyH_ready (rs := [3]) (by kernel_rfl) (by simp) ?_
      refine AllReadyH.cons rfl (fun K hK => ?_) AllReadyH.nil
      ·
        simp only [List.getElem_toArray, List.getElem_cons_zero, List.getElem_cons_succ]
        go_simp
        refine (wmul_ok s s2 a a2 l c l2 c2 zs z2 _ hN h2 (by show _ < _; rw [e2, HV.out]; exact HF.out)).mono ?_
        rintro e x5 ⟨sp, ap, lp, cp, zp, rfl, hp, ep, hb⟩
        replace V0 := Va.after hb V0
        replace V1 := Va.after hb V1
        replace Vp := Va.after hb Vp
        replace hN := It.after hb hN
        replace h2 := It.after hb h2
        replace B0 := step B0 hb
        clear hb
        rw [e2, HV.out] at ep
        try go_wp2_with fail
        refine hK.out _ _ ⟨V0.c0, V0.c1⟩ (fun hHeld => ?_)
        clear hK K
        refine wpAnyH_take (i := 4) (v := ?_) rfl (by kernel_rfl) (by kernel_rfl) (by kernel_rfl) (fun _ _ _ h => h) (Or.inl ⟨by rfl, ?_⟩) hHeld ?_
        rotate_left
        · (intro W hSw; (try dsimp only at hSw); go_simp; all_goals (with_reducible rfl))
        simp only [List.getElem_toArray, List.getElem_cons_zero, List.getElem_cons_succ, Act.put, List.setIfInBounds_toArray, List.set_cons_zero, List.set_cons_succ]
        refine wpAnyH_take (i := 5) (v := ?_) rfl (by kernel_rfl) (by kernel_rfl) (by kernel_rfl) (fun _ _ _ h => h) (Or.inl ⟨by rfl, ?_⟩) hHeld ?_
        rotate_left
        · (intro W hSw; (try dsimp only at hSw); go_simp; all_goals (with_reducible rfl))
        simp only [List.getElem_toArray, List.getElem_cons_zero, List.getElem_cons_succ, Act.put, List.setIfInBounds_toArray, List.set_cons_zero, List.set_cons_succ]
        refine wpAnyH_take (i := 6) (v := ?_) rfl (by kernel_rfl) (by kernel_rfl) (by kernel_rfl) (fun _ _ _ h => h) (Or.inl ⟨by rfl, ?_⟩) hHeld ?_
        rotate_left
        · (intro W hSw; (try dsimp only at hSw); go_simp; all_goals (with_reducible rfl))
        simp only [List.getElem_toArray, List.getElem_cons_zero, List.getElem_cons_succ, Act.put, List.setIfInBounds_toArray, List.set_cons_zero, List.set_cons_succ]
        have c_Vp := Vp.c0
        have f0_Vp := Vp.frozen 0
        have d_Vp := Vp.c1
        have f1_Vp := Vp.frozen 1
        have l_Vp := Vp.lt
        have m_Vp := Nat.le_of_lt l_Vp
        refine wpAnyH_ready (rs := [8]) (by kernel_rfl) (by simp) ?_
        refine AllReadyH.cons rfl (fun K hK => ?_) AllReadyH.nil
        simp only [List.getElem_toArray, List.getElem_cons_zero, List.getElem_cons_succ]
        go_simp
        clear c_Vp f0_Vp d_Vp f1_Vp l_Vp m_Vp
        refine st2 Vp (.bool sp) (.slice ap lp cp) (Q := fun W => K _ W) ?_
        intro x6 V' oth far
        replace V0 := oth _ _ _ (by first | omega | assumption | (simp; omega)) V0
        replace V1 := oth _ _ _ (by first | omega | assumption | (simp; omega)) V1
        replace hN := hN.far Vp (noInt2 _ _ _ _) far.1
        replace h2 := h2.far Vp (noInt2 _ _ _ _) far.1
        replace hp := hp.far Vp (noInt2 _ _ _ _) far.1
        replace B0 := far.2 _ _ (by first | omega | (simp; omega)) B0
        replace Vp := V'
        clear oth far
        refine hK.out _ _ ⟨V0.c0, V0.c1⟩ (fun hHeld => ?_)
        clear hK K
        refine wpAnyH_take (i := 9) (v := ?_) rfl (by kernel_rfl) (by kernel_rfl) (by kernel_rfl) (fun _ _ _ h => h) (Or.inl ⟨by rfl, ?_⟩) hHeld ?_
        rotate_left
        · (intro W hSw; (try dsimp only at hSw); go_simp; all_goals (with_reducible rfl))
        simp only [List.getElem_toArray, List.getElem_cons_zero, List.getElem_cons_succ, Act.put, List.setIfInBounds_toArray, List.set_cons_zero, List.set_cons_succ]
        refine wpAnyH_done (by kernel_rfl) ?_ _
        refine NoPanic.normal ?_
        clear hHeld
        have c_Vp := Vp.c0
        have f0_Vp := Vp.frozen 0
        have d_Vp := Vp.c1
        have f1_Vp := Vp.frozen 1
        have l_Vp := Vp.lt
        have m_Vp := Nat.le_of_lt l_Vp
        go_wp2_with fail
        have hw := wint64_out sp ap lp cp zp x6 hp (by rw [ep]; exact HX.out)
        refine (hw).mono ?_
        rintro e x7 ⟨rfl, hb⟩
        replace V0 := Va.after hb V0
        replace V1 := Va.after hb V1
        replace Vp := Va.after hb Vp
        replace hN := It.after hb hN
        replace h2 := It.after hb h2
        replace hp := It.after hb hp
        replace B0 := step B0 hb
        clear hb
        clear c_Vp f0_Vp d_Vp f1_Vp l_Vp m_Vp
        have c_V1 := V1.c0
        have f0_V1 := V1.frozen 0
        have d_V1 := V1.c1
        have f1_V1 := V1.frozen 1
        have l_V1 := V1.lt
        have m_V1 := Nat.le_of_lt l_V1
        go_wp2_with fail
        refine bodyPost_ret (results_dt rfl rfl (V1.set2 _ _)) rfl ?_
        exact ⟨rfl, below_2 B0 (by omega) _ _⟩
  ·
    simp only [List.getElem_toArray, List.getElem_cons_zero, List.getElem_cons_succ]
    go_simp
    have lt_Vp_V0 := V0.lt
    have lt_Vp_V1 := V1.lt
    have sz_Vp := B0.size
    refine ent1 _ _ _ (Q := fun V => K _ V) ?_
    intro x3 hb hs_ Vp
    replace V0 := Va.after hb V0
    replace V1 := Va.after hb V1
    replace hN := It.after hb hN
    replace B0 := step B0 hb
    clear hb hs_
    refine hK.out _ _ ⟨V0.c0, V0.c1⟩ (fun hHeld => ?_)
    clear hK K
    refine wpAnyH_ready (rs := [2]) (by kernel_rfl) (by simp) ?_
    refine AllReadyH.cons rfl (fun K hK => ?_) AllReadyH.nil
    ·
      simp only [List.getElem_toArray, List.getElem_cons_zero, List.getElem_cons_succ]
      go_simp
      refine (wsmall_any T t1 t2 _).mono ?_
      rintro e x4 ⟨s2, a2, l2, c2, z2, rfl, h2, e2, hb⟩
      replace V0 := Va.after hb V0
      replace V1 := Va.after hb V1
      replace Vp := Va.after hb Vp
      replace hN := It.after hb hN
      replace B0 := step B0 hb
      clear hb
      try go_wp2_with fail
      refine hK.out _ _ ⟨V0.c0, V0.c1⟩ (fun hHeld => ?_)
      clear hK K
      refine wpAnyH_ready (rs := [3]) (by kernel_rfl) (by simp) ?_
      refine AllReadyH.cons rfl (fun K hK => ?_) AllReadyH.nil
      ·
        simp only [List.getElem_toArray, List.getElem_cons_zero, List.getElem_cons_succ]
        go_simp
        refine (wmul_ok s s2 a a2 l c l2 c2 zs z2 _ hN h2 (by show _ < _; rw [e2, HV.out]; exact HF.out)).mono ?_
        rintro e x5 ⟨sp, ap, lp, cp, zp, rfl, hp, ep, hb⟩
        replace V0 := Va.after hb V0
        replace V1 := Va.after hb V1
        replace Vp := Va.after hb Vp
        replace hN := It.after hb hN
        replace h2 := It.after hb h2
        replace B0 := step B0 hb
        clear hb
        rw [e2, HV.out] at ep
        try go_wp2_with fail
        refine hK.out _ _ ⟨V0.c0, V0.c1⟩ (fun hHeld => ?_)
        clear hK K
        refine wpAnyH_take (i := 4) (v := ?_) rfl (by kernel_rfl) (by kernel_rfl) (by kernel_rfl) (fun _ _ _ h => h) (Or.inl ⟨by rfl, ?_⟩) hHeld ?_
        rotate_left
        · (intro W hSw; (try dsimp only at hSw); go_simp; all_goals (with_reducible rfl))
        simp only [List.getElem_toArray, List.getElem_cons_zero, List.getElem_cons_succ, Act.put, List.setIfInBounds_toArray, List.set_cons_zero, List.set_cons_succ]
        refine wpAnyH_take (i := 5) (v := ?_) rfl (by kernel_rfl) (by kernel_rfl) (by kernel_rfl) (fun _ _ _ h => h) (Or.inl ⟨by rfl, ?_⟩) hHeld ?_
        rotate_left
        · (intro W hSw; (try dsimp only at hSw); go_simp; all_goals (with_reducible rfl))
        simp only [List.getElem_toArray, List.getElem_cons_zero, List.getElem_cons_succ, Act.put, List.setIfInBounds_toArray, List.set_cons_zero, List.set_cons_succ]
        refine wpAnyH_take (i := 6) (v := ?_) rfl (by kernel_rfl) (by kernel_rfl) (by kernel_rfl) (fun _ _ _ h => h) (Or.inl ⟨by rfl, ?_⟩) hHeld ?_
        rotate_left
        · (intro W hSw; (try dsimp only at hSw); go_simp; all_goals (with_reducible rfl))
        simp only [List.getElem_toArray, List.getElem_cons_zero, List.getElem_cons_succ, Act.put, List.setIfInBounds_toArray, List.set_cons_zero, List.set_cons_succ]
        have c_Vp := Vp.c0
        have f0_Vp := Vp.frozen 0
        have d_Vp := Vp.c1
        have f1_Vp := Vp.frozen 1
        have l_Vp := Vp.lt
        have m_Vp := Nat.le_of_lt l_Vp
        refine wpAnyH_ready (rs := [8]) (by kernel_rfl) (by simp) ?_
        refine AllReadyH.cons rfl (fun K hK => ?_) AllReadyH.nil
        simp only [List.getElem_toArray, List.getElem_cons_zero, List.getElem_cons_succ]
        go_simp
        clear c_Vp f0_Vp d_Vp f1_Vp l_Vp m_Vp
        refine st2 Vp (.bool sp) (.slice ap lp cp) (Q := fun W => K _ W) ?_
        intro x6 V' oth far
        replace V0 := oth _ _ _ (by first | omega | assumption | (simp; omega)) V0
        replace V1 := oth _ _ _ (by first | omega | assumption | (simp; omega)) V1
        replace hN := hN.far Vp (noInt2 _ _ _ _) far.1
        replace h2 := h2.far Vp (noInt2 _ _ _ _) far.1
        replace hp := hp.far Vp (noInt2 _ _ _ _) far.1
        replace B0 := far.2 _ _ (by first | omega | (simp; omega)) B0
        replace Vp := V'
        clear oth far
        refine hK.out _ _ ⟨V0.c0, V0.c1⟩ (fun hHeld => ?_)
        clear hK K
        refine wpAnyH_take (i := 9) (v := ?_) rfl (by kernel_rfl) (by kernel_rfl) (by kernel_rfl) (fun _ _ _ h => h) (Or.inl ⟨by rfl, ?_⟩) hHeld ?_
        rotate_left
        · (intro W hSw; (try dsimp only at hSw); go_simp; all_goals (with_reducible rfl))
        simp only [List.getElem_toArray, List.getElem_cons_zero, List.getElem_cons_succ, Act.put, List.setIfInBounds_toArray, List.set_cons_zero, List.set_cons_succ]
        refine wpAnyH_done (by kernel_rfl) ?_ _
        refine NoPanic.normal ?_
        clear hHeld
        have c_Vp := Vp.c0
        have f0_Vp := Vp.frozen 0
        have d_Vp := Vp.c1
        have f1_Vp := Vp.frozen 1
        have l_Vp := Vp.lt
        have m_Vp := Nat.le_of_lt l_Vp
        go_wp2_with fail
        have hw := wint64_out sp ap lp cp zp x6 hp (by rw [ep]; exact HX.out)
        refine (hw).mono ?_
        rintro e x7 ⟨rfl, hb⟩
        replace V0 := Va.after hb V0
        replace V1 := Va.after hb V1
        replace Vp := Va.after hb Vp
        replace hN := It.after hb hN
        replace h2 := It.after hb h2
        replace hp := It.after hb hp
        replace B0 := step B0 hb
        clear hb
        clear c_Vp f0_Vp d_Vp f1_Vp l_Vp m_Vp
        have c_V1 := V1.c0
        have f0_V1 := V1.frozen 0
        have d_V1 := V1.c1
        have f1_V1 := V1.frozen 1
        have l_V1 := V1.lt
        have m_V1 := Nat.le_of_lt l_V1
        go_wp2_with fail
        refine bodyPost_ret (results_dt rfl rfl (V1.set2 _ _)) rfl ?_
        exact ⟨rfl, below_2 B0 (by omega) _ _⟩
theorem frp_any (s : Bool) (a : Option Addr) (l c : Nat) (zs : List Int) (N T : Int) (P : Nat) (w : World) (hN : It w s a l c zs) (hv : iv s zs = N) (t1 : -9223372036854775808 ≤ T) (t2 : T ≤ 9223372036854775807) (hf : ((N * T).natAbs : Int) < pw 4096) :
    Calls Tryz.prog 71 #[.agg #[.bool s, .slice a l c], .int .i64 T, .int .i64 P] w fun e W' => e = .returned (.tuple #[.agg #[.int .i64 (frp (N * T) P).1, .int .i64 (frp (N * T) P).2.1], .int .i64 (frp (N * T) P).2.2]) ∧ Below w.heap.size w W' := by
  by_cases hx : -9223372036854775808 ≤ N * T ∧ N * T ≤ 9223372036854775807
  · have e : frp (N * T) P = (N * T, P, 0) := by unfold frp; rw [if_pos hx]
    rw [e]
    exact frp_in s a l c zs N T P w hN hv t1 t2 hf hx
  · have e : frp (N * T) P = (0, 0, 5) := by unfold frp; rw [if_neg hx]
    rw [e]
    exact frp_out s a l c zs N T P w hN hv t1 t2 hf (by omega)
end Go.Proofs.YtebbblhafjaaiaaGreatDoor
