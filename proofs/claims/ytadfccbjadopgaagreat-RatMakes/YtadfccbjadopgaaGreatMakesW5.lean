/-
  The walk of RatMakes: each call by its contract.
-/
import Derived.Test.YtadfccbjadopgaaGreatRt15
namespace Go.Proofs.YtadfccbjadopgaaGreat
open Go.RowKit Go.Shelf
set_option linter.unusedVariables false

theorem make_div (s t : Bool) (z0 z1 : List Int) : Rat.divInt (iv (!(s == t)) z0) (num z1) = Rat.divInt (iv s z0) (iv t z1) := by
  cases s <;> cases t
  · rfl
  · show Rat.divInt (iv true z0) (num z1) = Rat.divInt (iv false z0) (iv true z1)
    rw [iv_t, iv_t, iv_f, Rat.divInt_neg']
  · rfl
  · show Rat.divInt (iv false z0) (num z1) = Rat.divInt (iv true z0) (iv true z1)
    rw [iv_t, iv_t, iv_f, Rat.neg_divInt_neg]
theorem iv_zero {s : Bool} {zs : List Int} : iv s zs = 0 ↔ num zs = 0 := by cases s <;> simp only [iv_t, iv_f] <;> omega
set_option maxHeartbeats 16000000 in
set_option maxRecDepth 20000 in
theorem makes5_walk (s0 : Bool) (a0 : Option Addr) (len0 cap0 : Nat) (z0 : List Int) (s1 : Bool) (a1 : Option Addr) (len1 cap1 : Nat) (z1 : List Int) (w : World) (h0 : Sl w a0 len0 z0) (c0 : len0 ≤ cap0) (e0 : a0 = none → len0 = 0 ∧ cap0 = 0) (h1 : Sl w a1 len1 z1) (c1 : len1 ≤ cap1) (e1 : a1 = none → len1 = 0 ∧ cap1 = 0) :
    Calls Tryz.prog 4 #[.agg #[.bool s0, .slice a0 len0 cap0], .agg #[.bool s1, .slice a1 len1 cap1]] w fun e w' => e = .returned (.bool true) ∧ Below w.heap.size w w' := by
  have B0 : Below w.heap.size w w := Below.refl _ _
  go_enter Tryz.func4, Tryz.ntmps4
  go_wp2_with fail
  refine ent2 w _ _ _ _ (Q := fun W => Calls Tryz.prog _ _ W _) ?_
  intro x1 hb hs_x1 V0 V1
  replace h0 := Sl.after hb h0
  replace h1 := Sl.after hb h1
  replace B0 := step B0 hb
  clear hb hs_x1
  refine (awake5 x1).mono ?_
  rintro e x2 ⟨rfl, hb⟩
  replace V0 := Va.after hb V0
  replace V1 := Va.after hb V1
  replace h0 := Sl.after hb h0
  replace h1 := Sl.after hb h1
  replace B0 := step B0 hb
  clear hb
  have c_V0 := V0.c0
  have f0_V0 := V0.frozen 0
  have d_V0 := V0.c1
  have f1_V0 := V0.frozen 1
  have l_V0 := V0.lt
  have m_V0 := Nat.le_of_lt l_V0
  go_wp2_with fail
  by_cases q0 : 1100 < len0
  ·
    refine (iwhole_no s0 a0 len0 cap0 x2 q0).mono ?_
    rintro e x3 ⟨rfl, hb⟩
    replace V0 := Va.after hb V0
    replace V1 := Va.after hb V1
    replace h0 := Sl.after hb h0
    replace h1 := Sl.after hb h1
    replace B0 := step B0 hb
    clear hb
    clear c_V0 f0_V0 d_V0 f1_V0 l_V0 m_V0
    have c_V1 := V1.c0
    have f0_V1 := V1.frozen 0
    have d_V1 := V1.c1
    have f1_V1 := V1.frozen 1
    have l_V1 := V1.lt
    have m_V1 := Nat.le_of_lt l_V1
    go_wp2_with fail
    refine ent1 x3 _ _ (Q := fun W => Calls Tryz.prog _ _ W _) ?_
    intro x4 hb hs_x4 Xi
    replace V0 := Va.after hb V0
    replace V1 := Va.after hb V1
    replace h0 := Sl.after hb h0
    replace h1 := Sl.after hb h1
    replace B0 := step B0 hb
    clear hb hs_x4
    by_cases q1 : 1100 < len1
    ·
      refine (iwhole_no s1 a1 len1 cap1 x4 q1).mono ?_
      rintro e x5 ⟨rfl, hb⟩
      replace V0 := Va.after hb V0
      replace V1 := Va.after hb V1
      replace Xi := Va.after hb Xi
      replace h0 := Sl.after hb h0
      replace h1 := Sl.after hb h1
      replace B0 := step B0 hb
      clear hb
      clear c_V1 f0_V1 d_V1 f1_V1 l_V1 m_V1
      go_wp2_with fail
      go_ret
      exact ⟨rfl, B0.alloc B0.size _⟩
    ·
      refine (iwhole_ok s1 a1 len1 cap1 z1 x4 h1 e1 (by omega)).mono ?_
      rintro e x5 ⟨sj, aj, lj, cj, zj, rfl, hj, vj, hb⟩
      replace V0 := Va.after hb V0
      replace V1 := Va.after hb V1
      replace Xi := Va.after hb Xi
      replace h0 := Sl.after hb h0
      replace h1 := Sl.after hb h1
      replace B0 := step B0 hb
      clear hb
      clear c_V1 f0_V1 d_V1 f1_V1 l_V1 m_V1
      go_wp2_with fail
      go_ret
      exact ⟨rfl, B0.alloc B0.size _⟩
  ·
    refine (iwhole_ok s0 a0 len0 cap0 z0 x2 h0 e0 (by omega)).mono ?_
    rintro e x3 ⟨si, ai, li, ci, zi, rfl, hi, vi, hb⟩
    replace V0 := Va.after hb V0
    replace V1 := Va.after hb V1
    replace h0 := Sl.after hb h0
    replace h1 := Sl.after hb h1
    replace B0 := step B0 hb
    clear hb
    have HVi : Hid (iv si zi = iv s0 z0) := vi
    clear vi
    clear c_V0 f0_V0 d_V0 f1_V0 l_V0 m_V0
    have c_V1 := V1.c0
    have f0_V1 := V1.frozen 0
    have d_V1 := V1.c1
    have f1_V1 := V1.frozen 1
    have l_V1 := V1.lt
    have m_V1 := Nat.le_of_lt l_V1
    go_wp2_with fail
    refine ent1 x3 _ _ (Q := fun W => Calls Tryz.prog _ _ W _) ?_
    intro x4 hb hs_x4 Xi
    replace V0 := Va.after hb V0
    replace V1 := Va.after hb V1
    replace h0 := Sl.after hb h0
    replace h1 := Sl.after hb h1
    replace hi := It.after hb hi
    replace B0 := step B0 hb
    clear hb hs_x4
    by_cases q1 : 1100 < len1
    ·
      refine (iwhole_no s1 a1 len1 cap1 x4 q1).mono ?_
      rintro e x5 ⟨rfl, hb⟩
      replace V0 := Va.after hb V0
      replace V1 := Va.after hb V1
      replace Xi := Va.after hb Xi
      replace h0 := Sl.after hb h0
      replace h1 := Sl.after hb h1
      replace hi := It.after hb hi
      replace B0 := step B0 hb
      clear hb
      clear c_V1 f0_V1 d_V1 f1_V1 l_V1 m_V1
      go_wp2_with fail
      go_ret
      exact ⟨rfl, B0.alloc B0.size _⟩
    ·
      refine (iwhole_ok s1 a1 len1 cap1 z1 x4 h1 e1 (by omega)).mono ?_
      rintro e x5 ⟨sj, aj, lj, cj, zj, rfl, hj, vj, hb⟩
      replace V0 := Va.after hb V0
      replace V1 := Va.after hb V1
      replace Xi := Va.after hb Xi
      replace h0 := Sl.after hb h0
      replace h1 := Sl.after hb h1
      replace hi := It.after hb hi
      replace B0 := step B0 hb
      clear hb
      have HVj : Hid (iv sj zj = iv s1 z1) := vj
      clear vj
      clear c_V1 f0_V1 d_V1 f1_V1 l_V1 m_V1
      have c_Xi := Xi.c0
      have f0_Xi := Xi.frozen 0
      have d_Xi := Xi.c1
      have f1_Xi := Xi.frozen 1
      have l_Xi := Xi.lt
      have m_Xi := Nat.le_of_lt l_Xi
      go_wp2_with fail
      refine ent1 x5 _ _ (Q := fun W => Calls Tryz.prog _ _ W _) ?_
      intro x6 hb hs_x6 Xj
      replace V0 := Va.after hb V0
      replace V1 := Va.after hb V1
      replace Xi := Va.after hb Xi
      replace h0 := Sl.after hb h0
      replace h1 := Sl.after hb h1
      replace hi := It.after hb hi
      replace hj := It.after hb hj
      replace B0 := step B0 hb
      clear hb hs_x6
      refine (qwhole_any si ai li ci zi x6 hi).mono ?_
      rintro e x7 ⟨ew, sw, aw, lw, cw, zw, bw, mw, dw, yw, vw, rfl, hw, raw, hb⟩
      replace V0 := Va.after hb V0
      replace V1 := Va.after hb V1
      replace Xi := Va.after hb Xi
      replace Xj := Va.after hb Xj
      replace h0 := Sl.after hb h0
      replace h1 := Sl.after hb h1
      replace hi := It.after hb hi
      replace hj := It.after hb hj
      replace B0 := step B0 hb
      clear hb
      have HRW : Hid (RA ((iv s0 z0 : Int) : Rat) ew vw) := by rw [← HVi.out]; exact raw
      clear raw
      clear c_Xi f0_Xi d_Xi f1_Xi l_Xi m_Xi
      have c_Xi := Xi.c0
      have f0_Xi := Xi.frozen 0
      have d_Xi := Xi.c1
      have f1_Xi := Xi.frozen 1
      have l_Xi := Xi.lt
      have m_Xi := Nat.le_of_lt l_Xi
      have c_Xj := Xj.c0
      have f0_Xj := Xj.frozen 0
      have d_Xj := Xj.c1
      have f1_Xj := Xj.frozen 1
      have l_Xj := Xj.lt
      have m_Xj := Nat.le_of_lt l_Xj
      go_wp2_with fail
      refine ent1 x7 _ _ (Q := fun W => Calls Tryz.prog _ _ W _) ?_
      intro x8 hb hs_x8 Xw
      replace V0 := Va.after hb V0
      replace V1 := Va.after hb V1
      replace Xi := Va.after hb Xi
      replace Xj := Va.after hb Xj
      replace h0 := Sl.after hb h0
      replace h1 := Sl.after hb h1
      replace hi := It.after hb hi
      replace hj := It.after hb hj
      replace hw := Rt.after hb hw
      replace B0 := step B0 hb
      clear hb hs_x8
      by_cases b0 : iv s1 z1 = 0
      ·
        refine (qnew_nought si sj ai aj li ci lj cj zi zj x8 hi hj (by rw [HVj.out]; exact b0)).mono ?_
        rintro e x9 ⟨rfl, hb⟩
        replace V0 := Va.after hb V0
        replace V1 := Va.after hb V1
        replace Xi := Va.after hb Xi
        replace Xj := Va.after hb Xj
        replace Xw := Va.after hb Xw
        replace h0 := Sl.after hb h0
        replace h1 := Sl.after hb h1
        replace hi := It.after hb hi
        replace hj := It.after hb hj
        replace hw := Rt.after hb hw
        replace B0 := step B0 hb
        clear hb
        clear c_Xi f0_Xi d_Xi f1_Xi l_Xi m_Xi c_Xj f0_Xj d_Xj f1_Xj l_Xj m_Xj
        go_wp2_with fail
        refine ent1 x9 _ _ (Q := fun W => Code.wp Tryz.prog _ _ _ W) ?_
        intro x10 hb hs_x10 Xr
        replace V0 := Va.after hb V0
        replace V1 := Va.after hb V1
        replace Xi := Va.after hb Xi
        replace Xj := Va.after hb Xj
        replace Xw := Va.after hb Xw
        replace h0 := Sl.after hb h0
        replace h1 := Sl.after hb h1
        replace hi := It.after hb hi
        replace hj := It.after hb hj
        replace hw := Rt.after hb hw
        replace B0 := step B0 hb
        clear hb hs_x10
        refine wp_region_noPanic ?_
        replace V0 : Va x10.drew _ _ _ := V0
        replace V1 : Va x10.drew _ _ _ := V1
        replace Xi : Va x10.drew _ _ _ := Xi
        replace Xj : Va x10.drew _ _ _ := Xj
        replace Xw : Va x10.drew _ _ _ := Xw
        replace Xr : Va x10.drew _ _ _ := Xr
        replace h0 := h0.drw
        replace h1 := h1.drw
        replace hi := hi.drw
        replace hj := hj.drw
        replace hw := hw.drw
        replace B0 := Below.drew B0
        refine wp_region_held_drew (S := (fun W => W.cell? ⟨w.heap.size, 0, none⟩ = some (.bool s0) ∧ W.cell? ⟨w.heap.size, 1, none⟩ = some (.slice a0 len0 cap0) ∧ W.cell? ⟨x7.heap.size, 0, none⟩ = some (.bool sw) ∧ W.cell? ⟨x7.heap.size, 1, none⟩ = some (.slice aw lw cw) ∧ W.cell? ⟨x7.heap.size, 2, none⟩ = some (.slice bw mw dw))) (by kernel_rfl) ⟨V0.c0, V0.c1, Xw.d0, Xw.d1, Xw.d2⟩ (fun hHeld => ?_)
        obtain ⟨x11, hxd⟩ : ∃ xd, xd = x10.drew := ⟨_, rfl⟩
        rw [← hxd] at V0 V1 Xi Xj Xw Xr h0 h1 hi hj hw B0 hHeld ⊢
        clear hxd
        refine wpAnyH_take (i := 0) (v := ?_) rfl (by kernel_rfl) (by kernel_rfl) (by kernel_rfl) (fun _ _ _ h => h) (Or.inl ⟨by rfl, ?_⟩) hHeld ?_
        rotate_left
        · (intro W hSw; (try dsimp only at hSw); go_simp; all_goals (with_reducible rfl))
        simp only [List.getElem_toArray, List.getElem_cons_zero, Act.put, List.setIfInBounds_toArray, List.set_cons_zero, List.set_cons_succ]
        refine wpAnyH_take (i := 1) (v := ?_) rfl (by kernel_rfl) (by kernel_rfl) (by kernel_rfl) (fun _ _ _ h => h) (Or.inl ⟨by rfl, ?_⟩) hHeld ?_
        rotate_left
        · (intro W hSw; (try dsimp only at hSw); go_simp; all_goals (with_reducible rfl))
        simp only [List.getElem_toArray, List.getElem_cons_zero, List.getElem_cons_succ, Act.put, List.setIfInBounds_toArray, List.set_cons_zero, List.set_cons_succ]
        refine wpAnyH_take (i := 2) (v := ?_) rfl (by kernel_rfl) (by kernel_rfl) (by kernel_rfl) (fun _ _ _ h => h) (Or.inl ⟨by rfl, ?_⟩) hHeld ?_
        rotate_left
        · (intro W hSw; (try dsimp only at hSw); go_simp; all_goals (with_reducible rfl))
        simp only [List.getElem_toArray, List.getElem_cons_zero, List.getElem_cons_succ, Act.put, List.setIfInBounds_toArray, List.set_cons_zero, List.set_cons_succ]
        refine wpAnyH_take (i := 3) (v := ?_) rfl (by kernel_rfl) (by kernel_rfl) (by kernel_rfl) (fun _ _ _ h => h) (Or.inl ⟨by rfl, ?_⟩) hHeld ?_
        rotate_left
        · (intro W hSw; (try dsimp only at hSw); go_simp; all_goals (with_reducible rfl))
        simp only [List.getElem_toArray, List.getElem_cons_zero, List.getElem_cons_succ, Act.put, List.setIfInBounds_toArray, List.set_cons_zero, List.set_cons_succ]
        refine wpAnyH_take (i := 4) (v := ?_) rfl (by kernel_rfl) (by kernel_rfl) (by kernel_rfl) (fun _ _ _ h => h) (Or.inl ⟨by rfl, ?_⟩) hHeld ?_
        rotate_left
        · (intro W hSw; (try dsimp only at hSw); go_simp; all_goals (with_reducible rfl))
        simp only [List.getElem_toArray, List.getElem_cons_zero, List.getElem_cons_succ, Act.put, List.setIfInBounds_toArray, List.set_cons_zero, List.set_cons_succ]
        refine wpAnyH_take (i := 5) (v := ?_) rfl (by kernel_rfl) (by kernel_rfl) (by kernel_rfl) (fun _ _ _ h => h) (Or.inl ⟨by rfl, ?_⟩) hHeld ?_
        rotate_left
        · (intro W hSw; (try dsimp only at hSw); go_simp; all_goals (with_reducible rfl))
        simp only [List.getElem_toArray, List.getElem_cons_zero, List.getElem_cons_succ, Act.put, List.setIfInBounds_toArray, List.set_cons_zero, List.set_cons_succ]
        refine wpAnyH_ready (rs := [6]) (by kernel_rfl) (by simp) ?_
        refine AllReadyH.cons rfl (fun K hK => ?_) AllReadyH.nil
        simp only [List.getElem_toArray, List.getElem_cons_zero, List.getElem_cons_succ]
        go_simp
        refine (rwhole5 s0 a0 len0 cap0 z0 _ h0 c0 (by omega)).mono ?_
        rintro e x12 ⟨s5, a5, l5, c5, z5, b5, m5, d5, y5, rfl, h5, hb⟩
        replace V0 := Va.after hb V0
        replace V1 := Va.after hb V1
        replace Xi := Va.after hb Xi
        replace Xj := Va.after hb Xj
        replace Xw := Va.after hb Xw
        replace Xr := Va.after hb Xr
        replace h0 := Sl.after hb h0
        replace h1 := Sl.after hb h1
        replace hi := It.after hb hi
        replace hj := It.after hb hj
        replace hw := Rt.after hb hw
        replace B0 := step B0 hb
        clear hb
        try go_wp2_with fail
        refine hK.out _ _ ⟨V0.c0, V0.c1, Xw.d0, Xw.d1, Xw.d2⟩ (fun hHeld => ?_)
        clear hK K
        refine wpAnyH_ready (rs := [7]) (by kernel_rfl) (by simp) ?_
        refine AllReadyH.cons rfl (fun K hK => ?_) AllReadyH.nil
        simp only [List.getElem_toArray, List.getElem_cons_zero, List.getElem_cons_succ]
        go_simp
        refine (agrees5 sw aw lw cw zw bw mw dw yw vw ((iv s0 z0 : Int) : Rat) ew s5 a5 l5 c5 z5 b5 m5 d5 y5 _ hw h5 HRW).mono ?_
        rintro e x13 ⟨rfl, hb⟩
        replace V0 := Va.after hb V0
        replace V1 := Va.after hb V1
        replace Xi := Va.after hb Xi
        replace Xj := Va.after hb Xj
        replace Xw := Va.after hb Xw
        replace Xr := Va.after hb Xr
        replace h0 := Sl.after hb h0
        replace h1 := Sl.after hb h1
        replace hi := It.after hb hi
        replace hj := It.after hb hj
        replace hw := Rt.after hb hw
        replace h5 := Rr.after hb h5
        replace B0 := step B0 hb
        clear hb
        try go_wp2_with fail
        refine hK.out _ _ ⟨V0.c0, V0.c1, Xw.d0, Xw.d1, Xw.d2⟩ (fun hHeld => ?_)
        clear hK K
        refine wpAnyH_take (i := 8) (v := ?_) rfl (by kernel_rfl) (by kernel_rfl) (by kernel_rfl) (fun _ _ _ h => h) (Or.inl ⟨by rfl, ?_⟩) hHeld ?_
        rotate_left
        · (intro W hSw; (try dsimp only at hSw); go_simp; all_goals (with_reducible rfl))
        simp only [List.getElem_toArray, List.getElem_cons_zero, List.getElem_cons_succ, Act.put, List.setIfInBounds_toArray, List.set_cons_zero, List.set_cons_succ]
        refine wpAnyH_done (by kernel_rfl) ?_ _
        refine NoPanic.normal ?_
        clear hHeld
        have c_V1 := V1.c0
        have f0_V1 := V1.frozen 0
        have d_V1 := V1.c1
        have f1_V1 := V1.frozen 1
        have l_V1 := V1.lt
        have m_V1 := Nat.le_of_lt l_V1
        go_wp2_with fail
        refine (rzero_n a1 len1 cap1 z1 x13 h1 c1 (by omega) true (by symm; simpa using iv_zero.1 b0)).mono ?_
        rintro e x14 ⟨rfl, hb⟩
        replace V0 := Va.after hb V0
        replace V1 := Va.after hb V1
        replace Xi := Va.after hb Xi
        replace Xj := Va.after hb Xj
        replace Xw := Va.after hb Xw
        replace Xr := Va.after hb Xr
        replace h0 := Sl.after hb h0
        replace h1 := Sl.after hb h1
        replace hi := It.after hb hi
        replace hj := It.after hb hj
        replace hw := Rt.after hb hw
        replace h5 := Rr.after hb h5
        replace B0 := step B0 hb
        clear hb
        clear c_V1 f0_V1 d_V1 f1_V1 l_V1 m_V1
        have c_Xr := Xr.d0
        have f0_Xr := Xr.frozen 0
        have d_Xr := Xr.d1
        have f1_Xr := Xr.frozen 1
        have e_Xr := Xr.d2
        have f2_Xr := Xr.frozen 2
        have l_Xr := Xr.lt
        have m_Xr := Nat.le_of_lt l_Xr
        go_wp2_with fail
        refine (zero5 false none 0 0 [] none 0 0 [] 0 x14 (Rt.nil _) rfl).mono ?_
        rintro e x15 ⟨rfl, hb⟩
        replace V0 := Va.after hb V0
        replace V1 := Va.after hb V1
        replace Xi := Va.after hb Xi
        replace Xj := Va.after hb Xj
        replace Xw := Va.after hb Xw
        replace Xr := Va.after hb Xr
        replace h0 := Sl.after hb h0
        replace h1 := Sl.after hb h1
        replace hi := It.after hb hi
        replace hj := It.after hb hj
        replace hw := Rt.after hb hw
        replace h5 := Rr.after hb h5
        replace B0 := step B0 hb
        clear hb
        clear c_Xr f0_Xr d_Xr f1_Xr e_Xr f2_Xr l_Xr m_Xr
        go_wp2_with fail
        go_ret
        exact ⟨rfl, B0⟩
      ·
        refine (qnew_ok si sj ai aj li ci lj cj zi zj x8 hi hj (by rw [HVj.out]; exact b0)).mono ?_
        rintro e x9 ⟨er, sr, ar, lr, cr, zr, br, mr, dr, yr, vr, rfl, hr, rar, hb⟩
        replace V0 := Va.after hb V0
        replace V1 := Va.after hb V1
        replace Xi := Va.after hb Xi
        replace Xj := Va.after hb Xj
        replace Xw := Va.after hb Xw
        replace h0 := Sl.after hb h0
        replace h1 := Sl.after hb h1
        replace hi := It.after hb hi
        replace hj := It.after hb hj
        replace hw := Rt.after hb hw
        replace B0 := step B0 hb
        clear hb
        have HRR : Hid (RA (Rat.divInt (iv (!(s0 == s1)) z0) (num z1)) er vr) := by rw [make_div, ← HVi.out, ← HVj.out]; exact rar
        clear rar
        clear c_Xi f0_Xi d_Xi f1_Xi l_Xi m_Xi c_Xj f0_Xj d_Xj f1_Xj l_Xj m_Xj
        go_wp2_with fail
        refine ent1 x9 _ _ (Q := fun W => Code.wp Tryz.prog _ _ _ W) ?_
        intro x10 hb hs_x10 Xr
        replace V0 := Va.after hb V0
        replace V1 := Va.after hb V1
        replace Xi := Va.after hb Xi
        replace Xj := Va.after hb Xj
        replace Xw := Va.after hb Xw
        replace h0 := Sl.after hb h0
        replace h1 := Sl.after hb h1
        replace hi := It.after hb hi
        replace hj := It.after hb hj
        replace hw := Rt.after hb hw
        replace hr := Rt.after hb hr
        replace B0 := step B0 hb
        clear hb hs_x10
        refine wp_region_noPanic ?_
        replace V0 : Va x10.drew _ _ _ := V0
        replace V1 : Va x10.drew _ _ _ := V1
        replace Xi : Va x10.drew _ _ _ := Xi
        replace Xj : Va x10.drew _ _ _ := Xj
        replace Xw : Va x10.drew _ _ _ := Xw
        replace Xr : Va x10.drew _ _ _ := Xr
        replace h0 := h0.drw
        replace h1 := h1.drw
        replace hi := hi.drw
        replace hj := hj.drw
        replace hw := hw.drw
        replace hr := hr.drw
        replace B0 := Below.drew B0
        refine wp_region_held_drew (S := (fun W => W.cell? ⟨w.heap.size, 0, none⟩ = some (.bool s0) ∧ W.cell? ⟨w.heap.size, 1, none⟩ = some (.slice a0 len0 cap0) ∧ W.cell? ⟨x7.heap.size, 0, none⟩ = some (.bool sw) ∧ W.cell? ⟨x7.heap.size, 1, none⟩ = some (.slice aw lw cw) ∧ W.cell? ⟨x7.heap.size, 2, none⟩ = some (.slice bw mw dw))) (by kernel_rfl) ⟨V0.c0, V0.c1, Xw.d0, Xw.d1, Xw.d2⟩ (fun hHeld => ?_)
        obtain ⟨x11, hxd⟩ : ∃ xd, xd = x10.drew := ⟨_, rfl⟩
        rw [← hxd] at V0 V1 Xi Xj Xw Xr h0 h1 hi hj hw hr B0 hHeld ⊢
        clear hxd
        refine wpAnyH_take (i := 0) (v := ?_) rfl (by kernel_rfl) (by kernel_rfl) (by kernel_rfl) (fun _ _ _ h => h) (Or.inl ⟨by rfl, ?_⟩) hHeld ?_
        rotate_left
        · (intro W hSw; (try dsimp only at hSw); go_simp; all_goals (with_reducible rfl))
        simp only [List.getElem_toArray, List.getElem_cons_zero, Act.put, List.setIfInBounds_toArray, List.set_cons_zero, List.set_cons_succ]
        refine wpAnyH_take (i := 1) (v := ?_) rfl (by kernel_rfl) (by kernel_rfl) (by kernel_rfl) (fun _ _ _ h => h) (Or.inl ⟨by rfl, ?_⟩) hHeld ?_
        rotate_left
        · (intro W hSw; (try dsimp only at hSw); go_simp; all_goals (with_reducible rfl))
        simp only [List.getElem_toArray, List.getElem_cons_zero, List.getElem_cons_succ, Act.put, List.setIfInBounds_toArray, List.set_cons_zero, List.set_cons_succ]
        refine wpAnyH_take (i := 2) (v := ?_) rfl (by kernel_rfl) (by kernel_rfl) (by kernel_rfl) (fun _ _ _ h => h) (Or.inl ⟨by rfl, ?_⟩) hHeld ?_
        rotate_left
        · (intro W hSw; (try dsimp only at hSw); go_simp; all_goals (with_reducible rfl))
        simp only [List.getElem_toArray, List.getElem_cons_zero, List.getElem_cons_succ, Act.put, List.setIfInBounds_toArray, List.set_cons_zero, List.set_cons_succ]
        refine wpAnyH_take (i := 3) (v := ?_) rfl (by kernel_rfl) (by kernel_rfl) (by kernel_rfl) (fun _ _ _ h => h) (Or.inl ⟨by rfl, ?_⟩) hHeld ?_
        rotate_left
        · (intro W hSw; (try dsimp only at hSw); go_simp; all_goals (with_reducible rfl))
        simp only [List.getElem_toArray, List.getElem_cons_zero, List.getElem_cons_succ, Act.put, List.setIfInBounds_toArray, List.set_cons_zero, List.set_cons_succ]
        refine wpAnyH_take (i := 4) (v := ?_) rfl (by kernel_rfl) (by kernel_rfl) (by kernel_rfl) (fun _ _ _ h => h) (Or.inl ⟨by rfl, ?_⟩) hHeld ?_
        rotate_left
        · (intro W hSw; (try dsimp only at hSw); go_simp; all_goals (with_reducible rfl))
        simp only [List.getElem_toArray, List.getElem_cons_zero, List.getElem_cons_succ, Act.put, List.setIfInBounds_toArray, List.set_cons_zero, List.set_cons_succ]
        refine wpAnyH_take (i := 5) (v := ?_) rfl (by kernel_rfl) (by kernel_rfl) (by kernel_rfl) (fun _ _ _ h => h) (Or.inl ⟨by rfl, ?_⟩) hHeld ?_
        rotate_left
        · (intro W hSw; (try dsimp only at hSw); go_simp; all_goals (with_reducible rfl))
        simp only [List.getElem_toArray, List.getElem_cons_zero, List.getElem_cons_succ, Act.put, List.setIfInBounds_toArray, List.set_cons_zero, List.set_cons_succ]
        refine wpAnyH_ready (rs := [6]) (by kernel_rfl) (by simp) ?_
        refine AllReadyH.cons rfl (fun K hK => ?_) AllReadyH.nil
        simp only [List.getElem_toArray, List.getElem_cons_zero, List.getElem_cons_succ]
        go_simp
        refine (rwhole5 s0 a0 len0 cap0 z0 _ h0 c0 (by omega)).mono ?_
        rintro e x12 ⟨s5, a5, l5, c5, z5, b5, m5, d5, y5, rfl, h5, hb⟩
        replace V0 := Va.after hb V0
        replace V1 := Va.after hb V1
        replace Xi := Va.after hb Xi
        replace Xj := Va.after hb Xj
        replace Xw := Va.after hb Xw
        replace Xr := Va.after hb Xr
        replace h0 := Sl.after hb h0
        replace h1 := Sl.after hb h1
        replace hi := It.after hb hi
        replace hj := It.after hb hj
        replace hw := Rt.after hb hw
        replace hr := Rt.after hb hr
        replace B0 := step B0 hb
        clear hb
        try go_wp2_with fail
        refine hK.out _ _ ⟨V0.c0, V0.c1, Xw.d0, Xw.d1, Xw.d2⟩ (fun hHeld => ?_)
        clear hK K
        refine wpAnyH_ready (rs := [7]) (by kernel_rfl) (by simp) ?_
        refine AllReadyH.cons rfl (fun K hK => ?_) AllReadyH.nil
        simp only [List.getElem_toArray, List.getElem_cons_zero, List.getElem_cons_succ]
        go_simp
        refine (agrees5 sw aw lw cw zw bw mw dw yw vw ((iv s0 z0 : Int) : Rat) ew s5 a5 l5 c5 z5 b5 m5 d5 y5 _ hw h5 HRW).mono ?_
        rintro e x13 ⟨rfl, hb⟩
        replace V0 := Va.after hb V0
        replace V1 := Va.after hb V1
        replace Xi := Va.after hb Xi
        replace Xj := Va.after hb Xj
        replace Xw := Va.after hb Xw
        replace Xr := Va.after hb Xr
        replace h0 := Sl.after hb h0
        replace h1 := Sl.after hb h1
        replace hi := It.after hb hi
        replace hj := It.after hb hj
        replace hw := Rt.after hb hw
        replace hr := Rt.after hb hr
        replace h5 := Rr.after hb h5
        replace B0 := step B0 hb
        clear hb
        try go_wp2_with fail
        refine hK.out _ _ ⟨V0.c0, V0.c1, Xw.d0, Xw.d1, Xw.d2⟩ (fun hHeld => ?_)
        clear hK K
        refine wpAnyH_take (i := 8) (v := ?_) rfl (by kernel_rfl) (by kernel_rfl) (by kernel_rfl) (fun _ _ _ h => h) (Or.inl ⟨by rfl, ?_⟩) hHeld ?_
        rotate_left
        · (intro W hSw; (try dsimp only at hSw); go_simp; all_goals (with_reducible rfl))
        simp only [List.getElem_toArray, List.getElem_cons_zero, List.getElem_cons_succ, Act.put, List.setIfInBounds_toArray, List.set_cons_zero, List.set_cons_succ]
        refine wpAnyH_done (by kernel_rfl) ?_ _
        refine NoPanic.normal ?_
        clear hHeld
        have c_V1 := V1.c0
        have f0_V1 := V1.frozen 0
        have d_V1 := V1.c1
        have f1_V1 := V1.frozen 1
        have l_V1 := V1.lt
        have m_V1 := Nat.le_of_lt l_V1
        go_wp2_with fail
        have hul0 := usedN_le z0
        have hul1 := usedN_le z1
        have hzl0 := h0.1
        have hzl1 := h1.1
        refine (rzero_n a1 len1 cap1 z1 x13 h1 c1 (by omega) false (by symm; simpa using fun e => b0 (iv_zero.2 e))).mono ?_
        rintro e x14 ⟨rfl, hb⟩
        replace V0 := Va.after hb V0
        replace V1 := Va.after hb V1
        replace Xi := Va.after hb Xi
        replace Xj := Va.after hb Xj
        replace Xw := Va.after hb Xw
        replace Xr := Va.after hb Xr
        replace h0 := Sl.after hb h0
        replace h1 := Sl.after hb h1
        replace hi := It.after hb hi
        replace hj := It.after hb hj
        replace hw := Rt.after hb hw
        replace hr := Rt.after hb hr
        replace h5 := Rr.after hb h5
        replace B0 := step B0 hb
        clear hb
        clear c_V1 f0_V1 d_V1 f1_V1 l_V1 m_V1
        go_wp2_with fail
        refine wp_region_noPanic ?_
        replace V0 : Va x14.drew _ _ _ := V0
        replace V1 : Va x14.drew _ _ _ := V1
        replace Xi : Va x14.drew _ _ _ := Xi
        replace Xj : Va x14.drew _ _ _ := Xj
        replace Xw : Va x14.drew _ _ _ := Xw
        replace Xr : Va x14.drew _ _ _ := Xr
        replace h0 := h0.drw
        replace h1 := h1.drw
        replace hi := hi.drw
        replace hj := hj.drw
        replace hw := hw.drw
        replace hr := hr.drw
        replace h5 := h5.drw
        replace B0 := Below.drew B0
        refine wp_region_held_drew (S := (fun W => W.cell? ⟨w.heap.size, 0, none⟩ = some (.bool s0) ∧ W.cell? ⟨w.heap.size, 1, none⟩ = some (.slice a0 len0 cap0) ∧ W.cell? ⟨w.heap.size + 1, 0, none⟩ = some (.bool s1) ∧ W.cell? ⟨w.heap.size + 1, 1, none⟩ = some (.slice a1 len1 cap1) ∧ W.cell? ⟨x9.heap.size, 0, none⟩ = some (.bool sr) ∧ W.cell? ⟨x9.heap.size, 1, none⟩ = some (.slice ar lr cr) ∧ W.cell? ⟨x9.heap.size, 2, none⟩ = some (.slice br mr dr))) (by kernel_rfl) ⟨V0.c0, V0.c1, V1.c0, V1.c1, Xr.d0, Xr.d1, Xr.d2⟩ (fun hHeld => ?_)
        obtain ⟨x15, hxd⟩ : ∃ xd, xd = x14.drew := ⟨_, rfl⟩
        rw [← hxd] at V0 V1 Xi Xj Xw Xr h0 h1 hi hj hw hr h5 B0 hHeld ⊢
        clear hxd
        refine wpAnyH_take (i := 0) (v := ?_) rfl (by kernel_rfl) (by kernel_rfl) (by kernel_rfl) (fun _ _ _ h => h) (Or.inl ⟨by rfl, ?_⟩) hHeld ?_
        rotate_left
        · (intro W hSw; (try dsimp only at hSw); go_simp; all_goals (with_reducible rfl))
        simp only [List.getElem_toArray, List.getElem_cons_zero, Act.put, List.setIfInBounds_toArray, List.set_cons_zero, List.set_cons_succ]
        refine wpAnyH_take (i := 1) (v := ?_) rfl (by kernel_rfl) (by kernel_rfl) (by kernel_rfl) (fun _ _ _ h => h) (Or.inl ⟨by rfl, ?_⟩) hHeld ?_
        rotate_left
        · (intro W hSw; (try dsimp only at hSw); go_simp; all_goals (with_reducible rfl))
        simp only [List.getElem_toArray, List.getElem_cons_zero, List.getElem_cons_succ, Act.put, List.setIfInBounds_toArray, List.set_cons_zero, List.set_cons_succ]
        refine wpAnyH_take (i := 2) (v := ?_) rfl (by kernel_rfl) (by kernel_rfl) (by kernel_rfl) (fun _ _ _ h => h) (Or.inl ⟨by rfl, ?_⟩) hHeld ?_
        rotate_left
        · (intro W hSw; (try dsimp only at hSw); go_simp; all_goals (with_reducible rfl))
        simp only [List.getElem_toArray, List.getElem_cons_zero, List.getElem_cons_succ, Act.put, List.setIfInBounds_toArray, List.set_cons_zero, List.set_cons_succ]
        refine wpAnyH_take (i := 3) (v := ?_) rfl (by kernel_rfl) (by kernel_rfl) (by kernel_rfl) (fun _ _ _ h => h) (Or.inl ⟨by rfl, ?_⟩) hHeld ?_
        rotate_left
        · (intro W hSw; (try dsimp only at hSw); go_simp; all_goals (with_reducible rfl))
        simp only [List.getElem_toArray, List.getElem_cons_zero, List.getElem_cons_succ, Act.put, List.setIfInBounds_toArray, List.set_cons_zero, List.set_cons_succ]
        refine wpAnyH_take (i := 4) (v := ?_) rfl (by kernel_rfl) (by kernel_rfl) (by kernel_rfl) (fun _ _ _ h => h) (Or.inl ⟨by rfl, ?_⟩) hHeld ?_
        rotate_left
        · (intro W hSw; (try dsimp only at hSw); go_simp; all_goals (with_reducible rfl))
        simp only [List.getElem_toArray, List.getElem_cons_zero, List.getElem_cons_succ, Act.put, List.setIfInBounds_toArray, List.set_cons_zero, List.set_cons_succ]
        refine wpAnyH_take (i := 5) (v := ?_) rfl (by kernel_rfl) (by kernel_rfl) (by kernel_rfl) (fun _ _ _ h => h) (Or.inl ⟨by rfl, ?_⟩) hHeld ?_
        rotate_left
        · (intro W hSw; (try dsimp only at hSw); go_simp; all_goals (with_reducible rfl))
        simp only [List.getElem_toArray, List.getElem_cons_zero, List.getElem_cons_succ, Act.put, List.setIfInBounds_toArray, List.set_cons_zero, List.set_cons_succ]
        refine wpAnyH_take (i := 6) (v := ?_) rfl (by kernel_rfl) (by kernel_rfl) (by kernel_rfl) (fun _ _ _ h => h) (Or.inl ⟨by rfl, ?_⟩) hHeld ?_
        rotate_left
        · (intro W hSw; (try dsimp only at hSw); go_simp; all_goals (with_reducible rfl))
        simp only [List.getElem_toArray, List.getElem_cons_zero, List.getElem_cons_succ, Act.put, List.setIfInBounds_toArray, List.set_cons_zero, List.set_cons_succ]
        refine wpAnyH_take (i := 7) (v := ?_) rfl (by kernel_rfl) (by kernel_rfl) (by kernel_rfl) (fun _ _ _ h => h) (Or.inl ⟨by rfl, ?_⟩) hHeld ?_
        rotate_left
        · (intro W hSw; (try dsimp only at hSw); go_simp; all_goals (with_reducible rfl))
        simp only [List.getElem_toArray, List.getElem_cons_zero, List.getElem_cons_succ, Act.put, List.setIfInBounds_toArray, List.set_cons_zero, List.set_cons_succ]
        refine wpAnyH_take (i := 8) (v := ?_) rfl (by kernel_rfl) (by kernel_rfl) (by kernel_rfl) (fun _ _ _ h => h) (Or.inl ⟨by rfl, ?_⟩) hHeld ?_
        rotate_left
        · (intro W hSw; (try dsimp only at hSw); go_simp; all_goals (with_reducible rfl))
        simp only [List.getElem_toArray, List.getElem_cons_zero, List.getElem_cons_succ, Act.put, List.setIfInBounds_toArray, List.set_cons_zero, List.set_cons_succ]
        refine wpAnyH_take (i := 9) (v := ?_) rfl (by kernel_rfl) (by kernel_rfl) (by kernel_rfl) (fun _ _ _ h => h) (Or.inl ⟨by rfl, ?_⟩) hHeld ?_
        rotate_left
        · (intro W hSw; (try dsimp only at hSw); go_simp; all_goals (with_reducible rfl))
        simp only [List.getElem_toArray, List.getElem_cons_zero, List.getElem_cons_succ, Act.put, List.setIfInBounds_toArray, List.set_cons_zero, List.set_cons_succ]
        refine wpAnyH_take (i := 10) (v := ?_) rfl (by kernel_rfl) (by kernel_rfl) (by kernel_rfl) (fun _ _ _ h => h) (Or.inl ⟨by rfl, ?_⟩) hHeld ?_
        rotate_left
        · (intro W hSw; (try dsimp only at hSw); go_simp; all_goals (with_reducible rfl))
        simp only [List.getElem_toArray, List.getElem_cons_zero, List.getElem_cons_succ, Act.put, List.setIfInBounds_toArray, List.set_cons_zero, List.set_cons_succ]
        refine wpAnyH_ready (rs := [11]) (by kernel_rfl) (by simp) ?_
        refine AllReadyH.cons rfl (fun K hK => ?_) AllReadyH.nil
        simp only [List.getElem_toArray, List.getElem_cons_zero, List.getElem_cons_succ]
        go_simp
        refine (rmake5 _ a0 a1 len0 cap0 len1 cap1 z0 z1 _ h0 h1 c0 c1 (by omega) (by omega) (by omega) (by omega) (fun e => b0 (iv_zero.2 e))).mono ?_
        rintro e x16 ⟨s6, a6, l6, c6, z6, b6, m6, d6, y6, rfl, h6, g61, g62, hb⟩
        replace V0 := Va.after hb V0
        replace V1 := Va.after hb V1
        replace Xi := Va.after hb Xi
        replace Xj := Va.after hb Xj
        replace Xw := Va.after hb Xw
        replace Xr := Va.after hb Xr
        replace h0 := Sl.after hb h0
        replace h1 := Sl.after hb h1
        replace hi := It.after hb hi
        replace hj := It.after hb hj
        replace hw := Rt.after hb hw
        replace hr := Rt.after hb hr
        replace h5 := Rr.after hb h5
        replace B0 := step B0 hb
        clear hb
        try go_wp2_with fail
        refine hK.out _ _ ⟨V0.c0, V0.c1, V1.c0, V1.c1, Xr.d0, Xr.d1, Xr.d2⟩ (fun hHeld => ?_)
        clear hK K
        refine wpAnyH_ready (rs := [12]) (by kernel_rfl) (by simp) ?_
        refine AllReadyH.cons rfl (fun K hK => ?_) AllReadyH.nil
        simp only [List.getElem_toArray, List.getElem_cons_zero, List.getElem_cons_succ]
        go_simp
        refine (agrees5 sr ar lr cr zr br mr dr yr vr _ er s6 a6 l6 c6 z6 b6 m6 d6 y6 _ hr h6 HRR).mono ?_
        rintro e x17 ⟨rfl, hb⟩
        replace V0 := Va.after hb V0
        replace V1 := Va.after hb V1
        replace Xi := Va.after hb Xi
        replace Xj := Va.after hb Xj
        replace Xw := Va.after hb Xw
        replace Xr := Va.after hb Xr
        replace h0 := Sl.after hb h0
        replace h1 := Sl.after hb h1
        replace hi := It.after hb hi
        replace hj := It.after hb hj
        replace hw := Rt.after hb hw
        replace hr := Rt.after hb hr
        replace h5 := Rr.after hb h5
        replace h6 := Rr.after hb h6
        replace B0 := step B0 hb
        clear hb
        try go_wp2_with fail
        refine hK.out _ _ ⟨V0.c0, V0.c1, V1.c0, V1.c1, Xr.d0, Xr.d1, Xr.d2⟩ (fun hHeld => ?_)
        clear hK K
        refine wpAnyH_take (i := 13) (v := ?_) rfl (by kernel_rfl) (by kernel_rfl) (by kernel_rfl) (fun _ _ _ h => h) (Or.inl ⟨by rfl, ?_⟩) hHeld ?_
        rotate_left
        · (intro W hSw; (try dsimp only at hSw); go_simp; all_goals (with_reducible rfl))
        simp only [List.getElem_toArray, List.getElem_cons_zero, List.getElem_cons_succ, Act.put, List.setIfInBounds_toArray, List.set_cons_zero, List.set_cons_succ]
        refine wpAnyH_done (by kernel_rfl) ?_ _
        refine NoPanic.normal ?_
        clear hHeld
        go_wp2_with fail
        go_ret
        exact ⟨rfl, B0⟩
end Go.Proofs.YtadfccbjadopgaaGreat
