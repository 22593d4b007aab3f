/-
  rat's above, over, limbs, times, Den, Long, made.
-/
import Derived.Test.YtblafbbnplfpjaaGreatDoorMgAf
import Derived.Test.YtblafbbnplfpjaaGreatDoorMgAh
import Derived.Test.YtblafbbnplfpjaaGreatDoorBsO
namespace Go.Proofs.YtblafbbnplfpjaaGreatDoor
open Go.RowKit Go.Shelf
set_option linter.unusedVariables false

theorem qabove_any (a : Option Addr) (l c : Nat) (zs : List Int) (w : World) (h : Nt w a l c zs) :
    Calls Tryz.prog 101 #[.agg #[.slice a l c]] w fun e w' => e = .returned (.agg #[.bool false, .slice a l c]) ∧ It w' false a l c zs ∧ Below w.heap.size w w' := by
  have B0 : Below w.heap.size w w := Below.refl _ _
  go_enter Tryz.func101, Tryz.ntmps101
  go_wp2_with fail
  refine ent2 w _ _ _ _ (Q := fun W => Calls Tryz.prog _ _ W _) ?_
  intro x1 hb hs_x1 V0 V1
  replace h := Nt.after hb h
  replace B0 := step B0 hb
  clear hb hs_x1
  refine (wnew_any false a l c zs x1 h).mono ?_
  rintro e x2 ⟨s', rfl, h', e', hb⟩
  replace V0 := Va.after hb V0
  replace V1 := Va.after hb V1
  replace h := Nt.after hb h
  replace B0 := step B0 hb
  clear hb
  have es : s' = false := by have := h'.sign; rw [e', iv_f] at this; have h0 := h.nonneg; rw [this]; simpa using h0
  subst es
  have c_V1 := V1.c0
  have f0_V1 := V1.frozen 0
  have d_V1 := V1.c1
  have f1_V1 := V1.frozen 1
  have l_V1 := V1.lt
  have m_V1 := Nat.le_of_lt l_V1
  go_wp2_with fail
  refine bodyPost_ret (results_w rfl rfl (V1.set2 _ _)) rfl ?_
  exact ⟨rfl, h'.far V1 (noInt2 _ _ _ _) (far2 _ _ _ _), below_2 B0 (by omega) _ _⟩

set_option maxHeartbeats 4000000 in
theorem rover_ok (a b : Option Addr) (la ca lb cb : Nat) (xs ys : List Int) (w : World) (ha : Nt w a la ca xs) (hb0 : Nt w b lb cb ys) (h0 : num ys ≠ 0) (hd : num ys ∣ num xs) :
    Calls Tryz.prog 138 #[.agg #[.slice a la ca], .agg #[.slice b lb cb]] w fun e w' => ∃ aq lq kq zq, e = .returned (.agg #[.slice aq lq kq]) ∧ Nt w' aq lq kq zq ∧ num zq * num ys = num xs ∧ Below w.heap.size w w' := by
  have B0 : Below w.heap.size w w := Below.refl _ _
  go_enter Tryz.func138, Tryz.ntmps138
  go_wp2_with fail
  refine ent3 w _ _ _ _ _ _ (Q := fun W => Calls Tryz.prog _ _ W _) ?_
  intro x1 hb hs_x1 V0 V1 V2
  replace ha := Nt.after hb ha
  replace hb0 := Nt.after hb hb0
  replace B0 := step B0 hb
  clear hb hs_x1
  refine (ndiv_ok a b la ca lb cb xs ys x1 ha hb0 h0).mono ?_
  rintro e x2 ⟨aq, lq, kq, ar, lr, kr, zq, zr, rfl, hq, hr, d1, d2, hb⟩
  replace V0 := Va.after hb V0
  replace V1 := Va.after hb V1
  replace V2 := Va.after hb V2
  replace ha := Nt.after hb ha
  replace hb0 := Nt.after hb hb0
  replace B0 := step B0 hb
  clear hb
  have HE : Hid (num zq * num ys = num xs) := by
    have r0 := hr.nonneg
    have e1 : num zr = 0 := by
      obtain ⟨q, hq'⟩ := hd
      have e2 : num zr = num ys * (q - num zq) := by rw [Int.mul_sub, ← hq', d1, Int.mul_comm (num ys)]; omega
      have y0 := hb0.nonneg
      rcases Int.lt_or_le (q - num zq) 1 with h1 | h1
      · have := Int.mul_le_mul_of_nonneg_left (show q - num zq ≤ 0 by omega) y0; rw [Int.mul_zero] at this; omega
      · have := Int.mul_le_mul_of_nonneg_left h1 y0; rw [Int.mul_one] at this; omega
    show _ = _; omega
  clear d1 d2 hd h0
  have c_V2 := V2.cell
  have f0_V2 := V2.frozen 0
  have l_V2 := V2.lt
  have m_V2 := Nat.le_of_lt l_V2
  have p0_V2 := ((V2.old (.cells #[.slice aq lq kq] 62)).old (.cells #[.slice ar lr kr] 62)).cell
  have q0_V2 := ((V2.old (.cells #[.slice aq lq kq] 62)).old (.cells #[.slice ar lr kr] 62)).frozen 0
  go_wp2_with fail
  refine bodyPost_ret (results_c rfl rfl (((V2.old _).old _).set _)) rfl ?_
  have sz := B0.size
  exact ⟨aq, lq, kq, zq, rfl, ((hq.al _).al _).store ((V2.old _).old _) _, HE, ((B0.alloc sz _).alloc (by simp; omega) _).setCell (by dsimp only; omega) _⟩

theorem qlimbs_any (a : Option Addr) (l c : Nat) (zs : List Int) (w : World) (h : Nt w a l c zs) :
    Calls Tryz.prog 184 #[.agg #[.slice a l c]] w fun e w' => e = .returned (.int .i64 l) ∧ Below w.heap.size w w' := by
  obtain ⟨p1, p2, p3⟩ := bits_limbs h.limbs
  have hu : usedN zs = l := h.2.1
  have hl : l ≤ 4096 := h.2.2.2
  rw [hu] at p2 p3
  have B0 : Below w.heap.size w w := Below.refl _ _
  go_enter Tryz.func184, Tryz.ntmps184
  go_wp2_with fail
  refine ent1 w _ _ (Q := fun W => Calls Tryz.prog _ _ W _) ?_
  intro x1 hb hs_x1 V0
  replace h := Nt.after hb h
  replace B0 := step B0 hb
  clear hb hs_x1
  refine (nbits_any a l c zs x1 h).mono ?_
  rintro e x2 ⟨rfl, hb⟩
  replace V0 := Va.after hb V0
  replace h := Nt.after hb h
  replace B0 := step B0 hb
  clear hb
  obtain ⟨B, hB⟩ : ∃ B, bitsN zs = B := ⟨_, rfl⟩
  rw [hB] at p1 p2 p3 ⊢
  have e1 : IntKind.i64.wrap (B + 64) = B + 64 := by rw [IntKind.wrap_i64]; omega
  have e2 : IntKind.i64.wrap (B + 64 - 1) = B + 64 - 1 := by rw [IntKind.wrap_i64]; omega
  have e3 : (B + 64 - 1).tdiv 64 = (l : Int) := by rw [Int.tdiv_eq_ediv_of_nonneg (by omega)]; exact p2
  have e4 : IntKind.i64.wrap (l : Int) = l := by rw [IntKind.wrap_i64]; omega
  go_wp2_with fail
  go_ret
  exact ⟨rfl, B0⟩

set_option maxHeartbeats 4000000 in
theorem times_ok (s : Bool) (a b : Option Addr) (l c m d : Nat) (xs ys : List Int) (w : World) (hx : It w s a l c xs) (hy : Nt w b m d ys) (hfit : Hid (((iv s xs * num ys).natAbs : Int) < pw 4096)) :
    Calls Tryz.prog 82 #[.agg #[.bool s, .slice a l c], .agg #[.slice b m d]] w fun e w' => ∃ sp ap lp kp zp, e = .returned (.agg #[.bool sp, .slice ap lp kp]) ∧ It w' sp ap lp kp zp ∧ iv sp zp = iv s xs * num ys ∧ Below w.heap.size w w' := by
  have B0 : Below w.heap.size w w := Below.refl _ _
  go_enter Tryz.func82, Tryz.ntmps82
  go_wp2_with fail
  refine ent3 w _ _ _ _ _ _ (Q := fun W => Code.wp Tryz.prog _ _ _ W) ?_
  intro x1 hb hs_x1 V0 V1 V2
  replace hx := It.after hb hx
  replace hy := Nt.after hb hy
  replace B0 := step B0 hb
  clear hb hs_x1
  refine wp_region_noPanic ?_
  replace V0 : Va x1.drew _ _ _ := V0
  replace V1 : Va x1.drew _ _ _ := V1
  replace V2 : Va x1.drew _ _ _ := V2
  replace hx := hx.drw
  replace hy := hy.drw
  replace B0 := Below.drew B0
  refine wp_region_held_drew (S := (fun W => W.cell? ⟨w.heap.size, 0, none⟩ = some (.bool s) ∧ W.cell? ⟨w.heap.size, 1, none⟩ = some (.slice a l c) ∧ W.cell? ⟨w.heap.size + 1, 0, none⟩ = some (.slice b m d))) (by kernel_rfl) ⟨V0.c0, V0.c1, V1.cell⟩ (fun hHeld => ?_)
  obtain ⟨x2, hxd⟩ : ∃ xd, xd = x1.drew := ⟨_, rfl⟩
  rw [← hxd] at V0 V1 V2 hx hy B0 hHeld ⊢
  clear hxd
  refine wpAnyH_take (i := 0) (v := ?_) rfl (by kernel_rfl) (by kernel_rfl) (by kernel_rfl) (fun _ _ _ h => h) (Or.inl ⟨by rfl, ?_⟩) hHeld ?_
  rotate_left
  · (intro W hSw; (try dsimp only at hSw); go_simp; all_goals (with_reducible rfl))
  simp only [List.getElem_toArray, List.getElem_cons_zero, Act.put, List.setIfInBounds_toArray, List.set_cons_zero, List.set_cons_succ]
  refine wpAnyH_take (i := 1) (v := ?_) rfl (by kernel_rfl) (by kernel_rfl) (by kernel_rfl) (fun _ _ _ h => h) (Or.inl ⟨by rfl, ?_⟩) hHeld ?_
  rotate_left
  · (intro W hSw; (try dsimp only at hSw); go_simp; all_goals (with_reducible rfl))
  simp only [List.getElem_toArray, List.getElem_cons_zero, List.getElem_cons_succ, Act.put, List.setIfInBounds_toArray, List.set_cons_zero, List.set_cons_succ]
  refine wpAnyH_ready (rs := [2, 7]) (by kernel_rfl) (by simp) ?_
  refine AllReadyH.cons rfl (fun K hK => ?_) (AllReadyH.cons rfl (fun K hK => ?_) AllReadyH.nil)
  ·
    simp only [List.getElem_toArray, List.getElem_cons_zero, List.getElem_cons_succ]
    go_simp
    refine (qabove_any b m d ys _ hy).mono ?_
    rintro e x3 ⟨rfl, hy', hb⟩
    replace V0 := Va.after hb V0
    replace V1 := Va.after hb V1
    replace V2 := Va.after hb V2
    replace hx := It.after hb hx
    replace hy := Nt.after hb hy
    replace B0 := step B0 hb
    clear hb
    try go_wp2_with fail
    refine hK.out _ _ ⟨V0.c0, V0.c1, V1.cell⟩ (fun hHeld => ?_)
    clear hK K
    refine wpAnyH_ready (rs := [3, 7]) (by kernel_rfl) (by simp) ?_
    refine AllReadyH.cons rfl (fun K hK => ?_) (AllReadyH.cons rfl (fun K hK => ?_) AllReadyH.nil)
    ·
      simp only [List.getElem_toArray, List.getElem_cons_zero, List.getElem_cons_succ]
      go_simp
      refine (wmul_ok s false a b l c m d xs ys _ hx hy' hfit).mono ?_
      rintro e x4 ⟨sp, ap, lp, kp, zp, rfl, hp, ep, hb⟩
      replace V0 := Va.after hb V0
      replace V1 := Va.after hb V1
      replace V2 := Va.after hb V2
      replace hx := It.after hb hx
      replace hy := Nt.after hb hy
      replace hy' := It.after hb hy'
      replace B0 := step B0 hb
      clear hb
      try go_wp2_with fail
      refine hK.out _ _ ⟨V0.c0, V0.c1, V1.cell⟩ (fun hHeld => ?_)
      clear hK K
      refine wpAnyH_take (i := 4) (v := ?_) rfl (by kernel_rfl) (by kernel_rfl) (by kernel_rfl) (fun _ _ _ h => h) (Or.inl ⟨by rfl, ?_⟩) hHeld ?_
      rotate_left
      · (intro W hSw; (try dsimp only at hSw); go_simp; all_goals (with_reducible rfl))
      simp only [List.getElem_toArray, List.getElem_cons_zero, List.getElem_cons_succ, Act.put, List.setIfInBounds_toArray, List.set_cons_zero, List.set_cons_succ]
      refine wpAnyH_take (i := 5) (v := ?_) rfl (by kernel_rfl) (by kernel_rfl) (by kernel_rfl) (fun _ _ _ h => h) (Or.inl ⟨by rfl, ?_⟩) hHeld ?_
      rotate_left
      · (intro W hSw; (try dsimp only at hSw); go_simp; all_goals (with_reducible rfl))
      simp only [List.getElem_toArray, List.getElem_cons_zero, List.getElem_cons_succ, Act.put, List.setIfInBounds_toArray, List.set_cons_zero, List.set_cons_succ]
      refine wpAnyH_take (i := 6) (v := ?_) rfl (by kernel_rfl) (by kernel_rfl) (by kernel_rfl) (fun _ _ _ h => h) (Or.inl ⟨by rfl, ?_⟩) hHeld ?_
      rotate_left
      · (intro W hSw; (try dsimp only at hSw); go_simp; all_goals (with_reducible rfl))
      simp only [List.getElem_toArray, List.getElem_cons_zero, List.getElem_cons_succ, Act.put, List.setIfInBounds_toArray, List.set_cons_zero, List.set_cons_succ]
      refine wpAnyH_ready (rs := [7]) (by kernel_rfl) (by simp) ?_
      refine AllReadyH.cons rfl (fun K hK => ?_) AllReadyH.nil
      ·
        simp only [List.getElem_toArray, List.getElem_cons_zero, List.getElem_cons_succ]
        go_simp
        have lt_Vp_V0 := V0.lt
        have lt_Vp_V1 := V1.lt
        have lt_Vp_V2 := V2.lt
        have sz_Vp := B0.size
        refine ent1 _ _ _ (Q := fun V => K _ V) ?_
        intro x5 hb hs_ Vp
        replace V0 := Va.after hb V0
        replace V1 := Va.after hb V1
        replace V2 := Va.after hb V2
        replace hx := It.after hb hx
        replace hy := Nt.after hb hy
        replace hy' := It.after hb hy'
        replace hp := It.after hb hp
        replace B0 := step B0 hb
        clear hb hs_
        refine hK.out _ _ ⟨V0.c0, V0.c1, V1.cell⟩ (fun hHeld => ?_)
        clear hK K
        have c_Vp := Vp.c0
        have f0_Vp := Vp.frozen 0
        have d_Vp := Vp.c1
        have f1_Vp := Vp.frozen 1
        have l_Vp := Vp.lt
        have m_Vp := Nat.le_of_lt l_Vp
        refine wpAnyH_ready (rs := [8]) (by kernel_rfl) (by simp) ?_
        refine AllReadyH.cons rfl (fun K hK => ?_) AllReadyH.nil
        simp only [List.getElem_toArray, List.getElem_cons_zero, List.getElem_cons_succ]
        go_simp
        clear c_Vp f0_Vp d_Vp f1_Vp l_Vp m_Vp
        refine st2 Vp (.bool sp) (.slice ap lp kp) (Q := fun W => K _ W) ?_
        intro x6 V' oth far
        replace V0 := oth _ _ _ (by first | omega | assumption | (simp; omega)) V0
        replace V1 := oth _ _ _ (by first | omega | assumption | (simp; omega)) V1
        replace V2 := oth _ _ _ (by first | omega | assumption | (simp; omega)) V2
        replace hx := hx.far Vp (noInt2 _ _ _ _) far.1
        replace hy := hy.far Vp (noInt2 _ _ _ _) far.1
        replace hy' := hy'.far Vp (noInt2 _ _ _ _) far.1
        replace hp := hp.far Vp (noInt2 _ _ _ _) far.1
        replace B0 := far.2 _ _ (by first | omega | (simp; omega)) B0
        replace Vp := V'
        clear oth far
        refine hK.out _ _ ⟨V0.c0, V0.c1, V1.cell⟩ (fun hHeld => ?_)
        clear hK K
        refine wpAnyH_take (i := 9) (v := ?_) rfl (by kernel_rfl) (by kernel_rfl) (by kernel_rfl) (fun _ _ _ h => h) (Or.inl ⟨by rfl, ?_⟩) hHeld ?_
        rotate_left
        · (intro W hSw; (try dsimp only at hSw); go_simp; all_goals (with_reducible rfl))
        simp only [List.getElem_toArray, List.getElem_cons_zero, List.getElem_cons_succ, Act.put, List.setIfInBounds_toArray, List.set_cons_zero, List.set_cons_succ]
        refine wpAnyH_done (by kernel_rfl) ?_ _
        refine NoPanic.normal ?_
        clear hHeld
        have c_Vp := Vp.c0
        have f0_Vp := Vp.frozen 0
        have d_Vp := Vp.c1
        have f1_Vp := Vp.frozen 1
        have l_Vp := Vp.lt
        have m_Vp := Nat.le_of_lt l_Vp
        have c_V2 := V2.c0
        have f0_V2 := V2.frozen 0
        have d_V2 := V2.c1
        have f1_V2 := V2.frozen 1
        have l_V2 := V2.lt
        have m_V2 := Nat.le_of_lt l_V2
        go_wp2_with fail
        refine bodyPost_ret (results_w rfl rfl (V2.set2 _ _)) rfl ?_
        exact ⟨sp, ap, lp, kp, zp, rfl, hp.far V2 (noInt2 _ _ _ _) (far2 _ _ _ _), ep, below_2 B0 (by omega) _ _⟩
    ·
      simp only [List.getElem_toArray, List.getElem_cons_zero, List.getElem_cons_succ]
      go_simp
      have lt_Vp_V0 := V0.lt
      have lt_Vp_V1 := V1.lt
      have lt_Vp_V2 := V2.lt
      have sz_Vp := B0.size
      refine ent1 _ _ _ (Q := fun V => K _ V) ?_
      intro x4 hb hs_ Vp
      replace V0 := Va.after hb V0
      replace V1 := Va.after hb V1
      replace V2 := Va.after hb V2
      replace hx := It.after hb hx
      replace hy := Nt.after hb hy
      replace hy' := It.after hb hy'
      replace B0 := step B0 hb
      clear hb hs_
      refine hK.out _ _ ⟨V0.c0, V0.c1, V1.cell⟩ (fun hHeld => ?_)
      clear hK K
      refine wpAnyH_ready (rs := [3]) (by kernel_rfl) (by simp) ?_
      refine AllReadyH.cons rfl (fun K hK => ?_) AllReadyH.nil
      ·
        simp only [List.getElem_toArray, List.getElem_cons_zero, List.getElem_cons_succ]
        go_simp
        refine (wmul_ok s false a b l c m d xs ys _ hx hy' hfit).mono ?_
        rintro e x5 ⟨sp, ap, lp, kp, zp, rfl, hp, ep, hb⟩
        replace V0 := Va.after hb V0
        replace V1 := Va.after hb V1
        replace V2 := Va.after hb V2
        replace Vp := Va.after hb Vp
        replace hx := It.after hb hx
        replace hy := Nt.after hb hy
        replace hy' := It.after hb hy'
        replace B0 := step B0 hb
        clear hb
        try go_wp2_with fail
        refine hK.out _ _ ⟨V0.c0, V0.c1, V1.cell⟩ (fun hHeld => ?_)
        clear hK K
        refine wpAnyH_take (i := 4) (v := ?_) rfl (by kernel_rfl) (by kernel_rfl) (by kernel_rfl) (fun _ _ _ h => h) (Or.inl ⟨by rfl, ?_⟩) hHeld ?_
        rotate_left
        · (intro W hSw; (try dsimp only at hSw); go_simp; all_goals (with_reducible rfl))
        simp only [List.getElem_toArray, List.getElem_cons_zero, List.getElem_cons_succ, Act.put, List.setIfInBounds_toArray, List.set_cons_zero, List.set_cons_succ]
        refine wpAnyH_take (i := 5) (v := ?_) rfl (by kernel_rfl) (by kernel_rfl) (by kernel_rfl) (fun _ _ _ h => h) (Or.inl ⟨by rfl, ?_⟩) hHeld ?_
        rotate_left
        · (intro W hSw; (try dsimp only at hSw); go_simp; all_goals (with_reducible rfl))
        simp only [List.getElem_toArray, List.getElem_cons_zero, List.getElem_cons_succ, Act.put, List.setIfInBounds_toArray, List.set_cons_zero, List.set_cons_succ]
        refine wpAnyH_take (i := 6) (v := ?_) rfl (by kernel_rfl) (by kernel_rfl) (by kernel_rfl) (fun _ _ _ h => h) (Or.inl ⟨by rfl, ?_⟩) hHeld ?_
        rotate_left
        · (intro W hSw; (try dsimp only at hSw); go_simp; all_goals (with_reducible rfl))
        simp only [List.getElem_toArray, List.getElem_cons_zero, List.getElem_cons_succ, Act.put, List.setIfInBounds_toArray, List.set_cons_zero, List.set_cons_succ]
        have c_Vp := Vp.c0
        have f0_Vp := Vp.frozen 0
        have d_Vp := Vp.c1
        have f1_Vp := Vp.frozen 1
        have l_Vp := Vp.lt
        have m_Vp := Nat.le_of_lt l_Vp
        refine wpAnyH_ready (rs := [8]) (by kernel_rfl) (by simp) ?_
        refine AllReadyH.cons rfl (fun K hK => ?_) AllReadyH.nil
        simp only [List.getElem_toArray, List.getElem_cons_zero, List.getElem_cons_succ]
        go_simp
        clear c_Vp f0_Vp d_Vp f1_Vp l_Vp m_Vp
        refine st2 Vp (.bool sp) (.slice ap lp kp) (Q := fun W => K _ W) ?_
        intro x6 V' oth far
        replace V0 := oth _ _ _ (by first | omega | assumption | (simp; omega)) V0
        replace V1 := oth _ _ _ (by first | omega | assumption | (simp; omega)) V1
        replace V2 := oth _ _ _ (by first | omega | assumption | (simp; omega)) V2
        replace hx := hx.far Vp (noInt2 _ _ _ _) far.1
        replace hy := hy.far Vp (noInt2 _ _ _ _) far.1
        replace hy' := hy'.far Vp (noInt2 _ _ _ _) far.1
        replace hp := hp.far Vp (noInt2 _ _ _ _) far.1
        replace B0 := far.2 _ _ (by first | omega | (simp; omega)) B0
        replace Vp := V'
        clear oth far
        refine hK.out _ _ ⟨V0.c0, V0.c1, V1.cell⟩ (fun hHeld => ?_)
        clear hK K
        refine wpAnyH_take (i := 9) (v := ?_) rfl (by kernel_rfl) (by kernel_rfl) (by kernel_rfl) (fun _ _ _ h => h) (Or.inl ⟨by rfl, ?_⟩) hHeld ?_
        rotate_left
        · (intro W hSw; (try dsimp only at hSw); go_simp; all_goals (with_reducible rfl))
        simp only [List.getElem_toArray, List.getElem_cons_zero, List.getElem_cons_succ, Act.put, List.setIfInBounds_toArray, List.set_cons_zero, List.set_cons_succ]
        refine wpAnyH_done (by kernel_rfl) ?_ _
        refine NoPanic.normal ?_
        clear hHeld
        have c_Vp := Vp.c0
        have f0_Vp := Vp.frozen 0
        have d_Vp := Vp.c1
        have f1_Vp := Vp.frozen 1
        have l_Vp := Vp.lt
        have m_Vp := Nat.le_of_lt l_Vp
        have c_V2 := V2.c0
        have f0_V2 := V2.frozen 0
        have d_V2 := V2.c1
        have f1_V2 := V2.frozen 1
        have l_V2 := V2.lt
        have m_V2 := Nat.le_of_lt l_V2
        go_wp2_with fail
        refine bodyPost_ret (results_w rfl rfl (V2.set2 _ _)) rfl ?_
        exact ⟨sp, ap, lp, kp, zp, rfl, hp.far V2 (noInt2 _ _ _ _) (far2 _ _ _ _), ep, below_2 B0 (by omega) _ _⟩
  ·
    simp only [List.getElem_toArray, List.getElem_cons_zero, List.getElem_cons_succ]
    go_simp
    have lt_Vp_V0 := V0.lt
    have lt_Vp_V1 := V1.lt
    have lt_Vp_V2 := V2.lt
    have sz_Vp := B0.size
    refine ent1 _ _ _ (Q := fun V => K _ V) ?_
    intro x3 hb hs_ Vp
    replace V0 := Va.after hb V0
    replace V1 := Va.after hb V1
    replace V2 := Va.after hb V2
    replace hx := It.after hb hx
    replace hy := Nt.after hb hy
    replace B0 := step B0 hb
    clear hb hs_
    refine hK.out _ _ ⟨V0.c0, V0.c1, V1.cell⟩ (fun hHeld => ?_)
    clear hK K
    refine wpAnyH_ready (rs := [2]) (by kernel_rfl) (by simp) ?_
    refine AllReadyH.cons rfl (fun K hK => ?_) AllReadyH.nil
    ·
      simp only [List.getElem_toArray, List.getElem_cons_zero, List.getElem_cons_succ]
      go_simp
      refine (qabove_any b m d ys _ hy).mono ?_
      rintro e x4 ⟨rfl, hy', hb⟩
      replace V0 := Va.after hb V0
      replace V1 := Va.after hb V1
      replace V2 := Va.after hb V2
      replace Vp := Va.after hb Vp
      replace hx := It.after hb hx
      replace hy := Nt.after hb hy
      replace B0 := step B0 hb
      clear hb
      try go_wp2_with fail
      refine hK.out _ _ ⟨V0.c0, V0.c1, V1.cell⟩ (fun hHeld => ?_)
      clear hK K
      refine wpAnyH_ready (rs := [3]) (by kernel_rfl) (by simp) ?_
      refine AllReadyH.cons rfl (fun K hK => ?_) AllReadyH.nil
      ·
        simp only [List.getElem_toArray, List.getElem_cons_zero, List.getElem_cons_succ]
        go_simp
        refine (wmul_ok s false a b l c m d xs ys _ hx hy' hfit).mono ?_
        rintro e x5 ⟨sp, ap, lp, kp, zp, rfl, hp, ep, hb⟩
        replace V0 := Va.after hb V0
        replace V1 := Va.after hb V1
        replace V2 := Va.after hb V2
        replace Vp := Va.after hb Vp
        replace hx := It.after hb hx
        replace hy := Nt.after hb hy
        replace hy' := It.after hb hy'
        replace B0 := step B0 hb
        clear hb
        try go_wp2_with fail
        refine hK.out _ _ ⟨V0.c0, V0.c1, V1.cell⟩ (fun hHeld => ?_)
        clear hK K
        refine wpAnyH_take (i := 4) (v := ?_) rfl (by kernel_rfl) (by kernel_rfl) (by kernel_rfl) (fun _ _ _ h => h) (Or.inl ⟨by rfl, ?_⟩) hHeld ?_
        rotate_left
        · (intro W hSw; (try dsimp only at hSw); go_simp; all_goals (with_reducible rfl))
        simp only [List.getElem_toArray, List.getElem_cons_zero, List.getElem_cons_succ, Act.put, List.setIfInBounds_toArray, List.set_cons_zero, List.set_cons_succ]
        refine wpAnyH_take (i := 5) (v := ?_) rfl (by kernel_rfl) (by kernel_rfl) (by kernel_rfl) (fun _ _ _ h => h) (Or.inl ⟨by rfl, ?_⟩) hHeld ?_
        rotate_left
        · (intro W hSw; (try dsimp only at hSw); go_simp; all_goals (with_reducible rfl))
        simp only [List.getElem_toArray, List.getElem_cons_zero, List.getElem_cons_succ, Act.put, List.setIfInBounds_toArray, List.set_cons_zero, List.set_cons_succ]
        refine wpAnyH_take (i := 6) (v := ?_) rfl (by kernel_rfl) (by kernel_rfl) (by kernel_rfl) (fun _ _ _ h => h) (Or.inl ⟨by rfl, ?_⟩) hHeld ?_
        rotate_left
        · (intro W hSw; (try dsimp only at hSw); go_simp; all_goals (with_reducible rfl))
        simp only [List.getElem_toArray, List.getElem_cons_zero, List.getElem_cons_succ, Act.put, List.setIfInBounds_toArray, List.set_cons_zero, List.set_cons_succ]
        have c_Vp := Vp.c0
        have f0_Vp := Vp.frozen 0
        have d_Vp := Vp.c1
        have f1_Vp := Vp.frozen 1
        have l_Vp := Vp.lt
        have m_Vp := Nat.le_of_lt l_Vp
        refine wpAnyH_ready (rs := [8]) (by kernel_rfl) (by simp) ?_
        refine AllReadyH.cons rfl (fun K hK => ?_) AllReadyH.nil
        simp only [List.getElem_toArray, List.getElem_cons_zero, List.getElem_cons_succ]
        go_simp
        clear c_Vp f0_Vp d_Vp f1_Vp l_Vp m_Vp
        refine st2 Vp (.bool sp) (.slice ap lp kp) (Q := fun W => K _ W) ?_
        intro x6 V' oth far
        replace V0 := oth _ _ _ (by first | omega | assumption | (simp; omega)) V0
        replace V1 := oth _ _ _ (by first | omega | assumption | (simp; omega)) V1
        replace V2 := oth _ _ _ (by first | omega | assumption | (simp; omega)) V2
        replace hx := hx.far Vp (noInt2 _ _ _ _) far.1
        replace hy := hy.far Vp (noInt2 _ _ _ _) far.1
        replace hy' := hy'.far Vp (noInt2 _ _ _ _) far.1
        replace hp := hp.far Vp (noInt2 _ _ _ _) far.1
        replace B0 := far.2 _ _ (by first | omega | (simp; omega)) B0
        replace Vp := V'
        clear oth far
        refine hK.out _ _ ⟨V0.c0, V0.c1, V1.cell⟩ (fun hHeld => ?_)
        clear hK K
        refine wpAnyH_take (i := 9) (v := ?_) rfl (by kernel_rfl) (by kernel_rfl) (by kernel_rfl) (fun _ _ _ h => h) (Or.inl ⟨by rfl, ?_⟩) hHeld ?_
        rotate_left
        · (intro W hSw; (try dsimp only at hSw); go_simp; all_goals (with_reducible rfl))
        simp only [List.getElem_toArray, List.getElem_cons_zero, List.getElem_cons_succ, Act.put, List.setIfInBounds_toArray, List.set_cons_zero, List.set_cons_succ]
        refine wpAnyH_done (by kernel_rfl) ?_ _
        refine NoPanic.normal ?_
        clear hHeld
        have c_Vp := Vp.c0
        have f0_Vp := Vp.frozen 0
        have d_Vp := Vp.c1
        have f1_Vp := Vp.frozen 1
        have l_Vp := Vp.lt
        have m_Vp := Nat.le_of_lt l_Vp
        have c_V2 := V2.c0
        have f0_V2 := V2.frozen 0
        have d_V2 := V2.c1
        have f1_V2 := V2.frozen 1
        have l_V2 := V2.lt
        have m_V2 := Nat.le_of_lt l_V2
        go_wp2_with fail
        refine bodyPost_ret (results_w rfl rfl (V2.set2 _ _)) rfl ?_
        exact ⟨sp, ap, lp, kp, zp, rfl, hp.far V2 (noInt2 _ _ _ _) (far2 _ _ _ _), ep, below_2 B0 (by omega) _ _⟩

theorem rden_any (s : Bool) (a : Option Addr) (l c : Nat) (b : Option Addr) (m d : Nat) (ds : List Int) (w : World) (h : Nt w b m d ds) :
    Calls Tryz.prog 83 #[.agg #[.bool s, .slice a l c, .slice b m d]] w fun e w' => ∃ b' m' d' ds', e = .returned (.agg #[.slice b' m' d']) ∧ Nt w' b' m' d' ds' ∧ num ds' = dn ds ∧ Below w.heap.size w w' := by
  have hz := h.zero
  by_cases h0 : num ds = 0
  ·
    have ez : ((m : Int) == 0) = true := by rw [hz]; simpa using h0
    have ed : dn ds = 1 := by unfold dn; rw [if_pos h0]
    clear hz h0
    have B0 : Below w.heap.size w w := Below.refl _ _
    go_enter Tryz.func83, Tryz.ntmps83
    go_wp2_with fail
    refine ent2 w _ _ _ _ (Q := fun W => Calls Tryz.prog _ _ W _) ?_
    intro x1 hb hs_x1 V0 V1
    replace h := Nt.after hb h
    replace B0 := step B0 hb
    clear hb hs_x1
    refine (isZero_any b m d x1).mono ?_
    rintro e x2 ⟨rfl, hb⟩
    replace V0 := Va.after hb V0
    replace V1 := Va.after hb V1
    replace h := Nt.after hb h
    replace B0 := step B0 hb
    clear hb
    rw [ez]
    have c_V1 := V1.cell
    have f0_V1 := V1.frozen 0
    have l_V1 := V1.lt
    have m_V1 := Nat.le_of_lt l_V1
    go_wp2_with fail
    refine (small_any 1 ⟨by omega, by omega⟩ x2).mono ?_
    rintro e x3 ⟨b', m', d', ds', rfl, h', e', hb⟩
    replace V0 := Va.after hb V0
    replace V1 := Va.after hb V1
    replace h := Nt.after hb h
    replace B0 := step B0 hb
    clear hb
    clear c_V1 f0_V1 l_V1 m_V1
    have c_V1 := V1.cell
    have f0_V1 := V1.frozen 0
    have l_V1 := V1.lt
    have m_V1 := Nat.le_of_lt l_V1
    go_wp2_with fail
    refine bodyPost_ret (results_c rfl rfl (V1.set _)) rfl ?_
    exact ⟨b', m', d', ds', rfl, h'.store V1 _, by rw [e', ed], B0.setCell (by simp) _⟩
  ·
    have ez : ((m : Int) == 0) = false := by rw [hz]; simpa using h0
    have ed : dn ds = num ds := by unfold dn; rw [if_neg h0]
    clear hz h0
    have B0 : Below w.heap.size w w := Below.refl _ _
    go_enter Tryz.func83, Tryz.ntmps83
    go_wp2_with fail
    refine ent2 w _ _ _ _ (Q := fun W => Calls Tryz.prog _ _ W _) ?_
    intro x1 hb hs_x1 V0 V1
    replace h := Nt.after hb h
    replace B0 := step B0 hb
    clear hb hs_x1
    refine (isZero_any b m d x1).mono ?_
    rintro e x2 ⟨rfl, hb⟩
    replace V0 := Va.after hb V0
    replace V1 := Va.after hb V1
    replace h := Nt.after hb h
    replace B0 := step B0 hb
    clear hb
    rw [ez]
    have c_V0 := V0.d0
    have f0_V0 := V0.frozen 0
    have d_V0 := V0.d1
    have f1_V0 := V0.frozen 1
    have e_V0 := V0.d2
    have f2_V0 := V0.frozen 2
    have l_V0 := V0.lt
    have m_V0 := Nat.le_of_lt l_V0
    have c_V1 := V1.cell
    have f0_V1 := V1.frozen 0
    have l_V1 := V1.lt
    have m_V1 := Nat.le_of_lt l_V1
    go_wp2_with fail
    refine bodyPost_ret (results_c rfl rfl (V1.set _)) rfl ?_
    exact ⟨b, m, d, ds, rfl, h.store V1 _, ed.symm, B0.setCell (by simp) _⟩

theorem Nt.short {w : World} {a : Option Addr} {l c : Nat} {zs : List Int} (h : Nt w a l c zs) (n : Nat) : l ≤ n ↔ num zs < pw n := by
  have hu : usedN zs = l := h.2.1
  constructor
  · intro h1; exact lt_of_used h.limbs (by omega)
  · intro h1; have := used_of_lt h.limbs h1; omega
set_option maxHeartbeats 4000000 in
theorem rlongr_any (s : Bool) (a : Option Addr) (l c : Nat) (zs : List Int) (b : Option Addr) (m d : Nat) (ds : List Int) (w : World) (hz : It w s a l c zs) (hd : Nt w b m d ds) :
    Calls Tryz.prog 161 #[.agg #[.bool s, .slice a l c, .slice b m d]] w fun e w' => ∃ (b' : Option Addr) (m' d' : Nat) (ds' : List Int), e = .returned (.int .i64 (max (l : Int) (m' : Int))) ∧ Nt w' b' m' d' ds' ∧ num ds' = dn ds ∧ Below w.heap.size w w' := by
  have B0 : Below w.heap.size w w := Below.refl _ _
  go_enter Tryz.func161, Tryz.ntmps161
  go_wp2_with fail
  refine ent1 w _ _ (Q := fun W => Code.wp Tryz.prog _ _ _ W) ?_
  intro x1 hb hs_x1 V0
  replace hz := It.after hb hz
  replace hd := Nt.after hb hd
  replace B0 := step B0 hb
  clear hb hs_x1
  refine wp_region_noPanic ?_
  replace V0 : Va x1.drew _ _ _ := V0
  replace hz := hz.drw
  replace hd := hd.drw
  replace B0 := Below.drew B0
  refine wp_region_held_drew (S := (fun W => W.cell? ⟨w.heap.size, 0, none⟩ = some (.bool s) ∧ W.cell? ⟨w.heap.size, 1, none⟩ = some (.slice a l c) ∧ W.cell? ⟨w.heap.size, 2, none⟩ = some (.slice b m d))) (by kernel_rfl) ⟨V0.d0, V0.d1, V0.d2⟩ (fun hHeld => ?_)
  obtain ⟨x2, hxd⟩ : ∃ xd, xd = x1.drew := ⟨_, rfl⟩
  rw [← hxd] at V0 hz hd B0 hHeld ⊢
  clear hxd
  refine wpAnyH_take (i := 0) (v := ?_) rfl (by kernel_rfl) (by kernel_rfl) (by kernel_rfl) (fun _ _ _ h => h) (Or.inl ⟨by rfl, ?_⟩) hHeld ?_
  rotate_left
  · (intro W hSw; (try dsimp only at hSw); go_simp; all_goals (with_reducible rfl))
  simp only [List.getElem_toArray, List.getElem_cons_zero, Act.put, List.setIfInBounds_toArray, List.set_cons_zero, List.set_cons_succ]
  refine wpAnyH_take (i := 1) (v := ?_) rfl (by kernel_rfl) (by kernel_rfl) (by kernel_rfl) (fun _ _ _ h => h) (Or.inl ⟨by rfl, ?_⟩) hHeld ?_
  rotate_left
  · (intro W hSw; (try dsimp only at hSw); go_simp; all_goals (with_reducible rfl))
  simp only [List.getElem_toArray, List.getElem_cons_zero, List.getElem_cons_succ, Act.put, List.setIfInBounds_toArray, List.set_cons_zero, List.set_cons_succ]
  refine wpAnyH_take (i := 4) (v := ?_) rfl (by kernel_rfl) (by kernel_rfl) (by kernel_rfl) (fun _ _ _ h => h) (Or.inl ⟨by rfl, ?_⟩) hHeld ?_
  rotate_left
  · (intro W hSw; (try dsimp only at hSw); go_simp; all_goals (with_reducible rfl))
  simp only [List.getElem_toArray, List.getElem_cons_zero, List.getElem_cons_succ, Act.put, List.setIfInBounds_toArray, List.set_cons_zero, List.set_cons_succ]
  refine wpAnyH_ready (rs := [2]) (by kernel_rfl) (by simp) ?_
  refine AllReadyH.cons rfl (fun K hK => ?_) AllReadyH.nil
  simp only [List.getElem_toArray, List.getElem_cons_zero, List.getElem_cons_succ]
  go_simp
  refine (wabs_any s a l c _).mono ?_
  rintro e x3 ⟨rfl, hb⟩
  replace V0 := Va.after hb V0
  replace hz := It.after hb hz
  replace hd := Nt.after hb hd
  replace B0 := step B0 hb
  clear hb
  try go_wp2_with fail
  refine hK.out _ _ ⟨V0.d0, V0.d1, V0.d2⟩ (fun hHeld => ?_)
  clear hK K
  refine wpAnyH_ready (rs := [3]) (by kernel_rfl) (by simp) ?_
  refine AllReadyH.cons rfl (fun K hK => ?_) AllReadyH.nil
  simp only [List.getElem_toArray, List.getElem_cons_zero, List.getElem_cons_succ]
  go_simp
  refine (qlimbs_any a l c zs _ hz.1).mono ?_
  rintro e x4 ⟨rfl, hb⟩
  replace V0 := Va.after hb V0
  replace hz := It.after hb hz
  replace hd := Nt.after hb hd
  replace B0 := step B0 hb
  clear hb
  try go_wp2_with fail
  refine hK.out _ _ ⟨V0.d0, V0.d1, V0.d2⟩ (fun hHeld => ?_)
  clear hK K
  refine wpAnyH_ready (rs := [5]) (by kernel_rfl) (by simp) ?_
  refine AllReadyH.cons rfl (fun K hK => ?_) AllReadyH.nil
  simp only [List.getElem_toArray, List.getElem_cons_zero, List.getElem_cons_succ]
  go_simp
  refine (rden_any s a l c b m d ds _ hd).mono ?_
  rintro e x5 ⟨b', m', d', ds', rfl, h', e', hb⟩
  replace V0 := Va.after hb V0
  replace hz := It.after hb hz
  replace hd := Nt.after hb hd
  replace B0 := step B0 hb
  clear hb
  try go_wp2_with fail
  refine hK.out _ _ ⟨V0.d0, V0.d1, V0.d2⟩ (fun hHeld => ?_)
  clear hK K
  refine wpAnyH_ready (rs := [6]) (by kernel_rfl) (by simp) ?_
  refine AllReadyH.cons rfl (fun K hK => ?_) AllReadyH.nil
  simp only [List.getElem_toArray, List.getElem_cons_zero, List.getElem_cons_succ]
  go_simp
  refine (qlimbs_any b' m' d' ds' _ h').mono ?_
  rintro e x6 ⟨rfl, hb⟩
  replace V0 := Va.after hb V0
  replace hz := It.after hb hz
  replace hd := Nt.after hb hd
  replace h' := Nt.after hb h'
  replace B0 := step B0 hb
  clear hb
  try go_wp2_with fail
  refine hK.out _ _ ⟨V0.d0, V0.d1, V0.d2⟩ (fun hHeld => ?_)
  clear hK K
  refine wpAnyH_take (i := 7) (v := ?_) rfl (by kernel_rfl) (by kernel_rfl) (by kernel_rfl) (fun _ _ _ h => h) (Or.inl ⟨by rfl, ?_⟩) hHeld ?_
  rotate_left
  · (intro W hSw; (try dsimp only at hSw); go_simp; all_goals (with_reducible rfl))
  simp only [List.getElem_toArray, List.getElem_cons_zero, List.getElem_cons_succ, Act.put, List.setIfInBounds_toArray, List.set_cons_zero, List.set_cons_succ]
  refine wpAnyH_take (i := 8) (v := ?_) rfl (by kernel_rfl) (by kernel_rfl) (by kernel_rfl) (fun _ _ _ h => h) (Or.inl ⟨by rfl, ?_⟩) hHeld ?_
  rotate_left
  · (intro W hSw; (try dsimp only at hSw); go_simp; all_goals (with_reducible rfl))
  simp only [List.getElem_toArray, List.getElem_cons_zero, List.getElem_cons_succ, Act.put, List.setIfInBounds_toArray, List.set_cons_zero, List.set_cons_succ]
  refine wpAnyH_done (by kernel_rfl) ?_ _
  refine NoPanic.normal ?_
  clear hHeld
  go_wp2_with fail
  go_ret
  exact ⟨b', m', d', ds', rfl, h', e', B0⟩

set_option maxHeartbeats 4000000 in
theorem rmade_any (s : Bool) (a : Option Addr) (l c : Nat) (zs : List Int) (b : Option Addr) (m d : Nat) (ds : List Int) (v : Rat) (w : World) (hz : It w s a l c zs) (hd : Nt w b m d ds) (h1 : iv s zs = v.num) (h2 : dn ds = v.den) :
    Calls Tryz.prog 136 #[.agg #[.bool s, .slice a l c], .agg #[.slice b m d]] w fun e w' => ∃ er s' a' l' c' zs' b' m' d' ds' v', e = .returned (.tuple #[.agg #[.bool s', .slice a' l' c', .slice b' m' d'], .int .i64 er]) ∧ Rt w' s' a' l' c' zs' b' m' d' ds' v' ∧ Hid (RA v er v') ∧ Below w.heap.size w w' := by
  have HL : Hid (∀ W (b' : Option Addr) (m' d' : Nat) (ds' : List Int), Nt W b' m' d' ds' → num ds' = dn ds → (max (l : Int) (m' : Int) ≤ 1024 ↔ Short v)) := by
    intro W b' m' d' ds' h' e'
    have p1 := hz.1.short 1024
    have p2 := h'.short 1024
    have e1 : num zs = (v.num.natAbs : Int) := by rw [← h1]; exact hz.abs
    rw [e1] at p1
    rw [e', h2] at p2
    unfold Short
    rw [← p1, ← p2]
    omega
  have H1 : Hid (iv s zs = v.num ∧ dn ds = v.den) := ⟨h1, h2⟩
  clear h1 h2
  have B0 : Below w.heap.size w w := Below.refl _ _
  go_enter Tryz.func136, Tryz.ntmps136
  go_wp2_with fail
  refine ent4 w _ _ _ _ _ _ _ _ (Q := fun W => Calls Tryz.prog _ _ W _) ?_
  intro x1 hb hs_x1 V0 V1 V2 V3
  replace hz := It.after hb hz
  replace hd := Nt.after hb hd
  replace B0 := step B0 hb
  clear hb hs_x1
  refine (rlongr_any s a l c zs b m d ds x1 hz hd).mono ?_
  rintro e x2 ⟨b', m', d', ds', rfl, h', e', hb⟩
  replace V0 := Va.after hb V0
  replace V1 := Va.after hb V1
  replace V2 := Va.after hb V2
  replace V3 := Va.after hb V3
  replace hz := It.after hb hz
  replace hd := Nt.after hb hd
  replace B0 := step B0 hb
  clear hb
  have hlm := HL.out _ _ _ _ _ h' e'
  obtain ⟨n, hn⟩ : ∃ n : Int, max (l : Int) (m' : Int) = n := ⟨_, rfl⟩
  rw [hn] at hlm ⊢
  clear hn HL e'
  clear h'
  by_cases hs : n ≤ 1024
  ·
    have HS : Hid (Short v) := hlm.1 hs
    clear hlm
    have c_V2 := V2.d0
    have f0_V2 := V2.frozen 0
    have d_V2 := V2.d1
    have f1_V2 := V2.frozen 1
    have e_V2 := V2.d2
    have f2_V2 := V2.frozen 2
    have l_V2 := V2.lt
    have m_V2 := Nat.le_of_lt l_V2
    have c_V3 := V3.d0
    have f0_V3 := V3.frozen 0
    have d_V3 := V3.d1
    have f1_V3 := V3.frozen 1
    have e_V3 := V3.d2
    have f2_V3 := V3.frozen 2
    have l_V3 := V3.lt
    have m_V3 := Nat.le_of_lt l_V3
    go_wp2_with fail
    refine bodyPost_ret (results_rt rfl rfl (V2.set3 _ _ _)) rfl ?_
    exact ⟨_, s, a, l, c, zs, b, m, d, ds, v, rfl, ⟨hz.far V2 (noInt3 _ _ _ _ _ _ _) (fa3 _ _ _ _ _), hd.far V2 (noInt3 _ _ _ _ _ _ _) (fa3 _ _ _ _ _), H1.out.1, H1.out.2, HS.out⟩, Or.inl ⟨HS.out, rfl, rfl⟩, belo3 B0 (by omega) _ _ _⟩
  ·
    have HS : Hid (¬ Short v) := fun h => hs (hlm.2 h)
    clear hlm
    have c_V2 := V2.d0
    have f0_V2 := V2.frozen 0
    have d_V2 := V2.d1
    have f1_V2 := V2.frozen 1
    have e_V2 := V2.d2
    have f2_V2 := V2.frozen 2
    have l_V2 := V2.lt
    have m_V2 := Nat.le_of_lt l_V2
    have c_V3 := V3.d0
    have f0_V3 := V3.frozen 0
    have d_V3 := V3.d1
    have f1_V3 := V3.frozen 1
    have e_V3 := V3.d2
    have f2_V3 := V3.frozen 2
    have l_V3 := V3.lt
    have m_V3 := Nat.le_of_lt l_V3
    go_wp2_with fail
    refine bodyPost_ret (results_rt rfl rfl (V2.set3 _ _ _)) rfl ?_
    exact ⟨_, _, _, _, _, _, _, _, _, _, _, rfl, Rt.nil _, Or.inr ⟨HS.out, rfl, rfl⟩, belo3 B0 (by omega) _ _ _⟩
end Go.Proofs.YtblafbbnplfpjaaGreatDoor
