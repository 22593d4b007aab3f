/-
  'of', with where the program's number lies.
-/
import Derived.Test.YtbadjonlhijoaaaWh5
namespace Go.Proofs.Ytbadjonlhijoaaa
open Go.RowKit Go.Shelf
set_option linter.unusedVariables false

/-- A number of plain data: the program's, and the document's; of more than 4096 limbs the first ones. -/
theorem of_coreg (s : Bool) (a : Option Addr) (l l0 c : Nat) (zs : List Int) (w : World) (h : Sl w a l0 zs) (hn : a = none → l = 0 ∧ c = 0) (h0 : l0 ≤ l) (hc : l ≤ c) (hl0 : (l ≤ 4096 ∧ l0 = l) ∨ (4096 < l ∧ l0 = 4096)) :
    Calls Try.prog 5 #[.agg #[.bool s, .slice a l c]] w fun e w' => ∃ s' g' l' c' zs' a2 c2, e = .returned (.tuple #[.agg #[.bool s', .slice (some ⟨g', 0, none⟩) l' c'], .agg #[.bool s', .slice a2 l' c2], .bool true]) ∧ It w' s' (some ⟨g', 0, none⟩) l' c' zs' ∧ Ir w' s' a2 l' c2 zs' ∧ iv s' zs' = iv s zs ∧ Below w.heap.size w w' := by
  have hn0 : a = none → l0 = 0 ∧ c = 0 := fun e => ⟨by have := (hn e).1; omega, (hn e).2⟩
  have hu : usedN zs ≤ 4096 := by have := usedN_le zs; have := h.1; omega
  have B0 : Below w.heap.size w w := Below.refl _ _
  rcases hl0 with ⟨hl1, hl2⟩ | ⟨hl1, hl2⟩
  ·
    subst hl2
    have hl3 : ¬ (4096 : Int) < l0 := by omega
    go_enter Try.func5, Try.ntmps5
    go_wp2_with fail
    refine ent3 w _ _ _ _ _ _ (Q := fun W => Calls Try.prog _ _ W _) ?_
    intro x1 hb hs_x1 V0 V1 V2
    replace h := h.below hb (Nat.le_refl _)
    replace B0 := step B0 hb
    clear hb hs_x1
    refine (copyl_any a l0 c zs x1 h hn0 (by omega)).mono ?_
    rintro e x2 ⟨a1, c1, rfl, h1, hc1, hn1, hb⟩
    replace V0 := Va.after hb V0
    replace V1 := Va.after hb V1
    replace V2 := Va.after hb V2
    replace h := h.below hb (Nat.le_refl _)
    replace B0 := step B0 hb
    clear hb
    have c_V0 := V0.c0
    have d_V0 := V0.c1
    have f_V0 := V0.frozen 0
    have g_V0 := V0.frozen 1
    have l_V0 := V0.lt
    have m_V0 := Nat.le_of_lt l_V0
    have c_V1 := V1.c0
    have d_V1 := V1.c1
    have f_V1 := V1.frozen 0
    have g_V1 := V1.frozen 1
    have l_V1 := V1.lt
    have m_V1 := Nat.le_of_lt l_V1
    have c_V2 := V2.c0
    have d_V2 := V2.c1
    have f_V2 := V2.frozen 0
    have g_V2 := V2.frozen 1
    have l_V2 := V2.lt
    have m_V2 := Nat.le_of_lt l_V2
    go_wp2_with fail
    refine (of_ok a1 l0 c1 zs x2 h1 (by omega) hc1 hu).mono ?_
    rintro e x3 ⟨g2, l2, k2, z2, rfl, hg2, h2, n2, hb⟩
    replace V0 := Va.after hb V0
    replace V1 := Va.after hb V1
    replace V2 := Va.after hb V2
    replace h := h.below hb (Nat.le_refl _)
    replace h1 := h1.below hb (Nat.le_refl _)
    replace B0 := step B0 hb
    clear hb
    clear c_V0 d_V0 f_V0 g_V0 l_V0 m_V0 c_V1 d_V1 f_V1 g_V1 l_V1 m_V1 c_V2 d_V2 f_V2 g_V2 l_V2 m_V2
    have c_V0 := V0.c0
    have d_V0 := V0.c1
    have f_V0 := V0.frozen 0
    have g_V0 := V0.frozen 1
    have l_V0 := V0.lt
    have m_V0 := Nat.le_of_lt l_V0
    have c_V1 := V1.c0
    have d_V1 := V1.c1
    have f_V1 := V1.frozen 0
    have g_V1 := V1.frozen 1
    have l_V1 := V1.lt
    have m_V1 := Nat.le_of_lt l_V1
    have c_V2 := V2.c0
    have d_V2 := V2.c1
    have f_V2 := V2.frozen 0
    have g_V2 := V2.frozen 1
    have l_V2 := V2.lt
    have m_V2 := Nat.le_of_lt l_V2
    go_wp2_with fail
    clear h1
    clear hg2
    have lt3 := V2.lt
    refine ent1 x3 _ _ (Q := fun W => Code.wp Try.prog _ _ _ W) ?_
    intro x4 hb hs_x4 V3
    replace V0 := Va.after hb V0
    replace V1 := Va.after hb V1
    replace V2 := Va.after hb V2
    replace h2 := Nt.after hb h2
    replace h := h.below hb (Nat.le_refl _)
    replace B0 := step B0 hb
    clear hb hs_x4
    clear c_V0 d_V0 f_V0 g_V0 l_V0 m_V0 c_V1 d_V1 f_V1 g_V1 l_V1 m_V1 c_V2 d_V2 f_V2 g_V2 l_V2 m_V2
    refine wp_region_noPanic ?_
    replace V0 : Va x4.drew _ _ _ := V0
    replace V1 : Va x4.drew _ _ _ := V1
    replace V2 : Va x4.drew _ _ _ := V2
    replace V3 : Va x4.drew _ _ _ := V3
    replace h2 : Nt x4.drew _ _ _ _ := h2
    replace h : Sl x4.drew _ _ _ := h
    replace B0 := Below.drew B0
    refine wp_region_held_drew (S := (fun W => W.cell? ⟨w.heap.size, 0, none⟩ = some (.bool s) ∧ W.cell? ⟨w.heap.size, 1, none⟩ = some (.slice a l0 c) ∧ W.cell? ⟨x3.heap.size, 0, none⟩ = some (.slice (some ⟨g2, 0, none⟩) l2 k2))) (by kernel_rfl) ⟨V0.c0, V0.c1, V3.cell⟩ (fun hHeld => ?_)
    obtain ⟨x5, hxd⟩ : ∃ xd, xd = x4.drew := ⟨_, rfl⟩
    rw [← hxd] at V0 V1 V2 V3 h2 h B0 hHeld ⊢
    clear hxd
    refine wpAnyH_take (i := 0) (v := ?_) rfl (by kernel_rfl) (by kernel_rfl) (by kernel_rfl) (fun _ _ _ h => h) (Or.inl ⟨by rfl, ?_⟩) hHeld ?_
    rotate_left
    · (intro W hSw; (try dsimp only at hSw); go_simp; all_goals (with_reducible rfl))
    simp only [List.getElem_toArray, List.getElem_cons_zero, Act.put, List.setIfInBounds_toArray, List.set_cons_zero, List.set_cons_succ]
    refine wpAnyH_take (i := 1) (v := ?_) rfl (by kernel_rfl) (by kernel_rfl) (by kernel_rfl) (fun _ _ _ h => h) (Or.inl ⟨by rfl, ?_⟩) hHeld ?_
    rotate_left
    · (intro W hSw; (try dsimp only at hSw); go_simp; all_goals (with_reducible rfl))
    simp only [List.getElem_toArray, List.getElem_cons_zero, List.getElem_cons_succ, Act.put, List.setIfInBounds_toArray, List.set_cons_zero, List.set_cons_succ]
    refine wpAnyH_take (i := 2) (v := ?_) rfl (by kernel_rfl) (by kernel_rfl) (by kernel_rfl) (fun _ _ _ h => h) (Or.inl ⟨by rfl, ?_⟩) hHeld ?_
    rotate_left
    · (intro W hSw; (try dsimp only at hSw); go_simp; all_goals (with_reducible rfl))
    simp only [List.getElem_toArray, List.getElem_cons_zero, List.getElem_cons_succ, Act.put, List.setIfInBounds_toArray, List.set_cons_zero, List.set_cons_succ]
    refine wpAnyH_take (i := 4) (v := ?_) rfl (by kernel_rfl) (by kernel_rfl) (by kernel_rfl) (fun _ _ _ h => h) (Or.inl ⟨by rfl, ?_⟩) hHeld ?_
    rotate_left
    · (intro W hSw; (try dsimp only at hSw); go_simp; all_goals (with_reducible rfl))
    simp only [List.getElem_toArray, List.getElem_cons_zero, List.getElem_cons_succ, Act.put, List.setIfInBounds_toArray, List.set_cons_zero, List.set_cons_succ]
    refine wpAnyH_take (i := 5) (v := ?_) rfl (by kernel_rfl) (by kernel_rfl) (by kernel_rfl) (fun _ _ _ h => h) (Or.inl ⟨by rfl, ?_⟩) hHeld ?_
    rotate_left
    · (intro W hSw; (try dsimp only at hSw); go_simp; all_goals (with_reducible rfl))
    simp only [List.getElem_toArray, List.getElem_cons_zero, List.getElem_cons_succ, Act.put, List.setIfInBounds_toArray, List.set_cons_zero, List.set_cons_succ]
    refine wpAnyH_take (i := 6) (v := ?_) rfl (by kernel_rfl) (by kernel_rfl) (by kernel_rfl) (fun _ _ _ h => h) (Or.inl ⟨by rfl, ?_⟩) hHeld ?_
    rotate_left
    · (intro W hSw; (try dsimp only at hSw); go_simp; all_goals (with_reducible rfl))
    simp only [List.getElem_toArray, List.getElem_cons_zero, List.getElem_cons_succ, Act.put, List.setIfInBounds_toArray, List.set_cons_zero, List.set_cons_succ]
    refine wpAnyH_take (i := 8) (v := ?_) rfl (by kernel_rfl) (by kernel_rfl) (by kernel_rfl) (fun _ _ _ h => h) (Or.inl ⟨by rfl, ?_⟩) hHeld ?_
    rotate_left
    · (intro W hSw; (try dsimp only at hSw); go_simp; all_goals (with_reducible rfl))
    simp only [List.getElem_toArray, List.getElem_cons_zero, List.getElem_cons_succ, Act.put, List.setIfInBounds_toArray, List.set_cons_zero, List.set_cons_succ]
    refine wpAnyH_take (i := 9) (v := ?_) rfl (by kernel_rfl) (by kernel_rfl) (by kernel_rfl) (fun _ _ _ h => h) (Or.inl ⟨by rfl, ?_⟩) hHeld ?_
    rotate_left
    · (intro W hSw; (try dsimp only at hSw); go_simp; all_goals (with_reducible rfl))
    simp only [List.getElem_toArray, List.getElem_cons_zero, List.getElem_cons_succ, Act.put, List.setIfInBounds_toArray, List.set_cons_zero, List.set_cons_succ]
    refine wpAnyH_ready (rs := [3]) (by kernel_rfl) (by simp) ?_
    refine AllReadyH.cons rfl (fun K hK => ?_) AllReadyH.nil
    simp only [List.getElem_toArray, List.getElem_cons_zero, List.getElem_cons_succ]
    go_simp
    refine (wnew_any s _ l2 k2 z2 _ h2).mono ?_
    rintro e x6 ⟨s3, rfl, h3, e3, hb⟩
    replace V0 := Va.after hb V0
    replace V1 := Va.after hb V1
    replace V2 := Va.after hb V2
    replace V3 := Va.after hb V3
    replace h2 := Nt.after hb h2
    replace h := h.below hb (Nat.le_refl _)
    replace B0 := step B0 hb
    clear hb
    try go_wp2_with fail
    refine hK.out _ _ ⟨V0.c0, V0.c1, V3.cell⟩ (fun hHeld => ?_)
    clear hK K
    refine wpAnyH_ready (rs := [7]) (by kernel_rfl) (by simp) ?_
    refine AllReadyH.cons rfl (fun K hK => ?_) AllReadyH.nil
    simp only [List.getElem_toArray, List.getElem_cons_zero, List.getElem_cons_succ]
    go_simp
    refine (rnew_any s a l0 c zs _ h (by omega) (by omega)).mono ?_
    rintro e x7 ⟨s4, a4, l4, k4, z4, rfl, h4, n4, e4, hl4, hb⟩
    replace V0 := Va.after hb V0
    replace V1 := Va.after hb V1
    replace V2 := Va.after hb V2
    replace V3 := Va.after hb V3
    replace h2 := Nt.after hb h2
    replace h3 := It.after hb h3
    replace h := h.below hb (Nat.le_refl _)
    replace B0 := step B0 hb
    clear hb
    clear hl4
    obtain ⟨hl5, hz5⟩ := h3.1.same h4.1 h4.2.1 (n4.trans n2.symm)
    subst hl5 hz5
    have es : s4 = s3 := by
      have q1 := h3.sign
      have q2 : s4 = decide (iv s4 z4 < 0) := by
        have p0 := h4.nonneg
        cases s4
        · rw [iv_f]; symm; simpa using p0
        · have := h4.2.2.2.2 rfl
          rw [iv_t]; symm; simp; omega
      rw [q1, q2, e4, e3]
      cases s
      · rw [iv_f, iv_f, n2]
      · rw [iv_t, iv_t, n2]
    subst es
    try go_wp2_with fail
    refine hK.out _ _ ⟨V0.c0, V0.c1, V3.cell⟩ (fun hHeld => ?_)
    clear hK K
    clear h2
    have c_V1 := V1.c0
    have d_V1 := V1.c1
    have f_V1 := V1.frozen 0
    have g_V1 := V1.frozen 1
    have l_V1 := V1.lt
    have m_V1 := Nat.le_of_lt l_V1
    refine wpAnyH_ready (rs := [10]) (by kernel_rfl) (by simp) ?_
    refine AllReadyH.cons rfl (fun K hK => ?_) AllReadyH.nil
    simp only [List.getElem_toArray, List.getElem_cons_zero, List.getElem_cons_succ]
    go_simp
    clear c_V1 d_V1 f_V1 g_V1 l_V1 m_V1
    refine st2 V1 (.bool s4) (.slice (some ⟨g2, 0, none⟩) l4 k2) (Q := fun W => K _ W) ?_
    intro x8 V' oth far
    replace V0 := oth _ _ _ (by first | omega | assumption) V0
    replace V2 := oth _ _ _ (by first | omega | assumption) V2
    replace V3 := oth _ _ _ (by first | omega | assumption) V3
    replace h3 := h3.far V1 (noInt2 _ _ _ _) far.1
    replace h := h.far V1 (noInt2 _ _ _ _) far.1
    replace h4 := h4.far V1 (noInt2 _ _ _ _) far.1
    replace B0 := far.2 _ _ (by first | omega | (simp; omega)) B0
    replace V1 := V'
    clear oth far
    refine hK.out _ _ ⟨V0.c0, V0.c1, V3.cell⟩ (fun hHeld => ?_)
    clear hK K
    have c_V2 := V2.c0
    have d_V2 := V2.c1
    have f_V2 := V2.frozen 0
    have g_V2 := V2.frozen 1
    have l_V2 := V2.lt
    have m_V2 := Nat.le_of_lt l_V2
    refine wpAnyH_ready (rs := [11]) (by kernel_rfl) (by simp) ?_
    refine AllReadyH.cons rfl (fun K hK => ?_) AllReadyH.nil
    simp only [List.getElem_toArray, List.getElem_cons_zero, List.getElem_cons_succ]
    go_simp
    clear c_V2 d_V2 f_V2 g_V2 l_V2 m_V2
    refine st2 V2 (.bool s4) (.slice a4 l4 k4) (Q := fun W => K _ W) ?_
    intro x9 V' oth far
    replace V0 := oth _ _ _ (by first | omega | assumption) V0
    replace V1 := oth _ _ _ (by first | omega | assumption) V1
    replace V3 := oth _ _ _ (by first | omega | assumption) V3
    replace h3 := h3.far V2 (noInt2 _ _ _ _) far.1
    replace h := h.far V2 (noInt2 _ _ _ _) far.1
    replace h4 := h4.far V2 (noInt2 _ _ _ _) far.1
    replace B0 := far.2 _ _ (by first | omega | (simp; omega)) B0
    replace V2 := V'
    clear oth far
    refine hK.out _ _ ⟨V0.c0, V0.c1, V3.cell⟩ (fun hHeld => ?_)
    clear hK K
    refine wpAnyH_take (i := 12) (v := ?_) rfl (by kernel_rfl) (by kernel_rfl) (by kernel_rfl) (fun _ _ _ h => h) (Or.inl ⟨by rfl, ?_⟩) hHeld ?_
    rotate_left
    · (intro W hSw; (try dsimp only at hSw); go_simp; all_goals (with_reducible rfl))
    simp only [List.getElem_toArray, List.getElem_cons_zero, List.getElem_cons_succ, Act.put, List.setIfInBounds_toArray, List.set_cons_zero, List.set_cons_succ]
    refine wpAnyH_done (by kernel_rfl) ?_ _
    refine NoPanic.normal ?_
    clear hHeld
    go_wp2_with fail
    refine bodyPost_ret (results_wit rfl rfl V1 rfl V2) rfl ?_
    exact ⟨_, _, _, _, _, _, _, rfl, h3, h4, e4, B0⟩
  ·
    subst hl2
    have hl3 : (4096 : Int) < l := by omega
    have hl4 : 4096 ≤ c := by omega
    cases a with
    | none => (have := (hn rfl).1; omega)
    | some ad =>
      go_enter Try.func5, Try.ntmps5
      go_wp2_with fail
      refine ent3 w _ _ _ _ _ _ (Q := fun W => Calls Try.prog _ _ W _) ?_
      intro x1 hb hs_x1 V0 V1 V2
      replace h := h.below hb (Nat.le_refl _)
      replace B0 := step B0 hb
      clear hb hs_x1
      refine (copyl_any (some ad) 4096 c zs x1 h hn0 (by omega)).mono ?_
      rintro e x2 ⟨a1, c1, rfl, h1, hc1, hn1, hb⟩
      replace V0 := Va.after hb V0
      replace V1 := Va.after hb V1
      replace V2 := Va.after hb V2
      replace h := h.below hb (Nat.le_refl _)
      replace B0 := step B0 hb
      clear hb
      have c_V0 := V0.c0
      have d_V0 := V0.c1
      have f_V0 := V0.frozen 0
      have g_V0 := V0.frozen 1
      have l_V0 := V0.lt
      have m_V0 := Nat.le_of_lt l_V0
      have c_V1 := V1.c0
      have d_V1 := V1.c1
      have f_V1 := V1.frozen 0
      have g_V1 := V1.frozen 1
      have l_V1 := V1.lt
      have m_V1 := Nat.le_of_lt l_V1
      have c_V2 := V2.c0
      have d_V2 := V2.c1
      have f_V2 := V2.frozen 0
      have g_V2 := V2.frozen 1
      have l_V2 := V2.lt
      have m_V2 := Nat.le_of_lt l_V2
      go_wp2_with fail
      refine (of_ok a1 4096 c1 zs x2 h1 (by omega) hc1 hu).mono ?_
      rintro e x3 ⟨g2, l2, k2, z2, rfl, hg2, h2, n2, hb⟩
      replace V0 := Va.after hb V0
      replace V1 := Va.after hb V1
      replace V2 := Va.after hb V2
      replace h := h.below hb (Nat.le_refl _)
      replace h1 := h1.below hb (Nat.le_refl _)
      replace B0 := step B0 hb
      clear hb
      clear c_V0 d_V0 f_V0 g_V0 l_V0 m_V0 c_V1 d_V1 f_V1 g_V1 l_V1 m_V1 c_V2 d_V2 f_V2 g_V2 l_V2 m_V2
      have c_V0 := V0.c0
      have d_V0 := V0.c1
      have f_V0 := V0.frozen 0
      have g_V0 := V0.frozen 1
      have l_V0 := V0.lt
      have m_V0 := Nat.le_of_lt l_V0
      have c_V1 := V1.c0
      have d_V1 := V1.c1
      have f_V1 := V1.frozen 0
      have g_V1 := V1.frozen 1
      have l_V1 := V1.lt
      have m_V1 := Nat.le_of_lt l_V1
      have c_V2 := V2.c0
      have d_V2 := V2.c1
      have f_V2 := V2.frozen 0
      have g_V2 := V2.frozen 1
      have l_V2 := V2.lt
      have m_V2 := Nat.le_of_lt l_V2
      go_wp2_with fail
      clear h1
      clear hg2
      have lt3 := V2.lt
      refine ent1 x3 _ _ (Q := fun W => Code.wp Try.prog _ _ _ W) ?_
      intro x4 hb hs_x4 V3
      replace V0 := Va.after hb V0
      replace V1 := Va.after hb V1
      replace V2 := Va.after hb V2
      replace h2 := Nt.after hb h2
      replace h := h.below hb (Nat.le_refl _)
      replace B0 := step B0 hb
      clear hb hs_x4
      clear c_V0 d_V0 f_V0 g_V0 l_V0 m_V0 c_V1 d_V1 f_V1 g_V1 l_V1 m_V1 c_V2 d_V2 f_V2 g_V2 l_V2 m_V2
      refine wp_region_noPanic ?_
      replace V0 : Va x4.drew _ _ _ := V0
      replace V1 : Va x4.drew _ _ _ := V1
      replace V2 : Va x4.drew _ _ _ := V2
      replace V3 : Va x4.drew _ _ _ := V3
      replace h2 : Nt x4.drew _ _ _ _ := h2
      replace h : Sl x4.drew _ _ _ := h
      replace B0 := Below.drew B0
      refine wp_region_held_drew (S := (fun W => W.cell? ⟨w.heap.size, 0, none⟩ = some (.bool s) ∧ W.cell? ⟨w.heap.size, 1, none⟩ = some (.slice (some ad) l c) ∧ W.cell? ⟨x3.heap.size, 0, none⟩ = some (.slice (some ⟨g2, 0, none⟩) l2 k2))) (by kernel_rfl) ⟨V0.c0, V0.c1, V3.cell⟩ (fun hHeld => ?_)
      obtain ⟨x5, hxd⟩ : ∃ xd, xd = x4.drew := ⟨_, rfl⟩
      rw [← hxd] at V0 V1 V2 V3 h2 h B0 hHeld ⊢
      clear hxd
      refine wpAnyH_take (i := 0) (v := ?_) rfl (by kernel_rfl) (by kernel_rfl) (by kernel_rfl) (fun _ _ _ h => h) (Or.inl ⟨by rfl, ?_⟩) hHeld ?_
      rotate_left
      · (intro W hSw; (try dsimp only at hSw); go_simp; all_goals (with_reducible rfl))
      simp only [List.getElem_toArray, List.getElem_cons_zero, Act.put, List.setIfInBounds_toArray, List.set_cons_zero, List.set_cons_succ]
      refine wpAnyH_take (i := 1) (v := ?_) rfl (by kernel_rfl) (by kernel_rfl) (by kernel_rfl) (fun _ _ _ h => h) (Or.inl ⟨by rfl, ?_⟩) hHeld ?_
      rotate_left
      · (intro W hSw; (try dsimp only at hSw); go_simp; all_goals (with_reducible rfl))
      simp only [List.getElem_toArray, List.getElem_cons_zero, List.getElem_cons_succ, Act.put, List.setIfInBounds_toArray, List.set_cons_zero, List.set_cons_succ]
      refine wpAnyH_take (i := 2) (v := ?_) rfl (by kernel_rfl) (by kernel_rfl) (by kernel_rfl) (fun _ _ _ h => h) (Or.inl ⟨by rfl, ?_⟩) hHeld ?_
      rotate_left
      · (intro W hSw; (try dsimp only at hSw); go_simp; all_goals (with_reducible rfl))
      simp only [List.getElem_toArray, List.getElem_cons_zero, List.getElem_cons_succ, Act.put, List.setIfInBounds_toArray, List.set_cons_zero, List.set_cons_succ]
      refine wpAnyH_take (i := 4) (v := ?_) rfl (by kernel_rfl) (by kernel_rfl) (by kernel_rfl) (fun _ _ _ h => h) (Or.inl ⟨by rfl, ?_⟩) hHeld ?_
      rotate_left
      · (intro W hSw; (try dsimp only at hSw); go_simp; all_goals (with_reducible rfl))
      simp only [List.getElem_toArray, List.getElem_cons_zero, List.getElem_cons_succ, Act.put, List.setIfInBounds_toArray, List.set_cons_zero, List.set_cons_succ]
      refine wpAnyH_take (i := 5) (v := ?_) rfl (by kernel_rfl) (by kernel_rfl) (by kernel_rfl) (fun _ _ _ h => h) (Or.inl ⟨by rfl, ?_⟩) hHeld ?_
      rotate_left
      · (intro W hSw; (try dsimp only at hSw); go_simp; all_goals (with_reducible rfl))
      simp only [List.getElem_toArray, List.getElem_cons_zero, List.getElem_cons_succ, Act.put, List.setIfInBounds_toArray, List.set_cons_zero, List.set_cons_succ]
      refine wpAnyH_take (i := 6) (v := ?_) rfl (by kernel_rfl) (by kernel_rfl) (by kernel_rfl) (fun _ _ _ h => h) (Or.inl ⟨by rfl, ?_⟩) hHeld ?_
      rotate_left
      · (intro W hSw; (try dsimp only at hSw); go_simp; all_goals (with_reducible rfl))
      simp only [List.getElem_toArray, List.getElem_cons_zero, List.getElem_cons_succ, Act.put, List.setIfInBounds_toArray, List.set_cons_zero, List.set_cons_succ]
      refine wpAnyH_take (i := 8) (v := ?_) rfl (by kernel_rfl) (by kernel_rfl) (by kernel_rfl) (fun _ _ _ h => h) (Or.inl ⟨by rfl, ?_⟩) hHeld ?_
      rotate_left
      · (intro W hSw; (try dsimp only at hSw); go_simp; all_goals (with_reducible rfl))
      simp only [List.getElem_toArray, List.getElem_cons_zero, List.getElem_cons_succ, Act.put, List.setIfInBounds_toArray, List.set_cons_zero, List.set_cons_succ]
      refine wpAnyH_take (i := 9) (v := ?_) rfl (by kernel_rfl) (by kernel_rfl) (by kernel_rfl) (fun _ _ _ h => h) (Or.inl ⟨by rfl, ?_⟩) hHeld ?_
      rotate_left
      · (intro W hSw; (try dsimp only at hSw); go_simp; all_goals (with_reducible rfl))
      simp only [List.getElem_toArray, List.getElem_cons_zero, List.getElem_cons_succ, Act.put, List.setIfInBounds_toArray, List.set_cons_zero, List.set_cons_succ]
      refine wpAnyH_ready (rs := [3]) (by kernel_rfl) (by simp) ?_
      refine AllReadyH.cons rfl (fun K hK => ?_) AllReadyH.nil
      simp only [List.getElem_toArray, List.getElem_cons_zero, List.getElem_cons_succ]
      go_simp
      refine (wnew_any s _ l2 k2 z2 _ h2).mono ?_
      rintro e x6 ⟨s3, rfl, h3, e3, hb⟩
      replace V0 := Va.after hb V0
      replace V1 := Va.after hb V1
      replace V2 := Va.after hb V2
      replace V3 := Va.after hb V3
      replace h2 := Nt.after hb h2
      replace h := h.below hb (Nat.le_refl _)
      replace B0 := step B0 hb
      clear hb
      try go_wp2_with fail
      refine hK.out _ _ ⟨V0.c0, V0.c1, V3.cell⟩ (fun hHeld => ?_)
      clear hK K
      refine wpAnyH_ready (rs := [7]) (by kernel_rfl) (by simp) ?_
      refine AllReadyH.cons rfl (fun K hK => ?_) AllReadyH.nil
      simp only [List.getElem_toArray, List.getElem_cons_zero, List.getElem_cons_succ]
      go_simp
      refine (rnew_any s (some ad) 4096 c zs _ h (by omega) (by omega)).mono ?_
      rintro e x7 ⟨s4, a4, l4, k4, z4, rfl, h4, n4, e4, hl4, hb⟩
      replace V0 := Va.after hb V0
      replace V1 := Va.after hb V1
      replace V2 := Va.after hb V2
      replace V3 := Va.after hb V3
      replace h2 := Nt.after hb h2
      replace h3 := It.after hb h3
      replace h := h.below hb (Nat.le_refl _)
      replace B0 := step B0 hb
      clear hb
      clear hl4
      obtain ⟨hl5, hz5⟩ := h3.1.same h4.1 h4.2.1 (n4.trans n2.symm)
      subst hl5 hz5
      have es : s4 = s3 := by
        have q1 := h3.sign
        have q2 : s4 = decide (iv s4 z4 < 0) := by
          have p0 := h4.nonneg
          cases s4
          · rw [iv_f]; symm; simpa using p0
          · have := h4.2.2.2.2 rfl
            rw [iv_t]; symm; simp; omega
        rw [q1, q2, e4, e3]
        cases s
        · rw [iv_f, iv_f, n2]
        · rw [iv_t, iv_t, n2]
      subst es
      try go_wp2_with fail
      refine hK.out _ _ ⟨V0.c0, V0.c1, V3.cell⟩ (fun hHeld => ?_)
      clear hK K
      clear h2
      have c_V1 := V1.c0
      have d_V1 := V1.c1
      have f_V1 := V1.frozen 0
      have g_V1 := V1.frozen 1
      have l_V1 := V1.lt
      have m_V1 := Nat.le_of_lt l_V1
      refine wpAnyH_ready (rs := [10]) (by kernel_rfl) (by simp) ?_
      refine AllReadyH.cons rfl (fun K hK => ?_) AllReadyH.nil
      simp only [List.getElem_toArray, List.getElem_cons_zero, List.getElem_cons_succ]
      go_simp
      clear c_V1 d_V1 f_V1 g_V1 l_V1 m_V1
      refine st2 V1 (.bool s4) (.slice (some ⟨g2, 0, none⟩) l4 k2) (Q := fun W => K _ W) ?_
      intro x8 V' oth far
      replace V0 := oth _ _ _ (by first | omega | assumption) V0
      replace V2 := oth _ _ _ (by first | omega | assumption) V2
      replace V3 := oth _ _ _ (by first | omega | assumption) V3
      replace h3 := h3.far V1 (noInt2 _ _ _ _) far.1
      replace h := h.far V1 (noInt2 _ _ _ _) far.1
      replace h4 := h4.far V1 (noInt2 _ _ _ _) far.1
      replace B0 := far.2 _ _ (by first | omega | (simp; omega)) B0
      replace V1 := V'
      clear oth far
      refine hK.out _ _ ⟨V0.c0, V0.c1, V3.cell⟩ (fun hHeld => ?_)
      clear hK K
      have c_V2 := V2.c0
      have d_V2 := V2.c1
      have f_V2 := V2.frozen 0
      have g_V2 := V2.frozen 1
      have l_V2 := V2.lt
      have m_V2 := Nat.le_of_lt l_V2
      refine wpAnyH_ready (rs := [11]) (by kernel_rfl) (by simp) ?_
      refine AllReadyH.cons rfl (fun K hK => ?_) AllReadyH.nil
      simp only [List.getElem_toArray, List.getElem_cons_zero, List.getElem_cons_succ]
      go_simp
      clear c_V2 d_V2 f_V2 g_V2 l_V2 m_V2
      refine st2 V2 (.bool s4) (.slice a4 l4 k4) (Q := fun W => K _ W) ?_
      intro x9 V' oth far
      replace V0 := oth _ _ _ (by first | omega | assumption) V0
      replace V1 := oth _ _ _ (by first | omega | assumption) V1
      replace V3 := oth _ _ _ (by first | omega | assumption) V3
      replace h3 := h3.far V2 (noInt2 _ _ _ _) far.1
      replace h := h.far V2 (noInt2 _ _ _ _) far.1
      replace h4 := h4.far V2 (noInt2 _ _ _ _) far.1
      replace B0 := far.2 _ _ (by first | omega | (simp; omega)) B0
      replace V2 := V'
      clear oth far
      refine hK.out _ _ ⟨V0.c0, V0.c1, V3.cell⟩ (fun hHeld => ?_)
      clear hK K
      refine wpAnyH_take (i := 12) (v := ?_) rfl (by kernel_rfl) (by kernel_rfl) (by kernel_rfl) (fun _ _ _ h => h) (Or.inl ⟨by rfl, ?_⟩) hHeld ?_
      rotate_left
      · (intro W hSw; (try dsimp only at hSw); go_simp; all_goals (with_reducible rfl))
      simp only [List.getElem_toArray, List.getElem_cons_zero, List.getElem_cons_succ, Act.put, List.setIfInBounds_toArray, List.set_cons_zero, List.set_cons_succ]
      refine wpAnyH_done (by kernel_rfl) ?_ _
      refine NoPanic.normal ?_
      clear hHeld
      go_wp2_with fail
      refine bodyPost_ret (results_wit rfl rfl V1 rfl V2) rfl ?_
      exact ⟨_, _, _, _, _, _, _, rfl, h3, h4, e4, B0⟩

theorem oflaw4g (s : Bool) (a : Option Addr) (l c : Nat) (zs : List Int) (w : World) (h : Sl w a l zs) (hn : a = none → l = 0 ∧ c = 0) (hc : l ≤ c) :
    Calls Try.prog 5 #[.agg #[.bool s, .slice a l c]] w fun e w' => ∃ s' g' l' c' zs' a2 c2, e = .returned (.tuple #[.agg #[.bool s', .slice (some ⟨g', 0, none⟩) l' c'], .agg #[.bool s', .slice a2 l' c2], .bool true]) ∧ It w' s' (some ⟨g', 0, none⟩) l' c' zs' ∧ Ir w' s' a2 l' c2 zs' ∧ iv s' zs' = iv s (zs.take 4096) ∧ Below w.heap.size w w' := by
  by_cases hl : l ≤ 4096
  · rw [List.take_of_length_le (by have := h.1; omega)]
    exact of_coreg s a l l c zs w h hn (Nat.le_refl _) hc (Or.inl ⟨hl, rfl⟩)
  · exact of_coreg s a l 4096 c (zs.take 4096) w (h.take (by omega)) hn (by omega) hc (Or.inr ⟨by omega, rfl⟩)
end Go.Proofs.Ytbadjonlhijoaaa
