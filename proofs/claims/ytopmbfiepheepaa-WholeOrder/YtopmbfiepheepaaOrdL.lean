/-
  The walk of WholeOrder where the first number is less than the second.
-/
import Derived.Test.YtopmbfiepheepaaOrdP
namespace Go.Proofs.Ytopmbfiepheepaa
open Go.RowKit Go.Shelf
set_option linter.unusedVariables false

set_option maxHeartbeats 16000000 in
set_option maxRecDepth 20000 in
theorem order_L (s0 : Bool) (a0 : Option Addr) (len0 cap0 : Nat) (z0 : List Int) (s1 : Bool) (a1 : Option Addr) (len1 cap1 : Nat) (z1 : List Int) (w : World) (h0 : Sl w a0 len0 z0) (c0 : len0 ≤ cap0) (e0 : a0 = none → len0 = 0 ∧ cap0 = 0) (h1 : Sl w a1 len1 z1) (c1 : len1 ≤ cap1) (e1 : a1 = none → len1 = 0 ∧ cap1 = 0) (hcmp : iv s0 (z0.take 4096) < iv s1 (z1.take 4096)) :
    Calls Try.prog 6 #[.agg #[.bool s0, .slice a0 len0 cap0], .agg #[.bool s1, .slice a1 len1 cap1]] w fun e w' => e = .returned (.bool true) ∧ Below w.heap.size w w' := by
  have B0 : Below w.heap.size w w := Below.refl _ _
  go_enter Try.func6, Try.ntmps6
  go_wp2_with fail
  refine ent2 w _ _ _ _ (Q := fun W => Calls Try.prog _ _ W _) ?_
  intro x1 hb hs_x1 V0 V1
  replace h0 := h0.below hb (Nat.le_refl _)
  replace h1 := h1.below hb (Nat.le_refl _)
  replace B0 := step B0 hb
  clear hb hs_x1
  refine (oflaw4 s0 a0 len0 cap0 z0 x1 h0 e0 c0).mono ?_
  rintro e x2 ⟨sx, ax, lx, kx, zx, au, ku, rfl, hx, hu, ex, hb⟩
  replace V0 := Va.after hb V0
  replace V1 := Va.after hb V1
  replace h0 := h0.below hb (Nat.le_refl _)
  replace h1 := h1.below hb (Nat.le_refl _)
  replace B0 := step B0 hb
  clear hb
  clear hu
  have c_V0 := V0.c0
  have d_V0 := V0.c1
  have f_V0 := V0.frozen 0
  have g_V0 := V0.frozen 1
  have l_V0 := V0.lt
  have m_V0 := Nat.le_of_lt l_V0
  have c_V1 := V1.c0
  have d_V1 := V1.c1
  have f_V1 := V1.frozen 0
  have g_V1 := V1.frozen 1
  have l_V1 := V1.lt
  have m_V1 := Nat.le_of_lt l_V1
  go_wp2_with fail
  refine ent2 x2 _ _ _ _ (Q := fun W => Calls Try.prog _ _ W _) ?_
  intro x3 hb hs_x3 Vx Vu
  replace V0 := Va.after hb V0
  replace V1 := Va.after hb V1
  replace hx := It.after hb hx
  replace h0 := h0.below hb (Nat.le_refl _)
  replace h1 := h1.below hb (Nat.le_refl _)
  replace B0 := step B0 hb
  clear hb hs_x3
  refine (oflaw4 s1 a1 len1 cap1 z1 x3 h1 e1 c1).mono ?_
  rintro e x4 ⟨sy, ay, ly, ky, zy, av, kv, rfl, hy, hv, ey, hb⟩
  replace V0 := Va.after hb V0
  replace V1 := Va.after hb V1
  replace Vx := Va.after hb Vx
  replace Vu := Va.after hb Vu
  replace hx := It.after hb hx
  replace h0 := h0.below hb (Nat.le_refl _)
  replace h1 := h1.below hb (Nat.le_refl _)
  replace B0 := step B0 hb
  clear hb
  clear hv
  clear c_V0 d_V0 f_V0 g_V0 l_V0 m_V0 c_V1 d_V1 f_V1 g_V1 l_V1 m_V1
  have c_V0 := V0.c0
  have d_V0 := V0.c1
  have f_V0 := V0.frozen 0
  have g_V0 := V0.frozen 1
  have l_V0 := V0.lt
  have m_V0 := Nat.le_of_lt l_V0
  have c_V1 := V1.c0
  have d_V1 := V1.c1
  have f_V1 := V1.frozen 0
  have g_V1 := V1.frozen 1
  have l_V1 := V1.lt
  have m_V1 := Nat.le_of_lt l_V1
  have c_Vx := Vx.c0
  have d_Vx := Vx.c1
  have f_Vx := Vx.frozen 0
  have g_Vx := Vx.frozen 1
  have l_Vx := Vx.lt
  have m_Vx := Nat.le_of_lt l_Vx
  have c_Vu := Vu.c0
  have d_Vu := Vu.c1
  have f_Vu := Vu.frozen 0
  have g_Vu := Vu.frozen 1
  have l_Vu := Vu.lt
  have m_Vu := Nat.le_of_lt l_Vu
  go_wp2_with fail
  refine ent2 x4 _ _ _ _ (Q := fun W => Calls Try.prog _ _ W _) ?_
  intro x5 hb hs_x5 Vy Vv
  replace V0 := Va.after hb V0
  replace V1 := Va.after hb V1
  replace Vx := Va.after hb Vx
  replace Vu := Va.after hb Vu
  replace hx := It.after hb hx
  replace hy := It.after hb hy
  replace h0 := h0.below hb (Nat.le_refl _)
  replace h1 := h1.below hb (Nat.le_refl _)
  replace B0 := step B0 hb
  clear hb hs_x5
  clear c_V0 d_V0 f_V0 g_V0 l_V0 m_V0 c_V1 d_V1 f_V1 g_V1 l_V1 m_V1 c_Vx d_Vx f_Vx g_Vx l_Vx m_Vx c_Vu d_Vu f_Vu g_Vu l_Vu m_Vu
  clear V0 V1 Vu Vv h0 h1
  clear e0 e1 c0 c1
  rw [← ex, ← ey] at hcmp
  clear ex ey
  have HC : Hid (iv sx zx < iv sy zy) := hcmp
  have Q1 : Hid (cmp3 (iv sx zx) (iv sy zy) = (-1)) := cmp3_lt hcmp
  have Q2 : Hid (cmp3 (iv sy zy) (iv sx zx) = 1) := cmp3_gt hcmp
  have Q3 : Hid (cmp3 (- iv sx zx) (- iv sy zy) = 1) := cmp3_gt (show - iv sy zy < - iv sx zx by omega)
  clear hcmp
  refine (wcompare_any sx sy ax ay lx kx ly ky zx zy x5 hx hy).mono ?_
  rintro e x6 ⟨rfl, hb⟩
  replace Vx := Va.after hb Vx
  replace Vy := Va.after hb Vy
  replace hx := It.after hb hx
  replace hy := It.after hb hy
  replace B0 := step B0 hb
  clear hb
  rw [Q1.out]
  have c_Vx := Vx.c0
  have d_Vx := Vx.c1
  have f_Vx := Vx.frozen 0
  have g_Vx := Vx.frozen 1
  have l_Vx := Vx.lt
  have m_Vx := Nat.le_of_lt l_Vx
  have c_Vy := Vy.c0
  have d_Vy := Vy.c1
  have f_Vy := Vy.frozen 0
  have g_Vy := Vy.frozen 1
  have l_Vy := Vy.lt
  have m_Vy := Nat.le_of_lt l_Vy
  go_wp2_with fail
  have HP : Hid (∀ P, pw 4096 = P → ((iv sx zx).natAbs : Int) < P ∧ ((iv sy zy).natAbs : Int) < P) := fun P e => by rw [← e]; exact ⟨hx.lt, hy.lt⟩
  by_cases fit : Hid (((iv sx zx - iv sy zy).natAbs : Int) < pw 4096)
  ·
    refine (wsub_ok sx sy ax ay lx kx ly ky zx zy x6 hx hy fit).mono ?_
    rintro e x7 ⟨sd, ad, ld, kd, zd, rfl, hd, ed, hb⟩
    replace Vx := Va.after hb Vx
    replace Vy := Va.after hb Vy
    replace hx := It.after hb hx
    replace hy := It.after hb hy
    replace B0 := step B0 hb
    clear hb
    have HS : Hid (Int.sign (iv sd zd) = (-1)) := by show _ = _; rw [ed]; exact Int.sign_eq_neg_one_of_neg (by have := HC.out; omega)
    clear ed fit
    clear c_Vx d_Vx f_Vx g_Vx l_Vx m_Vx c_Vy d_Vy f_Vy g_Vy l_Vy m_Vy
    have c_Vx := Vx.c0
    have d_Vx := Vx.c1
    have f_Vx := Vx.frozen 0
    have g_Vx := Vx.frozen 1
    have l_Vx := Vx.lt
    have m_Vx := Nat.le_of_lt l_Vx
    have c_Vy := Vy.c0
    have d_Vy := Vy.c1
    have f_Vy := Vy.frozen 0
    have g_Vy := Vy.frozen 1
    have l_Vy := Vy.lt
    have m_Vy := Nat.le_of_lt l_Vy
    go_wp2_with fail
    refine ent1 x7 _ _ (Q := fun W => Code.wp Try.prog _ _ _ W) ?_
    intro x8 hb hs_x8 Vd
    replace Vx := Va.after hb Vx
    replace Vy := Va.after hb Vy
    replace hx := It.after hb hx
    replace hy := It.after hb hy
    replace hd := It.after hb hd
    replace B0 := step B0 hb
    clear hb hs_x8
    clear HP
    clear c_Vx d_Vx f_Vx g_Vx l_Vx m_Vx c_Vy d_Vy f_Vy g_Vy l_Vy m_Vy
    refine wp_region_noPanic ?_
    replace Vx : Va x8.drew _ _ _ := Vx
    replace Vy : Va x8.drew _ _ _ := Vy
    replace Vd : Va x8.drew _ _ _ := Vd
    replace hx : It x8.drew _ _ _ _ _ := hx
    replace hy : It x8.drew _ _ _ _ _ := hy
    replace hd : It x8.drew _ _ _ _ _ := hd
    replace B0 := Below.drew B0
    refine wp_region_held_drew (S := (fun W => W.cell? ⟨x2.heap.size, 0, none⟩ = some (.bool sx) ∧ W.cell? ⟨x2.heap.size, 1, none⟩ = some (.slice ax lx kx) ∧ W.cell? ⟨x4.heap.size, 0, none⟩ = some (.bool sy) ∧ W.cell? ⟨x4.heap.size, 1, none⟩ = some (.slice ay ly ky))) (by kernel_rfl) ⟨Vx.c0, Vx.c1, Vy.c0, Vy.c1⟩ (fun hHeld => ?_)
    obtain ⟨x9, hxd⟩ : ∃ xd, xd = x8.drew := ⟨_, rfl⟩
    rw [← hxd] at Vx Vy Vd hx hy hd B0 hHeld ⊢
    clear hxd
    refine wpAnyH_take (i := 0) (v := ?_) rfl (by kernel_rfl) (by kernel_rfl) (by kernel_rfl) (fun _ _ _ h => h) (Or.inl ⟨by rfl, ?_⟩) hHeld ?_
    rotate_left
    · (intro W hSw; (try dsimp only at hSw); go_simp; all_goals (with_reducible rfl))
    simp only [List.getElem_toArray, List.getElem_cons_zero, Act.put, List.setIfInBounds_toArray, List.set_cons_zero, List.set_cons_succ]
    refine wpAnyH_take (i := 1) (v := ?_) rfl (by kernel_rfl) (by kernel_rfl) (by kernel_rfl) (fun _ _ _ h => h) (Or.inl ⟨by rfl, ?_⟩) hHeld ?_
    rotate_left
    · (intro W hSw; (try dsimp only at hSw); go_simp; all_goals (with_reducible rfl))
    simp only [List.getElem_toArray, List.getElem_cons_zero, List.getElem_cons_succ, Act.put, List.setIfInBounds_toArray, List.set_cons_zero, List.set_cons_succ]
    refine wpAnyH_take (i := 2) (v := ?_) rfl (by kernel_rfl) (by kernel_rfl) (by kernel_rfl) (fun _ _ _ h => h) (Or.inl ⟨by rfl, ?_⟩) hHeld ?_
    rotate_left
    · (intro W hSw; (try dsimp only at hSw); go_simp; all_goals (with_reducible rfl))
    simp only [List.getElem_toArray, List.getElem_cons_zero, List.getElem_cons_succ, Act.put, List.setIfInBounds_toArray, List.set_cons_zero, List.set_cons_succ]
    refine wpAnyH_take (i := 3) (v := ?_) rfl (by kernel_rfl) (by kernel_rfl) (by kernel_rfl) (fun _ _ _ h => h) (Or.inl ⟨by rfl, ?_⟩) hHeld ?_
    rotate_left
    · (intro W hSw; (try dsimp only at hSw); go_simp; all_goals (with_reducible rfl))
    simp only [List.getElem_toArray, List.getElem_cons_zero, List.getElem_cons_succ, Act.put, List.setIfInBounds_toArray, List.set_cons_zero, List.set_cons_succ]
    refine wpAnyH_take (i := 4) (v := ?_) rfl (by kernel_rfl) (by kernel_rfl) (by kernel_rfl) (fun _ _ _ h => h) (Or.inl ⟨by rfl, ?_⟩) hHeld ?_
    rotate_left
    · (intro W hSw; (try dsimp only at hSw); go_simp; all_goals (with_reducible rfl))
    simp only [List.getElem_toArray, List.getElem_cons_zero, List.getElem_cons_succ, Act.put, List.setIfInBounds_toArray, List.set_cons_zero, List.set_cons_succ]
    refine wpAnyH_take (i := 5) (v := ?_) rfl (by kernel_rfl) (by kernel_rfl) (by kernel_rfl) (fun _ _ _ h => h) (Or.inl ⟨by rfl, ?_⟩) hHeld ?_
    rotate_left
    · (intro W hSw; (try dsimp only at hSw); go_simp; all_goals (with_reducible rfl))
    simp only [List.getElem_toArray, List.getElem_cons_zero, List.getElem_cons_succ, Act.put, List.setIfInBounds_toArray, List.set_cons_zero, List.set_cons_succ]
    refine wpAnyH_take (i := 6) (v := ?_) rfl (by kernel_rfl) (by kernel_rfl) (by kernel_rfl) (fun _ _ _ h => h) (Or.inl ⟨by rfl, ?_⟩) hHeld ?_
    rotate_left
    · (intro W hSw; (try dsimp only at hSw); go_simp; all_goals (with_reducible rfl))
    simp only [List.getElem_toArray, List.getElem_cons_zero, List.getElem_cons_succ, Act.put, List.setIfInBounds_toArray, List.set_cons_zero, List.set_cons_succ]
    refine wpAnyH_take (i := 7) (v := ?_) rfl (by kernel_rfl) (by kernel_rfl) (by kernel_rfl) (fun _ _ _ h => h) (Or.inl ⟨by rfl, ?_⟩) hHeld ?_
    rotate_left
    · (intro W hSw; (try dsimp only at hSw); go_simp; all_goals (with_reducible rfl))
    simp only [List.getElem_toArray, List.getElem_cons_zero, List.getElem_cons_succ, Act.put, List.setIfInBounds_toArray, List.set_cons_zero, List.set_cons_succ]
    refine wpAnyH_take (i := 8) (v := ?_) rfl (by kernel_rfl) (by kernel_rfl) (by kernel_rfl) (fun _ _ _ h => h) (Or.inl ⟨by rfl, ?_⟩) hHeld ?_
    rotate_left
    · (intro W hSw; (try dsimp only at hSw); go_simp; all_goals (with_reducible rfl))
    simp only [List.getElem_toArray, List.getElem_cons_zero, List.getElem_cons_succ, Act.put, List.setIfInBounds_toArray, List.set_cons_zero, List.set_cons_succ]
    refine wpAnyH_take (i := 10) (v := ?_) rfl (by kernel_rfl) (by kernel_rfl) (by kernel_rfl) (fun _ _ _ h => h) (Or.inl ⟨by rfl, ?_⟩) hHeld ?_
    rotate_left
    · (intro W hSw; (try dsimp only at hSw); go_simp; all_goals (with_reducible rfl))
    simp only [List.getElem_toArray, List.getElem_cons_zero, List.getElem_cons_succ, Act.put, List.setIfInBounds_toArray, List.set_cons_zero, List.set_cons_succ]
    refine wpAnyH_take (i := 11) (v := .int .i64 1) rfl (by kernel_rfl) (by kernel_rfl) (by kernel_rfl) (fun _ _ _ h => h) (Or.inl ⟨by rfl, ?_⟩) hHeld ?_
    · (intro W hSw; (try dsimp only at hSw); go_simp; all_goals (first | rfl | decide | simp))
    simp only [List.getElem_toArray, List.getElem_cons_zero, List.getElem_cons_succ, Act.put, List.setIfInBounds_toArray, List.set_cons_zero, List.set_cons_succ]
    refine wpAnyH_ready (rs := [9]) (by kernel_rfl) (by simp) ?_
    refine AllReadyH.cons rfl (fun K hK => ?_) AllReadyH.nil
    simp only [List.getElem_toArray, List.getElem_cons_zero, List.getElem_cons_succ]
    go_simp
    refine (wcompare_any sy sx ay ax ly ky lx kx zy zx _ hy hx).mono ?_
    rintro e x10 ⟨rfl, hb⟩
    replace Vx := Va.after hb Vx
    replace Vy := Va.after hb Vy
    replace Vd := Va.after hb Vd
    replace hx := It.after hb hx
    replace hy := It.after hb hy
    replace hd := It.after hb hd
    replace B0 := step B0 hb
    clear hb
    rw [Q2.out]
    try go_wp2_with fail
    refine hK.out _ _ ⟨Vx.c0, Vx.c1, Vy.c0, Vy.c1⟩ (fun hHeld => ?_)
    clear hK K
    refine wpAnyH_take (i := 12) (v := ?_) rfl (by kernel_rfl) (by kernel_rfl) (by kernel_rfl) (fun _ _ _ h => h) (Or.inl ⟨by rfl, ?_⟩) hHeld ?_
    rotate_left
    · (intro W hSw; (try dsimp only at hSw); go_simp; all_goals (with_reducible rfl))
    simp only [List.getElem_toArray, List.getElem_cons_zero, List.getElem_cons_succ, Act.put, List.setIfInBounds_toArray, List.set_cons_zero, List.set_cons_succ]
    refine wpAnyH_take (i := 13) (v := ?_) rfl (by kernel_rfl) (by kernel_rfl) (by kernel_rfl) (fun _ _ _ h => h) (Or.inl ⟨by rfl, ?_⟩) hHeld ?_
    rotate_left
    · (intro W hSw; (try dsimp only at hSw); go_simp; all_goals (with_reducible rfl))
    simp only [List.getElem_toArray, List.getElem_cons_zero, List.getElem_cons_succ, Act.put, List.setIfInBounds_toArray, List.set_cons_zero, List.set_cons_succ]
    refine wpAnyH_take (i := 14) (v := ?_) rfl (by kernel_rfl) (by kernel_rfl) (by kernel_rfl) (fun _ _ _ h => h) (Or.inl ⟨by rfl, ?_⟩) hHeld ?_
    rotate_left
    · (intro W hSw; (try dsimp only at hSw); go_simp; all_goals (with_reducible rfl))
    simp only [List.getElem_toArray, List.getElem_cons_zero, List.getElem_cons_succ, Act.put, List.setIfInBounds_toArray, List.set_cons_zero, List.set_cons_succ]
    refine wpAnyH_take (i := 15) (v := ?_) rfl (by kernel_rfl) (by kernel_rfl) (by kernel_rfl) (fun _ _ _ h => h) (Or.inl ⟨by rfl, ?_⟩) hHeld ?_
    rotate_left
    · (intro W hSw; (try dsimp only at hSw); go_simp; all_goals (with_reducible rfl))
    simp only [List.getElem_toArray, List.getElem_cons_zero, List.getElem_cons_succ, Act.put, List.setIfInBounds_toArray, List.set_cons_zero, List.set_cons_succ]
    refine wpAnyH_take (i := 16) (v := ?_) rfl (by kernel_rfl) (by kernel_rfl) (by kernel_rfl) (fun _ _ _ h => h) (Or.inl ⟨by rfl, ?_⟩) hHeld ?_
    rotate_left
    · (intro W hSw; (try dsimp only at hSw); go_simp; all_goals (with_reducible rfl))
    simp only [List.getElem_toArray, List.getElem_cons_zero, List.getElem_cons_succ, Act.put, List.setIfInBounds_toArray, List.set_cons_zero, List.set_cons_succ]
    refine wpAnyH_ready (rs := [17]) (by kernel_rfl) (by simp) ?_
    refine AllReadyH.cons rfl (fun K hK => ?_) AllReadyH.nil
    simp only [List.getElem_toArray, List.getElem_cons_zero, List.getElem_cons_succ]
    go_simp
    refine (wcompare_any sx sx ax ax lx kx lx kx zx zx _ hx hx).mono ?_
    rintro e x11 ⟨rfl, hb⟩
    replace Vx := Va.after hb Vx
    replace Vy := Va.after hb Vy
    replace Vd := Va.after hb Vd
    replace hx := It.after hb hx
    replace hy := It.after hb hy
    replace hd := It.after hb hd
    replace B0 := step B0 hb
    clear hb
    rw [cmp3_eq rfl]
    try go_wp2_with fail
    refine hK.out _ _ ⟨Vx.c0, Vx.c1, Vy.c0, Vy.c1⟩ (fun hHeld => ?_)
    clear hK K
    refine wpAnyH_take (i := 18) (v := ?_) rfl (by kernel_rfl) (by kernel_rfl) (by kernel_rfl) (fun _ _ _ h => h) (Or.inl ⟨by rfl, ?_⟩) hHeld ?_
    rotate_left
    · (intro W hSw; (try dsimp only at hSw); go_simp; all_goals (with_reducible rfl))
    simp only [List.getElem_toArray, List.getElem_cons_zero, List.getElem_cons_succ, Act.put, List.setIfInBounds_toArray, List.set_cons_zero, List.set_cons_succ]
    refine wpAnyH_take (i := 19) (v := ?_) rfl (by kernel_rfl) (by kernel_rfl) (by kernel_rfl) (fun _ _ _ h => h) (Or.inl ⟨by rfl, ?_⟩) hHeld ?_
    rotate_left
    · (intro W hSw; (try dsimp only at hSw); go_simp; all_goals (with_reducible rfl))
    simp only [List.getElem_toArray, List.getElem_cons_zero, List.getElem_cons_succ, Act.put, List.setIfInBounds_toArray, List.set_cons_zero, List.set_cons_succ]
    refine wpAnyH_take (i := 20) (v := ?_) rfl (by kernel_rfl) (by kernel_rfl) (by kernel_rfl) (fun _ _ _ h => h) (Or.inl ⟨by rfl, ?_⟩) hHeld ?_
    rotate_left
    · (intro W hSw; (try dsimp only at hSw); go_simp; all_goals (with_reducible rfl))
    simp only [List.getElem_toArray, List.getElem_cons_zero, List.getElem_cons_succ, Act.put, List.setIfInBounds_toArray, List.set_cons_zero, List.set_cons_succ]
    refine wpAnyH_take (i := 21) (v := ?_) rfl (by kernel_rfl) (by kernel_rfl) (by kernel_rfl) (fun _ _ _ h => h) (Or.inl ⟨by rfl, ?_⟩) hHeld ?_
    rotate_left
    · (intro W hSw; (try dsimp only at hSw); go_simp; all_goals (with_reducible rfl))
    simp only [List.getElem_toArray, List.getElem_cons_zero, List.getElem_cons_succ, Act.put, List.setIfInBounds_toArray, List.set_cons_zero, List.set_cons_succ]
    refine wpAnyH_take (i := 23) (v := ?_) rfl (by kernel_rfl) (by kernel_rfl) (by kernel_rfl) (fun _ _ _ h => h) (Or.inl ⟨by rfl, ?_⟩) hHeld ?_
    rotate_left
    · (intro W hSw; (try dsimp only at hSw); go_simp; all_goals (with_reducible rfl))
    simp only [List.getElem_toArray, List.getElem_cons_zero, List.getElem_cons_succ, Act.put, List.setIfInBounds_toArray, List.set_cons_zero, List.set_cons_succ]
    refine wpAnyH_take (i := 26) (v := ?_) rfl (by kernel_rfl) (by kernel_rfl) (by kernel_rfl) (fun _ _ _ h => h) (Or.inl ⟨by rfl, ?_⟩) hHeld ?_
    rotate_left
    · (intro W hSw; (try dsimp only at hSw); go_simp; all_goals (with_reducible rfl))
    simp only [List.getElem_toArray, List.getElem_cons_zero, List.getElem_cons_succ, Act.put, List.setIfInBounds_toArray, List.set_cons_zero, List.set_cons_succ]
    refine wpAnyH_take (i := 27) (v := .int .i64 1) rfl (by kernel_rfl) (by kernel_rfl) (by kernel_rfl) (fun _ _ _ h => h) (Or.inl ⟨by rfl, ?_⟩) hHeld ?_
    · (intro W hSw; (try dsimp only at hSw); go_simp; all_goals (first | rfl | decide | simp))
    simp only [List.getElem_toArray, List.getElem_cons_zero, List.getElem_cons_succ, Act.put, List.setIfInBounds_toArray, List.set_cons_zero, List.set_cons_succ]
    refine wpAnyH_ready (rs := [22]) (by kernel_rfl) (by simp) ?_
    refine AllReadyH.cons rfl (fun K hK => ?_) AllReadyH.nil
    simp only [List.getElem_toArray, List.getElem_cons_zero, List.getElem_cons_succ]
    go_simp
    refine (wneg_any sx ax lx kx zx _ hx).mono ?_
    rintro e x12 ⟨tx, rfl, mx, nx, hb⟩
    replace Vx := Va.after hb Vx
    replace Vy := Va.after hb Vy
    replace Vd := Va.after hb Vd
    replace hx := It.after hb hx
    replace hy := It.after hb hy
    replace hd := It.after hb hd
    replace B0 := step B0 hb
    clear hb
    try go_wp2_with fail
    refine hK.out _ _ ⟨Vx.c0, Vx.c1, Vy.c0, Vy.c1⟩ (fun hHeld => ?_)
    clear hK K
    refine wpAnyH_ready (rs := [24]) (by kernel_rfl) (by simp) ?_
    refine AllReadyH.cons rfl (fun K hK => ?_) AllReadyH.nil
    simp only [List.getElem_toArray, List.getElem_cons_zero, List.getElem_cons_succ]
    go_simp
    refine (wneg_any sy ay ly ky zy _ hy).mono ?_
    rintro e x13 ⟨ty, rfl, my, ny, hb⟩
    replace Vx := Va.after hb Vx
    replace Vy := Va.after hb Vy
    replace Vd := Va.after hb Vd
    replace hx := It.after hb hx
    replace hy := It.after hb hy
    replace hd := It.after hb hd
    replace mx := It.after hb mx
    replace B0 := step B0 hb
    clear hb
    try go_wp2_with fail
    refine hK.out _ _ ⟨Vx.c0, Vx.c1, Vy.c0, Vy.c1⟩ (fun hHeld => ?_)
    clear hK K
    refine wpAnyH_ready (rs := [25]) (by kernel_rfl) (by simp) ?_
    refine AllReadyH.cons rfl (fun K hK => ?_) AllReadyH.nil
    simp only [List.getElem_toArray, List.getElem_cons_zero, List.getElem_cons_succ]
    go_simp
    refine (wcompare_any tx ty ax ay lx kx ly ky zx zy _ mx my).mono ?_
    rintro e x14 ⟨rfl, hb⟩
    replace Vx := Va.after hb Vx
    replace Vy := Va.after hb Vy
    replace Vd := Va.after hb Vd
    replace hx := It.after hb hx
    replace hy := It.after hb hy
    replace hd := It.after hb hd
    replace mx := It.after hb mx
    replace my := It.after hb my
    replace B0 := step B0 hb
    clear hb
    rw [nx, ny, Q3.out]
    try go_wp2_with fail
    refine hK.out _ _ ⟨Vx.c0, Vx.c1, Vy.c0, Vy.c1⟩ (fun hHeld => ?_)
    clear hK K
    refine wpAnyH_take (i := 28) (v := ?_) rfl (by kernel_rfl) (by kernel_rfl) (by kernel_rfl) (fun _ _ _ h => h) (Or.inl ⟨by rfl, ?_⟩) hHeld ?_
    rotate_left
    · (intro W hSw; (try dsimp only at hSw); go_simp; all_goals (with_reducible rfl))
    simp only [List.getElem_toArray, List.getElem_cons_zero, List.getElem_cons_succ, Act.put, List.setIfInBounds_toArray, List.set_cons_zero, List.set_cons_succ]
    refine wpAnyH_take (i := 29) (v := ?_) rfl (by kernel_rfl) (by kernel_rfl) (by kernel_rfl) (fun _ _ _ h => h) (Or.inl ⟨by rfl, ?_⟩) hHeld ?_
    rotate_left
    · (intro W hSw; (try dsimp only at hSw); go_simp; all_goals (with_reducible rfl))
    simp only [List.getElem_toArray, List.getElem_cons_zero, List.getElem_cons_succ, Act.put, List.setIfInBounds_toArray, List.set_cons_zero, List.set_cons_succ]
    refine wpAnyH_done (by kernel_rfl) ?_ _
    refine NoPanic.normal ?_
    clear hHeld
    clear mx my
    clear nx ny
    have c_Vx := Vx.c0
    have d_Vx := Vx.c1
    have f_Vx := Vx.frozen 0
    have g_Vx := Vx.frozen 1
    have l_Vx := Vx.lt
    have m_Vx := Nat.le_of_lt l_Vx
    have c_Vy := Vy.c0
    have d_Vy := Vy.c1
    have f_Vy := Vy.frozen 0
    have g_Vy := Vy.frozen 1
    have l_Vy := Vy.lt
    have m_Vy := Nat.le_of_lt l_Vy
    have c_Vd := Vd.c0
    have d_Vd := Vd.c1
    have f_Vd := Vd.frozen 0
    have g_Vd := Vd.frozen 1
    have l_Vd := Vd.lt
    have m_Vd := Nat.le_of_lt l_Vd
    go_wp2_with fail
    refine (wsign_any sd ad ld kd zd x14 hd).mono ?_
    rintro e x15 ⟨rfl, hb⟩
    replace Vx := Va.after hb Vx
    replace Vy := Va.after hb Vy
    replace Vd := Va.after hb Vd
    replace hx := It.after hb hx
    replace hy := It.after hb hy
    replace hd := It.after hb hd
    replace B0 := step B0 hb
    clear hb
    rw [HS.out]
    clear c_Vx d_Vx f_Vx g_Vx l_Vx m_Vx c_Vy d_Vy f_Vy g_Vy l_Vy m_Vy c_Vd d_Vd f_Vd g_Vd l_Vd m_Vd
    have c_Vx := Vx.c0
    have d_Vx := Vx.c1
    have f_Vx := Vx.frozen 0
    have g_Vx := Vx.frozen 1
    have l_Vx := Vx.lt
    have m_Vx := Nat.le_of_lt l_Vx
    have c_Vy := Vy.c0
    have d_Vy := Vy.c1
    have f_Vy := Vy.frozen 0
    have g_Vy := Vy.frozen 1
    have l_Vy := Vy.lt
    have m_Vy := Nat.le_of_lt l_Vy
    have c_Vd := Vd.c0
    have d_Vd := Vd.c1
    have f_Vd := Vd.frozen 0
    have g_Vd := Vd.frozen 1
    have l_Vd := Vd.lt
    have m_Vd := Nat.le_of_lt l_Vd
    go_wp2_with fail
    clear c_Vx d_Vx f_Vx g_Vx l_Vx m_Vx c_Vy d_Vy f_Vy g_Vy l_Vy m_Vy c_Vd d_Vd f_Vd g_Vd l_Vd m_Vd
    clear Vd hd
    clear HS
    have ⟨g1, g2⟩ := sign_range (iv sx zx)
    obtain ⟨q, hq'⟩ : ∃ q, Int.sign (iv sx zx) = q := ⟨_, rfl⟩
    rw [hq'] at g1 g2
    have hq : Hid (Int.sign (iv sx zx) = q) := hq'
    have ew : IntKind.i64.wrap (-q) = -q := by rw [IntKind.wrap_i64]; omega
    clear hq'
    refine wp_region_noPanic ?_
    replace Vx : Va x15.drew _ _ _ := Vx
    replace Vy : Va x15.drew _ _ _ := Vy
    replace hx : It x15.drew _ _ _ _ _ := hx
    replace hy : It x15.drew _ _ _ _ _ := hy
    replace B0 := Below.drew B0
    refine wp_region_held_drew (S := (fun W => W.cell? ⟨x2.heap.size, 0, none⟩ = some (.bool sx) ∧ W.cell? ⟨x2.heap.size, 1, none⟩ = some (.slice ax lx kx))) (by kernel_rfl) ⟨Vx.c0, Vx.c1⟩ (fun hHeld => ?_)
    obtain ⟨x16, hxd⟩ : ∃ xd, xd = x15.drew := ⟨_, rfl⟩
    rw [← hxd] at Vx Vy hx hy B0 hHeld ⊢
    clear hxd
    refine wpAnyH_take (i := 0) (v := ?_) rfl (by kernel_rfl) (by kernel_rfl) (by kernel_rfl) (fun _ _ _ h => h) (Or.inl ⟨by rfl, ?_⟩) hHeld ?_
    rotate_left
    · (intro W hSw; (try dsimp only at hSw); go_simp; all_goals (with_reducible rfl))
    simp only [List.getElem_toArray, List.getElem_cons_zero, Act.put, List.setIfInBounds_toArray, List.set_cons_zero, List.set_cons_succ]
    refine wpAnyH_take (i := 1) (v := ?_) rfl (by kernel_rfl) (by kernel_rfl) (by kernel_rfl) (fun _ _ _ h => h) (Or.inl ⟨by rfl, ?_⟩) hHeld ?_
    rotate_left
    · (intro W hSw; (try dsimp only at hSw); go_simp; all_goals (with_reducible rfl))
    simp only [List.getElem_toArray, List.getElem_cons_zero, List.getElem_cons_succ, Act.put, List.setIfInBounds_toArray, List.set_cons_zero, List.set_cons_succ]
    refine wpAnyH_take (i := 3) (v := ?_) rfl (by kernel_rfl) (by kernel_rfl) (by kernel_rfl) (fun _ _ _ h => h) (Or.inl ⟨by rfl, ?_⟩) hHeld ?_
    rotate_left
    · (intro W hSw; (try dsimp only at hSw); go_simp; all_goals (with_reducible rfl))
    simp only [List.getElem_toArray, List.getElem_cons_zero, List.getElem_cons_succ, Act.put, List.setIfInBounds_toArray, List.set_cons_zero, List.set_cons_succ]
    refine wpAnyH_ready (rs := [2]) (by kernel_rfl) (by simp) ?_
    refine AllReadyH.cons rfl (fun K hK => ?_) AllReadyH.nil
    simp only [List.getElem_toArray, List.getElem_cons_zero, List.getElem_cons_succ]
    go_simp
    refine (wcompare_any sx false ax none lx kx 0 0 zx [] _ hx (It.nil _)).mono ?_
    rintro e x17 ⟨rfl, hb⟩
    replace Vx := Va.after hb Vx
    replace Vy := Va.after hb Vy
    replace hx := It.after hb hx
    replace hy := It.after hb hy
    replace B0 := step B0 hb
    clear hb
    rw [iv_nil, cmp3_zero, hq.out]
    try go_wp2_with fail
    refine hK.out _ _ ⟨Vx.c0, Vx.c1⟩ (fun hHeld => ?_)
    clear hK K
    refine wpAnyH_ready (rs := [4]) (by kernel_rfl) (by simp) ?_
    refine AllReadyH.cons rfl (fun K hK => ?_) AllReadyH.nil
    simp only [List.getElem_toArray, List.getElem_cons_zero, List.getElem_cons_succ]
    go_simp
    refine (wsign_any sx ax lx kx zx _ hx).mono ?_
    rintro e x18 ⟨rfl, hb⟩
    replace Vx := Va.after hb Vx
    replace Vy := Va.after hb Vy
    replace hx := It.after hb hx
    replace hy := It.after hb hy
    replace B0 := step B0 hb
    clear hb
    rw [hq.out]
    try go_wp2_with fail
    refine hK.out _ _ ⟨Vx.c0, Vx.c1⟩ (fun hHeld => ?_)
    clear hK K
    refine wpAnyH_take (i := 5) (v := ?_) rfl (by kernel_rfl) (by kernel_rfl) (by kernel_rfl) (fun _ _ _ h => h) (Or.inl ⟨by rfl, ?_⟩) hHeld ?_
    rotate_left
    · (intro W hSw; (try dsimp only at hSw); go_simp; all_goals (with_reducible rfl))
    simp only [List.getElem_toArray, List.getElem_cons_zero, List.getElem_cons_succ, Act.put, List.setIfInBounds_toArray, List.set_cons_zero, List.set_cons_succ]
    refine wpAnyH_take (i := 6) (v := ?_) rfl (by kernel_rfl) (by kernel_rfl) (by kernel_rfl) (fun _ _ _ h => h) (Or.inl ⟨by rfl, ?_⟩) hHeld ?_
    rotate_left
    · (intro W hSw; (try dsimp only at hSw); go_simp; all_goals (with_reducible rfl))
    simp only [List.getElem_toArray, List.getElem_cons_zero, List.getElem_cons_succ, Act.put, List.setIfInBounds_toArray, List.set_cons_zero, List.set_cons_succ]
    refine wpAnyH_take (i := 7) (v := ?_) rfl (by kernel_rfl) (by kernel_rfl) (by kernel_rfl) (fun _ _ _ h => h) (Or.inl ⟨by rfl, ?_⟩) hHeld ?_
    rotate_left
    · (intro W hSw; (try dsimp only at hSw); go_simp; all_goals (with_reducible rfl))
    simp only [List.getElem_toArray, List.getElem_cons_zero, List.getElem_cons_succ, Act.put, List.setIfInBounds_toArray, List.set_cons_zero, List.set_cons_succ]
    refine wpAnyH_take (i := 10) (v := ?_) rfl (by kernel_rfl) (by kernel_rfl) (by kernel_rfl) (fun _ _ _ h => h) (Or.inl ⟨by rfl, ?_⟩) hHeld ?_
    rotate_left
    · (intro W hSw; (try dsimp only at hSw); go_simp; all_goals (with_reducible rfl))
    simp only [List.getElem_toArray, List.getElem_cons_zero, List.getElem_cons_succ, Act.put, List.setIfInBounds_toArray, List.set_cons_zero, List.set_cons_succ]
    refine wpAnyH_ready (rs := [8]) (by kernel_rfl) (by simp) ?_
    refine AllReadyH.cons rfl (fun K hK => ?_) AllReadyH.nil
    simp only [List.getElem_toArray, List.getElem_cons_zero, List.getElem_cons_succ]
    go_simp
    refine (wneg_any sx ax lx kx zx _ hx).mono ?_
    rintro e x19 ⟨tx, rfl, mx, nx, hb⟩
    replace Vx := Va.after hb Vx
    replace Vy := Va.after hb Vy
    replace hx := It.after hb hx
    replace hy := It.after hb hy
    replace B0 := step B0 hb
    clear hb
    try go_wp2_with fail
    refine hK.out _ _ ⟨Vx.c0, Vx.c1⟩ (fun hHeld => ?_)
    clear hK K
    refine wpAnyH_ready (rs := [9]) (by kernel_rfl) (by simp) ?_
    refine AllReadyH.cons rfl (fun K hK => ?_) AllReadyH.nil
    simp only [List.getElem_toArray, List.getElem_cons_zero, List.getElem_cons_succ]
    go_simp
    refine (wsign_any tx ax lx kx zx _ mx).mono ?_
    rintro e x20 ⟨rfl, hb⟩
    replace Vx := Va.after hb Vx
    replace Vy := Va.after hb Vy
    replace hx := It.after hb hx
    replace hy := It.after hb hy
    replace mx := It.after hb mx
    replace B0 := step B0 hb
    clear hb
    rw [nx, Int.sign_neg, hq.out]
    try go_wp2_with fail
    refine hK.out _ _ ⟨Vx.c0, Vx.c1⟩ (fun hHeld => ?_)
    clear hK K
    refine wpAnyH_ready (rs := [11]) (by kernel_rfl) (by simp) ?_
    refine AllReadyH.cons rfl (fun K hK => ?_) AllReadyH.nil
    simp only [List.getElem_toArray, List.getElem_cons_zero, List.getElem_cons_succ]
    go_simp
    refine (wsign_any sx ax lx kx zx _ hx).mono ?_
    rintro e x21 ⟨rfl, hb⟩
    replace Vx := Va.after hb Vx
    replace Vy := Va.after hb Vy
    replace hx := It.after hb hx
    replace hy := It.after hb hy
    replace mx := It.after hb mx
    replace B0 := step B0 hb
    clear hb
    rw [hq.out]
    try go_wp2_with fail
    refine hK.out _ _ ⟨Vx.c0, Vx.c1⟩ (fun hHeld => ?_)
    clear hK K
    refine wpAnyH_take (i := 12) (v := .int .i64 (-q)) rfl (by kernel_rfl) (by kernel_rfl) (by kernel_rfl) (fun _ _ _ h => h) (Or.inl ⟨by rfl, ?_⟩) hHeld ?_
    · (intro W hSw; (try dsimp only at hSw); go_simp; all_goals (first | rfl | rw [ew] | simp [ew]))
    simp only [List.getElem_toArray, List.getElem_cons_zero, List.getElem_cons_succ, Act.put, List.setIfInBounds_toArray, List.set_cons_zero, List.set_cons_succ]
    clear mx
    clear nx
    refine wpAnyH_take (i := 13) (v := ?_) rfl (by kernel_rfl) (by kernel_rfl) (by kernel_rfl) (fun _ _ _ h => h) (Or.inl ⟨by rfl, ?_⟩) hHeld ?_
    rotate_left
    · (intro W hSw; (try dsimp only at hSw); go_simp; all_goals (with_reducible rfl))
    simp only [List.getElem_toArray, List.getElem_cons_zero, List.getElem_cons_succ, Act.put, List.setIfInBounds_toArray, List.set_cons_zero, List.set_cons_succ]
    refine wpAnyH_take (i := 14) (v := ?_) rfl (by kernel_rfl) (by kernel_rfl) (by kernel_rfl) (fun _ _ _ h => h) (Or.inl ⟨by rfl, ?_⟩) hHeld ?_
    rotate_left
    · (intro W hSw; (try dsimp only at hSw); go_simp; all_goals (with_reducible rfl))
    simp only [List.getElem_toArray, List.getElem_cons_zero, List.getElem_cons_succ, Act.put, List.setIfInBounds_toArray, List.set_cons_zero, List.set_cons_succ]
    refine wpAnyH_take (i := 15) (v := ?_) rfl (by kernel_rfl) (by kernel_rfl) (by kernel_rfl) (fun _ _ _ h => h) (Or.inl ⟨by rfl, ?_⟩) hHeld ?_
    rotate_left
    · (intro W hSw; (try dsimp only at hSw); go_simp; all_goals (with_reducible rfl))
    simp only [List.getElem_toArray, List.getElem_cons_zero, List.getElem_cons_succ, Act.put, List.setIfInBounds_toArray, List.set_cons_zero, List.set_cons_succ]
    refine wpAnyH_take (i := 16) (v := ?_) rfl (by kernel_rfl) (by kernel_rfl) (by kernel_rfl) (fun _ _ _ h => h) (Or.inl ⟨by rfl, ?_⟩) hHeld ?_
    rotate_left
    · (intro W hSw; (try dsimp only at hSw); go_simp; all_goals (with_reducible rfl))
    simp only [List.getElem_toArray, List.getElem_cons_zero, List.getElem_cons_succ, Act.put, List.setIfInBounds_toArray, List.set_cons_zero, List.set_cons_succ]
    refine wpAnyH_take (i := 19) (v := ?_) rfl (by kernel_rfl) (by kernel_rfl) (by kernel_rfl) (fun _ _ _ h => h) (Or.inl ⟨by rfl, ?_⟩) hHeld ?_
    rotate_left
    · (intro W hSw; (try dsimp only at hSw); go_simp; all_goals (with_reducible rfl))
    simp only [List.getElem_toArray, List.getElem_cons_zero, List.getElem_cons_succ, Act.put, List.setIfInBounds_toArray, List.set_cons_zero, List.set_cons_succ]
    refine wpAnyH_ready (rs := [17]) (by kernel_rfl) (by simp) ?_
    refine AllReadyH.cons rfl (fun K hK => ?_) AllReadyH.nil
    simp only [List.getElem_toArray, List.getElem_cons_zero, List.getElem_cons_succ]
    go_simp
    refine (wneg_any sx ax lx kx zx _ hx).mono ?_
    rintro e x22 ⟨tx, rfl, mx, nx, hb⟩
    replace Vx := Va.after hb Vx
    replace Vy := Va.after hb Vy
    replace hx := It.after hb hx
    replace hy := It.after hb hy
    replace B0 := step B0 hb
    clear hb
    try go_wp2_with fail
    refine hK.out _ _ ⟨Vx.c0, Vx.c1⟩ (fun hHeld => ?_)
    clear hK K
    refine wpAnyH_ready (rs := [18]) (by kernel_rfl) (by simp) ?_
    refine AllReadyH.cons rfl (fun K hK => ?_) AllReadyH.nil
    simp only [List.getElem_toArray, List.getElem_cons_zero, List.getElem_cons_succ]
    go_simp
    refine (wneg_any tx ax lx kx zx _ mx).mono ?_
    rintro e x23 ⟨ux, rfl, ox, px, hb⟩
    replace Vx := Va.after hb Vx
    replace Vy := Va.after hb Vy
    replace hx := It.after hb hx
    replace hy := It.after hb hy
    replace mx := It.after hb mx
    replace B0 := step B0 hb
    clear hb
    try go_wp2_with fail
    refine hK.out _ _ ⟨Vx.c0, Vx.c1⟩ (fun hHeld => ?_)
    clear hK K
    refine wpAnyH_ready (rs := [20]) (by kernel_rfl) (by simp) ?_
    refine AllReadyH.cons rfl (fun K hK => ?_) AllReadyH.nil
    simp only [List.getElem_toArray, List.getElem_cons_zero, List.getElem_cons_succ]
    go_simp
    refine (wsame_ok ux sx ax ax lx kx lx kx zx zx _ ox hx (by rw [px, nx]; omega)).mono ?_
    rintro e x24 ⟨rfl, hb⟩
    replace Vx := Va.after hb Vx
    replace Vy := Va.after hb Vy
    replace hx := It.after hb hx
    replace hy := It.after hb hy
    replace mx := It.after hb mx
    replace ox := It.after hb ox
    replace B0 := step B0 hb
    clear hb
    try go_wp2_with fail
    refine hK.out _ _ ⟨Vx.c0, Vx.c1⟩ (fun hHeld => ?_)
    clear hK K
    clear mx ox
    clear nx px ew g1 g2 hq
    refine wpAnyH_take (i := 21) (v := ?_) rfl (by kernel_rfl) (by kernel_rfl) (by kernel_rfl) (fun _ _ _ h => h) (Or.inl ⟨by rfl, ?_⟩) hHeld ?_
    rotate_left
    · (intro W hSw; (try dsimp only at hSw); go_simp; all_goals (with_reducible rfl))
    simp only [List.getElem_toArray, List.getElem_cons_zero, List.getElem_cons_succ, Act.put, List.setIfInBounds_toArray, List.set_cons_zero, List.set_cons_succ]
    refine wpAnyH_take (i := 22) (v := ?_) rfl (by kernel_rfl) (by kernel_rfl) (by kernel_rfl) (fun _ _ _ h => h) (Or.inl ⟨by rfl, ?_⟩) hHeld ?_
    rotate_left
    · (intro W hSw; (try dsimp only at hSw); go_simp; all_goals (with_reducible rfl))
    simp only [List.getElem_toArray, List.getElem_cons_zero, List.getElem_cons_succ, Act.put, List.setIfInBounds_toArray, List.set_cons_zero, List.set_cons_succ]
    refine wpAnyH_done (by kernel_rfl) ?_ _
    refine NoPanic.normal ?_
    clear hHeld
    have c_Vx := Vx.c0
    have d_Vx := Vx.c1
    have f_Vx := Vx.frozen 0
    have g_Vx := Vx.frozen 1
    have l_Vx := Vx.lt
    have m_Vx := Nat.le_of_lt l_Vx
    have c_Vy := Vy.c0
    have d_Vy := Vy.c1
    have f_Vy := Vy.frozen 0
    have g_Vy := Vy.frozen 1
    have l_Vy := Vy.lt
    have m_Vy := Nat.le_of_lt l_Vy
    go_wp2_with fail
    refine (int64_any sx ax lx kx zx x24 hx).mono ?_
    rintro e x25 ⟨vx, fx, rfl, gx, hb⟩
    replace Vx := Va.after hb Vx
    replace Vy := Va.after hb Vy
    replace hx := It.after hb hx
    replace hy := It.after hb hy
    replace B0 := step B0 hb
    clear hb
    clear c_Vx d_Vx f_Vx g_Vx l_Vx m_Vx c_Vy d_Vy f_Vy g_Vy l_Vy m_Vy
    have c_Vx := Vx.c0
    have d_Vx := Vx.c1
    have f_Vx := Vx.frozen 0
    have g_Vx := Vx.frozen 1
    have l_Vx := Vx.lt
    have m_Vx := Nat.le_of_lt l_Vx
    have c_Vy := Vy.c0
    have d_Vy := Vy.c1
    have f_Vy := Vy.frozen 0
    have g_Vy := Vy.frozen 1
    have l_Vy := Vy.lt
    have m_Vy := Nat.le_of_lt l_Vy
    go_wp2_with fail
    refine (int64_any sy ay ly ky zy x25 hy).mono ?_
    rintro e x26 ⟨vy, fy, rfl, gy, hb⟩
    replace Vx := Va.after hb Vx
    replace Vy := Va.after hb Vy
    replace hx := It.after hb hx
    replace hy := It.after hb hy
    replace B0 := step B0 hb
    clear hb
    clear c_Vx d_Vx f_Vx g_Vx l_Vx m_Vx c_Vy d_Vy f_Vy g_Vy l_Vy m_Vy
    have c_Vx := Vx.c0
    have d_Vx := Vx.c1
    have f_Vx := Vx.frozen 0
    have g_Vx := Vx.frozen 1
    have l_Vx := Vx.lt
    have m_Vx := Nat.le_of_lt l_Vx
    have c_Vy := Vy.c0
    have d_Vy := Vy.c1
    have f_Vy := Vy.frozen 0
    have g_Vy := Vy.frozen 1
    have l_Vy := Vy.lt
    have m_Vy := Nat.le_of_lt l_Vy
    go_wp2_with fail
    clear c_Vx d_Vx f_Vx g_Vx l_Vx m_Vx c_Vy d_Vy f_Vy g_Vy l_Vy m_Vy
    have HV : Hid (fx = 5 ∨ fy = 5 ∨ (fx = 0 ∧ fy = 0 ∧ vx < vy)) := by
      have h5 := HC.out
      rcases gx.out with ⟨h6, h7⟩ | h6 <;> rcases gy.out with ⟨h8, h9⟩ | h8
      · exact Or.inr (Or.inr ⟨h6, h8, by omega⟩)
      · exact Or.inr (Or.inl h8)
      · exact Or.inl h6
      · exact Or.inl h6
    clear gx gy
    refine (awake4_any x26).mono ?_
    rintro e x27 ⟨rfl, hb⟩
    replace Vx := Va.after hb Vx
    replace Vy := Va.after hb Vy
    replace hx := It.after hb hx
    replace hy := It.after hb hy
    replace B0 := step B0 hb
    clear hb
    by_cases e1 : fx = 0
    · subst e1
      by_cases e2 : fy = 0
      · subst e2
        have hv : vx < vy := by rcases HV.out with h | h | h <;> omega
        have hv2 : (vx == vy) = false := by simp; omega
        go_wp2_with fail
        go_ret
        exact ⟨rfl, B0⟩
      · have e3 : (fy != 0) = true := by simpa using e2
        go_wp2_with fail
        go_ret
        exact ⟨rfl, B0⟩
    · have e3 : (fx != 0) = true := by simpa using e1
      go_wp2_with fail
      go_ret
      exact ⟨rfl, B0⟩
  ·
    have long : Hid (pw 4096 ≤ ((iv sx zx - iv sy zy).natAbs : Int)) := Int.not_lt.1 fit
    have HS : Hid (Int.sign (iv sx zx) = (-1)) := by
      obtain ⟨h5, h6⟩ := HP.out _ rfl
      exact long_lt h5 h6 HC.out long.out
    refine (wsub_long sx sy ax ay lx kx ly ky zx zy x6 hx hy long).mono ?_
    rintro e x7 ⟨rfl, hb⟩
    replace Vx := Va.after hb Vx
    replace Vy := Va.after hb Vy
    replace hx := It.after hb hx
    replace hy := It.after hb hy
    replace B0 := step B0 hb
    clear hb
    clear long fit
    clear c_Vx d_Vx f_Vx g_Vx l_Vx m_Vx c_Vy d_Vy f_Vy g_Vy l_Vy m_Vy
    have c_Vx := Vx.c0
    have d_Vx := Vx.c1
    have f_Vx := Vx.frozen 0
    have g_Vx := Vx.frozen 1
    have l_Vx := Vx.lt
    have m_Vx := Nat.le_of_lt l_Vx
    have c_Vy := Vy.c0
    have d_Vy := Vy.c1
    have f_Vy := Vy.frozen 0
    have g_Vy := Vy.frozen 1
    have l_Vy := Vy.lt
    have m_Vy := Nat.le_of_lt l_Vy
    go_wp2_with fail
    refine ent1 x7 _ _ (Q := fun W => Code.wp Try.prog _ _ _ W) ?_
    intro x8 hb hs_x8 Vd
    replace Vx := Va.after hb Vx
    replace Vy := Va.after hb Vy
    replace hx := It.after hb hx
    replace hy := It.after hb hy
    replace B0 := step B0 hb
    clear hb hs_x8
    clear HP
    clear c_Vx d_Vx f_Vx g_Vx l_Vx m_Vx c_Vy d_Vy f_Vy g_Vy l_Vy m_Vy
    refine wp_region_noPanic ?_
    replace Vx : Va x8.drew _ _ _ := Vx
    replace Vy : Va x8.drew _ _ _ := Vy
    replace Vd : Va x8.drew _ _ _ := Vd
    replace hx : It x8.drew _ _ _ _ _ := hx
    replace hy : It x8.drew _ _ _ _ _ := hy
    replace B0 := Below.drew B0
    refine wp_region_held_drew (S := (fun W => W.cell? ⟨x2.heap.size, 0, none⟩ = some (.bool sx) ∧ W.cell? ⟨x2.heap.size, 1, none⟩ = some (.slice ax lx kx) ∧ W.cell? ⟨x4.heap.size, 0, none⟩ = some (.bool sy) ∧ W.cell? ⟨x4.heap.size, 1, none⟩ = some (.slice ay ly ky))) (by kernel_rfl) ⟨Vx.c0, Vx.c1, Vy.c0, Vy.c1⟩ (fun hHeld => ?_)
    obtain ⟨x9, hxd⟩ : ∃ xd, xd = x8.drew := ⟨_, rfl⟩
    rw [← hxd] at Vx Vy Vd hx hy B0 hHeld ⊢
    clear hxd
    refine wpAnyH_take (i := 0) (v := ?_) rfl (by kernel_rfl) (by kernel_rfl) (by kernel_rfl) (fun _ _ _ h => h) (Or.inl ⟨by rfl, ?_⟩) hHeld ?_
    rotate_left
    · (intro W hSw; (try dsimp only at hSw); go_simp; all_goals (with_reducible rfl))
    simp only [List.getElem_toArray, List.getElem_cons_zero, Act.put, List.setIfInBounds_toArray, List.set_cons_zero, List.set_cons_succ]
    refine wpAnyH_take (i := 1) (v := ?_) rfl (by kernel_rfl) (by kernel_rfl) (by kernel_rfl) (fun _ _ _ h => h) (Or.inl ⟨by rfl, ?_⟩) hHeld ?_
    rotate_left
    · (intro W hSw; (try dsimp only at hSw); go_simp; all_goals (with_reducible rfl))
    simp only [List.getElem_toArray, List.getElem_cons_zero, List.getElem_cons_succ, Act.put, List.setIfInBounds_toArray, List.set_cons_zero, List.set_cons_succ]
    refine wpAnyH_take (i := 2) (v := ?_) rfl (by kernel_rfl) (by kernel_rfl) (by kernel_rfl) (fun _ _ _ h => h) (Or.inl ⟨by rfl, ?_⟩) hHeld ?_
    rotate_left
    · (intro W hSw; (try dsimp only at hSw); go_simp; all_goals (with_reducible rfl))
    simp only [List.getElem_toArray, List.getElem_cons_zero, List.getElem_cons_succ, Act.put, List.setIfInBounds_toArray, List.set_cons_zero, List.set_cons_succ]
    refine wpAnyH_take (i := 3) (v := ?_) rfl (by kernel_rfl) (by kernel_rfl) (by kernel_rfl) (fun _ _ _ h => h) (Or.inl ⟨by rfl, ?_⟩) hHeld ?_
    rotate_left
    · (intro W hSw; (try dsimp only at hSw); go_simp; all_goals (with_reducible rfl))
    simp only [List.getElem_toArray, List.getElem_cons_zero, List.getElem_cons_succ, Act.put, List.setIfInBounds_toArray, List.set_cons_zero, List.set_cons_succ]
    refine wpAnyH_take (i := 4) (v := ?_) rfl (by kernel_rfl) (by kernel_rfl) (by kernel_rfl) (fun _ _ _ h => h) (Or.inl ⟨by rfl, ?_⟩) hHeld ?_
    rotate_left
    · (intro W hSw; (try dsimp only at hSw); go_simp; all_goals (with_reducible rfl))
    simp only [List.getElem_toArray, List.getElem_cons_zero, List.getElem_cons_succ, Act.put, List.setIfInBounds_toArray, List.set_cons_zero, List.set_cons_succ]
    refine wpAnyH_take (i := 5) (v := ?_) rfl (by kernel_rfl) (by kernel_rfl) (by kernel_rfl) (fun _ _ _ h => h) (Or.inl ⟨by rfl, ?_⟩) hHeld ?_
    rotate_left
    · (intro W hSw; (try dsimp only at hSw); go_simp; all_goals (with_reducible rfl))
    simp only [List.getElem_toArray, List.getElem_cons_zero, List.getElem_cons_succ, Act.put, List.setIfInBounds_toArray, List.set_cons_zero, List.set_cons_succ]
    refine wpAnyH_take (i := 6) (v := ?_) rfl (by kernel_rfl) (by kernel_rfl) (by kernel_rfl) (fun _ _ _ h => h) (Or.inl ⟨by rfl, ?_⟩) hHeld ?_
    rotate_left
    · (intro W hSw; (try dsimp only at hSw); go_simp; all_goals (with_reducible rfl))
    simp only [List.getElem_toArray, List.getElem_cons_zero, List.getElem_cons_succ, Act.put, List.setIfInBounds_toArray, List.set_cons_zero, List.set_cons_succ]
    refine wpAnyH_take (i := 7) (v := ?_) rfl (by kernel_rfl) (by kernel_rfl) (by kernel_rfl) (fun _ _ _ h => h) (Or.inl ⟨by rfl, ?_⟩) hHeld ?_
    rotate_left
    · (intro W hSw; (try dsimp only at hSw); go_simp; all_goals (with_reducible rfl))
    simp only [List.getElem_toArray, List.getElem_cons_zero, List.getElem_cons_succ, Act.put, List.setIfInBounds_toArray, List.set_cons_zero, List.set_cons_succ]
    refine wpAnyH_take (i := 8) (v := ?_) rfl (by kernel_rfl) (by kernel_rfl) (by kernel_rfl) (fun _ _ _ h => h) (Or.inl ⟨by rfl, ?_⟩) hHeld ?_
    rotate_left
    · (intro W hSw; (try dsimp only at hSw); go_simp; all_goals (with_reducible rfl))
    simp only [List.getElem_toArray, List.getElem_cons_zero, List.getElem_cons_succ, Act.put, List.setIfInBounds_toArray, List.set_cons_zero, List.set_cons_succ]
    refine wpAnyH_take (i := 10) (v := ?_) rfl (by kernel_rfl) (by kernel_rfl) (by kernel_rfl) (fun _ _ _ h => h) (Or.inl ⟨by rfl, ?_⟩) hHeld ?_
    rotate_left
    · (intro W hSw; (try dsimp only at hSw); go_simp; all_goals (with_reducible rfl))
    simp only [List.getElem_toArray, List.getElem_cons_zero, List.getElem_cons_succ, Act.put, List.setIfInBounds_toArray, List.set_cons_zero, List.set_cons_succ]
    refine wpAnyH_take (i := 11) (v := .int .i64 1) rfl (by kernel_rfl) (by kernel_rfl) (by kernel_rfl) (fun _ _ _ h => h) (Or.inl ⟨by rfl, ?_⟩) hHeld ?_
    · (intro W hSw; (try dsimp only at hSw); go_simp; all_goals (first | rfl | decide | simp))
    simp only [List.getElem_toArray, List.getElem_cons_zero, List.getElem_cons_succ, Act.put, List.setIfInBounds_toArray, List.set_cons_zero, List.set_cons_succ]
    refine wpAnyH_ready (rs := [9]) (by kernel_rfl) (by simp) ?_
    refine AllReadyH.cons rfl (fun K hK => ?_) AllReadyH.nil
    simp only [List.getElem_toArray, List.getElem_cons_zero, List.getElem_cons_succ]
    go_simp
    refine (wcompare_any sy sx ay ax ly ky lx kx zy zx _ hy hx).mono ?_
    rintro e x10 ⟨rfl, hb⟩
    replace Vx := Va.after hb Vx
    replace Vy := Va.after hb Vy
    replace Vd := Va.after hb Vd
    replace hx := It.after hb hx
    replace hy := It.after hb hy
    replace B0 := step B0 hb
    clear hb
    rw [Q2.out]
    try go_wp2_with fail
    refine hK.out _ _ ⟨Vx.c0, Vx.c1, Vy.c0, Vy.c1⟩ (fun hHeld => ?_)
    clear hK K
    refine wpAnyH_take (i := 12) (v := ?_) rfl (by kernel_rfl) (by kernel_rfl) (by kernel_rfl) (fun _ _ _ h => h) (Or.inl ⟨by rfl, ?_⟩) hHeld ?_
    rotate_left
    · (intro W hSw; (try dsimp only at hSw); go_simp; all_goals (with_reducible rfl))
    simp only [List.getElem_toArray, List.getElem_cons_zero, List.getElem_cons_succ, Act.put, List.setIfInBounds_toArray, List.set_cons_zero, List.set_cons_succ]
    refine wpAnyH_take (i := 13) (v := ?_) rfl (by kernel_rfl) (by kernel_rfl) (by kernel_rfl) (fun _ _ _ h => h) (Or.inl ⟨by rfl, ?_⟩) hHeld ?_
    rotate_left
    · (intro W hSw; (try dsimp only at hSw); go_simp; all_goals (with_reducible rfl))
    simp only [List.getElem_toArray, List.getElem_cons_zero, List.getElem_cons_succ, Act.put, List.setIfInBounds_toArray, List.set_cons_zero, List.set_cons_succ]
    refine wpAnyH_take (i := 14) (v := ?_) rfl (by kernel_rfl) (by kernel_rfl) (by kernel_rfl) (fun _ _ _ h => h) (Or.inl ⟨by rfl, ?_⟩) hHeld ?_
    rotate_left
    · (intro W hSw; (try dsimp only at hSw); go_simp; all_goals (with_reducible rfl))
    simp only [List.getElem_toArray, List.getElem_cons_zero, List.getElem_cons_succ, Act.put, List.setIfInBounds_toArray, List.set_cons_zero, List.set_cons_succ]
    refine wpAnyH_take (i := 15) (v := ?_) rfl (by kernel_rfl) (by kernel_rfl) (by kernel_rfl) (fun _ _ _ h => h) (Or.inl ⟨by rfl, ?_⟩) hHeld ?_
    rotate_left
    · (intro W hSw; (try dsimp only at hSw); go_simp; all_goals (with_reducible rfl))
    simp only [List.getElem_toArray, List.getElem_cons_zero, List.getElem_cons_succ, Act.put, List.setIfInBounds_toArray, List.set_cons_zero, List.set_cons_succ]
    refine wpAnyH_take (i := 16) (v := ?_) rfl (by kernel_rfl) (by kernel_rfl) (by kernel_rfl) (fun _ _ _ h => h) (Or.inl ⟨by rfl, ?_⟩) hHeld ?_
    rotate_left
    · (intro W hSw; (try dsimp only at hSw); go_simp; all_goals (with_reducible rfl))
    simp only [List.getElem_toArray, List.getElem_cons_zero, List.getElem_cons_succ, Act.put, List.setIfInBounds_toArray, List.set_cons_zero, List.set_cons_succ]
    refine wpAnyH_ready (rs := [17]) (by kernel_rfl) (by simp) ?_
    refine AllReadyH.cons rfl (fun K hK => ?_) AllReadyH.nil
    simp only [List.getElem_toArray, List.getElem_cons_zero, List.getElem_cons_succ]
    go_simp
    refine (wcompare_any sx sx ax ax lx kx lx kx zx zx _ hx hx).mono ?_
    rintro e x11 ⟨rfl, hb⟩
    replace Vx := Va.after hb Vx
    replace Vy := Va.after hb Vy
    replace Vd := Va.after hb Vd
    replace hx := It.after hb hx
    replace hy := It.after hb hy
    replace B0 := step B0 hb
    clear hb
    rw [cmp3_eq rfl]
    try go_wp2_with fail
    refine hK.out _ _ ⟨Vx.c0, Vx.c1, Vy.c0, Vy.c1⟩ (fun hHeld => ?_)
    clear hK K
    refine wpAnyH_take (i := 18) (v := ?_) rfl (by kernel_rfl) (by kernel_rfl) (by kernel_rfl) (fun _ _ _ h => h) (Or.inl ⟨by rfl, ?_⟩) hHeld ?_
    rotate_left
    · (intro W hSw; (try dsimp only at hSw); go_simp; all_goals (with_reducible rfl))
    simp only [List.getElem_toArray, List.getElem_cons_zero, List.getElem_cons_succ, Act.put, List.setIfInBounds_toArray, List.set_cons_zero, List.set_cons_succ]
    refine wpAnyH_take (i := 19) (v := ?_) rfl (by kernel_rfl) (by kernel_rfl) (by kernel_rfl) (fun _ _ _ h => h) (Or.inl ⟨by rfl, ?_⟩) hHeld ?_
    rotate_left
    · (intro W hSw; (try dsimp only at hSw); go_simp; all_goals (with_reducible rfl))
    simp only [List.getElem_toArray, List.getElem_cons_zero, List.getElem_cons_succ, Act.put, List.setIfInBounds_toArray, List.set_cons_zero, List.set_cons_succ]
    refine wpAnyH_take (i := 20) (v := ?_) rfl (by kernel_rfl) (by kernel_rfl) (by kernel_rfl) (fun _ _ _ h => h) (Or.inl ⟨by rfl, ?_⟩) hHeld ?_
    rotate_left
    · (intro W hSw; (try dsimp only at hSw); go_simp; all_goals (with_reducible rfl))
    simp only [List.getElem_toArray, List.getElem_cons_zero, List.getElem_cons_succ, Act.put, List.setIfInBounds_toArray, List.set_cons_zero, List.set_cons_succ]
    refine wpAnyH_take (i := 21) (v := ?_) rfl (by kernel_rfl) (by kernel_rfl) (by kernel_rfl) (fun _ _ _ h => h) (Or.inl ⟨by rfl, ?_⟩) hHeld ?_
    rotate_left
    · (intro W hSw; (try dsimp only at hSw); go_simp; all_goals (with_reducible rfl))
    simp only [List.getElem_toArray, List.getElem_cons_zero, List.getElem_cons_succ, Act.put, List.setIfInBounds_toArray, List.set_cons_zero, List.set_cons_succ]
    refine wpAnyH_take (i := 23) (v := ?_) rfl (by kernel_rfl) (by kernel_rfl) (by kernel_rfl) (fun _ _ _ h => h) (Or.inl ⟨by rfl, ?_⟩) hHeld ?_
    rotate_left
    · (intro W hSw; (try dsimp only at hSw); go_simp; all_goals (with_reducible rfl))
    simp only [List.getElem_toArray, List.getElem_cons_zero, List.getElem_cons_succ, Act.put, List.setIfInBounds_toArray, List.set_cons_zero, List.set_cons_succ]
    refine wpAnyH_take (i := 26) (v := ?_) rfl (by kernel_rfl) (by kernel_rfl) (by kernel_rfl) (fun _ _ _ h => h) (Or.inl ⟨by rfl, ?_⟩) hHeld ?_
    rotate_left
    · (intro W hSw; (try dsimp only at hSw); go_simp; all_goals (with_reducible rfl))
    simp only [List.getElem_toArray, List.getElem_cons_zero, List.getElem_cons_succ, Act.put, List.setIfInBounds_toArray, List.set_cons_zero, List.set_cons_succ]
    refine wpAnyH_take (i := 27) (v := .int .i64 1) rfl (by kernel_rfl) (by kernel_rfl) (by kernel_rfl) (fun _ _ _ h => h) (Or.inl ⟨by rfl, ?_⟩) hHeld ?_
    · (intro W hSw; (try dsimp only at hSw); go_simp; all_goals (first | rfl | decide | simp))
    simp only [List.getElem_toArray, List.getElem_cons_zero, List.getElem_cons_succ, Act.put, List.setIfInBounds_toArray, List.set_cons_zero, List.set_cons_succ]
    refine wpAnyH_ready (rs := [22]) (by kernel_rfl) (by simp) ?_
    refine AllReadyH.cons rfl (fun K hK => ?_) AllReadyH.nil
    simp only [List.getElem_toArray, List.getElem_cons_zero, List.getElem_cons_succ]
    go_simp
    refine (wneg_any sx ax lx kx zx _ hx).mono ?_
    rintro e x12 ⟨tx, rfl, mx, nx, hb⟩
    replace Vx := Va.after hb Vx
    replace Vy := Va.after hb Vy
    replace Vd := Va.after hb Vd
    replace hx := It.after hb hx
    replace hy := It.after hb hy
    replace B0 := step B0 hb
    clear hb
    try go_wp2_with fail
    refine hK.out _ _ ⟨Vx.c0, Vx.c1, Vy.c0, Vy.c1⟩ (fun hHeld => ?_)
    clear hK K
    refine wpAnyH_ready (rs := [24]) (by kernel_rfl) (by simp) ?_
    refine AllReadyH.cons rfl (fun K hK => ?_) AllReadyH.nil
    simp only [List.getElem_toArray, List.getElem_cons_zero, List.getElem_cons_succ]
    go_simp
    refine (wneg_any sy ay ly ky zy _ hy).mono ?_
    rintro e x13 ⟨ty, rfl, my, ny, hb⟩
    replace Vx := Va.after hb Vx
    replace Vy := Va.after hb Vy
    replace Vd := Va.after hb Vd
    replace hx := It.after hb hx
    replace hy := It.after hb hy
    replace mx := It.after hb mx
    replace B0 := step B0 hb
    clear hb
    try go_wp2_with fail
    refine hK.out _ _ ⟨Vx.c0, Vx.c1, Vy.c0, Vy.c1⟩ (fun hHeld => ?_)
    clear hK K
    refine wpAnyH_ready (rs := [25]) (by kernel_rfl) (by simp) ?_
    refine AllReadyH.cons rfl (fun K hK => ?_) AllReadyH.nil
    simp only [List.getElem_toArray, List.getElem_cons_zero, List.getElem_cons_succ]
    go_simp
    refine (wcompare_any tx ty ax ay lx kx ly ky zx zy _ mx my).mono ?_
    rintro e x14 ⟨rfl, hb⟩
    replace Vx := Va.after hb Vx
    replace Vy := Va.after hb Vy
    replace Vd := Va.after hb Vd
    replace hx := It.after hb hx
    replace hy := It.after hb hy
    replace mx := It.after hb mx
    replace my := It.after hb my
    replace B0 := step B0 hb
    clear hb
    rw [nx, ny, Q3.out]
    try go_wp2_with fail
    refine hK.out _ _ ⟨Vx.c0, Vx.c1, Vy.c0, Vy.c1⟩ (fun hHeld => ?_)
    clear hK K
    refine wpAnyH_take (i := 28) (v := ?_) rfl (by kernel_rfl) (by kernel_rfl) (by kernel_rfl) (fun _ _ _ h => h) (Or.inl ⟨by rfl, ?_⟩) hHeld ?_
    rotate_left
    · (intro W hSw; (try dsimp only at hSw); go_simp; all_goals (with_reducible rfl))
    simp only [List.getElem_toArray, List.getElem_cons_zero, List.getElem_cons_succ, Act.put, List.setIfInBounds_toArray, List.set_cons_zero, List.set_cons_succ]
    refine wpAnyH_take (i := 29) (v := ?_) rfl (by kernel_rfl) (by kernel_rfl) (by kernel_rfl) (fun _ _ _ h => h) (Or.inl ⟨by rfl, ?_⟩) hHeld ?_
    rotate_left
    · (intro W hSw; (try dsimp only at hSw); go_simp; all_goals (with_reducible rfl))
    simp only [List.getElem_toArray, List.getElem_cons_zero, List.getElem_cons_succ, Act.put, List.setIfInBounds_toArray, List.set_cons_zero, List.set_cons_succ]
    refine wpAnyH_done (by kernel_rfl) ?_ _
    refine NoPanic.normal ?_
    clear hHeld
    clear mx my
    clear nx ny
    have c_Vx := Vx.c0
    have d_Vx := Vx.c1
    have f_Vx := Vx.frozen 0
    have g_Vx := Vx.frozen 1
    have l_Vx := Vx.lt
    have m_Vx := Nat.le_of_lt l_Vx
    have c_Vy := Vy.c0
    have d_Vy := Vy.c1
    have f_Vy := Vy.frozen 0
    have g_Vy := Vy.frozen 1
    have l_Vy := Vy.lt
    have m_Vy := Nat.le_of_lt l_Vy
    have c_Vd := Vd.c0
    have d_Vd := Vd.c1
    have f_Vd := Vd.frozen 0
    have g_Vd := Vd.frozen 1
    have l_Vd := Vd.lt
    have m_Vd := Nat.le_of_lt l_Vd
    go_wp2_with fail
    refine (wsign_any sx ax lx kx zx x14 hx).mono ?_
    rintro e x15 ⟨rfl, hb⟩
    replace Vx := Va.after hb Vx
    replace Vy := Va.after hb Vy
    replace Vd := Va.after hb Vd
    replace hx := It.after hb hx
    replace hy := It.after hb hy
    replace B0 := step B0 hb
    clear hb
    rw [HS.out]
    clear c_Vx d_Vx f_Vx g_Vx l_Vx m_Vx c_Vy d_Vy f_Vy g_Vy l_Vy m_Vy c_Vd d_Vd f_Vd g_Vd l_Vd m_Vd
    have c_Vx := Vx.c0
    have d_Vx := Vx.c1
    have f_Vx := Vx.frozen 0
    have g_Vx := Vx.frozen 1
    have l_Vx := Vx.lt
    have m_Vx := Nat.le_of_lt l_Vx
    have c_Vy := Vy.c0
    have d_Vy := Vy.c1
    have f_Vy := Vy.frozen 0
    have g_Vy := Vy.frozen 1
    have l_Vy := Vy.lt
    have m_Vy := Nat.le_of_lt l_Vy
    have c_Vd := Vd.c0
    have d_Vd := Vd.c1
    have f_Vd := Vd.frozen 0
    have g_Vd := Vd.frozen 1
    have l_Vd := Vd.lt
    have m_Vd := Nat.le_of_lt l_Vd
    go_wp2_with fail
    clear c_Vx d_Vx f_Vx g_Vx l_Vx m_Vx c_Vy d_Vy f_Vy g_Vy l_Vy m_Vy c_Vd d_Vd f_Vd g_Vd l_Vd m_Vd
    clear Vd
    clear HS
    have ⟨g1, g2⟩ := sign_range (iv sx zx)
    obtain ⟨q, hq'⟩ : ∃ q, Int.sign (iv sx zx) = q := ⟨_, rfl⟩
    rw [hq'] at g1 g2
    have hq : Hid (Int.sign (iv sx zx) = q) := hq'
    have ew : IntKind.i64.wrap (-q) = -q := by rw [IntKind.wrap_i64]; omega
    clear hq'
    refine wp_region_noPanic ?_
    replace Vx : Va x15.drew _ _ _ := Vx
    replace Vy : Va x15.drew _ _ _ := Vy
    replace hx : It x15.drew _ _ _ _ _ := hx
    replace hy : It x15.drew _ _ _ _ _ := hy
    replace B0 := Below.drew B0
    refine wp_region_held_drew (S := (fun W => W.cell? ⟨x2.heap.size, 0, none⟩ = some (.bool sx) ∧ W.cell? ⟨x2.heap.size, 1, none⟩ = some (.slice ax lx kx))) (by kernel_rfl) ⟨Vx.c0, Vx.c1⟩ (fun hHeld => ?_)
    obtain ⟨x16, hxd⟩ : ∃ xd, xd = x15.drew := ⟨_, rfl⟩
    rw [← hxd] at Vx Vy hx hy B0 hHeld ⊢
    clear hxd
    refine wpAnyH_take (i := 0) (v := ?_) rfl (by kernel_rfl) (by kernel_rfl) (by kernel_rfl) (fun _ _ _ h => h) (Or.inl ⟨by rfl, ?_⟩) hHeld ?_
    rotate_left
    · (intro W hSw; (try dsimp only at hSw); go_simp; all_goals (with_reducible rfl))
    simp only [List.getElem_toArray, List.getElem_cons_zero, Act.put, List.setIfInBounds_toArray, List.set_cons_zero, List.set_cons_succ]
    refine wpAnyH_take (i := 1) (v := ?_) rfl (by kernel_rfl) (by kernel_rfl) (by kernel_rfl) (fun _ _ _ h => h) (Or.inl ⟨by rfl, ?_⟩) hHeld ?_
    rotate_left
    · (intro W hSw; (try dsimp only at hSw); go_simp; all_goals (with_reducible rfl))
    simp only [List.getElem_toArray, List.getElem_cons_zero, List.getElem_cons_succ, Act.put, List.setIfInBounds_toArray, List.set_cons_zero, List.set_cons_succ]
    refine wpAnyH_take (i := 3) (v := ?_) rfl (by kernel_rfl) (by kernel_rfl) (by kernel_rfl) (fun _ _ _ h => h) (Or.inl ⟨by rfl, ?_⟩) hHeld ?_
    rotate_left
    · (intro W hSw; (try dsimp only at hSw); go_simp; all_goals (with_reducible rfl))
    simp only [List.getElem_toArray, List.getElem_cons_zero, List.getElem_cons_succ, Act.put, List.setIfInBounds_toArray, List.set_cons_zero, List.set_cons_succ]
    refine wpAnyH_ready (rs := [2]) (by kernel_rfl) (by simp) ?_
    refine AllReadyH.cons rfl (fun K hK => ?_) AllReadyH.nil
    simp only [List.getElem_toArray, List.getElem_cons_zero, List.getElem_cons_succ]
    go_simp
    refine (wcompare_any sx false ax none lx kx 0 0 zx [] _ hx (It.nil _)).mono ?_
    rintro e x17 ⟨rfl, hb⟩
    replace Vx := Va.after hb Vx
    replace Vy := Va.after hb Vy
    replace hx := It.after hb hx
    replace hy := It.after hb hy
    replace B0 := step B0 hb
    clear hb
    rw [iv_nil, cmp3_zero, hq.out]
    try go_wp2_with fail
    refine hK.out _ _ ⟨Vx.c0, Vx.c1⟩ (fun hHeld => ?_)
    clear hK K
    refine wpAnyH_ready (rs := [4]) (by kernel_rfl) (by simp) ?_
    refine AllReadyH.cons rfl (fun K hK => ?_) AllReadyH.nil
    simp only [List.getElem_toArray, List.getElem_cons_zero, List.getElem_cons_succ]
    go_simp
    refine (wsign_any sx ax lx kx zx _ hx).mono ?_
    rintro e x18 ⟨rfl, hb⟩
    replace Vx := Va.after hb Vx
    replace Vy := Va.after hb Vy
    replace hx := It.after hb hx
    replace hy := It.after hb hy
    replace B0 := step B0 hb
    clear hb
    rw [hq.out]
    try go_wp2_with fail
    refine hK.out _ _ ⟨Vx.c0, Vx.c1⟩ (fun hHeld => ?_)
    clear hK K
    refine wpAnyH_take (i := 5) (v := ?_) rfl (by kernel_rfl) (by kernel_rfl) (by kernel_rfl) (fun _ _ _ h => h) (Or.inl ⟨by rfl, ?_⟩) hHeld ?_
    rotate_left
    · (intro W hSw; (try dsimp only at hSw); go_simp; all_goals (with_reducible rfl))
    simp only [List.getElem_toArray, List.getElem_cons_zero, List.getElem_cons_succ, Act.put, List.setIfInBounds_toArray, List.set_cons_zero, List.set_cons_succ]
    refine wpAnyH_take (i := 6) (v := ?_) rfl (by kernel_rfl) (by kernel_rfl) (by kernel_rfl) (fun _ _ _ h => h) (Or.inl ⟨by rfl, ?_⟩) hHeld ?_
    rotate_left
    · (intro W hSw; (try dsimp only at hSw); go_simp; all_goals (with_reducible rfl))
    simp only [List.getElem_toArray, List.getElem_cons_zero, List.getElem_cons_succ, Act.put, List.setIfInBounds_toArray, List.set_cons_zero, List.set_cons_succ]
    refine wpAnyH_take (i := 7) (v := ?_) rfl (by kernel_rfl) (by kernel_rfl) (by kernel_rfl) (fun _ _ _ h => h) (Or.inl ⟨by rfl, ?_⟩) hHeld ?_
    rotate_left
    · (intro W hSw; (try dsimp only at hSw); go_simp; all_goals (with_reducible rfl))
    simp only [List.getElem_toArray, List.getElem_cons_zero, List.getElem_cons_succ, Act.put, List.setIfInBounds_toArray, List.set_cons_zero, List.set_cons_succ]
    refine wpAnyH_take (i := 10) (v := ?_) rfl (by kernel_rfl) (by kernel_rfl) (by kernel_rfl) (fun _ _ _ h => h) (Or.inl ⟨by rfl, ?_⟩) hHeld ?_
    rotate_left
    · (intro W hSw; (try dsimp only at hSw); go_simp; all_goals (with_reducible rfl))
    simp only [List.getElem_toArray, List.getElem_cons_zero, List.getElem_cons_succ, Act.put, List.setIfInBounds_toArray, List.set_cons_zero, List.set_cons_succ]
    refine wpAnyH_ready (rs := [8]) (by kernel_rfl) (by simp) ?_
    refine AllReadyH.cons rfl (fun K hK => ?_) AllReadyH.nil
    simp only [List.getElem_toArray, List.getElem_cons_zero, List.getElem_cons_succ]
    go_simp
    refine (wneg_any sx ax lx kx zx _ hx).mono ?_
    rintro e x19 ⟨tx, rfl, mx, nx, hb⟩
    replace Vx := Va.after hb Vx
    replace Vy := Va.after hb Vy
    replace hx := It.after hb hx
    replace hy := It.after hb hy
    replace B0 := step B0 hb
    clear hb
    try go_wp2_with fail
    refine hK.out _ _ ⟨Vx.c0, Vx.c1⟩ (fun hHeld => ?_)
    clear hK K
    refine wpAnyH_ready (rs := [9]) (by kernel_rfl) (by simp) ?_
    refine AllReadyH.cons rfl (fun K hK => ?_) AllReadyH.nil
    simp only [List.getElem_toArray, List.getElem_cons_zero, List.getElem_cons_succ]
    go_simp
    refine (wsign_any tx ax lx kx zx _ mx).mono ?_
    rintro e x20 ⟨rfl, hb⟩
    replace Vx := Va.after hb Vx
    replace Vy := Va.after hb Vy
    replace hx := It.after hb hx
    replace hy := It.after hb hy
    replace mx := It.after hb mx
    replace B0 := step B0 hb
    clear hb
    rw [nx, Int.sign_neg, hq.out]
    try go_wp2_with fail
    refine hK.out _ _ ⟨Vx.c0, Vx.c1⟩ (fun hHeld => ?_)
    clear hK K
    refine wpAnyH_ready (rs := [11]) (by kernel_rfl) (by simp) ?_
    refine AllReadyH.cons rfl (fun K hK => ?_) AllReadyH.nil
    simp only [List.getElem_toArray, List.getElem_cons_zero, List.getElem_cons_succ]
    go_simp
    refine (wsign_any sx ax lx kx zx _ hx).mono ?_
    rintro e x21 ⟨rfl, hb⟩
    replace Vx := Va.after hb Vx
    replace Vy := Va.after hb Vy
    replace hx := It.after hb hx
    replace hy := It.after hb hy
    replace mx := It.after hb mx
    replace B0 := step B0 hb
    clear hb
    rw [hq.out]
    try go_wp2_with fail
    refine hK.out _ _ ⟨Vx.c0, Vx.c1⟩ (fun hHeld => ?_)
    clear hK K
    refine wpAnyH_take (i := 12) (v := .int .i64 (-q)) rfl (by kernel_rfl) (by kernel_rfl) (by kernel_rfl) (fun _ _ _ h => h) (Or.inl ⟨by rfl, ?_⟩) hHeld ?_
    · (intro W hSw; (try dsimp only at hSw); go_simp; all_goals (first | rfl | rw [ew] | simp [ew]))
    simp only [List.getElem_toArray, List.getElem_cons_zero, List.getElem_cons_succ, Act.put, List.setIfInBounds_toArray, List.set_cons_zero, List.set_cons_succ]
    clear mx
    clear nx
    refine wpAnyH_take (i := 13) (v := ?_) rfl (by kernel_rfl) (by kernel_rfl) (by kernel_rfl) (fun _ _ _ h => h) (Or.inl ⟨by rfl, ?_⟩) hHeld ?_
    rotate_left
    · (intro W hSw; (try dsimp only at hSw); go_simp; all_goals (with_reducible rfl))
    simp only [List.getElem_toArray, List.getElem_cons_zero, List.getElem_cons_succ, Act.put, List.setIfInBounds_toArray, List.set_cons_zero, List.set_cons_succ]
    refine wpAnyH_take (i := 14) (v := ?_) rfl (by kernel_rfl) (by kernel_rfl) (by kernel_rfl) (fun _ _ _ h => h) (Or.inl ⟨by rfl, ?_⟩) hHeld ?_
    rotate_left
    · (intro W hSw; (try dsimp only at hSw); go_simp; all_goals (with_reducible rfl))
    simp only [List.getElem_toArray, List.getElem_cons_zero, List.getElem_cons_succ, Act.put, List.setIfInBounds_toArray, List.set_cons_zero, List.set_cons_succ]
    refine wpAnyH_take (i := 15) (v := ?_) rfl (by kernel_rfl) (by kernel_rfl) (by kernel_rfl) (fun _ _ _ h => h) (Or.inl ⟨by rfl, ?_⟩) hHeld ?_
    rotate_left
    · (intro W hSw; (try dsimp only at hSw); go_simp; all_goals (with_reducible rfl))
    simp only [List.getElem_toArray, List.getElem_cons_zero, List.getElem_cons_succ, Act.put, List.setIfInBounds_toArray, List.set_cons_zero, List.set_cons_succ]
    refine wpAnyH_take (i := 16) (v := ?_) rfl (by kernel_rfl) (by kernel_rfl) (by kernel_rfl) (fun _ _ _ h => h) (Or.inl ⟨by rfl, ?_⟩) hHeld ?_
    rotate_left
    · (intro W hSw; (try dsimp only at hSw); go_simp; all_goals (with_reducible rfl))
    simp only [List.getElem_toArray, List.getElem_cons_zero, List.getElem_cons_succ, Act.put, List.setIfInBounds_toArray, List.set_cons_zero, List.set_cons_succ]
    refine wpAnyH_take (i := 19) (v := ?_) rfl (by kernel_rfl) (by kernel_rfl) (by kernel_rfl) (fun _ _ _ h => h) (Or.inl ⟨by rfl, ?_⟩) hHeld ?_
    rotate_left
    · (intro W hSw; (try dsimp only at hSw); go_simp; all_goals (with_reducible rfl))
    simp only [List.getElem_toArray, List.getElem_cons_zero, List.getElem_cons_succ, Act.put, List.setIfInBounds_toArray, List.set_cons_zero, List.set_cons_succ]
    refine wpAnyH_ready (rs := [17]) (by kernel_rfl) (by simp) ?_
    refine AllReadyH.cons rfl (fun K hK => ?_) AllReadyH.nil
    simp only [List.getElem_toArray, List.getElem_cons_zero, List.getElem_cons_succ]
    go_simp
    refine (wneg_any sx ax lx kx zx _ hx).mono ?_
    rintro e x22 ⟨tx, rfl, mx, nx, hb⟩
    replace Vx := Va.after hb Vx
    replace Vy := Va.after hb Vy
    replace hx := It.after hb hx
    replace hy := It.after hb hy
    replace B0 := step B0 hb
    clear hb
    try go_wp2_with fail
    refine hK.out _ _ ⟨Vx.c0, Vx.c1⟩ (fun hHeld => ?_)
    clear hK K
    refine wpAnyH_ready (rs := [18]) (by kernel_rfl) (by simp) ?_
    refine AllReadyH.cons rfl (fun K hK => ?_) AllReadyH.nil
    simp only [List.getElem_toArray, List.getElem_cons_zero, List.getElem_cons_succ]
    go_simp
    refine (wneg_any tx ax lx kx zx _ mx).mono ?_
    rintro e x23 ⟨ux, rfl, ox, px, hb⟩
    replace Vx := Va.after hb Vx
    replace Vy := Va.after hb Vy
    replace hx := It.after hb hx
    replace hy := It.after hb hy
    replace mx := It.after hb mx
    replace B0 := step B0 hb
    clear hb
    try go_wp2_with fail
    refine hK.out _ _ ⟨Vx.c0, Vx.c1⟩ (fun hHeld => ?_)
    clear hK K
    refine wpAnyH_ready (rs := [20]) (by kernel_rfl) (by simp) ?_
    refine AllReadyH.cons rfl (fun K hK => ?_) AllReadyH.nil
    simp only [List.getElem_toArray, List.getElem_cons_zero, List.getElem_cons_succ]
    go_simp
    refine (wsame_ok ux sx ax ax lx kx lx kx zx zx _ ox hx (by rw [px, nx]; omega)).mono ?_
    rintro e x24 ⟨rfl, hb⟩
    replace Vx := Va.after hb Vx
    replace Vy := Va.after hb Vy
    replace hx := It.after hb hx
    replace hy := It.after hb hy
    replace mx := It.after hb mx
    replace ox := It.after hb ox
    replace B0 := step B0 hb
    clear hb
    try go_wp2_with fail
    refine hK.out _ _ ⟨Vx.c0, Vx.c1⟩ (fun hHeld => ?_)
    clear hK K
    clear mx ox
    clear nx px ew g1 g2 hq
    refine wpAnyH_take (i := 21) (v := ?_) rfl (by kernel_rfl) (by kernel_rfl) (by kernel_rfl) (fun _ _ _ h => h) (Or.inl ⟨by rfl, ?_⟩) hHeld ?_
    rotate_left
    · (intro W hSw; (try dsimp only at hSw); go_simp; all_goals (with_reducible rfl))
    simp only [List.getElem_toArray, List.getElem_cons_zero, List.getElem_cons_succ, Act.put, List.setIfInBounds_toArray, List.set_cons_zero, List.set_cons_succ]
    refine wpAnyH_take (i := 22) (v := ?_) rfl (by kernel_rfl) (by kernel_rfl) (by kernel_rfl) (fun _ _ _ h => h) (Or.inl ⟨by rfl, ?_⟩) hHeld ?_
    rotate_left
    · (intro W hSw; (try dsimp only at hSw); go_simp; all_goals (with_reducible rfl))
    simp only [List.getElem_toArray, List.getElem_cons_zero, List.getElem_cons_succ, Act.put, List.setIfInBounds_toArray, List.set_cons_zero, List.set_cons_succ]
    refine wpAnyH_done (by kernel_rfl) ?_ _
    refine NoPanic.normal ?_
    clear hHeld
    have c_Vx := Vx.c0
    have d_Vx := Vx.c1
    have f_Vx := Vx.frozen 0
    have g_Vx := Vx.frozen 1
    have l_Vx := Vx.lt
    have m_Vx := Nat.le_of_lt l_Vx
    have c_Vy := Vy.c0
    have d_Vy := Vy.c1
    have f_Vy := Vy.frozen 0
    have g_Vy := Vy.frozen 1
    have l_Vy := Vy.lt
    have m_Vy := Nat.le_of_lt l_Vy
    go_wp2_with fail
    refine (int64_any sx ax lx kx zx x24 hx).mono ?_
    rintro e x25 ⟨vx, fx, rfl, gx, hb⟩
    replace Vx := Va.after hb Vx
    replace Vy := Va.after hb Vy
    replace hx := It.after hb hx
    replace hy := It.after hb hy
    replace B0 := step B0 hb
    clear hb
    clear c_Vx d_Vx f_Vx g_Vx l_Vx m_Vx c_Vy d_Vy f_Vy g_Vy l_Vy m_Vy
    have c_Vx := Vx.c0
    have d_Vx := Vx.c1
    have f_Vx := Vx.frozen 0
    have g_Vx := Vx.frozen 1
    have l_Vx := Vx.lt
    have m_Vx := Nat.le_of_lt l_Vx
    have c_Vy := Vy.c0
    have d_Vy := Vy.c1
    have f_Vy := Vy.frozen 0
    have g_Vy := Vy.frozen 1
    have l_Vy := Vy.lt
    have m_Vy := Nat.le_of_lt l_Vy
    go_wp2_with fail
    refine (int64_any sy ay ly ky zy x25 hy).mono ?_
    rintro e x26 ⟨vy, fy, rfl, gy, hb⟩
    replace Vx := Va.after hb Vx
    replace Vy := Va.after hb Vy
    replace hx := It.after hb hx
    replace hy := It.after hb hy
    replace B0 := step B0 hb
    clear hb
    clear c_Vx d_Vx f_Vx g_Vx l_Vx m_Vx c_Vy d_Vy f_Vy g_Vy l_Vy m_Vy
    have c_Vx := Vx.c0
    have d_Vx := Vx.c1
    have f_Vx := Vx.frozen 0
    have g_Vx := Vx.frozen 1
    have l_Vx := Vx.lt
    have m_Vx := Nat.le_of_lt l_Vx
    have c_Vy := Vy.c0
    have d_Vy := Vy.c1
    have f_Vy := Vy.frozen 0
    have g_Vy := Vy.frozen 1
    have l_Vy := Vy.lt
    have m_Vy := Nat.le_of_lt l_Vy
    go_wp2_with fail
    clear c_Vx d_Vx f_Vx g_Vx l_Vx m_Vx c_Vy d_Vy f_Vy g_Vy l_Vy m_Vy
    have HV : Hid (fx = 5 ∨ fy = 5 ∨ (fx = 0 ∧ fy = 0 ∧ vx < vy)) := by
      have h5 := HC.out
      rcases gx.out with ⟨h6, h7⟩ | h6 <;> rcases gy.out with ⟨h8, h9⟩ | h8
      · exact Or.inr (Or.inr ⟨h6, h8, by omega⟩)
      · exact Or.inr (Or.inl h8)
      · exact Or.inl h6
      · exact Or.inl h6
    clear gx gy
    refine (awake4_any x26).mono ?_
    rintro e x27 ⟨rfl, hb⟩
    replace Vx := Va.after hb Vx
    replace Vy := Va.after hb Vy
    replace hx := It.after hb hx
    replace hy := It.after hb hy
    replace B0 := step B0 hb
    clear hb
    by_cases e1 : fx = 0
    · subst e1
      by_cases e2 : fy = 0
      · subst e2
        have hv : vx < vy := by rcases HV.out with h | h | h <;> omega
        have hv2 : (vx == vy) = false := by simp; omega
        go_wp2_with fail
        go_ret
        exact ⟨rfl, B0⟩
      · have e3 : (fy != 0) = true := by simpa using e2
        go_wp2_with fail
        go_ret
        exact ⟨rfl, B0⟩
    · have e3 : (fx != 0) = true := by simpa using e1
      go_wp2_with fail
      go_ret
      exact ⟨rfl, B0⟩
end Go.Proofs.Ytopmbfiepheepaa
