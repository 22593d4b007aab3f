/-
  whole.New, Small, Sign, Abs, Neg, Compare.
-/
import Derived.Test.YtopmbfiepheepaaWh1
namespace Go.Proofs.Ytopmbfiepheepaa
open Go.RowKit Go.Shelf
set_option linter.unusedVariables false

set_option maxHeartbeats 4000000 in
theorem wnew_any (s : Bool) (a : Option Addr) (l c : Nat) (zs : List Int) (w : World) (h : Nt w a l c zs) :
    Calls Try.prog 25 #[.bool s, .agg #[.slice a l c]] w fun e w' => ∃ s', e = .returned (.agg #[.bool s', .slice a l c]) ∧ It w' s' a l c zs ∧ iv s' zs = iv s zs ∧ Below w.heap.size w w' := by
  have hz := h.zero
  cases s
  ·
    clear hz
    have B0 : Below w.heap.size w w := Below.refl _ _
    go_enter Try.func25, Try.ntmps25
    go_wp2_with fail
    refine ent2 w _ _ _ _ (Q := fun W => Code.wp Try.prog _ _ _ W) ?_
    intro x1 hb hs_x1 V0 V1
    replace h := Nt.after hb h
    replace B0 := step B0 hb
    clear hb hs_x1
    refine wp_region_noPanic ?_
    replace V0 : Va x1.drew _ _ _ := V0
    replace V1 : Va x1.drew _ _ _ := V1
    replace h : Nt x1.drew _ _ _ _ := h
    replace B0 := Below.drew B0
    refine wp_region_held_drew (S := (fun W => W.cell? ⟨w.heap.size, 0, none⟩ = some (.slice a l c))) (by kernel_rfl) V0.cell (fun hHeld => ?_)
    obtain ⟨x2, hxd⟩ : ∃ xd, xd = x1.drew := ⟨_, rfl⟩
    rw [← hxd] at V0 V1 h B0 hHeld ⊢
    clear hxd
    refine wpAnyH_take (i := 0) (v := ?_) rfl (by kernel_rfl) (by kernel_rfl) (by kernel_rfl) (fun _ _ _ h => h) (Or.inl ⟨by rfl, ?_⟩) hHeld ?_
    rotate_left
    · (intro W hSw; (try dsimp only at hSw); go_simp; all_goals (with_reducible rfl))
    simp only [List.getElem_toArray, List.getElem_cons_zero, Act.put, List.setIfInBounds_toArray, List.set_cons_zero, List.set_cons_succ]
    refine wpAnyH_take (i := 1) (v := ?_) rfl (by kernel_rfl) (by kernel_rfl) (by kernel_rfl) (fun _ _ _ h => h) (Or.inl ⟨by rfl, ?_⟩) hHeld ?_
    rotate_left
    · (intro W hSw; (try dsimp only at hSw); go_simp; all_goals (with_reducible rfl))
    simp only [List.getElem_toArray, List.getElem_cons_zero, List.getElem_cons_succ, Act.put, List.setIfInBounds_toArray, List.set_cons_zero, List.set_cons_succ]
    refine wpAnyH_take (i := 2) (v := undef) rfl (by kernel_rfl) (by kernel_rfl) (by kernel_rfl) (fun _ _ _ h => h) (Or.inr ⟨by rfl, rfl⟩) hHeld ?_
    simp only [List.getElem_toArray, List.getElem_cons_zero, List.getElem_cons_succ, Act.put, List.setIfInBounds_toArray, List.set_cons_zero, List.set_cons_succ]
    refine wpAnyH_take (i := 3) (v := undef) rfl (by kernel_rfl) (by kernel_rfl) (by kernel_rfl) (fun _ _ _ h => h) (Or.inr ⟨by rfl, rfl⟩) hHeld ?_
    simp only [List.getElem_toArray, List.getElem_cons_zero, List.getElem_cons_succ, Act.put, List.setIfInBounds_toArray, List.set_cons_zero, List.set_cons_succ]
    refine wpAnyH_take (i := 4) (v := undef) rfl (by kernel_rfl) (by kernel_rfl) (by kernel_rfl) (fun _ _ _ h => h) (Or.inr ⟨by rfl, rfl⟩) hHeld ?_
    simp only [List.getElem_toArray, List.getElem_cons_zero, List.getElem_cons_succ, Act.put, List.setIfInBounds_toArray, List.set_cons_zero, List.set_cons_succ]
    refine wpAnyH_take (i := 5) (v := ?_) rfl (by kernel_rfl) (by kernel_rfl) (by kernel_rfl) (fun _ _ _ h => h) (Or.inl ⟨by rfl, ?_⟩) hHeld ?_
    rotate_left
    · (intro W hSw; (try dsimp only at hSw); go_simp; all_goals (with_reducible rfl))
    simp only [List.getElem_toArray, List.getElem_cons_zero, List.getElem_cons_succ, Act.put, List.setIfInBounds_toArray, List.set_cons_zero, List.set_cons_succ]
    refine wpAnyH_take (i := 6) (v := ?_) rfl (by kernel_rfl) (by kernel_rfl) (by kernel_rfl) (fun _ _ _ h => h) (Or.inl ⟨by rfl, ?_⟩) hHeld ?_
    rotate_left
    · (intro W hSw; (try dsimp only at hSw); go_simp; all_goals (with_reducible rfl))
    simp only [List.getElem_toArray, List.getElem_cons_zero, List.getElem_cons_succ, Act.put, List.setIfInBounds_toArray, List.set_cons_zero, List.set_cons_succ]
    refine wpAnyH_take (i := 7) (v := ?_) rfl (by kernel_rfl) (by kernel_rfl) (by kernel_rfl) (fun _ _ _ h => h) (Or.inl ⟨by rfl, ?_⟩) hHeld ?_
    rotate_left
    · (intro W hSw; (try dsimp only at hSw); go_simp; all_goals (with_reducible rfl))
    simp only [List.getElem_toArray, List.getElem_cons_zero, List.getElem_cons_succ, Act.put, List.setIfInBounds_toArray, List.set_cons_zero, List.set_cons_succ]
    have c_V1 := V1.c0
    have d_V1 := V1.c1
    have f_V1 := V1.frozen 0
    have g_V1 := V1.frozen 1
    have l_V1 := V1.lt
    have m_V1 := Nat.le_of_lt l_V1
    refine wpAnyH_ready (rs := [8]) (by kernel_rfl) (by simp) ?_
    refine AllReadyH.cons rfl (fun K hK => ?_) AllReadyH.nil
    simp only [List.getElem_toArray, List.getElem_cons_zero, List.getElem_cons_succ]
    go_simp
    clear c_V1 d_V1 f_V1 g_V1 l_V1 m_V1
    refine st2 V1 (.bool false) (.slice a l c) (Q := fun W => K _ W) ?_
    intro x3 V' oth far
    replace V0 := oth _ _ _ (by first | omega | assumption) V0
    replace h := h.far V1 (noInt2 _ _ _ _) far.1
    replace B0 := far.2 _ _ (by first | omega | (simp; omega)) B0
    replace V1 := V'
    clear oth far
    refine hK.out _ _ V0.cell (fun hHeld => ?_)
    clear hK K
    refine wpAnyH_done (by kernel_rfl) ?_ _
    refine NoPanic.normal ?_
    clear hHeld
    go_wp2_with fail
    refine bodyPost_ret (results_w rfl rfl V1) rfl ?_
    exact ⟨false, rfl, ⟨h, fun e => by cases e⟩, rfl, B0⟩
  ·
    obtain ⟨z, ez⟩ : ∃ z : Bool, decide (num zs = 0) = z := ⟨_, rfl⟩
    rw [ez] at hz
    have B0 : Below w.heap.size w w := Below.refl _ _
    go_enter Try.func25, Try.ntmps25
    go_wp2_with fail
    refine ent2 w _ _ _ _ (Q := fun W => Code.wp Try.prog _ _ _ W) ?_
    intro x1 hb hs_x1 V0 V1
    replace h := Nt.after hb h
    replace B0 := step B0 hb
    clear hb hs_x1
    refine wp_region_noPanic ?_
    replace V0 : Va x1.drew _ _ _ := V0
    replace V1 : Va x1.drew _ _ _ := V1
    replace h : Nt x1.drew _ _ _ _ := h
    replace B0 := Below.drew B0
    refine wp_region_held_drew (S := (fun W => W.cell? ⟨w.heap.size, 0, none⟩ = some (.slice a l c))) (by kernel_rfl) V0.cell (fun hHeld => ?_)
    obtain ⟨x2, hxd⟩ : ∃ xd, xd = x1.drew := ⟨_, rfl⟩
    rw [← hxd] at V0 V1 h B0 hHeld ⊢
    clear hxd
    refine wpAnyH_take (i := 0) (v := ?_) rfl (by kernel_rfl) (by kernel_rfl) (by kernel_rfl) (fun _ _ _ h => h) (Or.inl ⟨by rfl, ?_⟩) hHeld ?_
    rotate_left
    · (intro W hSw; (try dsimp only at hSw); go_simp; all_goals (with_reducible rfl))
    simp only [List.getElem_toArray, List.getElem_cons_zero, Act.put, List.setIfInBounds_toArray, List.set_cons_zero, List.set_cons_succ]
    refine wpAnyH_take (i := 1) (v := ?_) rfl (by kernel_rfl) (by kernel_rfl) (by kernel_rfl) (fun _ _ _ h => h) (Or.inl ⟨by rfl, ?_⟩) hHeld ?_
    rotate_left
    · (intro W hSw; (try dsimp only at hSw); go_simp; all_goals (with_reducible rfl))
    simp only [List.getElem_toArray, List.getElem_cons_zero, List.getElem_cons_succ, Act.put, List.setIfInBounds_toArray, List.set_cons_zero, List.set_cons_succ]
    refine wpAnyH_take (i := 2) (v := ?_) rfl (by kernel_rfl) (by kernel_rfl) (by kernel_rfl) (fun _ _ _ h => h) (Or.inl ⟨by rfl, ?_⟩) hHeld ?_
    rotate_left
    · (intro W hSw; (try dsimp only at hSw); go_simp; all_goals (with_reducible rfl))
    simp only [List.getElem_toArray, List.getElem_cons_zero, List.getElem_cons_succ, Act.put, List.setIfInBounds_toArray, List.set_cons_zero, List.set_cons_succ]
    refine wpAnyH_take (i := 6) (v := ?_) rfl (by kernel_rfl) (by kernel_rfl) (by kernel_rfl) (fun _ _ _ h => h) (Or.inl ⟨by rfl, ?_⟩) hHeld ?_
    rotate_left
    · (intro W hSw; (try dsimp only at hSw); go_simp; all_goals (with_reducible rfl))
    simp only [List.getElem_toArray, List.getElem_cons_zero, List.getElem_cons_succ, Act.put, List.setIfInBounds_toArray, List.set_cons_zero, List.set_cons_succ]
    refine wpAnyH_ready (rs := [3]) (by kernel_rfl) (by simp) ?_
    refine AllReadyH.cons rfl (fun K hK => ?_) AllReadyH.nil
    simp only [List.getElem_toArray, List.getElem_cons_zero, List.getElem_cons_succ]
    go_simp
    refine (isZero_any a l c _).mono ?_
    rintro e x3 ⟨rfl, hb⟩
    replace V0 := Va.after hb V0
    replace V1 := Va.after hb V1
    replace h := Nt.after hb h
    replace B0 := step B0 hb
    clear hb
    rw [hz]
    try go_wp2_with fail
    refine hK.out _ _ V0.cell (fun hHeld => ?_)
    clear hK K
    refine wpAnyH_take (i := 4) (v := ?_) rfl (by kernel_rfl) (by kernel_rfl) (by kernel_rfl) (fun _ _ _ h => h) (Or.inl ⟨by rfl, ?_⟩) hHeld ?_
    rotate_left
    · (intro W hSw; (try dsimp only at hSw); go_simp; all_goals (with_reducible rfl))
    simp only [List.getElem_toArray, List.getElem_cons_zero, List.getElem_cons_succ, Act.put, List.setIfInBounds_toArray, List.set_cons_zero, List.set_cons_succ]
    refine wpAnyH_take (i := 5) (v := ?_) rfl (by kernel_rfl) (by kernel_rfl) (by kernel_rfl) (fun _ _ _ h => h) (Or.inl ⟨by rfl, ?_⟩) hHeld ?_
    rotate_left
    · (intro W hSw; (try dsimp only at hSw); go_simp; all_goals (with_reducible rfl))
    simp only [List.getElem_toArray, List.getElem_cons_zero, List.getElem_cons_succ, Act.put, List.setIfInBounds_toArray, List.set_cons_zero, List.set_cons_succ]
    refine wpAnyH_take (i := 7) (v := ?_) rfl (by kernel_rfl) (by kernel_rfl) (by kernel_rfl) (fun _ _ _ h => h) (Or.inl ⟨by rfl, ?_⟩) hHeld ?_
    rotate_left
    · (intro W hSw; (try dsimp only at hSw); go_simp; all_goals (with_reducible rfl))
    simp only [List.getElem_toArray, List.getElem_cons_zero, List.getElem_cons_succ, Act.put, List.setIfInBounds_toArray, List.set_cons_zero, List.set_cons_succ]
    have c_V1 := V1.c0
    have d_V1 := V1.c1
    have f_V1 := V1.frozen 0
    have g_V1 := V1.frozen 1
    have l_V1 := V1.lt
    have m_V1 := Nat.le_of_lt l_V1
    refine wpAnyH_ready (rs := [8]) (by kernel_rfl) (by simp) ?_
    refine AllReadyH.cons rfl (fun K hK => ?_) AllReadyH.nil
    simp only [List.getElem_toArray, List.getElem_cons_zero, List.getElem_cons_succ]
    go_simp
    clear c_V1 d_V1 f_V1 g_V1 l_V1 m_V1
    refine st2 V1 (.bool (!z)) (.slice a l c) (Q := fun W => K _ W) ?_
    intro x4 V' oth far
    replace V0 := oth _ _ _ (by first | omega | assumption) V0
    replace h := h.far V1 (noInt2 _ _ _ _) far.1
    replace B0 := far.2 _ _ (by first | omega | (simp; omega)) B0
    replace V1 := V'
    clear oth far
    refine hK.out _ _ V0.cell (fun hHeld => ?_)
    clear hK K
    refine wpAnyH_done (by kernel_rfl) ?_ _
    refine NoPanic.normal ?_
    clear hHeld
    go_wp2_with fail
    refine bodyPost_ret (results_w rfl rfl V1) rfl ?_
    refine ⟨!z, rfl, ⟨h, fun e => ?_⟩, ?_, B0⟩
    · rw [← ez] at e; simpa using e
    · cases z
      · rfl
      · have e0 : num zs = 0 := by simpa using ez
        show num zs = - num zs; omega

theorem wsign_any (s : Bool) (a : Option Addr) (l c : Nat) (zs : List Int) (w : World) (h : It w s a l c zs) :
    Calls Try.prog 15 #[.agg #[.bool s, .slice a l c]] w fun e w' => e = .returned (.int .i64 (Int.sign (iv s zs))) ∧ Below w.heap.size w w' := by
  have hz := h.1.zero
  have hp := h.1.nonneg
  cases s
  · have es : Int.sign (iv false zs) = if num zs = 0 then 0 else 1 := by
      rw [iv_f]
      by_cases e : num zs = 0
      · rw [if_pos e, e]; rfl
      · rw [if_neg e, Int.sign_eq_one_of_pos (by omega)]
    rw [es]
    clear es
    by_cases e : num zs = 0
    · rw [if_pos e]
      have ez : ((l : Int) == 0) = true := by rw [hz]; simpa using e
      clear hz hp e
      go_enter Try.func15, Try.ntmps15
      go_wp2_with fail
      refine ent1 w _ _ (Q := fun W => Calls Try.prog _ _ W _) ?_
      intro x1 B0 hs V0
      refine (isZero_any a l c x1).mono ?_
      rintro e x2 ⟨rfl, hb⟩
      rw [ez]
      replace B0 := step B0 hb
      go_wp2_with fail
      go_ret
      exact ⟨rfl, B0⟩
    · rw [if_neg e]
      have ez : ((l : Int) == 0) = false := by rw [hz]; simpa using e
      clear hz hp e
      go_enter Try.func15, Try.ntmps15
      go_wp2_with fail
      refine ent1 w _ _ (Q := fun W => Calls Try.prog _ _ W _) ?_
      intro x1 B0 hs V0
      refine (isZero_any a l c x1).mono ?_
      rintro e x2 ⟨rfl, hb⟩
      rw [ez]
      replace B0 := step B0 hb
      go_wp2_with fail
      go_ret
      exact ⟨rfl, B0⟩
  · have es : Int.sign (iv true zs) = -1 := by
      have := h.2 rfl
      rw [iv_t, Int.sign_eq_neg_one_of_neg (by omega)]
    rw [es]
    clear es hz hp h
    go_enter Try.func15, Try.ntmps15
    go_wp2_with fail
    go_ret
    exact ⟨rfl, (Below.refl _ _).alloc (Nat.le_refl _) _⟩

theorem wabs_any (s : Bool) (a : Option Addr) (l c : Nat) (w : World) :
    Calls Try.prog 46 #[.agg #[.bool s, .slice a l c]] w fun e w' => e = .returned (.agg #[.slice a l c]) ∧ Below w.heap.size w w' := by
  go_enter Try.func46, Try.ntmps46
  go_wp2_with fail
  refine bodyPost_ret (results_c rfl rfl (by have := Va.new (w.alloc (Obj.cells #[Value.bool s, Value.slice a l c] 27)) 25 #[Value.slice a l c]; simp only [World.alloc, Array.size_push] at this ⊢; exact this)) rfl ?_
  exact ⟨rfl, ((Below.refl _ _).alloc (Nat.le_refl _) _).alloc (by simp) _⟩

theorem wneg_any (s : Bool) (a : Option Addr) (l c : Nat) (zs : List Int) (w : World) (h : It w s a l c zs) :
    Calls Try.prog 10 #[.agg #[.bool s, .slice a l c]] w fun e w' => ∃ s', e = .returned (.agg #[.bool s', .slice a l c]) ∧ It w' s' a l c zs ∧ iv s' zs = - iv s zs ∧ Below w.heap.size w w' := by
  have B0 : Below w.heap.size w w := Below.refl _ _
  go_enter Try.func10, Try.ntmps10
  go_wp2_with fail
  refine ent2 w _ _ _ _ (Q := fun W => Calls Try.prog _ _ W _) ?_
  intro x1 hb hs_x1 V0 V1
  replace h := It.after hb h
  replace B0 := step B0 hb
  clear hb hs_x1
  refine (wnew_any (!s) a l c zs x1 h.1).mono ?_
  rintro e x2 ⟨s', rfl, h', e', hb⟩
  replace V0 := Va.after hb V0
  replace V1 := Va.after hb V1
  replace h := It.after hb h
  replace B0 := step B0 hb
  clear hb
  have c_V1 := V1.c0
  have d_V1 := V1.c1
  have f_V1 := V1.frozen 0
  have g_V1 := V1.frozen 1
  have l_V1 := V1.lt
  have m_V1 := Nat.le_of_lt l_V1
  go_wp2_with fail
  refine bodyPost_ret (results_w rfl rfl (V1.set2 _ _)) rfl ?_
  refine ⟨s', rfl, h'.far V1 (noInt2 _ _ _ _) (far2 _ _ _ _), ?_, below_2 B0 (by omega) _ _⟩
  rw [e']
  cases s
  · rfl
  · show num zs = - - num zs; omega

theorem wsmall_any (x : Int) (h1 : -9223372036854775808 ≤ x) (h2 : x ≤ 9223372036854775807) (w : World) :
    Calls Try.prog 9 #[.int .i64 x] w fun e w' => ∃ s a l c zs, e = .returned (.agg #[.bool s, .slice a l c]) ∧ It w' s a l c zs ∧ iv s zs = x ∧ Below w.heap.size w w' := by
  by_cases hx : x < 0
  ·
    have e1 : IntKind.u64.wrap x = x + 18446744073709551616 := by rw [IntKind.wrap_u64]; omega
    have e2 : IntKind.u64.wrap (-(x + 18446744073709551616)) = -x := by rw [IntKind.wrap_u64]; omega
    have B0 : Below w.heap.size w w := Below.refl _ _
    go_enter Try.func9, Try.ntmps9
    go_wp2_with fail
    refine ent1 w _ _ (Q := fun W => Calls Try.prog _ _ W _) ?_
    intro x1 hb hs_x1 V1
    replace B0 := step B0 hb
    clear hb hs_x1
    refine (small_any _ ⟨by omega, by omega⟩ x1).mono ?_
    rintro e x2 ⟨a, l, c, zs, rfl, h, hn, hb⟩
    replace V1 := Va.after hb V1
    replace B0 := step B0 hb
    clear hb
    have c_V1 := V1.c0
    have d_V1 := V1.c1
    have f_V1 := V1.frozen 0
    have g_V1 := V1.frozen 1
    have l_V1 := V1.lt
    have m_V1 := Nat.le_of_lt l_V1
    go_wp2_with fail
    refine (wnew_any true a l c zs x2 h).mono ?_
    rintro e x3 ⟨s', rfl, h', e', hb⟩
    replace V1 := Va.after hb V1
    replace h := Nt.after hb h
    replace B0 := step B0 hb
    clear hb
    clear c_V1 d_V1 f_V1 g_V1 l_V1 m_V1
    have c_V1 := V1.c0
    have d_V1 := V1.c1
    have f_V1 := V1.frozen 0
    have g_V1 := V1.frozen 1
    have l_V1 := V1.lt
    have m_V1 := Nat.le_of_lt l_V1
    go_wp2_with fail
    refine bodyPost_ret (results_w rfl rfl (V1.set2 _ _)) rfl ?_
    refine ⟨s', a, l, c, zs, rfl, h'.far V1 (noInt2 _ _ _ _) (far2 _ _ _ _), ?_, below_2 B0 (by omega) _ _⟩
    rw [e']
    show - num zs = x; omega
  ·
    have e1 : IntKind.u64.wrap x = x := by rw [IntKind.wrap_u64]; omega
    have B0 : Below w.heap.size w w := Below.refl _ _
    go_enter Try.func9, Try.ntmps9
    go_wp2_with fail
    refine ent1 w _ _ (Q := fun W => Calls Try.prog _ _ W _) ?_
    intro x1 hb hs_x1 V1
    replace B0 := step B0 hb
    clear hb hs_x1
    refine (small_any _ ⟨by omega, by omega⟩ x1).mono ?_
    rintro e x2 ⟨a, l, c, zs, rfl, h, hn, hb⟩
    replace V1 := Va.after hb V1
    replace B0 := step B0 hb
    clear hb
    have c_V1 := V1.c0
    have d_V1 := V1.c1
    have f_V1 := V1.frozen 0
    have g_V1 := V1.frozen 1
    have l_V1 := V1.lt
    have m_V1 := Nat.le_of_lt l_V1
    go_wp2_with fail
    refine (wnew_any false a l c zs x2 h).mono ?_
    rintro e x3 ⟨s', rfl, h', e', hb⟩
    replace V1 := Va.after hb V1
    replace h := Nt.after hb h
    replace B0 := step B0 hb
    clear hb
    clear c_V1 d_V1 f_V1 g_V1 l_V1 m_V1
    have c_V1 := V1.c0
    have d_V1 := V1.c1
    have f_V1 := V1.frozen 0
    have g_V1 := V1.frozen 1
    have l_V1 := V1.lt
    have m_V1 := Nat.le_of_lt l_V1
    go_wp2_with fail
    refine bodyPost_ret (results_w rfl rfl (V1.set2 _ _)) rfl ?_
    refine ⟨s', a, l, c, zs, rfl, h'.far V1 (noInt2 _ _ _ _) (far2 _ _ _ _), ?_, below_2 B0 (by omega) _ _⟩
    rw [e']
    show num zs = x; omega

theorem cmp3_neg (x y : Int) : cmp3 (-x) (-y) = cmp3 y x := by unfold cmp3; grind
theorem wcompare_any (s t : Bool) (a b : Option Addr) (la ca lb cb : Nat) (xs ys : List Int) (w : World) (hx : It w s a la ca xs) (hy : It w t b lb cb ys) :
    Calls Try.prog 22 #[.agg #[.bool s, .slice a la ca], .agg #[.bool t, .slice b lb cb]] w fun e w' => e = .returned (.int .i64 (cmp3 (iv s xs) (iv t ys))) ∧ Below w.heap.size w w' := by
  have p1 := hx.1.nonneg
  have p2 := hy.1.nonneg
  have q1 := hx.2
  have q2 := hy.2
  cases s <;> cases t
  ·
    clear q1 q2 p1 p2
    rw [iv_f, iv_f]
    have B0 : Below w.heap.size w w := Below.refl _ _
    go_enter Try.func22, Try.ntmps22
    go_wp2_with fail
    refine ent2 w _ _ _ _ (Q := fun W => Calls Try.prog _ _ W _) ?_
    intro x1 hb hs_x1 V0 V1
    replace hx := It.after hb hx
    replace hy := It.after hb hy
    replace B0 := step B0 hb
    clear hb hs_x1
    refine (ncompare_any a b _ _ _ _ xs ys x1 hx.1 hy.1).mono ?_
    rintro e x2 ⟨rfl, hb⟩
    replace V0 := Va.after hb V0
    replace V1 := Va.after hb V1
    replace hx := It.after hb hx
    replace hy := It.after hb hy
    replace B0 := step B0 hb
    clear hb
    have c_V0 := V0.c0
    have d_V0 := V0.c1
    have f_V0 := V0.frozen 0
    have g_V0 := V0.frozen 1
    have l_V0 := V0.lt
    have m_V0 := Nat.le_of_lt l_V0
    have c_V1 := V1.c0
    have d_V1 := V1.c1
    have f_V1 := V1.frozen 0
    have g_V1 := V1.frozen 1
    have l_V1 := V1.lt
    have m_V1 := Nat.le_of_lt l_V1
    go_wp2_with fail
    go_ret
    exact ⟨rfl, B0⟩
  ·
    have ec : cmp3 (iv false xs) (iv true ys) = 1 := by
      rw [iv_f, iv_t]
      have := q2 rfl
      exact cmp3_gt (by omega)
    rw [ec]
    clear ec q1 q2 p1 p2
    have B0 : Below w.heap.size w w := Below.refl _ _
    go_enter Try.func22, Try.ntmps22
    go_wp2_with fail
    go_ret
    exact ⟨rfl, ((Below.refl _ _).alloc (Nat.le_refl _) _).alloc (by simp) _⟩
  ·
    have ec : cmp3 (iv true xs) (iv false ys) = -1 := by
      rw [iv_t, iv_f]
      have := q1 rfl
      exact cmp3_lt (by omega)
    rw [ec]
    clear ec q1 q2 p1 p2
    have B0 : Below w.heap.size w w := Below.refl _ _
    go_enter Try.func22, Try.ntmps22
    go_wp2_with fail
    go_ret
    exact ⟨rfl, ((Below.refl _ _).alloc (Nat.le_refl _) _).alloc (by simp) _⟩
  ·
    clear q1 q2 p1 p2
    rw [iv_t, iv_t, cmp3_neg]
    have B0 : Below w.heap.size w w := Below.refl _ _
    go_enter Try.func22, Try.ntmps22
    go_wp2_with fail
    refine ent2 w _ _ _ _ (Q := fun W => Calls Try.prog _ _ W _) ?_
    intro x1 hb hs_x1 V0 V1
    replace hx := It.after hb hx
    replace hy := It.after hb hy
    replace B0 := step B0 hb
    clear hb hs_x1
    refine (ncompare_any b a _ _ _ _ ys xs x1 hy.1 hx.1).mono ?_
    rintro e x2 ⟨rfl, hb⟩
    replace V0 := Va.after hb V0
    replace V1 := Va.after hb V1
    replace hx := It.after hb hx
    replace hy := It.after hb hy
    replace B0 := step B0 hb
    clear hb
    have c_V0 := V0.c0
    have d_V0 := V0.c1
    have f_V0 := V0.frozen 0
    have g_V0 := V0.frozen 1
    have l_V0 := V0.lt
    have m_V0 := Nat.le_of_lt l_V0
    have c_V1 := V1.c0
    have d_V1 := V1.c1
    have f_V1 := V1.frozen 0
    have g_V1 := V1.frozen 1
    have l_V1 := V1.lt
    have m_V1 := Nat.le_of_lt l_V1
    go_wp2_with fail
    go_ret
    exact ⟨rfl, B0⟩
end Go.Proofs.Ytopmbfiepheepaa
