/-
  whole.Parse of the text -12; awake.
-/
import Derived.Test.YtbadjonlhijoaaaWh8a
import Derived.Test.YtbadjonlhijoaaaParse12
namespace Go.Proofs.Ytbadjonlhijoaaa
open Go.RowKit Go.Shelf
set_option linter.unusedVariables false

theorem hasp (w : World) : Calls Try.prog 54 #[.string ⟨#[45, 49, 50]⟩, .string ⟨#[45]⟩] w fun e w' => e = .returned (.bool true) ∧ w' = w := by
  have hE : (((⟨#[45, 49, 50]⟩ : ByteArray).extract 0 1).toList == [45]) = true := by first | rfl | decide | kernel_rfl
  go_enter Try.func54, Try.ntmps54
  go_wp2_with fail
  go_ret
  exact ⟨rfl, rfl⟩
theorem cutp (w : World) : Calls Try.prog 47 #[.string ⟨#[45, 49, 50]⟩, .string ⟨#[45]⟩] w fun e w' => e = .returned (.tuple #[.string ⟨#[49, 50]⟩, .bool true]) ∧ w' = w := by
  go_enter Try.func47, Try.ntmps47
  go_wp2_with fail
  refine (hasp w).mono ?_
  rintro e w' ⟨rfl, rfl⟩
  go_wp2_with fail
  go_ret2
  exact ⟨rfl, rfl⟩
theorem cutps (w : World) : Calls Try.prog 29 #[.string ⟨#[45, 49, 50]⟩, .string ⟨#[45]⟩] w fun e w' => e = .returned (.tuple #[.string ⟨#[49, 50]⟩, .bool true]) ∧ w' = w := by
  go_enter Try.func29, Try.ntmps29
  go_wp2_with fail
  refine (cutp w).mono ?_
  rintro e w' ⟨rfl, rfl⟩
  go_wp2_with fail
  go_ret2
  exact ⟨rfl, rfl⟩
theorem results_wtt {fn : Func} {i j k b : Nat} {x y : Value} {tmps : Array Value} {w : World} (h : fn.results = #[.cell i 27, .tmp j, .tmp k]) (hi : tmps.getD i undef = .pointer (some ⟨b, 0, none⟩)) (hv : Va w b 27 #[x, y]) :
    (results fn tmps).run Try.prog w = .ok (.tuple #[.agg #[x, y], tmps.getD j undef, tmps.getD k undef]) w := by
  have c := hv.c0; have d := hv.c1
  rw [Array.getD_eq_getD_getElem?] at hi
  simp [results, h, hi, c, d, go_sem]

set_option maxHeartbeats 4000000 in
set_option maxRecDepth 20000 in
theorem wparse12 (w : World) :
    Calls Try.prog 11 #[.string ⟨#[45, 49, 50]⟩] w fun e w' => ∃ s a l c zs, e = .returned (.tuple #[.agg #[.bool s, .slice a l c], .int .i64 0, .int .i64 0]) ∧ It w' s a l c zs ∧ iv s zs = -12 ∧ Below w.heap.size w w' := by
  go_enter Try.func11, Try.ntmps11
  go_wp2_with fail
  refine ent1 w _ _ (Q := fun W => Calls Try.prog _ _ W _) ?_
  intro w1 B0 hs V0
  clear hs
  refine (cutps w1).mono ?_
  rintro e w' ⟨rfl, hw'⟩
  rw [hw']
  clear hw' w'
  have hn0 : ∀ ty, (Instr.next (.pointer (some ⟨w1.heap.size, 0, none⟩)) true ty).run Try.prog (w1.iter ⟨#[49, 50]⟩ 0) = .ok (.tuple #[.bool true, .int .i64 0, .int .i32 49]) (w1.iter ⟨#[49, 50]⟩ 1) := fun ty => run_next_ascii (P := Try.prog) w1 ⟨#[49, 50]⟩ 0 ty (by decide) (by decide)
  have hn1 : ∀ ty, (Instr.next (.pointer (some ⟨w1.heap.size, 0, none⟩)) true ty).run Try.prog (w1.iter ⟨#[49, 50]⟩ 1) = .ok (.tuple #[.bool true, .int .i64 1, .int .i32 50]) (w1.iter ⟨#[49, 50]⟩ 2) := fun ty => run_next_ascii (P := Try.prog) w1 ⟨#[49, 50]⟩ 1 ty (by decide) (by decide)
  have hn2 := fun ty => run_next_end (P := Try.prog) w1 ⟨#[49, 50]⟩ 2 ty (by decide)
  go_wp2_with fail
  refine wp_loop_rounds 3 ?_
  rw [rounds_succ]
  go_wp2_with fail
  rw [rounds_succ]
  go_wp2_with fail
  rw [rounds_succ]
  go_wp2_with fail
  have HB1 : Below w1.heap.size w1 (w1.iter ⟨#[49, 50]⟩ 2) := (Below.refl _ _).alloc (Nat.le_refl _) _
  replace V0 := Va.after HB1 V0
  replace B0 := step B0 HB1
  clear hn0 hn1 hn2
  refine (parse12 _).mono ?_
  rintro e w2 ⟨a, l, c, zs, rfl, h2, n2, hb2⟩
  replace V0 := Va.after hb2 V0
  replace B0 := step B0 hb2
  clear hb2 HB1
  go_wp2_with fail
  refine ent1 w2 _ _ (Q := fun W => Calls Try.prog _ _ W _) ?_
  intro w3 hb3 hs3 V3
  replace V0 := Va.after hb3 V0
  replace B0 := step B0 hb3
  replace h2 := Nt.after hb3 h2
  clear hb3 hs3
  refine (wnew_any true a l c zs w3 h2).mono ?_
  rintro e w4 ⟨s', rfl, h4, e4, hb4⟩
  replace V0 := Va.after hb4 V0
  replace B0 := step B0 hb4
  have c0 := V0.c0
  have d0 := V0.c1
  have f0 := V0.frozen 0
  have g0 := V0.frozen 1
  go_wp2_with fail
  refine bodyPost_ret (results_wtt rfl rfl (V0.set2 _ _)) rfl ?_
  exact ⟨s', a, l, c, zs, rfl, h4.far V0 (noInt2 _ _ _ _) (far2 _ _ _ _), by rw [e4, iv_t, n2], below_2 B0 (Nat.le_refl _) _ _⟩

set_option maxHeartbeats 4000000 in
theorem awake4_any (w : World) : Calls Try.prog 17 #[] w fun e w' => e = .returned (.bool true) ∧ Below w.heap.size w w' := by
  have B0 : Below w.heap.size w w := Below.refl _ _
  go_enter Try.func17, Try.ntmps17
  go_wp2_with fail
  refine (wparse12 w).mono ?_
  rintro e x1 ⟨s, a, l, c, zs, rfl, h, hv, hb⟩
  replace B0 := step B0 hb
  clear hb
  go_wp2_with fail
  refine ent1 x1 _ _ (Q := fun W => Calls Try.prog _ _ W _) ?_
  intro x2 hb hs_x2 V0
  replace h := It.after hb h
  replace B0 := step B0 hb
  clear hb hs_x2
  refine (wint64_in s a l c zs x2 h (by omega) (by omega)).mono ?_
  rintro e x3 ⟨rfl, hb⟩
  replace V0 := Va.after hb V0
  replace h := It.after hb h
  replace B0 := step B0 hb
  clear hb
  rw [hv]
  have c_V0 := V0.c0
  have d_V0 := V0.c1
  have f_V0 := V0.frozen 0
  have g_V0 := V0.frozen 1
  have l_V0 := V0.lt
  have m_V0 := Nat.le_of_lt l_V0
  go_wp2_with fail
  clear c_V0 d_V0 f_V0 g_V0 l_V0 m_V0
  refine wp_region_noPanic ?_
  replace V0 : Va x3.drew _ _ _ := V0
  replace h : It x3.drew _ _ _ _ _ := h
  replace B0 := Below.drew B0
  refine wp_region_held_drew (S := (fun W => W.cell? ⟨x1.heap.size, 0, none⟩ = some (.bool s) ∧ W.cell? ⟨x1.heap.size, 1, none⟩ = some (.slice a l c))) (by kernel_rfl) ⟨V0.c0, V0.c1⟩ (fun hHeld => ?_)
  obtain ⟨x4, hxd⟩ : ∃ xd, xd = x3.drew := ⟨_, rfl⟩
  rw [← hxd] at V0 h B0 hHeld ⊢
  clear hxd
  refine wpAnyH_take (i := 0) (v := ?_) rfl (by kernel_rfl) (by kernel_rfl) (by kernel_rfl) (fun _ _ _ h => h) (Or.inl ⟨by rfl, ?_⟩) hHeld ?_
  rotate_left
  · (intro W hSw; (try dsimp only at hSw); go_simp; all_goals (with_reducible rfl))
  simp only [List.getElem_toArray, List.getElem_cons_zero, Act.put, List.setIfInBounds_toArray, List.set_cons_zero, List.set_cons_succ]
  refine wpAnyH_take (i := 1) (v := ?_) rfl (by kernel_rfl) (by kernel_rfl) (by kernel_rfl) (fun _ _ _ h => h) (Or.inl ⟨by rfl, ?_⟩) hHeld ?_
  rotate_left
  · (intro W hSw; (try dsimp only at hSw); go_simp; all_goals (with_reducible rfl))
  simp only [List.getElem_toArray, List.getElem_cons_zero, List.getElem_cons_succ, Act.put, List.setIfInBounds_toArray, List.set_cons_zero, List.set_cons_succ]
  refine wpAnyH_take (i := 2) (v := ?_) rfl (by kernel_rfl) (by kernel_rfl) (by kernel_rfl) (fun _ _ _ h => h) (Or.inl ⟨by rfl, ?_⟩) hHeld ?_
  rotate_left
  · (intro W hSw; (try dsimp only at hSw); go_simp; all_goals (with_reducible rfl))
  simp only [List.getElem_toArray, List.getElem_cons_zero, List.getElem_cons_succ, Act.put, List.setIfInBounds_toArray, List.set_cons_zero, List.set_cons_succ]
  refine wpAnyH_take (i := 3) (v := ?_) rfl (by kernel_rfl) (by kernel_rfl) (by kernel_rfl) (fun _ _ _ h => h) (Or.inl ⟨by rfl, ?_⟩) hHeld ?_
  rotate_left
  · (intro W hSw; (try dsimp only at hSw); go_simp; all_goals (with_reducible rfl))
  simp only [List.getElem_toArray, List.getElem_cons_zero, List.getElem_cons_succ, Act.put, List.setIfInBounds_toArray, List.set_cons_zero, List.set_cons_succ]
  refine wpAnyH_take (i := 4) (v := ?_) rfl (by kernel_rfl) (by kernel_rfl) (by kernel_rfl) (fun _ _ _ h => h) (Or.inl ⟨by rfl, ?_⟩) hHeld ?_
  rotate_left
  · (intro W hSw; (try dsimp only at hSw); go_simp; all_goals (with_reducible rfl))
  simp only [List.getElem_toArray, List.getElem_cons_zero, List.getElem_cons_succ, Act.put, List.setIfInBounds_toArray, List.set_cons_zero, List.set_cons_succ]
  refine wpAnyH_take (i := 5) (v := ?_) rfl (by kernel_rfl) (by kernel_rfl) (by kernel_rfl) (fun _ _ _ h => h) (Or.inl ⟨by rfl, ?_⟩) hHeld ?_
  rotate_left
  · (intro W hSw; (try dsimp only at hSw); go_simp; all_goals (with_reducible rfl))
  simp only [List.getElem_toArray, List.getElem_cons_zero, List.getElem_cons_succ, Act.put, List.setIfInBounds_toArray, List.set_cons_zero, List.set_cons_succ]
  refine wpAnyH_take (i := 6) (v := ?_) rfl (by kernel_rfl) (by kernel_rfl) (by kernel_rfl) (fun _ _ _ h => h) (Or.inl ⟨by rfl, ?_⟩) hHeld ?_
  rotate_left
  · (intro W hSw; (try dsimp only at hSw); go_simp; all_goals (with_reducible rfl))
  simp only [List.getElem_toArray, List.getElem_cons_zero, List.getElem_cons_succ, Act.put, List.setIfInBounds_toArray, List.set_cons_zero, List.set_cons_succ]
  refine wpAnyH_take (i := 7) (v := ?_) rfl (by kernel_rfl) (by kernel_rfl) (by kernel_rfl) (fun _ _ _ h => h) (Or.inl ⟨by rfl, ?_⟩) hHeld ?_
  rotate_left
  · (intro W hSw; (try dsimp only at hSw); go_simp; all_goals (with_reducible rfl))
  simp only [List.getElem_toArray, List.getElem_cons_zero, List.getElem_cons_succ, Act.put, List.setIfInBounds_toArray, List.set_cons_zero, List.set_cons_succ]
  refine wpAnyH_take (i := 8) (v := ?_) rfl (by kernel_rfl) (by kernel_rfl) (by kernel_rfl) (fun _ _ _ h => h) (Or.inl ⟨by rfl, ?_⟩) hHeld ?_
  rotate_left
  · (intro W hSw; (try dsimp only at hSw); go_simp; all_goals (with_reducible rfl))
  simp only [List.getElem_toArray, List.getElem_cons_zero, List.getElem_cons_succ, Act.put, List.setIfInBounds_toArray, List.set_cons_zero, List.set_cons_succ]
  refine wpAnyH_take (i := 9) (v := ?_) rfl (by kernel_rfl) (by kernel_rfl) (by kernel_rfl) (fun _ _ _ h => h) (Or.inl ⟨by rfl, ?_⟩) hHeld ?_
  rotate_left
  · (intro W hSw; (try dsimp only at hSw); go_simp; all_goals (with_reducible rfl))
  simp only [List.getElem_toArray, List.getElem_cons_zero, List.getElem_cons_succ, Act.put, List.setIfInBounds_toArray, List.set_cons_zero, List.set_cons_succ]
  refine wpAnyH_take (i := 10) (v := ?_) rfl (by kernel_rfl) (by kernel_rfl) (by kernel_rfl) (fun _ _ _ h => h) (Or.inl ⟨by rfl, ?_⟩) hHeld ?_
  rotate_left
  · (intro W hSw; (try dsimp only at hSw); go_simp; all_goals (with_reducible rfl))
  simp only [List.getElem_toArray, List.getElem_cons_zero, List.getElem_cons_succ, Act.put, List.setIfInBounds_toArray, List.set_cons_zero, List.set_cons_succ]
  refine wpAnyH_take (i := 11) (v := ?_) rfl (by kernel_rfl) (by kernel_rfl) (by kernel_rfl) (fun _ _ _ h => h) (Or.inl ⟨by rfl, ?_⟩) hHeld ?_
  rotate_left
  · (intro W hSw; (try dsimp only at hSw); go_simp; all_goals (with_reducible rfl))
  simp only [List.getElem_toArray, List.getElem_cons_zero, List.getElem_cons_succ, Act.put, List.setIfInBounds_toArray, List.set_cons_zero, List.set_cons_succ]
  refine wpAnyH_take (i := 12) (v := ?_) rfl (by kernel_rfl) (by kernel_rfl) (by kernel_rfl) (fun _ _ _ h => h) (Or.inl ⟨by rfl, ?_⟩) hHeld ?_
  rotate_left
  · (intro W hSw; (try dsimp only at hSw); go_simp; all_goals (with_reducible rfl))
  simp only [List.getElem_toArray, List.getElem_cons_zero, List.getElem_cons_succ, Act.put, List.setIfInBounds_toArray, List.set_cons_zero, List.set_cons_succ]
  refine wpAnyH_take (i := 13) (v := ?_) rfl (by kernel_rfl) (by kernel_rfl) (by kernel_rfl) (fun _ _ _ h => h) (Or.inl ⟨by rfl, ?_⟩) hHeld ?_
  rotate_left
  · (intro W hSw; (try dsimp only at hSw); go_simp; all_goals (with_reducible rfl))
  simp only [List.getElem_toArray, List.getElem_cons_zero, List.getElem_cons_succ, Act.put, List.setIfInBounds_toArray, List.set_cons_zero, List.set_cons_succ]
  refine wpAnyH_take (i := 14) (v := ?_) rfl (by kernel_rfl) (by kernel_rfl) (by kernel_rfl) (fun _ _ _ h => h) (Or.inl ⟨by rfl, ?_⟩) hHeld ?_
  rotate_left
  · (intro W hSw; (try dsimp only at hSw); go_simp; all_goals (with_reducible rfl))
  simp only [List.getElem_toArray, List.getElem_cons_zero, List.getElem_cons_succ, Act.put, List.setIfInBounds_toArray, List.set_cons_zero, List.set_cons_succ]
  refine wpAnyH_take (i := 15) (v := ?_) rfl (by kernel_rfl) (by kernel_rfl) (by kernel_rfl) (fun _ _ _ h => h) (Or.inl ⟨by rfl, ?_⟩) hHeld ?_
  rotate_left
  · (intro W hSw; (try dsimp only at hSw); go_simp; all_goals (with_reducible rfl))
  simp only [List.getElem_toArray, List.getElem_cons_zero, List.getElem_cons_succ, Act.put, List.setIfInBounds_toArray, List.set_cons_zero, List.set_cons_succ]
  refine wpAnyH_ready (rs := [16]) (by kernel_rfl) (by simp) ?_
  refine AllReadyH.cons rfl (fun K hK => ?_) AllReadyH.nil
  simp only [List.getElem_toArray, List.getElem_cons_zero, List.getElem_cons_succ]
  go_simp
  refine (wsmall_any (-13) (by omega) (by omega) _).mono ?_
  rintro e x5 ⟨s1, a1, l1, k1, z1, rfl, h1, e1, hb⟩
  replace V0 := Va.after hb V0
  replace h := It.after hb h
  replace B0 := step B0 hb
  clear hb
  try go_wp2_with fail
  refine hK.out _ _ ⟨V0.c0, V0.c1⟩ (fun hHeld => ?_)
  clear hK K
  refine wpAnyH_ready (rs := [17]) (by kernel_rfl) (by simp) ?_
  refine AllReadyH.cons rfl (fun K hK => ?_) AllReadyH.nil
  simp only [List.getElem_toArray, List.getElem_cons_zero, List.getElem_cons_succ]
  go_simp
  refine (wcompare_any s s1 a a1 l c l1 k1 zs z1 _ h h1).mono ?_
  rintro e x6 ⟨rfl, hb⟩
  replace V0 := Va.after hb V0
  replace h := It.after hb h
  replace h1 := It.after hb h1
  replace B0 := step B0 hb
  clear hb
  rw [hv, e1, cmp3_gt (by omega)]
  try go_wp2_with fail
  refine hK.out _ _ ⟨V0.c0, V0.c1⟩ (fun hHeld => ?_)
  clear hK K
  refine wpAnyH_take (i := 18) (v := ?_) rfl (by kernel_rfl) (by kernel_rfl) (by kernel_rfl) (fun _ _ _ h => h) (Or.inl ⟨by rfl, ?_⟩) hHeld ?_
  rotate_left
  · (intro W hSw; (try dsimp only at hSw); go_simp; all_goals (with_reducible rfl))
  simp only [List.getElem_toArray, List.getElem_cons_zero, List.getElem_cons_succ, Act.put, List.setIfInBounds_toArray, List.set_cons_zero, List.set_cons_succ]
  refine wpAnyH_take (i := 19) (v := ?_) rfl (by kernel_rfl) (by kernel_rfl) (by kernel_rfl) (fun _ _ _ h => h) (Or.inl ⟨by rfl, ?_⟩) hHeld ?_
  rotate_left
  · (intro W hSw; (try dsimp only at hSw); go_simp; all_goals (with_reducible rfl))
  simp only [List.getElem_toArray, List.getElem_cons_zero, List.getElem_cons_succ, Act.put, List.setIfInBounds_toArray, List.set_cons_zero, List.set_cons_succ]
  refine wpAnyH_take (i := 20) (v := ?_) rfl (by kernel_rfl) (by kernel_rfl) (by kernel_rfl) (fun _ _ _ h => h) (Or.inl ⟨by rfl, ?_⟩) hHeld ?_
  rotate_left
  · (intro W hSw; (try dsimp only at hSw); go_simp; all_goals (with_reducible rfl))
  simp only [List.getElem_toArray, List.getElem_cons_zero, List.getElem_cons_succ, Act.put, List.setIfInBounds_toArray, List.set_cons_zero]
  refine wpAnyH_done (by kernel_rfl) ?_ _
  refine NoPanic.normal ?_
  clear hHeld
  go_wp2_with fail
  go_ret
  exact ⟨rfl, B0⟩
end Go.Proofs.Ytbadjonlhijoaaa
