/-
  The walk of DecimalMakes: each call by its contract.
-/
import Derived.Test.YtebbblhafjaaiaaGreatDoorDm2
import Derived.Test.YtebbblhafjaaiaaGreatDoorDm3
import Derived.Test.YtebbblhafjaaiaaGreatDoorDecA
import Derived.Test.YtebbblhafjaaiaaGreatDoorRt4
import Derived.Test.YtebbblhafjaaiaaGreatDoorRt8
namespace Go.Proofs.YtebbblhafjaaiaaGreatDoor
open Go.RowKit Go.Shelf
set_option linter.unusedVariables false

theorem dtext_no (U P : Int) (h : ¬ CanI U P) (w : World) : Calls Tryz.prog 14 #[.agg #[.int .i64 U, .int .i64 P]] w fun e w' => e = .returned (.tuple #[.string ⟨#[]⟩, .int .i64 60]) ∧ Below w.heap.size w w' := by
  have B0 : Below w.heap.size w w := Below.refl _ _
  go_enter Tryz.func14, Tryz.ntmps14
  go_wp2_with fail
  refine ent1 w _ _ (Q := fun W => Calls Tryz.prog _ _ W _) ?_
  intro x1 hb hs_x1 V0
  replace B0 := step B0 hb
  clear hb hs_x1
  refine (check_no U P h _).mono ?_
  rintro e x2 ⟨rfl, hb⟩
  replace V0 := Va.after hb V0
  replace B0 := step B0 hb
  clear hb
  go_wp2_with fail
  go_ret2
  exact ⟨rfl, B0⟩
/-- A number's plain form, held against the document's. -/
theorem same6 {w0 : World} (s : Bool) (a : Option Addr) (l c : Nat) (zs : List Int) (b : Option Addr) (m d : Nat) (ds : List Int) (v : Rat) (s2 : Bool) (a2 : Option Addr) (l2 c2 : Nat) (xs : List Int) (b2 : Option Addr) (m2 d2 : Nat) (es : List Int) (g h : Nat) (ys : List Int) (w : World) (hr : Rt w0 s a l c zs b m d ds v) (hw : Rr w s2 a2 l2 c2 xs b2 m2 d2 es v) (hg : Ow w g zs) (hh : Ow w h ys) (hy : Limbs ys ∧ usedN ys = ys.length ∧ num ys = v.den) :
    Calls Tryz.prog 19 #[.agg #[.bool s, .slice (some ⟨g, 0, none⟩) l l, .slice (some ⟨h, 0, none⟩) ys.length ys.length], .agg #[.bool s2, .slice a2 l2 c2, .slice b2 m2 d2]] w fun e w' => e = .returned (.bool true) ∧ Below w.heap.size w w' := by
  have hl := len_4096 hr.1.1
  have hzl : zs.length = l := hr.1.1.1.1
  have hm := den_4096 hr.2.2.2.2 hy
  obtain ⟨rfl, rfl, rfl, rfl, rfl⟩ := rt_rr hr hw hy
  exact rsame5 s2 (some ⟨g, 0, none⟩) a2 (some ⟨h, 0, none⟩) b2 l2 es.length l2 c2 es.length d2 xs es w (hg.sl hr.1.1.limbs hzl) hw.1 (hh.sl hy.1 rfl) hw.2.1 (by omega) (by omega)
/-- What both Makes answer. -/
theorem makes_both (V : Int) (Q : Int) (h1 : -9223372036854775808 ≤ V) (h2 : V ≤ 9223372036854775807) : ∃ M1 M2 E : Int,
    (∀ w, Calls Tryz.prog 9 #[.int .i64 V, .int .i64 Q] w fun e w' => e = .returned (.tuple #[.agg #[.int .i64 M1, .int .i64 M2], .int .i64 E]) ∧ Below w.heap.size w w') ∧
    (∀ w, Calls Tryz.prog 10 #[.int .i64 V, .int .i64 Q] w fun e w' => e = .returned (.tuple #[.agg #[.int .i64 M1, .int .i64 M2], .int .i64 E]) ∧ Below w.heap.size w w') := by
  by_cases hq : 0 ≤ Q ∧ Q ≤ 9
  · obtain ⟨q, rfl⟩ := Int.eq_ofNat_of_zero_le hq.1
    exact ⟨_, _, _, fun w => rmake6_ok V q (by omega) h1 h2 w, fun w => make_ok V q (by omega) h1 h2 w⟩
  · exact ⟨_, _, _, fun w => rmake6_no V Q hq w, fun w => make_no V Q hq w⟩
/-- What both Checks and both Texts answer. -/
theorem texts_both (U P : Int) (h1 : -9223372036854775808 ≤ U) (h2 : U ≤ 9223372036854775807) : ∃ (C : Int) (T : List UInt8),
    (∀ w, Calls Tryz.prog 12 #[.agg #[.int .i64 U, .int .i64 P]] w fun e w' => e = .returned (.int .i64 C) ∧ Below w.heap.size w w') ∧
    (∀ w, Calls Tryz.prog 11 #[.agg #[.int .i64 U, .int .i64 P]] w fun e w' => e = .returned (.int .i64 C) ∧ Below w.heap.size w w') ∧
    (∀ w, Calls Tryz.prog 13 #[.agg #[.int .i64 U, .int .i64 P]] w fun e w' => e = .returned (.tuple #[.string ⟨T.toArray⟩, .int .i64 C]) ∧ Below w.heap.size w w') ∧
    (∀ w, Pt w → Calls Tryz.prog 14 #[.agg #[.int .i64 U, .int .i64 P]] w fun e w' => e = .returned (.tuple #[.string ⟨T.toArray⟩, .int .i64 C]) ∧ Below w.heap.size w w') ∧
    (C = 0 ∧ CanI U P ∨ C = 60 ∧ ¬ CanI U P) := by
  by_cases hc : CanI U P
  · obtain ⟨p, rfl⟩ := Int.eq_ofNat_of_zero_le hc.1
    have c1 := (canI_iff U p).1 hc
    exact ⟨0, dtx U p, fun w => rcheck6_ok U p hc w, fun w => check_ok U p hc w, fun w => rtext6_ok U p h1 h2 c1 w, fun w hP => dtext_ok U p h1 h2 c1 w hP, .inl ⟨rfl, hc⟩⟩
  · exact ⟨60, [], fun w => rcheck6_no U P hc w, fun w => check_no U P hc w, fun w => rtext6_no U P hc w, fun w _ => dtext_no U P hc w, .inr ⟨rfl, hc⟩⟩
set_option maxHeartbeats 4000000 in
set_option maxRecDepth 8000 in
theorem dmakes_walk (U P V Q : Int) (w : World) (h1 : -9223372036854775808 ≤ U) (h2 : U ≤ 9223372036854775807) (g1 : -9223372036854775808 ≤ V) (g2 : V ≤ 9223372036854775807) (hP : Pt w) (hT : Tn w) :
    Calls Tryz.prog 3 #[.agg #[.int .i64 U, .int .i64 P], .int .i64 V, .int .i64 Q] w fun e w' => e = .returned (.bool true) ∧ Below w.heap.size w w' := by
  have HP : Hid (Pt w) := hP
  have HT : Hid (Tn w) := hT
  have HB : Hid (-9223372036854775808 ≤ U ∧ U ≤ 9223372036854775807) := ⟨h1, h2⟩
  obtain ⟨M1, M2, E, mk1, mk2⟩ := makes_both V Q g1 g2
  obtain ⟨C, T, ck1, ck2, tx1, tx2, hC⟩ := texts_both U P h1 h2
  have HC : Hid (C = 0 ∧ CanI U P ∨ C = 60 ∧ ¬ CanI U P) := hC
  clear hP hT h1 h2 g1 g2 hC
  have b1 : (M1 == M1) = true := beq_self_eq_true _
  have b2 : (M2 == M2) = true := beq_self_eq_true _
  have b3 : (E == E) = true := beq_self_eq_true _
  have b4 : (C == C) = true := beq_self_eq_true _
  have B0 : Below w.heap.size w w := Below.refl _ _
  go_enter Tryz.func3, Tryz.ntmps3
  go_wp2_with fail
  refine ent1 w _ _ (Q := fun W => Calls Tryz.prog _ _ W _) ?_
  intro x1 hb hs_x1 V0
  replace B0 := step B0 hb
  clear hb hs_x1
  refine (mk1 _).mono ?_
  rintro e x2 ⟨rfl, hb⟩
  replace V0 := Va.after hb V0
  replace B0 := step B0 hb
  clear hb mk1
  go_wp2_with fail
  refine ent1 x2 _ _ (Q := fun W => Calls Tryz.prog _ _ W _) ?_
  intro x3 hb hs_x3 V1
  replace V0 := Va.after hb V0
  replace B0 := step B0 hb
  clear hb hs_x3
  refine (mk2 _).mono ?_
  rintro e x4 ⟨rfl, hb⟩
  replace V0 := Va.after hb V0
  replace V1 := Va.after hb V1
  replace B0 := step B0 hb
  clear hb mk2
  have c_V0 := V0.c0
  have f0_V0 := V0.frozen 0
  have d_V0 := V0.c1
  have f1_V0 := V0.frozen 1
  have l_V0 := V0.lt
  have m_V0 := Nat.le_of_lt l_V0
  have c_V1 := V1.c0
  have f0_V1 := V1.frozen 0
  have d_V1 := V1.c1
  have f1_V1 := V1.frozen 1
  have l_V1 := V1.lt
  have m_V1 := Nat.le_of_lt l_V1
  go_wp2_with fail
  clear c_V0 f0_V0 d_V0 f1_V0 l_V0 m_V0
  clear c_V1 f0_V1 d_V1 f1_V1 l_V1 m_V1
  refine ent1 x4 _ _ (Q := fun W => Code.wp Tryz.prog _ _ _ W) ?_
  intro x5 hb hs_x5 V2
  replace V0 := Va.after hb V0
  replace V1 := Va.after hb V1
  replace B0 := step B0 hb
  clear hb hs_x5
  refine wp_region_noPanic ?_
  replace V0 : Va x5.drew _ _ _ := V0
  replace V1 : Va x5.drew _ _ _ := V1
  replace V2 : Va x5.drew _ _ _ := V2
  replace B0 := Below.drew B0
  refine wp_region_held_drew (S := (fun W => (W.cell? ⟨w.heap.size, 0, none⟩ = some (.int .i64 U) ∧ W.cell? ⟨w.heap.size, 1, none⟩ = some (.int .i64 P)) ∧ (W.cell? ⟨x2.heap.size, 0, none⟩ = some (.int .i64 M1) ∧ W.cell? ⟨x2.heap.size, 1, none⟩ = some (.int .i64 M2)) ∧ (W.cell? ⟨x4.heap.size, 0, none⟩ = some (.int .i64 M1) ∧ W.cell? ⟨x4.heap.size, 1, none⟩ = some (.int .i64 M2)))) (by kernel_rfl) ⟨⟨V0.c0, V0.c1⟩, ⟨V1.c0, V1.c1⟩, ⟨V2.c0, V2.c1⟩⟩ (fun hHeld => ?_)
  obtain ⟨x6, hxd⟩ : ∃ xd, xd = x5.drew := ⟨_, rfl⟩
  rw [← hxd] at V0 V1 V2 B0 hHeld ⊢
  clear hxd
  refine wpAnyH_take (i := 0) (v := ?_) rfl (by kernel_rfl) (by kernel_rfl) (by kernel_rfl) (fun _ _ _ h => h) (Or.inl ⟨by rfl, ?_⟩) hHeld ?_
  rotate_left
  · (intro W hSw; (try dsimp only at hSw); go_simp; all_goals (with_reducible rfl))
  simp only [List.getElem_toArray, List.getElem_cons_zero, Act.put, List.setIfInBounds_toArray, List.set_cons_zero, List.set_cons_succ]
  refine wpAnyH_take (i := 1) (v := ?_) rfl (by kernel_rfl) (by kernel_rfl) (by kernel_rfl) (fun _ _ _ h => h) (Or.inl ⟨by rfl, ?_⟩) hHeld ?_
  rotate_left
  · (intro W hSw; (try dsimp only at hSw); go_simp; all_goals (with_reducible rfl))
  simp only [List.getElem_toArray, List.getElem_cons_zero, List.getElem_cons_succ, Act.put, List.setIfInBounds_toArray, List.set_cons_zero, List.set_cons_succ]
  refine wpAnyH_take (i := 2) (v := ?_) rfl (by kernel_rfl) (by kernel_rfl) (by kernel_rfl) (fun _ _ _ h => h) (Or.inl ⟨by rfl, ?_⟩) hHeld ?_
  rotate_left
  · (intro W hSw; (try dsimp only at hSw); go_simp; all_goals (with_reducible rfl))
  simp only [List.getElem_toArray, List.getElem_cons_zero, List.getElem_cons_succ, Act.put, List.setIfInBounds_toArray, List.set_cons_zero, List.set_cons_succ]
  refine wpAnyH_take (i := 3) (v := ?_) rfl (by kernel_rfl) (by kernel_rfl) (by kernel_rfl) (fun _ _ _ h => h) (Or.inl ⟨by rfl, ?_⟩) hHeld ?_
  rotate_left
  · (intro W hSw; (try dsimp only at hSw); go_simp; all_goals (with_reducible rfl))
  simp only [List.getElem_toArray, List.getElem_cons_zero, List.getElem_cons_succ, Act.put, List.setIfInBounds_toArray, List.set_cons_zero, List.set_cons_succ]
  refine wpAnyH_take (i := 4) (v := ?_) rfl (by kernel_rfl) (by kernel_rfl) (by kernel_rfl) (fun _ _ _ h => h) (Or.inl ⟨by rfl, ?_⟩) hHeld ?_
  rotate_left
  · (intro W hSw; (try dsimp only at hSw); go_simp; all_goals (with_reducible rfl))
  simp only [List.getElem_toArray, List.getElem_cons_zero, List.getElem_cons_succ, Act.put, List.setIfInBounds_toArray, List.set_cons_zero, List.set_cons_succ]
  refine wpAnyH_take (i := 5) (v := ?_) rfl (by kernel_rfl) (by kernel_rfl) (by kernel_rfl) (fun _ _ _ h => h) (Or.inl ⟨by rfl, ?_⟩) hHeld ?_
  rotate_left
  · (intro W hSw; (try dsimp only at hSw); go_simp; all_goals (with_reducible rfl))
  simp only [List.getElem_toArray, List.getElem_cons_zero, List.getElem_cons_succ, Act.put, List.setIfInBounds_toArray, List.set_cons_zero, List.set_cons_succ]
  refine wpAnyH_take (i := 6) (v := ?_) rfl (by kernel_rfl) (by kernel_rfl) (by kernel_rfl) (fun _ _ _ h => h) (Or.inl ⟨by rfl, ?_⟩) hHeld ?_
  rotate_left
  · (intro W hSw; (try dsimp only at hSw); go_simp; all_goals (with_reducible rfl))
  simp only [List.getElem_toArray, List.getElem_cons_zero, List.getElem_cons_succ, Act.put, List.setIfInBounds_toArray, List.set_cons_zero, List.set_cons_succ]
  refine wpAnyH_take (i := 7) (v := ?_) rfl (by kernel_rfl) (by kernel_rfl) (by kernel_rfl) (fun _ _ _ h => h) (Or.inl ⟨by rfl, ?_⟩) hHeld ?_
  rotate_left
  · (intro W hSw; (try dsimp only at hSw); go_simp; all_goals (with_reducible rfl))
  simp only [List.getElem_toArray, List.getElem_cons_zero, List.getElem_cons_succ, Act.put, List.setIfInBounds_toArray, List.set_cons_zero, List.set_cons_succ]
  refine wpAnyH_take (i := 8) (v := ?_) rfl (by kernel_rfl) (by kernel_rfl) (by kernel_rfl) (fun _ _ _ h => h) (Or.inl ⟨by rfl, ?_⟩) hHeld ?_
  rotate_left
  · (intro W hSw; (try dsimp only at hSw); go_simp; all_goals (with_reducible rfl))
  simp only [List.getElem_toArray, List.getElem_cons_zero, List.getElem_cons_succ, Act.put, List.setIfInBounds_toArray, List.set_cons_zero, List.set_cons_succ]
  refine wpAnyH_take (i := 9) (v := ?_) rfl (by kernel_rfl) (by kernel_rfl) (by kernel_rfl) (fun _ _ _ h => h) (Or.inl ⟨by rfl, ?_⟩) hHeld ?_
  rotate_left
  · (intro W hSw; (try dsimp only at hSw); go_simp; all_goals (with_reducible rfl))
  simp only [List.getElem_toArray, List.getElem_cons_zero, List.getElem_cons_succ, Act.put, List.setIfInBounds_toArray, List.set_cons_zero, List.set_cons_succ]
  refine wpAnyH_take (i := 11) (v := ?_) rfl (by kernel_rfl) (by kernel_rfl) (by kernel_rfl) (fun _ _ _ h => h) (Or.inl ⟨by rfl, ?_⟩) hHeld ?_
  rotate_left
  · (intro W hSw; (try dsimp only at hSw); go_simp; all_goals (with_reducible rfl))
  simp only [List.getElem_toArray, List.getElem_cons_zero, List.getElem_cons_succ, Act.put, List.setIfInBounds_toArray, List.set_cons_zero, List.set_cons_succ]
  refine wpAnyH_ready (rs := [10]) (by kernel_rfl) (by simp) ?_
  refine AllReadyH.cons rfl (fun K hK => ?_) AllReadyH.nil
  simp only [List.getElem_toArray, List.getElem_cons_zero, List.getElem_cons_succ]
  go_simp
  refine (ck2 _).mono ?_
  rintro e x7 ⟨rfl, hb⟩
  replace V0 := Va.after hb V0
  replace V1 := Va.after hb V1
  replace V2 := Va.after hb V2
  replace B0 := step B0 hb
  clear hb
  try go_wp2_with fail
  refine hK.out _ _ ⟨⟨V0.c0, V0.c1⟩, ⟨V1.c0, V1.c1⟩, ⟨V2.c0, V2.c1⟩⟩ (fun hHeld => ?_)
  clear hK K
  refine wpAnyH_ready (rs := [12]) (by kernel_rfl) (by simp) ?_
  refine AllReadyH.cons rfl (fun K hK => ?_) AllReadyH.nil
  simp only [List.getElem_toArray, List.getElem_cons_zero, List.getElem_cons_succ]
  go_simp
  refine (ck1 _).mono ?_
  rintro e x8 ⟨rfl, hb⟩
  replace V0 := Va.after hb V0
  replace V1 := Va.after hb V1
  replace V2 := Va.after hb V2
  replace B0 := step B0 hb
  clear hb
  try go_wp2_with fail
  refine hK.out _ _ ⟨⟨V0.c0, V0.c1⟩, ⟨V1.c0, V1.c1⟩, ⟨V2.c0, V2.c1⟩⟩ (fun hHeld => ?_)
  clear hK K
  refine wpAnyH_take (i := 13) (v := ?_) rfl (by kernel_rfl) (by kernel_rfl) (by kernel_rfl) (fun _ _ _ h => h) (Or.inl ⟨by rfl, ?_⟩) hHeld ?_
  rotate_left
  · (intro W hSw; (try dsimp only at hSw); go_simp; all_goals (with_reducible rfl))
  simp only [List.getElem_toArray, List.getElem_cons_zero, List.getElem_cons_succ, Act.put, List.setIfInBounds_toArray, List.set_cons_zero, List.set_cons_succ]
  refine wpAnyH_take (i := 14) (v := ?_) rfl (by kernel_rfl) (by kernel_rfl) (by kernel_rfl) (fun _ _ _ h => h) (Or.inl ⟨by rfl, ?_⟩) hHeld ?_
  rotate_left
  · (intro W hSw; (try dsimp only at hSw); go_simp; all_goals (with_reducible rfl))
  simp only [List.getElem_toArray, List.getElem_cons_zero, List.getElem_cons_succ, Act.put, List.setIfInBounds_toArray, List.set_cons_zero, List.set_cons_succ]
  refine wpAnyH_done (by kernel_rfl) ?_ _
  refine NoPanic.normal ?_
  clear hHeld
  clear V1 V2 ck1 ck2
  have c_V0 := V0.c0
  have f0_V0 := V0.frozen 0
  have d_V0 := V0.c1
  have f1_V0 := V0.frozen 1
  have l_V0 := V0.lt
  have m_V0 := Nat.le_of_lt l_V0
  go_wp2_with fail
  refine (tx1 _).mono ?_
  rintro e x9 ⟨rfl, hb⟩
  replace V0 := Va.after hb V0
  replace B0 := step B0 hb
  clear hb tx1
  clear c_V0 f0_V0 d_V0 f1_V0 l_V0 m_V0
  have c_V0 := V0.c0
  have f0_V0 := V0.frozen 0
  have d_V0 := V0.c1
  have f1_V0 := V0.frozen 1
  have l_V0 := V0.lt
  have m_V0 := Nat.le_of_lt l_V0
  go_wp2_with fail
  refine (tx2 _ (HP.out.to B0)).mono ?_
  rintro e x10 ⟨rfl, hb⟩
  replace V0 := Va.after hb V0
  replace B0 := step B0 hb
  clear hb tx2
  clear c_V0 f0_V0 d_V0 f1_V0 l_V0 m_V0
  have bT2 : (T == T) = true := beq_self_eq_true _
  have c_V0 := V0.c0
  have f0_V0 := V0.frozen 0
  have d_V0 := V0.c1
  have f1_V0 := V0.frozen 1
  have l_V0 := V0.lt
  have m_V0 := Nat.le_of_lt l_V0
  rcases HC.out with ⟨hC, hcan⟩ | ⟨hC, hcan⟩
  · subst hC
    obtain ⟨p, rfl⟩ := Int.eq_ofNat_of_zero_le hcan.1
    have hc1 := (canI_iff U p).1 hcan
    have HCC : Hid (Can U p) := hc1
    clear hcan hc1 HC
    go_wp2_with fail
    refine (rrat6_ok U p HB.out.1 HB.out.2 HCC.out _).mono ?_
    rintro e x11 ⟨s', a', l', c', zs', b', m', d', ys', rfl, hr, hb⟩
    replace V0 := Va.after hb V0
    replace B0 := step B0 hb
    clear hb
    clear c_V0 f0_V0 d_V0 f1_V0 l_V0 m_V0
    have c_V0 := V0.c0
    have f0_V0 := V0.frozen 0
    have d_V0 := V0.c1
    have f1_V0 := V0.frozen 1
    have l_V0 := V0.lt
    have m_V0 := Nat.le_of_lt l_V0
    go_wp2_with fail
    refine ent1 x11 _ _ (Q := fun W => Calls Tryz.prog _ _ W _) ?_
    intro x12 hb hs_x12 V1
    replace V0 := Va.after hb V0
    replace hr := Rr.after hb hr
    replace B0 := step B0 hb
    clear hb hs_x12
    refine (rat_ok U p HB.out.1 HB.out.2 HCC.out _ (HT.out.to B0)).mono ?_
    rintro e x13 ⟨s, a, l, c, zs, b, m, d, ds, rfl, hq, hb⟩
    replace V1 := Va.after hb V1
    replace hr := Rr.after hb hr
    replace B0 := step B0 hb
    clear hb V0
    clear c_V0 f0_V0 d_V0 f1_V0 l_V0 m_V0
    go_wp2_with fail
    refine ent1 x13 _ _ (Q := fun W => Calls Tryz.prog _ _ W _) ?_
    intro x14 hb hs_x14 V2
    replace V1 := Va.after hb V1
    replace hr := Rr.after hb hr
    replace hq := Rt.after hb hq
    replace B0 := step B0 hb
    clear hb hs_x14
    refine (awake6 _ (HP.out.to B0)).mono ?_
    rintro e x15 ⟨rfl, hb⟩
    replace V1 := Va.after hb V1
    replace V2 := Va.after hb V2
    replace hr := Rr.after hb hr
    replace hq := Rt.after hb hq
    replace B0 := step B0 hb
    clear hb
    have c_V1 := V1.d0
    have f0_V1 := V1.frozen 0
    have d_V1 := V1.d1
    have f1_V1 := V1.frozen 1
    have e_V1 := V1.d2
    have f2_V1 := V1.frozen 2
    have l_V1 := V1.lt
    have m_V1 := Nat.le_of_lt l_V1
    have c_V2 := V2.d0
    have f0_V2 := V2.frozen 0
    have d_V2 := V2.d1
    have f1_V2 := V2.frozen 1
    have e_V2 := V2.d2
    have f2_V2 := V2.frozen 2
    have l_V2 := V2.lt
    have m_V2 := Nat.le_of_lt l_V2
    go_wp2_with fail
    clear c_V1 f0_V1 d_V1 f1_V1 e_V1 f2_V1 l_V1 m_V1
    clear c_V2 f0_V2 d_V2 f1_V2 e_V2 f2_V2 l_V2 m_V2
    refine wp_region_noPanic ?_
    replace V1 : Va x15.drew _ _ _ := V1
    replace V2 : Va x15.drew _ _ _ := V2
    replace B0 := Below.drew B0
    refine wp_region_held_drew (S := (fun W => (W.cell? ⟨x11.heap.size, 0, none⟩ = some (.bool s') ∧ W.cell? ⟨x11.heap.size, 1, none⟩ = some (.slice a' l' c') ∧ W.cell? ⟨x11.heap.size, 2, none⟩ = some (.slice b' m' d')) ∧ (W.cell? ⟨x13.heap.size, 0, none⟩ = some (.bool s) ∧ W.cell? ⟨x13.heap.size, 1, none⟩ = some (.slice a l c) ∧ W.cell? ⟨x13.heap.size, 2, none⟩ = some (.slice b m d)))) (by kernel_rfl) ⟨⟨V1.d0, V1.d1, V1.d2⟩, ⟨V2.d0, V2.d1, V2.d2⟩⟩ (fun hHeld => ?_)
    obtain ⟨x16, hxd⟩ : ∃ xd, xd = x15.drew := ⟨_, rfl⟩
    rw [← hxd] at V1 V2 B0 hHeld ⊢
    replace hr : Rr x16 s' a' l' c' zs' b' m' d' ys' (Rat.divInt U (10 ^ p)) := by rw [hxd]; exact hr
    replace hq : Rt x16 s a l c zs b m d ds (Rat.divInt U (10 ^ p)) := by rw [hxd]; exact hq
    clear hxd
    refine wpAnyH_take (i := 0) (v := ?_) rfl (by kernel_rfl) (by kernel_rfl) (by kernel_rfl) (fun _ _ _ h => h) (Or.inl ⟨by rfl, ?_⟩) hHeld ?_
    rotate_left
    · (intro W hSw; (try dsimp only at hSw); go_simp; all_goals (with_reducible rfl))
    simp only [List.getElem_toArray, List.getElem_cons_zero, Act.put, List.setIfInBounds_toArray, List.set_cons_zero, List.set_cons_succ]
    refine wpAnyH_take (i := 2) (v := ?_) rfl (by kernel_rfl) (by kernel_rfl) (by kernel_rfl) (fun _ _ _ h => h) (Or.inl ⟨by rfl, ?_⟩) hHeld ?_
    rotate_left
    · (intro W hSw; (try dsimp only at hSw); go_simp; all_goals (with_reducible rfl))
    simp only [List.getElem_toArray, List.getElem_cons_zero, List.getElem_cons_succ, Act.put, List.setIfInBounds_toArray, List.set_cons_zero, List.set_cons_succ]
    refine wpAnyH_ready (rs := [1]) (by kernel_rfl) (by simp) ?_
    refine AllReadyH.cons rfl (fun K hK => ?_) AllReadyH.nil
    simp only [List.getElem_toArray, List.getElem_cons_zero, List.getElem_cons_succ]
    go_simp
    refine (qplain_any s a l c zs b m d ds _ _ hq).mono ?_
    rintro e x17 ⟨g, h, ys, rfl, hg, hh, hgh, hy, hb⟩
    replace V1 := Va.after hb V1
    replace V2 := Va.after hb V2
    replace hr := Rr.after hb hr
    replace B0 := step B0 hb
    clear hb
    try go_wp2_with fail
    refine hK.out _ _ ⟨⟨V1.d0, V1.d1, V1.d2⟩, ⟨V2.d0, V2.d1, V2.d2⟩⟩ (fun hHeld => ?_)
    clear hK K
    refine wpAnyH_ready (rs := [3]) (by kernel_rfl) (by simp) ?_
    refine AllReadyH.cons rfl (fun K hK => ?_) AllReadyH.nil
    simp only [List.getElem_toArray, List.getElem_cons_zero, List.getElem_cons_succ]
    go_simp
    refine (same6 s a l c zs b m d ds _ s' a' l' c' zs' b' m' d' ys' g h ys _ hq hr hg hh hy.out).mono ?_
    rintro e x18 ⟨rfl, hb⟩
    replace V1 := Va.after hb V1
    replace V2 := Va.after hb V2
    replace B0 := step B0 hb
    clear hb
    try go_wp2_with fail
    refine hK.out _ _ ⟨⟨V1.d0, V1.d1, V1.d2⟩, ⟨V2.d0, V2.d1, V2.d2⟩⟩ (fun hHeld => ?_)
    clear hK K
    refine wpAnyH_take (i := 4) (v := ?_) rfl (by kernel_rfl) (by kernel_rfl) (by kernel_rfl) (fun _ _ _ h => h) (Or.inl ⟨by rfl, ?_⟩) hHeld ?_
    rotate_left
    · (intro W hSw; (try dsimp only at hSw); go_simp; all_goals (with_reducible rfl))
    simp only [List.getElem_toArray, List.getElem_cons_zero, List.getElem_cons_succ, Act.put, List.setIfInBounds_toArray, List.set_cons_zero, List.set_cons_succ]
    refine wpAnyH_done (by kernel_rfl) ?_ _
    refine NoPanic.normal ?_
    clear hHeld
    go_wp2_with fail
    go_ret
    exact ⟨rfl, B0⟩
  · subst hC
    have HNC : Hid (¬ CanI U P) := hcan
    clear hcan HC
    go_wp2_with fail
    refine (rrat6_no U P HNC.out _).mono ?_
    rintro e x11 ⟨rfl, hb⟩
    replace V0 := Va.after hb V0
    replace B0 := step B0 hb
    clear hb
    clear c_V0 f0_V0 d_V0 f1_V0 l_V0 m_V0
    have c_V0 := V0.c0
    have f0_V0 := V0.frozen 0
    have d_V0 := V0.c1
    have f1_V0 := V0.frozen 1
    have l_V0 := V0.lt
    have m_V0 := Nat.le_of_lt l_V0
    go_wp2_with fail
    refine ent1 x11 _ _ (Q := fun W => Calls Tryz.prog _ _ W _) ?_
    intro x12 hb hs_x12 V1
    replace V0 := Va.after hb V0
    replace B0 := step B0 hb
    clear hb hs_x12
    refine (rat_no U P HNC.out _).mono ?_
    rintro e x13 ⟨rfl, hb⟩
    replace V1 := Va.after hb V1
    replace B0 := step B0 hb
    clear hb V0
    clear c_V0 f0_V0 d_V0 f1_V0 l_V0 m_V0
    go_wp2_with fail
    refine ent1 x13 _ _ (Q := fun W => Calls Tryz.prog _ _ W _) ?_
    intro x14 hb hs_x14 V2
    replace V1 := Va.after hb V1
    replace B0 := step B0 hb
    clear hb hs_x14
    refine (awake6 _ (HP.out.to B0)).mono ?_
    rintro e x15 ⟨rfl, hb⟩
    replace V1 := Va.after hb V1
    replace V2 := Va.after hb V2
    replace B0 := step B0 hb
    clear hb
    have c_V1 := V1.d0
    have f0_V1 := V1.frozen 0
    have d_V1 := V1.d1
    have f1_V1 := V1.frozen 1
    have e_V1 := V1.d2
    have f2_V1 := V1.frozen 2
    have l_V1 := V1.lt
    have m_V1 := Nat.le_of_lt l_V1
    have c_V2 := V2.d0
    have f0_V2 := V2.frozen 0
    have d_V2 := V2.d1
    have f1_V2 := V2.frozen 1
    have e_V2 := V2.d2
    have f2_V2 := V2.frozen 2
    have l_V2 := V2.lt
    have m_V2 := Nat.le_of_lt l_V2
    go_wp2_with fail
    refine (qsign_any false none 0 0 [] none 0 0 [] 0 _ (Rt.nil _)).mono ?_
    rintro e x16 ⟨rfl, hb⟩
    replace B0 := step B0 hb
    clear hb
    go_wp2_with fail
    go_ret
    exact ⟨rfl, B0⟩
end Go.Proofs.YtebbblhafjaaiaaGreatDoor
