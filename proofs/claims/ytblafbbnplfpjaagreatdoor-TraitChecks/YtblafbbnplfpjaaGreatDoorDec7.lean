/-
  decimal.Rat, Compare.
-/
import Derived.Test.YtblafbbnplfpjaaGreatDoorDec1
import Derived.Test.YtblafbbnplfpjaaGreatDoorRt4
import Derived.Lib.LaidTab
import Derived.Lib.AppendIntMem
namespace Go.Proofs.YtblafbbnplfpjaaGreatDoor
open Go.RowKit Go.Shelf
set_option linter.unusedVariables false

/-- The table of the powers of ten of decimal. -/
def Tn (w : World) : Prop := Go.Lib.TabIs Tryz.prog w "tollbook/decimal.tens" .i64 [1, 10, 100, 1000, 10000, 100000, 1000000, 10000000, 100000000, 1000000000]
theorem Tn.to {w w' : World} (h : Tn w) (hb : Below w.heap.size w w') : Tn w' := Go.Lib.tabBelow_of_tabIs h w' hb
theorem Tn.cell {w : World} (h : Tn w) (P : Nat) (hP : P ≤ 9) : w.cell? ⟨0, P, none⟩ = some (.int .i64 (10 ^ P)) := by
  have := Go.Lib.TabIs.cell (g := 0) h (by kernel_rfl) P (by simp; omega)
  rw [this]
  match P, hP with
  | 0, _ => rfl
  | 1, _ => rfl
  | 2, _ => rfl
  | 3, _ => rfl
  | 4, _ => rfl
  | 5, _ => rfl
  | 6, _ => rfl
  | 7, _ => rfl
  | 8, _ => rfl
  | 9, _ => rfl
theorem short64 {x y : Int} (h1 : -9223372036854775808 ≤ x) (h2 : x ≤ 9223372036854775807) (h3 : -9223372036854775808 ≤ y) (h4 : y ≤ 9223372036854775807) (h0 : y ≠ 0) : Short (Rat.divInt x y) := by
  have b1 : (9223372036854775808 : Int) < pw 1024 := Int.lt_of_lt_of_le (by decide : (9223372036854775808 : Int) < pw 1) (pw_mono (by omega))
  unfold Short
  rw [Rat.num_divInt, Rat.den_divInt, if_neg h0]
  have g1 : ((y.sign * x) / (y.gcd x : Nat)).natAbs ≤ x.natAbs := by
    have hd : ((y.gcd x : Nat) : Int) ∣ y.sign * x := Int.dvd_mul_of_dvd_right (Int.gcd_dvd_right ..)
    rw [Int.natAbs_ediv_of_dvd hd, Int.natAbs_mul, Int.natAbs_sign_of_ne_zero h0, Nat.one_mul]
    exact Nat.div_le_self _ _
  have g2 := Nat.div_le_self y.natAbs (y.gcd x)
  exact ⟨Int.lt_of_le_of_lt (by omega) b1, Int.lt_of_le_of_lt (by omega) b1⟩
theorem ten_bound {P : Nat} (hP : P ≤ 9) : 1 ≤ (10 : Int) ^ P ∧ (10 : Int) ^ P ≤ 1000000000 := by
  match P, hP with
  | 0, _ => decide
  | 1, _ => decide
  | 2, _ => decide
  | 3, _ => decide
  | 4, _ => decide
  | 5, _ => decide
  | 6, _ => decide
  | 7, _ => decide
  | 8, _ => decide
  | 9, _ => decide
set_option maxHeartbeats 4000000 in
theorem rat_ok (U : Int) (P : Nat) (h1 : -9223372036854775808 ≤ U) (h2 : U ≤ 9223372036854775807) (hc : Can U P) (w : World) (hT : Tn w) :
    Calls Tryz.prog 57 #[.agg #[.int .i64 U, .int .i64 P]] w fun e W' => ∃ s a l c zs b m d ds, e = .returned (.tuple #[.agg #[.bool s, .slice a l c, .slice b m d], .int .i64 0]) ∧ Rt W' s a l c zs b m d ds (Rat.divInt U (10 ^ P)) ∧ Below w.heap.size w W' := by
  have HC : Hid (CanI U P) := (canI_iff U P).2 hc
  have hP := hc.1
  clear hc
  obtain ⟨T, hTT⟩ : ∃ T : Int, (10 : Int) ^ P = T := ⟨_, rfl⟩
  have hTb := ten_bound hP
  have hTc : Hid (∀ W, Below w.heap.size w W → W.cell? ⟨0, P, none⟩ = some (.int .i64 T)) := fun W hb => by rw [← hTT]; exact (hT.to hb).cell P hP
  rw [hTT] at hTb ⊢
  have HS : Hid (Short (Rat.divInt U T)) := short64 h1 h2 (by omega) (by omega) (by omega)
  have hP10 : (P : Int) < 10 := by omega
  clear hTT
  have B0 : Below w.heap.size w w := Below.refl _ _
  go_enter Tryz.func57, Tryz.ntmps57
  go_wp2_with fail
  refine ent2 w _ _ _ _ (Q := fun W => Calls Tryz.prog _ _ W _) ?_
  intro x1 hb hs_x1 V0 V1
  replace B0 := step B0 hb
  clear hb hs_x1
  refine (check_ok U P HC.out _).mono ?_
  rintro e x2 ⟨rfl, hb⟩
  replace V0 := Va.after hb V0
  replace V1 := Va.after hb V1
  replace B0 := step B0 hb
  clear hb
  have c_V0 := V0.c0
  have f0_V0 := V0.frozen 0
  have d_V0 := V0.c1
  have f1_V0 := V0.frozen 1
  have l_V0 := V0.lt
  have m_V0 := Nat.le_of_lt l_V0
  go_wp2_with fail
  clear c_V0 f0_V0 d_V0 f1_V0 l_V0 m_V0
  refine wp_region_noPanic ?_
  replace V0 : Va x2.drew _ _ _ := V0
  replace V1 : Va x2.drew _ _ _ := V1
  replace B0 := Below.drew B0
  refine wp_region_held_drew (S := (fun W => W.cell? ⟨w.heap.size, 0, none⟩ = some (.int .i64 U) ∧ W.cell? ⟨w.heap.size, 1, none⟩ = some (.int .i64 P) ∧ W.cell? ⟨0, P, none⟩ = some (.int .i64 T))) (by kernel_rfl) ⟨V0.c0, V0.c1, (hTc.out _ B0)⟩ (fun hHeld => ?_)
  obtain ⟨x3, hxd⟩ : ∃ xd, xd = x2.drew := ⟨_, rfl⟩
  rw [← hxd] at V0 V1 B0 hHeld ⊢
  clear hxd
  refine wpAnyH_take (i := 0) (v := ?_) rfl (by kernel_rfl) (by kernel_rfl) (by kernel_rfl) (fun _ _ _ h => h) (Or.inl ⟨by rfl, ?_⟩) hHeld ?_
  rotate_left
  · (intro W hSw; (try dsimp only at hSw); go_simp; all_goals (with_reducible rfl))
  simp only [List.getElem_toArray, List.getElem_cons_zero, Act.put, List.setIfInBounds_toArray, List.set_cons_zero, List.set_cons_succ]
  refine wpAnyH_take (i := 1) (v := ?_) rfl (by kernel_rfl) (by kernel_rfl) (by kernel_rfl) (fun _ _ _ h => h) (Or.inl ⟨by rfl, ?_⟩) hHeld ?_
  rotate_left
  · (intro W hSw; (try dsimp only at hSw); go_simp; all_goals (with_reducible rfl))
  simp only [List.getElem_toArray, List.getElem_cons_zero, List.getElem_cons_succ, Act.put, List.setIfInBounds_toArray, List.set_cons_zero, List.set_cons_succ]
  refine wpAnyH_take (i := 2) (v := ?_) rfl (by kernel_rfl) (by kernel_rfl) (by kernel_rfl) (fun _ _ _ h => h) (Or.inl ⟨by rfl, ?_⟩) hHeld ?_
  rotate_left
  · (intro W hSw; (try dsimp only at hSw); go_simp; all_goals (with_reducible rfl))
  simp only [List.getElem_toArray, List.getElem_cons_zero, List.getElem_cons_succ, Act.put, List.setIfInBounds_toArray, List.set_cons_zero, List.set_cons_succ]
  refine wpAnyH_take (i := 3) (v := ?_) rfl (by kernel_rfl) (by kernel_rfl) (by kernel_rfl) (fun _ _ _ h => h) (Or.inl ⟨by rfl, ?_⟩) hHeld ?_
  rotate_left
  · (intro W hSw; (try dsimp only at hSw); go_simp; all_goals (with_reducible rfl))
  simp only [List.getElem_toArray, List.getElem_cons_zero, List.getElem_cons_succ, Act.put, List.setIfInBounds_toArray, List.set_cons_zero, List.set_cons_succ]
  refine wpAnyH_take (i := 4) (v := ?_) rfl (by kernel_rfl) (by kernel_rfl) (by kernel_rfl) (fun _ _ _ h => h) (Or.inl ⟨by rfl, ?_⟩) hHeld ?_
  rotate_left
  · (intro W hSw; (try dsimp only at hSw); go_simp; all_goals (with_reducible rfl))
  simp only [List.getElem_toArray, List.getElem_cons_zero, List.getElem_cons_succ, Act.put, List.setIfInBounds_toArray, List.set_cons_zero, List.set_cons_succ]
  refine wpAnyH_take (i := 5) (v := ?_) rfl (by kernel_rfl) (by kernel_rfl) (by kernel_rfl) (fun _ _ _ h => h) (Or.inl ⟨by rfl, ?_⟩) hHeld ?_
  rotate_left
  · (intro W hSw; (try dsimp only at hSw); go_simp; all_goals (with_reducible rfl))
  simp only [List.getElem_toArray, List.getElem_cons_zero, List.getElem_cons_succ, Act.put, List.setIfInBounds_toArray, List.set_cons_zero, List.set_cons_succ]
  refine wpAnyH_ready (rs := [6]) (by kernel_rfl) (by simp) ?_
  refine AllReadyH.cons rfl (fun K hK => ?_) AllReadyH.nil
  simp only [List.getElem_toArray, List.getElem_cons_zero, List.getElem_cons_succ]
  go_simp
  refine (qsmall_ok U T h1 h2 (by omega) (by omega) (by omega) _).mono ?_
  rintro e x4 ⟨er, s', a', l', c', z', b', m', d', y', v', rfl, h', hra, hb⟩
  replace V0 := Va.after hb V0
  replace V1 := Va.after hb V1
  replace B0 := step B0 hb
  clear hb
  obtain ⟨-, rfl, rfl⟩ := hra.out.resolve_right (fun h => h.1 HS.out)
  clear hra
  try go_wp2_with fail
  refine hK.out _ _ ⟨V0.c0, V0.c1, (hTc.out _ B0)⟩ (fun hHeld => ?_)
  clear hK K
  refine wpAnyH_take (i := 7) (v := ?_) rfl (by kernel_rfl) (by kernel_rfl) (by kernel_rfl) (fun _ _ _ h => h) (Or.inl ⟨by rfl, ?_⟩) hHeld ?_
  rotate_left
  · (intro W hSw; (try dsimp only at hSw); go_simp; all_goals (with_reducible rfl))
  simp only [List.getElem_toArray, List.getElem_cons_zero, List.getElem_cons_succ, Act.put, List.setIfInBounds_toArray, List.set_cons_zero, List.set_cons_succ]
  refine wpAnyH_take (i := 8) (v := ?_) rfl (by kernel_rfl) (by kernel_rfl) (by kernel_rfl) (fun _ _ _ h => h) (Or.inl ⟨by rfl, ?_⟩) hHeld ?_
  rotate_left
  · (intro W hSw; (try dsimp only at hSw); go_simp; all_goals (with_reducible rfl))
  simp only [List.getElem_toArray, List.getElem_cons_zero, List.getElem_cons_succ, Act.put, List.setIfInBounds_toArray, List.set_cons_zero, List.set_cons_succ]
  have c_V1 := V1.d0
  have f0_V1 := V1.frozen 0
  have d_V1 := V1.d1
  have f1_V1 := V1.frozen 1
  have e_V1 := V1.d2
  have f2_V1 := V1.frozen 2
  have l_V1 := V1.lt
  have m_V1 := Nat.le_of_lt l_V1
  refine wpAnyH_ready (rs := [9]) (by kernel_rfl) (by simp) ?_
  refine AllReadyH.cons rfl (fun K hK => ?_) AllReadyH.nil
  simp only [List.getElem_toArray, List.getElem_cons_zero, List.getElem_cons_succ]
  go_simp
  clear c_V1 f0_V1 d_V1 f1_V1 e_V1 f2_V1 l_V1 m_V1
  refine sto3 V1 (.bool s') (.slice a' l' c') (.slice b' m' d') (Q := fun W => K _ W) ?_
  intro x5 V' oth far
  replace V0 := oth _ _ _ (by first | omega | assumption | (simp; omega)) V0
  replace h' := h'.far V1 (noInt3 _ _ _ _ _ _ _) far.1
  replace B0 := far.2 _ _ (by first | omega | (simp; omega)) B0
  replace V1 := V'
  clear oth far
  refine hK.out _ _ ⟨V0.c0, V0.c1, (hTc.out _ B0)⟩ (fun hHeld => ?_)
  clear hK K
  refine wpAnyH_take (i := 10) (v := ?_) rfl (by kernel_rfl) (by kernel_rfl) (by kernel_rfl) (fun _ _ _ h => h) (Or.inl ⟨by rfl, ?_⟩) hHeld ?_
  rotate_left
  · (intro W hSw; (try dsimp only at hSw); go_simp; all_goals (with_reducible rfl))
  simp only [List.getElem_toArray, List.getElem_cons_zero, List.getElem_cons_succ, Act.put, List.setIfInBounds_toArray, List.set_cons_zero, List.set_cons_succ]
  refine wpAnyH_done (by kernel_rfl) ?_ _
  refine NoPanic.normal ?_
  clear hHeld
  go_wp2_with fail
  refine bodyPost_ret (results_rt rfl rfl V1) rfl ?_
  exact ⟨s', a', l', c', z', b', m', d', y', rfl, h', B0⟩
set_option maxHeartbeats 4000000 in
theorem rat_no (U P : Int) (hc : ¬ CanI U P) (w : World) :
    Calls Tryz.prog 57 #[.agg #[.int .i64 U, .int .i64 P]] w fun e W' => e = .returned (.tuple #[.agg #[.bool false, .slice none 0 0, .slice none 0 0], .int .i64 60]) ∧ Below w.heap.size w W' := by
  have B0 : Below w.heap.size w w := Below.refl _ _
  go_enter Tryz.func57, Tryz.ntmps57
  go_wp2_with fail
  refine ent2 w _ _ _ _ (Q := fun W => Calls Tryz.prog _ _ W _) ?_
  intro x1 hb hs_x1 V0 V1
  replace B0 := step B0 hb
  clear hb hs_x1
  refine (check_no U P hc _).mono ?_
  rintro e x2 ⟨rfl, hb⟩
  replace V0 := Va.after hb V0
  replace V1 := Va.after hb V1
  replace B0 := step B0 hb
  clear hb
  have c_V1 := V1.d0
  have f0_V1 := V1.frozen 0
  have d_V1 := V1.d1
  have f1_V1 := V1.frozen 1
  have e_V1 := V1.d2
  have f2_V1 := V1.frozen 2
  have l_V1 := V1.lt
  have m_V1 := Nat.le_of_lt l_V1
  go_wp2_with fail
  refine bodyPost_ret (results_rt rfl rfl (V1.set3 _ _ _)) rfl ?_
  exact ⟨rfl, belo3 B0 (by omega) _ _ _⟩
end Go.Proofs.YtblafbbnplfpjaaGreatDoor
