/-
  MoneyReads: the walk.
-/
import Derived.Test.YtigimdcaakfckabGreatDoorAw9
namespace Go.Proofs.YtigimdcaakfckabGreatDoor
open Go.RowKit Go.Shelf
set_option linter.unusedVariables false

theorem dec_len {nm : List UInt8} {D : Nat} {s : List UInt8} (h : nm.length = 3) (hD : D ≤ 4) : (parR nm D s).1 ≤ s.length ∧ (parR nm D s).1 ≤ 40 := by
  have h1 := (par_good nm D).le s
  have h2 := par_le (nm := nm) (D := D) s
  omega
theorem parse9_some {nm s : List UInt8} {D n : Nat} {u : Int} (w : World) (hC : Cur nm D) (hs : s.length ≤ 140737488355328) (hTm : Tm w) (h : parR nm D s = (n, some u)) :
    Calls Tryz.prog 6 #[.agg #[.string ⟨nm.toArray⟩, .int .i64 D], .string ⟨s.toArray⟩] w fun e w' => e = .returned (.tuple #[.int .i64 u, .int .i64 0, .int .i64 0]) ∧ Below w.heap.size w w' := by
  have := parse9 nm s D w hC hs hTm
  rw [h] at this
  exact this
theorem parse9_none {nm s : List UInt8} {D n : Nat} (w : World) (hC : Cur nm D) (hs : s.length ≤ 140737488355328) (hTm : Tm w) (h : parR nm D s = (n, none)) :
    Calls Tryz.prog 6 #[.agg #[.string ⟨nm.toArray⟩, .int .i64 D], .string ⟨s.toArray⟩] w fun e w' => e = .returned (.tuple #[.int .i64 0, .int .i64 n, .int .i64 91]) ∧ Below w.heap.size w w' := by
  have := parse9 nm s D w hC hs hTm
  rw [h] at this
  exact this
set_option maxHeartbeats 2000000 in
theorem reads_walk (nm s : List UInt8) (D0 : Int) (w : World) (hs : s.length ≤ 140737488355328) (hP : Pt w) (hT : Tm w) :
    Calls Tryz.prog 3 #[.agg #[.string ⟨nm.toArray⟩, .int .i64 D0], .string ⟨s.toArray⟩] w fun e w' => e = .returned (.bool true) ∧ Below w.heap.size w w' := by
  have HP : Hid (Pt w) := hP
  have HT : Hid (Tm w) := hT
  clear hP hT
  by_cases hC : Cur nm D0
  · obtain ⟨D, rfl⟩ : ∃ D : Nat, D0 = D := ⟨D0.toNat, by have := hC.2.2.1; omega⟩
    have hD : D ≤ 4 := by have := hC.2.2.2; omega
    have hdl := dec_len (s := s) hC.1 hD
    obtain ⟨⟨n, r⟩, hr⟩ : ∃ r, parR nm D s = r := ⟨_, rfl⟩
    rw [hr] at hdl
    simp only at hdl
    cases r with
    | some u =>
      obtain ⟨u1, u2, hu⟩ := par_some hr
      have HU : Hid (∀ t, Tx 10 t u.natAbs → s = amt D nm t u) := hu
      have HR : Hid (parR nm D s = (n, some u)) := hr
      clear hu hr hdl
      have B0 : Below w.heap.size w w := Below.refl _ _
      go_enter Tryz.func3, Tryz.ntmps3
      go_wp2_with fail
      refine ent1 w _ _ (Q := fun W => Calls Tryz.prog _ _ W _) ?_
      intro x1 hb hs_x1 V0
      replace B0 := step B0 hb
      clear hb hs_x1
      refine (awake9 _ (HP.out.to B0) (HT.out.to B0)).mono ?_
      rintro e x2 ⟨rfl, hb⟩
      replace V0 := Va.after hb V0
      replace B0 := step B0 hb
      clear hb
      have c_V0 := V0.c0
      have f0_V0 := V0.frozen 0
      have d_V0 := V0.c1
      have f1_V0 := V0.frozen 1
      have l_V0 := V0.lt
      have m_V0 := Nat.le_of_lt l_V0
      go_wp2_with fail
      refine (parse9_some _ hC hs (HT.out.to B0) HR.out).mono ?_
      rintro e x3 ⟨rfl, hb⟩
      replace V0 := Va.after hb V0
      replace B0 := step B0 hb
      clear hb
      clear c_V0 f0_V0 d_V0 f1_V0 l_V0 m_V0
      have c_V0 := V0.c0
      have f0_V0 := V0.frozen 0
      have d_V0 := V0.c1
      have f1_V0 := V0.frozen 1
      have l_V0 := V0.lt
      have m_V0 := Nat.le_of_lt l_V0
      go_wp2_with fail
      refine (text9 nm D u _ hC u1 u2 (HP.out.to B0)).mono ?_
      rintro e x4 ⟨t, rfl, ht, hb⟩
      replace V0 := Va.after hb V0
      replace B0 := step B0 hb
      clear hb
      rw [← HU.out t ht]
      clear ht
      clear c_V0 f0_V0 d_V0 f1_V0 l_V0 m_V0
      have c_V0 := V0.c0
      have f0_V0 := V0.frozen 0
      have d_V0 := V0.c1
      have f1_V0 := V0.frozen 1
      have l_V0 := V0.lt
      have m_V0 := Nat.le_of_lt l_V0
      go_wp2_with fail
      go_ret
      exact ⟨by simp, B0⟩
    | none =>
      have HR : Hid (parR nm D s = (n, none)) := hr
      obtain ⟨n1, n2⟩ := hdl
      have s1 := slice_hi s (n : Int) n rfl n1
      have hni : (n : Int) ≤ s.length := by omega
      have hn40 : (n : Int) ≤ 40 := by omega
      have hn0 : ¬ (n : Int) < 0 := by omega
      have htk : (s.take n).length ≤ 140737488355328 := by simp; omega
      rcases (par_good nm D).cut s n hr with hc | ⟨hlt, u, hc⟩
      · have HC : Hid (parR nm D (s.take n) = (n, none)) := hc
        clear hc hr
        have B0 : Below w.heap.size w w := Below.refl _ _
        go_enter Tryz.func3, Tryz.ntmps3
        go_wp2_with fail
        refine ent1 w _ _ (Q := fun W => Calls Tryz.prog _ _ W _) ?_
        intro x1 hb hs_x1 V0
        replace B0 := step B0 hb
        clear hb hs_x1
        refine (awake9 _ (HP.out.to B0) (HT.out.to B0)).mono ?_
        rintro e x2 ⟨rfl, hb⟩
        replace V0 := Va.after hb V0
        replace B0 := step B0 hb
        clear hb
        have c_V0 := V0.c0
        have f0_V0 := V0.frozen 0
        have d_V0 := V0.c1
        have f1_V0 := V0.frozen 1
        have l_V0 := V0.lt
        have m_V0 := Nat.le_of_lt l_V0
        go_wp2_with fail
        refine (parse9_none _ hC hs (HT.out.to B0) HR.out).mono ?_
        rintro e x3 ⟨rfl, hb⟩
        replace V0 := Va.after hb V0
        replace B0 := step B0 hb
        clear hb
        clear c_V0 f0_V0 d_V0 f1_V0 l_V0 m_V0
        have c_V0 := V0.c0
        have f0_V0 := V0.frozen 0
        have d_V0 := V0.c1
        have f1_V0 := V0.frozen 1
        have l_V0 := V0.lt
        have m_V0 := Nat.le_of_lt l_V0
        go_wp2_with fail
        clear c_V0 f0_V0 d_V0 f1_V0 l_V0 m_V0
        refine wp_region_noPanic ?_
        replace V0 : Va x3.drew _ _ _ := V0
        replace B0 := Below.drew B0
        refine wp_region_held_drew (S := (fun W => W.cell? ⟨w.heap.size, 0, none⟩ = some (.string ⟨nm.toArray⟩) ∧ W.cell? ⟨w.heap.size, 1, none⟩ = some (.int .i64 D))) (by kernel_rfl) ⟨V0.c0, V0.c1⟩ (fun hHeld => ?_)
        obtain ⟨x4, hxd⟩ : ∃ xd, xd = x3.drew := ⟨_, rfl⟩
        rw [← hxd] at V0 B0 hHeld ⊢
        clear hxd
        refine wpAnyH_take (i := 0) (v := ?_) rfl (by kernel_rfl) (by kernel_rfl) (by kernel_rfl) (fun _ _ _ h => h) (Or.inl ⟨by rfl, ?_⟩) hHeld ?_
        rotate_left
        · (intro W hSw; (try dsimp only at hSw); go_simp; all_goals (with_reducible rfl))
        simp only [List.getElem_toArray, List.getElem_cons_zero, Act.put, List.setIfInBounds_toArray, List.set_cons_zero, List.set_cons_succ]
        refine wpAnyH_take (i := 1) (v := ?_) rfl (by kernel_rfl) (by kernel_rfl) (by kernel_rfl) (fun _ _ _ h => h) (Or.inl ⟨by rfl, ?_⟩) hHeld ?_
        rotate_left
        · (intro W hSw; (try dsimp only at hSw); go_simp; all_goals (with_reducible rfl))
        simp only [List.getElem_toArray, List.getElem_cons_zero, List.getElem_cons_succ, Act.put, List.setIfInBounds_toArray, List.set_cons_zero, List.set_cons_succ]
        refine wpAnyH_take (i := 2) (v := ?_) rfl (by kernel_rfl) (by kernel_rfl) (by kernel_rfl) (fun _ _ _ h => h) (Or.inl ⟨by rfl, ?_⟩) hHeld ?_
        rotate_left
        · (intro W hSw; (try dsimp only at hSw); go_simp; all_goals (with_reducible rfl))
        simp only [List.getElem_toArray, List.getElem_cons_zero, List.getElem_cons_succ, Act.put, List.setIfInBounds_toArray, List.set_cons_zero, List.set_cons_succ]
        refine wpAnyH_take (i := 3) (v := ?_) rfl (by kernel_rfl) (by kernel_rfl) (by kernel_rfl) (fun _ _ _ h => h) (Or.inl ⟨by rfl, ?_⟩) hHeld ?_
        rotate_left
        · (intro W hSw; (try dsimp only at hSw); go_simp; all_goals (with_reducible rfl))
        simp only [List.getElem_toArray, List.getElem_cons_zero, List.getElem_cons_succ, Act.put, List.setIfInBounds_toArray, List.set_cons_zero, List.set_cons_succ]
        refine wpAnyH_ready (rs := [4]) (by kernel_rfl) (by simp) ?_
        refine AllReadyH.cons rfl (fun K hK => ?_) AllReadyH.nil
        simp only [List.getElem_toArray, List.getElem_cons_zero, List.getElem_cons_succ]
        go_simp
        refine (parse9_none _ hC htk (HT.out.to B0) HC.out).mono ?_
        rintro e x5 ⟨rfl, hb⟩
        replace V0 := Va.after hb V0
        replace B0 := step B0 hb
        clear hb
        try go_wp2_with fail
        refine hK.out _ _ ⟨V0.c0, V0.c1⟩ (fun hHeld => ?_)
        clear hK K
        refine wpAnyH_take (i := 5) (v := ?_) rfl (by kernel_rfl) (by kernel_rfl) (by kernel_rfl) (fun _ _ _ h => h) (Or.inl ⟨by rfl, ?_⟩) hHeld ?_
        rotate_left
        · (intro W hSw; (try dsimp only at hSw); go_simp; all_goals (with_reducible rfl))
        simp only [List.getElem_toArray, List.getElem_cons_zero, List.getElem_cons_succ, Act.put, List.setIfInBounds_toArray, List.set_cons_zero, List.set_cons_succ]
        refine wpAnyH_take (i := 6) (v := ?_) rfl (by kernel_rfl) (by kernel_rfl) (by kernel_rfl) (fun _ _ _ h => h) (Or.inl ⟨by rfl, ?_⟩) hHeld ?_
        rotate_left
        · (intro W hSw; (try dsimp only at hSw); go_simp; all_goals (with_reducible rfl))
        simp only [List.getElem_toArray, List.getElem_cons_zero, List.getElem_cons_succ, Act.put, List.setIfInBounds_toArray, List.set_cons_zero, List.set_cons_succ]
        refine wpAnyH_take (i := 7) (v := ?_) rfl (by kernel_rfl) (by kernel_rfl) (by kernel_rfl) (fun _ _ _ h => h) (Or.inl ⟨by rfl, ?_⟩) hHeld ?_
        rotate_left
        · (intro W hSw; (try dsimp only at hSw); go_simp; all_goals (with_reducible rfl))
        simp only [List.getElem_toArray, List.getElem_cons_zero, List.getElem_cons_succ, Act.put, List.setIfInBounds_toArray, List.set_cons_zero, List.set_cons_succ]
        refine wpAnyH_take (i := 8) (v := ?_) rfl (by kernel_rfl) (by kernel_rfl) (by kernel_rfl) (fun _ _ _ h => h) (Or.inl ⟨by rfl, ?_⟩) hHeld ?_
        rotate_left
        · (intro W hSw; (try dsimp only at hSw); go_simp; all_goals (with_reducible rfl))
        simp only [List.getElem_toArray, List.getElem_cons_zero, List.getElem_cons_succ, Act.put, List.setIfInBounds_toArray, List.set_cons_zero, List.set_cons_succ]
        refine wpAnyH_take (i := 9) (v := ?_) rfl (by kernel_rfl) (by kernel_rfl) (by kernel_rfl) (fun _ _ _ h => h) (Or.inl ⟨by rfl, ?_⟩) hHeld ?_
        rotate_left
        · (intro W hSw; (try dsimp only at hSw); go_simp; all_goals (with_reducible rfl))
        simp only [List.getElem_toArray, List.getElem_cons_zero, List.getElem_cons_succ, Act.put, List.setIfInBounds_toArray, List.set_cons_zero, List.set_cons_succ]
        refine wpAnyH_take (i := 10) (v := ?_) rfl (by kernel_rfl) (by kernel_rfl) (by kernel_rfl) (fun _ _ _ h => h) (Or.inl ⟨by rfl, ?_⟩) hHeld ?_
        rotate_left
        · (intro W hSw; (try dsimp only at hSw); go_simp; all_goals (with_reducible rfl))
        simp only [List.getElem_toArray, List.getElem_cons_zero, List.getElem_cons_succ, Act.put, List.setIfInBounds_toArray, List.set_cons_zero, List.set_cons_succ]
        refine wpAnyH_take (i := 11) (v := ?_) rfl (by kernel_rfl) (by kernel_rfl) (by kernel_rfl) (fun _ _ _ h => h) (Or.inl ⟨by rfl, ?_⟩) hHeld ?_
        rotate_left
        · (intro W hSw; (try dsimp only at hSw); go_simp; all_goals (with_reducible rfl))
        simp only [List.getElem_toArray, List.getElem_cons_zero, List.getElem_cons_succ, Act.put, List.setIfInBounds_toArray, List.set_cons_zero, List.set_cons_succ]
        refine wpAnyH_done (by kernel_rfl) ?_ _
        refine NoPanic.normal ?_
        clear hHeld
        have c_V0 := V0.c0
        have f0_V0 := V0.frozen 0
        have d_V0 := V0.c1
        have f1_V0 := V0.frozen 1
        have l_V0 := V0.lt
        have m_V0 := Nat.le_of_lt l_V0
        go_wp2_with fail
        go_ret
        exact ⟨by simp, B0⟩
      · have HC : Hid (parR nm D (s.take n) = (n, some u)) := hc
        have hli : (n : Int) < s.length := by omega
        clear hc hr
        have B0 : Below w.heap.size w w := Below.refl _ _
        go_enter Tryz.func3, Tryz.ntmps3
        go_wp2_with fail
        refine ent1 w _ _ (Q := fun W => Calls Tryz.prog _ _ W _) ?_
        intro x1 hb hs_x1 V0
        replace B0 := step B0 hb
        clear hb hs_x1
        refine (awake9 _ (HP.out.to B0) (HT.out.to B0)).mono ?_
        rintro e x2 ⟨rfl, hb⟩
        replace V0 := Va.after hb V0
        replace B0 := step B0 hb
        clear hb
        have c_V0 := V0.c0
        have f0_V0 := V0.frozen 0
        have d_V0 := V0.c1
        have f1_V0 := V0.frozen 1
        have l_V0 := V0.lt
        have m_V0 := Nat.le_of_lt l_V0
        go_wp2_with fail
        refine (parse9_none _ hC hs (HT.out.to B0) HR.out).mono ?_
        rintro e x3 ⟨rfl, hb⟩
        replace V0 := Va.after hb V0
        replace B0 := step B0 hb
        clear hb
        clear c_V0 f0_V0 d_V0 f1_V0 l_V0 m_V0
        have c_V0 := V0.c0
        have f0_V0 := V0.frozen 0
        have d_V0 := V0.c1
        have f1_V0 := V0.frozen 1
        have l_V0 := V0.lt
        have m_V0 := Nat.le_of_lt l_V0
        go_wp2_with fail
        clear c_V0 f0_V0 d_V0 f1_V0 l_V0 m_V0
        refine wp_region_noPanic ?_
        replace V0 : Va x3.drew _ _ _ := V0
        replace B0 := Below.drew B0
        refine wp_region_held_drew (S := (fun W => W.cell? ⟨w.heap.size, 0, none⟩ = some (.string ⟨nm.toArray⟩) ∧ W.cell? ⟨w.heap.size, 1, none⟩ = some (.int .i64 D))) (by kernel_rfl) ⟨V0.c0, V0.c1⟩ (fun hHeld => ?_)
        obtain ⟨x4, hxd⟩ : ∃ xd, xd = x3.drew := ⟨_, rfl⟩
        rw [← hxd] at V0 B0 hHeld ⊢
        clear hxd
        refine wpAnyH_take (i := 0) (v := ?_) rfl (by kernel_rfl) (by kernel_rfl) (by kernel_rfl) (fun _ _ _ h => h) (Or.inl ⟨by rfl, ?_⟩) hHeld ?_
        rotate_left
        · (intro W hSw; (try dsimp only at hSw); go_simp; all_goals (with_reducible rfl))
        simp only [List.getElem_toArray, List.getElem_cons_zero, Act.put, List.setIfInBounds_toArray, List.set_cons_zero, List.set_cons_succ]
        refine wpAnyH_take (i := 1) (v := ?_) rfl (by kernel_rfl) (by kernel_rfl) (by kernel_rfl) (fun _ _ _ h => h) (Or.inl ⟨by rfl, ?_⟩) hHeld ?_
        rotate_left
        · (intro W hSw; (try dsimp only at hSw); go_simp; all_goals (with_reducible rfl))
        simp only [List.getElem_toArray, List.getElem_cons_zero, List.getElem_cons_succ, Act.put, List.setIfInBounds_toArray, List.set_cons_zero, List.set_cons_succ]
        refine wpAnyH_take (i := 2) (v := ?_) rfl (by kernel_rfl) (by kernel_rfl) (by kernel_rfl) (fun _ _ _ h => h) (Or.inl ⟨by rfl, ?_⟩) hHeld ?_
        rotate_left
        · (intro W hSw; (try dsimp only at hSw); go_simp; all_goals (with_reducible rfl))
        simp only [List.getElem_toArray, List.getElem_cons_zero, List.getElem_cons_succ, Act.put, List.setIfInBounds_toArray, List.set_cons_zero, List.set_cons_succ]
        refine wpAnyH_take (i := 3) (v := ?_) rfl (by kernel_rfl) (by kernel_rfl) (by kernel_rfl) (fun _ _ _ h => h) (Or.inl ⟨by rfl, ?_⟩) hHeld ?_
        rotate_left
        · (intro W hSw; (try dsimp only at hSw); go_simp; all_goals (with_reducible rfl))
        simp only [List.getElem_toArray, List.getElem_cons_zero, List.getElem_cons_succ, Act.put, List.setIfInBounds_toArray, List.set_cons_zero, List.set_cons_succ]
        refine wpAnyH_ready (rs := [4]) (by kernel_rfl) (by simp) ?_
        refine AllReadyH.cons rfl (fun K hK => ?_) AllReadyH.nil
        simp only [List.getElem_toArray, List.getElem_cons_zero, List.getElem_cons_succ]
        go_simp
        refine (parse9_some _ hC htk (HT.out.to B0) HC.out).mono ?_
        rintro e x5 ⟨rfl, hb⟩
        replace V0 := Va.after hb V0
        replace B0 := step B0 hb
        clear hb
        try go_wp2_with fail
        refine hK.out _ _ ⟨V0.c0, V0.c1⟩ (fun hHeld => ?_)
        clear hK K
        refine wpAnyH_take (i := 5) (v := ?_) rfl (by kernel_rfl) (by kernel_rfl) (by kernel_rfl) (fun _ _ _ h => h) (Or.inl ⟨by rfl, ?_⟩) hHeld ?_
        rotate_left
        · (intro W hSw; (try dsimp only at hSw); go_simp; all_goals (with_reducible rfl))
        simp only [List.getElem_toArray, List.getElem_cons_zero, List.getElem_cons_succ, Act.put, List.setIfInBounds_toArray, List.set_cons_zero, List.set_cons_succ]
        refine wpAnyH_take (i := 6) (v := ?_) rfl (by kernel_rfl) (by kernel_rfl) (by kernel_rfl) (fun _ _ _ h => h) (Or.inl ⟨by rfl, ?_⟩) hHeld ?_
        rotate_left
        · (intro W hSw; (try dsimp only at hSw); go_simp; all_goals (with_reducible rfl))
        simp only [List.getElem_toArray, List.getElem_cons_zero, List.getElem_cons_succ, Act.put, List.setIfInBounds_toArray, List.set_cons_zero, List.set_cons_succ]
        refine wpAnyH_take (i := 7) (v := ?_) rfl (by kernel_rfl) (by kernel_rfl) (by kernel_rfl) (fun _ _ _ h => h) (Or.inl ⟨by rfl, ?_⟩) hHeld ?_
        rotate_left
        · (intro W hSw; (try dsimp only at hSw); go_simp; all_goals (with_reducible rfl))
        simp only [List.getElem_toArray, List.getElem_cons_zero, List.getElem_cons_succ, Act.put, List.setIfInBounds_toArray, List.set_cons_zero, List.set_cons_succ]
        refine wpAnyH_take (i := 8) (v := ?_) rfl (by kernel_rfl) (by kernel_rfl) (by kernel_rfl) (fun _ _ _ h => h) (Or.inl ⟨by rfl, ?_⟩) hHeld ?_
        rotate_left
        · (intro W hSw; (try dsimp only at hSw); go_simp; all_goals (with_reducible rfl))
        simp only [List.getElem_toArray, List.getElem_cons_zero, List.getElem_cons_succ, Act.put, List.setIfInBounds_toArray, List.set_cons_zero, List.set_cons_succ]
        refine wpAnyH_take (i := 9) (v := ?_) rfl (by kernel_rfl) (by kernel_rfl) (by kernel_rfl) (fun _ _ _ h => h) (Or.inl ⟨by rfl, ?_⟩) hHeld ?_
        rotate_left
        · (intro W hSw; (try dsimp only at hSw); go_simp; all_goals (with_reducible rfl))
        simp only [List.getElem_toArray, List.getElem_cons_zero, List.getElem_cons_succ, Act.put, List.setIfInBounds_toArray, List.set_cons_zero, List.set_cons_succ]
        refine wpAnyH_take (i := 10) (v := ?_) rfl (by kernel_rfl) (by kernel_rfl) (by kernel_rfl) (fun _ _ _ h => h) (Or.inl ⟨by rfl, ?_⟩) hHeld ?_
        rotate_left
        · (intro W hSw; (try dsimp only at hSw); go_simp; all_goals (with_reducible rfl))
        simp only [List.getElem_toArray, List.getElem_cons_zero, List.getElem_cons_succ, Act.put, List.setIfInBounds_toArray, List.set_cons_zero, List.set_cons_succ]
        refine wpAnyH_take (i := 11) (v := ?_) rfl (by kernel_rfl) (by kernel_rfl) (by kernel_rfl) (fun _ _ _ h => h) (Or.inl ⟨by rfl, ?_⟩) hHeld ?_
        rotate_left
        · (intro W hSw; (try dsimp only at hSw); go_simp; all_goals (with_reducible rfl))
        simp only [List.getElem_toArray, List.getElem_cons_zero, List.getElem_cons_succ, Act.put, List.setIfInBounds_toArray, List.set_cons_zero, List.set_cons_succ]
        refine wpAnyH_done (by kernel_rfl) ?_ _
        refine NoPanic.normal ?_
        clear hHeld
        have c_V0 := V0.c0
        have f0_V0 := V0.frozen 0
        have d_V0 := V0.c1
        have f1_V0 := V0.frozen 1
        have l_V0 := V0.lt
        have m_V0 := Nat.le_of_lt l_V0
        go_wp2_with fail
        go_ret
        exact ⟨by simp, B0⟩
  · have hck := check9_no nm D0 hC
    have hps := fun W => parse9_no nm D0 ⟨s.toArray⟩ W hC
    have B0 : Below w.heap.size w w := Below.refl _ _
    go_enter Tryz.func3, Tryz.ntmps3
    go_wp2_with fail
    refine ent1 w _ _ (Q := fun W => Calls Tryz.prog _ _ W _) ?_
    intro x1 hb hs_x1 V0
    replace B0 := step B0 hb
    clear hb hs_x1
    refine (awake9 _ (HP.out.to B0) (HT.out.to B0)).mono ?_
    rintro e x2 ⟨rfl, hb⟩
    replace V0 := Va.after hb V0
    replace B0 := step B0 hb
    clear hb
    have c_V0 := V0.c0
    have f0_V0 := V0.frozen 0
    have d_V0 := V0.c1
    have f1_V0 := V0.frozen 1
    have l_V0 := V0.lt
    have m_V0 := Nat.le_of_lt l_V0
    go_wp2_with fail
    refine (hps _).mono ?_
    rintro e x3 ⟨rfl, hb⟩
    replace V0 := Va.after hb V0
    replace B0 := step B0 hb
    clear hb
    clear c_V0 f0_V0 d_V0 f1_V0 l_V0 m_V0
    have c_V0 := V0.c0
    have f0_V0 := V0.frozen 0
    have d_V0 := V0.c1
    have f1_V0 := V0.frozen 1
    have l_V0 := V0.lt
    have m_V0 := Nat.le_of_lt l_V0
    go_wp2_with fail
    refine (hck _).mono ?_
    rintro e x4 ⟨rfl, hb⟩
    replace V0 := Va.after hb V0
    replace B0 := step B0 hb
    clear hb
    clear c_V0 f0_V0 d_V0 f1_V0 l_V0 m_V0
    have c_V0 := V0.c0
    have f0_V0 := V0.frozen 0
    have d_V0 := V0.c1
    have f1_V0 := V0.frozen 1
    have l_V0 := V0.lt
    have m_V0 := Nat.le_of_lt l_V0
    go_wp2_with fail
    go_ret
    exact ⟨by simp, B0⟩
end Go.Proofs.YtigimdcaakfckabGreatDoor
