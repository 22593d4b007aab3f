/-
  The document's Text of layer 6.
-/
import Derived.Test.YtebbblhafjaaiaaGreatDoorDm1
namespace Go.Proofs.YtebbblhafjaaiaaGreatDoor
open Go.RowKit Go.Shelf
set_option linter.unusedVariables false

/-- told at a decimal's units. -/
theorem told_at (U : Int) (P : Nat) (hP : P ≤ 9) (hU : -9223372036854775808 ≤ U ∧ U ≤ 9223372036854775807) (a : Option Addr) (la ca : Nat) (zs : List Int) (w : World) (h : Sl w a la zs) (hl : la ≤ 1100000) (hn : num zs = (U.natAbs : Int)) :
    Calls Tryz.prog 46 #[.slice a la ca, .int .i64 ((P : Int) + 1)] w fun e w' => ∃ s, e = .returned (.string ⟨s.toArray⟩) ∧ padL P (Go.Lib.decDigits U.natAbs) = s ∧ (P < s.length ∧ s.length ≤ 1000000) ∧ Below w.heap.size w w' := by
  have hb := rtold6 (P + 1) (by omega) a la ca zs w h hl (fun n hn2 => ten_few hn2 (by rw [hn]; omega)) (by rw [hn]; omega)
  rw [show ((P + 1 : Nat) : Int) = (P : Int) + 1 from by omega] at hb
  refine hb.mono ?_
  rintro e x ⟨t, rfl, ht, htl, hb⟩
  rw [hn, Int.toNat_natCast] at ht
  have hu : Go.Lib.decDigits U.natAbs = t := (dec_tx U.natAbs).unique (by omega) (by omega) ht
  refine ⟨_, rfl, by unfold padL; rw [hu], ?_, hb⟩
  rw [List.length_append, List.length_replicate]
  have := ht.pos
  omega
set_option maxHeartbeats 4000000 in
theorem rtext6_ok (U : Int) (P : Nat) (h1 : -9223372036854775808 ≤ U) (h2 : U ≤ 9223372036854775807) (hc : Can U P) (w : World) : Calls Tryz.prog 13 #[.agg #[.int .i64 U, .int .i64 P]] w fun e w' => e = .returned (.tuple #[.string ⟨(dtx U P).toArray⟩, .int .i64 0]) ∧ Below w.heap.size w w' := by
  have HC : Hid (CanI U P) := (canI_iff U P).2 hc
  have hP9 := hc.1
  have HB : Hid (-9223372036854775808 ≤ U ∧ U ≤ 9223372036854775807) := ⟨h1, h2⟩
  clear h1 h2 hc
  have B0 : Below w.heap.size w w := Below.refl _ _
  go_enter Tryz.func13, Tryz.ntmps13
  go_wp2_with fail
  refine ent1 w _ _ (Q := fun W => Calls Tryz.prog _ _ W _) ?_
  intro x1 hb hs_x1 V0
  replace B0 := step B0 hb
  clear hb hs_x1
  refine (rcheck6_ok U P HC.out _).mono ?_
  rintro e x2 ⟨rfl, hb⟩
  replace V0 := Va.after hb V0
  replace B0 := step B0 hb
  clear hb
  have c_V0 := V0.c0
  have f0_V0 := V0.frozen 0
  have d_V0 := V0.c1
  have f1_V0 := V0.frozen 1
  have l_V0 := V0.lt
  have m_V0 := Nat.le_of_lt l_V0
  go_wp2_with fail
  clear c_V0 f0_V0 d_V0 f1_V0 l_V0 m_V0
  have wP1 : IntKind.i64.wrap ((P : Int) + 1) = (P : Int) + 1 := by rw [IntKind.wrap_i64]; omega
  refine wp_region_noPanic ?_
  replace V0 : Va x2.drew _ _ _ := V0
  replace B0 := Below.drew B0
  refine wp_region_held_drew (S := (fun W => W.cell? ⟨w.heap.size, 0, none⟩ = some (.int .i64 U) ∧ W.cell? ⟨w.heap.size, 1, none⟩ = some (.int .i64 P))) (by kernel_rfl) ⟨V0.c0, V0.c1⟩ (fun hHeld => ?_)
  obtain ⟨x3, hxd⟩ : ∃ xd, xd = x2.drew := ⟨_, rfl⟩
  rw [← hxd] at V0 B0 hHeld ⊢
  clear hxd
  refine wpAnyH_take (i := 0) (v := ?_) rfl (by kernel_rfl) (by kernel_rfl) (by kernel_rfl) (fun _ _ _ h => h) (Or.inl ⟨by rfl, ?_⟩) hHeld ?_
  rotate_left
  · (intro W hSw; (try dsimp only at hSw); go_simp; all_goals (with_reducible rfl))
  simp only [List.getElem_toArray, List.getElem_cons_zero, Act.put, List.setIfInBounds_toArray, List.set_cons_zero, List.set_cons_succ]
  refine wpAnyH_take (i := 1) (v := ?_) rfl (by kernel_rfl) (by kernel_rfl) (by kernel_rfl) (fun _ _ _ h => h) (Or.inl ⟨by rfl, ?_⟩) hHeld ?_
  rotate_left
  · (intro W hSw; (try dsimp only at hSw); go_simp; all_goals (with_reducible rfl))
  simp only [List.getElem_toArray, List.getElem_cons_zero, List.getElem_cons_succ, Act.put, List.setIfInBounds_toArray, List.set_cons_zero, List.set_cons_succ]
  refine wpAnyH_take (i := 4) (v := ?_) rfl (by kernel_rfl) (by kernel_rfl) (by kernel_rfl) (fun _ _ _ h => h) (Or.inl ⟨by rfl, ?_⟩) hHeld ?_
  rotate_left
  · (intro W hSw; (try dsimp only at hSw); go_simp; all_goals (with_reducible rfl))
  simp only [List.getElem_toArray, List.getElem_cons_zero, List.getElem_cons_succ, Act.put, List.setIfInBounds_toArray, List.set_cons_zero, List.set_cons_succ]
  refine wpAnyH_take (i := 5) (v := ?_) rfl (by kernel_rfl) (by kernel_rfl) (by kernel_rfl) (fun _ _ _ h => h) (Or.inl ⟨by rfl, ?_⟩) hHeld ?_
  rotate_left
  · (intro W hSw; (try dsimp only at hSw); go_simp; all_goals (with_reducible rfl))
  simp only [List.getElem_toArray, List.getElem_cons_zero, List.getElem_cons_succ, Act.put, List.setIfInBounds_toArray, List.set_cons_zero, List.set_cons_succ]
  refine wpAnyH_take (i := 6) (v := ?_) rfl (by kernel_rfl) (by kernel_rfl) (by kernel_rfl) (fun _ _ _ h => h) (Or.inl ⟨by rfl, ?_⟩) hHeld ?_
  rotate_left
  · (intro W hSw; (try dsimp only at hSw); go_simp; all_goals (with_reducible rfl))
  simp only [List.getElem_toArray, List.getElem_cons_zero, List.getElem_cons_succ, Act.put, List.setIfInBounds_toArray, List.set_cons_zero, List.set_cons_succ]
  refine wpAnyH_ready (rs := [2]) (by kernel_rfl) (by simp) ?_
  refine AllReadyH.cons rfl (fun K hK => ?_) AllReadyH.nil
  simp only [List.getElem_toArray, List.getElem_cons_zero, List.getElem_cons_succ]
  go_simp
  refine (rsize6 U HB.out.1 HB.out.2 _).mono ?_
  rintro e xw ⟨rfl, hw⟩
  rw [hw]
  clear hw
  try go_wp2_with fail
  refine hK.out _ _ ⟨V0.c0, V0.c1⟩ (fun hHeld => ?_)
  clear hK K
  refine wpAnyH_ready (rs := [3]) (by kernel_rfl) (by simp) ?_
  refine AllReadyH.cons rfl (fun K hK => ?_) AllReadyH.nil
  simp only [List.getElem_toArray, List.getElem_cons_zero, List.getElem_cons_succ]
  go_simp
  refine (rsmall_any (U.natAbs : Int) ⟨by omega, by have h5 := HB.out; omega⟩ _).mono ?_
  rintro e x4 ⟨a1, m1, c1, z1, rfl, hc1, hm1, h1, hu1, hn1, hb⟩
  replace V0 := Va.after hb V0
  replace B0 := step B0 hb
  clear hb
  try go_wp2_with fail
  refine hK.out _ _ ⟨V0.c0, V0.c1⟩ (fun hHeld => ?_)
  clear hK K
  refine wpAnyH_ready (rs := [7]) (by kernel_rfl) (by simp) ?_
  refine AllReadyH.cons rfl (fun K hK => ?_) AllReadyH.nil
  simp only [List.getElem_toArray, List.getElem_cons_zero, List.getElem_cons_succ]
  go_simp
  refine (told_at U P hP9 HB.out a1 m1 c1 z1 _ h1 (by omega) hn1).mono ?_
  rintro e x5 ⟨s, rfl, hsl, hs5, hb⟩
  replace V0 := Va.after hb V0
  replace B0 := step B0 hb
  clear hb h1 hu1 hn1
  try go_wp2_with fail
  refine hK.out _ _ ⟨V0.c0, V0.c1⟩ (fun hHeld => ?_)
  clear hK K
  refine wpAnyH_take (i := 8) (v := ?_) rfl (by kernel_rfl) (by kernel_rfl) (by kernel_rfl) (fun _ _ _ h => h) (Or.inl ⟨by rfl, ?_⟩) hHeld ?_
  rotate_left
  · (intro W hSw; (try dsimp only at hSw); go_simp; all_goals (with_reducible rfl))
  simp only [List.getElem_toArray, List.getElem_cons_zero, List.getElem_cons_succ, Act.put, List.setIfInBounds_toArray, List.set_cons_zero, List.set_cons_succ]
  refine wpAnyH_done (by kernel_rfl) ?_ _
  refine NoPanic.normal ?_
  clear hHeld
  have c_V0 := V0.c0
  have f0_V0 := V0.frozen 0
  have d_V0 := V0.c1
  have f1_V0 := V0.frozen 1
  have l_V0 := V0.lt
  have m_V0 := Nat.le_of_lt l_V0
  have HS : Hid (textL (decide (U < 0)) P (Go.Lib.decDigits U.natAbs) = sgL (decide (U < 0)) (ptL P s)) := by show textL _ _ _ = _; unfold textL; rw [hsl]
  have hsP : P < s.length ∧ s.length ≤ 1000000 := hs5
  clear hsl hs5
  obtain ⟨neg, hng⟩ : ∃ neg, decide (U < 0) = neg := ⟨_, rfl⟩
  rw [hng] at HS
  go_wp2_with fail
  refine (rpointed6 s P neg hsP.1 hsP.2 _).mono ?_
  rintro e x7 ⟨rfl, hb⟩
  replace B0 := step B0 hb
  clear hb
  go_wp2_with fail
  go_ret2
  exact ⟨by unfold dtx; rw [hng, HS.out]; rfl, B0⟩
end Go.Proofs.YtebbblhafjaaiaaGreatDoor
