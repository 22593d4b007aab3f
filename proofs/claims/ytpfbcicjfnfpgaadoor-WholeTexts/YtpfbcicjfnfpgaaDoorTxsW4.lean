/-
  The walk of WholeTexts.
-/
import Derived.Test.YtpfbcicjfnfpgaaDoorTwW
namespace Go.Proofs.YtpfbcicjfnfpgaaDoor
open Go.RowKit Go.Shelf
set_option linter.unusedVariables false
theorem rtext4_nought (s : Bool) (a : Option Addr) (c : Nat) (w : World) :
    Calls Tryd.prog 6 #[.agg #[.bool s, .slice a 0 c]] w fun e W' => e = .returned (.string ⟨#[48]⟩) ∧ Below w.heap.size w W' := by
  have B0 : Below w.heap.size w w := Below.refl _ _
  go_enter Tryd.func6, Tryd.ntmps6
  go_wp2_with fail
  go_ret
  exact ⟨rfl, B0.alloc (Nat.le_refl _) _⟩
/-- The document's Text of any number. -/
theorem rtext4_any (s : Bool) (a : Option Addr) (l c : Nat) (zs : List Int) (w : World) (h : Ir w s a l c zs) (hl : l ≤ 4096) :
    Calls Tryd.prog 6 #[.agg #[.bool s, .slice a l c]] w fun e W' => ∃ t, e = .returned (.string ⟨(sg s ++ t).toArray⟩) ∧ Tx 10 t (num zs).toNat ∧ Below w.heap.size w W' := by
  rcases Nat.eq_zero_or_pos l with h0 | h0
  · subst h0
    have hn : num zs = 0 := (num_eq_zero h.1.2.1).2 h.2.1
    have hs : s = false := by
      cases s
      · rfl
      · exact absurd hn (h.2.2.2.2 rfl)
    subst hs
    refine (rtext4_nought false a c w).mono ?_
    rintro e W' ⟨rfl, hb⟩
    exact ⟨[48], rfl, by rw [hn]; exact Tx.zero (by omega), hb⟩
  · exact rtext4 s a l c zs w h hl h0
set_option maxHeartbeats 4000000 in
theorem wtexts_walk (s : Bool) (a : Option Addr) (l c : Nat) (zs : List Int) (w : World) (h : Sl w a l zs) (hc : l ≤ c) (he : a = none → l = 0 ∧ c = 0) (hP : Pt w) :
    Calls Tryd.prog 3 #[.agg #[.bool s, .slice a l c]] w fun e w' => e = .returned (.bool true) ∧ Below w.heap.size w w' := by
  have HP : Hid (Pt w) := hP
  clear hP
  have B0 : Below w.heap.size w w := Below.refl _ _
  go_enter Tryd.func3, Tryd.ntmps3
  go_wp2_with fail
  refine ent1 w _ _ (Q := fun W => Calls Tryd.prog _ _ W _) ?_
  intro x1 hb hs1 V1
  replace h := Sl.after hb h
  replace B0 := step B0 hb
  clear hb hs1 V1
  refine (oflaw4 s a l c zs _ h he hc).mono ?_
  rintro e x2 ⟨s', a', l', c', zs', a2, c2, rfl, hI, hR, -, hb⟩
  replace B0 := step B0 hb
  clear hb h
  go_wp2_with fail
  refine ent2 x2 _ _ _ _ (Q := fun W => Code.wp Tryd.prog _ _ _ W) ?_
  intro x3 hb hs3 VI VW
  replace hI := It.after hb hI
  replace hR := Ir.after hb hR
  replace B0 := step B0 hb
  clear hb hs3
  refine wp_region_noPanic ?_
  replace VI : Va x3.drew _ _ _ := VI
  replace VW : Va x3.drew _ _ _ := VW
  replace B0 := Below.drew B0
  refine wp_region_held_drew (S := (fun W => (W.cell? ⟨x2.heap.size, 0, none⟩ = some (.bool s') ∧ W.cell? ⟨x2.heap.size, 1, none⟩ = some (.slice a' l' c')) ∧ (W.cell? ⟨x2.heap.size + 1, 0, none⟩ = some (.bool s') ∧ W.cell? ⟨x2.heap.size + 1, 1, none⟩ = some (.slice a2 l' c2)))) (by kernel_rfl) ⟨⟨VI.c0, VI.c1⟩, ⟨VW.c0, VW.c1⟩⟩ (fun hHeld => ?_)
  obtain ⟨x4, hxd⟩ : ∃ xd, xd = x3.drew := ⟨_, rfl⟩
  rw [← hxd] at VI VW B0 hHeld ⊢
  have qd := hI.drw
  rw [← hxd] at qd
  replace hI := qd
  clear qd
  have qd := hR.drw
  rw [← hxd] at qd
  replace hR := qd
  clear qd
  clear hxd
  refine wpAnyH_take (i := 0) (v := ?_) rfl (by kernel_rfl) (by kernel_rfl) (by kernel_rfl) (fun _ _ _ h => h) (Or.inl ⟨by rfl, ?_⟩) hHeld ?_
  rotate_left
  · (intro W hSw; (try dsimp only at hSw); go_simp; all_goals (with_reducible rfl))
  simp only [List.getElem_toArray, List.getElem_cons_zero, Act.put, List.setIfInBounds_toArray, List.set_cons_zero, List.set_cons_succ]
  refine wpAnyH_take (i := 1) (v := ?_) rfl (by kernel_rfl) (by kernel_rfl) (by kernel_rfl) (fun _ _ _ h => h) (Or.inl ⟨by rfl, ?_⟩) hHeld ?_
  rotate_left
  · (intro W hSw; (try dsimp only at hSw); go_simp; all_goals (with_reducible rfl))
  simp only [List.getElem_toArray, List.getElem_cons_zero, List.getElem_cons_succ, Act.put, List.setIfInBounds_toArray, List.set_cons_zero, List.set_cons_succ]
  refine wpAnyH_take (i := 2) (v := ?_) rfl (by kernel_rfl) (by kernel_rfl) (by kernel_rfl) (fun _ _ _ h => h) (Or.inl ⟨by rfl, ?_⟩) hHeld ?_
  rotate_left
  · (intro W hSw; (try dsimp only at hSw); go_simp; all_goals (with_reducible rfl))
  simp only [List.getElem_toArray, List.getElem_cons_zero, List.getElem_cons_succ, Act.put, List.setIfInBounds_toArray, List.set_cons_zero, List.set_cons_succ]
  refine wpAnyH_take (i := 4) (v := ?_) rfl (by kernel_rfl) (by kernel_rfl) (by kernel_rfl) (fun _ _ _ h => h) (Or.inl ⟨by rfl, ?_⟩) hHeld ?_
  rotate_left
  · (intro W hSw; (try dsimp only at hSw); go_simp; all_goals (with_reducible rfl))
  simp only [List.getElem_toArray, List.getElem_cons_zero, List.getElem_cons_succ, Act.put, List.setIfInBounds_toArray, List.set_cons_zero, List.set_cons_succ]
  refine wpAnyH_ready (rs := [3]) (by kernel_rfl) (by simp) ?_
  refine AllReadyH.cons rfl (fun K hK => ?_) AllReadyH.nil
  simp only [List.getElem_toArray, List.getElem_cons_zero, List.getElem_cons_succ]
  go_simp
  refine (wtext_any s' a' l' c' zs' _ hI (HP.out.to B0)).mono ?_
  rintro e x5 ⟨t1, rfl, tx1, hb⟩
  replace VI := Va.after hb VI
  replace VW := Va.after hb VW
  replace B0 := step B0 hb
  replace hR := Ir.after hb hR
  clear hb
  try go_wp2_with fail
  refine hK.out _ _ ⟨⟨VI.c0, VI.c1⟩, ⟨VW.c0, VW.c1⟩⟩ (fun hHeld => ?_)
  clear hK K
  refine wpAnyH_ready (rs := [5]) (by kernel_rfl) (by simp) ?_
  refine AllReadyH.cons rfl (fun K hK => ?_) AllReadyH.nil
  simp only [List.getElem_toArray, List.getElem_cons_zero, List.getElem_cons_succ]
  go_simp
  refine (rtext4_any s' a2 l' c2 zs' _ hR hI.1.2.2.2).mono ?_
  rintro e x6 ⟨t2, rfl, tx2, hb⟩
  replace VI := Va.after hb VI
  replace VW := Va.after hb VW
  replace B0 := step B0 hb
  clear hb
  obtain rfl := Tx.unique (by omega) (by omega) tx1 tx2
  clear tx1 tx2
  obtain ⟨T, hT⟩ : ∃ T, sg s' ++ t1 = T := ⟨_, rfl⟩
  rw [hT]
  clear hT
  have bT : (T == T) = true := beq_self_eq_true _
  try go_wp2_with fail
  refine hK.out _ _ ⟨⟨VI.c0, VI.c1⟩, ⟨VW.c0, VW.c1⟩⟩ (fun hHeld => ?_)
  clear hK K
  refine wpAnyH_take (i := 6) (v := ?_) rfl (by kernel_rfl) (by kernel_rfl) (by kernel_rfl) (fun _ _ _ h => h) (Or.inl ⟨by rfl, ?_⟩) hHeld ?_
  rotate_left
  · (intro W hSw; (try dsimp only at hSw); go_simp; all_goals (with_reducible rfl))
  simp only [List.getElem_toArray, List.getElem_cons_zero, List.getElem_cons_succ, Act.put, List.setIfInBounds_toArray, List.set_cons_zero, List.set_cons_succ]
  refine wpAnyH_take (i := 7) (v := ?_) rfl (by kernel_rfl) (by kernel_rfl) (by kernel_rfl) (fun _ _ _ h => h) (Or.inl ⟨by rfl, ?_⟩) hHeld ?_
  rotate_left
  · (intro W hSw; (try dsimp only at hSw); go_simp; all_goals (with_reducible rfl))
  simp only [List.getElem_toArray, List.getElem_cons_zero, List.getElem_cons_succ, Act.put, List.setIfInBounds_toArray, List.set_cons_zero, List.set_cons_succ]
  refine wpAnyH_take (i := 8) (v := ?_) rfl (by kernel_rfl) (by kernel_rfl) (by kernel_rfl) (fun _ _ _ h => h) (Or.inl ⟨by rfl, ?_⟩) hHeld ?_
  rotate_left
  · (intro W hSw; (try dsimp only at hSw); go_simp; all_goals (with_reducible rfl))
  simp only [List.getElem_toArray, List.getElem_cons_zero, List.getElem_cons_succ, Act.put, List.setIfInBounds_toArray, List.set_cons_zero, List.set_cons_succ]
  refine wpAnyH_done (by kernel_rfl) ?_ _
  refine NoPanic.normal ?_
  clear hHeld
  go_wp2_with fail
  go_ret
  exact ⟨rfl, B0⟩
end Go.Proofs.YtpfbcicjfnfpgaaDoor
