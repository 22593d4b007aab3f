/-
  decimal.Text.
-/
import Derived.Test.YtebbblhafjaaiaaGreatDoorDec2
import Derived.Test.YtebbblhafjaaiaaGreatDoorBsM
namespace Go.Proofs.YtebbblhafjaaiaaGreatDoor
open Go.RowKit Go.Shelf
set_option linter.unusedVariables false

theorem text_dec (a : Option Addr) (l c : Nat) (xs : List Int) (w : World) (h : Nt w a l c xs) (hlt : num xs < 10000000000000000000) (hT : Pt w) :
    Calls Tryz.prog 103 #[.agg #[.slice a l c], .int .i64 10] w fun e W' => e = .returned (.tuple #[.string ⟨(Go.Lib.decDigits (num xs).toNat).toArray⟩, .int .i64 0]) ∧ Below w.heap.size w W' := by
  refine (text_small a l c xs w h hlt hT).mono ?_
  rintro e W' ⟨t, rfl, ht, hb⟩
  rw [ht.unique (by omega) (by omega) (dec_tx _)]
  exact ⟨rfl, hb⟩
theorem dec_len {n : Nat} (h : n < 10 ^ 19) : 0 < (Go.Lib.decDigits n).length ∧ (Go.Lib.decDigits n).length ≤ 19 := ⟨(dec_tx n).pos, (dec_tx n).le (by omega) h (by omega)⟩
/-- The text of a decimal that may be. -/
def dtx (U : Int) (P : Nat) : List UInt8 := textL (decide (U < 0)) P (Go.Lib.decDigits U.natAbs)
set_option maxHeartbeats 4000000 in
theorem dtext_ok (U : Int) (P : Nat) (h1 : -9223372036854775808 ≤ U) (h2 : U ≤ 9223372036854775807) (hc : Can U P) (w : World) (hT : Pt w) :
    Calls Tryz.prog 14 #[.agg #[.int .i64 U, .int .i64 P]] w fun e W' => e = .returned (.tuple #[.string ⟨(dtx U P).toArray⟩, .int .i64 0]) ∧ Below w.heap.size w W' := by
  have HC : Hid (CanI U P) := (canI_iff U P).2 hc
  have hP := hc.1
  clear hc
  have B0 : Below w.heap.size w w := Below.refl _ _
  go_enter Tryz.func14, Tryz.ntmps14
  go_wp2_with fail
  refine ent1 w _ _ (Q := fun W => Calls Tryz.prog _ _ W _) ?_
  intro x1 hb hs_x1 V0
  replace B0 := step B0 hb
  clear hb hs_x1
  refine (check_ok U P HC.out _).mono ?_
  rintro e x2 ⟨rfl, hb⟩
  replace V0 := Va.after hb V0
  replace B0 := step B0 hb
  clear hb
  have c_V0 := V0.c0
  have f0_V0 := V0.frozen 0
  have d_V0 := V0.c1
  have f1_V0 := V0.frozen 1
  have l_V0 := V0.lt
  have m_V0 := Nat.le_of_lt l_V0
  go_wp2_with fail
  clear c_V0 f0_V0 d_V0 f1_V0 l_V0 m_V0
  refine wp_region_noPanic ?_
  replace V0 : Va x2.drew _ _ _ := V0
  replace B0 := Below.drew B0
  refine wp_region_held_drew (S := (fun W => W.cell? ⟨w.heap.size, 0, none⟩ = some (.int .i64 U) ∧ W.cell? ⟨w.heap.size, 1, none⟩ = some (.int .i64 P))) (by kernel_rfl) ⟨V0.c0, V0.c1⟩ (fun hHeld => ?_)
  obtain ⟨x3, hxd⟩ : ∃ xd, xd = x2.drew := ⟨_, rfl⟩
  rw [← hxd] at V0 B0 hHeld ⊢
  clear hxd
  refine wpAnyH_take (i := 0) (v := ?_) rfl (by kernel_rfl) (by kernel_rfl) (by kernel_rfl) (fun _ _ _ h => h) (Or.inl ⟨by rfl, ?_⟩) hHeld ?_
  rotate_left
  · (intro W hSw; (try dsimp only at hSw); go_simp; all_goals (with_reducible rfl))
  simp only [List.getElem_toArray, List.getElem_cons_zero, Act.put, List.setIfInBounds_toArray, List.set_cons_zero, List.set_cons_succ]
  refine wpAnyH_take (i := 1) (v := ?_) rfl (by kernel_rfl) (by kernel_rfl) (by kernel_rfl) (fun _ _ _ h => h) (Or.inl ⟨by rfl, ?_⟩) hHeld ?_
  rotate_left
  · (intro W hSw; (try dsimp only at hSw); go_simp; all_goals (with_reducible rfl))
  simp only [List.getElem_toArray, List.getElem_cons_zero, List.getElem_cons_succ, Act.put, List.setIfInBounds_toArray, List.set_cons_zero, List.set_cons_succ]
  refine wpAnyH_take (i := 2) (v := ?_) rfl (by kernel_rfl) (by kernel_rfl) (by kernel_rfl) (fun _ _ _ h => h) (Or.inl ⟨by rfl, ?_⟩) hHeld ?_
  rotate_left
  · (intro W hSw; (try dsimp only at hSw); go_simp; all_goals (with_reducible rfl))
  simp only [List.getElem_toArray, List.getElem_cons_zero, List.getElem_cons_succ, Act.put, List.setIfInBounds_toArray, List.set_cons_zero, List.set_cons_succ]
  refine wpAnyH_take (i := 3) (v := ?_) rfl (by kernel_rfl) (by kernel_rfl) (by kernel_rfl) (fun _ _ _ h => h) (Or.inl ⟨by rfl, ?_⟩) hHeld ?_
  rotate_left
  · (intro W hSw; (try dsimp only at hSw); go_simp; all_goals (with_reducible rfl))
  simp only [List.getElem_toArray, List.getElem_cons_zero, List.getElem_cons_succ, Act.put, List.setIfInBounds_toArray, List.set_cons_zero, List.set_cons_succ]
  refine wpAnyH_take (i := 4) (v := ?_) rfl (by kernel_rfl) (by kernel_rfl) (by kernel_rfl) (fun _ _ _ h => h) (Or.inl ⟨by rfl, ?_⟩) hHeld ?_
  rotate_left
  · (intro W hSw; (try dsimp only at hSw); go_simp; all_goals (with_reducible rfl))
  simp only [List.getElem_toArray, List.getElem_cons_zero, List.getElem_cons_succ, Act.put, List.setIfInBounds_toArray, List.set_cons_zero, List.set_cons_succ]
  refine wpAnyH_take (i := 7) (v := ?_) rfl (by kernel_rfl) (by kernel_rfl) (by kernel_rfl) (fun _ _ _ h => h) (Or.inl ⟨by rfl, ?_⟩) hHeld ?_
  rotate_left
  · (intro W hSw; (try dsimp only at hSw); go_simp; all_goals (with_reducible rfl))
  simp only [List.getElem_toArray, List.getElem_cons_zero, List.getElem_cons_succ, Act.put, List.setIfInBounds_toArray, List.set_cons_zero, List.set_cons_succ]
  refine wpAnyH_take (i := 8) (v := ?_) rfl (by kernel_rfl) (by kernel_rfl) (by kernel_rfl) (fun _ _ _ h => h) (Or.inl ⟨by rfl, ?_⟩) hHeld ?_
  rotate_left
  · (intro W hSw; (try dsimp only at hSw); go_simp; all_goals (with_reducible rfl))
  simp only [List.getElem_toArray, List.getElem_cons_zero, List.getElem_cons_succ, Act.put, List.setIfInBounds_toArray, List.set_cons_zero, List.set_cons_succ]
  refine wpAnyH_ready (rs := [5]) (by kernel_rfl) (by simp) ?_
  refine AllReadyH.cons rfl (fun K hK => ?_) AllReadyH.nil
  simp only [List.getElem_toArray, List.getElem_cons_zero, List.getElem_cons_succ]
  go_simp
  refine (wsmall_any U h1 h2 _).mono ?_
  rintro e x4 ⟨s, a, l, c, zs, rfl, hI, hv, hb⟩
  replace V0 := Va.after hb V0
  replace B0 := step B0 hb
  clear hb
  try go_wp2_with fail
  refine hK.out _ _ ⟨V0.c0, V0.c1⟩ (fun hHeld => ?_)
  clear hK K
  refine wpAnyH_ready (rs := [6]) (by kernel_rfl) (by simp) ?_
  refine AllReadyH.cons rfl (fun K hK => ?_) AllReadyH.nil
  simp only [List.getElem_toArray, List.getElem_cons_zero, List.getElem_cons_succ]
  go_simp
  refine (wabs_any s a l c _).mono ?_
  rintro e x5 ⟨rfl, hb⟩
  replace V0 := Va.after hb V0
  replace hI := It.after hb hI
  replace B0 := step B0 hb
  clear hb
  try go_wp2_with fail
  refine hK.out _ _ ⟨V0.c0, V0.c1⟩ (fun hHeld => ?_)
  clear hK K
  have HV : Hid (num zs = U.natAbs) := by have := hI.abs; rw [hv] at this; exact this
  refine wpAnyH_ready (rs := [9]) (by kernel_rfl) (by simp) ?_
  refine AllReadyH.cons rfl (fun K hK => ?_) AllReadyH.nil
  simp only [List.getElem_toArray, List.getElem_cons_zero, List.getElem_cons_succ]
  go_simp
  refine (written_a (decide (U < 0)) P (by omega) a l c _ (Go.Lib.decDigits U.natAbs) (by have := (dec_len (n := U.natAbs) (by omega)).2; omega) (dec_len (n := U.natAbs) (by omega)).1 (fun W hb => by have := text_dec a l c zs W (Nt.after hb hI.1) (by rw [HV.out]; omega) (hT.to (step B0 hb)); rw [show (num zs).toNat = U.natAbs by rw [HV.out]; rfl] at this; exact this)).mono ?_
  rintro e x6 ⟨rfl, hb⟩
  replace V0 := Va.after hb V0
  replace hI := It.after hb hI
  replace B0 := step B0 hb
  clear hb
  try go_wp2_with fail
  refine hK.out _ _ ⟨V0.c0, V0.c1⟩ (fun hHeld => ?_)
  clear hK K
  refine wpAnyH_take (i := 10) (v := ?_) rfl (by kernel_rfl) (by kernel_rfl) (by kernel_rfl) (fun _ _ _ h => h) (Or.inl ⟨by rfl, ?_⟩) hHeld ?_
  rotate_left
  · (intro W hSw; (try dsimp only at hSw); go_simp; all_goals (with_reducible rfl))
  simp only [List.getElem_toArray, List.getElem_cons_zero, List.getElem_cons_succ, Act.put, List.setIfInBounds_toArray, List.set_cons_zero, List.set_cons_succ]
  refine wpAnyH_take (i := 11) (v := ?_) rfl (by kernel_rfl) (by kernel_rfl) (by kernel_rfl) (fun _ _ _ h => h) (Or.inl ⟨by rfl, ?_⟩) hHeld ?_
  rotate_left
  · (intro W hSw; (try dsimp only at hSw); go_simp; all_goals (with_reducible rfl))
  simp only [List.getElem_toArray, List.getElem_cons_zero, List.getElem_cons_succ, Act.put, List.setIfInBounds_toArray, List.set_cons_zero, List.set_cons_succ]
  refine wpAnyH_done (by kernel_rfl) ?_ _
  refine NoPanic.normal ?_
  clear hHeld
  go_wp2_with fail
  go_ret2
  exact ⟨rfl, B0⟩
end Go.Proofs.YtebbblhafjaaiaaGreatDoor
