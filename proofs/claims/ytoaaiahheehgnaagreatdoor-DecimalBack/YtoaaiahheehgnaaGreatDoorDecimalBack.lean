/-
  For every int64 and every int DecimalBack returns true; its arguments read as before. Conditions: the listed variables hold what the program's text lays.
-/
import Derived.Test.YtoaaiahheehgnaaGreatDoorDec3
import Derived.Test.YtoaaiahheehgnaaGreatDoorDec6
import Derived.Test.YtoaaiahheehgnaaGreatDoorDec7
import Derived.Test.YtoaaiahheehgnaaGreatDoorWh3
import Derived.Test.YtoaaiahheehgnaaGreatDoorWh8a
import Derived.Test.YtoaaiahheehgnaaGreatDoorBsH
import Derived.Test.YtoaaiahheehgnaaGreatDoorRows
import Derived.Test.YtoaaiahheehgnaaGreatDoorFmt10
import Derived.Lib.LaidTab
import Derived.Stop.LaidErr
import Derived.Test.YtoaaiahheehgnaaGreatDoorCards
import Derived.Test.YtoaaiahheehgnaaGreatDoorTie
import Derived.Lay
import Derived.LaidLaws
import Derived.MakeChecks
import Derived.SevenTiedAt
import Derived.WalkKit
import Derived.ProofKit
import Derived.OpenShut
import Derived.ShutString
import Derived.ChangeOld
import Derived.SizedLaws
namespace Go.Proofs.YtoaaiahheehgnaaGreatDoor
open Go.RowKit Go.Shelf
set_option linter.unusedVariables false

theorem aw1 : readL [45, 50, 46, 53, 48] = (-25, 1, 0, 0) := by decide
theorem aw2 : readL [53, 46, 120] = (0, 0, 2, 60) := by decide
theorem aw3 : dtx (-5) 2 = [45, 48, 46, 48, 53] := by
  unfold dtx
  rw [show Int.natAbs (-5) = 5 from rfl, Go.Lib.decDigits_one (by omega)]
  decide
set_option maxHeartbeats 4000000 in
theorem awake6 (w : World) (hT : Pt w) : Calls Tryz.prog 17 #[] w fun e W' => e = .returned (.bool true) ∧ Below w.heap.size w W' := by
  have p1 := parse_dec [45, 50, 46, 53, 48] (by decide)
  rw [aw1] at p1
  have p2 := parse_dec [53, 46, 120] (by decide)
  rw [aw2] at p2
  have HT : Hid (Pt w) := hT
  clear hT
  have B0 : Below w.heap.size w w := Below.refl _ _
  go_enter Tryz.func17, Tryz.ntmps17
  go_wp2_with fail
  refine (p1 _).mono ?_
  rintro e x1 ⟨rfl, hb⟩
  replace B0 := step B0 hb
  clear hb
  go_wp2_with fail
  refine ent1 x1 _ _ (Q := fun W => Calls Tryz.prog _ _ W _) ?_
  intro x2 hb hs_x2 V0
  replace B0 := step B0 hb
  clear hb hs_x2
  have t1 := dtext_ok (-5) 2 (by omega) (by omega) ⟨by omega, fun _ => by decide⟩ x2 (HT.out.to B0)
  rw [aw3] at t1
  refine (t1).mono ?_
  rintro e x3 ⟨rfl, hb⟩
  replace V0 := Va.after hb V0
  replace B0 := step B0 hb
  clear hb
  have c_V0 := V0.c0
  have f0_V0 := V0.frozen 0
  have d_V0 := V0.c1
  have f1_V0 := V0.frozen 1
  have l_V0 := V0.lt
  have m_V0 := Nat.le_of_lt l_V0
  go_wp2_with fail
  refine (p2 _).mono ?_
  rintro e x4 ⟨rfl, hb⟩
  replace V0 := Va.after hb V0
  replace B0 := step B0 hb
  clear hb
  clear c_V0 f0_V0 d_V0 f1_V0 l_V0 m_V0
  have c_V0 := V0.c0
  have f0_V0 := V0.frozen 0
  have d_V0 := V0.c1
  have f1_V0 := V0.frozen 1
  have l_V0 := V0.lt
  have m_V0 := Nat.le_of_lt l_V0
  go_wp2_with fail
  refine ent1 x4 _ _ (Q := fun W => Calls Tryz.prog _ _ W _) ?_
  intro x5 hb hs_x5 V1
  replace V0 := Va.after hb V0
  replace B0 := step B0 hb
  clear hb hs_x5
  refine (check_no 20 1 (fun h => h.2.2 (by omega) rfl) _).mono ?_
  rintro e x6 ⟨rfl, hb⟩
  replace V0 := Va.after hb V0
  replace V1 := Va.after hb V1
  replace B0 := step B0 hb
  clear hb
  clear c_V0 f0_V0 d_V0 f1_V0 l_V0 m_V0
  go_wp2_with fail
  go_ret
  exact ⟨rfl, B0⟩
end Go.Proofs.YtoaaiahheehgnaaGreatDoor
namespace Go.Proofs.YtoaaiahheehgnaaGreatDoor
open Go.RowKit Go.Shelf
set_option linter.unusedVariables false

/-- Units and places, or an error where the units are not of 64 bits. -/
def frp (x : Int) (P : Nat) : Int × Nat × Int := if -9223372036854775808 ≤ x ∧ x ≤ 9223372036854775807 then (x, P, 0) else (0, 0, 5)
set_option maxHeartbeats 8000000 in
theorem frp_in (s : Bool) (a : Option Addr) (l c : Nat) (zs : List Int) (N T : Int) (P : Nat) (w : World) (hN : It w s a l c zs) (hv : iv s zs = N) (t1 : -9223372036854775808 ≤ T) (t2 : T ≤ 9223372036854775807) (hf : ((N * T).natAbs : Int) < pw 4096) (hx : -9223372036854775808 ≤ N * T ∧ N * T ≤ 9223372036854775807) :
    Calls Tryz.prog 64 #[.agg #[.bool s, .slice a l c], .int .i64 T, .int .i64 P] w fun e W' => e = .returned (.tuple #[.agg #[.int .i64 (N * T), .int .i64 P], .int .i64 0]) ∧ Below w.heap.size w W' := by
  have HV : Hid (iv s zs = N) := hv
  have HF : Hid _ := hf
  have HX : Hid _ := hx
  clear hv hf hx
  have B0 : Below w.heap.size w w := Below.refl _ _
  go_enter Tryz.func64, Tryz.ntmps64
  go_wp2_with fail
  refine ent2 w _ _ _ _ (Q := fun W => Code.wp Tryz.prog _ _ _ W) ?_
  intro x1 hb hs_x1 V0 V1
  replace hN := It.after hb hN
  replace B0 := step B0 hb
  clear hb hs_x1
  refine wp_region_noPanic ?_
  replace V0 : Va x1.drew _ _ _ := V0
  replace V1 : Va x1.drew _ _ _ := V1
  replace hN := hN.drw
  replace B0 := Below.drew B0
  refine wp_region_held_drew (S := (fun W => W.cell? ⟨w.heap.size, 0, none⟩ = some (.bool s) ∧ W.cell? ⟨w.heap.size, 1, none⟩ = some (.slice a l c))) (by kernel_rfl) ⟨V0.c0, V0.c1⟩ (fun hHeld => ?_)
  obtain ⟨x2, hxd⟩ : ∃ xd, xd = x1.drew := ⟨_, rfl⟩
  rw [← hxd] at V0 V1 hN B0 hHeld ⊢
  clear hxd
  refine wpAnyH_take (i := 0) (v := ?_) rfl (by kernel_rfl) (by kernel_rfl) (by kernel_rfl) (fun _ _ _ h => h) (Or.inl ⟨by rfl, ?_⟩) hHeld ?_
  rotate_left
  · (intro W hSw; (try dsimp only at hSw); go_simp; all_goals (with_reducible rfl))
  simp only [List.getElem_toArray, List.getElem_cons_zero, Act.put, List.setIfInBounds_toArray, List.set_cons_zero, List.set_cons_succ]
  refine wpAnyH_take (i := 1) (v := ?_) rfl (by kernel_rfl) (by kernel_rfl) (by kernel_rfl) (fun _ _ _ h => h) (Or.inl ⟨by rfl, ?_⟩) hHeld ?_
  rotate_left
  · (intro W hSw; (try dsimp only at hSw); go_simp; all_goals (with_reducible rfl))
  simp only [List.getElem_toArray, List.getElem_cons_zero, List.getElem_cons_succ, Act.put, List.setIfInBounds_toArray, List.set_cons_zero, List.set_cons_succ]
  refine wpAnyH_ready (rs := [2, 7]) (by kernel_rfl) (by simp) ?_
  refine AllReadyH.cons rfl (fun K hK => ?_) (AllReadyH.cons rfl (fun K hK => ?_) AllReadyH.nil)
  ·
    simp only [List.getElem_toArray, List.getElem_cons_zero, List.getElem_cons_succ]
    go_simp
    refine (wsmall_any T t1 t2 _).mono ?_
    rintro e x3 ⟨s2, a2, l2, c2, z2, rfl, h2, e2, hb⟩
    replace V0 := Va.after hb V0
    replace V1 := Va.after hb V1
    replace hN := It.after hb hN
    replace B0 := step B0 hb
    clear hb
    try go_wp2_with fail
    refine hK.out _ _ ⟨V0.c0, V0.c1⟩ (fun hHeld => ?_)
    clear hK K
    refine wpAnyH_ready (rs := [3, 7]) (by kernel_rfl) (by simp) ?_
    refine AllReadyH.cons rfl (fun K hK => ?_) (AllReadyH.cons rfl (fun K hK => ?_) AllReadyH.nil)
    ·
      simp only [List.getElem_toArray, List.getElem_cons_zero, List.getElem_cons_succ]
      go_simp
      refine (wmul_ok s s2 a a2 l c l2 c2 zs z2 _ hN h2 (by show _ < _; rw [e2, HV.out]; exact HF.out)).mono ?_
      rintro e x4 ⟨sp, ap, lp, cp, zp, rfl, hp, ep, hb⟩
      replace V0 := Va.after hb V0
      replace V1 := Va.after hb V1
      replace hN := It.after hb hN
      replace h2 := It.after hb h2
      replace B0 := step B0 hb
      clear hb
      rw [e2, HV.out] at ep
      try go_wp2_with fail
      refine hK.out _ _ ⟨V0.c0, V0.c1⟩ (fun hHeld => ?_)
      clear hK K
      refine wpAnyH_take (i := 4) (v := ?_) rfl (by kernel_rfl) (by kernel_rfl) (by kernel_rfl) (fun _ _ _ h => h) (Or.inl ⟨by rfl, ?_⟩) hHeld ?_
      rotate_left
      · (intro W hSw; (try dsimp only at hSw); go_simp; all_goals (with_reducible rfl))
      simp only [List.getElem_toArray, List.getElem_cons_zero, List.getElem_cons_succ, Act.put, List.setIfInBounds_toArray, List.set_cons_zero, List.set_cons_succ]
      refine wpAnyH_take (i := 5) (v := ?_) rfl (by kernel_rfl) (by kernel_rfl) (by kernel_rfl) (fun _ _ _ h => h) (Or.inl ⟨by rfl, ?_⟩) hHeld ?_
      rotate_left
      · (intro W hSw; (try dsimp only at hSw); go_simp; all_goals (with_reducible rfl))
      simp only [List.getElem_toArray, List.getElem_cons_zero, List.getElem_cons_succ, Act.put, List.setIfInBounds_toArray, List.set_cons_zero, List.set_cons_succ]
      refine wpAnyH_take (i := 6) (v := ?_) rfl (by kernel_rfl) (by kernel_rfl) (by kernel_rfl) (fun _ _ _ h => h) (Or.inl ⟨by rfl, ?_⟩) hHeld ?_
      rotate_left
      · (intro W hSw; (try dsimp only at hSw); go_simp; all_goals (with_reducible rfl))
      simp only [List.getElem_toArray, List.getElem_cons_zero, List.getElem_cons_succ, Act.put, List.setIfInBounds_toArray, List.set_cons_zero, List.set_cons_succ]
      refine wpAnyH_ready (rs := [7]) (by kernel_rfl) (by simp) ?_
      refine AllReadyH.cons rfl (fun K hK => ?_) AllReadyH.nil
      ·
        simp only [List.getElem_toArray, List.getElem_cons_zero, List.getElem_cons_succ]
        go_simp
        have lt_Vp_V0 := V0.lt
        have lt_Vp_V1 := V1.lt
        have sz_Vp := B0.size
        refine ent1 _ _ _ (Q := fun V => K _ V) ?_
        intro x5 hb hs_ Vp
        replace V0 := Va.after hb V0
        replace V1 := Va.after hb V1
        replace hN := It.after hb hN
        replace h2 := It.after hb h2
        replace hp := It.after hb hp
        replace B0 := step B0 hb
        clear hb hs_
        refine hK.out _ _ ⟨V0.c0, V0.c1⟩ (fun hHeld => ?_)
        clear hK K
        have c_Vp := Vp.c0
        have f0_Vp := Vp.frozen 0
        have d_Vp := Vp.c1
        have f1_Vp := Vp.frozen 1
        have l_Vp := Vp.lt
        have m_Vp := Nat.le_of_lt l_Vp
        refine wpAnyH_ready (rs := [8]) (by kernel_rfl) (by simp) ?_
        refine AllReadyH.cons rfl (fun K hK => ?_) AllReadyH.nil
        simp only [List.getElem_toArray, List.getElem_cons_zero, List.getElem_cons_succ]
        go_simp
        clear c_Vp f0_Vp d_Vp f1_Vp l_Vp m_Vp
        refine st2 Vp (.bool sp) (.slice ap lp cp) (Q := fun W => K _ W) ?_
        intro x6 V' oth far
        replace V0 := oth _ _ _ (by first | omega | assumption | (simp; omega)) V0
        replace V1 := oth _ _ _ (by first | omega | assumption | (simp; omega)) V1
        replace hN := hN.far Vp (noInt2 _ _ _ _) far.1
        replace h2 := h2.far Vp (noInt2 _ _ _ _) far.1
        replace hp := hp.far Vp (noInt2 _ _ _ _) far.1
        replace B0 := far.2 _ _ (by first | omega | (simp; omega)) B0
        replace Vp := V'
        clear oth far
        refine hK.out _ _ ⟨V0.c0, V0.c1⟩ (fun hHeld => ?_)
        clear hK K
        refine wpAnyH_take (i := 9) (v := ?_) rfl (by kernel_rfl) (by kernel_rfl) (by kernel_rfl) (fun _ _ _ h => h) (Or.inl ⟨by rfl, ?_⟩) hHeld ?_
        rotate_left
        · (intro W hSw; (try dsimp only at hSw); go_simp; all_goals (with_reducible rfl))
        simp only [List.getElem_toArray, List.getElem_cons_zero, List.getElem_cons_succ, Act.put, List.setIfInBounds_toArray, List.set_cons_zero, List.set_cons_succ]
        refine wpAnyH_done (by kernel_rfl) ?_ _
        refine NoPanic.normal ?_
        clear hHeld
        have c_Vp := Vp.c0
        have f0_Vp := Vp.frozen 0
        have d_Vp := Vp.c1
        have f1_Vp := Vp.frozen 1
        have l_Vp := Vp.lt
        have m_Vp := Nat.le_of_lt l_Vp
        go_wp2_with fail
        have hw := wint64_in sp ap lp cp zp x6 hp (by rw [ep]; exact HX.out.1) (by rw [ep]; exact HX.out.2)
        rw [ep] at hw
        refine (hw).mono ?_
        rintro e x7 ⟨rfl, hb⟩
        replace V0 := Va.after hb V0
        replace V1 := Va.after hb V1
        replace Vp := Va.after hb Vp
        replace hN := It.after hb hN
        replace h2 := It.after hb h2
        replace hp := It.after hb hp
        replace B0 := step B0 hb
        clear hb
        clear c_Vp f0_Vp d_Vp f1_Vp l_Vp m_Vp
        have c_V1 := V1.c0
        have f0_V1 := V1.frozen 0
        have d_V1 := V1.c1
        have f1_V1 := V1.frozen 1
        have l_V1 := V1.lt
        have m_V1 := Nat.le_of_lt l_V1
        go_wp2_with fail
        refine bodyPost_ret (results_dt rfl rfl (V1.set2 _ _)) rfl ?_
        exact ⟨rfl, below_2 B0 (by omega) _ _⟩
    ·
      simp only [List.getElem_toArray, List.getElem_cons_zero, List.getElem_cons_succ]
      go_simp
      have lt_Vp_V0 := V0.lt
      have lt_Vp_V1 := V1.lt
      have sz_Vp := B0.size
      refine ent1 _ _ _ (Q := fun V => K _ V) ?_
      intro x4 hb hs_ Vp
      replace V0 := Va.after hb V0
      replace V1 := Va.after hb V1
      replace hN := It.after hb hN
      replace h2 := It.after hb h2
      replace B0 := step B0 hb
      clear hb hs_
      refine hK.out _ _ ⟨V0.c0, V0.c1⟩ (fun hHeld => ?_)
      clear hK K
      refine wpAnyH_ready (rs := [3]) (by kernel_rfl) (by simp) ?_
      refine AllReadyH.cons rfl (fun K hK => ?_) AllReadyH.nil
      ·
        simp only [List.getElem_toArray, List.getElem_cons_zero, List.getElem_cons_succ]
        go_simp
        refine (wmul_ok s s2 a a2 l c l2 c2 zs z2 _ hN h2 (by show _ < _; rw [e2, HV.out]; exact HF.out)).mono ?_
        rintro e x5 ⟨sp, ap, lp, cp, zp, rfl, hp, ep, hb⟩
        replace V0 := Va.after hb V0
        replace V1 := Va.after hb V1
        replace Vp := Va.after hb Vp
        replace hN := It.after hb hN
        replace h2 := It.after hb h2
        replace B0 := step B0 hb
        clear hb
        rw [e2, HV.out] at ep
        try go_wp2_with fail
        refine hK.out _ _ ⟨V0.c0, V0.c1⟩ (fun hHeld => ?_)
        clear hK K
        refine wpAnyH_take (i := 4) (v := ?_) rfl (by kernel_rfl) (by kernel_rfl) (by kernel_rfl) (fun _ _ _ h => h) (Or.inl ⟨by rfl, ?_⟩) hHeld ?_
        rotate_left
        · (intro W hSw; (try dsimp only at hSw); go_simp; all_goals (with_reducible rfl))
        simp only [List.getElem_toArray, List.getElem_cons_zero, List.getElem_cons_succ, Act.put, List.setIfInBounds_toArray, List.set_cons_zero, List.set_cons_succ]
        refine wpAnyH_take (i := 5) (v := ?_) rfl (by kernel_rfl) (by kernel_rfl) (by kernel_rfl) (fun _ _ _ h => h) (Or.inl ⟨by rfl, ?_⟩) hHeld ?_
        rotate_left
        · (intro W hSw; (try dsimp only at hSw); go_simp; all_goals (with_reducible rfl))
        simp only [List.getElem_toArray, List.getElem_cons_zero, List.getElem_cons_succ, Act.put, List.setIfInBounds_toArray, List.set_cons_zero, List.set_cons_succ]
        refine wpAnyH_take (i := 6) (v := ?_) rfl (by kernel_rfl) (by kernel_rfl) (by kernel_rfl) (fun _ _ _ h => h) (Or.inl ⟨by rfl, ?_⟩) hHeld ?_
        rotate_left
        · (intro W hSw; (try dsimp only at hSw); go_simp; all_goals (with_reducible rfl))
        simp only [List.getElem_toArray, List.getElem_cons_zero, List.getElem_cons_succ, Act.put, List.setIfInBounds_toArray, List.set_cons_zero, List.set_cons_succ]
        have c_Vp := Vp.c0
        have f0_Vp := Vp.frozen 0
        have d_Vp := Vp.c1
        have f1_Vp := Vp.frozen 1
        have l_Vp := Vp.lt
        have m_Vp := Nat.le_of_lt l_Vp
        refine wpAnyH_ready (rs := [8]) (by kernel_rfl) (by simp) ?_
        refine AllReadyH.cons rfl (fun K hK => ?_) AllReadyH.nil
        simp only [List.getElem_toArray, List.getElem_cons_zero, List.getElem_cons_succ]
        go_simp
        clear c_Vp f0_Vp d_Vp f1_Vp l_Vp m_Vp
        refine st2 Vp (.bool sp) (.slice ap lp cp) (Q := fun W => K _ W) ?_
        intro x6 V' oth far
        replace V0 := oth _ _ _ (by first | omega | assumption | (simp; omega)) V0
        replace V1 := oth _ _ _ (by first | omega | assumption | (simp; omega)) V1
        replace hN := hN.far Vp (noInt2 _ _ _ _) far.1
        replace h2 := h2.far Vp (noInt2 _ _ _ _) far.1
        replace hp := hp.far Vp (noInt2 _ _ _ _) far.1
        replace B0 := far.2 _ _ (by first | omega | (simp; omega)) B0
        replace Vp := V'
        clear oth far
        refine hK.out _ _ ⟨V0.c0, V0.c1⟩ (fun hHeld => ?_)
        clear hK K
        refine wpAnyH_take (i := 9) (v := ?_) rfl (by kernel_rfl) (by kernel_rfl) (by kernel_rfl) (fun _ _ _ h => h) (Or.inl ⟨by rfl, ?_⟩) hHeld ?_
        rotate_left
        · (intro W hSw; (try dsimp only at hSw); go_simp; all_goals (with_reducible rfl))
        simp only [List.getElem_toArray, List.getElem_cons_zero, List.getElem_cons_succ, Act.put, List.setIfInBounds_toArray, List.set_cons_zero, List.set_cons_succ]
        refine wpAnyH_done (by kernel_rfl) ?_ _
        refine NoPanic.normal ?_
        clear hHeld
        have c_Vp := Vp.c0
        have f0_Vp := Vp.frozen 0
        have d_Vp := Vp.c1
        have f1_Vp := Vp.frozen 1
        have l_Vp := Vp.lt
        have m_Vp := Nat.le_of_lt l_Vp
        go_wp2_with fail
        have hw := wint64_in sp ap lp cp zp x6 hp (by rw [ep]; exact HX.out.1) (by rw [ep]; exact HX.out.2)
        rw [ep] at hw
        refine (hw).mono ?_
        rintro e x7 ⟨rfl, hb⟩
        replace V0 := Va.after hb V0
        replace V1 := Va.after hb V1
        replace Vp := Va.after hb Vp
        replace hN := It.after hb hN
        replace h2 := It.after hb h2
        replace hp := It.after hb hp
        replace B0 := step B0 hb
        clear hb
        clear c_Vp f0_Vp d_Vp f1_Vp l_Vp m_Vp
        have c_V1 := V1.c0
        have f0_V1 := V1.frozen 0
        have d_V1 := V1.c1
        have f1_V1 := V1.frozen 1
        have l_V1 := V1.lt
        have m_V1 := Nat.le_of_lt l_V1
        go_wp2_with fail
        refine bodyPost_ret (results_dt rfl rfl (V1.set2 _ _)) rfl ?_
        exact ⟨rfl, below_2 B0 (by omega) _ _⟩
  ·
    simp only [List.getElem_toArray, List.getElem_cons_zero, List.getElem_cons_succ]
    go_simp
    have lt_Vp_V0 := V0.lt
    have lt_Vp_V1 := V1.lt
    have sz_Vp := B0.size
    refine ent1 _ _ _ (Q := fun V => K _ V) ?_
    intro x3 hb hs_ Vp
    replace V0 := Va.after hb V0
    replace V1 := Va.after hb V1
    replace hN := It.after hb hN
    replace B0 := step B0 hb
    clear hb hs_
    refine hK.out _ _ ⟨V0.c0, V0.c1⟩ (fun hHeld => ?_)
    clear hK K
    refine wpAnyH_ready (rs := [2]) (by kernel_rfl) (by simp) ?_
    refine AllReadyH.cons rfl (fun K hK => ?_) AllReadyH.nil
    ·
      simp only [List.getElem_toArray, List.getElem_cons_zero, List.getElem_cons_succ]
      go_simp
      refine (wsmall_any T t1 t2 _).mono ?_
      rintro e x4 ⟨s2, a2, l2, c2, z2, rfl, h2, e2, hb⟩
      replace V0 := Va.after hb V0
      replace V1 := Va.after hb V1
      replace Vp := Va.after hb Vp
      replace hN := It.after hb hN
      replace B0 := step B0 hb
      clear hb
      try go_wp2_with fail
      refine hK.out _ _ ⟨V0.c0, V0.c1⟩ (fun hHeld => ?_)
      clear hK K
      refine wpAnyH_ready (rs := [3]) (by kernel_rfl) (by simp) ?_
      refine AllReadyH.cons rfl (fun K hK => ?_) AllReadyH.nil
      ·
        simp only [List.getElem_toArray, List.getElem_cons_zero, List.getElem_cons_succ]
        go_simp
        refine (wmul_ok s s2 a a2 l c l2 c2 zs z2 _ hN h2 (by show _ < _; rw [e2, HV.out]; exact HF.out)).mono ?_
        rintro e x5 ⟨sp, ap, lp, cp, zp, rfl, hp, ep, hb⟩
        replace V0 := Va.after hb V0
        replace V1 := Va.after hb V1
        replace Vp := Va.after hb Vp
        replace hN := It.after hb hN
        replace h2 := It.after hb h2
        replace B0 := step B0 hb
        clear hb
        rw [e2, HV.out] at ep
        try go_wp2_with fail
        refine hK.out _ _ ⟨V0.c0, V0.c1⟩ (fun hHeld => ?_)
        clear hK K
        refine wpAnyH_take (i := 4) (v := ?_) rfl (by kernel_rfl) (by kernel_rfl) (by kernel_rfl) (fun _ _ _ h => h) (Or.inl ⟨by rfl, ?_⟩) hHeld ?_
        rotate_left
        · (intro W hSw; (try dsimp only at hSw); go_simp; all_goals (with_reducible rfl))
        simp only [List.getElem_toArray, List.getElem_cons_zero, List.getElem_cons_succ, Act.put, List.setIfInBounds_toArray, List.set_cons_zero, List.set_cons_succ]
        refine wpAnyH_take (i := 5) (v := ?_) rfl (by kernel_rfl) (by kernel_rfl) (by kernel_rfl) (fun _ _ _ h => h) (Or.inl ⟨by rfl, ?_⟩) hHeld ?_
        rotate_left
        · (intro W hSw; (try dsimp only at hSw); go_simp; all_goals (with_reducible rfl))
        simp only [List.getElem_toArray, List.getElem_cons_zero, List.getElem_cons_succ, Act.put, List.setIfInBounds_toArray, List.set_cons_zero, List.set_cons_succ]
        refine wpAnyH_take (i := 6) (v := ?_) rfl (by kernel_rfl) (by kernel_rfl) (by kernel_rfl) (fun _ _ _ h => h) (Or.inl ⟨by rfl, ?_⟩) hHeld ?_
        rotate_left
        · (intro W hSw; (try dsimp only at hSw); go_simp; all_goals (with_reducible rfl))
        simp only [List.getElem_toArray, List.getElem_cons_zero, List.getElem_cons_succ, Act.put, List.setIfInBounds_toArray, List.set_cons_zero, List.set_cons_succ]
        have c_Vp := Vp.c0
        have f0_Vp := Vp.frozen 0
        have d_Vp := Vp.c1
        have f1_Vp := Vp.frozen 1
        have l_Vp := Vp.lt
        have m_Vp := Nat.le_of_lt l_Vp
        refine wpAnyH_ready (rs := [8]) (by kernel_rfl) (by simp) ?_
        refine AllReadyH.cons rfl (fun K hK => ?_) AllReadyH.nil
        simp only [List.getElem_toArray, List.getElem_cons_zero, List.getElem_cons_succ]
        go_simp
        clear c_Vp f0_Vp d_Vp f1_Vp l_Vp m_Vp
        refine st2 Vp (.bool sp) (.slice ap lp cp) (Q := fun W => K _ W) ?_
        intro x6 V' oth far
        replace V0 := oth _ _ _ (by first | omega | assumption | (simp; omega)) V0
        replace V1 := oth _ _ _ (by first | omega | assumption | (simp; omega)) V1
        replace hN := hN.far Vp (noInt2 _ _ _ _) far.1
        replace h2 := h2.far Vp (noInt2 _ _ _ _) far.1
        replace hp := hp.far Vp (noInt2 _ _ _ _) far.1
        replace B0 := far.2 _ _ (by first | omega | (simp; omega)) B0
        replace Vp := V'
        clear oth far
        refine hK.out _ _ ⟨V0.c0, V0.c1⟩ (fun hHeld => ?_)
        clear hK K
        refine wpAnyH_take (i := 9) (v := ?_) rfl (by kernel_rfl) (by kernel_rfl) (by kernel_rfl) (fun _ _ _ h => h) (Or.inl ⟨by rfl, ?_⟩) hHeld ?_
        rotate_left
        · (intro W hSw; (try dsimp only at hSw); go_simp; all_goals (with_reducible rfl))
        simp only [List.getElem_toArray, List.getElem_cons_zero, List.getElem_cons_succ, Act.put, List.setIfInBounds_toArray, List.set_cons_zero, List.set_cons_succ]
        refine wpAnyH_done (by kernel_rfl) ?_ _
        refine NoPanic.normal ?_
        clear hHeld
        have c_Vp := Vp.c0
        have f0_Vp := Vp.frozen 0
        have d_Vp := Vp.c1
        have f1_Vp := Vp.frozen 1
        have l_Vp := Vp.lt
        have m_Vp := Nat.le_of_lt l_Vp
        go_wp2_with fail
        have hw := wint64_in sp ap lp cp zp x6 hp (by rw [ep]; exact HX.out.1) (by rw [ep]; exact HX.out.2)
        rw [ep] at hw
        refine (hw).mono ?_
        rintro e x7 ⟨rfl, hb⟩
        replace V0 := Va.after hb V0
        replace V1 := Va.after hb V1
        replace Vp := Va.after hb Vp
        replace hN := It.after hb hN
        replace h2 := It.after hb h2
        replace hp := It.after hb hp
        replace B0 := step B0 hb
        clear hb
        clear c_Vp f0_Vp d_Vp f1_Vp l_Vp m_Vp
        have c_V1 := V1.c0
        have f0_V1 := V1.frozen 0
        have d_V1 := V1.c1
        have f1_V1 := V1.frozen 1
        have l_V1 := V1.lt
        have m_V1 := Nat.le_of_lt l_V1
        go_wp2_with fail
        refine bodyPost_ret (results_dt rfl rfl (V1.set2 _ _)) rfl ?_
        exact ⟨rfl, below_2 B0 (by omega) _ _⟩
set_option maxHeartbeats 8000000 in
theorem frp_out (s : Bool) (a : Option Addr) (l c : Nat) (zs : List Int) (N T : Int) (P : Nat) (w : World) (hN : It w s a l c zs) (hv : iv s zs = N) (t1 : -9223372036854775808 ≤ T) (t2 : T ≤ 9223372036854775807) (hf : ((N * T).natAbs : Int) < pw 4096) (hx : N * T < -9223372036854775808 ∨ 9223372036854775807 < N * T) :
    Calls Tryz.prog 64 #[.agg #[.bool s, .slice a l c], .int .i64 T, .int .i64 P] w fun e W' => e = .returned (.tuple #[.agg #[.int .i64 0, .int .i64 0], .int .i64 5]) ∧ Below w.heap.size w W' := by
  have HV : Hid (iv s zs = N) := hv
  have HF : Hid _ := hf
  have HX : Hid _ := hx
  clear hv hf hx
  have B0 : Below w.heap.size w w := Below.refl _ _
  go_enter Tryz.func64, Tryz.ntmps64
  go_wp2_with fail
  refine ent2 w _ _ _ _ (Q := fun W => Code.wp Tryz.prog _ _ _ W) ?_
  intro x1 hb hs_x1 V0 V1
  replace hN := It.after hb hN
  replace B0 := step B0 hb
  clear hb hs_x1
  refine wp_region_noPanic ?_
  replace V0 : Va x1.drew _ _ _ := V0
  replace V1 : Va x1.drew _ _ _ := V1
  replace hN := hN.drw
  replace B0 := Below.drew B0
  refine wp_region_held_drew (S := (fun W => W.cell? ⟨w.heap.size, 0, none⟩ = some (.bool s) ∧ W.cell? ⟨w.heap.size, 1, none⟩ = some (.slice a l c))) (by kernel_rfl) ⟨V0.c0, V0.c1⟩ (fun hHeld => ?_)
  obtain ⟨x2, hxd⟩ : ∃ xd, xd = x1.drew := ⟨_, rfl⟩
  rw [← hxd] at V0 V1 hN B0 hHeld ⊢
  clear hxd
  refine wpAnyH_take (i := 0) (v := ?_) rfl (by kernel_rfl) (by kernel_rfl) (by kernel_rfl) (fun _ _ _ h => h) (Or.inl ⟨by rfl, ?_⟩) hHeld ?_
  rotate_left
  · (intro W hSw; (try dsimp only at hSw); go_simp; all_goals (with_reducible rfl))
  simp only [List.getElem_toArray, List.getElem_cons_zero, Act.put, List.setIfInBounds_toArray, List.set_cons_zero, List.set_cons_succ]
  refine wpAnyH_take (i := 1) (v := ?_) rfl (by kernel_rfl) (by kernel_rfl) (by kernel_rfl) (fun _ _ _ h => h) (Or.inl ⟨by rfl, ?_⟩) hHeld ?_
  rotate_left
  · (intro W hSw; (try dsimp only at hSw); go_simp; all_goals (with_reducible rfl))
  simp only [List.getElem_toArray, List.getElem_cons_zero, List.getElem_cons_succ, Act.put, List.setIfInBounds_toArray, List.set_cons_zero, List.set_cons_succ]
  refine wpAnyH_ready (rs := [2, 7]) (by kernel_rfl) (by simp) ?_
  refine AllReadyH.cons rfl (fun K hK => ?_) (AllReadyH.cons rfl (fun K hK => ?_) AllReadyH.nil)
  ·
    simp only [List.getElem_toArray, List.getElem_cons_zero, List.getElem_cons_succ]
    go_simp
    refine (wsmall_any T t1 t2 _).mono ?_
    rintro e x3 ⟨s2, a2, l2, c2, z2, rfl, h2, e2, hb⟩
    replace V0 := Va.after hb V0
    replace V1 := Va.after hb V1
    replace hN := It.after hb hN
    replace B0 := step B0 hb
    clear hb
    try go_wp2_with fail
    refine hK.out _ _ ⟨V0.c0, V0.c1⟩ (fun hHeld => ?_)
    clear hK K
    refine wpAnyH_ready (rs := [3, 7]) (by kernel_rfl) (by simp) ?_
    refine AllReadyH.cons rfl (fun K hK => ?_) (AllReadyH.cons rfl (fun K hK => ?_) AllReadyH.nil)
    ·
      simp only [List.getElem_toArray, List.getElem_cons_zero, List.getElem_cons_succ]
      go_simp
      refine (wmul_ok s s2 a a2 l c l2 c2 zs z2 _ hN h2 (by show _ < _; rw [e2, HV.out]; exact HF.out)).mono ?_
      rintro e x4 ⟨sp, ap, lp, cp, zp, rfl, hp, ep, hb⟩
      replace V0 := Va.after hb V0
      replace V1 := Va.after hb V1
      replace hN := It.after hb hN
      replace h2 := It.after hb h2
      replace B0 := step B0 hb
      clear hb
      rw [e2, HV.out] at ep
      try go_wp2_with fail
      refine hK.out _ _ ⟨V0.c0, V0.c1⟩ (fun hHeld => ?_)
      clear hK K
      refine wpAnyH_take (i := 4) (v := ?_) rfl (by kernel_rfl) (by kernel_rfl) (by kernel_rfl) (fun _ _ _ h => h) (Or.inl ⟨by rfl, ?_⟩) hHeld ?_
      rotate_left
      · (intro W hSw; (try dsimp only at hSw); go_simp; all_goals (with_reducible rfl))
      simp only [List.getElem_toArray, List.getElem_cons_zero, List.getElem_cons_succ, Act.put, List.setIfInBounds_toArray, List.set_cons_zero, List.set_cons_succ]
      refine wpAnyH_take (i := 5) (v := ?_) rfl (by kernel_rfl) (by kernel_rfl) (by kernel_rfl) (fun _ _ _ h => h) (Or.inl ⟨by rfl, ?_⟩) hHeld ?_
      rotate_left
      · (intro W hSw; (try dsimp only at hSw); go_simp; all_goals (with_reducible rfl))
      simp only [List.getElem_toArray, List.getElem_cons_zero, List.getElem_cons_succ, Act.put, List.setIfInBounds_toArray, List.set_cons_zero, List.set_cons_succ]
      refine wpAnyH_take (i := 6) (v := ?_) rfl (by kernel_rfl) (by kernel_rfl) (by kernel_rfl) (fun _ _ _ h => h) (Or.inl ⟨by rfl, ?_⟩) hHeld ?_
      rotate_left
      · (intro W hSw; (try dsimp only at hSw); go_simp; all_goals (with_reducible rfl))
      simp only [List.getElem_toArray, List.getElem_cons_zero, List.getElem_cons_succ, Act.put, List.setIfInBounds_toArray, List.set_cons_zero, List.set_cons_succ]
      refine wpAnyH_ready (rs := [7]) (by kernel_rfl) (by simp) ?_
      refine AllReadyH.cons rfl (fun K hK => ?_) AllReadyH.nil
      ·
        simp only [List.getElem_toArray, List.getElem_cons_zero, List.getElem_cons_succ]
        go_simp
        have lt_Vp_V0 := V0.lt
        have lt_Vp_V1 := V1.lt
        have sz_Vp := B0.size
        refine ent1 _ _ _ (Q := fun V => K _ V) ?_
        intro x5 hb hs_ Vp
        replace V0 := Va.after hb V0
        replace V1 := Va.after hb V1
        replace hN := It.after hb hN
        replace h2 := It.after hb h2
        replace hp := It.after hb hp
        replace B0 := step B0 hb
        clear hb hs_
        refine hK.out _ _ ⟨V0.c0, V0.c1⟩ (fun hHeld => ?_)
        clear hK K
        have c_Vp := Vp.c0
        have f0_Vp := Vp.frozen 0
        have d_Vp := Vp.c1
        have f1_Vp := Vp.frozen 1
        have l_Vp := Vp.lt
        have m_Vp := Nat.le_of_lt l_Vp
        refine wpAnyH_ready (rs := [8]) (by kernel_rfl) (by simp) ?_
        refine AllReadyH.cons rfl (fun K hK => ?_) AllReadyH.nil
        simp only [List.getElem_toArray, List.getElem_cons_zero, List.getElem_cons_succ]
        go_simp
        clear c_Vp f0_Vp d_Vp f1_Vp l_Vp m_Vp
        refine st2 Vp (.bool sp) (.slice ap lp cp) (Q := fun W => K _ W) ?_
        intro x6 V' oth far
        replace V0 := oth _ _ _ (by first | omega | assumption | (simp; omega)) V0
        replace V1 := oth _ _ _ (by first | omega | assumption | (simp; omega)) V1
        replace hN := hN.far Vp (noInt2 _ _ _ _) far.1
        replace h2 := h2.far Vp (noInt2 _ _ _ _) far.1
        replace hp := hp.far Vp (noInt2 _ _ _ _) far.1
        replace B0 := far.2 _ _ (by first | omega | (simp; omega)) B0
        replace Vp := V'
        clear oth far
        refine hK.out _ _ ⟨V0.c0, V0.c1⟩ (fun hHeld => ?_)
        clear hK K
        refine wpAnyH_take (i := 9) (v := ?_) rfl (by kernel_rfl) (by kernel_rfl) (by kernel_rfl) (fun _ _ _ h => h) (Or.inl ⟨by rfl, ?_⟩) hHeld ?_
        rotate_left
        · (intro W hSw; (try dsimp only at hSw); go_simp; all_goals (with_reducible rfl))
        simp only [List.getElem_toArray, List.getElem_cons_zero, List.getElem_cons_succ, Act.put, List.setIfInBounds_toArray, List.set_cons_zero, List.set_cons_succ]
        refine wpAnyH_done (by kernel_rfl) ?_ _
        refine NoPanic.normal ?_
        clear hHeld
        have c_Vp := Vp.c0
        have f0_Vp := Vp.frozen 0
        have d_Vp := Vp.c1
        have f1_Vp := Vp.frozen 1
        have l_Vp := Vp.lt
        have m_Vp := Nat.le_of_lt l_Vp
        go_wp2_with fail
        have hw := wint64_out sp ap lp cp zp x6 hp (by rw [ep]; exact HX.out)
        refine (hw).mono ?_
        rintro e x7 ⟨rfl, hb⟩
        replace V0 := Va.after hb V0
        replace V1 := Va.after hb V1
        replace Vp := Va.after hb Vp
        replace hN := It.after hb hN
        replace h2 := It.after hb h2
        replace hp := It.after hb hp
        replace B0 := step B0 hb
        clear hb
        clear c_Vp f0_Vp d_Vp f1_Vp l_Vp m_Vp
        have c_V1 := V1.c0
        have f0_V1 := V1.frozen 0
        have d_V1 := V1.c1
        have f1_V1 := V1.frozen 1
        have l_V1 := V1.lt
        have m_V1 := Nat.le_of_lt l_V1
        go_wp2_with fail
        refine bodyPost_ret (results_dt rfl rfl (V1.set2 _ _)) rfl ?_
        exact ⟨rfl, below_2 B0 (by omega) _ _⟩
    ·
      simp only [List.getElem_toArray, List.getElem_cons_zero, List.getElem_cons_succ]
      go_simp
      have lt_Vp_V0 := V0.lt
      have lt_Vp_V1 := V1.lt
      have sz_Vp := B0.size
      refine ent1 _ _ _ (Q := fun V => K _ V) ?_
      intro x4 hb hs_ Vp
      replace V0 := Va.after hb V0
      replace V1 := Va.after hb V1
      replace hN := It.after hb hN
      replace h2 := It.after hb h2
      replace B0 := step B0 hb
      clear hb hs_
      refine hK.out _ _ ⟨V0.c0, V0.c1⟩ (fun hHeld => ?_)
      clear hK K
      refine wpAnyH_ready (rs := [3]) (by kernel_rfl) (by simp) ?_
      refine AllReadyH.cons rfl (fun K hK => ?_) AllReadyH.nil
      ·
        simp only [List.getElem_toArray, List.getElem_cons_zero, List.getElem_cons_succ]
        go_simp
        refine (wmul_ok s s2 a a2 l c l2 c2 zs z2 _ hN h2 (by show _ < _; rw [e2, HV.out]; exact HF.out)).mono ?_
        rintro e x5 ⟨sp, ap, lp, cp, zp, rfl, hp, ep, hb⟩
        replace V0 := Va.after hb V0
        replace V1 := Va.after hb V1
        replace Vp := Va.after hb Vp
        replace hN := It.after hb hN
        replace h2 := It.after hb h2
        replace B0 := step B0 hb
        clear hb
        rw [e2, HV.out] at ep
        try go_wp2_with fail
        refine hK.out _ _ ⟨V0.c0, V0.c1⟩ (fun hHeld => ?_)
        clear hK K
        refine wpAnyH_take (i := 4) (v := ?_) rfl (by kernel_rfl) (by kernel_rfl) (by kernel_rfl) (fun _ _ _ h => h) (Or.inl ⟨by rfl, ?_⟩) hHeld ?_
        rotate_left
        · (intro W hSw; (try dsimp only at hSw); go_simp; all_goals (with_reducible rfl))
        simp only [List.getElem_toArray, List.getElem_cons_zero, List.getElem_cons_succ, Act.put, List.setIfInBounds_toArray, List.set_cons_zero, List.set_cons_succ]
        refine wpAnyH_take (i := 5) (v := ?_) rfl (by kernel_rfl) (by kernel_rfl) (by kernel_rfl) (fun _ _ _ h => h) (Or.inl ⟨by rfl, ?_⟩) hHeld ?_
        rotate_left
        · (intro W hSw; (try dsimp only at hSw); go_simp; all_goals (with_reducible rfl))
        simp only [List.getElem_toArray, List.getElem_cons_zero, List.getElem_cons_succ, Act.put, List.setIfInBounds_toArray, List.set_cons_zero, List.set_cons_succ]
        refine wpAnyH_take (i := 6) (v := ?_) rfl (by kernel_rfl) (by kernel_rfl) (by kernel_rfl) (fun _ _ _ h => h) (Or.inl ⟨by rfl, ?_⟩) hHeld ?_
        rotate_left
        · (intro W hSw; (try dsimp only at hSw); go_simp; all_goals (with_reducible rfl))
        simp only [List.getElem_toArray, List.getElem_cons_zero, List.getElem_cons_succ, Act.put, List.setIfInBounds_toArray, List.set_cons_zero, List.set_cons_succ]
        have c_Vp := Vp.c0
        have f0_Vp := Vp.frozen 0
        have d_Vp := Vp.c1
        have f1_Vp := Vp.frozen 1
        have l_Vp := Vp.lt
        have m_Vp := Nat.le_of_lt l_Vp
        refine wpAnyH_ready (rs := [8]) (by kernel_rfl) (by simp) ?_
        refine AllReadyH.cons rfl (fun K hK => ?_) AllReadyH.nil
        simp only [List.getElem_toArray, List.getElem_cons_zero, List.getElem_cons_succ]
        go_simp
        clear c_Vp f0_Vp d_Vp f1_Vp l_Vp m_Vp
        refine st2 Vp (.bool sp) (.slice ap lp cp) (Q := fun W => K _ W) ?_
        intro x6 V' oth far
        replace V0 := oth _ _ _ (by first | omega | assumption | (simp; omega)) V0
        replace V1 := oth _ _ _ (by first | omega | assumption | (simp; omega)) V1
        replace hN := hN.far Vp (noInt2 _ _ _ _) far.1
        replace h2 := h2.far Vp (noInt2 _ _ _ _) far.1
        replace hp := hp.far Vp (noInt2 _ _ _ _) far.1
        replace B0 := far.2 _ _ (by first | omega | (simp; omega)) B0
        replace Vp := V'
        clear oth far
        refine hK.out _ _ ⟨V0.c0, V0.c1⟩ (fun hHeld => ?_)
        clear hK K
        refine wpAnyH_take (i := 9) (v := ?_) rfl (by kernel_rfl) (by kernel_rfl) (by kernel_rfl) (fun _ _ _ h => h) (Or.inl ⟨by rfl, ?_⟩) hHeld ?_
        rotate_left
        · (intro W hSw; (try dsimp only at hSw); go_simp; all_goals (with_reducible rfl))
        simp only [List.getElem_toArray, List.getElem_cons_zero, List.getElem_cons_succ, Act.put, List.setIfInBounds_toArray, List.set_cons_zero, List.set_cons_succ]
        refine wpAnyH_done (by kernel_rfl) ?_ _
        refine NoPanic.normal ?_
        clear hHeld
        have c_Vp := Vp.c0
        have f0_Vp := Vp.frozen 0
        have d_Vp := Vp.c1
        have f1_Vp := Vp.frozen 1
        have l_Vp := Vp.lt
        have m_Vp := Nat.le_of_lt l_Vp
        go_wp2_with fail
        have hw := wint64_out sp ap lp cp zp x6 hp (by rw [ep]; exact HX.out)
        refine (hw).mono ?_
        rintro e x7 ⟨rfl, hb⟩
        replace V0 := Va.after hb V0
        replace V1 := Va.after hb V1
        replace Vp := Va.after hb Vp
        replace hN := It.after hb hN
        replace h2 := It.after hb h2
        replace hp := It.after hb hp
        replace B0 := step B0 hb
        clear hb
        clear c_Vp f0_Vp d_Vp f1_Vp l_Vp m_Vp
        have c_V1 := V1.c0
        have f0_V1 := V1.frozen 0
        have d_V1 := V1.c1
        have f1_V1 := V1.frozen 1
        have l_V1 := V1.lt
        have m_V1 := Nat.le_of_lt l_V1
        go_wp2_with fail
        refine bodyPost_ret (results_dt rfl rfl (V1.set2 _ _)) rfl ?_
        exact ⟨rfl, below_2 B0 (by omega) _ _⟩
  ·
    simp only [List.getElem_toArray, List.getElem_cons_zero, List.getElem_cons_succ]
    go_simp
    have lt_Vp_V0 := V0.lt
    have lt_Vp_V1 := V1.lt
    have sz_Vp := B0.size
    refine ent1 _ _ _ (Q := fun V => K _ V) ?_
    intro x3 hb hs_ Vp
    replace V0 := Va.after hb V0
    replace V1 := Va.after hb V1
    replace hN := It.after hb hN
    replace B0 := step B0 hb
    clear hb hs_
    refine hK.out _ _ ⟨V0.c0, V0.c1⟩ (fun hHeld => ?_)
    clear hK K
    refine wpAnyH_ready (rs := [2]) (by kernel_rfl) (by simp) ?_
    refine AllReadyH.cons rfl (fun K hK => ?_) AllReadyH.nil
    ·
      simp only [List.getElem_toArray, List.getElem_cons_zero, List.getElem_cons_succ]
      go_simp
      refine (wsmall_any T t1 t2 _).mono ?_
      rintro e x4 ⟨s2, a2, l2, c2, z2, rfl, h2, e2, hb⟩
      replace V0 := Va.after hb V0
      replace V1 := Va.after hb V1
      replace Vp := Va.after hb Vp
      replace hN := It.after hb hN
      replace B0 := step B0 hb
      clear hb
      try go_wp2_with fail
      refine hK.out _ _ ⟨V0.c0, V0.c1⟩ (fun hHeld => ?_)
      clear hK K
      refine wpAnyH_ready (rs := [3]) (by kernel_rfl) (by simp) ?_
      refine AllReadyH.cons rfl (fun K hK => ?_) AllReadyH.nil
      ·
        simp only [List.getElem_toArray, List.getElem_cons_zero, List.getElem_cons_succ]
        go_simp
        refine (wmul_ok s s2 a a2 l c l2 c2 zs z2 _ hN h2 (by show _ < _; rw [e2, HV.out]; exact HF.out)).mono ?_
        rintro e x5 ⟨sp, ap, lp, cp, zp, rfl, hp, ep, hb⟩
        replace V0 := Va.after hb V0
        replace V1 := Va.after hb V1
        replace Vp := Va.after hb Vp
        replace hN := It.after hb hN
        replace h2 := It.after hb h2
        replace B0 := step B0 hb
        clear hb
        rw [e2, HV.out] at ep
        try go_wp2_with fail
        refine hK.out _ _ ⟨V0.c0, V0.c1⟩ (fun hHeld => ?_)
        clear hK K
        refine wpAnyH_take (i := 4) (v := ?_) rfl (by kernel_rfl) (by kernel_rfl) (by kernel_rfl) (fun _ _ _ h => h) (Or.inl ⟨by rfl, ?_⟩) hHeld ?_
        rotate_left
        · (intro W hSw; (try dsimp only at hSw); go_simp; all_goals (with_reducible rfl))
        simp only [List.getElem_toArray, List.getElem_cons_zero, List.getElem_cons_succ, Act.put, List.setIfInBounds_toArray, List.set_cons_zero, List.set_cons_succ]
        refine wpAnyH_take (i := 5) (v := ?_) rfl (by kernel_rfl) (by kernel_rfl) (by kernel_rfl) (fun _ _ _ h => h) (Or.inl ⟨by rfl, ?_⟩) hHeld ?_
        rotate_left
        · (intro W hSw; (try dsimp only at hSw); go_simp; all_goals (with_reducible rfl))
        simp only [List.getElem_toArray, List.getElem_cons_zero, List.getElem_cons_succ, Act.put, List.setIfInBounds_toArray, List.set_cons_zero, List.set_cons_succ]
        refine wpAnyH_take (i := 6) (v := ?_) rfl (by kernel_rfl) (by kernel_rfl) (by kernel_rfl) (fun _ _ _ h => h) (Or.inl ⟨by rfl, ?_⟩) hHeld ?_
        rotate_left
        · (intro W hSw; (try dsimp only at hSw); go_simp; all_goals (with_reducible rfl))
        simp only [List.getElem_toArray, List.getElem_cons_zero, List.getElem_cons_succ, Act.put, List.setIfInBounds_toArray, List.set_cons_zero, List.set_cons_succ]
        have c_Vp := Vp.c0
        have f0_Vp := Vp.frozen 0
        have d_Vp := Vp.c1
        have f1_Vp := Vp.frozen 1
        have l_Vp := Vp.lt
        have m_Vp := Nat.le_of_lt l_Vp
        refine wpAnyH_ready (rs := [8]) (by kernel_rfl) (by simp) ?_
        refine AllReadyH.cons rfl (fun K hK => ?_) AllReadyH.nil
        simp only [List.getElem_toArray, List.getElem_cons_zero, List.getElem_cons_succ]
        go_simp
        clear c_Vp f0_Vp d_Vp f1_Vp l_Vp m_Vp
        refine st2 Vp (.bool sp) (.slice ap lp cp) (Q := fun W => K _ W) ?_
        intro x6 V' oth far
        replace V0 := oth _ _ _ (by first | omega | assumption | (simp; omega)) V0
        replace V1 := oth _ _ _ (by first | omega | assumption | (simp; omega)) V1
        replace hN := hN.far Vp (noInt2 _ _ _ _) far.1
        replace h2 := h2.far Vp (noInt2 _ _ _ _) far.1
        replace hp := hp.far Vp (noInt2 _ _ _ _) far.1
        replace B0 := far.2 _ _ (by first | omega | (simp; omega)) B0
        replace Vp := V'
        clear oth far
        refine hK.out _ _ ⟨V0.c0, V0.c1⟩ (fun hHeld => ?_)
        clear hK K
        refine wpAnyH_take (i := 9) (v := ?_) rfl (by kernel_rfl) (by kernel_rfl) (by kernel_rfl) (fun _ _ _ h => h) (Or.inl ⟨by rfl, ?_⟩) hHeld ?_
        rotate_left
        · (intro W hSw; (try dsimp only at hSw); go_simp; all_goals (with_reducible rfl))
        simp only [List.getElem_toArray, List.getElem_cons_zero, List.getElem_cons_succ, Act.put, List.setIfInBounds_toArray, List.set_cons_zero, List.set_cons_succ]
        refine wpAnyH_done (by kernel_rfl) ?_ _
        refine NoPanic.normal ?_
        clear hHeld
        have c_Vp := Vp.c0
        have f0_Vp := Vp.frozen 0
        have d_Vp := Vp.c1
        have f1_Vp := Vp.frozen 1
        have l_Vp := Vp.lt
        have m_Vp := Nat.le_of_lt l_Vp
        go_wp2_with fail
        have hw := wint64_out sp ap lp cp zp x6 hp (by rw [ep]; exact HX.out)
        refine (hw).mono ?_
        rintro e x7 ⟨rfl, hb⟩
        replace V0 := Va.after hb V0
        replace V1 := Va.after hb V1
        replace Vp := Va.after hb Vp
        replace hN := It.after hb hN
        replace h2 := It.after hb h2
        replace hp := It.after hb hp
        replace B0 := step B0 hb
        clear hb
        clear c_Vp f0_Vp d_Vp f1_Vp l_Vp m_Vp
        have c_V1 := V1.c0
        have f0_V1 := V1.frozen 0
        have d_V1 := V1.c1
        have f1_V1 := V1.frozen 1
        have l_V1 := V1.lt
        have m_V1 := Nat.le_of_lt l_V1
        go_wp2_with fail
        refine bodyPost_ret (results_dt rfl rfl (V1.set2 _ _)) rfl ?_
        exact ⟨rfl, below_2 B0 (by omega) _ _⟩
theorem frp_any (s : Bool) (a : Option Addr) (l c : Nat) (zs : List Int) (N T : Int) (P : Nat) (w : World) (hN : It w s a l c zs) (hv : iv s zs = N) (t1 : -9223372036854775808 ≤ T) (t2 : T ≤ 9223372036854775807) (hf : ((N * T).natAbs : Int) < pw 4096) :
    Calls Tryz.prog 64 #[.agg #[.bool s, .slice a l c], .int .i64 T, .int .i64 P] w fun e W' => e = .returned (.tuple #[.agg #[.int .i64 (frp (N * T) P).1, .int .i64 (frp (N * T) P).2.1], .int .i64 (frp (N * T) P).2.2]) ∧ Below w.heap.size w W' := by
  by_cases hx : -9223372036854775808 ≤ N * T ∧ N * T ≤ 9223372036854775807
  · have e : frp (N * T) P = (N * T, P, 0) := by unfold frp; rw [if_pos hx]
    rw [e]
    exact frp_in s a l c zs N T P w hN hv t1 t2 hf hx
  · have e : frp (N * T) P = (0, 0, 5) := by unfold frp; rw [if_neg hx]
    rw [e]
    exact frp_out s a l c zs N T P w hN hv t1 t2 hf (by omega)
end Go.Proofs.YtoaaiahheehgnaaGreatDoor
namespace Go.Proofs.YtoaaiahheehgnaaGreatDoor
open Go.RowKit Go.Shelf
set_option linter.unusedVariables false

/-- The first power of ten that a denominator divides. -/
def ofR (v : Rat) : Int × Nat × Int := match (List.range 10).find? (fun p => decide (10 ^ p % v.den = 0)) with
  | some p => frp (v.num * ((10 ^ p / v.den : Nat) : Int)) p
  | none => (0, 0, 61)
theorem ofR_some {v : Rat} {k : Nat} (hk : k < 10) (h : 10 ^ k % v.den = 0) (hb : ∀ p, p < k → 10 ^ p % v.den ≠ 0) : ofR v = frp (v.num * ((10 ^ k / v.den : Nat) : Int)) k := by
  have e : (List.range 10).find? (fun p => decide (10 ^ p % v.den = 0)) = some k := by
    rw [List.find?_range_eq_some]
    exact ⟨by simpa using h, by simpa using hk, fun j hj => by simpa using hb j hj⟩
  unfold ofR
  rw [e]
theorem ofR_none {v : Rat} (hb : ∀ p, p < 10 → 10 ^ p % v.den ≠ 0) : ofR v = (0, 0, 61) := by
  have e : (List.range 10).find? (fun p => decide (10 ^ p % v.den = 0)) = none := by
    rw [List.find?_eq_none]
    intro p hp
    simpa using hb p (by simpa using hp)
  unfold ofR
  rw [e]
theorem noIntD (x y : Int) : NoInt #[.int .i64 x, .int .i64 y] := by
  intro i z h
  rcases i with _ | _ | i <;> simp at h
theorem tens_index (k : Nat) (hk : k < 10) (W : World) : (Instr.index 87 (.agg #[.int .i64 1, .int .i64 10, .int .i64 100, .int .i64 1000, .int .i64 10000, .int .i64 100000, .int .i64 1000000, .int .i64 10000000, .int .i64 100000000, .int .i64 1000000000]) (.int .i64 (k : Int))).run Tryz.prog W = .ok (.int .i64 (10 ^ k)) W := by
  match k, hk with
  | 0, _ => simp [Instr.index, go_sem]
  | 1, _ => simp [Instr.index, go_sem]
  | 2, _ => simp [Instr.index, go_sem]
  | 3, _ => simp [Instr.index, go_sem]
  | 4, _ => simp [Instr.index, go_sem]
  | 5, _ => simp [Instr.index, go_sem]
  | 6, _ => simp [Instr.index, go_sem]
  | 7, _ => simp [Instr.index, go_sem]
  | 8, _ => simp [Instr.index, go_sem]
  | 9, _ => simp [Instr.index, go_sem]
theorem ten_mod {k : Nat} (d : Nat) : ((10 : Int) ^ k).tmod d = ((10 ^ k % d : Nat) : Int) := by
  rw [Int.tmod_eq_emod_of_nonneg (Int.le_of_lt (Int.pow_pos (by omega)))]; simp
theorem ten_div {k : Nat} (d : Nat) : ((10 : Int) ^ k).tdiv d = ((10 ^ k / d : Nat) : Int) := by
  rw [Int.tdiv_eq_ediv_of_nonneg (Int.le_of_lt (Int.pow_pos (by omega)))]; simp
theorem ten_small {q : Nat} (d : Nat) (hq : q < 10) : 10 ^ q % d ≤ 1000000000 ∧ 10 ^ q / d ≤ 1000000000 := by
  have h3 : 10 ^ q ≤ 10 ^ 9 := Nat.pow_le_pow_right (by omega) (by omega)
  have h4 : (10 : Nat) ^ 9 = 1000000000 := by decide
  have h1 := Nat.mod_le (10 ^ q) d
  have h2 := Nat.div_le_self (10 ^ q) d
  omega
theorem frp_fits {v : Rat} (h : Short v) {q : Nat} (hq : q ≤ 1000000000) : ((v.num * (q : Int)).natAbs : Int) < pw 4096 := by
  have h1 := h.1
  have e : ((v.num * (q : Int)).natAbs : Int) = (v.num.natAbs : Int) * q := by rw [Int.natAbs_mul]; simp
  rw [e]
  have h2 : (v.num.natAbs : Int) * q ≤ pw 1024 * 18446744073709551616 := Int.mul_le_mul (Int.le_of_lt h1) (by omega) (by omega) (Int.le_of_lt (pw_pos _))
  have h3 : pw 1024 * 18446744073709551616 = pw 1025 := (Int.mul_comm _ _).trans rfl
  rw [h3] at h2
  have h4 := pw_add 1025 1
  have h5 : pw 1 = 18446744073709551616 := by decide
  have h6 : pw (1025 + 1) ≤ pw 4096 := pw_mono (by omega)
  have h7 := pw_pos 1025
  rw [h4, h5] at h6
  generalize pw 1025 = X at *
  generalize pw 4096 = Y at *
  omega
set_option maxHeartbeats 8000000 in
set_option maxRecDepth 20000 in
theorem of_dec (s : Bool) (a : Option Addr) (l c : Nat) (zs : List Int) (b : Option Addr) (m d : Nat) (ds : List Int) (v : Rat) (w : World) (hr : Rt w s a l c zs b m d ds v) (hT : Tn w) :
    Calls Tryz.prog 28 #[.agg #[.bool s, .slice a l c, .slice b m d]] w fun e W' => e = .returned (.tuple #[.agg #[.int .i64 (ofR v).1, .int .i64 (ofR v).2.1], .int .i64 (ofR v).2.2]) ∧ Below w.heap.size w W' := by
  obtain ⟨dv', hdv⟩ : ∃ n : Nat, v.den = n := ⟨_, rfl⟩
  have hd0 : dv' ≠ 0 := by rw [← hdv]; exact v.den_nz
  have HDV : Hid (v.den = dv') := hdv
  have HT : Hid (Tn w) := hT
  clear hdv hT
  by_cases h64 : dv' < 18446744073709551616
  ·
    have B0 : Below w.heap.size w w := Below.refl _ _
    go_enter Tryz.func28, Tryz.ntmps28
    go_wp2_with fail
    refine ent2 w _ _ _ _ (Q := fun W => Calls Tryz.prog _ _ W _) ?_
    intro x1 hb hs_x1 V0 V1
    replace hr := Rt.after hb hr
    replace B0 := step B0 hb
    clear hb hs_x1
    refine (rden_any s a l c b m d ds _ hr.2.1).mono ?_
    rintro e x2 ⟨b3, m3, d3, y3, rfl, h3, e3, hb⟩
    replace V0 := Va.after hb V0
    replace V1 := Va.after hb V1
    replace hr := Rt.after hb hr
    replace B0 := step B0 hb
    clear hb
    have E3 : Hid (num y3 = dv') := by show _ = _; rw [e3, hr.2.2.2.1, HDV.out]
    clear e3
    go_wp2_with fail
    have hu := uint64_small b3 m3 d3 y3 x2 h3 (by rw [E3.out]; omega)
    rw [E3.out] at hu
    refine (hu).mono ?_
    rintro e x3 ⟨rfl, hb⟩
    replace V0 := Va.after hb V0
    replace V1 := Va.after hb V1
    replace hr := Rt.after hb hr
    replace h3 := Nt.after hb h3
    replace B0 := step B0 hb
    clear hb
    clear hu h3 E3
    have tc0 : x3.cell? ⟨0, 0, none⟩ = some (.int .i64 1) := ((HT.out.to B0).cell 0 (by omega))
    have tc1 : x3.cell? ⟨0, 1, none⟩ = some (.int .i64 10) := ((HT.out.to B0).cell 1 (by omega))
    have tc2 : x3.cell? ⟨0, 2, none⟩ = some (.int .i64 100) := ((HT.out.to B0).cell 2 (by omega))
    have tc3 : x3.cell? ⟨0, 3, none⟩ = some (.int .i64 1000) := ((HT.out.to B0).cell 3 (by omega))
    have tc4 : x3.cell? ⟨0, 4, none⟩ = some (.int .i64 10000) := ((HT.out.to B0).cell 4 (by omega))
    have tc5 : x3.cell? ⟨0, 5, none⟩ = some (.int .i64 100000) := ((HT.out.to B0).cell 5 (by omega))
    have tc6 : x3.cell? ⟨0, 6, none⟩ = some (.int .i64 1000000) := ((HT.out.to B0).cell 6 (by omega))
    have tc7 : x3.cell? ⟨0, 7, none⟩ = some (.int .i64 10000000) := ((HT.out.to B0).cell 7 (by omega))
    have tc8 : x3.cell? ⟨0, 8, none⟩ = some (.int .i64 100000000) := ((HT.out.to B0).cell 8 (by omega))
    have tc9 : x3.cell? ⟨0, 9, none⟩ = some (.int .i64 1000000000) := ((HT.out.to B0).cell 9 (by omega))
    go_wp2_with fail
    have hr0 := hr
    go_loop [18] (fun i => ∃ k : Nat, i = .int .i64 k ∧ k ≤ 10 ∧ Hid (∀ p, p < k → 10 ^ p % dv' ≠ 0)) (fun i => 10 - (intOf i).toNat)
    case atStart => exact ⟨0, rfl, by omega, fun p hp => absurd hp (by omega)⟩
    case round =>
      clear tc0 tc1 tc2 tc3 tc4 tc5 tc6 tc7 tc8 tc9
      obtain ⟨q, rfl, hq, HQ⟩ := hrel
      by_cases hq10 : q < 10
      · have hqi : (q : Int) < 10 := by omega
        have hix := tens_index q hq10
        obtain ⟨T, hTT⟩ : ∃ T : Int, (10 : Int) ^ q = T := ⟨_, rfl⟩
        have hTb := ten_bound (P := q) (by omega)
        obtain ⟨M, hM⟩ : ∃ M : Nat, 10 ^ q % dv' = M := ⟨_, rfl⟩
        obtain ⟨G, hG⟩ : ∃ G : Nat, 10 ^ q / dv' = G := ⟨_, rfl⟩
        have hMi : T.tmod (dv' : Int) = M := by rw [← hTT, ten_mod, hM]
        have hGi : T.tdiv (dv' : Int) = G := by rw [← hTT, ten_div, hG]
        rw [hTT] at hix hTb
        have hsm := ten_small dv' hq10
        rw [hM, hG] at hsm
        have HGb : Hid (G ≤ 1000000000) := hsm.2
        have hGb := HGb.out
        have HM : Hid (10 ^ q % dv' = M) := hM
        have HG : Hid (10 ^ q / dv' = G) := hG
        have eT : IntKind.u64.wrap T = T := by rw [IntKind.wrap_u64]; omega
        have eM : IntKind.u64.wrap (M : Int) = M := by rw [IntKind.wrap_u64]; omega
        have eG : IntKind.u64.wrap (G : Int) = G := by rw [IntKind.wrap_u64]; omega
        have eG2 : IntKind.i64.wrap (G : Int) = G := by rw [IntKind.wrap_i64]; omega
        have hdz : ((dv' : Int) == 0) = false := by simpa using hd0
        have hdn : (dv' : Int) ≠ 0 := by omega
        clear hTT hM hG
        by_cases hM0 : M = 0
        · have hm : ((M : Int) == 0) = true := by simp [hM0]
          have HM0 : Hid (M = 0) := hM0
          clear hM0
          go_wp2_with fail
          refine wp_region_noPanic ?_
          replace V0 : Va x3.drew _ _ _ := V0
          replace V1 : Va x3.drew _ _ _ := V1
          replace hr := hr.drw
          replace B0 := Below.drew B0
          refine wp_region_held_drew (S := (fun W => W.cell? ⟨w.heap.size, 0, none⟩ = some (.bool s) ∧ W.cell? ⟨w.heap.size, 1, none⟩ = some (.slice a l c) ∧ W.cell? ⟨w.heap.size, 2, none⟩ = some (.slice b m d))) (by kernel_rfl) ⟨V0.d0, V0.d1, V0.d2⟩ (fun hHeld => ?_)
          obtain ⟨x4, hxd⟩ : ∃ xd, xd = x3.drew := ⟨_, rfl⟩
          rw [← hxd] at V0 V1 hr B0 hHeld ⊢
          clear hxd
          refine wpAnyH_take (i := 0) (v := ?_) rfl (by kernel_rfl) (by kernel_rfl) (by kernel_rfl) (fun _ _ _ h => h) (Or.inl ⟨by rfl, ?_⟩) hHeld ?_
          rotate_left
          · (intro W hSw; (try dsimp only at hSw); go_simp; all_goals (with_reducible rfl))
          simp only [List.getElem_toArray, List.getElem_cons_zero, Act.put, List.setIfInBounds_toArray, List.set_cons_zero, List.set_cons_succ]
          refine wpAnyH_take (i := 2) (v := ?_) rfl (by kernel_rfl) (by kernel_rfl) (by kernel_rfl) (fun _ _ _ h => h) (Or.inl ⟨by rfl, ?_⟩) hHeld ?_
          rotate_left
          · (intro W hSw; (try dsimp only at hSw); go_simp; all_goals (with_reducible rfl))
          simp only [List.getElem_toArray, List.getElem_cons_zero, List.getElem_cons_succ, Act.put, List.setIfInBounds_toArray, List.set_cons_zero, List.set_cons_succ]
          refine wpAnyH_take (i := 3) (v := ?_) rfl (by kernel_rfl) (by kernel_rfl) (by kernel_rfl) (fun _ _ _ h => h) (Or.inl ⟨by rfl, ?_⟩) hHeld ?_
          rotate_left
          · (intro W hSw; (try dsimp only at hSw); go_simp; all_goals (with_reducible rfl))
          simp only [List.getElem_toArray, List.getElem_cons_zero, List.getElem_cons_succ, Act.put, List.setIfInBounds_toArray, List.set_cons_zero, List.set_cons_succ]
          refine wpAnyH_take (i := 4) (v := ?_) rfl (by kernel_rfl) (by kernel_rfl) (by kernel_rfl) (fun _ _ _ h => h) (Or.inl ⟨by rfl, ?_⟩) hHeld ?_
          rotate_left
          · (intro W hSw; (try dsimp only at hSw); go_simp; all_goals (with_reducible rfl))
          simp only [List.getElem_toArray, List.getElem_cons_zero, List.getElem_cons_succ, Act.put, List.setIfInBounds_toArray, List.set_cons_zero, List.set_cons_succ]
          refine wpAnyH_take (i := 5) (v := ?_) rfl (by kernel_rfl) (by kernel_rfl) (by kernel_rfl) (fun _ _ _ h => h) (Or.inl ⟨by rfl, ?_⟩) hHeld ?_
          rotate_left
          · (intro W hSw; (try dsimp only at hSw); go_simp; all_goals (with_reducible rfl))
          simp only [List.getElem_toArray, List.getElem_cons_zero, List.getElem_cons_succ, Act.put, List.setIfInBounds_toArray, List.set_cons_zero, List.set_cons_succ]
          refine wpAnyH_take (i := 6) (v := ?_) rfl (by kernel_rfl) (by kernel_rfl) (by kernel_rfl) (fun _ _ _ h => h) (Or.inl ⟨by rfl, ?_⟩) hHeld ?_
          rotate_left
          · (intro W hSw; (try dsimp only at hSw); go_simp; all_goals (with_reducible rfl))
          simp only [List.getElem_toArray, List.getElem_cons_zero, List.getElem_cons_succ, Act.put, List.setIfInBounds_toArray, List.set_cons_zero, List.set_cons_succ]
          refine wpAnyH_take (i := 7) (v := ?_) rfl (by kernel_rfl) (by kernel_rfl) (by kernel_rfl) (fun _ _ _ h => h) (Or.inl ⟨by rfl, ?_⟩) hHeld ?_
          rotate_left
          · (intro W hSw; (try dsimp only at hSw); go_simp; all_goals (with_reducible rfl))
          simp only [List.getElem_toArray, List.getElem_cons_zero, List.getElem_cons_succ, Act.put, List.setIfInBounds_toArray, List.set_cons_zero, List.set_cons_succ]
          refine wpAnyH_ready (rs := [1]) (by kernel_rfl) (by simp) ?_
          refine AllReadyH.cons rfl (fun K hK => ?_) AllReadyH.nil
          simp only [List.getElem_toArray, List.getElem_cons_zero, List.getElem_cons_succ]
          go_simp
          refine (qnum_any s a l c b m d _).mono ?_
          rintro e x5 ⟨rfl, hb⟩
          replace V0 := Va.after hb V0
          replace V1 := Va.after hb V1
          replace hr := Rt.after hb hr
          replace B0 := step B0 hb
          clear hb
          try go_wp2_with fail
          refine hK.out _ _ ⟨V0.d0, V0.d1, V0.d2⟩ (fun hHeld => ?_)
          clear hK K
          have hN := hr.1
          have HOF : Hid (ofR v = frp (v.num * (G : Int)) q) := by have h := ofR_some (v := v) hq10 (by rw [HDV.out, HM.out, HM0.out]) (fun p hp => by rw [HDV.out]; exact HQ.out p hp); rw [HDV.out, HG.out] at h; exact h
          refine wpAnyH_ready (rs := [8]) (by kernel_rfl) (by simp) ?_
          refine AllReadyH.cons rfl (fun K hK => ?_) AllReadyH.nil
          simp only [List.getElem_toArray, List.getElem_cons_zero, List.getElem_cons_succ]
          go_simp
          refine (frp_any s a l c zs v.num G q _ hN hr.2.2.1 (by omega) (by omega) (frp_fits hr.2.2.2.2 HGb.out)).mono ?_
          rintro e x6 ⟨rfl, hb⟩
          replace V0 := Va.after hb V0
          replace V1 := Va.after hb V1
          replace hr := Rt.after hb hr
          replace hN := It.after hb hN
          replace B0 := step B0 hb
          clear hb
          try go_wp2_with fail
          refine hK.out _ _ ⟨V0.d0, V0.d1, V0.d2⟩ (fun hHeld => ?_)
          clear hK K
          refine wpAnyH_take (i := 9) (v := ?_) rfl (by kernel_rfl) (by kernel_rfl) (by kernel_rfl) (fun _ _ _ h => h) (Or.inl ⟨by rfl, ?_⟩) hHeld ?_
          rotate_left
          · (intro W hSw; (try dsimp only at hSw); go_simp; all_goals (with_reducible rfl))
          simp only [List.getElem_toArray, List.getElem_cons_zero, List.getElem_cons_succ, Act.put, List.setIfInBounds_toArray, List.set_cons_zero, List.set_cons_succ]
          refine wpAnyH_take (i := 10) (v := ?_) rfl (by kernel_rfl) (by kernel_rfl) (by kernel_rfl) (fun _ _ _ h => h) (Or.inl ⟨by rfl, ?_⟩) hHeld ?_
          rotate_left
          · (intro W hSw; (try dsimp only at hSw); go_simp; all_goals (with_reducible rfl))
          simp only [List.getElem_toArray, List.getElem_cons_zero, List.getElem_cons_succ, Act.put, List.setIfInBounds_toArray, List.set_cons_zero, List.set_cons_succ]
          have c_V1 := V1.c0
          have f0_V1 := V1.frozen 0
          have d_V1 := V1.c1
          have f1_V1 := V1.frozen 1
          have l_V1 := V1.lt
          have m_V1 := Nat.le_of_lt l_V1
          refine wpAnyH_ready (rs := [11]) (by kernel_rfl) (by simp) ?_
          refine AllReadyH.cons rfl (fun K hK => ?_) AllReadyH.nil
          simp only [List.getElem_toArray, List.getElem_cons_zero, List.getElem_cons_succ]
          go_simp
          clear c_V1 f0_V1 d_V1 f1_V1 l_V1 m_V1
          refine st2 V1 (.int .i64 (frp (v.num * (G : Int)) q).1) (.int .i64 (frp (v.num * (G : Int)) q).2.1) (Q := fun W => K _ W) ?_
          intro x7 V' oth far
          replace V0 := oth _ _ _ (by first | omega | assumption | (simp; omega)) V0
          replace hr := hr.far V1 (noIntD _ _) far.1
          replace hN := hN.far V1 (noIntD _ _) far.1
          replace B0 := far.2 _ _ (by first | omega | (simp; omega)) B0
          replace V1 := V'
          clear oth far
          refine hK.out _ _ ⟨V0.d0, V0.d1, V0.d2⟩ (fun hHeld => ?_)
          clear hK K
          refine wpAnyH_take (i := 12) (v := ?_) rfl (by kernel_rfl) (by kernel_rfl) (by kernel_rfl) (fun _ _ _ h => h) (Or.inl ⟨by rfl, ?_⟩) hHeld ?_
          rotate_left
          · (intro W hSw; (try dsimp only at hSw); go_simp; all_goals (with_reducible rfl))
          simp only [List.getElem_toArray, List.getElem_cons_zero, List.getElem_cons_succ, Act.put, List.setIfInBounds_toArray, List.set_cons_zero, List.set_cons_succ]
          refine wpAnyH_done (by kernel_rfl) ?_ _
          refine NoPanic.normal ?_
          clear hHeld
          go_wp2_with fail
          refine bodyPost_ret (results_dt rfl rfl V1) rfl ?_
          rw [HOF.out]
          exact ⟨rfl, B0⟩
        · have hm : ((M : Int) == 0) = false := by simpa using hM0
          go_wp2_with fail
          go_round
          case rel => exact ⟨q + 1, by go_num, by omega, fun p hp => by rcases Nat.lt_or_ge p q with h | h; exact HQ.out p h; rw [show p = q by omega, HM.out]; exact hM0⟩
          case measure => simp [intOf]; omega
      · have hqi : ¬ (q : Int) < 10 := by omega
        have HOF : Hid (ofR v = (0, 0, 61)) := ofR_none (fun p hp => by rw [HDV.out]; exact HQ.out p (by omega))
        have c_V1 := V1.c0
        have f0_V1 := V1.frozen 0
        have d_V1 := V1.c1
        have f1_V1 := V1.frozen 1
        have l_V1 := V1.lt
        have m_V1 := Nat.le_of_lt l_V1
        go_wp2_with fail
        refine bodyPost_ret (results_dt rfl rfl (V1.set2 _ _)) rfl ?_
        rw [HOF.out]
        exact ⟨rfl, below_2 B0 (by omega) _ _⟩
  · have HOF : Hid (ofR v = (0, 0, 61)) := ofR_none (fun p hp h => by
      have h1 := Nat.dvd_of_mod_eq_zero h
      rw [HDV.out] at h1
      have h2 := Nat.le_of_dvd (Nat.pow_pos (by omega)) h1
      have h3 : 10 ^ p ≤ 10 ^ 9 := Nat.pow_le_pow_right (by omega) (by omega)
      have h4 : (10 : Nat) ^ 9 = 1000000000 := by decide
      omega)
    rw [HOF.out]
    have B0 : Below w.heap.size w w := Below.refl _ _
    go_enter Tryz.func28, Tryz.ntmps28
    go_wp2_with fail
    refine ent2 w _ _ _ _ (Q := fun W => Calls Tryz.prog _ _ W _) ?_
    intro x1 hb hs_x1 V0 V1
    replace hr := Rt.after hb hr
    replace B0 := step B0 hb
    clear hb hs_x1
    refine (rden_any s a l c b m d ds _ hr.2.1).mono ?_
    rintro e x2 ⟨b3, m3, d3, y3, rfl, h3, e3, hb⟩
    replace V0 := Va.after hb V0
    replace V1 := Va.after hb V1
    replace hr := Rt.after hb hr
    replace B0 := step B0 hb
    clear hb
    have E3 : Hid (num y3 = dv') := by show _ = _; rw [e3, hr.2.2.2.1, HDV.out]
    clear e3
    go_wp2_with fail
    refine (uint64_great b3 m3 d3 y3 _ h3 (by rw [E3.out]; omega)).mono ?_
    rintro e x3 ⟨rfl, hb⟩
    replace V0 := Va.after hb V0
    replace V1 := Va.after hb V1
    replace hr := Rt.after hb hr
    replace h3 := Nt.after hb h3
    replace B0 := step B0 hb
    clear hb
    have c_V1 := V1.c0
    have f0_V1 := V1.frozen 0
    have d_V1 := V1.c1
    have f1_V1 := V1.frozen 1
    have l_V1 := V1.lt
    have m_V1 := Nat.le_of_lt l_V1
    go_wp2_with fail
    refine bodyPost_ret (results_dt rfl rfl (V1.set2 _ _)) rfl ?_
    exact ⟨rfl, below_2 B0 (by omega) _ _⟩
end Go.Proofs.YtoaaiahheehgnaaGreatDoor
namespace Go.Proofs.YtoaaiahheehgnaaGreatDoor
open Go.RowKit Go.Shelf
set_option linter.unusedVariables false

theorem ofR_can {U : Int} {P : Nat} (h1 : -9223372036854775808 ≤ U) (h2 : U ≤ 9223372036854775807) (hc : Can U P) : ofR (Rat.divInt U (10 ^ P)) = (U, P, 0) := by
  obtain ⟨v, hv⟩ : ∃ v, v = Rat.divInt U (10 ^ P) := ⟨_, rfl⟩
  rw [← hv]
  obtain ⟨t, ht⟩ := den_dvd_ten hv
  have hd : 0 < v.den := Nat.pos_of_ne_zero v.den_nz
  have e1 : 10 ^ P / v.den = t := by rw [ht, Nat.mul_div_cancel_left _ hd]
  have hf := (few hv hc.2 (Nat.le_refl P) ht).2
  rw [ofR_some (k := P) (by have := hc.1; omega) (by rw [ht, Nat.mul_mod_right]) (fun p hp h => ?_), e1, hf]
  · unfold frp; rw [if_pos ⟨h1, h2⟩]
  · obtain ⟨q, hq⟩ := Nat.dvd_of_mod_eq_zero h
    have := (few hv hc.2 (by omega) hq).1
    omega
/-- What a decimal's text is, sign and digits. -/
def dbody (U : Int) (P : Nat) : List UInt8 := ptL P (padL P (Go.Lib.decDigits U.natAbs))
theorem dtx_eq (U : Int) (P : Nat) : dtx U P = sgL (decide (U < 0)) (dbody U P) := rfl
theorem dbody_head (U : Int) (P : Nat) : ∃ c b, dbody U P = c :: b ∧ (c.toNat : Int) ≠ 45 := by
  have hd := (dec_tx U.natAbs)
  have hp : Dig 10 (padL P (Go.Lib.decDigits U.natAbs)) := padL_dig hd.dig
  have hl := padL_len P (Go.Lib.decDigits U.natAbs)
  unfold dbody ptL
  generalize padL P (Go.Lib.decDigits U.natAbs) = p at hp hl ⊢
  have key : ∀ (A r : List UInt8), Dig 10 A → A ≠ [] → ∃ c b, A ++ r = c :: b ∧ (c.toNat : Int) ≠ 45 := by
    intro A r hA h0
    match A, h0 with
    | c :: A, _ =>
      refine ⟨c, A ++ r, rfl, fun h => ?_⟩
      have h1 := hA.cons.1
      have h2 : c.toNat = 45 := by omega
      unfold wv at h1
      rw [h2] at h1
      simp at h1
  split
  · have := key p [] hp (List.length_pos_iff.1 (by omega))
    rwa [List.append_nil] at this
  · exact key _ _ (fun c hc => hp c (List.mem_of_mem_take hc)) (List.length_pos_iff.1 (by simp; omega))
theorem dbody_len {U : Int} {P : Nat} (hP : P ≤ 9) (h1 : -9223372036854775808 ≤ U) (h2 : U ≤ 9223372036854775807) : (dbody U P).length ≤ 1000 := by
  have h := dec_len (n := U.natAbs) (by omega)
  have hl := padL_len P (Go.Lib.decDigits U.natAbs)
  unfold dbody ptL
  generalize padL P (Go.Lib.decDigits U.natAbs) = p at hl ⊢
  split
  · omega
  · simp; omega
theorem str_index (c : UInt8) (b : List UInt8) (W : World) : (Instr.index 9 (.string ⟨(c :: b).toArray⟩) (.int .i64 0)).run Tryz.prog W = .ok (.int .u8 (c.toNat : Int)) W := by
  have hb : (0 : Int) < ((ByteArray.mk (c :: b).toArray).size : Int) := by rw [bsize]; simp
  simp [Instr.index, go_sem]
  rfl
theorem nameN (w : World) (n : Nat) {Q : World → Prop} (h : ∀ W, Below w.heap.size w W → Q W) : Q (w.drewN n) := h _ (below_drewN (Below.refl _ _) n)
set_option maxHeartbeats 8000000 in
theorem back_walk (u p : Int) (w : World) (hu1 : -9223372036854775808 ≤ u) (hu2 : u ≤ 9223372036854775807) (hPt : Pt w) (hTn : Tn w) :
    Calls Tryz.prog 8 #[.int .i64 u, .int .i64 p] w fun e W' => e = .returned (.bool true) ∧ Below w.heap.size w W' := by
  have HPt : Hid (Pt w) := hPt
  have HTn : Hid (Tn w) := hTn
  clear hPt hTn
  by_cases hp : 0 ≤ p ∧ p ≤ 9
  · obtain ⟨P0, rfl⟩ : ∃ P0 : Nat, p = P0 := ⟨p.toNat, by omega⟩
    have hmk := make_ok u P0 (by omega) hu1 hu2
    have hcan := mkd_can P0 u (by omega)
    have hbd := mkd_bound P0 u hu1 hu2
    obtain ⟨⟨U, P⟩, hUP⟩ : ∃ q, mkd u P0 = q := ⟨_, rfl⟩
    rw [hUP] at hmk hcan hbd
    simp only at hmk hcan hbd
    obtain ⟨g1, g2⟩ := hbd
    have hmk2 := make_ok U P hcan.1 g1 g2
    rw [mkd_id hcan] at hmk2
    simp only at hmk2
    have hck := check_ok U P ((canI_iff U P).2 hcan)
    have hP9 := hcan.1
    have htx : ∀ W, Pt W → _ := fun W hW => dtext_ok U P g1 g2 hcan W hW
    have hof : Hid (ofR (Rat.divInt U (10 ^ P)) = (U, P, 0)) := ofR_can g1 g2 hcan
    have HB : Hid (∀ k j, readL (sgL (decide (U < 0)) (List.replicate k 48 ++ dbody U P ++ (if P = 0 then [] else List.replicate j 48))) = (U, P, 0, 0)) := fun k j => back_read g1 g2 hcan.1 hcan.2 (dec_tx _) k j
    have HL := dbody_len hcan.1 g1 g2
    have hro : ∀ W, Tn W → _ := fun W hW => rat_ok U P g1 g2 hcan W hW
    obtain ⟨c, b, hcb, hc45⟩ := dbody_head U P
    have HD : Hid (dtx U P = sgL (decide (U < 0)) (c :: b)) := by show _ = _; rw [dtx_eq, hcb]
    rw [hcb] at HB HL
    have HS0 : Hid (readL (dtx U P) = (U, P, 0, 0)) := by
      have h := HB.out 0 0
      show _ = _
      rw [HD.out]
      simpa using h
    obtain ⟨neg, hneg⟩ : ∃ n, decide (U < 0) = n := ⟨_, rfl⟩
    rw [hneg] at HB HD
    obtain ⟨Bd, hBd⟩ : ∃ Bd, c :: b = Bd := ⟨_, rfl⟩
    obtain ⟨S, hS⟩ : ∃ S, dtx U P = S := ⟨_, rfl⟩
    rw [hS] at HD HS0 htx
    obtain ⟨C, hix, hCn⟩ : ∃ C : Int, (∀ W, (Instr.index 9 (.string ⟨S.toArray⟩) (.int .i64 0)).run Tryz.prog W = .ok (.int .u8 C) W) ∧ (C == 45) = neg := by
      cases neg with
      | true =>
        have e : S = 45 :: (c :: b) := HD.out
        exact ⟨45, fun W => by rw [e]; exact str_index 45 (c :: b) W, rfl⟩
      | false =>
        have e : S = c :: b := HD.out
        exact ⟨c.toNat, fun W => by rw [e]; exact str_index c b W, by simpa using hc45⟩
    rw [hBd] at HB HL HD
    have hSl : S.length ≤ 1001 := by rw [HD.out]; cases neg <;> simp [sgL] <;> omega
    have hS0 : 0 < S.length := by rw [HD.out]; cases neg <;> simp [sgL, ← hBd]
    have hS1 : ¬ ((S.length : Int) < 1) := by omega
    have hps := parse_dec S (by omega)
    rw [HS0.out] at hps
    have HRU : Hid _ := hof
    clear hof hUP hcan hcb hneg hS hBd hc45 HS0
    have B0 : Below w.heap.size w w := Below.refl _ _
    go_enter Tryz.func8, Tryz.ntmps8
    go_wp2_with fail
    refine (awake6 _ (HPt.out.to B0)).mono ?_
    rintro e x1 ⟨rfl, hb⟩
    replace B0 := step B0 hb
    clear hb
    go_wp2_with fail
    refine (hmk _).mono ?_
    rintro e x2 ⟨rfl, hb⟩
    replace B0 := step B0 hb
    clear hb
    go_wp2_with fail
    refine ent1 x2 _ _ (Q := fun W => Calls Tryz.prog _ _ W _) ?_
    intro x3 hb hs_x3 V0
    replace B0 := step B0 hb
    clear hb hs_x3
    refine (htx _ (HPt.out.to B0)).mono ?_
    rintro e x4 ⟨rfl, hb⟩
    replace V0 := Va.after hb V0
    replace B0 := step B0 hb
    clear hb
    have c_V0 := V0.c0
    have f0_V0 := V0.frozen 0
    have d_V0 := V0.c1
    have f1_V0 := V0.frozen 1
    have l_V0 := V0.lt
    have m_V0 := Nat.le_of_lt l_V0
    go_wp2_with fail
    refine (hro _ (HTn.out.to B0)).mono ?_
    rintro e x5 ⟨s, a, l, c2, zs, b2, m, d, ds, rfl, hr, hb⟩
    replace V0 := Va.after hb V0
    replace B0 := step B0 hb
    clear hb
    clear c_V0 f0_V0 d_V0 f1_V0 l_V0 m_V0
    have c_V0 := V0.c0
    have f0_V0 := V0.frozen 0
    have d_V0 := V0.c1
    have f1_V0 := V0.frozen 1
    have l_V0 := V0.lt
    have m_V0 := Nat.le_of_lt l_V0
    go_wp2_with fail
    refine ent1 x5 _ _ (Q := fun W => Calls Tryz.prog _ _ W _) ?_
    intro x6 hb hs_x6 X0
    replace V0 := Va.after hb V0
    replace hr := Rt.after hb hr
    replace B0 := step B0 hb
    clear hb hs_x6
    refine (hmk2 _).mono ?_
    rintro e x7 ⟨rfl, hb⟩
    replace V0 := Va.after hb V0
    replace X0 := Va.after hb X0
    replace hr := Rt.after hb hr
    replace B0 := step B0 hb
    clear hb
    clear c_V0 f0_V0 d_V0 f1_V0 l_V0 m_V0
    have c_V0 := V0.c0
    have f0_V0 := V0.frozen 0
    have d_V0 := V0.c1
    have f1_V0 := V0.frozen 1
    have l_V0 := V0.lt
    have m_V0 := Nat.le_of_lt l_V0
    go_wp2_with fail
    refine ent1 x7 _ _ (Q := fun W => Calls Tryz.prog _ _ W _) ?_
    intro x8 hb hs_x8 M0
    replace V0 := Va.after hb V0
    replace X0 := Va.after hb X0
    replace hr := Rt.after hb hr
    replace B0 := step B0 hb
    clear hb hs_x8
    refine (hck _).mono ?_
    rintro e x9 ⟨rfl, hb⟩
    replace V0 := Va.after hb V0
    replace X0 := Va.after hb X0
    replace M0 := Va.after hb M0
    replace hr := Rt.after hb hr
    replace B0 := step B0 hb
    clear hb
    clear c_V0 f0_V0 d_V0 f1_V0 l_V0 m_V0
    have c_V0 := V0.c0
    have f0_V0 := V0.frozen 0
    have d_V0 := V0.c1
    have f1_V0 := V0.frozen 1
    have l_V0 := V0.lt
    have m_V0 := Nat.le_of_lt l_V0
    have c_M0 := M0.c0
    have f0_M0 := M0.frozen 0
    have d_M0 := M0.c1
    have f1_M0 := M0.frozen 1
    have l_M0 := M0.lt
    have m_M0 := Nat.le_of_lt l_M0
    go_wp2_with fail
    refine (hps _).mono ?_
    rintro e x10 ⟨rfl, hb⟩
    replace V0 := Va.after hb V0
    replace X0 := Va.after hb X0
    replace M0 := Va.after hb M0
    replace hr := Rt.after hb hr
    replace B0 := step B0 hb
    clear hb
    clear c_V0 f0_V0 d_V0 f1_V0 l_V0 m_V0 c_M0 f0_M0 d_M0 f1_M0 l_M0 m_M0
    have c_V0 := V0.c0
    have f0_V0 := V0.frozen 0
    have d_V0 := V0.c1
    have f1_V0 := V0.frozen 1
    have l_V0 := V0.lt
    have m_V0 := Nat.le_of_lt l_V0
    have c_X0 := X0.d0
    have f0_X0 := X0.frozen 0
    have d_X0 := X0.d1
    have f1_X0 := X0.frozen 1
    have e_X0 := X0.d2
    have f2_X0 := X0.frozen 2
    have l_X0 := X0.lt
    have m_X0 := Nat.le_of_lt l_X0
    go_wp2_with fail
    refine ent1 x10 _ _ (Q := fun W => Calls Tryz.prog _ _ W _) ?_
    intro x11 hb hs_x11 O0
    replace V0 := Va.after hb V0
    replace X0 := Va.after hb X0
    replace M0 := Va.after hb M0
    replace hr := Rt.after hb hr
    replace B0 := step B0 hb
    clear hb hs_x11
    have hofc := of_dec s a l c2 zs b2 m d ds _ x11 hr (HTn.out.to B0)
    rw [HRU.out] at hofc
    refine (hofc).mono ?_
    rintro e x12 ⟨rfl, hb⟩
    replace V0 := Va.after hb V0
    replace X0 := Va.after hb X0
    replace M0 := Va.after hb M0
    replace O0 := Va.after hb O0
    replace hr := Rt.after hb hr
    replace B0 := step B0 hb
    clear hb
    cases neg
    ·
      by_cases hP0 : P = 0
      ·
        have HX : Hid (readL (48 :: 48 :: Bd) = (U, P, 0, 0)) := by have h := HB.out 2 1; rw [if_pos hP0] at h; show _ = _; simpa [sgL, List.replicate_succ] using h
        have hpx := parse_dec (48 :: 48 :: Bd) (by simp; omega)
        rw [HX.out] at hpx
        have hPi : ¬ ((0 : Int) < (P : Int)) := by omega
        have e0 := cat ([] : List UInt8) [48, 48]
        have e1 := cat [48, 48] Bd
        have e2 := cat Bd [48]
        have hSB : S = Bd := HD.out
        subst hSB
        clear hP0 HB HD HX
        clear c_V0 f0_V0 d_V0 f1_V0 l_V0 m_V0 c_X0 f0_X0 d_X0 f1_X0 e_X0 f2_X0 l_X0 m_X0
        have c_V0 := V0.c0
        have f0_V0 := V0.frozen 0
        have d_V0 := V0.c1
        have f1_V0 := V0.frozen 1
        have l_V0 := V0.lt
        have m_V0 := Nat.le_of_lt l_V0
        have c_O0 := O0.c0
        have f0_O0 := O0.frozen 0
        have d_O0 := O0.c1
        have f1_O0 := O0.frozen 1
        have l_O0 := O0.lt
        have m_O0 := Nat.le_of_lt l_O0
        have p0_V0 := (V0.old (.cells #[.int .i64 U, .int .i64 P] 23)).c0
        have q0_V0 := (V0.old (.cells #[.int .i64 U, .int .i64 P] 23)).frozen 0
        have p1_V0 := (V0.old (.cells #[.int .i64 U, .int .i64 P] 23)).c1
        have q1_V0 := (V0.old (.cells #[.int .i64 U, .int .i64 P] 23)).frozen 1
        have p0_O0 := (O0.old (.cells #[.int .i64 U, .int .i64 P] 23)).c0
        have q0_O0 := (O0.old (.cells #[.int .i64 U, .int .i64 P] 23)).frozen 0
        have p1_O0 := (O0.old (.cells #[.int .i64 U, .int .i64 P] 23)).c1
        have q1_O0 := (O0.old (.cells #[.int .i64 U, .int .i64 P] 23)).frozen 1
        go_wp2_with fail
        clear c_V0 f0_V0 d_V0 f1_V0 l_V0 m_V0 c_O0 f0_O0 d_O0 f1_O0 l_O0 m_O0 p0_V0 q0_V0 p1_V0 q1_V0 p0_O0 q0_O0 p1_O0 q1_O0
        refine ent1 x12 _ _ (Q := fun W => Calls Tryz.prog _ _ W _) ?_
        intro x13 hb hs_x13 T0
        replace V0 := Va.after hb V0
        replace X0 := Va.after hb X0
        replace M0 := Va.after hb M0
        replace O0 := Va.after hb O0
        replace hr := Rt.after hb hr
        replace B0 := step B0 hb
        clear hb hs_x13
        refine (hpx _).mono ?_
        rintro e x14 ⟨rfl, hb⟩
        replace V0 := Va.after hb V0
        replace X0 := Va.after hb X0
        replace M0 := Va.after hb M0
        replace O0 := Va.after hb O0
        replace T0 := Va.after hb T0
        replace hr := Rt.after hb hr
        replace B0 := step B0 hb
        clear hb
        have c_V0 := V0.c0
        have f0_V0 := V0.frozen 0
        have d_V0 := V0.c1
        have f1_V0 := V0.frozen 1
        have l_V0 := V0.lt
        have m_V0 := Nat.le_of_lt l_V0
        go_wp2_with fail
        go_ret
        exact ⟨rfl, B0.alloc B0.size _⟩
      ·
        have HX : Hid (readL (48 :: 48 :: (Bd ++ [48])) = (U, P, 0, 0)) := by have h := HB.out 2 1; rw [if_neg hP0] at h; show _ = _; simpa [sgL, List.replicate_succ] using h
        have hpx := parse_dec (48 :: 48 :: (Bd ++ [48])) (by simp; omega)
        rw [HX.out] at hpx
        have hPi : ((0 : Int) < (P : Int)) := by omega
        have e0 := cat ([] : List UInt8) [48, 48]
        have e1 := cat [48, 48] (Bd ++ [48])
        have e2 := cat Bd [48]
        have hSB : S = Bd := HD.out
        subst hSB
        clear hP0 HB HD HX
        clear c_V0 f0_V0 d_V0 f1_V0 l_V0 m_V0 c_X0 f0_X0 d_X0 f1_X0 e_X0 f2_X0 l_X0 m_X0
        have c_V0 := V0.c0
        have f0_V0 := V0.frozen 0
        have d_V0 := V0.c1
        have f1_V0 := V0.frozen 1
        have l_V0 := V0.lt
        have m_V0 := Nat.le_of_lt l_V0
        have c_O0 := O0.c0
        have f0_O0 := O0.frozen 0
        have d_O0 := O0.c1
        have f1_O0 := O0.frozen 1
        have l_O0 := O0.lt
        have m_O0 := Nat.le_of_lt l_O0
        have p0_V0 := (V0.old (.cells #[.int .i64 U, .int .i64 P] 23)).c0
        have q0_V0 := (V0.old (.cells #[.int .i64 U, .int .i64 P] 23)).frozen 0
        have p1_V0 := (V0.old (.cells #[.int .i64 U, .int .i64 P] 23)).c1
        have q1_V0 := (V0.old (.cells #[.int .i64 U, .int .i64 P] 23)).frozen 1
        have p0_O0 := (O0.old (.cells #[.int .i64 U, .int .i64 P] 23)).c0
        have q0_O0 := (O0.old (.cells #[.int .i64 U, .int .i64 P] 23)).frozen 0
        have p1_O0 := (O0.old (.cells #[.int .i64 U, .int .i64 P] 23)).c1
        have q1_O0 := (O0.old (.cells #[.int .i64 U, .int .i64 P] 23)).frozen 1
        go_wp2_with fail
        clear c_V0 f0_V0 d_V0 f1_V0 l_V0 m_V0 c_O0 f0_O0 d_O0 f1_O0 l_O0 m_O0 p0_V0 q0_V0 p1_V0 q1_V0 p0_O0 q0_O0 p1_O0 q1_O0
        refine ent1 x12 _ _ (Q := fun W => Calls Tryz.prog _ _ W _) ?_
        intro x13 hb hs_x13 T0
        replace V0 := Va.after hb V0
        replace X0 := Va.after hb X0
        replace M0 := Va.after hb M0
        replace O0 := Va.after hb O0
        replace hr := Rt.after hb hr
        replace B0 := step B0 hb
        clear hb hs_x13
        refine (hpx _).mono ?_
        rintro e x14 ⟨rfl, hb⟩
        replace V0 := Va.after hb V0
        replace X0 := Va.after hb X0
        replace M0 := Va.after hb M0
        replace O0 := Va.after hb O0
        replace T0 := Va.after hb T0
        replace hr := Rt.after hb hr
        replace B0 := step B0 hb
        clear hb
        have c_V0 := V0.c0
        have f0_V0 := V0.frozen 0
        have d_V0 := V0.c1
        have f1_V0 := V0.frozen 1
        have l_V0 := V0.lt
        have m_V0 := Nat.le_of_lt l_V0
        go_wp2_with fail
        go_ret
        exact ⟨rfl, B0.alloc B0.size _⟩
    ·
      by_cases hP0 : P = 0
      ·
        have HX : Hid (readL (45 :: 48 :: 48 :: Bd) = (U, P, 0, 0)) := by have h := HB.out 2 1; rw [if_pos hP0] at h; show _ = _; simpa [sgL, List.replicate_succ] using h
        have hpx := parse_dec (45 :: 48 :: 48 :: Bd) (by simp; omega)
        rw [HX.out] at hpx
        have hPi : ¬ ((0 : Int) < (P : Int)) := by omega
        have e0 := cat [45] [48, 48]
        have e1 := cat [45, 48, 48] Bd
        have e2 := cat Bd [48]
        have hSB : S = 45 :: Bd := HD.out
        have s1 : ∀ W, (Instr.sliceAt 9 (.string ⟨S.toArray⟩) (some (.int .i64 1)) none none).run Tryz.prog W = .ok (.string ⟨Bd.toArray⟩) W := fun W => by rw [slice_lo S 1 1 rfl (by omega) W, hSB]; rfl
        clear hSB
        clear hP0 HB HD HX
        clear c_V0 f0_V0 d_V0 f1_V0 l_V0 m_V0 c_X0 f0_X0 d_X0 f1_X0 e_X0 f2_X0 l_X0 m_X0
        have c_V0 := V0.c0
        have f0_V0 := V0.frozen 0
        have d_V0 := V0.c1
        have f1_V0 := V0.frozen 1
        have l_V0 := V0.lt
        have m_V0 := Nat.le_of_lt l_V0
        have c_O0 := O0.c0
        have f0_O0 := O0.frozen 0
        have d_O0 := O0.c1
        have f1_O0 := O0.frozen 1
        have l_O0 := O0.lt
        have m_O0 := Nat.le_of_lt l_O0
        go_wp2_with fail
        refine ent1 x12 _ _ (Q := fun W => Code.wp Tryz.prog _ _ _ W) ?_
        intro x13 hb hs_x13 T0
        replace V0 := Va.after hb V0
        replace X0 := Va.after hb X0
        replace M0 := Va.after hb M0
        replace O0 := Va.after hb O0
        replace hr := Rt.after hb hr
        replace B0 := step B0 hb
        clear hb hs_x13
        clear c_V0 f0_V0 d_V0 f1_V0 l_V0 m_V0 c_O0 f0_O0 d_O0 f1_O0 l_O0 m_O0
        have c_V0 := V0.c0
        have f0_V0 := V0.frozen 0
        have d_V0 := V0.c1
        have f1_V0 := V0.frozen 1
        have l_V0 := V0.lt
        have m_V0 := Nat.le_of_lt l_V0
        go_quiet (fail)
        go_wp2_with fail
        clear c_V0 f0_V0 d_V0 f1_V0 l_V0 m_V0
        refine nameN x13 _ (Q := fun W => Calls Tryz.prog _ _ W _) ?_
        intro x14 hb
        replace V0 := Va.after hb V0
        replace X0 := Va.after hb X0
        replace M0 := Va.after hb M0
        replace O0 := Va.after hb O0
        replace T0 := Va.after hb T0
        replace hr := Rt.after hb hr
        replace B0 := step B0 hb
        clear hb
        refine (hpx _).mono ?_
        rintro e x15 ⟨rfl, hb⟩
        replace V0 := Va.after hb V0
        replace X0 := Va.after hb X0
        replace M0 := Va.after hb M0
        replace O0 := Va.after hb O0
        replace T0 := Va.after hb T0
        replace hr := Rt.after hb hr
        replace B0 := step B0 hb
        clear hb
        have c_V0 := V0.c0
        have f0_V0 := V0.frozen 0
        have d_V0 := V0.c1
        have f1_V0 := V0.frozen 1
        have l_V0 := V0.lt
        have m_V0 := Nat.le_of_lt l_V0
        go_wp2_with fail
        go_ret
        exact ⟨rfl, B0.alloc B0.size _⟩
      ·
        have HX : Hid (readL (45 :: 48 :: 48 :: (Bd ++ [48])) = (U, P, 0, 0)) := by have h := HB.out 2 1; rw [if_neg hP0] at h; show _ = _; simpa [sgL, List.replicate_succ] using h
        have hpx := parse_dec (45 :: 48 :: 48 :: (Bd ++ [48])) (by simp; omega)
        rw [HX.out] at hpx
        have hPi : ((0 : Int) < (P : Int)) := by omega
        have e0 := cat [45] [48, 48]
        have e1 := cat [45, 48, 48] (Bd ++ [48])
        have e2 := cat Bd [48]
        have hSB : S = 45 :: Bd := HD.out
        have s1 : ∀ W, (Instr.sliceAt 9 (.string ⟨S.toArray⟩) (some (.int .i64 1)) none none).run Tryz.prog W = .ok (.string ⟨Bd.toArray⟩) W := fun W => by rw [slice_lo S 1 1 rfl (by omega) W, hSB]; rfl
        clear hSB
        clear hP0 HB HD HX
        clear c_V0 f0_V0 d_V0 f1_V0 l_V0 m_V0 c_X0 f0_X0 d_X0 f1_X0 e_X0 f2_X0 l_X0 m_X0
        have c_V0 := V0.c0
        have f0_V0 := V0.frozen 0
        have d_V0 := V0.c1
        have f1_V0 := V0.frozen 1
        have l_V0 := V0.lt
        have m_V0 := Nat.le_of_lt l_V0
        have c_O0 := O0.c0
        have f0_O0 := O0.frozen 0
        have d_O0 := O0.c1
        have f1_O0 := O0.frozen 1
        have l_O0 := O0.lt
        have m_O0 := Nat.le_of_lt l_O0
        go_wp2_with fail
        refine ent1 x12 _ _ (Q := fun W => Code.wp Tryz.prog _ _ _ W) ?_
        intro x13 hb hs_x13 T0
        replace V0 := Va.after hb V0
        replace X0 := Va.after hb X0
        replace M0 := Va.after hb M0
        replace O0 := Va.after hb O0
        replace hr := Rt.after hb hr
        replace B0 := step B0 hb
        clear hb hs_x13
        clear c_V0 f0_V0 d_V0 f1_V0 l_V0 m_V0 c_O0 f0_O0 d_O0 f1_O0 l_O0 m_O0
        have c_V0 := V0.c0
        have f0_V0 := V0.frozen 0
        have d_V0 := V0.c1
        have f1_V0 := V0.frozen 1
        have l_V0 := V0.lt
        have m_V0 := Nat.le_of_lt l_V0
        go_quiet (fail)
        go_wp2_with fail
        clear c_V0 f0_V0 d_V0 f1_V0 l_V0 m_V0
        refine nameN x13 _ (Q := fun W => Calls Tryz.prog _ _ W _) ?_
        intro x14 hb
        replace V0 := Va.after hb V0
        replace X0 := Va.after hb X0
        replace M0 := Va.after hb M0
        replace O0 := Va.after hb O0
        replace T0 := Va.after hb T0
        replace hr := Rt.after hb hr
        replace B0 := step B0 hb
        clear hb
        refine (hpx _).mono ?_
        rintro e x15 ⟨rfl, hb⟩
        replace V0 := Va.after hb V0
        replace X0 := Va.after hb X0
        replace M0 := Va.after hb M0
        replace O0 := Va.after hb O0
        replace T0 := Va.after hb T0
        replace hr := Rt.after hb hr
        replace B0 := step B0 hb
        clear hb
        have c_V0 := V0.c0
        have f0_V0 := V0.frozen 0
        have d_V0 := V0.c1
        have f1_V0 := V0.frozen 1
        have l_V0 := V0.lt
        have m_V0 := Nat.le_of_lt l_V0
        go_wp2_with fail
        go_ret
        exact ⟨rfl, B0.alloc B0.size _⟩
  · have hmk := make_no u p hp
    by_cases hp0 : p < 0
    ·
      have B0 : Below w.heap.size w w := Below.refl _ _
      go_enter Tryz.func8, Tryz.ntmps8
      go_wp2_with fail
      refine (awake6 _ (HPt.out.to B0)).mono ?_
      rintro e x1 ⟨rfl, hb⟩
      replace B0 := step B0 hb
      clear hb
      go_wp2_with fail
      refine (hmk _).mono ?_
      rintro e x2 ⟨rfl, hb⟩
      replace B0 := step B0 hb
      clear hb
      go_wp2_with fail
      go_ret
      exact ⟨rfl, B0.alloc B0.size _⟩
    ·
      have hp9 : 9 < p := by omega
      have B0 : Below w.heap.size w w := Below.refl _ _
      go_enter Tryz.func8, Tryz.ntmps8
      go_wp2_with fail
      refine (awake6 _ (HPt.out.to B0)).mono ?_
      rintro e x1 ⟨rfl, hb⟩
      replace B0 := step B0 hb
      clear hb
      go_wp2_with fail
      refine (hmk _).mono ?_
      rintro e x2 ⟨rfl, hb⟩
      replace B0 := step B0 hb
      clear hb
      go_wp2_with fail
      go_ret
      exact ⟨rfl, B0.alloc B0.size _⟩
end Go.Proofs.YtoaaiahheehgnaaGreatDoor
namespace Go.Proofs.YtoaaiahheehgnaaGreatDoor
open Go.RowKit Go.Shelf
set_option linter.unusedVariables false

theorem gPow : Tryz.prog.globalNamed "internal/strconv.uint64pow10" = some 6 := by kernel_rfl
theorem gPowT : (Tryz.prog.globals[6]?).map (·.type) = some 237 := by kernel_rfl
theorem cPow : Tryz.prog.cellsOf 237 = 20 := by kernel_rfl
theorem cU64 : Tryz.prog.cellsOf 79 = 1 := by kernel_rfl
theorem ptOf {W : World} {rest : List (String × DataW Unit)} (h : laidMet Tryz.prog (("internal/strconv.uint64pow10", Rows.laid_internal_strconv_uint64pow10) :: rest) W) : Pt W :=
  Go.Lib.tabIs_of_head (zs := Go.Lib.pow10Tab) gPow gPowT Tryz.underlying237 Tryz.underlying79 cU64 cPow h
end Go.Proofs.YtoaaiahheehgnaaGreatDoor
namespace Go.Proofs.YtoaaiahheehgnaaGreatDoor
open Go.RowKit Go.Shelf
set_option linter.unusedVariables false

theorem gTens : Tryz.prog.globalNamed "tollbook/decimal.tens" = some 0 := by kernel_rfl
theorem gTensT : (Tryz.prog.globals[0]?).map (·.type) = some 87 := by kernel_rfl
theorem cTens : Tryz.prog.cellsOf 87 = 10 := by kernel_rfl
theorem cI64 : Tryz.prog.cellsOf 2 = 1 := by kernel_rfl
theorem tnOf {W : World} {rest : List (String × DataW Unit)} (h : laidMet Tryz.prog (("tollbook/decimal.tens", Rows.laid_tollbook_decimal_tens) :: rest) W) : Tn W :=
  Go.Lib.tabIs_of_head (zs := [1, 10, 100, 1000, 10000, 100000, 1000000, 10000000, 100000000, 1000000000]) gTens gTensT Tryz.underlying87 Tryz.underlying2 cI64 cTens h
end Go.Proofs.YtoaaiahheehgnaaGreatDoor
namespace Go.Proofs.YtoaaiahheehgnaaGreatDoor
set_option linter.unusedVariables false in
theorem back_walk0 (a0 a1 : Int) (W : World) (w0 : (Lit.int .i64 a0).wf = true) (w1 : (Lit.int .i64 a1).wf = true) (hP : Pt W) (hT : Tn W) :
    Calls Tryz.prog 8 #[.int .i64 a0, .int .i64 a1] W fun e W' => e = .returned (.bool true) ∧ Go.RowKit.Below W.heap.size W W' := by
  have h1 : -9223372036854775808 ≤ a0 ∧ a0 ≤ 9223372036854775807 := by simp [Lit.wf, IntKind.min, IntKind.max, IntKind.signed, IntKind.bits] at w0; omega
  exact back_walk a0 a1 W h1.1 h1.2 hP hT
end Go.Proofs.YtoaaiahheehgnaaGreatDoor
namespace Go.Proofs.YtoaaiahheehgnaaGreatDoor.decimalBack
open Go.ChangeShapes Go.WideShapes Go.ChangeAt Go.RowKit
set_option linter.unusedVariables false

theorem own : ownKnob Tryz.prog.godebug = none := by kernel_rfl
theorem laidOut : laidOutB Tryz.prog = true := by kernel_rfl
theorem bytes8 : Tryz.prog.bytesOf 79 = 8 := by kernel_rfl

set_option maxRecDepth 100000 in
theorem contract (H : Type) (enc : TypeId × Value → H) (W : World) (base : Nat) (args : Array Value) (ds gs : List (DataW H)) (before : List MemPlace)
    (hval : ∀ (j : Nat) t v, Tryz.f8.params[j]? = some t → args[j]? = some v → Value.okWide Tryz.prog W .any base t v)
    (hW : DataW.Whole enc Tryz.prog Tryz.f8.params.toList Rows.decimalBackSpec.vars false W args.toList ds gs before) (hsz : (DataW.weightsEach Tryz.prog (Tryz.f8.params.toList ++ Rows.decimalBackSpec.plain.varTypes Tryz.prog) (ds ++ gs)).all (· ≤ reachBytes) = true) (hL0 : laidMetH Tryz.prog Rows.decimalBackRow.laid W) :
    Calls Tryz.prog 8 args W fun e W' => ∃ v, e = .returned v ∧ Rows.decimalBackSpec.post enc Tryz.prog Tryz.f8 false true false false W args v W' := by
  rw [MakeChecks.laidMetH_plain _ _ _ (by kernel_rfl)] at hL0
  have tb0 := by first | exact ptOf hL0 | exact ptOf hL0.tail | exact ptOf hL0.tail.tail | exact ptOf hL0.tail.tail.tail | exact ptOf hL0.tail.tail.tail.tail | exact ptOf hL0.tail.tail.tail.tail.tail | exact ptOf hL0.tail.tail.tail.tail.tail.tail | exact ptOf hL0.tail.tail.tail.tail.tail.tail.tail
  have tb1 := by first | exact tnOf hL0 | exact tnOf hL0.tail | exact tnOf hL0.tail.tail | exact tnOf hL0.tail.tail.tail | exact tnOf hL0.tail.tail.tail.tail | exact tnOf hL0.tail.tail.tail.tail.tail | exact tnOf hL0.tail.tail.tail.tail.tail.tail | exact tnOf hL0.tail.tail.tail.tail.tail.tail.tail
  have hW' := hW
  obtain ⟨p, q, hA0, hV, rfl, hfz, hnd⟩ := hW
  have hA : DataW.TrodAll enc Tryz.prog W 0 (fun _ => true) true Tryz.f8.params.toList args.toList ds p := hA0
  rw [Tryz.params8] at hA hval hsz
  obtain ⟨v0, vs0, d0, ds0, p0, q0, hargs, rfl, rfl, h0, r0⟩ := trodAll_cons hA
  obtain ⟨v1, vs1, d1, ds1, p1, q1, rfl, rfl, rfl, h1, r1⟩ := trodAll_cons r0
  obtain ⟨rfl, rfl, rfl⟩ := trodAll_nil r1
  obtain rfl : args = #[v0, v1] := by cases args; simp_all
  obtain ⟨rfl, rfl⟩ := trodVars_none hV
  obtain ⟨a0, rfl, rfl, rfl, w0⟩ := open_int Tryz.underlying2 (hval 0 2 v0 rfl rfl) h0
  obtain ⟨a1, rfl, rfl, rfl, w1⟩ := open_int Tryz.underlying3 (hval 1 3 v1 rfl rfl) h1
  clear hA0
  refine (back_walk0 a0 a1 W w0 w1 tb0 tb1).mono fun e W' ⟨he, bel⟩ => ?_
  subst he
  exact ⟨_, rfl, _, _, _, [], _, [], hW', trodAll_mk1 (shut_bool Tryz.underlying4 _), (trodAll_cons_mk (shut_int Tryz.underlying2 w0) (trodAll_cons_mk (shut_int Tryz.underlying3 w1) trodAll_mk0)), rfl, bel.frame _, fun h => by cases h⟩

set_option maxRecDepth 100000 in
theorem lifted (os : Os) (started : os.Started) (H : Type) (enc : TypeId × Value → H) :
    ReturnsInHanded {} Tryz.checked os 8 .any (fun w args => (Rows.decimalBackSpec.pre enc Tryz.prog Tryz.f8 [] false w args ∧ laidMetH Tryz.prog Rows.decimalBackRow.laid w) ∧ sizedMet enc Tryz.prog Tryz.f8 (OpenSpec.ofChange Rows.decimalBackSpec) false w args)
      (Rows.decimalBackSpec.post enc Tryz.prog Tryz.f8 false true false false) := by
  refine returnsInHanded_of_change_and (C := Tryz.checked) (X := fun w _ => laidMetH Tryz.prog Rows.decimalBackRow.laid w) (fun _ _ _ hh h => h.of_heap hh) own started (by kernel_rfl) Tryz.func8
    (ChangeSpec.witness_shaped (enc := enc) (C := Tryz.checked) (os := os) (X := fun w _ => laidMetH Tryz.prog Rows.decimalBackRow.laid w) false (World.laidAll Tryz.prog os Rows.decimalBackRow.laid) #[.int .i64 0, .int .i64 0] 8 (World.laidAll_os _ _ _)
      (World.shaped_of_ZipB (by kernel_rfl) (by kernel_rfl)) (by kernel_rfl) (by kernel_rfl) (by kernel_rfl)
      (by rw [MakeChecks.laidMetH_plain _ _ _ (by kernel_rfl)]; exact laidMet_laidAll _ (by kernel_rfl) (by kernel_rfl))) ?_
  intro W base args ds gs before hval0 hW _ hsz0 hL _
  exact contract H enc W base args ds gs before hval0 hW hsz0 hL

theorem over : Rows.decimalBackRow.holds Tryz.pinned (OpenSpec.ofChange Rows.decimalBackSpec) :=
  OpenClaim.holds_of_wide 8 Tryz.f8 rfl rfl rfl rfl rfl rfl rfl ⟨rfl, rfl, rfl, rfl, rfl⟩ rfl rfl rfl rfl rfl (by kernel_rfl) Tryz.func8 (by kernel_rfl)
    (of_decide_eq_true (by kernel_rfl)) (by unfold Func.isWrapper; first | (rw [if_pos (by decide +kernel)]; kernel_rfl) | (rw [if_neg (by decide +kernel)]; exact ⟨rfl, rfl⟩))
    (fun os started H enc _ => lifted os started H enc)
end Go.Proofs.YtoaaiahheehgnaaGreatDoor.decimalBack
namespace Go.Proofs.YtoaaiahheehgnaaGreatDoor
theorem decimalBack_plain (f : FuncId) (fn : Func) (hf : Tryz.pinned.checked.prog.funcNamed "tollbook/tollbooklaw06.DecimalBack" = some f) (hfn : Tryz.pinned.checked.prog.funcs[f]? = some fn) :
    false = Tryz.pinned.checked.prog.looks [] ∧ ∀ (j : Nat) t, fn.params[j]? = some t → Tryz.pinned.checked.prog.wantsStandIn t = false := by
  obtain rfl : f = 8 := Option.some.inj ((show Tryz.prog.funcNamed "tollbook/tollbooklaw06.DecimalBack" = some 8 by kernel_rfl).symm.trans hf) |>.symm
  obtain rfl : fn = Tryz.f8 := (Option.some.inj (Tryz.func8.symm.trans hfn)).symm
  refine ⟨by kernel_rfl, fun j t ht => ?_⟩
  rw [Tryz.params8] at ht
  have hm : t ∈ [2, 3] := by have := Array.mem_of_getElem? ht; simp at this; simp; omega
  have hall : ([2, 3].all fun u => !Tryz.prog.wantsStandIn u) = true := by kernel_rfl
  exact (show Tryz.prog.wantsStandIn t = false by simpa using List.all_eq_true.1 hall t hm)
theorem decimalBackCard_holds : Rows.DecimalBackCardSaid :=
  Claim7.holds_tied_plain_at .later [] _ _ _ _ decimalBack.over (fun _ h => by cases h) (by kernel_rfl) (fun _ h => by cases h) decimalBack_row_tie rfl ⟨rfl, rfl⟩ (by kernel_rfl) rfl decimalBack_plain (by kernel_rfl)
#print axioms decimalBackCard_holds
end Go.Proofs.YtoaaiahheehgnaaGreatDoor
