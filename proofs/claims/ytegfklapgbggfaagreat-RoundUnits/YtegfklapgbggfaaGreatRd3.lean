/-
  rounding.To.
-/
import Derived.Test.YtegfklapgbggfaaGreatRd2
namespace Go.Proofs.YtegfklapgbggfaaGreat
open Go.RowKit Go.Shelf
set_option linter.unusedVariables false

/-- What To answers. -/
def ToP (w : World) (x : Int) (e : Ending) (w' : World) : Prop := ∃ s' a' l' c' zs', e = .returned (.tuple #[.agg #[.bool s', .slice a' l' c'], .int .i64 0]) ∧ It w' s' a' l' c' zs' ∧ iv s' zs' = x ∧ Below w.heap.size w w'

set_option maxHeartbeats 4000000 in
theorem to_ok (q : Int) (q1 : 1 ≤ q) (q2 : q ≤ 5) (s : Bool) (a : Option Addr) (l c : Nat) (zs : List Int) (b : Option Addr) (m d : Nat) (ds : List Int) (v : Rat) (w : World) (hr : Rt w s a l c zs b m d ds v) :
    Calls Tryz.prog 12 #[.agg #[.bool s, .slice a l c, .slice b m d], .int .i64 q] w fun e w' => ToP w (rnd q v.num v.den) e w' := by
  obtain ⟨nm, Kf, C, CK, CE⟩ := wayOf_ok q q1 q2
  have HC : Hid (∀ w, Calls Tryz.prog 17 #[.int .i64 q] w fun e w' => e = .returned (.tuple #[.agg #[.int .i64 q, .string nm, .func (.func Kf) #[] #[]], .bool true]) ∧ Below w.heap.size w w') := C
  have HK : Hid (∀ h p w, Calls Tryz.prog Kf #[.int .i64 h, .bool p] w fun e w' => e = .returned (.bool (rise q h p)) ∧ w' = w) := CK
  have HE : Hid (∀ args w, (callFunc Kf args).run Tryz.prog w = .ok (.enter Kf args) w) := CE
  clear C CK CE
  have B0 : Below w.heap.size w w := Below.refl _ _
  go_enter Tryz.func12, Tryz.ntmps12
  go_wp2_with fail
  refine ent2 w _ _ _ _ (Q := fun W => Calls Tryz.prog _ _ W _) ?_
  intro x1 hb hs_x1 V0 V1
  replace hr := Rt.after hb hr
  replace B0 := step B0 hb
  clear hb hs_x1
  refine (HC.out x1).mono ?_
  rintro e x2 ⟨rfl, hb⟩
  replace V0 := Va.after hb V0
  replace V1 := Va.after hb V1
  replace hr := Rt.after hb hr
  replace B0 := step B0 hb
  clear hb
  have c_V0 := V0.d0
  have f0_V0 := V0.frozen 0
  have d_V0 := V0.d1
  have f1_V0 := V0.frozen 1
  have e_V0 := V0.d2
  have f2_V0 := V0.frozen 2
  have l_V0 := V0.lt
  have m_V0 := Nat.le_of_lt l_V0
  go_wp2_with fail
  have lw := V1.lt
  refine ent1 x2 _ _ (Q := fun W => Code.wp Tryz.prog _ _ _ W) ?_
  intro x3 hb hs_x3 Vw
  replace V0 := Va.after hb V0
  replace V1 := Va.after hb V1
  replace hr := Rt.after hb hr
  replace B0 := step B0 hb
  clear hb hs_x3
  clear c_V0 f0_V0 d_V0 f1_V0 e_V0 f2_V0 l_V0 m_V0
  refine wp_region_noPanic ?_
  replace V0 : Va x3.drew _ _ _ := V0
  replace V1 : Va x3.drew _ _ _ := V1
  replace Vw : Va x3.drew _ _ _ := Vw
  replace hr := hr.drw
  replace B0 := Below.drew B0
  refine wp_region_held_drew (S := (fun W => W.cell? ⟨x2.heap.size, 0, none⟩ = some (.int .i64 q) ∧ W.cell? ⟨x2.heap.size, 1, none⟩ = some (.string nm) ∧ W.cell? ⟨x2.heap.size, 2, none⟩ = some (.func (.func Kf) #[] #[]) ∧ W.cell? ⟨w.heap.size, 0, none⟩ = some (.bool s) ∧ W.cell? ⟨w.heap.size, 1, none⟩ = some (.slice a l c) ∧ W.cell? ⟨w.heap.size, 2, none⟩ = some (.slice b m d))) (by kernel_rfl) ⟨Vw.d0, Vw.d1, Vw.d2, V0.d0, V0.d1, V0.d2⟩ (fun hHeld => ?_)
  obtain ⟨x4, hxd⟩ : ∃ xd, xd = x3.drew := ⟨_, rfl⟩
  rw [← hxd] at V0 V1 Vw hr B0 hHeld ⊢
  clear hxd
  refine wpAnyH_take (i := 0) (v := ?_) rfl (by kernel_rfl) (by kernel_rfl) (by kernel_rfl) (fun _ _ _ h => h) (Or.inl ⟨by rfl, ?_⟩) hHeld ?_
  rotate_left
  · (intro W hSw; (try dsimp only at hSw); go_simp; all_goals (with_reducible rfl))
  simp only [List.getElem_toArray, List.getElem_cons_zero, Act.put, List.setIfInBounds_toArray, List.set_cons_zero, List.set_cons_succ]
  refine wpAnyH_take (i := 1) (v := ?_) rfl (by kernel_rfl) (by kernel_rfl) (by kernel_rfl) (fun _ _ _ h => h) (Or.inl ⟨by rfl, ?_⟩) hHeld ?_
  rotate_left
  · (intro W hSw; (try dsimp only at hSw); go_simp; all_goals (with_reducible rfl))
  simp only [List.getElem_toArray, List.getElem_cons_zero, List.getElem_cons_succ, Act.put, List.setIfInBounds_toArray, List.set_cons_zero, List.set_cons_succ]
  refine wpAnyH_take (i := 3) (v := ?_) rfl (by kernel_rfl) (by kernel_rfl) (by kernel_rfl) (fun _ _ _ h => h) (Or.inl ⟨by rfl, ?_⟩) hHeld ?_
  rotate_left
  · (intro W hSw; (try dsimp only at hSw); go_simp; all_goals (with_reducible rfl))
  simp only [List.getElem_toArray, List.getElem_cons_zero, List.getElem_cons_succ, Act.put, List.setIfInBounds_toArray, List.set_cons_zero, List.set_cons_succ]
  refine wpAnyH_ready (rs := [2]) (by kernel_rfl) (by simp) ?_
  refine AllReadyH.cons rfl (fun K hK => ?_) AllReadyH.nil
  simp only [List.getElem_toArray, List.getElem_cons_zero, List.getElem_cons_succ]
  go_simp
  refine (qnum_any s a l c b m d _).mono ?_
  rintro e x5 ⟨rfl, hb⟩
  replace V0 := Va.after hb V0
  replace V1 := Va.after hb V1
  replace Vw := Va.after hb Vw
  replace hr := Rt.after hb hr
  replace B0 := step B0 hb
  clear hb
  try go_wp2_with fail
  refine hK.out _ _ ⟨Vw.d0, Vw.d1, Vw.d2, V0.d0, V0.d1, V0.d2⟩ (fun hHeld => ?_)
  clear hK K
  refine wpAnyH_ready (rs := [4]) (by kernel_rfl) (by simp) ?_
  refine AllReadyH.cons rfl (fun K hK => ?_) AllReadyH.nil
  simp only [List.getElem_toArray, List.getElem_cons_zero, List.getElem_cons_succ]
  go_simp
  refine (rden_any s a l c b m d ds _ hr.2.1).mono ?_
  rintro e x6 ⟨b3, m3, d3, y3, rfl, h3, e3, hb⟩
  replace V0 := Va.after hb V0
  replace V1 := Va.after hb V1
  replace Vw := Va.after hb Vw
  replace hr := Rt.after hb hr
  replace B0 := step B0 hb
  clear hb
  have E3 : Hid (num y3 = (v.den : Int)) := e3.trans hr.2.2.2.1
  clear e3
  try go_wp2_with fail
  refine hK.out _ _ ⟨Vw.d0, Vw.d1, Vw.d2, V0.d0, V0.d1, V0.d2⟩ (fun hHeld => ?_)
  clear hK K
  refine wpAnyH_ready (rs := [5]) (by kernel_rfl) (by simp) ?_
  refine AllReadyH.cons rfl (fun K hK => ?_) AllReadyH.nil
  simp only [List.getElem_toArray, List.getElem_cons_zero, List.getElem_cons_succ]
  go_simp
  refine (rounded7 q nm Kf HK HE s a l c zs b3 m3 d3 y3 _ hr.1 h3 ⟨by rw [E3.out]; have := v.den_pos; omega, fun n e => by subst e; rw [E3.out]; exact Int.lt_of_lt_of_le hr.2.2.2.2.2 (pw_mono (by omega))⟩).mono ?_
  rintro e x7 ⟨s5, a5, l5, c5, z5, rfl, h5, e5, hb⟩
  replace V0 := Va.after hb V0
  replace V1 := Va.after hb V1
  replace Vw := Va.after hb Vw
  replace hr := Rt.after hb hr
  replace h3 := Nt.after hb h3
  replace B0 := step B0 hb
  clear hb
  have E5 : Hid (iv s5 z5 = rnd q v.num v.den) := by show _ = _; rw [e5, E3.out, hr.2.2.1]
  clear e5
  try go_wp2_with fail
  refine hK.out _ _ ⟨Vw.d0, Vw.d1, Vw.d2, V0.d0, V0.d1, V0.d2⟩ (fun hHeld => ?_)
  clear hK K
  have c_V1 := V1.c0
  have f0_V1 := V1.frozen 0
  have d_V1 := V1.c1
  have f1_V1 := V1.frozen 1
  have l_V1 := V1.lt
  have m_V1 := Nat.le_of_lt l_V1
  refine wpAnyH_ready (rs := [6]) (by kernel_rfl) (by simp) ?_
  refine AllReadyH.cons rfl (fun K hK => ?_) AllReadyH.nil
  simp only [List.getElem_toArray, List.getElem_cons_zero, List.getElem_cons_succ]
  go_simp
  clear c_V1 f0_V1 d_V1 f1_V1 l_V1 m_V1
  refine st2 V1 (.bool s5) (.slice a5 l5 c5) (Q := fun W => K _ W) ?_
  intro x8 V' oth far
  replace V0 := oth _ _ _ (by first | omega | assumption | (simp; omega)) V0
  replace Vw := oth _ _ _ (by first | omega | assumption | (simp; omega)) Vw
  replace hr := hr.far V1 (noInt2 _ _ _ _) far.1
  replace h3 := h3.far V1 (noInt2 _ _ _ _) far.1
  replace h5 := h5.far V1 (noInt2 _ _ _ _) far.1
  replace B0 := far.2 _ _ (by first | omega | (simp; omega)) B0
  replace V1 := V'
  clear oth far
  refine hK.out _ _ ⟨Vw.d0, Vw.d1, Vw.d2, V0.d0, V0.d1, V0.d2⟩ (fun hHeld => ?_)
  clear hK K
  refine wpAnyH_take (i := 7) (v := ?_) rfl (by kernel_rfl) (by kernel_rfl) (by kernel_rfl) (fun _ _ _ h => h) (Or.inl ⟨by rfl, ?_⟩) hHeld ?_
  rotate_left
  · (intro W hSw; (try dsimp only at hSw); go_simp; all_goals (with_reducible rfl))
  simp only [List.getElem_toArray, List.getElem_cons_zero, List.getElem_cons_succ, Act.put, List.setIfInBounds_toArray, List.set_cons_zero, List.set_cons_succ]
  refine wpAnyH_done (by kernel_rfl) ?_ _
  refine NoPanic.normal ?_
  clear hHeld
  go_wp2_with fail
  refine bodyPost_ret (results_wt rfl rfl V1) rfl ?_
  exact ⟨s5, a5, l5, c5, z5, rfl, h5, E5.out, B0⟩

theorem to_bad (q : Int) (hq : q < 1 ∨ 5 < q) (s : Bool) (a : Option Addr) (l c : Nat) (b : Option Addr) (m d : Nat) (w : World) :
    Calls Tryz.prog 12 #[.agg #[.bool s, .slice a l c, .slice b m d], .int .i64 q] w fun e w' => e = .returned (.tuple #[.agg #[.bool false, .slice none 0 0], .int .i64 2]) ∧ Below w.heap.size w w' := by
  have B0 : Below w.heap.size w w := Below.refl _ _
  go_enter Tryz.func12, Tryz.ntmps12
  go_wp2_with fail
  refine ent2 w _ _ _ _ (Q := fun W => Calls Tryz.prog _ _ W _) ?_
  intro x1 hb hs_x1 V0 V1
  replace B0 := step B0 hb
  clear hb hs_x1
  refine (wayOf_no q hq x1).mono ?_
  rintro e x2 ⟨rfl, hb⟩
  replace V0 := Va.after hb V0
  replace V1 := Va.after hb V1
  replace B0 := step B0 hb
  clear hb
  have c_V1 := V1.c0
  have f0_V1 := V1.frozen 0
  have d_V1 := V1.c1
  have f1_V1 := V1.frozen 1
  have l_V1 := V1.lt
  have m_V1 := Nat.le_of_lt l_V1
  have p0_V1 := (V1.old (.cells #[.int .i64 0, .string ⟨#[]⟩, .nilFunc] 54)).c0
  have q0_V1 := (V1.old (.cells #[.int .i64 0, .string ⟨#[]⟩, .nilFunc] 54)).frozen 0
  have p1_V1 := (V1.old (.cells #[.int .i64 0, .string ⟨#[]⟩, .nilFunc] 54)).c1
  have q1_V1 := (V1.old (.cells #[.int .i64 0, .string ⟨#[]⟩, .nilFunc] 54)).frozen 1
  go_wp2_with fail
  refine bodyPost_ret (results_wt rfl rfl ((V1.set2 _ _).old _)) rfl ?_
  exact ⟨rfl, (below_2 B0 (by omega) _ _).alloc (below_2 B0 (by omega) _ _).size _⟩
end Go.Proofs.YtegfklapgbggfaaGreat
