/-
  rat.Of of any ratio; KeptRatio, told, the document's Sign.
-/
import Derived.Test.YtegfklapgbggfaaGreatRt11
import Derived.Test.YtegfklapgbggfaaGreatKept5
import Derived.Test.YtegfklapgbggfaaGreatRt15
namespace Go.Proofs.YtegfklapgbggfaaGreat
open Go.RowKit Go.Shelf
set_option linter.unusedVariables false

set_option maxRecDepth 8000 in
theorem qof_long (s : Bool) (a : Option Addr) (l c : Nat) (zs : List Int) (b : Option Addr) (m d : Nat) (ys : List Int) (w : World) (hl : 1024 < max (l : Int) (m : Int)) :
    Calls Tryz.prog 15 #[.agg #[.bool s, .slice a l c, .slice b m d]] w fun e w' => e = .returned (.tuple #[.agg #[.bool false, .slice none 0 0, .slice none 0 0], .int .i64 3]) ∧ Below w.heap.size w w' := by
  obtain ⟨n, hn⟩ : ∃ n : Int, max (l : Int) (m : Int) = n := ⟨_, rfl⟩
  have HN : Hid (max (l : Int) (m : Int) = n) := hn
  rw [hn] at hl
  have B0 : Below w.heap.size w w := Below.refl _ _
  go_enter Tryz.func15, Tryz.ntmps15
  go_wp2_with fail
  refine bodyPost_ret (results_rt rfl rfl (by have := Va.new (w.alloc (Obj.cells #[Value.bool s, Value.slice a l c, Value.slice b m d] 31)) 30 #[Value.bool false, Value.slice none 0 0, Value.slice none 0 0]; simp only [World.alloc, Array.size_push] at this ⊢; exact this)) rfl ?_
  exact ⟨rfl, ((Below.refl _ _).alloc (Nat.le_refl _) _).alloc (by simp) _⟩

set_option maxHeartbeats 8000000 in
theorem qof_num (s : Bool) (a : Option Addr) (l c : Nat) (zs : List Int) (b : Option Addr) (m d : Nat) (ys : List Int) (w : World) (h : Ri w a l c zs b m d ys) (hl : l ≤ 1024) (hm : m ≤ 1024) (hu : usedN zs ≠ l) :
    Calls Tryz.prog 15 #[.agg #[.bool s, .slice a l c, .slice b m d]] w fun e w' => e = .returned (.tuple #[.agg #[.bool false, .slice none 0 0, .slice none 0 0], .int .i64 50]) ∧ Below w.heap.size w w' := by
  have hmx : max (l : Int) (m : Int) ≤ 1024 := by omega
  have hzl := h.1.1
  have hyl := h.2.1.1
  have hlz := usedN_le zs
  have hly := usedN_le ys
  have B0 : Below w.heap.size w w := Below.refl _ _
  go_enter Tryz.func15, Tryz.ntmps15
  go_wp2_with fail
  refine ent2 w _ _ _ _ (Q := fun W => Calls Tryz.prog _ _ W _) ?_
  intro x1 hb hs_x1 V0 V1
  replace h := Ri.after hb h
  replace B0 := step B0 hb
  clear hb hs_x1
  refine (of_ok a l c zs x1 h.1 (by omega) h.2.2.1 (by omega)).mono ?_
  rintro e x2 ⟨gn, ln, kn, zn, rfl, hgn, hn, en, hb⟩
  replace V0 := Va.after hb V0
  replace V1 := Va.after hb V1
  replace h := Ri.after hb h
  replace B0 := step B0 hb
  clear hb
  have HLn : Hid (ln = usedN zs ∧ num zn = num zs) := ⟨by rw [← hn.2.1]; exact used_of_num hn.limbs h.1.2.1 en, en⟩
  clear en hgn
  have c_V0 := V0.d0
  have f0_V0 := V0.frozen 0
  have d_V0 := V0.d1
  have f1_V0 := V0.frozen 1
  have e_V0 := V0.d2
  have f2_V0 := V0.frozen 2
  have l_V0 := V0.lt
  have m_V0 := Nat.le_of_lt l_V0
  go_wp2_with fail
  have la0 := V0.lt
  have la1 := V1.lt
  refine ent1 x2 _ _ (Q := fun W => Calls Tryz.prog _ _ W _) ?_
  intro x3 hb hs_x3 Vn
  replace V0 := Va.after hb V0
  replace V1 := Va.after hb V1
  replace h := Ri.after hb h
  replace hn := Nt.after hb hn
  replace B0 := step B0 hb
  clear hb hs_x3
  refine (of_ok b m d ys x3 h.2.1 (by omega) h.2.2.2 (by omega)).mono ?_
  rintro e x4 ⟨ge, le, ke, ze, rfl, hge, he, ee, hb⟩
  replace V0 := Va.after hb V0
  replace V1 := Va.after hb V1
  replace Vn := Va.after hb Vn
  replace h := Ri.after hb h
  replace hn := Nt.after hb hn
  replace B0 := step B0 hb
  clear hb
  have HLe : Hid (le = usedN ys ∧ num ze = num ys) := ⟨by rw [← he.2.1]; exact used_of_num he.limbs h.2.1.2.1 ee, ee⟩
  clear ee hge
  clear c_V0 f0_V0 d_V0 f1_V0 e_V0 f2_V0 l_V0 m_V0
  have c_V0 := V0.d0
  have f0_V0 := V0.frozen 0
  have d_V0 := V0.d1
  have f1_V0 := V0.frozen 1
  have e_V0 := V0.d2
  have f2_V0 := V0.frozen 2
  have l_V0 := V0.lt
  have m_V0 := Nat.le_of_lt l_V0
  have c_Vn := Vn.cell
  have f0_Vn := Vn.frozen 0
  have l_Vn := Vn.lt
  have m_Vn := Nat.le_of_lt l_Vn
  go_wp2_with fail
  have lb0 := V0.lt
  have lb1 := V1.lt
  have lb2 := Vn.lt
  refine ent1 x4 _ _ (Q := fun W => Code.wp Tryz.prog _ _ _ W) ?_
  intro x5 hb hs_x5 Ve
  replace V0 := Va.after hb V0
  replace V1 := Va.after hb V1
  replace Vn := Va.after hb Vn
  replace h := Ri.after hb h
  replace hn := Nt.after hb hn
  replace he := Nt.after hb he
  replace B0 := step B0 hb
  clear hb hs_x5
  have d1 : ((ln : Int) != (l : Int)) = true := by have := HLn.out.1; simp; omega
  clear c_V0 f0_V0 d_V0 f1_V0 e_V0 f2_V0 l_V0 m_V0 c_Vn f0_Vn l_Vn m_Vn
  refine wp_region_noPanic ?_
  replace V0 : Va x5.drew _ _ _ := V0
  replace V1 : Va x5.drew _ _ _ := V1
  replace Vn : Va x5.drew _ _ _ := Vn
  replace Ve : Va x5.drew _ _ _ := Ve
  replace h := h.drw
  replace hn := hn.drw
  replace he := he.drw
  replace B0 := Below.drew B0
  refine wp_region_held_drew (S := (fun W => W.cell? ⟨w.heap.size, 0, none⟩ = some (.bool s) ∧ W.cell? ⟨w.heap.size, 1, none⟩ = some (.slice a l c) ∧ W.cell? ⟨w.heap.size, 2, none⟩ = some (.slice b m d) ∧ W.cell? ⟨x2.heap.size, 0, none⟩ = some (.slice (some ⟨gn, 0, none⟩) ln kn) ∧ W.cell? ⟨x4.heap.size, 0, none⟩ = some (.slice (some ⟨ge, 0, none⟩) le ke))) (by kernel_rfl) ⟨V0.d0, V0.d1, V0.d2, Vn.cell, Ve.cell⟩ (fun hHeld => ?_)
  obtain ⟨x6, hxd⟩ : ∃ xd, xd = x5.drew := ⟨_, rfl⟩
  rw [← hxd] at V0 V1 Vn Ve h hn he B0 hHeld ⊢
  clear hxd
  refine wpAnyH_take (i := 0) (v := ?_) rfl (by kernel_rfl) (by kernel_rfl) (by kernel_rfl) (fun _ _ _ h => h) (Or.inl ⟨by rfl, ?_⟩) hHeld ?_
  rotate_left
  · (intro W hSw; (try dsimp only at hSw); go_simp; all_goals (with_reducible rfl))
  simp only [List.getElem_toArray, List.getElem_cons_zero, Act.put, List.setIfInBounds_toArray, List.set_cons_zero, List.set_cons_succ]
  refine wpAnyH_take (i := 2) (v := ?_) rfl (by kernel_rfl) (by kernel_rfl) (by kernel_rfl) (fun _ _ _ h => h) (Or.inl ⟨by rfl, ?_⟩) hHeld ?_
  rotate_left
  · (intro W hSw; (try dsimp only at hSw); go_simp; all_goals (with_reducible rfl))
  simp only [List.getElem_toArray, List.getElem_cons_zero, List.getElem_cons_succ, Act.put, List.setIfInBounds_toArray, List.set_cons_zero, List.set_cons_succ]
  refine wpAnyH_take (i := 3) (v := ?_) rfl (by kernel_rfl) (by kernel_rfl) (by kernel_rfl) (fun _ _ _ h => h) (Or.inl ⟨by rfl, ?_⟩) hHeld ?_
  rotate_left
  · (intro W hSw; (try dsimp only at hSw); go_simp; all_goals (with_reducible rfl))
  simp only [List.getElem_toArray, List.getElem_cons_zero, List.getElem_cons_succ, Act.put, List.setIfInBounds_toArray, List.set_cons_zero, List.set_cons_succ]
  refine wpAnyH_take (i := 4) (v := ?_) rfl (by kernel_rfl) (by kernel_rfl) (by kernel_rfl) (fun _ _ _ h => h) (Or.inl ⟨by rfl, ?_⟩) hHeld ?_
  rotate_left
  · (intro W hSw; (try dsimp only at hSw); go_simp; all_goals (with_reducible rfl))
  simp only [List.getElem_toArray, List.getElem_cons_zero, List.getElem_cons_succ, Act.put, List.setIfInBounds_toArray, List.set_cons_zero, List.set_cons_succ]
  refine wpAnyH_ready (rs := [1]) (by kernel_rfl) (by simp) ?_
  refine AllReadyH.cons rfl (fun K hK => ?_) AllReadyH.nil
  simp only [List.getElem_toArray, List.getElem_cons_zero, List.getElem_cons_succ]
  go_simp
  refine (qlimbs_any (some ⟨gn, 0, none⟩) ln kn zn _ hn).mono ?_
  rintro e x7 ⟨rfl, hb⟩
  replace V0 := Va.after hb V0
  replace V1 := Va.after hb V1
  replace Vn := Va.after hb Vn
  replace Ve := Va.after hb Ve
  replace h := Ri.after hb h
  replace hn := Nt.after hb hn
  replace he := Nt.after hb he
  replace B0 := step B0 hb
  clear hb
  try go_wp2_with fail
  refine hK.out _ _ ⟨V0.d0, V0.d1, V0.d2, Vn.cell, Ve.cell⟩ (fun hHeld => ?_)
  clear hK K
  refine wpAnyH_take (i := 5) (v := .bool true) rfl (by kernel_rfl) (by kernel_rfl) (by kernel_rfl) (fun _ _ _ h => h) (Or.inl ⟨by rfl, ?_⟩) hHeld ?_
  · (intro W hSw; (try dsimp only at hSw); go_simp; first | (rw [d1]) | skip)
  simp only [List.getElem_toArray, List.getElem_cons_zero, List.getElem_cons_succ, Act.put, List.setIfInBounds_toArray, List.set_cons_zero, List.set_cons_succ]
  refine wpAnyH_take (i := 6) (v := ?_) rfl (by kernel_rfl) (by kernel_rfl) (by kernel_rfl) (fun _ _ _ h => h) (Or.inl ⟨by rfl, ?_⟩) hHeld ?_
  rotate_left
  · (intro W hSw; (try dsimp only at hSw); go_simp; all_goals (with_reducible rfl))
  simp only [List.getElem_toArray, List.getElem_cons_zero, List.getElem_cons_succ, Act.put, List.setIfInBounds_toArray, List.set_cons_zero, List.set_cons_succ]
  refine wpAnyH_take (i := 7) (v := undef) rfl (by kernel_rfl) (by kernel_rfl) (by kernel_rfl) (fun _ _ _ h => h) (Or.inr ⟨by rfl, rfl⟩) hHeld ?_
  simp only [List.getElem_toArray, List.getElem_cons_zero, List.getElem_cons_succ, Act.put, List.setIfInBounds_toArray, List.set_cons_zero, List.set_cons_succ]
  refine wpAnyH_take (i := 8) (v := undef) rfl (by kernel_rfl) (by kernel_rfl) (by kernel_rfl) (fun _ _ _ h => h) (Or.inr ⟨by rfl, rfl⟩) hHeld ?_
  simp only [List.getElem_toArray, List.getElem_cons_zero, List.getElem_cons_succ, Act.put, List.setIfInBounds_toArray, List.set_cons_zero, List.set_cons_succ]
  refine wpAnyH_take (i := 9) (v := undef) rfl (by kernel_rfl) (by kernel_rfl) (by kernel_rfl) (fun _ _ _ h => h) (Or.inr ⟨by rfl, rfl⟩) hHeld ?_
  simp only [List.getElem_toArray, List.getElem_cons_zero, List.getElem_cons_succ, Act.put, List.setIfInBounds_toArray, List.set_cons_zero, List.set_cons_succ]
  refine wpAnyH_take (i := 10) (v := undef) rfl (by kernel_rfl) (by kernel_rfl) (by kernel_rfl) (fun _ _ _ h => h) (Or.inr ⟨by rfl, rfl⟩) hHeld ?_
  simp only [List.getElem_toArray, List.getElem_cons_zero, List.getElem_cons_succ, Act.put, List.setIfInBounds_toArray, List.set_cons_zero, List.set_cons_succ]
  refine wpAnyH_take (i := 11) (v := undef) rfl (by kernel_rfl) (by kernel_rfl) (by kernel_rfl) (fun _ _ _ h => h) (Or.inr ⟨by rfl, rfl⟩) hHeld ?_
  simp only [List.getElem_toArray, List.getElem_cons_zero, List.getElem_cons_succ, Act.put, List.setIfInBounds_toArray, List.set_cons_zero, List.set_cons_succ]
  refine wpAnyH_take (i := 12) (v := undef) rfl (by kernel_rfl) (by kernel_rfl) (by kernel_rfl) (fun _ _ _ h => h) (Or.inr ⟨by rfl, rfl⟩) hHeld ?_
  simp only [List.getElem_toArray, List.getElem_cons_zero, List.getElem_cons_succ, Act.put, List.setIfInBounds_toArray, List.set_cons_zero, List.set_cons_succ]
  refine wpAnyH_take (i := 13) (v := ?_) rfl (by kernel_rfl) (by kernel_rfl) (by kernel_rfl) (fun _ _ _ h => h) (Or.inl ⟨by rfl, ?_⟩) hHeld ?_
  rotate_left
  · (intro W hSw; (try dsimp only at hSw); go_simp; all_goals (with_reducible rfl))
  simp only [List.getElem_toArray, List.getElem_cons_zero, List.getElem_cons_succ, Act.put, List.setIfInBounds_toArray, List.set_cons_zero, List.set_cons_succ]
  refine wpAnyH_take (i := 14) (v := ?_) rfl (by kernel_rfl) (by kernel_rfl) (by kernel_rfl) (fun _ _ _ h => h) (Or.inl ⟨by rfl, ?_⟩) hHeld ?_
  rotate_left
  · (intro W hSw; (try dsimp only at hSw); go_simp; all_goals (with_reducible rfl))
  simp only [List.getElem_toArray, List.getElem_cons_zero, List.getElem_cons_succ, Act.put, List.setIfInBounds_toArray, List.set_cons_zero, List.set_cons_succ]
  refine wpAnyH_take (i := 15) (v := undef) rfl (by kernel_rfl) (by kernel_rfl) (by kernel_rfl) (fun _ _ _ h => h) (Or.inr ⟨by rfl, rfl⟩) hHeld ?_
  simp only [List.getElem_toArray, List.getElem_cons_zero, List.getElem_cons_succ, Act.put, List.setIfInBounds_toArray, List.set_cons_zero, List.set_cons_succ]
  refine wpAnyH_take (i := 16) (v := undef) rfl (by kernel_rfl) (by kernel_rfl) (by kernel_rfl) (fun _ _ _ h => h) (Or.inr ⟨by rfl, rfl⟩) hHeld ?_
  simp only [List.getElem_toArray, List.getElem_cons_zero, List.getElem_cons_succ, Act.put, List.setIfInBounds_toArray, List.set_cons_zero, List.set_cons_succ]
  refine wpAnyH_take (i := 17) (v := ?_) rfl (by kernel_rfl) (by kernel_rfl) (by kernel_rfl) (fun _ _ _ h => h) (Or.inl ⟨by rfl, ?_⟩) hHeld ?_
  rotate_left
  · (intro W hSw; (try dsimp only at hSw); go_simp; all_goals (with_reducible rfl))
  simp only [List.getElem_toArray, List.getElem_cons_zero, List.getElem_cons_succ, Act.put, List.setIfInBounds_toArray, List.set_cons_zero, List.set_cons_succ]
  refine wpAnyH_done (by kernel_rfl) ?_ _
  refine NoPanic.normal ?_
  clear hHeld
  have c_V1 := V1.d0
  have f0_V1 := V1.frozen 0
  have d_V1 := V1.d1
  have f1_V1 := V1.frozen 1
  have e_V1 := V1.d2
  have f2_V1 := V1.frozen 2
  have l_V1 := V1.lt
  have m_V1 := Nat.le_of_lt l_V1
  go_wp2_with fail
  refine bodyPost_ret (results_rt rfl rfl (V1.set3 _ _ _)) rfl ?_
  exact ⟨rfl, belo3 B0 (by omega) _ _ _⟩

set_option maxHeartbeats 8000000 in
theorem qof_den (s : Bool) (a : Option Addr) (l c : Nat) (zs : List Int) (b : Option Addr) (m d : Nat) (ys : List Int) (w : World) (h : Ri w a l c zs b m d ys) (hl : l ≤ 1024) (hm : m ≤ 1024) (hu : usedN zs = l) (hv : usedN ys ≠ m) :
    Calls Tryz.prog 15 #[.agg #[.bool s, .slice a l c, .slice b m d]] w fun e w' => e = .returned (.tuple #[.agg #[.bool false, .slice none 0 0, .slice none 0 0], .int .i64 50]) ∧ Below w.heap.size w w' := by
  have hmx : max (l : Int) (m : Int) ≤ 1024 := by omega
  have hzl := h.1.1
  have hyl := h.2.1.1
  have hlz := usedN_le zs
  have hly := usedN_le ys
  have B0 : Below w.heap.size w w := Below.refl _ _
  go_enter Tryz.func15, Tryz.ntmps15
  go_wp2_with fail
  refine ent2 w _ _ _ _ (Q := fun W => Calls Tryz.prog _ _ W _) ?_
  intro x1 hb hs_x1 V0 V1
  replace h := Ri.after hb h
  replace B0 := step B0 hb
  clear hb hs_x1
  refine (of_ok a l c zs x1 h.1 (by omega) h.2.2.1 (by omega)).mono ?_
  rintro e x2 ⟨gn, ln, kn, zn, rfl, hgn, hn, en, hb⟩
  replace V0 := Va.after hb V0
  replace V1 := Va.after hb V1
  replace h := Ri.after hb h
  replace B0 := step B0 hb
  clear hb
  have HLn : Hid (ln = usedN zs ∧ num zn = num zs) := ⟨by rw [← hn.2.1]; exact used_of_num hn.limbs h.1.2.1 en, en⟩
  clear en hgn
  have c_V0 := V0.d0
  have f0_V0 := V0.frozen 0
  have d_V0 := V0.d1
  have f1_V0 := V0.frozen 1
  have e_V0 := V0.d2
  have f2_V0 := V0.frozen 2
  have l_V0 := V0.lt
  have m_V0 := Nat.le_of_lt l_V0
  go_wp2_with fail
  have la0 := V0.lt
  have la1 := V1.lt
  refine ent1 x2 _ _ (Q := fun W => Calls Tryz.prog _ _ W _) ?_
  intro x3 hb hs_x3 Vn
  replace V0 := Va.after hb V0
  replace V1 := Va.after hb V1
  replace h := Ri.after hb h
  replace hn := Nt.after hb hn
  replace B0 := step B0 hb
  clear hb hs_x3
  refine (of_ok b m d ys x3 h.2.1 (by omega) h.2.2.2 (by omega)).mono ?_
  rintro e x4 ⟨ge, le, ke, ze, rfl, hge, he, ee, hb⟩
  replace V0 := Va.after hb V0
  replace V1 := Va.after hb V1
  replace Vn := Va.after hb Vn
  replace h := Ri.after hb h
  replace hn := Nt.after hb hn
  replace B0 := step B0 hb
  clear hb
  have HLe : Hid (le = usedN ys ∧ num ze = num ys) := ⟨by rw [← he.2.1]; exact used_of_num he.limbs h.2.1.2.1 ee, ee⟩
  clear ee hge
  clear c_V0 f0_V0 d_V0 f1_V0 e_V0 f2_V0 l_V0 m_V0
  have c_V0 := V0.d0
  have f0_V0 := V0.frozen 0
  have d_V0 := V0.d1
  have f1_V0 := V0.frozen 1
  have e_V0 := V0.d2
  have f2_V0 := V0.frozen 2
  have l_V0 := V0.lt
  have m_V0 := Nat.le_of_lt l_V0
  have c_Vn := Vn.cell
  have f0_Vn := Vn.frozen 0
  have l_Vn := Vn.lt
  have m_Vn := Nat.le_of_lt l_Vn
  go_wp2_with fail
  have lb0 := V0.lt
  have lb1 := V1.lt
  have lb2 := Vn.lt
  refine ent1 x4 _ _ (Q := fun W => Code.wp Tryz.prog _ _ _ W) ?_
  intro x5 hb hs_x5 Ve
  replace V0 := Va.after hb V0
  replace V1 := Va.after hb V1
  replace Vn := Va.after hb Vn
  replace h := Ri.after hb h
  replace hn := Nt.after hb hn
  replace he := Nt.after hb he
  replace B0 := step B0 hb
  clear hb hs_x5
  have d1 : ((ln : Int) != (l : Int)) = false := by have := HLn.out.1; simp; omega
  have d2 : ((le : Int) != (m : Int)) = true := by have := HLe.out.1; simp; omega
  clear c_V0 f0_V0 d_V0 f1_V0 e_V0 f2_V0 l_V0 m_V0 c_Vn f0_Vn l_Vn m_Vn
  refine wp_region_noPanic ?_
  replace V0 : Va x5.drew _ _ _ := V0
  replace V1 : Va x5.drew _ _ _ := V1
  replace Vn : Va x5.drew _ _ _ := Vn
  replace Ve : Va x5.drew _ _ _ := Ve
  replace h := h.drw
  replace hn := hn.drw
  replace he := he.drw
  replace B0 := Below.drew B0
  refine wp_region_held_drew (S := (fun W => W.cell? ⟨w.heap.size, 0, none⟩ = some (.bool s) ∧ W.cell? ⟨w.heap.size, 1, none⟩ = some (.slice a l c) ∧ W.cell? ⟨w.heap.size, 2, none⟩ = some (.slice b m d) ∧ W.cell? ⟨x2.heap.size, 0, none⟩ = some (.slice (some ⟨gn, 0, none⟩) ln kn) ∧ W.cell? ⟨x4.heap.size, 0, none⟩ = some (.slice (some ⟨ge, 0, none⟩) le ke))) (by kernel_rfl) ⟨V0.d0, V0.d1, V0.d2, Vn.cell, Ve.cell⟩ (fun hHeld => ?_)
  obtain ⟨x6, hxd⟩ : ∃ xd, xd = x5.drew := ⟨_, rfl⟩
  rw [← hxd] at V0 V1 Vn Ve h hn he B0 hHeld ⊢
  clear hxd
  refine wpAnyH_take (i := 0) (v := ?_) rfl (by kernel_rfl) (by kernel_rfl) (by kernel_rfl) (fun _ _ _ h => h) (Or.inl ⟨by rfl, ?_⟩) hHeld ?_
  rotate_left
  · (intro W hSw; (try dsimp only at hSw); go_simp; all_goals (with_reducible rfl))
  simp only [List.getElem_toArray, List.getElem_cons_zero, Act.put, List.setIfInBounds_toArray, List.set_cons_zero, List.set_cons_succ]
  refine wpAnyH_take (i := 2) (v := ?_) rfl (by kernel_rfl) (by kernel_rfl) (by kernel_rfl) (fun _ _ _ h => h) (Or.inl ⟨by rfl, ?_⟩) hHeld ?_
  rotate_left
  · (intro W hSw; (try dsimp only at hSw); go_simp; all_goals (with_reducible rfl))
  simp only [List.getElem_toArray, List.getElem_cons_zero, List.getElem_cons_succ, Act.put, List.setIfInBounds_toArray, List.set_cons_zero, List.set_cons_succ]
  refine wpAnyH_take (i := 3) (v := ?_) rfl (by kernel_rfl) (by kernel_rfl) (by kernel_rfl) (fun _ _ _ h => h) (Or.inl ⟨by rfl, ?_⟩) hHeld ?_
  rotate_left
  · (intro W hSw; (try dsimp only at hSw); go_simp; all_goals (with_reducible rfl))
  simp only [List.getElem_toArray, List.getElem_cons_zero, List.getElem_cons_succ, Act.put, List.setIfInBounds_toArray, List.set_cons_zero, List.set_cons_succ]
  refine wpAnyH_take (i := 4) (v := ?_) rfl (by kernel_rfl) (by kernel_rfl) (by kernel_rfl) (fun _ _ _ h => h) (Or.inl ⟨by rfl, ?_⟩) hHeld ?_
  rotate_left
  · (intro W hSw; (try dsimp only at hSw); go_simp; all_goals (with_reducible rfl))
  simp only [List.getElem_toArray, List.getElem_cons_zero, List.getElem_cons_succ, Act.put, List.setIfInBounds_toArray, List.set_cons_zero, List.set_cons_succ]
  refine wpAnyH_ready (rs := [1]) (by kernel_rfl) (by simp) ?_
  refine AllReadyH.cons rfl (fun K hK => ?_) AllReadyH.nil
  simp only [List.getElem_toArray, List.getElem_cons_zero, List.getElem_cons_succ]
  go_simp
  refine (qlimbs_any (some ⟨gn, 0, none⟩) ln kn zn _ hn).mono ?_
  rintro e x7 ⟨rfl, hb⟩
  replace V0 := Va.after hb V0
  replace V1 := Va.after hb V1
  replace Vn := Va.after hb Vn
  replace Ve := Va.after hb Ve
  replace h := Ri.after hb h
  replace hn := Nt.after hb hn
  replace he := Nt.after hb he
  replace B0 := step B0 hb
  clear hb
  try go_wp2_with fail
  refine hK.out _ _ ⟨V0.d0, V0.d1, V0.d2, Vn.cell, Ve.cell⟩ (fun hHeld => ?_)
  clear hK K
  refine wpAnyH_take (i := 5) (v := .bool false) rfl (by kernel_rfl) (by kernel_rfl) (by kernel_rfl) (fun _ _ _ h => h) (Or.inl ⟨by rfl, ?_⟩) hHeld ?_
  · (intro W hSw; (try dsimp only at hSw); go_simp; first | (rw [d1]) | skip)
  simp only [List.getElem_toArray, List.getElem_cons_zero, List.getElem_cons_succ, Act.put, List.setIfInBounds_toArray, List.set_cons_zero, List.set_cons_succ]
  refine wpAnyH_take (i := 6) (v := ?_) rfl (by kernel_rfl) (by kernel_rfl) (by kernel_rfl) (fun _ _ _ h => h) (Or.inl ⟨by rfl, ?_⟩) hHeld ?_
  rotate_left
  · (intro W hSw; (try dsimp only at hSw); go_simp; all_goals (with_reducible rfl))
  simp only [List.getElem_toArray, List.getElem_cons_zero, List.getElem_cons_succ, Act.put, List.setIfInBounds_toArray, List.set_cons_zero, List.set_cons_succ]
  refine wpAnyH_take (i := 7) (v := ?_) rfl (by kernel_rfl) (by kernel_rfl) (by kernel_rfl) (fun _ _ _ h => h) (Or.inl ⟨by rfl, ?_⟩) hHeld ?_
  rotate_left
  · (intro W hSw; (try dsimp only at hSw); go_simp; all_goals (with_reducible rfl))
  simp only [List.getElem_toArray, List.getElem_cons_zero, List.getElem_cons_succ, Act.put, List.setIfInBounds_toArray, List.set_cons_zero, List.set_cons_succ]
  refine wpAnyH_take (i := 9) (v := ?_) rfl (by kernel_rfl) (by kernel_rfl) (by kernel_rfl) (fun _ _ _ h => h) (Or.inl ⟨by rfl, ?_⟩) hHeld ?_
  rotate_left
  · (intro W hSw; (try dsimp only at hSw); go_simp; all_goals (with_reducible rfl))
  simp only [List.getElem_toArray, List.getElem_cons_zero, List.getElem_cons_succ, Act.put, List.setIfInBounds_toArray, List.set_cons_zero, List.set_cons_succ]
  refine wpAnyH_take (i := 10) (v := ?_) rfl (by kernel_rfl) (by kernel_rfl) (by kernel_rfl) (fun _ _ _ h => h) (Or.inl ⟨by rfl, ?_⟩) hHeld ?_
  rotate_left
  · (intro W hSw; (try dsimp only at hSw); go_simp; all_goals (with_reducible rfl))
  simp only [List.getElem_toArray, List.getElem_cons_zero, List.getElem_cons_succ, Act.put, List.setIfInBounds_toArray, List.set_cons_zero, List.set_cons_succ]
  refine wpAnyH_take (i := 11) (v := ?_) rfl (by kernel_rfl) (by kernel_rfl) (by kernel_rfl) (fun _ _ _ h => h) (Or.inl ⟨by rfl, ?_⟩) hHeld ?_
  rotate_left
  · (intro W hSw; (try dsimp only at hSw); go_simp; all_goals (with_reducible rfl))
  simp only [List.getElem_toArray, List.getElem_cons_zero, List.getElem_cons_succ, Act.put, List.setIfInBounds_toArray, List.set_cons_zero, List.set_cons_succ]
  refine wpAnyH_ready (rs := [8]) (by kernel_rfl) (by simp) ?_
  refine AllReadyH.cons rfl (fun K hK => ?_) AllReadyH.nil
  simp only [List.getElem_toArray, List.getElem_cons_zero, List.getElem_cons_succ]
  go_simp
  refine (qlimbs_any (some ⟨ge, 0, none⟩) le ke ze _ he).mono ?_
  rintro e x8 ⟨rfl, hb⟩
  replace V0 := Va.after hb V0
  replace V1 := Va.after hb V1
  replace Vn := Va.after hb Vn
  replace Ve := Va.after hb Ve
  replace h := Ri.after hb h
  replace hn := Nt.after hb hn
  replace he := Nt.after hb he
  replace B0 := step B0 hb
  clear hb
  try go_wp2_with fail
  refine hK.out _ _ ⟨V0.d0, V0.d1, V0.d2, Vn.cell, Ve.cell⟩ (fun hHeld => ?_)
  clear hK K
  refine wpAnyH_take (i := 12) (v := .bool true) rfl (by kernel_rfl) (by kernel_rfl) (by kernel_rfl) (fun _ _ _ h => h) (Or.inl ⟨by rfl, ?_⟩) hHeld ?_
  · (intro W hSw; (try dsimp only at hSw); go_simp; first | (rw [d2]) | skip)
  simp only [List.getElem_toArray, List.getElem_cons_zero, List.getElem_cons_succ, Act.put, List.setIfInBounds_toArray, List.set_cons_zero, List.set_cons_succ]
  refine wpAnyH_take (i := 13) (v := ?_) rfl (by kernel_rfl) (by kernel_rfl) (by kernel_rfl) (fun _ _ _ h => h) (Or.inl ⟨by rfl, ?_⟩) hHeld ?_
  rotate_left
  · (intro W hSw; (try dsimp only at hSw); go_simp; all_goals (with_reducible rfl))
  simp only [List.getElem_toArray, List.getElem_cons_zero, List.getElem_cons_succ, Act.put, List.setIfInBounds_toArray, List.set_cons_zero, List.set_cons_succ]
  refine wpAnyH_take (i := 14) (v := ?_) rfl (by kernel_rfl) (by kernel_rfl) (by kernel_rfl) (fun _ _ _ h => h) (Or.inl ⟨by rfl, ?_⟩) hHeld ?_
  rotate_left
  · (intro W hSw; (try dsimp only at hSw); go_simp; all_goals (with_reducible rfl))
  simp only [List.getElem_toArray, List.getElem_cons_zero, List.getElem_cons_succ, Act.put, List.setIfInBounds_toArray, List.set_cons_zero, List.set_cons_succ]
  refine wpAnyH_take (i := 15) (v := undef) rfl (by kernel_rfl) (by kernel_rfl) (by kernel_rfl) (fun _ _ _ h => h) (Or.inr ⟨by rfl, rfl⟩) hHeld ?_
  simp only [List.getElem_toArray, List.getElem_cons_zero, List.getElem_cons_succ, Act.put, List.setIfInBounds_toArray, List.set_cons_zero, List.set_cons_succ]
  refine wpAnyH_take (i := 16) (v := undef) rfl (by kernel_rfl) (by kernel_rfl) (by kernel_rfl) (fun _ _ _ h => h) (Or.inr ⟨by rfl, rfl⟩) hHeld ?_
  simp only [List.getElem_toArray, List.getElem_cons_zero, List.getElem_cons_succ, Act.put, List.setIfInBounds_toArray, List.set_cons_zero, List.set_cons_succ]
  refine wpAnyH_take (i := 17) (v := ?_) rfl (by kernel_rfl) (by kernel_rfl) (by kernel_rfl) (fun _ _ _ h => h) (Or.inl ⟨by rfl, ?_⟩) hHeld ?_
  rotate_left
  · (intro W hSw; (try dsimp only at hSw); go_simp; all_goals (with_reducible rfl))
  simp only [List.getElem_toArray, List.getElem_cons_zero, List.getElem_cons_succ, Act.put, List.setIfInBounds_toArray, List.set_cons_zero, List.set_cons_succ]
  refine wpAnyH_done (by kernel_rfl) ?_ _
  refine NoPanic.normal ?_
  clear hHeld
  have c_V1 := V1.d0
  have f0_V1 := V1.frozen 0
  have d_V1 := V1.d1
  have f1_V1 := V1.frozen 1
  have e_V1 := V1.d2
  have f2_V1 := V1.frozen 2
  have l_V1 := V1.lt
  have m_V1 := Nat.le_of_lt l_V1
  go_wp2_with fail
  refine bodyPost_ret (results_rt rfl rfl (V1.set3 _ _ _)) rfl ?_
  exact ⟨rfl, belo3 B0 (by omega) _ _ _⟩

set_option maxHeartbeats 8000000 in
theorem qof_zero (s : Bool) (a : Option Addr) (l c : Nat) (zs : List Int) (b : Option Addr) (m d : Nat) (ys : List Int) (w : World) (h : Ri w a l c zs b m d ys) (hl : l ≤ 1024) (hm : m ≤ 1024) (hu : usedN zs = l) (hv : usedN ys = m) (h0 : m = 0) :
    Calls Tryz.prog 15 #[.agg #[.bool s, .slice a l c, .slice b m d]] w fun e w' => e = .returned (.tuple #[.agg #[.bool false, .slice none 0 0, .slice none 0 0], .int .i64 50]) ∧ Below w.heap.size w w' := by
  have hmx : max (l : Int) (m : Int) ≤ 1024 := by omega
  have hzl := h.1.1
  have hyl := h.2.1.1
  have hlz := usedN_le zs
  have hly := usedN_le ys
  have H0 : Hid (m = 0) := h0
  clear h0
  have B0 : Below w.heap.size w w := Below.refl _ _
  go_enter Tryz.func15, Tryz.ntmps15
  go_wp2_with fail
  refine ent2 w _ _ _ _ (Q := fun W => Calls Tryz.prog _ _ W _) ?_
  intro x1 hb hs_x1 V0 V1
  replace h := Ri.after hb h
  replace B0 := step B0 hb
  clear hb hs_x1
  refine (of_ok a l c zs x1 h.1 (by omega) h.2.2.1 (by omega)).mono ?_
  rintro e x2 ⟨gn, ln, kn, zn, rfl, hgn, hn, en, hb⟩
  replace V0 := Va.after hb V0
  replace V1 := Va.after hb V1
  replace h := Ri.after hb h
  replace B0 := step B0 hb
  clear hb
  have HLn : Hid (ln = usedN zs ∧ num zn = num zs) := ⟨by rw [← hn.2.1]; exact used_of_num hn.limbs h.1.2.1 en, en⟩
  clear en hgn
  have c_V0 := V0.d0
  have f0_V0 := V0.frozen 0
  have d_V0 := V0.d1
  have f1_V0 := V0.frozen 1
  have e_V0 := V0.d2
  have f2_V0 := V0.frozen 2
  have l_V0 := V0.lt
  have m_V0 := Nat.le_of_lt l_V0
  go_wp2_with fail
  have la0 := V0.lt
  have la1 := V1.lt
  refine ent1 x2 _ _ (Q := fun W => Calls Tryz.prog _ _ W _) ?_
  intro x3 hb hs_x3 Vn
  replace V0 := Va.after hb V0
  replace V1 := Va.after hb V1
  replace h := Ri.after hb h
  replace hn := Nt.after hb hn
  replace B0 := step B0 hb
  clear hb hs_x3
  refine (of_ok b m d ys x3 h.2.1 (by omega) h.2.2.2 (by omega)).mono ?_
  rintro e x4 ⟨ge, le, ke, ze, rfl, hge, he, ee, hb⟩
  replace V0 := Va.after hb V0
  replace V1 := Va.after hb V1
  replace Vn := Va.after hb Vn
  replace h := Ri.after hb h
  replace hn := Nt.after hb hn
  replace B0 := step B0 hb
  clear hb
  have HLe : Hid (le = usedN ys ∧ num ze = num ys) := ⟨by rw [← he.2.1]; exact used_of_num he.limbs h.2.1.2.1 ee, ee⟩
  clear ee hge
  clear c_V0 f0_V0 d_V0 f1_V0 e_V0 f2_V0 l_V0 m_V0
  have c_V0 := V0.d0
  have f0_V0 := V0.frozen 0
  have d_V0 := V0.d1
  have f1_V0 := V0.frozen 1
  have e_V0 := V0.d2
  have f2_V0 := V0.frozen 2
  have l_V0 := V0.lt
  have m_V0 := Nat.le_of_lt l_V0
  have c_Vn := Vn.cell
  have f0_Vn := Vn.frozen 0
  have l_Vn := Vn.lt
  have m_Vn := Nat.le_of_lt l_Vn
  go_wp2_with fail
  have lb0 := V0.lt
  have lb1 := V1.lt
  have lb2 := Vn.lt
  refine ent1 x4 _ _ (Q := fun W => Code.wp Tryz.prog _ _ _ W) ?_
  intro x5 hb hs_x5 Ve
  replace V0 := Va.after hb V0
  replace V1 := Va.after hb V1
  replace Vn := Va.after hb Vn
  replace h := Ri.after hb h
  replace hn := Nt.after hb hn
  replace he := Nt.after hb he
  replace B0 := step B0 hb
  clear hb hs_x5
  have d1 : ((ln : Int) != (l : Int)) = false := by have := HLn.out.1; simp; omega
  have d2 : ((le : Int) != (m : Int)) = false := by have := HLe.out.1; simp; omega
  have d3 : ((le : Int) == 0) = true := by have := HLe.out.1; have := H0.out; simp; omega
  clear c_V0 f0_V0 d_V0 f1_V0 e_V0 f2_V0 l_V0 m_V0 c_Vn f0_Vn l_Vn m_Vn
  refine wp_region_noPanic ?_
  replace V0 : Va x5.drew _ _ _ := V0
  replace V1 : Va x5.drew _ _ _ := V1
  replace Vn : Va x5.drew _ _ _ := Vn
  replace Ve : Va x5.drew _ _ _ := Ve
  replace h := h.drw
  replace hn := hn.drw
  replace he := he.drw
  replace B0 := Below.drew B0
  refine wp_region_held_drew (S := (fun W => W.cell? ⟨w.heap.size, 0, none⟩ = some (.bool s) ∧ W.cell? ⟨w.heap.size, 1, none⟩ = some (.slice a l c) ∧ W.cell? ⟨w.heap.size, 2, none⟩ = some (.slice b m d) ∧ W.cell? ⟨x2.heap.size, 0, none⟩ = some (.slice (some ⟨gn, 0, none⟩) ln kn) ∧ W.cell? ⟨x4.heap.size, 0, none⟩ = some (.slice (some ⟨ge, 0, none⟩) le ke))) (by kernel_rfl) ⟨V0.d0, V0.d1, V0.d2, Vn.cell, Ve.cell⟩ (fun hHeld => ?_)
  obtain ⟨x6, hxd⟩ : ∃ xd, xd = x5.drew := ⟨_, rfl⟩
  rw [← hxd] at V0 V1 Vn Ve h hn he B0 hHeld ⊢
  clear hxd
  refine wpAnyH_take (i := 0) (v := ?_) rfl (by kernel_rfl) (by kernel_rfl) (by kernel_rfl) (fun _ _ _ h => h) (Or.inl ⟨by rfl, ?_⟩) hHeld ?_
  rotate_left
  · (intro W hSw; (try dsimp only at hSw); go_simp; all_goals (with_reducible rfl))
  simp only [List.getElem_toArray, List.getElem_cons_zero, Act.put, List.setIfInBounds_toArray, List.set_cons_zero, List.set_cons_succ]
  refine wpAnyH_take (i := 2) (v := ?_) rfl (by kernel_rfl) (by kernel_rfl) (by kernel_rfl) (fun _ _ _ h => h) (Or.inl ⟨by rfl, ?_⟩) hHeld ?_
  rotate_left
  · (intro W hSw; (try dsimp only at hSw); go_simp; all_goals (with_reducible rfl))
  simp only [List.getElem_toArray, List.getElem_cons_zero, List.getElem_cons_succ, Act.put, List.setIfInBounds_toArray, List.set_cons_zero, List.set_cons_succ]
  refine wpAnyH_take (i := 3) (v := ?_) rfl (by kernel_rfl) (by kernel_rfl) (by kernel_rfl) (fun _ _ _ h => h) (Or.inl ⟨by rfl, ?_⟩) hHeld ?_
  rotate_left
  · (intro W hSw; (try dsimp only at hSw); go_simp; all_goals (with_reducible rfl))
  simp only [List.getElem_toArray, List.getElem_cons_zero, List.getElem_cons_succ, Act.put, List.setIfInBounds_toArray, List.set_cons_zero, List.set_cons_succ]
  refine wpAnyH_take (i := 4) (v := ?_) rfl (by kernel_rfl) (by kernel_rfl) (by kernel_rfl) (fun _ _ _ h => h) (Or.inl ⟨by rfl, ?_⟩) hHeld ?_
  rotate_left
  · (intro W hSw; (try dsimp only at hSw); go_simp; all_goals (with_reducible rfl))
  simp only [List.getElem_toArray, List.getElem_cons_zero, List.getElem_cons_succ, Act.put, List.setIfInBounds_toArray, List.set_cons_zero, List.set_cons_succ]
  refine wpAnyH_ready (rs := [1]) (by kernel_rfl) (by simp) ?_
  refine AllReadyH.cons rfl (fun K hK => ?_) AllReadyH.nil
  simp only [List.getElem_toArray, List.getElem_cons_zero, List.getElem_cons_succ]
  go_simp
  refine (qlimbs_any (some ⟨gn, 0, none⟩) ln kn zn _ hn).mono ?_
  rintro e x7 ⟨rfl, hb⟩
  replace V0 := Va.after hb V0
  replace V1 := Va.after hb V1
  replace Vn := Va.after hb Vn
  replace Ve := Va.after hb Ve
  replace h := Ri.after hb h
  replace hn := Nt.after hb hn
  replace he := Nt.after hb he
  replace B0 := step B0 hb
  clear hb
  try go_wp2_with fail
  refine hK.out _ _ ⟨V0.d0, V0.d1, V0.d2, Vn.cell, Ve.cell⟩ (fun hHeld => ?_)
  clear hK K
  refine wpAnyH_take (i := 5) (v := .bool false) rfl (by kernel_rfl) (by kernel_rfl) (by kernel_rfl) (fun _ _ _ h => h) (Or.inl ⟨by rfl, ?_⟩) hHeld ?_
  · (intro W hSw; (try dsimp only at hSw); go_simp; first | (rw [d1]) | skip)
  simp only [List.getElem_toArray, List.getElem_cons_zero, List.getElem_cons_succ, Act.put, List.setIfInBounds_toArray, List.set_cons_zero, List.set_cons_succ]
  refine wpAnyH_take (i := 6) (v := ?_) rfl (by kernel_rfl) (by kernel_rfl) (by kernel_rfl) (fun _ _ _ h => h) (Or.inl ⟨by rfl, ?_⟩) hHeld ?_
  rotate_left
  · (intro W hSw; (try dsimp only at hSw); go_simp; all_goals (with_reducible rfl))
  simp only [List.getElem_toArray, List.getElem_cons_zero, List.getElem_cons_succ, Act.put, List.setIfInBounds_toArray, List.set_cons_zero, List.set_cons_succ]
  refine wpAnyH_take (i := 7) (v := ?_) rfl (by kernel_rfl) (by kernel_rfl) (by kernel_rfl) (fun _ _ _ h => h) (Or.inl ⟨by rfl, ?_⟩) hHeld ?_
  rotate_left
  · (intro W hSw; (try dsimp only at hSw); go_simp; all_goals (with_reducible rfl))
  simp only [List.getElem_toArray, List.getElem_cons_zero, List.getElem_cons_succ, Act.put, List.setIfInBounds_toArray, List.set_cons_zero, List.set_cons_succ]
  refine wpAnyH_take (i := 9) (v := ?_) rfl (by kernel_rfl) (by kernel_rfl) (by kernel_rfl) (fun _ _ _ h => h) (Or.inl ⟨by rfl, ?_⟩) hHeld ?_
  rotate_left
  · (intro W hSw; (try dsimp only at hSw); go_simp; all_goals (with_reducible rfl))
  simp only [List.getElem_toArray, List.getElem_cons_zero, List.getElem_cons_succ, Act.put, List.setIfInBounds_toArray, List.set_cons_zero, List.set_cons_succ]
  refine wpAnyH_take (i := 10) (v := ?_) rfl (by kernel_rfl) (by kernel_rfl) (by kernel_rfl) (fun _ _ _ h => h) (Or.inl ⟨by rfl, ?_⟩) hHeld ?_
  rotate_left
  · (intro W hSw; (try dsimp only at hSw); go_simp; all_goals (with_reducible rfl))
  simp only [List.getElem_toArray, List.getElem_cons_zero, List.getElem_cons_succ, Act.put, List.setIfInBounds_toArray, List.set_cons_zero, List.set_cons_succ]
  refine wpAnyH_take (i := 11) (v := ?_) rfl (by kernel_rfl) (by kernel_rfl) (by kernel_rfl) (fun _ _ _ h => h) (Or.inl ⟨by rfl, ?_⟩) hHeld ?_
  rotate_left
  · (intro W hSw; (try dsimp only at hSw); go_simp; all_goals (with_reducible rfl))
  simp only [List.getElem_toArray, List.getElem_cons_zero, List.getElem_cons_succ, Act.put, List.setIfInBounds_toArray, List.set_cons_zero, List.set_cons_succ]
  refine wpAnyH_ready (rs := [8]) (by kernel_rfl) (by simp) ?_
  refine AllReadyH.cons rfl (fun K hK => ?_) AllReadyH.nil
  simp only [List.getElem_toArray, List.getElem_cons_zero, List.getElem_cons_succ]
  go_simp
  refine (qlimbs_any (some ⟨ge, 0, none⟩) le ke ze _ he).mono ?_
  rintro e x8 ⟨rfl, hb⟩
  replace V0 := Va.after hb V0
  replace V1 := Va.after hb V1
  replace Vn := Va.after hb Vn
  replace Ve := Va.after hb Ve
  replace h := Ri.after hb h
  replace hn := Nt.after hb hn
  replace he := Nt.after hb he
  replace B0 := step B0 hb
  clear hb
  try go_wp2_with fail
  refine hK.out _ _ ⟨V0.d0, V0.d1, V0.d2, Vn.cell, Ve.cell⟩ (fun hHeld => ?_)
  clear hK K
  refine wpAnyH_take (i := 12) (v := .bool false) rfl (by kernel_rfl) (by kernel_rfl) (by kernel_rfl) (fun _ _ _ h => h) (Or.inl ⟨by rfl, ?_⟩) hHeld ?_
  · (intro W hSw; (try dsimp only at hSw); go_simp; first | (rw [d2]) | skip)
  simp only [List.getElem_toArray, List.getElem_cons_zero, List.getElem_cons_succ, Act.put, List.setIfInBounds_toArray, List.set_cons_zero, List.set_cons_succ]
  refine wpAnyH_take (i := 13) (v := ?_) rfl (by kernel_rfl) (by kernel_rfl) (by kernel_rfl) (fun _ _ _ h => h) (Or.inl ⟨by rfl, ?_⟩) hHeld ?_
  rotate_left
  · (intro W hSw; (try dsimp only at hSw); go_simp; all_goals (with_reducible rfl))
  simp only [List.getElem_toArray, List.getElem_cons_zero, List.getElem_cons_succ, Act.put, List.setIfInBounds_toArray, List.set_cons_zero, List.set_cons_succ]
  refine wpAnyH_take (i := 14) (v := ?_) rfl (by kernel_rfl) (by kernel_rfl) (by kernel_rfl) (fun _ _ _ h => h) (Or.inl ⟨by rfl, ?_⟩) hHeld ?_
  rotate_left
  · (intro W hSw; (try dsimp only at hSw); go_simp; all_goals (with_reducible rfl))
  simp only [List.getElem_toArray, List.getElem_cons_zero, List.getElem_cons_succ, Act.put, List.setIfInBounds_toArray, List.set_cons_zero, List.set_cons_succ]
  refine wpAnyH_take (i := 15) (v := ?_) rfl (by kernel_rfl) (by kernel_rfl) (by kernel_rfl) (fun _ _ _ h => h) (Or.inl ⟨by rfl, ?_⟩) hHeld ?_
  rotate_left
  · (intro W hSw; (try dsimp only at hSw); go_simp; all_goals (with_reducible rfl))
  simp only [List.getElem_toArray, List.getElem_cons_zero, List.getElem_cons_succ, Act.put, List.setIfInBounds_toArray, List.set_cons_zero, List.set_cons_succ]
  refine wpAnyH_ready (rs := [16]) (by kernel_rfl) (by simp) ?_
  refine AllReadyH.cons rfl (fun K hK => ?_) AllReadyH.nil
  simp only [List.getElem_toArray, List.getElem_cons_zero, List.getElem_cons_succ]
  go_simp
  refine (isZero_any (some ⟨ge, 0, none⟩) le ke _).mono ?_
  rintro e x9 ⟨rfl, hb⟩
  replace V0 := Va.after hb V0
  replace V1 := Va.after hb V1
  replace Vn := Va.after hb Vn
  replace Ve := Va.after hb Ve
  replace h := Ri.after hb h
  replace hn := Nt.after hb hn
  replace he := Nt.after hb he
  replace B0 := step B0 hb
  clear hb
  rw [d3]
  try go_wp2_with fail
  refine hK.out _ _ ⟨V0.d0, V0.d1, V0.d2, Vn.cell, Ve.cell⟩ (fun hHeld => ?_)
  clear hK K
  refine wpAnyH_take (i := 17) (v := ?_) rfl (by kernel_rfl) (by kernel_rfl) (by kernel_rfl) (fun _ _ _ h => h) (Or.inl ⟨by rfl, ?_⟩) hHeld ?_
  rotate_left
  · (intro W hSw; (try dsimp only at hSw); go_simp; all_goals (with_reducible rfl))
  simp only [List.getElem_toArray, List.getElem_cons_zero, List.getElem_cons_succ, Act.put, List.setIfInBounds_toArray, List.set_cons_zero, List.set_cons_succ]
  refine wpAnyH_done (by kernel_rfl) ?_ _
  refine NoPanic.normal ?_
  clear hHeld
  have c_V1 := V1.d0
  have f0_V1 := V1.frozen 0
  have d_V1 := V1.d1
  have f1_V1 := V1.frozen 1
  have e_V1 := V1.d2
  have f2_V1 := V1.frozen 2
  have l_V1 := V1.lt
  have m_V1 := Nat.le_of_lt l_V1
  go_wp2_with fail
  refine bodyPost_ret (results_rt rfl rfl (V1.set3 _ _ _)) rfl ?_
  exact ⟨rfl, belo3 B0 (by omega) _ _ _⟩

set_option maxHeartbeats 8000000 in
theorem qof_gcd (s : Bool) (a : Option Addr) (l c : Nat) (zs : List Int) (b : Option Addr) (m d : Nat) (ys : List Int) (w : World) (h : Ri w a l c zs b m d ys) (hl : l ≤ 1024) (hm : m ≤ 1024) (hu : usedN zs = l) (hv : usedN ys = m) (h0 : m ≠ 0) (hg : Int.gcd (num zs) (num ys) ≠ 1) :
    Calls Tryz.prog 15 #[.agg #[.bool s, .slice a l c, .slice b m d]] w fun e w' => e = .returned (.tuple #[.agg #[.bool false, .slice none 0 0, .slice none 0 0], .int .i64 50]) ∧ Below w.heap.size w w' := by
  have hmx : max (l : Int) (m : Int) ≤ 1024 := by omega
  have hzl := h.1.1
  have hyl := h.2.1.1
  have hlz := usedN_le zs
  have hly := usedN_le ys
  have B0 : Below w.heap.size w w := Below.refl _ _
  go_enter Tryz.func15, Tryz.ntmps15
  go_wp2_with fail
  refine ent2 w _ _ _ _ (Q := fun W => Calls Tryz.prog _ _ W _) ?_
  intro x1 hb hs_x1 V0 V1
  replace h := Ri.after hb h
  replace B0 := step B0 hb
  clear hb hs_x1
  refine (of_ok a l c zs x1 h.1 (by omega) h.2.2.1 (by omega)).mono ?_
  rintro e x2 ⟨gn, ln, kn, zn, rfl, hgn, hn, en, hb⟩
  replace V0 := Va.after hb V0
  replace V1 := Va.after hb V1
  replace h := Ri.after hb h
  replace B0 := step B0 hb
  clear hb
  have HLn : Hid (ln = usedN zs ∧ num zn = num zs) := ⟨by rw [← hn.2.1]; exact used_of_num hn.limbs h.1.2.1 en, en⟩
  clear en hgn
  have c_V0 := V0.d0
  have f0_V0 := V0.frozen 0
  have d_V0 := V0.d1
  have f1_V0 := V0.frozen 1
  have e_V0 := V0.d2
  have f2_V0 := V0.frozen 2
  have l_V0 := V0.lt
  have m_V0 := Nat.le_of_lt l_V0
  go_wp2_with fail
  have la0 := V0.lt
  have la1 := V1.lt
  refine ent1 x2 _ _ (Q := fun W => Calls Tryz.prog _ _ W _) ?_
  intro x3 hb hs_x3 Vn
  replace V0 := Va.after hb V0
  replace V1 := Va.after hb V1
  replace h := Ri.after hb h
  replace hn := Nt.after hb hn
  replace B0 := step B0 hb
  clear hb hs_x3
  refine (of_ok b m d ys x3 h.2.1 (by omega) h.2.2.2 (by omega)).mono ?_
  rintro e x4 ⟨ge, le, ke, ze, rfl, hge, he, ee, hb⟩
  replace V0 := Va.after hb V0
  replace V1 := Va.after hb V1
  replace Vn := Va.after hb Vn
  replace h := Ri.after hb h
  replace hn := Nt.after hb hn
  replace B0 := step B0 hb
  clear hb
  have HLe : Hid (le = usedN ys ∧ num ze = num ys) := ⟨by rw [← he.2.1]; exact used_of_num he.limbs h.2.1.2.1 ee, ee⟩
  clear ee hge
  clear c_V0 f0_V0 d_V0 f1_V0 e_V0 f2_V0 l_V0 m_V0
  have c_V0 := V0.d0
  have f0_V0 := V0.frozen 0
  have d_V0 := V0.d1
  have f1_V0 := V0.frozen 1
  have e_V0 := V0.d2
  have f2_V0 := V0.frozen 2
  have l_V0 := V0.lt
  have m_V0 := Nat.le_of_lt l_V0
  have c_Vn := Vn.cell
  have f0_Vn := Vn.frozen 0
  have l_Vn := Vn.lt
  have m_Vn := Nat.le_of_lt l_Vn
  go_wp2_with fail
  have lb0 := V0.lt
  have lb1 := V1.lt
  have lb2 := Vn.lt
  refine ent1 x4 _ _ (Q := fun W => Code.wp Tryz.prog _ _ _ W) ?_
  intro x5 hb hs_x5 Ve
  replace V0 := Va.after hb V0
  replace V1 := Va.after hb V1
  replace Vn := Va.after hb Vn
  replace h := Ri.after hb h
  replace hn := Nt.after hb hn
  replace he := Nt.after hb he
  replace B0 := step B0 hb
  clear hb hs_x5
  have d1 : ((ln : Int) != (l : Int)) = false := by have := HLn.out.1; simp; omega
  have d2 : ((le : Int) != (m : Int)) = false := by have := HLe.out.1; simp; omega
  have d3 : ((le : Int) == 0) = false := by have := HLe.out.1; simp; omega
  clear c_V0 f0_V0 d_V0 f1_V0 e_V0 f2_V0 l_V0 m_V0 c_Vn f0_Vn l_Vn m_Vn
  refine wp_region_noPanic ?_
  replace V0 : Va x5.drew _ _ _ := V0
  replace V1 : Va x5.drew _ _ _ := V1
  replace Vn : Va x5.drew _ _ _ := Vn
  replace Ve : Va x5.drew _ _ _ := Ve
  replace h := h.drw
  replace hn := hn.drw
  replace he := he.drw
  replace B0 := Below.drew B0
  refine wp_region_held_drew (S := (fun W => W.cell? ⟨w.heap.size, 0, none⟩ = some (.bool s) ∧ W.cell? ⟨w.heap.size, 1, none⟩ = some (.slice a l c) ∧ W.cell? ⟨w.heap.size, 2, none⟩ = some (.slice b m d) ∧ W.cell? ⟨x2.heap.size, 0, none⟩ = some (.slice (some ⟨gn, 0, none⟩) ln kn) ∧ W.cell? ⟨x4.heap.size, 0, none⟩ = some (.slice (some ⟨ge, 0, none⟩) le ke))) (by kernel_rfl) ⟨V0.d0, V0.d1, V0.d2, Vn.cell, Ve.cell⟩ (fun hHeld => ?_)
  obtain ⟨x6, hxd⟩ : ∃ xd, xd = x5.drew := ⟨_, rfl⟩
  rw [← hxd] at V0 V1 Vn Ve h hn he B0 hHeld ⊢
  clear hxd
  refine wpAnyH_take (i := 0) (v := ?_) rfl (by kernel_rfl) (by kernel_rfl) (by kernel_rfl) (fun _ _ _ h => h) (Or.inl ⟨by rfl, ?_⟩) hHeld ?_
  rotate_left
  · (intro W hSw; (try dsimp only at hSw); go_simp; all_goals (with_reducible rfl))
  simp only [List.getElem_toArray, List.getElem_cons_zero, Act.put, List.setIfInBounds_toArray, List.set_cons_zero, List.set_cons_succ]
  refine wpAnyH_take (i := 2) (v := ?_) rfl (by kernel_rfl) (by kernel_rfl) (by kernel_rfl) (fun _ _ _ h => h) (Or.inl ⟨by rfl, ?_⟩) hHeld ?_
  rotate_left
  · (intro W hSw; (try dsimp only at hSw); go_simp; all_goals (with_reducible rfl))
  simp only [List.getElem_toArray, List.getElem_cons_zero, List.getElem_cons_succ, Act.put, List.setIfInBounds_toArray, List.set_cons_zero, List.set_cons_succ]
  refine wpAnyH_take (i := 3) (v := ?_) rfl (by kernel_rfl) (by kernel_rfl) (by kernel_rfl) (fun _ _ _ h => h) (Or.inl ⟨by rfl, ?_⟩) hHeld ?_
  rotate_left
  · (intro W hSw; (try dsimp only at hSw); go_simp; all_goals (with_reducible rfl))
  simp only [List.getElem_toArray, List.getElem_cons_zero, List.getElem_cons_succ, Act.put, List.setIfInBounds_toArray, List.set_cons_zero, List.set_cons_succ]
  refine wpAnyH_take (i := 4) (v := ?_) rfl (by kernel_rfl) (by kernel_rfl) (by kernel_rfl) (fun _ _ _ h => h) (Or.inl ⟨by rfl, ?_⟩) hHeld ?_
  rotate_left
  · (intro W hSw; (try dsimp only at hSw); go_simp; all_goals (with_reducible rfl))
  simp only [List.getElem_toArray, List.getElem_cons_zero, List.getElem_cons_succ, Act.put, List.setIfInBounds_toArray, List.set_cons_zero, List.set_cons_succ]
  refine wpAnyH_ready (rs := [1]) (by kernel_rfl) (by simp) ?_
  refine AllReadyH.cons rfl (fun K hK => ?_) AllReadyH.nil
  simp only [List.getElem_toArray, List.getElem_cons_zero, List.getElem_cons_succ]
  go_simp
  refine (qlimbs_any (some ⟨gn, 0, none⟩) ln kn zn _ hn).mono ?_
  rintro e x7 ⟨rfl, hb⟩
  replace V0 := Va.after hb V0
  replace V1 := Va.after hb V1
  replace Vn := Va.after hb Vn
  replace Ve := Va.after hb Ve
  replace h := Ri.after hb h
  replace hn := Nt.after hb hn
  replace he := Nt.after hb he
  replace B0 := step B0 hb
  clear hb
  try go_wp2_with fail
  refine hK.out _ _ ⟨V0.d0, V0.d1, V0.d2, Vn.cell, Ve.cell⟩ (fun hHeld => ?_)
  clear hK K
  refine wpAnyH_take (i := 5) (v := .bool false) rfl (by kernel_rfl) (by kernel_rfl) (by kernel_rfl) (fun _ _ _ h => h) (Or.inl ⟨by rfl, ?_⟩) hHeld ?_
  · (intro W hSw; (try dsimp only at hSw); go_simp; first | (rw [d1]) | skip)
  simp only [List.getElem_toArray, List.getElem_cons_zero, List.getElem_cons_succ, Act.put, List.setIfInBounds_toArray, List.set_cons_zero, List.set_cons_succ]
  refine wpAnyH_take (i := 6) (v := ?_) rfl (by kernel_rfl) (by kernel_rfl) (by kernel_rfl) (fun _ _ _ h => h) (Or.inl ⟨by rfl, ?_⟩) hHeld ?_
  rotate_left
  · (intro W hSw; (try dsimp only at hSw); go_simp; all_goals (with_reducible rfl))
  simp only [List.getElem_toArray, List.getElem_cons_zero, List.getElem_cons_succ, Act.put, List.setIfInBounds_toArray, List.set_cons_zero, List.set_cons_succ]
  refine wpAnyH_take (i := 7) (v := ?_) rfl (by kernel_rfl) (by kernel_rfl) (by kernel_rfl) (fun _ _ _ h => h) (Or.inl ⟨by rfl, ?_⟩) hHeld ?_
  rotate_left
  · (intro W hSw; (try dsimp only at hSw); go_simp; all_goals (with_reducible rfl))
  simp only [List.getElem_toArray, List.getElem_cons_zero, List.getElem_cons_succ, Act.put, List.setIfInBounds_toArray, List.set_cons_zero, List.set_cons_succ]
  refine wpAnyH_take (i := 9) (v := ?_) rfl (by kernel_rfl) (by kernel_rfl) (by kernel_rfl) (fun _ _ _ h => h) (Or.inl ⟨by rfl, ?_⟩) hHeld ?_
  rotate_left
  · (intro W hSw; (try dsimp only at hSw); go_simp; all_goals (with_reducible rfl))
  simp only [List.getElem_toArray, List.getElem_cons_zero, List.getElem_cons_succ, Act.put, List.setIfInBounds_toArray, List.set_cons_zero, List.set_cons_succ]
  refine wpAnyH_take (i := 10) (v := ?_) rfl (by kernel_rfl) (by kernel_rfl) (by kernel_rfl) (fun _ _ _ h => h) (Or.inl ⟨by rfl, ?_⟩) hHeld ?_
  rotate_left
  · (intro W hSw; (try dsimp only at hSw); go_simp; all_goals (with_reducible rfl))
  simp only [List.getElem_toArray, List.getElem_cons_zero, List.getElem_cons_succ, Act.put, List.setIfInBounds_toArray, List.set_cons_zero, List.set_cons_succ]
  refine wpAnyH_take (i := 11) (v := ?_) rfl (by kernel_rfl) (by kernel_rfl) (by kernel_rfl) (fun _ _ _ h => h) (Or.inl ⟨by rfl, ?_⟩) hHeld ?_
  rotate_left
  · (intro W hSw; (try dsimp only at hSw); go_simp; all_goals (with_reducible rfl))
  simp only [List.getElem_toArray, List.getElem_cons_zero, List.getElem_cons_succ, Act.put, List.setIfInBounds_toArray, List.set_cons_zero, List.set_cons_succ]
  refine wpAnyH_ready (rs := [8]) (by kernel_rfl) (by simp) ?_
  refine AllReadyH.cons rfl (fun K hK => ?_) AllReadyH.nil
  simp only [List.getElem_toArray, List.getElem_cons_zero, List.getElem_cons_succ]
  go_simp
  refine (qlimbs_any (some ⟨ge, 0, none⟩) le ke ze _ he).mono ?_
  rintro e x8 ⟨rfl, hb⟩
  replace V0 := Va.after hb V0
  replace V1 := Va.after hb V1
  replace Vn := Va.after hb Vn
  replace Ve := Va.after hb Ve
  replace h := Ri.after hb h
  replace hn := Nt.after hb hn
  replace he := Nt.after hb he
  replace B0 := step B0 hb
  clear hb
  try go_wp2_with fail
  refine hK.out _ _ ⟨V0.d0, V0.d1, V0.d2, Vn.cell, Ve.cell⟩ (fun hHeld => ?_)
  clear hK K
  refine wpAnyH_take (i := 12) (v := .bool false) rfl (by kernel_rfl) (by kernel_rfl) (by kernel_rfl) (fun _ _ _ h => h) (Or.inl ⟨by rfl, ?_⟩) hHeld ?_
  · (intro W hSw; (try dsimp only at hSw); go_simp; first | (rw [d2]) | skip)
  simp only [List.getElem_toArray, List.getElem_cons_zero, List.getElem_cons_succ, Act.put, List.setIfInBounds_toArray, List.set_cons_zero, List.set_cons_succ]
  refine wpAnyH_take (i := 13) (v := ?_) rfl (by kernel_rfl) (by kernel_rfl) (by kernel_rfl) (fun _ _ _ h => h) (Or.inl ⟨by rfl, ?_⟩) hHeld ?_
  rotate_left
  · (intro W hSw; (try dsimp only at hSw); go_simp; all_goals (with_reducible rfl))
  simp only [List.getElem_toArray, List.getElem_cons_zero, List.getElem_cons_succ, Act.put, List.setIfInBounds_toArray, List.set_cons_zero, List.set_cons_succ]
  refine wpAnyH_take (i := 14) (v := ?_) rfl (by kernel_rfl) (by kernel_rfl) (by kernel_rfl) (fun _ _ _ h => h) (Or.inl ⟨by rfl, ?_⟩) hHeld ?_
  rotate_left
  · (intro W hSw; (try dsimp only at hSw); go_simp; all_goals (with_reducible rfl))
  simp only [List.getElem_toArray, List.getElem_cons_zero, List.getElem_cons_succ, Act.put, List.setIfInBounds_toArray, List.set_cons_zero, List.set_cons_succ]
  refine wpAnyH_take (i := 15) (v := ?_) rfl (by kernel_rfl) (by kernel_rfl) (by kernel_rfl) (fun _ _ _ h => h) (Or.inl ⟨by rfl, ?_⟩) hHeld ?_
  rotate_left
  · (intro W hSw; (try dsimp only at hSw); go_simp; all_goals (with_reducible rfl))
  simp only [List.getElem_toArray, List.getElem_cons_zero, List.getElem_cons_succ, Act.put, List.setIfInBounds_toArray, List.set_cons_zero, List.set_cons_succ]
  refine wpAnyH_ready (rs := [16]) (by kernel_rfl) (by simp) ?_
  refine AllReadyH.cons rfl (fun K hK => ?_) AllReadyH.nil
  simp only [List.getElem_toArray, List.getElem_cons_zero, List.getElem_cons_succ]
  go_simp
  refine (isZero_any (some ⟨ge, 0, none⟩) le ke _).mono ?_
  rintro e x9 ⟨rfl, hb⟩
  replace V0 := Va.after hb V0
  replace V1 := Va.after hb V1
  replace Vn := Va.after hb Vn
  replace Ve := Va.after hb Ve
  replace h := Ri.after hb h
  replace hn := Nt.after hb hn
  replace he := Nt.after hb he
  replace B0 := step B0 hb
  clear hb
  rw [d3]
  try go_wp2_with fail
  refine hK.out _ _ ⟨V0.d0, V0.d1, V0.d2, Vn.cell, Ve.cell⟩ (fun hHeld => ?_)
  clear hK K
  refine wpAnyH_take (i := 17) (v := ?_) rfl (by kernel_rfl) (by kernel_rfl) (by kernel_rfl) (fun _ _ _ h => h) (Or.inl ⟨by rfl, ?_⟩) hHeld ?_
  rotate_left
  · (intro W hSw; (try dsimp only at hSw); go_simp; all_goals (with_reducible rfl))
  simp only [List.getElem_toArray, List.getElem_cons_zero, List.getElem_cons_succ, Act.put, List.setIfInBounds_toArray, List.set_cons_zero, List.set_cons_succ]
  refine wpAnyH_done (by kernel_rfl) ?_ _
  refine NoPanic.normal ?_
  clear hHeld
  clear d1 d2 d3
  have c_V0 := V0.d0
  have f0_V0 := V0.frozen 0
  have d_V0 := V0.d1
  have f1_V0 := V0.frozen 1
  have e_V0 := V0.d2
  have f2_V0 := V0.frozen 2
  have l_V0 := V0.lt
  have m_V0 := Nat.le_of_lt l_V0
  have c_Vn := Vn.cell
  have f0_Vn := Vn.frozen 0
  have l_Vn := Vn.lt
  have m_Vn := Nat.le_of_lt l_Vn
  have c_Ve := Ve.cell
  have f0_Ve := Ve.frozen 0
  have l_Ve := Ve.lt
  have m_Ve := Nat.le_of_lt l_Ve
  go_wp2_with fail
  refine (ngcd_any (some ⟨gn, 0, none⟩) (some ⟨ge, 0, none⟩) ln kn le ke zn ze x9 hn he).mono ?_
  rintro e x10 ⟨ag, lg, kg, zg, rfl, hgc, eg, hb⟩
  replace V0 := Va.after hb V0
  replace V1 := Va.after hb V1
  replace Vn := Va.after hb Vn
  replace Ve := Va.after hb Ve
  replace h := Ri.after hb h
  replace hn := Nt.after hb hn
  replace he := Nt.after hb he
  replace B0 := step B0 hb
  clear hb
  rw [HLn.out.2, HLe.out.2] at eg
  clear c_V0 f0_V0 d_V0 f1_V0 e_V0 f2_V0 l_V0 m_V0 c_Vn f0_Vn l_Vn m_Vn c_Ve f0_Ve l_Ve m_Ve
  have c_V0 := V0.d0
  have f0_V0 := V0.frozen 0
  have d_V0 := V0.d1
  have f1_V0 := V0.frozen 1
  have e_V0 := V0.d2
  have f2_V0 := V0.frozen 2
  have l_V0 := V0.lt
  have m_V0 := Nat.le_of_lt l_V0
  have c_V1 := V1.d0
  have f0_V1 := V1.frozen 0
  have d_V1 := V1.d1
  have f1_V1 := V1.frozen 1
  have e_V1 := V1.d2
  have f2_V1 := V1.frozen 2
  have l_V1 := V1.lt
  have m_V1 := Nat.le_of_lt l_V1
  have c_Vn := Vn.cell
  have f0_Vn := Vn.frozen 0
  have l_Vn := Vn.lt
  have m_Vn := Nat.le_of_lt l_Vn
  have c_Ve := Ve.cell
  have f0_Ve := Ve.frozen 0
  have l_Ve := Ve.lt
  have m_Ve := Nat.le_of_lt l_Ve
  go_wp2_with fail
  have hgn : num zg ≠ 1 := by rw [eg]; intro e; exact hg (by exact_mod_cast e)
  by_cases hs : num zg < 18446744073709551616
  ·
    refine (uint64_small ag lg kg zg x10 hgc hs).mono ?_
    rintro e x11 ⟨rfl, hb⟩
    replace V0 := Va.after hb V0
    replace V1 := Va.after hb V1
    replace Vn := Va.after hb Vn
    replace Ve := Va.after hb Ve
    replace h := Ri.after hb h
    replace hn := Nt.after hb hn
    replace he := Nt.after hb he
    replace hgc := Nt.after hb hgc
    replace B0 := step B0 hb
    clear hb
    have d4 : (num zg != 1) = true := by simpa using hgn
    obtain ⟨G, hG⟩ : ∃ G, num zg = G := ⟨_, rfl⟩
    rw [hG] at d4 ⊢
    clear hG hgn hs eg hg
    clear hgc
    clear c_V0 f0_V0 d_V0 f1_V0 e_V0 f2_V0 l_V0 m_V0 c_V1 f0_V1 d_V1 f1_V1 e_V1 f2_V1 l_V1 m_V1 c_Vn f0_Vn l_Vn m_Vn c_Ve f0_Ve l_Ve m_Ve
    have c_V0 := V0.d0
    have f0_V0 := V0.frozen 0
    have d_V0 := V0.d1
    have f1_V0 := V0.frozen 1
    have e_V0 := V0.d2
    have f2_V0 := V0.frozen 2
    have l_V0 := V0.lt
    have m_V0 := Nat.le_of_lt l_V0
    have c_Vn := Vn.cell
    have f0_Vn := Vn.frozen 0
    have l_Vn := Vn.lt
    have m_Vn := Nat.le_of_lt l_Vn
    have c_Ve := Ve.cell
    have f0_Ve := Ve.frozen 0
    have l_Ve := Ve.lt
    have m_Ve := Nat.le_of_lt l_Ve
    have c_V1 := V1.d0
    have f0_V1 := V1.frozen 0
    have d_V1 := V1.d1
    have f1_V1 := V1.frozen 1
    have e_V1 := V1.d2
    have f2_V1 := V1.frozen 2
    have l_V1 := V1.lt
    have m_V1 := Nat.le_of_lt l_V1
    go_wp2_with fail
    refine bodyPost_ret (results_rt rfl rfl (V1.set3 _ _ _)) rfl ?_
    exact ⟨rfl, belo3 B0 (by omega) _ _ _⟩
  ·
    refine (uint64_great ag lg kg zg x10 hgc (by omega)).mono ?_
    rintro e x11 ⟨rfl, hb⟩
    replace V0 := Va.after hb V0
    replace V1 := Va.after hb V1
    replace Vn := Va.after hb Vn
    replace Ve := Va.after hb Ve
    replace h := Ri.after hb h
    replace hn := Nt.after hb hn
    replace he := Nt.after hb he
    replace hgc := Nt.after hb hgc
    replace B0 := step B0 hb
    clear hb
    clear hgn hs eg hg
    clear hgc
    clear c_V0 f0_V0 d_V0 f1_V0 e_V0 f2_V0 l_V0 m_V0 c_V1 f0_V1 d_V1 f1_V1 e_V1 f2_V1 l_V1 m_V1 c_Vn f0_Vn l_Vn m_Vn c_Ve f0_Ve l_Ve m_Ve
    have c_V0 := V0.d0
    have f0_V0 := V0.frozen 0
    have d_V0 := V0.d1
    have f1_V0 := V0.frozen 1
    have e_V0 := V0.d2
    have f2_V0 := V0.frozen 2
    have l_V0 := V0.lt
    have m_V0 := Nat.le_of_lt l_V0
    have c_Vn := Vn.cell
    have f0_Vn := Vn.frozen 0
    have l_Vn := Vn.lt
    have m_Vn := Nat.le_of_lt l_Vn
    have c_Ve := Ve.cell
    have f0_Ve := Ve.frozen 0
    have l_Ve := Ve.lt
    have m_Ve := Nat.le_of_lt l_Ve
    have c_V1 := V1.d0
    have f0_V1 := V1.frozen 0
    have d_V1 := V1.d1
    have f1_V1 := V1.frozen 1
    have e_V1 := V1.d2
    have f2_V1 := V1.frozen 2
    have l_V1 := V1.lt
    have m_V1 := Nat.le_of_lt l_V1
    go_wp2_with fail
    refine bodyPost_ret (results_rt rfl rfl (V1.set3 _ _ _)) rfl ?_
    exact ⟨rfl, belo3 B0 (by omega) _ _ _⟩

set_option maxHeartbeats 8000000 in
theorem qof_neg (s : Bool) (a : Option Addr) (l c : Nat) (zs : List Int) (b : Option Addr) (m d : Nat) (ys : List Int) (w : World) (h : Ri w a l c zs b m d ys) (hl : l ≤ 1024) (hm : m ≤ 1024) (hu : usedN zs = l) (hv : usedN ys = m) (h0 : m ≠ 0) (hg : Int.gcd (num zs) (num ys) = 1) (hs : s = true) (hz : l = 0) :
    Calls Tryz.prog 15 #[.agg #[.bool s, .slice a l c, .slice b m d]] w fun e w' => e = .returned (.tuple #[.agg #[.bool false, .slice none 0 0, .slice none 0 0], .int .i64 50]) ∧ Below w.heap.size w w' := by
  have hmx : max (l : Int) (m : Int) ≤ 1024 := by omega
  have hzl := h.1.1
  have hyl := h.2.1.1
  have hlz := usedN_le zs
  have hly := usedN_le ys
  subst hs
  have H0 : Hid (l = 0) := hz
  clear hz
  have B0 : Below w.heap.size w w := Below.refl _ _
  go_enter Tryz.func15, Tryz.ntmps15
  go_wp2_with fail
  refine ent2 w _ _ _ _ (Q := fun W => Calls Tryz.prog _ _ W _) ?_
  intro x1 hb hs_x1 V0 V1
  replace h := Ri.after hb h
  replace B0 := step B0 hb
  clear hb hs_x1
  refine (of_ok a l c zs x1 h.1 (by omega) h.2.2.1 (by omega)).mono ?_
  rintro e x2 ⟨gn, ln, kn, zn, rfl, hgn, hn, en, hb⟩
  replace V0 := Va.after hb V0
  replace V1 := Va.after hb V1
  replace h := Ri.after hb h
  replace B0 := step B0 hb
  clear hb
  have HLn : Hid (ln = usedN zs ∧ num zn = num zs) := ⟨by rw [← hn.2.1]; exact used_of_num hn.limbs h.1.2.1 en, en⟩
  clear en hgn
  have c_V0 := V0.d0
  have f0_V0 := V0.frozen 0
  have d_V0 := V0.d1
  have f1_V0 := V0.frozen 1
  have e_V0 := V0.d2
  have f2_V0 := V0.frozen 2
  have l_V0 := V0.lt
  have m_V0 := Nat.le_of_lt l_V0
  go_wp2_with fail
  have la0 := V0.lt
  have la1 := V1.lt
  refine ent1 x2 _ _ (Q := fun W => Calls Tryz.prog _ _ W _) ?_
  intro x3 hb hs_x3 Vn
  replace V0 := Va.after hb V0
  replace V1 := Va.after hb V1
  replace h := Ri.after hb h
  replace hn := Nt.after hb hn
  replace B0 := step B0 hb
  clear hb hs_x3
  refine (of_ok b m d ys x3 h.2.1 (by omega) h.2.2.2 (by omega)).mono ?_
  rintro e x4 ⟨ge, le, ke, ze, rfl, hge, he, ee, hb⟩
  replace V0 := Va.after hb V0
  replace V1 := Va.after hb V1
  replace Vn := Va.after hb Vn
  replace h := Ri.after hb h
  replace hn := Nt.after hb hn
  replace B0 := step B0 hb
  clear hb
  have HLe : Hid (le = usedN ys ∧ num ze = num ys) := ⟨by rw [← he.2.1]; exact used_of_num he.limbs h.2.1.2.1 ee, ee⟩
  clear ee hge
  clear c_V0 f0_V0 d_V0 f1_V0 e_V0 f2_V0 l_V0 m_V0
  have c_V0 := V0.d0
  have f0_V0 := V0.frozen 0
  have d_V0 := V0.d1
  have f1_V0 := V0.frozen 1
  have e_V0 := V0.d2
  have f2_V0 := V0.frozen 2
  have l_V0 := V0.lt
  have m_V0 := Nat.le_of_lt l_V0
  have c_Vn := Vn.cell
  have f0_Vn := Vn.frozen 0
  have l_Vn := Vn.lt
  have m_Vn := Nat.le_of_lt l_Vn
  go_wp2_with fail
  have lb0 := V0.lt
  have lb1 := V1.lt
  have lb2 := Vn.lt
  refine ent1 x4 _ _ (Q := fun W => Code.wp Tryz.prog _ _ _ W) ?_
  intro x5 hb hs_x5 Ve
  replace V0 := Va.after hb V0
  replace V1 := Va.after hb V1
  replace Vn := Va.after hb Vn
  replace h := Ri.after hb h
  replace hn := Nt.after hb hn
  replace he := Nt.after hb he
  replace B0 := step B0 hb
  clear hb hs_x5
  have d1 : ((ln : Int) != (l : Int)) = false := by have := HLn.out.1; simp; omega
  have d2 : ((le : Int) != (m : Int)) = false := by have := HLe.out.1; simp; omega
  have d3 : ((le : Int) == 0) = false := by have := HLe.out.1; simp; omega
  clear c_V0 f0_V0 d_V0 f1_V0 e_V0 f2_V0 l_V0 m_V0 c_Vn f0_Vn l_Vn m_Vn
  refine wp_region_noPanic ?_
  replace V0 : Va x5.drew _ _ _ := V0
  replace V1 : Va x5.drew _ _ _ := V1
  replace Vn : Va x5.drew _ _ _ := Vn
  replace Ve : Va x5.drew _ _ _ := Ve
  replace h := h.drw
  replace hn := hn.drw
  replace he := he.drw
  replace B0 := Below.drew B0
  refine wp_region_held_drew (S := (fun W => W.cell? ⟨w.heap.size, 0, none⟩ = some (.bool true) ∧ W.cell? ⟨w.heap.size, 1, none⟩ = some (.slice a l c) ∧ W.cell? ⟨w.heap.size, 2, none⟩ = some (.slice b m d) ∧ W.cell? ⟨x2.heap.size, 0, none⟩ = some (.slice (some ⟨gn, 0, none⟩) ln kn) ∧ W.cell? ⟨x4.heap.size, 0, none⟩ = some (.slice (some ⟨ge, 0, none⟩) le ke))) (by kernel_rfl) ⟨V0.d0, V0.d1, V0.d2, Vn.cell, Ve.cell⟩ (fun hHeld => ?_)
  obtain ⟨x6, hxd⟩ : ∃ xd, xd = x5.drew := ⟨_, rfl⟩
  rw [← hxd] at V0 V1 Vn Ve h hn he B0 hHeld ⊢
  clear hxd
  refine wpAnyH_take (i := 0) (v := ?_) rfl (by kernel_rfl) (by kernel_rfl) (by kernel_rfl) (fun _ _ _ h => h) (Or.inl ⟨by rfl, ?_⟩) hHeld ?_
  rotate_left
  · (intro W hSw; (try dsimp only at hSw); go_simp; all_goals (with_reducible rfl))
  simp only [List.getElem_toArray, List.getElem_cons_zero, Act.put, List.setIfInBounds_toArray, List.set_cons_zero, List.set_cons_succ]
  refine wpAnyH_take (i := 2) (v := ?_) rfl (by kernel_rfl) (by kernel_rfl) (by kernel_rfl) (fun _ _ _ h => h) (Or.inl ⟨by rfl, ?_⟩) hHeld ?_
  rotate_left
  · (intro W hSw; (try dsimp only at hSw); go_simp; all_goals (with_reducible rfl))
  simp only [List.getElem_toArray, List.getElem_cons_zero, List.getElem_cons_succ, Act.put, List.setIfInBounds_toArray, List.set_cons_zero, List.set_cons_succ]
  refine wpAnyH_take (i := 3) (v := ?_) rfl (by kernel_rfl) (by kernel_rfl) (by kernel_rfl) (fun _ _ _ h => h) (Or.inl ⟨by rfl, ?_⟩) hHeld ?_
  rotate_left
  · (intro W hSw; (try dsimp only at hSw); go_simp; all_goals (with_reducible rfl))
  simp only [List.getElem_toArray, List.getElem_cons_zero, List.getElem_cons_succ, Act.put, List.setIfInBounds_toArray, List.set_cons_zero, List.set_cons_succ]
  refine wpAnyH_take (i := 4) (v := ?_) rfl (by kernel_rfl) (by kernel_rfl) (by kernel_rfl) (fun _ _ _ h => h) (Or.inl ⟨by rfl, ?_⟩) hHeld ?_
  rotate_left
  · (intro W hSw; (try dsimp only at hSw); go_simp; all_goals (with_reducible rfl))
  simp only [List.getElem_toArray, List.getElem_cons_zero, List.getElem_cons_succ, Act.put, List.setIfInBounds_toArray, List.set_cons_zero, List.set_cons_succ]
  refine wpAnyH_ready (rs := [1]) (by kernel_rfl) (by simp) ?_
  refine AllReadyH.cons rfl (fun K hK => ?_) AllReadyH.nil
  simp only [List.getElem_toArray, List.getElem_cons_zero, List.getElem_cons_succ]
  go_simp
  refine (qlimbs_any (some ⟨gn, 0, none⟩) ln kn zn _ hn).mono ?_
  rintro e x7 ⟨rfl, hb⟩
  replace V0 := Va.after hb V0
  replace V1 := Va.after hb V1
  replace Vn := Va.after hb Vn
  replace Ve := Va.after hb Ve
  replace h := Ri.after hb h
  replace hn := Nt.after hb hn
  replace he := Nt.after hb he
  replace B0 := step B0 hb
  clear hb
  try go_wp2_with fail
  refine hK.out _ _ ⟨V0.d0, V0.d1, V0.d2, Vn.cell, Ve.cell⟩ (fun hHeld => ?_)
  clear hK K
  refine wpAnyH_take (i := 5) (v := .bool false) rfl (by kernel_rfl) (by kernel_rfl) (by kernel_rfl) (fun _ _ _ h => h) (Or.inl ⟨by rfl, ?_⟩) hHeld ?_
  · (intro W hSw; (try dsimp only at hSw); go_simp; first | (rw [d1]) | skip)
  simp only [List.getElem_toArray, List.getElem_cons_zero, List.getElem_cons_succ, Act.put, List.setIfInBounds_toArray, List.set_cons_zero, List.set_cons_succ]
  refine wpAnyH_take (i := 6) (v := ?_) rfl (by kernel_rfl) (by kernel_rfl) (by kernel_rfl) (fun _ _ _ h => h) (Or.inl ⟨by rfl, ?_⟩) hHeld ?_
  rotate_left
  · (intro W hSw; (try dsimp only at hSw); go_simp; all_goals (with_reducible rfl))
  simp only [List.getElem_toArray, List.getElem_cons_zero, List.getElem_cons_succ, Act.put, List.setIfInBounds_toArray, List.set_cons_zero, List.set_cons_succ]
  refine wpAnyH_take (i := 7) (v := ?_) rfl (by kernel_rfl) (by kernel_rfl) (by kernel_rfl) (fun _ _ _ h => h) (Or.inl ⟨by rfl, ?_⟩) hHeld ?_
  rotate_left
  · (intro W hSw; (try dsimp only at hSw); go_simp; all_goals (with_reducible rfl))
  simp only [List.getElem_toArray, List.getElem_cons_zero, List.getElem_cons_succ, Act.put, List.setIfInBounds_toArray, List.set_cons_zero, List.set_cons_succ]
  refine wpAnyH_take (i := 9) (v := ?_) rfl (by kernel_rfl) (by kernel_rfl) (by kernel_rfl) (fun _ _ _ h => h) (Or.inl ⟨by rfl, ?_⟩) hHeld ?_
  rotate_left
  · (intro W hSw; (try dsimp only at hSw); go_simp; all_goals (with_reducible rfl))
  simp only [List.getElem_toArray, List.getElem_cons_zero, List.getElem_cons_succ, Act.put, List.setIfInBounds_toArray, List.set_cons_zero, List.set_cons_succ]
  refine wpAnyH_take (i := 10) (v := ?_) rfl (by kernel_rfl) (by kernel_rfl) (by kernel_rfl) (fun _ _ _ h => h) (Or.inl ⟨by rfl, ?_⟩) hHeld ?_
  rotate_left
  · (intro W hSw; (try dsimp only at hSw); go_simp; all_goals (with_reducible rfl))
  simp only [List.getElem_toArray, List.getElem_cons_zero, List.getElem_cons_succ, Act.put, List.setIfInBounds_toArray, List.set_cons_zero, List.set_cons_succ]
  refine wpAnyH_take (i := 11) (v := ?_) rfl (by kernel_rfl) (by kernel_rfl) (by kernel_rfl) (fun _ _ _ h => h) (Or.inl ⟨by rfl, ?_⟩) hHeld ?_
  rotate_left
  · (intro W hSw; (try dsimp only at hSw); go_simp; all_goals (with_reducible rfl))
  simp only [List.getElem_toArray, List.getElem_cons_zero, List.getElem_cons_succ, Act.put, List.setIfInBounds_toArray, List.set_cons_zero, List.set_cons_succ]
  refine wpAnyH_ready (rs := [8]) (by kernel_rfl) (by simp) ?_
  refine AllReadyH.cons rfl (fun K hK => ?_) AllReadyH.nil
  simp only [List.getElem_toArray, List.getElem_cons_zero, List.getElem_cons_succ]
  go_simp
  refine (qlimbs_any (some ⟨ge, 0, none⟩) le ke ze _ he).mono ?_
  rintro e x8 ⟨rfl, hb⟩
  replace V0 := Va.after hb V0
  replace V1 := Va.after hb V1
  replace Vn := Va.after hb Vn
  replace Ve := Va.after hb Ve
  replace h := Ri.after hb h
  replace hn := Nt.after hb hn
  replace he := Nt.after hb he
  replace B0 := step B0 hb
  clear hb
  try go_wp2_with fail
  refine hK.out _ _ ⟨V0.d0, V0.d1, V0.d2, Vn.cell, Ve.cell⟩ (fun hHeld => ?_)
  clear hK K
  refine wpAnyH_take (i := 12) (v := .bool false) rfl (by kernel_rfl) (by kernel_rfl) (by kernel_rfl) (fun _ _ _ h => h) (Or.inl ⟨by rfl, ?_⟩) hHeld ?_
  · (intro W hSw; (try dsimp only at hSw); go_simp; first | (rw [d2]) | skip)
  simp only [List.getElem_toArray, List.getElem_cons_zero, List.getElem_cons_succ, Act.put, List.setIfInBounds_toArray, List.set_cons_zero, List.set_cons_succ]
  refine wpAnyH_take (i := 13) (v := ?_) rfl (by kernel_rfl) (by kernel_rfl) (by kernel_rfl) (fun _ _ _ h => h) (Or.inl ⟨by rfl, ?_⟩) hHeld ?_
  rotate_left
  · (intro W hSw; (try dsimp only at hSw); go_simp; all_goals (with_reducible rfl))
  simp only [List.getElem_toArray, List.getElem_cons_zero, List.getElem_cons_succ, Act.put, List.setIfInBounds_toArray, List.set_cons_zero, List.set_cons_succ]
  refine wpAnyH_take (i := 14) (v := ?_) rfl (by kernel_rfl) (by kernel_rfl) (by kernel_rfl) (fun _ _ _ h => h) (Or.inl ⟨by rfl, ?_⟩) hHeld ?_
  rotate_left
  · (intro W hSw; (try dsimp only at hSw); go_simp; all_goals (with_reducible rfl))
  simp only [List.getElem_toArray, List.getElem_cons_zero, List.getElem_cons_succ, Act.put, List.setIfInBounds_toArray, List.set_cons_zero, List.set_cons_succ]
  refine wpAnyH_take (i := 15) (v := ?_) rfl (by kernel_rfl) (by kernel_rfl) (by kernel_rfl) (fun _ _ _ h => h) (Or.inl ⟨by rfl, ?_⟩) hHeld ?_
  rotate_left
  · (intro W hSw; (try dsimp only at hSw); go_simp; all_goals (with_reducible rfl))
  simp only [List.getElem_toArray, List.getElem_cons_zero, List.getElem_cons_succ, Act.put, List.setIfInBounds_toArray, List.set_cons_zero, List.set_cons_succ]
  refine wpAnyH_ready (rs := [16]) (by kernel_rfl) (by simp) ?_
  refine AllReadyH.cons rfl (fun K hK => ?_) AllReadyH.nil
  simp only [List.getElem_toArray, List.getElem_cons_zero, List.getElem_cons_succ]
  go_simp
  refine (isZero_any (some ⟨ge, 0, none⟩) le ke _).mono ?_
  rintro e x9 ⟨rfl, hb⟩
  replace V0 := Va.after hb V0
  replace V1 := Va.after hb V1
  replace Vn := Va.after hb Vn
  replace Ve := Va.after hb Ve
  replace h := Ri.after hb h
  replace hn := Nt.after hb hn
  replace he := Nt.after hb he
  replace B0 := step B0 hb
  clear hb
  rw [d3]
  try go_wp2_with fail
  refine hK.out _ _ ⟨V0.d0, V0.d1, V0.d2, Vn.cell, Ve.cell⟩ (fun hHeld => ?_)
  clear hK K
  refine wpAnyH_take (i := 17) (v := ?_) rfl (by kernel_rfl) (by kernel_rfl) (by kernel_rfl) (fun _ _ _ h => h) (Or.inl ⟨by rfl, ?_⟩) hHeld ?_
  rotate_left
  · (intro W hSw; (try dsimp only at hSw); go_simp; all_goals (with_reducible rfl))
  simp only [List.getElem_toArray, List.getElem_cons_zero, List.getElem_cons_succ, Act.put, List.setIfInBounds_toArray, List.set_cons_zero, List.set_cons_succ]
  refine wpAnyH_done (by kernel_rfl) ?_ _
  refine NoPanic.normal ?_
  clear hHeld
  clear d1 d2 d3
  have c_V0 := V0.d0
  have f0_V0 := V0.frozen 0
  have d_V0 := V0.d1
  have f1_V0 := V0.frozen 1
  have e_V0 := V0.d2
  have f2_V0 := V0.frozen 2
  have l_V0 := V0.lt
  have m_V0 := Nat.le_of_lt l_V0
  have c_Vn := Vn.cell
  have f0_Vn := Vn.frozen 0
  have l_Vn := Vn.lt
  have m_Vn := Nat.le_of_lt l_Vn
  have c_Ve := Ve.cell
  have f0_Ve := Ve.frozen 0
  have l_Ve := Ve.lt
  have m_Ve := Nat.le_of_lt l_Ve
  go_wp2_with fail
  refine (ngcd_any (some ⟨gn, 0, none⟩) (some ⟨ge, 0, none⟩) ln kn le ke zn ze x9 hn he).mono ?_
  rintro e x10 ⟨ag, lg, kg, zg, rfl, hgc, eg, hb⟩
  replace V0 := Va.after hb V0
  replace V1 := Va.after hb V1
  replace Vn := Va.after hb Vn
  replace Ve := Va.after hb Ve
  replace h := Ri.after hb h
  replace hn := Nt.after hb hn
  replace he := Nt.after hb he
  replace B0 := step B0 hb
  clear hb
  rw [HLn.out.2, HLe.out.2] at eg
  clear c_V0 f0_V0 d_V0 f1_V0 e_V0 f2_V0 l_V0 m_V0 c_Vn f0_Vn l_Vn m_Vn c_Ve f0_Ve l_Ve m_Ve
  have c_V0 := V0.d0
  have f0_V0 := V0.frozen 0
  have d_V0 := V0.d1
  have f1_V0 := V0.frozen 1
  have e_V0 := V0.d2
  have f2_V0 := V0.frozen 2
  have l_V0 := V0.lt
  have m_V0 := Nat.le_of_lt l_V0
  have c_V1 := V1.d0
  have f0_V1 := V1.frozen 0
  have d_V1 := V1.d1
  have f1_V1 := V1.frozen 1
  have e_V1 := V1.d2
  have f2_V1 := V1.frozen 2
  have l_V1 := V1.lt
  have m_V1 := Nat.le_of_lt l_V1
  have c_Vn := Vn.cell
  have f0_Vn := Vn.frozen 0
  have l_Vn := Vn.lt
  have m_Vn := Nat.le_of_lt l_Vn
  have c_Ve := Ve.cell
  have f0_Ve := Ve.frozen 0
  have l_Ve := Ve.lt
  have m_Ve := Nat.le_of_lt l_Ve
  go_wp2_with fail
  rw [hg] at eg
  have d5 : ((ln : Int) == 0) = true := by have := HLn.out.1; have := H0.out; simp; omega
  refine (uint64_small ag lg kg zg x10 hgc (by rw [eg]; decide)).mono ?_
  rintro e x11 ⟨rfl, hb⟩
  replace V0 := Va.after hb V0
  replace V1 := Va.after hb V1
  replace Vn := Va.after hb Vn
  replace Ve := Va.after hb Ve
  replace h := Ri.after hb h
  replace hn := Nt.after hb hn
  replace he := Nt.after hb he
  replace hgc := Nt.after hb hgc
  replace B0 := step B0 hb
  clear hb
  rw [eg]
  clear eg
  clear hgc
  clear c_V0 f0_V0 d_V0 f1_V0 e_V0 f2_V0 l_V0 m_V0 c_V1 f0_V1 d_V1 f1_V1 e_V1 f2_V1 l_V1 m_V1 c_Vn f0_Vn l_Vn m_Vn c_Ve f0_Ve l_Ve m_Ve
  have c_V0 := V0.d0
  have f0_V0 := V0.frozen 0
  have d_V0 := V0.d1
  have f1_V0 := V0.frozen 1
  have e_V0 := V0.d2
  have f2_V0 := V0.frozen 2
  have l_V0 := V0.lt
  have m_V0 := Nat.le_of_lt l_V0
  have c_Vn := Vn.cell
  have f0_Vn := Vn.frozen 0
  have l_Vn := Vn.lt
  have m_Vn := Nat.le_of_lt l_Vn
  have c_Ve := Ve.cell
  have f0_Ve := Ve.frozen 0
  have l_Ve := Ve.lt
  have m_Ve := Nat.le_of_lt l_Ve
  go_wp2_with fail
  refine (isZero_any (some ⟨gn, 0, none⟩) ln kn x11).mono ?_
  rintro e x12 ⟨rfl, hb⟩
  replace V0 := Va.after hb V0
  replace V1 := Va.after hb V1
  replace Vn := Va.after hb Vn
  replace Ve := Va.after hb Ve
  replace h := Ri.after hb h
  replace hn := Nt.after hb hn
  replace he := Nt.after hb he
  replace B0 := step B0 hb
  clear hb
  rw [d5]
  clear c_V0 f0_V0 d_V0 f1_V0 e_V0 f2_V0 l_V0 m_V0 c_Vn f0_Vn l_Vn m_Vn c_Ve f0_Ve l_Ve m_Ve
  have c_V1 := V1.d0
  have f0_V1 := V1.frozen 0
  have d_V1 := V1.d1
  have f1_V1 := V1.frozen 1
  have e_V1 := V1.d2
  have f2_V1 := V1.frozen 2
  have l_V1 := V1.lt
  have m_V1 := Nat.le_of_lt l_V1
  go_wp2_with fail
  refine bodyPost_ret (results_rt rfl rfl (V1.set3 _ _ _)) rfl ?_
  exact ⟨rfl, belo3 B0 (by omega) _ _ _⟩

theorem qof_bad (s : Bool) (a : Option Addr) (l c : Nat) (zs : List Int) (b : Option Addr) (m d : Nat) (ys : List Int) (w : World) (h : Ri w a l c zs b m d ys) (hl : l ≤ 1024) (hm : m ≤ 1024) (hN : ¬ Norm s zs ys) :
    Calls Tryz.prog 15 #[.agg #[.bool s, .slice a l c, .slice b m d]] w fun e w' => e = .returned (.tuple #[.agg #[.bool false, .slice none 0 0, .slice none 0 0], .int .i64 50]) ∧ Below w.heap.size w w' := by
  have z1 := h.1.1
  have z2 := h.2.1.1
  by_cases u1 : usedN zs = l
  · by_cases u2 : usedN ys = m
    · by_cases m0 : m = 0
      · exact qof_zero s a l c zs b m d ys w h hl hm u1 u2 m0
      · by_cases g : Int.gcd (num zs) (num ys) = 1
        · by_cases sl : s = true ∧ l = 0
          · exact qof_neg s a l c zs b m d ys w h hl hm u1 u2 m0 g sl.1 sl.2
          · exact absurd ⟨by omega, by omega, by omega, fun e => sl ⟨e.1, by omega⟩, g⟩ hN
        · exact qof_gcd s a l c zs b m d ys w h hl hm u1 u2 m0 g
    · exact qof_den s a l c zs b m d ys w h hl hm u1 u2
  · exact qof_num s a l c zs b m d ys w h hl hm u1

theorem rsign5 (s : Bool) (a : Option Addr) (l c : Nat) (zs : List Int) (b : Option Addr) (m d : Nat) (ys : List Int) (v : Rat) (w : World) (h : Rr w s a l c zs b m d ys v) :
    Calls Tryz.prog 27 #[.agg #[.bool s, .slice a l c, .slice b m d]] w fun e w' => e = .returned (.int .i64 (Int.sign v.num)) ∧ Below w.heap.size w w' := by
  have hz := num_eq_zero h.1.2.1
  have z0 := num_nonneg h.1.2.1
  rw [h.2.2.1] at hz
  have hv := h.2.2.2.2.2.1
  have hs := h.2.2.2.2.2.2.2
  by_cases l0 : l = 0
  · have e1 : Int.sign v.num = 0 := by rw [← hv]; cases s <;> simp only [iv_t, iv_f, hz.2 l0] <;> rfl
    rw [e1]
    subst l0
    clear hz hv hs h e1 z0
    go_enter Tryz.func27, Tryz.ntmps27
    go_wp2_with fail
    go_ret
    exact ⟨rfl, (Below.refl _ _).alloc (Nat.le_refl _) _⟩
  · have l1 : ((l : Int) == 0) = false := by simp; omega
    have n0 : num zs ≠ 0 := fun e => l0 (hz.1 e)
    cases s
    · have e1 : Int.sign v.num = 1 := by rw [← hv, iv_f]; exact Int.sign_eq_one_of_pos (by omega)
      rw [e1]
      clear hz hv hs h e1 z0 n0 l0
      go_enter Tryz.func27, Tryz.ntmps27
      go_wp2_with fail
      go_ret
      exact ⟨rfl, (Below.refl _ _).alloc (Nat.le_refl _) _⟩
    · have e1 : Int.sign v.num = -1 := by rw [← hv, iv_t]; exact Int.sign_eq_neg_one_of_neg (by omega)
      rw [e1]
      clear hz hv hs h e1 z0 n0 l0
      go_enter Tryz.func27, Tryz.ntmps27
      go_wp2_with fail
      go_ret
      exact ⟨rfl, (Below.refl _ _).alloc (Nat.le_refl _) _⟩

end Go.Proofs.YtegfklapgbggfaaGreat
