/-
  rat.Of of a normal ratio; of.
-/
import Derived.Test.YtegfklapgbggfaaGreatRt10
namespace Go.Proofs.YtegfklapgbggfaaGreat
open Go.RowKit Go.Shelf
set_option linter.unusedVariables false

theorem marks_limbs : ∀ k, k ≤ 100 → Limbs (marks k)
  | 0, _ => Limbs.nil
  | k + 1, h => by
    rw [marks]
    refine Limbs.append (marks_limbs k (by omega)) ?_
    intro z hz
    simp at hz
    subst hz
    exact ⟨by omega, by omega⟩
theorem sl_front {w : World} {g n l : Nat} {zs ms : List Int} (h : Sl w (some ⟨g, 0, none⟩) n (zs ++ ms)) (hz : zs.length = l) : Sl w (some ⟨g, 0, none⟩) l zs := by
  obtain ⟨h1, h2, h3⟩ := h
  rw [List.length_append] at h1
  refine ⟨hz, fun z m => h2 z (List.mem_append_left _ m), fun h0 => ?_⟩
  obtain ⟨b, off, e, hc⟩ := h3 (by omega)
  refine ⟨b, off, e, fun i hi => ?_⟩
  rw [hc i (by omega), List.getD_eq_getElem?_getD, List.getD_eq_getElem?_getD, List.getElem?_append_left (by omega)]
theorem Norm.short {w : World} {s : Bool} {a b : Option Addr} {l m : Nat} {zs ys : List Int} (h1 : Sl w a l zs) (h2 : Sl w b m ys) (hl : l ≤ 1024) (hm : m ≤ 1024) {v : Rat} (hv : iv s zs = v.num) (hd : num ys = v.den) : Short v := by
  have z0 := num_nonneg h1.2.1
  have u1 := usedN_le zs
  have u2 := usedN_le ys
  have e1 : (v.num.natAbs : Int) = num zs := by rw [← hv]; cases s <;> simp only [iv_t, iv_f] <;> omega
  refine ⟨by rw [e1]; exact lt_of_used h1.2.1 (by rw [h1.1] at u1; omega), by rw [← hd]; exact lt_of_used h2.2.1 (by rw [h2.1] at u2; omega)⟩

set_option maxHeartbeats 8000000 in
theorem qof_ok (s : Bool) (a : Option Addr) (l c : Nat) (zs : List Int) (b : Option Addr) (m d : Nat) (ys : List Int) (v : Rat) (w : World) (h : Ri w a l c zs b m d ys) (hl : l ≤ 1024) (hm : m ≤ 1024) (hN : Norm s zs ys) (hv : iv s zs = v.num) (hd : num ys = v.den) :
    Calls Tryz.prog 15 #[.agg #[.bool s, .slice a l c, .slice b m d]] w fun e w' => ∃ s' a' l' c' zs' b' m' d' ds', e = .returned (.tuple #[.agg #[.bool s', .slice a' l' c', .slice b' m' d'], .int .i64 0]) ∧ Rt w' s' a' l' c' zs' b' m' d' ds' v ∧ Hid ((∀ p, a' = some p → w.heap.size ≤ p.block) ∧ (∀ p, b' = some p → w.heap.size ≤ p.block)) ∧ Below w.heap.size w w' := by
  have HS : Hid (Short v) := Norm.short h.1 h.2.1 hl hm hv hd
  have hzl := h.1.1
  have hyl := h.2.1.1
  have HN : Hid (Norm s zs ys) := hN
  have HV : Hid (iv s zs = v.num ∧ num ys = v.den) := ⟨hv, hd⟩
  have hmx : max (l : Int) (m : Int) ≤ 1024 := by omega
  have hm0 : m ≠ 0 := by have := hN.2.2.1; omega
  have hmb : ((m : Int) == 0) = false := by simp; omega
  have hll : ((l : Int) != (l : Int)) = false := by simp
  have hmm : ((m : Int) != (m : Int)) = false := by simp
  have hs0 : s = true → ((l : Int) == 0) = false := fun e => by have := hN.2.2.2.1; simp; intro e2; exact this ⟨e, by omega⟩
  clear hN hv hd
  have B0 : Below w.heap.size w w := Below.refl _ _
  go_enter Tryz.func15, Tryz.ntmps15
  go_wp2_with fail
  refine ent2 w _ _ _ _ (Q := fun W => Calls Tryz.prog _ _ W _) ?_
  intro x1 hb hs_x1 V0 V1
  replace h := Ri.after hb h
  replace B0 := step B0 hb
  clear hb hs_x1
  have sz0 := B0.size
  refine (of_ok a l c zs x1 h.1 (by omega) h.2.2.1 (by have := HN.out.1; omega)).mono ?_
  rintro e x2 ⟨gn, ln, kn, zn, rfl, hgn, hn, en, hb⟩
  replace V0 := Va.after hb V0
  replace V1 := Va.after hb V1
  replace h := Ri.after hb h
  replace B0 := step B0 hb
  clear hb
  have qn := trim_one hn.limbs h.1.2.1 (by rw [hn.2.1, hn.1.1]) (by first | exact HN.out.1 | exact HN.out.2.1) en
  subst qn
  have qln : ln = l := by have := hn.1.1; omega
  subst qln
  have c_V0 := V0.d0
  have f0_V0 := V0.frozen 0
  have d_V0 := V0.d1
  have f1_V0 := V0.frozen 1
  have e_V0 := V0.d2
  have f2_V0 := V0.frozen 2
  have l_V0 := V0.lt
  have m_V0 := Nat.le_of_lt l_V0
  go_wp2_with fail
  have la0 := V0.lt
  have la1 := V1.lt
  refine ent1 x2 _ _ (Q := fun W => Calls Tryz.prog _ _ W _) ?_
  intro x3 hb hs_x3 Vn
  replace V0 := Va.after hb V0
  replace V1 := Va.after hb V1
  replace h := Ri.after hb h
  replace hn := Nt.after hb hn
  replace B0 := step B0 hb
  clear hb hs_x3
  have sz1 := B0.size
  refine (of_ok b m d ys x3 h.2.1 (by omega) h.2.2.2 (by have := HN.out.2.1; omega)).mono ?_
  rintro e x4 ⟨ge, le, ke, ze, rfl, hge, he, ee, hb⟩
  replace V0 := Va.after hb V0
  replace V1 := Va.after hb V1
  replace Vn := Va.after hb Vn
  replace h := Ri.after hb h
  replace hn := Nt.after hb hn
  replace B0 := step B0 hb
  clear hb
  have qe := trim_one he.limbs h.2.1.2.1 (by rw [he.2.1, he.1.1]) (by first | exact HN.out.1 | exact HN.out.2.1) ee
  subst qe
  have qle : le = m := by have := he.1.1; omega
  subst qle
  clear c_V0 f0_V0 d_V0 f1_V0 e_V0 f2_V0 l_V0 m_V0
  have c_V0 := V0.d0
  have f0_V0 := V0.frozen 0
  have d_V0 := V0.d1
  have f1_V0 := V0.frozen 1
  have e_V0 := V0.d2
  have f2_V0 := V0.frozen 2
  have l_V0 := V0.lt
  have m_V0 := Nat.le_of_lt l_V0
  have c_Vn := Vn.cell
  have f0_Vn := Vn.frozen 0
  have l_Vn := Vn.lt
  have m_Vn := Nat.le_of_lt l_Vn
  go_wp2_with fail
  have lb0 := V0.lt
  have lb1 := V1.lt
  have lb2 := Vn.lt
  refine ent1 x4 _ _ (Q := fun W => Code.wp Tryz.prog _ _ _ W) ?_
  intro x5 hb hs_x5 Ve
  replace V0 := Va.after hb V0
  replace V1 := Va.after hb V1
  replace Vn := Va.after hb Vn
  replace h := Ri.after hb h
  replace hn := Nt.after hb hn
  replace he := Nt.after hb he
  replace B0 := step B0 hb
  clear hb hs_x5
  have HG : Hid (w.heap.size ≤ gn ∧ w.heap.size ≤ ge) := ⟨by omega, by omega⟩
  clear hgn hge sz0 sz1
  clear c_V0 f0_V0 d_V0 f1_V0 e_V0 f2_V0 l_V0 m_V0 c_Vn f0_Vn l_Vn m_Vn
  refine wp_region_noPanic ?_
  replace V0 : Va x5.drew _ _ _ := V0
  replace V1 : Va x5.drew _ _ _ := V1
  replace Vn : Va x5.drew _ _ _ := Vn
  replace Ve : Va x5.drew _ _ _ := Ve
  replace h := h.drw
  replace hn := hn.drw
  replace he := he.drw
  replace B0 := Below.drew B0
  refine wp_region_held_drew (S := (fun W => W.cell? ⟨w.heap.size, 0, none⟩ = some (.bool s) ∧ W.cell? ⟨w.heap.size, 1, none⟩ = some (.slice a ln c) ∧ W.cell? ⟨w.heap.size, 2, none⟩ = some (.slice b le d) ∧ W.cell? ⟨x2.heap.size, 0, none⟩ = some (.slice (some ⟨gn, 0, none⟩) ln kn) ∧ W.cell? ⟨x4.heap.size, 0, none⟩ = some (.slice (some ⟨ge, 0, none⟩) le ke))) (by kernel_rfl) ⟨V0.d0, V0.d1, V0.d2, Vn.cell, Ve.cell⟩ (fun hHeld => ?_)
  obtain ⟨x6, hxd⟩ : ∃ xd, xd = x5.drew := ⟨_, rfl⟩
  rw [← hxd] at V0 V1 Vn Ve h hn he B0 hHeld ⊢
  clear hxd
  refine wpAnyH_take (i := 0) (v := ?_) rfl (by kernel_rfl) (by kernel_rfl) (by kernel_rfl) (fun _ _ _ h => h) (Or.inl ⟨by rfl, ?_⟩) hHeld ?_
  rotate_left
  · (intro W hSw; (try dsimp only at hSw); go_simp; all_goals (with_reducible rfl))
  simp only [List.getElem_toArray, List.getElem_cons_zero, Act.put, List.setIfInBounds_toArray, List.set_cons_zero, List.set_cons_succ]
  refine wpAnyH_take (i := 2) (v := ?_) rfl (by kernel_rfl) (by kernel_rfl) (by kernel_rfl) (fun _ _ _ h => h) (Or.inl ⟨by rfl, ?_⟩) hHeld ?_
  rotate_left
  · (intro W hSw; (try dsimp only at hSw); go_simp; all_goals (with_reducible rfl))
  simp only [List.getElem_toArray, List.getElem_cons_zero, List.getElem_cons_succ, Act.put, List.setIfInBounds_toArray, List.set_cons_zero, List.set_cons_succ]
  refine wpAnyH_take (i := 3) (v := ?_) rfl (by kernel_rfl) (by kernel_rfl) (by kernel_rfl) (fun _ _ _ h => h) (Or.inl ⟨by rfl, ?_⟩) hHeld ?_
  rotate_left
  · (intro W hSw; (try dsimp only at hSw); go_simp; all_goals (with_reducible rfl))
  simp only [List.getElem_toArray, List.getElem_cons_zero, List.getElem_cons_succ, Act.put, List.setIfInBounds_toArray, List.set_cons_zero, List.set_cons_succ]
  refine wpAnyH_take (i := 4) (v := ?_) rfl (by kernel_rfl) (by kernel_rfl) (by kernel_rfl) (fun _ _ _ h => h) (Or.inl ⟨by rfl, ?_⟩) hHeld ?_
  rotate_left
  · (intro W hSw; (try dsimp only at hSw); go_simp; all_goals (with_reducible rfl))
  simp only [List.getElem_toArray, List.getElem_cons_zero, List.getElem_cons_succ, Act.put, List.setIfInBounds_toArray, List.set_cons_zero, List.set_cons_succ]
  refine wpAnyH_ready (rs := [1]) (by kernel_rfl) (by simp) ?_
  refine AllReadyH.cons rfl (fun K hK => ?_) AllReadyH.nil
  simp only [List.getElem_toArray, List.getElem_cons_zero, List.getElem_cons_succ]
  go_simp
  refine (qlimbs_any (some ⟨gn, 0, none⟩) ln kn zn _ hn).mono ?_
  rintro e x7 ⟨rfl, hb⟩
  replace V0 := Va.after hb V0
  replace V1 := Va.after hb V1
  replace Vn := Va.after hb Vn
  replace Ve := Va.after hb Ve
  replace h := Ri.after hb h
  replace hn := Nt.after hb hn
  replace he := Nt.after hb he
  replace B0 := step B0 hb
  clear hb
  try go_wp2_with fail
  refine hK.out _ _ ⟨V0.d0, V0.d1, V0.d2, Vn.cell, Ve.cell⟩ (fun hHeld => ?_)
  clear hK K
  refine wpAnyH_take (i := 5) (v := .bool false) rfl (by kernel_rfl) (by kernel_rfl) (by kernel_rfl) (fun _ _ _ h => h) (Or.inl ⟨by rfl, ?_⟩) hHeld ?_
  · (intro W hSw; (try dsimp only at hSw); go_simp; first | (rw [hll]) | skip)
  simp only [List.getElem_toArray, List.getElem_cons_zero, List.getElem_cons_succ, Act.put, List.setIfInBounds_toArray, List.set_cons_zero, List.set_cons_succ]
  refine wpAnyH_take (i := 6) (v := ?_) rfl (by kernel_rfl) (by kernel_rfl) (by kernel_rfl) (fun _ _ _ h => h) (Or.inl ⟨by rfl, ?_⟩) hHeld ?_
  rotate_left
  · (intro W hSw; (try dsimp only at hSw); go_simp; all_goals (with_reducible rfl))
  simp only [List.getElem_toArray, List.getElem_cons_zero, List.getElem_cons_succ, Act.put, List.setIfInBounds_toArray, List.set_cons_zero, List.set_cons_succ]
  refine wpAnyH_take (i := 7) (v := ?_) rfl (by kernel_rfl) (by kernel_rfl) (by kernel_rfl) (fun _ _ _ h => h) (Or.inl ⟨by rfl, ?_⟩) hHeld ?_
  rotate_left
  · (intro W hSw; (try dsimp only at hSw); go_simp; all_goals (with_reducible rfl))
  simp only [List.getElem_toArray, List.getElem_cons_zero, List.getElem_cons_succ, Act.put, List.setIfInBounds_toArray, List.set_cons_zero, List.set_cons_succ]
  refine wpAnyH_take (i := 9) (v := ?_) rfl (by kernel_rfl) (by kernel_rfl) (by kernel_rfl) (fun _ _ _ h => h) (Or.inl ⟨by rfl, ?_⟩) hHeld ?_
  rotate_left
  · (intro W hSw; (try dsimp only at hSw); go_simp; all_goals (with_reducible rfl))
  simp only [List.getElem_toArray, List.getElem_cons_zero, List.getElem_cons_succ, Act.put, List.setIfInBounds_toArray, List.set_cons_zero, List.set_cons_succ]
  refine wpAnyH_take (i := 10) (v := ?_) rfl (by kernel_rfl) (by kernel_rfl) (by kernel_rfl) (fun _ _ _ h => h) (Or.inl ⟨by rfl, ?_⟩) hHeld ?_
  rotate_left
  · (intro W hSw; (try dsimp only at hSw); go_simp; all_goals (with_reducible rfl))
  simp only [List.getElem_toArray, List.getElem_cons_zero, List.getElem_cons_succ, Act.put, List.setIfInBounds_toArray, List.set_cons_zero, List.set_cons_succ]
  refine wpAnyH_take (i := 11) (v := ?_) rfl (by kernel_rfl) (by kernel_rfl) (by kernel_rfl) (fun _ _ _ h => h) (Or.inl ⟨by rfl, ?_⟩) hHeld ?_
  rotate_left
  · (intro W hSw; (try dsimp only at hSw); go_simp; all_goals (with_reducible rfl))
  simp only [List.getElem_toArray, List.getElem_cons_zero, List.getElem_cons_succ, Act.put, List.setIfInBounds_toArray, List.set_cons_zero, List.set_cons_succ]
  refine wpAnyH_ready (rs := [8]) (by kernel_rfl) (by simp) ?_
  refine AllReadyH.cons rfl (fun K hK => ?_) AllReadyH.nil
  simp only [List.getElem_toArray, List.getElem_cons_zero, List.getElem_cons_succ]
  go_simp
  refine (qlimbs_any (some ⟨ge, 0, none⟩) le ke ze _ he).mono ?_
  rintro e x8 ⟨rfl, hb⟩
  replace V0 := Va.after hb V0
  replace V1 := Va.after hb V1
  replace Vn := Va.after hb Vn
  replace Ve := Va.after hb Ve
  replace h := Ri.after hb h
  replace hn := Nt.after hb hn
  replace he := Nt.after hb he
  replace B0 := step B0 hb
  clear hb
  try go_wp2_with fail
  refine hK.out _ _ ⟨V0.d0, V0.d1, V0.d2, Vn.cell, Ve.cell⟩ (fun hHeld => ?_)
  clear hK K
  refine wpAnyH_take (i := 12) (v := .bool false) rfl (by kernel_rfl) (by kernel_rfl) (by kernel_rfl) (fun _ _ _ h => h) (Or.inl ⟨by rfl, ?_⟩) hHeld ?_
  · (intro W hSw; (try dsimp only at hSw); go_simp; first | (rw [hmm]) | skip)
  simp only [List.getElem_toArray, List.getElem_cons_zero, List.getElem_cons_succ, Act.put, List.setIfInBounds_toArray, List.set_cons_zero, List.set_cons_succ]
  refine wpAnyH_take (i := 13) (v := ?_) rfl (by kernel_rfl) (by kernel_rfl) (by kernel_rfl) (fun _ _ _ h => h) (Or.inl ⟨by rfl, ?_⟩) hHeld ?_
  rotate_left
  · (intro W hSw; (try dsimp only at hSw); go_simp; all_goals (with_reducible rfl))
  simp only [List.getElem_toArray, List.getElem_cons_zero, List.getElem_cons_succ, Act.put, List.setIfInBounds_toArray, List.set_cons_zero, List.set_cons_succ]
  refine wpAnyH_take (i := 14) (v := ?_) rfl (by kernel_rfl) (by kernel_rfl) (by kernel_rfl) (fun _ _ _ h => h) (Or.inl ⟨by rfl, ?_⟩) hHeld ?_
  rotate_left
  · (intro W hSw; (try dsimp only at hSw); go_simp; all_goals (with_reducible rfl))
  simp only [List.getElem_toArray, List.getElem_cons_zero, List.getElem_cons_succ, Act.put, List.setIfInBounds_toArray, List.set_cons_zero, List.set_cons_succ]
  refine wpAnyH_take (i := 15) (v := ?_) rfl (by kernel_rfl) (by kernel_rfl) (by kernel_rfl) (fun _ _ _ h => h) (Or.inl ⟨by rfl, ?_⟩) hHeld ?_
  rotate_left
  · (intro W hSw; (try dsimp only at hSw); go_simp; all_goals (with_reducible rfl))
  simp only [List.getElem_toArray, List.getElem_cons_zero, List.getElem_cons_succ, Act.put, List.setIfInBounds_toArray, List.set_cons_zero, List.set_cons_succ]
  refine wpAnyH_ready (rs := [16]) (by kernel_rfl) (by simp) ?_
  refine AllReadyH.cons rfl (fun K hK => ?_) AllReadyH.nil
  simp only [List.getElem_toArray, List.getElem_cons_zero, List.getElem_cons_succ]
  go_simp
  refine (isZero_any (some ⟨ge, 0, none⟩) le ke _).mono ?_
  rintro e x9 ⟨rfl, hb⟩
  replace V0 := Va.after hb V0
  replace V1 := Va.after hb V1
  replace Vn := Va.after hb Vn
  replace Ve := Va.after hb Ve
  replace h := Ri.after hb h
  replace hn := Nt.after hb hn
  replace he := Nt.after hb he
  replace B0 := step B0 hb
  clear hb
  rw [hmb]
  try go_wp2_with fail
  refine hK.out _ _ ⟨V0.d0, V0.d1, V0.d2, Vn.cell, Ve.cell⟩ (fun hHeld => ?_)
  clear hK K
  refine wpAnyH_take (i := 17) (v := ?_) rfl (by kernel_rfl) (by kernel_rfl) (by kernel_rfl) (fun _ _ _ h => h) (Or.inl ⟨by rfl, ?_⟩) hHeld ?_
  rotate_left
  · (intro W hSw; (try dsimp only at hSw); go_simp; all_goals (with_reducible rfl))
  simp only [List.getElem_toArray, List.getElem_cons_zero, List.getElem_cons_succ, Act.put, List.setIfInBounds_toArray, List.set_cons_zero, List.set_cons_succ]
  refine wpAnyH_done (by kernel_rfl) ?_ _
  refine NoPanic.normal ?_
  clear hHeld
  have c_V0 := V0.d0
  have f0_V0 := V0.frozen 0
  have d_V0 := V0.d1
  have f1_V0 := V0.frozen 1
  have e_V0 := V0.d2
  have f2_V0 := V0.frozen 2
  have l_V0 := V0.lt
  have m_V0 := Nat.le_of_lt l_V0
  have c_Vn := Vn.cell
  have f0_Vn := Vn.frozen 0
  have l_Vn := Vn.lt
  have m_Vn := Nat.le_of_lt l_Vn
  have c_Ve := Ve.cell
  have f0_Ve := Ve.frozen 0
  have l_Ve := Ve.lt
  have m_Ve := Nat.le_of_lt l_Ve
  go_wp2_with fail
  refine (ngcd_any (some ⟨gn, 0, none⟩) (some ⟨ge, 0, none⟩) ln kn le ke zn ze x9 hn he).mono ?_
  rintro e x10 ⟨ag, lg, kg, zg, rfl, hg, eg, hb⟩
  replace V0 := Va.after hb V0
  replace V1 := Va.after hb V1
  replace Vn := Va.after hb Vn
  replace Ve := Va.after hb Ve
  replace h := Ri.after hb h
  replace hn := Nt.after hb hn
  replace he := Nt.after hb he
  replace B0 := step B0 hb
  clear hb
  rw [HN.out.2.2.2.2] at eg
  clear c_V0 f0_V0 d_V0 f1_V0 e_V0 f2_V0 l_V0 m_V0 c_Vn f0_Vn l_Vn m_Vn c_Ve f0_Ve l_Ve m_Ve
  have c_V0 := V0.d0
  have f0_V0 := V0.frozen 0
  have d_V0 := V0.d1
  have f1_V0 := V0.frozen 1
  have e_V0 := V0.d2
  have f2_V0 := V0.frozen 2
  have l_V0 := V0.lt
  have m_V0 := Nat.le_of_lt l_V0
  have c_V1 := V1.d0
  have f0_V1 := V1.frozen 0
  have d_V1 := V1.d1
  have f1_V1 := V1.frozen 1
  have e_V1 := V1.d2
  have f2_V1 := V1.frozen 2
  have l_V1 := V1.lt
  have m_V1 := Nat.le_of_lt l_V1
  have c_Vn := Vn.cell
  have f0_Vn := Vn.frozen 0
  have l_Vn := Vn.lt
  have m_Vn := Nat.le_of_lt l_Vn
  have c_Ve := Ve.cell
  have f0_Ve := Ve.frozen 0
  have l_Ve := Ve.lt
  have m_Ve := Nat.le_of_lt l_Ve
  go_wp2_with fail
  refine (uint64_small ag lg kg zg x10 hg (by rw [eg]; decide)).mono ?_
  rintro e x11 ⟨rfl, hb⟩
  replace V0 := Va.after hb V0
  replace V1 := Va.after hb V1
  replace Vn := Va.after hb Vn
  replace Ve := Va.after hb Ve
  replace h := Ri.after hb h
  replace hn := Nt.after hb hn
  replace he := Nt.after hb he
  replace hg := Nt.after hb hg
  replace B0 := step B0 hb
  clear hb
  rw [eg]
  clear eg
  clear hg
  cases s
  ·
    clear c_V0 f0_V0 d_V0 f1_V0 e_V0 f2_V0 l_V0 m_V0 c_V1 f0_V1 d_V1 f1_V1 e_V1 f2_V1 l_V1 m_V1 c_Vn f0_Vn l_Vn m_Vn c_Ve f0_Ve l_Ve m_Ve
    have c_V0 := V0.d0
    have f0_V0 := V0.frozen 0
    have d_V0 := V0.d1
    have f1_V0 := V0.frozen 1
    have e_V0 := V0.d2
    have f2_V0 := V0.frozen 2
    have l_V0 := V0.lt
    have m_V0 := Nat.le_of_lt l_V0
    have c_Vn := Vn.cell
    have f0_Vn := Vn.frozen 0
    have l_Vn := Vn.lt
    have m_Vn := Nat.le_of_lt l_Vn
    have c_Ve := Ve.cell
    have f0_Ve := Ve.frozen 0
    have l_Ve := Ve.lt
    have m_Ve := Nat.le_of_lt l_Ve
    go_wp2_with fail
    clear c_V0 f0_V0 d_V0 f1_V0 e_V0 f2_V0 l_V0 m_V0 c_Vn f0_Vn l_Vn m_Vn c_Ve f0_Ve l_Ve m_Ve
    refine wp_region_noPanic ?_
    replace V0 : Va x11.drew _ _ _ := V0
    replace V1 : Va x11.drew _ _ _ := V1
    replace Vn : Va x11.drew _ _ _ := Vn
    replace Ve : Va x11.drew _ _ _ := Ve
    replace h := h.drw
    replace hn := hn.drw
    replace he := he.drw
    replace B0 := Below.drew B0
    refine wp_region_held_drew (S := (fun W => W.cell? ⟨w.heap.size, 0, none⟩ = some (.bool false) ∧ W.cell? ⟨w.heap.size, 1, none⟩ = some (.slice a ln c) ∧ W.cell? ⟨w.heap.size, 2, none⟩ = some (.slice b le d) ∧ W.cell? ⟨x2.heap.size, 0, none⟩ = some (.slice (some ⟨gn, 0, none⟩) ln kn) ∧ W.cell? ⟨x4.heap.size, 0, none⟩ = some (.slice (some ⟨ge, 0, none⟩) le ke))) (by kernel_rfl) ⟨V0.d0, V0.d1, V0.d2, Vn.cell, Ve.cell⟩ (fun hHeld => ?_)
    obtain ⟨x12, hxd⟩ : ∃ xd, xd = x11.drew := ⟨_, rfl⟩
    rw [← hxd] at V0 V1 Vn Ve h hn he B0 hHeld ⊢
    clear hxd
    refine wpAnyH_take (i := 0) (v := ?_) rfl (by kernel_rfl) (by kernel_rfl) (by kernel_rfl) (fun _ _ _ h => h) (Or.inl ⟨by rfl, ?_⟩) hHeld ?_
    rotate_left
    · (intro W hSw; (try dsimp only at hSw); go_simp; all_goals (with_reducible rfl))
    simp only [List.getElem_toArray, List.getElem_cons_zero, Act.put, List.setIfInBounds_toArray, List.set_cons_zero, List.set_cons_succ]
    refine wpAnyH_take (i := 1) (v := ?_) rfl (by kernel_rfl) (by kernel_rfl) (by kernel_rfl) (fun _ _ _ h => h) (Or.inl ⟨by rfl, ?_⟩) hHeld ?_
    rotate_left
    · (intro W hSw; (try dsimp only at hSw); go_simp; all_goals (with_reducible rfl))
    simp only [List.getElem_toArray, List.getElem_cons_zero, List.getElem_cons_succ, Act.put, List.setIfInBounds_toArray, List.set_cons_zero, List.set_cons_succ]
    refine wpAnyH_take (i := 2) (v := ?_) rfl (by kernel_rfl) (by kernel_rfl) (by kernel_rfl) (fun _ _ _ h => h) (Or.inl ⟨by rfl, ?_⟩) hHeld ?_
    rotate_left
    · (intro W hSw; (try dsimp only at hSw); go_simp; all_goals (with_reducible rfl))
    simp only [List.getElem_toArray, List.getElem_cons_zero, List.getElem_cons_succ, Act.put, List.setIfInBounds_toArray, List.set_cons_zero, List.set_cons_succ]
    refine wpAnyH_take (i := 4) (v := ?_) rfl (by kernel_rfl) (by kernel_rfl) (by kernel_rfl) (fun _ _ _ h => h) (Or.inl ⟨by rfl, ?_⟩) hHeld ?_
    rotate_left
    · (intro W hSw; (try dsimp only at hSw); go_simp; all_goals (with_reducible rfl))
    simp only [List.getElem_toArray, List.getElem_cons_zero, List.getElem_cons_succ, Act.put, List.setIfInBounds_toArray, List.set_cons_zero, List.set_cons_succ]
    refine wpAnyH_ready (rs := [3]) (by kernel_rfl) (by simp) ?_
    refine AllReadyH.cons rfl (fun K hK => ?_) AllReadyH.nil
    simp only [List.getElem_toArray, List.getElem_cons_zero, List.getElem_cons_succ]
    go_simp
    refine (wnew_any false (some ⟨gn, 0, none⟩) ln kn zn _ hn).mono ?_
    rintro e x13 ⟨s2, rfl, h2, e2, hb⟩
    replace V0 := Va.after hb V0
    replace V1 := Va.after hb V1
    replace Vn := Va.after hb Vn
    replace Ve := Va.after hb Ve
    replace h := Ri.after hb h
    replace hn := Nt.after hb hn
    replace he := Nt.after hb he
    replace B0 := step B0 hb
    clear hb
    try go_wp2_with fail
    refine hK.out _ _ ⟨V0.d0, V0.d1, V0.d2, Vn.cell, Ve.cell⟩ (fun hHeld => ?_)
    clear hK K
    refine wpAnyH_ready (rs := [5]) (by kernel_rfl) (by simp) ?_
    refine AllReadyH.cons rfl (fun K hK => ?_) AllReadyH.nil
    simp only [List.getElem_toArray, List.getElem_cons_zero, List.getElem_cons_succ]
    go_simp
    refine (rmade_ok s2 (some ⟨gn, 0, none⟩) ln kn zn (some ⟨ge, 0, none⟩) le ke ze v _ h2 he (by rw [e2]; exact HV.out.1) (by unfold dn; rw [HV.out.2, if_neg (by have := v.den_pos; omega)]) HS.out).mono ?_
    rintro e x14 ⟨rfl, h3, hb⟩
    replace V0 := Va.after hb V0
    replace V1 := Va.after hb V1
    replace Vn := Va.after hb Vn
    replace Ve := Va.after hb Ve
    replace h := Ri.after hb h
    replace hn := Nt.after hb hn
    replace he := Nt.after hb he
    replace h2 := It.after hb h2
    replace B0 := step B0 hb
    clear hb
    try go_wp2_with fail
    refine hK.out _ _ ⟨V0.d0, V0.d1, V0.d2, Vn.cell, Ve.cell⟩ (fun hHeld => ?_)
    clear hK K
    refine wpAnyH_take (i := 6) (v := ?_) rfl (by kernel_rfl) (by kernel_rfl) (by kernel_rfl) (fun _ _ _ h => h) (Or.inl ⟨by rfl, ?_⟩) hHeld ?_
    rotate_left
    · (intro W hSw; (try dsimp only at hSw); go_simp; all_goals (with_reducible rfl))
    simp only [List.getElem_toArray, List.getElem_cons_zero, List.getElem_cons_succ, Act.put, List.setIfInBounds_toArray, List.set_cons_zero, List.set_cons_succ]
    refine wpAnyH_take (i := 7) (v := ?_) rfl (by kernel_rfl) (by kernel_rfl) (by kernel_rfl) (fun _ _ _ h => h) (Or.inl ⟨by rfl, ?_⟩) hHeld ?_
    rotate_left
    · (intro W hSw; (try dsimp only at hSw); go_simp; all_goals (with_reducible rfl))
    simp only [List.getElem_toArray, List.getElem_cons_zero, List.getElem_cons_succ, Act.put, List.setIfInBounds_toArray, List.set_cons_zero, List.set_cons_succ]
    have lv1 := V0.lt
    have lv2 := Vn.lt
    have lv3 := Ve.lt
    have c_V1 := V1.d0
    have f0_V1 := V1.frozen 0
    have d_V1 := V1.d1
    have f1_V1 := V1.frozen 1
    have e_V1 := V1.d2
    have f2_V1 := V1.frozen 2
    have l_V1 := V1.lt
    have m_V1 := Nat.le_of_lt l_V1
    refine wpAnyH_ready (rs := [8]) (by kernel_rfl) (by simp) ?_
    refine AllReadyH.cons rfl (fun K hK => ?_) AllReadyH.nil
    simp only [List.getElem_toArray, List.getElem_cons_zero, List.getElem_cons_succ]
    go_simp
    clear c_V1 f0_V1 d_V1 f1_V1 e_V1 f2_V1 l_V1 m_V1
    refine sto3 V1 (.bool s2) (.slice (some ⟨gn, 0, none⟩) ln kn) (.slice (some ⟨ge, 0, none⟩) le ke) (Q := fun W => K _ W) ?_
    intro x15 V' oth far
    replace V0 := oth _ _ _ (by first | omega | assumption | (simp; omega)) V0
    replace Vn := oth _ _ _ (by first | omega | assumption | (simp; omega)) Vn
    replace Ve := oth _ _ _ (by first | omega | assumption | (simp; omega)) Ve
    replace h := h.far V1 (noInt3 _ _ _ _ _ _ _) far.1
    replace hn := hn.far V1 (noInt3 _ _ _ _ _ _ _) far.1
    replace he := he.far V1 (noInt3 _ _ _ _ _ _ _) far.1
    replace h2 := h2.far V1 (noInt3 _ _ _ _ _ _ _) far.1
    replace h3 := h3.far V1 (noInt3 _ _ _ _ _ _ _) far.1
    replace B0 := far.2 _ _ (by first | omega | (simp; omega)) B0
    replace V1 := V'
    clear oth far
    refine hK.out _ _ ⟨V0.d0, V0.d1, V0.d2, Vn.cell, Ve.cell⟩ (fun hHeld => ?_)
    clear hK K
    refine wpAnyH_take (i := 9) (v := ?_) rfl (by kernel_rfl) (by kernel_rfl) (by kernel_rfl) (fun _ _ _ h => h) (Or.inl ⟨by rfl, ?_⟩) hHeld ?_
    rotate_left
    · (intro W hSw; (try dsimp only at hSw); go_simp; all_goals (with_reducible rfl))
    simp only [List.getElem_toArray, List.getElem_cons_zero, List.getElem_cons_succ, Act.put, List.setIfInBounds_toArray, List.set_cons_zero, List.set_cons_succ]
    refine wpAnyH_done (by kernel_rfl) ?_ _
    refine NoPanic.normal ?_
    clear hHeld
    go_wp2_with fail
    refine bodyPost_ret (results_rt rfl rfl V1) rfl ?_
    exact ⟨s2, _, _, _, _, _, _, _, _, rfl, h3, ⟨fun p hp => by cases hp; exact HG.out.1, fun p hp => by cases hp; exact HG.out.2⟩, B0⟩
  ·
    clear c_V0 f0_V0 d_V0 f1_V0 e_V0 f2_V0 l_V0 m_V0 c_V1 f0_V1 d_V1 f1_V1 e_V1 f2_V1 l_V1 m_V1 c_Vn f0_Vn l_Vn m_Vn c_Ve f0_Ve l_Ve m_Ve
    have c_V0 := V0.d0
    have f0_V0 := V0.frozen 0
    have d_V0 := V0.d1
    have f1_V0 := V0.frozen 1
    have e_V0 := V0.d2
    have f2_V0 := V0.frozen 2
    have l_V0 := V0.lt
    have m_V0 := Nat.le_of_lt l_V0
    have c_Vn := Vn.cell
    have f0_Vn := Vn.frozen 0
    have l_Vn := Vn.lt
    have m_Vn := Nat.le_of_lt l_Vn
    have c_Ve := Ve.cell
    have f0_Ve := Ve.frozen 0
    have l_Ve := Ve.lt
    have m_Ve := Nat.le_of_lt l_Ve
    go_wp2_with fail
    refine (isZero_any (some ⟨gn, 0, none⟩) ln kn x11).mono ?_
    rintro e x12 ⟨rfl, hb⟩
    replace V0 := Va.after hb V0
    replace V1 := Va.after hb V1
    replace Vn := Va.after hb Vn
    replace Ve := Va.after hb Ve
    replace h := Ri.after hb h
    replace hn := Nt.after hb hn
    replace he := Nt.after hb he
    replace B0 := step B0 hb
    clear hb
    have hz1 : ((ln : Int) == 0) = false := by have := hs0; simpa using this
    rw [hz1]
    clear c_V0 f0_V0 d_V0 f1_V0 e_V0 f2_V0 l_V0 m_V0 c_Vn f0_Vn l_Vn m_Vn c_Ve f0_Ve l_Ve m_Ve
    have c_V0 := V0.d0
    have f0_V0 := V0.frozen 0
    have d_V0 := V0.d1
    have f1_V0 := V0.frozen 1
    have e_V0 := V0.d2
    have f2_V0 := V0.frozen 2
    have l_V0 := V0.lt
    have m_V0 := Nat.le_of_lt l_V0
    have c_Vn := Vn.cell
    have f0_Vn := Vn.frozen 0
    have l_Vn := Vn.lt
    have m_Vn := Nat.le_of_lt l_Vn
    have c_Ve := Ve.cell
    have f0_Ve := Ve.frozen 0
    have l_Ve := Ve.lt
    have m_Ve := Nat.le_of_lt l_Ve
    go_wp2_with fail
    clear c_V0 f0_V0 d_V0 f1_V0 e_V0 f2_V0 l_V0 m_V0 c_Vn f0_Vn l_Vn m_Vn c_Ve f0_Ve l_Ve m_Ve
    refine wp_region_noPanic ?_
    replace V0 : Va x12.drew _ _ _ := V0
    replace V1 : Va x12.drew _ _ _ := V1
    replace Vn : Va x12.drew _ _ _ := Vn
    replace Ve : Va x12.drew _ _ _ := Ve
    replace h := h.drw
    replace hn := hn.drw
    replace he := he.drw
    replace B0 := Below.drew B0
    refine wp_region_held_drew (S := (fun W => W.cell? ⟨w.heap.size, 0, none⟩ = some (.bool true) ∧ W.cell? ⟨w.heap.size, 1, none⟩ = some (.slice a ln c) ∧ W.cell? ⟨w.heap.size, 2, none⟩ = some (.slice b le d) ∧ W.cell? ⟨x2.heap.size, 0, none⟩ = some (.slice (some ⟨gn, 0, none⟩) ln kn) ∧ W.cell? ⟨x4.heap.size, 0, none⟩ = some (.slice (some ⟨ge, 0, none⟩) le ke))) (by kernel_rfl) ⟨V0.d0, V0.d1, V0.d2, Vn.cell, Ve.cell⟩ (fun hHeld => ?_)
    obtain ⟨x13, hxd⟩ : ∃ xd, xd = x12.drew := ⟨_, rfl⟩
    rw [← hxd] at V0 V1 Vn Ve h hn he B0 hHeld ⊢
    clear hxd
    refine wpAnyH_take (i := 0) (v := ?_) rfl (by kernel_rfl) (by kernel_rfl) (by kernel_rfl) (fun _ _ _ h => h) (Or.inl ⟨by rfl, ?_⟩) hHeld ?_
    rotate_left
    · (intro W hSw; (try dsimp only at hSw); go_simp; all_goals (with_reducible rfl))
    simp only [List.getElem_toArray, List.getElem_cons_zero, Act.put, List.setIfInBounds_toArray, List.set_cons_zero, List.set_cons_succ]
    refine wpAnyH_take (i := 1) (v := ?_) rfl (by kernel_rfl) (by kernel_rfl) (by kernel_rfl) (fun _ _ _ h => h) (Or.inl ⟨by rfl, ?_⟩) hHeld ?_
    rotate_left
    · (intro W hSw; (try dsimp only at hSw); go_simp; all_goals (with_reducible rfl))
    simp only [List.getElem_toArray, List.getElem_cons_zero, List.getElem_cons_succ, Act.put, List.setIfInBounds_toArray, List.set_cons_zero, List.set_cons_succ]
    refine wpAnyH_take (i := 2) (v := ?_) rfl (by kernel_rfl) (by kernel_rfl) (by kernel_rfl) (fun _ _ _ h => h) (Or.inl ⟨by rfl, ?_⟩) hHeld ?_
    rotate_left
    · (intro W hSw; (try dsimp only at hSw); go_simp; all_goals (with_reducible rfl))
    simp only [List.getElem_toArray, List.getElem_cons_zero, List.getElem_cons_succ, Act.put, List.setIfInBounds_toArray, List.set_cons_zero, List.set_cons_succ]
    refine wpAnyH_take (i := 4) (v := ?_) rfl (by kernel_rfl) (by kernel_rfl) (by kernel_rfl) (fun _ _ _ h => h) (Or.inl ⟨by rfl, ?_⟩) hHeld ?_
    rotate_left
    · (intro W hSw; (try dsimp only at hSw); go_simp; all_goals (with_reducible rfl))
    simp only [List.getElem_toArray, List.getElem_cons_zero, List.getElem_cons_succ, Act.put, List.setIfInBounds_toArray, List.set_cons_zero, List.set_cons_succ]
    refine wpAnyH_ready (rs := [3]) (by kernel_rfl) (by simp) ?_
    refine AllReadyH.cons rfl (fun K hK => ?_) AllReadyH.nil
    simp only [List.getElem_toArray, List.getElem_cons_zero, List.getElem_cons_succ]
    go_simp
    refine (wnew_any true (some ⟨gn, 0, none⟩) ln kn zn _ hn).mono ?_
    rintro e x14 ⟨s2, rfl, h2, e2, hb⟩
    replace V0 := Va.after hb V0
    replace V1 := Va.after hb V1
    replace Vn := Va.after hb Vn
    replace Ve := Va.after hb Ve
    replace h := Ri.after hb h
    replace hn := Nt.after hb hn
    replace he := Nt.after hb he
    replace B0 := step B0 hb
    clear hb
    try go_wp2_with fail
    refine hK.out _ _ ⟨V0.d0, V0.d1, V0.d2, Vn.cell, Ve.cell⟩ (fun hHeld => ?_)
    clear hK K
    refine wpAnyH_ready (rs := [5]) (by kernel_rfl) (by simp) ?_
    refine AllReadyH.cons rfl (fun K hK => ?_) AllReadyH.nil
    simp only [List.getElem_toArray, List.getElem_cons_zero, List.getElem_cons_succ]
    go_simp
    refine (rmade_ok s2 (some ⟨gn, 0, none⟩) ln kn zn (some ⟨ge, 0, none⟩) le ke ze v _ h2 he (by rw [e2]; exact HV.out.1) (by unfold dn; rw [HV.out.2, if_neg (by have := v.den_pos; omega)]) HS.out).mono ?_
    rintro e x15 ⟨rfl, h3, hb⟩
    replace V0 := Va.after hb V0
    replace V1 := Va.after hb V1
    replace Vn := Va.after hb Vn
    replace Ve := Va.after hb Ve
    replace h := Ri.after hb h
    replace hn := Nt.after hb hn
    replace he := Nt.after hb he
    replace h2 := It.after hb h2
    replace B0 := step B0 hb
    clear hb
    try go_wp2_with fail
    refine hK.out _ _ ⟨V0.d0, V0.d1, V0.d2, Vn.cell, Ve.cell⟩ (fun hHeld => ?_)
    clear hK K
    refine wpAnyH_take (i := 6) (v := ?_) rfl (by kernel_rfl) (by kernel_rfl) (by kernel_rfl) (fun _ _ _ h => h) (Or.inl ⟨by rfl, ?_⟩) hHeld ?_
    rotate_left
    · (intro W hSw; (try dsimp only at hSw); go_simp; all_goals (with_reducible rfl))
    simp only [List.getElem_toArray, List.getElem_cons_zero, List.getElem_cons_succ, Act.put, List.setIfInBounds_toArray, List.set_cons_zero, List.set_cons_succ]
    refine wpAnyH_take (i := 7) (v := ?_) rfl (by kernel_rfl) (by kernel_rfl) (by kernel_rfl) (fun _ _ _ h => h) (Or.inl ⟨by rfl, ?_⟩) hHeld ?_
    rotate_left
    · (intro W hSw; (try dsimp only at hSw); go_simp; all_goals (with_reducible rfl))
    simp only [List.getElem_toArray, List.getElem_cons_zero, List.getElem_cons_succ, Act.put, List.setIfInBounds_toArray, List.set_cons_zero, List.set_cons_succ]
    have lv1 := V0.lt
    have lv2 := Vn.lt
    have lv3 := Ve.lt
    have c_V1 := V1.d0
    have f0_V1 := V1.frozen 0
    have d_V1 := V1.d1
    have f1_V1 := V1.frozen 1
    have e_V1 := V1.d2
    have f2_V1 := V1.frozen 2
    have l_V1 := V1.lt
    have m_V1 := Nat.le_of_lt l_V1
    refine wpAnyH_ready (rs := [8]) (by kernel_rfl) (by simp) ?_
    refine AllReadyH.cons rfl (fun K hK => ?_) AllReadyH.nil
    simp only [List.getElem_toArray, List.getElem_cons_zero, List.getElem_cons_succ]
    go_simp
    clear c_V1 f0_V1 d_V1 f1_V1 e_V1 f2_V1 l_V1 m_V1
    refine sto3 V1 (.bool s2) (.slice (some ⟨gn, 0, none⟩) ln kn) (.slice (some ⟨ge, 0, none⟩) le ke) (Q := fun W => K _ W) ?_
    intro x16 V' oth far
    replace V0 := oth _ _ _ (by first | omega | assumption | (simp; omega)) V0
    replace Vn := oth _ _ _ (by first | omega | assumption | (simp; omega)) Vn
    replace Ve := oth _ _ _ (by first | omega | assumption | (simp; omega)) Ve
    replace h := h.far V1 (noInt3 _ _ _ _ _ _ _) far.1
    replace hn := hn.far V1 (noInt3 _ _ _ _ _ _ _) far.1
    replace he := he.far V1 (noInt3 _ _ _ _ _ _ _) far.1
    replace h2 := h2.far V1 (noInt3 _ _ _ _ _ _ _) far.1
    replace h3 := h3.far V1 (noInt3 _ _ _ _ _ _ _) far.1
    replace B0 := far.2 _ _ (by first | omega | (simp; omega)) B0
    replace V1 := V'
    clear oth far
    refine hK.out _ _ ⟨V0.d0, V0.d1, V0.d2, Vn.cell, Ve.cell⟩ (fun hHeld => ?_)
    clear hK K
    refine wpAnyH_take (i := 9) (v := ?_) rfl (by kernel_rfl) (by kernel_rfl) (by kernel_rfl) (fun _ _ _ h => h) (Or.inl ⟨by rfl, ?_⟩) hHeld ?_
    rotate_left
    · (intro W hSw; (try dsimp only at hSw); go_simp; all_goals (with_reducible rfl))
    simp only [List.getElem_toArray, List.getElem_cons_zero, List.getElem_cons_succ, Act.put, List.setIfInBounds_toArray, List.set_cons_zero, List.set_cons_succ]
    refine wpAnyH_done (by kernel_rfl) ?_ _
    refine NoPanic.normal ?_
    clear hHeld
    go_wp2_with fail
    refine bodyPost_ret (results_rt rfl rfl V1) rfl ?_
    exact ⟨s2, _, _, _, _, _, _, _, _, rfl, h3, ⟨fun p hp => by cases hp; exact HG.out.1, fun p hp => by cases hp; exact HG.out.2⟩, B0⟩

end Go.Proofs.YtegfklapgbggfaaGreat
