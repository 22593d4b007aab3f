/-
  plain, of, less, odd of the statements of layer 7.
-/
import Derived.Test.YtegfklapgbggfaaGreatRl7
import Derived.Test.YtegfklapgbggfaaGreatRd3
import Derived.Test.YtegfklapgbggfaaGreatRt12
namespace Go.Proofs.YtegfklapgbggfaaGreat
open Go.RowKit Go.Shelf
set_option linter.unusedVariables false

theorem div_short {X Y : Int} (hX : (X.natAbs : Int) < pw 1024) (hY : Y < pw 1024) (h0 : 0 < Y) : Short (Rat.divInt X Y) := by
  have e : Rat.divInt X Y = mkRat X Y.natAbs := by rw [← Rat.divInt_ofNat]; congr 1; omega
  rw [e]
  exact (Sz.mk (i := 1024) (by omega) hX (by omega)).short (by omega)
theorem Sh.lt {w : World} {a : Option Addr} {l c : Nat} {zs : List Int} (h : Sh w a l c 1024 zs) : num zs < pw 1024 := lt_of_used h.1.2.1 (by rw [h.2.1]; exact h.2.2.2)
theorem Rr.len7 {w : World} {s : Bool} {a : Option Addr} {l c : Nat} {zs : List Int} {b : Option Addr} {m d : Nat} {ys : List Int} {v : Rat} (h : Rr w s a l c zs b m d ys v) (hS : Short v) : l ≤ 1024 ∧ m ≤ 1024 := by
  obtain ⟨h1, h2, h3, h4, -, h5, h6, -⟩ := h
  have p1 := num_nonneg h1.2.1
  refine ⟨?_, ?_⟩
  · have := used_of_lt (n := 1024) h1.2.1 (by
      have h7 := hS.1
      rw [← h5] at h7
      cases s
      · rw [iv_f] at h7; omega
      · rw [iv_t] at h7; omega)
    omega
  · have := used_of_lt (n := 1024) h2.2.1 (by rw [h6]; exact hS.2)
    omega
theorem Rr.norm7 {w : World} {s : Bool} {a : Option Addr} {l c : Nat} {zs : List Int} {b : Option Addr} {m d : Nat} {ys : List Int} {v : Rat} (h : Rr w s a l c zs b m d ys v) : Norm s zs ys := by
  obtain ⟨h1, h2, h3, h4, -, h5, h6, h7⟩ := h
  have p1 := num_nonneg h1.2.1
  have hd := v.den_pos
  refine ⟨by rw [h3, h1.1], by rw [h4, h2.1], ?_, ?_, ?_⟩
  · intro e
    have := (num_eq_zero h2.2.1).2 (by rw [h4, ← h2.1, e])
    omega
  · rintro ⟨e1, e2⟩
    exact h7 e1 ((num_eq_zero h1.2.1).2 (by rw [h3, ← h1.1, e2]))
  · have e1 : (num zs).natAbs = v.num.natAbs := by
      rw [← h5]
      cases s
      · rw [iv_f]
      · rw [iv_t]; omega
    have e2 : (num ys).natAbs = v.den := by omega
    unfold Int.gcd
    rw [e1, e2]
    exact v.reduced
theorem sl_one7 {w : World} {b : Nat} {t : TypeId} (V : Va w b t #[.int .u64 1]) : Sl w (some ⟨b, 0, none⟩) 1 [1] := by
  refine ⟨rfl, fun z hz => ?_, fun _ => ⟨b, 0, rfl, fun i hi => ?_⟩⟩
  · simp at hz; subst hz; exact ⟨by omega, by omega⟩
  · obtain rfl : i = 0 := by omega
    exact V.cell
/-- Lists that are not cut. -/
structure PlK (l m : Nat) (zs ys : List Int) : Prop where
  a : l ≤ 1024
  b : m ≤ 1024
  c : usedN zs ≤ 60 ∨ usedN ys ≤ 1
  d : usedN ys ≤ 60 ∨ usedN zs ≤ 1
def PlC (l m : Nat) (zs ys : List Int) (Q : Prop) : Prop := PlK l m zs ys → Q
theorem iv_num {s : Bool} {xs ys : List Int} (h : num xs = num ys) : iv s xs = iv s ys := by unfold iv; rw [h]
/-- Numerator and denominator of the ratio that is looked at. -/
structure PlQ (l1 c1 l2 c2 : Nat) (z1 z2 : List Int) : Prop where
  u1 : usedN z1 = l1
  u2 : usedN z2 = l2
  k1 : l1 ≤ c1
  k2 : l2 ≤ c2
  m1 : l1 ≤ 1024
  m2 : l2 ≤ 1024
theorem Sh.plq {w w' : World} {a b : Option Addr} {l1 c1 l2 c2 k : Nat} {z1 z2 : List Int} (h1 : Sh w a l1 c1 k z1) (h2 : Sh w' b l2 c2 k z2) (hk : k ≤ 1024) : PlQ l1 c1 l2 c2 z1 z2 := ⟨h1.2.1, h2.2.1, h1.2.2.1, h2.2.2.1, by have := h1.2.2.2; omega, by have := h2.2.2.2; omega⟩

set_option maxHeartbeats 4000000 in
set_option maxRecDepth 4000 in
theorem plain7v (s : Bool) (a : Option Addr) (l c : Nat) (zs : List Int) (b : Option Addr) (m d : Nat) (ys : List Int) (w : World) (h1 : Sl w a l zs) (h2 : Sl w b m ys) (hc : l ≤ c) (hd : m ≤ d) :
    Calls Tryz.prog 14 #[.agg #[.bool s, .slice a l c, .slice b m d]] w fun e w' => ∃ s' a' l' c' zs' b' m' d' ys' v, e = .returned (.agg #[.bool s', .slice a' l' c', .slice b' m' d']) ∧ Rr w' s' a' l' c' zs' b' m' d' ys' v ∧ Hid (Short v) ∧ Hid (PlC l m zs ys (v = Rat.divInt (iv s zs) (dn ys))) ∧ Below w.heap.size w w' := by
  have B0 : Below w.heap.size w w := Below.refl _ _
  go_enter Tryz.func14, Tryz.ntmps14
  go_wp2_with fail
  refine ent2 w _ _ _ _ (Q := fun W => Code.wp Tryz.prog _ _ _ W) ?_
  intro x1 hb hs_x1 V0 V1
  replace h1 := Sl.after hb h1
  replace h2 := Sl.after hb h2
  replace B0 := step B0 hb
  clear hb hs_x1
  refine wp_region_noPanic ?_
  replace V0 : Va x1.drew _ _ _ := V0
  replace V1 : Va x1.drew _ _ _ := V1
  replace h1 := h1.drw
  replace h2 := h2.drw
  replace B0 := Below.drew B0
  refine wp_region_held_drew (S := (fun W => W.cell? ⟨w.heap.size, 0, none⟩ = some (.bool s) ∧ W.cell? ⟨w.heap.size, 1, none⟩ = some (.slice a l c) ∧ W.cell? ⟨w.heap.size, 2, none⟩ = some (.slice b m d))) (by kernel_rfl) ⟨V0.d0, V0.d1, V0.d2⟩ (fun hHeld => ?_)
  obtain ⟨x2, hxd⟩ : ∃ xd, xd = x1.drew := ⟨_, rfl⟩
  rw [← hxd] at V0 V1 h1 h2 B0 hHeld ⊢
  clear hxd
  refine wpAnyH_take (i := 0) (v := ?_) rfl (by kernel_rfl) (by kernel_rfl) (by kernel_rfl) (fun _ _ _ h => h) (Or.inl ⟨by rfl, ?_⟩) hHeld ?_
  rotate_left
  · (intro W hSw; (try dsimp only at hSw); go_simp; all_goals (with_reducible rfl))
  simp only [List.getElem_toArray, List.getElem_cons_zero, Act.put, List.setIfInBounds_toArray, List.set_cons_zero, List.set_cons_succ]
  refine wpAnyH_take (i := 1) (v := ?_) rfl (by kernel_rfl) (by kernel_rfl) (by kernel_rfl) (fun _ _ _ h => h) (Or.inl ⟨by rfl, ?_⟩) hHeld ?_
  rotate_left
  · (intro W hSw; (try dsimp only at hSw); go_simp; all_goals (with_reducible rfl))
  simp only [List.getElem_toArray, List.getElem_cons_zero, List.getElem_cons_succ, Act.put, List.setIfInBounds_toArray, List.set_cons_zero, List.set_cons_succ]
  refine wpAnyH_take (i := 3) (v := ?_) rfl (by kernel_rfl) (by kernel_rfl) (by kernel_rfl) (fun _ _ _ h => h) (Or.inl ⟨by rfl, ?_⟩) hHeld ?_
  rotate_left
  · (intro W hSw; (try dsimp only at hSw); go_simp; all_goals (with_reducible rfl))
  simp only [List.getElem_toArray, List.getElem_cons_zero, List.getElem_cons_succ, Act.put, List.setIfInBounds_toArray, List.set_cons_zero, List.set_cons_succ]
  refine wpAnyH_take (i := 4) (v := ?_) rfl (by kernel_rfl) (by kernel_rfl) (by kernel_rfl) (fun _ _ _ h => h) (Or.inl ⟨by rfl, ?_⟩) hHeld ?_
  rotate_left
  · (intro W hSw; (try dsimp only at hSw); go_simp; all_goals (with_reducible rfl))
  simp only [List.getElem_toArray, List.getElem_cons_zero, List.getElem_cons_succ, Act.put, List.setIfInBounds_toArray, List.set_cons_zero, List.set_cons_succ]
  refine wpAnyH_ready (rs := [2]) (by kernel_rfl) (by simp) ?_
  refine AllReadyH.cons rfl (fun K hK => ?_) AllReadyH.nil
  simp only [List.getElem_toArray, List.getElem_cons_zero, List.getElem_cons_succ]
  go_simp
  refine (short7v a l c 1024 zs _ h1 hc (by omega)).mono ?_
  rintro e x3 ⟨a1, l1, c1, z1, rfl, g1, nn1, hb⟩
  replace V0 := Va.after hb V0
  replace V1 := Va.after hb V1
  replace h1 := Sl.after hb h1
  replace h2 := Sl.after hb h2
  replace B0 := step B0 hb
  clear hb
  try go_wp2_with fail
  refine hK.out _ _ ⟨V0.d0, V0.d1, V0.d2⟩ (fun hHeld => ?_)
  clear hK K
  refine wpAnyH_ready (rs := [5]) (by kernel_rfl) (by simp) ?_
  refine AllReadyH.cons rfl (fun K hK => ?_) AllReadyH.nil
  simp only [List.getElem_toArray, List.getElem_cons_zero, List.getElem_cons_succ]
  go_simp
  refine (short7v b m d 1024 ys _ h2 hd (by omega)).mono ?_
  rintro e x4 ⟨a2, l2, c2, z2, rfl, g2, nn2, hb⟩
  replace V0 := Va.after hb V0
  replace V1 := Va.after hb V1
  replace h1 := Sl.after hb h1
  replace h2 := Sl.after hb h2
  replace g1 := Sh.after hb g1
  replace B0 := step B0 hb
  clear hb
  try go_wp2_with fail
  refine hK.out _ _ ⟨V0.d0, V0.d1, V0.d2⟩ (fun hHeld => ?_)
  clear hK K
  refine wpAnyH_take (i := 6) (v := ?_) rfl (by kernel_rfl) (by kernel_rfl) (by kernel_rfl) (fun _ _ _ h => h) (Or.inl ⟨by rfl, ?_⟩) hHeld ?_
  rotate_left
  · (intro W hSw; (try dsimp only at hSw); go_simp; all_goals (with_reducible rfl))
  simp only [List.getElem_toArray, List.getElem_cons_zero, List.getElem_cons_succ, Act.put, List.setIfInBounds_toArray, List.set_cons_zero, List.set_cons_succ]
  refine wpAnyH_take (i := 7) (v := ?_) rfl (by kernel_rfl) (by kernel_rfl) (by kernel_rfl) (fun _ _ _ h => h) (Or.inl ⟨by rfl, ?_⟩) hHeld ?_
  rotate_left
  · (intro W hSw; (try dsimp only at hSw); go_simp; all_goals (with_reducible rfl))
  simp only [List.getElem_toArray, List.getElem_cons_zero, List.getElem_cons_succ, Act.put, List.setIfInBounds_toArray, List.set_cons_zero, List.set_cons_succ]
  refine wpAnyH_done (by kernel_rfl) ?_ _
  refine NoPanic.normal ?_
  clear hHeld
  clear h1 h2
  by_cases q1 : 60 < l1
  · by_cases q2 : 1 < l2
    ·
      have t0 : decide ((60 : Int) < (l1 : Int)) = true := by simp; omega
      have t1 : decide ((1 : Int) < (l2 : Int)) = true := by simp; omega
      go_wp2_with fail
      refine (short7 a1 l1 c1 60 z1 x4 g1.1 g1.2.2.1 (by omega)).mono ?_
      rintro e x5 ⟨a3, l3, c3, z3, rfl, g3, hb⟩
      replace V0 := Va.after hb V0
      replace V1 := Va.after hb V1
      replace g1 := Sh.after hb g1
      replace g2 := Sh.after hb g2
      replace B0 := step B0 hb
      clear hb
      go_wp2_with fail
      refine (short7 a2 l2 c2 60 z2 x5 g2.1 g2.2.2.1 (by omega)).mono ?_
      rintro e x6 ⟨a4, l4, c4, z4, rfl, g4, hb⟩
      replace V0 := Va.after hb V0
      replace V1 := Va.after hb V1
      replace g1 := Sh.after hb g1
      replace g2 := Sh.after hb g2
      replace g3 := Sh.after hb g3
      replace B0 := step B0 hb
      clear hb
      have h3 := g3.1
      have h4 := g4.1
      have HQ : Hid (PlQ l3 c3 l4 c4 z3 z4) := g3.plq g4 (by omega)
      clear t0 t1
      clear g1 g2 g3 g4
      by_cases q : l4 = 0
      ·
        subst q
        have c_V0 := V0.d0
        have f0_V0 := V0.frozen 0
        have d_V0 := V0.d1
        have f1_V0 := V0.frozen 1
        have e_V0 := V0.d2
        have f2_V0 := V0.frozen 2
        have l_V0 := V0.lt
        have m_V0 := Nat.le_of_lt l_V0
        go_wp2_with fail
        refine ent1 x6 _ _ (Q := fun W => Calls Tryz.prog _ _ W _) ?_
        intro x7 hb hs_x7 Vd
        replace V0 := Va.after hb V0
        replace V1 := Va.after hb V1
        replace h3 := Sl.after hb h3
        replace h4 := Sl.after hb h4
        replace B0 := step B0 hb
        clear hb hs_x7
        have hd1 : Sl x7 (some ⟨x6.heap.size, 0, none⟩) 1 [1] := sl_one7 Vd
        refine (rmake5 s a3 (some ⟨x6.heap.size, 0, none⟩) l3 c3 1 1 z3 [1] x7 h3 hd1 HQ.out.k1 (by omega) (by have := HQ.out.m1; omega) (by omega) (by rw [HQ.out.u1]; have := HQ.out.m1; omega) (by decide) (by decide)).mono ?_
        rintro e x8 ⟨s5, a5, l5, c5, z5, b5, m5, d5, y5, rfl, h5, -, -, hb⟩
        replace V0 := Va.after hb V0
        replace V1 := Va.after hb V1
        replace Vd := Va.after hb Vd
        replace h3 := Sl.after hb h3
        replace h4 := Sl.after hb h4
        replace hd1 := Sl.after hb hd1
        replace B0 := step B0 hb
        clear hb
        clear c_V0 f0_V0 d_V0 f1_V0 e_V0 f2_V0 l_V0 m_V0
        have c_V1 := V1.d0
        have f0_V1 := V1.frozen 0
        have d_V1 := V1.d1
        have f1_V1 := V1.frozen 1
        have e_V1 := V1.d2
        have f2_V1 := V1.frozen 2
        have l_V1 := V1.lt
        have m_V1 := Nat.le_of_lt l_V1
        go_wp2_with fail
        refine bodyPost_ret (results_ra rfl rfl (V1.set3 _ _ _)) rfl ?_
        exact ⟨s5, a5, l5, c5, z5, b5, m5, d5, y5, _, rfl, h5.far V1 (noInt3 _ _ _ _ _ _ _) (fa3 _ _ _ _ _), div_short (by show ((iv s z3).natAbs : Int) < _; have h7 := lt_of_used h3.2.1 (show usedN z3 ≤ 1024 by rw [HQ.out.u1]; exact HQ.out.m1); have h8 := num_nonneg h3.2.1; cases s <;> simp only [iv_t, iv_f] <;> omega) (one_lt_pw (by omega)) (by decide), (by intro hcond; exfalso; have h5 := nn1.out hcond.a; have h6 := nn2.out hcond.b; have h7 := hcond.c; have h8 := hcond.d; omega), belo3 B0 (by omega) _ _ _⟩
      ·
        have HD : Hid (num z4 ≠ 0) := fun e => q (by rw [← HQ.out.u2]; exact (num_eq_zero h4.2.1).1 e)
        have c_V0 := V0.d0
        have f0_V0 := V0.frozen 0
        have d_V0 := V0.d1
        have f1_V0 := V0.frozen 1
        have e_V0 := V0.d2
        have f2_V0 := V0.frozen 2
        have l_V0 := V0.lt
        have m_V0 := Nat.le_of_lt l_V0
        go_wp2_with fail
        refine (rmake5 s a3 a4 l3 c3 l4 c4 z3 z4 x6 h3 h4 HQ.out.k1 HQ.out.k2 (by have := HQ.out.m1; omega) (by have := HQ.out.m2; omega) (by rw [HQ.out.u1]; have := HQ.out.m1; omega) (by rw [HQ.out.u2]; have := HQ.out.m2; omega) HD.out).mono ?_
        rintro e x7 ⟨s5, a5, l5, c5, z5, b5, m5, d5, y5, rfl, h5, -, -, hb⟩
        replace V0 := Va.after hb V0
        replace V1 := Va.after hb V1
        replace h3 := Sl.after hb h3
        replace h4 := Sl.after hb h4
        replace B0 := step B0 hb
        clear hb
        clear c_V0 f0_V0 d_V0 f1_V0 e_V0 f2_V0 l_V0 m_V0
        have c_V1 := V1.d0
        have f0_V1 := V1.frozen 0
        have d_V1 := V1.d1
        have f1_V1 := V1.frozen 1
        have e_V1 := V1.d2
        have f2_V1 := V1.frozen 2
        have l_V1 := V1.lt
        have m_V1 := Nat.le_of_lt l_V1
        go_wp2_with fail
        refine bodyPost_ret (results_ra rfl rfl (V1.set3 _ _ _)) rfl ?_
        exact ⟨s5, a5, l5, c5, z5, b5, m5, d5, y5, _, rfl, h5.far V1 (noInt3 _ _ _ _ _ _ _) (fa3 _ _ _ _ _), div_short (by show ((iv s z3).natAbs : Int) < _; have h7 := lt_of_used h3.2.1 (show usedN z3 ≤ 1024 by rw [HQ.out.u1]; exact HQ.out.m1); have h8 := num_nonneg h3.2.1; cases s <;> simp only [iv_t, iv_f] <;> omega) (lt_of_used h4.2.1 (by rw [HQ.out.u2]; exact HQ.out.m2)) (by have h9 := num_nonneg h4.2.1; have h8 := HD.out; omega), (by intro hcond; exfalso; have h5 := nn1.out hcond.a; have h6 := nn2.out hcond.b; have h7 := hcond.c; have h8 := hcond.d; omega), belo3 B0 (by omega) _ _ _⟩
    ·
      have t0 : decide ((60 : Int) < (l1 : Int)) = true := by simp; omega
      have t1 : decide ((1 : Int) < (l2 : Int)) = false := by simp; omega
      have t2 : decide ((60 : Int) < (l2 : Int)) = false := by simp; omega
      have h3 := g1.1
      have h4 := g2.1
      have HQ : Hid (PlQ l1 c1 l2 c2 z1 z2) := g1.plq g2 (by omega)
      clear g1 g2
      by_cases q : l2 = 0
      ·
        subst q
        have c_V0 := V0.d0
        have f0_V0 := V0.frozen 0
        have d_V0 := V0.d1
        have f1_V0 := V0.frozen 1
        have e_V0 := V0.d2
        have f2_V0 := V0.frozen 2
        have l_V0 := V0.lt
        have m_V0 := Nat.le_of_lt l_V0
        go_wp2_with fail
        refine ent1 x4 _ _ (Q := fun W => Calls Tryz.prog _ _ W _) ?_
        intro x5 hb hs_x5 Vd
        replace V0 := Va.after hb V0
        replace V1 := Va.after hb V1
        replace h3 := Sl.after hb h3
        replace h4 := Sl.after hb h4
        replace B0 := step B0 hb
        clear hb hs_x5
        have hd1 : Sl x5 (some ⟨x4.heap.size, 0, none⟩) 1 [1] := sl_one7 Vd
        refine (rmake5 s a1 (some ⟨x4.heap.size, 0, none⟩) l1 c1 1 1 z1 [1] x5 h3 hd1 HQ.out.k1 (by omega) (by have := HQ.out.m1; omega) (by omega) (by rw [HQ.out.u1]; have := HQ.out.m1; omega) (by decide) (by decide)).mono ?_
        rintro e x6 ⟨s5, a5, l5, c5, z5, b5, m5, d5, y5, rfl, h5, -, -, hb⟩
        replace V0 := Va.after hb V0
        replace V1 := Va.after hb V1
        replace Vd := Va.after hb Vd
        replace h3 := Sl.after hb h3
        replace h4 := Sl.after hb h4
        replace hd1 := Sl.after hb hd1
        replace B0 := step B0 hb
        clear hb
        clear c_V0 f0_V0 d_V0 f1_V0 e_V0 f2_V0 l_V0 m_V0
        have c_V1 := V1.d0
        have f0_V1 := V1.frozen 0
        have d_V1 := V1.d1
        have f1_V1 := V1.frozen 1
        have e_V1 := V1.d2
        have f2_V1 := V1.frozen 2
        have l_V1 := V1.lt
        have m_V1 := Nat.le_of_lt l_V1
        go_wp2_with fail
        refine bodyPost_ret (results_ra rfl rfl (V1.set3 _ _ _)) rfl ?_
        exact ⟨s5, a5, l5, c5, z5, b5, m5, d5, y5, _, rfl, h5.far V1 (noInt3 _ _ _ _ _ _ _) (fa3 _ _ _ _ _), div_short (by show ((iv s z1).natAbs : Int) < _; have h7 := lt_of_used h3.2.1 (show usedN z1 ≤ 1024 by rw [HQ.out.u1]; exact HQ.out.m1); have h8 := num_nonneg h3.2.1; cases s <;> simp only [iv_t, iv_f] <;> omega) (one_lt_pw (by omega)) (by decide), (by intro hcond; have h5 := nn1.out hcond.a; have h6 := nn2.out hcond.b; rw [show dn ys = 1 from if_pos (by rw [← h6.1]; exact (num_eq_zero h4.2.1).2 HQ.out.u2), iv_num h5.1]; rfl), belo3 B0 (by omega) _ _ _⟩
      ·
        have HD : Hid (num z2 ≠ 0) := fun e => q (by rw [← HQ.out.u2]; exact (num_eq_zero h4.2.1).1 e)
        have c_V0 := V0.d0
        have f0_V0 := V0.frozen 0
        have d_V0 := V0.d1
        have f1_V0 := V0.frozen 1
        have e_V0 := V0.d2
        have f2_V0 := V0.frozen 2
        have l_V0 := V0.lt
        have m_V0 := Nat.le_of_lt l_V0
        go_wp2_with fail
        refine (rmake5 s a1 a2 l1 c1 l2 c2 z1 z2 x4 h3 h4 HQ.out.k1 HQ.out.k2 (by have := HQ.out.m1; omega) (by have := HQ.out.m2; omega) (by rw [HQ.out.u1]; have := HQ.out.m1; omega) (by rw [HQ.out.u2]; have := HQ.out.m2; omega) HD.out).mono ?_
        rintro e x5 ⟨s5, a5, l5, c5, z5, b5, m5, d5, y5, rfl, h5, -, -, hb⟩
        replace V0 := Va.after hb V0
        replace V1 := Va.after hb V1
        replace h3 := Sl.after hb h3
        replace h4 := Sl.after hb h4
        replace B0 := step B0 hb
        clear hb
        clear c_V0 f0_V0 d_V0 f1_V0 e_V0 f2_V0 l_V0 m_V0
        have c_V1 := V1.d0
        have f0_V1 := V1.frozen 0
        have d_V1 := V1.d1
        have f1_V1 := V1.frozen 1
        have e_V1 := V1.d2
        have f2_V1 := V1.frozen 2
        have l_V1 := V1.lt
        have m_V1 := Nat.le_of_lt l_V1
        go_wp2_with fail
        refine bodyPost_ret (results_ra rfl rfl (V1.set3 _ _ _)) rfl ?_
        exact ⟨s5, a5, l5, c5, z5, b5, m5, d5, y5, _, rfl, h5.far V1 (noInt3 _ _ _ _ _ _ _) (fa3 _ _ _ _ _), div_short (by show ((iv s z1).natAbs : Int) < _; have h7 := lt_of_used h3.2.1 (show usedN z1 ≤ 1024 by rw [HQ.out.u1]; exact HQ.out.m1); have h8 := num_nonneg h3.2.1; cases s <;> simp only [iv_t, iv_f] <;> omega) (lt_of_used h4.2.1 (by rw [HQ.out.u2]; exact HQ.out.m2)) (by have h9 := num_nonneg h4.2.1; have h8 := HD.out; omega), (by intro hcond; have h5 := nn1.out hcond.a; have h6 := nn2.out hcond.b; rw [show dn ys = num ys from if_neg (by rw [← h6.1]; exact HD.out), ← h6.1, iv_num h5.1]), belo3 B0 (by omega) _ _ _⟩
  · by_cases q3 : 60 < l2
    · by_cases q4 : 1 < l1
      ·
        have t0 : decide ((60 : Int) < (l1 : Int)) = false := by simp; omega
        have t1 : decide ((60 : Int) < (l2 : Int)) = true := by simp; omega
        have t2 : decide ((1 : Int) < (l1 : Int)) = true := by simp; omega
        go_wp2_with fail
        refine (short7 a1 l1 c1 60 z1 x4 g1.1 g1.2.2.1 (by omega)).mono ?_
        rintro e x5 ⟨a3, l3, c3, z3, rfl, g3, hb⟩
        replace V0 := Va.after hb V0
        replace V1 := Va.after hb V1
        replace g1 := Sh.after hb g1
        replace g2 := Sh.after hb g2
        replace B0 := step B0 hb
        clear hb
        go_wp2_with fail
        refine (short7 a2 l2 c2 60 z2 x5 g2.1 g2.2.2.1 (by omega)).mono ?_
        rintro e x6 ⟨a4, l4, c4, z4, rfl, g4, hb⟩
        replace V0 := Va.after hb V0
        replace V1 := Va.after hb V1
        replace g1 := Sh.after hb g1
        replace g2 := Sh.after hb g2
        replace g3 := Sh.after hb g3
        replace B0 := step B0 hb
        clear hb
        have h3 := g3.1
        have h4 := g4.1
        have HQ : Hid (PlQ l3 c3 l4 c4 z3 z4) := g3.plq g4 (by omega)
        clear t0 t1 t2
        clear g1 g2 g3 g4
        by_cases q : l4 = 0
        ·
          subst q
          have c_V0 := V0.d0
          have f0_V0 := V0.frozen 0
          have d_V0 := V0.d1
          have f1_V0 := V0.frozen 1
          have e_V0 := V0.d2
          have f2_V0 := V0.frozen 2
          have l_V0 := V0.lt
          have m_V0 := Nat.le_of_lt l_V0
          go_wp2_with fail
          refine ent1 x6 _ _ (Q := fun W => Calls Tryz.prog _ _ W _) ?_
          intro x7 hb hs_x7 Vd
          replace V0 := Va.after hb V0
          replace V1 := Va.after hb V1
          replace h3 := Sl.after hb h3
          replace h4 := Sl.after hb h4
          replace B0 := step B0 hb
          clear hb hs_x7
          have hd1 : Sl x7 (some ⟨x6.heap.size, 0, none⟩) 1 [1] := sl_one7 Vd
          refine (rmake5 s a3 (some ⟨x6.heap.size, 0, none⟩) l3 c3 1 1 z3 [1] x7 h3 hd1 HQ.out.k1 (by omega) (by have := HQ.out.m1; omega) (by omega) (by rw [HQ.out.u1]; have := HQ.out.m1; omega) (by decide) (by decide)).mono ?_
          rintro e x8 ⟨s5, a5, l5, c5, z5, b5, m5, d5, y5, rfl, h5, -, -, hb⟩
          replace V0 := Va.after hb V0
          replace V1 := Va.after hb V1
          replace Vd := Va.after hb Vd
          replace h3 := Sl.after hb h3
          replace h4 := Sl.after hb h4
          replace hd1 := Sl.after hb hd1
          replace B0 := step B0 hb
          clear hb
          clear c_V0 f0_V0 d_V0 f1_V0 e_V0 f2_V0 l_V0 m_V0
          have c_V1 := V1.d0
          have f0_V1 := V1.frozen 0
          have d_V1 := V1.d1
          have f1_V1 := V1.frozen 1
          have e_V1 := V1.d2
          have f2_V1 := V1.frozen 2
          have l_V1 := V1.lt
          have m_V1 := Nat.le_of_lt l_V1
          go_wp2_with fail
          refine bodyPost_ret (results_ra rfl rfl (V1.set3 _ _ _)) rfl ?_
          exact ⟨s5, a5, l5, c5, z5, b5, m5, d5, y5, _, rfl, h5.far V1 (noInt3 _ _ _ _ _ _ _) (fa3 _ _ _ _ _), div_short (by show ((iv s z3).natAbs : Int) < _; have h7 := lt_of_used h3.2.1 (show usedN z3 ≤ 1024 by rw [HQ.out.u1]; exact HQ.out.m1); have h8 := num_nonneg h3.2.1; cases s <;> simp only [iv_t, iv_f] <;> omega) (one_lt_pw (by omega)) (by decide), (by intro hcond; exfalso; have h5 := nn1.out hcond.a; have h6 := nn2.out hcond.b; have h7 := hcond.c; have h8 := hcond.d; omega), belo3 B0 (by omega) _ _ _⟩
        ·
          have HD : Hid (num z4 ≠ 0) := fun e => q (by rw [← HQ.out.u2]; exact (num_eq_zero h4.2.1).1 e)
          have c_V0 := V0.d0
          have f0_V0 := V0.frozen 0
          have d_V0 := V0.d1
          have f1_V0 := V0.frozen 1
          have e_V0 := V0.d2
          have f2_V0 := V0.frozen 2
          have l_V0 := V0.lt
          have m_V0 := Nat.le_of_lt l_V0
          go_wp2_with fail
          refine (rmake5 s a3 a4 l3 c3 l4 c4 z3 z4 x6 h3 h4 HQ.out.k1 HQ.out.k2 (by have := HQ.out.m1; omega) (by have := HQ.out.m2; omega) (by rw [HQ.out.u1]; have := HQ.out.m1; omega) (by rw [HQ.out.u2]; have := HQ.out.m2; omega) HD.out).mono ?_
          rintro e x7 ⟨s5, a5, l5, c5, z5, b5, m5, d5, y5, rfl, h5, -, -, hb⟩
          replace V0 := Va.after hb V0
          replace V1 := Va.after hb V1
          replace h3 := Sl.after hb h3
          replace h4 := Sl.after hb h4
          replace B0 := step B0 hb
          clear hb
          clear c_V0 f0_V0 d_V0 f1_V0 e_V0 f2_V0 l_V0 m_V0
          have c_V1 := V1.d0
          have f0_V1 := V1.frozen 0
          have d_V1 := V1.d1
          have f1_V1 := V1.frozen 1
          have e_V1 := V1.d2
          have f2_V1 := V1.frozen 2
          have l_V1 := V1.lt
          have m_V1 := Nat.le_of_lt l_V1
          go_wp2_with fail
          refine bodyPost_ret (results_ra rfl rfl (V1.set3 _ _ _)) rfl ?_
          exact ⟨s5, a5, l5, c5, z5, b5, m5, d5, y5, _, rfl, h5.far V1 (noInt3 _ _ _ _ _ _ _) (fa3 _ _ _ _ _), div_short (by show ((iv s z3).natAbs : Int) < _; have h7 := lt_of_used h3.2.1 (show usedN z3 ≤ 1024 by rw [HQ.out.u1]; exact HQ.out.m1); have h8 := num_nonneg h3.2.1; cases s <;> simp only [iv_t, iv_f] <;> omega) (lt_of_used h4.2.1 (by rw [HQ.out.u2]; exact HQ.out.m2)) (by have h9 := num_nonneg h4.2.1; have h8 := HD.out; omega), (by intro hcond; exfalso; have h5 := nn1.out hcond.a; have h6 := nn2.out hcond.b; have h7 := hcond.c; have h8 := hcond.d; omega), belo3 B0 (by omega) _ _ _⟩
      ·
        have t0 : decide ((60 : Int) < (l1 : Int)) = false := by simp; omega
        have t1 : decide ((60 : Int) < (l2 : Int)) = true := by simp; omega
        have t2 : decide ((1 : Int) < (l1 : Int)) = false := by simp; omega
        have h3 := g1.1
        have h4 := g2.1
        have HQ : Hid (PlQ l1 c1 l2 c2 z1 z2) := g1.plq g2 (by omega)
        clear g1 g2
        by_cases q : l2 = 0
        ·
          exact absurd q (by omega)
        ·
          have HD : Hid (num z2 ≠ 0) := fun e => q (by rw [← HQ.out.u2]; exact (num_eq_zero h4.2.1).1 e)
          have c_V0 := V0.d0
          have f0_V0 := V0.frozen 0
          have d_V0 := V0.d1
          have f1_V0 := V0.frozen 1
          have e_V0 := V0.d2
          have f2_V0 := V0.frozen 2
          have l_V0 := V0.lt
          have m_V0 := Nat.le_of_lt l_V0
          go_wp2_with fail
          refine (rmake5 s a1 a2 l1 c1 l2 c2 z1 z2 x4 h3 h4 HQ.out.k1 HQ.out.k2 (by have := HQ.out.m1; omega) (by have := HQ.out.m2; omega) (by rw [HQ.out.u1]; have := HQ.out.m1; omega) (by rw [HQ.out.u2]; have := HQ.out.m2; omega) HD.out).mono ?_
          rintro e x5 ⟨s5, a5, l5, c5, z5, b5, m5, d5, y5, rfl, h5, -, -, hb⟩
          replace V0 := Va.after hb V0
          replace V1 := Va.after hb V1
          replace h3 := Sl.after hb h3
          replace h4 := Sl.after hb h4
          replace B0 := step B0 hb
          clear hb
          clear c_V0 f0_V0 d_V0 f1_V0 e_V0 f2_V0 l_V0 m_V0
          have c_V1 := V1.d0
          have f0_V1 := V1.frozen 0
          have d_V1 := V1.d1
          have f1_V1 := V1.frozen 1
          have e_V1 := V1.d2
          have f2_V1 := V1.frozen 2
          have l_V1 := V1.lt
          have m_V1 := Nat.le_of_lt l_V1
          go_wp2_with fail
          refine bodyPost_ret (results_ra rfl rfl (V1.set3 _ _ _)) rfl ?_
          exact ⟨s5, a5, l5, c5, z5, b5, m5, d5, y5, _, rfl, h5.far V1 (noInt3 _ _ _ _ _ _ _) (fa3 _ _ _ _ _), div_short (by show ((iv s z1).natAbs : Int) < _; have h7 := lt_of_used h3.2.1 (show usedN z1 ≤ 1024 by rw [HQ.out.u1]; exact HQ.out.m1); have h8 := num_nonneg h3.2.1; cases s <;> simp only [iv_t, iv_f] <;> omega) (lt_of_used h4.2.1 (by rw [HQ.out.u2]; exact HQ.out.m2)) (by have h9 := num_nonneg h4.2.1; have h8 := HD.out; omega), (by intro hcond; have h5 := nn1.out hcond.a; have h6 := nn2.out hcond.b; rw [show dn ys = num ys from if_neg (by rw [← h6.1]; exact HD.out), ← h6.1, iv_num h5.1]), belo3 B0 (by omega) _ _ _⟩
    ·
      have t0 : decide ((60 : Int) < (l1 : Int)) = false := by simp; omega
      have t1 : decide ((60 : Int) < (l2 : Int)) = false := by simp; omega
      have h3 := g1.1
      have h4 := g2.1
      have HQ : Hid (PlQ l1 c1 l2 c2 z1 z2) := g1.plq g2 (by omega)
      clear g1 g2
      by_cases q : l2 = 0
      ·
        subst q
        have c_V0 := V0.d0
        have f0_V0 := V0.frozen 0
        have d_V0 := V0.d1
        have f1_V0 := V0.frozen 1
        have e_V0 := V0.d2
        have f2_V0 := V0.frozen 2
        have l_V0 := V0.lt
        have m_V0 := Nat.le_of_lt l_V0
        go_wp2_with fail
        refine ent1 x4 _ _ (Q := fun W => Calls Tryz.prog _ _ W _) ?_
        intro x5 hb hs_x5 Vd
        replace V0 := Va.after hb V0
        replace V1 := Va.after hb V1
        replace h3 := Sl.after hb h3
        replace h4 := Sl.after hb h4
        replace B0 := step B0 hb
        clear hb hs_x5
        have hd1 : Sl x5 (some ⟨x4.heap.size, 0, none⟩) 1 [1] := sl_one7 Vd
        refine (rmake5 s a1 (some ⟨x4.heap.size, 0, none⟩) l1 c1 1 1 z1 [1] x5 h3 hd1 HQ.out.k1 (by omega) (by have := HQ.out.m1; omega) (by omega) (by rw [HQ.out.u1]; have := HQ.out.m1; omega) (by decide) (by decide)).mono ?_
        rintro e x6 ⟨s5, a5, l5, c5, z5, b5, m5, d5, y5, rfl, h5, -, -, hb⟩
        replace V0 := Va.after hb V0
        replace V1 := Va.after hb V1
        replace Vd := Va.after hb Vd
        replace h3 := Sl.after hb h3
        replace h4 := Sl.after hb h4
        replace hd1 := Sl.after hb hd1
        replace B0 := step B0 hb
        clear hb
        clear c_V0 f0_V0 d_V0 f1_V0 e_V0 f2_V0 l_V0 m_V0
        have c_V1 := V1.d0
        have f0_V1 := V1.frozen 0
        have d_V1 := V1.d1
        have f1_V1 := V1.frozen 1
        have e_V1 := V1.d2
        have f2_V1 := V1.frozen 2
        have l_V1 := V1.lt
        have m_V1 := Nat.le_of_lt l_V1
        go_wp2_with fail
        refine bodyPost_ret (results_ra rfl rfl (V1.set3 _ _ _)) rfl ?_
        exact ⟨s5, a5, l5, c5, z5, b5, m5, d5, y5, _, rfl, h5.far V1 (noInt3 _ _ _ _ _ _ _) (fa3 _ _ _ _ _), div_short (by show ((iv s z1).natAbs : Int) < _; have h7 := lt_of_used h3.2.1 (show usedN z1 ≤ 1024 by rw [HQ.out.u1]; exact HQ.out.m1); have h8 := num_nonneg h3.2.1; cases s <;> simp only [iv_t, iv_f] <;> omega) (one_lt_pw (by omega)) (by decide), (by intro hcond; have h5 := nn1.out hcond.a; have h6 := nn2.out hcond.b; rw [show dn ys = 1 from if_pos (by rw [← h6.1]; exact (num_eq_zero h4.2.1).2 HQ.out.u2), iv_num h5.1]; rfl), belo3 B0 (by omega) _ _ _⟩
      ·
        have HD : Hid (num z2 ≠ 0) := fun e => q (by rw [← HQ.out.u2]; exact (num_eq_zero h4.2.1).1 e)
        have c_V0 := V0.d0
        have f0_V0 := V0.frozen 0
        have d_V0 := V0.d1
        have f1_V0 := V0.frozen 1
        have e_V0 := V0.d2
        have f2_V0 := V0.frozen 2
        have l_V0 := V0.lt
        have m_V0 := Nat.le_of_lt l_V0
        go_wp2_with fail
        refine (rmake5 s a1 a2 l1 c1 l2 c2 z1 z2 x4 h3 h4 HQ.out.k1 HQ.out.k2 (by have := HQ.out.m1; omega) (by have := HQ.out.m2; omega) (by rw [HQ.out.u1]; have := HQ.out.m1; omega) (by rw [HQ.out.u2]; have := HQ.out.m2; omega) HD.out).mono ?_
        rintro e x5 ⟨s5, a5, l5, c5, z5, b5, m5, d5, y5, rfl, h5, -, -, hb⟩
        replace V0 := Va.after hb V0
        replace V1 := Va.after hb V1
        replace h3 := Sl.after hb h3
        replace h4 := Sl.after hb h4
        replace B0 := step B0 hb
        clear hb
        clear c_V0 f0_V0 d_V0 f1_V0 e_V0 f2_V0 l_V0 m_V0
        have c_V1 := V1.d0
        have f0_V1 := V1.frozen 0
        have d_V1 := V1.d1
        have f1_V1 := V1.frozen 1
        have e_V1 := V1.d2
        have f2_V1 := V1.frozen 2
        have l_V1 := V1.lt
        have m_V1 := Nat.le_of_lt l_V1
        go_wp2_with fail
        refine bodyPost_ret (results_ra rfl rfl (V1.set3 _ _ _)) rfl ?_
        exact ⟨s5, a5, l5, c5, z5, b5, m5, d5, y5, _, rfl, h5.far V1 (noInt3 _ _ _ _ _ _ _) (fa3 _ _ _ _ _), div_short (by show ((iv s z1).natAbs : Int) < _; have h7 := lt_of_used h3.2.1 (show usedN z1 ≤ 1024 by rw [HQ.out.u1]; exact HQ.out.m1); have h8 := num_nonneg h3.2.1; cases s <;> simp only [iv_t, iv_f] <;> omega) (lt_of_used h4.2.1 (by rw [HQ.out.u2]; exact HQ.out.m2)) (by have h9 := num_nonneg h4.2.1; have h8 := HD.out; omega), (by intro hcond; have h5 := nn1.out hcond.a; have h6 := nn2.out hcond.b; rw [show dn ys = num ys from if_neg (by rw [← h6.1]; exact HD.out), ← h6.1, iv_num h5.1]), belo3 B0 (by omega) _ _ _⟩

set_option maxHeartbeats 4000000 in
theorem of7v (s : Bool) (a : Option Addr) (l c : Nat) (zs : List Int) (b : Option Addr) (m d : Nat) (ys : List Int) (w : World) (h1 : Sl w a l zs) (h2 : Sl w b m ys) (hc : l ≤ c) (hd : m ≤ d) :
    Calls Tryz.prog 5 #[.agg #[.bool s, .slice a l c, .slice b m d]] w fun e w' => ∃ s2 a2 l2 c2 z2 b2 m2 d2 y2 s1 a1 l1 c1 z1 b1 m1 d1 y1 v, e = .returned (.tuple #[.agg #[.bool s2, .slice a2 l2 c2, .slice b2 m2 d2], .agg #[.bool s1, .slice a1 l1 c1, .slice b1 m1 d1], .bool true]) ∧ Rt w' s2 a2 l2 c2 z2 b2 m2 d2 y2 v ∧ Rr w' s1 a1 l1 c1 z1 b1 m1 d1 y1 v ∧ Hid (PlC l m zs ys (v = Rat.divInt (iv s zs) (dn ys))) ∧ Below w.heap.size w w' := by
  have B0 : Below w.heap.size w w := Below.refl _ _
  go_enter Tryz.func5, Tryz.ntmps5
  go_wp2_with fail
  refine ent3 w _ _ _ _ _ _ (Q := fun W => Calls Tryz.prog _ _ W _) ?_
  intro x1 hb hs_x1 V0 V1 V2
  replace h1 := Sl.after hb h1
  replace h2 := Sl.after hb h2
  replace B0 := step B0 hb
  clear hb hs_x1
  refine (plain7v s a l c zs b m d ys x1 h1 h2 hc hd).mono ?_
  rintro e x2 ⟨s1, a1, l1, c1, z1, b1, m1, d1, y1, v, rfl, hq, hS, HPC, hb⟩
  replace V0 := Va.after hb V0
  replace V1 := Va.after hb V1
  replace V2 := Va.after hb V2
  replace h1 := Sl.after hb h1
  replace h2 := Sl.after hb h2
  replace B0 := step B0 hb
  clear hb
  have HL : Hid (l1 ≤ 1024 ∧ m1 ≤ 1024) := hq.len7 hS.out
  have HN : Hid (Norm s1 z1 y1) := hq.norm7
  have lp1 := V1.lt
  have lp2 := V2.lt
  go_wp2_with fail
  clear h1 h2
  refine ent1 x2 _ _ (Q := fun W => Calls Tryz.prog _ _ W _) ?_
  intro x3 hb hs_x3 Vp
  replace V0 := Va.after hb V0
  replace V1 := Va.after hb V1
  replace V2 := Va.after hb V2
  replace hq := Rr.after hb hq
  replace B0 := step B0 hb
  clear hb hs_x3
  refine (copyr7 s1 a1 l1 c1 z1 b1 m1 d1 y1 v x3 hq (by have := HL.out.1; omega) (by have := HL.out.2; omega)).mono ?_
  rintro e x4 ⟨a3, c3, b3, d3, rfl, hk, hb⟩
  replace V0 := Va.after hb V0
  replace V1 := Va.after hb V1
  replace V2 := Va.after hb V2
  replace Vp := Va.after hb Vp
  replace hq := Rr.after hb hq
  replace B0 := step B0 hb
  clear hb
  go_wp2_with fail
  refine (qof_ok s1 a3 l1 c3 z1 b3 m1 d3 y1 v x4 ⟨hk.1, hk.2.1, hk.2.2.2.2.1.1, hk.2.2.2.2.1.2⟩ HL.out.1 HL.out.2 HN.out hk.2.2.2.2.2.1 hk.2.2.2.2.2.2.1).mono ?_
  rintro e x5 ⟨s2, a2, l2, c2, z2, b2, m2, d2, y2, rfl, hr, -, hb⟩
  replace V0 := Va.after hb V0
  replace V1 := Va.after hb V1
  replace V2 := Va.after hb V2
  replace Vp := Va.after hb Vp
  replace hq := Rr.after hb hq
  replace hk := Rr.after hb hk
  replace B0 := step B0 hb
  clear hb
  have lp3 := V1.lt
  have lp4 := V2.lt
  have lp5 := Vp.lt
  go_wp2_with fail
  clear hk
  refine ent1 x5 _ _ (Q := fun W => Code.wp Tryz.prog _ _ _ W) ?_
  intro x6 hb hs_x6 Vr
  replace V0 := Va.after hb V0
  replace V1 := Va.after hb V1
  replace V2 := Va.after hb V2
  replace Vp := Va.after hb Vp
  replace hq := Rr.after hb hq
  replace hr := Rt.after hb hr
  replace B0 := step B0 hb
  clear hb hs_x6
  refine wp_region_noPanic ?_
  replace V0 : Va x6.drew _ _ _ := V0
  replace V1 : Va x6.drew _ _ _ := V1
  replace V2 : Va x6.drew _ _ _ := V2
  replace Vp : Va x6.drew _ _ _ := Vp
  replace Vr : Va x6.drew _ _ _ := Vr
  replace hq := hq.drw
  replace hr := hr.drw
  replace B0 := Below.drew B0
  refine wp_region_held_drew (S := (fun W => W.cell? ⟨x5.heap.size, 0, none⟩ = some (.bool s2) ∧ W.cell? ⟨x5.heap.size, 1, none⟩ = some (.slice a2 l2 c2) ∧ W.cell? ⟨x5.heap.size, 2, none⟩ = some (.slice b2 m2 d2) ∧ W.cell? ⟨x2.heap.size, 0, none⟩ = some (.bool s1) ∧ W.cell? ⟨x2.heap.size, 1, none⟩ = some (.slice a1 l1 c1) ∧ W.cell? ⟨x2.heap.size, 2, none⟩ = some (.slice b1 m1 d1))) (by kernel_rfl) ⟨Vr.d0, Vr.d1, Vr.d2, Vp.d0, Vp.d1, Vp.d2⟩ (fun hHeld => ?_)
  obtain ⟨x7, hxd⟩ : ∃ xd, xd = x6.drew := ⟨_, rfl⟩
  rw [← hxd] at V0 V1 V2 Vp Vr hq hr B0 hHeld ⊢
  clear hxd
  refine wpAnyH_take (i := 0) (v := ?_) rfl (by kernel_rfl) (by kernel_rfl) (by kernel_rfl) (fun _ _ _ h => h) (Or.inl ⟨by rfl, ?_⟩) hHeld ?_
  rotate_left
  · (intro W hSw; (try dsimp only at hSw); go_simp; all_goals (with_reducible rfl))
  simp only [List.getElem_toArray, List.getElem_cons_zero, Act.put, List.setIfInBounds_toArray, List.set_cons_zero, List.set_cons_succ]
  refine wpAnyH_take (i := 1) (v := ?_) rfl (by kernel_rfl) (by kernel_rfl) (by kernel_rfl) (fun _ _ _ h => h) (Or.inl ⟨by rfl, ?_⟩) hHeld ?_
  rotate_left
  · (intro W hSw; (try dsimp only at hSw); go_simp; all_goals (with_reducible rfl))
  simp only [List.getElem_toArray, List.getElem_cons_zero, List.getElem_cons_succ, Act.put, List.setIfInBounds_toArray, List.set_cons_zero, List.set_cons_succ]
  refine wpAnyH_take (i := 2) (v := ?_) rfl (by kernel_rfl) (by kernel_rfl) (by kernel_rfl) (fun _ _ _ h => h) (Or.inl ⟨by rfl, ?_⟩) hHeld ?_
  rotate_left
  · (intro W hSw; (try dsimp only at hSw); go_simp; all_goals (with_reducible rfl))
  simp only [List.getElem_toArray, List.getElem_cons_zero, List.getElem_cons_succ, Act.put, List.setIfInBounds_toArray, List.set_cons_zero, List.set_cons_succ]
  refine wpAnyH_take (i := 3) (v := ?_) rfl (by kernel_rfl) (by kernel_rfl) (by kernel_rfl) (fun _ _ _ h => h) (Or.inl ⟨by rfl, ?_⟩) hHeld ?_
  rotate_left
  · (intro W hSw; (try dsimp only at hSw); go_simp; all_goals (with_reducible rfl))
  simp only [List.getElem_toArray, List.getElem_cons_zero, List.getElem_cons_succ, Act.put, List.setIfInBounds_toArray, List.set_cons_zero, List.set_cons_succ]
  have c_V1 := V1.d0
  have f0_V1 := V1.frozen 0
  have d_V1 := V1.d1
  have f1_V1 := V1.frozen 1
  have e_V1 := V1.d2
  have f2_V1 := V1.frozen 2
  have l_V1 := V1.lt
  have m_V1 := Nat.le_of_lt l_V1
  refine wpAnyH_ready (rs := [4]) (by kernel_rfl) (by simp) ?_
  refine AllReadyH.cons rfl (fun K hK => ?_) AllReadyH.nil
  simp only [List.getElem_toArray, List.getElem_cons_zero, List.getElem_cons_succ]
  go_simp
  clear c_V1 f0_V1 d_V1 f1_V1 e_V1 f2_V1 l_V1 m_V1
  refine sto3 V1 (.bool s2) (.slice a2 l2 c2) (.slice b2 m2 d2) (Q := fun W => K _ W) ?_
  intro x8 V' oth far
  replace V0 := oth _ _ _ (by first | omega | assumption | (simp; omega)) V0
  replace V2 := oth _ _ _ (by first | omega | assumption | (simp; omega)) V2
  replace Vp := oth _ _ _ (by first | omega | assumption | (simp; omega)) Vp
  replace Vr := oth _ _ _ (by first | omega | assumption | (simp; omega)) Vr
  replace hq := hq.far V1 (noInt3 _ _ _ _ _ _ _) far.1
  replace hr := hr.far V1 (noInt3 _ _ _ _ _ _ _) far.1
  replace B0 := far.2 _ _ (by first | omega | (simp; omega)) B0
  replace V1 := V'
  clear oth far
  refine hK.out _ _ ⟨Vr.d0, Vr.d1, Vr.d2, Vp.d0, Vp.d1, Vp.d2⟩ (fun hHeld => ?_)
  clear hK K
  have c_V2 := V2.d0
  have f0_V2 := V2.frozen 0
  have d_V2 := V2.d1
  have f1_V2 := V2.frozen 1
  have e_V2 := V2.d2
  have f2_V2 := V2.frozen 2
  have l_V2 := V2.lt
  have m_V2 := Nat.le_of_lt l_V2
  refine wpAnyH_ready (rs := [5]) (by kernel_rfl) (by simp) ?_
  refine AllReadyH.cons rfl (fun K hK => ?_) AllReadyH.nil
  simp only [List.getElem_toArray, List.getElem_cons_zero, List.getElem_cons_succ]
  go_simp
  clear c_V2 f0_V2 d_V2 f1_V2 e_V2 f2_V2 l_V2 m_V2
  refine sto3 V2 (.bool s1) (.slice a1 l1 c1) (.slice b1 m1 d1) (Q := fun W => K _ W) ?_
  intro x9 V' oth far
  replace V0 := oth _ _ _ (by first | omega | assumption | (simp; omega)) V0
  replace V1 := oth _ _ _ (by first | omega | assumption | (simp; omega)) V1
  replace Vp := oth _ _ _ (by first | omega | assumption | (simp; omega)) Vp
  replace Vr := oth _ _ _ (by first | omega | assumption | (simp; omega)) Vr
  replace hq := hq.far V2 (noInt3 _ _ _ _ _ _ _) far.1
  replace hr := hr.far V2 (noInt3 _ _ _ _ _ _ _) far.1
  replace B0 := far.2 _ _ (by first | omega | (simp; omega)) B0
  replace V2 := V'
  clear oth far
  refine hK.out _ _ ⟨Vr.d0, Vr.d1, Vr.d2, Vp.d0, Vp.d1, Vp.d2⟩ (fun hHeld => ?_)
  clear hK K
  refine wpAnyH_take (i := 6) (v := ?_) rfl (by kernel_rfl) (by kernel_rfl) (by kernel_rfl) (fun _ _ _ h => h) (Or.inl ⟨by rfl, ?_⟩) hHeld ?_
  rotate_left
  · (intro W hSw; (try dsimp only at hSw); go_simp; all_goals (with_reducible rfl))
  simp only [List.getElem_toArray, List.getElem_cons_zero, List.getElem_cons_succ, Act.put, List.setIfInBounds_toArray, List.set_cons_zero, List.set_cons_succ]
  refine wpAnyH_done (by kernel_rfl) ?_ _
  refine NoPanic.normal ?_
  clear hHeld
  go_wp2_with fail
  refine bodyPost_ret (results_rat rfl rfl V1 rfl V2) rfl ?_
  exact ⟨s2, a2, l2, c2, z2, b2, m2, d2, y2, s1, a1, l1, c1, z1, b1, m1, d1, y1, v, rfl, hr, hq, HPC, B0⟩

theorem of7 (s : Bool) (a : Option Addr) (l c : Nat) (zs : List Int) (b : Option Addr) (m d : Nat) (ys : List Int) (w : World) (h1 : Sl w a l zs) (h2 : Sl w b m ys) (hc : l ≤ c) (hd : m ≤ d) :
    Calls Tryz.prog 5 #[.agg #[.bool s, .slice a l c, .slice b m d]] w fun e w' => ∃ s2 a2 l2 c2 z2 b2 m2 d2 y2 s1 a1 l1 c1 z1 b1 m1 d1 y1 v, e = .returned (.tuple #[.agg #[.bool s2, .slice a2 l2 c2, .slice b2 m2 d2], .agg #[.bool s1, .slice a1 l1 c1, .slice b1 m1 d1], .bool true]) ∧ Rt w' s2 a2 l2 c2 z2 b2 m2 d2 y2 v ∧ Rr w' s1 a1 l1 c1 z1 b1 m1 d1 y1 v ∧ Below w.heap.size w w' := by
  refine (of7v s a l c zs b m d ys w h1 h2 hc hd).mono ?_
  rintro e w' ⟨s2, a2, l2, c2, z2, b2, m2, d2, y2, s1, a1, l1, c1, z1, b1, m1, d1, y1, v, e1, e2, e3, -, e4⟩
  exact ⟨s2, a2, l2, c2, z2, b2, m2, d2, y2, s1, a1, l1, c1, z1, b1, m1, d1, y1, v, e1, e2, e3, e4⟩

end Go.Proofs.YtegfklapgbggfaaGreat
