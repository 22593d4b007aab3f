/-
  RoundUnits holds: any number rounded to any unit by any mode is the document's, or it is no unit, no mode or too long; no condition.
-/
import Derived.Test.YtegfklapgbggfaaGreatTk
import Derived.Test.YtegfklapgbggfaaGreatAl
import Derived.Test.YtegfklapgbggfaaGreatRw9
import Derived.Test.YtegfklapgbggfaaGreatRd4
import Derived.Test.YtegfklapgbggfaaGreatRt8
import Derived.Test.YtegfklapgbggfaaGreatRows
import Derived.ProofKit
import Derived.OpenShut
import Derived.ShutString
import Derived.ChangeOld
import Derived.SizedLaws
import Derived.Lib.SmallJoins
import Derived.Test.YtegfklapgbggfaaGreatRl7
import Derived.Test.YtegfklapgbggfaaGreatRd3
import Derived.Test.YtegfklapgbggfaaGreatRt12
namespace Go.Proofs.YtegfklapgbggfaaGreat
open Go.RowKit Go.Shelf
set_option linter.unusedVariables false

theorem div_short {X Y : Int} (hX : (X.natAbs : Int) < pw 1024) (hY : Y < pw 1024) (h0 : 0 < Y) : Short (Rat.divInt X Y) := by
  have e : Rat.divInt X Y = mkRat X Y.natAbs := by rw [← Rat.divInt_ofNat]; congr 1; omega
  rw [e]
  exact (Sz.mk (i := 1024) (by omega) hX (by omega)).short (by omega)
theorem Sh.lt {w : World} {a : Option Addr} {l c : Nat} {zs : List Int} (h : Sh w a l c 1024 zs) : num zs < pw 1024 := lt_of_used h.1.2.1 (by rw [h.2.1]; exact h.2.2.2)
theorem Rr.len7 {w : World} {s : Bool} {a : Option Addr} {l c : Nat} {zs : List Int} {b : Option Addr} {m d : Nat} {ys : List Int} {v : Rat} (h : Rr w s a l c zs b m d ys v) (hS : Short v) : l ≤ 1024 ∧ m ≤ 1024 := by
  obtain ⟨h1, h2, h3, h4, -, h5, h6, -⟩ := h
  have p1 := num_nonneg h1.2.1
  refine ⟨?_, ?_⟩
  · have := used_of_lt (n := 1024) h1.2.1 (by
      have h7 := hS.1
      rw [← h5] at h7
      cases s
      · rw [iv_f] at h7; omega
      · rw [iv_t] at h7; omega)
    omega
  · have := used_of_lt (n := 1024) h2.2.1 (by rw [h6]; exact hS.2)
    omega
theorem Rr.norm7 {w : World} {s : Bool} {a : Option Addr} {l c : Nat} {zs : List Int} {b : Option Addr} {m d : Nat} {ys : List Int} {v : Rat} (h : Rr w s a l c zs b m d ys v) : Norm s zs ys := by
  obtain ⟨h1, h2, h3, h4, -, h5, h6, h7⟩ := h
  have p1 := num_nonneg h1.2.1
  have hd := v.den_pos
  refine ⟨by rw [h3, h1.1], by rw [h4, h2.1], ?_, ?_, ?_⟩
  · intro e
    have := (num_eq_zero h2.2.1).2 (by rw [h4, ← h2.1, e])
    omega
  · rintro ⟨e1, e2⟩
    exact h7 e1 ((num_eq_zero h1.2.1).2 (by rw [h3, ← h1.1, e2]))
  · have e1 : (num zs).natAbs = v.num.natAbs := by
      rw [← h5]
      cases s
      · rw [iv_f]
      · rw [iv_t]; omega
    have e2 : (num ys).natAbs = v.den := by omega
    unfold Int.gcd
    rw [e1, e2]
    exact v.reduced
theorem sl_one7 {w : World} {b : Nat} {t : TypeId} (V : Va w b t #[.int .u64 1]) : Sl w (some ⟨b, 0, none⟩) 1 [1] := by
  refine ⟨rfl, fun z hz => ?_, fun _ => ⟨b, 0, rfl, fun i hi => ?_⟩⟩
  · simp at hz; subst hz; exact ⟨by omega, by omega⟩
  · obtain rfl : i = 0 := by omega
    exact V.cell
/-- Lists that are not cut. -/
structure PlK (l m : Nat) (zs ys : List Int) : Prop where
  a : l ≤ 1024
  b : m ≤ 1024
  c : usedN zs ≤ 60 ∨ usedN ys ≤ 1
  d : usedN ys ≤ 60 ∨ usedN zs ≤ 1
def PlC (l m : Nat) (zs ys : List Int) (Q : Prop) : Prop := PlK l m zs ys → Q
theorem iv_num {s : Bool} {xs ys : List Int} (h : num xs = num ys) : iv s xs = iv s ys := by unfold iv; rw [h]
/-- Numerator and denominator of the ratio that is looked at. -/
structure PlQ (l1 c1 l2 c2 : Nat) (z1 z2 : List Int) : Prop where
  u1 : usedN z1 = l1
  u2 : usedN z2 = l2
  k1 : l1 ≤ c1
  k2 : l2 ≤ c2
  m1 : l1 ≤ 1024
  m2 : l2 ≤ 1024
theorem Sh.plq {w w' : World} {a b : Option Addr} {l1 c1 l2 c2 k : Nat} {z1 z2 : List Int} (h1 : Sh w a l1 c1 k z1) (h2 : Sh w' b l2 c2 k z2) (hk : k ≤ 1024) : PlQ l1 c1 l2 c2 z1 z2 := ⟨h1.2.1, h2.2.1, h1.2.2.1, h2.2.2.1, by have := h1.2.2.2; omega, by have := h2.2.2.2; omega⟩

set_option maxHeartbeats 4000000 in
set_option maxRecDepth 4000 in
theorem plain7v (s : Bool) (a : Option Addr) (l c : Nat) (zs : List Int) (b : Option Addr) (m d : Nat) (ys : List Int) (w : World) (h1 : Sl w a l zs) (h2 : Sl w b m ys) (hc : l ≤ c) (hd : m ≤ d) :
    Calls Tryz.prog 14 #[.agg #[.bool s, .slice a l c, .slice b m d]] w fun e w' => ∃ s' a' l' c' zs' b' m' d' ys' v, e = .returned (.agg #[.bool s', .slice a' l' c', .slice b' m' d']) ∧ Rr w' s' a' l' c' zs' b' m' d' ys' v ∧ Hid (Short v) ∧ Hid (PlC l m zs ys (v = Rat.divInt (iv s zs) (dn ys))) ∧ Below w.heap.size w w' := by
  have B0 : Below w.heap.size w w := Below.refl _ _
  go_enter Tryz.func14, Tryz.ntmps14
  (go_wp2_with fail); refine ent2 w _ _ _ _ (Q := fun W => Code.wp Tryz.prog _ _ _ W) ?_; intro x1 hb hs_x1 V0 V1; replace h1 := Sl.after hb h1; replace h2 := Sl.after hb h2; replace B0 := step B0 hb; clear hb hs_x1; refine wp_region_noPanic ?_; replace V0 : Va x1.drew _ _ _ := V0; replace V1 : Va x1.drew _ _ _ := V1; replace h1 := h1.drw; replace h2 := h2.drw; replace B0 := Below.drew B0; refine wp_region_held_drew (S := (fun W => W.cell? ⟨w.heap.size, 0, none⟩ = some (.bool s) ∧ W.cell? ⟨w.heap.size, 1, none⟩ = some (.slice a l c) ∧ W.cell? ⟨w.heap.size, 2, none⟩ = some (.slice b m d))) (by kernel_rfl) ⟨V0.d0, V0.d1, V0.d2⟩ (fun hHeld => ?_); (obtain ⟨x2, hxd⟩ : ∃ xd, xd = x1.drew := ⟨_, rfl⟩); rw [← hxd] at V0 V1 h1 h2 B0 hHeld ⊢; clear hxd; refine tk 0 rfl hHeld ?_; simp only [gA, gB, Act.put, gD, gE, gF]; refine tk 1 rfl hHeld ?_; simp only [gA, gB, gC, Act.put, gD, gE, gF]; refine tk 3 rfl hHeld ?_; simp only [gA, gB, gC, Act.put, gD, gE, gF]
  refine tk 4 rfl hHeld ?_; simp only [gA, gB, gC, Act.put, gD, gE, gF]; refine wpAnyH_ready (rs := [2]) (by kernel_rfl) (by simp) ?_; refine AllReadyH.cons rfl (fun K hK => ?_) AllReadyH.nil; simp only [gA, gB, gC]; (go_simp); refine (short7v a l c 1024 zs _ h1 hc (by omega)).mono ?_; rintro e x3 ⟨a1, l1, c1, z1, rfl, g1, nn1, hb⟩; replace V0 := Va.after hb V0; replace V1 := Va.after hb V1; replace h1 := Sl.after hb h1; replace h2 := Sl.after hb h2; replace B0 := step B0 hb; clear hb; (try go_wp2_with fail); refine hK.out _ _ ⟨V0.d0, V0.d1, V0.d2⟩ (fun hHeld => ?_); clear hK K; refine wpAnyH_ready (rs := [5]) (by kernel_rfl) (by simp) ?_; refine AllReadyH.cons rfl (fun K hK => ?_) AllReadyH.nil; simp only [gA, gB, gC]; (go_simp); refine (short7v b m d 1024 ys _ h2 hd (by omega)).mono ?_; rintro e x4 ⟨a2, l2, c2, z2, rfl, g2, nn2, hb⟩; replace V0 := Va.after hb V0; replace V1 := Va.after hb V1; replace h1 := Sl.after hb h1; replace h2 := Sl.after hb h2
  replace g1 := Sh.after hb g1; replace B0 := step B0 hb; clear hb; (try go_wp2_with fail); refine hK.out _ _ ⟨V0.d0, V0.d1, V0.d2⟩ (fun hHeld => ?_); clear hK K; refine tk 6 rfl hHeld ?_; simp only [gA, gB, gC, Act.put, gD, gE, gF]; refine tk 7 rfl hHeld ?_; simp only [gA, gB, gC, Act.put, gD, gE, gF]; refine wpAnyH_done (by kernel_rfl) ?_ _; refine NoPanic.normal ?_; clear hHeld; clear h1 h2
  by_cases q1 : 60 < l1
  · by_cases q2 : 1 < l2
    ·
      (have t0 : decide ((60 : Int) < (l1 : Int)) = true := by simp; omega); (have t1 : decide ((1 : Int) < (l2 : Int)) = true := by simp; omega); (go_wp2_with fail); refine (short7 a1 l1 c1 60 z1 x4 g1.1 g1.2.2.1 (by omega)).mono ?_; rintro e x5 ⟨a3, l3, c3, z3, rfl, g3, hb⟩; replace V0 := Va.after hb V0; replace V1 := Va.after hb V1; replace g1 := Sh.after hb g1; replace g2 := Sh.after hb g2; replace B0 := step B0 hb; clear hb; (go_wp2_with fail); refine (short7 a2 l2 c2 60 z2 x5 g2.1 g2.2.2.1 (by omega)).mono ?_; rintro e x6 ⟨a4, l4, c4, z4, rfl, g4, hb⟩; replace V0 := Va.after hb V0; replace V1 := Va.after hb V1; replace g1 := Sh.after hb g1; replace g2 := Sh.after hb g2; replace g3 := Sh.after hb g3; replace B0 := step B0 hb; clear hb; have h3 := g3.1; have h4 := g4.1; have HQ : Hid (PlQ l3 c3 l4 c4 z3 z4) := g3.plq g4 (by omega); clear t0 t1; clear g1 g2 g3 g4
      by_cases q : l4 = 0
      ·
        subst q; have c_V0 := V0.d0; have f0_V0 := V0.frozen 0; have d_V0 := V0.d1; have f1_V0 := V0.frozen 1; have e_V0 := V0.d2; have f2_V0 := V0.frozen 2; have l_V0 := V0.lt; have m_V0 := Nat.le_of_lt l_V0; (go_wp2_with fail); refine ent1 x6 _ _ (Q := fun W => Calls Tryz.prog _ _ W _) ?_; intro x7 hb hs_x7 Vd; replace V0 := Va.after hb V0; replace V1 := Va.after hb V1; replace h3 := Sl.after hb h3; replace h4 := Sl.after hb h4; replace B0 := step B0 hb; clear hb hs_x7; have hd1 : Sl x7 (some ⟨x6.heap.size, 0, none⟩) 1 [1] := sl_one7 Vd; refine (rmake5 s a3 (some ⟨x6.heap.size, 0, none⟩) l3 c3 1 1 z3 [1] x7 h3 hd1 HQ.out.k1 (by omega) (by have := HQ.out.m1; omega) (by omega) (by rw [HQ.out.u1]; have := HQ.out.m1; omega) (by decide) (by decide)).mono ?_; rintro e x8 ⟨s5, a5, l5, c5, z5, b5, m5, d5, y5, rfl, h5, -, -, hb⟩; replace V0 := Va.after hb V0; replace V1 := Va.after hb V1; replace Vd := Va.after hb Vd; replace h3 := Sl.after hb h3; replace h4 := Sl.after hb h4
        replace hd1 := Sl.after hb hd1; replace B0 := step B0 hb; clear hb; clear c_V0 f0_V0 d_V0 f1_V0 e_V0 f2_V0 l_V0 m_V0; have c_V1 := V1.d0; have f0_V1 := V1.frozen 0; have d_V1 := V1.d1; have f1_V1 := V1.frozen 1; have e_V1 := V1.d2; have f2_V1 := V1.frozen 2; have l_V1 := V1.lt; have m_V1 := Nat.le_of_lt l_V1; (go_wp2_with fail); refine bodyPost_ret (results_ra rfl rfl (V1.set3 _ _ _)) rfl ?_; exact ⟨s5, a5, l5, c5, z5, b5, m5, d5, y5, _, rfl, h5.far V1 (noInt3 _ _ _ _ _ _ _) (fa3 _ _ _ _ _), div_short (by show ((iv s z3).natAbs : Int) < _; have h7 := lt_of_used h3.2.1 (show usedN z3 ≤ 1024 by rw [HQ.out.u1]; exact HQ.out.m1); have h8 := num_nonneg h3.2.1; cases s <;> simp only [iv_t, iv_f] <;> omega) (one_lt_pw (by omega)) (by decide), (by intro hcond; exfalso; have h5 := nn1.out hcond.a; have h6 := nn2.out hcond.b; have h7 := hcond.c; have h8 := hcond.d; omega), belo3 B0 (by omega) _ _ _⟩
      ·
        (have HD : Hid (num z4 ≠ 0) := fun e => q (by rw [← HQ.out.u2]; exact (num_eq_zero h4.2.1).1 e)); have c_V0 := V0.d0; have f0_V0 := V0.frozen 0; have d_V0 := V0.d1; have f1_V0 := V0.frozen 1; have e_V0 := V0.d2; have f2_V0 := V0.frozen 2; have l_V0 := V0.lt; have m_V0 := Nat.le_of_lt l_V0; (go_wp2_with fail); refine (rmake5 s a3 a4 l3 c3 l4 c4 z3 z4 x6 h3 h4 HQ.out.k1 HQ.out.k2 (by have := HQ.out.m1; omega) (by have := HQ.out.m2; omega) (by rw [HQ.out.u1]; have := HQ.out.m1; omega) (by rw [HQ.out.u2]; have := HQ.out.m2; omega) HD.out).mono ?_; rintro e x7 ⟨s5, a5, l5, c5, z5, b5, m5, d5, y5, rfl, h5, -, -, hb⟩; replace V0 := Va.after hb V0; replace V1 := Va.after hb V1; replace h3 := Sl.after hb h3; replace h4 := Sl.after hb h4; replace B0 := step B0 hb; clear hb; clear c_V0 f0_V0 d_V0 f1_V0 e_V0 f2_V0 l_V0 m_V0; have c_V1 := V1.d0; have f0_V1 := V1.frozen 0; have d_V1 := V1.d1; have f1_V1 := V1.frozen 1; have e_V1 := V1.d2; have f2_V1 := V1.frozen 2
        have l_V1 := V1.lt; have m_V1 := Nat.le_of_lt l_V1; (go_wp2_with fail); refine bodyPost_ret (results_ra rfl rfl (V1.set3 _ _ _)) rfl ?_; exact ⟨s5, a5, l5, c5, z5, b5, m5, d5, y5, _, rfl, h5.far V1 (noInt3 _ _ _ _ _ _ _) (fa3 _ _ _ _ _), div_short (by show ((iv s z3).natAbs : Int) < _; have h7 := lt_of_used h3.2.1 (show usedN z3 ≤ 1024 by rw [HQ.out.u1]; exact HQ.out.m1); have h8 := num_nonneg h3.2.1; cases s <;> simp only [iv_t, iv_f] <;> omega) (lt_of_used h4.2.1 (by rw [HQ.out.u2]; exact HQ.out.m2)) (by have h9 := num_nonneg h4.2.1; have h8 := HD.out; omega), (by intro hcond; exfalso; have h5 := nn1.out hcond.a; have h6 := nn2.out hcond.b; have h7 := hcond.c; have h8 := hcond.d; omega), belo3 B0 (by omega) _ _ _⟩
    ·
      (have t0 : decide ((60 : Int) < (l1 : Int)) = true := by simp; omega); (have t1 : decide ((1 : Int) < (l2 : Int)) = false := by simp; omega); (have t2 : decide ((60 : Int) < (l2 : Int)) = false := by simp; omega); have h3 := g1.1; have h4 := g2.1; have HQ : Hid (PlQ l1 c1 l2 c2 z1 z2) := g1.plq g2 (by omega); clear g1 g2
      by_cases q : l2 = 0
      ·
        subst q; have c_V0 := V0.d0; have f0_V0 := V0.frozen 0; have d_V0 := V0.d1; have f1_V0 := V0.frozen 1; have e_V0 := V0.d2; have f2_V0 := V0.frozen 2; have l_V0 := V0.lt; have m_V0 := Nat.le_of_lt l_V0; (go_wp2_with fail); refine ent1 x4 _ _ (Q := fun W => Calls Tryz.prog _ _ W _) ?_; intro x5 hb hs_x5 Vd; replace V0 := Va.after hb V0; replace V1 := Va.after hb V1; replace h3 := Sl.after hb h3; replace h4 := Sl.after hb h4; replace B0 := step B0 hb; clear hb hs_x5; have hd1 : Sl x5 (some ⟨x4.heap.size, 0, none⟩) 1 [1] := sl_one7 Vd; refine (rmake5 s a1 (some ⟨x4.heap.size, 0, none⟩) l1 c1 1 1 z1 [1] x5 h3 hd1 HQ.out.k1 (by omega) (by have := HQ.out.m1; omega) (by omega) (by rw [HQ.out.u1]; have := HQ.out.m1; omega) (by decide) (by decide)).mono ?_; rintro e x6 ⟨s5, a5, l5, c5, z5, b5, m5, d5, y5, rfl, h5, -, -, hb⟩; replace V0 := Va.after hb V0; replace V1 := Va.after hb V1; replace Vd := Va.after hb Vd; replace h3 := Sl.after hb h3; replace h4 := Sl.after hb h4
        replace hd1 := Sl.after hb hd1; replace B0 := step B0 hb; clear hb; clear c_V0 f0_V0 d_V0 f1_V0 e_V0 f2_V0 l_V0 m_V0; have c_V1 := V1.d0; have f0_V1 := V1.frozen 0; have d_V1 := V1.d1; have f1_V1 := V1.frozen 1; have e_V1 := V1.d2; have f2_V1 := V1.frozen 2; have l_V1 := V1.lt; have m_V1 := Nat.le_of_lt l_V1; (go_wp2_with fail); refine bodyPost_ret (results_ra rfl rfl (V1.set3 _ _ _)) rfl ?_; exact ⟨s5, a5, l5, c5, z5, b5, m5, d5, y5, _, rfl, h5.far V1 (noInt3 _ _ _ _ _ _ _) (fa3 _ _ _ _ _), div_short (by show ((iv s z1).natAbs : Int) < _; have h7 := lt_of_used h3.2.1 (show usedN z1 ≤ 1024 by rw [HQ.out.u1]; exact HQ.out.m1); have h8 := num_nonneg h3.2.1; cases s <;> simp only [iv_t, iv_f] <;> omega) (one_lt_pw (by omega)) (by decide), (by intro hcond; have h5 := nn1.out hcond.a; have h6 := nn2.out hcond.b; rw [show dn ys = 1 from if_pos (by rw [← h6.1]; exact (num_eq_zero h4.2.1).2 HQ.out.u2), iv_num h5.1]; rfl), belo3 B0 (by omega) _ _ _⟩
      ·
        (have HD : Hid (num z2 ≠ 0) := fun e => q (by rw [← HQ.out.u2]; exact (num_eq_zero h4.2.1).1 e)); have c_V0 := V0.d0; have f0_V0 := V0.frozen 0; have d_V0 := V0.d1; have f1_V0 := V0.frozen 1; have e_V0 := V0.d2; have f2_V0 := V0.frozen 2; have l_V0 := V0.lt; have m_V0 := Nat.le_of_lt l_V0; (go_wp2_with fail); refine (rmake5 s a1 a2 l1 c1 l2 c2 z1 z2 x4 h3 h4 HQ.out.k1 HQ.out.k2 (by have := HQ.out.m1; omega) (by have := HQ.out.m2; omega) (by rw [HQ.out.u1]; have := HQ.out.m1; omega) (by rw [HQ.out.u2]; have := HQ.out.m2; omega) HD.out).mono ?_; rintro e x5 ⟨s5, a5, l5, c5, z5, b5, m5, d5, y5, rfl, h5, -, -, hb⟩; replace V0 := Va.after hb V0; replace V1 := Va.after hb V1; replace h3 := Sl.after hb h3; replace h4 := Sl.after hb h4; replace B0 := step B0 hb; clear hb; clear c_V0 f0_V0 d_V0 f1_V0 e_V0 f2_V0 l_V0 m_V0; have c_V1 := V1.d0; have f0_V1 := V1.frozen 0; have d_V1 := V1.d1; have f1_V1 := V1.frozen 1; have e_V1 := V1.d2; have f2_V1 := V1.frozen 2
        have l_V1 := V1.lt; have m_V1 := Nat.le_of_lt l_V1; (go_wp2_with fail); refine bodyPost_ret (results_ra rfl rfl (V1.set3 _ _ _)) rfl ?_; exact ⟨s5, a5, l5, c5, z5, b5, m5, d5, y5, _, rfl, h5.far V1 (noInt3 _ _ _ _ _ _ _) (fa3 _ _ _ _ _), div_short (by show ((iv s z1).natAbs : Int) < _; have h7 := lt_of_used h3.2.1 (show usedN z1 ≤ 1024 by rw [HQ.out.u1]; exact HQ.out.m1); have h8 := num_nonneg h3.2.1; cases s <;> simp only [iv_t, iv_f] <;> omega) (lt_of_used h4.2.1 (by rw [HQ.out.u2]; exact HQ.out.m2)) (by have h9 := num_nonneg h4.2.1; have h8 := HD.out; omega), (by intro hcond; have h5 := nn1.out hcond.a; have h6 := nn2.out hcond.b; rw [show dn ys = num ys from if_neg (by rw [← h6.1]; exact HD.out), ← h6.1, iv_num h5.1]), belo3 B0 (by omega) _ _ _⟩
  · by_cases q3 : 60 < l2
    · by_cases q4 : 1 < l1
      ·
        (have t0 : decide ((60 : Int) < (l1 : Int)) = false := by simp; omega); (have t1 : decide ((60 : Int) < (l2 : Int)) = true := by simp; omega); (have t2 : decide ((1 : Int) < (l1 : Int)) = true := by simp; omega); (go_wp2_with fail); refine (short7 a1 l1 c1 60 z1 x4 g1.1 g1.2.2.1 (by omega)).mono ?_; rintro e x5 ⟨a3, l3, c3, z3, rfl, g3, hb⟩; replace V0 := Va.after hb V0; replace V1 := Va.after hb V1; replace g1 := Sh.after hb g1; replace g2 := Sh.after hb g2; replace B0 := step B0 hb; clear hb; (go_wp2_with fail); refine (short7 a2 l2 c2 60 z2 x5 g2.1 g2.2.2.1 (by omega)).mono ?_; rintro e x6 ⟨a4, l4, c4, z4, rfl, g4, hb⟩; replace V0 := Va.after hb V0; replace V1 := Va.after hb V1; replace g1 := Sh.after hb g1; replace g2 := Sh.after hb g2; replace g3 := Sh.after hb g3; replace B0 := step B0 hb; clear hb; have h3 := g3.1; have h4 := g4.1; have HQ : Hid (PlQ l3 c3 l4 c4 z3 z4) := g3.plq g4 (by omega); clear t0 t1 t2; clear g1 g2 g3 g4
        by_cases q : l4 = 0
        ·
          subst q; have c_V0 := V0.d0; have f0_V0 := V0.frozen 0; have d_V0 := V0.d1; have f1_V0 := V0.frozen 1; have e_V0 := V0.d2; have f2_V0 := V0.frozen 2; have l_V0 := V0.lt; have m_V0 := Nat.le_of_lt l_V0; (go_wp2_with fail); refine ent1 x6 _ _ (Q := fun W => Calls Tryz.prog _ _ W _) ?_; intro x7 hb hs_x7 Vd; replace V0 := Va.after hb V0; replace V1 := Va.after hb V1; replace h3 := Sl.after hb h3; replace h4 := Sl.after hb h4; replace B0 := step B0 hb; clear hb hs_x7; have hd1 : Sl x7 (some ⟨x6.heap.size, 0, none⟩) 1 [1] := sl_one7 Vd; refine (rmake5 s a3 (some ⟨x6.heap.size, 0, none⟩) l3 c3 1 1 z3 [1] x7 h3 hd1 HQ.out.k1 (by omega) (by have := HQ.out.m1; omega) (by omega) (by rw [HQ.out.u1]; have := HQ.out.m1; omega) (by decide) (by decide)).mono ?_; rintro e x8 ⟨s5, a5, l5, c5, z5, b5, m5, d5, y5, rfl, h5, -, -, hb⟩; replace V0 := Va.after hb V0; replace V1 := Va.after hb V1; replace Vd := Va.after hb Vd; replace h3 := Sl.after hb h3; replace h4 := Sl.after hb h4
          replace hd1 := Sl.after hb hd1; replace B0 := step B0 hb; clear hb; clear c_V0 f0_V0 d_V0 f1_V0 e_V0 f2_V0 l_V0 m_V0; have c_V1 := V1.d0; have f0_V1 := V1.frozen 0; have d_V1 := V1.d1; have f1_V1 := V1.frozen 1; have e_V1 := V1.d2; have f2_V1 := V1.frozen 2; have l_V1 := V1.lt; have m_V1 := Nat.le_of_lt l_V1; (go_wp2_with fail); refine bodyPost_ret (results_ra rfl rfl (V1.set3 _ _ _)) rfl ?_; exact ⟨s5, a5, l5, c5, z5, b5, m5, d5, y5, _, rfl, h5.far V1 (noInt3 _ _ _ _ _ _ _) (fa3 _ _ _ _ _), div_short (by show ((iv s z3).natAbs : Int) < _; have h7 := lt_of_used h3.2.1 (show usedN z3 ≤ 1024 by rw [HQ.out.u1]; exact HQ.out.m1); have h8 := num_nonneg h3.2.1; cases s <;> simp only [iv_t, iv_f] <;> omega) (one_lt_pw (by omega)) (by decide), (by intro hcond; exfalso; have h5 := nn1.out hcond.a; have h6 := nn2.out hcond.b; have h7 := hcond.c; have h8 := hcond.d; omega), belo3 B0 (by omega) _ _ _⟩
        ·
          (have HD : Hid (num z4 ≠ 0) := fun e => q (by rw [← HQ.out.u2]; exact (num_eq_zero h4.2.1).1 e)); have c_V0 := V0.d0; have f0_V0 := V0.frozen 0; have d_V0 := V0.d1; have f1_V0 := V0.frozen 1; have e_V0 := V0.d2; have f2_V0 := V0.frozen 2; have l_V0 := V0.lt; have m_V0 := Nat.le_of_lt l_V0; (go_wp2_with fail); refine (rmake5 s a3 a4 l3 c3 l4 c4 z3 z4 x6 h3 h4 HQ.out.k1 HQ.out.k2 (by have := HQ.out.m1; omega) (by have := HQ.out.m2; omega) (by rw [HQ.out.u1]; have := HQ.out.m1; omega) (by rw [HQ.out.u2]; have := HQ.out.m2; omega) HD.out).mono ?_; rintro e x7 ⟨s5, a5, l5, c5, z5, b5, m5, d5, y5, rfl, h5, -, -, hb⟩; replace V0 := Va.after hb V0; replace V1 := Va.after hb V1; replace h3 := Sl.after hb h3; replace h4 := Sl.after hb h4; replace B0 := step B0 hb; clear hb; clear c_V0 f0_V0 d_V0 f1_V0 e_V0 f2_V0 l_V0 m_V0; have c_V1 := V1.d0; have f0_V1 := V1.frozen 0; have d_V1 := V1.d1; have f1_V1 := V1.frozen 1; have e_V1 := V1.d2; have f2_V1 := V1.frozen 2
          have l_V1 := V1.lt; have m_V1 := Nat.le_of_lt l_V1; (go_wp2_with fail); refine bodyPost_ret (results_ra rfl rfl (V1.set3 _ _ _)) rfl ?_; exact ⟨s5, a5, l5, c5, z5, b5, m5, d5, y5, _, rfl, h5.far V1 (noInt3 _ _ _ _ _ _ _) (fa3 _ _ _ _ _), div_short (by show ((iv s z3).natAbs : Int) < _; have h7 := lt_of_used h3.2.1 (show usedN z3 ≤ 1024 by rw [HQ.out.u1]; exact HQ.out.m1); have h8 := num_nonneg h3.2.1; cases s <;> simp only [iv_t, iv_f] <;> omega) (lt_of_used h4.2.1 (by rw [HQ.out.u2]; exact HQ.out.m2)) (by have h9 := num_nonneg h4.2.1; have h8 := HD.out; omega), (by intro hcond; exfalso; have h5 := nn1.out hcond.a; have h6 := nn2.out hcond.b; have h7 := hcond.c; have h8 := hcond.d; omega), belo3 B0 (by omega) _ _ _⟩
      ·
        (have t0 : decide ((60 : Int) < (l1 : Int)) = false := by simp; omega); (have t1 : decide ((60 : Int) < (l2 : Int)) = true := by simp; omega); (have t2 : decide ((1 : Int) < (l1 : Int)) = false := by simp; omega); have h3 := g1.1; have h4 := g2.1; have HQ : Hid (PlQ l1 c1 l2 c2 z1 z2) := g1.plq g2 (by omega); clear g1 g2
        by_cases q : l2 = 0
        ·
          exact absurd q (by omega)
        ·
          (have HD : Hid (num z2 ≠ 0) := fun e => q (by rw [← HQ.out.u2]; exact (num_eq_zero h4.2.1).1 e)); have c_V0 := V0.d0; have f0_V0 := V0.frozen 0; have d_V0 := V0.d1; have f1_V0 := V0.frozen 1; have e_V0 := V0.d2; have f2_V0 := V0.frozen 2; have l_V0 := V0.lt; have m_V0 := Nat.le_of_lt l_V0; (go_wp2_with fail); refine (rmake5 s a1 a2 l1 c1 l2 c2 z1 z2 x4 h3 h4 HQ.out.k1 HQ.out.k2 (by have := HQ.out.m1; omega) (by have := HQ.out.m2; omega) (by rw [HQ.out.u1]; have := HQ.out.m1; omega) (by rw [HQ.out.u2]; have := HQ.out.m2; omega) HD.out).mono ?_; rintro e x5 ⟨s5, a5, l5, c5, z5, b5, m5, d5, y5, rfl, h5, -, -, hb⟩; replace V0 := Va.after hb V0; replace V1 := Va.after hb V1; replace h3 := Sl.after hb h3; replace h4 := Sl.after hb h4; replace B0 := step B0 hb; clear hb; clear c_V0 f0_V0 d_V0 f1_V0 e_V0 f2_V0 l_V0 m_V0; have c_V1 := V1.d0; have f0_V1 := V1.frozen 0; have d_V1 := V1.d1; have f1_V1 := V1.frozen 1; have e_V1 := V1.d2; have f2_V1 := V1.frozen 2
          have l_V1 := V1.lt; have m_V1 := Nat.le_of_lt l_V1; (go_wp2_with fail); refine bodyPost_ret (results_ra rfl rfl (V1.set3 _ _ _)) rfl ?_; exact ⟨s5, a5, l5, c5, z5, b5, m5, d5, y5, _, rfl, h5.far V1 (noInt3 _ _ _ _ _ _ _) (fa3 _ _ _ _ _), div_short (by show ((iv s z1).natAbs : Int) < _; have h7 := lt_of_used h3.2.1 (show usedN z1 ≤ 1024 by rw [HQ.out.u1]; exact HQ.out.m1); have h8 := num_nonneg h3.2.1; cases s <;> simp only [iv_t, iv_f] <;> omega) (lt_of_used h4.2.1 (by rw [HQ.out.u2]; exact HQ.out.m2)) (by have h9 := num_nonneg h4.2.1; have h8 := HD.out; omega), (by intro hcond; have h5 := nn1.out hcond.a; have h6 := nn2.out hcond.b; rw [show dn ys = num ys from if_neg (by rw [← h6.1]; exact HD.out), ← h6.1, iv_num h5.1]), belo3 B0 (by omega) _ _ _⟩
    ·
      (have t0 : decide ((60 : Int) < (l1 : Int)) = false := by simp; omega); (have t1 : decide ((60 : Int) < (l2 : Int)) = false := by simp; omega); have h3 := g1.1; have h4 := g2.1; have HQ : Hid (PlQ l1 c1 l2 c2 z1 z2) := g1.plq g2 (by omega); clear g1 g2
      by_cases q : l2 = 0
      ·
        subst q; have c_V0 := V0.d0; have f0_V0 := V0.frozen 0; have d_V0 := V0.d1; have f1_V0 := V0.frozen 1; have e_V0 := V0.d2; have f2_V0 := V0.frozen 2; have l_V0 := V0.lt; have m_V0 := Nat.le_of_lt l_V0; (go_wp2_with fail); refine ent1 x4 _ _ (Q := fun W => Calls Tryz.prog _ _ W _) ?_; intro x5 hb hs_x5 Vd; replace V0 := Va.after hb V0; replace V1 := Va.after hb V1; replace h3 := Sl.after hb h3; replace h4 := Sl.after hb h4; replace B0 := step B0 hb; clear hb hs_x5; have hd1 : Sl x5 (some ⟨x4.heap.size, 0, none⟩) 1 [1] := sl_one7 Vd; refine (rmake5 s a1 (some ⟨x4.heap.size, 0, none⟩) l1 c1 1 1 z1 [1] x5 h3 hd1 HQ.out.k1 (by omega) (by have := HQ.out.m1; omega) (by omega) (by rw [HQ.out.u1]; have := HQ.out.m1; omega) (by decide) (by decide)).mono ?_; rintro e x6 ⟨s5, a5, l5, c5, z5, b5, m5, d5, y5, rfl, h5, -, -, hb⟩; replace V0 := Va.after hb V0; replace V1 := Va.after hb V1; replace Vd := Va.after hb Vd; replace h3 := Sl.after hb h3; replace h4 := Sl.after hb h4
        replace hd1 := Sl.after hb hd1; replace B0 := step B0 hb; clear hb; clear c_V0 f0_V0 d_V0 f1_V0 e_V0 f2_V0 l_V0 m_V0; have c_V1 := V1.d0; have f0_V1 := V1.frozen 0; have d_V1 := V1.d1; have f1_V1 := V1.frozen 1; have e_V1 := V1.d2; have f2_V1 := V1.frozen 2; have l_V1 := V1.lt; have m_V1 := Nat.le_of_lt l_V1; (go_wp2_with fail); refine bodyPost_ret (results_ra rfl rfl (V1.set3 _ _ _)) rfl ?_; exact ⟨s5, a5, l5, c5, z5, b5, m5, d5, y5, _, rfl, h5.far V1 (noInt3 _ _ _ _ _ _ _) (fa3 _ _ _ _ _), div_short (by show ((iv s z1).natAbs : Int) < _; have h7 := lt_of_used h3.2.1 (show usedN z1 ≤ 1024 by rw [HQ.out.u1]; exact HQ.out.m1); have h8 := num_nonneg h3.2.1; cases s <;> simp only [iv_t, iv_f] <;> omega) (one_lt_pw (by omega)) (by decide), (by intro hcond; have h5 := nn1.out hcond.a; have h6 := nn2.out hcond.b; rw [show dn ys = 1 from if_pos (by rw [← h6.1]; exact (num_eq_zero h4.2.1).2 HQ.out.u2), iv_num h5.1]; rfl), belo3 B0 (by omega) _ _ _⟩
      ·
        (have HD : Hid (num z2 ≠ 0) := fun e => q (by rw [← HQ.out.u2]; exact (num_eq_zero h4.2.1).1 e)); have c_V0 := V0.d0; have f0_V0 := V0.frozen 0; have d_V0 := V0.d1; have f1_V0 := V0.frozen 1; have e_V0 := V0.d2; have f2_V0 := V0.frozen 2; have l_V0 := V0.lt; have m_V0 := Nat.le_of_lt l_V0; (go_wp2_with fail); refine (rmake5 s a1 a2 l1 c1 l2 c2 z1 z2 x4 h3 h4 HQ.out.k1 HQ.out.k2 (by have := HQ.out.m1; omega) (by have := HQ.out.m2; omega) (by rw [HQ.out.u1]; have := HQ.out.m1; omega) (by rw [HQ.out.u2]; have := HQ.out.m2; omega) HD.out).mono ?_; rintro e x5 ⟨s5, a5, l5, c5, z5, b5, m5, d5, y5, rfl, h5, -, -, hb⟩; replace V0 := Va.after hb V0; replace V1 := Va.after hb V1; replace h3 := Sl.after hb h3; replace h4 := Sl.after hb h4; replace B0 := step B0 hb; clear hb; clear c_V0 f0_V0 d_V0 f1_V0 e_V0 f2_V0 l_V0 m_V0; have c_V1 := V1.d0; have f0_V1 := V1.frozen 0; have d_V1 := V1.d1; have f1_V1 := V1.frozen 1; have e_V1 := V1.d2; have f2_V1 := V1.frozen 2
        have l_V1 := V1.lt; have m_V1 := Nat.le_of_lt l_V1; (go_wp2_with fail); refine bodyPost_ret (results_ra rfl rfl (V1.set3 _ _ _)) rfl ?_; exact ⟨s5, a5, l5, c5, z5, b5, m5, d5, y5, _, rfl, h5.far V1 (noInt3 _ _ _ _ _ _ _) (fa3 _ _ _ _ _), div_short (by show ((iv s z1).natAbs : Int) < _; have h7 := lt_of_used h3.2.1 (show usedN z1 ≤ 1024 by rw [HQ.out.u1]; exact HQ.out.m1); have h8 := num_nonneg h3.2.1; cases s <;> simp only [iv_t, iv_f] <;> omega) (lt_of_used h4.2.1 (by rw [HQ.out.u2]; exact HQ.out.m2)) (by have h9 := num_nonneg h4.2.1; have h8 := HD.out; omega), (by intro hcond; have h5 := nn1.out hcond.a; have h6 := nn2.out hcond.b; rw [show dn ys = num ys from if_neg (by rw [← h6.1]; exact HD.out), ← h6.1, iv_num h5.1]), belo3 B0 (by omega) _ _ _⟩

set_option maxHeartbeats 4000000 in
theorem of7v (s : Bool) (a : Option Addr) (l c : Nat) (zs : List Int) (b : Option Addr) (m d : Nat) (ys : List Int) (w : World) (h1 : Sl w a l zs) (h2 : Sl w b m ys) (hc : l ≤ c) (hd : m ≤ d) :
  Calls Tryz.prog 5 #[.agg #[.bool s, .slice a l c, .slice b m d]] w fun e w' => ∃ s2 a2 l2 c2 z2 b2 m2 d2 y2 s1 a1 l1 c1 z1 b1 m1 d1 y1 v, e = .returned (.tuple #[.agg #[.bool s2, .slice a2 l2 c2, .slice b2 m2 d2], .agg #[.bool s1, .slice a1 l1 c1, .slice b1 m1 d1], .bool true]) ∧ Rt w' s2 a2 l2 c2 z2 b2 m2 d2 y2 v ∧ Rr w' s1 a1 l1 c1 z1 b1 m1 d1 y1 v ∧ Hid (PlC l m zs ys (v = Rat.divInt (iv s zs) (dn ys))) ∧ Below w.heap.size w w' := by
 have B0 : Below w.heap.size w w := Below.refl _ _
 go_enter Tryz.func5, Tryz.ntmps5
 (go_wp2_with fail); refine ent3 w _ _ _ _ _ _ (Q := fun W => Calls Tryz.prog _ _ W _) ?_; intro x1 hb hs_x1 V0 V1 V2; replace h1 := Sl.after hb h1; replace h2 := Sl.after hb h2; replace B0 := step B0 hb; clear hb hs_x1; refine (plain7v s a l c zs b m d ys x1 h1 h2 hc hd).mono ?_; rintro e x2 ⟨s1, a1, l1, c1, z1, b1, m1, d1, y1, v, rfl, hq, hS, HPC, hb⟩; replace V0 := Va.after hb V0; replace V1 := Va.after hb V1; replace V2 := Va.after hb V2; replace h1 := Sl.after hb h1; replace h2 := Sl.after hb h2; replace B0 := step B0 hb; clear hb; have HL : Hid (l1 ≤ 1024 ∧ m1 ≤ 1024) := hq.len7 hS.out; have HN : Hid (Norm s1 z1 y1) := hq.norm7; have lp1 := V1.lt; have lp2 := V2.lt; (go_wp2_with fail); clear h1 h2; refine ent1 x2 _ _ (Q := fun W => Calls Tryz.prog _ _ W _) ?_; intro x3 hb hs_x3 Vp; replace V0 := Va.after hb V0; replace V1 := Va.after hb V1; replace V2 := Va.after hb V2; replace hq := Rr.after hb hq; replace B0 := step B0 hb; clear hb hs_x3
 refine (copyr7 s1 a1 l1 c1 z1 b1 m1 d1 y1 v x3 hq (by have := HL.out.1; omega) (by have := HL.out.2; omega)).mono ?_; rintro e x4 ⟨a3, c3, b3, d3, rfl, hk, hb⟩; replace V0 := Va.after hb V0; replace V1 := Va.after hb V1; replace V2 := Va.after hb V2; replace Vp := Va.after hb Vp; replace hq := Rr.after hb hq; replace B0 := step B0 hb; clear hb; (go_wp2_with fail); refine (qof_ok s1 a3 l1 c3 z1 b3 m1 d3 y1 v x4 ⟨hk.1, hk.2.1, hk.2.2.2.2.1.1, hk.2.2.2.2.1.2⟩ HL.out.1 HL.out.2 HN.out hk.2.2.2.2.2.1 hk.2.2.2.2.2.2.1).mono ?_; rintro e x5 ⟨s2, a2, l2, c2, z2, b2, m2, d2, y2, rfl, hr, -, hb⟩; replace V0 := Va.after hb V0; replace V1 := Va.after hb V1; replace V2 := Va.after hb V2; replace Vp := Va.after hb Vp; replace hq := Rr.after hb hq; replace hk := Rr.after hb hk; replace B0 := step B0 hb; clear hb; have lp3 := V1.lt; have lp4 := V2.lt; have lp5 := Vp.lt; (go_wp2_with fail); clear hk; refine ent1 x5 _ _ (Q := fun W => Code.wp Tryz.prog _ _ _ W) ?_
 intro x6 hb hs_x6 Vr; replace V0 := Va.after hb V0; replace V1 := Va.after hb V1; replace V2 := Va.after hb V2; replace Vp := Va.after hb Vp; replace hq := Rr.after hb hq; replace hr := Rt.after hb hr; replace B0 := step B0 hb; clear hb hs_x6; refine wp_region_noPanic ?_; replace V0 : Va x6.drew _ _ _ := V0; replace V1 : Va x6.drew _ _ _ := V1; replace V2 : Va x6.drew _ _ _ := V2; replace Vp : Va x6.drew _ _ _ := Vp; replace Vr : Va x6.drew _ _ _ := Vr; replace hq := hq.drw; replace hr := hr.drw; replace B0 := Below.drew B0; refine wp_region_held_drew (S := (fun W => W.cell? ⟨x5.heap.size, 0, none⟩ = some (.bool s2) ∧ W.cell? ⟨x5.heap.size, 1, none⟩ = some (.slice a2 l2 c2) ∧ W.cell? ⟨x5.heap.size, 2, none⟩ = some (.slice b2 m2 d2) ∧ W.cell? ⟨x2.heap.size, 0, none⟩ = some (.bool s1) ∧ W.cell? ⟨x2.heap.size, 1, none⟩ = some (.slice a1 l1 c1) ∧ W.cell? ⟨x2.heap.size, 2, none⟩ = some (.slice b1 m1 d1))) (by kernel_rfl) ⟨Vr.d0, Vr.d1, Vr.d2, Vp.d0, Vp.d1, Vp.d2⟩ (fun hHeld => ?_)
 (obtain ⟨x7, hxd⟩ : ∃ xd, xd = x6.drew := ⟨_, rfl⟩); rw [← hxd] at V0 V1 V2 Vp Vr hq hr B0 hHeld ⊢; clear hxd; refine tk 0 rfl hHeld ?_; simp only [gA, gB, Act.put, gD, gE, gF]; refine tk 1 rfl hHeld ?_; simp only [gA, gB, gC, Act.put, gD, gE, gF]; refine tk 2 rfl hHeld ?_; simp only [gA, gB, gC, Act.put, gD, gE, gF]; refine tk 3 rfl hHeld ?_; simp only [gA, gB, gC, Act.put, gD, gE, gF]; have c_V1 := V1.d0; have f0_V1 := V1.frozen 0; have d_V1 := V1.d1; have f1_V1 := V1.frozen 1; have e_V1 := V1.d2; have f2_V1 := V1.frozen 2; have l_V1 := V1.lt; have m_V1 := Nat.le_of_lt l_V1; refine wpAnyH_ready (rs := [4]) (by kernel_rfl) (by simp) ?_; refine AllReadyH.cons rfl (fun K hK => ?_) AllReadyH.nil; simp only [gA, gB, gC]; (go_simp); clear c_V1 f0_V1 d_V1 f1_V1 e_V1 f2_V1 l_V1 m_V1; refine sto3 V1 (.bool s2) (.slice a2 l2 c2) (.slice b2 m2 d2) (Q := fun W => K _ W) ?_; intro x8 V' oth far; replace V0 := oth _ _ _ (by first | omega | assumption | (simp; omega)) V0
 replace V2 := oth _ _ _ (by first | omega | assumption | (simp; omega)) V2; replace Vp := oth _ _ _ (by first | omega | assumption | (simp; omega)) Vp; replace Vr := oth _ _ _ (by first | omega | assumption | (simp; omega)) Vr; replace hq := hq.far V1 (noInt3 _ _ _ _ _ _ _) far.1; replace hr := hr.far V1 (noInt3 _ _ _ _ _ _ _) far.1; replace B0 := far.2 _ _ (by first | omega | (simp; omega)) B0; replace V1 := V'; clear oth far; refine hK.out _ _ ⟨Vr.d0, Vr.d1, Vr.d2, Vp.d0, Vp.d1, Vp.d2⟩ (fun hHeld => ?_); clear hK K; have c_V2 := V2.d0; have f0_V2 := V2.frozen 0; have d_V2 := V2.d1; have f1_V2 := V2.frozen 1; have e_V2 := V2.d2; have f2_V2 := V2.frozen 2; have l_V2 := V2.lt; have m_V2 := Nat.le_of_lt l_V2; refine wpAnyH_ready (rs := [5]) (by kernel_rfl) (by simp) ?_; refine AllReadyH.cons rfl (fun K hK => ?_) AllReadyH.nil; simp only [gA, gB, gC]; (go_simp); clear c_V2 f0_V2 d_V2 f1_V2 e_V2 f2_V2 l_V2 m_V2; refine sto3 V2 (.bool s1) (.slice a1 l1 c1) (.slice b1 m1 d1) (Q := fun W => K _ W) ?_
 intro x9 V' oth far; replace V0 := oth _ _ _ (by first | omega | assumption | (simp; omega)) V0; replace V1 := oth _ _ _ (by first | omega | assumption | (simp; omega)) V1; replace Vp := oth _ _ _ (by first | omega | assumption | (simp; omega)) Vp; replace Vr := oth _ _ _ (by first | omega | assumption | (simp; omega)) Vr; replace hq := hq.far V2 (noInt3 _ _ _ _ _ _ _) far.1; replace hr := hr.far V2 (noInt3 _ _ _ _ _ _ _) far.1; replace B0 := far.2 _ _ (by first | omega | (simp; omega)) B0; replace V2 := V'; clear oth far; refine hK.out _ _ ⟨Vr.d0, Vr.d1, Vr.d2, Vp.d0, Vp.d1, Vp.d2⟩ (fun hHeld => ?_); clear hK K; refine tk 6 rfl hHeld ?_; simp only [gA, gB, gC, Act.put, gD, gE, gF]; refine wpAnyH_done (by kernel_rfl) ?_ _; refine NoPanic.normal ?_; clear hHeld; (go_wp2_with fail); refine bodyPost_ret (results_rat rfl rfl V1 rfl V2) rfl ?_; exact ⟨s2, a2, l2, c2, z2, b2, m2, d2, y2, s1, a1, l1, c1, z1, b1, m1, d1, y1, v, rfl, hr, hq, HPC, B0⟩

theorem of7 (s : Bool) (a : Option Addr) (l c : Nat) (zs : List Int) (b : Option Addr) (m d : Nat) (ys : List Int) (w : World) (h1 : Sl w a l zs) (h2 : Sl w b m ys) (hc : l ≤ c) (hd : m ≤ d) :
    Calls Tryz.prog 5 #[.agg #[.bool s, .slice a l c, .slice b m d]] w fun e w' => ∃ s2 a2 l2 c2 z2 b2 m2 d2 y2 s1 a1 l1 c1 z1 b1 m1 d1 y1 v, e = .returned (.tuple #[.agg #[.bool s2, .slice a2 l2 c2, .slice b2 m2 d2], .agg #[.bool s1, .slice a1 l1 c1, .slice b1 m1 d1], .bool true]) ∧ Rt w' s2 a2 l2 c2 z2 b2 m2 d2 y2 v ∧ Rr w' s1 a1 l1 c1 z1 b1 m1 d1 y1 v ∧ Below w.heap.size w w' := by
  refine (of7v s a l c zs b m d ys w h1 h2 hc hd).mono ?_
  rintro e w' ⟨s2, a2, l2, c2, z2, b2, m2, d2, y2, s1, a1, l1, c1, z1, b1, m1, d1, y1, v, e1, e2, e3, -, e4⟩
  exact ⟨s2, a2, l2, c2, z2, b2, m2, d2, y2, s1, a1, l1, c1, z1, b1, m1, d1, y1, v, e1, e2, e3, e4⟩

end Go.Proofs.YtegfklapgbggfaaGreat
namespace Go.Proofs.YtegfklapgbggfaaGreat
open Go.RowKit Go.Shelf
set_option linter.unusedVariables false

theorem results_rat1 {fn : Func} {i j b : Nat} {x y z : Value} {tmps : Array Value} {w : World} (h : fn.results = #[.cell i 31, .tmp j]) (hi : tmps.getD i undef = .pointer (some ⟨b, 0, none⟩)) (hv : Va w b 31 #[x, y, z]) :
    (results fn tmps).run Tryz.prog w = .ok (.tuple #[.agg #[x, y, z], tmps.getD j undef]) w := by
  have c := hv.d0; have d := hv.d1; have e := hv.d2
  rw [Array.getD_eq_getD_getElem?] at hi
  simp [results, h, hi, c, d, e, go_sem]
theorem mul_val9 {s1 s2 : Bool} {z1 z2 zA : List Int} {u v : Rat} {D : Int} (e1 : iv s1 z1 = u.num) (e2 : iv s2 z2 = v.num) (eA : num zA = num z1 * num z2) (hD : D = (u.den : Int) * (v.den : Int)) : Rat.divInt (iv (!(s1 == s2)) zA) D = u * v := by
  have e : iv (!(s1 == s2)) zA = u.num * v.num := by
    rw [← e1, ← e2]
    cases s1 <;> cases s2 <;> simp only [iv_t, iv_f, eA, beq_self_eq_true, Bool.not_true, Bool.not_false, show (false == true) = false from rfl, show (true == false) = false from rfl] <;> grind
  rw [e, hD, Rat.mul_def, Rat.normalize_eq_mkRat, ← Rat.divInt_ofNat, Int.natCast_mul]
theorem short_sz {v : Rat} (h : Short v) : Sz 4000 v := (show Sz 1024 v from ⟨h.1, h.2⟩).mono (by omega)
/-- A number over another one, as it is made. -/
def qv (v t : Rat) : Rat := Rat.divInt (v.num * (t.den : Int)) ((v.den : Int) * t.num)
theorem qv_val {s1 : Bool} {z1 zA : List Int} {v t : Rat} {D y : Int} (e1 : iv s1 z1 = v.num) (ey : y = (t.den : Int)) (eA : num zA = num z1 * y) (hD : D = (v.den : Int) * t.num) : Rat.divInt (iv s1 zA) D = qv v t := by
  have e : iv s1 zA = v.num * (t.den : Int) := by
    rw [← e1, ← ey]
    cases s1
    · rw [iv_f, iv_f, eA]
    · rw [iv_t, iv_t, eA]; grind
  rw [e, hD]; rfl
theorem qv_sz {v t : Rat} (h1 : Short v) (h2 : Short t) (ht : 0 < t.num) : Sz 2048 (qv v t) := by
  have hd := v.den_pos
  have p : 0 < (v.den : Int) * t.num := Int.mul_pos (by omega) ht
  have e : (v.den : Int) * t.num = (((v.den : Int) * t.num).toNat : Int) := by omega
  have e2 : (v.den : Int) * t.num < pw 2048 := rt_fits (by omega) (by omega) h1.2 (show t.num < pw 1024 by have := h2.1; omega) (by omega)
  unfold qv
  rw [e, Rat.divInt_ofNat]
  exact Sz.mk (by omega) (h1.mul h2) (by omega)
theorem rnd_scale {q n d g : Int} (hd : 0 < d) (hg : 0 < g) : rnd q (n * g) (d * g) = rnd q n d := by
  have e1 : n * g % (d * g) = n % d * g := by rw [Int.mul_comm n g, Int.mul_comm d g, Int.mul_emod_mul_of_pos _ _ hg, Int.mul_comm]
  have e2 : n * g / (d * g) = n / d := by rw [Int.mul_comm n g, Int.mul_comm d g, Int.mul_ediv_mul_of_pos _ _ hg]
  unfold rnd
  rw [e1, e2]
  by_cases hz : n % d = 0
  · rw [if_pos hz, if_pos (by rw [hz, Int.zero_mul])]
  · rw [if_neg hz, if_neg (Int.mul_ne_zero hz (by omega))]
    have e3 : cmp3 (2 * (n % d * g)) (d * g) = cmp3 (2 * (n % d)) d := by
      rw [show 2 * (n % d * g) = 2 * (n % d) * g by grind]
      rcases Int.lt_trichotomy (2 * (n % d)) d with h | h | h
      · rw [cmp3_lt h, cmp3_lt (Int.mul_lt_mul_of_pos_right h hg)]
      · rw [cmp3_eq h, cmp3_eq (by rw [h])]
      · rw [cmp3_gt h, cmp3_gt (Int.mul_lt_mul_of_pos_right h hg)]
    rw [e3]
theorem rnd_low {q N D : Int} (hD : 0 < D) : rnd q (Rat.divInt N D).num (Rat.divInt N D).den = rnd q N D := by
  have e : D = ((D.toNat : Nat) : Int) := by omega
  have hd := (Rat.divInt N D).den_pos
  have x : mkRat (Rat.divInt N D).num (Rat.divInt N D).den = mkRat N D.toNat := by rw [Rat.mkRat_self, ← Rat.divInt_ofNat, ← e]
  rw [Rat.mkRat_eq_iff (by omega) (by omega)] at x
  rw [← rnd_scale (q := q) (n := (Rat.divInt N D).num) (d := (Rat.divInt N D).den) (g := D) (by omega) hD, ← rnd_scale (q := q) (n := N) (d := D) (g := ((Rat.divInt N D).den : Int)) hD (by omega)]
  rw [← e] at x
  rw [x, Int.mul_comm D]
theorem uv_qv {q : Int} {v t : Rat} (ht : 0 < t.num) : t * ((rnd q (qv v t).num (qv v t).den : Int) : Rat) = uv q v t := by
  have hd := v.den_pos
  unfold qv uv
  rw [rnd_low (Int.mul_pos (by omega) ht), Rat.mul_comm]
theorem prod_fits {q : Int} {v t : Rat} (h1 : Short v) (h2 : Short t) (ht : 0 < t.num) : ∀ n, n = 4000 → (t.num.natAbs : Int) * ((rnd q (qv v t).num (qv v t).den).natAbs : Int) < pw n ∧ (t.den : Int) * 1 < pw n := fun n e => by
  subst e
  have hd := (qv v t).den_pos
  have a := rnd_abs (m := q) (n := (qv v t).num) (d := ((qv v t).den : Int)) (by omega)
  refine ⟨rt_fits (by omega) (by omega) h2.1 (Int.lt_of_le_of_lt a (qv_sz h1 h2 ht).1) (by omega), ?_⟩
  rw [Int.mul_one]; exact Int.lt_of_lt_of_le h2.2 (pw_mono (by omega))
theorem rnd_sz {q : Int} {n : Nat} (hn : 1 ≤ n) {v : Rat} (h : Sz n v) : Sz n ((rnd q v.num v.den : Int) : Rat) := by
  have hd := v.den_pos
  exact ⟨Int.lt_of_le_of_lt (rnd_abs (m := q) (n := v.num) (d := (v.den : Int)) (by omega)) h.1, one_lt_pw hn⟩
/-- What the document's Units answers. -/
def RuP (w : World) (v : Rat) (e : Ending) (w' : World) : Prop := ∃ er s' a' l' c' zs' b' m' d' ys' v', e = .returned (.tuple #[.agg #[.bool s', .slice a' l' c', .slice b' m' d'], .int .i64 er]) ∧ Rr w' s' a' l' c' zs' b' m' d' ys' v' ∧ Hid (RA v er v') ∧ Below w.heap.size w w'

set_option maxHeartbeats 4000000 in
theorem rmul9 (s1 : Bool) (a1 : Option Addr) (l1 c1 : Nat) (z1 : List Int) (b1 : Option Addr) (m1 d1 : Nat) (y1 : List Int) (u : Rat) (s2 : Bool) (a2 : Option Addr) (l2 c2 : Nat) (z2 : List Int) (b2 : Option Addr) (m2 d2 : Nat) (y2 : List Int) (v : Rat) (w : World) (h1 : Rr w s1 a1 l1 c1 z1 b1 m1 d1 y1 u) (h2 : Rr w s2 a2 l2 c2 z2 b2 m2 d2 y2 v) (t1 : Sz 4000 u) (t2 : Sz 4000 v) (t3 : ∀ n, n = 4000 → (u.num.natAbs : Int) * (v.num.natAbs : Int) < pw n ∧ (u.den : Int) * (v.den : Int) < pw n) :
  Calls Tryz.prog 29 #[.agg #[.bool s1, .slice a1 l1 c1, .slice b1 m1 d1], .agg #[.bool s2, .slice a2 l2 c2, .slice b2 m2 d2]] w fun e w' => RrP w (u * v) e w' := by
 obtain ⟨u1, u2⟩ := h1.len9 t1; obtain ⟨u3, u4⟩ := h2.len9 t2; have HL : Hid (l1 ≤ 4000 ∧ m1 ≤ 4000 ∧ l2 ≤ 4000 ∧ m2 ≤ 4000) := ⟨u1, u2, u3, u4⟩; have n1 := num_nonneg h1.1.2.1; have n2 := num_nonneg h2.1.2.1; have HV : Hid (iv s1 z1 = u.num ∧ iv s2 z2 = v.num ∧ num y1 = u.den ∧ num y2 = v.den) := ⟨h1.2.2.2.2.2.1, h2.2.2.2.2.2.1, h1.2.2.2.2.2.2.1, h2.2.2.2.2.2.2.1⟩
 have HF : Hid (∀ n, n = 4000 → num z1 * num z2 < pw n ∧ num y1 * num y2 < pw n ∧ num y1 * num y2 ≠ 0) := fun n e => by
  rw [natAbs_iv HV.out.1 n1, natAbs_iv HV.out.2.1 n2, HV.out.2.2.1, HV.out.2.2.2]; have p1 := u.den_pos; have p2 := v.den_pos; exact ⟨(t3 n e).1, (t3 n e).2, Int.mul_ne_zero (by omega) (by omega)⟩
 clear t1 t2 t3 u1 u2 u3 u4 n1 n2; have B0 : Below w.heap.size w w := Below.refl _ _
 go_enter Tryz.func29, Tryz.ntmps29
 (go_wp2_with fail); refine ent3 w _ _ _ _ _ _ (Q := fun W => Code.wp Tryz.prog _ _ _ W) ?_; intro x1 hb hs_x1 V0 V1 V2; replace h1 := Rr.after hb h1; replace h2 := Rr.after hb h2; replace B0 := step B0 hb; clear hb hs_x1; refine wp_region_noPanic ?_; replace V0 : Va x1.drew _ _ _ := V0; replace V1 : Va x1.drew _ _ _ := V1; replace V2 : Va x1.drew _ _ _ := V2; replace h1 := h1.drw; replace h2 := h2.drw; replace B0 := Below.drew B0; refine wp_region_held_drew (S := (fun W => W.cell? ⟨w.heap.size, 0, none⟩ = some (.bool s1) ∧ W.cell? ⟨w.heap.size, 1, none⟩ = some (.slice a1 l1 c1) ∧ W.cell? ⟨w.heap.size, 2, none⟩ = some (.slice b1 m1 d1) ∧ W.cell? ⟨w.heap.size + 1, 0, none⟩ = some (.bool s2) ∧ W.cell? ⟨w.heap.size + 1, 1, none⟩ = some (.slice a2 l2 c2) ∧ W.cell? ⟨w.heap.size + 1, 2, none⟩ = some (.slice b2 m2 d2))) (by kernel_rfl) ⟨V0.d0, V0.d1, V0.d2, V1.d0, V1.d1, V1.d2⟩ (fun hHeld => ?_); (obtain ⟨x2, hxd⟩ : ∃ xd, xd = x1.drew := ⟨_, rfl⟩)
 rw [← hxd] at V0 V1 V2 h1 h2 B0 hHeld ⊢; clear hxd; refine tk 0 rfl hHeld ?_; simp only [gA, gB, Act.put, gD, gE, gF]; refine tk 1 rfl hHeld ?_; simp only [gA, gB, gC, Act.put, gD, gE, gF]; refine tk 2 rfl hHeld ?_; simp only [gA, gB, gC, Act.put, gD, gE, gF]; refine tk 3 rfl hHeld ?_; simp only [gA, gB, gC, Act.put, gD, gE, gF]; refine tk 4 rfl hHeld ?_; simp only [gA, gB, gC, Act.put, gD, gE, gF]; refine tk 5 rfl hHeld ?_; simp only [gA, gB, gC, Act.put, gD, gE, gF]; refine tk 6 rfl hHeld ?_; simp only [gA, gB, gC, Act.put, gD, gE, gF]; refine tk 7 rfl hHeld ?_; simp only [gA, gB, gC, Act.put, gD, gE, gF]; refine tk 8 rfl hHeld ?_; simp only [gA, gB, gC, Act.put, gD, gE, gF]; refine tk 10 rfl hHeld ?_; simp only [gA, gB, gC, Act.put, gD, gE, gF]; refine tk 11 rfl hHeld ?_; simp only [gA, gB, gC, Act.put, gD, gE, gF]; refine tk 12 rfl hHeld ?_; simp only [gA, gB, gC, Act.put, gD, gE, gF]; refine tk 13 rfl hHeld ?_; simp only [gA, gB, gC, Act.put, gD, gE, gF]
 refine wpAnyH_ready (rs := [9]) (by kernel_rfl) (by simp) ?_; refine AllReadyH.cons rfl (fun K hK => ?_) AllReadyH.nil; simp only [gA, gB, gC]; (go_simp); refine (rmul_any a1 a2 l1 c1 l2 c2 z1 z2 _ h1.1 h2.1 (by have := HL.out; omega) (by have := HL.out; omega)).mono ?_; rintro e x3 ⟨a5, l5, c5, z5, rfl, k5, t5, h5, u5, e5, hb⟩; replace V0 := Va.after hb V0; replace V1 := Va.after hb V1; replace V2 := Va.after hb V2; replace h1 := Rr.after hb h1; replace h2 := Rr.after hb h2; replace B0 := step B0 hb; clear hb; (try go_wp2_with fail); refine hK.out _ _ ⟨V0.d0, V0.d1, V0.d2, V1.d0, V1.d1, V1.d2⟩ (fun hHeld => ?_); clear hK K; refine wpAnyH_ready (rs := [14]) (by kernel_rfl) (by simp) ?_; refine AllReadyH.cons rfl (fun K hK => ?_) AllReadyH.nil; simp only [gA, gB, gC]; (go_simp); refine (rmul_any b1 b2 m1 d1 m2 d2 y1 y2 _ h1.2.1 h2.2.1 (by have := HL.out; omega) (by have := HL.out; omega)).mono ?_; rintro e x4 ⟨a6, l6, c6, z6, rfl, k6, t6, h6, u6, e6, hb⟩
 replace V0 := Va.after hb V0; replace V1 := Va.after hb V1; replace V2 := Va.after hb V2; replace h1 := Rr.after hb h1; replace h2 := Rr.after hb h2; replace h5 := Sl.after hb h5; replace B0 := step B0 hb; clear hb; (try go_wp2_with fail); refine hK.out _ _ ⟨V0.d0, V0.d1, V0.d2, V1.d0, V1.d1, V1.d2⟩ (fun hHeld => ?_); clear hK K; refine wpAnyH_ready (rs := [15]) (by kernel_rfl) (by simp) ?_; refine AllReadyH.cons rfl (fun K hK => ?_) AllReadyH.nil; simp only [gA, gB, gC]; (go_simp); refine (rmake5 _ a5 a6 l5 c5 l6 c6 z5 z6 _ h5 h6 k5 k6 (by have := HL.out; omega) (by have := HL.out; omega) (used_of_lt h5.2.1 (by rw [e5]; exact Int.lt_of_lt_of_le (HF.out 4000 rfl).1 (pw_mono (by omega)))) (used_of_lt h6.2.1 (by rw [e6]; exact Int.lt_of_lt_of_le (HF.out 4000 rfl).2.1 (pw_mono (by omega)))) (by rw [e6]; exact (HF.out 4000 rfl).2.2)).mono ?_; rintro e x5 ⟨s7, a7, l7, c7, z7, b7, m7, d7, y7, rfl, h7, -, -, hb⟩; replace V0 := Va.after hb V0
 replace V1 := Va.after hb V1; replace V2 := Va.after hb V2; replace h1 := Rr.after hb h1; replace h2 := Rr.after hb h2; replace h5 := Sl.after hb h5; replace h6 := Sl.after hb h6; replace B0 := step B0 hb; clear hb; rw [mul_val9 HV.out.1 HV.out.2.1 e5 (by rw [e6, HV.out.2.2.1, HV.out.2.2.2])] at h7; (try go_wp2_with fail); refine hK.out _ _ ⟨V0.d0, V0.d1, V0.d2, V1.d0, V1.d1, V1.d2⟩ (fun hHeld => ?_); clear hK K; have c_V2 := V2.d0; have f0_V2 := V2.frozen 0; have d_V2 := V2.d1; have f1_V2 := V2.frozen 1; have e_V2 := V2.d2; have f2_V2 := V2.frozen 2; have l_V2 := V2.lt; have m_V2 := Nat.le_of_lt l_V2; refine wpAnyH_ready (rs := [16]) (by kernel_rfl) (by simp) ?_; refine AllReadyH.cons rfl (fun K hK => ?_) AllReadyH.nil; simp only [gA, gB, gC]; (go_simp); clear c_V2 f0_V2 d_V2 f1_V2 e_V2 f2_V2 l_V2 m_V2; refine sto3 V2 (.bool s7) (.slice a7 l7 c7) (.slice b7 m7 d7) (Q := fun W => K _ W) ?_; intro x6 V' oth far; replace V0 := oth _ _ _ (by first | omega | assumption | (simp; omega)) V0
 replace V1 := oth _ _ _ (by first | omega | assumption | (simp; omega)) V1; replace h1 := h1.far V2 (noInt3 _ _ _ _ _ _ _) far.1; replace h2 := h2.far V2 (noInt3 _ _ _ _ _ _ _) far.1; replace h5 := h5.far V2 (noInt3 _ _ _ _ _ _ _) far.1; replace h6 := h6.far V2 (noInt3 _ _ _ _ _ _ _) far.1; replace h7 := h7.far V2 (noInt3 _ _ _ _ _ _ _) far.1; replace B0 := far.2 _ _ (by first | omega | (simp; omega)) B0; replace V2 := V'; clear oth far; refine hK.out _ _ ⟨V0.d0, V0.d1, V0.d2, V1.d0, V1.d1, V1.d2⟩ (fun hHeld => ?_); clear hK K; refine wpAnyH_done (by kernel_rfl) ?_ _; refine NoPanic.normal ?_; clear hHeld; (go_wp2_with fail); refine bodyPost_ret (results_ra rfl rfl V2) rfl ?_; exact ⟨s7, a7, l7, c7, z7, b7, m7, d7, y7, rfl, h7, B0⟩

set_option maxHeartbeats 4000000 in
theorem rquo9 (s1 : Bool) (a1 : Option Addr) (l1 c1 : Nat) (z1 : List Int) (b1 : Option Addr) (m1 d1 : Nat) (y1 : List Int) (u : Rat) (s2 : Bool) (a2 : Option Addr) (l2 c2 : Nat) (z2 : List Int) (b2 : Option Addr) (m2 d2 : Nat) (y2 : List Int) (v : Rat) (w : World) (h1 : Rr w s1 a1 l1 c1 z1 b1 m1 d1 y1 u) (h2 : Rr w s2 a2 l2 c2 z2 b2 m2 d2 y2 v) (t1 : Short u) (t2 : Short v) (t3 : 0 < v.num) :
    Calls Tryz.prog 31 #[.agg #[.bool s1, .slice a1 l1 c1, .slice b1 m1 d1], .agg #[.bool s2, .slice a2 l2 c2, .slice b2 m2 d2]] w fun e w' => RrP w (qv u v) e w' := by
  obtain ⟨u1, u2⟩ := h1.len9 (short_sz t1); obtain ⟨u3, u4⟩ := h2.len9 (short_sz t2); have HL : Hid (l1 ≤ 4000 ∧ m1 ≤ 4000 ∧ l2 ≤ 4000 ∧ m2 ≤ 4000) := ⟨u1, u2, u3, u4⟩; have n1 := num_nonneg h1.1.2.1; have n2 := num_nonneg h2.1.2.1; have HV : Hid (iv s1 z1 = u.num ∧ iv s2 z2 = v.num ∧ num y1 = u.den ∧ num y2 = v.den) := ⟨h1.2.2.2.2.2.1, h2.2.2.2.2.2.1, h1.2.2.2.2.2.2.1, h2.2.2.2.2.2.2.1⟩
  have hs2 : s2 = false := by
    have h5 := HV.out.2.1
    cases s2
    · rfl
    · rw [iv_t] at h5; omega
  subst hs2; have e2 : num z2 = v.num := HV.out.2.1
  have HF : Hid (∀ n, n = 4000 → num z1 * num y2 < pw n ∧ num y1 * num z2 < pw n ∧ num y1 * num z2 ≠ 0) := fun n e => by
    subst e; rw [natAbs_iv HV.out.1 n1, e2, HV.out.2.2.1, HV.out.2.2.2]; have p1 := u.den_pos; have p2 := v.den_pos; refine ⟨rt_fits (by omega) (by omega) t1.1 t2.2 (by omega), rt_fits (by omega) (by omega) t1.2 (show v.num < pw 1024 by have := t2.1; omega) (by omega), Int.mul_ne_zero (by omega) (by omega)⟩
  have HZ : Hid (num z2 = v.num) := e2; clear t1 t2 t3 u1 u2 u3 u4 n1 n2 e2; have B0 : Below w.heap.size w w := Below.refl _ _
  go_enter Tryz.func31, Tryz.ntmps31
  (go_wp2_with fail); refine ent3 w _ _ _ _ _ _ (Q := fun W => Code.wp Tryz.prog _ _ _ W) ?_; intro x1 hb hs_x1 V0 V1 V2; replace h1 := Rr.after hb h1; replace h2 := Rr.after hb h2; replace B0 := step B0 hb; clear hb hs_x1; refine wp_region_noPanic ?_; replace V0 : Va x1.drew _ _ _ := V0; replace V1 : Va x1.drew _ _ _ := V1; replace V2 : Va x1.drew _ _ _ := V2; replace h1 := h1.drw; replace h2 := h2.drw; replace B0 := Below.drew B0; refine wp_region_held_drew (S := (fun W => W.cell? ⟨w.heap.size, 0, none⟩ = some (.bool s1) ∧ W.cell? ⟨w.heap.size, 1, none⟩ = some (.slice a1 l1 c1) ∧ W.cell? ⟨w.heap.size, 2, none⟩ = some (.slice b1 m1 d1) ∧ W.cell? ⟨w.heap.size + 1, 0, none⟩ = some (.bool false) ∧ W.cell? ⟨w.heap.size + 1, 1, none⟩ = some (.slice a2 l2 c2) ∧ W.cell? ⟨w.heap.size + 1, 2, none⟩ = some (.slice b2 m2 d2))) (by kernel_rfl) ⟨V0.d0, V0.d1, V0.d2, V1.d0, V1.d1, V1.d2⟩ (fun hHeld => ?_); (obtain ⟨x2, hxd⟩ : ∃ xd, xd = x1.drew := ⟨_, rfl⟩)
  rw [← hxd] at V0 V1 V2 h1 h2 B0 hHeld ⊢; clear hxd; refine tk 0 rfl hHeld ?_; simp only [gA, gB, Act.put, gD, gE, gF]; refine tk 1 rfl hHeld ?_; simp only [gA, gB, gC, Act.put, gD, gE, gF]; refine tk 2 rfl hHeld ?_; simp only [gA, gB, gC, Act.put, gD, gE, gF]; refine tk 3 rfl hHeld ?_; simp only [gA, gB, gC, Act.put, gD, gE, gF]; refine tk 4 rfl hHeld ?_; simp only [gA, gB, gC, Act.put, gD, gE, gF]; refine tk 5 rfl hHeld ?_; simp only [gA, gB, gC, Act.put, gD, gE, gF]; refine tk 6 rfl hHeld ?_; simp only [gA, gB, gC, Act.put, gD, gE, gF]; refine tk 7 rfl hHeld ?_; simp only [gA, gB, gC, Act.put, gD, gE, gF]; refine tk 8 rfl hHeld ?_; simp only [gA, gB, gC, Act.put, gD, gE, gF]; refine tk 10 rfl hHeld ?_; simp only [gA, gB, gC, Act.put, gD, gE, gF]; refine tk 11 rfl hHeld ?_; simp only [gA, gB, gC, Act.put, gD, gE, gF]; refine tk 12 rfl hHeld ?_; simp only [gA, gB, gC, Act.put, gD, gE, gF]; refine tk 13 rfl hHeld ?_; simp only [gA, gB, gC, Act.put, gD, gE, gF]
  refine wpAnyH_ready (rs := [9]) (by kernel_rfl) (by simp) ?_; refine AllReadyH.cons rfl (fun K hK => ?_) AllReadyH.nil; simp only [gA, gB, gC]; (go_simp); refine (rmul_any a1 b2 l1 c1 m2 d2 z1 y2 _ h1.1 h2.2.1 (by have := HL.out; omega) (by have := HL.out; omega)).mono ?_; rintro e x3 ⟨a5, l5, c5, z5, rfl, k5, t5, h5, u5, e5, hb⟩; replace V0 := Va.after hb V0; replace V1 := Va.after hb V1; replace V2 := Va.after hb V2; replace h1 := Rr.after hb h1; replace h2 := Rr.after hb h2; replace B0 := step B0 hb; clear hb; (try go_wp2_with fail); refine hK.out _ _ ⟨V0.d0, V0.d1, V0.d2, V1.d0, V1.d1, V1.d2⟩ (fun hHeld => ?_); clear hK K; refine wpAnyH_ready (rs := [14]) (by kernel_rfl) (by simp) ?_; refine AllReadyH.cons rfl (fun K hK => ?_) AllReadyH.nil; simp only [gA, gB, gC]; (go_simp); refine (rmul_any b1 a2 m1 d1 l2 c2 y1 z2 _ h1.2.1 h2.1 (by have := HL.out; omega) (by have := HL.out; omega)).mono ?_; rintro e x4 ⟨a6, l6, c6, z6, rfl, k6, t6, h6, u6, e6, hb⟩
  replace V0 := Va.after hb V0; replace V1 := Va.after hb V1; replace V2 := Va.after hb V2; replace h1 := Rr.after hb h1; replace h2 := Rr.after hb h2; replace h5 := Sl.after hb h5; replace B0 := step B0 hb; clear hb; (try go_wp2_with fail); refine hK.out _ _ ⟨V0.d0, V0.d1, V0.d2, V1.d0, V1.d1, V1.d2⟩ (fun hHeld => ?_); clear hK K; refine wpAnyH_ready (rs := [15]) (by kernel_rfl) (by simp) ?_; refine AllReadyH.cons rfl (fun K hK => ?_) AllReadyH.nil; simp only [gA, gB, gC]; (go_simp); refine (rmake5 _ a5 a6 l5 c5 l6 c6 z5 z6 _ h5 h6 k5 k6 (by have := HL.out; omega) (by have := HL.out; omega) (used_of_lt h5.2.1 (by rw [e5]; exact Int.lt_of_lt_of_le (HF.out 4000 rfl).1 (pw_mono (by omega)))) (used_of_lt h6.2.1 (by rw [e6]; exact Int.lt_of_lt_of_le (HF.out 4000 rfl).2.1 (pw_mono (by omega)))) (by rw [e6]; exact (HF.out 4000 rfl).2.2)).mono ?_; rintro e x5 ⟨s7, a7, l7, c7, z7, b7, m7, d7, y7, rfl, h7, -, -, hb⟩; replace V0 := Va.after hb V0
  replace V1 := Va.after hb V1; replace V2 := Va.after hb V2; replace h1 := Rr.after hb h1; replace h2 := Rr.after hb h2; replace h5 := Sl.after hb h5; replace h6 := Sl.after hb h6; replace B0 := step B0 hb; clear hb; rw [qv_val HV.out.1 HV.out.2.2.2 e5 (by rw [e6, HV.out.2.2.1, HZ.out])] at h7; (try go_wp2_with fail); refine hK.out _ _ ⟨V0.d0, V0.d1, V0.d2, V1.d0, V1.d1, V1.d2⟩ (fun hHeld => ?_); clear hK K; have c_V2 := V2.d0; have f0_V2 := V2.frozen 0; have d_V2 := V2.d1; have f1_V2 := V2.frozen 1; have e_V2 := V2.d2; have f2_V2 := V2.frozen 2; have l_V2 := V2.lt; have m_V2 := Nat.le_of_lt l_V2; refine wpAnyH_ready (rs := [16]) (by kernel_rfl) (by simp) ?_; refine AllReadyH.cons rfl (fun K hK => ?_) AllReadyH.nil; simp only [gA, gB, gC]; (go_simp); clear c_V2 f0_V2 d_V2 f1_V2 e_V2 f2_V2 l_V2 m_V2; refine sto3 V2 (.bool s7) (.slice a7 l7 c7) (.slice b7 m7 d7) (Q := fun W => K _ W) ?_; intro x6 V' oth far; replace V0 := oth _ _ _ (by first | omega | assumption | (simp; omega)) V0
  replace V1 := oth _ _ _ (by first | omega | assumption | (simp; omega)) V1; replace h1 := h1.far V2 (noInt3 _ _ _ _ _ _ _) far.1; replace h2 := h2.far V2 (noInt3 _ _ _ _ _ _ _) far.1; replace h5 := h5.far V2 (noInt3 _ _ _ _ _ _ _) far.1; replace h6 := h6.far V2 (noInt3 _ _ _ _ _ _ _) far.1; replace h7 := h7.far V2 (noInt3 _ _ _ _ _ _ _) far.1; replace B0 := far.2 _ _ (by first | omega | (simp; omega)) B0; replace V2 := V'; clear oth far; refine hK.out _ _ ⟨V0.d0, V0.d1, V0.d2, V1.d0, V1.d1, V1.d2⟩ (fun hHeld => ?_); clear hK K; refine wpAnyH_done (by kernel_rfl) ?_ _; refine NoPanic.normal ?_; clear hHeld; (go_wp2_with fail); refine bodyPost_ret (results_ra rfl rfl V2) rfl ?_; exact ⟨s7, a7, l7, c7, z7, b7, m7, d7, y7, rfl, h7, B0⟩

set_option maxHeartbeats 8000000 in
theorem runits_ok (q : Int) (q1 : 1 ≤ q) (q2 : q ≤ 5) (s1 : Bool) (a1 : Option Addr) (l1 c1 : Nat) (z1 : List Int) (b1 : Option Addr) (m1 d1 : Nat) (y1 : List Int) (v : Rat) (s2 : Bool) (a2 : Option Addr) (l2 c2 : Nat) (z2 : List Int) (b2 : Option Addr) (m2 d2 : Nat) (y2 : List Int) (t : Rat) (w : World) (h1 : Rr w s1 a1 l1 c1 z1 b1 m1 d1 y1 v) (h2 : Rr w s2 a2 l2 c2 z2 b2 m2 d2 y2 t) (t1 : Short v) (t2 : Short t) (t3 : 0 < t.num) :
  Calls Tryz.prog 7 #[.agg #[.bool s1, .slice a1 l1 c1, .slice b1 m1 d1], .agg #[.bool s2, .slice a2 l2 c2, .slice b2 m2 d2], .int .i64 q] w fun e w' => RuP w (uv q v t) e w' := by
 have HQ : Hid (1 ≤ q ∧ q ≤ 5 ∧ Short v ∧ Short t ∧ 0 < t.num) := ⟨q1, q2, t1, t2, t3⟩; (have g1 : decide (q < 1) = false := by simp; omega); (have g2 : decide (5 < q) = false := by simp; omega); (have g3 : ¬ (q < 1) := by omega); (have g4 : ¬ (5 < q) := by omega); clear q1 q2 t1 t2 t3; have B0 : Below w.heap.size w w := Below.refl _ _
 go_enter Tryz.func7, Tryz.ntmps7
 (go_wp2_with fail); refine ent3 w _ _ _ _ _ _ (Q := fun W => Calls Tryz.prog _ _ W _) ?_; intro x1 hb hs_x1 V0 V1 V2; replace h1 := Rr.after hb h1; replace h2 := Rr.after hb h2; replace B0 := step B0 hb; clear hb hs_x1; refine (rsign5 s2 a2 l2 c2 z2 b2 m2 d2 y2 t x1 h2).mono ?_; rintro e x2 ⟨rfl, hb⟩; replace V0 := Va.after hb V0; replace V1 := Va.after hb V1; replace V2 := Va.after hb V2; replace h1 := Rr.after hb h1; replace h2 := Rr.after hb h2; replace B0 := step B0 hb; clear hb; rw [Int.sign_eq_one_of_pos HQ.out.2.2.2.2]; (go_wp2_with fail); (have LS : Hid (∀ W, Below x2.heap.size x2 W → (fun W => W.cell? ⟨w.heap.size, 0, none⟩ = some (.bool s1) ∧ W.cell? ⟨w.heap.size, 1, none⟩ = some (.slice a1 l1 c1) ∧ W.cell? ⟨w.heap.size, 2, none⟩ = some (.slice b1 m1 d1) ∧ W.cell? ⟨w.heap.size + 1, 0, none⟩ = some (.bool s2) ∧ W.cell? ⟨w.heap.size + 1, 1, none⟩ = some (.slice a2 l2 c2) ∧ W.cell? ⟨w.heap.size + 1, 2, none⟩ = some (.slice b2 m2 d2)) W) := fun W hb => ⟨(Va.after hb V0).d0, (Va.after hb V0).d1, (Va.after hb V0).d2, (Va.after hb V1).d0, (Va.after hb V1).d1, (Va.after hb V1).d2⟩)
 have lb_V0 := V0.lt; have L_V0 : Hid (Va x2 (w.heap.size) 31 #[.bool s1, .slice a1 l1 c1, .slice b1 m1 d1]) := V0; have lb_V1 := V1.lt; have L_V1 : Hid (Va x2 (w.heap.size + 1) 31 #[.bool s2, .slice a2 l2 c2, .slice b2 m2 d2]) := V1; have lb_V2 := V2.lt; have L_V2 : Hid (Va x2 (w.heap.size + 1 + 1) 31 #[.bool false, .slice none 0 0, .slice none 0 0]) := V2; have L_h1 : Hid (Rr x2 s1 a1 l1 c1 z1 b1 m1 d1 y1 v) := h1; have L_h2 : Hid (Rr x2 s2 a2 l2 c2 z2 b2 m2 d2 y2 t) := h2; have L_B : Hid (Below w.heap.size w x2) := B0; clear V0 V1 V2 h1 h2 B0; have BX := Below.refl x2.heap.size x2
 go_cut [8] (fun s8 wx => ∃ (b8 : Nat) (s5 : Bool) (a5 : Option Addr) (l5 c5 : Nat) (z5 : List Int) (b5 : Option Addr) (m5 d5 : Nat) (y5 : List Int), s8 = .pointer (some ⟨b8, 0, none⟩) ∧ Hid (Va wx b8 31 #[.bool s5, .slice a5 l5 c5, .slice b5 m5 d5]) ∧ Hid (Rr wx s5 a5 l5 c5 z5 b5 m5 d5 y5 (uv q v t)) ∧ Hid (Below x2.heap.size x2 wx) ∧ Hid (w.heap.size + 3 ≤ b8))
 case first =>
  refine wp_region_noPanic ?_; replace BX := Below.drew BX; refine wp_region_held_drew (S := (fun W => W.cell? ⟨w.heap.size, 0, none⟩ = some (.bool s1) ∧ W.cell? ⟨w.heap.size, 1, none⟩ = some (.slice a1 l1 c1) ∧ W.cell? ⟨w.heap.size, 2, none⟩ = some (.slice b1 m1 d1) ∧ W.cell? ⟨w.heap.size + 1, 0, none⟩ = some (.bool s2) ∧ W.cell? ⟨w.heap.size + 1, 1, none⟩ = some (.slice a2 l2 c2) ∧ W.cell? ⟨w.heap.size + 1, 2, none⟩ = some (.slice b2 m2 d2))) (by kernel_rfl) (LS.out _ BX) (fun hHeld => ?_); (obtain ⟨x3, hxd⟩ : ∃ xd, xd = x2.drew := ⟨_, rfl⟩); rw [← hxd] at BX hHeld ⊢; clear hxd; refine tk 0 rfl hHeld ?_; simp only [gA, gB, Act.put, gD, gE, gF]; refine tk 1 rfl hHeld ?_; simp only [gA, gB, gC, Act.put, gD, gE, gF]; refine tk 2 rfl hHeld ?_; simp only [gA, gB, gC, Act.put, gD, gE, gF]; refine tk 4 rfl hHeld ?_; simp only [gA, gB, gC, Act.put, gD, gE, gF]; refine wpAnyH_ready (rs := [3, 7]) (by kernel_rfl) (by simp) ?_
  refine AllReadyH.cons rfl (fun K hK => ?_) (AllReadyH.cons rfl (fun K hK => ?_) AllReadyH.nil)
  ·
   simp only [gA, gB, gC]; (go_simp); refine (rquo9 s1 a1 l1 c1 z1 b1 m1 d1 y1 v s2 a2 l2 c2 z2 b2 m2 d2 y2 t _ (Rr.after BX L_h1.out) (Rr.after BX L_h2.out) HQ.out.2.2.1 HQ.out.2.2.2.1 HQ.out.2.2.2.2).mono ?_; rintro e x4 ⟨s3, a3, l3, c3, z3, b3, m3, d3, y3, rfl, h3, hb⟩; replace BX := step BX hb; clear hb; (try go_wp2_with fail); refine hK.out _ _ (LS.out _ BX) (fun hHeld => ?_); clear hK K; refine wpAnyH_ready (rs := [5, 7]) (by kernel_rfl) (by simp) ?_; refine AllReadyH.cons rfl (fun K hK => ?_) (AllReadyH.cons rfl (fun K hK => ?_) AllReadyH.nil)
   ·
    simp only [gA, gB, gC]; (go_simp); refine (rto9 q HQ.out.1 HQ.out.2.1 s3 a3 l3 c3 z3 b3 m3 d3 y3 (qv v t) _ h3 (qv_sz HQ.out.2.2.1 HQ.out.2.2.2.1 HQ.out.2.2.2.2)).mono ?_; rintro e x5 ⟨s4, a4, l4, c4, z4, b4, m4, d4, y4, rfl, h4, hb⟩; replace h3 := Rr.after hb h3; replace BX := step BX hb; clear hb; (try go_wp2_with fail); refine hK.out _ _ (LS.out _ BX) (fun hHeld => ?_); clear hK K; refine wpAnyH_ready (rs := [6, 7]) (by kernel_rfl) (by simp) ?_; refine AllReadyH.cons rfl (fun K hK => ?_) (AllReadyH.cons rfl (fun K hK => ?_) AllReadyH.nil)
    ·
     simp only [gA, gB, gC]; (go_simp); refine (rmul9 s2 a2 l2 c2 z2 b2 m2 d2 y2 t s4 a4 l4 c4 z4 b4 m4 d4 y4 ((rnd q (qv v t).num (qv v t).den : Int) : Rat) _ (Rr.after BX L_h2.out) h4 (short_sz HQ.out.2.2.2.1) ((rnd_sz (by omega) (qv_sz HQ.out.2.2.1 HQ.out.2.2.2.1 HQ.out.2.2.2.2)).mono (by omega)) (prod_fits HQ.out.2.2.1 HQ.out.2.2.2.1 HQ.out.2.2.2.2)).mono ?_; rintro e x6 ⟨s5, a5, l5, c5, z5, b5, m5, d5, y5, rfl, h5, hb⟩; replace h3 := Rr.after hb h3; replace h4 := Rr.after hb h4; replace BX := step BX hb; clear hb; rw [uv_qv HQ.out.2.2.2.2] at h5; (try go_wp2_with fail); refine hK.out _ _ (LS.out _ BX) (fun hHeld => ?_); clear hK K; refine wpAnyH_ready (rs := [7]) (by kernel_rfl) (by simp) ?_; refine AllReadyH.cons rfl (fun K hK => ?_) AllReadyH.nil
     ·
      simp only [gA, gB, gC]; (go_simp); have sz_Vo := BX.size; refine ent1 _ _ _ (Q := fun V => K _ V) ?_; intro x7 hb hs_ Vo; replace h3 := Rr.after hb h3; replace h4 := Rr.after hb h4; replace h5 := Rr.after hb h5; replace BX := step BX hb; clear hb hs_; refine hK.out _ _ (LS.out _ BX) (fun hHeld => ?_); clear hK K; have c_Vo := Vo.d0; have f0_Vo := Vo.frozen 0; have d_Vo := Vo.d1; have f1_Vo := Vo.frozen 1; have e_Vo := Vo.d2; have f2_Vo := Vo.frozen 2; have l_Vo := Vo.lt; have m_Vo := Nat.le_of_lt l_Vo; refine wpAnyH_ready (rs := [8]) (by kernel_rfl) (by simp) ?_; refine AllReadyH.cons rfl (fun K hK => ?_) AllReadyH.nil; simp only [gA, gB, gC]; (go_simp); clear c_Vo f0_Vo d_Vo f1_Vo e_Vo f2_Vo l_Vo m_Vo; refine sto3 Vo (.bool s5) (.slice a5 l5 c5) (.slice b5 m5 d5) (Q := fun W => K _ W) ?_; intro x8 V' oth far; replace h3 := h3.far Vo (noInt3 _ _ _ _ _ _ _) far.1; replace h4 := h4.far Vo (noInt3 _ _ _ _ _ _ _) far.1; replace h5 := h5.far Vo (noInt3 _ _ _ _ _ _ _) far.1
      replace BX := far.2 _ _ (by first | omega | (simp; omega)) BX; replace Vo := V'; clear oth far; refine hK.out _ _ (LS.out _ BX) (fun hHeld => ?_); clear hK K; refine wpAnyH_done (by kernel_rfl) ?_ _; refine NoPanic.normal ?_; clear hHeld; (go_wp2_with fail)
      go_meet
      exact ⟨_, s5, a5, l5, c5, z5, b5, m5, d5, y5, rfl, Vo, h5, BX, by show _ ≤ _; omega⟩
    ·
     simp only [gA, gB, gC]; (go_simp); have sz_Vo := BX.size; refine ent1 _ _ _ (Q := fun V => K _ V) ?_; intro x6 hb hs_ Vo; replace h3 := Rr.after hb h3; replace h4 := Rr.after hb h4; replace BX := step BX hb; clear hb hs_; refine hK.out _ _ (LS.out _ BX) (fun hHeld => ?_); clear hK K; refine wpAnyH_ready (rs := [6]) (by kernel_rfl) (by simp) ?_; refine AllReadyH.cons rfl (fun K hK => ?_) AllReadyH.nil
     ·
      simp only [gA, gB, gC]; (go_simp); refine (rmul9 s2 a2 l2 c2 z2 b2 m2 d2 y2 t s4 a4 l4 c4 z4 b4 m4 d4 y4 ((rnd q (qv v t).num (qv v t).den : Int) : Rat) _ (Rr.after BX L_h2.out) h4 (short_sz HQ.out.2.2.2.1) ((rnd_sz (by omega) (qv_sz HQ.out.2.2.1 HQ.out.2.2.2.1 HQ.out.2.2.2.2)).mono (by omega)) (prod_fits HQ.out.2.2.1 HQ.out.2.2.2.1 HQ.out.2.2.2.2)).mono ?_; rintro e x7 ⟨s5, a5, l5, c5, z5, b5, m5, d5, y5, rfl, h5, hb⟩; replace Vo := Va.after hb Vo; replace h3 := Rr.after hb h3; replace h4 := Rr.after hb h4; replace BX := step BX hb; clear hb; rw [uv_qv HQ.out.2.2.2.2] at h5; (try go_wp2_with fail); refine hK.out _ _ (LS.out _ BX) (fun hHeld => ?_); clear hK K; have c_Vo := Vo.d0; have f0_Vo := Vo.frozen 0; have d_Vo := Vo.d1; have f1_Vo := Vo.frozen 1; have e_Vo := Vo.d2; have f2_Vo := Vo.frozen 2; have l_Vo := Vo.lt; have m_Vo := Nat.le_of_lt l_Vo; refine wpAnyH_ready (rs := [8]) (by kernel_rfl) (by simp) ?_; refine AllReadyH.cons rfl (fun K hK => ?_) AllReadyH.nil
      simp only [gA, gB, gC]; (go_simp); clear c_Vo f0_Vo d_Vo f1_Vo e_Vo f2_Vo l_Vo m_Vo; refine sto3 Vo (.bool s5) (.slice a5 l5 c5) (.slice b5 m5 d5) (Q := fun W => K _ W) ?_; intro x8 V' oth far; replace h3 := h3.far Vo (noInt3 _ _ _ _ _ _ _) far.1; replace h4 := h4.far Vo (noInt3 _ _ _ _ _ _ _) far.1; replace h5 := h5.far Vo (noInt3 _ _ _ _ _ _ _) far.1; replace BX := far.2 _ _ (by first | omega | (simp; omega)) BX; replace Vo := V'; clear oth far; refine hK.out _ _ (LS.out _ BX) (fun hHeld => ?_); clear hK K; refine wpAnyH_done (by kernel_rfl) ?_ _; refine NoPanic.normal ?_; clear hHeld; (go_wp2_with fail)
      go_meet
      exact ⟨_, s5, a5, l5, c5, z5, b5, m5, d5, y5, rfl, Vo, h5, BX, by show _ ≤ _; omega⟩
   ·
    simp only [gA, gB, gC]; (go_simp); have sz_Vo := BX.size; refine ent1 _ _ _ (Q := fun V => K _ V) ?_; intro x5 hb hs_ Vo; replace h3 := Rr.after hb h3; replace BX := step BX hb; clear hb hs_; refine hK.out _ _ (LS.out _ BX) (fun hHeld => ?_); clear hK K; refine wpAnyH_ready (rs := [5]) (by kernel_rfl) (by simp) ?_; refine AllReadyH.cons rfl (fun K hK => ?_) AllReadyH.nil
    ·
     simp only [gA, gB, gC]; (go_simp); refine (rto9 q HQ.out.1 HQ.out.2.1 s3 a3 l3 c3 z3 b3 m3 d3 y3 (qv v t) _ h3 (qv_sz HQ.out.2.2.1 HQ.out.2.2.2.1 HQ.out.2.2.2.2)).mono ?_; rintro e x6 ⟨s4, a4, l4, c4, z4, b4, m4, d4, y4, rfl, h4, hb⟩; replace Vo := Va.after hb Vo; replace h3 := Rr.after hb h3; replace BX := step BX hb; clear hb; (try go_wp2_with fail); refine hK.out _ _ (LS.out _ BX) (fun hHeld => ?_); clear hK K; refine wpAnyH_ready (rs := [6]) (by kernel_rfl) (by simp) ?_; refine AllReadyH.cons rfl (fun K hK => ?_) AllReadyH.nil
     ·
      simp only [gA, gB, gC]; (go_simp); refine (rmul9 s2 a2 l2 c2 z2 b2 m2 d2 y2 t s4 a4 l4 c4 z4 b4 m4 d4 y4 ((rnd q (qv v t).num (qv v t).den : Int) : Rat) _ (Rr.after BX L_h2.out) h4 (short_sz HQ.out.2.2.2.1) ((rnd_sz (by omega) (qv_sz HQ.out.2.2.1 HQ.out.2.2.2.1 HQ.out.2.2.2.2)).mono (by omega)) (prod_fits HQ.out.2.2.1 HQ.out.2.2.2.1 HQ.out.2.2.2.2)).mono ?_; rintro e x7 ⟨s5, a5, l5, c5, z5, b5, m5, d5, y5, rfl, h5, hb⟩; replace Vo := Va.after hb Vo; replace h3 := Rr.after hb h3; replace h4 := Rr.after hb h4; replace BX := step BX hb; clear hb; rw [uv_qv HQ.out.2.2.2.2] at h5; (try go_wp2_with fail); refine hK.out _ _ (LS.out _ BX) (fun hHeld => ?_); clear hK K; have c_Vo := Vo.d0; have f0_Vo := Vo.frozen 0; have d_Vo := Vo.d1; have f1_Vo := Vo.frozen 1; have e_Vo := Vo.d2; have f2_Vo := Vo.frozen 2; have l_Vo := Vo.lt; have m_Vo := Nat.le_of_lt l_Vo; refine wpAnyH_ready (rs := [8]) (by kernel_rfl) (by simp) ?_; refine AllReadyH.cons rfl (fun K hK => ?_) AllReadyH.nil
      simp only [gA, gB, gC]; (go_simp); clear c_Vo f0_Vo d_Vo f1_Vo e_Vo f2_Vo l_Vo m_Vo; refine sto3 Vo (.bool s5) (.slice a5 l5 c5) (.slice b5 m5 d5) (Q := fun W => K _ W) ?_; intro x8 V' oth far; replace h3 := h3.far Vo (noInt3 _ _ _ _ _ _ _) far.1; replace h4 := h4.far Vo (noInt3 _ _ _ _ _ _ _) far.1; replace h5 := h5.far Vo (noInt3 _ _ _ _ _ _ _) far.1; replace BX := far.2 _ _ (by first | omega | (simp; omega)) BX; replace Vo := V'; clear oth far; refine hK.out _ _ (LS.out _ BX) (fun hHeld => ?_); clear hK K; refine wpAnyH_done (by kernel_rfl) ?_ _; refine NoPanic.normal ?_; clear hHeld; (go_wp2_with fail)
      go_meet
      exact ⟨_, s5, a5, l5, c5, z5, b5, m5, d5, y5, rfl, Vo, h5, BX, by show _ ≤ _; omega⟩
  ·
   simp only [gA, gB, gC]; (go_simp); have sz_Vo := BX.size; refine ent1 _ _ _ (Q := fun V => K _ V) ?_; intro x4 hb hs_ Vo; replace BX := step BX hb; clear hb hs_; refine hK.out _ _ (LS.out _ BX) (fun hHeld => ?_); clear hK K; refine wpAnyH_ready (rs := [3]) (by kernel_rfl) (by simp) ?_; refine AllReadyH.cons rfl (fun K hK => ?_) AllReadyH.nil
   ·
    simp only [gA, gB, gC]; (go_simp); refine (rquo9 s1 a1 l1 c1 z1 b1 m1 d1 y1 v s2 a2 l2 c2 z2 b2 m2 d2 y2 t _ (Rr.after BX L_h1.out) (Rr.after BX L_h2.out) HQ.out.2.2.1 HQ.out.2.2.2.1 HQ.out.2.2.2.2).mono ?_; rintro e x5 ⟨s3, a3, l3, c3, z3, b3, m3, d3, y3, rfl, h3, hb⟩; replace Vo := Va.after hb Vo; replace BX := step BX hb; clear hb; (try go_wp2_with fail); refine hK.out _ _ (LS.out _ BX) (fun hHeld => ?_); clear hK K; refine wpAnyH_ready (rs := [5]) (by kernel_rfl) (by simp) ?_; refine AllReadyH.cons rfl (fun K hK => ?_) AllReadyH.nil
    ·
     simp only [gA, gB, gC]; (go_simp); refine (rto9 q HQ.out.1 HQ.out.2.1 s3 a3 l3 c3 z3 b3 m3 d3 y3 (qv v t) _ h3 (qv_sz HQ.out.2.2.1 HQ.out.2.2.2.1 HQ.out.2.2.2.2)).mono ?_; rintro e x6 ⟨s4, a4, l4, c4, z4, b4, m4, d4, y4, rfl, h4, hb⟩; replace Vo := Va.after hb Vo; replace h3 := Rr.after hb h3; replace BX := step BX hb; clear hb; (try go_wp2_with fail); refine hK.out _ _ (LS.out _ BX) (fun hHeld => ?_); clear hK K; refine wpAnyH_ready (rs := [6]) (by kernel_rfl) (by simp) ?_; refine AllReadyH.cons rfl (fun K hK => ?_) AllReadyH.nil
     ·
      simp only [gA, gB, gC]; (go_simp); refine (rmul9 s2 a2 l2 c2 z2 b2 m2 d2 y2 t s4 a4 l4 c4 z4 b4 m4 d4 y4 ((rnd q (qv v t).num (qv v t).den : Int) : Rat) _ (Rr.after BX L_h2.out) h4 (short_sz HQ.out.2.2.2.1) ((rnd_sz (by omega) (qv_sz HQ.out.2.2.1 HQ.out.2.2.2.1 HQ.out.2.2.2.2)).mono (by omega)) (prod_fits HQ.out.2.2.1 HQ.out.2.2.2.1 HQ.out.2.2.2.2)).mono ?_; rintro e x7 ⟨s5, a5, l5, c5, z5, b5, m5, d5, y5, rfl, h5, hb⟩; replace Vo := Va.after hb Vo; replace h3 := Rr.after hb h3; replace h4 := Rr.after hb h4; replace BX := step BX hb; clear hb; rw [uv_qv HQ.out.2.2.2.2] at h5; (try go_wp2_with fail); refine hK.out _ _ (LS.out _ BX) (fun hHeld => ?_); clear hK K; have c_Vo := Vo.d0; have f0_Vo := Vo.frozen 0; have d_Vo := Vo.d1; have f1_Vo := Vo.frozen 1; have e_Vo := Vo.d2; have f2_Vo := Vo.frozen 2; have l_Vo := Vo.lt; have m_Vo := Nat.le_of_lt l_Vo; refine wpAnyH_ready (rs := [8]) (by kernel_rfl) (by simp) ?_; refine AllReadyH.cons rfl (fun K hK => ?_) AllReadyH.nil
      simp only [gA, gB, gC]; (go_simp); clear c_Vo f0_Vo d_Vo f1_Vo e_Vo f2_Vo l_Vo m_Vo; refine sto3 Vo (.bool s5) (.slice a5 l5 c5) (.slice b5 m5 d5) (Q := fun W => K _ W) ?_; intro x8 V' oth far; replace h3 := h3.far Vo (noInt3 _ _ _ _ _ _ _) far.1; replace h4 := h4.far Vo (noInt3 _ _ _ _ _ _ _) far.1; replace h5 := h5.far Vo (noInt3 _ _ _ _ _ _ _) far.1; replace BX := far.2 _ _ (by first | omega | (simp; omega)) BX; replace Vo := V'; clear oth far; refine hK.out _ _ (LS.out _ BX) (fun hHeld => ?_); clear hK K; refine wpAnyH_done (by kernel_rfl) ?_ _; refine NoPanic.normal ?_; clear hHeld; (go_wp2_with fail)
      go_meet
      exact ⟨_, s5, a5, l5, c5, z5, b5, m5, d5, y5, rfl, Vo, h5, BX, by show _ ≤ _; omega⟩
 case rest =>
  clear BX; obtain ⟨b8, s5, a5, l5, c5, z5, b5, m5, d5, y5, rfl, Vo', h5', BX', hineq'⟩ := hcut; have Vo := Vo'.out; have h5 := h5'.out; have BX := BX'.out; have hineq := hineq'.out; clear Vo' h5' BX' hineq'; have iq0 := hineq; clear hineq; have V2 := Va.after BX L_V2.out; have B0 := step L_B.out BX; have HLG := h5.long
  by_cases hs : Short (uv q v t)
  ·
   have HB : Hid (false = decide (1024 < max (l5 : Int) (m5 : Int))) := by
    show false = decide _
    symm; rw [decide_eq_false_iff_not]
    have h9 : max (l5 : Int) (m5 : Int) ≤ 1024 := HLG.2 hs
    omega
   have HS : Hid (Short (uv q v t)) := hs; clear hs HLG; have c_Vo := Vo.d0; have f0_Vo := Vo.frozen 0; have d_Vo := Vo.d1; have f1_Vo := Vo.frozen 1; have e_Vo := Vo.d2; have f2_Vo := Vo.frozen 2; have l_Vo := Vo.lt; have m_Vo := Nat.le_of_lt l_Vo; (go_wp2_with fail); refine (toolong5 s5 a5 l5 c5 b5 m5 d5 wc false HB.out).mono ?_; rintro e x3 ⟨rfl, hb⟩; replace V2 := Va.after hb V2; replace Vo := Va.after hb Vo; replace h5 := Rr.after hb h5; replace B0 := step B0 hb; clear hb; clear c_Vo f0_Vo d_Vo f1_Vo e_Vo f2_Vo l_Vo m_Vo; have c_Vo := Vo.d0; have f0_Vo := Vo.frozen 0; have d_Vo := Vo.d1; have f1_Vo := Vo.frozen 1; have e_Vo := Vo.d2; have f2_Vo := Vo.frozen 2; have l_Vo := Vo.lt; have m_Vo := Nat.le_of_lt l_Vo; have c_V2 := V2.d0; have f0_V2 := V2.frozen 0; have d_V2 := V2.d1; have f1_V2 := V2.frozen 1; have e_V2 := V2.d2; have f2_V2 := V2.frozen 2; have l_V2 := V2.lt; have m_V2 := Nat.le_of_lt l_V2; (go_wp2_with fail); refine bodyPost_ret (results_rat1 rfl rfl (V2.set3 _ _ _)) rfl ?_
   exact ⟨0, s5, a5, l5, c5, z5, b5, m5, d5, y5, uv q v t, rfl, h5.far V2 (noInt3 _ _ _ _ _ _ _) (fa3 _ _ _ _ _), Or.inl ⟨HS.out, rfl, rfl⟩, belo3 B0 (by omega) _ _ _⟩
  ·
   have HB : Hid (true = decide (1024 < max (l5 : Int) (m5 : Int))) := by
    show true = decide _
    symm; rw [decide_eq_true_iff]
    (have h9 : ¬ (max (l5 : Int) (m5 : Int) ≤ 1024) := fun h => hs (HLG.1 h))
    omega
   have HS : Hid (¬ Short (uv q v t)) := hs; clear hs HLG; have c_Vo := Vo.d0; have f0_Vo := Vo.frozen 0; have d_Vo := Vo.d1; have f1_Vo := Vo.frozen 1; have e_Vo := Vo.d2; have f2_Vo := Vo.frozen 2; have l_Vo := Vo.lt; have m_Vo := Nat.le_of_lt l_Vo; (go_wp2_with fail); refine (toolong5 s5 a5 l5 c5 b5 m5 d5 wc true HB.out).mono ?_; rintro e x3 ⟨rfl, hb⟩; replace V2 := Va.after hb V2; replace Vo := Va.after hb Vo; replace h5 := Rr.after hb h5; replace B0 := step B0 hb; clear hb; clear c_Vo f0_Vo d_Vo f1_Vo e_Vo f2_Vo l_Vo m_Vo; (go_wp2_with fail); refine (rint5 0 (by omega) (by omega) x3).mono ?_; rintro e x4 ⟨s6, a6, l6, c6, z6, b6, m6, d6, y6, rfl, h6, -, -, hb⟩; replace V2 := Va.after hb V2; replace Vo := Va.after hb Vo; replace h5 := Rr.after hb h5; replace B0 := step B0 hb; clear hb; rw [show Rat.divInt 0 1 = 0 from by decide +kernel] at h6; have c_V2 := V2.d0; have f0_V2 := V2.frozen 0; have d_V2 := V2.d1; have f1_V2 := V2.frozen 1; have e_V2 := V2.d2
   have f2_V2 := V2.frozen 2; have l_V2 := V2.lt; have m_V2 := Nat.le_of_lt l_V2; (go_wp2_with fail); refine bodyPost_ret (results_rat1 rfl rfl (V2.set3 _ _ _)) rfl ?_; exact ⟨3, s6, a6, l6, c6, z6, b6, m6, d6, y6, 0, rfl, h6.far V2 (noInt3 _ _ _ _ _ _ _) (fa3 _ _ _ _ _), Or.inr ⟨HS.out, rfl, rfl⟩, belo3 B0 (by omega) _ _ _⟩

set_option maxHeartbeats 4000000 in
theorem runits_bad (q : Int) (s1 : Bool) (a1 : Option Addr) (l1 c1 : Nat) (b1 : Option Addr) (m1 d1 : Nat) (s2 : Bool) (a2 : Option Addr) (l2 c2 : Nat) (z2 : List Int) (b2 : Option Addr) (m2 d2 : Nat) (y2 : List Int) (t : Rat) (w : World) (h2 : Rr w s2 a2 l2 c2 z2 b2 m2 d2 y2 t) (hb : q < 1 ∨ 5 < q ∨ t.num ≤ 0) :
    Calls Tryz.prog 7 #[.agg #[.bool s1, .slice a1 l1 c1, .slice b1 m1 d1], .agg #[.bool s2, .slice a2 l2 c2, .slice b2 m2 d2], .int .i64 q] w fun e w' => ∃ s' a' l' c' zs' b' m' d' ys', e = .returned (.tuple #[.agg #[.bool s', .slice a' l' c', .slice b' m' d'], .int .i64 2]) ∧ Rr w' s' a' l' c' zs' b' m' d' ys' 0 ∧ Below w.heap.size w w' := by
  by_cases q1 : q < 1
  ·
    have g1 : decide (q < 1) = true := by simpa using q1
    clear hb
    have B0 : Below w.heap.size w w := Below.refl _ _
    go_enter Tryz.func7, Tryz.ntmps7
    go_wp2_with fail
    refine ent3 w _ _ _ _ _ _ (Q := fun W => Calls Tryz.prog _ _ W _) ?_
    intro x1 hb hs_x1 V0 V1 V2
    replace h2 := Rr.after hb h2
    replace B0 := step B0 hb
    clear hb hs_x1
    refine (rint5 0 (by omega) (by omega) x1).mono ?_
    rintro e x2 ⟨s6, a6, l6, c6, z6, b6, m6, d6, y6, rfl, h6, -, -, hb⟩
    replace V0 := Va.after hb V0
    replace V1 := Va.after hb V1
    replace V2 := Va.after hb V2
    replace h2 := Rr.after hb h2
    replace B0 := step B0 hb
    clear hb
    rw [show Rat.divInt 0 1 = 0 from by decide +kernel] at h6
    have c_V2 := V2.d0
    have f0_V2 := V2.frozen 0
    have d_V2 := V2.d1
    have f1_V2 := V2.frozen 1
    have e_V2 := V2.d2
    have f2_V2 := V2.frozen 2
    have l_V2 := V2.lt
    have m_V2 := Nat.le_of_lt l_V2
    go_wp2_with fail
    refine bodyPost_ret (results_rat1 rfl rfl (V2.set3 _ _ _)) rfl ?_
    exact ⟨s6, a6, l6, c6, z6, b6, m6, d6, y6, rfl, h6.far V2 (noInt3 _ _ _ _ _ _ _) (fa3 _ _ _ _ _), belo3 B0 (by omega) _ _ _⟩
  · by_cases q2 : 5 < q
    ·
      have g1 : decide (q < 1) = false := by simpa using q1
      have g2 : decide (5 < q) = true := by simpa using q2
      clear hb
      have B0 : Below w.heap.size w w := Below.refl _ _
      go_enter Tryz.func7, Tryz.ntmps7
      go_wp2_with fail
      refine ent3 w _ _ _ _ _ _ (Q := fun W => Calls Tryz.prog _ _ W _) ?_
      intro x1 hb hs_x1 V0 V1 V2
      replace h2 := Rr.after hb h2
      replace B0 := step B0 hb
      clear hb hs_x1
      refine (rint5 0 (by omega) (by omega) x1).mono ?_
      rintro e x2 ⟨s6, a6, l6, c6, z6, b6, m6, d6, y6, rfl, h6, -, -, hb⟩
      replace V0 := Va.after hb V0
      replace V1 := Va.after hb V1
      replace V2 := Va.after hb V2
      replace h2 := Rr.after hb h2
      replace B0 := step B0 hb
      clear hb
      rw [show Rat.divInt 0 1 = 0 from by decide +kernel] at h6
      have c_V2 := V2.d0
      have f0_V2 := V2.frozen 0
      have d_V2 := V2.d1
      have f1_V2 := V2.frozen 1
      have e_V2 := V2.d2
      have f2_V2 := V2.frozen 2
      have l_V2 := V2.lt
      have m_V2 := Nat.le_of_lt l_V2
      go_wp2_with fail
      refine bodyPost_ret (results_rat1 rfl rfl (V2.set3 _ _ _)) rfl ?_
      exact ⟨s6, a6, l6, c6, z6, b6, m6, d6, y6, rfl, h6.far V2 (noInt3 _ _ _ _ _ _ _) (fa3 _ _ _ _ _), belo3 B0 (by omega) _ _ _⟩
    ·
      have g1 : decide (q < 1) = false := by simpa using q1
      have g2 : decide (5 < q) = false := by simpa using q2
      obtain ⟨sg, hsg⟩ : ∃ sg, Int.sign t.num = sg := ⟨_, rfl⟩
      have HSG : Hid (Int.sign t.num = sg) := hsg
      have g3 : sg ≤ 0 := by
        have h5 : t.num ≤ 0 := by omega
        rw [← hsg]
        rcases Int.lt_or_eq_of_le h5 with h6 | h6
        · rw [Int.sign_eq_neg_one_of_neg h6]; omega
        · rw [h6]; decide
      have g4 : decide (sg ≤ 0) = true := by simpa using g3
      clear hb hsg
      have B0 : Below w.heap.size w w := Below.refl _ _
      go_enter Tryz.func7, Tryz.ntmps7
      go_wp2_with fail
      refine ent3 w _ _ _ _ _ _ (Q := fun W => Calls Tryz.prog _ _ W _) ?_
      intro x1 hb hs_x1 V0 V1 V2
      replace h2 := Rr.after hb h2
      replace B0 := step B0 hb
      clear hb hs_x1
      refine (rsign5 s2 a2 l2 c2 z2 b2 m2 d2 y2 t x1 h2).mono ?_
      rintro e x2 ⟨rfl, hb⟩
      replace V0 := Va.after hb V0
      replace V1 := Va.after hb V1
      replace V2 := Va.after hb V2
      replace h2 := Rr.after hb h2
      replace B0 := step B0 hb
      clear hb
      rw [HSG.out]
      go_wp2_with fail
      refine (rint5 0 (by omega) (by omega) x2).mono ?_
      rintro e x3 ⟨s6, a6, l6, c6, z6, b6, m6, d6, y6, rfl, h6, -, -, hb⟩
      replace V0 := Va.after hb V0
      replace V1 := Va.after hb V1
      replace V2 := Va.after hb V2
      replace h2 := Rr.after hb h2
      replace B0 := step B0 hb
      clear hb
      rw [show Rat.divInt 0 1 = 0 from by decide +kernel] at h6
      have c_V2 := V2.d0
      have f0_V2 := V2.frozen 0
      have d_V2 := V2.d1
      have f1_V2 := V2.frozen 1
      have e_V2 := V2.d2
      have f2_V2 := V2.frozen 2
      have l_V2 := V2.lt
      have m_V2 := Nat.le_of_lt l_V2
      go_wp2_with fail
      refine bodyPost_ret (results_rat1 rfl rfl (V2.set3 _ _ _)) rfl ?_
      exact ⟨s6, a6, l6, c6, z6, b6, m6, d6, y6, rfl, h6.far V2 (noInt3 _ _ _ _ _ _ _) (fa3 _ _ _ _ _), belo3 B0 (by omega) _ _ _⟩

set_option maxHeartbeats 4000000 in
theorem units_bad (q : Int) (s1 : Bool) (a1 : Option Addr) (l1 c1 : Nat) (b1 : Option Addr) (m1 d1 : Nat) (s2 : Bool) (a2 : Option Addr) (l2 c2 : Nat) (z2 : List Int) (b2 : Option Addr) (m2 d2 : Nat) (y2 : List Int) (t : Rat) (w : World) (h2 : Rt w s2 a2 l2 c2 z2 b2 m2 d2 y2 t) (hb : q < 1 ∨ 5 < q ∨ t.num ≤ 0) :
    Calls Tryz.prog 6 #[.agg #[.bool s1, .slice a1 l1 c1, .slice b1 m1 d1], .agg #[.bool s2, .slice a2 l2 c2, .slice b2 m2 d2], .int .i64 q] w fun e w' => e = .returned (.tuple #[.agg #[.bool false, .slice none 0 0, .slice none 0 0], .int .i64 2]) ∧ Below w.heap.size w w' := by
  by_cases q1 : q < 1 ∨ 5 < q
  ·
    have HM : Hid (q < 1 ∨ 5 < q) := q1
    clear q1 hb
    have B0 : Below w.heap.size w w := Below.refl _ _
    go_enter Tryz.func6, Tryz.ntmps6
    go_wp2_with fail
    refine ent3 w _ _ _ _ _ _ (Q := fun W => Calls Tryz.prog _ _ W _) ?_
    intro x1 hb hs_x1 V0 V1 V2
    replace h2 := Rt.after hb h2
    replace B0 := step B0 hb
    clear hb hs_x1
    refine (wayOf_no q HM.out x1).mono ?_
    rintro e x2 ⟨rfl, hb⟩
    replace V0 := Va.after hb V0
    replace V1 := Va.after hb V1
    replace V2 := Va.after hb V2
    replace h2 := Rt.after hb h2
    replace B0 := step B0 hb
    clear hb
    have c_V2 := V2.d0
    have f0_V2 := V2.frozen 0
    have d_V2 := V2.d1
    have f1_V2 := V2.frozen 1
    have e_V2 := V2.d2
    have f2_V2 := V2.frozen 2
    have l_V2 := V2.lt
    have m_V2 := Nat.le_of_lt l_V2
    have p0_V2 := (V2.old (.cells #[.int .i64 0, .string ⟨#[]⟩, .nilFunc] 54)).d0
    have q0_V2 := (V2.old (.cells #[.int .i64 0, .string ⟨#[]⟩, .nilFunc] 54)).frozen 0
    have p1_V2 := (V2.old (.cells #[.int .i64 0, .string ⟨#[]⟩, .nilFunc] 54)).d1
    have q1_V2 := (V2.old (.cells #[.int .i64 0, .string ⟨#[]⟩, .nilFunc] 54)).frozen 1
    have p2_V2 := (V2.old (.cells #[.int .i64 0, .string ⟨#[]⟩, .nilFunc] 54)).d2
    have q2_V2 := (V2.old (.cells #[.int .i64 0, .string ⟨#[]⟩, .nilFunc] 54)).frozen 2
    go_wp2_with fail
    refine bodyPost_ret (results_rt rfl rfl ((V2.set3 _ _ _).old _)) rfl ?_
    exact ⟨rfl, (belo3 B0 (by omega) _ _ _).alloc (belo3 B0 (by omega) _ _ _).size _⟩
  ·
    obtain ⟨nm, Kf, C, -, -⟩ := wayOf_ok q (by omega) (by omega)
    have HC : Hid (∀ w, Calls Tryz.prog 17 #[.int .i64 q] w fun e w' => e = .returned (.tuple #[.agg #[.int .i64 q, .string nm, .func (.func Kf) #[] #[]], .bool true]) ∧ Below w.heap.size w w') := C
    clear C
    obtain ⟨sg, hsg⟩ : ∃ sg, Int.sign t.num = sg := ⟨_, rfl⟩
    have HSG : Hid (Int.sign t.num = sg) := hsg
    have g3 : sg ≤ 0 := by
      have h5 : t.num ≤ 0 := by omega
      rw [← hsg]
      rcases Int.lt_or_eq_of_le h5 with h6 | h6
      · rw [Int.sign_eq_neg_one_of_neg h6]; omega
      · rw [h6]; decide
    have g4 : decide (sg ≤ 0) = true := by simpa using g3
    clear hb hsg q1
    have B0 : Below w.heap.size w w := Below.refl _ _
    go_enter Tryz.func6, Tryz.ntmps6
    go_wp2_with fail
    refine ent3 w _ _ _ _ _ _ (Q := fun W => Calls Tryz.prog _ _ W _) ?_
    intro x1 hb hs_x1 V0 V1 V2
    replace h2 := Rt.after hb h2
    replace B0 := step B0 hb
    clear hb hs_x1
    refine (HC.out x1).mono ?_
    rintro e x2 ⟨rfl, hb⟩
    replace V0 := Va.after hb V0
    replace V1 := Va.after hb V1
    replace V2 := Va.after hb V2
    replace h2 := Rt.after hb h2
    replace B0 := step B0 hb
    clear hb
    have c_V1 := V1.d0
    have f0_V1 := V1.frozen 0
    have d_V1 := V1.d1
    have f1_V1 := V1.frozen 1
    have e_V1 := V1.d2
    have f2_V1 := V1.frozen 2
    have l_V1 := V1.lt
    have m_V1 := Nat.le_of_lt l_V1
    have p0_V1 := (V1.old (.cells #[.int .i64 q, .string nm, .func (.func Kf) #[] #[]] 54)).d0
    have q0_V1 := (V1.old (.cells #[.int .i64 q, .string nm, .func (.func Kf) #[] #[]] 54)).frozen 0
    have p1_V1 := (V1.old (.cells #[.int .i64 q, .string nm, .func (.func Kf) #[] #[]] 54)).d1
    have q1_V1 := (V1.old (.cells #[.int .i64 q, .string nm, .func (.func Kf) #[] #[]] 54)).frozen 1
    have p2_V1 := (V1.old (.cells #[.int .i64 q, .string nm, .func (.func Kf) #[] #[]] 54)).d2
    have q2_V1 := (V1.old (.cells #[.int .i64 q, .string nm, .func (.func Kf) #[] #[]] 54)).frozen 2
    go_wp2_with fail
    refine ent1 x2 _ _ (Q := fun W => Calls Tryz.prog _ _ W _) ?_
    intro x3 hb hs_x3 Vw
    replace V0 := Va.after hb V0
    replace V1 := Va.after hb V1
    replace V2 := Va.after hb V2
    replace h2 := Rt.after hb h2
    replace B0 := step B0 hb
    clear hb hs_x3
    refine (qsign_any s2 a2 l2 c2 z2 b2 m2 d2 y2 t x3 h2).mono ?_
    rintro e x4 ⟨rfl, hb⟩
    replace V0 := Va.after hb V0
    replace V1 := Va.after hb V1
    replace V2 := Va.after hb V2
    replace Vw := Va.after hb Vw
    replace h2 := Rt.after hb h2
    replace B0 := step B0 hb
    clear hb
    rw [HSG.out]
    clear c_V1 f0_V1 d_V1 f1_V1 e_V1 f2_V1 l_V1 m_V1 p0_V1 q0_V1 p1_V1 q1_V1 p2_V1 q2_V1
    have c_V2 := V2.d0
    have f0_V2 := V2.frozen 0
    have d_V2 := V2.d1
    have f1_V2 := V2.frozen 1
    have e_V2 := V2.d2
    have f2_V2 := V2.frozen 2
    have l_V2 := V2.lt
    have m_V2 := Nat.le_of_lt l_V2
    go_wp2_with fail
    refine bodyPost_ret (results_rt rfl rfl (V2.set3 _ _ _)) rfl ?_
    exact ⟨rfl, belo3 B0 (by omega) _ _ _⟩

set_option maxHeartbeats 4000000 in
theorem is7 (s1 : Bool) (a1 : Option Addr) (l1 c1 : Nat) (z1 : List Int) (b1 : Option Addr) (m1 d1 : Nat) (y1 : List Int) (v : Rat) (s2 : Bool) (a2 : Option Addr) (l2 c2 : Nat) (z2 : List Int) (b2 : Option Addr) (m2 d2 : Nat) (y2 : List Int) (w : World) (hr : Rt w s1 a1 l1 c1 z1 b1 m1 d1 y1 v) (hw : Rr w s2 a2 l2 c2 z2 b2 m2 d2 y2 v) :
  Calls Tryz.prog 8 #[.agg #[.bool s1, .slice a1 l1 c1, .slice b1 m1 d1], .agg #[.bool s2, .slice a2 l2 c2, .slice b2 m2 d2]] w fun e w' => e = .returned (.bool true) ∧ Below w.heap.size w w' := by
 have HLN : Hid (l1 ≤ 4096 ∧ Short v) := ⟨len_4096 hr.1.1, hr.2.2.2.2⟩; have B0 : Below w.heap.size w w := Below.refl _ _
 go_enter Tryz.func8, Tryz.ntmps8
 (go_wp2_with fail); refine ent2 w _ _ _ _ (Q := fun W => Code.wp Tryz.prog _ _ _ W) ?_; intro x1 hb hs_x1 V0 V1; replace hr := Rt.after hb hr; replace hw := Rr.after hb hw; replace B0 := step B0 hb; clear hb hs_x1; refine wp_region_noPanic ?_; replace V0 : Va x1.drew _ _ _ := V0; replace V1 : Va x1.drew _ _ _ := V1; replace hr := hr.drw; replace hw := hw.drw; replace B0 := Below.drew B0; refine wp_region_held_drew (S := (fun W => W.cell? ⟨w.heap.size, 0, none⟩ = some (.bool s1) ∧ W.cell? ⟨w.heap.size, 1, none⟩ = some (.slice a1 l1 c1) ∧ W.cell? ⟨w.heap.size, 2, none⟩ = some (.slice b1 m1 d1) ∧ W.cell? ⟨w.heap.size + 1, 0, none⟩ = some (.bool s2) ∧ W.cell? ⟨w.heap.size + 1, 1, none⟩ = some (.slice a2 l2 c2) ∧ W.cell? ⟨w.heap.size + 1, 2, none⟩ = some (.slice b2 m2 d2))) (by kernel_rfl) ⟨V0.d0, V0.d1, V0.d2, V1.d0, V1.d1, V1.d2⟩ (fun hHeld => ?_); (obtain ⟨x2, hxd⟩ : ∃ xd, xd = x1.drew := ⟨_, rfl⟩); rw [← hxd] at V0 V1 hr hw B0 hHeld ⊢
 clear hxd; refine tk 0 rfl hHeld ?_; simp only [gA, gB, Act.put, gD, gE, gF]; refine tk 2 rfl hHeld ?_; simp only [gA, gB, gC, Act.put, gD, gE, gF]; refine wpAnyH_ready (rs := [1]) (by kernel_rfl) (by simp) ?_; refine AllReadyH.cons rfl (fun K hK => ?_) AllReadyH.nil; simp only [gA, gB, gC]; (go_simp); refine (qplain_any s1 a1 l1 c1 z1 b1 m1 d1 y1 v _ hr).mono ?_; rintro e x3 ⟨g, h, ys, rfl, hg, hh, hne, hy, hb⟩; replace V0 := Va.after hb V0; replace V1 := Va.after hb V1; replace hr := Rt.after hb hr; replace hw := Rr.after hb hw; replace B0 := step B0 hb; clear hb; have hl1 : z1.length = l1 := hr.1.1.1.1; have HR : Hid (s2 = s1 ∧ l2 = l1 ∧ z2 = z1 ∧ m2 = ys.length ∧ y2 = ys) := rt_rr hr hw hy.out; have HY : Hid (ys.length ≤ 1024 ∧ Limbs ys ∧ Limbs z1 ∧ z1.length = l1) := ⟨den_4096 HLN.out.2 hy.out, hy.out.1, hr.1.1.limbs, hl1⟩; clear hy hne hl1; (try go_wp2_with fail); refine hK.out _ _ ⟨V0.d0, V0.d1, V0.d2, V1.d0, V1.d1, V1.d2⟩ (fun hHeld => ?_)
 clear hK K; refine wpAnyH_ready (rs := [3]) (by kernel_rfl) (by simp) ?_; refine AllReadyH.cons rfl (fun K hK => ?_) AllReadyH.nil; simp only [gA, gB, gC]; (go_simp); have S1 := hg.sl HY.out.2.2.1 HY.out.2.2.2; have S2 := hh.sl HY.out.2.1 rfl; have S3 := hw.1; have S4 := hw.2.1; rw [HR.out.2.1, HR.out.2.2.1] at S3; rw [HR.out.2.2.2.1, HR.out.2.2.2.2] at S4; rw [HR.out.1, HR.out.2.1, HR.out.2.2.2.1]; refine (rsame5 s1 (some ⟨g, 0, none⟩) a2 (some ⟨h, 0, none⟩) b2 l1 ys.length l1 c2 ys.length d2 z1 ys _ S1 S3 S2 S4 (by have := HLN.out.1; omega) (by have := HY.out.1; omega)).mono ?_; rintro e x4 ⟨rfl, hb⟩; clear S1 S2 S3 S4; replace V0 := Va.after hb V0; replace V1 := Va.after hb V1; replace hr := Rt.after hb hr; replace hw := Rr.after hb hw; replace hg := Ow.after hb hg; replace hh := Ow.after hb hh; replace B0 := step B0 hb; clear hb; (try go_wp2_with fail); refine hK.out _ _ ⟨V0.d0, V0.d1, V0.d2, V1.d0, V1.d1, V1.d2⟩ (fun hHeld => ?_)
 clear hK K; refine tk 4 rfl hHeld ?_; simp only [gA, gB, gC, Act.put, gD, gE, gF]; refine wpAnyH_done (by kernel_rfl) ?_ _; refine NoPanic.normal ?_; clear hHeld; (go_wp2_with fail)
 go_ret
 exact ⟨rfl, B0⟩
end Go.Proofs.YtegfklapgbggfaaGreat
namespace Go.Proofs.YtegfklapgbggfaaGreat
open Go.RowKit Go.Shelf
set_option linter.unusedVariables false

theorem ra_one {v x y : Rat} {e f : Int} (h1 : RA v e x) (h2 : RA v f y) : f = e ∧ y = x := by
  rcases h1 with ⟨a, b, c⟩ | ⟨a, b, c⟩ <;> rcases h2 with ⟨a', b', c'⟩ | ⟨a', b', c'⟩
  · exact ⟨by rw [b, b'], by rw [c, c']⟩
  · exact absurd a a'
  · exact absurd a' a
  · exact ⟨by rw [b, b'], by rw [c, c']⟩
set_option maxHeartbeats 8000000 in
set_option maxRecDepth 4000 in
theorem units7_walk (s0 : Bool) (a0 : Option Addr) (l0 c0 : Nat) (z0 : List Int) (b0 : Option Addr) (m0 d0 : Nat) (y0 : List Int) (s1 : Bool) (a1 : Option Addr) (l1 c1 : Nat) (z1 : List Int) (b1 : Option Addr) (m1 d1 : Nat) (y1 : List Int) (q : Int) (w : World) (h1 : Sl w a0 l0 z0) (h2 : Sl w b0 m0 y0) (k1 : l0 ≤ c0) (k2 : m0 ≤ d0) (h3 : Sl w a1 l1 z1) (h4 : Sl w b1 m1 y1) (k3 : l1 ≤ c1) (k4 : m1 ≤ d1) (wx : (Lit.int .i64 q).wf = true) :
    Calls Tryz.prog 3 #[.agg #[.bool s0, .slice a0 l0 c0, .slice b0 m0 d0], .agg #[.bool s1, .slice a1 l1 c1, .slice b1 m1 d1], .int .i64 q] w fun e w' => e = .returned (.bool true) ∧ Below w.heap.size w w' := by
  clear wx
  have B0 : Below w.heap.size w w := Below.refl _ _
  go_enter Tryz.func3, Tryz.ntmps3
  go_wp2_with fail
  refine ent2 w _ _ _ _ (Q := fun W => Calls Tryz.prog _ _ W _) ?_
  intro x1 hb hs_x1 V0 V1
  replace h1 := Sl.after hb h1
  replace h2 := Sl.after hb h2
  replace h3 := Sl.after hb h3
  replace h4 := Sl.after hb h4
  replace B0 := step B0 hb
  clear hb hs_x1
  refine (of7 s0 a0 l0 c0 z0 b0 m0 d0 y0 x1 h1 h2 k1 k2).mono ?_
  rintro e x2 ⟨sr, ar, lr, cr, zr, br, mr, dr, yr, sa, aa, la, ca, za, ba, ma, da, ya, v, rfl, hr, ha, hb⟩
  replace V0 := Va.after hb V0
  replace V1 := Va.after hb V1
  replace h1 := Sl.after hb h1
  replace h2 := Sl.after hb h2
  replace h3 := Sl.after hb h3
  replace h4 := Sl.after hb h4
  replace B0 := step B0 hb
  clear hb
  have hvS : Hid (Short v) := hr.2.2.2.2
  have c_V1 := V1.d0
  have f0_V1 := V1.frozen 0
  have d_V1 := V1.d1
  have f1_V1 := V1.frozen 1
  have e_V1 := V1.d2
  have f2_V1 := V1.frozen 2
  have l_V1 := V1.lt
  have m_V1 := Nat.le_of_lt l_V1
  have p0_V1 := ((V1.old (.cells #[.bool sr, .slice ar lr cr, .slice br mr dr] 30)).old (.cells #[.bool sa, .slice aa la ca, .slice ba ma da] 31)).d0
  have q0_V1 := ((V1.old (.cells #[.bool sr, .slice ar lr cr, .slice br mr dr] 30)).old (.cells #[.bool sa, .slice aa la ca, .slice ba ma da] 31)).frozen 0
  have p1_V1 := ((V1.old (.cells #[.bool sr, .slice ar lr cr, .slice br mr dr] 30)).old (.cells #[.bool sa, .slice aa la ca, .slice ba ma da] 31)).d1
  have q1_V1 := ((V1.old (.cells #[.bool sr, .slice ar lr cr, .slice br mr dr] 30)).old (.cells #[.bool sa, .slice aa la ca, .slice ba ma da] 31)).frozen 1
  have p2_V1 := ((V1.old (.cells #[.bool sr, .slice ar lr cr, .slice br mr dr] 30)).old (.cells #[.bool sa, .slice aa la ca, .slice ba ma da] 31)).d2
  have q2_V1 := ((V1.old (.cells #[.bool sr, .slice ar lr cr, .slice br mr dr] 30)).old (.cells #[.bool sa, .slice aa la ca, .slice ba ma da] 31)).frozen 2
  go_wp2_with fail
  clear h1 h2 V0
  refine ent2 x2 _ _ _ _ (Q := fun W => Calls Tryz.prog _ _ W _) ?_
  intro x3 hb hs_x3 Xr Xa
  replace V1 := Va.after hb V1
  replace h3 := Sl.after hb h3
  replace h4 := Sl.after hb h4
  replace hr := Rt.after hb hr
  replace ha := Rr.after hb ha
  replace B0 := step B0 hb
  clear hb hs_x3
  refine (of7 s1 a1 l1 c1 z1 b1 m1 d1 y1 x3 h3 h4 k3 k4).mono ?_
  rintro e x4 ⟨su, au, lu, cu, zu, bu, mu, du, yu, sb, ab, lb, cb, zb, bb, mb, db, yb, t, rfl, hu, hb_, hb⟩
  replace V1 := Va.after hb V1
  replace Xr := Va.after hb Xr
  replace Xa := Va.after hb Xa
  replace h3 := Sl.after hb h3
  replace h4 := Sl.after hb h4
  replace hr := Rt.after hb hr
  replace ha := Rr.after hb ha
  replace B0 := step B0 hb
  clear hb
  have htS : Hid (Short t) := hu.2.2.2.2
  clear c_V1 f0_V1 d_V1 f1_V1 e_V1 f2_V1 l_V1 m_V1 p0_V1 q0_V1 p1_V1 q1_V1 p2_V1 q2_V1
  have c_Xr := Xr.d0
  have f0_Xr := Xr.frozen 0
  have d_Xr := Xr.d1
  have f1_Xr := Xr.frozen 1
  have e_Xr := Xr.d2
  have f2_Xr := Xr.frozen 2
  have l_Xr := Xr.lt
  have m_Xr := Nat.le_of_lt l_Xr
  have p0_Xr := ((Xr.old (.cells #[.bool su, .slice au lu cu, .slice bu mu du] 30)).old (.cells #[.bool sb, .slice ab lb cb, .slice bb mb db] 31)).d0
  have q0_Xr := ((Xr.old (.cells #[.bool su, .slice au lu cu, .slice bu mu du] 30)).old (.cells #[.bool sb, .slice ab lb cb, .slice bb mb db] 31)).frozen 0
  have p1_Xr := ((Xr.old (.cells #[.bool su, .slice au lu cu, .slice bu mu du] 30)).old (.cells #[.bool sb, .slice ab lb cb, .slice bb mb db] 31)).d1
  have q1_Xr := ((Xr.old (.cells #[.bool su, .slice au lu cu, .slice bu mu du] 30)).old (.cells #[.bool sb, .slice ab lb cb, .slice bb mb db] 31)).frozen 1
  have p2_Xr := ((Xr.old (.cells #[.bool su, .slice au lu cu, .slice bu mu du] 30)).old (.cells #[.bool sb, .slice ab lb cb, .slice bb mb db] 31)).d2
  have q2_Xr := ((Xr.old (.cells #[.bool su, .slice au lu cu, .slice bu mu du] 30)).old (.cells #[.bool sb, .slice ab lb cb, .slice bb mb db] 31)).frozen 2
  go_wp2_with fail
  clear h3 h4 V1
  refine ent2 x4 _ _ _ _ (Q := fun W => Calls Tryz.prog _ _ W _) ?_
  intro x5 hb hs_x5 Xu Xb
  replace Xr := Va.after hb Xr
  replace Xa := Va.after hb Xa
  replace hr := Rt.after hb hr
  replace ha := Rr.after hb ha
  replace hu := Rt.after hb hu
  replace hb_ := Rr.after hb hb_
  replace B0 := step B0 hb
  clear hb hs_x5
  by_cases hm : q < 1 ∨ 5 < q ∨ t.num ≤ 0
  ·
    have HM : Hid (q < 1 ∨ 5 < q ∨ t.num ≤ 0) := hm
    clear hm
    refine (units_bad q sr ar lr cr br mr dr su au lu cu zu bu mu du yu t x5 hu HM.out).mono ?_
    rintro e x6 ⟨rfl, hb⟩
    replace Xr := Va.after hb Xr
    replace Xa := Va.after hb Xa
    replace Xu := Va.after hb Xu
    replace Xb := Va.after hb Xb
    replace hr := Rt.after hb hr
    replace ha := Rr.after hb ha
    replace hu := Rt.after hb hu
    replace hb_ := Rr.after hb hb_
    replace B0 := step B0 hb
    clear hb
    clear c_Xr f0_Xr d_Xr f1_Xr e_Xr f2_Xr l_Xr m_Xr p0_Xr q0_Xr p1_Xr q1_Xr p2_Xr q2_Xr
    have c_Xa := Xa.d0
    have f0_Xa := Xa.frozen 0
    have d_Xa := Xa.d1
    have f1_Xa := Xa.frozen 1
    have e_Xa := Xa.d2
    have f2_Xa := Xa.frozen 2
    have l_Xa := Xa.lt
    have m_Xa := Nat.le_of_lt l_Xa
    have c_Xb := Xb.d0
    have f0_Xb := Xb.frozen 0
    have d_Xb := Xb.d1
    have f1_Xb := Xb.frozen 1
    have e_Xb := Xb.d2
    have f2_Xb := Xb.frozen 2
    have l_Xb := Xb.lt
    have m_Xb := Nat.le_of_lt l_Xb
    have p0_Xa := (Xa.old (.cells #[.bool false, .slice none 0 0, .slice none 0 0] 30)).d0
    have q0_Xa := (Xa.old (.cells #[.bool false, .slice none 0 0, .slice none 0 0] 30)).frozen 0
    have p1_Xa := (Xa.old (.cells #[.bool false, .slice none 0 0, .slice none 0 0] 30)).d1
    have q1_Xa := (Xa.old (.cells #[.bool false, .slice none 0 0, .slice none 0 0] 30)).frozen 1
    have p2_Xa := (Xa.old (.cells #[.bool false, .slice none 0 0, .slice none 0 0] 30)).d2
    have q2_Xa := (Xa.old (.cells #[.bool false, .slice none 0 0, .slice none 0 0] 30)).frozen 2
    have p0_Xb := (Xb.old (.cells #[.bool false, .slice none 0 0, .slice none 0 0] 30)).d0
    have q0_Xb := (Xb.old (.cells #[.bool false, .slice none 0 0, .slice none 0 0] 30)).frozen 0
    have p1_Xb := (Xb.old (.cells #[.bool false, .slice none 0 0, .slice none 0 0] 30)).d1
    have q1_Xb := (Xb.old (.cells #[.bool false, .slice none 0 0, .slice none 0 0] 30)).frozen 1
    have p2_Xb := (Xb.old (.cells #[.bool false, .slice none 0 0, .slice none 0 0] 30)).d2
    have q2_Xb := (Xb.old (.cells #[.bool false, .slice none 0 0, .slice none 0 0] 30)).frozen 2
    go_wp2_with fail
    refine ent1 x6 _ _ (Q := fun W => Calls Tryz.prog _ _ W _) ?_
    intro x7 hb hs_x7 Xy
    replace Xr := Va.after hb Xr
    replace Xa := Va.after hb Xa
    replace Xu := Va.after hb Xu
    replace Xb := Va.after hb Xb
    replace hr := Rt.after hb hr
    replace ha := Rr.after hb ha
    replace hu := Rt.after hb hu
    replace hb_ := Rr.after hb hb_
    replace B0 := step B0 hb
    clear hb hs_x7
    refine (runits_bad q sa aa la ca ba ma da sb ab lb cb zb bb mb db yb t x7 hb_ HM.out).mono ?_
    rintro e x8 ⟨sk, ak, lk, ck, zk, bk, mk, dk, yk, rfl, hk, hb⟩
    replace Xr := Va.after hb Xr
    replace Xa := Va.after hb Xa
    replace Xu := Va.after hb Xu
    replace Xb := Va.after hb Xb
    replace Xy := Va.after hb Xy
    replace hr := Rt.after hb hr
    replace ha := Rr.after hb ha
    replace hu := Rt.after hb hu
    replace hb_ := Rr.after hb hb_
    replace B0 := step B0 hb
    clear hb
    clear c_Xa f0_Xa d_Xa f1_Xa e_Xa f2_Xa l_Xa m_Xa c_Xb f0_Xb d_Xb f1_Xb e_Xb f2_Xb l_Xb m_Xb p0_Xa q0_Xa p1_Xa q1_Xa p2_Xa q2_Xa p0_Xb q0_Xb p1_Xb q1_Xb p2_Xb q2_Xb
    have c_Xy := Xy.d0
    have f0_Xy := Xy.frozen 0
    have d_Xy := Xy.d1
    have f1_Xy := Xy.frozen 1
    have e_Xy := Xy.d2
    have f2_Xy := Xy.frozen 2
    have l_Xy := Xy.lt
    have m_Xy := Nat.le_of_lt l_Xy
    have p0_Xy := (Xy.old (.cells #[.bool sk, .slice ak lk ck, .slice bk mk dk] 31)).d0
    have q0_Xy := (Xy.old (.cells #[.bool sk, .slice ak lk ck, .slice bk mk dk] 31)).frozen 0
    have p1_Xy := (Xy.old (.cells #[.bool sk, .slice ak lk ck, .slice bk mk dk] 31)).d1
    have q1_Xy := (Xy.old (.cells #[.bool sk, .slice ak lk ck, .slice bk mk dk] 31)).frozen 1
    have p2_Xy := (Xy.old (.cells #[.bool sk, .slice ak lk ck, .slice bk mk dk] 31)).d2
    have q2_Xy := (Xy.old (.cells #[.bool sk, .slice ak lk ck, .slice bk mk dk] 31)).frozen 2
    go_wp2_with fail
    refine ent1 x8 _ _ (Q := fun W => Calls Tryz.prog _ _ W _) ?_
    intro x9 hb hs_x9 Xk
    replace Xr := Va.after hb Xr
    replace Xa := Va.after hb Xa
    replace Xu := Va.after hb Xu
    replace Xb := Va.after hb Xb
    replace Xy := Va.after hb Xy
    replace hr := Rt.after hb hr
    replace ha := Rr.after hb ha
    replace hu := Rt.after hb hu
    replace hb_ := Rr.after hb hb_
    replace hk := Rr.after hb hk
    replace B0 := step B0 hb
    clear hb hs_x9
    refine (is7 false none 0 0 [] none 0 0 [] 0 sk ak lk ck zk bk mk dk yk x9 (Rt.nil _) hk).mono ?_
    rintro e x10 ⟨rfl, hb⟩
    replace Xr := Va.after hb Xr
    replace Xa := Va.after hb Xa
    replace Xu := Va.after hb Xu
    replace Xb := Va.after hb Xb
    replace Xy := Va.after hb Xy
    replace Xk := Va.after hb Xk
    replace hr := Rt.after hb hr
    replace ha := Rr.after hb ha
    replace hu := Rt.after hb hu
    replace hb_ := Rr.after hb hb_
    replace hk := Rr.after hb hk
    replace B0 := step B0 hb
    clear hb
    clear c_Xy f0_Xy d_Xy f1_Xy e_Xy f2_Xy l_Xy m_Xy p0_Xy q0_Xy p1_Xy q1_Xy p2_Xy q2_Xy
    go_wp2_with fail
    go_ret
    exact ⟨rfl, B0⟩
  ·
    have HM : Hid (1 ≤ q ∧ q ≤ 5 ∧ 0 < t.num) := by show _ ∧ _; omega
    have HTP : Hid (0 < t.num) := HM.out.2.2
    clear hm
    refine (units_ok q HM.out.1 HM.out.2.1 sr ar lr cr zr br mr dr yr v su au lu cu zu bu mu du yu t x5 hr hu HTP).mono ?_
    rintro e x6 ⟨er, sx, ax, lx, cx, zx, bx, mx, dx, yx, v1, rfl, hy, hra, hb⟩
    replace Xr := Va.after hb Xr
    replace Xa := Va.after hb Xa
    replace Xu := Va.after hb Xu
    replace Xb := Va.after hb Xb
    replace hr := Rt.after hb hr
    replace ha := Rr.after hb ha
    replace hu := Rt.after hb hu
    replace hb_ := Rr.after hb hb_
    replace B0 := step B0 hb
    clear hb
    clear c_Xr f0_Xr d_Xr f1_Xr e_Xr f2_Xr l_Xr m_Xr p0_Xr q0_Xr p1_Xr q1_Xr p2_Xr q2_Xr
    have c_Xa := Xa.d0
    have f0_Xa := Xa.frozen 0
    have d_Xa := Xa.d1
    have f1_Xa := Xa.frozen 1
    have e_Xa := Xa.d2
    have f2_Xa := Xa.frozen 2
    have l_Xa := Xa.lt
    have m_Xa := Nat.le_of_lt l_Xa
    have c_Xb := Xb.d0
    have f0_Xb := Xb.frozen 0
    have d_Xb := Xb.d1
    have f1_Xb := Xb.frozen 1
    have e_Xb := Xb.d2
    have f2_Xb := Xb.frozen 2
    have l_Xb := Xb.lt
    have m_Xb := Nat.le_of_lt l_Xb
    have p0_Xa := (Xa.old (.cells #[.bool sx, .slice ax lx cx, .slice bx mx dx] 30)).d0
    have q0_Xa := (Xa.old (.cells #[.bool sx, .slice ax lx cx, .slice bx mx dx] 30)).frozen 0
    have p1_Xa := (Xa.old (.cells #[.bool sx, .slice ax lx cx, .slice bx mx dx] 30)).d1
    have q1_Xa := (Xa.old (.cells #[.bool sx, .slice ax lx cx, .slice bx mx dx] 30)).frozen 1
    have p2_Xa := (Xa.old (.cells #[.bool sx, .slice ax lx cx, .slice bx mx dx] 30)).d2
    have q2_Xa := (Xa.old (.cells #[.bool sx, .slice ax lx cx, .slice bx mx dx] 30)).frozen 2
    have p0_Xb := (Xb.old (.cells #[.bool sx, .slice ax lx cx, .slice bx mx dx] 30)).d0
    have q0_Xb := (Xb.old (.cells #[.bool sx, .slice ax lx cx, .slice bx mx dx] 30)).frozen 0
    have p1_Xb := (Xb.old (.cells #[.bool sx, .slice ax lx cx, .slice bx mx dx] 30)).d1
    have q1_Xb := (Xb.old (.cells #[.bool sx, .slice ax lx cx, .slice bx mx dx] 30)).frozen 1
    have p2_Xb := (Xb.old (.cells #[.bool sx, .slice ax lx cx, .slice bx mx dx] 30)).d2
    have q2_Xb := (Xb.old (.cells #[.bool sx, .slice ax lx cx, .slice bx mx dx] 30)).frozen 2
    go_wp2_with fail
    refine ent1 x6 _ _ (Q := fun W => Calls Tryz.prog _ _ W _) ?_
    intro x7 hb hs_x7 Xy
    replace Xr := Va.after hb Xr
    replace Xa := Va.after hb Xa
    replace Xu := Va.after hb Xu
    replace Xb := Va.after hb Xb
    replace hr := Rt.after hb hr
    replace ha := Rr.after hb ha
    replace hu := Rt.after hb hu
    replace hb_ := Rr.after hb hb_
    replace hy := Rt.after hb hy
    replace B0 := step B0 hb
    clear hb hs_x7
    refine (runits_ok q HM.out.1 HM.out.2.1 sa aa la ca za ba ma da ya v sb ab lb cb zb bb mb db yb t x7 ha hb_ hvS.out htS.out HM.out.2.2).mono ?_
    rintro e x8 ⟨er2, sk, ak, lk, ck, zk, bk, mk, dk, yk, v2, rfl, hk, hra2, hb⟩
    replace Xr := Va.after hb Xr
    replace Xa := Va.after hb Xa
    replace Xu := Va.after hb Xu
    replace Xb := Va.after hb Xb
    replace Xy := Va.after hb Xy
    replace hr := Rt.after hb hr
    replace ha := Rr.after hb ha
    replace hu := Rt.after hb hu
    replace hb_ := Rr.after hb hb_
    replace hy := Rt.after hb hy
    replace B0 := step B0 hb
    clear hb
    obtain ⟨e8, e9⟩ := ra_one hra.out hra2.out
    subst e8
    subst e9
    clear hra hra2
    clear c_Xa f0_Xa d_Xa f1_Xa e_Xa f2_Xa l_Xa m_Xa c_Xb f0_Xb d_Xb f1_Xb e_Xb f2_Xb l_Xb m_Xb p0_Xa q0_Xa p1_Xa q1_Xa p2_Xa q2_Xa p0_Xb q0_Xb p1_Xb q1_Xb p2_Xb q2_Xb
    have c_Xy := Xy.d0
    have f0_Xy := Xy.frozen 0
    have d_Xy := Xy.d1
    have f1_Xy := Xy.frozen 1
    have e_Xy := Xy.d2
    have f2_Xy := Xy.frozen 2
    have l_Xy := Xy.lt
    have m_Xy := Nat.le_of_lt l_Xy
    have p0_Xy := (Xy.old (.cells #[.bool sk, .slice ak lk ck, .slice bk mk dk] 31)).d0
    have q0_Xy := (Xy.old (.cells #[.bool sk, .slice ak lk ck, .slice bk mk dk] 31)).frozen 0
    have p1_Xy := (Xy.old (.cells #[.bool sk, .slice ak lk ck, .slice bk mk dk] 31)).d1
    have q1_Xy := (Xy.old (.cells #[.bool sk, .slice ak lk ck, .slice bk mk dk] 31)).frozen 1
    have p2_Xy := (Xy.old (.cells #[.bool sk, .slice ak lk ck, .slice bk mk dk] 31)).d2
    have q2_Xy := (Xy.old (.cells #[.bool sk, .slice ak lk ck, .slice bk mk dk] 31)).frozen 2
    go_wp2_with fail
    refine ent1 x8 _ _ (Q := fun W => Calls Tryz.prog _ _ W _) ?_
    intro x9 hb hs_x9 Xk
    replace Xr := Va.after hb Xr
    replace Xa := Va.after hb Xa
    replace Xu := Va.after hb Xu
    replace Xb := Va.after hb Xb
    replace Xy := Va.after hb Xy
    replace hr := Rt.after hb hr
    replace ha := Rr.after hb ha
    replace hu := Rt.after hb hu
    replace hb_ := Rr.after hb hb_
    replace hy := Rt.after hb hy
    replace hk := Rr.after hb hk
    replace B0 := step B0 hb
    clear hb hs_x9
    refine (is7 sx ax lx cx zx bx mx dx yx _ sk ak lk ck zk bk mk dk yk x9 hy hk).mono ?_
    rintro e x10 ⟨rfl, hb⟩
    replace Xr := Va.after hb Xr
    replace Xa := Va.after hb Xa
    replace Xu := Va.after hb Xu
    replace Xb := Va.after hb Xb
    replace Xy := Va.after hb Xy
    replace Xk := Va.after hb Xk
    replace hr := Rt.after hb hr
    replace ha := Rr.after hb ha
    replace hu := Rt.after hb hu
    replace hb_ := Rr.after hb hb_
    replace hy := Rt.after hb hy
    replace hk := Rr.after hb hk
    replace B0 := step B0 hb
    clear hb
    clear c_Xy f0_Xy d_Xy f1_Xy e_Xy f2_Xy l_Xy m_Xy p0_Xy q0_Xy p1_Xy q1_Xy p2_Xy q2_Xy
    go_wp2_with fail
    go_ret
    exact ⟨rfl, B0⟩
end Go.Proofs.YtegfklapgbggfaaGreat
namespace Go.Proofs.YtegfklapgbggfaaGreat.roundUnits
open Go.ChangeShapes Go.WideShapes Go.ChangeAt Go.RowKit
set_option linter.unusedVariables false

theorem own : ownKnob Tryz.prog.godebug = none := by kernel_rfl
theorem laidOut : laidOutB Tryz.prog = true := by kernel_rfl
theorem bytes8 : Tryz.prog.bytesOf 74 = 8 := by kernel_rfl

set_option maxRecDepth 100000 in
theorem contract (H : Type) (enc : TypeId × Value → H) (W : World) (base : Nat) (args : Array Value) (ds gs : List (DataW H)) (before : List MemPlace)
    (hval : ∀ (j : Nat) t v, Tryz.f3.params[j]? = some t → args[j]? = some v → Value.okWide Tryz.prog W .any base t v)
    (hW : DataW.Whole enc Tryz.prog Tryz.f3.params.toList Rows.roundUnitsSpec.vars false W args.toList ds gs before) (hsz : (DataW.weightsEach Tryz.prog (Tryz.f3.params.toList ++ Rows.roundUnitsSpec.plain.varTypes Tryz.prog) (ds ++ gs)).all (· ≤ reachBytes) = true) :
    Calls Tryz.prog 3 args W fun e W' => ∃ v, e = .returned v ∧ Rows.roundUnitsSpec.post enc Tryz.prog Tryz.f3 false true false false W args v W' := by
  have hW' := hW
  obtain ⟨p, q, hA0, hV, rfl, hfz, hnd⟩ := hW
  have hA : DataW.TrodAll enc Tryz.prog W 0 (fun _ => true) true Tryz.f3.params.toList args.toList ds p := hA0
  rw [Tryz.params3] at hA hval hsz
  obtain ⟨v0, vs0, d0, ds0, p0, q0, hargs, rfl, rfl, h0, r0⟩ := trodAll_cons hA
  obtain ⟨v1, vs1, d1, ds1, p1, q1, rfl, rfl, rfl, h1, r1⟩ := trodAll_cons r0
  obtain ⟨v2, vs2, d2, ds2, p2, q2, rfl, rfl, rfl, h2, r2⟩ := trodAll_cons r1
  obtain ⟨rfl, rfl, rfl⟩ := trodAll_nil r2
  obtain rfl : args = #[v0, v1, v2] := by cases args; simp_all
  obtain ⟨rfl, rfl⟩ := trodVars_none hV
  have k0 := h0
  have lt0 : ∀ x ∈ p0, x.block < W.heap.size := by obtain ⟨m, hm⟩ := k0; exact DataW.trod_lt m _ _ _ hm
  obtain ⟨u0, x0, t0, y00, y01, y02, m0, rfl, rfl, rfl, hy00, hy01, hy02⟩ := Go.Joins.open_agg3 Tryz.underlying24 (by kernel_rfl) (by kernel_rfl) (hval 0 24 v0 rfl rfl) h0
  obtain ⟨n0, hn0, -⟩ := DataW.trod_bool Tryz.underlying4 hy00
  obtain rfl : u0 = .bool n0 := by simpa using hn0
  obtain ⟨a0, len0, cap0, z0, hv0, s0, c0, e0⟩ : ∃ a len cap zs, x0 = .slice a len cap ∧ Sl W a len zs ∧ len ≤ cap ∧ (a = Option.none → len = 0 ∧ cap = 0) := by
    rcases open_ints Tryz.underlying22 Tryz.underlying74 (by kernel_rfl) hy01 with ⟨hcs, _⟩ | ⟨x, l, c, zs, hcs, _, hl, hm, hz, hx, hcell, hwz⟩
    · exact ⟨Option.none, 0, 0, [], by simpa using hcs, ⟨rfl, Limbs.nil, fun h => absurd h (by decide)⟩, Nat.le_refl _, fun _ => ⟨rfl, rfl⟩⟩
    · have hz' : zs.length = c := by simpa using hz
      refine ⟨some x, l, c, zs.take l, by simpa using hcs, ⟨by rw [List.length_take]; omega, fun z hz2 => word_of_wf (hwz z (List.mem_of_mem_take hz2)), fun h => ?_⟩, hl, fun h => by cases h⟩
      obtain ⟨bb, off, rfl, hc⟩ := ints_at hcell (by omega)
      refine ⟨bb, off, rfl, fun j hj => ?_⟩
      rw [hc j (by omega), List.getD_eq_getElem?_getD, List.getD_eq_getElem?_getD, List.getElem?_take_of_lt hj]
  subst hv0
  obtain ⟨ab0, lenb0, capb0, zb0, hvb0, sb0, cb0, eb0⟩ : ∃ a len cap zs, t0 = .slice a len cap ∧ Sl W a len zs ∧ len ≤ cap ∧ (a = Option.none → len = 0 ∧ cap = 0) := by
    rcases open_ints Tryz.underlying22 Tryz.underlying74 (by kernel_rfl) hy02 with ⟨hcs, _⟩ | ⟨x, l, c, zs, hcs, _, hl, hm, hz, hx, hcell, hwz⟩
    · exact ⟨Option.none, 0, 0, [], by simpa using hcs, ⟨rfl, Limbs.nil, fun h => absurd h (by decide)⟩, Nat.le_refl _, fun _ => ⟨rfl, rfl⟩⟩
    · have hz' : zs.length = c := by simpa using hz
      refine ⟨some x, l, c, zs.take l, by simpa using hcs, ⟨by rw [List.length_take]; omega, fun z hz2 => word_of_wf (hwz z (List.mem_of_mem_take hz2)), fun h => ?_⟩, hl, fun h => by cases h⟩
      obtain ⟨bb, off, rfl, hc⟩ := ints_at hcell (by omega)
      refine ⟨bb, off, rfl, fun j hj => ?_⟩
      rw [hc j (by omega), List.getD_eq_getElem?_getD, List.getD_eq_getElem?_getD, List.getElem?_take_of_lt hj]
  subst hvb0
  clear hn0
  have k1 := h1
  have lt1 : ∀ x ∈ p1, x.block < W.heap.size := by obtain ⟨m, hm⟩ := k1; exact DataW.trod_lt m _ _ _ hm
  obtain ⟨u1, x1, t1, y10, y11, y12, m1, rfl, rfl, rfl, hy10, hy11, hy12⟩ := Go.Joins.open_agg3 Tryz.underlying24 (by kernel_rfl) (by kernel_rfl) (hval 1 24 v1 rfl rfl) h1
  obtain ⟨n1, hn1, -⟩ := DataW.trod_bool Tryz.underlying4 hy10
  obtain rfl : u1 = .bool n1 := by simpa using hn1
  obtain ⟨a1, len1, cap1, z1, hv1, s1, c1, e1⟩ : ∃ a len cap zs, x1 = .slice a len cap ∧ Sl W a len zs ∧ len ≤ cap ∧ (a = Option.none → len = 0 ∧ cap = 0) := by
    rcases open_ints Tryz.underlying22 Tryz.underlying74 (by kernel_rfl) hy11 with ⟨hcs, _⟩ | ⟨x, l, c, zs, hcs, _, hl, hm, hz, hx, hcell, hwz⟩
    · exact ⟨Option.none, 0, 0, [], by simpa using hcs, ⟨rfl, Limbs.nil, fun h => absurd h (by decide)⟩, Nat.le_refl _, fun _ => ⟨rfl, rfl⟩⟩
    · have hz' : zs.length = c := by simpa using hz
      refine ⟨some x, l, c, zs.take l, by simpa using hcs, ⟨by rw [List.length_take]; omega, fun z hz2 => word_of_wf (hwz z (List.mem_of_mem_take hz2)), fun h => ?_⟩, hl, fun h => by cases h⟩
      obtain ⟨bb, off, rfl, hc⟩ := ints_at hcell (by omega)
      refine ⟨bb, off, rfl, fun j hj => ?_⟩
      rw [hc j (by omega), List.getD_eq_getElem?_getD, List.getD_eq_getElem?_getD, List.getElem?_take_of_lt hj]
  subst hv1
  obtain ⟨ab1, lenb1, capb1, zb1, hvb1, sb1, cb1, eb1⟩ : ∃ a len cap zs, t1 = .slice a len cap ∧ Sl W a len zs ∧ len ≤ cap ∧ (a = Option.none → len = 0 ∧ cap = 0) := by
    rcases open_ints Tryz.underlying22 Tryz.underlying74 (by kernel_rfl) hy12 with ⟨hcs, _⟩ | ⟨x, l, c, zs, hcs, _, hl, hm, hz, hx, hcell, hwz⟩
    · exact ⟨Option.none, 0, 0, [], by simpa using hcs, ⟨rfl, Limbs.nil, fun h => absurd h (by decide)⟩, Nat.le_refl _, fun _ => ⟨rfl, rfl⟩⟩
    · have hz' : zs.length = c := by simpa using hz
      refine ⟨some x, l, c, zs.take l, by simpa using hcs, ⟨by rw [List.length_take]; omega, fun z hz2 => word_of_wf (hwz z (List.mem_of_mem_take hz2)), fun h => ?_⟩, hl, fun h => by cases h⟩
      obtain ⟨bb, off, rfl, hc⟩ := ints_at hcell (by omega)
      refine ⟨bb, off, rfl, fun j hj => ?_⟩
      rw [hc j (by omega), List.getD_eq_getElem?_getD, List.getD_eq_getElem?_getD, List.getElem?_take_of_lt hj]
  subst hvb1
  clear hn1
  obtain ⟨a2, rfl, rfl, rfl, w2⟩ := open_int Tryz.underlying3 (hval 2 3 v2 rfl rfl) h2
  clear hA0
  refine (units7_walk n0 a0 len0 cap0 z0 ab0 lenb0 capb0 zb0 n1 a1 len1 cap1 z1 ab1 lenb1 capb1 zb1 a2 W s0 sb0 c0 cb0 s1 sb1 c1 cb1 w2).mono fun e W' ⟨he, bel⟩ => ?_
  subst he
  exact ⟨_, rfl, _, _, _, [], _, [], hW', trodAll_mk1 (shut_bool Tryz.underlying4 _), (trodAll_cons_mk (Below.trod laidOut (by kernel_rfl) (of_decide_eq_true (by kernel_rfl)) k0 bel lt0) (trodAll_cons_mk (Below.trod laidOut (by kernel_rfl) (of_decide_eq_true (by kernel_rfl)) k1 bel lt1) (trodAll_cons_mk (shut_int Tryz.underlying3 w2) trodAll_mk0))), rfl, bel.frame _, fun h => by cases h⟩

set_option maxRecDepth 100000 in
theorem lifted (os : Os) (started : os.Started) (H : Type) (enc : TypeId × Value → H) :
    ReturnsInHanded {} Tryz.checked os 3 .any (Rows.roundUnitsSpec.pre6 enc Tryz.prog Tryz.f3 Rows.roundUnitsRow.domain false) (Rows.roundUnitsSpec.post enc Tryz.prog Tryz.f3 false true false false) := by
  refine returnsInHanded_of_change_sized (C := Tryz.checked) own started (by kernel_rfl) Tryz.func3
    (ChangeSpec.witness6 (enc := enc) (C := Tryz.checked) false ⟨#[], #[.agg #[.bool false, .slice none 0 0, .slice none 0 0], .agg #[.bool false, .slice none 0 0, .slice none 0 0], .int .i64 0], []⟩ 8 (by kernel_rfl) (by kernel_rfl) (by kernel_rfl) (by kernel_rfl)) ?_
  intro W base args ds gs before hval0 hW _ hsz0 _
  exact contract H enc W base args ds gs before hval0 hW hsz0

theorem over : Rows.roundUnitsRow.holds Tryz.pinned (OpenSpec.ofChange Rows.roundUnitsSpec) :=
  OpenClaim.holds_of_wide 3 Tryz.f3 rfl rfl rfl rfl rfl rfl rfl ⟨rfl, rfl, rfl, rfl, rfl⟩ rfl rfl rfl rfl rfl (by kernel_rfl) Tryz.func3 (by kernel_rfl)
    (of_decide_eq_true (by kernel_rfl)) (by unfold Func.isWrapper; first | (rw [if_pos (by decide +kernel)]; kernel_rfl) | (rw [if_neg (by decide +kernel)]; exact ⟨rfl, rfl⟩))
    (fun os started H enc _ => lifted os started H enc)
end Go.Proofs.YtegfklapgbggfaaGreat.roundUnits
namespace Go.Proofs.YtegfklapgbggfaaGreat
theorem roundUnits_holds : Rows.RoundUnitsSaid := roundUnits.over
#print axioms roundUnits_holds
end Go.Proofs.YtegfklapgbggfaaGreat
