/-
  RoundPlaces holds: any number rounded to any places by any mode is the document's, or the places, the mode or the length are refused; no condition.
-/
import Derived.Test.YtegfklapgbggfaaGreatTk
import Derived.Test.YtegfklapgbggfaaGreatAl
import Derived.Test.YtegfklapgbggfaaGreatNRef6
import Derived.Test.YtegfklapgbggfaaGreatBsK
import Derived.Test.YtegfklapgbggfaaGreatBsE
import Init.Omega
import Derived.Test.YtegfklapgbggfaaGreatPow
import Derived.Test.YtegfklapgbggfaaGreatBsL
import Derived.Test.YtegfklapgbggfaaGreatBsO
import Derived.Test.YtegfklapgbggfaaGreatBsI
import Derived.Test.YtegfklapgbggfaaGreatBsN
import Derived.Test.YtegfklapgbggfaaGreatBsQ
import Derived.Test.YtegfklapgbggfaaGreatRw9
import Derived.Test.YtegfklapgbggfaaGreatRd4
import Derived.Test.YtegfklapgbggfaaGreatRt8
import Derived.Test.YtegfklapgbggfaaGreatRd3
import Derived.Test.YtegfklapgbggfaaGreatRows
import Derived.ProofKit
import Derived.OpenShut
import Derived.ShutString
import Derived.ChangeOld
import Derived.SizedLaws
import Derived.Lib.SmallJoins
import Derived.Test.YtegfklapgbggfaaGreatRl7
import Derived.Test.YtegfklapgbggfaaGreatRt12
namespace Go.Proofs.YtegfklapgbggfaaGreat
open Go.RowKit Go.Shelf
set_option linter.unusedVariables false

theorem div_short {X Y : Int} (hX : (X.natAbs : Int) < pw 1024) (hY : Y < pw 1024) (h0 : 0 < Y) : Short (Rat.divInt X Y) := by
  have e : Rat.divInt X Y = mkRat X Y.natAbs := by rw [← Rat.divInt_ofNat]; congr 1; omega
  rw [e]
  exact (Sz.mk (i := 1024) (by omega) hX (by omega)).short (by omega)
theorem Sh.lt {w : World} {a : Option Addr} {l c : Nat} {zs : List Int} (h : Sh w a l c 1024 zs) : num zs < pw 1024 := lt_of_used h.1.2.1 (by rw [h.2.1]; exact h.2.2.2)
theorem Rr.len7 {w : World} {s : Bool} {a : Option Addr} {l c : Nat} {zs : List Int} {b : Option Addr} {m d : Nat} {ys : List Int} {v : Rat} (h : Rr w s a l c zs b m d ys v) (hS : Short v) : l ≤ 1024 ∧ m ≤ 1024 := by
  obtain ⟨h1, h2, h3, h4, -, h5, h6, -⟩ := h
  have p1 := num_nonneg h1.2.1
  refine ⟨?_, ?_⟩
  · have := used_of_lt (n := 1024) h1.2.1 (by
      have h7 := hS.1
      rw [← h5] at h7
      cases s
      · rw [iv_f] at h7; omega
      · rw [iv_t] at h7; omega)
    omega
  · have := used_of_lt (n := 1024) h2.2.1 (by rw [h6]; exact hS.2)
    omega
theorem Rr.norm7 {w : World} {s : Bool} {a : Option Addr} {l c : Nat} {zs : List Int} {b : Option Addr} {m d : Nat} {ys : List Int} {v : Rat} (h : Rr w s a l c zs b m d ys v) : Norm s zs ys := by
  obtain ⟨h1, h2, h3, h4, -, h5, h6, h7⟩ := h
  have p1 := num_nonneg h1.2.1
  have hd := v.den_pos
  refine ⟨by rw [h3, h1.1], by rw [h4, h2.1], ?_, ?_, ?_⟩
  · intro e
    have := (num_eq_zero h2.2.1).2 (by rw [h4, ← h2.1, e])
    omega
  · rintro ⟨e1, e2⟩
    exact h7 e1 ((num_eq_zero h1.2.1).2 (by rw [h3, ← h1.1, e2]))
  · have e1 : (num zs).natAbs = v.num.natAbs := by
      rw [← h5]
      cases s
      · rw [iv_f]
      · rw [iv_t]; omega
    have e2 : (num ys).natAbs = v.den := by omega
    unfold Int.gcd
    rw [e1, e2]
    exact v.reduced
theorem sl_one7 {w : World} {b : Nat} {t : TypeId} (V : Va w b t #[.int .u64 1]) : Sl w (some ⟨b, 0, none⟩) 1 [1] := by
  refine ⟨rfl, fun z hz => ?_, fun _ => ⟨b, 0, rfl, fun i hi => ?_⟩⟩
  · simp at hz; subst hz; exact ⟨by omega, by omega⟩
  · obtain rfl : i = 0 := by omega
    exact V.cell
/-- Lists that are not cut. -/
structure PlK (l m : Nat) (zs ys : List Int) : Prop where
  a : l ≤ 1024
  b : m ≤ 1024
  c : usedN zs ≤ 60 ∨ usedN ys ≤ 1
  d : usedN ys ≤ 60 ∨ usedN zs ≤ 1
def PlC (l m : Nat) (zs ys : List Int) (Q : Prop) : Prop := PlK l m zs ys → Q
theorem iv_num {s : Bool} {xs ys : List Int} (h : num xs = num ys) : iv s xs = iv s ys := by unfold iv; rw [h]
/-- Numerator and denominator of the ratio that is looked at. -/
structure PlQ (l1 c1 l2 c2 : Nat) (z1 z2 : List Int) : Prop where
  u1 : usedN z1 = l1
  u2 : usedN z2 = l2
  k1 : l1 ≤ c1
  k2 : l2 ≤ c2
  m1 : l1 ≤ 1024
  m2 : l2 ≤ 1024
theorem Sh.plq {w w' : World} {a b : Option Addr} {l1 c1 l2 c2 k : Nat} {z1 z2 : List Int} (h1 : Sh w a l1 c1 k z1) (h2 : Sh w' b l2 c2 k z2) (hk : k ≤ 1024) : PlQ l1 c1 l2 c2 z1 z2 := ⟨h1.2.1, h2.2.1, h1.2.2.1, h2.2.2.1, by have := h1.2.2.2; omega, by have := h2.2.2.2; omega⟩

set_option maxHeartbeats 4000000 in
set_option maxRecDepth 4000 in
theorem plain7v (s : Bool) (a : Option Addr) (l c : Nat) (zs : List Int) (b : Option Addr) (m d : Nat) (ys : List Int) (w : World) (h1 : Sl w a l zs) (h2 : Sl w b m ys) (hc : l ≤ c) (hd : m ≤ d) :
    Calls Tryz.prog 14 #[.agg #[.bool s, .slice a l c, .slice b m d]] w fun e w' => ∃ s' a' l' c' zs' b' m' d' ys' v, e = .returned (.agg #[.bool s', .slice a' l' c', .slice b' m' d']) ∧ Rr w' s' a' l' c' zs' b' m' d' ys' v ∧ Hid (Short v) ∧ Hid (PlC l m zs ys (v = Rat.divInt (iv s zs) (dn ys))) ∧ Below w.heap.size w w' := by
  have B0 : Below w.heap.size w w := Below.refl _ _
  go_enter Tryz.func14, Tryz.ntmps14
  (go_wp2_with fail); refine ent2 w _ _ _ _ (Q := fun W => Code.wp Tryz.prog _ _ _ W) ?_; intro x1 hb hs_x1 V0 V1; replace h1 := Sl.after hb h1; replace h2 := Sl.after hb h2; replace B0 := step B0 hb; clear hb hs_x1; refine wp_region_noPanic ?_; replace V0 : Va x1.drew _ _ _ := V0; replace V1 : Va x1.drew _ _ _ := V1; replace h1 := h1.drw; replace h2 := h2.drw; replace B0 := Below.drew B0; refine wp_region_held_drew (S := (fun W => W.cell? ⟨w.heap.size, 0, none⟩ = some (.bool s) ∧ W.cell? ⟨w.heap.size, 1, none⟩ = some (.slice a l c) ∧ W.cell? ⟨w.heap.size, 2, none⟩ = some (.slice b m d))) (by kernel_rfl) ⟨V0.d0, V0.d1, V0.d2⟩ (fun hHeld => ?_); (obtain ⟨x2, hxd⟩ : ∃ xd, xd = x1.drew := ⟨_, rfl⟩); rw [← hxd] at V0 V1 h1 h2 B0 hHeld ⊢; clear hxd; refine tk 0 rfl hHeld ?_; simp only [gA, gB, Act.put, gD, gE, gF]; refine tk 1 rfl hHeld ?_; simp only [gA, gB, gC, Act.put, gD, gE, gF]; refine tk 3 rfl hHeld ?_; simp only [gA, gB, gC, Act.put, gD, gE, gF]
  refine tk 4 rfl hHeld ?_; simp only [gA, gB, gC, Act.put, gD, gE, gF]; refine wpAnyH_ready (rs := [2]) (by kernel_rfl) (by simp) ?_; refine AllReadyH.cons rfl (fun K hK => ?_) AllReadyH.nil; simp only [gA, gB, gC]; (go_simp); refine (short7v a l c 1024 zs _ h1 hc (by omega)).mono ?_; rintro e x3 ⟨a1, l1, c1, z1, rfl, g1, nn1, hb⟩; replace V0 := Va.after hb V0; replace V1 := Va.after hb V1; replace h1 := Sl.after hb h1; replace h2 := Sl.after hb h2; replace B0 := step B0 hb; clear hb; (try go_wp2_with fail); refine hK.out _ _ ⟨V0.d0, V0.d1, V0.d2⟩ (fun hHeld => ?_); clear hK K; refine wpAnyH_ready (rs := [5]) (by kernel_rfl) (by simp) ?_; refine AllReadyH.cons rfl (fun K hK => ?_) AllReadyH.nil; simp only [gA, gB, gC]; (go_simp); refine (short7v b m d 1024 ys _ h2 hd (by omega)).mono ?_; rintro e x4 ⟨a2, l2, c2, z2, rfl, g2, nn2, hb⟩; replace V0 := Va.after hb V0; replace V1 := Va.after hb V1; replace h1 := Sl.after hb h1; replace h2 := Sl.after hb h2
  replace g1 := Sh.after hb g1; replace B0 := step B0 hb; clear hb; (try go_wp2_with fail); refine hK.out _ _ ⟨V0.d0, V0.d1, V0.d2⟩ (fun hHeld => ?_); clear hK K; refine tk 6 rfl hHeld ?_; simp only [gA, gB, gC, Act.put, gD, gE, gF]; refine tk 7 rfl hHeld ?_; simp only [gA, gB, gC, Act.put, gD, gE, gF]; refine wpAnyH_done (by kernel_rfl) ?_ _; refine NoPanic.normal ?_; clear hHeld; clear h1 h2
  by_cases q1 : 60 < l1
  · by_cases q2 : 1 < l2
    ·
      (have t0 : decide ((60 : Int) < (l1 : Int)) = true := by simp; omega); (have t1 : decide ((1 : Int) < (l2 : Int)) = true := by simp; omega); (go_wp2_with fail); refine (short7 a1 l1 c1 60 z1 x4 g1.1 g1.2.2.1 (by omega)).mono ?_; rintro e x5 ⟨a3, l3, c3, z3, rfl, g3, hb⟩; replace V0 := Va.after hb V0; replace V1 := Va.after hb V1; replace g1 := Sh.after hb g1; replace g2 := Sh.after hb g2; replace B0 := step B0 hb; clear hb; (go_wp2_with fail); refine (short7 a2 l2 c2 60 z2 x5 g2.1 g2.2.2.1 (by omega)).mono ?_; rintro e x6 ⟨a4, l4, c4, z4, rfl, g4, hb⟩; replace V0 := Va.after hb V0; replace V1 := Va.after hb V1; replace g1 := Sh.after hb g1; replace g2 := Sh.after hb g2; replace g3 := Sh.after hb g3; replace B0 := step B0 hb; clear hb; have h3 := g3.1; have h4 := g4.1; have HQ : Hid (PlQ l3 c3 l4 c4 z3 z4) := g3.plq g4 (by omega); clear t0 t1; clear g1 g2 g3 g4
      by_cases q : l4 = 0
      ·
        subst q; have c_V0 := V0.d0; have f0_V0 := V0.frozen 0; have d_V0 := V0.d1; have f1_V0 := V0.frozen 1; have e_V0 := V0.d2; have f2_V0 := V0.frozen 2; have l_V0 := V0.lt; have m_V0 := Nat.le_of_lt l_V0; (go_wp2_with fail); refine ent1 x6 _ _ (Q := fun W => Calls Tryz.prog _ _ W _) ?_; intro x7 hb hs_x7 Vd; replace V0 := Va.after hb V0; replace V1 := Va.after hb V1; replace h3 := Sl.after hb h3; replace h4 := Sl.after hb h4; replace B0 := step B0 hb; clear hb hs_x7; have hd1 : Sl x7 (some ⟨x6.heap.size, 0, none⟩) 1 [1] := sl_one7 Vd; refine (rmake5 s a3 (some ⟨x6.heap.size, 0, none⟩) l3 c3 1 1 z3 [1] x7 h3 hd1 HQ.out.k1 (by omega) (by have := HQ.out.m1; omega) (by omega) (by rw [HQ.out.u1]; have := HQ.out.m1; omega) (by decide) (by decide)).mono ?_; rintro e x8 ⟨s5, a5, l5, c5, z5, b5, m5, d5, y5, rfl, h5, -, -, hb⟩; replace V0 := Va.after hb V0; replace V1 := Va.after hb V1; replace Vd := Va.after hb Vd; replace h3 := Sl.after hb h3; replace h4 := Sl.after hb h4
        replace hd1 := Sl.after hb hd1; replace B0 := step B0 hb; clear hb; clear c_V0 f0_V0 d_V0 f1_V0 e_V0 f2_V0 l_V0 m_V0; have c_V1 := V1.d0; have f0_V1 := V1.frozen 0; have d_V1 := V1.d1; have f1_V1 := V1.frozen 1; have e_V1 := V1.d2; have f2_V1 := V1.frozen 2; have l_V1 := V1.lt; have m_V1 := Nat.le_of_lt l_V1; (go_wp2_with fail); refine bodyPost_ret (results_ra rfl rfl (V1.set3 _ _ _)) rfl ?_; exact ⟨s5, a5, l5, c5, z5, b5, m5, d5, y5, _, rfl, h5.far V1 (noInt3 _ _ _ _ _ _ _) (fa3 _ _ _ _ _), div_short (by show ((iv s z3).natAbs : Int) < _; have h7 := lt_of_used h3.2.1 (show usedN z3 ≤ 1024 by rw [HQ.out.u1]; exact HQ.out.m1); have h8 := num_nonneg h3.2.1; cases s <;> simp only [iv_t, iv_f] <;> omega) (one_lt_pw (by omega)) (by decide), (by intro hcond; exfalso; have h5 := nn1.out hcond.a; have h6 := nn2.out hcond.b; have h7 := hcond.c; have h8 := hcond.d; omega), belo3 B0 (by omega) _ _ _⟩
      ·
        (have HD : Hid (num z4 ≠ 0) := fun e => q (by rw [← HQ.out.u2]; exact (num_eq_zero h4.2.1).1 e)); have c_V0 := V0.d0; have f0_V0 := V0.frozen 0; have d_V0 := V0.d1; have f1_V0 := V0.frozen 1; have e_V0 := V0.d2; have f2_V0 := V0.frozen 2; have l_V0 := V0.lt; have m_V0 := Nat.le_of_lt l_V0; (go_wp2_with fail); refine (rmake5 s a3 a4 l3 c3 l4 c4 z3 z4 x6 h3 h4 HQ.out.k1 HQ.out.k2 (by have := HQ.out.m1; omega) (by have := HQ.out.m2; omega) (by rw [HQ.out.u1]; have := HQ.out.m1; omega) (by rw [HQ.out.u2]; have := HQ.out.m2; omega) HD.out).mono ?_; rintro e x7 ⟨s5, a5, l5, c5, z5, b5, m5, d5, y5, rfl, h5, -, -, hb⟩; replace V0 := Va.after hb V0; replace V1 := Va.after hb V1; replace h3 := Sl.after hb h3; replace h4 := Sl.after hb h4; replace B0 := step B0 hb; clear hb; clear c_V0 f0_V0 d_V0 f1_V0 e_V0 f2_V0 l_V0 m_V0; have c_V1 := V1.d0; have f0_V1 := V1.frozen 0; have d_V1 := V1.d1; have f1_V1 := V1.frozen 1; have e_V1 := V1.d2; have f2_V1 := V1.frozen 2
        have l_V1 := V1.lt; have m_V1 := Nat.le_of_lt l_V1; (go_wp2_with fail); refine bodyPost_ret (results_ra rfl rfl (V1.set3 _ _ _)) rfl ?_; exact ⟨s5, a5, l5, c5, z5, b5, m5, d5, y5, _, rfl, h5.far V1 (noInt3 _ _ _ _ _ _ _) (fa3 _ _ _ _ _), div_short (by show ((iv s z3).natAbs : Int) < _; have h7 := lt_of_used h3.2.1 (show usedN z3 ≤ 1024 by rw [HQ.out.u1]; exact HQ.out.m1); have h8 := num_nonneg h3.2.1; cases s <;> simp only [iv_t, iv_f] <;> omega) (lt_of_used h4.2.1 (by rw [HQ.out.u2]; exact HQ.out.m2)) (by have h9 := num_nonneg h4.2.1; have h8 := HD.out; omega), (by intro hcond; exfalso; have h5 := nn1.out hcond.a; have h6 := nn2.out hcond.b; have h7 := hcond.c; have h8 := hcond.d; omega), belo3 B0 (by omega) _ _ _⟩
    ·
      (have t0 : decide ((60 : Int) < (l1 : Int)) = true := by simp; omega); (have t1 : decide ((1 : Int) < (l2 : Int)) = false := by simp; omega); (have t2 : decide ((60 : Int) < (l2 : Int)) = false := by simp; omega); have h3 := g1.1; have h4 := g2.1; have HQ : Hid (PlQ l1 c1 l2 c2 z1 z2) := g1.plq g2 (by omega); clear g1 g2
      by_cases q : l2 = 0
      ·
        subst q; have c_V0 := V0.d0; have f0_V0 := V0.frozen 0; have d_V0 := V0.d1; have f1_V0 := V0.frozen 1; have e_V0 := V0.d2; have f2_V0 := V0.frozen 2; have l_V0 := V0.lt; have m_V0 := Nat.le_of_lt l_V0; (go_wp2_with fail); refine ent1 x4 _ _ (Q := fun W => Calls Tryz.prog _ _ W _) ?_; intro x5 hb hs_x5 Vd; replace V0 := Va.after hb V0; replace V1 := Va.after hb V1; replace h3 := Sl.after hb h3; replace h4 := Sl.after hb h4; replace B0 := step B0 hb; clear hb hs_x5; have hd1 : Sl x5 (some ⟨x4.heap.size, 0, none⟩) 1 [1] := sl_one7 Vd; refine (rmake5 s a1 (some ⟨x4.heap.size, 0, none⟩) l1 c1 1 1 z1 [1] x5 h3 hd1 HQ.out.k1 (by omega) (by have := HQ.out.m1; omega) (by omega) (by rw [HQ.out.u1]; have := HQ.out.m1; omega) (by decide) (by decide)).mono ?_; rintro e x6 ⟨s5, a5, l5, c5, z5, b5, m5, d5, y5, rfl, h5, -, -, hb⟩; replace V0 := Va.after hb V0; replace V1 := Va.after hb V1; replace Vd := Va.after hb Vd; replace h3 := Sl.after hb h3; replace h4 := Sl.after hb h4
        replace hd1 := Sl.after hb hd1; replace B0 := step B0 hb; clear hb; clear c_V0 f0_V0 d_V0 f1_V0 e_V0 f2_V0 l_V0 m_V0; have c_V1 := V1.d0; have f0_V1 := V1.frozen 0; have d_V1 := V1.d1; have f1_V1 := V1.frozen 1; have e_V1 := V1.d2; have f2_V1 := V1.frozen 2; have l_V1 := V1.lt; have m_V1 := Nat.le_of_lt l_V1; (go_wp2_with fail); refine bodyPost_ret (results_ra rfl rfl (V1.set3 _ _ _)) rfl ?_; exact ⟨s5, a5, l5, c5, z5, b5, m5, d5, y5, _, rfl, h5.far V1 (noInt3 _ _ _ _ _ _ _) (fa3 _ _ _ _ _), div_short (by show ((iv s z1).natAbs : Int) < _; have h7 := lt_of_used h3.2.1 (show usedN z1 ≤ 1024 by rw [HQ.out.u1]; exact HQ.out.m1); have h8 := num_nonneg h3.2.1; cases s <;> simp only [iv_t, iv_f] <;> omega) (one_lt_pw (by omega)) (by decide), (by intro hcond; have h5 := nn1.out hcond.a; have h6 := nn2.out hcond.b; rw [show dn ys = 1 from if_pos (by rw [← h6.1]; exact (num_eq_zero h4.2.1).2 HQ.out.u2), iv_num h5.1]; rfl), belo3 B0 (by omega) _ _ _⟩
      ·
        (have HD : Hid (num z2 ≠ 0) := fun e => q (by rw [← HQ.out.u2]; exact (num_eq_zero h4.2.1).1 e)); have c_V0 := V0.d0; have f0_V0 := V0.frozen 0; have d_V0 := V0.d1; have f1_V0 := V0.frozen 1; have e_V0 := V0.d2; have f2_V0 := V0.frozen 2; have l_V0 := V0.lt; have m_V0 := Nat.le_of_lt l_V0; (go_wp2_with fail); refine (rmake5 s a1 a2 l1 c1 l2 c2 z1 z2 x4 h3 h4 HQ.out.k1 HQ.out.k2 (by have := HQ.out.m1; omega) (by have := HQ.out.m2; omega) (by rw [HQ.out.u1]; have := HQ.out.m1; omega) (by rw [HQ.out.u2]; have := HQ.out.m2; omega) HD.out).mono ?_; rintro e x5 ⟨s5, a5, l5, c5, z5, b5, m5, d5, y5, rfl, h5, -, -, hb⟩; replace V0 := Va.after hb V0; replace V1 := Va.after hb V1; replace h3 := Sl.after hb h3; replace h4 := Sl.after hb h4; replace B0 := step B0 hb; clear hb; clear c_V0 f0_V0 d_V0 f1_V0 e_V0 f2_V0 l_V0 m_V0; have c_V1 := V1.d0; have f0_V1 := V1.frozen 0; have d_V1 := V1.d1; have f1_V1 := V1.frozen 1; have e_V1 := V1.d2; have f2_V1 := V1.frozen 2
        have l_V1 := V1.lt; have m_V1 := Nat.le_of_lt l_V1; (go_wp2_with fail); refine bodyPost_ret (results_ra rfl rfl (V1.set3 _ _ _)) rfl ?_; exact ⟨s5, a5, l5, c5, z5, b5, m5, d5, y5, _, rfl, h5.far V1 (noInt3 _ _ _ _ _ _ _) (fa3 _ _ _ _ _), div_short (by show ((iv s z1).natAbs : Int) < _; have h7 := lt_of_used h3.2.1 (show usedN z1 ≤ 1024 by rw [HQ.out.u1]; exact HQ.out.m1); have h8 := num_nonneg h3.2.1; cases s <;> simp only [iv_t, iv_f] <;> omega) (lt_of_used h4.2.1 (by rw [HQ.out.u2]; exact HQ.out.m2)) (by have h9 := num_nonneg h4.2.1; have h8 := HD.out; omega), (by intro hcond; have h5 := nn1.out hcond.a; have h6 := nn2.out hcond.b; rw [show dn ys = num ys from if_neg (by rw [← h6.1]; exact HD.out), ← h6.1, iv_num h5.1]), belo3 B0 (by omega) _ _ _⟩
  · by_cases q3 : 60 < l2
    · by_cases q4 : 1 < l1
      ·
        (have t0 : decide ((60 : Int) < (l1 : Int)) = false := by simp; omega); (have t1 : decide ((60 : Int) < (l2 : Int)) = true := by simp; omega); (have t2 : decide ((1 : Int) < (l1 : Int)) = true := by simp; omega); (go_wp2_with fail); refine (short7 a1 l1 c1 60 z1 x4 g1.1 g1.2.2.1 (by omega)).mono ?_; rintro e x5 ⟨a3, l3, c3, z3, rfl, g3, hb⟩; replace V0 := Va.after hb V0; replace V1 := Va.after hb V1; replace g1 := Sh.after hb g1; replace g2 := Sh.after hb g2; replace B0 := step B0 hb; clear hb; (go_wp2_with fail); refine (short7 a2 l2 c2 60 z2 x5 g2.1 g2.2.2.1 (by omega)).mono ?_; rintro e x6 ⟨a4, l4, c4, z4, rfl, g4, hb⟩; replace V0 := Va.after hb V0; replace V1 := Va.after hb V1; replace g1 := Sh.after hb g1; replace g2 := Sh.after hb g2; replace g3 := Sh.after hb g3; replace B0 := step B0 hb; clear hb; have h3 := g3.1; have h4 := g4.1; have HQ : Hid (PlQ l3 c3 l4 c4 z3 z4) := g3.plq g4 (by omega); clear t0 t1 t2; clear g1 g2 g3 g4
        by_cases q : l4 = 0
        ·
          subst q; have c_V0 := V0.d0; have f0_V0 := V0.frozen 0; have d_V0 := V0.d1; have f1_V0 := V0.frozen 1; have e_V0 := V0.d2; have f2_V0 := V0.frozen 2; have l_V0 := V0.lt; have m_V0 := Nat.le_of_lt l_V0; (go_wp2_with fail); refine ent1 x6 _ _ (Q := fun W => Calls Tryz.prog _ _ W _) ?_; intro x7 hb hs_x7 Vd; replace V0 := Va.after hb V0; replace V1 := Va.after hb V1; replace h3 := Sl.after hb h3; replace h4 := Sl.after hb h4; replace B0 := step B0 hb; clear hb hs_x7; have hd1 : Sl x7 (some ⟨x6.heap.size, 0, none⟩) 1 [1] := sl_one7 Vd; refine (rmake5 s a3 (some ⟨x6.heap.size, 0, none⟩) l3 c3 1 1 z3 [1] x7 h3 hd1 HQ.out.k1 (by omega) (by have := HQ.out.m1; omega) (by omega) (by rw [HQ.out.u1]; have := HQ.out.m1; omega) (by decide) (by decide)).mono ?_; rintro e x8 ⟨s5, a5, l5, c5, z5, b5, m5, d5, y5, rfl, h5, -, -, hb⟩; replace V0 := Va.after hb V0; replace V1 := Va.after hb V1; replace Vd := Va.after hb Vd; replace h3 := Sl.after hb h3; replace h4 := Sl.after hb h4
          replace hd1 := Sl.after hb hd1; replace B0 := step B0 hb; clear hb; clear c_V0 f0_V0 d_V0 f1_V0 e_V0 f2_V0 l_V0 m_V0; have c_V1 := V1.d0; have f0_V1 := V1.frozen 0; have d_V1 := V1.d1; have f1_V1 := V1.frozen 1; have e_V1 := V1.d2; have f2_V1 := V1.frozen 2; have l_V1 := V1.lt; have m_V1 := Nat.le_of_lt l_V1; (go_wp2_with fail); refine bodyPost_ret (results_ra rfl rfl (V1.set3 _ _ _)) rfl ?_; exact ⟨s5, a5, l5, c5, z5, b5, m5, d5, y5, _, rfl, h5.far V1 (noInt3 _ _ _ _ _ _ _) (fa3 _ _ _ _ _), div_short (by show ((iv s z3).natAbs : Int) < _; have h7 := lt_of_used h3.2.1 (show usedN z3 ≤ 1024 by rw [HQ.out.u1]; exact HQ.out.m1); have h8 := num_nonneg h3.2.1; cases s <;> simp only [iv_t, iv_f] <;> omega) (one_lt_pw (by omega)) (by decide), (by intro hcond; exfalso; have h5 := nn1.out hcond.a; have h6 := nn2.out hcond.b; have h7 := hcond.c; have h8 := hcond.d; omega), belo3 B0 (by omega) _ _ _⟩
        ·
          (have HD : Hid (num z4 ≠ 0) := fun e => q (by rw [← HQ.out.u2]; exact (num_eq_zero h4.2.1).1 e)); have c_V0 := V0.d0; have f0_V0 := V0.frozen 0; have d_V0 := V0.d1; have f1_V0 := V0.frozen 1; have e_V0 := V0.d2; have f2_V0 := V0.frozen 2; have l_V0 := V0.lt; have m_V0 := Nat.le_of_lt l_V0; (go_wp2_with fail); refine (rmake5 s a3 a4 l3 c3 l4 c4 z3 z4 x6 h3 h4 HQ.out.k1 HQ.out.k2 (by have := HQ.out.m1; omega) (by have := HQ.out.m2; omega) (by rw [HQ.out.u1]; have := HQ.out.m1; omega) (by rw [HQ.out.u2]; have := HQ.out.m2; omega) HD.out).mono ?_; rintro e x7 ⟨s5, a5, l5, c5, z5, b5, m5, d5, y5, rfl, h5, -, -, hb⟩; replace V0 := Va.after hb V0; replace V1 := Va.after hb V1; replace h3 := Sl.after hb h3; replace h4 := Sl.after hb h4; replace B0 := step B0 hb; clear hb; clear c_V0 f0_V0 d_V0 f1_V0 e_V0 f2_V0 l_V0 m_V0; have c_V1 := V1.d0; have f0_V1 := V1.frozen 0; have d_V1 := V1.d1; have f1_V1 := V1.frozen 1; have e_V1 := V1.d2; have f2_V1 := V1.frozen 2
          have l_V1 := V1.lt; have m_V1 := Nat.le_of_lt l_V1; (go_wp2_with fail); refine bodyPost_ret (results_ra rfl rfl (V1.set3 _ _ _)) rfl ?_; exact ⟨s5, a5, l5, c5, z5, b5, m5, d5, y5, _, rfl, h5.far V1 (noInt3 _ _ _ _ _ _ _) (fa3 _ _ _ _ _), div_short (by show ((iv s z3).natAbs : Int) < _; have h7 := lt_of_used h3.2.1 (show usedN z3 ≤ 1024 by rw [HQ.out.u1]; exact HQ.out.m1); have h8 := num_nonneg h3.2.1; cases s <;> simp only [iv_t, iv_f] <;> omega) (lt_of_used h4.2.1 (by rw [HQ.out.u2]; exact HQ.out.m2)) (by have h9 := num_nonneg h4.2.1; have h8 := HD.out; omega), (by intro hcond; exfalso; have h5 := nn1.out hcond.a; have h6 := nn2.out hcond.b; have h7 := hcond.c; have h8 := hcond.d; omega), belo3 B0 (by omega) _ _ _⟩
      ·
        (have t0 : decide ((60 : Int) < (l1 : Int)) = false := by simp; omega); (have t1 : decide ((60 : Int) < (l2 : Int)) = true := by simp; omega); (have t2 : decide ((1 : Int) < (l1 : Int)) = false := by simp; omega); have h3 := g1.1; have h4 := g2.1; have HQ : Hid (PlQ l1 c1 l2 c2 z1 z2) := g1.plq g2 (by omega); clear g1 g2
        by_cases q : l2 = 0
        ·
          exact absurd q (by omega)
        ·
          (have HD : Hid (num z2 ≠ 0) := fun e => q (by rw [← HQ.out.u2]; exact (num_eq_zero h4.2.1).1 e)); have c_V0 := V0.d0; have f0_V0 := V0.frozen 0; have d_V0 := V0.d1; have f1_V0 := V0.frozen 1; have e_V0 := V0.d2; have f2_V0 := V0.frozen 2; have l_V0 := V0.lt; have m_V0 := Nat.le_of_lt l_V0; (go_wp2_with fail); refine (rmake5 s a1 a2 l1 c1 l2 c2 z1 z2 x4 h3 h4 HQ.out.k1 HQ.out.k2 (by have := HQ.out.m1; omega) (by have := HQ.out.m2; omega) (by rw [HQ.out.u1]; have := HQ.out.m1; omega) (by rw [HQ.out.u2]; have := HQ.out.m2; omega) HD.out).mono ?_; rintro e x5 ⟨s5, a5, l5, c5, z5, b5, m5, d5, y5, rfl, h5, -, -, hb⟩; replace V0 := Va.after hb V0; replace V1 := Va.after hb V1; replace h3 := Sl.after hb h3; replace h4 := Sl.after hb h4; replace B0 := step B0 hb; clear hb; clear c_V0 f0_V0 d_V0 f1_V0 e_V0 f2_V0 l_V0 m_V0; have c_V1 := V1.d0; have f0_V1 := V1.frozen 0; have d_V1 := V1.d1; have f1_V1 := V1.frozen 1; have e_V1 := V1.d2; have f2_V1 := V1.frozen 2
          have l_V1 := V1.lt; have m_V1 := Nat.le_of_lt l_V1; (go_wp2_with fail); refine bodyPost_ret (results_ra rfl rfl (V1.set3 _ _ _)) rfl ?_; exact ⟨s5, a5, l5, c5, z5, b5, m5, d5, y5, _, rfl, h5.far V1 (noInt3 _ _ _ _ _ _ _) (fa3 _ _ _ _ _), div_short (by show ((iv s z1).natAbs : Int) < _; have h7 := lt_of_used h3.2.1 (show usedN z1 ≤ 1024 by rw [HQ.out.u1]; exact HQ.out.m1); have h8 := num_nonneg h3.2.1; cases s <;> simp only [iv_t, iv_f] <;> omega) (lt_of_used h4.2.1 (by rw [HQ.out.u2]; exact HQ.out.m2)) (by have h9 := num_nonneg h4.2.1; have h8 := HD.out; omega), (by intro hcond; have h5 := nn1.out hcond.a; have h6 := nn2.out hcond.b; rw [show dn ys = num ys from if_neg (by rw [← h6.1]; exact HD.out), ← h6.1, iv_num h5.1]), belo3 B0 (by omega) _ _ _⟩
    ·
      (have t0 : decide ((60 : Int) < (l1 : Int)) = false := by simp; omega); (have t1 : decide ((60 : Int) < (l2 : Int)) = false := by simp; omega); have h3 := g1.1; have h4 := g2.1; have HQ : Hid (PlQ l1 c1 l2 c2 z1 z2) := g1.plq g2 (by omega); clear g1 g2
      by_cases q : l2 = 0
      ·
        subst q; have c_V0 := V0.d0; have f0_V0 := V0.frozen 0; have d_V0 := V0.d1; have f1_V0 := V0.frozen 1; have e_V0 := V0.d2; have f2_V0 := V0.frozen 2; have l_V0 := V0.lt; have m_V0 := Nat.le_of_lt l_V0; (go_wp2_with fail); refine ent1 x4 _ _ (Q := fun W => Calls Tryz.prog _ _ W _) ?_; intro x5 hb hs_x5 Vd; replace V0 := Va.after hb V0; replace V1 := Va.after hb V1; replace h3 := Sl.after hb h3; replace h4 := Sl.after hb h4; replace B0 := step B0 hb; clear hb hs_x5; have hd1 : Sl x5 (some ⟨x4.heap.size, 0, none⟩) 1 [1] := sl_one7 Vd; refine (rmake5 s a1 (some ⟨x4.heap.size, 0, none⟩) l1 c1 1 1 z1 [1] x5 h3 hd1 HQ.out.k1 (by omega) (by have := HQ.out.m1; omega) (by omega) (by rw [HQ.out.u1]; have := HQ.out.m1; omega) (by decide) (by decide)).mono ?_; rintro e x6 ⟨s5, a5, l5, c5, z5, b5, m5, d5, y5, rfl, h5, -, -, hb⟩; replace V0 := Va.after hb V0; replace V1 := Va.after hb V1; replace Vd := Va.after hb Vd; replace h3 := Sl.after hb h3; replace h4 := Sl.after hb h4
        replace hd1 := Sl.after hb hd1; replace B0 := step B0 hb; clear hb; clear c_V0 f0_V0 d_V0 f1_V0 e_V0 f2_V0 l_V0 m_V0; have c_V1 := V1.d0; have f0_V1 := V1.frozen 0; have d_V1 := V1.d1; have f1_V1 := V1.frozen 1; have e_V1 := V1.d2; have f2_V1 := V1.frozen 2; have l_V1 := V1.lt; have m_V1 := Nat.le_of_lt l_V1; (go_wp2_with fail); refine bodyPost_ret (results_ra rfl rfl (V1.set3 _ _ _)) rfl ?_; exact ⟨s5, a5, l5, c5, z5, b5, m5, d5, y5, _, rfl, h5.far V1 (noInt3 _ _ _ _ _ _ _) (fa3 _ _ _ _ _), div_short (by show ((iv s z1).natAbs : Int) < _; have h7 := lt_of_used h3.2.1 (show usedN z1 ≤ 1024 by rw [HQ.out.u1]; exact HQ.out.m1); have h8 := num_nonneg h3.2.1; cases s <;> simp only [iv_t, iv_f] <;> omega) (one_lt_pw (by omega)) (by decide), (by intro hcond; have h5 := nn1.out hcond.a; have h6 := nn2.out hcond.b; rw [show dn ys = 1 from if_pos (by rw [← h6.1]; exact (num_eq_zero h4.2.1).2 HQ.out.u2), iv_num h5.1]; rfl), belo3 B0 (by omega) _ _ _⟩
      ·
        (have HD : Hid (num z2 ≠ 0) := fun e => q (by rw [← HQ.out.u2]; exact (num_eq_zero h4.2.1).1 e)); have c_V0 := V0.d0; have f0_V0 := V0.frozen 0; have d_V0 := V0.d1; have f1_V0 := V0.frozen 1; have e_V0 := V0.d2; have f2_V0 := V0.frozen 2; have l_V0 := V0.lt; have m_V0 := Nat.le_of_lt l_V0; (go_wp2_with fail); refine (rmake5 s a1 a2 l1 c1 l2 c2 z1 z2 x4 h3 h4 HQ.out.k1 HQ.out.k2 (by have := HQ.out.m1; omega) (by have := HQ.out.m2; omega) (by rw [HQ.out.u1]; have := HQ.out.m1; omega) (by rw [HQ.out.u2]; have := HQ.out.m2; omega) HD.out).mono ?_; rintro e x5 ⟨s5, a5, l5, c5, z5, b5, m5, d5, y5, rfl, h5, -, -, hb⟩; replace V0 := Va.after hb V0; replace V1 := Va.after hb V1; replace h3 := Sl.after hb h3; replace h4 := Sl.after hb h4; replace B0 := step B0 hb; clear hb; clear c_V0 f0_V0 d_V0 f1_V0 e_V0 f2_V0 l_V0 m_V0; have c_V1 := V1.d0; have f0_V1 := V1.frozen 0; have d_V1 := V1.d1; have f1_V1 := V1.frozen 1; have e_V1 := V1.d2; have f2_V1 := V1.frozen 2
        have l_V1 := V1.lt; have m_V1 := Nat.le_of_lt l_V1; (go_wp2_with fail); refine bodyPost_ret (results_ra rfl rfl (V1.set3 _ _ _)) rfl ?_; exact ⟨s5, a5, l5, c5, z5, b5, m5, d5, y5, _, rfl, h5.far V1 (noInt3 _ _ _ _ _ _ _) (fa3 _ _ _ _ _), div_short (by show ((iv s z1).natAbs : Int) < _; have h7 := lt_of_used h3.2.1 (show usedN z1 ≤ 1024 by rw [HQ.out.u1]; exact HQ.out.m1); have h8 := num_nonneg h3.2.1; cases s <;> simp only [iv_t, iv_f] <;> omega) (lt_of_used h4.2.1 (by rw [HQ.out.u2]; exact HQ.out.m2)) (by have h9 := num_nonneg h4.2.1; have h8 := HD.out; omega), (by intro hcond; have h5 := nn1.out hcond.a; have h6 := nn2.out hcond.b; rw [show dn ys = num ys from if_neg (by rw [← h6.1]; exact HD.out), ← h6.1, iv_num h5.1]), belo3 B0 (by omega) _ _ _⟩

set_option maxHeartbeats 4000000 in
theorem of7v (s : Bool) (a : Option Addr) (l c : Nat) (zs : List Int) (b : Option Addr) (m d : Nat) (ys : List Int) (w : World) (h1 : Sl w a l zs) (h2 : Sl w b m ys) (hc : l ≤ c) (hd : m ≤ d) :
  Calls Tryz.prog 5 #[.agg #[.bool s, .slice a l c, .slice b m d]] w fun e w' => ∃ s2 a2 l2 c2 z2 b2 m2 d2 y2 s1 a1 l1 c1 z1 b1 m1 d1 y1 v, e = .returned (.tuple #[.agg #[.bool s2, .slice a2 l2 c2, .slice b2 m2 d2], .agg #[.bool s1, .slice a1 l1 c1, .slice b1 m1 d1], .bool true]) ∧ Rt w' s2 a2 l2 c2 z2 b2 m2 d2 y2 v ∧ Rr w' s1 a1 l1 c1 z1 b1 m1 d1 y1 v ∧ Hid (PlC l m zs ys (v = Rat.divInt (iv s zs) (dn ys))) ∧ Below w.heap.size w w' := by
 have B0 : Below w.heap.size w w := Below.refl _ _
 go_enter Tryz.func5, Tryz.ntmps5
 (go_wp2_with fail); refine ent3 w _ _ _ _ _ _ (Q := fun W => Calls Tryz.prog _ _ W _) ?_; intro x1 hb hs_x1 V0 V1 V2; replace h1 := Sl.after hb h1; replace h2 := Sl.after hb h2; replace B0 := step B0 hb; clear hb hs_x1; refine (plain7v s a l c zs b m d ys x1 h1 h2 hc hd).mono ?_; rintro e x2 ⟨s1, a1, l1, c1, z1, b1, m1, d1, y1, v, rfl, hq, hS, HPC, hb⟩; replace V0 := Va.after hb V0; replace V1 := Va.after hb V1; replace V2 := Va.after hb V2; replace h1 := Sl.after hb h1; replace h2 := Sl.after hb h2; replace B0 := step B0 hb; clear hb; have HL : Hid (l1 ≤ 1024 ∧ m1 ≤ 1024) := hq.len7 hS.out; have HN : Hid (Norm s1 z1 y1) := hq.norm7; have lp1 := V1.lt; have lp2 := V2.lt; (go_wp2_with fail); clear h1 h2; refine ent1 x2 _ _ (Q := fun W => Calls Tryz.prog _ _ W _) ?_; intro x3 hb hs_x3 Vp; replace V0 := Va.after hb V0; replace V1 := Va.after hb V1; replace V2 := Va.after hb V2; replace hq := Rr.after hb hq; replace B0 := step B0 hb; clear hb hs_x3
 refine (copyr7 s1 a1 l1 c1 z1 b1 m1 d1 y1 v x3 hq (by have := HL.out.1; omega) (by have := HL.out.2; omega)).mono ?_; rintro e x4 ⟨a3, c3, b3, d3, rfl, hk, hb⟩; replace V0 := Va.after hb V0; replace V1 := Va.after hb V1; replace V2 := Va.after hb V2; replace Vp := Va.after hb Vp; replace hq := Rr.after hb hq; replace B0 := step B0 hb; clear hb; (go_wp2_with fail); refine (qof_ok s1 a3 l1 c3 z1 b3 m1 d3 y1 v x4 ⟨hk.1, hk.2.1, hk.2.2.2.2.1.1, hk.2.2.2.2.1.2⟩ HL.out.1 HL.out.2 HN.out hk.2.2.2.2.2.1 hk.2.2.2.2.2.2.1).mono ?_; rintro e x5 ⟨s2, a2, l2, c2, z2, b2, m2, d2, y2, rfl, hr, -, hb⟩; replace V0 := Va.after hb V0; replace V1 := Va.after hb V1; replace V2 := Va.after hb V2; replace Vp := Va.after hb Vp; replace hq := Rr.after hb hq; replace hk := Rr.after hb hk; replace B0 := step B0 hb; clear hb; have lp3 := V1.lt; have lp4 := V2.lt; have lp5 := Vp.lt; (go_wp2_with fail); clear hk; refine ent1 x5 _ _ (Q := fun W => Code.wp Tryz.prog _ _ _ W) ?_
 intro x6 hb hs_x6 Vr; replace V0 := Va.after hb V0; replace V1 := Va.after hb V1; replace V2 := Va.after hb V2; replace Vp := Va.after hb Vp; replace hq := Rr.after hb hq; replace hr := Rt.after hb hr; replace B0 := step B0 hb; clear hb hs_x6; refine wp_region_noPanic ?_; replace V0 : Va x6.drew _ _ _ := V0; replace V1 : Va x6.drew _ _ _ := V1; replace V2 : Va x6.drew _ _ _ := V2; replace Vp : Va x6.drew _ _ _ := Vp; replace Vr : Va x6.drew _ _ _ := Vr; replace hq := hq.drw; replace hr := hr.drw; replace B0 := Below.drew B0; refine wp_region_held_drew (S := (fun W => W.cell? ⟨x5.heap.size, 0, none⟩ = some (.bool s2) ∧ W.cell? ⟨x5.heap.size, 1, none⟩ = some (.slice a2 l2 c2) ∧ W.cell? ⟨x5.heap.size, 2, none⟩ = some (.slice b2 m2 d2) ∧ W.cell? ⟨x2.heap.size, 0, none⟩ = some (.bool s1) ∧ W.cell? ⟨x2.heap.size, 1, none⟩ = some (.slice a1 l1 c1) ∧ W.cell? ⟨x2.heap.size, 2, none⟩ = some (.slice b1 m1 d1))) (by kernel_rfl) ⟨Vr.d0, Vr.d1, Vr.d2, Vp.d0, Vp.d1, Vp.d2⟩ (fun hHeld => ?_)
 (obtain ⟨x7, hxd⟩ : ∃ xd, xd = x6.drew := ⟨_, rfl⟩); rw [← hxd] at V0 V1 V2 Vp Vr hq hr B0 hHeld ⊢; clear hxd; refine tk 0 rfl hHeld ?_; simp only [gA, gB, Act.put, gD, gE, gF]; refine tk 1 rfl hHeld ?_; simp only [gA, gB, gC, Act.put, gD, gE, gF]; refine tk 2 rfl hHeld ?_; simp only [gA, gB, gC, Act.put, gD, gE, gF]; refine tk 3 rfl hHeld ?_; simp only [gA, gB, gC, Act.put, gD, gE, gF]; have c_V1 := V1.d0; have f0_V1 := V1.frozen 0; have d_V1 := V1.d1; have f1_V1 := V1.frozen 1; have e_V1 := V1.d2; have f2_V1 := V1.frozen 2; have l_V1 := V1.lt; have m_V1 := Nat.le_of_lt l_V1; refine wpAnyH_ready (rs := [4]) (by kernel_rfl) (by simp) ?_; refine AllReadyH.cons rfl (fun K hK => ?_) AllReadyH.nil; simp only [gA, gB, gC]; (go_simp); clear c_V1 f0_V1 d_V1 f1_V1 e_V1 f2_V1 l_V1 m_V1; refine sto3 V1 (.bool s2) (.slice a2 l2 c2) (.slice b2 m2 d2) (Q := fun W => K _ W) ?_; intro x8 V' oth far; replace V0 := oth _ _ _ (by first | omega | assumption | (simp; omega)) V0
 replace V2 := oth _ _ _ (by first | omega | assumption | (simp; omega)) V2; replace Vp := oth _ _ _ (by first | omega | assumption | (simp; omega)) Vp; replace Vr := oth _ _ _ (by first | omega | assumption | (simp; omega)) Vr; replace hq := hq.far V1 (noInt3 _ _ _ _ _ _ _) far.1; replace hr := hr.far V1 (noInt3 _ _ _ _ _ _ _) far.1; replace B0 := far.2 _ _ (by first | omega | (simp; omega)) B0; replace V1 := V'; clear oth far; refine hK.out _ _ ⟨Vr.d0, Vr.d1, Vr.d2, Vp.d0, Vp.d1, Vp.d2⟩ (fun hHeld => ?_); clear hK K; have c_V2 := V2.d0; have f0_V2 := V2.frozen 0; have d_V2 := V2.d1; have f1_V2 := V2.frozen 1; have e_V2 := V2.d2; have f2_V2 := V2.frozen 2; have l_V2 := V2.lt; have m_V2 := Nat.le_of_lt l_V2; refine wpAnyH_ready (rs := [5]) (by kernel_rfl) (by simp) ?_; refine AllReadyH.cons rfl (fun K hK => ?_) AllReadyH.nil; simp only [gA, gB, gC]; (go_simp); clear c_V2 f0_V2 d_V2 f1_V2 e_V2 f2_V2 l_V2 m_V2; refine sto3 V2 (.bool s1) (.slice a1 l1 c1) (.slice b1 m1 d1) (Q := fun W => K _ W) ?_
 intro x9 V' oth far; replace V0 := oth _ _ _ (by first | omega | assumption | (simp; omega)) V0; replace V1 := oth _ _ _ (by first | omega | assumption | (simp; omega)) V1; replace Vp := oth _ _ _ (by first | omega | assumption | (simp; omega)) Vp; replace Vr := oth _ _ _ (by first | omega | assumption | (simp; omega)) Vr; replace hq := hq.far V2 (noInt3 _ _ _ _ _ _ _) far.1; replace hr := hr.far V2 (noInt3 _ _ _ _ _ _ _) far.1; replace B0 := far.2 _ _ (by first | omega | (simp; omega)) B0; replace V2 := V'; clear oth far; refine hK.out _ _ ⟨Vr.d0, Vr.d1, Vr.d2, Vp.d0, Vp.d1, Vp.d2⟩ (fun hHeld => ?_); clear hK K; refine tk 6 rfl hHeld ?_; simp only [gA, gB, gC, Act.put, gD, gE, gF]; refine wpAnyH_done (by kernel_rfl) ?_ _; refine NoPanic.normal ?_; clear hHeld; (go_wp2_with fail); refine bodyPost_ret (results_rat rfl rfl V1 rfl V2) rfl ?_; exact ⟨s2, a2, l2, c2, z2, b2, m2, d2, y2, s1, a1, l1, c1, z1, b1, m1, d1, y1, v, rfl, hr, hq, HPC, B0⟩

theorem of7 (s : Bool) (a : Option Addr) (l c : Nat) (zs : List Int) (b : Option Addr) (m d : Nat) (ys : List Int) (w : World) (h1 : Sl w a l zs) (h2 : Sl w b m ys) (hc : l ≤ c) (hd : m ≤ d) :
    Calls Tryz.prog 5 #[.agg #[.bool s, .slice a l c, .slice b m d]] w fun e w' => ∃ s2 a2 l2 c2 z2 b2 m2 d2 y2 s1 a1 l1 c1 z1 b1 m1 d1 y1 v, e = .returned (.tuple #[.agg #[.bool s2, .slice a2 l2 c2, .slice b2 m2 d2], .agg #[.bool s1, .slice a1 l1 c1, .slice b1 m1 d1], .bool true]) ∧ Rt w' s2 a2 l2 c2 z2 b2 m2 d2 y2 v ∧ Rr w' s1 a1 l1 c1 z1 b1 m1 d1 y1 v ∧ Below w.heap.size w w' := by
  refine (of7v s a l c zs b m d ys w h1 h2 hc hd).mono ?_
  rintro e w' ⟨s2, a2, l2, c2, z2, b2, m2, d2, y2, s1, a1, l1, c1, z1, b1, m1, d1, y1, v, e1, e2, e3, -, e4⟩
  exact ⟨s2, a2, l2, c2, z2, b2, m2, d2, y2, s1, a1, l1, c1, z1, b1, m1, d1, y1, v, e1, e2, e3, e4⟩

end Go.Proofs.YtegfklapgbggfaaGreat
namespace Go.Proofs.YtegfklapgbggfaaGreat
open Go.RowKit Go.Shelf
set_option linter.unusedVariables false

def HvInv (d x : Int) (j : Nat) : Prop := x = d / 2 ^ j ∧ (0 < j → 2 ^ (j - 1) ≤ d)
theorem hv_step {d x : Int} {j : Nat} (hd : 0 ≤ d) (I : HvInv d x j) (hx : 0 < x) : HvInv d (x / 2) (j + 1) := by
  obtain ⟨i1, i2⟩ := I
  refine ⟨by rw [i1, Int.pow_succ, Int.ediv_ediv_of_nonneg (Int.le_of_lt (p2_pos _))], fun _ => ?_⟩
  rw [Nat.add_sub_cancel]
  rcases Int.lt_or_le d (2 ^ j) with h | h
  · rw [i1, Int.ediv_eq_zero_of_lt hd h] at hx; omega
  · exact h
theorem hv_end {d x : Int} {j : Nat} (hd : 0 < d) (I : HvInv d x j) (hx : x = 0) : 0 < j ∧ 2 ^ (j - 1) ≤ d ∧ d < 2 ^ j := by
  obtain ⟨i1, i2⟩ := I
  have h1 : d < 2 ^ j := by
    rcases Int.lt_or_le d (2 ^ j) with h | h
    · exact h
    · have := Int.le_ediv_of_mul_le (p2_pos j) (show 1 * 2 ^ j ≤ d by omega)
      omega
  have h0 : 0 < j := by
    rcases Nat.eq_zero_or_pos j with h | h
    · rw [h] at h1; simp at h1; omega
    · exact h
  exact ⟨h0, i2 h0, h1⟩

theorem top_bits {zs : List Int} (h : Limbs zs) {m j : Nat} (hl : zs.length = m + 1) (hu : usedN zs = m + 1) (h0 : 0 < j) (h1 : 2 ^ (j - 1) ≤ zs.getD m 0) (h2 : zs.getD m 0 < 2 ^ j) : bitsN zs = 64 * (m : Int) + j := by
  have e := num_take_succ zs m
  rw [List.take_of_length_le (by omega)] at e
  have t0 := num_nonneg (h.take m)
  have t1 := num_lt (h.take m)
  rw [List.length_take, Nat.min_eq_left (by omega)] at t1
  have hp := pw_pos m
  have b0 : (2 : Int) ^ (64 * m + (j - 1)) ≤ num zs := by
    rw [Int.pow_add, ← pw_eq, Int.mul_comm]
    have : 2 ^ (j - 1) * pw m ≤ zs.getD m 0 * pw m := Int.mul_le_mul_of_nonneg_right h1 (Int.le_of_lt hp)
    omega
  have b1 : num zs < 2 ^ (64 * m + (j - 1) + 1) := by
    rw [show 64 * m + (j - 1) + 1 = 64 * m + j by omega, Int.pow_add, ← pw_eq, Int.mul_comm]
    have : (zs.getD m 0 + 1) * pw m ≤ 2 ^ j * pw m := Int.mul_le_mul_of_nonneg_right (by omega) (Int.le_of_lt hp)
    rw [Int.add_mul, Int.one_mul] at this
    omega
  rw [bits_of h b0 b1]
  omega
theorem bits_same {a b : List Int} (ha : Limbs a) (hb : Limbs b) (e : num a = num b) : bitsN a = bitsN b := by
  rcases Nat.eq_zero_or_pos (usedN a) with h | h
  · rw [bits_nought h, bits_nought ((num_eq_zero hb).1 (by rw [← e]; exact (num_eq_zero ha).2 h))]
  · obtain ⟨k, e1, k1, k2⟩ := bits_spec ha h
    rw [e1, bits_of hb (k := k) (by rw [← e]; exact k1) (by rw [← e]; exact k2)]

set_option maxHeartbeats 1000000 in
theorem rbits_any (a : Option Addr) (la ca : Nat) (zs : List Int) (w : World) (h : Sl w a la zs) (hn : a = none → la = 0 ∧ ca = 0) (hl : la ≤ 17592186044416) (hc : la ≤ ca) :
    Calls Tryz.prog 73 #[.slice a la ca] w fun e w' => e = .returned (.int .i64 (bitsN zs)) ∧ Below w.heap.size w w' := by
  have hLz := h.2.1
  have hle := usedN_le zs
  have hz := h.1
  go_enter Tryz.func73, Tryz.ntmps73
  go_wp2_with fail
  refine (rtrim_any a la ca zs w h hn hl hc).mono ?_
  rintro e w1 ⟨a1, c1, rfl, s1, hc1, b1⟩
  obtain ⟨D, hD⟩ : ∃ D, zs.take (usedN zs) = D := ⟨_, rfl⟩
  have HBB : Hid (bitsN zs = bitsN D) := by rw [← hD]; exact bits_same hLz (hLz.take _) (num_take_used zs (Nat.le_refl _)).symm
  have HUD : Hid (usedN D = usedN zs) := by rw [← hD]; exact usedN_take zs (Nat.le_refl _)
  rw [hD] at s1
  obtain ⟨m1, hm1⟩ : ∃ m, usedN zs = m := ⟨_, rfl⟩
  rw [hm1] at s1 HUD hc1 hle
  rw [hm1]
  clear hD h
  by_cases h0 : m1 = 0
  · have e0 : Hid (bitsN zs = 0) := bits_nought (by rw [hm1]; exact h0)
    subst h0
    clear hm1
    go_wp2_with fail
    go_ret
    exact ⟨ret_int e0.out.symm, b1⟩
  · obtain ⟨m, rfl⟩ : ∃ m, m1 = m + 1 := ⟨m1 - 1, by omega⟩
    clear hm1
    obtain ⟨b, o, rfl, hc⟩ := s1.2.2 (by omega)
    have hcx := hc m (by omega)
    have hd0 := s1.2.1.getD m
    have hne := usedN_top D (by rw [HUD.out]; omega)
    rw [HUD.out, Nat.add_sub_cancel] at hne
    have g1 : ((m : Int) + 1 == 0) = false := by simp; omega
    have BD : Hid (∀ j : Nat, 0 < j → 2 ^ (j - 1) ≤ D.getD m 0 → D.getD m 0 < 2 ^ j → bitsN zs = 64 * (m : Int) + j) :=
      fun j j0 j1 j2 => by rw [HBB.out]; exact top_bits s1.2.1 s1.1 HUD.out j0 j1 j2
    obtain ⟨d, hd⟩ : ∃ d, D.getD m 0 = d := ⟨_, rfl⟩
    rw [hd] at hcx hd0 hne BD
    clear hd hc s1
    have hdp : 0 < d := by omega
    have hml : m ≤ 17592186044416 := by omega
    go_wp2_with fail
    go_loop [4, 5] (fun nn xx => ∃ (j : Nat) (x : Int), nn = .int .i64 (64 * (m : Int) + j) ∧ xx = .int .u64 x ∧ 0 ≤ x ∧ x < 18446744073709551616 ∧ j ≤ 70 ∧ Hid (HvInv d x j)) (fun _ xx => (intOf xx).toNat)
    case atStart => exact ⟨0, d, by simp, rfl, by omega, by omega, by omega, ⟨by simp, fun h => absurd h (by omega)⟩⟩
    case round =>
      obtain ⟨j, x, rfl, rfl, x1, x2, hj, hI⟩ := hrel
      by_cases hx : 0 < x
      · have hs : Hid (HvInv d (x / 2) (j + 1)) := hv_step (by omega) hI.out hx
        have hj2 : j + 1 ≤ 70 := by
          have := hs.out.2 (by omega)
          rcases Nat.lt_or_ge j 65 with h | h
          · omega
          · have h3 := p2_mono (show 65 ≤ j + 1 - 1 by omega)
            have h4 : (2 : Int) ^ 65 = 36893488147419103232 := by decide
            omega
        go_wp2_with fail
        go_round
        case rel => exact ⟨j + 1, x / 2, by rw [show 64 * (m : Int) + ((j + 1 : Nat) : Int) = 64 * (m : Int) + j + 1 by omega], rfl, by omega, by omega, hj2, hs⟩
        case measure => simp [intOf]; omega
      · obtain ⟨j0, j1, j2⟩ := hv_end hdp hI.out (by omega)
        have HE : Hid (bitsN zs = 64 * (m : Int) + j) := BD.out j j0 j1 j2
        clear j0 j1 j2
        go_wp2_with fail
        go_ret
        exact ⟨ret_int HE.out.symm, b1⟩

theorem num_one_at (p : Nat) (v : Int) : num ((List.replicate (p + 1) (0 : Int)).set p v) = v * pw p := by
  rw [num_set v (by simp), num_zeros]
  have : (List.replicate (p + 1) (0 : Int)).getD p 0 = 0 := by rw [List.getD_eq_getElem?_getD, List.getElem?_replicate]; split <;> rfl
  rw [this, Int.sub_zero, Int.zero_add]
theorem p2_word {i : Nat} (h : i ≤ 63) : (0 : Int) < 2 ^ i ∧ (2 : Int) ^ i ≤ 9223372036854775808 := by
  have := p2_mono h
  have h4 : (2 : Int) ^ 63 = 9223372036854775808 := by decide
  exact ⟨p2_pos i, by omega⟩

end Go.Proofs.YtegfklapgbggfaaGreat
namespace Go.Proofs.YtegfklapgbggfaaGreat

theorem sq_mono {x y : Int} (h0 : 0 ≤ x) (h : x ≤ y) : x * x ≤ y * y := Int.mul_le_mul h h h0 (by omega)
theorem sq_lt {x y : Int} (h0 : 0 ≤ y) (h : x * x < y * y) : x < y := by
  rcases Int.lt_or_le x y with h' | h'
  · exact h'
  · have := sq_mono h0 h'; omega
theorem sq_le {x y : Int} (h0 : 0 ≤ y) (h : x * x < (y + 1) * (y + 1)) : x ≤ y := by
  have := sq_lt (by omega) h; omega
/-- A step from above stays above. -/
theorem newton_above {a r : Int} (hr : 0 < r) (ha : 0 ≤ a) : a < ((r + a / r) / 2 + 1) * ((r + a / r) / 2 + 1) := by
  have hm := Int.mul_ediv_add_emod a r
  have h1 := Int.emod_lt_of_pos a hr
  have hq : 0 ≤ a / r := Int.ediv_nonneg ha (by omega)
  generalize a / r = q at *
  generalize a % r = s at *
  have h2 : r + q + 1 ≤ 2 * ((r + q) / 2 + 1) := by omega
  generalize (r + q) / 2 + 1 = m at *
  have h3 := sq_mono (by omega) h2
  have h4 : 0 ≤ (r - (q + 1)) * (r - (q + 1)) := by
    rcases Int.lt_or_le (r - (q + 1)) 0 with h | h
    · have := Int.mul_pos_of_neg_of_neg h h; omega
    · exact Int.mul_nonneg h h
  have h5 : (r + q + 1) * (r + q + 1) = (r - (q + 1)) * (r - (q + 1)) + 4 * (r * q + r) := by grind
  have h6 : 2 * m * (2 * m) = 4 * (m * m) := by grind
  omega
/-- A step that does not fall is made from the root. -/
theorem newton_end {a r : Int} (hr : 0 < r) (h : r ≤ (r + a / r) / 2) : r * r ≤ a := by
  have hm := Int.mul_ediv_add_emod a r
  have h1 := Int.emod_nonneg a (show r ≠ 0 by omega)
  have hq : r ≤ a / r := by omega
  have := Int.mul_le_mul_of_nonneg_left hq (show 0 ≤ r by omega)
  omega
/-- One root a number. -/
theorem root_one {a r s : Int} (hr : 0 ≤ r) (hs : 0 ≤ s) (h1 : r * r ≤ a) (h2 : a < (r + 1) * (r + 1)) (h3 : s * s ≤ a) (h4 : a < (s + 1) * (s + 1)) : r = s := by
  have := sq_le hs (show r * r < (s + 1) * (s + 1) by omega)
  have := sq_le hr (show s * s < (r + 1) * (r + 1) by omega)
  omega
/-- Where the steps begin. -/
theorem root_start {a t p : Int} (hp : 0 < p) (h1 : a / (p * p) < (t + 1) * (t + 1)) : a < ((t + 1) * p + 1) * ((t + 1) * p + 1) ∨ t < 0 := by
  rcases Int.lt_or_le t 0 with h | h
  · exact .inr h
  left
  have hpp : 0 < p * p := Int.mul_pos hp hp
  have hm := Int.mul_ediv_add_emod a (p * p)
  have h2 := Int.emod_lt_of_pos a hpp
  generalize a / (p * p) = q at *
  have h3 : (q + 1) * (p * p) ≤ (t + 1) * (t + 1) * (p * p) := Int.mul_le_mul_of_nonneg_right (by omega) (by omega)
  have h4 : (t + 1) * (t + 1) * (p * p) = ((t + 1) * p) * ((t + 1) * p) := by grind
  have h5 : (q + 1) * (p * p) = p * p * q + p * p := by grind
  have h6 : 0 ≤ (t + 1) * p := Int.mul_nonneg (by omega) (by omega)
  have h7 := sq_mono h6 (show (t + 1) * p ≤ (t + 1) * p + 1 by omega)
  omega
end Go.Proofs.YtegfklapgbggfaaGreat
namespace Go.Proofs.YtegfklapgbggfaaGreat
open Go.RowKit Go.Shelf

/-- The root of a number. -/
def IsRoot (x r : Int) : Prop := 0 ≤ r ∧ r * r ≤ x ∧ x < (r + 1) * (r + 1)
/-- Not above half of what may be. -/
structure Low (x : Int) : Prop where
  lt : 2 * x < pw 4096
theorem le_sq {t x : Int} (h0 : 0 ≤ t) (h : t * t ≤ x) : t ≤ x := by
  rcases Int.lt_or_le t 1 with h1 | h1
  · have : t = 0 := by omega
    subst this; omega
  · have : t * 1 ≤ t * t := Int.mul_le_mul_of_nonneg_left h1 h0
    omega
theorem bits_low {zs : List Int} (h : Limbs zs) {n : Nat} (hlt : num zs < 2 ^ n) : bitsN zs ≤ n := by
  rcases Nat.eq_zero_or_pos (usedN zs) with h0 | h0
  · rw [bits_nought h0]; omega
  · obtain ⟨k, e, k1, k2⟩ := bits_spec h h0
    rcases Nat.lt_or_ge k n with h' | h'
    · omega
    · have := p2_mono h'; omega
/-- The numbers on the way to the beginning. -/
theorem above_nums {x t : Int} {B h : Nat} (hB : B ≤ 262144) (h3 : 3 ≤ B) (hh : h = (B + 1) / 4) (hx : x < 2 ^ B) (ht : IsRoot (x / 2 ^ (2 * h)) t) :
    t + 1 ≤ 2 ^ (B - 2 * h) ∧ Low ((t + 1) * 2 ^ h) ∧ x < ((t + 1) * 2 ^ h + 1) * ((t + 1) * 2 ^ h + 1) ∧ 0 < (t + 1) * 2 ^ h ∧ Fit (t + 1) := by
  obtain ⟨t0, t1, t2⟩ := ht
  have e1 : x / 2 ^ (2 * h) < 2 ^ (B - 2 * h) := by
    apply Int.ediv_lt_of_lt_mul (p2_pos _)
    rw [← Int.pow_add, show B - 2 * h + 2 * h = B by omega]; exact hx
  have e2 := le_sq t0 t1
  have e3 : t + 1 ≤ 2 ^ (B - 2 * h) := by omega
  have e4 : (t + 1) * 2 ^ h ≤ 2 ^ (B - 2 * h) * 2 ^ h := Int.mul_le_mul_of_nonneg_right e3 (Int.le_of_lt (p2_pos h))
  rw [← Int.pow_add, show B - 2 * h + h = B - h by omega] at e4
  have e5 : (2 : Int) * 2 ^ (B - h) = 2 ^ (B - h + 1) := by rw [Int.pow_succ]; omega
  have e6 := p2_mono (show B - h + 1 ≤ 262143 by omega)
  have e7 : (2 : Int) ^ 262143 < 2 ^ (262143 + 1) := by
    rw [Int.pow_succ]; have := p2_pos 262143; omega
  have e8 := p2_pos h
  have e9 : 0 < (t + 1) * 2 ^ h := Int.mul_pos (by omega) e8
  have e10 := p2_mono (show B - 2 * h ≤ 262143 by omega)
  refine ⟨e3, ⟨?_⟩, ?_, e9, ⟨?_⟩⟩
  · rw [pw_4096]; omega
  · rcases root_start (a := x) (t := t) (p := 2 ^ h) e8 (by rw [← Int.pow_add, ← Nat.two_mul]; exact t2) with h' | h'
    · exact h'
    · omega
  · rw [pw_4096]; omega
end Go.Proofs.YtegfklapgbggfaaGreat
namespace Go.Proofs.YtegfklapgbggfaaGreat
open Go.RowKit Go.Shelf
set_option linter.unusedVariables false

theorem rzero_b (a : Option Addr) (len cap : Nat) (zs : List Int) (w : World) (h : Sl w a len zs) (hn : a = none → len = 0 ∧ cap = 0) (hl : len ≤ 17592186044416) (hcap : len ≤ cap) :
    Calls Tryz.prog 72 #[.slice a len cap] w fun e w' => e = .returned (.bool (decide (num zs = 0))) ∧ Below w.heap.size w w' := by
  have HE : Hid (((usedN zs : Int) == 0) = decide (num zs = 0)) := by
    have h5 := num_eq_zero h.2.1
    show _ = _
    rw [Bool.eq_iff_iff]; simp; omega
  go_enter Tryz.func72, Tryz.ntmps72
  go_wp2_with fail
  refine (rtrim_any a len cap zs w h hn hl hcap).mono ?_
  rintro e w2 ⟨a2, c2, rfl, s2, hc2, b2⟩
  go_wp2_with fail
  go_ret
  exact ⟨by rw [← HE.out]; rfl, b2⟩
/-- A list that is not empty lies somewhere. -/
theorem Sl.there {w : World} {a : Option Addr} {l c : Nat} {zs : List Int} (h : Sl w a l zs) (hu : usedN zs = l) (h0 : num zs ≠ 0) : a = none → l = 0 ∧ c = 0 := by
  intro e
  have hl : 0 < l := by
    rcases Nat.eq_zero_or_pos l with h' | h'
    · exact absurd ((num_eq_zero h.2.1).2 (by omega)) h0
    · exact h'
  obtain ⟨b, off, e2, -⟩ := h.2.2 hl
  rw [e] at e2; cases e2
theorem quot_is {x q r m : Int} (h : x = q * r + m) (h0 : 0 ≤ m) (h1 : m < r) : q = x / r := by
  rw [h, Int.add_comm, Int.add_mul_ediv_right _ _ (by omega), Int.ediv_eq_zero_of_lt h0 h1, Int.zero_add]

end Go.Proofs.YtegfklapgbggfaaGreat
namespace Go.Proofs.YtegfklapgbggfaaGreat
open Go.RowKit Go.Shelf

theorem fits3 {x : Int} (h : x < 6277101735386680763835789423207666416102355444464034512896) : x < pw 4096 := by
  have h1 : pw 3 = 6277101735386680763835789423207666416102355444464034512896 := by decide
  have h2 := pw_mono (show 3 ≤ 4096 by decide)
  omega
theorem sl_lit (w : World) (cs : List Int) (hL : Limbs cs) : Sl (w.alloc (.cells (row cs).toArray 74)) (some ⟨w.heap.size, 0, none⟩) cs.length cs := Own.sl (heap_alloc_new w _) hL
theorem limbs_lit (cs : List Int) (h : cs.all (fun z => decide (0 ≤ z ∧ z < 18446744073709551616)) = true) : Limbs cs := fun z hz => of_decide_eq_true (List.all_eq_true.1 h z hz)
/-- A number whose limbs are told. -/
theorem Nt.lit {w : World} {a : Option Addr} {l c : Nat} {zs cs : List Int} (h : Nt w a l c zs) (hL : Limbs cs) (e : num zs = num cs) {m : Nat} (hm : usedN cs = m) (hml : cs.length = m) : l = m ∧ zs = cs := by
  obtain ⟨e1, e2⟩ := one_list h.limbs hL h.1.1 h.2.1 e
  rw [hm] at e1 e2
  rw [List.take_of_length_le (by omega)] at e2
  exact ⟨e1, e2⟩

end Go.Proofs.YtegfklapgbggfaaGreat
namespace Go.Proofs.YtegfklapgbggfaaGreat
open Go.RowKit Go.Shelf

end Go.Proofs.YtegfklapgbggfaaGreat
namespace Go.Proofs.YtegfklapgbggfaaGreat
open Go.RowKit Go.Shelf

theorem fits_mul {x y : Int} {i j : Nat} (x0 : 0 ≤ x) (hx : x < pw i) (hy : y < pw j) : x * y < pw (i + j) := by
  rw [pw_add]
  have h1 : x * y ≤ x * pw j := Int.mul_le_mul_of_nonneg_left (by omega) x0
  have h2 : x * pw j < pw i * pw j := Int.mul_lt_mul_of_pos_right hx (pw_pos j)
  omega
theorem fits_add {x y : Int} {i : Nat} (hx : x < pw i) (hy : y < pw i) : x + y < pw (i + 1) := by
  have := pw_pos i
  show _ < 18446744073709551616 * pw i
  omega
theorem fits_to {x : Int} {i j : Nat} (hx : x < pw i) (h : i ≤ j) : x < pw j := Int.lt_of_lt_of_le hx (pw_mono h)
theorem fits_len {w : World} {a : Option Addr} {len n : Nat} {zs : List Int} (s : Sl w a len zs) (h : len ≤ n) : num zs < pw n := by
  have := num_lt s.2.1
  rw [s.1] at this
  exact fits_to this h
theorem rlong_no (a : Option Addr) (len cap : Nat) (zs : List Int) (w : World) (h : Sl w a len zs) (hl : len ≤ 40000000000000) (hu : usedN zs ≤ 4096) :
    Calls Tryz.prog 74 #[.slice a len cap] w fun e w' => e = .returned (.bool false) ∧ Below w.heap.size w w' := by
  have e1 : decide ((4096 : Int) < usedN zs) = false := by simp; omega
  refine (rlong_any a len cap zs w h hl).mono ?_
  rintro e w' ⟨rfl, rfl⟩
  rw [e1]
  exact ⟨rfl, Below.refl _ _⟩
theorem rlong_yes (a : Option Addr) (len cap : Nat) (zs : List Int) (w : World) (h : Sl w a len zs) (hl : len ≤ 40000000000000) (hu : 4096 < usedN zs) :
    Calls Tryz.prog 74 #[.slice a len cap] w fun e w' => e = .returned (.bool true) ∧ Below w.heap.size w w' := by
  have e1 : decide ((4096 : Int) < usedN zs) = true := by simp; omega
  refine (rlong_any a len cap zs w h hl).mono ?_
  rintro e w' ⟨rfl, rfl⟩
  rw [e1]
  exact ⟨rfl, Below.refl _ _⟩
end Go.Proofs.YtegfklapgbggfaaGreat
namespace Go.Proofs.YtegfklapgbggfaaGreat
open Go.RowKit Go.Shelf
set_option linter.unusedVariables false

theorem powr_le {x y : Int} (h0 : 0 ≤ x) (h : x ≤ y) : ∀ n : Nat, x ^ n ≤ y ^ n
  | 0 => by simp
  | n + 1 => by
    rw [Int.pow_succ, Int.pow_succ]
    exact Int.mul_le_mul (powr_le h0 h n) h h0 (Int.pow_nonneg (by omega))
theorem powr_ge {x : Int} (h : 1 ≤ x) : ∀ n : Nat, 1 ≤ x ^ n
  | 0 => by simp
  | n + 1 => by
    rw [Int.pow_succ]
    have h1 := powr_ge h n
    have : 1 * 1 ≤ x ^ n * x := Int.mul_le_mul h1 h (by omega) (by omega)
    omega
theorem powr_up {x : Int} (h : 1 ≤ x) {m n : Nat} (hmn : m ≤ n) : x ^ m ≤ x ^ n := by
  obtain ⟨d, rfl⟩ : ∃ d, n = m + d := ⟨n - m, by omega⟩
  rw [Int.pow_add]
  have h1 := powr_ge h m
  have h2 := powr_ge h d
  have : x ^ m * 1 ≤ x ^ m * x ^ d := Int.mul_le_mul_of_nonneg_left h2 (by omega)
  omega
theorem p2_pow (k : Nat) : ∀ n : Nat, ((2 : Int) ^ k) ^ n = 2 ^ (k * n)
  | 0 => by simp
  | n + 1 => by rw [Int.pow_succ, p2_pow k n, Nat.mul_succ, Int.pow_add]
theorem pow_half (x : Int) (m d : Nat) : x ^ (2 * m + d) = x ^ m * x ^ m * x ^ d := by
  rw [Int.pow_add, show 2 * m = m + m by omega, Int.pow_add]
def pb : Nat → Nat
  | 0 => 0
  | t + 1 => 2 ^ t
theorem pb_half (t : Nat) : pb (t + 1) / 2 = pb t := by
  cases t with
  | zero => rfl
  | succ s => simp only [pb]; rw [Nat.pow_succ]; omega
/-- The answer: the power, or that it is long. -/
def PRes (w w' : World) (e : Ending) (N : Int) : Prop :=
  ∃ a m c ds may, e = .returned (.tuple #[.slice a m c, .bool may]) ∧ Sl w' a m ds ∧ Hid ((may = true ∧ usedN ds = m ∧ num ds = N ∧ N < pw 4096) ∨ (may = false ∧ pw 4096 ≤ N)) ∧ Below w.heap.size w w'
theorem one_fits : (1 : Int) < pw 4096 := by
  have h2 : pw 1 ≤ pw 4096 := pw_mono (by decide)
  have h3 : pw 1 = 18446744073709551616 := by decide
  omega
theorem rpow_nought (a : Option Addr) (la ca : Nat) (zs : List Int) (w : World) (h : Sl w a la zs) :
    Calls Tryz.prog 38 #[.slice a la ca, .int .i64 0] w fun e w' => PRes w w' e (num zs ^ 0) := by
  go_enter Tryz.func38, Tryz.ntmps38
  go_wp2_with fail
  refine (rsmall_any 1 ⟨by decide, by decide⟩ w).mono ?_
  rintro e w1 ⟨a1, m1, c1, z1, rfl, k1, l1, s1, u1, n1, b1⟩
  go_wp2_with fail
  go_ret2
  exact ⟨a1, m1, c1, z1, true, rfl, s1, .inl ⟨rfl, u1, by rw [n1]; simp, by simpa using one_fits⟩, b1⟩
theorem rpow_one (a : Option Addr) (la ca : Nat) (zs : List Int) (n : Nat) (w : World) (h : Sl w a la zs) (hn : a = none → la = 0 ∧ ca = 0) (hl : la ≤ 1000000000) (hc : la ≤ ca) (h1 : num zs = 1) (hz : 0 < n) :
    Calls Tryz.prog 38 #[.slice a la ca, .int .i64 n] w fun e w' => PRes w w' e (num zs ^ n) := by
  have g1 : ((n : Int) == 0) = false := by simp; omega
  have HP : Hid (num zs ^ n = 1) := by show _ = _; rw [h1, Int.one_pow]
  have HS : Hid (Sl w a la zs) := h
  have H1 : Hid (num zs = 1) := h1
  clear h h1
  go_enter Tryz.func38, Tryz.ntmps38
  go_wp2_with fail
  refine (rsmall_any 1 ⟨by decide, by decide⟩ w).mono ?_
  rintro e w1 ⟨a1, m1, c1, z1, rfl, k1, l1, s1, u1, n1, b1⟩
  go_wp2_with fail
  refine (rcompare_any a a1 la ca m1 c1 zs z1 w1 (HS.out.below b1 (Nat.le_refl _)) s1 hn (Sl.there s1 u1 (by omega)) (by omega) (by omega) hc k1).mono ?_
  rintro e w2 ⟨rfl, b2⟩
  rw [cmp3_eq (show num zs = num z1 by rw [H1.out, n1])]
  clear s1 n1
  go_wp2_with fail
  refine (rsmall_any 1 ⟨by decide, by decide⟩ w2).mono ?_
  rintro e w3 ⟨a3, m3, c3, z3, rfl, k3, l3, s3, u3, n3, b3⟩
  go_wp2_with fail
  go_ret2
  exact ⟨a3, m3, c3, z3, true, rfl, s3, .inl ⟨rfl, u3, by rw [n3, HP.out], by rw [HP.out]; exact one_fits⟩, step (step b1 b2) b3⟩
/-- Up to the look at its size. -/
theorem cmp_ne {x y : Int} (h : x ≠ y) : (cmp3 x y == 0) = false := by
  rcases Int.lt_or_le x y with h' | h'
  · rw [cmp3_lt h']; decide
  · rw [cmp3_gt (show y < x by omega)]; decide
theorem rpow_zero (a : Option Addr) (la ca : Nat) (zs : List Int) (n : Nat) (w : World) (h : Sl w a la zs) (hn : a = none → la = 0 ∧ ca = 0) (hl : la ≤ 1000000000) (hc : la ≤ ca) (h1 : num zs = 0) (hz : 0 < n) :
    Calls Tryz.prog 38 #[.slice a la ca, .int .i64 n] w fun e w' => PRes w w' e (num zs ^ n) := by
  have g1 : ((n : Int) == 0) = false := by simp; omega
  have HP : Hid (num zs ^ n = 0) := by
    obtain ⟨m, rfl⟩ : ∃ m, n = m + 1 := ⟨n - 1, by omega⟩
    show _ = _; rw [h1, Int.pow_succ, Int.mul_zero]
  have HS : Hid (Sl w a la zs) := h
  have H1 : Hid (num zs = 0) := h1
  clear h h1
  go_enter Tryz.func38, Tryz.ntmps38
  go_wp2_with fail
  refine (rsmall_any 1 ⟨by decide, by decide⟩ w).mono ?_
  rintro e w1 ⟨a1, m1, c1, z1, rfl, k1, l1, s1, u1, n1, b1⟩
  go_wp2_with fail
  refine (rcompare_any a a1 la ca m1 c1 zs z1 w1 (HS.out.below b1 (Nat.le_refl _)) s1 hn (Sl.there s1 u1 (by omega)) (by omega) (by omega) hc k1).mono ?_
  rintro e w2 ⟨rfl, b2⟩
  have gc : (cmp3 (num zs) (num z1) == 0) = false := cmp_ne (by rw [H1.out, n1]; decide)
  generalize cmp3 (num zs) (num z1) = C at *
  clear s1 n1
  go_wp2_with fail
  refine (rzero_b a la ca zs w2 (HS.out.below (step b1 b2) (Nat.le_refl _)) hn (by omega) hc).mono ?_
  rintro e w3 ⟨rfl, b3⟩
  rw [H1.out]
  simp only [decide_true]
  go_wp2_with fail
  go_ret2
  exact ⟨none, 0, 0, [], true, rfl, ⟨rfl, Limbs.nil, fun h => absurd h (by decide)⟩, .inl ⟨rfl, rfl, by rw [HP.out]; rfl, by rw [HP.out]; exact pw_pos 4096⟩, step (step b1 b2) b3⟩
theorem rpow_big {A : Int} {k n : Nat} (hk : 2 ^ k ≤ A) (h : 262144 ≤ k * n) : pw 4096 ≤ A ^ n := by
  have h1 := powr_le (Int.le_of_lt (p2_pos k)) hk n
  rw [p2_pow] at h1
  rw [show pw 4096 = 2 ^ 262144 from pw_eq 4096]
  exact Int.le_trans (p2_mono h) h1
set_option maxHeartbeats 1000000 in
theorem rpow_long (a : Option Addr) (la ca : Nat) (zs : List Int) (n k : Nat) (w : World) (h : Sl w a la zs) (hn : a = none → la = 0 ∧ ca = 0) (hl : la ≤ 1000000000) (hc : la ≤ ca) (h2 : 2 ≤ num zs) (hz : 0 < n) (hk : k ≤ 262144) (ek : bitsN zs = (k : Int) + 1) (k1 : 2 ^ k ≤ num zs) (hlong : 262144 < n ∨ 262144 ≤ k * n) (hn63 : n ≤ 9223372036854775807) :
    Calls Tryz.prog 38 #[.slice a la ca, .int .i64 n] w fun e w' => PRes w w' e (num zs ^ n) := by
  have g1 : ((n : Int) == 0) = false := by simp; omega
  have HP : Hid (pw 4096 ≤ num zs ^ n) := by
    rcases hlong with h' | h'
    · exact rpow_big (k := 1) (by simpa using h2) (by omega)
    · exact rpow_big k1 h'
  have RB := fun W hW => rbits_any a la ca zs W hW hn (by omega) hc
  simp only [ek] at RB
  have HRB : Hid (∀ W, Sl W a la zs → Calls Tryz.prog 73 #[.slice a la ca] W fun e w' => e = .returned (.int .i64 ((k : Int) + 1)) ∧ Below W.heap.size W w') := RB
  have HS : Hid (Sl w a la zs) := h
  have H1 : Hid (2 ≤ num zs) := h2
  clear h h2 k1 ek RB
  by_cases hg : 262144 < n
  · have hg' : (262144 : Int) < n := by omega
    go_enter Tryz.func38, Tryz.ntmps38
    go_wp2_with fail
    refine (rsmall_any 1 ⟨by decide, by decide⟩ w).mono ?_
    rintro e w1 ⟨a1, m1, c1, z1, rfl, kk1, l1, s1, u1, n1, b1⟩
    go_wp2_with fail
    refine (rcompare_any a a1 la ca m1 c1 zs z1 w1 (HS.out.below b1 (Nat.le_refl _)) s1 hn (Sl.there s1 u1 (by omega)) (by omega) (by omega) hc kk1).mono ?_
    rintro e w2 ⟨rfl, b2⟩
    have gc : (cmp3 (num zs) (num z1) == 0) = false := cmp_ne (by have := H1.out; omega)
    generalize cmp3 (num zs) (num z1) = C at *
    clear s1 n1
    go_wp2_with fail
    refine (rzero_b a la ca zs w2 (HS.out.below (step b1 b2) (Nat.le_refl _)) hn (by omega) hc).mono ?_
    rintro e w3 ⟨rfl, b3⟩
    rw [show decide (num zs = 0) = false by have := H1.out; simp; omega]
    go_wp2_with fail
    go_ret2
    exact ⟨none, 0, 0, [], false, rfl, ⟨rfl, Limbs.nil, fun h => absurd h (by decide)⟩, .inr ⟨rfl, HP.out⟩, step (step b1 b2) b3⟩
  · have hkn : 262144 ≤ k * n := by omega
    have hkn2 : k * n ≤ 262144 * 262144 := Nat.mul_le_mul hk (by omega)
    have ekn : (k : Int) * n = ((k * n : Nat) : Int) := by rw [Int.natCast_mul]
    obtain ⟨M, hM⟩ : ∃ M, k * n = M := ⟨_, rfl⟩
    rw [hM] at hkn hkn2 ekn
    have hg' : ¬ (262144 : Int) < n := by omega
    clear hlong hM
    go_enter Tryz.func38, Tryz.ntmps38
    go_wp2_with fail
    refine (rsmall_any 1 ⟨by decide, by decide⟩ w).mono ?_
    rintro e w1 ⟨a1, m1, c1, z1, rfl, kk1, l1, s1, u1, n1, b1⟩
    go_wp2_with fail
    refine (rcompare_any a a1 la ca m1 c1 zs z1 w1 (HS.out.below b1 (Nat.le_refl _)) s1 hn (Sl.there s1 u1 (by omega)) (by omega) (by omega) hc kk1).mono ?_
    rintro e w2 ⟨rfl, b2⟩
    have gc : (cmp3 (num zs) (num z1) == 0) = false := cmp_ne (by have := H1.out; omega)
    generalize cmp3 (num zs) (num z1) = C at *
    clear s1 n1
    go_wp2_with fail
    refine (rzero_b a la ca zs w2 (HS.out.below (step b1 b2) (Nat.le_refl _)) hn (by omega) hc).mono ?_
    rintro e w3 ⟨rfl, b3⟩
    rw [show decide (num zs = 0) = false by have := H1.out; simp; omega]
    go_wp2_with fail
    refine (HRB.out w3 (HS.out.below (step (step b1 b2) b3) (Nat.le_refl _))).mono ?_
    rintro e w4 ⟨rfl, b4⟩
    go_wp2_with fail
    go_ret2
    exact ⟨none, 0, 0, [], false, rfl, ⟨rfl, Limbs.nil, fun h => absurd h (by decide)⟩, .inr ⟨rfl, HP.out⟩, step (step (step b1 b2) b3) b4⟩
end Go.Proofs.YtegfklapgbggfaaGreat
namespace Go.Proofs.YtegfklapgbggfaaGreat
open Go.RowKit Go.Shelf
set_option linter.unusedVariables false

theorem rpow_small {A : Int} {k n : Nat} (hA : 0 ≤ A) (hk : A < 2 ^ (k + 1)) (h : k * n < 262144) (hn : n ≤ 262144) : A ^ n < pw 8192 := by
  have h1 := powr_le hA (show A ≤ 2 ^ (k + 1) - 1 by omega) n
  have h2 := powr_le (show (0 : Int) ≤ 2 ^ (k + 1) - 1 by have := p2_pos (k + 1); omega) (show (2 : Int) ^ (k + 1) - 1 ≤ 2 ^ (k + 1) by omega) n
  rw [p2_pow] at h2
  have h3 : (k + 1) * n < 524288 := by rw [Nat.add_mul]; omega
  have h4 := p2_mono (show (k + 1) * n + 1 ≤ 64 * 8192 by omega)
  rw [← pw_eq, Int.pow_succ] at h4
  have h5 := p2_pos ((k + 1) * n)
  generalize pw 8192 = P at *
  omega
set_option maxRecDepth 20000 in
set_option maxHeartbeats 4000000 in
theorem rpow_go (a : Option Addr) (la ca : Nat) (zs : List Int) (n k : Nat) (w : World) (h : Sl w a la zs) (hn : a = none → la = 0 ∧ ca = 0) (hl : la ≤ 1000000000) (hc : la ≤ ca) (h2 : 2 ≤ num zs) (hz : 0 < n) (hk : k ≤ 262144) (ek : bitsN zs = (k : Int) + 1) (k2 : num zs < 2 ^ (k + 1)) (hn1 : n ≤ 262144) (hkn : k * n < 262144) :
    Calls Tryz.prog 38 #[.slice a la ca, .int .i64 n] w fun e w' => PRes w w' e (num zs ^ n) := by
  have g1 : ((n : Int) == 0) = false := by simp; omega
  have HF : Hid (num zs ^ n < pw 8192) := rpow_small (by omega) k2 hkn hn1
  have RB := fun W hW => rbits_any a la ca zs W hW hn (by omega) hc
  simp only [ek] at RB
  have HRB : Hid (∀ W, Sl W a la zs → Calls Tryz.prog 73 #[.slice a la ca] W fun e w' => e = .returned (.int .i64 ((k : Int) + 1)) ∧ Below W.heap.size W w') := RB
  have ekn : (k : Int) * n = ((k * n : Nat) : Int) := by rw [Int.natCast_mul]
  obtain ⟨M, hM⟩ : ∃ M, k * n = M := ⟨_, rfl⟩
  rw [hM] at hkn ekn
  have hg' : ¬ (262144 : Int) < n := by omega
  have HS : Hid (Sl w a la zs) := h
  have H1 : Hid (2 ≤ num zs) := h2
  obtain ⟨A, hA⟩ : ∃ A, num zs = A := ⟨_, rfl⟩
  have HA : Hid (num zs = A) := hA
  rw [hA] at HF ⊢
  have HA2 : Hid (2 ≤ A) := by rw [← hA]; exact h2
  clear h h2 k2 ek RB hM hA
  go_enter Tryz.func38, Tryz.ntmps38
  go_wp2_with fail
  refine (rsmall_any 1 ⟨by decide, by decide⟩ w).mono ?_
  rintro e w1 ⟨a1, m1, c1, z1, rfl, kk1, l1, s1, u1, n1, b1⟩
  go_wp2_with fail
  refine (rcompare_any a a1 la ca m1 c1 zs z1 w1 (HS.out.below b1 (Nat.le_refl _)) s1 hn (Sl.there s1 u1 (by omega)) (by omega) (by omega) hc kk1).mono ?_
  rintro e w2 ⟨rfl, b2⟩
  have gc : (cmp3 (num zs) (num z1) == 0) = false := cmp_ne (by have := H1.out; omega)
  generalize cmp3 (num zs) (num z1) = C at *
  clear s1 n1
  go_wp2_with fail
  refine (rzero_b a la ca zs w2 (HS.out.below (step b1 b2) (Nat.le_refl _)) hn (by omega) hc).mono ?_
  rintro e w3 ⟨rfl, b3⟩
  rw [show decide (num zs = 0) = false by have := H1.out; simp; omega]
  go_wp2_with fail
  refine (HRB.out w3 (HS.out.below (step (step b1 b2) b3) (Nat.le_refl _))).mono ?_
  rintro e w4 ⟨rfl, b4⟩
  clear HRB
  set_option maxRecDepth 100000 in go_wp2_with fail
  refine (rsmall_any 1 ⟨by decide, by decide⟩ w4).mono ?_
  rintro e w5 ⟨a5, m5, c5, z5, rfl, k5, l5, s5, u5, n5, b5⟩
  have HB5 : Hid (Below w.heap.size w w5) := step (step (step (step b1 b2) b3) b4) b5
  have HS5 : Hid (Sl w5 a5 m5 z5) := s5
  have HU5 : Hid (usedN z5 = m5) := u5
  have HN5 : Hid (num z5 = A ^ (n / 2 ^ 31)) := by show _ = _; rw [n5, Nat.div_eq_of_lt (by omega)]; simp
  clear b1 b2 b3 b4 b5 s5 u5 n5 gc ekn
  go_wp2_with fail
  go_loopw [6, 7] (fun x bt wr => ∃ (t : Nat) (b : Option Addr) (lb cb : Nat) (xs : List Int), x = .slice b lb cb ∧ bt = .int .i64 (pb t) ∧ t ≤ 31 ∧ lb ≤ cb ∧ Hid (Sl wr b lb xs) ∧ Hid (usedN xs = lb) ∧ Hid (num xs = A ^ (n / 2 ^ t)) ∧ Hid (Below w.heap.size w wr)) (fun _ bt _ => (intOf bt).toNat)
  case atStart => exact ⟨31, a5, m5, c5, z5, rfl, rfl, by omega, k5, HS5, HU5, HN5, HB5⟩
  case round =>
    clear HS5 HU5 HN5 HB5
    obtain ⟨t, b, lb, cb, xs, rfl, rfl, ht, hcb, hs, hu, hnx, hB⟩ := hrel
    have lb8 : lb ≤ 8192 := by
      have h5 := HF.out
      have h6 := powr_up (show 1 ≤ A by have := HA2.out; omega) (Nat.div_le_self n (2 ^ t))
      have h7 := used_of_lt hs.out.2.1 (n := 8192) (by rw [hnx.out]; exact Int.lt_of_le_of_lt h6 h5)
      have := hu.out
      omega
    cases t with
    | zero =>
      have HE : Hid (num xs = A ^ n) := by show _ = _; rw [hnx.out]; simp
      have e0 : ((pb 0 : Nat) : Int) = 0 := rfl
      rw [e0]
      by_cases hlg : 4096 < usedN xs
      · have HP : Hid (pw 4096 ≤ A ^ n) := by
          show _ ≤ _
          rw [← HE.out]
          have h5 := num_ge_used hs.out.2.1 (by omega)
          have h6 := pw_mono (show 4096 ≤ usedN xs - 1 by omega)
          exact Int.le_trans h6 h5
        go_wp2_with fail
        refine (rlong_yes b lb cb xs wr hs.out (by omega) hlg).mono ?_
        rintro e w6 ⟨rfl, b6⟩
        clear hlg
        go_wp2_with fail
        go_ret2
        exact ⟨b, lb, cb, xs, false, rfl, hs.out.below b6 (Nat.le_refl _), .inr ⟨rfl, HP.out⟩, step hB.out b6⟩
      · have hlg' : usedN xs ≤ 4096 := by omega
        have HP : Hid (A ^ n < pw 4096) := by show _ < _; rw [← HE.out]; exact lt_of_used hs.out.2.1 hlg'
        clear hlg
        go_wp2_with fail
        refine (rlong_no b lb cb xs wr hs.out (by omega) hlg').mono ?_
        rintro e w6 ⟨rfl, b6⟩
        clear hlg'
        go_wp2_with fail
        go_ret2
        exact ⟨b, lb, cb, xs, true, rfl, hs.out.below b6 (Nat.le_refl _), .inl ⟨rfl, hu.out, HE.out, HP.out⟩, step hB.out b6⟩
    | succ t =>
      have hph := pb_half t
      obtain ⟨P, hP⟩ : ∃ P, pb (t + 1) = P := ⟨_, rfl⟩
      have hP2 : 2 ^ t = P := hP
      have hPpos : 0 < P := by rw [← hP2]; exact Nat.pow_pos (by decide)
      have hPle : P ≤ 1073741824 := by
        rw [← hP2]
        have := Nat.pow_le_pow_right (n := 2) (by decide) (show t ≤ 30 by omega)
        have h5 : (2 : Nat) ^ 30 = 1073741824 := by decide
        omega
      rw [hP] at hph ⊢
      obtain ⟨D, hD⟩ : ∃ D, n / P = D := ⟨_, rfl⟩
      have eD : (n : Int) / (P : Int) = (D : Int) := by rw [← hD]; exact (Int.natCast_ediv n P).symm
      obtain ⟨R, hR⟩ : ∃ R, pb t = R := ⟨_, rfl⟩
      rw [hR] at hph
      have eR : (P : Int) / 2 = (R : Int) := by omega
      have eM : n / 2 ^ (t + 1) = D / 2 := by rw [Nat.pow_succ, ← Nat.div_div_eq_div_mul, hP2, hD]
      have HNX : Hid (num xs = A ^ (D / 2)) := by show _ = _; rw [hnx.out, eM]
      have HDT : Hid (n / 2 ^ t = D) := by show _ = _; rw [hP2]; exact hD
      have hDn : D ≤ n := by rw [← hD]; exact Nat.div_le_self n P
      have gP : ((P : Int) == 0) = false := by simp; omega
      have hPp : (0 : Int) < P := by omega
      have HRT : Hid (pb t = R) := hR
      clear hP hP2 hD hR eM hnx hph
      go_wp2_with fail
      refine (rmul_any b b lb cb lb cb xs xs wr hs.out hs.out (by omega) (by omega)).mono ?_
      rintro e w6 ⟨a6, m6, c6, z6, rfl, k6, l6, s6, u6, n6, b6⟩
      have HN6 : Hid (num z6 = A ^ (D / 2) * A ^ (D / 2)) := by show _ = _; rw [n6, HNX.out]
      have HB6 : Hid (Below w.heap.size w w6) := step hB.out b6
      clear n6 b6
      by_cases hodd : D % 2 = 1
      · have g2 : ((D : Int) % 2 == 1) = true := by simp; omega
        have HE : Hid (A ^ (D / 2) * A ^ (D / 2) * A = A ^ (n / 2 ^ t)) := by
          show _ = _
          rw [HDT.out]
          have := pow_half A (D / 2) 1
          rw [show 2 * (D / 2) + 1 = D by omega, Int.pow_succ, Int.pow_zero, Int.one_mul] at this
          exact this.symm
        go_wp2_with fail
        refine (rmul_any a6 a m6 c6 la ca z6 zs w6 s6 (HS.out.below HB6.out (Nat.le_refl _)) (by omega) (by omega)).mono ?_
        rintro e w7 ⟨a7, m7, c7, z7, rfl, k7, l7, s7, u7, n7, b7⟩
        have HN7 : Hid (num z7 = A ^ (n / 2 ^ t)) := by show _ = _; rw [n7, HN6.out, HA.out]; exact HE.out
        have HB7 : Hid (Below w.heap.size w w7) := step HB6.out b7
        have HS7 : Hid (Sl w7 a7 m7 z7) := s7
        have HU7 : Hid (usedN z7 = m7) := u7
        clear n7 s7 u7 s6 b7
        go_wp2_with fail
        go_roundw
        case rel => exact ⟨t, a7, m7, c7, z7, rfl, by rw [HRT.out], by omega, k7, HS7, HU7, HN7, HB7⟩
        case measure => simp [intOf]; omega
      · have g2 : ((D : Int) % 2 == 1) = false := by simp; omega
        have HN7 : Hid (num z6 = A ^ (n / 2 ^ t)) := by
          show _ = _
          rw [HN6.out, HDT.out]
          have := pow_half A (D / 2) 0
          rw [show 2 * (D / 2) + 0 = D by omega, Int.pow_zero, Int.mul_one] at this
          exact this.symm
        have HS7 : Hid (Sl w6 a6 m6 z6) := s6
        have HU7 : Hid (usedN z6 = m6) := u6
        clear s6 u6
        go_wp2_with fail
        go_roundw
        case rel => exact ⟨t, a6, m6, c6, z6, rfl, by rw [HRT.out], by omega, k6, HS7, HU7, HN7, HB6⟩
        case measure => simp [intOf]; omega
theorem rpow_any (a : Option Addr) (la ca : Nat) (zs : List Int) (n : Nat) (w : World) (h : Sl w a la zs) (hn : a = none → la = 0 ∧ ca = 0) (hl : la ≤ 1000000000) (hc : la ≤ ca) (hu : usedN zs ≤ 4096) (hn63 : n ≤ 9223372036854775807) :
    Calls Tryz.prog 38 #[.slice a la ca, .int .i64 n] w fun e w' => PRes w w' e (num zs ^ n) := by
  rcases Nat.eq_zero_or_pos n with rfl | hz
  · exact rpow_nought a la ca zs w h
  · have h0 := num_nonneg h.2.1
    by_cases h1 : num zs = 1
    · exact rpow_one a la ca zs n w h hn hl hc h1 hz
    · by_cases h2 : num zs = 0
      · exact rpow_zero a la ca zs n w h hn hl hc h2 hz
      · have uz : 0 < usedN zs := by
          rcases Nat.eq_zero_or_pos (usedN zs) with h' | h'
          · exact absurd ((num_eq_zero h.2.1).2 h') h2
          · exact h'
        obtain ⟨k, ek, k1, k2⟩ := bits_spec h.2.1 uz
        have hbl := bits_limbs h.2.1
        by_cases hlong : 262144 < n ∨ 262144 ≤ k * n
        · exact rpow_long a la ca zs n k w h hn hl hc (by omega) hz (by omega) ek k1 hlong hn63
        · exact rpow_go a la ca zs n k w h hn hl hc (by omega) hz (by omega) ek k2 (by omega) (by omega)
end Go.Proofs.YtegfklapgbggfaaGreat
namespace Go.Proofs.YtegfklapgbggfaaGreat
open Go.RowKit Go.Shelf
set_option linter.unusedVariables false

def PRes9 (w w' : World) (e : Ending) (N : Int) : Prop :=
  ∃ a m c ds may, e = .returned (.tuple #[.slice a m c, .bool may]) ∧ Sl w' a m ds ∧ Hid ((may = true ∧ usedN ds = m ∧ num ds = N ∧ N < pw 4096 ∧ m ≤ c) ∨ (may = false ∧ pw 4096 ≤ N)) ∧ Below w.heap.size w w'
theorem rpow_nought9 (a : Option Addr) (la ca : Nat) (zs : List Int) (w : World) (h : Sl w a la zs) :
    Calls Tryz.prog 38 #[.slice a la ca, .int .i64 0] w fun e w' => PRes9 w w' e (num zs ^ 0) := by
  go_enter Tryz.func38, Tryz.ntmps38
  go_wp2_with fail
  refine (rsmall_any 1 ⟨by decide, by decide⟩ w).mono ?_
  rintro e w1 ⟨a1, m1, c1, z1, rfl, k1, l1, s1, u1, n1, b1⟩
  go_wp2_with fail
  go_ret2
  exact ⟨a1, m1, c1, z1, true, rfl, s1, .inl ⟨rfl, u1, by rw [n1]; simp, by simpa using one_fits, k1⟩, b1⟩
theorem rpow_one9 (a : Option Addr) (la ca : Nat) (zs : List Int) (n : Nat) (w : World) (h : Sl w a la zs) (hn : a = none → la = 0 ∧ ca = 0) (hl : la ≤ 1000000000) (hc : la ≤ ca) (h1 : num zs = 1) (hz : 0 < n) :
    Calls Tryz.prog 38 #[.slice a la ca, .int .i64 n] w fun e w' => PRes9 w w' e (num zs ^ n) := by
  have g1 : ((n : Int) == 0) = false := by simp; omega
  have HP : Hid (num zs ^ n = 1) := by show _ = _; rw [h1, Int.one_pow]
  have HS : Hid (Sl w a la zs) := h
  have H1 : Hid (num zs = 1) := h1
  clear h h1
  go_enter Tryz.func38, Tryz.ntmps38
  go_wp2_with fail
  refine (rsmall_any 1 ⟨by decide, by decide⟩ w).mono ?_
  rintro e w1 ⟨a1, m1, c1, z1, rfl, k1, l1, s1, u1, n1, b1⟩
  go_wp2_with fail
  refine (rcompare_any a a1 la ca m1 c1 zs z1 w1 (HS.out.below b1 (Nat.le_refl _)) s1 hn (Sl.there s1 u1 (by omega)) (by omega) (by omega) hc k1).mono ?_
  rintro e w2 ⟨rfl, b2⟩
  rw [cmp3_eq (show num zs = num z1 by rw [H1.out, n1])]
  clear s1 n1
  go_wp2_with fail
  refine (rsmall_any 1 ⟨by decide, by decide⟩ w2).mono ?_
  rintro e w3 ⟨a3, m3, c3, z3, rfl, k3, l3, s3, u3, n3, b3⟩
  go_wp2_with fail
  go_ret2
  exact ⟨a3, m3, c3, z3, true, rfl, s3, .inl ⟨rfl, u3, by rw [n3, HP.out], by rw [HP.out]; exact one_fits, k3⟩, step (step b1 b2) b3⟩
theorem rpow_zero9 (a : Option Addr) (la ca : Nat) (zs : List Int) (n : Nat) (w : World) (h : Sl w a la zs) (hn : a = none → la = 0 ∧ ca = 0) (hl : la ≤ 1000000000) (hc : la ≤ ca) (h1 : num zs = 0) (hz : 0 < n) :
    Calls Tryz.prog 38 #[.slice a la ca, .int .i64 n] w fun e w' => PRes9 w w' e (num zs ^ n) := by
  have g1 : ((n : Int) == 0) = false := by simp; omega
  have HP : Hid (num zs ^ n = 0) := by
    obtain ⟨m, rfl⟩ : ∃ m, n = m + 1 := ⟨n - 1, by omega⟩
    show _ = _; rw [h1, Int.pow_succ, Int.mul_zero]
  have HS : Hid (Sl w a la zs) := h
  have H1 : Hid (num zs = 0) := h1
  clear h h1
  go_enter Tryz.func38, Tryz.ntmps38
  go_wp2_with fail
  refine (rsmall_any 1 ⟨by decide, by decide⟩ w).mono ?_
  rintro e w1 ⟨a1, m1, c1, z1, rfl, k1, l1, s1, u1, n1, b1⟩
  go_wp2_with fail
  refine (rcompare_any a a1 la ca m1 c1 zs z1 w1 (HS.out.below b1 (Nat.le_refl _)) s1 hn (Sl.there s1 u1 (by omega)) (by omega) (by omega) hc k1).mono ?_
  rintro e w2 ⟨rfl, b2⟩
  have gc : (cmp3 (num zs) (num z1) == 0) = false := cmp_ne (by rw [H1.out, n1]; decide)
  generalize cmp3 (num zs) (num z1) = C at *
  clear s1 n1
  go_wp2_with fail
  refine (rzero_b a la ca zs w2 (HS.out.below (step b1 b2) (Nat.le_refl _)) hn (by omega) hc).mono ?_
  rintro e w3 ⟨rfl, b3⟩
  rw [H1.out]
  simp only [decide_true]
  go_wp2_with fail
  go_ret2
  exact ⟨none, 0, 0, [], true, rfl, ⟨rfl, Limbs.nil, fun h => absurd h (by decide)⟩, .inl ⟨rfl, rfl, by rw [HP.out]; rfl, by rw [HP.out]; exact pw_pos 4096, Nat.le_refl _⟩, step (step b1 b2) b3⟩
theorem rpow_big9 {A : Int} {k n : Nat} (hk : 2 ^ k ≤ A) (h : 262144 ≤ k * n) : pw 4096 ≤ A ^ n := by
  have h1 := powr_le (Int.le_of_lt (p2_pos k)) hk n
  rw [p2_pow] at h1
  rw [show pw 4096 = 2 ^ 262144 from pw_eq 4096]
  exact Int.le_trans (p2_mono h) h1
set_option maxHeartbeats 1000000 in
theorem rpow_long9 (a : Option Addr) (la ca : Nat) (zs : List Int) (n k : Nat) (w : World) (h : Sl w a la zs) (hn : a = none → la = 0 ∧ ca = 0) (hl : la ≤ 1000000000) (hc : la ≤ ca) (h2 : 2 ≤ num zs) (hz : 0 < n) (hk : k ≤ 262144) (ek : bitsN zs = (k : Int) + 1) (k1 : 2 ^ k ≤ num zs) (hlong : 262144 < n ∨ 262144 ≤ k * n) (hn63 : n ≤ 9223372036854775807) :
    Calls Tryz.prog 38 #[.slice a la ca, .int .i64 n] w fun e w' => PRes9 w w' e (num zs ^ n) := by
  have g1 : ((n : Int) == 0) = false := by simp; omega
  have HP : Hid (pw 4096 ≤ num zs ^ n) := by
    rcases hlong with h' | h'
    · exact rpow_big9 (k := 1) (by simpa using h2) (by omega)
    · exact rpow_big9 k1 h'
  have RB := fun W hW => rbits_any a la ca zs W hW hn (by omega) hc
  simp only [ek] at RB
  have HRB : Hid (∀ W, Sl W a la zs → Calls Tryz.prog 73 #[.slice a la ca] W fun e w' => e = .returned (.int .i64 ((k : Int) + 1)) ∧ Below W.heap.size W w') := RB
  have HS : Hid (Sl w a la zs) := h
  have H1 : Hid (2 ≤ num zs) := h2
  clear h h2 k1 ek RB
  by_cases hg : 262144 < n
  · have hg' : (262144 : Int) < n := by omega
    go_enter Tryz.func38, Tryz.ntmps38
    go_wp2_with fail
    refine (rsmall_any 1 ⟨by decide, by decide⟩ w).mono ?_
    rintro e w1 ⟨a1, m1, c1, z1, rfl, kk1, l1, s1, u1, n1, b1⟩
    go_wp2_with fail
    refine (rcompare_any a a1 la ca m1 c1 zs z1 w1 (HS.out.below b1 (Nat.le_refl _)) s1 hn (Sl.there s1 u1 (by omega)) (by omega) (by omega) hc kk1).mono ?_
    rintro e w2 ⟨rfl, b2⟩
    have gc : (cmp3 (num zs) (num z1) == 0) = false := cmp_ne (by have := H1.out; omega)
    generalize cmp3 (num zs) (num z1) = C at *
    clear s1 n1
    go_wp2_with fail
    refine (rzero_b a la ca zs w2 (HS.out.below (step b1 b2) (Nat.le_refl _)) hn (by omega) hc).mono ?_
    rintro e w3 ⟨rfl, b3⟩
    rw [show decide (num zs = 0) = false by have := H1.out; simp; omega]
    go_wp2_with fail
    go_ret2
    exact ⟨none, 0, 0, [], false, rfl, ⟨rfl, Limbs.nil, fun h => absurd h (by decide)⟩, .inr ⟨rfl, HP.out⟩, step (step b1 b2) b3⟩
  · have hkn : 262144 ≤ k * n := by omega
    have hkn2 : k * n ≤ 262144 * 262144 := Nat.mul_le_mul hk (by omega)
    have ekn : (k : Int) * n = ((k * n : Nat) : Int) := by rw [Int.natCast_mul]
    obtain ⟨M, hM⟩ : ∃ M, k * n = M := ⟨_, rfl⟩
    rw [hM] at hkn hkn2 ekn
    have hg' : ¬ (262144 : Int) < n := by omega
    clear hlong hM
    go_enter Tryz.func38, Tryz.ntmps38
    go_wp2_with fail
    refine (rsmall_any 1 ⟨by decide, by decide⟩ w).mono ?_
    rintro e w1 ⟨a1, m1, c1, z1, rfl, kk1, l1, s1, u1, n1, b1⟩
    go_wp2_with fail
    refine (rcompare_any a a1 la ca m1 c1 zs z1 w1 (HS.out.below b1 (Nat.le_refl _)) s1 hn (Sl.there s1 u1 (by omega)) (by omega) (by omega) hc kk1).mono ?_
    rintro e w2 ⟨rfl, b2⟩
    have gc : (cmp3 (num zs) (num z1) == 0) = false := cmp_ne (by have := H1.out; omega)
    generalize cmp3 (num zs) (num z1) = C at *
    clear s1 n1
    go_wp2_with fail
    refine (rzero_b a la ca zs w2 (HS.out.below (step b1 b2) (Nat.le_refl _)) hn (by omega) hc).mono ?_
    rintro e w3 ⟨rfl, b3⟩
    rw [show decide (num zs = 0) = false by have := H1.out; simp; omega]
    go_wp2_with fail
    refine (HRB.out w3 (HS.out.below (step (step b1 b2) b3) (Nat.le_refl _))).mono ?_
    rintro e w4 ⟨rfl, b4⟩
    go_wp2_with fail
    go_ret2
    exact ⟨none, 0, 0, [], false, rfl, ⟨rfl, Limbs.nil, fun h => absurd h (by decide)⟩, .inr ⟨rfl, HP.out⟩, step (step (step b1 b2) b3) b4⟩
theorem rpow_small9 {A : Int} {k n : Nat} (hA : 0 ≤ A) (hk : A < 2 ^ (k + 1)) (h : k * n < 262144) (hn : n ≤ 262144) : A ^ n < pw 8192 := by
  have h1 := powr_le hA (show A ≤ 2 ^ (k + 1) - 1 by omega) n
  have h2 := powr_le (show (0 : Int) ≤ 2 ^ (k + 1) - 1 by have := p2_pos (k + 1); omega) (show (2 : Int) ^ (k + 1) - 1 ≤ 2 ^ (k + 1) by omega) n
  rw [p2_pow] at h2
  have h3 : (k + 1) * n < 524288 := by rw [Nat.add_mul]; omega
  have h4 := p2_mono (show (k + 1) * n + 1 ≤ 64 * 8192 by omega)
  rw [← pw_eq, Int.pow_succ] at h4
  have h5 := p2_pos ((k + 1) * n)
  generalize pw 8192 = P at *
  omega
set_option maxRecDepth 20000 in
set_option maxHeartbeats 4000000 in
theorem rpow_go9 (a : Option Addr) (la ca : Nat) (zs : List Int) (n k : Nat) (w : World) (h : Sl w a la zs) (hn : a = none → la = 0 ∧ ca = 0) (hl : la ≤ 1000000000) (hc : la ≤ ca) (h2 : 2 ≤ num zs) (hz : 0 < n) (hk : k ≤ 262144) (ek : bitsN zs = (k : Int) + 1) (k2 : num zs < 2 ^ (k + 1)) (hn1 : n ≤ 262144) (hkn : k * n < 262144) :
    Calls Tryz.prog 38 #[.slice a la ca, .int .i64 n] w fun e w' => PRes9 w w' e (num zs ^ n) := by
  have g1 : ((n : Int) == 0) = false := by simp; omega
  have HF : Hid (num zs ^ n < pw 8192) := rpow_small9 (by omega) k2 hkn hn1
  have RB := fun W hW => rbits_any a la ca zs W hW hn (by omega) hc
  simp only [ek] at RB
  have HRB : Hid (∀ W, Sl W a la zs → Calls Tryz.prog 73 #[.slice a la ca] W fun e w' => e = .returned (.int .i64 ((k : Int) + 1)) ∧ Below W.heap.size W w') := RB
  have ekn : (k : Int) * n = ((k * n : Nat) : Int) := by rw [Int.natCast_mul]
  obtain ⟨M, hM⟩ : ∃ M, k * n = M := ⟨_, rfl⟩
  rw [hM] at hkn ekn
  have hg' : ¬ (262144 : Int) < n := by omega
  have HS : Hid (Sl w a la zs) := h
  have H1 : Hid (2 ≤ num zs) := h2
  obtain ⟨A, hA⟩ : ∃ A, num zs = A := ⟨_, rfl⟩
  have HA : Hid (num zs = A) := hA
  rw [hA] at HF ⊢
  have HA2 : Hid (2 ≤ A) := by rw [← hA]; exact h2
  clear h h2 k2 ek RB hM hA
  go_enter Tryz.func38, Tryz.ntmps38
  go_wp2_with fail
  refine (rsmall_any 1 ⟨by decide, by decide⟩ w).mono ?_
  rintro e w1 ⟨a1, m1, c1, z1, rfl, kk1, l1, s1, u1, n1, b1⟩
  go_wp2_with fail
  refine (rcompare_any a a1 la ca m1 c1 zs z1 w1 (HS.out.below b1 (Nat.le_refl _)) s1 hn (Sl.there s1 u1 (by omega)) (by omega) (by omega) hc kk1).mono ?_
  rintro e w2 ⟨rfl, b2⟩
  have gc : (cmp3 (num zs) (num z1) == 0) = false := cmp_ne (by have := H1.out; omega)
  generalize cmp3 (num zs) (num z1) = C at *
  clear s1 n1
  go_wp2_with fail
  refine (rzero_b a la ca zs w2 (HS.out.below (step b1 b2) (Nat.le_refl _)) hn (by omega) hc).mono ?_
  rintro e w3 ⟨rfl, b3⟩
  rw [show decide (num zs = 0) = false by have := H1.out; simp; omega]
  go_wp2_with fail
  refine (HRB.out w3 (HS.out.below (step (step b1 b2) b3) (Nat.le_refl _))).mono ?_
  rintro e w4 ⟨rfl, b4⟩
  clear HRB
  set_option maxRecDepth 100000 in go_wp2_with fail
  refine (rsmall_any 1 ⟨by decide, by decide⟩ w4).mono ?_
  rintro e w5 ⟨a5, m5, c5, z5, rfl, k5, l5, s5, u5, n5, b5⟩
  have HB5 : Hid (Below w.heap.size w w5) := step (step (step (step b1 b2) b3) b4) b5
  have HS5 : Hid (Sl w5 a5 m5 z5) := s5
  have HU5 : Hid (usedN z5 = m5) := u5
  have HN5 : Hid (num z5 = A ^ (n / 2 ^ 31)) := by show _ = _; rw [n5, Nat.div_eq_of_lt (by omega)]; simp
  clear b1 b2 b3 b4 b5 s5 u5 n5 gc ekn
  go_wp2_with fail
  go_loopw [6, 7] (fun x bt wr => ∃ (t : Nat) (b : Option Addr) (lb cb : Nat) (xs : List Int), x = .slice b lb cb ∧ bt = .int .i64 (pb t) ∧ t ≤ 31 ∧ lb ≤ cb ∧ Hid (Sl wr b lb xs) ∧ Hid (usedN xs = lb) ∧ Hid (num xs = A ^ (n / 2 ^ t)) ∧ Hid (Below w.heap.size w wr)) (fun _ bt _ => (intOf bt).toNat)
  case atStart => exact ⟨31, a5, m5, c5, z5, rfl, rfl, by omega, k5, HS5, HU5, HN5, HB5⟩
  case round =>
    clear HS5 HU5 HN5 HB5
    obtain ⟨t, b, lb, cb, xs, rfl, rfl, ht, hcb, hs, hu, hnx, hB⟩ := hrel
    have lb8 : lb ≤ 8192 := by
      have h5 := HF.out
      have h6 := powr_up (show 1 ≤ A by have := HA2.out; omega) (Nat.div_le_self n (2 ^ t))
      have h7 := used_of_lt hs.out.2.1 (n := 8192) (by rw [hnx.out]; exact Int.lt_of_le_of_lt h6 h5)
      have := hu.out
      omega
    cases t with
    | zero =>
      have HE : Hid (num xs = A ^ n) := by show _ = _; rw [hnx.out]; simp
      have e0 : ((pb 0 : Nat) : Int) = 0 := rfl
      rw [e0]
      by_cases hlg : 4096 < usedN xs
      · have HP : Hid (pw 4096 ≤ A ^ n) := by
          show _ ≤ _
          rw [← HE.out]
          have h5 := num_ge_used hs.out.2.1 (by omega)
          have h6 := pw_mono (show 4096 ≤ usedN xs - 1 by omega)
          exact Int.le_trans h6 h5
        go_wp2_with fail
        refine (rlong_yes b lb cb xs wr hs.out (by omega) hlg).mono ?_
        rintro e w6 ⟨rfl, b6⟩
        clear hlg
        go_wp2_with fail
        go_ret2
        exact ⟨b, lb, cb, xs, false, rfl, hs.out.below b6 (Nat.le_refl _), .inr ⟨rfl, HP.out⟩, step hB.out b6⟩
      · have hlg' : usedN xs ≤ 4096 := by omega
        have HP : Hid (A ^ n < pw 4096) := by show _ < _; rw [← HE.out]; exact lt_of_used hs.out.2.1 hlg'
        clear hlg
        go_wp2_with fail
        refine (rlong_no b lb cb xs wr hs.out (by omega) hlg').mono ?_
        rintro e w6 ⟨rfl, b6⟩
        clear hlg'
        go_wp2_with fail
        go_ret2
        exact ⟨b, lb, cb, xs, true, rfl, hs.out.below b6 (Nat.le_refl _), .inl ⟨rfl, hu.out, HE.out, HP.out, hcb⟩, step hB.out b6⟩
    | succ t =>
      have hph := pb_half t
      obtain ⟨P, hP⟩ : ∃ P, pb (t + 1) = P := ⟨_, rfl⟩
      have hP2 : 2 ^ t = P := hP
      have hPpos : 0 < P := by rw [← hP2]; exact Nat.pow_pos (by decide)
      have hPle : P ≤ 1073741824 := by
        rw [← hP2]
        have := Nat.pow_le_pow_right (n := 2) (by decide) (show t ≤ 30 by omega)
        have h5 : (2 : Nat) ^ 30 = 1073741824 := by decide
        omega
      rw [hP] at hph ⊢
      obtain ⟨D, hD⟩ : ∃ D, n / P = D := ⟨_, rfl⟩
      have eD : (n : Int) / (P : Int) = (D : Int) := by rw [← hD]; exact (Int.natCast_ediv n P).symm
      obtain ⟨R, hR⟩ : ∃ R, pb t = R := ⟨_, rfl⟩
      rw [hR] at hph
      have eR : (P : Int) / 2 = (R : Int) := by omega
      have eM : n / 2 ^ (t + 1) = D / 2 := by rw [Nat.pow_succ, ← Nat.div_div_eq_div_mul, hP2, hD]
      have HNX : Hid (num xs = A ^ (D / 2)) := by show _ = _; rw [hnx.out, eM]
      have HDT : Hid (n / 2 ^ t = D) := by show _ = _; rw [hP2]; exact hD
      have hDn : D ≤ n := by rw [← hD]; exact Nat.div_le_self n P
      have gP : ((P : Int) == 0) = false := by simp; omega
      have hPp : (0 : Int) < P := by omega
      have HRT : Hid (pb t = R) := hR
      clear hP hP2 hD hR eM hnx hph
      go_wp2_with fail
      refine (rmul_any b b lb cb lb cb xs xs wr hs.out hs.out (by omega) (by omega)).mono ?_
      rintro e w6 ⟨a6, m6, c6, z6, rfl, k6, l6, s6, u6, n6, b6⟩
      have HN6 : Hid (num z6 = A ^ (D / 2) * A ^ (D / 2)) := by show _ = _; rw [n6, HNX.out]
      have HB6 : Hid (Below w.heap.size w w6) := step hB.out b6
      clear n6 b6
      by_cases hodd : D % 2 = 1
      · have g2 : ((D : Int) % 2 == 1) = true := by simp; omega
        have HE : Hid (A ^ (D / 2) * A ^ (D / 2) * A = A ^ (n / 2 ^ t)) := by
          show _ = _
          rw [HDT.out]
          have := pow_half A (D / 2) 1
          rw [show 2 * (D / 2) + 1 = D by omega, Int.pow_succ, Int.pow_zero, Int.one_mul] at this
          exact this.symm
        go_wp2_with fail
        refine (rmul_any a6 a m6 c6 la ca z6 zs w6 s6 (HS.out.below HB6.out (Nat.le_refl _)) (by omega) (by omega)).mono ?_
        rintro e w7 ⟨a7, m7, c7, z7, rfl, k7, l7, s7, u7, n7, b7⟩
        have HN7 : Hid (num z7 = A ^ (n / 2 ^ t)) := by show _ = _; rw [n7, HN6.out, HA.out]; exact HE.out
        have HB7 : Hid (Below w.heap.size w w7) := step HB6.out b7
        have HS7 : Hid (Sl w7 a7 m7 z7) := s7
        have HU7 : Hid (usedN z7 = m7) := u7
        clear n7 s7 u7 s6 b7
        go_wp2_with fail
        go_roundw
        case rel => exact ⟨t, a7, m7, c7, z7, rfl, by rw [HRT.out], by omega, k7, HS7, HU7, HN7, HB7⟩
        case measure => simp [intOf]; omega
      · have g2 : ((D : Int) % 2 == 1) = false := by simp; omega
        have HN7 : Hid (num z6 = A ^ (n / 2 ^ t)) := by
          show _ = _
          rw [HN6.out, HDT.out]
          have := pow_half A (D / 2) 0
          rw [show 2 * (D / 2) + 0 = D by omega, Int.pow_zero, Int.mul_one] at this
          exact this.symm
        have HS7 : Hid (Sl w6 a6 m6 z6) := s6
        have HU7 : Hid (usedN z6 = m6) := u6
        clear s6 u6
        go_wp2_with fail
        go_roundw
        case rel => exact ⟨t, a6, m6, c6, z6, rfl, by rw [HRT.out], by omega, k6, HS7, HU7, HN7, HB6⟩
        case measure => simp [intOf]; omega
theorem rpow_any9 (a : Option Addr) (la ca : Nat) (zs : List Int) (n : Nat) (w : World) (h : Sl w a la zs) (hn : a = none → la = 0 ∧ ca = 0) (hl : la ≤ 1000000000) (hc : la ≤ ca) (hu : usedN zs ≤ 4096) (hn63 : n ≤ 9223372036854775807) :
    Calls Tryz.prog 38 #[.slice a la ca, .int .i64 n] w fun e w' => PRes9 w w' e (num zs ^ n) := by
  rcases Nat.eq_zero_or_pos n with rfl | hz
  · exact rpow_nought9 a la ca zs w h
  · have h0 := num_nonneg h.2.1
    by_cases h1 : num zs = 1
    · exact rpow_one9 a la ca zs n w h hn hl hc h1 hz
    · by_cases h2 : num zs = 0
      · exact rpow_zero9 a la ca zs n w h hn hl hc h2 hz
      · have uz : 0 < usedN zs := by
          rcases Nat.eq_zero_or_pos (usedN zs) with h' | h'
          · exact absurd ((num_eq_zero h.2.1).2 h') h2
          · exact h'
        obtain ⟨k, ek, k1, k2⟩ := bits_spec h.2.1 uz
        have hbl := bits_limbs h.2.1
        by_cases hlong : 262144 < n ∨ 262144 ≤ k * n
        · exact rpow_long9 a la ca zs n k w h hn hl hc (by omega) hz (by omega) ek k1 hlong hn63
        · exact rpow_go9 a la ca zs n k w h hn hl hc (by omega) hz (by omega) ek k2 (by omega) (by omega)
end Go.Proofs.YtegfklapgbggfaaGreat
namespace Go.Proofs.YtegfklapgbggfaaGreat
open Go.RowKit Go.Shelf
set_option linter.unusedVariables false

theorem results_rat1 {fn : Func} {i j b : Nat} {x y z : Value} {tmps : Array Value} {w : World} (h : fn.results = #[.cell i 31, .tmp j]) (hi : tmps.getD i undef = .pointer (some ⟨b, 0, none⟩)) (hv : Va w b 31 #[x, y, z]) :
    (results fn tmps).run Tryz.prog w = .ok (.tuple #[.agg #[x, y, z], tmps.getD j undef]) w := by
  have c := hv.d0; have d := hv.d1; have e := hv.d2
  rw [Array.getD_eq_getD_getElem?] at hi
  simp [results, h, hi, c, d, e, go_sem]
theorem mul_val9 {s1 s2 : Bool} {z1 z2 zA : List Int} {u v : Rat} {D : Int} (e1 : iv s1 z1 = u.num) (e2 : iv s2 z2 = v.num) (eA : num zA = num z1 * num z2) (hD : D = (u.den : Int) * (v.den : Int)) : Rat.divInt (iv (!(s1 == s2)) zA) D = u * v := by
  have e : iv (!(s1 == s2)) zA = u.num * v.num := by
    rw [← e1, ← e2]
    cases s1 <;> cases s2 <;> simp only [iv_t, iv_f, eA, beq_self_eq_true, Bool.not_true, Bool.not_false, show (false == true) = false from rfl, show (true == false) = false from rfl] <;> grind
  rw [e, hD, Rat.mul_def, Rat.normalize_eq_mkRat, ← Rat.divInt_ofNat, Int.natCast_mul]
theorem short_sz {v : Rat} (h : Short v) : Sz 4000 v := (show Sz 1024 v from ⟨h.1, h.2⟩).mono (by omega)
/-- A number over another one, as it is made. -/
def qv (v t : Rat) : Rat := Rat.divInt (v.num * (t.den : Int)) ((v.den : Int) * t.num)
theorem qv_val {s1 : Bool} {z1 zA : List Int} {v t : Rat} {D y : Int} (e1 : iv s1 z1 = v.num) (ey : y = (t.den : Int)) (eA : num zA = num z1 * y) (hD : D = (v.den : Int) * t.num) : Rat.divInt (iv s1 zA) D = qv v t := by
  have e : iv s1 zA = v.num * (t.den : Int) := by
    rw [← e1, ← ey]
    cases s1
    · rw [iv_f, iv_f, eA]
    · rw [iv_t, iv_t, eA]; grind
  rw [e, hD]; rfl
theorem qv_sz {v t : Rat} (h1 : Short v) (h2 : Short t) (ht : 0 < t.num) : Sz 2048 (qv v t) := by
  have hd := v.den_pos
  have p : 0 < (v.den : Int) * t.num := Int.mul_pos (by omega) ht
  have e : (v.den : Int) * t.num = (((v.den : Int) * t.num).toNat : Int) := by omega
  have e2 : (v.den : Int) * t.num < pw 2048 := rt_fits (by omega) (by omega) h1.2 (show t.num < pw 1024 by have := h2.1; omega) (by omega)
  unfold qv
  rw [e, Rat.divInt_ofNat]
  exact Sz.mk (by omega) (h1.mul h2) (by omega)
theorem rnd_scale {q n d g : Int} (hd : 0 < d) (hg : 0 < g) : rnd q (n * g) (d * g) = rnd q n d := by
  have e1 : n * g % (d * g) = n % d * g := by rw [Int.mul_comm n g, Int.mul_comm d g, Int.mul_emod_mul_of_pos _ _ hg, Int.mul_comm]
  have e2 : n * g / (d * g) = n / d := by rw [Int.mul_comm n g, Int.mul_comm d g, Int.mul_ediv_mul_of_pos _ _ hg]
  unfold rnd
  rw [e1, e2]
  by_cases hz : n % d = 0
  · rw [if_pos hz, if_pos (by rw [hz, Int.zero_mul])]
  · rw [if_neg hz, if_neg (Int.mul_ne_zero hz (by omega))]
    have e3 : cmp3 (2 * (n % d * g)) (d * g) = cmp3 (2 * (n % d)) d := by
      rw [show 2 * (n % d * g) = 2 * (n % d) * g by grind]
      rcases Int.lt_trichotomy (2 * (n % d)) d with h | h | h
      · rw [cmp3_lt h, cmp3_lt (Int.mul_lt_mul_of_pos_right h hg)]
      · rw [cmp3_eq h, cmp3_eq (by rw [h])]
      · rw [cmp3_gt h, cmp3_gt (Int.mul_lt_mul_of_pos_right h hg)]
    rw [e3]
theorem rnd_low {q N D : Int} (hD : 0 < D) : rnd q (Rat.divInt N D).num (Rat.divInt N D).den = rnd q N D := by
  have e : D = ((D.toNat : Nat) : Int) := by omega
  have hd := (Rat.divInt N D).den_pos
  have x : mkRat (Rat.divInt N D).num (Rat.divInt N D).den = mkRat N D.toNat := by rw [Rat.mkRat_self, ← Rat.divInt_ofNat, ← e]
  rw [Rat.mkRat_eq_iff (by omega) (by omega)] at x
  rw [← rnd_scale (q := q) (n := (Rat.divInt N D).num) (d := (Rat.divInt N D).den) (g := D) (by omega) hD, ← rnd_scale (q := q) (n := N) (d := D) (g := ((Rat.divInt N D).den : Int)) hD (by omega)]
  rw [← e] at x
  rw [x, Int.mul_comm D]
theorem uv_qv {q : Int} {v t : Rat} (ht : 0 < t.num) : t * ((rnd q (qv v t).num (qv v t).den : Int) : Rat) = uv q v t := by
  have hd := v.den_pos
  unfold qv uv
  rw [rnd_low (Int.mul_pos (by omega) ht), Rat.mul_comm]
theorem prod_fits {q : Int} {v t : Rat} (h1 : Short v) (h2 : Short t) (ht : 0 < t.num) : ∀ n, n = 4000 → (t.num.natAbs : Int) * ((rnd q (qv v t).num (qv v t).den).natAbs : Int) < pw n ∧ (t.den : Int) * 1 < pw n := fun n e => by
  subst e
  have hd := (qv v t).den_pos
  have a := rnd_abs (m := q) (n := (qv v t).num) (d := ((qv v t).den : Int)) (by omega)
  refine ⟨rt_fits (by omega) (by omega) h2.1 (Int.lt_of_le_of_lt a (qv_sz h1 h2 ht).1) (by omega), ?_⟩
  rw [Int.mul_one]; exact Int.lt_of_lt_of_le h2.2 (pw_mono (by omega))
theorem rnd_sz {q : Int} {n : Nat} (hn : 1 ≤ n) {v : Rat} (h : Sz n v) : Sz n ((rnd q v.num v.den : Int) : Rat) := by
  have hd := v.den_pos
  exact ⟨Int.lt_of_le_of_lt (rnd_abs (m := q) (n := v.num) (d := (v.den : Int)) (by omega)) h.1, one_lt_pw hn⟩
/-- What the document's Units answers. -/
def RuP (w : World) (v : Rat) (e : Ending) (w' : World) : Prop := ∃ er s' a' l' c' zs' b' m' d' ys' v', e = .returned (.tuple #[.agg #[.bool s', .slice a' l' c', .slice b' m' d'], .int .i64 er]) ∧ Rr w' s' a' l' c' zs' b' m' d' ys' v' ∧ Hid (RA v er v') ∧ Below w.heap.size w w'

set_option maxHeartbeats 4000000 in
theorem rmul9 (s1 : Bool) (a1 : Option Addr) (l1 c1 : Nat) (z1 : List Int) (b1 : Option Addr) (m1 d1 : Nat) (y1 : List Int) (u : Rat) (s2 : Bool) (a2 : Option Addr) (l2 c2 : Nat) (z2 : List Int) (b2 : Option Addr) (m2 d2 : Nat) (y2 : List Int) (v : Rat) (w : World) (h1 : Rr w s1 a1 l1 c1 z1 b1 m1 d1 y1 u) (h2 : Rr w s2 a2 l2 c2 z2 b2 m2 d2 y2 v) (t1 : Sz 4000 u) (t2 : Sz 4000 v) (t3 : ∀ n, n = 4000 → (u.num.natAbs : Int) * (v.num.natAbs : Int) < pw n ∧ (u.den : Int) * (v.den : Int) < pw n) :
  Calls Tryz.prog 29 #[.agg #[.bool s1, .slice a1 l1 c1, .slice b1 m1 d1], .agg #[.bool s2, .slice a2 l2 c2, .slice b2 m2 d2]] w fun e w' => RrP w (u * v) e w' := by
 obtain ⟨u1, u2⟩ := h1.len9 t1; obtain ⟨u3, u4⟩ := h2.len9 t2; have HL : Hid (l1 ≤ 4000 ∧ m1 ≤ 4000 ∧ l2 ≤ 4000 ∧ m2 ≤ 4000) := ⟨u1, u2, u3, u4⟩; have n1 := num_nonneg h1.1.2.1; have n2 := num_nonneg h2.1.2.1; have HV : Hid (iv s1 z1 = u.num ∧ iv s2 z2 = v.num ∧ num y1 = u.den ∧ num y2 = v.den) := ⟨h1.2.2.2.2.2.1, h2.2.2.2.2.2.1, h1.2.2.2.2.2.2.1, h2.2.2.2.2.2.2.1⟩
 have HF : Hid (∀ n, n = 4000 → num z1 * num z2 < pw n ∧ num y1 * num y2 < pw n ∧ num y1 * num y2 ≠ 0) := fun n e => by
  rw [natAbs_iv HV.out.1 n1, natAbs_iv HV.out.2.1 n2, HV.out.2.2.1, HV.out.2.2.2]; have p1 := u.den_pos; have p2 := v.den_pos; exact ⟨(t3 n e).1, (t3 n e).2, Int.mul_ne_zero (by omega) (by omega)⟩
 clear t1 t2 t3 u1 u2 u3 u4 n1 n2; have B0 : Below w.heap.size w w := Below.refl _ _
 go_enter Tryz.func29, Tryz.ntmps29
 (go_wp2_with fail); refine ent3 w _ _ _ _ _ _ (Q := fun W => Code.wp Tryz.prog _ _ _ W) ?_; intro x1 hb hs_x1 V0 V1 V2; replace h1 := Rr.after hb h1; replace h2 := Rr.after hb h2; replace B0 := step B0 hb; clear hb hs_x1; refine wp_region_noPanic ?_; replace V0 : Va x1.drew _ _ _ := V0; replace V1 : Va x1.drew _ _ _ := V1; replace V2 : Va x1.drew _ _ _ := V2; replace h1 := h1.drw; replace h2 := h2.drw; replace B0 := Below.drew B0; refine wp_region_held_drew (S := (fun W => W.cell? ⟨w.heap.size, 0, none⟩ = some (.bool s1) ∧ W.cell? ⟨w.heap.size, 1, none⟩ = some (.slice a1 l1 c1) ∧ W.cell? ⟨w.heap.size, 2, none⟩ = some (.slice b1 m1 d1) ∧ W.cell? ⟨w.heap.size + 1, 0, none⟩ = some (.bool s2) ∧ W.cell? ⟨w.heap.size + 1, 1, none⟩ = some (.slice a2 l2 c2) ∧ W.cell? ⟨w.heap.size + 1, 2, none⟩ = some (.slice b2 m2 d2))) (by kernel_rfl) ⟨V0.d0, V0.d1, V0.d2, V1.d0, V1.d1, V1.d2⟩ (fun hHeld => ?_); (obtain ⟨x2, hxd⟩ : ∃ xd, xd = x1.drew := ⟨_, rfl⟩)
 rw [← hxd] at V0 V1 V2 h1 h2 B0 hHeld ⊢; clear hxd; refine tk 0 rfl hHeld ?_; simp only [gA, gB, Act.put, gD, gE, gF]; refine tk 1 rfl hHeld ?_; simp only [gA, gB, gC, Act.put, gD, gE, gF]; refine tk 2 rfl hHeld ?_; simp only [gA, gB, gC, Act.put, gD, gE, gF]; refine tk 3 rfl hHeld ?_; simp only [gA, gB, gC, Act.put, gD, gE, gF]; refine tk 4 rfl hHeld ?_; simp only [gA, gB, gC, Act.put, gD, gE, gF]; refine tk 5 rfl hHeld ?_; simp only [gA, gB, gC, Act.put, gD, gE, gF]; refine tk 6 rfl hHeld ?_; simp only [gA, gB, gC, Act.put, gD, gE, gF]; refine tk 7 rfl hHeld ?_; simp only [gA, gB, gC, Act.put, gD, gE, gF]; refine tk 8 rfl hHeld ?_; simp only [gA, gB, gC, Act.put, gD, gE, gF]; refine tk 10 rfl hHeld ?_; simp only [gA, gB, gC, Act.put, gD, gE, gF]; refine tk 11 rfl hHeld ?_; simp only [gA, gB, gC, Act.put, gD, gE, gF]; refine tk 12 rfl hHeld ?_; simp only [gA, gB, gC, Act.put, gD, gE, gF]; refine tk 13 rfl hHeld ?_; simp only [gA, gB, gC, Act.put, gD, gE, gF]
 refine wpAnyH_ready (rs := [9]) (by kernel_rfl) (by simp) ?_; refine AllReadyH.cons rfl (fun K hK => ?_) AllReadyH.nil; simp only [gA, gB, gC]; (go_simp); refine (rmul_any a1 a2 l1 c1 l2 c2 z1 z2 _ h1.1 h2.1 (by have := HL.out; omega) (by have := HL.out; omega)).mono ?_; rintro e x3 ⟨a5, l5, c5, z5, rfl, k5, t5, h5, u5, e5, hb⟩; replace V0 := Va.after hb V0; replace V1 := Va.after hb V1; replace V2 := Va.after hb V2; replace h1 := Rr.after hb h1; replace h2 := Rr.after hb h2; replace B0 := step B0 hb; clear hb; (try go_wp2_with fail); refine hK.out _ _ ⟨V0.d0, V0.d1, V0.d2, V1.d0, V1.d1, V1.d2⟩ (fun hHeld => ?_); clear hK K; refine wpAnyH_ready (rs := [14]) (by kernel_rfl) (by simp) ?_; refine AllReadyH.cons rfl (fun K hK => ?_) AllReadyH.nil; simp only [gA, gB, gC]; (go_simp); refine (rmul_any b1 b2 m1 d1 m2 d2 y1 y2 _ h1.2.1 h2.2.1 (by have := HL.out; omega) (by have := HL.out; omega)).mono ?_; rintro e x4 ⟨a6, l6, c6, z6, rfl, k6, t6, h6, u6, e6, hb⟩
 replace V0 := Va.after hb V0; replace V1 := Va.after hb V1; replace V2 := Va.after hb V2; replace h1 := Rr.after hb h1; replace h2 := Rr.after hb h2; replace h5 := Sl.after hb h5; replace B0 := step B0 hb; clear hb; (try go_wp2_with fail); refine hK.out _ _ ⟨V0.d0, V0.d1, V0.d2, V1.d0, V1.d1, V1.d2⟩ (fun hHeld => ?_); clear hK K; refine wpAnyH_ready (rs := [15]) (by kernel_rfl) (by simp) ?_; refine AllReadyH.cons rfl (fun K hK => ?_) AllReadyH.nil; simp only [gA, gB, gC]; (go_simp); refine (rmake5 _ a5 a6 l5 c5 l6 c6 z5 z6 _ h5 h6 k5 k6 (by have := HL.out; omega) (by have := HL.out; omega) (used_of_lt h5.2.1 (by rw [e5]; exact Int.lt_of_lt_of_le (HF.out 4000 rfl).1 (pw_mono (by omega)))) (used_of_lt h6.2.1 (by rw [e6]; exact Int.lt_of_lt_of_le (HF.out 4000 rfl).2.1 (pw_mono (by omega)))) (by rw [e6]; exact (HF.out 4000 rfl).2.2)).mono ?_; rintro e x5 ⟨s7, a7, l7, c7, z7, b7, m7, d7, y7, rfl, h7, -, -, hb⟩; replace V0 := Va.after hb V0
 replace V1 := Va.after hb V1; replace V2 := Va.after hb V2; replace h1 := Rr.after hb h1; replace h2 := Rr.after hb h2; replace h5 := Sl.after hb h5; replace h6 := Sl.after hb h6; replace B0 := step B0 hb; clear hb; rw [mul_val9 HV.out.1 HV.out.2.1 e5 (by rw [e6, HV.out.2.2.1, HV.out.2.2.2])] at h7; (try go_wp2_with fail); refine hK.out _ _ ⟨V0.d0, V0.d1, V0.d2, V1.d0, V1.d1, V1.d2⟩ (fun hHeld => ?_); clear hK K; have c_V2 := V2.d0; have f0_V2 := V2.frozen 0; have d_V2 := V2.d1; have f1_V2 := V2.frozen 1; have e_V2 := V2.d2; have f2_V2 := V2.frozen 2; have l_V2 := V2.lt; have m_V2 := Nat.le_of_lt l_V2; refine wpAnyH_ready (rs := [16]) (by kernel_rfl) (by simp) ?_; refine AllReadyH.cons rfl (fun K hK => ?_) AllReadyH.nil; simp only [gA, gB, gC]; (go_simp); clear c_V2 f0_V2 d_V2 f1_V2 e_V2 f2_V2 l_V2 m_V2; refine sto3 V2 (.bool s7) (.slice a7 l7 c7) (.slice b7 m7 d7) (Q := fun W => K _ W) ?_; intro x6 V' oth far; replace V0 := oth _ _ _ (by first | omega | assumption | (simp; omega)) V0
 replace V1 := oth _ _ _ (by first | omega | assumption | (simp; omega)) V1; replace h1 := h1.far V2 (noInt3 _ _ _ _ _ _ _) far.1; replace h2 := h2.far V2 (noInt3 _ _ _ _ _ _ _) far.1; replace h5 := h5.far V2 (noInt3 _ _ _ _ _ _ _) far.1; replace h6 := h6.far V2 (noInt3 _ _ _ _ _ _ _) far.1; replace h7 := h7.far V2 (noInt3 _ _ _ _ _ _ _) far.1; replace B0 := far.2 _ _ (by first | omega | (simp; omega)) B0; replace V2 := V'; clear oth far; refine hK.out _ _ ⟨V0.d0, V0.d1, V0.d2, V1.d0, V1.d1, V1.d2⟩ (fun hHeld => ?_); clear hK K; refine wpAnyH_done (by kernel_rfl) ?_ _; refine NoPanic.normal ?_; clear hHeld; (go_wp2_with fail); refine bodyPost_ret (results_ra rfl rfl V2) rfl ?_; exact ⟨s7, a7, l7, c7, z7, b7, m7, d7, y7, rfl, h7, B0⟩

set_option maxHeartbeats 4000000 in
theorem rquo9 (s1 : Bool) (a1 : Option Addr) (l1 c1 : Nat) (z1 : List Int) (b1 : Option Addr) (m1 d1 : Nat) (y1 : List Int) (u : Rat) (s2 : Bool) (a2 : Option Addr) (l2 c2 : Nat) (z2 : List Int) (b2 : Option Addr) (m2 d2 : Nat) (y2 : List Int) (v : Rat) (w : World) (h1 : Rr w s1 a1 l1 c1 z1 b1 m1 d1 y1 u) (h2 : Rr w s2 a2 l2 c2 z2 b2 m2 d2 y2 v) (t1 : Short u) (t2 : Short v) (t3 : 0 < v.num) :
    Calls Tryz.prog 31 #[.agg #[.bool s1, .slice a1 l1 c1, .slice b1 m1 d1], .agg #[.bool s2, .slice a2 l2 c2, .slice b2 m2 d2]] w fun e w' => RrP w (qv u v) e w' := by
  obtain ⟨u1, u2⟩ := h1.len9 (short_sz t1); obtain ⟨u3, u4⟩ := h2.len9 (short_sz t2); have HL : Hid (l1 ≤ 4000 ∧ m1 ≤ 4000 ∧ l2 ≤ 4000 ∧ m2 ≤ 4000) := ⟨u1, u2, u3, u4⟩; have n1 := num_nonneg h1.1.2.1; have n2 := num_nonneg h2.1.2.1; have HV : Hid (iv s1 z1 = u.num ∧ iv s2 z2 = v.num ∧ num y1 = u.den ∧ num y2 = v.den) := ⟨h1.2.2.2.2.2.1, h2.2.2.2.2.2.1, h1.2.2.2.2.2.2.1, h2.2.2.2.2.2.2.1⟩
  have hs2 : s2 = false := by
    have h5 := HV.out.2.1
    cases s2
    · rfl
    · rw [iv_t] at h5; omega
  subst hs2; have e2 : num z2 = v.num := HV.out.2.1
  have HF : Hid (∀ n, n = 4000 → num z1 * num y2 < pw n ∧ num y1 * num z2 < pw n ∧ num y1 * num z2 ≠ 0) := fun n e => by
    subst e; rw [natAbs_iv HV.out.1 n1, e2, HV.out.2.2.1, HV.out.2.2.2]; have p1 := u.den_pos; have p2 := v.den_pos; refine ⟨rt_fits (by omega) (by omega) t1.1 t2.2 (by omega), rt_fits (by omega) (by omega) t1.2 (show v.num < pw 1024 by have := t2.1; omega) (by omega), Int.mul_ne_zero (by omega) (by omega)⟩
  have HZ : Hid (num z2 = v.num) := e2; clear t1 t2 t3 u1 u2 u3 u4 n1 n2 e2; have B0 : Below w.heap.size w w := Below.refl _ _
  go_enter Tryz.func31, Tryz.ntmps31
  (go_wp2_with fail); refine ent3 w _ _ _ _ _ _ (Q := fun W => Code.wp Tryz.prog _ _ _ W) ?_; intro x1 hb hs_x1 V0 V1 V2; replace h1 := Rr.after hb h1; replace h2 := Rr.after hb h2; replace B0 := step B0 hb; clear hb hs_x1; refine wp_region_noPanic ?_; replace V0 : Va x1.drew _ _ _ := V0; replace V1 : Va x1.drew _ _ _ := V1; replace V2 : Va x1.drew _ _ _ := V2; replace h1 := h1.drw; replace h2 := h2.drw; replace B0 := Below.drew B0; refine wp_region_held_drew (S := (fun W => W.cell? ⟨w.heap.size, 0, none⟩ = some (.bool s1) ∧ W.cell? ⟨w.heap.size, 1, none⟩ = some (.slice a1 l1 c1) ∧ W.cell? ⟨w.heap.size, 2, none⟩ = some (.slice b1 m1 d1) ∧ W.cell? ⟨w.heap.size + 1, 0, none⟩ = some (.bool false) ∧ W.cell? ⟨w.heap.size + 1, 1, none⟩ = some (.slice a2 l2 c2) ∧ W.cell? ⟨w.heap.size + 1, 2, none⟩ = some (.slice b2 m2 d2))) (by kernel_rfl) ⟨V0.d0, V0.d1, V0.d2, V1.d0, V1.d1, V1.d2⟩ (fun hHeld => ?_); (obtain ⟨x2, hxd⟩ : ∃ xd, xd = x1.drew := ⟨_, rfl⟩)
  rw [← hxd] at V0 V1 V2 h1 h2 B0 hHeld ⊢; clear hxd; refine tk 0 rfl hHeld ?_; simp only [gA, gB, Act.put, gD, gE, gF]; refine tk 1 rfl hHeld ?_; simp only [gA, gB, gC, Act.put, gD, gE, gF]; refine tk 2 rfl hHeld ?_; simp only [gA, gB, gC, Act.put, gD, gE, gF]; refine tk 3 rfl hHeld ?_; simp only [gA, gB, gC, Act.put, gD, gE, gF]; refine tk 4 rfl hHeld ?_; simp only [gA, gB, gC, Act.put, gD, gE, gF]; refine tk 5 rfl hHeld ?_; simp only [gA, gB, gC, Act.put, gD, gE, gF]; refine tk 6 rfl hHeld ?_; simp only [gA, gB, gC, Act.put, gD, gE, gF]; refine tk 7 rfl hHeld ?_; simp only [gA, gB, gC, Act.put, gD, gE, gF]; refine tk 8 rfl hHeld ?_; simp only [gA, gB, gC, Act.put, gD, gE, gF]; refine tk 10 rfl hHeld ?_; simp only [gA, gB, gC, Act.put, gD, gE, gF]; refine tk 11 rfl hHeld ?_; simp only [gA, gB, gC, Act.put, gD, gE, gF]; refine tk 12 rfl hHeld ?_; simp only [gA, gB, gC, Act.put, gD, gE, gF]; refine tk 13 rfl hHeld ?_; simp only [gA, gB, gC, Act.put, gD, gE, gF]
  refine wpAnyH_ready (rs := [9]) (by kernel_rfl) (by simp) ?_; refine AllReadyH.cons rfl (fun K hK => ?_) AllReadyH.nil; simp only [gA, gB, gC]; (go_simp); refine (rmul_any a1 b2 l1 c1 m2 d2 z1 y2 _ h1.1 h2.2.1 (by have := HL.out; omega) (by have := HL.out; omega)).mono ?_; rintro e x3 ⟨a5, l5, c5, z5, rfl, k5, t5, h5, u5, e5, hb⟩; replace V0 := Va.after hb V0; replace V1 := Va.after hb V1; replace V2 := Va.after hb V2; replace h1 := Rr.after hb h1; replace h2 := Rr.after hb h2; replace B0 := step B0 hb; clear hb; (try go_wp2_with fail); refine hK.out _ _ ⟨V0.d0, V0.d1, V0.d2, V1.d0, V1.d1, V1.d2⟩ (fun hHeld => ?_); clear hK K; refine wpAnyH_ready (rs := [14]) (by kernel_rfl) (by simp) ?_; refine AllReadyH.cons rfl (fun K hK => ?_) AllReadyH.nil; simp only [gA, gB, gC]; (go_simp); refine (rmul_any b1 a2 m1 d1 l2 c2 y1 z2 _ h1.2.1 h2.1 (by have := HL.out; omega) (by have := HL.out; omega)).mono ?_; rintro e x4 ⟨a6, l6, c6, z6, rfl, k6, t6, h6, u6, e6, hb⟩
  replace V0 := Va.after hb V0; replace V1 := Va.after hb V1; replace V2 := Va.after hb V2; replace h1 := Rr.after hb h1; replace h2 := Rr.after hb h2; replace h5 := Sl.after hb h5; replace B0 := step B0 hb; clear hb; (try go_wp2_with fail); refine hK.out _ _ ⟨V0.d0, V0.d1, V0.d2, V1.d0, V1.d1, V1.d2⟩ (fun hHeld => ?_); clear hK K; refine wpAnyH_ready (rs := [15]) (by kernel_rfl) (by simp) ?_; refine AllReadyH.cons rfl (fun K hK => ?_) AllReadyH.nil; simp only [gA, gB, gC]; (go_simp); refine (rmake5 _ a5 a6 l5 c5 l6 c6 z5 z6 _ h5 h6 k5 k6 (by have := HL.out; omega) (by have := HL.out; omega) (used_of_lt h5.2.1 (by rw [e5]; exact Int.lt_of_lt_of_le (HF.out 4000 rfl).1 (pw_mono (by omega)))) (used_of_lt h6.2.1 (by rw [e6]; exact Int.lt_of_lt_of_le (HF.out 4000 rfl).2.1 (pw_mono (by omega)))) (by rw [e6]; exact (HF.out 4000 rfl).2.2)).mono ?_; rintro e x5 ⟨s7, a7, l7, c7, z7, b7, m7, d7, y7, rfl, h7, -, -, hb⟩; replace V0 := Va.after hb V0
  replace V1 := Va.after hb V1; replace V2 := Va.after hb V2; replace h1 := Rr.after hb h1; replace h2 := Rr.after hb h2; replace h5 := Sl.after hb h5; replace h6 := Sl.after hb h6; replace B0 := step B0 hb; clear hb; rw [qv_val HV.out.1 HV.out.2.2.2 e5 (by rw [e6, HV.out.2.2.1, HZ.out])] at h7; (try go_wp2_with fail); refine hK.out _ _ ⟨V0.d0, V0.d1, V0.d2, V1.d0, V1.d1, V1.d2⟩ (fun hHeld => ?_); clear hK K; have c_V2 := V2.d0; have f0_V2 := V2.frozen 0; have d_V2 := V2.d1; have f1_V2 := V2.frozen 1; have e_V2 := V2.d2; have f2_V2 := V2.frozen 2; have l_V2 := V2.lt; have m_V2 := Nat.le_of_lt l_V2; refine wpAnyH_ready (rs := [16]) (by kernel_rfl) (by simp) ?_; refine AllReadyH.cons rfl (fun K hK => ?_) AllReadyH.nil; simp only [gA, gB, gC]; (go_simp); clear c_V2 f0_V2 d_V2 f1_V2 e_V2 f2_V2 l_V2 m_V2; refine sto3 V2 (.bool s7) (.slice a7 l7 c7) (.slice b7 m7 d7) (Q := fun W => K _ W) ?_; intro x6 V' oth far; replace V0 := oth _ _ _ (by first | omega | assumption | (simp; omega)) V0
  replace V1 := oth _ _ _ (by first | omega | assumption | (simp; omega)) V1; replace h1 := h1.far V2 (noInt3 _ _ _ _ _ _ _) far.1; replace h2 := h2.far V2 (noInt3 _ _ _ _ _ _ _) far.1; replace h5 := h5.far V2 (noInt3 _ _ _ _ _ _ _) far.1; replace h6 := h6.far V2 (noInt3 _ _ _ _ _ _ _) far.1; replace h7 := h7.far V2 (noInt3 _ _ _ _ _ _ _) far.1; replace B0 := far.2 _ _ (by first | omega | (simp; omega)) B0; replace V2 := V'; clear oth far; refine hK.out _ _ ⟨V0.d0, V0.d1, V0.d2, V1.d0, V1.d1, V1.d2⟩ (fun hHeld => ?_); clear hK K; refine wpAnyH_done (by kernel_rfl) ?_ _; refine NoPanic.normal ?_; clear hHeld; (go_wp2_with fail); refine bodyPost_ret (results_ra rfl rfl V2) rfl ?_; exact ⟨s7, a7, l7, c7, z7, b7, m7, d7, y7, rfl, h7, B0⟩

set_option maxHeartbeats 8000000 in
theorem runits_ok (q : Int) (q1 : 1 ≤ q) (q2 : q ≤ 5) (s1 : Bool) (a1 : Option Addr) (l1 c1 : Nat) (z1 : List Int) (b1 : Option Addr) (m1 d1 : Nat) (y1 : List Int) (v : Rat) (s2 : Bool) (a2 : Option Addr) (l2 c2 : Nat) (z2 : List Int) (b2 : Option Addr) (m2 d2 : Nat) (y2 : List Int) (t : Rat) (w : World) (h1 : Rr w s1 a1 l1 c1 z1 b1 m1 d1 y1 v) (h2 : Rr w s2 a2 l2 c2 z2 b2 m2 d2 y2 t) (t1 : Short v) (t2 : Short t) (t3 : 0 < t.num) :
  Calls Tryz.prog 7 #[.agg #[.bool s1, .slice a1 l1 c1, .slice b1 m1 d1], .agg #[.bool s2, .slice a2 l2 c2, .slice b2 m2 d2], .int .i64 q] w fun e w' => RuP w (uv q v t) e w' := by
 have HQ : Hid (1 ≤ q ∧ q ≤ 5 ∧ Short v ∧ Short t ∧ 0 < t.num) := ⟨q1, q2, t1, t2, t3⟩; (have g1 : decide (q < 1) = false := by simp; omega); (have g2 : decide (5 < q) = false := by simp; omega); (have g3 : ¬ (q < 1) := by omega); (have g4 : ¬ (5 < q) := by omega); clear q1 q2 t1 t2 t3; have B0 : Below w.heap.size w w := Below.refl _ _
 go_enter Tryz.func7, Tryz.ntmps7
 (go_wp2_with fail); refine ent3 w _ _ _ _ _ _ (Q := fun W => Calls Tryz.prog _ _ W _) ?_; intro x1 hb hs_x1 V0 V1 V2; replace h1 := Rr.after hb h1; replace h2 := Rr.after hb h2; replace B0 := step B0 hb; clear hb hs_x1; refine (rsign5 s2 a2 l2 c2 z2 b2 m2 d2 y2 t x1 h2).mono ?_; rintro e x2 ⟨rfl, hb⟩; replace V0 := Va.after hb V0; replace V1 := Va.after hb V1; replace V2 := Va.after hb V2; replace h1 := Rr.after hb h1; replace h2 := Rr.after hb h2; replace B0 := step B0 hb; clear hb; rw [Int.sign_eq_one_of_pos HQ.out.2.2.2.2]; (go_wp2_with fail); (have LS : Hid (∀ W, Below x2.heap.size x2 W → (fun W => W.cell? ⟨w.heap.size, 0, none⟩ = some (.bool s1) ∧ W.cell? ⟨w.heap.size, 1, none⟩ = some (.slice a1 l1 c1) ∧ W.cell? ⟨w.heap.size, 2, none⟩ = some (.slice b1 m1 d1) ∧ W.cell? ⟨w.heap.size + 1, 0, none⟩ = some (.bool s2) ∧ W.cell? ⟨w.heap.size + 1, 1, none⟩ = some (.slice a2 l2 c2) ∧ W.cell? ⟨w.heap.size + 1, 2, none⟩ = some (.slice b2 m2 d2)) W) := fun W hb => ⟨(Va.after hb V0).d0, (Va.after hb V0).d1, (Va.after hb V0).d2, (Va.after hb V1).d0, (Va.after hb V1).d1, (Va.after hb V1).d2⟩)
 have lb_V0 := V0.lt; have L_V0 : Hid (Va x2 (w.heap.size) 31 #[.bool s1, .slice a1 l1 c1, .slice b1 m1 d1]) := V0; have lb_V1 := V1.lt; have L_V1 : Hid (Va x2 (w.heap.size + 1) 31 #[.bool s2, .slice a2 l2 c2, .slice b2 m2 d2]) := V1; have lb_V2 := V2.lt; have L_V2 : Hid (Va x2 (w.heap.size + 1 + 1) 31 #[.bool false, .slice none 0 0, .slice none 0 0]) := V2; have L_h1 : Hid (Rr x2 s1 a1 l1 c1 z1 b1 m1 d1 y1 v) := h1; have L_h2 : Hid (Rr x2 s2 a2 l2 c2 z2 b2 m2 d2 y2 t) := h2; have L_B : Hid (Below w.heap.size w x2) := B0; clear V0 V1 V2 h1 h2 B0; have BX := Below.refl x2.heap.size x2
 go_cut [8] (fun s8 wx => ∃ (b8 : Nat) (s5 : Bool) (a5 : Option Addr) (l5 c5 : Nat) (z5 : List Int) (b5 : Option Addr) (m5 d5 : Nat) (y5 : List Int), s8 = .pointer (some ⟨b8, 0, none⟩) ∧ Hid (Va wx b8 31 #[.bool s5, .slice a5 l5 c5, .slice b5 m5 d5]) ∧ Hid (Rr wx s5 a5 l5 c5 z5 b5 m5 d5 y5 (uv q v t)) ∧ Hid (Below x2.heap.size x2 wx) ∧ Hid (w.heap.size + 3 ≤ b8))
 case first =>
  refine wp_region_noPanic ?_; replace BX := Below.drew BX; refine wp_region_held_drew (S := (fun W => W.cell? ⟨w.heap.size, 0, none⟩ = some (.bool s1) ∧ W.cell? ⟨w.heap.size, 1, none⟩ = some (.slice a1 l1 c1) ∧ W.cell? ⟨w.heap.size, 2, none⟩ = some (.slice b1 m1 d1) ∧ W.cell? ⟨w.heap.size + 1, 0, none⟩ = some (.bool s2) ∧ W.cell? ⟨w.heap.size + 1, 1, none⟩ = some (.slice a2 l2 c2) ∧ W.cell? ⟨w.heap.size + 1, 2, none⟩ = some (.slice b2 m2 d2))) (by kernel_rfl) (LS.out _ BX) (fun hHeld => ?_); (obtain ⟨x3, hxd⟩ : ∃ xd, xd = x2.drew := ⟨_, rfl⟩); rw [← hxd] at BX hHeld ⊢; clear hxd; refine tk 0 rfl hHeld ?_; simp only [gA, gB, Act.put, gD, gE, gF]; refine tk 1 rfl hHeld ?_; simp only [gA, gB, gC, Act.put, gD, gE, gF]; refine tk 2 rfl hHeld ?_; simp only [gA, gB, gC, Act.put, gD, gE, gF]; refine tk 4 rfl hHeld ?_; simp only [gA, gB, gC, Act.put, gD, gE, gF]; refine wpAnyH_ready (rs := [3, 7]) (by kernel_rfl) (by simp) ?_
  refine AllReadyH.cons rfl (fun K hK => ?_) (AllReadyH.cons rfl (fun K hK => ?_) AllReadyH.nil)
  ·
   simp only [gA, gB, gC]; (go_simp); refine (rquo9 s1 a1 l1 c1 z1 b1 m1 d1 y1 v s2 a2 l2 c2 z2 b2 m2 d2 y2 t _ (Rr.after BX L_h1.out) (Rr.after BX L_h2.out) HQ.out.2.2.1 HQ.out.2.2.2.1 HQ.out.2.2.2.2).mono ?_; rintro e x4 ⟨s3, a3, l3, c3, z3, b3, m3, d3, y3, rfl, h3, hb⟩; replace BX := step BX hb; clear hb; (try go_wp2_with fail); refine hK.out _ _ (LS.out _ BX) (fun hHeld => ?_); clear hK K; refine wpAnyH_ready (rs := [5, 7]) (by kernel_rfl) (by simp) ?_; refine AllReadyH.cons rfl (fun K hK => ?_) (AllReadyH.cons rfl (fun K hK => ?_) AllReadyH.nil)
   ·
    simp only [gA, gB, gC]; (go_simp); refine (rto9 q HQ.out.1 HQ.out.2.1 s3 a3 l3 c3 z3 b3 m3 d3 y3 (qv v t) _ h3 (qv_sz HQ.out.2.2.1 HQ.out.2.2.2.1 HQ.out.2.2.2.2)).mono ?_; rintro e x5 ⟨s4, a4, l4, c4, z4, b4, m4, d4, y4, rfl, h4, hb⟩; replace h3 := Rr.after hb h3; replace BX := step BX hb; clear hb; (try go_wp2_with fail); refine hK.out _ _ (LS.out _ BX) (fun hHeld => ?_); clear hK K; refine wpAnyH_ready (rs := [6, 7]) (by kernel_rfl) (by simp) ?_; refine AllReadyH.cons rfl (fun K hK => ?_) (AllReadyH.cons rfl (fun K hK => ?_) AllReadyH.nil)
    ·
     simp only [gA, gB, gC]; (go_simp); refine (rmul9 s2 a2 l2 c2 z2 b2 m2 d2 y2 t s4 a4 l4 c4 z4 b4 m4 d4 y4 ((rnd q (qv v t).num (qv v t).den : Int) : Rat) _ (Rr.after BX L_h2.out) h4 (short_sz HQ.out.2.2.2.1) ((rnd_sz (by omega) (qv_sz HQ.out.2.2.1 HQ.out.2.2.2.1 HQ.out.2.2.2.2)).mono (by omega)) (prod_fits HQ.out.2.2.1 HQ.out.2.2.2.1 HQ.out.2.2.2.2)).mono ?_; rintro e x6 ⟨s5, a5, l5, c5, z5, b5, m5, d5, y5, rfl, h5, hb⟩; replace h3 := Rr.after hb h3; replace h4 := Rr.after hb h4; replace BX := step BX hb; clear hb; rw [uv_qv HQ.out.2.2.2.2] at h5; (try go_wp2_with fail); refine hK.out _ _ (LS.out _ BX) (fun hHeld => ?_); clear hK K; refine wpAnyH_ready (rs := [7]) (by kernel_rfl) (by simp) ?_; refine AllReadyH.cons rfl (fun K hK => ?_) AllReadyH.nil
     ·
      simp only [gA, gB, gC]; (go_simp); have sz_Vo := BX.size; refine ent1 _ _ _ (Q := fun V => K _ V) ?_; intro x7 hb hs_ Vo; replace h3 := Rr.after hb h3; replace h4 := Rr.after hb h4; replace h5 := Rr.after hb h5; replace BX := step BX hb; clear hb hs_; refine hK.out _ _ (LS.out _ BX) (fun hHeld => ?_); clear hK K; have c_Vo := Vo.d0; have f0_Vo := Vo.frozen 0; have d_Vo := Vo.d1; have f1_Vo := Vo.frozen 1; have e_Vo := Vo.d2; have f2_Vo := Vo.frozen 2; have l_Vo := Vo.lt; have m_Vo := Nat.le_of_lt l_Vo; refine wpAnyH_ready (rs := [8]) (by kernel_rfl) (by simp) ?_; refine AllReadyH.cons rfl (fun K hK => ?_) AllReadyH.nil; simp only [gA, gB, gC]; (go_simp); clear c_Vo f0_Vo d_Vo f1_Vo e_Vo f2_Vo l_Vo m_Vo; refine sto3 Vo (.bool s5) (.slice a5 l5 c5) (.slice b5 m5 d5) (Q := fun W => K _ W) ?_; intro x8 V' oth far; replace h3 := h3.far Vo (noInt3 _ _ _ _ _ _ _) far.1; replace h4 := h4.far Vo (noInt3 _ _ _ _ _ _ _) far.1; replace h5 := h5.far Vo (noInt3 _ _ _ _ _ _ _) far.1
      replace BX := far.2 _ _ (by first | omega | (simp; omega)) BX; replace Vo := V'; clear oth far; refine hK.out _ _ (LS.out _ BX) (fun hHeld => ?_); clear hK K; refine wpAnyH_done (by kernel_rfl) ?_ _; refine NoPanic.normal ?_; clear hHeld; (go_wp2_with fail)
      go_meet
      exact ⟨_, s5, a5, l5, c5, z5, b5, m5, d5, y5, rfl, Vo, h5, BX, by show _ ≤ _; omega⟩
    ·
     simp only [gA, gB, gC]; (go_simp); have sz_Vo := BX.size; refine ent1 _ _ _ (Q := fun V => K _ V) ?_; intro x6 hb hs_ Vo; replace h3 := Rr.after hb h3; replace h4 := Rr.after hb h4; replace BX := step BX hb; clear hb hs_; refine hK.out _ _ (LS.out _ BX) (fun hHeld => ?_); clear hK K; refine wpAnyH_ready (rs := [6]) (by kernel_rfl) (by simp) ?_; refine AllReadyH.cons rfl (fun K hK => ?_) AllReadyH.nil
     ·
      simp only [gA, gB, gC]; (go_simp); refine (rmul9 s2 a2 l2 c2 z2 b2 m2 d2 y2 t s4 a4 l4 c4 z4 b4 m4 d4 y4 ((rnd q (qv v t).num (qv v t).den : Int) : Rat) _ (Rr.after BX L_h2.out) h4 (short_sz HQ.out.2.2.2.1) ((rnd_sz (by omega) (qv_sz HQ.out.2.2.1 HQ.out.2.2.2.1 HQ.out.2.2.2.2)).mono (by omega)) (prod_fits HQ.out.2.2.1 HQ.out.2.2.2.1 HQ.out.2.2.2.2)).mono ?_; rintro e x7 ⟨s5, a5, l5, c5, z5, b5, m5, d5, y5, rfl, h5, hb⟩; replace Vo := Va.after hb Vo; replace h3 := Rr.after hb h3; replace h4 := Rr.after hb h4; replace BX := step BX hb; clear hb; rw [uv_qv HQ.out.2.2.2.2] at h5; (try go_wp2_with fail); refine hK.out _ _ (LS.out _ BX) (fun hHeld => ?_); clear hK K; have c_Vo := Vo.d0; have f0_Vo := Vo.frozen 0; have d_Vo := Vo.d1; have f1_Vo := Vo.frozen 1; have e_Vo := Vo.d2; have f2_Vo := Vo.frozen 2; have l_Vo := Vo.lt; have m_Vo := Nat.le_of_lt l_Vo; refine wpAnyH_ready (rs := [8]) (by kernel_rfl) (by simp) ?_; refine AllReadyH.cons rfl (fun K hK => ?_) AllReadyH.nil
      simp only [gA, gB, gC]; (go_simp); clear c_Vo f0_Vo d_Vo f1_Vo e_Vo f2_Vo l_Vo m_Vo; refine sto3 Vo (.bool s5) (.slice a5 l5 c5) (.slice b5 m5 d5) (Q := fun W => K _ W) ?_; intro x8 V' oth far; replace h3 := h3.far Vo (noInt3 _ _ _ _ _ _ _) far.1; replace h4 := h4.far Vo (noInt3 _ _ _ _ _ _ _) far.1; replace h5 := h5.far Vo (noInt3 _ _ _ _ _ _ _) far.1; replace BX := far.2 _ _ (by first | omega | (simp; omega)) BX; replace Vo := V'; clear oth far; refine hK.out _ _ (LS.out _ BX) (fun hHeld => ?_); clear hK K; refine wpAnyH_done (by kernel_rfl) ?_ _; refine NoPanic.normal ?_; clear hHeld; (go_wp2_with fail)
      go_meet
      exact ⟨_, s5, a5, l5, c5, z5, b5, m5, d5, y5, rfl, Vo, h5, BX, by show _ ≤ _; omega⟩
   ·
    simp only [gA, gB, gC]; (go_simp); have sz_Vo := BX.size; refine ent1 _ _ _ (Q := fun V => K _ V) ?_; intro x5 hb hs_ Vo; replace h3 := Rr.after hb h3; replace BX := step BX hb; clear hb hs_; refine hK.out _ _ (LS.out _ BX) (fun hHeld => ?_); clear hK K; refine wpAnyH_ready (rs := [5]) (by kernel_rfl) (by simp) ?_; refine AllReadyH.cons rfl (fun K hK => ?_) AllReadyH.nil
    ·
     simp only [gA, gB, gC]; (go_simp); refine (rto9 q HQ.out.1 HQ.out.2.1 s3 a3 l3 c3 z3 b3 m3 d3 y3 (qv v t) _ h3 (qv_sz HQ.out.2.2.1 HQ.out.2.2.2.1 HQ.out.2.2.2.2)).mono ?_; rintro e x6 ⟨s4, a4, l4, c4, z4, b4, m4, d4, y4, rfl, h4, hb⟩; replace Vo := Va.after hb Vo; replace h3 := Rr.after hb h3; replace BX := step BX hb; clear hb; (try go_wp2_with fail); refine hK.out _ _ (LS.out _ BX) (fun hHeld => ?_); clear hK K; refine wpAnyH_ready (rs := [6]) (by kernel_rfl) (by simp) ?_; refine AllReadyH.cons rfl (fun K hK => ?_) AllReadyH.nil
     ·
      simp only [gA, gB, gC]; (go_simp); refine (rmul9 s2 a2 l2 c2 z2 b2 m2 d2 y2 t s4 a4 l4 c4 z4 b4 m4 d4 y4 ((rnd q (qv v t).num (qv v t).den : Int) : Rat) _ (Rr.after BX L_h2.out) h4 (short_sz HQ.out.2.2.2.1) ((rnd_sz (by omega) (qv_sz HQ.out.2.2.1 HQ.out.2.2.2.1 HQ.out.2.2.2.2)).mono (by omega)) (prod_fits HQ.out.2.2.1 HQ.out.2.2.2.1 HQ.out.2.2.2.2)).mono ?_; rintro e x7 ⟨s5, a5, l5, c5, z5, b5, m5, d5, y5, rfl, h5, hb⟩; replace Vo := Va.after hb Vo; replace h3 := Rr.after hb h3; replace h4 := Rr.after hb h4; replace BX := step BX hb; clear hb; rw [uv_qv HQ.out.2.2.2.2] at h5; (try go_wp2_with fail); refine hK.out _ _ (LS.out _ BX) (fun hHeld => ?_); clear hK K; have c_Vo := Vo.d0; have f0_Vo := Vo.frozen 0; have d_Vo := Vo.d1; have f1_Vo := Vo.frozen 1; have e_Vo := Vo.d2; have f2_Vo := Vo.frozen 2; have l_Vo := Vo.lt; have m_Vo := Nat.le_of_lt l_Vo; refine wpAnyH_ready (rs := [8]) (by kernel_rfl) (by simp) ?_; refine AllReadyH.cons rfl (fun K hK => ?_) AllReadyH.nil
      simp only [gA, gB, gC]; (go_simp); clear c_Vo f0_Vo d_Vo f1_Vo e_Vo f2_Vo l_Vo m_Vo; refine sto3 Vo (.bool s5) (.slice a5 l5 c5) (.slice b5 m5 d5) (Q := fun W => K _ W) ?_; intro x8 V' oth far; replace h3 := h3.far Vo (noInt3 _ _ _ _ _ _ _) far.1; replace h4 := h4.far Vo (noInt3 _ _ _ _ _ _ _) far.1; replace h5 := h5.far Vo (noInt3 _ _ _ _ _ _ _) far.1; replace BX := far.2 _ _ (by first | omega | (simp; omega)) BX; replace Vo := V'; clear oth far; refine hK.out _ _ (LS.out _ BX) (fun hHeld => ?_); clear hK K; refine wpAnyH_done (by kernel_rfl) ?_ _; refine NoPanic.normal ?_; clear hHeld; (go_wp2_with fail)
      go_meet
      exact ⟨_, s5, a5, l5, c5, z5, b5, m5, d5, y5, rfl, Vo, h5, BX, by show _ ≤ _; omega⟩
  ·
   simp only [gA, gB, gC]; (go_simp); have sz_Vo := BX.size; refine ent1 _ _ _ (Q := fun V => K _ V) ?_; intro x4 hb hs_ Vo; replace BX := step BX hb; clear hb hs_; refine hK.out _ _ (LS.out _ BX) (fun hHeld => ?_); clear hK K; refine wpAnyH_ready (rs := [3]) (by kernel_rfl) (by simp) ?_; refine AllReadyH.cons rfl (fun K hK => ?_) AllReadyH.nil
   ·
    simp only [gA, gB, gC]; (go_simp); refine (rquo9 s1 a1 l1 c1 z1 b1 m1 d1 y1 v s2 a2 l2 c2 z2 b2 m2 d2 y2 t _ (Rr.after BX L_h1.out) (Rr.after BX L_h2.out) HQ.out.2.2.1 HQ.out.2.2.2.1 HQ.out.2.2.2.2).mono ?_; rintro e x5 ⟨s3, a3, l3, c3, z3, b3, m3, d3, y3, rfl, h3, hb⟩; replace Vo := Va.after hb Vo; replace BX := step BX hb; clear hb; (try go_wp2_with fail); refine hK.out _ _ (LS.out _ BX) (fun hHeld => ?_); clear hK K; refine wpAnyH_ready (rs := [5]) (by kernel_rfl) (by simp) ?_; refine AllReadyH.cons rfl (fun K hK => ?_) AllReadyH.nil
    ·
     simp only [gA, gB, gC]; (go_simp); refine (rto9 q HQ.out.1 HQ.out.2.1 s3 a3 l3 c3 z3 b3 m3 d3 y3 (qv v t) _ h3 (qv_sz HQ.out.2.2.1 HQ.out.2.2.2.1 HQ.out.2.2.2.2)).mono ?_; rintro e x6 ⟨s4, a4, l4, c4, z4, b4, m4, d4, y4, rfl, h4, hb⟩; replace Vo := Va.after hb Vo; replace h3 := Rr.after hb h3; replace BX := step BX hb; clear hb; (try go_wp2_with fail); refine hK.out _ _ (LS.out _ BX) (fun hHeld => ?_); clear hK K; refine wpAnyH_ready (rs := [6]) (by kernel_rfl) (by simp) ?_; refine AllReadyH.cons rfl (fun K hK => ?_) AllReadyH.nil
     ·
      simp only [gA, gB, gC]; (go_simp); refine (rmul9 s2 a2 l2 c2 z2 b2 m2 d2 y2 t s4 a4 l4 c4 z4 b4 m4 d4 y4 ((rnd q (qv v t).num (qv v t).den : Int) : Rat) _ (Rr.after BX L_h2.out) h4 (short_sz HQ.out.2.2.2.1) ((rnd_sz (by omega) (qv_sz HQ.out.2.2.1 HQ.out.2.2.2.1 HQ.out.2.2.2.2)).mono (by omega)) (prod_fits HQ.out.2.2.1 HQ.out.2.2.2.1 HQ.out.2.2.2.2)).mono ?_; rintro e x7 ⟨s5, a5, l5, c5, z5, b5, m5, d5, y5, rfl, h5, hb⟩; replace Vo := Va.after hb Vo; replace h3 := Rr.after hb h3; replace h4 := Rr.after hb h4; replace BX := step BX hb; clear hb; rw [uv_qv HQ.out.2.2.2.2] at h5; (try go_wp2_with fail); refine hK.out _ _ (LS.out _ BX) (fun hHeld => ?_); clear hK K; have c_Vo := Vo.d0; have f0_Vo := Vo.frozen 0; have d_Vo := Vo.d1; have f1_Vo := Vo.frozen 1; have e_Vo := Vo.d2; have f2_Vo := Vo.frozen 2; have l_Vo := Vo.lt; have m_Vo := Nat.le_of_lt l_Vo; refine wpAnyH_ready (rs := [8]) (by kernel_rfl) (by simp) ?_; refine AllReadyH.cons rfl (fun K hK => ?_) AllReadyH.nil
      simp only [gA, gB, gC]; (go_simp); clear c_Vo f0_Vo d_Vo f1_Vo e_Vo f2_Vo l_Vo m_Vo; refine sto3 Vo (.bool s5) (.slice a5 l5 c5) (.slice b5 m5 d5) (Q := fun W => K _ W) ?_; intro x8 V' oth far; replace h3 := h3.far Vo (noInt3 _ _ _ _ _ _ _) far.1; replace h4 := h4.far Vo (noInt3 _ _ _ _ _ _ _) far.1; replace h5 := h5.far Vo (noInt3 _ _ _ _ _ _ _) far.1; replace BX := far.2 _ _ (by first | omega | (simp; omega)) BX; replace Vo := V'; clear oth far; refine hK.out _ _ (LS.out _ BX) (fun hHeld => ?_); clear hK K; refine wpAnyH_done (by kernel_rfl) ?_ _; refine NoPanic.normal ?_; clear hHeld; (go_wp2_with fail)
      go_meet
      exact ⟨_, s5, a5, l5, c5, z5, b5, m5, d5, y5, rfl, Vo, h5, BX, by show _ ≤ _; omega⟩
 case rest =>
  clear BX; obtain ⟨b8, s5, a5, l5, c5, z5, b5, m5, d5, y5, rfl, Vo', h5', BX', hineq'⟩ := hcut; have Vo := Vo'.out; have h5 := h5'.out; have BX := BX'.out; have hineq := hineq'.out; clear Vo' h5' BX' hineq'; have iq0 := hineq; clear hineq; have V2 := Va.after BX L_V2.out; have B0 := step L_B.out BX; have HLG := h5.long
  by_cases hs : Short (uv q v t)
  ·
   have HB : Hid (false = decide (1024 < max (l5 : Int) (m5 : Int))) := by
    show false = decide _
    symm; rw [decide_eq_false_iff_not]
    have h9 : max (l5 : Int) (m5 : Int) ≤ 1024 := HLG.2 hs
    omega
   have HS : Hid (Short (uv q v t)) := hs; clear hs HLG; have c_Vo := Vo.d0; have f0_Vo := Vo.frozen 0; have d_Vo := Vo.d1; have f1_Vo := Vo.frozen 1; have e_Vo := Vo.d2; have f2_Vo := Vo.frozen 2; have l_Vo := Vo.lt; have m_Vo := Nat.le_of_lt l_Vo; (go_wp2_with fail); refine (toolong5 s5 a5 l5 c5 b5 m5 d5 wc false HB.out).mono ?_; rintro e x3 ⟨rfl, hb⟩; replace V2 := Va.after hb V2; replace Vo := Va.after hb Vo; replace h5 := Rr.after hb h5; replace B0 := step B0 hb; clear hb; clear c_Vo f0_Vo d_Vo f1_Vo e_Vo f2_Vo l_Vo m_Vo; have c_Vo := Vo.d0; have f0_Vo := Vo.frozen 0; have d_Vo := Vo.d1; have f1_Vo := Vo.frozen 1; have e_Vo := Vo.d2; have f2_Vo := Vo.frozen 2; have l_Vo := Vo.lt; have m_Vo := Nat.le_of_lt l_Vo; have c_V2 := V2.d0; have f0_V2 := V2.frozen 0; have d_V2 := V2.d1; have f1_V2 := V2.frozen 1; have e_V2 := V2.d2; have f2_V2 := V2.frozen 2; have l_V2 := V2.lt; have m_V2 := Nat.le_of_lt l_V2; (go_wp2_with fail); refine bodyPost_ret (results_rat1 rfl rfl (V2.set3 _ _ _)) rfl ?_
   exact ⟨0, s5, a5, l5, c5, z5, b5, m5, d5, y5, uv q v t, rfl, h5.far V2 (noInt3 _ _ _ _ _ _ _) (fa3 _ _ _ _ _), Or.inl ⟨HS.out, rfl, rfl⟩, belo3 B0 (by omega) _ _ _⟩
  ·
   have HB : Hid (true = decide (1024 < max (l5 : Int) (m5 : Int))) := by
    show true = decide _
    symm; rw [decide_eq_true_iff]
    (have h9 : ¬ (max (l5 : Int) (m5 : Int) ≤ 1024) := fun h => hs (HLG.1 h))
    omega
   have HS : Hid (¬ Short (uv q v t)) := hs; clear hs HLG; have c_Vo := Vo.d0; have f0_Vo := Vo.frozen 0; have d_Vo := Vo.d1; have f1_Vo := Vo.frozen 1; have e_Vo := Vo.d2; have f2_Vo := Vo.frozen 2; have l_Vo := Vo.lt; have m_Vo := Nat.le_of_lt l_Vo; (go_wp2_with fail); refine (toolong5 s5 a5 l5 c5 b5 m5 d5 wc true HB.out).mono ?_; rintro e x3 ⟨rfl, hb⟩; replace V2 := Va.after hb V2; replace Vo := Va.after hb Vo; replace h5 := Rr.after hb h5; replace B0 := step B0 hb; clear hb; clear c_Vo f0_Vo d_Vo f1_Vo e_Vo f2_Vo l_Vo m_Vo; (go_wp2_with fail); refine (rint5 0 (by omega) (by omega) x3).mono ?_; rintro e x4 ⟨s6, a6, l6, c6, z6, b6, m6, d6, y6, rfl, h6, -, -, hb⟩; replace V2 := Va.after hb V2; replace Vo := Va.after hb Vo; replace h5 := Rr.after hb h5; replace B0 := step B0 hb; clear hb; rw [show Rat.divInt 0 1 = 0 from by decide +kernel] at h6; have c_V2 := V2.d0; have f0_V2 := V2.frozen 0; have d_V2 := V2.d1; have f1_V2 := V2.frozen 1; have e_V2 := V2.d2
   have f2_V2 := V2.frozen 2; have l_V2 := V2.lt; have m_V2 := Nat.le_of_lt l_V2; (go_wp2_with fail); refine bodyPost_ret (results_rat1 rfl rfl (V2.set3 _ _ _)) rfl ?_; exact ⟨3, s6, a6, l6, c6, z6, b6, m6, d6, y6, 0, rfl, h6.far V2 (noInt3 _ _ _ _ _ _ _) (fa3 _ _ _ _ _), Or.inr ⟨HS.out, rfl, rfl⟩, belo3 B0 (by omega) _ _ _⟩

set_option maxHeartbeats 4000000 in
theorem runits_bad (q : Int) (s1 : Bool) (a1 : Option Addr) (l1 c1 : Nat) (b1 : Option Addr) (m1 d1 : Nat) (s2 : Bool) (a2 : Option Addr) (l2 c2 : Nat) (z2 : List Int) (b2 : Option Addr) (m2 d2 : Nat) (y2 : List Int) (t : Rat) (w : World) (h2 : Rr w s2 a2 l2 c2 z2 b2 m2 d2 y2 t) (hb : q < 1 ∨ 5 < q ∨ t.num ≤ 0) :
    Calls Tryz.prog 7 #[.agg #[.bool s1, .slice a1 l1 c1, .slice b1 m1 d1], .agg #[.bool s2, .slice a2 l2 c2, .slice b2 m2 d2], .int .i64 q] w fun e w' => ∃ s' a' l' c' zs' b' m' d' ys', e = .returned (.tuple #[.agg #[.bool s', .slice a' l' c', .slice b' m' d'], .int .i64 2]) ∧ Rr w' s' a' l' c' zs' b' m' d' ys' 0 ∧ Below w.heap.size w w' := by
  by_cases q1 : q < 1
  ·
    have g1 : decide (q < 1) = true := by simpa using q1
    clear hb
    have B0 : Below w.heap.size w w := Below.refl _ _
    go_enter Tryz.func7, Tryz.ntmps7
    go_wp2_with fail
    refine ent3 w _ _ _ _ _ _ (Q := fun W => Calls Tryz.prog _ _ W _) ?_
    intro x1 hb hs_x1 V0 V1 V2
    replace h2 := Rr.after hb h2
    replace B0 := step B0 hb
    clear hb hs_x1
    refine (rint5 0 (by omega) (by omega) x1).mono ?_
    rintro e x2 ⟨s6, a6, l6, c6, z6, b6, m6, d6, y6, rfl, h6, -, -, hb⟩
    replace V0 := Va.after hb V0
    replace V1 := Va.after hb V1
    replace V2 := Va.after hb V2
    replace h2 := Rr.after hb h2
    replace B0 := step B0 hb
    clear hb
    rw [show Rat.divInt 0 1 = 0 from by decide +kernel] at h6
    have c_V2 := V2.d0
    have f0_V2 := V2.frozen 0
    have d_V2 := V2.d1
    have f1_V2 := V2.frozen 1
    have e_V2 := V2.d2
    have f2_V2 := V2.frozen 2
    have l_V2 := V2.lt
    have m_V2 := Nat.le_of_lt l_V2
    go_wp2_with fail
    refine bodyPost_ret (results_rat1 rfl rfl (V2.set3 _ _ _)) rfl ?_
    exact ⟨s6, a6, l6, c6, z6, b6, m6, d6, y6, rfl, h6.far V2 (noInt3 _ _ _ _ _ _ _) (fa3 _ _ _ _ _), belo3 B0 (by omega) _ _ _⟩
  · by_cases q2 : 5 < q
    ·
      have g1 : decide (q < 1) = false := by simpa using q1
      have g2 : decide (5 < q) = true := by simpa using q2
      clear hb
      have B0 : Below w.heap.size w w := Below.refl _ _
      go_enter Tryz.func7, Tryz.ntmps7
      go_wp2_with fail
      refine ent3 w _ _ _ _ _ _ (Q := fun W => Calls Tryz.prog _ _ W _) ?_
      intro x1 hb hs_x1 V0 V1 V2
      replace h2 := Rr.after hb h2
      replace B0 := step B0 hb
      clear hb hs_x1
      refine (rint5 0 (by omega) (by omega) x1).mono ?_
      rintro e x2 ⟨s6, a6, l6, c6, z6, b6, m6, d6, y6, rfl, h6, -, -, hb⟩
      replace V0 := Va.after hb V0
      replace V1 := Va.after hb V1
      replace V2 := Va.after hb V2
      replace h2 := Rr.after hb h2
      replace B0 := step B0 hb
      clear hb
      rw [show Rat.divInt 0 1 = 0 from by decide +kernel] at h6
      have c_V2 := V2.d0
      have f0_V2 := V2.frozen 0
      have d_V2 := V2.d1
      have f1_V2 := V2.frozen 1
      have e_V2 := V2.d2
      have f2_V2 := V2.frozen 2
      have l_V2 := V2.lt
      have m_V2 := Nat.le_of_lt l_V2
      go_wp2_with fail
      refine bodyPost_ret (results_rat1 rfl rfl (V2.set3 _ _ _)) rfl ?_
      exact ⟨s6, a6, l6, c6, z6, b6, m6, d6, y6, rfl, h6.far V2 (noInt3 _ _ _ _ _ _ _) (fa3 _ _ _ _ _), belo3 B0 (by omega) _ _ _⟩
    ·
      have g1 : decide (q < 1) = false := by simpa using q1
      have g2 : decide (5 < q) = false := by simpa using q2
      obtain ⟨sg, hsg⟩ : ∃ sg, Int.sign t.num = sg := ⟨_, rfl⟩
      have HSG : Hid (Int.sign t.num = sg) := hsg
      have g3 : sg ≤ 0 := by
        have h5 : t.num ≤ 0 := by omega
        rw [← hsg]
        rcases Int.lt_or_eq_of_le h5 with h6 | h6
        · rw [Int.sign_eq_neg_one_of_neg h6]; omega
        · rw [h6]; decide
      have g4 : decide (sg ≤ 0) = true := by simpa using g3
      clear hb hsg
      have B0 : Below w.heap.size w w := Below.refl _ _
      go_enter Tryz.func7, Tryz.ntmps7
      go_wp2_with fail
      refine ent3 w _ _ _ _ _ _ (Q := fun W => Calls Tryz.prog _ _ W _) ?_
      intro x1 hb hs_x1 V0 V1 V2
      replace h2 := Rr.after hb h2
      replace B0 := step B0 hb
      clear hb hs_x1
      refine (rsign5 s2 a2 l2 c2 z2 b2 m2 d2 y2 t x1 h2).mono ?_
      rintro e x2 ⟨rfl, hb⟩
      replace V0 := Va.after hb V0
      replace V1 := Va.after hb V1
      replace V2 := Va.after hb V2
      replace h2 := Rr.after hb h2
      replace B0 := step B0 hb
      clear hb
      rw [HSG.out]
      go_wp2_with fail
      refine (rint5 0 (by omega) (by omega) x2).mono ?_
      rintro e x3 ⟨s6, a6, l6, c6, z6, b6, m6, d6, y6, rfl, h6, -, -, hb⟩
      replace V0 := Va.after hb V0
      replace V1 := Va.after hb V1
      replace V2 := Va.after hb V2
      replace h2 := Rr.after hb h2
      replace B0 := step B0 hb
      clear hb
      rw [show Rat.divInt 0 1 = 0 from by decide +kernel] at h6
      have c_V2 := V2.d0
      have f0_V2 := V2.frozen 0
      have d_V2 := V2.d1
      have f1_V2 := V2.frozen 1
      have e_V2 := V2.d2
      have f2_V2 := V2.frozen 2
      have l_V2 := V2.lt
      have m_V2 := Nat.le_of_lt l_V2
      go_wp2_with fail
      refine bodyPost_ret (results_rat1 rfl rfl (V2.set3 _ _ _)) rfl ?_
      exact ⟨s6, a6, l6, c6, z6, b6, m6, d6, y6, rfl, h6.far V2 (noInt3 _ _ _ _ _ _ _) (fa3 _ _ _ _ _), belo3 B0 (by omega) _ _ _⟩

set_option maxHeartbeats 4000000 in
theorem units_bad (q : Int) (s1 : Bool) (a1 : Option Addr) (l1 c1 : Nat) (b1 : Option Addr) (m1 d1 : Nat) (s2 : Bool) (a2 : Option Addr) (l2 c2 : Nat) (z2 : List Int) (b2 : Option Addr) (m2 d2 : Nat) (y2 : List Int) (t : Rat) (w : World) (h2 : Rt w s2 a2 l2 c2 z2 b2 m2 d2 y2 t) (hb : q < 1 ∨ 5 < q ∨ t.num ≤ 0) :
    Calls Tryz.prog 6 #[.agg #[.bool s1, .slice a1 l1 c1, .slice b1 m1 d1], .agg #[.bool s2, .slice a2 l2 c2, .slice b2 m2 d2], .int .i64 q] w fun e w' => e = .returned (.tuple #[.agg #[.bool false, .slice none 0 0, .slice none 0 0], .int .i64 2]) ∧ Below w.heap.size w w' := by
  by_cases q1 : q < 1 ∨ 5 < q
  ·
    have HM : Hid (q < 1 ∨ 5 < q) := q1
    clear q1 hb
    have B0 : Below w.heap.size w w := Below.refl _ _
    go_enter Tryz.func6, Tryz.ntmps6
    go_wp2_with fail
    refine ent3 w _ _ _ _ _ _ (Q := fun W => Calls Tryz.prog _ _ W _) ?_
    intro x1 hb hs_x1 V0 V1 V2
    replace h2 := Rt.after hb h2
    replace B0 := step B0 hb
    clear hb hs_x1
    refine (wayOf_no q HM.out x1).mono ?_
    rintro e x2 ⟨rfl, hb⟩
    replace V0 := Va.after hb V0
    replace V1 := Va.after hb V1
    replace V2 := Va.after hb V2
    replace h2 := Rt.after hb h2
    replace B0 := step B0 hb
    clear hb
    have c_V2 := V2.d0
    have f0_V2 := V2.frozen 0
    have d_V2 := V2.d1
    have f1_V2 := V2.frozen 1
    have e_V2 := V2.d2
    have f2_V2 := V2.frozen 2
    have l_V2 := V2.lt
    have m_V2 := Nat.le_of_lt l_V2
    have p0_V2 := (V2.old (.cells #[.int .i64 0, .string ⟨#[]⟩, .nilFunc] 54)).d0
    have q0_V2 := (V2.old (.cells #[.int .i64 0, .string ⟨#[]⟩, .nilFunc] 54)).frozen 0
    have p1_V2 := (V2.old (.cells #[.int .i64 0, .string ⟨#[]⟩, .nilFunc] 54)).d1
    have q1_V2 := (V2.old (.cells #[.int .i64 0, .string ⟨#[]⟩, .nilFunc] 54)).frozen 1
    have p2_V2 := (V2.old (.cells #[.int .i64 0, .string ⟨#[]⟩, .nilFunc] 54)).d2
    have q2_V2 := (V2.old (.cells #[.int .i64 0, .string ⟨#[]⟩, .nilFunc] 54)).frozen 2
    go_wp2_with fail
    refine bodyPost_ret (results_rt rfl rfl ((V2.set3 _ _ _).old _)) rfl ?_
    exact ⟨rfl, (belo3 B0 (by omega) _ _ _).alloc (belo3 B0 (by omega) _ _ _).size _⟩
  ·
    obtain ⟨nm, Kf, C, -, -⟩ := wayOf_ok q (by omega) (by omega)
    have HC : Hid (∀ w, Calls Tryz.prog 17 #[.int .i64 q] w fun e w' => e = .returned (.tuple #[.agg #[.int .i64 q, .string nm, .func (.func Kf) #[] #[]], .bool true]) ∧ Below w.heap.size w w') := C
    clear C
    obtain ⟨sg, hsg⟩ : ∃ sg, Int.sign t.num = sg := ⟨_, rfl⟩
    have HSG : Hid (Int.sign t.num = sg) := hsg
    have g3 : sg ≤ 0 := by
      have h5 : t.num ≤ 0 := by omega
      rw [← hsg]
      rcases Int.lt_or_eq_of_le h5 with h6 | h6
      · rw [Int.sign_eq_neg_one_of_neg h6]; omega
      · rw [h6]; decide
    have g4 : decide (sg ≤ 0) = true := by simpa using g3
    clear hb hsg q1
    have B0 : Below w.heap.size w w := Below.refl _ _
    go_enter Tryz.func6, Tryz.ntmps6
    go_wp2_with fail
    refine ent3 w _ _ _ _ _ _ (Q := fun W => Calls Tryz.prog _ _ W _) ?_
    intro x1 hb hs_x1 V0 V1 V2
    replace h2 := Rt.after hb h2
    replace B0 := step B0 hb
    clear hb hs_x1
    refine (HC.out x1).mono ?_
    rintro e x2 ⟨rfl, hb⟩
    replace V0 := Va.after hb V0
    replace V1 := Va.after hb V1
    replace V2 := Va.after hb V2
    replace h2 := Rt.after hb h2
    replace B0 := step B0 hb
    clear hb
    have c_V1 := V1.d0
    have f0_V1 := V1.frozen 0
    have d_V1 := V1.d1
    have f1_V1 := V1.frozen 1
    have e_V1 := V1.d2
    have f2_V1 := V1.frozen 2
    have l_V1 := V1.lt
    have m_V1 := Nat.le_of_lt l_V1
    have p0_V1 := (V1.old (.cells #[.int .i64 q, .string nm, .func (.func Kf) #[] #[]] 54)).d0
    have q0_V1 := (V1.old (.cells #[.int .i64 q, .string nm, .func (.func Kf) #[] #[]] 54)).frozen 0
    have p1_V1 := (V1.old (.cells #[.int .i64 q, .string nm, .func (.func Kf) #[] #[]] 54)).d1
    have q1_V1 := (V1.old (.cells #[.int .i64 q, .string nm, .func (.func Kf) #[] #[]] 54)).frozen 1
    have p2_V1 := (V1.old (.cells #[.int .i64 q, .string nm, .func (.func Kf) #[] #[]] 54)).d2
    have q2_V1 := (V1.old (.cells #[.int .i64 q, .string nm, .func (.func Kf) #[] #[]] 54)).frozen 2
    go_wp2_with fail
    refine ent1 x2 _ _ (Q := fun W => Calls Tryz.prog _ _ W _) ?_
    intro x3 hb hs_x3 Vw
    replace V0 := Va.after hb V0
    replace V1 := Va.after hb V1
    replace V2 := Va.after hb V2
    replace h2 := Rt.after hb h2
    replace B0 := step B0 hb
    clear hb hs_x3
    refine (qsign_any s2 a2 l2 c2 z2 b2 m2 d2 y2 t x3 h2).mono ?_
    rintro e x4 ⟨rfl, hb⟩
    replace V0 := Va.after hb V0
    replace V1 := Va.after hb V1
    replace V2 := Va.after hb V2
    replace Vw := Va.after hb Vw
    replace h2 := Rt.after hb h2
    replace B0 := step B0 hb
    clear hb
    rw [HSG.out]
    clear c_V1 f0_V1 d_V1 f1_V1 e_V1 f2_V1 l_V1 m_V1 p0_V1 q0_V1 p1_V1 q1_V1 p2_V1 q2_V1
    have c_V2 := V2.d0
    have f0_V2 := V2.frozen 0
    have d_V2 := V2.d1
    have f1_V2 := V2.frozen 1
    have e_V2 := V2.d2
    have f2_V2 := V2.frozen 2
    have l_V2 := V2.lt
    have m_V2 := Nat.le_of_lt l_V2
    go_wp2_with fail
    refine bodyPost_ret (results_rt rfl rfl (V2.set3 _ _ _)) rfl ?_
    exact ⟨rfl, belo3 B0 (by omega) _ _ _⟩

set_option maxHeartbeats 4000000 in
theorem is7 (s1 : Bool) (a1 : Option Addr) (l1 c1 : Nat) (z1 : List Int) (b1 : Option Addr) (m1 d1 : Nat) (y1 : List Int) (v : Rat) (s2 : Bool) (a2 : Option Addr) (l2 c2 : Nat) (z2 : List Int) (b2 : Option Addr) (m2 d2 : Nat) (y2 : List Int) (w : World) (hr : Rt w s1 a1 l1 c1 z1 b1 m1 d1 y1 v) (hw : Rr w s2 a2 l2 c2 z2 b2 m2 d2 y2 v) :
  Calls Tryz.prog 8 #[.agg #[.bool s1, .slice a1 l1 c1, .slice b1 m1 d1], .agg #[.bool s2, .slice a2 l2 c2, .slice b2 m2 d2]] w fun e w' => e = .returned (.bool true) ∧ Below w.heap.size w w' := by
 have HLN : Hid (l1 ≤ 4096 ∧ Short v) := ⟨len_4096 hr.1.1, hr.2.2.2.2⟩; have B0 : Below w.heap.size w w := Below.refl _ _
 go_enter Tryz.func8, Tryz.ntmps8
 (go_wp2_with fail); refine ent2 w _ _ _ _ (Q := fun W => Code.wp Tryz.prog _ _ _ W) ?_; intro x1 hb hs_x1 V0 V1; replace hr := Rt.after hb hr; replace hw := Rr.after hb hw; replace B0 := step B0 hb; clear hb hs_x1; refine wp_region_noPanic ?_; replace V0 : Va x1.drew _ _ _ := V0; replace V1 : Va x1.drew _ _ _ := V1; replace hr := hr.drw; replace hw := hw.drw; replace B0 := Below.drew B0; refine wp_region_held_drew (S := (fun W => W.cell? ⟨w.heap.size, 0, none⟩ = some (.bool s1) ∧ W.cell? ⟨w.heap.size, 1, none⟩ = some (.slice a1 l1 c1) ∧ W.cell? ⟨w.heap.size, 2, none⟩ = some (.slice b1 m1 d1) ∧ W.cell? ⟨w.heap.size + 1, 0, none⟩ = some (.bool s2) ∧ W.cell? ⟨w.heap.size + 1, 1, none⟩ = some (.slice a2 l2 c2) ∧ W.cell? ⟨w.heap.size + 1, 2, none⟩ = some (.slice b2 m2 d2))) (by kernel_rfl) ⟨V0.d0, V0.d1, V0.d2, V1.d0, V1.d1, V1.d2⟩ (fun hHeld => ?_); (obtain ⟨x2, hxd⟩ : ∃ xd, xd = x1.drew := ⟨_, rfl⟩); rw [← hxd] at V0 V1 hr hw B0 hHeld ⊢
 clear hxd; refine tk 0 rfl hHeld ?_; simp only [gA, gB, Act.put, gD, gE, gF]; refine tk 2 rfl hHeld ?_; simp only [gA, gB, gC, Act.put, gD, gE, gF]; refine wpAnyH_ready (rs := [1]) (by kernel_rfl) (by simp) ?_; refine AllReadyH.cons rfl (fun K hK => ?_) AllReadyH.nil; simp only [gA, gB, gC]; (go_simp); refine (qplain_any s1 a1 l1 c1 z1 b1 m1 d1 y1 v _ hr).mono ?_; rintro e x3 ⟨g, h, ys, rfl, hg, hh, hne, hy, hb⟩; replace V0 := Va.after hb V0; replace V1 := Va.after hb V1; replace hr := Rt.after hb hr; replace hw := Rr.after hb hw; replace B0 := step B0 hb; clear hb; have hl1 : z1.length = l1 := hr.1.1.1.1; have HR : Hid (s2 = s1 ∧ l2 = l1 ∧ z2 = z1 ∧ m2 = ys.length ∧ y2 = ys) := rt_rr hr hw hy.out; have HY : Hid (ys.length ≤ 1024 ∧ Limbs ys ∧ Limbs z1 ∧ z1.length = l1) := ⟨den_4096 HLN.out.2 hy.out, hy.out.1, hr.1.1.limbs, hl1⟩; clear hy hne hl1; (try go_wp2_with fail); refine hK.out _ _ ⟨V0.d0, V0.d1, V0.d2, V1.d0, V1.d1, V1.d2⟩ (fun hHeld => ?_)
 clear hK K; refine wpAnyH_ready (rs := [3]) (by kernel_rfl) (by simp) ?_; refine AllReadyH.cons rfl (fun K hK => ?_) AllReadyH.nil; simp only [gA, gB, gC]; (go_simp); have S1 := hg.sl HY.out.2.2.1 HY.out.2.2.2; have S2 := hh.sl HY.out.2.1 rfl; have S3 := hw.1; have S4 := hw.2.1; rw [HR.out.2.1, HR.out.2.2.1] at S3; rw [HR.out.2.2.2.1, HR.out.2.2.2.2] at S4; rw [HR.out.1, HR.out.2.1, HR.out.2.2.2.1]; refine (rsame5 s1 (some ⟨g, 0, none⟩) a2 (some ⟨h, 0, none⟩) b2 l1 ys.length l1 c2 ys.length d2 z1 ys _ S1 S3 S2 S4 (by have := HLN.out.1; omega) (by have := HY.out.1; omega)).mono ?_; rintro e x4 ⟨rfl, hb⟩; clear S1 S2 S3 S4; replace V0 := Va.after hb V0; replace V1 := Va.after hb V1; replace hr := Rt.after hb hr; replace hw := Rr.after hb hw; replace hg := Ow.after hb hg; replace hh := Ow.after hb hh; replace B0 := step B0 hb; clear hb; (try go_wp2_with fail); refine hK.out _ _ ⟨V0.d0, V0.d1, V0.d2, V1.d0, V1.d1, V1.d2⟩ (fun hHeld => ?_)
 clear hK K; refine tk 4 rfl hHeld ?_; simp only [gA, gB, gC, Act.put, gD, gE, gF]; refine wpAnyH_done (by kernel_rfl) ?_ _; refine NoPanic.normal ?_; clear hHeld; (go_wp2_with fail)
 go_ret
 exact ⟨rfl, B0⟩
end Go.Proofs.YtegfklapgbggfaaGreat
namespace Go.Proofs.YtegfklapgbggfaaGreat
open Go.RowKit Go.Shelf
set_option linter.unusedVariables false

theorem pow_ten (a : Option Addr) (la ca : Nat) (xs : List Int) (p : Nat) (w : World) (ha : Nt w a la ca xs) (hx : num xs = 10) (hp : p ≤ 9) :
    Calls Tryz.prog 35 #[.agg #[.slice a la ca], .int .i64 p] w fun e w' => ∃ a' l' c' zs, e = .returned (.tuple #[.agg #[.slice a' l' c'], .int .i64 0]) ∧ Nt w' a' l' c' zs ∧ num zs = 10 ^ p ∧ Below w.heap.size w w' := by
  refine (pow_any a la ca xs p w ha (by omega)).mono ?_
  rintro e w' (⟨a', l', c', zs, e1, h1, h2, hb⟩ | ⟨-, hb, -⟩)
  · exact ⟨a', l', c', zs, e1, h1, by rw [h2, hx], hb⟩
  · have h1 := hb.ge
    rw [hx] at h1
    have h2 := ten_lt hp
    have h3 : (1000000000 : Int) < pw 4096 := Int.lt_of_lt_of_le (show _ < pw 1 by decide) (pw_mono (by omega))
    omega

set_option maxHeartbeats 4000000 in
theorem places_ok (q : Int) (q1 : 1 ≤ q) (q2 : q ≤ 5) (s1 : Bool) (a1 : Option Addr) (l1 c1 : Nat) (z1 : List Int) (b1 : Option Addr) (m1 d1 : Nat) (y1 : List Int) (v : Rat) (B : Int) (p : Nat) (hB : B = p) (hp : p ≤ 9) (w : World) (hr : Rt w s1 a1 l1 c1 z1 b1 m1 d1 y1 v) :
    Calls Tryz.prog 9 #[.agg #[.bool s1, .slice a1 l1 c1, .slice b1 m1 d1], .int .i64 B, .int .i64 q] w fun e w' => UnP w (uv q v (tenth p)) e w' := by
  subst hB; have HQ : Hid (1 ≤ q ∧ q ≤ 5) := ⟨q1, q2⟩; clear q1 q2; (have t0 : decide ((p : Int) < 0) = false := by first | (simp; done) | (simp; omega)); (have t1 : decide (9 < (p : Int)) = false := by first | (simp; done) | (simp; omega)); have HT : Hid (Short (tenth p)) := tenth_short hp; have HP : Hid (p ≤ 9) := hp; clear hp; have B0 : Below w.heap.size w w := Below.refl _ _
  go_enter Tryz.func9, Tryz.ntmps9
  (go_wp2_with fail); refine ent2 w _ _ _ _ (Q := fun W => Calls Tryz.prog _ _ W _) ?_; intro x1 hb hs_x1 V0 V1; replace hr := Rt.after hb hr; replace B0 := step B0 hb; clear hb hs_x1; refine (small_any 10 ⟨by omega, by omega⟩ x1).mono ?_; rintro e x2 ⟨b3, m3, d3, y3, rfl, h3, e3, hb⟩; replace V0 := Va.after hb V0; replace V1 := Va.after hb V1; replace hr := Rt.after hb hr; replace B0 := step B0 hb; clear hb; (go_wp2_with fail); refine (pow_ten b3 m3 d3 y3 p x2 h3 e3 HP.out).mono ?_; rintro e x3 ⟨b4, m4, d4, y4, rfl, h4, e4, hb⟩; replace V0 := Va.after hb V0; replace V1 := Va.after hb V1; replace hr := Rt.after hb hr; replace h3 := Nt.after hb h3; replace B0 := step B0 hb; clear hb; have E4 : Hid (num y4 = 10 ^ p) := e4; clear e4; (go_wp2_with fail); clear h3; refine ent1 x3 _ _ (Q := fun W => Code.wp Tryz.prog _ _ _ W) ?_; intro x4 hb hs_x4 Vp; replace V0 := Va.after hb V0; replace V1 := Va.after hb V1; replace hr := Rt.after hb hr; replace h4 := Nt.after hb h4
  replace B0 := step B0 hb; clear hb hs_x4; (have LS : Hid (∀ W, Below x4.heap.size x4 W → (fun W => W.cell? ⟨x3.heap.size, 0, none⟩ = some (.slice b4 m4 d4)) W) := fun W hb => (Va.after hb Vp).cell); have lb_V0 := V0.lt; have L_V0 : Hid (Va x4 (w.heap.size) 30 #[.bool s1, .slice a1 l1 c1, .slice b1 m1 d1]) := V0; have lb_V1 := V1.lt; have L_V1 : Hid (Va x4 (w.heap.size + 1) 30 #[.bool false, .slice none 0 0, .slice none 0 0]) := V1; have lb_Vp := Vp.lt; have L_Vp : Hid (Va x4 (x3.heap.size) 26 #[.slice b4 m4 d4]) := Vp; have L_hr : Hid (Rt x4 s1 a1 l1 c1 z1 b1 m1 d1 y1 v) := hr; have L_h4 : Hid (Nt x4 b4 m4 d4 y4) := h4; have L_B : Hid (Below w.heap.size w x4) := B0; clear V0 V1 Vp hr h4 B0; have BX := Below.refl x4.heap.size x4
  go_cut [10, 11] (fun s10 s11 wx => ∃ (b10 : Nat) (s2 : Bool) (a2 : Option Addr) (l2 c2 : Nat) (z2 : List Int) (b2 : Option Addr) (m2 d2 : Nat) (y2 : List Int), s10 = .pointer (some ⟨b10, 0, none⟩) ∧ s11 = .int .i64 0 ∧ Hid (Va wx b10 30 #[.bool s2, .slice a2 l2 c2, .slice b2 m2 d2]) ∧ Hid (Rt wx s2 a2 l2 c2 z2 b2 m2 d2 y2 (tenth p)) ∧ Hid (Below x4.heap.size x4 wx))
  case first =>
    refine wp_region_noPanic ?_; replace BX := Below.drew BX; refine wp_region_held_drew (S := (fun W => W.cell? ⟨x3.heap.size, 0, none⟩ = some (.slice b4 m4 d4))) (by kernel_rfl) (LS.out _ BX) (fun hHeld => ?_); (obtain ⟨x5, hxd⟩ : ∃ xd, xd = x4.drew := ⟨_, rfl⟩); rw [← hxd] at BX hHeld ⊢; clear hxd; refine tk 1 rfl hHeld ?_; simp only [gA, gB, gC, Act.put, gD, gE, gF]; refine wpAnyH_ready (rs := [0, 7]) (by kernel_rfl) (by simp) ?_; refine AllReadyH.cons rfl (fun K hK => ?_) (AllReadyH.cons rfl (fun K hK => ?_) AllReadyH.nil)
    ·
      simp only [gA, gB]; (go_simp); refine (wsmall_any 1 (by omega) (by omega) _).mono ?_; rintro e x6 ⟨s5, a5, l5, c5, z5, rfl, h5, e5, hb⟩; replace BX := step BX hb; clear hb; have E5 : Hid (iv s5 z5 = 1) := e5; clear e5; (try go_wp2_with fail); refine hK.out _ _ (LS.out _ BX) (fun hHeld => ?_); clear hK K; refine wpAnyH_ready (rs := [2, 7]) (by kernel_rfl) (by simp) ?_; refine AllReadyH.cons rfl (fun K hK => ?_) (AllReadyH.cons rfl (fun K hK => ?_) AllReadyH.nil)
      ·
        simp only [gA, gB, gC]; (go_simp); refine (above7 b4 m4 d4 y4 _ (Nt.after BX L_h4.out)).mono ?_; rintro e x7 ⟨rfl, h6, hb⟩; replace h5 := It.after hb h5; replace BX := step BX hb; clear hb; (try go_wp2_with fail); refine hK.out _ _ (LS.out _ BX) (fun hHeld => ?_); clear hK K; refine wpAnyH_ready (rs := [3, 7]) (by kernel_rfl) (by simp) ?_; refine AllReadyH.cons rfl (fun K hK => ?_) (AllReadyH.cons rfl (fun K hK => ?_) AllReadyH.nil)
        ·
          simp only [gA, gB, gC]; (go_simp); refine (qnew_ok s5 false a5 b4 l5 c5 m4 d4 z5 y4 _ h5 h6 (by rw [iv_f, E4.out]; have := Int.pow_pos (n := 10) (m := p) (by omega); omega)).mono ?_; rintro e x8 ⟨er, s2, a2, l2, c2, z2, b2, m2, d2, y2, v', rfl, h2, hra, hb⟩; replace h5 := It.after hb h5; replace h6 := It.after hb h6; replace BX := step BX hb; clear hb; rw [E5.out, iv_f, E4.out, tenth_divInt] at hra
          rcases hra.out with ⟨-, e8, e9⟩ | ⟨h9, -⟩
          rotate_left
          · exact absurd HT.out h9
          subst e8; subst e9; clear hra; (try go_wp2_with fail); refine hK.out _ _ (LS.out _ BX) (fun hHeld => ?_); clear hK K; refine tk 4 rfl hHeld ?_; simp only [gA, gB, gC, Act.put, gD, gE, gF]; refine tk 5 rfl hHeld ?_; simp only [gA, gB, gC, Act.put, gD, gE, gF]; refine tk 6 rfl hHeld ?_; simp only [gA, gB, gC, Act.put, gD, gE, gF]; refine wpAnyH_ready (rs := [7]) (by kernel_rfl) (by simp) ?_; refine AllReadyH.cons rfl (fun K hK => ?_) AllReadyH.nil
          ·
            simp only [gA, gB, gC]; (go_simp); have sz_Vu := BX.size; refine ent1 _ _ _ (Q := fun V => K _ V) ?_; intro x9 hb hs_ Vu; replace h5 := It.after hb h5; replace h6 := It.after hb h6; replace h2 := Rt.after hb h2; replace BX := step BX hb; clear hb hs_; refine hK.out _ _ (LS.out _ BX) (fun hHeld => ?_); clear hK K; have c_Vu := Vu.d0; have f0_Vu := Vu.frozen 0; have d_Vu := Vu.d1; have f1_Vu := Vu.frozen 1; have e_Vu := Vu.d2; have f2_Vu := Vu.frozen 2; have l_Vu := Vu.lt; have m_Vu := Nat.le_of_lt l_Vu; refine wpAnyH_ready (rs := [8]) (by kernel_rfl) (by simp) ?_; refine AllReadyH.cons rfl (fun K hK => ?_) AllReadyH.nil; simp only [gA, gB, gC]; (go_simp); clear c_Vu f0_Vu d_Vu f1_Vu e_Vu f2_Vu l_Vu m_Vu; refine sto3 Vu (.bool s2) (.slice a2 l2 c2) (.slice b2 m2 d2) (Q := fun W => K _ W) ?_; intro x10 V' oth far; replace h5 := h5.far Vu (noInt3 _ _ _ _ _ _ _) far.1; replace h6 := h6.far Vu (noInt3 _ _ _ _ _ _ _) far.1; replace h2 := h2.far Vu (noInt3 _ _ _ _ _ _ _) far.1
            replace BX := far.2 _ _ (by first | omega | (simp; omega)) BX; replace Vu := V'; clear oth far; refine hK.out _ _ (LS.out _ BX) (fun hHeld => ?_); clear hK K; refine tk 9 rfl hHeld ?_; simp only [gA, gB, gC, Act.put, gD, gE, gF]; refine wpAnyH_done (by kernel_rfl) ?_ _; refine NoPanic.normal ?_; clear hHeld; (go_wp2_with fail)
            go_meet
            exact ⟨_, s2, a2, l2, c2, z2, b2, m2, d2, y2, rfl, rfl, Vu, h2, BX⟩
        ·
          simp only [gA, gB, gC]; (go_simp); have sz_Vu := BX.size; refine ent1 _ _ _ (Q := fun V => K _ V) ?_; intro x8 hb hs_ Vu; replace h5 := It.after hb h5; replace h6 := It.after hb h6; replace BX := step BX hb; clear hb hs_; refine hK.out _ _ (LS.out _ BX) (fun hHeld => ?_); clear hK K; refine wpAnyH_ready (rs := [3]) (by kernel_rfl) (by simp) ?_; refine AllReadyH.cons rfl (fun K hK => ?_) AllReadyH.nil
          ·
            simp only [gA, gB, gC]; (go_simp); refine (qnew_ok s5 false a5 b4 l5 c5 m4 d4 z5 y4 _ h5 h6 (by rw [iv_f, E4.out]; have := Int.pow_pos (n := 10) (m := p) (by omega); omega)).mono ?_; rintro e x9 ⟨er, s2, a2, l2, c2, z2, b2, m2, d2, y2, v', rfl, h2, hra, hb⟩; replace Vu := Va.after hb Vu; replace h5 := It.after hb h5; replace h6 := It.after hb h6; replace BX := step BX hb; clear hb; rw [E5.out, iv_f, E4.out, tenth_divInt] at hra
            rcases hra.out with ⟨-, e8, e9⟩ | ⟨h9, -⟩
            rotate_left
            · exact absurd HT.out h9
            subst e8; subst e9; clear hra; (try go_wp2_with fail); refine hK.out _ _ (LS.out _ BX) (fun hHeld => ?_); clear hK K; refine tk 4 rfl hHeld ?_; simp only [gA, gB, gC, Act.put, gD, gE, gF]; refine tk 5 rfl hHeld ?_; simp only [gA, gB, gC, Act.put, gD, gE, gF]; refine tk 6 rfl hHeld ?_; simp only [gA, gB, gC, Act.put, gD, gE, gF]; have c_Vu := Vu.d0; have f0_Vu := Vu.frozen 0; have d_Vu := Vu.d1; have f1_Vu := Vu.frozen 1; have e_Vu := Vu.d2; have f2_Vu := Vu.frozen 2; have l_Vu := Vu.lt; have m_Vu := Nat.le_of_lt l_Vu; refine wpAnyH_ready (rs := [8]) (by kernel_rfl) (by simp) ?_; refine AllReadyH.cons rfl (fun K hK => ?_) AllReadyH.nil; simp only [gA, gB, gC]; (go_simp); clear c_Vu f0_Vu d_Vu f1_Vu e_Vu f2_Vu l_Vu m_Vu; refine sto3 Vu (.bool s2) (.slice a2 l2 c2) (.slice b2 m2 d2) (Q := fun W => K _ W) ?_; intro x10 V' oth far; replace h5 := h5.far Vu (noInt3 _ _ _ _ _ _ _) far.1; replace h6 := h6.far Vu (noInt3 _ _ _ _ _ _ _) far.1; replace h2 := h2.far Vu (noInt3 _ _ _ _ _ _ _) far.1
            replace BX := far.2 _ _ (by first | omega | (simp; omega)) BX; replace Vu := V'; clear oth far; refine hK.out _ _ (LS.out _ BX) (fun hHeld => ?_); clear hK K; refine tk 9 rfl hHeld ?_; simp only [gA, gB, gC, Act.put, gD, gE, gF]; refine wpAnyH_done (by kernel_rfl) ?_ _; refine NoPanic.normal ?_; clear hHeld; (go_wp2_with fail)
            go_meet
            exact ⟨_, s2, a2, l2, c2, z2, b2, m2, d2, y2, rfl, rfl, Vu, h2, BX⟩
      ·
        simp only [gA, gB, gC]; (go_simp); have sz_Vu := BX.size; refine ent1 _ _ _ (Q := fun V => K _ V) ?_; intro x7 hb hs_ Vu; replace h5 := It.after hb h5; replace BX := step BX hb; clear hb hs_; refine hK.out _ _ (LS.out _ BX) (fun hHeld => ?_); clear hK K; refine wpAnyH_ready (rs := [2]) (by kernel_rfl) (by simp) ?_; refine AllReadyH.cons rfl (fun K hK => ?_) AllReadyH.nil
        ·
          simp only [gA, gB, gC]; (go_simp); refine (above7 b4 m4 d4 y4 _ (Nt.after BX L_h4.out)).mono ?_; rintro e x8 ⟨rfl, h6, hb⟩; replace Vu := Va.after hb Vu; replace h5 := It.after hb h5; replace BX := step BX hb; clear hb; (try go_wp2_with fail); refine hK.out _ _ (LS.out _ BX) (fun hHeld => ?_); clear hK K; refine wpAnyH_ready (rs := [3]) (by kernel_rfl) (by simp) ?_; refine AllReadyH.cons rfl (fun K hK => ?_) AllReadyH.nil
          ·
            simp only [gA, gB, gC]; (go_simp); refine (qnew_ok s5 false a5 b4 l5 c5 m4 d4 z5 y4 _ h5 h6 (by rw [iv_f, E4.out]; have := Int.pow_pos (n := 10) (m := p) (by omega); omega)).mono ?_; rintro e x9 ⟨er, s2, a2, l2, c2, z2, b2, m2, d2, y2, v', rfl, h2, hra, hb⟩; replace Vu := Va.after hb Vu; replace h5 := It.after hb h5; replace h6 := It.after hb h6; replace BX := step BX hb; clear hb; rw [E5.out, iv_f, E4.out, tenth_divInt] at hra
            rcases hra.out with ⟨-, e8, e9⟩ | ⟨h9, -⟩
            rotate_left
            · exact absurd HT.out h9
            subst e8; subst e9; clear hra; (try go_wp2_with fail); refine hK.out _ _ (LS.out _ BX) (fun hHeld => ?_); clear hK K; refine tk 4 rfl hHeld ?_; simp only [gA, gB, gC, Act.put, gD, gE, gF]; refine tk 5 rfl hHeld ?_; simp only [gA, gB, gC, Act.put, gD, gE, gF]; refine tk 6 rfl hHeld ?_; simp only [gA, gB, gC, Act.put, gD, gE, gF]; have c_Vu := Vu.d0; have f0_Vu := Vu.frozen 0; have d_Vu := Vu.d1; have f1_Vu := Vu.frozen 1; have e_Vu := Vu.d2; have f2_Vu := Vu.frozen 2; have l_Vu := Vu.lt; have m_Vu := Nat.le_of_lt l_Vu; refine wpAnyH_ready (rs := [8]) (by kernel_rfl) (by simp) ?_; refine AllReadyH.cons rfl (fun K hK => ?_) AllReadyH.nil; simp only [gA, gB, gC]; (go_simp); clear c_Vu f0_Vu d_Vu f1_Vu e_Vu f2_Vu l_Vu m_Vu; refine sto3 Vu (.bool s2) (.slice a2 l2 c2) (.slice b2 m2 d2) (Q := fun W => K _ W) ?_; intro x10 V' oth far; replace h5 := h5.far Vu (noInt3 _ _ _ _ _ _ _) far.1; replace h6 := h6.far Vu (noInt3 _ _ _ _ _ _ _) far.1; replace h2 := h2.far Vu (noInt3 _ _ _ _ _ _ _) far.1
            replace BX := far.2 _ _ (by first | omega | (simp; omega)) BX; replace Vu := V'; clear oth far; refine hK.out _ _ (LS.out _ BX) (fun hHeld => ?_); clear hK K; refine tk 9 rfl hHeld ?_; simp only [gA, gB, gC, Act.put, gD, gE, gF]; refine wpAnyH_done (by kernel_rfl) ?_ _; refine NoPanic.normal ?_; clear hHeld; (go_wp2_with fail)
            go_meet
            exact ⟨_, s2, a2, l2, c2, z2, b2, m2, d2, y2, rfl, rfl, Vu, h2, BX⟩
    ·
      simp only [gA, gB, gC]; (go_simp); have sz_Vu := BX.size; refine ent1 _ _ _ (Q := fun V => K _ V) ?_; intro x6 hb hs_ Vu; replace BX := step BX hb; clear hb hs_; refine hK.out _ _ (LS.out _ BX) (fun hHeld => ?_); clear hK K; refine wpAnyH_ready (rs := [0]) (by kernel_rfl) (by simp) ?_; refine AllReadyH.cons rfl (fun K hK => ?_) AllReadyH.nil
      ·
        simp only [gA, gB]; (go_simp); refine (wsmall_any 1 (by omega) (by omega) _).mono ?_; rintro e x7 ⟨s5, a5, l5, c5, z5, rfl, h5, e5, hb⟩; replace Vu := Va.after hb Vu; replace BX := step BX hb; clear hb; have E5 : Hid (iv s5 z5 = 1) := e5; clear e5; (try go_wp2_with fail); refine hK.out _ _ (LS.out _ BX) (fun hHeld => ?_); clear hK K; refine wpAnyH_ready (rs := [2]) (by kernel_rfl) (by simp) ?_; refine AllReadyH.cons rfl (fun K hK => ?_) AllReadyH.nil
        ·
          simp only [gA, gB, gC]; (go_simp); refine (above7 b4 m4 d4 y4 _ (Nt.after BX L_h4.out)).mono ?_; rintro e x8 ⟨rfl, h6, hb⟩; replace Vu := Va.after hb Vu; replace h5 := It.after hb h5; replace BX := step BX hb; clear hb; (try go_wp2_with fail); refine hK.out _ _ (LS.out _ BX) (fun hHeld => ?_); clear hK K; refine wpAnyH_ready (rs := [3]) (by kernel_rfl) (by simp) ?_; refine AllReadyH.cons rfl (fun K hK => ?_) AllReadyH.nil
          ·
            simp only [gA, gB, gC]; (go_simp); refine (qnew_ok s5 false a5 b4 l5 c5 m4 d4 z5 y4 _ h5 h6 (by rw [iv_f, E4.out]; have := Int.pow_pos (n := 10) (m := p) (by omega); omega)).mono ?_; rintro e x9 ⟨er, s2, a2, l2, c2, z2, b2, m2, d2, y2, v', rfl, h2, hra, hb⟩; replace Vu := Va.after hb Vu; replace h5 := It.after hb h5; replace h6 := It.after hb h6; replace BX := step BX hb; clear hb; rw [E5.out, iv_f, E4.out, tenth_divInt] at hra
            rcases hra.out with ⟨-, e8, e9⟩ | ⟨h9, -⟩
            rotate_left
            · exact absurd HT.out h9
            subst e8; subst e9; clear hra; (try go_wp2_with fail); refine hK.out _ _ (LS.out _ BX) (fun hHeld => ?_); clear hK K; refine tk 4 rfl hHeld ?_; simp only [gA, gB, gC, Act.put, gD, gE, gF]; refine tk 5 rfl hHeld ?_; simp only [gA, gB, gC, Act.put, gD, gE, gF]; refine tk 6 rfl hHeld ?_; simp only [gA, gB, gC, Act.put, gD, gE, gF]; have c_Vu := Vu.d0; have f0_Vu := Vu.frozen 0; have d_Vu := Vu.d1; have f1_Vu := Vu.frozen 1; have e_Vu := Vu.d2; have f2_Vu := Vu.frozen 2; have l_Vu := Vu.lt; have m_Vu := Nat.le_of_lt l_Vu; refine wpAnyH_ready (rs := [8]) (by kernel_rfl) (by simp) ?_; refine AllReadyH.cons rfl (fun K hK => ?_) AllReadyH.nil; simp only [gA, gB, gC]; (go_simp); clear c_Vu f0_Vu d_Vu f1_Vu e_Vu f2_Vu l_Vu m_Vu; refine sto3 Vu (.bool s2) (.slice a2 l2 c2) (.slice b2 m2 d2) (Q := fun W => K _ W) ?_; intro x10 V' oth far; replace h5 := h5.far Vu (noInt3 _ _ _ _ _ _ _) far.1; replace h6 := h6.far Vu (noInt3 _ _ _ _ _ _ _) far.1; replace h2 := h2.far Vu (noInt3 _ _ _ _ _ _ _) far.1
            replace BX := far.2 _ _ (by first | omega | (simp; omega)) BX; replace Vu := V'; clear oth far; refine hK.out _ _ (LS.out _ BX) (fun hHeld => ?_); clear hK K; refine tk 9 rfl hHeld ?_; simp only [gA, gB, gC, Act.put, gD, gE, gF]; refine wpAnyH_done (by kernel_rfl) ?_ _; refine NoPanic.normal ?_; clear hHeld; (go_wp2_with fail)
            go_meet
            exact ⟨_, s2, a2, l2, c2, z2, b2, m2, d2, y2, rfl, rfl, Vu, h2, BX⟩
  case rest =>
    clear BX; obtain ⟨b10, s2, a2, l2, c2, z2, b2, m2, d2, y2, rfl, rfl, Vu', h2', BX'⟩ := hcut; have Vu := Vu'.out; have h2 := h2'.out; have BX := BX'.out; clear Vu' h2' BX'; have V0 := Va.after BX L_V0.out; have V1 := Va.after BX L_V1.out; have Vp := Va.after BX L_Vp.out; have hr := Rt.after BX L_hr.out; have h4 := Nt.after BX L_h4.out; have B0 := step L_B.out BX; have c_V0 := V0.d0; have f0_V0 := V0.frozen 0; have d_V0 := V0.d1; have f1_V0 := V0.frozen 1; have e_V0 := V0.d2; have f2_V0 := V0.frozen 2; have l_V0 := V0.lt; have m_V0 := Nat.le_of_lt l_V0; have c_Vu := Vu.d0; have f0_Vu := Vu.frozen 0; have d_Vu := Vu.d1; have f1_Vu := Vu.frozen 1; have e_Vu := Vu.d2; have f2_Vu := Vu.frozen 2; have l_Vu := Vu.lt; have m_Vu := Nat.le_of_lt l_Vu; (go_wp2_with fail); refine (units_ok q HQ.out.1 HQ.out.2 s1 a1 l1 c1 z1 b1 m1 d1 y1 v s2 a2 l2 c2 z2 b2 m2 d2 y2 (tenth p) wc hr h2 (by show 0 < (tenth p).num; rw [(tenth_parts p).1]; omega)).mono ?_; rintro e x5 ⟨er, s7, a7, l7, c7, z7, b7, m7, d7, y7, v', rfl, h7, hra, hb⟩
    replace V0 := Va.after hb V0; replace V1 := Va.after hb V1; replace Vp := Va.after hb Vp; replace Vu := Va.after hb Vu; replace hr := Rt.after hb hr; replace h4 := Nt.after hb h4; replace h2 := Rt.after hb h2; replace B0 := step B0 hb; clear hb; clear c_V0 f0_V0 d_V0 f1_V0 e_V0 f2_V0 l_V0 m_V0 c_Vu f0_Vu d_Vu f1_Vu e_Vu f2_Vu l_Vu m_Vu; have c_V1 := V1.d0; have f0_V1 := V1.frozen 0; have d_V1 := V1.d1; have f1_V1 := V1.frozen 1; have e_V1 := V1.d2; have f2_V1 := V1.frozen 2; have l_V1 := V1.lt; have m_V1 := Nat.le_of_lt l_V1; (go_wp2_with fail); refine bodyPost_ret (results_rt rfl rfl (V1.set3 _ _ _)) rfl ?_; exact ⟨er, s7, a7, l7, c7, z7, b7, m7, d7, y7, v', rfl, h7.far V1 (noInt3 _ _ _ _ _ _ _) (fa3 _ _ _ _ _), hra, belo3 B0 (by omega) _ _ _⟩
end Go.Proofs.YtegfklapgbggfaaGreat
namespace Go.Proofs.YtegfklapgbggfaaGreat
open Go.RowKit Go.Shelf
set_option linter.unusedVariables false

theorem sl_ten7 {w : World} {b : Nat} {t : TypeId} (V : Va w b t #[.int .u64 10]) : Sl w (some ⟨b, 0, none⟩) 1 [10] := by
  refine ⟨rfl, fun z hz => ?_, fun _ => ⟨b, 0, rfl, fun i hi => ?_⟩⟩
  · simp at hz; subst hz; exact ⟨by omega, by omega⟩
  · obtain rfl : i = 0 := by omega
    exact V.cell
theorem sl_uno7 {w : World} {b : Nat} {t : TypeId} (V : Va w b t #[.int .u64 1]) : Sl w (some ⟨b, 0, none⟩) 1 [1] := by
  refine ⟨rfl, fun z hz => ?_, fun _ => ⟨b, 0, rfl, fun i hi => ?_⟩⟩
  · simp at hz; subst hz; exact ⟨by omega, by omega⟩
  · obtain rfl : i = 0 := by omega
    exact V.cell
theorem ten_fits {p : Nat} (h : p ≤ 9) : (10 : Int) ^ p < pw 4096 := by
  have h2 := ten_lt h
  have h3 : (1000000000 : Int) < pw 4096 := Int.lt_of_lt_of_le (show _ < pw 1 by decide) (pw_mono (by omega))
  omega

set_option maxHeartbeats 4000000 in
theorem rplaces_ok (q : Int) (q1 : 1 ≤ q) (q2 : q ≤ 5) (s1 : Bool) (a1 : Option Addr) (l1 c1 : Nat) (z1 : List Int) (b1 : Option Addr) (m1 d1 : Nat) (y1 : List Int) (v : Rat) (p : Nat) (hp : p ≤ 9) (w : World) (h1 : Rr w s1 a1 l1 c1 z1 b1 m1 d1 y1 v) (t1 : Short v) :
    Calls Tryz.prog 10 #[.agg #[.bool s1, .slice a1 l1 c1, .slice b1 m1 d1], .int .i64 p, .int .i64 q] w fun e w' => RuP w (uv q v (tenth p)) e w' := by
  have HQ : Hid (1 ≤ q ∧ q ≤ 5 ∧ Short v ∧ p ≤ 9) := ⟨q1, q2, t1, hp⟩; (have g1 : decide (q < 1) = false := by simp; omega); (have g2 : decide (5 < q) = false := by simp; omega); (have g3 : ¬ (q < 1) := by omega); (have g4 : ¬ (5 < q) := by omega); (have t0 : decide ((p : Int) < 0) = false := by first | (simp; done) | (simp; omega)); (have t9 : decide (9 < (p : Int)) = false := by first | (simp; done) | (simp; omega)); clear q1 q2 t1 hp; have B0 : Below w.heap.size w w := Below.refl _ _
  go_enter Tryz.func10, Tryz.ntmps10
  (go_wp2_with fail); refine ent3 w _ _ _ _ _ _ (Q := fun W => Calls Tryz.prog _ _ W _) ?_; intro x1 hb hs_x1 V0 V1 Vt; replace h1 := Rr.after hb h1; replace B0 := step B0 hb; clear hb hs_x1; have ht : Sl x1 (some ⟨w.heap.size + 1 + 1, 0, none⟩) 1 [10] := sl_ten7 Vt; clear Vt; refine (rpow_any9 (some ⟨w.heap.size + 1 + 1, 0, none⟩) 1 1 [10] p x1 ht (fun h => by cases h) (by omega) (by omega) (by decide) (by have := HQ.out.2.2.2; omega)).mono ?_; rintro e x2 ⟨a5, m5, c5, z5, may, rfl, h5, hp5, hb⟩; replace V0 := Va.after hb V0; replace V1 := Va.after hb V1; replace h1 := Rr.after hb h1; replace ht := Sl.after hb ht; replace B0 := step B0 hb; clear hb
  have HP5 : Hid (may = true ∧ usedN z5 = m5 ∧ num z5 = 10 ^ p ∧ m5 ≤ c5) := by
    have h9 := hp5.out; rw [show num [10] = 10 from rfl] at h9
    rcases h9 with ⟨x1, x2, x3, -, x5⟩ | ⟨-, x2⟩
    · exact ⟨x1, x2, x3, x5⟩
    · exact absurd x2 (Int.not_le.2 (ten_fits HQ.out.2.2.2))
  obtain rfl : may = true := HP5.out.1
  have HM5 : Hid (m5 ≤ 4096) := by
    have h9 := used_of_lt (n := 4096) h5.2.1 (by rw [HP5.out.2.2.1]; exact ten_fits HQ.out.2.2.2)
    show m5 ≤ 4096
    rw [← HP5.out.2.1]; exact h9
  clear hp5; (go_wp2_with fail); clear ht; refine wp_region_noPanic ?_; replace V0 : Va x2.drew _ _ _ := V0; replace V1 : Va x2.drew _ _ _ := V1; replace h1 := h1.drw; replace h5 := h5.drw; replace B0 := Below.drew B0; refine wp_region_held_drew (S := (fun W => W.cell? ⟨w.heap.size, 0, none⟩ = some (.bool s1) ∧ W.cell? ⟨w.heap.size, 1, none⟩ = some (.slice a1 l1 c1) ∧ W.cell? ⟨w.heap.size, 2, none⟩ = some (.slice b1 m1 d1))) (by kernel_rfl) ⟨V0.d0, V0.d1, V0.d2⟩ (fun hHeld => ?_); (obtain ⟨x3, hxd⟩ : ∃ xd, xd = x2.drew := ⟨_, rfl⟩); rw [← hxd] at V0 V1 h1 h5 B0 hHeld ⊢; clear hxd; refine tk 0 rfl hHeld ?_; simp only [gA, gB, Act.put, gD, gE, gF]; refine tk 2 rfl hHeld ?_; simp only [gA, gB, gC, Act.put, gD, gE, gF]; refine tk 4 rfl hHeld ?_; simp only [gA, gB, gC, Act.put, gD, gE, gF]; refine wpAnyH_ready (rs := [1]) (by kernel_rfl) (by simp) ?_; refine AllReadyH.cons rfl (fun K hK => ?_) AllReadyH.nil; simp only [gA, gB, gC]; (go_simp)
  have lt_Vq_V0 := V0.lt; have lt_Vq_V1 := V1.lt; have sz_Vq := B0.size; refine ent1 _ _ _ (Q := fun V => K _ V) ?_; intro x4 hb hs_ Vq; replace V0 := Va.after hb V0; replace V1 := Va.after hb V1; replace h1 := Rr.after hb h1; replace h5 := Sl.after hb h5; replace B0 := step B0 hb; clear hb hs_; refine hK.out _ _ ⟨V0.d0, V0.d1, V0.d2⟩ (fun hHeld => ?_); clear hK K; refine wpAnyH_ready (rs := [3]) (by kernel_rfl) (by simp) ?_; refine AllReadyH.cons rfl (fun K hK => ?_) AllReadyH.nil; simp only [gA, gB, gC]; (go_simp); refine (rmake5 false (some ⟨x3.heap.size, 0, none⟩) a5 1 1 m5 c5 [1] z5 _ (sl_uno7 Vq) h5 (by omega) HP5.out.2.2.2 (by omega) (by have := HM5.out; omega) (by decide) (by rw [HP5.out.2.1]; exact HM5.out) (by rw [HP5.out.2.2.1]; have := Int.pow_pos (n := 10) (m := p) (by omega); omega)).mono ?_; rintro e x5 ⟨s6, a6, l6, c6, z6, b6, m6, d6, y6, rfl, h6, -, -, hb⟩; replace V0 := Va.after hb V0; replace V1 := Va.after hb V1
  replace Vq := Va.after hb Vq; replace h1 := Rr.after hb h1; replace h5 := Sl.after hb h5; replace B0 := step B0 hb; clear hb; rw [show iv false [1] = 1 from rfl, HP5.out.2.2.1, tenth_divInt] at h6; (try go_wp2_with fail); refine hK.out _ _ ⟨V0.d0, V0.d1, V0.d2⟩ (fun hHeld => ?_); clear hK K; refine wpAnyH_ready (rs := [5]) (by kernel_rfl) (by simp) ?_; refine AllReadyH.cons rfl (fun K hK => ?_) AllReadyH.nil; simp only [gA, gB, gC]; (go_simp); refine (runits_ok q HQ.out.1 HQ.out.2.1 s1 a1 l1 c1 z1 b1 m1 d1 y1 v s6 a6 l6 c6 z6 b6 m6 d6 y6 (tenth p) _ h1 h6 HQ.out.2.2.1 (tenth_short HQ.out.2.2.2) (by rw [(tenth_parts p).1]; omega)).mono ?_; rintro e x6 ⟨er, s7, a7, l7, c7, z7, b7, m7, d7, y7, v', rfl, h7, hra, hb⟩; replace V0 := Va.after hb V0; replace V1 := Va.after hb V1; replace Vq := Va.after hb Vq; replace h1 := Rr.after hb h1; replace h5 := Sl.after hb h5; replace h6 := Rr.after hb h6; replace B0 := step B0 hb; clear hb; (try go_wp2_with fail)
  refine hK.out _ _ ⟨V0.d0, V0.d1, V0.d2⟩ (fun hHeld => ?_); clear hK K; refine tk 6 rfl hHeld ?_; simp only [gA, gB, gC, Act.put, gD, gE, gF]; refine tk 7 rfl hHeld ?_; simp only [gA, gB, gC, Act.put, gD, gE, gF]; have c_V1 := V1.d0; have f0_V1 := V1.frozen 0; have d_V1 := V1.d1; have f1_V1 := V1.frozen 1; have e_V1 := V1.d2; have f2_V1 := V1.frozen 2; have l_V1 := V1.lt; have m_V1 := Nat.le_of_lt l_V1; refine wpAnyH_ready (rs := [8]) (by kernel_rfl) (by simp) ?_; refine AllReadyH.cons rfl (fun K hK => ?_) AllReadyH.nil; simp only [gA, gB, gC]; (go_simp); clear c_V1 f0_V1 d_V1 f1_V1 e_V1 f2_V1 l_V1 m_V1; refine sto3 V1 (.bool s7) (.slice a7 l7 c7) (.slice b7 m7 d7) (Q := fun W => K _ W) ?_; intro x7 V' oth far; replace V0 := oth _ _ _ (by first | omega | assumption | (simp; omega)) V0; clear Vq; replace h1 := h1.far V1 (noInt3 _ _ _ _ _ _ _) far.1; replace h5 := h5.far V1 (noInt3 _ _ _ _ _ _ _) far.1; replace h6 := h6.far V1 (noInt3 _ _ _ _ _ _ _) far.1
  replace h7 := h7.far V1 (noInt3 _ _ _ _ _ _ _) far.1; replace B0 := far.2 _ _ (by first | omega | (simp; omega)) B0; replace V1 := V'; clear oth far; refine hK.out _ _ ⟨V0.d0, V0.d1, V0.d2⟩ (fun hHeld => ?_); clear hK K; refine tk 9 rfl hHeld ?_; simp only [gA, gB, gC, Act.put, gD, gE, gF]; refine wpAnyH_done (by kernel_rfl) ?_ _; refine NoPanic.normal ?_; clear hHeld; (go_wp2_with fail); refine bodyPost_ret (results_rat1 rfl rfl V1) rfl ?_; exact ⟨er, s7, a7, l7, c7, z7, b7, m7, d7, y7, v', rfl, h7, hra, B0⟩

set_option maxHeartbeats 4000000 in
theorem rplaces_bad (q B : Int) (s1 : Bool) (a1 : Option Addr) (l1 c1 : Nat) (b1 : Option Addr) (m1 d1 : Nat) (w : World) (hb : q < 1 ∨ 5 < q ∨ B < 0 ∨ 9 < B) :
    Calls Tryz.prog 10 #[.agg #[.bool s1, .slice a1 l1 c1, .slice b1 m1 d1], .int .i64 B, .int .i64 q] w fun e w' => ∃ s' a' l' c' zs' b' m' d' ys', e = .returned (.tuple #[.agg #[.bool s', .slice a' l' c', .slice b' m' d'], .int .i64 2]) ∧ Rr w' s' a' l' c' zs' b' m' d' ys' 0 ∧ Below w.heap.size w w' := by
  by_cases q1 : q < 1
  ·
    have dq1 : decide (q < 1) = true := by simpa using q1
    clear hb
    have B0 : Below w.heap.size w w := Below.refl _ _
    go_enter Tryz.func10, Tryz.ntmps10
    go_wp2_with fail
    refine ent2 w _ _ _ _ (Q := fun W => Calls Tryz.prog _ _ W _) ?_
    intro x1 hb hs_x1 V0 V1
    replace B0 := step B0 hb
    clear hb hs_x1
    refine (rint5 0 (by omega) (by omega) x1).mono ?_
    rintro e x2 ⟨s6, a6, l6, c6, z6, b6, m6, d6, y6, rfl, h6, -, -, hb⟩
    replace V0 := Va.after hb V0
    replace V1 := Va.after hb V1
    replace B0 := step B0 hb
    clear hb
    rw [show Rat.divInt 0 1 = 0 from by decide +kernel] at h6
    have c_V1 := V1.d0
    have f0_V1 := V1.frozen 0
    have d_V1 := V1.d1
    have f1_V1 := V1.frozen 1
    have e_V1 := V1.d2
    have f2_V1 := V1.frozen 2
    have l_V1 := V1.lt
    have m_V1 := Nat.le_of_lt l_V1
    go_wp2_with fail
    refine bodyPost_ret (results_rat1 rfl rfl (V1.set3 _ _ _)) rfl ?_
    exact ⟨s6, a6, l6, c6, z6, b6, m6, d6, y6, rfl, h6.far V1 (noInt3 _ _ _ _ _ _ _) (fa3 _ _ _ _ _), belo3 B0 (by omega) _ _ _⟩
  · by_cases q2 : 5 < q
    ·
      have dq1 : decide (q < 1) = false := by simpa using q1
      have dq2 : decide (5 < q) = true := by simpa using q2
      clear hb
      have B0 : Below w.heap.size w w := Below.refl _ _
      go_enter Tryz.func10, Tryz.ntmps10
      go_wp2_with fail
      refine ent2 w _ _ _ _ (Q := fun W => Calls Tryz.prog _ _ W _) ?_
      intro x1 hb hs_x1 V0 V1
      replace B0 := step B0 hb
      clear hb hs_x1
      refine (rint5 0 (by omega) (by omega) x1).mono ?_
      rintro e x2 ⟨s6, a6, l6, c6, z6, b6, m6, d6, y6, rfl, h6, -, -, hb⟩
      replace V0 := Va.after hb V0
      replace V1 := Va.after hb V1
      replace B0 := step B0 hb
      clear hb
      rw [show Rat.divInt 0 1 = 0 from by decide +kernel] at h6
      have c_V1 := V1.d0
      have f0_V1 := V1.frozen 0
      have d_V1 := V1.d1
      have f1_V1 := V1.frozen 1
      have e_V1 := V1.d2
      have f2_V1 := V1.frozen 2
      have l_V1 := V1.lt
      have m_V1 := Nat.le_of_lt l_V1
      go_wp2_with fail
      refine bodyPost_ret (results_rat1 rfl rfl (V1.set3 _ _ _)) rfl ?_
      exact ⟨s6, a6, l6, c6, z6, b6, m6, d6, y6, rfl, h6.far V1 (noInt3 _ _ _ _ _ _ _) (fa3 _ _ _ _ _), belo3 B0 (by omega) _ _ _⟩
    · by_cases q3 : B < 0
      ·
        have dq1 : decide (q < 1) = false := by simpa using q1
        have dq2 : decide (5 < q) = false := by simpa using q2
        have dq3 : decide (B < 0) = true := by simpa using q3
        clear hb
        have B0 : Below w.heap.size w w := Below.refl _ _
        go_enter Tryz.func10, Tryz.ntmps10
        go_wp2_with fail
        refine ent2 w _ _ _ _ (Q := fun W => Calls Tryz.prog _ _ W _) ?_
        intro x1 hb hs_x1 V0 V1
        replace B0 := step B0 hb
        clear hb hs_x1
        refine (rint5 0 (by omega) (by omega) x1).mono ?_
        rintro e x2 ⟨s6, a6, l6, c6, z6, b6, m6, d6, y6, rfl, h6, -, -, hb⟩
        replace V0 := Va.after hb V0
        replace V1 := Va.after hb V1
        replace B0 := step B0 hb
        clear hb
        rw [show Rat.divInt 0 1 = 0 from by decide +kernel] at h6
        have c_V1 := V1.d0
        have f0_V1 := V1.frozen 0
        have d_V1 := V1.d1
        have f1_V1 := V1.frozen 1
        have e_V1 := V1.d2
        have f2_V1 := V1.frozen 2
        have l_V1 := V1.lt
        have m_V1 := Nat.le_of_lt l_V1
        go_wp2_with fail
        refine bodyPost_ret (results_rat1 rfl rfl (V1.set3 _ _ _)) rfl ?_
        exact ⟨s6, a6, l6, c6, z6, b6, m6, d6, y6, rfl, h6.far V1 (noInt3 _ _ _ _ _ _ _) (fa3 _ _ _ _ _), belo3 B0 (by omega) _ _ _⟩
      · by_cases q4 : 9 < B
        ·
          have dq1 : decide (q < 1) = false := by simpa using q1
          have dq2 : decide (5 < q) = false := by simpa using q2
          have dq3 : decide (B < 0) = false := by simpa using q3
          have dq4 : decide (9 < B) = true := by simpa using q4
          clear hb
          have B0 : Below w.heap.size w w := Below.refl _ _
          go_enter Tryz.func10, Tryz.ntmps10
          go_wp2_with fail
          refine ent2 w _ _ _ _ (Q := fun W => Calls Tryz.prog _ _ W _) ?_
          intro x1 hb hs_x1 V0 V1
          replace B0 := step B0 hb
          clear hb hs_x1
          refine (rint5 0 (by omega) (by omega) x1).mono ?_
          rintro e x2 ⟨s6, a6, l6, c6, z6, b6, m6, d6, y6, rfl, h6, -, -, hb⟩
          replace V0 := Va.after hb V0
          replace V1 := Va.after hb V1
          replace B0 := step B0 hb
          clear hb
          rw [show Rat.divInt 0 1 = 0 from by decide +kernel] at h6
          have c_V1 := V1.d0
          have f0_V1 := V1.frozen 0
          have d_V1 := V1.d1
          have f1_V1 := V1.frozen 1
          have e_V1 := V1.d2
          have f2_V1 := V1.frozen 2
          have l_V1 := V1.lt
          have m_V1 := Nat.le_of_lt l_V1
          go_wp2_with fail
          refine bodyPost_ret (results_rat1 rfl rfl (V1.set3 _ _ _)) rfl ?_
          exact ⟨s6, a6, l6, c6, z6, b6, m6, d6, y6, rfl, h6.far V1 (noInt3 _ _ _ _ _ _ _) (fa3 _ _ _ _ _), belo3 B0 (by omega) _ _ _⟩
        · exfalso; omega

theorem places_far (q B : Int) (hB : B < 0 ∨ 9 < B) (s : Bool) (a : Option Addr) (l c : Nat) (b : Option Addr) (m d : Nat) (w : World) :
    Calls Tryz.prog 9 #[.agg #[.bool s, .slice a l c, .slice b m d], .int .i64 B, .int .i64 q] w fun e w' => e = .returned (.tuple #[.agg #[.bool false, .slice none 0 0, .slice none 0 0], .int .i64 2]) ∧ Below w.heap.size w w' := by
  rcases hB with hB | hB
  ·
    have t0 : decide (B < 0) = true := by simpa using hB
    have B0 : Below w.heap.size w w := Below.refl _ _
    go_enter Tryz.func9, Tryz.ntmps9
    go_wp2_with fail
    refine bodyPost_ret (results_rt rfl rfl (by have := Va.new (w.alloc (Obj.cells #[Value.bool s, Value.slice a l c, Value.slice b m d] 30)) 30 #[Value.bool false, Value.slice none 0 0, Value.slice none 0 0]; simp only [World.alloc, Array.size_push] at this ⊢; exact this)) rfl ?_
    exact ⟨rfl, ((Below.refl _ _).alloc (Nat.le_refl _) _).alloc (by simp) _⟩
  ·
    have t0 : decide (B < 0) = false := by simp; omega
    have t1 : decide (9 < B) = true := by simp; omega
    have t2 : ¬ (B < 0) := by omega
    have B0 : Below w.heap.size w w := Below.refl _ _
    go_enter Tryz.func9, Tryz.ntmps9
    go_wp2_with fail
    refine bodyPost_ret (results_rt rfl rfl (by have := Va.new (w.alloc (Obj.cells #[Value.bool s, Value.slice a l c, Value.slice b m d] 30)) 30 #[Value.bool false, Value.slice none 0 0, Value.slice none 0 0]; simp only [World.alloc, Array.size_push] at this ⊢; exact this)) rfl ?_
    exact ⟨rfl, ((Below.refl _ _).alloc (Nat.le_refl _) _).alloc (by simp) _⟩

set_option maxHeartbeats 4000000 in
theorem places_mode (q : Int) (hq : q < 1 ∨ 5 < q) (s1 : Bool) (a1 : Option Addr) (l1 c1 : Nat) (b1 : Option Addr) (m1 d1 : Nat) (p : Nat) (hp : p ≤ 9) (w : World) :
    Calls Tryz.prog 9 #[.agg #[.bool s1, .slice a1 l1 c1, .slice b1 m1 d1], .int .i64 p, .int .i64 q] w fun e w' => e = .returned (.tuple #[.agg #[.bool false, .slice none 0 0, .slice none 0 0], .int .i64 2]) ∧ Below w.heap.size w w' := by
  (have HQ : Hid (q < 1 ∨ 5 < q ∨ (tenth p).num ≤ 0) := by rcases hq with h | h; exact Or.inl h; exact Or.inr (Or.inl h)); clear hq; (have t0 : decide ((p : Int) < 0) = false := by first | (simp; done) | (simp; omega)); (have t1 : decide (9 < (p : Int)) = false := by first | (simp; done) | (simp; omega)); have HT : Hid (Short (tenth p)) := tenth_short hp; have HP : Hid (p ≤ 9) := hp; clear hp; have B0 : Below w.heap.size w w := Below.refl _ _
  go_enter Tryz.func9, Tryz.ntmps9
  (go_wp2_with fail); refine ent2 w _ _ _ _ (Q := fun W => Calls Tryz.prog _ _ W _) ?_; intro x1 hb hs_x1 V0 V1; replace B0 := step B0 hb; clear hb hs_x1; refine (small_any 10 ⟨by omega, by omega⟩ x1).mono ?_; rintro e x2 ⟨b3, m3, d3, y3, rfl, h3, e3, hb⟩; replace V0 := Va.after hb V0; replace V1 := Va.after hb V1; replace B0 := step B0 hb; clear hb; (go_wp2_with fail); refine (pow_ten b3 m3 d3 y3 p x2 h3 e3 HP.out).mono ?_; rintro e x3 ⟨b4, m4, d4, y4, rfl, h4, e4, hb⟩; replace V0 := Va.after hb V0; replace V1 := Va.after hb V1; replace h3 := Nt.after hb h3; replace B0 := step B0 hb; clear hb; have E4 : Hid (num y4 = 10 ^ p) := e4; clear e4; (go_wp2_with fail); clear h3; refine ent1 x3 _ _ (Q := fun W => Code.wp Tryz.prog _ _ _ W) ?_; intro x4 hb hs_x4 Vp; replace V0 := Va.after hb V0; replace V1 := Va.after hb V1; replace h4 := Nt.after hb h4; replace B0 := step B0 hb; clear hb hs_x4; (have LS : Hid (∀ W, Below x4.heap.size x4 W → (fun W => W.cell? ⟨x3.heap.size, 0, none⟩ = some (.slice b4 m4 d4)) W) := fun W hb => (Va.after hb Vp).cell)
  have lb_V0 := V0.lt; have L_V0 : Hid (Va x4 (w.heap.size) 30 #[.bool s1, .slice a1 l1 c1, .slice b1 m1 d1]) := V0; have lb_V1 := V1.lt; have L_V1 : Hid (Va x4 (w.heap.size + 1) 30 #[.bool false, .slice none 0 0, .slice none 0 0]) := V1; have lb_Vp := Vp.lt; have L_Vp : Hid (Va x4 (x3.heap.size) 26 #[.slice b4 m4 d4]) := Vp; have L_h4 : Hid (Nt x4 b4 m4 d4 y4) := h4; have L_B : Hid (Below w.heap.size w x4) := B0; clear V0 V1 Vp h4 B0; have BX := Below.refl x4.heap.size x4
  go_cut [10, 11] (fun s10 s11 wx => ∃ (b10 : Nat) (s2 : Bool) (a2 : Option Addr) (l2 c2 : Nat) (z2 : List Int) (b2 : Option Addr) (m2 d2 : Nat) (y2 : List Int), s10 = .pointer (some ⟨b10, 0, none⟩) ∧ s11 = .int .i64 0 ∧ Hid (Va wx b10 30 #[.bool s2, .slice a2 l2 c2, .slice b2 m2 d2]) ∧ Hid (Rt wx s2 a2 l2 c2 z2 b2 m2 d2 y2 (tenth p)) ∧ Hid (Below x4.heap.size x4 wx))
  case first =>
    refine wp_region_noPanic ?_; replace BX := Below.drew BX; refine wp_region_held_drew (S := (fun W => W.cell? ⟨x3.heap.size, 0, none⟩ = some (.slice b4 m4 d4))) (by kernel_rfl) (LS.out _ BX) (fun hHeld => ?_); (obtain ⟨x5, hxd⟩ : ∃ xd, xd = x4.drew := ⟨_, rfl⟩); rw [← hxd] at BX hHeld ⊢; clear hxd; refine tk 1 rfl hHeld ?_; simp only [gA, gB, gC, Act.put, gD, gE, gF]; refine wpAnyH_ready (rs := [0, 7]) (by kernel_rfl) (by simp) ?_; refine AllReadyH.cons rfl (fun K hK => ?_) (AllReadyH.cons rfl (fun K hK => ?_) AllReadyH.nil)
    ·
      simp only [gA, gB]; (go_simp); refine (wsmall_any 1 (by omega) (by omega) _).mono ?_; rintro e x6 ⟨s5, a5, l5, c5, z5, rfl, h5, e5, hb⟩; replace BX := step BX hb; clear hb; have E5 : Hid (iv s5 z5 = 1) := e5; clear e5; (try go_wp2_with fail); refine hK.out _ _ (LS.out _ BX) (fun hHeld => ?_); clear hK K; refine wpAnyH_ready (rs := [2, 7]) (by kernel_rfl) (by simp) ?_; refine AllReadyH.cons rfl (fun K hK => ?_) (AllReadyH.cons rfl (fun K hK => ?_) AllReadyH.nil)
      ·
        simp only [gA, gB, gC]; (go_simp); refine (above7 b4 m4 d4 y4 _ (Nt.after BX L_h4.out)).mono ?_; rintro e x7 ⟨rfl, h6, hb⟩; replace h5 := It.after hb h5; replace BX := step BX hb; clear hb; (try go_wp2_with fail); refine hK.out _ _ (LS.out _ BX) (fun hHeld => ?_); clear hK K; refine wpAnyH_ready (rs := [3, 7]) (by kernel_rfl) (by simp) ?_; refine AllReadyH.cons rfl (fun K hK => ?_) (AllReadyH.cons rfl (fun K hK => ?_) AllReadyH.nil)
        ·
          simp only [gA, gB, gC]; (go_simp); refine (qnew_ok s5 false a5 b4 l5 c5 m4 d4 z5 y4 _ h5 h6 (by rw [iv_f, E4.out]; have := Int.pow_pos (n := 10) (m := p) (by omega); omega)).mono ?_; rintro e x8 ⟨er, s2, a2, l2, c2, z2, b2, m2, d2, y2, v', rfl, h2, hra, hb⟩; replace h5 := It.after hb h5; replace h6 := It.after hb h6; replace BX := step BX hb; clear hb; rw [E5.out, iv_f, E4.out, tenth_divInt] at hra
          rcases hra.out with ⟨-, e8, e9⟩ | ⟨h9, -⟩
          rotate_left
          · exact absurd HT.out h9
          subst e8; subst e9; clear hra; (try go_wp2_with fail); refine hK.out _ _ (LS.out _ BX) (fun hHeld => ?_); clear hK K; refine tk 4 rfl hHeld ?_; simp only [gA, gB, gC, Act.put, gD, gE, gF]; refine tk 5 rfl hHeld ?_; simp only [gA, gB, gC, Act.put, gD, gE, gF]; refine tk 6 rfl hHeld ?_; simp only [gA, gB, gC, Act.put, gD, gE, gF]; refine wpAnyH_ready (rs := [7]) (by kernel_rfl) (by simp) ?_; refine AllReadyH.cons rfl (fun K hK => ?_) AllReadyH.nil
          ·
            simp only [gA, gB, gC]; (go_simp); have sz_Vu := BX.size; refine ent1 _ _ _ (Q := fun V => K _ V) ?_; intro x9 hb hs_ Vu; replace h5 := It.after hb h5; replace h6 := It.after hb h6; replace h2 := Rt.after hb h2; replace BX := step BX hb; clear hb hs_; refine hK.out _ _ (LS.out _ BX) (fun hHeld => ?_); clear hK K; have c_Vu := Vu.d0; have f0_Vu := Vu.frozen 0; have d_Vu := Vu.d1; have f1_Vu := Vu.frozen 1; have e_Vu := Vu.d2; have f2_Vu := Vu.frozen 2; have l_Vu := Vu.lt; have m_Vu := Nat.le_of_lt l_Vu; refine wpAnyH_ready (rs := [8]) (by kernel_rfl) (by simp) ?_; refine AllReadyH.cons rfl (fun K hK => ?_) AllReadyH.nil; simp only [gA, gB, gC]; (go_simp); clear c_Vu f0_Vu d_Vu f1_Vu e_Vu f2_Vu l_Vu m_Vu; refine sto3 Vu (.bool s2) (.slice a2 l2 c2) (.slice b2 m2 d2) (Q := fun W => K _ W) ?_; intro x10 V' oth far; replace h5 := h5.far Vu (noInt3 _ _ _ _ _ _ _) far.1; replace h6 := h6.far Vu (noInt3 _ _ _ _ _ _ _) far.1; replace h2 := h2.far Vu (noInt3 _ _ _ _ _ _ _) far.1
            replace BX := far.2 _ _ (by first | omega | (simp; omega)) BX; replace Vu := V'; clear oth far; refine hK.out _ _ (LS.out _ BX) (fun hHeld => ?_); clear hK K; refine tk 9 rfl hHeld ?_; simp only [gA, gB, gC, Act.put, gD, gE, gF]; refine wpAnyH_done (by kernel_rfl) ?_ _; refine NoPanic.normal ?_; clear hHeld; (go_wp2_with fail)
            go_meet
            exact ⟨_, s2, a2, l2, c2, z2, b2, m2, d2, y2, rfl, rfl, Vu, h2, BX⟩
        ·
          simp only [gA, gB, gC]; (go_simp); have sz_Vu := BX.size; refine ent1 _ _ _ (Q := fun V => K _ V) ?_; intro x8 hb hs_ Vu; replace h5 := It.after hb h5; replace h6 := It.after hb h6; replace BX := step BX hb; clear hb hs_; refine hK.out _ _ (LS.out _ BX) (fun hHeld => ?_); clear hK K; refine wpAnyH_ready (rs := [3]) (by kernel_rfl) (by simp) ?_; refine AllReadyH.cons rfl (fun K hK => ?_) AllReadyH.nil
          ·
            simp only [gA, gB, gC]; (go_simp); refine (qnew_ok s5 false a5 b4 l5 c5 m4 d4 z5 y4 _ h5 h6 (by rw [iv_f, E4.out]; have := Int.pow_pos (n := 10) (m := p) (by omega); omega)).mono ?_; rintro e x9 ⟨er, s2, a2, l2, c2, z2, b2, m2, d2, y2, v', rfl, h2, hra, hb⟩; replace Vu := Va.after hb Vu; replace h5 := It.after hb h5; replace h6 := It.after hb h6; replace BX := step BX hb; clear hb; rw [E5.out, iv_f, E4.out, tenth_divInt] at hra
            rcases hra.out with ⟨-, e8, e9⟩ | ⟨h9, -⟩
            rotate_left
            · exact absurd HT.out h9
            subst e8; subst e9; clear hra; (try go_wp2_with fail); refine hK.out _ _ (LS.out _ BX) (fun hHeld => ?_); clear hK K; refine tk 4 rfl hHeld ?_; simp only [gA, gB, gC, Act.put, gD, gE, gF]; refine tk 5 rfl hHeld ?_; simp only [gA, gB, gC, Act.put, gD, gE, gF]; refine tk 6 rfl hHeld ?_; simp only [gA, gB, gC, Act.put, gD, gE, gF]; have c_Vu := Vu.d0; have f0_Vu := Vu.frozen 0; have d_Vu := Vu.d1; have f1_Vu := Vu.frozen 1; have e_Vu := Vu.d2; have f2_Vu := Vu.frozen 2; have l_Vu := Vu.lt; have m_Vu := Nat.le_of_lt l_Vu; refine wpAnyH_ready (rs := [8]) (by kernel_rfl) (by simp) ?_; refine AllReadyH.cons rfl (fun K hK => ?_) AllReadyH.nil; simp only [gA, gB, gC]; (go_simp); clear c_Vu f0_Vu d_Vu f1_Vu e_Vu f2_Vu l_Vu m_Vu; refine sto3 Vu (.bool s2) (.slice a2 l2 c2) (.slice b2 m2 d2) (Q := fun W => K _ W) ?_; intro x10 V' oth far; replace h5 := h5.far Vu (noInt3 _ _ _ _ _ _ _) far.1; replace h6 := h6.far Vu (noInt3 _ _ _ _ _ _ _) far.1; replace h2 := h2.far Vu (noInt3 _ _ _ _ _ _ _) far.1
            replace BX := far.2 _ _ (by first | omega | (simp; omega)) BX; replace Vu := V'; clear oth far; refine hK.out _ _ (LS.out _ BX) (fun hHeld => ?_); clear hK K; refine tk 9 rfl hHeld ?_; simp only [gA, gB, gC, Act.put, gD, gE, gF]; refine wpAnyH_done (by kernel_rfl) ?_ _; refine NoPanic.normal ?_; clear hHeld; (go_wp2_with fail)
            go_meet
            exact ⟨_, s2, a2, l2, c2, z2, b2, m2, d2, y2, rfl, rfl, Vu, h2, BX⟩
      ·
        simp only [gA, gB, gC]; (go_simp); have sz_Vu := BX.size; refine ent1 _ _ _ (Q := fun V => K _ V) ?_; intro x7 hb hs_ Vu; replace h5 := It.after hb h5; replace BX := step BX hb; clear hb hs_; refine hK.out _ _ (LS.out _ BX) (fun hHeld => ?_); clear hK K; refine wpAnyH_ready (rs := [2]) (by kernel_rfl) (by simp) ?_; refine AllReadyH.cons rfl (fun K hK => ?_) AllReadyH.nil
        ·
          simp only [gA, gB, gC]; (go_simp); refine (above7 b4 m4 d4 y4 _ (Nt.after BX L_h4.out)).mono ?_; rintro e x8 ⟨rfl, h6, hb⟩; replace Vu := Va.after hb Vu; replace h5 := It.after hb h5; replace BX := step BX hb; clear hb; (try go_wp2_with fail); refine hK.out _ _ (LS.out _ BX) (fun hHeld => ?_); clear hK K; refine wpAnyH_ready (rs := [3]) (by kernel_rfl) (by simp) ?_; refine AllReadyH.cons rfl (fun K hK => ?_) AllReadyH.nil
          ·
            simp only [gA, gB, gC]; (go_simp); refine (qnew_ok s5 false a5 b4 l5 c5 m4 d4 z5 y4 _ h5 h6 (by rw [iv_f, E4.out]; have := Int.pow_pos (n := 10) (m := p) (by omega); omega)).mono ?_; rintro e x9 ⟨er, s2, a2, l2, c2, z2, b2, m2, d2, y2, v', rfl, h2, hra, hb⟩; replace Vu := Va.after hb Vu; replace h5 := It.after hb h5; replace h6 := It.after hb h6; replace BX := step BX hb; clear hb; rw [E5.out, iv_f, E4.out, tenth_divInt] at hra
            rcases hra.out with ⟨-, e8, e9⟩ | ⟨h9, -⟩
            rotate_left
            · exact absurd HT.out h9
            subst e8; subst e9; clear hra; (try go_wp2_with fail); refine hK.out _ _ (LS.out _ BX) (fun hHeld => ?_); clear hK K; refine tk 4 rfl hHeld ?_; simp only [gA, gB, gC, Act.put, gD, gE, gF]; refine tk 5 rfl hHeld ?_; simp only [gA, gB, gC, Act.put, gD, gE, gF]; refine tk 6 rfl hHeld ?_; simp only [gA, gB, gC, Act.put, gD, gE, gF]; have c_Vu := Vu.d0; have f0_Vu := Vu.frozen 0; have d_Vu := Vu.d1; have f1_Vu := Vu.frozen 1; have e_Vu := Vu.d2; have f2_Vu := Vu.frozen 2; have l_Vu := Vu.lt; have m_Vu := Nat.le_of_lt l_Vu; refine wpAnyH_ready (rs := [8]) (by kernel_rfl) (by simp) ?_; refine AllReadyH.cons rfl (fun K hK => ?_) AllReadyH.nil; simp only [gA, gB, gC]; (go_simp); clear c_Vu f0_Vu d_Vu f1_Vu e_Vu f2_Vu l_Vu m_Vu; refine sto3 Vu (.bool s2) (.slice a2 l2 c2) (.slice b2 m2 d2) (Q := fun W => K _ W) ?_; intro x10 V' oth far; replace h5 := h5.far Vu (noInt3 _ _ _ _ _ _ _) far.1; replace h6 := h6.far Vu (noInt3 _ _ _ _ _ _ _) far.1; replace h2 := h2.far Vu (noInt3 _ _ _ _ _ _ _) far.1
            replace BX := far.2 _ _ (by first | omega | (simp; omega)) BX; replace Vu := V'; clear oth far; refine hK.out _ _ (LS.out _ BX) (fun hHeld => ?_); clear hK K; refine tk 9 rfl hHeld ?_; simp only [gA, gB, gC, Act.put, gD, gE, gF]; refine wpAnyH_done (by kernel_rfl) ?_ _; refine NoPanic.normal ?_; clear hHeld; (go_wp2_with fail)
            go_meet
            exact ⟨_, s2, a2, l2, c2, z2, b2, m2, d2, y2, rfl, rfl, Vu, h2, BX⟩
    ·
      simp only [gA, gB, gC]; (go_simp); have sz_Vu := BX.size; refine ent1 _ _ _ (Q := fun V => K _ V) ?_; intro x6 hb hs_ Vu; replace BX := step BX hb; clear hb hs_; refine hK.out _ _ (LS.out _ BX) (fun hHeld => ?_); clear hK K; refine wpAnyH_ready (rs := [0]) (by kernel_rfl) (by simp) ?_; refine AllReadyH.cons rfl (fun K hK => ?_) AllReadyH.nil
      ·
        simp only [gA, gB]; (go_simp); refine (wsmall_any 1 (by omega) (by omega) _).mono ?_; rintro e x7 ⟨s5, a5, l5, c5, z5, rfl, h5, e5, hb⟩; replace Vu := Va.after hb Vu; replace BX := step BX hb; clear hb; have E5 : Hid (iv s5 z5 = 1) := e5; clear e5; (try go_wp2_with fail); refine hK.out _ _ (LS.out _ BX) (fun hHeld => ?_); clear hK K; refine wpAnyH_ready (rs := [2]) (by kernel_rfl) (by simp) ?_; refine AllReadyH.cons rfl (fun K hK => ?_) AllReadyH.nil
        ·
          simp only [gA, gB, gC]; (go_simp); refine (above7 b4 m4 d4 y4 _ (Nt.after BX L_h4.out)).mono ?_; rintro e x8 ⟨rfl, h6, hb⟩; replace Vu := Va.after hb Vu; replace h5 := It.after hb h5; replace BX := step BX hb; clear hb; (try go_wp2_with fail); refine hK.out _ _ (LS.out _ BX) (fun hHeld => ?_); clear hK K; refine wpAnyH_ready (rs := [3]) (by kernel_rfl) (by simp) ?_; refine AllReadyH.cons rfl (fun K hK => ?_) AllReadyH.nil
          ·
            simp only [gA, gB, gC]; (go_simp); refine (qnew_ok s5 false a5 b4 l5 c5 m4 d4 z5 y4 _ h5 h6 (by rw [iv_f, E4.out]; have := Int.pow_pos (n := 10) (m := p) (by omega); omega)).mono ?_; rintro e x9 ⟨er, s2, a2, l2, c2, z2, b2, m2, d2, y2, v', rfl, h2, hra, hb⟩; replace Vu := Va.after hb Vu; replace h5 := It.after hb h5; replace h6 := It.after hb h6; replace BX := step BX hb; clear hb; rw [E5.out, iv_f, E4.out, tenth_divInt] at hra
            rcases hra.out with ⟨-, e8, e9⟩ | ⟨h9, -⟩
            rotate_left
            · exact absurd HT.out h9
            subst e8; subst e9; clear hra; (try go_wp2_with fail); refine hK.out _ _ (LS.out _ BX) (fun hHeld => ?_); clear hK K; refine tk 4 rfl hHeld ?_; simp only [gA, gB, gC, Act.put, gD, gE, gF]; refine tk 5 rfl hHeld ?_; simp only [gA, gB, gC, Act.put, gD, gE, gF]; refine tk 6 rfl hHeld ?_; simp only [gA, gB, gC, Act.put, gD, gE, gF]; have c_Vu := Vu.d0; have f0_Vu := Vu.frozen 0; have d_Vu := Vu.d1; have f1_Vu := Vu.frozen 1; have e_Vu := Vu.d2; have f2_Vu := Vu.frozen 2; have l_Vu := Vu.lt; have m_Vu := Nat.le_of_lt l_Vu; refine wpAnyH_ready (rs := [8]) (by kernel_rfl) (by simp) ?_; refine AllReadyH.cons rfl (fun K hK => ?_) AllReadyH.nil; simp only [gA, gB, gC]; (go_simp); clear c_Vu f0_Vu d_Vu f1_Vu e_Vu f2_Vu l_Vu m_Vu; refine sto3 Vu (.bool s2) (.slice a2 l2 c2) (.slice b2 m2 d2) (Q := fun W => K _ W) ?_; intro x10 V' oth far; replace h5 := h5.far Vu (noInt3 _ _ _ _ _ _ _) far.1; replace h6 := h6.far Vu (noInt3 _ _ _ _ _ _ _) far.1; replace h2 := h2.far Vu (noInt3 _ _ _ _ _ _ _) far.1
            replace BX := far.2 _ _ (by first | omega | (simp; omega)) BX; replace Vu := V'; clear oth far; refine hK.out _ _ (LS.out _ BX) (fun hHeld => ?_); clear hK K; refine tk 9 rfl hHeld ?_; simp only [gA, gB, gC, Act.put, gD, gE, gF]; refine wpAnyH_done (by kernel_rfl) ?_ _; refine NoPanic.normal ?_; clear hHeld; (go_wp2_with fail)
            go_meet
            exact ⟨_, s2, a2, l2, c2, z2, b2, m2, d2, y2, rfl, rfl, Vu, h2, BX⟩
  case rest =>
    clear BX; obtain ⟨b10, s2, a2, l2, c2, z2, b2, m2, d2, y2, rfl, rfl, Vu', h2', BX'⟩ := hcut; have Vu := Vu'.out; have h2 := h2'.out; have BX := BX'.out; clear Vu' h2' BX'; have V0 := Va.after BX L_V0.out; have V1 := Va.after BX L_V1.out; have Vp := Va.after BX L_Vp.out; have h4 := Nt.after BX L_h4.out; have B0 := step L_B.out BX; have c_V0 := V0.d0; have f0_V0 := V0.frozen 0; have d_V0 := V0.d1; have f1_V0 := V0.frozen 1; have e_V0 := V0.d2; have f2_V0 := V0.frozen 2; have l_V0 := V0.lt; have m_V0 := Nat.le_of_lt l_V0; have c_Vu := Vu.d0; have f0_Vu := Vu.frozen 0; have d_Vu := Vu.d1; have f1_Vu := Vu.frozen 1; have e_Vu := Vu.d2; have f2_Vu := Vu.frozen 2; have l_Vu := Vu.lt; have m_Vu := Nat.le_of_lt l_Vu; (go_wp2_with fail); refine (units_bad q s1 a1 l1 c1 b1 m1 d1 s2 a2 l2 c2 z2 b2 m2 d2 y2 (tenth p) wc h2 HQ.out).mono ?_; rintro e x5 ⟨rfl, hb⟩; replace V0 := Va.after hb V0; replace V1 := Va.after hb V1; replace Vp := Va.after hb Vp; replace Vu := Va.after hb Vu
    replace h4 := Nt.after hb h4; replace h2 := Rt.after hb h2; replace B0 := step B0 hb; clear hb; clear c_V0 f0_V0 d_V0 f1_V0 e_V0 f2_V0 l_V0 m_V0 c_Vu f0_Vu d_Vu f1_Vu e_Vu f2_Vu l_Vu m_Vu; have c_V1 := V1.d0; have f0_V1 := V1.frozen 0; have d_V1 := V1.d1; have f1_V1 := V1.frozen 1; have e_V1 := V1.d2; have f2_V1 := V1.frozen 2; have l_V1 := V1.lt; have m_V1 := Nat.le_of_lt l_V1; (go_wp2_with fail); refine bodyPost_ret (results_rt rfl rfl (V1.set3 _ _ _)) rfl ?_; exact ⟨rfl, belo3 B0 (by omega) _ _ _⟩
end Go.Proofs.YtegfklapgbggfaaGreat
namespace Go.Proofs.YtegfklapgbggfaaGreat
open Go.RowKit Go.Shelf
set_option linter.unusedVariables false

theorem ra_uno {v x y : Rat} {e f : Int} (h1 : RA v e x) (h2 : RA v f y) : f = e ∧ y = x := by
  rcases h1 with ⟨a, b, c⟩ | ⟨a, b, c⟩ <;> rcases h2 with ⟨a', b', c'⟩ | ⟨a', b', c'⟩
  · exact ⟨by rw [b, b'], by rw [c, c']⟩
  · exact absurd a a'
  · exact absurd a' a
  · exact ⟨by rw [b, b'], by rw [c, c']⟩
theorem short_five7 : Short (mkRat 5 2) := ⟨Int.lt_of_lt_of_le (show (5 : Int) < pw 1 by decide) (pw_mono (by omega)), Int.lt_of_lt_of_le (show (2 : Int) < pw 1 by decide) (pw_mono (by omega))⟩
set_option maxHeartbeats 8000000 in
set_option maxRecDepth 4000 in
theorem places7_walk (s0 : Bool) (a0 : Option Addr) (l0 c0 : Nat) (z0 : List Int) (b0 : Option Addr) (m0 d0 : Nat) (y0 : List Int) (B q : Int) (w : World) (h1 : Sl w a0 l0 z0) (h2 : Sl w b0 m0 y0) (k1 : l0 ≤ c0) (k2 : m0 ≤ d0) (wb : (Lit.int .i64 B).wf = true) (wx : (Lit.int .i64 q).wf = true) :
    Calls Tryz.prog 4 #[.agg #[.bool s0, .slice a0 l0 c0, .slice b0 m0 d0], .int .i64 B, .int .i64 q] w fun e w' => e = .returned (.bool true) ∧ Below w.heap.size w w' := by
  clear wx wb
  have B0 : Below w.heap.size w w := Below.refl _ _
  go_enter Tryz.func4, Tryz.ntmps4
  go_wp2_with fail
  refine ent1 w _ _ (Q := fun W => Calls Tryz.prog _ _ W _) ?_
  intro x1 hb hs_x1 V0
  replace h1 := Sl.after hb h1
  replace h2 := Sl.after hb h2
  replace B0 := step B0 hb
  clear hb hs_x1
  refine (of7 s0 a0 l0 c0 z0 b0 m0 d0 y0 x1 h1 h2 k1 k2).mono ?_
  rintro e x2 ⟨sr, ar, lr, cr, zr, br, mr, dr, yr, sa, aa, la, ca, za, ba, ma, da, ya, v, rfl, hr, ha, hb⟩
  replace V0 := Va.after hb V0
  replace h1 := Sl.after hb h1
  replace h2 := Sl.after hb h2
  replace B0 := step B0 hb
  clear hb
  have hvS : Hid (Short v) := hr.2.2.2.2
  go_wp2_with fail
  clear h1 h2
  refine ent2 x2 _ _ _ _ (Q := fun W => Calls Tryz.prog _ _ W _) ?_
  intro x3 hb hs_x3 Xr Xa
  replace V0 := Va.after hb V0
  replace hr := Rt.after hb hr
  replace ha := Rr.after hb ha
  replace B0 := step B0 hb
  clear hb hs_x3
  clear V0
  by_cases hB : B < 0 ∨ 9 < B
  ·
    have HB : Hid (B < 0 ∨ 9 < B) := hB
    have HM : Hid (q < 1 ∨ 5 < q ∨ B < 0 ∨ 9 < B) := by show _ ∨ _; omega
    clear hB
    refine (places_far q B HB.out sr ar lr cr br mr dr x3).mono ?_
    rintro e x4 ⟨rfl, hb⟩
    replace Xr := Va.after hb Xr
    replace Xa := Va.after hb Xa
    replace hr := Rt.after hb hr
    replace ha := Rr.after hb ha
    replace B0 := step B0 hb
    clear hb
    have c_Xa := Xa.d0
    have f0_Xa := Xa.frozen 0
    have d_Xa := Xa.d1
    have f1_Xa := Xa.frozen 1
    have e_Xa := Xa.d2
    have f2_Xa := Xa.frozen 2
    have l_Xa := Xa.lt
    have m_Xa := Nat.le_of_lt l_Xa
    have p0_Xa := (Xa.old (.cells #[.bool false, .slice none 0 0, .slice none 0 0] 30)).d0
    have q0_Xa := (Xa.old (.cells #[.bool false, .slice none 0 0, .slice none 0 0] 30)).frozen 0
    have p1_Xa := (Xa.old (.cells #[.bool false, .slice none 0 0, .slice none 0 0] 30)).d1
    have q1_Xa := (Xa.old (.cells #[.bool false, .slice none 0 0, .slice none 0 0] 30)).frozen 1
    have p2_Xa := (Xa.old (.cells #[.bool false, .slice none 0 0, .slice none 0 0] 30)).d2
    have q2_Xa := (Xa.old (.cells #[.bool false, .slice none 0 0, .slice none 0 0] 30)).frozen 2
    go_wp2_with fail
    refine ent1 x4 _ _ (Q := fun W => Calls Tryz.prog _ _ W _) ?_
    intro x5 hb hs_x5 Xy
    replace Xr := Va.after hb Xr
    replace Xa := Va.after hb Xa
    replace hr := Rt.after hb hr
    replace ha := Rr.after hb ha
    replace B0 := step B0 hb
    clear hb hs_x5
    refine (rplaces_bad q B sa aa la ca ba ma da x5 HM.out).mono ?_
    rintro e x6 ⟨sk, ak, lk, ck, zk, bk, mk, dk, yk, rfl, hk, hb⟩
    replace Xr := Va.after hb Xr
    replace Xa := Va.after hb Xa
    replace Xy := Va.after hb Xy
    replace hr := Rt.after hb hr
    replace ha := Rr.after hb ha
    replace B0 := step B0 hb
    clear hb
    clear c_Xa f0_Xa d_Xa f1_Xa e_Xa f2_Xa l_Xa m_Xa p0_Xa q0_Xa p1_Xa q1_Xa p2_Xa q2_Xa
    go_wp2_with fail
    refine ent1 x6 _ _ (Q := fun W => Calls Tryz.prog _ _ W _) ?_
    intro x7 hb hs_x7 Xk
    replace Xr := Va.after hb Xr
    replace Xa := Va.after hb Xa
    replace Xy := Va.after hb Xy
    replace hr := Rt.after hb hr
    replace ha := Rr.after hb ha
    replace hk := Rr.after hb hk
    replace B0 := step B0 hb
    clear hb hs_x7
    refine (qsmall_to 5 2 (by omega) (by omega) (by omega) (by omega) (by omega) (mkRat 5 2) x7 (by decide +kernel) short_five7).mono ?_
    rintro e x8 ⟨s5, a5, l5, c5, z5, b5, m5, d5, y5, rfl, h5, hb⟩
    replace Xr := Va.after hb Xr
    replace Xa := Va.after hb Xa
    replace Xy := Va.after hb Xy
    replace Xk := Va.after hb Xk
    replace hr := Rt.after hb hr
    replace ha := Rr.after hb ha
    replace hk := Rr.after hb hk
    replace B0 := step B0 hb
    clear hb
    go_wp2_with fail
    refine ent1 x8 _ _ (Q := fun W => Calls Tryz.prog _ _ W _) ?_
    intro x9 hb hs_x9 X5
    replace Xr := Va.after hb Xr
    replace Xa := Va.after hb Xa
    replace Xy := Va.after hb Xy
    replace Xk := Va.after hb Xk
    replace hr := Rt.after hb hr
    replace ha := Rr.after hb ha
    replace hk := Rr.after hb hk
    replace h5 := Rt.after hb h5
    replace B0 := step B0 hb
    clear hb hs_x9
    refine (to_ok 3 (by omega) (by omega) s5 a5 l5 c5 z5 b5 m5 d5 y5 (mkRat 5 2) x9 h5).mono ?_
    rintro e x10 ⟨si, ai, li, ci, zi, rfl, hi, ei, hb⟩
    replace Xr := Va.after hb Xr
    replace Xa := Va.after hb Xa
    replace Xy := Va.after hb Xy
    replace Xk := Va.after hb Xk
    replace X5 := Va.after hb X5
    replace hr := Rt.after hb hr
    replace ha := Rr.after hb ha
    replace hk := Rr.after hb hk
    replace h5 := Rt.after hb h5
    replace B0 := step B0 hb
    clear hb
    have EI : Hid (iv si zi = 3) := ei.trans (by decide +kernel)
    clear ei
    have c_Xy := Xy.d0
    have f0_Xy := Xy.frozen 0
    have d_Xy := Xy.d1
    have f1_Xy := Xy.frozen 1
    have e_Xy := Xy.d2
    have f2_Xy := Xy.frozen 2
    have l_Xy := Xy.lt
    have m_Xy := Nat.le_of_lt l_Xy
    have c_Xk := Xk.d0
    have f0_Xk := Xk.frozen 0
    have d_Xk := Xk.d1
    have f1_Xk := Xk.frozen 1
    have e_Xk := Xk.d2
    have f2_Xk := Xk.frozen 2
    have l_Xk := Xk.lt
    have m_Xk := Nat.le_of_lt l_Xk
    have p0_Xy := (Xy.old (.cells #[.bool si, .slice ai li ci] 28)).d0
    have q0_Xy := (Xy.old (.cells #[.bool si, .slice ai li ci] 28)).frozen 0
    have p1_Xy := (Xy.old (.cells #[.bool si, .slice ai li ci] 28)).d1
    have q1_Xy := (Xy.old (.cells #[.bool si, .slice ai li ci] 28)).frozen 1
    have p2_Xy := (Xy.old (.cells #[.bool si, .slice ai li ci] 28)).d2
    have q2_Xy := (Xy.old (.cells #[.bool si, .slice ai li ci] 28)).frozen 2
    have p0_Xk := (Xk.old (.cells #[.bool si, .slice ai li ci] 28)).d0
    have q0_Xk := (Xk.old (.cells #[.bool si, .slice ai li ci] 28)).frozen 0
    have p1_Xk := (Xk.old (.cells #[.bool si, .slice ai li ci] 28)).d1
    have q1_Xk := (Xk.old (.cells #[.bool si, .slice ai li ci] 28)).frozen 1
    have p2_Xk := (Xk.old (.cells #[.bool si, .slice ai li ci] 28)).d2
    have q2_Xk := (Xk.old (.cells #[.bool si, .slice ai li ci] 28)).frozen 2
    go_wp2_with fail
    refine ent1 x10 _ _ (Q := fun W => Calls Tryz.prog _ _ W _) ?_
    intro x11 hb hs_x11 Vi
    replace Xr := Va.after hb Xr
    replace Xa := Va.after hb Xa
    replace Xy := Va.after hb Xy
    replace Xk := Va.after hb Xk
    replace X5 := Va.after hb X5
    replace hr := Rt.after hb hr
    replace ha := Rr.after hb ha
    replace hk := Rr.after hb hk
    replace h5 := Rt.after hb h5
    replace hi := It.after hb hi
    replace B0 := step B0 hb
    clear hb hs_x11
    refine (is7 false none 0 0 [] none 0 0 [] 0 sk ak lk ck zk bk mk dk yk x11 (Rt.nil _) hk).mono ?_
    rintro e x12 ⟨rfl, hb⟩
    replace Xr := Va.after hb Xr
    replace Xa := Va.after hb Xa
    replace Xy := Va.after hb Xy
    replace Xk := Va.after hb Xk
    replace X5 := Va.after hb X5
    replace Vi := Va.after hb Vi
    replace hr := Rt.after hb hr
    replace ha := Rr.after hb ha
    replace hk := Rr.after hb hk
    replace h5 := Rt.after hb h5
    replace hi := It.after hb hi
    replace B0 := step B0 hb
    clear hb
    clear c_Xy f0_Xy d_Xy f1_Xy e_Xy f2_Xy l_Xy m_Xy c_Xk f0_Xk d_Xk f1_Xk e_Xk f2_Xk l_Xk m_Xk p0_Xy q0_Xy p1_Xy q1_Xy p2_Xy q2_Xy p0_Xk q0_Xk p1_Xk q1_Xk p2_Xk q2_Xk
    have c_Vi := Vi.c0
    have f0_Vi := Vi.frozen 0
    have d_Vi := Vi.c1
    have f1_Vi := Vi.frozen 1
    have l_Vi := Vi.lt
    have m_Vi := Nat.le_of_lt l_Vi
    go_wp2_with fail
    refine (wsign_any si ai li ci zi x12 hi).mono ?_
    rintro e x13 ⟨rfl, hb⟩
    replace Xr := Va.after hb Xr
    replace Xa := Va.after hb Xa
    replace Xy := Va.after hb Xy
    replace Xk := Va.after hb Xk
    replace X5 := Va.after hb X5
    replace Vi := Va.after hb Vi
    replace hr := Rt.after hb hr
    replace ha := Rr.after hb ha
    replace hk := Rr.after hb hk
    replace h5 := Rt.after hb h5
    replace hi := It.after hb hi
    replace B0 := step B0 hb
    clear hb
    rw [EI.out, show Int.sign 3 = 1 from rfl]
    clear c_Vi f0_Vi d_Vi f1_Vi l_Vi m_Vi
    go_wp2_with fail
    go_ret
    exact ⟨rfl, B0⟩
  · obtain ⟨p, hp⟩ : ∃ p : Nat, B = (p : Int) := ⟨B.toNat, by omega⟩
    subst hp
    have HP : Hid (p ≤ 9) := by show p ≤ 9; omega
    clear hB
    by_cases hq : q < 1 ∨ 5 < q
    ·
      have HB : Hid (q < 1 ∨ 5 < q) := hq
      have HM : Hid (q < 1 ∨ 5 < q ∨ (p : Int) < 0 ∨ 9 < (p : Int)) := by show _ ∨ _; omega
      clear hq
      refine (places_mode q HB.out sr ar lr cr br mr dr p HP.out x3).mono ?_
      rintro e x4 ⟨rfl, hb⟩
      replace Xr := Va.after hb Xr
      replace Xa := Va.after hb Xa
      replace hr := Rt.after hb hr
      replace ha := Rr.after hb ha
      replace B0 := step B0 hb
      clear hb
      have c_Xa := Xa.d0
      have f0_Xa := Xa.frozen 0
      have d_Xa := Xa.d1
      have f1_Xa := Xa.frozen 1
      have e_Xa := Xa.d2
      have f2_Xa := Xa.frozen 2
      have l_Xa := Xa.lt
      have m_Xa := Nat.le_of_lt l_Xa
      have p0_Xa := (Xa.old (.cells #[.bool false, .slice none 0 0, .slice none 0 0] 30)).d0
      have q0_Xa := (Xa.old (.cells #[.bool false, .slice none 0 0, .slice none 0 0] 30)).frozen 0
      have p1_Xa := (Xa.old (.cells #[.bool false, .slice none 0 0, .slice none 0 0] 30)).d1
      have q1_Xa := (Xa.old (.cells #[.bool false, .slice none 0 0, .slice none 0 0] 30)).frozen 1
      have p2_Xa := (Xa.old (.cells #[.bool false, .slice none 0 0, .slice none 0 0] 30)).d2
      have q2_Xa := (Xa.old (.cells #[.bool false, .slice none 0 0, .slice none 0 0] 30)).frozen 2
      go_wp2_with fail
      refine ent1 x4 _ _ (Q := fun W => Calls Tryz.prog _ _ W _) ?_
      intro x5 hb hs_x5 Xy
      replace Xr := Va.after hb Xr
      replace Xa := Va.after hb Xa
      replace hr := Rt.after hb hr
      replace ha := Rr.after hb ha
      replace B0 := step B0 hb
      clear hb hs_x5
      refine (rplaces_bad q p sa aa la ca ba ma da x5 HM.out).mono ?_
      rintro e x6 ⟨sk, ak, lk, ck, zk, bk, mk, dk, yk, rfl, hk, hb⟩
      replace Xr := Va.after hb Xr
      replace Xa := Va.after hb Xa
      replace Xy := Va.after hb Xy
      replace hr := Rt.after hb hr
      replace ha := Rr.after hb ha
      replace B0 := step B0 hb
      clear hb
      clear c_Xa f0_Xa d_Xa f1_Xa e_Xa f2_Xa l_Xa m_Xa p0_Xa q0_Xa p1_Xa q1_Xa p2_Xa q2_Xa
      go_wp2_with fail
      refine ent1 x6 _ _ (Q := fun W => Calls Tryz.prog _ _ W _) ?_
      intro x7 hb hs_x7 Xk
      replace Xr := Va.after hb Xr
      replace Xa := Va.after hb Xa
      replace Xy := Va.after hb Xy
      replace hr := Rt.after hb hr
      replace ha := Rr.after hb ha
      replace hk := Rr.after hb hk
      replace B0 := step B0 hb
      clear hb hs_x7
      refine (qsmall_to 5 2 (by omega) (by omega) (by omega) (by omega) (by omega) (mkRat 5 2) x7 (by decide +kernel) short_five7).mono ?_
      rintro e x8 ⟨s5, a5, l5, c5, z5, b5, m5, d5, y5, rfl, h5, hb⟩
      replace Xr := Va.after hb Xr
      replace Xa := Va.after hb Xa
      replace Xy := Va.after hb Xy
      replace Xk := Va.after hb Xk
      replace hr := Rt.after hb hr
      replace ha := Rr.after hb ha
      replace hk := Rr.after hb hk
      replace B0 := step B0 hb
      clear hb
      go_wp2_with fail
      refine ent1 x8 _ _ (Q := fun W => Calls Tryz.prog _ _ W _) ?_
      intro x9 hb hs_x9 X5
      replace Xr := Va.after hb Xr
      replace Xa := Va.after hb Xa
      replace Xy := Va.after hb Xy
      replace Xk := Va.after hb Xk
      replace hr := Rt.after hb hr
      replace ha := Rr.after hb ha
      replace hk := Rr.after hb hk
      replace h5 := Rt.after hb h5
      replace B0 := step B0 hb
      clear hb hs_x9
      refine (to_ok 3 (by omega) (by omega) s5 a5 l5 c5 z5 b5 m5 d5 y5 (mkRat 5 2) x9 h5).mono ?_
      rintro e x10 ⟨si, ai, li, ci, zi, rfl, hi, ei, hb⟩
      replace Xr := Va.after hb Xr
      replace Xa := Va.after hb Xa
      replace Xy := Va.after hb Xy
      replace Xk := Va.after hb Xk
      replace X5 := Va.after hb X5
      replace hr := Rt.after hb hr
      replace ha := Rr.after hb ha
      replace hk := Rr.after hb hk
      replace h5 := Rt.after hb h5
      replace B0 := step B0 hb
      clear hb
      have EI : Hid (iv si zi = 3) := ei.trans (by decide +kernel)
      clear ei
      have c_Xy := Xy.d0
      have f0_Xy := Xy.frozen 0
      have d_Xy := Xy.d1
      have f1_Xy := Xy.frozen 1
      have e_Xy := Xy.d2
      have f2_Xy := Xy.frozen 2
      have l_Xy := Xy.lt
      have m_Xy := Nat.le_of_lt l_Xy
      have c_Xk := Xk.d0
      have f0_Xk := Xk.frozen 0
      have d_Xk := Xk.d1
      have f1_Xk := Xk.frozen 1
      have e_Xk := Xk.d2
      have f2_Xk := Xk.frozen 2
      have l_Xk := Xk.lt
      have m_Xk := Nat.le_of_lt l_Xk
      have p0_Xy := (Xy.old (.cells #[.bool si, .slice ai li ci] 28)).d0
      have q0_Xy := (Xy.old (.cells #[.bool si, .slice ai li ci] 28)).frozen 0
      have p1_Xy := (Xy.old (.cells #[.bool si, .slice ai li ci] 28)).d1
      have q1_Xy := (Xy.old (.cells #[.bool si, .slice ai li ci] 28)).frozen 1
      have p2_Xy := (Xy.old (.cells #[.bool si, .slice ai li ci] 28)).d2
      have q2_Xy := (Xy.old (.cells #[.bool si, .slice ai li ci] 28)).frozen 2
      have p0_Xk := (Xk.old (.cells #[.bool si, .slice ai li ci] 28)).d0
      have q0_Xk := (Xk.old (.cells #[.bool si, .slice ai li ci] 28)).frozen 0
      have p1_Xk := (Xk.old (.cells #[.bool si, .slice ai li ci] 28)).d1
      have q1_Xk := (Xk.old (.cells #[.bool si, .slice ai li ci] 28)).frozen 1
      have p2_Xk := (Xk.old (.cells #[.bool si, .slice ai li ci] 28)).d2
      have q2_Xk := (Xk.old (.cells #[.bool si, .slice ai li ci] 28)).frozen 2
      go_wp2_with fail
      refine ent1 x10 _ _ (Q := fun W => Calls Tryz.prog _ _ W _) ?_
      intro x11 hb hs_x11 Vi
      replace Xr := Va.after hb Xr
      replace Xa := Va.after hb Xa
      replace Xy := Va.after hb Xy
      replace Xk := Va.after hb Xk
      replace X5 := Va.after hb X5
      replace hr := Rt.after hb hr
      replace ha := Rr.after hb ha
      replace hk := Rr.after hb hk
      replace h5 := Rt.after hb h5
      replace hi := It.after hb hi
      replace B0 := step B0 hb
      clear hb hs_x11
      refine (is7 false none 0 0 [] none 0 0 [] 0 sk ak lk ck zk bk mk dk yk x11 (Rt.nil _) hk).mono ?_
      rintro e x12 ⟨rfl, hb⟩
      replace Xr := Va.after hb Xr
      replace Xa := Va.after hb Xa
      replace Xy := Va.after hb Xy
      replace Xk := Va.after hb Xk
      replace X5 := Va.after hb X5
      replace Vi := Va.after hb Vi
      replace hr := Rt.after hb hr
      replace ha := Rr.after hb ha
      replace hk := Rr.after hb hk
      replace h5 := Rt.after hb h5
      replace hi := It.after hb hi
      replace B0 := step B0 hb
      clear hb
      clear c_Xy f0_Xy d_Xy f1_Xy e_Xy f2_Xy l_Xy m_Xy c_Xk f0_Xk d_Xk f1_Xk e_Xk f2_Xk l_Xk m_Xk p0_Xy q0_Xy p1_Xy q1_Xy p2_Xy q2_Xy p0_Xk q0_Xk p1_Xk q1_Xk p2_Xk q2_Xk
      have c_Vi := Vi.c0
      have f0_Vi := Vi.frozen 0
      have d_Vi := Vi.c1
      have f1_Vi := Vi.frozen 1
      have l_Vi := Vi.lt
      have m_Vi := Nat.le_of_lt l_Vi
      go_wp2_with fail
      refine (wsign_any si ai li ci zi x12 hi).mono ?_
      rintro e x13 ⟨rfl, hb⟩
      replace Xr := Va.after hb Xr
      replace Xa := Va.after hb Xa
      replace Xy := Va.after hb Xy
      replace Xk := Va.after hb Xk
      replace X5 := Va.after hb X5
      replace Vi := Va.after hb Vi
      replace hr := Rt.after hb hr
      replace ha := Rr.after hb ha
      replace hk := Rr.after hb hk
      replace h5 := Rt.after hb h5
      replace hi := It.after hb hi
      replace B0 := step B0 hb
      clear hb
      rw [EI.out, show Int.sign 3 = 1 from rfl]
      clear c_Vi f0_Vi d_Vi f1_Vi l_Vi m_Vi
      go_wp2_with fail
      go_ret
      exact ⟨rfl, B0⟩
    ·
      have HM : Hid (1 ≤ q ∧ q ≤ 5) := by show _ ∧ _; omega
      clear hq
      refine (places_ok q HM.out.1 HM.out.2 sr ar lr cr zr br mr dr yr v p p rfl HP.out x3 hr).mono ?_
      rintro e x4 ⟨er, sx, ax, lx, cx, zx, bx, mx, dx, yx, v1, rfl, hy, hra, hb⟩
      replace Xr := Va.after hb Xr
      replace Xa := Va.after hb Xa
      replace hr := Rt.after hb hr
      replace ha := Rr.after hb ha
      replace B0 := step B0 hb
      clear hb
      have c_Xa := Xa.d0
      have f0_Xa := Xa.frozen 0
      have d_Xa := Xa.d1
      have f1_Xa := Xa.frozen 1
      have e_Xa := Xa.d2
      have f2_Xa := Xa.frozen 2
      have l_Xa := Xa.lt
      have m_Xa := Nat.le_of_lt l_Xa
      have p0_Xa := (Xa.old (.cells #[.bool sx, .slice ax lx cx, .slice bx mx dx] 30)).d0
      have q0_Xa := (Xa.old (.cells #[.bool sx, .slice ax lx cx, .slice bx mx dx] 30)).frozen 0
      have p1_Xa := (Xa.old (.cells #[.bool sx, .slice ax lx cx, .slice bx mx dx] 30)).d1
      have q1_Xa := (Xa.old (.cells #[.bool sx, .slice ax lx cx, .slice bx mx dx] 30)).frozen 1
      have p2_Xa := (Xa.old (.cells #[.bool sx, .slice ax lx cx, .slice bx mx dx] 30)).d2
      have q2_Xa := (Xa.old (.cells #[.bool sx, .slice ax lx cx, .slice bx mx dx] 30)).frozen 2
      go_wp2_with fail
      refine ent1 x4 _ _ (Q := fun W => Calls Tryz.prog _ _ W _) ?_
      intro x5 hb hs_x5 Xy
      replace Xr := Va.after hb Xr
      replace Xa := Va.after hb Xa
      replace hr := Rt.after hb hr
      replace ha := Rr.after hb ha
      replace hy := Rt.after hb hy
      replace B0 := step B0 hb
      clear hb hs_x5
      refine (rplaces_ok q HM.out.1 HM.out.2 sa aa la ca za ba ma da ya v p HP.out x5 ha hvS.out).mono ?_
      rintro e x6 ⟨er2, sk, ak, lk, ck, zk, bk, mk, dk, yk, v2, rfl, hk, hra2, hb⟩
      replace Xr := Va.after hb Xr
      replace Xa := Va.after hb Xa
      replace Xy := Va.after hb Xy
      replace hr := Rt.after hb hr
      replace ha := Rr.after hb ha
      replace hy := Rt.after hb hy
      replace B0 := step B0 hb
      clear hb
      obtain ⟨e8, e9⟩ := ra_uno hra.out hra2.out
      subst e8
      subst e9
      clear hra hra2
      clear c_Xa f0_Xa d_Xa f1_Xa e_Xa f2_Xa l_Xa m_Xa p0_Xa q0_Xa p1_Xa q1_Xa p2_Xa q2_Xa
      go_wp2_with fail
      refine ent1 x6 _ _ (Q := fun W => Calls Tryz.prog _ _ W _) ?_
      intro x7 hb hs_x7 Xk
      replace Xr := Va.after hb Xr
      replace Xa := Va.after hb Xa
      replace Xy := Va.after hb Xy
      replace hr := Rt.after hb hr
      replace ha := Rr.after hb ha
      replace hy := Rt.after hb hy
      replace hk := Rr.after hb hk
      replace B0 := step B0 hb
      clear hb hs_x7
      refine (qsmall_to 5 2 (by omega) (by omega) (by omega) (by omega) (by omega) (mkRat 5 2) x7 (by decide +kernel) short_five7).mono ?_
      rintro e x8 ⟨s5, a5, l5, c5, z5, b5, m5, d5, y5, rfl, h5, hb⟩
      replace Xr := Va.after hb Xr
      replace Xa := Va.after hb Xa
      replace Xy := Va.after hb Xy
      replace Xk := Va.after hb Xk
      replace hr := Rt.after hb hr
      replace ha := Rr.after hb ha
      replace hy := Rt.after hb hy
      replace hk := Rr.after hb hk
      replace B0 := step B0 hb
      clear hb
      go_wp2_with fail
      refine ent1 x8 _ _ (Q := fun W => Calls Tryz.prog _ _ W _) ?_
      intro x9 hb hs_x9 X5
      replace Xr := Va.after hb Xr
      replace Xa := Va.after hb Xa
      replace Xy := Va.after hb Xy
      replace Xk := Va.after hb Xk
      replace hr := Rt.after hb hr
      replace ha := Rr.after hb ha
      replace hy := Rt.after hb hy
      replace hk := Rr.after hb hk
      replace h5 := Rt.after hb h5
      replace B0 := step B0 hb
      clear hb hs_x9
      refine (to_ok 3 (by omega) (by omega) s5 a5 l5 c5 z5 b5 m5 d5 y5 (mkRat 5 2) x9 h5).mono ?_
      rintro e x10 ⟨si, ai, li, ci, zi, rfl, hi, ei, hb⟩
      replace Xr := Va.after hb Xr
      replace Xa := Va.after hb Xa
      replace Xy := Va.after hb Xy
      replace Xk := Va.after hb Xk
      replace X5 := Va.after hb X5
      replace hr := Rt.after hb hr
      replace ha := Rr.after hb ha
      replace hy := Rt.after hb hy
      replace hk := Rr.after hb hk
      replace h5 := Rt.after hb h5
      replace B0 := step B0 hb
      clear hb
      have EI : Hid (iv si zi = 3) := ei.trans (by decide +kernel)
      clear ei
      have c_Xy := Xy.d0
      have f0_Xy := Xy.frozen 0
      have d_Xy := Xy.d1
      have f1_Xy := Xy.frozen 1
      have e_Xy := Xy.d2
      have f2_Xy := Xy.frozen 2
      have l_Xy := Xy.lt
      have m_Xy := Nat.le_of_lt l_Xy
      have c_Xk := Xk.d0
      have f0_Xk := Xk.frozen 0
      have d_Xk := Xk.d1
      have f1_Xk := Xk.frozen 1
      have e_Xk := Xk.d2
      have f2_Xk := Xk.frozen 2
      have l_Xk := Xk.lt
      have m_Xk := Nat.le_of_lt l_Xk
      have p0_Xy := (Xy.old (.cells #[.bool si, .slice ai li ci] 28)).d0
      have q0_Xy := (Xy.old (.cells #[.bool si, .slice ai li ci] 28)).frozen 0
      have p1_Xy := (Xy.old (.cells #[.bool si, .slice ai li ci] 28)).d1
      have q1_Xy := (Xy.old (.cells #[.bool si, .slice ai li ci] 28)).frozen 1
      have p2_Xy := (Xy.old (.cells #[.bool si, .slice ai li ci] 28)).d2
      have q2_Xy := (Xy.old (.cells #[.bool si, .slice ai li ci] 28)).frozen 2
      have p0_Xk := (Xk.old (.cells #[.bool si, .slice ai li ci] 28)).d0
      have q0_Xk := (Xk.old (.cells #[.bool si, .slice ai li ci] 28)).frozen 0
      have p1_Xk := (Xk.old (.cells #[.bool si, .slice ai li ci] 28)).d1
      have q1_Xk := (Xk.old (.cells #[.bool si, .slice ai li ci] 28)).frozen 1
      have p2_Xk := (Xk.old (.cells #[.bool si, .slice ai li ci] 28)).d2
      have q2_Xk := (Xk.old (.cells #[.bool si, .slice ai li ci] 28)).frozen 2
      go_wp2_with fail
      refine ent1 x10 _ _ (Q := fun W => Calls Tryz.prog _ _ W _) ?_
      intro x11 hb hs_x11 Vi
      replace Xr := Va.after hb Xr
      replace Xa := Va.after hb Xa
      replace Xy := Va.after hb Xy
      replace Xk := Va.after hb Xk
      replace X5 := Va.after hb X5
      replace hr := Rt.after hb hr
      replace ha := Rr.after hb ha
      replace hy := Rt.after hb hy
      replace hk := Rr.after hb hk
      replace h5 := Rt.after hb h5
      replace hi := It.after hb hi
      replace B0 := step B0 hb
      clear hb hs_x11
      refine (is7 sx ax lx cx zx bx mx dx yx _ sk ak lk ck zk bk mk dk yk x11 hy hk).mono ?_
      rintro e x12 ⟨rfl, hb⟩
      replace Xr := Va.after hb Xr
      replace Xa := Va.after hb Xa
      replace Xy := Va.after hb Xy
      replace Xk := Va.after hb Xk
      replace X5 := Va.after hb X5
      replace Vi := Va.after hb Vi
      replace hr := Rt.after hb hr
      replace ha := Rr.after hb ha
      replace hy := Rt.after hb hy
      replace hk := Rr.after hb hk
      replace h5 := Rt.after hb h5
      replace hi := It.after hb hi
      replace B0 := step B0 hb
      clear hb
      clear c_Xy f0_Xy d_Xy f1_Xy e_Xy f2_Xy l_Xy m_Xy c_Xk f0_Xk d_Xk f1_Xk e_Xk f2_Xk l_Xk m_Xk p0_Xy q0_Xy p1_Xy q1_Xy p2_Xy q2_Xy p0_Xk q0_Xk p1_Xk q1_Xk p2_Xk q2_Xk
      have c_Vi := Vi.c0
      have f0_Vi := Vi.frozen 0
      have d_Vi := Vi.c1
      have f1_Vi := Vi.frozen 1
      have l_Vi := Vi.lt
      have m_Vi := Nat.le_of_lt l_Vi
      go_wp2_with fail
      refine (wsign_any si ai li ci zi x12 hi).mono ?_
      rintro e x13 ⟨rfl, hb⟩
      replace Xr := Va.after hb Xr
      replace Xa := Va.after hb Xa
      replace Xy := Va.after hb Xy
      replace Xk := Va.after hb Xk
      replace X5 := Va.after hb X5
      replace Vi := Va.after hb Vi
      replace hr := Rt.after hb hr
      replace ha := Rr.after hb ha
      replace hy := Rt.after hb hy
      replace hk := Rr.after hb hk
      replace h5 := Rt.after hb h5
      replace hi := It.after hb hi
      replace B0 := step B0 hb
      clear hb
      rw [EI.out, show Int.sign 3 = 1 from rfl]
      clear c_Vi f0_Vi d_Vi f1_Vi l_Vi m_Vi
      go_wp2_with fail
      go_ret
      exact ⟨rfl, B0⟩
end Go.Proofs.YtegfklapgbggfaaGreat
namespace Go.Proofs.YtegfklapgbggfaaGreat.roundPlaces
open Go.ChangeShapes Go.WideShapes Go.ChangeAt Go.RowKit
set_option linter.unusedVariables false

theorem own : ownKnob Tryz.prog.godebug = none := by kernel_rfl
theorem laidOut : laidOutB Tryz.prog = true := by kernel_rfl
theorem bytes8 : Tryz.prog.bytesOf 74 = 8 := by kernel_rfl

set_option maxRecDepth 100000 in
theorem contract (H : Type) (enc : TypeId × Value → H) (W : World) (base : Nat) (args : Array Value) (ds gs : List (DataW H)) (before : List MemPlace)
    (hval : ∀ (j : Nat) t v, Tryz.f4.params[j]? = some t → args[j]? = some v → Value.okWide Tryz.prog W .any base t v)
    (hW : DataW.Whole enc Tryz.prog Tryz.f4.params.toList Rows.roundPlacesSpec.vars false W args.toList ds gs before) (hsz : (DataW.weightsEach Tryz.prog (Tryz.f4.params.toList ++ Rows.roundPlacesSpec.plain.varTypes Tryz.prog) (ds ++ gs)).all (· ≤ reachBytes) = true) :
    Calls Tryz.prog 4 args W fun e W' => ∃ v, e = .returned v ∧ Rows.roundPlacesSpec.post enc Tryz.prog Tryz.f4 false true false false W args v W' := by
  have hW' := hW
  obtain ⟨p, q, hA0, hV, rfl, hfz, hnd⟩ := hW
  have hA : DataW.TrodAll enc Tryz.prog W 0 (fun _ => true) true Tryz.f4.params.toList args.toList ds p := hA0
  rw [Tryz.params4] at hA hval hsz
  obtain ⟨v0, vs0, d0, ds0, p0, q0, hargs, rfl, rfl, h0, r0⟩ := trodAll_cons hA
  obtain ⟨v1, vs1, d1, ds1, p1, q1, rfl, rfl, rfl, h1, r1⟩ := trodAll_cons r0
  obtain ⟨v2, vs2, d2, ds2, p2, q2, rfl, rfl, rfl, h2, r2⟩ := trodAll_cons r1
  obtain ⟨rfl, rfl, rfl⟩ := trodAll_nil r2
  obtain rfl : args = #[v0, v1, v2] := by cases args; simp_all
  obtain ⟨rfl, rfl⟩ := trodVars_none hV
  have k0 := h0
  have lt0 : ∀ x ∈ p0, x.block < W.heap.size := by obtain ⟨m, hm⟩ := k0; exact DataW.trod_lt m _ _ _ hm
  obtain ⟨u0, x0, t0, y00, y01, y02, m0, rfl, rfl, rfl, hy00, hy01, hy02⟩ := Go.Joins.open_agg3 Tryz.underlying24 (by kernel_rfl) (by kernel_rfl) (hval 0 24 v0 rfl rfl) h0
  obtain ⟨n0, hn0, -⟩ := DataW.trod_bool Tryz.underlying4 hy00
  obtain rfl : u0 = .bool n0 := by simpa using hn0
  obtain ⟨a0, len0, cap0, z0, hv0, s0, c0, e0⟩ : ∃ a len cap zs, x0 = .slice a len cap ∧ Sl W a len zs ∧ len ≤ cap ∧ (a = Option.none → len = 0 ∧ cap = 0) := by
    rcases open_ints Tryz.underlying22 Tryz.underlying74 (by kernel_rfl) hy01 with ⟨hcs, _⟩ | ⟨x, l, c, zs, hcs, _, hl, hm, hz, hx, hcell, hwz⟩
    · exact ⟨Option.none, 0, 0, [], by simpa using hcs, ⟨rfl, Limbs.nil, fun h => absurd h (by decide)⟩, Nat.le_refl _, fun _ => ⟨rfl, rfl⟩⟩
    · have hz' : zs.length = c := by simpa using hz
      refine ⟨some x, l, c, zs.take l, by simpa using hcs, ⟨by rw [List.length_take]; omega, fun z hz2 => word_of_wf (hwz z (List.mem_of_mem_take hz2)), fun h => ?_⟩, hl, fun h => by cases h⟩
      obtain ⟨bb, off, rfl, hc⟩ := ints_at hcell (by omega)
      refine ⟨bb, off, rfl, fun j hj => ?_⟩
      rw [hc j (by omega), List.getD_eq_getElem?_getD, List.getD_eq_getElem?_getD, List.getElem?_take_of_lt hj]
  subst hv0
  obtain ⟨ab0, lenb0, capb0, zb0, hvb0, sb0, cb0, eb0⟩ : ∃ a len cap zs, t0 = .slice a len cap ∧ Sl W a len zs ∧ len ≤ cap ∧ (a = Option.none → len = 0 ∧ cap = 0) := by
    rcases open_ints Tryz.underlying22 Tryz.underlying74 (by kernel_rfl) hy02 with ⟨hcs, _⟩ | ⟨x, l, c, zs, hcs, _, hl, hm, hz, hx, hcell, hwz⟩
    · exact ⟨Option.none, 0, 0, [], by simpa using hcs, ⟨rfl, Limbs.nil, fun h => absurd h (by decide)⟩, Nat.le_refl _, fun _ => ⟨rfl, rfl⟩⟩
    · have hz' : zs.length = c := by simpa using hz
      refine ⟨some x, l, c, zs.take l, by simpa using hcs, ⟨by rw [List.length_take]; omega, fun z hz2 => word_of_wf (hwz z (List.mem_of_mem_take hz2)), fun h => ?_⟩, hl, fun h => by cases h⟩
      obtain ⟨bb, off, rfl, hc⟩ := ints_at hcell (by omega)
      refine ⟨bb, off, rfl, fun j hj => ?_⟩
      rw [hc j (by omega), List.getD_eq_getElem?_getD, List.getD_eq_getElem?_getD, List.getElem?_take_of_lt hj]
  subst hvb0
  clear hn0
  obtain ⟨a1, rfl, rfl, rfl, w1⟩ := open_int Tryz.underlying3 (hval 1 3 v1 rfl rfl) h1
  obtain ⟨a2, rfl, rfl, rfl, w2⟩ := open_int Tryz.underlying3 (hval 2 3 v2 rfl rfl) h2
  clear hA0
  refine (places7_walk n0 a0 len0 cap0 z0 ab0 lenb0 capb0 zb0 a1 a2 W s0 sb0 c0 cb0 w1 w2).mono fun e W' ⟨he, bel⟩ => ?_
  subst he
  exact ⟨_, rfl, _, _, _, [], _, [], hW', trodAll_mk1 (shut_bool Tryz.underlying4 _), (trodAll_cons_mk (Below.trod laidOut (by kernel_rfl) (of_decide_eq_true (by kernel_rfl)) k0 bel lt0) (trodAll_cons_mk (shut_int Tryz.underlying3 w1) (trodAll_cons_mk (shut_int Tryz.underlying3 w2) trodAll_mk0))), rfl, bel.frame _, fun h => by cases h⟩

set_option maxRecDepth 100000 in
theorem lifted (os : Os) (started : os.Started) (H : Type) (enc : TypeId × Value → H) :
    ReturnsInHanded {} Tryz.checked os 4 .any (Rows.roundPlacesSpec.pre6 enc Tryz.prog Tryz.f4 Rows.roundPlacesRow.domain false) (Rows.roundPlacesSpec.post enc Tryz.prog Tryz.f4 false true false false) := by
  refine returnsInHanded_of_change_sized (C := Tryz.checked) own started (by kernel_rfl) Tryz.func4
    (ChangeSpec.witness6 (enc := enc) (C := Tryz.checked) false ⟨#[], #[.agg #[.bool false, .slice none 0 0, .slice none 0 0], .int .i64 0, .int .i64 0], []⟩ 8 (by kernel_rfl) (by kernel_rfl) (by kernel_rfl) (by kernel_rfl)) ?_
  intro W base args ds gs before hval0 hW _ hsz0 _
  exact contract H enc W base args ds gs before hval0 hW hsz0

theorem over : Rows.roundPlacesRow.holds Tryz.pinned (OpenSpec.ofChange Rows.roundPlacesSpec) :=
  OpenClaim.holds_of_wide 4 Tryz.f4 rfl rfl rfl rfl rfl rfl rfl ⟨rfl, rfl, rfl, rfl, rfl⟩ rfl rfl rfl rfl rfl (by kernel_rfl) Tryz.func4 (by kernel_rfl)
    (of_decide_eq_true (by kernel_rfl)) (by unfold Func.isWrapper; first | (rw [if_pos (by decide +kernel)]; kernel_rfl) | (rw [if_neg (by decide +kernel)]; exact ⟨rfl, rfl⟩))
    (fun os started H enc _ => lifted os started H enc)
end Go.Proofs.YtegfklapgbggfaaGreat.roundPlaces
namespace Go.Proofs.YtegfklapgbggfaaGreat
theorem roundPlaces_holds : Rows.RoundPlacesSaid := roundPlaces.over
#print axioms roundPlaces_holds
end Go.Proofs.YtegfklapgbggfaaGreat
