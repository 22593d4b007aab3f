/-
  The walk of RatOf: each call by its contract.
-/
import Derived.Test.YtadfccbjadopgaaGreatRt16
namespace Go.Proofs.YtadfccbjadopgaaGreat
open Go.RowKit Go.Shelf
set_option linter.unusedVariables false

theorem Chk.one {s : Bool} {l m : Nat} {zs ys : List Int} {e1 e2 : Int} (h1 : Chk s l m zs ys e1) (h2 : Chk s l m zs ys e2) : e2 = e1 := by
  rcases h1 with ⟨rfl, h1⟩ | ⟨rfl, h1, h1', h1''⟩ | ⟨rfl, h1, h1', h1''⟩ <;> rcases h2 with ⟨rfl, h2⟩ | ⟨rfl, h2, h2', h2''⟩ | ⟨rfl, h2, h2', h2''⟩ <;> first | rfl | (exfalso; omega) | exact absurd h1'' h2'' | exact absurd h2'' h1''
theorem one_long {w : World} {a : Option Addr} {l c : Nat} {zs : List Int} (h : Nt w a l c zs) (e : num zs = 1) : l = 1 := by
  have h1 := (h.short 1).2 (by rw [e]; decide)
  have h0 : l ≠ 0 := fun h0 => by
    have := (num_eq_zero h.limbs).2 (by rw [h.2.1]; exact h0)
    omega
  omega

set_option maxHeartbeats 8000000 in
set_option maxRecDepth 8000 in
theorem ofw_long (s0 : Bool) (a0 : Option Addr) (l0 c0 : Nat) (z0 : List Int) (b0 : Option Addr) (m0 d0 : Nat) (y0 : List Int) (w : World) (h0 : Ri w a0 l0 c0 z0 b0 m0 d0 y0) (n0 : a0 = none → l0 = 0 ∧ c0 = 0) (o0 : b0 = none → m0 = 0 ∧ d0 = 0) (k0 : l0 ≤ 20000000000000) (j0 : m0 ≤ 20000000000000) (hL : 1024 < max (l0 : Int) (m0 : Int)) :
    Calls Tryz.prog 3 #[.agg #[.bool s0, .slice a0 l0 c0, .slice b0 m0 d0]] w fun e w' => e = .returned (.bool true) ∧ Below w.heap.size w w' := by
  have HM : Hid (1024 < max (l0 : Int) (m0 : Int)) := hL
  clear hL
  have B0 : Below w.heap.size w w := Below.refl _ _
  go_enter Tryz.func3, Tryz.ntmps3
  go_wp2_with fail
  refine ent1 w _ _ (Q := fun W => Calls Tryz.prog _ _ W _) ?_
  intro x1 hb hs_x1 V0
  replace h0 := Ri.after hb h0
  replace B0 := step B0 hb
  clear hb hs_x1
  refine (awake5 x1).mono ?_
  rintro e x2 ⟨rfl, hb⟩
  replace V0 := Va.after hb V0
  replace h0 := Ri.after hb h0
  replace B0 := step B0 hb
  clear hb
  have c_V0 := V0.d0
  have f0_V0 := V0.frozen 0
  have d_V0 := V0.d1
  have f1_V0 := V0.frozen 1
  have e_V0 := V0.d2
  have f2_V0 := V0.frozen 2
  have l_V0 := V0.lt
  have m_V0 := Nat.le_of_lt l_V0
  go_wp2_with fail
  have HR0 : Hid (Ri x2 a0 l0 c0 z0 b0 m0 d0 y0) := h0
  have V00 : Hid (Va x2 w.heap.size 24 #[.bool s0, .slice a0 l0 c0, .slice b0 m0 d0]) := V0
  have B00 : Hid (Below w.heap.size w x2) := B0
  clear B0
  have BX := Below.refl x2.heap.size x2
  have lv0 := V0.lt
  refine (lentr5 s0 a0 l0 c0 z0 b0 m0 d0 y0 x2 h0.1 h0.2.1 n0 o0 k0 j0).mono ?_
  rintro e x3 ⟨g, g2, rfl, hg, hh, hi, hb⟩
  replace V0 := Va.after hb V0
  replace h0 := Ri.after hb h0
  replace BX := step BX hb
  clear hb
  clear c_V0 f0_V0 d_V0 f1_V0 e_V0 f2_V0 l_V0 m_V0
  have c_V0 := V0.d0
  have f0_V0 := V0.frozen 0
  have d_V0 := V0.d1
  have f1_V0 := V0.frozen 1
  have e_V0 := V0.d2
  have f2_V0 := V0.frozen 2
  have l_V0 := V0.lt
  have m_V0 := Nat.le_of_lt l_V0
  go_wp2_with fail
  have hgl := hg.lt
  have hhl := hh.lt
  refine ent1 x3 _ _ (Q := fun W => Calls Tryz.prog _ _ W _) ?_
  intro x4 hb hs_x4 Vm
  replace V0 := Va.after hb V0
  replace h0 := Ri.after hb h0
  replace hg := Ow.after hb hg
  replace hh := Ow.after hb hh
  replace BX := step BX hb
  clear hb hs_x4
  have S1 : Sl x4 (some ⟨g, 0, none⟩) l0 z0 := sl_front (hg.sl (n := l0 + 12) (h0.1.2.1.append (marks_limbs 12 (by omega))) (by rw [List.length_append, marks_length, h0.1.1])) h0.1.1
  have S2 : Sl x4 (some ⟨g2, 0, none⟩) m0 y0 := sl_front (hh.sl (n := m0 + 12) (h0.2.1.2.1.append (marks_limbs 12 (by omega))) (by rw [List.length_append, marks_length, h0.2.1.1])) h0.2.1.1
  have sgl := hg.lt
  have shl := hh.lt
  refine (qof_long s0 (some ⟨g, 0, none⟩) l0 (l0 + 12) z0 (some ⟨g2, 0, none⟩) m0 (m0 + 12) y0 x4 HM.out).mono ?_
  rintro e x5 ⟨rfl, hb⟩
  replace V0 := Va.after hb V0
  replace Vm := Va.after hb Vm
  replace h0 := Ri.after hb h0
  replace hg := Ow.after hb hg
  replace hh := Ow.after hb hh
  replace BX := step BX hb
  clear hb
  clear c_V0 f0_V0 d_V0 f1_V0 e_V0 f2_V0 l_V0 m_V0
  have c_V0 := V0.d0
  have f0_V0 := V0.frozen 0
  have d_V0 := V0.d1
  have f1_V0 := V0.frozen 1
  have e_V0 := V0.d2
  have f2_V0 := V0.frozen 2
  have l_V0 := V0.lt
  have m_V0 := Nat.le_of_lt l_V0
  go_wp2_with fail
  clear S1 S2
  have lm0 := Vm.lt
  refine ent1 x5 _ _ (Q := fun W => Calls Tryz.prog _ _ W _) ?_
  intro x6 hb hs_x6 Vx
  replace V0 := Va.after hb V0
  replace Vm := Va.after hb Vm
  replace h0 := Ri.after hb h0
  replace hg := Ow.after hb hg
  replace hh := Ow.after hb hh
  replace BX := step BX hb
  clear hb hs_x6
  refine (check5 s0 a0 l0 c0 z0 b0 m0 d0 y0 x6 h0).mono ?_
  rintro e x7 ⟨er, rfl, hc, hb⟩
  replace V0 := Va.after hb V0
  replace Vm := Va.after hb Vm
  replace Vx := Va.after hb Vx
  replace h0 := Ri.after hb h0
  replace hg := Ow.after hb hg
  replace hh := Ow.after hb hh
  replace BX := step BX hb
  clear hb
  obtain rfl : er = 3 := Chk.one (Or.inl ⟨rfl, by have := HM.out; omega⟩) hc.out
  clear hc
  clear c_V0 f0_V0 d_V0 f1_V0 e_V0 f2_V0 l_V0 m_V0
  have c_Vm := Vm.d0
  have f0_Vm := Vm.frozen 0
  have d_Vm := Vm.d1
  have f1_Vm := Vm.frozen 1
  have e_Vm := Vm.d2
  have f2_Vm := Vm.frozen 2
  have l_Vm := Vm.lt
  have m_Vm := Nat.le_of_lt l_Vm
  have c_V0 := V0.d0
  have f0_V0 := V0.frozen 0
  have d_V0 := V0.d1
  have f1_V0 := V0.frozen 1
  have e_V0 := V0.d2
  have f2_V0 := V0.frozen 2
  have l_V0 := V0.lt
  have m_V0 := Nat.le_of_lt l_V0
  go_wp2_with fail
  refine (keptr5 s0 a0 l0 c0 z0 b0 m0 d0 y0 g g2 x7 h0.1 h0.2.1 hg hh k0 j0).mono ?_
  rintro e x8 ⟨rfl, hb⟩
  replace V0 := Va.after hb V0
  replace Vm := Va.after hb Vm
  replace Vx := Va.after hb Vx
  replace h0 := Ri.after hb h0
  replace hg := Ow.after hb hg
  replace hh := Ow.after hb hh
  replace BX := step BX hb
  clear hb
  clear c_Vm f0_Vm d_Vm f1_Vm e_Vm f2_Vm l_Vm m_Vm c_V0 f0_V0 d_V0 f1_V0 e_V0 f2_V0 l_V0 m_V0
  have c_Vm := Vm.d0
  have f0_Vm := Vm.frozen 0
  have d_Vm := Vm.d1
  have f1_Vm := Vm.frozen 1
  have e_Vm := Vm.d2
  have f2_Vm := Vm.frozen 2
  have l_Vm := Vm.lt
  have m_Vm := Nat.le_of_lt l_Vm
  go_wp2_with fail
  obtain ⟨hi1, hi2, hi3⟩ := hi.out
  have xlt := Vx.lt
  have zl1 : (z0 ++ marks 12).length = l0 + 12 := by rw [List.length_append, marks_length, h0.1.1]
  have zl2 : (y0 ++ marks 12).length = m0 + 12 := by rw [List.length_append, marks_length, h0.2.1.1]
  refine (overr5 s0 g g2 l0 m0 (z0 ++ marks 12) (y0 ++ marks 12) x8 hg hh zl1 zl2 k0 j0 hi3 x2.heap.size hi1 hi2).mono ?_
  rintro e x9 ⟨rfl, hk, hb⟩
  replace Vx : Va x9 (x5.heap.size) 32 #[.bool false, .slice none 0 0, .slice none 0 0] := by unfold Va at *; rw [hk.out _ xlt (by omega) (by omega)]; exact Vx
  replace BX := BX.trans hb
  clear hk hb hg hh h0 V0 Vm hi hi1 hi2 hi3 zl1 zl2 xlt
  have h0 := Ri.after BX HR0.out
  have V0 := Va.after BX V00.out
  have B0 := step B00.out BX
  clear BX HR0 V00 B00
  clear c_Vm f0_Vm d_Vm f1_Vm e_Vm f2_Vm l_Vm m_Vm
  have c_Vx := Vx.d0
  have f0_Vx := Vx.frozen 0
  have d_Vx := Vx.d1
  have f1_Vx := Vx.frozen 1
  have e_Vx := Vx.d2
  have f2_Vx := Vx.frozen 2
  have l_Vx := Vx.lt
  have m_Vx := Nat.le_of_lt l_Vx
  go_wp2_with fail
  refine (zero5 false none 0 0 [] none 0 0 [] 0 x9 (Rt.nil _) rfl).mono ?_
  rintro e x10 ⟨rfl, hb⟩
  replace V0 := Va.after hb V0
  replace Vx := Va.after hb Vx
  replace h0 := Ri.after hb h0
  replace B0 := step B0 hb
  clear hb
  clear c_Vx f0_Vx d_Vx f1_Vx e_Vx f2_Vx l_Vx m_Vx
  have c_Vx := Vx.d0
  have f0_Vx := Vx.frozen 0
  have d_Vx := Vx.d1
  have f1_Vx := Vx.frozen 1
  have e_Vx := Vx.d2
  have f2_Vx := Vx.frozen 2
  have l_Vx := Vx.lt
  have m_Vx := Nat.le_of_lt l_Vx
  go_wp2_with fail
  refine (qsign_any false none 0 0 [] none 0 0 [] 0 x10 (Rt.nil _)).mono ?_
  rintro e x11 ⟨rfl, hb⟩
  replace V0 := Va.after hb V0
  replace Vx := Va.after hb Vx
  replace h0 := Ri.after hb h0
  replace B0 := step B0 hb
  clear hb
  rw [Rat.zero_num, Int.sign_zero]
  clear c_Vx f0_Vx d_Vx f1_Vx e_Vx f2_Vx l_Vx m_Vx
  have c_Vx := Vx.d0
  have f0_Vx := Vx.frozen 0
  have d_Vx := Vx.d1
  have f1_Vx := Vx.frozen 1
  have e_Vx := Vx.d2
  have f2_Vx := Vx.frozen 2
  have l_Vx := Vx.lt
  have m_Vx := Nat.le_of_lt l_Vx
  go_wp2_with fail
  refine (rlongr_any false none 0 0 [] none 0 0 [] x11 (It.nil _) (Nt.nil _)).mono ?_
  rintro e x12 ⟨b2, m2, d2, y2, rfl, h2, e2, hb⟩
  replace V0 := Va.after hb V0
  replace Vx := Va.after hb Vx
  replace h0 := Ri.after hb h0
  replace B0 := step B0 hb
  clear hb
  have em : m2 = 1 := one_long h2 e2
  subst em
  clear c_Vx f0_Vx d_Vx f1_Vx e_Vx f2_Vx l_Vx m_Vx
  go_wp2_with fail
  go_ret
  exact ⟨rfl, B0⟩

set_option maxHeartbeats 8000000 in
set_option maxRecDepth 8000 in
theorem ofw_bad (s0 : Bool) (a0 : Option Addr) (l0 c0 : Nat) (z0 : List Int) (b0 : Option Addr) (m0 d0 : Nat) (y0 : List Int) (w : World) (h0 : Ri w a0 l0 c0 z0 b0 m0 d0 y0) (n0 : a0 = none → l0 = 0 ∧ c0 = 0) (o0 : b0 = none → m0 = 0 ∧ d0 = 0) (k0 : l0 ≤ 20000000000000) (j0 : m0 ≤ 20000000000000) (hl : l0 ≤ 1024) (hm : m0 ≤ 1024) (hN : ¬ Norm s0 z0 y0) :
    Calls Tryz.prog 3 #[.agg #[.bool s0, .slice a0 l0 c0, .slice b0 m0 d0]] w fun e w' => e = .returned (.bool true) ∧ Below w.heap.size w w' := by
  have HN : Hid (¬ Norm s0 z0 y0) := hN
  clear hN
  have B0 : Below w.heap.size w w := Below.refl _ _
  go_enter Tryz.func3, Tryz.ntmps3
  go_wp2_with fail
  refine ent1 w _ _ (Q := fun W => Calls Tryz.prog _ _ W _) ?_
  intro x1 hb hs_x1 V0
  replace h0 := Ri.after hb h0
  replace B0 := step B0 hb
  clear hb hs_x1
  refine (awake5 x1).mono ?_
  rintro e x2 ⟨rfl, hb⟩
  replace V0 := Va.after hb V0
  replace h0 := Ri.after hb h0
  replace B0 := step B0 hb
  clear hb
  have c_V0 := V0.d0
  have f0_V0 := V0.frozen 0
  have d_V0 := V0.d1
  have f1_V0 := V0.frozen 1
  have e_V0 := V0.d2
  have f2_V0 := V0.frozen 2
  have l_V0 := V0.lt
  have m_V0 := Nat.le_of_lt l_V0
  go_wp2_with fail
  have HR0 : Hid (Ri x2 a0 l0 c0 z0 b0 m0 d0 y0) := h0
  have V00 : Hid (Va x2 w.heap.size 24 #[.bool s0, .slice a0 l0 c0, .slice b0 m0 d0]) := V0
  have B00 : Hid (Below w.heap.size w x2) := B0
  clear B0
  have BX := Below.refl x2.heap.size x2
  have lv0 := V0.lt
  refine (lentr5 s0 a0 l0 c0 z0 b0 m0 d0 y0 x2 h0.1 h0.2.1 n0 o0 k0 j0).mono ?_
  rintro e x3 ⟨g, g2, rfl, hg, hh, hi, hb⟩
  replace V0 := Va.after hb V0
  replace h0 := Ri.after hb h0
  replace BX := step BX hb
  clear hb
  clear c_V0 f0_V0 d_V0 f1_V0 e_V0 f2_V0 l_V0 m_V0
  have c_V0 := V0.d0
  have f0_V0 := V0.frozen 0
  have d_V0 := V0.d1
  have f1_V0 := V0.frozen 1
  have e_V0 := V0.d2
  have f2_V0 := V0.frozen 2
  have l_V0 := V0.lt
  have m_V0 := Nat.le_of_lt l_V0
  go_wp2_with fail
  have hgl := hg.lt
  have hhl := hh.lt
  refine ent1 x3 _ _ (Q := fun W => Calls Tryz.prog _ _ W _) ?_
  intro x4 hb hs_x4 Vm
  replace V0 := Va.after hb V0
  replace h0 := Ri.after hb h0
  replace hg := Ow.after hb hg
  replace hh := Ow.after hb hh
  replace BX := step BX hb
  clear hb hs_x4
  have S1 : Sl x4 (some ⟨g, 0, none⟩) l0 z0 := sl_front (hg.sl (n := l0 + 12) (h0.1.2.1.append (marks_limbs 12 (by omega))) (by rw [List.length_append, marks_length, h0.1.1])) h0.1.1
  have S2 : Sl x4 (some ⟨g2, 0, none⟩) m0 y0 := sl_front (hh.sl (n := m0 + 12) (h0.2.1.2.1.append (marks_limbs 12 (by omega))) (by rw [List.length_append, marks_length, h0.2.1.1])) h0.2.1.1
  have sgl := hg.lt
  have shl := hh.lt
  refine (qof_bad s0 (some ⟨g, 0, none⟩) l0 (l0 + 12) z0 (some ⟨g2, 0, none⟩) m0 (m0 + 12) y0 x4 ⟨S1, S2, by omega, by omega⟩ hl hm HN.out).mono ?_
  rintro e x5 ⟨rfl, hb⟩
  replace V0 := Va.after hb V0
  replace Vm := Va.after hb Vm
  replace h0 := Ri.after hb h0
  replace hg := Ow.after hb hg
  replace hh := Ow.after hb hh
  replace BX := step BX hb
  clear hb
  clear c_V0 f0_V0 d_V0 f1_V0 e_V0 f2_V0 l_V0 m_V0
  have c_V0 := V0.d0
  have f0_V0 := V0.frozen 0
  have d_V0 := V0.d1
  have f1_V0 := V0.frozen 1
  have e_V0 := V0.d2
  have f2_V0 := V0.frozen 2
  have l_V0 := V0.lt
  have m_V0 := Nat.le_of_lt l_V0
  go_wp2_with fail
  clear S1 S2
  have lm0 := Vm.lt
  refine ent1 x5 _ _ (Q := fun W => Calls Tryz.prog _ _ W _) ?_
  intro x6 hb hs_x6 Vx
  replace V0 := Va.after hb V0
  replace Vm := Va.after hb Vm
  replace h0 := Ri.after hb h0
  replace hg := Ow.after hb hg
  replace hh := Ow.after hb hh
  replace BX := step BX hb
  clear hb hs_x6
  refine (check5 s0 a0 l0 c0 z0 b0 m0 d0 y0 x6 h0).mono ?_
  rintro e x7 ⟨er, rfl, hc, hb⟩
  replace V0 := Va.after hb V0
  replace Vm := Va.after hb Vm
  replace Vx := Va.after hb Vx
  replace h0 := Ri.after hb h0
  replace hg := Ow.after hb hg
  replace hh := Ow.after hb hh
  replace BX := step BX hb
  clear hb
  obtain rfl : er = 50 := Chk.one (Or.inr (Or.inl ⟨rfl, hl, hm, HN.out⟩)) hc.out
  clear hc
  clear c_V0 f0_V0 d_V0 f1_V0 e_V0 f2_V0 l_V0 m_V0
  have c_Vm := Vm.d0
  have f0_Vm := Vm.frozen 0
  have d_Vm := Vm.d1
  have f1_Vm := Vm.frozen 1
  have e_Vm := Vm.d2
  have f2_Vm := Vm.frozen 2
  have l_Vm := Vm.lt
  have m_Vm := Nat.le_of_lt l_Vm
  have c_V0 := V0.d0
  have f0_V0 := V0.frozen 0
  have d_V0 := V0.d1
  have f1_V0 := V0.frozen 1
  have e_V0 := V0.d2
  have f2_V0 := V0.frozen 2
  have l_V0 := V0.lt
  have m_V0 := Nat.le_of_lt l_V0
  go_wp2_with fail
  refine (keptr5 s0 a0 l0 c0 z0 b0 m0 d0 y0 g g2 x7 h0.1 h0.2.1 hg hh k0 j0).mono ?_
  rintro e x8 ⟨rfl, hb⟩
  replace V0 := Va.after hb V0
  replace Vm := Va.after hb Vm
  replace Vx := Va.after hb Vx
  replace h0 := Ri.after hb h0
  replace hg := Ow.after hb hg
  replace hh := Ow.after hb hh
  replace BX := step BX hb
  clear hb
  clear c_Vm f0_Vm d_Vm f1_Vm e_Vm f2_Vm l_Vm m_Vm c_V0 f0_V0 d_V0 f1_V0 e_V0 f2_V0 l_V0 m_V0
  have c_Vm := Vm.d0
  have f0_Vm := Vm.frozen 0
  have d_Vm := Vm.d1
  have f1_Vm := Vm.frozen 1
  have e_Vm := Vm.d2
  have f2_Vm := Vm.frozen 2
  have l_Vm := Vm.lt
  have m_Vm := Nat.le_of_lt l_Vm
  go_wp2_with fail
  obtain ⟨hi1, hi2, hi3⟩ := hi.out
  have xlt := Vx.lt
  have zl1 : (z0 ++ marks 12).length = l0 + 12 := by rw [List.length_append, marks_length, h0.1.1]
  have zl2 : (y0 ++ marks 12).length = m0 + 12 := by rw [List.length_append, marks_length, h0.2.1.1]
  refine (overr5 s0 g g2 l0 m0 (z0 ++ marks 12) (y0 ++ marks 12) x8 hg hh zl1 zl2 k0 j0 hi3 x2.heap.size hi1 hi2).mono ?_
  rintro e x9 ⟨rfl, hk, hb⟩
  replace Vx : Va x9 (x5.heap.size) 32 #[.bool false, .slice none 0 0, .slice none 0 0] := by unfold Va at *; rw [hk.out _ xlt (by omega) (by omega)]; exact Vx
  replace BX := BX.trans hb
  clear hk hb hg hh h0 V0 Vm hi hi1 hi2 hi3 zl1 zl2 xlt
  have h0 := Ri.after BX HR0.out
  have V0 := Va.after BX V00.out
  have B0 := step B00.out BX
  clear BX HR0 V00 B00
  clear c_Vm f0_Vm d_Vm f1_Vm e_Vm f2_Vm l_Vm m_Vm
  have c_Vx := Vx.d0
  have f0_Vx := Vx.frozen 0
  have d_Vx := Vx.d1
  have f1_Vx := Vx.frozen 1
  have e_Vx := Vx.d2
  have f2_Vx := Vx.frozen 2
  have l_Vx := Vx.lt
  have m_Vx := Nat.le_of_lt l_Vx
  go_wp2_with fail
  refine (zero5 false none 0 0 [] none 0 0 [] 0 x9 (Rt.nil _) rfl).mono ?_
  rintro e x10 ⟨rfl, hb⟩
  replace V0 := Va.after hb V0
  replace Vx := Va.after hb Vx
  replace h0 := Ri.after hb h0
  replace B0 := step B0 hb
  clear hb
  clear c_Vx f0_Vx d_Vx f1_Vx e_Vx f2_Vx l_Vx m_Vx
  have c_Vx := Vx.d0
  have f0_Vx := Vx.frozen 0
  have d_Vx := Vx.d1
  have f1_Vx := Vx.frozen 1
  have e_Vx := Vx.d2
  have f2_Vx := Vx.frozen 2
  have l_Vx := Vx.lt
  have m_Vx := Nat.le_of_lt l_Vx
  go_wp2_with fail
  refine (qsign_any false none 0 0 [] none 0 0 [] 0 x10 (Rt.nil _)).mono ?_
  rintro e x11 ⟨rfl, hb⟩
  replace V0 := Va.after hb V0
  replace Vx := Va.after hb Vx
  replace h0 := Ri.after hb h0
  replace B0 := step B0 hb
  clear hb
  rw [Rat.zero_num, Int.sign_zero]
  clear c_Vx f0_Vx d_Vx f1_Vx e_Vx f2_Vx l_Vx m_Vx
  have c_Vx := Vx.d0
  have f0_Vx := Vx.frozen 0
  have d_Vx := Vx.d1
  have f1_Vx := Vx.frozen 1
  have e_Vx := Vx.d2
  have f2_Vx := Vx.frozen 2
  have l_Vx := Vx.lt
  have m_Vx := Nat.le_of_lt l_Vx
  go_wp2_with fail
  refine (rlongr_any false none 0 0 [] none 0 0 [] x11 (It.nil _) (Nt.nil _)).mono ?_
  rintro e x12 ⟨b2, m2, d2, y2, rfl, h2, e2, hb⟩
  replace V0 := Va.after hb V0
  replace Vx := Va.after hb Vx
  replace h0 := Ri.after hb h0
  replace B0 := step B0 hb
  clear hb
  have em : m2 = 1 := one_long h2 e2
  subst em
  clear c_Vx f0_Vx d_Vx f1_Vx e_Vx f2_Vx l_Vx m_Vx
  go_wp2_with fail
  go_ret
  exact ⟨rfl, B0⟩

set_option maxHeartbeats 16000000 in
set_option maxRecDepth 8000 in
theorem ofw_ok (s0 : Bool) (a0 : Option Addr) (l0 c0 : Nat) (z0 : List Int) (b0 : Option Addr) (m0 d0 : Nat) (y0 : List Int) (w : World) (h0 : Ri w a0 l0 c0 z0 b0 m0 d0 y0) (n0 : a0 = none → l0 = 0 ∧ c0 = 0) (o0 : b0 = none → m0 = 0 ∧ d0 = 0) (k0 : l0 ≤ 20000000000000) (j0 : m0 ≤ 20000000000000) (hl : l0 ≤ 1024) (hm : m0 ≤ 1024) (hN : Norm s0 z0 y0) :
    Calls Tryz.prog 3 #[.agg #[.bool s0, .slice a0 l0 c0, .slice b0 m0 d0]] w fun e w' => e = .returned (.bool true) ∧ Below w.heap.size w w' := by
  have HN : Hid (Norm s0 z0 y0) := hN
  obtain ⟨v, hv, hd, hs⟩ := norm_rat h0.1.2.1 h0.2.1.2.1 hN
  have HV : Hid (iv s0 z0 = v.num ∧ num y0 = v.den ∧ (s0 = true → num z0 ≠ 0)) := ⟨hv, hd, hs⟩
  clear hN hv hd hs
  have B0 : Below w.heap.size w w := Below.refl _ _
  go_enter Tryz.func3, Tryz.ntmps3
  go_wp2_with fail
  refine ent1 w _ _ (Q := fun W => Calls Tryz.prog _ _ W _) ?_
  intro x1 hb hs_x1 V0
  replace h0 := Ri.after hb h0
  replace B0 := step B0 hb
  clear hb hs_x1
  refine (awake5 x1).mono ?_
  rintro e x2 ⟨rfl, hb⟩
  replace V0 := Va.after hb V0
  replace h0 := Ri.after hb h0
  replace B0 := step B0 hb
  clear hb
  have c_V0 := V0.d0
  have f0_V0 := V0.frozen 0
  have d_V0 := V0.d1
  have f1_V0 := V0.frozen 1
  have e_V0 := V0.d2
  have f2_V0 := V0.frozen 2
  have l_V0 := V0.lt
  have m_V0 := Nat.le_of_lt l_V0
  go_wp2_with fail
  have HR0 : Hid (Ri x2 a0 l0 c0 z0 b0 m0 d0 y0) := h0
  have V00 : Hid (Va x2 w.heap.size 24 #[.bool s0, .slice a0 l0 c0, .slice b0 m0 d0]) := V0
  have B00 : Hid (Below w.heap.size w x2) := B0
  clear B0
  have BX := Below.refl x2.heap.size x2
  have lv0 := V0.lt
  refine (lentr5 s0 a0 l0 c0 z0 b0 m0 d0 y0 x2 h0.1 h0.2.1 n0 o0 k0 j0).mono ?_
  rintro e x3 ⟨g, g2, rfl, hg, hh, hi, hb⟩
  replace V0 := Va.after hb V0
  replace h0 := Ri.after hb h0
  replace BX := step BX hb
  clear hb
  clear c_V0 f0_V0 d_V0 f1_V0 e_V0 f2_V0 l_V0 m_V0
  have c_V0 := V0.d0
  have f0_V0 := V0.frozen 0
  have d_V0 := V0.d1
  have f1_V0 := V0.frozen 1
  have e_V0 := V0.d2
  have f2_V0 := V0.frozen 2
  have l_V0 := V0.lt
  have m_V0 := Nat.le_of_lt l_V0
  go_wp2_with fail
  have hgl := hg.lt
  have hhl := hh.lt
  refine ent1 x3 _ _ (Q := fun W => Calls Tryz.prog _ _ W _) ?_
  intro x4 hb hs_x4 Vm
  replace V0 := Va.after hb V0
  replace h0 := Ri.after hb h0
  replace hg := Ow.after hb hg
  replace hh := Ow.after hb hh
  replace BX := step BX hb
  clear hb hs_x4
  have S1 : Sl x4 (some ⟨g, 0, none⟩) l0 z0 := sl_front (hg.sl (n := l0 + 12) (h0.1.2.1.append (marks_limbs 12 (by omega))) (by rw [List.length_append, marks_length, h0.1.1])) h0.1.1
  have S2 : Sl x4 (some ⟨g2, 0, none⟩) m0 y0 := sl_front (hh.sl (n := m0 + 12) (h0.2.1.2.1.append (marks_limbs 12 (by omega))) (by rw [List.length_append, marks_length, h0.2.1.1])) h0.2.1.1
  have sgl := hg.lt
  have shl := hh.lt
  refine (qof_ok s0 (some ⟨g, 0, none⟩) l0 (l0 + 12) z0 (some ⟨g2, 0, none⟩) m0 (m0 + 12) y0 v x4 ⟨S1, S2, by omega, by omega⟩ hl hm HN.out HV.out.1 HV.out.2.1).mono ?_
  rintro e x5 ⟨si, ai, li, ci, zi, bi, mi, di, yi, rfl, hi_, hp, hb⟩
  replace V0 := Va.after hb V0
  replace Vm := Va.after hb Vm
  replace h0 := Ri.after hb h0
  replace hg := Ow.after hb hg
  replace hh := Ow.after hb hh
  replace BX := step BX hb
  clear hb
  have hp1 : ∀ p, ai = some p → p.block ≠ g ∧ p.block ≠ g2 := fun p e => by have := hp.out.1 p e; omega
  have hp2 : ∀ p, bi = some p → p.block ≠ g ∧ p.block ≠ g2 := fun p e => by have := hp.out.2 p e; omega
  have HP : Hid ((∀ p, ai = some p → p.block ≠ g ∧ p.block ≠ g2) ∧ (∀ p, bi = some p → p.block ≠ g ∧ p.block ≠ g2)) := ⟨hp1, hp2⟩
  clear hp hp1 hp2
  clear c_V0 f0_V0 d_V0 f1_V0 e_V0 f2_V0 l_V0 m_V0
  have c_V0 := V0.d0
  have f0_V0 := V0.frozen 0
  have d_V0 := V0.d1
  have f1_V0 := V0.frozen 1
  have e_V0 := V0.d2
  have f2_V0 := V0.frozen 2
  have l_V0 := V0.lt
  have m_V0 := Nat.le_of_lt l_V0
  go_wp2_with fail
  clear S1 S2
  have lm0 := Vm.lt
  refine ent1 x5 _ _ (Q := fun W => Calls Tryz.prog _ _ W _) ?_
  intro x6 hb hs_x6 Vx
  replace V0 := Va.after hb V0
  replace Vm := Va.after hb Vm
  replace h0 := Ri.after hb h0
  replace hg := Ow.after hb hg
  replace hh := Ow.after hb hh
  replace hi_ := Rt.after hb hi_
  replace BX := step BX hb
  clear hb hs_x6
  refine (check5 s0 a0 l0 c0 z0 b0 m0 d0 y0 x6 h0).mono ?_
  rintro e x7 ⟨er, rfl, hc, hb⟩
  replace V0 := Va.after hb V0
  replace Vm := Va.after hb Vm
  replace Vx := Va.after hb Vx
  replace h0 := Ri.after hb h0
  replace hg := Ow.after hb hg
  replace hh := Ow.after hb hh
  replace hi_ := Rt.after hb hi_
  replace BX := step BX hb
  clear hb
  obtain rfl : er = 0 := Chk.one (Or.inr (Or.inr ⟨rfl, hl, hm, HN.out⟩)) hc.out
  clear hc
  clear c_V0 f0_V0 d_V0 f1_V0 e_V0 f2_V0 l_V0 m_V0
  have c_Vm := Vm.d0
  have f0_Vm := Vm.frozen 0
  have d_Vm := Vm.d1
  have f1_Vm := Vm.frozen 1
  have e_Vm := Vm.d2
  have f2_Vm := Vm.frozen 2
  have l_Vm := Vm.lt
  have m_Vm := Nat.le_of_lt l_Vm
  have c_V0 := V0.d0
  have f0_V0 := V0.frozen 0
  have d_V0 := V0.d1
  have f1_V0 := V0.frozen 1
  have e_V0 := V0.d2
  have f2_V0 := V0.frozen 2
  have l_V0 := V0.lt
  have m_V0 := Nat.le_of_lt l_V0
  go_wp2_with fail
  refine (keptr5 s0 a0 l0 c0 z0 b0 m0 d0 y0 g g2 x7 h0.1 h0.2.1 hg hh k0 j0).mono ?_
  rintro e x8 ⟨rfl, hb⟩
  replace V0 := Va.after hb V0
  replace Vm := Va.after hb Vm
  replace Vx := Va.after hb Vx
  replace h0 := Ri.after hb h0
  replace hg := Ow.after hb hg
  replace hh := Ow.after hb hh
  replace hi_ := Rt.after hb hi_
  replace BX := step BX hb
  clear hb
  clear c_Vm f0_Vm d_Vm f1_Vm e_Vm f2_Vm l_Vm m_Vm c_V0 f0_V0 d_V0 f1_V0 e_V0 f2_V0 l_V0 m_V0
  have c_Vm := Vm.d0
  have f0_Vm := Vm.frozen 0
  have d_Vm := Vm.d1
  have f1_Vm := Vm.frozen 1
  have e_Vm := Vm.d2
  have f2_Vm := Vm.frozen 2
  have l_Vm := Vm.lt
  have m_Vm := Nat.le_of_lt l_Vm
  go_wp2_with fail
  obtain ⟨hi1, hi2, hi3⟩ := hi.out
  have xlt := Vx.lt
  have zl1 : (z0 ++ marks 12).length = l0 + 12 := by rw [List.length_append, marks_length, h0.1.1]
  have zl2 : (y0 ++ marks 12).length = m0 + 12 := by rw [List.length_append, marks_length, h0.2.1.1]
  refine (overr5 s0 g g2 l0 m0 (z0 ++ marks 12) (y0 ++ marks 12) x8 hg hh zl1 zl2 k0 j0 hi3 x2.heap.size hi1 hi2).mono ?_
  rintro e x9 ⟨rfl, hk, hb⟩
  replace hi_ := hi_.keep hk.out HP.out.1 HP.out.2
  replace Vx : Va x9 (x5.heap.size) 32 #[.bool si, .slice ai li ci, .slice bi mi di] := by unfold Va at *; rw [hk.out _ xlt (by omega) (by omega)]; exact Vx
  replace BX := BX.trans hb
  clear hk hb hg hh h0 V0 Vm hi hi1 hi2 hi3 zl1 zl2 xlt HP
  have h0 := Ri.after BX HR0.out
  have V0 := Va.after BX V00.out
  have B0 := step B00.out BX
  clear BX HR0 V00 B00
  have hw : Rr x9 s0 a0 l0 c0 z0 b0 m0 d0 y0 v := ⟨h0.1, h0.2.1, by rw [HN.out.1, h0.1.1], by rw [HN.out.2.1, h0.2.1.1], h0.2.2, HV.out.1, HV.out.2.1, HV.out.2.2⟩
  have hz0 := h0.1.1
  have hy0 := h0.2.1.1
  have HLY : Hid (Limbs y0) := h0.2.1.2.1
  have HLI : Hid (l0 = li) := by
    have e1 := trim_one hw.1.2.1 hi_.1.1.limbs (by rw [hw.2.2.1, hz0]) (by rw [hi_.1.1.2.1]; exact hi_.1.1.1.1.symm) (by
      have q1 := hi_.2.2.1
      have q2 := HV.out.1
      have q3 := hi_.1.abs
      have q4 := num_nonneg hw.1.2.1
      rw [q1, ← q2] at q3
      cases s0 <;> simp only [iv_t, iv_f] at q3 <;> omega)
    show l0 = li
    rw [← hz0, e1]; exact hi_.1.1.1.1
  have HME : Hid (∀ (W : World) (b2 : Option Addr) (m2 d2 : Nat) (y2 : List Int), Nt W b2 m2 d2 y2 → num y2 = (v.den : Int) → m2 = m0 ∧ y2 = y0) := fun W b2 m2 d2 y2 h e => by
    have e1 : y2 = y0 := trim_one h.limbs HLY.out (by rw [h.2.1]; exact h.1.1.symm) HN.out.2.1 (by rw [e, HV.out.2.1])
    exact ⟨by rw [← h.1.1, e1, hy0], e1⟩
  obtain ⟨sg, hsg⟩ : ∃ sg, Int.sign v.num = sg := ⟨_, rfl⟩
  have HSG : Hid (Int.sign v.num = sg) := hsg
  clear hsg
  have ess : (sg == sg) = true := by simp
  obtain ⟨mx, hmx⟩ : ∃ mx : Int, max (l0 : Int) (m0 : Int) = mx := ⟨_, rfl⟩
  have HMX : Hid (max (l0 : Int) (m0 : Int) = mx) := hmx
  clear hmx
  have emx : (mx == mx) = true := by simp
  clear c_Vm f0_Vm d_Vm f1_Vm e_Vm f2_Vm l_Vm m_Vm
  have c_V0 := V0.d0
  have f0_V0 := V0.frozen 0
  have d_V0 := V0.d1
  have f1_V0 := V0.frozen 1
  have e_V0 := V0.d2
  have f2_V0 := V0.frozen 2
  have l_V0 := V0.lt
  have m_V0 := Nat.le_of_lt l_V0
  have c_Vx := Vx.d0
  have f0_Vx := Vx.frozen 0
  have d_Vx := Vx.d1
  have f1_Vx := Vx.frozen 1
  have e_Vx := Vx.d2
  have f2_Vx := Vx.frozen 2
  have l_Vx := Vx.lt
  have m_Vx := Nat.le_of_lt l_Vx
  go_wp2_with fail
  clear c_V0 f0_V0 d_V0 f1_V0 e_V0 f2_V0 l_V0 m_V0 c_Vx f0_Vx d_Vx f1_Vx e_Vx f2_Vx l_Vx m_Vx
  refine wp_region_noPanic ?_
  replace V0 : Va x9.drew _ _ _ := V0
  replace Vx : Va x9.drew _ _ _ := Vx
  replace h0 := h0.drw
  replace hi_ := hi_.drw
  replace hw := hw.drw
  replace B0 := Below.drew B0
  refine wp_region_held_drew (S := (fun W => W.cell? ⟨w.heap.size, 0, none⟩ = some (.bool s0) ∧ W.cell? ⟨w.heap.size, 1, none⟩ = some (.slice a0 l0 c0) ∧ W.cell? ⟨w.heap.size, 2, none⟩ = some (.slice b0 m0 d0) ∧ W.cell? ⟨x5.heap.size, 0, none⟩ = some (.bool si) ∧ W.cell? ⟨x5.heap.size, 1, none⟩ = some (.slice ai li ci) ∧ W.cell? ⟨x5.heap.size, 2, none⟩ = some (.slice bi mi di))) (by kernel_rfl) ⟨V0.d0, V0.d1, V0.d2, Vx.d0, Vx.d1, Vx.d2⟩ (fun hHeld => ?_)
  obtain ⟨x10, hxd⟩ : ∃ xd, xd = x9.drew := ⟨_, rfl⟩
  rw [← hxd] at V0 Vx h0 hi_ hw B0 hHeld ⊢
  clear hxd
  refine wpAnyH_take (i := 0) (v := ?_) rfl (by kernel_rfl) (by kernel_rfl) (by kernel_rfl) (fun _ _ _ h => h) (Or.inl ⟨by rfl, ?_⟩) hHeld ?_
  rotate_left
  · (intro W hSw; (try dsimp only at hSw); go_simp; all_goals (with_reducible rfl))
  simp only [List.getElem_toArray, List.getElem_cons_zero, Act.put, List.setIfInBounds_toArray, List.set_cons_zero, List.set_cons_succ]
  refine wpAnyH_take (i := 1) (v := ?_) rfl (by kernel_rfl) (by kernel_rfl) (by kernel_rfl) (fun _ _ _ h => h) (Or.inl ⟨by rfl, ?_⟩) hHeld ?_
  rotate_left
  · (intro W hSw; (try dsimp only at hSw); go_simp; all_goals (with_reducible rfl))
  simp only [List.getElem_toArray, List.getElem_cons_zero, List.getElem_cons_succ, Act.put, List.setIfInBounds_toArray, List.set_cons_zero, List.set_cons_succ]
  refine wpAnyH_ready (rs := [2]) (by kernel_rfl) (by simp) ?_
  refine AllReadyH.cons rfl (fun K hK => ?_) AllReadyH.nil
  simp only [List.getElem_toArray, List.getElem_cons_zero, List.getElem_cons_succ]
  go_simp
  refine (is5 si ai li ci zi bi mi di yi v s0 a0 l0 c0 z0 b0 m0 d0 y0 _ hi_ hw).mono ?_
  rintro e x11 ⟨rfl, hb⟩
  replace V0 := Va.after hb V0
  replace Vx := Va.after hb Vx
  replace h0 := Ri.after hb h0
  replace hi_ := Rt.after hb hi_
  replace hw := Rr.after hb hw
  replace B0 := step B0 hb
  clear hb
  try go_wp2_with fail
  refine hK.out _ _ ⟨V0.d0, V0.d1, V0.d2, Vx.d0, Vx.d1, Vx.d2⟩ (fun hHeld => ?_)
  clear hK K
  refine wpAnyH_take (i := 3) (v := ?_) rfl (by kernel_rfl) (by kernel_rfl) (by kernel_rfl) (fun _ _ _ h => h) (Or.inl ⟨by rfl, ?_⟩) hHeld ?_
  rotate_left
  · (intro W hSw; (try dsimp only at hSw); go_simp; all_goals (with_reducible rfl))
  simp only [List.getElem_toArray, List.getElem_cons_zero, List.getElem_cons_succ, Act.put, List.setIfInBounds_toArray, List.set_cons_zero, List.set_cons_succ]
  refine wpAnyH_take (i := 4) (v := ?_) rfl (by kernel_rfl) (by kernel_rfl) (by kernel_rfl) (fun _ _ _ h => h) (Or.inl ⟨by rfl, ?_⟩) hHeld ?_
  rotate_left
  · (intro W hSw; (try dsimp only at hSw); go_simp; all_goals (with_reducible rfl))
  simp only [List.getElem_toArray, List.getElem_cons_zero, List.getElem_cons_succ, Act.put, List.setIfInBounds_toArray, List.set_cons_zero, List.set_cons_succ]
  refine wpAnyH_take (i := 6) (v := ?_) rfl (by kernel_rfl) (by kernel_rfl) (by kernel_rfl) (fun _ _ _ h => h) (Or.inl ⟨by rfl, ?_⟩) hHeld ?_
  rotate_left
  · (intro W hSw; (try dsimp only at hSw); go_simp; all_goals (with_reducible rfl))
  simp only [List.getElem_toArray, List.getElem_cons_zero, List.getElem_cons_succ, Act.put, List.setIfInBounds_toArray, List.set_cons_zero, List.set_cons_succ]
  refine wpAnyH_ready (rs := [5]) (by kernel_rfl) (by simp) ?_
  refine AllReadyH.cons rfl (fun K hK => ?_) AllReadyH.nil
  simp only [List.getElem_toArray, List.getElem_cons_zero, List.getElem_cons_succ]
  go_simp
  refine (qsign_any si ai li ci zi bi mi di yi v _ hi_).mono ?_
  rintro e x12 ⟨rfl, hb⟩
  replace V0 := Va.after hb V0
  replace Vx := Va.after hb Vx
  replace h0 := Ri.after hb h0
  replace hi_ := Rt.after hb hi_
  replace hw := Rr.after hb hw
  replace B0 := step B0 hb
  clear hb
  rw [HSG.out]
  try go_wp2_with fail
  refine hK.out _ _ ⟨V0.d0, V0.d1, V0.d2, Vx.d0, Vx.d1, Vx.d2⟩ (fun hHeld => ?_)
  clear hK K
  refine wpAnyH_ready (rs := [7]) (by kernel_rfl) (by simp) ?_
  refine AllReadyH.cons rfl (fun K hK => ?_) AllReadyH.nil
  simp only [List.getElem_toArray, List.getElem_cons_zero, List.getElem_cons_succ]
  go_simp
  refine (rsign5 s0 a0 l0 c0 z0 b0 m0 d0 y0 v _ hw).mono ?_
  rintro e x13 ⟨rfl, hb⟩
  replace V0 := Va.after hb V0
  replace Vx := Va.after hb Vx
  replace h0 := Ri.after hb h0
  replace hi_ := Rt.after hb hi_
  replace hw := Rr.after hb hw
  replace B0 := step B0 hb
  clear hb
  rw [HSG.out]
  try go_wp2_with fail
  refine hK.out _ _ ⟨V0.d0, V0.d1, V0.d2, Vx.d0, Vx.d1, Vx.d2⟩ (fun hHeld => ?_)
  clear hK K
  refine wpAnyH_take (i := 8) (v := .bool true) rfl (by kernel_rfl) (by kernel_rfl) (by kernel_rfl) (fun _ _ _ h => h) (Or.inl ⟨by rfl, ?_⟩) hHeld ?_
  · (intro W hSw; (try dsimp only at hSw); go_simp; first | (rw [ess]) | skip)
  simp only [List.getElem_toArray, List.getElem_cons_zero, List.getElem_cons_succ, Act.put, List.setIfInBounds_toArray, List.set_cons_zero, List.set_cons_succ]
  refine wpAnyH_take (i := 9) (v := ?_) rfl (by kernel_rfl) (by kernel_rfl) (by kernel_rfl) (fun _ _ _ h => h) (Or.inl ⟨by rfl, ?_⟩) hHeld ?_
  rotate_left
  · (intro W hSw; (try dsimp only at hSw); go_simp; all_goals (with_reducible rfl))
  simp only [List.getElem_toArray, List.getElem_cons_zero, List.getElem_cons_succ, Act.put, List.setIfInBounds_toArray, List.set_cons_zero, List.set_cons_succ]
  refine wpAnyH_take (i := 10) (v := ?_) rfl (by kernel_rfl) (by kernel_rfl) (by kernel_rfl) (fun _ _ _ h => h) (Or.inl ⟨by rfl, ?_⟩) hHeld ?_
  rotate_left
  · (intro W hSw; (try dsimp only at hSw); go_simp; all_goals (with_reducible rfl))
  simp only [List.getElem_toArray, List.getElem_cons_zero, List.getElem_cons_succ, Act.put, List.setIfInBounds_toArray, List.set_cons_zero, List.set_cons_succ]
  refine wpAnyH_take (i := 11) (v := ?_) rfl (by kernel_rfl) (by kernel_rfl) (by kernel_rfl) (fun _ _ _ h => h) (Or.inl ⟨by rfl, ?_⟩) hHeld ?_
  rotate_left
  · (intro W hSw; (try dsimp only at hSw); go_simp; all_goals (with_reducible rfl))
  simp only [List.getElem_toArray, List.getElem_cons_zero, List.getElem_cons_succ, Act.put, List.setIfInBounds_toArray, List.set_cons_zero, List.set_cons_succ]
  refine wpAnyH_take (i := 13) (v := ?_) rfl (by kernel_rfl) (by kernel_rfl) (by kernel_rfl) (fun _ _ _ h => h) (Or.inl ⟨by rfl, ?_⟩) hHeld ?_
  rotate_left
  · (intro W hSw; (try dsimp only at hSw); go_simp; all_goals (with_reducible rfl))
  simp only [List.getElem_toArray, List.getElem_cons_zero, List.getElem_cons_succ, Act.put, List.setIfInBounds_toArray, List.set_cons_zero, List.set_cons_succ]
  refine wpAnyH_ready (rs := [12]) (by kernel_rfl) (by simp) ?_
  refine AllReadyH.cons rfl (fun K hK => ?_) AllReadyH.nil
  simp only [List.getElem_toArray, List.getElem_cons_zero, List.getElem_cons_succ]
  go_simp
  refine (rlongr_any si ai li ci zi bi mi di yi _ hi_.1 hi_.2.1).mono ?_
  rintro e x14 ⟨b2, m2, d2, y2, rfl, h2, e2, hb⟩
  replace V0 := Va.after hb V0
  replace Vx := Va.after hb Vx
  replace h0 := Ri.after hb h0
  replace hi_ := Rt.after hb hi_
  replace hw := Rr.after hb hw
  replace B0 := step B0 hb
  clear hb
  have em : max (li : Int) (m2 : Int) = mx := by rw [← HLI.out, (HME.out _ _ _ _ _ h2 (e2.trans hi_.2.2.2.1)).1]; exact HMX.out
  rw [em]
  clear em e2
  try go_wp2_with fail
  refine hK.out _ _ ⟨V0.d0, V0.d1, V0.d2, Vx.d0, Vx.d1, Vx.d2⟩ (fun hHeld => ?_)
  clear hK K
  refine wpAnyH_ready (rs := [14]) (by kernel_rfl) (by simp) ?_
  refine AllReadyH.cons rfl (fun K hK => ?_) AllReadyH.nil
  simp only [List.getElem_toArray, List.getElem_cons_zero, List.getElem_cons_succ]
  go_simp
  refine (rlong5 s0 a0 l0 c0 b0 m0 d0 _).mono ?_
  rintro e x15 ⟨rfl, hb⟩
  replace V0 := Va.after hb V0
  replace Vx := Va.after hb Vx
  replace h0 := Ri.after hb h0
  replace hi_ := Rt.after hb hi_
  replace hw := Rr.after hb hw
  replace h2 := Nt.after hb h2
  replace B0 := step B0 hb
  clear hb
  rw [HMX.out]
  try go_wp2_with fail
  refine hK.out _ _ ⟨V0.d0, V0.d1, V0.d2, Vx.d0, Vx.d1, Vx.d2⟩ (fun hHeld => ?_)
  clear hK K
  refine wpAnyH_take (i := 15) (v := .bool true) rfl (by kernel_rfl) (by kernel_rfl) (by kernel_rfl) (fun _ _ _ h => h) (Or.inl ⟨by rfl, ?_⟩) hHeld ?_
  · (intro W hSw; (try dsimp only at hSw); go_simp; first | (rw [emx]) | skip)
  simp only [List.getElem_toArray, List.getElem_cons_zero, List.getElem_cons_succ, Act.put, List.setIfInBounds_toArray, List.set_cons_zero, List.set_cons_succ]
  refine wpAnyH_take (i := 16) (v := ?_) rfl (by kernel_rfl) (by kernel_rfl) (by kernel_rfl) (fun _ _ _ h => h) (Or.inl ⟨by rfl, ?_⟩) hHeld ?_
  rotate_left
  · (intro W hSw; (try dsimp only at hSw); go_simp; all_goals (with_reducible rfl))
  simp only [List.getElem_toArray, List.getElem_cons_zero, List.getElem_cons_succ, Act.put, List.setIfInBounds_toArray, List.set_cons_zero, List.set_cons_succ]
  refine wpAnyH_take (i := 17) (v := ?_) rfl (by kernel_rfl) (by kernel_rfl) (by kernel_rfl) (fun _ _ _ h => h) (Or.inl ⟨by rfl, ?_⟩) hHeld ?_
  rotate_left
  · (intro W hSw; (try dsimp only at hSw); go_simp; all_goals (with_reducible rfl))
  simp only [List.getElem_toArray, List.getElem_cons_zero, List.getElem_cons_succ, Act.put, List.setIfInBounds_toArray, List.set_cons_zero, List.set_cons_succ]
  refine wpAnyH_take (i := 18) (v := ?_) rfl (by kernel_rfl) (by kernel_rfl) (by kernel_rfl) (fun _ _ _ h => h) (Or.inl ⟨by rfl, ?_⟩) hHeld ?_
  rotate_left
  · (intro W hSw; (try dsimp only at hSw); go_simp; all_goals (with_reducible rfl))
  simp only [List.getElem_toArray, List.getElem_cons_zero, List.getElem_cons_succ, Act.put, List.setIfInBounds_toArray, List.set_cons_zero, List.set_cons_succ]
  refine wpAnyH_take (i := 20) (v := ?_) rfl (by kernel_rfl) (by kernel_rfl) (by kernel_rfl) (fun _ _ _ h => h) (Or.inl ⟨by rfl, ?_⟩) hHeld ?_
  rotate_left
  · (intro W hSw; (try dsimp only at hSw); go_simp; all_goals (with_reducible rfl))
  simp only [List.getElem_toArray, List.getElem_cons_zero, List.getElem_cons_succ, Act.put, List.setIfInBounds_toArray, List.set_cons_zero, List.set_cons_succ]
  refine wpAnyH_take (i := 21) (v := ?_) rfl (by kernel_rfl) (by kernel_rfl) (by kernel_rfl) (fun _ _ _ h => h) (Or.inl ⟨by rfl, ?_⟩) hHeld ?_
  rotate_left
  · (intro W hSw; (try dsimp only at hSw); go_simp; all_goals (with_reducible rfl))
  simp only [List.getElem_toArray, List.getElem_cons_zero, List.getElem_cons_succ, Act.put, List.setIfInBounds_toArray, List.set_cons_zero, List.set_cons_succ]
  refine wpAnyH_take (i := 22) (v := ?_) rfl (by kernel_rfl) (by kernel_rfl) (by kernel_rfl) (fun _ _ _ h => h) (Or.inl ⟨by rfl, ?_⟩) hHeld ?_
  rotate_left
  · (intro W hSw; (try dsimp only at hSw); go_simp; all_goals (with_reducible rfl))
  simp only [List.getElem_toArray, List.getElem_cons_zero, List.getElem_cons_succ, Act.put, List.setIfInBounds_toArray, List.set_cons_zero, List.set_cons_succ]
  refine wpAnyH_take (i := 23) (v := ?_) rfl (by kernel_rfl) (by kernel_rfl) (by kernel_rfl) (fun _ _ _ h => h) (Or.inl ⟨by rfl, ?_⟩) hHeld ?_
  rotate_left
  · (intro W hSw; (try dsimp only at hSw); go_simp; all_goals (with_reducible rfl))
  simp only [List.getElem_toArray, List.getElem_cons_zero, List.getElem_cons_succ, Act.put, List.setIfInBounds_toArray, List.set_cons_zero, List.set_cons_succ]
  refine wpAnyH_ready (rs := [19]) (by kernel_rfl) (by simp) ?_
  refine AllReadyH.cons rfl (fun K hK => ?_) AllReadyH.nil
  simp only [List.getElem_toArray, List.getElem_cons_zero, List.getElem_cons_succ]
  go_simp
  refine (qnum_any si ai li ci bi mi di _).mono ?_
  rintro e x16 ⟨rfl, hb⟩
  replace V0 := Va.after hb V0
  replace Vx := Va.after hb Vx
  replace h0 := Ri.after hb h0
  replace hi_ := Rt.after hb hi_
  replace hw := Rr.after hb hw
  replace h2 := Nt.after hb h2
  replace B0 := step B0 hb
  clear hb
  try go_wp2_with fail
  refine hK.out _ _ ⟨V0.d0, V0.d1, V0.d2, Vx.d0, Vx.d1, Vx.d2⟩ (fun hHeld => ?_)
  clear hK K
  refine wpAnyH_ready (rs := [24]) (by kernel_rfl) (by simp) ?_
  refine AllReadyH.cons rfl (fun K hK => ?_) AllReadyH.nil
  simp only [List.getElem_toArray, List.getElem_cons_zero, List.getElem_cons_succ]
  go_simp
  refine (rwhole5 s0 a0 l0 c0 z0 _ h0.1 h0.2.2.1 (by omega)).mono ?_
  rintro e x17 ⟨s5, a5, l5, c5, z5, b5, m5, d5, y5, rfl, h5, hb⟩
  replace V0 := Va.after hb V0
  replace Vx := Va.after hb Vx
  replace h0 := Ri.after hb h0
  replace hi_ := Rt.after hb hi_
  replace hw := Rr.after hb hw
  replace h2 := Nt.after hb h2
  replace B0 := step B0 hb
  clear hb
  try go_wp2_with fail
  refine hK.out _ _ ⟨V0.d0, V0.d1, V0.d2, Vx.d0, Vx.d1, Vx.d2⟩ (fun hHeld => ?_)
  clear hK K
  refine wpAnyH_ready (rs := [25]) (by kernel_rfl) (by simp) ?_
  refine AllReadyH.cons rfl (fun K hK => ?_) AllReadyH.nil
  simp only [List.getElem_toArray, List.getElem_cons_zero, List.getElem_cons_succ]
  go_simp
  refine (told5 si ai li ci zi s5 a5 l5 c5 z5 b5 m5 d5 y5 ((iv s0 z0 : Int) : Rat) _ hi_.1 h5 (by rw [Rat.num_intCast, hi_.2.2.1, HV.out.1])).mono ?_
  rintro e x18 ⟨rfl, hb⟩
  replace V0 := Va.after hb V0
  replace Vx := Va.after hb Vx
  replace h0 := Ri.after hb h0
  replace hi_ := Rt.after hb hi_
  replace hw := Rr.after hb hw
  replace h2 := Nt.after hb h2
  replace h5 := Rr.after hb h5
  replace B0 := step B0 hb
  clear hb
  try go_wp2_with fail
  refine hK.out _ _ ⟨V0.d0, V0.d1, V0.d2, Vx.d0, Vx.d1, Vx.d2⟩ (fun hHeld => ?_)
  clear hK K
  refine wpAnyH_take (i := 26) (v := ?_) rfl (by kernel_rfl) (by kernel_rfl) (by kernel_rfl) (fun _ _ _ h => h) (Or.inl ⟨by rfl, ?_⟩) hHeld ?_
  rotate_left
  · (intro W hSw; (try dsimp only at hSw); go_simp; all_goals (with_reducible rfl))
  simp only [List.getElem_toArray, List.getElem_cons_zero, List.getElem_cons_succ, Act.put, List.setIfInBounds_toArray, List.set_cons_zero, List.set_cons_succ]
  refine wpAnyH_take (i := 27) (v := ?_) rfl (by kernel_rfl) (by kernel_rfl) (by kernel_rfl) (fun _ _ _ h => h) (Or.inl ⟨by rfl, ?_⟩) hHeld ?_
  rotate_left
  · (intro W hSw; (try dsimp only at hSw); go_simp; all_goals (with_reducible rfl))
  simp only [List.getElem_toArray, List.getElem_cons_zero, List.getElem_cons_succ, Act.put, List.setIfInBounds_toArray, List.set_cons_zero, List.set_cons_succ]
  refine wpAnyH_take (i := 28) (v := ?_) rfl (by kernel_rfl) (by kernel_rfl) (by kernel_rfl) (fun _ _ _ h => h) (Or.inl ⟨by rfl, ?_⟩) hHeld ?_
  rotate_left
  · (intro W hSw; (try dsimp only at hSw); go_simp; all_goals (with_reducible rfl))
  simp only [List.getElem_toArray, List.getElem_cons_zero, List.getElem_cons_succ, Act.put, List.setIfInBounds_toArray, List.set_cons_zero, List.set_cons_succ]
  refine wpAnyH_take (i := 31) (v := ?_) rfl (by kernel_rfl) (by kernel_rfl) (by kernel_rfl) (fun _ _ _ h => h) (Or.inl ⟨by rfl, ?_⟩) hHeld ?_
  rotate_left
  · (intro W hSw; (try dsimp only at hSw); go_simp; all_goals (with_reducible rfl))
  simp only [List.getElem_toArray, List.getElem_cons_zero, List.getElem_cons_succ, Act.put, List.setIfInBounds_toArray, List.set_cons_zero, List.set_cons_succ]
  refine wpAnyH_take (i := 32) (v := ?_) rfl (by kernel_rfl) (by kernel_rfl) (by kernel_rfl) (fun _ _ _ h => h) (Or.inl ⟨by rfl, ?_⟩) hHeld ?_
  rotate_left
  · (intro W hSw; (try dsimp only at hSw); go_simp; all_goals (with_reducible rfl))
  simp only [List.getElem_toArray, List.getElem_cons_zero, List.getElem_cons_succ, Act.put, List.setIfInBounds_toArray, List.set_cons_zero, List.set_cons_succ]
  refine wpAnyH_ready (rs := [29]) (by kernel_rfl) (by simp) ?_
  refine AllReadyH.cons rfl (fun K hK => ?_) AllReadyH.nil
  simp only [List.getElem_toArray, List.getElem_cons_zero, List.getElem_cons_succ]
  go_simp
  refine (rden_any si ai li ci bi mi di yi _ hi_.2.1).mono ?_
  rintro e x19 ⟨b3, m3, d3, y3, rfl, h3, e3, hb⟩
  replace V0 := Va.after hb V0
  replace Vx := Va.after hb Vx
  replace h0 := Ri.after hb h0
  replace hi_ := Rt.after hb hi_
  replace hw := Rr.after hb hw
  replace h2 := Nt.after hb h2
  replace h5 := Rr.after hb h5
  replace B0 := step B0 hb
  clear hb
  obtain ⟨em3, ey3⟩ := HME.out _ _ _ _ _ h3 (e3.trans hi_.2.2.2.1)
  subst em3
  subst ey3
  clear e3
  try go_wp2_with fail
  refine hK.out _ _ ⟨V0.d0, V0.d1, V0.d2, Vx.d0, Vx.d1, Vx.d2⟩ (fun hHeld => ?_)
  clear hK K
  refine wpAnyH_ready (rs := [30]) (by kernel_rfl) (by simp) ?_
  refine AllReadyH.cons rfl (fun K hK => ?_) AllReadyH.nil
  simp only [List.getElem_toArray, List.getElem_cons_zero, List.getElem_cons_succ]
  go_simp
  refine (limbs_any b3 m3 d3 y3 _ h3).mono ?_
  rintro e x20 ⟨gl, rfl, hgx, hol, hb⟩
  replace V0 := Va.after hb V0
  replace Vx := Va.after hb Vx
  replace h0 := Ri.after hb h0
  replace hi_ := Rt.after hb hi_
  replace hw := Rr.after hb hw
  replace h2 := Nt.after hb h2
  replace h5 := Rr.after hb h5
  replace h3 := Nt.after hb h3
  replace B0 := step B0 hb
  clear hb hgx
  replace hol : Ow _ gl y3 := hol
  try go_wp2_with fail
  refine hK.out _ _ ⟨V0.d0, V0.d1, V0.d2, Vx.d0, Vx.d1, Vx.d2⟩ (fun hHeld => ?_)
  clear hK K
  refine wpAnyH_ready (rs := [33]) (by kernel_rfl) (by simp) ?_
  refine AllReadyH.cons rfl (fun K hK => ?_) AllReadyH.nil
  simp only [List.getElem_toArray, List.getElem_cons_zero, List.getElem_cons_succ]
  go_simp
  refine (sameq_b (some ⟨gl, 0, none⟩) b0 m3 m3 d0 y3 _ (hol.sl h3.limbs hy0) h0.2.1 (by omega)).mono ?_
  rintro e x21 ⟨rfl, hb⟩
  replace V0 := Va.after hb V0
  replace Vx := Va.after hb Vx
  replace h0 := Ri.after hb h0
  replace hi_ := Rt.after hb hi_
  replace hw := Rr.after hb hw
  replace h2 := Nt.after hb h2
  replace h5 := Rr.after hb h5
  replace h3 := Nt.after hb h3
  replace hol := Ow.after hb hol
  replace B0 := step B0 hb
  clear hb
  try go_wp2_with fail
  refine hK.out _ _ ⟨V0.d0, V0.d1, V0.d2, Vx.d0, Vx.d1, Vx.d2⟩ (fun hHeld => ?_)
  clear hK K
  refine wpAnyH_take (i := 34) (v := ?_) rfl (by kernel_rfl) (by kernel_rfl) (by kernel_rfl) (fun _ _ _ h => h) (Or.inl ⟨by rfl, ?_⟩) hHeld ?_
  rotate_left
  · (intro W hSw; (try dsimp only at hSw); go_simp; all_goals (with_reducible rfl))
  simp only [List.getElem_toArray, List.getElem_cons_zero, List.getElem_cons_succ, Act.put, List.setIfInBounds_toArray, List.set_cons_zero, List.set_cons_succ]
  refine wpAnyH_take (i := 35) (v := ?_) rfl (by kernel_rfl) (by kernel_rfl) (by kernel_rfl) (fun _ _ _ h => h) (Or.inl ⟨by rfl, ?_⟩) hHeld ?_
  rotate_left
  · (intro W hSw; (try dsimp only at hSw); go_simp; all_goals (with_reducible rfl))
  simp only [List.getElem_toArray, List.getElem_cons_zero, List.getElem_cons_succ, Act.put, List.setIfInBounds_toArray, List.set_cons_zero, List.set_cons_succ]
  refine wpAnyH_done (by kernel_rfl) ?_ _
  refine NoPanic.normal ?_
  clear hHeld
  go_wp2_with fail
  go_ret
  exact ⟨rfl, B0⟩

theorem of5_walk (s0 : Bool) (a0 : Option Addr) (l0 c0 : Nat) (z0 : List Int) (b0 : Option Addr) (m0 d0 : Nat) (y0 : List Int) (w : World) (h0 : Ri w a0 l0 c0 z0 b0 m0 d0 y0) (n0 : a0 = none → l0 = 0 ∧ c0 = 0) (o0 : b0 = none → m0 = 0 ∧ d0 = 0) (k0 : l0 ≤ 20000000000000) (j0 : m0 ≤ 20000000000000) :
    Calls Tryz.prog 3 #[.agg #[.bool s0, .slice a0 l0 c0, .slice b0 m0 d0]] w fun e w' => e = .returned (.bool true) ∧ Below w.heap.size w w' := by
  by_cases h1 : 1024 < max (l0 : Int) (m0 : Int)
  · exact ofw_long s0 a0 l0 c0 z0 b0 m0 d0 y0 w h0 n0 o0 k0 j0 h1
  · by_cases hN : Norm s0 z0 y0
    · exact ofw_ok s0 a0 l0 c0 z0 b0 m0 d0 y0 w h0 n0 o0 k0 j0 (by omega) (by omega) hN
    · exact ofw_bad s0 a0 l0 c0 z0 b0 m0 d0 y0 w h0 n0 o0 k0 j0 (by omega) (by omega) hN
end Go.Proofs.YtadfccbjadopgaaGreat
