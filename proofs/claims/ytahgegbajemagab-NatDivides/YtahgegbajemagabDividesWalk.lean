/-
  The walk of NatDivides: each call by its contract.
-/
import Derived.Test.YtahgegbajemagabLongs
namespace Go.Proofs.Ytahgegbajemagab.natDivides
open Go.RowKit Go.Shelf

set_option maxHeartbeats 4000000 in
theorem walk_long (a0 : Option Addr) (len0 cap0 : Nat) (z0 : List Int) (a1 : Option Addr) (len1 cap1 : Nat) (z1 : List Int) (w : World) (s0 : Sl w a0 len0 z0) (c0 : len0 ≤ cap0) (r0 : cap0 ≤ 17592186043904) (s1 : Sl w a1 len1 z1) (c1 : len1 ≤ cap1) (r1 : cap1 ≤ 17592186043904) (hu : 4096 < usedN z0 ∨ 4096 < usedN z1) :
    Calls Try.prog 3 #[.slice a0 len0 cap0, .slice a1 len1 cap1] w fun e w' => e = .returned (.bool true) ∧ Below w.heap.size w w' := by
  have B0 : Below w.heap.size w w := Below.refl _ _
  go_enter Try.func3, Try.ntmps3
  go_wp2_with fail
  refine (nawake_any w).mono ?_
  rintro e x1 ⟨rfl, hb⟩
  replace s0 := s0.below hb (Nat.le_refl _)
  replace s1 := s1.below hb (Nat.le_refl _)
  replace B0 := step B0 hb
  clear hb
  go_wp2_with fail
  refine (long_yes a0 a1 len0 cap0 len1 cap1 z0 z1 x1 s0 s1 (by omega) (by omega) hu).mono ?_
  rintro e x2 ⟨rfl, hb⟩
  replace s0 := s0.below hb (Nat.le_refl _)
  replace s1 := s1.below hb (Nat.le_refl _)
  replace B0 := step B0 hb
  clear hb
  go_wp2_with fail
  go_ret
  exact ⟨rfl, B0⟩

set_option maxHeartbeats 4000000 in
theorem walk_short (a0 : Option Addr) (len0 cap0 : Nat) (z0 : List Int) (a1 : Option Addr) (len1 cap1 : Nat) (z1 : List Int) (w : World) (s0 : Sl w a0 len0 z0) (c0 : len0 ≤ cap0) (r0 : cap0 ≤ 17592186043904) (e0 : a0 = none → len0 = 0 ∧ cap0 = 0) (s1 : Sl w a1 len1 z1) (c1 : len1 ≤ cap1) (r1 : cap1 ≤ 17592186043904) (e1 : a1 = none → len1 = 0 ∧ cap1 = 0) (u0 : usedN z0 ≤ 4096) (u1 : usedN z1 ≤ 4096) :
    Calls Try.prog 3 #[.slice a0 len0 cap0, .slice a1 len1 cap1] w fun e w' => e = .returned (.bool true) ∧ Below w.heap.size w w' := by
  have B0 : Below w.heap.size w w := Below.refl _ _
  go_enter Try.func3, Try.ntmps3
  go_wp2_with fail
  refine (nawake_any w).mono ?_
  rintro e x1 ⟨rfl, hb⟩
  replace s0 := s0.below hb (Nat.le_refl _)
  replace s1 := s1.below hb (Nat.le_refl _)
  replace B0 := step B0 hb
  clear hb
  go_wp2_with fail
  refine (long_no a0 a1 len0 cap0 len1 cap1 z0 z1 x1 s0 s1 (by omega) (by omega) u0 u1).mono ?_
  rintro e x2 ⟨rfl, hb⟩
  replace s0 := s0.below hb (Nat.le_refl _)
  replace s1 := s1.below hb (Nat.le_refl _)
  replace B0 := step B0 hb
  clear hb
  go_wp2_with fail
  refine (oflaw_ok a0 len0 cap0 z0 x2 s0 e0 (by omega) c0 u0).mono ?_
  rintro e x3 ⟨ax, lx, kx, zx, rfl, hx, nx, hb⟩
  replace s0 := s0.below hb (Nat.le_refl _)
  replace s1 := s1.below hb (Nat.le_refl _)
  replace B0 := step B0 hb
  clear hb
  go_wp2_with fail
  refine ent1 x3 _ _ (Q := fun W => Calls Try.prog _ _ W _) ?_
  intro x4 hb hs_x4 Vx
  replace hx := Nt.after hb hx
  replace s0 := s0.below hb (Nat.le_refl _)
  replace s1 := s1.below hb (Nat.le_refl _)
  replace B0 := step B0 hb
  clear hb hs_x4
  refine (oflaw_ok a1 len1 cap1 z1 x4 s1 e1 (by omega) c1 u1).mono ?_
  rintro e x5 ⟨ay, ly, ky, zy, rfl, hy, ny, hb⟩
  replace Vx := Va.after hb Vx
  replace hx := Nt.after hb hx
  replace s0 := s0.below hb (Nat.le_refl _)
  replace s1 := s1.below hb (Nat.le_refl _)
  replace B0 := step B0 hb
  clear hb
  have c_Vx := Vx.cell
  have f_Vx := Vx.frozen 0
  have l_Vx := Vx.lt
  have m_Vx := Nat.le_of_lt l_Vx
  go_wp2_with fail
  refine ent1 x5 _ _ (Q := fun W => Calls Try.prog _ _ W _) ?_
  intro x6 hb hs_x6 Vy
  replace Vx := Va.after hb Vx
  replace hx := Nt.after hb hx
  replace hy := Nt.after hb hy
  replace s0 := s0.below hb (Nat.le_refl _)
  replace s1 := s1.below hb (Nat.le_refl _)
  replace B0 := step B0 hb
  clear hb hs_x6
  clear s0 s1 e0 e1
  by_cases h0 : num zy = 0
  ·
    refine (ndiv_nought ax ay lx kx ly ky zx zy x6 hx hy h0).mono ?_
    rintro e x7 ⟨rfl, hb⟩
    replace Vx := Va.after hb Vx
    replace Vy := Va.after hb Vy
    replace hx := Nt.after hb hx
    replace hy := Nt.after hb hy
    replace B0 := step B0 hb
    clear hb
    clear c_Vx f_Vx l_Vx m_Vx
    have c_Vx := Vx.cell
    have f_Vx := Vx.frozen 0
    have l_Vx := Vx.lt
    have m_Vx := Nat.le_of_lt l_Vx
    have c_Vy := Vy.cell
    have f_Vy := Vy.frozen 0
    have l_Vy := Vy.lt
    have m_Vy := Nat.le_of_lt l_Vy
    go_wp2_with fail
    refine ent2 x7 _ _ _ _ (Q := fun W => Calls Try.prog _ _ W _) ?_
    intro x8 hb hs_x8 Vq Vr
    replace Vx := Va.after hb Vx
    replace Vy := Va.after hb Vy
    replace hx := Nt.after hb hx
    replace hy := Nt.after hb hy
    replace B0 := step B0 hb
    clear hb hs_x8
    refine (isZero_any ay ly ky x8).mono ?_
    rintro e x9 ⟨rfl, hb⟩
    replace Vx := Va.after hb Vx
    replace Vy := Va.after hb Vy
    replace Vq := Va.after hb Vq
    replace Vr := Va.after hb Vr
    replace hx := Nt.after hb hx
    replace hy := Nt.after hb hy
    replace B0 := step B0 hb
    clear hb
    rw [hy.zero]
    have g0 : decide (num zy = 0) = true := by simpa using h0
    rw [g0]
    clear c_Vx f_Vx l_Vx m_Vx c_Vy f_Vy l_Vy m_Vy
    have c_Vx := Vx.cell
    have f_Vx := Vx.frozen 0
    have l_Vx := Vx.lt
    have m_Vx := Nat.le_of_lt l_Vx
    have c_Vy := Vy.cell
    have f_Vy := Vy.frozen 0
    have l_Vy := Vy.lt
    have m_Vy := Nat.le_of_lt l_Vy
    have c_Vq := Vq.cell
    have f_Vq := Vq.frozen 0
    have l_Vq := Vq.lt
    have m_Vq := Nat.le_of_lt l_Vq
    have c_Vr := Vr.cell
    have f_Vr := Vr.frozen 0
    have l_Vr := Vr.lt
    have m_Vr := Nat.le_of_lt l_Vr
    go_wp2_with fail
    refine (isZero_any none 0 0 x9).mono ?_
    rintro e x10 ⟨rfl, hb⟩
    replace Vx := Va.after hb Vx
    replace Vy := Va.after hb Vy
    replace Vq := Va.after hb Vq
    replace Vr := Va.after hb Vr
    replace hx := Nt.after hb hx
    replace hy := Nt.after hb hy
    replace B0 := step B0 hb
    clear hb
    clear c_Vx f_Vx l_Vx m_Vx c_Vy f_Vy l_Vy m_Vy c_Vq f_Vq l_Vq m_Vq c_Vr f_Vr l_Vr m_Vr
    have c_Vx := Vx.cell
    have f_Vx := Vx.frozen 0
    have l_Vx := Vx.lt
    have m_Vx := Nat.le_of_lt l_Vx
    have c_Vy := Vy.cell
    have f_Vy := Vy.frozen 0
    have l_Vy := Vy.lt
    have m_Vy := Nat.le_of_lt l_Vy
    have c_Vq := Vq.cell
    have f_Vq := Vq.frozen 0
    have l_Vq := Vq.lt
    have m_Vq := Nat.le_of_lt l_Vq
    have c_Vr := Vr.cell
    have f_Vr := Vr.frozen 0
    have l_Vr := Vr.lt
    have m_Vr := Nat.le_of_lt l_Vr
    go_wp2_with fail
    refine (isZero_any none 0 0 x10).mono ?_
    rintro e x11 ⟨rfl, hb⟩
    replace Vx := Va.after hb Vx
    replace Vy := Va.after hb Vy
    replace Vq := Va.after hb Vq
    replace Vr := Va.after hb Vr
    replace hx := Nt.after hb hx
    replace hy := Nt.after hb hy
    replace B0 := step B0 hb
    clear hb
    clear c_Vx f_Vx l_Vx m_Vx c_Vy f_Vy l_Vy m_Vy c_Vq f_Vq l_Vq m_Vq c_Vr f_Vr l_Vr m_Vr
    have c_Vx := Vx.cell
    have f_Vx := Vx.frozen 0
    have l_Vx := Vx.lt
    have m_Vx := Nat.le_of_lt l_Vx
    have c_Vy := Vy.cell
    have f_Vy := Vy.frozen 0
    have l_Vy := Vy.lt
    have m_Vy := Nat.le_of_lt l_Vy
    have c_Vq := Vq.cell
    have f_Vq := Vq.frozen 0
    have l_Vq := Vq.lt
    have m_Vq := Nat.le_of_lt l_Vq
    have c_Vr := Vr.cell
    have f_Vr := Vr.frozen 0
    have l_Vr := Vr.lt
    have m_Vr := Nat.le_of_lt l_Vr
    go_wp2_with fail
    go_ret
    exact ⟨rfl, B0⟩
  ·
    refine (ndiv_ok ax ay lx kx ly ky zx zy x6 hx hy h0).mono ?_
    rintro e x7 ⟨aq, lq, kq, ar, lr, kr, zq, zr, rfl, hq, hr, d1, d2, hb⟩
    replace Vx := Va.after hb Vx
    replace Vy := Va.after hb Vy
    replace hx := Nt.after hb hx
    replace hy := Nt.after hb hy
    replace B0 := step B0 hb
    clear hb
    clear c_Vx f_Vx l_Vx m_Vx
    have c_Vx := Vx.cell
    have f_Vx := Vx.frozen 0
    have l_Vx := Vx.lt
    have m_Vx := Nat.le_of_lt l_Vx
    have c_Vy := Vy.cell
    have f_Vy := Vy.frozen 0
    have l_Vy := Vy.lt
    have m_Vy := Nat.le_of_lt l_Vy
    go_wp2_with fail
    refine ent2 x7 _ _ _ _ (Q := fun W => Calls Try.prog _ _ W _) ?_
    intro x8 hb hs_x8 Vq Vr
    replace Vx := Va.after hb Vx
    replace Vy := Va.after hb Vy
    replace hx := Nt.after hb hx
    replace hy := Nt.after hb hy
    replace hq := Nt.after hb hq
    replace hr := Nt.after hb hr
    replace B0 := step B0 hb
    clear hb hs_x8
    refine (isZero_any ay ly ky x8).mono ?_
    rintro e x9 ⟨rfl, hb⟩
    replace Vx := Va.after hb Vx
    replace Vy := Va.after hb Vy
    replace Vq := Va.after hb Vq
    replace Vr := Va.after hb Vr
    replace hx := Nt.after hb hx
    replace hy := Nt.after hb hy
    replace hq := Nt.after hb hq
    replace hr := Nt.after hb hr
    replace B0 := step B0 hb
    clear hb
    rw [hy.zero]
    have g0 : decide (num zy = 0) = false := by simpa using h0
    rw [g0]
    clear c_Vx f_Vx l_Vx m_Vx c_Vy f_Vy l_Vy m_Vy
    have c_Vx := Vx.cell
    have f_Vx := Vx.frozen 0
    have l_Vx := Vx.lt
    have m_Vx := Nat.le_of_lt l_Vx
    have c_Vy := Vy.cell
    have f_Vy := Vy.frozen 0
    have l_Vy := Vy.lt
    have m_Vy := Nat.le_of_lt l_Vy
    have c_Vq := Vq.cell
    have f_Vq := Vq.frozen 0
    have l_Vq := Vq.lt
    have m_Vq := Nat.le_of_lt l_Vq
    have c_Vr := Vr.cell
    have f_Vr := Vr.frozen 0
    have l_Vr := Vr.lt
    have m_Vr := Nat.le_of_lt l_Vr
    go_wp2_with fail
    have q0 := hq.nonneg
    have p0 := hr.nonneg
    have y0 := hy.nonneg
    refine (nmul_ok aq ay lq kq ly ky zq zy x9 hq hy (Int.lt_of_le_of_lt (show num zq * num zy ≤ num zx by omega) (Nt.lt hx))).mono ?_
    rintro e x10 ⟨ap, lp, kp, zp, rfl, hp, np, hb⟩
    replace Vx := Va.after hb Vx
    replace Vy := Va.after hb Vy
    replace Vq := Va.after hb Vq
    replace Vr := Va.after hb Vr
    replace hx := Nt.after hb hx
    replace hy := Nt.after hb hy
    replace hq := Nt.after hb hq
    replace hr := Nt.after hb hr
    replace B0 := step B0 hb
    clear hb
    clear c_Vx f_Vx l_Vx m_Vx c_Vy f_Vy l_Vy m_Vy c_Vq f_Vq l_Vq m_Vq c_Vr f_Vr l_Vr m_Vr
    have c_Vx := Vx.cell
    have f_Vx := Vx.frozen 0
    have l_Vx := Vx.lt
    have m_Vx := Nat.le_of_lt l_Vx
    have c_Vy := Vy.cell
    have f_Vy := Vy.frozen 0
    have l_Vy := Vy.lt
    have m_Vy := Nat.le_of_lt l_Vy
    have c_Vq := Vq.cell
    have f_Vq := Vq.frozen 0
    have l_Vq := Vq.lt
    have m_Vq := Nat.le_of_lt l_Vq
    have c_Vr := Vr.cell
    have f_Vr := Vr.frozen 0
    have l_Vr := Vr.lt
    have m_Vr := Nat.le_of_lt l_Vr
    go_wp2_with fail
    refine ent1 x10 _ _ (Q := fun W => Calls Try.prog _ _ W _) ?_
    intro x11 hb hs_x11 Vp
    replace Vx := Va.after hb Vx
    replace Vy := Va.after hb Vy
    replace Vq := Va.after hb Vq
    replace Vr := Va.after hb Vr
    replace hx := Nt.after hb hx
    replace hy := Nt.after hb hy
    replace hq := Nt.after hb hq
    replace hr := Nt.after hb hr
    replace hp := Nt.after hb hp
    replace B0 := step B0 hb
    clear hb hs_x11
    refine (nadd_ok ap ar lp kp lr kr zp zr x11 hp hr (by rw [np, ← d1]; exact Nt.lt hx)).mono ?_
    rintro e x12 ⟨al, ll, kl, zl, rfl, hl, nl, hb⟩
    replace Vx := Va.after hb Vx
    replace Vy := Va.after hb Vy
    replace Vq := Va.after hb Vq
    replace Vr := Va.after hb Vr
    replace Vp := Va.after hb Vp
    replace hx := Nt.after hb hx
    replace hy := Nt.after hb hy
    replace hq := Nt.after hb hq
    replace hr := Nt.after hb hr
    replace hp := Nt.after hb hp
    replace B0 := step B0 hb
    clear hb
    clear c_Vx f_Vx l_Vx m_Vx c_Vy f_Vy l_Vy m_Vy c_Vq f_Vq l_Vq m_Vq c_Vr f_Vr l_Vr m_Vr
    have c_Vx := Vx.cell
    have f_Vx := Vx.frozen 0
    have l_Vx := Vx.lt
    have m_Vx := Nat.le_of_lt l_Vx
    have c_Vy := Vy.cell
    have f_Vy := Vy.frozen 0
    have l_Vy := Vy.lt
    have m_Vy := Nat.le_of_lt l_Vy
    have c_Vq := Vq.cell
    have f_Vq := Vq.frozen 0
    have l_Vq := Vq.lt
    have m_Vq := Nat.le_of_lt l_Vq
    have c_Vr := Vr.cell
    have f_Vr := Vr.frozen 0
    have l_Vr := Vr.lt
    have m_Vr := Nat.le_of_lt l_Vr
    have c_Vp := Vp.cell
    have f_Vp := Vp.frozen 0
    have l_Vp := Vp.lt
    have m_Vp := Nat.le_of_lt l_Vp
    go_wp2_with fail
    refine ent1 x12 _ _ (Q := fun W => Calls Try.prog _ _ W _) ?_
    intro x13 hb hs_x13 Vl
    replace Vx := Va.after hb Vx
    replace Vy := Va.after hb Vy
    replace Vq := Va.after hb Vq
    replace Vr := Va.after hb Vr
    replace Vp := Va.after hb Vp
    replace hx := Nt.after hb hx
    replace hy := Nt.after hb hy
    replace hq := Nt.after hb hq
    replace hr := Nt.after hb hr
    replace hp := Nt.after hb hp
    replace hl := Nt.after hb hl
    replace B0 := step B0 hb
    clear hb hs_x13
    refine (ncompare_any al ax ll kl lx kx zl zx x13 hl hx).mono ?_
    rintro e x14 ⟨rfl, hb⟩
    replace Vx := Va.after hb Vx
    replace Vy := Va.after hb Vy
    replace Vq := Va.after hb Vq
    replace Vr := Va.after hb Vr
    replace Vp := Va.after hb Vp
    replace Vl := Va.after hb Vl
    replace hx := Nt.after hb hx
    replace hy := Nt.after hb hy
    replace hq := Nt.after hb hq
    replace hr := Nt.after hb hr
    replace hp := Nt.after hb hp
    replace hl := Nt.after hb hl
    replace B0 := step B0 hb
    clear hb
    rw [cmp3_eq (show num zl = num zx by rw [nl, np, ← d1])]
    clear c_Vx f_Vx l_Vx m_Vx c_Vy f_Vy l_Vy m_Vy c_Vq f_Vq l_Vq m_Vq c_Vr f_Vr l_Vr m_Vr c_Vp f_Vp l_Vp m_Vp
    have c_Vx := Vx.cell
    have f_Vx := Vx.frozen 0
    have l_Vx := Vx.lt
    have m_Vx := Nat.le_of_lt l_Vx
    have c_Vy := Vy.cell
    have f_Vy := Vy.frozen 0
    have l_Vy := Vy.lt
    have m_Vy := Nat.le_of_lt l_Vy
    have c_Vq := Vq.cell
    have f_Vq := Vq.frozen 0
    have l_Vq := Vq.lt
    have m_Vq := Nat.le_of_lt l_Vq
    have c_Vr := Vr.cell
    have f_Vr := Vr.frozen 0
    have l_Vr := Vr.lt
    have m_Vr := Nat.le_of_lt l_Vr
    have c_Vp := Vp.cell
    have f_Vp := Vp.frozen 0
    have l_Vp := Vp.lt
    have m_Vp := Nat.le_of_lt l_Vp
    have c_Vl := Vl.cell
    have f_Vl := Vl.frozen 0
    have l_Vl := Vl.lt
    have m_Vl := Nat.le_of_lt l_Vl
    go_wp2_with fail
    refine (ncompare_any ar ay lr kr ly ky zr zy x14 hr hy).mono ?_
    rintro e x15 ⟨rfl, hb⟩
    replace Vx := Va.after hb Vx
    replace Vy := Va.after hb Vy
    replace Vq := Va.after hb Vq
    replace Vr := Va.after hb Vr
    replace Vp := Va.after hb Vp
    replace Vl := Va.after hb Vl
    replace hx := Nt.after hb hx
    replace hy := Nt.after hb hy
    replace hq := Nt.after hb hq
    replace hr := Nt.after hb hr
    replace hp := Nt.after hb hp
    replace hl := Nt.after hb hl
    replace B0 := step B0 hb
    clear hb
    rw [cmp3_lt d2]
    clear c_Vx f_Vx l_Vx m_Vx c_Vy f_Vy l_Vy m_Vy c_Vq f_Vq l_Vq m_Vq c_Vr f_Vr l_Vr m_Vr c_Vp f_Vp l_Vp m_Vp c_Vl f_Vl l_Vl m_Vl
    have c_Vx := Vx.cell
    have f_Vx := Vx.frozen 0
    have l_Vx := Vx.lt
    have m_Vx := Nat.le_of_lt l_Vx
    have c_Vy := Vy.cell
    have f_Vy := Vy.frozen 0
    have l_Vy := Vy.lt
    have m_Vy := Nat.le_of_lt l_Vy
    have c_Vq := Vq.cell
    have f_Vq := Vq.frozen 0
    have l_Vq := Vq.lt
    have m_Vq := Nat.le_of_lt l_Vq
    have c_Vr := Vr.cell
    have f_Vr := Vr.frozen 0
    have l_Vr := Vr.lt
    have m_Vr := Nat.le_of_lt l_Vr
    have c_Vp := Vp.cell
    have f_Vp := Vp.frozen 0
    have l_Vp := Vp.lt
    have m_Vp := Nat.le_of_lt l_Vp
    have c_Vl := Vl.cell
    have f_Vl := Vl.frozen 0
    have l_Vl := Vl.lt
    have m_Vl := Nat.le_of_lt l_Vl
    go_wp2_with fail
    go_ret
    exact ⟨rfl, B0⟩

theorem walk (a0 : Option Addr) (len0 cap0 : Nat) (z0 : List Int) (a1 : Option Addr) (len1 cap1 : Nat) (z1 : List Int) (w : World) (s0 : Sl w a0 len0 z0) (c0 : len0 ≤ cap0) (r0 : cap0 ≤ 17592186043904) (e0 : a0 = none → len0 = 0 ∧ cap0 = 0) (s1 : Sl w a1 len1 z1) (c1 : len1 ≤ cap1) (r1 : cap1 ≤ 17592186043904) (e1 : a1 = none → len1 = 0 ∧ cap1 = 0) :
    Calls Try.prog 3 #[.slice a0 len0 cap0, .slice a1 len1 cap1] w fun e w' => e = .returned (.bool true) ∧ Below w.heap.size w w' := by
  by_cases h : 4096 < usedN z0 ∨ 4096 < usedN z1
  · exact walk_long a0 len0 cap0 z0 a1 len1 cap1 z1 w s0 c0 r0 s1 c1 r1 h
  · exact walk_short a0 len0 cap0 z0 a1 len1 cap1 z1 w s0 c0 r0 e0 s1 c1 r1 e1 (by omega) (by omega)
end Go.Proofs.Ytahgegbajemagab.natDivides
