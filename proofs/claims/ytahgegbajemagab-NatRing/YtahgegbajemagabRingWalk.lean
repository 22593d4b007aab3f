/-
  The walk of NatRing: each call by its contract.
-/
import Derived.Test.YtahgegbajemagabFits
namespace Go.Proofs.Ytahgegbajemagab.natRing
open Go.RowKit Go.Shelf
set_option linter.unusedVariables false

set_option maxRecDepth 20000 in
set_option maxHeartbeats 4000000 in
theorem walk_a (a0 : Option Addr) (len0 cap0 : Nat) (z0 : List Int) (a1 : Option Addr) (len1 cap1 : Nat) (z1 : List Int) (a2 : Option Addr) (len2 cap2 : Nat) (z2 : List Int) (w : World) (s0 : Sl w a0 len0 z0) (c0 : len0 ≤ cap0) (r0 : cap0 ≤ 17592186043904) (s1 : Sl w a1 len1 z1) (c1 : len1 ≤ cap1) (r1 : cap1 ≤ 17592186043904) (s2 : Sl w a2 len2 z2) (c2 : len2 ≤ cap2) (r2 : cap2 ≤ 17592186043904) (hu : 4096 < usedN z0 ∨ 4096 < usedN z1) :
    Calls Try.prog 4 #[.slice a0 len0 cap0, .slice a1 len1 cap1, .slice a2 len2 cap2] w fun e w' => e = .returned (.bool true) ∧ Below w.heap.size w w' := by
  have B0 : Below w.heap.size w w := Below.refl _ _
  go_enter Try.func4, Try.ntmps4
  go_wp2_with fail
  refine (nawake_any w).mono ?_
  rintro e x1 ⟨rfl, hb⟩
  replace s0 := s0.below hb (Nat.le_refl _)
  replace s1 := s1.below hb (Nat.le_refl _)
  replace s2 := s2.below hb (Nat.le_refl _)
  replace B0 := step B0 hb
  clear hb
  go_wp2_with fail
  refine (long_yes a0 a1 len0 cap0 len1 cap1 z0 z1 x1 s0 s1 (by omega) (by omega) hu).mono ?_
  rintro e x2 ⟨rfl, hb⟩
  replace s0 := s0.below hb (Nat.le_refl _)
  replace s1 := s1.below hb (Nat.le_refl _)
  replace s2 := s2.below hb (Nat.le_refl _)
  replace B0 := step B0 hb
  clear hb
  go_wp2_with fail
  go_ret
  exact ⟨rfl, B0⟩

set_option maxRecDepth 20000 in
set_option maxHeartbeats 4000000 in
theorem walk_b (a0 : Option Addr) (len0 cap0 : Nat) (z0 : List Int) (a1 : Option Addr) (len1 cap1 : Nat) (z1 : List Int) (a2 : Option Addr) (len2 cap2 : Nat) (z2 : List Int) (w : World) (s0 : Sl w a0 len0 z0) (c0 : len0 ≤ cap0) (r0 : cap0 ≤ 17592186043904) (s1 : Sl w a1 len1 z1) (c1 : len1 ≤ cap1) (r1 : cap1 ≤ 17592186043904) (s2 : Sl w a2 len2 z2) (c2 : len2 ≤ cap2) (r2 : cap2 ≤ 17592186043904) (u0 : usedN z0 ≤ 4096) (u1 : usedN z1 ≤ 4096) (u2 : 4096 < usedN z2) :
    Calls Try.prog 4 #[.slice a0 len0 cap0, .slice a1 len1 cap1, .slice a2 len2 cap2] w fun e w' => e = .returned (.bool true) ∧ Below w.heap.size w w' := by
  have B0 : Below w.heap.size w w := Below.refl _ _
  go_enter Try.func4, Try.ntmps4
  go_wp2_with fail
  refine (nawake_any w).mono ?_
  rintro e x1 ⟨rfl, hb⟩
  replace s0 := s0.below hb (Nat.le_refl _)
  replace s1 := s1.below hb (Nat.le_refl _)
  replace s2 := s2.below hb (Nat.le_refl _)
  replace B0 := step B0 hb
  clear hb
  go_wp2_with fail
  refine (long_no a0 a1 len0 cap0 len1 cap1 z0 z1 x1 s0 s1 (by omega) (by omega) u0 u1).mono ?_
  rintro e x2 ⟨rfl, hb⟩
  replace s0 := s0.below hb (Nat.le_refl _)
  replace s1 := s1.below hb (Nat.le_refl _)
  replace s2 := s2.below hb (Nat.le_refl _)
  replace B0 := step B0 hb
  clear hb
  go_wp2_with fail
  refine (rlong_yes a2 len2 cap2 z2 x2 s2 (by omega) u2).mono ?_
  rintro e x3 ⟨rfl, hb⟩
  replace s0 := s0.below hb (Nat.le_refl _)
  replace s1 := s1.below hb (Nat.le_refl _)
  replace s2 := s2.below hb (Nat.le_refl _)
  replace B0 := step B0 hb
  clear hb
  go_wp2_with fail
  go_ret
  exact ⟨rfl, B0⟩

set_option maxRecDepth 20000 in
set_option maxHeartbeats 4000000 in
theorem walk_c (a0 : Option Addr) (len0 cap0 : Nat) (z0 : List Int) (a1 : Option Addr) (len1 cap1 : Nat) (z1 : List Int) (a2 : Option Addr) (len2 cap2 : Nat) (z2 : List Int) (w : World) (s0 : Sl w a0 len0 z0) (c0 : len0 ≤ cap0) (r0 : cap0 ≤ 17592186043904) (s1 : Sl w a1 len1 z1) (c1 : len1 ≤ cap1) (r1 : cap1 ≤ 17592186043904) (s2 : Sl w a2 len2 z2) (c2 : len2 ≤ cap2) (r2 : cap2 ≤ 17592186043904) (u0 : usedN z0 ≤ 4096) (u1 : usedN z1 ≤ 4096) (u2 : usedN z2 ≤ 4096) (hl : 1000 < len0 + len1 + len2) :
    Calls Try.prog 4 #[.slice a0 len0 cap0, .slice a1 len1 cap1, .slice a2 len2 cap2] w fun e w' => e = .returned (.bool true) ∧ Below w.heap.size w w' := by
  have B0 : Below w.heap.size w w := Below.refl _ _
  go_enter Try.func4, Try.ntmps4
  go_wp2_with fail
  refine (nawake_any w).mono ?_
  rintro e x1 ⟨rfl, hb⟩
  replace s0 := s0.below hb (Nat.le_refl _)
  replace s1 := s1.below hb (Nat.le_refl _)
  replace s2 := s2.below hb (Nat.le_refl _)
  replace B0 := step B0 hb
  clear hb
  go_wp2_with fail
  refine (long_no a0 a1 len0 cap0 len1 cap1 z0 z1 x1 s0 s1 (by omega) (by omega) u0 u1).mono ?_
  rintro e x2 ⟨rfl, hb⟩
  replace s0 := s0.below hb (Nat.le_refl _)
  replace s1 := s1.below hb (Nat.le_refl _)
  replace s2 := s2.below hb (Nat.le_refl _)
  replace B0 := step B0 hb
  clear hb
  go_wp2_with fail
  refine (rlong_no a2 len2 cap2 z2 x2 s2 (by omega) u2).mono ?_
  rintro e x3 ⟨rfl, hb⟩
  replace s0 := s0.below hb (Nat.le_refl _)
  replace s1 := s1.below hb (Nat.le_refl _)
  replace s2 := s2.below hb (Nat.le_refl _)
  replace B0 := step B0 hb
  clear hb
  go_wp2_with fail
  go_ret
  exact ⟨rfl, B0⟩

set_option maxRecDepth 20000 in
set_option maxHeartbeats 4000000 in
theorem walk_d (a0 : Option Addr) (len0 cap0 : Nat) (z0 : List Int) (a1 : Option Addr) (len1 cap1 : Nat) (z1 : List Int) (a2 : Option Addr) (len2 cap2 : Nat) (z2 : List Int) (w : World) (s0 : Sl w a0 len0 z0) (c0 : len0 ≤ cap0) (r0 : cap0 ≤ 17592186043904) (e0 : a0 = none → len0 = 0 ∧ cap0 = 0) (s1 : Sl w a1 len1 z1) (c1 : len1 ≤ cap1) (r1 : cap1 ≤ 17592186043904) (e1 : a1 = none → len1 = 0 ∧ cap1 = 0) (s2 : Sl w a2 len2 z2) (c2 : len2 ≤ cap2) (r2 : cap2 ≤ 17592186043904) (e2 : a2 = none → len2 = 0 ∧ cap2 = 0) (u0 : usedN z0 ≤ 4096) (u1 : usedN z1 ≤ 4096) (u2 : usedN z2 ≤ 4096) (hl : len0 + len1 + len2 ≤ 1000) :
    Calls Try.prog 4 #[.slice a0 len0 cap0, .slice a1 len1 cap1, .slice a2 len2 cap2] w fun e w' => e = .returned (.bool true) ∧ Below w.heap.size w w' := by
  have B0 : Below w.heap.size w w := Below.refl _ _
  go_enter Try.func4, Try.ntmps4
  go_wp2_with fail
  refine (nawake_any w).mono ?_
  rintro e x1 ⟨rfl, hb⟩
  replace s0 := s0.below hb (Nat.le_refl _)
  replace s1 := s1.below hb (Nat.le_refl _)
  replace s2 := s2.below hb (Nat.le_refl _)
  replace B0 := step B0 hb
  clear hb
  go_wp2_with fail
  refine (long_no a0 a1 len0 cap0 len1 cap1 z0 z1 x1 s0 s1 (by omega) (by omega) u0 u1).mono ?_
  rintro e x2 ⟨rfl, hb⟩
  replace s0 := s0.below hb (Nat.le_refl _)
  replace s1 := s1.below hb (Nat.le_refl _)
  replace s2 := s2.below hb (Nat.le_refl _)
  replace B0 := step B0 hb
  clear hb
  go_wp2_with fail
  refine (rlong_no a2 len2 cap2 z2 x2 s2 (by omega) u2).mono ?_
  rintro e x3 ⟨rfl, hb⟩
  replace s0 := s0.below hb (Nat.le_refl _)
  replace s1 := s1.below hb (Nat.le_refl _)
  replace s2 := s2.below hb (Nat.le_refl _)
  replace B0 := step B0 hb
  clear hb
  have fx := fits_len (n := 1000) s0 (by omega)
  have fy := fits_len (n := 1000) s1 (by omega)
  have fz := fits_len (n := 1000) s2 (by omega)
  obtain ⟨t, ht⟩ : ∃ t, t = 1000 := ⟨_, rfl⟩
  rw [← ht] at fx fy fz
  have nn0 := num_nonneg s0.2.1
  have nn1 := num_nonneg s1.2.1
  have nn2 := num_nonneg s2.2.1
  have T4 : t + 1 + t ≤ 4096 := by omega
  have T3 : t + t + 1 ≤ 4096 := by omega
  have T5 : t + t + t ≤ 4096 := by omega
  have T6 : t + (t + t) ≤ 4096 := by omega
  clear ht
  go_wp2_with fail
  refine (oflaw_ok a0 len0 cap0 z0 x3 s0 e0 (by omega) c0 u0).mono ?_
  rintro e x4 ⟨ax, lx, kx, zx, rfl, hx, nx, hb⟩
  replace s0 := s0.below hb (Nat.le_refl _)
  replace s1 := s1.below hb (Nat.le_refl _)
  replace s2 := s2.below hb (Nat.le_refl _)
  replace B0 := step B0 hb
  clear hb
  go_wp2_with fail
  refine ent1 x4 _ _ (Q := fun W => Calls Try.prog _ _ W _) ?_
  intro x5 hb hs_x5 Vx
  replace hx := Nt.after hb hx
  replace s0 := s0.below hb (Nat.le_refl _)
  replace s1 := s1.below hb (Nat.le_refl _)
  replace s2 := s2.below hb (Nat.le_refl _)
  replace B0 := step B0 hb
  clear hb hs_x5
  refine (oflaw_ok a1 len1 cap1 z1 x5 s1 e1 (by omega) c1 u1).mono ?_
  rintro e x6 ⟨ay, ly, ky, zy, rfl, hy, ny, hb⟩
  replace Vx := Va.after hb Vx
  replace hx := Nt.after hb hx
  replace s0 := s0.below hb (Nat.le_refl _)
  replace s1 := s1.below hb (Nat.le_refl _)
  replace s2 := s2.below hb (Nat.le_refl _)
  replace B0 := step B0 hb
  clear hb
  have c_Vx := Vx.cell
  have f_Vx := Vx.frozen 0
  have l_Vx := Vx.lt
  have m_Vx := Nat.le_of_lt l_Vx
  go_wp2_with fail
  refine ent1 x6 _ _ (Q := fun W => Calls Try.prog _ _ W _) ?_
  intro x7 hb hs_x7 Vy
  replace Vx := Va.after hb Vx
  replace hx := Nt.after hb hx
  replace hy := Nt.after hb hy
  replace s0 := s0.below hb (Nat.le_refl _)
  replace s1 := s1.below hb (Nat.le_refl _)
  replace s2 := s2.below hb (Nat.le_refl _)
  replace B0 := step B0 hb
  clear hb hs_x7
  refine (oflaw_ok a2 len2 cap2 z2 x7 s2 e2 (by omega) c2 u2).mono ?_
  rintro e x8 ⟨az, lz, kz, zz, rfl, hz, nz, hb⟩
  replace Vx := Va.after hb Vx
  replace Vy := Va.after hb Vy
  replace hx := Nt.after hb hx
  replace hy := Nt.after hb hy
  replace s0 := s0.below hb (Nat.le_refl _)
  replace s1 := s1.below hb (Nat.le_refl _)
  replace s2 := s2.below hb (Nat.le_refl _)
  replace B0 := step B0 hb
  clear hb
  clear c_Vx f_Vx l_Vx m_Vx
  have c_Vx := Vx.cell
  have f_Vx := Vx.frozen 0
  have l_Vx := Vx.lt
  have m_Vx := Nat.le_of_lt l_Vx
  have c_Vy := Vy.cell
  have f_Vy := Vy.frozen 0
  have l_Vy := Vy.lt
  have m_Vy := Nat.le_of_lt l_Vy
  go_wp2_with fail
  refine ent1 x8 _ _ (Q := fun W => Calls Try.prog _ _ W _) ?_
  intro x9 hb hs_x9 Vz
  replace Vx := Va.after hb Vx
  replace Vy := Va.after hb Vy
  replace hx := Nt.after hb hx
  replace hy := Nt.after hb hy
  replace hz := Nt.after hb hz
  replace s0 := s0.below hb (Nat.le_refl _)
  replace s1 := s1.below hb (Nat.le_refl _)
  replace s2 := s2.below hb (Nat.le_refl _)
  replace B0 := step B0 hb
  clear hb hs_x9
  clear s0 s1 s2 e0 e1 e2
  have sfit := fits_add fx fy
  refine (nadd_ok ax ay lx kx ly ky zx zy x9 hx hy (by rw [nx, ny]; exact fits_to sfit (by omega))).mono ?_
  rintro e x10 ⟨as1, ls, ks, zs, rfl, hs, ns, hb⟩
  replace Vx := Va.after hb Vx
  replace Vy := Va.after hb Vy
  replace Vz := Va.after hb Vz
  replace hx := Nt.after hb hx
  replace hy := Nt.after hb hy
  replace hz := Nt.after hb hz
  replace B0 := step B0 hb
  clear hb
  rw [nx, ny] at ns
  clear c_Vx f_Vx l_Vx m_Vx c_Vy f_Vy l_Vy m_Vy
  have c_Vx := Vx.cell
  have f_Vx := Vx.frozen 0
  have l_Vx := Vx.lt
  have m_Vx := Nat.le_of_lt l_Vx
  have c_Vy := Vy.cell
  have f_Vy := Vy.frozen 0
  have l_Vy := Vy.lt
  have m_Vy := Nat.le_of_lt l_Vy
  have c_Vz := Vz.cell
  have f_Vz := Vz.frozen 0
  have l_Vz := Vz.lt
  have m_Vz := Nat.le_of_lt l_Vz
  go_wp2_with fail
  refine ent1 x10 _ _ (Q := fun W => Calls Try.prog _ _ W _) ?_
  intro x11 hb hs_x11 Vs
  replace Vx := Va.after hb Vx
  replace Vy := Va.after hb Vy
  replace Vz := Va.after hb Vz
  replace hx := Nt.after hb hx
  replace hy := Nt.after hb hy
  replace hz := Nt.after hb hz
  replace hs := Nt.after hb hs
  replace B0 := step B0 hb
  clear hb hs_x11
  refine (nadd_ok ay ax ly ky lx kx zy zx x11 hy hx (by rw [nx, ny, Int.add_comm]; exact fits_to sfit (by omega))).mono ?_
  rintro e x12 ⟨at1, lt, kt, zt, rfl, ht, nt, hb⟩
  replace Vx := Va.after hb Vx
  replace Vy := Va.after hb Vy
  replace Vz := Va.after hb Vz
  replace Vs := Va.after hb Vs
  replace hx := Nt.after hb hx
  replace hy := Nt.after hb hy
  replace hz := Nt.after hb hz
  replace hs := Nt.after hb hs
  replace B0 := step B0 hb
  clear hb
  rw [nx, ny] at nt
  clear c_Vx f_Vx l_Vx m_Vx c_Vy f_Vy l_Vy m_Vy c_Vz f_Vz l_Vz m_Vz
  have c_Vx := Vx.cell
  have f_Vx := Vx.frozen 0
  have l_Vx := Vx.lt
  have m_Vx := Nat.le_of_lt l_Vx
  have c_Vy := Vy.cell
  have f_Vy := Vy.frozen 0
  have l_Vy := Vy.lt
  have m_Vy := Nat.le_of_lt l_Vy
  have c_Vz := Vz.cell
  have f_Vz := Vz.frozen 0
  have l_Vz := Vz.lt
  have m_Vz := Nat.le_of_lt l_Vz
  have c_Vs := Vs.cell
  have f_Vs := Vs.frozen 0
  have l_Vs := Vs.lt
  have m_Vs := Nat.le_of_lt l_Vs
  go_wp2_with fail
  refine ent1 x12 _ _ (Q := fun W => Calls Try.prog _ _ W _) ?_
  intro x13 hb hs_x13 Vt
  replace Vx := Va.after hb Vx
  replace Vy := Va.after hb Vy
  replace Vz := Va.after hb Vz
  replace Vs := Va.after hb Vs
  replace hx := Nt.after hb hx
  replace hy := Nt.after hb hy
  replace hz := Nt.after hb hz
  replace hs := Nt.after hb hs
  replace ht := Nt.after hb ht
  replace B0 := step B0 hb
  clear hb hs_x13
  refine (nsub_ok as1 ay ls ks ly ky zs zy x13 hs hy (by rw [ns, ny]; omega)).mono ?_
  rintro e x14 ⟨ab, lb, kb, zb, rfl, hb1, nb, hb⟩
  replace Vx := Va.after hb Vx
  replace Vy := Va.after hb Vy
  replace Vz := Va.after hb Vz
  replace Vs := Va.after hb Vs
  replace Vt := Va.after hb Vt
  replace hx := Nt.after hb hx
  replace hy := Nt.after hb hy
  replace hz := Nt.after hb hz
  replace hs := Nt.after hb hs
  replace ht := Nt.after hb ht
  replace B0 := step B0 hb
  clear hb
  rw [ns, ny] at nb
  clear c_Vx f_Vx l_Vx m_Vx c_Vy f_Vy l_Vy m_Vy c_Vz f_Vz l_Vz m_Vz c_Vs f_Vs l_Vs m_Vs
  have c_Vx := Vx.cell
  have f_Vx := Vx.frozen 0
  have l_Vx := Vx.lt
  have m_Vx := Nat.le_of_lt l_Vx
  have c_Vy := Vy.cell
  have f_Vy := Vy.frozen 0
  have l_Vy := Vy.lt
  have m_Vy := Nat.le_of_lt l_Vy
  have c_Vz := Vz.cell
  have f_Vz := Vz.frozen 0
  have l_Vz := Vz.lt
  have m_Vz := Nat.le_of_lt l_Vz
  have c_Vs := Vs.cell
  have f_Vs := Vs.frozen 0
  have l_Vs := Vs.lt
  have m_Vs := Nat.le_of_lt l_Vs
  have c_Vt := Vt.cell
  have f_Vt := Vt.frozen 0
  have l_Vt := Vt.lt
  have m_Vt := Nat.le_of_lt l_Vt
  go_wp2_with fail
  refine ent1 x14 _ _ (Q := fun W => Calls Try.prog _ _ W _) ?_
  intro x15 hb hs_x15 Vb
  replace Vx := Va.after hb Vx
  replace Vy := Va.after hb Vy
  replace Vz := Va.after hb Vz
  replace Vs := Va.after hb Vs
  replace Vt := Va.after hb Vt
  replace hx := Nt.after hb hx
  replace hy := Nt.after hb hy
  replace hz := Nt.after hb hz
  replace hs := Nt.after hb hs
  replace ht := Nt.after hb ht
  replace hb1 := Nt.after hb hb1
  replace B0 := step B0 hb
  clear hb hs_x15
  refine (ncompare_any as1 at1 ls ks lt kt zs zt x15 hs ht).mono ?_
  rintro e x16 ⟨rfl, hb⟩
  replace Vx := Va.after hb Vx
  replace Vy := Va.after hb Vy
  replace Vz := Va.after hb Vz
  replace Vs := Va.after hb Vs
  replace Vt := Va.after hb Vt
  replace Vb := Va.after hb Vb
  replace hx := Nt.after hb hx
  replace hy := Nt.after hb hy
  replace hz := Nt.after hb hz
  replace hs := Nt.after hb hs
  replace ht := Nt.after hb ht
  replace hb1 := Nt.after hb hb1
  replace B0 := step B0 hb
  clear hb
  rw [cmp3_eq (show num zs = num zt by rw [ns, nt, Int.add_comm])]
  clear c_Vx f_Vx l_Vx m_Vx c_Vy f_Vy l_Vy m_Vy c_Vz f_Vz l_Vz m_Vz c_Vs f_Vs l_Vs m_Vs c_Vt f_Vt l_Vt m_Vt
  have c_Vx := Vx.cell
  have f_Vx := Vx.frozen 0
  have l_Vx := Vx.lt
  have m_Vx := Nat.le_of_lt l_Vx
  have c_Vy := Vy.cell
  have f_Vy := Vy.frozen 0
  have l_Vy := Vy.lt
  have m_Vy := Nat.le_of_lt l_Vy
  have c_Vz := Vz.cell
  have f_Vz := Vz.frozen 0
  have l_Vz := Vz.lt
  have m_Vz := Nat.le_of_lt l_Vz
  have c_Vs := Vs.cell
  have f_Vs := Vs.frozen 0
  have l_Vs := Vs.lt
  have m_Vs := Nat.le_of_lt l_Vs
  have c_Vt := Vt.cell
  have f_Vt := Vt.frozen 0
  have l_Vt := Vt.lt
  have m_Vt := Nat.le_of_lt l_Vt
  have c_Vb := Vb.cell
  have f_Vb := Vb.frozen 0
  have l_Vb := Vb.lt
  have m_Vb := Nat.le_of_lt l_Vb
  go_wp2_with fail
  refine (ncompare_any ab ax lb kb lx kx zb zx x16 hb1 hx).mono ?_
  rintro e x17 ⟨rfl, hb⟩
  replace Vx := Va.after hb Vx
  replace Vy := Va.after hb Vy
  replace Vz := Va.after hb Vz
  replace Vs := Va.after hb Vs
  replace Vt := Va.after hb Vt
  replace Vb := Va.after hb Vb
  replace hx := Nt.after hb hx
  replace hy := Nt.after hb hy
  replace hz := Nt.after hb hz
  replace hs := Nt.after hb hs
  replace ht := Nt.after hb ht
  replace hb1 := Nt.after hb hb1
  replace B0 := step B0 hb
  clear hb
  rw [cmp3_eq (show num zb = num zx by rw [nb, nx]; omega)]
  clear c_Vx f_Vx l_Vx m_Vx c_Vy f_Vy l_Vy m_Vy c_Vz f_Vz l_Vz m_Vz c_Vs f_Vs l_Vs m_Vs c_Vt f_Vt l_Vt m_Vt c_Vb f_Vb l_Vb m_Vb
  have c_Vx := Vx.cell
  have f_Vx := Vx.frozen 0
  have l_Vx := Vx.lt
  have m_Vx := Nat.le_of_lt l_Vx
  have c_Vy := Vy.cell
  have f_Vy := Vy.frozen 0
  have l_Vy := Vy.lt
  have m_Vy := Nat.le_of_lt l_Vy
  have c_Vz := Vz.cell
  have f_Vz := Vz.frozen 0
  have l_Vz := Vz.lt
  have m_Vz := Nat.le_of_lt l_Vz
  have c_Vs := Vs.cell
  have f_Vs := Vs.frozen 0
  have l_Vs := Vs.lt
  have m_Vs := Nat.le_of_lt l_Vs
  have c_Vt := Vt.cell
  have f_Vt := Vt.frozen 0
  have l_Vt := Vt.lt
  have m_Vt := Nat.le_of_lt l_Vt
  have c_Vb := Vb.cell
  have f_Vb := Vb.frozen 0
  have l_Vb := Vb.lt
  have m_Vb := Nat.le_of_lt l_Vb
  go_wp2_with fail
  clear Vt Vb ht hb1
  have mfit := fits_mul (x := num z0 + num z1) (by omega) sfit fz
  have ufit := fits_mul nn0 fx fz
  have vfit := fits_mul nn2 fz fy
  have xyfit := fits_mul nn0 fx fy
  have yzfit := fits_mul nn1 fy fz
  have wfit := fits_add ufit vfit
  have xy0 := Int.mul_nonneg nn0 nn1
  have lfit := fits_mul xy0 xyfit fz
  have rfit := fits_mul nn0 fx yzfit
  refine (nmul_ok as1 az ls ks lz kz zs zz x17 hs hz (by rw [ns, nz]; exact fits_to mfit T4)).mono ?_
  rintro e x18 ⟨ap, lp, kp, zp, rfl, hp, np, hb⟩
  replace Vx := Va.after hb Vx
  replace Vy := Va.after hb Vy
  replace Vz := Va.after hb Vz
  replace Vs := Va.after hb Vs
  replace hx := Nt.after hb hx
  replace hy := Nt.after hb hy
  replace hz := Nt.after hb hz
  replace hs := Nt.after hb hs
  replace B0 := step B0 hb
  clear hb
  rw [ns, nz] at np
  clear c_Vx f_Vx l_Vx m_Vx c_Vy f_Vy l_Vy m_Vy c_Vz f_Vz l_Vz m_Vz c_Vs f_Vs l_Vs m_Vs
  have c_Vx := Vx.cell
  have f_Vx := Vx.frozen 0
  have l_Vx := Vx.lt
  have m_Vx := Nat.le_of_lt l_Vx
  have c_Vy := Vy.cell
  have f_Vy := Vy.frozen 0
  have l_Vy := Vy.lt
  have m_Vy := Nat.le_of_lt l_Vy
  have c_Vz := Vz.cell
  have f_Vz := Vz.frozen 0
  have l_Vz := Vz.lt
  have m_Vz := Nat.le_of_lt l_Vz
  have c_Vs := Vs.cell
  have f_Vs := Vs.frozen 0
  have l_Vs := Vs.lt
  have m_Vs := Nat.le_of_lt l_Vs
  go_wp2_with fail
  refine ent1 x18 _ _ (Q := fun W => Calls Try.prog _ _ W _) ?_
  intro x19 hb hs_x19 Vp
  replace Vx := Va.after hb Vx
  replace Vy := Va.after hb Vy
  replace Vz := Va.after hb Vz
  replace Vs := Va.after hb Vs
  replace hx := Nt.after hb hx
  replace hy := Nt.after hb hy
  replace hz := Nt.after hb hz
  replace hs := Nt.after hb hs
  replace hp := Nt.after hb hp
  replace B0 := step B0 hb
  clear hb hs_x19
  refine (nmul_ok ax az lx kx lz kz zx zz x19 hx hz (by rw [nx, nz]; exact fits_to ufit (by omega))).mono ?_
  rintro e x20 ⟨au, lu, ku, zu, rfl, hu, nu, hb⟩
  replace Vx := Va.after hb Vx
  replace Vy := Va.after hb Vy
  replace Vz := Va.after hb Vz
  replace Vs := Va.after hb Vs
  replace Vp := Va.after hb Vp
  replace hx := Nt.after hb hx
  replace hy := Nt.after hb hy
  replace hz := Nt.after hb hz
  replace hs := Nt.after hb hs
  replace hp := Nt.after hb hp
  replace B0 := step B0 hb
  clear hb
  rw [nx, nz] at nu
  clear c_Vx f_Vx l_Vx m_Vx c_Vy f_Vy l_Vy m_Vy c_Vz f_Vz l_Vz m_Vz c_Vs f_Vs l_Vs m_Vs
  have c_Vx := Vx.cell
  have f_Vx := Vx.frozen 0
  have l_Vx := Vx.lt
  have m_Vx := Nat.le_of_lt l_Vx
  have c_Vy := Vy.cell
  have f_Vy := Vy.frozen 0
  have l_Vy := Vy.lt
  have m_Vy := Nat.le_of_lt l_Vy
  have c_Vz := Vz.cell
  have f_Vz := Vz.frozen 0
  have l_Vz := Vz.lt
  have m_Vz := Nat.le_of_lt l_Vz
  have c_Vs := Vs.cell
  have f_Vs := Vs.frozen 0
  have l_Vs := Vs.lt
  have m_Vs := Nat.le_of_lt l_Vs
  have c_Vp := Vp.cell
  have f_Vp := Vp.frozen 0
  have l_Vp := Vp.lt
  have m_Vp := Nat.le_of_lt l_Vp
  go_wp2_with fail
  refine ent1 x20 _ _ (Q := fun W => Calls Try.prog _ _ W _) ?_
  intro x21 hb hs_x21 Vu
  replace Vx := Va.after hb Vx
  replace Vy := Va.after hb Vy
  replace Vz := Va.after hb Vz
  replace Vs := Va.after hb Vs
  replace Vp := Va.after hb Vp
  replace hx := Nt.after hb hx
  replace hy := Nt.after hb hy
  replace hz := Nt.after hb hz
  replace hs := Nt.after hb hs
  replace hp := Nt.after hb hp
  replace hu := Nt.after hb hu
  replace B0 := step B0 hb
  clear hb hs_x21
  refine (nmul_ok az ay lz kz ly ky zz zy x21 hz hy (by rw [nz, ny]; exact fits_to vfit (by omega))).mono ?_
  rintro e x22 ⟨av, lv, kv, zv, rfl, hv, nv, hb⟩
  replace Vx := Va.after hb Vx
  replace Vy := Va.after hb Vy
  replace Vz := Va.after hb Vz
  replace Vs := Va.after hb Vs
  replace Vp := Va.after hb Vp
  replace Vu := Va.after hb Vu
  replace hx := Nt.after hb hx
  replace hy := Nt.after hb hy
  replace hz := Nt.after hb hz
  replace hs := Nt.after hb hs
  replace hp := Nt.after hb hp
  replace hu := Nt.after hb hu
  replace B0 := step B0 hb
  clear hb
  rw [nz, ny] at nv
  clear c_Vx f_Vx l_Vx m_Vx c_Vy f_Vy l_Vy m_Vy c_Vz f_Vz l_Vz m_Vz c_Vs f_Vs l_Vs m_Vs c_Vp f_Vp l_Vp m_Vp
  have c_Vx := Vx.cell
  have f_Vx := Vx.frozen 0
  have l_Vx := Vx.lt
  have m_Vx := Nat.le_of_lt l_Vx
  have c_Vy := Vy.cell
  have f_Vy := Vy.frozen 0
  have l_Vy := Vy.lt
  have m_Vy := Nat.le_of_lt l_Vy
  have c_Vz := Vz.cell
  have f_Vz := Vz.frozen 0
  have l_Vz := Vz.lt
  have m_Vz := Nat.le_of_lt l_Vz
  have c_Vs := Vs.cell
  have f_Vs := Vs.frozen 0
  have l_Vs := Vs.lt
  have m_Vs := Nat.le_of_lt l_Vs
  have c_Vp := Vp.cell
  have f_Vp := Vp.frozen 0
  have l_Vp := Vp.lt
  have m_Vp := Nat.le_of_lt l_Vp
  have c_Vu := Vu.cell
  have f_Vu := Vu.frozen 0
  have l_Vu := Vu.lt
  have m_Vu := Nat.le_of_lt l_Vu
  go_wp2_with fail
  refine ent1 x22 _ _ (Q := fun W => Calls Try.prog _ _ W _) ?_
  intro x23 hb hs_x23 Vv
  replace Vx := Va.after hb Vx
  replace Vy := Va.after hb Vy
  replace Vz := Va.after hb Vz
  replace Vs := Va.after hb Vs
  replace Vp := Va.after hb Vp
  replace Vu := Va.after hb Vu
  replace hx := Nt.after hb hx
  replace hy := Nt.after hb hy
  replace hz := Nt.after hb hz
  replace hs := Nt.after hb hs
  replace hp := Nt.after hb hp
  replace hu := Nt.after hb hu
  replace hv := Nt.after hb hv
  replace B0 := step B0 hb
  clear hb hs_x23
  refine (nadd_ok au av lu ku lv kv zu zv x23 hu hv (by rw [nu, nv]; exact fits_to wfit T3)).mono ?_
  rintro e x24 ⟨aw, lw, kw, zw, rfl, hw, nw, hb⟩
  replace Vx := Va.after hb Vx
  replace Vy := Va.after hb Vy
  replace Vz := Va.after hb Vz
  replace Vs := Va.after hb Vs
  replace Vp := Va.after hb Vp
  replace Vu := Va.after hb Vu
  replace Vv := Va.after hb Vv
  replace hx := Nt.after hb hx
  replace hy := Nt.after hb hy
  replace hz := Nt.after hb hz
  replace hs := Nt.after hb hs
  replace hp := Nt.after hb hp
  replace hu := Nt.after hb hu
  replace hv := Nt.after hb hv
  replace B0 := step B0 hb
  clear hb
  rw [nu, nv] at nw
  clear c_Vx f_Vx l_Vx m_Vx c_Vy f_Vy l_Vy m_Vy c_Vz f_Vz l_Vz m_Vz c_Vs f_Vs l_Vs m_Vs c_Vp f_Vp l_Vp m_Vp c_Vu f_Vu l_Vu m_Vu
  have c_Vx := Vx.cell
  have f_Vx := Vx.frozen 0
  have l_Vx := Vx.lt
  have m_Vx := Nat.le_of_lt l_Vx
  have c_Vy := Vy.cell
  have f_Vy := Vy.frozen 0
  have l_Vy := Vy.lt
  have m_Vy := Nat.le_of_lt l_Vy
  have c_Vz := Vz.cell
  have f_Vz := Vz.frozen 0
  have l_Vz := Vz.lt
  have m_Vz := Nat.le_of_lt l_Vz
  have c_Vs := Vs.cell
  have f_Vs := Vs.frozen 0
  have l_Vs := Vs.lt
  have m_Vs := Nat.le_of_lt l_Vs
  have c_Vp := Vp.cell
  have f_Vp := Vp.frozen 0
  have l_Vp := Vp.lt
  have m_Vp := Nat.le_of_lt l_Vp
  have c_Vu := Vu.cell
  have f_Vu := Vu.frozen 0
  have l_Vu := Vu.lt
  have m_Vu := Nat.le_of_lt l_Vu
  have c_Vv := Vv.cell
  have f_Vv := Vv.frozen 0
  have l_Vv := Vv.lt
  have m_Vv := Nat.le_of_lt l_Vv
  go_wp2_with fail
  refine ent1 x24 _ _ (Q := fun W => Calls Try.prog _ _ W _) ?_
  intro x25 hb hs_x25 Vw
  replace Vx := Va.after hb Vx
  replace Vy := Va.after hb Vy
  replace Vz := Va.after hb Vz
  replace Vs := Va.after hb Vs
  replace Vp := Va.after hb Vp
  replace Vu := Va.after hb Vu
  replace Vv := Va.after hb Vv
  replace hx := Nt.after hb hx
  replace hy := Nt.after hb hy
  replace hz := Nt.after hb hz
  replace hs := Nt.after hb hs
  replace hp := Nt.after hb hp
  replace hu := Nt.after hb hu
  replace hv := Nt.after hb hv
  replace hw := Nt.after hb hw
  replace B0 := step B0 hb
  clear hb hs_x25
  refine (ncompare_any ap aw lp kp lw kw zp zw x25 hp hw).mono ?_
  rintro e x26 ⟨rfl, hb⟩
  replace Vx := Va.after hb Vx
  replace Vy := Va.after hb Vy
  replace Vz := Va.after hb Vz
  replace Vs := Va.after hb Vs
  replace Vp := Va.after hb Vp
  replace Vu := Va.after hb Vu
  replace Vv := Va.after hb Vv
  replace Vw := Va.after hb Vw
  replace hx := Nt.after hb hx
  replace hy := Nt.after hb hy
  replace hz := Nt.after hb hz
  replace hs := Nt.after hb hs
  replace hp := Nt.after hb hp
  replace hu := Nt.after hb hu
  replace hv := Nt.after hb hv
  replace hw := Nt.after hb hw
  replace B0 := step B0 hb
  clear hb
  rw [cmp3_eq (show num zp = num zw by rw [np, nw]; grind)]
  clear c_Vx f_Vx l_Vx m_Vx c_Vy f_Vy l_Vy m_Vy c_Vz f_Vz l_Vz m_Vz c_Vs f_Vs l_Vs m_Vs c_Vp f_Vp l_Vp m_Vp c_Vu f_Vu l_Vu m_Vu c_Vv f_Vv l_Vv m_Vv
  have c_Vx := Vx.cell
  have f_Vx := Vx.frozen 0
  have l_Vx := Vx.lt
  have m_Vx := Nat.le_of_lt l_Vx
  have c_Vy := Vy.cell
  have f_Vy := Vy.frozen 0
  have l_Vy := Vy.lt
  have m_Vy := Nat.le_of_lt l_Vy
  have c_Vz := Vz.cell
  have f_Vz := Vz.frozen 0
  have l_Vz := Vz.lt
  have m_Vz := Nat.le_of_lt l_Vz
  have c_Vs := Vs.cell
  have f_Vs := Vs.frozen 0
  have l_Vs := Vs.lt
  have m_Vs := Nat.le_of_lt l_Vs
  have c_Vp := Vp.cell
  have f_Vp := Vp.frozen 0
  have l_Vp := Vp.lt
  have m_Vp := Nat.le_of_lt l_Vp
  have c_Vu := Vu.cell
  have f_Vu := Vu.frozen 0
  have l_Vu := Vu.lt
  have m_Vu := Nat.le_of_lt l_Vu
  have c_Vv := Vv.cell
  have f_Vv := Vv.frozen 0
  have l_Vv := Vv.lt
  have m_Vv := Nat.le_of_lt l_Vv
  have c_Vw := Vw.cell
  have f_Vw := Vw.frozen 0
  have l_Vw := Vw.lt
  have m_Vw := Nat.le_of_lt l_Vw
  go_wp2_with fail
  refine (nmul_ok ax ay lx kx ly ky zx zy x26 hx hy (by rw [nx, ny]; exact fits_to xyfit (by omega))).mono ?_
  rintro e x27 ⟨aa, l1, k1, y1, rfl, h1, n1, hb⟩
  replace Vx := Va.after hb Vx
  replace Vy := Va.after hb Vy
  replace Vz := Va.after hb Vz
  replace Vs := Va.after hb Vs
  replace Vp := Va.after hb Vp
  replace Vu := Va.after hb Vu
  replace Vv := Va.after hb Vv
  replace Vw := Va.after hb Vw
  replace hx := Nt.after hb hx
  replace hy := Nt.after hb hy
  replace hz := Nt.after hb hz
  replace hs := Nt.after hb hs
  replace hp := Nt.after hb hp
  replace hu := Nt.after hb hu
  replace hv := Nt.after hb hv
  replace hw := Nt.after hb hw
  replace B0 := step B0 hb
  clear hb
  rw [nx, ny] at n1
  clear c_Vx f_Vx l_Vx m_Vx c_Vy f_Vy l_Vy m_Vy c_Vz f_Vz l_Vz m_Vz c_Vs f_Vs l_Vs m_Vs c_Vp f_Vp l_Vp m_Vp c_Vu f_Vu l_Vu m_Vu c_Vv f_Vv l_Vv m_Vv c_Vw f_Vw l_Vw m_Vw
  have c_Vx := Vx.cell
  have f_Vx := Vx.frozen 0
  have l_Vx := Vx.lt
  have m_Vx := Nat.le_of_lt l_Vx
  have c_Vy := Vy.cell
  have f_Vy := Vy.frozen 0
  have l_Vy := Vy.lt
  have m_Vy := Nat.le_of_lt l_Vy
  have c_Vz := Vz.cell
  have f_Vz := Vz.frozen 0
  have l_Vz := Vz.lt
  have m_Vz := Nat.le_of_lt l_Vz
  have c_Vs := Vs.cell
  have f_Vs := Vs.frozen 0
  have l_Vs := Vs.lt
  have m_Vs := Nat.le_of_lt l_Vs
  have c_Vp := Vp.cell
  have f_Vp := Vp.frozen 0
  have l_Vp := Vp.lt
  have m_Vp := Nat.le_of_lt l_Vp
  have c_Vu := Vu.cell
  have f_Vu := Vu.frozen 0
  have l_Vu := Vu.lt
  have m_Vu := Nat.le_of_lt l_Vu
  have c_Vv := Vv.cell
  have f_Vv := Vv.frozen 0
  have l_Vv := Vv.lt
  have m_Vv := Nat.le_of_lt l_Vv
  have c_Vw := Vw.cell
  have f_Vw := Vw.frozen 0
  have l_Vw := Vw.lt
  have m_Vw := Nat.le_of_lt l_Vw
  go_wp2_with fail
  refine ent1 x27 _ _ (Q := fun W => Calls Try.prog _ _ W _) ?_
  intro x28 hb hs_x28 V1
  replace Vx := Va.after hb Vx
  replace Vy := Va.after hb Vy
  replace Vz := Va.after hb Vz
  replace Vs := Va.after hb Vs
  replace Vp := Va.after hb Vp
  replace Vu := Va.after hb Vu
  replace Vv := Va.after hb Vv
  replace Vw := Va.after hb Vw
  replace hx := Nt.after hb hx
  replace hy := Nt.after hb hy
  replace hz := Nt.after hb hz
  replace hs := Nt.after hb hs
  replace hp := Nt.after hb hp
  replace hu := Nt.after hb hu
  replace hv := Nt.after hb hv
  replace hw := Nt.after hb hw
  replace h1 := Nt.after hb h1
  replace B0 := step B0 hb
  clear hb hs_x28
  refine (nmul_ok ay az ly ky lz kz zy zz x28 hy hz (by rw [ny, nz]; exact fits_to yzfit (by omega))).mono ?_
  rintro e x29 ⟨ac, l2, k2, y2, rfl, h2, n2, hb⟩
  replace Vx := Va.after hb Vx
  replace Vy := Va.after hb Vy
  replace Vz := Va.after hb Vz
  replace Vs := Va.after hb Vs
  replace Vp := Va.after hb Vp
  replace Vu := Va.after hb Vu
  replace Vv := Va.after hb Vv
  replace Vw := Va.after hb Vw
  replace V1 := Va.after hb V1
  replace hx := Nt.after hb hx
  replace hy := Nt.after hb hy
  replace hz := Nt.after hb hz
  replace hs := Nt.after hb hs
  replace hp := Nt.after hb hp
  replace hu := Nt.after hb hu
  replace hv := Nt.after hb hv
  replace hw := Nt.after hb hw
  replace h1 := Nt.after hb h1
  replace B0 := step B0 hb
  clear hb
  rw [ny, nz] at n2
  clear c_Vx f_Vx l_Vx m_Vx c_Vy f_Vy l_Vy m_Vy c_Vz f_Vz l_Vz m_Vz c_Vs f_Vs l_Vs m_Vs c_Vp f_Vp l_Vp m_Vp c_Vu f_Vu l_Vu m_Vu c_Vv f_Vv l_Vv m_Vv c_Vw f_Vw l_Vw m_Vw
  have c_Vx := Vx.cell
  have f_Vx := Vx.frozen 0
  have l_Vx := Vx.lt
  have m_Vx := Nat.le_of_lt l_Vx
  have c_Vy := Vy.cell
  have f_Vy := Vy.frozen 0
  have l_Vy := Vy.lt
  have m_Vy := Nat.le_of_lt l_Vy
  have c_Vz := Vz.cell
  have f_Vz := Vz.frozen 0
  have l_Vz := Vz.lt
  have m_Vz := Nat.le_of_lt l_Vz
  have c_Vs := Vs.cell
  have f_Vs := Vs.frozen 0
  have l_Vs := Vs.lt
  have m_Vs := Nat.le_of_lt l_Vs
  have c_Vp := Vp.cell
  have f_Vp := Vp.frozen 0
  have l_Vp := Vp.lt
  have m_Vp := Nat.le_of_lt l_Vp
  have c_Vu := Vu.cell
  have f_Vu := Vu.frozen 0
  have l_Vu := Vu.lt
  have m_Vu := Nat.le_of_lt l_Vu
  have c_Vv := Vv.cell
  have f_Vv := Vv.frozen 0
  have l_Vv := Vv.lt
  have m_Vv := Nat.le_of_lt l_Vv
  have c_Vw := Vw.cell
  have f_Vw := Vw.frozen 0
  have l_Vw := Vw.lt
  have m_Vw := Nat.le_of_lt l_Vw
  have c_V1 := V1.cell
  have f_V1 := V1.frozen 0
  have l_V1 := V1.lt
  have m_V1 := Nat.le_of_lt l_V1
  go_wp2_with fail
  refine ent1 x29 _ _ (Q := fun W => Calls Try.prog _ _ W _) ?_
  intro x30 hb hs_x30 V2
  replace Vx := Va.after hb Vx
  replace Vy := Va.after hb Vy
  replace Vz := Va.after hb Vz
  replace Vs := Va.after hb Vs
  replace Vp := Va.after hb Vp
  replace Vu := Va.after hb Vu
  replace Vv := Va.after hb Vv
  replace Vw := Va.after hb Vw
  replace V1 := Va.after hb V1
  replace hx := Nt.after hb hx
  replace hy := Nt.after hb hy
  replace hz := Nt.after hb hz
  replace hs := Nt.after hb hs
  replace hp := Nt.after hb hp
  replace hu := Nt.after hb hu
  replace hv := Nt.after hb hv
  replace hw := Nt.after hb hw
  replace h1 := Nt.after hb h1
  replace h2 := Nt.after hb h2
  replace B0 := step B0 hb
  clear hb hs_x30
  refine (nmul_ok aa az l1 k1 lz kz y1 zz x30 h1 hz (by rw [n1, nz]; exact fits_to lfit T5)).mono ?_
  rintro e x31 ⟨ad, l3, k3, y3, rfl, h3, n3, hb⟩
  replace Vx := Va.after hb Vx
  replace Vy := Va.after hb Vy
  replace Vz := Va.after hb Vz
  replace Vs := Va.after hb Vs
  replace Vp := Va.after hb Vp
  replace Vu := Va.after hb Vu
  replace Vv := Va.after hb Vv
  replace Vw := Va.after hb Vw
  replace V1 := Va.after hb V1
  replace V2 := Va.after hb V2
  replace hx := Nt.after hb hx
  replace hy := Nt.after hb hy
  replace hz := Nt.after hb hz
  replace hs := Nt.after hb hs
  replace hp := Nt.after hb hp
  replace hu := Nt.after hb hu
  replace hv := Nt.after hb hv
  replace hw := Nt.after hb hw
  replace h1 := Nt.after hb h1
  replace h2 := Nt.after hb h2
  replace B0 := step B0 hb
  clear hb
  rw [n1, nz] at n3
  clear c_Vx f_Vx l_Vx m_Vx c_Vy f_Vy l_Vy m_Vy c_Vz f_Vz l_Vz m_Vz c_Vs f_Vs l_Vs m_Vs c_Vp f_Vp l_Vp m_Vp c_Vu f_Vu l_Vu m_Vu c_Vv f_Vv l_Vv m_Vv c_Vw f_Vw l_Vw m_Vw c_V1 f_V1 l_V1 m_V1
  have c_Vx := Vx.cell
  have f_Vx := Vx.frozen 0
  have l_Vx := Vx.lt
  have m_Vx := Nat.le_of_lt l_Vx
  have c_Vy := Vy.cell
  have f_Vy := Vy.frozen 0
  have l_Vy := Vy.lt
  have m_Vy := Nat.le_of_lt l_Vy
  have c_Vz := Vz.cell
  have f_Vz := Vz.frozen 0
  have l_Vz := Vz.lt
  have m_Vz := Nat.le_of_lt l_Vz
  have c_Vs := Vs.cell
  have f_Vs := Vs.frozen 0
  have l_Vs := Vs.lt
  have m_Vs := Nat.le_of_lt l_Vs
  have c_Vp := Vp.cell
  have f_Vp := Vp.frozen 0
  have l_Vp := Vp.lt
  have m_Vp := Nat.le_of_lt l_Vp
  have c_Vu := Vu.cell
  have f_Vu := Vu.frozen 0
  have l_Vu := Vu.lt
  have m_Vu := Nat.le_of_lt l_Vu
  have c_Vv := Vv.cell
  have f_Vv := Vv.frozen 0
  have l_Vv := Vv.lt
  have m_Vv := Nat.le_of_lt l_Vv
  have c_Vw := Vw.cell
  have f_Vw := Vw.frozen 0
  have l_Vw := Vw.lt
  have m_Vw := Nat.le_of_lt l_Vw
  have c_V1 := V1.cell
  have f_V1 := V1.frozen 0
  have l_V1 := V1.lt
  have m_V1 := Nat.le_of_lt l_V1
  have c_V2 := V2.cell
  have f_V2 := V2.frozen 0
  have l_V2 := V2.lt
  have m_V2 := Nat.le_of_lt l_V2
  go_wp2_with fail
  refine ent1 x31 _ _ (Q := fun W => Calls Try.prog _ _ W _) ?_
  intro x32 hb hs_x32 V3
  replace Vx := Va.after hb Vx
  replace Vy := Va.after hb Vy
  replace Vz := Va.after hb Vz
  replace Vs := Va.after hb Vs
  replace Vp := Va.after hb Vp
  replace Vu := Va.after hb Vu
  replace Vv := Va.after hb Vv
  replace Vw := Va.after hb Vw
  replace V1 := Va.after hb V1
  replace V2 := Va.after hb V2
  replace hx := Nt.after hb hx
  replace hy := Nt.after hb hy
  replace hz := Nt.after hb hz
  replace hs := Nt.after hb hs
  replace hp := Nt.after hb hp
  replace hu := Nt.after hb hu
  replace hv := Nt.after hb hv
  replace hw := Nt.after hb hw
  replace h1 := Nt.after hb h1
  replace h2 := Nt.after hb h2
  replace h3 := Nt.after hb h3
  replace B0 := step B0 hb
  clear hb hs_x32
  refine (nmul_ok ax ac lx kx l2 k2 zx y2 x32 hx h2 (by rw [nx, n2]; exact fits_to rfit T6)).mono ?_
  rintro e x33 ⟨ae, l4, k4, y4, rfl, h4, n4, hb⟩
  replace Vx := Va.after hb Vx
  replace Vy := Va.after hb Vy
  replace Vz := Va.after hb Vz
  replace Vs := Va.after hb Vs
  replace Vp := Va.after hb Vp
  replace Vu := Va.after hb Vu
  replace Vv := Va.after hb Vv
  replace Vw := Va.after hb Vw
  replace V1 := Va.after hb V1
  replace V2 := Va.after hb V2
  replace V3 := Va.after hb V3
  replace hx := Nt.after hb hx
  replace hy := Nt.after hb hy
  replace hz := Nt.after hb hz
  replace hs := Nt.after hb hs
  replace hp := Nt.after hb hp
  replace hu := Nt.after hb hu
  replace hv := Nt.after hb hv
  replace hw := Nt.after hb hw
  replace h1 := Nt.after hb h1
  replace h2 := Nt.after hb h2
  replace h3 := Nt.after hb h3
  replace B0 := step B0 hb
  clear hb
  rw [nx, n2] at n4
  clear c_Vx f_Vx l_Vx m_Vx c_Vy f_Vy l_Vy m_Vy c_Vz f_Vz l_Vz m_Vz c_Vs f_Vs l_Vs m_Vs c_Vp f_Vp l_Vp m_Vp c_Vu f_Vu l_Vu m_Vu c_Vv f_Vv l_Vv m_Vv c_Vw f_Vw l_Vw m_Vw c_V1 f_V1 l_V1 m_V1 c_V2 f_V2 l_V2 m_V2
  have c_Vx := Vx.cell
  have f_Vx := Vx.frozen 0
  have l_Vx := Vx.lt
  have m_Vx := Nat.le_of_lt l_Vx
  have c_Vy := Vy.cell
  have f_Vy := Vy.frozen 0
  have l_Vy := Vy.lt
  have m_Vy := Nat.le_of_lt l_Vy
  have c_Vz := Vz.cell
  have f_Vz := Vz.frozen 0
  have l_Vz := Vz.lt
  have m_Vz := Nat.le_of_lt l_Vz
  have c_Vs := Vs.cell
  have f_Vs := Vs.frozen 0
  have l_Vs := Vs.lt
  have m_Vs := Nat.le_of_lt l_Vs
  have c_Vp := Vp.cell
  have f_Vp := Vp.frozen 0
  have l_Vp := Vp.lt
  have m_Vp := Nat.le_of_lt l_Vp
  have c_Vu := Vu.cell
  have f_Vu := Vu.frozen 0
  have l_Vu := Vu.lt
  have m_Vu := Nat.le_of_lt l_Vu
  have c_Vv := Vv.cell
  have f_Vv := Vv.frozen 0
  have l_Vv := Vv.lt
  have m_Vv := Nat.le_of_lt l_Vv
  have c_Vw := Vw.cell
  have f_Vw := Vw.frozen 0
  have l_Vw := Vw.lt
  have m_Vw := Nat.le_of_lt l_Vw
  have c_V1 := V1.cell
  have f_V1 := V1.frozen 0
  have l_V1 := V1.lt
  have m_V1 := Nat.le_of_lt l_V1
  have c_V2 := V2.cell
  have f_V2 := V2.frozen 0
  have l_V2 := V2.lt
  have m_V2 := Nat.le_of_lt l_V2
  have c_V3 := V3.cell
  have f_V3 := V3.frozen 0
  have l_V3 := V3.lt
  have m_V3 := Nat.le_of_lt l_V3
  go_wp2_with fail
  refine ent1 x33 _ _ (Q := fun W => Calls Try.prog _ _ W _) ?_
  intro x34 hb hs_x34 V4
  replace Vx := Va.after hb Vx
  replace Vy := Va.after hb Vy
  replace Vz := Va.after hb Vz
  replace Vs := Va.after hb Vs
  replace Vp := Va.after hb Vp
  replace Vu := Va.after hb Vu
  replace Vv := Va.after hb Vv
  replace Vw := Va.after hb Vw
  replace V1 := Va.after hb V1
  replace V2 := Va.after hb V2
  replace V3 := Va.after hb V3
  replace hx := Nt.after hb hx
  replace hy := Nt.after hb hy
  replace hz := Nt.after hb hz
  replace hs := Nt.after hb hs
  replace hp := Nt.after hb hp
  replace hu := Nt.after hb hu
  replace hv := Nt.after hb hv
  replace hw := Nt.after hb hw
  replace h1 := Nt.after hb h1
  replace h2 := Nt.after hb h2
  replace h3 := Nt.after hb h3
  replace h4 := Nt.after hb h4
  replace B0 := step B0 hb
  clear hb hs_x34
  refine (ncompare_any ad ae l3 k3 l4 k4 y3 y4 x34 h3 h4).mono ?_
  rintro e x35 ⟨rfl, hb⟩
  replace Vx := Va.after hb Vx
  replace Vy := Va.after hb Vy
  replace Vz := Va.after hb Vz
  replace Vs := Va.after hb Vs
  replace Vp := Va.after hb Vp
  replace Vu := Va.after hb Vu
  replace Vv := Va.after hb Vv
  replace Vw := Va.after hb Vw
  replace V1 := Va.after hb V1
  replace V2 := Va.after hb V2
  replace V3 := Va.after hb V3
  replace V4 := Va.after hb V4
  replace hx := Nt.after hb hx
  replace hy := Nt.after hb hy
  replace hz := Nt.after hb hz
  replace hs := Nt.after hb hs
  replace hp := Nt.after hb hp
  replace hu := Nt.after hb hu
  replace hv := Nt.after hb hv
  replace hw := Nt.after hb hw
  replace h1 := Nt.after hb h1
  replace h2 := Nt.after hb h2
  replace h3 := Nt.after hb h3
  replace h4 := Nt.after hb h4
  replace B0 := step B0 hb
  clear hb
  rw [cmp3_eq (show num y3 = num y4 by rw [n3, n4, Int.mul_assoc])]
  clear c_Vx f_Vx l_Vx m_Vx c_Vy f_Vy l_Vy m_Vy c_Vz f_Vz l_Vz m_Vz c_Vs f_Vs l_Vs m_Vs c_Vp f_Vp l_Vp m_Vp c_Vu f_Vu l_Vu m_Vu c_Vv f_Vv l_Vv m_Vv c_Vw f_Vw l_Vw m_Vw c_V1 f_V1 l_V1 m_V1 c_V2 f_V2 l_V2 m_V2 c_V3 f_V3 l_V3 m_V3
  have c_Vx := Vx.cell
  have f_Vx := Vx.frozen 0
  have l_Vx := Vx.lt
  have m_Vx := Nat.le_of_lt l_Vx
  have c_Vy := Vy.cell
  have f_Vy := Vy.frozen 0
  have l_Vy := Vy.lt
  have m_Vy := Nat.le_of_lt l_Vy
  have c_Vz := Vz.cell
  have f_Vz := Vz.frozen 0
  have l_Vz := Vz.lt
  have m_Vz := Nat.le_of_lt l_Vz
  have c_Vs := Vs.cell
  have f_Vs := Vs.frozen 0
  have l_Vs := Vs.lt
  have m_Vs := Nat.le_of_lt l_Vs
  have c_Vp := Vp.cell
  have f_Vp := Vp.frozen 0
  have l_Vp := Vp.lt
  have m_Vp := Nat.le_of_lt l_Vp
  have c_Vu := Vu.cell
  have f_Vu := Vu.frozen 0
  have l_Vu := Vu.lt
  have m_Vu := Nat.le_of_lt l_Vu
  have c_Vv := Vv.cell
  have f_Vv := Vv.frozen 0
  have l_Vv := Vv.lt
  have m_Vv := Nat.le_of_lt l_Vv
  have c_Vw := Vw.cell
  have f_Vw := Vw.frozen 0
  have l_Vw := Vw.lt
  have m_Vw := Nat.le_of_lt l_Vw
  have c_V1 := V1.cell
  have f_V1 := V1.frozen 0
  have l_V1 := V1.lt
  have m_V1 := Nat.le_of_lt l_V1
  have c_V2 := V2.cell
  have f_V2 := V2.frozen 0
  have l_V2 := V2.lt
  have m_V2 := Nat.le_of_lt l_V2
  have c_V3 := V3.cell
  have f_V3 := V3.frozen 0
  have l_V3 := V3.lt
  have m_V3 := Nat.le_of_lt l_V3
  have c_V4 := V4.cell
  have f_V4 := V4.frozen 0
  have l_V4 := V4.lt
  have m_V4 := Nat.le_of_lt l_V4
  go_wp2_with fail
  go_ret
  exact ⟨rfl, B0⟩

theorem walk (a0 : Option Addr) (len0 cap0 : Nat) (z0 : List Int) (a1 : Option Addr) (len1 cap1 : Nat) (z1 : List Int) (a2 : Option Addr) (len2 cap2 : Nat) (z2 : List Int) (w : World) (s0 : Sl w a0 len0 z0) (c0 : len0 ≤ cap0) (r0 : cap0 ≤ 17592186043904) (e0 : a0 = none → len0 = 0 ∧ cap0 = 0) (s1 : Sl w a1 len1 z1) (c1 : len1 ≤ cap1) (r1 : cap1 ≤ 17592186043904) (e1 : a1 = none → len1 = 0 ∧ cap1 = 0) (s2 : Sl w a2 len2 z2) (c2 : len2 ≤ cap2) (r2 : cap2 ≤ 17592186043904) (e2 : a2 = none → len2 = 0 ∧ cap2 = 0) :
    Calls Try.prog 4 #[.slice a0 len0 cap0, .slice a1 len1 cap1, .slice a2 len2 cap2] w fun e w' => e = .returned (.bool true) ∧ Below w.heap.size w w' := by
  by_cases h1 : 4096 < usedN z0 ∨ 4096 < usedN z1
  · exact walk_a a0 len0 cap0 z0 a1 len1 cap1 z1 a2 len2 cap2 z2 w s0 c0 r0 s1 c1 r1 s2 c2 r2 h1
  · by_cases h2 : 4096 < usedN z2
    · exact walk_b a0 len0 cap0 z0 a1 len1 cap1 z1 a2 len2 cap2 z2 w s0 c0 r0 s1 c1 r1 s2 c2 r2 (by omega) (by omega) h2
    · by_cases h3 : 1000 < len0 + len1 + len2
      · exact walk_c a0 len0 cap0 z0 a1 len1 cap1 z1 a2 len2 cap2 z2 w s0 c0 r0 s1 c1 r1 s2 c2 r2 (by omega) (by omega) (by omega) h3
      · exact walk_d a0 len0 cap0 z0 a1 len1 cap1 z1 a2 len2 cap2 z2 w s0 c0 r0 e0 s1 c1 r1 e1 s2 c2 r2 e2 (by omega) (by omega) (by omega) (by omega)
end Go.Proofs.Ytahgegbajemagab.natRing
