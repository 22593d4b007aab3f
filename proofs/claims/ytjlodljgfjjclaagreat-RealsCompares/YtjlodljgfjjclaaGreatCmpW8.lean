/-
  The walk of RealsCompares: each call by its contract.
-/
import Derived.Test.YtjlodljgfjjclaaGreatRg4
import Derived.Test.YtjlodljgfjjclaaGreatBtB
namespace Go.Proofs.YtjlodljgfjjclaaGreat
open Go.RowKit Go.Shelf
set_option linter.unusedVariables false

theorem rr_of3 {w : World} {s : Bool} {a : Option Addr} {l c : Nat} {zs : List Int} {b : Option Addr} {m d : Nat} {ys : List Int} {v : Rat} (h : Ri w a l c zs b m d ys) (hN : Norm s zs ys) (hv : iv s zs = v.num) (hd : num ys = v.den) (hs : s = true → num zs ≠ 0) : Rr w s a l c zs b m d ys v :=
  ⟨h.1, h.2.1, hN.1.trans h.1.1, hN.2.1.trans h.2.1.1, h.2.2, hv, hd, hs⟩

set_option maxHeartbeats 8000000 in
set_option maxRecDepth 8000 in
theorem compares_walk (a : Int) (s0 : Bool) (a0 : Option Addr) (l0 c0 : Nat) (z0 : List Int) (b0 : Option Addr) (m0 d0 : Nat) (y0 : List Int) (w : World) (ha : Word a) (h0 : Ri w a0 l0 c0 z0 b0 m0 d0 y0) (n0 : a0 = none → l0 = 0 ∧ c0 = 0) (o0 : b0 = none → m0 = 0 ∧ d0 = 0) :
    Calls Tryz.prog 5 #[.int .u64 a, .agg #[.bool s0, .slice a0 l0 c0, .slice b0 m0 d0]] w fun e w' => e = .returned (.bool true) ∧ Below w.heap.size w w' := by
  clear n0 o0
  obtain ⟨x, rfl⟩ := Int.eq_ofNat_of_zero_le ha.1
  have hx : x < 18446744073709551616 := by have := ha.2; omega
  have HX : Hid (x < 18446744073709551616) := hx
  clear ha
  have ff := ffrom x
  have B0 : Below w.heap.size w w := Below.refl _ _
  go_enter Tryz.func5, Tryz.ntmps5
  go_wp2_with fail
  refine ent1 w _ _ (Q := fun W => Calls Tryz.prog _ _ W _) ?_
  intro x1 hb hs_x1 V3
  replace h0 := Ri.after hb h0
  replace B0 := step B0 hb
  clear hb hs_x1
  refine (awake8 x1).mono ?_
  rintro e x2 ⟨rfl, hb⟩
  replace V3 := Va.after hb V3
  replace h0 := Ri.after hb h0
  replace B0 := step B0 hb
  clear hb
  have c_V3 := V3.d0
  have f0_V3 := V3.frozen 0
  have d_V3 := V3.d1
  have f1_V3 := V3.frozen 1
  have e_V3 := V3.d2
  have f2_V3 := V3.frozen 2
  have l_V3 := V3.lt
  have m_V3 := Nat.le_of_lt l_V3
  go_wp2_with fail
  refine (check5 s0 a0 l0 c0 z0 b0 m0 d0 y0 x2 h0).mono ?_
  rintro e x3 ⟨er, rfl, HC, hb⟩
  replace V3 := Va.after hb V3
  replace h0 := Ri.after hb h0
  replace B0 := step B0 hb
  clear hb
  rcases HC.out with ⟨rfl, -⟩ | ⟨rfl, -⟩ | ⟨rfl, hl, hm, hN⟩
  ·
    clear HC
    clear c_V3 f0_V3 d_V3 f1_V3 e_V3 f2_V3 l_V3 m_V3
    go_wp2_with fail
    go_ret
    exact ⟨rfl, B0⟩
  ·
    clear HC
    clear c_V3 f0_V3 d_V3 f1_V3 e_V3 f2_V3 l_V3 m_V3
    go_wp2_with fail
    go_ret
    exact ⟨rfl, B0⟩
  ·
    clear HC
    have HL : Hid (Norm s0 z0 y0 ∧ l0 ≤ 1024 ∧ m0 ≤ 1024) := ⟨hN, hl, hm⟩
    obtain ⟨v, hv, hd, hs⟩ := norm_rat h0.1.2.1 h0.2.1.2.1 hN
    have HZ : Hid (∀ n, n = 4000 → Sz n v) := fun n e => by subst e; exact (sz_of h0.1 h0.2.1 hl hm hv hd).mono (by omega)
    have hq := rr_of3 h0 hN hv hd hs
    clear hv hd hs hl hm hN
    clear c_V3 f0_V3 d_V3 f1_V3 e_V3 f2_V3 l_V3 m_V3
    have c_V3 := V3.d0
    have f0_V3 := V3.frozen 0
    have d_V3 := V3.d1
    have f1_V3 := V3.frozen 1
    have e_V3 := V3.d2
    have f2_V3 := V3.frozen 2
    have l_V3 := V3.lt
    have m_V3 := Nat.le_of_lt l_V3
    go_wp2_with fail
    refine (oflaw8 s0 a0 l0 c0 z0 b0 m0 d0 y0 v x3 hq HL).mono ?_
    rintro e x4 ⟨sr, ar, lr, cr, zr, br, mr, dr, yr, rfl, hr, hb⟩
    replace V3 := Va.after hb V3
    replace h0 := Ri.after hb h0
    replace hq := Rr.after hb hq
    replace B0 := step B0 hb
    clear hb
    by_cases hn : 9218868437227405312 < x % 9223372036854775808
    ·
      have HN : Hid (9218868437227405312 < x % 9223372036854775808) := hn
      clear hn hx
      clear c_V3 f0_V3 d_V3 f1_V3 e_V3 f2_V3 l_V3 m_V3
      have c_V3 := V3.d0
      have f0_V3 := V3.frozen 0
      have d_V3 := V3.d1
      have f1_V3 := V3.frozen 1
      have e_V3 := V3.d2
      have f2_V3 := V3.frozen 2
      have l_V3 := V3.lt
      have m_V3 := Nat.le_of_lt l_V3
      go_wp2_with fail
      refine (compare8_nan x HX.out HN.out sr ar lr cr br mr dr x4).mono ?_
      rintro e x5 ⟨rfl, hb⟩
      replace V3 := Va.after hb V3
      replace h0 := Ri.after hb h0
      replace hq := Rr.after hb hq
      replace hr := Rt.after hb hr
      replace B0 := step B0 hb
      clear hb
      clear c_V3 f0_V3 d_V3 f1_V3 e_V3 f2_V3 l_V3 m_V3
      have c_V3 := V3.d0
      have f0_V3 := V3.frozen 0
      have d_V3 := V3.d1
      have f1_V3 := V3.frozen 1
      have e_V3 := V3.d2
      have f2_V3 := V3.frozen 2
      have l_V3 := V3.lt
      have m_V3 := Nat.le_of_lt l_V3
      go_wp2_with fail
      refine (rcomp8_nan x HX.out HN.out s0 a0 l0 c0 b0 m0 d0 x5).mono ?_
      rintro e x6 ⟨rfl, hb⟩
      replace V3 := Va.after hb V3
      replace h0 := Ri.after hb h0
      replace hq := Rr.after hb hq
      replace hr := Rt.after hb hr
      replace B0 := step B0 hb
      clear hb
      clear c_V3 f0_V3 d_V3 f1_V3 e_V3 f2_V3 l_V3 m_V3
      go_wp2_with fail
      go_ret
      exact ⟨rfl, B0⟩
    ·
      have HF : Hid (Fr x) := ⟨by omega, hx⟩
      obtain ⟨cc, hcc⟩ : ∃ cc, cw x v = cc := ⟨_, rfl⟩
      have HC : Hid (cw x v = cc) := hcc
      clear hn hx hcc
      clear c_V3 f0_V3 d_V3 f1_V3 e_V3 f2_V3 l_V3 m_V3
      have c_V3 := V3.d0
      have f0_V3 := V3.frozen 0
      have d_V3 := V3.d1
      have f1_V3 := V3.frozen 1
      have e_V3 := V3.d2
      have f2_V3 := V3.frozen 2
      have l_V3 := V3.lt
      have m_V3 := Nat.le_of_lt l_V3
      go_wp2_with fail
      refine (compare8 x HF.out sr ar lr cr zr br mr dr yr v x4 hr).mono ?_
      rintro e x5 ⟨rfl, hb⟩
      replace V3 := Va.after hb V3
      replace h0 := Ri.after hb h0
      replace hq := Rr.after hb hq
      replace hr := Rt.after hb hr
      replace B0 := step B0 hb
      clear hb
      rw [HC.out]
      clear c_V3 f0_V3 d_V3 f1_V3 e_V3 f2_V3 l_V3 m_V3
      have c_V3 := V3.d0
      have f0_V3 := V3.frozen 0
      have d_V3 := V3.d1
      have f1_V3 := V3.frozen 1
      have e_V3 := V3.d2
      have f2_V3 := V3.frozen 2
      have l_V3 := V3.lt
      have m_V3 := Nat.le_of_lt l_V3
      go_wp2_with fail
      refine (rcomp8 x HF.out s0 a0 l0 c0 z0 b0 m0 d0 y0 v x5 hq (HZ.out 4000 rfl)).mono ?_
      rintro e x6 ⟨rfl, hb⟩
      replace V3 := Va.after hb V3
      replace h0 := Ri.after hb h0
      replace hq := Rr.after hb hq
      replace hr := Rt.after hb hr
      replace B0 := step B0 hb
      clear hb
      rw [HC.out]
      clear c_V3 f0_V3 d_V3 f1_V3 e_V3 f2_V3 l_V3 m_V3
      go_wp2_with fail
      go_ret
      exact ⟨by first | rfl | simp, B0⟩
end Go.Proofs.YtjlodljgfjjclaaGreat
