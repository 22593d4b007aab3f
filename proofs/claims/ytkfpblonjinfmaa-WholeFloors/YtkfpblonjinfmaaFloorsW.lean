/-
  The walk of WholeFloors: each call by its contract.
-/
import Derived.Test.YtkfpblonjinfmaaWh5
namespace Go.Proofs.Ytkfpblonjinfmaa
open Go.RowKit Go.Shelf
set_option linter.unusedVariables false

def Fl (x y q r : Int) : Prop := x = q * y + r ∧ ((0 ≤ r ∧ r < y) ∨ (y < r ∧ r ≤ 0))
theorem Fl.lt {x y q r : Int} (h : Fl x y q r) : r.natAbs < y.natAbs := by have := h.2; omega
theorem Fl.sign {x y q r : Int} (h : Fl x y q r) (h0 : r ≠ 0) : Int.sign r = Int.sign y := by
  rcases h.2 with ⟨h1, h2⟩ | ⟨h1, h2⟩
  · rw [Int.sign_eq_one_of_pos (by omega), Int.sign_eq_one_of_pos (by omega)]
  · rw [Int.sign_eq_neg_one_of_neg (by omega), Int.sign_eq_neg_one_of_neg (by omega)]
theorem Fl.long {P x y q r : Int} (h : Fl x y q r) (hx : (x.natAbs : Int) < P) (hy : (y.natAbs : Int) < P) (hq : (q.natAbs : Int) < P) (hl : P ≤ ((q * y).natAbs : Int)) :
    r ≠ 0 ∧ ((q + 1).natAbs : Int) < P ∧ (((q + 1) * y).natAbs : Int) < P ∧ ((r - y).natAbs : Int) < P ∧ (q + 1) * y + (r - y) = x := by
  obtain ⟨e, h⟩ := h
  have e2 : (q + 1) * y = q * y + y := by rw [Int.add_mul, Int.one_mul]
  have h0 : q < 0 := by
    rcases Int.lt_or_le q 0 with h' | h'
    · exact h'
    · exfalso
      rcases h with ⟨h1, h2⟩ | ⟨h1, h2⟩
      · have := Int.mul_nonneg h' (show 0 ≤ y by omega); omega
      · have := Int.mul_nonneg h' (show 0 ≤ -y by omega); rw [Int.mul_neg] at this; omega
  have e3 : (-(q + 1)) * y = - ((q + 1) * y) := Int.neg_mul _ _
  rcases h with ⟨h1, h2⟩ | ⟨h1, h2⟩
  · have := Int.mul_nonneg (show 0 ≤ -(q + 1) by omega) (show 0 ≤ y by omega)
    refine ⟨?_, ?_, ?_, ?_, ?_⟩ <;> omega
  · have := Int.mul_nonneg (show 0 ≤ -(q + 1) by omega) (show 0 ≤ -y by omega)
    rw [Int.mul_neg] at this
    refine ⟨?_, ?_, ?_, ?_, ?_⟩ <;> omega
theorem sign_ne {y : Int} (h : y ≠ 0) : (Int.sign y == 0) = false := by
  rcases Int.lt_or_le y 0 with h' | h'
  · rw [Int.sign_eq_neg_one_of_neg h']; rfl
  · rw [Int.sign_eq_one_of_pos (by omega)]; rfl

set_option maxHeartbeats 16000000 in
set_option maxRecDepth 20000 in
theorem floors_walk (s0 : Bool) (a0 : Option Addr) (len0 cap0 : Nat) (z0 : List Int) (s1 : Bool) (a1 : Option Addr) (len1 cap1 : Nat) (z1 : List Int) (w : World) (h0 : Sl w a0 len0 z0) (c0 : len0 ≤ cap0) (e0 : a0 = none → len0 = 0 ∧ cap0 = 0) (h1 : Sl w a1 len1 z1) (c1 : len1 ≤ cap1) (e1 : a1 = none → len1 = 0 ∧ cap1 = 0) :
    Calls Try.prog 6 #[.agg #[.bool s0, .slice a0 len0 cap0], .agg #[.bool s1, .slice a1 len1 cap1]] w fun e w' => e = .returned (.bool true) ∧ Below w.heap.size w w' := by
  have B0 : Below w.heap.size w w := Below.refl _ _
  go_enter Try.func6, Try.ntmps6
  go_wp2_with fail
  refine ent2 w _ _ _ _ (Q := fun W => Calls Try.prog _ _ W _) ?_
  intro x1 hb hs_x1 V0 V1
  replace h0 := h0.below hb (Nat.le_refl _)
  replace h1 := h1.below hb (Nat.le_refl _)
  replace B0 := step B0 hb
  clear hb hs_x1
  refine (oflaw4 s0 a0 len0 cap0 z0 x1 h0 e0 c0).mono ?_
  rintro e x2 ⟨sx, ax, lx, kx, zx, ax2, kx2, rfl, hx, hrx, ex, hb⟩
  replace V0 := Va.after hb V0
  replace V1 := Va.after hb V1
  replace h0 := h0.below hb (Nat.le_refl _)
  replace h1 := h1.below hb (Nat.le_refl _)
  replace B0 := step B0 hb
  clear hb
  clear hrx ex
  have c_V0 := V0.c0
  have d_V0 := V0.c1
  have f_V0 := V0.frozen 0
  have g_V0 := V0.frozen 1
  have l_V0 := V0.lt
  have m_V0 := Nat.le_of_lt l_V0
  have c_V1 := V1.c0
  have d_V1 := V1.c1
  have f_V1 := V1.frozen 0
  have g_V1 := V1.frozen 1
  have l_V1 := V1.lt
  have m_V1 := Nat.le_of_lt l_V1
  go_wp2_with fail
  refine ent2 x2 _ _ _ _ (Q := fun W => Calls Try.prog _ _ W _) ?_
  intro x3 hb hs_x3 Vx Vx2
  replace V0 := Va.after hb V0
  replace V1 := Va.after hb V1
  replace hx := It.after hb hx
  replace h0 := h0.below hb (Nat.le_refl _)
  replace h1 := h1.below hb (Nat.le_refl _)
  replace B0 := step B0 hb
  clear hb hs_x3
  refine (oflaw4 s1 a1 len1 cap1 z1 x3 h1 e1 c1).mono ?_
  rintro e x4 ⟨sy, ay, ly, ky, zy, ay2, ky2, rfl, hy, hry, ey, hb⟩
  replace V0 := Va.after hb V0
  replace V1 := Va.after hb V1
  replace Vx := Va.after hb Vx
  replace Vx2 := Va.after hb Vx2
  replace hx := It.after hb hx
  replace h0 := h0.below hb (Nat.le_refl _)
  replace h1 := h1.below hb (Nat.le_refl _)
  replace B0 := step B0 hb
  clear hb
  clear hry ey
  clear c_V0 d_V0 f_V0 g_V0 l_V0 m_V0 c_V1 d_V1 f_V1 g_V1 l_V1 m_V1
  have c_V0 := V0.c0
  have d_V0 := V0.c1
  have f_V0 := V0.frozen 0
  have g_V0 := V0.frozen 1
  have l_V0 := V0.lt
  have m_V0 := Nat.le_of_lt l_V0
  have c_V1 := V1.c0
  have d_V1 := V1.c1
  have f_V1 := V1.frozen 0
  have g_V1 := V1.frozen 1
  have l_V1 := V1.lt
  have m_V1 := Nat.le_of_lt l_V1
  have c_Vx := Vx.c0
  have d_Vx := Vx.c1
  have f_Vx := Vx.frozen 0
  have g_Vx := Vx.frozen 1
  have l_Vx := Vx.lt
  have m_Vx := Nat.le_of_lt l_Vx
  have c_Vx2 := Vx2.c0
  have d_Vx2 := Vx2.c1
  have f_Vx2 := Vx2.frozen 0
  have g_Vx2 := Vx2.frozen 1
  have l_Vx2 := Vx2.lt
  have m_Vx2 := Nat.le_of_lt l_Vx2
  go_wp2_with fail
  refine ent2 x4 _ _ _ _ (Q := fun W => Calls Try.prog _ _ W _) ?_
  intro x5 hb hs_x5 Vy Vy2
  replace V0 := Va.after hb V0
  replace V1 := Va.after hb V1
  replace Vx := Va.after hb Vx
  replace Vx2 := Va.after hb Vx2
  replace hx := It.after hb hx
  replace hy := It.after hb hy
  replace h0 := h0.below hb (Nat.le_refl _)
  replace h1 := h1.below hb (Nat.le_refl _)
  replace B0 := step B0 hb
  clear hb hs_x5
  clear c_V0 d_V0 f_V0 g_V0 l_V0 m_V0 c_V1 d_V1 f_V1 g_V1 l_V1 m_V1 c_Vx d_Vx f_Vx g_Vx l_Vx m_Vx c_Vx2 d_Vx2 f_Vx2 g_Vx2 l_Vx2 m_Vx2
  clear V0 V1 Vx2 Vy2 h0 h1
  clear e0 e1 c0 c1
  by_cases y0 : iv sy zy = 0
  ·
    refine (wdiv_nought sx sy ax ay lx kx ly ky zx zy x5 hx hy y0).mono ?_
    rintro e x6 ⟨rfl, hb⟩
    replace Vx := Va.after hb Vx
    replace Vy := Va.after hb Vy
    replace hx := It.after hb hx
    replace hy := It.after hb hy
    replace B0 := step B0 hb
    clear hb
    have c_Vx := Vx.c0
    have d_Vx := Vx.c1
    have f_Vx := Vx.frozen 0
    have g_Vx := Vx.frozen 1
    have l_Vx := Vx.lt
    have m_Vx := Nat.le_of_lt l_Vx
    have c_Vy := Vy.c0
    have d_Vy := Vy.c1
    have f_Vy := Vy.frozen 0
    have g_Vy := Vy.frozen 1
    have l_Vy := Vy.lt
    have m_Vy := Nat.le_of_lt l_Vy
    go_wp2_with fail
    refine ent2 x6 _ _ _ _ (Q := fun W => Calls Try.prog _ _ W _) ?_
    intro x7 hb hs_x7 Vq Vr
    replace Vx := Va.after hb Vx
    replace Vy := Va.after hb Vy
    replace hx := It.after hb hx
    replace hy := It.after hb hy
    replace B0 := step B0 hb
    clear hb hs_x7
    refine (wsign_any sy ay ly ky zy x7 hy).mono ?_
    rintro e x8 ⟨rfl, hb⟩
    replace Vx := Va.after hb Vx
    replace Vy := Va.after hb Vy
    replace Vq := Va.after hb Vq
    replace Vr := Va.after hb Vr
    replace hx := It.after hb hx
    replace hy := It.after hb hy
    replace B0 := step B0 hb
    clear hb
    rw [y0, Int.sign_zero]
    clear c_Vx d_Vx f_Vx g_Vx l_Vx m_Vx c_Vy d_Vy f_Vy g_Vy l_Vy m_Vy
    have c_Vx := Vx.c0
    have d_Vx := Vx.c1
    have f_Vx := Vx.frozen 0
    have g_Vx := Vx.frozen 1
    have l_Vx := Vx.lt
    have m_Vx := Nat.le_of_lt l_Vx
    have c_Vy := Vy.c0
    have d_Vy := Vy.c1
    have f_Vy := Vy.frozen 0
    have g_Vy := Vy.frozen 1
    have l_Vy := Vy.lt
    have m_Vy := Nat.le_of_lt l_Vy
    have c_Vq := Vq.c0
    have d_Vq := Vq.c1
    have f_Vq := Vq.frozen 0
    have g_Vq := Vq.frozen 1
    have l_Vq := Vq.lt
    have m_Vq := Nat.le_of_lt l_Vq
    have c_Vr := Vr.c0
    have d_Vr := Vr.c1
    have f_Vr := Vr.frozen 0
    have g_Vr := Vr.frozen 1
    have l_Vr := Vr.lt
    have m_Vr := Nat.le_of_lt l_Vr
    go_wp2_with fail
    go_ret
    exact ⟨rfl, B0⟩
  ·
    refine (wdiv_ok sx sy ax ay lx kx ly ky zx zy x5 hx hy y0).mono ?_
    rintro e x6 ⟨sq, aq, lq, kq, zq, sr, ar, lr, kr, zr, rfl, hq, hr, d1, d2, hb⟩
    replace Vx := Va.after hb Vx
    replace Vy := Va.after hb Vy
    replace hx := It.after hb hx
    replace hy := It.after hb hy
    replace B0 := step B0 hb
    clear hb
    have HD : Hid (Fl (iv sx zx) (iv sy zy) (iv sq zq) (iv sr zr)) := ⟨d1, d2⟩
    clear d1 d2
    have HB : Hid (∀ P, pw 4096 = P → ((iv sx zx).natAbs : Int) < P ∧ ((iv sy zy).natAbs : Int) < P ∧ ((iv sq zq).natAbs : Int) < P) := fun P e => by rw [← e]; exact ⟨hx.lt, hy.lt, hq.lt⟩
    have HC : Hid (num zr < num zy) := by show _ < _; rw [hr.abs, hy.abs]; have := HD.out.lt; omega
    have c_Vx := Vx.c0
    have d_Vx := Vx.c1
    have f_Vx := Vx.frozen 0
    have g_Vx := Vx.frozen 1
    have l_Vx := Vx.lt
    have m_Vx := Nat.le_of_lt l_Vx
    have c_Vy := Vy.c0
    have d_Vy := Vy.c1
    have f_Vy := Vy.frozen 0
    have g_Vy := Vy.frozen 1
    have l_Vy := Vy.lt
    have m_Vy := Nat.le_of_lt l_Vy
    go_wp2_with fail
    refine ent2 x6 _ _ _ _ (Q := fun W => Calls Try.prog _ _ W _) ?_
    intro x7 hb hs_x7 Vq Vr
    replace Vx := Va.after hb Vx
    replace Vy := Va.after hb Vy
    replace hx := It.after hb hx
    replace hy := It.after hb hy
    replace hq := It.after hb hq
    replace hr := It.after hb hr
    replace B0 := step B0 hb
    clear hb hs_x7
    refine (wsign_any sy ay ly ky zy x7 hy).mono ?_
    rintro e x8 ⟨rfl, hb⟩
    replace Vx := Va.after hb Vx
    replace Vy := Va.after hb Vy
    replace Vq := Va.after hb Vq
    replace Vr := Va.after hb Vr
    replace hx := It.after hb hx
    replace hy := It.after hb hy
    replace hq := It.after hb hq
    replace hr := It.after hb hr
    replace B0 := step B0 hb
    clear hb
    have sgn := sign_ne y0
    obtain ⟨sg, hsg⟩ : ∃ sg, Int.sign (iv sy zy) = sg := ⟨_, rfl⟩
    rw [hsg] at sgn ⊢
    clear c_Vx d_Vx f_Vx g_Vx l_Vx m_Vx c_Vy d_Vy f_Vy g_Vy l_Vy m_Vy
    have c_Vx := Vx.c0
    have d_Vx := Vx.c1
    have f_Vx := Vx.frozen 0
    have g_Vx := Vx.frozen 1
    have l_Vx := Vx.lt
    have m_Vx := Nat.le_of_lt l_Vx
    have c_Vy := Vy.c0
    have d_Vy := Vy.c1
    have f_Vy := Vy.frozen 0
    have g_Vy := Vy.frozen 1
    have l_Vy := Vy.lt
    have m_Vy := Nat.le_of_lt l_Vy
    have c_Vq := Vq.c0
    have d_Vq := Vq.c1
    have f_Vq := Vq.frozen 0
    have g_Vq := Vq.frozen 1
    have l_Vq := Vq.lt
    have m_Vq := Nat.le_of_lt l_Vq
    have c_Vr := Vr.c0
    have d_Vr := Vr.c1
    have f_Vr := Vr.frozen 0
    have g_Vr := Vr.frozen 1
    have l_Vr := Vr.lt
    have m_Vr := Nat.le_of_lt l_Vr
    go_wp2_with fail
    clear sgn y0
    have HSG : Hid (Int.sign (iv sy zy) = sg) := hsg
    clear hsg
    by_cases fit : Hid (((iv sq zq * iv sy zy).natAbs : Int) < pw 4096)
    ·
      refine (wmul_ok sq sy aq ay lq kq ly ky zq zy x8 hq hy fit).mono ?_
      rintro e x9 ⟨sp, ap, lp, kp, zp, rfl, hp, ep, hb⟩
      replace Vx := Va.after hb Vx
      replace Vy := Va.after hb Vy
      replace Vq := Va.after hb Vq
      replace Vr := Va.after hb Vr
      replace hx := It.after hb hx
      replace hy := It.after hb hy
      replace hq := It.after hb hq
      replace hr := It.after hb hr
      replace B0 := step B0 hb
      clear hb
      clear c_Vx d_Vx f_Vx g_Vx l_Vx m_Vx c_Vy d_Vy f_Vy g_Vy l_Vy m_Vy c_Vq d_Vq f_Vq g_Vq l_Vq m_Vq c_Vr d_Vr f_Vr g_Vr l_Vr m_Vr
      have c_Vx := Vx.c0
      have d_Vx := Vx.c1
      have f_Vx := Vx.frozen 0
      have g_Vx := Vx.frozen 1
      have l_Vx := Vx.lt
      have m_Vx := Nat.le_of_lt l_Vx
      have c_Vy := Vy.c0
      have d_Vy := Vy.c1
      have f_Vy := Vy.frozen 0
      have g_Vy := Vy.frozen 1
      have l_Vy := Vy.lt
      have m_Vy := Nat.le_of_lt l_Vy
      have c_Vq := Vq.c0
      have d_Vq := Vq.c1
      have f_Vq := Vq.frozen 0
      have g_Vq := Vq.frozen 1
      have l_Vq := Vq.lt
      have m_Vq := Nat.le_of_lt l_Vq
      have c_Vr := Vr.c0
      have d_Vr := Vr.c1
      have f_Vr := Vr.frozen 0
      have g_Vr := Vr.frozen 1
      have l_Vr := Vr.lt
      have m_Vr := Nat.le_of_lt l_Vr
      go_wp2_with fail
      refine ent1 x9 _ _ (Q := fun W => Calls Try.prog _ _ W _) ?_
      intro x10 hb hs_x10 Vp
      replace Vx := Va.after hb Vx
      replace Vy := Va.after hb Vy
      replace Vq := Va.after hb Vq
      replace Vr := Va.after hb Vr
      replace hx := It.after hb hx
      replace hy := It.after hb hy
      replace hq := It.after hb hq
      replace hr := It.after hb hr
      replace hp := It.after hb hp
      replace B0 := step B0 hb
      clear hb hs_x10
      have EB : Hid (iv sp zp + iv sr zr = iv sx zx) := by show _ = _; rw [ep]; exact HD.out.1.symm
      clear ep fit
      refine (wadd_ok sp sr ap ar lp kp lr kr zp zr x10 hp hr (by show _ < _; rw [EB.out]; exact (HB.out _ rfl).1)).mono ?_
      rintro e x11 ⟨sb, ab, lb, kb, zb, rfl, hk, eb, hb⟩
      replace Vx := Va.after hb Vx
      replace Vy := Va.after hb Vy
      replace Vq := Va.after hb Vq
      replace Vr := Va.after hb Vr
      replace Vp := Va.after hb Vp
      replace hx := It.after hb hx
      replace hy := It.after hb hy
      replace hq := It.after hb hq
      replace hr := It.after hb hr
      replace hp := It.after hb hp
      replace B0 := step B0 hb
      clear hb
      have EK : Hid (iv sb zb = iv sx zx) := eb.trans EB.out
      clear eb EB
      clear c_Vx d_Vx f_Vx g_Vx l_Vx m_Vx c_Vy d_Vy f_Vy g_Vy l_Vy m_Vy c_Vq d_Vq f_Vq g_Vq l_Vq m_Vq c_Vr d_Vr f_Vr g_Vr l_Vr m_Vr
      have c_Vx := Vx.c0
      have d_Vx := Vx.c1
      have f_Vx := Vx.frozen 0
      have g_Vx := Vx.frozen 1
      have l_Vx := Vx.lt
      have m_Vx := Nat.le_of_lt l_Vx
      have c_Vy := Vy.c0
      have d_Vy := Vy.c1
      have f_Vy := Vy.frozen 0
      have g_Vy := Vy.frozen 1
      have l_Vy := Vy.lt
      have m_Vy := Nat.le_of_lt l_Vy
      have c_Vq := Vq.c0
      have d_Vq := Vq.c1
      have f_Vq := Vq.frozen 0
      have g_Vq := Vq.frozen 1
      have l_Vq := Vq.lt
      have m_Vq := Nat.le_of_lt l_Vq
      have c_Vr := Vr.c0
      have d_Vr := Vr.c1
      have f_Vr := Vr.frozen 0
      have g_Vr := Vr.frozen 1
      have l_Vr := Vr.lt
      have m_Vr := Nat.le_of_lt l_Vr
      have c_Vp := Vp.c0
      have d_Vp := Vp.c1
      have f_Vp := Vp.frozen 0
      have g_Vp := Vp.frozen 1
      have l_Vp := Vp.lt
      have m_Vp := Nat.le_of_lt l_Vp
      go_wp2_with fail
      refine ent1 x11 _ _ (Q := fun W => Code.wp Try.prog _ _ _ W) ?_
      intro x12 hb hs_x12 Vb
      replace Vx := Va.after hb Vx
      replace Vy := Va.after hb Vy
      replace Vq := Va.after hb Vq
      replace Vr := Va.after hb Vr
      replace Vp := Va.after hb Vp
      replace hx := It.after hb hx
      replace hy := It.after hb hy
      replace hq := It.after hb hq
      replace hr := It.after hb hr
      replace hp := It.after hb hp
      replace hk := It.after hb hk
      replace B0 := step B0 hb
      clear hb hs_x12
      clear c_Vx d_Vx f_Vx g_Vx l_Vx m_Vx c_Vy d_Vy f_Vy g_Vy l_Vy m_Vy c_Vq d_Vq f_Vq g_Vq l_Vq m_Vq c_Vr d_Vr f_Vr g_Vr l_Vr m_Vr c_Vp d_Vp f_Vp g_Vp l_Vp m_Vp
      clear Vq Vp hq hp
      refine wp_region_noPanic ?_
      replace Vx : Va x12.drew _ _ _ := Vx
      replace Vy : Va x12.drew _ _ _ := Vy
      replace Vr : Va x12.drew _ _ _ := Vr
      replace Vb : Va x12.drew _ _ _ := Vb
      replace hx : It x12.drew _ _ _ _ _ := hx
      replace hy : It x12.drew _ _ _ _ _ := hy
      replace hr : It x12.drew _ _ _ _ _ := hr
      replace hk : It x12.drew _ _ _ _ _ := hk
      replace B0 := Below.drew B0
      refine wp_region_held_drew (S := (fun W => W.cell? ⟨x2.heap.size, 0, none⟩ = some (.bool sx) ∧ W.cell? ⟨x2.heap.size, 1, none⟩ = some (.slice ax lx kx) ∧ W.cell? ⟨x4.heap.size, 0, none⟩ = some (.bool sy) ∧ W.cell? ⟨x4.heap.size, 1, none⟩ = some (.slice ay ly ky) ∧ W.cell? ⟨x6.heap.size + 1, 0, none⟩ = some (.bool sr) ∧ W.cell? ⟨x6.heap.size + 1, 1, none⟩ = some (.slice ar lr kr) ∧ W.cell? ⟨x11.heap.size, 0, none⟩ = some (.bool sb) ∧ W.cell? ⟨x11.heap.size, 1, none⟩ = some (.slice ab lb kb))) (by kernel_rfl) ⟨Vx.c0, Vx.c1, Vy.c0, Vy.c1, Vr.c0, Vr.c1, Vb.c0, Vb.c1⟩ (fun hHeld => ?_)
      obtain ⟨x13, hxd⟩ : ∃ xd, xd = x12.drew := ⟨_, rfl⟩
      rw [← hxd] at Vx Vy Vr Vb hx hy hr hk B0 hHeld ⊢
      clear hxd
      refine wpAnyH_take (i := 0) (v := ?_) rfl (by kernel_rfl) (by kernel_rfl) (by kernel_rfl) (fun _ _ _ h => h) (Or.inl ⟨by rfl, ?_⟩) hHeld ?_
      rotate_left
      · (intro W hSw; (try dsimp only at hSw); go_simp; all_goals (with_reducible rfl))
      simp only [List.getElem_toArray, List.getElem_cons_zero, Act.put, List.setIfInBounds_toArray, List.set_cons_zero, List.set_cons_succ]
      refine wpAnyH_take (i := 1) (v := ?_) rfl (by kernel_rfl) (by kernel_rfl) (by kernel_rfl) (fun _ _ _ h => h) (Or.inl ⟨by rfl, ?_⟩) hHeld ?_
      rotate_left
      · (intro W hSw; (try dsimp only at hSw); go_simp; all_goals (with_reducible rfl))
      simp only [List.getElem_toArray, List.getElem_cons_zero, List.getElem_cons_succ, Act.put, List.setIfInBounds_toArray, List.set_cons_zero, List.set_cons_succ]
      refine wpAnyH_take (i := 2) (v := ?_) rfl (by kernel_rfl) (by kernel_rfl) (by kernel_rfl) (fun _ _ _ h => h) (Or.inl ⟨by rfl, ?_⟩) hHeld ?_
      rotate_left
      · (intro W hSw; (try dsimp only at hSw); go_simp; all_goals (with_reducible rfl))
      simp only [List.getElem_toArray, List.getElem_cons_zero, List.getElem_cons_succ, Act.put, List.setIfInBounds_toArray, List.set_cons_zero, List.set_cons_succ]
      refine wpAnyH_take (i := 3) (v := ?_) rfl (by kernel_rfl) (by kernel_rfl) (by kernel_rfl) (fun _ _ _ h => h) (Or.inl ⟨by rfl, ?_⟩) hHeld ?_
      rotate_left
      · (intro W hSw; (try dsimp only at hSw); go_simp; all_goals (with_reducible rfl))
      simp only [List.getElem_toArray, List.getElem_cons_zero, List.getElem_cons_succ, Act.put, List.setIfInBounds_toArray, List.set_cons_zero, List.set_cons_succ]
      refine wpAnyH_take (i := 4) (v := ?_) rfl (by kernel_rfl) (by kernel_rfl) (by kernel_rfl) (fun _ _ _ h => h) (Or.inl ⟨by rfl, ?_⟩) hHeld ?_
      rotate_left
      · (intro W hSw; (try dsimp only at hSw); go_simp; all_goals (with_reducible rfl))
      simp only [List.getElem_toArray, List.getElem_cons_zero, List.getElem_cons_succ, Act.put, List.setIfInBounds_toArray, List.set_cons_zero, List.set_cons_succ]
      refine wpAnyH_take (i := 5) (v := ?_) rfl (by kernel_rfl) (by kernel_rfl) (by kernel_rfl) (fun _ _ _ h => h) (Or.inl ⟨by rfl, ?_⟩) hHeld ?_
      rotate_left
      · (intro W hSw; (try dsimp only at hSw); go_simp; all_goals (with_reducible rfl))
      simp only [List.getElem_toArray, List.getElem_cons_zero, List.getElem_cons_succ, Act.put, List.setIfInBounds_toArray, List.set_cons_zero, List.set_cons_succ]
      refine wpAnyH_take (i := 6) (v := ?_) rfl (by kernel_rfl) (by kernel_rfl) (by kernel_rfl) (fun _ _ _ h => h) (Or.inl ⟨by rfl, ?_⟩) hHeld ?_
      rotate_left
      · (intro W hSw; (try dsimp only at hSw); go_simp; all_goals (with_reducible rfl))
      simp only [List.getElem_toArray, List.getElem_cons_zero, List.getElem_cons_succ, Act.put, List.setIfInBounds_toArray, List.set_cons_zero, List.set_cons_succ]
      refine wpAnyH_take (i := 7) (v := ?_) rfl (by kernel_rfl) (by kernel_rfl) (by kernel_rfl) (fun _ _ _ h => h) (Or.inl ⟨by rfl, ?_⟩) hHeld ?_
      rotate_left
      · (intro W hSw; (try dsimp only at hSw); go_simp; all_goals (with_reducible rfl))
      simp only [List.getElem_toArray, List.getElem_cons_zero, List.getElem_cons_succ, Act.put, List.setIfInBounds_toArray, List.set_cons_zero, List.set_cons_succ]
      refine wpAnyH_take (i := 8) (v := ?_) rfl (by kernel_rfl) (by kernel_rfl) (by kernel_rfl) (fun _ _ _ h => h) (Or.inl ⟨by rfl, ?_⟩) hHeld ?_
      rotate_left
      · (intro W hSw; (try dsimp only at hSw); go_simp; all_goals (with_reducible rfl))
      simp only [List.getElem_toArray, List.getElem_cons_zero, List.getElem_cons_succ, Act.put, List.setIfInBounds_toArray, List.set_cons_zero, List.set_cons_succ]
      refine wpAnyH_take (i := 9) (v := ?_) rfl (by kernel_rfl) (by kernel_rfl) (by kernel_rfl) (fun _ _ _ h => h) (Or.inl ⟨by rfl, ?_⟩) hHeld ?_
      rotate_left
      · (intro W hSw; (try dsimp only at hSw); go_simp; all_goals (with_reducible rfl))
      simp only [List.getElem_toArray, List.getElem_cons_zero, List.getElem_cons_succ, Act.put, List.setIfInBounds_toArray, List.set_cons_zero, List.set_cons_succ]
      refine wpAnyH_take (i := 10) (v := ?_) rfl (by kernel_rfl) (by kernel_rfl) (by kernel_rfl) (fun _ _ _ h => h) (Or.inl ⟨by rfl, ?_⟩) hHeld ?_
      rotate_left
      · (intro W hSw; (try dsimp only at hSw); go_simp; all_goals (with_reducible rfl))
      simp only [List.getElem_toArray, List.getElem_cons_zero, List.getElem_cons_succ, Act.put, List.setIfInBounds_toArray, List.set_cons_zero, List.set_cons_succ]
      refine wpAnyH_take (i := 11) (v := ?_) rfl (by kernel_rfl) (by kernel_rfl) (by kernel_rfl) (fun _ _ _ h => h) (Or.inl ⟨by rfl, ?_⟩) hHeld ?_
      rotate_left
      · (intro W hSw; (try dsimp only at hSw); go_simp; all_goals (with_reducible rfl))
      simp only [List.getElem_toArray, List.getElem_cons_zero, List.getElem_cons_succ, Act.put, List.setIfInBounds_toArray, List.set_cons_zero, List.set_cons_succ]
      refine wpAnyH_take (i := 12) (v := ?_) rfl (by kernel_rfl) (by kernel_rfl) (by kernel_rfl) (fun _ _ _ h => h) (Or.inl ⟨by rfl, ?_⟩) hHeld ?_
      rotate_left
      · (intro W hSw; (try dsimp only at hSw); go_simp; all_goals (with_reducible rfl))
      simp only [List.getElem_toArray, List.getElem_cons_zero, List.getElem_cons_succ, Act.put, List.setIfInBounds_toArray, List.set_cons_zero, List.set_cons_succ]
      refine wpAnyH_ready (rs := [13]) (by kernel_rfl) (by simp) ?_
      refine AllReadyH.cons rfl (fun K hK => ?_) AllReadyH.nil
      simp only [List.getElem_toArray, List.getElem_cons_zero, List.getElem_cons_succ]
      go_simp
      refine (wsame_ok sb sx ab ax lb kb lx kx zb zx _ hk hx EK.out).mono ?_
      rintro e x14 ⟨rfl, hb⟩
      replace Vx := Va.after hb Vx
      replace Vy := Va.after hb Vy
      replace Vr := Va.after hb Vr
      replace Vb := Va.after hb Vb
      replace hx := It.after hb hx
      replace hy := It.after hb hy
      replace hr := It.after hb hr
      replace hk := It.after hb hk
      replace B0 := step B0 hb
      clear hb
      try go_wp2_with fail
      refine hK.out _ _ ⟨Vx.c0, Vx.c1, Vy.c0, Vy.c1, Vr.c0, Vr.c1, Vb.c0, Vb.c1⟩ (fun hHeld => ?_)
      clear hK K
      refine wpAnyH_take (i := 14) (v := ?_) rfl (by kernel_rfl) (by kernel_rfl) (by kernel_rfl) (fun _ _ _ h => h) (Or.inl ⟨by rfl, ?_⟩) hHeld ?_
      rotate_left
      · (intro W hSw; (try dsimp only at hSw); go_simp; all_goals (with_reducible rfl))
      simp only [List.getElem_toArray, List.getElem_cons_zero, List.getElem_cons_succ, Act.put, List.setIfInBounds_toArray, List.set_cons_zero, List.set_cons_succ]
      refine wpAnyH_take (i := 15) (v := ?_) rfl (by kernel_rfl) (by kernel_rfl) (by kernel_rfl) (fun _ _ _ h => h) (Or.inl ⟨by rfl, ?_⟩) hHeld ?_
      rotate_left
      · (intro W hSw; (try dsimp only at hSw); go_simp; all_goals (with_reducible rfl))
      simp only [List.getElem_toArray, List.getElem_cons_zero, List.getElem_cons_succ, Act.put, List.setIfInBounds_toArray, List.set_cons_zero, List.set_cons_succ]
      refine wpAnyH_take (i := 16) (v := ?_) rfl (by kernel_rfl) (by kernel_rfl) (by kernel_rfl) (fun _ _ _ h => h) (Or.inl ⟨by rfl, ?_⟩) hHeld ?_
      rotate_left
      · (intro W hSw; (try dsimp only at hSw); go_simp; all_goals (with_reducible rfl))
      simp only [List.getElem_toArray, List.getElem_cons_zero, List.getElem_cons_succ, Act.put, List.setIfInBounds_toArray, List.set_cons_zero, List.set_cons_succ]
      by_cases r0 : iv sr zr = 0
      ·
        refine wpAnyH_ready (rs := [17]) (by kernel_rfl) (by simp) ?_
        refine AllReadyH.cons rfl (fun K hK => ?_) AllReadyH.nil
        simp only [List.getElem_toArray, List.getElem_cons_zero, List.getElem_cons_succ]
        go_simp
        refine (wsign_any sr ar lr kr zr _ hr).mono ?_
        rintro e x15 ⟨rfl, hb⟩
        replace Vx := Va.after hb Vx
        replace Vy := Va.after hb Vy
        replace Vr := Va.after hb Vr
        replace Vb := Va.after hb Vb
        replace hx := It.after hb hx
        replace hy := It.after hb hy
        replace hr := It.after hb hr
        replace hk := It.after hb hk
        replace B0 := step B0 hb
        clear hb
        rw [r0, Int.sign_zero]
        try go_wp2_with fail
        refine hK.out _ _ ⟨Vx.c0, Vx.c1, Vy.c0, Vy.c1, Vr.c0, Vr.c1, Vb.c0, Vb.c1⟩ (fun hHeld => ?_)
        clear hK K
        refine wpAnyH_take (i := 18) (v := ?_) rfl (by kernel_rfl) (by kernel_rfl) (by kernel_rfl) (fun _ _ _ h => h) (Or.inl ⟨by rfl, ?_⟩) hHeld ?_
        rotate_left
        · (intro W hSw; (try dsimp only at hSw); go_simp; all_goals (with_reducible rfl))
        simp only [List.getElem_toArray, List.getElem_cons_zero, List.getElem_cons_succ, Act.put, List.setIfInBounds_toArray, List.set_cons_zero, List.set_cons_succ]
        refine wpAnyH_take (i := 19) (v := ?_) rfl (by kernel_rfl) (by kernel_rfl) (by kernel_rfl) (fun _ _ _ h => h) (Or.inl ⟨by rfl, ?_⟩) hHeld ?_
        rotate_left
        · (intro W hSw; (try dsimp only at hSw); go_simp; all_goals (with_reducible rfl))
        simp only [List.getElem_toArray, List.getElem_cons_zero, List.getElem_cons_succ, Act.put, List.setIfInBounds_toArray, List.set_cons_zero, List.set_cons_succ]
        refine wpAnyH_take (i := 20) (v := undef) rfl (by kernel_rfl) (by kernel_rfl) (by kernel_rfl) (fun _ _ _ h => h) (Or.inr ⟨by rfl, rfl⟩) hHeld ?_
        simp only [List.getElem_toArray, List.getElem_cons_zero, List.getElem_cons_succ, Act.put, List.setIfInBounds_toArray, List.set_cons_zero, List.set_cons_succ]
        refine wpAnyH_take (i := 21) (v := undef) rfl (by kernel_rfl) (by kernel_rfl) (by kernel_rfl) (fun _ _ _ h => h) (Or.inr ⟨by rfl, rfl⟩) hHeld ?_
        simp only [List.getElem_toArray, List.getElem_cons_zero, List.getElem_cons_succ, Act.put, List.setIfInBounds_toArray, List.set_cons_zero, List.set_cons_succ]
        refine wpAnyH_take (i := 22) (v := undef) rfl (by kernel_rfl) (by kernel_rfl) (by kernel_rfl) (fun _ _ _ h => h) (Or.inr ⟨by rfl, rfl⟩) hHeld ?_
        simp only [List.getElem_toArray, List.getElem_cons_zero, List.getElem_cons_succ, Act.put, List.setIfInBounds_toArray, List.set_cons_zero, List.set_cons_succ]
        refine wpAnyH_take (i := 23) (v := undef) rfl (by kernel_rfl) (by kernel_rfl) (by kernel_rfl) (fun _ _ _ h => h) (Or.inr ⟨by rfl, rfl⟩) hHeld ?_
        simp only [List.getElem_toArray, List.getElem_cons_zero, List.getElem_cons_succ, Act.put, List.setIfInBounds_toArray, List.set_cons_zero, List.set_cons_succ]
        refine wpAnyH_take (i := 24) (v := undef) rfl (by kernel_rfl) (by kernel_rfl) (by kernel_rfl) (fun _ _ _ h => h) (Or.inr ⟨by rfl, rfl⟩) hHeld ?_
        simp only [List.getElem_toArray, List.getElem_cons_zero, List.getElem_cons_succ, Act.put, List.setIfInBounds_toArray, List.set_cons_zero, List.set_cons_succ]
        refine wpAnyH_take (i := 25) (v := ?_) rfl (by kernel_rfl) (by kernel_rfl) (by kernel_rfl) (fun _ _ _ h => h) (Or.inl ⟨by rfl, ?_⟩) hHeld ?_
        rotate_left
        · (intro W hSw; (try dsimp only at hSw); go_simp; all_goals (with_reducible rfl))
        simp only [List.getElem_toArray, List.getElem_cons_zero, List.getElem_cons_succ, Act.put, List.setIfInBounds_toArray, List.set_cons_zero, List.set_cons_succ]
        refine wpAnyH_take (i := 26) (v := ?_) rfl (by kernel_rfl) (by kernel_rfl) (by kernel_rfl) (fun _ _ _ h => h) (Or.inl ⟨by rfl, ?_⟩) hHeld ?_
        rotate_left
        · (intro W hSw; (try dsimp only at hSw); go_simp; all_goals (with_reducible rfl))
        simp only [List.getElem_toArray, List.getElem_cons_zero, List.getElem_cons_succ, Act.put, List.setIfInBounds_toArray, List.set_cons_zero, List.set_cons_succ]
        refine wpAnyH_take (i := 27) (v := ?_) rfl (by kernel_rfl) (by kernel_rfl) (by kernel_rfl) (fun _ _ _ h => h) (Or.inl ⟨by rfl, ?_⟩) hHeld ?_
        rotate_left
        · (intro W hSw; (try dsimp only at hSw); go_simp; all_goals (with_reducible rfl))
        simp only [List.getElem_toArray, List.getElem_cons_zero, List.getElem_cons_succ, Act.put, List.setIfInBounds_toArray, List.set_cons_zero, List.set_cons_succ]
        refine wpAnyH_take (i := 28) (v := ?_) rfl (by kernel_rfl) (by kernel_rfl) (by kernel_rfl) (fun _ _ _ h => h) (Or.inl ⟨by rfl, ?_⟩) hHeld ?_
        rotate_left
        · (intro W hSw; (try dsimp only at hSw); go_simp; all_goals (with_reducible rfl))
        simp only [List.getElem_toArray, List.getElem_cons_zero, List.getElem_cons_succ, Act.put, List.setIfInBounds_toArray, List.set_cons_zero, List.set_cons_succ]
        refine wpAnyH_take (i := 30) (v := ?_) rfl (by kernel_rfl) (by kernel_rfl) (by kernel_rfl) (fun _ _ _ h => h) (Or.inl ⟨by rfl, ?_⟩) hHeld ?_
        rotate_left
        · (intro W hSw; (try dsimp only at hSw); go_simp; all_goals (with_reducible rfl))
        simp only [List.getElem_toArray, List.getElem_cons_zero, List.getElem_cons_succ, Act.put, List.setIfInBounds_toArray, List.set_cons_zero, List.set_cons_succ]
        refine wpAnyH_ready (rs := [29]) (by kernel_rfl) (by simp) ?_
        refine AllReadyH.cons rfl (fun K hK => ?_) AllReadyH.nil
        simp only [List.getElem_toArray, List.getElem_cons_zero, List.getElem_cons_succ]
        go_simp
        refine (wabs_any sr ar lr kr _).mono ?_
        rintro e x16 ⟨rfl, hb⟩
        replace Vx := Va.after hb Vx
        replace Vy := Va.after hb Vy
        replace Vr := Va.after hb Vr
        replace Vb := Va.after hb Vb
        replace hx := It.after hb hx
        replace hy := It.after hb hy
        replace hr := It.after hb hr
        replace hk := It.after hb hk
        replace B0 := step B0 hb
        clear hb
        try go_wp2_with fail
        refine hK.out _ _ ⟨Vx.c0, Vx.c1, Vy.c0, Vy.c1, Vr.c0, Vr.c1, Vb.c0, Vb.c1⟩ (fun hHeld => ?_)
        clear hK K
        refine wpAnyH_ready (rs := [31]) (by kernel_rfl) (by simp) ?_
        refine AllReadyH.cons rfl (fun K hK => ?_) AllReadyH.nil
        simp only [List.getElem_toArray, List.getElem_cons_zero, List.getElem_cons_succ]
        go_simp
        refine (wabs_any sy ay ly ky _).mono ?_
        rintro e x17 ⟨rfl, hb⟩
        replace Vx := Va.after hb Vx
        replace Vy := Va.after hb Vy
        replace Vr := Va.after hb Vr
        replace Vb := Va.after hb Vb
        replace hx := It.after hb hx
        replace hy := It.after hb hy
        replace hr := It.after hb hr
        replace hk := It.after hb hk
        replace B0 := step B0 hb
        clear hb
        try go_wp2_with fail
        refine hK.out _ _ ⟨Vx.c0, Vx.c1, Vy.c0, Vy.c1, Vr.c0, Vr.c1, Vb.c0, Vb.c1⟩ (fun hHeld => ?_)
        clear hK K
        refine wpAnyH_ready (rs := [32]) (by kernel_rfl) (by simp) ?_
        refine AllReadyH.cons rfl (fun K hK => ?_) AllReadyH.nil
        simp only [List.getElem_toArray, List.getElem_cons_zero, List.getElem_cons_succ]
        go_simp
        refine (ncompare_any ar ay lr kr ly ky zr zy _ hr.1 hy.1).mono ?_
        rintro e x18 ⟨rfl, hb⟩
        replace Vx := Va.after hb Vx
        replace Vy := Va.after hb Vy
        replace Vr := Va.after hb Vr
        replace Vb := Va.after hb Vb
        replace hx := It.after hb hx
        replace hy := It.after hb hy
        replace hr := It.after hb hr
        replace hk := It.after hb hk
        replace B0 := step B0 hb
        clear hb
        rw [cmp3_lt HC.out]
        try go_wp2_with fail
        refine hK.out _ _ ⟨Vx.c0, Vx.c1, Vy.c0, Vy.c1, Vr.c0, Vr.c1, Vb.c0, Vb.c1⟩ (fun hHeld => ?_)
        clear hK K
        refine wpAnyH_take (i := 33) (v := ?_) rfl (by kernel_rfl) (by kernel_rfl) (by kernel_rfl) (fun _ _ _ h => h) (Or.inl ⟨by rfl, ?_⟩) hHeld ?_
        rotate_left
        · (intro W hSw; (try dsimp only at hSw); go_simp; all_goals (with_reducible rfl))
        simp only [List.getElem_toArray, List.getElem_cons_zero, List.getElem_cons_succ, Act.put, List.setIfInBounds_toArray, List.set_cons_zero, List.set_cons_succ]
        refine wpAnyH_take (i := 34) (v := ?_) rfl (by kernel_rfl) (by kernel_rfl) (by kernel_rfl) (fun _ _ _ h => h) (Or.inl ⟨by rfl, ?_⟩) hHeld ?_
        rotate_left
        · (intro W hSw; (try dsimp only at hSw); go_simp; all_goals (with_reducible rfl))
        simp only [List.getElem_toArray, List.getElem_cons_zero, List.getElem_cons_succ, Act.put, List.setIfInBounds_toArray, List.set_cons_zero, List.set_cons_succ]
        refine wpAnyH_take (i := 35) (v := ?_) rfl (by kernel_rfl) (by kernel_rfl) (by kernel_rfl) (fun _ _ _ h => h) (Or.inl ⟨by rfl, ?_⟩) hHeld ?_
        rotate_left
        · (intro W hSw; (try dsimp only at hSw); go_simp; all_goals (with_reducible rfl))
        simp only [List.getElem_toArray, List.getElem_cons_zero, List.getElem_cons_succ, Act.put, List.setIfInBounds_toArray, List.set_cons_zero, List.set_cons_succ]
        refine wpAnyH_done (by kernel_rfl) ?_ _
        refine NoPanic.normal ?_
        clear hHeld
        go_wp2_with fail
        go_ret
        exact ⟨rfl, B0⟩
      ·
        have HSR : Hid (Int.sign (iv sr zr) = sg) := by show _ = _; rw [HD.out.sign r0]; exact HSG.out
        have sgn := sign_ne r0
        rw [HSR.out] at sgn
        refine wpAnyH_ready (rs := [17]) (by kernel_rfl) (by simp) ?_
        refine AllReadyH.cons rfl (fun K hK => ?_) AllReadyH.nil
        simp only [List.getElem_toArray, List.getElem_cons_zero, List.getElem_cons_succ]
        go_simp
        refine (wsign_any sr ar lr kr zr _ hr).mono ?_
        rintro e x15 ⟨rfl, hb⟩
        replace Vx := Va.after hb Vx
        replace Vy := Va.after hb Vy
        replace Vr := Va.after hb Vr
        replace Vb := Va.after hb Vb
        replace hx := It.after hb hx
        replace hy := It.after hb hy
        replace hr := It.after hb hr
        replace hk := It.after hb hk
        replace B0 := step B0 hb
        clear hb
        rw [HSR.out]
        try go_wp2_with fail
        refine hK.out _ _ ⟨Vx.c0, Vx.c1, Vy.c0, Vy.c1, Vr.c0, Vr.c1, Vb.c0, Vb.c1⟩ (fun hHeld => ?_)
        clear hK K
        refine wpAnyH_take (i := 18) (v := ?_) rfl (by kernel_rfl) (by kernel_rfl) (by kernel_rfl) (fun _ _ _ h => h) (Or.inl ⟨by rfl, ?_⟩) hHeld ?_
        rotate_left
        · (intro W hSw; (try dsimp only at hSw); go_simp; all_goals (with_reducible rfl))
        simp only [List.getElem_toArray, List.getElem_cons_zero, List.getElem_cons_succ, Act.put, List.setIfInBounds_toArray, List.set_cons_zero, List.set_cons_succ]
        refine wpAnyH_take (i := 19) (v := ?_) rfl (by kernel_rfl) (by kernel_rfl) (by kernel_rfl) (fun _ _ _ h => h) (Or.inl ⟨by rfl, ?_⟩) hHeld ?_
        rotate_left
        · (intro W hSw; (try dsimp only at hSw); go_simp; all_goals (with_reducible rfl))
        simp only [List.getElem_toArray, List.getElem_cons_zero, List.getElem_cons_succ, Act.put, List.setIfInBounds_toArray, List.set_cons_zero, List.set_cons_succ]
        refine wpAnyH_take (i := 20) (v := ?_) rfl (by kernel_rfl) (by kernel_rfl) (by kernel_rfl) (fun _ _ _ h => h) (Or.inl ⟨by rfl, ?_⟩) hHeld ?_
        rotate_left
        · (intro W hSw; (try dsimp only at hSw); go_simp; all_goals (with_reducible rfl))
        simp only [List.getElem_toArray, List.getElem_cons_zero, List.getElem_cons_succ, Act.put, List.setIfInBounds_toArray, List.set_cons_zero, List.set_cons_succ]
        refine wpAnyH_take (i := 22) (v := ?_) rfl (by kernel_rfl) (by kernel_rfl) (by kernel_rfl) (fun _ _ _ h => h) (Or.inl ⟨by rfl, ?_⟩) hHeld ?_
        rotate_left
        · (intro W hSw; (try dsimp only at hSw); go_simp; all_goals (with_reducible rfl))
        simp only [List.getElem_toArray, List.getElem_cons_zero, List.getElem_cons_succ, Act.put, List.setIfInBounds_toArray, List.set_cons_zero, List.set_cons_succ]
        refine wpAnyH_ready (rs := [21]) (by kernel_rfl) (by simp) ?_
        refine AllReadyH.cons rfl (fun K hK => ?_) AllReadyH.nil
        simp only [List.getElem_toArray, List.getElem_cons_zero, List.getElem_cons_succ]
        go_simp
        refine (wsign_any sr ar lr kr zr _ hr).mono ?_
        rintro e x16 ⟨rfl, hb⟩
        replace Vx := Va.after hb Vx
        replace Vy := Va.after hb Vy
        replace Vr := Va.after hb Vr
        replace Vb := Va.after hb Vb
        replace hx := It.after hb hx
        replace hy := It.after hb hy
        replace hr := It.after hb hr
        replace hk := It.after hb hk
        replace B0 := step B0 hb
        clear hb
        rw [HSR.out]
        try go_wp2_with fail
        refine hK.out _ _ ⟨Vx.c0, Vx.c1, Vy.c0, Vy.c1, Vr.c0, Vr.c1, Vb.c0, Vb.c1⟩ (fun hHeld => ?_)
        clear hK K
        refine wpAnyH_ready (rs := [23]) (by kernel_rfl) (by simp) ?_
        refine AllReadyH.cons rfl (fun K hK => ?_) AllReadyH.nil
        simp only [List.getElem_toArray, List.getElem_cons_zero, List.getElem_cons_succ]
        go_simp
        refine (wsign_any sy ay ly ky zy _ hy).mono ?_
        rintro e x17 ⟨rfl, hb⟩
        replace Vx := Va.after hb Vx
        replace Vy := Va.after hb Vy
        replace Vr := Va.after hb Vr
        replace Vb := Va.after hb Vb
        replace hx := It.after hb hx
        replace hy := It.after hb hy
        replace hr := It.after hb hr
        replace hk := It.after hb hk
        replace B0 := step B0 hb
        clear hb
        rw [HSG.out]
        try go_wp2_with fail
        refine hK.out _ _ ⟨Vx.c0, Vx.c1, Vy.c0, Vy.c1, Vr.c0, Vr.c1, Vb.c0, Vb.c1⟩ (fun hHeld => ?_)
        clear hK K
        refine wpAnyH_take (i := 24) (v := ?_) rfl (by kernel_rfl) (by kernel_rfl) (by kernel_rfl) (fun _ _ _ h => h) (Or.inl ⟨by rfl, ?_⟩) hHeld ?_
        rotate_left
        · (intro W hSw; (try dsimp only at hSw); go_simp; all_goals (with_reducible rfl))
        simp only [List.getElem_toArray, List.getElem_cons_zero, List.getElem_cons_succ, Act.put, List.setIfInBounds_toArray, List.set_cons_zero, List.set_cons_succ]
        refine wpAnyH_take (i := 25) (v := ?_) rfl (by kernel_rfl) (by kernel_rfl) (by kernel_rfl) (fun _ _ _ h => h) (Or.inl ⟨by rfl, ?_⟩) hHeld ?_
        rotate_left
        · (intro W hSw; (try dsimp only at hSw); go_simp; all_goals (with_reducible rfl))
        simp only [List.getElem_toArray, List.getElem_cons_zero, List.getElem_cons_succ, Act.put, List.setIfInBounds_toArray, List.set_cons_zero, List.set_cons_succ]
        refine wpAnyH_take (i := 26) (v := ?_) rfl (by kernel_rfl) (by kernel_rfl) (by kernel_rfl) (fun _ _ _ h => h) (Or.inl ⟨by rfl, ?_⟩) hHeld ?_
        rotate_left
        · (intro W hSw; (try dsimp only at hSw); go_simp; all_goals (with_reducible rfl))
        simp only [List.getElem_toArray, List.getElem_cons_zero, List.getElem_cons_succ, Act.put, List.setIfInBounds_toArray, List.set_cons_zero, List.set_cons_succ]
        refine wpAnyH_take (i := 27) (v := ?_) rfl (by kernel_rfl) (by kernel_rfl) (by kernel_rfl) (fun _ _ _ h => h) (Or.inl ⟨by rfl, ?_⟩) hHeld ?_
        rotate_left
        · (intro W hSw; (try dsimp only at hSw); go_simp; all_goals (with_reducible rfl))
        simp only [List.getElem_toArray, List.getElem_cons_zero, List.getElem_cons_succ, Act.put, List.setIfInBounds_toArray, List.set_cons_zero, List.set_cons_succ]
        refine wpAnyH_take (i := 28) (v := ?_) rfl (by kernel_rfl) (by kernel_rfl) (by kernel_rfl) (fun _ _ _ h => h) (Or.inl ⟨by rfl, ?_⟩) hHeld ?_
        rotate_left
        · (intro W hSw; (try dsimp only at hSw); go_simp; all_goals (with_reducible rfl))
        simp only [List.getElem_toArray, List.getElem_cons_zero, List.getElem_cons_succ, Act.put, List.setIfInBounds_toArray, List.set_cons_zero, List.set_cons_succ]
        refine wpAnyH_take (i := 30) (v := ?_) rfl (by kernel_rfl) (by kernel_rfl) (by kernel_rfl) (fun _ _ _ h => h) (Or.inl ⟨by rfl, ?_⟩) hHeld ?_
        rotate_left
        · (intro W hSw; (try dsimp only at hSw); go_simp; all_goals (with_reducible rfl))
        simp only [List.getElem_toArray, List.getElem_cons_zero, List.getElem_cons_succ, Act.put, List.setIfInBounds_toArray, List.set_cons_zero, List.set_cons_succ]
        refine wpAnyH_ready (rs := [29]) (by kernel_rfl) (by simp) ?_
        refine AllReadyH.cons rfl (fun K hK => ?_) AllReadyH.nil
        simp only [List.getElem_toArray, List.getElem_cons_zero, List.getElem_cons_succ]
        go_simp
        refine (wabs_any sr ar lr kr _).mono ?_
        rintro e x18 ⟨rfl, hb⟩
        replace Vx := Va.after hb Vx
        replace Vy := Va.after hb Vy
        replace Vr := Va.after hb Vr
        replace Vb := Va.after hb Vb
        replace hx := It.after hb hx
        replace hy := It.after hb hy
        replace hr := It.after hb hr
        replace hk := It.after hb hk
        replace B0 := step B0 hb
        clear hb
        try go_wp2_with fail
        refine hK.out _ _ ⟨Vx.c0, Vx.c1, Vy.c0, Vy.c1, Vr.c0, Vr.c1, Vb.c0, Vb.c1⟩ (fun hHeld => ?_)
        clear hK K
        refine wpAnyH_ready (rs := [31]) (by kernel_rfl) (by simp) ?_
        refine AllReadyH.cons rfl (fun K hK => ?_) AllReadyH.nil
        simp only [List.getElem_toArray, List.getElem_cons_zero, List.getElem_cons_succ]
        go_simp
        refine (wabs_any sy ay ly ky _).mono ?_
        rintro e x19 ⟨rfl, hb⟩
        replace Vx := Va.after hb Vx
        replace Vy := Va.after hb Vy
        replace Vr := Va.after hb Vr
        replace Vb := Va.after hb Vb
        replace hx := It.after hb hx
        replace hy := It.after hb hy
        replace hr := It.after hb hr
        replace hk := It.after hb hk
        replace B0 := step B0 hb
        clear hb
        try go_wp2_with fail
        refine hK.out _ _ ⟨Vx.c0, Vx.c1, Vy.c0, Vy.c1, Vr.c0, Vr.c1, Vb.c0, Vb.c1⟩ (fun hHeld => ?_)
        clear hK K
        refine wpAnyH_ready (rs := [32]) (by kernel_rfl) (by simp) ?_
        refine AllReadyH.cons rfl (fun K hK => ?_) AllReadyH.nil
        simp only [List.getElem_toArray, List.getElem_cons_zero, List.getElem_cons_succ]
        go_simp
        refine (ncompare_any ar ay lr kr ly ky zr zy _ hr.1 hy.1).mono ?_
        rintro e x20 ⟨rfl, hb⟩
        replace Vx := Va.after hb Vx
        replace Vy := Va.after hb Vy
        replace Vr := Va.after hb Vr
        replace Vb := Va.after hb Vb
        replace hx := It.after hb hx
        replace hy := It.after hb hy
        replace hr := It.after hb hr
        replace hk := It.after hb hk
        replace B0 := step B0 hb
        clear hb
        rw [cmp3_lt HC.out]
        try go_wp2_with fail
        refine hK.out _ _ ⟨Vx.c0, Vx.c1, Vy.c0, Vy.c1, Vr.c0, Vr.c1, Vb.c0, Vb.c1⟩ (fun hHeld => ?_)
        clear hK K
        refine wpAnyH_take (i := 33) (v := ?_) rfl (by kernel_rfl) (by kernel_rfl) (by kernel_rfl) (fun _ _ _ h => h) (Or.inl ⟨by rfl, ?_⟩) hHeld ?_
        rotate_left
        · (intro W hSw; (try dsimp only at hSw); go_simp; all_goals (with_reducible rfl))
        simp only [List.getElem_toArray, List.getElem_cons_zero, List.getElem_cons_succ, Act.put, List.setIfInBounds_toArray, List.set_cons_zero, List.set_cons_succ]
        refine wpAnyH_take (i := 34) (v := ?_) rfl (by kernel_rfl) (by kernel_rfl) (by kernel_rfl) (fun _ _ _ h => h) (Or.inl ⟨by rfl, ?_⟩) hHeld ?_
        rotate_left
        · (intro W hSw; (try dsimp only at hSw); go_simp; all_goals (with_reducible rfl))
        simp only [List.getElem_toArray, List.getElem_cons_zero, List.getElem_cons_succ, Act.put, List.setIfInBounds_toArray, List.set_cons_zero, List.set_cons_succ]
        refine wpAnyH_take (i := 35) (v := ?_) rfl (by kernel_rfl) (by kernel_rfl) (by kernel_rfl) (fun _ _ _ h => h) (Or.inl ⟨by rfl, ?_⟩) hHeld ?_
        rotate_left
        · (intro W hSw; (try dsimp only at hSw); go_simp; all_goals (with_reducible rfl))
        simp only [List.getElem_toArray, List.getElem_cons_zero, List.getElem_cons_succ, Act.put, List.setIfInBounds_toArray, List.set_cons_zero, List.set_cons_succ]
        refine wpAnyH_done (by kernel_rfl) ?_ _
        refine NoPanic.normal ?_
        clear hHeld
        go_wp2_with fail
        go_ret
        exact ⟨rfl, B0⟩
    ·
      have long : Hid (pw 4096 ≤ ((iv sq zq * iv sy zy).natAbs : Int)) := Int.not_lt.1 fit
      have HL : Hid (iv sr zr ≠ 0 ∧ ((iv sq zq + 1).natAbs : Int) < pw 4096 ∧ (((iv sq zq + 1) * iv sy zy).natAbs : Int) < pw 4096 ∧ ((iv sr zr - iv sy zy).natAbs : Int) < pw 4096 ∧ (iv sq zq + 1) * iv sy zy + (iv sr zr - iv sy zy) = iv sx zx) := by
        obtain ⟨h1, h2, h3⟩ := HB.out _ rfl
        exact HD.out.long h1 h2 h3 long.out
      have HSR : Hid (Int.sign (iv sr zr) = sg) := by show _ = _; rw [HD.out.sign HL.out.1]; exact HSG.out
      clear fit
      refine (wmul_long sq sy aq ay lq kq ly ky zq zy x8 hq hy long).mono ?_
      rintro e x9 ⟨rfl, hb⟩
      replace Vx := Va.after hb Vx
      replace Vy := Va.after hb Vy
      replace Vq := Va.after hb Vq
      replace Vr := Va.after hb Vr
      replace hx := It.after hb hx
      replace hy := It.after hb hy
      replace hq := It.after hb hq
      replace hr := It.after hb hr
      replace B0 := step B0 hb
      clear hb
      clear c_Vx d_Vx f_Vx g_Vx l_Vx m_Vx c_Vy d_Vy f_Vy g_Vy l_Vy m_Vy c_Vq d_Vq f_Vq g_Vq l_Vq m_Vq c_Vr d_Vr f_Vr g_Vr l_Vr m_Vr
      have c_Vx := Vx.c0
      have d_Vx := Vx.c1
      have f_Vx := Vx.frozen 0
      have g_Vx := Vx.frozen 1
      have l_Vx := Vx.lt
      have m_Vx := Nat.le_of_lt l_Vx
      have c_Vy := Vy.c0
      have d_Vy := Vy.c1
      have f_Vy := Vy.frozen 0
      have g_Vy := Vy.frozen 1
      have l_Vy := Vy.lt
      have m_Vy := Nat.le_of_lt l_Vy
      have c_Vq := Vq.c0
      have d_Vq := Vq.c1
      have f_Vq := Vq.frozen 0
      have g_Vq := Vq.frozen 1
      have l_Vq := Vq.lt
      have m_Vq := Nat.le_of_lt l_Vq
      have c_Vr := Vr.c0
      have d_Vr := Vr.c1
      have f_Vr := Vr.frozen 0
      have g_Vr := Vr.frozen 1
      have l_Vr := Vr.lt
      have m_Vr := Nat.le_of_lt l_Vr
      go_wp2_with fail
      refine ent1 x9 _ _ (Q := fun W => Code.wp Try.prog _ _ _ W) ?_
      intro x10 hb hs_x10 Vp
      replace Vx := Va.after hb Vx
      replace Vy := Va.after hb Vy
      replace Vq := Va.after hb Vq
      replace Vr := Va.after hb Vr
      replace hx := It.after hb hx
      replace hy := It.after hb hy
      replace hq := It.after hb hq
      replace hr := It.after hb hr
      replace B0 := step B0 hb
      clear hb hs_x10
      clear long
      clear c_Vx d_Vx f_Vx g_Vx l_Vx m_Vx c_Vy d_Vy f_Vy g_Vy l_Vy m_Vy c_Vq d_Vq f_Vq g_Vq l_Vq m_Vq c_Vr d_Vr f_Vr g_Vr l_Vr m_Vr
      clear Vp
      go_cut [16] (fun s16 wx => ∃ (b16 : Nat) (su : Bool) (au : Option Addr) (lu ku : Nat) (zu : List Int), s16 = .pointer (some ⟨b16, 0, none⟩) ∧ Hid (Va wx b16 28 #[.bool su, .slice au lu ku]) ∧ Hid (It wx su au lu ku zu) ∧ Hid (iv su zu = iv sq zq + 1) ∧ Hid (Va wx (x2.heap.size) 28 #[.bool sx, .slice ax lx kx]) ∧ Hid (Va wx (x4.heap.size) 28 #[.bool sy, .slice ay ly ky]) ∧ Hid (Va wx (x6.heap.size + 1) 28 #[.bool sr, .slice ar lr kr]) ∧ Hid (It wx sx ax lx kx zx) ∧ Hid (It wx sy ay ly ky zy) ∧ Hid (It wx sr ar lr kr zr) ∧ Hid (Below w.heap.size w wx))
      case first =>
        refine wp_region_noPanic ?_
        replace Vx : Va x10.drew _ _ _ := Vx
        replace Vy : Va x10.drew _ _ _ := Vy
        replace Vq : Va x10.drew _ _ _ := Vq
        replace Vr : Va x10.drew _ _ _ := Vr
        replace hx : It x10.drew _ _ _ _ _ := hx
        replace hy : It x10.drew _ _ _ _ _ := hy
        replace hq : It x10.drew _ _ _ _ _ := hq
        replace hr : It x10.drew _ _ _ _ _ := hr
        replace B0 := Below.drew B0
        refine wp_region_held_drew (S := (fun W => W.cell? ⟨x6.heap.size, 0, none⟩ = some (.bool sq) ∧ W.cell? ⟨x6.heap.size, 1, none⟩ = some (.slice aq lq kq))) (by kernel_rfl) ⟨Vq.c0, Vq.c1⟩ (fun hHeld => ?_)
        obtain ⟨x11, hxd⟩ : ∃ xd, xd = x10.drew := ⟨_, rfl⟩
        rw [← hxd] at Vx Vy Vq Vr hx hy hq hr B0 hHeld ⊢
        clear hxd
        refine wpAnyH_take (i := 0) (v := ?_) rfl (by kernel_rfl) (by kernel_rfl) (by kernel_rfl) (fun _ _ _ h => h) (Or.inl ⟨by rfl, ?_⟩) hHeld ?_
        rotate_left
        · (intro W hSw; (try dsimp only at hSw); go_simp; all_goals (with_reducible rfl))
        simp only [List.getElem_toArray, List.getElem_cons_zero, Act.put, List.setIfInBounds_toArray, List.set_cons_zero, List.set_cons_succ]
        refine wpAnyH_ready (rs := [1, 6]) (by kernel_rfl) (by simp) ?_
        refine AllReadyH.cons rfl (fun K hK => ?_) (AllReadyH.cons rfl (fun K hK => ?_) AllReadyH.nil)
        ·
          simp only [List.getElem_toArray, List.getElem_cons_zero, List.getElem_cons_succ]
          go_simp
          refine (wsmall_any 1 (by omega) (by omega) _).mono ?_
          rintro e x12 ⟨s1, a1, l1, k1, o1, rfl, h1, e1, hb⟩
          replace Vx := Va.after hb Vx
          replace Vy := Va.after hb Vy
          replace Vq := Va.after hb Vq
          replace Vr := Va.after hb Vr
          replace hx := It.after hb hx
          replace hy := It.after hb hy
          replace hq := It.after hb hq
          replace hr := It.after hb hr
          replace B0 := step B0 hb
          clear hb
          try go_wp2_with fail
          refine hK.out _ _ ⟨Vq.c0, Vq.c1⟩ (fun hHeld => ?_)
          clear hK K
          refine wpAnyH_ready (rs := [2, 6]) (by kernel_rfl) (by simp) ?_
          refine AllReadyH.cons rfl (fun K hK => ?_) (AllReadyH.cons rfl (fun K hK => ?_) AllReadyH.nil)
          ·
            simp only [List.getElem_toArray, List.getElem_cons_zero, List.getElem_cons_succ]
            go_simp
            refine (wadd_ok sq s1 aq a1 lq kq l1 k1 zq o1 _ hq h1 (by show _ < _; rw [e1]; exact HL.out.2.1)).mono ?_
            rintro e x13 ⟨su, au, lu, ku, zu, rfl, hu, eu, hb⟩
            replace Vx := Va.after hb Vx
            replace Vy := Va.after hb Vy
            replace Vq := Va.after hb Vq
            replace Vr := Va.after hb Vr
            replace hx := It.after hb hx
            replace hy := It.after hb hy
            replace hq := It.after hb hq
            replace hr := It.after hb hr
            replace h1 := It.after hb h1
            replace B0 := step B0 hb
            clear hb
            try go_wp2_with fail
            refine hK.out _ _ ⟨Vq.c0, Vq.c1⟩ (fun hHeld => ?_)
            clear hK K
            refine wpAnyH_take (i := 3) (v := ?_) rfl (by kernel_rfl) (by kernel_rfl) (by kernel_rfl) (fun _ _ _ h => h) (Or.inl ⟨by rfl, ?_⟩) hHeld ?_
            rotate_left
            · (intro W hSw; (try dsimp only at hSw); go_simp; all_goals (with_reducible rfl))
            simp only [List.getElem_toArray, List.getElem_cons_zero, List.getElem_cons_succ, Act.put, List.setIfInBounds_toArray, List.set_cons_zero, List.set_cons_succ]
            refine wpAnyH_take (i := 4) (v := ?_) rfl (by kernel_rfl) (by kernel_rfl) (by kernel_rfl) (fun _ _ _ h => h) (Or.inl ⟨by rfl, ?_⟩) hHeld ?_
            rotate_left
            · (intro W hSw; (try dsimp only at hSw); go_simp; all_goals (with_reducible rfl))
            simp only [List.getElem_toArray, List.getElem_cons_zero, List.getElem_cons_succ, Act.put, List.setIfInBounds_toArray, List.set_cons_zero, List.set_cons_succ]
            refine wpAnyH_take (i := 5) (v := ?_) rfl (by kernel_rfl) (by kernel_rfl) (by kernel_rfl) (fun _ _ _ h => h) (Or.inl ⟨by rfl, ?_⟩) hHeld ?_
            rotate_left
            · (intro W hSw; (try dsimp only at hSw); go_simp; all_goals (with_reducible rfl))
            simp only [List.getElem_toArray, List.getElem_cons_zero, List.getElem_cons_succ, Act.put, List.setIfInBounds_toArray, List.set_cons_zero, List.set_cons_succ]
            refine wpAnyH_ready (rs := [6]) (by kernel_rfl) (by simp) ?_
            refine AllReadyH.cons rfl (fun K hK => ?_) AllReadyH.nil
            ·
              simp only [List.getElem_toArray, List.getElem_cons_zero, List.getElem_cons_succ]
              go_simp
              have lt_Vu_Vx := Vx.lt
              have lt_Vu_Vy := Vy.lt
              have lt_Vu_Vq := Vq.lt
              have lt_Vu_Vr := Vr.lt
              have sz_Vu := B0.size
              refine ent1 _ _ _ (Q := fun V => K _ V) ?_
              intro x14 hb hs_ Vu
              replace Vx := Va.after hb Vx
              replace Vy := Va.after hb Vy
              replace Vq := Va.after hb Vq
              replace Vr := Va.after hb Vr
              replace hx := It.after hb hx
              replace hy := It.after hb hy
              replace hq := It.after hb hq
              replace hr := It.after hb hr
              replace h1 := It.after hb h1
              replace hu := It.after hb hu
              replace B0 := step B0 hb
              clear hb hs_
              refine hK.out _ _ ⟨Vq.c0, Vq.c1⟩ (fun hHeld => ?_)
              clear hK K
              have c_Vu := Vu.c0
              have d_Vu := Vu.c1
              have f_Vu := Vu.frozen 0
              have g_Vu := Vu.frozen 1
              have l_Vu := Vu.lt
              have m_Vu := Nat.le_of_lt l_Vu
              refine wpAnyH_ready (rs := [7]) (by kernel_rfl) (by simp) ?_
              refine AllReadyH.cons rfl (fun K hK => ?_) AllReadyH.nil
              simp only [List.getElem_toArray, List.getElem_cons_zero, List.getElem_cons_succ]
              go_simp
              clear c_Vu d_Vu f_Vu g_Vu l_Vu m_Vu
              refine st2 Vu (.bool su) (.slice au lu ku) (Q := fun W => K _ W) ?_
              intro x15 V' oth far
              replace Vx := oth _ _ _ (by first | omega | assumption) Vx
              replace Vy := oth _ _ _ (by first | omega | assumption) Vy
              replace Vq := oth _ _ _ (by first | omega | assumption) Vq
              replace Vr := oth _ _ _ (by first | omega | assumption) Vr
              replace hx := hx.far Vu (noInt2 _ _ _ _) far.1
              replace hy := hy.far Vu (noInt2 _ _ _ _) far.1
              replace hq := hq.far Vu (noInt2 _ _ _ _) far.1
              replace hr := hr.far Vu (noInt2 _ _ _ _) far.1
              replace h1 := h1.far Vu (noInt2 _ _ _ _) far.1
              replace hu := hu.far Vu (noInt2 _ _ _ _) far.1
              replace B0 := far.2 _ _ (by first | omega | (simp; omega)) B0
              replace Vu := V'
              clear oth far
              refine hK.out _ _ ⟨Vq.c0, Vq.c1⟩ (fun hHeld => ?_)
              clear hK K
              refine wpAnyH_take (i := 8) (v := ?_) rfl (by kernel_rfl) (by kernel_rfl) (by kernel_rfl) (fun _ _ _ h => h) (Or.inl ⟨by rfl, ?_⟩) hHeld ?_
              rotate_left
              · (intro W hSw; (try dsimp only at hSw); go_simp; all_goals (with_reducible rfl))
              simp only [List.getElem_toArray, List.getElem_cons_zero, List.getElem_cons_succ, Act.put, List.setIfInBounds_toArray, List.set_cons_zero, List.set_cons_succ]
              refine wpAnyH_done (by kernel_rfl) ?_ _
              refine NoPanic.normal ?_
              clear hHeld
              go_wp2_with fail
              go_meet
              exact ⟨_, su, au, lu, ku, zu, rfl, Vu, hu, eu.trans (by rw [e1]), Vx, Vy, Vr, hx, hy, hr, B0⟩
          ·
            simp only [List.getElem_toArray, List.getElem_cons_zero, List.getElem_cons_succ]
            go_simp
            have lt_Vu_Vx := Vx.lt
            have lt_Vu_Vy := Vy.lt
            have lt_Vu_Vq := Vq.lt
            have lt_Vu_Vr := Vr.lt
            have sz_Vu := B0.size
            refine ent1 _ _ _ (Q := fun V => K _ V) ?_
            intro x13 hb hs_ Vu
            replace Vx := Va.after hb Vx
            replace Vy := Va.after hb Vy
            replace Vq := Va.after hb Vq
            replace Vr := Va.after hb Vr
            replace hx := It.after hb hx
            replace hy := It.after hb hy
            replace hq := It.after hb hq
            replace hr := It.after hb hr
            replace h1 := It.after hb h1
            replace B0 := step B0 hb
            clear hb hs_
            refine hK.out _ _ ⟨Vq.c0, Vq.c1⟩ (fun hHeld => ?_)
            clear hK K
            refine wpAnyH_ready (rs := [2]) (by kernel_rfl) (by simp) ?_
            refine AllReadyH.cons rfl (fun K hK => ?_) AllReadyH.nil
            ·
              simp only [List.getElem_toArray, List.getElem_cons_zero, List.getElem_cons_succ]
              go_simp
              refine (wadd_ok sq s1 aq a1 lq kq l1 k1 zq o1 _ hq h1 (by show _ < _; rw [e1]; exact HL.out.2.1)).mono ?_
              rintro e x14 ⟨su, au, lu, ku, zu, rfl, hu, eu, hb⟩
              replace Vx := Va.after hb Vx
              replace Vy := Va.after hb Vy
              replace Vq := Va.after hb Vq
              replace Vr := Va.after hb Vr
              replace Vu := Va.after hb Vu
              replace hx := It.after hb hx
              replace hy := It.after hb hy
              replace hq := It.after hb hq
              replace hr := It.after hb hr
              replace h1 := It.after hb h1
              replace B0 := step B0 hb
              clear hb
              try go_wp2_with fail
              refine hK.out _ _ ⟨Vq.c0, Vq.c1⟩ (fun hHeld => ?_)
              clear hK K
              refine wpAnyH_take (i := 3) (v := ?_) rfl (by kernel_rfl) (by kernel_rfl) (by kernel_rfl) (fun _ _ _ h => h) (Or.inl ⟨by rfl, ?_⟩) hHeld ?_
              rotate_left
              · (intro W hSw; (try dsimp only at hSw); go_simp; all_goals (with_reducible rfl))
              simp only [List.getElem_toArray, List.getElem_cons_zero, List.getElem_cons_succ, Act.put, List.setIfInBounds_toArray, List.set_cons_zero, List.set_cons_succ]
              refine wpAnyH_take (i := 4) (v := ?_) rfl (by kernel_rfl) (by kernel_rfl) (by kernel_rfl) (fun _ _ _ h => h) (Or.inl ⟨by rfl, ?_⟩) hHeld ?_
              rotate_left
              · (intro W hSw; (try dsimp only at hSw); go_simp; all_goals (with_reducible rfl))
              simp only [List.getElem_toArray, List.getElem_cons_zero, List.getElem_cons_succ, Act.put, List.setIfInBounds_toArray, List.set_cons_zero, List.set_cons_succ]
              refine wpAnyH_take (i := 5) (v := ?_) rfl (by kernel_rfl) (by kernel_rfl) (by kernel_rfl) (fun _ _ _ h => h) (Or.inl ⟨by rfl, ?_⟩) hHeld ?_
              rotate_left
              · (intro W hSw; (try dsimp only at hSw); go_simp; all_goals (with_reducible rfl))
              simp only [List.getElem_toArray, List.getElem_cons_zero, List.getElem_cons_succ, Act.put, List.setIfInBounds_toArray, List.set_cons_zero, List.set_cons_succ]
              have c_Vu := Vu.c0
              have d_Vu := Vu.c1
              have f_Vu := Vu.frozen 0
              have g_Vu := Vu.frozen 1
              have l_Vu := Vu.lt
              have m_Vu := Nat.le_of_lt l_Vu
              refine wpAnyH_ready (rs := [7]) (by kernel_rfl) (by simp) ?_
              refine AllReadyH.cons rfl (fun K hK => ?_) AllReadyH.nil
              simp only [List.getElem_toArray, List.getElem_cons_zero, List.getElem_cons_succ]
              go_simp
              clear c_Vu d_Vu f_Vu g_Vu l_Vu m_Vu
              refine st2 Vu (.bool su) (.slice au lu ku) (Q := fun W => K _ W) ?_
              intro x15 V' oth far
              replace Vx := oth _ _ _ (by first | omega | assumption) Vx
              replace Vy := oth _ _ _ (by first | omega | assumption) Vy
              replace Vq := oth _ _ _ (by first | omega | assumption) Vq
              replace Vr := oth _ _ _ (by first | omega | assumption) Vr
              replace hx := hx.far Vu (noInt2 _ _ _ _) far.1
              replace hy := hy.far Vu (noInt2 _ _ _ _) far.1
              replace hq := hq.far Vu (noInt2 _ _ _ _) far.1
              replace hr := hr.far Vu (noInt2 _ _ _ _) far.1
              replace h1 := h1.far Vu (noInt2 _ _ _ _) far.1
              replace hu := hu.far Vu (noInt2 _ _ _ _) far.1
              replace B0 := far.2 _ _ (by first | omega | (simp; omega)) B0
              replace Vu := V'
              clear oth far
              refine hK.out _ _ ⟨Vq.c0, Vq.c1⟩ (fun hHeld => ?_)
              clear hK K
              refine wpAnyH_take (i := 8) (v := ?_) rfl (by kernel_rfl) (by kernel_rfl) (by kernel_rfl) (fun _ _ _ h => h) (Or.inl ⟨by rfl, ?_⟩) hHeld ?_
              rotate_left
              · (intro W hSw; (try dsimp only at hSw); go_simp; all_goals (with_reducible rfl))
              simp only [List.getElem_toArray, List.getElem_cons_zero, List.getElem_cons_succ, Act.put, List.setIfInBounds_toArray, List.set_cons_zero, List.set_cons_succ]
              refine wpAnyH_done (by kernel_rfl) ?_ _
              refine NoPanic.normal ?_
              clear hHeld
              go_wp2_with fail
              go_meet
              exact ⟨_, su, au, lu, ku, zu, rfl, Vu, hu, eu.trans (by rw [e1]), Vx, Vy, Vr, hx, hy, hr, B0⟩
        ·
          simp only [List.getElem_toArray, List.getElem_cons_zero, List.getElem_cons_succ]
          go_simp
          have lt_Vu_Vx := Vx.lt
          have lt_Vu_Vy := Vy.lt
          have lt_Vu_Vq := Vq.lt
          have lt_Vu_Vr := Vr.lt
          have sz_Vu := B0.size
          refine ent1 _ _ _ (Q := fun V => K _ V) ?_
          intro x12 hb hs_ Vu
          replace Vx := Va.after hb Vx
          replace Vy := Va.after hb Vy
          replace Vq := Va.after hb Vq
          replace Vr := Va.after hb Vr
          replace hx := It.after hb hx
          replace hy := It.after hb hy
          replace hq := It.after hb hq
          replace hr := It.after hb hr
          replace B0 := step B0 hb
          clear hb hs_
          refine hK.out _ _ ⟨Vq.c0, Vq.c1⟩ (fun hHeld => ?_)
          clear hK K
          refine wpAnyH_ready (rs := [1]) (by kernel_rfl) (by simp) ?_
          refine AllReadyH.cons rfl (fun K hK => ?_) AllReadyH.nil
          ·
            simp only [List.getElem_toArray, List.getElem_cons_zero, List.getElem_cons_succ]
            go_simp
            refine (wsmall_any 1 (by omega) (by omega) _).mono ?_
            rintro e x13 ⟨s1, a1, l1, k1, o1, rfl, h1, e1, hb⟩
            replace Vx := Va.after hb Vx
            replace Vy := Va.after hb Vy
            replace Vq := Va.after hb Vq
            replace Vr := Va.after hb Vr
            replace Vu := Va.after hb Vu
            replace hx := It.after hb hx
            replace hy := It.after hb hy
            replace hq := It.after hb hq
            replace hr := It.after hb hr
            replace B0 := step B0 hb
            clear hb
            try go_wp2_with fail
            refine hK.out _ _ ⟨Vq.c0, Vq.c1⟩ (fun hHeld => ?_)
            clear hK K
            refine wpAnyH_ready (rs := [2]) (by kernel_rfl) (by simp) ?_
            refine AllReadyH.cons rfl (fun K hK => ?_) AllReadyH.nil
            ·
              simp only [List.getElem_toArray, List.getElem_cons_zero, List.getElem_cons_succ]
              go_simp
              refine (wadd_ok sq s1 aq a1 lq kq l1 k1 zq o1 _ hq h1 (by show _ < _; rw [e1]; exact HL.out.2.1)).mono ?_
              rintro e x14 ⟨su, au, lu, ku, zu, rfl, hu, eu, hb⟩
              replace Vx := Va.after hb Vx
              replace Vy := Va.after hb Vy
              replace Vq := Va.after hb Vq
              replace Vr := Va.after hb Vr
              replace Vu := Va.after hb Vu
              replace hx := It.after hb hx
              replace hy := It.after hb hy
              replace hq := It.after hb hq
              replace hr := It.after hb hr
              replace h1 := It.after hb h1
              replace B0 := step B0 hb
              clear hb
              try go_wp2_with fail
              refine hK.out _ _ ⟨Vq.c0, Vq.c1⟩ (fun hHeld => ?_)
              clear hK K
              refine wpAnyH_take (i := 3) (v := ?_) rfl (by kernel_rfl) (by kernel_rfl) (by kernel_rfl) (fun _ _ _ h => h) (Or.inl ⟨by rfl, ?_⟩) hHeld ?_
              rotate_left
              · (intro W hSw; (try dsimp only at hSw); go_simp; all_goals (with_reducible rfl))
              simp only [List.getElem_toArray, List.getElem_cons_zero, List.getElem_cons_succ, Act.put, List.setIfInBounds_toArray, List.set_cons_zero, List.set_cons_succ]
              refine wpAnyH_take (i := 4) (v := ?_) rfl (by kernel_rfl) (by kernel_rfl) (by kernel_rfl) (fun _ _ _ h => h) (Or.inl ⟨by rfl, ?_⟩) hHeld ?_
              rotate_left
              · (intro W hSw; (try dsimp only at hSw); go_simp; all_goals (with_reducible rfl))
              simp only [List.getElem_toArray, List.getElem_cons_zero, List.getElem_cons_succ, Act.put, List.setIfInBounds_toArray, List.set_cons_zero, List.set_cons_succ]
              refine wpAnyH_take (i := 5) (v := ?_) rfl (by kernel_rfl) (by kernel_rfl) (by kernel_rfl) (fun _ _ _ h => h) (Or.inl ⟨by rfl, ?_⟩) hHeld ?_
              rotate_left
              · (intro W hSw; (try dsimp only at hSw); go_simp; all_goals (with_reducible rfl))
              simp only [List.getElem_toArray, List.getElem_cons_zero, List.getElem_cons_succ, Act.put, List.setIfInBounds_toArray, List.set_cons_zero, List.set_cons_succ]
              have c_Vu := Vu.c0
              have d_Vu := Vu.c1
              have f_Vu := Vu.frozen 0
              have g_Vu := Vu.frozen 1
              have l_Vu := Vu.lt
              have m_Vu := Nat.le_of_lt l_Vu
              refine wpAnyH_ready (rs := [7]) (by kernel_rfl) (by simp) ?_
              refine AllReadyH.cons rfl (fun K hK => ?_) AllReadyH.nil
              simp only [List.getElem_toArray, List.getElem_cons_zero, List.getElem_cons_succ]
              go_simp
              clear c_Vu d_Vu f_Vu g_Vu l_Vu m_Vu
              refine st2 Vu (.bool su) (.slice au lu ku) (Q := fun W => K _ W) ?_
              intro x15 V' oth far
              replace Vx := oth _ _ _ (by first | omega | assumption) Vx
              replace Vy := oth _ _ _ (by first | omega | assumption) Vy
              replace Vq := oth _ _ _ (by first | omega | assumption) Vq
              replace Vr := oth _ _ _ (by first | omega | assumption) Vr
              replace hx := hx.far Vu (noInt2 _ _ _ _) far.1
              replace hy := hy.far Vu (noInt2 _ _ _ _) far.1
              replace hq := hq.far Vu (noInt2 _ _ _ _) far.1
              replace hr := hr.far Vu (noInt2 _ _ _ _) far.1
              replace h1 := h1.far Vu (noInt2 _ _ _ _) far.1
              replace hu := hu.far Vu (noInt2 _ _ _ _) far.1
              replace B0 := far.2 _ _ (by first | omega | (simp; omega)) B0
              replace Vu := V'
              clear oth far
              refine hK.out _ _ ⟨Vq.c0, Vq.c1⟩ (fun hHeld => ?_)
              clear hK K
              refine wpAnyH_take (i := 8) (v := ?_) rfl (by kernel_rfl) (by kernel_rfl) (by kernel_rfl) (fun _ _ _ h => h) (Or.inl ⟨by rfl, ?_⟩) hHeld ?_
              rotate_left
              · (intro W hSw; (try dsimp only at hSw); go_simp; all_goals (with_reducible rfl))
              simp only [List.getElem_toArray, List.getElem_cons_zero, List.getElem_cons_succ, Act.put, List.setIfInBounds_toArray, List.set_cons_zero, List.set_cons_succ]
              refine wpAnyH_done (by kernel_rfl) ?_ _
              refine NoPanic.normal ?_
              clear hHeld
              go_wp2_with fail
              go_meet
              exact ⟨_, su, au, lu, ku, zu, rfl, Vu, hu, eu.trans (by rw [e1]), Vx, Vy, Vr, hx, hy, hr, B0⟩
      case rest =>
        clear Vx Vy Vr Vq hx hy hr hq B0
        obtain ⟨b16, su, au, lu, ku, zu, rfl, Vu', hu', eu, Vx', Vy', Vr', hx', hy', hr', B0'⟩ := hcut
        have Vu := Vu'.out
        have hu := hu'.out
        have Vx := Vx'.out
        have Vy := Vy'.out
        have Vr := Vr'.out
        have hx := hx'.out
        have hy := hy'.out
        have hr := hr'.out
        have B0 := B0'.out
        clear Vu' hu' Vx' Vy' Vr' hx' hy' hr' B0'
        have c_Vx := Vx.c0
        have d_Vx := Vx.c1
        have f_Vx := Vx.frozen 0
        have g_Vx := Vx.frozen 1
        have l_Vx := Vx.lt
        have m_Vx := Nat.le_of_lt l_Vx
        have c_Vy := Vy.c0
        have d_Vy := Vy.c1
        have f_Vy := Vy.frozen 0
        have g_Vy := Vy.frozen 1
        have l_Vy := Vy.lt
        have m_Vy := Nat.le_of_lt l_Vy
        have c_Vr := Vr.c0
        have d_Vr := Vr.c1
        have f_Vr := Vr.frozen 0
        have g_Vr := Vr.frozen 1
        have l_Vr := Vr.lt
        have m_Vr := Nat.le_of_lt l_Vr
        have c_Vu := Vu.c0
        have d_Vu := Vu.c1
        have f_Vu := Vu.frozen 0
        have g_Vu := Vu.frozen 1
        have l_Vu := Vu.lt
        have m_Vu := Nat.le_of_lt l_Vu
        go_wp2_with fail
        refine (wmul_ok su sy au ay lu ku ly ky zu zy wc hu hy (by show _ < _; rw [eu.out]; exact HL.out.2.2.1)).mono ?_
        rintro e x11 ⟨sp, ap, lp, kp, zp, rfl, hp, ep, hb⟩
        replace Vx := Va.after hb Vx
        replace Vy := Va.after hb Vy
        replace Vr := Va.after hb Vr
        replace Vu := Va.after hb Vu
        replace hx := It.after hb hx
        replace hy := It.after hb hy
        replace hr := It.after hb hr
        replace hu := It.after hb hu
        replace B0 := step B0 hb
        clear hb
        clear c_Vx d_Vx f_Vx g_Vx l_Vx m_Vx c_Vy d_Vy f_Vy g_Vy l_Vy m_Vy c_Vr d_Vr f_Vr g_Vr l_Vr m_Vr c_Vu d_Vu f_Vu g_Vu l_Vu m_Vu
        have c_Vx := Vx.c0
        have d_Vx := Vx.c1
        have f_Vx := Vx.frozen 0
        have g_Vx := Vx.frozen 1
        have l_Vx := Vx.lt
        have m_Vx := Nat.le_of_lt l_Vx
        have c_Vy := Vy.c0
        have d_Vy := Vy.c1
        have f_Vy := Vy.frozen 0
        have g_Vy := Vy.frozen 1
        have l_Vy := Vy.lt
        have m_Vy := Nat.le_of_lt l_Vy
        have c_Vr := Vr.c0
        have d_Vr := Vr.c1
        have f_Vr := Vr.frozen 0
        have g_Vr := Vr.frozen 1
        have l_Vr := Vr.lt
        have m_Vr := Nat.le_of_lt l_Vr
        have c_Vu := Vu.c0
        have d_Vu := Vu.c1
        have f_Vu := Vu.frozen 0
        have g_Vu := Vu.frozen 1
        have l_Vu := Vu.lt
        have m_Vu := Nat.le_of_lt l_Vu
        go_wp2_with fail
        refine ent1 x11 _ _ (Q := fun W => Calls Try.prog _ _ W _) ?_
        intro x12 hb hs_x12 Vp
        replace Vx := Va.after hb Vx
        replace Vy := Va.after hb Vy
        replace Vr := Va.after hb Vr
        replace Vu := Va.after hb Vu
        replace hx := It.after hb hx
        replace hy := It.after hb hy
        replace hr := It.after hb hr
        replace hu := It.after hb hu
        replace hp := It.after hb hp
        replace B0 := step B0 hb
        clear hb hs_x12
        refine (wsub_ok sr sy ar ay lr kr ly ky zr zy x12 hr hy (by show _ < _; exact HL.out.2.2.2.1)).mono ?_
        rintro e x13 ⟨sl, al, ll, kl, zl, rfl, hl, el, hb⟩
        replace Vx := Va.after hb Vx
        replace Vy := Va.after hb Vy
        replace Vr := Va.after hb Vr
        replace Vu := Va.after hb Vu
        replace Vp := Va.after hb Vp
        replace hx := It.after hb hx
        replace hy := It.after hb hy
        replace hr := It.after hb hr
        replace hu := It.after hb hu
        replace hp := It.after hb hp
        replace B0 := step B0 hb
        clear hb
        clear c_Vx d_Vx f_Vx g_Vx l_Vx m_Vx c_Vy d_Vy f_Vy g_Vy l_Vy m_Vy c_Vr d_Vr f_Vr g_Vr l_Vr m_Vr c_Vu d_Vu f_Vu g_Vu l_Vu m_Vu
        have c_Vx := Vx.c0
        have d_Vx := Vx.c1
        have f_Vx := Vx.frozen 0
        have g_Vx := Vx.frozen 1
        have l_Vx := Vx.lt
        have m_Vx := Nat.le_of_lt l_Vx
        have c_Vy := Vy.c0
        have d_Vy := Vy.c1
        have f_Vy := Vy.frozen 0
        have g_Vy := Vy.frozen 1
        have l_Vy := Vy.lt
        have m_Vy := Nat.le_of_lt l_Vy
        have c_Vr := Vr.c0
        have d_Vr := Vr.c1
        have f_Vr := Vr.frozen 0
        have g_Vr := Vr.frozen 1
        have l_Vr := Vr.lt
        have m_Vr := Nat.le_of_lt l_Vr
        have c_Vu := Vu.c0
        have d_Vu := Vu.c1
        have f_Vu := Vu.frozen 0
        have g_Vu := Vu.frozen 1
        have l_Vu := Vu.lt
        have m_Vu := Nat.le_of_lt l_Vu
        have c_Vp := Vp.c0
        have d_Vp := Vp.c1
        have f_Vp := Vp.frozen 0
        have g_Vp := Vp.frozen 1
        have l_Vp := Vp.lt
        have m_Vp := Nat.le_of_lt l_Vp
        go_wp2_with fail
        refine ent1 x13 _ _ (Q := fun W => Calls Try.prog _ _ W _) ?_
        intro x14 hb hs_x14 Vl
        replace Vx := Va.after hb Vx
        replace Vy := Va.after hb Vy
        replace Vr := Va.after hb Vr
        replace Vu := Va.after hb Vu
        replace Vp := Va.after hb Vp
        replace hx := It.after hb hx
        replace hy := It.after hb hy
        replace hr := It.after hb hr
        replace hu := It.after hb hu
        replace hp := It.after hb hp
        replace hl := It.after hb hl
        replace B0 := step B0 hb
        clear hb hs_x14
        have EB : Hid (iv sp zp + iv sl zl = iv sx zx) := by show _ = _; rw [ep, el, eu.out]; exact HL.out.2.2.2.2
        clear ep el eu
        refine (wadd_ok sp sl ap al lp kp ll kl zp zl x14 hp hl (by show _ < _; rw [EB.out]; exact (HB.out _ rfl).1)).mono ?_
        rintro e x15 ⟨sb, ab, lb, kb, zb, rfl, hk, eb, hb⟩
        replace Vx := Va.after hb Vx
        replace Vy := Va.after hb Vy
        replace Vr := Va.after hb Vr
        replace Vu := Va.after hb Vu
        replace Vp := Va.after hb Vp
        replace Vl := Va.after hb Vl
        replace hx := It.after hb hx
        replace hy := It.after hb hy
        replace hr := It.after hb hr
        replace hu := It.after hb hu
        replace hp := It.after hb hp
        replace hl := It.after hb hl
        replace B0 := step B0 hb
        clear hb
        have EK : Hid (iv sb zb = iv sx zx) := eb.trans EB.out
        clear eb EB
        clear c_Vx d_Vx f_Vx g_Vx l_Vx m_Vx c_Vy d_Vy f_Vy g_Vy l_Vy m_Vy c_Vr d_Vr f_Vr g_Vr l_Vr m_Vr c_Vu d_Vu f_Vu g_Vu l_Vu m_Vu c_Vp d_Vp f_Vp g_Vp l_Vp m_Vp
        have c_Vx := Vx.c0
        have d_Vx := Vx.c1
        have f_Vx := Vx.frozen 0
        have g_Vx := Vx.frozen 1
        have l_Vx := Vx.lt
        have m_Vx := Nat.le_of_lt l_Vx
        have c_Vy := Vy.c0
        have d_Vy := Vy.c1
        have f_Vy := Vy.frozen 0
        have g_Vy := Vy.frozen 1
        have l_Vy := Vy.lt
        have m_Vy := Nat.le_of_lt l_Vy
        have c_Vr := Vr.c0
        have d_Vr := Vr.c1
        have f_Vr := Vr.frozen 0
        have g_Vr := Vr.frozen 1
        have l_Vr := Vr.lt
        have m_Vr := Nat.le_of_lt l_Vr
        have c_Vu := Vu.c0
        have d_Vu := Vu.c1
        have f_Vu := Vu.frozen 0
        have g_Vu := Vu.frozen 1
        have l_Vu := Vu.lt
        have m_Vu := Nat.le_of_lt l_Vu
        have c_Vp := Vp.c0
        have d_Vp := Vp.c1
        have f_Vp := Vp.frozen 0
        have g_Vp := Vp.frozen 1
        have l_Vp := Vp.lt
        have m_Vp := Nat.le_of_lt l_Vp
        have c_Vl := Vl.c0
        have d_Vl := Vl.c1
        have f_Vl := Vl.frozen 0
        have g_Vl := Vl.frozen 1
        have l_Vl := Vl.lt
        have m_Vl := Nat.le_of_lt l_Vl
        go_wp2_with fail
        refine ent1 x15 _ _ (Q := fun W => Code.wp Try.prog _ _ _ W) ?_
        intro x16 hb hs_x16 Vb
        replace Vx := Va.after hb Vx
        replace Vy := Va.after hb Vy
        replace Vr := Va.after hb Vr
        replace Vu := Va.after hb Vu
        replace Vp := Va.after hb Vp
        replace Vl := Va.after hb Vl
        replace hx := It.after hb hx
        replace hy := It.after hb hy
        replace hr := It.after hb hr
        replace hu := It.after hb hu
        replace hp := It.after hb hp
        replace hl := It.after hb hl
        replace hk := It.after hb hk
        replace B0 := step B0 hb
        clear hb hs_x16
        clear c_Vx d_Vx f_Vx g_Vx l_Vx m_Vx c_Vy d_Vy f_Vy g_Vy l_Vy m_Vy c_Vr d_Vr f_Vr g_Vr l_Vr m_Vr c_Vu d_Vu f_Vu g_Vu l_Vu m_Vu c_Vp d_Vp f_Vp g_Vp l_Vp m_Vp c_Vl d_Vl f_Vl g_Vl l_Vl m_Vl
        clear Vu Vp Vl hu hp hl
        refine wp_region_noPanic ?_
        replace Vx : Va x16.drew _ _ _ := Vx
        replace Vy : Va x16.drew _ _ _ := Vy
        replace Vr : Va x16.drew _ _ _ := Vr
        replace Vb : Va x16.drew _ _ _ := Vb
        replace hx : It x16.drew _ _ _ _ _ := hx
        replace hy : It x16.drew _ _ _ _ _ := hy
        replace hr : It x16.drew _ _ _ _ _ := hr
        replace hk : It x16.drew _ _ _ _ _ := hk
        replace B0 := Below.drew B0
        refine wp_region_held_drew (S := (fun W => W.cell? ⟨x2.heap.size, 0, none⟩ = some (.bool sx) ∧ W.cell? ⟨x2.heap.size, 1, none⟩ = some (.slice ax lx kx) ∧ W.cell? ⟨x4.heap.size, 0, none⟩ = some (.bool sy) ∧ W.cell? ⟨x4.heap.size, 1, none⟩ = some (.slice ay ly ky) ∧ W.cell? ⟨x6.heap.size + 1, 0, none⟩ = some (.bool sr) ∧ W.cell? ⟨x6.heap.size + 1, 1, none⟩ = some (.slice ar lr kr) ∧ W.cell? ⟨x15.heap.size, 0, none⟩ = some (.bool sb) ∧ W.cell? ⟨x15.heap.size, 1, none⟩ = some (.slice ab lb kb))) (by kernel_rfl) ⟨Vx.c0, Vx.c1, Vy.c0, Vy.c1, Vr.c0, Vr.c1, Vb.c0, Vb.c1⟩ (fun hHeld => ?_)
        obtain ⟨x17, hxd⟩ : ∃ xd, xd = x16.drew := ⟨_, rfl⟩
        rw [← hxd] at Vx Vy Vr Vb hx hy hr hk B0 hHeld ⊢
        clear hxd
        refine wpAnyH_take (i := 0) (v := ?_) rfl (by kernel_rfl) (by kernel_rfl) (by kernel_rfl) (fun _ _ _ h => h) (Or.inl ⟨by rfl, ?_⟩) hHeld ?_
        rotate_left
        · (intro W hSw; (try dsimp only at hSw); go_simp; all_goals (with_reducible rfl))
        simp only [List.getElem_toArray, List.getElem_cons_zero, Act.put, List.setIfInBounds_toArray, List.set_cons_zero, List.set_cons_succ]
        refine wpAnyH_take (i := 1) (v := ?_) rfl (by kernel_rfl) (by kernel_rfl) (by kernel_rfl) (fun _ _ _ h => h) (Or.inl ⟨by rfl, ?_⟩) hHeld ?_
        rotate_left
        · (intro W hSw; (try dsimp only at hSw); go_simp; all_goals (with_reducible rfl))
        simp only [List.getElem_toArray, List.getElem_cons_zero, List.getElem_cons_succ, Act.put, List.setIfInBounds_toArray, List.set_cons_zero, List.set_cons_succ]
        refine wpAnyH_take (i := 2) (v := ?_) rfl (by kernel_rfl) (by kernel_rfl) (by kernel_rfl) (fun _ _ _ h => h) (Or.inl ⟨by rfl, ?_⟩) hHeld ?_
        rotate_left
        · (intro W hSw; (try dsimp only at hSw); go_simp; all_goals (with_reducible rfl))
        simp only [List.getElem_toArray, List.getElem_cons_zero, List.getElem_cons_succ, Act.put, List.setIfInBounds_toArray, List.set_cons_zero, List.set_cons_succ]
        refine wpAnyH_take (i := 3) (v := ?_) rfl (by kernel_rfl) (by kernel_rfl) (by kernel_rfl) (fun _ _ _ h => h) (Or.inl ⟨by rfl, ?_⟩) hHeld ?_
        rotate_left
        · (intro W hSw; (try dsimp only at hSw); go_simp; all_goals (with_reducible rfl))
        simp only [List.getElem_toArray, List.getElem_cons_zero, List.getElem_cons_succ, Act.put, List.setIfInBounds_toArray, List.set_cons_zero, List.set_cons_succ]
        refine wpAnyH_take (i := 4) (v := ?_) rfl (by kernel_rfl) (by kernel_rfl) (by kernel_rfl) (fun _ _ _ h => h) (Or.inl ⟨by rfl, ?_⟩) hHeld ?_
        rotate_left
        · (intro W hSw; (try dsimp only at hSw); go_simp; all_goals (with_reducible rfl))
        simp only [List.getElem_toArray, List.getElem_cons_zero, List.getElem_cons_succ, Act.put, List.setIfInBounds_toArray, List.set_cons_zero, List.set_cons_succ]
        refine wpAnyH_take (i := 5) (v := ?_) rfl (by kernel_rfl) (by kernel_rfl) (by kernel_rfl) (fun _ _ _ h => h) (Or.inl ⟨by rfl, ?_⟩) hHeld ?_
        rotate_left
        · (intro W hSw; (try dsimp only at hSw); go_simp; all_goals (with_reducible rfl))
        simp only [List.getElem_toArray, List.getElem_cons_zero, List.getElem_cons_succ, Act.put, List.setIfInBounds_toArray, List.set_cons_zero, List.set_cons_succ]
        refine wpAnyH_take (i := 6) (v := ?_) rfl (by kernel_rfl) (by kernel_rfl) (by kernel_rfl) (fun _ _ _ h => h) (Or.inl ⟨by rfl, ?_⟩) hHeld ?_
        rotate_left
        · (intro W hSw; (try dsimp only at hSw); go_simp; all_goals (with_reducible rfl))
        simp only [List.getElem_toArray, List.getElem_cons_zero, List.getElem_cons_succ, Act.put, List.setIfInBounds_toArray, List.set_cons_zero, List.set_cons_succ]
        refine wpAnyH_take (i := 7) (v := ?_) rfl (by kernel_rfl) (by kernel_rfl) (by kernel_rfl) (fun _ _ _ h => h) (Or.inl ⟨by rfl, ?_⟩) hHeld ?_
        rotate_left
        · (intro W hSw; (try dsimp only at hSw); go_simp; all_goals (with_reducible rfl))
        simp only [List.getElem_toArray, List.getElem_cons_zero, List.getElem_cons_succ, Act.put, List.setIfInBounds_toArray, List.set_cons_zero, List.set_cons_succ]
        refine wpAnyH_take (i := 8) (v := ?_) rfl (by kernel_rfl) (by kernel_rfl) (by kernel_rfl) (fun _ _ _ h => h) (Or.inl ⟨by rfl, ?_⟩) hHeld ?_
        rotate_left
        · (intro W hSw; (try dsimp only at hSw); go_simp; all_goals (with_reducible rfl))
        simp only [List.getElem_toArray, List.getElem_cons_zero, List.getElem_cons_succ, Act.put, List.setIfInBounds_toArray, List.set_cons_zero, List.set_cons_succ]
        refine wpAnyH_take (i := 9) (v := ?_) rfl (by kernel_rfl) (by kernel_rfl) (by kernel_rfl) (fun _ _ _ h => h) (Or.inl ⟨by rfl, ?_⟩) hHeld ?_
        rotate_left
        · (intro W hSw; (try dsimp only at hSw); go_simp; all_goals (with_reducible rfl))
        simp only [List.getElem_toArray, List.getElem_cons_zero, List.getElem_cons_succ, Act.put, List.setIfInBounds_toArray, List.set_cons_zero, List.set_cons_succ]
        refine wpAnyH_take (i := 10) (v := ?_) rfl (by kernel_rfl) (by kernel_rfl) (by kernel_rfl) (fun _ _ _ h => h) (Or.inl ⟨by rfl, ?_⟩) hHeld ?_
        rotate_left
        · (intro W hSw; (try dsimp only at hSw); go_simp; all_goals (with_reducible rfl))
        simp only [List.getElem_toArray, List.getElem_cons_zero, List.getElem_cons_succ, Act.put, List.setIfInBounds_toArray, List.set_cons_zero, List.set_cons_succ]
        refine wpAnyH_take (i := 11) (v := ?_) rfl (by kernel_rfl) (by kernel_rfl) (by kernel_rfl) (fun _ _ _ h => h) (Or.inl ⟨by rfl, ?_⟩) hHeld ?_
        rotate_left
        · (intro W hSw; (try dsimp only at hSw); go_simp; all_goals (with_reducible rfl))
        simp only [List.getElem_toArray, List.getElem_cons_zero, List.getElem_cons_succ, Act.put, List.setIfInBounds_toArray, List.set_cons_zero, List.set_cons_succ]
        refine wpAnyH_take (i := 12) (v := ?_) rfl (by kernel_rfl) (by kernel_rfl) (by kernel_rfl) (fun _ _ _ h => h) (Or.inl ⟨by rfl, ?_⟩) hHeld ?_
        rotate_left
        · (intro W hSw; (try dsimp only at hSw); go_simp; all_goals (with_reducible rfl))
        simp only [List.getElem_toArray, List.getElem_cons_zero, List.getElem_cons_succ, Act.put, List.setIfInBounds_toArray, List.set_cons_zero, List.set_cons_succ]
        refine wpAnyH_ready (rs := [13]) (by kernel_rfl) (by simp) ?_
        refine AllReadyH.cons rfl (fun K hK => ?_) AllReadyH.nil
        simp only [List.getElem_toArray, List.getElem_cons_zero, List.getElem_cons_succ]
        go_simp
        refine (wsame_ok sb sx ab ax lb kb lx kx zb zx _ hk hx EK.out).mono ?_
        rintro e x18 ⟨rfl, hb⟩
        replace Vx := Va.after hb Vx
        replace Vy := Va.after hb Vy
        replace Vr := Va.after hb Vr
        replace Vb := Va.after hb Vb
        replace hx := It.after hb hx
        replace hy := It.after hb hy
        replace hr := It.after hb hr
        replace hk := It.after hb hk
        replace B0 := step B0 hb
        clear hb
        try go_wp2_with fail
        refine hK.out _ _ ⟨Vx.c0, Vx.c1, Vy.c0, Vy.c1, Vr.c0, Vr.c1, Vb.c0, Vb.c1⟩ (fun hHeld => ?_)
        clear hK K
        refine wpAnyH_take (i := 14) (v := ?_) rfl (by kernel_rfl) (by kernel_rfl) (by kernel_rfl) (fun _ _ _ h => h) (Or.inl ⟨by rfl, ?_⟩) hHeld ?_
        rotate_left
        · (intro W hSw; (try dsimp only at hSw); go_simp; all_goals (with_reducible rfl))
        simp only [List.getElem_toArray, List.getElem_cons_zero, List.getElem_cons_succ, Act.put, List.setIfInBounds_toArray, List.set_cons_zero, List.set_cons_succ]
        refine wpAnyH_take (i := 15) (v := ?_) rfl (by kernel_rfl) (by kernel_rfl) (by kernel_rfl) (fun _ _ _ h => h) (Or.inl ⟨by rfl, ?_⟩) hHeld ?_
        rotate_left
        · (intro W hSw; (try dsimp only at hSw); go_simp; all_goals (with_reducible rfl))
        simp only [List.getElem_toArray, List.getElem_cons_zero, List.getElem_cons_succ, Act.put, List.setIfInBounds_toArray, List.set_cons_zero, List.set_cons_succ]
        refine wpAnyH_take (i := 16) (v := ?_) rfl (by kernel_rfl) (by kernel_rfl) (by kernel_rfl) (fun _ _ _ h => h) (Or.inl ⟨by rfl, ?_⟩) hHeld ?_
        rotate_left
        · (intro W hSw; (try dsimp only at hSw); go_simp; all_goals (with_reducible rfl))
        simp only [List.getElem_toArray, List.getElem_cons_zero, List.getElem_cons_succ, Act.put, List.setIfInBounds_toArray, List.set_cons_zero, List.set_cons_succ]
        refine wpAnyH_take (i := 18) (v := ?_) rfl (by kernel_rfl) (by kernel_rfl) (by kernel_rfl) (fun _ _ _ h => h) (Or.inl ⟨by rfl, ?_⟩) hHeld ?_
        rotate_left
        · (intro W hSw; (try dsimp only at hSw); go_simp; all_goals (with_reducible rfl))
        simp only [List.getElem_toArray, List.getElem_cons_zero, List.getElem_cons_succ, Act.put, List.setIfInBounds_toArray, List.set_cons_zero, List.set_cons_succ]
        refine wpAnyH_ready (rs := [17]) (by kernel_rfl) (by simp) ?_
        refine AllReadyH.cons rfl (fun K hK => ?_) AllReadyH.nil
        simp only [List.getElem_toArray, List.getElem_cons_zero, List.getElem_cons_succ]
        go_simp
        refine (wabs_any sr ar lr kr _).mono ?_
        rintro e x19 ⟨rfl, hb⟩
        replace Vx := Va.after hb Vx
        replace Vy := Va.after hb Vy
        replace Vr := Va.after hb Vr
        replace Vb := Va.after hb Vb
        replace hx := It.after hb hx
        replace hy := It.after hb hy
        replace hr := It.after hb hr
        replace hk := It.after hb hk
        replace B0 := step B0 hb
        clear hb
        try go_wp2_with fail
        refine hK.out _ _ ⟨Vx.c0, Vx.c1, Vy.c0, Vy.c1, Vr.c0, Vr.c1, Vb.c0, Vb.c1⟩ (fun hHeld => ?_)
        clear hK K
        refine wpAnyH_ready (rs := [19]) (by kernel_rfl) (by simp) ?_
        refine AllReadyH.cons rfl (fun K hK => ?_) AllReadyH.nil
        simp only [List.getElem_toArray, List.getElem_cons_zero, List.getElem_cons_succ]
        go_simp
        refine (wabs_any sy ay ly ky _).mono ?_
        rintro e x20 ⟨rfl, hb⟩
        replace Vx := Va.after hb Vx
        replace Vy := Va.after hb Vy
        replace Vr := Va.after hb Vr
        replace Vb := Va.after hb Vb
        replace hx := It.after hb hx
        replace hy := It.after hb hy
        replace hr := It.after hb hr
        replace hk := It.after hb hk
        replace B0 := step B0 hb
        clear hb
        try go_wp2_with fail
        refine hK.out _ _ ⟨Vx.c0, Vx.c1, Vy.c0, Vy.c1, Vr.c0, Vr.c1, Vb.c0, Vb.c1⟩ (fun hHeld => ?_)
        clear hK K
        refine wpAnyH_ready (rs := [20]) (by kernel_rfl) (by simp) ?_
        refine AllReadyH.cons rfl (fun K hK => ?_) AllReadyH.nil
        simp only [List.getElem_toArray, List.getElem_cons_zero, List.getElem_cons_succ]
        go_simp
        refine (ncompare_any ar ay lr kr ly ky zr zy _ hr.1 hy.1).mono ?_
        rintro e x21 ⟨rfl, hb⟩
        replace Vx := Va.after hb Vx
        replace Vy := Va.after hb Vy
        replace Vr := Va.after hb Vr
        replace Vb := Va.after hb Vb
        replace hx := It.after hb hx
        replace hy := It.after hb hy
        replace hr := It.after hb hr
        replace hk := It.after hb hk
        replace B0 := step B0 hb
        clear hb
        rw [cmp3_lt HC.out]
        try go_wp2_with fail
        refine hK.out _ _ ⟨Vx.c0, Vx.c1, Vy.c0, Vy.c1, Vr.c0, Vr.c1, Vb.c0, Vb.c1⟩ (fun hHeld => ?_)
        clear hK K
        refine wpAnyH_take (i := 21) (v := ?_) rfl (by kernel_rfl) (by kernel_rfl) (by kernel_rfl) (fun _ _ _ h => h) (Or.inl ⟨by rfl, ?_⟩) hHeld ?_
        rotate_left
        · (intro W hSw; (try dsimp only at hSw); go_simp; all_goals (with_reducible rfl))
        simp only [List.getElem_toArray, List.getElem_cons_zero, List.getElem_cons_succ, Act.put, List.setIfInBounds_toArray, List.set_cons_zero, List.set_cons_succ]
        refine wpAnyH_take (i := 22) (v := ?_) rfl (by kernel_rfl) (by kernel_rfl) (by kernel_rfl) (fun _ _ _ h => h) (Or.inl ⟨by rfl, ?_⟩) hHeld ?_
        rotate_left
        · (intro W hSw; (try dsimp only at hSw); go_simp; all_goals (with_reducible rfl))
        simp only [List.getElem_toArray, List.getElem_cons_zero, List.getElem_cons_succ, Act.put, List.setIfInBounds_toArray, List.set_cons_zero, List.set_cons_succ]
        refine wpAnyH_take (i := 23) (v := ?_) rfl (by kernel_rfl) (by kernel_rfl) (by kernel_rfl) (fun _ _ _ h => h) (Or.inl ⟨by rfl, ?_⟩) hHeld ?_
        rotate_left
        · (intro W hSw; (try dsimp only at hSw); go_simp; all_goals (with_reducible rfl))
        simp only [List.getElem_toArray, List.getElem_cons_zero, List.getElem_cons_succ, Act.put, List.setIfInBounds_toArray, List.set_cons_zero, List.set_cons_succ]
        refine wpAnyH_take (i := 24) (v := ?_) rfl (by kernel_rfl) (by kernel_rfl) (by kernel_rfl) (fun _ _ _ h => h) (Or.inl ⟨by rfl, ?_⟩) hHeld ?_
        rotate_left
        · (intro W hSw; (try dsimp only at hSw); go_simp; all_goals (with_reducible rfl))
        simp only [List.getElem_toArray, List.getElem_cons_zero, List.getElem_cons_succ, Act.put, List.setIfInBounds_toArray, List.set_cons_zero, List.set_cons_succ]
        refine wpAnyH_take (i := 26) (v := ?_) rfl (by kernel_rfl) (by kernel_rfl) (by kernel_rfl) (fun _ _ _ h => h) (Or.inl ⟨by rfl, ?_⟩) hHeld ?_
        rotate_left
        · (intro W hSw; (try dsimp only at hSw); go_simp; all_goals (with_reducible rfl))
        simp only [List.getElem_toArray, List.getElem_cons_zero, List.getElem_cons_succ, Act.put, List.setIfInBounds_toArray, List.set_cons_zero, List.set_cons_succ]
        refine wpAnyH_ready (rs := [25]) (by kernel_rfl) (by simp) ?_
        refine AllReadyH.cons rfl (fun K hK => ?_) AllReadyH.nil
        simp only [List.getElem_toArray, List.getElem_cons_zero, List.getElem_cons_succ]
        go_simp
        refine (wsign_any sr ar lr kr zr _ hr).mono ?_
        rintro e x22 ⟨rfl, hb⟩
        replace Vx := Va.after hb Vx
        replace Vy := Va.after hb Vy
        replace Vr := Va.after hb Vr
        replace Vb := Va.after hb Vb
        replace hx := It.after hb hx
        replace hy := It.after hb hy
        replace hr := It.after hb hr
        replace hk := It.after hb hk
        replace B0 := step B0 hb
        clear hb
        rw [HSR.out]
        try go_wp2_with fail
        refine hK.out _ _ ⟨Vx.c0, Vx.c1, Vy.c0, Vy.c1, Vr.c0, Vr.c1, Vb.c0, Vb.c1⟩ (fun hHeld => ?_)
        clear hK K
        refine wpAnyH_ready (rs := [27]) (by kernel_rfl) (by simp) ?_
        refine AllReadyH.cons rfl (fun K hK => ?_) AllReadyH.nil
        simp only [List.getElem_toArray, List.getElem_cons_zero, List.getElem_cons_succ]
        go_simp
        refine (wsign_any sy ay ly ky zy _ hy).mono ?_
        rintro e x23 ⟨rfl, hb⟩
        replace Vx := Va.after hb Vx
        replace Vy := Va.after hb Vy
        replace Vr := Va.after hb Vr
        replace Vb := Va.after hb Vb
        replace hx := It.after hb hx
        replace hy := It.after hb hy
        replace hr := It.after hb hr
        replace hk := It.after hb hk
        replace B0 := step B0 hb
        clear hb
        rw [HSG.out]
        try go_wp2_with fail
        refine hK.out _ _ ⟨Vx.c0, Vx.c1, Vy.c0, Vy.c1, Vr.c0, Vr.c1, Vb.c0, Vb.c1⟩ (fun hHeld => ?_)
        clear hK K
        refine wpAnyH_take (i := 28) (v := ?_) rfl (by kernel_rfl) (by kernel_rfl) (by kernel_rfl) (fun _ _ _ h => h) (Or.inl ⟨by rfl, ?_⟩) hHeld ?_
        rotate_left
        · (intro W hSw; (try dsimp only at hSw); go_simp; all_goals (with_reducible rfl))
        simp only [List.getElem_toArray, List.getElem_cons_zero, List.getElem_cons_succ, Act.put, List.setIfInBounds_toArray, List.set_cons_zero, List.set_cons_succ]
        refine wpAnyH_take (i := 29) (v := ?_) rfl (by kernel_rfl) (by kernel_rfl) (by kernel_rfl) (fun _ _ _ h => h) (Or.inl ⟨by rfl, ?_⟩) hHeld ?_
        rotate_left
        · (intro W hSw; (try dsimp only at hSw); go_simp; all_goals (with_reducible rfl))
        simp only [List.getElem_toArray, List.getElem_cons_zero, List.getElem_cons_succ, Act.put, List.setIfInBounds_toArray, List.set_cons_zero, List.set_cons_succ]
        refine wpAnyH_take (i := 30) (v := ?_) rfl (by kernel_rfl) (by kernel_rfl) (by kernel_rfl) (fun _ _ _ h => h) (Or.inl ⟨by rfl, ?_⟩) hHeld ?_
        rotate_left
        · (intro W hSw; (try dsimp only at hSw); go_simp; all_goals (with_reducible rfl))
        simp only [List.getElem_toArray, List.getElem_cons_zero, List.getElem_cons_succ, Act.put, List.setIfInBounds_toArray, List.set_cons_zero, List.set_cons_succ]
        refine wpAnyH_done (by kernel_rfl) ?_ _
        refine NoPanic.normal ?_
        clear hHeld
        go_wp2_with fail
        go_ret
        exact ⟨rfl, B0⟩
end Go.Proofs.Ytkfpblonjinfmaa
