/-
  The walk of NumeralCuts: each call by its contract.
-/
import Derived.Test.YtjpghkpdgiiabaaDoorNBoundsW
import Derived.Test.YtjpghkpdgiiabaaDoorBsO
import Derived.Test.YtjpghkpdgiiabaaDoorBsN
namespace Go.Proofs.YtjpghkpdgiiabaaDoor
open Go.RowKit Go.Shelf
set_option linter.unusedVariables false

theorem pw_nat (n : Nat) : pw n = ((2 ^ (64 * n) : Nat) : Int) := by rw [pw_eq, Int.natCast_pow]; rfl
theorem ten_lt' {k n : Nat} (hk : 4 * k < 64 * n) : (10 : Int) ^ k < pw n := by
  have h1 : (10 : Nat) ^ k ≤ 16 ^ k := Nat.pow_le_pow_left (by omega) k
  have h2 : (16 : Nat) ^ k = 2 ^ (4 * k) := by rw [Nat.pow_mul]
  have h3 : (2 : Nat) ^ (4 * k) < 2 ^ (64 * n) := Nat.pow_lt_pow_right (by omega) hk
  have e : (10 : Int) ^ k = ((10 ^ k : Nat) : Int) := by rw [Int.natCast_pow]; rfl
  rw [e, pw_nat]
  rw [h2] at h1
  exact Int.ofNat_lt.2 (Nat.lt_of_le_of_lt h1 h3)
theorem ten_lt {k : Nat} (hk : k ≤ 2000) : (10 : Int) ^ k < pw 200 := ten_lt' (by omega)
theorem pw_mul (m n : Nat) : pw m * pw n = pw (m + n) := by rw [pw_eq, pw_eq, pw_eq, ← Int.pow_add, Nat.mul_add]
theorem mul_lt {x y p q : Int} (h1 : x < p) (h2 : y < q) (h3 : 0 ≤ x) (h4 : 0 < y) : x * y < p * q := by
  have g1 := Int.mul_lt_mul_of_pos_right h1 h4
  have g2 := Int.mul_le_mul_of_nonneg_left (Int.le_of_lt h2) (show 0 ≤ p by omega)
  omega
theorem ten_pos (k : Nat) : (0 : Int) < 10 ^ k := Int.pow_pos (by omega)
theorem results_cct' {fn : Func} {i j k b c : Nat} {v u : Value} {tmps : Array Value} {w : World} (h : fn.results = #[.cell i 26, .cell j 26, .tmp k]) (hi : tmps.getD i undef = .pointer (some ⟨b, 0, none⟩)) (hv : Va w b 26 #[v]) (hj : tmps.getD j undef = .pointer (some ⟨c, 0, none⟩)) (hu : Va w c 26 #[u]) :
    (results fn tmps).run Tryd.prog w = .ok (.tuple #[.agg #[v], .agg #[u], tmps.getD k undef]) w := by
  have c := hv.cell; have d := hu.cell
  rw [Array.getD_eq_getD_getElem?] at hi hj
  simp [results, h, hi, hj, c, d, go_sem]
set_option maxHeartbeats 4000000 in
theorem ten_fit (k : Nat) (hk : k ≤ 2000) (w : World) : Calls Tryd.prog 18 #[.int .i64 k] w fun e w' => ∃ a l c zs, e = .returned (.tuple #[.agg #[.slice a l c], .int .i64 0]) ∧ Nt w' a l c zs ∧ num zs = 10 ^ k ∧ Below w.heap.size w w' := by
  have B0 : Below w.heap.size w w := Below.refl _ _
  go_enter Tryd.func18, Tryd.ntmps18
  go_wp2_with fail
  refine ent1 w _ _ (Q := fun W => Calls Tryd.prog _ _ W _) ?_
  intro x1 hb hs_x1 V0
  replace B0 := step B0 hb
  clear hb hs_x1
  refine (small_any 10 ⟨by omega, by omega⟩ _).mono ?_
  rintro e x2 ⟨a1, l1, c1, z1, rfl, h1, e1, hb⟩
  replace V0 := Va.after hb V0
  replace B0 := step B0 hb
  clear hb
  have c_V0 := V0.cell
  have f0_V0 := V0.frozen 0
  have l_V0 := V0.lt
  have m_V0 := Nat.le_of_lt l_V0
  go_wp2_with fail
  refine (pow_fits a1 l1 c1 z1 k _ h1 (by omega) (by rw [e1]; exact Int.lt_of_lt_of_le (ten_lt hk) (pw_mono (by omega)))).mono ?_
  rintro e x3 ⟨a2, l2, c2, z2, rfl, h2, e2, hb⟩
  replace V0 := Va.after hb V0
  replace h1 := Nt.after hb h1
  replace B0 := step B0 hb
  clear hb
  rw [e1] at e2
  have E2 : Hid (num z2 = 10 ^ k) := e2
  clear e2 e1
  clear c_V0 f0_V0 l_V0 m_V0
  have c_V0 := V0.cell
  have f0_V0 := V0.frozen 0
  have l_V0 := V0.lt
  have m_V0 := Nat.le_of_lt l_V0
  go_wp2_with fail
  refine bodyPost_ret (results_ct rfl rfl (V0.set _)) rfl ?_
  exact ⟨a2, l2, c2, z2, rfl, h2.store V0 _, E2.out, B0.setCell (p := ⟨w.heap.size, 0, none⟩) (Nat.le_refl _) _⟩

set_option maxHeartbeats 4000000 in
theorem scale_fit (a : Option Addr) (l c : Nat) (xs : List Int) (k : Nat) (hk : k ≤ 2000) (w : World) (h : Nt w a l c xs) (hf : num xs * 10 ^ k < pw 4096) : Calls Tryd.prog 19 #[.agg #[.slice a l c], .int .i64 k] w fun e w' => ∃ a' l' c' zs, e = .returned (.tuple #[.agg #[.slice a' l' c'], .int .i64 0]) ∧ Nt w' a' l' c' zs ∧ num zs = num xs * 10 ^ k ∧ Below w.heap.size w w' := by
  have HF : Hid (num xs * 10 ^ k < pw 4096) := hf
  clear hf
  have B0 : Below w.heap.size w w := Below.refl _ _
  go_enter Tryd.func19, Tryd.ntmps19
  go_wp2_with fail
  refine ent2 w _ _ _ _ (Q := fun W => Calls Tryd.prog _ _ W _) ?_
  intro x1 hb hs_x1 V0 V1
  replace h := Nt.after hb h
  replace B0 := step B0 hb
  clear hb hs_x1
  refine (ten_fit k hk _).mono ?_
  rintro e x2 ⟨a1, l1, c1, z1, rfl, h1, e1, hb⟩
  replace V0 := Va.after hb V0
  replace V1 := Va.after hb V1
  replace h := Nt.after hb h
  replace B0 := step B0 hb
  clear hb
  have E1 : Hid (num z1 = 10 ^ k) := e1
  clear e1
  have c_V0 := V0.cell
  have f0_V0 := V0.frozen 0
  have l_V0 := V0.lt
  have m_V0 := Nat.le_of_lt l_V0
  have c_V1 := V1.cell
  have f0_V1 := V1.frozen 0
  have l_V1 := V1.lt
  have m_V1 := Nat.le_of_lt l_V1
  go_wp2_with fail
  refine ent1 x2 _ _ (Q := fun W => Calls Tryd.prog _ _ W _) ?_
  intro x3 hb hs_x3 V2
  replace V0 := Va.after hb V0
  replace V1 := Va.after hb V1
  replace h := Nt.after hb h
  replace h1 := Nt.after hb h1
  replace B0 := step B0 hb
  clear hb hs_x3
  refine (nmul_ok a a1 l c l1 c1 xs z1 _ h h1 (by rw [E1.out]; exact HF.out)).mono ?_
  rintro e x4 ⟨a2, l2, c2, z2, rfl, h2, e2, hb⟩
  replace V0 := Va.after hb V0
  replace V1 := Va.after hb V1
  replace V2 := Va.after hb V2
  replace h := Nt.after hb h
  replace h1 := Nt.after hb h1
  replace B0 := step B0 hb
  clear hb
  have E2 : Hid (num z2 = num xs * 10 ^ k) := by show _ = _; rw [e2, E1.out]
  clear e2 HF E1
  clear c_V0 f0_V0 l_V0 m_V0 c_V1 f0_V1 l_V1 m_V1
  have c_V1 := V1.cell
  have f0_V1 := V1.frozen 0
  have l_V1 := V1.lt
  have m_V1 := Nat.le_of_lt l_V1
  go_wp2_with fail
  refine bodyPost_ret (results_ct rfl rfl (V1.set _)) rfl ?_
  exact ⟨a2, l2, c2, z2, rfl, h2.store V1 _, E2.out, B0.setCell (p := ⟨w.heap.size + 1, 0, none⟩) (show w.heap.size ≤ w.heap.size + 1 by omega) _⟩

set_option maxHeartbeats 4000000 in
theorem cut_fit (a : Option Addr) (l c : Nat) (xs : List Int) (k : Nat) (hk : k ≤ 2000) (w : World) (h : Nt w a l c xs) : Calls Tryd.prog 17 #[.agg #[.slice a l c], .int .i64 k] w fun e w' => ∃ a1 l1 c1 qs a2 l2 c2 rs, e = .returned (.tuple #[.agg #[.slice a1 l1 c1], .agg #[.slice a2 l2 c2], .int .i64 0]) ∧ Nt w' a1 l1 c1 qs ∧ Nt w' a2 l2 c2 rs ∧ Hid (num xs = num qs * 10 ^ k + num rs ∧ num rs < 10 ^ k) ∧ Below w.heap.size w w' := by
  have B0 : Below w.heap.size w w := Below.refl _ _
  go_enter Tryd.func17, Tryd.ntmps17
  go_wp2_with fail
  refine ent3 w _ _ _ _ _ _ (Q := fun W => Calls Tryd.prog _ _ W _) ?_
  intro x1 hb hs_x1 V0 V1 V2
  replace h := Nt.after hb h
  replace B0 := step B0 hb
  clear hb hs_x1
  refine (ten_fit k hk _).mono ?_
  rintro e x2 ⟨a1, l1, c1, z1, rfl, h1, e1, hb⟩
  replace V0 := Va.after hb V0
  replace V1 := Va.after hb V1
  replace V2 := Va.after hb V2
  replace h := Nt.after hb h
  replace B0 := step B0 hb
  clear hb
  have E1 : Hid (num z1 = 10 ^ k) := e1
  clear e1
  have c_V0 := V0.cell
  have f0_V0 := V0.frozen 0
  have l_V0 := V0.lt
  have m_V0 := Nat.le_of_lt l_V0
  have c_V1 := V1.cell
  have f0_V1 := V1.frozen 0
  have l_V1 := V1.lt
  have m_V1 := Nat.le_of_lt l_V1
  have c_V2 := V2.cell
  have f0_V2 := V2.frozen 0
  have l_V2 := V2.lt
  have m_V2 := Nat.le_of_lt l_V2
  go_wp2_with fail
  refine ent1 x2 _ _ (Q := fun W => Calls Tryd.prog _ _ W _) ?_
  intro x3 hb hs_x3 V3
  replace V0 := Va.after hb V0
  replace V1 := Va.after hb V1
  replace V2 := Va.after hb V2
  replace h := Nt.after hb h
  replace h1 := Nt.after hb h1
  replace B0 := step B0 hb
  clear hb hs_x3
  refine (ndiv_ok a a1 l c l1 c1 xs z1 _ h h1 (by rw [E1.out]; have := ten_pos k; omega)).mono ?_
  rintro e x4 ⟨a2, l2, c2, a3, l3, c3, qs, rs, rfl, h2, h3, e2, e3, hb⟩
  replace V0 := Va.after hb V0
  replace V1 := Va.after hb V1
  replace V2 := Va.after hb V2
  replace V3 := Va.after hb V3
  replace h := Nt.after hb h
  replace h1 := Nt.after hb h1
  replace B0 := step B0 hb
  clear hb
  have E2 : Hid (num xs = num qs * 10 ^ k + num rs ∧ num rs < 10 ^ k) := by show _ ∧ _; rw [← E1.out]; exact ⟨e2, e3⟩
  clear e2 e3 E1
  clear c_V0 f0_V0 l_V0 m_V0 c_V1 f0_V1 l_V1 m_V1 c_V2 f0_V2 l_V2 m_V2
  have c_V1 := V1.cell
  have f0_V1 := V1.frozen 0
  have l_V1 := V1.lt
  have m_V1 := Nat.le_of_lt l_V1
  have c_V2 := V2.cell
  have f0_V2 := V2.frozen 0
  have l_V2 := V2.lt
  have m_V2 := Nat.le_of_lt l_V2
  go_wp2_with fail
  have u1 := (V1.set (.slice a2 l2 c2)).other (p := ⟨w.heap.size + 1 + 1, 0, none⟩) (show w.heap.size + 1 ≠ w.heap.size + 1 + 1 by omega) (.slice a3 l3 c3)
  have u2 := (V2.other (p := ⟨w.heap.size + 1, 0, none⟩) (show w.heap.size + 1 + 1 ≠ w.heap.size + 1 by omega) (.slice a2 l2 c2)).set (.slice a3 l3 c3)
  have b1 := (B0.setCell (p := ⟨w.heap.size + 1, 0, none⟩) (show w.heap.size ≤ w.heap.size + 1 by omega) (.slice a2 l2 c2)).setCell (p := ⟨w.heap.size + 1 + 1, 0, none⟩) (show w.heap.size ≤ w.heap.size + 1 + 1 by omega) (.slice a3 l3 c3)
  have far : ∀ {a l c zs}, Nt x4 a l c zs → Nt ((x4.setCell ⟨w.heap.size + 1, 0, none⟩ (.slice a2 l2 c2)).setCell ⟨w.heap.size + 1 + 1, 0, none⟩ (.slice a3 l3 c3)) a l c zs := fun h => (h.store V1 _).store (V2.other (p := ⟨w.heap.size + 1, 0, none⟩) (show w.heap.size + 1 + 1 ≠ w.heap.size + 1 by omega) _) _
  refine bodyPost_ret (results_cct' rfl rfl u1 rfl u2) rfl ?_
  exact ⟨a2, l2, c2, qs, a3, l3, c3, rs, rfl, far h2, far h3, E2, b1⟩

theorem cut_same {n q r T : Int} (hT : 0 < T) (h0 : 0 ≤ r) (h1 : r < T) (h : n * T = q * T + r) : q = n ∧ r = 0 := by
  have h2 : (n - q) * T = r := by rw [Int.sub_mul]; omega
  have h3 : n - q = 0 := by
    rcases Int.lt_trichotomy (n - q) 0 with h | h | h
    · have := Int.mul_neg_of_neg_of_pos h hT; omega
    · exact h
    · have := Int.mul_le_mul_of_nonneg_right (show 1 ≤ n - q by omega) (Int.le_of_lt hT); omega
  rw [h3, Int.zero_mul] at h2
  omega
set_option maxHeartbeats 16000000 in
set_option maxRecDepth 20000 in
theorem ncuts_core (a0 : Option Addr) (len0 len cap0 : Nat) (z0 : List Int) (b0 : Int) (w : World) (h0 : Sl w a0 len0 z0) (hl0 : len0 ≤ 500) (hle : (len ≤ 500 ∧ len0 = len) ∨ (500 < len ∧ len0 = 500)) (c0 : len ≤ cap0) (e0 : a0 = none → len = 0 ∧ cap0 = 0) (hT : Tb w) (hlb : len ≤ 17592186044416) :
    Calls Tryd.prog 6 #[.slice a0 len cap0, .int .i64 b0] w fun e w' => e = .returned (.bool true) ∧ Below w.heap.size w w' := by
  have B0 : Below w.heap.size w w := Below.refl _ _
  have HT : Hid (Tb w) := hT
  clear hT
  have hz64 : z0.length ≤ 500 := by have := h0.1; omega
  have HU : Hid (usedN z0 ≤ 500 ∧ num z0 < pw 500) := ⟨Nat.le_trans (usedN_le z0) hz64, Int.lt_of_lt_of_le (num_lt h0.2.1) (pw_mono hz64)⟩
  go_enter Tryd.func6, Tryd.ntmps6
  go_wp2_with fail
  refine (awake3 _ (HT.out.to B0)).mono ?_
  rintro e x1 ⟨rfl, hb⟩
  replace B0 := step B0 hb
  clear hb
  have hnum : ∀ W, Below w.heap.size w W → Calls Tryd.prog 11 #[.slice a0 len0 cap0] W fun e w' => ∃ a' l' c' zs', e = .returned (.tuple #[.agg #[.slice a' l' c'], .bool true]) ∧ Nt w' a' l' c' zs' ∧ num zs' = num z0 ∧ Below W.heap.size W w' := fun W hb => number_val a0 len0 cap0 z0 W (h0.below hb (Nat.le_refl _)) (by omega) (by omega) (fun h => by have := e0 h; omega) (Nat.le_trans HU.out.1 (by omega))
  have HNUM : Hid _ := hnum
  clear hnum h0 hz64
  rcases hle with ⟨hl1, rfl⟩ | ⟨hl1, rfl⟩
  ·
    have hi : ¬ (500 : Int) < len0 := by omega
    go_wp2_with fail
    refine (HNUM.out _ B0).mono ?_
    rintro e x2 ⟨a1, l1, c1, z1, rfl, h1, e1, hb⟩
    replace B0 := step B0 hb
    clear hb
    have E1 : Hid (∀ n, n = 500 → num z1 < pw n) := fun n hn => by rw [hn, e1]; exact HU.out.2
    clear e1 HNUM HU
    by_cases hb : b0 < 0 ∨ 2000 < b0
    · rcases hb with hb | hb
      · 
        go_wp2_with fail
        go_ret
        exact ⟨rfl, B0.alloc B0.size _⟩
      · have hb1 : ¬ b0 < 0 := by omega
        go_wp2_with fail
        go_ret
        exact ⟨rfl, B0.alloc B0.size _⟩
    obtain ⟨b, rfl⟩ : ∃ b : Nat, b0 = b := ⟨b0.toNat, by omega⟩
    have hb2 : b ≤ 2000 := by omega
    clear hb
    have FIT : Hid (∀ n, n = 4096 → num z1 * 10 ^ b < pw n) := fun n hn => by
      have g1 := E1.out 500 rfl
      have g2 := ten_lt hb2
      have g3 := h1.nonneg
      have g4 := ten_pos b
      have g5 : num z1 * 10 ^ b < pw 500 * pw 200 := mul_lt g1 g2 g3 g4
      rw [pw_mul] at g5
      rw [hn]; exact Int.lt_of_lt_of_le g5 (pw_mono (by omega))
    clear E1
    go_wp2_with fail
    refine ent1 x2 _ _ (Q := fun W => Calls Tryd.prog _ _ W _) ?_
    intro x3 hb hs_x3 V1
    replace h1 := Nt.after hb h1
    replace B0 := step B0 hb
    clear hb hs_x3
    refine (cut_fit a1 l1 c1 z1 b hb2 _ h1).mono ?_
    rintro e x4 ⟨aq, lq, cq, zq, ar, lr, cr, zr, rfl, hq, hr, EC, hb⟩
    replace V1 := Va.after hb V1
    replace h1 := Nt.after hb h1
    replace B0 := step B0 hb
    clear hb
    have c_V1 := V1.cell
    have f0_V1 := V1.frozen 0
    have l_V1 := V1.lt
    have m_V1 := Nat.le_of_lt l_V1
    go_wp2_with fail
    refine ent2 x4 _ _ _ _ (Q := fun W => Calls Tryd.prog _ _ W _) ?_
    intro x5 hb hs_x5 Vq Vr
    replace V1 := Va.after hb V1
    replace h1 := Nt.after hb h1
    replace hq := Nt.after hb hq
    replace hr := Nt.after hb hr
    replace B0 := step B0 hb
    clear hb hs_x5
    refine (ten_fit b hb2 _).mono ?_
    rintro e x6 ⟨ap, lp, cp, zp, rfl, hp, ep, hb⟩
    replace V1 := Va.after hb V1
    replace Vq := Va.after hb Vq
    replace Vr := Va.after hb Vr
    replace h1 := Nt.after hb h1
    replace hq := Nt.after hb hq
    replace hr := Nt.after hb hr
    replace B0 := step B0 hb
    clear hb
    have EP : Hid (num zp = 10 ^ b) := ep
    clear ep
    clear c_V1 f0_V1 l_V1 m_V1
    have c_V1 := V1.cell
    have f0_V1 := V1.frozen 0
    have l_V1 := V1.lt
    have m_V1 := Nat.le_of_lt l_V1
    have c_Vq := Vq.cell
    have f0_Vq := Vq.frozen 0
    have l_Vq := Vq.lt
    have m_Vq := Nat.le_of_lt l_Vq
    have c_Vr := Vr.cell
    have f0_Vr := Vr.frozen 0
    have l_Vr := Vr.lt
    have m_Vr := Nat.le_of_lt l_Vr
    go_wp2_with fail
    refine ent1 x6 _ _ (Q := fun W => Calls Tryd.prog _ _ W _) ?_
    intro x7 hb hs_x7 Vp
    replace V1 := Va.after hb V1
    replace Vq := Va.after hb Vq
    replace Vr := Va.after hb Vr
    replace h1 := Nt.after hb h1
    replace hq := Nt.after hb hq
    replace hr := Nt.after hb hr
    replace hp := Nt.after hb hp
    replace B0 := step B0 hb
    clear hb hs_x7
    refine (scale_fit aq lq cq zq b hb2 _ hq (by have := FIT.out 4096 rfl; have h3 := h1.lt; have h4 := hr.nonneg; have h5 := EC.out.1; generalize pw 4096 = P at *; omega)).mono ?_
    rintro e x8 ⟨as', ls, cs, zs, rfl, hs, es, hb⟩
    replace V1 := Va.after hb V1
    replace Vq := Va.after hb Vq
    replace Vr := Va.after hb Vr
    replace Vp := Va.after hb Vp
    replace h1 := Nt.after hb h1
    replace hq := Nt.after hb hq
    replace hr := Nt.after hb hr
    replace hp := Nt.after hb hp
    replace B0 := step B0 hb
    clear hb
    have ES : Hid (num zs = num zq * 10 ^ b) := es
    clear es
    clear c_V1 f0_V1 l_V1 m_V1 c_Vq f0_Vq l_Vq m_Vq c_Vr f0_Vr l_Vr m_Vr
    have c_V1 := V1.cell
    have f0_V1 := V1.frozen 0
    have l_V1 := V1.lt
    have m_V1 := Nat.le_of_lt l_V1
    have c_Vq := Vq.cell
    have f0_Vq := Vq.frozen 0
    have l_Vq := Vq.lt
    have m_Vq := Nat.le_of_lt l_Vq
    have c_Vr := Vr.cell
    have f0_Vr := Vr.frozen 0
    have l_Vr := Vr.lt
    have m_Vr := Nat.le_of_lt l_Vr
    have c_Vp := Vp.cell
    have f0_Vp := Vp.frozen 0
    have l_Vp := Vp.lt
    have m_Vp := Nat.le_of_lt l_Vp
    go_wp2_with fail
    refine ent1 x8 _ _ (Q := fun W => Calls Tryd.prog _ _ W _) ?_
    intro x9 hb hs_x9 Vs
    replace V1 := Va.after hb V1
    replace Vq := Va.after hb Vq
    replace Vr := Va.after hb Vr
    replace Vp := Va.after hb Vp
    replace h1 := Nt.after hb h1
    replace hq := Nt.after hb hq
    replace hr := Nt.after hb hr
    replace hp := Nt.after hb hp
    replace hs := Nt.after hb hs
    replace B0 := step B0 hb
    clear hb hs_x9
    have hcm := ncompare_any ar ap lr cr lp cp zr zp x9 hr hp
    rw [show cmp3 (num zr) (num zp) = -1 by unfold cmp3; rw [if_pos (by rw [EP.out]; exact EC.out.2)]] at hcm
    refine (hcm).mono ?_
    rintro e x10 ⟨rfl, hb⟩
    replace V1 := Va.after hb V1
    replace Vq := Va.after hb Vq
    replace Vr := Va.after hb Vr
    replace Vp := Va.after hb Vp
    replace Vs := Va.after hb Vs
    replace h1 := Nt.after hb h1
    replace hq := Nt.after hb hq
    replace hr := Nt.after hb hr
    replace hp := Nt.after hb hp
    replace hs := Nt.after hb hs
    replace B0 := step B0 hb
    clear hb
    clear c_V1 f0_V1 l_V1 m_V1 c_Vq f0_Vq l_Vq m_Vq c_Vr f0_Vr l_Vr m_Vr c_Vp f0_Vp l_Vp m_Vp
    have c_V1 := V1.cell
    have f0_V1 := V1.frozen 0
    have l_V1 := V1.lt
    have m_V1 := Nat.le_of_lt l_V1
    have c_Vr := Vr.cell
    have f0_Vr := Vr.frozen 0
    have l_Vr := Vr.lt
    have m_Vr := Nat.le_of_lt l_Vr
    have c_Vs := Vs.cell
    have f0_Vs := Vs.frozen 0
    have l_Vs := Vs.lt
    have m_Vs := Nat.le_of_lt l_Vs
    go_wp2_with fail
    clear Vp hp Vq hq
    clear EP
    refine (nadd_ok as' ar ls cs lr cr zs zr _ hs hr (by rw [ES.out, ← EC.out.1]; exact h1.lt)).mono ?_
    rintro e x11 ⟨at', lt, ct, zt, rfl, ht, et, hb⟩
    replace V1 := Va.after hb V1
    replace Vr := Va.after hb Vr
    replace Vs := Va.after hb Vs
    replace h1 := Nt.after hb h1
    replace hr := Nt.after hb hr
    replace hs := Nt.after hb hs
    replace B0 := step B0 hb
    clear hb
    have ET : Hid (num zt = num z1) := by show _ = _; rw [et, ES.out, ← EC.out.1]
    clear et
    clear c_V1 f0_V1 l_V1 m_V1 c_Vr f0_Vr l_Vr m_Vr c_Vs f0_Vs l_Vs m_Vs
    have c_V1 := V1.cell
    have f0_V1 := V1.frozen 0
    have l_V1 := V1.lt
    have m_V1 := Nat.le_of_lt l_V1
    go_wp2_with fail
    refine ent1 x11 _ _ (Q := fun W => Calls Tryd.prog _ _ W _) ?_
    intro x12 hb hs_x12 Vt
    replace V1 := Va.after hb V1
    replace Vr := Va.after hb Vr
    replace Vs := Va.after hb Vs
    replace h1 := Nt.after hb h1
    replace hr := Nt.after hb hr
    replace hs := Nt.after hb hs
    replace ht := Nt.after hb ht
    replace B0 := step B0 hb
    clear hb hs_x12
    clear Vs hs Vr hr
    clear ES EC
    have hcm := ncompare_any at' a1 lt ct l1 c1 zt z1 x12 ht h1
    rw [ET.out, show cmp3 (num z1) (num z1) = 0 by unfold cmp3; simp] at hcm
    refine (hcm).mono ?_
    rintro e x13 ⟨rfl, hb⟩
    replace V1 := Va.after hb V1
    replace Vt := Va.after hb Vt
    replace h1 := Nt.after hb h1
    replace ht := Nt.after hb ht
    replace B0 := step B0 hb
    clear hb
    clear c_V1 f0_V1 l_V1 m_V1
    have c_V1 := V1.cell
    have f0_V1 := V1.frozen 0
    have l_V1 := V1.lt
    have m_V1 := Nat.le_of_lt l_V1
    go_wp2_with fail
    clear Vt ht
    clear ET
    refine (scale_fit a1 l1 c1 z1 b hb2 _ h1 (FIT.out 4096 rfl)).mono ?_
    rintro e x14 ⟨am, lm, cm, zm, rfl, hm, em, hb⟩
    replace V1 := Va.after hb V1
    replace h1 := Nt.after hb h1
    replace B0 := step B0 hb
    clear hb
    have EM : Hid (num zm = num z1 * 10 ^ b) := em
    clear em
    clear c_V1 f0_V1 l_V1 m_V1
    have c_V1 := V1.cell
    have f0_V1 := V1.frozen 0
    have l_V1 := V1.lt
    have m_V1 := Nat.le_of_lt l_V1
    go_wp2_with fail
    refine ent1 x14 _ _ (Q := fun W => Calls Tryd.prog _ _ W _) ?_
    intro x15 hb hs_x15 Vm
    replace V1 := Va.after hb V1
    replace h1 := Nt.after hb h1
    replace hm := Nt.after hb hm
    replace B0 := step B0 hb
    clear hb hs_x15
    refine (cut_fit am lm cm zm b hb2 _ hm).mono ?_
    rintro e x16 ⟨ax, lx, cx, zx, ay, ly, cy, zy, rfl, hx, hy, EX, hb⟩
    replace V1 := Va.after hb V1
    replace Vm := Va.after hb Vm
    replace h1 := Nt.after hb h1
    replace hm := Nt.after hb hm
    replace B0 := step B0 hb
    clear hb
    obtain ⟨ex, ey⟩ : num zx = num z1 ∧ num zy = 0 := by
      obtain ⟨g1, g2⟩ := EX.out
      rw [EM.out] at g1
      exact cut_same (ten_pos b) hy.nonneg g2 g1
    have EXX : Hid (num zx = num z1) := ex
    have hyz := hy.zero
    rw [ey] at hyz
    clear ex ey EX EM
    clear Vm hm
    clear c_V1 f0_V1 l_V1 m_V1
    have c_V1 := V1.cell
    have f0_V1 := V1.frozen 0
    have l_V1 := V1.lt
    have m_V1 := Nat.le_of_lt l_V1
    go_wp2_with fail
    refine ent2 x16 _ _ _ _ (Q := fun W => Calls Tryd.prog _ _ W _) ?_
    intro x17 hb hs_x17 Vx Vy
    replace V1 := Va.after hb V1
    replace h1 := Nt.after hb h1
    replace hx := Nt.after hb hx
    replace hy := Nt.after hb hy
    replace B0 := step B0 hb
    clear hb hs_x17
    have hcm := ncompare_any ax a1 lx cx l1 c1 zx z1 x17 hx h1
    rw [EXX.out, show cmp3 (num z1) (num z1) = 0 by unfold cmp3; simp] at hcm
    refine (hcm).mono ?_
    rintro e x18 ⟨rfl, hb⟩
    replace V1 := Va.after hb V1
    replace Vx := Va.after hb Vx
    replace Vy := Va.after hb Vy
    replace h1 := Nt.after hb h1
    replace hx := Nt.after hb hx
    replace hy := Nt.after hb hy
    replace B0 := step B0 hb
    clear hb
    clear c_V1 f0_V1 l_V1 m_V1
    have c_Vy := Vy.cell
    have f0_Vy := Vy.frozen 0
    have l_Vy := Vy.lt
    have m_Vy := Nat.le_of_lt l_Vy
    go_wp2_with fail
    have hiz := isZero_any ay ly cy x18
    rw [show ((ly : Int) == 0) = true by rw [hyz]; simp] at hiz
    refine (hiz).mono ?_
    rintro e x19 ⟨rfl, hb⟩
    replace V1 := Va.after hb V1
    replace Vx := Va.after hb Vx
    replace Vy := Va.after hb Vy
    replace h1 := Nt.after hb h1
    replace hx := Nt.after hb hx
    replace hy := Nt.after hb hy
    replace B0 := step B0 hb
    clear hb
    clear c_Vy f0_Vy l_Vy m_Vy
    go_wp2_with fail
    go_ret
    exact ⟨rfl, B0⟩
  ·
    have hi : (500 : Int) < len := by omega
    have hcc : (500 : Int) ≤ cap0 := by omega
    have hsl : a0 ≠ none := fun h => by have := e0 h; omega
    go_wp2_with fail
    refine (HNUM.out _ B0).mono ?_
    rintro e x2 ⟨a1, l1, c1, z1, rfl, h1, e1, hb⟩
    replace B0 := step B0 hb
    clear hb
    have E1 : Hid (∀ n, n = 500 → num z1 < pw n) := fun n hn => by rw [hn, e1]; exact HU.out.2
    clear e1 HNUM HU
    by_cases hb : b0 < 0 ∨ 2000 < b0
    · rcases hb with hb | hb
      · 
        go_wp2_with fail
        go_ret
        exact ⟨rfl, B0.alloc B0.size _⟩
      · have hb1 : ¬ b0 < 0 := by omega
        go_wp2_with fail
        go_ret
        exact ⟨rfl, B0.alloc B0.size _⟩
    obtain ⟨b, rfl⟩ : ∃ b : Nat, b0 = b := ⟨b0.toNat, by omega⟩
    have hb2 : b ≤ 2000 := by omega
    clear hb
    have FIT : Hid (∀ n, n = 4096 → num z1 * 10 ^ b < pw n) := fun n hn => by
      have g1 := E1.out 500 rfl
      have g2 := ten_lt hb2
      have g3 := h1.nonneg
      have g4 := ten_pos b
      have g5 : num z1 * 10 ^ b < pw 500 * pw 200 := mul_lt g1 g2 g3 g4
      rw [pw_mul] at g5
      rw [hn]; exact Int.lt_of_lt_of_le g5 (pw_mono (by omega))
    clear E1
    go_wp2_with fail
    refine ent1 x2 _ _ (Q := fun W => Calls Tryd.prog _ _ W _) ?_
    intro x3 hb hs_x3 V1
    replace h1 := Nt.after hb h1
    replace B0 := step B0 hb
    clear hb hs_x3
    refine (cut_fit a1 l1 c1 z1 b hb2 _ h1).mono ?_
    rintro e x4 ⟨aq, lq, cq, zq, ar, lr, cr, zr, rfl, hq, hr, EC, hb⟩
    replace V1 := Va.after hb V1
    replace h1 := Nt.after hb h1
    replace B0 := step B0 hb
    clear hb
    have c_V1 := V1.cell
    have f0_V1 := V1.frozen 0
    have l_V1 := V1.lt
    have m_V1 := Nat.le_of_lt l_V1
    go_wp2_with fail
    refine ent2 x4 _ _ _ _ (Q := fun W => Calls Tryd.prog _ _ W _) ?_
    intro x5 hb hs_x5 Vq Vr
    replace V1 := Va.after hb V1
    replace h1 := Nt.after hb h1
    replace hq := Nt.after hb hq
    replace hr := Nt.after hb hr
    replace B0 := step B0 hb
    clear hb hs_x5
    refine (ten_fit b hb2 _).mono ?_
    rintro e x6 ⟨ap, lp, cp, zp, rfl, hp, ep, hb⟩
    replace V1 := Va.after hb V1
    replace Vq := Va.after hb Vq
    replace Vr := Va.after hb Vr
    replace h1 := Nt.after hb h1
    replace hq := Nt.after hb hq
    replace hr := Nt.after hb hr
    replace B0 := step B0 hb
    clear hb
    have EP : Hid (num zp = 10 ^ b) := ep
    clear ep
    clear c_V1 f0_V1 l_V1 m_V1
    have c_V1 := V1.cell
    have f0_V1 := V1.frozen 0
    have l_V1 := V1.lt
    have m_V1 := Nat.le_of_lt l_V1
    have c_Vq := Vq.cell
    have f0_Vq := Vq.frozen 0
    have l_Vq := Vq.lt
    have m_Vq := Nat.le_of_lt l_Vq
    have c_Vr := Vr.cell
    have f0_Vr := Vr.frozen 0
    have l_Vr := Vr.lt
    have m_Vr := Nat.le_of_lt l_Vr
    go_wp2_with fail
    refine ent1 x6 _ _ (Q := fun W => Calls Tryd.prog _ _ W _) ?_
    intro x7 hb hs_x7 Vp
    replace V1 := Va.after hb V1
    replace Vq := Va.after hb Vq
    replace Vr := Va.after hb Vr
    replace h1 := Nt.after hb h1
    replace hq := Nt.after hb hq
    replace hr := Nt.after hb hr
    replace hp := Nt.after hb hp
    replace B0 := step B0 hb
    clear hb hs_x7
    refine (scale_fit aq lq cq zq b hb2 _ hq (by have := FIT.out 4096 rfl; have h3 := h1.lt; have h4 := hr.nonneg; have h5 := EC.out.1; generalize pw 4096 = P at *; omega)).mono ?_
    rintro e x8 ⟨as', ls, cs, zs, rfl, hs, es, hb⟩
    replace V1 := Va.after hb V1
    replace Vq := Va.after hb Vq
    replace Vr := Va.after hb Vr
    replace Vp := Va.after hb Vp
    replace h1 := Nt.after hb h1
    replace hq := Nt.after hb hq
    replace hr := Nt.after hb hr
    replace hp := Nt.after hb hp
    replace B0 := step B0 hb
    clear hb
    have ES : Hid (num zs = num zq * 10 ^ b) := es
    clear es
    clear c_V1 f0_V1 l_V1 m_V1 c_Vq f0_Vq l_Vq m_Vq c_Vr f0_Vr l_Vr m_Vr
    have c_V1 := V1.cell
    have f0_V1 := V1.frozen 0
    have l_V1 := V1.lt
    have m_V1 := Nat.le_of_lt l_V1
    have c_Vq := Vq.cell
    have f0_Vq := Vq.frozen 0
    have l_Vq := Vq.lt
    have m_Vq := Nat.le_of_lt l_Vq
    have c_Vr := Vr.cell
    have f0_Vr := Vr.frozen 0
    have l_Vr := Vr.lt
    have m_Vr := Nat.le_of_lt l_Vr
    have c_Vp := Vp.cell
    have f0_Vp := Vp.frozen 0
    have l_Vp := Vp.lt
    have m_Vp := Nat.le_of_lt l_Vp
    go_wp2_with fail
    refine ent1 x8 _ _ (Q := fun W => Calls Tryd.prog _ _ W _) ?_
    intro x9 hb hs_x9 Vs
    replace V1 := Va.after hb V1
    replace Vq := Va.after hb Vq
    replace Vr := Va.after hb Vr
    replace Vp := Va.after hb Vp
    replace h1 := Nt.after hb h1
    replace hq := Nt.after hb hq
    replace hr := Nt.after hb hr
    replace hp := Nt.after hb hp
    replace hs := Nt.after hb hs
    replace B0 := step B0 hb
    clear hb hs_x9
    have hcm := ncompare_any ar ap lr cr lp cp zr zp x9 hr hp
    rw [show cmp3 (num zr) (num zp) = -1 by unfold cmp3; rw [if_pos (by rw [EP.out]; exact EC.out.2)]] at hcm
    refine (hcm).mono ?_
    rintro e x10 ⟨rfl, hb⟩
    replace V1 := Va.after hb V1
    replace Vq := Va.after hb Vq
    replace Vr := Va.after hb Vr
    replace Vp := Va.after hb Vp
    replace Vs := Va.after hb Vs
    replace h1 := Nt.after hb h1
    replace hq := Nt.after hb hq
    replace hr := Nt.after hb hr
    replace hp := Nt.after hb hp
    replace hs := Nt.after hb hs
    replace B0 := step B0 hb
    clear hb
    clear c_V1 f0_V1 l_V1 m_V1 c_Vq f0_Vq l_Vq m_Vq c_Vr f0_Vr l_Vr m_Vr c_Vp f0_Vp l_Vp m_Vp
    have c_V1 := V1.cell
    have f0_V1 := V1.frozen 0
    have l_V1 := V1.lt
    have m_V1 := Nat.le_of_lt l_V1
    have c_Vr := Vr.cell
    have f0_Vr := Vr.frozen 0
    have l_Vr := Vr.lt
    have m_Vr := Nat.le_of_lt l_Vr
    have c_Vs := Vs.cell
    have f0_Vs := Vs.frozen 0
    have l_Vs := Vs.lt
    have m_Vs := Nat.le_of_lt l_Vs
    go_wp2_with fail
    clear Vp hp Vq hq
    clear EP
    refine (nadd_ok as' ar ls cs lr cr zs zr _ hs hr (by rw [ES.out, ← EC.out.1]; exact h1.lt)).mono ?_
    rintro e x11 ⟨at', lt, ct, zt, rfl, ht, et, hb⟩
    replace V1 := Va.after hb V1
    replace Vr := Va.after hb Vr
    replace Vs := Va.after hb Vs
    replace h1 := Nt.after hb h1
    replace hr := Nt.after hb hr
    replace hs := Nt.after hb hs
    replace B0 := step B0 hb
    clear hb
    have ET : Hid (num zt = num z1) := by show _ = _; rw [et, ES.out, ← EC.out.1]
    clear et
    clear c_V1 f0_V1 l_V1 m_V1 c_Vr f0_Vr l_Vr m_Vr c_Vs f0_Vs l_Vs m_Vs
    have c_V1 := V1.cell
    have f0_V1 := V1.frozen 0
    have l_V1 := V1.lt
    have m_V1 := Nat.le_of_lt l_V1
    go_wp2_with fail
    refine ent1 x11 _ _ (Q := fun W => Calls Tryd.prog _ _ W _) ?_
    intro x12 hb hs_x12 Vt
    replace V1 := Va.after hb V1
    replace Vr := Va.after hb Vr
    replace Vs := Va.after hb Vs
    replace h1 := Nt.after hb h1
    replace hr := Nt.after hb hr
    replace hs := Nt.after hb hs
    replace ht := Nt.after hb ht
    replace B0 := step B0 hb
    clear hb hs_x12
    clear Vs hs Vr hr
    clear ES EC
    have hcm := ncompare_any at' a1 lt ct l1 c1 zt z1 x12 ht h1
    rw [ET.out, show cmp3 (num z1) (num z1) = 0 by unfold cmp3; simp] at hcm
    refine (hcm).mono ?_
    rintro e x13 ⟨rfl, hb⟩
    replace V1 := Va.after hb V1
    replace Vt := Va.after hb Vt
    replace h1 := Nt.after hb h1
    replace ht := Nt.after hb ht
    replace B0 := step B0 hb
    clear hb
    clear c_V1 f0_V1 l_V1 m_V1
    have c_V1 := V1.cell
    have f0_V1 := V1.frozen 0
    have l_V1 := V1.lt
    have m_V1 := Nat.le_of_lt l_V1
    go_wp2_with fail
    clear Vt ht
    clear ET
    refine (scale_fit a1 l1 c1 z1 b hb2 _ h1 (FIT.out 4096 rfl)).mono ?_
    rintro e x14 ⟨am, lm, cm, zm, rfl, hm, em, hb⟩
    replace V1 := Va.after hb V1
    replace h1 := Nt.after hb h1
    replace B0 := step B0 hb
    clear hb
    have EM : Hid (num zm = num z1 * 10 ^ b) := em
    clear em
    clear c_V1 f0_V1 l_V1 m_V1
    have c_V1 := V1.cell
    have f0_V1 := V1.frozen 0
    have l_V1 := V1.lt
    have m_V1 := Nat.le_of_lt l_V1
    go_wp2_with fail
    refine ent1 x14 _ _ (Q := fun W => Calls Tryd.prog _ _ W _) ?_
    intro x15 hb hs_x15 Vm
    replace V1 := Va.after hb V1
    replace h1 := Nt.after hb h1
    replace hm := Nt.after hb hm
    replace B0 := step B0 hb
    clear hb hs_x15
    refine (cut_fit am lm cm zm b hb2 _ hm).mono ?_
    rintro e x16 ⟨ax, lx, cx, zx, ay, ly, cy, zy, rfl, hx, hy, EX, hb⟩
    replace V1 := Va.after hb V1
    replace Vm := Va.after hb Vm
    replace h1 := Nt.after hb h1
    replace hm := Nt.after hb hm
    replace B0 := step B0 hb
    clear hb
    obtain ⟨ex, ey⟩ : num zx = num z1 ∧ num zy = 0 := by
      obtain ⟨g1, g2⟩ := EX.out
      rw [EM.out] at g1
      exact cut_same (ten_pos b) hy.nonneg g2 g1
    have EXX : Hid (num zx = num z1) := ex
    have hyz := hy.zero
    rw [ey] at hyz
    clear ex ey EX EM
    clear Vm hm
    clear c_V1 f0_V1 l_V1 m_V1
    have c_V1 := V1.cell
    have f0_V1 := V1.frozen 0
    have l_V1 := V1.lt
    have m_V1 := Nat.le_of_lt l_V1
    go_wp2_with fail
    refine ent2 x16 _ _ _ _ (Q := fun W => Calls Tryd.prog _ _ W _) ?_
    intro x17 hb hs_x17 Vx Vy
    replace V1 := Va.after hb V1
    replace h1 := Nt.after hb h1
    replace hx := Nt.after hb hx
    replace hy := Nt.after hb hy
    replace B0 := step B0 hb
    clear hb hs_x17
    have hcm := ncompare_any ax a1 lx cx l1 c1 zx z1 x17 hx h1
    rw [EXX.out, show cmp3 (num z1) (num z1) = 0 by unfold cmp3; simp] at hcm
    refine (hcm).mono ?_
    rintro e x18 ⟨rfl, hb⟩
    replace V1 := Va.after hb V1
    replace Vx := Va.after hb Vx
    replace Vy := Va.after hb Vy
    replace h1 := Nt.after hb h1
    replace hx := Nt.after hb hx
    replace hy := Nt.after hb hy
    replace B0 := step B0 hb
    clear hb
    clear c_V1 f0_V1 l_V1 m_V1
    have c_Vy := Vy.cell
    have f0_Vy := Vy.frozen 0
    have l_Vy := Vy.lt
    have m_Vy := Nat.le_of_lt l_Vy
    go_wp2_with fail
    have hiz := isZero_any ay ly cy x18
    rw [show ((ly : Int) == 0) = true by rw [hyz]; simp] at hiz
    refine (hiz).mono ?_
    rintro e x19 ⟨rfl, hb⟩
    replace V1 := Va.after hb V1
    replace Vx := Va.after hb Vx
    replace Vy := Va.after hb Vy
    replace h1 := Nt.after hb h1
    replace hx := Nt.after hb hx
    replace hy := Nt.after hb hy
    replace B0 := step B0 hb
    clear hb
    clear c_Vy f0_Vy l_Vy m_Vy
    go_wp2_with fail
    go_ret
    exact ⟨rfl, B0⟩

theorem ncuts_walk (a0 : Option Addr) (len0 cap0 : Nat) (z0 : List Int) (b0 : Int) (w : World) (h0 : Sl w a0 len0 z0) (hl0 : len0 ≤ 17592186044416) (c0 : len0 ≤ cap0) (e0 : a0 = none → len0 = 0 ∧ cap0 = 0) (hT : Tb w) :
    Calls Tryd.prog 6 #[.slice a0 len0 cap0, .int .i64 b0] w fun e w' => e = .returned (.bool true) ∧ Below w.heap.size w w' := by
  by_cases h : len0 ≤ 500
  · exact ncuts_core a0 len0 len0 cap0 z0 b0 w h0 h (.inl ⟨h, rfl⟩) c0 e0 hT hl0
  · exact ncuts_core a0 500 len0 cap0 (z0.take 500) b0 w (h0.take (by omega)) (Nat.le_refl _) (.inr ⟨by omega, rfl⟩) c0 e0 hT hl0
end Go.Proofs.YtjpghkpdgiiabaaDoor
