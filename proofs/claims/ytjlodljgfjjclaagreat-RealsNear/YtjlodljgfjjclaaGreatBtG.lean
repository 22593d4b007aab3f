/-
  Put together of: Rg2, Rg3, Re9.
-/
import Derived.Test.YtjlodljgfjjclaaGreatBtF
import Derived.Test.YtjlodljgfjjclaaGreatBtC
import Derived.Test.YtjlodljgfjjclaaGreatRm9
import Derived.Test.YtjlodljgfjjclaaGreatRe8
namespace Go.Proofs.YtjlodljgfjjclaaGreat
open Go.RowKit Go.Shelf
set_option linter.unusedVariables false

set_option maxHeartbeats 1000000 in
theorem rleft8 (a : Option Addr) (la ca : Nat) (zs : List Int) (t : Nat) (w : World) (h : Sl w a la zs) (hn : a = none → la = 0 ∧ ca = 0) (hl : la ≤ 2000000000000) (hc : la ≤ ca) (h0 : num zs ≠ 0) (hfit : bitsN zs + t ≤ 262144) :
    Calls Tryz.prog 101 #[.slice a la ca, .int .i64 t] w fun e w' => ∃ a' m c ds, e = .returned (.tuple #[.slice a' m c, .bool true]) ∧ Sl w' a' m ds ∧ Hid (usedN ds = m ∧ num ds = num zs * 2 ^ t ∧ m ≤ c ∧ m ≤ 2 * la + 2 * (t + 1)) ∧ Below w.heap.size w w' := by
  have hb := bits_one h.2.1 h0
  have RB := rbits_any a la ca zs w h hn (by omega) hc
  obtain ⟨n, hn'⟩ : ∃ n, bitsN zs = n := ⟨_, rfl⟩
  rw [hn'] at RB hb hfit
  have g1 : (n == 0) = false := by simp; omega
  have g2 : ¬ (262144 : Int) < t := by omega
  have g3 : ¬ (262144 : Int) < n + t := by omega
  have HS : Hid (Sl w a la zs) := h
  clear hn' h
  go_enter Tryz.func101, Tryz.ntmps101
  go_wp2_with fail
  refine RB.mono ?_
  rintro e w1 ⟨rfl, b1⟩
  go_wp2_with fail
  refine (power_any t w1 (by omega)).mono ?_
  rintro e w2 ⟨p, cs, rfl, ho, hL, hcl, hp, hnum, b2⟩
  have HNUM : Hid (num cs = 2 ^ t) := hnum
  have HP : Hid (p ≤ t + 1) := hp
  have sc := ho.sl hL
  rw [hcl] at sc
  clear hnum hcl
  go_wp2_with fail
  refine (rmul_any a (some ⟨w1.heap.size, 0, none⟩) la ca p p zs cs w2 (HS.out.below (step b1 b2) (Nat.le_refl _)) sc (by omega) (by omega)).mono ?_
  rintro e w3 ⟨a4, m4, c4, z4, rfl, k4, k5, s4, u4, n4, b4⟩
  have K : Hid (m4 ≤ c4 ∧ m4 ≤ 2 * la + 2 * (t + 1)) := by have h5 := HP.out; show _ ∧ _; omega
  go_wp2_with fail
  go_ret2
  exact ⟨a4, m4, c4, z4, rfl, s4, ⟨u4, by rw [n4, HNUM.out], K.out.1, K.out.2⟩, step (step b1 b2) b4⟩
/-- 2 to the power u - 1074. -/
noncomputable def p28 (u : Nat) : Rat := mkRat ((2 ^ u : Nat) : Int) K8
theorem pow_prod8 (a b c : Nat) (h : a + b = c) : 2 ^ a * 2 ^ b = 2 ^ c := by rw [← Nat.pow_add, h]
theorem p28_up (u n : Nat) (h : u = n + 1074) : (p28 u).num = ((2 ^ n : Nat) : Int) ∧ (p28 u).den = 1 := by
  unfold p28
  refine rat_of_coprime (Nat.ne_of_gt K8_pos) (by decide) (by simp) ?_
  have := pow_prod8 n 1074 u (by omega)
  rw [← K8_eq] at this
  rw [← this, Int.natCast_mul]
  simp
theorem p28_down (u n : Nat) (h : u + n = 1074) : (p28 u).num = 1 ∧ (p28 u).den = 2 ^ n := by
  unfold p28
  refine rat_of_coprime (Nat.ne_of_gt K8_pos) (Nat.ne_of_gt (two_pos n)) (by simp) ?_
  have := pow_prod8 u n 1074 h
  rw [← K8_eq] at this
  rw [← this, Int.natCast_mul, Int.one_mul]
theorem sz_p28 {u : Nat} (h : u ≤ 2098) : Sz 33 (p28 u) := by
  refine Sz.mk (Nat.ne_of_gt K8_pos) ?_ ?_
  · rw [Int.natAbs_natCast, pw_nat8]
    have := pow_lt8 (show u < 64 * 33 by omega)
    exact_mod_cast this
  · rw [K8_eq, pw_nat8]
    have := pow_lt8 (show 1074 < 64 * 33 by decide)
    exact_mod_cast this
theorem sl_lit {w : World} {b : Nat} (h : Va w b 22 #[.int .u64 1]) : Sl w (some ⟨b, 0, none⟩) 1 [1] := h.limb ⟨by decide, by decide⟩
theorem bits_lit : bitsN [1] = 1 := by decide

set_option maxHeartbeats 2000000 in
theorem rpower8 (n : Int) (u : Nat) (hu : n + 1074 = u) (h : u ≤ 2098) (w : World) :
    Calls Tryz.prog 71 #[.int .i64 n] w fun e w' => RrP w (p28 u) e w' := by
  have HU : Hid (n + 1074 = u ∧ u ≤ 2098) := ⟨hu, h⟩
  by_cases hn : n < 0
  ·
    obtain ⟨t, ht⟩ : ∃ t : Nat, -n = t := ⟨(-n).toNat, by omega⟩
    have w1 : IntKind.i64.wrap (-n) = (t : Int) := by rw [IntKind.wrap_i64]; omega
    have g1 : decide (n < 0) = true := decide_eq_true hn
    have HT : Hid (u + t = 1074) := by show _ = _; omega
    clear ht hu h
    have B0 : Below w.heap.size w w := Below.refl _ _
    go_enter Tryz.func71, Tryz.ntmps71
    go_wp2_with fail
    refine ent2 w _ _ _ _ (Q := fun W => Calls Tryz.prog _ _ W _) ?_
    intro x1 hb hs_x1 V2 V1
    replace B0 := step B0 hb
    clear hb hs_x1
    have h1 := sl_lit V1
    refine (rleft8 (some ⟨w.heap.size + 1, 0, none⟩) 1 1 [1] t x1 h1 (fun h => by cases h) (by decide) (by decide) (by decide) (by rw [bits_lit]; have h5 := HT.out; omega)).mono ?_
    rintro e x2 ⟨a2, m2, c2, z2, rfl, h2, E2, hb⟩
    replace V2 := Va.after hb V2
    replace V1 := Va.after hb V1
    replace h1 := Sl.after hb h1
    replace B0 := step B0 hb
    clear hb
    have c_V2 := V2.d0
    have f0_V2 := V2.frozen 0
    have d_V2 := V2.d1
    have f1_V2 := V2.frozen 1
    have e_V2 := V2.d2
    have f2_V2 := V2.frozen 2
    have l_V2 := V2.lt
    have m_V2 := Nat.le_of_lt l_V2
    have p0_V2 := (V2.old (.cells #[.int .u64 1] 22)).d0
    have q0_V2 := (V2.old (.cells #[.int .u64 1] 22)).frozen 0
    have p1_V2 := (V2.old (.cells #[.int .u64 1] 22)).d1
    have q1_V2 := (V2.old (.cells #[.int .u64 1] 22)).frozen 1
    have p2_V2 := (V2.old (.cells #[.int .u64 1] 22)).d2
    have q2_V2 := (V2.old (.cells #[.int .u64 1] 22)).frozen 2
    go_wp2_with fail
    have NB := Va.new x2 22 #[.int .u64 1]
    refine bodyPost_ret (results_ra rfl rfl ((V2.set3 _ _ _).old _)) rfl ?_
    obtain ⟨p1, p2⟩ := p28_down u t HT.out
    obtain ⟨q1, q2, q3, q4⟩ := E2.out
    have A1 := h2.far V2 (noInt3 _ _ _ _ _ _ _) (fa3 _ _ (.bool false) (.slice (some ⟨x2.heap.size, 0, none⟩) 1 1) (.slice a2 m2 c2))
    refine ⟨false, _, 1, 1, [1], a2, m2, c2, z2, rfl, ⟨sl_lit (by have := Va.new ((((x2.setCell ⟨w.heap.size, 0, none⟩ (.bool false)).setCell ⟨w.heap.size, 1, none⟩ (.slice (some ⟨x2.heap.size, 0, none⟩) 1 1))).setCell ⟨w.heap.size, 2, none⟩ (.slice a2 m2 c2)) 22 #[.int .u64 1]; simpa [World.setCell] using this), Sl.after ((Below.refl _ _).alloc (Nat.le_refl _) _) A1, by decide, q1, ⟨Nat.le_refl _, q3⟩, by rw [p1]; rfl, by rw [p2, q2, show num [1] = 1 from rfl, Int.one_mul, ← pow_cast], fun h => by cases h⟩, ?_⟩
    exact (belo3 B0 (by omega) _ _ _).alloc (belo3 B0 (by omega) _ _ _).size _
  ·
    obtain ⟨t, ht⟩ : ∃ t : Nat, n = t := ⟨n.toNat, by omega⟩
    subst ht
    have g1 : decide ((t : Int) < 0) = false := decide_eq_false hn
    have HT : Hid (u = t + 1074 ∧ t ≤ 1024) := by show _ ∧ _; omega
    clear hu h
    have B0 : Below w.heap.size w w := Below.refl _ _
    go_enter Tryz.func71, Tryz.ntmps71
    go_wp2_with fail
    refine ent2 w _ _ _ _ (Q := fun W => Calls Tryz.prog _ _ W _) ?_
    intro x1 hb hs_x1 V2 V1
    replace B0 := step B0 hb
    clear hb hs_x1
    have h1 := sl_lit V1
    refine (rleft8 (some ⟨w.heap.size + 1, 0, none⟩) 1 1 [1] t x1 h1 (fun h => by cases h) (by decide) (by decide) (by decide) (by rw [bits_lit]; have h5 := HT.out.2; omega)).mono ?_
    rintro e x2 ⟨a2, m2, c2, z2, rfl, h2, E2, hb⟩
    replace V2 := Va.after hb V2
    replace V1 := Va.after hb V1
    replace h1 := Sl.after hb h1
    replace B0 := step B0 hb
    clear hb
    have c_V2 := V2.d0
    have f0_V2 := V2.frozen 0
    have d_V2 := V2.d1
    have f1_V2 := V2.frozen 1
    have e_V2 := V2.d2
    have f2_V2 := V2.frozen 2
    have l_V2 := V2.lt
    have m_V2 := Nat.le_of_lt l_V2
    go_wp2_with fail
    refine (rwhole5 false a2 m2 c2 z2 x2 h2 E2.out.2.2.1 (by have h5 := E2.out.2.2.2; have h6 := HT.out.2; omega)).mono ?_
    rintro e x3 ⟨sr, ar, lr, cr, zr, br, mr, dr, yr, rfl, hr, hb⟩
    replace V2 := Va.after hb V2
    replace V1 := Va.after hb V1
    replace h1 := Sl.after hb h1
    replace h2 := Sl.after hb h2
    replace B0 := step B0 hb
    clear hb
    clear c_V2 f0_V2 d_V2 f1_V2 e_V2 f2_V2 l_V2 m_V2
    have c_V2 := V2.d0
    have f0_V2 := V2.frozen 0
    have d_V2 := V2.d1
    have f1_V2 := V2.frozen 1
    have e_V2 := V2.d2
    have f2_V2 := V2.frozen 2
    have l_V2 := V2.lt
    have m_V2 := Nat.le_of_lt l_V2
    go_wp2_with fail
    have hv : ((iv false z2 : Int) : Rat) = p28 u := by
      obtain ⟨p1, p2⟩ := p28_up u t HT.out.1
      have e1 : iv false z2 = ((2 ^ t : Nat) : Int) := by rw [iv_f, E2.out.2.1, show num [1] = 1 from rfl, Int.one_mul, ← pow_cast]
      rw [e1]
      exact Rat.ext p1.symm p2.symm
    rw [hv] at hr
    refine bodyPost_ret (results_ra rfl rfl (V2.set3 _ _ _)) rfl ?_
    exact ⟨sr, ar, lr, cr, zr, br, mr, dr, yr, rfl, hr.far V2 (noInt3 _ _ _ _ _ _ _) (fa3 _ _ _ _ _), belo3 B0 (by omega) _ _ _⟩
end Go.Proofs.YtjlodljgfjjclaaGreat

namespace Go.Proofs.YtjlodljgfjjclaaGreat
open Go.RowKit Go.Shelf
set_option linter.unusedVariables false

/-- The number of a place. -/
noncomputable def pv8 (k : Int) : Rat := mkRat (fp k) K8
theorem pv8_fv {x : Nat} (h : Fr x) : pv8 (plc x) = fv x := by
  unfold pv8 fv
  congr 1
  rw [fz_sg h.2]
  unfold plc
  cases fsg x
  · simp only [Bool.false_eq_true, if_false]; exact fp_nat _
  · simp only [if_true]; rw [fp_neg, fp_nat]
theorem sz_pv8 {k : Int} (h : k.natAbs < 9218868437227405312) : Sz 33 (pv8 k) := by
  have hf := fi_lt h
  rw [fi_inf] at hf
  have hz : (fp k).natAbs = fi k.natAbs := by
    unfold fp
    by_cases g : 0 ≤ k
    · rw [if_pos g, Int.natAbs_natCast, show k.toNat = k.natAbs by omega]
    · rw [if_neg g, Int.natAbs_neg, Int.natAbs_natCast, show (-k).toNat = k.natAbs by omega]
  refine Sz.mk (Nat.ne_of_gt K8_pos) ?_ ?_
  · rw [hz, pw_nat8]
    have := pow_le8 (show 2098 ≤ 64 * 33 by decide)
    have h2 := Nat.lt_of_lt_of_le hf this
    exact_mod_cast h2
  · rw [K8_eq, pw_nat8]
    have := pow_lt8 (show 1074 < 64 * 33 by decide)
    exact_mod_cast this
theorem sz_int {z : Int} (h : z.natAbs < 18446744073709551616) : Sz 1 ((z : Int) : Rat) := by
  have p : pw 1 = 18446744073709551616 := by decide
  refine ⟨?_, ?_⟩
  · rw [p]; show ((z.natAbs : Nat) : Int) < _; omega
  · rw [p]; show ((1 : Nat) : Int) < _; decide
theorem sz_fit {u v : Rat} {i j : Nat} (h1 : Sz i u) (h2 : Sz j v) (hij : i + j ≤ 4000) : ∀ n, n = 4000 → (u.num.natAbs : Int) * (v.num.natAbs : Int) < pw n ∧ (u.den : Int) * (v.den : Int) < pw n := fun n e => by
  subst e
  exact ⟨rt_fits (by omega) (by omega) h1.1 h2.1 hij, rt_fits (by omega) (by omega) h1.2 h2.2 hij⟩
theorem pv8_made {k : Int} {q u : Nat} (h : fi k.natAbs = q * 2 ^ u) : ((iv (decide (k < 0)) [(q : Int)] : Int) : Rat) * p28 u = pv8 k := by
  have e : ((iv (decide (k < 0)) [(q : Int)] : Int) : Rat) = mkRat (iv (decide (k < 0)) [(q : Int)]) 1 := by rw [Rat.mkRat_one]
  rw [e]
  unfold p28 pv8
  rw [Rat.mkRat_mul_mkRat, Nat.one_mul]
  congr 1
  unfold iv fp
  have hq : num [(q : Int)] = (q : Int) := by simp [num]
  rw [hq]
  by_cases g : k < 0
  · rw [decide_eq_true g, if_pos rfl, if_neg (by omega), show (-k).toNat = k.natAbs by omega, h, Int.neg_mul, ← Int.natCast_mul]
  · rw [decide_eq_false g]
    simp only [Bool.false_eq_true, if_false]
    rw [if_pos (by omega), show k.toNat = k.natAbs by omega, h, ← Int.natCast_mul]

set_option maxHeartbeats 4000000 in
theorem rvalue_core (k : Int) (m p e q u : Nat) (hk : k.natAbs = m) (hm : m < 9218868437227405312) (hp : m % 4503599627370496 = p) (he : m / 4503599627370496 = e) (hc : (e = 0 ∧ q = p ∧ u = 0) ∨ (e ≠ 0 ∧ q = p + 4503599627370496 ∧ u + 1 = e)) (w : World) :
    Calls Tryz.prog 41 #[.int .i64 k] w fun z w' => RrP w (((iv (decide (k < 0)) [(q : Int)] : Int) : Rat) * p28 u) z w' := by
  have w0 : IntKind.i64.wrap (-k) = -k := by rw [IntKind.wrap_i64]; omega
  have w1 : max k (-k) = (m : Int) := by omega
  have w2 : IntKind.u64.wrap (m : Int) = (m : Int) := by rw [IntKind.wrap_u64]; omega
  have w3 : (m : Int) % 4503599627370496 = (p : Int) := by omega
  have w3' : (m : Int).tmod 4503599627370496 = (p : Int) := by rw [Int.tmod_eq_emod_of_nonneg (by omega)]; omega
  have w4 : (m : Int) / 4503599627370496 = (e : Int) := by omega
  have w4' : (m : Int).tdiv 4503599627370496 = (e : Int) := by rw [Int.tdiv_eq_ediv_of_nonneg (by omega)]; omega
  have w5 : IntKind.u64.wrap (p : Int) = (p : Int) := by rw [IntKind.wrap_u64]; omega
  have w6 : IntKind.u64.wrap (e : Int) = (e : Int) := by rw [IntKind.wrap_u64]; omega
  have w7 : IntKind.i64.wrap (e : Int) = (e : Int) := by rw [IntKind.wrap_i64]; omega
  have w8 : IntKind.i64.wrap ((u : Int) - 1074) = (u : Int) - 1074 := by rw [IntKind.wrap_i64]; omega
  have HQ : Hid (q < 9007199254740992 ∧ u ≤ 2045) := by show _ ∧ _; omega
  obtain ⟨s, hs⟩ : ∃ s, decide (k < 0) = s := ⟨_, rfl⟩
  rw [hs]
  have B0 : Below w.heap.size w w := Below.refl _ _
  rcases hc with ⟨c1, c2, c3⟩ | ⟨c1, c2, c3⟩
  ·
    rw [← c2] at w3 w3' w5
    subst c1 c3
    clear hk hm hp he c2 w8
    go_enter Tryz.func41, Tryz.ntmps41
    go_wp2_with fail
    refine ent2 w _ _ _ _ (Q := fun W => Calls Tryz.prog _ _ W _) ?_
    intro x1 hb hs_x1 V2 V1
    replace B0 := step B0 hb
    clear hb hs_x1
    have h1 := V1.limb ⟨by omega, by have h5 := HQ.out.1; omega⟩
    refine (rwhole5 s (some ⟨w.heap.size + 1, 0, none⟩) 1 1 [(q : Int)] x1 h1 (Nat.le_refl _) (by decide)).mono ?_
    rintro e x2 ⟨sr, ar, lr, cr, zr, br, mr, dr, yr, rfl, hr, hb⟩
    replace V2 := Va.after hb V2
    replace V1 := Va.after hb V1
    replace h1 := Sl.after hb h1
    replace B0 := step B0 hb
    clear hb
    have c_V2 := V2.d0
    have f0_V2 := V2.frozen 0
    have d_V2 := V2.d1
    have f1_V2 := V2.frozen 1
    have e_V2 := V2.d2
    have f2_V2 := V2.frozen 2
    have l_V2 := V2.lt
    have m_V2 := Nat.le_of_lt l_V2
    go_wp2_with fail
    refine (rpower8 (-1074) 0 (by omega) (by have h5 := HQ.out.2; omega) x2).mono ?_
    rintro e x3 ⟨sg, ag, lg, cg, zg, bg, mg, dg, yg, rfl, hg, hb⟩
    replace V2 := Va.after hb V2
    replace V1 := Va.after hb V1
    replace h1 := Sl.after hb h1
    replace hr := Rr.after hb hr
    replace B0 := step B0 hb
    clear hb
    clear c_V2 f0_V2 d_V2 f1_V2 e_V2 f2_V2 l_V2 m_V2
    have c_V2 := V2.d0
    have f0_V2 := V2.frozen 0
    have d_V2 := V2.d1
    have f1_V2 := V2.frozen 1
    have e_V2 := V2.d2
    have f2_V2 := V2.frozen 2
    have l_V2 := V2.lt
    have m_V2 := Nat.le_of_lt l_V2
    go_wp2_with fail
    have T1 : Hid (Sz 1 ((iv s [(q : Int)] : Int) : Rat)) := by
      refine sz_int ?_
      have h5 := HQ.out.1
      have h6 : num [(q : Int)] = (q : Int) := by simp [num]
      unfold iv; rw [h6]; cases s <;> simp <;> omega
    have T2 : Hid (Sz 33 (p28 0)) := sz_p28 (by have h5 := HQ.out.2; omega)
    refine (rmul9 sr ar lr cr zr br mr dr yr ((iv s [(q : Int)] : Int) : Rat) sg ag lg cg zg bg mg dg yg (p28 0) x3 hr hg (T1.out.mono (by omega)) (T2.out.mono (by omega)) (sz_fit T1.out T2.out (by omega))).mono ?_
    rintro e x4 ⟨sj, aj, lj, cj, zj, bj, mj, dj, yj, rfl, hj, hb⟩
    replace V2 := Va.after hb V2
    replace V1 := Va.after hb V1
    replace h1 := Sl.after hb h1
    replace hr := Rr.after hb hr
    replace hg := Rr.after hb hg
    replace B0 := step B0 hb
    clear hb
    clear c_V2 f0_V2 d_V2 f1_V2 e_V2 f2_V2 l_V2 m_V2
    have c_V2 := V2.d0
    have f0_V2 := V2.frozen 0
    have d_V2 := V2.d1
    have f1_V2 := V2.frozen 1
    have e_V2 := V2.d2
    have f2_V2 := V2.frozen 2
    have l_V2 := V2.lt
    have m_V2 := Nat.le_of_lt l_V2
    go_wp2_with fail
    refine bodyPost_ret (results_ra rfl rfl (V2.set3 _ _ _)) rfl ?_
    exact ⟨sj, aj, lj, cj, zj, bj, mj, dj, yj, rfl, hj.far V2 (noInt3 _ _ _ _ _ _ _) (fa3 _ _ _ _ _), belo3 B0 (by omega) _ _ _⟩
  ·
    have g1 : decide ((0 : Int) < (e : Int)) = true := by rw [decide_eq_true_iff]; omega
    have g2 : 0 < e := by omega
    have v1 : IntKind.u64.wrap ((p : Int) + 4503599627370496) = (q : Int) := by rw [IntKind.wrap_u64]; omega
    have v2 : IntKind.i64.wrap ((e : Int) - 1) = (u : Int) := by rw [IntKind.wrap_i64]; omega
    clear hk hm hp he c1 c2 c3
    go_enter Tryz.func41, Tryz.ntmps41
    go_wp2_with fail
    refine ent2 w _ _ _ _ (Q := fun W => Calls Tryz.prog _ _ W _) ?_
    intro x1 hb hs_x1 V2 V1
    replace B0 := step B0 hb
    clear hb hs_x1
    have h1 := V1.limb ⟨by omega, by have h5 := HQ.out.1; omega⟩
    refine (rwhole5 s (some ⟨w.heap.size + 1, 0, none⟩) 1 1 [(q : Int)] x1 h1 (Nat.le_refl _) (by decide)).mono ?_
    rintro e x2 ⟨sr, ar, lr, cr, zr, br, mr, dr, yr, rfl, hr, hb⟩
    replace V2 := Va.after hb V2
    replace V1 := Va.after hb V1
    replace h1 := Sl.after hb h1
    replace B0 := step B0 hb
    clear hb
    have c_V2 := V2.d0
    have f0_V2 := V2.frozen 0
    have d_V2 := V2.d1
    have f1_V2 := V2.frozen 1
    have e_V2 := V2.d2
    have f2_V2 := V2.frozen 2
    have l_V2 := V2.lt
    have m_V2 := Nat.le_of_lt l_V2
    go_wp2_with fail
    refine (rpower8 ((u : Int) - 1074) u (by omega) (by have h5 := HQ.out.2; omega) x2).mono ?_
    rintro e x3 ⟨sg, ag, lg, cg, zg, bg, mg, dg, yg, rfl, hg, hb⟩
    replace V2 := Va.after hb V2
    replace V1 := Va.after hb V1
    replace h1 := Sl.after hb h1
    replace hr := Rr.after hb hr
    replace B0 := step B0 hb
    clear hb
    clear c_V2 f0_V2 d_V2 f1_V2 e_V2 f2_V2 l_V2 m_V2
    have c_V2 := V2.d0
    have f0_V2 := V2.frozen 0
    have d_V2 := V2.d1
    have f1_V2 := V2.frozen 1
    have e_V2 := V2.d2
    have f2_V2 := V2.frozen 2
    have l_V2 := V2.lt
    have m_V2 := Nat.le_of_lt l_V2
    go_wp2_with fail
    have T1 : Hid (Sz 1 ((iv s [(q : Int)] : Int) : Rat)) := by
      refine sz_int ?_
      have h5 := HQ.out.1
      have h6 : num [(q : Int)] = (q : Int) := by simp [num]
      unfold iv; rw [h6]; cases s <;> simp <;> omega
    have T2 : Hid (Sz 33 (p28 u)) := sz_p28 (by have h5 := HQ.out.2; omega)
    refine (rmul9 sr ar lr cr zr br mr dr yr ((iv s [(q : Int)] : Int) : Rat) sg ag lg cg zg bg mg dg yg (p28 u) x3 hr hg (T1.out.mono (by omega)) (T2.out.mono (by omega)) (sz_fit T1.out T2.out (by omega))).mono ?_
    rintro e x4 ⟨sj, aj, lj, cj, zj, bj, mj, dj, yj, rfl, hj, hb⟩
    replace V2 := Va.after hb V2
    replace V1 := Va.after hb V1
    replace h1 := Sl.after hb h1
    replace hr := Rr.after hb hr
    replace hg := Rr.after hb hg
    replace B0 := step B0 hb
    clear hb
    clear c_V2 f0_V2 d_V2 f1_V2 e_V2 f2_V2 l_V2 m_V2
    have c_V2 := V2.d0
    have f0_V2 := V2.frozen 0
    have d_V2 := V2.d1
    have f1_V2 := V2.frozen 1
    have e_V2 := V2.d2
    have f2_V2 := V2.frozen 2
    have l_V2 := V2.lt
    have m_V2 := Nat.le_of_lt l_V2
    go_wp2_with fail
    refine bodyPost_ret (results_ra rfl rfl (V2.set3 _ _ _)) rfl ?_
    exact ⟨sj, aj, lj, cj, zj, bj, mj, dj, yj, rfl, hj.far V2 (noInt3 _ _ _ _ _ _ _) (fa3 _ _ _ _ _), belo3 B0 (by omega) _ _ _⟩

theorem rvalue8 (k : Int) (hm : k.natAbs < 9218868437227405312) (w : World) :
    Calls Tryz.prog 41 #[.int .i64 k] w fun z w' => RrP w (pv8 k) z w' := by
  obtain ⟨p, hp⟩ : ∃ p, k.natAbs % 4503599627370496 = p := ⟨_, rfl⟩
  obtain ⟨e, he⟩ : ∃ e, k.natAbs / 4503599627370496 = e := ⟨_, rfl⟩
  by_cases e0 : e = 0
  · have hf : fi k.natAbs = p * 2 ^ 0 := by unfold fi; rw [if_pos (by omega)]; omega
    rw [← pv8_made hf]
    exact rvalue_core k _ p e p 0 rfl hm hp he (.inl ⟨e0, rfl, rfl⟩) w
  · have hf : fi k.natAbs = (p + 4503599627370496) * 2 ^ (e - 1) := by
      unfold fi; rw [if_neg (by omega), hp, he, Nat.add_comm]
    rw [← pv8_made hf]
    exact rvalue_core k _ p e _ (e - 1) rfl hm hp he (.inr ⟨e0, rfl, by omega⟩) w

theorem results_at8 {fn : Func} {i j b : Nat} {x y z : Value} {tmps : Array Value} {w : World} (h : fn.results = #[.cell i 38, .tmp j]) (hi : tmps.getD i undef = .pointer (some ⟨b, 0, none⟩)) (hv : Va w b 38 #[x, y, z]) :
    (results fn tmps).run Tryz.prog w = .ok (.tuple #[.agg #[x, y, z], tmps.getD j undef]) w := by
  have c := hv.d0; have d := hv.d1; have e := hv.d2
  rw [Array.getD_eq_getD_getElem?] at hi
  simp [results, h, hi, c, d, e, go_sem]
theorem plc_bd {x : Nat} (hr : x % 9223372036854775808 < 9218868437227405312) : (plc x).natAbs < 9218868437227405312 := by
  unfold plc
  cases fsg x
  · simp only [Bool.false_eq_true, if_false]; omega
  · simp only [if_true]; omega
set_option maxHeartbeats 2000000 in
theorem rof8 (x : Nat) (h : Fr x) (hr : x % 9223372036854775808 < 9218868437227405312) (w : World) :
    Calls Tryz.prog 10 #[.float .f64 x] w fun z w' => ∃ s' a' l' c' zs' b' m' d' ys', z = .returned (.tuple #[.agg #[.bool s', .slice a' l' c', .slice b' m' d'], .int .i64 0]) ∧ Rr w' s' a' l' c' zs' b' m' d' ys' (fv x) ∧ Below w.heap.size w w' := by
  have HF : Hid (Fr x ∧ x % 9223372036854775808 < 9218868437227405312) := ⟨h, hr⟩
  clear h hr
  have B0 : Below w.heap.size w w := Below.refl _ _
  go_enter Tryz.func10, Tryz.ntmps10
  go_wp2_with fail
  refine ent1 w _ _ (Q := fun W => Calls Tryz.prog _ _ W _) ?_
  intro x1 hb hs_x1 V2
  replace B0 := step B0 hb
  clear hb hs_x1
  refine (finite8_yes x HF.out.1.2 HF.out.2 x1).mono ?_
  rintro e x2 ⟨rfl, hb⟩
  replace V2 := Va.after hb V2
  replace B0 := step B0 hb
  clear hb
  go_wp2_with fail
  refine (rplace8 x HF.out.1 _).mono ?_
  rintro e x3 ⟨rfl, hw⟩
  rw [hw]
  clear hw
  go_wp2_with fail
  refine (rvalue8 (plc x) (plc_bd HF.out.2) x2).mono ?_
  rintro e x4 ⟨sr, ar, lr, cr, zr, br, mr, dr, yr, rfl, hr, hb⟩
  replace V2 := Va.after hb V2
  replace B0 := step B0 hb
  clear hb
  rw [pv8_fv HF.out.1] at hr
  have c_V2 := V2.d0
  have f0_V2 := V2.frozen 0
  have d_V2 := V2.d1
  have f1_V2 := V2.frozen 1
  have e_V2 := V2.d2
  have f2_V2 := V2.frozen 2
  have l_V2 := V2.lt
  have m_V2 := Nat.le_of_lt l_V2
  go_wp2_with fail
  refine bodyPost_ret (results_at8 rfl rfl (V2.set3 _ _ _)) rfl ?_
  exact ⟨sr, ar, lr, cr, zr, br, mr, dr, yr, rfl, hr.far V2 (noInt3 _ _ _ _ _ _ _) (fa3 _ _ _ _ _), belo3 B0 (by omega) _ _ _⟩

theorem rof8_no (x : Nat) (h : x < 18446744073709551616) (hr : 9218868437227405312 ≤ x % 9223372036854775808) (w : World) :
    Calls Tryz.prog 10 #[.float .f64 x] w fun z w' => ∃ s' a' l' c' zs' b' m' d' ys', z = .returned (.tuple #[.agg #[.bool s', .slice a' l' c', .slice b' m' d'], .int .i64 80]) ∧ Rr w' s' a' l' c' zs' b' m' d' ys' (Rat.divInt 0 1) ∧ Below w.heap.size w w' := by
  have HF : Hid (x < 18446744073709551616 ∧ 9218868437227405312 ≤ x % 9223372036854775808) := ⟨h, hr⟩
  clear h hr
  have B0 : Below w.heap.size w w := Below.refl _ _
  go_enter Tryz.func10, Tryz.ntmps10
  go_wp2_with fail
  refine ent1 w _ _ (Q := fun W => Calls Tryz.prog _ _ W _) ?_
  intro x1 hb hs_x1 V2
  replace B0 := step B0 hb
  clear hb hs_x1
  refine (finite8_no x HF.out.1 HF.out.2 x1).mono ?_
  rintro e x2 ⟨rfl, hb⟩
  replace V2 := Va.after hb V2
  replace B0 := step B0 hb
  clear hb
  go_wp2_with fail
  refine (rint5 0 (by decide) (by decide) x2).mono ?_
  rintro e x3 ⟨sr, ar, lr, cr, zr, br, mr, dr, yr, rfl, hr, -, -, hb⟩
  replace V2 := Va.after hb V2
  replace B0 := step B0 hb
  clear hb
  have c_V2 := V2.d0
  have f0_V2 := V2.frozen 0
  have d_V2 := V2.d1
  have f1_V2 := V2.frozen 1
  have e_V2 := V2.d2
  have f2_V2 := V2.frozen 2
  have l_V2 := V2.lt
  have m_V2 := Nat.le_of_lt l_V2
  go_wp2_with fail
  refine bodyPost_ret (results_at8 rfl rfl (V2.set3 _ _ _)) rfl ?_
  exact ⟨sr, ar, lr, cr, zr, br, mr, dr, yr, rfl, hr.far V2 (noInt3 _ _ _ _ _ _ _) (fa3 _ _ _ _ _), belo3 B0 (by omega) _ _ _⟩
end Go.Proofs.YtjlodljgfjjclaaGreat

namespace Go.Proofs.YtjlodljgfjjclaaGreat
open Go.RowKit Go.Shelf
set_option linter.unusedVariables false

/-- What Int64 tells of a finite float. -/
noncomputable def i8v (x : Nat) : Int := if (fv x).den ≠ 1 then 0 else if -9223372036854775808 ≤ (fv x).num ∧ (fv x).num ≤ 9223372036854775807 then (fv x).num else 0
noncomputable def i8e (x : Nat) : Int := if (fv x).den ≠ 1 then 80 else if -9223372036854775808 ≤ (fv x).num ∧ (fv x).num ≤ 9223372036854775807 then 0 else 5
theorem i8_in {x : Nat} (hd : (fv x).den = 1) (hi : -9223372036854775808 ≤ (fv x).num ∧ (fv x).num ≤ 9223372036854775807) : i8v x = (fv x).num ∧ i8e x = 0 := by
  have n : ¬ ((fv x).den ≠ 1) := fun g => g hd
  exact ⟨by unfold i8v; rw [if_neg n, if_pos hi], by unfold i8e; rw [if_neg n, if_pos hi]⟩
theorem i8_out {x : Nat} (hd : (fv x).den = 1) (hi : ¬ (-9223372036854775808 ≤ (fv x).num ∧ (fv x).num ≤ 9223372036854775807)) : i8v x = 0 ∧ i8e x = 5 := by
  have n : ¬ ((fv x).den ≠ 1) := fun g => g hd
  exact ⟨by unfold i8v; rw [if_neg n, if_neg hi], by unfold i8e; rw [if_neg n, if_neg hi]⟩
theorem i8_part {x : Nat} (hd : (fv x).den ≠ 1) : i8v x = 0 ∧ i8e x = 80 := ⟨if_pos hd, if_pos hd⟩
theorem den_uint (b : Option Addr) (m d : Nat) (y : List Int) (w : World) (h : Nt w b m d y) (n : Nat) (hn : num y = (n : Int)) : Calls Tryz.prog 36 #[.agg #[.slice b m d]] w fun e w' => ∃ t q, e = .returned (.tuple #[.int .u64 t, .bool q]) ∧ Hid (((t == 1) = decide (n = 1)) ∧ ((t != 1) = decide (n ≠ 1))) ∧ Below w.heap.size w w' := by
  by_cases g : num y < 18446744073709551616
  · refine (uint64_small b m d y w h g).mono ?_
    rintro e w' ⟨rfl, hb⟩
    refine ⟨_, _, rfl, ?_, hb⟩
    rw [hn]
    constructor
    · by_cases c : n = 1
      · subst c; rfl
      · rw [decide_eq_false c, beq_eq_false_iff_ne]; omega
    · by_cases c : n = 1
      · subst c; rfl
      · rw [decide_eq_true c, bne_iff_ne]; omega
  · refine (uint64_great b m d y w h (by omega)).mono ?_
    rintro e w' ⟨rfl, hb⟩
    refine ⟨_, _, rfl, ?_, hb⟩
    constructor
    · rw [decide_eq_false (by omega)]; rfl
    · rw [decide_eq_true (by omega)]; rfl

set_option maxHeartbeats 2000000 in
theorem int64r_no (x : Nat) (h : x < 18446744073709551616) (hr : 9218868437227405312 ≤ x % 9223372036854775808) (w : World) :
    Calls Tryz.prog 9 #[.float .f64 x] w fun e w' => e = .returned (.tuple #[.int .i64 0, .int .i64 80]) ∧ Below w.heap.size w w' := by
  have B0 : Below w.heap.size w w := Below.refl _ _
  go_enter Tryz.func9, Tryz.ntmps9
  go_wp2_with fail
  refine (of8_no x h hr w).mono ?_
  rintro e x1 ⟨rfl, hb⟩
  replace B0 := step B0 hb
  clear hb
  go_wp2_with fail
  refine ent1 x1 _ _ (Q := fun W => Calls Tryz.prog _ _ W _) ?_
  intro x2 hb hs_x2 V4
  replace B0 := step B0 hb
  clear hb hs_x2
  refine (rden_any false none 0 0 none 0 0 [] x2 (Nt.nil _)).mono ?_
  rintro e x3 ⟨b3, m3, d3, y3, rfl, h3, e3, hb⟩
  replace V4 := Va.after hb V4
  replace B0 := step B0 hb
  clear hb
  go_wp2_with fail
  refine (den_uint b3 m3 d3 y3 x3 h3 1 (by rw [e3]; rfl)).mono ?_
  rintro e x4 ⟨t, q, rfl, HT, hb⟩
  replace V4 := Va.after hb V4
  replace h3 := Nt.after hb h3
  replace B0 := step B0 hb
  clear hb
  go_wp2_with fail
  go_ret2
  exact ⟨rfl, B0⟩

set_option maxHeartbeats 2000000 in
theorem int64r (x : Nat) (h : x < 18446744073709551616) (hr : x % 9223372036854775808 < 9218868437227405312) (w : World) :
    Calls Tryz.prog 9 #[.float .f64 x] w fun e w' => e = .returned (.tuple #[.int .i64 (i8v x), .int .i64 (i8e x)]) ∧ Below w.heap.size w w' := by
  have HX : Hid (x < 18446744073709551616 ∧ x % 9223372036854775808 < 9218868437227405312) := ⟨h, hr⟩
  clear h hr
  have B0 : Below w.heap.size w w := Below.refl _ _
  go_enter Tryz.func9, Tryz.ntmps9
  go_wp2_with fail
  refine (of8 x HX.out.1 HX.out.2 w).mono ?_
  rintro e x1 ⟨sr, ar, lr, cr, zr, br, mr, dr, yr, rfl, hr, hb⟩
  replace B0 := step B0 hb
  clear hb
  go_wp2_with fail
  refine ent1 x1 _ _ (Q := fun W => Calls Tryz.prog _ _ W _) ?_
  intro x2 hb hs_x2 V4
  replace hr := Rt.after hb hr
  replace B0 := step B0 hb
  clear hb hs_x2
  refine (rden_any sr ar lr cr br mr dr yr x2 hr.2.1).mono ?_
  rintro e x3 ⟨b3, m3, d3, y3, rfl, h3, e3, hb⟩
  replace V4 := Va.after hb V4
  replace hr := Rt.after hb hr
  replace B0 := step B0 hb
  clear hb
  have E3 : Hid (num y3 = ((fv x).den : Int)) := e3.trans hr.2.2.2.1
  clear e3
  go_wp2_with fail
  refine (den_uint b3 m3 d3 y3 x3 h3 (fv x).den E3.out).mono ?_
  rintro e x4 ⟨t, q, rfl, HT, hb⟩
  replace V4 := Va.after hb V4
  replace hr := Rt.after hb hr
  replace h3 := Nt.after hb h3
  replace B0 := step B0 hb
  clear hb
  by_cases hd : (fv x).den = 1
  ·
    have t1 : (t == 1) = true := by rw [HT.out.1]; exact decide_eq_true hd
    have t2 : (t != 1) = false := by rw [HT.out.2]; exact decide_eq_false (by simpa using hd)
    obtain rfl : t = 1 := eq_of_beq t1
    clear HT t1 t2
    have c_V4 := V4.d0
    have f0_V4 := V4.frozen 0
    have d_V4 := V4.d1
    have f1_V4 := V4.frozen 1
    have e_V4 := V4.d2
    have f2_V4 := V4.frozen 2
    have l_V4 := V4.lt
    have m_V4 := Nat.le_of_lt l_V4
    go_wp2_with fail
    refine (qnum_any sr ar lr cr br mr dr x4).mono ?_
    rintro e x5 ⟨rfl, hb⟩
    replace V4 := Va.after hb V4
    replace hr := Rt.after hb hr
    replace h3 := Nt.after hb h3
    replace B0 := step B0 hb
    clear hb
    clear c_V4 f0_V4 d_V4 f1_V4 e_V4 f2_V4 l_V4 m_V4
    go_wp2_with fail
    have HV : Hid (iv sr zr = (fv x).num) := hr.2.2.1
    by_cases hi : -9223372036854775808 ≤ (fv x).num ∧ (fv x).num ≤ 9223372036854775807
    ·
      have HI : Hid (i8v x = iv sr zr ∧ i8e x = 0 ∧ -9223372036854775808 ≤ iv sr zr ∧ iv sr zr ≤ 9223372036854775807) := by
        show _ ∧ _
        rw [HV.out]
        exact ⟨(i8_in hd hi).1, (i8_in hd hi).2, hi⟩
      clear hi hd
      refine (wint64_in sr ar lr cr zr x5 hr.1 HI.out.2.2.1 HI.out.2.2.2).mono ?_
      rintro e x6 ⟨rfl, hb⟩
      replace V4 := Va.after hb V4
      replace hr := Rt.after hb hr
      replace h3 := Nt.after hb h3
      replace B0 := step B0 hb
      clear hb
      go_wp2_with fail
      go_ret2
      exact ⟨by rw [HI.out.1, HI.out.2.1]; rfl, B0⟩
    ·
      have HI : Hid (i8v x = 0 ∧ i8e x = 5 ∧ (iv sr zr < -9223372036854775808 ∨ 9223372036854775807 < iv sr zr)) := by
        show _ ∧ _
        rw [HV.out]
        exact ⟨(i8_out hd hi).1, (i8_out hd hi).2, by omega⟩
      clear hi hd
      refine (wint64_out sr ar lr cr zr x5 hr.1 HI.out.2.2).mono ?_
      rintro e x6 ⟨rfl, hb⟩
      replace V4 := Va.after hb V4
      replace hr := Rt.after hb hr
      replace h3 := Nt.after hb h3
      replace B0 := step B0 hb
      clear hb
      go_wp2_with fail
      go_ret2
      exact ⟨by rw [HI.out.1, HI.out.2.1]; rfl, B0⟩
  ·
    have t1 : (t == 1) = false := by rw [HT.out.1]; exact decide_eq_false hd
    have t2 : (t != 1) = true := by rw [HT.out.2]; exact decide_eq_true (by simpa using hd)
    have t3 : ¬ (t = 1) := by rw [beq_eq_false_iff_ne] at t1; exact t1
    have HI : Hid (i8v x = 0 ∧ i8e x = 80) := i8_part hd
    clear HT hd
    have c_V4 := V4.d0
    have f0_V4 := V4.frozen 0
    have d_V4 := V4.d1
    have f1_V4 := V4.frozen 1
    have e_V4 := V4.d2
    have f2_V4 := V4.frozen 2
    have l_V4 := V4.lt
    have m_V4 := Nat.le_of_lt l_V4
    go_wp2_with fail
    go_ret2
    exact ⟨by rw [HI.out.1, HI.out.2]; rfl, B0⟩
end Go.Proofs.YtjlodljgfjjclaaGreat
