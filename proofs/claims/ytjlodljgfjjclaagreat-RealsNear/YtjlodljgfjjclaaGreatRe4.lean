/-
  reals.pastOf, twoIn.
-/
import Derived.Test.YtjlodljgfjjclaaGreatTk
import Derived.Test.YtjlodljgfjjclaaGreatAl
import Derived.Test.YtjlodljgfjjclaaGreatBrB
import Derived.Test.YtjlodljgfjjclaaGreatRt2
import Derived.Test.YtjlodljgfjjclaaGreatBsO
import Derived.Test.YtjlodljgfjjclaaGreatBrA
namespace Go.Proofs.YtjlodljgfjjclaaGreat
open Go.RowKit Go.Shelf
set_option linter.unusedVariables false

theorem bits_nn {xs : List Int} (h : Limbs xs) : 0 ≤ bitsN xs := (bits_limbs h).1
theorem bits_shift {xs zs : List Int} (h : Limbs xs) (hz : Limbs zs) {t : Nat} (e : num zs = num xs * 2 ^ t) : bitsN zs ≤ bitsN xs + t := by
  rcases Nat.eq_zero_or_pos (usedN xs) with h0 | h0
  · have e0 := (num_eq_zero h).2 h0
    rw [e0, Int.zero_mul] at e
    have := bits_nought ((num_eq_zero hz).1 e)
    have := bits_nn h
    omega
  · have := bits_moved h hz h0 e
    omega
theorem bits_le {xs ys : List Int} (h : Limbs xs) (hy : Limbs ys) (e : num xs ≤ num ys) : bitsN xs ≤ bitsN ys := by
  rcases Nat.eq_zero_or_pos (usedN xs) with h0 | h0
  · have := bits_nought h0
    have := bits_nn hy
    omega
  · obtain ⟨k, e1, e2, e3⟩ := bits_spec h h0
    have hp : 0 < usedN ys := by
      rcases Nat.eq_zero_or_pos (usedN ys) with g | g
      · have := (num_eq_zero hy).2 g
        have h5 : (0 : Int) < 2 ^ k := Int.pow_pos (by decide)
        omega
      · exact g
    obtain ⟨j, f1, f2, f3⟩ := bits_spec hy hp
    rcases Nat.lt_or_ge j k with g | g
    · have h6 : (2 : Int) ^ (j + 1) ≤ 2 ^ k := by
        have := Nat.pow_le_pow_right (show 0 < 2 by decide) (show j + 1 ≤ k by omega)
        exact_mod_cast this
      omega
    · omega
theorem nleft_b (a : Option Addr) (la ca : Nat) (xs : List Int) (t : Nat) (w : World) (ha : Nt w a la ca xs) (hf : bitsN xs + t ≤ 262144) :
    Calls Tryz.prog 31 #[.agg #[.slice a la ca], .int .i64 t] w fun e w' => ∃ a' l' c' zs, e = .returned (.tuple #[.agg #[.slice a' l' c'], .int .i64 0]) ∧ Nt w' a' l' c' zs ∧ Hid (num zs = num xs * 2 ^ t ∧ bitsN zs ≤ bitsN xs + t) ∧ Below w.heap.size w w' := by
  refine (nleft_ok a la ca xs t w ha (Or.inr hf)).mono ?_
  rintro e w' ⟨a', l', c', zs, rfl, h, hz, hb⟩
  exact ⟨a', l', c', zs, rfl, h, ⟨hz, bits_shift ha.limbs h.limbs hz⟩, hb⟩
theorem nleft_1 (a : Option Addr) (la ca : Nat) (xs : List Int) (w : World) (ha : Nt w a la ca xs) (hf : bitsN xs + 1 ≤ 262144) :
    Calls Tryz.prog 31 #[.agg #[.slice a la ca], .int .i64 1] w fun e w' => ∃ a' l' c' zs, e = .returned (.tuple #[.agg #[.slice a' l' c'], .int .i64 0]) ∧ Nt w' a' l' c' zs ∧ num zs = 2 * num xs ∧ Below w.heap.size w w' := by
  refine (nleft_ok a la ca xs 1 w ha (Or.inr hf)).mono ?_
  rintro e w' ⟨a', l', c', zs, rfl, h, hz, hb⟩
  exact ⟨a', l', c', zs, rfl, h, by rw [hz]; omega, hb⟩
/-- How far a rest is on its way. -/
def pst (r d : Int) : Int := if r = 0 then 0 else if 2 * r < d then 1 else if 2 * r = d then 2 else 3

set_option maxHeartbeats 2000000 in
theorem pastOf8 (a : Option Addr) (la ca : Nat) (xs : List Int) (b : Option Addr) (lb cb : Nat) (ys : List Int) (w : World) (hx : Nt w a la ca xs) (hy : Nt w b lb cb ys) (hf : Hid (bitsN xs + 1 ≤ 262144)) :
    Calls Tryz.prog 99 #[.agg #[.slice a la ca], .agg #[.slice b lb cb]] w fun e w' => e = .returned (.int .i64 (pst (num xs) (num ys))) ∧ Below w.heap.size w w' := by
  have hz : num xs = 0 ↔ la = 0 := by rw [num_eq_zero hx.limbs, hx.2.1]
  have hp := hx.nonneg
  have B0 : Below w.heap.size w w := Below.refl _ _
  go_enter Tryz.func99, Tryz.ntmps99
  go_wp2_with fail
  refine ent2 w _ _ _ _ (Q := fun W => Calls Tryz.prog _ _ W _) ?_
  intro x1 hb hs_x1 V0 V1
  replace hx := Nt.after hb hx
  replace hy := Nt.after hb hy
  replace B0 := step B0 hb
  clear hb hs_x1
  by_cases h0 : la = 0
  ·
    have e0 : pst (num xs) (num ys) = 0 := by unfold pst; rw [if_pos (hz.2 h0)]
    subst h0
    refine (isZero_any a 0 ca x1).mono ?_
    rintro e x2 ⟨rfl, hb⟩
    replace V0 := Va.after hb V0
    replace V1 := Va.after hb V1
    replace hx := Nt.after hb hx
    replace hy := Nt.after hb hy
    replace B0 := step B0 hb
    clear hb
    have c_V0 := V0.cell
    have f0_V0 := V0.frozen 0
    have l_V0 := V0.lt
    have m_V0 := Nat.le_of_lt l_V0
    go_wp2_with fail
    go_ret
    exact ⟨by rw [e0]; rfl, B0⟩
  ·
    have g0 : ((la : Int) == 0) = false := by rw [beq_eq_false_iff_ne]; omega
    have n0 : ¬ num xs = 0 := fun e => h0 (hz.1 e)
    have EP : Hid (pst (num xs) (num ys) = if 2 * num xs < num ys then 1 else if 2 * num xs = num ys then 2 else 3) := by show _ = _; unfold pst; rw [if_neg n0]
    clear hz h0 n0 hp
    refine (isZero_any a la ca x1).mono ?_
    rintro e x2 ⟨rfl, hb⟩
    replace V0 := Va.after hb V0
    replace V1 := Va.after hb V1
    replace hx := Nt.after hb hx
    replace hy := Nt.after hb hy
    replace B0 := step B0 hb
    clear hb
    rw [g0]
    have c_V0 := V0.cell
    have f0_V0 := V0.frozen 0
    have l_V0 := V0.lt
    have m_V0 := Nat.le_of_lt l_V0
    go_wp2_with fail
    refine (nleft_1 a la ca xs x2 hx hf.out).mono ?_
    rintro e x3 ⟨a2, l2, c2, z2, rfl, h2, e2, hb⟩
    replace V0 := Va.after hb V0
    replace V1 := Va.after hb V1
    replace hx := Nt.after hb hx
    replace hy := Nt.after hb hy
    replace B0 := step B0 hb
    clear hb
    have E2 : Hid (num z2 = 2 * num xs) := e2
    clear e2 g0
    clear c_V0 f0_V0 l_V0 m_V0
    have c_V1 := V1.cell
    have f0_V1 := V1.frozen 0
    have l_V1 := V1.lt
    have m_V1 := Nat.le_of_lt l_V1
    go_wp2_with fail
    refine ent1 x3 _ _ (Q := fun W => Calls Tryz.prog _ _ W _) ?_
    intro x4 hb hs_x4 V2
    replace V0 := Va.after hb V0
    replace V1 := Va.after hb V1
    replace hx := Nt.after hb hx
    replace hy := Nt.after hb hy
    replace h2 := Nt.after hb h2
    replace B0 := step B0 hb
    clear hb hs_x4
    refine (ncompare_any a2 b l2 c2 lb cb z2 ys x4 h2 hy).mono ?_
    rintro e x5 ⟨rfl, hb⟩
    replace V0 := Va.after hb V0
    replace V1 := Va.after hb V1
    replace V2 := Va.after hb V2
    replace hx := Nt.after hb hx
    replace hy := Nt.after hb hy
    replace h2 := Nt.after hb h2
    replace B0 := step B0 hb
    clear hb
    rw [E2.out]
    rcases Int.lt_trichotomy (2 * num xs) (num ys) with g | g | g
    ·
      rw [cmp3_lt g]
      have EQ : pst (num xs) (num ys) = 1 := by rw [EP.out, if_pos g]
      have EQ : Hid (pst (num xs) (num ys) = 1) := EQ
      clear EP g
      go_wp2_with fail
      go_ret
      exact ⟨by rw [EQ.out]; rfl, B0⟩
    ·
      rw [cmp3_eq g]
      have EQ : pst (num xs) (num ys) = 2 := by rw [EP.out, if_neg (by omega), if_pos g]
      have EQ : Hid (pst (num xs) (num ys) = 2) := EQ
      clear EP g
      go_wp2_with fail
      go_ret
      exact ⟨by rw [EQ.out]; rfl, B0⟩
    ·
      rw [cmp3_gt g]
      have EQ : pst (num xs) (num ys) = 3 := by rw [EP.out, if_neg (by omega), if_neg (by omega)]
      have EQ : Hid (pst (num xs) (num ys) = 3) := EQ
      clear EP g
      go_wp2_with fail
      go_ret
      exact ⟨by rw [EQ.out]; rfl, B0⟩

/-- The power of the greatest power of two that is not above N / D. -/
def Tw (N D t : Int) : Prop := -65537 ≤ t ∧ t ≤ 65536 ∧ (N = 0 → t < 0) ∧ (0 < N → D * 2 ^ t.toNat ≤ N * 2 ^ (-t).toNat ∧ N * 2 ^ (-t).toNat < 2 * (D * 2 ^ t.toNat))
theorem pow_split (m n : Nat) : (2 : Int) ^ (m + n) = 2 ^ m * 2 ^ n := Int.pow_add _ _ _
theorem two_pos' (n : Nat) : (0 : Int) < 2 ^ n := Int.pow_pos (by decide)
theorem pow_cast (n : Nat) : ((2 ^ n : Nat) : Int) = (2 : Int) ^ n := by rw [Int.natCast_pow]; rfl
/-- By how many digits two numbers have. -/
theorem tw_of {N D : Int} {k j : Nat} (n1 : 2 ^ k ≤ N) (n2 : N < 2 ^ (k + 1)) (d1 : 2 ^ j ≤ D) (d2 : D < 2 ^ (j + 1)) (hk : k < 65536) (hj : j < 65536) (T : Int) (hT : T = k - j) (a b : Nat) (ha : (a : Int) = max (-T) 0) (hb : (b : Int) = max T 0) :
    (N * 2 ^ a < D * 2 ^ b → Tw N D (T - 1)) ∧ (¬ N * 2 ^ a < D * 2 ^ b → Tw N D T) := by
  have hD : 0 < D := Int.lt_of_lt_of_le (two_pos' j) d1
  have hN : 0 < N := Int.lt_of_lt_of_le (two_pos' k) n1
  -- N * 2 ^ a is below twice what stands there
  have up : N * 2 ^ a < 2 * (D * 2 ^ b) := by
    have h1 := Int.mul_lt_mul_of_pos_right n2 (two_pos' a)
    have h2 := Int.mul_le_mul_of_nonneg_right d1 (Int.le_of_lt (two_pos' b))
    rw [← pow_split] at h1 h2
    have e : k + 1 + a = j + b + 1 := by omega
    rw [e, pow_split] at h1
    omega
  have lo : D * 2 ^ b < 2 * (N * 2 ^ a) := by
    have h1 := Int.mul_lt_mul_of_pos_right d2 (two_pos' b)
    have h2 := Int.mul_le_mul_of_nonneg_right n1 (Int.le_of_lt (two_pos' a))
    rw [← pow_split] at h1 h2
    have e : j + 1 + b = k + a + 1 := by omega
    rw [e, pow_split] at h1
    omega
  constructor
  · intro c
    refine ⟨by omega, by omega, fun h => by omega, fun _ => ?_⟩
    rcases Int.lt_or_le 0 T with g | g
    · have e1 : (T - 1).toNat + 1 = b := by omega
      have e2 : (-(T - 1)).toNat = a := by omega
      rw [← e1, Int.pow_succ, ← Int.mul_assoc] at lo c
      rw [e2]
      generalize D * 2 ^ (T - 1).toNat = x at *
      generalize N * 2 ^ a = y at *
      omega
    · have e1 : (T - 1).toNat = b := by omega
      have e2 : (-(T - 1)).toNat = a + 1 := by omega
      rw [e1, e2, Int.pow_succ, ← Int.mul_assoc]
      generalize D * 2 ^ b = x at *
      generalize N * 2 ^ a = y at *
      omega
  · intro c
    have e1 : T.toNat = b := by omega
    have e2 : (-T).toNat = a := by omega
    refine ⟨by omega, by omega, fun h => by omega, fun _ => ?_⟩
    rw [e1, e2]
    generalize D * 2 ^ b = x at *
    generalize N * 2 ^ a = y at *
    omega

set_option maxHeartbeats 4000000 in
theorem twoIn_core (a : Option Addr) (la ca : Nat) (xs : List Int) (b : Option Addr) (lb cb : Nat) (ys : List Int) (p q : Nat) (T R : Int) (u v : Nat) (w : World) (hx : Nt w a la ca xs) (hy : Nt w b lb cb ys) (hp : Hid (bitsN xs = (p : Int))) (hq : Hid (bitsN ys = (q : Int))) (hT : (p : Int) - q = T) (hu : max (-T) 0 = (u : Int)) (hv : max T 0 = (v : Int)) (hp2 : p ≤ 65536) (hq2 : q ≤ 65536) (hR : Hid (R = if num xs * 2 ^ u < num ys * 2 ^ v then T - 1 else T)) :
    Calls Tryz.prog 96 #[.agg #[.slice a la ca], .agg #[.slice b lb cb]] w fun e w' => e = .returned (.int .i64 R) ∧ Below w.heap.size w w' := by
  have B0 : Below w.heap.size w w := Below.refl _ _; (have HB : Hid (bitsN xs + u ≤ 262144 ∧ bitsN ys + v ≤ 262144) := by rw [hp.out, hq.out]; show _ ∧ _; omega); (have HT : Hid (IntKind.i64.wrap ((p : Int) - q) = T) := by show _ = _; rw [IntKind.wrap_i64]; omega); (have w2 : IntKind.i64.wrap (-T) = -T := by rw [IntKind.wrap_i64]; omega); (have w3 : IntKind.i64.wrap (T - 1) = T - 1 := by rw [IntKind.wrap_i64]; omega); clear hp2 hq2 hT
  go_enter Tryz.func96, Tryz.ntmps96
  (go_wp2_with fail); refine ent2 w _ _ _ _ (Q := fun W => Code.wp Tryz.prog _ _ _ W) ?_; intro x1 hb hs_x1 V0 V1; replace hx := Nt.after hb hx; replace hy := Nt.after hb hy; replace B0 := step B0 hb; clear hb hs_x1; refine wp_region_noPanic ?_; replace V0 : Va x1.drew _ _ _ := V0; replace V1 : Va x1.drew _ _ _ := V1; replace hx := hx.drw; replace hy := hy.drw; replace B0 := Below.drew B0; refine wp_region_held_drew (S := (fun W => W.cell? ⟨w.heap.size, 0, none⟩ = some (.slice a la ca) ∧ W.cell? ⟨w.heap.size + 1, 0, none⟩ = some (.slice b lb cb))) (by kernel_rfl) ⟨V0.cell, V1.cell⟩ (fun hHeld => ?_); (obtain ⟨x2, hxd⟩ : ∃ xd, xd = x1.drew := ⟨_, rfl⟩); rw [← hxd] at V0 V1 hx hy B0 hHeld ⊢; clear hxd; refine tk 0 rfl hHeld ?_; simp only [gA, gB, Act.put, gD, gE, gF]; refine tk 2 rfl hHeld ?_; simp only [gA, gB, gC, Act.put, gD, gE, gF]; refine wpAnyH_ready (rs := [1]) (by kernel_rfl) (by simp) ?_; refine AllReadyH.cons rfl (fun K hK => ?_) AllReadyH.nil
  simp only [gA, gB, gC]; (go_simp); refine (nbits_any a la ca xs _ hx).mono ?_; rintro e x3 ⟨rfl, hb⟩; replace V0 := Va.after hb V0; replace V1 := Va.after hb V1; replace hx := Nt.after hb hx; replace hy := Nt.after hb hy; replace B0 := step B0 hb; clear hb; rw [hp.out]; (try go_wp2_with fail); refine hK.out _ _ ⟨V0.cell, V1.cell⟩ (fun hHeld => ?_); clear hK K; refine wpAnyH_ready (rs := [3]) (by kernel_rfl) (by simp) ?_; refine AllReadyH.cons rfl (fun K hK => ?_) AllReadyH.nil; simp only [gA, gB, gC]; (go_simp); refine (nbits_any b lb cb ys _ hy).mono ?_; rintro e x4 ⟨rfl, hb⟩; replace V0 := Va.after hb V0; replace V1 := Va.after hb V1; replace hx := Nt.after hb hx; replace hy := Nt.after hb hy; replace B0 := step B0 hb; clear hb; rw [hq.out]; (try go_wp2_with fail); refine hK.out _ _ ⟨V0.cell, V1.cell⟩ (fun hHeld => ?_); clear hK K; refine wpAnyH_take (i := 4) (v := .int .i64 T) rfl (by kernel_rfl) (by kernel_rfl) (by kernel_rfl) (fun _ _ _ h => h) (Or.inl ⟨by rfl, ?_⟩) hHeld ?_
  · (intro W hSw; (try dsimp only at hSw); go_simp; first | rfl | (rw [HT.out]) | (have h5 := HT.out; simp only [go_sem] at h5; rw [h5]) | skip)
  simp only [gA, gB, gC, Act.put, gD, gE, gF]; refine tk 5 rfl hHeld ?_; simp only [gA, gB, gC, Act.put, gD, gE, gF]; refine wpAnyH_done (by kernel_rfl) ?_ _; refine NoPanic.normal ?_; clear hHeld; have c_V0 := V0.cell; have f0_V0 := V0.frozen 0; have l_V0 := V0.lt; have m_V0 := Nat.le_of_lt l_V0; (go_wp2_with fail); refine (nleft_b a la ca xs u x4 hx HB.out.1).mono ?_; rintro e x5 ⟨a2, l2, c2, z2, rfl, h2, E2, hb⟩; replace V0 := Va.after hb V0; replace V1 := Va.after hb V1; replace hx := Nt.after hb hx; replace hy := Nt.after hb hy; replace B0 := step B0 hb; clear hb; clear c_V0 f0_V0 l_V0 m_V0; have c_V0 := V0.cell; have f0_V0 := V0.frozen 0; have l_V0 := V0.lt; have m_V0 := Nat.le_of_lt l_V0; have c_V1 := V1.cell; have f0_V1 := V1.frozen 0; have l_V1 := V1.lt; have m_V1 := Nat.le_of_lt l_V1; (go_wp2_with fail); clear c_V0 f0_V0 l_V0 m_V0 c_V1 f0_V1 l_V1 m_V1; refine sto1 V0 (.slice a2 l2 c2) (Q := fun W => Calls Tryz.prog _ _ W _) ?_; intro x6 V' oth far
  replace V1 := oth _ _ _ (by first | omega | assumption | (simp; omega)) V1; replace hx := hx.far V0 (noInt1 _ _ _) far.1; replace hy := hy.far V0 (noInt1 _ _ _) far.1; replace h2 := h2.far V0 (noInt1 _ _ _) far.1; replace B0 := far.2 _ _ (by first | omega | (simp; omega)) B0; replace V0 := V'; clear oth far; refine (nleft_b b lb cb ys v x6 hy HB.out.2).mono ?_; rintro e x7 ⟨b2, m2, d2, y2, rfl, g2, F2, hb⟩; replace V0 := Va.after hb V0; replace V1 := Va.after hb V1; replace hx := Nt.after hb hx; replace hy := Nt.after hb hy; replace h2 := Nt.after hb h2; replace B0 := step B0 hb; clear hb; have c_V0 := V0.cell; have f0_V0 := V0.frozen 0; have l_V0 := V0.lt; have m_V0 := Nat.le_of_lt l_V0; have c_V1 := V1.cell; have f0_V1 := V1.frozen 0; have l_V1 := V1.lt; have m_V1 := Nat.le_of_lt l_V1; (go_wp2_with fail); clear c_V0 f0_V0 l_V0 m_V0 c_V1 f0_V1 l_V1 m_V1; refine sto1 V1 (.slice b2 m2 d2) (Q := fun W => Calls Tryz.prog _ _ W _) ?_; intro x8 V' oth far
  replace V0 := oth _ _ _ (by first | omega | assumption | (simp; omega)) V0; replace hx := hx.far V1 (noInt1 _ _ _) far.1; replace hy := hy.far V1 (noInt1 _ _ _) far.1; replace h2 := h2.far V1 (noInt1 _ _ _) far.1; replace g2 := g2.far V1 (noInt1 _ _ _) far.1; replace B0 := far.2 _ _ (by first | omega | (simp; omega)) B0; replace V1 := V'; clear oth far; refine (ncompare_any a2 b2 l2 c2 m2 d2 z2 y2 x8 h2 g2).mono ?_; rintro e x9 ⟨rfl, hb⟩; replace V0 := Va.after hb V0; replace V1 := Va.after hb V1; replace hx := Nt.after hb hx; replace hy := Nt.after hb hy; replace h2 := Nt.after hb h2; replace g2 := Nt.after hb g2; replace B0 := step B0 hb; clear hb; rw [E2.out.1, F2.out.1]
  by_cases hc : num xs * 2 ^ u < num ys * 2 ^ v
  ·
    (have hR2 : Hid (R = T - 1) := by show _ = _; rw [hR.out, if_pos hc]); rw [cmp3_lt hc]; clear hc hR; (go_wp2_with fail)
    go_ret
    exact ⟨by rw [hR2.out]; rfl, B0⟩
  ·
    (have hR2 : Hid (R = T) := by show _ = _; rw [hR.out, if_neg hc]); (obtain ⟨g, hg⟩ : ∃ g, cmp3 (num xs * 2 ^ u) (num ys * 2 ^ v) = g := ⟨_, rfl⟩); (have hg2 : decide (g < 0) = false := by rw [decide_eq_false_iff_not, ← hg, cmp3_neg_iff]; exact hc); rw [hg]; clear hg hc hR; (go_wp2_with fail)
    go_ret
    exact ⟨by rw [hR2.out]; rfl, B0⟩

theorem twoIn8 (a : Option Addr) (la ca : Nat) (xs : List Int) (b : Option Addr) (lb cb : Nat) (ys : List Int) (w : World) (hx : Nt w a la ca xs) (hy : Nt w b lb cb ys) (hl : Hid (la ≤ 1024 ∧ lb ≤ 1024 ∧ 0 < num ys)) :
    Calls Tryz.prog 96 #[.agg #[.slice a la ca], .agg #[.slice b lb cb]] w fun e w' => ∃ t, e = .returned (.int .i64 t) ∧ Hid (Tw (num xs) (num ys) t) ∧ Below w.heap.size w w' := by
  have ux : usedN xs = la := hx.2.1
  have uy : usedN ys = lb := hy.2.1
  obtain ⟨l1, l2, l3⟩ := hl.out
  have bx := bits_limbs hx.limbs
  have by' := bits_limbs hy.limbs
  obtain ⟨p, hp⟩ := Int.eq_ofNat_of_zero_le bx.1
  obtain ⟨q, hq⟩ := Int.eq_ofNat_of_zero_le by'.1
  have hp2 : p ≤ 65536 := by omega
  have hq2 : q ≤ 65536 := by omega
  obtain ⟨u, hu⟩ := Int.eq_ofNat_of_zero_le (show 0 ≤ max (-((p : Int) - q)) 0 by omega)
  obtain ⟨v, hv⟩ := Int.eq_ofNat_of_zero_le (show 0 ≤ max ((p : Int) - q) 0 by omega)
  have hy0 : 0 < usedN ys := by
    rcases Nat.eq_zero_or_pos (usedN ys) with g | g
    · have := (num_eq_zero hy.limbs).2 g; omega
    · exact g
  refine (twoIn_core a la ca xs b lb cb ys p q _ _ u v w hx hy hp hq rfl hu hv hp2 hq2 rfl).mono ?_
  rintro e w' ⟨rfl, hb⟩
  refine ⟨_, rfl, ?_, hb⟩
  show Tw _ _ _
  obtain ⟨j, f1, f2, f3⟩ := bits_spec hy.limbs hy0
  rcases Nat.eq_zero_or_pos (usedN xs) with g | g
  · have e0 := (num_eq_zero hx.limbs).2 g
    have eb := bits_nought g
    rw [e0, Int.zero_mul, if_pos (Int.mul_pos l3 (two_pos' v))]
    exact ⟨by omega, by omega, fun _ => by omega, fun h => by omega⟩
  · obtain ⟨k, e1, e2, e3⟩ := bits_spec hx.limbs g
    have := tw_of e2 e3 f2 f3 (by omega) (by omega) ((p : Int) - q) (by omega) u v hu.symm hv.symm
    split
    · rename_i h; exact this.1 h
    · rename_i h; exact this.2 h
end Go.Proofs.YtjlodljgfjjclaaGreat
