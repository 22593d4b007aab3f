/-
  Put together of: Rt7, Rt8, Rt9a, Lent5, Rt10, Rt11, Rl7.
-/
import Derived.Test.YtjlodljgfjjclaaGreatTk
import Derived.Test.YtjlodljgfjjclaaGreatBsL
import Derived.Test.YtjlodljgfjjclaaGreatRt3
import Derived.Test.YtjlodljgfjjclaaGreatBtA
import Derived.Test.YtjlodljgfjjclaaGreatBsJ
import Derived.Test.YtjlodljgfjjclaaGreatBsE
import Derived.Deep.RegionWith
import Derived.Test.YtjlodljgfjjclaaGreatBsI
import Derived.Test.YtjlodljgfjjclaaGreatAl
namespace Go.Proofs.YtjlodljgfjjclaaGreat
open Go.RowKit Go.Shelf
set_option linter.unusedVariables false

/-- A normal ratio of the document's: its lists can be read and are trimmed. -/
def Rr (w : World) (s : Bool) (a : Option Addr) (l c : Nat) (zs : List Int) (b : Option Addr) (m d : Nat) (ys : List Int) (v : Rat) : Prop :=
  Sl w a l zs ∧ Sl w b m ys ∧ usedN zs = l ∧ usedN ys = m ∧ (l ≤ c ∧ m ≤ d) ∧ iv s zs = v.num ∧ num ys = v.den ∧ (s = true → num zs ≠ 0)
theorem Rr.after {w w' : World} (hb : Below w.heap.size w w') {s : Bool} {a : Option Addr} {l c : Nat} {zs : List Int} {b : Option Addr} {m d : Nat} {ys : List Int} {v : Rat} (h : Rr w s a l c zs b m d ys v) : Rr w' s a l c zs b m d ys v := ⟨h.1.below hb (Nat.le_refl _), h.2.1.below hb (Nat.le_refl _), h.2.2⟩
theorem Rr.drw {w : World} {s : Bool} {a : Option Addr} {l c : Nat} {zs : List Int} {b : Option Addr} {m d : Nat} {ys : List Int} {v : Rat} (h : Rr w s a l c zs b m d ys v) : Rr w.drew s a l c zs b m d ys v := h
theorem Rr.far {w : World} {s : Bool} {a : Option Addr} {l c : Nat} {zs : List Int} {b : Option Addr} {m d : Nat} {ys : List Int} {v : Rat} (h : Rr w s a l c zs b m d ys v) {b' : Nat} {t : TypeId} {cs : Array Value} (V : Va w b' t cs) (hn : NoInt cs) {w' : World} (k : ∀ c, c ≠ b' → w'.heap[c]? = w.heap[c]?) : Rr w' s a l c zs b m d ys v := ⟨h.1.far V hn k, h.2.1.far V hn k, h.2.2⟩
theorem div_exact {x g q r : Int} (e : x = q * g + r) (r0 : 0 ≤ r) (hr : r < g) (hd : g ∣ x) : q * g = x := by
  obtain ⟨k, hk⟩ := hd
  have e2 : r = g * (k - q) := by rw [Int.mul_sub, ← hk, e, Int.mul_comm g]; omega
  rcases Int.lt_or_le (k - q) 1 with h1 | h1
  · have := Int.mul_le_mul_of_nonneg_left (show k - q ≤ 0 by omega) (show 0 ≤ g by omega); rw [Int.mul_zero] at this; omega
  · have := Int.mul_le_mul_of_nonneg_left h1 (show 0 ≤ g by omega); rw [Int.mul_one] at this; omega
/-- What the document's Make comes to. -/
theorem make_parts {n : Bool} {z0 z1 zg qs rs : List Int} (h0 : 0 ≤ num z0) (h1 : 0 < num z1) (hg : num zg = (Int.gcd (num z0) (num z1) : Nat)) (q0 : 0 ≤ num qs) (r0 : 0 ≤ num rs)
    (e1 : num qs * num zg = num z0) (e2 : num rs * num zg = num z1) : iv (n && decide (num qs ≠ 0)) qs = (Rat.divInt (iv n z0) (num z1)).num ∧ num rs = (Rat.divInt (iv n z0) (num z1)).den := by
  have hA : num z0 = ((iv n z0).natAbs : Int) := by cases n <;> simp only [iv_t, iv_f] <;> omega
  have hB : num z1 = ((num z1).natAbs : Int) := by omega
  have hq : (num qs = 0) ↔ (num z0 = 0) := by
    constructor
    · intro h; rw [h, Int.zero_mul] at e1; exact e1.symm
    · intro h
      rw [h] at e1
      rcases Int.mul_eq_zero.1 e1 with h' | h'
      · exact h'
      · rw [h', Int.mul_zero] at e2; omega
  have hr : num rs ≠ 0 := by intro h; rw [h, Int.zero_mul] at e2; omega
  obtain ⟨p1, p2⟩ := new_parts (X := iv n z0) (Y := num z1) (X' := iv n z0) (by omega) (by rw [if_neg (by omega)]) hA hB hg e1 e2 q0 r0 (b := n && decide (num qs ≠ 0)) (by
    cases n
    · rw [iv_f]; simp; exact h0
    · rw [iv_t]
      by_cases h : num qs = 0
      · rw [hq.1 h]; simp [h]
      · have hz : ¬ num z0 = 0 := fun h' => h (hq.2 h')
        rw [Int.sign_eq_neg_one_of_neg (by omega)]; simp [h])
  refine ⟨p1, ?_⟩
  rw [← p2]; unfold dn; rw [if_neg hr]

theorem rabs5 (x : Int) (h1 : -9223372036854775808 ≤ x) (h2 : x ≤ 9223372036854775807) (w : World) :
    Calls Tryz.prog 112 #[.int .i64 x] w fun e w' => e = .returned (.int .u64 (x.natAbs : Int)) ∧ Below w.heap.size w w' := by
  by_cases hx : x < 0
  · have e1 : IntKind.i64.wrap (x + 1) = x + 1 := by rw [IntKind.wrap_i64]; omega
    have e2 : IntKind.i64.wrap (-(x + 1)) = -(x + 1) := by rw [IntKind.wrap_i64]; omega
    have e3 : IntKind.u64.wrap (-(x + 1)) = -(x + 1) := by rw [IntKind.wrap_u64]; omega
    have e4 : IntKind.u64.wrap (-(x + 1) + 1) = (x.natAbs : Int) := by rw [IntKind.wrap_u64]; omega
    go_enter Tryz.func112, Tryz.ntmps112
    go_wp2_with fail
    go_ret
    exact ⟨rfl, Below.refl _ _⟩
  · have e1 : IntKind.u64.wrap x = (x.natAbs : Int) := by rw [IntKind.wrap_u64]; omega
    go_enter Tryz.func112, Tryz.ntmps112
    go_wp2_with fail
    go_ret
    exact ⟨rfl, Below.refl _ _⟩

set_option maxHeartbeats 4000000 in
theorem rmake5 (n : Bool) (a0 a1 : Option Addr) (l0 k0 l1 k1 : Nat) (z0 z1 : List Int) (w : World) (h0 : Sl w a0 l0 z0) (h1 : Sl w a1 l1 z1) (c0 : l0 ≤ k0) (c1 : l1 ≤ k1) (t0 : l0 ≤ 1000000) (t1 : l1 ≤ 1000000) (u0 : usedN z0 ≤ 4096) (u1 : usedN z1 ≤ 4096) (hz : num z1 ≠ 0) :
    Calls Tryz.prog 110 #[.bool n, .slice a0 l0 k0, .slice a1 l1 k1] w fun e w' => ∃ s' a' l' c' zs' b' m' d' ys', e = .returned (.agg #[.bool s', .slice a' l' c', .slice b' m' d']) ∧ Rr w' s' a' l' c' zs' b' m' d' ys' (Rat.divInt (iv n z0) (num z1)) ∧ l' ≤ 2 * l0 ∧ m' ≤ 2 * l1 ∧ Below w.heap.size w w' := by
  have B0 : Below w.heap.size w w := Below.refl _ _
  have p0 := num_nonneg h0.2.1
  have p1 := num_nonneg h1.2.1
  go_enter Tryz.func110, Tryz.ntmps110
  go_wp2_with fail
  refine ent1 w _ _ (Q := fun W => Calls Tryz.prog _ _ W _) ?_
  intro x1 hb hs_x1 V0
  replace h0 := Sl.after hb h0
  replace h1 := Sl.after hb h1
  replace B0 := step B0 hb
  clear hb hs_x1
  refine (rgcd_n a0 a1 l0 k0 l1 k1 z0 z1 x1 h0 h1 c0 c1 (by omega) (by omega) u0 u1).mono ?_
  rintro e x2 ⟨ag, mg, cg, zg, rfl, hcg, hg, ug, eg, hb⟩
  replace V0 := Va.after hb V0
  replace h0 := Sl.after hb h0
  replace h1 := Sl.after hb h1
  replace B0 := step B0 hb
  clear hb
  have HG : Hid (num zg ≠ 0 ∧ num zg ∣ num z0 ∧ num zg ∣ num z1) := by
    refine ⟨?_, ?_, ?_⟩
    · rw [eg]; exact gcd_ne hz
    · rw [eg]; exact Int.gcd_dvd_left ..
    · rw [eg]; exact Int.gcd_dvd_right ..
  have hmg : mg ≤ 4096 := by
    have hgl : num zg ≤ num z1 := Int.le_of_dvd (by omega) HG.out.2.2
    have := used_of_lt hg.2.1 (Int.lt_of_le_of_lt hgl (lt_of_used h1.2.1 u1))
    omega
  have HE : Hid (num zg = (Int.gcd (num z0) (num z1) : Nat)) := eg
  clear eg ug
  go_wp2_with fail
  refine (rdivmod_n a0 ag l0 k0 mg cg z0 zg x2 h0 hg c0 (by omega) (by omega) HG.out.1).mono ?_
  rintro e x3 ⟨aq, mq, cq, qs, ax, mx, cx, xs, rfl, hq, uq, hcq, hx, ux, hcx, e1, x0, x1, lq, lx, hb⟩
  replace V0 := Va.after hb V0
  replace h0 := Sl.after hb h0
  replace h1 := Sl.after hb h1
  replace hg := Sl.after hb hg
  replace B0 := step B0 hb
  clear hb
  have EQ : Hid (num qs * num zg = num z0) := div_exact e1 x0 x1 HG.out.2.1
  clear e1 x0 x1 lx ux hcx hx
  go_wp2_with fail
  refine (rdivmod_n a1 ag l1 k1 mg cg z1 zg x3 h1 hg c1 (by omega) (by omega) HG.out.1).mono ?_
  rintro e x4 ⟨ar, mr, cr, rs, ax, mx, cx, xs, rfl, hr, ur, hcr, hx, ux, hcx, e1, x0, x1, lr, lx, hb⟩
  replace V0 := Va.after hb V0
  replace h0 := Sl.after hb h0
  replace h1 := Sl.after hb h1
  replace hg := Sl.after hb hg
  replace hq := Sl.after hb hq
  replace B0 := step B0 hb
  clear hb
  have ER : Hid (num rs * num zg = num z1) := div_exact e1 x0 x1 HG.out.2.2
  clear e1 x0 x1 lx ux hcx hx
  have HP := make_parts (n := n) p0 (by omega) HE.out (num_nonneg hq.2.1) (num_nonneg hr.2.1) EQ.out ER.out
  have HPP : Hid (iv (n && decide (num qs ≠ 0)) qs = (Rat.divInt (iv n z0) (num z1)).num ∧ num rs = (Rat.divInt (iv n z0) (num z1)).den) := HP
  have hqz : num qs = 0 ↔ mq = 0 := by rw [num_eq_zero hq.2.1, uq]
  clear HP HE EQ ER HG
  have szz := B0.size
  cases n
  ·
    have c_V0 := V0.d0
    have f0_V0 := V0.frozen 0
    have d_V0 := V0.d1
    have f1_V0 := V0.frozen 1
    have e_V0 := V0.d2
    have f2_V0 := V0.frozen 2
    have l_V0 := V0.lt
    have m_V0 := Nat.le_of_lt l_V0
    go_wp2_with fail
    refine bodyPost_ret (results_ra rfl rfl (V0.set3 _ _ _)) rfl ?_
    refine ⟨false, aq, mq, cq, qs, ar, mr, cr, rs, rfl, ?_, lq, lr, belo3 B0 (Nat.le_refl _) _ _ _⟩
    refine Rr.far (V := V0) (hn := noInt3 _ _ _ _ _ _ _) (k := fa3 _ _ _ _ _) ⟨hq, hr, uq, ur, ⟨hcq, hcr⟩, ?_, HPP.out.2, ?_⟩
    · exact HPP.out.1
    · intro h; cases h
  ·
    by_cases hm : mq = 0
    ·
      have hd : decide (num qs ≠ 0) = false := by simp; exact hqz.2 hm
      rw [hd] at HPP
      subst hm
      have c_V0 := V0.d0
      have f0_V0 := V0.frozen 0
      have d_V0 := V0.d1
      have f1_V0 := V0.frozen 1
      have e_V0 := V0.d2
      have f2_V0 := V0.frozen 2
      have l_V0 := V0.lt
      have m_V0 := Nat.le_of_lt l_V0
      go_wp2_with fail
      refine bodyPost_ret (results_ra rfl rfl (V0.set3 _ _ _)) rfl ?_
      refine ⟨false, aq, 0, cq, qs, ar, mr, cr, rs, rfl, ?_, lq, lr, belo3 B0 (Nat.le_refl _) _ _ _⟩
      refine Rr.far (V := V0) (hn := noInt3 _ _ _ _ _ _ _) (k := fa3 _ _ _ _ _) ⟨hq, hr, uq, ur, ⟨hcq, hcr⟩, ?_, HPP.out.2, ?_⟩
      · exact HPP.out.1
      · intro h; cases h
    ·
      have hd : decide (num qs ≠ 0) = true := by simp; exact fun h => hm (hqz.1 h)
      rw [hd] at HPP
      have hm2 : 0 < mq := Nat.pos_of_ne_zero hm
      have c_V0 := V0.d0
      have f0_V0 := V0.frozen 0
      have d_V0 := V0.d1
      have f1_V0 := V0.frozen 1
      have e_V0 := V0.d2
      have f2_V0 := V0.frozen 2
      have l_V0 := V0.lt
      have m_V0 := Nat.le_of_lt l_V0
      go_wp2_with fail
      refine bodyPost_ret (results_ra rfl rfl (V0.set3 _ _ _)) rfl ?_
      refine ⟨true, aq, mq, cq, qs, ar, mr, cr, rs, rfl, ?_, lq, lr, belo3 B0 (Nat.le_refl _) _ _ _⟩
      refine Rr.far (V := V0) (hn := noInt3 _ _ _ _ _ _ _) (k := fa3 _ _ _ _ _) ⟨hq, hr, uq, ur, ⟨hcq, hcr⟩, ?_, HPP.out.2, ?_⟩
      · exact HPP.out.1
      · intro _; exact of_decide_eq_true hd

theorem small_div {x y : Int} (hy : y ≠ 0) {z0 z1 : List Int} (e0 : num z0 = (x.natAbs : Int)) (e1 : num z1 = (y.natAbs : Int)) : Rat.divInt (iv (!(decide (x < 0) == decide (y < 0))) z0) (num z1) = Rat.divInt x y := by
  rcases Int.lt_or_le y 0 with h | h
  · have e2 : num z1 = -y := by omega
    rw [e2, ← Rat.neg_divInt_neg x y]
    congr 1
    rcases Int.lt_or_le x 0 with h' | h'
    · simp [h, h', iv_f]; omega
    · have : ¬ x < 0 := by omega
      simp [h, this, iv_t]; omega
  · have e2 : num z1 = y := by omega
    have h2 : ¬ y < 0 := by omega
    rw [e2]
    congr 1
    rcases Int.lt_or_le x 0 with h' | h'
    · simp [h2, h', iv_t]; omega
    · have : ¬ x < 0 := by omega
      simp [h2, this, iv_f]; omega
set_option maxHeartbeats 4000000 in
theorem rsmall5 (x y : Int) (h1 : -9223372036854775808 ≤ x) (h2 : x ≤ 9223372036854775807) (h3 : -9223372036854775808 ≤ y) (h4 : y ≤ 9223372036854775807) (h0 : y ≠ 0) (w : World) :
    Calls Tryz.prog 80 #[.int .i64 x, .int .i64 y] w fun e w' => ∃ s' a' l' c' zs' b' m' d' ys', e = .returned (.agg #[.bool s', .slice a' l' c', .slice b' m' d']) ∧ Rr w' s' a' l' c' zs' b' m' d' ys' (Rat.divInt x y) ∧ l' ≤ 2 ∧ m' ≤ 2 ∧ Below w.heap.size w w' := by
  have B0 : Below w.heap.size w w := Below.refl _ _
  go_enter Tryz.func80, Tryz.ntmps80
  go_wp2_with fail
  refine ent1 w _ _ (Q := fun W => Calls Tryz.prog _ _ W _) ?_
  intro x1 hb hs_x1 V0
  replace B0 := step B0 hb
  clear hb hs_x1
  refine (rabs5 x h1 h2 x1).mono ?_
  rintro e x2 ⟨rfl, hb⟩
  replace V0 := Va.after hb V0
  replace B0 := step B0 hb
  clear hb
  go_wp2_with fail
  refine (rsmall_any (x.natAbs : Int) ⟨by omega, by omega⟩ x2).mono ?_
  rintro e x3 ⟨a0, l0, k0, z0, rfl, c0, t0, s0, u0, n0, hb⟩
  replace V0 := Va.after hb V0
  replace B0 := step B0 hb
  clear hb
  go_wp2_with fail
  refine (rabs5 y h3 h4 x3).mono ?_
  rintro e x4 ⟨rfl, hb⟩
  replace V0 := Va.after hb V0
  replace s0 := Sl.after hb s0
  replace B0 := step B0 hb
  clear hb
  go_wp2_with fail
  refine (rsmall_any (y.natAbs : Int) ⟨by omega, by omega⟩ x4).mono ?_
  rintro e x5 ⟨a1, l1, k1, z1, rfl, c1, t1, s1, u1, n1, hb⟩
  replace V0 := Va.after hb V0
  replace s0 := Sl.after hb s0
  replace B0 := step B0 hb
  clear hb
  go_wp2_with fail
  refine (rmake5 _ a0 a1 l0 k0 l1 k1 z0 z1 x5 s0 s1 c0 c1 (by omega) (by omega) (by omega) (by omega) (by omega)).mono ?_
  rintro e x6 ⟨s', a', l', c', zs', b', m', d', ys', rfl, h', g1, g2, hb⟩
  replace V0 := Va.after hb V0
  replace s0 := Sl.after hb s0
  replace s1 := Sl.after hb s1
  replace B0 := step B0 hb
  clear hb
  rw [small_div h0 n0 n1] at h'
  have c_V0 := V0.d0
  have f0_V0 := V0.frozen 0
  have d_V0 := V0.d1
  have f1_V0 := V0.frozen 1
  have e_V0 := V0.d2
  have f2_V0 := V0.frozen 2
  have l_V0 := V0.lt
  have m_V0 := Nat.le_of_lt l_V0
  go_wp2_with fail
  refine bodyPost_ret (results_ra rfl rfl (V0.set3 _ _ _)) rfl ?_
  exact ⟨s', a', l', c', zs', b', m', d', ys', rfl, h'.far V0 (noInt3 _ _ _ _ _ _ _) (fa3 _ _ _ _ _), by omega, by omega, belo3 B0 (Nat.le_refl _) _ _ _⟩

theorem rint5 (x : Int) (h1 : -9223372036854775808 ≤ x) (h2 : x ≤ 9223372036854775807) (w : World) :
    Calls Tryz.prog 40 #[.int .i64 x] w fun e w' => ∃ s' a' l' c' zs' b' m' d' ys', e = .returned (.agg #[.bool s', .slice a' l' c', .slice b' m' d']) ∧ Rr w' s' a' l' c' zs' b' m' d' ys' (Rat.divInt x 1) ∧ l' ≤ 2 ∧ m' ≤ 2 ∧ Below w.heap.size w w' := by
  have B0 : Below w.heap.size w w := Below.refl _ _
  go_enter Tryz.func40, Tryz.ntmps40
  go_wp2_with fail
  refine ent1 w _ _ (Q := fun W => Calls Tryz.prog _ _ W _) ?_
  intro x1 hb hs_x1 V0
  replace B0 := step B0 hb
  clear hb hs_x1
  refine (rsmall5 x 1 h1 h2 (by omega) (by omega) (by omega) x1).mono ?_
  rintro e x2 ⟨s', a', l', c', zs', b', m', d', ys', rfl, h', g1, g2, hb⟩
  replace V0 := Va.after hb V0
  replace B0 := step B0 hb
  clear hb
  have c_V0 := V0.d0
  have f0_V0 := V0.frozen 0
  have d_V0 := V0.d1
  have f1_V0 := V0.frozen 1
  have e_V0 := V0.d2
  have f2_V0 := V0.frozen 2
  have l_V0 := V0.lt
  have m_V0 := Nat.le_of_lt l_V0
  go_wp2_with fail
  refine bodyPost_ret (results_ra rfl rfl (V0.set3 _ _ _)) rfl ?_
  exact ⟨s', a', l', c', zs', b', m', d', ys', rfl, h'.far V0 (noInt3 _ _ _ _ _ _ _) (fa3 _ _ _ _ _), g1, g2, belo3 B0 (Nat.le_refl _) _ _ _⟩
end Go.Proofs.YtjlodljgfjjclaaGreat

namespace Go.Proofs.YtjlodljgfjjclaaGreat
open Go.RowKit Go.Shelf
set_option linter.unusedVariables false

set_option maxHeartbeats 1000000 in
theorem sameq_any (a b : Option Addr) (la ca cb : Nat) (xs : List Int) (w : World) (ha : Sl w a la xs) (hb : Sl w b la xs) (h1 : la ≤ 40000000000000) :
    Calls Tryz.prog 48 #[.slice a la ca, .slice b la cb] w fun e w' => e = .returned (.bool true) ∧ ∃ n, w' = w.drewN n := by
  have hza := ha.1
  have g1 : ((la : Int) != la) = false := by simp
  by_cases h0 : la = 0
  · subst h0
    clear ha hb
    go_enter Tryz.func48, Tryz.ntmps48
    go_wp2_with fail
    refine wp_loop_rounds 1 ?_
    rw [rounds_succ]
    go_wp2_with fail
    go_ret
    exact ⟨rfl, 0, rfl⟩
  · obtain ⟨ba, oa, rfl, hca⟩ := ha.2.2 (by omega)
    obtain ⟨bb, ob, rfl, hcb⟩ := hb.2.2 (by omega)
    clear ha hb
    go_enter Tryz.func48, Tryz.ntmps48
    go_wp2_with fail
    go_loopw [5] (fun i wr => ∃ k : Nat, k ≤ la ∧ i = .int .i64 k ∧ ∃ q, wr = w.drewN q) (fun i _ => la - (intOf i).toNat)
    case atStart => exact ⟨0, Nat.zero_le _, rfl, 0, rfl⟩
    case round =>
      obtain ⟨k, hk, rfl, q, rfl⟩ := hrel
      by_cases hlt : k < la
      · have hcx := hca k (by omega)
        have hcy := hcb k (by omega)
        obtain ⟨x, hx⟩ : ∃ x, xs.getD k 0 = x := ⟨_, rfl⟩
        rw [hx] at hcx hcy
        clear hx
        have g2 : (x != x) = false := by simp
        go_wp2_with fail
        go_quiet (fail)
        go_wp2_with fail
        go_roundw
        case rel => exact ⟨k + 1, by omega, by go_num, q + nq, rfl⟩
        case measure => simp [intOf]; omega
      · go_wp2_with fail
        go_ret
        exact ⟨rfl, q, rfl⟩


theorem sameq_b (a b : Option Addr) (la ca cb : Nat) (xs : List Int) (w : World) (ha : Sl w a la xs) (hb : Sl w b la xs) (h1 : la ≤ 40000000000000) :
    Calls Tryz.prog 48 #[.slice a la ca, .slice b la cb] w fun e w' => e = .returned (.bool true) ∧ Below w.heap.size w w' := by
  refine (sameq_any a b la ca cb xs w ha hb h1).mono ?_
  rintro e w' ⟨rfl, n, rfl⟩
  exact ⟨rfl, below_drewN (Below.refl _ _) n⟩

set_option maxHeartbeats 4000000 in
theorem rsame5 (s : Bool) (a1 a2 b1 b2 : Option Addr) (l m c1 c2 d1 d2 : Nat) (xs ys : List Int) (w : World) (h1 : Sl w a1 l xs) (h2 : Sl w a2 l xs) (h3 : Sl w b1 m ys) (h4 : Sl w b2 m ys) (hl : l ≤ 40000000000000) (hm : m ≤ 40000000000000) :
    Calls Tryz.prog 13 #[.agg #[.bool s, .slice a1 l c1, .slice b1 m d1], .agg #[.bool s, .slice a2 l c2, .slice b2 m d2]] w fun e w' => e = .returned (.bool true) ∧ Below w.heap.size w w' := by
  have hss : (s == s) = true := by simp
  have B0 : Below w.heap.size w w := Below.refl _ _
  go_enter Tryz.func13, Tryz.ntmps13
  go_wp2_with fail
  refine ent2 w _ _ _ _ (Q := fun W => Calls Tryz.prog _ _ W _) ?_
  intro x1 hb hs_x1 V0 V1
  replace h1 := Sl.after hb h1
  replace h2 := Sl.after hb h2
  replace h3 := Sl.after hb h3
  replace h4 := Sl.after hb h4
  replace B0 := step B0 hb
  clear hb hs_x1
  refine (sameq_b a1 a2 l c1 c2 xs x1 h1 h2 hl).mono ?_
  rintro e x2 ⟨rfl, hb⟩
  replace V0 := Va.after hb V0
  replace V1 := Va.after hb V1
  replace h1 := Sl.after hb h1
  replace h2 := Sl.after hb h2
  replace h3 := Sl.after hb h3
  replace h4 := Sl.after hb h4
  replace B0 := step B0 hb
  clear hb
  have c_V0 := V0.d0
  have f0_V0 := V0.frozen 0
  have d_V0 := V0.d1
  have f1_V0 := V0.frozen 1
  have e_V0 := V0.d2
  have f2_V0 := V0.frozen 2
  have l_V0 := V0.lt
  have m_V0 := Nat.le_of_lt l_V0
  have c_V1 := V1.d0
  have f0_V1 := V1.frozen 0
  have d_V1 := V1.d1
  have f1_V1 := V1.frozen 1
  have e_V1 := V1.d2
  have f2_V1 := V1.frozen 2
  have l_V1 := V1.lt
  have m_V1 := Nat.le_of_lt l_V1
  go_wp2_with fail
  refine (sameq_b b1 b2 m d1 d2 ys x2 h3 h4 hm).mono ?_
  rintro e x3 ⟨rfl, hb⟩
  replace V0 := Va.after hb V0
  replace V1 := Va.after hb V1
  replace h1 := Sl.after hb h1
  replace h2 := Sl.after hb h2
  replace h3 := Sl.after hb h3
  replace h4 := Sl.after hb h4
  replace B0 := step B0 hb
  clear hb
  clear c_V0 f0_V0 d_V0 f1_V0 e_V0 f2_V0 l_V0 m_V0 c_V1 f0_V1 d_V1 f1_V1 e_V1 f2_V1 l_V1 m_V1
  have c_V0 := V0.d0
  have f0_V0 := V0.frozen 0
  have d_V0 := V0.d1
  have f1_V0 := V0.frozen 1
  have e_V0 := V0.d2
  have f2_V0 := V0.frozen 2
  have l_V0 := V0.lt
  have m_V0 := Nat.le_of_lt l_V0
  have c_V1 := V1.d0
  have f0_V1 := V1.frozen 0
  have d_V1 := V1.d1
  have f1_V1 := V1.frozen 1
  have e_V1 := V1.d2
  have f2_V1 := V1.frozen 2
  have l_V1 := V1.lt
  have m_V1 := Nat.le_of_lt l_V1
  go_wp2_with fail
  go_ret
  exact ⟨rfl, B0⟩

theorem trim_one {xs ys : List Int} (hx : Limbs xs) (hy : Limbs ys) (ux : usedN xs = xs.length) (uy : usedN ys = ys.length) (e : num xs = num ys) : xs = ys := by
  obtain ⟨e1, e2⟩ := one_list hx hy rfl ux e
  rw [uy, List.take_of_length_le (Nat.le_refl _)] at e2
  exact e2
/-- What Plain tells of a number is the document's ratio of it. -/
theorem rt_rr {w w' : World} {s : Bool} {a : Option Addr} {l c : Nat} {zs : List Int} {b : Option Addr} {m d : Nat} {ds : List Int} {v : Rat} {s2 : Bool} {a2 : Option Addr} {l2 c2 : Nat} {xs : List Int} {b2 : Option Addr} {m2 d2 : Nat} {es : List Int}
    (h : Rt w s a l c zs b m d ds v) (g : Rr w' s2 a2 l2 c2 xs b2 m2 d2 es v) {ys : List Int} (hy : Limbs ys ∧ usedN ys = ys.length ∧ num ys = v.den) : s2 = s ∧ l2 = l ∧ xs = zs ∧ m2 = ys.length ∧ es = ys := by
  have e1 : s = decide (v.num < 0) := by rw [← h.2.2.1]; exact h.1.sign
  have g0 : 0 ≤ num xs := num_nonneg g.1.2.1
  have e2 : s2 = decide (v.num < 0) := by
    rw [← g.2.2.2.2.2.1]
    cases s2
    · rw [iv_f]; symm; simp; omega
    · have := g.2.2.2.2.2.2.2 rfl; rw [iv_t]; symm; simp; omega
  have es' : s2 = s := by rw [e1, e2]
  subst es'
  have en : num xs = num zs := by
    have q1 := h.2.2.1
    have q2 := g.2.2.2.2.2.1
    cases s2 <;> simp only [iv_t, iv_f] at q1 q2 <;> omega
  have z1 := h.1.1.1.1
  have z2 := g.1.1
  have z3 := g.2.1.1
  have x1 := trim_one g.1.2.1 h.1.1.limbs (by rw [g.2.2.1, z2]) (by rw [h.1.1.2.1, z1]) en
  have x2 := trim_one g.2.1.2.1 hy.1 (by rw [g.2.2.2.1, z3]) hy.2.1 (by rw [g.2.2.2.2.2.2.1, hy.2.2])
  exact ⟨rfl, by rw [← z2, ← z1, x1], x1, by rw [← z3, x2], x2⟩
theorem Ow.sl {w : World} {g : Nat} {cs : List Int} (h : Ow w g cs) (hL : Limbs cs) {n : Nat} (hn : cs.length = n) : Sl w (some ⟨g, 0, none⟩) n cs := by subst hn; exact Own.sl h hL
theorem len_4096 {zs : List Int} {w : World} {a : Option Addr} {l c : Nat} (h : Nt w a l c zs) : l ≤ 4096 := h.2.2.2
theorem den_4096 {ys : List Int} {v : Rat} (hv : Short v) (hy : Limbs ys ∧ usedN ys = ys.length ∧ num ys = v.den) : ys.length ≤ 1024 := by
  have := used_of_lt hy.1 (n := 1024) (by rw [hy.2.2]; exact hv.2)
  omega

end Go.Proofs.YtjlodljgfjjclaaGreat

namespace Go.Proofs.YtjlodljgfjjclaaGreat
open Go.RowKit Go.Shelf
set_option linter.unusedVariables false

/-- A ratio is normal. -/
def Norm (s : Bool) (zs ys : List Int) : Prop := usedN zs = zs.length ∧ usedN ys = ys.length ∧ ys.length ≠ 0 ∧ ¬ (s = true ∧ zs.length = 0) ∧ Int.gcd (num zs) (num ys) = 1
/-- A ratio that is handed in. -/
def Ri (w : World) (a : Option Addr) (l c : Nat) (zs : List Int) (b : Option Addr) (m d : Nat) (ys : List Int) : Prop := Sl w a l zs ∧ Sl w b m ys ∧ l ≤ c ∧ m ≤ d
theorem Ri.after {w w' : World} (hb : Below w.heap.size w w') {a : Option Addr} {l c : Nat} {zs : List Int} {b : Option Addr} {m d : Nat} {ys : List Int} (h : Ri w a l c zs b m d ys) : Ri w' a l c zs b m d ys := ⟨h.1.below hb (Nat.le_refl _), h.2.1.below hb (Nat.le_refl _), h.2.2⟩
theorem Ri.drw {w : World} {a : Option Addr} {l c : Nat} {zs : List Int} {b : Option Addr} {m d : Nat} {ys : List Int} (h : Ri w a l c zs b m d ys) : Ri w.drew a l c zs b m d ys := h
theorem Ri.far {w : World} {a : Option Addr} {l c : Nat} {zs : List Int} {b : Option Addr} {m d : Nat} {ys : List Int} (h : Ri w a l c zs b m d ys) {b' : Nat} {t : TypeId} {cs : Array Value} (V : Va w b' t cs) (hn : NoInt cs) {w' : World} (k : ∀ c, c ≠ b' → w'.heap[c]? = w.heap[c]?) : Ri w' a l c zs b m d ys := ⟨h.1.far V hn k, h.2.1.far V hn k, h.2.2⟩
theorem used_last {zs : List Int} {k : Nat} (h : zs.length = k + 1) : (usedN zs = k + 1) ↔ zs.getD k 0 ≠ 0 := by
  constructor
  · intro e
    have := usedN_top zs (by omega)
    rw [e] at this
    exact this
  · intro e
    exact usedN_eq (by omega) (fun i h1 h2 => by omega) (Or.inr (by simpa using e))
/-- A normal ratio is a number. -/
theorem norm_rat {s : Bool} {zs ys : List Int} (hz : Limbs zs) (hy : Limbs ys) (h : Norm s zs ys) : ∃ v : Rat, iv s zs = v.num ∧ num ys = v.den ∧ (s = true → num zs ≠ 0) := by
  have z0 := num_nonneg hz
  have y0 := num_nonneg hy
  have y1 : num ys ≠ 0 := fun e => h.2.2.1 (by rw [← h.2.1]; exact (num_eq_zero hy).1 e)
  have c : (iv s zs).natAbs.gcd (num ys).toNat = 1 := by
    have e1 : (iv s zs).natAbs = (num zs).natAbs := by cases s <;> simp only [iv_t, iv_f] <;> omega
    have e2 : (num ys).toNat = (num ys).natAbs := by omega
    rw [e1, e2]
    exact h.2.2.2.2
  refine ⟨⟨iv s zs, (num ys).toNat, by omega, c⟩, rfl, by show num ys = ((num ys).toNat : Int); omega, fun e1 e2 => h.2.2.2.1 ⟨e1, by rw [← h.1]; exact (num_eq_zero hz).1 e2⟩⟩

theorem trimmed5 (a : Option Addr) (l c : Nat) (zs : List Int) (w : World) (h : Sl w a l zs) (hl : l ≤ 40000000000000) :
    Calls Tryz.prog 52 #[.slice a l c] w fun e w' => e = .returned (.bool (decide (usedN zs = l))) ∧ Below w.heap.size w w' := by
  rcases l with _ | k
  · have e0 : decide (usedN zs = 0) = true := by simp; have := usedN_le zs; have := h.1; omega
    rw [e0]
    clear e0 h
    go_enter Tryz.func52, Tryz.ntmps52
    go_wp2_with fail
    go_ret
    exact ⟨rfl, Below.refl _ _⟩
  · obtain ⟨b, off, rfl, hc⟩ := h.2.2 (by omega)
    have hck := hc k (by omega)
    have hu := used_last h.1
    obtain ⟨x, hx⟩ : ∃ x, zs.getD k 0 = x := ⟨_, rfl⟩
    rw [hx] at hck hu
    have e1 : (x != 0) = decide (usedN zs = k + 1) := by
      by_cases hh : x = 0
      · subst hh; simp at hu; simp; omega
      · simp only [hu.2 hh]; simp [hh]
    have e2 : IntKind.i64.wrap ((((k + 1 : Nat) : Int)) - 1) = (k : Int) := by rw [IntKind.wrap_i64]; omega
    obtain ⟨q, hq⟩ : ∃ q : Bool, decide (usedN zs = k + 1) = q := ⟨_, rfl⟩
    rw [hq] at e1 ⊢
    clear hq hu hx hc h
    go_enter Tryz.func52, Tryz.ntmps52
    go_wp2_with fail
    go_ret
    exact ⟨rfl, Below.refl _ _⟩

theorem one5 (w : World) :
    Calls Tryz.prog 55 #[] w fun e w' => ∃ g, e = .returned (.slice (some ⟨g, 0, none⟩) 1 1) ∧ Sl w' (some ⟨g, 0, none⟩) 1 [1] ∧ Below w.heap.size w w' := by
  go_enter Tryz.func55, Tryz.ntmps55
  go_wp2_with fail
  go_ret
  exact ⟨w.heap.size, rfl, sl_one w 1 ⟨by omega, by omega⟩, (Below.refl _ _).alloc (Nat.le_refl _) _⟩

/-- What Check answers. -/
def Chk (s : Bool) (l m : Nat) (zs ys : List Int) (er : Int) : Prop := (er = 3 ∧ (1024 < l ∨ 1024 < m)) ∨ (er = 50 ∧ l ≤ 1024 ∧ m ≤ 1024 ∧ ¬ Norm s zs ys) ∨ (er = 0 ∧ l ≤ 1024 ∧ m ≤ 1024 ∧ Norm s zs ys)
set_option maxHeartbeats 8000000 in
theorem check5 (s : Bool) (a : Option Addr) (l c : Nat) (zs : List Int) (b : Option Addr) (m d : Nat) (ys : List Int) (w : World) (h : Ri w a l c zs b m d ys) :
    Calls Tryz.prog 15 #[.agg #[.bool s, .slice a l c, .slice b m d]] w fun e w' => ∃ er, e = .returned (.int .i64 er) ∧ Hid (Chk s l m zs ys er) ∧ Below w.heap.size w w' := by
  have hzl := h.1.1
  have hyl := h.2.1.1
  by_cases h1 : 1024 < l
  ·
    have B0 : Below w.heap.size w w := Below.refl _ _
    go_enter Tryz.func15, Tryz.ntmps15
    go_wp2_with fail
    go_ret
    exact ⟨_, rfl, Or.inl ⟨rfl, Or.inl h1⟩, B0.alloc (Nat.le_refl _) _⟩
  by_cases h2 : 1024 < m
  ·
    have B0 : Below w.heap.size w w := Below.refl _ _
    go_enter Tryz.func15, Tryz.ntmps15
    go_wp2_with fail
    go_ret
    exact ⟨_, rfl, Or.inl ⟨rfl, Or.inr h2⟩, B0.alloc (Nat.le_refl _) _⟩
  have HT : Hid (l ≤ 1024 ∧ m ≤ 1024) := ⟨by omega, by omega⟩
  have hl : l ≤ 40000000000000 := by omega
  have hm : m ≤ 40000000000000 := by omega
  by_cases u1 : usedN zs = l
  rotate_left
  ·
    have B0 : Below w.heap.size w w := Below.refl _ _
    go_enter Tryz.func15, Tryz.ntmps15
    go_wp2_with fail
    refine ent1 w _ _ (Q := fun W => Calls Tryz.prog _ _ W _) ?_
    intro x1 hb hs_x1 V0
    replace h := Ri.after hb h
    replace B0 := step B0 hb
    clear hb hs_x1
    refine (trimmed5 a l c zs x1 h.1 hl).mono ?_
    rintro e x2 ⟨rfl, hb⟩
    replace V0 := Va.after hb V0
    replace h := Ri.after hb h
    replace B0 := step B0 hb
    clear hb
    rw [decide_eq_false u1]
    have c_V0 := V0.d0
    have f0_V0 := V0.frozen 0
    have d_V0 := V0.d1
    have f1_V0 := V0.frozen 1
    have e_V0 := V0.d2
    have f2_V0 := V0.frozen 2
    have l_V0 := V0.lt
    have m_V0 := Nat.le_of_lt l_V0
    go_wp2_with fail
    go_ret
    exact ⟨_, rfl, Or.inr (Or.inl ⟨rfl, HT.out.1, HT.out.2, fun e => u1 (by rw [e.1, hzl])⟩), B0⟩
  by_cases u2 : usedN ys = m
  rotate_left
  ·
    have B0 : Below w.heap.size w w := Below.refl _ _
    go_enter Tryz.func15, Tryz.ntmps15
    go_wp2_with fail
    refine ent1 w _ _ (Q := fun W => Calls Tryz.prog _ _ W _) ?_
    intro x1 hb hs_x1 V0
    replace h := Ri.after hb h
    replace B0 := step B0 hb
    clear hb hs_x1
    refine (trimmed5 a l c zs x1 h.1 hl).mono ?_
    rintro e x2 ⟨rfl, hb⟩
    replace V0 := Va.after hb V0
    replace h := Ri.after hb h
    replace B0 := step B0 hb
    clear hb
    rw [decide_eq_true u1]
    have c_V0 := V0.d0
    have f0_V0 := V0.frozen 0
    have d_V0 := V0.d1
    have f1_V0 := V0.frozen 1
    have e_V0 := V0.d2
    have f2_V0 := V0.frozen 2
    have l_V0 := V0.lt
    have m_V0 := Nat.le_of_lt l_V0
    go_wp2_with fail
    refine (trimmed5 b m d ys x2 h.2.1 hm).mono ?_
    rintro e x3 ⟨rfl, hb⟩
    replace V0 := Va.after hb V0
    replace h := Ri.after hb h
    replace B0 := step B0 hb
    clear hb
    rw [decide_eq_false u2]
    clear c_V0 f0_V0 d_V0 f1_V0 e_V0 f2_V0 l_V0 m_V0
    have c_V0 := V0.d0
    have f0_V0 := V0.frozen 0
    have d_V0 := V0.d1
    have f1_V0 := V0.frozen 1
    have e_V0 := V0.d2
    have f2_V0 := V0.frozen 2
    have l_V0 := V0.lt
    have m_V0 := Nat.le_of_lt l_V0
    go_wp2_with fail
    go_ret
    exact ⟨_, rfl, Or.inr (Or.inl ⟨rfl, HT.out.1, HT.out.2, fun e => u2 (by rw [e.2.1, hyl])⟩), B0⟩
  have HU : Hid (usedN zs = l ∧ usedN ys = m) := ⟨u1, u2⟩
  by_cases m0 : m = 0
  · subst m0
    have B0 : Below w.heap.size w w := Below.refl _ _
    go_enter Tryz.func15, Tryz.ntmps15
    go_wp2_with fail
    refine ent1 w _ _ (Q := fun W => Calls Tryz.prog _ _ W _) ?_
    intro x1 hb hs_x1 V0
    replace h := Ri.after hb h
    replace B0 := step B0 hb
    clear hb hs_x1
    refine (trimmed5 a l c zs x1 h.1 hl).mono ?_
    rintro e x2 ⟨rfl, hb⟩
    replace V0 := Va.after hb V0
    replace h := Ri.after hb h
    replace B0 := step B0 hb
    clear hb
    rw [decide_eq_true u1]
    have c_V0 := V0.d0
    have f0_V0 := V0.frozen 0
    have d_V0 := V0.d1
    have f1_V0 := V0.frozen 1
    have e_V0 := V0.d2
    have f2_V0 := V0.frozen 2
    have l_V0 := V0.lt
    have m_V0 := Nat.le_of_lt l_V0
    go_wp2_with fail
    refine (trimmed5 b 0 d ys x2 h.2.1 hm).mono ?_
    rintro e x3 ⟨rfl, hb⟩
    replace V0 := Va.after hb V0
    replace h := Ri.after hb h
    replace B0 := step B0 hb
    clear hb
    rw [decide_eq_true u2]
    clear c_V0 f0_V0 d_V0 f1_V0 e_V0 f2_V0 l_V0 m_V0
    have c_V0 := V0.d0
    have f0_V0 := V0.frozen 0
    have d_V0 := V0.d1
    have f1_V0 := V0.frozen 1
    have e_V0 := V0.d2
    have f2_V0 := V0.frozen 2
    have l_V0 := V0.lt
    have m_V0 := Nat.le_of_lt l_V0
    go_wp2_with fail
    go_ret
    exact ⟨_, rfl, Or.inr (Or.inl ⟨rfl, HT.out.1, HT.out.2, fun e => e.2.2.1 hyl⟩), B0⟩
  have m1 : 0 < m := Nat.pos_of_ne_zero m0
  have mb : ((m : Int) == 0) = false := by simp; omega
  cases s
  ·
    have B0 : Below w.heap.size w w := Below.refl _ _
    go_enter Tryz.func15, Tryz.ntmps15
    go_wp2_with fail
    refine ent1 w _ _ (Q := fun W => Calls Tryz.prog _ _ W _) ?_
    intro x1 hb hs_x1 V0
    replace h := Ri.after hb h
    replace B0 := step B0 hb
    clear hb hs_x1
    refine (trimmed5 a l c zs x1 h.1 hl).mono ?_
    rintro e x2 ⟨rfl, hb⟩
    replace V0 := Va.after hb V0
    replace h := Ri.after hb h
    replace B0 := step B0 hb
    clear hb
    rw [decide_eq_true u1]
    have c_V0 := V0.d0
    have f0_V0 := V0.frozen 0
    have d_V0 := V0.d1
    have f1_V0 := V0.frozen 1
    have e_V0 := V0.d2
    have f2_V0 := V0.frozen 2
    have l_V0 := V0.lt
    have m_V0 := Nat.le_of_lt l_V0
    go_wp2_with fail
    refine (trimmed5 b m d ys x2 h.2.1 hm).mono ?_
    rintro e x3 ⟨rfl, hb⟩
    replace V0 := Va.after hb V0
    replace h := Ri.after hb h
    replace B0 := step B0 hb
    clear hb
    rw [decide_eq_true u2]
    clear c_V0 f0_V0 d_V0 f1_V0 e_V0 f2_V0 l_V0 m_V0
    have c_V0 := V0.d0
    have f0_V0 := V0.frozen 0
    have d_V0 := V0.d1
    have f1_V0 := V0.frozen 1
    have e_V0 := V0.d2
    have f2_V0 := V0.frozen 2
    have l_V0 := V0.lt
    have m_V0 := Nat.le_of_lt l_V0
    go_wp2_with fail
    refine (rgcd_n a b l c m d zs ys x3 h.1 h.2.1 h.2.2.1 h.2.2.2 (by omega) (by omega) (by have := HU.out.1; have := HT.out.1; omega) (by have := HU.out.2; have := HT.out.2; omega)).mono ?_
    rintro e x4 ⟨ag, mg, cg, zg, rfl, hcg, hg, ug, eg, hb⟩
    replace V0 := Va.after hb V0
    replace h := Ri.after hb h
    replace B0 := step B0 hb
    clear hb
    have EG : Hid (num zg = (Int.gcd (num zs) (num ys) : Nat)) := eg
    have hmg : mg ≤ 1024 := by
      have y0 := num_nonneg h.2.1.2.1
      have yn : num ys ≠ 0 := fun e => m0 (by rw [← HU.out.2]; exact (num_eq_zero h.2.1.2.1).1 e)
      have hgl : num zg ≤ num ys := Int.le_of_dvd (by omega) (by rw [eg]; exact Int.gcd_dvd_right ..)
      have := used_of_lt hg.2.1 (n := 1024) (Int.lt_of_le_of_lt hgl (lt_of_used h.2.1.2.1 (by rw [HU.out.2]; exact HT.out.2)))
      omega
    clear eg
    clear c_V0 f0_V0 d_V0 f1_V0 e_V0 f2_V0 l_V0 m_V0
    have c_V0 := V0.d0
    have f0_V0 := V0.frozen 0
    have d_V0 := V0.d1
    have f1_V0 := V0.frozen 1
    have e_V0 := V0.d2
    have f2_V0 := V0.frozen 2
    have l_V0 := V0.lt
    have m_V0 := Nat.le_of_lt l_V0
    go_wp2_with fail
    refine (one5 x4).mono ?_
    rintro e x5 ⟨g1, rfl, hg1, hb⟩
    replace V0 := Va.after hb V0
    replace h := Ri.after hb h
    replace hg := Sl.after hb hg
    replace B0 := step B0 hb
    clear hb
    clear c_V0 f0_V0 d_V0 f1_V0 e_V0 f2_V0 l_V0 m_V0
    have c_V0 := V0.d0
    have f0_V0 := V0.frozen 0
    have d_V0 := V0.d1
    have f1_V0 := V0.frozen 1
    have e_V0 := V0.d2
    have f2_V0 := V0.frozen 2
    have l_V0 := V0.lt
    have m_V0 := Nat.le_of_lt l_V0
    go_wp2_with fail
    refine (rcompare_n ag (some ⟨g1, 0, none⟩) mg cg 1 1 zg [1] x5 hg hg1 (by omega) (by omega) hcg (by omega)).mono ?_
    rintro e x6 ⟨rfl, hb⟩
    replace V0 := Va.after hb V0
    replace h := Ri.after hb h
    replace hg := Sl.after hb hg
    replace hg1 := Sl.after hb hg1
    replace B0 := step B0 hb
    clear hb
    have n1 : num [1] = 1 := by simp [num]
    rw [n1, EG.out]
    clear n1
    by_cases g1' : Int.gcd (num zs) (num ys) = 1
    ·
      have ec : cmp3 ((Int.gcd (num zs) (num ys) : Nat) : Int) 1 = 0 := by rw [g1']; rfl
      rw [ec]
      clear c_V0 f0_V0 d_V0 f1_V0 e_V0 f2_V0 l_V0 m_V0
      have c_V0 := V0.d0
      have f0_V0 := V0.frozen 0
      have d_V0 := V0.d1
      have f1_V0 := V0.frozen 1
      have e_V0 := V0.d2
      have f2_V0 := V0.frozen 2
      have l_V0 := V0.lt
      have m_V0 := Nat.le_of_lt l_V0
      go_wp2_with fail
      go_ret
      exact ⟨_, rfl, Or.inr (Or.inr ⟨rfl, HT.out.1, HT.out.2, by rw [hzl]; exact HU.out.1, by rw [hyl]; exact HU.out.2, by rw [hyl]; exact m0, (fun e => by cases e.1), g1'⟩), B0⟩
    ·
      have gp : 0 < Int.gcd (num zs) (num ys) := Int.gcd_pos_of_ne_zero_right _ (fun e => m0 (by rw [← HU.out.2]; exact (num_eq_zero h.2.1.2.1).1 e))
      have ec : cmp3 ((Int.gcd (num zs) (num ys) : Nat) : Int) 1 = 1 := cmp3_gt (by omega)
      rw [ec]
      clear c_V0 f0_V0 d_V0 f1_V0 e_V0 f2_V0 l_V0 m_V0
      have c_V0 := V0.d0
      have f0_V0 := V0.frozen 0
      have d_V0 := V0.d1
      have f1_V0 := V0.frozen 1
      have e_V0 := V0.d2
      have f2_V0 := V0.frozen 2
      have l_V0 := V0.lt
      have m_V0 := Nat.le_of_lt l_V0
      go_wp2_with fail
      go_ret
      exact ⟨_, rfl, Or.inr (Or.inl ⟨rfl, HT.out.1, HT.out.2, fun e => g1' e.2.2.2.2⟩), B0⟩
  ·
    by_cases l0 : l = 0
    · subst l0
      have B0 : Below w.heap.size w w := Below.refl _ _
      go_enter Tryz.func15, Tryz.ntmps15
      go_wp2_with fail
      refine ent1 w _ _ (Q := fun W => Calls Tryz.prog _ _ W _) ?_
      intro x1 hb hs_x1 V0
      replace h := Ri.after hb h
      replace B0 := step B0 hb
      clear hb hs_x1
      refine (trimmed5 a 0 c zs x1 h.1 hl).mono ?_
      rintro e x2 ⟨rfl, hb⟩
      replace V0 := Va.after hb V0
      replace h := Ri.after hb h
      replace B0 := step B0 hb
      clear hb
      rw [decide_eq_true u1]
      have c_V0 := V0.d0
      have f0_V0 := V0.frozen 0
      have d_V0 := V0.d1
      have f1_V0 := V0.frozen 1
      have e_V0 := V0.d2
      have f2_V0 := V0.frozen 2
      have l_V0 := V0.lt
      have m_V0 := Nat.le_of_lt l_V0
      go_wp2_with fail
      refine (trimmed5 b m d ys x2 h.2.1 hm).mono ?_
      rintro e x3 ⟨rfl, hb⟩
      replace V0 := Va.after hb V0
      replace h := Ri.after hb h
      replace B0 := step B0 hb
      clear hb
      rw [decide_eq_true u2]
      clear c_V0 f0_V0 d_V0 f1_V0 e_V0 f2_V0 l_V0 m_V0
      have c_V0 := V0.d0
      have f0_V0 := V0.frozen 0
      have d_V0 := V0.d1
      have f1_V0 := V0.frozen 1
      have e_V0 := V0.d2
      have f2_V0 := V0.frozen 2
      have l_V0 := V0.lt
      have m_V0 := Nat.le_of_lt l_V0
      go_wp2_with fail
      go_ret
      exact ⟨_, rfl, Or.inr (Or.inl ⟨rfl, HT.out.1, HT.out.2, fun e => e.2.2.2.1 ⟨rfl, hzl⟩⟩), B0⟩
    have l1 : 0 < l := Nat.pos_of_ne_zero l0
    have lb : ((l : Int) == 0) = false := by simp; omega
    have mb : ((m : Int) == 0) = false := by simp; omega
    have B0 : Below w.heap.size w w := Below.refl _ _
    go_enter Tryz.func15, Tryz.ntmps15
    go_wp2_with fail
    refine ent1 w _ _ (Q := fun W => Calls Tryz.prog _ _ W _) ?_
    intro x1 hb hs_x1 V0
    replace h := Ri.after hb h
    replace B0 := step B0 hb
    clear hb hs_x1
    refine (trimmed5 a l c zs x1 h.1 hl).mono ?_
    rintro e x2 ⟨rfl, hb⟩
    replace V0 := Va.after hb V0
    replace h := Ri.after hb h
    replace B0 := step B0 hb
    clear hb
    rw [decide_eq_true u1]
    have c_V0 := V0.d0
    have f0_V0 := V0.frozen 0
    have d_V0 := V0.d1
    have f1_V0 := V0.frozen 1
    have e_V0 := V0.d2
    have f2_V0 := V0.frozen 2
    have l_V0 := V0.lt
    have m_V0 := Nat.le_of_lt l_V0
    go_wp2_with fail
    refine (trimmed5 b m d ys x2 h.2.1 hm).mono ?_
    rintro e x3 ⟨rfl, hb⟩
    replace V0 := Va.after hb V0
    replace h := Ri.after hb h
    replace B0 := step B0 hb
    clear hb
    rw [decide_eq_true u2]
    clear c_V0 f0_V0 d_V0 f1_V0 e_V0 f2_V0 l_V0 m_V0
    have c_V0 := V0.d0
    have f0_V0 := V0.frozen 0
    have d_V0 := V0.d1
    have f1_V0 := V0.frozen 1
    have e_V0 := V0.d2
    have f2_V0 := V0.frozen 2
    have l_V0 := V0.lt
    have m_V0 := Nat.le_of_lt l_V0
    go_wp2_with fail
    refine (rgcd_n a b l c m d zs ys x3 h.1 h.2.1 h.2.2.1 h.2.2.2 (by omega) (by omega) (by have := HU.out.1; have := HT.out.1; omega) (by have := HU.out.2; have := HT.out.2; omega)).mono ?_
    rintro e x4 ⟨ag, mg, cg, zg, rfl, hcg, hg, ug, eg, hb⟩
    replace V0 := Va.after hb V0
    replace h := Ri.after hb h
    replace B0 := step B0 hb
    clear hb
    have EG : Hid (num zg = (Int.gcd (num zs) (num ys) : Nat)) := eg
    have hmg : mg ≤ 1024 := by
      have y0 := num_nonneg h.2.1.2.1
      have yn : num ys ≠ 0 := fun e => m0 (by rw [← HU.out.2]; exact (num_eq_zero h.2.1.2.1).1 e)
      have hgl : num zg ≤ num ys := Int.le_of_dvd (by omega) (by rw [eg]; exact Int.gcd_dvd_right ..)
      have := used_of_lt hg.2.1 (n := 1024) (Int.lt_of_le_of_lt hgl (lt_of_used h.2.1.2.1 (by rw [HU.out.2]; exact HT.out.2)))
      omega
    clear eg
    clear c_V0 f0_V0 d_V0 f1_V0 e_V0 f2_V0 l_V0 m_V0
    have c_V0 := V0.d0
    have f0_V0 := V0.frozen 0
    have d_V0 := V0.d1
    have f1_V0 := V0.frozen 1
    have e_V0 := V0.d2
    have f2_V0 := V0.frozen 2
    have l_V0 := V0.lt
    have m_V0 := Nat.le_of_lt l_V0
    go_wp2_with fail
    refine (one5 x4).mono ?_
    rintro e x5 ⟨g1, rfl, hg1, hb⟩
    replace V0 := Va.after hb V0
    replace h := Ri.after hb h
    replace hg := Sl.after hb hg
    replace B0 := step B0 hb
    clear hb
    clear c_V0 f0_V0 d_V0 f1_V0 e_V0 f2_V0 l_V0 m_V0
    have c_V0 := V0.d0
    have f0_V0 := V0.frozen 0
    have d_V0 := V0.d1
    have f1_V0 := V0.frozen 1
    have e_V0 := V0.d2
    have f2_V0 := V0.frozen 2
    have l_V0 := V0.lt
    have m_V0 := Nat.le_of_lt l_V0
    go_wp2_with fail
    refine (rcompare_n ag (some ⟨g1, 0, none⟩) mg cg 1 1 zg [1] x5 hg hg1 (by omega) (by omega) hcg (by omega)).mono ?_
    rintro e x6 ⟨rfl, hb⟩
    replace V0 := Va.after hb V0
    replace h := Ri.after hb h
    replace hg := Sl.after hb hg
    replace hg1 := Sl.after hb hg1
    replace B0 := step B0 hb
    clear hb
    have n1 : num [1] = 1 := by simp [num]
    rw [n1, EG.out]
    clear n1
    by_cases g1' : Int.gcd (num zs) (num ys) = 1
    ·
      have ec : cmp3 ((Int.gcd (num zs) (num ys) : Nat) : Int) 1 = 0 := by rw [g1']; rfl
      rw [ec]
      clear c_V0 f0_V0 d_V0 f1_V0 e_V0 f2_V0 l_V0 m_V0
      have c_V0 := V0.d0
      have f0_V0 := V0.frozen 0
      have d_V0 := V0.d1
      have f1_V0 := V0.frozen 1
      have e_V0 := V0.d2
      have f2_V0 := V0.frozen 2
      have l_V0 := V0.lt
      have m_V0 := Nat.le_of_lt l_V0
      go_wp2_with fail
      go_ret
      exact ⟨_, rfl, Or.inr (Or.inr ⟨rfl, HT.out.1, HT.out.2, by rw [hzl]; exact HU.out.1, by rw [hyl]; exact HU.out.2, by rw [hyl]; exact m0, (fun e => l0 (by rw [← hzl]; exact e.2)), g1'⟩), B0⟩
    ·
      have gp : 0 < Int.gcd (num zs) (num ys) := Int.gcd_pos_of_ne_zero_right _ (fun e => m0 (by rw [← HU.out.2]; exact (num_eq_zero h.2.1.2.1).1 e))
      have ec : cmp3 ((Int.gcd (num zs) (num ys) : Nat) : Int) 1 = 1 := cmp3_gt (by omega)
      rw [ec]
      clear c_V0 f0_V0 d_V0 f1_V0 e_V0 f2_V0 l_V0 m_V0
      have c_V0 := V0.d0
      have f0_V0 := V0.frozen 0
      have d_V0 := V0.d1
      have f1_V0 := V0.frozen 1
      have e_V0 := V0.d2
      have f2_V0 := V0.frozen 2
      have l_V0 := V0.lt
      have m_V0 := Nat.le_of_lt l_V0
      go_wp2_with fail
      go_ret
      exact ⟨_, rfl, Or.inr (Or.inl ⟨rfl, HT.out.1, HT.out.2, fun e => g1' e.2.2.2.2⟩), B0⟩

end Go.Proofs.YtjlodljgfjjclaaGreat

namespace Go.Proofs.YtjlodljgfjjclaaGreat
open Go.RowKit Go.Shelf

/-- The marks. -/
def marks : Nat → List Int
  | 0 => []
  | k + 1 => marks k ++ [8000024 + (k : Int)]
end Go.Proofs.YtjlodljgfjjclaaGreat

namespace Go.Proofs.YtjlodljgfjjclaaGreat
open Go.RowKit Go.Shelf
set_option linter.unusedVariables false

theorem Sl.keep {w w' : World} {a : Option Addr} {l : Nat} {zs : List Int} (h : Sl w a l zs) {g g' : Nat} (hk : ∀ k, k < w.heap.size → k ≠ g → k ≠ g' → w'.heap[k]? = w.heap[k]?) (hne : ∀ p, a = some p → p.block ≠ g ∧ p.block ≠ g') : Sl w' a l zs := by
  obtain ⟨h1, h2, h3⟩ := h
  refine ⟨h1, h2, fun h0 => ?_⟩
  obtain ⟨b, off, rfl, hc⟩ := h3 h0
  have hlt : b < w.heap.size := Sl.lt ⟨h1, h2, h3⟩ h0 rfl
  refine ⟨b, off, rfl, fun i hi => ?_⟩
  rw [← hc i hi]
  exact World.cell?_of_block (w := w) (hk b hlt (hne _ rfl).1 (hne _ rfl).2)
theorem Rt.keep {w w' : World} {s : Bool} {a : Option Addr} {l c : Nat} {zs : List Int} {b : Option Addr} {m d : Nat} {ds : List Int} {v : Rat} (h : Rt w s a l c zs b m d ds v) {g g' : Nat} (hk : ∀ k, k < w.heap.size → k ≠ g → k ≠ g' → w'.heap[k]? = w.heap[k]?) (h1 : ∀ p, a = some p → p.block ≠ g ∧ p.block ≠ g') (h2 : ∀ p, b = some p → p.block ≠ g ∧ p.block ≠ g') : Rt w' s a l c zs b m d ds v :=
  ⟨⟨⟨h.1.1.1.keep hk h1, h.1.1.2⟩, h.1.2⟩, ⟨h.2.1.1.keep hk h2, h.2.1.2⟩, h.2.2⟩

set_option maxHeartbeats 4000000 in
theorem rmade_ok (s : Bool) (a : Option Addr) (l c : Nat) (zs : List Int) (b : Option Addr) (m d : Nat) (ds : List Int) (v : Rat) (w : World) (hz : It w s a l c zs) (hd : Nt w b m d ds) (h1 : iv s zs = v.num) (h2 : dn ds = v.den) (hS : Short v) :
    Calls Tryz.prog 77 #[.agg #[.bool s, .slice a l c], .agg #[.slice b m d]] w fun e w' => e = .returned (.tuple #[.agg #[.bool s, .slice a l c, .slice b m d], .int .i64 0]) ∧ Rt w' s a l c zs b m d ds v ∧ Below w.heap.size w w' := by
  have HL : Hid (∀ W (b' : Option Addr) (m' d' : Nat) (ds' : List Int), Nt W b' m' d' ds' → num ds' = dn ds → max (l : Int) (m' : Int) ≤ 1024) := by
    intro W b' m' d' ds' h' e'
    have p1 := hz.1.short 1024
    have p2 := h'.short 1024
    have e1 : num zs = (v.num.natAbs : Int) := by rw [← h1]; exact hz.abs
    rw [e1] at p1
    rw [e', h2] at p2
    have q1 := p1.2 hS.1
    have q2 := p2.2 hS.2
    omega
  have H1 : Hid (iv s zs = v.num ∧ dn ds = v.den ∧ Short v) := ⟨h1, h2, hS⟩
  clear h1 h2 hS
  have B0 : Below w.heap.size w w := Below.refl _ _
  go_enter Tryz.func77, Tryz.ntmps77
  go_wp2_with fail
  refine ent4 w _ _ _ _ _ _ _ _ (Q := fun W => Calls Tryz.prog _ _ W _) ?_
  intro x1 hb hs_x1 V0 V1 V2 V3
  replace hz := It.after hb hz
  replace hd := Nt.after hb hd
  replace B0 := step B0 hb
  clear hb hs_x1
  refine (rlongr_any s a l c zs b m d ds x1 hz hd).mono ?_
  rintro e x2 ⟨b', m', d', ds', rfl, h', e', hb⟩
  replace V0 := Va.after hb V0
  replace V1 := Va.after hb V1
  replace V2 := Va.after hb V2
  replace V3 := Va.after hb V3
  replace hz := It.after hb hz
  replace hd := Nt.after hb hd
  replace B0 := step B0 hb
  clear hb
  have hlm := HL.out _ _ _ _ _ h' e'
  obtain ⟨n, hn⟩ : ∃ n : Int, max (l : Int) (m' : Int) = n := ⟨_, rfl⟩
  rw [hn] at hlm ⊢
  clear hn HL e'
  clear h'
  have c_V2 := V2.d0
  have f0_V2 := V2.frozen 0
  have d_V2 := V2.d1
  have f1_V2 := V2.frozen 1
  have e_V2 := V2.d2
  have f2_V2 := V2.frozen 2
  have l_V2 := V2.lt
  have m_V2 := Nat.le_of_lt l_V2
  have c_V3 := V3.d0
  have f0_V3 := V3.frozen 0
  have d_V3 := V3.d1
  have f1_V3 := V3.frozen 1
  have e_V3 := V3.d2
  have f2_V3 := V3.frozen 2
  have l_V3 := V3.lt
  have m_V3 := Nat.le_of_lt l_V3
  go_wp2_with fail
  refine bodyPost_ret (results_rt rfl rfl (V2.set3 _ _ _)) rfl ?_
  exact ⟨rfl, ⟨hz.far V2 (noInt3 _ _ _ _ _ _ _) (fa3 _ _ _ _ _), hd.far V2 (noInt3 _ _ _ _ _ _ _) (fa3 _ _ _ _ _), H1.out⟩, belo3 B0 (by omega) _ _ _⟩
end Go.Proofs.YtjlodljgfjjclaaGreat

namespace Go.Proofs.YtjlodljgfjjclaaGreat
open Go.RowKit Go.Shelf
set_option linter.unusedVariables false

theorem Norm.short {w : World} {s : Bool} {a b : Option Addr} {l m : Nat} {zs ys : List Int} (h1 : Sl w a l zs) (h2 : Sl w b m ys) (hl : l ≤ 1024) (hm : m ≤ 1024) {v : Rat} (hv : iv s zs = v.num) (hd : num ys = v.den) : Short v := by
  have z0 := num_nonneg h1.2.1
  have u1 := usedN_le zs
  have u2 := usedN_le ys
  have e1 : (v.num.natAbs : Int) = num zs := by rw [← hv]; cases s <;> simp only [iv_t, iv_f] <;> omega
  refine ⟨by rw [e1]; exact lt_of_used h1.2.1 (by rw [h1.1] at u1; omega), by rw [← hd]; exact lt_of_used h2.2.1 (by rw [h2.1] at u2; omega)⟩

set_option maxHeartbeats 8000000 in
theorem qof_ok (s : Bool) (a : Option Addr) (l c : Nat) (zs : List Int) (b : Option Addr) (m d : Nat) (ys : List Int) (v : Rat) (w : World) (h : Ri w a l c zs b m d ys) (hl : l ≤ 1024) (hm : m ≤ 1024) (hN : Norm s zs ys) (hv : iv s zs = v.num) (hd : num ys = v.den) :
    Calls Tryz.prog 56 #[.agg #[.bool s, .slice a l c, .slice b m d]] w fun e w' => ∃ s' a' l' c' zs' b' m' d' ds', e = .returned (.tuple #[.agg #[.bool s', .slice a' l' c', .slice b' m' d'], .int .i64 0]) ∧ Rt w' s' a' l' c' zs' b' m' d' ds' v ∧ Hid ((∀ p, a' = some p → w.heap.size ≤ p.block) ∧ (∀ p, b' = some p → w.heap.size ≤ p.block)) ∧ Below w.heap.size w w' := by
  have HS : Hid (Short v) := Norm.short h.1 h.2.1 hl hm hv hd; have hzl := h.1.1; have hyl := h.2.1.1; have HN : Hid (Norm s zs ys) := hN; have HV : Hid (iv s zs = v.num ∧ num ys = v.den) := ⟨hv, hd⟩; (have hmx : max (l : Int) (m : Int) ≤ 1024 := by omega); (have hm0 : m ≠ 0 := by have := hN.2.2.1; omega); (have hmb : ((m : Int) == 0) = false := by simp; omega); (have hll : ((l : Int) != (l : Int)) = false := by simp); (have hmm : ((m : Int) != (m : Int)) = false := by simp); (have hs0 : s = true → ((l : Int) == 0) = false := fun e => by have := hN.2.2.2.1; simp; intro e2; exact this ⟨e, by omega⟩); clear hN hv hd; have B0 : Below w.heap.size w w := Below.refl _ _
  go_enter Tryz.func56, Tryz.ntmps56
  (go_wp2_with fail); refine ent2 w _ _ _ _ (Q := fun W => Calls Tryz.prog _ _ W _) ?_; intro x1 hb hs_x1 V0 V1; replace h := Ri.after hb h; replace B0 := step B0 hb; clear hb hs_x1; have sz0 := B0.size; refine (of_ok a l c zs x1 h.1 (by omega) h.2.2.1 (by have := HN.out.1; omega)).mono ?_; rintro e x2 ⟨gn, ln, kn, zn, rfl, hgn, hn, en, hb⟩; replace V0 := Va.after hb V0; replace V1 := Va.after hb V1; replace h := Ri.after hb h; replace B0 := step B0 hb; clear hb; have qn := trim_one hn.limbs h.1.2.1 (by rw [hn.2.1, hn.1.1]) (by first | exact HN.out.1 | exact HN.out.2.1) en; subst qn; (have qln : ln = l := by have := hn.1.1; omega); subst qln; have c_V0 := V0.d0; have f0_V0 := V0.frozen 0; have d_V0 := V0.d1; have f1_V0 := V0.frozen 1; have e_V0 := V0.d2; have f2_V0 := V0.frozen 2; have l_V0 := V0.lt; have m_V0 := Nat.le_of_lt l_V0; (go_wp2_with fail); have la0 := V0.lt; have la1 := V1.lt; refine ent1 x2 _ _ (Q := fun W => Calls Tryz.prog _ _ W _) ?_
  intro x3 hb hs_x3 Vn; replace V0 := Va.after hb V0; replace V1 := Va.after hb V1; replace h := Ri.after hb h; replace hn := Nt.after hb hn; replace B0 := step B0 hb; clear hb hs_x3; have sz1 := B0.size; refine (of_ok b m d ys x3 h.2.1 (by omega) h.2.2.2 (by have := HN.out.2.1; omega)).mono ?_; rintro e x4 ⟨ge, le, ke, ze, rfl, hge, he, ee, hb⟩; replace V0 := Va.after hb V0; replace V1 := Va.after hb V1; replace Vn := Va.after hb Vn; replace h := Ri.after hb h; replace hn := Nt.after hb hn; replace B0 := step B0 hb; clear hb; have qe := trim_one he.limbs h.2.1.2.1 (by rw [he.2.1, he.1.1]) (by first | exact HN.out.1 | exact HN.out.2.1) ee; subst qe; (have qle : le = m := by have := he.1.1; omega); subst qle; clear c_V0 f0_V0 d_V0 f1_V0 e_V0 f2_V0 l_V0 m_V0; have c_V0 := V0.d0; have f0_V0 := V0.frozen 0; have d_V0 := V0.d1; have f1_V0 := V0.frozen 1; have e_V0 := V0.d2; have f2_V0 := V0.frozen 2; have l_V0 := V0.lt; have m_V0 := Nat.le_of_lt l_V0; have c_Vn := Vn.cell
  have f0_Vn := Vn.frozen 0; have l_Vn := Vn.lt; have m_Vn := Nat.le_of_lt l_Vn; (go_wp2_with fail); have lb0 := V0.lt; have lb1 := V1.lt; have lb2 := Vn.lt; refine ent1 x4 _ _ (Q := fun W => Code.wp Tryz.prog _ _ _ W) ?_; intro x5 hb hs_x5 Ve; replace V0 := Va.after hb V0; replace V1 := Va.after hb V1; replace Vn := Va.after hb Vn; replace h := Ri.after hb h; replace hn := Nt.after hb hn; replace he := Nt.after hb he; replace B0 := step B0 hb; clear hb hs_x5; have HG : Hid (w.heap.size ≤ gn ∧ w.heap.size ≤ ge) := ⟨by omega, by omega⟩; clear hgn hge sz0 sz1; clear c_V0 f0_V0 d_V0 f1_V0 e_V0 f2_V0 l_V0 m_V0 c_Vn f0_Vn l_Vn m_Vn; refine wp_region_noPanic ?_; replace V0 : Va x5.drew _ _ _ := V0; replace V1 : Va x5.drew _ _ _ := V1; replace Vn : Va x5.drew _ _ _ := Vn; replace Ve : Va x5.drew _ _ _ := Ve; replace h := h.drw; replace hn := hn.drw; replace he := he.drw; replace B0 := Below.drew B0; refine wp_region_held_drew (S := (fun W => W.cell? ⟨w.heap.size, 0, none⟩ = some (.bool s) ∧ W.cell? ⟨w.heap.size, 1, none⟩ = some (.slice a ln c) ∧ W.cell? ⟨w.heap.size, 2, none⟩ = some (.slice b le d) ∧ W.cell? ⟨x2.heap.size, 0, none⟩ = some (.slice (some ⟨gn, 0, none⟩) ln kn) ∧ W.cell? ⟨x4.heap.size, 0, none⟩ = some (.slice (some ⟨ge, 0, none⟩) le ke))) (by kernel_rfl) ⟨V0.d0, V0.d1, V0.d2, Vn.cell, Ve.cell⟩ (fun hHeld => ?_)
  (obtain ⟨x6, hxd⟩ : ∃ xd, xd = x5.drew := ⟨_, rfl⟩); rw [← hxd] at V0 V1 Vn Ve h hn he B0 hHeld ⊢; clear hxd; refine tk 0 rfl hHeld ?_; simp only [gA, gB, Act.put, gD, gE, gF]; refine tk 2 rfl hHeld ?_; simp only [gA, gB, gC, Act.put, gD, gE, gF]; refine tk 3 rfl hHeld ?_; simp only [gA, gB, gC, Act.put, gD, gE, gF]; refine tk 4 rfl hHeld ?_; simp only [gA, gB, gC, Act.put, gD, gE, gF]; refine wpAnyH_ready (rs := [1]) (by kernel_rfl) (by simp) ?_; refine AllReadyH.cons rfl (fun K hK => ?_) AllReadyH.nil; simp only [gA, gB, gC]; (go_simp); refine (qlimbs_any (some ⟨gn, 0, none⟩) ln kn zn _ hn).mono ?_; rintro e x7 ⟨rfl, hb⟩; replace V0 := Va.after hb V0; replace V1 := Va.after hb V1; replace Vn := Va.after hb Vn; replace Ve := Va.after hb Ve; replace h := Ri.after hb h; replace hn := Nt.after hb hn; replace he := Nt.after hb he; replace B0 := step B0 hb; clear hb; (try go_wp2_with fail); refine hK.out _ _ ⟨V0.d0, V0.d1, V0.d2, Vn.cell, Ve.cell⟩ (fun hHeld => ?_)
  clear hK K; refine wpAnyH_take (i := 5) (v := .bool false) rfl (by kernel_rfl) (by kernel_rfl) (by kernel_rfl) (fun _ _ _ h => h) (Or.inl ⟨by rfl, ?_⟩) hHeld ?_
  · (intro W hSw; (try dsimp only at hSw); go_simp; first | (rw [hll]) | skip)
  simp only [gA, gB, gC, Act.put, gD, gE, gF]; refine tk 6 rfl hHeld ?_; simp only [gA, gB, gC, Act.put, gD, gE, gF]; refine tk 7 rfl hHeld ?_; simp only [gA, gB, gC, Act.put, gD, gE, gF]; refine tk 9 rfl hHeld ?_; simp only [gA, gB, gC, Act.put, gD, gE, gF]; refine tk 10 rfl hHeld ?_; simp only [gA, gB, gC, Act.put, gD, gE, gF]; refine tk 11 rfl hHeld ?_; simp only [gA, gB, gC, Act.put, gD, gE, gF]; refine wpAnyH_ready (rs := [8]) (by kernel_rfl) (by simp) ?_; refine AllReadyH.cons rfl (fun K hK => ?_) AllReadyH.nil; simp only [gA, gB, gC]; (go_simp); refine (qlimbs_any (some ⟨ge, 0, none⟩) le ke ze _ he).mono ?_; rintro e x8 ⟨rfl, hb⟩; replace V0 := Va.after hb V0; replace V1 := Va.after hb V1; replace Vn := Va.after hb Vn; replace Ve := Va.after hb Ve; replace h := Ri.after hb h; replace hn := Nt.after hb hn; replace he := Nt.after hb he; replace B0 := step B0 hb; clear hb; (try go_wp2_with fail); refine hK.out _ _ ⟨V0.d0, V0.d1, V0.d2, Vn.cell, Ve.cell⟩ (fun hHeld => ?_)
  clear hK K; refine wpAnyH_take (i := 12) (v := .bool false) rfl (by kernel_rfl) (by kernel_rfl) (by kernel_rfl) (fun _ _ _ h => h) (Or.inl ⟨by rfl, ?_⟩) hHeld ?_
  · (intro W hSw; (try dsimp only at hSw); go_simp; first | (rw [hmm]) | skip)
  simp only [gA, gB, gC, Act.put, gD, gE, gF]; refine tk 13 rfl hHeld ?_; simp only [gA, gB, gC, Act.put, gD, gE, gF]; refine tk 14 rfl hHeld ?_; simp only [gA, gB, gC, Act.put, gD, gE, gF]; refine tk 15 rfl hHeld ?_; simp only [gA, gB, gC, Act.put, gD, gE, gF]; refine wpAnyH_ready (rs := [16]) (by kernel_rfl) (by simp) ?_; refine AllReadyH.cons rfl (fun K hK => ?_) AllReadyH.nil; simp only [gA, gB, gC]; (go_simp); refine (isZero_any (some ⟨ge, 0, none⟩) le ke _).mono ?_; rintro e x9 ⟨rfl, hb⟩; replace V0 := Va.after hb V0; replace V1 := Va.after hb V1; replace Vn := Va.after hb Vn; replace Ve := Va.after hb Ve; replace h := Ri.after hb h; replace hn := Nt.after hb hn; replace he := Nt.after hb he; replace B0 := step B0 hb; clear hb; rw [hmb]; (try go_wp2_with fail); refine hK.out _ _ ⟨V0.d0, V0.d1, V0.d2, Vn.cell, Ve.cell⟩ (fun hHeld => ?_); clear hK K; refine tk 17 rfl hHeld ?_; simp only [gA, gB, gC, Act.put, gD, gE, gF]; refine wpAnyH_done (by kernel_rfl) ?_ _
  refine NoPanic.normal ?_; clear hHeld; have c_V0 := V0.d0; have f0_V0 := V0.frozen 0; have d_V0 := V0.d1; have f1_V0 := V0.frozen 1; have e_V0 := V0.d2; have f2_V0 := V0.frozen 2; have l_V0 := V0.lt; have m_V0 := Nat.le_of_lt l_V0; have c_Vn := Vn.cell; have f0_Vn := Vn.frozen 0; have l_Vn := Vn.lt; have m_Vn := Nat.le_of_lt l_Vn; have c_Ve := Ve.cell; have f0_Ve := Ve.frozen 0; have l_Ve := Ve.lt; have m_Ve := Nat.le_of_lt l_Ve; (go_wp2_with fail); refine (ngcd_any (some ⟨gn, 0, none⟩) (some ⟨ge, 0, none⟩) ln kn le ke zn ze x9 hn he).mono ?_; rintro e x10 ⟨ag, lg, kg, zg, rfl, hg, eg, hb⟩; replace V0 := Va.after hb V0; replace V1 := Va.after hb V1; replace Vn := Va.after hb Vn; replace Ve := Va.after hb Ve; replace h := Ri.after hb h; replace hn := Nt.after hb hn; replace he := Nt.after hb he; replace B0 := step B0 hb; clear hb; rw [HN.out.2.2.2.2] at eg; clear c_V0 f0_V0 d_V0 f1_V0 e_V0 f2_V0 l_V0 m_V0 c_Vn f0_Vn l_Vn m_Vn c_Ve f0_Ve l_Ve m_Ve; have c_V0 := V0.d0
  have f0_V0 := V0.frozen 0; have d_V0 := V0.d1; have f1_V0 := V0.frozen 1; have e_V0 := V0.d2; have f2_V0 := V0.frozen 2; have l_V0 := V0.lt; have m_V0 := Nat.le_of_lt l_V0; have c_V1 := V1.d0; have f0_V1 := V1.frozen 0; have d_V1 := V1.d1; have f1_V1 := V1.frozen 1; have e_V1 := V1.d2; have f2_V1 := V1.frozen 2; have l_V1 := V1.lt; have m_V1 := Nat.le_of_lt l_V1; have c_Vn := Vn.cell; have f0_Vn := Vn.frozen 0; have l_Vn := Vn.lt; have m_Vn := Nat.le_of_lt l_Vn; have c_Ve := Ve.cell; have f0_Ve := Ve.frozen 0; have l_Ve := Ve.lt; have m_Ve := Nat.le_of_lt l_Ve; (go_wp2_with fail); refine (uint64_small ag lg kg zg x10 hg (by rw [eg]; decide)).mono ?_; rintro e x11 ⟨rfl, hb⟩; replace V0 := Va.after hb V0; replace V1 := Va.after hb V1; replace Vn := Va.after hb Vn; replace Ve := Va.after hb Ve; replace h := Ri.after hb h; replace hn := Nt.after hb hn; replace he := Nt.after hb he; replace hg := Nt.after hb hg; replace B0 := step B0 hb; clear hb; rw [eg]; clear eg
  clear hg
  cases s
  ·
    clear c_V0 f0_V0 d_V0 f1_V0 e_V0 f2_V0 l_V0 m_V0 c_V1 f0_V1 d_V1 f1_V1 e_V1 f2_V1 l_V1 m_V1 c_Vn f0_Vn l_Vn m_Vn c_Ve f0_Ve l_Ve m_Ve; have c_V0 := V0.d0; have f0_V0 := V0.frozen 0; have d_V0 := V0.d1; have f1_V0 := V0.frozen 1; have e_V0 := V0.d2; have f2_V0 := V0.frozen 2; have l_V0 := V0.lt; have m_V0 := Nat.le_of_lt l_V0; have c_Vn := Vn.cell; have f0_Vn := Vn.frozen 0; have l_Vn := Vn.lt; have m_Vn := Nat.le_of_lt l_Vn; have c_Ve := Ve.cell; have f0_Ve := Ve.frozen 0; have l_Ve := Ve.lt; have m_Ve := Nat.le_of_lt l_Ve; (go_wp2_with fail); clear c_V0 f0_V0 d_V0 f1_V0 e_V0 f2_V0 l_V0 m_V0 c_Vn f0_Vn l_Vn m_Vn c_Ve f0_Ve l_Ve m_Ve; refine wp_region_noPanic ?_; replace V0 : Va x11.drew _ _ _ := V0; replace V1 : Va x11.drew _ _ _ := V1; replace Vn : Va x11.drew _ _ _ := Vn; replace Ve : Va x11.drew _ _ _ := Ve; replace h := h.drw; replace hn := hn.drw; replace he := he.drw; replace B0 := Below.drew B0; refine wp_region_held_drew (S := (fun W => W.cell? ⟨w.heap.size, 0, none⟩ = some (.bool false) ∧ W.cell? ⟨w.heap.size, 1, none⟩ = some (.slice a ln c) ∧ W.cell? ⟨w.heap.size, 2, none⟩ = some (.slice b le d) ∧ W.cell? ⟨x2.heap.size, 0, none⟩ = some (.slice (some ⟨gn, 0, none⟩) ln kn) ∧ W.cell? ⟨x4.heap.size, 0, none⟩ = some (.slice (some ⟨ge, 0, none⟩) le ke))) (by kernel_rfl) ⟨V0.d0, V0.d1, V0.d2, Vn.cell, Ve.cell⟩ (fun hHeld => ?_)
    (obtain ⟨x12, hxd⟩ : ∃ xd, xd = x11.drew := ⟨_, rfl⟩); rw [← hxd] at V0 V1 Vn Ve h hn he B0 hHeld ⊢; clear hxd; refine tk 0 rfl hHeld ?_; simp only [gA, gB, Act.put, gD, gE, gF]; refine tk 1 rfl hHeld ?_; simp only [gA, gB, gC, Act.put, gD, gE, gF]; refine tk 2 rfl hHeld ?_; simp only [gA, gB, gC, Act.put, gD, gE, gF]; refine tk 4 rfl hHeld ?_; simp only [gA, gB, gC, Act.put, gD, gE, gF]; refine wpAnyH_ready (rs := [3]) (by kernel_rfl) (by simp) ?_; refine AllReadyH.cons rfl (fun K hK => ?_) AllReadyH.nil; simp only [gA, gB, gC]; (go_simp); refine (wnew_any false (some ⟨gn, 0, none⟩) ln kn zn _ hn).mono ?_; rintro e x13 ⟨s2, rfl, h2, e2, hb⟩; replace V0 := Va.after hb V0; replace V1 := Va.after hb V1; replace Vn := Va.after hb Vn; replace Ve := Va.after hb Ve; replace h := Ri.after hb h; replace hn := Nt.after hb hn; replace he := Nt.after hb he; replace B0 := step B0 hb; clear hb; (try go_wp2_with fail); refine hK.out _ _ ⟨V0.d0, V0.d1, V0.d2, Vn.cell, Ve.cell⟩ (fun hHeld => ?_)
    clear hK K; refine wpAnyH_ready (rs := [5]) (by kernel_rfl) (by simp) ?_; refine AllReadyH.cons rfl (fun K hK => ?_) AllReadyH.nil; simp only [gA, gB, gC]; (go_simp); refine (rmade_ok s2 (some ⟨gn, 0, none⟩) ln kn zn (some ⟨ge, 0, none⟩) le ke ze v _ h2 he (by rw [e2]; exact HV.out.1) (by unfold dn; rw [HV.out.2, if_neg (by have := v.den_pos; omega)]) HS.out).mono ?_; rintro e x14 ⟨rfl, h3, hb⟩; replace V0 := Va.after hb V0; replace V1 := Va.after hb V1; replace Vn := Va.after hb Vn; replace Ve := Va.after hb Ve; replace h := Ri.after hb h; replace hn := Nt.after hb hn; replace he := Nt.after hb he; replace h2 := It.after hb h2; replace B0 := step B0 hb; clear hb; (try go_wp2_with fail); refine hK.out _ _ ⟨V0.d0, V0.d1, V0.d2, Vn.cell, Ve.cell⟩ (fun hHeld => ?_); clear hK K; refine tk 6 rfl hHeld ?_; simp only [gA, gB, gC, Act.put, gD, gE, gF]; refine tk 7 rfl hHeld ?_; simp only [gA, gB, gC, Act.put, gD, gE, gF]; have lv1 := V0.lt; have lv2 := Vn.lt
    have lv3 := Ve.lt; have c_V1 := V1.d0; have f0_V1 := V1.frozen 0; have d_V1 := V1.d1; have f1_V1 := V1.frozen 1; have e_V1 := V1.d2; have f2_V1 := V1.frozen 2; have l_V1 := V1.lt; have m_V1 := Nat.le_of_lt l_V1; refine wpAnyH_ready (rs := [8]) (by kernel_rfl) (by simp) ?_; refine AllReadyH.cons rfl (fun K hK => ?_) AllReadyH.nil; simp only [gA, gB, gC]; (go_simp); clear c_V1 f0_V1 d_V1 f1_V1 e_V1 f2_V1 l_V1 m_V1; refine sto3 V1 (.bool s2) (.slice (some ⟨gn, 0, none⟩) ln kn) (.slice (some ⟨ge, 0, none⟩) le ke) (Q := fun W => K _ W) ?_; intro x15 V' oth far; replace V0 := oth _ _ _ (by first | omega | assumption | (simp; omega)) V0; replace Vn := oth _ _ _ (by first | omega | assumption | (simp; omega)) Vn; replace Ve := oth _ _ _ (by first | omega | assumption | (simp; omega)) Ve; replace h := h.far V1 (noInt3 _ _ _ _ _ _ _) far.1; replace hn := hn.far V1 (noInt3 _ _ _ _ _ _ _) far.1; replace he := he.far V1 (noInt3 _ _ _ _ _ _ _) far.1
    replace h2 := h2.far V1 (noInt3 _ _ _ _ _ _ _) far.1; replace h3 := h3.far V1 (noInt3 _ _ _ _ _ _ _) far.1; replace B0 := far.2 _ _ (by first | omega | (simp; omega)) B0; replace V1 := V'; clear oth far; refine hK.out _ _ ⟨V0.d0, V0.d1, V0.d2, Vn.cell, Ve.cell⟩ (fun hHeld => ?_); clear hK K; refine tk 9 rfl hHeld ?_; simp only [gA, gB, gC, Act.put, gD, gE, gF]; refine wpAnyH_done (by kernel_rfl) ?_ _; refine NoPanic.normal ?_; clear hHeld; (go_wp2_with fail); refine bodyPost_ret (results_rt rfl rfl V1) rfl ?_; exact ⟨s2, _, _, _, _, _, _, _, _, rfl, h3, ⟨fun p hp => by cases hp; exact HG.out.1, fun p hp => by cases hp; exact HG.out.2⟩, B0⟩
  ·
    clear c_V0 f0_V0 d_V0 f1_V0 e_V0 f2_V0 l_V0 m_V0 c_V1 f0_V1 d_V1 f1_V1 e_V1 f2_V1 l_V1 m_V1 c_Vn f0_Vn l_Vn m_Vn c_Ve f0_Ve l_Ve m_Ve; have c_V0 := V0.d0; have f0_V0 := V0.frozen 0; have d_V0 := V0.d1; have f1_V0 := V0.frozen 1; have e_V0 := V0.d2; have f2_V0 := V0.frozen 2; have l_V0 := V0.lt; have m_V0 := Nat.le_of_lt l_V0; have c_Vn := Vn.cell; have f0_Vn := Vn.frozen 0; have l_Vn := Vn.lt; have m_Vn := Nat.le_of_lt l_Vn; have c_Ve := Ve.cell; have f0_Ve := Ve.frozen 0; have l_Ve := Ve.lt; have m_Ve := Nat.le_of_lt l_Ve; (go_wp2_with fail); refine (isZero_any (some ⟨gn, 0, none⟩) ln kn x11).mono ?_; rintro e x12 ⟨rfl, hb⟩; replace V0 := Va.after hb V0; replace V1 := Va.after hb V1; replace Vn := Va.after hb Vn; replace Ve := Va.after hb Ve; replace h := Ri.after hb h; replace hn := Nt.after hb hn; replace he := Nt.after hb he; replace B0 := step B0 hb; clear hb; (have hz1 : ((ln : Int) == 0) = false := by have := hs0; simpa using this); rw [hz1]
    clear c_V0 f0_V0 d_V0 f1_V0 e_V0 f2_V0 l_V0 m_V0 c_Vn f0_Vn l_Vn m_Vn c_Ve f0_Ve l_Ve m_Ve; have c_V0 := V0.d0; have f0_V0 := V0.frozen 0; have d_V0 := V0.d1; have f1_V0 := V0.frozen 1; have e_V0 := V0.d2; have f2_V0 := V0.frozen 2; have l_V0 := V0.lt; have m_V0 := Nat.le_of_lt l_V0; have c_Vn := Vn.cell; have f0_Vn := Vn.frozen 0; have l_Vn := Vn.lt; have m_Vn := Nat.le_of_lt l_Vn; have c_Ve := Ve.cell; have f0_Ve := Ve.frozen 0; have l_Ve := Ve.lt; have m_Ve := Nat.le_of_lt l_Ve; (go_wp2_with fail); clear c_V0 f0_V0 d_V0 f1_V0 e_V0 f2_V0 l_V0 m_V0 c_Vn f0_Vn l_Vn m_Vn c_Ve f0_Ve l_Ve m_Ve; refine wp_region_noPanic ?_; replace V0 : Va x12.drew _ _ _ := V0; replace V1 : Va x12.drew _ _ _ := V1; replace Vn : Va x12.drew _ _ _ := Vn; replace Ve : Va x12.drew _ _ _ := Ve; replace h := h.drw; replace hn := hn.drw; replace he := he.drw; replace B0 := Below.drew B0; refine wp_region_held_drew (S := (fun W => W.cell? ⟨w.heap.size, 0, none⟩ = some (.bool true) ∧ W.cell? ⟨w.heap.size, 1, none⟩ = some (.slice a ln c) ∧ W.cell? ⟨w.heap.size, 2, none⟩ = some (.slice b le d) ∧ W.cell? ⟨x2.heap.size, 0, none⟩ = some (.slice (some ⟨gn, 0, none⟩) ln kn) ∧ W.cell? ⟨x4.heap.size, 0, none⟩ = some (.slice (some ⟨ge, 0, none⟩) le ke))) (by kernel_rfl) ⟨V0.d0, V0.d1, V0.d2, Vn.cell, Ve.cell⟩ (fun hHeld => ?_)
    (obtain ⟨x13, hxd⟩ : ∃ xd, xd = x12.drew := ⟨_, rfl⟩); rw [← hxd] at V0 V1 Vn Ve h hn he B0 hHeld ⊢; clear hxd; refine tk 0 rfl hHeld ?_; simp only [gA, gB, Act.put, gD, gE, gF]; refine tk 1 rfl hHeld ?_; simp only [gA, gB, gC, Act.put, gD, gE, gF]; refine tk 2 rfl hHeld ?_; simp only [gA, gB, gC, Act.put, gD, gE, gF]; refine tk 4 rfl hHeld ?_; simp only [gA, gB, gC, Act.put, gD, gE, gF]; refine wpAnyH_ready (rs := [3]) (by kernel_rfl) (by simp) ?_; refine AllReadyH.cons rfl (fun K hK => ?_) AllReadyH.nil; simp only [gA, gB, gC]; (go_simp); refine (wnew_any true (some ⟨gn, 0, none⟩) ln kn zn _ hn).mono ?_; rintro e x14 ⟨s2, rfl, h2, e2, hb⟩; replace V0 := Va.after hb V0; replace V1 := Va.after hb V1; replace Vn := Va.after hb Vn; replace Ve := Va.after hb Ve; replace h := Ri.after hb h; replace hn := Nt.after hb hn; replace he := Nt.after hb he; replace B0 := step B0 hb; clear hb; (try go_wp2_with fail); refine hK.out _ _ ⟨V0.d0, V0.d1, V0.d2, Vn.cell, Ve.cell⟩ (fun hHeld => ?_)
    clear hK K; refine wpAnyH_ready (rs := [5]) (by kernel_rfl) (by simp) ?_; refine AllReadyH.cons rfl (fun K hK => ?_) AllReadyH.nil; simp only [gA, gB, gC]; (go_simp); refine (rmade_ok s2 (some ⟨gn, 0, none⟩) ln kn zn (some ⟨ge, 0, none⟩) le ke ze v _ h2 he (by rw [e2]; exact HV.out.1) (by unfold dn; rw [HV.out.2, if_neg (by have := v.den_pos; omega)]) HS.out).mono ?_; rintro e x15 ⟨rfl, h3, hb⟩; replace V0 := Va.after hb V0; replace V1 := Va.after hb V1; replace Vn := Va.after hb Vn; replace Ve := Va.after hb Ve; replace h := Ri.after hb h; replace hn := Nt.after hb hn; replace he := Nt.after hb he; replace h2 := It.after hb h2; replace B0 := step B0 hb; clear hb; (try go_wp2_with fail); refine hK.out _ _ ⟨V0.d0, V0.d1, V0.d2, Vn.cell, Ve.cell⟩ (fun hHeld => ?_); clear hK K; refine tk 6 rfl hHeld ?_; simp only [gA, gB, gC, Act.put, gD, gE, gF]; refine tk 7 rfl hHeld ?_; simp only [gA, gB, gC, Act.put, gD, gE, gF]; have lv1 := V0.lt; have lv2 := Vn.lt
    have lv3 := Ve.lt; have c_V1 := V1.d0; have f0_V1 := V1.frozen 0; have d_V1 := V1.d1; have f1_V1 := V1.frozen 1; have e_V1 := V1.d2; have f2_V1 := V1.frozen 2; have l_V1 := V1.lt; have m_V1 := Nat.le_of_lt l_V1; refine wpAnyH_ready (rs := [8]) (by kernel_rfl) (by simp) ?_; refine AllReadyH.cons rfl (fun K hK => ?_) AllReadyH.nil; simp only [gA, gB, gC]; (go_simp); clear c_V1 f0_V1 d_V1 f1_V1 e_V1 f2_V1 l_V1 m_V1; refine sto3 V1 (.bool s2) (.slice (some ⟨gn, 0, none⟩) ln kn) (.slice (some ⟨ge, 0, none⟩) le ke) (Q := fun W => K _ W) ?_; intro x16 V' oth far; replace V0 := oth _ _ _ (by first | omega | assumption | (simp; omega)) V0; replace Vn := oth _ _ _ (by first | omega | assumption | (simp; omega)) Vn; replace Ve := oth _ _ _ (by first | omega | assumption | (simp; omega)) Ve; replace h := h.far V1 (noInt3 _ _ _ _ _ _ _) far.1; replace hn := hn.far V1 (noInt3 _ _ _ _ _ _ _) far.1; replace he := he.far V1 (noInt3 _ _ _ _ _ _ _) far.1
    replace h2 := h2.far V1 (noInt3 _ _ _ _ _ _ _) far.1; replace h3 := h3.far V1 (noInt3 _ _ _ _ _ _ _) far.1; replace B0 := far.2 _ _ (by first | omega | (simp; omega)) B0; replace V1 := V'; clear oth far; refine hK.out _ _ ⟨V0.d0, V0.d1, V0.d2, Vn.cell, Ve.cell⟩ (fun hHeld => ?_); clear hK K; refine tk 9 rfl hHeld ?_; simp only [gA, gB, gC, Act.put, gD, gE, gF]; refine wpAnyH_done (by kernel_rfl) ?_ _; refine NoPanic.normal ?_; clear hHeld; (go_wp2_with fail); refine bodyPost_ret (results_rt rfl rfl V1) rfl ?_; exact ⟨s2, _, _, _, _, _, _, _, _, rfl, h3, ⟨fun p hp => by cases hp; exact HG.out.1, fun p hp => by cases hp; exact HG.out.2⟩, B0⟩

end Go.Proofs.YtjlodljgfjjclaaGreat

namespace Go.Proofs.YtjlodljgfjjclaaGreat
open Go.RowKit Go.Shelf
set_option linter.unusedVariables false

theorem copyl7 (a : Option Addr) (la ca : Nat) (zs : List Int) (w : World) (h : Sl w a la zs) (hl : la ≤ 17592186044416) :
    Calls Tryz.prog 95 #[.slice a la ca] w fun e w' => ∃ a' c', e = .returned (.slice a' la c') ∧ Sl w' a' la zs ∧ la ≤ c' ∧ Below w.heap.size w w' := by
  have hL := h.2.1
  have hz := h.1
  cases a with
  | none =>
    obtain rfl : la = 0 := by
      rcases Nat.eq_zero_or_pos la with h0 | h0
      · exact h0
      · obtain ⟨bb, off, e, -⟩ := h.2.2 h0; cases e
    have hz : zs = [] := List.eq_nil_of_length_eq_zero h.1
    subst hz
    go_enter Tryz.func95, Tryz.ntmps95
    go_wp2_with fail
    go_ret
    exact ⟨_, _, rfl, h, Nat.zero_le _, Below.refl _ _⟩
  | some ad =>
    have HSL : Hid (Sl w (some ad) la zs) := h
    have HLL : Hid (Limbs zs ∧ zs.length = la) := ⟨hL, hz⟩
    clear h hL hz
    go_enter Tryz.func95, Tryz.ntmps95
    go_wp2_with (at_builtin; refine wpList_app_some rfl (.tmp 4) (.tmp 5) rfl w.heap.size _ [] rfl (Gr.nil _ _) ad la ca zs rfl HSL.out (by simpa using hl) (Nat.le_refl _) ?_; intro v1 w1 hG hb)
    go_ret
    obtain ⟨a1, c1, gm, e1, h1, h2, -, h3, -⟩ := Gr.parts (by simpa using hG.out) HLL.out.1
    rw [HLL.out.2] at e1 h1 h2 h3
    subst e1
    exact ⟨a1, c1, rfl, h2, h1, hb⟩
theorem Va.set317 {w : World} {b : Nat} {t : TypeId} {x y z : Value} (h : Va w b t #[x, y, z]) (y' : Value) : Va (w.setCell ⟨b, 1, none⟩ y') b t #[x, y', z] := by
  unfold Va at *
  simp only [World.setCell]
  rw [Array.getElem?_modify, if_pos rfl, h]
  simp
theorem Va.set327 {w : World} {b : Nat} {t : TypeId} {x y z : Value} (h : Va w b t #[x, y, z]) (z' : Value) : Va (w.setCell ⟨b, 2, none⟩ z') b t #[x, y, z'] := by
  unfold Va at *
  simp only [World.setCell]
  rw [Array.getElem?_modify, if_pos rfl, h]
  simp
theorem fak (w : World) (b i : Nat) (x : Value) : ∀ c, c ≠ b → (w.setCell ⟨b, i, none⟩ x).heap[c]? = w.heap[c]? := fun c hc => Below.heap_setCell _ ⟨b, i, none⟩ _ _ hc
theorem sto317 {W : World} {b : Nat} {t : TypeId} {x y z : Value} (h : Va W b t #[x, y, z]) (y' : Value) {Q : World → Prop}
    (k : ∀ V, Va V b t #[x, y', z] → (∀ c t cs, c ≠ b → Va W c t cs → Va V c t cs) → ((∀ c, c ≠ b → V.heap[c]? = W.heap[c]?) ∧ (∀ B v, B ≤ b → Below B v W → Below B v V)) → Q V) : Q (W.setCell ⟨b, 1, none⟩ y') :=
  k _ (h.set317 y') (fun c t cs hc hv => hv.stay (fak W b 1 y') hc) ⟨fak W b 1 y', fun B v hB hb => hb.setCell (p := ⟨b, 1, none⟩) hB y'⟩
/-- A trimmed list of at most k limbs. -/
def Sh (w : World) (a : Option Addr) (l c k : Nat) (zs : List Int) : Prop := Sl w a l zs ∧ usedN zs = l ∧ l ≤ c ∧ l ≤ k
theorem Sh.after {w w' : World} (hb : Below w.heap.size w w') {a : Option Addr} {l c k : Nat} {zs : List Int} (h : Sh w a l c k zs) : Sh w' a l c k zs := ⟨Sl.after hb h.1, h.2⟩
theorem Sh.drw {w : World} {a : Option Addr} {l c k : Nat} {zs : List Int} (h : Sh w a l c k zs) : Sh w.drew a l c k zs := h
theorem Sh.far {w : World} {a : Option Addr} {l c k : Nat} {zs : List Int} (h : Sh w a l c k zs) {b : Nat} {t : TypeId} {cs : Array Value} (V : Va w b t cs) (hn : NoInt cs) {w' : World} (q : ∀ c, c ≠ b → w'.heap[c]? = w.heap[c]?) : Sh w' a l c k zs := ⟨h.1.far V hn q, h.2⟩
set_option maxHeartbeats 2000000 in
theorem copyr7 (s : Bool) (a : Option Addr) (l c : Nat) (zs : List Int) (b : Option Addr) (m d : Nat) (ys : List Int) (v : Rat) (w : World) (hr : Rr w s a l c zs b m d ys v) (hl : l ≤ 10000) (hm : m ≤ 10000) :
    Calls Tryz.prog 57 #[.agg #[.bool s, .slice a l c, .slice b m d]] w fun e w' => ∃ a' c' b' d', e = .returned (.agg #[.bool s, .slice a' l c', .slice b' m d']) ∧ Rr w' s a' l c' zs b' m d' ys v ∧ Below w.heap.size w w' := by
  have B0 : Below w.heap.size w w := Below.refl _ _
  go_enter Tryz.func57, Tryz.ntmps57
  go_wp2_with fail
  refine ent2 w _ _ _ _ (Q := fun W => Calls Tryz.prog _ _ W _) ?_
  intro x1 hb hs_x1 V0 V1
  replace hr := Rr.after hb hr
  replace B0 := step B0 hb
  clear hb hs_x1
  refine (copyl7 a l c zs x1 hr.1 (by omega)).mono ?_
  rintro e x2 ⟨a2, c2, rfl, h2, hc2, hb⟩
  replace V0 := Va.after hb V0
  replace V1 := Va.after hb V1
  replace hr := Rr.after hb hr
  replace B0 := step B0 hb
  clear hb
  have c_V0 := V0.d0
  have f0_V0 := V0.frozen 0
  have d_V0 := V0.d1
  have f1_V0 := V0.frozen 1
  have e_V0 := V0.d2
  have f2_V0 := V0.frozen 2
  have l_V0 := V0.lt
  have m_V0 := Nat.le_of_lt l_V0
  go_wp2_with fail
  clear c_V0 f0_V0 d_V0 f1_V0 e_V0 f2_V0 l_V0 m_V0
  refine sto317 V0 (.slice a2 l c2) (Q := fun W => Calls Tryz.prog _ _ W _) ?_
  intro x3 V' oth far
  replace V1 := oth _ _ _ (by first | omega | (simp; omega)) V1
  replace hr := hr.far V0 (noInt3 _ _ _ _ _ _ _) far.1
  replace h2 := h2.far V0 (noInt3 _ _ _ _ _ _ _) far.1
  replace B0 := far.2 _ _ (by first | omega | (simp; omega)) B0
  replace V0 := V'
  clear oth far
  refine (copyl7 b m d ys x3 hr.2.1 (by omega)).mono ?_
  rintro e x4 ⟨b2, d2, rfl, g2, hd2, hb⟩
  replace V0 := Va.after hb V0
  replace V1 := Va.after hb V1
  replace hr := Rr.after hb hr
  replace h2 := Sl.after hb h2
  replace B0 := step B0 hb
  clear hb
  have U0 := V0.set327 (.slice b2 m d2)
  have U1 := V1.stay (fak _ _ 2 (.slice b2 m d2)) (show w.heap.size + 1 ≠ w.heap.size by omega)
  have c_V0 := V0.d0
  have f0_V0 := V0.frozen 0
  have d_V0 := V0.d1
  have f1_V0 := V0.frozen 1
  have e_V0 := V0.d2
  have f2_V0 := V0.frozen 2
  have l_V0 := V0.lt
  have m_V0 := Nat.le_of_lt l_V0
  have c_V1 := V1.d0
  have f0_V1 := V1.frozen 0
  have d_V1 := V1.d1
  have f1_V1 := V1.frozen 1
  have e_V1 := V1.d2
  have f2_V1 := V1.frozen 2
  have l_V1 := V1.lt
  have m_V1 := Nat.le_of_lt l_V1
  have dx0 := U0.d0
  have dx1 := U0.d1
  have dx2 := U0.d2
  have ex0 := U0.frozen 0
  have ex1 := U0.frozen 1
  have ex2 := U0.frozen 2
  have gx0 := U1.d0
  have gx1 := U1.d1
  have gx2 := U1.d2
  have hx0 := U1.frozen 0
  have hx1 := U1.frozen 1
  have hx2 := U1.frozen 2
  go_wp2_with fail
  refine bodyPost_ret (results_ra rfl rfl (U1.set3 _ _ _)) rfl ?_
  refine ⟨a2, c2, b2, d2, rfl, ?_, belo3 (B0.setCell (p := ⟨w.heap.size, 2, none⟩) (Nat.le_refl _) _) (by omega) _ _ _⟩
  refine Rr.far (V := U1) (hn := noInt3 _ _ _ _ _ _ _) (k := fa3 _ _ _ _ _) ?_
  refine Rr.far (V := V0) (hn := noInt3 _ _ _ _ _ _ _) (k := fak _ _ _ _) ?_
  exact ⟨h2, g2, hr.2.2.1, hr.2.2.2.1, ⟨hc2, hd2⟩, hr.2.2.2.2.2⟩

end Go.Proofs.YtjlodljgfjjclaaGreat
