import Derived.Test.YtblafbbnplfpjaaGreatDoorMgAq
import Derived.Test.YtblafbbnplfpjaaGreatDoorMgAr
import Derived.Test.YtblafbbnplfpjaaGreatDoorMgAs
import Derived.Test.YtblafbbnplfpjaaGreatDoorBsL
import Derived.Test.YtblafbbnplfpjaaGreatDoorRt3
import Derived.Test.YtblafbbnplfpjaaGreatDoorMgAa
import Derived.Test.YtblafbbnplfpjaaGreatDoorMgAl
import Derived.Test.YtblafbbnplfpjaaGreatDoorMgAp
import Derived.Test.YtblafbbnplfpjaaGreatDoorBsK
import Derived.Test.YtblafbbnplfpjaaGreatDoorMgAd
namespace Go.Proofs.YtblafbbnplfpjaaGreatDoor
open Go.RowKit Go.Shelf
set_option linter.unusedVariables false

def Om (w : World) (g : Nat) (ps : List Nd) : Prop := Va w g 48 (rowE elN (ps ++ mkE mkN 12)).toArray
def Ot (w : World) (g : Nat) (ps : List (List UInt8)) : Prop := Va w g 9 (rowE elS (ps ++ mkE mkT 12)).toArray
theorem Om.after {w w' : World} (hb : Below w.heap.size w w') {g : Nat} {ps : List Nd} (h : Om w g ps) : Om w' g ps := Va.after hb h
theorem Ot.after {w w' : World} (hb : Below w.heap.size w w') {g : Nat} {ps : List (List UInt8)} (h : Ot w g ps) : Ot w' g ps := Va.after hb h
theorem Om.drw {w : World} {g : Nat} {ps : List Nd} (h : Om w g ps) : Om w.drew g ps := h
theorem Ot.drw {w : World} {g : Nat} {ps : List (List UInt8)} (h : Ot w g ps) : Ot w.drew g ps := h
theorem Om.farS {w w' : World} {g b : Nat} {ps : List Nd} {cs : Array Value} (h : Om w g ps) (V : Va w b 25 cs) (k : ∀ c, c ≠ b → w'.heap[c]? = w.heap[c]?) : Om w' g ps := Va.keptW h (k g (fun e => by
  subst e
  have h2 := Eq.symm h |>.trans V
  simp at h2))
theorem Ot.farS {w w' : World} {g b : Nat} {ps : List (List UInt8)} {cs : Array Value} (h : Ot w g ps) (V : Va w b 25 cs) (k : ∀ c, c ≠ b → w'.heap[c]? = w.heap[c]?) : Ot w' g ps := Va.keptW h (k g (fun e => by
  subst e
  have h2 := Eq.symm h |>.trans V
  simp at h2))
theorem stoF5 {W : World} {b : Nat} {t : TypeId} {x0 x1 x2 x3 x4 : Value} (h : Va W b t #[x0, x1, x2, x3, x4]) (y0 y1 y2 y3 y4 : Value) {Q : World → Prop}
    (k : ∀ V, Va V b t #[y0, y1, y2, y3, y4] → (∀ c t cs, c ≠ b → Va W c t cs → Va V c t cs) → ((∀ c, c ≠ b → V.heap[c]? = W.heap[c]?) ∧ (∀ B v, B ≤ b → Below B v W → Below B v V)) → Q V) : Q (((((W.setCell ⟨b, 0, none⟩ y0).setCell ⟨b, 1, none⟩ y1).setCell ⟨b, 2, none⟩ y2).setCell ⟨b, 3, none⟩ y3).setCell ⟨b, 4, none⟩ y4) :=
  k _ (h.setF y0 y1 y2 y3 y4) (fun c t cs hc hv => hv.keptW (faF W b y0 y1 y2 y3 y4 c hc)) ⟨faF W b y0 y1 y2 y3 y4, fun B v hB hb => beloF hb hB y0 y1 y2 y3 y4⟩
theorem lentN_ex (a : Option Addr) (ca : Nat) (ps : List Nd) (w : World) (h : Le elN w a ps.length ps) (hn : a = none → ps.length = 0 ∧ ca = 0) (hl : ps.length ≤ 5000000000000) :
    Calls Tryz.prog 6 #[.slice a ps.length ca] w fun e w' => ∃ g, e = .returned (.slice (some ⟨g, 0, none⟩) ps.length (ps.length + 12)) ∧ Om w' g ps ∧ Below w.heap.size w w' :=
  (lentN_any a ps.length ca ps w h hn hl).mono fun e w' ⟨h1, h2, h3⟩ => ⟨_, h1, h2, h3⟩
theorem lentF_ex (a1 : Option Addr) (c1 : Nat) (a2 : Option Addr) (c2 : Nat) (f : Fx) (w : World) (hf : Lf w a1 c1 a2 c2 f) (hn1 : a1 = none → f.byr.length = 0 ∧ c1 = 0) (hn2 : a2 = none → f.lin.length = 0 ∧ c2 = 0) (hl1 : f.byr.length ≤ 9000000000000) (hl2 : f.lin.length ≤ 9000000000000) :
    Calls Tryz.prog 7 #[fxv a1 c1 a2 c2 f] w fun e w' => ∃ g1 g2, e = .returned (fxv (some ⟨g1, 0, none⟩) (f.byr.length + 12) (some ⟨g2, 0, none⟩) (f.lin.length + 12) f) ∧ Ot w' g1 f.byr ∧ Ot w' g2 f.lin ∧ Below w.heap.size w w' :=
  (lentF_any a1 c1 a2 c2 f w hf hn1 hn2 hl1 hl2).mono fun e w' ⟨g1, g2, h1, h2, h3, h4⟩ => ⟨g1, g2, h1, h2, h3, h4⟩
end Go.Proofs.YtblafbbnplfpjaaGreatDoor
namespace Go.Proofs.YtblafbbnplfpjaaGreatDoor
open Go.RowKit Go.Shelf
set_option linter.unusedVariables false

def Rr (w : World) (s : Bool) (a : Option Addr) (l c : Nat) (zs : List Int) (b : Option Addr) (m d : Nat) (ys : List Int) (v : Rat) : Prop :=
  Sl w a l zs ∧ Sl w b m ys ∧ usedN zs = l ∧ usedN ys = m ∧ (l ≤ c ∧ m ≤ d) ∧ iv s zs = v.num ∧ num ys = v.den ∧ (s = true → num zs ≠ 0)
theorem Rr.after {w w' : World} (hb : Below w.heap.size w w') {s : Bool} {a : Option Addr} {l c : Nat} {zs : List Int} {b : Option Addr} {m d : Nat} {ys : List Int} {v : Rat} (h : Rr w s a l c zs b m d ys v) : Rr w' s a l c zs b m d ys v := ⟨h.1.below hb (Nat.le_refl _), h.2.1.below hb (Nat.le_refl _), h.2.2⟩
theorem Rr.drw {w : World} {s : Bool} {a : Option Addr} {l c : Nat} {zs : List Int} {b : Option Addr} {m d : Nat} {ys : List Int} {v : Rat} (h : Rr w s a l c zs b m d ys v) : Rr w.drew s a l c zs b m d ys v := h
theorem Rr.far {w : World} {s : Bool} {a : Option Addr} {l c : Nat} {zs : List Int} {b : Option Addr} {m d : Nat} {ys : List Int} {v : Rat} (h : Rr w s a l c zs b m d ys v) {b' : Nat} {t : TypeId} {cs : Array Value} (V : Va w b' t cs) (hn : NoInt cs) {w' : World} (k : ∀ c, c ≠ b' → w'.heap[c]? = w.heap[c]?) : Rr w' s a l c zs b m d ys v := ⟨h.1.far V hn k, h.2.1.far V hn k, h.2.2⟩
theorem div_exact {x g q r : Int} (e : x = q * g + r) (r0 : 0 ≤ r) (hr : r < g) (hd : g ∣ x) : q * g = x := by
  obtain ⟨k, hk⟩ := hd
  have e2 : r = g * (k - q) := by rw [Int.mul_sub, ← hk, e, Int.mul_comm g]; omega
  rcases Int.lt_or_le (k - q) 1 with h1 | h1
  · have := Int.mul_le_mul_of_nonneg_left (show k - q ≤ 0 by omega) (show 0 ≤ g by omega); rw [Int.mul_zero] at this; omega
  · have := Int.mul_le_mul_of_nonneg_left h1 (show 0 ≤ g by omega); rw [Int.mul_one] at this; omega
theorem make_parts {n : Bool} {z0 z1 zg qs rs : List Int} (h0 : 0 ≤ num z0) (h1 : 0 < num z1) (hg : num zg = (Int.gcd (num z0) (num z1) : Nat)) (q0 : 0 ≤ num qs) (r0 : 0 ≤ num rs)
    (e1 : num qs * num zg = num z0) (e2 : num rs * num zg = num z1) : iv (n && decide (num qs ≠ 0)) qs = (Rat.divInt (iv n z0) (num z1)).num ∧ num rs = (Rat.divInt (iv n z0) (num z1)).den := by
  have hA : num z0 = ((iv n z0).natAbs : Int) := by cases n <;> simp only [iv_t, iv_f] <;> omega
  have hB : num z1 = ((num z1).natAbs : Int) := by omega
  have hq : (num qs = 0) ↔ (num z0 = 0) := by
    constructor
    · intro h; rw [h, Int.zero_mul] at e1; exact e1.symm
    · intro h
      rw [h] at e1
      rcases Int.mul_eq_zero.1 e1 with h' | h'
      · exact h'
      · rw [h', Int.mul_zero] at e2; omega
  have hr : num rs ≠ 0 := by intro h; rw [h, Int.zero_mul] at e2; omega
  obtain ⟨p1, p2⟩ := new_parts (X := iv n z0) (Y := num z1) (X' := iv n z0) (by omega) (by rw [if_neg (by omega)]) hA hB hg e1 e2 q0 r0 (b := n && decide (num qs ≠ 0)) (by
    cases n
    · rw [iv_f]; simp; exact h0
    · rw [iv_t]
      by_cases h : num qs = 0
      · rw [hq.1 h]; simp [h]
      · have hz : ¬ num z0 = 0 := fun h' => h (hq.2 h')
        rw [Int.sign_eq_neg_one_of_neg (by omega)]; simp [h])
  refine ⟨p1, ?_⟩
  rw [← p2]; unfold dn; rw [if_neg hr]

set_option maxHeartbeats 4000000 in
theorem rmake5 (n : Bool) (a0 a1 : Option Addr) (l0 k0 l1 k1 : Nat) (z0 z1 : List Int) (w : World) (h0 : Sl w a0 l0 z0) (h1 : Sl w a1 l1 z1) (c0 : l0 ≤ k0) (c1 : l1 ≤ k1) (t0 : l0 ≤ 1000000) (t1 : l1 ≤ 1000000) (u0 : usedN z0 ≤ 4096) (u1 : usedN z1 ≤ 4096) (hz : num z1 ≠ 0) :
    Calls Tryz.prog 86 #[.bool n, .slice a0 l0 k0, .slice a1 l1 k1] w fun e w' => ∃ s' a' l' c' zs' b' m' d' ys', e = .returned (.agg #[.bool s', .slice a' l' c', .slice b' m' d']) ∧ Rr w' s' a' l' c' zs' b' m' d' ys' (Rat.divInt (iv n z0) (num z1)) ∧ l' ≤ 2 * l0 ∧ m' ≤ 2 * l1 ∧ Below w.heap.size w w' := by
  have B0 : Below w.heap.size w w := Below.refl _ _
  have p0 := num_nonneg h0.2.1
  have p1 := num_nonneg h1.2.1
  go_enter Tryz.func86, Tryz.ntmps86
  go_wp2_with fail
  refine ent1 w _ _ (Q := fun W => Calls Tryz.prog _ _ W _) ?_
  intro x1 hb hs_x1 V0
  replace h0 := Sl.after hb h0
  replace h1 := Sl.after hb h1
  replace B0 := step B0 hb
  clear hb hs_x1
  refine (rgcd_n a0 a1 l0 k0 l1 k1 z0 z1 x1 h0 h1 c0 c1 (by omega) (by omega) u0 u1).mono ?_
  rintro e x2 ⟨ag, mg, cg, zg, rfl, hcg, hg, ug, eg, hb⟩
  replace V0 := V0.a hb
  replace h0 := Sl.after hb h0
  replace h1 := Sl.after hb h1
  replace B0 := step B0 hb
  clear hb
  have HG : Hid (num zg ≠ 0 ∧ num zg ∣ num z0 ∧ num zg ∣ num z1) := by
    refine ⟨?_, ?_, ?_⟩
    · rw [eg]; exact gcd_ne hz
    · rw [eg]; exact Int.gcd_dvd_left ..
    · rw [eg]; exact Int.gcd_dvd_right ..
  have hmg : mg ≤ 4096 := by
    have hgl : num zg ≤ num z1 := Int.le_of_dvd (by omega) HG.out.2.2
    have := used_of_lt hg.2.1 (Int.lt_of_le_of_lt hgl (lt_of_used h1.2.1 u1))
    omega
  have HE : Hid (num zg = (Int.gcd (num z0) (num z1) : Nat)) := eg
  clear eg ug
  go_wp2_with fail
  refine (rdivmod_n a0 ag l0 k0 mg cg z0 zg x2 h0 hg c0 (by omega) (by omega) HG.out.1).mono ?_
  rintro e x3 ⟨aq, mq, cq, qs, ax, mx, cx, xs, rfl, hq, uq, hcq, hx, ux, hcx, e1, x0, x1, lq, lx, hb⟩
  replace V0 := V0.a hb
  replace h0 := Sl.after hb h0
  replace h1 := Sl.after hb h1
  replace hg := Sl.after hb hg
  replace B0 := step B0 hb
  clear hb
  have EQ : Hid (num qs * num zg = num z0) := div_exact e1 x0 x1 HG.out.2.1
  clear e1 x0 x1 lx ux hcx hx
  go_wp2_with fail
  refine (rdivmod_n a1 ag l1 k1 mg cg z1 zg x3 h1 hg c1 (by omega) (by omega) HG.out.1).mono ?_
  rintro e x4 ⟨ar, mr, cr, rs, ax, mx, cx, xs, rfl, hr, ur, hcr, hx, ux, hcx, e1, x0, x1, lr, lx, hb⟩
  replace V0 := V0.a hb
  replace h0 := Sl.after hb h0
  replace h1 := Sl.after hb h1
  replace hg := Sl.after hb hg
  replace hq := Sl.after hb hq
  replace B0 := step B0 hb
  clear hb
  have ER : Hid (num rs * num zg = num z1) := div_exact e1 x0 x1 HG.out.2.2
  clear e1 x0 x1 lx ux hcx hx
  have HP := make_parts (n := n) p0 (by omega) HE.out (num_nonneg hq.2.1) (num_nonneg hr.2.1) EQ.out ER.out
  have HPP : Hid (iv (n && decide (num qs ≠ 0)) qs = (Rat.divInt (iv n z0) (num z1)).num ∧ num rs = (Rat.divInt (iv n z0) (num z1)).den) := HP
  have hqz : num qs = 0 ↔ mq = 0 := by rw [num_eq_zero hq.2.1, uq]
  clear HP HE EQ ER HG
  have szz := B0.size
  cases n
  ·
    have c_V0 := V0.d0
    have f0_V0 := V0.frozen 0
    have d_V0 := V0.d1
    have f1_V0 := V0.frozen 1
    have e_V0 := V0.d2
    have f2_V0 := V0.frozen 2
    have l_V0 := V0.lt
    have m_V0 := Nat.le_of_lt l_V0
    go_wp2_with fail
    refine bodyPost_ret (results_ra rfl rfl (V0.set3 _ _ _)) rfl ?_
    refine ⟨false, aq, mq, cq, qs, ar, mr, cr, rs, rfl, ?_, lq, lr, belo3 B0 (Nat.le_refl _) _ _ _⟩
    refine Rr.far (V := V0) (hn := noInt3 _ _ _ _ _ _ _) (k := fa3 _ _ _ _ _) ⟨hq, hr, uq, ur, ⟨hcq, hcr⟩, ?_, HPP.out.2, ?_⟩
    · exact HPP.out.1
    · intro h; cases h
  ·
    by_cases hm : mq = 0
    ·
      have hd : decide (num qs ≠ 0) = false := by simp; exact hqz.2 hm
      rw [hd] at HPP
      subst hm
      have c_V0 := V0.d0
      have f0_V0 := V0.frozen 0
      have d_V0 := V0.d1
      have f1_V0 := V0.frozen 1
      have e_V0 := V0.d2
      have f2_V0 := V0.frozen 2
      have l_V0 := V0.lt
      have m_V0 := Nat.le_of_lt l_V0
      go_wp2_with fail
      refine bodyPost_ret (results_ra rfl rfl (V0.set3 _ _ _)) rfl ?_
      refine ⟨false, aq, 0, cq, qs, ar, mr, cr, rs, rfl, ?_, lq, lr, belo3 B0 (Nat.le_refl _) _ _ _⟩
      refine Rr.far (V := V0) (hn := noInt3 _ _ _ _ _ _ _) (k := fa3 _ _ _ _ _) ⟨hq, hr, uq, ur, ⟨hcq, hcr⟩, ?_, HPP.out.2, ?_⟩
      · exact HPP.out.1
      · intro h; cases h
    ·
      have hd : decide (num qs ≠ 0) = true := by simp; exact fun h => hm (hqz.1 h)
      rw [hd] at HPP
      have hm2 : 0 < mq := Nat.pos_of_ne_zero hm
      have c_V0 := V0.d0
      have f0_V0 := V0.frozen 0
      have d_V0 := V0.d1
      have f1_V0 := V0.frozen 1
      have e_V0 := V0.d2
      have f2_V0 := V0.frozen 2
      have l_V0 := V0.lt
      have m_V0 := Nat.le_of_lt l_V0
      go_wp2_with fail
      refine bodyPost_ret (results_ra rfl rfl (V0.set3 _ _ _)) rfl ?_
      refine ⟨true, aq, mq, cq, qs, ar, mr, cr, rs, rfl, ?_, lq, lr, belo3 B0 (Nat.le_refl _) _ _ _⟩
      refine Rr.far (V := V0) (hn := noInt3 _ _ _ _ _ _ _) (k := fa3 _ _ _ _ _) ⟨hq, hr, uq, ur, ⟨hcq, hcr⟩, ?_, HPP.out.2, ?_⟩
      · exact HPP.out.1
      · intro _; exact of_decide_eq_true hd

end Go.Proofs.YtblafbbnplfpjaaGreatDoor
namespace Go.Proofs.YtblafbbnplfpjaaGreatDoor
open Go.RowKit Go.Shelf
set_option linter.unusedVariables false

set_option maxHeartbeats 4000000 in
theorem rlow6 (n : Bool) (a0 a1 : Option Addr) (l0 k0 l1 k1 : Nat) (z0 z1 : List Int) (w : World) (h0 : Sl w a0 l0 z0) (h1 : Sl w a1 l1 z1) (c0 : l0 ≤ k0) (c1 : l1 ≤ k1) (t0 : l0 ≤ 1000000) (t1 : l1 ≤ 1000000) (u0 : usedN z0 ≤ 4096) (u1 : usedN z1 ≤ 4096) (hz : num z1 ≠ 0) :
    Calls Tryz.prog 113 #[.agg #[.bool n, .slice a0 l0 k0, .slice a1 l1 k1]] w fun e w' => ∃ s' a' l' c' zs' b' m' d' ys', e = .returned (.agg #[.bool s', .slice a' l' c', .slice b' m' d']) ∧ Rr w' s' a' l' c' zs' b' m' d' ys' (Rat.divInt (iv n z0) (num z1)) ∧ l' ≤ 2 * l0 ∧ m' ≤ 2 * l1 ∧ Below w.heap.size w w' := by
  have B0 : Below w.heap.size w w := Below.refl _ _
  have p0 := num_nonneg h0.2.1
  have p1 := num_nonneg h1.2.1
  go_enter Tryz.func113, Tryz.ntmps113
  go_wp2_with fail
  refine ent2 w _ _ _ _ (Q := fun W => Calls Tryz.prog _ _ W _) ?_
  intro x1 hb hs_x1 V1 V0
  replace h0 := Sl.after hb h0
  replace h1 := Sl.after hb h1
  replace B0 := step B0 hb
  clear hb hs_x1
  refine (rgcd_n a0 a1 l0 k0 l1 k1 z0 z1 x1 h0 h1 c0 c1 (by omega) (by omega) u0 u1).mono ?_
  rintro e x2 ⟨ag, mg, cg, zg, rfl, hcg, hg, ug, eg, hb⟩
  replace V0 := V0.a hb
  replace V1 := V1.a hb
  replace h0 := Sl.after hb h0
  replace h1 := Sl.after hb h1
  replace B0 := step B0 hb
  clear hb
  have HG : Hid (num zg ≠ 0 ∧ num zg ∣ num z0 ∧ num zg ∣ num z1) := by
    refine ⟨?_, ?_, ?_⟩
    · rw [eg]; exact gcd_ne hz
    · rw [eg]; exact Int.gcd_dvd_left ..
    · rw [eg]; exact Int.gcd_dvd_right ..
  have hmg : mg ≤ 4096 := by
    have hgl : num zg ≤ num z1 := Int.le_of_dvd (by omega) HG.out.2.2
    have := used_of_lt hg.2.1 (Int.lt_of_le_of_lt hgl (lt_of_used h1.2.1 u1))
    omega
  have HE : Hid (num zg = (Int.gcd (num z0) (num z1) : Nat)) := eg
  clear eg ug
  have c_V1 := V1.d0
  have f0_V1 := V1.frozen 0
  have d_V1 := V1.d1
  have f1_V1 := V1.frozen 1
  have e_V1 := V1.d2
  have f2_V1 := V1.frozen 2
  have l_V1 := V1.lt
  have m_V1 := Nat.le_of_lt l_V1
  go_wp2_with fail
  clear c_V1 f0_V1 d_V1 f1_V1 e_V1 f2_V1 l_V1 m_V1
  refine (rdivmod_n a0 ag l0 k0 mg cg z0 zg x2 h0 hg c0 (by omega) (by omega) HG.out.1).mono ?_
  rintro e x3 ⟨aq, mq, cq, qs, ax, mx, cx, xs, rfl, hq, uq, hcq, hx, ux, hcx, e1, x0, x1, lq, lx, hb⟩
  replace V0 := V0.a hb
  replace V1 := V1.a hb
  replace h0 := Sl.after hb h0
  replace h1 := Sl.after hb h1
  replace hg := Sl.after hb hg
  replace B0 := step B0 hb
  clear hb
  have EQ : Hid (num qs * num zg = num z0) := div_exact e1 x0 x1 HG.out.2.1
  clear e1 x0 x1 lx ux hcx hx
  have c_V1 := V1.d0
  have f0_V1 := V1.frozen 0
  have d_V1 := V1.d1
  have f1_V1 := V1.frozen 1
  have e_V1 := V1.d2
  have f2_V1 := V1.frozen 2
  have l_V1 := V1.lt
  have m_V1 := Nat.le_of_lt l_V1
  go_wp2_with fail
  clear c_V1 f0_V1 d_V1 f1_V1 e_V1 f2_V1 l_V1 m_V1
  refine (rdivmod_n a1 ag l1 k1 mg cg z1 zg x3 h1 hg c1 (by omega) (by omega) HG.out.1).mono ?_
  rintro e x4 ⟨ar, mr, cr, rs, ax, mx, cx, xs, rfl, hr, ur, hcr, hx, ux, hcx, e1, x0, x1, lr, lx, hb⟩
  replace V0 := V0.a hb
  replace V1 := V1.a hb
  replace h0 := Sl.after hb h0
  replace h1 := Sl.after hb h1
  replace hg := Sl.after hb hg
  replace hq := Sl.after hb hq
  replace B0 := step B0 hb
  clear hb
  have ER : Hid (num rs * num zg = num z1) := div_exact e1 x0 x1 HG.out.2.2
  clear e1 x0 x1 lx ux hcx hx
  have HP := make_parts (n := n) p0 (by omega) HE.out (num_nonneg hq.2.1) (num_nonneg hr.2.1) EQ.out ER.out
  have HPP : Hid (iv (n && decide (num qs ≠ 0)) qs = (Rat.divInt (iv n z0) (num z1)).num ∧ num rs = (Rat.divInt (iv n z0) (num z1)).den) := HP
  have hqz : num qs = 0 ↔ mq = 0 := by rw [num_eq_zero hq.2.1, uq]
  clear HP HE EQ ER HG
  have szz := B0.size
  cases n
  ·
    have c_V0 := V0.d0
    have f0_V0 := V0.frozen 0
    have d_V0 := V0.d1
    have f1_V0 := V0.frozen 1
    have e_V0 := V0.d2
    have f2_V0 := V0.frozen 2
    have l_V0 := V0.lt
    have m_V0 := Nat.le_of_lt l_V0
    have c_V1 := V1.d0
    have f0_V1 := V1.frozen 0
    have d_V1 := V1.d1
    have f1_V1 := V1.frozen 1
    have e_V1 := V1.d2
    have f2_V1 := V1.frozen 2
    have l_V1 := V1.lt
    have m_V1 := Nat.le_of_lt l_V1
    go_wp2_with fail
    refine bodyPost_ret (results_ra rfl rfl (V0.set3 _ _ _)) rfl ?_
    refine ⟨false, aq, mq, cq, qs, ar, mr, cr, rs, rfl, ?_, lq, lr, belo3 B0 (Nat.le_succ _) _ _ _⟩
    refine Rr.far (V := V0) (hn := noInt3 _ _ _ _ _ _ _) (k := fa3 _ _ _ _ _) ⟨hq, hr, uq, ur, ⟨hcq, hcr⟩, ?_, HPP.out.2, ?_⟩
    · exact HPP.out.1
    · intro h; cases h
  ·
    by_cases hm : mq = 0
    ·
      have hd : decide (num qs ≠ 0) = false := by simp; exact hqz.2 hm
      rw [hd] at HPP
      subst hm
      have c_V0 := V0.d0
      have f0_V0 := V0.frozen 0
      have d_V0 := V0.d1
      have f1_V0 := V0.frozen 1
      have e_V0 := V0.d2
      have f2_V0 := V0.frozen 2
      have l_V0 := V0.lt
      have m_V0 := Nat.le_of_lt l_V0
      have c_V1 := V1.d0
      have f0_V1 := V1.frozen 0
      have d_V1 := V1.d1
      have f1_V1 := V1.frozen 1
      have e_V1 := V1.d2
      have f2_V1 := V1.frozen 2
      have l_V1 := V1.lt
      have m_V1 := Nat.le_of_lt l_V1
      go_wp2_with fail
      refine bodyPost_ret (results_ra rfl rfl (V0.set3 _ _ _)) rfl ?_
      refine ⟨false, aq, 0, cq, qs, ar, mr, cr, rs, rfl, ?_, lq, lr, belo3 B0 (Nat.le_succ _) _ _ _⟩
      refine Rr.far (V := V0) (hn := noInt3 _ _ _ _ _ _ _) (k := fa3 _ _ _ _ _) ⟨hq, hr, uq, ur, ⟨hcq, hcr⟩, ?_, HPP.out.2, ?_⟩
      · exact HPP.out.1
      · intro h; cases h
    ·
      have hd : decide (num qs ≠ 0) = true := by simp; exact fun h => hm (hqz.1 h)
      rw [hd] at HPP
      have hm2 : 0 < mq := Nat.pos_of_ne_zero hm
      have c_V0 := V0.d0
      have f0_V0 := V0.frozen 0
      have d_V0 := V0.d1
      have f1_V0 := V0.frozen 1
      have e_V0 := V0.d2
      have f2_V0 := V0.frozen 2
      have l_V0 := V0.lt
      have m_V0 := Nat.le_of_lt l_V0
      have c_V1 := V1.d0
      have f0_V1 := V1.frozen 0
      have d_V1 := V1.d1
      have f1_V1 := V1.frozen 1
      have e_V1 := V1.d2
      have f2_V1 := V1.frozen 2
      have l_V1 := V1.lt
      have m_V1 := Nat.le_of_lt l_V1
      go_wp2_with fail
      refine bodyPost_ret (results_ra rfl rfl (V0.set3 _ _ _)) rfl ?_
      refine ⟨true, aq, mq, cq, qs, ar, mr, cr, rs, rfl, ?_, lq, lr, belo3 B0 (Nat.le_succ _) _ _ _⟩
      refine Rr.far (V := V0) (hn := noInt3 _ _ _ _ _ _ _) (k := fa3 _ _ _ _ _) ⟨hq, hr, uq, ur, ⟨hcq, hcr⟩, ?_, HPP.out.2, ?_⟩
      · exact HPP.out.1
      · intro _; exact of_decide_eq_true hd
theorem worth_val {U : Int} {P : Nat} {neg : Bool} {z1 z2 : List Int} (hng : decide (U < 0) = neg) (h1 : num z1 = (U.natAbs : Int)) (h2 : num z2 = 10 ^ P) : Rat.divInt (iv neg z1) (num z2) = Rat.divInt U (10 ^ P) := by
  have e : iv neg z1 = U := by
    subst hng
    unfold iv
    by_cases h : U < 0 <;> simp [h, h1] <;> omega
  rw [e, h2]
set_option maxHeartbeats 4000000 in
set_option maxRecDepth 8000 in
theorem rworth6 (U : Int) (P : Nat) (hP : P ≤ 9) (h1 : -9223372036854775808 ≤ U) (h2 : U ≤ 9223372036854775807) (w : World) :
  Calls Tryz.prog 87 #[.agg #[.int .i64 U, .int .i64 P]] w fun e w' => ∃ s' a' l' c' zs' b' m' d' ys', e = .returned (.agg #[.bool s', .slice a' l' c', .slice b' m' d']) ∧ Rr w' s' a' l' c' zs' b' m' d' ys' (Rat.divInt U (10 ^ P)) ∧ Below w.heap.size w w' := by
 have HB : Hid (-9223372036854775808 ≤ U ∧ U ≤ 9223372036854775807) := ⟨h1, h2⟩; (obtain ⟨neg, hng⟩ : ∃ neg, decide (U < 0) = neg := ⟨_, rfl⟩); have HN : Hid (decide (U < 0) = neg) := hng; (have hne : (10 : Int) ^ P ≠ 0 := by have : (0 : Int) < 10 ^ P := Int.pow_pos (by omega); omega); have HNE : Hid ((10 : Int) ^ P ≠ 0) := hne; clear h1 h2 hne; have B0 : Below w.heap.size w w := Below.refl _ _
 go_enter Tryz.func87, Tryz.ntmps87
 (go_wp2_with fail); refine ent2 w _ _ _ _ (Q := fun W => Code.wp Tryz.prog _ _ _ W) ?_; intro x1 hb hs_x1 V1 V0; replace B0 := step B0 hb; clear hb hs_x1; refine wp_region_noPanic ?_; replace V0 : Va x1.drew _ _ _ := V0; replace V1 : Va x1.drew _ _ _ := V1; replace B0 := Below.drew B0; refine wp_region_held_drew (S := (fun W => W.cell? ⟨w.heap.size, 0, none⟩ = some (.int .i64 U) ∧ W.cell? ⟨w.heap.size, 1, none⟩ = some (.int .i64 P))) (by kernel_rfl) ⟨V1.c0, V1.c1⟩ (fun hHeld => ?_); (obtain ⟨x2, hxd⟩ : ∃ xd, xd = x1.drew := ⟨_, rfl⟩); rw [← hxd] at V0 V1 B0 hHeld ⊢; clear hxd; refine tjz 0 hHeld ?_; refine tjz 1 hHeld ?_; refine tjz 2 hHeld ?_; refine tjz 3 hHeld ?_; refine tjz 4 hHeld ?_; refine tk 7 rfl hHeld ?_
 simp only [gA, gB, gC, Act.put, gD, gE, gF]; refine tjz 8 hHeld ?_; refine ryz 5 (fun K hK => ?_); simp only [gA, gB, gC]; (go_simp); refine (rsize6 U HB.out.1 HB.out.2 _).mono ?_; rintro e xw ⟨rfl, hw⟩; rw [hw]; clear hw; (try go_wp2_with fail); refine hK.out _ _ ⟨V1.c0, V1.c1⟩ (fun hHeld => ?_); clear hK K; refine ryz 6 (fun K hK => ?_); simp only [gA, gB, gC]; (go_simp); refine (rsmall_any (U.natAbs : Int) ⟨by omega, by have h5 := HB.out; omega⟩ _).mono ?_; rintro e x3 ⟨a1, m1, c1, z1, rfl, hc1, hm1, h1, hu1, hn1, hb⟩; replace V0 := V0.a hb; replace V1 := V1.a hb; replace B0 := step B0 hb; clear hb; (try go_wp2_with fail); refine hK.out _ _ ⟨V1.c0, V1.c1⟩ (fun hHeld => ?_); clear hK K; refine wpAnyH_ready (rs := [9]) (by kernel_rfl) (by simp) ?_
 refine AllReadyH.cons rfl (fun K hK => ?_) AllReadyH.nil; simp only [gA, gB, gC]; (go_simp); refine (rten6 P hP _).mono ?_; rintro e x4 ⟨a2, m2, c2, z2, rfl, hc2, hm2, h2, hu2, hn2, hb⟩; replace V0 := V0.a hb; replace V1 := V1.a hb; replace B0 := step B0 hb; replace h1 := Sl.after hb h1; clear hb; (try go_wp2_with fail); refine hK.out _ _ ⟨V1.c0, V1.c1⟩ (fun hHeld => ?_); clear hK K; refine tjz 10 hHeld ?_; refine ryz 11 (fun K hK => ?_); simp only [gA, gB, gC]; (go_simp); refine (rlow6 neg a1 a2 m1 c1 m2 c2 z1 z2 _ h1 h2 hc1 hc2 (by omega) (by omega) (by omega) (by omega) (by rw [hn2]; exact HNE.out)).mono ?_; rintro e x5 ⟨s', a', l', c', zs', b', m', d', ys', rfl, hr, -, -, hb⟩; replace V0 := V0.a hb; replace V1 := V1.a hb; replace B0 := step B0 hb; clear hb; rw [worth_val HN.out hn1 hn2] at hr
 clear h1 h2 hn1 hn2 hu1 hu2; (try go_wp2_with fail); refine hK.out _ _ ⟨V1.c0, V1.c1⟩ (fun hHeld => ?_); clear hK K; have c_V0 := V0.d0; have f0_V0 := V0.frozen 0; have d_V0 := V0.d1; have f1_V0 := V0.frozen 1; have e_V0 := V0.d2; have f2_V0 := V0.frozen 2; have l_V0 := V0.lt; have m_V0 := Nat.le_of_lt l_V0; refine ryz 12 (fun K hK => ?_); simp only [gA, gB, gC]; (go_simp); clear c_V0 f0_V0 d_V0 f1_V0 e_V0 f2_V0 l_V0 m_V0; refine sto3 V0 (.bool s') (.slice a' l' c') (.slice b' m' d') (Q := fun W => K _ W) ?_; intro x6 V' oth far; replace V1 := oth _ _ _ (by omega) V1; replace hr := hr.far V0 (noInt3 _ _ _ _ _ _ _) far.1; replace B0 := far.2 _ _ (by omega) B0; replace V0 := V'; clear oth far V'; refine hK.out _ _ ⟨V1.c0, V1.c1⟩ (fun hHeld => ?_); clear hK K; refine dnz ?_; clear hHeld; (go_wp2_with fail); refine bodyPost_ret (results_ra rfl rfl V0) rfl ?_
 exact ⟨s', a', l', c', zs', b', m', d', ys', rfl, hr, B0⟩
end Go.Proofs.YtblafbbnplfpjaaGreatDoor
namespace Go.Proofs.YtblafbbnplfpjaaGreatDoor
open Go.RowKit Go.Shelf
set_option linter.unusedVariables false

theorem Ow.sl {w : World} {g : Nat} {cs : List Int} (h : Ow w g cs) (hL : Limbs cs) {n : Nat} (hn : cs.length = n) : Sl w (some ⟨g, 0, none⟩) n cs := by subst hn; exact Own.sl h hL
end Go.Proofs.YtblafbbnplfpjaaGreatDoor
namespace Go.Proofs.YtblafbbnplfpjaaGreatDoor
open Go.RowKit Go.Shelf
set_option linter.unusedVariables false

def Norm (s : Bool) (zs ys : List Int) : Prop := usedN zs = zs.length ∧ usedN ys = ys.length ∧ ys.length ≠ 0 ∧ ¬ (s = true ∧ zs.length = 0) ∧ Int.gcd (num zs) (num ys) = 1
def Ri (w : World) (a : Option Addr) (l c : Nat) (zs : List Int) (b : Option Addr) (m d : Nat) (ys : List Int) : Prop := Sl w a l zs ∧ Sl w b m ys ∧ l ≤ c ∧ m ≤ d
theorem Ri.after {w w' : World} (hb : Below w.heap.size w w') {a : Option Addr} {l c : Nat} {zs : List Int} {b : Option Addr} {m d : Nat} {ys : List Int} (h : Ri w a l c zs b m d ys) : Ri w' a l c zs b m d ys := ⟨h.1.below hb (Nat.le_refl _), h.2.1.below hb (Nat.le_refl _), h.2.2⟩
theorem Ri.drw {w : World} {a : Option Addr} {l c : Nat} {zs : List Int} {b : Option Addr} {m d : Nat} {ys : List Int} (h : Ri w a l c zs b m d ys) : Ri w.drew a l c zs b m d ys := h
theorem Ri.far {w : World} {a : Option Addr} {l c : Nat} {zs : List Int} {b : Option Addr} {m d : Nat} {ys : List Int} (h : Ri w a l c zs b m d ys) {b' : Nat} {t : TypeId} {cs : Array Value} (V : Va w b' t cs) (hn : NoInt cs) {w' : World} (k : ∀ c, c ≠ b' → w'.heap[c]? = w.heap[c]?) : Ri w' a l c zs b m d ys := ⟨h.1.far V hn k, h.2.1.far V hn k, h.2.2⟩
end Go.Proofs.YtblafbbnplfpjaaGreatDoor
namespace Go.Proofs.YtblafbbnplfpjaaGreatDoor
open Go.RowKit Go.Shelf
set_option linter.unusedVariables false

end Go.Proofs.YtblafbbnplfpjaaGreatDoor
namespace Go.Proofs.YtblafbbnplfpjaaGreatDoor
open Go.RowKit Go.Shelf
set_option linter.unusedVariables false

theorem Norm.short {w : World} {s : Bool} {a b : Option Addr} {l m : Nat} {zs ys : List Int} (h1 : Sl w a l zs) (h2 : Sl w b m ys) (hl : l ≤ 1024) (hm : m ≤ 1024) {v : Rat} (hv : iv s zs = v.num) (hd : num ys = v.den) : Short v := by
  have z0 := num_nonneg h1.2.1
  have u1 := usedN_le zs
  have u2 := usedN_le ys
  have e1 : (v.num.natAbs : Int) = num zs := by rw [← hv]; cases s <;> simp only [iv_t, iv_f] <;> omega
  refine ⟨by rw [e1]; exact lt_of_used h1.2.1 (by rw [h1.1] at u1; omega), by rw [← hd]; exact lt_of_used h2.2.1 (by rw [h2.1] at u2; omega)⟩

end Go.Proofs.YtblafbbnplfpjaaGreatDoor
namespace Go.Proofs.YtblafbbnplfpjaaGreatDoor
open Go.RowKit Go.Shelf
set_option linter.unusedVariables false

theorem Rr.long {w : World} {s : Bool} {a : Option Addr} {l c : Nat} {zs : List Int} {b : Option Addr} {m d : Nat} {ys : List Int} {v : Rat} (h : Rr w s a l c zs b m d ys v) : max (l : Int) (m : Int) ≤ 1024 ↔ Short v := by
  have z0 := num_nonneg h.1.2.1
  have e1 : (v.num.natAbs : Int) = num zs := by rw [← h.2.2.2.2.2.1]; cases s <;> simp only [iv_t, iv_f] <;> omega
  have p1 : l ≤ 1024 ↔ num zs < pw 1024 := ⟨fun q => lt_of_used h.1.2.1 (by rw [h.2.2.1]; exact q), fun q => by have := used_of_lt h.1.2.1 q; rw [h.2.2.1] at this; exact this⟩
  have p2 : m ≤ 1024 ↔ num ys < pw 1024 := ⟨fun q => lt_of_used h.2.1.2.1 (by rw [h.2.2.2.1]; exact q), fun q => by have := used_of_lt h.2.1.2.1 q; rw [h.2.2.2.1] at this; exact this⟩
  rw [h.2.2.2.2.2.2.1] at p2
  unfold Short
  rw [e1, ← p1, ← p2]
  omega

end Go.Proofs.YtblafbbnplfpjaaGreatDoor
namespace Go.Proofs.YtblafbbnplfpjaaGreatDoor
open Go.RowKit Go.Shelf
set_option linter.unusedVariables false

theorem rsign5 (s : Bool) (a : Option Addr) (l c : Nat) (zs : List Int) (b : Option Addr) (m d : Nat) (ys : List Int) (v : Rat) (w : World) (h : Rr w s a l c zs b m d ys v) :
    Calls Tryz.prog 110 #[.agg #[.bool s, .slice a l c, .slice b m d]] w fun e w' => e = .returned (.int .i64 (Int.sign v.num)) ∧ Below w.heap.size w w' := by
  have hz := num_eq_zero h.1.2.1
  have z0 := num_nonneg h.1.2.1
  rw [h.2.2.1] at hz
  have hv := h.2.2.2.2.2.1
  have hs := h.2.2.2.2.2.2.2
  by_cases l0 : l = 0
  · have e1 : Int.sign v.num = 0 := by rw [← hv]; cases s <;> simp only [iv_t, iv_f, hz.2 l0] <;> rfl
    rw [e1]
    subst l0
    clear hz hv hs h e1 z0
    go_enter Tryz.func110, Tryz.ntmps110
    go_wp2_with fail
    go_ret
    exact ⟨rfl, (Below.refl _ _).alloc (Nat.le_refl _) _⟩
  · have l1 : ((l : Int) == 0) = false := by simp; omega
    have n0 : num zs ≠ 0 := fun e => l0 (hz.1 e)
    cases s
    · have e1 : Int.sign v.num = 1 := by rw [← hv, iv_f]; exact Int.sign_eq_one_of_pos (by omega)
      rw [e1]
      clear hz hv hs h e1 z0 n0 l0
      go_enter Tryz.func110, Tryz.ntmps110
      go_wp2_with fail
      go_ret
      exact ⟨rfl, (Below.refl _ _).alloc (Nat.le_refl _) _⟩
    · have e1 : Int.sign v.num = -1 := by rw [← hv, iv_t]; exact Int.sign_eq_neg_one_of_neg (by omega)
      rw [e1]
      clear hz hv hs h e1 z0 n0 l0
      go_enter Tryz.func110, Tryz.ntmps110
      go_wp2_with fail
      go_ret
      exact ⟨rfl, (Below.refl _ _).alloc (Nat.le_refl _) _⟩

end Go.Proofs.YtblafbbnplfpjaaGreatDoor
namespace Go.Proofs.YtblafbbnplfpjaaGreatDoor
open Go.RowKit Go.Shelf
set_option linter.unusedVariables false

theorem Rr.len {w : World} {s : Bool} {a : Option Addr} {l c : Nat} {zs : List Int} {b : Option Addr} {m d : Nat} {ys : List Int} {v : Rat} (h : Rr w s a l c zs b m d ys v) (hs : Short v) : l ≤ 1024 ∧ m ≤ 1024 := by
  have := h.long.2 hs
  omega
end Go.Proofs.YtblafbbnplfpjaaGreatDoor
namespace Go.Proofs.YtblafbbnplfpjaaGreatDoor
open Go.RowKit Go.Shelf
set_option linter.unusedVariables false

def HvInv (d x : Int) (j : Nat) : Prop := x = d / 2 ^ j ∧ (0 < j → 2 ^ (j - 1) ≤ d)
theorem hv_step {d x : Int} {j : Nat} (hd : 0 ≤ d) (I : HvInv d x j) (hx : 0 < x) : HvInv d (x / 2) (j + 1) := by
  obtain ⟨i1, i2⟩ := I
  refine ⟨by rw [i1, Int.pow_succ, Int.ediv_ediv_of_nonneg (Int.le_of_lt (p2_pos _))], fun _ => ?_⟩
  rw [Nat.add_sub_cancel]
  rcases Int.lt_or_le d (2 ^ j) with h | h
  · rw [i1, Int.ediv_eq_zero_of_lt hd h] at hx; omega
  · exact h
theorem hv_end {d x : Int} {j : Nat} (hd : 0 < d) (I : HvInv d x j) (hx : x = 0) : 0 < j ∧ 2 ^ (j - 1) ≤ d ∧ d < 2 ^ j := by
  obtain ⟨i1, i2⟩ := I
  have h1 : d < 2 ^ j := by
    rcases Int.lt_or_le d (2 ^ j) with h | h
    · exact h
    · have := Int.le_ediv_of_mul_le (p2_pos j) (show 1 * 2 ^ j ≤ d by omega)
      omega
  have h0 : 0 < j := by
    rcases Nat.eq_zero_or_pos j with h | h
    · rw [h] at h1; simp at h1; omega
    · exact h
  exact ⟨h0, i2 h0, h1⟩

theorem top_bits {zs : List Int} (h : Limbs zs) {m j : Nat} (hl : zs.length = m + 1) (hu : usedN zs = m + 1) (h0 : 0 < j) (h1 : 2 ^ (j - 1) ≤ zs.getD m 0) (h2 : zs.getD m 0 < 2 ^ j) : bitsN zs = 64 * (m : Int) + j := by
  have e := num_take_succ zs m
  rw [List.take_of_length_le (by omega)] at e
  have t0 := num_nonneg (h.take m)
  have t1 := num_lt (h.take m)
  rw [List.length_take, Nat.min_eq_left (by omega)] at t1
  have hp := pw_pos m
  have b0 : (2 : Int) ^ (64 * m + (j - 1)) ≤ num zs := by
    rw [Int.pow_add, ← pw_eq, Int.mul_comm]
    have : 2 ^ (j - 1) * pw m ≤ zs.getD m 0 * pw m := Int.mul_le_mul_of_nonneg_right h1 (Int.le_of_lt hp)
    omega
  have b1 : num zs < 2 ^ (64 * m + (j - 1) + 1) := by
    rw [show 64 * m + (j - 1) + 1 = 64 * m + j by omega, Int.pow_add, ← pw_eq, Int.mul_comm]
    have : (zs.getD m 0 + 1) * pw m ≤ 2 ^ j * pw m := Int.mul_le_mul_of_nonneg_right (by omega) (Int.le_of_lt hp)
    rw [Int.add_mul, Int.one_mul] at this
    omega
  rw [bits_of h b0 b1]
  omega
theorem bits_same {a b : List Int} (ha : Limbs a) (hb : Limbs b) (e : num a = num b) : bitsN a = bitsN b := by
  rcases Nat.eq_zero_or_pos (usedN a) with h | h
  · rw [bits_nought h, bits_nought ((num_eq_zero hb).1 (by rw [← e]; exact (num_eq_zero ha).2 h))]
  · obtain ⟨k, e1, k1, k2⟩ := bits_spec ha h
    rw [e1, bits_of hb (k := k) (by rw [← e]; exact k1) (by rw [← e]; exact k2)]

set_option maxHeartbeats 1000000 in
theorem rbits_any (a : Option Addr) (la ca : Nat) (zs : List Int) (w : World) (h : Sl w a la zs) (hn : a = none → la = 0 ∧ ca = 0) (hl : la ≤ 17592186044416) (hc : la ≤ ca) :
    Calls Tryz.prog 107 #[.slice a la ca] w fun e w' => e = .returned (.int .i64 (bitsN zs)) ∧ Below w.heap.size w w' := by
  have hLz := h.2.1
  have hle := usedN_le zs
  have hz := h.1
  go_enter Tryz.func107, Tryz.ntmps107
  go_wp2_with fail
  refine (rtrim_any a la ca zs w h hn hl hc).mono ?_
  rintro e w1 ⟨a1, c1, rfl, s1, hc1, b1⟩
  obtain ⟨D, hD⟩ : ∃ D, zs.take (usedN zs) = D := ⟨_, rfl⟩
  have HBB : Hid (bitsN zs = bitsN D) := by rw [← hD]; exact bits_same hLz (hLz.take _) (num_take_used zs (Nat.le_refl _)).symm
  have HUD : Hid (usedN D = usedN zs) := by rw [← hD]; exact usedN_take zs (Nat.le_refl _)
  rw [hD] at s1
  obtain ⟨m1, hm1⟩ : ∃ m, usedN zs = m := ⟨_, rfl⟩
  rw [hm1] at s1 HUD hc1 hle
  rw [hm1]
  clear hD h
  by_cases h0 : m1 = 0
  · have e0 : Hid (bitsN zs = 0) := bits_nought (by rw [hm1]; exact h0)
    subst h0
    clear hm1
    go_wp2_with fail
    go_ret
    exact ⟨ret_int e0.out.symm, b1⟩
  · obtain ⟨m, rfl⟩ : ∃ m, m1 = m + 1 := ⟨m1 - 1, by omega⟩
    clear hm1
    obtain ⟨b, o, rfl, hc⟩ := s1.2.2 (by omega)
    have hcx := hc m (by omega)
    have hd0 := s1.2.1.getD m
    have hne := usedN_top D (by rw [HUD.out]; omega)
    rw [HUD.out, Nat.add_sub_cancel] at hne
    have g1 : ((m : Int) + 1 == 0) = false := by simp; omega
    have BD : Hid (∀ j : Nat, 0 < j → 2 ^ (j - 1) ≤ D.getD m 0 → D.getD m 0 < 2 ^ j → bitsN zs = 64 * (m : Int) + j) :=
      fun j j0 j1 j2 => by rw [HBB.out]; exact top_bits s1.2.1 s1.1 HUD.out j0 j1 j2
    obtain ⟨d, hd⟩ : ∃ d, D.getD m 0 = d := ⟨_, rfl⟩
    rw [hd] at hcx hd0 hne BD
    clear hd hc s1
    have hdp : 0 < d := by omega
    have hml : m ≤ 17592186044416 := by omega
    go_wp2_with fail
    go_loop [4, 5] (fun nn xx => ∃ (j : Nat) (x : Int), nn = .int .i64 (64 * (m : Int) + j) ∧ xx = .int .u64 x ∧ 0 ≤ x ∧ x < 18446744073709551616 ∧ j ≤ 70 ∧ Hid (HvInv d x j)) (fun _ xx => (intOf xx).toNat)
    case atStart => exact ⟨0, d, by simp, rfl, by omega, by omega, by omega, ⟨by simp, fun h => absurd h (by omega)⟩⟩
    case round =>
      obtain ⟨j, x, rfl, rfl, x1, x2, hj, hI⟩ := hrel
      by_cases hx : 0 < x
      · have hs : Hid (HvInv d (x / 2) (j + 1)) := hv_step (by omega) hI.out hx
        have hj2 : j + 1 ≤ 70 := by
          have := hs.out.2 (by omega)
          rcases Nat.lt_or_ge j 65 with h | h
          · omega
          · have h3 := p2_mono (show 65 ≤ j + 1 - 1 by omega)
            have h4 : (2 : Int) ^ 65 = 36893488147419103232 := by decide
            omega
        go_wp2_with fail
        go_round
        case rel => exact ⟨j + 1, x / 2, by rw [show 64 * (m : Int) + ((j + 1 : Nat) : Int) = 64 * (m : Int) + j + 1 by omega], rfl, by omega, by omega, hj2, hs⟩
        case measure => simp [intOf]; omega
      · obtain ⟨j0, j1, j2⟩ := hv_end hdp hI.out (by omega)
        have HE : Hid (bitsN zs = 64 * (m : Int) + j) := BD.out j j0 j1 j2
        clear j0 j1 j2
        go_wp2_with fail
        go_ret
        exact ⟨ret_int HE.out.symm, b1⟩

end Go.Proofs.YtblafbbnplfpjaaGreatDoor
