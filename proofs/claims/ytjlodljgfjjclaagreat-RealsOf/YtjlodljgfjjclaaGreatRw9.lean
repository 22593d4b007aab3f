/-
  The document's Add, Sub, Floor, Ceil, Compare, To for numbers of up to 4000 limbs.
-/
import Derived.Test.YtjlodljgfjjclaaGreatTk
import Derived.Test.YtjlodljgfjjclaaGreatAl
import Derived.Test.YtjlodljgfjjclaaGreatRw7
import Derived.Test.YtjlodljgfjjclaaGreatBtA
namespace Go.Proofs.YtjlodljgfjjclaaGreat
open Go.RowKit Go.Shelf
set_option linter.unusedVariables false

/-- What products of the parts of two numbers keep to. -/
def Fit3 (u v : Rat) : Prop := ∀ n, n = 4000 → (u.num.natAbs : Int) * (v.den : Int) < pw n ∧ (v.num.natAbs : Int) * (u.den : Int) < pw n ∧ (u.den : Int) * (v.den : Int) < pw n
theorem Fit3.neg {u v : Rat} (h : Fit3 u v) : Fit3 u (-v) := fun n e => by rw [Rat.neg_num, Rat.neg_den, Int.natAbs_neg]; exact h n e
theorem Rr.len9 {w : World} {s : Bool} {a : Option Addr} {l c : Nat} {zs : List Int} {b : Option Addr} {m d : Nat} {ys : List Int} {v : Rat} (h : Rr w s a l c zs b m d ys v) (hS : Sz 4000 v) : l ≤ 4000 ∧ m ≤ 4000 := by
  obtain ⟨h1, h2, h3, h4, -, h5, h6, -⟩ := h
  have p1 := num_nonneg h1.2.1
  refine ⟨?_, ?_⟩
  · have := used_of_lt (n := 4000) h1.2.1 (by
      have h7 := hS.1
      rw [← h5] at h7
      cases s
      · rw [iv_f] at h7; omega
      · rw [iv_t] at h7; omega)
    omega
  · have := used_of_lt (n := 4000) h2.2.1 (by rw [h6]; exact hS.2)
    omega
theorem natAbs_iv {s : Bool} {zs : List Int} {x : Int} (h : iv s zs = x) (p : 0 ≤ num zs) : num zs = (x.natAbs : Int) := by
  cases s
  · rw [iv_f] at h; omega
  · rw [iv_t] at h; omega
set_option maxHeartbeats 8000000 in
theorem rfloor9 (s : Bool) (a : Option Addr) (l c : Nat) (zs : List Int) (b : Option Addr) (m d : Nat) (ys : List Int) (v : Rat) (w : World) (h : Rr w s a l c zs b m d ys v) (t : Sz 4000 v) :
    Calls Tryz.prog 44 #[.agg #[.bool s, .slice a l c, .slice b m d]] w fun e w' => RrP w ((qfl v : Int) : Rat) e w' := by
  obtain ⟨u1, u2⟩ := h.len9 t
  have e2 : num ys = v.den := h.2.2.2.2.2.2.1
  have g := h.2.2.2.2.2.1
  have hd := v.den_pos
  have y0 : num ys ≠ 0 := by rw [e2]; omega
  have HV : Hid (iv s zs = v.num ∧ num ys = v.den) := ⟨g, e2⟩
  clear g e2 t hd
  have B0 : Below w.heap.size w w := Below.refl _ _
  go_enter Tryz.func44, Tryz.ntmps44
  go_wp2_with fail
  refine ent2 w _ _ _ _ (Q := fun W => Calls Tryz.prog _ _ W _) ?_
  intro x1 hb hs_x1 V0 V1
  replace h := Rr.after hb h
  replace B0 := step B0 hb
  clear hb hs_x1
  refine (rdivmod_n a b l c m d zs ys x1 h.1 h.2.1 h.2.2.2.2.1.1 (by omega) (by omega) y0).mono ?_
  rintro e x2 ⟨aq, mq, cq, qs, ar, mr, cr, rs, rfl, hq, uq, hcq, hr, ur, hcr, d1, x0, x1, lq, lr, hb⟩
  replace V0 := Va.after hb V0
  replace V1 := Va.after hb V1
  replace h := Rr.after hb h
  replace B0 := step B0 hb
  clear hb
  have HD : Hid (num zs = num qs * num ys + num rs ∧ 0 ≤ num rs ∧ num rs < num ys) := ⟨d1, x0, x1⟩
  have hz := num_eq_zero hr.2.1
  rw [ur] at hz
  clear d1 x0 x1 lr
  cases s
  ·
    have c_V0 := V0.d0
    have f0_V0 := V0.frozen 0
    have d_V0 := V0.d1
    have f1_V0 := V0.frozen 1
    have e_V0 := V0.d2
    have f2_V0 := V0.frozen 2
    have l_V0 := V0.lt
    have m_V0 := Nat.le_of_lt l_V0
    have c_V1 := V1.d0
    have f0_V1 := V1.frozen 0
    have d_V1 := V1.d1
    have f1_V1 := V1.frozen 1
    have e_V1 := V1.d2
    have f2_V1 := V1.frozen 2
    have l_V1 := V1.lt
    have m_V1 := Nat.le_of_lt l_V1
    go_wp2_with fail
    refine (rwhole5 false aq mq cq qs x2 hq hcq (by omega)).mono ?_
    rintro e x3 ⟨s', a', l', c', zs', b', m', d', ys', rfl, h', hb⟩
    replace V0 := Va.after hb V0
    replace V1 := Va.after hb V1
    replace h := Rr.after hb h
    replace hq := Sl.after hb hq
    replace hr := Sl.after hb hr
    replace B0 := step B0 hb
    clear hb
    have ef : iv false qs = qfl v := by
      obtain ⟨d1, d2, d3⟩ := HD.out
      obtain ⟨v1, v2⟩ := HV.out
      rw [iv_f] at v1
      rw [iv_f]
      exact (qfl_of (v := v) (by rw [← v1, d1, v2]) d2 (by rw [← v2]; exact d3)).1
    rw [ef] at h'
    clear c_V0 f0_V0 d_V0 f1_V0 e_V0 f2_V0 l_V0 m_V0 c_V1 f0_V1 d_V1 f1_V1 e_V1 f2_V1 l_V1 m_V1
    have c_V1 := V1.d0
    have f0_V1 := V1.frozen 0
    have d_V1 := V1.d1
    have f1_V1 := V1.frozen 1
    have e_V1 := V1.d2
    have f2_V1 := V1.frozen 2
    have l_V1 := V1.lt
    have m_V1 := Nat.le_of_lt l_V1
    go_wp2_with fail
    refine bodyPost_ret (results_ra rfl rfl (V1.set3 _ _ _)) rfl ?_
    exact ⟨s', a', l', c', zs', b', m', d', ys', rfl, h'.far V1 (noInt3 _ _ _ _ _ _ _) (fa3 _ _ _ _ _), belo3 B0 (by omega) _ _ _⟩
  ·
    by_cases r0 : mr = 0
    ·
      have HR0 : Hid (num rs = 0) := hz.2 r0
      subst r0
      have c_V0 := V0.d0
      have f0_V0 := V0.frozen 0
      have d_V0 := V0.d1
      have f1_V0 := V0.frozen 1
      have e_V0 := V0.d2
      have f2_V0 := V0.frozen 2
      have l_V0 := V0.lt
      have m_V0 := Nat.le_of_lt l_V0
      have c_V1 := V1.d0
      have f0_V1 := V1.frozen 0
      have d_V1 := V1.d1
      have f1_V1 := V1.frozen 1
      have e_V1 := V1.d2
      have f2_V1 := V1.frozen 2
      have l_V1 := V1.lt
      have m_V1 := Nat.le_of_lt l_V1
      go_wp2_with fail
      refine (rwhole5 true aq mq cq qs x2 hq hcq (by omega)).mono ?_
      rintro e x3 ⟨s', a', l', c', zs', b', m', d', ys', rfl, h', hb⟩
      replace V0 := Va.after hb V0
      replace V1 := Va.after hb V1
      replace h := Rr.after hb h
      replace hq := Sl.after hb hq
      replace hr := Sl.after hb hr
      replace B0 := step B0 hb
      clear hb
      have ef : iv true qs = qfl v := by
        obtain ⟨d1, d2, d3⟩ := HD.out
        obtain ⟨v1, v2⟩ := HV.out
        rw [iv_t] at v1
        rw [iv_t]
        exact (qfl_neg0 (by rw [← v1, d1, HR0.out, Int.add_zero]) v2).symm
      rw [ef] at h'
      clear c_V0 f0_V0 d_V0 f1_V0 e_V0 f2_V0 l_V0 m_V0 c_V1 f0_V1 d_V1 f1_V1 e_V1 f2_V1 l_V1 m_V1
      have c_V1 := V1.d0
      have f0_V1 := V1.frozen 0
      have d_V1 := V1.d1
      have f1_V1 := V1.frozen 1
      have e_V1 := V1.d2
      have f2_V1 := V1.frozen 2
      have l_V1 := V1.lt
      have m_V1 := Nat.le_of_lt l_V1
      go_wp2_with fail
      refine bodyPost_ret (results_ra rfl rfl (V1.set3 _ _ _)) rfl ?_
      exact ⟨s', a', l', c', zs', b', m', d', ys', rfl, h'.far V1 (noInt3 _ _ _ _ _ _ _) (fa3 _ _ _ _ _), belo3 B0 (by omega) _ _ _⟩
    ·
      have r1 : 0 < mr := Nat.pos_of_ne_zero r0
      have HR0 : Hid (num rs ≠ 0) := fun e => r0 (hz.1 e)
      have c_V0 := V0.d0
      have f0_V0 := V0.frozen 0
      have d_V0 := V0.d1
      have f1_V0 := V0.frozen 1
      have e_V0 := V0.d2
      have f2_V0 := V0.frozen 2
      have l_V0 := V0.lt
      have m_V0 := Nat.le_of_lt l_V0
      have c_V1 := V1.d0
      have f0_V1 := V1.frozen 0
      have d_V1 := V1.d1
      have f1_V1 := V1.frozen 1
      have e_V1 := V1.d2
      have f2_V1 := V1.frozen 2
      have l_V1 := V1.lt
      have m_V1 := Nat.le_of_lt l_V1
      go_wp2_with fail
      refine (one5 x2).mono ?_
      rintro e x3 ⟨g1, rfl, hg1, hb⟩
      replace V0 := Va.after hb V0
      replace V1 := Va.after hb V1
      replace h := Rr.after hb h
      replace hq := Sl.after hb hq
      replace hr := Sl.after hb hr
      replace B0 := step B0 hb
      clear hb
      clear c_V0 f0_V0 d_V0 f1_V0 e_V0 f2_V0 l_V0 m_V0 c_V1 f0_V1 d_V1 f1_V1 e_V1 f2_V1 l_V1 m_V1
      have c_V0 := V0.d0
      have f0_V0 := V0.frozen 0
      have d_V0 := V0.d1
      have f1_V0 := V0.frozen 1
      have e_V0 := V0.d2
      have f2_V0 := V0.frozen 2
      have l_V0 := V0.lt
      have m_V0 := Nat.le_of_lt l_V0
      have c_V1 := V1.d0
      have f0_V1 := V1.frozen 0
      have d_V1 := V1.d1
      have f1_V1 := V1.frozen 1
      have e_V1 := V1.d2
      have f2_V1 := V1.frozen 2
      have l_V1 := V1.lt
      have m_V1 := Nat.le_of_lt l_V1
      go_wp2_with fail
      refine (radd_any aq (some ⟨g1, 0, none⟩) mq cq 1 1 qs [1] x3 hq hg1 (by omega) (by omega)).mono ?_
      rintro e x4 ⟨aS, lS, cS, zS, rfl, kS, tS, hS, uS, eS, hb⟩
      replace V0 := Va.after hb V0
      replace V1 := Va.after hb V1
      replace h := Rr.after hb h
      replace hq := Sl.after hb hq
      replace hr := Sl.after hb hr
      replace hg1 := Sl.after hb hg1
      replace B0 := step B0 hb
      clear hb
      have n1 : num [1] = 1 := by simp [num]
      rw [n1] at eS
      have ES : Hid (num zS = num qs + 1) := eS
      clear eS n1 uS
      clear c_V0 f0_V0 d_V0 f1_V0 e_V0 f2_V0 l_V0 m_V0 c_V1 f0_V1 d_V1 f1_V1 e_V1 f2_V1 l_V1 m_V1
      have c_V0 := V0.d0
      have f0_V0 := V0.frozen 0
      have d_V0 := V0.d1
      have f1_V0 := V0.frozen 1
      have e_V0 := V0.d2
      have f2_V0 := V0.frozen 2
      have l_V0 := V0.lt
      have m_V0 := Nat.le_of_lt l_V0
      have c_V1 := V1.d0
      have f0_V1 := V1.frozen 0
      have d_V1 := V1.d1
      have f1_V1 := V1.frozen 1
      have e_V1 := V1.d2
      have f2_V1 := V1.frozen 2
      have l_V1 := V1.lt
      have m_V1 := Nat.le_of_lt l_V1
      go_wp2_with fail
      refine (rwhole5 true aS lS cS zS x4 hS kS (by omega)).mono ?_
      rintro e x5 ⟨s', a', l', c', zs', b', m', d', ys', rfl, h', hb⟩
      replace V0 := Va.after hb V0
      replace V1 := Va.after hb V1
      replace h := Rr.after hb h
      replace hq := Sl.after hb hq
      replace hr := Sl.after hb hr
      replace hg1 := Sl.after hb hg1
      replace hS := Sl.after hb hS
      replace B0 := step B0 hb
      clear hb
      have ef : iv true zS = qfl v := by
        obtain ⟨d1, d2, d3⟩ := HD.out
        obtain ⟨v1, v2⟩ := HV.out
        have r9 := HR0.out
        rw [iv_t] at v1
        rw [iv_t, ES.out]
        exact (qfl_neg1 (by rw [← v1, d1]) v2 (by omega) d3).symm
      rw [ef] at h'
      clear c_V0 f0_V0 d_V0 f1_V0 e_V0 f2_V0 l_V0 m_V0 c_V1 f0_V1 d_V1 f1_V1 e_V1 f2_V1 l_V1 m_V1
      have c_V1 := V1.d0
      have f0_V1 := V1.frozen 0
      have d_V1 := V1.d1
      have f1_V1 := V1.frozen 1
      have e_V1 := V1.d2
      have f2_V1 := V1.frozen 2
      have l_V1 := V1.lt
      have m_V1 := Nat.le_of_lt l_V1
      go_wp2_with fail
      refine bodyPost_ret (results_ra rfl rfl (V1.set3 _ _ _)) rfl ?_
      exact ⟨s', a', l', c', zs', b', m', d', ys', rfl, h'.far V1 (noInt3 _ _ _ _ _ _ _) (fa3 _ _ _ _ _), belo3 B0 (by omega) _ _ _⟩
set_option maxHeartbeats 4000000 in
theorem rcompare9 (s1 : Bool) (a1 : Option Addr) (l1 c1 : Nat) (z1 : List Int) (b1 : Option Addr) (m1 d1 : Nat) (y1 : List Int) (u : Rat) (s2 : Bool) (a2 : Option Addr) (l2 c2 : Nat) (z2 : List Int) (b2 : Option Addr) (m2 d2 : Nat) (y2 : List Int) (v : Rat) (w : World) (h1 : Rr w s1 a1 l1 c1 z1 b1 m1 d1 y1 u) (h2 : Rr w s2 a2 l2 c2 z2 b2 m2 d2 y2 v) (t1 : Sz 4000 u) (t2 : Sz 4000 v) :
  Calls Tryz.prog 43 #[.agg #[.bool s1, .slice a1 l1 c1, .slice b1 m1 d1], .agg #[.bool s2, .slice a2 l2 c2, .slice b2 m2 d2]] w fun e w' => e = .returned (.int .i64 (qcmp u v)) ∧ Below w.heap.size w w' := by
 obtain ⟨u1, u2⟩ := h1.len9 t1; obtain ⟨u3, u4⟩ := h2.len9 t2; have HL : Hid (l1 ≤ 4000 ∧ m1 ≤ 4000 ∧ l2 ≤ 4000 ∧ m2 ≤ 4000) := ⟨u1, u2, u3, u4⟩; clear t1 t2 u1 u2 u3 u4; have HD : Hid (Int.sign u.num ≠ Int.sign v.num → qcmp u v = if Int.sign u.num < Int.sign v.num then -1 else 1) := qcmp_signs; have HE : Hid (Int.sign u.num = Int.sign v.num → qcmp u v = if Int.sign u.num < 0 then - cmp3 (num z1 * num y2) (num z2 * num y1) else cmp3 (num z1 * num y2) (num z2 * num y1)) := qcmp_side h1.2.2.2.2.2.1 h1.2.2.2.2.2.2.1 h2.2.2.2.2.2.1 h2.2.2.2.2.2.2.1 (num_nonneg h1.1.2.1) (num_nonneg h2.1.2.1) h1.2.2.2.2.2.2.2 h2.2.2.2.2.2.2.2; (obtain ⟨x, hx⟩ : ∃ x, Int.sign u.num = x := ⟨_, rfl⟩); (obtain ⟨y, hy⟩ : ∃ y, Int.sign v.num = y := ⟨_, rfl⟩); rw [hx, hy] at HD; rw [hx, hy] at HE; have EX : Hid (Int.sign u.num = x) := hx; have EY : Hid (Int.sign v.num = y) := hy; clear hx hy; have B0 : Below w.heap.size w w := Below.refl _ _
 go_enter Tryz.func43, Tryz.ntmps43
 (go_wp2_with fail); refine ent2 w _ _ _ _ (Q := fun W => Code.wp Tryz.prog _ _ _ W) ?_; intro x1 hb hs_x1 V0 V1; replace h1 := Rr.after hb h1; replace h2 := Rr.after hb h2; replace B0 := step B0 hb; clear hb hs_x1; refine wp_region_noPanic ?_; replace V0 : Va x1.drew _ _ _ := V0; replace V1 : Va x1.drew _ _ _ := V1; replace h1 := h1.drw; replace h2 := h2.drw; replace B0 := Below.drew B0; refine wp_region_held_drew (S := (fun W => W.cell? ⟨w.heap.size, 0, none⟩ = some (.bool s1) ∧ W.cell? ⟨w.heap.size, 1, none⟩ = some (.slice a1 l1 c1) ∧ W.cell? ⟨w.heap.size, 2, none⟩ = some (.slice b1 m1 d1) ∧ W.cell? ⟨w.heap.size + 1, 0, none⟩ = some (.bool s2) ∧ W.cell? ⟨w.heap.size + 1, 1, none⟩ = some (.slice a2 l2 c2) ∧ W.cell? ⟨w.heap.size + 1, 2, none⟩ = some (.slice b2 m2 d2))) (by kernel_rfl) ⟨V0.d0, V0.d1, V0.d2, V1.d0, V1.d1, V1.d2⟩ (fun hHeld => ?_); (obtain ⟨x2, hxd⟩ : ∃ xd, xd = x1.drew := ⟨_, rfl⟩); rw [← hxd] at V0 V1 h1 h2 B0 hHeld ⊢
 clear hxd; refine tk 0 rfl hHeld ?_; simp only [gA, gB, Act.put, gD, gE, gF]; refine tk 2 rfl hHeld ?_; simp only [gA, gB, gC, Act.put, gD, gE, gF]; refine wpAnyH_ready (rs := [1]) (by kernel_rfl) (by simp) ?_; refine AllReadyH.cons rfl (fun K hK => ?_) AllReadyH.nil; simp only [gA, gB, gC]; (go_simp); refine (rsign5 s1 a1 l1 c1 z1 b1 m1 d1 y1 u _ h1).mono ?_; rintro e x3 ⟨rfl, hb⟩; replace V0 := Va.after hb V0; replace V1 := Va.after hb V1; replace h1 := Rr.after hb h1; replace h2 := Rr.after hb h2; replace B0 := step B0 hb; clear hb; rw [EX.out]; (try go_wp2_with fail); refine hK.out _ _ ⟨V0.d0, V0.d1, V0.d2, V1.d0, V1.d1, V1.d2⟩ (fun hHeld => ?_); clear hK K; refine wpAnyH_ready (rs := [3]) (by kernel_rfl) (by simp) ?_; refine AllReadyH.cons rfl (fun K hK => ?_) AllReadyH.nil; simp only [gA, gB, gC]; (go_simp); refine (rsign5 s2 a2 l2 c2 z2 b2 m2 d2 y2 v _ h2).mono ?_; rintro e x4 ⟨rfl, hb⟩; replace V0 := Va.after hb V0; replace V1 := Va.after hb V1
 replace h1 := Rr.after hb h1; replace h2 := Rr.after hb h2; replace B0 := step B0 hb; clear hb; rw [EY.out]; (try go_wp2_with fail); refine hK.out _ _ ⟨V0.d0, V0.d1, V0.d2, V1.d0, V1.d1, V1.d2⟩ (fun hHeld => ?_); clear hK K; refine tk 4 rfl hHeld ?_; simp only [gA, gB, gC, Act.put, gD, gE, gF]; refine tk 5 rfl hHeld ?_; simp only [gA, gB, gC, Act.put, gD, gE, gF]; refine wpAnyH_done (by kernel_rfl) ?_ _; refine NoPanic.normal ?_; clear hHeld
 by_cases hs : x = y
 ·
  subst hs; (go_wp2_with fail); refine wp_region_noPanic ?_; replace V0 : Va x4.drew _ _ _ := V0; replace V1 : Va x4.drew _ _ _ := V1; replace h1 := h1.drw; replace h2 := h2.drw; replace B0 := Below.drew B0; refine wp_region_held_drew (S := (fun W => W.cell? ⟨w.heap.size, 0, none⟩ = some (.bool s1) ∧ W.cell? ⟨w.heap.size, 1, none⟩ = some (.slice a1 l1 c1) ∧ W.cell? ⟨w.heap.size, 2, none⟩ = some (.slice b1 m1 d1) ∧ W.cell? ⟨w.heap.size + 1, 0, none⟩ = some (.bool s2) ∧ W.cell? ⟨w.heap.size + 1, 1, none⟩ = some (.slice a2 l2 c2) ∧ W.cell? ⟨w.heap.size + 1, 2, none⟩ = some (.slice b2 m2 d2))) (by kernel_rfl) ⟨V0.d0, V0.d1, V0.d2, V1.d0, V1.d1, V1.d2⟩ (fun hHeld => ?_); (obtain ⟨x5, hxd⟩ : ∃ xd, xd = x4.drew := ⟨_, rfl⟩); rw [← hxd] at V0 V1 h1 h2 B0 hHeld ⊢; clear hxd; refine tk 0 rfl hHeld ?_; simp only [gA, gB, Act.put, gD, gE, gF]; refine tk 1 rfl hHeld ?_; simp only [gA, gB, gC, Act.put, gD, gE, gF]; refine tk 2 rfl hHeld ?_
  simp only [gA, gB, gC, Act.put, gD, gE, gF]; refine tk 3 rfl hHeld ?_; simp only [gA, gB, gC, Act.put, gD, gE, gF]; refine tk 5 rfl hHeld ?_; simp only [gA, gB, gC, Act.put, gD, gE, gF]; refine tk 6 rfl hHeld ?_; simp only [gA, gB, gC, Act.put, gD, gE, gF]; refine tk 7 rfl hHeld ?_; simp only [gA, gB, gC, Act.put, gD, gE, gF]; refine tk 8 rfl hHeld ?_; simp only [gA, gB, gC, Act.put, gD, gE, gF]; refine wpAnyH_ready (rs := [4]) (by kernel_rfl) (by simp) ?_; refine AllReadyH.cons rfl (fun K hK => ?_) AllReadyH.nil; simp only [gA, gB, gC]; (go_simp); refine (rmul_any a1 b2 l1 c1 m2 d2 z1 y2 _ h1.1 h2.2.1 (by have := HL.out; omega) (by have := HL.out; omega)).mono ?_; rintro e x6 ⟨a5, l5, c5, z5, rfl, k5, t5, h5, u5, e5, hb⟩; replace V0 := Va.after hb V0; replace V1 := Va.after hb V1; replace h1 := Rr.after hb h1; replace h2 := Rr.after hb h2; replace B0 := step B0 hb; clear hb; (try go_wp2_with fail); refine hK.out _ _ ⟨V0.d0, V0.d1, V0.d2, V1.d0, V1.d1, V1.d2⟩ (fun hHeld => ?_)
  clear hK K; refine wpAnyH_ready (rs := [9]) (by kernel_rfl) (by simp) ?_; refine AllReadyH.cons rfl (fun K hK => ?_) AllReadyH.nil; simp only [gA, gB, gC]; (go_simp); refine (rmul_any a2 b1 l2 c2 m1 d1 z2 y1 _ h2.1 h1.2.1 (by have := HL.out; omega) (by have := HL.out; omega)).mono ?_; rintro e x7 ⟨a6, l6, c6, z6, rfl, k6, t6, h6, u6, e6, hb⟩; replace V0 := Va.after hb V0; replace V1 := Va.after hb V1; replace h1 := Rr.after hb h1; replace h2 := Rr.after hb h2; replace h5 := Sl.after hb h5; replace B0 := step B0 hb; clear hb; (try go_wp2_with fail); refine hK.out _ _ ⟨V0.d0, V0.d1, V0.d2, V1.d0, V1.d1, V1.d2⟩ (fun hHeld => ?_); clear hK K; refine wpAnyH_ready (rs := [10]) (by kernel_rfl) (by simp) ?_; refine AllReadyH.cons rfl (fun K hK => ?_) AllReadyH.nil; simp only [gA, gB, gC]; (go_simp); refine (rcompare_n a5 a6 l5 c5 l6 c6 z5 z6 _ h5 h6 (by have := HL.out; omega) (by have := HL.out; omega) k5 k6).mono ?_; rintro e x8 ⟨rfl, hb⟩
  replace V0 := Va.after hb V0; replace V1 := Va.after hb V1; replace h1 := Rr.after hb h1; replace h2 := Rr.after hb h2; replace h5 := Sl.after hb h5; replace h6 := Sl.after hb h6; replace B0 := step B0 hb; clear hb; rw [e5, e6]; (obtain ⟨c, hc⟩ : ∃ c, cmp3 (num z1 * num y2) (num z2 * num y1) = c := ⟨_, rfl⟩); rw [hc]; have HC := HE.out (by first | rfl | trivial); rw [hc] at HC; have hcv := cmp3_vals7 (num z1 * num y2) (num z2 * num y1); rw [hc] at hcv; have HV : Hid (c = -1 ∨ c = 0 ∨ c = 1) := hcv; have HCC : Hid (qcmp u v = if x < 0 then -c else c) := HC; clear hc HC hcv e5 e6 u5 u6 t5 t6; (try go_wp2_with fail); refine hK.out _ _ ⟨V0.d0, V0.d1, V0.d2, V1.d0, V1.d1, V1.d2⟩ (fun hHeld => ?_); clear hK K; refine tk 11 rfl hHeld ?_; simp only [gA, gB, gC, Act.put, gD, gE, gF]; refine wpAnyH_done (by kernel_rfl) ?_ _; refine NoPanic.normal ?_; clear hHeld
  by_cases hn : x < 0
  ·
   have hv : Hid (qcmp u v = -c) := HCC.out.trans (if_pos hn); (have nl : decide (x < 0) = true := by simpa using hn); (have nw : IntKind.i64.wrap (-c) = -c := by rw [IntKind.wrap_i64]; have := HV.out; omega); (go_wp2_with fail)
   go_ret
   exact ⟨by rw [hv.out]; rfl, B0⟩
  ·
   have hv : Hid (qcmp u v = c) := HCC.out.trans (if_neg hn); (have nl : decide (x < 0) = false := by simpa using hn); (have nw : IntKind.i64.wrap (-c) = -c := by rw [IntKind.wrap_i64]; have := HV.out; omega); (go_wp2_with fail)
   go_ret
   exact ⟨by rw [hv.out]; rfl, B0⟩
 ·
  (have ns : (x == y) = false := by simpa using hs); (have nt : (x != y) = true := by simpa using hs)
  by_cases hl : x < y
  ·
   have hv : Hid (qcmp u v = -1) := (HD.out hs).trans (if_pos hl); (have nl : decide (x < y) = true := by simpa using hl); (go_wp2_with fail)
   go_ret
   exact ⟨by rw [hv.out]; rfl, B0⟩
  ·
   have hv : Hid (qcmp u v = 1) := (HD.out hs).trans (if_neg hl); (have nl : decide (x < y) = false := by simpa using hl); (go_wp2_with fail)
   go_ret
   exact ⟨by rw [hv.out]; rfl, B0⟩

theorem Fit3.symm {u v : Rat} (h : Fit3 u v) : Fit3 v u := fun n e => ⟨(h n e).2.1, (h n e).1, by rw [Int.mul_comm]; exact (h n e).2.2⟩
end Go.Proofs.YtjlodljgfjjclaaGreat
