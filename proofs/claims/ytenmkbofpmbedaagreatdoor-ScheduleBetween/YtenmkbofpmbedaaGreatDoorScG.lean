import Derived.Test.YtenmkbofpmbedaaGreatDoorScE
namespace Go.Proofs.YtenmkbofpmbedaaGreatDoor
open Go.RowKit Go.Shelf
set_option linter.unusedVariables false
set_option maxRecDepth 20000

theorem Ata.of' {l : List Pq} (h : Sok l) {b : Rat} (h0 : 0 ≤ b) : ∃ v, Ata l b v := by
  obtain ⟨k, hk⟩ := Bg.ex h b
  exact ⟨_, k, hk, hk.pos h h0, rfl⟩
theorem rat_sign0' : Int.sign (0 : Rat).num = 0 := by decide +kernel
theorem between_all {l : List Pq} (h : Sok l) {a b va vb : Rat} (h0 : 0 ≤ a) (hab : a ≤ b) (ha : Ata l a va) (hb : Ata l b vb) : 0 ≤ vb - va ∧ vb - va ≤ b - a := by
  obtain ⟨i, hi⟩ := Bg.ex h a
  obtain ⟨j, hj⟩ := Bg.ex h b
  have hij := hi.le_of hj hab
  exact between_rise h (j - i) (i := i) (j := j) (by omega) h0 hi hj hab ha hb
set_option maxHeartbeats 16000000 in
theorem between_walk (a : Option Addr) (n c : Nat) (ps : List Pc) (px py : Rc) (w : World) (hT : Tn w) (hL : Le elP w a n ps) (hR : Rp w ps n) (hG : ∀ i, i < n → Lng (ps.getD i pz).1 ∧ Lng (ps.getD i pz).2) (hx : Rd2 w px) (hy : Rd2 w py) (gx : Lng px) (gy : Lng py) :
    Calls Tryz.prog 8 #[.slice a n c, .agg #[.bool px.s, .slice px.a px.l px.c, .slice px.b px.m px.d], .agg #[.bool py.s, .slice py.a py.l py.c, .slice py.b py.m py.d]] w fun e w' => e = .returned (.bool true) ∧ Below w.heap.size w w' := by
  have B0 : Below w.heap.size w w := Below.refl _ _
  go_enter Tryz.func8, Tryz.ntmps8
  go_wp2_with fail
  refine ent2 w _ _ _ _ (Q := fun W => Calls Tryz.prog _ _ W _) ?_
  intro x1 hb hs_x1 V4 V5
  replace hT := Tn.after hb hT
  replace hL := Le.after hb hL
  replace hR := Rp.after hb hR
  replace hx := Rd2.after hb hx
  replace hy := Rd2.after hb hy
  replace B0 := step B0 hb
  clear hb hs_x1
  refine (awake18 _ hT).mono ?_
  rintro e x2 ⟨rfl, hb⟩
  replace V4 := V4.a hb
  replace V5 := V5.a hb
  replace hT := Tn.after hb hT
  replace hL := Le.after hb hL
  replace hR := Rp.after hb hR
  replace hx := Rd2.after hb hx
  replace hy := Rd2.after hb hy
  replace B0 := step B0 hb
  clear hb
  clear hT
  have c_V4 := V4.d0
  have f0_V4 := V4.frozen 0
  have d_V4 := V4.d1
  have f1_V4 := V4.frozen 1
  have e_V4 := V4.d2
  have f2_V4 := V4.frozen 2
  have l_V4 := V4.lt
  have m_V4 := Nat.le_of_lt l_V4
  have c_V5 := V5.d0
  have f0_V5 := V5.frozen 0
  have d_V5 := V5.d1
  have f1_V5 := V5.frozen 1
  have e_V5 := V5.d2
  have f2_V5 := V5.frozen 2
  have l_V5 := V5.lt
  have m_V5 := Nat.le_of_lt l_V5
  go_wp2_with fail
  clear c_V4 f0_V4 d_V4 f1_V4 e_V4 f2_V4 l_V4 m_V4 c_V5 f0_V5 d_V5 f1_V5 e_V5 f2_V5 l_V5 m_V5
  refine (few_any a n c ps px py _ hL hR hG hx hy gx gy).mono ?_
  rintro e x3 ⟨q1, ra, rb, t1, rfl, hfw, hb⟩
  replace V4 := V4.a hb
  replace V5 := V5.a hb
  replace hL := Le.after hb hL
  replace hR := Rp.after hb hR
  replace hx := Rd2.after hb hx
  replace hy := Rd2.after hb hy
  replace B0 := step B0 hb
  clear hb
  clear hL hR hx hy V4 V5
  obtain ⟨u, rfl, hf⟩ := hfw.out
  have hf1 : FwR x3 q1 ra rb u := hf
  clear hf hfw hG gx gy
  cases u
  ·
    clear hf1
    go_wp2_with fail
    go_ret
    exact ⟨rfl, (B0.alloc (by have := B0.size; omega) _).alloc (by have := B0.size; rw [World.size_alloc]; omega) _⟩
  ·
    obtain ⟨g, b, m, xs, l, va, vb, rfl, hd, h0, hab, za, zb, ha, hb9⟩ := Or.elim hf1 (fun h => absurd h (by decide)) (fun h => h.2)
    clear hf1
    obtain ⟨wx, hwx⟩ := Ata.of' hd.ok h0
    obtain ⟨wy, hwy⟩ := Ata.of' hd.ok (Rat.le_trans h0 hab)
    have HRI : Hid (0 ≤ wy - wx ∧ wy - wx ≤ vb - va) := between_all hd.ok h0 hab hwx hwy
    go_wp2_with fail
    refine ent2 x3 _ _ _ _ (Q := fun W => Calls Tryz.prog _ _ W _) ?_
    intro x4 hb hs_x4 V8 V9
    replace hd := Sd.after hb hd
    replace ha := Rv.after hb ha
    replace hb9 := Rv.after hb hb9
    replace B0 := step B0 hb
    clear hb hs_x4
    refine (both_any g b 0 m m xs l ra rb va vb wx wy _ hd ha hb9 za zb h0 (Rat.le_trans h0 hab) hwx hwy).mono ?_
    rintro e x5 ⟨q1, q2, rfl, g1, g2, hb⟩
    replace V8 := V8.a hb
    replace V9 := V9.a hb
    replace hd := Sd.after hb hd
    replace ha := Rv.after hb ha
    replace hb9 := Rv.after hb hb9
    replace B0 := step B0 hb
    clear hb hwx hwy h0 hab za zb
    clear V8 V9 ha hb9 hd
    go_wp2_with fail
    refine ent2 x5 _ _ _ _ (Q := fun W => Calls Tryz.prog _ _ W _) ?_
    intro x6 hb hs_x6 V11 V12
    replace g1 := Rv.after hb g1
    replace g2 := Rv.after hb g2
    replace B0 := step B0 hb
    clear hb hs_x6
    refine (sign_rc q1 (wy - wx) _ g1).mono ?_
    rintro e x7 ⟨rfl, hb⟩
    replace V11 := V11.a hb
    replace V12 := V12.a hb
    replace g1 := Rv.after hb g1
    replace g2 := Rv.after hb g2
    replace B0 := step B0 hb
    clear hb
    obtain ⟨s1, hs1⟩ : ∃ s, Int.sign (wy - wx).num = s := ⟨_, rfl⟩
    rw [hs1]
    have h1 := sgn_lt (wy - wx)
    rw [hs1] at h1
    have h2 : ¬ s1 < 0 := fun h => by have h3 := h1.1 h; have h4 := HRI.out.1; grind
    have e1 : decide (0 ≤ s1) = true := by rw [decide_eq_true_iff]; omega
    clear h1
    have c_V11 := V11.d0
    have f0_V11 := V11.frozen 0
    have d_V11 := V11.d1
    have f1_V11 := V11.frozen 1
    have e_V11 := V11.d2
    have f2_V11 := V11.frozen 2
    have l_V11 := V11.lt
    have m_V11 := Nat.le_of_lt l_V11
    have c_V12 := V12.d0
    have f0_V12 := V12.frozen 0
    have d_V12 := V12.d1
    have f1_V12 := V12.frozen 1
    have e_V12 := V12.d2
    have f2_V12 := V12.frozen 2
    have l_V12 := V12.lt
    have m_V12 := Nat.le_of_lt l_V12
    go_wp2_with fail
    clear c_V11 f0_V11 d_V11 f1_V11 e_V11 f2_V11 l_V11 m_V11 c_V12 f0_V12 d_V12 f1_V12 e_V12 f2_V12 l_V12 m_V12
    refine (cmp_rc q1 q2 (wy - wx) (vb - va) _ g1 g2).mono ?_
    rintro e x8 ⟨rfl, hb⟩
    replace V11 := V11.a hb
    replace V12 := V12.a hb
    replace g1 := Rv.after hb g1
    replace g2 := Rv.after hb g2
    replace B0 := step B0 hb
    clear hb
    obtain ⟨c1, hc1⟩ : ∃ s, qcmp (wy - wx) (vb - va) = s := ⟨_, rfl⟩
    rw [hc1]
    have h5 := cmp_gt (wy - wx) (vb - va)
    rw [hc1] at h5
    have h6 : ¬ 0 < c1 := fun h => by have h3 := h5.1 h; have h4 := HRI.out.2; grind
    have e2 : decide (c1 ≤ 0) = true := by rw [decide_eq_true_iff]; omega
    clear h5
    go_wp2_with fail
    go_ret
    exact ⟨by simp <;> omega, B0⟩
def Nos (w : World) (q : Option Addr) : Prop := q = none ∨ ∃ g, q = some ⟨g, 0, none⟩ ∧ Va w g 65 #[.slice none 0 0]
theorem Nos.after {w w' : World} (hb : Below w.heap.size w w') {q : Option Addr} (h : Nos w q) : Nos w' q := h.elim .inl (fun ⟨g, e, v⟩ => .inr ⟨g, e, Va.after hb v⟩)
theorem isSch_nos (q : Option Addr) (w : World) (h : Nos w q) : Calls Tryz.prog 57 #[.pointer q] w fun e w' => e = .returned (.bool false) ∧ w' = w := by
  rcases h with rfl | ⟨g, rfl, v⟩
  · exact isSch_nil w
  · exact isSch_no g 0 none w v
theorem at_nos (q : Option Addr) (r : Rc) (w : World) (h : Nos w q) :
    Calls Tryz.prog 24 #[.pointer q, .agg #[.bool r.s, .slice r.a r.l r.c, .slice r.b r.m r.d]] w fun e w' => e = .returned (.tuple #[.agg #[.bool false, .slice none 0 0, .slice none 0 0], .int .i64 1]) ∧ Below w.heap.size w w' := by
  have B0 : Below w.heap.size w w := Below.refl _ _
  go_enter Tryz.func24, Tryz.ntmps24
  go_wp2_with fail
  refine ent2 w _ _ _ _ (Q := fun W => Calls Tryz.prog _ _ W _) ?_
  intro x1 hb hs_x1 V3 V4
  replace h := Nos.after hb h
  replace B0 := step B0 hb
  clear hb hs_x1
  refine (isSch_nos q _ h).mono ?_
  rintro e wz ⟨rfl, hw⟩
  rw [hw]
  clear hw wz
  have c_V4 := V4.d0
  have f0_V4 := V4.frozen 0
  have d_V4 := V4.d1
  have f1_V4 := V4.frozen 1
  have e_V4 := V4.d2
  have f2_V4 := V4.frozen 2
  have l_V4 := V4.lt
  have m_V4 := Nat.le_of_lt l_V4
  go_wp2_with fail
  clear c_V4 f0_V4 d_V4 f1_V4 e_V4 f2_V4 l_V4 m_V4
  refine bodyPost_ret (results_rt rfl rfl (V4.set3 _ _ _)) rfl ?_
  exact ⟨rfl, belo3 B0 (by omega) _ _ _⟩
theorem slope_nos (q : Option Addr) (r : Rc) (w : World) (h : Nos w q) :
    Calls Tryz.prog 25 #[.pointer q, .agg #[.bool r.s, .slice r.a r.l r.c, .slice r.b r.m r.d]] w fun e w' => e = .returned (.tuple #[.agg #[.bool false, .slice none 0 0, .slice none 0 0], .int .i64 1]) ∧ Below w.heap.size w w' := by
  have B0 : Below w.heap.size w w := Below.refl _ _
  go_enter Tryz.func25, Tryz.ntmps25
  go_wp2_with fail
  refine ent2 w _ _ _ _ (Q := fun W => Calls Tryz.prog _ _ W _) ?_
  intro x1 hb hs_x1 V3 V4
  replace h := Nos.after hb h
  replace B0 := step B0 hb
  clear hb hs_x1
  refine (isSch_nos q _ h).mono ?_
  rintro e wz ⟨rfl, hw⟩
  rw [hw]
  clear hw wz
  have c_V4 := V4.d0
  have f0_V4 := V4.frozen 0
  have d_V4 := V4.d1
  have f1_V4 := V4.frozen 1
  have e_V4 := V4.d2
  have f2_V4 := V4.frozen 2
  have l_V4 := V4.lt
  have m_V4 := Nat.le_of_lt l_V4
  go_wp2_with fail
  clear c_V4 f0_V4 d_V4 f1_V4 e_V4 f2_V4 l_V4 m_V4
  refine bodyPost_ret (results_rt rfl rfl (V4.set3 _ _ _)) rfl ?_
  exact ⟨rfl, belo3 B0 (by omega) _ _ _⟩
theorem next_nos (q : Option Addr) (r : Rc) (w : World) (h : Nos w q) :
    Calls Tryz.prog 26 #[.pointer q, .agg #[.bool r.s, .slice r.a r.l r.c, .slice r.b r.m r.d]] w fun e w' => e = .returned (.tuple #[.agg #[.bool false, .slice none 0 0, .slice none 0 0], .bool false]) ∧ Below w.heap.size w w' := by
  have B0 : Below w.heap.size w w := Below.refl _ _
  go_enter Tryz.func26, Tryz.ntmps26
  go_wp2_with fail
  refine ent2 w _ _ _ _ (Q := fun W => Calls Tryz.prog _ _ W _) ?_
  intro x1 hb hs_x1 V3 V4
  replace h := Nos.after hb h
  replace B0 := step B0 hb
  clear hb hs_x1
  refine (isSch_nos q _ h).mono ?_
  rintro e wz ⟨rfl, hw⟩
  rw [hw]
  clear hw wz
  have c_V4 := V4.d0
  have f0_V4 := V4.frozen 0
  have d_V4 := V4.d1
  have f1_V4 := V4.frozen 1
  have e_V4 := V4.d2
  have f2_V4 := V4.frozen 2
  have l_V4 := V4.lt
  have m_V4 := Nat.le_of_lt l_V4
  go_wp2_with fail
  clear c_V4 f0_V4 d_V4 f1_V4 e_V4 f2_V4 l_V4 m_V4
  refine bodyPost_ret (results_rt rfl rfl (V4.set3 _ _ _)) rfl ?_
  exact ⟨rfl, belo3 B0 (by omega) _ _ _⟩
theorem pieces_nos (q : Option Addr) (w : World) (h : Nos w q) :
    Calls Tryz.prog 20 #[.pointer q] w fun e w' => e = .returned (.slice none 0 0) ∧ Below w.heap.size w w' := by
  have hi := isSch_nos q w h
  clear h
  go_enter Tryz.func20, Tryz.ntmps20
  go_wp2_with fail
  refine hi.mono ?_
  rintro e wz ⟨rfl, hw⟩
  rw [hw]
  clear hw wz hi
  go_wp2_with fail
  go_ret
  exact ⟨rfl, Below.refl _ _⟩
set_option maxHeartbeats 8000000 in
theorem none_any (q : Option Addr) (r : Rc) (w : World) (h : Nos w q) :
    Calls Tryz.prog 28 #[.pointer q, .agg #[.bool r.s, .slice r.a r.l r.c, .slice r.b r.m r.d]] w fun e w' => e = .returned (.bool true) ∧ Below w.heap.size w w' := by
  have B0 : Below w.heap.size w w := Below.refl _ _
  go_enter Tryz.func28, Tryz.ntmps28
  go_wp2_with fail
  refine ent1 w _ _ (Q := fun W => Calls Tryz.prog _ _ W _) ?_
  intro x1 hb hs_x1 V3
  replace h := Nos.after hb h
  replace B0 := step B0 hb
  clear hb hs_x1
  refine (at_nos q r _ h).mono ?_
  rintro e x2 ⟨rfl, hb⟩
  replace V3 := V3.a hb
  replace h := Nos.after hb h
  replace B0 := step B0 hb
  clear hb
  have c_V3 := V3.d0
  have f0_V3 := V3.frozen 0
  have d_V3 := V3.d1
  have f1_V3 := V3.frozen 1
  have e_V3 := V3.d2
  have f2_V3 := V3.frozen 2
  have l_V3 := V3.lt
  have m_V3 := Nat.le_of_lt l_V3
  go_wp2_with fail
  have lt_V5_V3 := V3.lt
  refine ent1 x2 _ _ (Q := fun W => Calls Tryz.prog _ _ W _) ?_
  intro x3 hb hs_x3 V5
  replace V3 := V3.a hb
  replace h := Nos.after hb h
  replace B0 := step B0 hb
  clear hb hs_x3
  clear c_V3 f0_V3 d_V3 f1_V3 e_V3 f2_V3 l_V3 m_V3
  refine (slope_nos q r _ h).mono ?_
  rintro e x4 ⟨rfl, hb⟩
  replace V3 := V3.a hb
  replace V5 := V5.a hb
  replace h := Nos.after hb h
  replace B0 := step B0 hb
  clear hb
  have c_V3 := V3.d0
  have f0_V3 := V3.frozen 0
  have d_V3 := V3.d1
  have f1_V3 := V3.frozen 1
  have e_V3 := V3.d2
  have f2_V3 := V3.frozen 2
  have l_V3 := V3.lt
  have m_V3 := Nat.le_of_lt l_V3
  go_wp2_with fail
  have lt_V7_V3 := V3.lt
  have lt_V7_V5 := V5.lt
  refine ent1 x4 _ _ (Q := fun W => Calls Tryz.prog _ _ W _) ?_
  intro x5 hb hs_x5 V7
  replace V3 := V3.a hb
  replace V5 := V5.a hb
  replace h := Nos.after hb h
  replace B0 := step B0 hb
  clear hb hs_x5
  clear c_V3 f0_V3 d_V3 f1_V3 e_V3 f2_V3 l_V3 m_V3
  refine (next_nos q r _ h).mono ?_
  rintro e x6 ⟨rfl, hb⟩
  replace V3 := V3.a hb
  replace V5 := V5.a hb
  replace V7 := V7.a hb
  replace h := Nos.after hb h
  replace B0 := step B0 hb
  clear hb
  clear V3
  have c_V5 := V5.d0
  have f0_V5 := V5.frozen 0
  have d_V5 := V5.d1
  have f1_V5 := V5.frozen 1
  have e_V5 := V5.d2
  have f2_V5 := V5.frozen 2
  have l_V5 := V5.lt
  have m_V5 := Nat.le_of_lt l_V5
  go_wp2_with fail
  have lt_V9_V5 := V5.lt
  have lt_V9_V7 := V7.lt
  refine ent1 x6 _ _ (Q := fun W => Calls Tryz.prog _ _ W _) ?_
  intro x7 hb hs_x7 V9
  replace V5 := V5.a hb
  replace V7 := V7.a hb
  replace h := Nos.after hb h
  replace B0 := step B0 hb
  clear hb hs_x7
  clear c_V5 f0_V5 d_V5 f1_V5 e_V5 f2_V5 l_V5 m_V5
  refine (sign_rc Rc.nil 0 _ (Rv.nil _)).mono ?_
  rintro e x8 ⟨rfl, hb⟩
  replace V5 := V5.a hb
  replace V7 := V7.a hb
  replace V9 := V9.a hb
  replace h := Nos.after hb h
  replace B0 := step B0 hb
  clear hb
  rw [rat_sign0']
  have c_V7 := V7.d0
  have f0_V7 := V7.frozen 0
  have d_V7 := V7.d1
  have f1_V7 := V7.frozen 1
  have e_V7 := V7.d2
  have f2_V7 := V7.frozen 2
  have l_V7 := V7.lt
  have m_V7 := Nat.le_of_lt l_V7
  go_wp2_with fail
  clear c_V7 f0_V7 d_V7 f1_V7 e_V7 f2_V7 l_V7 m_V7
  refine (sign_rc Rc.nil 0 _ (Rv.nil _)).mono ?_
  rintro e x9 ⟨rfl, hb⟩
  replace V5 := V5.a hb
  replace V7 := V7.a hb
  replace V9 := V9.a hb
  replace h := Nos.after hb h
  replace B0 := step B0 hb
  clear hb
  rw [rat_sign0']
  have c_V9 := V9.d0
  have f0_V9 := V9.frozen 0
  have d_V9 := V9.d1
  have f1_V9 := V9.frozen 1
  have e_V9 := V9.d2
  have f2_V9 := V9.frozen 2
  have l_V9 := V9.lt
  have m_V9 := Nat.le_of_lt l_V9
  go_wp2_with fail
  clear c_V9 f0_V9 d_V9 f1_V9 e_V9 f2_V9 l_V9 m_V9
  refine (sign_rc Rc.nil 0 _ (Rv.nil _)).mono ?_
  rintro e x10 ⟨rfl, hb⟩
  replace V5 := V5.a hb
  replace V7 := V7.a hb
  replace V9 := V9.a hb
  replace h := Nos.after hb h
  replace B0 := step B0 hb
  clear hb
  rw [rat_sign0']
  go_wp2_with fail
  refine (pieces_nos q _ h).mono ?_
  rintro e x11 ⟨rfl, hb⟩
  replace V5 := V5.a hb
  replace V7 := V7.a hb
  replace V9 := V9.a hb
  replace h := Nos.after hb h
  replace B0 := step B0 hb
  clear hb
  go_wp2_with fail
  go_ret
  exact ⟨rfl, B0⟩
set_option maxHeartbeats 8000000 in
theorem nil_walk (p : Rc) (w : World) (hT : Tn w) (h : Rd2 w p) (hn : Lng p) :
    Calls Tryz.prog 6 #[.agg #[.bool p.s, .slice p.a p.l p.c, .slice p.b p.m p.d]] w fun e w' => e = .returned (.bool true) ∧ Below w.heap.size w w' := by
  have B0 : Below w.heap.size w w := Below.refl _ _
  go_enter Tryz.func6, Tryz.ntmps6
  go_wp2_with fail
  refine ent1 w _ _ (Q := fun W => Calls Tryz.prog _ _ W _) ?_
  intro x1 hb hs_x1 V1
  replace hT := Tn.after hb hT
  replace h := Rd2.after hb h
  replace B0 := step B0 hb
  clear hb hs_x1
  refine (base_any p _ h hn).mono ?_
  rintro e x2 ⟨r, t, rfl, hbs, hb⟩
  replace V1 := V1.a hb
  replace hT := Tn.after hb hT
  replace h := Rd2.after hb h
  replace B0 := step B0 hb
  clear hb hbs
  clear h V1
  cases t
  ·
    go_wp2_with fail
    refine ent1 x2 _ _ (Q := fun W => Calls Tryz.prog _ _ W _) ?_
    intro x3 hb hs_x3 V3
    replace hT := Tn.after hb hT
    replace B0 := step B0 hb
    clear hb hs_x3
    refine (awake18 _ hT).mono ?_
    rintro e x4 ⟨rfl, hb⟩
    replace V3 := V3.a hb
    replace hT := Tn.after hb hT
    replace B0 := step B0 hb
    clear hb
    go_wp2_with fail
    go_ret
    exact ⟨rfl, B0⟩
  ·
    go_wp2_with fail
    refine ent1 x2 _ _ (Q := fun W => Calls Tryz.prog _ _ W _) ?_
    intro x5 hb hs_x5 V3
    replace hT := Tn.after hb hT
    replace B0 := step B0 hb
    clear hb hs_x5
    refine (none_any none r _ (.inl rfl)).mono ?_
    rintro e x6 ⟨rfl, hb⟩
    replace V3 := V3.a hb
    replace hT := Tn.after hb hT
    replace B0 := step B0 hb
    clear hb
    have c_V3 := V3.d0
    have f0_V3 := V3.frozen 0
    have d_V3 := V3.d1
    have f1_V3 := V3.frozen 1
    have e_V3 := V3.d2
    have f2_V3 := V3.frozen 2
    have l_V3 := V3.lt
    have m_V3 := Nat.le_of_lt l_V3
    go_wp2_with fail
    clear c_V3 f0_V3 d_V3 f1_V3 e_V3 f2_V3 l_V3 m_V3
    have lt_V19_V3 := V3.lt
    refine ent1 x6 _ _ (Q := fun W => Calls Tryz.prog _ _ W _) ?_
    intro x7 hb hs_x7 V19
    replace V3 := V3.a hb
    replace hT := Tn.after hb hT
    replace B0 := step B0 hb
    clear hb hs_x7
    refine (none_any _ r _ (.inr ⟨_, rfl, V19⟩)).mono ?_
    rintro e x8 ⟨rfl, hb⟩
    replace V3 := V3.a hb
    replace V19 := V19.a hb
    replace hT := Tn.after hb hT
    replace B0 := step B0 hb
    clear hb
    go_wp2_with fail
    refine (awake18 _ hT).mono ?_
    rintro e x9 ⟨rfl, hb⟩
    replace V3 := V3.a hb
    replace V19 := V19.a hb
    replace hT := Tn.after hb hT
    replace B0 := step B0 hb
    clear hb
    go_wp2_with fail
    go_ret
    exact ⟨rfl, B0⟩
end Go.Proofs.YtenmkbofpmbedaaGreatDoor
