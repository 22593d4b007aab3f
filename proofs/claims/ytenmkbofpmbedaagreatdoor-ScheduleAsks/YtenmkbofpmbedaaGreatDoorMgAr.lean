import Derived.Test.YtenmkbofpmbedaaGreatDoorMgAa
import Derived.Test.YtenmkbofpmbedaaGreatDoorMgAq
import Derived.Test.YtenmkbofpmbedaaGreatDoorMgAo
import Derived.Test.YtenmkbofpmbedaaGreatDoorMgAp
namespace Go.Proofs.YtenmkbofpmbedaaGreatDoor
open Go.RowKit Go.Shelf
set_option linter.unusedVariables false

theorem sign_mul_pos {x d : Int} (h : 0 < d) : Int.sign (x * d) = Int.sign x := by rw [Int.sign_mul, Int.sign_eq_one_of_pos h, Int.mul_one]
theorem cmp_signs {x y : Int} (h : Int.sign x ≠ Int.sign y) : cmp3 x y = if Int.sign x < Int.sign y then -1 else 1 := by
  rcases Int.lt_trichotomy x 0 with a | a | a <;> rcases Int.lt_trichotomy y 0 with b | b | b <;> (try subst a) <;> (try subst b) <;> (try rw [Int.sign_eq_neg_one_of_neg a]) <;> (try rw [Int.sign_eq_neg_one_of_neg b]) <;> (try rw [Int.sign_eq_one_of_pos a]) <;> (try rw [Int.sign_eq_one_of_pos b]) <;> (try simp only [Int.sign_zero]) <;> first | (rw [cmp3_lt (by omega)]; rfl) | (rw [cmp3_gt (by omega)]; rfl) | (exfalso; apply h; first | rfl | (rw [Int.sign_eq_neg_one_of_neg a, Int.sign_eq_neg_one_of_neg b]) | (rw [Int.sign_eq_one_of_pos a, Int.sign_eq_one_of_pos b]))
theorem qcmp_signs {u v : Rat} (h : Int.sign u.num ≠ Int.sign v.num) : qcmp u v = if Int.sign u.num < Int.sign v.num then -1 else 1 := by
  have h1 := u.den_pos
  have h2 := v.den_pos
  unfold qcmp
  rw [cmp_signs (by rw [sign_mul_pos (by omega), sign_mul_pos (by omega)]; exact h), sign_mul_pos (by omega), sign_mul_pos (by omega)]
theorem cmp3_anti (x y : Int) : cmp3 (-x) (-y) = - cmp3 x y := by
  rcases Int.lt_trichotomy x y with h | h | h
  · rw [cmp3_lt h, cmp3_gt (by omega)]; rfl
  · rw [cmp3_eq h, cmp3_eq (by omega)]; rfl
  · rw [cmp3_gt h, cmp3_lt (by omega)]
theorem cmp3_vals7 (x y : Int) : cmp3 x y = -1 ∨ cmp3 x y = 0 ∨ cmp3 x y = 1 := by unfold cmp3; grind
theorem qcmp_side {s1 s2 : Bool} {z1 z2 y1 y2 : List Int} {u v : Rat} (e1 : iv s1 z1 = u.num) (f1 : num y1 = u.den) (e2 : iv s2 z2 = v.num) (f2 : num y2 = v.den) (p1 : 0 ≤ num z1) (p2 : 0 ≤ num z2) (n1 : s1 = true → num z1 ≠ 0) (n2 : s2 = true → num z2 ≠ 0) (h : Int.sign u.num = Int.sign v.num) :
    qcmp u v = if Int.sign u.num < 0 then - cmp3 (num z1 * num y2) (num z2 * num y1) else cmp3 (num z1 * num y2) (num z2 * num y1) := by
  have sg : ∀ x : Int, 0 ≤ x → ¬ Int.sign x < 0 := fun x hx => by
    rcases Int.lt_trichotomy x 0 with a | a | a
    · omega
    · rw [a]; decide
    · rw [Int.sign_eq_one_of_pos a]; decide
  have key : (0 ≤ u.num ∧ u.num = num z1 ∧ v.num = num z2) ∨ (u.num < 0 ∧ u.num = - num z1 ∧ v.num = - num z2) := by
    cases s1
    · rw [iv_f] at e1
      cases s2
      · rw [iv_f] at e2; exact Or.inl ⟨by omega, e1.symm, e2.symm⟩
      · rw [iv_t] at e2
        have := n2 rfl
        have h3 := sg u.num (by omega)
        rw [h, Int.sign_eq_neg_one_of_neg (show v.num < 0 by omega)] at h3
        exact absurd (by decide) h3
    · rw [iv_t] at e1
      have := n1 rfl
      cases s2
      · rw [iv_f] at e2
        have h3 := sg v.num (by omega)
        rw [← h, Int.sign_eq_neg_one_of_neg (show u.num < 0 by omega)] at h3
        exact absurd (by decide) h3
      · rw [iv_t] at e2; exact Or.inr ⟨by omega, e1.symm, e2.symm⟩
  have e5 : qcmp u v = cmp3 (u.num * num y2) (v.num * num y1) := by unfold qcmp; rw [f1, f2]
  rw [e5]
  rcases key with ⟨k0, k1, k2⟩ | ⟨k0, k1, k2⟩
  · rw [if_neg (sg _ k0), k1, k2]
  · rw [if_pos (by rw [Int.sign_eq_neg_one_of_neg k0]; decide), k1, k2, Int.neg_mul, Int.neg_mul, cmp3_anti]

set_option maxHeartbeats 4000000 in
theorem rcompare7 (s1 : Bool) (a1 : Option Addr) (l1 c1 : Nat) (z1 : List Int) (b1 : Option Addr) (m1 d1 : Nat) (y1 : List Int) (u : Rat) (s2 : Bool) (a2 : Option Addr) (l2 c2 : Nat) (z2 : List Int) (b2 : Option Addr) (m2 d2 : Nat) (y2 : List Int) (v : Rat) (w : World) (h1 : Rr w s1 a1 l1 c1 z1 b1 m1 d1 y1 u) (h2 : Rr w s2 a2 l2 c2 z2 b2 m2 d2 y2 v) (t1 : Short u) (t2 : Short v) :
  Calls Tryz.prog 53 #[.agg #[.bool s1, .slice a1 l1 c1, .slice b1 m1 d1], .agg #[.bool s2, .slice a2 l2 c2, .slice b2 m2 d2]] w fun e w' => e = .returned (.int .i64 (qcmp u v)) ∧ Below w.heap.size w w' := by
 obtain ⟨u1, u2⟩ := h1.len t1; obtain ⟨u3, u4⟩ := h2.len t2; have HL : Hid (l1 ≤ 1024 ∧ m1 ≤ 1024 ∧ l2 ≤ 1024 ∧ m2 ≤ 1024) := ⟨u1, u2, u3, u4⟩; clear t1 t2 u1 u2 u3 u4; have HD : Hid (Int.sign u.num ≠ Int.sign v.num → qcmp u v = if Int.sign u.num < Int.sign v.num then -1 else 1) := qcmp_signs; have HE : Hid (Int.sign u.num = Int.sign v.num → qcmp u v = if Int.sign u.num < 0 then - cmp3 (num z1 * num y2) (num z2 * num y1) else cmp3 (num z1 * num y2) (num z2 * num y1)) := qcmp_side h1.2.2.2.2.2.1 h1.2.2.2.2.2.2.1 h2.2.2.2.2.2.1 h2.2.2.2.2.2.2.1 (num_nonneg h1.1.2.1) (num_nonneg h2.1.2.1) h1.2.2.2.2.2.2.2 h2.2.2.2.2.2.2.2; (obtain ⟨x, hx⟩ : ∃ x, Int.sign u.num = x := ⟨_, rfl⟩); (obtain ⟨y, hy⟩ : ∃ y, Int.sign v.num = y := ⟨_, rfl⟩); rw [hx, hy] at HD; rw [hx, hy] at HE; have EX : Hid (Int.sign u.num = x) := hx; have EY : Hid (Int.sign v.num = y) := hy; clear hx hy; have B0 : Below w.heap.size w w := Below.refl _ _
 go_enter Tryz.func53, Tryz.ntmps53
 (go_wp2_with fail); refine ent2 w _ _ _ _ (Q := fun W => Code.wp Tryz.prog _ _ _ W) ?_; intro x1 hb hs_x1 V0 V1; replace h1 := Rr.after hb h1; replace h2 := Rr.after hb h2; replace B0 := step B0 hb; clear hb hs_x1; refine wp_region_noPanic ?_; replace V0 : Va x1.drew _ _ _ := V0; replace V1 : Va x1.drew _ _ _ := V1; replace h1 := h1.drw; replace h2 := h2.drw; replace B0 := Below.drew B0; refine wp_region_held_drew (S := (fun W => W.cell? ⟨w.heap.size, 0, none⟩ = some (.bool s1) ∧ W.cell? ⟨w.heap.size, 1, none⟩ = some (.slice a1 l1 c1) ∧ W.cell? ⟨w.heap.size, 2, none⟩ = some (.slice b1 m1 d1) ∧ W.cell? ⟨w.heap.size + 1, 0, none⟩ = some (.bool s2) ∧ W.cell? ⟨w.heap.size + 1, 1, none⟩ = some (.slice a2 l2 c2) ∧ W.cell? ⟨w.heap.size + 1, 2, none⟩ = some (.slice b2 m2 d2))) (by kernel_rfl) ⟨V0.d0, V0.d1, V0.d2, V1.d0, V1.d1, V1.d2⟩ (fun hHeld => ?_); (obtain ⟨x2, hxd⟩ : ∃ xd, xd = x1.drew := ⟨_, rfl⟩); rw [← hxd] at V0 V1 h1 h2 B0 hHeld ⊢
 clear hxd; refine tjz 0 hHeld ?_; refine tjz 2 hHeld ?_; refine ryz 1 (fun K hK => ?_); simp only [gA, gB, gC]; (go_simp); refine (rsign5 s1 a1 l1 c1 z1 b1 m1 d1 y1 u _ h1).mono ?_; rintro e x3 ⟨rfl, hb⟩; replace V0 := V0.a hb; replace V1 := V1.a hb; replace h1 := Rr.after hb h1; replace h2 := Rr.after hb h2; replace B0 := step B0 hb; clear hb; rw [EX.out]; (try go_wp2_with fail); refine hK.out _ _ ⟨V0.d0, V0.d1, V0.d2, V1.d0, V1.d1, V1.d2⟩ (fun hHeld => ?_); clear hK K; refine ryz 3 (fun K hK => ?_); simp only [gA, gB, gC]; (go_simp); refine (rsign5 s2 a2 l2 c2 z2 b2 m2 d2 y2 v _ h2).mono ?_; rintro e x4 ⟨rfl, hb⟩; replace V0 := V0.a hb; replace V1 := V1.a hb
 replace h1 := Rr.after hb h1; replace h2 := Rr.after hb h2; replace B0 := step B0 hb; clear hb; rw [EY.out]; (try go_wp2_with fail); refine hK.out _ _ ⟨V0.d0, V0.d1, V0.d2, V1.d0, V1.d1, V1.d2⟩ (fun hHeld => ?_); clear hK K; refine tjz 4 hHeld ?_; refine tjz 5 hHeld ?_; refine dnz ?_; clear hHeld
 by_cases hs : x = y
 ·
  subst hs; (go_wp2_with fail); refine wp_region_noPanic ?_; replace V0 : Va x4.drew _ _ _ := V0; replace V1 : Va x4.drew _ _ _ := V1; replace h1 := h1.drw; replace h2 := h2.drw; replace B0 := Below.drew B0; refine wp_region_held_drew (S := (fun W => W.cell? ⟨w.heap.size, 0, none⟩ = some (.bool s1) ∧ W.cell? ⟨w.heap.size, 1, none⟩ = some (.slice a1 l1 c1) ∧ W.cell? ⟨w.heap.size, 2, none⟩ = some (.slice b1 m1 d1) ∧ W.cell? ⟨w.heap.size + 1, 0, none⟩ = some (.bool s2) ∧ W.cell? ⟨w.heap.size + 1, 1, none⟩ = some (.slice a2 l2 c2) ∧ W.cell? ⟨w.heap.size + 1, 2, none⟩ = some (.slice b2 m2 d2))) (by kernel_rfl) ⟨V0.d0, V0.d1, V0.d2, V1.d0, V1.d1, V1.d2⟩ (fun hHeld => ?_); (obtain ⟨x5, hxd⟩ : ∃ xd, xd = x4.drew := ⟨_, rfl⟩); rw [← hxd] at V0 V1 h1 h2 B0 hHeld ⊢; clear hxd; refine tjz 0 hHeld ?_; refine tjz 1 hHeld ?_; refine tk 2 rfl hHeld ?_
  simp only [gA, gB, gC, Act.put, gD, gE, gF]; refine tjz 3 hHeld ?_; refine tjz 5 hHeld ?_; refine tjz 6 hHeld ?_; refine tjz 7 hHeld ?_; refine tjz 8 hHeld ?_; refine ryz 4 (fun K hK => ?_); simp only [gA, gB, gC]; (go_simp); refine (rmul_any a1 b2 l1 c1 m2 d2 z1 y2 _ h1.1 h2.2.1 (by have := HL.out; omega) (by have := HL.out; omega)).mono ?_; rintro e x6 ⟨a5, l5, c5, z5, rfl, k5, t5, h5, u5, e5, hb⟩; replace V0 := V0.a hb; replace V1 := V1.a hb; replace h1 := Rr.after hb h1; replace h2 := Rr.after hb h2; replace B0 := step B0 hb; clear hb; (try go_wp2_with fail); refine hK.out _ _ ⟨V0.d0, V0.d1, V0.d2, V1.d0, V1.d1, V1.d2⟩ (fun hHeld => ?_)
  clear hK K; refine ryz 9 (fun K hK => ?_); simp only [gA, gB, gC]; (go_simp); refine (rmul_any a2 b1 l2 c2 m1 d1 z2 y1 _ h2.1 h1.2.1 (by have := HL.out; omega) (by have := HL.out; omega)).mono ?_; rintro e x7 ⟨a6, l6, c6, z6, rfl, k6, t6, h6, u6, e6, hb⟩; replace V0 := V0.a hb; replace V1 := V1.a hb; replace h1 := Rr.after hb h1; replace h2 := Rr.after hb h2; replace h5 := Sl.after hb h5; replace B0 := step B0 hb; clear hb; (try go_wp2_with fail); refine hK.out _ _ ⟨V0.d0, V0.d1, V0.d2, V1.d0, V1.d1, V1.d2⟩ (fun hHeld => ?_); clear hK K; refine ryz 10 (fun K hK => ?_); simp only [gA, gB, gC]; (go_simp); refine (rcompare_n a5 a6 l5 c5 l6 c6 z5 z6 _ h5 h6 (by have := HL.out; omega) (by have := HL.out; omega) k5 k6).mono ?_; rintro e x8 ⟨rfl, hb⟩
  replace V0 := V0.a hb; replace V1 := V1.a hb; replace h1 := Rr.after hb h1; replace h2 := Rr.after hb h2; replace h5 := Sl.after hb h5; replace h6 := Sl.after hb h6; replace B0 := step B0 hb; clear hb; rw [e5, e6]; (obtain ⟨c, hc⟩ : ∃ c, cmp3 (num z1 * num y2) (num z2 * num y1) = c := ⟨_, rfl⟩); rw [hc]; have HC := HE.out (by first | rfl | trivial); rw [hc] at HC; have hcv := cmp3_vals7 (num z1 * num y2) (num z2 * num y1); rw [hc] at hcv; have HV : Hid (c = -1 ∨ c = 0 ∨ c = 1) := hcv; have HCC : Hid (qcmp u v = if x < 0 then -c else c) := HC; clear hc HC hcv e5 e6 u5 u6 t5 t6; (try go_wp2_with fail); refine hK.out _ _ ⟨V0.d0, V0.d1, V0.d2, V1.d0, V1.d1, V1.d2⟩ (fun hHeld => ?_); clear hK K; refine tjz 11 hHeld ?_; refine dnz ?_; clear hHeld
  by_cases hn : x < 0
  ·
   have hv : Hid (qcmp u v = -c) := HCC.out.trans (if_pos hn); (have nl : decide (x < 0) = true := by simpa using hn); (have nw : IntKind.i64.wrap (-c) = -c := by rw [IntKind.wrap_i64]; have := HV.out; omega); (go_wp2_with fail)
   go_ret
   exact ⟨by rw [hv.out]; rfl, B0⟩
  ·
   have hv : Hid (qcmp u v = c) := HCC.out.trans (if_neg hn); (have nl : decide (x < 0) = false := by simpa using hn); (have nw : IntKind.i64.wrap (-c) = -c := by rw [IntKind.wrap_i64]; have := HV.out; omega); (go_wp2_with fail)
   go_ret
   exact ⟨by rw [hv.out]; rfl, B0⟩
 ·
  (have ns : (x == y) = false := by simpa using hs); (have nt : (x != y) = true := by simpa using hs)
  by_cases hl : x < y
  ·
   have hv : Hid (qcmp u v = -1) := (HD.out hs).trans (if_pos hl); (have nl : decide (x < y) = true := by simpa using hl); (go_wp2_with fail)
   go_ret
   exact ⟨by rw [hv.out]; rfl, B0⟩
  ·
   have hv : Hid (qcmp u v = 1) := (HD.out hs).trans (if_neg hl); (have nl : decide (x < y) = false := by simpa using hl); (go_wp2_with fail)
   go_ret
   exact ⟨by rw [hv.out]; rfl, B0⟩

end Go.Proofs.YtenmkbofpmbedaaGreatDoor
namespace Go.Proofs.YtenmkbofpmbedaaGreatDoor
open Go.RowKit Go.Shelf
set_option linter.unusedVariables false
set_option maxRecDepth 20000

theorem rd_rn {w : World} {r : Rc} {v : Rat} (h : Rd2 w r) (hN : Nm r v) : Rn w r v := by
  obtain ⟨⟨n1, n2, n3, n4, n5⟩, e1, e2⟩ := hN
  refine ⟨h.1, h.2.1, by rw [n1, h.1.1], by rw [n2, h.2.1.1], h.2.2, e1, e2, fun hs hz => n4 ⟨hs, ?_⟩⟩
  have := (num_eq_zero h.1.2.1).1 hz
  omega
theorem long18 (r : Rc) (w : World) : Calls Tryz.prog 52 #[.agg #[.bool r.s, .slice r.a r.l r.c, .slice r.b r.m r.d]] w fun e w' => e = .returned (.bool (decide (3 < max (r.l : Int) (r.m : Int)))) ∧ Below w.heap.size w w' := by
  by_cases h1 : (3 : Int) < (r.l : Int)
  · have HE : Hid (decide (3 < max (r.l : Int) (r.m : Int)) = true) := by show _ = _; rw [decide_eq_true_iff]; omega
    go_enter Tryz.func52, Tryz.ntmps52
    go_wp2_with fail
    go_ret
    exact ⟨by rw [HE.out]; rfl, (Below.refl _ _).alloc (Nat.le_refl _) _⟩
  · by_cases h2 : (3 : Int) < (r.m : Int)
    · have HE : Hid (decide (3 < max (r.l : Int) (r.m : Int)) = true) := by show _ = _; rw [decide_eq_true_iff]; omega
      go_enter Tryz.func52, Tryz.ntmps52
      go_wp2_with fail
      go_ret
      exact ⟨by rw [HE.out]; rfl, (Below.refl _ _).alloc (Nat.le_refl _) _⟩
    · have HE : Hid (decide (3 < max (r.l : Int) (r.m : Int)) = false) := by show _ = _; rw [decide_eq_false_iff_not]; omega
      go_enter Tryz.func52, Tryz.ntmps52
      go_wp2_with fail
      go_ret
      exact ⟨by rw [HE.out]; rfl, (Below.refl _ _).alloc (Nat.le_refl _) _⟩
theorem chk_rc (p : Rc) (w : World) (h : Rd2 w p) (hl : ¬ 3 < max (p.l : Int) (p.m : Int)) :
    Calls Tryz.prog 40 #[.agg #[.bool p.s, .slice p.a p.l p.c, .slice p.b p.m p.d]] w fun e w' => ∃ er : Int, e = .returned (.int .i64 er) ∧ Hid ((er = 0 ∧ ∃ v, Nm p v ∧ Sz 3 v) ∨ (er ≠ 0 ∧ ∀ v, ¬ Nm p v)) ∧ Below w.heap.size w w' := by
  refine (check5 p.s p.a p.l p.c p.z p.b p.m p.d p.y w h).mono ?_
  rintro e w' ⟨er, rfl, hc, hb⟩
  refine ⟨er, rfl, ?_, hb⟩
  rcases hc.out with ⟨-, h0⟩ | ⟨h0, -, -, h1⟩ | ⟨h0, -, -, h1⟩
  · omega
  · exact .inr ⟨by omega, fun v hv => h1 hv.1⟩
  · obtain ⟨v, e1, e2, e3⟩ := norm_rat h.1.2.1 h.2.1.2.1 h1
    exact .inl ⟨h0, v, ⟨h1, e1, e2⟩, sz_of h.1 h.2.1 (by omega) (by omega) e1 e2⟩
theorem rint_rc (n : Int) (v : Rat) (h1 : -9223372036854775808 ≤ n) (h2 : n ≤ 9223372036854775807) (he : Rat.divInt n 1 = v) (w : World) :
    Calls Tryz.prog 47 #[.int .i64 n] w fun e w' => ∃ r : Rc, e = .returned (.agg #[.bool r.s, .slice r.a r.l r.c, .slice r.b r.m r.d]) ∧ Rn w' r v ∧ Below w.heap.size w w' := by
  refine (rint5 n h1 h2 w).mono ?_
  rintro e w' ⟨s, a, l, c, z, b, m, d, y, rfl, h, -, -, hb⟩
  rw [he] at h
  exact ⟨⟨s, a, l, c, z, b, m, d, y⟩, rfl, h, hb⟩
theorem rsign_rc (p : Rc) (v : Rat) (w : World) (h : Rn w p v) :
    Calls Tryz.prog 43 #[.agg #[.bool p.s, .slice p.a p.l p.c, .slice p.b p.m p.d]] w fun e w' => e = .returned (.int .i64 (Int.sign v.num)) ∧ Below w.heap.size w w' := rsign5 p.s p.a p.l p.c p.z p.b p.m p.d p.y v w h
theorem rcmp_rc (p q : Rc) (x y : Rat) (w : World) (h1 : Rn w p x) (h2 : Rn w q y) (t1 : Short x) (t2 : Short y) :
    Calls Tryz.prog 53 #[.agg #[.bool p.s, .slice p.a p.l p.c, .slice p.b p.m p.d], .agg #[.bool q.s, .slice q.a q.l q.c, .slice q.b q.m q.d]] w fun e w' => e = .returned (.int .i64 (qcmp x y)) ∧ Below w.heap.size w w' :=
  rcompare7 p.s p.a p.l p.c p.z p.b p.m p.d p.y x q.s q.a q.l q.c q.z q.b q.m q.d q.y y w h1 h2 t1 t2
theorem rzero_rc (p : Rc) (v : Rat) (w : World) (h : Rn w p v) :
    Calls Tryz.prog 54 #[.agg #[.bool p.s, .slice p.a p.l p.c, .slice p.b p.m p.d]] w fun e w' => e = .returned (.bool (decide (v = 0))) ∧ Below w.heap.size w w' := by
  have hz : (v = 0) ↔ p.l = 0 := by
    have hu := h.2.2.1
    have e1 := h.2.2.2.2.2.1
    have z0 := num_eq_zero h.1.2.1
    rw [← Rat.num_eq_zero, ← e1]
    have : iv p.s p.z = 0 ↔ num p.z = 0 := by generalize p.s = s; cases s <;> simp only [iv_t, iv_f] <;> omega
    rw [this, z0, hu]
  by_cases h0 : p.l = 0
  · have HE : Hid (decide (v = 0) = true) := decide_eq_true (hz.2 h0)
    have e2 : ((p.l : Int) == 0) = true := by simp; omega
    clear hz
    go_enter Tryz.func54, Tryz.ntmps54
    go_wp2_with fail
    go_ret
    exact ⟨by rw [HE.out]; rfl, (Below.refl _ _).alloc (Nat.le_refl _) _⟩
  · have HE : Hid (decide (v = 0) = false) := decide_eq_false (fun h => h0 (hz.1 h))
    have e2 : ((p.l : Int) == 0) = false := by simp; omega
    clear hz
    go_enter Tryz.func54, Tryz.ntmps54
    go_wp2_with fail
    go_ret
    exact ⟨by rw [HE.out]; rfl, (Below.refl _ _).alloc (Nat.le_refl _) _⟩
end Go.Proofs.YtenmkbofpmbedaaGreatDoor
