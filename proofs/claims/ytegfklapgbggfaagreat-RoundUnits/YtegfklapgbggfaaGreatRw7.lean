/-
  The document's Compare, even, To; isWhole of the statements of layer 7.
-/
import Derived.Test.YtegfklapgbggfaaGreatRt17
import Derived.Test.YtegfklapgbggfaaGreatRtoP
import Derived.Test.YtegfklapgbggfaaGreatAl
namespace Go.Proofs.YtegfklapgbggfaaGreat
open Go.RowKit Go.Shelf
set_option linter.unusedVariables false

theorem sign_mul_pos {x d : Int} (h : 0 < d) : Int.sign (x * d) = Int.sign x := by rw [Int.sign_mul, Int.sign_eq_one_of_pos h, Int.mul_one]
theorem cmp_signs {x y : Int} (h : Int.sign x ≠ Int.sign y) : cmp3 x y = if Int.sign x < Int.sign y then -1 else 1 := by
  rcases Int.lt_trichotomy x 0 with a | a | a <;> rcases Int.lt_trichotomy y 0 with b | b | b <;> (try subst a) <;> (try subst b) <;> (try rw [Int.sign_eq_neg_one_of_neg a]) <;> (try rw [Int.sign_eq_neg_one_of_neg b]) <;> (try rw [Int.sign_eq_one_of_pos a]) <;> (try rw [Int.sign_eq_one_of_pos b]) <;> (try simp only [Int.sign_zero]) <;> first | (rw [cmp3_lt (by omega)]; rfl) | (rw [cmp3_gt (by omega)]; rfl) | (exfalso; apply h; first | rfl | (rw [Int.sign_eq_neg_one_of_neg a, Int.sign_eq_neg_one_of_neg b]) | (rw [Int.sign_eq_one_of_pos a, Int.sign_eq_one_of_pos b]))
theorem qcmp_signs {u v : Rat} (h : Int.sign u.num ≠ Int.sign v.num) : qcmp u v = if Int.sign u.num < Int.sign v.num then -1 else 1 := by
  have h1 := u.den_pos
  have h2 := v.den_pos
  unfold qcmp
  rw [cmp_signs (by rw [sign_mul_pos (by omega), sign_mul_pos (by omega)]; exact h), sign_mul_pos (by omega), sign_mul_pos (by omega)]
theorem cmp3_anti (x y : Int) : cmp3 (-x) (-y) = - cmp3 x y := by
  rcases Int.lt_trichotomy x y with h | h | h
  · rw [cmp3_lt h, cmp3_gt (by omega)]; rfl
  · rw [cmp3_eq h, cmp3_eq (by omega)]; rfl
  · rw [cmp3_gt h, cmp3_lt (by omega)]
theorem cmp3_vals7 (x y : Int) : cmp3 x y = -1 ∨ cmp3 x y = 0 ∨ cmp3 x y = 1 := by unfold cmp3; grind
/-- Of two numbers on one side of 0. -/
theorem qcmp_side {s1 s2 : Bool} {z1 z2 y1 y2 : List Int} {u v : Rat} (e1 : iv s1 z1 = u.num) (f1 : num y1 = u.den) (e2 : iv s2 z2 = v.num) (f2 : num y2 = v.den) (p1 : 0 ≤ num z1) (p2 : 0 ≤ num z2) (n1 : s1 = true → num z1 ≠ 0) (n2 : s2 = true → num z2 ≠ 0) (h : Int.sign u.num = Int.sign v.num) :
    qcmp u v = if Int.sign u.num < 0 then - cmp3 (num z1 * num y2) (num z2 * num y1) else cmp3 (num z1 * num y2) (num z2 * num y1) := by
  have sg : ∀ x : Int, 0 ≤ x → ¬ Int.sign x < 0 := fun x hx => by
    rcases Int.lt_trichotomy x 0 with a | a | a
    · omega
    · rw [a]; decide
    · rw [Int.sign_eq_one_of_pos a]; decide
  have key : (0 ≤ u.num ∧ u.num = num z1 ∧ v.num = num z2) ∨ (u.num < 0 ∧ u.num = - num z1 ∧ v.num = - num z2) := by
    cases s1
    · rw [iv_f] at e1
      cases s2
      · rw [iv_f] at e2; exact Or.inl ⟨by omega, e1.symm, e2.symm⟩
      · rw [iv_t] at e2
        have := n2 rfl
        have h3 := sg u.num (by omega)
        rw [h, Int.sign_eq_neg_one_of_neg (show v.num < 0 by omega)] at h3
        exact absurd (by decide) h3
    · rw [iv_t] at e1
      have := n1 rfl
      cases s2
      · rw [iv_f] at e2
        have h3 := sg v.num (by omega)
        rw [← h, Int.sign_eq_neg_one_of_neg (show u.num < 0 by omega)] at h3
        exact absurd (by decide) h3
      · rw [iv_t] at e2; exact Or.inr ⟨by omega, e1.symm, e2.symm⟩
  have e5 : qcmp u v = cmp3 (u.num * num y2) (v.num * num y1) := by unfold qcmp; rw [f1, f2]
  rw [e5]
  rcases key with ⟨k0, k1, k2⟩ | ⟨k0, k1, k2⟩
  · rw [if_neg (sg _ k0), k1, k2]
  · rw [if_pos (by rw [Int.sign_eq_neg_one_of_neg k0]; decide), k1, k2, Int.neg_mul, Int.neg_mul, cmp3_anti]

set_option maxHeartbeats 4000000 in
theorem rcompare7 (s1 : Bool) (a1 : Option Addr) (l1 c1 : Nat) (z1 : List Int) (b1 : Option Addr) (m1 d1 : Nat) (y1 : List Int) (u : Rat) (s2 : Bool) (a2 : Option Addr) (l2 c2 : Nat) (z2 : List Int) (b2 : Option Addr) (m2 d2 : Nat) (y2 : List Int) (v : Rat) (w : World) (h1 : Rr w s1 a1 l1 c1 z1 b1 m1 d1 y1 u) (h2 : Rr w s2 a2 l2 c2 z2 b2 m2 d2 y2 v) (t1 : Short u) (t2 : Short v) :
    Calls Tryz.prog 64 #[.agg #[.bool s1, .slice a1 l1 c1, .slice b1 m1 d1], .agg #[.bool s2, .slice a2 l2 c2, .slice b2 m2 d2]] w fun e w' => e = .returned (.int .i64 (qcmp u v)) ∧ Below w.heap.size w w' := by
  obtain ⟨u1, u2⟩ := h1.len t1
  obtain ⟨u3, u4⟩ := h2.len t2
  have HL : Hid (l1 ≤ 1024 ∧ m1 ≤ 1024 ∧ l2 ≤ 1024 ∧ m2 ≤ 1024) := ⟨u1, u2, u3, u4⟩
  clear t1 t2 u1 u2 u3 u4
  have HD : Hid (Int.sign u.num ≠ Int.sign v.num → qcmp u v = if Int.sign u.num < Int.sign v.num then -1 else 1) := qcmp_signs
  have HE : Hid (Int.sign u.num = Int.sign v.num → qcmp u v = if Int.sign u.num < 0 then - cmp3 (num z1 * num y2) (num z2 * num y1) else cmp3 (num z1 * num y2) (num z2 * num y1)) := qcmp_side h1.2.2.2.2.2.1 h1.2.2.2.2.2.2.1 h2.2.2.2.2.2.1 h2.2.2.2.2.2.2.1 (num_nonneg h1.1.2.1) (num_nonneg h2.1.2.1) h1.2.2.2.2.2.2.2 h2.2.2.2.2.2.2.2
  obtain ⟨x, hx⟩ : ∃ x, Int.sign u.num = x := ⟨_, rfl⟩
  obtain ⟨y, hy⟩ : ∃ y, Int.sign v.num = y := ⟨_, rfl⟩
  rw [hx, hy] at HD
  rw [hx, hy] at HE
  have EX : Hid (Int.sign u.num = x) := hx
  have EY : Hid (Int.sign v.num = y) := hy
  clear hx hy
  have B0 : Below w.heap.size w w := Below.refl _ _
  go_enter Tryz.func64, Tryz.ntmps64
  go_wp2_with fail
  refine ent2 w _ _ _ _ (Q := fun W => Code.wp Tryz.prog _ _ _ W) ?_
  intro x1 hb hs_x1 V0 V1
  replace h1 := Rr.after hb h1
  replace h2 := Rr.after hb h2
  replace B0 := step B0 hb
  clear hb hs_x1
  refine wp_region_noPanic ?_
  replace V0 : Va x1.drew _ _ _ := V0
  replace V1 : Va x1.drew _ _ _ := V1
  replace h1 := h1.drw
  replace h2 := h2.drw
  replace B0 := Below.drew B0
  refine wp_region_held_drew (S := (fun W => W.cell? ⟨w.heap.size, 0, none⟩ = some (.bool s1) ∧ W.cell? ⟨w.heap.size, 1, none⟩ = some (.slice a1 l1 c1) ∧ W.cell? ⟨w.heap.size, 2, none⟩ = some (.slice b1 m1 d1) ∧ W.cell? ⟨w.heap.size + 1, 0, none⟩ = some (.bool s2) ∧ W.cell? ⟨w.heap.size + 1, 1, none⟩ = some (.slice a2 l2 c2) ∧ W.cell? ⟨w.heap.size + 1, 2, none⟩ = some (.slice b2 m2 d2))) (by kernel_rfl) ⟨V0.d0, V0.d1, V0.d2, V1.d0, V1.d1, V1.d2⟩ (fun hHeld => ?_)
  obtain ⟨x2, hxd⟩ : ∃ xd, xd = x1.drew := ⟨_, rfl⟩
  rw [← hxd] at V0 V1 h1 h2 B0 hHeld ⊢
  clear hxd
  refine wpAnyH_take (i := 0) (v := ?_) rfl (by kernel_rfl) (by kernel_rfl) (by kernel_rfl) (fun _ _ _ h => h) (Or.inl ⟨by rfl, ?_⟩) hHeld ?_
  rotate_left
  · (intro W hSw; (try dsimp only at hSw); go_simp; all_goals (with_reducible rfl))
  simp only [List.getElem_toArray, List.getElem_cons_zero, Act.put, List.setIfInBounds_toArray, List.set_cons_zero, List.set_cons_succ]
  refine wpAnyH_take (i := 2) (v := ?_) rfl (by kernel_rfl) (by kernel_rfl) (by kernel_rfl) (fun _ _ _ h => h) (Or.inl ⟨by rfl, ?_⟩) hHeld ?_
  rotate_left
  · (intro W hSw; (try dsimp only at hSw); go_simp; all_goals (with_reducible rfl))
  simp only [List.getElem_toArray, List.getElem_cons_zero, List.getElem_cons_succ, Act.put, List.setIfInBounds_toArray, List.set_cons_zero, List.set_cons_succ]
  refine wpAnyH_ready (rs := [1]) (by kernel_rfl) (by simp) ?_
  refine AllReadyH.cons rfl (fun K hK => ?_) AllReadyH.nil
  simp only [List.getElem_toArray, List.getElem_cons_zero, List.getElem_cons_succ]
  go_simp
  refine (rsign5 s1 a1 l1 c1 z1 b1 m1 d1 y1 u _ h1).mono ?_
  rintro e x3 ⟨rfl, hb⟩
  replace V0 := Va.after hb V0
  replace V1 := Va.after hb V1
  replace h1 := Rr.after hb h1
  replace h2 := Rr.after hb h2
  replace B0 := step B0 hb
  clear hb
  rw [EX.out]
  try go_wp2_with fail
  refine hK.out _ _ ⟨V0.d0, V0.d1, V0.d2, V1.d0, V1.d1, V1.d2⟩ (fun hHeld => ?_)
  clear hK K
  refine wpAnyH_ready (rs := [3]) (by kernel_rfl) (by simp) ?_
  refine AllReadyH.cons rfl (fun K hK => ?_) AllReadyH.nil
  simp only [List.getElem_toArray, List.getElem_cons_zero, List.getElem_cons_succ]
  go_simp
  refine (rsign5 s2 a2 l2 c2 z2 b2 m2 d2 y2 v _ h2).mono ?_
  rintro e x4 ⟨rfl, hb⟩
  replace V0 := Va.after hb V0
  replace V1 := Va.after hb V1
  replace h1 := Rr.after hb h1
  replace h2 := Rr.after hb h2
  replace B0 := step B0 hb
  clear hb
  rw [EY.out]
  try go_wp2_with fail
  refine hK.out _ _ ⟨V0.d0, V0.d1, V0.d2, V1.d0, V1.d1, V1.d2⟩ (fun hHeld => ?_)
  clear hK K
  refine wpAnyH_take (i := 4) (v := ?_) rfl (by kernel_rfl) (by kernel_rfl) (by kernel_rfl) (fun _ _ _ h => h) (Or.inl ⟨by rfl, ?_⟩) hHeld ?_
  rotate_left
  · (intro W hSw; (try dsimp only at hSw); go_simp; all_goals (with_reducible rfl))
  simp only [List.getElem_toArray, List.getElem_cons_zero, List.getElem_cons_succ, Act.put, List.setIfInBounds_toArray, List.set_cons_zero, List.set_cons_succ]
  refine wpAnyH_take (i := 5) (v := ?_) rfl (by kernel_rfl) (by kernel_rfl) (by kernel_rfl) (fun _ _ _ h => h) (Or.inl ⟨by rfl, ?_⟩) hHeld ?_
  rotate_left
  · (intro W hSw; (try dsimp only at hSw); go_simp; all_goals (with_reducible rfl))
  simp only [List.getElem_toArray, List.getElem_cons_zero, List.getElem_cons_succ, Act.put, List.setIfInBounds_toArray, List.set_cons_zero, List.set_cons_succ]
  refine wpAnyH_done (by kernel_rfl) ?_ _
  refine NoPanic.normal ?_
  clear hHeld
  by_cases hs : x = y
  ·
    subst hs
    go_wp2_with fail
    refine wp_region_noPanic ?_
    replace V0 : Va x4.drew _ _ _ := V0
    replace V1 : Va x4.drew _ _ _ := V1
    replace h1 := h1.drw
    replace h2 := h2.drw
    replace B0 := Below.drew B0
    refine wp_region_held_drew (S := (fun W => W.cell? ⟨w.heap.size, 0, none⟩ = some (.bool s1) ∧ W.cell? ⟨w.heap.size, 1, none⟩ = some (.slice a1 l1 c1) ∧ W.cell? ⟨w.heap.size, 2, none⟩ = some (.slice b1 m1 d1) ∧ W.cell? ⟨w.heap.size + 1, 0, none⟩ = some (.bool s2) ∧ W.cell? ⟨w.heap.size + 1, 1, none⟩ = some (.slice a2 l2 c2) ∧ W.cell? ⟨w.heap.size + 1, 2, none⟩ = some (.slice b2 m2 d2))) (by kernel_rfl) ⟨V0.d0, V0.d1, V0.d2, V1.d0, V1.d1, V1.d2⟩ (fun hHeld => ?_)
    obtain ⟨x5, hxd⟩ : ∃ xd, xd = x4.drew := ⟨_, rfl⟩
    rw [← hxd] at V0 V1 h1 h2 B0 hHeld ⊢
    clear hxd
    refine wpAnyH_take (i := 0) (v := ?_) rfl (by kernel_rfl) (by kernel_rfl) (by kernel_rfl) (fun _ _ _ h => h) (Or.inl ⟨by rfl, ?_⟩) hHeld ?_
    rotate_left
    · (intro W hSw; (try dsimp only at hSw); go_simp; all_goals (with_reducible rfl))
    simp only [List.getElem_toArray, List.getElem_cons_zero, Act.put, List.setIfInBounds_toArray, List.set_cons_zero, List.set_cons_succ]
    refine wpAnyH_take (i := 1) (v := ?_) rfl (by kernel_rfl) (by kernel_rfl) (by kernel_rfl) (fun _ _ _ h => h) (Or.inl ⟨by rfl, ?_⟩) hHeld ?_
    rotate_left
    · (intro W hSw; (try dsimp only at hSw); go_simp; all_goals (with_reducible rfl))
    simp only [List.getElem_toArray, List.getElem_cons_zero, List.getElem_cons_succ, Act.put, List.setIfInBounds_toArray, List.set_cons_zero, List.set_cons_succ]
    refine wpAnyH_take (i := 2) (v := ?_) rfl (by kernel_rfl) (by kernel_rfl) (by kernel_rfl) (fun _ _ _ h => h) (Or.inl ⟨by rfl, ?_⟩) hHeld ?_
    rotate_left
    · (intro W hSw; (try dsimp only at hSw); go_simp; all_goals (with_reducible rfl))
    simp only [List.getElem_toArray, List.getElem_cons_zero, List.getElem_cons_succ, Act.put, List.setIfInBounds_toArray, List.set_cons_zero, List.set_cons_succ]
    refine wpAnyH_take (i := 3) (v := ?_) rfl (by kernel_rfl) (by kernel_rfl) (by kernel_rfl) (fun _ _ _ h => h) (Or.inl ⟨by rfl, ?_⟩) hHeld ?_
    rotate_left
    · (intro W hSw; (try dsimp only at hSw); go_simp; all_goals (with_reducible rfl))
    simp only [List.getElem_toArray, List.getElem_cons_zero, List.getElem_cons_succ, Act.put, List.setIfInBounds_toArray, List.set_cons_zero, List.set_cons_succ]
    refine wpAnyH_take (i := 5) (v := ?_) rfl (by kernel_rfl) (by kernel_rfl) (by kernel_rfl) (fun _ _ _ h => h) (Or.inl ⟨by rfl, ?_⟩) hHeld ?_
    rotate_left
    · (intro W hSw; (try dsimp only at hSw); go_simp; all_goals (with_reducible rfl))
    simp only [List.getElem_toArray, List.getElem_cons_zero, List.getElem_cons_succ, Act.put, List.setIfInBounds_toArray, List.set_cons_zero, List.set_cons_succ]
    refine wpAnyH_take (i := 6) (v := ?_) rfl (by kernel_rfl) (by kernel_rfl) (by kernel_rfl) (fun _ _ _ h => h) (Or.inl ⟨by rfl, ?_⟩) hHeld ?_
    rotate_left
    · (intro W hSw; (try dsimp only at hSw); go_simp; all_goals (with_reducible rfl))
    simp only [List.getElem_toArray, List.getElem_cons_zero, List.getElem_cons_succ, Act.put, List.setIfInBounds_toArray, List.set_cons_zero, List.set_cons_succ]
    refine wpAnyH_take (i := 7) (v := ?_) rfl (by kernel_rfl) (by kernel_rfl) (by kernel_rfl) (fun _ _ _ h => h) (Or.inl ⟨by rfl, ?_⟩) hHeld ?_
    rotate_left
    · (intro W hSw; (try dsimp only at hSw); go_simp; all_goals (with_reducible rfl))
    simp only [List.getElem_toArray, List.getElem_cons_zero, List.getElem_cons_succ, Act.put, List.setIfInBounds_toArray, List.set_cons_zero, List.set_cons_succ]
    refine wpAnyH_take (i := 8) (v := ?_) rfl (by kernel_rfl) (by kernel_rfl) (by kernel_rfl) (fun _ _ _ h => h) (Or.inl ⟨by rfl, ?_⟩) hHeld ?_
    rotate_left
    · (intro W hSw; (try dsimp only at hSw); go_simp; all_goals (with_reducible rfl))
    simp only [List.getElem_toArray, List.getElem_cons_zero, List.getElem_cons_succ, Act.put, List.setIfInBounds_toArray, List.set_cons_zero, List.set_cons_succ]
    refine wpAnyH_ready (rs := [4]) (by kernel_rfl) (by simp) ?_
    refine AllReadyH.cons rfl (fun K hK => ?_) AllReadyH.nil
    simp only [List.getElem_toArray, List.getElem_cons_zero, List.getElem_cons_succ]
    go_simp
    refine (rmul_any a1 b2 l1 c1 m2 d2 z1 y2 _ h1.1 h2.2.1 (by have := HL.out; omega) (by have := HL.out; omega)).mono ?_
    rintro e x6 ⟨a5, l5, c5, z5, rfl, k5, t5, h5, u5, e5, hb⟩
    replace V0 := Va.after hb V0
    replace V1 := Va.after hb V1
    replace h1 := Rr.after hb h1
    replace h2 := Rr.after hb h2
    replace B0 := step B0 hb
    clear hb
    try go_wp2_with fail
    refine hK.out _ _ ⟨V0.d0, V0.d1, V0.d2, V1.d0, V1.d1, V1.d2⟩ (fun hHeld => ?_)
    clear hK K
    refine wpAnyH_ready (rs := [9]) (by kernel_rfl) (by simp) ?_
    refine AllReadyH.cons rfl (fun K hK => ?_) AllReadyH.nil
    simp only [List.getElem_toArray, List.getElem_cons_zero, List.getElem_cons_succ]
    go_simp
    refine (rmul_any a2 b1 l2 c2 m1 d1 z2 y1 _ h2.1 h1.2.1 (by have := HL.out; omega) (by have := HL.out; omega)).mono ?_
    rintro e x7 ⟨a6, l6, c6, z6, rfl, k6, t6, h6, u6, e6, hb⟩
    replace V0 := Va.after hb V0
    replace V1 := Va.after hb V1
    replace h1 := Rr.after hb h1
    replace h2 := Rr.after hb h2
    replace h5 := Sl.after hb h5
    replace B0 := step B0 hb
    clear hb
    try go_wp2_with fail
    refine hK.out _ _ ⟨V0.d0, V0.d1, V0.d2, V1.d0, V1.d1, V1.d2⟩ (fun hHeld => ?_)
    clear hK K
    refine wpAnyH_ready (rs := [10]) (by kernel_rfl) (by simp) ?_
    refine AllReadyH.cons rfl (fun K hK => ?_) AllReadyH.nil
    simp only [List.getElem_toArray, List.getElem_cons_zero, List.getElem_cons_succ]
    go_simp
    refine (rcompare_n a5 a6 l5 c5 l6 c6 z5 z6 _ h5 h6 (by have := HL.out; omega) (by have := HL.out; omega) k5 k6).mono ?_
    rintro e x8 ⟨rfl, hb⟩
    replace V0 := Va.after hb V0
    replace V1 := Va.after hb V1
    replace h1 := Rr.after hb h1
    replace h2 := Rr.after hb h2
    replace h5 := Sl.after hb h5
    replace h6 := Sl.after hb h6
    replace B0 := step B0 hb
    clear hb
    rw [e5, e6]
    obtain ⟨c, hc⟩ : ∃ c, cmp3 (num z1 * num y2) (num z2 * num y1) = c := ⟨_, rfl⟩
    rw [hc]
    have HC := HE.out (by first | rfl | trivial)
    rw [hc] at HC
    have hcv := cmp3_vals7 (num z1 * num y2) (num z2 * num y1)
    rw [hc] at hcv
    have HV : Hid (c = -1 ∨ c = 0 ∨ c = 1) := hcv
    have HCC : Hid (qcmp u v = if x < 0 then -c else c) := HC
    clear hc HC hcv e5 e6 u5 u6 t5 t6
    try go_wp2_with fail
    refine hK.out _ _ ⟨V0.d0, V0.d1, V0.d2, V1.d0, V1.d1, V1.d2⟩ (fun hHeld => ?_)
    clear hK K
    refine wpAnyH_take (i := 11) (v := ?_) rfl (by kernel_rfl) (by kernel_rfl) (by kernel_rfl) (fun _ _ _ h => h) (Or.inl ⟨by rfl, ?_⟩) hHeld ?_
    rotate_left
    · (intro W hSw; (try dsimp only at hSw); go_simp; all_goals (with_reducible rfl))
    simp only [List.getElem_toArray, List.getElem_cons_zero, List.getElem_cons_succ, Act.put, List.setIfInBounds_toArray, List.set_cons_zero, List.set_cons_succ]
    refine wpAnyH_done (by kernel_rfl) ?_ _
    refine NoPanic.normal ?_
    clear hHeld
    by_cases hn : x < 0
    ·
      have hv : Hid (qcmp u v = -c) := HCC.out.trans (if_pos hn)
      have nl : decide (x < 0) = true := by simpa using hn
      have nw : IntKind.i64.wrap (-c) = -c := by rw [IntKind.wrap_i64]; have := HV.out; omega
      go_wp2_with fail
      go_ret
      exact ⟨by rw [hv.out]; rfl, B0⟩
    ·
      have hv : Hid (qcmp u v = c) := HCC.out.trans (if_neg hn)
      have nl : decide (x < 0) = false := by simpa using hn
      have nw : IntKind.i64.wrap (-c) = -c := by rw [IntKind.wrap_i64]; have := HV.out; omega
      go_wp2_with fail
      go_ret
      exact ⟨by rw [hv.out]; rfl, B0⟩
  ·
    have ns : (x == y) = false := by simpa using hs
    have nt : (x != y) = true := by simpa using hs
    by_cases hl : x < y
    ·
      have hv : Hid (qcmp u v = -1) := (HD.out hs).trans (if_pos hl)
      have nl : decide (x < y) = true := by simpa using hl
      go_wp2_with fail
      go_ret
      exact ⟨by rw [hv.out]; rfl, B0⟩
    ·
      have hv : Hid (qcmp u v = 1) := (HD.out hs).trans (if_neg hl)
      have nl : decide (x < y) = false := by simpa using hl
      go_wp2_with fail
      go_ret
      exact ⟨by rw [hv.out]; rfl, B0⟩

theorem num_even {zs : List Int} {l : Nat} (hl : zs.length = l) (h0 : 0 < l) : num zs % 2 = zs.getD 0 0 % 2 := by
  cases zs with
  | nil => simp at hl; omega
  | cons z r => simp only [num, List.getD_cons_zero]; omega
theorem reven7 (s1 : Bool) (a1 : Option Addr) (l1 c1 : Nat) (z1 : List Int) (b1 : Option Addr) (m1 d1 : Nat) (y1 : List Int) (v : Rat) (w : World) (h : Rr w s1 a1 l1 c1 z1 b1 m1 d1 y1 v) :
    Calls Tryz.prog 66 #[.agg #[.bool s1, .slice a1 l1 c1, .slice b1 m1 d1]] w fun e w' => e = .returned (.bool (decide (num z1 % 2 = 0))) ∧ Below w.heap.size w w' := by
  have B0 := (Below.refl w.heap.size w).alloc (Nat.le_refl _) (.cells #[.bool s1, .slice a1 l1 c1, .slice b1 m1 d1] 31)
  by_cases h0 : l1 = 0
  · subst h0
    have HZ : Hid (num z1 = 0) := (num_eq_zero h.1.2.1).2 h.2.2.1
    go_enter Tryz.func66, Tryz.ntmps66
    go_wp2_with fail
    go_ret
    exact ⟨by rw [HZ.out]; rfl, B0⟩
  · obtain ⟨bb, off, rfl, hc⟩ := h.1.2.2 (by omega)
    have hW := h.1.2.1 (z1.getD 0 0) (by
      have hl := h.1.1
      cases z1 with
      | nil => simp at hl; omega
      | cons z r => simp)
    have HE : Hid (num z1 % 2 = z1.getD 0 0 % 2) := num_even h.1.1 (by omega)
    obtain ⟨z, hz⟩ : ∃ z, z1.getD 0 0 = z := ⟨_, rfl⟩
    have hcell := Sl.after B0 h.1
    obtain ⟨bb', off', e', hc'⟩ := hcell.2.2 (by omega)
    cases e'
    have c0 := hc' 0 (by omega)
    rw [hz] at c0 HE hW
    rw [Nat.add_zero] at c0
    have w0 : 0 ≤ z ∧ z < 18446744073709551616 := hW
    have t1 : z.tmod 2 = z % 2 := by rw [Int.tmod_eq_emod_of_nonneg w0.1]
    have t2 : IntKind.u64.wrap (z % 2) = z % 2 := by rw [IntKind.wrap_u64]; omega
    have nl : ((l1 : Int) == 0) = false := by simp; omega
    have nl2 : (0 : Int) < (l1 : Int) := by omega
    clear hc hc' hcell h hz hW
    go_enter Tryz.func66, Tryz.ntmps66
    go_wp2_with fail
    go_ret
    refine ⟨?_, B0⟩
    rw [HE.out]
    first | rfl | (simp; done)

set_option maxHeartbeats 8000000 in
theorem rto7 (q : Int) (q1 : 1 ≤ q) (q2 : q ≤ 5) (s1 : Bool) (a1 : Option Addr) (l1 c1 : Nat) (z1 : List Int) (b1 : Option Addr) (m1 d1 : Nat) (y1 : List Int) (v : Rat) (w : World) (h1 : Rr w s1 a1 l1 c1 z1 b1 m1 d1 y1 v) (t1 : Short v) :
    Calls Tryz.prog 30 #[.agg #[.bool s1, .slice a1 l1 c1, .slice b1 m1 d1], .int .i64 q] w fun e w' => RrP w ((rnd q v.num v.den : Int) : Rat) e w' := by
  have HQ : Hid (1 ≤ q ∧ q ≤ 5) := ⟨q1, q2⟩
  have HS : Hid (Short v ∧ Short ((qfl v : Int) : Rat) ∧ Short ((- qfl (-v) : Int) : Rat)) := ⟨t1, qfl_short t1, by have h5 := (qfl_short t1.neg); rw [Rat.intCast_neg]; exact h5.neg⟩
  have HT := to_c v q q1 q2
  have HU : Hid (Short (v - ((qfl v : Int) : Rat)) ∧ Short (((- qfl (-v) : Int) : Rat) - v)) := ⟨frac_short t1, by
    have e0 : ((- qfl (-v) : Int) : Rat) - v = (-v) - ((qfl (-v) : Int) : Rat) := by rw [Rat.intCast_neg, Rat.sub_eq_add_neg, Rat.sub_eq_add_neg, Rat.add_comm]
    rw [e0]; exact frac_short t1.neg⟩
  clear q1 q2 t1
  obtain ⟨fl, hfl⟩ : ∃ fl, qfl v = fl := ⟨_, rfl⟩
  obtain ⟨ce, hce⟩ : ∃ ce, - qfl (-v) = ce := ⟨_, rfl⟩
  rw [hfl, hce] at HS HU HT
  unfold ToC at HT
  rw [hfl, hce] at HT
  obtain ⟨i, hi⟩ : ∃ i, rnd q v.num v.den = i := ⟨_, rfl⟩
  rw [hi] at HT ⊢
  have EF : Hid (qfl v = fl ∧ - qfl (-v) = ce) := ⟨hfl, hce⟩
  have HC : Hid ((q = 1 → i = fl) ∧ (q = 2 → i = ce) ∧ (3 ≤ q → qcmp (v - (fl : Rat)) ((ce : Rat) - v) = -1 → i = fl) ∧ (3 ≤ q → qcmp (v - (fl : Rat)) ((ce : Rat) - v) = 1 → i = ce) ∧ (q = 3 → qcmp (v - (fl : Rat)) ((ce : Rat) - v) = 0 → i = ce) ∧ (q = 4 → qcmp (v - (fl : Rat)) ((ce : Rat) - v) = 0 → i = fl) ∧ (q = 5 → qcmp (v - (fl : Rat)) ((ce : Rat) - v) = 0 → fl % 2 = 0 → i = fl) ∧ (q = 5 → qcmp (v - (fl : Rat)) ((ce : Rat) - v) = 0 → fl % 2 ≠ 0 → i = ce)) := HT
  clear HT hfl hce hi
  have B0 : Below w.heap.size w w := Below.refl _ _
  go_enter Tryz.func30, Tryz.ntmps30
  go_wp2_with fail
  refine ent2 w _ _ _ _ (Q := fun W => Code.wp Tryz.prog _ _ _ W) ?_
  intro x1 hb hs_x1 V0 V1
  replace h1 := Rr.after hb h1
  replace B0 := step B0 hb
  clear hb hs_x1
  have LS : Hid (∀ W, Below x1.heap.size x1 W → (fun W => W.cell? ⟨w.heap.size, 0, none⟩ = some (.bool s1) ∧ W.cell? ⟨w.heap.size, 1, none⟩ = some (.slice a1 l1 c1) ∧ W.cell? ⟨w.heap.size, 2, none⟩ = some (.slice b1 m1 d1)) W) := fun W hb => ⟨(Va.after hb V0).d0, (Va.after hb V0).d1, (Va.after hb V0).d2⟩
  have lb_V0 := V0.lt
  have L_V0 : Hid (Va x1 (w.heap.size) 31 #[.bool s1, .slice a1 l1 c1, .slice b1 m1 d1]) := V0
  have lb_V1 := V1.lt
  have L_V1 : Hid (Va x1 (w.heap.size + 1) 31 #[.bool false, .slice none 0 0, .slice none 0 0]) := V1
  have L_h1 : Hid (Rr x1 s1 a1 l1 c1 z1 b1 m1 d1 y1 v) := h1
  have L_B : Hid (Below w.heap.size w x1) := B0
  clear V0 V1 h1 B0
  have BX := Below.refl x1.heap.size x1
  go_cut [5, 6] (fun s5 s6 wx => ∃ (b5 : Nat) (b6 : Nat) (s2 : Bool) (a2 : Option Addr) (l2 c2 : Nat) (z2 : List Int) (b2 : Option Addr) (m2 d2 : Nat) (y2 : List Int) (s3 : Bool) (a3 : Option Addr) (l3 c3 : Nat) (z3 : List Int) (b3 : Option Addr) (m3 d3 : Nat) (y3 : List Int), s5 = .pointer (some ⟨b5, 0, none⟩) ∧ s6 = .pointer (some ⟨b6, 0, none⟩) ∧ Hid (Va wx b5 31 #[.bool s2, .slice a2 l2 c2, .slice b2 m2 d2]) ∧ Hid (Va wx b6 31 #[.bool s3, .slice a3 l3 c3, .slice b3 m3 d3]) ∧ Hid (Rr wx s2 a2 l2 c2 z2 b2 m2 d2 y2 (fl : Rat)) ∧ Hid (Rr wx s3 a3 l3 c3 z3 b3 m3 d3 y3 (ce : Rat)) ∧ Hid (Below x1.heap.size x1 wx) ∧ Hid (w.heap.size + 2 ≤ b5 ∧ w.heap.size + 2 ≤ b6 ∧ b5 ≠ b6))
  case first =>
    refine wp_region_noPanic ?_
    replace BX := Below.drew BX
    refine wp_region_held_drew (S := (fun W => W.cell? ⟨w.heap.size, 0, none⟩ = some (.bool s1) ∧ W.cell? ⟨w.heap.size, 1, none⟩ = some (.slice a1 l1 c1) ∧ W.cell? ⟨w.heap.size, 2, none⟩ = some (.slice b1 m1 d1))) (by kernel_rfl) (LS.out _ BX) (fun hHeld => ?_)
    obtain ⟨x2, hxd⟩ : ∃ xd, xd = x1.drew := ⟨_, rfl⟩
    rw [← hxd] at BX hHeld ⊢
    clear hxd
    refine wpAnyH_take (i := 0) (v := ?_) rfl (by kernel_rfl) (by kernel_rfl) (by kernel_rfl) (fun _ _ _ h => h) (Or.inl ⟨by rfl, ?_⟩) hHeld ?_
    rotate_left
    · (intro W hSw; (try dsimp only at hSw); go_simp; all_goals (with_reducible rfl))
    simp only [List.getElem_toArray, List.getElem_cons_zero, Act.put, List.setIfInBounds_toArray, List.set_cons_zero, List.set_cons_succ]
    refine wpAnyH_take (i := 2) (v := ?_) rfl (by kernel_rfl) (by kernel_rfl) (by kernel_rfl) (fun _ _ _ h => h) (Or.inl ⟨by rfl, ?_⟩) hHeld ?_
    rotate_left
    · (intro W hSw; (try dsimp only at hSw); go_simp; all_goals (with_reducible rfl))
    simp only [List.getElem_toArray, List.getElem_cons_zero, List.getElem_cons_succ, Act.put, List.setIfInBounds_toArray, List.set_cons_zero, List.set_cons_succ]
    refine wpAnyH_ready (rs := [1, 4, 5]) (by kernel_rfl) (by simp) ?_
    refine AllReadyH.cons rfl (fun K hK => ?_) (AllReadyH.cons rfl (fun K hK => ?_) (AllReadyH.cons rfl (fun K hK => ?_) AllReadyH.nil))
    ·
      simp only [List.getElem_toArray, List.getElem_cons_zero, List.getElem_cons_succ]
      go_simp
      refine (rfloor5 s1 a1 l1 c1 z1 b1 m1 d1 y1 v _ (Rr.after BX L_h1.out) HS.out.1).mono ?_
      rintro e x3 ⟨s2, a2, l2, c2, z2, b2, m2, d2, y2, rfl, h2, hb⟩
      replace BX := step BX hb
      clear hb
      rw [EF.out.1] at h2
      try go_wp2_with fail
      refine hK.out _ _ (LS.out _ BX) (fun hHeld => ?_)
      clear hK K
      refine wpAnyH_ready (rs := [3, 4, 5]) (by kernel_rfl) (by simp) ?_
      refine AllReadyH.cons rfl (fun K hK => ?_) (AllReadyH.cons rfl (fun K hK => ?_) (AllReadyH.cons rfl (fun K hK => ?_) AllReadyH.nil))
      ·
        simp only [List.getElem_toArray, List.getElem_cons_zero, List.getElem_cons_succ]
        go_simp
        refine (rceil5 s1 a1 l1 c1 z1 b1 m1 d1 y1 v _ (Rr.after BX L_h1.out) HS.out.1).mono ?_
        rintro e x4 ⟨s3, a3, l3, c3, z3, b3, m3, d3, y3, rfl, h3, hb⟩
        replace h2 := Rr.after hb h2
        replace BX := step BX hb
        clear hb
        rw [EF.out.2] at h3
        try go_wp2_with fail
        refine hK.out _ _ (LS.out _ BX) (fun hHeld => ?_)
        clear hK K
        refine wpAnyH_ready (rs := [4, 5]) (by kernel_rfl) (by simp) ?_
        refine AllReadyH.cons rfl (fun K hK => ?_) (AllReadyH.cons rfl (fun K hK => ?_) AllReadyH.nil)
        ·
          simp only [List.getElem_toArray, List.getElem_cons_zero, List.getElem_cons_succ]
          go_simp
          have sz_Vb := BX.size
          refine ent1 _ _ _ (Q := fun V => K _ V) ?_
          intro x5 hb hs_ Vb
          replace h2 := Rr.after hb h2
          replace h3 := Rr.after hb h3
          replace BX := step BX hb
          clear hb hs_
          refine hK.out _ _ (LS.out _ BX) (fun hHeld => ?_)
          clear hK K
          refine wpAnyH_ready (rs := [5]) (by kernel_rfl) (by simp) ?_
          refine AllReadyH.cons rfl (fun K hK => ?_) AllReadyH.nil
          ·
            simp only [List.getElem_toArray, List.getElem_cons_zero, List.getElem_cons_succ]
            go_simp
            have lt_Va__Vb := Vb.lt
            have sz_Va_ := BX.size
            refine ent1 _ _ _ (Q := fun V => K _ V) ?_
            intro x6 hb hs_ Va_
            replace Vb := Va.after hb Vb
            replace h2 := Rr.after hb h2
            replace h3 := Rr.after hb h3
            replace BX := step BX hb
            clear hb hs_
            refine hK.out _ _ (LS.out _ BX) (fun hHeld => ?_)
            clear hK K
            have c_Vb := Vb.d0
            have f0_Vb := Vb.frozen 0
            have d_Vb := Vb.d1
            have f1_Vb := Vb.frozen 1
            have e_Vb := Vb.d2
            have f2_Vb := Vb.frozen 2
            have l_Vb := Vb.lt
            have m_Vb := Nat.le_of_lt l_Vb
            refine wpAnyH_ready (rs := [6]) (by kernel_rfl) (by simp) ?_
            refine AllReadyH.cons rfl (fun K hK => ?_) AllReadyH.nil
            simp only [List.getElem_toArray, List.getElem_cons_zero, List.getElem_cons_succ]
            go_simp
            clear c_Vb f0_Vb d_Vb f1_Vb e_Vb f2_Vb l_Vb m_Vb
            refine sto3 Vb (.bool s2) (.slice a2 l2 c2) (.slice b2 m2 d2) (Q := fun W => K _ W) ?_
            intro x7 V' oth far
            replace Va_ := oth _ _ _ (by first | omega | assumption | (simp; omega)) Va_
            replace h2 := h2.far Vb (noInt3 _ _ _ _ _ _ _) far.1
            replace h3 := h3.far Vb (noInt3 _ _ _ _ _ _ _) far.1
            replace BX := far.2 _ _ (by first | omega | (simp; omega)) BX
            replace Vb := V'
            clear oth far
            refine hK.out _ _ (LS.out _ BX) (fun hHeld => ?_)
            clear hK K
            have c_Va_ := Va_.d0
            have f0_Va_ := Va_.frozen 0
            have d_Va_ := Va_.d1
            have f1_Va_ := Va_.frozen 1
            have e_Va_ := Va_.d2
            have f2_Va_ := Va_.frozen 2
            have l_Va_ := Va_.lt
            have m_Va_ := Nat.le_of_lt l_Va_
            refine wpAnyH_ready (rs := [7]) (by kernel_rfl) (by simp) ?_
            refine AllReadyH.cons rfl (fun K hK => ?_) AllReadyH.nil
            simp only [List.getElem_toArray, List.getElem_cons_zero, List.getElem_cons_succ]
            go_simp
            clear c_Va_ f0_Va_ d_Va_ f1_Va_ e_Va_ f2_Va_ l_Va_ m_Va_
            refine sto3 Va_ (.bool s3) (.slice a3 l3 c3) (.slice b3 m3 d3) (Q := fun W => K _ W) ?_
            intro x8 V' oth far
            replace Vb := oth _ _ _ (by first | omega | assumption | (simp; omega)) Vb
            replace h2 := h2.far Va_ (noInt3 _ _ _ _ _ _ _) far.1
            replace h3 := h3.far Va_ (noInt3 _ _ _ _ _ _ _) far.1
            replace BX := far.2 _ _ (by first | omega | (simp; omega)) BX
            replace Va_ := V'
            clear oth far
            refine hK.out _ _ (LS.out _ BX) (fun hHeld => ?_)
            clear hK K
            refine wpAnyH_done (by kernel_rfl) ?_ _
            refine NoPanic.normal ?_
            clear hHeld
            go_wp2_with fail
            go_meet
            exact ⟨_, _, s2, a2, l2, c2, z2, b2, m2, d2, y2, s3, a3, l3, c3, z3, b3, m3, d3, y3, rfl, rfl, Vb, Va_, h2, h3, BX, ⟨by omega, by omega, by omega⟩⟩
        ·
          simp only [List.getElem_toArray, List.getElem_cons_zero, List.getElem_cons_succ]
          go_simp
          have sz_Va_ := BX.size
          refine ent1 _ _ _ (Q := fun V => K _ V) ?_
          intro x5 hb hs_ Va_
          replace h2 := Rr.after hb h2
          replace h3 := Rr.after hb h3
          replace BX := step BX hb
          clear hb hs_
          refine hK.out _ _ (LS.out _ BX) (fun hHeld => ?_)
          clear hK K
          refine wpAnyH_ready (rs := [4]) (by kernel_rfl) (by simp) ?_
          refine AllReadyH.cons rfl (fun K hK => ?_) AllReadyH.nil
          ·
            simp only [List.getElem_toArray, List.getElem_cons_zero, List.getElem_cons_succ]
            go_simp
            have lt_Vb_Va_ := Va_.lt
            have sz_Vb := BX.size
            refine ent1 _ _ _ (Q := fun V => K _ V) ?_
            intro x6 hb hs_ Vb
            replace Va_ := Va.after hb Va_
            replace h2 := Rr.after hb h2
            replace h3 := Rr.after hb h3
            replace BX := step BX hb
            clear hb hs_
            refine hK.out _ _ (LS.out _ BX) (fun hHeld => ?_)
            clear hK K
            have c_Vb := Vb.d0
            have f0_Vb := Vb.frozen 0
            have d_Vb := Vb.d1
            have f1_Vb := Vb.frozen 1
            have e_Vb := Vb.d2
            have f2_Vb := Vb.frozen 2
            have l_Vb := Vb.lt
            have m_Vb := Nat.le_of_lt l_Vb
            refine wpAnyH_ready (rs := [6]) (by kernel_rfl) (by simp) ?_
            refine AllReadyH.cons rfl (fun K hK => ?_) AllReadyH.nil
            simp only [List.getElem_toArray, List.getElem_cons_zero, List.getElem_cons_succ]
            go_simp
            clear c_Vb f0_Vb d_Vb f1_Vb e_Vb f2_Vb l_Vb m_Vb
            refine sto3 Vb (.bool s2) (.slice a2 l2 c2) (.slice b2 m2 d2) (Q := fun W => K _ W) ?_
            intro x7 V' oth far
            replace Va_ := oth _ _ _ (by first | omega | assumption | (simp; omega)) Va_
            replace h2 := h2.far Vb (noInt3 _ _ _ _ _ _ _) far.1
            replace h3 := h3.far Vb (noInt3 _ _ _ _ _ _ _) far.1
            replace BX := far.2 _ _ (by first | omega | (simp; omega)) BX
            replace Vb := V'
            clear oth far
            refine hK.out _ _ (LS.out _ BX) (fun hHeld => ?_)
            clear hK K
            have c_Va_ := Va_.d0
            have f0_Va_ := Va_.frozen 0
            have d_Va_ := Va_.d1
            have f1_Va_ := Va_.frozen 1
            have e_Va_ := Va_.d2
            have f2_Va_ := Va_.frozen 2
            have l_Va_ := Va_.lt
            have m_Va_ := Nat.le_of_lt l_Va_
            refine wpAnyH_ready (rs := [7]) (by kernel_rfl) (by simp) ?_
            refine AllReadyH.cons rfl (fun K hK => ?_) AllReadyH.nil
            simp only [List.getElem_toArray, List.getElem_cons_zero, List.getElem_cons_succ]
            go_simp
            clear c_Va_ f0_Va_ d_Va_ f1_Va_ e_Va_ f2_Va_ l_Va_ m_Va_
            refine sto3 Va_ (.bool s3) (.slice a3 l3 c3) (.slice b3 m3 d3) (Q := fun W => K _ W) ?_
            intro x8 V' oth far
            replace Vb := oth _ _ _ (by first | omega | assumption | (simp; omega)) Vb
            replace h2 := h2.far Va_ (noInt3 _ _ _ _ _ _ _) far.1
            replace h3 := h3.far Va_ (noInt3 _ _ _ _ _ _ _) far.1
            replace BX := far.2 _ _ (by first | omega | (simp; omega)) BX
            replace Va_ := V'
            clear oth far
            refine hK.out _ _ (LS.out _ BX) (fun hHeld => ?_)
            clear hK K
            refine wpAnyH_done (by kernel_rfl) ?_ _
            refine NoPanic.normal ?_
            clear hHeld
            go_wp2_with fail
            go_meet
            exact ⟨_, _, s2, a2, l2, c2, z2, b2, m2, d2, y2, s3, a3, l3, c3, z3, b3, m3, d3, y3, rfl, rfl, Vb, Va_, h2, h3, BX, ⟨by omega, by omega, by omega⟩⟩
      ·
        simp only [List.getElem_toArray, List.getElem_cons_zero, List.getElem_cons_succ]
        go_simp
        have sz_Vb := BX.size
        refine ent1 _ _ _ (Q := fun V => K _ V) ?_
        intro x4 hb hs_ Vb
        replace h2 := Rr.after hb h2
        replace BX := step BX hb
        clear hb hs_
        refine hK.out _ _ (LS.out _ BX) (fun hHeld => ?_)
        clear hK K
        refine wpAnyH_ready (rs := [3, 5]) (by kernel_rfl) (by simp) ?_
        refine AllReadyH.cons rfl (fun K hK => ?_) (AllReadyH.cons rfl (fun K hK => ?_) AllReadyH.nil)
        ·
          simp only [List.getElem_toArray, List.getElem_cons_zero, List.getElem_cons_succ]
          go_simp
          refine (rceil5 s1 a1 l1 c1 z1 b1 m1 d1 y1 v _ (Rr.after BX L_h1.out) HS.out.1).mono ?_
          rintro e x5 ⟨s3, a3, l3, c3, z3, b3, m3, d3, y3, rfl, h3, hb⟩
          replace Vb := Va.after hb Vb
          replace h2 := Rr.after hb h2
          replace BX := step BX hb
          clear hb
          rw [EF.out.2] at h3
          try go_wp2_with fail
          refine hK.out _ _ (LS.out _ BX) (fun hHeld => ?_)
          clear hK K
          refine wpAnyH_ready (rs := [5]) (by kernel_rfl) (by simp) ?_
          refine AllReadyH.cons rfl (fun K hK => ?_) AllReadyH.nil
          ·
            simp only [List.getElem_toArray, List.getElem_cons_zero, List.getElem_cons_succ]
            go_simp
            have lt_Va__Vb := Vb.lt
            have sz_Va_ := BX.size
            refine ent1 _ _ _ (Q := fun V => K _ V) ?_
            intro x6 hb hs_ Va_
            replace Vb := Va.after hb Vb
            replace h2 := Rr.after hb h2
            replace h3 := Rr.after hb h3
            replace BX := step BX hb
            clear hb hs_
            refine hK.out _ _ (LS.out _ BX) (fun hHeld => ?_)
            clear hK K
            have c_Vb := Vb.d0
            have f0_Vb := Vb.frozen 0
            have d_Vb := Vb.d1
            have f1_Vb := Vb.frozen 1
            have e_Vb := Vb.d2
            have f2_Vb := Vb.frozen 2
            have l_Vb := Vb.lt
            have m_Vb := Nat.le_of_lt l_Vb
            refine wpAnyH_ready (rs := [6]) (by kernel_rfl) (by simp) ?_
            refine AllReadyH.cons rfl (fun K hK => ?_) AllReadyH.nil
            simp only [List.getElem_toArray, List.getElem_cons_zero, List.getElem_cons_succ]
            go_simp
            clear c_Vb f0_Vb d_Vb f1_Vb e_Vb f2_Vb l_Vb m_Vb
            refine sto3 Vb (.bool s2) (.slice a2 l2 c2) (.slice b2 m2 d2) (Q := fun W => K _ W) ?_
            intro x7 V' oth far
            replace Va_ := oth _ _ _ (by first | omega | assumption | (simp; omega)) Va_
            replace h2 := h2.far Vb (noInt3 _ _ _ _ _ _ _) far.1
            replace h3 := h3.far Vb (noInt3 _ _ _ _ _ _ _) far.1
            replace BX := far.2 _ _ (by first | omega | (simp; omega)) BX
            replace Vb := V'
            clear oth far
            refine hK.out _ _ (LS.out _ BX) (fun hHeld => ?_)
            clear hK K
            have c_Va_ := Va_.d0
            have f0_Va_ := Va_.frozen 0
            have d_Va_ := Va_.d1
            have f1_Va_ := Va_.frozen 1
            have e_Va_ := Va_.d2
            have f2_Va_ := Va_.frozen 2
            have l_Va_ := Va_.lt
            have m_Va_ := Nat.le_of_lt l_Va_
            refine wpAnyH_ready (rs := [7]) (by kernel_rfl) (by simp) ?_
            refine AllReadyH.cons rfl (fun K hK => ?_) AllReadyH.nil
            simp only [List.getElem_toArray, List.getElem_cons_zero, List.getElem_cons_succ]
            go_simp
            clear c_Va_ f0_Va_ d_Va_ f1_Va_ e_Va_ f2_Va_ l_Va_ m_Va_
            refine sto3 Va_ (.bool s3) (.slice a3 l3 c3) (.slice b3 m3 d3) (Q := fun W => K _ W) ?_
            intro x8 V' oth far
            replace Vb := oth _ _ _ (by first | omega | assumption | (simp; omega)) Vb
            replace h2 := h2.far Va_ (noInt3 _ _ _ _ _ _ _) far.1
            replace h3 := h3.far Va_ (noInt3 _ _ _ _ _ _ _) far.1
            replace BX := far.2 _ _ (by first | omega | (simp; omega)) BX
            replace Va_ := V'
            clear oth far
            refine hK.out _ _ (LS.out _ BX) (fun hHeld => ?_)
            clear hK K
            refine wpAnyH_done (by kernel_rfl) ?_ _
            refine NoPanic.normal ?_
            clear hHeld
            go_wp2_with fail
            go_meet
            exact ⟨_, _, s2, a2, l2, c2, z2, b2, m2, d2, y2, s3, a3, l3, c3, z3, b3, m3, d3, y3, rfl, rfl, Vb, Va_, h2, h3, BX, ⟨by omega, by omega, by omega⟩⟩
        ·
          simp only [List.getElem_toArray, List.getElem_cons_zero, List.getElem_cons_succ]
          go_simp
          have lt_Va__Vb := Vb.lt
          have sz_Va_ := BX.size
          refine ent1 _ _ _ (Q := fun V => K _ V) ?_
          intro x5 hb hs_ Va_
          replace Vb := Va.after hb Vb
          replace h2 := Rr.after hb h2
          replace BX := step BX hb
          clear hb hs_
          refine hK.out _ _ (LS.out _ BX) (fun hHeld => ?_)
          clear hK K
          refine wpAnyH_ready (rs := [3]) (by kernel_rfl) (by simp) ?_
          refine AllReadyH.cons rfl (fun K hK => ?_) AllReadyH.nil
          ·
            simp only [List.getElem_toArray, List.getElem_cons_zero, List.getElem_cons_succ]
            go_simp
            refine (rceil5 s1 a1 l1 c1 z1 b1 m1 d1 y1 v _ (Rr.after BX L_h1.out) HS.out.1).mono ?_
            rintro e x6 ⟨s3, a3, l3, c3, z3, b3, m3, d3, y3, rfl, h3, hb⟩
            replace Vb := Va.after hb Vb
            replace Va_ := Va.after hb Va_
            replace h2 := Rr.after hb h2
            replace BX := step BX hb
            clear hb
            rw [EF.out.2] at h3
            try go_wp2_with fail
            refine hK.out _ _ (LS.out _ BX) (fun hHeld => ?_)
            clear hK K
            have c_Vb := Vb.d0
            have f0_Vb := Vb.frozen 0
            have d_Vb := Vb.d1
            have f1_Vb := Vb.frozen 1
            have e_Vb := Vb.d2
            have f2_Vb := Vb.frozen 2
            have l_Vb := Vb.lt
            have m_Vb := Nat.le_of_lt l_Vb
            refine wpAnyH_ready (rs := [6]) (by kernel_rfl) (by simp) ?_
            refine AllReadyH.cons rfl (fun K hK => ?_) AllReadyH.nil
            simp only [List.getElem_toArray, List.getElem_cons_zero, List.getElem_cons_succ]
            go_simp
            clear c_Vb f0_Vb d_Vb f1_Vb e_Vb f2_Vb l_Vb m_Vb
            refine sto3 Vb (.bool s2) (.slice a2 l2 c2) (.slice b2 m2 d2) (Q := fun W => K _ W) ?_
            intro x7 V' oth far
            replace Va_ := oth _ _ _ (by first | omega | assumption | (simp; omega)) Va_
            replace h2 := h2.far Vb (noInt3 _ _ _ _ _ _ _) far.1
            replace h3 := h3.far Vb (noInt3 _ _ _ _ _ _ _) far.1
            replace BX := far.2 _ _ (by first | omega | (simp; omega)) BX
            replace Vb := V'
            clear oth far
            refine hK.out _ _ (LS.out _ BX) (fun hHeld => ?_)
            clear hK K
            have c_Va_ := Va_.d0
            have f0_Va_ := Va_.frozen 0
            have d_Va_ := Va_.d1
            have f1_Va_ := Va_.frozen 1
            have e_Va_ := Va_.d2
            have f2_Va_ := Va_.frozen 2
            have l_Va_ := Va_.lt
            have m_Va_ := Nat.le_of_lt l_Va_
            refine wpAnyH_ready (rs := [7]) (by kernel_rfl) (by simp) ?_
            refine AllReadyH.cons rfl (fun K hK => ?_) AllReadyH.nil
            simp only [List.getElem_toArray, List.getElem_cons_zero, List.getElem_cons_succ]
            go_simp
            clear c_Va_ f0_Va_ d_Va_ f1_Va_ e_Va_ f2_Va_ l_Va_ m_Va_
            refine sto3 Va_ (.bool s3) (.slice a3 l3 c3) (.slice b3 m3 d3) (Q := fun W => K _ W) ?_
            intro x8 V' oth far
            replace Vb := oth _ _ _ (by first | omega | assumption | (simp; omega)) Vb
            replace h2 := h2.far Va_ (noInt3 _ _ _ _ _ _ _) far.1
            replace h3 := h3.far Va_ (noInt3 _ _ _ _ _ _ _) far.1
            replace BX := far.2 _ _ (by first | omega | (simp; omega)) BX
            replace Va_ := V'
            clear oth far
            refine hK.out _ _ (LS.out _ BX) (fun hHeld => ?_)
            clear hK K
            refine wpAnyH_done (by kernel_rfl) ?_ _
            refine NoPanic.normal ?_
            clear hHeld
            go_wp2_with fail
            go_meet
            exact ⟨_, _, s2, a2, l2, c2, z2, b2, m2, d2, y2, s3, a3, l3, c3, z3, b3, m3, d3, y3, rfl, rfl, Vb, Va_, h2, h3, BX, ⟨by omega, by omega, by omega⟩⟩
      ·
        simp only [List.getElem_toArray, List.getElem_cons_zero, List.getElem_cons_succ]
        go_simp
        have sz_Va_ := BX.size
        refine ent1 _ _ _ (Q := fun V => K _ V) ?_
        intro x4 hb hs_ Va_
        replace h2 := Rr.after hb h2
        replace BX := step BX hb
        clear hb hs_
        refine hK.out _ _ (LS.out _ BX) (fun hHeld => ?_)
        clear hK K
        refine wpAnyH_ready (rs := [3, 4]) (by kernel_rfl) (by simp) ?_
        refine AllReadyH.cons rfl (fun K hK => ?_) (AllReadyH.cons rfl (fun K hK => ?_) AllReadyH.nil)
        ·
          simp only [List.getElem_toArray, List.getElem_cons_zero, List.getElem_cons_succ]
          go_simp
          refine (rceil5 s1 a1 l1 c1 z1 b1 m1 d1 y1 v _ (Rr.after BX L_h1.out) HS.out.1).mono ?_
          rintro e x5 ⟨s3, a3, l3, c3, z3, b3, m3, d3, y3, rfl, h3, hb⟩
          replace Va_ := Va.after hb Va_
          replace h2 := Rr.after hb h2
          replace BX := step BX hb
          clear hb
          rw [EF.out.2] at h3
          try go_wp2_with fail
          refine hK.out _ _ (LS.out _ BX) (fun hHeld => ?_)
          clear hK K
          refine wpAnyH_ready (rs := [4]) (by kernel_rfl) (by simp) ?_
          refine AllReadyH.cons rfl (fun K hK => ?_) AllReadyH.nil
          ·
            simp only [List.getElem_toArray, List.getElem_cons_zero, List.getElem_cons_succ]
            go_simp
            have lt_Vb_Va_ := Va_.lt
            have sz_Vb := BX.size
            refine ent1 _ _ _ (Q := fun V => K _ V) ?_
            intro x6 hb hs_ Vb
            replace Va_ := Va.after hb Va_
            replace h2 := Rr.after hb h2
            replace h3 := Rr.after hb h3
            replace BX := step BX hb
            clear hb hs_
            refine hK.out _ _ (LS.out _ BX) (fun hHeld => ?_)
            clear hK K
            have c_Vb := Vb.d0
            have f0_Vb := Vb.frozen 0
            have d_Vb := Vb.d1
            have f1_Vb := Vb.frozen 1
            have e_Vb := Vb.d2
            have f2_Vb := Vb.frozen 2
            have l_Vb := Vb.lt
            have m_Vb := Nat.le_of_lt l_Vb
            refine wpAnyH_ready (rs := [6]) (by kernel_rfl) (by simp) ?_
            refine AllReadyH.cons rfl (fun K hK => ?_) AllReadyH.nil
            simp only [List.getElem_toArray, List.getElem_cons_zero, List.getElem_cons_succ]
            go_simp
            clear c_Vb f0_Vb d_Vb f1_Vb e_Vb f2_Vb l_Vb m_Vb
            refine sto3 Vb (.bool s2) (.slice a2 l2 c2) (.slice b2 m2 d2) (Q := fun W => K _ W) ?_
            intro x7 V' oth far
            replace Va_ := oth _ _ _ (by first | omega | assumption | (simp; omega)) Va_
            replace h2 := h2.far Vb (noInt3 _ _ _ _ _ _ _) far.1
            replace h3 := h3.far Vb (noInt3 _ _ _ _ _ _ _) far.1
            replace BX := far.2 _ _ (by first | omega | (simp; omega)) BX
            replace Vb := V'
            clear oth far
            refine hK.out _ _ (LS.out _ BX) (fun hHeld => ?_)
            clear hK K
            have c_Va_ := Va_.d0
            have f0_Va_ := Va_.frozen 0
            have d_Va_ := Va_.d1
            have f1_Va_ := Va_.frozen 1
            have e_Va_ := Va_.d2
            have f2_Va_ := Va_.frozen 2
            have l_Va_ := Va_.lt
            have m_Va_ := Nat.le_of_lt l_Va_
            refine wpAnyH_ready (rs := [7]) (by kernel_rfl) (by simp) ?_
            refine AllReadyH.cons rfl (fun K hK => ?_) AllReadyH.nil
            simp only [List.getElem_toArray, List.getElem_cons_zero, List.getElem_cons_succ]
            go_simp
            clear c_Va_ f0_Va_ d_Va_ f1_Va_ e_Va_ f2_Va_ l_Va_ m_Va_
            refine sto3 Va_ (.bool s3) (.slice a3 l3 c3) (.slice b3 m3 d3) (Q := fun W => K _ W) ?_
            intro x8 V' oth far
            replace Vb := oth _ _ _ (by first | omega | assumption | (simp; omega)) Vb
            replace h2 := h2.far Va_ (noInt3 _ _ _ _ _ _ _) far.1
            replace h3 := h3.far Va_ (noInt3 _ _ _ _ _ _ _) far.1
            replace BX := far.2 _ _ (by first | omega | (simp; omega)) BX
            replace Va_ := V'
            clear oth far
            refine hK.out _ _ (LS.out _ BX) (fun hHeld => ?_)
            clear hK K
            refine wpAnyH_done (by kernel_rfl) ?_ _
            refine NoPanic.normal ?_
            clear hHeld
            go_wp2_with fail
            go_meet
            exact ⟨_, _, s2, a2, l2, c2, z2, b2, m2, d2, y2, s3, a3, l3, c3, z3, b3, m3, d3, y3, rfl, rfl, Vb, Va_, h2, h3, BX, ⟨by omega, by omega, by omega⟩⟩
        ·
          simp only [List.getElem_toArray, List.getElem_cons_zero, List.getElem_cons_succ]
          go_simp
          have lt_Vb_Va_ := Va_.lt
          have sz_Vb := BX.size
          refine ent1 _ _ _ (Q := fun V => K _ V) ?_
          intro x5 hb hs_ Vb
          replace Va_ := Va.after hb Va_
          replace h2 := Rr.after hb h2
          replace BX := step BX hb
          clear hb hs_
          refine hK.out _ _ (LS.out _ BX) (fun hHeld => ?_)
          clear hK K
          refine wpAnyH_ready (rs := [3]) (by kernel_rfl) (by simp) ?_
          refine AllReadyH.cons rfl (fun K hK => ?_) AllReadyH.nil
          ·
            simp only [List.getElem_toArray, List.getElem_cons_zero, List.getElem_cons_succ]
            go_simp
            refine (rceil5 s1 a1 l1 c1 z1 b1 m1 d1 y1 v _ (Rr.after BX L_h1.out) HS.out.1).mono ?_
            rintro e x6 ⟨s3, a3, l3, c3, z3, b3, m3, d3, y3, rfl, h3, hb⟩
            replace Va_ := Va.after hb Va_
            replace Vb := Va.after hb Vb
            replace h2 := Rr.after hb h2
            replace BX := step BX hb
            clear hb
            rw [EF.out.2] at h3
            try go_wp2_with fail
            refine hK.out _ _ (LS.out _ BX) (fun hHeld => ?_)
            clear hK K
            have c_Vb := Vb.d0
            have f0_Vb := Vb.frozen 0
            have d_Vb := Vb.d1
            have f1_Vb := Vb.frozen 1
            have e_Vb := Vb.d2
            have f2_Vb := Vb.frozen 2
            have l_Vb := Vb.lt
            have m_Vb := Nat.le_of_lt l_Vb
            refine wpAnyH_ready (rs := [6]) (by kernel_rfl) (by simp) ?_
            refine AllReadyH.cons rfl (fun K hK => ?_) AllReadyH.nil
            simp only [List.getElem_toArray, List.getElem_cons_zero, List.getElem_cons_succ]
            go_simp
            clear c_Vb f0_Vb d_Vb f1_Vb e_Vb f2_Vb l_Vb m_Vb
            refine sto3 Vb (.bool s2) (.slice a2 l2 c2) (.slice b2 m2 d2) (Q := fun W => K _ W) ?_
            intro x7 V' oth far
            replace Va_ := oth _ _ _ (by first | omega | assumption | (simp; omega)) Va_
            replace h2 := h2.far Vb (noInt3 _ _ _ _ _ _ _) far.1
            replace h3 := h3.far Vb (noInt3 _ _ _ _ _ _ _) far.1
            replace BX := far.2 _ _ (by first | omega | (simp; omega)) BX
            replace Vb := V'
            clear oth far
            refine hK.out _ _ (LS.out _ BX) (fun hHeld => ?_)
            clear hK K
            have c_Va_ := Va_.d0
            have f0_Va_ := Va_.frozen 0
            have d_Va_ := Va_.d1
            have f1_Va_ := Va_.frozen 1
            have e_Va_ := Va_.d2
            have f2_Va_ := Va_.frozen 2
            have l_Va_ := Va_.lt
            have m_Va_ := Nat.le_of_lt l_Va_
            refine wpAnyH_ready (rs := [7]) (by kernel_rfl) (by simp) ?_
            refine AllReadyH.cons rfl (fun K hK => ?_) AllReadyH.nil
            simp only [List.getElem_toArray, List.getElem_cons_zero, List.getElem_cons_succ]
            go_simp
            clear c_Va_ f0_Va_ d_Va_ f1_Va_ e_Va_ f2_Va_ l_Va_ m_Va_
            refine sto3 Va_ (.bool s3) (.slice a3 l3 c3) (.slice b3 m3 d3) (Q := fun W => K _ W) ?_
            intro x8 V' oth far
            replace Vb := oth _ _ _ (by first | omega | assumption | (simp; omega)) Vb
            replace h2 := h2.far Va_ (noInt3 _ _ _ _ _ _ _) far.1
            replace h3 := h3.far Va_ (noInt3 _ _ _ _ _ _ _) far.1
            replace BX := far.2 _ _ (by first | omega | (simp; omega)) BX
            replace Va_ := V'
            clear oth far
            refine hK.out _ _ (LS.out _ BX) (fun hHeld => ?_)
            clear hK K
            refine wpAnyH_done (by kernel_rfl) ?_ _
            refine NoPanic.normal ?_
            clear hHeld
            go_wp2_with fail
            go_meet
            exact ⟨_, _, s2, a2, l2, c2, z2, b2, m2, d2, y2, s3, a3, l3, c3, z3, b3, m3, d3, y3, rfl, rfl, Vb, Va_, h2, h3, BX, ⟨by omega, by omega, by omega⟩⟩
    ·
      simp only [List.getElem_toArray, List.getElem_cons_zero, List.getElem_cons_succ]
      go_simp
      have sz_Vb := BX.size
      refine ent1 _ _ _ (Q := fun V => K _ V) ?_
      intro x3 hb hs_ Vb
      replace BX := step BX hb
      clear hb hs_
      refine hK.out _ _ (LS.out _ BX) (fun hHeld => ?_)
      clear hK K
      refine wpAnyH_ready (rs := [1, 5]) (by kernel_rfl) (by simp) ?_
      refine AllReadyH.cons rfl (fun K hK => ?_) (AllReadyH.cons rfl (fun K hK => ?_) AllReadyH.nil)
      ·
        simp only [List.getElem_toArray, List.getElem_cons_zero, List.getElem_cons_succ]
        go_simp
        refine (rfloor5 s1 a1 l1 c1 z1 b1 m1 d1 y1 v _ (Rr.after BX L_h1.out) HS.out.1).mono ?_
        rintro e x4 ⟨s2, a2, l2, c2, z2, b2, m2, d2, y2, rfl, h2, hb⟩
        replace Vb := Va.after hb Vb
        replace BX := step BX hb
        clear hb
        rw [EF.out.1] at h2
        try go_wp2_with fail
        refine hK.out _ _ (LS.out _ BX) (fun hHeld => ?_)
        clear hK K
        refine wpAnyH_ready (rs := [3, 5]) (by kernel_rfl) (by simp) ?_
        refine AllReadyH.cons rfl (fun K hK => ?_) (AllReadyH.cons rfl (fun K hK => ?_) AllReadyH.nil)
        ·
          simp only [List.getElem_toArray, List.getElem_cons_zero, List.getElem_cons_succ]
          go_simp
          refine (rceil5 s1 a1 l1 c1 z1 b1 m1 d1 y1 v _ (Rr.after BX L_h1.out) HS.out.1).mono ?_
          rintro e x5 ⟨s3, a3, l3, c3, z3, b3, m3, d3, y3, rfl, h3, hb⟩
          replace Vb := Va.after hb Vb
          replace h2 := Rr.after hb h2
          replace BX := step BX hb
          clear hb
          rw [EF.out.2] at h3
          try go_wp2_with fail
          refine hK.out _ _ (LS.out _ BX) (fun hHeld => ?_)
          clear hK K
          refine wpAnyH_ready (rs := [5]) (by kernel_rfl) (by simp) ?_
          refine AllReadyH.cons rfl (fun K hK => ?_) AllReadyH.nil
          ·
            simp only [List.getElem_toArray, List.getElem_cons_zero, List.getElem_cons_succ]
            go_simp
            have lt_Va__Vb := Vb.lt
            have sz_Va_ := BX.size
            refine ent1 _ _ _ (Q := fun V => K _ V) ?_
            intro x6 hb hs_ Va_
            replace Vb := Va.after hb Vb
            replace h2 := Rr.after hb h2
            replace h3 := Rr.after hb h3
            replace BX := step BX hb
            clear hb hs_
            refine hK.out _ _ (LS.out _ BX) (fun hHeld => ?_)
            clear hK K
            have c_Vb := Vb.d0
            have f0_Vb := Vb.frozen 0
            have d_Vb := Vb.d1
            have f1_Vb := Vb.frozen 1
            have e_Vb := Vb.d2
            have f2_Vb := Vb.frozen 2
            have l_Vb := Vb.lt
            have m_Vb := Nat.le_of_lt l_Vb
            refine wpAnyH_ready (rs := [6]) (by kernel_rfl) (by simp) ?_
            refine AllReadyH.cons rfl (fun K hK => ?_) AllReadyH.nil
            simp only [List.getElem_toArray, List.getElem_cons_zero, List.getElem_cons_succ]
            go_simp
            clear c_Vb f0_Vb d_Vb f1_Vb e_Vb f2_Vb l_Vb m_Vb
            refine sto3 Vb (.bool s2) (.slice a2 l2 c2) (.slice b2 m2 d2) (Q := fun W => K _ W) ?_
            intro x7 V' oth far
            replace Va_ := oth _ _ _ (by first | omega | assumption | (simp; omega)) Va_
            replace h2 := h2.far Vb (noInt3 _ _ _ _ _ _ _) far.1
            replace h3 := h3.far Vb (noInt3 _ _ _ _ _ _ _) far.1
            replace BX := far.2 _ _ (by first | omega | (simp; omega)) BX
            replace Vb := V'
            clear oth far
            refine hK.out _ _ (LS.out _ BX) (fun hHeld => ?_)
            clear hK K
            have c_Va_ := Va_.d0
            have f0_Va_ := Va_.frozen 0
            have d_Va_ := Va_.d1
            have f1_Va_ := Va_.frozen 1
            have e_Va_ := Va_.d2
            have f2_Va_ := Va_.frozen 2
            have l_Va_ := Va_.lt
            have m_Va_ := Nat.le_of_lt l_Va_
            refine wpAnyH_ready (rs := [7]) (by kernel_rfl) (by simp) ?_
            refine AllReadyH.cons rfl (fun K hK => ?_) AllReadyH.nil
            simp only [List.getElem_toArray, List.getElem_cons_zero, List.getElem_cons_succ]
            go_simp
            clear c_Va_ f0_Va_ d_Va_ f1_Va_ e_Va_ f2_Va_ l_Va_ m_Va_
            refine sto3 Va_ (.bool s3) (.slice a3 l3 c3) (.slice b3 m3 d3) (Q := fun W => K _ W) ?_
            intro x8 V' oth far
            replace Vb := oth _ _ _ (by first | omega | assumption | (simp; omega)) Vb
            replace h2 := h2.far Va_ (noInt3 _ _ _ _ _ _ _) far.1
            replace h3 := h3.far Va_ (noInt3 _ _ _ _ _ _ _) far.1
            replace BX := far.2 _ _ (by first | omega | (simp; omega)) BX
            replace Va_ := V'
            clear oth far
            refine hK.out _ _ (LS.out _ BX) (fun hHeld => ?_)
            clear hK K
            refine wpAnyH_done (by kernel_rfl) ?_ _
            refine NoPanic.normal ?_
            clear hHeld
            go_wp2_with fail
            go_meet
            exact ⟨_, _, s2, a2, l2, c2, z2, b2, m2, d2, y2, s3, a3, l3, c3, z3, b3, m3, d3, y3, rfl, rfl, Vb, Va_, h2, h3, BX, ⟨by omega, by omega, by omega⟩⟩
        ·
          simp only [List.getElem_toArray, List.getElem_cons_zero, List.getElem_cons_succ]
          go_simp
          have lt_Va__Vb := Vb.lt
          have sz_Va_ := BX.size
          refine ent1 _ _ _ (Q := fun V => K _ V) ?_
          intro x5 hb hs_ Va_
          replace Vb := Va.after hb Vb
          replace h2 := Rr.after hb h2
          replace BX := step BX hb
          clear hb hs_
          refine hK.out _ _ (LS.out _ BX) (fun hHeld => ?_)
          clear hK K
          refine wpAnyH_ready (rs := [3]) (by kernel_rfl) (by simp) ?_
          refine AllReadyH.cons rfl (fun K hK => ?_) AllReadyH.nil
          ·
            simp only [List.getElem_toArray, List.getElem_cons_zero, List.getElem_cons_succ]
            go_simp
            refine (rceil5 s1 a1 l1 c1 z1 b1 m1 d1 y1 v _ (Rr.after BX L_h1.out) HS.out.1).mono ?_
            rintro e x6 ⟨s3, a3, l3, c3, z3, b3, m3, d3, y3, rfl, h3, hb⟩
            replace Vb := Va.after hb Vb
            replace Va_ := Va.after hb Va_
            replace h2 := Rr.after hb h2
            replace BX := step BX hb
            clear hb
            rw [EF.out.2] at h3
            try go_wp2_with fail
            refine hK.out _ _ (LS.out _ BX) (fun hHeld => ?_)
            clear hK K
            have c_Vb := Vb.d0
            have f0_Vb := Vb.frozen 0
            have d_Vb := Vb.d1
            have f1_Vb := Vb.frozen 1
            have e_Vb := Vb.d2
            have f2_Vb := Vb.frozen 2
            have l_Vb := Vb.lt
            have m_Vb := Nat.le_of_lt l_Vb
            refine wpAnyH_ready (rs := [6]) (by kernel_rfl) (by simp) ?_
            refine AllReadyH.cons rfl (fun K hK => ?_) AllReadyH.nil
            simp only [List.getElem_toArray, List.getElem_cons_zero, List.getElem_cons_succ]
            go_simp
            clear c_Vb f0_Vb d_Vb f1_Vb e_Vb f2_Vb l_Vb m_Vb
            refine sto3 Vb (.bool s2) (.slice a2 l2 c2) (.slice b2 m2 d2) (Q := fun W => K _ W) ?_
            intro x7 V' oth far
            replace Va_ := oth _ _ _ (by first | omega | assumption | (simp; omega)) Va_
            replace h2 := h2.far Vb (noInt3 _ _ _ _ _ _ _) far.1
            replace h3 := h3.far Vb (noInt3 _ _ _ _ _ _ _) far.1
            replace BX := far.2 _ _ (by first | omega | (simp; omega)) BX
            replace Vb := V'
            clear oth far
            refine hK.out _ _ (LS.out _ BX) (fun hHeld => ?_)
            clear hK K
            have c_Va_ := Va_.d0
            have f0_Va_ := Va_.frozen 0
            have d_Va_ := Va_.d1
            have f1_Va_ := Va_.frozen 1
            have e_Va_ := Va_.d2
            have f2_Va_ := Va_.frozen 2
            have l_Va_ := Va_.lt
            have m_Va_ := Nat.le_of_lt l_Va_
            refine wpAnyH_ready (rs := [7]) (by kernel_rfl) (by simp) ?_
            refine AllReadyH.cons rfl (fun K hK => ?_) AllReadyH.nil
            simp only [List.getElem_toArray, List.getElem_cons_zero, List.getElem_cons_succ]
            go_simp
            clear c_Va_ f0_Va_ d_Va_ f1_Va_ e_Va_ f2_Va_ l_Va_ m_Va_
            refine sto3 Va_ (.bool s3) (.slice a3 l3 c3) (.slice b3 m3 d3) (Q := fun W => K _ W) ?_
            intro x8 V' oth far
            replace Vb := oth _ _ _ (by first | omega | assumption | (simp; omega)) Vb
            replace h2 := h2.far Va_ (noInt3 _ _ _ _ _ _ _) far.1
            replace h3 := h3.far Va_ (noInt3 _ _ _ _ _ _ _) far.1
            replace BX := far.2 _ _ (by first | omega | (simp; omega)) BX
            replace Va_ := V'
            clear oth far
            refine hK.out _ _ (LS.out _ BX) (fun hHeld => ?_)
            clear hK K
            refine wpAnyH_done (by kernel_rfl) ?_ _
            refine NoPanic.normal ?_
            clear hHeld
            go_wp2_with fail
            go_meet
            exact ⟨_, _, s2, a2, l2, c2, z2, b2, m2, d2, y2, s3, a3, l3, c3, z3, b3, m3, d3, y3, rfl, rfl, Vb, Va_, h2, h3, BX, ⟨by omega, by omega, by omega⟩⟩
      ·
        simp only [List.getElem_toArray, List.getElem_cons_zero, List.getElem_cons_succ]
        go_simp
        have lt_Va__Vb := Vb.lt
        have sz_Va_ := BX.size
        refine ent1 _ _ _ (Q := fun V => K _ V) ?_
        intro x4 hb hs_ Va_
        replace Vb := Va.after hb Vb
        replace BX := step BX hb
        clear hb hs_
        refine hK.out _ _ (LS.out _ BX) (fun hHeld => ?_)
        clear hK K
        refine wpAnyH_ready (rs := [1]) (by kernel_rfl) (by simp) ?_
        refine AllReadyH.cons rfl (fun K hK => ?_) AllReadyH.nil
        ·
          simp only [List.getElem_toArray, List.getElem_cons_zero, List.getElem_cons_succ]
          go_simp
          refine (rfloor5 s1 a1 l1 c1 z1 b1 m1 d1 y1 v _ (Rr.after BX L_h1.out) HS.out.1).mono ?_
          rintro e x5 ⟨s2, a2, l2, c2, z2, b2, m2, d2, y2, rfl, h2, hb⟩
          replace Vb := Va.after hb Vb
          replace Va_ := Va.after hb Va_
          replace BX := step BX hb
          clear hb
          rw [EF.out.1] at h2
          try go_wp2_with fail
          refine hK.out _ _ (LS.out _ BX) (fun hHeld => ?_)
          clear hK K
          refine wpAnyH_ready (rs := [3]) (by kernel_rfl) (by simp) ?_
          refine AllReadyH.cons rfl (fun K hK => ?_) AllReadyH.nil
          ·
            simp only [List.getElem_toArray, List.getElem_cons_zero, List.getElem_cons_succ]
            go_simp
            refine (rceil5 s1 a1 l1 c1 z1 b1 m1 d1 y1 v _ (Rr.after BX L_h1.out) HS.out.1).mono ?_
            rintro e x6 ⟨s3, a3, l3, c3, z3, b3, m3, d3, y3, rfl, h3, hb⟩
            replace Vb := Va.after hb Vb
            replace Va_ := Va.after hb Va_
            replace h2 := Rr.after hb h2
            replace BX := step BX hb
            clear hb
            rw [EF.out.2] at h3
            try go_wp2_with fail
            refine hK.out _ _ (LS.out _ BX) (fun hHeld => ?_)
            clear hK K
            have c_Vb := Vb.d0
            have f0_Vb := Vb.frozen 0
            have d_Vb := Vb.d1
            have f1_Vb := Vb.frozen 1
            have e_Vb := Vb.d2
            have f2_Vb := Vb.frozen 2
            have l_Vb := Vb.lt
            have m_Vb := Nat.le_of_lt l_Vb
            refine wpAnyH_ready (rs := [6]) (by kernel_rfl) (by simp) ?_
            refine AllReadyH.cons rfl (fun K hK => ?_) AllReadyH.nil
            simp only [List.getElem_toArray, List.getElem_cons_zero, List.getElem_cons_succ]
            go_simp
            clear c_Vb f0_Vb d_Vb f1_Vb e_Vb f2_Vb l_Vb m_Vb
            refine sto3 Vb (.bool s2) (.slice a2 l2 c2) (.slice b2 m2 d2) (Q := fun W => K _ W) ?_
            intro x7 V' oth far
            replace Va_ := oth _ _ _ (by first | omega | assumption | (simp; omega)) Va_
            replace h2 := h2.far Vb (noInt3 _ _ _ _ _ _ _) far.1
            replace h3 := h3.far Vb (noInt3 _ _ _ _ _ _ _) far.1
            replace BX := far.2 _ _ (by first | omega | (simp; omega)) BX
            replace Vb := V'
            clear oth far
            refine hK.out _ _ (LS.out _ BX) (fun hHeld => ?_)
            clear hK K
            have c_Va_ := Va_.d0
            have f0_Va_ := Va_.frozen 0
            have d_Va_ := Va_.d1
            have f1_Va_ := Va_.frozen 1
            have e_Va_ := Va_.d2
            have f2_Va_ := Va_.frozen 2
            have l_Va_ := Va_.lt
            have m_Va_ := Nat.le_of_lt l_Va_
            refine wpAnyH_ready (rs := [7]) (by kernel_rfl) (by simp) ?_
            refine AllReadyH.cons rfl (fun K hK => ?_) AllReadyH.nil
            simp only [List.getElem_toArray, List.getElem_cons_zero, List.getElem_cons_succ]
            go_simp
            clear c_Va_ f0_Va_ d_Va_ f1_Va_ e_Va_ f2_Va_ l_Va_ m_Va_
            refine sto3 Va_ (.bool s3) (.slice a3 l3 c3) (.slice b3 m3 d3) (Q := fun W => K _ W) ?_
            intro x8 V' oth far
            replace Vb := oth _ _ _ (by first | omega | assumption | (simp; omega)) Vb
            replace h2 := h2.far Va_ (noInt3 _ _ _ _ _ _ _) far.1
            replace h3 := h3.far Va_ (noInt3 _ _ _ _ _ _ _) far.1
            replace BX := far.2 _ _ (by first | omega | (simp; omega)) BX
            replace Va_ := V'
            clear oth far
            refine hK.out _ _ (LS.out _ BX) (fun hHeld => ?_)
            clear hK K
            refine wpAnyH_done (by kernel_rfl) ?_ _
            refine NoPanic.normal ?_
            clear hHeld
            go_wp2_with fail
            go_meet
            exact ⟨_, _, s2, a2, l2, c2, z2, b2, m2, d2, y2, s3, a3, l3, c3, z3, b3, m3, d3, y3, rfl, rfl, Vb, Va_, h2, h3, BX, ⟨by omega, by omega, by omega⟩⟩
    ·
      simp only [List.getElem_toArray, List.getElem_cons_zero, List.getElem_cons_succ]
      go_simp
      have sz_Va_ := BX.size
      refine ent1 _ _ _ (Q := fun V => K _ V) ?_
      intro x3 hb hs_ Va_
      replace BX := step BX hb
      clear hb hs_
      refine hK.out _ _ (LS.out _ BX) (fun hHeld => ?_)
      clear hK K
      refine wpAnyH_ready (rs := [1, 4]) (by kernel_rfl) (by simp) ?_
      refine AllReadyH.cons rfl (fun K hK => ?_) (AllReadyH.cons rfl (fun K hK => ?_) AllReadyH.nil)
      ·
        simp only [List.getElem_toArray, List.getElem_cons_zero, List.getElem_cons_succ]
        go_simp
        refine (rfloor5 s1 a1 l1 c1 z1 b1 m1 d1 y1 v _ (Rr.after BX L_h1.out) HS.out.1).mono ?_
        rintro e x4 ⟨s2, a2, l2, c2, z2, b2, m2, d2, y2, rfl, h2, hb⟩
        replace Va_ := Va.after hb Va_
        replace BX := step BX hb
        clear hb
        rw [EF.out.1] at h2
        try go_wp2_with fail
        refine hK.out _ _ (LS.out _ BX) (fun hHeld => ?_)
        clear hK K
        refine wpAnyH_ready (rs := [3, 4]) (by kernel_rfl) (by simp) ?_
        refine AllReadyH.cons rfl (fun K hK => ?_) (AllReadyH.cons rfl (fun K hK => ?_) AllReadyH.nil)
        ·
          simp only [List.getElem_toArray, List.getElem_cons_zero, List.getElem_cons_succ]
          go_simp
          refine (rceil5 s1 a1 l1 c1 z1 b1 m1 d1 y1 v _ (Rr.after BX L_h1.out) HS.out.1).mono ?_
          rintro e x5 ⟨s3, a3, l3, c3, z3, b3, m3, d3, y3, rfl, h3, hb⟩
          replace Va_ := Va.after hb Va_
          replace h2 := Rr.after hb h2
          replace BX := step BX hb
          clear hb
          rw [EF.out.2] at h3
          try go_wp2_with fail
          refine hK.out _ _ (LS.out _ BX) (fun hHeld => ?_)
          clear hK K
          refine wpAnyH_ready (rs := [4]) (by kernel_rfl) (by simp) ?_
          refine AllReadyH.cons rfl (fun K hK => ?_) AllReadyH.nil
          ·
            simp only [List.getElem_toArray, List.getElem_cons_zero, List.getElem_cons_succ]
            go_simp
            have lt_Vb_Va_ := Va_.lt
            have sz_Vb := BX.size
            refine ent1 _ _ _ (Q := fun V => K _ V) ?_
            intro x6 hb hs_ Vb
            replace Va_ := Va.after hb Va_
            replace h2 := Rr.after hb h2
            replace h3 := Rr.after hb h3
            replace BX := step BX hb
            clear hb hs_
            refine hK.out _ _ (LS.out _ BX) (fun hHeld => ?_)
            clear hK K
            have c_Vb := Vb.d0
            have f0_Vb := Vb.frozen 0
            have d_Vb := Vb.d1
            have f1_Vb := Vb.frozen 1
            have e_Vb := Vb.d2
            have f2_Vb := Vb.frozen 2
            have l_Vb := Vb.lt
            have m_Vb := Nat.le_of_lt l_Vb
            refine wpAnyH_ready (rs := [6]) (by kernel_rfl) (by simp) ?_
            refine AllReadyH.cons rfl (fun K hK => ?_) AllReadyH.nil
            simp only [List.getElem_toArray, List.getElem_cons_zero, List.getElem_cons_succ]
            go_simp
            clear c_Vb f0_Vb d_Vb f1_Vb e_Vb f2_Vb l_Vb m_Vb
            refine sto3 Vb (.bool s2) (.slice a2 l2 c2) (.slice b2 m2 d2) (Q := fun W => K _ W) ?_
            intro x7 V' oth far
            replace Va_ := oth _ _ _ (by first | omega | assumption | (simp; omega)) Va_
            replace h2 := h2.far Vb (noInt3 _ _ _ _ _ _ _) far.1
            replace h3 := h3.far Vb (noInt3 _ _ _ _ _ _ _) far.1
            replace BX := far.2 _ _ (by first | omega | (simp; omega)) BX
            replace Vb := V'
            clear oth far
            refine hK.out _ _ (LS.out _ BX) (fun hHeld => ?_)
            clear hK K
            have c_Va_ := Va_.d0
            have f0_Va_ := Va_.frozen 0
            have d_Va_ := Va_.d1
            have f1_Va_ := Va_.frozen 1
            have e_Va_ := Va_.d2
            have f2_Va_ := Va_.frozen 2
            have l_Va_ := Va_.lt
            have m_Va_ := Nat.le_of_lt l_Va_
            refine wpAnyH_ready (rs := [7]) (by kernel_rfl) (by simp) ?_
            refine AllReadyH.cons rfl (fun K hK => ?_) AllReadyH.nil
            simp only [List.getElem_toArray, List.getElem_cons_zero, List.getElem_cons_succ]
            go_simp
            clear c_Va_ f0_Va_ d_Va_ f1_Va_ e_Va_ f2_Va_ l_Va_ m_Va_
            refine sto3 Va_ (.bool s3) (.slice a3 l3 c3) (.slice b3 m3 d3) (Q := fun W => K _ W) ?_
            intro x8 V' oth far
            replace Vb := oth _ _ _ (by first | omega | assumption | (simp; omega)) Vb
            replace h2 := h2.far Va_ (noInt3 _ _ _ _ _ _ _) far.1
            replace h3 := h3.far Va_ (noInt3 _ _ _ _ _ _ _) far.1
            replace BX := far.2 _ _ (by first | omega | (simp; omega)) BX
            replace Va_ := V'
            clear oth far
            refine hK.out _ _ (LS.out _ BX) (fun hHeld => ?_)
            clear hK K
            refine wpAnyH_done (by kernel_rfl) ?_ _
            refine NoPanic.normal ?_
            clear hHeld
            go_wp2_with fail
            go_meet
            exact ⟨_, _, s2, a2, l2, c2, z2, b2, m2, d2, y2, s3, a3, l3, c3, z3, b3, m3, d3, y3, rfl, rfl, Vb, Va_, h2, h3, BX, ⟨by omega, by omega, by omega⟩⟩
        ·
          simp only [List.getElem_toArray, List.getElem_cons_zero, List.getElem_cons_succ]
          go_simp
          have lt_Vb_Va_ := Va_.lt
          have sz_Vb := BX.size
          refine ent1 _ _ _ (Q := fun V => K _ V) ?_
          intro x5 hb hs_ Vb
          replace Va_ := Va.after hb Va_
          replace h2 := Rr.after hb h2
          replace BX := step BX hb
          clear hb hs_
          refine hK.out _ _ (LS.out _ BX) (fun hHeld => ?_)
          clear hK K
          refine wpAnyH_ready (rs := [3]) (by kernel_rfl) (by simp) ?_
          refine AllReadyH.cons rfl (fun K hK => ?_) AllReadyH.nil
          ·
            simp only [List.getElem_toArray, List.getElem_cons_zero, List.getElem_cons_succ]
            go_simp
            refine (rceil5 s1 a1 l1 c1 z1 b1 m1 d1 y1 v _ (Rr.after BX L_h1.out) HS.out.1).mono ?_
            rintro e x6 ⟨s3, a3, l3, c3, z3, b3, m3, d3, y3, rfl, h3, hb⟩
            replace Va_ := Va.after hb Va_
            replace Vb := Va.after hb Vb
            replace h2 := Rr.after hb h2
            replace BX := step BX hb
            clear hb
            rw [EF.out.2] at h3
            try go_wp2_with fail
            refine hK.out _ _ (LS.out _ BX) (fun hHeld => ?_)
            clear hK K
            have c_Vb := Vb.d0
            have f0_Vb := Vb.frozen 0
            have d_Vb := Vb.d1
            have f1_Vb := Vb.frozen 1
            have e_Vb := Vb.d2
            have f2_Vb := Vb.frozen 2
            have l_Vb := Vb.lt
            have m_Vb := Nat.le_of_lt l_Vb
            refine wpAnyH_ready (rs := [6]) (by kernel_rfl) (by simp) ?_
            refine AllReadyH.cons rfl (fun K hK => ?_) AllReadyH.nil
            simp only [List.getElem_toArray, List.getElem_cons_zero, List.getElem_cons_succ]
            go_simp
            clear c_Vb f0_Vb d_Vb f1_Vb e_Vb f2_Vb l_Vb m_Vb
            refine sto3 Vb (.bool s2) (.slice a2 l2 c2) (.slice b2 m2 d2) (Q := fun W => K _ W) ?_
            intro x7 V' oth far
            replace Va_ := oth _ _ _ (by first | omega | assumption | (simp; omega)) Va_
            replace h2 := h2.far Vb (noInt3 _ _ _ _ _ _ _) far.1
            replace h3 := h3.far Vb (noInt3 _ _ _ _ _ _ _) far.1
            replace BX := far.2 _ _ (by first | omega | (simp; omega)) BX
            replace Vb := V'
            clear oth far
            refine hK.out _ _ (LS.out _ BX) (fun hHeld => ?_)
            clear hK K
            have c_Va_ := Va_.d0
            have f0_Va_ := Va_.frozen 0
            have d_Va_ := Va_.d1
            have f1_Va_ := Va_.frozen 1
            have e_Va_ := Va_.d2
            have f2_Va_ := Va_.frozen 2
            have l_Va_ := Va_.lt
            have m_Va_ := Nat.le_of_lt l_Va_
            refine wpAnyH_ready (rs := [7]) (by kernel_rfl) (by simp) ?_
            refine AllReadyH.cons rfl (fun K hK => ?_) AllReadyH.nil
            simp only [List.getElem_toArray, List.getElem_cons_zero, List.getElem_cons_succ]
            go_simp
            clear c_Va_ f0_Va_ d_Va_ f1_Va_ e_Va_ f2_Va_ l_Va_ m_Va_
            refine sto3 Va_ (.bool s3) (.slice a3 l3 c3) (.slice b3 m3 d3) (Q := fun W => K _ W) ?_
            intro x8 V' oth far
            replace Vb := oth _ _ _ (by first | omega | assumption | (simp; omega)) Vb
            replace h2 := h2.far Va_ (noInt3 _ _ _ _ _ _ _) far.1
            replace h3 := h3.far Va_ (noInt3 _ _ _ _ _ _ _) far.1
            replace BX := far.2 _ _ (by first | omega | (simp; omega)) BX
            replace Va_ := V'
            clear oth far
            refine hK.out _ _ (LS.out _ BX) (fun hHeld => ?_)
            clear hK K
            refine wpAnyH_done (by kernel_rfl) ?_ _
            refine NoPanic.normal ?_
            clear hHeld
            go_wp2_with fail
            go_meet
            exact ⟨_, _, s2, a2, l2, c2, z2, b2, m2, d2, y2, s3, a3, l3, c3, z3, b3, m3, d3, y3, rfl, rfl, Vb, Va_, h2, h3, BX, ⟨by omega, by omega, by omega⟩⟩
      ·
        simp only [List.getElem_toArray, List.getElem_cons_zero, List.getElem_cons_succ]
        go_simp
        have lt_Vb_Va_ := Va_.lt
        have sz_Vb := BX.size
        refine ent1 _ _ _ (Q := fun V => K _ V) ?_
        intro x4 hb hs_ Vb
        replace Va_ := Va.after hb Va_
        replace BX := step BX hb
        clear hb hs_
        refine hK.out _ _ (LS.out _ BX) (fun hHeld => ?_)
        clear hK K
        refine wpAnyH_ready (rs := [1]) (by kernel_rfl) (by simp) ?_
        refine AllReadyH.cons rfl (fun K hK => ?_) AllReadyH.nil
        ·
          simp only [List.getElem_toArray, List.getElem_cons_zero, List.getElem_cons_succ]
          go_simp
          refine (rfloor5 s1 a1 l1 c1 z1 b1 m1 d1 y1 v _ (Rr.after BX L_h1.out) HS.out.1).mono ?_
          rintro e x5 ⟨s2, a2, l2, c2, z2, b2, m2, d2, y2, rfl, h2, hb⟩
          replace Va_ := Va.after hb Va_
          replace Vb := Va.after hb Vb
          replace BX := step BX hb
          clear hb
          rw [EF.out.1] at h2
          try go_wp2_with fail
          refine hK.out _ _ (LS.out _ BX) (fun hHeld => ?_)
          clear hK K
          refine wpAnyH_ready (rs := [3]) (by kernel_rfl) (by simp) ?_
          refine AllReadyH.cons rfl (fun K hK => ?_) AllReadyH.nil
          ·
            simp only [List.getElem_toArray, List.getElem_cons_zero, List.getElem_cons_succ]
            go_simp
            refine (rceil5 s1 a1 l1 c1 z1 b1 m1 d1 y1 v _ (Rr.after BX L_h1.out) HS.out.1).mono ?_
            rintro e x6 ⟨s3, a3, l3, c3, z3, b3, m3, d3, y3, rfl, h3, hb⟩
            replace Va_ := Va.after hb Va_
            replace Vb := Va.after hb Vb
            replace h2 := Rr.after hb h2
            replace BX := step BX hb
            clear hb
            rw [EF.out.2] at h3
            try go_wp2_with fail
            refine hK.out _ _ (LS.out _ BX) (fun hHeld => ?_)
            clear hK K
            have c_Vb := Vb.d0
            have f0_Vb := Vb.frozen 0
            have d_Vb := Vb.d1
            have f1_Vb := Vb.frozen 1
            have e_Vb := Vb.d2
            have f2_Vb := Vb.frozen 2
            have l_Vb := Vb.lt
            have m_Vb := Nat.le_of_lt l_Vb
            refine wpAnyH_ready (rs := [6]) (by kernel_rfl) (by simp) ?_
            refine AllReadyH.cons rfl (fun K hK => ?_) AllReadyH.nil
            simp only [List.getElem_toArray, List.getElem_cons_zero, List.getElem_cons_succ]
            go_simp
            clear c_Vb f0_Vb d_Vb f1_Vb e_Vb f2_Vb l_Vb m_Vb
            refine sto3 Vb (.bool s2) (.slice a2 l2 c2) (.slice b2 m2 d2) (Q := fun W => K _ W) ?_
            intro x7 V' oth far
            replace Va_ := oth _ _ _ (by first | omega | assumption | (simp; omega)) Va_
            replace h2 := h2.far Vb (noInt3 _ _ _ _ _ _ _) far.1
            replace h3 := h3.far Vb (noInt3 _ _ _ _ _ _ _) far.1
            replace BX := far.2 _ _ (by first | omega | (simp; omega)) BX
            replace Vb := V'
            clear oth far
            refine hK.out _ _ (LS.out _ BX) (fun hHeld => ?_)
            clear hK K
            have c_Va_ := Va_.d0
            have f0_Va_ := Va_.frozen 0
            have d_Va_ := Va_.d1
            have f1_Va_ := Va_.frozen 1
            have e_Va_ := Va_.d2
            have f2_Va_ := Va_.frozen 2
            have l_Va_ := Va_.lt
            have m_Va_ := Nat.le_of_lt l_Va_
            refine wpAnyH_ready (rs := [7]) (by kernel_rfl) (by simp) ?_
            refine AllReadyH.cons rfl (fun K hK => ?_) AllReadyH.nil
            simp only [List.getElem_toArray, List.getElem_cons_zero, List.getElem_cons_succ]
            go_simp
            clear c_Va_ f0_Va_ d_Va_ f1_Va_ e_Va_ f2_Va_ l_Va_ m_Va_
            refine sto3 Va_ (.bool s3) (.slice a3 l3 c3) (.slice b3 m3 d3) (Q := fun W => K _ W) ?_
            intro x8 V' oth far
            replace Vb := oth _ _ _ (by first | omega | assumption | (simp; omega)) Vb
            replace h2 := h2.far Va_ (noInt3 _ _ _ _ _ _ _) far.1
            replace h3 := h3.far Va_ (noInt3 _ _ _ _ _ _ _) far.1
            replace BX := far.2 _ _ (by first | omega | (simp; omega)) BX
            replace Va_ := V'
            clear oth far
            refine hK.out _ _ (LS.out _ BX) (fun hHeld => ?_)
            clear hK K
            refine wpAnyH_done (by kernel_rfl) ?_ _
            refine NoPanic.normal ?_
            clear hHeld
            go_wp2_with fail
            go_meet
            exact ⟨_, _, s2, a2, l2, c2, z2, b2, m2, d2, y2, s3, a3, l3, c3, z3, b3, m3, d3, y3, rfl, rfl, Vb, Va_, h2, h3, BX, ⟨by omega, by omega, by omega⟩⟩
  case rest =>
    clear BX
    obtain ⟨b5, b6, s2, a2, l2, c2, z2, b2, m2, d2, y2, s3, a3, l3, c3, z3, b3, m3, d3, y3, rfl, rfl, Vb', Va_', h2', h3', BX', hineq'⟩ := hcut
    have Vb := Vb'.out
    have Va_ := Va_'.out
    have h2 := h2'.out
    have h3 := h3'.out
    have BX := BX'.out
    have hineq := hineq'.out
    clear Vb' Va_' h2' h3' BX' hineq'
    obtain ⟨iq0, iq1, iq2⟩ := hineq
    have V0 := Va.after BX L_V0.out
    have V1 := Va.after BX L_V1.out
    have h1 := Rr.after BX L_h1.out
    have B0 := step L_B.out BX
    go_wp2_with fail
    refine wp_region_noPanic ?_
    replace V0 : Va wc.drew _ _ _ := V0
    replace V1 : Va wc.drew _ _ _ := V1
    replace Vb : Va wc.drew _ _ _ := Vb
    replace Va_ : Va wc.drew _ _ _ := Va_
    replace h1 := h1.drw
    replace h2 := h2.drw
    replace h3 := h3.drw
    replace B0 := Below.drew B0
    refine wp_region_held_drew (S := (fun W => W.cell? ⟨w.heap.size, 0, none⟩ = some (.bool s1) ∧ W.cell? ⟨w.heap.size, 1, none⟩ = some (.slice a1 l1 c1) ∧ W.cell? ⟨w.heap.size, 2, none⟩ = some (.slice b1 m1 d1) ∧ W.cell? ⟨b5, 0, none⟩ = some (.bool s2) ∧ W.cell? ⟨b5, 1, none⟩ = some (.slice a2 l2 c2) ∧ W.cell? ⟨b5, 2, none⟩ = some (.slice b2 m2 d2) ∧ W.cell? ⟨b6, 0, none⟩ = some (.bool s3) ∧ W.cell? ⟨b6, 1, none⟩ = some (.slice a3 l3 c3) ∧ W.cell? ⟨b6, 2, none⟩ = some (.slice b3 m3 d3))) (by kernel_rfl) ⟨V0.d0, V0.d1, V0.d2, Vb.d0, Vb.d1, Vb.d2, Va_.d0, Va_.d1, Va_.d2⟩ (fun hHeld => ?_)
    obtain ⟨x2, hxd⟩ : ∃ xd, xd = wc.drew := ⟨_, rfl⟩
    rw [← hxd] at V0 V1 Vb Va_ h1 h2 h3 B0 hHeld ⊢
    clear hxd
    refine wpAnyH_take (i := 0) (v := ?_) rfl (by kernel_rfl) (by kernel_rfl) (by kernel_rfl) (fun _ _ _ h => h) (Or.inl ⟨by rfl, ?_⟩) hHeld ?_
    rotate_left
    · (intro W hSw; (try dsimp only at hSw); go_simp; all_goals (with_reducible rfl))
    simp only [List.getElem_toArray, List.getElem_cons_zero, Act.put, List.setIfInBounds_toArray, List.set_cons_zero, List.set_cons_succ]
    refine wpAnyH_take (i := 1) (v := ?_) rfl (by kernel_rfl) (by kernel_rfl) (by kernel_rfl) (fun _ _ _ h => h) (Or.inl ⟨by rfl, ?_⟩) hHeld ?_
    rotate_left
    · (intro W hSw; (try dsimp only at hSw); go_simp; all_goals (with_reducible rfl))
    simp only [List.getElem_toArray, List.getElem_cons_zero, List.getElem_cons_succ, Act.put, List.setIfInBounds_toArray, List.set_cons_zero, List.set_cons_succ]
    refine wpAnyH_take (i := 3) (v := ?_) rfl (by kernel_rfl) (by kernel_rfl) (by kernel_rfl) (fun _ _ _ h => h) (Or.inl ⟨by rfl, ?_⟩) hHeld ?_
    rotate_left
    · (intro W hSw; (try dsimp only at hSw); go_simp; all_goals (with_reducible rfl))
    simp only [List.getElem_toArray, List.getElem_cons_zero, List.getElem_cons_succ, Act.put, List.setIfInBounds_toArray, List.set_cons_zero, List.set_cons_succ]
    refine wpAnyH_take (i := 4) (v := ?_) rfl (by kernel_rfl) (by kernel_rfl) (by kernel_rfl) (fun _ _ _ h => h) (Or.inl ⟨by rfl, ?_⟩) hHeld ?_
    rotate_left
    · (intro W hSw; (try dsimp only at hSw); go_simp; all_goals (with_reducible rfl))
    simp only [List.getElem_toArray, List.getElem_cons_zero, List.getElem_cons_succ, Act.put, List.setIfInBounds_toArray, List.set_cons_zero, List.set_cons_succ]
    refine wpAnyH_ready (rs := [2]) (by kernel_rfl) (by simp) ?_
    refine AllReadyH.cons rfl (fun K hK => ?_) AllReadyH.nil
    simp only [List.getElem_toArray, List.getElem_cons_zero, List.getElem_cons_succ]
    go_simp
    refine (rsub5 s1 a1 l1 c1 z1 b1 m1 d1 y1 v s2 a2 l2 c2 z2 b2 m2 d2 y2 (fl : Rat) _ h1 h2 HS.out.1 HS.out.2.1).mono ?_
    rintro e x3 ⟨s4, a4, l4, c4, z4, b4, m4, d4, y4, rfl, h4, hb⟩
    replace V0 := Va.after hb V0
    replace V1 := Va.after hb V1
    replace Vb := Va.after hb Vb
    replace Va_ := Va.after hb Va_
    replace h1 := Rr.after hb h1
    replace h2 := Rr.after hb h2
    replace h3 := Rr.after hb h3
    replace B0 := step B0 hb
    clear hb
    try go_wp2_with fail
    refine hK.out _ _ ⟨V0.d0, V0.d1, V0.d2, Vb.d0, Vb.d1, Vb.d2, Va_.d0, Va_.d1, Va_.d2⟩ (fun hHeld => ?_)
    clear hK K
    refine wpAnyH_ready (rs := [5]) (by kernel_rfl) (by simp) ?_
    refine AllReadyH.cons rfl (fun K hK => ?_) AllReadyH.nil
    simp only [List.getElem_toArray, List.getElem_cons_zero, List.getElem_cons_succ]
    go_simp
    refine (rsub5 s3 a3 l3 c3 z3 b3 m3 d3 y3 (ce : Rat) s1 a1 l1 c1 z1 b1 m1 d1 y1 v _ h3 h1 HS.out.2.2 HS.out.1).mono ?_
    rintro e x4 ⟨s5, a5, l5, c5, z5, b5, m5, d5, y5, rfl, h5, hb⟩
    replace V0 := Va.after hb V0
    replace V1 := Va.after hb V1
    replace Vb := Va.after hb Vb
    replace Va_ := Va.after hb Va_
    replace h1 := Rr.after hb h1
    replace h2 := Rr.after hb h2
    replace h3 := Rr.after hb h3
    replace h4 := Rr.after hb h4
    replace B0 := step B0 hb
    clear hb
    try go_wp2_with fail
    refine hK.out _ _ ⟨V0.d0, V0.d1, V0.d2, Vb.d0, Vb.d1, Vb.d2, Va_.d0, Va_.d1, Va_.d2⟩ (fun hHeld => ?_)
    clear hK K
    refine wpAnyH_ready (rs := [6]) (by kernel_rfl) (by simp) ?_
    refine AllReadyH.cons rfl (fun K hK => ?_) AllReadyH.nil
    simp only [List.getElem_toArray, List.getElem_cons_zero, List.getElem_cons_succ]
    go_simp
    refine (rcompare7 s4 a4 l4 c4 z4 b4 m4 d4 y4 (v - (fl : Rat)) s5 a5 l5 c5 z5 b5 m5 d5 y5 ((ce : Rat) - v) _ h4 h5 HU.out.1 HU.out.2).mono ?_
    rintro e x5 ⟨rfl, hb⟩
    replace V0 := Va.after hb V0
    replace V1 := Va.after hb V1
    replace Vb := Va.after hb Vb
    replace Va_ := Va.after hb Va_
    replace h1 := Rr.after hb h1
    replace h2 := Rr.after hb h2
    replace h3 := Rr.after hb h3
    replace h4 := Rr.after hb h4
    replace h5 := Rr.after hb h5
    replace B0 := step B0 hb
    clear hb
    obtain ⟨nr, hnr⟩ : ∃ nr, qcmp (v - (fl : Rat)) ((ce : Rat) - v) = nr := ⟨_, rfl⟩
    have hcv := cmp3_vals7 ((v - (fl : Rat)).num * (((ce : Rat) - v).den : Int)) (((ce : Rat) - v).num * ((v - (fl : Rat)).den : Int))
    have HV : Hid (nr = -1 ∨ nr = 0 ∨ nr = 1) := by rw [← hnr]; exact hcv
    clear hcv
    rw [hnr] at HC ⊢
    clear hnr
    try go_wp2_with fail
    refine hK.out _ _ ⟨V0.d0, V0.d1, V0.d2, Vb.d0, Vb.d1, Vb.d2, Va_.d0, Va_.d1, Va_.d2⟩ (fun hHeld => ?_)
    clear hK K
    refine wpAnyH_take (i := 7) (v := ?_) rfl (by kernel_rfl) (by kernel_rfl) (by kernel_rfl) (fun _ _ _ h => h) (Or.inl ⟨by rfl, ?_⟩) hHeld ?_
    rotate_left
    · (intro W hSw; (try dsimp only at hSw); go_simp; all_goals (with_reducible rfl))
    simp only [List.getElem_toArray, List.getElem_cons_zero, List.getElem_cons_succ, Act.put, List.setIfInBounds_toArray, List.set_cons_zero, List.set_cons_succ]
    refine wpAnyH_done (by kernel_rfl) ?_ _
    refine NoPanic.normal ?_
    clear hHeld
    clear h4 h5
    have HVQ : Hid ((q = 1 ∨ q = 2) ∨ (3 ≤ q ∧ q ≤ 5)) := by show _ ∨ _; have := HQ.out; omega
    rcases HVQ.out with (hq | hq) | hq
    ·
      subst hq
      have HI : i = fl := HC.out.1 rfl
      clear HC HV HVQ HQ
      have c_V1 := V1.d0
      have f0_V1 := V1.frozen 0
      have d_V1 := V1.d1
      have f1_V1 := V1.frozen 1
      have e_V1 := V1.d2
      have f2_V1 := V1.frozen 2
      have l_V1 := V1.lt
      have m_V1 := Nat.le_of_lt l_V1
      have c_Vb := Vb.d0
      have f0_Vb := Vb.frozen 0
      have d_Vb := Vb.d1
      have f1_Vb := Vb.frozen 1
      have e_Vb := Vb.d2
      have f2_Vb := Vb.frozen 2
      have l_Vb := Vb.lt
      have m_Vb := Nat.le_of_lt l_Vb
      go_wp2_with fail
      refine bodyPost_ret (results_ra rfl rfl (V1.set3 _ _ _)) rfl ?_
      exact ⟨s2, a2, l2, c2, z2, b2, m2, d2, y2, rfl, by rw [HI]; exact h2.far V1 (noInt3 _ _ _ _ _ _ _) (fa3 _ _ _ _ _), belo3 B0 (by omega) _ _ _⟩
    ·
      subst hq
      have HI : i = ce := HC.out.2.1 rfl
      clear HC HV HVQ HQ
      have c_V1 := V1.d0
      have f0_V1 := V1.frozen 0
      have d_V1 := V1.d1
      have f1_V1 := V1.frozen 1
      have e_V1 := V1.d2
      have f2_V1 := V1.frozen 2
      have l_V1 := V1.lt
      have m_V1 := Nat.le_of_lt l_V1
      have c_Va_ := Va_.d0
      have f0_Va_ := Va_.frozen 0
      have d_Va_ := Va_.d1
      have f1_Va_ := Va_.frozen 1
      have e_Va_ := Va_.d2
      have f2_Va_ := Va_.frozen 2
      have l_Va_ := Va_.lt
      have m_Va_ := Nat.le_of_lt l_Va_
      go_wp2_with fail
      refine bodyPost_ret (results_ra rfl rfl (V1.set3 _ _ _)) rfl ?_
      exact ⟨s3, a3, l3, c3, z3, b3, m3, d3, y3, rfl, by rw [HI]; exact h3.far V1 (noInt3 _ _ _ _ _ _ _) (fa3 _ _ _ _ _), belo3 B0 (by omega) _ _ _⟩
    · have n1 : (q == 1) = false := by simp; omega
      have n2 : (q == 2) = false := by simp; omega
      have n3 : ¬ q = 1 := by omega
      have n4 : ¬ q = 2 := by omega
      rcases HV.out with e | e | e
      ·
        subst e
        have HI : i = fl := HC.out.2.2.1 hq.1 rfl
        clear HC HV HVQ HQ
        have c_V1 := V1.d0
        have f0_V1 := V1.frozen 0
        have d_V1 := V1.d1
        have f1_V1 := V1.frozen 1
        have e_V1 := V1.d2
        have f2_V1 := V1.frozen 2
        have l_V1 := V1.lt
        have m_V1 := Nat.le_of_lt l_V1
        have c_Vb := Vb.d0
        have f0_Vb := Vb.frozen 0
        have d_Vb := Vb.d1
        have f1_Vb := Vb.frozen 1
        have e_Vb := Vb.d2
        have f2_Vb := Vb.frozen 2
        have l_Vb := Vb.lt
        have m_Vb := Nat.le_of_lt l_Vb
        go_wp2_with fail
        refine bodyPost_ret (results_ra rfl rfl (V1.set3 _ _ _)) rfl ?_
        exact ⟨s2, a2, l2, c2, z2, b2, m2, d2, y2, rfl, by rw [HI]; exact h2.far V1 (noInt3 _ _ _ _ _ _ _) (fa3 _ _ _ _ _), belo3 B0 (by omega) _ _ _⟩
      · subst e
        obtain rfl | rfl | rfl : q = 3 ∨ q = 4 ∨ q = 5 := by omega
        ·
          have HI : i = ce := HC.out.2.2.2.2.1 rfl rfl
          clear HC HV HVQ HQ
          have c_V1 := V1.d0
          have f0_V1 := V1.frozen 0
          have d_V1 := V1.d1
          have f1_V1 := V1.frozen 1
          have e_V1 := V1.d2
          have f2_V1 := V1.frozen 2
          have l_V1 := V1.lt
          have m_V1 := Nat.le_of_lt l_V1
          have c_Va_ := Va_.d0
          have f0_Va_ := Va_.frozen 0
          have d_Va_ := Va_.d1
          have f1_Va_ := Va_.frozen 1
          have e_Va_ := Va_.d2
          have f2_Va_ := Va_.frozen 2
          have l_Va_ := Va_.lt
          have m_Va_ := Nat.le_of_lt l_Va_
          go_wp2_with fail
          refine bodyPost_ret (results_ra rfl rfl (V1.set3 _ _ _)) rfl ?_
          exact ⟨s3, a3, l3, c3, z3, b3, m3, d3, y3, rfl, by rw [HI]; exact h3.far V1 (noInt3 _ _ _ _ _ _ _) (fa3 _ _ _ _ _), belo3 B0 (by omega) _ _ _⟩
        ·
          have HI : i = fl := HC.out.2.2.2.2.2.1 rfl rfl
          clear HC HV HVQ HQ
          have c_V1 := V1.d0
          have f0_V1 := V1.frozen 0
          have d_V1 := V1.d1
          have f1_V1 := V1.frozen 1
          have e_V1 := V1.d2
          have f2_V1 := V1.frozen 2
          have l_V1 := V1.lt
          have m_V1 := Nat.le_of_lt l_V1
          have c_Vb := Vb.d0
          have f0_Vb := Vb.frozen 0
          have d_Vb := Vb.d1
          have f1_Vb := Vb.frozen 1
          have e_Vb := Vb.d2
          have f2_Vb := Vb.frozen 2
          have l_Vb := Vb.lt
          have m_Vb := Nat.le_of_lt l_Vb
          go_wp2_with fail
          refine bodyPost_ret (results_ra rfl rfl (V1.set3 _ _ _)) rfl ?_
          exact ⟨s2, a2, l2, c2, z2, b2, m2, d2, y2, rfl, by rw [HI]; exact h2.far V1 (noInt3 _ _ _ _ _ _ _) (fa3 _ _ _ _ _), belo3 B0 (by omega) _ _ _⟩
        · have hz2 : num z2 % 2 = fl % 2 := by
            have h9 := h2.2.2.2.2.2.1
            rw [Rat.num_intCast] at h9
            cases s2 <;> simp only [iv_t, iv_f] at h9 <;> omega
          by_cases hev : fl % 2 = 0
          ·
            have HI : i = fl := HC.out.2.2.2.2.2.2.1 rfl rfl hev
            have HEV : Hid (decide (num z2 % 2 = 0) = true) := by show _ = _; rw [hz2, hev]; rfl
            clear HC HV HVQ HQ hev hz2
            have c_V1 := V1.d0
            have f0_V1 := V1.frozen 0
            have d_V1 := V1.d1
            have f1_V1 := V1.frozen 1
            have e_V1 := V1.d2
            have f2_V1 := V1.frozen 2
            have l_V1 := V1.lt
            have m_V1 := Nat.le_of_lt l_V1
            have c_Vb := Vb.d0
            have f0_Vb := Vb.frozen 0
            have d_Vb := Vb.d1
            have f1_Vb := Vb.frozen 1
            have e_Vb := Vb.d2
            have f2_Vb := Vb.frozen 2
            have l_Vb := Vb.lt
            have m_Vb := Nat.le_of_lt l_Vb
            go_wp2_with fail
            refine (reven7 s2 a2 l2 c2 z2 b2 m2 d2 y2 (fl : Rat) x5 h2).mono ?_
            rintro e x6 ⟨rfl, hb⟩
            replace V0 := Va.after hb V0
            replace V1 := Va.after hb V1
            replace Vb := Va.after hb Vb
            replace Va_ := Va.after hb Va_
            replace h1 := Rr.after hb h1
            replace h2 := Rr.after hb h2
            replace h3 := Rr.after hb h3
            replace B0 := step B0 hb
            clear hb
            rw [HEV.out]
            clear c_V1 f0_V1 d_V1 f1_V1 e_V1 f2_V1 l_V1 m_V1 c_Vb f0_Vb d_Vb f1_Vb e_Vb f2_Vb l_Vb m_Vb
            have c_V1 := V1.d0
            have f0_V1 := V1.frozen 0
            have d_V1 := V1.d1
            have f1_V1 := V1.frozen 1
            have e_V1 := V1.d2
            have f2_V1 := V1.frozen 2
            have l_V1 := V1.lt
            have m_V1 := Nat.le_of_lt l_V1
            have c_Vb := Vb.d0
            have f0_Vb := Vb.frozen 0
            have d_Vb := Vb.d1
            have f1_Vb := Vb.frozen 1
            have e_Vb := Vb.d2
            have f2_Vb := Vb.frozen 2
            have l_Vb := Vb.lt
            have m_Vb := Nat.le_of_lt l_Vb
            go_wp2_with fail
            refine bodyPost_ret (results_ra rfl rfl (V1.set3 _ _ _)) rfl ?_
            exact ⟨s2, a2, l2, c2, z2, b2, m2, d2, y2, rfl, by rw [HI]; exact h2.far V1 (noInt3 _ _ _ _ _ _ _) (fa3 _ _ _ _ _), belo3 B0 (by omega) _ _ _⟩
          ·
            have HI : i = ce := HC.out.2.2.2.2.2.2.2 rfl rfl hev
            have HEV : Hid (decide (num z2 % 2 = 0) = false) := by show _ = _; rw [hz2]; simpa using hev
            clear HC HV HVQ HQ hev hz2
            have c_V1 := V1.d0
            have f0_V1 := V1.frozen 0
            have d_V1 := V1.d1
            have f1_V1 := V1.frozen 1
            have e_V1 := V1.d2
            have f2_V1 := V1.frozen 2
            have l_V1 := V1.lt
            have m_V1 := Nat.le_of_lt l_V1
            have c_Va_ := Va_.d0
            have f0_Va_ := Va_.frozen 0
            have d_Va_ := Va_.d1
            have f1_Va_ := Va_.frozen 1
            have e_Va_ := Va_.d2
            have f2_Va_ := Va_.frozen 2
            have l_Va_ := Va_.lt
            have m_Va_ := Nat.le_of_lt l_Va_
            have c_Vb := Vb.d0
            have f0_Vb := Vb.frozen 0
            have d_Vb := Vb.d1
            have f1_Vb := Vb.frozen 1
            have e_Vb := Vb.d2
            have f2_Vb := Vb.frozen 2
            have l_Vb := Vb.lt
            have m_Vb := Nat.le_of_lt l_Vb
            go_wp2_with fail
            refine (reven7 s2 a2 l2 c2 z2 b2 m2 d2 y2 (fl : Rat) x5 h2).mono ?_
            rintro e x6 ⟨rfl, hb⟩
            replace V0 := Va.after hb V0
            replace V1 := Va.after hb V1
            replace Vb := Va.after hb Vb
            replace Va_ := Va.after hb Va_
            replace h1 := Rr.after hb h1
            replace h2 := Rr.after hb h2
            replace h3 := Rr.after hb h3
            replace B0 := step B0 hb
            clear hb
            rw [HEV.out]
            clear c_V1 f0_V1 d_V1 f1_V1 e_V1 f2_V1 l_V1 m_V1 c_Va_ f0_Va_ d_Va_ f1_Va_ e_Va_ f2_Va_ l_Va_ m_Va_ c_Vb f0_Vb d_Vb f1_Vb e_Vb f2_Vb l_Vb m_Vb
            have c_V1 := V1.d0
            have f0_V1 := V1.frozen 0
            have d_V1 := V1.d1
            have f1_V1 := V1.frozen 1
            have e_V1 := V1.d2
            have f2_V1 := V1.frozen 2
            have l_V1 := V1.lt
            have m_V1 := Nat.le_of_lt l_V1
            have c_Va_ := Va_.d0
            have f0_Va_ := Va_.frozen 0
            have d_Va_ := Va_.d1
            have f1_Va_ := Va_.frozen 1
            have e_Va_ := Va_.d2
            have f2_Va_ := Va_.frozen 2
            have l_Va_ := Va_.lt
            have m_Va_ := Nat.le_of_lt l_Va_
            go_wp2_with fail
            refine bodyPost_ret (results_ra rfl rfl (V1.set3 _ _ _)) rfl ?_
            exact ⟨s3, a3, l3, c3, z3, b3, m3, d3, y3, rfl, by rw [HI]; exact h3.far V1 (noInt3 _ _ _ _ _ _ _) (fa3 _ _ _ _ _), belo3 B0 (by omega) _ _ _⟩
      ·
        subst e
        have HI : i = ce := HC.out.2.2.2.1 hq.1 rfl
        clear HC HV HVQ HQ
        have c_V1 := V1.d0
        have f0_V1 := V1.frozen 0
        have d_V1 := V1.d1
        have f1_V1 := V1.frozen 1
        have e_V1 := V1.d2
        have f2_V1 := V1.frozen 2
        have l_V1 := V1.lt
        have m_V1 := Nat.le_of_lt l_V1
        have c_Va_ := Va_.d0
        have f0_Va_ := Va_.frozen 0
        have d_Va_ := Va_.d1
        have f1_Va_ := Va_.frozen 1
        have e_Va_ := Va_.d2
        have f2_Va_ := Va_.frozen 2
        have l_Va_ := Va_.lt
        have m_Va_ := Nat.le_of_lt l_Va_
        go_wp2_with fail
        refine bodyPost_ret (results_ra rfl rfl (V1.set3 _ _ _)) rfl ?_
        exact ⟨s3, a3, l3, c3, z3, b3, m3, d3, y3, rfl, by rw [HI]; exact h3.far V1 (noInt3 _ _ _ _ _ _ _) (fa3 _ _ _ _ _), belo3 B0 (by omega) _ _ _⟩

end Go.Proofs.YtegfklapgbggfaaGreat
