/-
  rat.Whole, Sign, Num, Neg, Compare, Plain.
-/
import Derived.Test.YtblafbbnplfpjaaGreatDoorRt3
import Derived.Test.YtblafbbnplfpjaaGreatDoorBsH
namespace Go.Proofs.YtblafbbnplfpjaaGreatDoor
open Go.RowKit Go.Shelf
set_option linter.unusedVariables false

/-- A list of limbs in a block of its own. -/
def Ow (w : World) (g : Nat) (cs : List Int) : Prop := Own w g cs
theorem Ow.drw {w : World} {g : Nat} {cs : List Int} (h : Ow w g cs) : Ow w.drew g cs := h
theorem Ow.lt {w : World} {g : Nat} {cs : List Int} (h : Ow w g cs) : g < w.heap.size := Own.lt h
theorem Ow.after {w w' : World} (b : Below w.heap.size w w') {g : Nat} {cs : List Int} (h : Ow w g cs) : Ow w' g cs := Own.below h b (Own.lt h)
theorem Ow.far {w : World} {g : Nat} {zs : List Int} (h : Ow w g zs) {b : Nat} {t : TypeId} {cs : Array Value} (V : Va w b t cs) (hn : NoInt cs) {w' : World} (k : ∀ c, c ≠ b → w'.heap[c]? = w.heap[c]?) (hs : cs.size ≠ 0 := by simp) : Ow w' g zs := by
  have hne : g ≠ b := by
    rintro rfl
    have e : (w.heap[g]? : Option Obj) = some (.cells (row zs).toArray 124 (0, 0)) := h
    have e2 : w.heap[g]? = some (.cells cs t (0, 0)) := V
    rw [e] at e2
    have e3 : (row zs).toArray = cs := by injection e2 with e2; injection e2
    cases zs with
    | nil => rw [← e3] at hs; exact hs rfl
    | cons z r => exact hn 0 z (by rw [← e3]; rfl)
  unfold Ow Own at *
  rw [k g hne]; exact h
theorem rt_fits {x y : Int} (x0 : 0 ≤ x) (y0 : 0 ≤ y) {i j n : Nat} (hx : x < pw i) (hy : y < pw j) (h : i + j ≤ n) : x * y < pw n := by
  refine Int.lt_of_lt_of_le (b := pw (i + j)) ?_ (pw_mono h)
  rw [pw_add]
  have h1 := Int.mul_le_mul_of_nonneg_left (Int.le_of_lt hy) x0
  have h2 := Int.mul_lt_mul_of_pos_right hx (show 0 < pw j by omega)
  omega
theorem Short.mul {u v : Rat} (h1 : Short u) (h2 : Short v) : ((u.num * (v.den : Int)).natAbs : Int) < pw 2048 := by
  rw [Int.natAbs_mul, Int.natCast_mul]
  exact rt_fits (by omega) (by omega) h1.1 (show ((Int.natAbs (v.den : Int) : Nat) : Int) < pw 1024 from h2.2) (by omega)
theorem Short.mul4 {u v : Rat} (h1 : Short u) (h2 : Short v) : ((u.num * (v.den : Int)).natAbs : Int) < pw 4096 := Int.lt_of_lt_of_le (h1.mul h2) (pw_mono (by omega))
/-- The order of two numbers. -/
def qcmp (x y : Rat) : Int := cmp3 (x.num * y.den) (y.num * x.den)
theorem qcmp_lt {x y : Rat} (h : x < y) : qcmp x y = -1 := cmp3_lt (by rw [Rat.lt_iff] at h; exact h)
theorem qcmp_gt {x y : Rat} (h : y < x) : qcmp x y = 1 := cmp3_gt (by rw [Rat.lt_iff] at h; exact h)
theorem qcmp_eq (x : Rat) : qcmp x x = 0 := by unfold qcmp cmp3; simp
theorem sign_lt (x : Int) : decide (Int.sign x < 0) = decide (x < 0) := by
  rcases Int.lt_trichotomy x 0 with h | h | h
  · rw [Int.sign_eq_neg_one_of_neg h]; simp [h]
  · subst h; rfl
  · rw [Int.sign_eq_one_of_pos h]
    have : ¬ x < 0 := by omega
    simp [this]

theorem Short.neg {v : Rat} (h : Short v) : Short (-v) := by unfold Short at *; rw [Rat.neg_num, Rat.neg_den, Int.natAbs_neg]; exact h

set_option maxHeartbeats 4000000 in
theorem qcompare_any (s1 : Bool) (a1 : Option Addr) (l1 c1 : Nat) (z1 : List Int) (b1 : Option Addr) (m1 d1 : Nat) (y1 : List Int) (v1 : Rat) (s2 : Bool) (a2 : Option Addr) (l2 c2 : Nat) (z2 : List Int) (b2 : Option Addr) (m2 d2 : Nat) (y2 : List Int) (v2 : Rat) (w : World) (h1 : Rt w s1 a1 l1 c1 z1 b1 m1 d1 y1 v1) (h2 : Rt w s2 a2 l2 c2 z2 b2 m2 d2 y2 v2) :
    Calls Tryz.prog 61 #[.agg #[.bool s1, .slice a1 l1 c1, .slice b1 m1 d1], .agg #[.bool s2, .slice a2 l2 c2, .slice b2 m2 d2]] w fun e w' => e = .returned (.int .i64 (qcmp v1 v2)) ∧ Below w.heap.size w w' := by
  have F1 : Hid (((v1.num * (v2.den : Int)).natAbs : Int) < pw 4096) := h1.2.2.2.2.mul4 h2.2.2.2.2
  have F2 : Hid (((v2.num * (v1.den : Int)).natAbs : Int) < pw 4096) := h2.2.2.2.2.mul4 h1.2.2.2.2
  have B0 : Below w.heap.size w w := Below.refl _ _
  go_enter Tryz.func61, Tryz.ntmps61
  go_wp2_with fail
  refine ent2 w _ _ _ _ (Q := fun W => Code.wp Tryz.prog _ _ _ W) ?_
  intro x1 hb hs_x1 V0 V1
  replace h1 := Rt.after hb h1
  replace h2 := Rt.after hb h2
  replace B0 := step B0 hb
  clear hb hs_x1
  refine wp_region_noPanic ?_
  replace V0 : Va x1.drew _ _ _ := V0
  replace V1 : Va x1.drew _ _ _ := V1
  replace h1 := h1.drw
  replace h2 := h2.drw
  replace B0 := Below.drew B0
  refine wp_region_held_drew (S := (fun W => W.cell? ⟨w.heap.size, 0, none⟩ = some (.bool s1) ∧ W.cell? ⟨w.heap.size, 1, none⟩ = some (.slice a1 l1 c1) ∧ W.cell? ⟨w.heap.size, 2, none⟩ = some (.slice b1 m1 d1) ∧ W.cell? ⟨w.heap.size + 1, 0, none⟩ = some (.bool s2) ∧ W.cell? ⟨w.heap.size + 1, 1, none⟩ = some (.slice a2 l2 c2) ∧ W.cell? ⟨w.heap.size + 1, 2, none⟩ = some (.slice b2 m2 d2))) (by kernel_rfl) ⟨V0.d0, V0.d1, V0.d2, V1.d0, V1.d1, V1.d2⟩ (fun hHeld => ?_)
  obtain ⟨x2, hxd⟩ : ∃ xd, xd = x1.drew := ⟨_, rfl⟩
  rw [← hxd] at V0 V1 h1 h2 B0 hHeld ⊢
  clear hxd
  refine wpAnyH_take (i := 0) (v := ?_) rfl (by kernel_rfl) (by kernel_rfl) (by kernel_rfl) (fun _ _ _ h => h) (Or.inl ⟨by rfl, ?_⟩) hHeld ?_
  rotate_left
  · (intro W hSw; (try dsimp only at hSw); go_simp; all_goals (with_reducible rfl))
  simp only [List.getElem_toArray, List.getElem_cons_zero, Act.put, List.setIfInBounds_toArray, List.set_cons_zero, List.set_cons_succ]
  refine wpAnyH_take (i := 1) (v := ?_) rfl (by kernel_rfl) (by kernel_rfl) (by kernel_rfl) (fun _ _ _ h => h) (Or.inl ⟨by rfl, ?_⟩) hHeld ?_
  rotate_left
  · (intro W hSw; (try dsimp only at hSw); go_simp; all_goals (with_reducible rfl))
  simp only [List.getElem_toArray, List.getElem_cons_zero, List.getElem_cons_succ, Act.put, List.setIfInBounds_toArray, List.set_cons_zero, List.set_cons_succ]
  refine wpAnyH_take (i := 2) (v := ?_) rfl (by kernel_rfl) (by kernel_rfl) (by kernel_rfl) (fun _ _ _ h => h) (Or.inl ⟨by rfl, ?_⟩) hHeld ?_
  rotate_left
  · (intro W hSw; (try dsimp only at hSw); go_simp; all_goals (with_reducible rfl))
  simp only [List.getElem_toArray, List.getElem_cons_zero, List.getElem_cons_succ, Act.put, List.setIfInBounds_toArray, List.set_cons_zero, List.set_cons_succ]
  refine wpAnyH_take (i := 5) (v := ?_) rfl (by kernel_rfl) (by kernel_rfl) (by kernel_rfl) (fun _ _ _ h => h) (Or.inl ⟨by rfl, ?_⟩) hHeld ?_
  rotate_left
  · (intro W hSw; (try dsimp only at hSw); go_simp; all_goals (with_reducible rfl))
  simp only [List.getElem_toArray, List.getElem_cons_zero, List.getElem_cons_succ, Act.put, List.setIfInBounds_toArray, List.set_cons_zero, List.set_cons_succ]
  refine wpAnyH_take (i := 6) (v := ?_) rfl (by kernel_rfl) (by kernel_rfl) (by kernel_rfl) (fun _ _ _ h => h) (Or.inl ⟨by rfl, ?_⟩) hHeld ?_
  rotate_left
  · (intro W hSw; (try dsimp only at hSw); go_simp; all_goals (with_reducible rfl))
  simp only [List.getElem_toArray, List.getElem_cons_zero, List.getElem_cons_succ, Act.put, List.setIfInBounds_toArray, List.set_cons_zero, List.set_cons_succ]
  refine wpAnyH_take (i := 7) (v := ?_) rfl (by kernel_rfl) (by kernel_rfl) (by kernel_rfl) (fun _ _ _ h => h) (Or.inl ⟨by rfl, ?_⟩) hHeld ?_
  rotate_left
  · (intro W hSw; (try dsimp only at hSw); go_simp; all_goals (with_reducible rfl))
  simp only [List.getElem_toArray, List.getElem_cons_zero, List.getElem_cons_succ, Act.put, List.setIfInBounds_toArray, List.set_cons_zero, List.set_cons_succ]
  refine wpAnyH_ready (rs := [3]) (by kernel_rfl) (by simp) ?_
  refine AllReadyH.cons rfl (fun K hK => ?_) AllReadyH.nil
  simp only [List.getElem_toArray, List.getElem_cons_zero, List.getElem_cons_succ]
  go_simp
  refine (rden_any s2 a2 l2 c2 b2 m2 d2 y2 _ h2.2.1).mono ?_
  rintro e x3 ⟨b3, m3, d3, y3, rfl, h3, e3, hb⟩
  replace V0 := Va.after hb V0
  replace V1 := Va.after hb V1
  replace h1 := Rt.after hb h1
  replace h2 := Rt.after hb h2
  replace B0 := step B0 hb
  clear hb
  replace e3 := e3.trans h2.2.2.2.1
  try go_wp2_with fail
  refine hK.out _ _ ⟨V0.d0, V0.d1, V0.d2, V1.d0, V1.d1, V1.d2⟩ (fun hHeld => ?_)
  clear hK K
  refine wpAnyH_ready (rs := [4]) (by kernel_rfl) (by simp) ?_
  refine AllReadyH.cons rfl (fun K hK => ?_) AllReadyH.nil
  simp only [List.getElem_toArray, List.getElem_cons_zero, List.getElem_cons_succ]
  go_simp
  refine (times_ok s1 a1 b3 l1 c1 m3 d3 z1 y3 _ h1.1 h3 (by rw [h1.2.2.1, e3]; exact F1)).mono ?_
  rintro e x4 ⟨s5, a5, l5, c5, z5, rfl, h5, e5, hb⟩
  replace V0 := Va.after hb V0
  replace V1 := Va.after hb V1
  replace h1 := Rt.after hb h1
  replace h2 := Rt.after hb h2
  replace h3 := Nt.after hb h3
  replace B0 := step B0 hb
  clear hb
  rw [h1.2.2.1, e3] at e5
  clear F1 e3
  try go_wp2_with fail
  refine hK.out _ _ ⟨V0.d0, V0.d1, V0.d2, V1.d0, V1.d1, V1.d2⟩ (fun hHeld => ?_)
  clear hK K
  refine wpAnyH_ready (rs := [8]) (by kernel_rfl) (by simp) ?_
  refine AllReadyH.cons rfl (fun K hK => ?_) AllReadyH.nil
  simp only [List.getElem_toArray, List.getElem_cons_zero, List.getElem_cons_succ]
  go_simp
  refine (rden_any s1 a1 l1 c1 b1 m1 d1 y1 _ h1.2.1).mono ?_
  rintro e x5 ⟨b4, m4, d4, y4, rfl, h4, e4, hb⟩
  replace V0 := Va.after hb V0
  replace V1 := Va.after hb V1
  replace h1 := Rt.after hb h1
  replace h2 := Rt.after hb h2
  replace h3 := Nt.after hb h3
  replace h5 := It.after hb h5
  replace B0 := step B0 hb
  clear hb
  replace e4 := e4.trans h1.2.2.2.1
  try go_wp2_with fail
  refine hK.out _ _ ⟨V0.d0, V0.d1, V0.d2, V1.d0, V1.d1, V1.d2⟩ (fun hHeld => ?_)
  clear hK K
  refine wpAnyH_ready (rs := [9]) (by kernel_rfl) (by simp) ?_
  refine AllReadyH.cons rfl (fun K hK => ?_) AllReadyH.nil
  simp only [List.getElem_toArray, List.getElem_cons_zero, List.getElem_cons_succ]
  go_simp
  refine (times_ok s2 a2 b4 l2 c2 m4 d4 z2 y4 _ h2.1 h4 (by rw [h2.2.2.1, e4]; exact F2)).mono ?_
  rintro e x6 ⟨s6, a6, l6, c6, z6, rfl, h6, e6, hb⟩
  replace V0 := Va.after hb V0
  replace V1 := Va.after hb V1
  replace h1 := Rt.after hb h1
  replace h2 := Rt.after hb h2
  replace h3 := Nt.after hb h3
  replace h5 := It.after hb h5
  replace h4 := Nt.after hb h4
  replace B0 := step B0 hb
  clear hb
  rw [h2.2.2.1, e4] at e6
  clear F2 e4
  try go_wp2_with fail
  refine hK.out _ _ ⟨V0.d0, V0.d1, V0.d2, V1.d0, V1.d1, V1.d2⟩ (fun hHeld => ?_)
  clear hK K
  refine wpAnyH_ready (rs := [10]) (by kernel_rfl) (by simp) ?_
  refine AllReadyH.cons rfl (fun K hK => ?_) AllReadyH.nil
  simp only [List.getElem_toArray, List.getElem_cons_zero, List.getElem_cons_succ]
  go_simp
  refine (wcompare_any s5 s6 a5 a6 l5 c5 l6 c6 z5 z6 _ h5 h6).mono ?_
  rintro e x7 ⟨rfl, hb⟩
  replace V0 := Va.after hb V0
  replace V1 := Va.after hb V1
  replace h1 := Rt.after hb h1
  replace h2 := Rt.after hb h2
  replace h3 := Nt.after hb h3
  replace h5 := It.after hb h5
  replace h4 := Nt.after hb h4
  replace h6 := It.after hb h6
  replace B0 := step B0 hb
  clear hb
  rw [e5, e6]
  obtain ⟨q, hq⟩ : ∃ q, cmp3 (v1.num * ↑v2.den) (v2.num * ↑v1.den) = q := ⟨_, rfl⟩
  rw [hq]
  have HQ : Hid (qcmp v1 v2 = q) := hq
  clear hq e5 e6
  try go_wp2_with fail
  refine hK.out _ _ ⟨V0.d0, V0.d1, V0.d2, V1.d0, V1.d1, V1.d2⟩ (fun hHeld => ?_)
  clear hK K
  refine wpAnyH_take (i := 11) (v := ?_) rfl (by kernel_rfl) (by kernel_rfl) (by kernel_rfl) (fun _ _ _ h => h) (Or.inl ⟨by rfl, ?_⟩) hHeld ?_
  rotate_left
  · (intro W hSw; (try dsimp only at hSw); go_simp; all_goals (with_reducible rfl))
  simp only [List.getElem_toArray, List.getElem_cons_zero, List.getElem_cons_succ, Act.put, List.setIfInBounds_toArray, List.set_cons_zero, List.set_cons_succ]
  refine wpAnyH_done (by kernel_rfl) ?_ _
  refine NoPanic.normal ?_
  clear hHeld
  go_wp2_with fail
  go_ret
  rw [HQ.out]
  exact ⟨rfl, B0⟩

end Go.Proofs.YtblafbbnplfpjaaGreatDoor
