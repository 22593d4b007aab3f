/-
  rat.Whole, Sign, Num, Neg, Compare, Plain.
-/
import Derived.Test.YtblafbbnplfpjaaGreatDoorRt3
import Derived.Test.YtblafbbnplfpjaaGreatDoorMgAd
import Derived.Test.YtblafbbnplfpjaaGreatDoorMgAg
import Derived.Lib.LaidTab
import Derived.Lib.AppendIntMem
import Derived.Test.YtblafbbnplfpjaaGreatDoorMgAj
import Derived.Lib.SlicesS
namespace Go.Proofs.YtblafbbnplfpjaaGreatDoor
open Go.RowKit Go.Shelf
set_option linter.unusedVariables false

/-- A list of limbs in a block of its own. -/
def Ow (w : World) (g : Nat) (cs : List Int) : Prop := Own w g cs
theorem Ow.drw {w : World} {g : Nat} {cs : List Int} (h : Ow w g cs) : Ow w.drew g cs := h
theorem Ow.lt {w : World} {g : Nat} {cs : List Int} (h : Ow w g cs) : g < w.heap.size := Own.lt h
theorem Ow.after {w w' : World} (b : Below w.heap.size w w') {g : Nat} {cs : List Int} (h : Ow w g cs) : Ow w' g cs := Own.below h b (Own.lt h)
theorem Ow.far {w : World} {g : Nat} {zs : List Int} (h : Ow w g zs) {b : Nat} {t : TypeId} {cs : Array Value} (V : Va w b t cs) (hn : NoInt cs) {w' : World} (k : ∀ c, c ≠ b → w'.heap[c]? = w.heap[c]?) (hs : cs.size ≠ 0 := by simp) : Ow w' g zs := by
  have hne : g ≠ b := by
    rintro rfl
    have e : (w.heap[g]? : Option Obj) = some (.cells (row zs).toArray 124 (0, 0)) := h
    have e2 : w.heap[g]? = some (.cells cs t (0, 0)) := V
    rw [e] at e2
    have e3 : (row zs).toArray = cs := by injection e2 with e2; injection e2
    cases zs with
    | nil => rw [← e3] at hs; exact hs rfl
    | cons z r => exact hn 0 z (by rw [← e3]; rfl)
  unfold Ow Own at *
  rw [k g hne]; exact h
theorem rt_fits {x y : Int} (x0 : 0 ≤ x) (y0 : 0 ≤ y) {i j n : Nat} (hx : x < pw i) (hy : y < pw j) (h : i + j ≤ n) : x * y < pw n := by
  refine Int.lt_of_lt_of_le (b := pw (i + j)) ?_ (pw_mono h)
  rw [pw_add]
  have h1 := Int.mul_le_mul_of_nonneg_left (Int.le_of_lt hy) x0
  have h2 := Int.mul_lt_mul_of_pos_right hx (show 0 < pw j by omega)
  omega
theorem Short.mul {u v : Rat} (h1 : Short u) (h2 : Short v) : ((u.num * (v.den : Int)).natAbs : Int) < pw 2048 := by
  rw [Int.natAbs_mul, Int.natCast_mul]
  exact rt_fits (by omega) (by omega) h1.1 (show ((Int.natAbs (v.den : Int) : Nat) : Int) < pw 1024 from h2.2) (by omega)
theorem Short.mul4 {u v : Rat} (h1 : Short u) (h2 : Short v) : ((u.num * (v.den : Int)).natAbs : Int) < pw 4096 := Int.lt_of_lt_of_le (h1.mul h2) (pw_mono (by omega))
/-- The order of two numbers. -/
def qcmp (x y : Rat) : Int := cmp3 (x.num * y.den) (y.num * x.den)
theorem Short.neg {v : Rat} (h : Short v) : Short (-v) := by unfold Short at *; rw [Rat.neg_num, Rat.neg_den, Int.natAbs_neg]; exact h

set_option maxHeartbeats 4000000 in
theorem qcompare_any (s1 : Bool) (a1 : Option Addr) (l1 c1 : Nat) (z1 : List Int) (b1 : Option Addr) (m1 d1 : Nat) (y1 : List Int) (v1 : Rat) (s2 : Bool) (a2 : Option Addr) (l2 c2 : Nat) (z2 : List Int) (b2 : Option Addr) (m2 d2 : Nat) (y2 : List Int) (v2 : Rat) (w : World) (h1 : Rt w s1 a1 l1 c1 z1 b1 m1 d1 y1 v1) (h2 : Rt w s2 a2 l2 c2 z2 b2 m2 d2 y2 v2) :
    Calls Tryz.prog 61 #[.agg #[.bool s1, .slice a1 l1 c1, .slice b1 m1 d1], .agg #[.bool s2, .slice a2 l2 c2, .slice b2 m2 d2]] w fun e w' => e = .returned (.int .i64 (qcmp v1 v2)) ∧ Below w.heap.size w w' := by
  have F1 : Hid (((v1.num * (v2.den : Int)).natAbs : Int) < pw 4096) := h1.2.2.2.2.mul4 h2.2.2.2.2
  have F2 : Hid (((v2.num * (v1.den : Int)).natAbs : Int) < pw 4096) := h2.2.2.2.2.mul4 h1.2.2.2.2
  have B0 : Below w.heap.size w w := Below.refl _ _
  go_enter Tryz.func61, Tryz.ntmps61
  go_wp2_with fail
  refine ent2 w _ _ _ _ (Q := fun W => Code.wp Tryz.prog _ _ _ W) ?_
  intro x1 hb hs_x1 V0 V1
  replace h1 := Rt.after hb h1
  replace h2 := Rt.after hb h2
  replace B0 := step B0 hb
  clear hb hs_x1
  refine wp_region_noPanic ?_
  replace V0 : Va x1.drew _ _ _ := V0
  replace V1 : Va x1.drew _ _ _ := V1
  replace h1 := h1.drw
  replace h2 := h2.drw
  replace B0 := Below.drew B0
  refine wp_region_held_drew (S := (fun W => W.cell? ⟨w.heap.size, 0, none⟩ = some (.bool s1) ∧ W.cell? ⟨w.heap.size, 1, none⟩ = some (.slice a1 l1 c1) ∧ W.cell? ⟨w.heap.size, 2, none⟩ = some (.slice b1 m1 d1) ∧ W.cell? ⟨w.heap.size + 1, 0, none⟩ = some (.bool s2) ∧ W.cell? ⟨w.heap.size + 1, 1, none⟩ = some (.slice a2 l2 c2) ∧ W.cell? ⟨w.heap.size + 1, 2, none⟩ = some (.slice b2 m2 d2))) (by kernel_rfl) ⟨V0.d0, V0.d1, V0.d2, V1.d0, V1.d1, V1.d2⟩ (fun hHeld => ?_)
  obtain ⟨x2, hxd⟩ : ∃ xd, xd = x1.drew := ⟨_, rfl⟩
  rw [← hxd] at V0 V1 h1 h2 B0 hHeld ⊢
  clear hxd
  refine wpAnyH_take (i := 0) (v := ?_) rfl (by kernel_rfl) (by kernel_rfl) (by kernel_rfl) (fun _ _ _ h => h) (Or.inl ⟨by rfl, ?_⟩) hHeld ?_
  rotate_left
  · (intro W hSw; (try dsimp only at hSw); go_simp; all_goals (with_reducible rfl))
  simp only [List.getElem_toArray, List.getElem_cons_zero, Act.put, List.setIfInBounds_toArray, List.set_cons_zero, List.set_cons_succ]
  refine wpAnyH_take (i := 1) (v := ?_) rfl (by kernel_rfl) (by kernel_rfl) (by kernel_rfl) (fun _ _ _ h => h) (Or.inl ⟨by rfl, ?_⟩) hHeld ?_
  rotate_left
  · (intro W hSw; (try dsimp only at hSw); go_simp; all_goals (with_reducible rfl))
  simp only [List.getElem_toArray, List.getElem_cons_zero, List.getElem_cons_succ, Act.put, List.setIfInBounds_toArray, List.set_cons_zero, List.set_cons_succ]
  refine wpAnyH_take (i := 2) (v := ?_) rfl (by kernel_rfl) (by kernel_rfl) (by kernel_rfl) (fun _ _ _ h => h) (Or.inl ⟨by rfl, ?_⟩) hHeld ?_
  rotate_left
  · (intro W hSw; (try dsimp only at hSw); go_simp; all_goals (with_reducible rfl))
  simp only [List.getElem_toArray, List.getElem_cons_zero, List.getElem_cons_succ, Act.put, List.setIfInBounds_toArray, List.set_cons_zero, List.set_cons_succ]
  refine wpAnyH_take (i := 5) (v := ?_) rfl (by kernel_rfl) (by kernel_rfl) (by kernel_rfl) (fun _ _ _ h => h) (Or.inl ⟨by rfl, ?_⟩) hHeld ?_
  rotate_left
  · (intro W hSw; (try dsimp only at hSw); go_simp; all_goals (with_reducible rfl))
  simp only [List.getElem_toArray, List.getElem_cons_zero, List.getElem_cons_succ, Act.put, List.setIfInBounds_toArray, List.set_cons_zero, List.set_cons_succ]
  refine wpAnyH_take (i := 6) (v := ?_) rfl (by kernel_rfl) (by kernel_rfl) (by kernel_rfl) (fun _ _ _ h => h) (Or.inl ⟨by rfl, ?_⟩) hHeld ?_
  rotate_left
  · (intro W hSw; (try dsimp only at hSw); go_simp; all_goals (with_reducible rfl))
  simp only [List.getElem_toArray, List.getElem_cons_zero, List.getElem_cons_succ, Act.put, List.setIfInBounds_toArray, List.set_cons_zero, List.set_cons_succ]
  refine wpAnyH_take (i := 7) (v := ?_) rfl (by kernel_rfl) (by kernel_rfl) (by kernel_rfl) (fun _ _ _ h => h) (Or.inl ⟨by rfl, ?_⟩) hHeld ?_
  rotate_left
  · (intro W hSw; (try dsimp only at hSw); go_simp; all_goals (with_reducible rfl))
  simp only [List.getElem_toArray, List.getElem_cons_zero, List.getElem_cons_succ, Act.put, List.setIfInBounds_toArray, List.set_cons_zero, List.set_cons_succ]
  refine wpAnyH_ready (rs := [3]) (by kernel_rfl) (by simp) ?_
  refine AllReadyH.cons rfl (fun K hK => ?_) AllReadyH.nil
  simp only [List.getElem_toArray, List.getElem_cons_zero, List.getElem_cons_succ]
  go_simp
  refine (rden_any s2 a2 l2 c2 b2 m2 d2 y2 _ h2.2.1).mono ?_
  rintro e x3 ⟨b3, m3, d3, y3, rfl, h3, e3, hb⟩
  replace V0 := Va.after hb V0
  replace V1 := Va.after hb V1
  replace h1 := Rt.after hb h1
  replace h2 := Rt.after hb h2
  replace B0 := step B0 hb
  clear hb
  replace e3 := e3.trans h2.2.2.2.1
  try go_wp2_with fail
  refine hK.out _ _ ⟨V0.d0, V0.d1, V0.d2, V1.d0, V1.d1, V1.d2⟩ (fun hHeld => ?_)
  clear hK K
  refine wpAnyH_ready (rs := [4]) (by kernel_rfl) (by simp) ?_
  refine AllReadyH.cons rfl (fun K hK => ?_) AllReadyH.nil
  simp only [List.getElem_toArray, List.getElem_cons_zero, List.getElem_cons_succ]
  go_simp
  refine (times_ok s1 a1 b3 l1 c1 m3 d3 z1 y3 _ h1.1 h3 (by rw [h1.2.2.1, e3]; exact F1)).mono ?_
  rintro e x4 ⟨s5, a5, l5, c5, z5, rfl, h5, e5, hb⟩
  replace V0 := Va.after hb V0
  replace V1 := Va.after hb V1
  replace h1 := Rt.after hb h1
  replace h2 := Rt.after hb h2
  replace h3 := Nt.after hb h3
  replace B0 := step B0 hb
  clear hb
  rw [h1.2.2.1, e3] at e5
  clear F1 e3
  try go_wp2_with fail
  refine hK.out _ _ ⟨V0.d0, V0.d1, V0.d2, V1.d0, V1.d1, V1.d2⟩ (fun hHeld => ?_)
  clear hK K
  refine wpAnyH_ready (rs := [8]) (by kernel_rfl) (by simp) ?_
  refine AllReadyH.cons rfl (fun K hK => ?_) AllReadyH.nil
  simp only [List.getElem_toArray, List.getElem_cons_zero, List.getElem_cons_succ]
  go_simp
  refine (rden_any s1 a1 l1 c1 b1 m1 d1 y1 _ h1.2.1).mono ?_
  rintro e x5 ⟨b4, m4, d4, y4, rfl, h4, e4, hb⟩
  replace V0 := Va.after hb V0
  replace V1 := Va.after hb V1
  replace h1 := Rt.after hb h1
  replace h2 := Rt.after hb h2
  replace h3 := Nt.after hb h3
  replace h5 := It.after hb h5
  replace B0 := step B0 hb
  clear hb
  replace e4 := e4.trans h1.2.2.2.1
  try go_wp2_with fail
  refine hK.out _ _ ⟨V0.d0, V0.d1, V0.d2, V1.d0, V1.d1, V1.d2⟩ (fun hHeld => ?_)
  clear hK K
  refine wpAnyH_ready (rs := [9]) (by kernel_rfl) (by simp) ?_
  refine AllReadyH.cons rfl (fun K hK => ?_) AllReadyH.nil
  simp only [List.getElem_toArray, List.getElem_cons_zero, List.getElem_cons_succ]
  go_simp
  refine (times_ok s2 a2 b4 l2 c2 m4 d4 z2 y4 _ h2.1 h4 (by rw [h2.2.2.1, e4]; exact F2)).mono ?_
  rintro e x6 ⟨s6, a6, l6, c6, z6, rfl, h6, e6, hb⟩
  replace V0 := Va.after hb V0
  replace V1 := Va.after hb V1
  replace h1 := Rt.after hb h1
  replace h2 := Rt.after hb h2
  replace h3 := Nt.after hb h3
  replace h5 := It.after hb h5
  replace h4 := Nt.after hb h4
  replace B0 := step B0 hb
  clear hb
  rw [h2.2.2.1, e4] at e6
  clear F2 e4
  try go_wp2_with fail
  refine hK.out _ _ ⟨V0.d0, V0.d1, V0.d2, V1.d0, V1.d1, V1.d2⟩ (fun hHeld => ?_)
  clear hK K
  refine wpAnyH_ready (rs := [10]) (by kernel_rfl) (by simp) ?_
  refine AllReadyH.cons rfl (fun K hK => ?_) AllReadyH.nil
  simp only [List.getElem_toArray, List.getElem_cons_zero, List.getElem_cons_succ]
  go_simp
  refine (wcompare_any s5 s6 a5 a6 l5 c5 l6 c6 z5 z6 _ h5 h6).mono ?_
  rintro e x7 ⟨rfl, hb⟩
  replace V0 := Va.after hb V0
  replace V1 := Va.after hb V1
  replace h1 := Rt.after hb h1
  replace h2 := Rt.after hb h2
  replace h3 := Nt.after hb h3
  replace h5 := It.after hb h5
  replace h4 := Nt.after hb h4
  replace h6 := It.after hb h6
  replace B0 := step B0 hb
  clear hb
  rw [e5, e6]
  obtain ⟨q, hq⟩ : ∃ q, cmp3 (v1.num * ↑v2.den) (v2.num * ↑v1.den) = q := ⟨_, rfl⟩
  rw [hq]
  have HQ : Hid (qcmp v1 v2 = q) := hq
  clear hq e5 e6
  try go_wp2_with fail
  refine hK.out _ _ ⟨V0.d0, V0.d1, V0.d2, V1.d0, V1.d1, V1.d2⟩ (fun hHeld => ?_)
  clear hK K
  refine wpAnyH_take (i := 11) (v := ?_) rfl (by kernel_rfl) (by kernel_rfl) (by kernel_rfl) (fun _ _ _ h => h) (Or.inl ⟨by rfl, ?_⟩) hHeld ?_
  rotate_left
  · (intro W hSw; (try dsimp only at hSw); go_simp; all_goals (with_reducible rfl))
  simp only [List.getElem_toArray, List.getElem_cons_zero, List.getElem_cons_succ, Act.put, List.setIfInBounds_toArray, List.set_cons_zero, List.set_cons_succ]
  refine wpAnyH_done (by kernel_rfl) ?_ _
  refine NoPanic.normal ?_
  clear hHeld
  go_wp2_with fail
  go_ret
  rw [HQ.out]
  exact ⟨rfl, B0⟩

end Go.Proofs.YtblafbbnplfpjaaGreatDoor
namespace Go.Proofs.YtblafbbnplfpjaaGreatDoor
open Go.RowKit Go.Shelf
set_option linter.unusedVariables false

/-- The table of the powers of ten of decimal. -/
def Tn (w : World) : Prop := Go.Lib.TabIs Tryz.prog w "tollbook/decimal.tens" .i64 [1, 10, 100, 1000, 10000, 100000, 1000000, 10000000, 100000000, 1000000000]
theorem Tn.to {w w' : World} (h : Tn w) (hb : Below w.heap.size w w') : Tn w' := Go.Lib.tabBelow_of_tabIs h w' hb
theorem Tn.cell {w : World} (h : Tn w) (P : Nat) (hP : P ≤ 9) : w.cell? ⟨0, P, none⟩ = some (.int .i64 (10 ^ P)) := by
  have := Go.Lib.TabIs.cell (g := 0) h (by kernel_rfl) P (by simp; omega)
  rw [this]
  match P, hP with
  | 0, _ => rfl
  | 1, _ => rfl
  | 2, _ => rfl
  | 3, _ => rfl
  | 4, _ => rfl
  | 5, _ => rfl
  | 6, _ => rfl
  | 7, _ => rfl
  | 8, _ => rfl
  | 9, _ => rfl
theorem short64 {x y : Int} (h1 : -9223372036854775808 ≤ x) (h2 : x ≤ 9223372036854775807) (h3 : -9223372036854775808 ≤ y) (h4 : y ≤ 9223372036854775807) (h0 : y ≠ 0) : Short (Rat.divInt x y) := by
  have b1 : (9223372036854775808 : Int) < pw 1024 := Int.lt_of_lt_of_le (by decide : (9223372036854775808 : Int) < pw 1) (pw_mono (by omega))
  unfold Short
  rw [Rat.num_divInt, Rat.den_divInt, if_neg h0]
  have g1 : ((y.sign * x) / (y.gcd x : Nat)).natAbs ≤ x.natAbs := by
    have hd : ((y.gcd x : Nat) : Int) ∣ y.sign * x := Int.dvd_mul_of_dvd_right (Int.gcd_dvd_right ..)
    rw [Int.natAbs_ediv_of_dvd hd, Int.natAbs_mul, Int.natAbs_sign_of_ne_zero h0, Nat.one_mul]
    exact Nat.div_le_self _ _
  have g2 := Nat.div_le_self y.natAbs (y.gcd x)
  exact ⟨Int.lt_of_le_of_lt (by omega) b1, Int.lt_of_le_of_lt (by omega) b1⟩
theorem ten_bound {P : Nat} (hP : P ≤ 9) : 1 ≤ (10 : Int) ^ P ∧ (10 : Int) ^ P ≤ 1000000000 := by
  match P, hP with
  | 0, _ => decide
  | 1, _ => decide
  | 2, _ => decide
  | 3, _ => decide
  | 4, _ => decide
  | 5, _ => decide
  | 6, _ => decide
  | 7, _ => decide
  | 8, _ => decide
  | 9, _ => decide
set_option maxHeartbeats 4000000 in
theorem rat_ok (U : Int) (P : Nat) (h1 : -9223372036854775808 ≤ U) (h2 : U ≤ 9223372036854775807) (hc : Can U P) (w : World) (hT : Tn w) :
    Calls Tryz.prog 57 #[.agg #[.int .i64 U, .int .i64 P]] w fun e W' => ∃ s a l c zs b m d ds, e = .returned (.tuple #[.agg #[.bool s, .slice a l c, .slice b m d], .int .i64 0]) ∧ Rt W' s a l c zs b m d ds (Rat.divInt U (10 ^ P)) ∧ Below w.heap.size w W' := by
  have HC : Hid (CanI U P) := (canI_iff U P).2 hc
  have hP := hc.1
  clear hc
  obtain ⟨T, hTT⟩ : ∃ T : Int, (10 : Int) ^ P = T := ⟨_, rfl⟩
  have hTb := ten_bound hP
  have hTc : Hid (∀ W, Below w.heap.size w W → W.cell? ⟨0, P, none⟩ = some (.int .i64 T)) := fun W hb => by rw [← hTT]; exact (hT.to hb).cell P hP
  rw [hTT] at hTb ⊢
  have HS : Hid (Short (Rat.divInt U T)) := short64 h1 h2 (by omega) (by omega) (by omega)
  have hP10 : (P : Int) < 10 := by omega
  clear hTT
  have B0 : Below w.heap.size w w := Below.refl _ _
  go_enter Tryz.func57, Tryz.ntmps57
  go_wp2_with fail
  refine ent2 w _ _ _ _ (Q := fun W => Calls Tryz.prog _ _ W _) ?_
  intro x1 hb hs_x1 V0 V1
  replace B0 := step B0 hb
  clear hb hs_x1
  refine (check_ok U P HC.out _).mono ?_
  rintro e x2 ⟨rfl, hb⟩
  replace V0 := Va.after hb V0
  replace V1 := Va.after hb V1
  replace B0 := step B0 hb
  clear hb
  have c_V0 := V0.c0
  have f0_V0 := V0.frozen 0
  have d_V0 := V0.c1
  have f1_V0 := V0.frozen 1
  have l_V0 := V0.lt
  have m_V0 := Nat.le_of_lt l_V0
  go_wp2_with fail
  clear c_V0 f0_V0 d_V0 f1_V0 l_V0 m_V0
  refine wp_region_noPanic ?_
  replace V0 : Va x2.drew _ _ _ := V0
  replace V1 : Va x2.drew _ _ _ := V1
  replace B0 := Below.drew B0
  refine wp_region_held_drew (S := (fun W => W.cell? ⟨w.heap.size, 0, none⟩ = some (.int .i64 U) ∧ W.cell? ⟨w.heap.size, 1, none⟩ = some (.int .i64 P) ∧ W.cell? ⟨0, P, none⟩ = some (.int .i64 T))) (by kernel_rfl) ⟨V0.c0, V0.c1, (hTc.out _ B0)⟩ (fun hHeld => ?_)
  obtain ⟨x3, hxd⟩ : ∃ xd, xd = x2.drew := ⟨_, rfl⟩
  rw [← hxd] at V0 V1 B0 hHeld ⊢
  clear hxd
  refine wpAnyH_take (i := 0) (v := ?_) rfl (by kernel_rfl) (by kernel_rfl) (by kernel_rfl) (fun _ _ _ h => h) (Or.inl ⟨by rfl, ?_⟩) hHeld ?_
  rotate_left
  · (intro W hSw; (try dsimp only at hSw); go_simp; all_goals (with_reducible rfl))
  simp only [List.getElem_toArray, List.getElem_cons_zero, Act.put, List.setIfInBounds_toArray, List.set_cons_zero, List.set_cons_succ]
  refine wpAnyH_take (i := 1) (v := ?_) rfl (by kernel_rfl) (by kernel_rfl) (by kernel_rfl) (fun _ _ _ h => h) (Or.inl ⟨by rfl, ?_⟩) hHeld ?_
  rotate_left
  · (intro W hSw; (try dsimp only at hSw); go_simp; all_goals (with_reducible rfl))
  simp only [List.getElem_toArray, List.getElem_cons_zero, List.getElem_cons_succ, Act.put, List.setIfInBounds_toArray, List.set_cons_zero, List.set_cons_succ]
  refine wpAnyH_take (i := 2) (v := ?_) rfl (by kernel_rfl) (by kernel_rfl) (by kernel_rfl) (fun _ _ _ h => h) (Or.inl ⟨by rfl, ?_⟩) hHeld ?_
  rotate_left
  · (intro W hSw; (try dsimp only at hSw); go_simp; all_goals (with_reducible rfl))
  simp only [List.getElem_toArray, List.getElem_cons_zero, List.getElem_cons_succ, Act.put, List.setIfInBounds_toArray, List.set_cons_zero, List.set_cons_succ]
  refine wpAnyH_take (i := 3) (v := ?_) rfl (by kernel_rfl) (by kernel_rfl) (by kernel_rfl) (fun _ _ _ h => h) (Or.inl ⟨by rfl, ?_⟩) hHeld ?_
  rotate_left
  · (intro W hSw; (try dsimp only at hSw); go_simp; all_goals (with_reducible rfl))
  simp only [List.getElem_toArray, List.getElem_cons_zero, List.getElem_cons_succ, Act.put, List.setIfInBounds_toArray, List.set_cons_zero, List.set_cons_succ]
  refine wpAnyH_take (i := 4) (v := ?_) rfl (by kernel_rfl) (by kernel_rfl) (by kernel_rfl) (fun _ _ _ h => h) (Or.inl ⟨by rfl, ?_⟩) hHeld ?_
  rotate_left
  · (intro W hSw; (try dsimp only at hSw); go_simp; all_goals (with_reducible rfl))
  simp only [List.getElem_toArray, List.getElem_cons_zero, List.getElem_cons_succ, Act.put, List.setIfInBounds_toArray, List.set_cons_zero, List.set_cons_succ]
  refine wpAnyH_take (i := 5) (v := ?_) rfl (by kernel_rfl) (by kernel_rfl) (by kernel_rfl) (fun _ _ _ h => h) (Or.inl ⟨by rfl, ?_⟩) hHeld ?_
  rotate_left
  · (intro W hSw; (try dsimp only at hSw); go_simp; all_goals (with_reducible rfl))
  simp only [List.getElem_toArray, List.getElem_cons_zero, List.getElem_cons_succ, Act.put, List.setIfInBounds_toArray, List.set_cons_zero, List.set_cons_succ]
  refine wpAnyH_ready (rs := [6]) (by kernel_rfl) (by simp) ?_
  refine AllReadyH.cons rfl (fun K hK => ?_) AllReadyH.nil
  simp only [List.getElem_toArray, List.getElem_cons_zero, List.getElem_cons_succ]
  go_simp
  refine (qsmall_ok U T h1 h2 (by omega) (by omega) (by omega) _).mono ?_
  rintro e x4 ⟨er, s', a', l', c', z', b', m', d', y', v', rfl, h', hra, hb⟩
  replace V0 := Va.after hb V0
  replace V1 := Va.after hb V1
  replace B0 := step B0 hb
  clear hb
  obtain ⟨-, rfl, rfl⟩ := hra.out.resolve_right (fun h => h.1 HS.out)
  clear hra
  try go_wp2_with fail
  refine hK.out _ _ ⟨V0.c0, V0.c1, (hTc.out _ B0)⟩ (fun hHeld => ?_)
  clear hK K
  refine wpAnyH_take (i := 7) (v := ?_) rfl (by kernel_rfl) (by kernel_rfl) (by kernel_rfl) (fun _ _ _ h => h) (Or.inl ⟨by rfl, ?_⟩) hHeld ?_
  rotate_left
  · (intro W hSw; (try dsimp only at hSw); go_simp; all_goals (with_reducible rfl))
  simp only [List.getElem_toArray, List.getElem_cons_zero, List.getElem_cons_succ, Act.put, List.setIfInBounds_toArray, List.set_cons_zero, List.set_cons_succ]
  refine wpAnyH_take (i := 8) (v := ?_) rfl (by kernel_rfl) (by kernel_rfl) (by kernel_rfl) (fun _ _ _ h => h) (Or.inl ⟨by rfl, ?_⟩) hHeld ?_
  rotate_left
  · (intro W hSw; (try dsimp only at hSw); go_simp; all_goals (with_reducible rfl))
  simp only [List.getElem_toArray, List.getElem_cons_zero, List.getElem_cons_succ, Act.put, List.setIfInBounds_toArray, List.set_cons_zero, List.set_cons_succ]
  have c_V1 := V1.d0
  have f0_V1 := V1.frozen 0
  have d_V1 := V1.d1
  have f1_V1 := V1.frozen 1
  have e_V1 := V1.d2
  have f2_V1 := V1.frozen 2
  have l_V1 := V1.lt
  have m_V1 := Nat.le_of_lt l_V1
  refine wpAnyH_ready (rs := [9]) (by kernel_rfl) (by simp) ?_
  refine AllReadyH.cons rfl (fun K hK => ?_) AllReadyH.nil
  simp only [List.getElem_toArray, List.getElem_cons_zero, List.getElem_cons_succ]
  go_simp
  clear c_V1 f0_V1 d_V1 f1_V1 e_V1 f2_V1 l_V1 m_V1
  refine sto3 V1 (.bool s') (.slice a' l' c') (.slice b' m' d') (Q := fun W => K _ W) ?_
  intro x5 V' oth far
  replace V0 := oth _ _ _ (by first | omega | assumption | (simp; omega)) V0
  replace h' := h'.far V1 (noInt3 _ _ _ _ _ _ _) far.1
  replace B0 := far.2 _ _ (by first | omega | (simp; omega)) B0
  replace V1 := V'
  clear oth far
  refine hK.out _ _ ⟨V0.c0, V0.c1, (hTc.out _ B0)⟩ (fun hHeld => ?_)
  clear hK K
  refine wpAnyH_take (i := 10) (v := ?_) rfl (by kernel_rfl) (by kernel_rfl) (by kernel_rfl) (fun _ _ _ h => h) (Or.inl ⟨by rfl, ?_⟩) hHeld ?_
  rotate_left
  · (intro W hSw; (try dsimp only at hSw); go_simp; all_goals (with_reducible rfl))
  simp only [List.getElem_toArray, List.getElem_cons_zero, List.getElem_cons_succ, Act.put, List.setIfInBounds_toArray, List.set_cons_zero, List.set_cons_succ]
  refine wpAnyH_done (by kernel_rfl) ?_ _
  refine NoPanic.normal ?_
  clear hHeld
  go_wp2_with fail
  refine bodyPost_ret (results_rt rfl rfl V1) rfl ?_
  exact ⟨s', a', l', c', z', b', m', d', y', rfl, h', B0⟩
end Go.Proofs.YtblafbbnplfpjaaGreatDoor
namespace Go.Proofs.YtblafbbnplfpjaaGreatDoor
open Go.RowKit Go.Shelf
set_option linter.unusedVariables false

theorem infoStr : (Tryz.prog.info? 9).map (fun i => (i.zero, i.size, i.bytes)) = some (some (.string ⟨#[]⟩), 1, 16) := by kernel_rfl
def elS : El (List UInt8) where
  enc := fun l => [sv l]
  dft := []
  te := 9
  tl := 23
  z := .string ⟨#[]⟩
  s := 1
  by8 := 16
  len := fun _ => rfl
  one := fun x v hv => by simp at hv; subst hv; rfl
  pos := by decide
  und := Tryz.underlying23
  inf := infoStr
  zs := rfl
  bt := by decide
theorem drop_b {l : List Bool} {j : Nat} (h : j < l.length) : l.drop j = l.getD j false :: l.drop (j + 1) := by
  rw [List.drop_eq_getElem_cons h, List.getD_eq_getElem?_getD, List.getElem?_eq_getElem h]; rfl
/-- Where v stands, from the place j on: -1 if nowhere. -/
def idB (v : Bool) : List Bool → Nat → Int
  | [], _ => -1
  | x :: l, j => if v = x then j else idB v l (j + 1)
theorem idB_has (v : Bool) : ∀ (l : List Bool) (j : Nat), decide (0 ≤ idB v l j) = l.contains v
  | [], j => by simp [idB]
  | x :: l, j => by
    unfold idB
    by_cases h : v = x
    · simp [h]
    · rw [if_neg h, idB_has v l (j + 1)]; simp [h]
set_option maxHeartbeats 1000000 in
theorem index_b (l : List Bool) (a : Option Addr) (cap : Nat) (v : Bool) (w : World) (hL : Le elB w a l.length l) (hl : l.length ≤ 100) :
    Calls Tryz.prog 59 #[.slice a l.length cap, .bool v] w fun e w' => e = .returned (.int .i64 (idB v l 0)) ∧ w' = w := by
  obtain ⟨R, hR⟩ : ∃ R, idB v l 0 = R := ⟨_, rfl⟩
  have HR : Hid (idB v l 0 = R) := hR
  have HL : Hid (Le elB w a l.length l) := hL
  rw [hR]
  clear hR hL
  go_enter Tryz.func59, Tryz.ntmps59
  go_wp2_with fail
  go_loopw [5, 8] (fun _ j wr => ∃ i : Nat, j = .int .i64 i ∧ i ≤ l.length ∧ Hid (idB v (l.drop i) i = R) ∧ wr = w) (fun _ j _ => (l.length - (intOf j).toNat : Nat))
  case atStart => exact ⟨0, rfl, Nat.zero_le _, HR.out, rfl⟩
  case round =>
    clear HR
    obtain ⟨i, rfl, hi, HR, hw⟩ := hrel
    subst hw
    rcases Nat.lt_or_ge i l.length with hlt | hge
    · have hii : (i : Int) < l.length := by omega
      obtain ⟨b, off, rfl⟩ := HL.out.ex (by omega)
      have c0 : wr.cell? ⟨b, off + i, none⟩ = some (.bool (l.getD i false)) := by have := HL.out.at i hlt 0 (.bool (l.getD i false)) rfl; simpa [elB] using this
      have hd := drop_b hlt
      have HD : Hid ((if v = l.getD i false then (i : Int) else idB v (l.drop (i + 1)) (i + 1)) = R) := by
        have := HR.out; rw [hd] at this; exact this
      clear hd HR
      generalize l.getD i false = x at *
      by_cases h : v = x
      · have HD2 : Hid ((i : Int) = R) := by have := HD.out; rw [if_pos h] at this; exact this
        have hb : (v == x) = true := by simpa using h
        clear HD h
        go_wp2_with fail
        go_ret
        exact ⟨by rw [← HD2.out]; rfl, rfl⟩
      · have HD2 : Hid (idB v (l.drop (i + 1)) (i + 1) = R) := by have := HD.out; rw [if_neg h] at this; exact this
        have hb : (v == x) = false := by simpa using h
        clear HD h
        go_wp2_with fail
        go_roundw
        case rel => exact ⟨i + 1, rfl, by omega, HD2.out, trivial⟩
        case measure => simp [intOf]; omega
    · obtain rfl : i = l.length := by omega
      have HR2 : Hid ((-1 : Int) = R) := by have := HR.out; rw [List.drop_length] at this; exact this
      clear hge HR
      go_wp2_with fail
      go_ret
      exact ⟨by rw [← HR2.out]; rfl, rfl⟩
theorem contains_b (l : List Bool) (a : Option Addr) (cap : Nat) (v : Bool) (w : World) (hL : Le elB w a l.length l) (hl : l.length ≤ 100) :
    Calls Tryz.prog 36 #[.slice a l.length cap, .bool v] w fun e w' => e = .returned (.bool (l.contains v)) ∧ w' = w := by
  have C9 := index_b l a cap v w hL hl
  obtain ⟨R, hR⟩ : ∃ R, idB v l 0 = R := ⟨_, rfl⟩
  have HE : Hid (l.contains v = decide (0 ≤ R)) := by show _ = _; rw [← hR, idB_has]
  rw [hR] at C9
  clear hR hL
  generalize l.contains v = E at *
  go_enter Tryz.func36, Tryz.ntmps36
  go_wp2_with fail
  refine C9.mono ?_
  rintro e w' ⟨rfl, rfl⟩
  clear C9
  go_wp2_with fail
  go_ret
  exact ⟨by rw [HE.out]; rfl, rfl⟩
theorem ba_inj {l m : List UInt8} : (⟨l.toArray⟩ : ByteArray) = ⟨m.toArray⟩ ↔ l = m := by
  constructor
  · intro h; have := congrArg (fun b : ByteArray => b.data.toList) h; simpa using this
  · intro h; rw [h]
theorem contains_s (l : List (List UInt8)) (a : Option Addr) (cap : Nat) (x : List UInt8) (w : World) (hL : Le elS w a l.length l) (hl : l.length ≤ 100) :
    Calls Tryz.prog 37 #[.slice a l.length cap, sv x] w fun e w' => e = .returned (.bool (l.contains x)) ∧ w' = w := by
  rcases Nat.eq_zero_or_pos l.length with h0 | h0
  · obtain rfl := List.length_eq_zero_iff.1 h0
    exact Tryz.slices_Contains_string_empty a cap ⟨x.toArray⟩ w
  · obtain ⟨b, off, rfl⟩ := hL.ex h0
    have := Tryz.slices_Contains_string b off l.length cap (l.map (fun s => (⟨s.toArray⟩ : ByteArray))) ⟨x.toArray⟩ w (by simp) (by omega) (by
      intro j hj
      have hj' : j < l.length := by simpa using hj
      have h1 := hL.at j hj' 0 (sv (l.getD j [])) rfl
      have h2 : (l.map (fun s => (⟨s.toArray⟩ : ByteArray))).getD j ByteArray.empty = ⟨(l.getD j []).toArray⟩ := by
        rw [List.getD_eq_getElem?_getD, List.getElem?_map, List.getD_eq_getElem?_getD, List.getElem?_eq_getElem hj']; rfl
      rw [h2]
      simpa [elS] using h1)
    refine this.mono ?_
    rintro e w' ⟨rfl, rfl⟩
    refine ⟨?_, rfl⟩
    congr 2
    rw [Bool.eq_iff_iff, Go.Lib.containsS_iff, List.take_of_length_le (by simp), List.mem_map, List.contains_iff_mem]
    constructor
    · rintro ⟨y, hy, e⟩; rw [ba_inj] at e; rw [← e]; exact hy
    · intro h; exact ⟨x, h, rfl⟩
/-- How two numbers that compare so stand by an op. -/
def bySo (op c : Int) : Bool := if op = 1 then decide (c < 0) else if op = 2 then decide (c ≤ 0) else if op = 3 then decide (0 < c) else decide (0 ≤ c)
/-- A value of a test, as a number. -/
def vq (n : Nd) : Rat := Rat.divInt n.un (10 ^ n.pl.toNat)
set_option maxHeartbeats 4000000 in
theorem worth_any (U : Int) (P : Nat) (hP : P ≤ 9) (h1 : -9223372036854775808 ≤ U) (h2 : U ≤ 9223372036854775807) (w : World) (hT : Tn w) :
    Calls Tryz.prog 33 #[.int .i64 U, .int .i64 P] w fun e W' => ∃ s a l c zs b m d ds, e = .returned (.agg #[.bool s, .slice a l c, .slice b m d]) ∧ Rt W' s a l c zs b m d ds (Rat.divInt U (10 ^ P)) ∧ Below w.heap.size w W' := by
  have HT : Hid (Tn w) := hT
  have HV : Hid (Rat.divInt (mkd U P).1 (10 ^ (mkd U P).2) = Rat.divInt U (10 ^ P)) := mkd_val P U
  have HCn : Hid (Can (mkd U P).1 (mkd U P).2) := mkd_can P U hP
  have HBd : Hid (-9223372036854775808 ≤ (mkd U P).1 ∧ (mkd U P).1 ≤ 9223372036854775807) := mkd_bound P U h1 h2
  have C9 := fun W => make_ok U P hP h1 h2 W
  obtain ⟨V, Q, hm⟩ : ∃ V Q, mkd U P = (V, Q) := ⟨_, _, rfl⟩
  rw [hm] at HV HCn HBd C9
  dsimp only at HV HCn HBd C9
  clear hT hm
  have B0 : Below w.heap.size w w := Below.refl _ _
  go_enter Tryz.func33, Tryz.ntmps33
  go_wp2_with fail
  refine ent1 w _ _ (Q := fun W => Calls Tryz.prog _ _ W _) ?_
  intro x1 hb hs V0
  replace B0 := step B0 hb
  clear hb hs
  refine (C9 x1).mono ?_
  rintro e x2 ⟨rfl, hb⟩
  replace V0 := Va.after hb V0
  replace B0 := step B0 hb
  clear hb C9
  go_upto_region 2 with fail
  refine ent1 x2 _ _ (Q := fun W => Code.wp _ _ _ _ W) ?_
  intro x3 hb hs V1
  replace V0 := Va.after hb V0
  replace B0 := step B0 hb
  have c0 := V1.c0
  have c1 := V1.c1
  clear hb hs
  go_wp2_with fail
  refine (rat_ok V Q HBd.out.1 HBd.out.2 HCn.out _ (HT.out.to B0)).mono ?_
  rintro e x4 ⟨s, a, l, c, z, b, m, d, y, rfl, hx, hb⟩
  rw [HV.out] at hx
  replace V0 := Va.after hb V0
  replace B0 := step B0 hb
  clear hb c0 c1 V1
  have hl0 := V0.lt
  go_upto_region 3 with fail
  refine ent1 x4 _ _ (Q := fun W => Code.wp _ _ _ _ W) ?_
  intro x5 hb hs V2
  replace V0 := Va.after hb V0
  replace hx := Rt.after hb hx
  replace B0 := step B0 hb
  have d0 := V2.d0
  have d1 := V2.d1
  have d2 := V2.d2
  have e0 := V0.d0
  have e1 := V0.d1
  have e2 := V0.d2
  have f0 := V0.frozen 0
  have f1 := V0.frozen 1
  have f2 := V0.frozen 2
  clear hb hs
  go_wp2_with fail
  refine bodyPost_ret (results_r rfl rfl (V0.set3 _ _ _)) rfl ?_
  exact ⟨s, a, l, c, z, b, m, d, y, rfl, hx.far V0 (noInt3 _ _ _ _ _ _ _) (fa3 _ _ _ _ _), belo3 B0 (Nat.le_refl _) _ _ _⟩
end Go.Proofs.YtblafbbnplfpjaaGreatDoor
