/-
  rat.Whole, Sign, Num, Neg, Compare, Plain.
-/
import Derived.Test.YtebbblhafjaaiaaGreatDoorMgAa
import Derived.Test.YtebbblhafjaaiaaGreatDoorRt3
import Derived.Test.YtebbblhafjaaiaaGreatDoorBsH
import Derived.Test.YtebbblhafjaaiaaGreatDoorMgAf
import Derived.Test.YtebbblhafjaaiaaGreatDoorMgAh
import Derived.Test.YtebbblhafjaaiaaGreatDoorBsI
import Derived.BigRegion
namespace Go.Proofs.YtebbblhafjaaiaaGreatDoor
open Go.RowKit Go.Shelf
set_option linter.unusedVariables false

/-- A list of limbs in a block of its own. -/
def Ow (w : World) (g : Nat) (cs : List Int) : Prop := Own w g cs
theorem Ow.drw {w : World} {g : Nat} {cs : List Int} (h : Ow w g cs) : Ow w.drew g cs := h
theorem Ow.lt {w : World} {g : Nat} {cs : List Int} (h : Ow w g cs) : g < w.heap.size := Own.lt h
theorem Ow.after {w w' : World} (b : Below w.heap.size w w') {g : Nat} {cs : List Int} (h : Ow w g cs) : Ow w' g cs := Own.below h b (Own.lt h)
theorem Ow.far {w : World} {g : Nat} {zs : List Int} (h : Ow w g zs) {b : Nat} {t : TypeId} {cs : Array Value} (V : Va w b t cs) (hn : NoInt cs) {w' : World} (k : ∀ c, c ≠ b → w'.heap[c]? = w.heap[c]?) (hs : cs.size ≠ 0 := by simp) : Ow w' g zs := by
  have hne : g ≠ b := by
    rintro rfl
    have e : (w.heap[g]? : Option Obj) = some (.cells (row zs).toArray 94 (0, 0)) := h
    have e2 : w.heap[g]? = some (.cells cs t (0, 0)) := V
    rw [e] at e2
    have e3 : (row zs).toArray = cs := by injection e2 with e2; injection e2
    cases zs with
    | nil => rw [← e3] at hs; exact hs rfl
    | cons z r => exact hn 0 z (by rw [← e3]; rfl)
  unfold Ow Own at *
  rw [k g hne]; exact h
theorem rt_fits {x y : Int} (x0 : 0 ≤ x) (y0 : 0 ≤ y) {i j n : Nat} (hx : x < pw i) (hy : y < pw j) (h : i + j ≤ n) : x * y < pw n := by
  refine Int.lt_of_lt_of_le (b := pw (i + j)) ?_ (pw_mono h)
  rw [pw_add]
  have h1 := Int.mul_le_mul_of_nonneg_left (Int.le_of_lt hy) x0
  have h2 := Int.mul_lt_mul_of_pos_right hx (show 0 < pw j by omega)
  omega
theorem Short.mul {u v : Rat} (h1 : Short u) (h2 : Short v) : ((u.num * (v.den : Int)).natAbs : Int) < pw 2048 := by
  rw [Int.natAbs_mul, Int.natCast_mul]
  exact rt_fits (by omega) (by omega) h1.1 (show ((Int.natAbs (v.den : Int) : Nat) : Int) < pw 1024 from h2.2) (by omega)
theorem Short.mul4 {u v : Rat} (h1 : Short u) (h2 : Short v) : ((u.num * (v.den : Int)).natAbs : Int) < pw 4096 := Int.lt_of_lt_of_le (h1.mul h2) (pw_mono (by omega))
/-- The order of two numbers. -/
def qcmp (x y : Rat) : Int := cmp3 (x.num * y.den) (y.num * x.den)
theorem qcmp_lt {x y : Rat} (h : x < y) : qcmp x y = -1 := cmp3_lt (by rw [Rat.lt_iff] at h; exact h)
theorem qcmp_eq (x : Rat) : qcmp x x = 0 := by unfold qcmp cmp3; simp
theorem sign_lt (x : Int) : decide (Int.sign x < 0) = decide (x < 0) := by
  rcases Int.lt_trichotomy x 0 with h | h | h
  · rw [Int.sign_eq_neg_one_of_neg h]; simp [h]
  · subst h; rfl
  · rw [Int.sign_eq_one_of_pos h]
    have : ¬ x < 0 := by omega
    simp [this]

theorem qsign_any (s : Bool) (a : Option Addr) (l c : Nat) (zs : List Int) (b : Option Addr) (m d : Nat) (ds : List Int) (v : Rat) (w : World) (hr : Rt w s a l c zs b m d ds v) :
    Calls Tryz.prog 18 #[.agg #[.bool s, .slice a l c, .slice b m d]] w fun e w' => e = .returned (.int .i64 (Int.sign v.num)) ∧ Below w.heap.size w w' := by
  have B0 : Below w.heap.size w w := Below.refl _ _
  go_enter Tryz.func18, Tryz.ntmps18
  go_wp2_with fail
  refine ent1 w _ _ (Q := fun W => Calls Tryz.prog _ _ W _) ?_
  intro x1 hb hs_x1 V0
  replace hr := Rt.after hb hr
  replace B0 := step B0 hb
  clear hb hs_x1
  refine (wsign_any s a l c zs x1 hr.1).mono ?_
  rintro e x2 ⟨rfl, hb⟩
  replace V0 := Va.after hb V0
  replace hr := Rt.after hb hr
  replace B0 := step B0 hb
  clear hb
  rw [hr.2.2.1]
  go_wp2_with fail
  go_ret
  exact ⟨rfl, B0⟩

theorem qnum_any (s : Bool) (a : Option Addr) (l c : Nat) (b : Option Addr) (m d : Nat) (w : World) :
    Calls Tryz.prog 72 #[.agg #[.bool s, .slice a l c, .slice b m d]] w fun e w' => e = .returned (.agg #[.bool s, .slice a l c]) ∧ Below w.heap.size w w' := by
  go_enter Tryz.func72, Tryz.ntmps72
  go_wp2_with fail
  refine bodyPost_ret (results_w rfl rfl (by have := Va.new (w.alloc (Obj.cells #[Value.bool s, Value.slice a l c, Value.slice b m d] 45)) 43 #[Value.bool s, Value.slice a l c]; simp only [World.alloc, Array.size_push] at this ⊢; exact this)) rfl ?_
  exact ⟨rfl, ((Below.refl _ _).alloc (Nat.le_refl _) _).alloc (by simp) _⟩

theorem Short.neg {v : Rat} (h : Short v) : Short (-v) := by unfold Short at *; rw [Rat.neg_num, Rat.neg_den, Int.natAbs_neg]; exact h

set_option maxHeartbeats 4000000 in
theorem qneg_any (s : Bool) (a : Option Addr) (l c : Nat) (zs : List Int) (b : Option Addr) (m d : Nat) (ds : List Int) (v : Rat) (w : World) (hr : Rt w s a l c zs b m d ds v) :
  Calls Tryz.prog 29 #[.agg #[.bool s, .slice a l c, .slice b m d]] w fun e w' => ∃ s', e = .returned (.agg #[.bool s', .slice a l c, .slice b m d]) ∧ Rt w' s' a l c zs b m d ds (-v) ∧ Below w.heap.size w w' := by
 have B0 : Below w.heap.size w w := Below.refl _ _
 go_enter Tryz.func29, Tryz.ntmps29
 (go_wp2_with fail); refine ent2 w _ _ _ _ (Q := fun W => Code.wp Tryz.prog _ _ _ W) ?_; intro x1 hb hs_x1 V0 V1; replace hr := Rt.after hb hr; replace B0 := step B0 hb; clear hb hs_x1; refine wp_region_noPanic ?_; replace V0 : Va x1.drew _ _ _ := V0; replace V1 : Va x1.drew _ _ _ := V1; replace hr := hr.drw; replace B0 := Below.drew B0; refine wp_region_held_drew (S := (fun W => W.cell? ⟨w.heap.size, 0, none⟩ = some (.bool s) ∧ W.cell? ⟨w.heap.size, 1, none⟩ = some (.slice a l c) ∧ W.cell? ⟨w.heap.size, 2, none⟩ = some (.slice b m d))) (by kernel_rfl) ⟨V0.d0, V0.d1, V0.d2⟩ (fun hHeld => ?_); (obtain ⟨x2, hxd⟩ : ∃ xd, xd = x1.drew := ⟨_, rfl⟩); rw [← hxd] at V0 V1 hr B0 hHeld ⊢; clear hxd; refine tk 0 rfl hHeld ?_; simp only [gA, gB, Act.put, gD, gE, gF]; refine tk 1 rfl hHeld ?_; simp only [gA, gB, gC, Act.put, gD, gE, gF]; refine tk 3 rfl hHeld ?_; simp only [gA, gB, gC, Act.put, gD, gE, gF]; refine tk 4 rfl hHeld ?_; simp only [gA, gB, gC, Act.put, gD, gE, gF]
 refine wpAnyH_ready (rs := [2]) (by kernel_rfl) (by simp) ?_; refine AllReadyH.cons rfl (fun K hK => ?_) AllReadyH.nil; simp only [gA, gB, gC]; (go_simp); refine (wneg_any s a l c zs _ hr.1).mono ?_; rintro e x3 ⟨s', rfl, hi, ei, hb⟩; replace V0 := Va.after hb V0; replace V1 := Va.after hb V1; replace hr := Rt.after hb hr; replace B0 := step B0 hb; clear hb; (try go_wp2_with fail); refine hK.out _ _ ⟨V0.d0, V0.d1, V0.d2⟩ (fun hHeld => ?_); clear hK K; refine tk 5 rfl hHeld ?_; simp only [gA, gB, gC, Act.put, gD, gE, gF]; have c_V1 := V1.d0; have f0_V1 := V1.frozen 0; have d_V1 := V1.d1; have f1_V1 := V1.frozen 1; have e_V1 := V1.d2; have f2_V1 := V1.frozen 2; have l_V1 := V1.lt; have m_V1 := Nat.le_of_lt l_V1; refine wpAnyH_ready (rs := [6]) (by kernel_rfl) (by simp) ?_; refine AllReadyH.cons rfl (fun K hK => ?_) AllReadyH.nil; simp only [gA, gB, gC]; (go_simp); clear c_V1 f0_V1 d_V1 f1_V1 e_V1 f2_V1 l_V1 m_V1; refine sto3 V1 (.bool s') (.slice a l c) (.slice b m d) (Q := fun W => K _ W) ?_
 intro x4 V' oth far; replace V0 := oth _ _ _ (by first | omega | assumption | (simp; omega)) V0; replace hr := hr.far V1 (noInt3 _ _ _ _ _ _ _) far.1; replace hi := hi.far V1 (noInt3 _ _ _ _ _ _ _) far.1; replace B0 := far.2 _ _ (by first | omega | (simp; omega)) B0; replace V1 := V'; clear oth far; refine hK.out _ _ ⟨V0.d0, V0.d1, V0.d2⟩ (fun hHeld => ?_); clear hK K; refine wpAnyH_done (by kernel_rfl) ?_ _; refine NoPanic.normal ?_; clear hHeld; (go_wp2_with fail); refine bodyPost_ret (results_r rfl rfl V1) rfl ?_; exact ⟨s', rfl, ⟨hi, hr.2.1, by rw [ei, hr.2.2.1]; rfl, hr.2.2.2.1, hr.2.2.2.2.neg⟩, B0⟩

set_option maxHeartbeats 4000000 in
theorem qcompare_any (s1 : Bool) (a1 : Option Addr) (l1 c1 : Nat) (z1 : List Int) (b1 : Option Addr) (m1 d1 : Nat) (y1 : List Int) (v1 : Rat) (s2 : Bool) (a2 : Option Addr) (l2 c2 : Nat) (z2 : List Int) (b2 : Option Addr) (m2 d2 : Nat) (y2 : List Int) (v2 : Rat) (w : World) (h1 : Rt w s1 a1 l1 c1 z1 b1 m1 d1 y1 v1) (h2 : Rt w s2 a2 l2 c2 z2 b2 m2 d2 y2 v2) :
  Calls Tryz.prog 36 #[.agg #[.bool s1, .slice a1 l1 c1, .slice b1 m1 d1], .agg #[.bool s2, .slice a2 l2 c2, .slice b2 m2 d2]] w fun e w' => e = .returned (.int .i64 (qcmp v1 v2)) ∧ Below w.heap.size w w' := by
 have F1 : Hid (((v1.num * (v2.den : Int)).natAbs : Int) < pw 4096) := h1.2.2.2.2.mul4 h2.2.2.2.2; have F2 : Hid (((v2.num * (v1.den : Int)).natAbs : Int) < pw 4096) := h2.2.2.2.2.mul4 h1.2.2.2.2; have B0 : Below w.heap.size w w := Below.refl _ _
 go_enter Tryz.func36, Tryz.ntmps36
 (go_wp2_with fail); refine ent2 w _ _ _ _ (Q := fun W => Code.wp Tryz.prog _ _ _ W) ?_; intro x1 hb hs_x1 V0 V1; replace h1 := Rt.after hb h1; replace h2 := Rt.after hb h2; replace B0 := step B0 hb; clear hb hs_x1; refine wp_region_noPanic ?_; replace V0 : Va x1.drew _ _ _ := V0; replace V1 : Va x1.drew _ _ _ := V1; replace h1 := h1.drw; replace h2 := h2.drw; replace B0 := Below.drew B0; refine wp_region_held_drew (S := (fun W => W.cell? ⟨w.heap.size, 0, none⟩ = some (.bool s1) ∧ W.cell? ⟨w.heap.size, 1, none⟩ = some (.slice a1 l1 c1) ∧ W.cell? ⟨w.heap.size, 2, none⟩ = some (.slice b1 m1 d1) ∧ W.cell? ⟨w.heap.size + 1, 0, none⟩ = some (.bool s2) ∧ W.cell? ⟨w.heap.size + 1, 1, none⟩ = some (.slice a2 l2 c2) ∧ W.cell? ⟨w.heap.size + 1, 2, none⟩ = some (.slice b2 m2 d2))) (by kernel_rfl) ⟨V0.d0, V0.d1, V0.d2, V1.d0, V1.d1, V1.d2⟩ (fun hHeld => ?_); (obtain ⟨x2, hxd⟩ : ∃ xd, xd = x1.drew := ⟨_, rfl⟩); rw [← hxd] at V0 V1 h1 h2 B0 hHeld ⊢
 clear hxd; refine tk 0 rfl hHeld ?_; simp only [gA, gB, Act.put, gD, gE, gF]; refine tk 1 rfl hHeld ?_; simp only [gA, gB, gC, Act.put, gD, gE, gF]; refine tk 2 rfl hHeld ?_; simp only [gA, gB, gC, Act.put, gD, gE, gF]; refine tk 5 rfl hHeld ?_; simp only [gA, gB, gC, Act.put, gD, gE, gF]; refine tk 6 rfl hHeld ?_; simp only [gA, gB, gC, Act.put, gD, gE, gF]; refine tk 7 rfl hHeld ?_; simp only [gA, gB, gC, Act.put, gD, gE, gF]; refine wpAnyH_ready (rs := [3]) (by kernel_rfl) (by simp) ?_; refine AllReadyH.cons rfl (fun K hK => ?_) AllReadyH.nil; simp only [gA, gB, gC]; (go_simp); refine (rden_any s2 a2 l2 c2 b2 m2 d2 y2 _ h2.2.1).mono ?_; rintro e x3 ⟨b3, m3, d3, y3, rfl, h3, e3, hb⟩; replace V0 := Va.after hb V0; replace V1 := Va.after hb V1; replace h1 := Rt.after hb h1; replace h2 := Rt.after hb h2; replace B0 := step B0 hb; clear hb; replace e3 := e3.trans h2.2.2.2.1; (try go_wp2_with fail); refine hK.out _ _ ⟨V0.d0, V0.d1, V0.d2, V1.d0, V1.d1, V1.d2⟩ (fun hHeld => ?_)
 clear hK K; refine wpAnyH_ready (rs := [4]) (by kernel_rfl) (by simp) ?_; refine AllReadyH.cons rfl (fun K hK => ?_) AllReadyH.nil; simp only [gA, gB, gC]; (go_simp); refine (times_ok s1 a1 b3 l1 c1 m3 d3 z1 y3 _ h1.1 h3 (by rw [h1.2.2.1, e3]; exact F1)).mono ?_; rintro e x4 ⟨s5, a5, l5, c5, z5, rfl, h5, e5, hb⟩; replace V0 := Va.after hb V0; replace V1 := Va.after hb V1; replace h1 := Rt.after hb h1; replace h2 := Rt.after hb h2; replace h3 := Nt.after hb h3; replace B0 := step B0 hb; clear hb; rw [h1.2.2.1, e3] at e5; clear F1 e3; (try go_wp2_with fail); refine hK.out _ _ ⟨V0.d0, V0.d1, V0.d2, V1.d0, V1.d1, V1.d2⟩ (fun hHeld => ?_); clear hK K; refine wpAnyH_ready (rs := [8]) (by kernel_rfl) (by simp) ?_; refine AllReadyH.cons rfl (fun K hK => ?_) AllReadyH.nil; simp only [gA, gB, gC]; (go_simp); refine (rden_any s1 a1 l1 c1 b1 m1 d1 y1 _ h1.2.1).mono ?_; rintro e x5 ⟨b4, m4, d4, y4, rfl, h4, e4, hb⟩; replace V0 := Va.after hb V0; replace V1 := Va.after hb V1
 replace h1 := Rt.after hb h1; replace h2 := Rt.after hb h2; replace h3 := Nt.after hb h3; replace h5 := It.after hb h5; replace B0 := step B0 hb; clear hb; replace e4 := e4.trans h1.2.2.2.1; (try go_wp2_with fail); refine hK.out _ _ ⟨V0.d0, V0.d1, V0.d2, V1.d0, V1.d1, V1.d2⟩ (fun hHeld => ?_); clear hK K; refine wpAnyH_ready (rs := [9]) (by kernel_rfl) (by simp) ?_; refine AllReadyH.cons rfl (fun K hK => ?_) AllReadyH.nil; simp only [gA, gB, gC]; (go_simp); refine (times_ok s2 a2 b4 l2 c2 m4 d4 z2 y4 _ h2.1 h4 (by rw [h2.2.2.1, e4]; exact F2)).mono ?_; rintro e x6 ⟨s6, a6, l6, c6, z6, rfl, h6, e6, hb⟩; replace V0 := Va.after hb V0; replace V1 := Va.after hb V1; replace h1 := Rt.after hb h1; replace h2 := Rt.after hb h2; replace h3 := Nt.after hb h3; replace h5 := It.after hb h5; replace h4 := Nt.after hb h4; replace B0 := step B0 hb; clear hb; rw [h2.2.2.1, e4] at e6; clear F2 e4; (try go_wp2_with fail); refine hK.out _ _ ⟨V0.d0, V0.d1, V0.d2, V1.d0, V1.d1, V1.d2⟩ (fun hHeld => ?_)
 clear hK K; refine wpAnyH_ready (rs := [10]) (by kernel_rfl) (by simp) ?_; refine AllReadyH.cons rfl (fun K hK => ?_) AllReadyH.nil; simp only [gA, gB, gC]; (go_simp); refine (wcompare_any s5 s6 a5 a6 l5 c5 l6 c6 z5 z6 _ h5 h6).mono ?_; rintro e x7 ⟨rfl, hb⟩; replace V0 := Va.after hb V0; replace V1 := Va.after hb V1; replace h1 := Rt.after hb h1; replace h2 := Rt.after hb h2; replace h3 := Nt.after hb h3; replace h5 := It.after hb h5; replace h4 := Nt.after hb h4; replace h6 := It.after hb h6; replace B0 := step B0 hb; clear hb; rw [e5, e6]; (obtain ⟨q, hq⟩ : ∃ q, cmp3 (v1.num * ↑v2.den) (v2.num * ↑v1.den) = q := ⟨_, rfl⟩); rw [hq]; have HQ : Hid (qcmp v1 v2 = q) := hq; clear hq e5 e6; (try go_wp2_with fail); refine hK.out _ _ ⟨V0.d0, V0.d1, V0.d2, V1.d0, V1.d1, V1.d2⟩ (fun hHeld => ?_); clear hK K; refine tk 11 rfl hHeld ?_; simp only [gA, gB, gC, Act.put, gD, gE, gF]; refine wpAnyH_done (by kernel_rfl) ?_ _; refine NoPanic.normal ?_; clear hHeld
 (go_wp2_with fail)
 go_ret
 rw [HQ.out]; exact ⟨rfl, B0⟩

set_option maxHeartbeats 4000000 in
theorem qplain_any (s : Bool) (a : Option Addr) (l c : Nat) (zs : List Int) (b : Option Addr) (m d : Nat) (ds : List Int) (v : Rat) (w : World) (hr : Rt w s a l c zs b m d ds v) :
    Calls Tryz.prog 20 #[.agg #[.bool s, .slice a l c, .slice b m d]] w fun e w' => ∃ (g h : Nat) (ys : List Int), e = .returned (.agg #[.bool s, .slice (some ⟨g, 0, none⟩) l l, .slice (some ⟨h, 0, none⟩) ys.length ys.length]) ∧ Ow w' g zs ∧ Ow w' h ys ∧ Hid (w.heap.size ≤ g ∧ w.heap.size ≤ h ∧ g ≠ h) ∧ Hid (Limbs ys ∧ usedN ys = ys.length ∧ num ys = v.den) ∧ Below w.heap.size w w' := by
  have B0 : Below w.heap.size w w := Below.refl _ _
  go_enter Tryz.func20, Tryz.ntmps20
  (go_wp2_with fail); refine ent2 w _ _ _ _ (Q := fun W => Code.wp Tryz.prog _ _ _ W) ?_; intro x1 hb hs_x1 V0 V1; replace hr := Rt.after hb hr; replace B0 := step B0 hb; clear hb hs_x1; refine wp_region_noPanic ?_; replace V0 : Va x1.drew _ _ _ := V0; replace V1 : Va x1.drew _ _ _ := V1; replace hr := hr.drw; replace B0 := Below.drew B0; refine wp_region_held_drew (S := (fun W => W.cell? ⟨w.heap.size, 0, none⟩ = some (.bool s) ∧ W.cell? ⟨w.heap.size, 1, none⟩ = some (.slice a l c) ∧ W.cell? ⟨w.heap.size, 2, none⟩ = some (.slice b m d))) (by kernel_rfl) ⟨V0.d0, V0.d1, V0.d2⟩ (fun hHeld => ?_); (obtain ⟨x2, hxd⟩ : ∃ xd, xd = x1.drew := ⟨_, rfl⟩); rw [← hxd] at V0 V1 hr B0 hHeld ⊢; clear hxd; refine tk 0 rfl hHeld ?_; simp only [gA, gB, Act.put, gD, gE, gF]; refine tk 1 rfl hHeld ?_; simp only [gA, gB, gC, Act.put, gD, gE, gF]; refine tk 4 rfl hHeld ?_; simp only [gA, gB, gC, Act.put, gD, gE, gF]; refine tk 5 rfl hHeld ?_; simp only [gA, gB, gC, Act.put, gD, gE, gF]
  refine tk 8 rfl hHeld ?_; simp only [gA, gB, gC, Act.put, gD, gE, gF]; refine wpAnyH_ready (rs := [2]) (by kernel_rfl) (by simp) ?_; refine AllReadyH.cons rfl (fun K hK => ?_) AllReadyH.nil; simp only [gA, gB, gC]; (go_simp); refine (wsign_any s a l c zs _ hr.1).mono ?_; rintro e x3 ⟨rfl, hb⟩; replace V0 := Va.after hb V0; replace V1 := Va.after hb V1; replace hr := Rt.after hb hr; replace B0 := step B0 hb; clear hb; have es := sign_lt (iv s zs); rw [← hr.1.sign] at es; (obtain ⟨sg, hsg⟩ : ∃ sg, Int.sign (iv s zs) = sg := ⟨_, rfl⟩); rw [hsg] at es ⊢; clear hsg; (try go_wp2_with fail); refine hK.out _ _ ⟨V0.d0, V0.d1, V0.d2⟩ (fun hHeld => ?_); clear hK K; refine wpAnyH_take (i := 3) (v := .bool s) rfl (by kernel_rfl) (by kernel_rfl) (by kernel_rfl) (fun _ _ _ h => h) (Or.inl ⟨by rfl, ?_⟩) hHeld ?_
  · (intro W hSw; (try dsimp only at hSw); go_simp; try rw [es])
  simp only [gA, gB, gC, Act.put, gD, gE, gF]; clear es; refine wpAnyH_ready (rs := [6]) (by kernel_rfl) (by simp) ?_; refine AllReadyH.cons rfl (fun K hK => ?_) AllReadyH.nil; simp only [gA, gB, gC]; (go_simp); refine (wabs_any s a l c _).mono ?_; rintro e x4 ⟨rfl, hb⟩; replace V0 := Va.after hb V0; replace V1 := Va.after hb V1; replace hr := Rt.after hb hr; replace B0 := step B0 hb; clear hb; (try go_wp2_with fail); refine hK.out _ _ ⟨V0.d0, V0.d1, V0.d2⟩ (fun hHeld => ?_); clear hK K; refine wpAnyH_ready (rs := [7]) (by kernel_rfl) (by simp) ?_; refine AllReadyH.cons rfl (fun K hK => ?_) AllReadyH.nil; simp only [gA, gB, gC]; (go_simp); have sz0 := B0.size; refine (limbs_any a l c zs _ hr.1.1).mono ?_; rintro e x5 ⟨g, rfl, hg, ho, hb⟩; replace V0 := Va.after hb V0; replace V1 := Va.after hb V1; replace hr := Rt.after hb hr; replace B0 := step B0 hb; clear hb; replace ho : Ow _ g zs := ho; (try go_wp2_with fail); refine hK.out _ _ ⟨V0.d0, V0.d1, V0.d2⟩ (fun hHeld => ?_)
  clear hK K; refine wpAnyH_ready (rs := [9]) (by kernel_rfl) (by simp) ?_; refine AllReadyH.cons rfl (fun K hK => ?_) AllReadyH.nil; simp only [gA, gB, gC]; (go_simp); refine (rden_any s a l c b m d ds _ hr.2.1).mono ?_; rintro e x6 ⟨b3, m3, d3, y3, rfl, h3, e3, hb⟩; replace V0 := Va.after hb V0; replace V1 := Va.after hb V1; replace hr := Rt.after hb hr; replace ho := Ow.after hb ho; replace B0 := step B0 hb; clear hb; replace e3 := e3.trans hr.2.2.2.1; (try go_wp2_with fail); refine hK.out _ _ ⟨V0.d0, V0.d1, V0.d2⟩ (fun hHeld => ?_); clear hK K; refine wpAnyH_ready (rs := [10]) (by kernel_rfl) (by simp) ?_; refine AllReadyH.cons rfl (fun K hK => ?_) AllReadyH.nil; simp only [gA, gB, gC]; (go_simp); have sz1 := ho.lt; have sz2 := B0.size; have hy3 : Hid (Limbs y3 ∧ usedN y3 = m3) := ⟨h3.limbs, h3.2.1⟩; have hl3 : y3.length = m3 := h3.1.1; refine (limbs_any b3 m3 d3 y3 _ h3).mono ?_; rintro e x7 ⟨h, rfl, hh, ho2, hb⟩; replace V0 := Va.after hb V0
  replace V1 := Va.after hb V1; replace hr := Rt.after hb hr; replace ho := Ow.after hb ho; replace h3 := Nt.after hb h3; replace B0 := step B0 hb; clear hb; replace ho2 : Ow _ h y3 := ho2; have HI : Hid (w.heap.size ≤ g ∧ w.heap.size ≤ h ∧ g ≠ h) := ⟨by omega, by omega, by omega⟩; have HY : Hid (Limbs y3 ∧ usedN y3 = y3.length ∧ num y3 = v.den) := ⟨hy3.out.1, by rw [hl3]; exact hy3.out.2, e3⟩; subst hl3; clear hg hh sz0 sz1 sz2 hy3 e3; (try go_wp2_with fail); refine hK.out _ _ ⟨V0.d0, V0.d1, V0.d2⟩ (fun hHeld => ?_); clear hK K; refine tk 11 rfl hHeld ?_; simp only [gA, gB, gC, Act.put, gD, gE, gF]; have c_V1 := V1.d0; have f0_V1 := V1.frozen 0; have d_V1 := V1.d1; have f1_V1 := V1.frozen 1; have e_V1 := V1.d2; have f2_V1 := V1.frozen 2; have l_V1 := V1.lt; have m_V1 := Nat.le_of_lt l_V1; refine wpAnyH_ready (rs := [12]) (by kernel_rfl) (by simp) ?_; refine AllReadyH.cons rfl (fun K hK => ?_) AllReadyH.nil; simp only [gA, gB, gC]; (go_simp); clear c_V1 f0_V1 d_V1 f1_V1 e_V1 f2_V1 l_V1 m_V1
  refine sto3 V1 (.bool s) (.slice (some ⟨g, 0, none⟩) l l) (.slice (some ⟨h, 0, none⟩) y3.length y3.length) (Q := fun W => K _ W) ?_; intro x8 V' oth far; replace V0 := oth _ _ _ (by first | omega | assumption | (simp; omega)) V0; replace hr := hr.far V1 (noInt3 _ _ _ _ _ _ _) far.1; replace ho := ho.far V1 (noInt3 _ _ _ _ _ _ _) far.1; replace h3 := h3.far V1 (noInt3 _ _ _ _ _ _ _) far.1; replace ho2 := ho2.far V1 (noInt3 _ _ _ _ _ _ _) far.1; replace B0 := far.2 _ _ (by first | omega | (simp; omega)) B0; replace V1 := V'; clear oth far; refine hK.out _ _ ⟨V0.d0, V0.d1, V0.d2⟩ (fun hHeld => ?_); clear hK K; refine wpAnyH_done (by kernel_rfl) ?_ _; refine NoPanic.normal ?_; clear hHeld; (go_wp2_with fail); refine bodyPost_ret (results_ra rfl rfl V1) rfl ?_; exact ⟨g, h, y3, rfl, ho, ho2, HI, HY, B0⟩
end Go.Proofs.YtebbblhafjaaiaaGreatDoor
namespace Go.Proofs.YtebbblhafjaaiaaGreatDoor
set_option linter.unusedVariables false
theorem mod_pred {m sz : Nat} (h : 1 ≤ m) (hs : 2 ≤ sz) : (m % sz = 0 ∧ (m - 1) % sz = sz - 1) ∨ (1 ≤ m % sz ∧ (m - 1) % sz = m % sz - 1) := by
  have e := Nat.div_add_mod m sz
  have hl := Nat.mod_lt m (show 0 < sz by omega)
  rcases Nat.eq_zero_or_pos (m % sz) with h0 | h0
  · left
    refine ⟨h0, ?_⟩
    have hq : 1 ≤ m / sz := by
      rcases Nat.eq_zero_or_pos (m / sz) with h1 | h1
      · rw [h0, h1] at e; simp at e; omega
      · exact h1
    obtain ⟨q, hq⟩ : ∃ q, m / sz = q + 1 := ⟨m / sz - 1, by omega⟩
    rw [h0, hq, Nat.mul_succ] at e
    have e2 : m - 1 = sz * q + (sz - 1) := by omega
    rw [e2, Nat.mul_add_mod, Nat.mod_eq_of_lt (by omega)]
  · right
    refine ⟨h0, ?_⟩
    have e2 : m - 1 = sz * (m / sz) + (m % sz - 1) := by omega
    rw [e2, Nat.mul_add_mod, Nat.mod_eq_of_lt (by omega)]
/-- Between two rounds of read: V is what the digits read so far say, P what the pieces say, pc the piece begun, cnt how many pieces there are, m how many bytes stand behind. -/
def RI (b sz n m pc cnt P V : Nat) : Prop := ∃ j, V = P * b ^ j + pc ∧ pc < b ^ j ∧ j ≤ (sz - m % sz) % sz ∧ (cnt ≠ 0 → j = (sz - m % sz) % sz ∧ (cnt - 1) * sz + 1 + j + m ≤ n) ∧ (cnt = 0 → P = 0)
theorem RI.start (b sz n : Nat) : RI b sz n n 0 0 0 0 := ⟨0, by simp, by simp, Nat.zero_le _, fun h => absurd rfl h, fun _ => rfl⟩
theorem j_on {m sz : Nat} (h : 1 ≤ m) (hs : 2 ≤ sz) (hp : 0 < (m - 1) % sz) : (sz - (m - 1) % sz) % sz = (sz - m % sz) % sz + 1 ∧ (sz - m % sz) % sz + 1 < sz := by
  have hl := Nat.mod_lt m (show 0 < sz by omega)
  rcases mod_pred h hs with ⟨h1, h2⟩ | ⟨h1, h2⟩
  · rw [h1, h2, Nat.sub_zero, Nat.mod_self, Nat.mod_eq_of_lt (by omega)]; omega
  · rw [h2] at hp ⊢
    rw [Nat.mod_eq_of_lt (by omega), Nat.mod_eq_of_lt (a := sz - m % sz) (by omega)]; omega
theorem j_end {m sz : Nat} (h : 1 ≤ m) (hs : 2 ≤ sz) (hp : (m - 1) % sz = 0) : (sz - m % sz) % sz + 1 = sz ∧ (sz - (m - 1) % sz) % sz = 0 := by
  have hl := Nat.mod_lt m (show 0 < sz by omega)
  rcases mod_pred h hs with ⟨h1, h2⟩ | ⟨h1, h2⟩
  · omega
  · rw [hp, Nat.sub_zero, Nat.mod_self, Nat.mod_eq_of_lt (by omega)]; omega
theorem digit_lt {pc b j x : Nat} (h : pc < b ^ j) (hx : x < b) : pc * b + x < b ^ (j + 1) := by
  have : (pc + 1) * b ≤ b ^ j * b := Nat.mul_le_mul_right _ h
  rw [Nat.pow_succ]; grind
/-- One digit more within a piece. -/
theorem RI.on {b sz n m pc cnt P V x : Nat} (h : RI b sz n m pc cnt P V) (hb : 2 ≤ b) (hm : 1 ≤ m) (hs : 2 ≤ sz) (hx : x < b) (hp : 0 < (m - 1) % sz) : RI b sz n (m - 1) (pc * b + x) cnt P (V * b + x) ∧ pc * b + x < b ^ sz := by
  obtain ⟨j, h1, h2, h3, h4, h5⟩ := h
  have hj := j_on hm hs hp
  have hd := digit_lt h2 hx
  refine ⟨⟨j + 1, by rw [h1, Nat.pow_succ]; grind, hd, by omega, fun hc => ?_, h5⟩, Nat.lt_of_lt_of_le hd (Nat.pow_le_pow_right (by omega) (by omega))⟩
  have := h4 hc
  exact ⟨by omega, by omega⟩
/-- The last digit of a piece. -/
theorem RI.piece {b sz n m pc cnt P V x : Nat} (h : RI b sz n m pc cnt P V) (hb : 2 ≤ b) (hm : 1 ≤ m) (hn : m ≤ n) (hs : 2 ≤ sz) (hx : x < b) (hp : (m - 1) % sz = 0) :
    RI b sz n (m - 1) 0 (cnt + 1) (P * b ^ sz + (pc * b + x)) (V * b + x) ∧ pc * b + x < b ^ sz ∧ (cnt = 0 → pc * b + x = 0 → RI b sz n (m - 1) 0 0 0 (V * b + x)) := by
  obtain ⟨j, h1, h2, h3, h4, h5⟩ := h
  have hj := j_end hm hs hp
  have hd := digit_lt h2 hx
  have hV : V * b + x = P * b ^ sz + (pc * b + x) := by
    by_cases hc : cnt = 0
    · rw [h1, h5 hc]; simp
    · have e : j + 1 = sz := by have := (h4 hc).1; omega
      rw [h1, ← e, Nat.pow_succ]; grind
  refine ⟨⟨0, by rw [hV]; simp, by simp, Nat.zero_le _, fun _ => ⟨by omega, ?_⟩, fun h => absurd h (by omega)⟩, Nat.lt_of_lt_of_le hd (Nat.pow_le_pow_right (by omega) (by omega)), fun hc h0 => ⟨0, ?_, by simp, Nat.zero_le _, fun h => absurd rfl h, fun _ => rfl⟩⟩
  · by_cases hc : cnt = 0
    · subst hc; simp; omega
    · have h6 := h4 hc
      obtain ⟨c, rfl⟩ : ∃ c, cnt = c + 1 := ⟨cnt - 1, by omega⟩
      simp only [Nat.add_sub_cancel] at h6 ⊢
      rw [Nat.add_mul, Nat.one_mul]
      omega
  · rw [hV, h5 hc, h0]; simp
theorem RI.last {b sz n pc cnt P V : Nat} (h : RI b sz n 0 pc cnt P V) : V = P ∧ pc = 0 ∧ (cnt ≠ 0 → (cnt - 1) * sz + 1 ≤ n) := by
  obtain ⟨j, h1, h2, h3, h4, h5⟩ := h
  rw [Nat.zero_mod, Nat.sub_zero, Nat.mod_self] at h3
  obtain rfl : j = 0 := by omega
  simp at h2
  subst h2
  exact ⟨by rw [h1]; simp, rfl, fun hc => by have := (h4 hc).2; omega⟩
end Go.Proofs.YtebbblhafjaaiaaGreatDoor
namespace Go.Proofs.YtebbblhafjaaiaaGreatDoor
open Go.RowKit Go.Shelf
set_option linter.unusedVariables false

/-- A row of slices in one block: so many cells, each told by c. -/
def Rsl (w : World) (g n : Nat) (c : Nat → Value) : Prop := Blk w g n ∧ ∀ i, i < n → w.cell? ⟨g, i, none⟩ = some (c i)
theorem cell_set_ne (w : World) (g i j : Nat) (v : Value) (h : j ≠ i) : (w.setCell ⟨g, i, none⟩ v).cell? ⟨g, j, none⟩ = w.cell? ⟨g, j, none⟩ := by
  simp only [World.setCell, World.cell?, Array.getElem?_modify, if_true]
  cases hh : w.heap[g]? with
  | none => rfl
  | some o => cases o <;> simp [Ne.symm h]
theorem cell_set_eq {w : World} {g n i : Nat} (hb : Blk w g n) (hi : i < n) (v : Value) : (w.setCell ⟨g, i, none⟩ v).cell? ⟨g, i, none⟩ = some v := by
  obtain ⟨cur, t, h, hn⟩ := hb
  simp only [World.setCell, World.cell?, Array.getElem?_modify, if_true, h]
  simp [Array.getElem?_setIfInBounds]; omega
/-- The row's cells when k have been exchanged with the last k. -/
def half (n k : Nat) (c : Nat → Value) (m : Nat) : Value := if m < k ∨ n - k ≤ m then c (n - 1 - m) else c m
theorem Rsl.swap {w : World} {g n k : Nat} {c : Nat → Value} (h : Rsl w g n (half n k c)) (hk : k < n - 1 - k) :
    Rsl ((w.setCell ⟨g, k, none⟩ (c (n - 1 - k))).setCell ⟨g, n - 1 - k, none⟩ (c k)) g n (half n (k + 1) c) := by
  refine ⟨(h.1.set _ _).set _ _, fun i hi => ?_⟩
  by_cases h1 : i = n - 1 - k
  · subst h1
    rw [cell_set_eq (h.1.set _ _) (by omega)]
    unfold half
    rw [if_pos (by omega), show n - 1 - (n - 1 - k) = k by omega]
  · rw [cell_set_ne _ _ _ _ _ h1]
    by_cases h2 : i = k
    · subst h2
      rw [cell_set_eq h.1 (by omega)]
      unfold half
      rw [if_pos (by omega)]
    · rw [cell_set_ne _ _ _ _ _ h2, h.2 i hi]
      unfold half
      by_cases h3 : i < k ∨ n - k ≤ i
      · rw [if_pos h3, if_pos (by omega)]
      · rw [if_neg h3, if_neg (by omega)]
set_option maxHeartbeats 4000000 in
theorem reverse_any (g n cap : Nat) (A : Nat → Option Addr) (L C : Nat → Nat) (w : World) (hn : n ≤ 1000000) (hcap : n ≤ cap) (h : Rsl w g n (fun i => .slice (A i) (L i) (C i))) :
    Calls Tryz.prog 127 #[.slice (some ⟨g, 0, none⟩) n cap] w fun e w' => (∃ v, e = .returned v) ∧ Rsl w' g n (fun i => .slice (A (n - 1 - i)) (L (n - 1 - i)) (C (n - 1 - i))) ∧ Only g w w' := by
  go_enter Tryz.func127, Tryz.ntmps127
  go_wp2_with fail
  go_loopw [2, 3] (fun i j wr => ∃ k : Nat, i = .int .i64 k ∧ j = .int .i64 ((n : Int) - 1 - k) ∧ Hid (2 * k ≤ n + 1) ∧ Hid (Rsl wr g n (half n k (fun i => .slice (A i) (L i) (C i)))) ∧ Hid (Only g w wr)) (fun i _ _ => n - (intOf i).toNat)
  case atStart => exact ⟨0, rfl, by go_num, by show 2 * 0 ≤ n + 1; omega, ⟨h.1, fun i hi => by rw [h.2 i hi]; unfold half; rw [if_neg (by omega)]⟩, Only.refl _ _⟩
  case round =>
    obtain ⟨k, rfl, rfl, HK, HR, HO⟩ := hrel
    by_cases hlt : k < n - 1 - k
    · have c1 := HR.out.2 k (by omega)
      have c2 := HR.out.2 (n - 1 - k) (by omega)
      have e1 : half n k (fun i => Value.slice (A i) (L i) (C i)) k = .slice (A k) (L k) (C k) := by unfold half; rw [if_neg (by omega)]
      have e2 : half n k (fun i => Value.slice (A i) (L i) (C i)) (n - 1 - k) = .slice (A (n - 1 - k)) (L (n - 1 - k)) (C (n - 1 - k)) := by unfold half; rw [if_neg (by omega)]
      rw [e1] at c1; rw [e2] at c2
      clear e1 e2
      have f1 := HR.out.1.frozen k
      have f2 := HR.out.1.frozen (n - 1 - k)
      obtain ⟨q, hq⟩ : ∃ q, q = n - 1 - k := ⟨_, rfl⟩
      have eq : (n : Int) - 1 - k = q := by omega
      rw [eq]
      rw [← hq] at c2 f2
      have HQ : Hid (q = n - 1 - k) := hq
      have hkn : k < n := by omega
      have hqn : q < n := by omega
      have hkq : (k : Int) < q := by omega
      clear hq eq hlt
      have e3 : IntKind.i64.wrap ((q : Int) - 1) = (q : Int) - 1 := by rw [IntKind.wrap_i64]; omega
      go_wp2_with fail
      go_region
      go_wp2_with fail
      go_roundw
      case rel =>
        have hR2 : Rsl ((wr.setCell ⟨g, k, none⟩ (.slice (A q) (L q) (C q))).setCell ⟨g, q, none⟩ (.slice (A k) (L k) (C k))) g n (half n (k + 1) (fun i => .slice (A i) (L i) (C i))) := by
          have := HR.out.swap (c := fun i => .slice (A i) (L i) (C i)) (k := k) (by have := HQ.out; omega)
          rw [← HQ.out] at this
          exact this
        exact ⟨k + 1, by go_num, by first | go_num | (have := HQ.out; congr 1; omega), by show 2 * (k + 1) ≤ n + 1; have := HQ.out; have := HK.out; omega, hR2, ((HO.out.set k _).set q _).drew⟩
      case measure => simp [intOf]; omega
    · have hnl : ¬ ((k : Int) < (n : Int) - 1 - k) := by omega
      go_wp2_with fail
      go_end0
      refine ⟨⟨_, rfl⟩, ⟨HR.out.1, fun i hi => ?_⟩, HO.out⟩
      rw [HR.out.2 i hi]
      unfold half
      have := HK.out
      by_cases h3 : i < k ∨ n - k ≤ i
      · rw [if_pos h3]
      · rw [if_neg h3]
        have e : n - 1 - i = i := by omega
        show some (Value.slice (A i) (L i) (C i)) = some (.slice (A (n - 1 - i)) (L (n - 1 - i)) (C (n - 1 - i)))
        rw [e]
end Go.Proofs.YtebbblhafjaaiaaGreatDoor
