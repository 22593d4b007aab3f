import Derived.Test.YtngichjgfppnpaaGreatDoorMgAa
import Derived.Test.YtngichjgfppnpaaGreatDoorRt3
import Derived.Test.YtngichjgfppnpaaGreatDoorBsH
import Derived.Test.YtngichjgfppnpaaGreatDoorMgAi
import Derived.Test.YtngichjgfppnpaaGreatDoorMgAh
import Derived.Test.YtngichjgfppnpaaGreatDoorMgAd
import Derived.Deep.RegionWith
import Derived.Test.YtngichjgfppnpaaGreatDoorBsI
import Derived.Test.YtngichjgfppnpaaGreatDoorMgAe
import Derived.Laws.EntriesVeiled
import Derived.Shelf.Abstract
namespace Go.Proofs.YtngichjgfppnpaaGreatDoor
open Go.RowKit Go.Shelf
set_option linter.unusedVariables false

def Ow (w : World) (g : Nat) (cs : List Int) : Prop := Own w g cs
theorem Ow.drw {w : World} {g : Nat} {cs : List Int} (h : Ow w g cs) : Ow w.drew g cs := h
theorem Ow.lt {w : World} {g : Nat} {cs : List Int} (h : Ow w g cs) : g < w.heap.size := Own.lt h
theorem Ow.after {w w' : World} (b : Below w.heap.size w w') {g : Nat} {cs : List Int} (h : Ow w g cs) : Ow w' g cs := Own.below h b (Own.lt h)
theorem Ow.far {w : World} {g : Nat} {zs : List Int} (h : Ow w g zs) {b : Nat} {t : TypeId} {cs : Array Value} (V : Va w b t cs) (hn : NoInt cs) {w' : World} (k : ∀ c, c ≠ b → w'.heap[c]? = w.heap[c]?) (hs : cs.size ≠ 0 := by simp) : Ow w' g zs := by
  have hne : g ≠ b := by
    rintro rfl
    have e : (w.heap[g]? : Option Obj) = some (.cells (row zs).toArray 89 (0, 0)) := h
    have e2 : w.heap[g]? = some (.cells cs t (0, 0)) := V
    rw [e] at e2
    have e3 : (row zs).toArray = cs := by injection e2 with e2; injection e2
    cases zs with
    | nil => rw [← e3] at hs; exact hs rfl
    | cons z r => exact hn 0 z (by rw [← e3]; rfl)
  unfold Ow Own at *
  rw [k g hne]; exact h
theorem rt_fits {x y : Int} (x0 : 0 ≤ x) (y0 : 0 ≤ y) {i j n : Nat} (hx : x < pw i) (hy : y < pw j) (h : i + j ≤ n) : x * y < pw n := by
  refine Int.lt_of_lt_of_le (b := pw (i + j)) ?_ (pw_mono h)
  rw [pw_add]
  have h1 := Int.mul_le_mul_of_nonneg_left (Int.le_of_lt hy) x0
  have h2 := Int.mul_lt_mul_of_pos_right hx (show 0 < pw j by omega)
  omega
theorem Short.mul {u v : Rat} (h1 : Short u) (h2 : Short v) : ((u.num * (v.den : Int)).natAbs : Int) < pw 2048 := by
  rw [Int.natAbs_mul, Int.natCast_mul]
  exact rt_fits (by omega) (by omega) h1.1 (show ((Int.natAbs (v.den : Int) : Nat) : Int) < pw 1024 from h2.2) (by omega)
theorem Short.mul4 {u v : Rat} (h1 : Short u) (h2 : Short v) : ((u.num * (v.den : Int)).natAbs : Int) < pw 4096 := Int.lt_of_lt_of_le (h1.mul h2) (pw_mono (by omega))
def qcmp (x y : Rat) : Int := cmp3 (x.num * y.den) (y.num * x.den)
theorem qcmp_lt {x y : Rat} (h : x < y) : qcmp x y = -1 := cmp3_lt (by rw [Rat.lt_iff] at h; exact h)
theorem qcmp_gt {x y : Rat} (h : y < x) : qcmp x y = 1 := cmp3_gt (by rw [Rat.lt_iff] at h; exact h)
theorem qcmp_eq (x : Rat) : qcmp x x = 0 := by unfold qcmp cmp3; simp
theorem sign_lt (x : Int) : decide (Int.sign x < 0) = decide (x < 0) := by
  rcases Int.lt_trichotomy x 0 with h | h | h
  · rw [Int.sign_eq_neg_one_of_neg h]; simp [h]
  · subst h; rfl
  · rw [Int.sign_eq_one_of_pos h]
    have : ¬ x < 0 := by omega
    simp [this]

theorem qsign_any (s : Bool) (a : Option Addr) (l c : Nat) (zs : List Int) (b : Option Addr) (m d : Nat) (ds : List Int) (v : Rat) (w : World) (hr : Rt w s a l c zs b m d ds v) :
    Calls Tryz.prog 33 #[.agg #[.bool s, .slice a l c, .slice b m d]] w fun e w' => e = .returned (.int .i64 (Int.sign v.num)) ∧ Below w.heap.size w w' := by
  have B0 : Below w.heap.size w w := Below.refl _ _
  go_enter Tryz.func33, Tryz.ntmps33
  go_wp2_with fail
  refine ent1 w _ _ (Q := fun W => Calls Tryz.prog _ _ W _) ?_
  intro x1 hb hs_x1 V0
  replace hr := Rt.after hb hr
  replace B0 := step B0 hb
  clear hb hs_x1
  refine (wsign_any s a l c zs x1 hr.1).mono ?_
  rintro e x2 ⟨rfl, hb⟩
  replace V0 := V0.a hb
  replace hr := Rt.after hb hr
  replace B0 := step B0 hb
  clear hb
  rw [hr.2.2.1]
  go_wp2_with fail
  go_ret
  exact ⟨rfl, B0⟩

theorem Short.neg {v : Rat} (h : Short v) : Short (-v) := by unfold Short at *; rw [Rat.neg_num, Rat.neg_den, Int.natAbs_neg]; exact h

set_option maxHeartbeats 4000000 in
theorem qneg_any (s : Bool) (a : Option Addr) (l c : Nat) (zs : List Int) (b : Option Addr) (m d : Nat) (ds : List Int) (v : Rat) (w : World) (hr : Rt w s a l c zs b m d ds v) :
  Calls Tryz.prog 91 #[.agg #[.bool s, .slice a l c, .slice b m d]] w fun e w' => ∃ s', e = .returned (.agg #[.bool s', .slice a l c, .slice b m d]) ∧ Rt w' s' a l c zs b m d ds (-v) ∧ Below w.heap.size w w' := by
 have B0 : Below w.heap.size w w := Below.refl _ _
 go_enter Tryz.func91, Tryz.ntmps91
 (go_wp2_with fail); refine ent2 w _ _ _ _ (Q := fun W => Code.wp Tryz.prog _ _ _ W) ?_; intro x1 hb hs_x1 V0 V1; replace hr := Rt.after hb hr; replace B0 := step B0 hb; clear hb hs_x1; refine wp_region_noPanic ?_; replace V0 : Va x1.drew _ _ _ := V0; replace V1 : Va x1.drew _ _ _ := V1; replace hr := hr.drw; replace B0 := Below.drew B0; refine wp_region_held_drew (S := (fun W => W.cell? ⟨w.heap.size, 0, none⟩ = some (.bool s) ∧ W.cell? ⟨w.heap.size, 1, none⟩ = some (.slice a l c) ∧ W.cell? ⟨w.heap.size, 2, none⟩ = some (.slice b m d))) (by kernel_rfl) ⟨V0.d0, V0.d1, V0.d2⟩ (fun hHeld => ?_); (obtain ⟨x2, hxd⟩ : ∃ xd, xd = x1.drew := ⟨_, rfl⟩); rw [← hxd] at V0 V1 hr B0 hHeld ⊢; clear hxd; refine tjz 0 hHeld ?_; refine tjz 1 hHeld ?_; refine tjz 3 hHeld ?_; refine tjz 4 hHeld ?_
 refine ryz 2 (fun K hK => ?_); simp only [gA, gB, gC]; (go_simp); refine (wneg_any s a l c zs _ hr.1).mono ?_; rintro e x3 ⟨s', rfl, hi, ei, hb⟩; replace V0 := V0.a hb; replace V1 := V1.a hb; replace hr := Rt.after hb hr; replace B0 := step B0 hb; clear hb; (try go_wp2_with fail); refine hK.out _ _ ⟨V0.d0, V0.d1, V0.d2⟩ (fun hHeld => ?_); clear hK K; refine tjz 5 hHeld ?_; have c_V1 := V1.d0; have f0_V1 := V1.frozen 0; have d_V1 := V1.d1; have f1_V1 := V1.frozen 1; have e_V1 := V1.d2; have f2_V1 := V1.frozen 2; have l_V1 := V1.lt; have m_V1 := Nat.le_of_lt l_V1; refine ryz 6 (fun K hK => ?_); simp only [gA, gB, gC]; (go_simp); clear c_V1 f0_V1 d_V1 f1_V1 e_V1 f2_V1 l_V1 m_V1; refine sto3 V1 (.bool s') (.slice a l c) (.slice b m d) (Q := fun W => K _ W) ?_
 intro x4 V' oth far; replace V0 := apz (oth _ _ _) V0; replace hr := hr.far V1 (noInt3 _ _ _ _ _ _ _) far.1; replace hi := hi.far V1 (noInt3 _ _ _ _ _ _ _) far.1; replace B0 := apz (far.2 _ _) B0; replace V1 := V'; clear oth far; refine hK.out _ _ ⟨V0.d0, V0.d1, V0.d2⟩ (fun hHeld => ?_); clear hK K; refine dnz ?_; clear hHeld; (go_wp2_with fail); refine bodyPost_ret (results_r rfl rfl V1) rfl ?_; exact ⟨s', rfl, ⟨hi, hr.2.1, by rw [ei, hr.2.2.1]; rfl, hr.2.2.2.1, hr.2.2.2.2.neg⟩, B0⟩

set_option maxHeartbeats 4000000 in
theorem qcompare_any (s1 : Bool) (a1 : Option Addr) (l1 c1 : Nat) (z1 : List Int) (b1 : Option Addr) (m1 d1 : Nat) (y1 : List Int) (v1 : Rat) (s2 : Bool) (a2 : Option Addr) (l2 c2 : Nat) (z2 : List Int) (b2 : Option Addr) (m2 d2 : Nat) (y2 : List Int) (v2 : Rat) (w : World) (h1 : Rt w s1 a1 l1 c1 z1 b1 m1 d1 y1 v1) (h2 : Rt w s2 a2 l2 c2 z2 b2 m2 d2 y2 v2) :
  Calls Tryz.prog 21 #[.agg #[.bool s1, .slice a1 l1 c1, .slice b1 m1 d1], .agg #[.bool s2, .slice a2 l2 c2, .slice b2 m2 d2]] w fun e w' => e = .returned (.int .i64 (qcmp v1 v2)) ∧ Below w.heap.size w w' := by
 have F1 : Hid (((v1.num * (v2.den : Int)).natAbs : Int) < pw 4096) := h1.2.2.2.2.mul4 h2.2.2.2.2; have F2 : Hid (((v2.num * (v1.den : Int)).natAbs : Int) < pw 4096) := h2.2.2.2.2.mul4 h1.2.2.2.2; have B0 : Below w.heap.size w w := Below.refl _ _
 go_enter Tryz.func21, Tryz.ntmps21
 (go_wp2_with fail); refine ent2 w _ _ _ _ (Q := fun W => Code.wp Tryz.prog _ _ _ W) ?_; intro x1 hb hs_x1 V0 V1; replace h1 := Rt.after hb h1; replace h2 := Rt.after hb h2; replace B0 := step B0 hb; clear hb hs_x1; refine wp_region_noPanic ?_; replace V0 : Va x1.drew _ _ _ := V0; replace V1 : Va x1.drew _ _ _ := V1; replace h1 := h1.drw; replace h2 := h2.drw; replace B0 := Below.drew B0; refine wp_region_held_drew (S := (fun W => W.cell? ⟨w.heap.size, 0, none⟩ = some (.bool s1) ∧ W.cell? ⟨w.heap.size, 1, none⟩ = some (.slice a1 l1 c1) ∧ W.cell? ⟨w.heap.size, 2, none⟩ = some (.slice b1 m1 d1) ∧ W.cell? ⟨w.heap.size + 1, 0, none⟩ = some (.bool s2) ∧ W.cell? ⟨w.heap.size + 1, 1, none⟩ = some (.slice a2 l2 c2) ∧ W.cell? ⟨w.heap.size + 1, 2, none⟩ = some (.slice b2 m2 d2))) (by kernel_rfl) ⟨V0.d0, V0.d1, V0.d2, V1.d0, V1.d1, V1.d2⟩ (fun hHeld => ?_); (obtain ⟨x2, hxd⟩ : ∃ xd, xd = x1.drew := ⟨_, rfl⟩); rw [← hxd] at V0 V1 h1 h2 B0 hHeld ⊢
 clear hxd; refine tjz 0 hHeld ?_; refine tjz 1 hHeld ?_; refine tjz 2 hHeld ?_; refine tjz 5 hHeld ?_; refine tjz 6 hHeld ?_; refine tjz 7 hHeld ?_; refine ryz 3 (fun K hK => ?_); simp only [gA, gB, gC]; (go_simp); refine (rden_any s2 a2 l2 c2 b2 m2 d2 y2 _ h2.2.1).mono ?_; rintro e x3 ⟨b3, m3, d3, y3, rfl, h3, e3, hb⟩; replace V0 := V0.a hb; replace V1 := V1.a hb; replace h1 := Rt.after hb h1; replace h2 := Rt.after hb h2; replace B0 := step B0 hb; clear hb; replace e3 := e3.trans h2.2.2.2.1; (try go_wp2_with fail); refine hK.out _ _ ⟨V0.d0, V0.d1, V0.d2, V1.d0, V1.d1, V1.d2⟩ (fun hHeld => ?_)
 clear hK K; refine ryz 4 (fun K hK => ?_); simp only [gA, gB, gC]; (go_simp); refine (times_ok s1 a1 b3 l1 c1 m3 d3 z1 y3 _ h1.1 h3 (by rw [h1.2.2.1, e3]; exact F1)).mono ?_; rintro e x4 ⟨s5, a5, l5, c5, z5, rfl, h5, e5, hb⟩; replace V0 := V0.a hb; replace V1 := V1.a hb; replace h1 := Rt.after hb h1; replace h2 := Rt.after hb h2; replace h3 := h3.a hb; replace B0 := step B0 hb; clear hb; rw [h1.2.2.1, e3] at e5; clear F1 e3; (try go_wp2_with fail); refine hK.out _ _ ⟨V0.d0, V0.d1, V0.d2, V1.d0, V1.d1, V1.d2⟩ (fun hHeld => ?_); clear hK K; refine ryz 8 (fun K hK => ?_); simp only [gA, gB, gC]; (go_simp); refine (rden_any s1 a1 l1 c1 b1 m1 d1 y1 _ h1.2.1).mono ?_; rintro e x5 ⟨b4, m4, d4, y4, rfl, h4, e4, hb⟩; replace V0 := V0.a hb; replace V1 := V1.a hb
 replace h1 := Rt.after hb h1; replace h2 := Rt.after hb h2; replace h3 := h3.a hb; replace h5 := It.after hb h5; replace B0 := step B0 hb; clear hb; replace e4 := e4.trans h1.2.2.2.1; (try go_wp2_with fail); refine hK.out _ _ ⟨V0.d0, V0.d1, V0.d2, V1.d0, V1.d1, V1.d2⟩ (fun hHeld => ?_); clear hK K; refine ryz 9 (fun K hK => ?_); simp only [gA, gB, gC]; (go_simp); refine (times_ok s2 a2 b4 l2 c2 m4 d4 z2 y4 _ h2.1 h4 (by rw [h2.2.2.1, e4]; exact F2)).mono ?_; rintro e x6 ⟨s6, a6, l6, c6, z6, rfl, h6, e6, hb⟩; replace V0 := V0.a hb; replace V1 := V1.a hb; replace h1 := Rt.after hb h1; replace h2 := Rt.after hb h2; replace h3 := h3.a hb; replace h5 := It.after hb h5; replace h4 := h4.a hb; replace B0 := step B0 hb; clear hb; rw [h2.2.2.1, e4] at e6; clear F2 e4; (try go_wp2_with fail); refine hK.out _ _ ⟨V0.d0, V0.d1, V0.d2, V1.d0, V1.d1, V1.d2⟩ (fun hHeld => ?_)
 clear hK K; refine ryz 10 (fun K hK => ?_); simp only [gA, gB, gC]; (go_simp); refine (wcompare_any s5 s6 a5 a6 l5 c5 l6 c6 z5 z6 _ h5 h6).mono ?_; rintro e x7 ⟨rfl, hb⟩; replace V0 := V0.a hb; replace V1 := V1.a hb; replace h1 := Rt.after hb h1; replace h2 := Rt.after hb h2; replace h3 := h3.a hb; replace h5 := It.after hb h5; replace h4 := h4.a hb; replace h6 := It.after hb h6; replace B0 := step B0 hb; clear hb; rw [e5, e6]; (obtain ⟨q, hq⟩ : ∃ q, cmp3 (v1.num * ↑v2.den) (v2.num * ↑v1.den) = q := ⟨_, rfl⟩); rw [hq]; have HQ : Hid (qcmp v1 v2 = q) := hq; clear hq e5 e6; (try go_wp2_with fail); refine hK.out _ _ ⟨V0.d0, V0.d1, V0.d2, V1.d0, V1.d1, V1.d2⟩ (fun hHeld => ?_); clear hK K; refine tjz 11 hHeld ?_; refine dnz ?_; clear hHeld
 (go_wp2_with fail)
 go_ret
 rw [HQ.out]; exact ⟨rfl, B0⟩

set_option maxHeartbeats 4000000 in
theorem qplain_any (s : Bool) (a : Option Addr) (l c : Nat) (zs : List Int) (b : Option Addr) (m d : Nat) (ds : List Int) (v : Rat) (w : World) (hr : Rt w s a l c zs b m d ds v) :
    Calls Tryz.prog 59 #[.agg #[.bool s, .slice a l c, .slice b m d]] w fun e w' => ∃ (g h : Nat) (ys : List Int), e = .returned (.agg #[.bool s, .slice (some ⟨g, 0, none⟩) l l, .slice (some ⟨h, 0, none⟩) ys.length ys.length]) ∧ Ow w' g zs ∧ Ow w' h ys ∧ Hid (w.heap.size ≤ g ∧ w.heap.size ≤ h ∧ g ≠ h) ∧ Hid (Limbs ys ∧ usedN ys = ys.length ∧ num ys = v.den) ∧ Below w.heap.size w w' := by
  have B0 : Below w.heap.size w w := Below.refl _ _
  go_enter Tryz.func59, Tryz.ntmps59
  (go_wp2_with fail); refine ent2 w _ _ _ _ (Q := fun W => Code.wp Tryz.prog _ _ _ W) ?_; intro x1 hb hs_x1 V0 V1; replace hr := Rt.after hb hr; replace B0 := step B0 hb; clear hb hs_x1; refine wp_region_noPanic ?_; replace V0 : Va x1.drew _ _ _ := V0; replace V1 : Va x1.drew _ _ _ := V1; replace hr := hr.drw; replace B0 := Below.drew B0; refine wp_region_held_drew (S := (fun W => W.cell? ⟨w.heap.size, 0, none⟩ = some (.bool s) ∧ W.cell? ⟨w.heap.size, 1, none⟩ = some (.slice a l c) ∧ W.cell? ⟨w.heap.size, 2, none⟩ = some (.slice b m d))) (by kernel_rfl) ⟨V0.d0, V0.d1, V0.d2⟩ (fun hHeld => ?_); (obtain ⟨x2, hxd⟩ : ∃ xd, xd = x1.drew := ⟨_, rfl⟩); rw [← hxd] at V0 V1 hr B0 hHeld ⊢; clear hxd; refine tjz 0 hHeld ?_; refine tjz 1 hHeld ?_; refine tjz 4 hHeld ?_; refine tjz 5 hHeld ?_
  refine tjz 8 hHeld ?_; refine ryz 2 (fun K hK => ?_); simp only [gA, gB, gC]; (go_simp); refine (wsign_any s a l c zs _ hr.1).mono ?_; rintro e x3 ⟨rfl, hb⟩; replace V0 := V0.a hb; replace V1 := V1.a hb; replace hr := Rt.after hb hr; replace B0 := step B0 hb; clear hb; have es := sign_lt (iv s zs); rw [← hr.1.sign] at es; (obtain ⟨sg, hsg⟩ : ∃ sg, Int.sign (iv s zs) = sg := ⟨_, rfl⟩); rw [hsg] at es ⊢; clear hsg; (try go_wp2_with fail); refine hK.out _ _ ⟨V0.d0, V0.d1, V0.d2⟩ (fun hHeld => ?_); clear hK K; refine wpAnyH_take (i := 3) (v := .bool s) rfl (by kernel_rfl) (by kernel_rfl) (by kernel_rfl) (fun _ _ _ h => h) (Or.inl ⟨by rfl, ?_⟩) hHeld ?_
  · (intro W hSw; (try dsimp only at hSw); go_simp; try rw [es])
  simp only [gA, gB, gC, Act.put, gD, gE, gF]; clear es; refine ryz 6 (fun K hK => ?_); simp only [gA, gB, gC]; (go_simp); refine (wabs_any s a l c _).mono ?_; rintro e x4 ⟨rfl, hb⟩; replace V0 := V0.a hb; replace V1 := V1.a hb; replace hr := Rt.after hb hr; replace B0 := step B0 hb; clear hb; (try go_wp2_with fail); refine hK.out _ _ ⟨V0.d0, V0.d1, V0.d2⟩ (fun hHeld => ?_); clear hK K; refine ryz 7 (fun K hK => ?_); simp only [gA, gB, gC]; (go_simp); have sz0 := B0.size; refine (limbs_any a l c zs _ hr.1.1).mono ?_; rintro e x5 ⟨g, rfl, hg, ho, hb⟩; replace V0 := V0.a hb; replace V1 := V1.a hb; replace hr := Rt.after hb hr; replace B0 := step B0 hb; clear hb; replace ho : Ow _ g zs := ho; (try go_wp2_with fail); refine hK.out _ _ ⟨V0.d0, V0.d1, V0.d2⟩ (fun hHeld => ?_)
  clear hK K; refine ryz 9 (fun K hK => ?_); simp only [gA, gB, gC]; (go_simp); refine (rden_any s a l c b m d ds _ hr.2.1).mono ?_; rintro e x6 ⟨b3, m3, d3, y3, rfl, h3, e3, hb⟩; replace V0 := V0.a hb; replace V1 := V1.a hb; replace hr := Rt.after hb hr; replace ho := Ow.after hb ho; replace B0 := step B0 hb; clear hb; replace e3 := e3.trans hr.2.2.2.1; (try go_wp2_with fail); refine hK.out _ _ ⟨V0.d0, V0.d1, V0.d2⟩ (fun hHeld => ?_); clear hK K; refine ryz 10 (fun K hK => ?_); simp only [gA, gB, gC]; (go_simp); have sz1 := ho.lt; have sz2 := B0.size; have hy3 : Hid (Limbs y3 ∧ usedN y3 = m3) := ⟨h3.limbs, h3.2.1⟩; have hl3 : y3.length = m3 := h3.1.1; refine (limbs_any b3 m3 d3 y3 _ h3).mono ?_; rintro e x7 ⟨h, rfl, hh, ho2, hb⟩; replace V0 := V0.a hb
  replace V1 := V1.a hb; replace hr := Rt.after hb hr; replace ho := Ow.after hb ho; replace h3 := h3.a hb; replace B0 := step B0 hb; clear hb; replace ho2 : Ow _ h y3 := ho2; have HI : Hid (w.heap.size ≤ g ∧ w.heap.size ≤ h ∧ g ≠ h) := ⟨by omega, by omega, by omega⟩; have HY : Hid (Limbs y3 ∧ usedN y3 = y3.length ∧ num y3 = v.den) := ⟨hy3.out.1, by rw [hl3]; exact hy3.out.2, e3⟩; subst hl3; clear hg hh sz0 sz1 sz2 hy3 e3; (try go_wp2_with fail); refine hK.out _ _ ⟨V0.d0, V0.d1, V0.d2⟩ (fun hHeld => ?_); clear hK K; refine tjz 11 hHeld ?_; have c_V1 := V1.d0; have f0_V1 := V1.frozen 0; have d_V1 := V1.d1; have f1_V1 := V1.frozen 1; have e_V1 := V1.d2; have f2_V1 := V1.frozen 2; have l_V1 := V1.lt; have m_V1 := Nat.le_of_lt l_V1; refine ryz 12 (fun K hK => ?_); simp only [gA, gB, gC]; (go_simp); clear c_V1 f0_V1 d_V1 f1_V1 e_V1 f2_V1 l_V1 m_V1
  refine sto3 V1 (.bool s) (.slice (some ⟨g, 0, none⟩) l l) (.slice (some ⟨h, 0, none⟩) y3.length y3.length) (Q := fun W => K _ W) ?_; intro x8 V' oth far; replace V0 := apz (oth _ _ _) V0; replace hr := hr.far V1 (noInt3 _ _ _ _ _ _ _) far.1; replace ho := ho.far V1 (noInt3 _ _ _ _ _ _ _) far.1; replace h3 := h3.far V1 (noInt3 _ _ _ _ _ _ _) far.1; replace ho2 := ho2.far V1 (noInt3 _ _ _ _ _ _ _) far.1; replace B0 := apz (far.2 _ _) B0; replace V1 := V'; clear oth far; refine hK.out _ _ ⟨V0.d0, V0.d1, V0.d2⟩ (fun hHeld => ?_); clear hK K; refine dnz ?_; clear hHeld; (go_wp2_with fail); refine bodyPost_ret (results_ra rfl rfl V1) rfl ?_; exact ⟨g, h, y3, rfl, ho, ho2, HI, HY, B0⟩
end Go.Proofs.YtngichjgfppnpaaGreatDoor
namespace Go.Proofs.YtngichjgfppnpaaGreatDoor
open Go.RowKit Go.Shelf
set_option linter.unusedVariables false

theorem two_pw (n : Nat) : 2 * pw n ≤ pw (n + 1) := by
  show _ ≤ 18446744073709551616 * pw n
  have := pw_pos n
  omega
theorem add_fits {P Q x y z : Int} (w1 : P ≤ Q) (w2 : 2 * P ≤ Q) (h1 : (x.natAbs : Int) < P) (h2 : (y.natAbs : Int) < P) (h3 : z < P) : (x.natAbs : Int) < Q ∧ (y.natAbs : Int) < Q ∧ ((x + y).natAbs : Int) < Q ∧ z < Q := by omega
structure AddP (v1 v2 : Rat) (g A B : Int) : Prop where
  g0 : g ≠ 0
  gl : g < pw 4096
  f1 : ((v1.num * B).natAbs : Int) < pw 4096
  f2 : ((v2.num * A).natAbs : Int) < pw 4096
  f3 : ((v1.num * B + v2.num * A).natAbs : Int) < pw 4096
  f4 : A * B < pw 4096
  f5 : ∀ v : Rat, Short v → A * B * (v.den : Int) < pw 4096
  num : (v1 + v2).num = (Rat.divInt (v1.num * B + v2.num * A) g).num
  den : ((v1 + v2).den : Int) = A * B * (Rat.divInt (v1.num * B + v2.num * A) g).den
  lng : Short (v1 + v2) → Short (Rat.divInt (v1.num * B + v2.num * A) g)
theorem add_parts {v1 v2 : Rat} (h1 : Short v1) (h2 : Short v2) {g A B : Int} (hg : g = (Int.gcd (v1.den : Int) (v2.den : Int) : Nat)) (A0 : 0 ≤ A) (B0 : 0 ≤ B) (hA : A * g = v1.den) (hB : B * g = v2.den) : AddP v1 v2 g A B := by
  obtain ⟨ad, rfl⟩ := Int.eq_ofNat_of_zero_le A0
  obtain ⟨bd, rfl⟩ := Int.eq_ofNat_of_zero_le B0
  have hg2 : g = ((Nat.gcd v1.den v2.den : Nat) : Int) := hg
  subst hg2
  have ha' : ad * Nat.gcd v1.den v2.den = v1.den := by exact_mod_cast hA
  have hb' : bd * Nat.gcd v1.den v2.den = v2.den := by exact_mod_cast hB
  obtain ⟨e1, e2⟩ := rat_add_low v1 v2 rfl ha' hb'
  have p1 := v1.den_pos
  have p2 := v2.den_pos
  have g0 : 0 < Nat.gcd v1.den v2.den := Nat.gcd_pos_of_pos_left _ p1
  have gle : Nat.gcd v1.den v2.den ≤ v1.den := Nat.gcd_le_left _ p1
  have a1 : ad ≤ v1.den := by rw [← ha']; exact Nat.le_mul_of_pos_right _ g0
  have b1 : bd ≤ v2.den := by rw [← hb']; exact Nat.le_mul_of_pos_right _ g0
  have a0 : 1 ≤ ad := by rcases Nat.eq_zero_or_pos ad with h | h; · rw [h] at ha'; omega
                         · exact h
  have b0 : 1 ≤ bd := by rcases Nat.eq_zero_or_pos bd with h | h; · rw [h] at hb'; omega
                         · exact h
  have m1 : ((v1.num * (bd : Int)).natAbs : Int) < pw 2048 := by
    rw [Int.natAbs_mul, Int.natCast_mul]
    exact rt_fits (by omega) (by omega) h1.1 (show ((Int.natAbs (bd : Int) : Nat) : Int) < pw 1024 from Int.lt_of_le_of_lt (by exact_mod_cast b1) h2.2) (by omega)
  have m2 : ((v2.num * (ad : Int)).natAbs : Int) < pw 2048 := by
    rw [Int.natAbs_mul, Int.natCast_mul]
    exact rt_fits (by omega) (by omega) h2.1 (show ((Int.natAbs (ad : Int) : Nat) : Int) < pw 1024 from Int.lt_of_le_of_lt (by exact_mod_cast a1) h1.2) (by omega)
  have m3 : (ad : Int) * bd < pw 2048 := rt_fits (by omega) (by omega) (Int.lt_of_le_of_lt (by exact_mod_cast a1) h1.2) (Int.lt_of_le_of_lt (by exact_mod_cast b1) h2.2) (by omega)
  have w1 : pw 2048 ≤ pw 4096 := pw_mono (by omega)
  have w2 : 2 * pw 2048 ≤ pw 4096 := by
    exact Int.le_trans (two_pw 2048) (pw_mono (by omega))
  obtain ⟨q1, q2, q3, q4⟩ := add_fits w1 w2 m1 m2 m3
  refine ⟨by omega, ?_, q1, q2, q3, q4, ?_, e1, ?_, ?_⟩
  · exact Int.lt_of_lt_of_le (Int.lt_of_le_of_lt (by exact_mod_cast gle) h1.2) (pw_mono (by omega))
  · intro v hv
    exact rt_fits (Int.mul_nonneg (by omega) (by omega)) (by omega) m3 hv.2 (by omega)
  · rw [e2]; simp
  · intro h
    refine ⟨by rw [← e1]; exact h.1, Int.lt_of_le_of_lt ?_ h.2⟩
    rw [e2]
    exact_mod_cast Nat.le_mul_of_pos_left _ (Nat.mul_pos a0 b0)
end Go.Proofs.YtngichjgfppnpaaGreatDoor
namespace Go.Proofs.YtngichjgfppnpaaGreatDoor
open Go.RowKit Go.Shelf
set_option linter.unusedVariables false

def Rr (w : World) (s : Bool) (a : Option Addr) (l c : Nat) (zs : List Int) (b : Option Addr) (m d : Nat) (ys : List Int) (v : Rat) : Prop :=
  Sl w a l zs ∧ Sl w b m ys ∧ usedN zs = l ∧ usedN ys = m ∧ (l ≤ c ∧ m ≤ d) ∧ iv s zs = v.num ∧ num ys = v.den ∧ (s = true → num zs ≠ 0)
theorem Rr.after {w w' : World} (hb : Below w.heap.size w w') {s : Bool} {a : Option Addr} {l c : Nat} {zs : List Int} {b : Option Addr} {m d : Nat} {ys : List Int} {v : Rat} (h : Rr w s a l c zs b m d ys v) : Rr w' s a l c zs b m d ys v := ⟨h.1.below hb (Nat.le_refl _), h.2.1.below hb (Nat.le_refl _), h.2.2⟩
theorem Rr.drw {w : World} {s : Bool} {a : Option Addr} {l c : Nat} {zs : List Int} {b : Option Addr} {m d : Nat} {ys : List Int} {v : Rat} (h : Rr w s a l c zs b m d ys v) : Rr w.drew s a l c zs b m d ys v := h
theorem Rr.far {w : World} {s : Bool} {a : Option Addr} {l c : Nat} {zs : List Int} {b : Option Addr} {m d : Nat} {ys : List Int} {v : Rat} (h : Rr w s a l c zs b m d ys v) {b' : Nat} {t : TypeId} {cs : Array Value} (V : Va w b' t cs) (hn : NoInt cs) {w' : World} (k : ∀ c, c ≠ b' → w'.heap[c]? = w.heap[c]?) : Rr w' s a l c zs b m d ys v := ⟨h.1.far V hn k, h.2.1.far V hn k, h.2.2⟩
theorem div_exact {x g q r : Int} (e : x = q * g + r) (r0 : 0 ≤ r) (hr : r < g) (hd : g ∣ x) : q * g = x := by
  obtain ⟨k, hk⟩ := hd
  have e2 : r = g * (k - q) := by rw [Int.mul_sub, ← hk, e, Int.mul_comm g]; omega
  rcases Int.lt_or_le (k - q) 1 with h1 | h1
  · have := Int.mul_le_mul_of_nonneg_left (show k - q ≤ 0 by omega) (show 0 ≤ g by omega); rw [Int.mul_zero] at this; omega
  · have := Int.mul_le_mul_of_nonneg_left h1 (show 0 ≤ g by omega); rw [Int.mul_one] at this; omega
theorem make_parts {n : Bool} {z0 z1 zg qs rs : List Int} (h0 : 0 ≤ num z0) (h1 : 0 < num z1) (hg : num zg = (Int.gcd (num z0) (num z1) : Nat)) (q0 : 0 ≤ num qs) (r0 : 0 ≤ num rs)
    (e1 : num qs * num zg = num z0) (e2 : num rs * num zg = num z1) : iv (n && decide (num qs ≠ 0)) qs = (Rat.divInt (iv n z0) (num z1)).num ∧ num rs = (Rat.divInt (iv n z0) (num z1)).den := by
  have hA : num z0 = ((iv n z0).natAbs : Int) := by cases n <;> simp only [iv_t, iv_f] <;> omega
  have hB : num z1 = ((num z1).natAbs : Int) := by omega
  have hq : (num qs = 0) ↔ (num z0 = 0) := by
    constructor
    · intro h; rw [h, Int.zero_mul] at e1; exact e1.symm
    · intro h
      rw [h] at e1
      rcases Int.mul_eq_zero.1 e1 with h' | h'
      · exact h'
      · rw [h', Int.mul_zero] at e2; omega
  have hr : num rs ≠ 0 := by intro h; rw [h, Int.zero_mul] at e2; omega
  obtain ⟨p1, p2⟩ := new_parts (X := iv n z0) (Y := num z1) (X' := iv n z0) (by omega) (by rw [if_neg (by omega)]) hA hB hg e1 e2 q0 r0 (b := n && decide (num qs ≠ 0)) (by
    cases n
    · rw [iv_f]; simp; exact h0
    · rw [iv_t]
      by_cases h : num qs = 0
      · rw [hq.1 h]; simp [h]
      · have hz : ¬ num z0 = 0 := fun h' => h (hq.2 h')
        rw [Int.sign_eq_neg_one_of_neg (by omega)]; simp [h])
  refine ⟨p1, ?_⟩
  rw [← p2]; unfold dn; rw [if_neg hr]

theorem rabs5 (x : Int) (h1 : -9223372036854775808 ≤ x) (h2 : x ≤ 9223372036854775807) (w : World) :
    Calls Tryz.prog 104 #[.int .i64 x] w fun e w' => e = .returned (.int .u64 (x.natAbs : Int)) ∧ Below w.heap.size w w' := by
  by_cases hx : x < 0
  · have e1 : IntKind.i64.wrap (x + 1) = x + 1 := by rw [IntKind.wrap_i64]; omega
    have e2 : IntKind.i64.wrap (-(x + 1)) = -(x + 1) := by rw [IntKind.wrap_i64]; omega
    have e3 : IntKind.u64.wrap (-(x + 1)) = -(x + 1) := by rw [IntKind.wrap_u64]; omega
    have e4 : IntKind.u64.wrap (-(x + 1) + 1) = (x.natAbs : Int) := by rw [IntKind.wrap_u64]; omega
    go_enter Tryz.func104, Tryz.ntmps104
    go_wp2_with fail
    go_ret
    exact ⟨rfl, Below.refl _ _⟩
  · have e1 : IntKind.u64.wrap x = (x.natAbs : Int) := by rw [IntKind.wrap_u64]; omega
    go_enter Tryz.func104, Tryz.ntmps104
    go_wp2_with fail
    go_ret
    exact ⟨rfl, Below.refl _ _⟩

set_option maxHeartbeats 4000000 in
theorem rmake5 (n : Bool) (a0 a1 : Option Addr) (l0 k0 l1 k1 : Nat) (z0 z1 : List Int) (w : World) (h0 : Sl w a0 l0 z0) (h1 : Sl w a1 l1 z1) (c0 : l0 ≤ k0) (c1 : l1 ≤ k1) (t0 : l0 ≤ 1000000) (t1 : l1 ≤ 1000000) (u0 : usedN z0 ≤ 4096) (u1 : usedN z1 ≤ 4096) (hz : num z1 ≠ 0) :
    Calls Tryz.prog 73 #[.bool n, .slice a0 l0 k0, .slice a1 l1 k1] w fun e w' => ∃ s' a' l' c' zs' b' m' d' ys', e = .returned (.agg #[.bool s', .slice a' l' c', .slice b' m' d']) ∧ Rr w' s' a' l' c' zs' b' m' d' ys' (Rat.divInt (iv n z0) (num z1)) ∧ l' ≤ 2 * l0 ∧ m' ≤ 2 * l1 ∧ Below w.heap.size w w' := by
  have B0 : Below w.heap.size w w := Below.refl _ _
  have p0 := num_nonneg h0.2.1
  have p1 := num_nonneg h1.2.1
  go_enter Tryz.func73, Tryz.ntmps73
  go_wp2_with fail
  refine ent1 w _ _ (Q := fun W => Calls Tryz.prog _ _ W _) ?_
  intro x1 hb hs_x1 V0
  replace h0 := Sl.after hb h0
  replace h1 := Sl.after hb h1
  replace B0 := step B0 hb
  clear hb hs_x1
  refine (rgcd_n a0 a1 l0 k0 l1 k1 z0 z1 x1 h0 h1 c0 c1 (by omega) (by omega) u0 u1).mono ?_
  rintro e x2 ⟨ag, mg, cg, zg, rfl, hcg, hg, ug, eg, hb⟩
  replace V0 := V0.a hb
  replace h0 := Sl.after hb h0
  replace h1 := Sl.after hb h1
  replace B0 := step B0 hb
  clear hb
  have HG : Hid (num zg ≠ 0 ∧ num zg ∣ num z0 ∧ num zg ∣ num z1) := by
    refine ⟨?_, ?_, ?_⟩
    · rw [eg]; exact gcd_ne hz
    · rw [eg]; exact Int.gcd_dvd_left ..
    · rw [eg]; exact Int.gcd_dvd_right ..
  have hmg : mg ≤ 4096 := by
    have hgl : num zg ≤ num z1 := Int.le_of_dvd (by omega) HG.out.2.2
    have := used_of_lt hg.2.1 (Int.lt_of_le_of_lt hgl (lt_of_used h1.2.1 u1))
    omega
  have HE : Hid (num zg = (Int.gcd (num z0) (num z1) : Nat)) := eg
  clear eg ug
  go_wp2_with fail
  refine (rdivmod_n a0 ag l0 k0 mg cg z0 zg x2 h0 hg c0 (by omega) (by omega) HG.out.1).mono ?_
  rintro e x3 ⟨aq, mq, cq, qs, ax, mx, cx, xs, rfl, hq, uq, hcq, hx, ux, hcx, e1, x0, x1, lq, lx, hb⟩
  replace V0 := V0.a hb
  replace h0 := Sl.after hb h0
  replace h1 := Sl.after hb h1
  replace hg := Sl.after hb hg
  replace B0 := step B0 hb
  clear hb
  have EQ : Hid (num qs * num zg = num z0) := div_exact e1 x0 x1 HG.out.2.1
  clear e1 x0 x1 lx ux hcx hx
  go_wp2_with fail
  refine (rdivmod_n a1 ag l1 k1 mg cg z1 zg x3 h1 hg c1 (by omega) (by omega) HG.out.1).mono ?_
  rintro e x4 ⟨ar, mr, cr, rs, ax, mx, cx, xs, rfl, hr, ur, hcr, hx, ux, hcx, e1, x0, x1, lr, lx, hb⟩
  replace V0 := V0.a hb
  replace h0 := Sl.after hb h0
  replace h1 := Sl.after hb h1
  replace hg := Sl.after hb hg
  replace hq := Sl.after hb hq
  replace B0 := step B0 hb
  clear hb
  have ER : Hid (num rs * num zg = num z1) := div_exact e1 x0 x1 HG.out.2.2
  clear e1 x0 x1 lx ux hcx hx
  have HP := make_parts (n := n) p0 (by omega) HE.out (num_nonneg hq.2.1) (num_nonneg hr.2.1) EQ.out ER.out
  have HPP : Hid (iv (n && decide (num qs ≠ 0)) qs = (Rat.divInt (iv n z0) (num z1)).num ∧ num rs = (Rat.divInt (iv n z0) (num z1)).den) := HP
  have hqz : num qs = 0 ↔ mq = 0 := by rw [num_eq_zero hq.2.1, uq]
  clear HP HE EQ ER HG
  have szz := B0.size
  cases n
  ·
    have c_V0 := V0.d0
    have f0_V0 := V0.frozen 0
    have d_V0 := V0.d1
    have f1_V0 := V0.frozen 1
    have e_V0 := V0.d2
    have f2_V0 := V0.frozen 2
    have l_V0 := V0.lt
    have m_V0 := Nat.le_of_lt l_V0
    go_wp2_with fail
    refine bodyPost_ret (results_ra rfl rfl (V0.set3 _ _ _)) rfl ?_
    refine ⟨false, aq, mq, cq, qs, ar, mr, cr, rs, rfl, ?_, lq, lr, belo3 B0 (Nat.le_refl _) _ _ _⟩
    refine Rr.far (V := V0) (hn := noInt3 _ _ _ _ _ _ _) (k := fa3 _ _ _ _ _) ⟨hq, hr, uq, ur, ⟨hcq, hcr⟩, ?_, HPP.out.2, ?_⟩
    · exact HPP.out.1
    · intro h; cases h
  ·
    by_cases hm : mq = 0
    ·
      have hd : decide (num qs ≠ 0) = false := by simp; exact hqz.2 hm
      rw [hd] at HPP
      subst hm
      have c_V0 := V0.d0
      have f0_V0 := V0.frozen 0
      have d_V0 := V0.d1
      have f1_V0 := V0.frozen 1
      have e_V0 := V0.d2
      have f2_V0 := V0.frozen 2
      have l_V0 := V0.lt
      have m_V0 := Nat.le_of_lt l_V0
      go_wp2_with fail
      refine bodyPost_ret (results_ra rfl rfl (V0.set3 _ _ _)) rfl ?_
      refine ⟨false, aq, 0, cq, qs, ar, mr, cr, rs, rfl, ?_, lq, lr, belo3 B0 (Nat.le_refl _) _ _ _⟩
      refine Rr.far (V := V0) (hn := noInt3 _ _ _ _ _ _ _) (k := fa3 _ _ _ _ _) ⟨hq, hr, uq, ur, ⟨hcq, hcr⟩, ?_, HPP.out.2, ?_⟩
      · exact HPP.out.1
      · intro h; cases h
    ·
      have hd : decide (num qs ≠ 0) = true := by simp; exact fun h => hm (hqz.1 h)
      rw [hd] at HPP
      have hm2 : 0 < mq := Nat.pos_of_ne_zero hm
      have c_V0 := V0.d0
      have f0_V0 := V0.frozen 0
      have d_V0 := V0.d1
      have f1_V0 := V0.frozen 1
      have e_V0 := V0.d2
      have f2_V0 := V0.frozen 2
      have l_V0 := V0.lt
      have m_V0 := Nat.le_of_lt l_V0
      go_wp2_with fail
      refine bodyPost_ret (results_ra rfl rfl (V0.set3 _ _ _)) rfl ?_
      refine ⟨true, aq, mq, cq, qs, ar, mr, cr, rs, rfl, ?_, lq, lr, belo3 B0 (Nat.le_refl _) _ _ _⟩
      refine Rr.far (V := V0) (hn := noInt3 _ _ _ _ _ _ _) (k := fa3 _ _ _ _ _) ⟨hq, hr, uq, ur, ⟨hcq, hcr⟩, ?_, HPP.out.2, ?_⟩
      · exact HPP.out.1
      · intro _; exact of_decide_eq_true hd

theorem small_div {x y : Int} (hy : y ≠ 0) {z0 z1 : List Int} (e0 : num z0 = (x.natAbs : Int)) (e1 : num z1 = (y.natAbs : Int)) : Rat.divInt (iv (!(decide (x < 0) == decide (y < 0))) z0) (num z1) = Rat.divInt x y := by
  rcases Int.lt_or_le y 0 with h | h
  · have e2 : num z1 = -y := by omega
    rw [e2, ← Rat.neg_divInt_neg x y]
    congr 1
    rcases Int.lt_or_le x 0 with h' | h'
    · simp [h, h', iv_f]; omega
    · have : ¬ x < 0 := by omega
      simp [h, this, iv_t]; omega
  · have e2 : num z1 = y := by omega
    have h2 : ¬ y < 0 := by omega
    rw [e2]
    congr 1
    rcases Int.lt_or_le x 0 with h' | h'
    · simp [h2, h', iv_t]; omega
    · have : ¬ x < 0 := by omega
      simp [h2, this, iv_f]; omega
set_option maxHeartbeats 4000000 in
theorem rsmall5 (x y : Int) (h1 : -9223372036854775808 ≤ x) (h2 : x ≤ 9223372036854775807) (h3 : -9223372036854775808 ≤ y) (h4 : y ≤ 9223372036854775807) (h0 : y ≠ 0) (w : World) :
    Calls Tryz.prog 75 #[.int .i64 x, .int .i64 y] w fun e w' => ∃ s' a' l' c' zs' b' m' d' ys', e = .returned (.agg #[.bool s', .slice a' l' c', .slice b' m' d']) ∧ Rr w' s' a' l' c' zs' b' m' d' ys' (Rat.divInt x y) ∧ l' ≤ 2 ∧ m' ≤ 2 ∧ Below w.heap.size w w' := by
  have B0 : Below w.heap.size w w := Below.refl _ _
  go_enter Tryz.func75, Tryz.ntmps75
  go_wp2_with fail
  refine ent1 w _ _ (Q := fun W => Calls Tryz.prog _ _ W _) ?_
  intro x1 hb hs_x1 V0
  replace B0 := step B0 hb
  clear hb hs_x1
  refine (rabs5 x h1 h2 x1).mono ?_
  rintro e x2 ⟨rfl, hb⟩
  replace V0 := V0.a hb
  replace B0 := step B0 hb
  clear hb
  go_wp2_with fail
  refine (rsmall_any (x.natAbs : Int) ⟨by omega, by omega⟩ x2).mono ?_
  rintro e x3 ⟨a0, l0, k0, z0, rfl, c0, t0, s0, u0, n0, hb⟩
  replace V0 := V0.a hb
  replace B0 := step B0 hb
  clear hb
  go_wp2_with fail
  refine (rabs5 y h3 h4 x3).mono ?_
  rintro e x4 ⟨rfl, hb⟩
  replace V0 := V0.a hb
  replace s0 := Sl.after hb s0
  replace B0 := step B0 hb
  clear hb
  go_wp2_with fail
  refine (rsmall_any (y.natAbs : Int) ⟨by omega, by omega⟩ x4).mono ?_
  rintro e x5 ⟨a1, l1, k1, z1, rfl, c1, t1, s1, u1, n1, hb⟩
  replace V0 := V0.a hb
  replace s0 := Sl.after hb s0
  replace B0 := step B0 hb
  clear hb
  go_wp2_with fail
  refine (rmake5 _ a0 a1 l0 k0 l1 k1 z0 z1 x5 s0 s1 c0 c1 (by omega) (by omega) (by omega) (by omega) (by omega)).mono ?_
  rintro e x6 ⟨s', a', l', c', zs', b', m', d', ys', rfl, h', g1, g2, hb⟩
  replace V0 := V0.a hb
  replace s0 := Sl.after hb s0
  replace s1 := Sl.after hb s1
  replace B0 := step B0 hb
  clear hb
  rw [small_div h0 n0 n1] at h'
  have c_V0 := V0.d0
  have f0_V0 := V0.frozen 0
  have d_V0 := V0.d1
  have f1_V0 := V0.frozen 1
  have e_V0 := V0.d2
  have f2_V0 := V0.frozen 2
  have l_V0 := V0.lt
  have m_V0 := Nat.le_of_lt l_V0
  go_wp2_with fail
  refine bodyPost_ret (results_ra rfl rfl (V0.set3 _ _ _)) rfl ?_
  exact ⟨s', a', l', c', zs', b', m', d', ys', rfl, h'.far V0 (noInt3 _ _ _ _ _ _ _) (fa3 _ _ _ _ _), by omega, by omega, belo3 B0 (Nat.le_refl _) _ _ _⟩

theorem rint5 (x : Int) (h1 : -9223372036854775808 ≤ x) (h2 : x ≤ 9223372036854775807) (w : World) :
    Calls Tryz.prog 31 #[.int .i64 x] w fun e w' => ∃ s' a' l' c' zs' b' m' d' ys', e = .returned (.agg #[.bool s', .slice a' l' c', .slice b' m' d']) ∧ Rr w' s' a' l' c' zs' b' m' d' ys' (Rat.divInt x 1) ∧ l' ≤ 2 ∧ m' ≤ 2 ∧ Below w.heap.size w w' := by
  have B0 : Below w.heap.size w w := Below.refl _ _
  go_enter Tryz.func31, Tryz.ntmps31
  go_wp2_with fail
  refine ent1 w _ _ (Q := fun W => Calls Tryz.prog _ _ W _) ?_
  intro x1 hb hs_x1 V0
  replace B0 := step B0 hb
  clear hb hs_x1
  refine (rsmall5 x 1 h1 h2 (by omega) (by omega) (by omega) x1).mono ?_
  rintro e x2 ⟨s', a', l', c', zs', b', m', d', ys', rfl, h', g1, g2, hb⟩
  replace V0 := V0.a hb
  replace B0 := step B0 hb
  clear hb
  have c_V0 := V0.d0
  have f0_V0 := V0.frozen 0
  have d_V0 := V0.d1
  have f1_V0 := V0.frozen 1
  have e_V0 := V0.d2
  have f2_V0 := V0.frozen 2
  have l_V0 := V0.lt
  have m_V0 := Nat.le_of_lt l_V0
  go_wp2_with fail
  refine bodyPost_ret (results_ra rfl rfl (V0.set3 _ _ _)) rfl ?_
  exact ⟨s', a', l', c', zs', b', m', d', ys', rfl, h'.far V0 (noInt3 _ _ _ _ _ _ _) (fa3 _ _ _ _ _), g1, g2, belo3 B0 (Nat.le_refl _) _ _ _⟩
end Go.Proofs.YtngichjgfppnpaaGreatDoor
namespace Go.Proofs.YtngichjgfppnpaaGreatDoor
open Go.RowKit Go.Shelf

def marks : Nat → List Int
  | 0 => []
  | k + 1 => marks k ++ [8000024 + (k : Int)]
end Go.Proofs.YtngichjgfppnpaaGreatDoor
namespace Go.Proofs.YtngichjgfppnpaaGreatDoor
open Go.RowKit Go.Shelf
set_option linter.unusedVariables false

end Go.Proofs.YtngichjgfppnpaaGreatDoor
namespace Go.Proofs.YtngichjgfppnpaaGreatDoor
open Go.RowKit Go.Shelf
set_option linter.unusedVariables false

def rise (m half : Int) (odd : Bool) : Bool :=
  if m = 1 then false else if m = 2 then true else if m = 3 then decide (0 ≤ half) else if m = 4 then decide (0 < half) else (decide (0 < half) || (decide (half = 0) && odd))
end Go.Proofs.YtngichjgfppnpaaGreatDoor
