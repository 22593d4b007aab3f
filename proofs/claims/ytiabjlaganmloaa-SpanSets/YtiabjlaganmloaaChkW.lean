/-
  The walk of SpanChecks; the document's May, Check, Meet.
-/
import Derived.Test.YtiabjlaganmloaaSpM
import Derived.Test.YtiabjlaganmloaaSp9
import Derived.Test.YtiabjlaganmloaaSpF
import Derived.Deep.RegionHeld3
namespace Go.Proofs.Ytiabjlaganmloaa
open Go.RowKit Go.Shelf
set_option linter.unusedVariables false

noncomputable def mayB (p : Pr) : Bool := @decide (May p) (Classical.propDecidable _)
theorem mayB_true {p : Pr} (h : May p) : mayB p = true := @decide_eq_true _ (Classical.propDecidable _) h
theorem mayB_false {p : Pr} (h : ¬ May p) : mayB p = false := @decide_eq_false _ (Classical.propDecidable _) h
set_option maxHeartbeats 1000000 in
theorem rmay_any (x y : Int) (w : World) :
    Calls Try.prog 42 #[.agg #[.int .i64 x, .int .i64 y]] w fun e w' => e = .returned (.bool (mayB (x, y))) ∧ w' = w.alloc (.cells #[.int .i64 x, .int .i64 y] 24) := by
  by_cases h : May (x, y)
  · rw [mayB_true h]
    unfold May at h
    dsimp only at h
    have h1 : 0 ≤ x := by omega
    have h2 : x < y := by omega
    have h3 : y ≤ 3652059 := by omega
    clear h
    go_enter Try.func42, Try.ntmps42
    go_wp2_with fail
    go_ret
    exact ⟨rfl, rfl⟩
  · rw [mayB_false h]
    by_cases h1 : 0 ≤ x
    · by_cases h2 : x < y
      · have h3 : ¬ y ≤ 3652059 := by unfold May at h; dsimp only at h; omega
        clear h
        go_enter Try.func42, Try.ntmps42
        go_wp2_with fail
        go_ret
        exact ⟨rfl, rfl⟩
      · clear h
        go_enter Try.func42, Try.ntmps42
        go_wp2_with fail
        go_ret
        exact ⟨rfl, rfl⟩
    · clear h
      go_enter Try.func42, Try.ntmps42
      go_wp2_with fail
      go_ret
      exact ⟨rfl, rfl⟩
theorem rcheck_any (x y : Int) (w : World) :
    Calls Try.prog 13 #[.agg #[.int .i64 x, .int .i64 y]] w fun e w' => e = .returned (.int .i64 (chk (x, y))) ∧ Below w.heap.size w w' := by
  have hm := fun W => rmay_any x y W
  by_cases h : May (x, y)
  · rw [mayB_true h] at hm
    rw [chk_ok h]
    clear h
    go_enter Try.func13, Try.ntmps13
    go_wp2_with (go_at_call 42; refine (hm _).mono ?_; rintro e w' ⟨rfl, rfl⟩)
    go_ret
    refine ⟨rfl, ?_⟩
    repeat (refine RowKit.Below.alloc ?_ (by simp <;> omega) _)
    exact Below.refl _ _
  · rw [mayB_false h] at hm
    rw [chk_no h]
    clear h
    go_enter Try.func13, Try.ntmps13
    go_wp2_with (go_at_call 42; refine (hm _).mono ?_; rintro e w' ⟨rfl, rfl⟩)
    go_ret
    refine ⟨rfl, ?_⟩
    repeat (refine RowKit.Below.alloc ?_ (by simp <;> omega) _)
    exact Below.refl _ _
set_option maxRecDepth 20000 in
set_option maxHeartbeats 2000000 in
theorem rmeet_core (x0 x1 y0 y1 : Int) (w : World) (h1 : May (x0, x1)) (h2 : May (y0, y1)) (r : Pr) (ok : Bool) (hr : (max x0 y0 < min x1 y1 ∧ r = (max x0 y0, min x1 y1) ∧ ok = true) ∨ (¬ max x0 y0 < min x1 y1 ∧ r = (0, 0) ∧ ok = false)) :
    Calls Try.prog 10 #[.agg #[.int .i64 x0, .int .i64 x1], .agg #[.int .i64 y0, .int .i64 y1]] w fun e w' => e = .returned (.tuple #[.agg #[.int .i64 r.1, .int .i64 r.2], .bool ok]) ∧ Below w.heap.size w w' := by
  have k1 := fun W => rmay_any x0 x1 W
  have k2 := fun W => rmay_any y0 y1 W
  rw [mayB_true h1] at k1
  rw [mayB_true h2] at k2
  clear h1 h2
  rcases hr with ⟨hc, rfl, rfl⟩ | ⟨hc, rfl, rfl⟩
  · have hd : decide (min x1 y1 ≤ max x0 y0) = false := decide_eq_false (by omega)
    go_enter Try.func10, Try.ntmps10
    go_wp2_with fail
    refine (k1 _).mono ?_
    rintro e w' ⟨rfl, rfl⟩
    go_wp2_with fail
    refine (k2 _).mono ?_
    rintro e w' ⟨rfl, rfl⟩
    go_wp2_with fail
    · refine bodyPost_ret (results_zt rfl rfl (by simp [go_sem]; rfl) (by simp [go_sem]; rfl)) rfl ?_
      refine ⟨rfl, ?_⟩
      repeat (refine RowKit.Below.alloc ?_ (by simp <;> omega) _)
      exact Below.refl _ _
  · have hd : decide (min x1 y1 ≤ max x0 y0) = true := decide_eq_true (by omega)
    go_enter Try.func10, Try.ntmps10
    go_wp2_with fail
    refine (k1 _).mono ?_
    rintro e w' ⟨rfl, rfl⟩
    go_wp2_with fail
    refine (k2 _).mono ?_
    rintro e w' ⟨rfl, rfl⟩
    go_wp2_with fail
    · refine bodyPost_ret (results_zt rfl rfl (by simp [go_sem]; rfl) (by simp [go_sem]; rfl)) rfl ?_
      refine ⟨rfl, ?_⟩
      repeat (refine RowKit.Below.alloc ?_ (by simp <;> omega) _)
      exact Below.refl _ _
set_option maxRecDepth 20000 in
set_option maxHeartbeats 2000000 in
theorem rmeet_bad (x0 x1 y0 y1 : Int) (w : World) (h : ¬ (May (x0, x1) ∧ May (y0, y1))) :
    Calls Try.prog 10 #[.agg #[.int .i64 x0, .int .i64 x1], .agg #[.int .i64 y0, .int .i64 y1]] w fun e w' => e = .returned (.tuple #[.agg #[.int .i64 0, .int .i64 0], .bool false]) ∧ Below w.heap.size w w' := by
  have k1 := fun W => rmay_any x0 x1 W
  have k2 := fun W => rmay_any y0 y1 W
  by_cases h1 : May (x0, x1)
  · rw [mayB_true h1] at k1
    rw [mayB_false (fun h2 => h ⟨h1, h2⟩)] at k2
    clear h h1
    go_enter Try.func10, Try.ntmps10
    go_wp2_with fail
    refine (k1 _).mono ?_
    rintro e w' ⟨rfl, rfl⟩
    go_wp2_with fail
    refine (k2 _).mono ?_
    rintro e w' ⟨rfl, rfl⟩
    go_wp2_with fail
    refine bodyPost_ret (results_zt rfl rfl (by simp [go_sem]; rfl) (by simp [go_sem]; rfl)) rfl ?_
    refine ⟨rfl, ?_⟩
    repeat (refine RowKit.Below.alloc ?_ (by simp <;> omega) _)
    exact Below.refl _ _
  · rw [mayB_false h1] at k1
    clear h h1
    go_enter Try.func10, Try.ntmps10
    go_wp2_with fail
    refine (k1 _).mono ?_
    rintro e w' ⟨rfl, rfl⟩
    go_wp2_with fail
    refine bodyPost_ret (results_zt rfl rfl (by simp [go_sem]; rfl) (by simp [go_sem]; rfl)) rfl ?_
    refine ⟨rfl, ?_⟩
    repeat (refine RowKit.Below.alloc ?_ (by simp <;> omega) _)
    exact Below.refl _ _
theorem rmeet_any (p q : Pr) (w : World) :
    Calls Try.prog 10 #[.agg #[.int .i64 p.1, .int .i64 p.2], .agg #[.int .i64 q.1, .int .i64 q.2]] w fun e w' => e = .returned (.tuple #[.agg #[.int .i64 (mtP p q).1, .int .i64 (mtP p q).2], .bool (mtB p q)]) ∧ Below w.heap.size w w' := by
  by_cases h : May p ∧ May q
  · refine rmeet_core p.1 p.2 q.1 q.2 w h.1 h.2 (mtP p q) (mtB p q) ?_
    by_cases hl : max p.1 q.1 < min p.2 q.2
    · have hm : Mts p q := ⟨h.1, h.2, hl⟩
      exact .inl ⟨hl, by unfold mtP; rw [mtB_true hm]; rfl, mtB_true hm⟩
    · have hm : ¬ Mts p q := fun hm => hl hm.2.2
      exact .inr ⟨hl, by unfold mtP; rw [mtB_false hm]; rfl, mtB_false hm⟩
  · have hm : ¬ Mts p q := fun hm => h ⟨hm.1, hm.2.1⟩
    have e : mtP p q = (0, 0) := by unfold mtP; rw [mtB_false hm]; rfl
    rw [e, mtB_false hm]
    exact rmeet_bad p.1 p.2 q.1 q.2 w h
theorem below_new {w w' : World} {o : Obj} (h : w' = w.alloc o) : Below w.heap.size w w' := by rw [h]; exact (Below.refl _ _).alloc (Nat.le_refl _) _
theorem va_cells {W2 X : World} {b : Nat} {t : TypeId} {x y : Value} (h : Va W2 b t #[x, y]) (hb : Below W2.heap.size W2 X) : X.cell? ⟨b, 0, none⟩ = some x ∧ X.cell? ⟨b, 1, none⟩ = some y := ⟨(h.after hb).c0, (h.after hb).c1⟩
/-- Three variables through a statement. -/
theorem chk_keep {b2 b5 b7 : Nat} {x0 x1 m0 m1 : Int} {W2 X y : World} (h : X.cell? ⟨b2, 0, none⟩ = some (.int .i64 x0) ∧ X.cell? ⟨b2, 1, none⟩ = some (.int .i64 x1) ∧ X.cell? ⟨b5, 0, none⟩ = some (.int .i64 m0) ∧ X.cell? ⟨b5, 1, none⟩ = some (.int .i64 m1) ∧ X.cell? ⟨b7, 0, none⟩ = some (.int .i64 m0) ∧ X.cell? ⟨b7, 1, none⟩ = some (.int .i64 m1) ∧ Hid (Below W2.heap.size W2 X)) (hb : Below X.heap.size X y) :
    y.cell? ⟨b2, 0, none⟩ = some (.int .i64 x0) ∧ y.cell? ⟨b2, 1, none⟩ = some (.int .i64 x1) ∧ y.cell? ⟨b5, 0, none⟩ = some (.int .i64 m0) ∧ y.cell? ⟨b5, 1, none⟩ = some (.int .i64 m1) ∧ y.cell? ⟨b7, 0, none⟩ = some (.int .i64 m0) ∧ y.cell? ⟨b7, 1, none⟩ = some (.int .i64 m1) ∧ Hid (Below W2.heap.size W2 y) := by
  obtain ⟨h1, h2, h3, h4, h5, h6, h7⟩ := h
  exact ⟨(hb.cell (p := ⟨b2, 0, none⟩) (cell_lt h1)).trans h1, (hb.cell (p := ⟨b2, 1, none⟩) (cell_lt h2)).trans h2, (hb.cell (p := ⟨b5, 0, none⟩) (cell_lt h3)).trans h3, (hb.cell (p := ⟨b5, 1, none⟩) (cell_lt h4)).trans h4, (hb.cell (p := ⟨b7, 0, none⟩) (cell_lt h5)).trans h5, (hb.cell (p := ⟨b7, 1, none⟩) (cell_lt h6)).trans h6, step h7.out hb⟩
set_option maxRecDepth 20000 in
set_option maxHeartbeats 4000000 in
theorem checks_walk (x0 x1 y0 y1 : Int) (w : World) (g0 : b64 x0) (g1 : b64 x1) (g2 : b64 y0) (g3 : b64 y1) :
    Calls Try.prog 3 #[.agg #[.int .i64 x0, .int .i64 x1], .agg #[.int .i64 y0, .int .i64 y1]] w fun e w' => e = .returned (.bool true) ∧ Below w.heap.size w w' := by
  have km := fun W => meet_any (x0, x1) (y0, y1) W
  have kr := fun W => rmeet_any (x0, x1) (y0, y1) W
  dsimp only at km kr
  generalize (mtP (x0, x1) (y0, y1)).1 = m0 at *
  generalize (mtP (x0, x1) (y0, y1)).2 = m1 at *
  generalize mtB (x0, x1) (y0, y1) = ok at *
  have es := eqS
  have ee : sp2 m0 m1 m0 m1 = true := sp2_true rfl
  have eo : (ok == ok) = true := by simp
  go_enter Try.func3, Try.ntmps3
  go_wp2_with fail
  refine ent2 w _ _ _ _ (Q := fun W => Calls _ _ _ W _) ?_
  intro W0 hB0 hsz V0 V1
  refine (km _).mono ?_
  rintro e W1 ⟨rfl, hb1⟩
  have u0 := (V0.after hb1).c0
  have u1 := (V0.after hb1).c1
  have t0 := (V1.after hb1).c0
  have t1 := (V1.after hb1).c1
  have l0 := (V0.after hb1).lt
  have l1 := (V1.after hb1).lt
  have HB1 : Hid (Below w.heap.size w W1) := step hB0 hb1
  have HV0 : Hid (Va W1 w.heap.size 24 #[.int .i64 x0, .int .i64 x1]) := V0.after hb1
  clear V0 V1 hB0 hb1 hsz
  go_wp2_with fail
  refine ent1 W1 _ _ (Q := fun W => Calls _ _ _ W _) ?_
  intro W2 hB2 hs2 V2
  refine (kr _).mono ?_
  rintro e W3 ⟨rfl, hb3⟩
  have HB3 : Hid (Below w.heap.size w W3) := HB1.out.trans ((hB2.mono (by omega)).trans (hb3.mono (by omega)))
  have HV5 : Hid (Va W3 W1.heap.size 24 #[.int .i64 m0, .int .i64 m1]) := V2.after hb3
  have HV2 : Hid (Va W3 w.heap.size 24 #[.int .i64 x0, .int .i64 x1]) := (HV0.out.after hB2).after hb3
  have l2 := HV2.out.lt
  have l5 := HV5.out.lt
  clear u0 u1 t0 t1 V2 hB2 hb3 hs2
  go_wp2_with fail
  refine ent1 W3 _ _ (Q := fun W => Code.wp Try.prog _ _ _ W) ?_
  intro W4 hB4 hs4 V7
  have HB4 : Hid (Below w.heap.size w W4) := step HB3.out hB4
  have V5 := HV5.out.after hB4
  have V2 := HV2.out.after hB4
  have hS0 : W4.drew.cell? ⟨w.heap.size, 0, none⟩ = some (.int .i64 x0) ∧ W4.drew.cell? ⟨w.heap.size, 1, none⟩ = some (.int .i64 x1) ∧ W4.drew.cell? ⟨W1.heap.size, 0, none⟩ = some (.int .i64 m0) ∧ W4.drew.cell? ⟨W1.heap.size, 1, none⟩ = some (.int .i64 m1) ∧ W4.drew.cell? ⟨W3.heap.size, 0, none⟩ = some (.int .i64 m0) ∧ W4.drew.cell? ⟨W3.heap.size, 1, none⟩ = some (.int .i64 m1) ∧ Hid (Below W4.heap.size W4 W4.drew) := ⟨V2.c0, V2.c1, V5.c0, V5.c1, V7.c0, V7.c1, ⟨rfl, rfl, rfl, Nat.le_refl _, fun _ _ => rfl⟩⟩
  have ec : (chk (x0, x1) == chk (x0, x1)) = true := by simp
  generalize hch : chk (x0, x1) = ch at *
  have HCH : Hid (chk (x0, x1) = ch) := hch
  clear hch V5 V2 V7 hB4 hs4 l0 l1 l2 l5 km kr
  go_region_held3 (fun X => X.cell? ⟨w.heap.size, 0, none⟩ = some (.int .i64 x0) ∧ X.cell? ⟨w.heap.size, 1, none⟩ = some (.int .i64 x1) ∧ X.cell? ⟨W1.heap.size, 0, none⟩ = some (.int .i64 m0) ∧ X.cell? ⟨W1.heap.size, 1, none⟩ = some (.int .i64 m1) ∧ X.cell? ⟨W3.heap.size, 0, none⟩ = some (.int .i64 m0) ∧ X.cell? ⟨W3.heap.size, 1, none⟩ = some (.int .i64 m1) ∧ Hid (Below W4.heap.size W4 X))
    (first | assumption)
    (first
      | (go_at_call 11; refine (awake_any _).mono ?_; rintro e y ⟨rfl, hby⟩; have hSy := chk_keep (b2 := w.heap.size) (b5 := W1.heap.size) (b7 := W3.heap.size) (x0 := x0) (x1 := x1) (m0 := m0) (m1 := m1) (W2 := W4) (by assumption) hby)
      | (go_at_call 12; refine (check_any x0 x1 _).mono ?_; rintro e y ⟨rfl, hey⟩; have hby := below_new hey; clear hey; have hSy := chk_keep (b2 := w.heap.size) (b5 := W1.heap.size) (b7 := W3.heap.size) (x0 := x0) (x1 := x1) (m0 := m0) (m1 := m1) (W2 := W4) (by assumption) hby; rw [HCH.out])
      | (go_at_call 13; refine (rcheck_any x0 x1 _).mono ?_; rintro e y ⟨rfl, hby⟩; have hSy := chk_keep (b2 := w.heap.size) (b5 := W1.heap.size) (b7 := W3.heap.size) (x0 := x0) (x1 := x1) (m0 := m0) (m1 := m1) (W2 := W4) (by assumption) hby; rw [HCH.out]))
  have hbz := hSy.2.2.2.2.2.2.out
  clear hSy
  go_wp2_with fail
  go_ret
  exact ⟨rfl, step HB4.out hbz⟩
end Go.Proofs.Ytiabjlaganmloaa
