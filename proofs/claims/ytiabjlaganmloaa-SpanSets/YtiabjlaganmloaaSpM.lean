/-
  span.Meet: the span of the days that two spans have in common.
-/
import Derived.Test.YtiabjlaganmloaaSp1
namespace Go.Proofs.Ytiabjlaganmloaa
open Go.RowKit Go.Shelf
set_option linter.unusedVariables false

/-- Two spans that may be, with a day in common. -/
def Mts (p q : Pr) : Prop := May p ∧ May q ∧ max p.1 q.1 < min p.2 q.2
theorem mts_may {p q : Pr} (h : Mts p q) : May (mt p q) := by
  obtain ⟨h1, h2, h3⟩ := h
  unfold May mt at *
  dsimp only
  omega
theorem mx_or (x y : Int) : (x < y ∧ max x y = y) ∨ (¬ x < y ∧ max x y = x) := by omega
theorem mn_or (x y : Int) : (y < x ∧ min x y = y) ∨ (¬ y < x ∧ min x y = x) := by omega
theorem results_zt {fn : Func} {i j b : Nat} {x y : Value} {tmps : Array Value} {w : World} (h : fn.results = #[.cell i 24, .tmp j]) (hi : tmps.getD i undef = .pointer (some ⟨b, 0, none⟩)) (hx : w.cell? ⟨b, 0, none⟩ = some x) (hy : w.cell? ⟨b, 1, none⟩ = some y) :
    (results fn tmps).run Try.prog w = .ok (.tuple #[.agg #[x, y], tmps.getD j undef]) w := by
  rw [Array.getD_eq_getD_getElem?] at hi
  simp [results, h, hi, hx, hy, go_sem]
set_option maxRecDepth 20000 in
set_option maxHeartbeats 2000000 in
theorem meet_core (x0 x1 y0 y1 X Y : Int) (w : World) (h1 : May (x0, x1)) (h2 : May (y0, y1)) (hX : (x0 < y0 ∧ X = y0) ∨ (¬ x0 < y0 ∧ X = x0)) (hY : (y1 < x1 ∧ Y = y1) ∨ (¬ y1 < x1 ∧ Y = x1)) (r : Pr) (ok : Bool) (hr : (X < Y ∧ r = (X, Y) ∧ ok = true) ∨ (Y ≤ X ∧ r = (0, 0) ∧ ok = false)) :
    Calls Try.prog 9 #[.agg #[.int .i64 x0, .int .i64 x1], .agg #[.int .i64 y0, .int .i64 y1]] w fun e w' => e = .returned (.tuple #[.agg #[.int .i64 r.1, .int .i64 r.2], .bool ok]) ∧ Below w.heap.size w w' := by
  have k1 := fun W => check_any x0 x1 W
  have k2 := fun W => check_any y0 y1 W
  have k3 := fun W => check_any X Y W
  rw [chk_ok h1] at k1
  rw [chk_ok h2] at k2
  have hc : (ok = true ∧ r = (X, Y) ∧ chk (X, Y) = 0) ∨ (ok = false ∧ r = (0, 0) ∧ chk (X, Y) = 110) := by
    rcases hr with ⟨ha, hb, hc⟩ | ⟨ha, hb, hc⟩
    · refine .inl ⟨hc, hb, chk_ok ?_⟩
      unfold May at *
      dsimp only at *
      omega
    · refine .inr ⟨hc, hb, chk_no (fun hm => ?_)⟩
      unfold May at hm
      dsimp only at hm
      omega
  clear hr h1 h2
  rcases hc with ⟨rfl, rfl, hc⟩ | ⟨rfl, rfl, hc⟩
  all_goals
    rw [hc] at k3
    clear hc
    rcases hX with ⟨hA, rfl⟩ | ⟨hA, rfl⟩ <;> rcases hY with ⟨hB, rfl⟩ | ⟨hB, rfl⟩
  all_goals
    go_enter Try.func9, Try.ntmps9
    go_wp2_with fail
    refine (k1 _).mono ?_
    rintro e w' ⟨rfl, rfl⟩
    go_wp2_with fail
    refine (k2 _).mono ?_
    rintro e w' ⟨rfl, rfl⟩
    go_wp2_with fail
    refine (k3 _).mono ?_
    rintro e w' ⟨rfl, rfl⟩
    go_wp2_with fail
    refine bodyPost_ret (results_zt rfl rfl (by simp [go_sem]; rfl) (by simp [go_sem]; rfl)) rfl ?_
    refine ⟨rfl, ?_⟩
    repeat (refine RowKit.Below.alloc ?_ (by simp <;> omega) _)
    exact Below.refl _ _
set_option maxRecDepth 20000 in
set_option maxHeartbeats 2000000 in
theorem meet_bad (x0 x1 y0 y1 : Int) (w : World) (h : ¬ (May (x0, x1) ∧ May (y0, y1))) :
    Calls Try.prog 9 #[.agg #[.int .i64 x0, .int .i64 x1], .agg #[.int .i64 y0, .int .i64 y1]] w fun e w' => e = .returned (.tuple #[.agg #[.int .i64 0, .int .i64 0], .bool false]) ∧ Below w.heap.size w w' := by
  have k1 := fun W => check_any x0 x1 W
  have k2 := fun W => check_any y0 y1 W
  by_cases h1 : May (x0, x1)
  · rw [chk_ok h1] at k1
    rw [chk_no (fun h2 => h ⟨h1, h2⟩)] at k2
    clear h h1
    go_enter Try.func9, Try.ntmps9
    go_wp2_with fail
    refine (k1 _).mono ?_
    rintro e w' ⟨rfl, rfl⟩
    go_wp2_with fail
    refine (k2 _).mono ?_
    rintro e w' ⟨rfl, rfl⟩
    go_wp2_with fail
    refine bodyPost_ret (results_zt rfl rfl (by simp [go_sem]; rfl) (by simp [go_sem]; rfl)) rfl ?_
    refine ⟨rfl, ?_⟩
    repeat (refine RowKit.Below.alloc ?_ (by simp <;> omega) _)
    exact Below.refl _ _
  · rw [chk_no h1] at k1
    clear h h1
    go_enter Try.func9, Try.ntmps9
    go_wp2_with fail
    refine (k1 _).mono ?_
    rintro e w' ⟨rfl, rfl⟩
    go_wp2_with fail
    refine bodyPost_ret (results_zt rfl rfl (by simp [go_sem]; rfl) (by simp [go_sem]; rfl)) rfl ?_
    refine ⟨rfl, ?_⟩
    repeat (refine RowKit.Below.alloc ?_ (by simp <;> omega) _)
    exact Below.refl _ _
/-- What Meet answers. -/
noncomputable def mtB (p q : Pr) : Bool := @decide (Mts p q) (Classical.propDecidable _)
noncomputable def mtP (p q : Pr) : Pr := if mtB p q then mt p q else (0, 0)
theorem mtB_true {p q : Pr} (h : Mts p q) : mtB p q = true := @decide_eq_true _ (Classical.propDecidable _) h
theorem mtB_false {p q : Pr} (h : ¬ Mts p q) : mtB p q = false := @decide_eq_false _ (Classical.propDecidable _) h
theorem meet_any (p q : Pr) (w : World) :
    Calls Try.prog 9 #[.agg #[.int .i64 p.1, .int .i64 p.2], .agg #[.int .i64 q.1, .int .i64 q.2]] w fun e w' => e = .returned (.tuple #[.agg #[.int .i64 (mtP p q).1, .int .i64 (mtP p q).2], .bool (mtB p q)]) ∧ Below w.heap.size w w' := by
  by_cases h : May p ∧ May q
  · refine meet_core p.1 p.2 q.1 q.2 (max p.1 q.1) (min p.2 q.2) w h.1 h.2 (mx_or _ _) (mn_or _ _) (mtP p q) (mtB p q) ?_
    by_cases hl : max p.1 q.1 < min p.2 q.2
    · have hm : Mts p q := ⟨h.1, h.2, hl⟩
      exact .inl ⟨hl, by unfold mtP; rw [mtB_true hm]; rfl, mtB_true hm⟩
    · have hm : ¬ Mts p q := fun hm => hl hm.2.2
      exact .inr ⟨by omega, by unfold mtP; rw [mtB_false hm]; rfl, mtB_false hm⟩
  · have hm : ¬ Mts p q := fun hm => h ⟨hm.1, hm.2.1⟩
    have e : mtP p q = (0, 0) := by unfold mtP; rw [mtB_false hm]; rfl
    rw [e, mtB_false hm]
    exact meet_bad p.1 p.2 q.1 q.2 w h
end Go.Proofs.Ytiabjlaganmloaa
