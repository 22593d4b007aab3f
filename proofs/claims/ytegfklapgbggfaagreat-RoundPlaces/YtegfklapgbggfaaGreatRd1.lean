/-
  rounding.ways, wayOf; the five ways' functions.
-/
import Derived.Test.YtegfklapgbggfaaGreatBsM
import Derived.Laws.EntriesVeiled
import Derived.Shelf.Abstract
namespace Go.Proofs.YtegfklapgbggfaaGreat
open Go.RowKit Go.Shelf
set_option linter.unusedVariables false

/-- Does a number between two whole ones go to the greater one? -/
def rise (m half : Int) (odd : Bool) : Bool :=
  if m = 1 then false else if m = 2 then true else if m = 3 then decide (0 ≤ half) else if m = 4 then decide (0 < half) else (decide (0 < half) || (decide (half = 0) && odd))
def wayCells : Array Value := #[.int .i64 1, .string ⟨#[102, 108, 111, 111, 114]⟩, .func (.func 82) #[] #[], .int .i64 2, .string ⟨#[99, 101, 105, 108]⟩, .func (.func 83) #[] #[], .int .i64 3, .string ⟨#[117, 112]⟩, .func (.func 84) #[] #[], .int .i64 4, .string ⟨#[100, 111, 119, 110]⟩, .func (.func 85) #[] #[], .int .i64 5, .string ⟨#[101, 118, 101, 110]⟩, .func (.func 86) #[] #[]]
theorem ways_any (w : World) :
    Calls Tryz.prog 49 #[] w fun e w' => e = .returned (.slice (some ⟨w.heap.size, 0, none⟩) 5 5) ∧ Va w' w.heap.size 54 wayCells ∧ Below w.heap.size w w' := by
  go_enter Tryz.func49, Tryz.ntmps49
  go_wp2_with fail
  go_ret
  exact ⟨rfl, Va.new w _ _, (Below.refl _ _).alloc (Nat.le_refl _) _⟩
theorem results_yt {fn : Func} {i j b : Nat} {x y z : Value} {tmps : Array Value} {w : World} (h : fn.results = #[.cell i 54, .tmp j]) (hi : tmps.getD i undef = .pointer (some ⟨b, 0, none⟩)) (hv : Va w b 54 #[x, y, z]) :
    (results fn tmps).run Tryz.prog w = .ok (.tuple #[.agg #[x, y, z], tmps.getD j undef]) w := by
  have c := hv.d0; have d := hv.d1; have e := hv.d2
  rw [Array.getD_eq_getD_getElem?] at hi
  simp [results, h, hi, c, d, e, go_sem]

theorem wayOf_1 (w : World) :
    Calls Tryz.prog 17 #[.int .i64 1] w fun e w' => e = .returned (.tuple #[.agg #[.int .i64 1, .string ⟨#[102, 108, 111, 111, 114]⟩, .func (.func 82) #[] #[]], .bool true]) ∧ Below w.heap.size w w' := by
  go_enter Tryz.func17, Tryz.ntmps17
  go_wp2_with fail
  refine ent1 w _ _ (Q := fun W => Calls Tryz.prog _ _ W _) ?_
  intro x1 B0 hs1 V2
  clear hs1
  have l2 := V2.lt
  refine (ways_any x1).mono ?_
  rintro e x2 ⟨rfl, Vg, hb⟩
  replace B0 := step B0 hb
  replace V2 := Va.after hb V2
  have lg := Vg.lt
  clear hb
  go_wp2_with fail
  refine wp_loop_rounds 1 ?_
  rw [rounds_succ]
  have g0 : x2.cell? ⟨x1.heap.size, 0, none⟩ = some (.int .i64 1) := Vg.cellAt 0
  have g1 : x2.cell? ⟨x1.heap.size, 1, none⟩ = some (.string ⟨#[102, 108, 111, 111, 114]⟩) := Vg.cellAt 1
  have g2 : x2.cell? ⟨x1.heap.size, 2, none⟩ = some (.func (.func 82) #[] #[]) := Vg.cellAt 2
  have U2 := Va.old V2 (.cells #[.int .i64 1, .string ⟨#[102, 108, 111, 111, 114]⟩, .func (.func 82) #[] #[]] 54)
  have c2 := U2.d0
  have d2 := U2.d1
  have e2 := U2.d2
  have f0 := U2.frozen 0
  have f1 := U2.frozen 1
  have f2 := U2.frozen 2
  go_wp2_with fail
  refine bodyPost_ret (results_yt rfl rfl (U2.set3 _ _ _)) rfl ?_
  exact ⟨rfl, belo3 (B0.alloc B0.size _) (Nat.le_refl _) _ _ _⟩

theorem wayOf_2 (w : World) :
    Calls Tryz.prog 17 #[.int .i64 2] w fun e w' => e = .returned (.tuple #[.agg #[.int .i64 2, .string ⟨#[99, 101, 105, 108]⟩, .func (.func 83) #[] #[]], .bool true]) ∧ Below w.heap.size w w' := by
  go_enter Tryz.func17, Tryz.ntmps17
  go_wp2_with fail
  refine ent1 w _ _ (Q := fun W => Calls Tryz.prog _ _ W _) ?_
  intro x1 B0 hs1 V2
  clear hs1
  have l2 := V2.lt
  refine (ways_any x1).mono ?_
  rintro e x2 ⟨rfl, Vg, hb⟩
  replace B0 := step B0 hb
  replace V2 := Va.after hb V2
  have lg := Vg.lt
  clear hb
  go_wp2_with fail
  refine wp_loop_rounds 2 ?_
  rw [rounds_succ]
  have g0 : x2.cell? ⟨x1.heap.size, 0, none⟩ = some (.int .i64 1) := Vg.cellAt 0
  have g1 : x2.cell? ⟨x1.heap.size, 1, none⟩ = some (.string ⟨#[102, 108, 111, 111, 114]⟩) := Vg.cellAt 1
  have g2 : x2.cell? ⟨x1.heap.size, 2, none⟩ = some (.func (.func 82) #[] #[]) := Vg.cellAt 2
  go_wp2_with fail
  clear g0 g1 g2
  refine ent1 x2 _ _ (Q := fun W => Code.rounds Tryz.prog _ _ _ _ W) ?_
  intro x3 hb hs Vr
  clear hs Vr
  replace B0 := step B0 hb
  replace V2 := Va.after hb V2
  replace Vg := Va.after hb Vg
  clear hb
  rw [rounds_succ]
  have g0 : x3.cell? ⟨x1.heap.size, 3, none⟩ = some (.int .i64 2) := Vg.cellAt 3
  have g1 : x3.cell? ⟨x1.heap.size, 4, none⟩ = some (.string ⟨#[99, 101, 105, 108]⟩) := Vg.cellAt 4
  have g2 : x3.cell? ⟨x1.heap.size, 5, none⟩ = some (.func (.func 83) #[] #[]) := Vg.cellAt 5
  have U2 := Va.old V2 (.cells #[.int .i64 2, .string ⟨#[99, 101, 105, 108]⟩, .func (.func 83) #[] #[]] 54)
  have c2 := U2.d0
  have d2 := U2.d1
  have e2 := U2.d2
  have f0 := U2.frozen 0
  have f1 := U2.frozen 1
  have f2 := U2.frozen 2
  go_wp2_with fail
  refine bodyPost_ret (results_yt rfl rfl (U2.set3 _ _ _)) rfl ?_
  exact ⟨rfl, belo3 (B0.alloc B0.size _) (Nat.le_refl _) _ _ _⟩

theorem wayOf_3 (w : World) :
    Calls Tryz.prog 17 #[.int .i64 3] w fun e w' => e = .returned (.tuple #[.agg #[.int .i64 3, .string ⟨#[117, 112]⟩, .func (.func 84) #[] #[]], .bool true]) ∧ Below w.heap.size w w' := by
  go_enter Tryz.func17, Tryz.ntmps17
  go_wp2_with fail
  refine ent1 w _ _ (Q := fun W => Calls Tryz.prog _ _ W _) ?_
  intro x1 B0 hs1 V2
  clear hs1
  have l2 := V2.lt
  refine (ways_any x1).mono ?_
  rintro e x2 ⟨rfl, Vg, hb⟩
  replace B0 := step B0 hb
  replace V2 := Va.after hb V2
  have lg := Vg.lt
  clear hb
  go_wp2_with fail
  refine wp_loop_rounds 3 ?_
  rw [rounds_succ]
  have g0 : x2.cell? ⟨x1.heap.size, 0, none⟩ = some (.int .i64 1) := Vg.cellAt 0
  have g1 : x2.cell? ⟨x1.heap.size, 1, none⟩ = some (.string ⟨#[102, 108, 111, 111, 114]⟩) := Vg.cellAt 1
  have g2 : x2.cell? ⟨x1.heap.size, 2, none⟩ = some (.func (.func 82) #[] #[]) := Vg.cellAt 2
  go_wp2_with fail
  clear g0 g1 g2
  refine ent1 x2 _ _ (Q := fun W => Code.rounds Tryz.prog _ _ _ _ W) ?_
  intro x3 hb hs Vr
  clear hs Vr
  replace B0 := step B0 hb
  replace V2 := Va.after hb V2
  replace Vg := Va.after hb Vg
  clear hb
  rw [rounds_succ]
  have g0 : x3.cell? ⟨x1.heap.size, 3, none⟩ = some (.int .i64 2) := Vg.cellAt 3
  have g1 : x3.cell? ⟨x1.heap.size, 4, none⟩ = some (.string ⟨#[99, 101, 105, 108]⟩) := Vg.cellAt 4
  have g2 : x3.cell? ⟨x1.heap.size, 5, none⟩ = some (.func (.func 83) #[] #[]) := Vg.cellAt 5
  go_wp2_with fail
  clear g0 g1 g2
  refine ent1 x3 _ _ (Q := fun W => Code.rounds Tryz.prog _ _ _ _ W) ?_
  intro x4 hb hs Vr
  clear hs Vr
  replace B0 := step B0 hb
  replace V2 := Va.after hb V2
  replace Vg := Va.after hb Vg
  clear hb
  rw [rounds_succ]
  have g0 : x4.cell? ⟨x1.heap.size, 6, none⟩ = some (.int .i64 3) := Vg.cellAt 6
  have g1 : x4.cell? ⟨x1.heap.size, 7, none⟩ = some (.string ⟨#[117, 112]⟩) := Vg.cellAt 7
  have g2 : x4.cell? ⟨x1.heap.size, 8, none⟩ = some (.func (.func 84) #[] #[]) := Vg.cellAt 8
  have U2 := Va.old V2 (.cells #[.int .i64 3, .string ⟨#[117, 112]⟩, .func (.func 84) #[] #[]] 54)
  have c2 := U2.d0
  have d2 := U2.d1
  have e2 := U2.d2
  have f0 := U2.frozen 0
  have f1 := U2.frozen 1
  have f2 := U2.frozen 2
  go_wp2_with fail
  refine bodyPost_ret (results_yt rfl rfl (U2.set3 _ _ _)) rfl ?_
  exact ⟨rfl, belo3 (B0.alloc B0.size _) (Nat.le_refl _) _ _ _⟩

theorem wayOf_4 (w : World) :
    Calls Tryz.prog 17 #[.int .i64 4] w fun e w' => e = .returned (.tuple #[.agg #[.int .i64 4, .string ⟨#[100, 111, 119, 110]⟩, .func (.func 85) #[] #[]], .bool true]) ∧ Below w.heap.size w w' := by
  go_enter Tryz.func17, Tryz.ntmps17
  go_wp2_with fail
  refine ent1 w _ _ (Q := fun W => Calls Tryz.prog _ _ W _) ?_
  intro x1 B0 hs1 V2
  clear hs1
  have l2 := V2.lt
  refine (ways_any x1).mono ?_
  rintro e x2 ⟨rfl, Vg, hb⟩
  replace B0 := step B0 hb
  replace V2 := Va.after hb V2
  have lg := Vg.lt
  clear hb
  go_wp2_with fail
  refine wp_loop_rounds 4 ?_
  rw [rounds_succ]
  have g0 : x2.cell? ⟨x1.heap.size, 0, none⟩ = some (.int .i64 1) := Vg.cellAt 0
  have g1 : x2.cell? ⟨x1.heap.size, 1, none⟩ = some (.string ⟨#[102, 108, 111, 111, 114]⟩) := Vg.cellAt 1
  have g2 : x2.cell? ⟨x1.heap.size, 2, none⟩ = some (.func (.func 82) #[] #[]) := Vg.cellAt 2
  go_wp2_with fail
  clear g0 g1 g2
  refine ent1 x2 _ _ (Q := fun W => Code.rounds Tryz.prog _ _ _ _ W) ?_
  intro x3 hb hs Vr
  clear hs Vr
  replace B0 := step B0 hb
  replace V2 := Va.after hb V2
  replace Vg := Va.after hb Vg
  clear hb
  rw [rounds_succ]
  have g0 : x3.cell? ⟨x1.heap.size, 3, none⟩ = some (.int .i64 2) := Vg.cellAt 3
  have g1 : x3.cell? ⟨x1.heap.size, 4, none⟩ = some (.string ⟨#[99, 101, 105, 108]⟩) := Vg.cellAt 4
  have g2 : x3.cell? ⟨x1.heap.size, 5, none⟩ = some (.func (.func 83) #[] #[]) := Vg.cellAt 5
  go_wp2_with fail
  clear g0 g1 g2
  refine ent1 x3 _ _ (Q := fun W => Code.rounds Tryz.prog _ _ _ _ W) ?_
  intro x4 hb hs Vr
  clear hs Vr
  replace B0 := step B0 hb
  replace V2 := Va.after hb V2
  replace Vg := Va.after hb Vg
  clear hb
  rw [rounds_succ]
  have g0 : x4.cell? ⟨x1.heap.size, 6, none⟩ = some (.int .i64 3) := Vg.cellAt 6
  have g1 : x4.cell? ⟨x1.heap.size, 7, none⟩ = some (.string ⟨#[117, 112]⟩) := Vg.cellAt 7
  have g2 : x4.cell? ⟨x1.heap.size, 8, none⟩ = some (.func (.func 84) #[] #[]) := Vg.cellAt 8
  go_wp2_with fail
  clear g0 g1 g2
  refine ent1 x4 _ _ (Q := fun W => Code.rounds Tryz.prog _ _ _ _ W) ?_
  intro x5 hb hs Vr
  clear hs Vr
  replace B0 := step B0 hb
  replace V2 := Va.after hb V2
  replace Vg := Va.after hb Vg
  clear hb
  rw [rounds_succ]
  have g0 : x5.cell? ⟨x1.heap.size, 9, none⟩ = some (.int .i64 4) := Vg.cellAt 9
  have g1 : x5.cell? ⟨x1.heap.size, 10, none⟩ = some (.string ⟨#[100, 111, 119, 110]⟩) := Vg.cellAt 10
  have g2 : x5.cell? ⟨x1.heap.size, 11, none⟩ = some (.func (.func 85) #[] #[]) := Vg.cellAt 11
  have U2 := Va.old V2 (.cells #[.int .i64 4, .string ⟨#[100, 111, 119, 110]⟩, .func (.func 85) #[] #[]] 54)
  have c2 := U2.d0
  have d2 := U2.d1
  have e2 := U2.d2
  have f0 := U2.frozen 0
  have f1 := U2.frozen 1
  have f2 := U2.frozen 2
  go_wp2_with fail
  refine bodyPost_ret (results_yt rfl rfl (U2.set3 _ _ _)) rfl ?_
  exact ⟨rfl, belo3 (B0.alloc B0.size _) (Nat.le_refl _) _ _ _⟩

theorem wayOf_5 (w : World) :
    Calls Tryz.prog 17 #[.int .i64 5] w fun e w' => e = .returned (.tuple #[.agg #[.int .i64 5, .string ⟨#[101, 118, 101, 110]⟩, .func (.func 86) #[] #[]], .bool true]) ∧ Below w.heap.size w w' := by
  go_enter Tryz.func17, Tryz.ntmps17
  go_wp2_with fail
  refine ent1 w _ _ (Q := fun W => Calls Tryz.prog _ _ W _) ?_
  intro x1 B0 hs1 V2
  clear hs1
  have l2 := V2.lt
  refine (ways_any x1).mono ?_
  rintro e x2 ⟨rfl, Vg, hb⟩
  replace B0 := step B0 hb
  replace V2 := Va.after hb V2
  have lg := Vg.lt
  clear hb
  go_wp2_with fail
  refine wp_loop_rounds 5 ?_
  rw [rounds_succ]
  have g0 : x2.cell? ⟨x1.heap.size, 0, none⟩ = some (.int .i64 1) := Vg.cellAt 0
  have g1 : x2.cell? ⟨x1.heap.size, 1, none⟩ = some (.string ⟨#[102, 108, 111, 111, 114]⟩) := Vg.cellAt 1
  have g2 : x2.cell? ⟨x1.heap.size, 2, none⟩ = some (.func (.func 82) #[] #[]) := Vg.cellAt 2
  go_wp2_with fail
  clear g0 g1 g2
  refine ent1 x2 _ _ (Q := fun W => Code.rounds Tryz.prog _ _ _ _ W) ?_
  intro x3 hb hs Vr
  clear hs Vr
  replace B0 := step B0 hb
  replace V2 := Va.after hb V2
  replace Vg := Va.after hb Vg
  clear hb
  rw [rounds_succ]
  have g0 : x3.cell? ⟨x1.heap.size, 3, none⟩ = some (.int .i64 2) := Vg.cellAt 3
  have g1 : x3.cell? ⟨x1.heap.size, 4, none⟩ = some (.string ⟨#[99, 101, 105, 108]⟩) := Vg.cellAt 4
  have g2 : x3.cell? ⟨x1.heap.size, 5, none⟩ = some (.func (.func 83) #[] #[]) := Vg.cellAt 5
  go_wp2_with fail
  clear g0 g1 g2
  refine ent1 x3 _ _ (Q := fun W => Code.rounds Tryz.prog _ _ _ _ W) ?_
  intro x4 hb hs Vr
  clear hs Vr
  replace B0 := step B0 hb
  replace V2 := Va.after hb V2
  replace Vg := Va.after hb Vg
  clear hb
  rw [rounds_succ]
  have g0 : x4.cell? ⟨x1.heap.size, 6, none⟩ = some (.int .i64 3) := Vg.cellAt 6
  have g1 : x4.cell? ⟨x1.heap.size, 7, none⟩ = some (.string ⟨#[117, 112]⟩) := Vg.cellAt 7
  have g2 : x4.cell? ⟨x1.heap.size, 8, none⟩ = some (.func (.func 84) #[] #[]) := Vg.cellAt 8
  go_wp2_with fail
  clear g0 g1 g2
  refine ent1 x4 _ _ (Q := fun W => Code.rounds Tryz.prog _ _ _ _ W) ?_
  intro x5 hb hs Vr
  clear hs Vr
  replace B0 := step B0 hb
  replace V2 := Va.after hb V2
  replace Vg := Va.after hb Vg
  clear hb
  rw [rounds_succ]
  have g0 : x5.cell? ⟨x1.heap.size, 9, none⟩ = some (.int .i64 4) := Vg.cellAt 9
  have g1 : x5.cell? ⟨x1.heap.size, 10, none⟩ = some (.string ⟨#[100, 111, 119, 110]⟩) := Vg.cellAt 10
  have g2 : x5.cell? ⟨x1.heap.size, 11, none⟩ = some (.func (.func 85) #[] #[]) := Vg.cellAt 11
  go_wp2_with fail
  clear g0 g1 g2
  refine ent1 x5 _ _ (Q := fun W => Code.rounds Tryz.prog _ _ _ _ W) ?_
  intro x6 hb hs Vr
  clear hs Vr
  replace B0 := step B0 hb
  replace V2 := Va.after hb V2
  replace Vg := Va.after hb Vg
  clear hb
  rw [rounds_succ]
  have g0 : x6.cell? ⟨x1.heap.size, 12, none⟩ = some (.int .i64 5) := Vg.cellAt 12
  have g1 : x6.cell? ⟨x1.heap.size, 13, none⟩ = some (.string ⟨#[101, 118, 101, 110]⟩) := Vg.cellAt 13
  have g2 : x6.cell? ⟨x1.heap.size, 14, none⟩ = some (.func (.func 86) #[] #[]) := Vg.cellAt 14
  have U2 := Va.old V2 (.cells #[.int .i64 5, .string ⟨#[101, 118, 101, 110]⟩, .func (.func 86) #[] #[]] 54)
  have c2 := U2.d0
  have d2 := U2.d1
  have e2 := U2.d2
  have f0 := U2.frozen 0
  have f1 := U2.frozen 1
  have f2 := U2.frozen 2
  go_wp2_with fail
  refine bodyPost_ret (results_yt rfl rfl (U2.set3 _ _ _)) rfl ?_
  exact ⟨rfl, belo3 (B0.alloc B0.size _) (Nat.le_refl _) _ _ _⟩

theorem wayOf_no (m : Int) (hm : m < 1 ∨ 5 < m) (w : World) :
    Calls Tryz.prog 17 #[.int .i64 m] w fun e w' => e = .returned (.tuple #[.agg #[.int .i64 0, .string ⟨#[]⟩, .nilFunc], .bool false]) ∧ Below w.heap.size w w' := by
  go_enter Tryz.func17, Tryz.ntmps17
  go_wp2_with fail
  refine ent1 w _ _ (Q := fun W => Calls Tryz.prog _ _ W _) ?_
  intro x1 B0 hs1 V2
  clear hs1
  have l2 := V2.lt
  refine (ways_any x1).mono ?_
  rintro e x2 ⟨rfl, Vg, hb⟩
  replace B0 := step B0 hb
  replace V2 := Va.after hb V2
  have lg := Vg.lt
  clear hb
  go_wp2_with fail
  refine wp_loop_rounds 6 ?_
  rw [rounds_succ]
  have g0 : x2.cell? ⟨x1.heap.size, 0, none⟩ = some (.int .i64 1) := Vg.cellAt 0
  have g1 : x2.cell? ⟨x1.heap.size, 1, none⟩ = some (.string ⟨#[102, 108, 111, 111, 114]⟩) := Vg.cellAt 1
  have g2 : x2.cell? ⟨x1.heap.size, 2, none⟩ = some (.func (.func 82) #[] #[]) := Vg.cellAt 2
  have nm : (decide ((1 : Int) = m)) = false := by simp; omega
  have nm' : ((1 : Int) == m) = false := by simp; omega
  have nn : ¬ ((1 : Int) = m) := by omega
  go_wp2_with fail
  clear nm nm' nn
  clear g0 g1 g2
  refine ent1 x2 _ _ (Q := fun W => Code.rounds Tryz.prog _ _ _ _ W) ?_
  intro x3 hb hs Vr
  clear hs Vr
  replace B0 := step B0 hb
  replace V2 := Va.after hb V2
  replace Vg := Va.after hb Vg
  clear hb
  rw [rounds_succ]
  have g0 : x3.cell? ⟨x1.heap.size, 3, none⟩ = some (.int .i64 2) := Vg.cellAt 3
  have g1 : x3.cell? ⟨x1.heap.size, 4, none⟩ = some (.string ⟨#[99, 101, 105, 108]⟩) := Vg.cellAt 4
  have g2 : x3.cell? ⟨x1.heap.size, 5, none⟩ = some (.func (.func 83) #[] #[]) := Vg.cellAt 5
  have nm : (decide ((2 : Int) = m)) = false := by simp; omega
  have nm' : ((2 : Int) == m) = false := by simp; omega
  have nn : ¬ ((2 : Int) = m) := by omega
  go_wp2_with fail
  clear nm nm' nn
  clear g0 g1 g2
  refine ent1 x3 _ _ (Q := fun W => Code.rounds Tryz.prog _ _ _ _ W) ?_
  intro x4 hb hs Vr
  clear hs Vr
  replace B0 := step B0 hb
  replace V2 := Va.after hb V2
  replace Vg := Va.after hb Vg
  clear hb
  rw [rounds_succ]
  have g0 : x4.cell? ⟨x1.heap.size, 6, none⟩ = some (.int .i64 3) := Vg.cellAt 6
  have g1 : x4.cell? ⟨x1.heap.size, 7, none⟩ = some (.string ⟨#[117, 112]⟩) := Vg.cellAt 7
  have g2 : x4.cell? ⟨x1.heap.size, 8, none⟩ = some (.func (.func 84) #[] #[]) := Vg.cellAt 8
  have nm : (decide ((3 : Int) = m)) = false := by simp; omega
  have nm' : ((3 : Int) == m) = false := by simp; omega
  have nn : ¬ ((3 : Int) = m) := by omega
  go_wp2_with fail
  clear nm nm' nn
  clear g0 g1 g2
  refine ent1 x4 _ _ (Q := fun W => Code.rounds Tryz.prog _ _ _ _ W) ?_
  intro x5 hb hs Vr
  clear hs Vr
  replace B0 := step B0 hb
  replace V2 := Va.after hb V2
  replace Vg := Va.after hb Vg
  clear hb
  rw [rounds_succ]
  have g0 : x5.cell? ⟨x1.heap.size, 9, none⟩ = some (.int .i64 4) := Vg.cellAt 9
  have g1 : x5.cell? ⟨x1.heap.size, 10, none⟩ = some (.string ⟨#[100, 111, 119, 110]⟩) := Vg.cellAt 10
  have g2 : x5.cell? ⟨x1.heap.size, 11, none⟩ = some (.func (.func 85) #[] #[]) := Vg.cellAt 11
  have nm : (decide ((4 : Int) = m)) = false := by simp; omega
  have nm' : ((4 : Int) == m) = false := by simp; omega
  have nn : ¬ ((4 : Int) = m) := by omega
  go_wp2_with fail
  clear nm nm' nn
  clear g0 g1 g2
  refine ent1 x5 _ _ (Q := fun W => Code.rounds Tryz.prog _ _ _ _ W) ?_
  intro x6 hb hs Vr
  clear hs Vr
  replace B0 := step B0 hb
  replace V2 := Va.after hb V2
  replace Vg := Va.after hb Vg
  clear hb
  rw [rounds_succ]
  have g0 : x6.cell? ⟨x1.heap.size, 12, none⟩ = some (.int .i64 5) := Vg.cellAt 12
  have g1 : x6.cell? ⟨x1.heap.size, 13, none⟩ = some (.string ⟨#[101, 118, 101, 110]⟩) := Vg.cellAt 13
  have g2 : x6.cell? ⟨x1.heap.size, 14, none⟩ = some (.func (.func 86) #[] #[]) := Vg.cellAt 14
  have nm : (decide ((5 : Int) = m)) = false := by simp; omega
  have nm' : ((5 : Int) == m) = false := by simp; omega
  have nn : ¬ ((5 : Int) = m) := by omega
  go_wp2_with fail
  clear nm nm' nn
  clear g0 g1 g2
  refine ent1 x6 _ _ (Q := fun W => Code.rounds Tryz.prog _ _ _ _ W) ?_
  intro x7 hb hs Vr
  clear hs Vr
  replace B0 := step B0 hb
  replace V2 := Va.after hb V2
  replace Vg := Va.after hb Vg
  clear hb
  rw [rounds_succ]
  have c2 := V2.d0
  have d2 := V2.d1
  have e2 := V2.d2
  have f0 := V2.frozen 0
  have f1 := V2.frozen 1
  have f2 := V2.frozen 2
  go_wp2_with fail
  refine bodyPost_ret (results_yt rfl rfl (V2.set3 _ _ _)) rfl ?_
  exact ⟨rfl, belo3 B0 (Nat.le_refl _) _ _ _⟩

theorem way_1 (h : Int) (q : Bool) (w : World) : Calls Tryz.prog 82 #[.int .i64 h, .bool q] w fun e w' => e = .returned (.bool (rise 1 h q)) ∧ w' = w := by
  go_enter Tryz.func82, Tryz.ntmps82
  go_wp2_with fail
  go_ret
  exact ⟨rfl, rfl⟩

theorem way_2 (h : Int) (q : Bool) (w : World) : Calls Tryz.prog 83 #[.int .i64 h, .bool q] w fun e w' => e = .returned (.bool (rise 2 h q)) ∧ w' = w := by
  go_enter Tryz.func83, Tryz.ntmps83
  go_wp2_with fail
  go_ret
  exact ⟨rfl, rfl⟩

theorem way_3 (h : Int) (q : Bool) (w : World) : Calls Tryz.prog 84 #[.int .i64 h, .bool q] w fun e w' => e = .returned (.bool (rise 3 h q)) ∧ w' = w := by
  go_enter Tryz.func84, Tryz.ntmps84
  go_wp2_with fail
  go_ret
  exact ⟨rfl, rfl⟩

theorem way_4 (h : Int) (q : Bool) (w : World) : Calls Tryz.prog 85 #[.int .i64 h, .bool q] w fun e w' => e = .returned (.bool (rise 4 h q)) ∧ w' = w := by
  go_enter Tryz.func85, Tryz.ntmps85
  go_wp2_with fail
  go_ret
  exact ⟨rfl, rfl⟩

theorem way_5 (h : Int) (q : Bool) (w : World) : Calls Tryz.prog 86 #[.int .i64 h, .bool q] w fun e w' => e = .returned (.bool (rise 5 h q)) ∧ w' = w := by
  have h3 : rise 5 h q = (decide (0 < h) || (decide (h = 0) && q)) := rfl
  rw [h3]
  clear h3
  by_cases h1 : 0 < h
  · go_enter Tryz.func86, Tryz.ntmps86
    go_wp2_with fail
    go_ret
    exact ⟨by simp [h1], rfl⟩
  · by_cases h2 : h = 0
    · subst h2
      go_enter Tryz.func86, Tryz.ntmps86
      go_wp2_with fail
      go_ret
      exact ⟨by simp, rfl⟩
    · go_enter Tryz.func86, Tryz.ntmps86
      go_wp2_with fail
      go_ret
      exact ⟨by simp [h1], rfl⟩

/-- The way of a mode: its name, and its function, which answers as rise. -/
theorem wayOf_ok (m : Int) (h1 : 1 ≤ m) (h2 : m ≤ 5) : ∃ (nm : ByteArray) (K : Nat), (∀ w, Calls Tryz.prog 17 #[.int .i64 m] w fun e w' => e = .returned (.tuple #[.agg #[.int .i64 m, .string nm, .func (.func K) #[] #[]], .bool true]) ∧ Below w.heap.size w w') ∧ (∀ h q w, Calls Tryz.prog K #[.int .i64 h, .bool q] w fun e w' => e = .returned (.bool (rise m h q)) ∧ w' = w) ∧ (∀ args w, (callFunc K args).run Tryz.prog w = .ok (.enter K args) w) := by
  obtain rfl | rfl | rfl | rfl | rfl : m = 1 ∨ m = 2 ∨ m = 3 ∨ m = 4 ∨ m = 5 := by omega
  · exact ⟨_, _, wayOf_1, way_1, enters_of Tryz.func82 (by kernel_rfl) rfl⟩
  · exact ⟨_, _, wayOf_2, way_2, enters_of Tryz.func83 (by kernel_rfl) rfl⟩
  · exact ⟨_, _, wayOf_3, way_3, enters_of Tryz.func84 (by kernel_rfl) rfl⟩
  · exact ⟨_, _, wayOf_4, way_4, enters_of Tryz.func85 (by kernel_rfl) rfl⟩
  · exact ⟨_, _, wayOf_5, way_5, enters_of Tryz.func86 (by kernel_rfl) rfl⟩
end Go.Proofs.YtegfklapgbggfaaGreat
