/-
  rounding.ways, wayOf; the five ways' functions.
-/
import Derived.Test.YtjaigmgbeganhaaNmV
namespace Go.Proofs.Ytjaigmgbeganhaa
open Go.RowKit
set_option linter.unusedVariables false

def wayCells : Array Value := #[.int .i64 1, .string ⟨#[102, 108, 111, 111, 114]⟩, .func (.func 11) #[] #[], .int .i64 2, .string ⟨#[99, 101, 105, 108]⟩, .func (.func 12) #[] #[], .int .i64 3, .string ⟨#[117, 112]⟩, .func (.func 13) #[] #[], .int .i64 4, .string ⟨#[100, 111, 119, 110]⟩, .func (.func 14) #[] #[], .int .i64 5, .string ⟨#[101, 118, 101, 110]⟩, .func (.func 15) #[] #[]]
theorem ways_any (w : World) :
    Calls Try.prog 10 #[] w fun e w' => e = .returned (.slice (some ⟨w.heap.size, 0, none⟩) 5 5) ∧ Va w' w.heap.size 30 wayCells ∧ Below w.heap.size w w' := by
  go_enter Try.func10, Try.ntmps10
  go_wp2_with fail
  go_ret
  exact ⟨rfl, Va.new w _ _, (Below.refl _ _).alloc (Nat.le_refl _) _⟩
theorem results_yt {fn : Func} {i j b : Nat} {x y z : Value} {tmps : Array Value} {w : World} (h : fn.results = #[.cell i 30, .tmp j]) (hi : tmps.getD i undef = .pointer (some ⟨b, 0, none⟩)) (hv : Va w b 30 #[x, y, z]) :
    (results fn tmps).run Try.prog w = .ok (.tuple #[.agg #[x, y, z], tmps.getD j undef]) w := by
  have c := hv.d0; have d := hv.d1; have e := hv.d2
  rw [Array.getD_eq_getD_getElem?] at hi
  simp [results, h, hi, c, d, e, go_sem]

theorem wayOf_1 (w : World) :
    Calls Try.prog 8 #[.int .i64 1] w fun e w' => e = .returned (.tuple #[.agg #[.int .i64 1, .string ⟨#[102, 108, 111, 111, 114]⟩, .func (.func 11) #[] #[]], .bool true]) ∧ Below w.heap.size w w' := by
  go_enter Try.func8, Try.ntmps8
  go_wp2_with fail
  refine ent1 w _ _ (Q := fun W => Calls Try.prog _ _ W _) ?_
  intro x1 B0 hs1 V2
  clear hs1
  have l2 := V2.lt
  refine (ways_any x1).mono ?_
  rintro e x2 ⟨rfl, Vg, hb⟩
  replace B0 := step B0 hb
  replace V2 := Va.after hb V2
  have lg := Vg.lt
  clear hb
  go_wp2_with fail
  refine wp_loop_rounds 1 ?_
  rw [rounds_succ]
  have g0 : x2.cell? ⟨x1.heap.size, 0, none⟩ = some (.int .i64 1) := Vg.cellAt 0
  have g1 : x2.cell? ⟨x1.heap.size, 1, none⟩ = some (.string ⟨#[102, 108, 111, 111, 114]⟩) := Vg.cellAt 1
  have g2 : x2.cell? ⟨x1.heap.size, 2, none⟩ = some (.func (.func 11) #[] #[]) := Vg.cellAt 2
  have U2 := Va.old V2 (.cells #[.int .i64 1, .string ⟨#[102, 108, 111, 111, 114]⟩, .func (.func 11) #[] #[]] 30)
  have c2 := U2.d0
  have d2 := U2.d1
  have e2 := U2.d2
  have f0 := U2.frozen 0
  have f1 := U2.frozen 1
  have f2 := U2.frozen 2
  go_wp2_with fail
  refine bodyPost_ret (results_yt rfl rfl (U2.set3 _ _ _)) rfl ?_
  exact ⟨rfl, belo3 (B0.alloc B0.size _) (Nat.le_refl _) _ _ _⟩

theorem wayOf_2 (w : World) :
    Calls Try.prog 8 #[.int .i64 2] w fun e w' => e = .returned (.tuple #[.agg #[.int .i64 2, .string ⟨#[99, 101, 105, 108]⟩, .func (.func 12) #[] #[]], .bool true]) ∧ Below w.heap.size w w' := by
  go_enter Try.func8, Try.ntmps8
  go_wp2_with fail
  refine ent1 w _ _ (Q := fun W => Calls Try.prog _ _ W _) ?_
  intro x1 B0 hs1 V2
  clear hs1
  have l2 := V2.lt
  refine (ways_any x1).mono ?_
  rintro e x2 ⟨rfl, Vg, hb⟩
  replace B0 := step B0 hb
  replace V2 := Va.after hb V2
  have lg := Vg.lt
  clear hb
  go_wp2_with fail
  refine wp_loop_rounds 2 ?_
  rw [rounds_succ]
  have g0 : x2.cell? ⟨x1.heap.size, 0, none⟩ = some (.int .i64 1) := Vg.cellAt 0
  have g1 : x2.cell? ⟨x1.heap.size, 1, none⟩ = some (.string ⟨#[102, 108, 111, 111, 114]⟩) := Vg.cellAt 1
  have g2 : x2.cell? ⟨x1.heap.size, 2, none⟩ = some (.func (.func 11) #[] #[]) := Vg.cellAt 2
  go_wp2_with fail
  clear g0 g1 g2
  refine ent1 x2 _ _ (Q := fun W => Code.rounds Try.prog _ _ _ _ W) ?_
  intro x3 hb hs Vr
  clear hs Vr
  replace B0 := step B0 hb
  replace V2 := Va.after hb V2
  replace Vg := Va.after hb Vg
  clear hb
  rw [rounds_succ]
  have g0 : x3.cell? ⟨x1.heap.size, 3, none⟩ = some (.int .i64 2) := Vg.cellAt 3
  have g1 : x3.cell? ⟨x1.heap.size, 4, none⟩ = some (.string ⟨#[99, 101, 105, 108]⟩) := Vg.cellAt 4
  have g2 : x3.cell? ⟨x1.heap.size, 5, none⟩ = some (.func (.func 12) #[] #[]) := Vg.cellAt 5
  have U2 := Va.old V2 (.cells #[.int .i64 2, .string ⟨#[99, 101, 105, 108]⟩, .func (.func 12) #[] #[]] 30)
  have c2 := U2.d0
  have d2 := U2.d1
  have e2 := U2.d2
  have f0 := U2.frozen 0
  have f1 := U2.frozen 1
  have f2 := U2.frozen 2
  go_wp2_with fail
  refine bodyPost_ret (results_yt rfl rfl (U2.set3 _ _ _)) rfl ?_
  exact ⟨rfl, belo3 (B0.alloc B0.size _) (Nat.le_refl _) _ _ _⟩

theorem wayOf_3 (w : World) :
    Calls Try.prog 8 #[.int .i64 3] w fun e w' => e = .returned (.tuple #[.agg #[.int .i64 3, .string ⟨#[117, 112]⟩, .func (.func 13) #[] #[]], .bool true]) ∧ Below w.heap.size w w' := by
  go_enter Try.func8, Try.ntmps8
  go_wp2_with fail
  refine ent1 w _ _ (Q := fun W => Calls Try.prog _ _ W _) ?_
  intro x1 B0 hs1 V2
  clear hs1
  have l2 := V2.lt
  refine (ways_any x1).mono ?_
  rintro e x2 ⟨rfl, Vg, hb⟩
  replace B0 := step B0 hb
  replace V2 := Va.after hb V2
  have lg := Vg.lt
  clear hb
  go_wp2_with fail
  refine wp_loop_rounds 3 ?_
  rw [rounds_succ]
  have g0 : x2.cell? ⟨x1.heap.size, 0, none⟩ = some (.int .i64 1) := Vg.cellAt 0
  have g1 : x2.cell? ⟨x1.heap.size, 1, none⟩ = some (.string ⟨#[102, 108, 111, 111, 114]⟩) := Vg.cellAt 1
  have g2 : x2.cell? ⟨x1.heap.size, 2, none⟩ = some (.func (.func 11) #[] #[]) := Vg.cellAt 2
  go_wp2_with fail
  clear g0 g1 g2
  refine ent1 x2 _ _ (Q := fun W => Code.rounds Try.prog _ _ _ _ W) ?_
  intro x3 hb hs Vr
  clear hs Vr
  replace B0 := step B0 hb
  replace V2 := Va.after hb V2
  replace Vg := Va.after hb Vg
  clear hb
  rw [rounds_succ]
  have g0 : x3.cell? ⟨x1.heap.size, 3, none⟩ = some (.int .i64 2) := Vg.cellAt 3
  have g1 : x3.cell? ⟨x1.heap.size, 4, none⟩ = some (.string ⟨#[99, 101, 105, 108]⟩) := Vg.cellAt 4
  have g2 : x3.cell? ⟨x1.heap.size, 5, none⟩ = some (.func (.func 12) #[] #[]) := Vg.cellAt 5
  go_wp2_with fail
  clear g0 g1 g2
  refine ent1 x3 _ _ (Q := fun W => Code.rounds Try.prog _ _ _ _ W) ?_
  intro x4 hb hs Vr
  clear hs Vr
  replace B0 := step B0 hb
  replace V2 := Va.after hb V2
  replace Vg := Va.after hb Vg
  clear hb
  rw [rounds_succ]
  have g0 : x4.cell? ⟨x1.heap.size, 6, none⟩ = some (.int .i64 3) := Vg.cellAt 6
  have g1 : x4.cell? ⟨x1.heap.size, 7, none⟩ = some (.string ⟨#[117, 112]⟩) := Vg.cellAt 7
  have g2 : x4.cell? ⟨x1.heap.size, 8, none⟩ = some (.func (.func 13) #[] #[]) := Vg.cellAt 8
  have U2 := Va.old V2 (.cells #[.int .i64 3, .string ⟨#[117, 112]⟩, .func (.func 13) #[] #[]] 30)
  have c2 := U2.d0
  have d2 := U2.d1
  have e2 := U2.d2
  have f0 := U2.frozen 0
  have f1 := U2.frozen 1
  have f2 := U2.frozen 2
  go_wp2_with fail
  refine bodyPost_ret (results_yt rfl rfl (U2.set3 _ _ _)) rfl ?_
  exact ⟨rfl, belo3 (B0.alloc B0.size _) (Nat.le_refl _) _ _ _⟩

theorem wayOf_4 (w : World) :
    Calls Try.prog 8 #[.int .i64 4] w fun e w' => e = .returned (.tuple #[.agg #[.int .i64 4, .string ⟨#[100, 111, 119, 110]⟩, .func (.func 14) #[] #[]], .bool true]) ∧ Below w.heap.size w w' := by
  go_enter Try.func8, Try.ntmps8
  go_wp2_with fail
  refine ent1 w _ _ (Q := fun W => Calls Try.prog _ _ W _) ?_
  intro x1 B0 hs1 V2
  clear hs1
  have l2 := V2.lt
  refine (ways_any x1).mono ?_
  rintro e x2 ⟨rfl, Vg, hb⟩
  replace B0 := step B0 hb
  replace V2 := Va.after hb V2
  have lg := Vg.lt
  clear hb
  go_wp2_with fail
  refine wp_loop_rounds 4 ?_
  rw [rounds_succ]
  have g0 : x2.cell? ⟨x1.heap.size, 0, none⟩ = some (.int .i64 1) := Vg.cellAt 0
  have g1 : x2.cell? ⟨x1.heap.size, 1, none⟩ = some (.string ⟨#[102, 108, 111, 111, 114]⟩) := Vg.cellAt 1
  have g2 : x2.cell? ⟨x1.heap.size, 2, none⟩ = some (.func (.func 11) #[] #[]) := Vg.cellAt 2
  go_wp2_with fail
  clear g0 g1 g2
  refine ent1 x2 _ _ (Q := fun W => Code.rounds Try.prog _ _ _ _ W) ?_
  intro x3 hb hs Vr
  clear hs Vr
  replace B0 := step B0 hb
  replace V2 := Va.after hb V2
  replace Vg := Va.after hb Vg
  clear hb
  rw [rounds_succ]
  have g0 : x3.cell? ⟨x1.heap.size, 3, none⟩ = some (.int .i64 2) := Vg.cellAt 3
  have g1 : x3.cell? ⟨x1.heap.size, 4, none⟩ = some (.string ⟨#[99, 101, 105, 108]⟩) := Vg.cellAt 4
  have g2 : x3.cell? ⟨x1.heap.size, 5, none⟩ = some (.func (.func 12) #[] #[]) := Vg.cellAt 5
  go_wp2_with fail
  clear g0 g1 g2
  refine ent1 x3 _ _ (Q := fun W => Code.rounds Try.prog _ _ _ _ W) ?_
  intro x4 hb hs Vr
  clear hs Vr
  replace B0 := step B0 hb
  replace V2 := Va.after hb V2
  replace Vg := Va.after hb Vg
  clear hb
  rw [rounds_succ]
  have g0 : x4.cell? ⟨x1.heap.size, 6, none⟩ = some (.int .i64 3) := Vg.cellAt 6
  have g1 : x4.cell? ⟨x1.heap.size, 7, none⟩ = some (.string ⟨#[117, 112]⟩) := Vg.cellAt 7
  have g2 : x4.cell? ⟨x1.heap.size, 8, none⟩ = some (.func (.func 13) #[] #[]) := Vg.cellAt 8
  go_wp2_with fail
  clear g0 g1 g2
  refine ent1 x4 _ _ (Q := fun W => Code.rounds Try.prog _ _ _ _ W) ?_
  intro x5 hb hs Vr
  clear hs Vr
  replace B0 := step B0 hb
  replace V2 := Va.after hb V2
  replace Vg := Va.after hb Vg
  clear hb
  rw [rounds_succ]
  have g0 : x5.cell? ⟨x1.heap.size, 9, none⟩ = some (.int .i64 4) := Vg.cellAt 9
  have g1 : x5.cell? ⟨x1.heap.size, 10, none⟩ = some (.string ⟨#[100, 111, 119, 110]⟩) := Vg.cellAt 10
  have g2 : x5.cell? ⟨x1.heap.size, 11, none⟩ = some (.func (.func 14) #[] #[]) := Vg.cellAt 11
  have U2 := Va.old V2 (.cells #[.int .i64 4, .string ⟨#[100, 111, 119, 110]⟩, .func (.func 14) #[] #[]] 30)
  have c2 := U2.d0
  have d2 := U2.d1
  have e2 := U2.d2
  have f0 := U2.frozen 0
  have f1 := U2.frozen 1
  have f2 := U2.frozen 2
  go_wp2_with fail
  refine bodyPost_ret (results_yt rfl rfl (U2.set3 _ _ _)) rfl ?_
  exact ⟨rfl, belo3 (B0.alloc B0.size _) (Nat.le_refl _) _ _ _⟩

theorem wayOf_5 (w : World) :
    Calls Try.prog 8 #[.int .i64 5] w fun e w' => e = .returned (.tuple #[.agg #[.int .i64 5, .string ⟨#[101, 118, 101, 110]⟩, .func (.func 15) #[] #[]], .bool true]) ∧ Below w.heap.size w w' := by
  go_enter Try.func8, Try.ntmps8
  go_wp2_with fail
  refine ent1 w _ _ (Q := fun W => Calls Try.prog _ _ W _) ?_
  intro x1 B0 hs1 V2
  clear hs1
  have l2 := V2.lt
  refine (ways_any x1).mono ?_
  rintro e x2 ⟨rfl, Vg, hb⟩
  replace B0 := step B0 hb
  replace V2 := Va.after hb V2
  have lg := Vg.lt
  clear hb
  go_wp2_with fail
  refine wp_loop_rounds 5 ?_
  rw [rounds_succ]
  have g0 : x2.cell? ⟨x1.heap.size, 0, none⟩ = some (.int .i64 1) := Vg.cellAt 0
  have g1 : x2.cell? ⟨x1.heap.size, 1, none⟩ = some (.string ⟨#[102, 108, 111, 111, 114]⟩) := Vg.cellAt 1
  have g2 : x2.cell? ⟨x1.heap.size, 2, none⟩ = some (.func (.func 11) #[] #[]) := Vg.cellAt 2
  go_wp2_with fail
  clear g0 g1 g2
  refine ent1 x2 _ _ (Q := fun W => Code.rounds Try.prog _ _ _ _ W) ?_
  intro x3 hb hs Vr
  clear hs Vr
  replace B0 := step B0 hb
  replace V2 := Va.after hb V2
  replace Vg := Va.after hb Vg
  clear hb
  rw [rounds_succ]
  have g0 : x3.cell? ⟨x1.heap.size, 3, none⟩ = some (.int .i64 2) := Vg.cellAt 3
  have g1 : x3.cell? ⟨x1.heap.size, 4, none⟩ = some (.string ⟨#[99, 101, 105, 108]⟩) := Vg.cellAt 4
  have g2 : x3.cell? ⟨x1.heap.size, 5, none⟩ = some (.func (.func 12) #[] #[]) := Vg.cellAt 5
  go_wp2_with fail
  clear g0 g1 g2
  refine ent1 x3 _ _ (Q := fun W => Code.rounds Try.prog _ _ _ _ W) ?_
  intro x4 hb hs Vr
  clear hs Vr
  replace B0 := step B0 hb
  replace V2 := Va.after hb V2
  replace Vg := Va.after hb Vg
  clear hb
  rw [rounds_succ]
  have g0 : x4.cell? ⟨x1.heap.size, 6, none⟩ = some (.int .i64 3) := Vg.cellAt 6
  have g1 : x4.cell? ⟨x1.heap.size, 7, none⟩ = some (.string ⟨#[117, 112]⟩) := Vg.cellAt 7
  have g2 : x4.cell? ⟨x1.heap.size, 8, none⟩ = some (.func (.func 13) #[] #[]) := Vg.cellAt 8
  go_wp2_with fail
  clear g0 g1 g2
  refine ent1 x4 _ _ (Q := fun W => Code.rounds Try.prog _ _ _ _ W) ?_
  intro x5 hb hs Vr
  clear hs Vr
  replace B0 := step B0 hb
  replace V2 := Va.after hb V2
  replace Vg := Va.after hb Vg
  clear hb
  rw [rounds_succ]
  have g0 : x5.cell? ⟨x1.heap.size, 9, none⟩ = some (.int .i64 4) := Vg.cellAt 9
  have g1 : x5.cell? ⟨x1.heap.size, 10, none⟩ = some (.string ⟨#[100, 111, 119, 110]⟩) := Vg.cellAt 10
  have g2 : x5.cell? ⟨x1.heap.size, 11, none⟩ = some (.func (.func 14) #[] #[]) := Vg.cellAt 11
  go_wp2_with fail
  clear g0 g1 g2
  refine ent1 x5 _ _ (Q := fun W => Code.rounds Try.prog _ _ _ _ W) ?_
  intro x6 hb hs Vr
  clear hs Vr
  replace B0 := step B0 hb
  replace V2 := Va.after hb V2
  replace Vg := Va.after hb Vg
  clear hb
  rw [rounds_succ]
  have g0 : x6.cell? ⟨x1.heap.size, 12, none⟩ = some (.int .i64 5) := Vg.cellAt 12
  have g1 : x6.cell? ⟨x1.heap.size, 13, none⟩ = some (.string ⟨#[101, 118, 101, 110]⟩) := Vg.cellAt 13
  have g2 : x6.cell? ⟨x1.heap.size, 14, none⟩ = some (.func (.func 15) #[] #[]) := Vg.cellAt 14
  have U2 := Va.old V2 (.cells #[.int .i64 5, .string ⟨#[101, 118, 101, 110]⟩, .func (.func 15) #[] #[]] 30)
  have c2 := U2.d0
  have d2 := U2.d1
  have e2 := U2.d2
  have f0 := U2.frozen 0
  have f1 := U2.frozen 1
  have f2 := U2.frozen 2
  go_wp2_with fail
  refine bodyPost_ret (results_yt rfl rfl (U2.set3 _ _ _)) rfl ?_
  exact ⟨rfl, belo3 (B0.alloc B0.size _) (Nat.le_refl _) _ _ _⟩

theorem wayOf_no (m : Int) (hm : m < 1 ∨ 5 < m) (w : World) :
    Calls Try.prog 8 #[.int .i64 m] w fun e w' => e = .returned (.tuple #[.agg #[.int .i64 0, .string ⟨#[]⟩, .nilFunc], .bool false]) ∧ Below w.heap.size w w' := by
  go_enter Try.func8, Try.ntmps8
  go_wp2_with fail
  refine ent1 w _ _ (Q := fun W => Calls Try.prog _ _ W _) ?_
  intro x1 B0 hs1 V2
  clear hs1
  have l2 := V2.lt
  refine (ways_any x1).mono ?_
  rintro e x2 ⟨rfl, Vg, hb⟩
  replace B0 := step B0 hb
  replace V2 := Va.after hb V2
  have lg := Vg.lt
  clear hb
  go_wp2_with fail
  refine wp_loop_rounds 6 ?_
  rw [rounds_succ]
  have g0 : x2.cell? ⟨x1.heap.size, 0, none⟩ = some (.int .i64 1) := Vg.cellAt 0
  have g1 : x2.cell? ⟨x1.heap.size, 1, none⟩ = some (.string ⟨#[102, 108, 111, 111, 114]⟩) := Vg.cellAt 1
  have g2 : x2.cell? ⟨x1.heap.size, 2, none⟩ = some (.func (.func 11) #[] #[]) := Vg.cellAt 2
  have nm : (decide ((1 : Int) = m)) = false := by simp; omega
  have nm' : ((1 : Int) == m) = false := by simp; omega
  have nn : ¬ ((1 : Int) = m) := by omega
  go_wp2_with fail
  clear nm nm' nn
  clear g0 g1 g2
  refine ent1 x2 _ _ (Q := fun W => Code.rounds Try.prog _ _ _ _ W) ?_
  intro x3 hb hs Vr
  clear hs Vr
  replace B0 := step B0 hb
  replace V2 := Va.after hb V2
  replace Vg := Va.after hb Vg
  clear hb
  rw [rounds_succ]
  have g0 : x3.cell? ⟨x1.heap.size, 3, none⟩ = some (.int .i64 2) := Vg.cellAt 3
  have g1 : x3.cell? ⟨x1.heap.size, 4, none⟩ = some (.string ⟨#[99, 101, 105, 108]⟩) := Vg.cellAt 4
  have g2 : x3.cell? ⟨x1.heap.size, 5, none⟩ = some (.func (.func 12) #[] #[]) := Vg.cellAt 5
  have nm : (decide ((2 : Int) = m)) = false := by simp; omega
  have nm' : ((2 : Int) == m) = false := by simp; omega
  have nn : ¬ ((2 : Int) = m) := by omega
  go_wp2_with fail
  clear nm nm' nn
  clear g0 g1 g2
  refine ent1 x3 _ _ (Q := fun W => Code.rounds Try.prog _ _ _ _ W) ?_
  intro x4 hb hs Vr
  clear hs Vr
  replace B0 := step B0 hb
  replace V2 := Va.after hb V2
  replace Vg := Va.after hb Vg
  clear hb
  rw [rounds_succ]
  have g0 : x4.cell? ⟨x1.heap.size, 6, none⟩ = some (.int .i64 3) := Vg.cellAt 6
  have g1 : x4.cell? ⟨x1.heap.size, 7, none⟩ = some (.string ⟨#[117, 112]⟩) := Vg.cellAt 7
  have g2 : x4.cell? ⟨x1.heap.size, 8, none⟩ = some (.func (.func 13) #[] #[]) := Vg.cellAt 8
  have nm : (decide ((3 : Int) = m)) = false := by simp; omega
  have nm' : ((3 : Int) == m) = false := by simp; omega
  have nn : ¬ ((3 : Int) = m) := by omega
  go_wp2_with fail
  clear nm nm' nn
  clear g0 g1 g2
  refine ent1 x4 _ _ (Q := fun W => Code.rounds Try.prog _ _ _ _ W) ?_
  intro x5 hb hs Vr
  clear hs Vr
  replace B0 := step B0 hb
  replace V2 := Va.after hb V2
  replace Vg := Va.after hb Vg
  clear hb
  rw [rounds_succ]
  have g0 : x5.cell? ⟨x1.heap.size, 9, none⟩ = some (.int .i64 4) := Vg.cellAt 9
  have g1 : x5.cell? ⟨x1.heap.size, 10, none⟩ = some (.string ⟨#[100, 111, 119, 110]⟩) := Vg.cellAt 10
  have g2 : x5.cell? ⟨x1.heap.size, 11, none⟩ = some (.func (.func 14) #[] #[]) := Vg.cellAt 11
  have nm : (decide ((4 : Int) = m)) = false := by simp; omega
  have nm' : ((4 : Int) == m) = false := by simp; omega
  have nn : ¬ ((4 : Int) = m) := by omega
  go_wp2_with fail
  clear nm nm' nn
  clear g0 g1 g2
  refine ent1 x5 _ _ (Q := fun W => Code.rounds Try.prog _ _ _ _ W) ?_
  intro x6 hb hs Vr
  clear hs Vr
  replace B0 := step B0 hb
  replace V2 := Va.after hb V2
  replace Vg := Va.after hb Vg
  clear hb
  rw [rounds_succ]
  have g0 : x6.cell? ⟨x1.heap.size, 12, none⟩ = some (.int .i64 5) := Vg.cellAt 12
  have g1 : x6.cell? ⟨x1.heap.size, 13, none⟩ = some (.string ⟨#[101, 118, 101, 110]⟩) := Vg.cellAt 13
  have g2 : x6.cell? ⟨x1.heap.size, 14, none⟩ = some (.func (.func 15) #[] #[]) := Vg.cellAt 14
  have nm : (decide ((5 : Int) = m)) = false := by simp; omega
  have nm' : ((5 : Int) == m) = false := by simp; omega
  have nn : ¬ ((5 : Int) = m) := by omega
  go_wp2_with fail
  clear nm nm' nn
  clear g0 g1 g2
  refine ent1 x6 _ _ (Q := fun W => Code.rounds Try.prog _ _ _ _ W) ?_
  intro x7 hb hs Vr
  clear hs Vr
  replace B0 := step B0 hb
  replace V2 := Va.after hb V2
  replace Vg := Va.after hb Vg
  clear hb
  rw [rounds_succ]
  have c2 := V2.d0
  have d2 := V2.d1
  have e2 := V2.d2
  have f0 := V2.frozen 0
  have f1 := V2.frozen 1
  have f2 := V2.frozen 2
  go_wp2_with fail
  refine bodyPost_ret (results_yt rfl rfl (V2.set3 _ _ _)) rfl ?_
  exact ⟨rfl, belo3 B0 (Nat.le_refl _) _ _ _⟩

end Go.Proofs.Ytjaigmgbeganhaa
