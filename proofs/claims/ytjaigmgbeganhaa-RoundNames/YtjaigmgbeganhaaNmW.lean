/-
  Name, Mode, the document's; the walk of RoundNames.
-/
import Derived.Test.YtjaigmgbeganhaaNmY
namespace Go.Proofs.Ytjaigmgbeganhaa
open Go.RowKit
set_option linter.unusedVariables false

def nmCells : Array Value := #[.string ⟨#[102, 108, 111, 111, 114]⟩, .string ⟨#[99, 101, 105, 108]⟩, .string ⟨#[117, 112]⟩, .string ⟨#[100, 111, 119, 110]⟩, .string ⟨#[101, 118, 101, 110]⟩]
theorem names_any (w : World) :
    Calls Try.prog 9 #[] w fun e w' => e = .returned (.slice (some ⟨w.heap.size, 0, none⟩) 5 5) ∧ Va w' w.heap.size 9 nmCells ∧ Below w.heap.size w w' := by
  go_enter Try.func9, Try.ntmps9
  go_wp2_with fail
  go_ret
  exact ⟨rfl, Va.new w _ _, (Below.refl _ _).alloc (Nat.le_refl _) _⟩

theorem name_1 (w : World) : Calls Try.prog 4 #[.int .i64 1] w fun e w' => e = .returned (.tuple #[.string ⟨#[102, 108, 111, 111, 114]⟩, .bool true]) ∧ Below w.heap.size w w' := by
  go_enter Try.func4, Try.ntmps4
  go_wp2_with fail
  refine (wayOf_1 w).mono ?_
  rintro e x1 ⟨rfl, hb⟩
  go_wp2_with fail
  go_ret2
  exact ⟨rfl, hb.alloc hb.size _⟩

theorem rname_1 (w : World) : Calls Try.prog 5 #[.int .i64 1] w fun e w' => e = .returned (.tuple #[.string ⟨#[102, 108, 111, 111, 114]⟩, .bool true]) ∧ Below w.heap.size w w' := by
  go_enter Try.func5, Try.ntmps5
  go_wp2_with fail
  refine (names_any w).mono ?_
  rintro e x1 ⟨rfl, V, hb⟩
  have g0 : x1.cell? ⟨w.heap.size, 0, none⟩ = some (.string ⟨#[102, 108, 111, 111, 114]⟩) := V.cellAt 0
  go_wp2_with fail
  go_ret2
  exact ⟨rfl, hb⟩

theorem name_2 (w : World) : Calls Try.prog 4 #[.int .i64 2] w fun e w' => e = .returned (.tuple #[.string ⟨#[99, 101, 105, 108]⟩, .bool true]) ∧ Below w.heap.size w w' := by
  go_enter Try.func4, Try.ntmps4
  go_wp2_with fail
  refine (wayOf_2 w).mono ?_
  rintro e x1 ⟨rfl, hb⟩
  go_wp2_with fail
  go_ret2
  exact ⟨rfl, hb.alloc hb.size _⟩

theorem rname_2 (w : World) : Calls Try.prog 5 #[.int .i64 2] w fun e w' => e = .returned (.tuple #[.string ⟨#[99, 101, 105, 108]⟩, .bool true]) ∧ Below w.heap.size w w' := by
  go_enter Try.func5, Try.ntmps5
  go_wp2_with fail
  refine (names_any w).mono ?_
  rintro e x1 ⟨rfl, V, hb⟩
  have g0 : x1.cell? ⟨w.heap.size, 1, none⟩ = some (.string ⟨#[99, 101, 105, 108]⟩) := V.cellAt 1
  go_wp2_with fail
  go_ret2
  exact ⟨rfl, hb⟩

theorem name_3 (w : World) : Calls Try.prog 4 #[.int .i64 3] w fun e w' => e = .returned (.tuple #[.string ⟨#[117, 112]⟩, .bool true]) ∧ Below w.heap.size w w' := by
  go_enter Try.func4, Try.ntmps4
  go_wp2_with fail
  refine (wayOf_3 w).mono ?_
  rintro e x1 ⟨rfl, hb⟩
  go_wp2_with fail
  go_ret2
  exact ⟨rfl, hb.alloc hb.size _⟩

theorem rname_3 (w : World) : Calls Try.prog 5 #[.int .i64 3] w fun e w' => e = .returned (.tuple #[.string ⟨#[117, 112]⟩, .bool true]) ∧ Below w.heap.size w w' := by
  go_enter Try.func5, Try.ntmps5
  go_wp2_with fail
  refine (names_any w).mono ?_
  rintro e x1 ⟨rfl, V, hb⟩
  have g0 : x1.cell? ⟨w.heap.size, 2, none⟩ = some (.string ⟨#[117, 112]⟩) := V.cellAt 2
  go_wp2_with fail
  go_ret2
  exact ⟨rfl, hb⟩

theorem name_4 (w : World) : Calls Try.prog 4 #[.int .i64 4] w fun e w' => e = .returned (.tuple #[.string ⟨#[100, 111, 119, 110]⟩, .bool true]) ∧ Below w.heap.size w w' := by
  go_enter Try.func4, Try.ntmps4
  go_wp2_with fail
  refine (wayOf_4 w).mono ?_
  rintro e x1 ⟨rfl, hb⟩
  go_wp2_with fail
  go_ret2
  exact ⟨rfl, hb.alloc hb.size _⟩

theorem rname_4 (w : World) : Calls Try.prog 5 #[.int .i64 4] w fun e w' => e = .returned (.tuple #[.string ⟨#[100, 111, 119, 110]⟩, .bool true]) ∧ Below w.heap.size w w' := by
  go_enter Try.func5, Try.ntmps5
  go_wp2_with fail
  refine (names_any w).mono ?_
  rintro e x1 ⟨rfl, V, hb⟩
  have g0 : x1.cell? ⟨w.heap.size, 3, none⟩ = some (.string ⟨#[100, 111, 119, 110]⟩) := V.cellAt 3
  go_wp2_with fail
  go_ret2
  exact ⟨rfl, hb⟩

theorem name_5 (w : World) : Calls Try.prog 4 #[.int .i64 5] w fun e w' => e = .returned (.tuple #[.string ⟨#[101, 118, 101, 110]⟩, .bool true]) ∧ Below w.heap.size w w' := by
  go_enter Try.func4, Try.ntmps4
  go_wp2_with fail
  refine (wayOf_5 w).mono ?_
  rintro e x1 ⟨rfl, hb⟩
  go_wp2_with fail
  go_ret2
  exact ⟨rfl, hb.alloc hb.size _⟩

theorem rname_5 (w : World) : Calls Try.prog 5 #[.int .i64 5] w fun e w' => e = .returned (.tuple #[.string ⟨#[101, 118, 101, 110]⟩, .bool true]) ∧ Below w.heap.size w w' := by
  go_enter Try.func5, Try.ntmps5
  go_wp2_with fail
  refine (names_any w).mono ?_
  rintro e x1 ⟨rfl, V, hb⟩
  have g0 : x1.cell? ⟨w.heap.size, 4, none⟩ = some (.string ⟨#[101, 118, 101, 110]⟩) := V.cellAt 4
  go_wp2_with fail
  go_ret2
  exact ⟨rfl, hb⟩

theorem name_0 (m : Int) (hm : m < 1 ∨ 5 < m) (w : World) : Calls Try.prog 4 #[.int .i64 m] w fun e w' => e = .returned (.tuple #[.string ⟨#[]⟩, .bool false]) ∧ Below w.heap.size w w' := by
  go_enter Try.func4, Try.ntmps4
  go_wp2_with fail
  refine (wayOf_no m hm w).mono ?_
  rintro e x1 ⟨rfl, hb⟩
  go_wp2_with fail
  go_ret2
  exact ⟨rfl, hb.alloc hb.size _⟩

theorem rname_0 (m : Int) (hm : m < 1 ∨ 5 < m) (w : World) : Calls Try.prog 5 #[.int .i64 m] w fun e w' => e = .returned (.tuple #[.string ⟨#[]⟩, .bool false]) ∧ Below w.heap.size w w' := by
  rcases hm with h | h
  · go_enter Try.func5, Try.ntmps5
    go_wp2_with fail
    go_ret2
    exact ⟨rfl, Below.refl _ _⟩
  · go_enter Try.func5, Try.ntmps5
    go_wp2_with fail
    go_ret2
    exact ⟨rfl, Below.refl _ _⟩

theorem mode_1 (s : ByteArray) (n1 : (([102, 108, 111, 111, 114] : List UInt8) == s.toList) = true) (w : World) : Calls Try.prog 6 #[.string s] w fun e w' => e = .returned (.tuple #[.int .i64 1, .bool true]) ∧ Below w.heap.size w w' := by
  go_enter Try.func6, Try.ntmps6
  go_wp2_with fail
  refine (ways_any w).mono ?_
  rintro e x1 ⟨rfl, Vg, B0⟩
  go_wp2_with fail
  refine wp_loop_rounds 1 ?_
  rw [rounds_succ]
  have g0 : x1.cell? ⟨w.heap.size, 0, none⟩ = some (.int .i64 1) := Vg.cellAt 0
  have g1 : x1.cell? ⟨w.heap.size, 1, none⟩ = some (.string ⟨#[102, 108, 111, 111, 114]⟩) := Vg.cellAt 1
  have g2 : x1.cell? ⟨w.heap.size, 2, none⟩ = some (.func (.func 11) #[] #[]) := Vg.cellAt 2
  go_wp2_with fail
  go_ret2
  exact ⟨rfl, B0.alloc B0.size _⟩

theorem rmode_1 (s : ByteArray) (n1 : (([102, 108, 111, 111, 114] : List UInt8) == s.toList) = true) (w : World) : Calls Try.prog 7 #[.string s] w fun e w' => e = .returned (.tuple #[.int .i64 1, .bool true]) ∧ Below w.heap.size w w' := by
  go_enter Try.func7, Try.ntmps7
  go_wp2_with fail
  refine wp_loop_rounds 1 ?_
  have B0 := Below.refl w.heap.size w
  rw [rounds_succ]
  go_wp2_with fail
  refine (names_any w).mono ?_
  rintro e x1 ⟨rfl, V, hb⟩
  have g0 : x1.cell? ⟨w.heap.size, 0, none⟩ = some (.string ⟨#[102, 108, 111, 111, 114]⟩) := V.cellAt 0
  go_wp2_with fail
  replace B0 := step B0 hb
  clear hb g0 V
  go_ret2
  exact ⟨rfl, B0⟩

theorem mode_2 (s : ByteArray) (n1 : (([102, 108, 111, 111, 114] : List UInt8) == s.toList) = false)  (n2 : (([99, 101, 105, 108] : List UInt8) == s.toList) = true) (w : World) : Calls Try.prog 6 #[.string s] w fun e w' => e = .returned (.tuple #[.int .i64 2, .bool true]) ∧ Below w.heap.size w w' := by
  go_enter Try.func6, Try.ntmps6
  go_wp2_with fail
  refine (ways_any w).mono ?_
  rintro e x1 ⟨rfl, Vg, B0⟩
  go_wp2_with fail
  refine wp_loop_rounds 2 ?_
  rw [rounds_succ]
  have g0 : x1.cell? ⟨w.heap.size, 0, none⟩ = some (.int .i64 1) := Vg.cellAt 0
  have g1 : x1.cell? ⟨w.heap.size, 1, none⟩ = some (.string ⟨#[102, 108, 111, 111, 114]⟩) := Vg.cellAt 1
  have g2 : x1.cell? ⟨w.heap.size, 2, none⟩ = some (.func (.func 11) #[] #[]) := Vg.cellAt 2
  go_wp2_with fail
  clear g0 g1 g2
  refine ent1 x1 _ _ (Q := fun W => Code.rounds Try.prog _ _ _ _ W) ?_
  intro x2 hb hs Vr
  clear hs Vr
  replace B0 := step B0 hb
  replace Vg := Va.after hb Vg
  clear hb
  rw [rounds_succ]
  have g0 : x2.cell? ⟨w.heap.size, 3, none⟩ = some (.int .i64 2) := Vg.cellAt 3
  have g1 : x2.cell? ⟨w.heap.size, 4, none⟩ = some (.string ⟨#[99, 101, 105, 108]⟩) := Vg.cellAt 4
  have g2 : x2.cell? ⟨w.heap.size, 5, none⟩ = some (.func (.func 12) #[] #[]) := Vg.cellAt 5
  go_wp2_with fail
  go_ret2
  exact ⟨rfl, B0.alloc B0.size _⟩

theorem rmode_2 (s : ByteArray) (n1 : (([102, 108, 111, 111, 114] : List UInt8) == s.toList) = false)  (n2 : (([99, 101, 105, 108] : List UInt8) == s.toList) = true) (w : World) : Calls Try.prog 7 #[.string s] w fun e w' => e = .returned (.tuple #[.int .i64 2, .bool true]) ∧ Below w.heap.size w w' := by
  go_enter Try.func7, Try.ntmps7
  go_wp2_with fail
  refine wp_loop_rounds 2 ?_
  have B0 := Below.refl w.heap.size w
  rw [rounds_succ]
  go_wp2_with fail
  refine (names_any w).mono ?_
  rintro e x1 ⟨rfl, V, hb⟩
  have g0 : x1.cell? ⟨w.heap.size, 0, none⟩ = some (.string ⟨#[102, 108, 111, 111, 114]⟩) := V.cellAt 0
  go_wp2_with fail
  replace B0 := step B0 hb
  clear hb g0 V
  rw [rounds_succ]
  go_wp2_with fail
  refine (names_any x1).mono ?_
  rintro e x2 ⟨rfl, V, hb⟩
  have g0 : x2.cell? ⟨x1.heap.size, 1, none⟩ = some (.string ⟨#[99, 101, 105, 108]⟩) := V.cellAt 1
  go_wp2_with fail
  replace B0 := step B0 hb
  clear hb g0 V
  go_ret2
  exact ⟨rfl, B0⟩

theorem mode_3 (s : ByteArray) (n1 : (([102, 108, 111, 111, 114] : List UInt8) == s.toList) = false)  (n2 : (([99, 101, 105, 108] : List UInt8) == s.toList) = false)  (n3 : (([117, 112] : List UInt8) == s.toList) = true) (w : World) : Calls Try.prog 6 #[.string s] w fun e w' => e = .returned (.tuple #[.int .i64 3, .bool true]) ∧ Below w.heap.size w w' := by
  go_enter Try.func6, Try.ntmps6
  go_wp2_with fail
  refine (ways_any w).mono ?_
  rintro e x1 ⟨rfl, Vg, B0⟩
  go_wp2_with fail
  refine wp_loop_rounds 3 ?_
  rw [rounds_succ]
  have g0 : x1.cell? ⟨w.heap.size, 0, none⟩ = some (.int .i64 1) := Vg.cellAt 0
  have g1 : x1.cell? ⟨w.heap.size, 1, none⟩ = some (.string ⟨#[102, 108, 111, 111, 114]⟩) := Vg.cellAt 1
  have g2 : x1.cell? ⟨w.heap.size, 2, none⟩ = some (.func (.func 11) #[] #[]) := Vg.cellAt 2
  go_wp2_with fail
  clear g0 g1 g2
  refine ent1 x1 _ _ (Q := fun W => Code.rounds Try.prog _ _ _ _ W) ?_
  intro x2 hb hs Vr
  clear hs Vr
  replace B0 := step B0 hb
  replace Vg := Va.after hb Vg
  clear hb
  rw [rounds_succ]
  have g0 : x2.cell? ⟨w.heap.size, 3, none⟩ = some (.int .i64 2) := Vg.cellAt 3
  have g1 : x2.cell? ⟨w.heap.size, 4, none⟩ = some (.string ⟨#[99, 101, 105, 108]⟩) := Vg.cellAt 4
  have g2 : x2.cell? ⟨w.heap.size, 5, none⟩ = some (.func (.func 12) #[] #[]) := Vg.cellAt 5
  go_wp2_with fail
  clear g0 g1 g2
  refine ent1 x2 _ _ (Q := fun W => Code.rounds Try.prog _ _ _ _ W) ?_
  intro x3 hb hs Vr
  clear hs Vr
  replace B0 := step B0 hb
  replace Vg := Va.after hb Vg
  clear hb
  rw [rounds_succ]
  have g0 : x3.cell? ⟨w.heap.size, 6, none⟩ = some (.int .i64 3) := Vg.cellAt 6
  have g1 : x3.cell? ⟨w.heap.size, 7, none⟩ = some (.string ⟨#[117, 112]⟩) := Vg.cellAt 7
  have g2 : x3.cell? ⟨w.heap.size, 8, none⟩ = some (.func (.func 13) #[] #[]) := Vg.cellAt 8
  go_wp2_with fail
  go_ret2
  exact ⟨rfl, B0.alloc B0.size _⟩

theorem rmode_3 (s : ByteArray) (n1 : (([102, 108, 111, 111, 114] : List UInt8) == s.toList) = false)  (n2 : (([99, 101, 105, 108] : List UInt8) == s.toList) = false)  (n3 : (([117, 112] : List UInt8) == s.toList) = true) (w : World) : Calls Try.prog 7 #[.string s] w fun e w' => e = .returned (.tuple #[.int .i64 3, .bool true]) ∧ Below w.heap.size w w' := by
  go_enter Try.func7, Try.ntmps7
  go_wp2_with fail
  refine wp_loop_rounds 3 ?_
  have B0 := Below.refl w.heap.size w
  rw [rounds_succ]
  go_wp2_with fail
  refine (names_any w).mono ?_
  rintro e x1 ⟨rfl, V, hb⟩
  have g0 : x1.cell? ⟨w.heap.size, 0, none⟩ = some (.string ⟨#[102, 108, 111, 111, 114]⟩) := V.cellAt 0
  go_wp2_with fail
  replace B0 := step B0 hb
  clear hb g0 V
  rw [rounds_succ]
  go_wp2_with fail
  refine (names_any x1).mono ?_
  rintro e x2 ⟨rfl, V, hb⟩
  have g0 : x2.cell? ⟨x1.heap.size, 1, none⟩ = some (.string ⟨#[99, 101, 105, 108]⟩) := V.cellAt 1
  go_wp2_with fail
  replace B0 := step B0 hb
  clear hb g0 V
  rw [rounds_succ]
  go_wp2_with fail
  refine (names_any x2).mono ?_
  rintro e x3 ⟨rfl, V, hb⟩
  have g0 : x3.cell? ⟨x2.heap.size, 2, none⟩ = some (.string ⟨#[117, 112]⟩) := V.cellAt 2
  go_wp2_with fail
  replace B0 := step B0 hb
  clear hb g0 V
  go_ret2
  exact ⟨rfl, B0⟩

theorem mode_4 (s : ByteArray) (n1 : (([102, 108, 111, 111, 114] : List UInt8) == s.toList) = false)  (n2 : (([99, 101, 105, 108] : List UInt8) == s.toList) = false)  (n3 : (([117, 112] : List UInt8) == s.toList) = false)  (n4 : (([100, 111, 119, 110] : List UInt8) == s.toList) = true) (w : World) : Calls Try.prog 6 #[.string s] w fun e w' => e = .returned (.tuple #[.int .i64 4, .bool true]) ∧ Below w.heap.size w w' := by
  go_enter Try.func6, Try.ntmps6
  go_wp2_with fail
  refine (ways_any w).mono ?_
  rintro e x1 ⟨rfl, Vg, B0⟩
  go_wp2_with fail
  refine wp_loop_rounds 4 ?_
  rw [rounds_succ]
  have g0 : x1.cell? ⟨w.heap.size, 0, none⟩ = some (.int .i64 1) := Vg.cellAt 0
  have g1 : x1.cell? ⟨w.heap.size, 1, none⟩ = some (.string ⟨#[102, 108, 111, 111, 114]⟩) := Vg.cellAt 1
  have g2 : x1.cell? ⟨w.heap.size, 2, none⟩ = some (.func (.func 11) #[] #[]) := Vg.cellAt 2
  go_wp2_with fail
  clear g0 g1 g2
  refine ent1 x1 _ _ (Q := fun W => Code.rounds Try.prog _ _ _ _ W) ?_
  intro x2 hb hs Vr
  clear hs Vr
  replace B0 := step B0 hb
  replace Vg := Va.after hb Vg
  clear hb
  rw [rounds_succ]
  have g0 : x2.cell? ⟨w.heap.size, 3, none⟩ = some (.int .i64 2) := Vg.cellAt 3
  have g1 : x2.cell? ⟨w.heap.size, 4, none⟩ = some (.string ⟨#[99, 101, 105, 108]⟩) := Vg.cellAt 4
  have g2 : x2.cell? ⟨w.heap.size, 5, none⟩ = some (.func (.func 12) #[] #[]) := Vg.cellAt 5
  go_wp2_with fail
  clear g0 g1 g2
  refine ent1 x2 _ _ (Q := fun W => Code.rounds Try.prog _ _ _ _ W) ?_
  intro x3 hb hs Vr
  clear hs Vr
  replace B0 := step B0 hb
  replace Vg := Va.after hb Vg
  clear hb
  rw [rounds_succ]
  have g0 : x3.cell? ⟨w.heap.size, 6, none⟩ = some (.int .i64 3) := Vg.cellAt 6
  have g1 : x3.cell? ⟨w.heap.size, 7, none⟩ = some (.string ⟨#[117, 112]⟩) := Vg.cellAt 7
  have g2 : x3.cell? ⟨w.heap.size, 8, none⟩ = some (.func (.func 13) #[] #[]) := Vg.cellAt 8
  go_wp2_with fail
  clear g0 g1 g2
  refine ent1 x3 _ _ (Q := fun W => Code.rounds Try.prog _ _ _ _ W) ?_
  intro x4 hb hs Vr
  clear hs Vr
  replace B0 := step B0 hb
  replace Vg := Va.after hb Vg
  clear hb
  rw [rounds_succ]
  have g0 : x4.cell? ⟨w.heap.size, 9, none⟩ = some (.int .i64 4) := Vg.cellAt 9
  have g1 : x4.cell? ⟨w.heap.size, 10, none⟩ = some (.string ⟨#[100, 111, 119, 110]⟩) := Vg.cellAt 10
  have g2 : x4.cell? ⟨w.heap.size, 11, none⟩ = some (.func (.func 14) #[] #[]) := Vg.cellAt 11
  go_wp2_with fail
  go_ret2
  exact ⟨rfl, B0.alloc B0.size _⟩

theorem rmode_4 (s : ByteArray) (n1 : (([102, 108, 111, 111, 114] : List UInt8) == s.toList) = false)  (n2 : (([99, 101, 105, 108] : List UInt8) == s.toList) = false)  (n3 : (([117, 112] : List UInt8) == s.toList) = false)  (n4 : (([100, 111, 119, 110] : List UInt8) == s.toList) = true) (w : World) : Calls Try.prog 7 #[.string s] w fun e w' => e = .returned (.tuple #[.int .i64 4, .bool true]) ∧ Below w.heap.size w w' := by
  go_enter Try.func7, Try.ntmps7
  go_wp2_with fail
  refine wp_loop_rounds 4 ?_
  have B0 := Below.refl w.heap.size w
  rw [rounds_succ]
  go_wp2_with fail
  refine (names_any w).mono ?_
  rintro e x1 ⟨rfl, V, hb⟩
  have g0 : x1.cell? ⟨w.heap.size, 0, none⟩ = some (.string ⟨#[102, 108, 111, 111, 114]⟩) := V.cellAt 0
  go_wp2_with fail
  replace B0 := step B0 hb
  clear hb g0 V
  rw [rounds_succ]
  go_wp2_with fail
  refine (names_any x1).mono ?_
  rintro e x2 ⟨rfl, V, hb⟩
  have g0 : x2.cell? ⟨x1.heap.size, 1, none⟩ = some (.string ⟨#[99, 101, 105, 108]⟩) := V.cellAt 1
  go_wp2_with fail
  replace B0 := step B0 hb
  clear hb g0 V
  rw [rounds_succ]
  go_wp2_with fail
  refine (names_any x2).mono ?_
  rintro e x3 ⟨rfl, V, hb⟩
  have g0 : x3.cell? ⟨x2.heap.size, 2, none⟩ = some (.string ⟨#[117, 112]⟩) := V.cellAt 2
  go_wp2_with fail
  replace B0 := step B0 hb
  clear hb g0 V
  rw [rounds_succ]
  go_wp2_with fail
  refine (names_any x3).mono ?_
  rintro e x4 ⟨rfl, V, hb⟩
  have g0 : x4.cell? ⟨x3.heap.size, 3, none⟩ = some (.string ⟨#[100, 111, 119, 110]⟩) := V.cellAt 3
  go_wp2_with fail
  replace B0 := step B0 hb
  clear hb g0 V
  go_ret2
  exact ⟨rfl, B0⟩

theorem mode_5 (s : ByteArray) (n1 : (([102, 108, 111, 111, 114] : List UInt8) == s.toList) = false)  (n2 : (([99, 101, 105, 108] : List UInt8) == s.toList) = false)  (n3 : (([117, 112] : List UInt8) == s.toList) = false)  (n4 : (([100, 111, 119, 110] : List UInt8) == s.toList) = false)  (n5 : (([101, 118, 101, 110] : List UInt8) == s.toList) = true) (w : World) : Calls Try.prog 6 #[.string s] w fun e w' => e = .returned (.tuple #[.int .i64 5, .bool true]) ∧ Below w.heap.size w w' := by
  go_enter Try.func6, Try.ntmps6
  go_wp2_with fail
  refine (ways_any w).mono ?_
  rintro e x1 ⟨rfl, Vg, B0⟩
  go_wp2_with fail
  refine wp_loop_rounds 5 ?_
  rw [rounds_succ]
  have g0 : x1.cell? ⟨w.heap.size, 0, none⟩ = some (.int .i64 1) := Vg.cellAt 0
  have g1 : x1.cell? ⟨w.heap.size, 1, none⟩ = some (.string ⟨#[102, 108, 111, 111, 114]⟩) := Vg.cellAt 1
  have g2 : x1.cell? ⟨w.heap.size, 2, none⟩ = some (.func (.func 11) #[] #[]) := Vg.cellAt 2
  go_wp2_with fail
  clear g0 g1 g2
  refine ent1 x1 _ _ (Q := fun W => Code.rounds Try.prog _ _ _ _ W) ?_
  intro x2 hb hs Vr
  clear hs Vr
  replace B0 := step B0 hb
  replace Vg := Va.after hb Vg
  clear hb
  rw [rounds_succ]
  have g0 : x2.cell? ⟨w.heap.size, 3, none⟩ = some (.int .i64 2) := Vg.cellAt 3
  have g1 : x2.cell? ⟨w.heap.size, 4, none⟩ = some (.string ⟨#[99, 101, 105, 108]⟩) := Vg.cellAt 4
  have g2 : x2.cell? ⟨w.heap.size, 5, none⟩ = some (.func (.func 12) #[] #[]) := Vg.cellAt 5
  go_wp2_with fail
  clear g0 g1 g2
  refine ent1 x2 _ _ (Q := fun W => Code.rounds Try.prog _ _ _ _ W) ?_
  intro x3 hb hs Vr
  clear hs Vr
  replace B0 := step B0 hb
  replace Vg := Va.after hb Vg
  clear hb
  rw [rounds_succ]
  have g0 : x3.cell? ⟨w.heap.size, 6, none⟩ = some (.int .i64 3) := Vg.cellAt 6
  have g1 : x3.cell? ⟨w.heap.size, 7, none⟩ = some (.string ⟨#[117, 112]⟩) := Vg.cellAt 7
  have g2 : x3.cell? ⟨w.heap.size, 8, none⟩ = some (.func (.func 13) #[] #[]) := Vg.cellAt 8
  go_wp2_with fail
  clear g0 g1 g2
  refine ent1 x3 _ _ (Q := fun W => Code.rounds Try.prog _ _ _ _ W) ?_
  intro x4 hb hs Vr
  clear hs Vr
  replace B0 := step B0 hb
  replace Vg := Va.after hb Vg
  clear hb
  rw [rounds_succ]
  have g0 : x4.cell? ⟨w.heap.size, 9, none⟩ = some (.int .i64 4) := Vg.cellAt 9
  have g1 : x4.cell? ⟨w.heap.size, 10, none⟩ = some (.string ⟨#[100, 111, 119, 110]⟩) := Vg.cellAt 10
  have g2 : x4.cell? ⟨w.heap.size, 11, none⟩ = some (.func (.func 14) #[] #[]) := Vg.cellAt 11
  go_wp2_with fail
  clear g0 g1 g2
  refine ent1 x4 _ _ (Q := fun W => Code.rounds Try.prog _ _ _ _ W) ?_
  intro x5 hb hs Vr
  clear hs Vr
  replace B0 := step B0 hb
  replace Vg := Va.after hb Vg
  clear hb
  rw [rounds_succ]
  have g0 : x5.cell? ⟨w.heap.size, 12, none⟩ = some (.int .i64 5) := Vg.cellAt 12
  have g1 : x5.cell? ⟨w.heap.size, 13, none⟩ = some (.string ⟨#[101, 118, 101, 110]⟩) := Vg.cellAt 13
  have g2 : x5.cell? ⟨w.heap.size, 14, none⟩ = some (.func (.func 15) #[] #[]) := Vg.cellAt 14
  go_wp2_with fail
  go_ret2
  exact ⟨rfl, B0.alloc B0.size _⟩

theorem rmode_5 (s : ByteArray) (n1 : (([102, 108, 111, 111, 114] : List UInt8) == s.toList) = false)  (n2 : (([99, 101, 105, 108] : List UInt8) == s.toList) = false)  (n3 : (([117, 112] : List UInt8) == s.toList) = false)  (n4 : (([100, 111, 119, 110] : List UInt8) == s.toList) = false)  (n5 : (([101, 118, 101, 110] : List UInt8) == s.toList) = true) (w : World) : Calls Try.prog 7 #[.string s] w fun e w' => e = .returned (.tuple #[.int .i64 5, .bool true]) ∧ Below w.heap.size w w' := by
  go_enter Try.func7, Try.ntmps7
  go_wp2_with fail
  refine wp_loop_rounds 5 ?_
  have B0 := Below.refl w.heap.size w
  rw [rounds_succ]
  go_wp2_with fail
  refine (names_any w).mono ?_
  rintro e x1 ⟨rfl, V, hb⟩
  have g0 : x1.cell? ⟨w.heap.size, 0, none⟩ = some (.string ⟨#[102, 108, 111, 111, 114]⟩) := V.cellAt 0
  go_wp2_with fail
  replace B0 := step B0 hb
  clear hb g0 V
  rw [rounds_succ]
  go_wp2_with fail
  refine (names_any x1).mono ?_
  rintro e x2 ⟨rfl, V, hb⟩
  have g0 : x2.cell? ⟨x1.heap.size, 1, none⟩ = some (.string ⟨#[99, 101, 105, 108]⟩) := V.cellAt 1
  go_wp2_with fail
  replace B0 := step B0 hb
  clear hb g0 V
  rw [rounds_succ]
  go_wp2_with fail
  refine (names_any x2).mono ?_
  rintro e x3 ⟨rfl, V, hb⟩
  have g0 : x3.cell? ⟨x2.heap.size, 2, none⟩ = some (.string ⟨#[117, 112]⟩) := V.cellAt 2
  go_wp2_with fail
  replace B0 := step B0 hb
  clear hb g0 V
  rw [rounds_succ]
  go_wp2_with fail
  refine (names_any x3).mono ?_
  rintro e x4 ⟨rfl, V, hb⟩
  have g0 : x4.cell? ⟨x3.heap.size, 3, none⟩ = some (.string ⟨#[100, 111, 119, 110]⟩) := V.cellAt 3
  go_wp2_with fail
  replace B0 := step B0 hb
  clear hb g0 V
  rw [rounds_succ]
  go_wp2_with fail
  refine (names_any x4).mono ?_
  rintro e x5 ⟨rfl, V, hb⟩
  have g0 : x5.cell? ⟨x4.heap.size, 4, none⟩ = some (.string ⟨#[101, 118, 101, 110]⟩) := V.cellAt 4
  go_wp2_with fail
  replace B0 := step B0 hb
  clear hb g0 V
  go_ret2
  exact ⟨rfl, B0⟩

theorem mode_0 (s : ByteArray) (n1 : (([102, 108, 111, 111, 114] : List UInt8) == s.toList) = false)  (n2 : (([99, 101, 105, 108] : List UInt8) == s.toList) = false)  (n3 : (([117, 112] : List UInt8) == s.toList) = false)  (n4 : (([100, 111, 119, 110] : List UInt8) == s.toList) = false)  (n5 : (([101, 118, 101, 110] : List UInt8) == s.toList) = false) (w : World) : Calls Try.prog 6 #[.string s] w fun e w' => e = .returned (.tuple #[.int .i64 0, .bool false]) ∧ Below w.heap.size w w' := by
  go_enter Try.func6, Try.ntmps6
  go_wp2_with fail
  refine (ways_any w).mono ?_
  rintro e x1 ⟨rfl, Vg, B0⟩
  go_wp2_with fail
  refine wp_loop_rounds 6 ?_
  rw [rounds_succ]
  have g0 : x1.cell? ⟨w.heap.size, 0, none⟩ = some (.int .i64 1) := Vg.cellAt 0
  have g1 : x1.cell? ⟨w.heap.size, 1, none⟩ = some (.string ⟨#[102, 108, 111, 111, 114]⟩) := Vg.cellAt 1
  have g2 : x1.cell? ⟨w.heap.size, 2, none⟩ = some (.func (.func 11) #[] #[]) := Vg.cellAt 2
  go_wp2_with fail
  clear g0 g1 g2
  refine ent1 x1 _ _ (Q := fun W => Code.rounds Try.prog _ _ _ _ W) ?_
  intro x2 hb hs Vr
  clear hs Vr
  replace B0 := step B0 hb
  replace Vg := Va.after hb Vg
  clear hb
  rw [rounds_succ]
  have g0 : x2.cell? ⟨w.heap.size, 3, none⟩ = some (.int .i64 2) := Vg.cellAt 3
  have g1 : x2.cell? ⟨w.heap.size, 4, none⟩ = some (.string ⟨#[99, 101, 105, 108]⟩) := Vg.cellAt 4
  have g2 : x2.cell? ⟨w.heap.size, 5, none⟩ = some (.func (.func 12) #[] #[]) := Vg.cellAt 5
  go_wp2_with fail
  clear g0 g1 g2
  refine ent1 x2 _ _ (Q := fun W => Code.rounds Try.prog _ _ _ _ W) ?_
  intro x3 hb hs Vr
  clear hs Vr
  replace B0 := step B0 hb
  replace Vg := Va.after hb Vg
  clear hb
  rw [rounds_succ]
  have g0 : x3.cell? ⟨w.heap.size, 6, none⟩ = some (.int .i64 3) := Vg.cellAt 6
  have g1 : x3.cell? ⟨w.heap.size, 7, none⟩ = some (.string ⟨#[117, 112]⟩) := Vg.cellAt 7
  have g2 : x3.cell? ⟨w.heap.size, 8, none⟩ = some (.func (.func 13) #[] #[]) := Vg.cellAt 8
  go_wp2_with fail
  clear g0 g1 g2
  refine ent1 x3 _ _ (Q := fun W => Code.rounds Try.prog _ _ _ _ W) ?_
  intro x4 hb hs Vr
  clear hs Vr
  replace B0 := step B0 hb
  replace Vg := Va.after hb Vg
  clear hb
  rw [rounds_succ]
  have g0 : x4.cell? ⟨w.heap.size, 9, none⟩ = some (.int .i64 4) := Vg.cellAt 9
  have g1 : x4.cell? ⟨w.heap.size, 10, none⟩ = some (.string ⟨#[100, 111, 119, 110]⟩) := Vg.cellAt 10
  have g2 : x4.cell? ⟨w.heap.size, 11, none⟩ = some (.func (.func 14) #[] #[]) := Vg.cellAt 11
  go_wp2_with fail
  clear g0 g1 g2
  refine ent1 x4 _ _ (Q := fun W => Code.rounds Try.prog _ _ _ _ W) ?_
  intro x5 hb hs Vr
  clear hs Vr
  replace B0 := step B0 hb
  replace Vg := Va.after hb Vg
  clear hb
  rw [rounds_succ]
  have g0 : x5.cell? ⟨w.heap.size, 12, none⟩ = some (.int .i64 5) := Vg.cellAt 12
  have g1 : x5.cell? ⟨w.heap.size, 13, none⟩ = some (.string ⟨#[101, 118, 101, 110]⟩) := Vg.cellAt 13
  have g2 : x5.cell? ⟨w.heap.size, 14, none⟩ = some (.func (.func 15) #[] #[]) := Vg.cellAt 14
  go_wp2_with fail
  clear g0 g1 g2
  refine ent1 x5 _ _ (Q := fun W => Code.rounds Try.prog _ _ _ _ W) ?_
  intro x6 hb hs Vr
  clear hs Vr
  replace B0 := step B0 hb
  replace Vg := Va.after hb Vg
  clear hb
  rw [rounds_succ]
  go_wp2_with fail
  go_ret2
  exact ⟨rfl, B0⟩

theorem rmode_0 (s : ByteArray) (n1 : (([102, 108, 111, 111, 114] : List UInt8) == s.toList) = false)  (n2 : (([99, 101, 105, 108] : List UInt8) == s.toList) = false)  (n3 : (([117, 112] : List UInt8) == s.toList) = false)  (n4 : (([100, 111, 119, 110] : List UInt8) == s.toList) = false)  (n5 : (([101, 118, 101, 110] : List UInt8) == s.toList) = false) (w : World) : Calls Try.prog 7 #[.string s] w fun e w' => e = .returned (.tuple #[.int .i64 0, .bool false]) ∧ Below w.heap.size w w' := by
  go_enter Try.func7, Try.ntmps7
  go_wp2_with fail
  refine wp_loop_rounds 6 ?_
  have B0 := Below.refl w.heap.size w
  rw [rounds_succ]
  go_wp2_with fail
  refine (names_any w).mono ?_
  rintro e x1 ⟨rfl, V, hb⟩
  have g0 : x1.cell? ⟨w.heap.size, 0, none⟩ = some (.string ⟨#[102, 108, 111, 111, 114]⟩) := V.cellAt 0
  go_wp2_with fail
  replace B0 := step B0 hb
  clear hb g0 V
  rw [rounds_succ]
  go_wp2_with fail
  refine (names_any x1).mono ?_
  rintro e x2 ⟨rfl, V, hb⟩
  have g0 : x2.cell? ⟨x1.heap.size, 1, none⟩ = some (.string ⟨#[99, 101, 105, 108]⟩) := V.cellAt 1
  go_wp2_with fail
  replace B0 := step B0 hb
  clear hb g0 V
  rw [rounds_succ]
  go_wp2_with fail
  refine (names_any x2).mono ?_
  rintro e x3 ⟨rfl, V, hb⟩
  have g0 : x3.cell? ⟨x2.heap.size, 2, none⟩ = some (.string ⟨#[117, 112]⟩) := V.cellAt 2
  go_wp2_with fail
  replace B0 := step B0 hb
  clear hb g0 V
  rw [rounds_succ]
  go_wp2_with fail
  refine (names_any x3).mono ?_
  rintro e x4 ⟨rfl, V, hb⟩
  have g0 : x4.cell? ⟨x3.heap.size, 3, none⟩ = some (.string ⟨#[100, 111, 119, 110]⟩) := V.cellAt 3
  go_wp2_with fail
  replace B0 := step B0 hb
  clear hb g0 V
  rw [rounds_succ]
  go_wp2_with fail
  refine (names_any x4).mono ?_
  rintro e x5 ⟨rfl, V, hb⟩
  have g0 : x5.cell? ⟨x4.heap.size, 4, none⟩ = some (.string ⟨#[101, 118, 101, 110]⟩) := V.cellAt 4
  go_wp2_with fail
  replace B0 := step B0 hb
  clear hb g0 V
  rw [rounds_succ]
  go_wp2_with fail
  go_ret2
  exact ⟨rfl, B0⟩

theorem mode_33 (w : World) : Calls Try.prog 6 #[.string ⟨#[117, 112]⟩] w fun e w' => e = .returned (.tuple #[.int .i64 3, .bool true]) ∧ Below w.heap.size w w' := by
  go_enter Try.func6, Try.ntmps6
  go_wp2_with fail
  refine (ways_any w).mono ?_
  rintro e x1 ⟨rfl, Vg, B0⟩
  go_wp2_with fail
  refine wp_loop_rounds 3 ?_
  rw [rounds_succ]
  have g0 : x1.cell? ⟨w.heap.size, 0, none⟩ = some (.int .i64 1) := Vg.cellAt 0
  have g1 : x1.cell? ⟨w.heap.size, 1, none⟩ = some (.string ⟨#[102, 108, 111, 111, 114]⟩) := Vg.cellAt 1
  have g2 : x1.cell? ⟨w.heap.size, 2, none⟩ = some (.func (.func 11) #[] #[]) := Vg.cellAt 2
  go_wp2_with fail
  clear g0 g1 g2
  refine ent1 x1 _ _ (Q := fun W => Code.rounds Try.prog _ _ _ _ W) ?_
  intro x2 hb hs Vr
  clear hs Vr
  replace B0 := step B0 hb
  replace Vg := Va.after hb Vg
  clear hb
  rw [rounds_succ]
  have g0 : x2.cell? ⟨w.heap.size, 3, none⟩ = some (.int .i64 2) := Vg.cellAt 3
  have g1 : x2.cell? ⟨w.heap.size, 4, none⟩ = some (.string ⟨#[99, 101, 105, 108]⟩) := Vg.cellAt 4
  have g2 : x2.cell? ⟨w.heap.size, 5, none⟩ = some (.func (.func 12) #[] #[]) := Vg.cellAt 5
  go_wp2_with fail
  clear g0 g1 g2
  refine ent1 x2 _ _ (Q := fun W => Code.rounds Try.prog _ _ _ _ W) ?_
  intro x3 hb hs Vr
  clear hs Vr
  replace B0 := step B0 hb
  replace Vg := Va.after hb Vg
  clear hb
  rw [rounds_succ]
  have g0 : x3.cell? ⟨w.heap.size, 6, none⟩ = some (.int .i64 3) := Vg.cellAt 6
  have g1 : x3.cell? ⟨w.heap.size, 7, none⟩ = some (.string ⟨#[117, 112]⟩) := Vg.cellAt 7
  have g2 : x3.cell? ⟨w.heap.size, 8, none⟩ = some (.func (.func 13) #[] #[]) := Vg.cellAt 8
  go_wp2_with fail
  go_ret2
  exact ⟨rfl, B0.alloc B0.size _⟩

theorem names_same (m : Int) : ∃ (s : ByteArray) (b : Bool), (∀ w, Calls Try.prog 4 #[.int .i64 m] w fun e w' => e = .returned (.tuple #[.string s, .bool b]) ∧ Below w.heap.size w w') ∧ (∀ w, Calls Try.prog 5 #[.int .i64 m] w fun e w' => e = .returned (.tuple #[.string s, .bool b]) ∧ Below w.heap.size w w') := by
  by_cases hm : m < 1 ∨ 5 < m
  · exact ⟨_, _, name_0 m hm, rname_0 m hm⟩
  · obtain rfl | rfl | rfl | rfl | rfl : m = 1 ∨ m = 2 ∨ m = 3 ∨ m = 4 ∨ m = 5 := by omega
    · exact ⟨_, _, name_1, rname_1⟩
    · exact ⟨_, _, name_2, rname_2⟩
    · exact ⟨_, _, name_3, rname_3⟩
    · exact ⟨_, _, name_4, rname_4⟩
    · exact ⟨_, _, name_5, rname_5⟩

theorem modes_same (s : ByteArray) : ∃ (i : Int) (b : Bool), (∀ w, Calls Try.prog 6 #[.string s] w fun e w' => e = .returned (.tuple #[.int .i64 i, .bool b]) ∧ Below w.heap.size w w') ∧ (∀ w, Calls Try.prog 7 #[.string s] w fun e w' => e = .returned (.tuple #[.int .i64 i, .bool b]) ∧ Below w.heap.size w w') := by
  by_cases h1 : (([102, 108, 111, 111, 114] : List UInt8) == s.toList) = true
  · exact ⟨_, _, mode_1 s  h1, rmode_1 s  h1⟩
  have n1 : (([102, 108, 111, 111, 114] : List UInt8) == s.toList) = false := by simpa using h1
  by_cases h2 : (([99, 101, 105, 108] : List UInt8) == s.toList) = true
  · exact ⟨_, _, mode_2 s n1 h2, rmode_2 s n1 h2⟩
  have n2 : (([99, 101, 105, 108] : List UInt8) == s.toList) = false := by simpa using h2
  by_cases h3 : (([117, 112] : List UInt8) == s.toList) = true
  · exact ⟨_, _, mode_3 s n1 n2 h3, rmode_3 s n1 n2 h3⟩
  have n3 : (([117, 112] : List UInt8) == s.toList) = false := by simpa using h3
  by_cases h4 : (([100, 111, 119, 110] : List UInt8) == s.toList) = true
  · exact ⟨_, _, mode_4 s n1 n2 n3 h4, rmode_4 s n1 n2 n3 h4⟩
  have n4 : (([100, 111, 119, 110] : List UInt8) == s.toList) = false := by simpa using h4
  by_cases h5 : (([101, 118, 101, 110] : List UInt8) == s.toList) = true
  · exact ⟨_, _, mode_5 s n1 n2 n3 n4 h5, rmode_5 s n1 n2 n3 n4 h5⟩
  have n5 : (([101, 118, 101, 110] : List UInt8) == s.toList) = false := by simpa using h5
  exact ⟨_, _, mode_0 s n1 n2 n3 n4 n5, rmode_0 s n1 n2 n3 n4 n5⟩

theorem names_walk (m : Int) (s : ByteArray) (w : World) :
    Calls Try.prog 3 #[.int .i64 m, .string s] w fun e w' => e = .returned (.bool true) ∧ Below w.heap.size w w' := by
  obtain ⟨s1, b1, C1, C2⟩ := names_same m
  obtain ⟨i2, b2, C3, C4⟩ := modes_same s
  go_enter Try.func3, Try.ntmps3
  go_wp2_with fail
  refine (C1 w).mono ?_
  rintro e x1 ⟨rfl, B0⟩
  go_wp2_with fail
  refine (C2 x1).mono ?_
  rintro e x2 ⟨rfl, hb⟩
  replace B0 := step B0 hb
  clear hb
  go_wp2_with fail
  refine (C3 x2).mono ?_
  rintro e x3 ⟨rfl, hb⟩
  replace B0 := step B0 hb
  clear hb
  go_wp2_with fail
  refine (C4 x3).mono ?_
  rintro e x4 ⟨rfl, hb⟩
  replace B0 := step B0 hb
  clear hb
  go_wp2_with fail
  refine (mode_33 x4).mono ?_
  rintro e x5 ⟨rfl, hb⟩
  replace B0 := step B0 hb
  clear hb
  go_wp2_with fail
  go_ret
  exact ⟨rfl, B0⟩
end Go.Proofs.Ytjaigmgbeganhaa
