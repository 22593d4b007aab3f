/-
  calendar: the table of the months' lengths; isLeap, length.
-/
import Derived.Test.YtlebkdmkofgdpaaDoorCaV
import Derived.Test.YtlebkdmkofgdpaaDoorCaP
import Derived.Lib.AppendIntMem
import Derived.Deep.QuietTactic
import Derived.BigQuiet
namespace Go.Proofs.YtlebkdmkofgdpaaDoor
open Go.RowKit
set_option linter.unusedVariables false

def Tl (w : World) : Prop := Go.Lib.TabIs Tryd.prog w "tollbook/calendar.lengths" .i64 [0, 31, 28, 31, 30, 31, 30, 31, 31, 30, 31, 30, 31]
theorem Tl.to {w w' : World} (h : Tl w) (hb : Below w.heap.size w w') : Tl w' := Go.Lib.tabBelow_of_tabIs h w' hb
theorem gTl : Tryd.prog.globalNamed "tollbook/calendar.lengths" = some 0 := by kernel_rfl
def lenN (m : Nat) : Int := [0, 31, 28, 31, 30, 31, 30, 31, 31, 30, 31, 30, 31].getD m 0
theorem Tl.cell {w : World} (h : Tl w) (P : Nat) (hP : P ≤ 12) : w.cell? ⟨0, P, none⟩ = some (.int .i64 (lenN P)) := by
  have := Go.Lib.TabIs.cell (g := 0) h gTl P (by simp; omega)
  rw [this]
  obtain rfl | rfl | rfl | rfl | rfl | rfl | rfl | rfl | rfl | rfl | rfl | rfl | rfl : P = 0 ∨ P = 1 ∨ P = 2 ∨ P = 3 ∨ P = 4 ∨ P = 5 ∨ P = 6 ∨ P = 7 ∨ P = 8 ∨ P = 9 ∨ P = 10 ∨ P = 11 ∨ P = 12 := by omega
  all_goals rfl
theorem lenN_dim {y : Int} {P : Nat} (h1 : 1 ≤ P) (h2 : P ≤ 12) (h : P = 2 → lpB y = false) : lenN P = dim y P := by
  obtain rfl | rfl | rfl | rfl | rfl | rfl | rfl | rfl | rfl | rfl | rfl | rfl : P = 1 ∨ P = 2 ∨ P = 3 ∨ P = 4 ∨ P = 5 ∨ P = 6 ∨ P = 7 ∨ P = 8 ∨ P = 9 ∨ P = 10 ∨ P = 11 ∨ P = 12 := by omega
  all_goals (first | rfl | (unfold dim; rw [lp_not (h rfl)]; rfl))
theorem ret_int {k : IntKind} {a b : Int} (h : a = b) : Ending.returned (.int k a) = .returned (.int k b) := by rw [h]
theorem ret_bool {a b : Bool} (h : a = b) : Ending.returned (.bool a) = .returned (.bool b) := by rw [h]
theorem isLeap_any (y : Int) (w : World) (h1 : 0 ≤ y) (h2 : y ≤ 100000) :
    Calls Tryd.prog 34 #[.int .i64 y] w fun e w' => e = .returned (.bool (lpB y)) ∧ w' = w := by
  by_cases a : y % 4 = 0 <;> by_cases b : y % 100 = 0 <;> by_cases c : y % 400 = 0
  all_goals
    go_enter Tryd.func34, Tryd.ntmps34
    go_wp2
    go_ret
    exact ⟨ret_bool (by unfold lpB; rw [Bool.eq_iff_iff]; simp <;> omega), rfl⟩
theorem length_any (y : Int) (m : Nat) (w : World) (h1 : 0 ≤ y) (h2 : y ≤ 100000) (m1 : 1 ≤ m) (m2 : m ≤ 12) (hT : Tl w) :
    Calls Tryd.prog 24 #[.int .i64 y, .int .i64 m] w fun e w' => e = .returned (.int .i64 (dim y m)) ∧ w' = w := by
  have c2 := hT.cell 2 (by omega)
  have cm := hT.cell m m2
  have i13 : (m : Int) < 13 := by omega
  by_cases h : m = 2
  · subst h
    cases hl : lpB y
    · have il := isLeap_any y
      rw [hl] at il
      have hd : dim y (2 : Nat) = 28 := by unfold dim; rw [lp_not hl]; rfl
      rw [hd]
      have e2 : lenN 2 = 28 := rfl
      rw [e2] at c2
      clear cm hl hd
      go_enter Tryd.func24, Tryd.ntmps24
      go_wp2_with (go_at_call 34; refine (il _ (by omega) (by omega)).mono ?_; rintro e w' ⟨rfl, rfl⟩)
      go_ret
      exact ⟨rfl, rfl⟩
    · have il := isLeap_any y
      rw [hl] at il
      have hd : dim y (2 : Nat) = 29 := by unfold dim; rw [lp_pos hl]; rfl
      rw [hd]
      have e2 : lenN 2 = 28 := rfl
      rw [e2] at c2
      clear cm hl hd
      go_enter Tryd.func24, Tryd.ntmps24
      go_wp2_with (go_at_call 34; refine (il _ (by omega) (by omega)).mono ?_; rintro e w' ⟨rfl, rfl⟩)
      go_ret
      exact ⟨rfl, rfl⟩
  · have hd : lenN m = dim y m := lenN_dim m1 m2 (fun e => absurd e h)
    rw [hd] at cm
    have h' : ¬ (m : Int) = 2 := by omega
    have h'' : ((m : Int) == 2) = false := by simp; omega
    clear hd
    go_enter Tryd.func24, Tryd.ntmps24
    go_wp2
    go_ret
    exact ⟨rfl, rfl⟩
end Go.Proofs.YtlebkdmkofgdpaaDoor
