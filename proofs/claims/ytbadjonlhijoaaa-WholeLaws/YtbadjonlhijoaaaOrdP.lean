/-
  What the walk of WholeOrder reckons with.
-/
import Derived.Test.YtbadjonlhijoaaaAwake4
import Derived.Test.YtbadjonlhijoaaaWh5
namespace Go.Proofs.Ytbadjonlhijoaaa
open Go.RowKit Go.Shelf
set_option linter.unusedVariables false

theorem cmp3_zero (x : Int) : cmp3 x 0 = Int.sign x := by
  rcases Int.lt_trichotomy x 0 with h | h | h
  · rw [cmp3_lt h, Int.sign_eq_neg_one_of_neg h]
  · rw [h, Int.sign_zero]; exact cmp3_eq rfl
  · rw [cmp3_gt h, Int.sign_eq_one_of_pos h]
theorem sign_range (x : Int) : -1 ≤ Int.sign x ∧ Int.sign x ≤ 1 := by
  rcases Int.lt_trichotomy x 0 with q | q | q
  · rw [Int.sign_eq_neg_one_of_neg q]; decide
  · rw [q]; decide
  · rw [Int.sign_eq_one_of_pos q]; decide
theorem long_lt {P x y : Int} (hx : (x.natAbs : Int) < P) (hy : (y.natAbs : Int) < P) (h : x < y) (hl : P ≤ ((x - y).natAbs : Int)) : Int.sign x = -1 := Int.sign_eq_neg_one_of_neg (by omega)
theorem long_gt {P x y : Int} (hx : (x.natAbs : Int) < P) (hy : (y.natAbs : Int) < P) (h : y < x) (hl : P ≤ ((x - y).natAbs : Int)) : Int.sign x = 1 := Int.sign_eq_one_of_pos (by omega)
theorem int64_any (s : Bool) (a : Option Addr) (l c : Nat) (zs : List Int) (w : World) (h : It w s a l c zs) : Calls Try.prog 10 #[.agg #[.bool s, .slice a l c]] w fun e w' => ∃ v er, e = .returned (.tuple #[.int .i64 v, .int .i64 er]) ∧ Hid ((er = 0 ∧ v = iv s zs) ∨ er = 5) ∧ Below w.heap.size w w' := by
  by_cases hr : -9223372036854775808 ≤ iv s zs ∧ iv s zs ≤ 9223372036854775807
  · refine (wint64_in s a l c zs w h hr.1 hr.2).mono ?_
    rintro e w' ⟨rfl, hb⟩
    exact ⟨_, _, rfl, Or.inl ⟨rfl, rfl⟩, hb⟩
  · refine (wint64_out s a l c zs w h (by omega)).mono ?_
    rintro e w' ⟨rfl, hb⟩
    exact ⟨_, _, rfl, Or.inr rfl, hb⟩
end Go.Proofs.Ytbadjonlhijoaaa
