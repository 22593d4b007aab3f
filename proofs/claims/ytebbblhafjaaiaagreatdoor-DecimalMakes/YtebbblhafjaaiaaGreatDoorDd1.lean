/-
  The document's order of two decimals.
-/
import Derived.Test.YtebbblhafjaaiaaGreatDoorDec7
import Derived.Test.YtebbblhafjaaiaaGreatDoorT3b
import Derived.Test.YtebbblhafjaaiaaGreatDoorDcP
import Derived.Test.YtebbblhafjaaiaaGreatDoorBsL
import Derived.Test.YtebbblhafjaaiaaGreatDoorNRef6
namespace Go.Proofs.YtebbblhafjaaiaaGreatDoor
open Go.RowKit Go.Shelf
set_option linter.unusedVariables false

theorem rsize6 (x : Int) (h1 : -9223372036854775808 ≤ x) (h2 : x ≤ 9223372036854775807) (w : World) : Calls Tryz.prog 48 #[.int .i64 x] w fun e w' => e = .returned (.int .u64 (x.natAbs : Int)) ∧ w' = w := by
  obtain ⟨y, hy⟩ : ∃ y, x.natAbs = y := ⟨_, rfl⟩
  rw [hy]
  by_cases g : x < 0
  · have g1 : decide (x < 0) = true := decide_eq_true g
    have e1 : IntKind.u64.wrap x = x + 18446744073709551616 := by rw [IntKind.wrap_u64]; omega
    have e2 : IntKind.u64.wrap (-(x + 18446744073709551616)) = (y : Int) := by rw [IntKind.wrap_u64]; omega
    clear hy h1 h2
    go_enter Tryz.func48, Tryz.ntmps48
    go_wp2_with fail
    go_ret
    exact ⟨rfl, rfl⟩
  · have g1 : decide (x < 0) = false := decide_eq_false g
    have e1 : IntKind.u64.wrap x = (y : Int) := by rw [IntKind.wrap_u64]; omega
    clear hy h1 h2
    go_enter Tryz.func48, Tryz.ntmps48
    go_wp2_with fail
    go_ret
    exact ⟨rfl, rfl⟩
theorem rten6 (k : Nat) (hk : k ≤ 9) (w : World) :
    Calls Tryz.prog 69 #[.int .i64 k] w fun e w' => ∃ a' m c zs, e = .returned (.slice a' m c) ∧ m ≤ c ∧ m ≤ 1 ∧ Sl w' a' m zs ∧ usedN zs = m ∧ num zs = 10 ^ k ∧ Below w.heap.size w w' := by
  go_enter Tryz.func69, Tryz.ntmps69
  go_wp2_with fail
  refine (ten3 k hk _).mono ?_
  rintro e x1 ⟨a2, m2, c2, zs, rfl, hc2, hm2, hs2, hu2, hn2, hb2⟩
  go_wp2_with fail
  go_ret
  exact ⟨a2, m2, c2, zs, rfl, hc2, hm2, hs2, hu2, hn2, hb2⟩
theorem rcheck6_ok (U P : Int) (h : CanI U P) (w : World) : Calls Tryz.prog 12 #[.agg #[.int .i64 U, .int .i64 P]] w fun e w' => e = .returned (.int .i64 0) ∧ Below w.heap.size w w' := by
  obtain ⟨h0, h9, h3⟩ := h
  have g1 : decide (P < 0) = false := decide_eq_false (by omega)
  have g2 : decide (9 < P) = false := decide_eq_false (by omega)
  by_cases hp : 0 < P
  ·
    obtain ⟨m, hm⟩ : ∃ m, U.tmod 10 = m := ⟨_, rfl⟩
    have hm0 : (m == 0) = false := by have := h3 hp; rw [hm] at this; simpa using this
    have g3 : decide (0 < P) = true := decide_eq_true hp
    go_enter Tryz.func12, Tryz.ntmps12
    go_wp2_with fail
    go_ret
    exact ⟨rfl, (Below.refl _ _).alloc (Nat.le_refl _) _⟩
  ·
    have g3 : decide (0 < P) = false := decide_eq_false hp
    go_enter Tryz.func12, Tryz.ntmps12
    go_wp2_with fail
    go_ret
    exact ⟨rfl, (Below.refl _ _).alloc (Nat.le_refl _) _⟩
theorem rcheck6_no (U P : Int) (h : ¬ CanI U P) (w : World) : Calls Tryz.prog 12 #[.agg #[.int .i64 U, .int .i64 P]] w fun e w' => e = .returned (.int .i64 60) ∧ Below w.heap.size w w' := by
  by_cases a1 : P < 0
  ·
    have g1 : decide (P < 0) = true := decide_eq_true a1
    go_enter Tryz.func12, Tryz.ntmps12
    go_wp2_with fail
    go_ret
    exact ⟨rfl, (Below.refl _ _).alloc (Nat.le_refl _) _⟩
  ·
    have g1 : decide (P < 0) = false := decide_eq_false a1
    by_cases a2 : 9 < P
    ·
      have g2 : decide (9 < P) = true := decide_eq_true a2
      go_enter Tryz.func12, Tryz.ntmps12
      go_wp2_with fail
      go_ret
      exact ⟨rfl, (Below.refl _ _).alloc (Nat.le_refl _) _⟩
    ·
      have g2 : decide (9 < P) = false := decide_eq_false a2
      have hp : 0 < P := by
        rcases Int.lt_or_le 0 P with h' | h'
        · exact h'
        · exact absurd ⟨by omega, by omega, fun hh => by omega⟩ h
      have hm : U.tmod 10 = 0 := by
        rcases Decidable.em (U.tmod 10 = 0) with h' | h'
        · exact h'
        · exact absurd ⟨by omega, by omega, fun _ => h'⟩ h
      have g3 : decide (0 < P) = true := decide_eq_true hp
      go_enter Tryz.func12, Tryz.ntmps12
      go_wp2_with fail
      go_ret
      exact ⟨rfl, (Below.refl _ _).alloc (Nat.le_refl _) _⟩
end Go.Proofs.YtebbblhafjaaiaaGreatDoor
