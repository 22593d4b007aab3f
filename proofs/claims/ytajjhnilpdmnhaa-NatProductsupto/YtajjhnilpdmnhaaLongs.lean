/-
  Whether one of two numbers is long.
-/
import Derived.Test.YtajjhnilpdmnhaaAwake2
namespace Go.Proofs.Ytajjhnilpdmnhaa
open Go.RowKit Go.Shelf

theorem long_no (a b : Option Addr) (la ca lb cb : Nat) (xs ys : List Int) (w : World) (ha : Sl w a la xs) (hb : Sl w b lb ys) (h1 : la ≤ 40000000000000) (h2 : lb ≤ 40000000000000) (u1 : usedN xs ≤ 4096) (u2 : usedN ys ≤ 4096) :
    Calls Try.prog 22 #[.slice a la ca, .slice b lb cb] w fun e w' => e = .returned (.bool false) ∧ Below w.heap.size w w' := by
  have A := rlong_any a la ca xs w ha h1
  have B := rlong_any b lb cb ys w hb h2
  have e1 : decide ((4096 : Int) < usedN xs) = false := by simp; omega
  have e2 : decide ((4096 : Int) < usedN ys) = false := by simp; omega
  rw [e1] at A
  rw [e2] at B
  clear e1 e2
  go_enter Try.func22, Try.ntmps22
  go_wp2_with fail
  refine A.mono ?_
  rintro e w1 ⟨rfl, rfl⟩
  go_wp2_with fail
  refine B.mono ?_
  rintro e w1 ⟨rfl, rfl⟩
  go_wp2_with fail
  go_ret
  exact ⟨rfl, Below.refl _ _⟩
theorem long_yes (a b : Option Addr) (la ca lb cb : Nat) (xs ys : List Int) (w : World) (ha : Sl w a la xs) (hb : Sl w b lb ys) (h1 : la ≤ 40000000000000) (h2 : lb ≤ 40000000000000) (u : 4096 < usedN xs ∨ 4096 < usedN ys) :
    Calls Try.prog 22 #[.slice a la ca, .slice b lb cb] w fun e w' => e = .returned (.bool true) ∧ Below w.heap.size w w' := by
  have A := rlong_any a la ca xs w ha h1
  have B := rlong_any b lb cb ys w hb h2
  by_cases u1 : 4096 < usedN xs
  · have e1 : decide ((4096 : Int) < usedN xs) = true := by simp; omega
    rw [e1] at A
    clear e1
    go_enter Try.func22, Try.ntmps22
    go_wp2_with fail
    refine A.mono ?_
    rintro e w1 ⟨rfl, rfl⟩
    go_wp2_with fail
    go_ret
    exact ⟨rfl, Below.refl _ _⟩
  · have e1 : decide ((4096 : Int) < usedN xs) = false := by simp; omega
    have e2 : decide ((4096 : Int) < usedN ys) = true := by simp; omega
    rw [e1] at A
    rw [e2] at B
    clear e1 e2
    go_enter Try.func22, Try.ntmps22
    go_wp2_with fail
    refine A.mono ?_
    rintro e w1 ⟨rfl, rfl⟩
    go_wp2_with fail
    refine B.mono ?_
    rintro e w1 ⟨rfl, rfl⟩
    go_wp2_with fail
    go_ret
    exact ⟨rfl, Below.refl _ _⟩
end Go.Proofs.Ytajjhnilpdmnhaa
