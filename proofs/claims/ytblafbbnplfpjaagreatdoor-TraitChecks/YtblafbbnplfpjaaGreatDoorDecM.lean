/-
  Decimals with as few places as may be. Plain Lean.
-/
import Derived.Test.YtblafbbnplfpjaaGreatDoorDecR
namespace Go.Proofs.YtblafbbnplfpjaaGreatDoor
set_option linter.unusedVariables false
/-- A decimal with as few places as may be. -/
def mkd : Int → Nat → Int × Nat
  | U, 0 => (U, 0)
  | U, P + 1 => if U.tmod 10 = 0 then mkd (U.tdiv 10) P else (U, P + 1)
/-- It may be. -/
def Can (U : Int) (P : Nat) : Prop := P ≤ 9 ∧ (0 < P → U.natAbs % 10 ≠ 0)
theorem tmod_iff (U : Int) : U.tmod 10 = 0 ↔ U.natAbs % 10 = 0 := by rw [← Int.dvd_iff_tmod_eq_zero]; omega
theorem tdiv_ten {U : Int} (h : U.tmod 10 = 0) : U = 10 * U.tdiv 10 := by have := Int.mul_tdiv_add_tmod U 10; omega
theorem mkd_can : ∀ (P : Nat) (U : Int), P ≤ 9 → Can (mkd U P).1 (mkd U P).2
  | 0, U, _ => ⟨by simp [mkd], fun h => by simp [mkd] at h⟩
  | P + 1, U, h => by
    unfold mkd
    by_cases h0 : U.tmod 10 = 0
    · rw [if_pos h0]; exact mkd_can P _ (by omega)
    · rw [if_neg h0]; exact ⟨h, fun _ => by show U.natAbs % 10 ≠ 0; rw [Ne, ← tmod_iff]; exact h0⟩
theorem mkd_id {U : Int} {P : Nat} (h : Can U P) : mkd U P = (U, P) := by
  cases P with
  | zero => rfl
  | succ P => unfold mkd; rw [if_neg (by rw [tmod_iff]; exact h.2 (by omega))]
theorem mkd_bound : ∀ (P : Nat) (U : Int), -9223372036854775808 ≤ U → U ≤ 9223372036854775807 → -9223372036854775808 ≤ (mkd U P).1 ∧ (mkd U P).1 ≤ 9223372036854775807
  | 0, U, h1, h2 => ⟨h1, h2⟩
  | P + 1, U, h1, h2 => by
    unfold mkd
    by_cases h0 : U.tmod 10 = 0
    · have := tdiv_ten h0; rw [if_pos h0]; exact mkd_bound P _ (by omega) (by omega)
    · rw [if_neg h0]; exact ⟨h1, h2⟩
theorem mkd_val : ∀ (P : Nat) (U : Int), Rat.divInt (mkd U P).1 (10 ^ (mkd U P).2) = Rat.divInt U (10 ^ P)
  | 0, U => rfl
  | P + 1, U => by
    unfold mkd
    by_cases h0 : U.tmod 10 = 0
    · rw [if_pos h0, mkd_val P]
      refine (Rat.divInt_eq_divInt_iff (ten_ne _) (ten_ne _)).2 ?_
      have e := tdiv_ten h0
      rw [Int.pow_succ]
      generalize U.tdiv 10 = q at e
      rw [e]
      grind
    · rw [if_neg h0]
/-- Decimals that may be are one if their worths are. -/
theorem can_inj {U V : Int} {P Q : Nat} (h : Can U P) (k : Can V Q) (e : Rat.divInt U (10 ^ P) = Rat.divInt V (10 ^ Q)) : U = V ∧ P = Q := by
  obtain ⟨t, ht⟩ := den_dvd_ten (v := Rat.divInt U (10 ^ P)) rfl
  obtain ⟨s, hs⟩ := den_dvd_ten (v := Rat.divInt U (10 ^ P)) e
  rcases Nat.le_total P Q with hl | hl
  · have a1 := few (v := Rat.divInt U (10 ^ P)) e k.2 hl ht
    have a2 := few (v := Rat.divInt U (10 ^ P)) rfl h.2 (Nat.le_refl P) ht
    exact ⟨a2.2.symm.trans a1.2, a1.1⟩
  · have a1 := few (v := Rat.divInt U (10 ^ P)) rfl h.2 hl hs
    have a2 := few (v := Rat.divInt U (10 ^ P)) e k.2 (Nat.le_refl Q) hs
    exact ⟨a1.2.symm.trans a2.2, a1.1.symm⟩
end Go.Proofs.YtblafbbnplfpjaaGreatDoor
