/-
  Ratios with a power of ten below the line. Plain Lean.
-/
import Derived.Test.YtblafbbnplfpjaaGreatDoorTxP
namespace Go.Proofs.YtblafbbnplfpjaaGreatDoor
set_option linter.unusedVariables false
theorem ten_ne (P : Nat) : (10 : Int) ^ P ≠ 0 := Int.ne_of_gt (Int.pow_pos (by omega))
theorem cross {U : Int} {P : Nat} {v : Rat} (hv : v = Rat.divInt U (10 ^ P)) : v.num * 10 ^ P = U * v.den := by
  have h := Rat.num_divInt_den v
  rw [hv] at h
  have := (Rat.divInt_eq_divInt_iff (by have := (Rat.divInt U (10 ^ P)).den_nz; omega) (ten_ne P)).1 h
  rw [← hv] at this
  exact this
theorem den_dvd_ten {U : Int} {P : Nat} {v : Rat} (hv : v = Rat.divInt U (10 ^ P)) : v.den ∣ 10 ^ P := by
  have e : v.den = ((10 : Int) ^ P).natAbs / ((10 : Int) ^ P).gcd U := by rw [hv, Rat.den_divInt, if_neg (ten_ne P)]
  have e2 : ((10 : Int) ^ P).natAbs = 10 ^ P := by rw [Int.natAbs_pow]; rfl
  have hd : ((10 : Int) ^ P).gcd U ∣ ((10 : Int) ^ P).natAbs := Nat.gcd_dvd_left _ _
  rw [e2] at e hd
  rw [e]
  exact Nat.div_dvd_of_dvd hd
/-- The fewest places at which a number of 10^-P parts is whole. -/
theorem few {U : Int} {P : Nat} {v : Rat} (hv : v = Rat.divInt U (10 ^ P)) (hc : 0 < P → U.natAbs % 10 ≠ 0) {p t : Nat} (hp : p ≤ P) (h : 10 ^ p = v.den * t) : p = P ∧ v.num * t = U := by
  have hx := cross hv
  have hd : (v.den : Int) ≠ 0 := by have := v.den_nz; omega
  obtain ⟨d, rfl⟩ : ∃ d, P = p + d := ⟨P - p, by omega⟩
  have h' : ((10 : Int)) ^ p = v.den * t := by exact_mod_cast h
  have e : U = v.num * t * 10 ^ d := by
    rw [Int.pow_add, h'] at hx
    have h3 : U * v.den = (v.num * t * 10 ^ d) * v.den := by rw [← hx]; grind
    exact Int.eq_of_mul_eq_mul_right hd h3
  rcases Nat.eq_zero_or_pos d with h0 | h0
  · subst h0
    exact ⟨rfl, by rw [e]; simp⟩
  · exfalso
    obtain ⟨f, rfl⟩ : ∃ f, d = f + 1 := ⟨d - 1, by omega⟩
    have h10 : (10 : Int) ∣ U := ⟨v.num * t * 10 ^ f, by rw [e, Int.pow_succ]; grind⟩
    exact hc (by omega) (by omega)
end Go.Proofs.YtblafbbnplfpjaaGreatDoor
