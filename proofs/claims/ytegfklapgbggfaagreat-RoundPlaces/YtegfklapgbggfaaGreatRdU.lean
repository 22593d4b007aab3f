/-
  What Units and Places come to.
-/
import Derived.Test.YtegfklapgbggfaaGreatRdP
namespace Go.Proofs.YtegfklapgbggfaaGreat
open Go.RowKit Go.Shelf
set_option linter.unusedVariables false

/-- So many units as a number is rounded to. -/
def uv (q : Int) (v t : Rat) : Rat := ((rnd q (v.num * (t.den : Int)) ((v.den : Int) * t.num) : Int) : Rat) * t
theorem divInt_units (k : Int) (t : Rat) : Rat.divInt (k * t.num) (t.den : Int) = (k : Rat) * t := by
  rw [Rat.divInt_ofNat, Rat.mul_def]
  have e1 : ((k : Rat)).num = k := rfl
  have e2 : ((k : Rat)).den = 1 := rfl
  rw [Rat.normalize_eq_mkRat, e1, e2, Nat.one_mul]
/-- One over a power of ten. -/
def tenth (p : Nat) : Rat := mkRat 1 (10 ^ p)
theorem tenth_parts (p : Nat) : (tenth p).num = 1 ∧ (tenth p).den = 10 ^ p := by
  have h : (10 : Nat) ^ p ≠ 0 := by have := Nat.pow_pos (n := p) (show 0 < 10 by omega); omega
  unfold tenth
  exact rat_of_coprime h h (by simp) (by omega)
theorem tenth_divInt (p : Nat) : Rat.divInt 1 ((10 : Int) ^ p) = tenth p := by
  unfold tenth
  rw [show ((10 : Int) ^ p) = (((10 : Nat) ^ p : Nat) : Int) by simp, Rat.divInt_ofNat]
theorem ten_lt {p : Nat} (h : p ≤ 9) : (10 : Int) ^ p ≤ 1000000000 := by
  have h1 : (10 : Nat) ^ p ≤ 10 ^ 9 := Nat.pow_le_pow_right (by omega) h
  have h2 : (((10 : Nat) ^ p : Nat) : Int) ≤ ((10 ^ 9 : Nat) : Int) := Int.ofNat_le.2 h1
  simpa using h2
theorem tenth_short {p : Nat} (h : p ≤ 9) : Short (tenth p) := by
  obtain ⟨e1, e2⟩ := tenth_parts p
  refine ⟨by rw [e1]; exact one_lt_pw (by omega), ?_⟩
  rw [e2]
  have := ten_lt h
  have h1 : (((10 : Nat) ^ p : Nat) : Int) = (10 : Int) ^ p := by simp
  rw [h1]
  exact Int.lt_of_lt_of_le (show _ < pw 1 from Int.lt_of_le_of_lt this (by decide)) (pw_mono (by omega))
end Go.Proofs.YtegfklapgbggfaaGreat
