/-
  rat.Floor, Ceil, Frac.
-/
import Derived.Test.YtogabmggdcefaabGreatRt4
import Derived.Test.YtogabmggdcefaabGreatAl
import Derived.Test.YtogabmggdcefaabGreatWh4
namespace Go.Proofs.YtogabmggdcefaabGreat
open Go.RowKit Go.Shelf
set_option linter.unusedVariables false

/-- The floor of a number. -/
def qfl (v : Rat) : Int := v.num / (v.den : Int)
theorem qfl_of {v : Rat} {q r : Int} (h : v.num = q * v.den + r) (h0 : 0 ≤ r) (h1 : r < v.den) : q = qfl v ∧ r = v.num % (v.den : Int) := by
  have hd := v.den_pos
  have e : v.num / (v.den : Int) = q := by
    rw [h, Int.add_comm, Int.add_mul_ediv_right _ _ (by omega), Int.ediv_eq_zero_of_lt h0 h1]; omega
  refine ⟨e.symm, ?_⟩
  have := Int.mul_ediv_add_emod v.num (v.den : Int)
  rw [e, Int.mul_comm] at this
  omega
theorem frac_parts (v : Rat) : (v - ((qfl v : Int) : Rat)).num = v.num % (v.den : Int) ∧ (v - ((qfl v : Int) : Rat)).den = v.den := by
  have e0 : v.num = qfl v * v.den + v.num % (v.den : Int) := by
    have := Int.mul_ediv_add_emod v.num (v.den : Int); unfold qfl; rw [Int.mul_comm]; omega
  rw [Rat.sub_def']
  refine rat_of_coprime (Nat.mul_ne_zero v.den_nz (by simp)) v.den_nz ?_ ?_
  · have g1 := Nat.gcd_dvd_right (v.num % (v.den : Int)).natAbs v.den
    have g2 : ((Nat.gcd (v.num % (v.den : Int)).natAbs v.den : Nat) : Int) ∣ v.num % (v.den : Int) := Int.ofNat_dvd_left.2 (Nat.gcd_dvd_left _ _)
    have g3 : ((Nat.gcd (v.num % (v.den : Int)).natAbs v.den : Nat) : Int) ∣ v.num := by
      have h := Int.dvd_add (Int.dvd_mul_of_dvd_right (Int.ofNat_dvd.2 g1) (b := qfl v)) g2
      rw [← e0] at h
      exact h
    have g4 := Nat.dvd_gcd (Int.ofNat_dvd_left.1 g3) g1
    rw [v.reduced] at g4
    exact Nat.eq_one_of_dvd_one g4
  · simp only [Rat.num_intCast, Rat.den_intCast]
    simp
    rw [show v.num - qfl v * (v.den : Int) = v.num % (v.den : Int) by omega]
theorem frac_short {v : Rat} (h : Short v) : Short (v - ((qfl v : Int) : Rat)) := by
  obtain ⟨e1, e2⟩ := frac_parts v
  have hd := v.den_pos
  have h1 := Int.emod_nonneg v.num (show (v.den : Int) ≠ 0 by omega)
  have h2 := Int.emod_lt_of_pos v.num (show (0 : Int) < v.den by omega)
  refine ⟨?_, by rw [e2]; exact h.2⟩
  rw [e1]
  exact Int.lt_trans (by omega) h.2
/-- What Floor and Ceil answer. -/
def FlP (w : World) (x : Int) (e : Ending) (w' : World) : Prop := ∃ s' a' l' c' zs', e = .returned (.agg #[.bool s', .slice a' l' c']) ∧ It w' s' a' l' c' zs' ∧ iv s' zs' = x ∧ Below w.heap.size w w'
/-- What Frac answers. -/
def FrP (w : World) (b : Option Addr) (m d : Nat) (ds : List Int) (v : Rat) (e : Ending) (w' : World) : Prop := ∃ s' a' l' c' zs', e = .returned (.agg #[.bool s', .slice a' l' c', .slice b m d]) ∧ Rt w' s' a' l' c' zs' b m d ds v ∧ Below w.heap.size w w'
end Go.Proofs.YtogabmggdcefaabGreat
