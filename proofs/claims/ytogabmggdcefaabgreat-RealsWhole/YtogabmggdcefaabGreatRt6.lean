/-
  rat.Mul, Quo.
-/
import Derived.Test.YtogabmggdcefaabGreatRt4
namespace Go.Proofs.YtogabmggdcefaabGreat
open Go.RowKit Go.Shelf
set_option linter.unusedVariables false

theorem Short.over {u v : Rat} (h1 : Short u) (h2 : Short v) : Short (Rat.divInt u.num (v.den : Int)) := by
  have e : Rat.divInt u.num (v.den : Int) = mkRat u.num v.den := Rat.divInt_ofNat _ _
  rw [e]
  unfold Short
  rw [Rat.num_mkRat, Rat.den_mkRat, if_neg v.den_nz, if_neg v.den_nz]
  refine ⟨Int.lt_of_le_of_lt ?_ h1.1, Int.lt_of_le_of_lt ?_ h2.2⟩
  · have : (u.num / (v.den.gcd u.num.natAbs : Nat)).natAbs ≤ u.num.natAbs := by
      rw [Int.natAbs_ediv_of_dvd (Int.ofNat_dvd_left.2 (Nat.gcd_dvd_right _ _))]
      exact Nat.div_le_self _ _
    exact_mod_cast this
  · exact_mod_cast Nat.div_le_self _ _
theorem RA.ok {v v' : Rat} {er : Int} (h : RA v er v') (hs : Short v) : v' = v := by
  rcases h with ⟨_, _, h⟩ | ⟨h, _⟩
  · exact h
  · exact absurd hs h
end Go.Proofs.YtogabmggdcefaabGreat
