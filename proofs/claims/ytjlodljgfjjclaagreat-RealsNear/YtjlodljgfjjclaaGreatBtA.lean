/-
  Put together of: Rt5p, Rt5, Rt6, Rt12.
-/
import Derived.Test.YtjlodljgfjjclaaGreatRt4
import Derived.Test.YtjlodljgfjjclaaGreatAl
namespace Go.Proofs.YtjlodljgfjjclaaGreat
open Go.RowKit Go.Shelf
set_option linter.unusedVariables false

theorem two_pw (n : Nat) : 2 * pw n ≤ pw (n + 1) := by
  show _ ≤ 18446744073709551616 * pw n
  have := pw_pos n
  omega
end Go.Proofs.YtjlodljgfjjclaaGreat

namespace Go.Proofs.YtjlodljgfjjclaaGreat
open Go.RowKit Go.Shelf
set_option linter.unusedVariables false

end Go.Proofs.YtjlodljgfjjclaaGreat

namespace Go.Proofs.YtjlodljgfjjclaaGreat
open Go.RowKit Go.Shelf
set_option linter.unusedVariables false

theorem Short.over {u v : Rat} (h1 : Short u) (h2 : Short v) : Short (Rat.divInt u.num (v.den : Int)) := by
  have e : Rat.divInt u.num (v.den : Int) = mkRat u.num v.den := Rat.divInt_ofNat _ _
  rw [e]
  unfold Short
  rw [Rat.num_mkRat, Rat.den_mkRat, if_neg v.den_nz, if_neg v.den_nz]
  refine ⟨Int.lt_of_le_of_lt ?_ h1.1, Int.lt_of_le_of_lt ?_ h2.2⟩
  · have : (u.num / (v.den.gcd u.num.natAbs : Nat)).natAbs ≤ u.num.natAbs := by
      rw [Int.natAbs_ediv_of_dvd (Int.ofNat_dvd_left.2 (Nat.gcd_dvd_right _ _))]
      exact Nat.div_le_self _ _
    exact_mod_cast this
  · exact_mod_cast Nat.div_le_self _ _
theorem Short.nn {u v : Rat} (h1 : Short u) (h2 : Short v) : ((u.num * v.num).natAbs : Int) < pw 4096 := by
  rw [Int.natAbs_mul, Int.natCast_mul]; exact rt_fits (by omega) (by omega) h1.1 h2.1 (by omega)
theorem RA.ok {v v' : Rat} {er : Int} (h : RA v er v') (hs : Short v) : v' = v := by
  rcases h with ⟨_, _, h⟩ | ⟨h, _⟩
  · exact h
  · exact absurd hs h
end Go.Proofs.YtjlodljgfjjclaaGreat

namespace Go.Proofs.YtjlodljgfjjclaaGreat
open Go.RowKit Go.Shelf
set_option linter.unusedVariables false

/-- So many limbs in either part at most. -/
def Sz (n : Nat) (v : Rat) : Prop := (v.num.natAbs : Int) < pw n ∧ (v.den : Int) < pw n
theorem Sz.short {n : Nat} {v : Rat} (h : Sz n v) (hn : n ≤ 1024) : Short v := ⟨Int.lt_of_lt_of_le h.1 (pw_mono hn), Int.lt_of_lt_of_le h.2 (pw_mono hn)⟩
theorem Sz.mk {i : Nat} {N : Int} {D : Nat} (hD : D ≠ 0) (h1 : (N.natAbs : Int) < pw i) (h2 : (D : Int) < pw i) : Sz i (mkRat N D) := by
  unfold Sz
  rw [Rat.num_mkRat, Rat.den_mkRat, if_neg hD, if_neg hD]
  refine ⟨Int.lt_of_le_of_lt ?_ h1, Int.lt_of_le_of_lt ?_ h2⟩
  · have : (N / (D.gcd N.natAbs : Nat)).natAbs ≤ N.natAbs := by
      rw [Int.natAbs_ediv_of_dvd (Int.ofNat_dvd_left.2 (Nat.gcd_dvd_right _ _))]
      exact Nat.div_le_self _ _
    exact_mod_cast this
  · exact_mod_cast Nat.div_le_self _ _
theorem sz_sum {P Q x y : Int} (w : 2 * P ≤ Q) (h1 : (x.natAbs : Int) < P) (h2 : (y.natAbs : Int) < P) : ((x + y).natAbs : Int) < Q := by omega
theorem Sz.add {i j : Nat} {u v : Rat} (h1 : Sz i u) (h2 : Sz j v) : Sz (i + j + 1) (u + v) := by
  rw [Rat.add_def']
  have a1 : ((u.num * (v.den : Int)).natAbs : Int) < pw (i + j) := by rw [Int.natAbs_mul, Int.natCast_mul]; exact rt_fits (by omega) (by omega) h1.1 (show ((Int.natAbs (v.den : Int) : Nat) : Int) < _ from h2.2) (Nat.le_refl _)
  have a2 : ((v.num * (u.den : Int)).natAbs : Int) < pw (i + j) := by rw [Int.natAbs_mul, Int.natCast_mul]; exact rt_fits (by omega) (by omega) h2.1 (show ((Int.natAbs (u.den : Int) : Nat) : Int) < _ from h1.2) (by omega)
  refine Sz.mk (Nat.mul_ne_zero u.den_nz v.den_nz) (sz_sum (two_pw _) a1 a2) ?_
  rw [Int.natCast_mul]
  exact rt_fits (by omega) (by omega) h1.2 h2.2 (by omega)
theorem Sz.mul {i j : Nat} {u v : Rat} (h1 : Sz i u) (h2 : Sz j v) : Sz (i + j) (u * v) := by
  rw [Rat.mul_def']
  refine Sz.mk (Nat.mul_ne_zero u.den_nz v.den_nz) ?_ ?_
  · rw [Int.natAbs_mul, Int.natCast_mul]; exact rt_fits (by omega) (by omega) h1.1 h2.1 (Nat.le_refl _)
  · rw [Int.natCast_mul]; exact rt_fits (by omega) (by omega) h1.2 h2.2 (by omega)
theorem Sz.neg {i : Nat} {u : Rat} (h : Sz i u) : Sz i (-u) := by unfold Sz at *; rw [Rat.neg_num, Rat.neg_den, Int.natAbs_neg]; exact h
theorem Sz.sub {i j : Nat} {u v : Rat} (h1 : Sz i u) (h2 : Sz j v) : Sz (i + j + 1) (u - v) := by rw [Rat.sub_eq_add_neg]; exact h1.add h2.neg
theorem Sz.mono {i j : Nat} {u : Rat} (h : Sz i u) (hij : i ≤ j) : Sz j u := ⟨Int.lt_of_lt_of_le h.1 (pw_mono hij), Int.lt_of_lt_of_le h.2 (pw_mono hij)⟩
theorem sz_of {w : World} {s : Bool} {a b : Option Addr} {l m : Nat} {zs ys : List Int} (h1 : Sl w a l zs) (h2 : Sl w b m ys) {n : Nat} (hl : l ≤ n) (hm : m ≤ n) {v : Rat} (hv : iv s zs = v.num) (hd : num ys = v.den) : Sz n v := by
  have z0 := num_nonneg h1.2.1
  have u1 := usedN_le zs
  have u2 := usedN_le ys
  have e1 : (v.num.natAbs : Int) = num zs := by rw [← hv]; cases s <;> simp only [iv_t, iv_f] <;> omega
  refine ⟨by rw [e1]; exact lt_of_used h1.2.1 (by rw [h1.1] at u1; omega), by rw [← hd]; exact lt_of_used h2.2.1 (by rw [h2.1] at u2; omega)⟩

end Go.Proofs.YtjlodljgfjjclaaGreat
