/-
  Sizes of sums and products; sums, differences, products, quotients that are not too long.
-/
import Derived.Test.YtmhfoeooccppfaaGreatRt5
import Derived.Test.YtmhfoeooccppfaaGreatRt6
namespace Go.Proofs.YtmhfoeooccppfaaGreat
open Go.RowKit Go.Shelf
set_option linter.unusedVariables false

/-- So many limbs in either part at most. -/
def Sz (n : Nat) (v : Rat) : Prop := (v.num.natAbs : Int) < pw n ∧ (v.den : Int) < pw n
theorem Sz.short {n : Nat} {v : Rat} (h : Sz n v) (hn : n ≤ 1024) : Short v := ⟨Int.lt_of_lt_of_le h.1 (pw_mono hn), Int.lt_of_lt_of_le h.2 (pw_mono hn)⟩
theorem Sz.mk {i : Nat} {N : Int} {D : Nat} (hD : D ≠ 0) (h1 : (N.natAbs : Int) < pw i) (h2 : (D : Int) < pw i) : Sz i (mkRat N D) := by
  unfold Sz
  rw [Rat.num_mkRat, Rat.den_mkRat, if_neg hD, if_neg hD]
  refine ⟨Int.lt_of_le_of_lt ?_ h1, Int.lt_of_le_of_lt ?_ h2⟩
  · have : (N / (D.gcd N.natAbs : Nat)).natAbs ≤ N.natAbs := by
      rw [Int.natAbs_ediv_of_dvd (Int.ofNat_dvd_left.2 (Nat.gcd_dvd_right _ _))]
      exact Nat.div_le_self _ _
    exact_mod_cast this
  · exact_mod_cast Nat.div_le_self _ _
theorem sz_sum {P Q x y : Int} (w : 2 * P ≤ Q) (h1 : (x.natAbs : Int) < P) (h2 : (y.natAbs : Int) < P) : ((x + y).natAbs : Int) < Q := by omega
theorem Sz.add {i j : Nat} {u v : Rat} (h1 : Sz i u) (h2 : Sz j v) : Sz (i + j + 1) (u + v) := by
  rw [Rat.add_def']
  have a1 : ((u.num * (v.den : Int)).natAbs : Int) < pw (i + j) := by rw [Int.natAbs_mul, Int.natCast_mul]; exact rt_fits (by omega) (by omega) h1.1 (show ((Int.natAbs (v.den : Int) : Nat) : Int) < _ from h2.2) (Nat.le_refl _)
  have a2 : ((v.num * (u.den : Int)).natAbs : Int) < pw (i + j) := by rw [Int.natAbs_mul, Int.natCast_mul]; exact rt_fits (by omega) (by omega) h2.1 (show ((Int.natAbs (u.den : Int) : Nat) : Int) < _ from h1.2) (by omega)
  refine Sz.mk (Nat.mul_ne_zero u.den_nz v.den_nz) (sz_sum (two_pw _) a1 a2) ?_
  rw [Int.natCast_mul]
  exact rt_fits (by omega) (by omega) h1.2 h2.2 (by omega)
theorem Sz.mul {i j : Nat} {u v : Rat} (h1 : Sz i u) (h2 : Sz j v) : Sz (i + j) (u * v) := by
  rw [Rat.mul_def']
  refine Sz.mk (Nat.mul_ne_zero u.den_nz v.den_nz) ?_ ?_
  · rw [Int.natAbs_mul, Int.natCast_mul]; exact rt_fits (by omega) (by omega) h1.1 h2.1 (Nat.le_refl _)
  · rw [Int.natCast_mul]; exact rt_fits (by omega) (by omega) h1.2 h2.2 (by omega)
theorem Sz.neg {i : Nat} {u : Rat} (h : Sz i u) : Sz i (-u) := by unfold Sz at *; rw [Rat.neg_num, Rat.neg_den, Int.natAbs_neg]; exact h
theorem Sz.sub {i j : Nat} {u v : Rat} (h1 : Sz i u) (h2 : Sz j v) : Sz (i + j + 1) (u - v) := by rw [Rat.sub_eq_add_neg]; exact h1.add h2.neg
theorem Sz.mono {i j : Nat} {u : Rat} (h : Sz i u) (hij : i ≤ j) : Sz j u := ⟨Int.lt_of_lt_of_le h.1 (pw_mono hij), Int.lt_of_lt_of_le h.2 (pw_mono hij)⟩
theorem sz_of {w : World} {s : Bool} {a b : Option Addr} {l m : Nat} {zs ys : List Int} (h1 : Sl w a l zs) (h2 : Sl w b m ys) {n : Nat} (hl : l ≤ n) (hm : m ≤ n) {v : Rat} (hv : iv s zs = v.num) (hd : num ys = v.den) : Sz n v := by
  have z0 := num_nonneg h1.2.1
  have u1 := usedN_le zs
  have u2 := usedN_le ys
  have e1 : (v.num.natAbs : Int) = num zs := by rw [← hv]; cases s <;> simp only [iv_t, iv_f] <;> omega
  refine ⟨by rw [e1]; exact lt_of_used h1.2.1 (by rw [h1.1] at u1; omega), by rw [← hd]; exact lt_of_used h2.2.1 (by rw [h2.1] at u2; omega)⟩

theorem qmul_to (s1 : Bool) (a1 : Option Addr) (l1 c1 : Nat) (z1 : List Int) (b1 : Option Addr) (m1 d1 : Nat) (y1 : List Int) (v1 : Rat) (s2 : Bool) (a2 : Option Addr) (l2 c2 : Nat) (z2 : List Int) (b2 : Option Addr) (m2 d2 : Nat) (y2 : List Int) (v2 : Rat) (v : Rat) (w : World) (h1 : Rt w s1 a1 l1 c1 z1 b1 m1 d1 y1 v1) (h2 : Rt w s2 a2 l2 c2 z2 b2 m2 d2 y2 v2) (he : v1 * v2 = v) (hs : Short v) :
    Calls Tryz.prog 23 #[.agg #[.bool s1, .slice a1 l1 c1, .slice b1 m1 d1], .agg #[.bool s2, .slice a2 l2 c2, .slice b2 m2 d2]] w fun e w' => ∃ s' a' l' c' zs' b' m' d' ds', e = .returned (.tuple #[.agg #[.bool s', .slice a' l' c', .slice b' m' d'], .int .i64 0]) ∧ Rt w' s' a' l' c' zs' b' m' d' ds' v ∧ Below w.heap.size w w' := by
  refine (qmul_any s1 a1 l1 c1 z1 b1 m1 d1 y1 v1 s2 a2 l2 c2 z2 b2 m2 d2 y2 v2 w h1 h2).mono ?_
  rintro e w' ⟨er, s', a', l', c', zs', b', m', d', ds', v', rfl, h', hra, hb⟩
  rw [he] at hra
  rcases hra.out with ⟨-, rfl, rfl⟩ | ⟨hn, -⟩
  · exact ⟨s', a', l', c', zs', b', m', d', ds', rfl, h', hb⟩
  · exact absurd hs hn

theorem qquo_to (s1 : Bool) (a1 : Option Addr) (l1 c1 : Nat) (z1 : List Int) (b1 : Option Addr) (m1 d1 : Nat) (y1 : List Int) (v1 : Rat) (s2 : Bool) (a2 : Option Addr) (l2 c2 : Nat) (z2 : List Int) (b2 : Option Addr) (m2 d2 : Nat) (y2 : List Int) (v2 : Rat) (v : Rat) (w : World) (h1 : Rt w s1 a1 l1 c1 z1 b1 m1 d1 y1 v1) (h2 : Rt w s2 a2 l2 c2 z2 b2 m2 d2 y2 v2) (he : v1 / v2 = v) (hs : Short v) (h0 : v2 ≠ 0) :
    Calls Tryz.prog 68 #[.agg #[.bool s1, .slice a1 l1 c1, .slice b1 m1 d1], .agg #[.bool s2, .slice a2 l2 c2, .slice b2 m2 d2]] w fun e w' => ∃ s' a' l' c' zs' b' m' d' ds', e = .returned (.tuple #[.agg #[.bool s', .slice a' l' c', .slice b' m' d'], .int .i64 0]) ∧ Rt w' s' a' l' c' zs' b' m' d' ds' v ∧ Below w.heap.size w w' := by
  refine (qquo_ok s1 a1 l1 c1 z1 b1 m1 d1 y1 v1 s2 a2 l2 c2 z2 b2 m2 d2 y2 v2 w h1 h2 h0).mono ?_
  rintro e w' ⟨er, s', a', l', c', zs', b', m', d', ds', v', rfl, h', hra, hb⟩
  rw [he] at hra
  rcases hra.out with ⟨-, rfl, rfl⟩ | ⟨hn, -⟩
  · exact ⟨s', a', l', c', zs', b', m', d', ds', rfl, h', hb⟩
  · exact absurd hs hn

theorem qsmall_to (x y : Int) (h1 : -9223372036854775808 ≤ x) (h2 : x ≤ 9223372036854775807) (h3 : -9223372036854775808 ≤ y) (h4 : y ≤ 9223372036854775807) (h0 : y ≠ 0) (v : Rat) (w : World) (he : Rat.divInt x y = v) (hs : Short v) :
    Calls Tryz.prog 20 #[.int .i64 x, .int .i64 y] w fun e w' => ∃ s' a' l' c' zs' b' m' d' ds', e = .returned (.tuple #[.agg #[.bool s', .slice a' l' c', .slice b' m' d'], .int .i64 0]) ∧ Rt w' s' a' l' c' zs' b' m' d' ds' v ∧ Below w.heap.size w w' := by
  refine (qsmall_ok x y h1 h2 h3 h4 h0 w).mono ?_
  rintro e w' ⟨er, s', a', l', c', zs', b', m', d', ds', v', rfl, h', hra, hb⟩
  rw [he] at hra
  rcases hra.out with ⟨-, rfl, rfl⟩ | ⟨hn, -⟩
  · exact ⟨s', a', l', c', zs', b', m', d', ds', rfl, h', hb⟩
  · exact absurd hs hn
end Go.Proofs.YtmhfoeooccppfaaGreat
