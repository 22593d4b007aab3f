/-
  What RoundNear looks at, in numbers.
-/
import Derived.Test.YtjaigmgbeganhaaGreatRdP
namespace Go.Proofs.YtjaigmgbeganhaaGreat
open Go.RowKit Go.Shelf
set_option linter.unusedVariables false

theorem cmp_m1 {x y : Int} (h : x < y) : cmp3 x y = -1 := cmp3_lt h
theorem cmp_p1 {x y : Int} (h : y < x) : cmp3 x y = 1 := cmp3_gt h
theorem cmp_z {x y : Int} (h : x = y) : cmp3 x y = 0 := by subst h; unfold cmp3; simp
/-- Which of the cases there is. -/
def NearC (v vd : Rat) (q i : Int) : Prop :=
  qcmp vd 1 = -1 ∧ qcmp vd (-1) = 1 ∧
  ((Int.sign (v - ((qfl v : Int) : Rat)).num = 0 ∧ Int.sign vd.num = 0) ∨
   (Int.sign (v - ((qfl v : Int) : Rat)).num = 1 ∧
    ((q = 1 ∧ Int.sign vd.num = 1) ∨ (q = 2 ∧ Int.sign vd.num = -1) ∨
     (q = 3 ∧ qcmp vd (mkRat 1 2) = -1 ∧ (qcmp vd (-(mkRat 1 2)) = 1 ∨ qcmp vd (-(mkRat 1 2)) = 0)) ∨
     (q = 4 ∧ qcmp vd (-(mkRat 1 2)) = 1 ∧ (qcmp vd (mkRat 1 2) = -1 ∨ qcmp vd (mkRat 1 2) = 0)) ∨
     (q = 5 ∧ ((qcmp vd (mkRat 1 2) = -1 ∧ qcmp vd (-(mkRat 1 2)) = 1) ∨ (i % 2 = 0 ∧ ((qcmp vd (mkRat 1 2) = -1 ∧ qcmp vd (-(mkRat 1 2)) = 0) ∨ (qcmp vd (mkRat 1 2) = 0 ∧ qcmp vd (-(mkRat 1 2)) = 1))))))))
theorem near_c (v : Rat) (q : Int) (q1 : 1 ≤ q) (q2 : q ≤ 5) : NearC v (v - ((rnd q v.num v.den : Int) : Rat)) q (rnd q v.num v.den) := by
  have hd := v.den_pos
  obtain ⟨e1, e2⟩ := sub_int_parts v (rnd q v.num v.den)
  obtain ⟨f1, f2⟩ := frac_parts v
  obtain ⟨r1, r2, r3, r4⟩ := rnd_rest (m := q) (n := v.num) (d := v.den) (by omega)
  have hn1 : (mkRat 1 2).num = 1 := rfl
  have hn2 : (mkRat 1 2).den = 2 := rfl
  have h0 := Int.emod_nonneg v.num (show (v.den : Int) ≠ 0 by omega)
  have h1 := Int.emod_lt_of_pos v.num (show (0 : Int) < v.den by omega)
  unfold NearC qcmp
  rw [e1, e2, f1, Rat.neg_num, Rat.neg_den, Rat.neg_num, Rat.neg_den, hn1, hn2]
  have o1 : (1 : Rat).num = 1 := rfl
  have o2 : (1 : Rat).den = 1 := rfl
  rw [o1, o2]
  generalize hD : (v.den : Int) = D at *
  generalize hnn : v.num = n at *
  refine ⟨cmp_m1 (by omega), cmp_p1 (by omega), ?_⟩
  by_cases hz : n % D = 0
  · left
    rw [hz, r3 hz]; exact ⟨rfl, rfl⟩
  · right
    refine ⟨Int.sign_eq_one_of_pos (by omega), ?_⟩
    have U : rnd q n D = if rise q (cmp3 (2 * (n % D)) D) (decide (n / D % 2 ≠ 0)) then n / D + 1 else n / D := by unfold rnd; rw [if_neg hz]
    have hm := Int.mul_ediv_add_emod n D
    obtain rfl | rfl | rfl | rfl | rfl : q = 1 ∨ q = 2 ∨ q = 3 ∨ q = 4 ∨ q = 5 := by omega
    · left
      have : rnd 1 n D = n / D := by rw [U]; rfl
      refine ⟨rfl, Int.sign_eq_one_of_pos ?_⟩
      rcases r4 with ⟨h, -⟩ | ⟨-, h, -⟩ <;> omega
    · right; left
      have : rnd 2 n D = n / D + 1 := by rw [U]; rfl
      refine ⟨rfl, Int.sign_eq_neg_one_of_neg ?_⟩
      rcases r4 with ⟨-, h⟩ | ⟨h, -⟩ <;> omega
    · right; right; left
      refine ⟨rfl, ?_⟩
      rcases Int.lt_trichotomy (2 * (n % D)) D with h | h | h
      · rw [cmp_m1 h] at U
        have U2 : rnd 3 n D = n / D := U
        rcases r4 with ⟨h5, -⟩ | ⟨-, h5, -⟩
        · exact ⟨cmp_m1 (by omega), Or.inl (cmp_p1 (by omega))⟩
        · omega
      · rw [cmp_z h] at U
        have U2 : rnd 3 n D = n / D + 1 := U
        rcases r4 with ⟨-, h5⟩ | ⟨h5, -, -⟩
        · omega
        · exact ⟨cmp_m1 (by omega), Or.inr (cmp_z (by omega))⟩
      · rw [cmp_p1 h] at U
        have U2 : rnd 3 n D = n / D + 1 := U
        rcases r4 with ⟨-, h5⟩ | ⟨h5, -, -⟩
        · omega
        · exact ⟨cmp_m1 (by omega), Or.inl (cmp_p1 (by omega))⟩
    · right; right; right; left
      refine ⟨rfl, ?_⟩
      rcases Int.lt_trichotomy (2 * (n % D)) D with h | h | h
      · rw [cmp_m1 h] at U
        have U2 : rnd 4 n D = n / D := U
        rcases r4 with ⟨h5, -⟩ | ⟨-, h5, -⟩
        · exact ⟨cmp_p1 (by omega), Or.inl (cmp_m1 (by omega))⟩
        · omega
      · rw [cmp_z h] at U
        have U2 : rnd 4 n D = n / D := U
        rcases r4 with ⟨h5, -⟩ | ⟨-, h5, -⟩
        · exact ⟨cmp_p1 (by omega), Or.inr (cmp_z (by omega))⟩
        · omega
      · rw [cmp_p1 h] at U
        have U2 : rnd 4 n D = n / D + 1 := U
        rcases r4 with ⟨-, h5⟩ | ⟨h5, -, -⟩
        · omega
        · exact ⟨cmp_p1 (by omega), Or.inl (cmp_m1 (by omega))⟩
    · right; right; right; right
      refine ⟨rfl, ?_⟩
      rcases Int.lt_trichotomy (2 * (n % D)) D with h | h | h
      · rw [cmp_m1 h] at U
        have U2 : rnd 5 n D = n / D := U
        rcases r4 with ⟨h5, -⟩ | ⟨-, h5, -⟩
        · exact Or.inl ⟨cmp_m1 (by omega), cmp_p1 (by omega)⟩
        · omega
      · rw [cmp_z h] at U
        right
        by_cases ho : n / D % 2 = 0
        · have U2 : rnd 5 n D = n / D := by rw [U, ho]; rfl
          rcases r4 with ⟨h5, -⟩ | ⟨-, h5, -⟩
          · exact ⟨by omega, Or.inr ⟨cmp_z (by omega), cmp_p1 (by omega)⟩⟩
          · omega
        · have ho1 : n / D % 2 = 1 := by omega
          have U2 : rnd 5 n D = n / D + 1 := by rw [U, ho1]; rfl
          rcases r4 with ⟨-, h5⟩ | ⟨h5, -, -⟩
          · omega
          · exact ⟨by omega, Or.inl ⟨cmp_m1 (by omega), cmp_z (by omega)⟩⟩
      · rw [cmp_p1 h] at U
        have U2 : rnd 5 n D = n / D + 1 := U
        rcases r4 with ⟨-, h5⟩ | ⟨h5, -, -⟩
        · omega
        · exact Or.inl ⟨cmp_m1 (by omega), cmp_p1 (by omega)⟩
end Go.Proofs.YtjaigmgbeganhaaGreat
