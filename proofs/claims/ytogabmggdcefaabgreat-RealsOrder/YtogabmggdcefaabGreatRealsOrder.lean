/-
  RealsOrder holds: floats are held against a float's number as Go holds them against the float; floors, ceilings and nearest floats keep the numbers' order, and a number's other sign has the float of the other sign; at any two words and any two ratios; no condition.
-/
import Derived.Test.YtogabmggdcefaabGreatTk
import Derived.Test.YtogabmggdcefaabGreatAl
import Derived.Test.YtogabmggdcefaabGreatRf4
import Derived.Test.YtogabmggdcefaabGreatRt9a
import Derived.Deep.Cut
import Derived.Test.YtogabmggdcefaabGreatRows
import Derived.ProofKit
import Derived.OpenShut
import Derived.ShutString
import Derived.ChangeOld
import Derived.SizedLaws
import Derived.Lib.SmallJoins
namespace Go.Proofs.YtogabmggdcefaabGreat
open Go.RowKit Go.Shelf
set_option linter.unusedVariables false

/-- Not above, as numbers. -/
def Le8 (u v : Rat) : Prop := u.num * v.den ≤ v.num * u.den
theorem Le8.neg {u v : Rat} (h : Le8 u v) : Le8 (-v) (-u) := by
  unfold Le8 at *
  rw [Rat.neg_num, Rat.neg_num, Rat.neg_den, Rat.neg_den, Int.neg_mul, Int.neg_mul]
  omega
theorem Le8.cross {u v : Rat} (h : Le8 u v) {c : Int} (hc : c * u.den ≤ u.num * K8) : c * v.den ≤ v.num * K8 := by
  unfold Le8 at h
  have hk : (0 : Int) < (K8 : Int) := by have := K8_pos; omega
  have hu : (0 : Int) < (u.den : Int) := by have := u.den_pos; omega
  have hv : (0 : Int) < (v.den : Int) := by have := v.den_pos; omega
  generalize (u.den : Int) = a at *
  generalize (v.den : Int) = b at *
  generalize (K8 : Int) = k at *
  generalize u.num = m at *
  generalize v.num = n at *
  have h1 := Int.mul_le_mul_of_nonneg_right hc (Int.le_of_lt hv)
  have h2 := Int.mul_le_mul_of_nonneg_right h (Int.le_of_lt hk)
  have e1 : c * a * b = c * b * a := by rw [Int.mul_assoc, Int.mul_comm a b, ← Int.mul_assoc]
  have e2 : m * k * b = m * b * k := by rw [Int.mul_assoc, Int.mul_comm k b, ← Int.mul_assoc]
  have e3 : n * a * k = n * k * a := by rw [Int.mul_assoc, Int.mul_comm a k, ← Int.mul_assoc]
  exact Int.le_of_mul_le_mul_right (by omega : c * b * a ≤ n * k * a) hu
theorem fi_top_lt {r : Nat} (h : r ≤ 9218868437227405312) : fi r ≤ fi 9218868437227405312 := fi_le_iff.2 h
/-- The floor is the greatest float that is not above. -/
theorem fl_max {v : Rat} {k p : Nat} (h : Pv v k p) {y : Nat} (hy : y < 18446744073709551616) (hr : y % 9223372036854775808 < 9218868437227405312) (hle : fz y * v.den ≤ v.num * K8) : fz y ≤ fz (flw v k p) := by
  have hk := h.lt
  have hd := v.den_pos
  have f1 := (@flw_fz v k p hk).1
  have hn := num_abs v
  rw [f1]
  have l1 := Pl.le hd h
  have l2 := fun hm => Pl.lt hd h hm
  rw [fz_sg hy] at hle ⊢
  have hr2 := @fi_le_iff (y % 9223372036854775808) 9218868437227405311
  cases hs : sn v
  · rw [hs] at hn
    simp only [Bool.false_eq_true, if_false] at hn ⊢
    cases hg : fsg y
    · rw [hg] at hle
      simp only [Bool.false_eq_true, if_false] at hle ⊢
      rw [hn, ← Int.natCast_mul, ← Int.natCast_mul] at hle
      have hle2 : fi (y % 9223372036854775808) * v.den ≤ v.num.natAbs * K8 := by exact_mod_cast hle
      by_cases hm : k = 9218868437227405311
      · rw [hm]; omega
      · have h3 := l2 hm
        have h4 : fi (y % 9223372036854775808) < fi (k + 1) := Nat.lt_of_mul_lt_mul_right (a := v.den) (by omega)
        have h5 := fi_lt_iff.1 h4
        have h6 := @fi_le_iff (y % 9223372036854775808) k
        omega
    · simp only [if_true]; omega
  · rw [hs] at hn
    simp only [if_true] at hn ⊢
    rw [hn, Int.neg_mul] at hle
    cases hg : fsg y
    · rw [hg] at hle
      simp only [Bool.false_eq_true, if_false] at hle ⊢
      -- a number below 0 has no float of 0 or above below it
      have h3 : v.num < 0 := of_decide_eq_true hs
      have h4 := Nat.mul_pos (show 0 < v.num.natAbs by omega) K8_pos
      have h5 : (0 : Int) ≤ (fi (y % 9223372036854775808) : Int) * v.den := Int.mul_nonneg (by omega) (by omega)
      rw [← Int.natCast_mul] at hle
      omega
    · rw [hg] at hle
      simp only [if_true] at hle ⊢
      rw [Int.neg_mul, ← Int.natCast_mul, ← Int.natCast_mul] at hle
      have hle2 : v.num.natAbs * K8 ≤ fi (y % 9223372036854775808) * v.den := by omega
      unfold upk
      by_cases hp : p = 0
      · rw [if_pos hp]
        subst hp
        have h6 : fi k * v.den ≤ fi (y % 9223372036854775808) * v.den := by
          obtain ⟨-, h⟩ := h; omega
        have := Nat.le_of_mul_le_mul_right h6 hd
        omega
      · rw [if_neg hp]
        have h6 : fi k * v.den < fi (y % 9223372036854775808) * v.den := by
          have g := Nat.mul_lt_mul_of_pos_right (fi_succ k) hd
          obtain ⟨-, h⟩ := h
          rw [Nat.add_mul] at h
          omega
        have h7 := fi_lt_iff.1 (Nat.lt_of_mul_lt_mul_right h6)
        have h8 := @fi_le_iff (k + 1) (y % 9223372036854775808)
        omega
/-- A floor that is no infinity is not above. -/
theorem fl_le {v : Rat} {k p : Nat} (h : Pv v k p) (hi : flw v k p % 9223372036854775808 ≠ 9218868437227405312) : fz (flw v k p) * v.den ≤ v.num * K8 := by
  have h1 := cw_lo h
  rw [cw_word hi] at h1
  unfold cmp3 at h1
  by_cases g : v.num * (K8 : Int) < fz (flw v k p) * (v.den : Int)
  · rw [if_neg (by omega), if_pos g] at h1
    split at h1 <;> omega
  · omega
theorem fz_bound {y : Nat} (h : Fr y) : -(fi 9218868437227405312 : Int) ≤ fz y ∧ fz y ≤ fi 9218868437227405312 := by
  have := @fi_le_iff (y % 9223372036854775808) 9218868437227405312
  have h1 := this.2 h.1
  rw [fz_sg h.2]
  cases fsg y
  · simp only [Bool.false_eq_true, if_false]; omega
  · simp only [if_true]; omega
theorem fl_mono {u v : Rat} {j q k p : Nat} (hu : Pv u j q) (hv : Pv v k p) (h : Le8 u v) : fz (flw u j q) ≤ fz (flw v k p) := by
  have f1 := @flw_fz u j q hu.lt
  have f2 := @flw_fz v k p hv.lt
  by_cases hi : flw u j q % 9223372036854775808 = 9218868437227405312
  · -- the floor is an infinity, below all
    have b := (fz_bound f2.2).1
    have e : fz (flw u j q) = -(fi 9218868437227405312 : Int) := by
      have hj := hu.lt
      unfold flw at hi ⊢
      cases hs : sn u
      · rw [hs] at hi; simp only [Bool.false_eq_true, if_false] at hi; omega
      · rw [hs] at hi
        simp only [if_true] at hi ⊢
        have hl := @upk_le j q hj
        have e1 : upk j q = 9218868437227405312 := by unfold wd at hi; rw [if_pos rfl] at hi; omega
        rw [e1]
        have := @wd_fz true 9218868437227405312 (by decide)
        simpa using this
    omega
  · have hr : flw u j q % 9223372036854775808 < 9218868437227405312 := by have := f1.2.1; omega
    exact fl_max hv f1.2.2 hr (h.cross (fl_le hu hi))
theorem pv_neg {v : Rat} {k p : Nat} (h : Pv v k p) : Pv (-v) k p := by
  unfold Pv at *; rw [Rat.neg_num, Rat.neg_den, Int.natAbs_neg]; exact h
theorem pv_zero {v : Rat} {k p : Nat} (h : Pv v k p) (h0 : v.num = 0) : k = 0 ∧ p = 0 := h.uno (place_zero h0)
theorem sn_neg {v : Rat} (h0 : v.num ≠ 0) : sn (-v) = !sn v := by
  unfold sn
  rw [Rat.neg_num, ← decide_not, decide_eq_decide]; omega
theorem ce_fl {v : Rat} {k p : Nat} (h : Pv v k p) : fz (cew v k p) = -fz (flw (-v) k p) := by
  have f1 := (@cew_fz v k p h.lt).1
  have f2 := (@flw_fz (-v) k p h.lt).1
  rw [f1, f2]
  by_cases h0 : v.num = 0
  · obtain ⟨rfl, rfl⟩ := pv_zero h h0
    have s1 : sn v = false := by unfold sn; rw [h0]; rfl
    have s2 : sn (-v) = false := by unfold sn; rw [Rat.neg_num, h0]; rfl
    rw [s1, s2]; rfl
  · rw [sn_neg h0]
    cases sn v <;> simp
theorem ce_mono {u v : Rat} {j q k p : Nat} (hu : Pv u j q) (hv : Pv v k p) (h : Le8 u v) : fz (cew u j q) ≤ fz (cew v k p) := by
  rw [ce_fl hu, ce_fl hv]
  have := fl_mono (pv_neg hv) (pv_neg hu) h.neg
  omega
/-- The nearest: what is said of the side below, and of the side above. -/
def Lo8 (N D j : Int) : Prop := (fp (j - 1) + fp j) * D < 2 * N ∨ (fp (j - 1) + fp j) * D = 2 * N ∧ j % 2 = 0
def Up8 (N D j : Int) : Prop := 2 * N < (fp j + fp (j + 1)) * D ∨ 2 * N = (fp j + fp (j + 1)) * D ∧ j % 2 = 0
theorem near_mono {N D j N' D' j' : Int} (h : Lo8 N D j) (h' : Up8 N' D' j') (hD : 0 < D) (hD' : 0 < D') (hl : N * D' ≤ N' * D) : j ≤ j' := by
  by_cases g : j ≤ j'
  · exact g
  have g : j' + 1 ≤ j := by omega
  have a1 := @fp_le_iff (j' + 1) j
  have a2 := @fp_le_iff j' (j - 1)
  have a3 := @fp_lt_iff (j' + 1) j
  have a4 := @fp_lt_iff j' (j - 1)
  unfold Lo8 at h
  unfold Up8 at h'
  have le : fp j' + fp (j' + 1) ≤ fp (j - 1) + fp j := by omega
  have b1 : (fp (j - 1) + fp j) * D ≤ 2 * N := by omega
  have b2 : 2 * N' ≤ (fp j' + fp (j' + 1)) * D' := by omega
  have c1 := Int.mul_le_mul_of_nonneg_right b1 (Int.le_of_lt hD')
  have c2 := Int.mul_le_mul_of_nonneg_right b2 (Int.le_of_lt hD)
  have c3 := Int.mul_le_mul_of_nonneg_right (Int.mul_le_mul_of_nonneg_right le (Int.le_of_lt hD)) (Int.le_of_lt hD')
  have r1 : (fp j' + fp (j' + 1)) * D' * D = (fp j' + fp (j' + 1)) * D * D' := by rw [Int.mul_assoc, Int.mul_comm D' D, ← Int.mul_assoc]
  have r2 : 2 * N * D' = 2 * (N * D') := Int.mul_assoc _ _ _
  have r3 : 2 * N' * D = 2 * (N' * D) := Int.mul_assoc _ _ _
  have q1 : (fp j' + fp (j' + 1)) * D * D' = (fp (j - 1) + fp j) * D * D' := by omega
  have q2 : (fp (j - 1) + fp j) * D * D' = 2 * N * D' := by omega
  have q3 : 2 * N' * D = (fp j' + fp (j' + 1)) * D' * D := by omega
  have d0 : D ≠ 0 := by omega
  have d1 : D' ≠ 0 := by omega
  have s1 : fp j' + fp (j' + 1) = fp (j - 1) + fp j := Int.eq_of_mul_eq_mul_right d0 (Int.eq_of_mul_eq_mul_right d1 q1)
  have s2 : (fp (j - 1) + fp j) * D = 2 * N := Int.eq_of_mul_eq_mul_right d1 q2
  have s3 : 2 * N' = (fp j' + fp (j' + 1)) * D' := Int.eq_of_mul_eq_mul_right d0 q3
  omega
theorem Lo8.neg {N D j : Int} (h : Lo8 N D j) : Up8 (-N) D (-j) := by
  unfold Lo8 at h
  unfold Up8
  have e2 : (fp (-j) + fp (-j + 1)) * D = -((fp (j - 1) + fp j) * D) := by
    rw [show -j + 1 = -(j - 1) by omega, fp_neg, fp_neg, ← Int.neg_mul]; congr 1; omega
  rw [e2]
  generalize (fp (j - 1) + fp j) * D = b at *
  omega
theorem Up8.neg {N D j : Int} (h : Up8 N D j) : Lo8 (-N) D (-j) := by
  unfold Up8 at h
  unfold Lo8
  have e1 : (fp (-j - 1) + fp (-j)) * D = -((fp j + fp (j + 1)) * D) := by
    rw [show -j - 1 = -(j + 1) by omega, fp_neg, fp_neg, ← Int.neg_mul]; congr 1; omega
  rw [e1]
  generalize (fp j + fp (j + 1)) * D = a at *
  omega
theorem near_pos {X D k p : Nat} (hD : 0 < D) (h : Pl X D k p) : Lo8 (X : Int) (D : Int) ((nrk k p : Nat) : Int) ∧ (nrk k p ≠ 9218868437227405312 → Up8 (X : Int) (D : Int) ((nrk k p : Nat) : Int)) := by
  have g0 := Nat.mul_lt_mul_of_pos_right (fi_succ k) hD
  have g1 := Nat.mul_lt_mul_of_pos_right (fi_succ (k + 1)) hD
  have hle := Pl.le hD h
  have hlt := fun hm => Pl.lt hD h hm
  have hcase : (nrk k p = k ∧ (p = 0 ∨ p = 1 ∨ (p = 2 ∧ k % 2 = 0))) ∨ (nrk k p = k + 1 ∧ (p = 3 ∨ (p = 2 ∧ k % 2 = 1))) := by
    have p3 : p ≤ 3 := by obtain ⟨-, h⟩ := h; omega
    unfold nrk
    by_cases c : p = 3 ∨ p = 2 ∧ k % 2 = 1
    · rw [if_pos c]; omega
    · rw [if_neg c]; omega
  have hkk := h.1
  obtain ⟨-, h⟩ := h
  rw [Nat.add_mul] at h
  unfold Lo8 Up8
  rcases hcase with ⟨e, hc⟩ | ⟨e, hc⟩
  · rw [e]
    have e2 : ((k : Int) + 1) = ((k + 1 : Nat) : Int) := by omega
    rw [e2, fp_nat, fp_nat, Int.add_mul, Int.add_mul, ← Int.natCast_mul, ← Int.natCast_mul]
    constructor
    · by_cases k0 : k = 0
      · subst k0
        have e3 : fp (((0 : Nat) : Int) - 1) = -1 := by decide
        rw [e3]
        have : fi 0 * D = 0 := by rw [fi_zero, Nat.zero_mul]
        left; omega
      · obtain ⟨j, rfl⟩ : ∃ j, k = j + 1 := ⟨k - 1, by omega⟩
        have e3 : (((j + 1 : Nat) : Int) - 1) = (j : Int) := by omega
        have g2 := Nat.mul_lt_mul_of_pos_right (fi_succ j) hD
        rw [e3, fp_nat, ← Int.natCast_mul]
        left; omega
    · intro _
      omega
  · rw [e]
    have e2 : (((k + 1 : Nat) : Int) + 1) = ((k + 1 + 1 : Nat) : Int) := by omega
    have e3 : (((k + 1 : Nat) : Int) - 1) = (k : Int) := by omega
    rw [e2, e3, fp_nat, fp_nat, fp_nat, Int.add_mul, Int.add_mul, ← Int.natCast_mul, ← Int.natCast_mul, ← Int.natCast_mul]
    constructor
    · omega
    · intro hm
      have h3 := hlt (by omega)
      omega
/-- The place of the nearest. -/
def npl (v : Rat) (k p : Nat) : Int := if sn v then -((nrk k p : Nat) : Int) else ((nrk k p : Nat) : Int)
theorem npl_fz {v : Rat} {k p : Nat} (hk : k < 9218868437227405312) : fz (nrw v k p) = fp (npl v k p) := by
  rw [(nrw_fz hk).1]
  unfold npl
  cases sn v
  · simp only [Bool.false_eq_true, if_false]; rw [fp_nat]
  · simp only [if_true]; rw [fp_neg, fp_nat]
theorem npl_lo {v : Rat} {k p : Nat} (h : Pv v k p) (hi : npl v k p ≠ -9218868437227405312) : Lo8 (v.num * K8) v.den (npl v k p) := by
  obtain ⟨a, b⟩ := near_pos v.den_pos h
  have hn := num_abs v
  unfold npl at *
  cases hs : sn v
  · rw [hs] at hn hi
    simp only [Bool.false_eq_true, if_false] at *
    rw [hn, ← Int.natCast_mul]; exact a
  · rw [hs] at hn hi
    simp only [if_true] at *
    rw [hn, Int.neg_mul, ← Int.natCast_mul]
    exact (b (by omega)).neg
theorem npl_up {v : Rat} {k p : Nat} (h : Pv v k p) (hi : npl v k p ≠ 9218868437227405312) : Up8 (v.num * K8) v.den (npl v k p) := by
  obtain ⟨a, b⟩ := near_pos v.den_pos h
  have hn := num_abs v
  unfold npl at *
  cases hs : sn v
  · rw [hs] at hn hi
    simp only [Bool.false_eq_true, if_false] at *
    rw [hn, ← Int.natCast_mul]; exact b (by omega)
  · rw [hs] at hn hi
    simp only [if_true] at *
    rw [hn, Int.neg_mul, ← Int.natCast_mul]
    exact a.neg
theorem npl_bd {v : Rat} {k p : Nat} (h : Pv v k p) : -9218868437227405312 ≤ npl v k p ∧ npl v k p ≤ 9218868437227405312 := by
  have := @nrk_le k p h.lt
  unfold npl
  cases sn v
  · simp only [Bool.false_eq_true, if_false]; omega
  · simp only [if_true]; omega
theorem nr_mono {u v : Rat} {j q k p : Nat} (hu : Pv u j q) (hv : Pv v k p) (h : Le8 u v) : fz (nrw u j q) ≤ fz (nrw v k p) := by
  rw [npl_fz hu.lt, npl_fz hv.lt, fp_le_iff]
  have b1 := npl_bd hu
  have b2 := npl_bd hv
  by_cases h1 : npl u j q = -9218868437227405312
  · omega
  by_cases h2 : npl v k p = 9218868437227405312
  · omega
  refine near_mono (npl_lo hu h1) (npl_up hv h2) (by have := u.den_pos; omega) (by have := v.den_pos; omega) ?_
  unfold Le8 at h
  have hk : (0 : Int) ≤ (K8 : Int) := by omega
  have := Int.mul_le_mul_of_nonneg_right h hk
  have e1 : u.num * (K8 : Int) * (v.den : Int) = u.num * (v.den : Int) * (K8 : Int) := by rw [Int.mul_assoc, Int.mul_comm (K8 : Int), ← Int.mul_assoc]
  have e2 : v.num * (K8 : Int) * (u.den : Int) = v.num * (u.den : Int) * (K8 : Int) := by rw [Int.mul_assoc, Int.mul_comm (K8 : Int), ← Int.mul_assoc]
  omega
theorem fle {x y : Nat} (hx : Fr x) (hy : Fr y) (h : fz x ≤ fz y) : (FloatKind.f64.format.order x y = some .lt ∨ FloatKind.f64.format.order x y = some .eq) := by
  rcases Int.lt_or_eq_of_le h with g | g
  · left
    have := float_lt hx hy
    rw [decide_eq_true g] at this
    exact eq_of_beq this
  · right
    exact eq_of_beq (feq hx hy g)
theorem fle_b {x y : Nat} (hx : Fr x) (hy : Fr y) (h : fz x ≤ fz y) : (FloatKind.f64.format.order x y == some .lt || FloatKind.f64.format.order x y == some .eq) = true := by
  rcases fle hx hy h with g | g <;> rw [g] <;> rfl
/-- A number and its other sign. -/
theorem nr_neg {v : Rat} {k p : Nat} (h : Pv v k p) : (v.num ≠ 0 → nrw (-v) k p = Op.negFloat .f64 (nrw v k p)) ∧ (v.num = 0 → nrw (-v) k p = 0 ∧ Op.negFloat .f64 (nrw v k p) = 9223372036854775808) := by
  have hk := h.lt
  have hl := @nrk_le k p hk
  have hneg : ∀ b, b < 18446744073709551616 → Op.negFloat .f64 b = wd (!fsg b) (b % 9223372036854775808) := fun b hb => by
    show b ^^^ 2 ^ 63 = _
    exact b_flip b hb
  constructor
  · intro h0
    have hs := nr_sign (v := v) (p := p) hk
    have hb : nrw v k p < 18446744073709551616 := (nrw_fz hk).2.2
    rw [hneg _ hb, hs]
    unfold nrw
    rw [sn_neg h0]
    congr 1
    unfold wd
    cases sn v
    · simp only [Bool.false_eq_true, if_false]; omega
    · simp only [if_true]; omega
  · intro h0
    obtain ⟨rfl, rfl⟩ := pv_zero h h0
    have s1 : sn v = false := by unfold sn; rw [h0]; rfl
    have s2 : sn (-v) = false := by unfold sn; rw [Rat.neg_num, h0]; rfl
    have e1 : nrw v 0 0 = 0 := by unfold nrw; rw [s1]; rfl
    refine ⟨by unfold nrw; rw [s2]; rfl, ?_⟩
    rw [e1, hneg 0 (by decide)]; rfl
/-- A float held against another one's number. -/
theorem cw_fv {x y : Nat} (hx : Fr x) (hy : y < 18446744073709551616) (hr : y % 9223372036854775808 < 9218868437227405312) : decide (cw x (fv y) < 0) = decide (fz x < fz y) ∧ decide (0 < cw x (fv y)) = decide (fz y < fz x) := by
  have hyb : fi (y % 9223372036854775808) < fi 9218868437227405312 := fi_lt hr
  have hyz : -(fi 9218868437227405312 : Int) < fz y ∧ fz y < fi 9218868437227405312 := by
    rw [fz_sg hy]; cases fsg y
    · simp only [Bool.false_eq_true, if_false]; omega
    · simp only [if_true]; omega
  by_cases hi : x % 9223372036854775808 = 9218868437227405312
  · have hz : fz x = if fsg x then -(fi 9218868437227405312 : Int) else (fi 9218868437227405312 : Int) := by rw [fz_sg hx.2, hi]
    unfold cw
    rw [if_pos hi, hz]
    cases fsg x
    · simp only [Bool.false_eq_true, if_false, decide_eq_decide]; omega
    · simp only [if_true, decide_eq_decide]; omega
  · rw [cw_word hi]
    have e := fv_num y
    rw [e]
    have hd : (0 : Int) < ((fv y).den : Int) := by have := (fv y).den_pos; omega
    generalize ((fv y).den : Int) = d at *
    have m1 : fz x * d < fz y * d ↔ fz x < fz y := ⟨fun h => Int.lt_of_mul_lt_mul_right h (Int.le_of_lt hd), fun h => Int.mul_lt_mul_of_pos_right h hd⟩
    have m2 : fz y * d < fz x * d ↔ fz y < fz x := ⟨fun h => Int.lt_of_mul_lt_mul_right h (Int.le_of_lt hd), fun h => Int.mul_lt_mul_of_pos_right h hd⟩
    unfold cmp3
    rw [decide_eq_decide, decide_eq_decide]
    constructor
    · split
      · rename_i g; have := m1.1 g; constructor <;> intro _ <;> omega
      · rename_i g
        have : ¬ fz x < fz y := fun h => g (m1.2 h)
        split <;> constructor <;> intro _ <;> omega
    · split
      · rename_i g; have := m1.1 g; constructor <;> intro _ <;> omega
      · split
        · rename_i g; have := m2.1 g; constructor <;> intro _ <;> omega
        · rename_i g
          have : ¬ fz y < fz x := fun h => g (m2.2 h)
          constructor <;> intro _ <;> omega
end Go.Proofs.YtogabmggdcefaabGreat
namespace Go.Proofs.YtogabmggdcefaabGreat
open Go.RowKit Go.Shelf
set_option linter.unusedVariables false

theorem rr_of2 {w : World} {s : Bool} {a : Option Addr} {l c : Nat} {zs : List Int} {b : Option Addr} {m d : Nat} {ys : List Int} {v : Rat} (h : Ri w a l c zs b m d ys) (hN : Norm s zs ys) (hv : iv s zs = v.num) (hd : num ys = v.den) (hs : s = true → num zs ≠ 0) : Rr w s a l c zs b m d ys v :=
  ⟨h.1, h.2.1, hN.1.trans h.1.1, hN.2.1.trans h.2.1.1, h.2.2, hv, hd, hs⟩
theorem finite8_any (x : Nat) (h : x < 18446744073709551616) (w : World) : Calls Tryz.prog 10 #[.float .f64 x] w fun e w' => e = .returned (.bool (decide (x % 9223372036854775808 < 9218868437227405312))) ∧ Below w.heap.size w w' := by
  by_cases g : x % 9223372036854775808 < 9218868437227405312
  · rw [decide_eq_true g]; exact finite8_yes x h g w
  · rw [decide_eq_false g]; exact finite8_no x h (by omega) w
theorem rnanq (x : Nat) (h : x < 18446744073709551616) (b : Bool) (hb : decide (9218868437227405312 < x % 9223372036854775808) = b) (w : World) : Calls Tryz.prog 9 #[.float .f64 x] w fun e w' => e = .returned (.bool b) ∧ w' = w := by
  rw [← hb]; exact rnan8 x h w
theorem qcmp_le {u v : Rat} (h : ¬ 0 < qcmp u v) : Le8 u v := by
  unfold qcmp cmp3 at h
  unfold Le8
  by_cases g : v.num * (u.den : Int) < u.num * (v.den : Int)
  · rw [if_neg (by omega), if_pos g] at h; omega
  · omega
theorem qcmp_ge {u v : Rat} (h : 0 < qcmp u v) : Le8 v u := by
  unfold qcmp cmp3 at h
  unfold Le8
  by_cases g : v.num * (u.den : Int) < u.num * (v.den : Int)
  · omega
  · by_cases g2 : u.num * (v.den : Int) < v.num * (u.den : Int)
    · rw [if_pos g2] at h; omega
    · rw [if_neg g2, if_neg g] at h; omega

set_option maxHeartbeats 16000000 in
set_option maxRecDepth 8000 in
theorem order8_walk (t0 t1 : Int) (s1 : Bool) (a1 : Option Addr) (l1 c1 : Nat) (z1 : List Int) (b1 : Option Addr) (m1 d1 : Nat) (y1 : List Int) (s2 : Bool) (a2 : Option Addr) (l2 c2 : Nat) (z2 : List Int) (b2 : Option Addr) (m2 d2 : Nat) (y2 : List Int) (w : World) (ht0 : Word t0) (ht1 : Word t1)
    (h1 : Ri w a1 l1 c1 z1 b1 m1 d1 y1) (n1 : a1 = none → l1 = 0 ∧ c1 = 0) (o1 : b1 = none → m1 = 0 ∧ d1 = 0) (h2 : Ri w a2 l2 c2 z2 b2 m2 d2 y2) (n2 : a2 = none → l2 = 0 ∧ c2 = 0) (o2 : b2 = none → m2 = 0 ∧ d2 = 0) :
    Calls Tryz.prog 4 #[.agg #[.int .u64 t0, .int .u64 t1], .agg #[.bool s1, .slice a1 l1 c1, .slice b1 m1 d1], .agg #[.bool s2, .slice a2 l2 c2, .slice b2 m2 d2]] w fun e w' => e = .returned (.bool true) ∧ Below w.heap.size w w' := by
  clear n1 o1 n2 o2; obtain ⟨x, rfl⟩ := Int.eq_ofNat_of_zero_le ht0.1; obtain ⟨y, rfl⟩ := Int.eq_ofNat_of_zero_le ht1.1; (have HX : Hid (x < 18446744073709551616) := by have := ht0.2; show _ < _; omega); (have HY : Hid (y < 18446744073709551616) := by have := ht1.2; show _ < _; omega); clear ht0 ht1; have fx := ffrom x; have fy := ffrom y; have B0 : Below w.heap.size w w := Below.refl _ _
  go_enter Tryz.func4, Tryz.ntmps4
  (go_wp2_with fail); refine ent3 w _ _ _ _ _ _ (Q := fun W => Calls Tryz.prog _ _ W _) ?_; intro x1 hb hs_x1 V3 V4 V5; replace h1 := Ri.after hb h1; replace h2 := Ri.after hb h2; replace B0 := step B0 hb; clear hb hs_x1; refine (awake8 x1).mono ?_; rintro e x2 ⟨rfl, hb⟩; replace V3 := Va.after hb V3; replace V4 := Va.after hb V4; replace V5 := Va.after hb V5; replace h1 := Ri.after hb h1; replace h2 := Ri.after hb h2; replace B0 := step B0 hb; clear hb; (go_wp2_with fail); refine wp_region_noPanic ?_; replace V3 : Va x2.drew _ _ _ := V3; replace V4 : Va x2.drew _ _ _ := V4; replace V5 : Va x2.drew _ _ _ := V5; replace h1 := h1.drw; replace h2 := h2.drw; replace B0 := Below.drew B0; refine wp_region_held_drew (S := (fun W => W.cell? ⟨w.heap.size, 0, none⟩ = some (.int .u64 (x : Int)) ∧ W.cell? ⟨w.heap.size, 1, none⟩ = some (.int .u64 (y : Int)))) (by kernel_rfl) ⟨V3.c0, V3.c1⟩ (fun hHeld => ?_); (obtain ⟨x3, hxd⟩ : ∃ xd, xd = x2.drew := ⟨_, rfl⟩)
  rw [← hxd] at V3 V4 V5 h1 h2 B0 hHeld ⊢; clear hxd; refine tk 0 rfl hHeld ?_; simp only [gA, gB, Act.put, gD, gE, gF]; refine tk 1 rfl hHeld ?_; simp only [gA, gB, gC, Act.put, gD, gE, gF]; refine tk 3 rfl hHeld ?_; simp only [gA, gB, gC, Act.put, gD, gE, gF]; refine tk 4 rfl hHeld ?_; simp only [gA, gB, gC, Act.put, gD, gE, gF]; refine wpAnyH_ready (rs := [2]) (by kernel_rfl) (by simp) ?_; refine AllReadyH.cons rfl (fun K hK => ?_) AllReadyH.nil; simp only [gA, gB, gC]; (go_simp); refine hK.out _ _ ⟨V3.c0, V3.c1⟩ (fun hHeld => ?_); clear hK K; refine wpAnyH_ready (rs := [5]) (by kernel_rfl) (by simp) ?_; refine AllReadyH.cons rfl (fun K hK => ?_) AllReadyH.nil; simp only [gA, gB, gC]; (go_simp); refine hK.out _ _ ⟨V3.c0, V3.c1⟩ (fun hHeld => ?_); clear hK K; refine tk 6 rfl hHeld ?_; simp only [gA, gB, gC, Act.put, gD, gE, gF]; refine tk 7 rfl hHeld ?_; simp only [gA, gB, gC, Act.put, gD, gE, gF]; refine wpAnyH_done (by kernel_rfl) ?_ _; refine NoPanic.normal ?_
  clear hHeld; (go_wp2_with fail); clear V3; clear fx fy; refine (finite8_any y HY.out x3).mono ?_; rintro e x4 ⟨rfl, hb⟩; replace V4 := Va.after hb V4; replace V5 := Va.after hb V5; replace h1 := Ri.after hb h1; replace h2 := Ri.after hb h2; replace B0 := step B0 hb; clear hb; (obtain ⟨fb, hfb⟩ : ∃ fb, decide (y % 9223372036854775808 < 9218868437227405312) = fb := ⟨_, rfl⟩); have HFB : Hid (decide (y % 9223372036854775808 < 9218868437227405312) = fb) := hfb; rw [hfb]; clear hfb
  go_upto_if 24 with fail
  go_cut [] (fun  wx => Hid (Va wx (w.heap.size + 1) 42 #[.bool s1, .slice a1 l1 c1, .slice b1 m1 d1]) ∧ Hid (Va wx (w.heap.size + 1 + 1) 42 #[.bool s2, .slice a2 l2 c2, .slice b2 m2 d2]) ∧ Hid (Ri wx a1 l1 c1 z1 b1 m1 d1 y1) ∧ Hid (Ri wx a2 l2 c2 z2 b2 m2 d2 y2) ∧ Hid (Below w.heap.size w wx))
  case first =>
    cases fb
    ·
      (go_wp2_with fail)
      go_meet
      exact ⟨V4, V5, h1, h2, B0⟩
    ·
      (have HR : Hid (y % 9223372036854775808 < 9218868437227405312) := by show _ < _; exact of_decide_eq_true HFB.out); (go_wp2_with fail); refine (of8 y HY.out HR.out x4).mono ?_; rintro e x5 ⟨sr, ar, lr, cr, zr, br, mr, dr, yr, rfl, hr, hb⟩; replace V4 := Va.after hb V4; replace V5 := Va.after hb V5; replace h1 := Ri.after hb h1; replace h2 := Ri.after hb h2; replace B0 := step B0 hb; clear hb; (go_wp2_with fail); refine ent1 x5 _ _ (Q := fun W => Calls Tryz.prog _ _ W _) ?_; intro x6 hb hs_x6 V9; replace V4 := Va.after hb V4; replace V5 := Va.after hb V5; replace h1 := Ri.after hb h1; replace h2 := Ri.after hb h2; replace hr := Rt.after hb hr; replace B0 := step B0 hb; clear hb hs_x6
      by_cases hn : 9218868437227405312 < x % 9223372036854775808
      ·
        have HN : Hid (9218868437227405312 < x % 9223372036854775808) := hn; clear hn; refine (compare8_nan x HX.out HN.out sr ar lr cr br mr dr x6).mono ?_; rintro e x7 ⟨rfl, hb⟩; replace V4 := Va.after hb V4; replace V5 := Va.after hb V5; replace V9 := Va.after hb V9; replace h1 := Ri.after hb h1; replace h2 := Ri.after hb h2; replace hr := Rt.after hb hr; replace B0 := step B0 hb; clear hb; (go_wp2_with fail); refine (rnanq x HX.out true (decide_eq_true HN.out) _).mono ?_; rintro e x8 ⟨rfl, hw⟩; rw [hw]; clear hw; clear V9 hr; (go_wp2_with fail)
        go_meet
        exact ⟨V4, V5, h1, h2, B0⟩
      ·
        have HF : Hid (Fr x) := ⟨by omega, HX.out⟩; have HFY : Hid (Fr y) := ⟨Nat.le_of_lt HR.out, HY.out⟩; have HN : Hid (decide (9218868437227405312 < x % 9223372036854775808) = false) := decide_eq_false hn; clear hn; obtain ⟨c1', c2'⟩ := cw_fv HF.out HY.out HR.out; have q1 : (FloatKind.f64.format.order x y == some .lt) = decide (fz x < fz y) := float_lt HF.out HFY.out; have q2 : (FloatKind.f64.format.order x y == some .gt) = decide (fz y < fz x) := float_gt HF.out HFY.out; (obtain ⟨e1, he1⟩ : ∃ e1, decide (fz x < fz y) = e1 := ⟨_, rfl⟩); (obtain ⟨e2, he2⟩ : ∃ e2, decide (fz y < fz x) = e2 := ⟨_, rfl⟩); (obtain ⟨cc, hcc⟩ : ∃ cc, cw x (fv y) = cc := ⟨_, rfl⟩); rw [he1] at q1 c1'; rw [he2] at q2 c2'; rw [hcc] at c1' c2'; have HCC : Hid (cw x (fv y) = cc) := hcc; clear he1 he2 hcc; refine (compare8 x HF.out sr ar lr cr zr br mr dr yr (fv y) x6 hr).mono ?_; rintro e x7 ⟨rfl, hb⟩; replace V4 := Va.after hb V4; replace V5 := Va.after hb V5
        replace V9 := Va.after hb V9; replace h1 := Ri.after hb h1; replace h2 := Ri.after hb h2; replace hr := Rt.after hb hr; replace B0 := step B0 hb; clear hb; rw [HCC.out]; (go_wp2_with fail); refine (rnanq x HX.out false HN.out _).mono ?_; rintro e x8 ⟨rfl, hw⟩; rw [hw]; clear hw
        cases e1 <;> cases e2
        ·
          clear V9 hr; (go_wp2_with fail)
          go_meet
          exact ⟨V4, V5, h1, h2, B0⟩
        ·
          clear V9 hr; (go_wp2_with fail)
          go_meet
          exact ⟨V4, V5, h1, h2, B0⟩
        ·
          clear V9 hr; (go_wp2_with fail)
          go_meet
          exact ⟨V4, V5, h1, h2, B0⟩
        ·
          clear V9 hr; (go_wp2_with fail)
          go_meet
          exact ⟨V4, V5, h1, h2, B0⟩
  case rest =>
    clear V4 V5 h1 h2 B0; obtain ⟨V4', V5', h1', h2', B0'⟩ := hcut; have V4 := V4'.out; have V5 := V5'.out; have h1 := h1'.out; have h2 := h2'.out; have B0 := B0'.out; clear V4' V5' h1' h2' B0'; have c_V4 := V4.d0; have f0_V4 := V4.frozen 0; have d_V4 := V4.d1; have f1_V4 := V4.frozen 1; have e_V4 := V4.d2; have f2_V4 := V4.frozen 2; have l_V4 := V4.lt; have m_V4 := Nat.le_of_lt l_V4; (go_wp2_with fail); refine (check5 s1 a1 l1 c1 z1 b1 m1 d1 y1 wc h1).mono ?_; rintro e x5 ⟨er, rfl, HC, hb⟩; replace V4 := Va.after hb V4; replace V5 := Va.after hb V5; replace h1 := Ri.after hb h1; replace h2 := Ri.after hb h2; replace B0 := step B0 hb; clear hb
    rcases HC.out with ⟨rfl, -⟩ | ⟨rfl, -⟩ | ⟨rfl, hl, hm, hN⟩
    ·
      clear HC; clear c_V4 f0_V4 d_V4 f1_V4 e_V4 f2_V4 l_V4 m_V4; have c_V4 := V4.d0; have f0_V4 := V4.frozen 0; have d_V4 := V4.d1; have f1_V4 := V4.frozen 1; have e_V4 := V4.d2; have f2_V4 := V4.frozen 2; have l_V4 := V4.lt; have m_V4 := Nat.le_of_lt l_V4; have c_V5 := V5.d0; have f0_V5 := V5.frozen 0; have d_V5 := V5.d1; have f1_V5 := V5.frozen 1; have e_V5 := V5.d2; have f2_V5 := V5.frozen 2; have l_V5 := V5.lt; have m_V5 := Nat.le_of_lt l_V5; (go_wp2_with fail)
      go_ret
      exact ⟨rfl, B0⟩
    ·
      clear HC; clear c_V4 f0_V4 d_V4 f1_V4 e_V4 f2_V4 l_V4 m_V4; have c_V4 := V4.d0; have f0_V4 := V4.frozen 0; have d_V4 := V4.d1; have f1_V4 := V4.frozen 1; have e_V4 := V4.d2; have f2_V4 := V4.frozen 2; have l_V4 := V4.lt; have m_V4 := Nat.le_of_lt l_V4; have c_V5 := V5.d0; have f0_V5 := V5.frozen 0; have d_V5 := V5.d1; have f1_V5 := V5.frozen 1; have e_V5 := V5.d2; have f2_V5 := V5.frozen 2; have l_V5 := V5.lt; have m_V5 := Nat.le_of_lt l_V5; (go_wp2_with fail)
      go_ret
      exact ⟨rfl, B0⟩
    ·
      clear HC; have HL1 : Hid (Norm s1 z1 y1 ∧ l1 ≤ 1024 ∧ m1 ≤ 1024) := ⟨hN, hl, hm⟩; obtain ⟨v1, hv, hd, hs⟩ := norm_rat h1.1.2.1 h1.2.1.2.1 hN; have hq1 := rr_of2 h1 hN hv hd hs; clear hv hd hs hl hm hN; clear c_V4 f0_V4 d_V4 f1_V4 e_V4 f2_V4 l_V4 m_V4; have c_V4 := V4.d0; have f0_V4 := V4.frozen 0; have d_V4 := V4.d1; have f1_V4 := V4.frozen 1; have e_V4 := V4.d2; have f2_V4 := V4.frozen 2; have l_V4 := V4.lt; have m_V4 := Nat.le_of_lt l_V4; have c_V5 := V5.d0; have f0_V5 := V5.frozen 0; have d_V5 := V5.d1; have f1_V5 := V5.frozen 1; have e_V5 := V5.d2; have f2_V5 := V5.frozen 2; have l_V5 := V5.lt; have m_V5 := Nat.le_of_lt l_V5; (go_wp2_with fail); refine (check5 s2 a2 l2 c2 z2 b2 m2 d2 y2 x5 h2).mono ?_; rintro e x6 ⟨er, rfl, HC, hb⟩; replace V4 := Va.after hb V4; replace V5 := Va.after hb V5; replace h1 := Ri.after hb h1; replace h2 := Ri.after hb h2; replace hq1 := Rr.after hb hq1; replace B0 := step B0 hb; clear hb
      rcases HC.out with ⟨rfl, -⟩ | ⟨rfl, -⟩ | ⟨rfl, hl, hm, hN⟩
      ·
        clear HC; clear c_V4 f0_V4 d_V4 f1_V4 e_V4 f2_V4 l_V4 m_V4 c_V5 f0_V5 d_V5 f1_V5 e_V5 f2_V5 l_V5 m_V5; have c_V4 := V4.d0; have f0_V4 := V4.frozen 0; have d_V4 := V4.d1; have f1_V4 := V4.frozen 1; have e_V4 := V4.d2; have f2_V4 := V4.frozen 2; have l_V4 := V4.lt; have m_V4 := Nat.le_of_lt l_V4; have c_V5 := V5.d0; have f0_V5 := V5.frozen 0; have d_V5 := V5.d1; have f1_V5 := V5.frozen 1; have e_V5 := V5.d2; have f2_V5 := V5.frozen 2; have l_V5 := V5.lt; have m_V5 := Nat.le_of_lt l_V5; (go_wp2_with fail)
        go_ret
        exact ⟨rfl, B0⟩
      ·
        clear HC; clear c_V4 f0_V4 d_V4 f1_V4 e_V4 f2_V4 l_V4 m_V4 c_V5 f0_V5 d_V5 f1_V5 e_V5 f2_V5 l_V5 m_V5; have c_V4 := V4.d0; have f0_V4 := V4.frozen 0; have d_V4 := V4.d1; have f1_V4 := V4.frozen 1; have e_V4 := V4.d2; have f2_V4 := V4.frozen 2; have l_V4 := V4.lt; have m_V4 := Nat.le_of_lt l_V4; have c_V5 := V5.d0; have f0_V5 := V5.frozen 0; have d_V5 := V5.d1; have f1_V5 := V5.frozen 1; have e_V5 := V5.d2; have f2_V5 := V5.frozen 2; have l_V5 := V5.lt; have m_V5 := Nat.le_of_lt l_V5; (go_wp2_with fail)
        go_ret
        exact ⟨rfl, B0⟩
      ·
        clear HC; have HL2 : Hid (Norm s2 z2 y2 ∧ l2 ≤ 1024 ∧ m2 ≤ 1024) := ⟨hN, hl, hm⟩; obtain ⟨v2, hv, hd, hs⟩ := norm_rat h2.1.2.1 h2.2.1.2.1 hN; have hq2 := rr_of2 h2 hN hv hd hs; clear hv hd hs hl hm hN; (go_wp2_with fail); clear h1 h2; clear c_V4 f0_V4 d_V4 f1_V4 e_V4 f2_V4 l_V4 m_V4 c_V5 f0_V5 d_V5 f1_V5 e_V5 f2_V5 l_V5 m_V5; (have LS : Hid (∀ W, Below x6.heap.size x6 W → (fun W => W.cell? ⟨w.heap.size + 1, 0, none⟩ = some (.bool s1) ∧ W.cell? ⟨w.heap.size + 1, 1, none⟩ = some (.slice a1 l1 c1) ∧ W.cell? ⟨w.heap.size + 1, 2, none⟩ = some (.slice b1 m1 d1) ∧ W.cell? ⟨w.heap.size + 1 + 1, 0, none⟩ = some (.bool s2) ∧ W.cell? ⟨w.heap.size + 1 + 1, 1, none⟩ = some (.slice a2 l2 c2) ∧ W.cell? ⟨w.heap.size + 1 + 1, 2, none⟩ = some (.slice b2 m2 d2)) W) := fun W hb => ⟨(Va.after hb V4).d0, (Va.after hb V4).d1, (Va.after hb V4).d2, (Va.after hb V5).d0, (Va.after hb V5).d1, (Va.after hb V5).d2⟩); have lb_V4 := V4.lt
        have L_V4 : Hid (Va x6 (w.heap.size + 1) 42 #[.bool s1, .slice a1 l1 c1, .slice b1 m1 d1]) := V4; have lb_V5 := V5.lt; have L_V5 : Hid (Va x6 (w.heap.size + 1 + 1) 42 #[.bool s2, .slice a2 l2 c2, .slice b2 m2 d2]) := V5; have L_hq1 : Hid (Rr x6 s1 a1 l1 c1 z1 b1 m1 d1 y1 v1) := hq1; have L_hq2 : Hid (Rr x6 s2 a2 l2 c2 z2 b2 m2 d2 y2 v2) := hq2; have L_B : Hid (Below w.heap.size w x6) := B0; clear V4 V5 hq1 hq2 B0; have BX := Below.refl x6.heap.size x6
        go_cut [13, 14] (fun s13 s14 wx => ∃ (q13 : Nat) (q14 : Nat) (sp : Bool) (ap : Option Addr) (lp cp : Nat) (zp : List Int) (bp : Option Addr) (mp dp : Nat) (yp : List Int) (sq : Bool) (aq : Option Addr) (lq cq : Nat) (zq : List Int) (bq : Option Addr) (mq dq : Nat) (yq : List Int), s13 = .pointer (some ⟨q13, 0, none⟩) ∧ s14 = .pointer (some ⟨q14, 0, none⟩) ∧ Hid (Va wx q13 36 #[.bool sp, .slice ap lp cp, .slice bp mp dp]) ∧ Hid (Va wx q14 36 #[.bool sq, .slice aq lq cq, .slice bq mq dq]) ∧ Hid (Rt wx sp ap lp cp zp bp mp dp yp v1) ∧ Hid (Rt wx sq aq lq cq zq bq mq dq yq v2) ∧ Hid (Below x6.heap.size x6 wx) ∧ Hid (w.heap.size ≤ q13 ∧ w.heap.size ≤ q14 ∧ q13 ≠ q14))
        case first =>
          refine wp_region_noPanic ?_; replace BX := Below.drew BX; refine wp_region_held_drew (S := (fun W => W.cell? ⟨w.heap.size + 1, 0, none⟩ = some (.bool s1) ∧ W.cell? ⟨w.heap.size + 1, 1, none⟩ = some (.slice a1 l1 c1) ∧ W.cell? ⟨w.heap.size + 1, 2, none⟩ = some (.slice b1 m1 d1) ∧ W.cell? ⟨w.heap.size + 1 + 1, 0, none⟩ = some (.bool s2) ∧ W.cell? ⟨w.heap.size + 1 + 1, 1, none⟩ = some (.slice a2 l2 c2) ∧ W.cell? ⟨w.heap.size + 1 + 1, 2, none⟩ = some (.slice b2 m2 d2))) (by kernel_rfl) (LS.out _ BX) (fun hHeld => ?_); (obtain ⟨x7, hxd⟩ : ∃ xd, xd = x6.drew := ⟨_, rfl⟩); rw [← hxd] at BX hHeld ⊢; clear hxd; refine tk 0 rfl hHeld ?_; simp only [gA, gB, Act.put, gD, gE, gF]; refine tk 2 rfl hHeld ?_; simp only [gA, gB, gC, Act.put, gD, gE, gF]; refine wpAnyH_ready (rs := [1, 4, 5]) (by kernel_rfl) (by simp) ?_; refine AllReadyH.cons rfl (fun K hK => ?_) (AllReadyH.cons rfl (fun K hK => ?_) (AllReadyH.cons rfl (fun K hK => ?_) AllReadyH.nil))
          ·
            simp only [gA, gB, gC]; (go_simp); refine (oflaw8 s1 a1 l1 c1 z1 b1 m1 d1 y1 v1 _ (Rr.after BX L_hq1.out) HL1).mono ?_; rintro e x8 ⟨sp, ap, lp, cp, zp, bp, mp, dp, yp, rfl, hp, hb⟩; replace BX := step BX hb; clear hb; (try go_wp2_with fail); refine hK.out _ _ (LS.out _ BX) (fun hHeld => ?_); clear hK K; refine wpAnyH_ready (rs := [3, 4, 5]) (by kernel_rfl) (by simp) ?_; refine AllReadyH.cons rfl (fun K hK => ?_) (AllReadyH.cons rfl (fun K hK => ?_) (AllReadyH.cons rfl (fun K hK => ?_) AllReadyH.nil))
            ·
              simp only [gA, gB, gC]; (go_simp); refine (oflaw8 s2 a2 l2 c2 z2 b2 m2 d2 y2 v2 _ (Rr.after BX L_hq2.out) HL2).mono ?_; rintro e x9 ⟨sq, aq, lq, cq, zq, bq, mq, dq, yq, rfl, hq, hb⟩; replace hp := Rt.after hb hp; replace BX := step BX hb; clear hb; (try go_wp2_with fail); refine hK.out _ _ (LS.out _ BX) (fun hHeld => ?_); clear hK K; refine wpAnyH_ready (rs := [4, 5]) (by kernel_rfl) (by simp) ?_; refine AllReadyH.cons rfl (fun K hK => ?_) (AllReadyH.cons rfl (fun K hK => ?_) AllReadyH.nil)
              ·
                simp only [gA, gB, gC]; (go_simp); have sz_Vp := BX.size; refine ent1 _ _ _ (Q := fun V => K _ V) ?_; intro x10 hb hs_ Vp; replace hp := Rt.after hb hp; replace hq := Rt.after hb hq; replace BX := step BX hb; clear hb hs_; refine hK.out _ _ (LS.out _ BX) (fun hHeld => ?_); clear hK K; refine wpAnyH_ready (rs := [5]) (by kernel_rfl) (by simp) ?_; refine AllReadyH.cons rfl (fun K hK => ?_) AllReadyH.nil
                ·
                  simp only [gA, gB, gC]; (go_simp); have lt_Vq_Vp := Vp.lt; have sz_Vq := BX.size; refine ent1 _ _ _ (Q := fun V => K _ V) ?_; intro x11 hb hs_ Vq; replace Vp := Va.after hb Vp; replace hp := Rt.after hb hp; replace hq := Rt.after hb hq; replace BX := step BX hb; clear hb hs_; refine hK.out _ _ (LS.out _ BX) (fun hHeld => ?_); clear hK K; have c_Vp := Vp.d0; have f0_Vp := Vp.frozen 0; have d_Vp := Vp.d1; have f1_Vp := Vp.frozen 1; have e_Vp := Vp.d2; have f2_Vp := Vp.frozen 2; have l_Vp := Vp.lt; have m_Vp := Nat.le_of_lt l_Vp; refine wpAnyH_ready (rs := [6]) (by kernel_rfl) (by simp) ?_; refine AllReadyH.cons rfl (fun K hK => ?_) AllReadyH.nil; simp only [gA, gB, gC]; (go_simp); clear c_Vp f0_Vp d_Vp f1_Vp e_Vp f2_Vp l_Vp m_Vp; refine sto3 Vp (.bool sp) (.slice ap lp cp) (.slice bp mp dp) (Q := fun W => K _ W) ?_; intro x12 V' oth far; replace Vq := oth _ _ _ (by first | omega | assumption | (simp; omega)) Vq; replace hp := hp.far Vp (noInt3 _ _ _ _ _ _ _) far.1
                  replace hq := hq.far Vp (noInt3 _ _ _ _ _ _ _) far.1; replace BX := far.2 _ _ (by first | omega | (simp; omega)) BX; replace Vp := V'; clear oth far; refine hK.out _ _ (LS.out _ BX) (fun hHeld => ?_); clear hK K; have c_Vq := Vq.d0; have f0_Vq := Vq.frozen 0; have d_Vq := Vq.d1; have f1_Vq := Vq.frozen 1; have e_Vq := Vq.d2; have f2_Vq := Vq.frozen 2; have l_Vq := Vq.lt; have m_Vq := Nat.le_of_lt l_Vq; refine wpAnyH_ready (rs := [7]) (by kernel_rfl) (by simp) ?_; refine AllReadyH.cons rfl (fun K hK => ?_) AllReadyH.nil; simp only [gA, gB, gC]; (go_simp); clear c_Vq f0_Vq d_Vq f1_Vq e_Vq f2_Vq l_Vq m_Vq; refine sto3 Vq (.bool sq) (.slice aq lq cq) (.slice bq mq dq) (Q := fun W => K _ W) ?_; intro x13 V' oth far; replace Vp := oth _ _ _ (by first | omega | assumption | (simp; omega)) Vp; replace hp := hp.far Vq (noInt3 _ _ _ _ _ _ _) far.1; replace hq := hq.far Vq (noInt3 _ _ _ _ _ _ _) far.1; replace BX := far.2 _ _ (by first | omega | (simp; omega)) BX
                  replace Vq := V'; clear oth far; refine hK.out _ _ (LS.out _ BX) (fun hHeld => ?_); clear hK K; refine wpAnyH_done (by kernel_rfl) ?_ _; refine NoPanic.normal ?_; clear hHeld; (go_wp2_with fail)
                  go_meet
                  exact ⟨_, _, sp, ap, lp, cp, zp, bp, mp, dp, yp, sq, aq, lq, cq, zq, bq, mq, dq, yq, rfl, rfl, Vp, Vq, hp, hq, BX, ⟨by omega, by omega, by omega⟩⟩
              ·
                simp only [gA, gB, gC]; (go_simp); have sz_Vq := BX.size; refine ent1 _ _ _ (Q := fun V => K _ V) ?_; intro x10 hb hs_ Vq; replace hp := Rt.after hb hp; replace hq := Rt.after hb hq; replace BX := step BX hb; clear hb hs_; refine hK.out _ _ (LS.out _ BX) (fun hHeld => ?_); clear hK K; refine wpAnyH_ready (rs := [4]) (by kernel_rfl) (by simp) ?_; refine AllReadyH.cons rfl (fun K hK => ?_) AllReadyH.nil
                ·
                  simp only [gA, gB, gC]; (go_simp); have lt_Vp_Vq := Vq.lt; have sz_Vp := BX.size; refine ent1 _ _ _ (Q := fun V => K _ V) ?_; intro x11 hb hs_ Vp; replace Vq := Va.after hb Vq; replace hp := Rt.after hb hp; replace hq := Rt.after hb hq; replace BX := step BX hb; clear hb hs_; refine hK.out _ _ (LS.out _ BX) (fun hHeld => ?_); clear hK K; have c_Vp := Vp.d0; have f0_Vp := Vp.frozen 0; have d_Vp := Vp.d1; have f1_Vp := Vp.frozen 1; have e_Vp := Vp.d2; have f2_Vp := Vp.frozen 2; have l_Vp := Vp.lt; have m_Vp := Nat.le_of_lt l_Vp; refine wpAnyH_ready (rs := [6]) (by kernel_rfl) (by simp) ?_; refine AllReadyH.cons rfl (fun K hK => ?_) AllReadyH.nil; simp only [gA, gB, gC]; (go_simp); clear c_Vp f0_Vp d_Vp f1_Vp e_Vp f2_Vp l_Vp m_Vp; refine sto3 Vp (.bool sp) (.slice ap lp cp) (.slice bp mp dp) (Q := fun W => K _ W) ?_; intro x12 V' oth far; replace Vq := oth _ _ _ (by first | omega | assumption | (simp; omega)) Vq; replace hp := hp.far Vp (noInt3 _ _ _ _ _ _ _) far.1
                  replace hq := hq.far Vp (noInt3 _ _ _ _ _ _ _) far.1; replace BX := far.2 _ _ (by first | omega | (simp; omega)) BX; replace Vp := V'; clear oth far; refine hK.out _ _ (LS.out _ BX) (fun hHeld => ?_); clear hK K; have c_Vq := Vq.d0; have f0_Vq := Vq.frozen 0; have d_Vq := Vq.d1; have f1_Vq := Vq.frozen 1; have e_Vq := Vq.d2; have f2_Vq := Vq.frozen 2; have l_Vq := Vq.lt; have m_Vq := Nat.le_of_lt l_Vq; refine wpAnyH_ready (rs := [7]) (by kernel_rfl) (by simp) ?_; refine AllReadyH.cons rfl (fun K hK => ?_) AllReadyH.nil; simp only [gA, gB, gC]; (go_simp); clear c_Vq f0_Vq d_Vq f1_Vq e_Vq f2_Vq l_Vq m_Vq; refine sto3 Vq (.bool sq) (.slice aq lq cq) (.slice bq mq dq) (Q := fun W => K _ W) ?_; intro x13 V' oth far; replace Vp := oth _ _ _ (by first | omega | assumption | (simp; omega)) Vp; replace hp := hp.far Vq (noInt3 _ _ _ _ _ _ _) far.1; replace hq := hq.far Vq (noInt3 _ _ _ _ _ _ _) far.1; replace BX := far.2 _ _ (by first | omega | (simp; omega)) BX
                  replace Vq := V'; clear oth far; refine hK.out _ _ (LS.out _ BX) (fun hHeld => ?_); clear hK K; refine wpAnyH_done (by kernel_rfl) ?_ _; refine NoPanic.normal ?_; clear hHeld; (go_wp2_with fail)
                  go_meet
                  exact ⟨_, _, sp, ap, lp, cp, zp, bp, mp, dp, yp, sq, aq, lq, cq, zq, bq, mq, dq, yq, rfl, rfl, Vp, Vq, hp, hq, BX, ⟨by omega, by omega, by omega⟩⟩
            ·
              simp only [gA, gB, gC]; (go_simp); have sz_Vp := BX.size; refine ent1 _ _ _ (Q := fun V => K _ V) ?_; intro x9 hb hs_ Vp; replace hp := Rt.after hb hp; replace BX := step BX hb; clear hb hs_; refine hK.out _ _ (LS.out _ BX) (fun hHeld => ?_); clear hK K; refine wpAnyH_ready (rs := [3, 5]) (by kernel_rfl) (by simp) ?_; refine AllReadyH.cons rfl (fun K hK => ?_) (AllReadyH.cons rfl (fun K hK => ?_) AllReadyH.nil)
              ·
                simp only [gA, gB, gC]; (go_simp); refine (oflaw8 s2 a2 l2 c2 z2 b2 m2 d2 y2 v2 _ (Rr.after BX L_hq2.out) HL2).mono ?_; rintro e x10 ⟨sq, aq, lq, cq, zq, bq, mq, dq, yq, rfl, hq, hb⟩; replace Vp := Va.after hb Vp; replace hp := Rt.after hb hp; replace BX := step BX hb; clear hb; (try go_wp2_with fail); refine hK.out _ _ (LS.out _ BX) (fun hHeld => ?_); clear hK K; refine wpAnyH_ready (rs := [5]) (by kernel_rfl) (by simp) ?_; refine AllReadyH.cons rfl (fun K hK => ?_) AllReadyH.nil
                ·
                  simp only [gA, gB, gC]; (go_simp); have lt_Vq_Vp := Vp.lt; have sz_Vq := BX.size; refine ent1 _ _ _ (Q := fun V => K _ V) ?_; intro x11 hb hs_ Vq; replace Vp := Va.after hb Vp; replace hp := Rt.after hb hp; replace hq := Rt.after hb hq; replace BX := step BX hb; clear hb hs_; refine hK.out _ _ (LS.out _ BX) (fun hHeld => ?_); clear hK K; have c_Vp := Vp.d0; have f0_Vp := Vp.frozen 0; have d_Vp := Vp.d1; have f1_Vp := Vp.frozen 1; have e_Vp := Vp.d2; have f2_Vp := Vp.frozen 2; have l_Vp := Vp.lt; have m_Vp := Nat.le_of_lt l_Vp; refine wpAnyH_ready (rs := [6]) (by kernel_rfl) (by simp) ?_; refine AllReadyH.cons rfl (fun K hK => ?_) AllReadyH.nil; simp only [gA, gB, gC]; (go_simp); clear c_Vp f0_Vp d_Vp f1_Vp e_Vp f2_Vp l_Vp m_Vp; refine sto3 Vp (.bool sp) (.slice ap lp cp) (.slice bp mp dp) (Q := fun W => K _ W) ?_; intro x12 V' oth far; replace Vq := oth _ _ _ (by first | omega | assumption | (simp; omega)) Vq; replace hp := hp.far Vp (noInt3 _ _ _ _ _ _ _) far.1
                  replace hq := hq.far Vp (noInt3 _ _ _ _ _ _ _) far.1; replace BX := far.2 _ _ (by first | omega | (simp; omega)) BX; replace Vp := V'; clear oth far; refine hK.out _ _ (LS.out _ BX) (fun hHeld => ?_); clear hK K; have c_Vq := Vq.d0; have f0_Vq := Vq.frozen 0; have d_Vq := Vq.d1; have f1_Vq := Vq.frozen 1; have e_Vq := Vq.d2; have f2_Vq := Vq.frozen 2; have l_Vq := Vq.lt; have m_Vq := Nat.le_of_lt l_Vq; refine wpAnyH_ready (rs := [7]) (by kernel_rfl) (by simp) ?_; refine AllReadyH.cons rfl (fun K hK => ?_) AllReadyH.nil; simp only [gA, gB, gC]; (go_simp); clear c_Vq f0_Vq d_Vq f1_Vq e_Vq f2_Vq l_Vq m_Vq; refine sto3 Vq (.bool sq) (.slice aq lq cq) (.slice bq mq dq) (Q := fun W => K _ W) ?_; intro x13 V' oth far; replace Vp := oth _ _ _ (by first | omega | assumption | (simp; omega)) Vp; replace hp := hp.far Vq (noInt3 _ _ _ _ _ _ _) far.1; replace hq := hq.far Vq (noInt3 _ _ _ _ _ _ _) far.1; replace BX := far.2 _ _ (by first | omega | (simp; omega)) BX
                  replace Vq := V'; clear oth far; refine hK.out _ _ (LS.out _ BX) (fun hHeld => ?_); clear hK K; refine wpAnyH_done (by kernel_rfl) ?_ _; refine NoPanic.normal ?_; clear hHeld; (go_wp2_with fail)
                  go_meet
                  exact ⟨_, _, sp, ap, lp, cp, zp, bp, mp, dp, yp, sq, aq, lq, cq, zq, bq, mq, dq, yq, rfl, rfl, Vp, Vq, hp, hq, BX, ⟨by omega, by omega, by omega⟩⟩
              ·
                simp only [gA, gB, gC]; (go_simp); have lt_Vq_Vp := Vp.lt; have sz_Vq := BX.size; refine ent1 _ _ _ (Q := fun V => K _ V) ?_; intro x10 hb hs_ Vq; replace Vp := Va.after hb Vp; replace hp := Rt.after hb hp; replace BX := step BX hb; clear hb hs_; refine hK.out _ _ (LS.out _ BX) (fun hHeld => ?_); clear hK K; refine wpAnyH_ready (rs := [3]) (by kernel_rfl) (by simp) ?_; refine AllReadyH.cons rfl (fun K hK => ?_) AllReadyH.nil
                ·
                  simp only [gA, gB, gC]; (go_simp); refine (oflaw8 s2 a2 l2 c2 z2 b2 m2 d2 y2 v2 _ (Rr.after BX L_hq2.out) HL2).mono ?_; rintro e x11 ⟨sq, aq, lq, cq, zq, bq, mq, dq, yq, rfl, hq, hb⟩; replace Vp := Va.after hb Vp; replace Vq := Va.after hb Vq; replace hp := Rt.after hb hp; replace BX := step BX hb; clear hb; (try go_wp2_with fail); refine hK.out _ _ (LS.out _ BX) (fun hHeld => ?_); clear hK K; have c_Vp := Vp.d0; have f0_Vp := Vp.frozen 0; have d_Vp := Vp.d1; have f1_Vp := Vp.frozen 1; have e_Vp := Vp.d2; have f2_Vp := Vp.frozen 2; have l_Vp := Vp.lt; have m_Vp := Nat.le_of_lt l_Vp; refine wpAnyH_ready (rs := [6]) (by kernel_rfl) (by simp) ?_; refine AllReadyH.cons rfl (fun K hK => ?_) AllReadyH.nil; simp only [gA, gB, gC]; (go_simp); clear c_Vp f0_Vp d_Vp f1_Vp e_Vp f2_Vp l_Vp m_Vp; refine sto3 Vp (.bool sp) (.slice ap lp cp) (.slice bp mp dp) (Q := fun W => K _ W) ?_; intro x12 V' oth far; replace Vq := oth _ _ _ (by first | omega | assumption | (simp; omega)) Vq
                  replace hp := hp.far Vp (noInt3 _ _ _ _ _ _ _) far.1; replace hq := hq.far Vp (noInt3 _ _ _ _ _ _ _) far.1; replace BX := far.2 _ _ (by first | omega | (simp; omega)) BX; replace Vp := V'; clear oth far; refine hK.out _ _ (LS.out _ BX) (fun hHeld => ?_); clear hK K; have c_Vq := Vq.d0; have f0_Vq := Vq.frozen 0; have d_Vq := Vq.d1; have f1_Vq := Vq.frozen 1; have e_Vq := Vq.d2; have f2_Vq := Vq.frozen 2; have l_Vq := Vq.lt; have m_Vq := Nat.le_of_lt l_Vq; refine wpAnyH_ready (rs := [7]) (by kernel_rfl) (by simp) ?_; refine AllReadyH.cons rfl (fun K hK => ?_) AllReadyH.nil; simp only [gA, gB, gC]; (go_simp); clear c_Vq f0_Vq d_Vq f1_Vq e_Vq f2_Vq l_Vq m_Vq; refine sto3 Vq (.bool sq) (.slice aq lq cq) (.slice bq mq dq) (Q := fun W => K _ W) ?_; intro x13 V' oth far; replace Vp := oth _ _ _ (by first | omega | assumption | (simp; omega)) Vp; replace hp := hp.far Vq (noInt3 _ _ _ _ _ _ _) far.1; replace hq := hq.far Vq (noInt3 _ _ _ _ _ _ _) far.1
                  replace BX := far.2 _ _ (by first | omega | (simp; omega)) BX; replace Vq := V'; clear oth far; refine hK.out _ _ (LS.out _ BX) (fun hHeld => ?_); clear hK K; refine wpAnyH_done (by kernel_rfl) ?_ _; refine NoPanic.normal ?_; clear hHeld; (go_wp2_with fail)
                  go_meet
                  exact ⟨_, _, sp, ap, lp, cp, zp, bp, mp, dp, yp, sq, aq, lq, cq, zq, bq, mq, dq, yq, rfl, rfl, Vp, Vq, hp, hq, BX, ⟨by omega, by omega, by omega⟩⟩
            ·
              simp only [gA, gB, gC]; (go_simp); have sz_Vq := BX.size; refine ent1 _ _ _ (Q := fun V => K _ V) ?_; intro x9 hb hs_ Vq; replace hp := Rt.after hb hp; replace BX := step BX hb; clear hb hs_; refine hK.out _ _ (LS.out _ BX) (fun hHeld => ?_); clear hK K; refine wpAnyH_ready (rs := [3, 4]) (by kernel_rfl) (by simp) ?_; refine AllReadyH.cons rfl (fun K hK => ?_) (AllReadyH.cons rfl (fun K hK => ?_) AllReadyH.nil)
              ·
                simp only [gA, gB, gC]; (go_simp); refine (oflaw8 s2 a2 l2 c2 z2 b2 m2 d2 y2 v2 _ (Rr.after BX L_hq2.out) HL2).mono ?_; rintro e x10 ⟨sq, aq, lq, cq, zq, bq, mq, dq, yq, rfl, hq, hb⟩; replace Vq := Va.after hb Vq; replace hp := Rt.after hb hp; replace BX := step BX hb; clear hb; (try go_wp2_with fail); refine hK.out _ _ (LS.out _ BX) (fun hHeld => ?_); clear hK K; refine wpAnyH_ready (rs := [4]) (by kernel_rfl) (by simp) ?_; refine AllReadyH.cons rfl (fun K hK => ?_) AllReadyH.nil
                ·
                  simp only [gA, gB, gC]; (go_simp); have lt_Vp_Vq := Vq.lt; have sz_Vp := BX.size; refine ent1 _ _ _ (Q := fun V => K _ V) ?_; intro x11 hb hs_ Vp; replace Vq := Va.after hb Vq; replace hp := Rt.after hb hp; replace hq := Rt.after hb hq; replace BX := step BX hb; clear hb hs_; refine hK.out _ _ (LS.out _ BX) (fun hHeld => ?_); clear hK K; have c_Vp := Vp.d0; have f0_Vp := Vp.frozen 0; have d_Vp := Vp.d1; have f1_Vp := Vp.frozen 1; have e_Vp := Vp.d2; have f2_Vp := Vp.frozen 2; have l_Vp := Vp.lt; have m_Vp := Nat.le_of_lt l_Vp; refine wpAnyH_ready (rs := [6]) (by kernel_rfl) (by simp) ?_; refine AllReadyH.cons rfl (fun K hK => ?_) AllReadyH.nil; simp only [gA, gB, gC]; (go_simp); clear c_Vp f0_Vp d_Vp f1_Vp e_Vp f2_Vp l_Vp m_Vp; refine sto3 Vp (.bool sp) (.slice ap lp cp) (.slice bp mp dp) (Q := fun W => K _ W) ?_; intro x12 V' oth far; replace Vq := oth _ _ _ (by first | omega | assumption | (simp; omega)) Vq; replace hp := hp.far Vp (noInt3 _ _ _ _ _ _ _) far.1
                  replace hq := hq.far Vp (noInt3 _ _ _ _ _ _ _) far.1; replace BX := far.2 _ _ (by first | omega | (simp; omega)) BX; replace Vp := V'; clear oth far; refine hK.out _ _ (LS.out _ BX) (fun hHeld => ?_); clear hK K; have c_Vq := Vq.d0; have f0_Vq := Vq.frozen 0; have d_Vq := Vq.d1; have f1_Vq := Vq.frozen 1; have e_Vq := Vq.d2; have f2_Vq := Vq.frozen 2; have l_Vq := Vq.lt; have m_Vq := Nat.le_of_lt l_Vq; refine wpAnyH_ready (rs := [7]) (by kernel_rfl) (by simp) ?_; refine AllReadyH.cons rfl (fun K hK => ?_) AllReadyH.nil; simp only [gA, gB, gC]; (go_simp); clear c_Vq f0_Vq d_Vq f1_Vq e_Vq f2_Vq l_Vq m_Vq; refine sto3 Vq (.bool sq) (.slice aq lq cq) (.slice bq mq dq) (Q := fun W => K _ W) ?_; intro x13 V' oth far; replace Vp := oth _ _ _ (by first | omega | assumption | (simp; omega)) Vp; replace hp := hp.far Vq (noInt3 _ _ _ _ _ _ _) far.1; replace hq := hq.far Vq (noInt3 _ _ _ _ _ _ _) far.1; replace BX := far.2 _ _ (by first | omega | (simp; omega)) BX
                  replace Vq := V'; clear oth far; refine hK.out _ _ (LS.out _ BX) (fun hHeld => ?_); clear hK K; refine wpAnyH_done (by kernel_rfl) ?_ _; refine NoPanic.normal ?_; clear hHeld; (go_wp2_with fail)
                  go_meet
                  exact ⟨_, _, sp, ap, lp, cp, zp, bp, mp, dp, yp, sq, aq, lq, cq, zq, bq, mq, dq, yq, rfl, rfl, Vp, Vq, hp, hq, BX, ⟨by omega, by omega, by omega⟩⟩
              ·
                simp only [gA, gB, gC]; (go_simp); have lt_Vp_Vq := Vq.lt; have sz_Vp := BX.size; refine ent1 _ _ _ (Q := fun V => K _ V) ?_; intro x10 hb hs_ Vp; replace Vq := Va.after hb Vq; replace hp := Rt.after hb hp; replace BX := step BX hb; clear hb hs_; refine hK.out _ _ (LS.out _ BX) (fun hHeld => ?_); clear hK K; refine wpAnyH_ready (rs := [3]) (by kernel_rfl) (by simp) ?_; refine AllReadyH.cons rfl (fun K hK => ?_) AllReadyH.nil
                ·
                  simp only [gA, gB, gC]; (go_simp); refine (oflaw8 s2 a2 l2 c2 z2 b2 m2 d2 y2 v2 _ (Rr.after BX L_hq2.out) HL2).mono ?_; rintro e x11 ⟨sq, aq, lq, cq, zq, bq, mq, dq, yq, rfl, hq, hb⟩; replace Vq := Va.after hb Vq; replace Vp := Va.after hb Vp; replace hp := Rt.after hb hp; replace BX := step BX hb; clear hb; (try go_wp2_with fail); refine hK.out _ _ (LS.out _ BX) (fun hHeld => ?_); clear hK K; have c_Vp := Vp.d0; have f0_Vp := Vp.frozen 0; have d_Vp := Vp.d1; have f1_Vp := Vp.frozen 1; have e_Vp := Vp.d2; have f2_Vp := Vp.frozen 2; have l_Vp := Vp.lt; have m_Vp := Nat.le_of_lt l_Vp; refine wpAnyH_ready (rs := [6]) (by kernel_rfl) (by simp) ?_; refine AllReadyH.cons rfl (fun K hK => ?_) AllReadyH.nil; simp only [gA, gB, gC]; (go_simp); clear c_Vp f0_Vp d_Vp f1_Vp e_Vp f2_Vp l_Vp m_Vp; refine sto3 Vp (.bool sp) (.slice ap lp cp) (.slice bp mp dp) (Q := fun W => K _ W) ?_; intro x12 V' oth far; replace Vq := oth _ _ _ (by first | omega | assumption | (simp; omega)) Vq
                  replace hp := hp.far Vp (noInt3 _ _ _ _ _ _ _) far.1; replace hq := hq.far Vp (noInt3 _ _ _ _ _ _ _) far.1; replace BX := far.2 _ _ (by first | omega | (simp; omega)) BX; replace Vp := V'; clear oth far; refine hK.out _ _ (LS.out _ BX) (fun hHeld => ?_); clear hK K; have c_Vq := Vq.d0; have f0_Vq := Vq.frozen 0; have d_Vq := Vq.d1; have f1_Vq := Vq.frozen 1; have e_Vq := Vq.d2; have f2_Vq := Vq.frozen 2; have l_Vq := Vq.lt; have m_Vq := Nat.le_of_lt l_Vq; refine wpAnyH_ready (rs := [7]) (by kernel_rfl) (by simp) ?_; refine AllReadyH.cons rfl (fun K hK => ?_) AllReadyH.nil; simp only [gA, gB, gC]; (go_simp); clear c_Vq f0_Vq d_Vq f1_Vq e_Vq f2_Vq l_Vq m_Vq; refine sto3 Vq (.bool sq) (.slice aq lq cq) (.slice bq mq dq) (Q := fun W => K _ W) ?_; intro x13 V' oth far; replace Vp := oth _ _ _ (by first | omega | assumption | (simp; omega)) Vp; replace hp := hp.far Vq (noInt3 _ _ _ _ _ _ _) far.1; replace hq := hq.far Vq (noInt3 _ _ _ _ _ _ _) far.1
                  replace BX := far.2 _ _ (by first | omega | (simp; omega)) BX; replace Vq := V'; clear oth far; refine hK.out _ _ (LS.out _ BX) (fun hHeld => ?_); clear hK K; refine wpAnyH_done (by kernel_rfl) ?_ _; refine NoPanic.normal ?_; clear hHeld; (go_wp2_with fail)
                  go_meet
                  exact ⟨_, _, sp, ap, lp, cp, zp, bp, mp, dp, yp, sq, aq, lq, cq, zq, bq, mq, dq, yq, rfl, rfl, Vp, Vq, hp, hq, BX, ⟨by omega, by omega, by omega⟩⟩
          ·
            simp only [gA, gB, gC]; (go_simp); have sz_Vp := BX.size; refine ent1 _ _ _ (Q := fun V => K _ V) ?_; intro x8 hb hs_ Vp; replace BX := step BX hb; clear hb hs_; refine hK.out _ _ (LS.out _ BX) (fun hHeld => ?_); clear hK K; refine wpAnyH_ready (rs := [1, 5]) (by kernel_rfl) (by simp) ?_; refine AllReadyH.cons rfl (fun K hK => ?_) (AllReadyH.cons rfl (fun K hK => ?_) AllReadyH.nil)
            ·
              simp only [gA, gB, gC]; (go_simp); refine (oflaw8 s1 a1 l1 c1 z1 b1 m1 d1 y1 v1 _ (Rr.after BX L_hq1.out) HL1).mono ?_; rintro e x9 ⟨sp, ap, lp, cp, zp, bp, mp, dp, yp, rfl, hp, hb⟩; replace Vp := Va.after hb Vp; replace BX := step BX hb; clear hb; (try go_wp2_with fail); refine hK.out _ _ (LS.out _ BX) (fun hHeld => ?_); clear hK K; refine wpAnyH_ready (rs := [3, 5]) (by kernel_rfl) (by simp) ?_; refine AllReadyH.cons rfl (fun K hK => ?_) (AllReadyH.cons rfl (fun K hK => ?_) AllReadyH.nil)
              ·
                simp only [gA, gB, gC]; (go_simp); refine (oflaw8 s2 a2 l2 c2 z2 b2 m2 d2 y2 v2 _ (Rr.after BX L_hq2.out) HL2).mono ?_; rintro e x10 ⟨sq, aq, lq, cq, zq, bq, mq, dq, yq, rfl, hq, hb⟩; replace Vp := Va.after hb Vp; replace hp := Rt.after hb hp; replace BX := step BX hb; clear hb; (try go_wp2_with fail); refine hK.out _ _ (LS.out _ BX) (fun hHeld => ?_); clear hK K; refine wpAnyH_ready (rs := [5]) (by kernel_rfl) (by simp) ?_; refine AllReadyH.cons rfl (fun K hK => ?_) AllReadyH.nil
                ·
                  simp only [gA, gB, gC]; (go_simp); have lt_Vq_Vp := Vp.lt; have sz_Vq := BX.size; refine ent1 _ _ _ (Q := fun V => K _ V) ?_; intro x11 hb hs_ Vq; replace Vp := Va.after hb Vp; replace hp := Rt.after hb hp; replace hq := Rt.after hb hq; replace BX := step BX hb; clear hb hs_; refine hK.out _ _ (LS.out _ BX) (fun hHeld => ?_); clear hK K; have c_Vp := Vp.d0; have f0_Vp := Vp.frozen 0; have d_Vp := Vp.d1; have f1_Vp := Vp.frozen 1; have e_Vp := Vp.d2; have f2_Vp := Vp.frozen 2; have l_Vp := Vp.lt; have m_Vp := Nat.le_of_lt l_Vp; refine wpAnyH_ready (rs := [6]) (by kernel_rfl) (by simp) ?_; refine AllReadyH.cons rfl (fun K hK => ?_) AllReadyH.nil; simp only [gA, gB, gC]; (go_simp); clear c_Vp f0_Vp d_Vp f1_Vp e_Vp f2_Vp l_Vp m_Vp; refine sto3 Vp (.bool sp) (.slice ap lp cp) (.slice bp mp dp) (Q := fun W => K _ W) ?_; intro x12 V' oth far; replace Vq := oth _ _ _ (by first | omega | assumption | (simp; omega)) Vq; replace hp := hp.far Vp (noInt3 _ _ _ _ _ _ _) far.1
                  replace hq := hq.far Vp (noInt3 _ _ _ _ _ _ _) far.1; replace BX := far.2 _ _ (by first | omega | (simp; omega)) BX; replace Vp := V'; clear oth far; refine hK.out _ _ (LS.out _ BX) (fun hHeld => ?_); clear hK K; have c_Vq := Vq.d0; have f0_Vq := Vq.frozen 0; have d_Vq := Vq.d1; have f1_Vq := Vq.frozen 1; have e_Vq := Vq.d2; have f2_Vq := Vq.frozen 2; have l_Vq := Vq.lt; have m_Vq := Nat.le_of_lt l_Vq; refine wpAnyH_ready (rs := [7]) (by kernel_rfl) (by simp) ?_; refine AllReadyH.cons rfl (fun K hK => ?_) AllReadyH.nil; simp only [gA, gB, gC]; (go_simp); clear c_Vq f0_Vq d_Vq f1_Vq e_Vq f2_Vq l_Vq m_Vq; refine sto3 Vq (.bool sq) (.slice aq lq cq) (.slice bq mq dq) (Q := fun W => K _ W) ?_; intro x13 V' oth far; replace Vp := oth _ _ _ (by first | omega | assumption | (simp; omega)) Vp; replace hp := hp.far Vq (noInt3 _ _ _ _ _ _ _) far.1; replace hq := hq.far Vq (noInt3 _ _ _ _ _ _ _) far.1; replace BX := far.2 _ _ (by first | omega | (simp; omega)) BX
                  replace Vq := V'; clear oth far; refine hK.out _ _ (LS.out _ BX) (fun hHeld => ?_); clear hK K; refine wpAnyH_done (by kernel_rfl) ?_ _; refine NoPanic.normal ?_; clear hHeld; (go_wp2_with fail)
                  go_meet
                  exact ⟨_, _, sp, ap, lp, cp, zp, bp, mp, dp, yp, sq, aq, lq, cq, zq, bq, mq, dq, yq, rfl, rfl, Vp, Vq, hp, hq, BX, ⟨by omega, by omega, by omega⟩⟩
              ·
                simp only [gA, gB, gC]; (go_simp); have lt_Vq_Vp := Vp.lt; have sz_Vq := BX.size; refine ent1 _ _ _ (Q := fun V => K _ V) ?_; intro x10 hb hs_ Vq; replace Vp := Va.after hb Vp; replace hp := Rt.after hb hp; replace BX := step BX hb; clear hb hs_; refine hK.out _ _ (LS.out _ BX) (fun hHeld => ?_); clear hK K; refine wpAnyH_ready (rs := [3]) (by kernel_rfl) (by simp) ?_; refine AllReadyH.cons rfl (fun K hK => ?_) AllReadyH.nil
                ·
                  simp only [gA, gB, gC]; (go_simp); refine (oflaw8 s2 a2 l2 c2 z2 b2 m2 d2 y2 v2 _ (Rr.after BX L_hq2.out) HL2).mono ?_; rintro e x11 ⟨sq, aq, lq, cq, zq, bq, mq, dq, yq, rfl, hq, hb⟩; replace Vp := Va.after hb Vp; replace Vq := Va.after hb Vq; replace hp := Rt.after hb hp; replace BX := step BX hb; clear hb; (try go_wp2_with fail); refine hK.out _ _ (LS.out _ BX) (fun hHeld => ?_); clear hK K; have c_Vp := Vp.d0; have f0_Vp := Vp.frozen 0; have d_Vp := Vp.d1; have f1_Vp := Vp.frozen 1; have e_Vp := Vp.d2; have f2_Vp := Vp.frozen 2; have l_Vp := Vp.lt; have m_Vp := Nat.le_of_lt l_Vp; refine wpAnyH_ready (rs := [6]) (by kernel_rfl) (by simp) ?_; refine AllReadyH.cons rfl (fun K hK => ?_) AllReadyH.nil; simp only [gA, gB, gC]; (go_simp); clear c_Vp f0_Vp d_Vp f1_Vp e_Vp f2_Vp l_Vp m_Vp; refine sto3 Vp (.bool sp) (.slice ap lp cp) (.slice bp mp dp) (Q := fun W => K _ W) ?_; intro x12 V' oth far; replace Vq := oth _ _ _ (by first | omega | assumption | (simp; omega)) Vq
                  replace hp := hp.far Vp (noInt3 _ _ _ _ _ _ _) far.1; replace hq := hq.far Vp (noInt3 _ _ _ _ _ _ _) far.1; replace BX := far.2 _ _ (by first | omega | (simp; omega)) BX; replace Vp := V'; clear oth far; refine hK.out _ _ (LS.out _ BX) (fun hHeld => ?_); clear hK K; have c_Vq := Vq.d0; have f0_Vq := Vq.frozen 0; have d_Vq := Vq.d1; have f1_Vq := Vq.frozen 1; have e_Vq := Vq.d2; have f2_Vq := Vq.frozen 2; have l_Vq := Vq.lt; have m_Vq := Nat.le_of_lt l_Vq; refine wpAnyH_ready (rs := [7]) (by kernel_rfl) (by simp) ?_; refine AllReadyH.cons rfl (fun K hK => ?_) AllReadyH.nil; simp only [gA, gB, gC]; (go_simp); clear c_Vq f0_Vq d_Vq f1_Vq e_Vq f2_Vq l_Vq m_Vq; refine sto3 Vq (.bool sq) (.slice aq lq cq) (.slice bq mq dq) (Q := fun W => K _ W) ?_; intro x13 V' oth far; replace Vp := oth _ _ _ (by first | omega | assumption | (simp; omega)) Vp; replace hp := hp.far Vq (noInt3 _ _ _ _ _ _ _) far.1; replace hq := hq.far Vq (noInt3 _ _ _ _ _ _ _) far.1
                  replace BX := far.2 _ _ (by first | omega | (simp; omega)) BX; replace Vq := V'; clear oth far; refine hK.out _ _ (LS.out _ BX) (fun hHeld => ?_); clear hK K; refine wpAnyH_done (by kernel_rfl) ?_ _; refine NoPanic.normal ?_; clear hHeld; (go_wp2_with fail)
                  go_meet
                  exact ⟨_, _, sp, ap, lp, cp, zp, bp, mp, dp, yp, sq, aq, lq, cq, zq, bq, mq, dq, yq, rfl, rfl, Vp, Vq, hp, hq, BX, ⟨by omega, by omega, by omega⟩⟩
            ·
              simp only [gA, gB, gC]; (go_simp); have lt_Vq_Vp := Vp.lt; have sz_Vq := BX.size; refine ent1 _ _ _ (Q := fun V => K _ V) ?_; intro x9 hb hs_ Vq; replace Vp := Va.after hb Vp; replace BX := step BX hb; clear hb hs_; refine hK.out _ _ (LS.out _ BX) (fun hHeld => ?_); clear hK K; refine wpAnyH_ready (rs := [1]) (by kernel_rfl) (by simp) ?_; refine AllReadyH.cons rfl (fun K hK => ?_) AllReadyH.nil
              ·
                simp only [gA, gB, gC]; (go_simp); refine (oflaw8 s1 a1 l1 c1 z1 b1 m1 d1 y1 v1 _ (Rr.after BX L_hq1.out) HL1).mono ?_; rintro e x10 ⟨sp, ap, lp, cp, zp, bp, mp, dp, yp, rfl, hp, hb⟩; replace Vp := Va.after hb Vp; replace Vq := Va.after hb Vq; replace BX := step BX hb; clear hb; (try go_wp2_with fail); refine hK.out _ _ (LS.out _ BX) (fun hHeld => ?_); clear hK K; refine wpAnyH_ready (rs := [3]) (by kernel_rfl) (by simp) ?_; refine AllReadyH.cons rfl (fun K hK => ?_) AllReadyH.nil
                ·
                  simp only [gA, gB, gC]; (go_simp); refine (oflaw8 s2 a2 l2 c2 z2 b2 m2 d2 y2 v2 _ (Rr.after BX L_hq2.out) HL2).mono ?_; rintro e x11 ⟨sq, aq, lq, cq, zq, bq, mq, dq, yq, rfl, hq, hb⟩; replace Vp := Va.after hb Vp; replace Vq := Va.after hb Vq; replace hp := Rt.after hb hp; replace BX := step BX hb; clear hb; (try go_wp2_with fail); refine hK.out _ _ (LS.out _ BX) (fun hHeld => ?_); clear hK K; have c_Vp := Vp.d0; have f0_Vp := Vp.frozen 0; have d_Vp := Vp.d1; have f1_Vp := Vp.frozen 1; have e_Vp := Vp.d2; have f2_Vp := Vp.frozen 2; have l_Vp := Vp.lt; have m_Vp := Nat.le_of_lt l_Vp; refine wpAnyH_ready (rs := [6]) (by kernel_rfl) (by simp) ?_; refine AllReadyH.cons rfl (fun K hK => ?_) AllReadyH.nil; simp only [gA, gB, gC]; (go_simp); clear c_Vp f0_Vp d_Vp f1_Vp e_Vp f2_Vp l_Vp m_Vp; refine sto3 Vp (.bool sp) (.slice ap lp cp) (.slice bp mp dp) (Q := fun W => K _ W) ?_; intro x12 V' oth far; replace Vq := oth _ _ _ (by first | omega | assumption | (simp; omega)) Vq
                  replace hp := hp.far Vp (noInt3 _ _ _ _ _ _ _) far.1; replace hq := hq.far Vp (noInt3 _ _ _ _ _ _ _) far.1; replace BX := far.2 _ _ (by first | omega | (simp; omega)) BX; replace Vp := V'; clear oth far; refine hK.out _ _ (LS.out _ BX) (fun hHeld => ?_); clear hK K; have c_Vq := Vq.d0; have f0_Vq := Vq.frozen 0; have d_Vq := Vq.d1; have f1_Vq := Vq.frozen 1; have e_Vq := Vq.d2; have f2_Vq := Vq.frozen 2; have l_Vq := Vq.lt; have m_Vq := Nat.le_of_lt l_Vq; refine wpAnyH_ready (rs := [7]) (by kernel_rfl) (by simp) ?_; refine AllReadyH.cons rfl (fun K hK => ?_) AllReadyH.nil; simp only [gA, gB, gC]; (go_simp); clear c_Vq f0_Vq d_Vq f1_Vq e_Vq f2_Vq l_Vq m_Vq; refine sto3 Vq (.bool sq) (.slice aq lq cq) (.slice bq mq dq) (Q := fun W => K _ W) ?_; intro x13 V' oth far; replace Vp := oth _ _ _ (by first | omega | assumption | (simp; omega)) Vp; replace hp := hp.far Vq (noInt3 _ _ _ _ _ _ _) far.1; replace hq := hq.far Vq (noInt3 _ _ _ _ _ _ _) far.1
                  replace BX := far.2 _ _ (by first | omega | (simp; omega)) BX; replace Vq := V'; clear oth far; refine hK.out _ _ (LS.out _ BX) (fun hHeld => ?_); clear hK K; refine wpAnyH_done (by kernel_rfl) ?_ _; refine NoPanic.normal ?_; clear hHeld; (go_wp2_with fail)
                  go_meet
                  exact ⟨_, _, sp, ap, lp, cp, zp, bp, mp, dp, yp, sq, aq, lq, cq, zq, bq, mq, dq, yq, rfl, rfl, Vp, Vq, hp, hq, BX, ⟨by omega, by omega, by omega⟩⟩
          ·
            simp only [gA, gB, gC]; (go_simp); have sz_Vq := BX.size; refine ent1 _ _ _ (Q := fun V => K _ V) ?_; intro x8 hb hs_ Vq; replace BX := step BX hb; clear hb hs_; refine hK.out _ _ (LS.out _ BX) (fun hHeld => ?_); clear hK K; refine wpAnyH_ready (rs := [1, 4]) (by kernel_rfl) (by simp) ?_; refine AllReadyH.cons rfl (fun K hK => ?_) (AllReadyH.cons rfl (fun K hK => ?_) AllReadyH.nil)
            ·
              simp only [gA, gB, gC]; (go_simp); refine (oflaw8 s1 a1 l1 c1 z1 b1 m1 d1 y1 v1 _ (Rr.after BX L_hq1.out) HL1).mono ?_; rintro e x9 ⟨sp, ap, lp, cp, zp, bp, mp, dp, yp, rfl, hp, hb⟩; replace Vq := Va.after hb Vq; replace BX := step BX hb; clear hb; (try go_wp2_with fail); refine hK.out _ _ (LS.out _ BX) (fun hHeld => ?_); clear hK K; refine wpAnyH_ready (rs := [3, 4]) (by kernel_rfl) (by simp) ?_; refine AllReadyH.cons rfl (fun K hK => ?_) (AllReadyH.cons rfl (fun K hK => ?_) AllReadyH.nil)
              ·
                simp only [gA, gB, gC]; (go_simp); refine (oflaw8 s2 a2 l2 c2 z2 b2 m2 d2 y2 v2 _ (Rr.after BX L_hq2.out) HL2).mono ?_; rintro e x10 ⟨sq, aq, lq, cq, zq, bq, mq, dq, yq, rfl, hq, hb⟩; replace Vq := Va.after hb Vq; replace hp := Rt.after hb hp; replace BX := step BX hb; clear hb; (try go_wp2_with fail); refine hK.out _ _ (LS.out _ BX) (fun hHeld => ?_); clear hK K; refine wpAnyH_ready (rs := [4]) (by kernel_rfl) (by simp) ?_; refine AllReadyH.cons rfl (fun K hK => ?_) AllReadyH.nil
                ·
                  simp only [gA, gB, gC]; (go_simp); have lt_Vp_Vq := Vq.lt; have sz_Vp := BX.size; refine ent1 _ _ _ (Q := fun V => K _ V) ?_; intro x11 hb hs_ Vp; replace Vq := Va.after hb Vq; replace hp := Rt.after hb hp; replace hq := Rt.after hb hq; replace BX := step BX hb; clear hb hs_; refine hK.out _ _ (LS.out _ BX) (fun hHeld => ?_); clear hK K; have c_Vp := Vp.d0; have f0_Vp := Vp.frozen 0; have d_Vp := Vp.d1; have f1_Vp := Vp.frozen 1; have e_Vp := Vp.d2; have f2_Vp := Vp.frozen 2; have l_Vp := Vp.lt; have m_Vp := Nat.le_of_lt l_Vp; refine wpAnyH_ready (rs := [6]) (by kernel_rfl) (by simp) ?_; refine AllReadyH.cons rfl (fun K hK => ?_) AllReadyH.nil; simp only [gA, gB, gC]; (go_simp); clear c_Vp f0_Vp d_Vp f1_Vp e_Vp f2_Vp l_Vp m_Vp; refine sto3 Vp (.bool sp) (.slice ap lp cp) (.slice bp mp dp) (Q := fun W => K _ W) ?_; intro x12 V' oth far; replace Vq := oth _ _ _ (by first | omega | assumption | (simp; omega)) Vq; replace hp := hp.far Vp (noInt3 _ _ _ _ _ _ _) far.1
                  replace hq := hq.far Vp (noInt3 _ _ _ _ _ _ _) far.1; replace BX := far.2 _ _ (by first | omega | (simp; omega)) BX; replace Vp := V'; clear oth far; refine hK.out _ _ (LS.out _ BX) (fun hHeld => ?_); clear hK K; have c_Vq := Vq.d0; have f0_Vq := Vq.frozen 0; have d_Vq := Vq.d1; have f1_Vq := Vq.frozen 1; have e_Vq := Vq.d2; have f2_Vq := Vq.frozen 2; have l_Vq := Vq.lt; have m_Vq := Nat.le_of_lt l_Vq; refine wpAnyH_ready (rs := [7]) (by kernel_rfl) (by simp) ?_; refine AllReadyH.cons rfl (fun K hK => ?_) AllReadyH.nil; simp only [gA, gB, gC]; (go_simp); clear c_Vq f0_Vq d_Vq f1_Vq e_Vq f2_Vq l_Vq m_Vq; refine sto3 Vq (.bool sq) (.slice aq lq cq) (.slice bq mq dq) (Q := fun W => K _ W) ?_; intro x13 V' oth far; replace Vp := oth _ _ _ (by first | omega | assumption | (simp; omega)) Vp; replace hp := hp.far Vq (noInt3 _ _ _ _ _ _ _) far.1; replace hq := hq.far Vq (noInt3 _ _ _ _ _ _ _) far.1; replace BX := far.2 _ _ (by first | omega | (simp; omega)) BX
                  replace Vq := V'; clear oth far; refine hK.out _ _ (LS.out _ BX) (fun hHeld => ?_); clear hK K; refine wpAnyH_done (by kernel_rfl) ?_ _; refine NoPanic.normal ?_; clear hHeld; (go_wp2_with fail)
                  go_meet
                  exact ⟨_, _, sp, ap, lp, cp, zp, bp, mp, dp, yp, sq, aq, lq, cq, zq, bq, mq, dq, yq, rfl, rfl, Vp, Vq, hp, hq, BX, ⟨by omega, by omega, by omega⟩⟩
              ·
                simp only [gA, gB, gC]; (go_simp); have lt_Vp_Vq := Vq.lt; have sz_Vp := BX.size; refine ent1 _ _ _ (Q := fun V => K _ V) ?_; intro x10 hb hs_ Vp; replace Vq := Va.after hb Vq; replace hp := Rt.after hb hp; replace BX := step BX hb; clear hb hs_; refine hK.out _ _ (LS.out _ BX) (fun hHeld => ?_); clear hK K; refine wpAnyH_ready (rs := [3]) (by kernel_rfl) (by simp) ?_; refine AllReadyH.cons rfl (fun K hK => ?_) AllReadyH.nil
                ·
                  simp only [gA, gB, gC]; (go_simp); refine (oflaw8 s2 a2 l2 c2 z2 b2 m2 d2 y2 v2 _ (Rr.after BX L_hq2.out) HL2).mono ?_; rintro e x11 ⟨sq, aq, lq, cq, zq, bq, mq, dq, yq, rfl, hq, hb⟩; replace Vq := Va.after hb Vq; replace Vp := Va.after hb Vp; replace hp := Rt.after hb hp; replace BX := step BX hb; clear hb; (try go_wp2_with fail); refine hK.out _ _ (LS.out _ BX) (fun hHeld => ?_); clear hK K; have c_Vp := Vp.d0; have f0_Vp := Vp.frozen 0; have d_Vp := Vp.d1; have f1_Vp := Vp.frozen 1; have e_Vp := Vp.d2; have f2_Vp := Vp.frozen 2; have l_Vp := Vp.lt; have m_Vp := Nat.le_of_lt l_Vp; refine wpAnyH_ready (rs := [6]) (by kernel_rfl) (by simp) ?_; refine AllReadyH.cons rfl (fun K hK => ?_) AllReadyH.nil; simp only [gA, gB, gC]; (go_simp); clear c_Vp f0_Vp d_Vp f1_Vp e_Vp f2_Vp l_Vp m_Vp; refine sto3 Vp (.bool sp) (.slice ap lp cp) (.slice bp mp dp) (Q := fun W => K _ W) ?_; intro x12 V' oth far; replace Vq := oth _ _ _ (by first | omega | assumption | (simp; omega)) Vq
                  replace hp := hp.far Vp (noInt3 _ _ _ _ _ _ _) far.1; replace hq := hq.far Vp (noInt3 _ _ _ _ _ _ _) far.1; replace BX := far.2 _ _ (by first | omega | (simp; omega)) BX; replace Vp := V'; clear oth far; refine hK.out _ _ (LS.out _ BX) (fun hHeld => ?_); clear hK K; have c_Vq := Vq.d0; have f0_Vq := Vq.frozen 0; have d_Vq := Vq.d1; have f1_Vq := Vq.frozen 1; have e_Vq := Vq.d2; have f2_Vq := Vq.frozen 2; have l_Vq := Vq.lt; have m_Vq := Nat.le_of_lt l_Vq; refine wpAnyH_ready (rs := [7]) (by kernel_rfl) (by simp) ?_; refine AllReadyH.cons rfl (fun K hK => ?_) AllReadyH.nil; simp only [gA, gB, gC]; (go_simp); clear c_Vq f0_Vq d_Vq f1_Vq e_Vq f2_Vq l_Vq m_Vq; refine sto3 Vq (.bool sq) (.slice aq lq cq) (.slice bq mq dq) (Q := fun W => K _ W) ?_; intro x13 V' oth far; replace Vp := oth _ _ _ (by first | omega | assumption | (simp; omega)) Vp; replace hp := hp.far Vq (noInt3 _ _ _ _ _ _ _) far.1; replace hq := hq.far Vq (noInt3 _ _ _ _ _ _ _) far.1
                  replace BX := far.2 _ _ (by first | omega | (simp; omega)) BX; replace Vq := V'; clear oth far; refine hK.out _ _ (LS.out _ BX) (fun hHeld => ?_); clear hK K; refine wpAnyH_done (by kernel_rfl) ?_ _; refine NoPanic.normal ?_; clear hHeld; (go_wp2_with fail)
                  go_meet
                  exact ⟨_, _, sp, ap, lp, cp, zp, bp, mp, dp, yp, sq, aq, lq, cq, zq, bq, mq, dq, yq, rfl, rfl, Vp, Vq, hp, hq, BX, ⟨by omega, by omega, by omega⟩⟩
            ·
              simp only [gA, gB, gC]; (go_simp); have lt_Vp_Vq := Vq.lt; have sz_Vp := BX.size; refine ent1 _ _ _ (Q := fun V => K _ V) ?_; intro x9 hb hs_ Vp; replace Vq := Va.after hb Vq; replace BX := step BX hb; clear hb hs_; refine hK.out _ _ (LS.out _ BX) (fun hHeld => ?_); clear hK K; refine wpAnyH_ready (rs := [1]) (by kernel_rfl) (by simp) ?_; refine AllReadyH.cons rfl (fun K hK => ?_) AllReadyH.nil
              ·
                simp only [gA, gB, gC]; (go_simp); refine (oflaw8 s1 a1 l1 c1 z1 b1 m1 d1 y1 v1 _ (Rr.after BX L_hq1.out) HL1).mono ?_; rintro e x10 ⟨sp, ap, lp, cp, zp, bp, mp, dp, yp, rfl, hp, hb⟩; replace Vq := Va.after hb Vq; replace Vp := Va.after hb Vp; replace BX := step BX hb; clear hb; (try go_wp2_with fail); refine hK.out _ _ (LS.out _ BX) (fun hHeld => ?_); clear hK K; refine wpAnyH_ready (rs := [3]) (by kernel_rfl) (by simp) ?_; refine AllReadyH.cons rfl (fun K hK => ?_) AllReadyH.nil
                ·
                  simp only [gA, gB, gC]; (go_simp); refine (oflaw8 s2 a2 l2 c2 z2 b2 m2 d2 y2 v2 _ (Rr.after BX L_hq2.out) HL2).mono ?_; rintro e x11 ⟨sq, aq, lq, cq, zq, bq, mq, dq, yq, rfl, hq, hb⟩; replace Vq := Va.after hb Vq; replace Vp := Va.after hb Vp; replace hp := Rt.after hb hp; replace BX := step BX hb; clear hb; (try go_wp2_with fail); refine hK.out _ _ (LS.out _ BX) (fun hHeld => ?_); clear hK K; have c_Vp := Vp.d0; have f0_Vp := Vp.frozen 0; have d_Vp := Vp.d1; have f1_Vp := Vp.frozen 1; have e_Vp := Vp.d2; have f2_Vp := Vp.frozen 2; have l_Vp := Vp.lt; have m_Vp := Nat.le_of_lt l_Vp; refine wpAnyH_ready (rs := [6]) (by kernel_rfl) (by simp) ?_; refine AllReadyH.cons rfl (fun K hK => ?_) AllReadyH.nil; simp only [gA, gB, gC]; (go_simp); clear c_Vp f0_Vp d_Vp f1_Vp e_Vp f2_Vp l_Vp m_Vp; refine sto3 Vp (.bool sp) (.slice ap lp cp) (.slice bp mp dp) (Q := fun W => K _ W) ?_; intro x12 V' oth far; replace Vq := oth _ _ _ (by first | omega | assumption | (simp; omega)) Vq
                  replace hp := hp.far Vp (noInt3 _ _ _ _ _ _ _) far.1; replace hq := hq.far Vp (noInt3 _ _ _ _ _ _ _) far.1; replace BX := far.2 _ _ (by first | omega | (simp; omega)) BX; replace Vp := V'; clear oth far; refine hK.out _ _ (LS.out _ BX) (fun hHeld => ?_); clear hK K; have c_Vq := Vq.d0; have f0_Vq := Vq.frozen 0; have d_Vq := Vq.d1; have f1_Vq := Vq.frozen 1; have e_Vq := Vq.d2; have f2_Vq := Vq.frozen 2; have l_Vq := Vq.lt; have m_Vq := Nat.le_of_lt l_Vq; refine wpAnyH_ready (rs := [7]) (by kernel_rfl) (by simp) ?_; refine AllReadyH.cons rfl (fun K hK => ?_) AllReadyH.nil; simp only [gA, gB, gC]; (go_simp); clear c_Vq f0_Vq d_Vq f1_Vq e_Vq f2_Vq l_Vq m_Vq; refine sto3 Vq (.bool sq) (.slice aq lq cq) (.slice bq mq dq) (Q := fun W => K _ W) ?_; intro x13 V' oth far; replace Vp := oth _ _ _ (by first | omega | assumption | (simp; omega)) Vp; replace hp := hp.far Vq (noInt3 _ _ _ _ _ _ _) far.1; replace hq := hq.far Vq (noInt3 _ _ _ _ _ _ _) far.1
                  replace BX := far.2 _ _ (by first | omega | (simp; omega)) BX; replace Vq := V'; clear oth far; refine hK.out _ _ (LS.out _ BX) (fun hHeld => ?_); clear hK K; refine wpAnyH_done (by kernel_rfl) ?_ _; refine NoPanic.normal ?_; clear hHeld; (go_wp2_with fail)
                  go_meet
                  exact ⟨_, _, sp, ap, lp, cp, zp, bp, mp, dp, yp, sq, aq, lq, cq, zq, bq, mq, dq, yq, rfl, rfl, Vp, Vq, hp, hq, BX, ⟨by omega, by omega, by omega⟩⟩
        case rest =>
          clear BX; obtain ⟨q13, q14, sp, ap, lp, cp, zp, bp, mp, dp, yp, sq, aq, lq, cq, zq, bq, mq, dq, yq, rfl, rfl, Vp', Vq', hp', hq', BX', hineq'⟩ := hcut; have Vp := Vp'.out; have Vq := Vq'.out; have hp := hp'.out; have hq := hq'.out; have BX := BX'.out; have hineq := hineq'.out; clear Vp' Vq' hp' hq' BX' hineq'; obtain ⟨iq0, iq1, iq2⟩ := hineq; have B0 := step L_B.out BX; have c_Vp := Vp.d0; have f0_Vp := Vp.frozen 0; have d_Vp := Vp.d1; have f1_Vp := Vp.frozen 1; have e_Vp := Vp.d2; have f2_Vp := Vp.frozen 2; have l_Vp := Vp.lt; have m_Vp := Nat.le_of_lt l_Vp; have c_Vq := Vq.d0; have f0_Vq := Vq.frozen 0; have d_Vq := Vq.d1; have f1_Vq := Vq.frozen 1; have e_Vq := Vq.d2; have f2_Vq := Vq.frozen 2; have l_Vq := Vq.lt; have m_Vq := Nat.le_of_lt l_Vq; (go_wp2_with fail); refine (qcompare_any sp ap lp cp zp bp mp dp yp v1 sq aq lq cq zq bq mq dq yq v2 wc hp hq).mono ?_; rintro e x7 ⟨rfl, hb⟩; replace Vp := Va.after hb Vp; replace Vq := Va.after hb Vq; replace hp := Rt.after hb hp
          replace hq := Rt.after hb hq; replace B0 := step B0 hb; clear hb; (obtain ⟨cc, hcc⟩ : ∃ cc, qcmp v1 v2 = cc := ⟨_, rfl⟩); have HCC : Hid (qcmp v1 v2 = cc) := hcc; rw [hcc]; clear hcc
          go_upto_if 78 with fail
          go_cut [13, 14] (fun s13 s14 wx => ∃ (e13 : Nat) (e14 : Nat) (sg : Bool) (ag : Option Addr) (lg cg : Nat) (zg : List Int) (bg : Option Addr) (mg dg : Nat) (yg : List Int) (sk : Bool) (ak : Option Addr) (lk ck : Nat) (zk : List Int) (bk : Option Addr) (mk dk : Nat) (yk : List Int) (u v : Rat), s13 = .pointer (some ⟨e13, 0, none⟩) ∧ s14 = .pointer (some ⟨e14, 0, none⟩) ∧ Hid (Va wx e13 36 #[.bool sg, .slice ag lg cg, .slice bg mg dg]) ∧ Hid (Va wx e14 36 #[.bool sk, .slice ak lk ck, .slice bk mk dk]) ∧ Hid (Rt wx sg ag lg cg zg bg mg dg yg u) ∧ Hid (Rt wx sk ak lk ck zk bk mk dk yk v) ∧ Hid (Le8 u v) ∧ Hid (Below w.heap.size w wx) ∧ Hid (e13 ≠ e14))
          case first =>
            by_cases hc : 0 < cc
            ·
              have g1 : decide (0 < cc) = true := decide_eq_true hc; have hle : Le8 v2 v1 := qcmp_ge (by rw [HCC.out]; exact hc); clear c_Vp f0_Vp d_Vp f1_Vp e_Vp f2_Vp l_Vp m_Vp c_Vq f0_Vq d_Vq f1_Vq e_Vq f2_Vq l_Vq m_Vq; have c_Vp := Vp.d0; have f0_Vp := Vp.frozen 0; have d_Vp := Vp.d1; have f1_Vp := Vp.frozen 1; have e_Vp := Vp.d2; have f2_Vp := Vp.frozen 2; have l_Vp := Vp.lt; have m_Vp := Nat.le_of_lt l_Vp; have c_Vq := Vq.d0; have f0_Vq := Vq.frozen 0; have d_Vq := Vq.d1; have f1_Vq := Vq.frozen 1; have e_Vq := Vq.d2; have f2_Vq := Vq.frozen 2; have l_Vq := Vq.lt; have m_Vq := Nat.le_of_lt l_Vq; have U1 := Vp.set3 (.bool sq) (.slice aq lq cq) (.slice bq mq dq); have U2 := Vq.stay (fa3 x7 q13 (.bool sq) (.slice aq lq cq) (.slice bq mq dq)) (by omega); have ux0 := U2.d0; have ux1 := U2.d1; have ux2 := U2.d2; have uf0 := U2.frozen 0; have uf1 := U2.frozen 1; have uf2 := U2.frozen 2; (go_wp2_with fail)
              go_meet
              exact ⟨q13, q14, sq, aq, lq, cq, zq, bq, mq, dq, yq, sp, ap, lp, cp, zp, bp, mp, dp, yp, v2, v1, rfl, rfl, U1.stay (fa3 _ q14 (.bool sp) (.slice ap lp cp) (.slice bp mp dp)) (by omega), U2.set3 (.bool sp) (.slice ap lp cp) (.slice bp mp dp), (hq.far Vp (noInt3 _ _ _ _ _ _ _) (fa3 _ _ _ _ _)).far U2 (noInt3 _ _ _ _ _ _ _) (fa3 _ _ _ _ _), (hp.far Vp (noInt3 _ _ _ _ _ _ _) (fa3 _ _ _ _ _)).far U2 (noInt3 _ _ _ _ _ _ _) (fa3 _ _ _ _ _), hle, belo3 (belo3 B0 (by omega) _ _ _) (by omega) _ _ _, by show _ ≠ _; omega⟩
            ·
              have g1 : decide (0 < cc) = false := decide_eq_false hc; have hle : Le8 v1 v2 := qcmp_le (by rw [HCC.out]; exact hc); (go_wp2_with fail)
              go_meet
              exact ⟨q13, q14, sp, ap, lp, cp, zp, bp, mp, dp, yp, sq, aq, lq, cq, zq, bq, mq, dq, yq, v1, v2, rfl, rfl, Vp, Vq, hp, hq, hle, B0, by show _ ≠ _; omega⟩
          case rest =>
            clear c_Vp f0_Vp d_Vp f1_Vp e_Vp f2_Vp l_Vp m_Vp c_Vq f0_Vq d_Vq f1_Vq e_Vq f2_Vq l_Vq m_Vq; clear Vp Vq hp hq B0; obtain ⟨e13, e14, sg, ag, lg, cg, zg, bg, mg, dg, yg, sk, ak, lk, ck, zk, bk, mk, dk, yk, u, v, rfl, rfl, Vp', Vq', hg', hk', HLE', B0', hineq'⟩ := hcut; have Vp := Vp'.out; have Vq := Vq'.out; have hg := hg'.out; have hk := hk'.out; have HLE := HLE'.out; have B0 := B0'.out; have hineq := hineq'.out; clear Vp' Vq' hg' hk' HLE' B0' hineq'; have iq3 := hineq; clear hineq; obtain ⟨k, p, hP⟩ := Pv.has u; obtain ⟨i, q, hQ⟩ := Pv.has v; have HP : Hid (Pv u k p) := hP; have HQ : Hid (Pv v i q) := hQ; have HPN : Hid (Pv (-u) k p) := pv_neg hP; have m1 := nr_mono hP hQ HLE; have m2 := fl_mono hP hQ HLE; have m3 := ce_mono hP hQ HLE; have N1 := (@nrw_fz u k p hP.lt).2; have N2 := (@nrw_fz v i q hQ.lt).2; have F1 := (@flw_fz u k p hP.lt).2; have F2 := (@flw_fz v i q hQ.lt).2; have C1 := (@cew_fz u k p hP.lt).2; have C2 := (@cew_fz v i q hQ.lt).2
            have L1 := fle N1 N2 m1; have L2 := fle F1 F2 m2; have L3 := fle C1 C2 m3; have hneg := nr_neg hP; (obtain ⟨A1, hA1⟩ : ∃ z, nrw u k p = z := ⟨_, rfl⟩); (obtain ⟨A2, hA2⟩ : ∃ z, nrw v i q = z := ⟨_, rfl⟩); (obtain ⟨B1, hB1⟩ : ∃ z, flw u k p = z := ⟨_, rfl⟩); (obtain ⟨B2, hB2⟩ : ∃ z, flw v i q = z := ⟨_, rfl⟩); (obtain ⟨D1, hD1⟩ : ∃ z, cew u k p = z := ⟨_, rfl⟩); (obtain ⟨D2, hD2⟩ : ∃ z, cew v i q = z := ⟨_, rfl⟩); (obtain ⟨E1, hE1⟩ : ∃ z, nrw (-u) k p = z := ⟨_, rfl⟩); have E1F := (@nrw_fz (-u) k p hP.lt).2; rw [hA1] at L1 hneg; rw [hA2] at L1; rw [hB1, hB2] at L2; rw [hD1, hD2] at L3; rw [hE1] at hneg E1F; have HW : Hid (nrw u k p = A1 ∧ nrw v i q = A2 ∧ flw u k p = B1 ∧ flw v i q = B2 ∧ cew u k p = D1 ∧ cew v i q = D2 ∧ nrw (-u) k p = E1) := ⟨hA1, hA2, hB1, hB2, hD1, hD2, hE1⟩; have HL1 : Hid (FloatKind.f64.format.order A1 A2 = some .lt ∨ FloatKind.f64.format.order A1 A2 = some .eq) := L1; have HL2 : Hid (FloatKind.f64.format.order B1 B2 = some .lt ∨ FloatKind.f64.format.order B1 B2 = some .eq) := L2
            have HL3 : Hid (FloatKind.f64.format.order D1 D2 = some .lt ∨ FloatKind.f64.format.order D1 D2 = some .eq) := L3; have HNG : Hid ((u.num ≠ 0 → E1 = Op.negFloat .f64 A1) ∧ (u.num = 0 → E1 = 0 ∧ Op.negFloat .f64 A1 = 9223372036854775808)) := hneg; have HEF : Hid (Fr E1) := E1F; clear m1 m2 m3 N1 N2 F1 F2 C1 C2 L1 L2 L3 hneg hA1 hA2 hB1 hB2 hD1 hD2 hE1 hP hQ E1F HLE; (go_wp2_with fail); refine wp_region_noPanic ?_; replace Vp : Va wc.drew _ _ _ := Vp; replace Vq : Va wc.drew _ _ _ := Vq; replace hg := hg.drw; replace hk := hk.drw; replace B0 := Below.drew B0; refine wp_region_held_drew (S := (fun W => W.cell? ⟨e13, 0, none⟩ = some (.bool sg) ∧ W.cell? ⟨e13, 1, none⟩ = some (.slice ag lg cg) ∧ W.cell? ⟨e13, 2, none⟩ = some (.slice bg mg dg) ∧ W.cell? ⟨e14, 0, none⟩ = some (.bool sk) ∧ W.cell? ⟨e14, 1, none⟩ = some (.slice ak lk ck) ∧ W.cell? ⟨e14, 2, none⟩ = some (.slice bk mk dk))) (by kernel_rfl) ⟨Vp.d0, Vp.d1, Vp.d2, Vq.d0, Vq.d1, Vq.d2⟩ (fun hHeld => ?_)
            (obtain ⟨x8, hxd⟩ : ∃ xd, xd = wc.drew := ⟨_, rfl⟩); rw [← hxd] at Vp Vq hg hk B0 hHeld ⊢; clear hxd; refine tk 0 rfl hHeld ?_; simp only [gA, gB, Act.put, gD, gE, gF]; refine tk 2 rfl hHeld ?_; simp only [gA, gB, gC, Act.put, gD, gE, gF]; refine wpAnyH_ready (rs := [1]) (by kernel_rfl) (by simp) ?_; refine AllReadyH.cons rfl (fun K hK => ?_) AllReadyH.nil; simp only [gA, gB, gC]; (go_simp); refine (nearest8 sg ag lg cg zg bg mg dg yg u k p HP _ hg).mono ?_; rintro e x9 ⟨rfl, hb⟩; replace Vp := Va.after hb Vp; replace Vq := Va.after hb Vq; replace hg := Rt.after hb hg; replace hk := Rt.after hb hk; replace B0 := step B0 hb; clear hb; rw [HW.out.1]; (try go_wp2_with fail); refine hK.out _ _ ⟨Vp.d0, Vp.d1, Vp.d2, Vq.d0, Vq.d1, Vq.d2⟩ (fun hHeld => ?_); clear hK K; refine wpAnyH_ready (rs := [3]) (by kernel_rfl) (by simp) ?_; refine AllReadyH.cons rfl (fun K hK => ?_) AllReadyH.nil; simp only [gA, gB, gC]; (go_simp); refine (nearest8 sk ak lk ck zk bk mk dk yk v i q HQ _ hk).mono ?_
            rintro e x10 ⟨rfl, hb⟩; replace Vp := Va.after hb Vp; replace Vq := Va.after hb Vq; replace hg := Rt.after hb hg; replace hk := Rt.after hb hk; replace B0 := step B0 hb; clear hb; rw [HW.out.2.1]; (try go_wp2_with fail); refine hK.out _ _ ⟨Vp.d0, Vp.d1, Vp.d2, Vq.d0, Vq.d1, Vq.d2⟩ (fun hHeld => ?_); clear hK K; refine wpAnyH_take (i := 4) (v := .bool true) rfl (by kernel_rfl) (by kernel_rfl) (by kernel_rfl) (fun _ _ _ h => h) (Or.inl ⟨by rfl, ?_⟩) hHeld ?_
            · (intro W hSw; (try dsimp only at hSw); go_simp; first | rfl | exact HL1.out | (rcases HL1.out with g | g <;> rw [g] <;> rfl) | (rcases HL1.out with g | g <;> simp [g]) | skip)
            simp only [gA, gB, gC, Act.put, gD, gE, gF]; refine tk 5 rfl hHeld ?_; simp only [gA, gB, gC, Act.put, gD, gE, gF]; refine tk 6 rfl hHeld ?_; simp only [gA, gB, gC, Act.put, gD, gE, gF]; refine tk 8 rfl hHeld ?_; simp only [gA, gB, gC, Act.put, gD, gE, gF]; refine wpAnyH_ready (rs := [7]) (by kernel_rfl) (by simp) ?_; refine AllReadyH.cons rfl (fun K hK => ?_) AllReadyH.nil; simp only [gA, gB, gC]; (go_simp); refine (floor8 sg ag lg cg zg bg mg dg yg u k p HP _ hg).mono ?_; rintro e x11 ⟨rfl, hb⟩; replace Vp := Va.after hb Vp; replace Vq := Va.after hb Vq; replace hg := Rt.after hb hg; replace hk := Rt.after hb hk; replace B0 := step B0 hb; clear hb; rw [HW.out.2.2.1]; (try go_wp2_with fail); refine hK.out _ _ ⟨Vp.d0, Vp.d1, Vp.d2, Vq.d0, Vq.d1, Vq.d2⟩ (fun hHeld => ?_); clear hK K; refine wpAnyH_ready (rs := [9]) (by kernel_rfl) (by simp) ?_; refine AllReadyH.cons rfl (fun K hK => ?_) AllReadyH.nil; simp only [gA, gB, gC]; (go_simp); refine (floor8 sk ak lk ck zk bk mk dk yk v i q HQ _ hk).mono ?_
            rintro e x12 ⟨rfl, hb⟩; replace Vp := Va.after hb Vp; replace Vq := Va.after hb Vq; replace hg := Rt.after hb hg; replace hk := Rt.after hb hk; replace B0 := step B0 hb; clear hb; rw [HW.out.2.2.2.1]; (try go_wp2_with fail); refine hK.out _ _ ⟨Vp.d0, Vp.d1, Vp.d2, Vq.d0, Vq.d1, Vq.d2⟩ (fun hHeld => ?_); clear hK K; refine wpAnyH_take (i := 10) (v := .bool true) rfl (by kernel_rfl) (by kernel_rfl) (by kernel_rfl) (fun _ _ _ h => h) (Or.inl ⟨by rfl, ?_⟩) hHeld ?_
            · (intro W hSw; (try dsimp only at hSw); go_simp; first | rfl | exact HL2.out | (rcases HL2.out with g | g <;> rw [g] <;> rfl) | (rcases HL2.out with g | g <;> simp [g]) | skip)
            simp only [gA, gB, gC, Act.put, gD, gE, gF]; refine tk 11 rfl hHeld ?_; simp only [gA, gB, gC, Act.put, gD, gE, gF]; refine tk 12 rfl hHeld ?_; simp only [gA, gB, gC, Act.put, gD, gE, gF]; refine tk 13 rfl hHeld ?_; simp only [gA, gB, gC, Act.put, gD, gE, gF]; refine tk 15 rfl hHeld ?_; simp only [gA, gB, gC, Act.put, gD, gE, gF]; refine wpAnyH_ready (rs := [14]) (by kernel_rfl) (by simp) ?_; refine AllReadyH.cons rfl (fun K hK => ?_) AllReadyH.nil; simp only [gA, gB, gC]; (go_simp); refine (ceil8 sg ag lg cg zg bg mg dg yg u k p HP _ hg).mono ?_; rintro e x13 ⟨rfl, hb⟩; replace Vp := Va.after hb Vp; replace Vq := Va.after hb Vq; replace hg := Rt.after hb hg; replace hk := Rt.after hb hk; replace B0 := step B0 hb; clear hb; rw [HW.out.2.2.2.2.1]; (try go_wp2_with fail); refine hK.out _ _ ⟨Vp.d0, Vp.d1, Vp.d2, Vq.d0, Vq.d1, Vq.d2⟩ (fun hHeld => ?_); clear hK K; refine wpAnyH_ready (rs := [16]) (by kernel_rfl) (by simp) ?_; refine AllReadyH.cons rfl (fun K hK => ?_) AllReadyH.nil
            simp only [gA, gB, gC]; (go_simp); refine (ceil8 sk ak lk ck zk bk mk dk yk v i q HQ _ hk).mono ?_; rintro e x14 ⟨rfl, hb⟩; replace Vp := Va.after hb Vp; replace Vq := Va.after hb Vq; replace hg := Rt.after hb hg; replace hk := Rt.after hb hk; replace B0 := step B0 hb; clear hb; rw [HW.out.2.2.2.2.2.1]; (try go_wp2_with fail); refine hK.out _ _ ⟨Vp.d0, Vp.d1, Vp.d2, Vq.d0, Vq.d1, Vq.d2⟩ (fun hHeld => ?_); clear hK K; refine wpAnyH_take (i := 17) (v := .bool true) rfl (by kernel_rfl) (by kernel_rfl) (by kernel_rfl) (fun _ _ _ h => h) (Or.inl ⟨by rfl, ?_⟩) hHeld ?_
            · (intro W hSw; (try dsimp only at hSw); go_simp; first | rfl | exact HL3.out | (rcases HL3.out with g | g <;> rw [g] <;> rfl) | (rcases HL3.out with g | g <;> simp [g]) | skip)
            simp only [gA, gB, gC, Act.put, gD, gE, gF]; refine tk 18 rfl hHeld ?_; simp only [gA, gB, gC, Act.put, gD, gE, gF]; refine tk 19 rfl hHeld ?_; simp only [gA, gB, gC, Act.put, gD, gE, gF]; refine tk 20 rfl hHeld ?_; simp only [gA, gB, gC, Act.put, gD, gE, gF]; refine tk 23 rfl hHeld ?_; simp only [gA, gB, gC, Act.put, gD, gE, gF]; refine tk 27 rfl hHeld ?_; simp only [gA, gB, gC, Act.put, gD, gE, gF]; refine wpAnyH_ready (rs := [21]) (by kernel_rfl) (by simp) ?_; refine AllReadyH.cons rfl (fun K hK => ?_) AllReadyH.nil; simp only [gA, gB, gC]; (go_simp); refine (qneg_any sg ag lg cg zg bg mg dg yg u _ hg).mono ?_; rintro e x15 ⟨s6, rfl, h6, hb⟩; replace Vp := Va.after hb Vp; replace Vq := Va.after hb Vq; replace hg := Rt.after hb hg; replace hk := Rt.after hb hk; replace B0 := step B0 hb; clear hb; (try go_wp2_with fail); refine hK.out _ _ ⟨Vp.d0, Vp.d1, Vp.d2, Vq.d0, Vq.d1, Vq.d2⟩ (fun hHeld => ?_); clear hK K; refine wpAnyH_ready (rs := [22]) (by kernel_rfl) (by simp) ?_
            refine AllReadyH.cons rfl (fun K hK => ?_) AllReadyH.nil; simp only [gA, gB, gC]; (go_simp); refine (nearest8 s6 ag lg cg zg bg mg dg yg (-u) k p HPN _ h6).mono ?_; rintro e x16 ⟨rfl, hb⟩; replace Vp := Va.after hb Vp; replace Vq := Va.after hb Vq; replace hg := Rt.after hb hg; replace hk := Rt.after hb hk; replace h6 := Rt.after hb h6; replace B0 := step B0 hb; clear hb; rw [HW.out.2.2.2.2.2.2]; (try go_wp2_with fail); refine hK.out _ _ ⟨Vp.d0, Vp.d1, Vp.d2, Vq.d0, Vq.d1, Vq.d2⟩ (fun hHeld => ?_); clear hK K; refine wpAnyH_ready (rs := [24]) (by kernel_rfl) (by simp) ?_; refine AllReadyH.cons rfl (fun K hK => ?_) AllReadyH.nil; simp only [gA, gB, gC]; (go_simp); refine (nearest8 sg ag lg cg zg bg mg dg yg u k p HP _ hg).mono ?_; rintro e x17 ⟨rfl, hb⟩; replace Vp := Va.after hb Vp; replace Vq := Va.after hb Vq; replace hg := Rt.after hb hg; replace hk := Rt.after hb hk; replace h6 := Rt.after hb h6; replace B0 := step B0 hb; clear hb; rw [HW.out.1]
            (try go_wp2_with fail); refine hK.out _ _ ⟨Vp.d0, Vp.d1, Vp.d2, Vq.d0, Vq.d1, Vq.d2⟩ (fun hHeld => ?_); clear hK K; refine wpAnyH_take (i := 25) (v := .float .f64 (Op.negFloat .f64 A1)) rfl (by kernel_rfl) (by kernel_rfl) (by kernel_rfl) (fun _ _ _ h => h) (Or.inl ⟨by rfl, ?_⟩) hHeld ?_
            · (intro W hSw; (try dsimp only at hSw); go_simp; first | rfl | (simp [Op.unary]; done) | skip)
            simp only [gA, gB, gC, Act.put, gD, gE, gF]
            by_cases hz : u.num = 0
            ·
              have HZ : Hid (E1 = 0 ∧ Op.negFloat .f64 A1 = 9223372036854775808) := HNG.out.2 hz; (have HS : Hid (Int.sign u.num = 0) := by show _ = _; rw [hz]; rfl); clear hz; refine wpAnyH_ready (rs := [26]) (by kernel_rfl) (by simp) ?_; refine AllReadyH.cons rfl (fun K hK => ?_) AllReadyH.nil; simp only [gA, gB, gC]; (go_simp); rw [HZ.out.1, HZ.out.2]; refine (one_not 0 9223372036854775808 (by decide) ⟨by decide, by decide⟩ _).mono ?_; rintro e x18 ⟨rfl, hw⟩; rw [hw]; clear hw; (try go_wp2_with fail); refine hK.out _ _ ⟨Vp.d0, Vp.d1, Vp.d2, Vq.d0, Vq.d1, Vq.d2⟩ (fun hHeld => ?_); clear hK K; refine wpAnyH_ready (rs := [28]) (by kernel_rfl) (by simp) ?_; refine AllReadyH.cons rfl (fun K hK => ?_) AllReadyH.nil; simp only [gA, gB, gC]; (go_simp); refine (qsign_any sg ag lg cg zg bg mg dg yg u _ hg).mono ?_; rintro e x19 ⟨rfl, hb⟩; replace Vp := Va.after hb Vp; replace Vq := Va.after hb Vq; replace hg := Rt.after hb hg; replace hk := Rt.after hb hk
              replace h6 := Rt.after hb h6; replace B0 := step B0 hb; clear hb; rw [HS.out]; (try go_wp2_with fail); refine hK.out _ _ ⟨Vp.d0, Vp.d1, Vp.d2, Vq.d0, Vq.d1, Vq.d2⟩ (fun hHeld => ?_); clear hK K; refine tk 29 rfl hHeld ?_; simp only [gA, gB, gC, Act.put, gD, gE, gF]; refine tk 30 rfl hHeld ?_; simp only [gA, gB, gC, Act.put, gD, gE, gF]; refine tk 31 rfl hHeld ?_; simp only [gA, gB, gC, Act.put, gD, gE, gF]; refine tk 32 rfl hHeld ?_; simp only [gA, gB, gC, Act.put, gD, gE, gF]; refine wpAnyH_done (by kernel_rfl) ?_ _; refine NoPanic.normal ?_; clear hHeld; (go_wp2_with fail)
              go_ret
              exact ⟨rfl, B0⟩
            ·
              have HZ : Hid (E1 = Op.negFloat .f64 A1) := HNG.out.1 hz
              have HS : Hid (decide (Int.sign u.num ≠ 0) = true ∧ (Int.sign u.num != 0) = true ∧ ¬ Int.sign u.num = 0 ∧ ¬ u = 0) := by
                (have h5 : Int.sign u.num ≠ 0 := fun e => hz (Int.sign_eq_zero_iff_zero.1 e)); exact ⟨decide_eq_true h5, by rw [bne_iff_ne]; exact h5, h5, fun e => hz (by rw [e]; rfl)⟩
              clear hz; refine wpAnyH_ready (rs := [26]) (by kernel_rfl) (by simp) ?_; refine AllReadyH.cons rfl (fun K hK => ?_) AllReadyH.nil; simp only [gA, gB, gC]; (go_simp); rw [← HZ.out]; refine (one_same E1 _).mono ?_; rintro e x18 ⟨rfl, hw⟩; rw [hw]; clear hw; (try go_wp2_with fail); refine hK.out _ _ ⟨Vp.d0, Vp.d1, Vp.d2, Vq.d0, Vq.d1, Vq.d2⟩ (fun hHeld => ?_); clear hK K; refine wpAnyH_ready (rs := [28]) (by kernel_rfl) (by simp) ?_; refine AllReadyH.cons rfl (fun K hK => ?_) AllReadyH.nil; simp only [gA, gB, gC]; (go_simp); refine (qsign_any sg ag lg cg zg bg mg dg yg u _ hg).mono ?_; rintro e x19 ⟨rfl, hb⟩; replace Vp := Va.after hb Vp; replace Vq := Va.after hb Vq; replace hg := Rt.after hb hg; replace hk := Rt.after hb hk; replace h6 := Rt.after hb h6; replace B0 := step B0 hb; clear hb; (try go_wp2_with fail); refine hK.out _ _ ⟨Vp.d0, Vp.d1, Vp.d2, Vq.d0, Vq.d1, Vq.d2⟩ (fun hHeld => ?_); clear hK K; refine wpAnyH_take (i := 29) (v := .bool true) rfl (by kernel_rfl) (by kernel_rfl) (by kernel_rfl) (fun _ _ _ h => h) (Or.inl ⟨by rfl, ?_⟩) hHeld ?_
              · (intro W hSw; (try dsimp only at hSw); go_simp; first | rfl | exact HS.out.1 | exact HS.out.2.1 | exact HS.out.2.2.1 | exact HS.out.2.2.2 | (rw [HS.out.2.1]) | skip)
              simp only [gA, gB, gC, Act.put, gD, gE, gF]; refine tk 30 rfl hHeld ?_; simp only [gA, gB, gC, Act.put, gD, gE, gF]; refine tk 31 rfl hHeld ?_; simp only [gA, gB, gC, Act.put, gD, gE, gF]; refine tk 32 rfl hHeld ?_; simp only [gA, gB, gC, Act.put, gD, gE, gF]; refine wpAnyH_done (by kernel_rfl) ?_ _; refine NoPanic.normal ?_; clear hHeld; (go_wp2_with fail)
              go_ret
              exact ⟨rfl, B0⟩
end Go.Proofs.YtogabmggdcefaabGreat
namespace Go.Proofs.YtogabmggdcefaabGreat.realsOrder
open Go.ChangeShapes Go.WideShapes Go.ChangeAt Go.RowKit
set_option linter.unusedVariables false

theorem own : ownKnob Tryz.prog.godebug = none := by kernel_rfl
theorem laidOut : laidOutB Tryz.prog = true := by kernel_rfl
theorem bytes8 : Tryz.prog.bytesOf 22 = 8 := by kernel_rfl

set_option maxRecDepth 100000 in
theorem contract (H : Type) (enc : TypeId × Value → H) (W : World) (base : Nat) (args : Array Value) (ds gs : List (DataW H)) (before : List MemPlace)
    (hval : ∀ (j : Nat) t v, Tryz.f4.params[j]? = some t → args[j]? = some v → Value.okWide Tryz.prog W .any base t v)
    (hW : DataW.Whole enc Tryz.prog Tryz.f4.params.toList Rows.realsOrderSpec.vars false W args.toList ds gs before) (hsz : (DataW.weightsEach Tryz.prog (Tryz.f4.params.toList ++ Rows.realsOrderSpec.plain.varTypes Tryz.prog) (ds ++ gs)).all (· ≤ reachBytes) = true) :
    Calls Tryz.prog 4 args W fun e W' => ∃ v, e = .returned v ∧ Rows.realsOrderSpec.post enc Tryz.prog Tryz.f4 false true false false W args v W' := by
  have hW' := hW
  obtain ⟨p, q, hA0, hV, rfl, hfz, hnd⟩ := hW
  have hA : DataW.TrodAll enc Tryz.prog W 0 (fun _ => true) true Tryz.f4.params.toList args.toList ds p := hA0
  rw [Tryz.params4] at hA hval hsz
  obtain ⟨v0, vs0, d0, ds0, p0, q0, hargs, rfl, rfl, h0, r0⟩ := trodAll_cons hA
  obtain ⟨v1, vs1, d1, ds1, p1, q1, rfl, rfl, rfl, h1, r1⟩ := trodAll_cons r0
  obtain ⟨v2, vs2, d2, ds2, p2, q2, rfl, rfl, rfl, h2, r2⟩ := trodAll_cons r1
  obtain ⟨rfl, rfl, rfl⟩ := trodAll_nil r2
  obtain rfl : args = #[v0, v1, v2] := by cases args; simp_all
  obtain ⟨rfl, rfl⟩ := trodVars_none hV
  have k0 := h0
  have lt0 : ∀ x ∈ p0, x.block < W.heap.size := by obtain ⟨m, hm⟩ := k0; exact DataW.trod_lt m _ _ _ hm
  obtain ⟨u0, x0, y00, y01, m0, rfl, rfl, rfl, hy00, hy01⟩ := Go.Joins.open_agg2 Tryz.underlying50 (by kernel_rfl) (by kernel_rfl) (hval 0 50 v0 rfl rfl) h0
  obtain ⟨a0, ha0, hd0, wa0⟩ := DataW.trod_int Tryz.underlying22 hy00
  obtain ⟨q0, hq0, he0, wq0⟩ := DataW.trod_int Tryz.underlying22 hy01
  obtain rfl : u0 = .int .u64 a0 := by simpa using ha0
  obtain rfl : x0 = .int .u64 q0 := by simpa using hq0
  have k1 := h1
  have lt1 : ∀ x ∈ p1, x.block < W.heap.size := by obtain ⟨m, hm⟩ := k1; exact DataW.trod_lt m _ _ _ hm
  obtain ⟨u1, x1, t1, y10, y11, y12, m1, rfl, rfl, rfl, hy10, hy11, hy12⟩ := Go.Joins.open_agg3 Tryz.underlying42 (by kernel_rfl) (by kernel_rfl) (hval 1 42 v1 rfl rfl) h1
  obtain ⟨n1, hn1, -⟩ := DataW.trod_bool Tryz.underlying4 hy10
  obtain rfl : u1 = .bool n1 := by simpa using hn1
  obtain ⟨a1, len1, cap1, z1, hv1, s1, c1, e1⟩ : ∃ a len cap zs, x1 = .slice a len cap ∧ Sl W a len zs ∧ len ≤ cap ∧ (a = Option.none → len = 0 ∧ cap = 0) := by
    rcases open_ints Tryz.underlying30 Tryz.underlying22 (by kernel_rfl) hy11 with ⟨hcs, _⟩ | ⟨x, l, c, zs, hcs, _, hl, hm, hz, hx, hcell, hwz⟩
    · exact ⟨Option.none, 0, 0, [], by simpa using hcs, ⟨rfl, Limbs.nil, fun h => absurd h (by decide)⟩, Nat.le_refl _, fun _ => ⟨rfl, rfl⟩⟩
    · have hz' : zs.length = c := by simpa using hz
      refine ⟨some x, l, c, zs.take l, by simpa using hcs, ⟨by rw [List.length_take]; omega, fun z hz2 => word_of_wf (hwz z (List.mem_of_mem_take hz2)), fun h => ?_⟩, hl, fun h => by cases h⟩
      obtain ⟨bb, off, rfl, hc⟩ := ints_at hcell (by omega)
      refine ⟨bb, off, rfl, fun j hj => ?_⟩
      rw [hc j (by omega), List.getD_eq_getElem?_getD, List.getD_eq_getElem?_getD, List.getElem?_take_of_lt hj]
  subst hv1
  obtain ⟨ab1, lenb1, capb1, zb1, hvb1, sb1, cb1, eb1⟩ : ∃ a len cap zs, t1 = .slice a len cap ∧ Sl W a len zs ∧ len ≤ cap ∧ (a = Option.none → len = 0 ∧ cap = 0) := by
    rcases open_ints Tryz.underlying30 Tryz.underlying22 (by kernel_rfl) hy12 with ⟨hcs, _⟩ | ⟨x, l, c, zs, hcs, _, hl, hm, hz, hx, hcell, hwz⟩
    · exact ⟨Option.none, 0, 0, [], by simpa using hcs, ⟨rfl, Limbs.nil, fun h => absurd h (by decide)⟩, Nat.le_refl _, fun _ => ⟨rfl, rfl⟩⟩
    · have hz' : zs.length = c := by simpa using hz
      refine ⟨some x, l, c, zs.take l, by simpa using hcs, ⟨by rw [List.length_take]; omega, fun z hz2 => word_of_wf (hwz z (List.mem_of_mem_take hz2)), fun h => ?_⟩, hl, fun h => by cases h⟩
      obtain ⟨bb, off, rfl, hc⟩ := ints_at hcell (by omega)
      refine ⟨bb, off, rfl, fun j hj => ?_⟩
      rw [hc j (by omega), List.getD_eq_getElem?_getD, List.getD_eq_getElem?_getD, List.getElem?_take_of_lt hj]
  subst hvb1
  clear hn1
  have k2 := h2
  have lt2 : ∀ x ∈ p2, x.block < W.heap.size := by obtain ⟨m, hm⟩ := k2; exact DataW.trod_lt m _ _ _ hm
  obtain ⟨u2, x2, t2, y20, y21, y22, m2, rfl, rfl, rfl, hy20, hy21, hy22⟩ := Go.Joins.open_agg3 Tryz.underlying42 (by kernel_rfl) (by kernel_rfl) (hval 2 42 v2 rfl rfl) h2
  obtain ⟨n2, hn2, -⟩ := DataW.trod_bool Tryz.underlying4 hy20
  obtain rfl : u2 = .bool n2 := by simpa using hn2
  obtain ⟨a2, len2, cap2, z2, hv2, s2, c2, e2⟩ : ∃ a len cap zs, x2 = .slice a len cap ∧ Sl W a len zs ∧ len ≤ cap ∧ (a = Option.none → len = 0 ∧ cap = 0) := by
    rcases open_ints Tryz.underlying30 Tryz.underlying22 (by kernel_rfl) hy21 with ⟨hcs, _⟩ | ⟨x, l, c, zs, hcs, _, hl, hm, hz, hx, hcell, hwz⟩
    · exact ⟨Option.none, 0, 0, [], by simpa using hcs, ⟨rfl, Limbs.nil, fun h => absurd h (by decide)⟩, Nat.le_refl _, fun _ => ⟨rfl, rfl⟩⟩
    · have hz' : zs.length = c := by simpa using hz
      refine ⟨some x, l, c, zs.take l, by simpa using hcs, ⟨by rw [List.length_take]; omega, fun z hz2 => word_of_wf (hwz z (List.mem_of_mem_take hz2)), fun h => ?_⟩, hl, fun h => by cases h⟩
      obtain ⟨bb, off, rfl, hc⟩ := ints_at hcell (by omega)
      refine ⟨bb, off, rfl, fun j hj => ?_⟩
      rw [hc j (by omega), List.getD_eq_getElem?_getD, List.getD_eq_getElem?_getD, List.getElem?_take_of_lt hj]
  subst hv2
  obtain ⟨ab2, lenb2, capb2, zb2, hvb2, sb2, cb2, eb2⟩ : ∃ a len cap zs, t2 = .slice a len cap ∧ Sl W a len zs ∧ len ≤ cap ∧ (a = Option.none → len = 0 ∧ cap = 0) := by
    rcases open_ints Tryz.underlying30 Tryz.underlying22 (by kernel_rfl) hy22 with ⟨hcs, _⟩ | ⟨x, l, c, zs, hcs, _, hl, hm, hz, hx, hcell, hwz⟩
    · exact ⟨Option.none, 0, 0, [], by simpa using hcs, ⟨rfl, Limbs.nil, fun h => absurd h (by decide)⟩, Nat.le_refl _, fun _ => ⟨rfl, rfl⟩⟩
    · have hz' : zs.length = c := by simpa using hz
      refine ⟨some x, l, c, zs.take l, by simpa using hcs, ⟨by rw [List.length_take]; omega, fun z hz2 => word_of_wf (hwz z (List.mem_of_mem_take hz2)), fun h => ?_⟩, hl, fun h => by cases h⟩
      obtain ⟨bb, off, rfl, hc⟩ := ints_at hcell (by omega)
      refine ⟨bb, off, rfl, fun j hj => ?_⟩
      rw [hc j (by omega), List.getD_eq_getElem?_getD, List.getD_eq_getElem?_getD, List.getElem?_take_of_lt hj]
  subst hvb2
  clear hn2
  clear hA0
  refine (order8_walk a0 q0 n1 a1 len1 cap1 z1 ab1 lenb1 capb1 zb1 n2 a2 len2 cap2 z2 ab2 lenb2 capb2 zb2 W (word_of_wf wa0) (word_of_wf wq0) ⟨s1, sb1, c1, cb1⟩ e1 eb1 ⟨s2, sb2, c2, cb2⟩ e2 eb2).mono fun e W' ⟨he, bel⟩ => ?_
  subst he
  exact ⟨_, rfl, _, _, _, [], _, [], hW', trodAll_mk1 (shut_bool Tryz.underlying4 _), (trodAll_cons_mk (Below.trod laidOut (by kernel_rfl) (of_decide_eq_true (by kernel_rfl)) k0 bel lt0) (trodAll_cons_mk (Below.trod laidOut (by kernel_rfl) (of_decide_eq_true (by kernel_rfl)) k1 bel lt1) (trodAll_cons_mk (Below.trod laidOut (by kernel_rfl) (of_decide_eq_true (by kernel_rfl)) k2 bel lt2) trodAll_mk0))), rfl, bel.frame _, fun h => by cases h⟩

set_option maxRecDepth 100000 in
theorem lifted (os : Os) (started : os.Started) (H : Type) (enc : TypeId × Value → H) :
    ReturnsInHanded {} Tryz.checked os 4 .any (Rows.realsOrderSpec.pre6 enc Tryz.prog Tryz.f4 Rows.realsOrderRow.domain false) (Rows.realsOrderSpec.post enc Tryz.prog Tryz.f4 false true false false) := by
  refine returnsInHanded_of_change_sized (C := Tryz.checked) own started (by kernel_rfl) Tryz.func4
    (ChangeSpec.witness6 (enc := enc) (C := Tryz.checked) false ⟨#[], #[.agg #[.int .u64 0, .int .u64 0], .agg #[.bool false, .slice none 0 0, .slice none 0 0], .agg #[.bool false, .slice none 0 0, .slice none 0 0]], []⟩ 8 (by kernel_rfl) (by kernel_rfl) (by kernel_rfl) (by kernel_rfl)) ?_
  intro W base args ds gs before hval0 hW _ hsz0 _
  exact contract H enc W base args ds gs before hval0 hW hsz0

theorem over : Rows.realsOrderRow.holds Tryz.pinned (OpenSpec.ofChange Rows.realsOrderSpec) :=
  OpenClaim.holds_of_wide 4 Tryz.f4 rfl rfl rfl rfl rfl rfl rfl ⟨rfl, rfl, rfl, rfl, rfl⟩ rfl rfl rfl rfl rfl (by kernel_rfl) Tryz.func4 (by kernel_rfl)
    (of_decide_eq_true (by kernel_rfl)) (by unfold Func.isWrapper; first | (rw [if_pos (by decide +kernel)]; kernel_rfl) | (rw [if_neg (by decide +kernel)]; exact ⟨rfl, rfl⟩))
    (fun os started H enc _ => lifted os started H enc)
end Go.Proofs.YtogabmggdcefaabGreat.realsOrder
namespace Go.Proofs.YtogabmggdcefaabGreat
theorem realsOrder_holds : Rows.RealsOrderSaid := realsOrder.over
#print axioms realsOrder_holds
end Go.Proofs.YtogabmggdcefaabGreat
