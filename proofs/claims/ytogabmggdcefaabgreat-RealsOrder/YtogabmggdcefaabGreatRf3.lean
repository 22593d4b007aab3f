/-
  What RealsRounds looks at, in numbers.
-/
import Derived.Test.YtogabmggdcefaabGreatBrC
namespace Go.Proofs.YtogabmggdcefaabGreat
open Go.RowKit Go.Shelf
set_option linter.unusedVariables false

theorem mk_num (c : Int) {K : Nat} (hK : 0 < K) : (mkRat c K).num * K = c * (mkRat c K).den := by
  have h : mkRat c K = mkRat (mkRat c K).num (mkRat c K).den := (Rat.mkRat_self _).symm
  exact ((Rat.mkRat_eq_iff (Nat.ne_of_gt hK) (mkRat c K).den_nz).1 h).symm
theorem mk_lt {c : Int} {K : Nat} (hK : 0 < K) {v : Rat} : (mkRat c K < v ↔ c * v.den < v.num * K) ∧ (v < mkRat c K ↔ v.num * K < c * v.den) := by
  have e := mk_num c hK
  have hd : (0 : Int) < ((mkRat c K).den : Int) := by have := (mkRat c K).den_pos; omega
  have hk : (0 : Int) < (K : Int) := by omega
  rw [Rat.lt_iff, Rat.lt_iff]
  generalize (mkRat c K).num = a at *
  generalize ((mkRat c K).den : Int) = b at *
  generalize (K : Int) = k at *
  generalize (v.den : Int) = d at *
  generalize v.num = n at *
  have e1 : a * d * k = c * d * b := by rw [Int.mul_assoc, Int.mul_comm d k, ← Int.mul_assoc, e, Int.mul_assoc, Int.mul_comm b d, ← Int.mul_assoc]
  have e2 : n * b * k = n * k * b := by rw [Int.mul_assoc, Int.mul_comm b k, ← Int.mul_assoc]
  constructor
  · constructor
    · intro h
      have := Int.mul_lt_mul_of_pos_right h hk
      rw [e1, e2] at this
      exact Int.lt_of_mul_lt_mul_right this (Int.le_of_lt hd)
    · intro h
      have := Int.mul_lt_mul_of_pos_right h hd
      rw [← e1, ← e2] at this
      exact Int.lt_of_mul_lt_mul_right this (Int.le_of_lt hk)
  · constructor
    · intro h
      have := Int.mul_lt_mul_of_pos_right h hk
      rw [e1, e2] at this
      exact Int.lt_of_mul_lt_mul_right this (Int.le_of_lt hd)
    · intro h
      have := Int.mul_lt_mul_of_pos_right h hd
      rw [← e1, ← e2] at this
      exact Int.lt_of_mul_lt_mul_right this (Int.le_of_lt hk)
theorem mid_add (x y : Nat) : mkRat (fz x + fz y) (2 * K8) + mkRat (fz x + fz y) (2 * K8) = fv x + fv y := by
  unfold fv
  have hk := K8_pos
  rw [Rat.mkRat_add_mkRat _ _ (by omega) (by omega), Rat.mkRat_add_mkRat _ _ (by omega) (by omega), Rat.mkRat_eq_iff (Nat.mul_ne_zero (by omega) (by omega)) (Nat.mul_ne_zero (by omega) (by omega))]
  generalize fz x = a
  generalize fz y = b
  push_cast
  generalize (K8 : Int) = k
  grind
theorem flw_fz {v : Rat} {k p : Nat} (hk : k < 9218868437227405312) : fz (flw v k p) = (if sn v then -(fi (upk k p) : Int) else fi k) ∧ Fr (flw v k p) := by
  have hu := @upk_le k p hk
  unfold flw
  cases sn v
  · show fz k = (fi k : Int) ∧ Fr k
    exact ⟨fz_pos (by omega), ⟨by omega, by omega⟩⟩
  · show fz (wd true (upk k p)) = -(fi (upk k p) : Int) ∧ Fr (wd true (upk k p))
    refine ⟨?_, wd_fr hu⟩
    have := @wd_fz true (upk k p) (by omega)
    simpa using this
theorem cew_fz {v : Rat} {k p : Nat} (hk : k < 9218868437227405312) : fz (cew v k p) = (if sn v then -(fi k : Int) else fi (upk k p)) ∧ Fr (cew v k p) := by
  have hu := @upk_le k p hk
  unfold cew
  cases sn v
  · show fz (upk k p) = (fi (upk k p) : Int) ∧ Fr (upk k p)
    exact ⟨fz_pos (by omega), ⟨by omega, by omega⟩⟩
  · show fz (wd (decide (0 < k)) k) = -(fi k : Int) ∧ Fr (wd (decide (0 < k)) k)
    refine ⟨?_, wd_fr (by omega)⟩
    by_cases g : 0 < k
    · rw [decide_eq_true g]
      have := @wd_fz true k (by omega)
      simpa using this
    · obtain rfl : k = 0 := by omega
      rfl
theorem nrw_fz {v : Rat} {k p : Nat} (hk : k < 9218868437227405312) : fz (nrw v k p) = (if sn v then -(fi (nrk k p) : Int) else fi (nrk k p)) ∧ Fr (nrw v k p) := by
  have hu := @nrk_le k p hk
  exact ⟨wd_fz (by omega), wd_fr hu⟩
theorem num_abs (v : Rat) : v.num = if sn v then -(v.num.natAbs : Int) else (v.num.natAbs : Int) := by
  unfold sn
  by_cases g : v.num < 0
  · rw [decide_eq_true g, if_pos rfl]; omega
  · rw [decide_eq_false g]; simp; omega
/-- Where it is a float itself, all are one word. -/
theorem all_zero {v : Rat} {k : Nat} (h : Pv v k 0) : flw v k 0 = wd (sn v) k ∧ cew v k 0 = wd (sn v) k ∧ nrw v k 0 = wd (sn v) k ∧ exw v k 0 = wd (sn v) k ∧ exb 0 = true := by
  refine ⟨?_, ?_, ?_, rfl, rfl⟩
  · unfold flw wd upk; cases sn v <;> rfl
  · unfold cew upk
    cases hs : sn v
    · rfl
    · have k0 : 0 < k := by
        rcases Nat.eq_zero_or_pos k with g | g
        · subst g
          obtain ⟨-, h | h | h | h⟩ := h
          · have h2 := h.2
            rw [fi_zero, Nat.zero_mul] at h2
            have h3 : v.num < 0 := of_decide_eq_true hs
            have := Nat.mul_pos (show 0 < v.num.natAbs by omega) K8_pos
            omega
          · omega
          · omega
          · omega
        · exact g
      simp [k0]
  · unfold nrw nrk
    rw [if_neg (by omega)]
theorem cw_word {x : Nat} {v : Rat} (h : x % 9223372036854775808 ≠ 9218868437227405312) : cw x v = cmp3 (fz x * (v.den : Int)) (v.num * (K8 : Int)) := if_neg h
/-- Numbers of a place: the distance and both floats, by the denominator. -/
theorem pv_int {v : Rat} {k p : Nat} (h : Pv v k p) (hp : p ≠ 0) :
    (fi k : Int) * v.den < (v.num.natAbs : Int) * K8 ∧ (k ≠ 9218868437227405311 → (v.num.natAbs : Int) * K8 < (fi (k + 1) : Int) * v.den) ∧
    (p = 1 → 2 * ((v.num.natAbs : Int) * K8) < ((fi k : Int) + fi (k + 1)) * v.den) ∧ (p = 2 → 2 * ((v.num.natAbs : Int) * K8) = ((fi k : Int) + fi (k + 1)) * v.den) ∧ (p = 3 → ((fi k : Int) + fi (k + 1)) * v.den < 2 * ((v.num.natAbs : Int) * K8)) := by
  have g := Nat.mul_lt_mul_of_pos_right (fi_succ k) v.den_pos
  have hl := fun hk => Pl.lt v.den_pos h hk
  obtain ⟨-, h⟩ := h
  rw [Nat.add_mul] at h
  rw [Int.add_mul, ← Int.natCast_mul, ← Int.natCast_mul, ← Int.natCast_mul]
  generalize fi k * v.den = a at *
  generalize fi (k + 1) * v.den = b at *
  generalize v.num.natAbs * K8 = c at *
  refine ⟨by omega, fun hk => ?_, by omega, by omega, by omega⟩
  have := hl hk
  omega
theorem cw_lo {v : Rat} {k p : Nat} (h : Pv v k p) : cw (flw v k p) v = if p = 0 then 0 else -1 := by
  by_cases hp : p = 0
  · subst hp
    rw [if_pos rfl, (all_zero h).1]
    have hk := h.lt
    rw [cw_word (by unfold wd; cases sn v <;> simp <;> omega), wd_fz (by omega)]
    have hz : (fi k : Int) * v.den = (v.num.natAbs : Int) * K8 := by
      obtain ⟨-, h⟩ := h
      have : fi k * v.den = v.num.natAbs * K8 := by omega
      rw [← Int.natCast_mul, ← Int.natCast_mul, this]
    have hn := num_abs v
    refine cmp3_eq ?_
    rw [hn]
    cases sn v
    · exact hz
    · simp only [if_true, Int.neg_mul]; rw [hz]
  · rw [if_neg hp]
    have hk := h.lt
    obtain ⟨a1, a2, -, -, -⟩ := pv_int h hp
    have hn := num_abs v
    unfold flw
    cases hs : sn v
    · rw [hs] at hn
      simp only [Bool.false_eq_true, if_false] at hn ⊢
      rw [cw_word (by omega), fz_pos (by omega)]
      refine cmp3_lt ?_
      rw [hn]; exact a1
    · rw [hs] at hn
      simp only [if_true] at hn ⊢
      have hu : upk k p = k + 1 := if_neg hp
      rw [hu]
      by_cases hm : k = 9218868437227405311
      · subst hm
        unfold cw
        rw [if_pos (by decide)]
        decide
      · rw [cw_word (by unfold wd; simp; omega), wd_fz (by omega)]
        refine cmp3_lt ?_
        rw [hn]
        simp only [if_true, Int.neg_mul]
        have := a2 hm
        omega
theorem feq {x y : Nat} (hx : Fr x) (hy : Fr y) (h : fz x = fz y) : (FloatKind.f64.format.order x y == some .eq) = true := by
  rw [float_eq hx hy]; exact decide_eq_true h
theorem fne {x y : Nat} (hx : Fr x) (hy : Fr y) (h : fz x ≠ fz y) : (FloatKind.f64.format.order x y == some .eq) = false := by
  rw [float_eq hx hy]; exact decide_eq_false h
theorem fbe {x y : Nat} (hx : Fr x) (hy : Fr y) (h : fz x = fz y) : (FloatKind.f64.format.order x y != some .eq) = false := by
  unfold bne; rw [feq hx hy h]; rfl
theorem fr_max : Fr 9218868437227405311 := ⟨by decide, by decide⟩
theorem fr_neg : Fr 18442240474082181119 := ⟨by decide, by decide⟩
theorem fz_max : fz 9218868437227405311 = (fi 9218868437227405311 : Int) := fz_pos (by decide)
theorem fz_neg : fz 18442240474082181119 = -(fi 9218868437227405311 : Int) := by
  have := @wd_fz true 9218868437227405311 (by decide)
  simpa [wd] using this
theorem nr_sign {v : Rat} {k p : Nat} (hk : k < 9218868437227405312) : fsg (nrw v k p) = sn v := by
  have hu := @nrk_le k p hk
  unfold nrw fsg wd
  cases sn v
  · simp; omega
  · simp
end Go.Proofs.YtogabmggdcefaabGreat
