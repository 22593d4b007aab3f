/-
  What RealsRounds looks at, in numbers.
-/
import Derived.Test.YtogabmggdcefaaaGreatRf2
namespace Go.Proofs.YtogabmggdcefaaaGreat
open Go.RowKit Go.Shelf
set_option linter.unusedVariables false

theorem mk_num (c : Int) {K : Nat} (hK : 0 < K) : (mkRat c K).num * K = c * (mkRat c K).den := by
  have h : mkRat c K = mkRat (mkRat c K).num (mkRat c K).den := (Rat.mkRat_self _).symm
  exact ((Rat.mkRat_eq_iff (Nat.ne_of_gt hK) (mkRat c K).den_nz).1 h).symm
theorem mk_lt {c : Int} {K : Nat} (hK : 0 < K) {v : Rat} : (mkRat c K < v ↔ c * v.den < v.num * K) ∧ (v < mkRat c K ↔ v.num * K < c * v.den) := by
  have e := mk_num c hK
  have hd : (0 : Int) < ((mkRat c K).den : Int) := by have := (mkRat c K).den_pos; omega
  have hk : (0 : Int) < (K : Int) := by omega
  rw [Rat.lt_iff, Rat.lt_iff]
  generalize (mkRat c K).num = a at *
  generalize ((mkRat c K).den : Int) = b at *
  generalize (K : Int) = k at *
  generalize (v.den : Int) = d at *
  generalize v.num = n at *
  have e1 : a * d * k = c * d * b := by rw [Int.mul_assoc, Int.mul_comm d k, ← Int.mul_assoc, e, Int.mul_assoc, Int.mul_comm b d, ← Int.mul_assoc]
  have e2 : n * b * k = n * k * b := by rw [Int.mul_assoc, Int.mul_comm b k, ← Int.mul_assoc]
  constructor
  · constructor
    · intro h
      have := Int.mul_lt_mul_of_pos_right h hk
      rw [e1, e2] at this
      exact Int.lt_of_mul_lt_mul_right this (Int.le_of_lt hd)
    · intro h
      have := Int.mul_lt_mul_of_pos_right h hd
      rw [← e1, ← e2] at this
      exact Int.lt_of_mul_lt_mul_right this (Int.le_of_lt hk)
  · constructor
    · intro h
      have := Int.mul_lt_mul_of_pos_right h hk
      rw [e1, e2] at this
      exact Int.lt_of_mul_lt_mul_right this (Int.le_of_lt hd)
    · intro h
      have := Int.mul_lt_mul_of_pos_right h hd
      rw [← e1, ← e2] at this
      exact Int.lt_of_mul_lt_mul_right this (Int.le_of_lt hk)
theorem mid_add (x y : Nat) : mkRat (fz x + fz y) (2 * K8) + mkRat (fz x + fz y) (2 * K8) = fv x + fv y := by
  unfold fv
  have hk := K8_pos
  rw [Rat.mkRat_add_mkRat _ _ (by omega) (by omega), Rat.mkRat_add_mkRat _ _ (by omega) (by omega), Rat.mkRat_eq_iff (Nat.mul_ne_zero (by omega) (by omega)) (Nat.mul_ne_zero (by omega) (by omega))]
  generalize fz x = a
  generalize fz y = b
  push_cast
  generalize (K8 : Int) = k
  grind
/-- How far a number is from two floats. -/
theorem far_cmp (v : Rat) (x y : Nat) (t : Int) (h : (t = -1 ∧ 2 * (v.num * K8) < (fz x + fz y) * v.den) ∨ (t = 0 ∧ 2 * (v.num * K8) = (fz x + fz y) * v.den) ∨ (t = 1 ∧ (fz x + fz y) * v.den < 2 * (v.num * K8))) : qcmp (v - fv x) (fv y - v) = t := by
  have e := mid_add x y
  have m := @mk_lt (fz x + fz y) (2 * K8) (by have := K8_pos; omega) v
  have e2 : v.num * ((2 * K8 : Nat) : Int) = 2 * (v.num * K8) := by push_cast; rw [← Int.mul_assoc, Int.mul_comm v.num 2, Int.mul_assoc]
  rw [e2] at m
  generalize mkRat (fz x + fz y) (2 * K8) = q at *
  rcases h with ⟨rfl, h⟩ | ⟨rfl, h⟩ | ⟨rfl, h⟩
  · have := m.2.2 h
    exact qcmp_lt (by grind)
  · have h1 : ¬ q < v := fun g => by have := m.1.1 g; omega
    have h2 : ¬ v < q := fun g => by have := m.2.1 g; omega
    have h3 : q = v := Rat.le_antisymm (Rat.not_lt.1 h2) (Rat.not_lt.1 h1)
    have h4 : v - fv x = fv y - v := by grind
    rw [h4]
    exact cmp3_eq rfl
  · have := m.1.2 h
    exact qcmp_gt (by grind)
theorem flw_fz {v : Rat} {k p : Nat} (hk : k < 9218868437227405312) : fz (flw v k p) = (if sn v then -(fi (upk k p) : Int) else fi k) ∧ Fr (flw v k p) := by
  have hu := @upk_le k p hk
  unfold flw
  cases sn v
  · show fz k = (fi k : Int) ∧ Fr k
    exact ⟨fz_pos (by omega), ⟨by omega, by omega⟩⟩
  · show fz (wd true (upk k p)) = -(fi (upk k p) : Int) ∧ Fr (wd true (upk k p))
    refine ⟨?_, wd_fr hu⟩
    have := @wd_fz true (upk k p) (by omega)
    simpa using this
theorem cew_fz {v : Rat} {k p : Nat} (hk : k < 9218868437227405312) : fz (cew v k p) = (if sn v then -(fi k : Int) else fi (upk k p)) ∧ Fr (cew v k p) := by
  have hu := @upk_le k p hk
  unfold cew
  cases sn v
  · show fz (upk k p) = (fi (upk k p) : Int) ∧ Fr (upk k p)
    exact ⟨fz_pos (by omega), ⟨by omega, by omega⟩⟩
  · show fz (wd (decide (0 < k)) k) = -(fi k : Int) ∧ Fr (wd (decide (0 < k)) k)
    refine ⟨?_, wd_fr (by omega)⟩
    by_cases g : 0 < k
    · rw [decide_eq_true g]
      have := @wd_fz true k (by omega)
      simpa using this
    · obtain rfl : k = 0 := by omega
      rfl
theorem nrw_fz {v : Rat} {k p : Nat} (hk : k < 9218868437227405312) : fz (nrw v k p) = (if sn v then -(fi (nrk k p) : Int) else fi (nrk k p)) ∧ Fr (nrw v k p) := by
  have hu := @nrk_le k p hk
  exact ⟨wd_fz (by omega), wd_fr hu⟩
theorem num_abs (v : Rat) : v.num = if sn v then -(v.num.natAbs : Int) else (v.num.natAbs : Int) := by
  unfold sn
  by_cases g : v.num < 0
  · rw [decide_eq_true g, if_pos rfl]; omega
  · rw [decide_eq_false g]; simp; omega
/-- Where it is a float itself, all are one word. -/
theorem all_zero {v : Rat} {k : Nat} (h : Pv v k 0) : flw v k 0 = wd (sn v) k ∧ cew v k 0 = wd (sn v) k ∧ nrw v k 0 = wd (sn v) k ∧ exw v k 0 = wd (sn v) k ∧ exb 0 = true := by
  refine ⟨?_, ?_, ?_, rfl, rfl⟩
  · unfold flw wd upk; cases sn v <;> rfl
  · unfold cew upk
    cases hs : sn v
    · rfl
    · have k0 : 0 < k := by
        rcases Nat.eq_zero_or_pos k with g | g
        · subst g
          obtain ⟨-, h | h | h | h⟩ := h
          · have h2 := h.2
            rw [fi_zero, Nat.zero_mul] at h2
            have h3 : v.num < 0 := of_decide_eq_true hs
            have := Nat.mul_pos (show 0 < v.num.natAbs by omega) K8_pos
            omega
          · omega
          · omega
          · omega
        · exact g
      simp [k0]
  · unfold nrw nrk
    rw [if_neg (by omega)]
theorem cw_word {x : Nat} {v : Rat} (h : x % 9223372036854775808 ≠ 9218868437227405312) : cw x v = cmp3 (fz x * (v.den : Int)) (v.num * (K8 : Int)) := if_neg h
/-- Numbers of a place: the distance and both floats, by the denominator. -/
theorem pv_int {v : Rat} {k p : Nat} (h : Pv v k p) (hp : p ≠ 0) :
    (fi k : Int) * v.den < (v.num.natAbs : Int) * K8 ∧ (k ≠ 9218868437227405311 → (v.num.natAbs : Int) * K8 < (fi (k + 1) : Int) * v.den) ∧
    (p = 1 → 2 * ((v.num.natAbs : Int) * K8) < ((fi k : Int) + fi (k + 1)) * v.den) ∧ (p = 2 → 2 * ((v.num.natAbs : Int) * K8) = ((fi k : Int) + fi (k + 1)) * v.den) ∧ (p = 3 → ((fi k : Int) + fi (k + 1)) * v.den < 2 * ((v.num.natAbs : Int) * K8)) := by
  have g := Nat.mul_lt_mul_of_pos_right (fi_succ k) v.den_pos
  have hl := fun hk => Pl.lt v.den_pos h hk
  obtain ⟨-, h⟩ := h
  rw [Nat.add_mul] at h
  rw [Int.add_mul, ← Int.natCast_mul, ← Int.natCast_mul, ← Int.natCast_mul]
  generalize fi k * v.den = a at *
  generalize fi (k + 1) * v.den = b at *
  generalize v.num.natAbs * K8 = c at *
  refine ⟨by omega, fun hk => ?_, by omega, by omega, by omega⟩
  have := hl hk
  omega
theorem cw_lo {v : Rat} {k p : Nat} (h : Pv v k p) : cw (flw v k p) v = if p = 0 then 0 else -1 := by
  by_cases hp : p = 0
  · subst hp
    rw [if_pos rfl, (all_zero h).1]
    have hk := h.lt
    rw [cw_word (by unfold wd; cases sn v <;> simp <;> omega), wd_fz (by omega)]
    have hz : (fi k : Int) * v.den = (v.num.natAbs : Int) * K8 := by
      obtain ⟨-, h⟩ := h
      have : fi k * v.den = v.num.natAbs * K8 := by omega
      rw [← Int.natCast_mul, ← Int.natCast_mul, this]
    have hn := num_abs v
    refine cmp3_eq ?_
    rw [hn]
    cases sn v
    · exact hz
    · simp only [if_true, Int.neg_mul]; rw [hz]
  · rw [if_neg hp]
    have hk := h.lt
    obtain ⟨a1, a2, -, -, -⟩ := pv_int h hp
    have hn := num_abs v
    unfold flw
    cases hs : sn v
    · rw [hs] at hn
      simp only [Bool.false_eq_true, if_false] at hn ⊢
      rw [cw_word (by omega), fz_pos (by omega)]
      refine cmp3_lt ?_
      rw [hn]; exact a1
    · rw [hs] at hn
      simp only [if_true] at hn ⊢
      have hu : upk k p = k + 1 := if_neg hp
      rw [hu]
      by_cases hm : k = 9218868437227405311
      · subst hm
        unfold cw
        rw [if_pos (by decide)]
        decide
      · rw [cw_word (by unfold wd; simp; omega), wd_fz (by omega)]
        refine cmp3_lt ?_
        rw [hn]
        simp only [if_true, Int.neg_mul]
        have := a2 hm
        omega
theorem cw_hi {v : Rat} {k p : Nat} (h : Pv v k p) : cw (cew v k p) v = if p = 0 then 0 else 1 := by
  by_cases hp : p = 0
  · have := cw_lo h
    subst hp
    rw [(all_zero h).1] at this
    rw [(all_zero h).2.1]; exact this
  · rw [if_neg hp]
    have hk := h.lt
    obtain ⟨a1, a2, -, -, -⟩ := pv_int h hp
    have hn := num_abs v
    have hf := @cew_fz v k p hk
    by_cases hi : cew v k p % 9223372036854775808 = 9218868437227405312
    · unfold cw
      rw [if_pos hi]
      have : fsg (cew v k p) = false := by
        unfold fsg
        rw [decide_eq_false_iff_not]
        have hu := @upk_le k p hk
        cases hs : sn v
        · have e : cew v k p = upk k p := by unfold cew; rw [hs]; rfl
          omega
        · have e : cew v k p = wd (decide (0 < k)) k := by unfold cew; rw [hs]; rfl
          rw [e] at hi
          unfold wd at hi
          by_cases g : 0 < k
          · rw [decide_eq_true g, if_pos rfl] at hi; omega
          · rw [decide_eq_false g] at hi
            simp only [Bool.false_eq_true, if_false] at hi
            omega
      rw [this]; rfl
    · rw [cw_word hi, hf.1]
      refine cmp3_gt ?_
      rw [hn]
      cases hs : sn v
      · simp only [Bool.false_eq_true, if_false]
        have hu : upk k p = k + 1 := if_neg hp
        rw [hu]
        refine a2 (fun hm => hi ?_)
        unfold cew
        rw [hs, hu, hm]; decide
      · simp only [if_true, Int.neg_mul]
        omega
theorem feq {x y : Nat} (hx : Fr x) (hy : Fr y) (h : fz x = fz y) : (FloatKind.f64.format.order x y == some .eq) = true := by
  rw [float_eq hx hy]; exact decide_eq_true h
theorem fne {x y : Nat} (hx : Fr x) (hy : Fr y) (h : fz x ≠ fz y) : (FloatKind.f64.format.order x y == some .eq) = false := by
  rw [float_eq hx hy]; exact decide_eq_false h
theorem fbe {x y : Nat} (hx : Fr x) (hy : Fr y) (h : fz x = fz y) : (FloatKind.f64.format.order x y != some .eq) = false := by
  unfold bne; rw [feq hx hy h]; rfl
theorem fbn {x y : Nat} (hx : Fr x) (hy : Fr y) (h : fz x ≠ fz y) : (FloatKind.f64.format.order x y != some .eq) = true := by
  unfold bne; rw [fne hx hy h]; rfl
theorem fr_max : Fr 9218868437227405311 := ⟨by decide, by decide⟩
theorem fr_neg : Fr 18442240474082181119 := ⟨by decide, by decide⟩
theorem fz_max : fz 9218868437227405311 = (fi 9218868437227405311 : Int) := fz_pos (by decide)
theorem fz_neg : fz 18442240474082181119 = -(fi 9218868437227405311 : Int) := by
  have := @wd_fz true 9218868437227405311 (by decide)
  simpa [wd] using this
theorem up_one {k p : Nat} (hp : p ≠ 0) : upk k p = k + 1 := if_neg hp
theorem nr_two (k p : Nat) : nrk k p = k ∨ nrk k p = k + 1 := by unfold nrk; split <;> omega
/-- All that is asked of the three floats, where the number is none. -/
theorem rounds_f {v : Rat} {k p : Nat} (h : Pv v k p) (hp : p ≠ 0) :
    (fz (nrw v k p) = fz (flw v k p) ∨ fz (nrw v k p) = fz (cew v k p)) ∧ fz (flw v k p) < fz (cew v k p) ∧ fz (nx (flw v k p) true) = fz (cew v k p) ∧ Fr (nx (flw v k p) true) := by
  have hk := h.lt
  have f1 := @flw_fz v k p hk
  have f2 := @cew_fz v k p hk
  have f3 := @nrw_fz v k p hk
  have g := fi_succ k
  rw [f1.1, f2.1, f3.1, up_one hp]
  refine ⟨?_, ?_, ?_⟩
  · rcases nr_two k p with e | e <;> rw [e] <;> cases sn v <;> simp
  · cases sn v <;> simp <;> omega
  · unfold flw
    rw [up_one hp]
    cases sn v
    · simp only [Bool.false_eq_true, if_false]
      have e : nx k true = k + 1 := by
        unfold nx
        have hm : k % 9223372036854775808 = k := by omega
        have hs : fsg k = false := by unfold fsg; rw [decide_eq_false_iff_not]; omega
        rw [hm, hs]
        by_cases k0 : k = 0
        · rw [if_pos k0, k0]; rfl
        · rw [if_neg k0, if_neg (by decide), if_neg (by omega)]
      rw [e]
      exact ⟨fz_pos (by omega), by omega, by omega⟩
    · simp only [if_true]
      have e : nx (wd true (k + 1)) true = wd true k := by
        unfold nx
        have hm : wd true (k + 1) % 9223372036854775808 = k + 1 := by unfold wd; rw [if_pos rfl]; omega
        have hs : fsg (wd true (k + 1)) = true := by unfold fsg wd; rw [if_pos rfl, decide_eq_true_iff]; omega
        rw [hm, hs, if_neg (by omega), if_pos rfl]
        unfold wd; rw [if_pos rfl, if_pos rfl]; omega
      rw [e]
      refine ⟨?_, wd_fr (by omega)⟩
      have := @wd_fz true k (by omega)
      simpa using this
theorem rounds_max {v : Rat} {p : Nat} (h : Pv v 9218868437227405311 p) (hp : p ≠ 0) :
    (FloatKind.f64.format.order (flw v 9218868437227405311 p) 18442240474082181119 == some .lt) = true ∨ ((FloatKind.f64.format.order (flw v 9218868437227405311 p) 18442240474082181119 == some .lt) = false ∧ (FloatKind.f64.format.order (cew v 9218868437227405311 p) 9218868437227405311 == some .gt) = true) := by
  have hk := h.lt
  have f1 := @flw_fz v _ p hk
  have f2 := @cew_fz v _ p hk
  have g := fi_succ 9218868437227405311
  have g0 := @fi_pos 9218868437227405311 (by decide)
  rw [float_lt f1.2 fr_neg, float_gt f2.2 fr_max, f1.1, f2.1, fz_max, fz_neg, up_one hp]
  generalize fi 9218868437227405311 = a at *
  generalize fi (9218868437227405311 + 1) = b at *
  cases sn v
  · right; simp; omega
  · left; simp; omega
theorem rounds_in {v : Rat} {k p : Nat} (h : Pv v k p) (hp : p ≠ 0) (hm : k ≠ 9218868437227405311) :
    (FloatKind.f64.format.order (flw v k p) 18442240474082181119 == some .lt) = false ∧ (FloatKind.f64.format.order (cew v k p) 9218868437227405311 == some .gt) = false ∧ flw v k p % 9223372036854775808 < 9218868437227405312 ∧ cew v k p % 9223372036854775808 < 9218868437227405312 := by
  have hk := h.lt
  have f1 := @flw_fz v k p hk
  have f2 := @cew_fz v k p hk
  have g1 := @fi_le_iff k 9218868437227405311
  have g2 := @fi_le_iff (k + 1) 9218868437227405311
  rw [float_lt f1.2 fr_neg, float_gt f2.2 fr_max, f1.1, f2.1, fz_max, fz_neg, up_one hp]
  unfold flw cew
  rw [up_one hp]
  cases sn v
  · simp only [Bool.false_eq_true, if_false, decide_eq_false_iff_not]
    omega
  · simp only [if_true, decide_eq_false_iff_not]
    refine ⟨by omega, by omega, ?_, ?_⟩
    · unfold wd; rw [if_pos rfl]; omega
    · unfold wd; split <;> omega
/-- Which of both is nearer. -/
theorem rounds_near {v : Rat} {k p : Nat} (h : Pv v k p) (hp : p ≠ 0) : ∃ t : Int, qcmp (v - fv (flw v k p)) (fv (cew v k p) - v) = t ∧ ((t = -1 ∧ fz (nrw v k p) = fz (flw v k p)) ∨ t = 0 ∨ (t = 1 ∧ fz (nrw v k p) = fz (cew v k p))) := by
  have hk := h.lt
  have f1 := @flw_fz v k p hk
  have f2 := @cew_fz v k p hk
  have f3 := @nrw_fz v k p hk
  obtain ⟨-, -, a1, a2, a3⟩ := pv_int h hp
  have hn := num_abs v
  have p3 := h.p3
  rw [up_one hp] at f1 f2
  rw [f1.1, f2.1, f3.1]
  have key : ∀ t, ((t = -1 ∧ 2 * (v.num * K8) < (fz (flw v k p) + fz (cew v k p)) * v.den) ∨ (t = 0 ∧ 2 * (v.num * K8) = (fz (flw v k p) + fz (cew v k p)) * v.den) ∨ (t = 1 ∧ (fz (flw v k p) + fz (cew v k p)) * v.den < 2 * (v.num * K8))) → qcmp (v - fv (flw v k p)) (fv (cew v k p) - v) = t := fun t => far_cmp v _ _ t
  rw [f1.1, f2.1] at key
  have hnr : (p = 1 → nrk k p = k) ∧ (p = 3 → nrk k p = k + 1) := by
    constructor
    · rintro rfl; unfold nrk; rw [if_neg (by omega)]
    · rintro rfl; unfold nrk; rw [if_pos (by omega)]
  have e4 : (-(fi (k + 1) : Int) + -(fi k : Int)) * v.den = -(((fi k : Int) + fi (k + 1)) * v.den) := by
    rw [← Int.neg_mul]; congr 1; omega
  have e5 : -(v.num.natAbs : Int) * K8 = -((v.num.natAbs : Int) * K8) := Int.neg_mul _ _
  cases hs : sn v
  · rw [hs] at hn key
    simp only [Bool.false_eq_true, if_false] at hn key ⊢
    rw [hn] at key
    have hp2 : p = 1 ∨ p = 2 ∨ p = 3 := by omega
    rcases hp2 with rfl | rfl | rfl
    · exact ⟨-1, key _ (.inl ⟨rfl, a1 rfl⟩), .inl ⟨rfl, by rw [hnr.1 rfl]⟩⟩
    · exact ⟨0, key _ (.inr (.inl ⟨rfl, a2 rfl⟩)), .inr (.inl rfl)⟩
    · exact ⟨1, key _ (.inr (.inr ⟨rfl, a3 rfl⟩)), .inr (.inr ⟨rfl, by rw [hnr.2 rfl]⟩)⟩
  · rw [hs] at hn key
    simp only [if_true] at hn key ⊢
    rw [hn, e4, e5] at key
    have hp2 : p = 1 ∨ p = 2 ∨ p = 3 := by omega
    rcases hp2 with rfl | rfl | rfl
    · exact ⟨1, key _ (.inr (.inr ⟨rfl, by have := a1 rfl; omega⟩)), .inr (.inr ⟨rfl, by rw [hnr.1 rfl]⟩)⟩
    · exact ⟨0, key _ (.inr (.inl ⟨rfl, by have := a2 rfl; omega⟩)), .inr (.inl rfl)⟩
    · exact ⟨-1, key _ (.inl ⟨rfl, by have := a3 rfl; omega⟩), .inl ⟨rfl, by rw [hnr.2 rfl]⟩⟩
theorem nr_sign {v : Rat} {k p : Nat} (hk : k < 9218868437227405312) : fsg (nrw v k p) = sn v := by
  have hu := @nrk_le k p hk
  unfold nrw fsg wd
  cases sn v
  · simp; omega
  · simp
end Go.Proofs.YtogabmggdcefaaaGreat
