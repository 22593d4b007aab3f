/-
  Put together of: NrP8, NrQ8, Rh1, Rh2.
-/
import Derived.Test.YtjlodljgfjjclaaGreatTk
import Derived.Test.YtjlodljgfjjclaaGreatAl
import Derived.Test.YtjlodljgfjjclaaGreatRg4
namespace Go.Proofs.YtjlodljgfjjclaaGreat
open Go.RowKit Go.Shelf
set_option linter.unusedVariables false

/-- The place of the greatest finite float that is not above a number; one below the least where there is none. -/
noncomputable def bl8 (v : Rat) : Int := max (-9218868437227405312) (min 9218868437227405311 (fpl (v.num * K8 / v.den)))
theorem bl8_bd (v : Rat) : -9218868437227405312 ≤ bl8 v ∧ bl8 v ≤ 9218868437227405311 := by unfold bl8; omega
theorem bl8_iff {v : Rat} {k : Int} (h1 : -9218868437227405312 < k) (h2 : k ≤ 9218868437227405311) : fp k * v.den ≤ v.num * K8 ↔ k ≤ bl8 v := by
  have hD : (0 : Int) < v.den := by have := v.den_pos; omega
  rw [← Int.le_ediv_iff_mul_le hD, fpl_iff]
  unfold bl8; omega
theorem pv8_fw {k : Int} (h : k.natAbs ≤ 9218868437227405312) : pv8 k = fv (fw k) := by
  unfold pv8 fv; rw [(fw_fz h).1]
theorem qcmp_pv {k : Int} (h : k.natAbs ≤ 9218868437227405312) (v : Rat) : qcmp (pv8 k) v = cmp3 (fp k * (v.den : Int)) (v.num * (K8 : Int)) := by
  rw [pv8_fw h, qcmp_fv, (fw_fz h).1]
/-- Not above: what the document's search asks. -/
theorem le_pv {v : Rat} {k : Int} (h1 : -9218868437227405312 < k) (h2 : k ≤ 9218868437227405311) : decide (qcmp (pv8 k) v ≤ 0) = decide (k ≤ bl8 v) := by
  rw [qcmp_pv (by omega)]
  have h := @bl8_iff v k h1 h2
  by_cases g : k ≤ bl8 v
  · rw [decide_eq_true g, decide_eq_true_iff]
    rcases Int.lt_or_eq_of_le (h.2 g) with q | q
    · rw [cmp3_lt q]; decide
    · rw [cmp3_eq q]; decide
  · rw [decide_eq_false g, decide_eq_false_iff_not]
    have q : v.num * (K8 : Int) < fp k * (v.den : Int) := Int.not_le.mp (fun q => g (h.1 q))
    rw [cmp3_gt q]; decide
theorem eq_pv {v : Rat} {k : Int} (h : k.natAbs ≤ 9218868437227405312) : (qcmp (pv8 k) v = 0 ↔ fp k * (v.den : Int) = v.num * (K8 : Int)) := by
  rw [qcmp_pv h]
  constructor
  · intro q
    rcases Int.lt_trichotomy (fp k * (v.den : Int)) (v.num * (K8 : Int)) with g | g | g
    · rw [cmp3_lt g] at q; exact absurd q (by decide)
    · exact g
    · rw [cmp3_gt g] at q; exact absurd q (by decide)
  · intro q; exact cmp3_eq q
theorem num_abs8 {v : Rat} : ((v.num.natAbs * K8 : Nat) : Int) = if sn v then -(v.num * K8) else v.num * K8 := by
  unfold sn
  by_cases g : v.num < 0
  · rw [decide_eq_true g, if_pos rfl, Int.natCast_mul, Int.ofNat_natAbs_of_nonpos (by omega), Int.neg_mul]
  · rw [decide_eq_false g, if_neg (by decide), Int.natCast_mul, Int.natAbs_of_nonneg (by omega)]
/-- The search's answer by the rung of the number's size. -/
theorem bl8_pv {v : Rat} {k p : Nat} (h : Pv v k p) : bl8 v = if sn v then -((upk k p : Nat) : Int) else (k : Int) := by
  have hk := h.lt
  have hD := v.den_pos
  have hX := @num_abs8 v
  have e1 := Pl.le hD h
  have e2 := fun q => Pl.lt hD h q
  have hc := h.2
  have bd := bl8_bd v
  unfold sn at *
  by_cases g : v.num < 0
  · rw [decide_eq_true g, if_pos rfl] at hX
    rw [decide_eq_true g, if_pos rfl]
    have x0 : 0 < v.num.natAbs * K8 := Nat.mul_pos (by omega) K8_pos
    -- a place -u stands at or below exactly if X is at most u's
    have key : ∀ u : Nat, u < 9218868437227405312 → (v.num.natAbs * K8 ≤ fi u * v.den ↔ -(u : Int) ≤ bl8 v) := by
      intro u hu
      rw [← bl8_iff (by omega) (by omega), fp_neg, fp_nat]
      rw [Int.neg_mul, ← Int.natCast_mul]
      omega
    unfold upk
    by_cases p0 : p = 0
    · rw [if_pos p0]
      have ex : fi k * v.den = v.num.natAbs * K8 := by rcases hc with ⟨_, q⟩ | ⟨q, _⟩ | ⟨q, _⟩ | ⟨q, _⟩ <;> first | exact q | omega
      have a1 := (key k hk).1 (by omega)
      have k0 : k ≠ 0 := by rintro rfl; rw [fi_zero] at ex; omega
      have a2 : ¬ -(((k - 1 : Nat)) : Int) ≤ bl8 v := by
        rw [← key (k - 1) (by omega)]
        have := Nat.mul_lt_mul_of_pos_right (fi_lt (show k - 1 < k by omega)) hD
        omega
      omega
    · rw [if_neg p0]
      have lt : fi k * v.den < v.num.natAbs * K8 := by
        have s := Nat.mul_lt_mul_of_pos_right (fi_succ k) hD
        have e := Nat.add_mul (fi k) (fi (k + 1)) v.den
        rcases hc with ⟨q, _⟩ | ⟨_, q, _⟩ | ⟨_, q⟩ | ⟨_, q, _⟩
        · omega
        · exact q
        · rw [e] at q; omega
        · rw [e] at q; omega
      have a2 : ¬ -((k : Nat) : Int) ≤ bl8 v := by rw [← key k hk]; omega
      by_cases km : k = 9218868437227405311
      · omega
      · have a1 := (key (k + 1) (by omega)).1 (Nat.le_of_lt (e2 km))
        omega
  · rw [decide_eq_false g, if_neg (by decide)] at hX
    rw [decide_eq_false g, if_neg (by decide)]
    have key : ∀ u : Nat, u < 9218868437227405312 → (fi u * v.den ≤ v.num.natAbs * K8 ↔ (u : Int) ≤ bl8 v) := by
      intro u hu
      rw [← bl8_iff (by omega) (by omega), fp_nat, ← Int.natCast_mul, ← hX]
      omega
    have a1 := (key k hk).1 e1
    by_cases km : k = 9218868437227405311
    · omega
    · have a2 : ¬ ((k + 1 : Nat) : Int) ≤ bl8 v := by
        rw [← key (k + 1) (by omega)]
        have := e2 km
        omega
      omega
theorem upk_pos {v : Rat} {k p : Nat} (h : Pv v k p) (n0 : v.num ≠ 0) : 0 < upk k p := by
  unfold upk
  split
  · rename_i p0
    rcases h.2 with ⟨_, q⟩ | ⟨q, _⟩ | ⟨q, _⟩ | ⟨q, _⟩
    · by_cases k0 : k = 0
      · subst k0
        rw [fi_zero, Nat.zero_mul] at q
        have := Nat.mul_pos (show 0 < v.num.natAbs by omega) K8_pos
        omega
      · omega
    all_goals omega
  · omega
theorem fw_pos (k : Nat) : fw (k : Int) = k := by unfold fw; rw [if_pos (by omega)]; omega
theorem fw_negk {k : Nat} (h : 0 < k) : fw (-(k : Int)) = wd true k := by unfold fw wd; rw [if_neg (by omega), if_pos rfl]; omega
/-- Floor. -/
theorem fw_fl {v : Rat} {k p : Nat} (h : Pv v k p) : fw (bl8 v) = flw v k p := by
  rw [bl8_pv h]
  unfold flw
  by_cases g : sn v = true
  · rw [if_pos g, if_pos g, fw_negk (upk_pos h (by unfold sn at g; rw [decide_eq_true_iff] at g; omega))]
  · rw [if_neg g, if_neg g, fw_pos]
theorem sn_neg' {v : Rat} (h0 : v.num ≠ 0) : sn (-v) = !sn v := by
  unfold sn
  rw [Rat.neg_num]
  by_cases g : v.num < 0
  · rw [decide_eq_true g, decide_eq_false (by omega)]; rfl
  · rw [decide_eq_false g, decide_eq_true (by omega)]; rfl
theorem pv_neg' {v : Rat} {k p : Nat} (h : Pv v k p) : Pv (-v) k p := by
  unfold Pv at *; rw [Rat.neg_num, Rat.neg_den, Int.natAbs_neg]; exact h
theorem pl_nought {D k p : Nat} (hD : 0 < D) (h : Pl 0 D k p) : k = 0 ∧ p = 0 := Pl.uno hD h ⟨by decide, .inl ⟨rfl, by rw [fi_zero, Nat.zero_mul]⟩⟩
theorem fw_zero : fw 0 = 0 := rfl
/-- Ceil. -/
theorem fw_ce {v : Rat} {k p : Nat} (h : Pv v k p) : fw (-bl8 (-v)) = cew v k p := by
  rw [bl8_pv (pv_neg' h)]
  unfold cew
  by_cases n0 : v.num = 0
  · have z : k = 0 ∧ p = 0 := pl_nought v.den_pos (by have := h; unfold Pv at this; rw [n0] at this; simpa using this)
    obtain ⟨rfl, rfl⟩ := z
    have s1 : sn v = false := by unfold sn; rw [n0]; rfl
    have s2 : sn (-v) = false := by unfold sn; rw [Rat.neg_num, n0]; rfl
    rw [s1, s2]; rfl
  · rw [sn_neg' n0]
    cases sn v
    · simp only [Bool.not_false, if_true, Bool.false_eq_true, if_false]
      rw [Int.neg_neg, fw_pos]
    · simp only [Bool.not_true, if_true, Bool.false_eq_true, if_false]
      by_cases k0 : 0 < k
      · rw [fw_negk k0, decide_eq_true k0]
      · have : k = 0 := by omega
        subst this; rfl
/-- Exact. -/
theorem ex_yes {v : Rat} {k p : Nat} (h : Pv v k p) (p0 : p = 0) : -9218868437227405311 ≤ bl8 v ∧ qcmp (pv8 (bl8 v)) v = 0 ∧ fw (bl8 v) = exw v k p := by
  have hk := h.lt
  have e := bl8_pv h
  have hX := @num_abs8 v
  subst p0
  have ex : fi k * v.den = v.num.natAbs * K8 := by rcases h.2 with ⟨_, q⟩ | ⟨q, _⟩ | ⟨q, _⟩ | ⟨q, _⟩ <;> first | exact q | omega
  have u0 : upk k 0 = k := rfl
  rw [u0] at e
  have hb : (bl8 v).natAbs = k := by rw [e]; split <;> omega
  refine ⟨by omega, ?_, ?_⟩
  · rw [eq_pv (by omega), e]
    rw [← ex] at hX
    split
    · rename_i g
      rw [if_pos g, Int.natCast_mul] at hX
      rw [fp_neg, fp_nat, Int.neg_mul, hX, Int.neg_neg]
    · rename_i g
      rw [if_neg g, Int.natCast_mul] at hX
      rw [fp_nat, hX]
  · rw [fw_fl h]
    unfold flw exw
    rw [if_pos rfl, u0]
    cases sn v
    · rfl
    · rfl
theorem ex_no {v : Rat} {k p : Nat} (h : Pv v k p) (p0 : p ≠ 0) : -9218868437227405311 ≤ bl8 v → qcmp (pv8 (bl8 v)) v ≠ 0 := by
  intro hb hq
  have bd := bl8_bd v
  rw [eq_pv (by omega)] at hq
  have hX := @num_abs8 v
  have q : Pv v (bl8 v).natAbs 0 := by
    refine ⟨by omega, .inl ⟨rfl, ?_⟩⟩
    have s : ((fi (bl8 v).natAbs : Nat) : Int) = if 0 ≤ bl8 v then fp (bl8 v) else -fp (bl8 v) := by
      unfold fp
      by_cases g : 0 ≤ bl8 v
      · rw [if_pos g, if_pos g, show (bl8 v).natAbs = (bl8 v).toNat by omega]
      · rw [if_neg g, if_neg g, Int.neg_neg, show (bl8 v).natAbs = (-(bl8 v)).toNat by omega]
    have g0 : (0 ≤ bl8 v ↔ ¬ sn v = true) ∨ v.num = 0 := by
      rw [bl8_pv h]
      by_cases g : sn v = true
      · left; rw [if_pos g]
        have := upk_pos h (by unfold sn at g; rw [decide_eq_true_iff] at g; omega)
        simp only [g, not_true, iff_false]; omega
      · left; rw [if_neg g]; exact ⟨fun _ => g, fun _ => by omega⟩
    have t : (((fi (bl8 v).natAbs * v.den : Nat)) : Int) = ((v.num.natAbs * K8 : Nat) : Int) := by
      rw [Int.natCast_mul, s, hX]
      rcases g0 with g | g
      · by_cases c : 0 ≤ bl8 v
        · rw [if_pos c, if_neg (g.1 c), hq]
        · have c2 : sn v = true := by cases hs : sn v <;> simp_all
          rw [if_neg c, if_pos c2, Int.neg_mul, hq]
      · rw [g, Int.zero_mul] at hq
        have : fp (bl8 v) = 0 := by
          rcases Int.mul_eq_zero.1 hq with z | z
          · exact z
          · have := v.den_pos; omega
        rw [this, g]; simp
    exact_mod_cast t
  exact p0 (h.uno q).2
end Go.Proofs.YtjlodljgfjjclaaGreat

namespace Go.Proofs.YtjlodljgfjjclaaGreat
open Go.RowKit Go.Shelf
set_option linter.unusedVariables false

theorem cmp3_mul {x y k : Int} (h : 0 < k) : cmp3 (x * k) (y * k) = cmp3 x y := by
  rcases Int.lt_trichotomy x y with g | g | g
  · rw [cmp3_lt g, cmp3_lt (Int.mul_lt_mul_of_pos_right g h)]
  · rw [g]
    rw [cmp3_eq rfl, cmp3_eq rfl]
  · rw [cmp3_gt g, cmp3_gt (Int.mul_lt_mul_of_pos_right g h)]
theorem mk_num8 {a : Int} {D : Nat} (hD : 0 < D) : (mkRat a D).num * D = a * (mkRat a D).den := by
  have h : mkRat a D = mkRat (mkRat a D).num (mkRat a D).den := (Rat.mkRat_self _).symm
  exact ((Rat.mkRat_eq_iff (Nat.ne_of_gt hD) (mkRat a D).den_nz).1 h).symm
theorem qcmp_mk {a b : Int} {D : Nat} (hD : 0 < D) : qcmp (mkRat a D) (mkRat b D) = cmp3 a b := by
  have h1 := @mk_num8 a D hD
  have h2 := @mk_num8 b D hD
  have p1 := (mkRat a D).den_pos
  have p2 := (mkRat b D).den_pos
  unfold qcmp
  generalize (mkRat a D).num = n1 at *
  generalize (mkRat b D).num = n2 at *
  generalize (mkRat a D).den = d1 at *
  generalize (mkRat b D).den = d2 at *
  have c1 : n1 * (d2 : Int) * (D : Int) = a * ((d1 : Int) * (d2 : Int)) := by
    rw [Int.mul_assoc, Int.mul_comm (d2 : Int), ← Int.mul_assoc, h1, Int.mul_assoc]
  have c2 : n2 * (d1 : Int) * (D : Int) = b * ((d1 : Int) * (d2 : Int)) := by
    rw [Int.mul_assoc, Int.mul_comm (d1 : Int) (D : Int), ← Int.mul_assoc, h2, Int.mul_assoc, Int.mul_comm (d2 : Int)]
  rw [← cmp3_mul (show (0 : Int) < (D : Int) by omega), c1, c2, cmp3_mul (Int.mul_pos (by omega) (by omega))]
theorem mk_sub {a b : Int} {D E : Nat} (hD : 0 < D) (hE : 0 < E) : mkRat a D - mkRat b E = mkRat (a * E - b * D) (D * E) := by
  rw [Rat.sub_eq_add_neg, Rat.neg_mkRat, Rat.mkRat_add_mkRat _ _ (Nat.ne_of_gt hD) (Nat.ne_of_gt hE), Int.neg_mul, Int.sub_eq_add_neg]
theorem v_mk (v : Rat) : v = mkRat v.num v.den := (Rat.mkRat_self v).symm
theorem near_cmp8 (v : Rat) (k : Int) : qcmp (v - pv8 k) (pv8 (k + 1) - v) = cmp3 (v.num * K8 - fp k * v.den) (fp (k + 1) * v.den - v.num * K8) := by
  have e1 : v - pv8 k = mkRat (v.num * K8 - fp k * v.den) (v.den * K8) := by
    unfold pv8
    conv => lhs; lhs; rw [v_mk v]
    rw [mk_sub v.den_pos K8_pos]
  have e2 : pv8 (k + 1) - v = mkRat (fp (k + 1) * v.den - v.num * K8) (v.den * K8) := by
    unfold pv8
    conv => lhs; rhs; rw [v_mk v]
    rw [mk_sub K8_pos v.den_pos, Nat.mul_comm K8]
  rw [e1, e2, qcmp_mk (Nat.mul_pos v.den_pos K8_pos)]
theorem top_gen (v : Rat) (a b : Nat) : qcmp v (p28 a - p28 b) = cmp3 (v.num * K8) ((((2 ^ a : Nat) : Int) - ((2 ^ b : Nat) : Int)) * v.den) := by
  unfold p28
  generalize ((2 ^ a : Nat) : Int) = A
  generalize ((2 ^ b : Nat) : Int) = B
  have e : mkRat A K8 - mkRat B K8 = mkRat ((A - B) * v.den) (v.den * K8) := by
    rw [mk_sub K8_pos K8_pos, ← Int.sub_mul, Rat.mkRat_mul_right (Nat.ne_of_gt K8_pos), Int.mul_comm, Rat.mkRat_mul_left (Nat.ne_of_gt v.den_pos)]
  rw [e]
  have e2 : qcmp v (mkRat ((A - B) * v.den) (v.den * K8)) = qcmp (mkRat (v.num * K8) (v.den * K8)) (mkRat ((A - B) * v.den) (v.den * K8)) := by
    rw [Rat.mkRat_mul_right (Nat.ne_of_gt K8_pos), ← v_mk v]
  rw [e2, qcmp_mk (Nat.mul_pos v.den_pos K8_pos)]
theorem top_sum (n : Nat) : (2 ^ 53 - 1) * 2 ^ (n + 1) + 2 ^ (n + 54) + 2 * 2 ^ n = 2 * 2 ^ (n + 54) := by
  rw [Nat.pow_add 2 n 1, Nat.pow_add 2 n 54]
  generalize (2 : Nat) ^ n = P
  omega
/-- The middle between the last float and what would be the next. -/
theorem top_mid : ((fi 9218868437227405311 : Nat) : Int) + ((fi 9218868437227405312 : Nat) : Int) = 2 * (((2 ^ 2098 : Nat) : Int) - ((2 ^ 2044 : Nat) : Int)) := by
  have h := top_sum 2044
  rw [show 2044 + 1 = 2045 from rfl, show 2044 + 54 = 2098 from rfl] at h
  rw [fi_max, fi_inf]
  generalize (2 : Nat) ^ 2098 = A at *
  generalize (2 : Nat) ^ 2045 = B at *
  generalize (2 : Nat) ^ 2044 = C at *
  omega
/-- The three ways of the document's Nearest, for a number not below 0. -/
theorem near_top {v : Rat} {k p : Nat} (h : Pv v k p) (h0 : 0 ≤ v.num) : (k = 9218868437227405311 ∧ 2 ≤ p → 0 ≤ qcmp v (p28 2098 - p28 2044)) ∧ (¬ (k = 9218868437227405311 ∧ 2 ≤ p) → qcmp v (p28 2098 - p28 2044) < 0) := by
  have hX : ((v.num.natAbs * K8 : Nat) : Int) = v.num * K8 := by rw [Int.natCast_mul, Int.natAbs_of_nonneg h0]
  have hD := v.den_pos
  have tm := top_mid
  have e2 := fun q => Pl.lt hD h q
  rw [top_gen]
  generalize ((2 ^ 2098 : Nat) : Int) - ((2 ^ 2044 : Nat) : Int) = T at *
  rw [← hX]
  have hc := h.2
  have hk := h.1
  generalize v.num.natAbs * K8 = N at *
  generalize v.den = D at *
  constructor
  · rintro ⟨rfl, hp⟩
    have hT : 2 * (T * (D : Int)) ≤ 2 * (N : Int) := by
      rw [← Int.mul_assoc, ← tm, ← Int.natCast_add, ← Int.natCast_mul]
      rcases hc with ⟨q, _⟩ | ⟨q, _⟩ | ⟨_, q⟩ | ⟨_, q, _⟩
      · omega
      · omega
      · rw [show 9218868437227405311 + 1 = 9218868437227405312 from rfl] at q; omega
      · rw [show 9218868437227405311 + 1 = 9218868437227405312 from rfl] at q; omega
    by_cases g : T * (D : Int) = (N : Int)
    · rw [cmp3_eq g.symm]; decide
    · rw [cmp3_gt (by omega)]; decide
  · intro hn
    have hT : 2 * (N : Int) < 2 * (T * (D : Int)) := by
      rw [← Int.mul_assoc, ← tm, ← Int.natCast_add, ← Int.natCast_mul]
      have st : fi 9218868437227405311 < fi 9218868437227405312 := fi_lt (by omega)
      have st2 := Nat.mul_lt_mul_of_pos_right st hD
      rw [Nat.add_mul]
      by_cases km : k = 9218868437227405311
      · subst km
        rcases hc with ⟨_, q⟩ | ⟨_, _, q⟩ | ⟨q, _⟩ | ⟨q, _⟩
        · omega
        · rw [show 9218868437227405311 + 1 = 9218868437227405312 from rfl, Nat.add_mul] at q; omega
        · omega
        · omega
      · have a := e2 km
        have b : fi (k + 1) ≤ fi 9218868437227405311 := fi_le_iff.2 (by omega)
        have c := Nat.mul_le_mul_right D b
        omega
    rw [cmp3_lt (by omega)]; decide
theorem near_mid {v : Rat} {k p : Nat} (h : Pv v k p) (h0 : 0 ≤ v.num) : qcmp (v - pv8 (k : Int)) (pv8 ((k : Int) + 1) - v) = if p = 3 then 1 else if p = 2 then 0 else -1 := by
  have hX : ((v.num.natAbs * K8 : Nat) : Int) = v.num * K8 := by rw [Int.natCast_mul, Int.natAbs_of_nonneg h0]
  have hD := v.den_pos
  have f1 : fp ((k : Int) + 1) = fi (k + 1) := fp_nat (k + 1)
  rw [near_cmp8, fp_nat, f1, ← hX, ← Int.natCast_mul, ← Int.natCast_mul]
  have hc := h.2
  have st := Nat.mul_lt_mul_of_pos_right (fi_succ k) hD
  generalize v.num.natAbs * K8 = N at *
  generalize v.den = D at *
  rw [Nat.add_mul] at hc
  rcases hc with ⟨rfl, q⟩ | ⟨rfl, _, q⟩ | ⟨rfl, q⟩ | ⟨rfl, q, _⟩
  · rw [if_neg (by decide), if_neg (by decide), cmp3_lt (by omega)]
  · rw [if_neg (by decide), if_neg (by decide), cmp3_lt (by omega)]
  · rw [if_neg (by decide), if_pos rfl, cmp3_eq (by omega)]
  · rw [if_pos rfl, cmp3_gt (by omega)]
/-- What the document's Nearest takes the difference of fits. -/
theorem fit_of {i j : Nat} {u v : Rat} (h1 : Sz i u) (h2 : Sz j v) (hij : i + j ≤ 4000) : Fit3 u v := fun n e => by
  subst e
  exact ⟨rt_fits (by omega) (by omega) h1.1 h2.2 hij, rt_fits (by omega) (by omega) h2.1 h1.2 (by omega), rt_fits (by omega) (by omega) h1.2 h2.2 hij⟩
end Go.Proofs.YtjlodljgfjjclaaGreat

namespace Go.Proofs.YtjlodljgfjjclaaGreat
open Go.RowKit Go.Shelf
set_option linter.unusedVariables false

set_option maxHeartbeats 4000000 in
set_option maxRecDepth 8000 in
theorem rbelow8 (s1 : Bool) (a1 : Option Addr) (l1 c1 : Nat) (z1 : List Int) (b1 : Option Addr) (m1 d1 : Nat) (y1 : List Int) (v : Rat) (w : World) (h1 : Rr w s1 a1 l1 c1 z1 b1 m1 d1 y1 v) (t1 : Sz 4000 v) :
  Calls Tryz.prog 61 #[.agg #[.bool s1, .slice a1 l1 c1, .slice b1 m1 d1]] w fun e w' => e = .returned (.tuple #[.int .i64 (bl8 v), .bool (decide (-9218868437227405311 ≤ bl8 v))]) ∧ Below w.heap.size w w' := by
 (have HT : Hid (∀ n, n = 4000 → Sz n v) := fun n e => by subst e; exact t1); (have HL : Hid (∀ k : Int, -9218868437227405312 < k → k ≤ 9218868437227405311 → decide (qcmp (pv8 k) v ≤ 0) = decide (k ≤ bl8 v)) := fun k h1 h2 => le_pv h1 h2); have hbd := bl8_bd v; (obtain ⟨B, hB⟩ : ∃ B, bl8 v = B := ⟨_, rfl⟩); rw [hB] at hbd HL; rw [hB]; clear t1 hB; have B0 : Below w.heap.size w w := Below.refl _ _
 go_enter Tryz.func61, Tryz.ntmps61
 (go_wp2_with fail); refine ent1 w _ _ (Q := fun W => Code.wp Tryz.prog _ _ _ W) ?_; intro x1 hb hs_x1 V0; replace h1 := Rr.after hb h1; replace B0 := step B0 hb; clear hb hs_x1
 go_loopw [4, 5] (fun sa sb wr => ∃ (i j : Int), sa = .int .i64 i ∧ sb = .int .i64 j ∧ Hid (-9218868437227405312 ≤ i ∧ i ≤ B ∧ B ≤ j ∧ j ≤ 9218868437227405311) ∧ Hid (Va wr w.heap.size 38 #[.bool s1, .slice a1 l1 c1, .slice b1 m1 d1]) ∧ Hid (Rr wr s1 a1 l1 c1 z1 b1 m1 d1 y1 v) ∧ Hid (Below w.heap.size w wr)) (fun sa sb _ => (intOf sb - intOf sa).toNat)
 case atStart => exact ⟨_, _, rfl, rfl, ⟨by omega, hbd.1, hbd.2, by omega⟩, V0, h1, B0⟩
 case round =>
  clear V0 h1 B0 hbd; obtain ⟨i, j, rfl, rfl, HI, V0', h1', B0'⟩ := hrel; have V0 := V0'.out; have h1 := h1'.out; have B0 := B0'.out; clear V0' h1' B0'; have hI := HI.out
  by_cases hij : i < j
  ·
   have g0 : decide (i < j) = true := decide_eq_true hij
   by_cases ga : 0 ≤ i
   ·
    have g1 : decide (0 ≤ i) = true := decide_eq_true ga; (obtain ⟨q, hq⟩ : ∃ q, (j - i + 1) / 2 = q := ⟨_, rfl⟩); (obtain ⟨M, hM⟩ : ∃ M, i + q = M := ⟨_, rfl⟩); (have w1 : IntKind.i64.wrap (j - i) = j - i := by rw [IntKind.wrap_i64]; omega); (have w2 : IntKind.i64.wrap (j - i + 1) = j - i + 1 := by rw [IntKind.wrap_i64]; omega); (have w3 : (j - i + 1).tdiv 2 = q := by rw [Int.tdiv_eq_ediv_of_nonneg (by omega)]; exact hq); (have w4 : IntKind.i64.wrap q = q := by rw [IntKind.wrap_i64]; omega); (have w5 : IntKind.i64.wrap M = M := by rw [IntKind.wrap_i64]; omega); (have HM : Hid (i < M ∧ M ≤ j) := by show _ ∧ _; omega); have HD := HL.out M (by omega) (by omega); have HD2 : Hid (decide (qcmp (pv8 M) v ≤ 0) = decide (M ≤ B)) := HD; (have wm : IntKind.i64.wrap (M - 1) = M - 1 := by rw [IntKind.wrap_i64]; omega); (have HA : Hid ((M).natAbs < 9218868437227405312) := by show _ < _; omega); (obtain ⟨cc, hcc⟩ : ∃ cc, qcmp (pv8 M) v = cc := ⟨_, rfl⟩)
    have HC : Hid (qcmp (pv8 M) v = cc) := hcc; rw [hcc] at HD; clear hI hcc HD2; have HI2 := HI; clear HI; have c_V0 := V0.d0; have f0_V0 := V0.frozen 0; have d_V0 := V0.d1; have f1_V0 := V0.frozen 1; have e_V0 := V0.d2; have f2_V0 := V0.frozen 2; have l_V0 := V0.lt; have m_V0 := Nat.le_of_lt l_V0; (go_wp2_with fail); clear c_V0 f0_V0 d_V0 f1_V0 e_V0 f2_V0 l_V0 m_V0; refine wp_region_noPanic ?_; replace V0 : Va wr.drew _ _ _ := V0; replace h1 := h1.drw; replace B0 := Below.drew B0; refine wp_region_held_drew (S := (fun W => W.cell? ⟨w.heap.size, 0, none⟩ = some (.bool s1) ∧ W.cell? ⟨w.heap.size, 1, none⟩ = some (.slice a1 l1 c1) ∧ W.cell? ⟨w.heap.size, 2, none⟩ = some (.slice b1 m1 d1))) (by kernel_rfl) ⟨V0.d0, V0.d1, V0.d2⟩ (fun hHeld => ?_); (obtain ⟨x2, hxd⟩ : ∃ xd, xd = wr.drew := ⟨_, rfl⟩); rw [← hxd] at V0 h1 B0 hHeld ⊢; clear hxd; refine tk 0 rfl hHeld ?_; simp only [gA, gB, Act.put, gD, gE, gF]; refine tk 2 rfl hHeld ?_; simp only [gA, gB, gC, Act.put, gD, gE, gF]
    refine wpAnyH_ready (rs := [1]) (by kernel_rfl) (by simp) ?_; refine AllReadyH.cons rfl (fun K hK => ?_) AllReadyH.nil; simp only [gA, gB, gC]; (go_simp); refine (rvalue8 M HA.out _).mono ?_; rintro e x3 ⟨sr, ar, lr, cr, zr, br, mr, dr, yr, rfl, hr, hb⟩; replace V0 := Va.after hb V0; replace h1 := Rr.after hb h1; replace B0 := step B0 hb; clear hb; (try go_wp2_with fail); refine hK.out _ _ ⟨V0.d0, V0.d1, V0.d2⟩ (fun hHeld => ?_); clear hK K; refine wpAnyH_ready (rs := [3]) (by kernel_rfl) (by simp) ?_; refine AllReadyH.cons rfl (fun K hK => ?_) AllReadyH.nil; simp only [gA, gB, gC]; (go_simp); refine (rcompare9 sr ar lr cr zr br mr dr yr (pv8 M) s1 a1 l1 c1 z1 b1 m1 d1 y1 v _ hr h1 ((sz_pv8 HA.out).mono (by omega)) (HT.out 4000 rfl)).mono ?_; rintro e x4 ⟨rfl, hb⟩; replace V0 := Va.after hb V0; replace h1 := Rr.after hb h1; replace hr := Rr.after hb hr; replace B0 := step B0 hb; clear hb; rw [HC.out]; (try go_wp2_with fail); refine hK.out _ _ ⟨V0.d0, V0.d1, V0.d2⟩ (fun hHeld => ?_)
    clear hK K; refine tk 4 rfl hHeld ?_; simp only [gA, gB, gC, Act.put, gD, gE, gF]
    by_cases gm : M ≤ B
    ·
     rw [decide_eq_true gm] at HD; refine wpAnyH_done (by kernel_rfl) ?_ _; refine NoPanic.normal ?_; clear hHeld; (go_wp2_with fail)
     go_roundw
     case rel => exact ⟨_, _, rfl, rfl, ⟨by have h5 := HM.out; have h6 := HI2.out; omega, gm, HI2.out.2.2⟩, V0, h1, B0⟩
     case measure => have h5 := HM.out; have h6 := HI2.out; simp only [intOf]; omega
    ·
     rw [decide_eq_false gm] at HD; refine wpAnyH_done (by kernel_rfl) ?_ _; refine NoPanic.normal ?_; clear hHeld; (go_wp2_with fail)
     go_roundw
     case rel => exact ⟨_, _, rfl, rfl, ⟨HI2.out.1, HI2.out.2.1, by omega, by have h5 := HM.out; have h6 := HI2.out; omega⟩, V0, h1, B0⟩
     case measure => have h5 := HM.out; have h6 := HI2.out; simp only [intOf]; omega
   ·
    have g1 : decide (0 ≤ i) = false := decide_eq_false ga
    by_cases gb : j < 0
    ·
     have g2 : decide (j < 0) = true := decide_eq_true gb; (obtain ⟨q, hq⟩ : ∃ q, (j - i + 1) / 2 = q := ⟨_, rfl⟩); (obtain ⟨M, hM⟩ : ∃ M, i + q = M := ⟨_, rfl⟩); (have w1 : IntKind.i64.wrap (j - i) = j - i := by rw [IntKind.wrap_i64]; omega); (have w2 : IntKind.i64.wrap (j - i + 1) = j - i + 1 := by rw [IntKind.wrap_i64]; omega); (have w3 : (j - i + 1).tdiv 2 = q := by rw [Int.tdiv_eq_ediv_of_nonneg (by omega)]; exact hq); (have w4 : IntKind.i64.wrap q = q := by rw [IntKind.wrap_i64]; omega); (have w5 : IntKind.i64.wrap M = M := by rw [IntKind.wrap_i64]; omega); (have HM : Hid (i < M ∧ M ≤ j) := by show _ ∧ _; omega); have HD := HL.out M (by omega) (by omega); have HD2 : Hid (decide (qcmp (pv8 M) v ≤ 0) = decide (M ≤ B)) := HD; (have wm : IntKind.i64.wrap (M - 1) = M - 1 := by rw [IntKind.wrap_i64]; omega); (have HA : Hid ((M).natAbs < 9218868437227405312) := by show _ < _; omega); (obtain ⟨cc, hcc⟩ : ∃ cc, qcmp (pv8 M) v = cc := ⟨_, rfl⟩)
     have HC : Hid (qcmp (pv8 M) v = cc) := hcc; rw [hcc] at HD; clear hI hcc HD2; have HI2 := HI; clear HI; have c_V0 := V0.d0; have f0_V0 := V0.frozen 0; have d_V0 := V0.d1; have f1_V0 := V0.frozen 1; have e_V0 := V0.d2; have f2_V0 := V0.frozen 2; have l_V0 := V0.lt; have m_V0 := Nat.le_of_lt l_V0; (go_wp2_with fail); clear c_V0 f0_V0 d_V0 f1_V0 e_V0 f2_V0 l_V0 m_V0; refine wp_region_noPanic ?_; replace V0 : Va wr.drew _ _ _ := V0; replace h1 := h1.drw; replace B0 := Below.drew B0; refine wp_region_held_drew (S := (fun W => W.cell? ⟨w.heap.size, 0, none⟩ = some (.bool s1) ∧ W.cell? ⟨w.heap.size, 1, none⟩ = some (.slice a1 l1 c1) ∧ W.cell? ⟨w.heap.size, 2, none⟩ = some (.slice b1 m1 d1))) (by kernel_rfl) ⟨V0.d0, V0.d1, V0.d2⟩ (fun hHeld => ?_); (obtain ⟨x2, hxd⟩ : ∃ xd, xd = wr.drew := ⟨_, rfl⟩); rw [← hxd] at V0 h1 B0 hHeld ⊢; clear hxd; refine tk 0 rfl hHeld ?_; simp only [gA, gB, Act.put, gD, gE, gF]; refine tk 2 rfl hHeld ?_; simp only [gA, gB, gC, Act.put, gD, gE, gF]
     refine wpAnyH_ready (rs := [1]) (by kernel_rfl) (by simp) ?_; refine AllReadyH.cons rfl (fun K hK => ?_) AllReadyH.nil; simp only [gA, gB, gC]; (go_simp); refine (rvalue8 M HA.out _).mono ?_; rintro e x3 ⟨sr, ar, lr, cr, zr, br, mr, dr, yr, rfl, hr, hb⟩; replace V0 := Va.after hb V0; replace h1 := Rr.after hb h1; replace B0 := step B0 hb; clear hb; (try go_wp2_with fail); refine hK.out _ _ ⟨V0.d0, V0.d1, V0.d2⟩ (fun hHeld => ?_); clear hK K; refine wpAnyH_ready (rs := [3]) (by kernel_rfl) (by simp) ?_; refine AllReadyH.cons rfl (fun K hK => ?_) AllReadyH.nil; simp only [gA, gB, gC]; (go_simp); refine (rcompare9 sr ar lr cr zr br mr dr yr (pv8 M) s1 a1 l1 c1 z1 b1 m1 d1 y1 v _ hr h1 ((sz_pv8 HA.out).mono (by omega)) (HT.out 4000 rfl)).mono ?_; rintro e x4 ⟨rfl, hb⟩; replace V0 := Va.after hb V0; replace h1 := Rr.after hb h1; replace hr := Rr.after hb hr; replace B0 := step B0 hb; clear hb; rw [HC.out]; (try go_wp2_with fail); refine hK.out _ _ ⟨V0.d0, V0.d1, V0.d2⟩ (fun hHeld => ?_)
     clear hK K; refine tk 4 rfl hHeld ?_; simp only [gA, gB, gC, Act.put, gD, gE, gF]
     by_cases gm : M ≤ B
     ·
      rw [decide_eq_true gm] at HD; refine wpAnyH_done (by kernel_rfl) ?_ _; refine NoPanic.normal ?_; clear hHeld; (go_wp2_with fail)
      go_roundw
      case rel => exact ⟨_, _, rfl, rfl, ⟨by have h5 := HM.out; have h6 := HI2.out; omega, gm, HI2.out.2.2⟩, V0, h1, B0⟩
      case measure => have h5 := HM.out; have h6 := HI2.out; simp only [intOf]; omega
     ·
      rw [decide_eq_false gm] at HD; refine wpAnyH_done (by kernel_rfl) ?_ _; refine NoPanic.normal ?_; clear hHeld; (go_wp2_with fail)
      go_roundw
      case rel => exact ⟨_, _, rfl, rfl, ⟨HI2.out.1, HI2.out.2.1, by omega, by have h5 := HM.out; have h6 := HI2.out; omega⟩, V0, h1, B0⟩
      case measure => have h5 := HM.out; have h6 := HI2.out; simp only [intOf]; omega
    ·
     have g2 : decide (j < 0) = false := decide_eq_false gb; (have HM : Hid (i < (0 : Int) ∧ (0 : Int) ≤ j) := by show _ ∧ _; omega); have HD := HL.out (0 : Int) (by omega) (by omega); have HD2 : Hid (decide (qcmp (pv8 (0 : Int)) v ≤ 0) = decide ((0 : Int) ≤ B)) := HD; (have wm : IntKind.i64.wrap ((0 : Int) - 1) = (0 : Int) - 1 := by rw [IntKind.wrap_i64]; omega); (have HA : Hid (((0 : Int)).natAbs < 9218868437227405312) := by show _ < _; omega); (obtain ⟨cc, hcc⟩ : ∃ cc, qcmp (pv8 (0 : Int)) v = cc := ⟨_, rfl⟩); have HC : Hid (qcmp (pv8 (0 : Int)) v = cc) := hcc; rw [hcc] at HD; clear hI hcc HD2; have HI2 := HI; clear HI; have c_V0 := V0.d0; have f0_V0 := V0.frozen 0; have d_V0 := V0.d1; have f1_V0 := V0.frozen 1; have e_V0 := V0.d2; have f2_V0 := V0.frozen 2; have l_V0 := V0.lt; have m_V0 := Nat.le_of_lt l_V0; (go_wp2_with fail); clear c_V0 f0_V0 d_V0 f1_V0 e_V0 f2_V0 l_V0 m_V0; refine wp_region_noPanic ?_; replace V0 : Va wr.drew _ _ _ := V0
     replace h1 := h1.drw; replace B0 := Below.drew B0; refine wp_region_held_drew (S := (fun W => W.cell? ⟨w.heap.size, 0, none⟩ = some (.bool s1) ∧ W.cell? ⟨w.heap.size, 1, none⟩ = some (.slice a1 l1 c1) ∧ W.cell? ⟨w.heap.size, 2, none⟩ = some (.slice b1 m1 d1))) (by kernel_rfl) ⟨V0.d0, V0.d1, V0.d2⟩ (fun hHeld => ?_); (obtain ⟨x2, hxd⟩ : ∃ xd, xd = wr.drew := ⟨_, rfl⟩); rw [← hxd] at V0 h1 B0 hHeld ⊢; clear hxd; refine tk 0 rfl hHeld ?_; simp only [gA, gB, Act.put, gD, gE, gF]; refine tk 2 rfl hHeld ?_; simp only [gA, gB, gC, Act.put, gD, gE, gF]; refine wpAnyH_ready (rs := [1]) (by kernel_rfl) (by simp) ?_; refine AllReadyH.cons rfl (fun K hK => ?_) AllReadyH.nil; simp only [gA, gB, gC]; (go_simp); refine (rvalue8 (0 : Int) HA.out _).mono ?_; rintro e x3 ⟨sr, ar, lr, cr, zr, br, mr, dr, yr, rfl, hr, hb⟩; replace V0 := Va.after hb V0; replace h1 := Rr.after hb h1; replace B0 := step B0 hb; clear hb; (try go_wp2_with fail); refine hK.out _ _ ⟨V0.d0, V0.d1, V0.d2⟩ (fun hHeld => ?_)
     clear hK K; refine wpAnyH_ready (rs := [3]) (by kernel_rfl) (by simp) ?_; refine AllReadyH.cons rfl (fun K hK => ?_) AllReadyH.nil; simp only [gA, gB, gC]; (go_simp); refine (rcompare9 sr ar lr cr zr br mr dr yr (pv8 (0 : Int)) s1 a1 l1 c1 z1 b1 m1 d1 y1 v _ hr h1 ((sz_pv8 HA.out).mono (by omega)) (HT.out 4000 rfl)).mono ?_; rintro e x4 ⟨rfl, hb⟩; replace V0 := Va.after hb V0; replace h1 := Rr.after hb h1; replace hr := Rr.after hb hr; replace B0 := step B0 hb; clear hb; rw [HC.out]; (try go_wp2_with fail); refine hK.out _ _ ⟨V0.d0, V0.d1, V0.d2⟩ (fun hHeld => ?_); clear hK K; refine tk 4 rfl hHeld ?_; simp only [gA, gB, gC, Act.put, gD, gE, gF]
     by_cases gm : (0 : Int) ≤ B
     ·
      rw [decide_eq_true gm] at HD; refine wpAnyH_done (by kernel_rfl) ?_ _; refine NoPanic.normal ?_; clear hHeld; (go_wp2_with fail)
      go_roundw
      case rel => exact ⟨_, _, rfl, rfl, ⟨by have h5 := HM.out; have h6 := HI2.out; omega, gm, HI2.out.2.2⟩, V0, h1, B0⟩
      case measure => have h5 := HM.out; have h6 := HI2.out; simp only [intOf]; omega
     ·
      rw [decide_eq_false gm] at HD; refine wpAnyH_done (by kernel_rfl) ?_ _; refine NoPanic.normal ?_; clear hHeld; (go_wp2_with fail)
      go_roundw
      case rel => exact ⟨_, _, rfl, rfl, ⟨HI2.out.1, HI2.out.2.1, by omega, by have h5 := HM.out; have h6 := HI2.out; omega⟩, V0, h1, B0⟩
      case measure => have h5 := HM.out; have h6 := HI2.out; simp only [intOf]; omega
  ·
   have g0 : decide (i < j) = false := decide_eq_false hij; (obtain rfl : i = B := by omega); clear hI; have c_V0 := V0.d0; have f0_V0 := V0.frozen 0; have d_V0 := V0.d1; have f1_V0 := V0.frozen 1; have e_V0 := V0.d2; have f2_V0 := V0.frozen 2; have l_V0 := V0.lt; have m_V0 := Nat.le_of_lt l_V0; (go_wp2_with fail)
   go_ret2
   exact ⟨rfl, B0⟩
end Go.Proofs.YtjlodljgfjjclaaGreat

namespace Go.Proofs.YtjlodljgfjjclaaGreat
open Go.RowKit Go.Shelf
set_option linter.unusedVariables false

theorem fw_last : fw (-9218868437227405312) = 18442240474082181120 := rfl
theorem fw_first : fw 9218868437227405312 = 9218868437227405312 := rfl
set_option maxHeartbeats 4000000 in
set_option maxRecDepth 8000 in
theorem rfloor8 (s1 : Bool) (a1 : Option Addr) (l1 c1 : Nat) (z1 : List Int) (b1 : Option Addr) (m1 d1 : Nat) (y1 : List Int) (v : Rat) (w : World) (h1 : Rr w s1 a1 l1 c1 z1 b1 m1 d1 y1 v) (t1 : Sz 4000 v) :
    Calls Tryz.prog 21 #[.agg #[.bool s1, .slice a1 l1 c1, .slice b1 m1 d1]] w fun e w' => e = .returned (.float .f64 (fw (bl8 v))) ∧ Below w.heap.size w w' := by
  have HT : Hid (∀ n, n = 4000 → Sz n v) := fun n e => by subst e; exact t1
  clear t1
  have hbd := bl8_bd v
  obtain ⟨B, hB⟩ : ∃ B, bl8 v = B := ⟨_, rfl⟩
  have HB : Hid (bl8 v = B) := hB
  rw [hB] at hbd
  rw [hB]
  clear hB
  by_cases g : -9218868437227405311 ≤ B
  ·
    have g1 : decide (-9218868437227405311 ≤ B) = true := by rw [decide_eq_true_iff]; omega
    have HA : Hid (B.natAbs ≤ 9218868437227405312) := by show _ ≤ _; omega
    clear g hbd
    have B0 : Below w.heap.size w w := Below.refl _ _
    go_enter Tryz.func21, Tryz.ntmps21
    go_wp2_with fail
    refine ent1 w _ _ (Q := fun W => Calls Tryz.prog _ _ W _) ?_
    intro x1 hb hs_x1 V0
    replace h1 := Rr.after hb h1
    replace B0 := step B0 hb
    clear hb hs_x1
    refine (rbelow8 s1 a1 l1 c1 z1 b1 m1 d1 y1 v x1 h1 (HT.out 4000 rfl)).mono ?_
    rintro e x2 ⟨rfl, hb⟩
    replace V0 := Va.after hb V0
    replace h1 := Rr.after hb h1
    replace B0 := step B0 hb
    clear hb
    rw [HB.out, g1]
    have c_V0 := V0.d0
    have f0_V0 := V0.frozen 0
    have d_V0 := V0.d1
    have f1_V0 := V0.frozen 1
    have e_V0 := V0.d2
    have f2_V0 := V0.frozen 2
    have l_V0 := V0.lt
    have m_V0 := Nat.le_of_lt l_V0
    go_wp2_with fail
    refine (rfloat8 B HA.out _).mono ?_
    rintro e xw ⟨rfl, hw⟩
    rw [hw]
    clear hw
    go_wp2_with fail
    go_ret
    exact ⟨rfl, B0⟩
  ·
    have g1 : decide (-9218868437227405311 ≤ B) = false := by rw [decide_eq_false_iff_not]; omega
    have HA : Hid (B.natAbs ≤ 9218868437227405312) := by show _ ≤ _; omega
    have HB2 : Hid (B = -9218868437227405312) := by show _ = _; omega
    clear g hbd
    have B0 : Below w.heap.size w w := Below.refl _ _
    go_enter Tryz.func21, Tryz.ntmps21
    go_wp2_with fail
    refine ent1 w _ _ (Q := fun W => Calls Tryz.prog _ _ W _) ?_
    intro x1 hb hs_x1 V0
    replace h1 := Rr.after hb h1
    replace B0 := step B0 hb
    clear hb hs_x1
    refine (rbelow8 s1 a1 l1 c1 z1 b1 m1 d1 y1 v x1 h1 (HT.out 4000 rfl)).mono ?_
    rintro e x2 ⟨rfl, hb⟩
    replace V0 := Va.after hb V0
    replace h1 := Rr.after hb h1
    replace B0 := step B0 hb
    clear hb
    rw [HB.out, g1]
    have c_V0 := V0.d0
    have f0_V0 := V0.frozen 0
    have d_V0 := V0.d1
    have f1_V0 := V0.frozen 1
    have e_V0 := V0.d2
    have f2_V0 := V0.frozen 2
    have l_V0 := V0.lt
    have m_V0 := Nat.le_of_lt l_V0
    go_wp2_with fail
    refine (inf_n _).mono ?_
    rintro e xw ⟨rfl, hw⟩
    rw [hw]
    clear hw
    go_wp2_with fail
    go_ret
    exact ⟨by rw [HB2.out, fw_last]; rfl, B0⟩
set_option maxHeartbeats 4000000 in
set_option maxRecDepth 8000 in
theorem rceil8 (s1 : Bool) (a1 : Option Addr) (l1 c1 : Nat) (z1 : List Int) (b1 : Option Addr) (m1 d1 : Nat) (y1 : List Int) (v : Rat) (w : World) (h1 : Rr w s1 a1 l1 c1 z1 b1 m1 d1 y1 v) (t1 : Sz 4000 v) :
    Calls Tryz.prog 23 #[.agg #[.bool s1, .slice a1 l1 c1, .slice b1 m1 d1]] w fun e w' => e = .returned (.float .f64 (fw (-bl8 (-v)))) ∧ Below w.heap.size w w' := by
  have HT : Hid (∀ n, n = 4000 → Sz n v) := fun n e => by subst e; exact t1
  clear t1
  have hbd := bl8_bd (-v)
  obtain ⟨B, hB⟩ : ∃ B, bl8 (-v) = B := ⟨_, rfl⟩
  have HB : Hid (bl8 (-v) = B) := hB
  rw [hB] at hbd
  rw [hB]
  clear hB
  by_cases g : -9218868437227405311 ≤ B
  ·
    have g1 : decide (-9218868437227405311 ≤ B) = true := by rw [decide_eq_true_iff]; omega
    have HA : Hid ((-B).natAbs ≤ 9218868437227405312) := by show _ ≤ _; omega
    have wn : IntKind.i64.wrap (-B) = -B := by rw [IntKind.wrap_i64]; omega
    clear g hbd
    have B0 : Below w.heap.size w w := Below.refl _ _
    go_enter Tryz.func23, Tryz.ntmps23
    go_wp2_with fail
    refine ent1 w _ _ (Q := fun W => Calls Tryz.prog _ _ W _) ?_
    intro x1 hb hs_x1 V0
    replace h1 := Rr.after hb h1
    replace B0 := step B0 hb
    clear hb hs_x1
    refine (rneg5 s1 a1 l1 c1 z1 b1 m1 d1 y1 v x1 h1).mono ?_
    rintro e x2 ⟨sr, ar, lr, cr, zr, br, mr, dr, yr, rfl, hr, hb⟩
    replace V0 := Va.after hb V0
    replace h1 := Rr.after hb h1
    replace B0 := step B0 hb
    clear hb
    have c_V0 := V0.d0
    have f0_V0 := V0.frozen 0
    have d_V0 := V0.d1
    have f1_V0 := V0.frozen 1
    have e_V0 := V0.d2
    have f2_V0 := V0.frozen 2
    have l_V0 := V0.lt
    have m_V0 := Nat.le_of_lt l_V0
    go_wp2_with fail
    refine (rbelow8 sr ar lr cr zr br mr dr yr (-v) x2 hr (HT.out 4000 rfl).neg).mono ?_
    rintro e x3 ⟨rfl, hb⟩
    replace V0 := Va.after hb V0
    replace h1 := Rr.after hb h1
    replace hr := Rr.after hb hr
    replace B0 := step B0 hb
    clear hb
    rw [HB.out, g1]
    clear c_V0 f0_V0 d_V0 f1_V0 e_V0 f2_V0 l_V0 m_V0
    have c_V0 := V0.d0
    have f0_V0 := V0.frozen 0
    have d_V0 := V0.d1
    have f1_V0 := V0.frozen 1
    have e_V0 := V0.d2
    have f2_V0 := V0.frozen 2
    have l_V0 := V0.lt
    have m_V0 := Nat.le_of_lt l_V0
    go_wp2_with fail
    refine (rfloat8 (-B) HA.out _).mono ?_
    rintro e xw ⟨rfl, hw⟩
    rw [hw]
    clear hw
    go_wp2_with fail
    go_ret
    exact ⟨rfl, B0⟩
  ·
    have g1 : decide (-9218868437227405311 ≤ B) = false := by rw [decide_eq_false_iff_not]; omega
    have HA : Hid ((-B).natAbs ≤ 9218868437227405312) := by show _ ≤ _; omega
    have HB2 : Hid (B = -9218868437227405312) := by show _ = _; omega
    have wn : IntKind.i64.wrap (-B) = -B := by rw [IntKind.wrap_i64]; omega
    clear g hbd
    have B0 : Below w.heap.size w w := Below.refl _ _
    go_enter Tryz.func23, Tryz.ntmps23
    go_wp2_with fail
    refine ent1 w _ _ (Q := fun W => Calls Tryz.prog _ _ W _) ?_
    intro x1 hb hs_x1 V0
    replace h1 := Rr.after hb h1
    replace B0 := step B0 hb
    clear hb hs_x1
    refine (rneg5 s1 a1 l1 c1 z1 b1 m1 d1 y1 v x1 h1).mono ?_
    rintro e x2 ⟨sr, ar, lr, cr, zr, br, mr, dr, yr, rfl, hr, hb⟩
    replace V0 := Va.after hb V0
    replace h1 := Rr.after hb h1
    replace B0 := step B0 hb
    clear hb
    have c_V0 := V0.d0
    have f0_V0 := V0.frozen 0
    have d_V0 := V0.d1
    have f1_V0 := V0.frozen 1
    have e_V0 := V0.d2
    have f2_V0 := V0.frozen 2
    have l_V0 := V0.lt
    have m_V0 := Nat.le_of_lt l_V0
    go_wp2_with fail
    refine (rbelow8 sr ar lr cr zr br mr dr yr (-v) x2 hr (HT.out 4000 rfl).neg).mono ?_
    rintro e x3 ⟨rfl, hb⟩
    replace V0 := Va.after hb V0
    replace h1 := Rr.after hb h1
    replace hr := Rr.after hb hr
    replace B0 := step B0 hb
    clear hb
    rw [HB.out, g1]
    clear c_V0 f0_V0 d_V0 f1_V0 e_V0 f2_V0 l_V0 m_V0
    have c_V0 := V0.d0
    have f0_V0 := V0.frozen 0
    have d_V0 := V0.d1
    have f1_V0 := V0.frozen 1
    have e_V0 := V0.d2
    have f2_V0 := V0.frozen 2
    have l_V0 := V0.lt
    have m_V0 := Nat.le_of_lt l_V0
    go_wp2_with fail
    refine (inf_p _).mono ?_
    rintro e xw ⟨rfl, hw⟩
    rw [hw]
    clear hw
    go_wp2_with fail
    go_ret
    exact ⟨by rw [HB2.out]; rfl, B0⟩
set_option maxHeartbeats 4000000 in
set_option maxRecDepth 8000 in
theorem rexact8 (s1 : Bool) (a1 : Option Addr) (l1 c1 : Nat) (z1 : List Int) (b1 : Option Addr) (m1 d1 : Nat) (y1 : List Int) (v : Rat) (w : World) (h1 : Rr w s1 a1 l1 c1 z1 b1 m1 d1 y1 v) (t1 : Sz 4000 v) (k p : Nat) (hP : Pv v k p) :
  Calls Tryz.prog 18 #[.agg #[.bool s1, .slice a1 l1 c1, .slice b1 m1 d1]] w fun e w' => e = .returned (.tuple #[.float .f64 (exw v k p), .bool (exb p)]) ∧ Below w.heap.size w w' := by
 (have HT : Hid (∀ n, n = 4000 → Sz n v) := fun n e => by subst e; exact t1); clear t1; have hbd := bl8_bd v; have hy := @ex_yes v k p hP; have hn := @ex_no v k p hP; (obtain ⟨B, hB⟩ : ∃ B, bl8 v = B := ⟨_, rfl⟩); have HB : Hid (bl8 v = B) := hB; rw [hB] at hbd hy hn; clear hB
 by_cases g : -9218868437227405311 ≤ B
 ·
  (have g1 : decide (-9218868437227405311 ≤ B) = true := by rw [decide_eq_true_iff]; omega); (have HA : Hid (B.natAbs < 9218868437227405312) := by show _ < _; omega); (have HA2 : Hid (B.natAbs ≤ 9218868437227405312) := by show _ ≤ _; omega); (obtain ⟨cc, hcc⟩ : ∃ cc, qcmp (pv8 B) v = cc := ⟨_, rfl⟩); have HC : Hid (qcmp (pv8 B) v = cc) := hcc; rw [hcc] at hy hn; clear hcc
  by_cases p0 : p = 0
  ·
   have HE : Hid (fw B = exw v k p ∧ exb p = true) := ⟨(hy p0).2.2, decide_eq_true p0⟩; have hc := (hy p0).2.1; (have g2 : (cc == 0) = true := by rw [hc]; rfl); (have g3 : (cc != 0) = false := by rw [hc]; rfl); clear g hbd hy hn p0; have B0 : Below w.heap.size w w := Below.refl _ _
   go_enter Tryz.func18, Tryz.ntmps18
   (go_wp2_with fail); refine ent1 w _ _ (Q := fun W => Calls Tryz.prog _ _ W _) ?_; intro x1 hb hs_x1 V0; replace h1 := Rr.after hb h1; replace B0 := step B0 hb; clear hb hs_x1; refine (rbelow8 s1 a1 l1 c1 z1 b1 m1 d1 y1 v x1 h1 (HT.out 4000 rfl)).mono ?_; rintro e x2 ⟨rfl, hb⟩; replace V0 := Va.after hb V0; replace h1 := Rr.after hb h1; replace B0 := step B0 hb; clear hb; rw [HB.out, g1]; have c_V0 := V0.d0; have f0_V0 := V0.frozen 0; have d_V0 := V0.d1; have f1_V0 := V0.frozen 1; have e_V0 := V0.d2; have f2_V0 := V0.frozen 2; have l_V0 := V0.lt; have m_V0 := Nat.le_of_lt l_V0; (go_wp2_with fail); clear c_V0 f0_V0 d_V0 f1_V0 e_V0 f2_V0 l_V0 m_V0; refine wp_region_noPanic ?_; replace V0 : Va x2.drew _ _ _ := V0; replace h1 := h1.drw; replace B0 := Below.drew B0; refine wp_region_held_drew (S := (fun W => W.cell? ⟨w.heap.size, 0, none⟩ = some (.bool s1) ∧ W.cell? ⟨w.heap.size, 1, none⟩ = some (.slice a1 l1 c1) ∧ W.cell? ⟨w.heap.size, 2, none⟩ = some (.slice b1 m1 d1))) (by kernel_rfl) ⟨V0.d0, V0.d1, V0.d2⟩ (fun hHeld => ?_)
   (obtain ⟨x3, hxd⟩ : ∃ xd, xd = x2.drew := ⟨_, rfl⟩); rw [← hxd] at V0 h1 B0 hHeld ⊢; clear hxd; refine tk 0 rfl hHeld ?_; simp only [gA, gB, Act.put, gD, gE, gF]; refine tk 1 rfl hHeld ?_; simp only [gA, gB, gC, Act.put, gD, gE, gF]; refine tk 2 rfl hHeld ?_; simp only [gA, gB, gC, Act.put, gD, gE, gF]; refine tk 3 rfl hHeld ?_; simp only [gA, gB, gC, Act.put, gD, gE, gF]; refine tk 5 rfl hHeld ?_; simp only [gA, gB, gC, Act.put, gD, gE, gF]; refine wpAnyH_ready (rs := [4]) (by kernel_rfl) (by simp) ?_; refine AllReadyH.cons rfl (fun K hK => ?_) AllReadyH.nil; simp only [gA, gB, gC]; (go_simp); refine (rvalue8 B HA.out _).mono ?_; rintro e x4 ⟨sr, ar, lr, cr, zr, br, mr, dr, yr, rfl, hr, hb⟩; replace V0 := Va.after hb V0; replace h1 := Rr.after hb h1; replace B0 := step B0 hb; clear hb; (try go_wp2_with fail); refine hK.out _ _ ⟨V0.d0, V0.d1, V0.d2⟩ (fun hHeld => ?_); clear hK K; refine wpAnyH_ready (rs := [6]) (by kernel_rfl) (by simp) ?_
   refine AllReadyH.cons rfl (fun K hK => ?_) AllReadyH.nil; simp only [gA, gB, gC]; (go_simp); refine (rcompare9 sr ar lr cr zr br mr dr yr (pv8 B) s1 a1 l1 c1 z1 b1 m1 d1 y1 v _ hr h1 ((sz_pv8 HA.out).mono (by omega)) (HT.out 4000 rfl)).mono ?_; rintro e x5 ⟨rfl, hb⟩; replace V0 := Va.after hb V0; replace h1 := Rr.after hb h1; replace hr := Rr.after hb hr; replace B0 := step B0 hb; clear hb; rw [HC.out]; (try go_wp2_with fail); refine hK.out _ _ ⟨V0.d0, V0.d1, V0.d2⟩ (fun hHeld => ?_); clear hK K; refine tk 7 rfl hHeld ?_; simp only [gA, gB, gC, Act.put, gD, gE, gF]; refine tk 8 rfl hHeld ?_; simp only [gA, gB, gC, Act.put, gD, gE, gF]; refine wpAnyH_done (by kernel_rfl) ?_ _; refine NoPanic.normal ?_; clear hHeld; have c_V0 := V0.d0; have f0_V0 := V0.frozen 0; have d_V0 := V0.d1; have f1_V0 := V0.frozen 1; have e_V0 := V0.d2; have f2_V0 := V0.frozen 2; have l_V0 := V0.lt; have m_V0 := Nat.le_of_lt l_V0; (go_wp2_with fail); refine (rfloat8 B HA2.out _).mono ?_
   rintro e xw ⟨rfl, hw⟩; rw [hw]; clear hw; (go_wp2_with fail)
   go_ret2
   exact ⟨by rw [← HE.out.1, HE.out.2]; rfl, B0⟩
  ·
   have HE : Hid (0 = exw v k p ∧ exb p = false) := ⟨(if_neg p0).symm, decide_eq_false p0⟩; have hc := hn p0 g; (have g2 : (cc == 0) = false := by rw [beq_eq_false_iff_ne]; exact hc); (have g3 : (cc != 0) = true := by rw [bne_iff_ne]; exact hc); clear g hbd hy hn p0; have B0 : Below w.heap.size w w := Below.refl _ _
   go_enter Tryz.func18, Tryz.ntmps18
   (go_wp2_with fail); refine ent1 w _ _ (Q := fun W => Calls Tryz.prog _ _ W _) ?_; intro x1 hb hs_x1 V0; replace h1 := Rr.after hb h1; replace B0 := step B0 hb; clear hb hs_x1; refine (rbelow8 s1 a1 l1 c1 z1 b1 m1 d1 y1 v x1 h1 (HT.out 4000 rfl)).mono ?_; rintro e x2 ⟨rfl, hb⟩; replace V0 := Va.after hb V0; replace h1 := Rr.after hb h1; replace B0 := step B0 hb; clear hb; rw [HB.out, g1]; have c_V0 := V0.d0; have f0_V0 := V0.frozen 0; have d_V0 := V0.d1; have f1_V0 := V0.frozen 1; have e_V0 := V0.d2; have f2_V0 := V0.frozen 2; have l_V0 := V0.lt; have m_V0 := Nat.le_of_lt l_V0; (go_wp2_with fail); clear c_V0 f0_V0 d_V0 f1_V0 e_V0 f2_V0 l_V0 m_V0; refine wp_region_noPanic ?_; replace V0 : Va x2.drew _ _ _ := V0; replace h1 := h1.drw; replace B0 := Below.drew B0; refine wp_region_held_drew (S := (fun W => W.cell? ⟨w.heap.size, 0, none⟩ = some (.bool s1) ∧ W.cell? ⟨w.heap.size, 1, none⟩ = some (.slice a1 l1 c1) ∧ W.cell? ⟨w.heap.size, 2, none⟩ = some (.slice b1 m1 d1))) (by kernel_rfl) ⟨V0.d0, V0.d1, V0.d2⟩ (fun hHeld => ?_)
   (obtain ⟨x3, hxd⟩ : ∃ xd, xd = x2.drew := ⟨_, rfl⟩); rw [← hxd] at V0 h1 B0 hHeld ⊢; clear hxd; refine tk 0 rfl hHeld ?_; simp only [gA, gB, Act.put, gD, gE, gF]; refine tk 1 rfl hHeld ?_; simp only [gA, gB, gC, Act.put, gD, gE, gF]; refine tk 2 rfl hHeld ?_; simp only [gA, gB, gC, Act.put, gD, gE, gF]; refine tk 3 rfl hHeld ?_; simp only [gA, gB, gC, Act.put, gD, gE, gF]; refine tk 5 rfl hHeld ?_; simp only [gA, gB, gC, Act.put, gD, gE, gF]; refine wpAnyH_ready (rs := [4]) (by kernel_rfl) (by simp) ?_; refine AllReadyH.cons rfl (fun K hK => ?_) AllReadyH.nil; simp only [gA, gB, gC]; (go_simp); refine (rvalue8 B HA.out _).mono ?_; rintro e x4 ⟨sr, ar, lr, cr, zr, br, mr, dr, yr, rfl, hr, hb⟩; replace V0 := Va.after hb V0; replace h1 := Rr.after hb h1; replace B0 := step B0 hb; clear hb; (try go_wp2_with fail); refine hK.out _ _ ⟨V0.d0, V0.d1, V0.d2⟩ (fun hHeld => ?_); clear hK K; refine wpAnyH_ready (rs := [6]) (by kernel_rfl) (by simp) ?_
   refine AllReadyH.cons rfl (fun K hK => ?_) AllReadyH.nil; simp only [gA, gB, gC]; (go_simp); refine (rcompare9 sr ar lr cr zr br mr dr yr (pv8 B) s1 a1 l1 c1 z1 b1 m1 d1 y1 v _ hr h1 ((sz_pv8 HA.out).mono (by omega)) (HT.out 4000 rfl)).mono ?_; rintro e x5 ⟨rfl, hb⟩; replace V0 := Va.after hb V0; replace h1 := Rr.after hb h1; replace hr := Rr.after hb hr; replace B0 := step B0 hb; clear hb; rw [HC.out]; (try go_wp2_with fail); refine hK.out _ _ ⟨V0.d0, V0.d1, V0.d2⟩ (fun hHeld => ?_); clear hK K; refine tk 7 rfl hHeld ?_; simp only [gA, gB, gC, Act.put, gD, gE, gF]; refine tk 8 rfl hHeld ?_; simp only [gA, gB, gC, Act.put, gD, gE, gF]; refine wpAnyH_done (by kernel_rfl) ?_ _; refine NoPanic.normal ?_; clear hHeld; have c_V0 := V0.d0; have f0_V0 := V0.frozen 0; have d_V0 := V0.d1; have f1_V0 := V0.frozen 1; have e_V0 := V0.d2; have f2_V0 := V0.frozen 2; have l_V0 := V0.lt; have m_V0 := Nat.le_of_lt l_V0; (go_wp2_with fail)
   go_ret2
   exact ⟨by rw [← HE.out.1, HE.out.2]; rfl, B0⟩
 ·
  (have g1 : decide (-9218868437227405311 ≤ B) = false := by rw [decide_eq_false_iff_not]; omega); (have HE : Hid (0 = exw v k p ∧ exb p = false) := by have p0 : p ≠ 0 := fun e => g (hy e).1; exact ⟨(if_neg p0).symm, decide_eq_false p0⟩); clear g hbd hy hn; have B0 : Below w.heap.size w w := Below.refl _ _
  go_enter Tryz.func18, Tryz.ntmps18
  (go_wp2_with fail); refine ent1 w _ _ (Q := fun W => Calls Tryz.prog _ _ W _) ?_; intro x1 hb hs_x1 V0; replace h1 := Rr.after hb h1; replace B0 := step B0 hb; clear hb hs_x1; refine (rbelow8 s1 a1 l1 c1 z1 b1 m1 d1 y1 v x1 h1 (HT.out 4000 rfl)).mono ?_; rintro e x2 ⟨rfl, hb⟩; replace V0 := Va.after hb V0; replace h1 := Rr.after hb h1; replace B0 := step B0 hb; clear hb; rw [HB.out, g1]; have c_V0 := V0.d0; have f0_V0 := V0.frozen 0; have d_V0 := V0.d1; have f1_V0 := V0.frozen 1; have e_V0 := V0.d2; have f2_V0 := V0.frozen 2; have l_V0 := V0.lt; have m_V0 := Nat.le_of_lt l_V0; (go_wp2_with fail); clear c_V0 f0_V0 d_V0 f1_V0 e_V0 f2_V0 l_V0 m_V0; refine wp_region_noPanic ?_; replace V0 : Va x2.drew _ _ _ := V0; replace h1 := h1.drw; replace B0 := Below.drew B0; refine wp_region_held_drew (S := (fun W => W.cell? ⟨w.heap.size, 0, none⟩ = some (.bool s1) ∧ W.cell? ⟨w.heap.size, 1, none⟩ = some (.slice a1 l1 c1) ∧ W.cell? ⟨w.heap.size, 2, none⟩ = some (.slice b1 m1 d1))) (by kernel_rfl) ⟨V0.d0, V0.d1, V0.d2⟩ (fun hHeld => ?_)
  (obtain ⟨x3, hxd⟩ : ∃ xd, xd = x2.drew := ⟨_, rfl⟩); rw [← hxd] at V0 h1 B0 hHeld ⊢; clear hxd; refine tk 0 rfl hHeld ?_; simp only [gA, gB, Act.put, gD, gE, gF]; refine tk 1 rfl hHeld ?_; simp only [gA, gB, gC, Act.put, gD, gE, gF]; refine tk 2 rfl hHeld ?_; simp only [gA, gB, gC, Act.put, gD, gE, gF]; refine wpAnyH_take (i := 3) (v := undef) rfl (by kernel_rfl) (by kernel_rfl) (by kernel_rfl) (fun _ _ _ h => h) (Or.inr ⟨by rfl, rfl⟩) hHeld ?_; simp only [gA, gB, gC, Act.put, gD, gE, gF]; refine wpAnyH_take (i := 4) (v := undef) rfl (by kernel_rfl) (by kernel_rfl) (by kernel_rfl) (fun _ _ _ h => h) (Or.inr ⟨by rfl, rfl⟩) hHeld ?_; simp only [gA, gB, gC, Act.put, gD, gE, gF]; refine wpAnyH_take (i := 5) (v := undef) rfl (by kernel_rfl) (by kernel_rfl) (by kernel_rfl) (fun _ _ _ h => h) (Or.inr ⟨by rfl, rfl⟩) hHeld ?_; simp only [gA, gB, gC, Act.put, gD, gE, gF]; refine wpAnyH_take (i := 6) (v := undef) rfl (by kernel_rfl) (by kernel_rfl) (by kernel_rfl) (fun _ _ _ h => h) (Or.inr ⟨by rfl, rfl⟩) hHeld ?_
  simp only [gA, gB, gC, Act.put, gD, gE, gF]; refine wpAnyH_take (i := 7) (v := undef) rfl (by kernel_rfl) (by kernel_rfl) (by kernel_rfl) (fun _ _ _ h => h) (Or.inr ⟨by rfl, rfl⟩) hHeld ?_; simp only [gA, gB, gC, Act.put, gD, gE, gF]; refine tk 8 rfl hHeld ?_; simp only [gA, gB, gC, Act.put, gD, gE, gF]; refine wpAnyH_done (by kernel_rfl) ?_ _; refine NoPanic.normal ?_; clear hHeld; have c_V0 := V0.d0; have f0_V0 := V0.frozen 0; have d_V0 := V0.d1; have f1_V0 := V0.frozen 1; have e_V0 := V0.d2; have f2_V0 := V0.frozen 2; have l_V0 := V0.lt; have m_V0 := Nat.le_of_lt l_V0; (go_wp2_with fail)
  go_ret2
  exact ⟨by rw [← HE.out.1, HE.out.2]; rfl, B0⟩
end Go.Proofs.YtjlodljgfjjclaaGreat
