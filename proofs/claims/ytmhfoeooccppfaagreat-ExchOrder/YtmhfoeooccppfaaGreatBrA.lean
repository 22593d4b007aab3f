/-
  Put together of: FlP, FlR, FlM, FlN, FlB.
-/
import Ieee.Arith
import Derived.Laws.BitsAllLaws
import Derived.Laws.BitsLemmas
namespace Go.Proofs.YtmhfoeooccppfaaGreat
set_option linter.unusedVariables false

/-- A rung's number, in units of 2 ^ -1074. -/
def fi (r : Nat) : Nat := if r < 4503599627370496 then r else (4503599627370496 + r % 4503599627370496) * 2 ^ (r / 4503599627370496 - 1)
/-- A word's number. -/
def fz (w : Nat) : Int := if w < 9223372036854775808 then (fi w : Int) else -(fi (w - 9223372036854775808) : Int)
/-- A word that is no NaN. -/
def Fr (w : Nat) : Prop := w % 9223372036854775808 ≤ 9218868437227405312 ∧ w < 18446744073709551616

theorem fi_succ (r : Nat) : fi r < fi (r + 1) := by
  unfold fi
  by_cases h : r < 4503599627370496
  · rw [if_pos h]
    by_cases h2 : r + 1 < 4503599627370496
    · rw [if_pos h2]; omega
    · rw [if_neg h2]
      have e : r + 1 = 4503599627370496 := by omega
      rw [e]; simp; omega
  · rw [if_neg h, if_neg (by omega)]
    by_cases h2 : r % 4503599627370496 + 1 < 4503599627370496
    · have e1 : (r + 1) / 4503599627370496 = r / 4503599627370496 := by omega
      have e2 : (r + 1) % 4503599627370496 = r % 4503599627370496 + 1 := by omega
      rw [e1, e2]
      exact Nat.mul_lt_mul_of_pos_right (by omega) (Nat.pow_pos (by decide))
    · have e1 : (r + 1) / 4503599627370496 - 1 = (r / 4503599627370496 - 1) + 1 := by omega
      have e2 : (r + 1) % 4503599627370496 = 0 := by omega
      rw [e1, e2, Nat.pow_succ, Nat.mul_comm (2 ^ _) 2, ← Nat.mul_assoc]
      exact Nat.mul_lt_mul_of_pos_right (by omega) (Nat.pow_pos (by decide))
theorem fi_lt {r s : Nat} (h : r < s) : fi r < fi s := by
  induction s with
  | zero => omega
  | succ s ih =>
    rcases Nat.lt_or_ge r s with g | g
    · exact Nat.lt_trans (ih g) (fi_succ s)
    · have : r = s := by omega
      rw [this]; exact fi_succ s
theorem fi_lt_iff {r s : Nat} : fi r < fi s ↔ r < s := by
  constructor
  · intro h
    rcases Nat.lt_or_ge r s with g | g
    · exact g
    · rcases Nat.eq_or_lt_of_le g with g | g
      · rw [g] at h; omega
      · have := fi_lt g; omega
  · exact fi_lt
theorem fi_le_iff {r s : Nat} : fi r ≤ fi s ↔ r ≤ s := by
  have := @fi_lt_iff s r; omega
theorem fi_inj {r s : Nat} (h : fi r = fi s) : r = s := by
  have h1 := @fi_lt_iff s r
  have h2 := @fi_lt_iff r s
  omega
theorem fi_zero : fi 0 = 0 := rfl
theorem fi_pos {r : Nat} (h : 0 < r) : 0 < fi r := by
  have := fi_lt h; omega
set_option exponentiation.threshold 3000 in
theorem fi_inf : fi 9218868437227405312 = 2 ^ 2098 := by
  unfold fi
  rw [if_neg (by decide)]

theorem d_sw : Ieee.double.signWeight = 9223372036854775808 := by decide
theorem d_bi : Ieee.double.binade = 4503599627370496 := by decide
theorem d_in : Ieee.double.infRung = 9218868437227405312 := by decide
theorem d_lp : Ieee.double.leastPlace = -1074 := by decide

/-- The sign of a word. -/
def fsg (w : Nat) : Bool := decide (9223372036854775808 ≤ w)
theorem sg_read {w : Nat} (h : w < 18446744073709551616) : (w / 9223372036854775808 % 2 == 1) = fsg w := by
  unfold fsg
  by_cases g : 9223372036854775808 ≤ w
  · have : w / 9223372036854775808 % 2 = 1 := by omega
    simp [this, g]
  · have : w / 9223372036854775808 % 2 = 0 := by omega
    simp [this, g]

theorem read_fin {w : Nat} (h : w < 18446744073709551616) (hr : w % 9223372036854775808 < 9218868437227405312) :
    ∃ m p : Nat, Ieee.double.read w = .number (fsg w) m ((p : Int) - 1074) ∧ m * 2 ^ p = fi (w % 9223372036854775808) := by
  unfold Ieee.Format.read
  rw [d_sw, d_bi, d_in, d_lp, sg_read h]
  dsimp only
  by_cases g : w % 9223372036854775808 < 4503599627370496
  · rw [if_pos g]
    exact ⟨_, 0, rfl, by unfold fi; rw [if_pos g]; omega⟩
  · rw [if_neg g, if_pos hr]
    refine ⟨_, w % 9223372036854775808 / 4503599627370496 - 1, by congr 1, ?_⟩
    unfold fi; rw [if_neg g]
theorem read_inf {w : Nat} (h : w < 18446744073709551616) (hr : w % 9223372036854775808 = 9218868437227405312) :
    Ieee.double.read w = .infinity (fsg w) := by
  unfold Ieee.Format.read
  rw [d_sw, d_bi, d_in, d_lp, sg_read h]
  dsimp only
  rw [hr]; rfl
theorem read_nan {w : Nat} (h : w < 18446744073709551616) (hr : 9218868437227405312 < w % 9223372036854775808) :
    Ieee.double.read w = .nan (fsg w) (w % 9223372036854775808 - 9218868437227405312) := by
  unfold Ieee.Format.read
  rw [d_sw, d_bi, d_in, d_lp, sg_read h]
  dsimp only
  rw [if_neg (by omega), if_neg (by omega), if_neg (by omega)]
theorem fz_sg {w : Nat} (h : w < 18446744073709551616) : fz w = if fsg w then -(fi (w % 9223372036854775808) : Int) else (fi (w % 9223372036854775808) : Int) := by
  unfold fz fsg
  by_cases g : w < 9223372036854775808
  · rw [if_pos g]
    have e : w % 9223372036854775808 = w := by omega
    rw [e]
    simp [show ¬ 9223372036854775808 ≤ w by omega]
  · rw [if_neg g]
    have e : w % 9223372036854775808 = w - 9223372036854775808 := by omega
    rw [e]
    simp [show 9223372036854775808 ≤ w by omega]
theorem signed_mul (s : Bool) (m u k : Nat) : Ieee.signed s m u * (2 : Int) ^ k = if s then -((m * 2 ^ (u + k) : Nat) : Int) else ((m * 2 ^ (u + k) : Nat) : Int) := by
  unfold Ieee.signed
  rw [Nat.shiftLeft_eq, Nat.pow_add, ← Nat.mul_assoc]
  cases s <;> simp [Int.neg_mul]
theorem cmp_mul (a b k : Int) (h : 0 < k) : compare a b = compare (a * k) (b * k) := by
  have h1 : a < b ↔ a * k < b * k := ⟨fun g => Int.mul_lt_mul_of_pos_right g h, fun g => Int.lt_of_mul_lt_mul_right g (Int.le_of_lt h)⟩
  have h2 : a = b ↔ a * k = b * k := ⟨fun g => by rw [g], fun g => Int.eq_of_mul_eq_mul_right (by omega) g⟩
  simp only [compare, compareOfLessAndEq, h1, h2]
theorem order_fz {x y : Nat} (hx : Fr x) (hy : Fr y) : Ieee.double.order x y = some (compare (fz x) (fz y)) := by
  obtain ⟨nx, lx⟩ := hx
  obtain ⟨ny, ly⟩ := hy
  have ci : ∀ {a b : Int}, a < b → compare a b = .lt := fun h => by simp [compare, compareOfLessAndEq, h]
  have cg : ∀ {a b : Int}, b < a → compare a b = .gt := fun h => by
    simp only [compare, compareOfLessAndEq]; rw [if_neg (by omega), if_neg (by omega)]
  unfold Ieee.Format.order
  have bx := @fi_lt_iff (x % 9223372036854775808) 9218868437227405312
  have by' := @fi_lt_iff (y % 9223372036854775808) 9218868437227405312
  have bp := @fi_pos 9218868437227405312 (by decide)
  rw [fz_sg lx, fz_sg ly]
  rcases Nat.eq_or_lt_of_le nx with ex | ex
  · rw [read_inf lx ex, ex]
    rcases Nat.eq_or_lt_of_le ny with ey | ey
    · rw [read_inf ly ey, ey]
      cases fsg x <;> cases fsg y <;> simp only [Ieee.Datum.order, Bool.false_eq_true, if_true, if_false]
      · simp [compare, compareOfLessAndEq]
      · rw [cg (by omega)]; rfl
      · rw [ci (by omega)]; rfl
      · simp [compare, compareOfLessAndEq]
    · obtain ⟨m, p, e, _⟩ := read_fin ly ey
      have := by'.2 ey
      rw [e]
      cases fsg x <;> cases fsg y <;> simp only [Ieee.Datum.order] <;> simp
      · rw [cg (by omega)]
      · rw [cg (by omega)]
      · rw [ci (by omega)]
      · rw [ci (by omega)]
  · obtain ⟨m, p, e, v⟩ := read_fin lx ex
    have q1 := bx.2 ex
    rw [e]
    rcases Nat.eq_or_lt_of_le ny with ey | ey
    · rw [read_inf ly ey, ey]
      cases fsg x <;> cases fsg y <;> simp only [Ieee.Datum.order] <;> simp
      · rw [ci (by omega)]
      · rw [cg (by omega)]
      · rw [ci (by omega)]
      · rw [cg (by omega)]
    · obtain ⟨n, q, e2, v2⟩ := read_fin ly ey
      rw [e2]
      simp only [Ieee.Datum.order]
      rw [cmp_mul _ _ ((2 : Int) ^ (min p q)) (Int.pow_pos (by decide)), signed_mul, signed_mul]
      have k1 : ((p : Int) - 1074 - min ((p : Int) - 1074) ((q : Int) - 1074)).toNat + min p q = p := by omega
      have k2 : ((q : Int) - 1074 - min ((p : Int) - 1074) ((q : Int) - 1074)).toNat + min p q = q := by omega
      rw [k1, k2, v, v2]
theorem log2_mul {m : Nat} (p : Nat) (h : m ≠ 0) : (m * 2 ^ p).log2 = m.log2 + p := by
  have a := (Nat.log2_eq_iff h).1 rfl
  have z : 0 < 2 ^ p := Nat.pow_pos (by decide)
  have n0 : m * 2 ^ p ≠ 0 := Nat.mul_ne_zero h (by omega)
  rw [Nat.log2_eq_iff n0]
  constructor
  · rw [Nat.pow_add]; exact Nat.mul_le_mul_right _ a.1
  · have e : 2 ^ (m.log2 + p + 1) = 2 ^ (m.log2 + 1) * 2 ^ p := by rw [← Nat.pow_add]; congr 1; omega
    rw [e]; exact Nat.mul_lt_mul_of_pos_right a.2 z
theorem cut_exact (s : Bool) {n : Nat} (d : Nat) (h : n ≠ 0) : Ieee.Toward.even.cut s (n * 2 ^ d) d = n := by
  unfold Ieee.Toward.cut
  have z : 0 < 2 ^ d := Nat.pow_pos (by decide)
  have e : min d ((n * 2 ^ d).log2 + 2) = d := by rw [log2_mul d h]; omega
  dsimp only
  rw [e, Nat.shiftLeft_eq, Nat.one_mul, Nat.mul_div_cancel _ z, Nat.mul_mod_left]
  have g : ¬ (2 ^ d < 2 * 0) := by omega
  have g2 : (2 ^ d == 2 * 0) = false := by simp
  simp [g, g2]
/-- What the format has is written as it is. -/
theorem nearest_exact (s : Bool) (mag p r : Nat) (hr : r < 9218868437227405312) (h : mag * 2 ^ p = fi r) :
    Ieee.double.nearest s mag ((p : Int) - 1074) = if s then 9223372036854775808 + r else r := by
  unfold Ieee.Format.nearest
  by_cases m0 : mag = 0
  · rw [if_pos m0]
    have e : fi r = fi 0 := by rw [← h, m0, Nat.zero_mul]; rfl
    have e := fi_inj e
    unfold Ieee.Format.word
    rw [e, d_sw]
  rw [if_neg m0, d_lp, d_bi, d_in]
  dsimp only
  have f52 : (Ieee.double.fractionBits : Int) = 52 := rfl
  rw [f52]
  have hl := log2_mul p m0
  rw [h] at hl
  have B52 : (4503599627370496 : Nat) = 2 ^ 52 := by decide
  -- the place that is kept, and what is kept
  obtain ⟨t, k, ht, hk, hv, k0⟩ : ∃ t k : Nat, max (((p : Int) - 1074) + (mag.log2 : Nat) - 52) (-1074) = (t : Int) - 1074 ∧ k * 2 ^ t = fi r ∧ t * 4503599627370496 + k = r ∧ k ≠ 0 := by
    by_cases g : r < 4503599627370496
    · have e : fi r = r := by unfold fi; rw [if_pos g]
      have n0 : r ≠ 0 := by
        intro e0; rw [e, e0] at h
        have := Nat.mul_ne_zero m0 (show 2 ^ p ≠ 0 from Nat.ne_of_gt (Nat.pow_pos (by decide)))
        exact this h
      refine ⟨0, r, ?_, by rw [e]; simp, by omega, n0⟩
      have := (Nat.log2_lt n0).2 (show r < 2 ^ 52 by omega)
      rw [e] at hl
      omega
    · have e : fi r = (4503599627370496 + r % 4503599627370496) * 2 ^ (r / 4503599627370496 - 1) := by unfold fi; rw [if_neg g]
      refine ⟨r / 4503599627370496 - 1, 4503599627370496 + r % 4503599627370496, ?_, e.symm, by omega, by omega⟩
      have l2 : (4503599627370496 + r % 4503599627370496).log2 = 52 := by
        rw [Nat.log2_eq_iff (by omega)]; omega
      rw [e, log2_mul _ (by omega), l2] at hl
      omega
  rw [ht]
  have kk : Ieee.Toward.even.cut s (mag <<< ((p : Int) - 1074 - ((t : Int) - 1074)).toNat) (((t : Int) - 1074) - ((p : Int) - 1074)).toNat = k := by
    rcases Nat.le_total t p with c | c
    · have e1 : ((p : Int) - 1074 - ((t : Int) - 1074)).toNat = p - t := by omega
      have e2 : (((t : Int) - 1074) - ((p : Int) - 1074)).toNat = 0 := by omega
      rw [e1, e2, Nat.shiftLeft_eq]
      have e3 : mag * 2 ^ (p - t) = k := by
        have : mag * 2 ^ (p - t) * 2 ^ t = k * 2 ^ t := by
          rw [hk, ← h, Nat.mul_assoc, ← Nat.pow_add]; congr 2; omega
        exact Nat.eq_of_mul_eq_mul_right (Nat.pow_pos (by decide)) this
      rw [e3]
      have := cut_exact s 0 k0
      simpa using this
    · have e1 : ((p : Int) - 1074 - ((t : Int) - 1074)).toNat = 0 := by omega
      have e2 : (((t : Int) - 1074) - ((p : Int) - 1074)).toNat = t - p := by omega
      rw [e1, e2, Nat.shiftLeft_eq, Nat.pow_zero, Nat.mul_one]
      have e3 : mag = k * 2 ^ (t - p) := by
        have : mag * 2 ^ p = k * 2 ^ (t - p) * 2 ^ p := by
          rw [h, ← hk, Nat.mul_assoc, ← Nat.pow_add]; congr 2; omega
        exact Nat.eq_of_mul_eq_mul_right (Nat.pow_pos (by decide)) this
      rw [e3]
      exact cut_exact s _ k0
  rw [kk]
  have e4 : (((t : Int) - 1074) - -1074).toNat = t := by omega
  rw [e4, hv, Nat.min_eq_left (by omega)]
  unfold Ieee.Format.word
  rw [d_sw]
/-- A finite word with 0 added: itself, but that -0 becomes +0. -/
theorem add_nought {w : Nat} (h : w < 18446744073709551616) (hr : w % 9223372036854775808 < 9218868437227405312) :
    Ieee.double.add w 0 = some (if w = 9223372036854775808 then 0 else w) := by
  obtain ⟨m, p, e, v⟩ := read_fin h hr
  have e0 : Ieee.double.read 0 = .number false 0 (-1074) := by decide
  unfold Ieee.Format.add
  rw [e, e0]
  simp only [Ieee.Datum.sum, Option.map_some]
  have b1 : min ((p : Int) - 1074) (-1074) = -1074 := by omega
  have b2 : ((p : Int) - 1074 - -1074).toNat = p := by omega
  rw [b1, b2]
  have s0 : Ieee.signed false 0 ((-1074 : Int) - -1074).toNat = 0 := by decide
  rw [s0, Int.add_zero]
  have sv : Ieee.signed (fsg w) m p = if fsg w then -(fi (w % 9223372036854775808) : Int) else (fi (w % 9223372036854775808) : Int) := by
    have := signed_mul (fsg w) m p 0
    simp only [Nat.add_zero, Int.pow_zero, Int.mul_one] at this
    rw [this, v]
  have z : (fi (w % 9223372036854775808) = 0) ↔ w % 9223372036854775808 = 0 := ⟨fun g => fi_inj (g.trans fi_zero.symm), fun g => by rw [g]; rfl⟩
  have na : (Ieee.signed (fsg w) m p).natAbs = fi (w % 9223372036854775808) := by rw [sv]; cases fsg w <;> simp
  have q := nearest_exact (if Ieee.signed (fsg w) m p = 0 then fsg w && false else decide (Ieee.signed (fsg w) m p < 0)) (fi (w % 9223372036854775808)) 0 (w % 9223372036854775808) hr (by simp)
  have e5 : ((0 : Nat) : Int) - 1074 = -1074 := by omega
  rw [e5] at q
  show some (Ieee.double.nearest _ _ _) = _
  have hb : (if Ieee.signed (fsg w) m p = 0 then fsg w && false else decide (Ieee.signed (fsg w) m p < 0)) = decide (9223372036854775808 < w) := by
    rw [sv]
    by_cases c : fi (w % 9223372036854775808) = 0
    · have c2 := z.1 c
      rw [c]
      cases fsg w <;> simp <;> omega
    · have c2 : ¬ w % 9223372036854775808 = 0 := fun g => c (z.2 g)
      by_cases g : 9223372036854775808 ≤ w
      · have e6 : fsg w = true := by unfold fsg; simp [g]
        rw [e6]; simp only [if_true]
        rw [if_neg (by omega), decide_eq_decide]; omega
      · have e6 : fsg w = false := by unfold fsg; simp; omega
        rw [e6]; simp only [Bool.false_eq_true, if_false]
        rw [if_neg (by omega), decide_eq_decide]; omega
  rw [na, q, hb]
  congr 1
  by_cases g : 9223372036854775808 < w
  · simp only [g, decide_true, if_true]; rw [if_neg (by omega)]; omega
  · simp only [g, decide_false, Bool.false_eq_true, if_false]
    by_cases g2 : w = 9223372036854775808
    · rw [if_pos g2, g2]
    · rw [if_neg g2]; omega
theorem fi_at (e m : Nat) (h : e = 0 ∨ 4503599627370496 ≤ m) (hm : m ≤ 9007199254740992) : fi (e * 4503599627370496 + m) = m * 2 ^ e := by
  unfold fi
  by_cases g : e * 4503599627370496 + m < 4503599627370496
  · rw [if_pos g]
    have e0 : e = 0 := by omega
    rw [e0]; omega
  · rw [if_neg g]
    by_cases c : m = 9007199254740992
    · have e1 : (e * 4503599627370496 + m) / 4503599627370496 - 1 = e + 1 := by omega
      have e2 : (e * 4503599627370496 + m) % 4503599627370496 = 0 := by omega
      rw [e1, e2, c, Nat.pow_succ, Nat.mul_comm (2 ^ e) 2, ← Nat.mul_assoc]
    · have e1 : (e * 4503599627370496 + m) / 4503599627370496 - 1 = e := by omega
      have e2 : 4503599627370496 + (e * 4503599627370496 + m) % 4503599627370496 = m := by omega
      rw [e1, e2]
/-- Where a number stands: between two neighbours, by its first digits. -/
theorem fi_cell (e m x : Nat) (h : e = 0 ∨ 4503599627370496 ≤ m) (hm : m < 9007199254740992) (h1 : m * 2 ^ e ≤ x) (h2 : x < (m + 1) * 2 ^ e) :
    fi (e * 4503599627370496 + m) ≤ x ∧ x < fi (e * 4503599627370496 + m + 1) := by
  constructor
  · rw [fi_at e m h (by omega)]; exact h1
  · rw [Nat.add_assoc, fi_at e (m + 1) (by omega) (by omega)]; exact h2
theorem fi_has (m e : Nat) (hm : m < 9007199254740992) (he : e ≤ 2045) : ∃ r, r < 9218868437227405312 ∧ fi r = m * 2 ^ e := by
  induction e generalizing m with
  | zero => exact ⟨m, by omega, by have := fi_at 0 m (.inl rfl) (by omega); simpa using this⟩
  | succ e ih =>
    by_cases g : 4503599627370496 ≤ m
    · exact ⟨(e + 1) * 4503599627370496 + m, by omega, fi_at (e + 1) m (.inr g) (by omega)⟩
    · obtain ⟨r, a, b⟩ := ih (m * 2) (by omega) (by omega)
      exact ⟨r, a, by rw [b, Nat.mul_assoc, Nat.pow_succ, Nat.mul_comm 2]⟩
/-- A word of a sign and a rung. -/
def wd (s : Bool) (r : Nat) : Nat := if s then 9223372036854775808 + r else r
theorem wd_fz {s : Bool} {r : Nat} (h : r < 9223372036854775808) : fz (wd s r) = if s then -(fi r : Int) else (fi r : Int) := by
  unfold fz wd
  cases s
  · simp [h]
  · rw [if_pos rfl, if_neg (by omega)]
    simp
theorem wd_fr {s : Bool} {r : Nat} (h : r ≤ 9218868437227405312) : Fr (wd s r) := by
  unfold Fr wd
  cases s <;> simp <;> omega
theorem wd_sg {w : Nat} (h : w < 18446744073709551616) : wd (fsg w) (w % 9223372036854775808) = w := by
  unfold wd fsg
  by_cases g : 9223372036854775808 ≤ w
  · simp [g]; omega
  · simp [g]; omega
/-- Two words that are no NaN and have one number are one word, but for the two noughts. -/
theorem fz_inj {x y : Nat} (hx : Fr x) (hy : Fr y) (h : fz x = fz y) (n0 : fz x ≠ 0) : x = y := by
  have lx := hx.2
  have ly := hy.2
  rw [fz_sg lx] at h n0
  rw [fz_sg ly] at h
  have e1 := wd_sg lx
  have e2 := wd_sg ly
  rw [← e1, ← e2]
  have h1 := @fi_inj (x % 9223372036854775808) (y % 9223372036854775808)
  revert h n0
  cases fsg x <;> cases fsg y <;> simp only [Bool.false_eq_true, if_true, if_false] <;> intro h n0
  · rw [h1 (by omega)]
  · omega
  · omega
  · rw [h1 (by omega)]
theorem sub_self {w : Nat} (h : w < 18446744073709551616) (hr : w % 9223372036854775808 < 9218868437227405312) : Ieee.double.sub w w = some 0 := by
  obtain ⟨m, p, e, v⟩ := read_fin h hr
  unfold Ieee.Format.sub
  rw [e]
  simp only [Ieee.Datum.opposite, Ieee.Datum.sum, Option.map_some]
  have t0 : ∀ u, Ieee.signed (fsg w) m u + Ieee.signed (!fsg w) m u = 0 := by
    intro u; unfold Ieee.signed; cases fsg w <;> simp <;> omega
  rw [t0]
  have b0 : (fsg w && !fsg w) = false := by cases fsg w <;> rfl
  rw [if_pos rfl, b0]
  show some (Ieee.double.nearest _ _ _) = _
  unfold Ieee.Format.nearest
  rw [if_pos (by rfl)]; rfl
theorem sub_self_not {w : Nat} (h : w < 18446744073709551616) (hr : 9218868437227405312 ≤ w % 9223372036854775808) : Ieee.double.sub w w = none := by
  unfold Ieee.Format.sub
  rcases Nat.eq_or_lt_of_le hr with g | g
  · rw [read_inf h g.symm]
    cases fsg w <;> rfl
  · rw [read_nan h g]; rfl
theorem order_nan {x y : Nat} (lx : x < 18446744073709551616) (ly : y < 18446744073709551616) (h : 9218868437227405312 < x % 9223372036854775808 ∨ 9218868437227405312 < y % 9223372036854775808) : Ieee.double.order x y = none := by
  unfold Ieee.Format.order
  rcases h with h | h
  · rw [read_nan lx h]; rfl
  · rw [read_nan ly h]; cases Ieee.double.read x <;> rfl
/-- The float of a whole number of at most 53 bits. -/
theorem of_int (n : Int) (h : n.natAbs < 9007199254740992) : ∃ r, r < 9218868437227405312 ∧ Ieee.double.nearest (decide (n < 0)) n.natAbs 0 = wd (decide (n < 0)) r ∧ fz (wd (decide (n < 0)) r) = n * ((2 ^ 1074 : Nat) : Int) := by
  obtain ⟨r, a, b⟩ := fi_has n.natAbs 1074 h (by omega)
  have q := nearest_exact (decide (n < 0)) n.natAbs 1074 r a b.symm
  refine ⟨r, a, q, ?_⟩
  rw [wd_fz (by omega), b]
  generalize 2 ^ 1074 = K
  rw [Int.natCast_mul]
  by_cases g : n < 0
  · have e : (n.natAbs : Int) = -n := by omega
    simp only [g, decide_true, if_true]
    rw [e, Int.neg_mul, Int.neg_neg]
  · have e : (n.natAbs : Int) = n := by omega
    simp only [g, decide_false, Bool.false_eq_true, if_false]
    rw [e]
end Go.Proofs.YtmhfoeooccppfaaGreat

namespace Go.Proofs.YtmhfoeooccppfaaGreat
set_option linter.unusedVariables false

/-- The number of a place in the row. -/
def fp (k : Int) : Int := if 0 ≤ k then (fi k.toNat : Int) else -(fi (-k).toNat : Int)
theorem fp_nat (n : Nat) : fp (n : Int) = fi n := by
  unfold fp; rw [if_pos (by omega)]; simp
theorem fp_neg (k : Int) : fp (-k) = -fp k := by
  unfold fp
  by_cases h : k = 0
  · rw [h]; rfl
  by_cases g : 0 ≤ k
  · rw [if_neg (by omega), if_pos g]; simp
  · rw [if_pos (by omega), if_neg g]; simp
theorem fp_lt {j k : Int} (h : j < k) : fp j < fp k := by
  unfold fp
  by_cases g : 0 ≤ j
  · rw [if_pos g, if_pos (by omega)]
    have := @fi_lt j.toNat k.toNat (by omega)
    omega
  · rw [if_neg g]
    have p := @fi_pos (-j).toNat (by omega)
    by_cases g2 : 0 ≤ k
    · rw [if_pos g2]; omega
    · rw [if_neg g2]
      have := @fi_lt (-k).toNat (-j).toNat (by omega)
      omega
theorem fp_lt_iff {j k : Int} : fp j < fp k ↔ j < k := by
  constructor
  · intro h
    by_cases g : j < k
    · exact g
    · by_cases g2 : k < j
      · have := fp_lt g2; omega
      · have : j = k := by omega
        rw [this] at h; omega
  · exact fp_lt
theorem fp_le_iff {j k : Int} : fp j ≤ fp k ↔ j ≤ k := by
  have := @fp_lt_iff k j; omega
theorem fp_inj {j k : Int} (h : fp j = fp k) : j = k := by
  have h1 := @fp_lt_iff j k
  have h2 := @fp_lt_iff k j
  omega
theorem fp_zero : fp 0 = 0 := rfl
/-- The last rung that is not above n. -/
def flr (n : Nat) : Nat := if n < 9007199254740992 then n else (n.log2 - 52) * 4503599627370496 + n / 2 ^ (n.log2 - 52)
theorem flr_cell (n : Nat) : fi (flr n) ≤ n ∧ n < fi (flr n + 1) := by
  unfold flr
  by_cases g : n < 9007199254740992
  · rw [if_pos g]
    have := fi_cell 0 n n (.inl rfl) g (by simp) (by simp)
    simpa using this
  · rw [if_neg g]
    have n0 : n ≠ 0 := by omega
    have hl := (Nat.log2_eq_iff n0).1 rfl
    have l52 : 53 ≤ n.log2 := by
      rcases Nat.lt_or_ge n.log2 53 with c | c
      · have := Nat.pow_le_pow_right (show 0 < 2 by decide) (show n.log2 + 1 ≤ 53 by omega)
        have e : (2 : Nat) ^ 53 = 9007199254740992 := by decide
        omega
      · exact c
    generalize hd : n.log2 - 52 = e at *
    have z : 0 < 2 ^ e := Nat.pow_pos (by decide)
    have e1 : 2 ^ n.log2 = 4503599627370496 * 2 ^ e := by
      have : (4503599627370496 : Nat) = 2 ^ 52 := by decide
      rw [this, ← Nat.pow_add]; congr 1; omega
    have e2 : 2 ^ (n.log2 + 1) = 9007199254740992 * 2 ^ e := by
      have : (9007199254740992 : Nat) = 2 ^ 53 := by decide
      rw [this, ← Nat.pow_add]; congr 1; omega
    rw [e1, e2] at hl
    refine fi_cell e _ n (.inr ?_) ?_ ?_ ?_
    · exact (Nat.le_div_iff_mul_le z).2 hl.1
    · exact (Nat.div_lt_iff_lt_mul z).2 hl.2
    · exact Nat.div_mul_le_self n _
    · rw [Nat.add_mul, Nat.one_mul]
      have h5 := Nat.div_add_mod n (2 ^ e)
      have h6 := Nat.mod_lt n z
      rw [Nat.mul_comm] at h5
      omega
theorem flr_iff {n r : Nat} : fi r ≤ n ↔ r ≤ flr n := by
  have h := flr_cell n
  constructor
  · intro g
    have : fi r < fi (flr n + 1) := by omega
    have := fi_lt_iff.1 this
    omega
  · intro g
    have := fi_le_iff.2 g
    omega
/-- The first rung that is not below n. -/
def cei (n : Nat) : Nat := if fi (flr n) = n then flr n else flr n + 1
theorem cei_iff {n r : Nat} : n ≤ fi r ↔ cei n ≤ r := by
  have h := flr_cell n
  have g1 := @fi_lt_iff (flr n) r
  have g2 := @fi_le_iff (flr n) r
  have g3 := @fi_le_iff (flr n + 1) r
  unfold cei
  by_cases c : fi (flr n) = n
  · rw [if_pos c]; omega
  · rw [if_neg c]; omega
/-- The last place that is not above x. -/
def fpl (x : Int) : Int := if 0 ≤ x then (flr x.toNat : Int) else -(cei (-x).toNat : Int)
theorem fpl_iff {k x : Int} : fp k ≤ x ↔ k ≤ fpl x := by
  unfold fpl
  by_cases h : 0 ≤ x
  · rw [if_pos h]
    by_cases g : 0 ≤ k
    · have := @flr_iff x.toNat k.toNat
      have e : fp k = fi k.toNat := by unfold fp; rw [if_pos g]
      rw [e]; omega
    · have := @fp_lt k 0 (by omega)
      rw [fp_zero] at this
      constructor <;> intro _ <;> omega
  · rw [if_neg h]
    by_cases g : 0 ≤ k
    · have q := @fp_le_iff 0 k
      rw [fp_zero] at q
      have := @cei_iff (-x).toNat 0
      rw [fi_zero] at this
      constructor <;> intro _ <;> omega
    · have := @cei_iff (-x).toNat (-k).toNat
      have e : fp k = -(fi (-k).toNat : Int) := by unfold fp; rw [if_neg g]
      rw [e]; omega
theorem fpl_cell (x : Int) : fp (fpl x) ≤ x ∧ x < fp (fpl x + 1) := by
  have h1 := @fpl_iff (fpl x) x
  have h2 := @fpl_iff (fpl x + 1) x
  omega
theorem fpl_fp (k : Int) : fpl (fp k) = k := by
  have h := fpl_cell (fp k)
  have h1 := @fp_le_iff (fpl (fp k)) k
  have h2 := @fp_lt_iff k (fpl (fp k) + 1)
  omega
theorem fpl_mono {x y : Int} (h : x ≤ y) : fpl x ≤ fpl y := by
  have h1 := fpl_cell x
  exact fpl_iff.1 (by omega)
/-- The word of a place: of 0 the word of +0. -/
def fw (k : Int) : Nat := if 0 ≤ k then k.toNat else 9223372036854775808 + (-k).toNat
theorem fw_fz {k : Int} (h : k.natAbs ≤ 9218868437227405312) : fz (fw k) = fp k ∧ Fr (fw k) := by
  unfold fw fp
  by_cases g : 0 ≤ k
  · rw [if_pos g, if_pos g]
    have := @wd_fz false k.toNat (by omega)
    have q := @wd_fr false k.toNat (by omega)
    unfold wd at *
    simpa using And.intro this q
  · rw [if_neg g, if_neg g]
    have := @wd_fz true (-k).toNat (by omega)
    have q := @wd_fr true (-k).toNat (by omega)
    unfold wd at *
    simpa using And.intro this q
/-- Place j is the nearest to N / D (in units of 2 ^ -1074), of two that are equally near the even one. -/
def Near8 (N D j : Int) : Prop :=
  ((fp (j - 1) + fp j) * D < 2 * N ∨ (fp (j - 1) + fp j) * D = 2 * N ∧ j % 2 = 0) ∧ (2 * N < (fp j + fp (j + 1)) * D ∨ 2 * N = (fp j + fp (j + 1)) * D ∧ j % 2 = 0)
theorem Near8.neg {N D j : Int} (h : Near8 N D j) : Near8 (-N) D (-j) := by
  unfold Near8 at *
  have e1 : (fp (-j - 1) + fp (-j)) * D = -((fp j + fp (j + 1)) * D) := by
    rw [show -j - 1 = -(j + 1) by omega, fp_neg, fp_neg, ← Int.neg_mul]; congr 1; omega
  have e2 : (fp (-j) + fp (-j + 1)) * D = -((fp (j - 1) + fp j) * D) := by
    rw [show -j + 1 = -(j - 1) by omega, fp_neg, fp_neg, ← Int.neg_mul]; congr 1; omega
  rw [e1, e2]
  generalize (fp j + fp (j + 1)) * D = a at *
  generalize (fp (j - 1) + fp j) * D = b at *
  omega
theorem Near8.mono {N D j N' D' j' : Int} (h : Near8 N D j) (h' : Near8 N' D' j') (hD : 0 < D) (hD' : 0 < D') (hl : N * D' ≤ N' * D) : j ≤ j' := by
  by_cases g : j ≤ j'
  · exact g
  have g : j' + 1 ≤ j := by omega
  have a1 := @fp_le_iff (j' + 1) j
  have a2 := @fp_le_iff j' (j - 1)
  have a3 := @fp_lt_iff (j' + 1) j
  have a4 := @fp_lt_iff j' (j - 1)
  have le : fp j' + fp (j' + 1) ≤ fp (j - 1) + fp j := by omega
  have b1 : (fp (j - 1) + fp j) * D ≤ 2 * N := by have := h.1; omega
  have b2 : 2 * N' ≤ (fp j' + fp (j' + 1)) * D' := by have := h'.2; omega
  have c1 := Int.mul_le_mul_of_nonneg_right b1 (Int.le_of_lt hD')
  have c2 := Int.mul_le_mul_of_nonneg_right b2 (Int.le_of_lt hD)
  have c3 := Int.mul_le_mul_of_nonneg_right (Int.mul_le_mul_of_nonneg_right le (Int.le_of_lt hD)) (Int.le_of_lt hD')
  have r1 : (fp j' + fp (j' + 1)) * D' * D = (fp j' + fp (j' + 1)) * D * D' := by rw [Int.mul_assoc, Int.mul_comm D' D, ← Int.mul_assoc]
  have r2 : 2 * N * D' = 2 * (N * D') := Int.mul_assoc _ _ _
  have r3 : 2 * N' * D = 2 * (N' * D) := Int.mul_assoc _ _ _
  have q1 : (fp j' + fp (j' + 1)) * D * D' = (fp (j - 1) + fp j) * D * D' := by omega
  have q2 : (fp (j - 1) + fp j) * D * D' = 2 * N * D' := by omega
  have q3 : 2 * N' * D = (fp j' + fp (j' + 1)) * D' * D := by omega
  have d0 : D ≠ 0 := by omega
  have d1 : D' ≠ 0 := by omega
  have s1 : fp j' + fp (j' + 1) = fp (j - 1) + fp j := Int.eq_of_mul_eq_mul_right d0 (Int.eq_of_mul_eq_mul_right d1 q1)
  have s2 : (fp (j - 1) + fp j) * D = 2 * N := Int.eq_of_mul_eq_mul_right d1 q2
  have s3 : 2 * N' = (fp j' + fp (j' + 1)) * D' := Int.eq_of_mul_eq_mul_right d0 q3
  have t1 := h.1
  have t2 := h'.2
  omega
theorem Near8.uno {N D j j' : Int} (h : Near8 N D j) (h' : Near8 N D j') (hD : 0 < D) : j = j' := by
  have := h.mono h' hD hD (Int.le_refl _)
  have := h'.mono h hD hD (Int.le_refl _)
  omega
/-- The nearest place. -/
def nrp (N D : Int) : Int :=
  if 2 * N < (fp (fpl (N / D)) + fp (fpl (N / D) + 1)) * D ∨ 2 * N = (fp (fpl (N / D)) + fp (fpl (N / D) + 1)) * D ∧ fpl (N / D) % 2 = 0 then fpl (N / D) else fpl (N / D) + 1
theorem cell_div {N D : Int} (hD : 0 < D) : fp (fpl (N / D)) * D ≤ N ∧ N < fp (fpl (N / D) + 1) * D := by
  have h := fpl_cell (N / D)
  constructor
  · exact (Int.le_ediv_iff_mul_le hD).1 h.1
  · exact (Int.ediv_lt_iff_lt_mul hD).1 h.2
theorem nrp_near {N D : Int} (hD : 0 < D) : Near8 N D (nrp N D) := by
  have h := @cell_div N D hD
  unfold nrp Near8
  generalize fpl (N / D) = k at *
  have g1 := Int.mul_lt_mul_of_pos_right (@fp_lt (k - 1) k (by omega)) hD
  have g2 := Int.mul_lt_mul_of_pos_right (@fp_lt (k + 1) (k + 1 + 1) (by omega)) hD
  have e0 : k + 1 - 1 = k := by omega
  split
  · rename_i c
    rw [Int.add_mul, Int.add_mul] at *
    omega
  · rename_i c
    rw [e0, Int.add_mul, Int.add_mul] at *
    omega
end Go.Proofs.YtmhfoeooccppfaaGreat

namespace Go.Proofs.YtmhfoeooccppfaaGreat
set_option linter.unusedVariables false

/-- What the format has is written as it is; the number may be told at a place below the least. -/
theorem nearest_deep (s : Bool) (mag p q r : Nat) (hr : r < 9218868437227405312) (h : mag * 2 ^ p = fi r * 2 ^ q) :
    Ieee.double.nearest s mag ((p : Int) - 1074 - q) = if s then 9223372036854775808 + r else r := by
  unfold Ieee.Format.nearest
  have zq : 0 < 2 ^ q := Nat.pow_pos (by decide)
  have zp : 0 < 2 ^ p := Nat.pow_pos (by decide)
  by_cases m0 : mag = 0
  · rw [if_pos m0]
    have e0 : fi r * 2 ^ q = 0 := by rw [← h, m0, Nat.zero_mul]
    have e1 : fi r = 0 := by
      rcases Nat.mul_eq_zero.1 e0 with g | g
      · exact g
      · omega
    have e := fi_inj (e1.trans fi_zero.symm)
    unfold Ieee.Format.word
    rw [e, d_sw]
  rw [if_neg m0, d_lp, d_bi, d_in]
  dsimp only
  have f52 : (Ieee.double.fractionBits : Int) = 52 := rfl
  rw [f52]
  have f0 : fi r ≠ 0 := by
    intro g; rw [g, Nat.zero_mul] at h
    rcases Nat.mul_eq_zero.1 h with g | g <;> omega
  have hl := log2_mul p m0
  rw [h, log2_mul q f0] at hl
  obtain ⟨t, k, ht, hk, hv, k0⟩ : ∃ t k : Nat, max (((p : Int) - 1074 - q) + (mag.log2 : Nat) - 52) (-1074) = (t : Int) - 1074 ∧ k * 2 ^ t = fi r ∧ t * 4503599627370496 + k = r ∧ k ≠ 0 := by
    by_cases g : r < 4503599627370496
    · have e : fi r = r := by unfold fi; rw [if_pos g]
      have n0 : r ≠ 0 := fun g0 => f0 (by rw [e, g0])
      refine ⟨0, r, ?_, by rw [e, Nat.pow_zero, Nat.mul_one], by rw [Nat.zero_mul, Nat.zero_add], n0⟩
      have := (Nat.log2_lt n0).2 (show r < 2 ^ 52 by omega)
      rw [e] at hl
      omega
    · have e : fi r = (4503599627370496 + r % 4503599627370496) * 2 ^ (r / 4503599627370496 - 1) := by unfold fi; rw [if_neg g]
      refine ⟨r / 4503599627370496 - 1, 4503599627370496 + r % 4503599627370496, ?_, e.symm, by omega, by omega⟩
      have l2 : (4503599627370496 + r % 4503599627370496).log2 = 52 := by
        rw [Nat.log2_eq_iff (by omega)]; omega
      rw [e, log2_mul _ (by omega), l2] at hl
      omega
  rw [ht]
  have hh : mag * 2 ^ p = k * 2 ^ (t + q) := by rw [h, ← hk, Nat.pow_add, Nat.mul_assoc]
  have kk : Ieee.Toward.even.cut s (mag <<< ((p : Int) - 1074 - q - ((t : Int) - 1074)).toNat) (((t : Int) - 1074) - ((p : Int) - 1074 - q)).toNat = k := by
    rcases Nat.le_total (t + q) p with c | c
    · have e1 : ((p : Int) - 1074 - q - ((t : Int) - 1074)).toNat = p - (t + q) := by omega
      have e2 : (((t : Int) - 1074) - ((p : Int) - 1074 - q)).toNat = 0 := by omega
      rw [e1, e2, Nat.shiftLeft_eq]
      have e3 : mag * 2 ^ (p - (t + q)) = k := by
        have : mag * 2 ^ (p - (t + q)) * 2 ^ (t + q) = k * 2 ^ (t + q) := by
          rw [← hh, Nat.mul_assoc, ← Nat.pow_add]; congr 2; omega
        exact Nat.eq_of_mul_eq_mul_right (Nat.pow_pos (by decide)) this
      rw [e3]
      have := cut_exact s 0 k0
      simpa using this
    · have e1 : ((p : Int) - 1074 - q - ((t : Int) - 1074)).toNat = 0 := by omega
      have e2 : (((t : Int) - 1074) - ((p : Int) - 1074 - q)).toNat = t + q - p := by omega
      rw [e1, e2, Nat.shiftLeft_eq, Nat.pow_zero, Nat.mul_one]
      have e3 : mag = k * 2 ^ (t + q - p) := by
        have : mag * 2 ^ p = k * 2 ^ (t + q - p) * 2 ^ p := by
          rw [hh, Nat.mul_assoc, ← Nat.pow_add]; congr 2; omega
        exact Nat.eq_of_mul_eq_mul_right (Nat.pow_pos (by decide)) this
      rw [e3]
      exact cut_exact s _ k0
  rw [kk]
  have e4 : (((t : Int) - 1074) - -1074).toNat = t := by omega
  rw [e4, hv, Nat.min_eq_left (by omega)]
  unfold Ieee.Format.word
  rw [d_sw]
theorem read_two (j : Nat) (h : j ≤ 1000) : Ieee.double.read ((1023 - j) * 4503599627370496) = .number false 4503599627370496 (-52 - j) := by
  unfold Ieee.Format.read
  rw [d_sw, d_bi, d_in, d_lp, sg_read (by omega)]
  dsimp only
  have e : (1023 - j) * 4503599627370496 % 9223372036854775808 = (1023 - j) * 4503599627370496 := by omega
  rw [e, if_neg (by omega), if_pos (by omega)]
  have e1 : (1023 - j) * 4503599627370496 / 4503599627370496 = 1023 - j := by omega
  have e2 : (1023 - j) * 4503599627370496 % 4503599627370496 = 0 := by omega
  have e3 : fsg ((1023 - j) * 4503599627370496) = false := by unfold fsg; rw [decide_eq_false_iff_not]; omega
  rw [e1, e2, e3, Nat.add_zero]
  congr 1
  omega
/-- A float times 2 to the power -j, where that is a float. -/
theorem mul_two (j x r : Nat) (h : j ≤ 1000) (hx : x < 9218868437227405312) (hr : r < 9218868437227405312) (he : fi x = fi r * 2 ^ j) :
    Ieee.double.mul ((1023 - j) * 4503599627370496) x = some r := by
  have hm : x % 9223372036854775808 = x := by omega
  obtain ⟨m, p, e, v⟩ := @read_fin x (by omega) (by omega)
  rw [hm] at v
  have e3 : fsg x = false := by unfold fsg; rw [decide_eq_false_iff_not]; omega
  rw [e3] at e
  unfold Ieee.Format.mul
  rw [read_two j h, e]
  simp only [Ieee.Datum.product, Option.map_some]
  show some (Ieee.double.nearest _ _ _) = _
  have q := nearest_deep false (4503599627370496 * m) p (52 + j) r hr (by
    have e52 : (4503599627370496 : Nat) = 2 ^ 52 := by decide
    rw [Nat.mul_assoc, v, he, Nat.pow_add, e52]
    generalize (2 : Nat) ^ 52 = A
    generalize (2 : Nat) ^ j = B
    generalize fi r = C
    rw [← Nat.mul_assoc, Nat.mul_comm A C, Nat.mul_assoc])
  have e4 : (-52 - (j : Int)) + ((p : Int) - 1074) = (p : Int) - 1074 - ((52 + j : Nat) : Int) := by omega
  have e5 : (false ^^ false) = false := rfl
  rw [e4, e5, q]
  rfl
/-- The word of a whole number of at most 53 bits. -/
def wi (n : Nat) : Nat := if n = 0 then 0 else (1022 + n.log2) * 4503599627370496 + n * 2 ^ (52 - n.log2)
theorem log_53 {n : Nat} (h : n < 9007199254740992) (n0 : n ≠ 0) : n.log2 ≤ 52 ∧ 2 ^ n.log2 ≤ n ∧ n < 2 ^ (n.log2 + 1) := by
  have hl := (Nat.log2_eq_iff n0).1 rfl
  have : n.log2 < 53 := (Nat.log2_lt n0).2 (by omega)
  exact ⟨by omega, hl.1, hl.2⟩
theorem wi_m {n : Nat} (h : n < 9007199254740992) (n0 : n ≠ 0) : 4503599627370496 ≤ n * 2 ^ (52 - n.log2) ∧ n * 2 ^ (52 - n.log2) < 9007199254740992 := by
  obtain ⟨a, b, c⟩ := log_53 h n0
  have z : 0 < 2 ^ (52 - n.log2) := Nat.pow_pos (by decide)
  have e1 : 2 ^ n.log2 * 2 ^ (52 - n.log2) = 4503599627370496 := by
    rw [← Nat.pow_add, show n.log2 + (52 - n.log2) = 52 by omega]
  have e2 : 2 ^ (n.log2 + 1) * 2 ^ (52 - n.log2) = 9007199254740992 := by
    rw [← Nat.pow_add, show n.log2 + 1 + (52 - n.log2) = 53 by omega]
  constructor
  · rw [← e1]; exact Nat.mul_le_mul_right _ b
  · rw [← e2]; exact Nat.mul_lt_mul_of_pos_right c z
theorem wi_lt {n : Nat} (h : n < 9007199254740992) : wi n < 9218868437227405312 := by
  unfold wi
  by_cases n0 : n = 0
  · rw [if_pos n0]; decide
  · rw [if_neg n0]
    have a := wi_m h n0
    have b := (log_53 h n0).1
    omega
theorem fi_wi {n : Nat} (h : n < 9007199254740992) : fi (wi n) = n * 2 ^ 1074 := by
  unfold wi
  by_cases n0 : n = 0
  · rw [if_pos n0, n0]
    generalize (2 : Nat) ^ 1074 = A
    rw [Nat.zero_mul]; rfl
  · rw [if_neg n0]
    have a := wi_m h n0
    have b := (log_53 h n0).1
    rw [fi_at _ _ (.inr a.1) (by omega), Nat.mul_assoc, ← Nat.pow_add]
    congr 2
    omega
/-- float64 of a whole number of at most 53 bits, not below 0. -/
theorem of_nat {n : Nat} (h : n < 9007199254740992) : Ieee.double.nearest false n 0 = wi n := by
  have q := nearest_exact false n 1074 (wi n) (wi_lt h) (fi_wi h).symm
  have e : ((1074 : Nat) : Int) - 1074 = 0 := by omega
  rw [e] at q
  exact q
/-- Where N / D (in units of 2 ^ -1074: X / D) lies: behind the float of rung k, p being 0 at it, 1 below the middle to the next, 2 in it, 3 above it. -/
def Pl (X D k p : Nat) : Prop := k < 9218868437227405312 ∧
  ((p = 0 ∧ fi k * D = X) ∨ (p = 1 ∧ fi k * D < X ∧ 2 * X < (fi k + fi (k + 1)) * D) ∨ (p = 2 ∧ 2 * X = (fi k + fi (k + 1)) * D) ∨ (p = 3 ∧ (fi k + fi (k + 1)) * D < 2 * X ∧ (X < fi (k + 1) * D ∨ k = 9218868437227405311)))
theorem pl_of {X D e q rest c d : Nat} (hD : 0 < d) (hq : e = 0 ∨ 4503599627370496 ≤ q) (hq2 : q < 9007199254740992) (he : e ≤ 2045) (hd : D * 2 ^ e = d * 2 ^ c) (hX : X = (q * d + rest) * 2 ^ c) (hr : rest < d) :
    (rest = 0 → Pl X D (e * 4503599627370496 + q) 0) ∧ (rest ≠ 0 → 2 * rest < d → Pl X D (e * 4503599627370496 + q) 1) ∧ (2 * rest = d → Pl X D (e * 4503599627370496 + q) 2) ∧ (d < 2 * rest → Pl X D (e * 4503599627370496 + q) 3) := by
  have zc : 0 < 2 ^ c := Nat.pow_pos (by decide)
  have f0 := fi_at e q hq (by omega)
  have f1 : fi (e * 4503599627370496 + q + 1) = (q + 1) * 2 ^ e := by rw [Nat.add_assoc, fi_at e (q + 1) (by omega) (by omega)]
  have g0 : fi (e * 4503599627370496 + q) * D = q * d * 2 ^ c := by rw [f0, Nat.mul_assoc, Nat.mul_comm (2 ^ e) D, hd, Nat.mul_assoc]
  have g1 : fi (e * 4503599627370496 + q + 1) * D = q * d * 2 ^ c + d * 2 ^ c := by
    rw [f1, Nat.mul_assoc, Nat.mul_comm (2 ^ e) D, hd, Nat.add_mul, Nat.one_mul, Nat.mul_assoc]
  have hX2 : X = q * d * 2 ^ c + rest * 2 ^ c := by rw [hX, Nat.add_mul]
  have hk : e * 4503599627370496 + q < 9218868437227405312 := by omega
  have u0 : rest * 2 ^ c < d * 2 ^ c := Nat.mul_lt_mul_of_pos_right hr zc
  unfold Pl
  rw [Nat.add_mul, g0, g1]
  refine ⟨fun h => ⟨hk, .inl ⟨rfl, by rw [hX2, h]; omega⟩⟩, fun h h2 => ⟨hk, .inr (.inl ⟨rfl, ?_, ?_⟩)⟩, fun h => ⟨hk, .inr (.inr (.inl ⟨rfl, ?_⟩))⟩, fun h => ⟨hk, .inr (.inr (.inr ⟨rfl, ?_, .inl ?_⟩))⟩⟩
  · have : 0 < rest * 2 ^ c := Nat.mul_pos (by omega) zc
    omega
  · have := Nat.mul_lt_mul_of_pos_right h2 zc
    rw [Nat.mul_assoc] at this
    omega
  · have : 2 * rest * 2 ^ c = d * 2 ^ c := by rw [h]
    rw [Nat.mul_assoc] at this
    omega
  · have := Nat.mul_lt_mul_of_pos_right h zc
    rw [Nat.mul_assoc] at this
    omega
  · omega
set_option exponentiation.threshold 3000 in
theorem fi_max : fi 9218868437227405311 = (2 ^ 53 - 1) * 2 ^ 2045 := by
  unfold fi
  rw [if_neg (by decide)]
theorem fi_top : fi (9218868437227405311 + 1) = 2 ^ 2098 := fi_inf
/-- Beyond all floats. -/
theorem pl_far {X D : Nat} (hD : 0 < D) (h : 2 ^ 2098 * D ≤ X) : Pl X D 9218868437227405311 3 := by
  refine ⟨by decide, .inr (.inr (.inr ⟨rfl, ?_, .inr rfl⟩))⟩
  have q := @fi_lt_iff 9218868437227405311 (9218868437227405311 + 1)
  have lt : fi 9218868437227405311 < fi (9218868437227405311 + 1) := q.2 (by decide)
  rw [← fi_top] at h
  generalize fi 9218868437227405311 = a at *
  generalize fi (9218868437227405311 + 1) = b at *
  have := Nat.mul_lt_mul_of_pos_right lt hD
  rw [Nat.add_mul]
  omega
end Go.Proofs.YtmhfoeooccppfaaGreat

namespace Go.Proofs.YtmhfoeooccppfaaGreat
set_option linter.unusedVariables false

theorem K8_has (n : Nat) : ∃ K : Nat, K = 2 ^ n := ⟨_, rfl⟩
/-- 2 to the power 1074. -/
noncomputable def K8 : Nat := Classical.choose (K8_has 1074)
theorem K8_eq : K8 = 2 ^ 1074 := Classical.choose_spec (K8_has 1074)
theorem two_pos (n : Nat) : 0 < 2 ^ n := Nat.pow_pos (by decide)
theorem K8_pos : 0 < K8 := by rw [K8_eq]; exact two_pos 1074
theorem Pl.le {X D k p : Nat} (hD : 0 < D) (h : Pl X D k p) : fi k * D ≤ X := by
  have g := Nat.mul_lt_mul_of_pos_right (fi_succ k) hD
  obtain ⟨hk, h⟩ := h
  rw [Nat.add_mul] at h
  omega
theorem Pl.lt {X D k p : Nat} (hD : 0 < D) (h : Pl X D k p) (hk : k ≠ 9218868437227405311) : X < fi (k + 1) * D := by
  have g := Nat.mul_lt_mul_of_pos_right (fi_succ k) hD
  obtain ⟨-, h⟩ := h
  rw [Nat.add_mul] at h
  omega
theorem Pl.lt_of {X D k p : Nat} (hD : 0 < D) (h : Pl X D k p) (hp : p ≠ 3) : X < fi (k + 1) * D := by
  have g := Nat.mul_lt_mul_of_pos_right (fi_succ k) hD
  obtain ⟨-, h⟩ := h
  rw [Nat.add_mul] at h
  omega
theorem Pl.up {X D k p k' p' : Nat} (hD : 0 < D) (h : Pl X D k p) (h' : Pl X D k' p') : k' ≤ k := by
  rcases Nat.lt_or_ge k k' with c | c
  · have a := h.lt hD (by have := h'.1; omega)
    have b := h'.le hD
    have d := Nat.mul_le_mul_right D (fi_le_iff.2 (show k + 1 ≤ k' from c))
    omega
  · exact c
theorem Pl.uno {X D k p k' p' : Nat} (hD : 0 < D) (h : Pl X D k p) (h' : Pl X D k' p') : k = k' ∧ p = p' := by
  have e : k = k' := Nat.le_antisymm (h'.up hD h) (h.up hD h')
  subst e
  refine ⟨rfl, ?_⟩
  have g := Nat.mul_lt_mul_of_pos_right (fi_succ k) hD
  obtain ⟨-, h⟩ := h
  obtain ⟨-, h'⟩ := h'
  rw [Nat.add_mul] at h h'
  omega
theorem Pl.has (X D : Nat) (hD : 0 < D) : ∃ k p, Pl X D k p := by
  by_cases g : 2 ^ 2098 * D ≤ X
  · exact ⟨_, _, pl_far hD g⟩
  have c := flr_cell (X / D)
  generalize hk : flr (X / D) = k at c
  have c1 : fi k * D ≤ X := (Nat.le_div_iff_mul_le hD).1 c.1
  have c2 : X < fi (k + 1) * D := (Nat.div_lt_iff_lt_mul hD).1 c.2
  have kl : k < 9218868437227405312 := by
    rw [← fi_inf] at g
    rcases Nat.lt_or_ge k 9218868437227405312 with d | d
    · exact d
    · have := Nat.mul_le_mul_right D (fi_le_iff.2 d)
      omega
  by_cases e0 : fi k * D = X
  · exact ⟨k, 0, kl, .inl ⟨rfl, e0⟩⟩
  rcases Nat.lt_trichotomy (2 * X) ((fi k + fi (k + 1)) * D) with d | d | d
  · exact ⟨k, 1, kl, .inr (.inl ⟨rfl, by omega, d⟩)⟩
  · exact ⟨k, 2, kl, .inr (.inr (.inl ⟨rfl, d⟩))⟩
  · exact ⟨k, 3, kl, .inr (.inr (.inr ⟨rfl, d, .inl c2⟩))⟩
/-- Where a rational number's distance from 0 lies. -/
def Pv (v : Rat) (k p : Nat) : Prop := Pl (v.num.natAbs * K8) v.den k p
theorem Pv.has (v : Rat) : ∃ k p, Pv v k p := Pl.has _ _ v.den_pos
theorem Pv.uno {v : Rat} {k p k' p' : Nat} (h : Pv v k p) (h' : Pv v k' p') : k = k' ∧ p = p' := Pl.uno v.den_pos h h'
theorem Pv.lt {v : Rat} {k p : Nat} (h : Pv v k p) : k < 9218868437227405312 := h.1
theorem Pv.p3 {v : Rat} {k p : Nat} (h : Pv v k p) : p ≤ 3 := by
  obtain ⟨-, h⟩ := h; omega
/-- A finite word's rational number. -/
noncomputable def fv (x : Nat) : Rat := mkRat (fz x) K8
theorem fv_num (x : Nat) : (fv x).num * K8 = fz x * (fv x).den := by
  have h : mkRat (fz x) K8 = mkRat (fv x).num (fv x).den := (Rat.mkRat_self (fv x)).symm
  exact ((Rat.mkRat_eq_iff (Nat.ne_of_gt K8_pos) (fv x).den_nz).1 h).symm
theorem fv_abs {x : Nat} (h : x < 18446744073709551616) : (fv x).num.natAbs * K8 = fi (x % 9223372036854775808) * (fv x).den := by
  have e := congrArg Int.natAbs (fv_num x)
  rw [Int.natAbs_mul, Int.natAbs_mul, Int.natAbs_natCast, Int.natAbs_natCast] at e
  rw [e]
  congr 1
  rw [fz_sg h]
  cases fsg x <;> simp
theorem fv_pv {x : Nat} (h : x < 18446744073709551616) (hr : x % 9223372036854775808 < 9218868437227405312) : Pv (fv x) (x % 9223372036854775808) 0 :=
  ⟨hr, .inl ⟨rfl, (fv_abs h).symm⟩⟩
theorem fv_sign (x : Nat) : ((fv x).num < 0 ↔ fz x < 0) ∧ ((fv x).num = 0 ↔ fz x = 0) := by
  have e := fv_num x
  have hd : (0 : Int) < ((fv x).den : Int) := by have := (fv x).den_pos; omega
  have hk : (0 : Int) < (K8 : Int) := by have := K8_pos; omega
  generalize (fv x).num = a at *
  generalize ((fv x).den : Int) = b at *
  generalize (K8 : Int) = k at *
  generalize fz x = c at *
  have m1 : a < 0 ↔ a * k < 0 := ⟨fun h => Int.mul_neg_of_neg_of_pos h hk, fun h => by
    rcases Int.lt_or_le a 0 with g | g
    · exact g
    · have := Int.mul_nonneg g (Int.le_of_lt hk); omega⟩
  have m2 : c < 0 ↔ c * b < 0 := ⟨fun h => Int.mul_neg_of_neg_of_pos h hd, fun h => by
    rcases Int.lt_or_le c 0 with g | g
    · exact g
    · have := Int.mul_nonneg g (Int.le_of_lt hd); omega⟩
  refine ⟨by rw [m1, m2, e], ?_⟩
  constructor
  · intro h; rw [h, Int.zero_mul] at e
    rcases Int.mul_eq_zero.1 e.symm with g | g <;> omega
  · intro h; rw [h, Int.zero_mul] at e
    rcases Int.mul_eq_zero.1 e with g | g <;> omega
/-- The order of a float's number and another one. -/
theorem fv_lt {x : Nat} {v : Rat} : ((fv x).num * v.den < v.num * (fv x).den ↔ fz x * v.den < v.num * K8) ∧ ((fv x).num * v.den = v.num * (fv x).den ↔ fz x * v.den = v.num * K8) := by
  have e := fv_num x
  have hd : (0 : Int) < ((fv x).den : Int) := by have := (fv x).den_pos; omega
  have hk : (0 : Int) < (K8 : Int) := by have := K8_pos; omega
  generalize (fv x).num = a at *
  generalize ((fv x).den : Int) = b at *
  generalize (K8 : Int) = k at *
  generalize fz x = c at *
  generalize (v.den : Int) = d at *
  generalize v.num = n at *
  have e1 : a * d * k = c * d * b := by rw [Int.mul_assoc, Int.mul_comm d k, ← Int.mul_assoc, e, Int.mul_assoc, Int.mul_comm b d, ← Int.mul_assoc]
  have e2 : n * b * k = n * k * b := by rw [Int.mul_assoc, Int.mul_comm b k, ← Int.mul_assoc]
  constructor
  · constructor
    · intro h
      have := Int.mul_lt_mul_of_pos_right h hk
      rw [e1, e2] at this
      exact Int.lt_of_mul_lt_mul_right this (Int.le_of_lt hd)
    · intro h
      have := Int.mul_lt_mul_of_pos_right h hd
      rw [← e1, ← e2] at this
      exact Int.lt_of_mul_lt_mul_right this (Int.le_of_lt hk)
  · constructor
    · intro h
      have : a * d * k = n * b * k := by rw [h]
      rw [e1, e2] at this
      exact Int.eq_of_mul_eq_mul_right (by omega) this
    · intro h
      have : c * d * b = n * k * b := by rw [h]
      rw [← e1, ← e2] at this
      exact Int.eq_of_mul_eq_mul_right (by omega) this
/-- Two words with one number have one rational number. -/
theorem fv_eq {x y : Nat} (h : fz x = fz y) : fv x = fv y := by unfold fv; rw [h]
theorem pow_shift (d : Nat) {a u b c : Nat} (h : a + c = u + b) : d * 2 ^ a * 2 ^ c = d * 2 ^ u * 2 ^ b := by
  rw [Nat.mul_assoc, Nat.mul_assoc, ← Nat.pow_add, ← Nat.pow_add, h]
/-- A float's number as it is made: digits times a power of two. -/
theorem fv_made (x : Nat) (s : Bool) (d u t : Nat) (h : fz x = if s then -((d * 2 ^ u : Nat) : Int) else ((d * 2 ^ u : Nat) : Int)) (a b : Nat) (hab : a + 1074 = u + b) (n : Int) (hn : n = if s then -((d * 2 ^ a : Nat) : Int) else ((d * 2 ^ a : Nat) : Int)) (D : Int) (hD : D = ((2 ^ b : Nat) : Int)) : Rat.divInt n D = fv x := by
  have zb : 0 < 2 ^ b := Nat.pow_pos (by decide)
  rw [hD, Rat.divInt_ofNat]
  unfold fv
  rw [Rat.mkRat_eq_iff (by omega) (Nat.ne_of_gt K8_pos), h, hn]
  have e : d * 2 ^ a * K8 = d * 2 ^ u * 2 ^ b := by
    have := pow_shift d hab
    rw [← K8_eq] at this
    exact this
  have e2 : ((d * 2 ^ a : Nat) : Int) * (K8 : Int) = ((d * 2 ^ u : Nat) : Int) * ((2 ^ b : Nat) : Int) := by
    rw [← Int.natCast_mul, ← Int.natCast_mul, e]
  generalize ((d * 2 ^ a : Nat) : Int) = A at *
  generalize ((d * 2 ^ u : Nat) : Int) = B at *
  generalize ((2 ^ b : Nat) : Int) = C at *
  generalize (K8 : Int) = E at *
  cases s
  · exact e2
  · simp only [if_true, Int.neg_mul]
    rw [e2]
end Go.Proofs.YtmhfoeooccppfaaGreat

namespace Go.Proofs.YtmhfoeooccppfaaGreat
open Go
set_option linter.unusedVariables false

theorem b_mask52 (x : Nat) (h : x < 18446744073709551616) : bits .and .u64 (x : Int) 4503599627370495 = ((x % 4503599627370496 : Nat) : Int) := by
  have e := u64_and_nat x 4503599627370495 h (by decide)
  have q : x &&& 4503599627370495 = x % 4503599627370496 := Nat.and_two_pow_sub_one_eq_mod x 52
  rw [q] at e; exact e
theorem b_low1 (x : Nat) (h : x < 18446744073709551616) : bits .and .u64 (x : Int) 1 = ((x % 2 : Nat) : Int) := by
  have e := u64_and_nat x 1 h (by decide)
  have q : x &&& 1 = x % 2 := Nat.and_two_pow_sub_one_eq_mod x 1
  rw [q] at e; exact e
theorem b_sign (x : Nat) (h : x < 18446744073709551616) : bits .and .u64 (x : Int) 9223372036854775808 = if fsg x then 9223372036854775808 else 0 := by
  have e := u64_and_nat x 9223372036854775808 h (by decide)
  have q : x &&& 9223372036854775808 = x / 9223372036854775808 % 2 * 9223372036854775808 := nat_bit 63 x
  rw [q] at e
  unfold fsg
  by_cases g : 9223372036854775808 ≤ x
  · have : x / 9223372036854775808 % 2 = 1 := by omega
    rw [this] at e; simp only [g, decide_true, if_true]; exact e
  · have : x / 9223372036854775808 % 2 = 0 := by omega
    rw [this] at e; simp only [g, decide_false, Bool.false_eq_true, if_false]; exact e
theorem b_exp (E : Nat) (h : E < 4096) : bits .and .u64 (E : Int) 2047 = ((E % 2048 : Nat) : Int) := by
  have e := u64_and_nat E 2047 (by omega) (by decide)
  have q : E &&& 2047 = E % 2048 := Nat.and_two_pow_sub_one_eq_mod E 11
  rw [q] at e; exact e
theorem b_expi (E : Nat) (h : E < 2048) : bits .and .i64 (E : Int) 2047 = (E : Int) := by
  have e := (bits_nat .i64 63 (by decide) (fun n h0 h1 => by rw [IntKind.wrap_i64]; omega) E 2047 (by omega) (by decide)).1
  have q : E &&& 2047 = E % 2048 := Nat.and_two_pow_sub_one_eq_mod E 11
  rw [q, Nat.mod_eq_of_lt h] at e; exact e
theorem b_hidden (d : Nat) (h : d < 4503599627370496) : bits .or .u64 (d : Int) 4503599627370496 = ((d + 4503599627370496 : Nat) : Int) := by
  have e := u64_or_nat d 4503599627370496 (by omega) (by decide)
  have q : 4503599627370496 ||| d = 4503599627370496 + d := nat_join 52 4503599627370496 d (by decide) h
  rw [Nat.or_comm, q, Nat.add_comm] at e; exact e
theorem b_neg (x : Nat) (h : x < 9223372036854775808) : bits .or .u64 (x : Int) 9223372036854775808 = ((9223372036854775808 + x : Nat) : Int) := by
  have e := u64_or_nat x 9223372036854775808 (by omega) (by decide)
  have q : 9223372036854775808 ||| x = 9223372036854775808 + x := nat_join 63 9223372036854775808 x (by decide) h
  rw [Nat.or_comm, q] at e; exact e
theorem b_frac (x : Nat) (h : x < 9223372036854775808) : bits .andNot .u64 (x : Int) 9218868437227405312 = ((x % 4503599627370496 : Nat) : Int) := by
  have e := u64_andNot_nat x 9218868437227405312 (by omega) (by decide)
  have q : x &&& (18446744073709551615 - 9218868437227405312) = x % 4503599627370496 := by
    have d : (18446744073709551615 - 9218868437227405312 : Nat) = 9223372036854775808 ||| 4503599627370495 := by decide
    rw [d, Nat.and_or_distrib_left]
    have q1 : x &&& 9223372036854775808 = x / 9223372036854775808 % 2 * 9223372036854775808 := nat_bit 63 x
    have q2 : x &&& 4503599627370495 = x % 4503599627370496 := Nat.and_two_pow_sub_one_eq_mod x 52
    have q3 : x / 9223372036854775808 % 2 = 0 := by omega
    rw [q1, q2, q3, Nat.zero_mul, Nat.zero_or]
  rw [q] at e; exact e
theorem b_join (d E : Nat) (h : d < 4503599627370496) (hE : E < 2048) : bits .or .u64 (d : Int) ((E * 4503599627370496 : Nat) : Int) = ((E * 4503599627370496 + d : Nat) : Int) := by
  have e := u64_or_nat d (E * 4503599627370496) (by omega) (by omega)
  have q : E * 4503599627370496 ||| d = E * 4503599627370496 + d := nat_join 52 (E * 4503599627370496) d (Nat.mul_mod_left _ _) h
  rw [Nat.or_comm, q] at e; exact e
theorem b_abs (x : Nat) (h : x < 18446744073709551616) : bits .andNot .u64 (x : Int) 9223372036854775808 = ((x % 9223372036854775808 : Nat) : Int) := by
  have e := u64_andNot_nat x 9223372036854775808 h (by decide)
  have q : x &&& (18446744073709551615 - 9223372036854775808) = x % 9223372036854775808 := Nat.and_two_pow_sub_one_eq_mod x 63
  rw [q] at e; exact e
theorem b_shr (x : Nat) : Int.fdiv (x : Int) 4503599627370496 = ((x / 4503599627370496 : Nat) : Int) := by
  rw [Int.fdiv_eq_ediv_of_nonneg _ (by decide)]; rfl
/-- The other sign. -/
theorem b_flip (x : Nat) (h : x < 18446744073709551616) : x ^^^ 9223372036854775808 = wd (!fsg x) (x % 9223372036854775808) := by
  have q : x % 9223372036854775808 ^^^ 9223372036854775808 = 9223372036854775808 + x % 9223372036854775808 := by
    have l : x % 9223372036854775808 < 2 ^ 63 := by omega
    have d : (x % 9223372036854775808) &&& 9223372036854775808 = 0 := by
      have := nat_bit 63 (x % 9223372036854775808)
      have z : x % 9223372036854775808 / 2 ^ 63 % 2 = 0 := by omega
      rw [z, Nat.zero_mul] at this; exact this
    have j : 9223372036854775808 ||| (x % 9223372036854775808) = 9223372036854775808 + x % 9223372036854775808 := nat_join 63 _ _ (by decide) l
    have s := Nat.or_comm (x % 9223372036854775808) 9223372036854775808
    apply Nat.eq_of_testBit_eq
    intro i
    rw [← j, Nat.testBit_xor, Nat.testBit_or]
    have t := congrArg (fun n => n.testBit i) d
    simp only [Nat.testBit_and, Nat.zero_testBit] at t
    generalize (x % 9223372036854775808).testBit i = a at *
    generalize (9223372036854775808 : Nat).testBit i = b at *
    cases a <;> cases b <;> simp_all
  have w := wd_sg h
  unfold wd at *
  cases hs : fsg x
  · rw [hs] at w
    simp only [Bool.false_eq_true, if_false] at w
    simp only [Bool.not_false, if_true]
    conv => lhs; rw [← w]
    exact q
  · rw [hs] at w
    simp only [if_true] at w
    simp only [Bool.not_true, Bool.false_eq_true, if_false]
    conv => lhs; rw [← w, ← q]
    rw [Nat.xor_assoc, Nat.xor_self, Nat.xor_zero]
end Go.Proofs.YtmhfoeooccppfaaGreat
