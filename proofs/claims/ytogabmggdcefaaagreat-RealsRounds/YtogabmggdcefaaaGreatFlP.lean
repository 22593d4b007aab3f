/-
  Floats in numbers: a word's rung tells its number in units of 2 ^ -1074 (fi; infinity's rung as 2 ^ 2098), fz with the sign. Rungs and numbers go up together; the order of two words is that of their numbers; a word that is read and written is itself.
-/
import Ieee.Arith
namespace Go.Proofs.YtogabmggdcefaaaGreat
set_option linter.unusedVariables false

/-- A rung's number, in units of 2 ^ -1074. -/
def fi (r : Nat) : Nat := if r < 4503599627370496 then r else (4503599627370496 + r % 4503599627370496) * 2 ^ (r / 4503599627370496 - 1)
/-- A word's number. -/
def fz (w : Nat) : Int := if w < 9223372036854775808 then (fi w : Int) else -(fi (w - 9223372036854775808) : Int)
/-- A word that is no NaN. -/
def Fr (w : Nat) : Prop := w % 9223372036854775808 ≤ 9218868437227405312 ∧ w < 18446744073709551616

theorem fi_succ (r : Nat) : fi r < fi (r + 1) := by
  unfold fi
  by_cases h : r < 4503599627370496
  · rw [if_pos h]
    by_cases h2 : r + 1 < 4503599627370496
    · rw [if_pos h2]; omega
    · rw [if_neg h2]
      have e : r + 1 = 4503599627370496 := by omega
      rw [e]; simp; omega
  · rw [if_neg h, if_neg (by omega)]
    by_cases h2 : r % 4503599627370496 + 1 < 4503599627370496
    · have e1 : (r + 1) / 4503599627370496 = r / 4503599627370496 := by omega
      have e2 : (r + 1) % 4503599627370496 = r % 4503599627370496 + 1 := by omega
      rw [e1, e2]
      exact Nat.mul_lt_mul_of_pos_right (by omega) (Nat.pow_pos (by decide))
    · have e1 : (r + 1) / 4503599627370496 - 1 = (r / 4503599627370496 - 1) + 1 := by omega
      have e2 : (r + 1) % 4503599627370496 = 0 := by omega
      rw [e1, e2, Nat.pow_succ, Nat.mul_comm (2 ^ _) 2, ← Nat.mul_assoc]
      exact Nat.mul_lt_mul_of_pos_right (by omega) (Nat.pow_pos (by decide))
theorem fi_lt {r s : Nat} (h : r < s) : fi r < fi s := by
  induction s with
  | zero => omega
  | succ s ih =>
    rcases Nat.lt_or_ge r s with g | g
    · exact Nat.lt_trans (ih g) (fi_succ s)
    · have : r = s := by omega
      rw [this]; exact fi_succ s
theorem fi_lt_iff {r s : Nat} : fi r < fi s ↔ r < s := by
  constructor
  · intro h
    rcases Nat.lt_or_ge r s with g | g
    · exact g
    · rcases Nat.eq_or_lt_of_le g with g | g
      · rw [g] at h; omega
      · have := fi_lt g; omega
  · exact fi_lt
theorem fi_le_iff {r s : Nat} : fi r ≤ fi s ↔ r ≤ s := by
  have := @fi_lt_iff s r; omega
theorem fi_inj {r s : Nat} (h : fi r = fi s) : r = s := by
  have h1 := @fi_lt_iff s r
  have h2 := @fi_lt_iff r s
  omega
theorem fi_zero : fi 0 = 0 := rfl
theorem fi_pos {r : Nat} (h : 0 < r) : 0 < fi r := by
  have := fi_lt h; omega
set_option exponentiation.threshold 3000 in
theorem fi_inf : fi 9218868437227405312 = 2 ^ 2098 := by
  unfold fi
  rw [if_neg (by decide)]

theorem d_sw : Ieee.double.signWeight = 9223372036854775808 := by decide
theorem d_bi : Ieee.double.binade = 4503599627370496 := by decide
theorem d_in : Ieee.double.infRung = 9218868437227405312 := by decide
theorem d_lp : Ieee.double.leastPlace = -1074 := by decide

/-- The sign of a word. -/
def fsg (w : Nat) : Bool := decide (9223372036854775808 ≤ w)
theorem sg_read {w : Nat} (h : w < 18446744073709551616) : (w / 9223372036854775808 % 2 == 1) = fsg w := by
  unfold fsg
  by_cases g : 9223372036854775808 ≤ w
  · have : w / 9223372036854775808 % 2 = 1 := by omega
    simp [this, g]
  · have : w / 9223372036854775808 % 2 = 0 := by omega
    simp [this, g]

theorem read_fin {w : Nat} (h : w < 18446744073709551616) (hr : w % 9223372036854775808 < 9218868437227405312) :
    ∃ m p : Nat, Ieee.double.read w = .number (fsg w) m ((p : Int) - 1074) ∧ m * 2 ^ p = fi (w % 9223372036854775808) := by
  unfold Ieee.Format.read
  rw [d_sw, d_bi, d_in, d_lp, sg_read h]
  dsimp only
  by_cases g : w % 9223372036854775808 < 4503599627370496
  · rw [if_pos g]
    exact ⟨_, 0, rfl, by unfold fi; rw [if_pos g]; omega⟩
  · rw [if_neg g, if_pos hr]
    refine ⟨_, w % 9223372036854775808 / 4503599627370496 - 1, by congr 1, ?_⟩
    unfold fi; rw [if_neg g]
theorem read_inf {w : Nat} (h : w < 18446744073709551616) (hr : w % 9223372036854775808 = 9218868437227405312) :
    Ieee.double.read w = .infinity (fsg w) := by
  unfold Ieee.Format.read
  rw [d_sw, d_bi, d_in, d_lp, sg_read h]
  dsimp only
  rw [hr]; rfl
theorem read_nan {w : Nat} (h : w < 18446744073709551616) (hr : 9218868437227405312 < w % 9223372036854775808) :
    Ieee.double.read w = .nan (fsg w) (w % 9223372036854775808 - 9218868437227405312) := by
  unfold Ieee.Format.read
  rw [d_sw, d_bi, d_in, d_lp, sg_read h]
  dsimp only
  rw [if_neg (by omega), if_neg (by omega), if_neg (by omega)]
theorem fz_sg {w : Nat} (h : w < 18446744073709551616) : fz w = if fsg w then -(fi (w % 9223372036854775808) : Int) else (fi (w % 9223372036854775808) : Int) := by
  unfold fz fsg
  by_cases g : w < 9223372036854775808
  · rw [if_pos g]
    have e : w % 9223372036854775808 = w := by omega
    rw [e]
    simp [show ¬ 9223372036854775808 ≤ w by omega]
  · rw [if_neg g]
    have e : w % 9223372036854775808 = w - 9223372036854775808 := by omega
    rw [e]
    simp [show 9223372036854775808 ≤ w by omega]
theorem signed_mul (s : Bool) (m u k : Nat) : Ieee.signed s m u * (2 : Int) ^ k = if s then -((m * 2 ^ (u + k) : Nat) : Int) else ((m * 2 ^ (u + k) : Nat) : Int) := by
  unfold Ieee.signed
  rw [Nat.shiftLeft_eq, Nat.pow_add, ← Nat.mul_assoc]
  cases s <;> simp [Int.neg_mul]
theorem cmp_mul (a b k : Int) (h : 0 < k) : compare a b = compare (a * k) (b * k) := by
  have h1 : a < b ↔ a * k < b * k := ⟨fun g => Int.mul_lt_mul_of_pos_right g h, fun g => Int.lt_of_mul_lt_mul_right g (Int.le_of_lt h)⟩
  have h2 : a = b ↔ a * k = b * k := ⟨fun g => by rw [g], fun g => Int.eq_of_mul_eq_mul_right (by omega) g⟩
  simp only [compare, compareOfLessAndEq, h1, h2]
theorem order_fz {x y : Nat} (hx : Fr x) (hy : Fr y) : Ieee.double.order x y = some (compare (fz x) (fz y)) := by
  obtain ⟨nx, lx⟩ := hx
  obtain ⟨ny, ly⟩ := hy
  have ci : ∀ {a b : Int}, a < b → compare a b = .lt := fun h => by simp [compare, compareOfLessAndEq, h]
  have cg : ∀ {a b : Int}, b < a → compare a b = .gt := fun h => by
    simp only [compare, compareOfLessAndEq]; rw [if_neg (by omega), if_neg (by omega)]
  unfold Ieee.Format.order
  have bx := @fi_lt_iff (x % 9223372036854775808) 9218868437227405312
  have by' := @fi_lt_iff (y % 9223372036854775808) 9218868437227405312
  have bp := @fi_pos 9218868437227405312 (by decide)
  rw [fz_sg lx, fz_sg ly]
  rcases Nat.eq_or_lt_of_le nx with ex | ex
  · rw [read_inf lx ex, ex]
    rcases Nat.eq_or_lt_of_le ny with ey | ey
    · rw [read_inf ly ey, ey]
      cases fsg x <;> cases fsg y <;> simp only [Ieee.Datum.order, Bool.false_eq_true, if_true, if_false]
      · simp [compare, compareOfLessAndEq]
      · rw [cg (by omega)]; rfl
      · rw [ci (by omega)]; rfl
      · simp [compare, compareOfLessAndEq]
    · obtain ⟨m, p, e, _⟩ := read_fin ly ey
      have := by'.2 ey
      rw [e]
      cases fsg x <;> cases fsg y <;> simp only [Ieee.Datum.order] <;> simp
      · rw [cg (by omega)]
      · rw [cg (by omega)]
      · rw [ci (by omega)]
      · rw [ci (by omega)]
  · obtain ⟨m, p, e, v⟩ := read_fin lx ex
    have q1 := bx.2 ex
    rw [e]
    rcases Nat.eq_or_lt_of_le ny with ey | ey
    · rw [read_inf ly ey, ey]
      cases fsg x <;> cases fsg y <;> simp only [Ieee.Datum.order] <;> simp
      · rw [ci (by omega)]
      · rw [cg (by omega)]
      · rw [ci (by omega)]
      · rw [cg (by omega)]
    · obtain ⟨n, q, e2, v2⟩ := read_fin ly ey
      rw [e2]
      simp only [Ieee.Datum.order]
      rw [cmp_mul _ _ ((2 : Int) ^ (min p q)) (Int.pow_pos (by decide)), signed_mul, signed_mul]
      have k1 : ((p : Int) - 1074 - min ((p : Int) - 1074) ((q : Int) - 1074)).toNat + min p q = p := by omega
      have k2 : ((q : Int) - 1074 - min ((p : Int) - 1074) ((q : Int) - 1074)).toNat + min p q = q := by omega
      rw [k1, k2, v, v2]
theorem log2_mul {m : Nat} (p : Nat) (h : m ≠ 0) : (m * 2 ^ p).log2 = m.log2 + p := by
  have a := (Nat.log2_eq_iff h).1 rfl
  have z : 0 < 2 ^ p := Nat.pow_pos (by decide)
  have n0 : m * 2 ^ p ≠ 0 := Nat.mul_ne_zero h (by omega)
  rw [Nat.log2_eq_iff n0]
  constructor
  · rw [Nat.pow_add]; exact Nat.mul_le_mul_right _ a.1
  · have e : 2 ^ (m.log2 + p + 1) = 2 ^ (m.log2 + 1) * 2 ^ p := by rw [← Nat.pow_add]; congr 1; omega
    rw [e]; exact Nat.mul_lt_mul_of_pos_right a.2 z
theorem cut_exact (s : Bool) {n : Nat} (d : Nat) (h : n ≠ 0) : Ieee.Toward.even.cut s (n * 2 ^ d) d = n := by
  unfold Ieee.Toward.cut
  have z : 0 < 2 ^ d := Nat.pow_pos (by decide)
  have e : min d ((n * 2 ^ d).log2 + 2) = d := by rw [log2_mul d h]; omega
  dsimp only
  rw [e, Nat.shiftLeft_eq, Nat.one_mul, Nat.mul_div_cancel _ z, Nat.mul_mod_left]
  have g : ¬ (2 ^ d < 2 * 0) := by omega
  have g2 : (2 ^ d == 2 * 0) = false := by simp
  simp [g, g2]
/-- What the format has is written as it is. -/
theorem nearest_exact (s : Bool) (mag p r : Nat) (hr : r < 9218868437227405312) (h : mag * 2 ^ p = fi r) :
    Ieee.double.nearest s mag ((p : Int) - 1074) = if s then 9223372036854775808 + r else r := by
  unfold Ieee.Format.nearest
  by_cases m0 : mag = 0
  · rw [if_pos m0]
    have e : fi r = fi 0 := by rw [← h, m0, Nat.zero_mul]; rfl
    have e := fi_inj e
    unfold Ieee.Format.word
    rw [e, d_sw]
  rw [if_neg m0, d_lp, d_bi, d_in]
  dsimp only
  have f52 : (Ieee.double.fractionBits : Int) = 52 := rfl
  rw [f52]
  have hl := log2_mul p m0
  rw [h] at hl
  have B52 : (4503599627370496 : Nat) = 2 ^ 52 := by decide
  -- the place that is kept, and what is kept
  obtain ⟨t, k, ht, hk, hv, k0⟩ : ∃ t k : Nat, max (((p : Int) - 1074) + (mag.log2 : Nat) - 52) (-1074) = (t : Int) - 1074 ∧ k * 2 ^ t = fi r ∧ t * 4503599627370496 + k = r ∧ k ≠ 0 := by
    by_cases g : r < 4503599627370496
    · have e : fi r = r := by unfold fi; rw [if_pos g]
      have n0 : r ≠ 0 := by
        intro e0; rw [e, e0] at h
        have := Nat.mul_ne_zero m0 (show 2 ^ p ≠ 0 from Nat.ne_of_gt (Nat.pow_pos (by decide)))
        exact this h
      refine ⟨0, r, ?_, by rw [e]; simp, by omega, n0⟩
      have := (Nat.log2_lt n0).2 (show r < 2 ^ 52 by omega)
      rw [e] at hl
      omega
    · have e : fi r = (4503599627370496 + r % 4503599627370496) * 2 ^ (r / 4503599627370496 - 1) := by unfold fi; rw [if_neg g]
      refine ⟨r / 4503599627370496 - 1, 4503599627370496 + r % 4503599627370496, ?_, e.symm, by omega, by omega⟩
      have l2 : (4503599627370496 + r % 4503599627370496).log2 = 52 := by
        rw [Nat.log2_eq_iff (by omega)]; omega
      rw [e, log2_mul _ (by omega), l2] at hl
      omega
  rw [ht]
  have kk : Ieee.Toward.even.cut s (mag <<< ((p : Int) - 1074 - ((t : Int) - 1074)).toNat) (((t : Int) - 1074) - ((p : Int) - 1074)).toNat = k := by
    rcases Nat.le_total t p with c | c
    · have e1 : ((p : Int) - 1074 - ((t : Int) - 1074)).toNat = p - t := by omega
      have e2 : (((t : Int) - 1074) - ((p : Int) - 1074)).toNat = 0 := by omega
      rw [e1, e2, Nat.shiftLeft_eq]
      have e3 : mag * 2 ^ (p - t) = k := by
        have : mag * 2 ^ (p - t) * 2 ^ t = k * 2 ^ t := by
          rw [hk, ← h, Nat.mul_assoc, ← Nat.pow_add]; congr 2; omega
        exact Nat.eq_of_mul_eq_mul_right (Nat.pow_pos (by decide)) this
      rw [e3]
      have := cut_exact s 0 k0
      simpa using this
    · have e1 : ((p : Int) - 1074 - ((t : Int) - 1074)).toNat = 0 := by omega
      have e2 : (((t : Int) - 1074) - ((p : Int) - 1074)).toNat = t - p := by omega
      rw [e1, e2, Nat.shiftLeft_eq, Nat.pow_zero, Nat.mul_one]
      have e3 : mag = k * 2 ^ (t - p) := by
        have : mag * 2 ^ p = k * 2 ^ (t - p) * 2 ^ p := by
          rw [h, ← hk, Nat.mul_assoc, ← Nat.pow_add]; congr 2; omega
        exact Nat.eq_of_mul_eq_mul_right (Nat.pow_pos (by decide)) this
      rw [e3]
      exact cut_exact s _ k0
  rw [kk]
  have e4 : (((t : Int) - 1074) - -1074).toNat = t := by omega
  rw [e4, hv, Nat.min_eq_left (by omega)]
  unfold Ieee.Format.word
  rw [d_sw]
/-- A finite word with 0 added: itself, but that -0 becomes +0. -/
theorem add_nought {w : Nat} (h : w < 18446744073709551616) (hr : w % 9223372036854775808 < 9218868437227405312) :
    Ieee.double.add w 0 = some (if w = 9223372036854775808 then 0 else w) := by
  obtain ⟨m, p, e, v⟩ := read_fin h hr
  have e0 : Ieee.double.read 0 = .number false 0 (-1074) := by decide
  unfold Ieee.Format.add
  rw [e, e0]
  simp only [Ieee.Datum.sum, Option.map_some]
  have b1 : min ((p : Int) - 1074) (-1074) = -1074 := by omega
  have b2 : ((p : Int) - 1074 - -1074).toNat = p := by omega
  rw [b1, b2]
  have s0 : Ieee.signed false 0 ((-1074 : Int) - -1074).toNat = 0 := by decide
  rw [s0, Int.add_zero]
  have sv : Ieee.signed (fsg w) m p = if fsg w then -(fi (w % 9223372036854775808) : Int) else (fi (w % 9223372036854775808) : Int) := by
    have := signed_mul (fsg w) m p 0
    simp only [Nat.add_zero, Int.pow_zero, Int.mul_one] at this
    rw [this, v]
  have z : (fi (w % 9223372036854775808) = 0) ↔ w % 9223372036854775808 = 0 := ⟨fun g => fi_inj (g.trans fi_zero.symm), fun g => by rw [g]; rfl⟩
  have na : (Ieee.signed (fsg w) m p).natAbs = fi (w % 9223372036854775808) := by rw [sv]; cases fsg w <;> simp
  have q := nearest_exact (if Ieee.signed (fsg w) m p = 0 then fsg w && false else decide (Ieee.signed (fsg w) m p < 0)) (fi (w % 9223372036854775808)) 0 (w % 9223372036854775808) hr (by simp)
  have e5 : ((0 : Nat) : Int) - 1074 = -1074 := by omega
  rw [e5] at q
  show some (Ieee.double.nearest _ _ _) = _
  have hb : (if Ieee.signed (fsg w) m p = 0 then fsg w && false else decide (Ieee.signed (fsg w) m p < 0)) = decide (9223372036854775808 < w) := by
    rw [sv]
    by_cases c : fi (w % 9223372036854775808) = 0
    · have c2 := z.1 c
      rw [c]
      cases fsg w <;> simp <;> omega
    · have c2 : ¬ w % 9223372036854775808 = 0 := fun g => c (z.2 g)
      by_cases g : 9223372036854775808 ≤ w
      · have e6 : fsg w = true := by unfold fsg; simp [g]
        rw [e6]; simp only [if_true]
        rw [if_neg (by omega), decide_eq_decide]; omega
      · have e6 : fsg w = false := by unfold fsg; simp; omega
        rw [e6]; simp only [Bool.false_eq_true, if_false]
        rw [if_neg (by omega), decide_eq_decide]; omega
  rw [na, q, hb]
  congr 1
  by_cases g : 9223372036854775808 < w
  · simp only [g, decide_true, if_true]; rw [if_neg (by omega)]; omega
  · simp only [g, decide_false, Bool.false_eq_true, if_false]
    by_cases g2 : w = 9223372036854775808
    · rw [if_pos g2, g2]
    · rw [if_neg g2]; omega
theorem fi_at (e m : Nat) (h : e = 0 ∨ 4503599627370496 ≤ m) (hm : m ≤ 9007199254740992) : fi (e * 4503599627370496 + m) = m * 2 ^ e := by
  unfold fi
  by_cases g : e * 4503599627370496 + m < 4503599627370496
  · rw [if_pos g]
    have e0 : e = 0 := by omega
    rw [e0]; omega
  · rw [if_neg g]
    by_cases c : m = 9007199254740992
    · have e1 : (e * 4503599627370496 + m) / 4503599627370496 - 1 = e + 1 := by omega
      have e2 : (e * 4503599627370496 + m) % 4503599627370496 = 0 := by omega
      rw [e1, e2, c, Nat.pow_succ, Nat.mul_comm (2 ^ e) 2, ← Nat.mul_assoc]
    · have e1 : (e * 4503599627370496 + m) / 4503599627370496 - 1 = e := by omega
      have e2 : 4503599627370496 + (e * 4503599627370496 + m) % 4503599627370496 = m := by omega
      rw [e1, e2]
/-- Where a number stands: between two neighbours, by its first digits. -/
theorem fi_cell (e m x : Nat) (h : e = 0 ∨ 4503599627370496 ≤ m) (hm : m < 9007199254740992) (h1 : m * 2 ^ e ≤ x) (h2 : x < (m + 1) * 2 ^ e) :
    fi (e * 4503599627370496 + m) ≤ x ∧ x < fi (e * 4503599627370496 + m + 1) := by
  constructor
  · rw [fi_at e m h (by omega)]; exact h1
  · rw [Nat.add_assoc, fi_at e (m + 1) (by omega) (by omega)]; exact h2
/-- A word of a sign and a rung. -/
def wd (s : Bool) (r : Nat) : Nat := if s then 9223372036854775808 + r else r
theorem wd_fz {s : Bool} {r : Nat} (h : r < 9223372036854775808) : fz (wd s r) = if s then -(fi r : Int) else (fi r : Int) := by
  unfold fz wd
  cases s
  · simp [h]
  · rw [if_pos rfl, if_neg (by omega)]
    simp
theorem wd_fr {s : Bool} {r : Nat} (h : r ≤ 9218868437227405312) : Fr (wd s r) := by
  unfold Fr wd
  cases s <;> simp <;> omega
theorem wd_sg {w : Nat} (h : w < 18446744073709551616) : wd (fsg w) (w % 9223372036854775808) = w := by
  unfold wd fsg
  by_cases g : 9223372036854775808 ≤ w
  · simp [g]; omega
  · simp [g]; omega
theorem sub_self {w : Nat} (h : w < 18446744073709551616) (hr : w % 9223372036854775808 < 9218868437227405312) : Ieee.double.sub w w = some 0 := by
  obtain ⟨m, p, e, v⟩ := read_fin h hr
  unfold Ieee.Format.sub
  rw [e]
  simp only [Ieee.Datum.opposite, Ieee.Datum.sum, Option.map_some]
  have t0 : ∀ u, Ieee.signed (fsg w) m u + Ieee.signed (!fsg w) m u = 0 := by
    intro u; unfold Ieee.signed; cases fsg w <;> simp <;> omega
  rw [t0]
  have b0 : (fsg w && !fsg w) = false := by cases fsg w <;> rfl
  rw [if_pos rfl, b0]
  show some (Ieee.double.nearest _ _ _) = _
  unfold Ieee.Format.nearest
  rw [if_pos (by rfl)]; rfl
theorem sub_self_not {w : Nat} (h : w < 18446744073709551616) (hr : 9218868437227405312 ≤ w % 9223372036854775808) : Ieee.double.sub w w = none := by
  unfold Ieee.Format.sub
  rcases Nat.eq_or_lt_of_le hr with g | g
  · rw [read_inf h g.symm]
    cases fsg w <;> rfl
  · rw [read_nan h g]; rfl
theorem order_nan {x y : Nat} (lx : x < 18446744073709551616) (ly : y < 18446744073709551616) (h : 9218868437227405312 < x % 9223372036854775808 ∨ 9218868437227405312 < y % 9223372036854775808) : Ieee.double.order x y = none := by
  unfold Ieee.Format.order
  rcases h with h | h
  · rw [read_nan lx h]; rfl
  · rw [read_nan ly h]; cases Ieee.double.read x <;> rfl
end Go.Proofs.YtogabmggdcefaaaGreat
