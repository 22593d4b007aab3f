/-
  The text of a day in numbers: four digits, two, two; its order; what digits come to.
-/
import Derived.Test.YtlebkdmkofgdpaaDoorCaP
import Derived.Lib.ItoaNum
import GoSem.Op.String
namespace Go.Proofs.YtlebkdmkofgdpaaDoor
set_option linter.unusedVariables false

/-- A digit's byte. -/
def dg (n : Int) : UInt8 := UInt8.ofNat (48 + n.toNat)
theorem dg_val {n : Int} (h0 : 0 ≤ n) (h : n ≤ 9) : (dg n).toNat = 48 + n.toNat := by unfold dg; simp; omega
theorem dg_int {n : Int} (h0 : 0 ≤ n) (h : n ≤ 9) : ((dg n).toNat : Int) = 48 + n := by rw [dg_val h0 h]; omega
theorem dg_inj {a b : Int} (a0 : 0 ≤ a) (a9 : a ≤ 9) (b0 : 0 ≤ b) (b9 : b ≤ 9) (h : dg a = dg b) : a = b := by
  have := dg_int a0 a9; have := dg_int b0 b9; rw [h] at *; omega
theorem dg_lt {a b : Int} (a0 : 0 ≤ a) (h : a < b) (b9 : b ≤ 9) : dg a < dg b := by
  rw [UInt8.lt_iff_toNat_lt, dg_val a0 (by omega), dg_val (by omega) b9]; omega
def tx4 (y : Int) : List UInt8 := [dg (y / 1000), dg (y / 100 % 10), dg (y / 10 % 10), dg (y % 10)]
def tx2 (m : Int) : List UInt8 := [dg (m / 10), dg (m % 10)]
/-- A day's text. -/
def txt (y m k : Int) : List UInt8 := tx4 y ++ 45 :: (tx2 m ++ 45 :: tx2 k)
theorem txt_len (y m k : Int) : (txt y m k).length = 10 := rfl
/-- What bytes come to as digits. -/
def numL (l : List UInt8) : Int := l.foldl (fun n c => 10 * n + ((c.toNat : Int) - 48)) 0
theorem numL_snoc (l : List UInt8) (c : UInt8) : numL (l ++ [c]) = 10 * numL l + ((c.toNat : Int) - 48) := by unfold numL; rw [List.foldl_append]; rfl
theorem numL_4 (a b c d : UInt8) : numL [a, b, c, d] = 1000 * ((a.toNat : Int) - 48) + 100 * ((b.toNat : Int) - 48) + 10 * ((c.toNat : Int) - 48) + ((d.toNat : Int) - 48) := by simp only [numL, List.foldl_cons, List.foldl_nil]; omega
theorem numL_2 (a b : UInt8) : numL [a, b] = 10 * ((a.toNat : Int) - 48) + ((b.toNat : Int) - 48) := by simp only [numL, List.foldl_cons, List.foldl_nil]; omega
theorem numL_tx4 {y : Int} (h0 : 0 ≤ y) (h : y ≤ 9999) : numL (tx4 y) = y := by
  unfold tx4
  rw [numL_4, dg_int (by omega) (by omega), dg_int (by omega) (by omega), dg_int (by omega) (by omega), dg_int (by omega) (by omega)]
  omega
theorem numL_tx2 {m : Int} (h0 : 0 ≤ m) (h : m ≤ 99) : numL (tx2 m) = m := by
  unfold tx2
  rw [numL_2, dg_int (by omega) (by omega), dg_int (by omega) (by omega)]
  omega
/-- A text of ten bytes, cut. -/
theorem ten_cut {s : List UInt8} (h : s.length = 10) : s = s.take 4 ++ s.getD 4 0 :: ((s.drop 5).take 2 ++ s.getD 7 0 :: s.drop 8) := by
  match s, h with
  | [a, b, c, d, e, f, g, i, j, k], _ => rfl
theorem cut_txt (y m k : Int) : (txt y m k).take 4 = tx4 y ∧ ((txt y m k).drop 5).take 2 = tx2 m ∧ (txt y m k).drop 8 = tx2 k ∧ (txt y m k).getD 4 0 = 45 ∧ (txt y m k).getD 7 0 = 45 := ⟨rfl, rfl, rfl, rfl, rfl⟩
/-- Is a byte a digit? -/
def isDg (c : UInt8) : Bool := decide (48 ≤ c.toNat ∧ c.toNat ≤ 57)
theorem isDg_iff (c : UInt8) : isDg c = true ↔ 48 ≤ c.toNat ∧ c.toNat ≤ 57 := by unfold isDg; simp
theorem isDg_dg {n : Int} (h0 : 0 ≤ n) (h : n ≤ 9) : isDg (dg n) = true := by rw [isDg_iff, dg_val h0 h]; omega
theorem dg_of {c : UInt8} (h : isDg c = true) {n : Int} (e : n = (c.toNat : Int) - 48) : dg n = c := by
  obtain ⟨h1, h2⟩ := (isDg_iff c).1 h
  unfold dg
  rw [show 48 + n.toNat = c.toNat by omega]
  simp
theorem tx4_of {l : List UInt8} (h : l.length = 4) (hd : l.all isDg = true) : tx4 (numL l) = l ∧ 0 ≤ numL l ∧ numL l ≤ 9999 := by
  match l, h with
  | [a, b, c, d], _ =>
    simp only [List.all_cons, List.all_nil, Bool.and_true, Bool.and_eq_true] at hd
    obtain ⟨ha, hb, hc, hd⟩ := hd
    have ga := (isDg_iff a).1 ha; have gb := (isDg_iff b).1 hb; have gc := (isDg_iff c).1 hc; have gd := (isDg_iff d).1 hd
    rw [numL_4]
    refine ⟨?_, by omega, by omega⟩
    unfold tx4
    rw [dg_of ha (by omega), dg_of hb (by omega), dg_of hc (by omega), dg_of hd (by omega)]
theorem tx2_of {l : List UInt8} (h : l.length = 2) (hd : l.all isDg = true) : tx2 (numL l) = l ∧ 0 ≤ numL l ∧ numL l ≤ 99 := by
  match l, h with
  | [a, b], _ =>
    simp only [List.all_cons, List.all_nil, Bool.and_true, Bool.and_eq_true] at hd
    obtain ⟨ha, hb⟩ := hd
    have ga := (isDg_iff a).1 ha; have gb := (isDg_iff b).1 hb
    rw [numL_2]
    refine ⟨?_, by omega, by omega⟩
    unfold tx2
    rw [dg_of ha (by omega), dg_of hb (by omega)]
theorem tx4_dg {y : Int} (h0 : 0 ≤ y) (h : y ≤ 9999) : (tx4 y).all isDg = true := by
  unfold tx4
  simp only [List.all_cons, List.all_nil, Bool.and_true, Bool.and_eq_true]
  exact ⟨isDg_dg (by omega) (by omega), isDg_dg (by omega) (by omega), isDg_dg (by omega) (by omega), isDg_dg (by omega) (by omega)⟩
theorem tx2_dg {y : Int} (h0 : 0 ≤ y) (h : y ≤ 99) : (tx2 y).all isDg = true := by
  unfold tx2
  simp only [List.all_cons, List.all_nil, Bool.and_true, Bool.and_eq_true]
  exact ⟨isDg_dg (by omega) (by omega), isDg_dg (by omega) (by omega)⟩
/-- With noughts ahead a number's digits are four, or two. -/
theorem dec1 {u : Nat} (h : u < 10) : Go.Lib.decDigits u = [dg u] := by rw [Go.Lib.decDigits, dif_pos h]; rfl
theorem dec_up {u : Nat} (h : ¬ u < 10) : Go.Lib.decDigits u = Go.Lib.decDigits (u / 10) ++ [dg ((u : Int) % 10)] := by
  rw [Go.Lib.decDigits, dif_neg h]
  congr 2
theorem pad4 {u : Nat} (h : u ≤ 9999) : (Go.Lib.decDigits u).length ≤ 4 ∧ List.replicate (4 - (Go.Lib.decDigits u).length) 48 ++ Go.Lib.decDigits u = tx4 u := by
  have z : dg 0 = 48 := rfl
  unfold tx4
  by_cases h1 : u < 10
  · rw [dec1 h1]
    refine ⟨by simp, ?_⟩
    rw [show (u : Int) / 1000 = 0 by omega, show (u : Int) / 100 % 10 = 0 by omega, show (u : Int) / 10 % 10 = 0 by omega, show (u : Int) % 10 = u by omega, z]; rfl
  · rw [dec_up h1]
    by_cases h2 : u / 10 < 10
    · rw [dec1 h2]
      refine ⟨by simp, ?_⟩
      rw [show (u : Int) / 1000 = 0 by omega, show (u : Int) / 100 % 10 = 0 by omega, show (u : Int) / 10 % 10 = ((u / 10 : Nat) : Int) by omega, z]; rfl
    · rw [dec_up h2]
      by_cases h3 : u / 10 / 10 < 10
      · rw [dec1 h3]
        refine ⟨by simp, ?_⟩
        rw [show (u : Int) / 1000 = 0 by omega, show (u : Int) / 100 % 10 = ((u / 10 / 10 : Nat) : Int) by omega, show (u : Int) / 10 % 10 = ((u / 10 : Nat) : Int) % 10 by omega, z]; rfl
      · rw [dec_up h3, dec1 (by omega)]
        refine ⟨by simp, ?_⟩
        rw [show (u : Int) / 1000 = ((u / 10 / 10 / 10 : Nat) : Int) by omega, show (u : Int) / 100 % 10 = ((u / 10 / 10 : Nat) : Int) % 10 by omega, show (u : Int) / 10 % 10 = ((u / 10 : Nat) : Int) % 10 by omega]; rfl
theorem pad2 {u : Nat} (h : u ≤ 99) : (Go.Lib.decDigits u).length ≤ 2 ∧ List.replicate (2 - (Go.Lib.decDigits u).length) 48 ++ Go.Lib.decDigits u = tx2 u := by
  have z : dg 0 = 48 := rfl
  unfold tx2
  by_cases h1 : u < 10
  · rw [dec1 h1]
    refine ⟨by simp, ?_⟩
    rw [show (u : Int) / 10 = 0 by omega, show (u : Int) % 10 = u by omega, z]; rfl
  · rw [dec_up h1, dec1 (by omega)]
    refine ⟨by simp, ?_⟩
    rw [show (u : Int) / 10 = ((u / 10 : Nat) : Int) by omega]; rfl
/-- The order of texts. -/
theorem less_self (l a b : List UInt8) : Op.bytesLess (l ++ a) (l ++ b) = Op.bytesLess a b := by
  induction l with
  | nil => rfl
  | cons c l ih => simp only [List.cons_append, Op.bytesLess]; rw [ih]; simp
theorem less_head {c d : UInt8} (h : c < d) (a b : List UInt8) : Op.bytesLess (c :: a) (d :: b) = true := by simp [Op.bytesLess, h]
theorem less_two {c d : UInt8} (h : c < d ∨ c = d) {a b : List UInt8} (hl : c = d → Op.bytesLess a b = true) : Op.bytesLess (c :: a) (d :: b) = true := by
  rcases h with h | h
  · exact less_head h a b
  · subst h; simp [Op.bytesLess, hl rfl]
theorem dg_le {a b : Int} (a0 : 0 ≤ a) (h : a ≤ b) (b9 : b ≤ 9) : dg a < dg b ∨ dg a = dg b := by
  rcases Int.lt_or_eq_of_le h with h | h
  · exact Or.inl (dg_lt a0 h b9)
  · exact Or.inr (by rw [h])
theorem less_tx2 {m n : Int} (h0 : 0 ≤ m) (h : m < n) (h9 : n ≤ 99) (a b : List UInt8) : Op.bytesLess (tx2 m ++ a) (tx2 n ++ b) = true := by
  unfold tx2
  refine less_two (dg_le (by omega) (by omega) (by omega)) fun e => ?_
  have e := dg_inj (by omega) (by omega) (by omega) (by omega) e
  exact less_head (dg_lt (by omega) (by omega) (by omega)) _ _
theorem less_tx4 {m n : Int} (h0 : 0 ≤ m) (h : m < n) (h9 : n ≤ 9999) (a b : List UInt8) : Op.bytesLess (tx4 m ++ a) (tx4 n ++ b) = true := by
  unfold tx4
  refine less_two (dg_le (by omega) (by omega) (by omega)) fun e => ?_
  have e1 := dg_inj (by omega) (by omega) (by omega) (by omega) e
  refine less_two (dg_le (by omega) (by omega) (by omega)) fun e => ?_
  have e2 := dg_inj (by omega) (by omega) (by omega) (by omega) e
  refine less_two (dg_le (by omega) (by omega) (by omega)) fun e => ?_
  have e3 := dg_inj (by omega) (by omega) (by omega) (by omega) e
  exact less_head (dg_lt (by omega) (by omega) (by omega)) _ _
theorem less_txt {d y m k y' m' k' : Int} (h : Dt d y m k) (h' : Dt (d + 1) y' m' k') : Op.bytesLess (txt y m k) (txt y' m' k') = true := by
  have ht := h'.there
  have hk := dim_bd y m
  have hk' := dim_bd y' m'
  have a := h.y1; have b := h.y2; have c := h.m1; have e := h.m2; have f := h.k1; have g := h.k2
  unfold txt
  rcases h.next (by omega) with ⟨h1, h2⟩ | ⟨h1, h3, h2⟩ | ⟨h1, h3, h2⟩
  · obtain ⟨rfl, rfl, rfl⟩ := h2.unique h'
    rw [less_self]
    refine less_two (Or.inr rfl) fun _ => ?_
    rw [less_self]
    refine less_two (Or.inr rfl) fun _ => ?_
    have := less_tx2 (m := k) (n := k + 1) (by omega) (by omega) (by omega) [] []
    simpa using this
  · obtain ⟨rfl, rfl, rfl⟩ := h2.unique h'
    rw [less_self]
    refine less_two (Or.inr rfl) fun _ => ?_
    exact less_tx2 (by omega) (by omega) (by omega) _ _
  · obtain ⟨rfl, rfl, rfl⟩ := h2.unique h'
    have := h'.y2
    exact less_tx4 (by omega) (by omega) (by omega) _ _
end Go.Proofs.YtlebkdmkofgdpaaDoor
