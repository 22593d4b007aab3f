/-
  What the text of a decimal says. Plain Lean.
-/
import Derived.Test.YtpfbcicjfnfpgaaTxP
namespace Go.Proofs.Ytpfbcicjfnfpgaa
set_option linter.unusedVariables false
/-- Is the byte a decimal digit? -/
def isD (c : UInt8) : Bool := decide (wv c < 10)
theorem isD_iff (c : UInt8) : isD c = true ↔ 48 ≤ c.toNat ∧ c.toNat ≤ 57 := by
  unfold isD wv
  rw [decide_eq_true_iff]
  split <;> (try split) <;> omega
/-- The ten digits, a cutset. -/
def tenL : List UInt8 := [48, 49, 50, 51, 52, 53, 54, 55, 56, 57]
theorem ten_contains (c : UInt8) : tenL.contains c = isD c := by
  rw [Bool.eq_iff_iff, isD_iff, List.contains_iff_mem]
  constructor
  · intro h
    simp only [tenL, List.mem_cons, List.not_mem_nil, or_false] at h
    rcases h with h | h | h | h | h | h | h | h | h | h <;> (subst h; decide)
  · rintro ⟨h1, h2⟩
    have h : c.toNat = (48 : UInt8).toNat ∨ c.toNat = (49 : UInt8).toNat ∨ c.toNat = (50 : UInt8).toNat ∨ c.toNat = (51 : UInt8).toNat ∨ c.toNat = (52 : UInt8).toNat ∨ c.toNat = (53 : UInt8).toNat ∨ c.toNat = (54 : UInt8).toNat ∨ c.toNat = (55 : UInt8).toNat ∨ c.toNat = (56 : UInt8).toNat ∨ c.toNat = (57 : UInt8).toNat := by
      show c.toNat = 48 ∨ c.toNat = 49 ∨ c.toNat = 50 ∨ c.toNat = 51 ∨ c.toNat = 52 ∨ c.toNat = 53 ∨ c.toNat = 54 ∨ c.toNat = 55 ∨ c.toNat = 56 ∨ c.toNat = 57
      omega
    simp only [UInt8.toNat_inj] at h
    simp only [tenL, List.mem_cons, List.not_mem_nil, or_false]
    exact h
theorem take_drop_while (p : UInt8 → Bool) (l : List UInt8) : l.takeWhile p ++ l.dropWhile p = l := List.takeWhile_append_dropWhile
theorem dig_take (l : List UInt8) : Dig 10 (l.takeWhile isD) := fun c hc => by
  have h : isD c = true := by
    have := List.all_takeWhile (p := isD) (l := l)
    exact List.all_eq_true.1 this c hc
  simpa [isD] using h
/-- What stands ahead of the point, behind it, where the text ends or is wrong, and whether it is right. -/
def partsL (l : List UInt8) : List UInt8 × List UInt8 × Nat × Bool :=
  if (l.takeWhile isD).length = 0 ∨ l.dropWhile isD = [] then (l.takeWhile isD, [], (l.takeWhile isD).length, decide (0 < (l.takeWhile isD).length))
  else if (l.dropWhile isD).head? = some 46 then ((l.takeWhile isD), ((l.dropWhile isD).drop 1).takeWhile isD, l.length - (((l.dropWhile isD).drop 1).dropWhile isD).length, decide (0 < (((l.dropWhile isD).drop 1).takeWhile isD).length) && (((l.dropWhile isD).drop 1).dropWhile isD).isEmpty)
  else ([], [], (l.takeWhile isD).length, false)
theorem while_digs {a : List UInt8} (h : Dig 10 a) (r : List UInt8) (hr : ∀ c, r.head? = some c → isD c = false) : (a ++ r).takeWhile isD = a ∧ (a ++ r).dropWhile isD = r := by
  induction a with
  | nil =>
    cases r with
    | nil => simp
    | cons c r => have := hr c rfl; exact ⟨by simp [this], by simp [this]⟩
  | cons c a ih =>
    have h1 : isD c = true := by simpa [isD] using h.cons.1
    have h2 := ih h.cons.2
    exact ⟨by simp [h1, h2], by simp [h1, h2]⟩
theorem dot_isD : isD 46 = false := by decide
theorem partsL_whole {a : List UInt8} (h : Dig 10 a) (h0 : a ≠ []) : partsL a = (a, [], a.length, true) := by
  have hw := while_digs h [] (fun c hc => by simp at hc)
  rw [List.append_nil] at hw
  unfold partsL
  rw [hw.1, hw.2, if_pos (Or.inr rfl), decide_eq_true (List.length_pos_iff.2 h0)]
theorem partsL_point {a b : List UInt8} (h : Dig 10 a) (h0 : a ≠ []) (hb : Dig 10 b) (hb0 : b ≠ []) : partsL (a ++ 46 :: b) = (a, b, (a ++ 46 :: b).length, true) := by
  have hw := while_digs h (46 :: b) (fun c hc => by simp at hc; subst hc; decide)
  have hv := while_digs hb [] (fun c hc => by simp at hc)
  rw [List.append_nil] at hv
  unfold partsL
  have hp := List.length_pos_iff.2 h0
  have hq := List.length_pos_iff.2 hb0
  rw [hw.1, hw.2, if_neg (by simp [h0]), if_pos (show (46 :: b).head? = some 46 from rfl)]
  simp only [List.drop_succ_cons, List.drop_zero, hv.1, hv.2, decide_eq_true hq]
  simp

/-- Without the noughts ahead; without those at the end. -/
def trimA (l : List UInt8) : List UInt8 := l.dropWhile (· == 48)
def trimB (l : List UInt8) : List UInt8 := (l.reverse.dropWhile (· == 48)).reverse
theorem trimA_spec (l : List UInt8) : ∃ n, l = List.replicate n 48 ++ trimA l ∧ (trimA l).head? ≠ some 48 := by
  unfold trimA
  induction l with
  | nil => exact ⟨0, by simp⟩
  | cons c l ih =>
    by_cases h : c = 48
    · subst h
      obtain ⟨n, h1, h2⟩ := ih
      refine ⟨n + 1, ?_, ?_⟩
      · rw [List.dropWhile_cons, if_pos (by rfl), List.replicate_succ, List.cons_append, ← h1]
      · rw [List.dropWhile_cons, if_pos (by rfl)]; exact h2
    · refine ⟨0, ?_, ?_⟩
      · rw [List.dropWhile_cons, if_neg (by simpa using h)]; simp
      · rw [List.dropWhile_cons, if_neg (by simpa using h)]; simpa using h
theorem trimB_spec (l : List UInt8) : ∃ n, l = trimB l ++ List.replicate n 48 ∧ (trimB l).getLast? ≠ some 48 := by
  obtain ⟨n, h1, h2⟩ := trimA_spec l.reverse
  refine ⟨n, ?_, ?_⟩
  · have := congrArg List.reverse h1
    rw [List.reverse_reverse, List.reverse_append, List.reverse_replicate] at this
    exact this
  · unfold trimB; rw [List.getLast?_reverse]; exact h2
theorem dig_of_append {b : Nat} {l m : List UInt8} (h : Dig b (l ++ m)) : Dig b l ∧ Dig b m := ⟨fun c hc => h c (by simp [hc]), fun c hc => h c (by simp [hc])⟩
theorem trimA_dig {b : Nat} {l : List UInt8} (h : Dig b l) : Dig b (trimA l) := by
  obtain ⟨n, h1, -⟩ := trimA_spec l
  rw [h1] at h
  exact (dig_of_append h).2
theorem trimB_dig {b : Nat} {l : List UInt8} (h : Dig b l) : Dig b (trimB l) := by
  obtain ⟨n, h1, -⟩ := trimB_spec l
  rw [h1] at h
  exact (dig_of_append h).1
theorem trimA_noughts (n : Nat) (l : List UInt8) : trimA (List.replicate n 48 ++ l) = trimA l := by
  unfold trimA
  induction n with
  | zero => rfl
  | succ n ih => rw [List.replicate_succ, List.cons_append, List.dropWhile_cons, if_pos (by rfl), ih]
theorem trimB_noughts (n : Nat) (l : List UInt8) : trimB (l ++ List.replicate n 48) = trimB l := by
  have := trimA_noughts n l.reverse
  unfold trimA at this
  unfold trimB
  rw [List.reverse_append, List.reverse_replicate, this]
theorem trimA_id {l : List UInt8} (h : l.head? ≠ some 48) : trimA l = l := by
  unfold trimA
  cases l with
  | nil => rfl
  | cons c l => rw [List.dropWhile_cons, if_neg (by simpa using h)]
theorem trimB_id {l : List UInt8} (h : l.getLast? ≠ some 48) : trimB l = l := by
  have := trimA_id (l := l.reverse) (by rwa [List.head?_reverse])
  unfold trimA at this
  unfold trimB
  rw [this, List.reverse_reverse]
theorem trimA_len (l : List UInt8) : (trimA l).length ≤ l.length := by
  obtain ⟨n, h1, -⟩ := trimA_spec l
  have := congrArg List.length h1
  simp at this; omega
theorem trimB_len (l : List UInt8) : (trimB l).length ≤ l.length := by
  obtain ⟨n, h1, -⟩ := trimB_spec l
  have := congrArg List.length h1
  simp at this; omega
theorem tv_trimA (b : Nat) (l : List UInt8) : tv b (trimA l) = tv b l := by
  obtain ⟨n, h1, -⟩ := trimA_spec l
  have := tv_ahead b n (trimA l)
  rw [← h1] at this; exact this.symm
/-- A number with its sign. -/
def sgn (neg : Bool) (n : Nat) : Int := if neg then -(n : Int) else n
/-- Is it one of 64 bits? -/
def fits (x : Int) : Bool := decide (-9223372036854775808 ≤ x ∧ x ≤ 9223372036854775807)
/-- What digits without noughts ahead and at the end say: Units, Places, the error. -/
def worthL (neg : Bool) (a b : List UInt8) : Int × Nat × Int :=
  if b.length > 9 ∨ a.length > 19 then (0, 0, 5)
  else if fits (sgn neg (tv 10 (a ++ b))) then (sgn neg (tv 10 (a ++ b)), b.length, 0) else (0, 0, 5)
/-- What is read: Units, Places, the place, the error. -/
def readL (l : List UInt8) : Int × Nat × Nat × Int :=
  let neg := decide (l.head? = some 45)
  let bare := if neg then l.drop 1 else l
  let p := partsL bare
  if p.2.2.2 then ((worthL neg (trimA p.1) (trimB p.2.1)).1, (worthL neg (trimA p.1) (trimB p.2.1)).2.1, 0, (worthL neg (trimA p.1) (trimB p.2.1)).2.2)
  else (0, 0, l.length - bare.length + p.2.2.1, 60)
end Go.Proofs.Ytpfbcicjfnfpgaa
