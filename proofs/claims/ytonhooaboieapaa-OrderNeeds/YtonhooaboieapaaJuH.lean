/-
  A heap: a list in which each place but the first has its parent's number not above it. Plain Lean.
-/
import Derived.Test.YtonhooaboieapaaJuR
namespace Go.Proofs.Ytonhooaboieapaa
set_option linter.unusedVariables false
/-- Two places of a list changed with one another. -/
def sw (l : List Int) (i j : Nat) : List Int := (l.set i (l.getD j 0)).set j (l.getD i 0)
theorem sw_length (l : List Int) (i j : Nat) : (sw l i j).length = l.length := by simp [sw]
theorem sw_get {l : List Int} {i j : Nat} (hi : i < l.length) (hj : j < l.length) (k : Nat) : (sw l i j).getD k 0 = if k = j then l.getD i 0 else if k = i then l.getD j 0 else l.getD k 0 := by
  unfold sw
  by_cases h1 : k = j
  · subst h1
    rw [if_pos rfl, List.getD_eq_getElem?_getD, List.getElem?_set_self (by simpa using hj)]; rfl
  · rw [if_neg h1, List.getD_eq_getElem?_getD, List.getElem?_set_ne (fun e => h1 e.symm)]
    by_cases h2 : k = i
    · subst h2
      rw [if_pos rfl, List.getElem?_set_self hi]; rfl
    · rw [if_neg h2, List.getElem?_set_ne (fun e => h2 e.symm), ← List.getD_eq_getElem?_getD]
theorem count_set' {l : List Int} {i : Nat} (hi : i < l.length) (v x : Int) : (l.set i v).count x + (if l.getD i 0 = x then 1 else 0) = l.count x + (if v = x then 1 else 0) := by
  induction l generalizing i with
  | nil => simp at hi
  | cons y l ih =>
    cases i with
    | zero =>
      simp only [List.set_cons_zero, List.count_cons, List.getD_cons_zero, beq_iff_eq]
      omega
    | succ i =>
      have := ih (i := i) (by simpa using hi)
      simp only [List.set_cons_succ, List.count_cons, List.getD_cons_succ, beq_iff_eq] at this ⊢
      omega
theorem sw_count {l : List Int} {i j : Nat} (hi : i < l.length) (hj : j < l.length) (x : Int) : (sw l i j).count x = l.count x := by
  have h1 := count_set' hi (l.getD j 0) x
  have h2 := count_set' (l := l.set i (l.getD j 0)) (i := j) (by simpa using hj) (l.getD i 0) x
  have h3 : (l.set i (l.getD j 0)).getD j 0 = l.getD j 0 := by
    by_cases e : i = j
    · subst e; rw [List.getD_eq_getElem?_getD, List.getElem?_set_self hi]; rfl
    · rw [List.getD_eq_getElem?_getD, List.getElem?_set_ne e, ← List.getD_eq_getElem?_getD]
  rw [h3] at h2
  show ((l.set i (l.getD j 0)).set j (l.getD i 0)).count x = l.count x
  omega
/-- The first n of a list are a heap. -/
def Hp (l : List Int) (n : Nat) : Prop := ∀ k, 0 < k → k < n → l.getD ((k - 1) / 2) 0 ≤ l.getD k 0
/-- A heap but for one place, which may be too small. -/
def HpU (l : List Int) (n j : Nat) : Prop := (∀ k, 0 < k → k < n → k ≠ j → l.getD ((k - 1) / 2) 0 ≤ l.getD k 0) ∧ (0 < j → ∀ k, 0 < k → k < n → (k - 1) / 2 = j → l.getD ((j - 1) / 2) 0 ≤ l.getD k 0)
/-- A heap but for one place, which may be too great. -/
def HpD (l : List Int) (n i : Nat) : Prop := (∀ k, 0 < k → k < n → (k - 1) / 2 ≠ i → l.getD ((k - 1) / 2) 0 ≤ l.getD k 0) ∧ (0 < i → ∀ k, 0 < k → k < n → (k - 1) / 2 = i → l.getD ((i - 1) / 2) 0 ≤ l.getD k 0)
theorem Hp.least {l : List Int} {n : Nat} (h : Hp l n) : ∀ k, k < n → l.getD 0 0 ≤ l.getD k 0 := by
  intro k
  induction k using Nat.strongRecOn with
  | ind k ih =>
    intro hk
    by_cases h0 : k = 0
    · subst h0; exact Int.le_refl _
    · exact Int.le_trans (ih ((k - 1) / 2) (by omega) (by omega)) (h k (by omega) hk)
theorem HpU.done {l : List Int} {n j : Nat} (h : HpU l n j) (hd : j = 0 ∨ l.getD ((j - 1) / 2) 0 ≤ l.getD j 0) : Hp l n := by
  intro k h0 hk
  by_cases e : k = j
  · subst e
    rcases hd with h1 | h1
    · omega
    · exact h1
  · exact h.1 k h0 hk e
theorem HpU.step {l : List Int} {n j : Nat} (h : HpU l n j) (hn : n ≤ l.length) (hj : j < n) (h0 : 0 < j) (hd : l.getD j 0 < l.getD ((j - 1) / 2) 0) : HpU (sw l ((j - 1) / 2) j) n ((j - 1) / 2) := by
  have hi : (j - 1) / 2 < l.length := by omega
  have hjl : j < l.length := by omega
  constructor
  · intro k hk0 hk hne
    rw [sw_get hi hjl, sw_get hi hjl]
    by_cases e1 : k = j
    · subst e1
      rw [if_pos rfl, if_neg (by omega), if_pos rfl]; omega
    · rw [if_neg e1, if_neg hne]
      have h1 := h.1 k hk0 hk e1
      by_cases e2 : (k - 1) / 2 = j
      · rw [if_pos e2]
        exact h.2 h0 k hk0 hk e2
      · rw [if_neg e2]
        by_cases e3 : (k - 1) / 2 = (j - 1) / 2
        · rw [if_pos e3]; rw [e3] at h1; omega
        · rw [if_neg e3]; exact h1
  · intro hi0 k hk0 hk e
    rw [sw_get hi hjl, sw_get hi hjl]
    have h1 := h.1 ((j - 1) / 2) hi0 (by omega) (by omega)
    rw [if_neg (by omega), if_neg (by omega)]
    by_cases e1 : k = j
    · rw [if_pos e1]; exact h1
    · rw [if_neg e1, if_neg (by omega)]
      have h2 := h.1 k hk0 hk e1
      rw [e] at h2
      omega
theorem HpU.push {l : List Int} {n : Nat} (h : Hp l n) (hn : n = l.length) (v : Int) : HpU (l ++ [v]) (n + 1) n := by
  subst hn
  constructor
  · intro k h0 hk hne
    have hk' : k < l.length := by omega
    have := h k h0 hk'
    simp only [List.getD_eq_getElem?_getD] at this ⊢
    rw [List.getElem?_append_left (by omega), List.getElem?_append_left hk']
    exact this
  · intro h0 k hk0 hk e
    omega
theorem HpD.done {l : List Int} {n i : Nat} (h : HpD l n i) (hd : ∀ k, 0 < k → k < n → (k - 1) / 2 = i → l.getD i 0 ≤ l.getD k 0) : Hp l n := by
  intro k h0 hk
  by_cases e : (k - 1) / 2 = i
  · rw [e]; exact hd k h0 hk e
  · exact h.1 k h0 hk e
theorem HpD.step {l : List Int} {n i j : Nat} (h : HpD l n i) (hn : n ≤ l.length) (hj : j < n) (hij : j = 2 * i + 1 ∨ j = 2 * i + 2) (hl : ∀ k, 0 < k → k < n → (k - 1) / 2 = i → l.getD j 0 ≤ l.getD k 0) (hd : l.getD j 0 < l.getD i 0) : HpD (sw l i j) n j := by
  have hi : i < l.length := by omega
  have hjl : j < l.length := by omega
  constructor
  · intro k hk0 hk hne
    rw [sw_get hi hjl, sw_get hi hjl, if_neg hne]
    by_cases e1 : (k - 1) / 2 = i
    · rw [if_pos e1]
      by_cases e2 : k = j
      · rw [if_pos e2]; omega
      · rw [if_neg e2, if_neg (by omega)]
        exact hl k hk0 hk e1
    · rw [if_neg e1]
      have h1 := h.1 k hk0 hk e1
      rw [if_neg (by omega)]
      by_cases e3 : k = i
      · rw [if_pos e3]
        subst e3
        exact h.2 hk0 j (by omega) hj (by omega)
      · rw [if_neg e3]; exact h1
  · intro hj0 k hk0 hk e
    have e0 : (j - 1) / 2 = i := by omega
    rw [e0, sw_get hi hjl, sw_get hi hjl]
    rw [if_neg (by omega), if_pos rfl, if_neg (by omega), if_neg (by omega)]
    have h1 := h.1 k hk0 hk (by omega)
    rw [e] at h1
    exact h1
/-- The first and the last changed, the last left out. -/
theorem HpD.pop {l : List Int} (h : Hp l l.length) (h0 : 0 < l.length) : HpD (sw l 0 (l.length - 1)) (l.length - 1) 0 := by
  constructor
  · intro k hk0 hk hne
    have := h k hk0 (by omega)
    rw [sw_get h0 (by omega), sw_get h0 (by omega), if_neg (by omega), if_neg hne, if_neg (by omega), if_neg (by omega)]
    exact this
  · intro h1; omega
theorem Hp.take {l : List Int} {n : Nat} (h : Hp l n) (hn : n ≤ l.length) : Hp (l.take n) n := by
  intro k h0 hk
  have := h k h0 hk
  simp only [List.getD_eq_getElem?_getD] at this ⊢
  rw [List.getElem?_take_of_lt (by omega), List.getElem?_take_of_lt hk]
  exact this
/-- Numbers that rise are a heap. -/
theorem Hp.rising {l : List Int} (h : ∀ i j, i < j → j < l.length → l.getD i 0 ≤ l.getD j 0) : Hp l l.length := fun k h0 hk => h _ _ (by omega) hk
theorem count_last {l : List Int} (h0 : 0 < l.length) (x : Int) : (l.take (l.length - 1)).count x + (if l.getD (l.length - 1) 0 = x then 1 else 0) = l.count x := by
  have e : l = l.take (l.length - 1) ++ [l.getD (l.length - 1) 0] := by
    have h1 := List.take_append_drop (l.length - 1) l
    have h2 : l.drop (l.length - 1) = [l.getD (l.length - 1) 0] := by
      rw [List.drop_eq_getElem_cons (by omega), List.drop_of_length_le (by omega), List.getD_eq_getElem?_getD, List.getElem?_eq_getElem (by omega)]; rfl
    rw [h2] at h1
    exact h1.symm
  have : l.count x = (l.take (l.length - 1) ++ [l.getD (l.length - 1) 0]).count x := congrArg (List.count x) e
  rw [this, List.count_append, List.count_singleton]
  simp only [beq_iff_eq]
end Go.Proofs.Ytonhooaboieapaa
