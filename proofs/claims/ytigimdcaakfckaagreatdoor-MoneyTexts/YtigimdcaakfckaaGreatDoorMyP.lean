/-
  Amounts in plain Lean: what is read of a text, piece by piece, and what follows.
-/
import Derived.Test.YtigimdcaakfckaaGreatDoorDecT
namespace Go.Proofs.YtigimdcaakfckaaGreatDoor
set_option linter.unusedVariables false

/-- How far from 0 on its side. -/
def mostU (neg : Bool) : Nat := if neg then 9223372036854775808 else 9223372036854775807
theorem mostU_lt (neg : Bool) : mostU neg < 10000000000000000000 := by cases neg <;> decide
/-- May this byte stand here, with so many digits that must follow? -/
def okD (neg : Bool) (far rest : Nat) (c : UInt8) : Bool :=
  isD c && decide (far * 10 + wv c ≤ mostU neg / 10 ^ rest) && !(neg && decide (far * 10 + wv c = 0) && decide (rest = 0))
def Inv9 (neg : Bool) (far rest : Nat) : Prop := far ≤ mostU neg / 10 ^ rest ∧ (neg = true → rest = 0 → far ≠ 0)
theorem okD_iff (neg : Bool) (far rest : Nat) (c : UInt8) : okD neg far rest c = true ↔ isD c = true ∧ Inv9 neg (far * 10 + wv c) rest := by
  unfold okD Inv9
  cases neg <;> simp [and_assoc] <;> omega
/-- What is read: how many bytes, and the units, or none. -/
abbrev R9 := Nat × Option Int
def one (r : R9) : R9 := (r.1 + 1, r.2)
def plus (n : Nat) (r : R9) : R9 := (n + r.1, r.2)
theorem plus_zero (r : R9) : plus 0 r = r := by simp [plus]
theorem plus_one (n : Nat) (r : R9) : plus n (one r) = plus (n + 1) r := by simp [plus, one]; omega
theorem plus_none (n : Nat) : plus n (0, none) = (n, none) := rfl
def finR (u : Int) : List UInt8 → R9
  | [] => (0, some u)
  | _ :: _ => (0, none)
def fixC : List UInt8 → (List UInt8 → R9) → List UInt8 → R9
  | [], K, l => K l
  | _ :: _, _, [] => (0, none)
  | a :: t, K, b :: l => if b = a then one (fixC t K l) else (0, none)
def tailR (neg : Bool) (nm : List UInt8) (far : Nat) : List UInt8 → R9 := fixC [32] (fixC nm (finR (sgn neg far)))
def behR (neg : Bool) (nm : List UInt8) : Nat → Nat → List UInt8 → R9
  | 0, far, l => tailR neg nm far l
  | _ + 1, _, [] => (0, none)
  | k + 1, far, c :: l => if okD neg far k c then one (behR neg nm k (far * 10 + wv c) l) else (0, none)
def ptD (D : Nat) : List UInt8 := if D = 0 then [] else [46]
def ptR (neg : Bool) (nm : List UInt8) (D far : Nat) : List UInt8 → R9 := fixC (ptD D) (behR neg nm D far)
def ahR (neg : Bool) (nm : List UInt8) (D : Nat) : Nat → List UInt8 → R9
  | far, [] => ptR neg nm D far []
  | far, c :: l => if (decide (0 < far) && okD neg far D c) = true then one (ahR neg nm D (far * 10 + wv c) l) else ptR neg nm D far (c :: l)
def firR (neg : Bool) (nm : List UInt8) (D : Nat) : List UInt8 → R9
  | [] => (0, none)
  | c :: l => if okD neg 0 D c = true then one (ahR neg nm D (wv c) l) else (0, none)
def parR (nm : List UInt8) (D : Nat) : List UInt8 → R9
  | [] => firR false nm D []
  | c :: l => if c = 45 then one (firR true nm D l) else firR false nm D (c :: l)
/-- What is answered: the units, the place, the error. -/
def out9 (r : R9) : Int × Nat × Int := match r.2 with
  | some u => (u, 0, 0)
  | none => (0, r.1, 91)

/-- What holds of each reader. -/
structure Good (K : List UInt8 → R9) : Prop where
  le : ∀ l, (K l).1 ≤ l.length
  full : ∀ l n u, K l = (n, some u) → n = l.length
  cut : ∀ l n, K l = (n, none) → K (l.take n) = (n, none) ∨ (n < l.length ∧ ∃ u, K (l.take n) = (n, some u))
  pre : ∀ l n u, K l = (n, some u) → ∀ i, i < l.length → K (l.take i) = (i, none)
  suf : ∀ l n u b, K l = (n, some u) → K (l ++ [b]) = (l.length, none)
theorem one_some {r : R9} {n : Nat} {u : Int} (h : one r = (n, some u)) : ∃ m, n = m + 1 ∧ r = (m, some u) := by
  obtain ⟨a, b⟩ := r
  simp [one] at h
  exact ⟨a, h.1.symm, by rw [h.2]⟩
theorem one_none {r : R9} {n : Nat} (h : one r = (n, none)) : ∃ m, n = m + 1 ∧ r = (m, none) := by
  obtain ⟨a, b⟩ := r
  simp [one] at h
  exact ⟨a, h.1.symm, by rw [h.2]⟩
theorem fin_good (u : Int) : Good (finR u) := by
  refine ⟨fun l => ?_, fun l n v h => ?_, fun l n h => ?_, fun l n v h i hi => ?_, fun l n v b h => ?_⟩
  · cases l <;> simp [finR]
  · cases l <;> simp [finR] at h
    simp [← h.1]
  · cases l with
    | nil => simp [finR] at h
    | cons c l => simp [finR] at h; subst h; exact Or.inr ⟨by simp, u, rfl⟩
  · cases l with
    | nil => simp at hi
    | cons c l => simp [finR] at h
  · cases l with
    | nil => rfl
    | cons c l => simp [finR] at h
/-- A byte that is read, and a reader behind it. -/
theorem fix_good {K : List UInt8 → R9} (g : Good K) : ∀ t, Good (fixC t K)
  | [] => g
  | a :: t => by
    have ih := fix_good g t
    have e0 : fixC (a :: t) K [] = (0, none) := rfl
    have e1 : ∀ b l, fixC (a :: t) K (b :: l) = if b = a then one (fixC t K l) else (0, none) := fun _ _ => rfl
    refine ⟨fun l => ?_, fun l n v h => ?_, fun l n h => ?_, fun l n v h i hi => ?_, fun l n v b h => ?_⟩
    · cases l with
      | nil => rw [e0]; simp
      | cons b l => rw [e1]; split; · have := ih.le l; simp [one]; omega
                    · simp
    · cases l with
      | nil => rw [e0] at h; cases h
      | cons b l =>
        rw [e1] at h; split at h
        · obtain ⟨m, rfl, hm⟩ := one_some h; rw [ih.full _ _ _ hm]; simp
        · cases h
    · cases l with
      | nil => rw [e0] at h; cases h; exact Or.inl rfl
      | cons b l =>
        rw [e1] at h; split at h
        next hb =>
          obtain ⟨m, rfl, hm⟩ := one_none h
          rw [List.take_succ_cons, e1, if_pos hb]
          rcases ih.cut _ _ hm with h1 | ⟨h1, u, h2⟩
          · rw [h1]; exact Or.inl rfl
          · rw [h2]; exact Or.inr ⟨by simp; omega, u, rfl⟩
        next hb => cases h; exact Or.inl rfl
    · cases l with
      | nil => simp at hi
      | cons b l =>
        rw [e1] at h; split at h
        next hb =>
          obtain ⟨m, rfl, hm⟩ := one_some h
          cases i with
          | zero => rfl
          | succ i => rw [List.take_succ_cons, e1, if_pos hb, ih.pre _ _ _ hm i (by simpa using hi)]; rfl
        next hb => cases h
    · cases l with
      | nil => rw [e0] at h; cases h
      | cons c l =>
        rw [e1] at h; split at h
        next hb =>
          obtain ⟨m, rfl, hm⟩ := one_some h
          rw [List.cons_append, e1, if_pos hb, ih.suf _ _ _ b hm]; rfl
        next hb => cases h
theorem tail_good (neg : Bool) (nm : List UInt8) (far : Nat) : Good (tailR neg nm far) := fix_good (fix_good (fin_good _) _) _
theorem beh_good (neg : Bool) (nm : List UInt8) : ∀ k far, Good (behR neg nm k far)
  | 0, far => tail_good neg nm far
  | k + 1, far => by
    have ih := beh_good neg nm k
    have e0 : behR neg nm (k + 1) far [] = (0, none) := rfl
    have e1 : ∀ c l, behR neg nm (k + 1) far (c :: l) = if okD neg far k c then one (behR neg nm k (far * 10 + wv c) l) else (0, none) := fun _ _ => rfl
    refine ⟨fun l => ?_, fun l n v h => ?_, fun l n h => ?_, fun l n v h i hi => ?_, fun l n v b h => ?_⟩
    · cases l with
      | nil => rw [e0]; simp
      | cons b l => rw [e1]; split; · have := (ih (far * 10 + wv b)).le l; simp [one]; omega
                    · simp
    · cases l with
      | nil => rw [e0] at h; cases h
      | cons b l =>
        rw [e1] at h; split at h
        · obtain ⟨m, rfl, hm⟩ := one_some h; rw [(ih _).full _ _ _ hm]; simp
        · cases h
    · cases l with
      | nil => rw [e0] at h; cases h; exact Or.inl rfl
      | cons b l =>
        rw [e1] at h; split at h
        next hb =>
          obtain ⟨m, rfl, hm⟩ := one_none h
          rw [List.take_succ_cons, e1, if_pos hb]
          rcases (ih _).cut _ _ hm with h1 | ⟨h1, u, h2⟩
          · rw [h1]; exact Or.inl rfl
          · rw [h2]; exact Or.inr ⟨by simp; omega, u, rfl⟩
        next hb => cases h; exact Or.inl rfl
    · cases l with
      | nil => simp at hi
      | cons b l =>
        rw [e1] at h; split at h
        next hb =>
          obtain ⟨m, rfl, hm⟩ := one_some h
          cases i with
          | zero => rfl
          | succ i => rw [List.take_succ_cons, e1, if_pos hb, (ih _).pre _ _ _ hm i (by simpa using hi)]; rfl
        next hb => cases h
    · cases l with
      | nil => rw [e0] at h; cases h
      | cons c l =>
        rw [e1] at h; split at h
        next hb =>
          obtain ⟨m, rfl, hm⟩ := one_some h
          rw [List.cons_append, e1, if_pos hb, (ih _).suf _ _ _ b hm]; rfl
        next hb => cases h
theorem pt_good (neg : Bool) (nm : List UInt8) (D far : Nat) : Good (ptR neg nm D far) := fix_good (beh_good _ _ _ _) _
theorem pt_nil (neg : Bool) (nm : List UInt8) (D far : Nat) : ptR neg nm D far [] = (0, none) := by
  unfold ptR ptD
  cases D <;> rfl
theorem ah_good (neg : Bool) (nm : List UInt8) (D : Nat) : ∀ far, Good (ahR neg nm D far) := by
  have g := pt_good neg nm D
  have en := pt_nil neg nm D
  have e0 : ∀ far, ahR neg nm D far [] = (0, none) := fun far => en far
  have e1 : ∀ far c l, ahR neg nm D far (c :: l) = if (decide (0 < far) && okD neg far D c) = true then one (ahR neg nm D (far * 10 + wv c) l) else ptR neg nm D far (c :: l) := fun _ _ _ => rfl
  refine fun far => ⟨fun l => ?_, fun l n v h => ?_, fun l n h => ?_, fun l n v h i hi => ?_, fun l n v b h => ?_⟩
  · induction l generalizing far with
    | nil => rw [e0]; simp
    | cons b l ih => rw [e1]; split; · have := ih (far * 10 + wv b); simp [one]; omega
                     · exact (g far).le _
  · induction l generalizing far n with
    | nil => rw [e0] at h; cases h
    | cons b l ih =>
      rw [e1] at h; split at h
      · obtain ⟨m, rfl, hm⟩ := one_some h; rw [ih _ _ hm]; simp
      · exact (g far).full _ _ _ h
  · induction l generalizing far n with
    | nil => rw [e0] at h; cases h; exact Or.inl (e0 _)
    | cons b l ih =>
      rw [e1] at h; split at h
      next hb =>
        obtain ⟨m, rfl, hm⟩ := one_none h
        rw [List.take_succ_cons, e1, if_pos hb]
        rcases ih _ _ hm with h1 | ⟨h1, u, h2⟩
        · rw [h1]; exact Or.inl rfl
        · rw [h2]; exact Or.inr ⟨by simp; omega, u, rfl⟩
      next hb =>
        cases n with
        | zero => exact Or.inl (e0 _)
        | succ m => rw [List.take_succ_cons, e1, if_neg hb, ← List.take_succ_cons]; exact (g far).cut _ _ h
  · induction l generalizing far n i with
    | nil => simp at hi
    | cons b l ih =>
      cases i with
      | zero => exact e0 _
      | succ i =>
        rw [e1] at h; split at h
        next hb =>
          obtain ⟨m, rfl, hm⟩ := one_some h
          rw [List.take_succ_cons, e1, if_pos hb, ih _ _ hm i (by simpa using hi)]; rfl
        next hb => rw [List.take_succ_cons, e1, if_neg hb, ← List.take_succ_cons]; exact (g far).pre _ _ _ h _ hi
  · induction l generalizing far n with
    | nil => rw [e0] at h; cases h
    | cons c l ih =>
      rw [e1] at h; split at h
      next hb =>
        obtain ⟨m, rfl, hm⟩ := one_some h
        rw [List.cons_append, e1, if_pos hb, ih _ _ hm]; rfl
      next hb => rw [List.cons_append, e1, if_neg hb, ← List.cons_append]; exact (g far).suf _ _ _ _ h
theorem fir_good (neg : Bool) (nm : List UInt8) (D : Nat) : Good (firR neg nm D) := by
  have ih := ah_good neg nm D
  have e0 : firR neg nm D [] = (0, none) := rfl
  have e1 : ∀ c l, firR neg nm D (c :: l) = if okD neg 0 D c = true then one (ahR neg nm D (wv c) l) else (0, none) := fun _ _ => rfl
  refine ⟨fun l => ?_, fun l n v h => ?_, fun l n h => ?_, fun l n v h i hi => ?_, fun l n v b h => ?_⟩
  · cases l with
    | nil => rw [e0]; simp
    | cons b l => rw [e1]; split; · have := (ih (wv b)).le l; simp [one]; omega
                  · simp
  · cases l with
    | nil => rw [e0] at h; cases h
    | cons b l =>
      rw [e1] at h; split at h
      · obtain ⟨m, rfl, hm⟩ := one_some h; rw [(ih _).full _ _ _ hm]; simp
      · cases h
  · cases l with
    | nil => rw [e0] at h; cases h; exact Or.inl rfl
    | cons b l =>
      rw [e1] at h; split at h
      next hb =>
        obtain ⟨m, rfl, hm⟩ := one_none h
        rw [List.take_succ_cons, e1, if_pos hb]
        rcases (ih _).cut _ _ hm with h1 | ⟨h1, u, h2⟩
        · rw [h1]; exact Or.inl rfl
        · rw [h2]; exact Or.inr ⟨by simp; omega, u, rfl⟩
      next hb => cases h; exact Or.inl rfl
  · cases l with
    | nil => simp at hi
    | cons b l =>
      rw [e1] at h; split at h
      next hb =>
        obtain ⟨m, rfl, hm⟩ := one_some h
        cases i with
        | zero => rfl
        | succ i => rw [List.take_succ_cons, e1, if_pos hb, (ih _).pre _ _ _ hm i (by simpa using hi)]; rfl
      next hb => cases h
  · cases l with
    | nil => rw [e0] at h; cases h
    | cons c l =>
      rw [e1] at h; split at h
      next hb =>
        obtain ⟨m, rfl, hm⟩ := one_some h
        rw [List.cons_append, e1, if_pos hb, (ih _).suf _ _ _ b hm]; rfl
      next hb => cases h
theorem par_good (nm : List UInt8) (D : Nat) : Good (parR nm D) := by
  have ih := fir_good true nm D
  have g := fir_good false nm D
  have e0 : parR nm D [] = (0, none) := rfl
  have e1 : ∀ c l, parR nm D (c :: l) = if c = 45 then one (firR true nm D l) else firR false nm D (c :: l) := fun _ _ => rfl
  refine ⟨fun l => ?_, fun l n v h => ?_, fun l n h => ?_, fun l n v h i hi => ?_, fun l n v b h => ?_⟩
  · cases l with
    | nil => rw [e0]; simp
    | cons b l => rw [e1]; split; · have := ih.le l; simp [one]; omega
                  · exact g.le _
  · cases l with
    | nil => rw [e0] at h; cases h
    | cons b l =>
      rw [e1] at h; split at h
      · obtain ⟨m, rfl, hm⟩ := one_some h; rw [ih.full _ _ _ hm]; simp
      · exact g.full _ _ _ h
  · cases l with
    | nil => rw [e0] at h; cases h; exact Or.inl rfl
    | cons b l =>
      rw [e1] at h; split at h
      next hb =>
        obtain ⟨m, rfl, hm⟩ := one_none h
        rw [List.take_succ_cons, e1, if_pos hb]
        rcases ih.cut _ _ hm with h1 | ⟨h1, u, h2⟩
        · rw [h1]; exact Or.inl rfl
        · rw [h2]; exact Or.inr ⟨by simp; omega, u, rfl⟩
      next hb =>
        cases n with
        | zero => exact Or.inl rfl
        | succ m => rw [List.take_succ_cons, e1, if_neg hb, ← List.take_succ_cons]; exact g.cut _ _ h
  · cases l with
    | nil => simp at hi
    | cons b l =>
      cases i with
      | zero => rfl
      | succ i =>
        rw [e1] at h; split at h
        next hb =>
          obtain ⟨m, rfl, hm⟩ := one_some h
          rw [List.take_succ_cons, e1, if_pos hb, ih.pre _ _ _ hm i (by simpa using hi)]; rfl
        next hb => rw [List.take_succ_cons, e1, if_neg hb, ← List.take_succ_cons]; exact g.pre _ _ _ h _ hi
  · cases l with
    | nil => rw [e0] at h; cases h
    | cons c l =>
      rw [e1] at h; split at h
      next hb =>
        obtain ⟨m, rfl, hm⟩ := one_some h
        rw [List.cons_append, e1, if_pos hb, ih.suf _ _ _ b hm]; rfl
      next hb => rw [List.cons_append, e1, if_neg hb, ← List.cons_append]; exact g.suf _ _ _ _ h
end Go.Proofs.YtigimdcaakfckaaGreatDoor
