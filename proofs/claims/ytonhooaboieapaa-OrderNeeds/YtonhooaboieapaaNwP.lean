/-
  What is needed: a list that is asked one by one and grows.
-/
import Derived.Test.YtonhooaboieapaaOrS
import Derived.Test.YtonhooaboieapaaOrT
namespace Go.Proofs.Ytonhooaboieapaa
set_option linter.unusedVariables false
set_option linter.unusedSimpArgs false

/-- Asked are A (the k first have been asked; of the next one the j first of its needs are seen), needed L; what `fr` names is asked. -/
structure Nw (N : Nat → List Nat) (n : Nat) (fr A L : List Nat) (k j : Nat) : Prop where
  ndA : A.Nodup
  ltA : ∀ x ∈ A, x < n
  ndL : L.Nodup
  ltL : ∀ x ∈ L, x < n
  is : ∀ x ∈ L, Nd (Rn N) fr x
  from' : ∀ x ∈ A, x ∈ fr ∨ x ∈ L
  ask : ∀ x ∈ L, x ∈ A
  done : ∀ i x, i < k → A[i]? = some x → ∀ y ∈ N x, y ∈ L
  here : ∀ x, A[k]? = some x → ∀ i y, i < j → (N x)[i]? = some y → y ∈ L
theorem Nw.start (N : Nat → List Nat) (n : Nat) (fr A : List Nat) (h1 : A.Nodup) (h2 : ∀ x ∈ A, x < n) (h3 : ∀ x ∈ A, x ∈ fr) : Nw N n fr A [] 0 0 where
  ndA := h1
  ltA := h2
  ndL := List.nodup_nil
  ltL := fun x hx => by simp at hx
  is := fun x hx => by simp at hx
  from' := fun x hx => .inl (h3 x hx)
  ask := fun x hx => by simp at hx
  done := fun i x hi => absurd hi (by omega)
  here := fun x _ i y hi => absurd hi (by omega)
theorem Nw.nd {N : Nat → List Nat} {n : Nat} {fr A L : List Nat} {k j : Nat} (h : Nw N n fr A L k j) {x y : Nat} (hx : x ∈ A) (hy : y ∈ N x) : Nd (Rn N) fr y := by
  rcases h.from' x hx with h1 | h1
  · exact Nd.of h1 hy
  · exact (h.is x h1).step hy
/-- A need that is there already. -/
theorem Nw.old {N : Nat → List Nat} {n : Nat} {fr A L : List Nat} {k j : Nat} (h : Nw N n fr A L k j) {x y : Nat} (hx : A[k]? = some x) (hy : (N x)[j]? = some y) (hl : y ∈ L) : Nw N n fr A L k (j + 1) :=
  { h with
    here := fun z hz i u hi hu => by
      by_cases e : i < j
      · exact h.here z hz i u e hu
      · obtain rfl : i = j := by omega
        rw [hx] at hz; cases hz
        rw [hy] at hu; cases hu
        exact hl }
/-- A need that is new; whether it is asked already. -/
theorem Nw.put {N : Nat → List Nat} {n : Nat} {fr A L B : List Nat} {k j : Nat} (h : Nw N n fr A L k j) (hN : ∀ x y, y ∈ N x → x < n ∧ y < n) {x y : Nat} (hx : A[k]? = some x) (hy : (N x)[j]? = some y) (hl : y ∉ L) (hB : (y ∈ A ∧ B = A) ∨ (y ∉ A ∧ B = A ++ [y])) : Nw N n fr B (L ++ [y]) k (j + 1) := by
  have hyn := (hN x y (List.mem_of_getElem? hy)).2
  have hxA := List.mem_of_getElem? hx
  have hnd := h.nd hxA (List.mem_of_getElem? hy)
  have hk := (List.getElem?_eq_some_iff.1 hx).1
  have hget : ∀ i, i ≤ k → B[i]? = A[i]? := fun i hi => by
    rcases hB with ⟨-, rfl⟩ | ⟨-, rfl⟩
    · rfl
    · exact List.getElem?_append_left (by omega)
  have hmem : ∀ z, z ∈ B ↔ z ∈ A ∨ z = y := fun z => by
    rcases hB with ⟨h1, rfl⟩ | ⟨h1, rfl⟩
    · constructor
      · exact .inl
      · rintro (h2 | rfl)
        · exact h2
        · exact h1
    · simp
  refine ⟨?_, fun z hz => ?_, ?_, fun z hz => ?_, fun z hz => ?_, fun z hz => ?_, fun z hz => ?_, fun i z hi hz u hu => ?_, fun z hz i u hi hu => ?_⟩
  · rcases hB with ⟨-, rfl⟩ | ⟨h1, rfl⟩
    · exact h.ndA
    · rw [List.nodup_append]
      exact ⟨h.ndA, by simp, fun a ha b hb => by simp at hb; subst hb; exact fun e => h1 (by rw [← e]; exact ha)⟩
  · rcases (hmem z).1 hz with h1 | rfl
    · exact h.ltA z h1
    · exact hyn
  · rw [List.nodup_append]
    exact ⟨h.ndL, by simp, fun a ha b hb => by simp at hb; subst hb; exact fun e => hl (by rw [← e]; exact ha)⟩
  · rcases List.mem_append.1 hz with h1 | h1
    · exact h.ltL z h1
    · simp at h1; rw [h1]; exact hyn
  · rcases List.mem_append.1 hz with h1 | h1
    · exact h.is z h1
    · simp at h1; rw [h1]; exact hnd
  · rcases (hmem z).1 hz with h1 | rfl
    · rcases h.from' z h1 with h2 | h2
      · exact .inl h2
      · exact .inr (List.mem_append_left _ h2)
    · exact .inr (by simp)
  · rcases List.mem_append.1 hz with h1 | h1
    · exact (hmem z).2 (.inl (h.ask z h1))
    · simp at h1; exact (hmem z).2 (.inr h1)
  · rw [hget i (by omega)] at hz
    exact List.mem_append_left _ (h.done i z hi hz u hu)
  · rw [hget k (Nat.le_refl _)] at hz
    by_cases e : i < j
    · exact List.mem_append_left _ (h.here z hz i u e hu)
    · obtain rfl : i = j := by omega
      rw [hx] at hz; cases hz
      rw [hy] at hu; cases hu
      simp
theorem Nw.row {N : Nat → List Nat} {n : Nat} {fr A L : List Nat} {k : Nat} {x : Nat} (hx : A[k]? = some x) (h : Nw N n fr A L k (N x).length) : Nw N n fr A L (k + 1) 0 :=
  { h with
    done := fun i z hi hz y hy => by
      by_cases e : i < k
      · exact h.done i z e hz y hy
      · obtain rfl : i = k := by omega
        rw [hx] at hz; cases hz
        obtain ⟨t, ht⟩ := List.mem_iff_getElem?.1 hy
        exact h.here x hx t y (List.getElem?_eq_some_iff.1 ht).1 ht
    here := fun z _ i y hi => absurd hi (by omega) }
/-- At the end: needed is just what is needed. -/
theorem Nw.end {N : Nat → List Nat} {n : Nat} {fr A L : List Nat} (h : Nw N n fr A L A.length 0) (hf : ∀ x ∈ fr, x ∈ A) (y : Nat) : y ∈ L ↔ Nd (Rn N) fr y := by
  have hall : ∀ x ∈ A, ∀ z ∈ N x, z ∈ L := fun x hx z hz => by
    obtain ⟨i, hi⟩ := List.mem_iff_getElem?.1 hx
    exact h.done i x (List.getElem?_eq_some_iff.1 hi).1 hi z hz
  refine ⟨h.is y, fun hn => ?_⟩
  exact Nd.in (P := fun z => z ∈ L) (fun x hx z hz => hall x (hf x hx) z hz) (fun x z hx hz => hall x (h.ask x hx) z hz) hn
end Go.Proofs.Ytonhooaboieapaa
