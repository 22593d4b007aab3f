/-
  The document's Put, in numbers: spans of days between bounds.
-/
import Derived.Test.YtiabjlaganmloaaSpP
namespace Go.Proofs.Ytiabjlaganmloaa
set_option linter.unusedVariables false

/-- The fewest spans of the days from lo on, below hi, that are wanted. -/
structure PI (f : Int → Prop) (lo hi : Int) (out : List Pr) : Prop where
  few : Few out
  top : ∀ p ∈ out, p.2 ≤ hi
  same : ∀ d, inS out d ↔ (lo ≤ d ∧ d < hi) ∧ f d
theorem PI.start (f : Int → Prop) (lo : Int) : PI f lo lo [] := ⟨Few.nil, fun p h => by simp at h, fun d => by simp only [inS_nil, false_iff]; omega⟩
theorem PI.skip {f : Int → Prop} {lo hi hi' : Int} {out : List Pr} (h : PI f lo hi out) (hlt : hi < hi') (hn : ∀ d, hi ≤ d → d < hi' → ¬ f d) : PI f lo hi' out := by
  refine ⟨h.few, fun p hp => by have := h.top p hp; omega, fun d => ?_⟩
  rw [h.same]
  constructor
  · rintro ⟨a, b⟩; exact ⟨by omega, b⟩
  · rintro ⟨a, b⟩
    refine ⟨⟨a.1, ?_⟩, b⟩
    rcases Int.lt_or_le d hi with h' | h'
    · exact h'
    · exact absurd b (hn d h' a.2)
theorem PI.new {f : Int → Prop} {lo hi hi' : Int} {out : List Pr} (h : PI f lo hi out) (hlt : hi < hi') (hl : lo ≤ hi) (h0 : 0 ≤ hi) (h1 : hi' ≤ 3652059) (hf : ∀ d, hi ≤ d → d < hi' → f d) (hne : ∀ p ∈ out, p.2 ≠ hi) : PI f lo hi' (out ++ [(hi, hi')]) := by
  refine ⟨⟨fun p hp => ?_, List.pairwise_append.2 ⟨h.few.2, List.pairwise_singleton .., fun p hp q hq => ?_⟩⟩, fun p hp => ?_, fun d => ?_⟩
  · rcases List.mem_append.1 hp with hp | hp
    · exact h.few.1 p hp
    · rw [List.mem_singleton.1 hp]; exact ⟨h0, hlt, h1⟩
  · rw [List.mem_singleton.1 hq]
    have := h.top p hp
    have := hne p hp
    show p.2 < hi
    omega
  · rcases List.mem_append.1 hp with hp | hp
    · have := h.top p hp; omega
    · rw [List.mem_singleton.1 hp]; exact Int.le_refl _
  · rw [inS_append, h.same, inS_cons]
    simp only [inS_nil, or_false]
    constructor
    · rintro (⟨a, b⟩ | a)
      · exact ⟨by omega, b⟩
      · exact ⟨by omega, hf d a.1 a.2⟩
    · rintro ⟨a, b⟩
      rcases Int.lt_or_le d hi with h' | h'
      · exact .inl ⟨⟨a.1, h'⟩, b⟩
      · exact .inr ⟨h', a.2⟩
theorem PI.join {f : Int → Prop} {lo hi hi' x : Int} {out : List Pr} (h : PI f lo hi (out ++ [(x, hi)])) (hlt : hi < hi') (hl : lo ≤ hi) (h1 : hi' ≤ 3652059) (hf : ∀ d, hi ≤ d → d < hi' → f d) : PI f lo hi' (out ++ [(x, hi')]) := by
  have hm := h.few.1 (x, hi) (by simp)
  unfold May at hm
  have hp := List.pairwise_append.1 h.few.2
  refine ⟨⟨fun p hq => ?_, List.pairwise_append.2 ⟨hp.1, List.pairwise_singleton .., fun p hq r hr => ?_⟩⟩, fun p hq => ?_, fun d => ?_⟩
  · rcases List.mem_append.1 hq with hq | hq
    · exact h.few.1 p (List.mem_append_left _ hq)
    · rw [List.mem_singleton.1 hq]; exact ⟨hm.1, by show x < hi'; omega, h1⟩
  · rw [List.mem_singleton.1 hr]
    exact hp.2.2 p hq (x, hi) (by simp)
  · rcases List.mem_append.1 hq with hq | hq
    · have := h.top p (List.mem_append_left _ hq); omega
    · rw [List.mem_singleton.1 hq]; exact Int.le_refl _
  · have hs := h.same d
    rw [inS_append, inS_cons] at hs ⊢
    simp only [inS_nil, or_false] at hs ⊢
    constructor
    · rintro (a | a)
      · have := hs.1 (.inl a); exact ⟨by omega, this.2⟩
      · rcases Int.lt_or_le d hi with h' | h'
        · have := hs.1 (.inr ⟨a.1, h'⟩); exact ⟨by omega, this.2⟩
        · exact ⟨by omega, hf d h' a.2⟩
    · rintro ⟨a, b⟩
      rcases Int.lt_or_le d hi with h' | h'
      · rcases hs.2 ⟨⟨a.1, h'⟩, b⟩ with c | c
        · exact .inl c
        · exact .inr ⟨c.1, by omega⟩
      · exact .inr ⟨by omega, a.2⟩
/-- No span begins or ends behind x, up to d: d is as x. -/
theorem inS_flat_to {l : List Pr} {x d : Int} (hx : x ≤ d) (h : ∀ p ∈ l, (p.1 ≤ x ∨ d < p.1) ∧ (p.2 ≤ x ∨ d < p.2)) : inS l d ↔ inS l x := by
  constructor
  · rintro ⟨p, hp, h1, h2⟩
    have := h p hp
    exact ⟨p, hp, by omega, by omega⟩
  · rintro ⟨p, hp, h1, h2⟩
    have := h p hp
    exact ⟨p, hp, by omega, by omega⟩
/-- Numbers that rise, each once. -/
def Rises (zs : List Int) : Prop := zs.Pairwise (· < ·)
/-- The ends of spans are all among some numbers. -/
def Ends (l : List Pr) (zs : List Int) : Prop := ∀ p ∈ l, p.1 ∈ zs ∧ p.2 ∈ zs
theorem rises_get {zs : List Int} (h : Rises zs) {i j : Nat} (hij : i < j) (hj : j < zs.length) : zs.getD i 0 < zs.getD j 0 := by
  rw [List.getD_eq_getElem?_getD, List.getD_eq_getElem?_getD, List.getElem?_eq_getElem (by omega), List.getElem?_eq_getElem hj]
  exact List.pairwise_iff_getElem.1 h i j (by omega) hj hij
theorem rises_gap {zs : List Int} (h : Rises zs) {i : Nat} (hi : i + 1 < zs.length) {z d : Int} (hz : z ∈ zs) (hd : d < zs.getD (i + 1) 0) : z ≤ zs.getD i 0 ∨ d < z := by
  obtain ⟨j, hj, rfl⟩ := List.mem_iff_getElem.1 hz
  have e : zs.getD j 0 = zs[j] := by rw [List.getD_eq_getElem?_getD, List.getElem?_eq_getElem hj]; rfl
  rw [← e]
  rcases Nat.lt_trichotomy j i with hl | he | hl
  · have := rises_get h hl (by omega); omega
  · rw [he]; omega
  · rcases Nat.lt_or_ge j (i + 1) with h' | h'
    · omega
    · rcases Nat.eq_or_lt_of_le h' with h'' | h''
      · rw [← h'']; omega
      · have := rises_get h h'' hj; omega
/-- Between two bounds that stand beside one another all days are as the first. -/
theorem day_as {l : List Pr} {zs : List Int} (h : Rises zs) (he : Ends l zs) {i : Nat} (hi : i + 1 < zs.length) {d : Int} (h1 : zs.getD i 0 ≤ d) (h2 : d < zs.getD (i + 1) 0) : inS l d ↔ inS l (zs.getD i 0) :=
  inS_flat_to h1 (fun p hp => ⟨rises_gap h hi (he p hp).1 h2, rises_gap h hi (he p hp).2 h2⟩)
/-- No day lies before the first bound or from the last one on. -/
theorem day_out {l : List Pr} {zs : List Int} (h : Rises zs) (he : Ends l zs) (h0 : 0 < zs.length) {d : Int} (hd : inS l d) : zs.getD 0 0 ≤ d ∧ d < zs.getD (zs.length - 1) 0 := by
  obtain ⟨p, hp, h1, h2⟩ := hd
  obtain ⟨j, hj, e1⟩ := List.mem_iff_getElem.1 (he p hp).1
  obtain ⟨k, hk, e2⟩ := List.mem_iff_getElem.1 (he p hp).2
  have g1 : zs.getD j 0 = p.1 := by rw [List.getD_eq_getElem?_getD, List.getElem?_eq_getElem hj]; exact e1
  have g2 : zs.getD k 0 = p.2 := by rw [List.getD_eq_getElem?_getD, List.getElem?_eq_getElem hk]; exact e2
  constructor
  · rcases Nat.eq_zero_or_pos j with h' | h'
    · subst h'; omega
    · have := rises_get h h' hj; omega
  · rcases Nat.eq_or_lt_of_le (show k ≤ zs.length - 1 by omega) with h' | h'
    · rw [← h']; omega
    · have := rises_get h h' (by omega); omega
end Go.Proofs.Ytiabjlaganmloaa
