/-
  How many steps at least lead to a node, told by a search in breadth; the ring that goes on to the nearest. Plain Lean.
-/
import Derived.Test.YtonhooaboieapaaOrS
namespace Go.Proofs.Ytonhooaboieapaa
set_option linter.unusedVariables false
variable {N : Nat → List Nat} {n t : Nat}
/-- The search in breadth on its way: the first so many of the list are gone along, and of the next one's followers the first so many. -/
structure Bf (N : Nat → List Nat) (n t : Nat) (st : Nat → Nat) (Q : List Nat) (k : Nat) : Prop where
  nd : Q.Nodup
  lt : ∀ x ∈ Q, x < n
  wk : ∀ x ∈ Q, Wk (Rn N) (st x) x t
  out : ∀ x, x ∉ Q → st x = n
  pos : ∀ i x, Q[i]? = some x → st x ≤ i
  mono : Q.Pairwise (fun x y => st x ≤ st y)
  near : ∀ x ∈ Q, ∀ u, Q[k]? = some u → st x ≤ st u + 1
  done : ∀ x ∈ Q.take k, ∀ y, x ∈ N y → y ∈ Q ∧ st y ≤ st x + 1
  has : t ∈ Q ∧ st t = 0
theorem Bf.few {st : Nat → Nat} {Q : List Nat} {k : Nat} (h : Bf N n t st Q k) : Q.length ≤ n := few_nat h.nd h.lt
theorem Bf.sml {st : Nat → Nat} {Q : List Nat} {k : Nat} (h : Bf N n t st Q k) {x : Nat} (hx : x ∈ Q) : st x < n := by
  obtain ⟨i, hi⟩ := List.mem_iff_getElem?.1 hx
  have h1 := h.pos i x hi
  have h2 := (List.getElem?_eq_some_iff.1 hi).1
  have := h.few
  omega
theorem Bf.iff {st : Nat → Nat} {Q : List Nat} {k : Nat} (h : Bf N n t st Q k) (x : Nat) : st x = n ↔ x ∉ Q := by
  constructor
  · intro e hx
    have := h.sml hx
    omega
  · exact h.out x
theorem Bf.start (ht : t < n) : Bf N n t (upf (fun _ => n) t 0) [t] 0 := by
  refine ⟨by simp, fun x hx => by simp at hx; omega, fun x hx => ?_, fun x hx => ?_, fun i x hx => ?_, by simp, fun x hx u hu => ?_, by simp, by simp, upf_self _ _ _⟩
  · simp at hx; subst hx; rw [upf_self]; rfl
  · simp at hx; rw [upf_ne _ _ hx]
  · have := List.mem_of_getElem? hx; simp at this; subst this; rw [upf_self]; omega
  · simp at hx; subst hx; rw [upf_self]; omega
/-- One that was not met yet, of those that lead to the one at hand. -/
theorem Bf.put {st : Nat → Nat} {Q : List Nat} {k u y : Nat} (h : Bf N n t st Q k) (hu : Q[k]? = some u) (hy : u ∈ N y) (hyn : y < n) (hyo : y ∉ Q) : Bf N n t (upf st y (st u + 1)) (Q ++ [y]) k := by
  have hk := (List.getElem?_eq_some_iff.1 hu).1
  have hum := List.mem_of_getElem? hu
  have hne : ∀ x ∈ Q, x ≠ y := fun x hx e => hyo (e ▸ hx)
  have hun : u ≠ y := hne u hum
  refine ⟨?_, fun x hx => ?_, fun x hx => ?_, fun x hx => ?_, fun i x hx => ?_, ?_, fun x hx v hv => ?_, fun x hx z hz => ?_, ?_⟩
  · rw [List.nodup_append]
    exact ⟨h.nd, by simp, fun a ha b hb => by simp at hb; subst hb; exact hne a ha⟩
  · rcases List.mem_append.1 hx with h1 | h1
    · exact h.lt x h1
    · simp at h1; omega
  · rcases List.mem_append.1 hx with h1 | h1
    · rw [upf_ne _ _ (hne x h1)]; exact h.wk x h1
    · simp at h1; subst h1; rw [upf_self]; exact ⟨u, hy, h.wk u hum⟩
  · have h1 : x ∉ Q := fun e => hx (List.mem_append_left _ e)
    have h2 : x ≠ y := fun e => hx (by rw [e]; simp)
    rw [upf_ne _ _ h2]; exact h.out x h1
  · rcases Nat.lt_or_ge i Q.length with hi | hi
    · rw [List.getElem?_append_left hi] at hx
      rw [upf_ne _ _ (hne x (List.mem_of_getElem? hx))]
      exact h.pos i x hx
    · rw [List.getElem?_append_right hi] at hx
      have h1 := List.mem_of_getElem? hx
      simp at h1
      subst h1
      rw [upf_self]
      have := h.pos k u hu
      omega
  · rw [List.pairwise_append]
    refine ⟨h.mono.imp_of_mem (fun {a b} ha hb hab => by rw [upf_ne _ _ (hne a ha), upf_ne _ _ (hne b hb)]; exact hab), by simp, fun a ha b hb => ?_⟩
    simp at hb; subst hb
    rw [upf_self, upf_ne _ _ (hne a ha)]
    exact h.near a ha u hu
  · rw [List.getElem?_append_left hk, hu] at hv
    cases hv
    rw [upf_ne _ _ hun]
    rcases List.mem_append.1 hx with h1 | h1
    · rw [upf_ne _ _ (hne x h1)]; exact h.near x h1 u hu
    · simp at h1; subst h1; rw [upf_self]; exact Nat.le_refl _
  · rw [List.take_append_of_le_length (by omega)] at hx
    obtain ⟨h1, h2⟩ := h.done x hx z hz
    exact ⟨List.mem_append_left _ h1, by rw [upf_ne _ _ (hne z h1), upf_ne _ _ (hne x (List.mem_of_mem_take hx))]; exact h2⟩
  · exact ⟨List.mem_append_left _ h.has.1, by rw [upf_ne _ _ (hne t h.has.1)]; exact h.has.2⟩
/-- All that lead to the one at hand are met: on to the next one. -/
theorem Bf.next {st : Nat → Nat} {Q : List Nat} {k u : Nat} (h : Bf N n t st Q k) (hu : Q[k]? = some u) (ha : ∀ y, u ∈ N y → y ∈ Q) : Bf N n t st Q (k + 1) := by
  refine ⟨h.nd, h.lt, h.wk, h.out, h.pos, h.mono, fun x hx v hv => ?_, fun x hx y hy => ?_, h.has⟩
  · have h1 := h.near x hx u hu
    obtain ⟨k1, e1⟩ := List.getElem?_eq_some_iff.1 hu
    obtain ⟨k2, e2⟩ := List.getElem?_eq_some_iff.1 hv
    have := List.pairwise_iff_getElem.1 h.mono k (k + 1) k1 k2 (by omega)
    rw [e1, e2] at this
    omega
  · rw [take_more _ _ hu] at hx
    rcases List.mem_append.1 hx with h1 | h1
    · exact h.done x h1 y hy
    · simp at h1; subst h1
      exact ⟨ha y hy, h.near y (ha y hy) x hu⟩
/-- What the steps are in the end. -/
structure Stp (N : Nat → List Nat) (n t : Nat) (st : Nat → Nat) : Prop where
  zero : ∀ x, st x = 0 → x = t
  lead : ∀ x, st x < n → Wk (Rn N) (st x) x t
  least : ∀ i x, Wk (Rn N) i x t → st x ≤ i ∧ st x < n
theorem Bf.stp {st : Nat → Nat} {Q : List Nat} (h : Bf N n t st Q Q.length) : Stp N n t st := by
  have hin : ∀ x, st x < n → x ∈ Q := fun x hx => Classical.byContradiction (fun hno => by have := h.out x hno; omega)
  have hn0 : 0 < n := by have := h.lt t h.has.1; omega
  refine ⟨fun x hx => ?_, fun x hx => h.wk x (hin x hx), fun i => ?_⟩
  · have := h.wk x (hin x (by omega))
    rw [hx] at this; exact this
  · induction i with
    | zero =>
      intro x hw
      cases hw
      exact ⟨by rw [h.has.2]; exact Nat.le_refl _, h.sml h.has.1⟩
    | succ i ih =>
      intro x hw
      obtain ⟨z, h1, h2⟩ := hw
      obtain ⟨h3, h4⟩ := ih z h2
      obtain ⟨h5, h6⟩ := h.done z (by rw [List.take_length]; exact hin z h4) x h1
      exact ⟨by omega, h.sml h5⟩
/-- Far is how far it is by the steps, from the next one on. -/
theorem Stp.ds {st : Nat → Nat} (h : Stp N n t st) {L x z : Nat} (hd : Ds (Rn N) L x t) (hz : z ∈ N x) (hm : ∀ y ∈ N x, st z ≤ st y) : st z + 1 = L := by
  obtain ⟨h0, h1, h2⟩ := hd
  obtain ⟨L', rfl⟩ : ∃ L', L = L' + 1 := ⟨L - 1, by omega⟩
  obtain ⟨y, h3, h4⟩ := h1
  obtain ⟨h5, h6⟩ := h.least _ y h4
  have h7 := hm y h3
  have h8 := h.lead z (by omega)
  have := h2 (st z + 1) (by omega) ⟨z, hz, h8⟩
  omega
end Go.Proofs.Ytonhooaboieapaa
