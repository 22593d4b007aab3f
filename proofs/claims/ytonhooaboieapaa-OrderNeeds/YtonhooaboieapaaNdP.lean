/-
  What is needed, as the document finds it: a list of whom to ask that grows, some of it twice.
-/
import Derived.Test.YtonhooaboieapaaOrS
import Derived.Test.YtonhooaboieapaaOrT
namespace Go.Proofs.Ytonhooaboieapaa
set_option linter.unusedVariables false
set_option linter.unusedSimpArgs false

/-- What stands ahead of the question at the place i. -/
structure Ne (N : Nat → List Nat) (n : Nat) (fr todo : List Nat) (i : Nat) (met asked : Nat → Bool) : Prop where
  tl : ∀ x ∈ todo, x < n
  frs : ∀ x ∈ fr, x ∈ todo
  tn : ∀ x ∈ todo, x ∈ fr ∨ Nd (Rn N) fr x
  ak : ∀ j x, j < i → todo[j]? = some x → asked x = true
  dn : ∀ x, asked x = true → ∀ y ∈ N x, met y = true
  mt : ∀ y, met y = true → y ∈ todo ∧ Nd (Rn N) fr y
/-- What stands while x is asked, which is at the place i: the k first of its needs are met. -/
structure Np (N : Nat → List Nat) (n : Nat) (fr todo : List Nat) (i : Nat) (met asked : Nat → Bool) (x k : Nat) : Prop where
  tl : ∀ x ∈ todo, x < n
  frs : ∀ x ∈ fr, x ∈ todo
  tn : ∀ x ∈ todo, x ∈ fr ∨ Nd (Rn N) fr x
  ak : ∀ j x, j < i → todo[j]? = some x → asked x = true
  cur : todo[i]? = some x
  ax : asked x = true
  dn : ∀ z, asked z = true → z ≠ x → ∀ y ∈ N z, met y = true
  dx : ∀ j y, j < k → (N x)[j]? = some y → met y = true
  mt : ∀ y, met y = true → y ∈ todo ∧ Nd (Rn N) fr y
theorem Ne.start (N : Nat → List Nat) (n : Nat) (fr : List Nat) (h : ∀ x ∈ fr, x < n) : Ne N n fr fr 0 (fun _ => false) (fun _ => false) where
  tl := h
  frs := fun x hx => hx
  tn := fun x hx => .inl hx
  ak := fun j x hj => absurd hj (by omega)
  dn := fun x hx => by cases hx
  mt := fun y hy => by cases hy
theorem Ne.skip {N : Nat → List Nat} {n : Nat} {fr todo : List Nat} {i : Nat} {met asked : Nat → Bool} (h : Ne N n fr todo i met asked) {x : Nat} (hx : todo[i]? = some x) (ha : asked x = true) : Ne N n fr todo (i + 1) met asked :=
  { h with
    ak := fun j z hj hz => by
      by_cases e : j < i
      · exact h.ak j z e hz
      · obtain rfl : j = i := by omega
        rw [hx] at hz; cases hz; exact ha }
theorem Ne.ask {N : Nat → List Nat} {n : Nat} {fr todo : List Nat} {i : Nat} {met asked : Nat → Bool} (h : Ne N n fr todo i met asked) {x : Nat} (hx : todo[i]? = some x) (ha : asked x = false) : Np N n fr todo i met (upf asked x true) x 0 where
  tl := h.tl
  frs := h.frs
  tn := h.tn
  ak := fun j z hj hz => by
    by_cases e : z = x
    · rw [e, upf_self]
    · rw [upf_ne _ _ e]; exact h.ak j z hj hz
  cur := hx
  ax := upf_self _ _ _
  dn := fun z hz e => by
    rw [upf_ne _ _ e] at hz
    exact h.dn z hz
  dx := fun j y hj => absurd hj (by omega)
  mt := h.mt
theorem Np.step {N : Nat → List Nat} {n : Nat} {fr todo : List Nat} {i : Nat} {met asked : Nat → Bool} {x k : Nat} (h : Np N n fr todo i met asked x k) (hN : ∀ x y, y ∈ N x → x < n ∧ y < n) {y : Nat} (hy : (N x)[k]? = some y) : Np N n fr (todo ++ [y]) i (upf met y true) asked x (k + 1) := by
  have hyx := List.mem_of_getElem? hy
  have hnd : Nd (Rn N) fr y := by
    rcases h.tn x (List.mem_of_getElem? h.cur) with h1 | h1
    · exact Nd.of h1 hyx
    · exact h1.step hyx
  have hil := (List.getElem?_eq_some_iff.1 h.cur).1
  have hup : ∀ z, met z = true → upf met y true z = true := fun z hz => by
    by_cases e : z = y
    · rw [e, upf_self]
    · rw [upf_ne _ _ e]; exact hz
  refine ⟨fun z hz => ?_, fun z hz => List.mem_append_left _ (h.frs z hz), fun z hz => ?_, fun j z hj hz => ?_, ?_, h.ax, fun z hz e u hu => hup u (h.dn z hz e u hu), fun j u hj hu => ?_, fun z hz => ?_⟩
  · rcases List.mem_append.1 hz with h1 | h1
    · exact h.tl z h1
    · simp at h1; rw [h1]; exact (hN x y hyx).2
  · rcases List.mem_append.1 hz with h1 | h1
    · exact h.tn z h1
    · simp at h1; rw [h1]; exact .inr hnd
  · rw [List.getElem?_append_left (by omega)] at hz
    exact h.ak j z hj hz
  · rw [List.getElem?_append_left (by omega)]; exact h.cur
  · by_cases e : j < k
    · exact hup u (h.dx j u e hu)
    · obtain rfl : j = k := by omega
      rw [hy] at hu; cases hu
      exact upf_self _ _ _
  · by_cases e : z = y
    · rw [e]; exact ⟨by simp, hnd⟩
    · rw [upf_ne _ _ e] at hz
      exact ⟨List.mem_append_left _ (h.mt z hz).1, (h.mt z hz).2⟩
theorem Np.end {N : Nat → List Nat} {n : Nat} {fr todo : List Nat} {i : Nat} {met asked : Nat → Bool} {x : Nat} (h : Np N n fr todo i met asked x (N x).length) : Ne N n fr todo (i + 1) met asked where
  tl := h.tl
  frs := h.frs
  tn := h.tn
  ak := fun j z hj hz => by
    by_cases e : j < i
    · exact h.ak j z e hz
    · obtain rfl : j = i := by omega
      rw [h.cur] at hz; cases hz; exact h.ax
  dn := fun z hz y hy => by
    by_cases e : z = x
    · subst e
      obtain ⟨j, hj⟩ := List.mem_iff_getElem?.1 hy
      exact h.dx j y (List.getElem?_eq_some_iff.1 hj).1 hj
    · exact h.dn z hz e y hy
  mt := h.mt
theorem Ne.all {N : Nat → List Nat} {n : Nat} {fr todo : List Nat} {met asked : Nat → Bool} (h : Ne N n fr todo todo.length met asked) (y : Nat) : met y = true ↔ Nd (Rn N) fr y := by
  have hall : ∀ x ∈ todo, ∀ z ∈ N x, met z = true := fun x hx => by
    obtain ⟨j, hj⟩ := List.mem_iff_getElem?.1 hx
    exact h.dn x (h.ak j x (List.getElem?_eq_some_iff.1 hj).1 hj)
  refine ⟨fun hy => (h.mt y hy).2, fun hn => ?_⟩
  exact Nd.in (P := fun z => met z = true) (fun x hx z hz => hall x (h.frs x hx) z hz) (fun x z hx hz => hall x (h.mt x hx).1 z hz) hn
/-- How much those that are not asked need. -/
def owed (N : Nat → List Nat) (asked : Nat → Bool) : Nat → Nat
  | 0 => 0
  | k + 1 => owed N asked k + (if asked k = true then 0 else (N k).length)
theorem owed_far {N : Nat → List Nat} {asked : Nat → Bool} {x : Nat} : ∀ {n : Nat}, n ≤ x → owed N (upf asked x true) n = owed N asked n
  | 0, _ => rfl
  | k + 1, h => by
    show owed N (upf asked x true) k + _ = owed N asked k + _
    rw [owed_far (by omega), upf_ne _ _ (by omega)]
theorem owed_ask {N : Nat → List Nat} {asked : Nat → Bool} {x : Nat} (ha : asked x = false) : ∀ {n : Nat}, x < n → owed N (upf asked x true) n + (N x).length = owed N asked n
  | 0, h => absurd h (by omega)
  | k + 1, h => by
    show owed N (upf asked x true) k + _ + _ = owed N asked k + _
    by_cases e : x = k
    · subst e
      rw [owed_far (Nat.le_refl _), upf_self, ha]
      simp
    · have := owed_ask (N := N) ha (n := k) (by omega)
      rw [upf_ne _ _ (by omega)]
      omega
theorem owed_few {N : Nat → List Nat} {asked : Nat → Bool} {L : Nat} (h : ∀ x, (N x).length ≤ L) : ∀ n, owed N asked n ≤ n * L
  | 0 => Nat.zero_le _
  | k + 1 => by
    have h1 := owed_few (asked := asked) h k
    have h2 := h k
    show owed N asked k + _ ≤ _
    rw [Nat.add_mul, Nat.one_mul]
    split <;> omega
/-- Two lists that rise and have the same members are one. -/
theorem lt_list_ext : ∀ {l m : List Nat}, l.Pairwise (· < ·) → m.Pairwise (· < ·) → (∀ y, y ∈ l ↔ y ∈ m) → l = m
  | [], [], _, _, _ => rfl
  | [], b :: m, _, _, h => by have := (h b).2 (by simp); simp at this
  | a :: l, [], _, _, h => by have := (h a).1 (by simp); simp at this
  | a :: l, b :: m, h1, h2, h => by
    have a1 := List.pairwise_cons.1 h1
    have b1 := List.pairwise_cons.1 h2
    have e : a = b := by
      have ha := (h a).1 (by simp)
      have hb := (h b).2 (by simp)
      simp only [List.mem_cons] at ha hb
      rcases ha with ha | ha
      · exact ha
      · rcases hb with hb | hb
        · exact hb.symm
        · have := a1.1 b hb
          have := b1.1 a ha
          omega
    subst e
    rw [lt_list_ext a1.2 b1.2 (fun y => ?_)]
    constructor
    · intro hy
      have := (h y).1 (List.mem_cons_of_mem _ hy)
      simp only [List.mem_cons] at this
      rcases this with rfl | h3
      · exact absurd (a1.1 _ hy) (Nat.lt_irrefl _)
      · exact h3
    · intro hy
      have := (h y).2 (List.mem_cons_of_mem _ hy)
      simp only [List.mem_cons] at this
      rcases this with rfl | h3
      · exact absurd (b1.1 _ hy) (Nat.lt_irrefl _)
      · exact h3
end Go.Proofs.Ytonhooaboieapaa
