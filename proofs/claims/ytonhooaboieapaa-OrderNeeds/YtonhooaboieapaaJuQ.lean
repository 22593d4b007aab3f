/-
  Rings in few steps, and the order in which each place stands behind its parent, the least first. Plain Lean.
-/
import Derived.Test.YtonhooaboieapaaJuP
namespace Go.Proofs.Ytonhooaboieapaa
set_option linter.unusedVariables false
theorem rg_more {ps : List Int} {i j : Nat} (h : ups ps j i = some i) : ∀ t, ups ps (j * t) i = some i
  | 0 => rfl
  | t + 1 => by rw [Nat.mul_succ, ups_add, rg_more h t]; exact h
/-- A place on a ring comes back in as many steps as there are places, at most. -/
theorem rg_few {ps : List Int} (h : Okp ps) {i : Nat} (hi : i < ps.length) (hr : Rg ps i) : ∃ j, 0 < j ∧ j ≤ ps.length ∧ ups ps j i = some i := by
  obtain ⟨j, hj, e⟩ := hr
  have hs : ∀ a, ∃ p, ups ps a i = some p := fun a => ups_ahead (rg_more e (a + 1)) (by
    have := Nat.le_mul_of_pos_left (a + 1) hj
    omega)
  obtain ⟨a, b, hab, hb, e2⟩ := php ps.length (fun j => (ups ps j i).getD 0) (fun a _ => by
    obtain ⟨p, hp⟩ := hs a
    show (ups ps a i).getD 0 < _
    rw [hp]
    exact h.ups hi hp)
  obtain ⟨p, hp⟩ := hs a
  obtain ⟨p2, hp2⟩ := hs b
  rw [hp, hp2] at e2
  obtain rfl : p = p2 := e2
  have hpp : ups ps (b - a) p = some p := by
    rw [show b = a + (b - a) from by omega, ups_add, hp] at hp2
    exact hp2
  obtain ⟨m, hm⟩ : ∃ m, ups ps m p = some i := by
    have h1 := rg_more e (a + 1)
    have h2 := Nat.le_mul_of_pos_left (a + 1) hj
    rw [show j * (a + 1) = a + (j * (a + 1) - a) from by omega, ups_add, hp] at h1
    exact ⟨_, h1⟩
  refine ⟨b - a, by omega, by omega, ?_⟩
  have h3 : ups ps (m + (b - a)) p = ups ps (b - a) i := by rw [ups_add, hm]; rfl
  have h4 : ups ps ((b - a) + m) p = some i := by rw [ups_add, hpp]; exact hm
  rw [← h3, Nat.add_comm]
  exact h4
/-- All paths end, or a place is on a ring. -/
theorem tre_or {ps : List Int} (h : Okp ps) : Tre ps ∨ ∃ i, i < ps.length ∧ Rg ps i := by
  by_cases hr : ∃ i, i < ps.length ∧ Rg ps i
  · exact .inr hr
  · exact .inl ⟨h, fun i hi hri => hr ⟨i, hi, hri⟩⟩
theorem tre_iff {ps : List Int} (h : Okp ps) : Tre ps ↔ ∀ i, i < ps.length → ups ps ps.length i = none := by
  constructor
  · exact fun hT i hi => hT.ends hi
  · intro he
    refine ⟨h, fun i hi ⟨j, hj, e⟩ => ?_⟩
    have h1 := rg_more e ps.length
    rw [ups_later (he i hi) (Nat.le_mul_of_pos_left _ hj)] at h1
    cases h1
/-- The least place on a ring. -/
theorem rg_least {ps : List Int} (h : ∃ i, i < ps.length ∧ Rg ps i) : ∃ i, i < ps.length ∧ Rg ps i ∧ ∀ k, k < i → ¬ Rg ps k := by
  obtain ⟨i, hi, hr⟩ := h
  induction i using Nat.strongRecOn with
  | ind i ih =>
    by_cases hl : ∃ k, k < i ∧ Rg ps k
    · obtain ⟨k, hk, hrk⟩ := hl
      exact ih k hk (by omega) hrk
    · exact ⟨i, hi, hr, fun k hk hrk => hl ⟨k, hk, hrk⟩⟩
/-- A place that may come next, behind those that are told. -/
def Av (ps : List Int) (out : List Nat) (i : Nat) : Prop := i < ps.length ∧ i ∉ out ∧ ∀ k, pa ps i = some k → k ∈ out
/-- As long as a place is left, one may come next. -/
theorem av_there {ps : List Int} (hT : Tre ps) (out : List Nat) {i : Nat} (hi : i < ps.length) (ho : i ∉ out) : ∃ k, Av ps out k := by
  obtain ⟨d, -, hd⟩ := hT.dee hi
  induction d generalizing i with
  | zero =>
    refine ⟨i, hi, ho, fun k hk => ?_⟩
    have := hd.2
    rw [ups_some hk] at this
    cases this
  | succ d ih =>
    cases hq : pa ps i with
    | none => exact ⟨i, hi, ho, fun k hk => by rw [hq] at hk; cases hk⟩
    | some k =>
      by_cases hk : k ∈ out
      · exact ⟨i, hi, ho, fun k2 hk2 => by rw [hq] at hk2; cases hk2; exact hk⟩
      · refine ih (hT.1.pa hq) hk ?_
        obtain ⟨⟨p, hp⟩, h2⟩ := hd
        exact ⟨⟨p, by rw [ups_some hq] at hp; exact hp⟩, by rw [ups_some hq] at h2; exact h2⟩
theorem least_there {P : Nat → Prop} (h : ∃ i, P i) : ∃ i, P i ∧ ∀ k, P k → i ≤ k := by
  obtain ⟨i, hi⟩ := h
  induction i using Nat.strongRecOn with
  | ind i ih =>
    by_cases hl : ∃ k, k < i ∧ P k
    · obtain ⟨k, hk, hp⟩ := hl
      exact ih k hk hp
    · refine ⟨i, hi, fun k hk => ?_⟩
      rcases Nat.lt_or_ge k i with h' | h'
      · exact absurd ⟨k, h', hk⟩ hl
      · exact h'
/-- Each place that is told is the least that may come next. -/
def Go15 (ps : List Int) (out : List Nat) : Prop := ∀ t x, out[t]? = some x → Av ps (out.take t) x ∧ ∀ i, Av ps (out.take t) i → x ≤ i
theorem Go15.nil (ps : List Int) : Go15 ps [] := fun t x h => by simp at h
theorem Go15.snoc {ps : List Int} {out : List Nat} {x : Nat} (h : Go15 ps out) (hx : Av ps out x) (hl : ∀ i, Av ps out i → x ≤ i) : Go15 ps (out ++ [x]) := by
  intro t y ht
  rcases Nat.lt_trichotomy t out.length with h1 | h1 | h1
  · rw [List.getElem?_append_left h1] at ht
    rw [List.take_append_of_le_length (by omega)]
    exact h t y ht
  · subst h1
    rw [List.getElem?_append_right (Nat.le_refl _), Nat.sub_self] at ht
    obtain rfl : x = y := by simpa using ht
    rw [List.take_append_of_le_length (Nat.le_refl _), List.take_length]
    exact ⟨hx, hl⟩
  · rw [List.getElem?_eq_none (by simp; omega)] at ht
    cases ht
theorem Go15.take {ps : List Int} {out : List Nat} (h : Go15 ps out) (n : Nat) : Go15 ps (out.take n) := by
  intro t x ht
  rcases Nat.lt_or_ge t n with h1 | h1
  · rw [List.getElem?_take_of_lt h1] at ht
    have := h t x ht
    rw [List.take_take, Nat.min_eq_left (by omega)]
    exact this
  · rw [List.getElem?_eq_none (by rw [List.length_take]; omega)] at ht
    cases ht
theorem Go15.lt {ps : List Int} {out : List Nat} (h : Go15 ps out) {x : Nat} (hx : x ∈ out) : x < ps.length := by
  obtain ⟨t, ht⟩ := List.mem_iff_getElem?.1 hx
  exact (h t x ht).1.1
theorem Go15.nodup {ps : List Int} {out : List Nat} (h : Go15 ps out) {a b x : Nat} (ha : out[a]? = some x) (hb : out[b]? = some x) : a = b := by
  rcases Nat.lt_trichotomy a b with h1 | h1 | h1
  · exact absurd (List.mem_iff_getElem?.2 ⟨a, by rw [List.getElem?_take_of_lt h1]; exact ha⟩) (h b x hb).1.2.1
  · exact h1
  · exact absurd (List.mem_iff_getElem?.2 ⟨b, by rw [List.getElem?_take_of_lt h1]; exact hb⟩) (h a x ha).1.2.1
/-- There is one such list of each length at most. -/
theorem Go15.unique {ps : List Int} : ∀ {n : Nat} {l m : List Nat}, l.length = n → m.length = n → Go15 ps l → Go15 ps m → l = m
  | 0, l, m, hl, hm, _, _ => by rw [List.length_eq_zero_iff.1 hl, List.length_eq_zero_iff.1 hm]
  | n + 1, l, m, hl, hm, h, k => by
    have e := Go15.unique (n := n) (l := l.take n) (m := m.take n) (by rw [List.length_take]; omega) (by rw [List.length_take]; omega) (h.take n) (k.take n)
    have h1 : l[n]? = some l[n] := List.getElem?_eq_getElem (by omega)
    have k1 : m[n]? = some m[n] := List.getElem?_eq_getElem (by omega)
    obtain ⟨a1, a2⟩ := h n _ h1
    obtain ⟨b1, b2⟩ := k n _ k1
    rw [e] at a1 a2
    have e2 : l[n] = m[n] := Nat.le_antisymm (a2 _ b1) (b2 _ a1)
    rw [← List.take_length (l := l), ← List.take_length (l := m), hl, hm, List.take_succ_eq_append_getElem (by omega), List.take_succ_eq_append_getElem (by omega), e, e2]
/-- Fewer places told than there are: one is left. -/
theorem left_there : ∀ (n : Nat) (out : List Nat), out.length < n → ∃ i, i < n ∧ i ∉ out := by
  intro n out hl
  rcases Classical.em (∃ i, i < n ∧ i ∉ out) with h | h
  · exact h
  · exfalso
    have hm : ∀ i, i < n → ∃ t, t < out.length ∧ out[t]? = some i := fun i hi => by
      rcases Classical.em (i ∈ out) with h1 | h1
      · obtain ⟨t, ht⟩ := List.mem_iff_getElem?.1 h1
        have hlt : t < out.length := by
          rcases Nat.lt_or_ge t out.length with h2 | h2
          · exact h2
          · rw [List.getElem?_eq_none h2] at ht; cases ht
        exact ⟨t, hlt, ht⟩
      · exact absurd ⟨i, hi, h1⟩ h
    obtain ⟨a, b, hab, hb, e⟩ := php out.length (fun i => if hi : i < n then Classical.choose (hm i hi) else 0) (fun j hj => by
      have hjn : j < n := by omega
      simp only [hjn, dif_pos]
      exact (Classical.choose_spec (hm j hjn)).1)
    have ha : a < n := by omega
    have hbn : b < n := by omega
    simp only [ha, hbn, dif_pos] at e
    have h1 := (Classical.choose_spec (hm a ha)).2
    have h2 := (Classical.choose_spec (hm b hbn)).2
    rw [e, h2] at h1
    have := Option.some.inj h1
    omega
/-- In a tree the next place is there as long as not all are told. -/
theorem next_there {ps : List Int} (hT : Tre ps) {out : List Nat} (hl : out.length < ps.length) : ∃ x, Av ps out x ∧ ∀ i, Av ps out i → x ≤ i := by
  obtain ⟨i, hi, ho⟩ := left_there ps.length out hl
  exact least_there (av_there hT out hi ho)
end Go.Proofs.Ytonhooaboieapaa
