/-
  All that lie within a place: gathered from parent to children, and put in order. Plain Lean.
-/
import Derived.Test.YtfmbloagmeodeaaJuO
namespace Go.Proofs.Ytfmbloagmeodeaa
set_option linter.unusedVariables false
/-- On the way: those that are gathered lie within i, each stands once, and besides i they are the children of the first m. -/
structure Ga (ps : List Int) (i : Nat) (l : List Int) (m : Nat) : Prop where
  once : ∀ v, l.count v ≤ 1
  within : ∀ v ∈ l, 0 ≤ v ∧ Wn ps v.toNat i ∧ v.toNat < ps.length
  iff : ∀ y : Nat, (y : Int) ∈ l ↔ y = i ∨ ∃ x : Nat, (x : Int) ∈ l.take m ∧ pa ps y = some x
  le : m ≤ l.length
theorem Ga.start {ps : List Int} {i : Nat} (hi : i < ps.length) : Ga ps i [(i : Int)] 0 where
  once v := by rw [List.count_singleton]; split <;> omega
  within v hv := by
    simp at hv; subst hv
    exact ⟨by omega, by simpa using Wn.refl ps i, by simpa using hi⟩
  iff y := by simp; omega
  le := Nat.zero_le _
theorem take_succ_mem {l : List Int} {m : Nat} (hm : m < l.length) (v : Int) : v ∈ l.take (m + 1) ↔ v ∈ l.take m ∨ v = l.getD m 0 := by
  rw [List.take_succ_eq_append_getElem hm, List.mem_append, List.getD_eq_getElem?_getD, List.getElem?_eq_getElem hm]
  simp
theorem once_take {l : List Int} (h : ∀ v, l.count v ≤ 1) {m : Nat} (hm : m < l.length) : l.getD m 0 ∉ l.take m := by
  intro hv
  have h1 := h (l.getD m 0)
  have h2 : l.count (l.getD m 0) = (l.take m).count (l.getD m 0) + (l.drop m).count (l.getD m 0) := by
    rw [← List.count_append, List.take_append_drop]
  have h3 := List.count_pos_iff.2 hv
  have h4 : 0 < (l.drop m).count (l.getD m 0) := by
    apply List.count_pos_iff.2
    rw [List.drop_eq_getElem_cons hm, List.getD_eq_getElem?_getD, List.getElem?_eq_getElem hm]
    exact List.mem_cons_self
  omega
theorem Ga.step {ps : List Int} (hT : Tre ps) {i : Nat} (hi : i < ps.length) {l : List Int} {m : Nat} (h : Ga ps i l m) (hm : m < l.length) {x : Nat} (hx : l.getD m 0 = (x : Int)) : Ga ps i (l ++ kl ps x ps.length) (m + 1) := by
  have hxm : (x : Int) ∈ l := by rw [← hx]; exact getD_mem hm
  obtain ⟨-, hxw, hxl⟩ := h.within _ hxm
  simp only [Int.toNat_natCast] at hxw hxl
  have hnew : ∀ y : Nat, pa ps y = some x → (y : Int) ∉ l := by
    intro y hy hyl
    rcases (h.iff y).1 hyl with rfl | ⟨x', hx', hp⟩
    · obtain ⟨j, hj⟩ := hxw
      exact hT.2 y hi ⟨j + 1, by omega, by rw [ups_some hy]; exact hj⟩
    · rw [hy] at hp; cases hp
      exact once_take h.once hm (by rw [hx]; exact hx')
  have htk : (l ++ kl ps x ps.length).take (m + 1) = l.take (m + 1) := List.take_append_of_le_length (by omega)
  refine ⟨fun v => ?_, fun v hv => ?_, fun y => ?_, by rw [List.length_append]; omega⟩
  · rw [List.count_append, kl_count]
    have := h.once v
    split
    · next hc =>
      have hz : l.count v = 0 := by
        apply List.count_eq_zero.2
        have e : v = (v.toNat : Int) := by omega
        rw [e]
        exact hnew v.toNat (pa_of (by omega) hc.2.2)
      omega
    · omega
  · rw [List.mem_append] at hv
    rcases hv with hv | hv
    · exact h.within v hv
    · obtain ⟨a, b, c⟩ := kl_lt hv
      have hp := pa_of (ps := ps) (i := v.toNat) (k := x) (by omega) c
      obtain ⟨j, hj⟩ := hxw
      exact ⟨a, ⟨j + 1, by rw [ups_some hp]; exact hj⟩, by omega⟩
  · rw [List.mem_append, htk]
    constructor
    · rintro (hy | hy)
      · rcases (h.iff y).1 hy with e | ⟨x', h1, h2⟩
        · exact .inl e
        · exact .inr ⟨x', (take_succ_mem hm _).2 (.inl h1), h2⟩
      · obtain ⟨a, b, c⟩ := kl_lt hy
        simp only [Int.toNat_natCast] at c
        exact .inr ⟨x, (take_succ_mem hm _).2 (.inr hx.symm), pa_of (by omega) c⟩
    · rintro (e | ⟨x', h1, h2⟩)
      · exact .inl ((h.iff y).2 (.inl e))
      · rcases (take_succ_mem hm _).1 h1 with h3 | h3
        · exact .inl ((h.iff y).2 (.inr ⟨x', h3, h2⟩))
        · rw [hx] at h3
          have : x' = x := by omega
          subst this
          exact .inr (kl_mem (pa_getD h2).1 (pa_getD h2).2)
theorem nodup_le : ∀ (n : Nat) (l : List Int), (∀ v, l.count v ≤ 1) → (∀ v ∈ l, 0 ≤ v ∧ v.toNat < n) → l.length ≤ n := by
  intro n l h1 h2
  rcases Nat.lt_or_ge n l.length with h | h
  · exfalso
    obtain ⟨a, b, hab, hb, e⟩ := php n (fun j => (l.getD j 0).toNat) (fun j hj => (h2 _ (getD_mem (by omega))).2)
    have ha := h2 _ (getD_mem (l := l) (i := a) (by omega))
    have hb' := h2 _ (getD_mem (l := l) (i := b) (by omega))
    have e' : l.getD a 0 = l.getD b 0 := by
      have : (l.getD a 0).toNat = (l.getD b 0).toNat := e
      omega
    refine once_take h1 (m := b) (by omega) ?_
    rw [← e', List.mem_iff_getElem?]
    exact ⟨a, by rw [List.getElem?_take_of_lt hab, List.getD_eq_getElem?_getD, List.getElem?_eq_getElem (by omega)]; rfl⟩
  · exact h
theorem Ga.length {ps : List Int} {i : Nat} {l : List Int} {m : Nat} (h : Ga ps i l m) : l.length ≤ ps.length :=
  nodup_le _ _ h.once (fun v hv => ⟨(h.within v hv).1, (h.within v hv).2.2⟩)
/-- At the end all are there. -/
theorem Ga.all {ps : List Int} {i : Nat} (hi : i < ps.length) {l : List Int} (h : Ga ps i l l.length) (y : Nat) : (y : Int) ∈ l ↔ Wn ps y i := by
  constructor
  · intro hy
    simpa using (h.within _ hy).2.1
  · rintro ⟨j, hj⟩
    induction j generalizing y with
    | zero => exact (h.iff y).2 (.inl (Option.some.inj hj))
    | succ j ih =>
      cases hq : pa ps y with
      | none => rw [ups_none hq] at hj; cases hj
      | some k =>
        rw [ups_some hq] at hj
        exact (h.iff y).2 (.inr ⟨k, by rw [List.take_length]; exact ih k hj, hq⟩)
open Classical in
/-- Those of the first places that lie within i, rising. -/
noncomputable def wl (ps : List Int) (i : Nat) : Nat → List Int
  | 0 => []
  | m + 1 => wl ps i m ++ (if Wn ps m i then [(m : Int)] else [])
theorem wl_lt {ps : List Int} {i : Nat} : ∀ {m : Nat} {v : Int}, v ∈ wl ps i m → 0 ≤ v ∧ v < m ∧ Wn ps v.toNat i
  | 0, v, h => by cases h
  | m + 1, v, h => by
    simp only [wl, List.mem_append] at h
    rcases h with h1 | h1
    · obtain ⟨a, b, c⟩ := wl_lt h1
      exact ⟨a, by omega, c⟩
    · split at h1
      · next e =>
        simp at h1; subst h1
        exact ⟨by omega, by omega, by simpa using e⟩
      · cases h1
theorem wl_mem {ps : List Int} {i : Nat} : ∀ {m y : Nat}, y < m → Wn ps y i → (y : Int) ∈ wl ps i m
  | 0, y, h, _ => by omega
  | m + 1, y, h, e => by
    simp only [wl, List.mem_append]
    by_cases hy : y = m
    · subst hy; right; rw [if_pos e]; simp
    · left; exact wl_mem (by omega) e
theorem wl_rising (ps : List Int) (i : Nat) : ∀ m, (wl ps i m).Pairwise (· < ·)
  | 0 => List.Pairwise.nil
  | m + 1 => by
    simp only [wl]
    rw [List.pairwise_append]
    refine ⟨wl_rising ps i m, ?_, ?_⟩
    · split <;> simp
    · intro a ha b hb
      have := wl_lt ha
      split at hb
      · simp at hb; omega
      · cases hb
/-- Two rising lists of the same numbers are one. -/
theorem rising_unique : ∀ {l m : List Int}, l.Pairwise (· < ·) → m.Pairwise (· < ·) → (∀ v, v ∈ l ↔ v ∈ m) → l = m
  | [], [], _, _, _ => rfl
  | [], y :: m, _, _, h => by have := (h y).2 List.mem_cons_self; cases this
  | x :: l, [], _, _, h => by have := (h x).1 List.mem_cons_self; cases this
  | x :: l, y :: m, hl, hm, h => by
    rw [List.pairwise_cons] at hl hm
    have e : x = y := by
      have h1 := (h x).1 List.mem_cons_self
      have h2 := (h y).2 List.mem_cons_self
      rw [List.mem_cons] at h1 h2
      rcases h1 with h1 | h1
      · exact h1
      · rcases h2 with h2 | h2
        · exact h2.symm
        · have := hm.1 x h1
          have := hl.1 y h2
          omega
    subst e
    rw [rising_unique hl.2 hm.2 (fun v => ?_)]
    constructor
    · intro hv
      have := (h v).1 (List.mem_cons_of_mem _ hv)
      rw [List.mem_cons] at this
      rcases this with e | e
      · subst e; have := hl.1 v hv; omega
      · exact e
    · intro hv
      have := (h v).2 (List.mem_cons_of_mem _ hv)
      rw [List.mem_cons] at this
      rcases this with e | e
      · subst e; have := hm.1 v hv; omega
      · exact e
/-- What was gathered, put in order, is those that lie within, rising. -/
theorem Ga.sorted {ps : List Int} (hT : Okp ps) {i : Nat} (hi : i < ps.length) {l s : List Int} (h : Ga ps i l l.length) (hp : s.Perm l) (hs : s.Pairwise (· ≤ ·)) : s = wl ps i ps.length := by
  have hr : s.Pairwise (· < ·) := by
    rw [List.pairwise_iff_getElem] at hs ⊢
    intro a b ha hb hab
    have h1 := hs a b ha hb hab
    rcases Int.lt_or_eq_of_le h1 with h2 | h2
    · exact h2
    · exfalso
      have hc : ∀ v, s.count v ≤ 1 := fun v => by rw [hp.count_eq]; exact h.once v
      refine once_take hc (m := b) hb ?_
      rw [List.getD_eq_getElem?_getD, List.getElem?_eq_getElem hb]
      show s[b] ∈ _
      rw [← h2, List.mem_iff_getElem?]
      exact ⟨a, by rw [List.getElem?_take_of_lt hab, List.getElem?_eq_getElem ha]⟩
  refine rising_unique hr (wl_rising ps i _) (fun v => ?_)
  rw [hp.mem_iff]
  constructor
  · intro hv
    obtain ⟨a, b, c⟩ := h.within v hv
    have e : v = (v.toNat : Int) := by omega
    rw [e]
    exact wl_mem c b
  · intro hv
    obtain ⟨a, b, c⟩ := wl_lt hv
    have e : v = (v.toNat : Int) := by omega
    rw [e]
    exact (h.all hi v.toNat).2 c
end Go.Proofs.Ytfmbloagmeodeaa
