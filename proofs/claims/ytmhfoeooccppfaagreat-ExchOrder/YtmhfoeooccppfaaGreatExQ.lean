/-
  Quotes: going through a list for the newest one; their order; two lists in order put together. Plain Lean.
-/
import Derived.Test.YtmhfoeooccppfaaGreatExP
namespace Go.Proofs.YtmhfoeooccppfaaGreat
set_option linter.unusedVariables false
variable {σ ρ : Type}
/-- None of these two is old enough. -/
def Non (T : List (Qt σ ρ)) (f t : σ) (d : Int) : Prop := ∀ p ∈ T, p.On f t → d < p.day
theorem Non.nil (f t : σ) (d : Int) : Non ([] : List (Qt σ ρ)) f t d := fun p hp => absurd hp (by simp)
theorem Non.skip {T : List (Qt σ ρ)} {f t : σ} {d : Int} (h : Non T f t d) {x : Qt σ ρ} (hx : ¬ (x.On f t ∧ x.day ≤ d)) : Non (T ++ [x]) f t d := fun p hp ho => by
  rcases List.mem_append.1 hp with hp | hp
  · exact h p hp ho
  · rw [List.mem_singleton] at hp
    subst hp
    by_cases hd : p.day ≤ d
    · exact absurd ⟨ho, hd⟩ hx
    · omega
theorem Non.first {T : List (Qt σ ρ)} {f t : σ} {d : Int} (h : Non T f t d) {x : Qt σ ρ} (hx : x.On f t) (hd : x.day ≤ d) : Bst (T ++ [x]) f t d x := by
  refine ⟨by simp, hx, hd, fun p hp ho hpd => ?_⟩
  rcases List.mem_append.1 hp with hp | hp
  · have := h p hp ho; omega
  · rw [List.mem_singleton] at hp
    subst hp
    by_cases e : p.fr = f
    · exact .inr ⟨rfl, .inl e⟩
    · exact .inr ⟨rfl, .inr e⟩
theorem Bst.skip {T : List (Qt σ ρ)} {f t : σ} {d : Int} {q : Qt σ ρ} (h : Bst T f t d q) {x : Qt σ ρ} (hx : ¬ (x.On f t ∧ x.day ≤ d)) : Bst (T ++ [x]) f t d q := by
  refine ⟨List.mem_append_left _ h.mem, h.on, h.day, fun p hp ho hpd => ?_⟩
  rcases List.mem_append.1 hp with hp | hp
  · exact h.best p hp ho hpd
  · rw [List.mem_singleton] at hp
    subst hp
    exact absurd ⟨ho, hpd⟩ hx
theorem Bst.keep {T : List (Qt σ ρ)} {f t : σ} {d : Int} {q : Qt σ ρ} (h : Bst T f t d q) {x : Qt σ ρ} (hx : x.day < q.day ∨ x.day = q.day ∧ x.fr ≠ f) : Bst (T ++ [x]) f t d q := by
  refine ⟨List.mem_append_left _ h.mem, h.on, h.day, fun p hp ho hpd => ?_⟩
  rcases List.mem_append.1 hp with hp | hp
  · exact h.best p hp ho hpd
  · rw [List.mem_singleton] at hp
    subst hp
    rcases hx with hx | ⟨a, b⟩
    · exact .inl hx
    · exact .inr ⟨a, .inr b⟩
theorem Bst.take {T : List (Qt σ ρ)} {f t : σ} {d : Int} {q : Qt σ ρ} (h : Bst T f t d q) {x : Qt σ ρ} (ho : x.On f t) (hd : x.day ≤ d) (hx : q.day < x.day ∨ x.day = q.day ∧ x.fr = f) : Bst (T ++ [x]) f t d x := by
  refine ⟨by simp, ho, hd, fun p hp hpo hpd => ?_⟩
  rcases List.mem_append.1 hp with hp | hp
  · have h1 := h.best p hp hpo hpd
    rcases hx with hx | ⟨a, b⟩
    · exact .inl (by omega)
    · by_cases e : p.day = x.day
      · exact .inr ⟨e, .inl b⟩
      · exact .inl (by omega)
  · rw [List.mem_singleton] at hp
    subst hp
    by_cases e : p.fr = f
    · exact .inr ⟨rfl, .inl e⟩
    · exact .inr ⟨rfl, .inr e⟩
/-- Put into a list: in the place of the one of its key. -/
theorem pt_set {T : List (Qt σ ρ)} (hU : Uq T) (hN : T.Nodup) {q x : Qt σ ρ} {i : Nat} (hx : T[i]? = some x) (hs : Qt.Same x q) : Pt T q (T.set i q) := fun p => by
  have hi : i < T.length := by
    rcases Nat.lt_or_ge i T.length with h | h
    · exact h
    · rw [List.getElem?_eq_none h] at hx; cases hx
  rw [List.mem_iff_getElem?]
  constructor
  · rintro ⟨j, hj⟩
    rw [List.getElem?_set] at hj
    split at hj
    · first
        | exact .inl (Option.some.inj hj).symm
        | (split at hj
           · exact .inl (Option.some.inj hj).symm
           · cases hj)
    · next hne =>
      refine .inr ⟨List.mem_of_getElem? hj, fun h => ?_⟩
      have e := hU p (List.mem_of_getElem? hj) x (List.mem_of_getElem? hx) (h.trans hs.symm)
      subst e
      have hjl : j < T.length := by
        rcases Nat.lt_or_ge j T.length with h | h
        · exact h
        · rw [List.getElem?_eq_none h] at hj; cases hj
      exact hne ((List.getElem?_inj hi hN).1 (hx.trans hj.symm))
  · rintro (rfl | ⟨hp, hn⟩)
    · exact ⟨i, by rw [List.getElem?_set, if_pos rfl, if_pos hi]⟩
    · obtain ⟨j, hj⟩ := List.mem_iff_getElem?.1 hp
      refine ⟨j, ?_⟩
      rw [List.getElem?_set]
      split
      · next e =>
        subst e
        rw [hx] at hj
        cases hj
        exact absurd hs hn
      · exact hj
/-- Put behind a list that has none of its key. -/
theorem pt_app {T : List (Qt σ ρ)} {q : Qt σ ρ} (hn : ∀ p ∈ T, ¬ Qt.Same p q) : Pt T q (T ++ [q]) := fun p => by
  rw [List.mem_append, List.mem_singleton]
  constructor
  · rintro (h | h)
    · exact .inr ⟨h, hn p h⟩
    · exact .inl h
  · rintro (h | h)
    · exact .inr h
    · exact .inl h.1
/-- Their order. -/
def Qlt (lt : σ → σ → Prop) (a b : Qt σ ρ) : Prop := lt a.fr b.fr ∨ a.fr = b.fr ∧ (lt a.to b.to ∨ a.to = b.to ∧ a.day < b.day)
/-- An order on what they are between. -/
structure Ordr (lt : σ → σ → Prop) : Prop where
  irr : ∀ a, ¬ lt a a
  trans : ∀ a b c, lt a b → lt b c → lt a c
  tri : ∀ a b, lt a b ∨ a = b ∨ lt b a
theorem Qlt.irr {lt : σ → σ → Prop} (O : Ordr lt) (a : Qt σ ρ) : ¬ Qlt lt a a := by
  rintro (h | ⟨-, h | ⟨-, h⟩⟩)
  · exact O.irr _ h
  · exact O.irr _ h
  · omega
theorem Qlt.trans {lt : σ → σ → Prop} (O : Ordr lt) {a b c : Qt σ ρ} (h : Qlt lt a b) (g : Qlt lt b c) : Qlt lt a c := by
  rcases h with h | ⟨e, h⟩ <;> rcases g with g | ⟨e', g⟩
  · exact .inl (O.trans _ _ _ h g)
  · exact .inl (e' ▸ h)
  · exact .inl (e ▸ g)
  · refine .inr ⟨e.trans e', ?_⟩
    rcases h with h | ⟨u, h⟩ <;> rcases g with g | ⟨u', g⟩
    · exact .inl (O.trans _ _ _ h g)
    · exact .inl (u' ▸ h)
    · exact .inl (u ▸ g)
    · exact .inr ⟨u.trans u', by omega⟩
theorem Qlt.asymm {lt : σ → σ → Prop} (O : Ordr lt) {a b : Qt σ ρ} (h : Qlt lt a b) : ¬ Qlt lt b a := fun g => Qlt.irr O a (h.trans O g)
theorem Qlt.tri {lt : σ → σ → Prop} (O : Ordr lt) (a b : Qt σ ρ) : Qlt lt a b ∨ Qt.Same a b ∨ Qlt lt b a := by
  rcases O.tri a.fr b.fr with h | e | h
  · exact .inl (.inl h)
  · rcases O.tri a.to b.to with h | u | h
    · exact .inl (.inr ⟨e, .inl h⟩)
    · rcases Int.lt_trichotomy a.day b.day with h | h | h
      · exact .inl (.inr ⟨e, .inr ⟨u, h⟩⟩)
      · exact .inr (.inl ⟨e, u, h⟩)
      · exact .inr (.inr (.inr ⟨e.symm, .inr ⟨u.symm, h⟩⟩))
    · exact .inr (.inr (.inr ⟨e.symm, .inl h⟩))
  · exact .inr (.inr (.inl h))
theorem Qlt.not_same {lt : σ → σ → Prop} (O : Ordr lt) {a b : Qt σ ρ} (h : Qlt lt a b) : ¬ Qt.Same a b := fun hs => by
  rcases h with h | ⟨-, h | ⟨-, h⟩⟩
  · rw [hs.1] at h; exact O.irr _ h
  · rw [hs.2.1] at h; exact O.irr _ h
  · have := hs.2.2; omega
/-- A list in order has no two of one key. -/
theorem uq_of_sorted {lt : σ → σ → Prop} (O : Ordr lt) : ∀ {T : List (Qt σ ρ)}, T.Pairwise (Qlt lt) → Uq T
  | [], _ => fun a ha => absurd ha (by simp)
  | x :: T, h => fun a ha b hb hs => by
    rw [List.pairwise_cons] at h
    rcases List.mem_cons.1 ha with ea | ha' <;> rcases List.mem_cons.1 hb with eb | hb'
    · exact ea.trans eb.symm
    · subst ea; exact absurd hs (Qlt.not_same O (h.1 b hb'))
    · subst eb; exact absurd hs.symm (Qlt.not_same O (h.1 a ha'))
    · exact uq_of_sorted O h.2 a ha' b hb' hs
/-- In order, and with the same in them: they are one. -/
theorem quotes_unique {lt : σ → σ → Prop} (O : Ordr lt) {l m : List (Qt σ ρ)} (hl : l.Pairwise (Qlt lt)) (hm : m.Pairwise (Qlt lt)) (h : ∀ x, x ∈ l ↔ x ∈ m) : l = m :=
  sorted_unique (Qlt.irr O) (fun a b h => Qlt.asymm O h) hl hm h
/-- Two lists in order, put together so far. -/
structure Mg {α : Type} (r : α → α → Prop) (a b : List α) (i k : Nat) (out : List α) : Prop where
  len : out.length = i + k
  ha : i ≤ a.length
  hb : k ≤ b.length
  mem : ∀ x, x ∈ out ↔ x ∈ a.take i ∨ x ∈ b.take k
  srt : out.Pairwise r
  lowA : ∀ x ∈ out, ∀ y ∈ a.drop i, r x y
  lowB : ∀ x ∈ out, ∀ y ∈ b.drop k, r x y
theorem Mg.start {α : Type} (r : α → α → Prop) (a b : List α) : Mg r a b 0 0 [] :=
  ⟨rfl, Nat.zero_le _, Nat.zero_le _, fun x => by simp, List.Pairwise.nil, fun x hx => absurd hx (by simp), fun x hx => absurd hx (by simp)⟩
theorem drop_at {α : Type} {l : List α} {i : Nat} {x : α} (h : l[i]? = some x) : l.drop i = x :: l.drop (i + 1) := by
  have hi : i < l.length := by
    rcases Nat.lt_or_ge i l.length with h' | h'
    · exact h'
    · rw [List.getElem?_eq_none h'] at h; cases h
  rw [List.getElem?_eq_getElem hi] at h
  rw [List.drop_eq_getElem_cons hi, Option.some.inj h]
theorem take_at {α : Type} {l : List α} {i : Nat} {x : α} (h : l[i]? = some x) : l.take (i + 1) = l.take i ++ [x] := by
  have hi : i < l.length := by
    rcases Nat.lt_or_ge i l.length with h' | h'
    · exact h'
    · rw [List.getElem?_eq_none h'] at h; cases h
  rw [List.getElem?_eq_getElem hi] at h
  rw [List.take_succ_eq_append_getElem hi, Option.some.inj h]
theorem lt_of_at {α : Type} {l : List α} {i : Nat} {x : α} (h : l[i]? = some x) : i < l.length := by
  rcases Nat.lt_or_ge i l.length with h' | h'
  · exact h'
  · rw [List.getElem?_eq_none h'] at h; cases h
theorem Mg.left {α : Type} {r : α → α → Prop} (tr : ∀ a b c, r a b → r b c → r a c) {a b : List α} {i k : Nat} {out : List α} (h : Mg r a b i k out) (pa : a.Pairwise r) (pb : b.Pairwise r) {x y : α} (hx : a[i]? = some x) (hy : b[k]? = some y) (hxy : r x y) : Mg r a b (i + 1) k (out ++ [x]) := by
  have ea := drop_at hx
  have eb := drop_at hy
  have hpa : (x :: a.drop (i + 1)).Pairwise r := by rw [← ea]; exact pa.sublist (List.drop_sublist _ _)
  have hpb : (y :: b.drop (k + 1)).Pairwise r := by rw [← eb]; exact pb.sublist (List.drop_sublist _ _)
  rw [List.pairwise_cons] at hpa hpb
  refine ⟨by rw [List.length_append, h.len]; simp; omega, lt_of_at hx, h.hb, fun z => ?_, ?_, fun z hz w hw => ?_, fun z hz w hw => ?_⟩
  · rw [List.mem_append, h.mem z, take_at hx, List.mem_append]
    constructor
    · rintro ((h1 | h1) | h1)
      · exact .inl (.inl h1)
      · exact .inr h1
      · exact .inl (.inr h1)
    · rintro ((h1 | h1) | h1)
      · exact .inl (.inl h1)
      · exact .inr h1
      · exact .inl (.inr h1)
  · rw [List.pairwise_append]
    refine ⟨h.srt, by simp, fun z hz w hw => ?_⟩
    rw [List.mem_singleton] at hw
    subst hw
    exact h.lowA z hz w (by rw [ea]; simp)
  · rcases List.mem_append.1 hz with hz | hz
    · exact h.lowA z hz w (by rw [ea]; exact List.mem_cons_of_mem _ hw)
    · rw [List.mem_singleton] at hz
      subst hz
      exact hpa.1 w hw
  · rcases List.mem_append.1 hz with hz | hz
    · exact h.lowB z hz w hw
    · rw [List.mem_singleton] at hz
      subst hz
      rw [eb] at hw
      rcases List.mem_cons.1 hw with rfl | hw
      · exact hxy
      · exact tr _ _ _ hxy (hpb.1 w hw)
theorem Mg.right {α : Type} {r : α → α → Prop} (tr : ∀ a b c, r a b → r b c → r a c) {a b : List α} {i k : Nat} {out : List α} (h : Mg r a b i k out) (pa : a.Pairwise r) (pb : b.Pairwise r) {y : α} (hy : b[k]? = some y) (hno : ∀ x, a[i]? = some x → r y x) : Mg r a b i (k + 1) (out ++ [y]) := by
  have eb := drop_at hy
  have hpb : (y :: b.drop (k + 1)).Pairwise r := by rw [← eb]; exact pb.sublist (List.drop_sublist _ _)
  rw [List.pairwise_cons] at hpb
  refine ⟨by rw [List.length_append, h.len]; simp; omega, h.ha, lt_of_at hy, fun z => ?_, ?_, fun z hz w hw => ?_, fun z hz w hw => ?_⟩
  · rw [List.mem_append, h.mem z, take_at hy, List.mem_append]
    constructor
    · rintro ((h1 | h1) | h1)
      · exact .inl h1
      · exact .inr (.inl h1)
      · exact .inr (.inr h1)
    · rintro (h1 | h1 | h1)
      · exact .inl (.inl h1)
      · exact .inl (.inr h1)
      · exact .inr h1
  · rw [List.pairwise_append]
    refine ⟨h.srt, by simp, fun z hz w hw => ?_⟩
    rw [List.mem_singleton] at hw
    subst hw
    exact h.lowB z hz w (by rw [eb]; simp)
  · rcases List.mem_append.1 hz with hz | hz
    · exact h.lowA z hz w hw
    · rw [List.mem_singleton] at hz
      subst hz
      cases hx : a[i]? with
      | none =>
        have : a.drop i = [] := List.drop_eq_nil_of_le (by
          rcases Nat.lt_or_ge i a.length with h' | h'
          · rw [List.getElem?_eq_getElem h'] at hx; cases hx
          · exact h')
        rw [this] at hw
        cases hw
      | some x =>
        have ea := drop_at hx
        have hpa : (x :: a.drop (i + 1)).Pairwise r := by rw [← ea]; exact pa.sublist (List.drop_sublist _ _)
        rw [List.pairwise_cons] at hpa
        rw [ea] at hw
        rcases List.mem_cons.1 hw with rfl | hw
        · exact hno _ hx
        · exact tr _ _ _ (hno _ hx) (hpa.1 w hw)
  · rcases List.mem_append.1 hz with hz | hz
    · exact h.lowB z hz w (by rw [eb]; exact List.mem_cons_of_mem _ hw)
    · rw [List.mem_singleton] at hz
      subst hz
      exact hpb.1 w hw
/-- All of them, in order. -/
theorem Mg.done {α : Type} {r : α → α → Prop} {a b : List α} {i : Nat} {out : List α} (h : Mg r a b i b.length out) (pa : a.Pairwise r) : (out ++ a.drop i).Pairwise r ∧ (∀ x, x ∈ out ++ a.drop i ↔ x ∈ a ∨ x ∈ b) ∧ (out ++ a.drop i).length = a.length + b.length := by
  refine ⟨?_, fun x => ?_, ?_⟩
  · rw [List.pairwise_append]
    exact ⟨h.srt, pa.sublist (List.drop_sublist _ _), fun z hz w hw => h.lowA z hz w hw⟩
  · rw [List.mem_append, h.mem x, List.take_length]
    constructor
    · rintro ((h1 | h1) | h1)
      · exact .inl (List.mem_of_mem_take h1)
      · exact .inr h1
      · exact .inl (List.mem_of_mem_drop h1)
    · rintro (h1 | h1)
      · rw [← List.take_append_drop i a] at h1
        rcases List.mem_append.1 h1 with h1 | h1
        · exact .inl (.inl h1)
        · exact .inr h1
      · exact .inl (.inr h1)
  · rw [List.length_append, h.len, List.length_drop]
    have := h.ha
    omega
end Go.Proofs.YtmhfoeooccppfaaGreat
