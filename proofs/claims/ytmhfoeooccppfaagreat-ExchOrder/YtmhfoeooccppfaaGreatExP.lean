/-
  Quotes: which is the newest of two currencies on a day; what one more changes; the newest day and how many ways are quoted on it. Plain Lean.
-/
import Derived.Test.YtmhfoeooccppfaaGreatRows
namespace Go.Proofs.YtmhfoeooccppfaaGreat
set_option linter.unusedVariables false
/-- A quote. -/
structure Qt (σ ρ : Type) where
  fr : σ
  to : σ
  day : Int
  rate : ρ
variable {σ ρ : Type}
namespace Qt
/-- Are they of one key? -/
def Same (a b : Qt σ ρ) : Prop := a.fr = b.fr ∧ a.to = b.to ∧ a.day = b.day
theorem Same.refl (a : Qt σ ρ) : Same a a := ⟨rfl, rfl, rfl⟩
theorem Same.symm {a b : Qt σ ρ} (h : Same a b) : Same b a := ⟨h.1.symm, h.2.1.symm, h.2.2.symm⟩
theorem Same.trans {a b c : Qt σ ρ} (h : Same a b) (g : Same b c) : Same a c := ⟨h.1.trans g.1, h.2.1.trans g.2.1, h.2.2.trans g.2.2⟩
/-- Is it of these two, either way? -/
def On (f t : σ) (q : Qt σ ρ) : Prop := q.fr = f ∧ q.to = t ∨ q.fr = t ∧ q.to = f
theorem On.swap {f t : σ} {q : Qt σ ρ} (h : On f t q) : On t f q := Or.symm h
end Qt
/-- No two of one key. -/
def Uq (T : List (Qt σ ρ)) : Prop := ∀ a ∈ T, ∀ b ∈ T, Qt.Same a b → a = b
/-- The quote that tells the rate from f to t on a day. -/
structure Bst (T : List (Qt σ ρ)) (f t : σ) (d : Int) (q : Qt σ ρ) : Prop where
  mem : q ∈ T
  on : q.On f t
  day : q.day ≤ d
  best : ∀ p ∈ T, p.On f t → p.day ≤ d → p.day < q.day ∨ p.day = q.day ∧ (q.fr = f ∨ p.fr ≠ f)
theorem Bst.unique {T : List (Qt σ ρ)} (hU : Uq T) {f t : σ} (hft : f ≠ t) {d : Int} {q p : Qt σ ρ} (hq : Bst T f t d q) (hp : Bst T f t d p) : q = p := by
  have h1 := hq.best p hp.mem hp.on hp.day
  have h2 := hp.best q hq.mem hq.on hq.day
  have hd : q.day = p.day := by omega
  have e1 : q.fr = f ∨ p.fr ≠ f := by
    rcases h1 with h | h
    · omega
    · exact h.2
  have e2 : p.fr = f ∨ q.fr ≠ f := by
    rcases h2 with h | h
    · omega
    · exact h.2
  refine hU q hq.mem p hp.mem ?_
  have hqo := hq.on
  have hpo := hp.on
  rcases hqo with ⟨a, b⟩ | ⟨a, b⟩ <;> rcases hpo with ⟨c, e⟩ | ⟨c, e⟩
  · exact ⟨a.trans c.symm, b.trans e.symm, hd⟩
  · rcases e2 with h | h
    · exact absurd (h.symm.trans c) hft
    · exact absurd a h
  · rcases e1 with h | h
    · exact absurd (h.symm.trans a) hft
    · exact absurd c h
  · exact ⟨a.trans c.symm, b.trans e.symm, hd⟩
/-- There is one, or none is old enough. -/
theorem bst_or (T : List (Qt σ ρ)) (f t : σ) (d : Int) : (∃ q, Bst T f t d q) ∨ ∀ q ∈ T, q.On f t → d < q.day := by
  induction T with
  | nil => exact .inr (fun q h => by cases h)
  | cons x T ih =>
    by_cases hx : x.On f t ∧ x.day ≤ d
    · rcases ih with ⟨q, hq⟩ | hn
      · by_cases hb : x.day < q.day ∨ x.day = q.day ∧ (q.fr = f ∨ x.fr ≠ f)
        · refine .inl ⟨q, List.mem_cons_of_mem _ hq.mem, hq.on, hq.day, fun p hp ho hd => ?_⟩
          rcases List.mem_cons.1 hp with rfl | hp
          · exact hb
          · exact hq.best p hp ho hd
        · refine .inl ⟨x, List.mem_cons_self, hx.1, hx.2, fun p hp ho hd => ?_⟩
          rcases List.mem_cons.1 hp with rfl | hp
          · by_cases e : p.fr = f
            · exact .inr ⟨rfl, .inl e⟩
            · exact .inr ⟨rfl, .inr e⟩
          · have h1 := hq.best p hp ho hd
            have h2 : ¬ x.day < q.day := fun h => hb (.inl h)
            by_cases e : x.day = q.day
            · have h3 : q.fr ≠ f ∧ x.fr = f := by
                refine ⟨fun h => hb (.inr ⟨e, .inl h⟩), ?_⟩
                by_cases g : x.fr = f
                · exact g
                · exact absurd (.inr ⟨e, .inr g⟩) hb
              rcases h1 with h1 | h1
              · exact .inl (by omega)
              · exact .inr ⟨by omega, .inl h3.2⟩
            · rcases h1 with h1 | h1
              · exact .inl (by omega)
              · exact .inl (by omega)
      · refine .inl ⟨x, List.mem_cons_self, hx.1, hx.2, fun p hp ho hd => ?_⟩
        rcases List.mem_cons.1 hp with rfl | hp
        · by_cases e : p.fr = f
          · exact .inr ⟨rfl, .inl e⟩
          · exact .inr ⟨rfl, .inr e⟩
        · have := hn p hp ho
          omega
    · rcases ih with ⟨q, hq⟩ | hn
      · refine .inl ⟨q, List.mem_cons_of_mem _ hq.mem, hq.on, hq.day, fun p hp ho hd => ?_⟩
        rcases List.mem_cons.1 hp with rfl | hp
        · exact absurd ⟨ho, hd⟩ hx
        · exact hq.best p hp ho hd
      · refine .inr (fun q hq ho => ?_)
        rcases List.mem_cons.1 hq with rfl | hq
        · by_cases hd : q.day ≤ d
          · exact absurd ⟨ho, hd⟩ hx
          · omega
        · exact hn q hq ho
theorem Bst.there {T : List (Qt σ ρ)} {f t : σ} {d : Int} {q : Qt σ ρ} (h : Bst T f t d q) : ¬ ∀ p ∈ T, p.On f t → d < p.day := fun g => by
  have := g q h.mem h.on
  have := h.day
  omega
/-- Where there is a rate there is one back. -/
theorem Bst.back {T : List (Qt σ ρ)} {f t : σ} {d : Int} {q : Qt σ ρ} (h : Bst T f t d q) : ∃ p, Bst T t f d p := by
  rcases bst_or T t f d with h' | h'
  · exact h'
  · exact absurd (fun p hp ho => h' p hp ho.swap) h.there
theorem none_back {T : List (Qt σ ρ)} {f t : σ} {d : Int} (h : ∀ p ∈ T, p.On f t → d < p.day) : ∀ p ∈ T, p.On t f → d < p.day := fun p hp ho => h p hp ho.swap
theorem Bst.days {T : List (Qt σ ρ)} {f t : σ} {d : Int} {q p : Qt σ ρ} (h : Bst T f t d q) (g : Bst T t f d p) : q.day = p.day := by
  have h1 := h.best p g.mem g.on.swap g.day
  have h2 := g.best q h.mem h.on.swap h.day
  omega
/-- On its own day it tells the rate too, and on each day up to the next. -/
theorem Bst.then {T : List (Qt σ ρ)} {f t : σ} {d e : Int} {q : Qt σ ρ} (h : Bst T f t d q) (h1 : q.day ≤ e) (h2 : e ≤ d) : Bst T f t e q :=
  ⟨h.mem, h.on, h1, fun p hp ho hd => h.best p hp ho (by omega)⟩
/-- What is told hangs on what is there alone. -/
theorem Bst.congr {T S : List (Qt σ ρ)} {f t : σ} {d : Int} (hTS : ∀ p : Qt σ ρ, p.On f t → p.day ≤ d → (p ∈ T ↔ p ∈ S)) {q : Qt σ ρ} (h : Bst T f t d q) : Bst S f t d q :=
  ⟨(hTS q h.on h.day).1 h.mem, h.on, h.day, fun p hp ho hd => h.best p ((hTS p ho hd).2 hp) ho hd⟩
/-- A table with one more. -/
def Pt (T : List (Qt σ ρ)) (q : Qt σ ρ) (S : List (Qt σ ρ)) : Prop := ∀ p, p ∈ S ↔ p = q ∨ (p ∈ T ∧ ¬ Qt.Same p q)
theorem Pt.uq {T S : List (Qt σ ρ)} {q : Qt σ ρ} (h : Pt T q S) (hU : Uq T) : Uq S := fun a ha b hb hs => by
  rcases (h a).1 ha with rfl | ⟨ha, na⟩ <;> rcases (h b).1 hb with rfl | ⟨hb, nb⟩
  · rfl
  · exact absurd hs.symm nb
  · exact absurd hs na
  · exact hU a ha b hb hs
theorem Pt.other {T S : List (Qt σ ρ)} {q : Qt σ ρ} (h : Pt T q S) {f t : σ} {d : Int} (hq : ¬ q.On f t ∨ d < q.day) : ∀ p : Qt σ ρ, p.On f t → p.day ≤ d → (p ∈ T ↔ p ∈ S) := fun p ho hd => by
  have hn : ¬ Qt.Same p q := fun hs => by
    rcases hq with hq | hq
    · exact hq (by
        rcases ho with ⟨a, b⟩ | ⟨a, b⟩
        · exact .inl ⟨hs.1.symm.trans a, hs.2.1.symm.trans b⟩
        · exact .inr ⟨hs.1.symm.trans a, hs.2.1.symm.trans b⟩)
    · have := hs.2.2; omega
  rw [h p]
  constructor
  · exact fun hp => .inr ⟨hp, hn⟩
  · rintro (rfl | ⟨hp, -⟩)
    · exact absurd (Qt.Same.refl _) hn
    · exact hp
/-- What was put tells its own rate on its own day, that way. -/
theorem Pt.told {T S : List (Qt σ ρ)} {q : Qt σ ρ} (h : Pt T q S) : Bst S q.fr q.to q.day q := by
  refine ⟨(h q).2 (.inl rfl), .inl ⟨rfl, rfl⟩, Int.le_refl _, fun p hp ho hd => ?_⟩
  by_cases e : p.day = q.day
  · exact .inr ⟨e, .inl rfl⟩
  · exact .inl (by omega)
/-- Two that are put one behind the other, of unlike keys. -/
theorem Pt.comm {T S S' R R' : List (Qt σ ρ)} {a b : Qt σ ρ} (hab : ¬ Qt.Same a b) (h1 : Pt T a S) (h2 : Pt S b R) (g1 : Pt T b S') (g2 : Pt S' a R') : ∀ p, p ∈ R ↔ p ∈ R' := fun p => by
  rw [h2 p, g2 p, h1 p, g1 p]
  constructor
  · rintro (rfl | ⟨rfl | ⟨hp, na⟩, nb⟩)
    · exact .inr ⟨.inl rfl, fun h => hab h.symm⟩
    · exact .inl rfl
    · exact .inr ⟨.inr ⟨hp, nb⟩, na⟩
  · rintro (rfl | ⟨rfl | ⟨hp, nb⟩, na⟩)
    · exact .inr ⟨.inl rfl, hab⟩
    · exact .inl rfl
    · exact .inr ⟨.inr ⟨hp, na⟩, nb⟩
/-- In order lists with the same in them are one. -/
theorem sorted_unique {α : Type} {r : α → α → Prop} (hi : ∀ a, ¬ r a a) (ht : ∀ a b, r a b → ¬ r b a) : ∀ {l m : List α}, l.Pairwise r → m.Pairwise r → (∀ x, x ∈ l ↔ x ∈ m) → l = m
  | [], [], _, _, _ => rfl
  | [], y :: m, _, _, h => absurd ((h y).2 List.mem_cons_self) (by simp)
  | x :: l, [], _, _, h => absurd ((h x).1 List.mem_cons_self) (by simp)
  | x :: l, y :: m, hl, hm, h => by
    rw [List.pairwise_cons] at hl hm
    have e : x = y := by
      rcases List.mem_cons.1 ((h x).1 List.mem_cons_self) with e | h1
      · exact e
      · rcases List.mem_cons.1 ((h y).2 List.mem_cons_self) with e | h2
        · exact e.symm
        · exact absurd (hl.1 y h2) (ht _ _ (hm.1 x h1))
    subst e
    have hx1 : x ∉ l := fun h => hi x (hl.1 x h)
    have hx2 : x ∉ m := fun h => hi x (hm.1 x h)
    rw [sorted_unique hi ht hl.2 hm.2 (fun z => by
      constructor
      · intro hz
        rcases List.mem_cons.1 ((h z).1 (List.mem_cons_of_mem _ hz)) with rfl | h1
        · exact absurd hz hx1
        · exact h1
      · intro hz
        rcases List.mem_cons.1 ((h z).2 (List.mem_cons_of_mem _ hz)) with rfl | h1
        · exact absurd hz hx2
        · exact h1)]
/-- The newest day that is quoted, and how many quotes there are of it: what a loop over the quotes makes, so far. -/
structure Nw (f t : σ) (d : Int) (T : List (Qt σ ρ)) (n : Int) (l : List (Qt σ ρ)) : Prop where
  is : ∀ p, p ∈ l ↔ p ∈ T ∧ p.On f t ∧ p.day ≤ d ∧ p.day = n
  top : ∀ p ∈ T, p.On f t → p.day ≤ d → p.day ≤ n
  sub : l.Sublist T
  none : l = [] → n = -1
theorem Nw.start (f t : σ) (d : Int) : Nw f t d ([] : List (Qt σ ρ)) (-1) [] := ⟨fun p => (by simp), fun p hp => absurd hp (by simp), List.Sublist.refl _, fun _ => rfl⟩
theorem Nw.skip {f t : σ} {d n : Int} {T l : List (Qt σ ρ)} (h : Nw f t d T n l) {q : Qt σ ρ} (hq : ¬ (q.On f t ∧ q.day ≤ d)) : Nw f t d (T ++ [q]) n l := by
  refine ⟨fun p => ?_, fun p hp ho hd => ?_, h.sub.trans (List.sublist_append_left _ _), h.none⟩
  · rw [h.is p, List.mem_append, List.mem_singleton]
    constructor
    · exact fun ⟨a, b⟩ => ⟨.inl a, b⟩
    · rintro ⟨a | rfl, b⟩
      · exact ⟨a, b⟩
      · exact absurd ⟨b.1, b.2.1⟩ hq
  · rcases List.mem_append.1 hp with hp | hp
    · exact h.top p hp ho hd
    · rw [List.mem_singleton] at hp
      subst hp
      exact absurd ⟨ho, hd⟩ hq
theorem Nw.old {f t : σ} {d n : Int} {T l : List (Qt σ ρ)} (h : Nw f t d T n l) {q : Qt σ ρ} (hq : q.day < n) : Nw f t d (T ++ [q]) n l := by
  refine ⟨fun p => ?_, fun p hp ho hd => ?_, h.sub.trans (List.sublist_append_left _ _), h.none⟩
  · rw [h.is p, List.mem_append, List.mem_singleton]
    constructor
    · exact fun ⟨a, b⟩ => ⟨.inl a, b⟩
    · rintro ⟨a | rfl, b⟩
      · exact ⟨a, b⟩
      · have := b.2.2; omega
  · rcases List.mem_append.1 hp with hp | hp
    · exact h.top p hp ho hd
    · rw [List.mem_singleton] at hp
      subst hp
      omega
theorem Nw.more {f t : σ} {d n : Int} {T l : List (Qt σ ρ)} (h : Nw f t d T n l) {q : Qt σ ρ} (hq : q.On f t) (hd : q.day ≤ d) (hn : q.day = n) : Nw f t d (T ++ [q]) n (l ++ [q]) := by
  refine ⟨fun p => ?_, fun p hp ho hd => ?_, h.sub.append (List.Sublist.refl _), fun e => by simp at e⟩
  · rw [List.mem_append, List.mem_append, List.mem_singleton, h.is p]
    constructor
    · rintro (⟨a, b⟩ | rfl)
      · exact ⟨.inl a, b⟩
      · exact ⟨.inr rfl, hq, hd, hn⟩
    · rintro ⟨a | rfl, b⟩
      · exact .inl ⟨a, b⟩
      · exact .inr rfl
  · rcases List.mem_append.1 hp with hp | hp
    · exact h.top p hp ho hd
    · rw [List.mem_singleton] at hp
      subst hp
      omega
theorem Nw.newer {f t : σ} {d n : Int} {T l : List (Qt σ ρ)} (h : Nw f t d T n l) {q : Qt σ ρ} (hq : q.On f t) (hd : q.day ≤ d) (hn : n < q.day) : Nw f t d (T ++ [q]) q.day [q] := by
  refine ⟨fun p => ?_, fun p hp ho hd => ?_, List.sublist_append_right _ _, fun e => by simp at e⟩
  · rw [List.mem_append, List.mem_singleton]
    constructor
    · rintro rfl
      exact ⟨.inr rfl, hq, hd, rfl⟩
    · rintro ⟨a | rfl, b⟩
      · have := h.top p a b.1 b.2.1
        omega
      · rfl
  · rcases List.mem_append.1 hp with hp | hp
    · have := h.top p hp ho hd
      omega
    · rw [List.mem_singleton] at hp
      subst hp
      omega
/-- Where there is a rate the newest day is its quote's. -/
theorem Nw.day {f t : σ} {d n : Int} {T l : List (Qt σ ρ)} (h : Nw f t d T n l) (h0 : ∀ p ∈ T, 0 ≤ p.day) {q : Qt σ ρ} (hq : Bst T f t d q) : n = q.day ∧ q ∈ l := by
  have h1 := h.top q hq.mem hq.on hq.day
  have h2 := h0 q hq.mem
  have hne : l ≠ [] := fun e => by have := h.none e; omega
  obtain ⟨p, hp⟩ := List.exists_mem_of_ne_nil l hne
  obtain ⟨a, b, c, e⟩ := (h.is p).1 hp
  have h3 := hq.best p a b c
  have e2 : n = q.day := by omega
  exact ⟨e2, (h.is q).2 ⟨hq.mem, hq.on, hq.day, e2.symm⟩⟩
theorem two_of {α : Type} {a b : α} : ∀ {l : List α}, l.Nodup → (∀ x ∈ l, x = a ∨ x = b) → l.length ≤ 2
  | [], _, _ => by simp
  | [x], _, _ => by simp
  | [x, y], _, _ => by simp
  | x :: y :: z :: l, hn, h => by
    exfalso
    simp only [List.nodup_cons, List.mem_cons, not_or] at hn
    have hx := h x (by simp)
    have hy := h y (by simp)
    have hz := h z (by simp)
    obtain ⟨⟨xy, xz, -⟩, ⟨yz, -⟩, -⟩ := hn
    rcases hx with rfl | rfl <;> rcases hy with rfl | rfl <;> rcases hz with rfl | rfl <;> simp_all
/-- Just one way is quoted, and both rates are of one quote, or both ways are. -/
theorem Nw.ways {f t : σ} {d n : Int} {T l : List (Qt σ ρ)} (h : Nw f t d T n l) (hU : Uq T) (hN : T.Nodup) (hft : f ≠ t) (h0 : ∀ p ∈ T, 0 ≤ p.day) {q p : Qt σ ρ} (hq : Bst T f t d q) (hp : Bst T t f d p) : l.length = 2 ∨ q = p := by
  obtain ⟨e1, m1⟩ := h.day h0 hq
  have e2 := hq.days hp
  have m2 : p ∈ l := (h.is p).2 ⟨hp.mem, hp.on.swap, hp.day, by omega⟩
  have hnd : l.Nodup := List.Nodup.sublist h.sub hN
  by_cases e : q = p
  · exact .inr e
  · refine .inl ?_
    have hle : l.length ≤ 2 := two_of (a := q) (b := p) hnd (fun x hx => by
      obtain ⟨a, b, c, g⟩ := (h.is x).1 hx
      have hqo := hq.on
      have hpo := hp.on
      rcases b with b | b <;> rcases hqo with o | o <;> rcases hpo with r | r
      · exact .inl (hU x a q hq.mem ⟨b.1.trans o.1.symm, b.2.trans o.2.symm, by omega⟩)
      · exact .inl (hU x a q hq.mem ⟨b.1.trans o.1.symm, b.2.trans o.2.symm, by omega⟩)
      · exact absurd (hU q hq.mem p hp.mem ⟨o.1.trans r.1.symm, o.2.trans r.2.symm, by omega⟩) e
      · exact .inr (hU x a p hp.mem ⟨b.1.trans r.1.symm, b.2.trans r.2.symm, by omega⟩)
      · exact .inr (hU x a p hp.mem ⟨b.1.trans r.1.symm, b.2.trans r.2.symm, by omega⟩)
      · exact absurd (hU q hq.mem p hp.mem ⟨o.1.trans r.1.symm, o.2.trans r.2.symm, by omega⟩) e
      · exact .inl (hU x a q hq.mem ⟨b.1.trans o.1.symm, b.2.trans o.2.symm, by omega⟩)
      · exact .inl (hU x a q hq.mem ⟨b.1.trans o.1.symm, b.2.trans o.2.symm, by omega⟩))
    have hge : 2 ≤ l.length := by
      rcases l with _ | ⟨x, _ | ⟨y, l⟩⟩
      · cases m1
      · simp at m1 m2
        exact absurd (m1.trans m2.symm) e
      · simp
    omega
end Go.Proofs.YtmhfoeooccppfaaGreat
