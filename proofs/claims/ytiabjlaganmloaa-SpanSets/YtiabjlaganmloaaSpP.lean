/-
  Sets of days in numbers: spans as pairs, the fewest spans of a set, which are told by its days alone; how many days there are; how many spans at most.
-/
import Derived.Test.YtiabjlaganmloaaRows
namespace Go.Proofs.Ytiabjlaganmloaa
set_option linter.unusedVariables false

/-- A span. -/
abbrev Pr := Int × Int
/-- A span that may be. -/
def May (p : Pr) : Prop := 0 ≤ p.1 ∧ p.1 < p.2 ∧ p.2 ≤ 3652059
/-- Is a day in one of some spans? -/
def inS (l : List Pr) (d : Int) : Prop := ∃ p ∈ l, p.1 ≤ d ∧ d < p.2
/-- The fewest spans of a set of days, rising. -/
def Few (l : List Pr) : Prop := (∀ p ∈ l, May p) ∧ l.Pairwise (fun p q => p.2 < q.1)

theorem inS_nil (d : Int) : ¬ inS [] d := fun ⟨p, h, _⟩ => by simp at h
theorem inS_cons {p : Pr} {l : List Pr} {d : Int} : inS (p :: l) d ↔ (p.1 ≤ d ∧ d < p.2) ∨ inS l d := by
  unfold inS; simp
theorem inS_append {a b : List Pr} {d : Int} : inS (a ++ b) d ↔ inS a d ∨ inS b d := by
  unfold inS
  constructor
  · rintro ⟨p, h, k⟩
    rcases List.mem_append.1 h with h | h
    · exact .inl ⟨p, h, k⟩
    · exact .inr ⟨p, h, k⟩
  · rintro (⟨p, h, k⟩ | ⟨p, h, k⟩)
    · exact ⟨p, List.mem_append.2 (.inl h), k⟩
    · exact ⟨p, List.mem_append.2 (.inr h), k⟩
theorem inS_perm {a b : List Pr} (h : a.Perm b) (d : Int) : inS a d ↔ inS b d :=
  ⟨fun ⟨p, m, k⟩ => ⟨p, h.mem_iff.1 m, k⟩, fun ⟨p, m, k⟩ => ⟨p, h.mem_iff.2 m, k⟩⟩
theorem Few.nil : Few [] := ⟨fun p h => by simp at h, List.Pairwise.nil⟩
theorem Few.tail {p : Pr} {l : List Pr} (h : Few (p :: l)) : Few l := ⟨fun q hq => h.1 q (List.mem_cons_of_mem _ hq), (List.pairwise_cons.1 h.2).2⟩
theorem Few.head {p : Pr} {l : List Pr} (h : Few (p :: l)) : May p := h.1 p (List.mem_cons_self ..)
theorem Few.next {p : Pr} {l : List Pr} (h : Few (p :: l)) {q : Pr} (hq : q ∈ l) : p.2 < q.1 := (List.pairwise_cons.1 h.2).1 q hq
theorem Few.lo {p : Pr} {l : List Pr} (h : Few (p :: l)) {d : Int} (hd : inS (p :: l) d) : p.1 ≤ d := by
  rcases inS_cons.1 hd with h1 | ⟨q, hq, h1, h2⟩
  · exact h1.1
  · have := h.next hq; have := h.head; unfold May at this; omega
theorem Few.later {p : Pr} {l : List Pr} (h : Few (p :: l)) {d : Int} (hd : inS l d) : p.2 < d := by
  obtain ⟨q, hq, h1, h2⟩ := hd
  have := h.next hq; omega
/-- Sets of the same days have the same spans. -/
theorem few_unique : ∀ {a b : List Pr}, Few a → Few b → (∀ d, inS a d ↔ inS b d) → a = b
  | [], [], _, _, _ => rfl
  | [], q :: b, _, hb, h => by
    have := hb.head; unfold May at this
    exact absurd ((h q.1).2 (inS_cons.2 (.inl ⟨Int.le_refl _, this.2.1⟩))) (inS_nil _)
  | p :: a, [], ha, _, h => by
    have := ha.head; unfold May at this
    exact absurd ((h p.1).1 (inS_cons.2 (.inl ⟨Int.le_refl _, this.2.1⟩))) (inS_nil _)
  | p :: a, q :: b, ha, hb, h => by
    have hp := ha.head; have hq := hb.head
    unfold May at hp hq
    have e1 : p.1 = q.1 := by
      have h1 := hb.lo ((h p.1).1 (inS_cons.2 (.inl ⟨Int.le_refl _, hp.2.1⟩)))
      have h2 := ha.lo ((h q.1).2 (inS_cons.2 (.inl ⟨Int.le_refl _, hq.2.1⟩)))
      omega
    have e2 : p.2 = q.2 := by
      rcases Int.lt_trichotomy p.2 q.2 with hlt | he | hlt
      · rcases inS_cons.1 ((h p.2).2 (inS_cons.2 (.inl ⟨by omega, hlt⟩))) with h1 | h1
        · omega
        · have := ha.later h1; omega
      · exact he
      · rcases inS_cons.1 ((h q.2).1 (inS_cons.2 (.inl ⟨by omega, hlt⟩))) with h1 | h1
        · omega
        · have := hb.later h1; omega
    have e : p = q := Prod.ext e1 e2
    subst e
    refine congrArg (p :: ·) (few_unique ha.tail hb.tail fun d => ?_)
    have := h d
    rw [inS_cons, inS_cons] at this
    constructor
    · intro h1
      rcases this.1 (.inr h1) with h2 | h2
      · have := ha.later h1; omega
      · exact h2
    · intro h1
      rcases this.2 (.inr h1) with h2 | h2
      · have := hb.later h1; omega
      · exact h2
theorem inS_range {l : List Pr} (h : ∀ p ∈ l, May p) {d : Int} (hd : inS l d) : 0 ≤ d ∧ d < 3652059 := by
  obtain ⟨p, hp, h1, h2⟩ := hd
  have := h p hp; unfold May at this; omega

/-- How many days, as the program adds them up. -/
def dys (l : List Pr) : Int := l.foldl (fun n p => n + (p.2 - p.1)) 0
theorem dys_from (l : List Pr) (n : Int) : l.foldl (fun n p => n + (p.2 - p.1)) n = n + dys l := by
  unfold dys
  induction l generalizing n with
  | nil => simp
  | cons p l ih => rw [List.foldl_cons, List.foldl_cons, ih, ih (0 + (p.2 - p.1))]; omega
theorem dys_nil : dys [] = 0 := rfl
theorem dys_cons (p : Pr) (l : List Pr) : dys (p :: l) = (p.2 - p.1) + dys l := by
  unfold dys; rw [List.foldl_cons, dys_from]; unfold dys; omega
theorem dys_snoc (l : List Pr) (p : Pr) : dys (l ++ [p]) = dys l + (p.2 - p.1) := by
  unfold dys; rw [List.foldl_append]; rfl
/-- How many of the first n days are wanted. -/
noncomputable def cnt (f : Int → Prop) : Nat → Int
  | 0 => 0
  | n + 1 => cnt f n + (open Classical in if f n then 1 else 0)
theorem cnt_congr {f g : Int → Prop} : ∀ n : Nat, (∀ d : Int, 0 ≤ d → d < n → (f d ↔ g d)) → cnt f n = cnt g n
  | 0, _ => rfl
  | n + 1, h => by
    have e : f n = g n := propext (h n (by omega) (by omega))
    unfold cnt; rw [cnt_congr n (fun d h1 h2 => h d h1 (by omega)), e]
theorem cnt_none {f : Int → Prop} : ∀ n : Nat, (∀ d : Int, 0 ≤ d → d < n → ¬ f d) → cnt f n = 0
  | 0, _ => rfl
  | n + 1, h => by unfold cnt; rw [cnt_none n (fun d h1 h2 => h d h1 (by omega)), if_neg (h n (by omega) (by omega))]; rfl
theorem cnt_or {f g : Int → Prop} (n : Nat) : cnt (fun d => f d ∨ g d) n + cnt (fun d => f d ∧ g d) n = cnt f n + cnt g n := by
  induction n with
  | zero => rfl
  | succ n ih =>
    unfold cnt
    by_cases h1 : f n <;> by_cases h2 : g n <;> simp [h1, h2] <;> omega
theorem cnt_parts {f g : Int → Prop} (n : Nat) : cnt (fun d => f d ∧ ¬ g d) n + cnt (fun d => f d ∧ g d) n + cnt (fun d => g d ∧ ¬ f d) n = cnt (fun d => f d ∨ g d) n := by
  induction n with
  | zero => rfl
  | succ n ih =>
    unfold cnt
    by_cases h1 : f n <;> by_cases h2 : g n <;> simp [h1, h2] <;> omega
theorem cnt_span (a b : Int) (ha : 0 ≤ a) (hab : a ≤ b) : ∀ n : Nat, cnt (fun d => a ≤ d ∧ d < b) n = if (n : Int) ≤ a then 0 else if (n : Int) ≤ b then n - a else b - a
  | 0 => by simp [cnt, ha]
  | n + 1 => by
    unfold cnt
    rw [cnt_span a b ha hab n]
    by_cases h : a ≤ (n : Int) ∧ (n : Int) < b
    · rw [if_pos h]; split <;> split <;> (try split) <;> (try split) <;> omega
    · rw [if_neg h]; split <;> split <;> (try split) <;> (try split) <;> omega
theorem dys_cnt : ∀ {l : List Pr}, Few l → dys l = cnt (inS l) 3652059
  | [], _ => by rw [dys_nil, cnt_none _ (fun d _ _ => inS_nil d)]
  | p :: l, h => by
    have hp := h.head; unfold May at hp
    have e1 : cnt (inS (p :: l)) 3652059 = cnt (fun d => (p.1 ≤ d ∧ d < p.2) ∨ inS l d) 3652059 := cnt_congr _ (fun d _ _ => inS_cons)
    have e2 := cnt_or (f := fun d => p.1 ≤ d ∧ d < p.2) (g := inS l) 3652059
    have e3 : cnt (fun d => (p.1 ≤ d ∧ d < p.2) ∧ inS l d) 3652059 = 0 := cnt_none _ (fun d _ _ hd => by have := h.later hd.2; omega)
    have e4 := cnt_span p.1 p.2 hp.1 (by omega) 3652059
    rw [dys_cons, dys_cnt h.tail, e1]
    rw [e3, e4] at e2
    have e5 : ((3652059 : Nat) : Int) = 3652059 := rfl
    rw [e5] at e2
    split at e2
    · omega
    · split at e2 <;> omega
theorem dys_nonneg {l : List Pr} (h : ∀ p ∈ l, May p) : 0 ≤ dys l := by
  induction l with
  | nil => simp [dys]
  | cons p l ih =>
    rw [dys_cons]
    have h1 := h p (List.mem_cons_self ..)
    have h2 := ih (fun q hq => h q (List.mem_cons_of_mem _ hq))
    unfold May at h1; omega
theorem dys_le {l : List Pr} (h : ∀ p ∈ l, May p) : dys l ≤ 3652059 * l.length := by
  induction l with
  | nil => simp [dys]
  | cons p l ih =>
    rw [dys_cons, List.length_cons]
    have h1 := h p (List.mem_cons_self ..)
    have h2 := ih (fun q hq => h q (List.mem_cons_of_mem _ hq))
    unfold May at h1; omega

/-- A list without twins is no longer than one that has all that it has. -/
theorem length_le_of_mem : ∀ {a b : List Int}, a.Nodup → (∀ x ∈ a, x ∈ b) → a.length ≤ b.length
  | [], b, _, _ => by simp
  | x :: a, b, h, hm => by
    have hx := hm x (List.mem_cons_self ..)
    have hn := List.nodup_cons.1 h
    have := length_le_of_mem (a := a) (b := b.erase x) hn.2 (fun y hy => by
      have hy' := hm y (List.mem_cons_of_mem _ hy)
      exact (List.mem_erase_of_ne (fun e => hn.1 (by rw [← e]; exact hy))).2 hy')
    rw [List.length_erase_of_mem hx] at this
    have := List.length_pos_of_mem hx
    simp only [List.length_cons]; omega
theorem Few.starts {l : List Pr} (h : Few l) : (l.map (·.1)).Nodup := by
  induction l with
  | nil => simp
  | cons p l ih =>
    rw [List.map_cons, List.nodup_cons]
    refine ⟨fun hm => ?_, ih h.tail⟩
    obtain ⟨q, hq, e⟩ := List.mem_map.1 hm
    have := h.next hq; have := h.head; unfold May at this; omega
/-- Ahead of where a span begins there is a day that the set does not have. -/
theorem Few.ahead : ∀ {l : List Pr}, Few l → ∀ p ∈ l, ¬ inS l (p.1 - 1)
  | [], _, p, hp, _ => by simp at hp
  | q :: l, h, p, hp, hd => by
    rcases List.mem_cons.1 hp with rfl | hp
    · have := h.lo hd; omega
    · rcases inS_cons.1 hd with h1 | h1
      · have := h.next hp; omega
      · exact h.tail.ahead p hp h1
/-- How many spans: each begins where one of some numbers says. -/
theorem few_length {l : List Pr} (h : Few l) (b : List Int) (hb : ∀ d, inS l d → ¬ inS l (d - 1) → d ∈ b) : l.length ≤ b.length := by
  have := length_le_of_mem (a := l.map (·.1)) (b := b) h.starts (fun x hx => by
    obtain ⟨p, hp, rfl⟩ := List.mem_map.1 hx
    have hm := h.1 p hp; unfold May at hm
    exact hb p.1 ⟨p, hp, Int.le_refl _, hm.2.1⟩ (h.ahead p hp))
  simpa using this
/-- A day that a list has, the one ahead not: a span begins there. -/
theorem start_of {l : List Pr} {d : Int} (h : inS l d) (h1 : ¬ inS l (d - 1)) : d ∈ l.map (·.1) := by
  obtain ⟨p, hp, h2, h3⟩ := h
  have : p.1 = d := by
    rcases Int.lt_or_eq_of_le h2 with h4 | h4
    · exact absurd ⟨p, hp, by omega, by omega⟩ h1
    · exact h4
  exact List.mem_map.2 ⟨p, hp, this⟩
/-- A day that a list does not have, the one ahead is its: a span ends there. -/
theorem end_of {l : List Pr} {d : Int} (h : ¬ inS l d) (h1 : inS l (d - 1)) : d ∈ l.map (·.2) := by
  obtain ⟨p, hp, h2, h3⟩ := h1
  have : p.2 = d := by
    rcases Int.lt_or_eq_of_le (show d ≤ p.2 by omega) with h4 | h4
    · exact absurd ⟨p, hp, by omega, by omega⟩ h
    · exact h4.symm
  exact List.mem_map.2 ⟨p, hp, this⟩
theorem length_or {a b l : List Pr} (h : Few l) (e : ∀ d, inS l d ↔ inS a d ∨ inS b d) : l.length ≤ a.length + b.length := by
  have := few_length h (a.map (·.1) ++ b.map (·.1)) (fun d h1 h2 => by
    rw [e] at h1 h2
    rcases h1 with h1 | h1
    · exact List.mem_append.2 (.inl (start_of h1 (fun k => h2 (.inl k))))
    · exact List.mem_append.2 (.inr (start_of h1 (fun k => h2 (.inr k)))))
  simpa using this
theorem length_and {a b l : List Pr} (h : Few l) (e : ∀ d, inS l d ↔ inS a d ∧ inS b d) : l.length ≤ a.length + b.length := by
  have := few_length h (a.map (·.1) ++ b.map (·.1)) (fun d h1 h2 => by
    rw [e] at h1 h2
    by_cases h3 : inS a (d - 1)
    · exact List.mem_append.2 (.inr (start_of h1.2 (fun k => h2 ⟨h3, k⟩)))
    · exact List.mem_append.2 (.inl (start_of h1.1 h3)))
  simpa using this
theorem length_minus {a b l : List Pr} (h : Few l) (e : ∀ d, inS l d ↔ inS a d ∧ ¬ inS b d) : l.length ≤ a.length + b.length := by
  have := few_length h (a.map (·.1) ++ b.map (·.2)) (fun d h1 h2 => by
    rw [e] at h1 h2
    by_cases h3 : inS a (d - 1)
    · by_cases h4 : inS b (d - 1)
      · exact List.mem_append.2 (.inr (end_of h1.2 h4))
      · exact absurd ⟨h3, h4⟩ h2
    · exact List.mem_append.2 (.inl (start_of h1.1 h3)))
  simpa using this

/-- What is gathered when a span is put to those that are there, none of which begins behind it. -/
def mrg (acc : List Pr) (s : Pr) : List Pr :=
  match acc.getLast? with
  | none => [s]
  | some q => if s.1 ≤ q.2 then acc.dropLast ++ [(q.1, max q.2 s.2)] else acc ++ [s]
theorem few_snoc {l : List Pr} {s : Pr} : Few (l ++ [s]) ↔ Few l ∧ May s ∧ ∀ p ∈ l, p.2 < s.1 := by
  unfold Few
  rw [List.pairwise_append]
  constructor
  · rintro ⟨h1, h2, h3, h4⟩
    exact ⟨⟨fun p hp => h1 p (List.mem_append.2 (.inl hp)), h2⟩, h1 s (List.mem_append.2 (.inr (List.mem_singleton.2 rfl))), fun p hp => h4 p hp s (List.mem_singleton.2 rfl)⟩
  · rintro ⟨⟨h1, h2⟩, h3, h4⟩
    refine ⟨fun p hp => ?_, h2, List.pairwise_singleton .., fun p hp q hq => ?_⟩
    · rcases List.mem_append.1 hp with hp | hp
      · exact h1 p hp
      · rw [List.mem_singleton.1 hp]; exact h3
    · rw [List.mem_singleton.1 hq]; exact h4 p hp
theorem mrg_nil (s : Pr) : mrg [] s = [s] := rfl
theorem mrg_snoc (l : List Pr) (q s : Pr) : mrg (l ++ [q]) s = if s.1 ≤ q.2 then l ++ [(q.1, max q.2 s.2)] else l ++ [q] ++ [s] := by
  unfold mrg; simp
/-- What holds between two rounds. -/
structure MI (acc seen : List Pr) : Prop where
  few : Few acc
  same : ∀ d, inS acc d ↔ inS seen d
  low : ∀ p ∈ acc, ∃ q ∈ seen, p.1 = q.1
theorem MI.start : MI [] [] := ⟨Few.nil, fun d => Iff.rfl, fun p h => by simp at h⟩
theorem MI.step {acc seen : List Pr} {s : Pr} (h : MI acc seen) (hs : May s) (hl : ∀ q ∈ seen, q.1 ≤ s.1) : MI (mrg acc s) (seen ++ [s]) := by
  rcases List.eq_nil_or_concat acc with rfl | ⟨l, q, rfl⟩
  · rw [mrg_nil]
    refine ⟨by have := few_snoc.2 (⟨Few.nil, hs, fun p h => by simp at h⟩ : Few [] ∧ May s ∧ ∀ p ∈ ([] : List Pr), p.2 < s.1); simpa using this, fun d => ?_, fun p hp => ⟨s, by simp, by rw [List.mem_singleton.1 hp]⟩⟩
    rw [inS_append, ← h.same]
    simp [inS_nil]
  · rw [List.concat_eq_append] at h
    rw [List.concat_eq_append, mrg_snoc]
    have hf := few_snoc.1 h.few
    have hlo : q.1 ≤ s.1 := by
      obtain ⟨r, hr, e⟩ := h.low q (by simp)
      have := hl r hr; omega
    have hq := hf.2.1
    unfold May at hs hq
    split
    · rename_i hle
      refine ⟨few_snoc.2 ⟨hf.1, ?_, fun p hp => hf.2.2 p hp⟩, fun d => ?_, fun p hp => ?_⟩
      · unfold May; dsimp only; omega
      · rw [inS_append (a := seen), ← h.same d, inS_append, inS_append, or_assoc]
        refine or_congr Iff.rfl ?_
        rw [inS_cons, inS_cons, inS_cons]
        simp only [inS_nil, or_false]
        omega
      · rcases List.mem_append.1 hp with hp | hp
        · obtain ⟨r, hr, e⟩ := h.low p (by simp [hp])
          exact ⟨r, by simp [hr], e⟩
        · rw [List.mem_singleton.1 hp]
          obtain ⟨r, hr, e⟩ := h.low q (by simp)
          exact ⟨r, by simp [hr], e⟩
    · rename_i hle
      refine ⟨few_snoc.2 ⟨h.few, hs, fun p hp => ?_⟩, fun d => ?_, fun p hp => ?_⟩
      · rcases List.mem_append.1 hp with hp | hp
        · have := hf.2.2 p hp; omega
        · rw [List.mem_singleton.1 hp]; omega
      · rw [inS_append (a := seen), ← h.same d, inS_append (a := l ++ [q])]
      · rcases List.mem_append.1 hp with hp | hp
        · obtain ⟨r, hr, e⟩ := h.low p hp
          exact ⟨r, by simp [hr], e⟩
        · exact ⟨s, by simp, by rw [List.mem_singleton.1 hp]⟩
theorem mrg_length (acc : List Pr) (s : Pr) : (mrg acc s).length ≤ acc.length + 1 := by
  rcases List.eq_nil_or_concat acc with rfl | ⟨l, q, rfl⟩
  · simp [mrg_nil]
  · rw [List.concat_eq_append, mrg_snoc]
    split <;> simp
/-- The first span that ends behind a day: the day is in it, or in none. -/
theorem has_at : ∀ {l : List Pr}, Few l → ∀ (d : Int) (k : Nat), (∀ i p, i < k → l[i]? = some p → p.2 ≤ d) → (∀ p, l[k]? = some p → d < p.2) → (inS l d ↔ ∃ p, l[k]? = some p ∧ p.1 ≤ d)
  | [], _, d, k, _, _ => by simp [inS_nil]
  | q :: l, h, d, 0, _, h2 => by
    have hq := h2 q rfl
    constructor
    · intro hd; exact ⟨q, rfl, h.lo hd⟩
    · rintro ⟨p, e, h3⟩; cases e; exact inS_cons.2 (.inl ⟨h3, hq⟩)
  | q :: l, h, d, k + 1, h1, h2 => by
    have hq := h1 0 q (by omega) rfl
    rw [inS_cons]
    have := has_at h.tail d k (fun i p hi e => h1 (i + 1) p (by omega) (by simpa using e)) (fun p e => h2 p (by simpa using e))
    rw [this]
    simp only [List.getElem?_cons_succ]
    constructor
    · rintro (h3 | h3)
      · omega
      · exact h3
    · exact fun h3 => .inr h3
end Go.Proofs.Ytiabjlaganmloaa
