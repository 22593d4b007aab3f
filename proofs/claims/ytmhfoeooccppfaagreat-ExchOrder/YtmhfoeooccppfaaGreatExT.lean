/-
  A table's quotes as one list in order: what is put, what a pair has, all pairs together, the quote that tells a rate.
-/
import Derived.Test.YtmhfoeooccppfaaGreatExQ
import Derived.Test.YtmhfoeooccppfaaGreatTcP
namespace Go.Proofs.YtmhfoeooccppfaaGreat
set_option linter.unusedVariables false

abbrev Qe := Qt (List UInt8) Nat
/-- The order of texts. -/
def sl (a b : List UInt8) : Prop := Op.bytesLess a b = true
theorem sl_irr : ∀ a : List UInt8, ¬ sl a a
  | [] => by simp [sl, Op.bytesLess]
  | a :: x => by
    have := sl_irr x
    unfold sl at *
    simp [Op.bytesLess, this]
theorem sl_trans : ∀ a b c : List UInt8, sl a b → sl b c → sl a c
  | [], [], _, h, _ => by simp [sl, Op.bytesLess] at h
  | [], _ :: _, [], _, h => by simp [sl, Op.bytesLess] at h
  | [], _ :: _, _ :: _, _, _ => by simp [sl, Op.bytesLess]
  | _ :: _, [], _, h, _ => by simp [sl, Op.bytesLess] at h
  | _ :: _, _ :: _, [], _, h => by simp [sl, Op.bytesLess] at h
  | a :: x, b :: y, c :: z, h, g => by
    have ih := sl_trans x y z
    unfold sl at *
    simp only [Op.bytesLess, Bool.or_eq_true, Bool.and_eq_true, beq_iff_eq, decide_eq_true_eq] at *
    rcases h with h | ⟨h, h'⟩ <;> rcases g with g | ⟨g, g'⟩
    · exact Or.inl (UInt8.lt_trans h g)
    · subst g; exact Or.inl h
    · subst h; exact Or.inl g
    · subst h; subst g; exact Or.inr ⟨rfl, ih h' g'⟩
theorem sl_tri : ∀ a b : List UInt8, sl a b ∨ a = b ∨ sl b a
  | [], [] => Or.inr (Or.inl rfl)
  | [], _ :: _ => Or.inl (by simp [sl, Op.bytesLess])
  | _ :: _, [] => Or.inr (Or.inr (by simp [sl, Op.bytesLess]))
  | a :: x, b :: y => by
    have ih := sl_tri x y
    unfold sl at *
    simp only [Op.bytesLess, Bool.or_eq_true, Bool.and_eq_true, beq_iff_eq, decide_eq_true_eq] at *
    by_cases h1 : a < b
    · exact Or.inl (Or.inl h1)
    · by_cases h2 : b < a
      · exact Or.inr (Or.inr (Or.inl h2))
      · have e : a = b := by
          apply UInt8.toNat_inj.1
          rw [UInt8.lt_iff_toNat_lt] at h1 h2
          omega
        subst e
        rcases ih with h | h | h
        · exact Or.inl (Or.inr ⟨rfl, h⟩)
        · exact Or.inr (Or.inl (by rw [h]))
        · exact Or.inr (Or.inr (Or.inr ⟨rfl, h⟩))
theorem sl_ordr : Ordr sl := ⟨sl_irr, sl_trans, sl_tri⟩
abbrev Qs := Qlt (ρ := Nat) sl
abbrev Srt (T : List Qe) : Prop := T.Pairwise Qs
/-- What a pair has. -/
def sel (f t : List UInt8) (T : List Qe) : List (Int × Nat) := (T.filter (fun q => decide (q.fr = f ∧ q.to = t))).map (fun q => (q.day, q.rate))
theorem mem_sel {f t : List UInt8} {T : List Qe} {x : Int × Nat} : x ∈ sel f t T ↔ (⟨f, t, x.1, x.2⟩ : Qe) ∈ T := by
  unfold sel
  constructor
  · intro h
    obtain ⟨q, hq, rfl⟩ := List.mem_map.1 h
    obtain ⟨h1, h2⟩ := List.mem_filter.1 hq
    simp only [decide_eq_true_eq] at h2
    obtain ⟨rfl, rfl⟩ := h2
    exact h1
  · intro h
    exact List.mem_map.2 ⟨_, List.mem_filter.2 ⟨h, by simp⟩, rfl⟩
def Ris (l : List (Int × Nat)) : Prop := l.Pairwise (fun a b => a.1 < b.1)
theorem sel_ris {f t : List UInt8} {T : List Qe} (h : Srt T) : Ris (sel f t T) := by
  unfold Ris sel
  rw [List.pairwise_map]
  refine List.Pairwise.imp_of_mem ?_ (h.filter _)
  intro a b ha hb hab
  have h1 := (List.mem_filter.1 ha).2
  have h2 := (List.mem_filter.1 hb).2
  simp only [decide_eq_true_eq] at h1 h2
  rcases hab with hab | ⟨-, hab | ⟨-, hab⟩⟩
  · rw [h1.1, h2.1] at hab; exact absurd hab (sl_irr _)
  · rw [h1.2, h2.2] at hab; exact absurd hab (sl_irr _)
  · exact hab
theorem ris_unique {l m : List (Int × Nat)} (hl : Ris l) (hm : Ris m) (h : ∀ x, x ∈ l ↔ x ∈ m) : l = m :=
  sorted_unique (r := fun a b : Int × Nat => a.1 < b.1) (fun a => Int.lt_irrefl _) (fun a b h1 h2 => by omega) hl hm h
open Classical in
/-- A table with one more. -/
noncomputable def tput (q : Qe) : List Qe → List Qe
  | [] => [q]
  | p :: r => if Qt.Same p q then q :: r else if Qs q p then q :: p :: r else p :: tput q r
theorem same_qs {a b c : Qe} (h : Qt.Same a b) (g : Qs a c) : Qs b c := by
  obtain ⟨h1, h2, h3⟩ := h
  rcases g with g | ⟨g1, g | ⟨g2, g⟩⟩
  · exact Or.inl (h1 ▸ g)
  · exact Or.inr ⟨h1 ▸ g1, Or.inl (h2 ▸ g)⟩
  · exact Or.inr ⟨h1 ▸ g1, Or.inr ⟨h2 ▸ g2, h3 ▸ g⟩⟩
theorem same_qs' {a b c : Qe} (h : Qt.Same a b) (g : Qs c a) : Qs c b := by
  obtain ⟨h1, h2, h3⟩ := h
  rcases g with g | ⟨g1, g | ⟨g2, g⟩⟩
  · exact Or.inl (h1 ▸ g)
  · exact Or.inr ⟨h1 ▸ g1, Or.inl (h2 ▸ g)⟩
  · exact Or.inr ⟨h1 ▸ g1, Or.inr ⟨h2 ▸ g2, h3 ▸ g⟩⟩
theorem tput_spec (q : Qe) : ∀ {T : List Qe}, Srt T → Srt (tput q T) ∧ Pt T q (tput q T) ∧ ((∃ p ∈ T, Qt.Same p q) → (tput q T).length = T.length) ∧ ((∀ p ∈ T, ¬ Qt.Same p q) → (tput q T).length = T.length + 1)
  | [], _ => by simp [tput, Srt, Pt]
  | p :: r, h => by
    obtain ⟨h1, h2⟩ := List.pairwise_cons.1 h
    obtain ⟨i1, i2, i3, i4⟩ := tput_spec q h2
    unfold tput
    split
    · rename_i hs
      refine ⟨List.pairwise_cons.2 ⟨fun b hb => same_qs hs (h1 b hb), h2⟩, fun x => ?_, fun _ => rfl, fun hn => absurd hs (hn p (by simp))⟩
      constructor
      · intro hx
        rcases List.mem_cons.1 hx with rfl | hx
        · exact Or.inl rfl
        · exact Or.inr ⟨by simp [hx], fun hc => Qlt.not_same sl_ordr (h1 x hx) (hs.trans hc.symm)⟩
      · rintro (rfl | ⟨hx, hc⟩)
        · simp
        · rcases List.mem_cons.1 hx with rfl | hx
          · exact absurd hs hc
          · simp [hx]
    · rename_i hs
      split
      · rename_i hl
        have hno : ∀ x ∈ p :: r, ¬ Qt.Same x q := fun x hx hc => by
          rcases List.mem_cons.1 hx with rfl | hx
          · exact hs hc
          · exact Qlt.not_same sl_ordr (Qlt.trans sl_ordr hl (h1 x hx)) hc.symm
        refine ⟨List.pairwise_cons.2 ⟨fun b hb => ?_, h⟩, fun x => ?_, fun ⟨x, hx, hc⟩ => absurd hc (hno x hx), fun _ => rfl⟩
        · rcases List.mem_cons.1 hb with rfl | hb
          · exact hl
          · exact Qlt.trans sl_ordr hl (h1 b hb)
        · constructor
          · intro hx
            rcases List.mem_cons.1 hx with rfl | hx
            · exact Or.inl rfl
            · exact Or.inr ⟨hx, hno x hx⟩
          · rintro (rfl | ⟨hx, -⟩)
            · simp
            · exact List.mem_cons_of_mem _ hx
      · rename_i hl
        have hpq : Qs p q := by
          rcases Qlt.tri sl_ordr p q with h' | h' | h'
          · exact h'
          · exact absurd h' hs
          · exact absurd h' hl
        refine ⟨List.pairwise_cons.2 ⟨fun b hb => ?_, i1⟩, fun x => ?_, fun ⟨x, hx, hc⟩ => ?_, fun hn => ?_⟩
        · rcases (i2 b).1 hb with rfl | ⟨hb, -⟩
          · exact hpq
          · exact h1 b hb
        · constructor
          · intro hx
            rcases List.mem_cons.1 hx with rfl | hx
            · exact Or.inr ⟨by simp, hs⟩
            · rcases (i2 x).1 hx with rfl | ⟨hx, hc⟩
              · exact Or.inl rfl
              · exact Or.inr ⟨by simp [hx], hc⟩
          · rintro (rfl | ⟨hx, hc⟩)
            · exact List.mem_cons_of_mem _ ((i2 _).2 (Or.inl rfl))
            · rcases List.mem_cons.1 hx with rfl | hx
              · simp
              · exact List.mem_cons_of_mem _ ((i2 x).2 (Or.inr ⟨hx, hc⟩))
        · rcases List.mem_cons.1 hx with rfl | hx
          · exact absurd hc hs
          · simp [i3 ⟨x, hx, hc⟩]
        · simp [i4 (fun x hx => hn x (by simp [hx]))]
theorem sel_put {T S : List Qe} {q : Qe} (hS : Srt S) (h : Pt T q S) {m : List (Int × Nat)} (hm : Ris m) (hx : ∀ x, x ∈ m ↔ x = (q.day, q.rate) ∨ (x ∈ sel q.fr q.to T ∧ x.1 ≠ q.day)) : sel q.fr q.to S = m := by
  refine ris_unique (sel_ris hS) hm (fun x => ?_)
  rw [mem_sel, hx, h, mem_sel]
  constructor
  · rintro (e | ⟨h1, h2⟩)
    · left; exact Prod.ext (congrArg Qt.day e) (congrArg Qt.rate e)
    · right; exact ⟨h1, fun e => h2 ⟨rfl, rfl, e⟩⟩
  · rintro (e | ⟨h1, h2⟩)
    · left; subst e; rfl
    · right; exact ⟨h1, fun e => h2 e.2.2⟩
theorem sel_other {T S : List Qe} {q : Qe} (hT : Srt T) (hS : Srt S) (h : Pt T q S) {f t : List UInt8} (hn : ¬ (f = q.fr ∧ t = q.to)) : sel f t S = sel f t T := by
  refine ris_unique (sel_ris hS) (sel_ris hT) (fun x => ?_)
  rw [mem_sel, mem_sel, h]
  constructor
  · rintro (e | ⟨h1, -⟩)
    · subst e; exact absurd ⟨rfl, rfl⟩ hn
    · exact h1
  · intro h1
    exact Or.inr ⟨h1, fun e => hn ⟨e.1, e.2.1⟩⟩
/-- In the place of the one of that day. -/
theorem ris_set {l : List (Int × Nat)} (h : Ris l) {i : Nat} {x : Int × Nat} (hx : l[i]? = some x) (r : Nat) : Ris (l.set i (x.1, r)) ∧ ∀ y, y ∈ l.set i (x.1, r) ↔ y = (x.1, r) ∨ (y ∈ l ∧ y.1 ≠ x.1) := by
  have hi : i < l.length := by
    rcases Nat.lt_or_ge i l.length with h' | h'
    · exact h'
    · rw [List.getElem?_eq_none h'] at hx; cases hx
  have hxe : l[i] = x := by rw [List.getElem?_eq_getElem hi] at hx; exact Option.some.inj hx
  have hp := List.pairwise_iff_getElem.1 h
  constructor
  · unfold Ris
    rw [List.pairwise_iff_getElem]
    intro a b ha hb hab
    simp only [List.length_set] at ha hb
    have := hp a b ha hb hab
    simp only [List.getElem_set]
    split <;> split <;> simp_all
  · intro y
    rw [List.mem_iff_getElem]
    constructor
    · rintro ⟨a, ha, rfl⟩
      simp only [List.length_set] at ha
      simp only [List.getElem_set]
      split
      · exact Or.inl rfl
      · rename_i hne
        refine Or.inr ⟨List.getElem_mem ha, ?_⟩
        rcases Nat.lt_or_gt_of_ne hne with h' | h'
        · have := hp i a hi ha h'; rw [hxe] at this; omega
        · have := hp a i ha hi h'; rw [hxe] at this; omega
    · rintro (rfl | ⟨hy, hne⟩)
      · exact ⟨i, by simpa using hi, by simp⟩
      · obtain ⟨a, ha, rfl⟩ := List.mem_iff_getElem.1 hy
        refine ⟨a, by simpa using ha, ?_⟩
        rw [List.getElem_set_ne]
        intro e; subst e; exact hne (by rw [hxe])
/-- Between those of earlier days and those of later ones. -/
theorem ris_ins {l : List (Int × Nat)} (h : Ris l) {i : Nat} {d : Int} (r : Nat) (h1 : ∀ x ∈ l.take i, x.1 < d) (h2 : ∀ x ∈ l.drop i, d < x.1) : Ris (l.take i ++ (d, r) :: l.drop i) ∧ ∀ y, y ∈ l.take i ++ (d, r) :: l.drop i ↔ y = (d, r) ∨ (y ∈ l ∧ y.1 ≠ d) := by
  constructor
  · unfold Ris
    rw [List.pairwise_append]
    refine ⟨h.sublist (List.take_sublist _ _), List.pairwise_cons.2 ⟨fun x hx => h2 x hx, h.sublist (List.drop_sublist _ _)⟩, fun a ha b hb => ?_⟩
    rcases List.mem_cons.1 hb with rfl | hb
    · exact h1 a ha
    · have := h1 a ha; have := h2 b hb; omega
  · intro y
    rw [List.mem_append, List.mem_cons]
    constructor
    · rintro (hy | rfl | hy)
      · exact Or.inr ⟨List.mem_of_mem_take hy, by have := h1 y hy; omega⟩
      · exact Or.inl rfl
      · exact Or.inr ⟨List.mem_of_mem_drop hy, by have := h2 y hy; omega⟩
    · rintro (rfl | ⟨hy, -⟩)
      · exact Or.inr (Or.inl rfl)
      · rw [← List.take_append_drop i l] at hy
        rcases List.mem_append.1 hy with hy | hy
        · exact Or.inl hy
        · exact Or.inr (Or.inr hy)
/-- Pairs in their order. -/
def PlE (a b : List UInt8 × List UInt8) : Prop := sl a.1 b.1 ∨ a.1 = b.1 ∧ sl a.2 b.2
def ofP (T : List Qe) (k : List UInt8 × List UInt8) : List Qe := (sel k.1 k.2 T).map (fun x => ⟨k.1, k.2, x.1, x.2⟩)
theorem mem_ofP {T : List Qe} {k : List UInt8 × List UInt8} {q : Qe} : q ∈ ofP T k ↔ q ∈ T ∧ q.fr = k.1 ∧ q.to = k.2 := by
  unfold ofP
  rw [List.mem_map]
  constructor
  · rintro ⟨x, hx, rfl⟩
    exact ⟨mem_sel.1 hx, rfl, rfl⟩
  · rintro ⟨h, h1, h2⟩
    refine ⟨(q.day, q.rate), mem_sel.2 (by rw [← h1, ← h2]; exact h), ?_⟩
    cases q; simp_all
theorem all_ofP {T : List Qe} (hT : Srt T) {ks : List (List UInt8 × List UInt8)} (hk : ks.Pairwise PlE) (hm : ∀ q ∈ T, (q.fr, q.to) ∈ ks) : ks.flatMap (ofP T) = T := by
  refine quotes_unique sl_ordr ?_ hT (fun q => ?_)
  · rw [List.pairwise_flatMap]
    refine ⟨fun k _ => ?_, hk.imp ?_⟩
    · unfold ofP
      rw [List.pairwise_map]
      exact (sel_ris hT).imp (fun {a b} hab => Or.inr ⟨rfl, Or.inr ⟨rfl, hab⟩⟩)
    · intro a b hab x hx y hy
      obtain ⟨-, x1, x2⟩ := mem_ofP.1 hx
      obtain ⟨-, y1, y2⟩ := mem_ofP.1 hy
      rcases hab with h | ⟨h, h'⟩
      · exact Or.inl (by rw [x1, y1]; exact h)
      · exact Or.inr ⟨by rw [x1, y1, h], Or.inl (by rw [x2, y2]; exact h')⟩
  · rw [List.mem_flatMap]
    constructor
    · rintro ⟨k, -, hq⟩
      exact (mem_ofP.1 hq).1
    · intro hq
      exact ⟨_, hm q hq, mem_ofP.2 ⟨hq, rfl, rfl⟩⟩
/-- The newest of a pair that is old enough. -/
def Nst (l : List (Int × Nat)) (d : Int) (x : Int × Nat) : Prop := x ∈ l ∧ x.1 ≤ d ∧ ∀ y ∈ l, y.1 ≤ d → y.1 ≤ x.1
def Nol (l : List (Int × Nat)) (d : Int) : Prop := ∀ y ∈ l, d < y.1
theorem bst_forth {T : List Qe} {f t : List UInt8} (hft : f ≠ t) {d : Int} {x : Int × Nat} (h : Nst (sel f t T) d x) (hb : Nol (sel t f T) d ∨ ∃ y, Nst (sel t f T) d y ∧ y.1 ≤ x.1) : Bst T f t d ⟨f, t, x.1, x.2⟩ := by
  refine ⟨mem_sel.1 h.1, Or.inl ⟨rfl, rfl⟩, h.2.1, fun p hp ho hd => ?_⟩
  rcases ho with ⟨h1, h2⟩ | ⟨h1, h2⟩
  · have := h.2.2 (p.day, p.rate) (mem_sel.2 (by rw [← h1, ← h2]; exact hp)) hd
    show p.day < x.1 ∨ p.day = x.1 ∧ _
    rcases Int.lt_or_eq_of_le this with h' | h'
    · exact Or.inl h'
    · exact Or.inr ⟨h', Or.inl rfl⟩
  · have hm : (p.day, p.rate) ∈ sel t f T := mem_sel.2 (by rw [← h1, ← h2]; exact hp)
    show p.day < x.1 ∨ p.day = x.1 ∧ _
    rcases hb with hb | ⟨y, hy, hyx⟩
    · have := hb _ hm; simp only at this; omega
    · have := hy.2.2 _ hm hd
      simp only at this
      rcases Int.lt_or_eq_of_le (Int.le_trans this hyx) with h' | h'
      · exact Or.inl h'
      · exact Or.inr ⟨h', Or.inl rfl⟩
theorem bst_back {T : List Qe} {f t : List UInt8} (hft : f ≠ t) {d : Int} {y : Int × Nat} (h : Nst (sel t f T) d y) (hb : Nol (sel f t T) d ∨ ∃ x, Nst (sel f t T) d x ∧ x.1 < y.1) : Bst T f t d ⟨t, f, y.1, y.2⟩ := by
  refine ⟨mem_sel.1 h.1, Or.inr ⟨rfl, rfl⟩, h.2.1, fun p hp ho hd => ?_⟩
  rcases ho with ⟨h1, h2⟩ | ⟨h1, h2⟩
  · have hm : (p.day, p.rate) ∈ sel f t T := mem_sel.2 (by rw [← h1, ← h2]; exact hp)
    left
    show p.day < y.1
    rcases hb with hb | ⟨x, hx, hyx⟩
    · have := hb _ hm; simp only at this; omega
    · have := hx.2.2 _ hm hd; simp only at this; omega
  · have := h.2.2 (p.day, p.rate) (mem_sel.2 (by rw [← h1, ← h2]; exact hp)) hd
    show p.day < y.1 ∨ p.day = y.1 ∧ _
    rcases Int.lt_or_eq_of_le this with h' | h'
    · exact Or.inl h'
    · exact Or.inr ⟨h', Or.inr (by rw [h1]; exact fun e => hft e.symm)⟩
theorem non_both {T : List Qe} {f t : List UInt8} {d : Int} (h : Nol (sel f t T) d) (g : Nol (sel t f T) d) : Non T f t d := by
  intro p hp ho
  rcases ho with ⟨h1, h2⟩ | ⟨h1, h2⟩
  · exact h (p.day, p.rate) (mem_sel.2 (by rw [← h1, ← h2]; exact hp))
  · exact g (p.day, p.rate) (mem_sel.2 (by rw [← h1, ← h2]; exact hp))
/-- What a search tells. -/
theorem nst_at {l : List (Int × Nat)} (h : Ris l) {d : Int} {i : Nat} (h1 : ∀ x ∈ l.take (i + 1), x.1 ≤ d) (h2 : ∀ x ∈ l.drop (i + 1), d < x.1) {x : Int × Nat} (hx : l[i]? = some x) : Nst l d x := by
  have hi : i < l.length := by
    rcases Nat.lt_or_ge i l.length with h' | h'
    · exact h'
    · rw [List.getElem?_eq_none h'] at hx; cases hx
  have hxe : l[i] = x := by rw [List.getElem?_eq_getElem hi] at hx; exact Option.some.inj hx
  have hp := List.pairwise_iff_getElem.1 h
  refine ⟨List.mem_of_getElem? hx, h1 x (List.mem_iff_getElem?.2 ⟨i, by rw [List.getElem?_take_of_lt (by omega)]; exact hx⟩), fun y hy hd => ?_⟩
  obtain ⟨a, ha, rfl⟩ := List.mem_iff_getElem.1 hy
  rcases Nat.lt_trichotomy a i with h' | h' | h'
  · have := hp a i ha hi h'; rw [hxe] at this; omega
  · subst h'; rw [hxe]; exact Int.le_refl _
  · have := h2 l[a] (List.mem_iff_getElem?.2 ⟨a - (i + 1), by rw [List.getElem?_drop, show i + 1 + (a - (i + 1)) = a by omega]; exact List.getElem?_eq_getElem ha⟩)
    omega
def Rok (r : Nat) : Prop := 4517110426252607488 ≤ r ∧ r ≤ 4697254411347427328
instance (r : Nat) : Decidable (Rok r) := by unfold Rok; infer_instance
/-- What is told of a rate. -/
def ckR (r : Nat) : Int := if 0 < r ∧ r < 9218868437227405312 then (if Rok r then 0 else 160) else 80
def cdF' (s : List UInt8) : Bool := decide (s.length = 3) && decide (rn cp s = 3)
/-- What is told of a quote. -/
def ckE (q : Qe) : Int := if cdF' q.fr = false ∨ cdF' q.to = false ∨ q.fr = q.to then 90 else if 0 ≤ q.day ∧ q.day ≤ 3652058 then ckR q.rate else 100
/-- A quote that may be. -/
def Okq (q : Qe) : Prop := cdF' q.fr = true ∧ cdF' q.to = true ∧ q.fr ≠ q.to ∧ 0 ≤ q.day ∧ q.day ≤ 3652058 ∧ Rok q.rate
theorem ckE_ok {q : Qe} (h : ckE q = 0) : Okq q := by
  unfold ckE ckR at h
  split at h
  · cases h
  · rename_i h1
    split at h
    · rename_i h2
      split at h
      · split at h
        · rename_i h4
          refine ⟨?_, ?_, fun e => h1 (Or.inr (Or.inr e)), h2.1, h2.2, h4⟩
          · cases hc : cdF' q.fr
            · exact absurd (Or.inl hc) h1
            · rfl
          · cases hc : cdF' q.to
            · exact absurd (Or.inr (Or.inl hc)) h1
            · rfl
        · cases h
      · cases h
    · cases h
/-- Is there one of its key? -/
def Has (T : List Qe) (q : Qe) : Prop := ∃ p ∈ T, Qt.Same p q
/-- What Put answers, and the table behind it. -/
inductive PuR (T : List Qe) (q : Qe) : Int → List Qe → Prop
  | bad (h : ckE q ≠ 0) : PuR T q (ckE q) T
  | full (h : ckE q = 0) (hn : ¬ Has T q) (hl : 4096 ≤ T.length) : PuR T q 294 T
  | set (h : ckE q = 0) (hh : Has T q) : PuR T q 0 (tput q T)
  | more (h : ckE q = 0) (hn : ¬ Has T q) (hl : T.length < 4096) : PuR T q 0 (tput q T)
/-- A table that may be. -/
structure Tok (T : List Qe) : Prop where
  srt : Srt T
  ok : ∀ q ∈ T, Okq q
  len : T.length ≤ 4096
theorem Tok.nil : Tok [] := ⟨List.Pairwise.nil, fun q hq => absurd hq (by simp), by simp⟩
theorem Tok.put {T : List Qe} {q : Qe} {e : Int} {S : List Qe} (h : Tok T) (hp : PuR T q e S) : Tok S := by
  have hsp := tput_spec q h.srt
  have hok : ckE q = 0 → ∀ p ∈ tput q T, Okq p := fun h0 p hp => by
    rcases (hsp.2.1 p).1 hp with rfl | ⟨hp, -⟩
    · exact ckE_ok h0
    · exact h.ok p hp
  cases hp with
  | bad _ => exact h
  | full _ _ _ => exact h
  | set h0 hh => exact ⟨hsp.1, hok h0, by rw [hsp.2.2.1 hh]; exact h.len⟩
  | more h0 hn hl => exact ⟨hsp.1, hok h0, by rw [hsp.2.2.2 (fun p hp hs => hn ⟨p, hp, hs⟩)]; omega⟩
theorem PuR.unique {T : List Qe} {q : Qe} {e e' : Int} {S S' : List Qe} (h : PuR T q e S) (g : PuR T q e' S') : e = e' ∧ S = S' := by
  cases h <;> cases g <;> first | exact ⟨rfl, rfl⟩ | contradiction | (exfalso; omega)
theorem puR_ex (T : List Qe) (q : Qe) : ∃ e S, PuR T q e S := by
  by_cases h : ckE q = 0
  · by_cases hh : Has T q
    · exact ⟨_, _, .set h hh⟩
    · by_cases hl : T.length < 4096
      · exact ⟨_, _, .more h hh hl⟩
      · exact ⟨_, _, .full h hh (by omega)⟩
  · exact ⟨_, _, .bad h⟩
end Go.Proofs.YtmhfoeooccppfaaGreat
