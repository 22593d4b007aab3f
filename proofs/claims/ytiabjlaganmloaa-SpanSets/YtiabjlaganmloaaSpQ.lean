/-
  The pieces of a set that lie in a span; what a cut and a difference come to, in numbers.
-/
import Derived.Test.YtiabjlaganmloaaSp5
import Derived.Test.YtiabjlaganmloaaSpM
namespace Go.Proofs.Ytiabjlaganmloaa
set_option linter.unusedVariables false

theorem rc_unique {ys : List Pr} {d : Int} {k k' : Nat} (h : Rc ys d k) (h' : Rc ys d k') : k = k' := by
  rcases Nat.lt_trichotomy k k' with hl | he | hl
  · have hk : k < ys.length := Nat.lt_of_lt_of_le hl h'.1
    have h1 := h.2.2 _ (List.getElem?_eq_getElem hk)
    have h2 := h'.2.1 k _ hl (List.getElem?_eq_getElem hk)
    omega
  · exact he
  · have hk : k' < ys.length := Nat.lt_of_lt_of_le hl h.1
    have h1 := h'.2.2 _ (List.getElem?_eq_getElem hk)
    have h2 := h.2.1 k' _ hl (List.getElem?_eq_getElem hk)
    omega
/-- The place of the first span that ends behind a day. -/
def rk (ys : List Pr) (d : Int) : Nat := (List.range ys.length).countP (fun i => !decide (d < (ys.getD i (0, 0)).2))
theorem rk_rc {ys : List Pr} (h : Few ys) (d : Int) : Rc ys d (rk ys d) := rc_of h d
/-- The pieces in a span of spans that rise, as long as they meet it. -/
noncomputable def pcs (x : Pr) : List Pr → List Pr
  | [] => []
  | y :: l => if mtB x y then mt x y :: pcs x l else []
noncomputable def wth (x : Pr) (ys : List Pr) : List Pr := pcs x (ys.drop (rk ys x.1))
theorem mts_iff {x y : Pr} (hx : May x) (hy : May y) : Mts x y ↔ y.1 < x.2 ∧ x.1 < y.2 := by
  unfold Mts
  unfold May at *
  constructor
  · rintro ⟨-, -, h⟩; omega
  · intro h; exact ⟨hx, hy, by omega⟩
theorem Few.drop {l : List Pr} (h : Few l) (k : Nat) : Few (l.drop k) := ⟨fun p hp => h.1 p (List.mem_of_mem_drop hp), h.2.drop⟩
theorem pcs_spec {x : Pr} (hx : May x) : ∀ {l : List Pr}, Few l → (∀ y ∈ l, x.1 < y.2) → Few (pcs x l) ∧ (∀ p ∈ pcs x l, x.1 ≤ p.1 ∧ p.2 ≤ x.2 ∧ ∃ y ∈ l, y.1 ≤ p.1 ∧ p.2 ≤ y.2) ∧ ∀ d, inS (pcs x l) d ↔ (x.1 ≤ d ∧ d < x.2) ∧ inS l d
  | [], _, _ => ⟨Few.nil, fun p h => by simp [pcs] at h, fun d => by simp [pcs, inS_nil]⟩
  | y :: l, h, hl => by
    have hy := h.head
    have hyl := hl y (List.mem_cons_self ..)
    unfold pcs
    by_cases hm : Mts x y
    · rw [mtB_true hm, if_pos rfl]
      obtain ⟨i1, i2, i3⟩ := pcs_spec hx h.tail (fun z hz => hl z (List.mem_cons_of_mem _ hz))
      have hmm := mts_may hm
      have hlt := (mts_iff hx hy).1 hm
      have hx' := hx; have hy' := hy
      unfold May at hx' hy'
      refine ⟨⟨fun p hp => ?_, List.pairwise_cons.2 ⟨fun p hp => ?_, i1.2⟩⟩, fun p hp => ?_, fun d => ?_⟩
      · rcases List.mem_cons.1 hp with rfl | hp
        · exact hmm
        · exact i1.1 p hp
      · obtain ⟨-, -, z, hz, hz1, hz2⟩ := i2 p hp
        have := h.next hz
        have hzm := h.tail.1 z hz
        unfold mt
        dsimp only
        omega
      · rcases List.mem_cons.1 hp with rfl | hp
        · refine ⟨?_, ?_, y, List.mem_cons_self .., ?_, ?_⟩ <;> (unfold mt; dsimp only; omega)
        · obtain ⟨a, b, z, hz, c⟩ := i2 p hp
          exact ⟨a, b, z, List.mem_cons_of_mem _ hz, c⟩
      · rw [inS_cons, i3, inS_cons]
        unfold mt
        dsimp only
        by_cases hd : inS l d
        · simp only [hd, and_true, or_true]; omega
        · simp only [hd, and_false, or_false]; omega
    · rw [mtB_false hm, if_neg (by simp)]
      have hge : x.2 ≤ y.1 := by
        rcases Int.lt_or_le y.1 x.2 with h' | h'
        · exact absurd ((mts_iff hx hy).2 ⟨h', hyl⟩) hm
        · exact h'
      refine ⟨Few.nil, fun p hp => by simp at hp, fun d => ⟨fun hd => absurd hd (inS_nil d), fun ⟨h1, h2⟩ => ?_⟩⟩
      have := h.lo h2
      omega
theorem Few.skip {ys : List Pr} (h : Few ys) {d : Int} {k : Nat} (hk : Rc ys d k) : (∀ y ∈ ys.drop k, d < y.2) ∧ ∀ e, d ≤ e → (inS (ys.drop k) e ↔ inS ys e) := by
  constructor
  · intro y hy
    obtain ⟨i, hi, rfl⟩ := List.mem_iff_getElem.1 hy
    rw [List.getElem_drop]
    simp at hi
    have h0 := hk.2.2 _ (List.getElem?_eq_getElem (show k < ys.length by omega))
    have h1 := few_ends h (show k ≤ k + i by omega) (by omega)
    rw [List.getD_eq_getElem?_getD, List.getD_eq_getElem?_getD, List.getElem?_eq_getElem (by omega), List.getElem?_eq_getElem (by omega)] at h1
    simp only [Option.getD_some] at h1
    omega
  · intro e he
    constructor
    · rintro ⟨y, hy, h1⟩; exact ⟨y, List.mem_of_mem_drop hy, h1⟩
    · rintro ⟨y, hy, h1, h2⟩
      obtain ⟨i, hi, rfl⟩ := List.mem_iff_getElem.1 hy
      by_cases hik : i < k
      · have := hk.2.1 i _ hik (List.getElem?_eq_getElem hi)
        omega
      · refine ⟨ys[i], ?_, h1, h2⟩
        refine List.mem_iff_getElem.2 ⟨i - k, by simp; omega, ?_⟩
        rw [List.getElem_drop]
        congr 1
        omega
theorem wth_spec {x : Pr} (hx : May x) {ys : List Pr} (h : Few ys) : Few (wth x ys) ∧ (∀ p ∈ wth x ys, x.1 ≤ p.1 ∧ p.2 ≤ x.2) ∧ ∀ d, inS (wth x ys) d ↔ (x.1 ≤ d ∧ d < x.2) ∧ inS ys d := by
  have hk := h.skip (rk_rc h x.1)
  obtain ⟨i1, i2, i3⟩ := pcs_spec hx (h.drop _) hk.1
  refine ⟨i1, fun p hp => ⟨(i2 p hp).1, (i2 p hp).2.1⟩, fun d => ?_⟩
  unfold wth
  rw [i3]
  constructor
  · rintro ⟨a, b⟩; exact ⟨a, (hk.2 d a.1).1 b⟩
  · rintro ⟨a, b⟩; exact ⟨a, (hk.2 d a.1).2 b⟩
theorem pcs_length (x : Pr) : ∀ l : List Pr, (pcs x l).length ≤ l.length
  | [] => by simp [pcs]
  | y :: l => by
    unfold pcs
    split
    · have := pcs_length x l; simp; omega
    · simp
theorem wth_length (x : Pr) (ys : List Pr) : (wth x ys).length ≤ ys.length := by
  have := pcs_length x (ys.drop (rk ys x.1))
  rw [List.length_drop] at this
  unfold wth; omega
/-- Lists of spans, one for each span of a set, each within it: all together. -/
theorem few_flat {f : Pr → List Pr} : ∀ {xs : List Pr}, Few xs → (∀ x ∈ xs, Few (f x) ∧ ∀ p ∈ f x, x.1 ≤ p.1 ∧ p.2 ≤ x.2) → Few (xs.flatMap f)
  | [], _, _ => by simpa using Few.nil
  | x :: xs, h, hf => by
    have ih := few_flat h.tail (fun z hz => hf z (List.mem_cons_of_mem _ hz))
    have hx := hf x (List.mem_cons_self ..)
    rw [List.flatMap_cons]
    refine ⟨fun p hp => ?_, List.pairwise_append.2 ⟨hx.1.2, ih.2, fun p hp q hq => ?_⟩⟩
    · rcases List.mem_append.1 hp with hp | hp
      · exact hx.1.1 p hp
      · exact ih.1 p hp
    · obtain ⟨z, hz, hqz⟩ := List.mem_flatMap.1 hq
      have h1 := (hx.2 p hp).2
      have h2 := h.next hz
      have h3 := ((hf z (List.mem_cons_of_mem _ hz)).2 q hqz).1
      omega
theorem inS_flat {f : Pr → List Pr} {P : Pr → Int → Prop} {xs : List Pr} {d : Int} (hf : ∀ x ∈ xs, (inS (f x) d ↔ P x d)) : inS (xs.flatMap f) d ↔ ∃ x ∈ xs, P x d := by
  constructor
  · rintro ⟨p, hp, h⟩
    obtain ⟨x, hx, hpx⟩ := List.mem_flatMap.1 hp
    exact ⟨x, hx, (hf x hx).1 ⟨p, hpx, h⟩⟩
  · rintro ⟨x, hx, h⟩
    obtain ⟨p, hp, h'⟩ := (hf x hx).2 h
    exact ⟨p, List.mem_flatMap.2 ⟨x, hx, hp⟩, h'⟩
theorem cut_spec {xs ys : List Pr} (hx : Few xs) (hy : Few ys) : Few (xs.flatMap (wth · ys)) ∧ ∀ d, inS (xs.flatMap (wth · ys)) d ↔ inS xs d ∧ inS ys d := by
  refine ⟨few_flat hx (fun x h => ⟨(wth_spec (hx.1 x h) hy).1, (wth_spec (hx.1 x h) hy).2.1⟩), fun d => ?_⟩
  rw [inS_flat (P := fun x d => (x.1 ≤ d ∧ d < x.2) ∧ inS ys d) (fun x h => (wth_spec (hx.1 x h) hy).2.2 d)]
  constructor
  · rintro ⟨x, h, h1, h2⟩; exact ⟨⟨x, h, h1⟩, h2⟩
  · rintro ⟨⟨x, h, h1⟩, h2⟩; exact ⟨x, h, h1, h2⟩
/-- What is put down at a hole, and at the end. -/
def hol (cur : Int) (h : Pr) : List Pr := if cur < h.1 then [(cur, h.1)] else []
def las (cur hi : Int) : List Pr := if cur < hi then [(cur, hi)] else []
/-- Where a span goes on behind holes. -/
def curE (cur : Int) (hs : List Pr) : Int := hs.foldl (fun _ h => h.2) cur
def holE : Int → List Pr → List Pr
  | _, [] => []
  | cur, h :: t => hol cur h ++ holE h.2 t
theorem curE_snoc (cur : Int) (hs : List Pr) (h : Pr) : curE cur (hs ++ [h]) = h.2 := by simp [curE]
theorem holE_snoc : ∀ (cur : Int) (hs : List Pr) (h : Pr), holE cur (hs ++ [h]) = holE cur hs ++ hol (curE cur hs) h
  | cur, [], h => by simp [holE, curE]
  | cur, a :: t, h => by
    have := holE_snoc a.2 t h
    simp only [List.cons_append, holE, this, List.append_assoc]
    rfl
/-- A span without its holes. -/
def mns (lo hi : Int) (hs : List Pr) : List Pr := holE lo hs ++ las (curE lo hs) hi
theorem mns_cons (lo hi : Int) (h : Pr) (t : List Pr) : mns lo hi (h :: t) = hol lo h ++ mns h.2 hi t := by
  unfold mns; simp [holE, curE, List.append_assoc]
theorem mns_spec : ∀ {hs : List Pr} {lo hi : Int}, Few hs → 0 ≤ lo → lo ≤ hi → hi ≤ 3652059 → (∀ p ∈ hs, lo ≤ p.1 ∧ p.2 ≤ hi) → Few (mns lo hi hs) ∧ (∀ p ∈ mns lo hi hs, lo ≤ p.1 ∧ p.2 ≤ hi) ∧ ∀ d, inS (mns lo hi hs) d ↔ (lo ≤ d ∧ d < hi) ∧ ¬ inS hs d
  | [], lo, hi, _, h0, h1, h2, _ => by
    have e : mns lo hi [] = if lo < hi then [(lo, hi)] else [] := rfl
    rw [e]
    by_cases h : lo < hi
    · rw [if_pos h]
      refine ⟨⟨fun p hp => ?_, List.pairwise_singleton ..⟩, fun p hp => ?_, fun d => ?_⟩
      · rw [List.mem_singleton.1 hp]; exact ⟨h0, h, h2⟩
      · rw [List.mem_singleton.1 hp]; exact ⟨Int.le_refl _, Int.le_refl _⟩
      · rw [inS_cons]; simp [inS_nil]
    · rw [if_neg h]
      refine ⟨Few.nil, fun p hp => by simp at hp, fun d => ?_⟩
      simp only [inS_nil, false_iff]
      omega
  | q :: t, lo, hi, hf, h0, h1, h2, hin => by
    have hq := hin q (List.mem_cons_self ..)
    have hqm := hf.head
    unfold May at hqm
    obtain ⟨i1, i2, i3⟩ := mns_spec (hs := t) (lo := q.2) (hi := hi) hf.tail (by omega) (by omega) h2 (fun p hp => ⟨by have := hf.next hp; omega, (hin p (List.mem_cons_of_mem _ hp)).2⟩)
    rw [mns_cons]
    unfold hol
    by_cases h : lo < q.1
    · rw [if_pos h, List.singleton_append]
      refine ⟨⟨fun p hp => ?_, List.pairwise_cons.2 ⟨fun p hp => ?_, i1.2⟩⟩, fun p hp => ?_, fun d => ?_⟩
      · rcases List.mem_cons.1 hp with rfl | hp
        · exact ⟨h0, h, by show q.1 ≤ 3652059; omega⟩
        · exact i1.1 p hp
      · have := (i2 p hp).1
        show q.1 < p.1
        omega
      · rcases List.mem_cons.1 hp with rfl | hp
        · exact ⟨Int.le_refl _, by show q.1 ≤ hi; omega⟩
        · have := i2 p hp; omega
      · rw [inS_cons, i3, inS_cons]
        dsimp only
        have hl : inS t d → q.2 < d := fun hd => hf.later hd
        by_cases hd : inS t d
        · have := hl hd
          simp only [hd, not_true_eq_false, and_false, or_false, or_true, iff_false]
          omega
        · simp only [hd, not_false_eq_true, and_true, or_false]
          omega
    · rw [if_neg h, List.nil_append]
      have e : lo = q.1 := by omega
      refine ⟨i1, fun p hp => by have := i2 p hp; omega, fun d => ?_⟩
      rw [i3, inS_cons]
      have hl : inS t d → q.2 < d := fun hd => hf.later hd
      by_cases hd : inS t d
      · simp [hd]
      · simp only [hd, not_false_eq_true, and_true, or_false]
        omega
theorem minus_spec {xs ys : List Pr} (hx : Few xs) (hy : Few ys) : Few (xs.flatMap (fun x => mns x.1 x.2 (wth x ys))) ∧ ∀ d, inS (xs.flatMap (fun x => mns x.1 x.2 (wth x ys))) d ↔ inS xs d ∧ ¬ inS ys d := by
  have hm : ∀ x ∈ xs, Few (mns x.1 x.2 (wth x ys)) ∧ (∀ p ∈ mns x.1 x.2 (wth x ys), x.1 ≤ p.1 ∧ p.2 ≤ x.2) ∧ ∀ d, inS (mns x.1 x.2 (wth x ys)) d ↔ (x.1 ≤ d ∧ d < x.2) ∧ ¬ inS ys d := by
    intro x h
    have hxm := hx.1 x h
    obtain ⟨w1, w2, w3⟩ := wth_spec hxm hy
    unfold May at hxm
    obtain ⟨i1, i2, i3⟩ := mns_spec w1 hxm.1 (by omega) hxm.2.2 w2
    refine ⟨i1, i2, fun d => ?_⟩
    rw [i3, w3]
    constructor
    · rintro ⟨a, b⟩; exact ⟨a, fun h => b ⟨a, h⟩⟩
    · rintro ⟨a, b⟩; exact ⟨a, fun h => b h.2⟩
  refine ⟨few_flat hx (fun x h => ⟨(hm x h).1, (hm x h).2.1⟩), fun d => ?_⟩
  rw [inS_flat (P := fun x d => (x.1 ≤ d ∧ d < x.2) ∧ ¬ inS ys d) (fun x h => (hm x h).2.2 d)]
  constructor
  · rintro ⟨x, h, h1, h2⟩; exact ⟨⟨x, h, h1⟩, h2⟩
  · rintro ⟨⟨x, h, h1⟩, h2⟩; exact ⟨x, h, h1, h2⟩
end Go.Proofs.Ytiabjlaganmloaa
