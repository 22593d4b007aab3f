/-
  What must come ahead of what: walks, rings, sorted orders, how far it is at least, the ring that is told. Plain Lean.
-/
import Derived.Test.YtonhooaboieapaaJuQ
namespace Go.Proofs.Ytonhooaboieapaa
set_option linter.unusedVariables false
/-- A walk of so many arcs. -/
def Wk (R : Nat → Nat → Prop) : Nat → Nat → Nat → Prop
  | 0, x, y => x = y
  | j + 1, x, y => ∃ z, R x z ∧ Wk R j z y
variable {R : Nat → Nat → Prop}
theorem Wk.add {i j x y z : Nat} (h : Wk R i x y) (g : Wk R j y z) : Wk R (i + j) x z := by
  induction i generalizing x with
  | zero => cases h; rw [Nat.zero_add]; exact g
  | succ i ih =>
    obtain ⟨w, h1, h2⟩ := h
    rw [show i + 1 + j = (i + j) + 1 by omega]
    exact ⟨w, h1, ih h2⟩
theorem Wk.one {x y : Nat} (h : R x y) : Wk R 1 x y := ⟨y, h, rfl⟩
theorem Wk.snoc {j x y z : Nat} (h : Wk R j x y) (g : R y z) : Wk R (j + 1) x z := h.add (Wk.one g)
theorem Wk.split {i j x z : Nat} (h : Wk R (i + j) x z) : ∃ y, Wk R i x y ∧ Wk R j y z := by
  induction i generalizing x with
  | zero => rw [Nat.zero_add] at h; exact ⟨x, rfl, h⟩
  | succ i ih =>
    rw [show i + 1 + j = (i + j) + 1 by omega] at h
    obtain ⟨w, h1, h2⟩ := h
    obtain ⟨y, h3, h4⟩ := ih h2
    exact ⟨y, ⟨w, h1, h3⟩, h4⟩
/-- It lies on a ring. -/
def RgN (R : Nat → Nat → Prop) (x : Nat) : Prop := ∃ j, Wk R (j + 1) x x
/-- It may come next: it is not there, and all that it needs is. -/
def AvN (R : Nat → Nat → Prop) (n : Nat) (out : List Nat) (x : Nat) : Prop := x < n ∧ x ∉ out ∧ ∀ y, R x y → y ∈ out
/-- Each that is told is the least that may come next. -/
def So (R : Nat → Nat → Prop) (n : Nat) (out : List Nat) : Prop := ∀ i x, out[i]? = some x → AvN R n (out.take i) x ∧ ∀ z, AvN R n (out.take i) z → x ≤ z
theorem So.nil (n : Nat) : So R n [] := fun i x h => by simp at h
theorem So.snoc {n : Nat} {out : List Nat} (h : So R n out) {x : Nat} (hx : AvN R n out x) (hl : ∀ z, AvN R n out z → x ≤ z) : So R n (out ++ [x]) := fun i y hy => by
  rcases Nat.lt_trichotomy i out.length with hi | hi | hi
  · rw [List.getElem?_append_left hi] at hy
    have := h i y hy
    rwa [List.take_append_of_le_length (by omega)]
  · subst hi
    rw [List.getElem?_append_right (Nat.le_refl _)] at hy
    simp at hy
    subst hy
    rw [List.take_append_of_le_length (Nat.le_refl _), List.take_length]
    exact ⟨hx, hl⟩
  · rw [List.getElem?_eq_none (by simp; omega)] at hy
    cases hy
theorem So.lt {n : Nat} {out : List Nat} (h : So R n out) {x : Nat} (hx : x ∈ out) : x < n := by
  obtain ⟨i, hi⟩ := List.mem_iff_getElem?.1 hx
  exact (h i x hi).1.1
theorem So.unique {n : Nat} {out out' : List Nat} (hl : out.length = out'.length) (h : So R n out) (g : So R n out') : out = out' := by
  have hk : ∀ k, k ≤ out.length → out.take k = out'.take k := by
    intro k
    induction k with
    | zero => intro _; simp
    | succ k ih =>
      intro hk
      have e := ih (by omega)
      have h1 : out[k]? = some out[k] := List.getElem?_eq_getElem (by omega)
      have h2 : out'[k]? = some out'[k] := List.getElem?_eq_getElem (by omega)
      have a := h k _ h1
      have b := g k _ h2
      rw [← e] at b
      have e2 : out[k] = out'[k] := Nat.le_antisymm (a.2 _ b.1) (b.2 _ a.1)
      rw [List.take_succ_eq_append_getElem (by omega), List.take_succ_eq_append_getElem (show k < out'.length by omega), e, e2]
  have := hk out.length (Nat.le_refl _)
  rwa [List.take_length, hl, List.take_length] at this
/-- No two of them are alike. -/
theorem So.apart {n : Nat} {out : List Nat} (h : So R n out) {i j x : Nat} (hi : out[i]? = some x) (hj : out[j]? = some x) : i = j := by
  have key : ∀ i j, i < j → out[i]? = some x → out[j]? = some x → False := fun i j hij hi hj => by
    refine (h j x hj).1.2.1 (List.mem_iff_getElem?.2 ⟨i, ?_⟩)
    rw [List.getElem?_take_of_lt hij]
    exact hi
  rcases Nat.lt_trichotomy i j with h1 | h1 | h1
  · exact (key i j h1 hi hj).elim
  · exact h1
  · exact (key j i h1 hj hi).elim
/-- What a node needs stands ahead of it. -/
theorem So.ahead {n : Nat} {out : List Nat} (h : So R n out) {i x y : Nat} (hi : out[i]? = some x) (hr : R x y) : ∃ j, j < i ∧ out[j]? = some y := by
  obtain ⟨j, hj⟩ := List.mem_iff_getElem?.1 ((h i x hi).1.2.2 y hr)
  have hji : j < i := by
    rcases Nat.lt_or_ge j i with h' | h'
    · exact h'
    · rw [List.getElem?_eq_none (by rw [List.length_take]; omega)] at hj; cases hj
  exact ⟨j, hji, by rwa [List.getElem?_take_of_lt hji] at hj⟩
/-- What lies in an order lies on no ring. -/
theorem So.noring {n : Nat} {out : List Nat} (h : So R n out) {x : Nat} (hx : x ∈ out) : ¬ RgN R x := by
  rintro ⟨k, hk⟩
  have key : ∀ k i x y, out[i]? = some x → Wk R k x y → ∃ j, j + k ≤ i ∧ out[j]? = some y := by
    intro k
    induction k with
    | zero =>
      intro i x y hi hw
      cases hw
      exact ⟨i, by omega, hi⟩
    | succ k ih =>
      intro i x y hi hw
      obtain ⟨z, h1, h2⟩ := hw
      obtain ⟨j, hj, hj2⟩ := h.ahead hi h1
      obtain ⟨j', h3, h4⟩ := ih j z y hj2 h2
      exact ⟨j', by omega, h4⟩
  obtain ⟨i, hi⟩ := List.mem_iff_getElem?.1 hx
  obtain ⟨j, h1, h2⟩ := key _ i x x hi hk
  have := h.apart hi h2
  omega
/-- If none may come next and one is left, there is a ring. -/
theorem ring_there {n : Nat} {out : List Nat} (hR : ∀ x y, R x y → x < n ∧ y < n) (hno : ∀ x, ¬ AvN R n out x) {x : Nat} (hx : x < n) (hxo : x ∉ out) : ∃ y, y < n ∧ RgN R y := by
  have hnx : ∀ z, ∃ w, z < n ∧ z ∉ out → R z w ∧ w < n ∧ w ∉ out := fun z => by
    rcases Classical.em (z < n ∧ z ∉ out) with hz | hz
    · rcases Classical.em (∃ w, R z w ∧ w < n ∧ w ∉ out) with ⟨w, hw⟩ | hw
      · exact ⟨w, fun _ => hw⟩
      · refine absurd ⟨hz.1, hz.2, fun y hy => ?_⟩ (hno z)
        rcases Classical.em (y ∈ out) with h | h
        · exact h
        · exact absurd ⟨y, hy, (hR z y hy).2, h⟩ hw
    · exact ⟨0, fun h => absurd h hz⟩
  obtain ⟨nxt, hnxt⟩ : ∃ nxt : Nat → Nat, ∀ z, z < n ∧ z ∉ out → R z (nxt z) ∧ nxt z < n ∧ nxt z ∉ out := ⟨fun z => (hnx z).choose, fun z => (hnx z).choose_spec⟩
  have hit : ∃ f : Nat → Nat, f 0 = x ∧ ∀ j, f (j + 1) = nxt (f j) := ⟨fun j => Nat.rec x (fun _ y => nxt y) j, rfl, fun j => rfl⟩
  obtain ⟨f, f0, fs⟩ := hit
  have hin : ∀ j, f j < n ∧ f j ∉ out := by
    intro j
    induction j with
    | zero => rw [f0]; exact ⟨hx, hxo⟩
    | succ j ih => rw [fs]; exact (hnxt _ ih).2
  have hwk : ∀ k i, Wk R k (f i) (f (i + k)) := by
    intro k
    induction k with
    | zero => intro i; exact rfl
    | succ k ih =>
      intro i
      refine ⟨f (i + 1), ?_, ?_⟩
      · rw [fs]; exact (hnxt _ (hin i)).1
      · have := ih (i + 1)
        rwa [show i + 1 + k = i + (k + 1) by omega] at this
  obtain ⟨a, b, hab, hb, e⟩ := php n f (fun j _ => (hin j).1)
  refine ⟨f a, (hin a).1, b - a - 1, ?_⟩
  have := hwk (b - a) a
  rw [show a + (b - a) = b by omega, ← e] at this
  rwa [show b - a - 1 + 1 = b - a by omega]
/-- How many arcs at least lead from one to another (one or more). -/
def Ds (R : Nat → Nat → Prop) (j x y : Nat) : Prop := 0 < j ∧ Wk R j x y ∧ ∀ i, 0 < i → Wk R i x y → j ≤ i
theorem Ds.unique {j k x y : Nat} (h : Ds R j x y) (g : Ds R k x y) : j = k := Nat.le_antisymm (h.2.2 k g.1 g.2.1) (g.2.2 j h.1 h.2.1)
theorem ds_there {j x y : Nat} (hj : 0 < j) (h : Wk R j x y) : ∃ k, k ≤ j ∧ Ds R k x y := by
  have key : ∀ m, ∀ j, j ≤ m → 0 < j → Wk R j x y → ∃ k, k ≤ j ∧ Ds R k x y := by
    intro m
    induction m with
    | zero => intro j h1 h2; omega
    | succ m ih =>
      intro j h1 h2 h3
      rcases Classical.em (∃ i, 0 < i ∧ i < j ∧ Wk R i x y) with ⟨i, a, b, c⟩ | hn
      · obtain ⟨k, hk, hd⟩ := ih i (by omega) a c
        exact ⟨k, by omega, hd⟩
      · refine ⟨j, Nat.le_refl _, h2, h3, fun i a c => ?_⟩
        rcases Nat.lt_or_ge i j with hlt | hge
        · exact absurd ⟨i, a, hlt, c⟩ hn
        · exact hge
  exact key j j (Nat.le_refl _) hj h
/-- One arc nearer. -/
theorem Ds.next {j x y : Nat} (h : Ds R (j + 1) x y) (hj : 0 < j) : ∃ z, R x z ∧ Ds R j z y := by
  obtain ⟨z, h1, h2⟩ := h.2.1
  refine ⟨z, h1, hj, h2, fun i hi hw => ?_⟩
  have := h.2.2 (i + 1) (by omega) ⟨z, h1, hw⟩
  omega
/-- The ring that is told: from a on again and again the least node that is nearer to the end by one; L is how far it is from a to a. -/
structure Rtl (R : Nat → Nat → Prop) (a L : Nat) (out : List Nat) : Prop where
  far : Ds R L a a
  first : out[0]? = some a
  len : out.length ≤ L
  next : ∀ i x y, out[i]? = some x → out[i + 1]? = some y → R x y ∧ Ds R (L - (i + 1)) y a ∧ ∀ z, R x z → Ds R (L - (i + 1)) z a → y ≤ z
theorem Rtl.start {a L : Nat} (h : Ds R L a a) : Rtl R a L [a] := ⟨h, rfl, h.1, fun i x y h1 h2 => by
  rw [List.getElem?_eq_none (by simp)] at h2; cases h2⟩
theorem Rtl.dist {a L : Nat} {out : List Nat} (h : Rtl R a L out) : ∀ i x, out[i]? = some x → Ds R (L - i) x a := by
  intro i
  induction i with
  | zero =>
    intro x hx
    rw [h.first] at hx
    cases hx
    exact h.far
  | succ i ih =>
    intro y hy
    have hi : i + 1 < out.length := by
      rcases Nat.lt_or_ge (i + 1) out.length with h' | h'
      · exact h'
      · rw [List.getElem?_eq_none h'] at hy; cases hy
    exact (h.next i _ y (List.getElem?_eq_getElem (by omega)) hy).2.1
theorem Rtl.snoc {a L : Nat} {out : List Nat} (h : Rtl R a L out) {x y : Nat} (hl : out.length < L) (hx : out[out.length - 1]? = some x) (h1 : R x y) (h2 : Ds R (L - out.length) y a) (h3 : ∀ z, R x z → Ds R (L - out.length) z a → y ≤ z) : Rtl R a L (out ++ [y]) := by
  have h0 : 0 < out.length := by
    have := h.first
    rcases Nat.eq_zero_or_pos out.length with e | e
    · rw [List.getElem?_eq_none (by omega)] at this; cases this
    · exact e
  refine ⟨h.far, by rw [List.getElem?_append_left h0]; exact h.first, by simp; omega, fun i u v hu hv => ?_⟩
  rcases Nat.lt_trichotomy (i + 1) out.length with hi | hi | hi
  · rw [List.getElem?_append_left (by omega)] at hu hv
    exact h.next i u v hu hv
  · rw [List.getElem?_append_left (by omega)] at hu
    rw [List.getElem?_append_right (by omega), show i + 1 - out.length = 0 by omega] at hv
    simp at hv
    subst hv
    rw [show out.length - 1 = i by omega, hu] at hx
    cases hx
    rw [hi]
    exact ⟨h1, h2, h3⟩
  · rw [List.getElem?_eq_none (by simp; omega)] at hv
    cases hv
theorem Rtl.unique {a L L' : Nat} {out out' : List Nat} (h : Rtl R a L out) (g : Rtl R a L' out') (hl : out.length = L) (gl : out'.length = L') : out = out' := by
  obtain rfl := h.far.unique g.far
  have hk : ∀ k, k < out.length → out[k]? = out'[k]? := by
    intro k
    induction k with
    | zero => intro _; rw [h.first, g.first]
    | succ k ih =>
      intro hk
      have e := ih (by omega)
      have a1 : out[k]? = some out[k] := List.getElem?_eq_getElem (by omega)
      have a2 : out[k + 1]? = some out[k + 1] := List.getElem?_eq_getElem (by omega)
      have b2 : out'[k + 1]? = some out'[k + 1] := List.getElem?_eq_getElem (by omega)
      have p := h.next k _ _ a1 a2
      have q := g.next k _ _ (e ▸ a1) b2
      rw [a2, b2, Nat.le_antisymm (p.2.2 _ q.1 q.2.1) (q.2.2 _ p.1 p.2.1)]
  refine List.ext_getElem? (fun k => ?_)
  rcases Nat.lt_or_ge k out.length with hlt | hge
  · exact hk k hlt
  · rw [List.getElem?_eq_none hge, List.getElem?_eq_none (by omega)]
/-- Unlike nodes. -/
theorem Rtl.apart {a L : Nat} {out : List Nat} (h : Rtl R a L out) {i j x : Nat} (hi : out[i]? = some x) (hj : out[j]? = some x) : i = j := by
  have a1 := h.dist i x hi
  have a2 := h.dist j x hj
  have e := a1.unique a2
  have b1 := a1.1
  have b2 := a2.1
  omega
/-- The last one needs the first one. -/
theorem Rtl.last {a L : Nat} {out : List Nat} (h : Rtl R a L out) (hl : out.length = L) {x : Nat} (hx : out[L - 1]? = some x) : R x a := by
  have h1 := h.dist (L - 1) x hx
  have hL := h.far.1
  rw [show L - (L - 1) = 1 by omega] at h1
  obtain ⟨z, h2, h3⟩ := h1.2.1
  cases h3
  exact h2
/-- What is needed, by one of from, and so on. -/
def Nd (R : Nat → Nat → Prop) (fr : List Nat) (y : Nat) : Prop := ∃ x ∈ fr, ∃ j, Wk R (j + 1) x y
theorem Nd.of {fr : List Nat} {x y : Nat} (hx : x ∈ fr) (h : R x y) : Nd R fr y := ⟨x, hx, 0, Wk.one h⟩
theorem Nd.step {fr : List Nat} {y z : Nat} (h : Nd R fr y) (g : R y z) : Nd R fr z := by
  obtain ⟨x, hx, j, hj⟩ := h
  exact ⟨x, hx, j + 1, hj.snoc g⟩
/-- Called for by another of it, or by one of from. -/
theorem Nd.called {fr : List Nat} {y : Nat} (h : Nd R fr y) : ∃ x, (x ∈ fr ∨ Nd R fr x) ∧ R x y := by
  obtain ⟨x, hx, j, hj⟩ := h
  obtain ⟨z, h1, h2⟩ := hj.split (i := j) (j := 1)
  obtain ⟨w, h3, h4⟩ := h2
  cases h4
  cases j with
  | zero => cases h1; exact ⟨x, .inl hx, h3⟩
  | succ j => exact ⟨z, .inr ⟨x, hx, j, h1⟩, h3⟩
/-- What has all that from needs, and all that its own need, has all that is needed. -/
theorem Nd.in {fr : List Nat} {P : Nat → Prop} (h1 : ∀ x ∈ fr, ∀ y, R x y → P y) (h2 : ∀ x y, P x → R x y → P y) {y : Nat} (h : Nd R fr y) : P y := by
  obtain ⟨x, hx, j, hj⟩ := h
  obtain ⟨z, h3, h4⟩ := hj
  have key : ∀ j z, P z → Wk R j z y → P y := by
    intro j
    induction j with
    | zero => intro z hz hw; cases hw; exact hz
    | succ j ih =>
      intro z hz hw
      obtain ⟨u, a, b⟩ := hw
      exact ih u (h2 z u hz a) b
  exact key j z (h1 x hx z h3) h4
end Go.Proofs.Ytonhooaboieapaa
