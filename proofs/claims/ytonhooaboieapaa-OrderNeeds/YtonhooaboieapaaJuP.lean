/-
  Places within places: parents, steps up, rings, lying within, where two meet. Plain Lean.
-/
import Derived.Test.YtonhooaboieapaaRows
namespace Go.Proofs.Ytonhooaboieapaa
set_option linter.unusedVariables false
/-- The parent of a place; none: it is a root, or no place. -/
def pa (ps : List Int) (i : Nat) : Option Nat := match ps[i]? with
  | some k => if k < 0 then none else some k.toNat
  | none => none
/-- So many steps up. -/
def ups (ps : List Int) : Nat → Nat → Option Nat
  | 0, i => some i
  | j + 1, i => match pa ps i with
    | some k => ups ps j k
    | none => none
theorem ups_zero (ps : List Int) (i : Nat) : ups ps 0 i = some i := rfl
theorem ups_some {ps : List Int} {i k : Nat} (h : pa ps i = some k) (j : Nat) : ups ps (j + 1) i = ups ps j k := by
  show (match pa ps i with | some k => ups ps j k | none => none) = _
  rw [h]
theorem ups_none {ps : List Int} {i : Nat} (h : pa ps i = none) (j : Nat) : ups ps (j + 1) i = none := by
  show (match pa ps i with | some k => ups ps j k | none => none) = _
  rw [h]
theorem ups_add (ps : List Int) : ∀ (j m i : Nat), ups ps (j + m) i = (ups ps j i).bind (ups ps m)
  | 0, m, i => by rw [Nat.zero_add]; rfl
  | j + 1, m, i => by
    rw [Nat.add_right_comm]
    cases h : pa ps i with
    | none => rw [ups_none h, ups_none h]; rfl
    | some k => rw [ups_some h, ups_some h, ups_add ps j m k]
theorem ups_one (ps : List Int) (i : Nat) : ups ps 1 i = pa ps i := by
  cases h : pa ps i with
  | none => rw [show (1 : Nat) = 0 + 1 from rfl, ups_none h]
  | some k => rw [show (1 : Nat) = 0 + 1 from rfl, ups_some h]; rfl
theorem ups_succ (ps : List Int) (j i : Nat) : ups ps (j + 1) i = (ups ps j i).bind (pa ps) := by
  rw [ups_add]
  cases ups ps j i with
  | none => rfl
  | some k => exact ups_one ps k
theorem ups_later {ps : List Int} {j m i : Nat} (h : ups ps j i = none) (hm : j ≤ m) : ups ps m i = none := by
  obtain ⟨r, rfl⟩ : ∃ r, m = j + r := ⟨m - j, by omega⟩
  rw [ups_add, h]; rfl
theorem ups_ahead {ps : List Int} {j m i p : Nat} (h : ups ps m i = some p) (hm : j ≤ m) : ∃ q, ups ps j i = some q := by
  cases hq : ups ps j i with
  | none => rw [ups_later hq hm] at h; cases h
  | some q => exact ⟨q, rfl⟩
/-- Each parent is a place, or there is none. -/
def Okp (ps : List Int) : Prop := ∀ (i : Nat) (k : Int), ps[i]? = some k → k = -1 ∨ (0 ≤ k ∧ k < (ps.length : Int))
theorem Okp.pa {ps : List Int} (h : Okp ps) {i k : Nat} (e : pa ps i = some k) : k < ps.length := by
  unfold Go.Proofs.Ytonhooaboieapaa.pa at e
  split at e
  · next x hx =>
    split at e
    · cases e
    · have := h i x hx
      have : x.toNat = k := Option.some.inj e
      omega
  · cases e
theorem Okp.ups {ps : List Int} (h : Okp ps) : ∀ {j i p : Nat}, i < ps.length → ups ps j i = some p → p < ps.length
  | 0, i, p, hi, e => by rw [← Option.some.inj e]; exact hi
  | j + 1, i, p, hi, e => by
    cases hq : Go.Proofs.Ytonhooaboieapaa.pa ps i with
    | none => rw [ups_none hq] at e; cases e
    | some k => rw [ups_some hq] at e; exact Okp.ups h (h.pa hq) e
/-- A place on a ring. -/
def Rg (ps : List Int) (i : Nat) : Prop := ∃ j, 0 < j ∧ ups ps j i = some i
/-- Two of n + 1 numbers below n are alike. -/
theorem php : ∀ (n : Nat) (f : Nat → Nat), (∀ j, j ≤ n → f j < n) → ∃ i j, i < j ∧ j ≤ n ∧ f i = f j
  | 0, f, h => absurd (h 0 (Nat.le_refl _)) (by omega)
  | n + 1, f, h => by
    by_cases hv : ∃ i, i ≤ n ∧ f i = f (n + 1)
    · obtain ⟨i, hi, e⟩ := hv
      exact ⟨i, n + 1, by omega, Nat.le_refl _, e⟩
    · have hne : ∀ i, i ≤ n → f i ≠ f (n + 1) := fun i hi e => hv ⟨i, hi, e⟩
      obtain ⟨i, j, hij, hj, e⟩ := php n (fun j => if f j = n then f (n + 1) else f j) (fun j hj => by
        have h1 := h j (by omega)
        have h2 := h (n + 1) (Nat.le_refl _)
        have h3 := hne j hj
        split <;> omega)
      refine ⟨i, j, hij, by omega, ?_⟩
      have h1 := hne i (by omega)
      have h2 := hne j hj
      split at e <;> split at e <;> omega
/-- Either a place leads to a root in as many steps as there are places, or to a ring. -/
theorem ends_or_ring {ps : List Int} (h : Okp ps) {i : Nat} (hi : i < ps.length) : ups ps ps.length i = none ∨ ∃ j p, j < ps.length ∧ ups ps j i = some p ∧ Rg ps p := by
  cases hq : ups ps ps.length i with
  | none => exact .inl rfl
  | some q =>
    right
    have hs : ∀ j, j ≤ ps.length → ∃ p, ups ps j i = some p := fun j hj => ups_ahead hq hj
    obtain ⟨a, b, hab, hb, e⟩ := php ps.length (fun j => (ups ps j i).getD 0) (fun j hj => by
      obtain ⟨p, hp⟩ := hs j hj
      show (ups ps j i).getD 0 < _
      rw [hp]
      exact h.ups hi hp)
    obtain ⟨p, hp⟩ := hs a (by omega)
    obtain ⟨p2, hp2⟩ := hs b hb
    rw [hp, hp2] at e
    obtain rfl : p = p2 := e
    refine ⟨a, p, by omega, hp, b - a, by omega, ?_⟩
    rw [show b = a + (b - a) from by omega, ups_add, hp] at hp2
    exact hp2
/-- A tree: each parent is a place, and there is no ring. -/
def Tre (ps : List Int) : Prop := Okp ps ∧ ∀ i, i < ps.length → ¬ Rg ps i
theorem Tre.ends {ps : List Int} (h : Tre ps) {i : Nat} (hi : i < ps.length) : ups ps ps.length i = none := by
  rcases ends_or_ring h.1 hi with e | ⟨j, p, -, hp, hr⟩
  · exact e
  · exact absurd hr (h.2 p (h.1.ups hi hp))
/-- How deep a place lies. -/
def Dee (ps : List Int) (i d : Nat) : Prop := (∃ p, ups ps d i = some p) ∧ ups ps (d + 1) i = none
theorem Dee.unique {ps : List Int} {i d e : Nat} (h : Dee ps i d) (k : Dee ps i e) : d = e := by
  obtain ⟨⟨p, hp⟩, h2⟩ := h
  obtain ⟨⟨q, hq⟩, k2⟩ := k
  rcases Nat.lt_trichotomy d e with h' | h' | h'
  · rw [ups_later h2 (show d + 1 ≤ e by omega)] at hq; cases hq
  · exact h'
  · rw [ups_later k2 (show e + 1 ≤ d by omega)] at hp; cases hp
theorem dee_of_ends {ps : List Int} {i : Nat} : ∀ {m : Nat}, ups ps m i = none → ∃ d, d < m ∧ Dee ps i d
  | 0, h => by cases h
  | m + 1, h => by
    cases hm : ups ps m i with
    | none => obtain ⟨d, h1, h2⟩ := dee_of_ends hm; exact ⟨d, by omega, h2⟩
    | some p => exact ⟨m, by omega, ⟨p, hm⟩, h⟩
theorem Tre.dee {ps : List Int} (h : Tre ps) {i : Nat} (hi : i < ps.length) : ∃ d, d < ps.length ∧ Dee ps i d := dee_of_ends (h.ends hi)
theorem Dee.root {ps : List Int} {i : Nat} (h : pa ps i = none) : Dee ps i 0 := ⟨⟨i, rfl⟩, ups_none h 0⟩
theorem Dee.kid {ps : List Int} {i k d : Nat} (h : pa ps i = some k) (hd : Dee ps k d) : Dee ps i (d + 1) := by
  obtain ⟨⟨p, hp⟩, h2⟩ := hd
  exact ⟨⟨p, by rw [ups_some h]; exact hp⟩, by rw [ups_some h]; exact h2⟩
/-- A place lies within another. -/
def Wn (ps : List Int) (i p : Nat) : Prop := ∃ j, ups ps j i = some p
theorem Wn.refl (ps : List Int) (i : Nat) : Wn ps i i := ⟨0, rfl⟩
theorem Wn.trans {ps : List Int} {i k p : Nat} (h : Wn ps i k) (g : Wn ps k p) : Wn ps i p := by
  obtain ⟨j, hj⟩ := h
  obtain ⟨m, hm⟩ := g
  exact ⟨j + m, by rw [ups_add, hj]; exact hm⟩
theorem Wn.antisymm {ps : List Int} (hT : Tre ps) {i k : Nat} (hi : i < ps.length) (h : Wn ps i k) (g : Wn ps k i) : i = k := by
  obtain ⟨j, hj⟩ := h
  obtain ⟨m, hm⟩ := g
  by_cases h0 : j = 0
  · subst h0; exact Option.some.inj hj
  · exact absurd ⟨j + m, by omega, by rw [ups_add, hj]; exact hm⟩ (hT.2 i hi)
theorem Wn.lt {ps : List Int} (hT : Okp ps) {i k : Nat} (hi : i < ps.length) (h : Wn ps i k) : k < ps.length := by
  obtain ⟨j, hj⟩ := h
  exact hT.ups hi hj
/-- Those over a place stand in one line. -/
theorem Wn.line {ps : List Int} {i p q : Nat} (h : Wn ps i p) (g : Wn ps i q) : Wn ps p q ∨ Wn ps q p := by
  obtain ⟨j, hj⟩ := h
  obtain ⟨m, hm⟩ := g
  rcases Nat.le_total j m with hl | hl
  · left
    rw [show m = j + (m - j) from by omega, ups_add, hj] at hm
    exact ⟨m - j, hm⟩
  · right
    rw [show j = m + (j - m) from by omega, ups_add, hm] at hj
    exact ⟨j - m, hj⟩
theorem Wn.cases {ps : List Int} {i p : Nat} (h : Wn ps i p) : i = p ∨ ∃ k, pa ps i = some k ∧ Wn ps k p := by
  obtain ⟨j, hj⟩ := h
  cases j with
  | zero => exact .inl (Option.some.inj hj)
  | succ j =>
    cases hq : pa ps i with
    | none => rw [ups_none hq] at hj; cases hj
    | some k => rw [ups_some hq] at hj; exact .inr ⟨k, rfl, j, hj⟩
theorem Wn.deep {ps : List Int} {i p d e : Nat} (h : Wn ps i p) (hi : Dee ps i d) (hp : Dee ps p e) : ups ps (d - e) i = some p ∧ e ≤ d := by
  obtain ⟨j, hj⟩ := h
  have h2 : Dee ps i (j + e) := by
    obtain ⟨⟨q, hq⟩, h3⟩ := hp
    exact ⟨⟨q, by rw [ups_add, hj]; exact hq⟩, by rw [Nat.add_assoc, ups_add, hj]; exact h3⟩
  obtain rfl := hi.unique h2
  exact ⟨by rw [show j + e - e = j from by omega]; exact hj, by omega⟩
/-- Where two places meet: over both, and whatever is over both is over it. -/
def Mt (ps : List Int) (i k m : Nat) : Prop := Wn ps i m ∧ Wn ps k m ∧ ∀ p, Wn ps i p → Wn ps k p → Wn ps m p
theorem Mt.symm {ps : List Int} {i k m : Nat} (h : Mt ps i k m) : Mt ps k i m := ⟨h.2.1, h.1, fun p h1 h2 => h.2.2 p h2 h1⟩
theorem Mt.unique {ps : List Int} (hT : Tre ps) {i k m q : Nat} (hi : i < ps.length) (h : Mt ps i k m) (g : Mt ps i k q) : m = q :=
  Wn.antisymm hT (h.1.lt hT.1 hi) (h.2.2 q g.1 g.2.1) (g.2.2 m h.1 h.2.1)
theorem mt_there {ps : List Int} {i k : Nat} : ∀ (j p : Nat), ups ps j i = some p → Wn ps k p → ∃ m, Mt ps i k m := by
  intro j
  induction j using Nat.strongRecOn with
  | ind j ih =>
    intro p hp hk
    by_cases hl : ∃ r q, r < j ∧ ups ps r i = some q ∧ Wn ps k q
    · obtain ⟨r, q, hr, hq, hkq⟩ := hl
      exact ih r hr q hq hkq
    · refine ⟨p, ⟨j, hp⟩, hk, fun q hq hkq => ?_⟩
      obtain ⟨r, hr⟩ := hq
      rcases Nat.lt_or_ge r j with h | h
      · exact absurd ⟨r, q, h, hr, hkq⟩ hl
      · rw [show r = j + (r - j) from by omega, ups_add, hp] at hr
        exact ⟨r - j, hr⟩
/-- There is a place where two meet, just if one is over both. -/
theorem mt_iff {ps : List Int} {i k : Nat} : (∃ m, Mt ps i k m) ↔ ∃ p, Wn ps i p ∧ Wn ps k p :=
  ⟨fun ⟨m, h⟩ => ⟨m, h.1, h.2.1⟩, fun ⟨p, ⟨j, hj⟩, hk⟩ => mt_there j p hj hk⟩
/-- The path of a place, in so many steps at most. -/
def pth (ps : List Int) : Nat → Nat → List Nat
  | 0, i => [i]
  | f + 1, i => i :: match pa ps i with
    | some k => pth ps f k
    | none => []
theorem pth_some {ps : List Int} {i k : Nat} (h : pa ps i = some k) (f : Nat) : pth ps (f + 1) i = i :: pth ps f k := by
  show i :: (match pa ps i with | some k => pth ps f k | none => []) = _
  rw [h]
theorem pth_none {ps : List Int} {i : Nat} (h : pa ps i = none) (f : Nat) : pth ps (f + 1) i = [i] := by
  show i :: (match pa ps i with | some k => pth ps f k | none => []) = _
  rw [h]
theorem pth_len {ps : List Int} : ∀ {f i d : Nat}, Dee ps i d → d ≤ f → (pth ps f i).length = d + 1
  | 0, i, d, h, hf => by
    obtain rfl : d = 0 := by omega
    rfl
  | f + 1, i, d, h, hf => by
    cases hq : pa ps i with
    | none => rw [pth_none hq, h.unique (Dee.root hq)]; rfl
    | some k =>
      rw [pth_some hq]
      cases d with
      | zero => obtain ⟨-, h2⟩ := h; rw [ups_some hq] at h2; cases h2
      | succ d =>
        have hk : Dee ps k d := by
          obtain ⟨⟨p, hp⟩, h2⟩ := h
          exact ⟨⟨p, by rw [ups_some hq] at hp; exact hp⟩, by rw [ups_some hq] at h2; exact h2⟩
        rw [List.length_cons, pth_len hk (by omega)]
theorem pth_get {ps : List Int} : ∀ {f i d j : Nat}, Dee ps i d → d ≤ f → (pth ps f i)[j]? = ups ps j i
  | 0, i, d, j, h, hf => by
    obtain rfl : d = 0 := by omega
    cases j with
    | zero => rfl
    | succ j => rw [ups_later h.2 (by omega)]; rfl
  | f + 1, i, d, j, h, hf => by
    cases hq : pa ps i with
    | none =>
      rw [pth_none hq]
      cases j with
      | zero => rfl
      | succ j => rw [ups_none hq]; rfl
    | some k =>
      rw [pth_some hq]
      cases d with
      | zero => obtain ⟨-, h2⟩ := h; rw [ups_some hq] at h2; cases h2
      | succ d =>
        have hk : Dee ps k d := by
          obtain ⟨⟨p, hp⟩, h2⟩ := h
          exact ⟨⟨p, by rw [ups_some hq] at hp; exact hp⟩, by rw [ups_some hq] at h2; exact h2⟩
        cases j with
        | zero => rfl
        | succ j => rw [List.getElem?_cons_succ, pth_get hk (by omega), ups_some hq]
theorem pth_mem {ps : List Int} {f i d p : Nat} (h : Dee ps i d) (hf : d ≤ f) : p ∈ pth ps f i ↔ Wn ps i p := by
  rw [List.mem_iff_getElem?]
  constructor
  · rintro ⟨j, hj⟩
    exact ⟨j, by rw [pth_get h hf] at hj; exact hj⟩
  · rintro ⟨j, hj⟩
    exact ⟨j, by rw [pth_get h hf]; exact hj⟩
end Go.Proofs.Ytonhooaboieapaa
