/-
  How many there are; places that are nobody's parent taken off, as long as there are any: what stays is on a ring. Plain Lean.
-/
import Derived.Test.YtonhooaboieapaaJuQ
namespace Go.Proofs.Ytonhooaboieapaa
set_option linter.unusedVariables false
/-- How many of the first numbers are so. -/
def cn (f : Nat → Bool) : Nat → Nat
  | 0 => 0
  | n + 1 => cn f n + (if f n then 1 else 0)
theorem cn_le (f : Nat → Bool) : ∀ n, cn f n ≤ n
  | 0 => Nat.le_refl _
  | n + 1 => by
    have := cn_le f n
    show cn f n + (if f n then 1 else 0) ≤ n + 1
    split <;> omega
theorem cn_congr {f g : Nat → Bool} : ∀ {n : Nat}, (∀ k, k < n → f k = g k) → cn f n = cn g n
  | 0, _ => rfl
  | n + 1, h => by
    show cn f n + (if f n then 1 else 0) = cn g n + (if g n then 1 else 0)
    rw [cn_congr (fun k hk => h k (by omega)), h n (by omega)]
theorem cn_less {f g : Nat → Bool} {x : Nat} (hf : f x = true) (hg : g x = false) (hk : ∀ k, k ≠ x → f k = g k) : ∀ {n : Nat}, x < n → cn f n = cn g n + 1
  | 0, h => by omega
  | n + 1, h => by
    show cn f n + (if f n then 1 else 0) = cn g n + (if g n then 1 else 0) + 1
    by_cases he : n = x
    · subst he
      rw [hf, hg, cn_congr (fun k hk' => hk k (by omega))]
      simp
    · rw [cn_less hf hg hk (n := n) (by omega), hk n he]
      omega
theorem cn_zero {f : Nat → Bool} : ∀ {n : Nat}, cn f n = 0 → ∀ k, k < n → f k = false
  | 0, _, k, hk => by omega
  | n + 1, h, k, hk => by
    have h' : cn f n + (if f n then 1 else 0) = 0 := h
    have h1 : f n = false := by
      cases e : f n
      · rfl
      · rw [e] at h'; simp at h'
    by_cases he : k = n
    · subst he; exact h1
    · exact cn_zero (n := n) (by omega) k (by omega)
theorem cn_pos {f : Nat → Bool} : ∀ {n : Nat}, cn f n ≠ 0 → ∃ k, k < n ∧ f k = true
  | 0, h => absurd rfl h
  | n + 1, h => by
    cases e : f n
    · have : cn f n ≠ 0 := fun h0 => h (by show cn f n + (if f n then 1 else 0) = 0; rw [e, h0]; rfl)
      obtain ⟨k, hk, hf⟩ := cn_pos this
      exact ⟨k, by omega, hf⟩
    · exact ⟨n, by omega, e⟩
theorem cn_one {f : Nat → Bool} {n k : Nat} (hk : k < n) (hf : f k = true) : 0 < cn f n := by
  rcases Nat.eq_zero_or_pos (cn f n) with h | h
  · rw [cn_zero h k hk] at hf; cases hf
  · exact h
/-- A number taken off. -/
def upd (off : Nat → Bool) (x : Nat) : Nat → Bool := fun k => if k = x then true else off k
theorem upd_same (off : Nat → Bool) (x : Nat) : upd off x x = true := by simp [upd]
theorem upd_other {off : Nat → Bool} {x k : Nat} (h : k ≠ x) : upd off x k = off k := by simp [upd, h]
theorem upd_true {off : Nat → Bool} {x k : Nat} (h : off k = true) : upd off x k = true := by unfold upd; split <;> simp [h]
theorem upd_set (l : List Bool) (x : Nat) (hx : x < l.length) : (fun k => (l.set x true).getD k true) = upd (fun k => l.getD k true) x := by
  funext k
  unfold upd
  by_cases hk : k = x
  · subst hk
    simp [List.getD_eq_getElem?_getD, hx]
  · simp [List.getD_eq_getElem?_getD, hk, List.getElem?_set_ne (Ne.symm hk)]
/-- Whose parent a place is, of the first ones, those that are off left out. -/
def kd (ps : List Int) (off : Nat → Bool) (p : Nat) : Nat → Nat := cn (fun q => decide (ps.getD q (-1) = (p : Int)) && !off q)
theorem kd_upd {ps : List Int} {off : Nat → Bool} {x : Nat} (hx : off x = false) {p n : Nat} (hn : x < n) : kd ps off p n = kd ps (upd off x) p n + (if ps.getD x (-1) = (p : Int) then 1 else 0) := by
  by_cases h : ps.getD x (-1) = (p : Int)
  · rw [if_pos h]
    refine cn_less ?_ ?_ ?_ hn
    · show (decide (ps.getD x (-1) = (p : Int)) && !off x) = true
      rw [hx, decide_eq_true h]; rfl
    · simp [upd_same]
    · intro k hk
      rw [upd_other hk]
  · rw [if_neg h]
    refine cn_congr ?_
    intro k _
    by_cases hk : k = x
    · subst hk; simp only [h, decide_false, Bool.false_and]
    · rw [upd_other hk]
theorem kd_none {ps : List Int} {off : Nat → Bool} {x : Nat} (hx : off x = false) (hr : ps.getD x (-1) = -1) {p n : Nat} (hn : x < n) : kd ps (upd off x) p n = kd ps off p n := by
  rw [kd_upd hx hn, if_neg (by rw [hr]; omega), Nat.add_zero]
theorem kd_step (ps : List Int) (p n : Nat) : kd ps (fun _ => false) p (n + 1) = kd ps (fun _ => false) p n + (if ps.getD n (-1) = (p : Int) then 1 else 0) := by
  show cn _ n + (if _ then 1 else 0) = _
  congr 1
  simp
theorem left_upd {off : Nat → Bool} {x n : Nat} (hx : off x = false) (hn : x < n) : cn (fun k => !off k) n = cn (fun k => !upd off x k) n + 1 :=
  cn_less (by simp [hx]) (by simp [upd_same]) (fun k hk => by rw [upd_other hk]) hn
theorem pa_of {ps : List Int} {i : Nat} {k : Nat} (hi : i < ps.length) (h : ps.getD i (-1) = (k : Int)) : pa ps i = some k := by
  unfold pa
  have : ps[i]? = some (k : Int) := by
    rw [List.getElem?_eq_getElem hi, ← h, List.getD_eq_getElem?_getD, List.getElem?_eq_getElem hi]; rfl
  rw [this]
  simp
theorem pa_getD {ps : List Int} {i k : Nat} (h : pa ps i = some k) : i < ps.length ∧ ps.getD i (-1) = (k : Int) := by
  unfold pa at h
  split at h
  · next x hx =>
    split at h
    · cases h
    · have : x.toNat = k := Option.some.inj h
      have hl : i < ps.length := by
        rcases Nat.lt_or_ge i ps.length with h' | h'
        · exact h'
        · rw [List.getElem?_eq_none h'] at hx; cases hx
      refine ⟨hl, ?_⟩
      rw [List.getD_eq_getElem?_getD, hx]
      show x = _
      omega
  · cases h
theorem pa_root {ps : List Int} {i : Nat} (h : ps.getD i (-1) < 0) : pa ps i = none := by
  cases hq : pa ps i with
  | none => rfl
  | some k => have := (pa_getD hq).2; omega
/-- No place of a ring is off. -/
def Pl (ps : List Int) (off : Nat → Bool) : Prop := ∀ p, p < ps.length → off p = true → ¬ Rg ps p
theorem Pl.nil (ps : List Int) : Pl ps (fun _ => false) := fun p _ h => by cases h
theorem rg_child {ps : List Int} (h : Okp ps) {x : Nat} (hx : x < ps.length) (hr : Rg ps x) : ∃ q, q < ps.length ∧ ps.getD q (-1) = (x : Int) ∧ Rg ps q := by
  obtain ⟨j, hj, e⟩ := hr
  cases j with
  | zero => omega
  | succ m =>
    have e' := e
    rw [ups_succ] at e
    cases hq : ups ps m x with
    | none => rw [hq] at e; cases e
    | some q =>
      rw [hq] at e
      have hp : pa ps q = some x := e
      refine ⟨q, (pa_getD hp).1, (pa_getD hp).2, m + 1, by omega, ?_⟩
      rw [ups_some hp]; exact hq
theorem Pl.off {ps : List Int} (h : Okp ps) {off : Nat → Bool} (hP : Pl ps off) {x : Nat} (h0 : kd ps off x ps.length = 0) : Pl ps (upd off x) := by
  intro p hp ho hr
  by_cases he : p = x
  · subst he
    obtain ⟨q, hq, e, hrq⟩ := rg_child h hp hr
    have := cn_zero h0 q hq
    simp only [e, decide_true, Bool.true_and] at this
    refine hP q hq ?_ hrq
    cases h2 : off q
    · rw [h2] at this; cases this
    · rfl
  · rw [upd_other he] at ho
    exact hP p hp ho hr
theorem rg_up {ps : List Int} {r s p : Nat} (hr : Rg ps r) (h : ups ps s r = some p) : Rg ps p := by
  obtain ⟨t, ht, e⟩ := hr
  have h1 := rg_more e (s + 1)
  have h2 := Nat.le_mul_of_pos_left (s + 1) ht
  rw [show t * (s + 1) = s + (t * (s + 1) - s) from by omega, ups_add, h] at h1
  refine ⟨(t * (s + 1) - s) + s, by omega, ?_⟩
  rw [ups_add]
  have h3 : ups ps (t * (s + 1) - s) p = some r := h1
  rw [h3]; exact h
/-- What stays is on a ring. -/
theorem stays {ps : List Int} (h : Okp ps) {off : Nat → Bool} (hd : ∀ p, p < ps.length → kd ps off p ps.length = 0 → off p = true) {p : Nat} (hp : p < ps.length) (ho : off p = false) : Rg ps p := by
  have chain : ∀ m, ∃ q, q < ps.length ∧ off q = false ∧ ups ps m q = some p := by
    intro m
    induction m with
    | zero => exact ⟨p, hp, ho, rfl⟩
    | succ m ih =>
      obtain ⟨q, hq, hoq, e⟩ := ih
      have : kd ps off q ps.length ≠ 0 := fun h0 => by rw [hd q hq h0] at hoq; cases hoq
      obtain ⟨r, hr, e2⟩ := cn_pos this
      simp only [Bool.and_eq_true, decide_eq_true_eq, Bool.not_eq_true'] at e2
      exact ⟨r, hr, e2.2, by rw [ups_some (pa_of hr e2.1)]; exact e⟩
  obtain ⟨q, hq, -, e⟩ := chain ps.length
  rcases ends_or_ring h hq with h1 | ⟨j, r, hj, hr, hrr⟩
  · rw [h1] at e; cases e
  · rw [show ps.length = j + (ps.length - j) from by omega, ups_add, hr] at e
    exact rg_up hrr e
/-- Just the places of rings stay. -/
theorem peeled {ps : List Int} (h : Okp ps) {off : Nat → Bool} (hP : Pl ps off) (hd : ∀ p, p < ps.length → kd ps off p ps.length = 0 → off p = true) {p : Nat} (hp : p < ps.length) : off p = false ↔ Rg ps p :=
  ⟨fun ho => stays h hd hp ho, fun hr => by
    cases e : off p
    · rfl
    · exact absurd hr (hP p hp e)⟩
end Go.Proofs.Ytonhooaboieapaa
