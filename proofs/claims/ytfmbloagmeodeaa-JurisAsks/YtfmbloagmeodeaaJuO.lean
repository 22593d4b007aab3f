/-
  Whose parent a place is, rising; what may come next behind one more place told. Plain Lean.
-/
import Derived.Test.YtfmbloagmeodeaaJuH
namespace Go.Proofs.Ytfmbloagmeodeaa
set_option linter.unusedVariables false
/-- Those of the first places whose parent is p (-1: the roots), rising. -/
def kl (ps : List Int) (p : Int) : Nat → List Int
  | 0 => []
  | m + 1 => kl ps p m ++ (if ps.getD m (-1) = p then [(m : Int)] else [])
theorem kl_lt {ps : List Int} {p : Int} : ∀ {m : Nat} {v : Int}, v ∈ kl ps p m → 0 ≤ v ∧ v < m ∧ ps.getD v.toNat (-1) = p
  | 0, v, h => by cases h
  | m + 1, v, h => by
    have h' : v ∈ kl ps p m ++ (if ps.getD m (-1) = p then [(m : Int)] else []) := h
    rw [List.mem_append] at h'
    rcases h' with h1 | h1
    · obtain ⟨a, b, c⟩ := kl_lt h1
      exact ⟨a, by omega, c⟩
    · split at h1
      · next e =>
        simp at h1; subst h1
        exact ⟨by omega, by omega, by simpa using e⟩
      · cases h1
theorem kl_mem {ps : List Int} {p : Int} : ∀ {m y : Nat}, y < m → ps.getD y (-1) = p → (y : Int) ∈ kl ps p m
  | 0, y, h, _ => by omega
  | m + 1, y, h, e => by
    show _ ∈ kl ps p m ++ (if ps.getD m (-1) = p then [(m : Int)] else [])
    rw [List.mem_append]
    by_cases hy : y = m
    · subst hy; right; rw [if_pos e]; simp
    · left; exact kl_mem (by omega) e
theorem kl_count (ps : List Int) (p : Int) : ∀ (m : Nat) (v : Int), (kl ps p m).count v = if 0 ≤ v ∧ v < m ∧ ps.getD v.toNat (-1) = p then 1 else 0
  | 0, v => by
    rw [if_neg (by omega)]; rfl
  | m + 1, v => by
    show (kl ps p m ++ (if ps.getD m (-1) = p then [(m : Int)] else [])).count v = _
    rw [List.count_append, kl_count ps p m v]
    by_cases hv : v = m
    · subst hv
      rw [if_neg (by omega)]
      simp only [Int.toNat_natCast]
      by_cases e : ps.getD m (-1) = p
      · rw [if_pos e, if_pos ⟨by omega, by omega, e⟩]; simp
      · rw [if_neg e, if_neg (fun h => e h.2.2)]; rfl
    · have h0 : (if ps.getD m (-1) = p then [(m : Int)] else []).count v = 0 := by
        split
        · rw [List.count_singleton]; simp; omega
        · rfl
      rw [h0]
      by_cases hc : 0 ≤ v ∧ v < m ∧ ps.getD v.toNat (-1) = p
      · rw [if_pos hc, if_pos ⟨hc.1, by omega, hc.2.2⟩]
      · rw [if_neg hc, if_neg (fun h => hc ⟨h.1, by omega, h.2.2⟩)]
theorem kl_length (ps : List Int) (p : Int) : ∀ m, (kl ps p m).length ≤ m
  | 0 => Nat.le_refl _
  | m + 1 => by
    have := kl_length ps p m
    show (kl ps p m ++ (if ps.getD m (-1) = p then [(m : Int)] else [])).length ≤ _
    rw [List.length_append]
    split <;> simp <;> omega
theorem kl_rising (ps : List Int) (p : Int) : ∀ m, (kl ps p m).Pairwise (· < ·)
  | 0 => List.Pairwise.nil
  | m + 1 => by
    show (kl ps p m ++ (if ps.getD m (-1) = p then [(m : Int)] else [])).Pairwise (· < ·)
    rw [List.pairwise_append]
    refine ⟨kl_rising ps p m, ?_, ?_⟩
    · split <;> simp
    · intro a ha b hb
      have := kl_lt ha
      split at hb
      · simp at hb; omega
      · cases hb
theorem rising_get {l : List Int} (h : l.Pairwise (· < ·)) (i j : Nat) (hij : i < j) (hj : j < l.length) : l.getD i 0 ≤ l.getD j 0 := by
  rw [List.pairwise_iff_getElem] at h
  have := h i j (by omega) hj hij
  rw [List.getD_eq_getElem?_getD, List.getD_eq_getElem?_getD, List.getElem?_eq_getElem (by omega), List.getElem?_eq_getElem hj]
  exact Int.le_of_lt this
theorem getD_of_pa {ps : List Int} (h : Okp ps) {i : Nat} (hi : i < ps.length) : (pa ps i = none ↔ ps.getD i (-1) = -1) ∧ ∀ k, pa ps i = some k ↔ ps.getD i (-1) = (k : Int) := by
  have h1 := h i (ps.getD i (-1)) (by rw [List.getD_eq_getElem?_getD, List.getElem?_eq_getElem hi]; rfl)
  refine ⟨⟨fun e => ?_, fun e => pa_root (by omega)⟩, fun k => ⟨fun e => (pa_getD e).2, fun e => pa_of hi e⟩⟩
  rcases h1 with h1 | h1
  · exact h1
  · have := pa_of (k := (ps.getD i (-1)).toNat) hi (by omega)
    rw [e] at this; cases this
/-- Behind one more place told. -/
theorem av_next {ps : List Int} (hT : Tre ps) {out : List Nat} (hG : Go15 ps out) {x : Nat} (hx : Av ps out x) (y : Nat) : Av ps (out ++ [x]) y ↔ (Av ps out y ∧ y ≠ x) ∨ pa ps y = some x := by
  constructor
  · rintro ⟨h1, h2, h3⟩
    rw [List.mem_append, not_or] at h2
    have hne : y ≠ x := fun e => h2.2 (by simp [e])
    cases hq : pa ps y with
    | none => exact .inl ⟨⟨h1, h2.1, fun k hk => by rw [hq] at hk; cases hk⟩, hne⟩
    | some k =>
      have h4 := h3 k hq
      rw [List.mem_append] at h4
      rcases h4 with h4 | h4
      · exact .inl ⟨⟨h1, h2.1, fun k' hk => by rw [hq] at hk; cases hk; exact h4⟩, hne⟩
      · simp at h4; subst h4; exact .inr rfl
  · rintro (⟨⟨h1, h2, h3⟩, hne⟩ | hp)
    · refine ⟨h1, ?_, fun k hk => List.mem_append_left _ (h3 k hk)⟩
      rw [List.mem_append, not_or]
      exact ⟨h2, by simpa using hne⟩
    · have hy := (pa_getD hp).1
      refine ⟨hy, ?_, fun k hk => ?_⟩
      · rw [List.mem_append, not_or]
        refine ⟨fun hm => ?_, fun hm => ?_⟩
        · obtain ⟨t, ht⟩ := List.mem_iff_getElem?.1 hm
          exact hx.2.1 (List.mem_of_mem_take ((hG t y ht).1.2.2 x hp))
        · simp at hm
          subst hm
          exact hT.2 y hy ⟨1, by omega, by rw [ups_one]; exact hp⟩
      · rw [hp] at hk; cases hk
        simp
open Classical in
/-- How often a number stands among those that may come next. -/
noncomputable def cav (ps : List Int) (out : List Nat) (v : Int) : Nat := if 0 ≤ v ∧ Av ps out v.toNat then 1 else 0
theorem cav_nil {ps : List Int} (h : Okp ps) (v : Int) : (kl ps (-1) ps.length).count v = cav ps [] v := by
  rw [kl_count]
  unfold cav
  by_cases hc : 0 ≤ v ∧ v < ps.length ∧ ps.getD v.toNat (-1) = -1
  · rw [if_pos hc, if_pos]
    refine ⟨hc.1, by omega, by simp, fun k hk => ?_⟩
    have := (pa_getD hk).2
    omega
  · rw [if_neg hc, if_neg]
    rintro ⟨h1, h2, -, h3⟩
    refine hc ⟨h1, by omega, ?_⟩
    refine ((getD_of_pa h h2).1).1 ?_
    cases hq : pa ps v.toNat with
    | none => rfl
    | some k => have := h3 k hq; cases this
theorem cav_next {ps : List Int} (hT : Tre ps) {out : List Nat} (hG : Go15 ps out) {x : Nat} (hx : Av ps out x) (v : Int) : cav ps (out ++ [x]) v + (if v = (x : Int) then 1 else 0) = cav ps out v + (kl ps x ps.length).count v := by
  rw [kl_count]
  unfold cav
  by_cases h0 : 0 ≤ v
  · obtain ⟨y, rfl⟩ : ∃ y : Nat, v = y := ⟨v.toNat, by omega⟩
    simp only [Int.toNat_natCast]
    have hn := av_next hT hG hx y
    have hk : (0 ≤ (y : Int) ∧ (y : Int) < ps.length ∧ ps.getD y (-1) = (x : Int)) ↔ pa ps y = some x := ⟨fun h => pa_of (by omega) h.2.2, fun h => ⟨by omega, by have := (pa_getD h).1; omega, (pa_getD h).2⟩⟩
    by_cases hp : pa ps y = some x
    · rw [if_pos (hk.2 hp), if_pos ⟨h0, hn.2 (.inr hp)⟩, if_neg (fun e => ?_), if_neg (fun h => hx.2.1 (h.2.2.2 x hp))]
      have e' : y = x := by omega
      subst e'
      exact hT.2 y hx.1 ⟨1, by omega, by rw [ups_one]; exact hp⟩
    · rw [if_neg (fun h => hp (hk.1 h))]
      by_cases hy : y = x
      · subst hy
        rw [if_neg (fun h => ?_), if_pos rfl, if_pos ⟨h0, hx⟩]
        rcases hn.1 h.2 with h1 | h1
        · exact h1.2 rfl
        · exact hp h1
      · rw [if_neg (show ¬ (y : Int) = x by omega)]
        by_cases ha : Av ps out y
        · rw [if_pos ⟨h0, hn.2 (.inl ⟨ha, hy⟩)⟩, if_pos ⟨h0, ha⟩]
        · rw [if_neg (fun h => ?_), if_neg (fun h => ha h.2)]
          rcases hn.1 h.2 with h1 | h1
          · exact ha h1.1
          · exact hp h1
  · rw [if_neg (fun h => h0 h.1), if_neg (by omega), if_neg (fun h => h0 h.1), if_neg (fun h => h0 h.1)]
theorem cav_pos {ps : List Int} {out : List Nat} {v : Int} (h : 0 < cav ps out v) : 0 ≤ v ∧ Av ps out v.toNat := by
  unfold cav at h
  split at h
  · assumption
  · omega
theorem cav_one {ps : List Int} {out : List Nat} {x : Nat} (h : Av ps out x) : cav ps out x = 1 := by
  unfold cav
  rw [if_pos]
  exact ⟨by omega, by simpa using h⟩
theorem getD_mem {l : List Int} {i : Nat} (h : i < l.length) : l.getD i 0 ∈ l := by
  rw [List.getD_eq_getElem?_getD, List.getElem?_eq_getElem h]
  exact List.getElem_mem h
/-- The first of the heap is the least that may come next. -/
theorem top_next {ps : List Int} {out : List Nat} {l : List Int} (hc : ∀ v, l.count v = cav ps out v) (hp : Hp l l.length) (h0 : 0 < l.length) : ∃ x : Nat, l.getD 0 0 = x ∧ Av ps out x ∧ ∀ i, Av ps out i → x ≤ i := by
  have hm := List.count_pos_iff.2 (getD_mem h0)
  rw [hc] at hm
  obtain ⟨h1, h2⟩ := cav_pos hm
  refine ⟨(l.getD 0 0).toNat, by omega, h2, fun i hi => ?_⟩
  have h3 : 0 < l.count (i : Int) := by rw [hc, cav_one hi]; omega
  obtain ⟨k, hk⟩ := List.mem_iff_getElem?.1 (List.count_pos_iff.1 h3)
  have hkl : k < l.length := by
    rcases Nat.lt_or_ge k l.length with h' | h'
    · exact h'
    · rw [List.getElem?_eq_none h'] at hk; cases hk
  have := hp.least k hkl
  rw [show l.getD k 0 = (i : Int) by rw [List.getD_eq_getElem?_getD, hk]; rfl] at this
  omega
/-- Nothing may come next: all are told. -/
theorem all_told {ps : List Int} (hT : Tre ps) {out : List Nat} (hG : Go15 ps out) (hc : ∀ v, ([] : List Int).count v = cav ps out v) : out.length = ps.length := by
  rcases Nat.lt_trichotomy out.length ps.length with h | h | h
  · obtain ⟨x, hx, -⟩ := next_there hT h
    have := hc x
    rw [cav_one hx] at this
    simp at this
  · exact h
  · obtain ⟨a, b, hab, hb, e⟩ := php ps.length (fun i => out.getD i 0) (fun j hj => by
      have hj' : j < out.length := by omega
      have : out[j]? = some (out.getD j 0) := by rw [List.getD_eq_getElem?_getD, List.getElem?_eq_getElem hj']; rfl
      exact (hG j _ this).1.1)
    have h1 : out[a]? = some (out.getD a 0) := by rw [List.getD_eq_getElem?_getD, List.getElem?_eq_getElem (by omega)]; rfl
    have h2 : out[b]? = some (out.getD b 0) := by rw [List.getD_eq_getElem?_getD, List.getElem?_eq_getElem (by omega)]; rfl
    have e' : out.getD a 0 = out.getD b 0 := e
    rw [e'] at h1
    have := hG.nodup h1 h2
    omega
theorem told_le {ps : List Int} {out : List Nat} (hG : Go15 ps out) : out.length ≤ ps.length := by
  rcases Nat.lt_or_ge ps.length out.length with h | h
  · obtain ⟨a, b, hab, hb, e⟩ := php ps.length (fun i => out.getD i 0) (fun j hj => by
      have hj' : j < out.length := by omega
      have : out[j]? = some (out.getD j 0) := by rw [List.getD_eq_getElem?_getD, List.getElem?_eq_getElem hj']; rfl
      exact (hG j _ this).1.1)
    have h1 : out[a]? = some (out.getD a 0) := by rw [List.getD_eq_getElem?_getD, List.getElem?_eq_getElem (by omega)]; rfl
    have h2 : out[b]? = some (out.getD b 0) := by rw [List.getD_eq_getElem?_getD, List.getElem?_eq_getElem (by omega)]; rfl
    have e' : out.getD a 0 = out.getD b 0 := e
    rw [e'] at h1
    have := hG.nodup h1 h2
    omega
  · exact h
end Go.Proofs.Ytfmbloagmeodeaa
