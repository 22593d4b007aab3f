/-
  The document's bounds, in numbers: rows that rise are put together two by two; then each number once.
-/
import Derived.Test.YtiabjlaganmloaaSpB
namespace Go.Proofs.Ytiabjlaganmloaa
set_option linter.unusedVariables false

def gt (xs : List Int) (i : Nat) : Int := xs.getD i 0
theorem gt_left {xs ys : List Int} {i : Nat} (h : i < xs.length) : gt (xs ++ ys) i = gt xs i := by
  unfold gt; rw [List.getD_eq_getElem?_getD, List.getD_eq_getElem?_getD, List.getElem?_append_left h]
theorem gt_right {xs ys : List Int} {i : Nat} (h : xs.length ≤ i) : gt (xs ++ ys) i = gt ys (i - xs.length) := by
  unfold gt; rw [List.getD_eq_getElem?_getD, List.getD_eq_getElem?_getD, List.getElem?_append_right h]
theorem gt_mem {xs : List Int} {i : Nat} (h : i < xs.length) : gt xs i ∈ xs := by
  unfold gt; rw [List.getD_eq_getElem?_getD, List.getElem?_eq_getElem h]; exact List.getElem_mem _
theorem mem_gt {xs : List Int} {z : Int} (h : z ∈ xs) : ∃ i, i < xs.length ∧ gt xs i = z := by
  obtain ⟨i, hi, e⟩ := List.mem_iff_getElem.1 h
  exact ⟨i, hi, by unfold gt; rw [List.getD_eq_getElem?_getD, List.getElem?_eq_getElem hi]; exact e⟩
theorem pair_gt {xs : List Int} (h : xs.Pairwise (· ≤ ·)) {i j : Nat} (hij : i ≤ j) (hj : j < xs.length) : gt xs i ≤ gt xs j := by
  rcases Nat.eq_or_lt_of_le hij with rfl | hl
  · exact Int.le_refl _
  · unfold gt
    rw [List.getD_eq_getElem?_getD, List.getD_eq_getElem?_getD, List.getElem?_eq_getElem (by omega), List.getElem?_eq_getElem hj]
    exact List.pairwise_iff_getElem.1 h i j (by omega) hj hl
/-- Rows of w numbers that rise. -/
def RS (w : Nat) (xs : List Int) : Prop := ∀ i j, i ≤ j → j < xs.length → i / w = j / w → gt xs i ≤ gt xs j
theorem RS.one (xs : List Int) : RS 1 xs := fun i j h1 h2 h3 => by
  rw [Nat.div_one, Nat.div_one] at h3; rw [h3]; exact Int.le_refl _
theorem RS.all {w : Nat} {xs : List Int} (h : RS w xs) (hw : xs.length ≤ w) : ∀ i j, i ≤ j → j < xs.length → gt xs i ≤ gt xs j := fun i j h1 h2 =>
  h i j h1 h2 (by rw [Nat.div_eq_of_lt (by omega), Nat.div_eq_of_lt (by omega)])
/-- Two rows are being put together. -/
structure MS (xs : List Int) (fr mid en i k : Nat) (M : List Int) : Prop where
  b1 : fr ≤ i
  b2 : i ≤ mid
  b3 : mid ≤ k
  b4 : k ≤ en
  b5 : en ≤ xs.length
  len : M.length = (i - fr) + (k - mid)
  rise : M.Pairwise (· ≤ ·)
  upL : ∀ m ∈ M, ∀ j, i ≤ j → j < mid → m ≤ gt xs j
  upR : ∀ m ∈ M, ∀ j, k ≤ j → j < en → m ≤ gt xs j
  mem : ∀ z, z ∈ M ↔ (∃ j, fr ≤ j ∧ j < i ∧ gt xs j = z) ∨ (∃ j, mid ≤ j ∧ j < k ∧ gt xs j = z)
theorem MS.start {xs : List Int} {fr mid en : Nat} (h1 : fr ≤ mid) (h2 : mid ≤ en) (h3 : en ≤ xs.length) : MS xs fr mid en fr mid [] :=
  ⟨Nat.le_refl _, h1, Nat.le_refl _, h2, h3, by simp, List.Pairwise.nil, fun m h => by simp at h, fun m h => by simp at h, fun z => by
    simp only [List.not_mem_nil, false_iff, not_or, not_exists]
    exact ⟨fun j h => by omega, fun j h => by omega⟩⟩
theorem MS.left {xs : List Int} {fr mid en i k : Nat} {M : List Int} (h : MS xs fr mid en i k M) (hi : i < mid) (hL : ∀ a b, fr ≤ a → a ≤ b → b < mid → gt xs a ≤ gt xs b) (hR : ∀ a b, mid ≤ a → a ≤ b → b < en → gt xs a ≤ gt xs b) (hc : k = en ∨ gt xs i ≤ gt xs k) : MS xs fr mid en (i + 1) k (M ++ [gt xs i]) := by
  have hb := h.b1
  refine ⟨by omega, by omega, h.b3, h.b4, h.b5, by rw [List.length_append, h.len]; simp; omega, List.pairwise_append.2 ⟨h.rise, List.pairwise_singleton .., fun m hm q hq => ?_⟩, fun m hm j h1 h2 => ?_, fun m hm j h1 h2 => ?_, fun z => ?_⟩
  · rw [List.mem_singleton.1 hq]; exact h.upL m hm i (Nat.le_refl _) hi
  · rcases List.mem_append.1 hm with hm | hm
    · exact h.upL m hm j (by omega) h2
    · rw [List.mem_singleton.1 hm]; exact hL i j h.b1 (by omega) h2
  · rcases List.mem_append.1 hm with hm | hm
    · exact h.upR m hm j h1 h2
    · rw [List.mem_singleton.1 hm]
      rcases hc with hc | hc
      · omega
      · exact Int.le_trans hc (hR k j h.b3 h1 h2)
  · rw [List.mem_append, h.mem, List.mem_singleton]
    constructor
    · rintro ((⟨j, a, b, e⟩ | ⟨j, a, b, e⟩) | rfl)
      · exact .inl ⟨j, a, by omega, e⟩
      · exact .inr ⟨j, a, b, e⟩
      · exact .inl ⟨i, hb, by omega, rfl⟩
    · rintro (⟨j, a, b, e⟩ | ⟨j, a, b, e⟩)
      · rcases Nat.lt_or_ge j i with hj | hj
        · exact .inl (.inl ⟨j, a, hj, e⟩)
        · obtain rfl : j = i := by omega
          exact .inr e.symm
      · exact .inl (.inr ⟨j, a, b, e⟩)
theorem MS.right {xs : List Int} {fr mid en i k : Nat} {M : List Int} (h : MS xs fr mid en i k M) (hk : k < en) (hL : ∀ a b, fr ≤ a → a ≤ b → b < mid → gt xs a ≤ gt xs b) (hR : ∀ a b, mid ≤ a → a ≤ b → b < en → gt xs a ≤ gt xs b) (hc : i = mid ∨ gt xs k < gt xs i) : MS xs fr mid en i (k + 1) (M ++ [gt xs k]) := by
  have hb := h.b3
  refine ⟨h.b1, h.b2, by omega, by omega, h.b5, by rw [List.length_append, h.len]; simp; omega, List.pairwise_append.2 ⟨h.rise, List.pairwise_singleton .., fun m hm q hq => ?_⟩, fun m hm j h1 h2 => ?_, fun m hm j h1 h2 => ?_, fun z => ?_⟩
  · rw [List.mem_singleton.1 hq]; exact h.upR m hm k (Nat.le_refl _) hk
  · rcases List.mem_append.1 hm with hm | hm
    · exact h.upL m hm j h1 h2
    · rw [List.mem_singleton.1 hm]
      rcases hc with hc | hc
      · omega
      · exact Int.le_trans (Int.le_of_lt hc) (hL i j h.b1 h1 h2)
  · rcases List.mem_append.1 hm with hm | hm
    · exact h.upR m hm j (by omega) h2
    · rw [List.mem_singleton.1 hm]; exact hR k j h.b3 (by omega) h2
  · rw [List.mem_append, h.mem, List.mem_singleton]
    constructor
    · rintro ((⟨j, a, b, e⟩ | ⟨j, a, b, e⟩) | rfl)
      · exact .inl ⟨j, a, b, e⟩
      · exact .inr ⟨j, a, by omega, e⟩
      · exact .inr ⟨k, hb, by omega, rfl⟩
    · rintro (⟨j, a, b, e⟩ | ⟨j, a, b, e⟩)
      · exact .inl (.inl ⟨j, a, b, e⟩)
      · rcases Nat.lt_or_ge j k with hj | hj
        · exact .inl (.inr ⟨j, a, hj, e⟩)
        · obtain rfl : j = k := by omega
          exact .inr e.symm
/-- Rows up to a place have been put together. -/
structure NS (xs : List Int) (w t : Nat) (N : List Int) : Prop where
  len : N.length = min (2 * w * t) xs.length
  rows : RS (2 * w) N
  mem : ∀ z, z ∈ N ↔ ∃ j, j < min (2 * w * t) xs.length ∧ gt xs j = z
theorem NS.start (xs : List Int) (w : Nat) : NS xs w 0 [] := ⟨by simp, fun i j _ h _ => by simp at h, fun z => by simp⟩
theorem NS.step {xs : List Int} {w t : Nat} {N M : List Int} {mid en : Nat} (hw : 1 ≤ w) (h : NS xs w t N) (hf : 2 * w * t < xs.length) (he : en = min (2 * w * t + 2 * w) xs.length) (hm : MS xs (2 * w * t) mid en mid en M) : NS xs w (t + 1) (N ++ M) := by
  have hmul : 2 * w * (t + 1) = 2 * w * t + 2 * w := Nat.mul_succ _ _
  have hNl : N.length = 2 * w * t := by rw [h.len]; omega
  have b1 := hm.b1; have b3 := hm.b3
  have hMl : M.length = en - 2 * w * t := by rw [hm.len]; omega
  refine ⟨by rw [List.length_append, hNl, hMl, hmul]; omega, fun i j h1 h2 h3 => ?_, fun z => ?_⟩
  · rw [List.length_append] at h2
    rcases Nat.lt_or_ge j N.length with hj | hj
    · rw [gt_left hj, gt_left (by omega)]; exact h.rows i j h1 hj h3
    · rcases Nat.lt_or_ge i N.length with hi | hi
      · exfalso
        have e1 : i / (2 * w) < t := (Nat.div_lt_iff_lt_mul (by omega)).2 (by rw [Nat.mul_comm]; omega)
        have e2 : t ≤ j / (2 * w) := (Nat.le_div_iff_mul_le (by omega)).2 (by rw [Nat.mul_comm]; omega)
        omega
      · rw [gt_right hi, gt_right hj]
        exact pair_gt hm.rise (by omega) (by omega)
  · rw [List.mem_append, h.mem, hm.mem, hmul]
    constructor
    · rintro (⟨j, a, e⟩ | ⟨j, a, b, e⟩ | ⟨j, a, b, e⟩)
      · exact ⟨j, by omega, e⟩
      · exact ⟨j, by omega, e⟩
      · exact ⟨j, by omega, e⟩
    · rintro ⟨j, a, e⟩
      rcases Nat.lt_or_ge j (2 * w * t) with hj | hj
      · exact .inl ⟨j, by omega, e⟩
      · rcases Nat.lt_or_ge j mid with hj' | hj'
        · exact .inr (.inl ⟨j, hj, hj', e⟩)
        · exact .inr (.inr ⟨j, hj', by omega, e⟩)
theorem NS.done {xs : List Int} {w t : Nat} {N : List Int} (h : NS xs w t N) (hf : xs.length ≤ 2 * w * t) : N.length = xs.length ∧ RS (2 * w) N ∧ ∀ z, z ∈ N ↔ z ∈ xs := by
  refine ⟨by rw [h.len]; omega, h.rows, fun z => ?_⟩
  rw [h.mem]
  constructor
  · rintro ⟨j, a, rfl⟩; exact gt_mem (by omega)
  · intro hz
    obtain ⟨i, hi, e⟩ := mem_gt hz
    exact ⟨i, by omega, e⟩
/-- The rows that lie in two rows beside one another rise. -/
theorem RS.row {xs : List Int} {w t : Nat} (h : RS w xs) (hw : 1 ≤ w) : (∀ a b, 2 * w * t ≤ a → a ≤ b → b < min (2 * w * t + w) xs.length → gt xs a ≤ gt xs b) ∧ (∀ a b, min (2 * w * t + w) xs.length ≤ a → a ≤ b → b < min (2 * w * t + 2 * w) xs.length → gt xs a ≤ gt xs b) := by
  have dv : ∀ q x : Nat, q * w ≤ x → x < q * w + w → x / w = q := fun q x h1 h2 => by
    refine Nat.div_eq_of_lt_le ?_ ?_
    · exact h1
    · rw [Nat.succ_mul]; exact h2
  have e0 : 2 * w * t = (2 * t) * w := by rw [Nat.mul_assoc, Nat.mul_comm w t, ← Nat.mul_assoc]
  have e1 : (2 * t + 1) * w = (2 * t) * w + w := Nat.succ_mul _ _
  constructor
  · intro a b h1 h2 h3
    refine h a b h2 (by omega) ?_
    rw [dv (2 * t) a (by omega) (by omega), dv (2 * t) b (by omega) (by omega)]
  · intro a b h1 h2 h3
    refine h a b h2 (by omega) ?_
    rw [dv (2 * t + 1) a (by omega) (by omega), dv (2 * t + 1) b (by omega) (by omega)]
/-- Each number once. -/
structure DD (xs : List Int) (k : Nat) (out : List Int) : Prop where
  rise : Rises out
  mem : ∀ z, z ∈ out ↔ ∃ j, j < k ∧ gt xs j = z
theorem DD.start (xs : List Int) : DD xs 0 [] := ⟨List.Pairwise.nil, fun z => by simp⟩
theorem DD.new {xs : List Int} {k : Nat} {out : List Int} (h : DD xs k out) (hk : k < xs.length) (hs : ∀ i j, i ≤ j → j < xs.length → gt xs i ≤ gt xs j) (hc : k = 0 ∨ gt xs k ≠ gt xs (k - 1)) : DD xs (k + 1) (out ++ [gt xs k]) := by
  refine ⟨List.pairwise_append.2 ⟨h.rise, List.pairwise_singleton .., fun z hz q hq => ?_⟩, fun z => ?_⟩
  · rw [List.mem_singleton.1 hq]
    obtain ⟨j, hj, rfl⟩ := (h.mem z).1 hz
    rcases hc with hc | hc
    · omega
    · have h1 := hs j (k - 1) (by omega) (by omega)
      have h2 := hs (k - 1) k (by omega) hk
      omega
  · rw [List.mem_append, h.mem, List.mem_singleton]
    constructor
    · rintro (⟨j, a, e⟩ | rfl)
      · exact ⟨j, by omega, e⟩
      · exact ⟨k, by omega, rfl⟩
    · rintro ⟨j, a, e⟩
      rcases Nat.lt_or_ge j k with hj | hj
      · exact .inl ⟨j, hj, e⟩
      · obtain rfl : j = k := by omega
        exact .inr e.symm
theorem DD.same {xs : List Int} {k : Nat} {out : List Int} (h : DD xs k out) (h0 : 0 < k) (hc : gt xs k = gt xs (k - 1)) : DD xs (k + 1) out := by
  refine ⟨h.rise, fun z => ?_⟩
  rw [h.mem]
  constructor
  · rintro ⟨j, a, e⟩; exact ⟨j, by omega, e⟩
  · rintro ⟨j, a, e⟩
    rcases Nat.lt_or_ge j k with hj | hj
    · exact ⟨j, hj, e⟩
    · obtain rfl : j = k := by omega
      exact ⟨j - 1, by omega, by rw [← hc]; exact e⟩
theorem DD.done {xs : List Int} {out : List Int} (h : DD xs xs.length out) : ∀ z, z ∈ out ↔ z ∈ xs := fun z => by
  rw [h.mem]
  constructor
  · rintro ⟨j, a, rfl⟩; exact gt_mem a
  · intro hz
    obtain ⟨i, hi, e⟩ := mem_gt hz
    exact ⟨i, hi, e⟩
end Go.Proofs.Ytiabjlaganmloaa
