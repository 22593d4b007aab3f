/-
  Lists that are lent with marks behind their ends, and whether they are still as they were.
-/
import Derived.Test.YtegfklapgbggfaaGreatBsJ
import Derived.Test.YtegfklapgbggfaaGreatBsE
import Derived.Deep.RegionWith
namespace Go.Proofs.YtegfklapgbggfaaGreat
open Go.RowKit Go.Shelf

/-- The marks. -/
def marks : Nat → List Int
  | 0 => []
  | k + 1 => marks k ++ [8000024 + (k : Int)]
theorem marks_length : ∀ k, (marks k).length = k
  | 0 => rfl
  | k + 1 => by simp [marks, marks_length k]
theorem marks_getD : ∀ (n k : Nat), k < n → (marks n).getD k 0 = 8000024 + (k : Int)
  | 0, k, h => absurd h (by omega)
  | n + 1, k, h => by
    rw [marks, List.getD_eq_getElem?_getD]
    by_cases hk : k < n
    · rw [List.getElem?_append_left (by rw [marks_length]; exact hk), ← List.getD_eq_getElem?_getD]; exact marks_getD n k hk
    · obtain rfl : k = n := by omega
      rw [List.getElem?_append_right (by rw [marks_length]; exact Nat.le_refl _), marks_length, Nat.sub_self]; rfl

/-- A row of the call's own, filled up. -/
theorem own_full {w : World} {B g cap : Nat} {cs : List Int} (h : w.ownsRow B 74 1 (.slice (some ⟨g, 0, none⟩) cap cap) cap (row cs)) : Own w g cs := by
  obtain ⟨h1, h2 | ⟨g', cap', cur, e, hB, hh, hc, hm, hs, ht⟩⟩ := h
  · obtain ⟨h2, -⟩ := h2; cases h2
  · cases e
    rw [Nat.mul_one] at hs ht
    rw [List.take_of_length_le (by simp; omega)] at ht
    unfold Own
    rw [hh, ← ht]

end Go.Proofs.YtegfklapgbggfaaGreat
