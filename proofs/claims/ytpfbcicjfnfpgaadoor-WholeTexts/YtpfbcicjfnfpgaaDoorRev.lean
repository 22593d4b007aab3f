/-
  slices.Reverse of a list of numbers; a digit's worth; Small in memory of its own.
-/
import Derived.Test.YtpfbcicjfnfpgaaDoorGrowN
import Derived.Test.YtpfbcicjfnfpgaaDoorBsI
import Derived.Test.YtpfbcicjfnfpgaaDoorReadP
import Derived.BigRegion
namespace Go.Proofs.YtpfbcicjfnfpgaaDoor
open Go.RowKit Go.Shelf
set_option linter.unusedVariables false

/-- A row of slices in one block: so many cells, each told by c. -/
def Rsl (w : World) (g n : Nat) (c : Nat → Value) : Prop := Blk w g n ∧ ∀ i, i < n → w.cell? ⟨g, i, none⟩ = some (c i)
theorem cell_set_ne (w : World) (g i j : Nat) (v : Value) (h : j ≠ i) : (w.setCell ⟨g, i, none⟩ v).cell? ⟨g, j, none⟩ = w.cell? ⟨g, j, none⟩ := by
  simp only [World.setCell, World.cell?, Array.getElem?_modify, if_true]
  cases hh : w.heap[g]? with
  | none => rfl
  | some o => cases o <;> simp [Ne.symm h]
theorem cell_set_eq {w : World} {g n i : Nat} (hb : Blk w g n) (hi : i < n) (v : Value) : (w.setCell ⟨g, i, none⟩ v).cell? ⟨g, i, none⟩ = some v := by
  obtain ⟨cur, t, h, hn⟩ := hb
  simp only [World.setCell, World.cell?, Array.getElem?_modify, if_true, h]
  simp [Array.getElem?_setIfInBounds]; omega
/-- The row's cells when k have been exchanged with the last k. -/
def half (n k : Nat) (c : Nat → Value) (m : Nat) : Value := if m < k ∨ n - k ≤ m then c (n - 1 - m) else c m
theorem Rsl.swap {w : World} {g n k : Nat} {c : Nat → Value} (h : Rsl w g n (half n k c)) (hk : k < n - 1 - k) :
    Rsl ((w.setCell ⟨g, k, none⟩ (c (n - 1 - k))).setCell ⟨g, n - 1 - k, none⟩ (c k)) g n (half n (k + 1) c) := by
  refine ⟨(h.1.set _ _).set _ _, fun i hi => ?_⟩
  by_cases h1 : i = n - 1 - k
  · subst h1
    rw [cell_set_eq (h.1.set _ _) (by omega)]
    unfold half
    rw [if_pos (by omega), show n - 1 - (n - 1 - k) = k by omega]
  · rw [cell_set_ne _ _ _ _ _ h1]
    by_cases h2 : i = k
    · subst h2
      rw [cell_set_eq h.1 (by omega)]
      unfold half
      rw [if_pos (by omega)]
    · rw [cell_set_ne _ _ _ _ _ h2, h.2 i hi]
      unfold half
      by_cases h3 : i < k ∨ n - k ≤ i
      · rw [if_pos h3, if_pos (by omega)]
      · rw [if_neg h3, if_neg (by omega)]
end Go.Proofs.YtpfbcicjfnfpgaaDoor
