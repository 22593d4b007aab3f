/-
  SameRatio, spoilt, is, zero, alike, awake of the statements of layer 5.
-/
import Derived.Test.YtogabmggdcefaabGreatRt7
import Derived.Test.YtogabmggdcefaabGreatRt5
namespace Go.Proofs.YtogabmggdcefaabGreat
open Go.RowKit Go.Shelf
set_option linter.unusedVariables false

theorem trim_one {xs ys : List Int} (hx : Limbs xs) (hy : Limbs ys) (ux : usedN xs = xs.length) (uy : usedN ys = ys.length) (e : num xs = num ys) : xs = ys := by
  obtain ⟨e1, e2⟩ := one_list hx hy rfl ux e
  rw [uy, List.take_of_length_le (Nat.le_refl _)] at e2
  exact e2
theorem Ow.sl {w : World} {g : Nat} {cs : List Int} (h : Ow w g cs) (hL : Limbs cs) {n : Nat} (hn : cs.length = n) : Sl w (some ⟨g, 0, none⟩) n cs := by subst hn; exact Own.sl h hL
end Go.Proofs.YtogabmggdcefaabGreat
