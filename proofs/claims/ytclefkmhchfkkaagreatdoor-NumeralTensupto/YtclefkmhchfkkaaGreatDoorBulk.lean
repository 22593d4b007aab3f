/-
  How much a list of limbs weighs in the bound of the second form.
-/
import Derived.Test.YtclefkmhchfkkaaGreatDoorRows
import Derived.ProofKit
namespace Go.Proofs.YtclefkmhchfkkaaGreatDoor
open Go.ChangeShapes

theorem bulk_lits {H : Type} : ∀ zs : List Int, Rows.uptoBulkAll (lits (H := H) .u64 zs) = zs.length
  | [] => rfl
  | z :: r => by
    have ih := bulk_lits (H := H) r
    simp only [lits, List.map_cons, Rows.uptoBulkAll, Rows.uptoBulk, List.length_cons] at ih ⊢
    omega
theorem bulk_row {H : Type} (zs : List Int) (n : Nat) : Rows.uptoBulk (DataW.slice (lits (H := H) .u64 (zs.take n)) (lits .u64 (zs.drop n))) = zs.length + 1 := by
  simp only [Rows.uptoBulk, bulk_lits, List.length_take, List.length_drop]
  omega
end Go.Proofs.YtclefkmhchfkkaaGreatDoor
