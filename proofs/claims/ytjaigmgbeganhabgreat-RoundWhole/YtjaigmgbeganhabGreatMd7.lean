/-
  mode of the statements of layer 7.
-/
import Derived.Test.YtjaigmgbeganhabGreatRl7
namespace Go.Proofs.YtjaigmgbeganhabGreat
open Go.RowKit Go.Shelf
theorem mode7q (x q : Int) (h1 : -9223372036854775808 ≤ x) (h2 : x ≤ 9223372036854775807) (hq : 1 + x % 5 = q) (w : World) :
    Calls Tryz.prog 6 #[.int .i64 x] w fun e w' => e = .returned (.int .i64 q) ∧ Below w.heap.size w w' := by
  subst hq
  refine (mode7 x h1 h2 w).mono ?_
  rintro e w' ⟨rfl, rfl⟩
  exact ⟨rfl, Below.refl _ _⟩
end Go.Proofs.YtjaigmgbeganhabGreat
