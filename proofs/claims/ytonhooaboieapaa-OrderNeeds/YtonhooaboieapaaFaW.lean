/-
  The document's Far.
-/
import Derived.Test.YtonhooaboieapaaFaP
import Derived.Test.YtonhooaboieapaaOdD
import Derived.Test.YtonhooaboieapaaOd5
namespace Go.Proofs.Ytonhooaboieapaa
open Go.RowKit Go.Shelf
set_option linter.unusedVariables false
set_option linter.unusedSimpArgs false

theorem Ge.lis {w : World} {B : Nat} {a : Option Addr} {c : Nat} {l : List Nat} (h : Ge elI w B (.slice a l.length c) (ints l)) : Li w a l.length (ints l) := by
  rw [← ints_length l] at h ⊢
  exact h.toLe.li
end Go.Proofs.Ytonhooaboieapaa
