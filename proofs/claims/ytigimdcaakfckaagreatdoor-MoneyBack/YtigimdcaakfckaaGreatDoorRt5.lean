/-
 rat.Add, Sub.
-/
import Derived.Test.YtigimdcaakfckaaGreatDoorRt5p
import Derived.Test.YtigimdcaakfckaaGreatDoorAl
namespace Go.Proofs.YtigimdcaakfckaaGreatDoor
open Go.RowKit Go.Shelf
set_option linter.unusedVariables false

end Go.Proofs.YtigimdcaakfckaaGreatDoor
