/-
  DERIVED. GIVEN WITH THE SEED: THE CARDS: each row of YtebbblhafjaaiaaGreatDoorRows.lean that lists a variable, with what it lists TIED to the program's text (the seventh form; the later family's looks); each row that meets fmt, with fmt's text TOLD by the authors' own Lean function (tested against real Go, not proved from fmt's source: count such statements apart). THE CARD IS WHAT COUNTS. Prove the row's statement (the work); the ties are given (YtebbblhafjaaiaaGreatDoorTie.lean); close each card by the builder's one call (the guide's Derived/Test/ToyasCard.lean, 'card_holds'). Laid BY PROGRAM, IN A SANDBOX (cutbox-door.mjs). By AI agents, Wed Nov 11 2026. No macro, syntax, notation, axiom, sorry.
-/
import Derived.Test.YtebbblhafjaaiaaGreatDoorRows
import GoSem.ClaimSeven
namespace Go.Proofs.YtebbblhafjaaiaaGreatDoor
namespace Rows

/-- THE TIED CARD OF 'tollbooklaw06.DecimalExpands'. -/
def decimalExpandsCard : Claim7 := { stood := { row := decimalExpandsRow, standIns := [], harness := (true, "f1129aa7dbe0137bde6ca4c2ff795b2f1bc55896709429b92be825630a54c321"), looks := false }, kinds := [], alts := [], laidByText := true, laidKinds := [.data, .data, .data, .data, .pinned], laidTests := true, laidLooks := .later }
def DecimalExpandsCardSaid : Prop := Claim7.holds Tryz.pinned (.plain (OpenSpec.ofChange decimalExpandsSpec)) decimalExpandsCard

/-- THE TIED CARD OF 'tollbooklaw06.DecimalNear'. -/
def decimalNearCard : Claim7 := { stood := { row := decimalNearRow, standIns := [], harness := (true, "f1129aa7dbe0137bde6ca4c2ff795b2f1bc55896709429b92be825630a54c321"), looks := false }, kinds := [], alts := [], laidByText := true, laidKinds := [.data, .data, .data, .data, .pinned], laidTests := true, laidLooks := .later }
def DecimalNearCardSaid : Prop := Claim7.holds Tryz.pinned (.plain (OpenSpec.ofChange decimalNearSpec)) decimalNearCard

/-- THE TIED CARD OF 'tollbooklaw09.MoneyMajors'. -/
def moneyMajorsCard : Claim7 := { stood := { row := moneyMajorsRow, standIns := [], harness := (true, "f1129aa7dbe0137bde6ca4c2ff795b2f1bc55896709429b92be825630a54c321"), looks := false }, kinds := [], alts := [], laidByText := true, laidKinds := [.data, .data, .data, .data, .data, .pinned], laidTests := true, laidLooks := .later }
def MoneyMajorsCardSaid : Prop := Claim7.holds Tryz.pinned (.plain (OpenSpec.ofChange moneyMajorsSpec)) moneyMajorsCard

end Rows
end Go.Proofs.YtebbblhafjaaiaaGreatDoor
