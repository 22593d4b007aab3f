/-
  DERIVED. GIVEN WITH THE SEED: THE CARDS: each row of YtoaaiahheehgnabGreatDoorRows.lean that lists a variable, with what it lists TIED to the program's text (the seventh form; the later family's looks); each row that meets fmt, with fmt's text TOLD by the authors' own Lean function (tested against real Go, not proved from fmt's source: count such statements apart). THE CARD IS WHAT COUNTS. Prove the row's statement (the work); the ties are given (YtoaaiahheehgnabGreatDoorTie.lean); close each card by the builder's one call (the guide's Derived/Test/ToyasCard.lean, 'card_holds'). Laid BY PROGRAM, IN A SANDBOX (cutbox-door.mjs). By AI agents, Wed Nov 11 2026. No macro, syntax, notation, axiom, sorry.
-/
import Derived.Test.YtoaaiahheehgnabGreatDoorRows
import GoSem.ClaimSeven
namespace Go.Proofs.YtoaaiahheehgnabGreatDoor
namespace Rows

/-- THE TIED CARD OF 'tollbooklaw06.DecimalShort'. -/
def decimalShortCard : Claim7 := { stood := { row := decimalShortRow, standIns := [], harness := (true, "5adde2bc949d74e38882ab41e9363a26a660075ec5c1149e9d0c271bff7ec361"), looks := false }, kinds := [], alts := [], laidByText := true, laidKinds := [.data, .data, .data, .data, .pinned], laidTests := true, laidLooks := .later }
def DecimalShortCardSaid : Prop := Claim7.holds Tryz.pinned (.plain (OpenSpec.ofChange decimalShortSpec)) decimalShortCard

/-- THE TIED CARD OF 'tollbooklaw06.DecimalOrders'. -/
def decimalOrdersCard : Claim7 := { stood := { row := decimalOrdersRow, standIns := [], harness := (true, "5adde2bc949d74e38882ab41e9363a26a660075ec5c1149e9d0c271bff7ec361"), looks := false }, kinds := [], alts := [], laidByText := true, laidKinds := [.data, .data, .data, .data, .data, .pinned], laidTests := true, laidLooks := .later }
def DecimalOrdersCardSaid : Prop := Claim7.holds Tryz.pinned (.plain (OpenSpec.ofChange decimalOrdersSpec)) decimalOrdersCard

/-- THE TIED CARD OF 'tollbooklaw06.DecimalNear'. -/
def decimalNearCard : Claim7 := { stood := { row := decimalNearRow, standIns := [], harness := (true, "5adde2bc949d74e38882ab41e9363a26a660075ec5c1149e9d0c271bff7ec361"), looks := false }, kinds := [], alts := [], laidByText := true, laidKinds := [.data, .data, .data, .data, .pinned], laidTests := true, laidLooks := .later }
def DecimalNearCardSaid : Prop := Claim7.holds Tryz.pinned (.plain (OpenSpec.ofChange decimalNearSpec)) decimalNearCard

/-- THE SECOND FORM's CARD OF 'tollbooklaw06.DecimalShort'. -/
def decimalShortUptoCard : Claim7 := { stood := { row := decimalShortUptoRow, standIns := [], harness := (true, "5adde2bc949d74e38882ab41e9363a26a660075ec5c1149e9d0c271bff7ec361"), looks := false }, kinds := [], alts := [], laidByText := true, laidKinds := [.data, .data, .data, .data, .pinned], laidTests := true, laidLooks := .later }
def DecimalShortUptoCardSaid : Prop := Claim7.holds Tryz.pinned (.plain (OpenSpec.upto decimalShortSpec)) decimalShortUptoCard

/-- THE SECOND FORM's CARD OF 'tollbooklaw06.DecimalOrders'. -/
def decimalOrdersUptoCard : Claim7 := { stood := { row := decimalOrdersUptoRow, standIns := [], harness := (true, "5adde2bc949d74e38882ab41e9363a26a660075ec5c1149e9d0c271bff7ec361"), looks := false }, kinds := [], alts := [], laidByText := true, laidKinds := [.data, .data, .data, .data, .data, .pinned], laidTests := true, laidLooks := .later }
def DecimalOrdersUptoCardSaid : Prop := Claim7.holds Tryz.pinned (.plain (OpenSpec.upto decimalOrdersSpec)) decimalOrdersUptoCard

/-- THE SECOND FORM's CARD OF 'tollbooklaw06.DecimalNear'. -/
def decimalNearUptoCard : Claim7 := { stood := { row := decimalNearUptoRow, standIns := [], harness := (true, "5adde2bc949d74e38882ab41e9363a26a660075ec5c1149e9d0c271bff7ec361"), looks := false }, kinds := [], alts := [], laidByText := true, laidKinds := [.data, .data, .data, .data, .pinned], laidTests := true, laidLooks := .later }
def DecimalNearUptoCardSaid : Prop := Claim7.holds Tryz.pinned (.plain (OpenSpec.upto decimalNearSpec)) decimalNearUptoCard
end Rows
end Go.Proofs.YtoaaiahheehgnabGreatDoor
