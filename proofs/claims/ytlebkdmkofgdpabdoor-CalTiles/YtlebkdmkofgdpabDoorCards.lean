/-
  DERIVED. GIVEN WITH THE SEED: THE CARDS: each row of YtlebkdmkofgdpabDoorRows.lean that lists a variable, with what it lists TIED to the program's text (the seventh form; the later family's looks); each row that meets fmt, with fmt's text TOLD by the authors' own Lean function (tested against real Go, not proved from fmt's source: count such statements apart). THE CARD IS WHAT COUNTS. Prove the row's statement (the work); the ties are given (YtlebkdmkofgdpabDoorTie.lean); close each card by the builder's one call (the guide's Derived/Test/ToyasCard.lean, 'card_holds'). Laid BY PROGRAM, IN A SANDBOX (cutbox-door.mjs). By AI agents, Wed Nov 11 2026. No macro, syntax, notation, axiom, sorry.
-/
import Derived.Test.YtlebkdmkofgdpabDoorRows
import GoSem.ClaimSeven
namespace Go.Proofs.YtlebkdmkofgdpabDoor
namespace Rows

/-- THE TIED CARD OF 'tollbooklaw10.CalBack'. -/
def calBackCard : Claim7 := { stood := { row := calBackRow, standIns := [], harness := (true, "5dadea2fa2763a51631722a245263da56e35bf7ee6f515b24145eebc803faa5b"), looks := false }, kinds := [], alts := [], laidByText := true, laidKinds := [.data, .data, .data, .data], laidTests := true, laidLooks := .later }
def CalBackCardSaid : Prop := Claim7.holds Tryd.pinned (.plain (OpenSpec.ofChange calBackSpec)) calBackCard

/-- THE TIED CARD OF 'tollbooklaw10.CalNext'. -/
def calNextCard : Claim7 := { stood := { row := calNextRow, standIns := [], harness := (true, "5dadea2fa2763a51631722a245263da56e35bf7ee6f515b24145eebc803faa5b"), looks := false }, kinds := [], alts := [], laidByText := true, laidKinds := [.data, .data, .data, .data], laidTests := true, laidLooks := .later }
def CalNextCardSaid : Prop := Claim7.holds Tryd.pinned (.plain (OpenSpec.ofChange calNextSpec)) calNextCard

/-- THE TIED CARD OF 'tollbooklaw10.CalTiles'. -/
def calTilesCard : Claim7 := { stood := { row := calTilesRow, standIns := [], harness := (true, "5dadea2fa2763a51631722a245263da56e35bf7ee6f515b24145eebc803faa5b"), looks := false }, kinds := [], alts := [], laidByText := true, laidKinds := [.data], laidTests := true, laidLooks := .later }
def CalTilesCardSaid : Prop := Claim7.holds Tryd.pinned (.plain (OpenSpec.ofChange calTilesSpec)) calTilesCard

/-- THE TIED CARD OF 'tollbooklaw10.CalShifts'. -/
def calShiftsCard : Claim7 := { stood := { row := calShiftsRow, standIns := [], harness := (true, "5dadea2fa2763a51631722a245263da56e35bf7ee6f515b24145eebc803faa5b"), looks := false }, kinds := [], alts := [], laidByText := true, laidKinds := [.data], laidTests := true, laidLooks := .later }
def CalShiftsCardSaid : Prop := Claim7.holds Tryd.pinned (.plain (OpenSpec.ofChange calShiftsSpec)) calShiftsCard

/-- THE SECOND FORM's CARD OF 'tollbooklaw10.CalBack'. -/
def calBackUptoCard : Claim7 := { stood := { row := calBackUptoRow, standIns := [], harness := (true, "5dadea2fa2763a51631722a245263da56e35bf7ee6f515b24145eebc803faa5b"), looks := false }, kinds := [], alts := [], laidByText := true, laidKinds := [.data, .data, .data, .data], laidTests := true, laidLooks := .later }
def CalBackUptoCardSaid : Prop := Claim7.holds Tryd.pinned (.plain (OpenSpec.upto calBackSpec)) calBackUptoCard

/-- THE SECOND FORM's CARD OF 'tollbooklaw10.CalNext'. -/
def calNextUptoCard : Claim7 := { stood := { row := calNextUptoRow, standIns := [], harness := (true, "5dadea2fa2763a51631722a245263da56e35bf7ee6f515b24145eebc803faa5b"), looks := false }, kinds := [], alts := [], laidByText := true, laidKinds := [.data, .data, .data, .data], laidTests := true, laidLooks := .later }
def CalNextUptoCardSaid : Prop := Claim7.holds Tryd.pinned (.plain (OpenSpec.upto calNextSpec)) calNextUptoCard

/-- THE SECOND FORM's CARD OF 'tollbooklaw10.CalTiles'. -/
def calTilesUptoCard : Claim7 := { stood := { row := calTilesUptoRow, standIns := [], harness := (true, "5dadea2fa2763a51631722a245263da56e35bf7ee6f515b24145eebc803faa5b"), looks := false }, kinds := [], alts := [], laidByText := true, laidKinds := [.data], laidTests := true, laidLooks := .later }
def CalTilesUptoCardSaid : Prop := Claim7.holds Tryd.pinned (.plain (OpenSpec.upto calTilesSpec)) calTilesUptoCard

/-- THE SECOND FORM's CARD OF 'tollbooklaw10.CalShifts'. -/
def calShiftsUptoCard : Claim7 := { stood := { row := calShiftsUptoRow, standIns := [], harness := (true, "5dadea2fa2763a51631722a245263da56e35bf7ee6f515b24145eebc803faa5b"), looks := false }, kinds := [], alts := [], laidByText := true, laidKinds := [.data], laidTests := true, laidLooks := .later }
def CalShiftsUptoCardSaid : Prop := Claim7.holds Tryd.pinned (.plain (OpenSpec.upto calShiftsSpec)) calShiftsUptoCard
end Rows
end Go.Proofs.YtlebkdmkofgdpabDoor
