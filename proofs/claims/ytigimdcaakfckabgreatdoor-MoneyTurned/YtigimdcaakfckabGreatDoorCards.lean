/-
  DERIVED. GIVEN WITH THE SEED: THE CARDS: each row of YtigimdcaakfckabGreatDoorRows.lean that lists a variable, with what it lists TIED to the program's text (the seventh form; the later family's looks); each row that meets fmt, with fmt's text TOLD by the authors' own Lean function (tested against real Go, not proved from fmt's source: count such statements apart). THE CARD IS WHAT COUNTS. Prove the row's statement (the work); the ties are given (YtigimdcaakfckabGreatDoorTie.lean); close each card by the builder's one call (the guide's Derived/Test/ToyasCard.lean, 'card_holds'). Laid BY PROGRAM, IN A SANDBOX (cutbox-door.mjs). By AI agents, Wed Nov 11 2026. No macro, syntax, notation, axiom, sorry.
-/
import Derived.Test.YtigimdcaakfckabGreatDoorRows
import GoSem.ClaimSeven
namespace Go.Proofs.YtigimdcaakfckabGreatDoor
namespace Rows

/-- THE TIED CARD OF 'tollbooklaw09.MoneyReads'. -/
def moneyReadsCard : Claim7 := { stood := { row := moneyReadsRow, standIns := [], harness := (true, "75b663c553f376a72dacd7210f01022a4f0408b0fe41b194ad703bb325f16307"), looks := false }, kinds := [], alts := [], laidByText := true, laidKinds := [.data, .data, .data, .data, .data, .pinned], laidTests := true, laidLooks := .later }
def MoneyReadsCardSaid : Prop := Claim7.holds Tryz.pinned (.plain (OpenSpec.ofChange moneyReadsSpec)) moneyReadsCard

/-- THE TIED CARD OF 'tollbooklaw09.MoneyTurned'. -/
def moneyTurnedCard : Claim7 := { stood := { row := moneyTurnedRow, standIns := [], harness := (true, "75b663c553f376a72dacd7210f01022a4f0408b0fe41b194ad703bb325f16307"), looks := false }, kinds := [], alts := [], laidByText := true, laidKinds := [.data, .data, .data, .data, .data, .pinned], laidTests := true, laidLooks := .later }
def MoneyTurnedCardSaid : Prop := Claim7.holds Tryz.pinned (.plain (OpenSpec.ofChange moneyTurnedSpec)) moneyTurnedCard

/-- THE SECOND FORM's CARD OF 'tollbooklaw09.MoneyReads'. -/
def moneyReadsUptoCard : Claim7 := { stood := { row := moneyReadsUptoRow, standIns := [], harness := (true, "75b663c553f376a72dacd7210f01022a4f0408b0fe41b194ad703bb325f16307"), looks := false }, kinds := [], alts := [], laidByText := true, laidKinds := [.data, .data, .data, .data, .data, .pinned], laidTests := true, laidLooks := .later }
def MoneyReadsUptoCardSaid : Prop := Claim7.holds Tryz.pinned (.plain (OpenSpec.upto moneyReadsSpec)) moneyReadsUptoCard

/-- THE SECOND FORM's CARD OF 'tollbooklaw09.MoneyTurned'. -/
def moneyTurnedUptoCard : Claim7 := { stood := { row := moneyTurnedUptoRow, standIns := [], harness := (true, "75b663c553f376a72dacd7210f01022a4f0408b0fe41b194ad703bb325f16307"), looks := false }, kinds := [], alts := [], laidByText := true, laidKinds := [.data, .data, .data, .data, .data, .pinned], laidTests := true, laidLooks := .later }
def MoneyTurnedUptoCardSaid : Prop := Claim7.holds Tryz.pinned (.plain (OpenSpec.upto moneyTurnedSpec)) moneyTurnedUptoCard
end Rows
end Go.Proofs.YtigimdcaakfckabGreatDoor
