/-
  DERIVED. GIVEN WITH THE SEED: THE CARDS: each row of YtiogfampfdnkcabGreatDoorRows.lean that lists a variable, with what it lists TIED to the program's text (the seventh form; the later family's looks); each row that meets fmt, with fmt's text TOLD by the authors' own Lean function (tested against real Go, not proved from fmt's source: count such statements apart). THE CARD IS WHAT COUNTS. Prove the row's statement (the work); the ties are given (YtiogfampfdnkcabGreatDoorTie.lean); close each card by the builder's one call (the guide's Derived/Test/ToyasCard.lean, 'card_holds'). Laid BY PROGRAM, IN A SANDBOX (cutbox-door.mjs). By AI agents, Wed Nov 11 2026. No macro, syntax, notation, axiom, sorry.
-/
import Derived.Test.YtiogfampfdnkcabGreatDoorRows
import GoSem.ClaimSeven
namespace Go.Proofs.YtiogfampfdnkcabGreatDoor
namespace Rows

/-- THE TIED CARD OF 'tollbooklaw13.TraitTables'. -/
def traitTablesCard : Claim7 := { stood := { row := traitTablesRow, standIns := [], harness := (true, "af7d0a6d5d3f1a22356279edd2ae13b6915e762896dfeb3b4a045fd18bc79bd0"), looks := false }, kinds := [], alts := [], laidByText := true, laidKinds := [.data, .data, .pinned], laidTests := true, laidLooks := .later }
def TraitTablesCardSaid : Prop := Claim7.holds Tryz.pinned (.plain (OpenSpec.ofChange traitTablesSpec)) traitTablesCard

/-- THE TIED CARD OF 'tollbooklaw13.TraitBlind'. -/
def traitBlindCard : Claim7 := { stood := { row := traitBlindRow, standIns := [], harness := (true, "af7d0a6d5d3f1a22356279edd2ae13b6915e762896dfeb3b4a045fd18bc79bd0"), looks := false }, kinds := [], alts := [], laidByText := true, laidKinds := [.data, .data, .pinned], laidTests := true, laidLooks := .later }
def TraitBlindCardSaid : Prop := Claim7.holds Tryz.pinned (.plain (OpenSpec.ofChange traitBlindSpec)) traitBlindCard

/-- THE TIED CARD OF 'tollbooklaw13.TraitCovers'. -/
def traitCoversCard : Claim7 := { stood := { row := traitCoversRow, standIns := [], harness := (true, "af7d0a6d5d3f1a22356279edd2ae13b6915e762896dfeb3b4a045fd18bc79bd0"), looks := false }, kinds := [], alts := [], laidByText := true, laidKinds := [.data, .data, .pinned], laidTests := true, laidLooks := .later }
def TraitCoversCardSaid : Prop := Claim7.holds Tryz.pinned (.plain (OpenSpec.ofChange traitCoversSpec)) traitCoversCard

/-- THE SECOND FORM's CARD OF 'tollbooklaw13.TraitTables'. -/
def traitTablesUptoCard : Claim7 := { stood := { row := traitTablesUptoRow, standIns := [], harness := (true, "af7d0a6d5d3f1a22356279edd2ae13b6915e762896dfeb3b4a045fd18bc79bd0"), looks := false }, kinds := [], alts := [], laidByText := true, laidKinds := [.data, .data, .pinned], laidTests := true, laidLooks := .later }
def TraitTablesUptoCardSaid : Prop := Claim7.holds Tryz.pinned (.plain (OpenSpec.upto traitTablesSpec)) traitTablesUptoCard

/-- THE SECOND FORM's CARD OF 'tollbooklaw13.TraitBlind'. -/
def traitBlindUptoCard : Claim7 := { stood := { row := traitBlindUptoRow, standIns := [], harness := (true, "af7d0a6d5d3f1a22356279edd2ae13b6915e762896dfeb3b4a045fd18bc79bd0"), looks := false }, kinds := [], alts := [], laidByText := true, laidKinds := [.data, .data, .pinned], laidTests := true, laidLooks := .later }
def TraitBlindUptoCardSaid : Prop := Claim7.holds Tryz.pinned (.plain (OpenSpec.upto traitBlindSpec)) traitBlindUptoCard

/-- THE SECOND FORM's CARD OF 'tollbooklaw13.TraitCovers'. -/
def traitCoversUptoCard : Claim7 := { stood := { row := traitCoversUptoRow, standIns := [], harness := (true, "af7d0a6d5d3f1a22356279edd2ae13b6915e762896dfeb3b4a045fd18bc79bd0"), looks := false }, kinds := [], alts := [], laidByText := true, laidKinds := [.data, .data, .pinned], laidTests := true, laidLooks := .later }
def TraitCoversUptoCardSaid : Prop := Claim7.holds Tryz.pinned (.plain (OpenSpec.upto traitCoversSpec)) traitCoversUptoCard
end Rows
end Go.Proofs.YtiogfampfdnkcabGreatDoor
