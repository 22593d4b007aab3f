/-
  DERIVED. GIVEN WITH THE SEED: THE CARDS: each row of YthladfhjhanhlaaGreatDoorRows.lean that lists a variable, with what it lists TIED to the program's text (the seventh form; the later family's looks); each row that meets fmt, with fmt's text TOLD by the authors' own Lean function (tested against real Go, not proved from fmt's source: count such statements apart). THE CARD IS WHAT COUNTS. Prove the row's statement (the work); the ties are given (YthladfhjhanhlaaGreatDoorTie.lean); close each card by the builder's one call (the guide's Derived/Test/ToyasCard.lean, 'card_holds'). Laid BY PROGRAM, IN A SANDBOX (cutbox-door.mjs). By AI agents, Wed Nov 11 2026. No macro, syntax, notation, axiom, sorry.
-/
import Derived.Test.YthladfhjhanhlaaGreatDoorRows
import GoSem.ClaimSeven
namespace Go.Proofs.YthladfhjhanhlaaGreatDoor
namespace Rows

/-- THE TIED CARD OF 'tollbooklaw13.TraitBlind'. -/
def traitBlindCard : Claim7 := { stood := { row := traitBlindRow, standIns := [], harness := (true, "c533736b0e83b03e89f60611a79e34d4a46932bfeb24148069bd274a85a5709a"), looks := false }, kinds := [], alts := [], laidByText := true, laidKinds := [.data, .data, .pinned], laidTests := true, laidLooks := .later }
def TraitBlindCardSaid : Prop := Claim7.holds Tryz.pinned (.plain (OpenSpec.ofChange traitBlindSpec)) traitBlindCard

/-- THE SECOND FORM's CARD OF 'tollbooklaw13.TraitBlind'. -/
def traitBlindUptoCard : Claim7 := { stood := { row := traitBlindUptoRow, standIns := [], harness := (true, "c533736b0e83b03e89f60611a79e34d4a46932bfeb24148069bd274a85a5709a"), looks := false }, kinds := [], alts := [], laidByText := true, laidKinds := [.data, .data, .pinned], laidTests := true, laidLooks := .later }
def TraitBlindUptoCardSaid : Prop := Claim7.holds Tryz.pinned (.plain (OpenSpec.upto traitBlindSpec)) traitBlindUptoCard
end Rows
end Go.Proofs.YthladfhjhanhlaaGreatDoor
