/-
  DERIVED. GIVEN WITH THE SEED: THE CARDS: each row of YtblafbbnplfpjaaGreatDoorRows.lean that lists a variable, with what it lists TIED to the program's text (the seventh form; the later family's looks); each row that meets fmt, with fmt's text TOLD by the authors' own Lean function (tested against real Go, not proved from fmt's source: count such statements apart). THE CARD IS WHAT COUNTS. Prove the row's statement (the work); the ties are given (YtblafbbnplfpjaaGreatDoorTie.lean); close each card by the builder's one call (the guide's Derived/Test/ToyasCard.lean, 'card_holds'). Laid BY PROGRAM, IN A SANDBOX (cutbox-door.mjs). By AI agents, Wed Nov 11 2026. No macro, syntax, notation, axiom, sorry.
-/
import Derived.Test.YtblafbbnplfpjaaGreatDoorRows
import GoSem.ClaimSeven
namespace Go.Proofs.YtblafbbnplfpjaaGreatDoor
namespace Rows

/-- THE TIED CARD OF 'tollbooklaw13.TraitPlains'. -/
def traitPlainsCard : Claim7 := { stood := { row := traitPlainsRow, standIns := [], harness := (true, "62a5dff3166f1a22d86790cb576045a06ed59d0de6694a773ce0147525e22237"), looks := false }, kinds := [], alts := [], laidByText := true, laidKinds := [.data, .data, .pinned], laidTests := true, laidLooks := .later }
def TraitPlainsCardSaid : Prop := Claim7.holds Tryz.pinned (.plain (OpenSpec.ofChange traitPlainsSpec)) traitPlainsCard

end Rows
end Go.Proofs.YtblafbbnplfpjaaGreatDoor
