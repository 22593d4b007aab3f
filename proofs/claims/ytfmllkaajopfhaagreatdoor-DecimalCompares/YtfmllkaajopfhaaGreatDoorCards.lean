/-
  DERIVED. GIVEN WITH THE SEED: THE CARDS: each row of YtfmllkaajopfhaaGreatDoorRows.lean that lists a variable, with what it lists TIED to the program's text (the seventh form; the later family's looks); each row that meets fmt, with fmt's text TOLD by the authors' own Lean function (tested against real Go, not proved from fmt's source: count such statements apart). THE CARD IS WHAT COUNTS. Prove the row's statement (the work); the ties are given (YtfmllkaajopfhaaGreatDoorTie.lean); close each card by the builder's one call (the guide's Derived/Test/ToyasCard.lean, 'card_holds'). Laid BY PROGRAM, IN A SANDBOX (cutbox-door.mjs). By AI agents, Wed Nov 11 2026. No macro, syntax, notation, axiom, sorry.
-/
import Derived.Test.YtfmllkaajopfhaaGreatDoorRows
import GoSem.ClaimSeven
namespace Go.Proofs.YtfmllkaajopfhaaGreatDoor
namespace Rows

/-- THE TIED CARD OF 'tollbooklaw06.DecimalCompares'. -/
def decimalComparesCard : Claim7 := { stood := { row := decimalComparesRow, standIns := [], harness := (true, "4f18453a4105f5e89abb6c7d4b934ebca3c5ca42fd26768c1f85e43d97e1790a"), looks := false }, kinds := [], alts := [], laidByText := true, laidKinds := [.data, .data, .data, .data, .data, .pinned], laidTests := true, laidLooks := .later }
def DecimalComparesCardSaid : Prop := Claim7.holds Tryz.pinned (.plain (OpenSpec.ofChange decimalComparesSpec)) decimalComparesCard

/-- THE SECOND FORM's CARD OF 'tollbooklaw06.DecimalCompares'. -/
def decimalComparesUptoCard : Claim7 := { stood := { row := decimalComparesUptoRow, standIns := [], harness := (true, "4f18453a4105f5e89abb6c7d4b934ebca3c5ca42fd26768c1f85e43d97e1790a"), looks := false }, kinds := [], alts := [], laidByText := true, laidKinds := [.data, .data, .data, .data, .data, .pinned], laidTests := true, laidLooks := .later }
def DecimalComparesUptoCardSaid : Prop := Claim7.holds Tryz.pinned (.plain (OpenSpec.upto decimalComparesSpec)) decimalComparesUptoCard
end Rows
end Go.Proofs.YtfmllkaajopfhaaGreatDoor
