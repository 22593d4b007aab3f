/-
  DERIVED. GIVEN WITH THE SEED: THE CARDS: each row of YtcfjgebfjgkmnaaGreatDoorRows.lean that lists a variable, with what it lists TIED to the program's text (the seventh form; the later family's looks); each row that meets fmt, with fmt's text TOLD by the authors' own Lean function (tested against real Go, not proved from fmt's source: count such statements apart). THE CARD IS WHAT COUNTS. Prove the row's statement (the work); the ties are given (YtcfjgebfjgkmnaaGreatDoorTie.lean); close each card by the builder's one call (the guide's Derived/Test/ToyasCard.lean, 'card_holds'). Laid BY PROGRAM, IN A SANDBOX (cutbox-door.mjs). By AI agents, Wed Nov 11 2026. No macro, syntax, notation, axiom, sorry.
-/
import Derived.Test.YtcfjgebfjgkmnaaGreatDoorRows
import GoSem.ClaimSeven
namespace Go.Proofs.YtcfjgebfjgkmnaaGreatDoor
namespace Rows

/-- THE TIED CARD OF 'tollbooklaw13.TraitClasses'. -/
def traitClassesCard : Claim7 := { stood := { row := traitClassesRow, standIns := [], harness := (true, "90338f337a852516f92bdf8f77061d347993fa8ee8011f1ab8b60816465d386a"), looks := false }, kinds := [], alts := [], laidByText := true, laidKinds := [.data, .data, .pinned], laidTests := true, laidLooks := .later }
def TraitClassesCardSaid : Prop := Claim7.holds Tryz.pinned (.plain (OpenSpec.ofChange traitClassesSpec)) traitClassesCard

/-- THE SECOND FORM's CARD OF 'tollbooklaw13.TraitClasses'. -/
def traitClassesUptoCard : Claim7 := { stood := { row := traitClassesUptoRow, standIns := [], harness := (true, "90338f337a852516f92bdf8f77061d347993fa8ee8011f1ab8b60816465d386a"), looks := false }, kinds := [], alts := [], laidByText := true, laidKinds := [.data, .data, .pinned], laidTests := true, laidLooks := .later }
def TraitClassesUptoCardSaid : Prop := Claim7.holds Tryz.pinned (.plain (OpenSpec.upto traitClassesSpec)) traitClassesUptoCard
end Rows
end Go.Proofs.YtcfjgebfjgkmnaaGreatDoor
