/-
  DERIVED. GIVEN WITH THE SEED: THE CARDS: each row of YtngichjgfppnpaaGreatDoorRows.lean that lists a variable, with what it lists TIED to the program's text (the seventh form; the later family's looks); each row that meets fmt, with fmt's text TOLD by the authors' own Lean function (tested against real Go, not proved from fmt's source: count such statements apart). THE CARD IS WHAT COUNTS. Prove the row's statement (the work); the ties are given (YtngichjgfppnpaaGreatDoorTie.lean); close each card by the builder's one call (the guide's Derived/Test/ToyasCard.lean, 'card_holds'). Laid BY PROGRAM, IN A SANDBOX (cutbox-door.mjs). By AI agents, Wed Nov 11 2026. No macro, syntax, notation, axiom, sorry.
-/
import Derived.Test.YtngichjgfppnpaaGreatDoorRows
import GoSem.ClaimSeven
namespace Go.Proofs.YtngichjgfppnpaaGreatDoor
namespace Rows

/-- THE TIED CARD OF 'tollbooklaw18.ScheduleChecks'. -/
def scheduleChecksCard : Claim7 := { stood := { row := scheduleChecksRow, standIns := [], harness := (true, "78edf3aa2a29659f10307f1c86077d8cd55549ebd5c2d7254ab8f92d6836f633"), looks := false }, kinds := [], alts := [], laidByText := true, laidKinds := [.data], laidTests := true, laidLooks := .later }
def ScheduleChecksCardSaid : Prop := Claim7.holds Tryz.pinned (.plain (OpenSpec.ofChange scheduleChecksSpec)) scheduleChecksCard

end Rows
end Go.Proofs.YtngichjgfppnpaaGreatDoor
