/-
  DERIVED. GIVEN WITH THE SEED: THE CARDS: each row of YtenmkbofpmbedabGreatDoorRows.lean that lists a variable, with what it lists TIED to the program's text (the seventh form; the later family's looks); each row that meets fmt, with fmt's text TOLD by the authors' own Lean function (tested against real Go, not proved from fmt's source: count such statements apart). THE CARD IS WHAT COUNTS. Prove the row's statement (the work); the ties are given (YtenmkbofpmbedabGreatDoorTie.lean); close each card by the builder's one call (the guide's Derived/Test/ToyasCard.lean, 'card_holds'). Laid BY PROGRAM, IN A SANDBOX (cutbox-door.mjs). By AI agents, Wed Nov 11 2026. No macro, syntax, notation, axiom, sorry.
-/
import Derived.Test.YtenmkbofpmbedabGreatDoorRows
import GoSem.ClaimSeven
namespace Go.Proofs.YtenmkbofpmbedabGreatDoor
namespace Rows

/-- THE TIED CARD OF 'tollbooklaw18.ScheduleUnits'. -/
def scheduleUnitsCard : Claim7 := { stood := { row := scheduleUnitsRow, standIns := [], harness := (true, "87236e225a0d016c4f2b4269184f35e38d9df023457e279875290273dfa6b3de"), looks := false }, kinds := [], alts := [], laidByText := true, laidKinds := [.data], laidTests := true, laidLooks := .later }
def ScheduleUnitsCardSaid : Prop := Claim7.holds Tryz.pinned (.plain (OpenSpec.ofChange scheduleUnitsSpec)) scheduleUnitsCard

end Rows
end Go.Proofs.YtenmkbofpmbedabGreatDoor
