/-
  DERIVED. GIVEN WITH THE SEED: THE CARDS: each row of YtenmkbofpmbedaaGreatDoorRows.lean that lists a variable, with what it lists TIED to the program's text (the seventh form; the later family's looks); each row that meets fmt, with fmt's text TOLD by the authors' own Lean function (tested against real Go, not proved from fmt's source: count such statements apart). THE CARD IS WHAT COUNTS. Prove the row's statement (the work); the ties are given (YtenmkbofpmbedaaGreatDoorTie.lean); close each card by the builder's one call (the guide's Derived/Test/ToyasCard.lean, 'card_holds'). Laid BY PROGRAM, IN A SANDBOX (cutbox-door.mjs). By AI agents, Wed Nov 11 2026. No macro, syntax, notation, axiom, sorry.
-/
import Derived.Test.YtenmkbofpmbedaaGreatDoorRows
import GoSem.ClaimSeven
namespace Go.Proofs.YtenmkbofpmbedaaGreatDoor
namespace Rows

/-- THE TIED CARD OF 'tollbooklaw18.ScheduleAsks'. -/
def scheduleAsksCard : Claim7 := { stood := { row := scheduleAsksRow, standIns := [], harness := (true, "a15071e30c0026accaceb3789d4096b2ed1160ebcbdbf53aa8b3256b1d726941"), looks := false }, kinds := [], alts := [], laidByText := true, laidKinds := [.data], laidTests := true, laidLooks := .later }
def ScheduleAsksCardSaid : Prop := Claim7.holds Tryz.pinned (.plain (OpenSpec.ofChange scheduleAsksSpec)) scheduleAsksCard

end Rows
end Go.Proofs.YtenmkbofpmbedaaGreatDoor
