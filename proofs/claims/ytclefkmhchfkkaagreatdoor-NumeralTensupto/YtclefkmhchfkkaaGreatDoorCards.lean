/-
  DERIVED. GIVEN WITH THE SEED: THE CARDS: each row of YtclefkmhchfkkaaGreatDoorRows.lean that lists a variable, with what it lists TIED to the program's text (the seventh form; the later family's looks); each row that meets fmt, with fmt's text TOLD by the authors' own Lean function (tested against real Go, not proved from fmt's source: count such statements apart). THE CARD IS WHAT COUNTS. Prove the row's statement (the work); the ties are given (YtclefkmhchfkkaaGreatDoorTie.lean); close each card by the builder's one call (the guide's Derived/Test/ToyasCard.lean, 'card_holds'). Laid BY PROGRAM, IN A SANDBOX (cutbox-door.mjs). By AI agents, Wed Nov 11 2026. No macro, syntax, notation, axiom, sorry.
-/
import Derived.Test.YtclefkmhchfkkaaGreatDoorRows
import GoSem.ClaimSeven
namespace Go.Proofs.YtclefkmhchfkkaaGreatDoor
namespace Rows

/-- THE TIED CARD OF 'tollbooklaw03.NumeralTexts'. -/
def numeralTextsCard : Claim7 := { stood := { row := numeralTextsRow, standIns := [], harness := (true, "8d746ead379ee8b80c611f18dedcdf08d1f4ae1823d4d7ef8305a163111ab07a"), looks := false }, kinds := [], alts := [], laidByText := true, laidKinds := [.data, .data, .data], laidTests := true, laidLooks := .later }
def NumeralTextsCardSaid : Prop := Claim7.holds Tryz.pinned (.plain (OpenSpec.ofChange numeralTextsSpec)) numeralTextsCard

/-- THE TIED CARD OF 'tollbooklaw03.NumeralTens'. -/
def numeralTensCard : Claim7 := { stood := { row := numeralTensRow, standIns := [], harness := (true, "8d746ead379ee8b80c611f18dedcdf08d1f4ae1823d4d7ef8305a163111ab07a"), looks := false }, kinds := [], alts := [], laidByText := true, laidKinds := [.data, .data, .data], laidTests := true, laidLooks := .later }
def NumeralTensCardSaid : Prop := Claim7.holds Tryz.pinned (.plain (OpenSpec.ofChange numeralTensSpec)) numeralTensCard

/-- THE SECOND FORM's CARD OF 'tollbooklaw03.NumeralTexts'. -/
def numeralTextsUptoCard : Claim7 := { stood := { row := numeralTextsUptoRow, standIns := [], harness := (true, "8d746ead379ee8b80c611f18dedcdf08d1f4ae1823d4d7ef8305a163111ab07a"), looks := false }, kinds := [], alts := [], laidByText := true, laidKinds := [.data, .data, .data], laidTests := true, laidLooks := .later }
def NumeralTextsUptoCardSaid : Prop := Claim7.holds Tryz.pinned (.plain (OpenSpec.upto numeralTextsSpec)) numeralTextsUptoCard

/-- THE SECOND FORM's CARD OF 'tollbooklaw03.NumeralTens'. -/
def numeralTensUptoCard : Claim7 := { stood := { row := numeralTensUptoRow, standIns := [], harness := (true, "8d746ead379ee8b80c611f18dedcdf08d1f4ae1823d4d7ef8305a163111ab07a"), looks := false }, kinds := [], alts := [], laidByText := true, laidKinds := [.data, .data, .data], laidTests := true, laidLooks := .later }
def NumeralTensUptoCardSaid : Prop := Claim7.holds Tryz.pinned (.plain (OpenSpec.upto numeralTensSpec)) numeralTensUptoCard
end Rows
end Go.Proofs.YtclefkmhchfkkaaGreatDoor
