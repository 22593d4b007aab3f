/-
  DERIVED. GIVEN WITH THE SEED: THE CARDS: each row of YtoaaiahheehgnaaGreatDoorRows.lean that lists a variable, with what it lists TIED to the program's text (the seventh form; the later family's looks); each row that meets fmt, with fmt's text TOLD by the authors' own Lean function (tested against real Go, not proved from fmt's source: count such statements apart). THE CARD IS WHAT COUNTS. Prove the row's statement (the work); the ties are given (YtoaaiahheehgnaaGreatDoorTie.lean); close each card by the builder's one call (the guide's Derived/Test/ToyasCard.lean, 'card_holds'). Laid BY PROGRAM, IN A SANDBOX (cutbox-door.mjs). By AI agents, Wed Nov 11 2026. No macro, syntax, notation, axiom, sorry.
-/
import Derived.Test.YtoaaiahheehgnaaGreatDoorRows
import GoSem.ClaimSeven
namespace Go.Proofs.YtoaaiahheehgnaaGreatDoor
namespace Rows

/-- THE TIED CARD OF 'tollbooklaw06.DecimalMakes'. -/
def decimalMakesCard : Claim7 := { stood := { row := decimalMakesRow, standIns := [], harness := (true, "ac83d126ee668c5ac103424cf2203f07bdd682caaa2941f932eb4f7e735d9497"), looks := false }, kinds := [], alts := [], laidByText := true, laidKinds := [.data, .data, .data, .data, .data, .pinned], laidTests := true, laidLooks := .later }
def DecimalMakesCardSaid : Prop := Claim7.holds Tryz.pinned (.plain (OpenSpec.ofChange decimalMakesSpec)) decimalMakesCard

/-- THE TIED CARD OF 'tollbooklaw06.DecimalParses'. -/
def decimalParsesCard : Claim7 := { stood := { row := decimalParsesRow, standIns := [], harness := (true, "ac83d126ee668c5ac103424cf2203f07bdd682caaa2941f932eb4f7e735d9497"), looks := false }, kinds := [], alts := [], laidByText := true, laidKinds := [.data, .data, .data, .data, .pinned], laidTests := true, laidLooks := .later }
def DecimalParsesCardSaid : Prop := Claim7.holds Tryz.pinned (.plain (OpenSpec.ofChange decimalParsesSpec)) decimalParsesCard

/-- THE TIED CARD OF 'tollbooklaw06.DecimalCompares'. -/
def decimalComparesCard : Claim7 := { stood := { row := decimalComparesRow, standIns := [], harness := (true, "ac83d126ee668c5ac103424cf2203f07bdd682caaa2941f932eb4f7e735d9497"), looks := false }, kinds := [], alts := [], laidByText := true, laidKinds := [.data, .data, .data, .data, .data, .pinned], laidTests := true, laidLooks := .later }
def DecimalComparesCardSaid : Prop := Claim7.holds Tryz.pinned (.plain (OpenSpec.ofChange decimalComparesSpec)) decimalComparesCard

/-- THE TIED CARD OF 'tollbooklaw06.DecimalOfs'. -/
def decimalOfsCard : Claim7 := { stood := { row := decimalOfsRow, standIns := [], harness := (true, "ac83d126ee668c5ac103424cf2203f07bdd682caaa2941f932eb4f7e735d9497"), looks := false }, kinds := [], alts := [], laidByText := true, laidKinds := [.data, .data, .data, .data, .data, .pinned], laidTests := true, laidLooks := .later }
def DecimalOfsCardSaid : Prop := Claim7.holds Tryz.pinned (.plain (OpenSpec.ofChange decimalOfsSpec)) decimalOfsCard

/-- THE TIED CARD OF 'tollbooklaw06.DecimalExpands'. -/
def decimalExpandsCard : Claim7 := { stood := { row := decimalExpandsRow, standIns := [], harness := (true, "ac83d126ee668c5ac103424cf2203f07bdd682caaa2941f932eb4f7e735d9497"), looks := false }, kinds := [], alts := [], laidByText := true, laidKinds := [.data, .data, .data, .data, .pinned], laidTests := true, laidLooks := .later }
def DecimalExpandsCardSaid : Prop := Claim7.holds Tryz.pinned (.plain (OpenSpec.ofChange decimalExpandsSpec)) decimalExpandsCard

/-- THE TIED CARD OF 'tollbooklaw06.DecimalBack'. -/
def decimalBackCard : Claim7 := { stood := { row := decimalBackRow, standIns := [], harness := (true, "ac83d126ee668c5ac103424cf2203f07bdd682caaa2941f932eb4f7e735d9497"), looks := false }, kinds := [], alts := [], laidByText := true, laidKinds := [.data, .data, .data, .data, .data, .pinned], laidTests := true, laidLooks := .later }
def DecimalBackCardSaid : Prop := Claim7.holds Tryz.pinned (.plain (OpenSpec.ofChange decimalBackSpec)) decimalBackCard

/-- THE SECOND FORM's CARD OF 'tollbooklaw06.DecimalMakes'. -/
def decimalMakesUptoCard : Claim7 := { stood := { row := decimalMakesUptoRow, standIns := [], harness := (true, "ac83d126ee668c5ac103424cf2203f07bdd682caaa2941f932eb4f7e735d9497"), looks := false }, kinds := [], alts := [], laidByText := true, laidKinds := [.data, .data, .data, .data, .data, .pinned], laidTests := true, laidLooks := .later }
def DecimalMakesUptoCardSaid : Prop := Claim7.holds Tryz.pinned (.plain (OpenSpec.upto decimalMakesSpec)) decimalMakesUptoCard

/-- THE SECOND FORM's CARD OF 'tollbooklaw06.DecimalParses'. -/
def decimalParsesUptoCard : Claim7 := { stood := { row := decimalParsesUptoRow, standIns := [], harness := (true, "ac83d126ee668c5ac103424cf2203f07bdd682caaa2941f932eb4f7e735d9497"), looks := false }, kinds := [], alts := [], laidByText := true, laidKinds := [.data, .data, .data, .data, .pinned], laidTests := true, laidLooks := .later }
def DecimalParsesUptoCardSaid : Prop := Claim7.holds Tryz.pinned (.plain (OpenSpec.upto decimalParsesSpec)) decimalParsesUptoCard

/-- THE SECOND FORM's CARD OF 'tollbooklaw06.DecimalCompares'. -/
def decimalComparesUptoCard : Claim7 := { stood := { row := decimalComparesUptoRow, standIns := [], harness := (true, "ac83d126ee668c5ac103424cf2203f07bdd682caaa2941f932eb4f7e735d9497"), looks := false }, kinds := [], alts := [], laidByText := true, laidKinds := [.data, .data, .data, .data, .data, .pinned], laidTests := true, laidLooks := .later }
def DecimalComparesUptoCardSaid : Prop := Claim7.holds Tryz.pinned (.plain (OpenSpec.upto decimalComparesSpec)) decimalComparesUptoCard

/-- THE SECOND FORM's CARD OF 'tollbooklaw06.DecimalOfs'. -/
def decimalOfsUptoCard : Claim7 := { stood := { row := decimalOfsUptoRow, standIns := [], harness := (true, "ac83d126ee668c5ac103424cf2203f07bdd682caaa2941f932eb4f7e735d9497"), looks := false }, kinds := [], alts := [], laidByText := true, laidKinds := [.data, .data, .data, .data, .data, .pinned], laidTests := true, laidLooks := .later }
def DecimalOfsUptoCardSaid : Prop := Claim7.holds Tryz.pinned (.plain (OpenSpec.upto decimalOfsSpec)) decimalOfsUptoCard

/-- THE SECOND FORM's CARD OF 'tollbooklaw06.DecimalExpands'. -/
def decimalExpandsUptoCard : Claim7 := { stood := { row := decimalExpandsUptoRow, standIns := [], harness := (true, "ac83d126ee668c5ac103424cf2203f07bdd682caaa2941f932eb4f7e735d9497"), looks := false }, kinds := [], alts := [], laidByText := true, laidKinds := [.data, .data, .data, .data, .pinned], laidTests := true, laidLooks := .later }
def DecimalExpandsUptoCardSaid : Prop := Claim7.holds Tryz.pinned (.plain (OpenSpec.upto decimalExpandsSpec)) decimalExpandsUptoCard

/-- THE SECOND FORM's CARD OF 'tollbooklaw06.DecimalBack'. -/
def decimalBackUptoCard : Claim7 := { stood := { row := decimalBackUptoRow, standIns := [], harness := (true, "ac83d126ee668c5ac103424cf2203f07bdd682caaa2941f932eb4f7e735d9497"), looks := false }, kinds := [], alts := [], laidByText := true, laidKinds := [.data, .data, .data, .data, .data, .pinned], laidTests := true, laidLooks := .later }
def DecimalBackUptoCardSaid : Prop := Claim7.holds Tryz.pinned (.plain (OpenSpec.upto decimalBackSpec)) decimalBackUptoCard
end Rows
end Go.Proofs.YtoaaiahheehgnaaGreatDoor
