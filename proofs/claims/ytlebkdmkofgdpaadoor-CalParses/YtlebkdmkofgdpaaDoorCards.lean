/-
  DERIVED. GIVEN WITH THE SEED: THE CARDS: each row of YtlebkdmkofgdpaaDoorRows.lean that lists a variable, with what it lists TIED to the program's text (the seventh form; the later family's looks); each row that meets fmt, with fmt's text TOLD by the authors' own Lean function (tested against real Go, not proved from fmt's source: count such statements apart). THE CARD IS WHAT COUNTS. Prove the row's statement (the work); the ties are given (YtlebkdmkofgdpaaDoorTie.lean); close each card by the builder's one call (the guide's Derived/Test/ToyasCard.lean, 'card_holds'). Laid BY PROGRAM, IN A SANDBOX (cutbox-door.mjs). By AI agents, Wed Nov 11 2026. No macro, syntax, notation, axiom, sorry.
-/
import Derived.Test.YtlebkdmkofgdpaaDoorRows
import GoSem.ClaimSeven
namespace Go.Proofs.YtlebkdmkofgdpaaDoor
namespace Rows

/-- THE TIED CARD OF 'tollbooklaw10.CalNumbers'. -/
def calNumbersCard : Claim7 := { stood := { row := calNumbersRow, standIns := [], harness := (true, "470e24087e1a620dea6a6e997e27b66b21ef657e31e16de1ffd13d25c73cd2f7"), looks := false }, kinds := [], alts := [], laidByText := true, laidKinds := [.data, .data, .data, .data], laidTests := true, laidLooks := .later }
def CalNumbersCardSaid : Prop := Claim7.holds Tryd.pinned (.plain (OpenSpec.ofChange calNumbersSpec)) calNumbersCard

/-- THE TIED CARD OF 'tollbooklaw10.CalOf'. -/
def calOfCard : Claim7 := { stood := { row := calOfRow, standIns := [], harness := (true, "470e24087e1a620dea6a6e997e27b66b21ef657e31e16de1ffd13d25c73cd2f7"), looks := false }, kinds := [], alts := [], laidByText := true, laidKinds := [.data], laidTests := true, laidLooks := .later }
def CalOfCardSaid : Prop := Claim7.holds Tryd.pinned (.plain (OpenSpec.ofChange calOfSpec)) calOfCard

/-- THE TIED CARD OF 'tollbooklaw10.CalParts'. -/
def calPartsCard : Claim7 := { stood := { row := calPartsRow, standIns := [], harness := (true, "470e24087e1a620dea6a6e997e27b66b21ef657e31e16de1ffd13d25c73cd2f7"), looks := false }, kinds := [], alts := [], laidByText := true, laidKinds := [.data, .data, .data, .data], laidTests := true, laidLooks := .later }
def CalPartsCardSaid : Prop := Claim7.holds Tryd.pinned (.plain (OpenSpec.ofChange calPartsSpec)) calPartsCard

/-- THE TIED CARD OF 'tollbooklaw10.CalParses'. -/
def calParsesCard : Claim7 := { stood := { row := calParsesRow, standIns := [], harness := (true, "470e24087e1a620dea6a6e997e27b66b21ef657e31e16de1ffd13d25c73cd2f7"), looks := false }, kinds := [], alts := [], laidByText := true, laidKinds := [.data, .data, .data, .data], laidTests := true, laidLooks := .later }
def CalParsesCardSaid : Prop := Claim7.holds Tryd.pinned (.plain (OpenSpec.ofChange calParsesSpec)) calParsesCard

/-- THE TIED CARD OF 'tollbooklaw10.CalMonths'. -/
def calMonthsCard : Claim7 := { stood := { row := calMonthsRow, standIns := [], harness := (true, "470e24087e1a620dea6a6e997e27b66b21ef657e31e16de1ffd13d25c73cd2f7"), looks := false }, kinds := [], alts := [], laidByText := true, laidKinds := [.data], laidTests := true, laidLooks := .later }
def CalMonthsCardSaid : Prop := Claim7.holds Tryd.pinned (.plain (OpenSpec.ofChange calMonthsSpec)) calMonthsCard

/-- THE TIED CARD OF 'tollbooklaw10.CalPeriods'. -/
def calPeriodsCard : Claim7 := { stood := { row := calPeriodsRow, standIns := [], harness := (true, "470e24087e1a620dea6a6e997e27b66b21ef657e31e16de1ffd13d25c73cd2f7"), looks := false }, kinds := [], alts := [], laidByText := true, laidKinds := [.data], laidTests := true, laidLooks := .later }
def CalPeriodsCardSaid : Prop := Claim7.holds Tryd.pinned (.plain (OpenSpec.ofChange calPeriodsSpec)) calPeriodsCard

/-- THE SECOND FORM's CARD OF 'tollbooklaw10.CalNumbers'. -/
def calNumbersUptoCard : Claim7 := { stood := { row := calNumbersUptoRow, standIns := [], harness := (true, "470e24087e1a620dea6a6e997e27b66b21ef657e31e16de1ffd13d25c73cd2f7"), looks := false }, kinds := [], alts := [], laidByText := true, laidKinds := [.data, .data, .data, .data], laidTests := true, laidLooks := .later }
def CalNumbersUptoCardSaid : Prop := Claim7.holds Tryd.pinned (.plain (OpenSpec.upto calNumbersSpec)) calNumbersUptoCard

/-- THE SECOND FORM's CARD OF 'tollbooklaw10.CalOf'. -/
def calOfUptoCard : Claim7 := { stood := { row := calOfUptoRow, standIns := [], harness := (true, "470e24087e1a620dea6a6e997e27b66b21ef657e31e16de1ffd13d25c73cd2f7"), looks := false }, kinds := [], alts := [], laidByText := true, laidKinds := [.data], laidTests := true, laidLooks := .later }
def CalOfUptoCardSaid : Prop := Claim7.holds Tryd.pinned (.plain (OpenSpec.upto calOfSpec)) calOfUptoCard

/-- THE SECOND FORM's CARD OF 'tollbooklaw10.CalParts'. -/
def calPartsUptoCard : Claim7 := { stood := { row := calPartsUptoRow, standIns := [], harness := (true, "470e24087e1a620dea6a6e997e27b66b21ef657e31e16de1ffd13d25c73cd2f7"), looks := false }, kinds := [], alts := [], laidByText := true, laidKinds := [.data, .data, .data, .data], laidTests := true, laidLooks := .later }
def CalPartsUptoCardSaid : Prop := Claim7.holds Tryd.pinned (.plain (OpenSpec.upto calPartsSpec)) calPartsUptoCard

/-- THE SECOND FORM's CARD OF 'tollbooklaw10.CalParses'. -/
def calParsesUptoCard : Claim7 := { stood := { row := calParsesUptoRow, standIns := [], harness := (true, "470e24087e1a620dea6a6e997e27b66b21ef657e31e16de1ffd13d25c73cd2f7"), looks := false }, kinds := [], alts := [], laidByText := true, laidKinds := [.data, .data, .data, .data], laidTests := true, laidLooks := .later }
def CalParsesUptoCardSaid : Prop := Claim7.holds Tryd.pinned (.plain (OpenSpec.upto calParsesSpec)) calParsesUptoCard

/-- THE SECOND FORM's CARD OF 'tollbooklaw10.CalMonths'. -/
def calMonthsUptoCard : Claim7 := { stood := { row := calMonthsUptoRow, standIns := [], harness := (true, "470e24087e1a620dea6a6e997e27b66b21ef657e31e16de1ffd13d25c73cd2f7"), looks := false }, kinds := [], alts := [], laidByText := true, laidKinds := [.data], laidTests := true, laidLooks := .later }
def CalMonthsUptoCardSaid : Prop := Claim7.holds Tryd.pinned (.plain (OpenSpec.upto calMonthsSpec)) calMonthsUptoCard

/-- THE SECOND FORM's CARD OF 'tollbooklaw10.CalPeriods'. -/
def calPeriodsUptoCard : Claim7 := { stood := { row := calPeriodsUptoRow, standIns := [], harness := (true, "470e24087e1a620dea6a6e997e27b66b21ef657e31e16de1ffd13d25c73cd2f7"), looks := false }, kinds := [], alts := [], laidByText := true, laidKinds := [.data], laidTests := true, laidLooks := .later }
def CalPeriodsUptoCardSaid : Prop := Claim7.holds Tryd.pinned (.plain (OpenSpec.upto calPeriodsSpec)) calPeriodsUptoCard
end Rows
end Go.Proofs.YtlebkdmkofgdpaaDoor
