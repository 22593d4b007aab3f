/-
  DERIVED. GIVEN WITH THE SEED: THE CARDS: each row of YtigimdcaakfckaaGreatDoorRows.lean that lists a variable, with what it lists TIED to the program's text (the seventh form; the later family's looks); each row that meets fmt, with fmt's text TOLD by the authors' own Lean function (tested against real Go, not proved from fmt's source: count such statements apart). THE CARD IS WHAT COUNTS. Prove the row's statement (the work); the ties are given (YtigimdcaakfckaaGreatDoorTie.lean); close each card by the builder's one call (the guide's Derived/Test/ToyasCard.lean, 'card_holds'). Laid BY PROGRAM, IN A SANDBOX (cutbox-door.mjs). By AI agents, Wed Nov 11 2026. No macro, syntax, notation, axiom, sorry.
-/
import Derived.Test.YtigimdcaakfckaaGreatDoorRows
import GoSem.ClaimSeven
namespace Go.Proofs.YtigimdcaakfckaaGreatDoor
namespace Rows

/-- THE TIED CARD OF 'tollbooklaw09.MoneySums'. -/
def moneySumsCard : Claim7 := { stood := { row := moneySumsRow, standIns := [], harness := (true, "a8fe03ee99c81cf54d465d5acb5f6086f3f6c9a58736ae5708acec22e20ed6e1"), looks := false }, kinds := [], alts := [], laidByText := true, laidKinds := [.data, .data, .data, .data, .data, .pinned], laidTests := true, laidLooks := .later }
def MoneySumsCardSaid : Prop := Claim7.holds Tryz.pinned (.plain (OpenSpec.ofChange moneySumsSpec)) moneySumsCard

/-- THE TIED CARD OF 'tollbooklaw09.MoneyNarrows'. -/
def moneyNarrowsCard : Claim7 := { stood := { row := moneyNarrowsRow, standIns := [], harness := (true, "a8fe03ee99c81cf54d465d5acb5f6086f3f6c9a58736ae5708acec22e20ed6e1"), looks := false }, kinds := [], alts := [], laidByText := true, laidKinds := [.data, .data, .data, .data, .data, .pinned], laidTests := true, laidLooks := .later }
def MoneyNarrowsCardSaid : Prop := Claim7.holds Tryz.pinned (.plain (OpenSpec.ofChange moneyNarrowsSpec)) moneyNarrowsCard

/-- THE TIED CARD OF 'tollbooklaw09.MoneyMajors'. -/
def moneyMajorsCard : Claim7 := { stood := { row := moneyMajorsRow, standIns := [], harness := (true, "a8fe03ee99c81cf54d465d5acb5f6086f3f6c9a58736ae5708acec22e20ed6e1"), looks := false }, kinds := [], alts := [], laidByText := true, laidKinds := [.data, .data, .data, .data, .data, .pinned], laidTests := true, laidLooks := .later }
def MoneyMajorsCardSaid : Prop := Claim7.holds Tryz.pinned (.plain (OpenSpec.ofChange moneyMajorsSpec)) moneyMajorsCard

/-- THE TIED CARD OF 'tollbooklaw09.MoneyTexts'. -/
def moneyTextsCard : Claim7 := { stood := { row := moneyTextsRow, standIns := [], harness := (true, "a8fe03ee99c81cf54d465d5acb5f6086f3f6c9a58736ae5708acec22e20ed6e1"), looks := false }, kinds := [], alts := [], laidByText := true, laidKinds := [.data, .data, .data, .data, .data, .pinned], laidTests := true, laidLooks := .later }
def MoneyTextsCardSaid : Prop := Claim7.holds Tryz.pinned (.plain (OpenSpec.ofChange moneyTextsSpec)) moneyTextsCard

/-- THE TIED CARD OF 'tollbooklaw09.MoneyParses'. -/
def moneyParsesCard : Claim7 := { stood := { row := moneyParsesRow, standIns := [], harness := (true, "a8fe03ee99c81cf54d465d5acb5f6086f3f6c9a58736ae5708acec22e20ed6e1"), looks := false }, kinds := [], alts := [], laidByText := true, laidKinds := [.data, .data, .data, .data, .data, .pinned], laidTests := true, laidLooks := .later }
def MoneyParsesCardSaid : Prop := Claim7.holds Tryz.pinned (.plain (OpenSpec.ofChange moneyParsesSpec)) moneyParsesCard

/-- THE TIED CARD OF 'tollbooklaw09.MoneyBack'. -/
def moneyBackCard : Claim7 := { stood := { row := moneyBackRow, standIns := [], harness := (true, "a8fe03ee99c81cf54d465d5acb5f6086f3f6c9a58736ae5708acec22e20ed6e1"), looks := false }, kinds := [], alts := [], laidByText := true, laidKinds := [.data, .data, .data, .data, .data, .pinned], laidTests := true, laidLooks := .later }
def MoneyBackCardSaid : Prop := Claim7.holds Tryz.pinned (.plain (OpenSpec.ofChange moneyBackSpec)) moneyBackCard

/-- THE SECOND FORM's CARD OF 'tollbooklaw09.MoneySums'. -/
def moneySumsUptoCard : Claim7 := { stood := { row := moneySumsUptoRow, standIns := [], harness := (true, "a8fe03ee99c81cf54d465d5acb5f6086f3f6c9a58736ae5708acec22e20ed6e1"), looks := false }, kinds := [], alts := [], laidByText := true, laidKinds := [.data, .data, .data, .data, .data, .pinned], laidTests := true, laidLooks := .later }
def MoneySumsUptoCardSaid : Prop := Claim7.holds Tryz.pinned (.plain (OpenSpec.upto moneySumsSpec)) moneySumsUptoCard

/-- THE SECOND FORM's CARD OF 'tollbooklaw09.MoneyNarrows'. -/
def moneyNarrowsUptoCard : Claim7 := { stood := { row := moneyNarrowsUptoRow, standIns := [], harness := (true, "a8fe03ee99c81cf54d465d5acb5f6086f3f6c9a58736ae5708acec22e20ed6e1"), looks := false }, kinds := [], alts := [], laidByText := true, laidKinds := [.data, .data, .data, .data, .data, .pinned], laidTests := true, laidLooks := .later }
def MoneyNarrowsUptoCardSaid : Prop := Claim7.holds Tryz.pinned (.plain (OpenSpec.upto moneyNarrowsSpec)) moneyNarrowsUptoCard

/-- THE SECOND FORM's CARD OF 'tollbooklaw09.MoneyMajors'. -/
def moneyMajorsUptoCard : Claim7 := { stood := { row := moneyMajorsUptoRow, standIns := [], harness := (true, "a8fe03ee99c81cf54d465d5acb5f6086f3f6c9a58736ae5708acec22e20ed6e1"), looks := false }, kinds := [], alts := [], laidByText := true, laidKinds := [.data, .data, .data, .data, .data, .pinned], laidTests := true, laidLooks := .later }
def MoneyMajorsUptoCardSaid : Prop := Claim7.holds Tryz.pinned (.plain (OpenSpec.upto moneyMajorsSpec)) moneyMajorsUptoCard

/-- THE SECOND FORM's CARD OF 'tollbooklaw09.MoneyTexts'. -/
def moneyTextsUptoCard : Claim7 := { stood := { row := moneyTextsUptoRow, standIns := [], harness := (true, "a8fe03ee99c81cf54d465d5acb5f6086f3f6c9a58736ae5708acec22e20ed6e1"), looks := false }, kinds := [], alts := [], laidByText := true, laidKinds := [.data, .data, .data, .data, .data, .pinned], laidTests := true, laidLooks := .later }
def MoneyTextsUptoCardSaid : Prop := Claim7.holds Tryz.pinned (.plain (OpenSpec.upto moneyTextsSpec)) moneyTextsUptoCard

/-- THE SECOND FORM's CARD OF 'tollbooklaw09.MoneyParses'. -/
def moneyParsesUptoCard : Claim7 := { stood := { row := moneyParsesUptoRow, standIns := [], harness := (true, "a8fe03ee99c81cf54d465d5acb5f6086f3f6c9a58736ae5708acec22e20ed6e1"), looks := false }, kinds := [], alts := [], laidByText := true, laidKinds := [.data, .data, .data, .data, .data, .pinned], laidTests := true, laidLooks := .later }
def MoneyParsesUptoCardSaid : Prop := Claim7.holds Tryz.pinned (.plain (OpenSpec.upto moneyParsesSpec)) moneyParsesUptoCard

/-- THE SECOND FORM's CARD OF 'tollbooklaw09.MoneyBack'. -/
def moneyBackUptoCard : Claim7 := { stood := { row := moneyBackUptoRow, standIns := [], harness := (true, "a8fe03ee99c81cf54d465d5acb5f6086f3f6c9a58736ae5708acec22e20ed6e1"), looks := false }, kinds := [], alts := [], laidByText := true, laidKinds := [.data, .data, .data, .data, .data, .pinned], laidTests := true, laidLooks := .later }
def MoneyBackUptoCardSaid : Prop := Claim7.holds Tryz.pinned (.plain (OpenSpec.upto moneyBackSpec)) moneyBackUptoCard
end Rows
end Go.Proofs.YtigimdcaakfckaaGreatDoor
