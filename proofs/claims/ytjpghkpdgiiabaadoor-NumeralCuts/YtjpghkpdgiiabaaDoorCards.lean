/-
  DERIVED. GIVEN WITH THE SEED: THE CARDS: each row of YtjpghkpdgiiabaaDoorRows.lean that lists a variable, with what it lists TIED to the program's text (the seventh form; the later family's looks); each row that meets fmt, with fmt's text TOLD by the authors' own Lean function (tested against real Go, not proved from fmt's source: count such statements apart). THE CARD IS WHAT COUNTS. Prove the row's statement (the work); the ties are given (YtjpghkpdgiiabaaDoorTie.lean); close each card by the builder's one call (the guide's Derived/Test/ToyasCard.lean, 'card_holds'). Laid BY PROGRAM, IN A SANDBOX (cutbox-door.mjs). By AI agents, Wed Nov 11 2026. No macro, syntax, notation, axiom, sorry.
-/
import Derived.Test.YtjpghkpdgiiabaaDoorRows
import GoSem.ClaimSeven
namespace Go.Proofs.YtjpghkpdgiiabaaDoor
namespace Rows

/-- THE TIED CARD OF 'tollbooklaw03.NumeralParses'. -/
def numeralParsesCard : Claim7 := { stood := { row := numeralParsesRow, standIns := [], harness := (true, "fa9e6796ab5e4afaeb221d8d6c8dcdd6e98b6522e39b33d008b7dbe957217391"), looks := false }, kinds := [], alts := [], laidByText := true, laidKinds := [.data, .data, .data], laidTests := true, laidLooks := .later }
def NumeralParsesCardSaid : Prop := Claim7.holds Tryd.pinned (.plain (OpenSpec.ofChange numeralParsesSpec)) numeralParsesCard

/-- THE TIED CARD OF 'tollbooklaw03.NumeralBack'. -/
def numeralBackCard : Claim7 := { stood := { row := numeralBackRow, standIns := [], harness := (true, "fa9e6796ab5e4afaeb221d8d6c8dcdd6e98b6522e39b33d008b7dbe957217391"), looks := false }, kinds := [], alts := [], laidByText := true, laidKinds := [.data, .data, .data], laidTests := true, laidLooks := .later }
def NumeralBackCardSaid : Prop := Claim7.holds Tryd.pinned (.plain (OpenSpec.ofChange numeralBackSpec)) numeralBackCard

/-- THE TIED CARD OF 'tollbooklaw03.NumeralBounds'. -/
def numeralBoundsCard : Claim7 := { stood := { row := numeralBoundsRow, standIns := [], harness := (true, "fa9e6796ab5e4afaeb221d8d6c8dcdd6e98b6522e39b33d008b7dbe957217391"), looks := false }, kinds := [], alts := [], laidByText := true, laidKinds := [.data, .data, .data], laidTests := true, laidLooks := .later }
def NumeralBoundsCardSaid : Prop := Claim7.holds Tryd.pinned (.plain (OpenSpec.ofChange numeralBoundsSpec)) numeralBoundsCard

/-- THE TIED CARD OF 'tollbooklaw03.NumeralCuts'. -/
def numeralCutsCard : Claim7 := { stood := { row := numeralCutsRow, standIns := [], harness := (true, "fa9e6796ab5e4afaeb221d8d6c8dcdd6e98b6522e39b33d008b7dbe957217391"), looks := false }, kinds := [], alts := [], laidByText := true, laidKinds := [.data, .data, .data], laidTests := true, laidLooks := .later }
def NumeralCutsCardSaid : Prop := Claim7.holds Tryd.pinned (.plain (OpenSpec.ofChange numeralCutsSpec)) numeralCutsCard

/-- THE SECOND FORM's CARD OF 'tollbooklaw03.NumeralParses'. -/
def numeralParsesUptoCard : Claim7 := { stood := { row := numeralParsesUptoRow, standIns := [], harness := (true, "fa9e6796ab5e4afaeb221d8d6c8dcdd6e98b6522e39b33d008b7dbe957217391"), looks := false }, kinds := [], alts := [], laidByText := true, laidKinds := [.data, .data, .data], laidTests := true, laidLooks := .later }
def NumeralParsesUptoCardSaid : Prop := Claim7.holds Tryd.pinned (.plain (OpenSpec.upto numeralParsesSpec)) numeralParsesUptoCard

/-- THE SECOND FORM's CARD OF 'tollbooklaw03.NumeralBack'. -/
def numeralBackUptoCard : Claim7 := { stood := { row := numeralBackUptoRow, standIns := [], harness := (true, "fa9e6796ab5e4afaeb221d8d6c8dcdd6e98b6522e39b33d008b7dbe957217391"), looks := false }, kinds := [], alts := [], laidByText := true, laidKinds := [.data, .data, .data], laidTests := true, laidLooks := .later }
def NumeralBackUptoCardSaid : Prop := Claim7.holds Tryd.pinned (.plain (OpenSpec.upto numeralBackSpec)) numeralBackUptoCard

/-- THE SECOND FORM's CARD OF 'tollbooklaw03.NumeralBounds'. -/
def numeralBoundsUptoCard : Claim7 := { stood := { row := numeralBoundsUptoRow, standIns := [], harness := (true, "fa9e6796ab5e4afaeb221d8d6c8dcdd6e98b6522e39b33d008b7dbe957217391"), looks := false }, kinds := [], alts := [], laidByText := true, laidKinds := [.data, .data, .data], laidTests := true, laidLooks := .later }
def NumeralBoundsUptoCardSaid : Prop := Claim7.holds Tryd.pinned (.plain (OpenSpec.upto numeralBoundsSpec)) numeralBoundsUptoCard

/-- THE SECOND FORM's CARD OF 'tollbooklaw03.NumeralCuts'. -/
def numeralCutsUptoCard : Claim7 := { stood := { row := numeralCutsUptoRow, standIns := [], harness := (true, "fa9e6796ab5e4afaeb221d8d6c8dcdd6e98b6522e39b33d008b7dbe957217391"), looks := false }, kinds := [], alts := [], laidByText := true, laidKinds := [.data, .data, .data], laidTests := true, laidLooks := .later }
def NumeralCutsUptoCardSaid : Prop := Claim7.holds Tryd.pinned (.plain (OpenSpec.upto numeralCutsSpec)) numeralCutsUptoCard
end Rows
end Go.Proofs.YtjpghkpdgiiabaaDoor
