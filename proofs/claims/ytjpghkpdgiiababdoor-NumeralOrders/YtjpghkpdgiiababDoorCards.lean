/-
  DERIVED. GIVEN WITH THE SEED: THE CARDS: each row of YtjpghkpdgiiababDoorRows.lean that lists a variable, with what it lists TIED to the program's text (the seventh form; the later family's looks); each row that meets fmt, with fmt's text TOLD by the authors' own Lean function (tested against real Go, not proved from fmt's source: count such statements apart). THE CARD IS WHAT COUNTS. Prove the row's statement (the work); the ties are given (YtjpghkpdgiiababDoorTie.lean); close each card by the builder's one call (the guide's Derived/Test/ToyasCard.lean, 'card_holds'). Laid BY PROGRAM, IN A SANDBOX (cutbox-door.mjs). By AI agents, Wed Nov 11 2026. No macro, syntax, notation, axiom, sorry.
-/
import Derived.Test.YtjpghkpdgiiababDoorRows
import GoSem.ClaimSeven
namespace Go.Proofs.YtjpghkpdgiiababDoor
namespace Rows

/-- THE TIED CARD OF 'tollbooklaw03.NumeralOrders'. -/
def numeralOrdersCard : Claim7 := { stood := { row := numeralOrdersRow, standIns := [], harness := (true, "cbcf2a0ba695495b91ed97a50f510ea7e4fa275448c4103d7dd1678a06ac5b1b"), looks := false }, kinds := [], alts := [], laidByText := true, laidKinds := [.data, .data, .data], laidTests := true, laidLooks := .later }
def NumeralOrdersCardSaid : Prop := Claim7.holds Tryd.pinned (.plain (OpenSpec.ofChange numeralOrdersSpec)) numeralOrdersCard

/-- THE SECOND FORM's CARD OF 'tollbooklaw03.NumeralOrders'. -/
def numeralOrdersUptoCard : Claim7 := { stood := { row := numeralOrdersUptoRow, standIns := [], harness := (true, "cbcf2a0ba695495b91ed97a50f510ea7e4fa275448c4103d7dd1678a06ac5b1b"), looks := false }, kinds := [], alts := [], laidByText := true, laidKinds := [.data, .data, .data], laidTests := true, laidLooks := .later }
def NumeralOrdersUptoCardSaid : Prop := Claim7.holds Tryd.pinned (.plain (OpenSpec.upto numeralOrdersSpec)) numeralOrdersUptoCard
end Rows
end Go.Proofs.YtjpghkpdgiiababDoor
