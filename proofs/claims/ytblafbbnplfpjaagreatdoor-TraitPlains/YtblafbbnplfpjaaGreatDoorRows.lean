/-
  NARROWER THAN 'FOR EVERY INPUT', by the rows' own cells (each row's printed sentence says how): TraitChecks: laid · TraitHolds: laid · TraitPlains: laid.
  DERIVED. THE GIVEN ROWS OF THIS SEAT. 3 by the template 'for every input the law returns true; each argument reads behind the call as it read before'; 0 by the template 'total and deterministic' (their statements: YtblafbbnplfpjaaGreatDoorTotals.lean).
  GIVEN WITH THE SEED: the statements are not yours to turn. If you find one false, say at which input.
  Laid BY PROGRAM, IN A SANDBOX (cutbox-rows.mjs): the forced cells as the released guide's own fill.sh prints them over the translation d3aec1b8a4e458f6… (all of the seat's roots in one cut). By AI agents, Wed Nov 11 2026. No macro, syntax, notation, axiom, sorry.
-/
import Derived.Test.YtblafbbnplfpjaaGreatDoorChecked
import GoSem.PinnedTables
import GoSem.Claim
import GoSem.ClaimJoined
import GoSem.ClaimMapViews
import Derived.JoinedTies
import Derived.KernelRfl
namespace Go.Proofs.YtblafbbnplfpjaaGreatDoor
/- THE CELL 'sum', in the pinned program and in every row, IS THE sha256 OF THE DUMP (.gsa) THAT YtblafbbnplfpjaaGreatDoorProg.lean LOADS. Nothing in Lean hashes anything: it is a label: what it is worth is what the hold of that sum in a sandbox is worth. -/
noncomputable def Tryz.pinned : Pinned := { name := "ytblafbbnplfpjaagreatdoor", sum := "d3aec1b8a4e458f69ca9e1286218a687b206c246a92ad12f2873dff979e079e1", checked := Tryz.checked }
namespace Rows
def none {H : Type} : Left H := { results := [], args := [] }

/- WHAT THE LISTED PACKAGE-LEVEL VARIABLES READ AS WHEN THE CALL BEGINS. Each datum BY PROGRAM (the guide's laid-datum.mjs) off the statement by which the dump's own 'gosem.cut.vars' lays the variable. In a bare row this is a premise. The card (YtblafbbnplfpjaaGreatDoorCards.lean) ties it to the program's text. -/
def laid_unicode_utf8_acceptRanges {H : Type} : DataW H := .agg [.agg [.lit (.int .u8 128), .lit (.int .u8 191)], .agg [.lit (.int .u8 160), .lit (.int .u8 191)], .agg [.lit (.int .u8 128), .lit (.int .u8 159)], .agg [.lit (.int .u8 144), .lit (.int .u8 191)], .agg [.lit (.int .u8 128), .lit (.int .u8 143)], .agg [.lit (.int .u8 0), .lit (.int .u8 0)], .agg [.lit (.int .u8 0), .lit (.int .u8 0)], .agg [.lit (.int .u8 0), .lit (.int .u8 0)], .agg [.lit (.int .u8 0), .lit (.int .u8 0)], .agg [.lit (.int .u8 0), .lit (.int .u8 0)], .agg [.lit (.int .u8 0), .lit (.int .u8 0)], .agg [.lit (.int .u8 0), .lit (.int .u8 0)], .agg [.lit (.int .u8 0), .lit (.int .u8 0)], .agg [.lit (.int .u8 0), .lit (.int .u8 0)], .agg [.lit (.int .u8 0), .lit (.int .u8 0)], .agg [.lit (.int .u8 0), .lit (.int .u8 0)]]
def laid_tollbook_decimal_tens {H : Type} : DataW H := .agg [.lit (.int .i64 1), .lit (.int .i64 10), .lit (.int .i64 100), .lit (.int .i64 1000), .lit (.int .i64 10000), .lit (.int .i64 100000), .lit (.int .i64 1000000), .lit (.int .i64 10000000), .lit (.int .i64 100000000), .lit (.int .i64 1000000000)]
/-- One of Go's own tables, pinned by name: the form's constant. -/
def laid_unicode_utf8_first : DataW Unit := Go.Pinned.utf8First

/-- 'tollbooklaw13.TraitChecks': WHATEVER THE INPUT: true; the input reads as it did. -/
def traitChecksSpec : ChangeSpec := { name := "traitChecks", fn := fun _ => fun
  | [d1, d2] => { results := [.lit (.bool true)], args := [d1, d2] }
  | _ => none }
def traitChecksRow : OpenClaim := { program := "ytblafbbnplfpjaagreatdoor", sum := "d3aec1b8a4e458f69ca9e1286218a687b206c246a92ad12f2873dff979e079e1", func := "tollbook/tollbooklaw13.TraitChecks", spec := "traitChecks", inPlace := ["math/bits.Add64", "math/bits.Sub64", "internal/bytealg.CountString", "internal/bytealg.IndexByteString", "internal/bytealg.IndexString"], unfollowed := true, recurses := true, named := ["tollbook/decimal.tens", "math/bits.divideError", "math/bits.overflowError", "unicode/utf8.first", "unicode/utf8.acceptRanges", "internal/bytealg.MaxLen"], apart := false, laid := [("unicode/utf8.acceptRanges", laid_unicode_utf8_acceptRanges), ("tollbook/decimal.tens", laid_tollbook_decimal_tens), ("unicode/utf8.first", laid_unicode_utf8_first)] }
def TraitChecksSaid : Prop := traitChecksRow.holds Tryz.pinned (OpenSpec.ofChange traitChecksSpec)

/-- ITS FALSE NEIGHBOUR: 'it returns false'. Refute it at one input. -/
def traitChecksWrong : ChangeSpec := { name := "traitChecks", fn := fun _ => fun
  | [d1, d2] => { results := [.lit (.bool false)], args := [d1, d2] }
  | _ => none }
def TraitChecksWrongFalsely : Prop := traitChecksRow.holds Tryz.pinned (OpenSpec.ofChange traitChecksWrong)

/-- 'tollbooklaw13.TraitHolds': WHATEVER THE INPUT: true; the input reads as it did. -/
def traitHoldsSpec : ChangeSpec := { name := "traitHolds", fn := fun _ => fun
  | [d1, d2] => { results := [.lit (.bool true)], args := [d1, d2] }
  | _ => none }
def traitHoldsRow : OpenClaim := { program := "ytblafbbnplfpjaagreatdoor", sum := "d3aec1b8a4e458f69ca9e1286218a687b206c246a92ad12f2873dff979e079e1", func := "tollbook/tollbooklaw13.TraitHolds", spec := "traitHolds", inPlace := ["math/bits.Add64", "math/bits.Sub64", "internal/bytealg.CountString", "internal/bytealg.IndexByteString", "internal/bytealg.IndexString"], unfollowed := true, recurses := true, named := ["tollbook/decimal.tens", "math/bits.divideError", "math/bits.overflowError", "unicode/utf8.first", "unicode/utf8.acceptRanges", "internal/bytealg.MaxLen"], apart := false, laid := [("unicode/utf8.acceptRanges", laid_unicode_utf8_acceptRanges), ("tollbook/decimal.tens", laid_tollbook_decimal_tens), ("unicode/utf8.first", laid_unicode_utf8_first)] }
def TraitHoldsSaid : Prop := traitHoldsRow.holds Tryz.pinned (OpenSpec.ofChange traitHoldsSpec)

/-- ITS FALSE NEIGHBOUR: 'it returns false'. Refute it at one input. -/
def traitHoldsWrong : ChangeSpec := { name := "traitHolds", fn := fun _ => fun
  | [d1, d2] => { results := [.lit (.bool false)], args := [d1, d2] }
  | _ => none }
def TraitHoldsWrongFalsely : Prop := traitHoldsRow.holds Tryz.pinned (OpenSpec.ofChange traitHoldsWrong)

/-- 'tollbooklaw13.TraitPlains': WHATEVER THE INPUT: true; the input reads as it did. -/
def traitPlainsSpec : ChangeSpec := { name := "traitPlains", fn := fun _ => fun
  | [d] => { results := [.lit (.bool true)], args := [d] }
  | _ => none }
def traitPlainsRow : OpenClaim := { program := "ytblafbbnplfpjaagreatdoor", sum := "d3aec1b8a4e458f69ca9e1286218a687b206c246a92ad12f2873dff979e079e1", func := "tollbook/tollbooklaw13.TraitPlains", spec := "traitPlains", inPlace := ["math/bits.Add64", "math/bits.Sub64", "internal/bytealg.CountString", "internal/bytealg.IndexByteString", "internal/bytealg.IndexString"], unfollowed := true, recurses := true, named := ["tollbook/decimal.tens", "math/bits.divideError", "math/bits.overflowError", "unicode/utf8.first", "unicode/utf8.acceptRanges", "internal/bytealg.MaxLen"], apart := false, laid := [("unicode/utf8.acceptRanges", laid_unicode_utf8_acceptRanges), ("tollbook/decimal.tens", laid_tollbook_decimal_tens), ("unicode/utf8.first", laid_unicode_utf8_first)] }
def TraitPlainsSaid : Prop := traitPlainsRow.holds Tryz.pinned (OpenSpec.ofChange traitPlainsSpec)

/-- ITS FALSE NEIGHBOUR: 'it returns false'. Refute it at one input. -/
def traitPlainsWrong : ChangeSpec := { name := "traitPlains", fn := fun _ => fun
  | [d] => { results := [.lit (.bool false)], args := [d] }
  | _ => none }
def TraitPlainsWrongFalsely : Prop := traitPlainsRow.holds Tryz.pinned (OpenSpec.ofChange traitPlainsWrong)

/- THE SECOND FORM. 'bulk': how many values and letters a reading holds, each counted each time it is reached (what is shared counts as often as it is met; a slice's spare places count too). A statement '..UptoSaid' is the law's where the arguments, and the package variables that the reading takes, are together of bulk at most 1048576: NARROWER than '..Said'. Prove '..Said' where nothing that the law and all that it calls make is longer than what came in: it says more and counts as full. Else prove '..UptoSaid'. A law counts once. -/
mutual
def uptoBulk {H : Type} : DataW H → Nat
  | .lit (.string bytes) => bytes.length + 1
  | .lit _ => 1
  | .nil => 1
  | .ptr d => uptoBulk d + 1
  | .slice elems spare => uptoBulkAll elems + uptoBulkAll spare + 1
  | .agg parts => uptoBulkAll parts + 1
  | .iface _ d => uptoBulk d + 1
  | .map entries => uptoBulkEntries entries + 1
  | .held _ => 1
def uptoBulkAll {H : Type} : List (DataW H) → Nat
  | [] => 0
  | d :: r => uptoBulk d + uptoBulkAll r
def uptoBulkEntries {H : Type} : List (Lit × DataW H) → Nat
  | [] => 0
  | x :: r => uptoBulkEntry x + uptoBulkEntries r
def uptoBulkEntry {H : Type} : Lit × DataW H → Nat
  | (.string bytes, d) => bytes.length + uptoBulk d + 1
  | (_, d) => uptoBulk d + 1
 end
def uptoSmall : (H : Type) → List (DataW H) → Bool := fun _ ds => decide (uptoBulkAll ds ≤ 1048576)
def OpenSpec.upto (s : _root_.Go.ChangeSpec) : _root_.Go.OpenSpec := { _root_.Go.OpenSpec.ofChange s with cond := some uptoSmall }

/-- 'tollbooklaw13.TraitChecks', WHERE WHAT IT READS IS OF BULK AT MOST 1048576: true; the input reads as it did. -/
def traitChecksUptoRow : OpenClaim := { program := "ytblafbbnplfpjaagreatdoor", sum := "d3aec1b8a4e458f69ca9e1286218a687b206c246a92ad12f2873dff979e079e1", func := "tollbook/tollbooklaw13.TraitChecks", spec := "traitChecks", inPlace := ["math/bits.Add64", "math/bits.Sub64", "internal/bytealg.CountString", "internal/bytealg.IndexByteString", "internal/bytealg.IndexString"], unfollowed := true, recurses := true, named := ["tollbook/decimal.tens", "math/bits.divideError", "math/bits.overflowError", "unicode/utf8.first", "unicode/utf8.acceptRanges", "internal/bytealg.MaxLen"], apart := false, laid := [("unicode/utf8.acceptRanges", laid_unicode_utf8_acceptRanges), ("tollbook/decimal.tens", laid_tollbook_decimal_tens), ("unicode/utf8.first", laid_unicode_utf8_first)], narrowed := true }
def TraitChecksUptoSaid : Prop := traitChecksUptoRow.holds Tryz.pinned (OpenSpec.upto traitChecksSpec)

/-- 'tollbooklaw13.TraitHolds', WHERE WHAT IT READS IS OF BULK AT MOST 1048576: true; the input reads as it did. -/
def traitHoldsUptoRow : OpenClaim := { program := "ytblafbbnplfpjaagreatdoor", sum := "d3aec1b8a4e458f69ca9e1286218a687b206c246a92ad12f2873dff979e079e1", func := "tollbook/tollbooklaw13.TraitHolds", spec := "traitHolds", inPlace := ["math/bits.Add64", "math/bits.Sub64", "internal/bytealg.CountString", "internal/bytealg.IndexByteString", "internal/bytealg.IndexString"], unfollowed := true, recurses := true, named := ["tollbook/decimal.tens", "math/bits.divideError", "math/bits.overflowError", "unicode/utf8.first", "unicode/utf8.acceptRanges", "internal/bytealg.MaxLen"], apart := false, laid := [("unicode/utf8.acceptRanges", laid_unicode_utf8_acceptRanges), ("tollbook/decimal.tens", laid_tollbook_decimal_tens), ("unicode/utf8.first", laid_unicode_utf8_first)], narrowed := true }
def TraitHoldsUptoSaid : Prop := traitHoldsUptoRow.holds Tryz.pinned (OpenSpec.upto traitHoldsSpec)

/-- 'tollbooklaw13.TraitPlains', WHERE WHAT IT READS IS OF BULK AT MOST 1048576: true; the input reads as it did. -/
def traitPlainsUptoRow : OpenClaim := { program := "ytblafbbnplfpjaagreatdoor", sum := "d3aec1b8a4e458f69ca9e1286218a687b206c246a92ad12f2873dff979e079e1", func := "tollbook/tollbooklaw13.TraitPlains", spec := "traitPlains", inPlace := ["math/bits.Add64", "math/bits.Sub64", "internal/bytealg.CountString", "internal/bytealg.IndexByteString", "internal/bytealg.IndexString"], unfollowed := true, recurses := true, named := ["tollbook/decimal.tens", "math/bits.divideError", "math/bits.overflowError", "unicode/utf8.first", "unicode/utf8.acceptRanges", "internal/bytealg.MaxLen"], apart := false, laid := [("unicode/utf8.acceptRanges", laid_unicode_utf8_acceptRanges), ("tollbook/decimal.tens", laid_tollbook_decimal_tens), ("unicode/utf8.first", laid_unicode_utf8_first)], narrowed := true }
def TraitPlainsUptoSaid : Prop := traitPlainsUptoRow.holds Tryz.pinned (OpenSpec.upto traitPlainsSpec)

end Rows
end Go.Proofs.YtblafbbnplfpjaaGreatDoor
