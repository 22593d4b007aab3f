/-
  NARROWER THAN 'FOR EVERY INPUT', by the rows' own cells (each row's printed sentence says how): CalNumbers: laid · CalOf: laid · CalParts: laid · CalParses: laid · CalMonths: laid · CalPeriods: laid.
  DERIVED. THE GIVEN ROWS OF THIS SEAT. 6 by the template 'for every input the law returns true; each argument reads behind the call as it read before'; 0 by the template 'total and deterministic' (their statements: YtlebkdmkofgdpaaDoorTotals.lean).
  GIVEN WITH THE SEED: the statements are not yours to turn. If you find one false, say at which input.
  Laid BY PROGRAM, IN A SANDBOX (cutbox-rows.mjs): the forced cells as the released guide's own fill.sh prints them over the translation fbd045ee87f49742… (all of the seat's roots in one cut). By AI agents, Wed Nov 11 2026. No macro, syntax, notation, axiom, sorry.
-/
import Derived.Test.YtlebkdmkofgdpaaDoorChecked
import GoSem.Claim
import GoSem.ClaimJoined
import GoSem.ClaimMapViews
import Derived.JoinedTies
import Derived.KernelRfl
namespace Go.Proofs.YtlebkdmkofgdpaaDoor
/- THE CELL 'sum', in the pinned program and in every row, IS THE sha256 OF THE DUMP (.gsa) THAT YtlebkdmkofgdpaaDoorProg.lean LOADS. Nothing in Lean hashes anything: it is a label: what it is worth is what the hold of that sum in a sandbox is worth. -/
noncomputable def Tryd.pinned : Pinned := { name := "ytlebkdmkofgdpaadoor", sum := "fbd045ee87f49742970b065673ffe567d1f2d3024107f8111c995346758b3ca6", checked := Tryd.checked }
namespace Rows
def none {H : Type} : Left H := { results := [], args := [] }

/- WHAT THE LISTED PACKAGE-LEVEL VARIABLES READ AS WHEN THE CALL BEGINS. Each datum BY PROGRAM (the guide's laid-datum.mjs) off the statement by which the dump's own 'gosem.cut.vars' lays the variable. In a bare row this is a premise. The card (YtlebkdmkofgdpaaDoorCards.lean) ties it to the program's text. -/
def laid_math_bits_deBruijn32tab {H : Type} : DataW H := .agg [.lit (.int .u8 0), .lit (.int .u8 1), .lit (.int .u8 28), .lit (.int .u8 2), .lit (.int .u8 29), .lit (.int .u8 14), .lit (.int .u8 24), .lit (.int .u8 3), .lit (.int .u8 30), .lit (.int .u8 22), .lit (.int .u8 20), .lit (.int .u8 15), .lit (.int .u8 25), .lit (.int .u8 17), .lit (.int .u8 4), .lit (.int .u8 8), .lit (.int .u8 31), .lit (.int .u8 27), .lit (.int .u8 13), .lit (.int .u8 23), .lit (.int .u8 21), .lit (.int .u8 19), .lit (.int .u8 16), .lit (.int .u8 7), .lit (.int .u8 26), .lit (.int .u8 12), .lit (.int .u8 18), .lit (.int .u8 6), .lit (.int .u8 11), .lit (.int .u8 5), .lit (.int .u8 10), .lit (.int .u8 9)]
def laid_math_bits_deBruijn64tab {H : Type} : DataW H := .agg [.lit (.int .u8 0), .lit (.int .u8 1), .lit (.int .u8 56), .lit (.int .u8 2), .lit (.int .u8 57), .lit (.int .u8 49), .lit (.int .u8 28), .lit (.int .u8 3), .lit (.int .u8 61), .lit (.int .u8 58), .lit (.int .u8 42), .lit (.int .u8 50), .lit (.int .u8 38), .lit (.int .u8 29), .lit (.int .u8 17), .lit (.int .u8 4), .lit (.int .u8 62), .lit (.int .u8 47), .lit (.int .u8 59), .lit (.int .u8 36), .lit (.int .u8 45), .lit (.int .u8 43), .lit (.int .u8 51), .lit (.int .u8 22), .lit (.int .u8 53), .lit (.int .u8 39), .lit (.int .u8 33), .lit (.int .u8 30), .lit (.int .u8 24), .lit (.int .u8 18), .lit (.int .u8 12), .lit (.int .u8 5), .lit (.int .u8 63), .lit (.int .u8 55), .lit (.int .u8 48), .lit (.int .u8 27), .lit (.int .u8 60), .lit (.int .u8 41), .lit (.int .u8 37), .lit (.int .u8 16), .lit (.int .u8 46), .lit (.int .u8 35), .lit (.int .u8 44), .lit (.int .u8 21), .lit (.int .u8 52), .lit (.int .u8 32), .lit (.int .u8 23), .lit (.int .u8 11), .lit (.int .u8 54), .lit (.int .u8 26), .lit (.int .u8 40), .lit (.int .u8 15), .lit (.int .u8 34), .lit (.int .u8 20), .lit (.int .u8 31), .lit (.int .u8 10), .lit (.int .u8 25), .lit (.int .u8 14), .lit (.int .u8 19), .lit (.int .u8 9), .lit (.int .u8 13), .lit (.int .u8 8), .lit (.int .u8 7), .lit (.int .u8 6)]
def laid_internal_strconv_uint64pow10 {H : Type} : DataW H := .agg [.lit (.int .u64 1), .lit (.int .u64 10), .lit (.int .u64 100), .lit (.int .u64 1000), .lit (.int .u64 10000), .lit (.int .u64 100000), .lit (.int .u64 1000000), .lit (.int .u64 10000000), .lit (.int .u64 100000000), .lit (.int .u64 1000000000), .lit (.int .u64 10000000000), .lit (.int .u64 100000000000), .lit (.int .u64 1000000000000), .lit (.int .u64 10000000000000), .lit (.int .u64 100000000000000), .lit (.int .u64 1000000000000000), .lit (.int .u64 10000000000000000), .lit (.int .u64 100000000000000000), .lit (.int .u64 1000000000000000000), .lit (.int .u64 10000000000000000000)]
def laid_tollbook_calendar_lengths {H : Type} : DataW H := .agg [.lit (.int .i64 0), .lit (.int .i64 31), .lit (.int .i64 28), .lit (.int .i64 31), .lit (.int .i64 30), .lit (.int .i64 31), .lit (.int .i64 30), .lit (.int .i64 31), .lit (.int .i64 31), .lit (.int .i64 30), .lit (.int .i64 31), .lit (.int .i64 30), .lit (.int .i64 31)]

/-- 'tollbooklaw10.CalNumbers': WHATEVER THE INPUT: true; the input reads as it did. -/
def calNumbersSpec : ChangeSpec := { name := "calNumbers", fn := fun _ => fun
  | [] => { results := [.lit (.bool true)], args := [] }
  | _ => none }
def calNumbersRow : OpenClaim := { program := "ytlebkdmkofgdpaadoor", sum := "fbd045ee87f49742970b065673ffe567d1f2d3024107f8111c995346758b3ca6", func := "tollbook/tollbooklaw10.CalNumbers", spec := "calNumbers", inPlace := ["internal/abi.NoEscape", "internal/bytealg.MakeNoZero"], named := ["tollbook/calendar.lengths", "internal/strconv.uint64pow10", "math/bits.deBruijn32tab", "math/bits.deBruijn64tab"], apart := false, laid := [("math/bits.deBruijn32tab", laid_math_bits_deBruijn32tab), ("math/bits.deBruijn64tab", laid_math_bits_deBruijn64tab), ("internal/strconv.uint64pow10", laid_internal_strconv_uint64pow10), ("tollbook/calendar.lengths", laid_tollbook_calendar_lengths)] }
def CalNumbersSaid : Prop := calNumbersRow.holds Tryd.pinned (OpenSpec.ofChange calNumbersSpec)

/-- ITS FALSE NEIGHBOUR: 'it returns false'. Refute it at one input. -/
def calNumbersWrong : ChangeSpec := { name := "calNumbers", fn := fun _ => fun
  | [] => { results := [.lit (.bool false)], args := [] }
  | _ => none }
def CalNumbersWrongFalsely : Prop := calNumbersRow.holds Tryd.pinned (OpenSpec.ofChange calNumbersWrong)

/-- 'tollbooklaw10.CalOf': WHATEVER THE INPUT: true; the input reads as it did. -/
def calOfSpec : ChangeSpec := { name := "calOf", fn := fun _ => fun
  | [d1, d2, d3] => { results := [.lit (.bool true)], args := [d1, d2, d3] }
  | _ => none }
def calOfRow : OpenClaim := { program := "ytlebkdmkofgdpaadoor", sum := "fbd045ee87f49742970b065673ffe567d1f2d3024107f8111c995346758b3ca6", func := "tollbook/tollbooklaw10.CalOf", spec := "calOf", named := ["tollbook/calendar.lengths"], apart := false, laid := [("tollbook/calendar.lengths", laid_tollbook_calendar_lengths)] }
def CalOfSaid : Prop := calOfRow.holds Tryd.pinned (OpenSpec.ofChange calOfSpec)

/-- ITS FALSE NEIGHBOUR: 'it returns false'. Refute it at one input. -/
def calOfWrong : ChangeSpec := { name := "calOf", fn := fun _ => fun
  | [d1, d2, d3] => { results := [.lit (.bool false)], args := [d1, d2, d3] }
  | _ => none }
def CalOfWrongFalsely : Prop := calOfRow.holds Tryd.pinned (OpenSpec.ofChange calOfWrong)

/-- 'tollbooklaw10.CalParts': WHATEVER THE INPUT: true; the input reads as it did. -/
def calPartsSpec : ChangeSpec := { name := "calParts", fn := fun _ => fun
  | [d] => { results := [.lit (.bool true)], args := [d] }
  | _ => none }
def calPartsRow : OpenClaim := { program := "ytlebkdmkofgdpaadoor", sum := "fbd045ee87f49742970b065673ffe567d1f2d3024107f8111c995346758b3ca6", func := "tollbook/tollbooklaw10.CalParts", spec := "calParts", inPlace := ["internal/abi.NoEscape", "internal/bytealg.MakeNoZero"], named := ["tollbook/calendar.lengths", "internal/strconv.uint64pow10", "math/bits.deBruijn32tab", "math/bits.deBruijn64tab"], apart := false, laid := [("math/bits.deBruijn32tab", laid_math_bits_deBruijn32tab), ("math/bits.deBruijn64tab", laid_math_bits_deBruijn64tab), ("internal/strconv.uint64pow10", laid_internal_strconv_uint64pow10), ("tollbook/calendar.lengths", laid_tollbook_calendar_lengths)] }
def CalPartsSaid : Prop := calPartsRow.holds Tryd.pinned (OpenSpec.ofChange calPartsSpec)

/-- ITS FALSE NEIGHBOUR: 'it returns false'. Refute it at one input. -/
def calPartsWrong : ChangeSpec := { name := "calParts", fn := fun _ => fun
  | [d] => { results := [.lit (.bool false)], args := [d] }
  | _ => none }
def CalPartsWrongFalsely : Prop := calPartsRow.holds Tryd.pinned (OpenSpec.ofChange calPartsWrong)

/-- 'tollbooklaw10.CalParses': WHATEVER THE INPUT: true; the input reads as it did. -/
def calParsesSpec : ChangeSpec := { name := "calParses", fn := fun _ => fun
  | [d] => { results := [.lit (.bool true)], args := [d] }
  | _ => none }
def calParsesRow : OpenClaim := { program := "ytlebkdmkofgdpaadoor", sum := "fbd045ee87f49742970b065673ffe567d1f2d3024107f8111c995346758b3ca6", func := "tollbook/tollbooklaw10.CalParses", spec := "calParses", inPlace := ["internal/abi.NoEscape", "internal/bytealg.MakeNoZero"], named := ["tollbook/calendar.lengths", "internal/strconv.uint64pow10", "math/bits.deBruijn32tab", "math/bits.deBruijn64tab"], apart := false, laid := [("math/bits.deBruijn32tab", laid_math_bits_deBruijn32tab), ("math/bits.deBruijn64tab", laid_math_bits_deBruijn64tab), ("internal/strconv.uint64pow10", laid_internal_strconv_uint64pow10), ("tollbook/calendar.lengths", laid_tollbook_calendar_lengths)] }
def CalParsesSaid : Prop := calParsesRow.holds Tryd.pinned (OpenSpec.ofChange calParsesSpec)

/-- ITS FALSE NEIGHBOUR: 'it returns false'. Refute it at one input. -/
def calParsesWrong : ChangeSpec := { name := "calParses", fn := fun _ => fun
  | [d] => { results := [.lit (.bool false)], args := [d] }
  | _ => none }
def CalParsesWrongFalsely : Prop := calParsesRow.holds Tryd.pinned (OpenSpec.ofChange calParsesWrong)

/-- 'tollbooklaw10.CalMonths': WHATEVER THE INPUT: true; the input reads as it did. -/
def calMonthsSpec : ChangeSpec := { name := "calMonths", fn := fun _ => fun
  | [d1, d2] => { results := [.lit (.bool true)], args := [d1, d2] }
  | _ => none }
def calMonthsRow : OpenClaim := { program := "ytlebkdmkofgdpaadoor", sum := "fbd045ee87f49742970b065673ffe567d1f2d3024107f8111c995346758b3ca6", func := "tollbook/tollbooklaw10.CalMonths", spec := "calMonths", named := ["tollbook/calendar.lengths"], apart := false, laid := [("tollbook/calendar.lengths", laid_tollbook_calendar_lengths)] }
def CalMonthsSaid : Prop := calMonthsRow.holds Tryd.pinned (OpenSpec.ofChange calMonthsSpec)

/-- ITS FALSE NEIGHBOUR: 'it returns false'. Refute it at one input. -/
def calMonthsWrong : ChangeSpec := { name := "calMonths", fn := fun _ => fun
  | [d1, d2] => { results := [.lit (.bool false)], args := [d1, d2] }
  | _ => none }
def CalMonthsWrongFalsely : Prop := calMonthsRow.holds Tryd.pinned (OpenSpec.ofChange calMonthsWrong)

/-- 'tollbooklaw10.CalPeriods': WHATEVER THE INPUT: true; the input reads as it did. -/
def calPeriodsSpec : ChangeSpec := { name := "calPeriods", fn := fun _ => fun
  | [d1, d2] => { results := [.lit (.bool true)], args := [d1, d2] }
  | _ => none }
def calPeriodsRow : OpenClaim := { program := "ytlebkdmkofgdpaadoor", sum := "fbd045ee87f49742970b065673ffe567d1f2d3024107f8111c995346758b3ca6", func := "tollbook/tollbooklaw10.CalPeriods", spec := "calPeriods", named := ["tollbook/calendar.lengths"], apart := false, laid := [("tollbook/calendar.lengths", laid_tollbook_calendar_lengths)] }
def CalPeriodsSaid : Prop := calPeriodsRow.holds Tryd.pinned (OpenSpec.ofChange calPeriodsSpec)

/-- ITS FALSE NEIGHBOUR: 'it returns false'. Refute it at one input. -/
def calPeriodsWrong : ChangeSpec := { name := "calPeriods", fn := fun _ => fun
  | [d1, d2] => { results := [.lit (.bool false)], args := [d1, d2] }
  | _ => none }
def CalPeriodsWrongFalsely : Prop := calPeriodsRow.holds Tryd.pinned (OpenSpec.ofChange calPeriodsWrong)

/- THE SECOND FORM. 'bulk': how many values and letters a reading holds, each counted each time it is reached (what is shared counts as often as it is met; a slice's spare places count too). A statement '..UptoSaid' is the law's where the arguments, and the package variables that the reading takes, are together of bulk at most 1048576: NARROWER than '..Said'. Prove '..Said' where nothing that the law and all that it calls make is longer than what came in: it says more and counts as full. Else prove '..UptoSaid'. A law counts once. -/
mutual
def uptoBulk {H : Type} : DataW H → Nat
  | .lit (.string bytes) => bytes.length + 1
  | .lit _ => 1
  | .nil => 1
  | .ptr d => uptoBulk d + 1
  | .slice elems spare => uptoBulkAll elems + uptoBulkAll spare + 1
  | .agg parts => uptoBulkAll parts + 1
  | .iface _ d => uptoBulk d + 1
  | .map entries => uptoBulkEntries entries + 1
  | .held _ => 1
def uptoBulkAll {H : Type} : List (DataW H) → Nat
  | [] => 0
  | d :: r => uptoBulk d + uptoBulkAll r
def uptoBulkEntries {H : Type} : List (Lit × DataW H) → Nat
  | [] => 0
  | x :: r => uptoBulkEntry x + uptoBulkEntries r
def uptoBulkEntry {H : Type} : Lit × DataW H → Nat
  | (.string bytes, d) => bytes.length + uptoBulk d + 1
  | (_, d) => uptoBulk d + 1
 end
def uptoSmall : (H : Type) → List (DataW H) → Bool := fun _ ds => decide (uptoBulkAll ds ≤ 1048576)
def OpenSpec.upto (s : _root_.Go.ChangeSpec) : _root_.Go.OpenSpec := { _root_.Go.OpenSpec.ofChange s with cond := some uptoSmall }

/-- 'tollbooklaw10.CalNumbers', WHERE WHAT IT READS IS OF BULK AT MOST 1048576: true; the input reads as it did. -/
def calNumbersUptoRow : OpenClaim := { program := "ytlebkdmkofgdpaadoor", sum := "fbd045ee87f49742970b065673ffe567d1f2d3024107f8111c995346758b3ca6", func := "tollbook/tollbooklaw10.CalNumbers", spec := "calNumbers", inPlace := ["internal/abi.NoEscape", "internal/bytealg.MakeNoZero"], named := ["tollbook/calendar.lengths", "internal/strconv.uint64pow10", "math/bits.deBruijn32tab", "math/bits.deBruijn64tab"], apart := false, laid := [("math/bits.deBruijn32tab", laid_math_bits_deBruijn32tab), ("math/bits.deBruijn64tab", laid_math_bits_deBruijn64tab), ("internal/strconv.uint64pow10", laid_internal_strconv_uint64pow10), ("tollbook/calendar.lengths", laid_tollbook_calendar_lengths)], narrowed := true }
def CalNumbersUptoSaid : Prop := calNumbersUptoRow.holds Tryd.pinned (OpenSpec.upto calNumbersSpec)

/-- 'tollbooklaw10.CalOf', WHERE WHAT IT READS IS OF BULK AT MOST 1048576: true; the input reads as it did. -/
def calOfUptoRow : OpenClaim := { program := "ytlebkdmkofgdpaadoor", sum := "fbd045ee87f49742970b065673ffe567d1f2d3024107f8111c995346758b3ca6", func := "tollbook/tollbooklaw10.CalOf", spec := "calOf", named := ["tollbook/calendar.lengths"], apart := false, laid := [("tollbook/calendar.lengths", laid_tollbook_calendar_lengths)], narrowed := true }
def CalOfUptoSaid : Prop := calOfUptoRow.holds Tryd.pinned (OpenSpec.upto calOfSpec)

/-- 'tollbooklaw10.CalParts', WHERE WHAT IT READS IS OF BULK AT MOST 1048576: true; the input reads as it did. -/
def calPartsUptoRow : OpenClaim := { program := "ytlebkdmkofgdpaadoor", sum := "fbd045ee87f49742970b065673ffe567d1f2d3024107f8111c995346758b3ca6", func := "tollbook/tollbooklaw10.CalParts", spec := "calParts", inPlace := ["internal/abi.NoEscape", "internal/bytealg.MakeNoZero"], named := ["tollbook/calendar.lengths", "internal/strconv.uint64pow10", "math/bits.deBruijn32tab", "math/bits.deBruijn64tab"], apart := false, laid := [("math/bits.deBruijn32tab", laid_math_bits_deBruijn32tab), ("math/bits.deBruijn64tab", laid_math_bits_deBruijn64tab), ("internal/strconv.uint64pow10", laid_internal_strconv_uint64pow10), ("tollbook/calendar.lengths", laid_tollbook_calendar_lengths)], narrowed := true }
def CalPartsUptoSaid : Prop := calPartsUptoRow.holds Tryd.pinned (OpenSpec.upto calPartsSpec)

/-- 'tollbooklaw10.CalParses', WHERE WHAT IT READS IS OF BULK AT MOST 1048576: true; the input reads as it did. -/
def calParsesUptoRow : OpenClaim := { program := "ytlebkdmkofgdpaadoor", sum := "fbd045ee87f49742970b065673ffe567d1f2d3024107f8111c995346758b3ca6", func := "tollbook/tollbooklaw10.CalParses", spec := "calParses", inPlace := ["internal/abi.NoEscape", "internal/bytealg.MakeNoZero"], named := ["tollbook/calendar.lengths", "internal/strconv.uint64pow10", "math/bits.deBruijn32tab", "math/bits.deBruijn64tab"], apart := false, laid := [("math/bits.deBruijn32tab", laid_math_bits_deBruijn32tab), ("math/bits.deBruijn64tab", laid_math_bits_deBruijn64tab), ("internal/strconv.uint64pow10", laid_internal_strconv_uint64pow10), ("tollbook/calendar.lengths", laid_tollbook_calendar_lengths)], narrowed := true }
def CalParsesUptoSaid : Prop := calParsesUptoRow.holds Tryd.pinned (OpenSpec.upto calParsesSpec)

/-- 'tollbooklaw10.CalMonths', WHERE WHAT IT READS IS OF BULK AT MOST 1048576: true; the input reads as it did. -/
def calMonthsUptoRow : OpenClaim := { program := "ytlebkdmkofgdpaadoor", sum := "fbd045ee87f49742970b065673ffe567d1f2d3024107f8111c995346758b3ca6", func := "tollbook/tollbooklaw10.CalMonths", spec := "calMonths", named := ["tollbook/calendar.lengths"], apart := false, laid := [("tollbook/calendar.lengths", laid_tollbook_calendar_lengths)], narrowed := true }
def CalMonthsUptoSaid : Prop := calMonthsUptoRow.holds Tryd.pinned (OpenSpec.upto calMonthsSpec)

/-- 'tollbooklaw10.CalPeriods', WHERE WHAT IT READS IS OF BULK AT MOST 1048576: true; the input reads as it did. -/
def calPeriodsUptoRow : OpenClaim := { program := "ytlebkdmkofgdpaadoor", sum := "fbd045ee87f49742970b065673ffe567d1f2d3024107f8111c995346758b3ca6", func := "tollbook/tollbooklaw10.CalPeriods", spec := "calPeriods", named := ["tollbook/calendar.lengths"], apart := false, laid := [("tollbook/calendar.lengths", laid_tollbook_calendar_lengths)], narrowed := true }
def CalPeriodsUptoSaid : Prop := calPeriodsUptoRow.holds Tryd.pinned (OpenSpec.upto calPeriodsSpec)

end Rows
end Go.Proofs.YtlebkdmkofgdpaaDoor
