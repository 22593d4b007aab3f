/-
  No cell of these rows narrows 'for every input' (looked for: loops, veiled, ifaces, maps, wideKeys, modest, calm, conditions, laid).
  DERIVED. THE GIVEN ROWS OF THIS SEAT. 5 by the template 'for every input the law returns true; each argument reads behind the call as it read before'; 0 by the template 'total and deterministic' (their statements: YtmhfoeooccppfaaGreatTotals.lean).
  GIVEN WITH THE SEED: the statements are not yours to turn. If you find one false, say at which input.
  Laid BY PROGRAM, IN A SANDBOX (cutbox-rows.mjs): the forced cells as the released guide's own fill.sh prints them over the translation cfbe312ddf78e29b… (all of the seat's roots in one cut). By AI agents, Wed Nov 11 2026. No macro, syntax, notation, axiom, sorry.
-/
import Derived.Test.YtmhfoeooccppfaaGreatChecked
import GoSem.Claim
import GoSem.ClaimJoined
import GoSem.ClaimMapViews
import Derived.JoinedTies
import Derived.KernelRfl
namespace Go.Proofs.YtmhfoeooccppfaaGreat
/- THE CELL 'sum', in the pinned program and in every row, IS THE sha256 OF THE DUMP (.gsa) THAT YtmhfoeooccppfaaGreatProg.lean LOADS. Nothing in Lean hashes anything: it is a label: what it is worth is what the hold of that sum in a sandbox is worth. -/
noncomputable def Tryz.pinned : Pinned := { name := "ytmhfoeooccppfaagreat", sum := "cfbe312ddf78e29be674c38fcd922318078573d2c3515acf24abeea91441e52d", checked := Tryz.checked }
namespace Rows
def none {H : Type} : Left H := { results := [], args := [] }

/-- 'tollbooklaw16.ExchNumbers': WHATEVER THE INPUT: true; the input reads as it did. -/
def exchNumbersSpec : ChangeSpec := { name := "exchNumbers", fn := fun _ => fun
  | [] => { results := [.lit (.bool true)], args := [] }
  | _ => none }
def exchNumbersRow : OpenClaim := { program := "ytmhfoeooccppfaagreat", sum := "cfbe312ddf78e29be674c38fcd922318078573d2c3515acf24abeea91441e52d", func := "tollbook/tollbooklaw16.ExchNumbers", spec := "exchNumbers", inPlace := ["math.Float64bits", "math.Float64frombits", "slices.overlaps[tollbook/exchange.quote]", "math/bits.Add64", "math/bits.Sub64"], unfollowed := true, recurses := true, named := ["math/bits.divideError", "math/bits.overflowError"], plainKeys := false, apart := false }
def ExchNumbersSaid : Prop := exchNumbersRow.holds Tryz.pinned (OpenSpec.ofChange exchNumbersSpec)

/-- ITS FALSE NEIGHBOUR: 'it returns false'. Refute it at one input. -/
def exchNumbersWrong : ChangeSpec := { name := "exchNumbers", fn := fun _ => fun
  | [] => { results := [.lit (.bool false)], args := [] }
  | _ => none }
def ExchNumbersWrongFalsely : Prop := exchNumbersRow.holds Tryz.pinned (OpenSpec.ofChange exchNumbersWrong)

/-- 'tollbooklaw16.ExchPlays': WHATEVER THE INPUT: true; the input reads as it did. -/
def exchPlaysSpec : ChangeSpec := { name := "exchPlays", fn := fun _ => fun
  | [d] => { results := [.lit (.bool true)], args := [d] }
  | _ => none }
def exchPlaysRow : OpenClaim := { program := "ytmhfoeooccppfaagreat", sum := "cfbe312ddf78e29be674c38fcd922318078573d2c3515acf24abeea91441e52d", func := "tollbook/tollbooklaw16.ExchPlays", spec := "exchPlays", inPlace := ["math.Float64bits", "math.Float64frombits", "slices.overlaps[tollbook/exchange.quote]", "math/bits.Add64", "math/bits.Sub64"], unfollowed := true, recurses := true, named := ["math/bits.divideError", "math/bits.overflowError"], plainKeys := false, apart := false }
def ExchPlaysSaid : Prop := exchPlaysRow.holds Tryz.pinned (OpenSpec.ofChange exchPlaysSpec)

/-- ITS FALSE NEIGHBOUR: 'it returns false'. Refute it at one input. -/
def exchPlaysWrong : ChangeSpec := { name := "exchPlays", fn := fun _ => fun
  | [d] => { results := [.lit (.bool false)], args := [d] }
  | _ => none }
def ExchPlaysWrongFalsely : Prop := exchPlaysRow.holds Tryz.pinned (OpenSpec.ofChange exchPlaysWrong)

/-- 'tollbooklaw16.ExchTurn': WHATEVER THE INPUT: true; the input reads as it did. -/
def exchTurnSpec : ChangeSpec := { name := "exchTurn", fn := fun _ => fun
  | [d1, d2, d3, d4] => { results := [.lit (.bool true)], args := [d1, d2, d3, d4] }
  | _ => none }
def exchTurnRow : OpenClaim := { program := "ytmhfoeooccppfaagreat", sum := "cfbe312ddf78e29be674c38fcd922318078573d2c3515acf24abeea91441e52d", func := "tollbook/tollbooklaw16.ExchTurn", spec := "exchTurn", inPlace := ["math.Float64bits", "math.Float64frombits", "slices.overlaps[tollbook/exchange.quote]", "math/bits.Add64", "math/bits.Sub64"], unfollowed := true, recurses := true, named := ["math/bits.divideError", "math/bits.overflowError"], plainKeys := false, apart := false }
def ExchTurnSaid : Prop := exchTurnRow.holds Tryz.pinned (OpenSpec.ofChange exchTurnSpec)

/-- ITS FALSE NEIGHBOUR: 'it returns false'. Refute it at one input. -/
def exchTurnWrong : ChangeSpec := { name := "exchTurn", fn := fun _ => fun
  | [d1, d2, d3, d4] => { results := [.lit (.bool false)], args := [d1, d2, d3, d4] }
  | _ => none }
def ExchTurnWrongFalsely : Prop := exchTurnRow.holds Tryz.pinned (OpenSpec.ofChange exchTurnWrong)

/-- 'tollbooklaw16.ExchOrder': WHATEVER THE INPUT: true; the input reads as it did. -/
def exchOrderSpec : ChangeSpec := { name := "exchOrder", fn := fun _ => fun
  | [d1, d2, d3, d4] => { results := [.lit (.bool true)], args := [d1, d2, d3, d4] }
  | _ => none }
def exchOrderRow : OpenClaim := { program := "ytmhfoeooccppfaagreat", sum := "cfbe312ddf78e29be674c38fcd922318078573d2c3515acf24abeea91441e52d", func := "tollbook/tollbooklaw16.ExchOrder", spec := "exchOrder", inPlace := ["math.Float64bits", "math.Float64frombits", "slices.overlaps[tollbook/exchange.quote]", "math/bits.Add64", "math/bits.Sub64"], unfollowed := true, recurses := true, named := ["math/bits.divideError", "math/bits.overflowError"], plainKeys := false, apart := false }
def ExchOrderSaid : Prop := exchOrderRow.holds Tryz.pinned (OpenSpec.ofChange exchOrderSpec)

/-- ITS FALSE NEIGHBOUR: 'it returns false'. Refute it at one input. -/
def exchOrderWrong : ChangeSpec := { name := "exchOrder", fn := fun _ => fun
  | [d1, d2, d3, d4] => { results := [.lit (.bool false)], args := [d1, d2, d3, d4] }
  | _ => none }
def ExchOrderWrongFalsely : Prop := exchOrderRow.holds Tryz.pinned (OpenSpec.ofChange exchOrderWrong)

/-- 'tollbooklaw16.ExchLater': WHATEVER THE INPUT: true; the input reads as it did. -/
def exchLaterSpec : ChangeSpec := { name := "exchLater", fn := fun _ => fun
  | [d1, d2, d3, d4, d5] => { results := [.lit (.bool true)], args := [d1, d2, d3, d4, d5] }
  | _ => none }
def exchLaterRow : OpenClaim := { program := "ytmhfoeooccppfaagreat", sum := "cfbe312ddf78e29be674c38fcd922318078573d2c3515acf24abeea91441e52d", func := "tollbook/tollbooklaw16.ExchLater", spec := "exchLater", inPlace := ["math.Float64bits", "math.Float64frombits", "slices.overlaps[tollbook/exchange.quote]", "math/bits.Add64", "math/bits.Sub64"], unfollowed := true, recurses := true, named := ["math/bits.divideError", "math/bits.overflowError"], plainKeys := false, apart := false }
def ExchLaterSaid : Prop := exchLaterRow.holds Tryz.pinned (OpenSpec.ofChange exchLaterSpec)

/-- ITS FALSE NEIGHBOUR: 'it returns false'. Refute it at one input. -/
def exchLaterWrong : ChangeSpec := { name := "exchLater", fn := fun _ => fun
  | [d1, d2, d3, d4, d5] => { results := [.lit (.bool false)], args := [d1, d2, d3, d4, d5] }
  | _ => none }
def ExchLaterWrongFalsely : Prop := exchLaterRow.holds Tryz.pinned (OpenSpec.ofChange exchLaterWrong)

/- THE SECOND FORM. 'bulk': how many values and letters a reading holds, each counted each time it is reached (what is shared counts as often as it is met; a slice's spare places count too). A statement '..UptoSaid' is the law's where the arguments, and the package variables that the reading takes, are together of bulk at most 1048576: NARROWER than '..Said'. Prove '..Said' where nothing that the law and all that it calls make is longer than what came in: it says more and counts as full. Else prove '..UptoSaid'. A law counts once. -/
mutual
def uptoBulk {H : Type} : DataW H → Nat
  | .lit (.string bytes) => bytes.length + 1
  | .lit _ => 1
  | .nil => 1
  | .ptr d => uptoBulk d + 1
  | .slice elems spare => uptoBulkAll elems + uptoBulkAll spare + 1
  | .agg parts => uptoBulkAll parts + 1
  | .iface _ d => uptoBulk d + 1
  | .map entries => uptoBulkEntries entries + 1
  | .held _ => 1
def uptoBulkAll {H : Type} : List (DataW H) → Nat
  | [] => 0
  | d :: r => uptoBulk d + uptoBulkAll r
def uptoBulkEntries {H : Type} : List (Lit × DataW H) → Nat
  | [] => 0
  | x :: r => uptoBulkEntry x + uptoBulkEntries r
def uptoBulkEntry {H : Type} : Lit × DataW H → Nat
  | (.string bytes, d) => bytes.length + uptoBulk d + 1
  | (_, d) => uptoBulk d + 1
 end
def uptoSmall : (H : Type) → List (DataW H) → Bool := fun _ ds => decide (uptoBulkAll ds ≤ 1048576)
def OpenSpec.upto (s : _root_.Go.ChangeSpec) : _root_.Go.OpenSpec := { _root_.Go.OpenSpec.ofChange s with cond := some uptoSmall }

/-- 'tollbooklaw16.ExchNumbers', WHERE WHAT IT READS IS OF BULK AT MOST 1048576: true; the input reads as it did. -/
def exchNumbersUptoRow : OpenClaim := { program := "ytmhfoeooccppfaagreat", sum := "cfbe312ddf78e29be674c38fcd922318078573d2c3515acf24abeea91441e52d", func := "tollbook/tollbooklaw16.ExchNumbers", spec := "exchNumbers", inPlace := ["math.Float64bits", "math.Float64frombits", "slices.overlaps[tollbook/exchange.quote]", "math/bits.Add64", "math/bits.Sub64"], unfollowed := true, recurses := true, named := ["math/bits.divideError", "math/bits.overflowError"], plainKeys := false, apart := false, narrowed := true }
def ExchNumbersUptoSaid : Prop := exchNumbersUptoRow.holds Tryz.pinned (OpenSpec.upto exchNumbersSpec)

/-- 'tollbooklaw16.ExchPlays', WHERE WHAT IT READS IS OF BULK AT MOST 1048576: true; the input reads as it did. -/
def exchPlaysUptoRow : OpenClaim := { program := "ytmhfoeooccppfaagreat", sum := "cfbe312ddf78e29be674c38fcd922318078573d2c3515acf24abeea91441e52d", func := "tollbook/tollbooklaw16.ExchPlays", spec := "exchPlays", inPlace := ["math.Float64bits", "math.Float64frombits", "slices.overlaps[tollbook/exchange.quote]", "math/bits.Add64", "math/bits.Sub64"], unfollowed := true, recurses := true, named := ["math/bits.divideError", "math/bits.overflowError"], plainKeys := false, apart := false, narrowed := true }
def ExchPlaysUptoSaid : Prop := exchPlaysUptoRow.holds Tryz.pinned (OpenSpec.upto exchPlaysSpec)

/-- 'tollbooklaw16.ExchTurn', WHERE WHAT IT READS IS OF BULK AT MOST 1048576: true; the input reads as it did. -/
def exchTurnUptoRow : OpenClaim := { program := "ytmhfoeooccppfaagreat", sum := "cfbe312ddf78e29be674c38fcd922318078573d2c3515acf24abeea91441e52d", func := "tollbook/tollbooklaw16.ExchTurn", spec := "exchTurn", inPlace := ["math.Float64bits", "math.Float64frombits", "slices.overlaps[tollbook/exchange.quote]", "math/bits.Add64", "math/bits.Sub64"], unfollowed := true, recurses := true, named := ["math/bits.divideError", "math/bits.overflowError"], plainKeys := false, apart := false, narrowed := true }
def ExchTurnUptoSaid : Prop := exchTurnUptoRow.holds Tryz.pinned (OpenSpec.upto exchTurnSpec)

/-- 'tollbooklaw16.ExchOrder', WHERE WHAT IT READS IS OF BULK AT MOST 1048576: true; the input reads as it did. -/
def exchOrderUptoRow : OpenClaim := { program := "ytmhfoeooccppfaagreat", sum := "cfbe312ddf78e29be674c38fcd922318078573d2c3515acf24abeea91441e52d", func := "tollbook/tollbooklaw16.ExchOrder", spec := "exchOrder", inPlace := ["math.Float64bits", "math.Float64frombits", "slices.overlaps[tollbook/exchange.quote]", "math/bits.Add64", "math/bits.Sub64"], unfollowed := true, recurses := true, named := ["math/bits.divideError", "math/bits.overflowError"], plainKeys := false, apart := false, narrowed := true }
def ExchOrderUptoSaid : Prop := exchOrderUptoRow.holds Tryz.pinned (OpenSpec.upto exchOrderSpec)

/-- 'tollbooklaw16.ExchLater', WHERE WHAT IT READS IS OF BULK AT MOST 1048576: true; the input reads as it did. -/
def exchLaterUptoRow : OpenClaim := { program := "ytmhfoeooccppfaagreat", sum := "cfbe312ddf78e29be674c38fcd922318078573d2c3515acf24abeea91441e52d", func := "tollbook/tollbooklaw16.ExchLater", spec := "exchLater", inPlace := ["math.Float64bits", "math.Float64frombits", "slices.overlaps[tollbook/exchange.quote]", "math/bits.Add64", "math/bits.Sub64"], unfollowed := true, recurses := true, named := ["math/bits.divideError", "math/bits.overflowError"], plainKeys := false, apart := false, narrowed := true }
def ExchLaterUptoSaid : Prop := exchLaterUptoRow.holds Tryz.pinned (OpenSpec.upto exchLaterSpec)

end Rows
end Go.Proofs.YtmhfoeooccppfaaGreat
