/-
  No cell of these rows narrows 'for every input' (looked for: loops, veiled, ifaces, maps, wideKeys, modest, calm, conditions, laid).
  DERIVED. THE GIVEN ROWS OF THIS SEAT. 3 by the template 'for every input the law returns true; each argument reads behind the call as it read before'; 0 by the template 'total and deterministic' (their statements: YtogabmggdcefaabGreatTotals.lean).
  GIVEN WITH THE SEED: the statements are not yours to turn. If you find one false, say at which input.
  Laid BY PROGRAM, IN A SANDBOX (cutbox-rows.mjs): the forced cells as the released guide's own fill.sh prints them over the translation 7db336b5e1daa5d3… (all of the seat's roots in one cut). By AI agents, Wed Nov 11 2026. No macro, syntax, notation, axiom, sorry.
-/
import Derived.Test.YtogabmggdcefaabGreatChecked
import GoSem.Claim
import GoSem.ClaimJoined
import GoSem.ClaimMapViews
import Derived.JoinedTies
import Derived.KernelRfl
namespace Go.Proofs.YtogabmggdcefaabGreat
/- THE CELL 'sum', in the pinned program and in every row, IS THE sha256 OF THE DUMP (.gsa) THAT YtogabmggdcefaabGreatProg.lean LOADS. Nothing in Lean hashes anything: it is a label: what it is worth is what the hold of that sum in a sandbox is worth. -/
noncomputable def Tryz.pinned : Pinned := { name := "ytogabmggdcefaabgreat", sum := "7db336b5e1daa5d3dda8f8eaf46fdd9594b068a3347d875e24c912389db3d069", checked := Tryz.checked }
namespace Rows
def none {H : Type} : Left H := { results := [], args := [] }

/-- 'tollbooklaw08.RealsSteps': WHATEVER THE INPUT: true; the input reads as it did. -/
def realsStepsSpec : ChangeSpec := { name := "realsSteps", fn := fun _ => fun
  | [d] => { results := [.lit (.bool true)], args := [d] }
  | _ => none }
def realsStepsRow : OpenClaim := { program := "ytogabmggdcefaabgreat", sum := "7db336b5e1daa5d3dda8f8eaf46fdd9594b068a3347d875e24c912389db3d069", func := "tollbook/tollbooklaw08.RealsSteps", spec := "realsSteps", inPlace := ["math.Float64bits", "math/bits.Add64", "math/bits.Sub64", "math.Float64frombits"], named := ["math/bits.divideError", "math/bits.overflowError"], apart := false }
def RealsStepsSaid : Prop := realsStepsRow.holds Tryz.pinned (OpenSpec.ofChange realsStepsSpec)

/-- ITS FALSE NEIGHBOUR: 'it returns false'. Refute it at one input. -/
def realsStepsWrong : ChangeSpec := { name := "realsSteps", fn := fun _ => fun
  | [d] => { results := [.lit (.bool false)], args := [d] }
  | _ => none }
def RealsStepsWrongFalsely : Prop := realsStepsRow.holds Tryz.pinned (OpenSpec.ofChange realsStepsWrong)

/-- 'tollbooklaw08.RealsOrder': WHATEVER THE INPUT: true; the input reads as it did. -/
def realsOrderSpec : ChangeSpec := { name := "realsOrder", fn := fun _ => fun
  | [d1, d2, d3] => { results := [.lit (.bool true)], args := [d1, d2, d3] }
  | _ => none }
def realsOrderRow : OpenClaim := { program := "ytogabmggdcefaabgreat", sum := "7db336b5e1daa5d3dda8f8eaf46fdd9594b068a3347d875e24c912389db3d069", func := "tollbook/tollbooklaw08.RealsOrder", spec := "realsOrder", inPlace := ["math.Float64bits", "math/bits.Add64", "math/bits.Sub64", "math.Float64frombits"], named := ["math/bits.divideError", "math/bits.overflowError"], apart := false }
def RealsOrderSaid : Prop := realsOrderRow.holds Tryz.pinned (OpenSpec.ofChange realsOrderSpec)

/-- ITS FALSE NEIGHBOUR: 'it returns false'. Refute it at one input. -/
def realsOrderWrong : ChangeSpec := { name := "realsOrder", fn := fun _ => fun
  | [d1, d2, d3] => { results := [.lit (.bool false)], args := [d1, d2, d3] }
  | _ => none }
def RealsOrderWrongFalsely : Prop := realsOrderRow.holds Tryz.pinned (OpenSpec.ofChange realsOrderWrong)

/-- 'tollbooklaw08.RealsWhole': WHATEVER THE INPUT: true; the input reads as it did. -/
def realsWholeSpec : ChangeSpec := { name := "realsWhole", fn := fun _ => fun
  | [d1, d2] => { results := [.lit (.bool true)], args := [d1, d2] }
  | _ => none }
def realsWholeRow : OpenClaim := { program := "ytogabmggdcefaabgreat", sum := "7db336b5e1daa5d3dda8f8eaf46fdd9594b068a3347d875e24c912389db3d069", func := "tollbook/tollbooklaw08.RealsWhole", spec := "realsWhole", inPlace := ["math.Float64bits", "math/bits.Add64", "math/bits.Sub64", "math.Float64frombits"], named := ["math/bits.divideError", "math/bits.overflowError"], apart := false }
def RealsWholeSaid : Prop := realsWholeRow.holds Tryz.pinned (OpenSpec.ofChange realsWholeSpec)

/-- ITS FALSE NEIGHBOUR: 'it returns false'. Refute it at one input. -/
def realsWholeWrong : ChangeSpec := { name := "realsWhole", fn := fun _ => fun
  | [d1, d2] => { results := [.lit (.bool false)], args := [d1, d2] }
  | _ => none }
def RealsWholeWrongFalsely : Prop := realsWholeRow.holds Tryz.pinned (OpenSpec.ofChange realsWholeWrong)

/- THE SECOND FORM. 'bulk': how many values and letters a reading holds, each counted each time it is reached (what is shared counts as often as it is met; a slice's spare places count too). A statement '..UptoSaid' is the law's where the arguments, and the package variables that the reading takes, are together of bulk at most 1048576: NARROWER than '..Said'. Prove '..Said' where nothing that the law and all that it calls make is longer than what came in: it says more and counts as full. Else prove '..UptoSaid'. A law counts once. -/
mutual
def uptoBulk {H : Type} : DataW H → Nat
  | .lit (.string bytes) => bytes.length + 1
  | .lit _ => 1
  | .nil => 1
  | .ptr d => uptoBulk d + 1
  | .slice elems spare => uptoBulkAll elems + uptoBulkAll spare + 1
  | .agg parts => uptoBulkAll parts + 1
  | .iface _ d => uptoBulk d + 1
  | .map entries => uptoBulkEntries entries + 1
  | .held _ => 1
def uptoBulkAll {H : Type} : List (DataW H) → Nat
  | [] => 0
  | d :: r => uptoBulk d + uptoBulkAll r
def uptoBulkEntries {H : Type} : List (Lit × DataW H) → Nat
  | [] => 0
  | x :: r => uptoBulkEntry x + uptoBulkEntries r
def uptoBulkEntry {H : Type} : Lit × DataW H → Nat
  | (.string bytes, d) => bytes.length + uptoBulk d + 1
  | (_, d) => uptoBulk d + 1
 end
def uptoSmall : (H : Type) → List (DataW H) → Bool := fun _ ds => decide (uptoBulkAll ds ≤ 1048576)
def OpenSpec.upto (s : _root_.Go.ChangeSpec) : _root_.Go.OpenSpec := { _root_.Go.OpenSpec.ofChange s with cond := some uptoSmall }

/-- 'tollbooklaw08.RealsSteps', WHERE WHAT IT READS IS OF BULK AT MOST 1048576: true; the input reads as it did. -/
def realsStepsUptoRow : OpenClaim := { program := "ytogabmggdcefaabgreat", sum := "7db336b5e1daa5d3dda8f8eaf46fdd9594b068a3347d875e24c912389db3d069", func := "tollbook/tollbooklaw08.RealsSteps", spec := "realsSteps", inPlace := ["math.Float64bits", "math/bits.Add64", "math/bits.Sub64", "math.Float64frombits"], named := ["math/bits.divideError", "math/bits.overflowError"], apart := false, narrowed := true }
def RealsStepsUptoSaid : Prop := realsStepsUptoRow.holds Tryz.pinned (OpenSpec.upto realsStepsSpec)

/-- 'tollbooklaw08.RealsOrder', WHERE WHAT IT READS IS OF BULK AT MOST 1048576: true; the input reads as it did. -/
def realsOrderUptoRow : OpenClaim := { program := "ytogabmggdcefaabgreat", sum := "7db336b5e1daa5d3dda8f8eaf46fdd9594b068a3347d875e24c912389db3d069", func := "tollbook/tollbooklaw08.RealsOrder", spec := "realsOrder", inPlace := ["math.Float64bits", "math/bits.Add64", "math/bits.Sub64", "math.Float64frombits"], named := ["math/bits.divideError", "math/bits.overflowError"], apart := false, narrowed := true }
def RealsOrderUptoSaid : Prop := realsOrderUptoRow.holds Tryz.pinned (OpenSpec.upto realsOrderSpec)

/-- 'tollbooklaw08.RealsWhole', WHERE WHAT IT READS IS OF BULK AT MOST 1048576: true; the input reads as it did. -/
def realsWholeUptoRow : OpenClaim := { program := "ytogabmggdcefaabgreat", sum := "7db336b5e1daa5d3dda8f8eaf46fdd9594b068a3347d875e24c912389db3d069", func := "tollbook/tollbooklaw08.RealsWhole", spec := "realsWhole", inPlace := ["math.Float64bits", "math/bits.Add64", "math/bits.Sub64", "math.Float64frombits"], named := ["math/bits.divideError", "math/bits.overflowError"], apart := false, narrowed := true }
def RealsWholeUptoSaid : Prop := realsWholeUptoRow.holds Tryz.pinned (OpenSpec.upto realsWholeSpec)

end Rows
end Go.Proofs.YtogabmggdcefaabGreat
