/-
  No cell of these rows narrows 'for every input' (looked for: loops, veiled, ifaces, maps, wideKeys, modest, calm, conditions, laid).
  DERIVED. THE GIVEN ROWS OF THIS SEAT. 4 by the template 'for every input the law returns true; each argument reads behind the call as it read before'; 0 by the template 'total and deterministic' (their statements: YtjlodljgfjjclaaGreatTotals.lean).
  GIVEN WITH THE SEED: the statements are not yours to turn. If you find one false, say at which input.
  Laid BY PROGRAM, IN A SANDBOX (cutbox-rows.mjs): the forced cells as the released guide's own fill.sh prints them over the translation 38cf2d7316f85c47… (all of the seat's roots in one cut). By AI agents, Wed Nov 11 2026. No macro, syntax, notation, axiom, sorry.
-/
import Derived.Test.YtjlodljgfjjclaaGreatChecked
import GoSem.Claim
import GoSem.ClaimJoined
import GoSem.ClaimMapViews
import Derived.JoinedTies
import Derived.KernelRfl
namespace Go.Proofs.YtjlodljgfjjclaaGreat
/- THE CELL 'sum', in the pinned program and in every row, IS THE sha256 OF THE DUMP (.gsa) THAT YtjlodljgfjjclaaGreatProg.lean LOADS. Nothing in Lean hashes anything: it is a label: what it is worth is what the hold of that sum in a sandbox is worth. -/
noncomputable def Tryz.pinned : Pinned := { name := "ytjlodljgfjjclaagreat", sum := "38cf2d7316f85c4794d1e223988ed71e8db6bc6f752db8a93f19bd35be8d41b8", checked := Tryz.checked }
namespace Rows
def none {H : Type} : Left H := { results := [], args := [] }

/-- 'tollbooklaw08.RealsOf': WHATEVER THE INPUT: true; the input reads as it did. -/
def realsOfSpec : ChangeSpec := { name := "realsOf", fn := fun _ => fun
  | [d] => { results := [.lit (.bool true)], args := [d] }
  | _ => none }
def realsOfRow : OpenClaim := { program := "ytjlodljgfjjclaagreat", sum := "38cf2d7316f85c4794d1e223988ed71e8db6bc6f752db8a93f19bd35be8d41b8", func := "tollbook/tollbooklaw08.RealsOf", spec := "realsOf", inPlace := ["math.Float64frombits", "math.Float64bits", "math/bits.Add64", "math/bits.Sub64"], named := ["math/bits.divideError", "math/bits.overflowError"], apart := false }
def RealsOfSaid : Prop := realsOfRow.holds Tryz.pinned (OpenSpec.ofChange realsOfSpec)

/-- ITS FALSE NEIGHBOUR: 'it returns false'. Refute it at one input. -/
def realsOfWrong : ChangeSpec := { name := "realsOf", fn := fun _ => fun
  | [d] => { results := [.lit (.bool false)], args := [d] }
  | _ => none }
def RealsOfWrongFalsely : Prop := realsOfRow.holds Tryz.pinned (OpenSpec.ofChange realsOfWrong)

/-- 'tollbooklaw08.RealsNear': WHATEVER THE INPUT: true; the input reads as it did. -/
def realsNearSpec : ChangeSpec := { name := "realsNear", fn := fun _ => fun
  | [d] => { results := [.lit (.bool true)], args := [d] }
  | _ => none }
def realsNearRow : OpenClaim := { program := "ytjlodljgfjjclaagreat", sum := "38cf2d7316f85c4794d1e223988ed71e8db6bc6f752db8a93f19bd35be8d41b8", func := "tollbook/tollbooklaw08.RealsNear", spec := "realsNear", inPlace := ["math.Float64bits", "math/bits.Add64", "math/bits.Sub64", "math.Float64frombits"], recurses := true, named := ["math/bits.divideError", "math/bits.overflowError"], apart := false }
def RealsNearSaid : Prop := realsNearRow.holds Tryz.pinned (OpenSpec.ofChange realsNearSpec)

/-- ITS FALSE NEIGHBOUR: 'it returns false'. Refute it at one input. -/
def realsNearWrong : ChangeSpec := { name := "realsNear", fn := fun _ => fun
  | [d] => { results := [.lit (.bool false)], args := [d] }
  | _ => none }
def RealsNearWrongFalsely : Prop := realsNearRow.holds Tryz.pinned (OpenSpec.ofChange realsNearWrong)

/-- 'tollbooklaw08.RealsCompares': WHATEVER THE INPUT: true; the input reads as it did. -/
def realsComparesSpec : ChangeSpec := { name := "realsCompares", fn := fun _ => fun
  | [d1, d2] => { results := [.lit (.bool true)], args := [d1, d2] }
  | _ => none }
def realsComparesRow : OpenClaim := { program := "ytjlodljgfjjclaagreat", sum := "38cf2d7316f85c4794d1e223988ed71e8db6bc6f752db8a93f19bd35be8d41b8", func := "tollbook/tollbooklaw08.RealsCompares", spec := "realsCompares", inPlace := ["math.Float64bits", "math/bits.Add64", "math/bits.Sub64", "math.Float64frombits"], named := ["math/bits.divideError", "math/bits.overflowError"], apart := false }
def RealsComparesSaid : Prop := realsComparesRow.holds Tryz.pinned (OpenSpec.ofChange realsComparesSpec)

/-- ITS FALSE NEIGHBOUR: 'it returns false'. Refute it at one input. -/
def realsComparesWrong : ChangeSpec := { name := "realsCompares", fn := fun _ => fun
  | [d1, d2] => { results := [.lit (.bool false)], args := [d1, d2] }
  | _ => none }
def RealsComparesWrongFalsely : Prop := realsComparesRow.holds Tryz.pinned (OpenSpec.ofChange realsComparesWrong)

/-- 'tollbooklaw08.RealsNexts': WHATEVER THE INPUT: true; the input reads as it did. -/
def realsNextsSpec : ChangeSpec := { name := "realsNexts", fn := fun _ => fun
  | [d] => { results := [.lit (.bool true)], args := [d] }
  | _ => none }
def realsNextsRow : OpenClaim := { program := "ytjlodljgfjjclaagreat", sum := "38cf2d7316f85c4794d1e223988ed71e8db6bc6f752db8a93f19bd35be8d41b8", func := "tollbook/tollbooklaw08.RealsNexts", spec := "realsNexts", inPlace := ["math.Float64frombits", "math.Float64bits", "math/bits.Add64", "math/bits.Sub64"], recurses := true, named := ["math/bits.divideError", "math/bits.overflowError"], apart := false }
def RealsNextsSaid : Prop := realsNextsRow.holds Tryz.pinned (OpenSpec.ofChange realsNextsSpec)

/-- ITS FALSE NEIGHBOUR: 'it returns false'. Refute it at one input. -/
def realsNextsWrong : ChangeSpec := { name := "realsNexts", fn := fun _ => fun
  | [d] => { results := [.lit (.bool false)], args := [d] }
  | _ => none }
def RealsNextsWrongFalsely : Prop := realsNextsRow.holds Tryz.pinned (OpenSpec.ofChange realsNextsWrong)

/- THE SECOND FORM. 'bulk': how many values and letters a reading holds, each counted each time it is reached (what is shared counts as often as it is met; a slice's spare places count too). A statement '..UptoSaid' is the law's where the arguments, and the package variables that the reading takes, are together of bulk at most 1048576: NARROWER than '..Said'. Prove '..Said' where nothing that the law and all that it calls make is longer than what came in: it says more and counts as full. Else prove '..UptoSaid'. A law counts once. -/
mutual
def uptoBulk {H : Type} : DataW H → Nat
  | .lit (.string bytes) => bytes.length + 1
  | .lit _ => 1
  | .nil => 1
  | .ptr d => uptoBulk d + 1
  | .slice elems spare => uptoBulkAll elems + uptoBulkAll spare + 1
  | .agg parts => uptoBulkAll parts + 1
  | .iface _ d => uptoBulk d + 1
  | .map entries => uptoBulkEntries entries + 1
  | .held _ => 1
def uptoBulkAll {H : Type} : List (DataW H) → Nat
  | [] => 0
  | d :: r => uptoBulk d + uptoBulkAll r
def uptoBulkEntries {H : Type} : List (Lit × DataW H) → Nat
  | [] => 0
  | x :: r => uptoBulkEntry x + uptoBulkEntries r
def uptoBulkEntry {H : Type} : Lit × DataW H → Nat
  | (.string bytes, d) => bytes.length + uptoBulk d + 1
  | (_, d) => uptoBulk d + 1
 end
def uptoSmall : (H : Type) → List (DataW H) → Bool := fun _ ds => decide (uptoBulkAll ds ≤ 1048576)
def OpenSpec.upto (s : _root_.Go.ChangeSpec) : _root_.Go.OpenSpec := { _root_.Go.OpenSpec.ofChange s with cond := some uptoSmall }

/-- 'tollbooklaw08.RealsOf', WHERE WHAT IT READS IS OF BULK AT MOST 1048576: true; the input reads as it did. -/
def realsOfUptoRow : OpenClaim := { program := "ytjlodljgfjjclaagreat", sum := "38cf2d7316f85c4794d1e223988ed71e8db6bc6f752db8a93f19bd35be8d41b8", func := "tollbook/tollbooklaw08.RealsOf", spec := "realsOf", inPlace := ["math.Float64frombits", "math.Float64bits", "math/bits.Add64", "math/bits.Sub64"], named := ["math/bits.divideError", "math/bits.overflowError"], apart := false, narrowed := true }
def RealsOfUptoSaid : Prop := realsOfUptoRow.holds Tryz.pinned (OpenSpec.upto realsOfSpec)

/-- 'tollbooklaw08.RealsNear', WHERE WHAT IT READS IS OF BULK AT MOST 1048576: true; the input reads as it did. -/
def realsNearUptoRow : OpenClaim := { program := "ytjlodljgfjjclaagreat", sum := "38cf2d7316f85c4794d1e223988ed71e8db6bc6f752db8a93f19bd35be8d41b8", func := "tollbook/tollbooklaw08.RealsNear", spec := "realsNear", inPlace := ["math.Float64bits", "math/bits.Add64", "math/bits.Sub64", "math.Float64frombits"], recurses := true, named := ["math/bits.divideError", "math/bits.overflowError"], apart := false, narrowed := true }
def RealsNearUptoSaid : Prop := realsNearUptoRow.holds Tryz.pinned (OpenSpec.upto realsNearSpec)

/-- 'tollbooklaw08.RealsCompares', WHERE WHAT IT READS IS OF BULK AT MOST 1048576: true; the input reads as it did. -/
def realsComparesUptoRow : OpenClaim := { program := "ytjlodljgfjjclaagreat", sum := "38cf2d7316f85c4794d1e223988ed71e8db6bc6f752db8a93f19bd35be8d41b8", func := "tollbook/tollbooklaw08.RealsCompares", spec := "realsCompares", inPlace := ["math.Float64bits", "math/bits.Add64", "math/bits.Sub64", "math.Float64frombits"], named := ["math/bits.divideError", "math/bits.overflowError"], apart := false, narrowed := true }
def RealsComparesUptoSaid : Prop := realsComparesUptoRow.holds Tryz.pinned (OpenSpec.upto realsComparesSpec)

/-- 'tollbooklaw08.RealsNexts', WHERE WHAT IT READS IS OF BULK AT MOST 1048576: true; the input reads as it did. -/
def realsNextsUptoRow : OpenClaim := { program := "ytjlodljgfjjclaagreat", sum := "38cf2d7316f85c4794d1e223988ed71e8db6bc6f752db8a93f19bd35be8d41b8", func := "tollbook/tollbooklaw08.RealsNexts", spec := "realsNexts", inPlace := ["math.Float64frombits", "math.Float64bits", "math/bits.Add64", "math/bits.Sub64"], recurses := true, named := ["math/bits.divideError", "math/bits.overflowError"], apart := false, narrowed := true }
def RealsNextsUptoSaid : Prop := realsNextsUptoRow.holds Tryz.pinned (OpenSpec.upto realsNextsSpec)

end Rows
end Go.Proofs.YtjlodljgfjjclaaGreat
