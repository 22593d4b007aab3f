/-
  No cell of these rows narrows 'for every input' (looked for: loops, veiled, ifaces, maps, wideKeys, modest, calm, conditions, laid).
  DERIVED. THE GIVEN ROWS OF THIS SEAT. 5 by the template 'for every input the law returns true; each argument reads behind the call as it read before'; 0 by the template 'total and deterministic' (their statements: YtfmbloagmeodeaaTotals.lean).
  GIVEN WITH THE SEED: the statements are not yours to turn. If you find one false, say at which input.
  Laid BY PROGRAM, IN A SANDBOX (cutbox-rows.mjs): the forced cells as the released guide's own fill.sh prints them over the translation 90d006a208435f14… (all of the seat's roots in one cut). By AI agents, Wed Nov 11 2026. No macro, syntax, notation, axiom, sorry.
-/
import Derived.Test.YtfmbloagmeodeaaChecked
import GoSem.Claim
import GoSem.ClaimJoined
import GoSem.ClaimMapViews
import Derived.JoinedTies
import Derived.KernelRfl
namespace Go.Proofs.Ytfmbloagmeodeaa
/- THE CELL 'sum', in the pinned program and in every row, IS THE sha256 OF THE DUMP (.gsa) THAT YtfmbloagmeodeaaProg.lean LOADS. Nothing in Lean hashes anything: it is a label: what it is worth is what the hold of that sum in a sandbox is worth. -/
noncomputable def Try.pinned : Pinned := { name := "ytfmbloagmeodeaa", sum := "90d006a208435f1479e4c6b1242c9824f54f92327b03f87f1926a22efabd0f8c", checked := Try.checked }
namespace Rows
def none {H : Type} : Left H := { results := [], args := [] }

/-- 'tollbooklaw15.JurisNews': WHATEVER THE INPUT: true; the input reads as it did. -/
def jurisNewsSpec : ChangeSpec := { name := "jurisNews", fn := fun _ => fun
  | [d] => { results := [.lit (.bool true)], args := [d] }
  | _ => none }
def jurisNewsRow : OpenClaim := { program := "ytfmbloagmeodeaa", sum := "90d006a208435f1479e4c6b1242c9824f54f92327b03f87f1926a22efabd0f8c", func := "tollbook/tollbooklaw15.JurisNews", spec := "jurisNews", unfollowed := true, recurses := true, apart := false }
def JurisNewsSaid : Prop := jurisNewsRow.holds Try.pinned (OpenSpec.ofChange jurisNewsSpec)

/-- ITS FALSE NEIGHBOUR: 'it returns false'. Refute it at one input. -/
def jurisNewsWrong : ChangeSpec := { name := "jurisNews", fn := fun _ => fun
  | [d] => { results := [.lit (.bool false)], args := [d] }
  | _ => none }
def JurisNewsWrongFalsely : Prop := jurisNewsRow.holds Try.pinned (OpenSpec.ofChange jurisNewsWrong)

/-- 'tollbooklaw15.JurisAsks': WHATEVER THE INPUT: true; the input reads as it did. -/
def jurisAsksSpec : ChangeSpec := { name := "jurisAsks", fn := fun _ => fun
  | [d1, d2, d3] => { results := [.lit (.bool true)], args := [d1, d2, d3] }
  | _ => none }
def jurisAsksRow : OpenClaim := { program := "ytfmbloagmeodeaa", sum := "90d006a208435f1479e4c6b1242c9824f54f92327b03f87f1926a22efabd0f8c", func := "tollbook/tollbooklaw15.JurisAsks", spec := "jurisAsks", unfollowed := true, recurses := true, apart := false }
def JurisAsksSaid : Prop := jurisAsksRow.holds Try.pinned (OpenSpec.ofChange jurisAsksSpec)

/-- ITS FALSE NEIGHBOUR: 'it returns false'. Refute it at one input. -/
def jurisAsksWrong : ChangeSpec := { name := "jurisAsks", fn := fun _ => fun
  | [d1, d2, d3] => { results := [.lit (.bool false)], args := [d1, d2, d3] }
  | _ => none }
def JurisAsksWrongFalsely : Prop := jurisAsksRow.holds Try.pinned (OpenSpec.ofChange jurisAsksWrong)

/-- 'tollbooklaw15.JurisNil': WHATEVER THE INPUT: true; the input reads as it did. -/
def jurisNilSpec : ChangeSpec := { name := "jurisNil", fn := fun _ => fun
  | [d1, d2] => { results := [.lit (.bool true)], args := [d1, d2] }
  | _ => none }
def jurisNilRow : OpenClaim := { program := "ytfmbloagmeodeaa", sum := "90d006a208435f1479e4c6b1242c9824f54f92327b03f87f1926a22efabd0f8c", func := "tollbook/tollbooklaw15.JurisNil", spec := "jurisNil", unfollowed := true, recurses := true, apart := false }
def JurisNilSaid : Prop := jurisNilRow.holds Try.pinned (OpenSpec.ofChange jurisNilSpec)

/-- ITS FALSE NEIGHBOUR: 'it returns false'. Refute it at one input. -/
def jurisNilWrong : ChangeSpec := { name := "jurisNil", fn := fun _ => fun
  | [d1, d2] => { results := [.lit (.bool false)], args := [d1, d2] }
  | _ => none }
def JurisNilWrongFalsely : Prop := jurisNilRow.holds Try.pinned (OpenSpec.ofChange jurisNilWrong)

/-- 'tollbooklaw15.JurisMeets': WHATEVER THE INPUT: true; the input reads as it did. -/
def jurisMeetsSpec : ChangeSpec := { name := "jurisMeets", fn := fun _ => fun
  | [d1, d2, d3] => { results := [.lit (.bool true)], args := [d1, d2, d3] }
  | _ => none }
def jurisMeetsRow : OpenClaim := { program := "ytfmbloagmeodeaa", sum := "90d006a208435f1479e4c6b1242c9824f54f92327b03f87f1926a22efabd0f8c", func := "tollbook/tollbooklaw15.JurisMeets", spec := "jurisMeets", unfollowed := true, recurses := true, apart := false }
def JurisMeetsSaid : Prop := jurisMeetsRow.holds Try.pinned (OpenSpec.ofChange jurisMeetsSpec)

/-- ITS FALSE NEIGHBOUR: 'it returns false'. Refute it at one input. -/
def jurisMeetsWrong : ChangeSpec := { name := "jurisMeets", fn := fun _ => fun
  | [d1, d2, d3] => { results := [.lit (.bool false)], args := [d1, d2, d3] }
  | _ => none }
def JurisMeetsWrongFalsely : Prop := jurisMeetsRow.holds Try.pinned (OpenSpec.ofChange jurisMeetsWrong)

/-- 'tollbooklaw15.JurisWithin': WHATEVER THE INPUT: true; the input reads as it did. -/
def jurisWithinSpec : ChangeSpec := { name := "jurisWithin", fn := fun _ => fun
  | [d1, d2, d3, d4] => { results := [.lit (.bool true)], args := [d1, d2, d3, d4] }
  | _ => none }
def jurisWithinRow : OpenClaim := { program := "ytfmbloagmeodeaa", sum := "90d006a208435f1479e4c6b1242c9824f54f92327b03f87f1926a22efabd0f8c", func := "tollbook/tollbooklaw15.JurisWithin", spec := "jurisWithin", unfollowed := true, recurses := true, apart := false }
def JurisWithinSaid : Prop := jurisWithinRow.holds Try.pinned (OpenSpec.ofChange jurisWithinSpec)

/-- ITS FALSE NEIGHBOUR: 'it returns false'. Refute it at one input. -/
def jurisWithinWrong : ChangeSpec := { name := "jurisWithin", fn := fun _ => fun
  | [d1, d2, d3, d4] => { results := [.lit (.bool false)], args := [d1, d2, d3, d4] }
  | _ => none }
def JurisWithinWrongFalsely : Prop := jurisWithinRow.holds Try.pinned (OpenSpec.ofChange jurisWithinWrong)

/- THE SECOND FORM. 'bulk': how many values and letters a reading holds, each counted each time it is reached (what is shared counts as often as it is met; a slice's spare places count too). A statement '..UptoSaid' is the law's where the arguments, and the package variables that the reading takes, are together of bulk at most 1048576: NARROWER than '..Said'. Prove '..Said' where nothing that the law and all that it calls make is longer than what came in: it says more and counts as full. Else prove '..UptoSaid'. A law counts once. -/
mutual
def uptoBulk {H : Type} : DataW H → Nat
  | .lit (.string bytes) => bytes.length + 1
  | .lit _ => 1
  | .nil => 1
  | .ptr d => uptoBulk d + 1
  | .slice elems spare => uptoBulkAll elems + uptoBulkAll spare + 1
  | .agg parts => uptoBulkAll parts + 1
  | .iface _ d => uptoBulk d + 1
  | .map entries => uptoBulkEntries entries + 1
  | .held _ => 1
def uptoBulkAll {H : Type} : List (DataW H) → Nat
  | [] => 0
  | d :: r => uptoBulk d + uptoBulkAll r
def uptoBulkEntries {H : Type} : List (Lit × DataW H) → Nat
  | [] => 0
  | x :: r => uptoBulkEntry x + uptoBulkEntries r
def uptoBulkEntry {H : Type} : Lit × DataW H → Nat
  | (.string bytes, d) => bytes.length + uptoBulk d + 1
  | (_, d) => uptoBulk d + 1
 end
def uptoSmall : (H : Type) → List (DataW H) → Bool := fun _ ds => decide (uptoBulkAll ds ≤ 1048576)
def OpenSpec.upto (s : _root_.Go.ChangeSpec) : _root_.Go.OpenSpec := { _root_.Go.OpenSpec.ofChange s with cond := some uptoSmall }

/-- 'tollbooklaw15.JurisNews', WHERE WHAT IT READS IS OF BULK AT MOST 1048576: true; the input reads as it did. -/
def jurisNewsUptoRow : OpenClaim := { program := "ytfmbloagmeodeaa", sum := "90d006a208435f1479e4c6b1242c9824f54f92327b03f87f1926a22efabd0f8c", func := "tollbook/tollbooklaw15.JurisNews", spec := "jurisNews", unfollowed := true, recurses := true, apart := false, narrowed := true }
def JurisNewsUptoSaid : Prop := jurisNewsUptoRow.holds Try.pinned (OpenSpec.upto jurisNewsSpec)

/-- 'tollbooklaw15.JurisAsks', WHERE WHAT IT READS IS OF BULK AT MOST 1048576: true; the input reads as it did. -/
def jurisAsksUptoRow : OpenClaim := { program := "ytfmbloagmeodeaa", sum := "90d006a208435f1479e4c6b1242c9824f54f92327b03f87f1926a22efabd0f8c", func := "tollbook/tollbooklaw15.JurisAsks", spec := "jurisAsks", unfollowed := true, recurses := true, apart := false, narrowed := true }
def JurisAsksUptoSaid : Prop := jurisAsksUptoRow.holds Try.pinned (OpenSpec.upto jurisAsksSpec)

/-- 'tollbooklaw15.JurisNil', WHERE WHAT IT READS IS OF BULK AT MOST 1048576: true; the input reads as it did. -/
def jurisNilUptoRow : OpenClaim := { program := "ytfmbloagmeodeaa", sum := "90d006a208435f1479e4c6b1242c9824f54f92327b03f87f1926a22efabd0f8c", func := "tollbook/tollbooklaw15.JurisNil", spec := "jurisNil", unfollowed := true, recurses := true, apart := false, narrowed := true }
def JurisNilUptoSaid : Prop := jurisNilUptoRow.holds Try.pinned (OpenSpec.upto jurisNilSpec)

/-- 'tollbooklaw15.JurisMeets', WHERE WHAT IT READS IS OF BULK AT MOST 1048576: true; the input reads as it did. -/
def jurisMeetsUptoRow : OpenClaim := { program := "ytfmbloagmeodeaa", sum := "90d006a208435f1479e4c6b1242c9824f54f92327b03f87f1926a22efabd0f8c", func := "tollbook/tollbooklaw15.JurisMeets", spec := "jurisMeets", unfollowed := true, recurses := true, apart := false, narrowed := true }
def JurisMeetsUptoSaid : Prop := jurisMeetsUptoRow.holds Try.pinned (OpenSpec.upto jurisMeetsSpec)

/-- 'tollbooklaw15.JurisWithin', WHERE WHAT IT READS IS OF BULK AT MOST 1048576: true; the input reads as it did. -/
def jurisWithinUptoRow : OpenClaim := { program := "ytfmbloagmeodeaa", sum := "90d006a208435f1479e4c6b1242c9824f54f92327b03f87f1926a22efabd0f8c", func := "tollbook/tollbooklaw15.JurisWithin", spec := "jurisWithin", unfollowed := true, recurses := true, apart := false, narrowed := true }
def JurisWithinUptoSaid : Prop := jurisWithinUptoRow.holds Try.pinned (OpenSpec.upto jurisWithinSpec)

end Rows
end Go.Proofs.Ytfmbloagmeodeaa
