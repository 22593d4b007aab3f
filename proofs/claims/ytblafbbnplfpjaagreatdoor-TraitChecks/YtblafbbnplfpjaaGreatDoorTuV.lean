/-
  Variables in memory, lists of tokens that grow in memory of the call's own.
-/
import Derived.Test.YtblafbbnplfpjaaGreatDoorTcP
import Derived.Test.YtblafbbnplfpjaaGreatDoorBsM
import Derived.Test.YtblafbbnplfpjaaGreatDoorStrP
import Derived.Test.YtblafbbnplfpjaaGreatDoorShelf
import Derived.Test.YtblafbbnplfpjaaGreatDoorProg
import Derived.WalkKit
import Derived.WalkSpells
import Derived.Below
import Derived.BigQuiet
import Derived.BigRegion
import Derived.Deep.QuietTactic
import Derived.Deep.DeepCutAuto
import Derived.Deep.CutBlock
import Derived.Deep.OwnRows
import Derived.Deep.RegionLaw
import Derived.Deep.RegionHeld3
import Derived.Deep.AppendLies
import Derived.Laws.OwnMore
import Derived.Laws.MakeOwn
import Derived.Maps.AppendAt
import Derived.Maps.OwnIn
import Derived.WalkSmall
import Derived.Shelf.Abstract
import Derived.Lib.Strings
import Derived.Lib.SmallJoins
namespace Go.Proofs.YtblafbbnplfpjaaGreatDoor
open Go.RowKit Go.Shelf
set_option linter.unusedVariables false

theorem Va.set0 {w : World} {b : Nat} {t : TypeId} {x y : Value} (h : Va w b t #[x, y]) (x' : Value) : Va (w.setCell ⟨b, 0, none⟩ x') b t #[x', y] := by
  unfold Va at *
  simp only [World.setCell]
  rw [Array.getElem?_modify, if_pos rfl, h]
  simp
theorem cell_lt {w : World} {b i : Nat} {v : Value} (h : w.cell? ⟨b, i, none⟩ = some v) : b < w.heap.size := by
  rcases Nat.lt_or_ge b w.heap.size with h' | h'
  · exact h'
  · simp [World.cell?, Array.getElem?_eq_none h'] at h
/-- A text. -/
abbrev sv (l : List UInt8) : Value := .string ⟨l.toArray⟩
theorem catS (a b : List UInt8) : (⟨a.toArray⟩ ++ ⟨b.toArray⟩ : ByteArray) = ⟨(a ++ b).toArray⟩ := by
  apply ByteArray.ext
  simp
theorem slice_mid (l : List UInt8) (g h : Int) (a n : Nat) (e1 : g = a) (e : h = n) (ha : a ≤ n) (hn : n ≤ l.length) (W : World) : (Instr.sliceAt 9 (.string ⟨l.toArray⟩) (some (.int .i64 g)) (some (.int .i64 h)) none).run Tryz.prog W = .ok (.string ⟨((l.drop a).take (n - a)).toArray⟩) W := by
  subst e e1
  have hb := bsize l
  have h1 : (n : Int) ≤ ((ByteArray.mk l.toArray).size : Int) := by omega
  have h2 : (a : Int) ≤ (n : Int) := by omega
  rw [run_sliceAt_string _ _ _ _ _ _ Tryz.underlying9]
  simp [Instr.slice, run_underlying Tryz.underlying9, Instr.sliceBounds, run_sliceBound, h1, h2, Go.Lib.extract_eq]
end Go.Proofs.YtblafbbnplfpjaaGreatDoor
