/-
  Pieces of texts, and texts put together.
-/
import Derived.Test.YtblafbbnplfpjaaGreatDoorBsA
import Derived.Lib.Strings
namespace Go.Proofs.YtblafbbnplfpjaaGreatDoor
open Go.RowKit Go.Shelf
set_option linter.unusedVariables false

theorem cat (a b : List UInt8) : (⟨a.toArray⟩ ++ ⟨b.toArray⟩ : ByteArray) = ⟨(a ++ b).toArray⟩ := by
  apply ByteArray.ext
  simp
theorem bsize (l : List UInt8) : (ByteArray.mk l.toArray).size = l.length := by rw [Go.Lib.size_eq]
theorem slice_hi (l : List UInt8) (h : Int) (n : Nat) (e : h = n) (hn : n ≤ l.length) (W : World) : (Instr.sliceAt 9 (.string ⟨l.toArray⟩) none (some (.int .i64 h)) none).run Tryz.prog W = .ok (.string ⟨(l.take n).toArray⟩) W := by
  subst e
  have hb := bsize l
  have h1 : (n : Int) ≤ ((ByteArray.mk l.toArray).size : Int) := by omega
  rw [run_sliceAt_string _ _ _ _ _ _ Tryz.underlying9]
  simp [Instr.slice, run_underlying Tryz.underlying9, Instr.sliceBounds, run_sliceBound, h1, Go.Lib.extract_eq]
theorem slice_lo (l : List UInt8) (h : Int) (n : Nat) (e : h = n) (hn : n ≤ l.length) (W : World) : (Instr.sliceAt 9 (.string ⟨l.toArray⟩) (some (.int .i64 h)) none none).run Tryz.prog W = .ok (.string ⟨(l.drop n).toArray⟩) W := by
  subst e
  have hb := bsize l
  have h1 : (n : Int) ≤ ((ByteArray.mk l.toArray).size : Int) := by omega
  rw [run_sliceAt_string _ _ _ _ _ _ Tryz.underlying9]
  simp [Instr.slice, run_underlying Tryz.underlying9, Instr.sliceBounds, run_sliceBound, h1, Go.Lib.extract_eq]
  rw [hb, List.take_of_length_le (by simp)]
end Go.Proofs.YtblafbbnplfpjaaGreatDoor
