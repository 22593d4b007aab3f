/-
  Small of a word that is not 0; a list in a block that stays.
-/
import Derived.Test.YtpfbcicjfnfpgaaGrowN
namespace Go.Proofs.Ytpfbcicjfnfpgaa
open Go.RowKit Go.Shelf
set_option linter.unusedVariables false

theorem Nt.al' {w : World} {a : Option Addr} {l c : Nat} {zs : List Int} (h : Nt w a l c zs) (o : Obj) : Nt (w.alloc o) a l c zs := Nt.after ((Below.refl _ _).alloc (Nat.le_refl _) o) h
theorem small_pos (x : Int) (hx : Word x) (h0 : x ≠ 0) (w : World) :
    Calls Try.prog 23 #[.int .u64 x] w fun e w' => e = .returned (.agg #[.slice (some ⟨w.heap.size + 1, 0, none⟩) 1 1]) ∧ Nt w' (some ⟨w.heap.size + 1, 0, none⟩) 1 1 [x] ∧ Below w.heap.size w w' := by
  have g1 : (x == 0) = false := by simpa using h0
  go_enter Try.func23, Try.ntmps23
  go_wp2_with fail
  refine bodyPost_ret (results_c rfl rfl ((Va.new w _ _).old _)) rfl ?_
  have s := sl_one (w.alloc (Obj.cells #[Value.slice (some { block := w.heap.size + 1, off := 0 }) 1 1] 25)) x hx
  simp only [World.alloc, Array.size_push] at s
  refine ⟨rfl, ⟨s, ?_, Nat.le_refl _, by omega⟩, ((Below.refl _ _).alloc (Nat.le_refl _) _).alloc (by simp) _⟩
  simp [usedN, h0]
/-- A list in a block that stays is the same list. -/
theorem Nt.at {w w' : World} {g l c : Nat} {zs : List Int} (h : Nt w (some ⟨g, 0, none⟩) l c zs) (k : w'.heap[g]? = w.heap[g]?) : Nt w' (some ⟨g, 0, none⟩) l c zs := by
  obtain ⟨⟨h1, h2, h3⟩, h4⟩ := h
  refine ⟨⟨h1, h2, fun h0 => ?_⟩, h4⟩
  obtain ⟨bb, off, e, hc⟩ := h3 h0
  cases e
  exact ⟨_, _, rfl, fun i hi => (World.cell?_of_block (w := w) k).trans (hc i hi)⟩
end Go.Proofs.Ytpfbcicjfnfpgaa
