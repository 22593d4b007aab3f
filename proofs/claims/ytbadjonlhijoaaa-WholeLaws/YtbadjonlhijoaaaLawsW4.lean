/-
  The walk of WholeLaws, of its three arguments.
-/
import Derived.Test.YtbadjonlhijoaaaLawsB
namespace Go.Proofs.Ytbadjonlhijoaaa
open Go.RowKit Go.Shelf
theorem laws4_walk (s0 : Bool) (a0 : Option Addr) (len0 cap0 : Nat) (z0 : List Int) (s1 : Bool) (a1 : Option Addr) (len1 cap1 : Nat) (z1 : List Int) (s2 : Bool) (a2 : Option Addr) (len2 cap2 : Nat) (z2 : List Int) (w : World) (h0 : Sl w a0 len0 z0) (c0 : len0 ≤ cap0) (e0 : a0 = none → len0 = 0 ∧ cap0 = 0) (h1 : Sl w a1 len1 z1) (c1 : len1 ≤ cap1) (e1 : a1 = none → len1 = 0 ∧ cap1 = 0) (h2 : Sl w a2 len2 z2) (c2 : len2 ≤ cap2) (e2 : a2 = none → len2 = 0 ∧ cap2 = 0) :
    Calls Try.prog 4 #[.agg #[.bool s0, .slice a0 len0 cap0], .agg #[.bool s1, .slice a1 len1 cap1], .agg #[.bool s2, .slice a2 len2 cap2]] w fun e w' => e = .returned (.bool true) ∧ Below w.heap.size w w' := by
  refine laws_t ⟨fun i => match i with | 0 => s0 | 1 => s1 | _ => s2, fun i => match i with | 0 => a0 | 1 => a1 | _ => a2, fun i => match i with | 0 => len0 | 1 => len1 | _ => len2, fun i => match i with | 0 => cap0 | 1 => cap1 | _ => cap2, fun i => match i with | 0 => z0 | 1 => z1 | _ => z2⟩ w ?_
  intro i
  match i with
  | 0 => exact ⟨h0, c0, e0⟩
  | 1 => exact ⟨h1, c1, e1⟩
  | _ + 2 => exact ⟨h2, c2, e2⟩
end Go.Proofs.Ytbadjonlhijoaaa
