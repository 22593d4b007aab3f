/-
  Put together of: NRef7, NRef8, NRef9, NRef10, NRef11, NRef12.
-/
import Derived.Test.YtogabmggdcefaabGreatBsJ
import Derived.Test.YtogabmggdcefaabGreatBsF
import Derived.Test.YtogabmggdcefaabGreatBsE
namespace Go.Proofs.YtogabmggdcefaabGreat
open Go.RowKit Go.Shelf

end Go.Proofs.YtogabmggdcefaabGreat

namespace Go.Proofs.YtogabmggdcefaabGreat
open Go.RowKit Go.Shelf

/-- Block g alone of the old ones may have turned. -/
structure Near (g : Nat) (w w' : World) : Prop where
  bel : Below g w w'
  oth : ∀ k, k < w.heap.size → k ≠ g → w'.heap[k]? = w.heap[k]?
theorem Near.refl (g : Nat) (w : World) : Near g w w := ⟨Below.refl _ _, fun _ _ _ => rfl⟩
theorem Near.trans {g : Nat} {a b c : World} (h : Near g a b) (k : Near g b c) : Near g a c :=
  ⟨h.bel.trans k.bel, fun i hi hg => (k.oth i (Nat.lt_of_lt_of_le hi h.bel.size) hg).trans (h.oth i hi hg)⟩
theorem Near.of {g : Nat} {w w' : World} (b : Below w.heap.size w w') (hg : g ≤ w.heap.size) : Near g w w' := ⟨b.mono hg, fun k hk _ => b.block k hk⟩
theorem Near.set {g : Nat} {a w : World} (h : Near g a w) (i : Nat) (v : Value) : Near g a (w.setCell ⟨g, i, none⟩ v) :=
  ⟨h.bel.setCell (p := ⟨g, i, none⟩) (Nat.le_refl _) v, fun k hk hg => (Below.heap_setCell _ _ _ _ hg).trans (h.oth k hk hg)⟩
theorem Near.drewN {g : Nat} {a w : World} (h : Near g a w) (n : Nat) : Near g a (w.drewN n) := ⟨below_drewN h.bel n, h.oth⟩
theorem Own.near {g b : Nat} {w w' : World} {cs : List Int} (h : Own w b cs) (o : Near g w w') (hne : b ≠ g) : Own w' b cs := by
  have hlt : b < w.heap.size := by
    unfold Own at h
    rcases Nat.lt_or_ge b w.heap.size with h' | h'
    · exact h'
    · rw [Array.getElem?_eq_none h'] at h; cases h
  unfold Own at *
  rw [o.oth b hlt hne]; exact h
theorem Sx.near {g : Nat} {w w' : World} {a : Option Addr} {len : Nat} {zs : List Int} (h : Sx g w a len zs) (o : Near g w w') : Sx g w' a len zs := by
  have hlt := fun h0 p hp => h.1.lt h0 (p := p) hp
  obtain ⟨⟨h1, h2, h3⟩, h4⟩ := h
  refine ⟨⟨h1, h2, fun h0 => ?_⟩, h4⟩
  obtain ⟨b, off, rfl, hc⟩ := h3 h0
  refine ⟨b, off, rfl, fun i hi => ?_⟩
  rw [← hc i hi]
  exact World.cell?_of_block (w := w) (o.oth b (hlt h0 _ rfl) (h4 h0 _ rfl))

namespace H
end H
end Go.Proofs.YtogabmggdcefaabGreat

namespace Go.Proofs.YtogabmggdcefaabGreat
open Go.RowKit Go.Shelf

theorem Own.far {w : World} {g b : Nat} {cs : List Int} (h : Own w b cs) (hne : b ≠ g) (i : Nat) (v : Value) : Own (w.setCell ⟨g, i, none⟩ v) b cs := by
  unfold Own at *
  rw [Below.heap_setCell _ _ _ _ hne]; exact h

end Go.Proofs.YtogabmggdcefaabGreat

namespace Go.Proofs.YtogabmggdcefaabGreat
open Go.RowKit Go.Shelf

end Go.Proofs.YtogabmggdcefaabGreat

namespace Go.Proofs.YtogabmggdcefaabGreat
open Go.RowKit Go.Shelf
set_option linter.unusedVariables false

theorem Own.sx {w : World} {b g n : Nat} {cs : List Int} (h : Own w b cs) (hL : H.Limbs cs) (hl : cs.length = n) (hne : b ≠ g) : Sx g w (some ⟨b, 0, none⟩) n cs :=
  ⟨by rw [← hl]; exact h.sl hL.up, fun _ p hp => by cases hp; exact hne⟩

end Go.Proofs.YtogabmggdcefaabGreat

namespace Go.Proofs.YtogabmggdcefaabGreat
open Go.RowKit Go.Shelf
set_option linter.unusedVariables false

end Go.Proofs.YtogabmggdcefaabGreat
