/-
  Calls that write into one row of their caller's: nothing else turns.
-/
import Derived.Test.YtopmbfiepheepaaVals
namespace Go.Proofs.Ytopmbfiepheepaa
open Go.RowKit Go.Shelf

/-- Block g alone may have turned. -/
structure Only (g : Nat) (w w' : World) : Prop where
  bel : Below g w w'
  oth : ∀ k, k ≠ g → w'.heap[k]? = w.heap[k]?
theorem Only.refl (g : Nat) (w : World) : Only g w w := ⟨Below.refl _ _, fun _ _ => rfl⟩
theorem Only.trans {g : Nat} {a b c : World} (h : Only g a b) (k : Only g b c) : Only g a c := ⟨h.bel.trans k.bel, fun i hi => (k.oth i hi).trans (h.oth i hi)⟩
theorem Only.drew {g : Nat} {a w : World} (h : Only g a w) : Only g a w.drew := ⟨h.bel.drew, h.oth⟩
theorem Only.drewN {g : Nat} {a w : World} (h : Only g a w) (n : Nat) : Only g a (w.drewN n) := ⟨below_drewN h.bel n, h.oth⟩
theorem Only.set {g : Nat} {a w : World} (h : Only g a w) (i : Nat) (v : Value) : Only g a (w.setCell ⟨g, i, none⟩ v) :=
  ⟨h.bel.setCell (p := ⟨g, i, none⟩) (Nat.le_refl _) v, fun k hk => (Below.heap_setCell _ _ _ _ hk).trans (h.oth k hk)⟩
theorem Only.below {g B : Nat} {a w : World} (h : Only g a w) (hB : B ≤ g) : Below B a w := h.bel.mono hB
theorem Va.only {g : Nat} {w w' : World} {b : Nat} {t : TypeId} {cs : Array Value} (h : Va w b t cs) (o : Only g w w') (hne : b ≠ g) : Va w' b t cs := by
  unfold Va at *; rw [o.oth b hne]; exact h

/-- A list that does not lie in block g. -/
def Sx (g : Nat) (w : World) (a : Option Addr) (len : Nat) (zs : List Int) : Prop := Sl w a len zs ∧ (0 < len → ∀ p, a = some p → p.block ≠ g)
theorem Sx.only {g : Nat} {w w' : World} {a : Option Addr} {len : Nat} {zs : List Int} (h : Sx g w a len zs) (o : Only g w w') : Sx g w' a len zs := by
  obtain ⟨⟨h1, h2, h3⟩, h4⟩ := h
  refine ⟨⟨h1, h2, fun h0 => ?_⟩, h4⟩
  obtain ⟨b, off, rfl, hc⟩ := h3 h0
  refine ⟨b, off, rfl, fun i hi => ?_⟩
  rw [← hc i hi]
  exact World.cell?_of_block (w := w) (o.oth b (h4 h0 _ rfl))
theorem Sl.lt {w : World} {a : Option Addr} {len : Nat} {zs : List Int} (h : Sl w a len zs) (h0 : 0 < len) {p : Addr} (hp : a = some p) : p.block < w.heap.size := by
  obtain ⟨b, off, rfl, hc⟩ := h.2.2 h0
  cases hp
  have hh := hc 0 h0
  rcases Nat.lt_or_ge b w.heap.size with h' | h'
  · exact h'
  · simp [World.cell?, Array.getElem?_eq_none h'] at hh
theorem Sl.apart {w w' : World} {a : Option Addr} {len : Nat} {zs : List Int} {g : Nat} (h : Sl w a len zs) (b : Below w.heap.size w w') (hg : w.heap.size ≤ g) : Sx g w' a len zs :=
  ⟨h.below b (Nat.le_refl _), fun h0 p hp => by have := h.lt h0 hp; omega⟩
theorem Own.only {g b : Nat} {w w' : World} {cs : List Int} (h : Own w b cs) (o : Only g w w') (hne : b ≠ g) : Own w' b cs := by
  unfold Own at *; rw [o.oth b hne]; exact h
theorem Own.piece {w : World} {g : Nat} {cs : List Int} (h : Own w g cs) (hL : Limbs cs) {off n : Nat} (hf : off + n ≤ cs.length) : Sl w (some ⟨g, off, none⟩) n ((cs.drop off).take n) :=
  ⟨seg_length cs off n hf, (hL.drop off).take n, fun _ => ⟨g, off, rfl, fun i hi => by rw [getD_seg _ _ _ _ hi]; exact h.cell (off + i) (by omega)⟩⟩
end Go.Proofs.Ytopmbfiepheepaa
