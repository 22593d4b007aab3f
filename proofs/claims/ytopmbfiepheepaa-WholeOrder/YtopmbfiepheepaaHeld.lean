/-
  What stands while a statement's parts are carried out in whatever order: a variable that holds a number.
-/
import Derived.Test.YtopmbfiepheepaaLaw3
import Derived.Deep.RegionHeld3
namespace Go.Proofs.Ytopmbfiepheepaa
open Go.RowKit Go.Shelf

/-- A variable with its number; nothing old has turned. -/
def HV (w : World) (b : Nat) (a : Option Addr) (l c : Nat) (zs : List Int) (W : World) : Prop := Va W b 25 #[.slice a l c] ∧ Nt W a l c zs ∧ Below w.heap.size w W
theorem Nt.al {w : World} {a : Option Addr} {l c : Nat} {zs : List Int} (h : Nt w a l c zs) (o : Obj) : Nt (w.alloc o) a l c zs := Nt.after ((Below.refl _ _).alloc (Nat.le_refl _) o) h
theorem Nt.st {w : World} {a : Option Addr} {l c : Nat} {zs : List Int} (h : Nt w a l c zs) {b : Nat} {t : TypeId} {x : Option Addr} {y z : Nat} (V : Va w b t #[.slice x y z]) (v : Value) : Nt (w.setCell ⟨b, 0, none⟩ v) a l c zs := h.store V v
theorem HV.alloc {w : World} {b : Nat} {a : Option Addr} {l c : Nat} {zs : List Int} {W : World} (h : W.cell? ⟨b, 0, none⟩ = some (.slice a l c) ∧ Hid (HV w b a l c zs W)) (o : Obj) : (W.alloc o).cell? ⟨b, 0, none⟩ = some (.slice a l c) ∧ Hid (HV w b a l c zs (W.alloc o)) := by
  obtain ⟨-, h1, h2, h3⟩ := h
  exact ⟨(h1.old o).cell, h1.old o, h2.al o, h3.alloc h3.size o⟩
theorem HV.call {w : World} {b : Nat} {a : Option Addr} {l c : Nat} {zs : List Int} {W W' : World} (hb : Below W.heap.size W W') (h : W.cell? ⟨b, 0, none⟩ = some (.slice a l c) ∧ Hid (HV w b a l c zs W)) : W'.cell? ⟨b, 0, none⟩ = some (.slice a l c) ∧ Hid (HV w b a l c zs W') := by
  obtain ⟨-, h1, h2, h3⟩ := h
  exact ⟨(Va.after hb h1).cell, Va.after hb h1, Nt.after hb h2, step h3 hb⟩
theorem HV.drew {w : World} {b : Nat} {a : Option Addr} {l c : Nat} {zs : List Int} {W : World} (h1 : Va W b 25 #[.slice a l c]) (h2 : Nt W a l c zs) (h3 : Below w.heap.size w W) : W.drew.cell? ⟨b, 0, none⟩ = some (.slice a l c) ∧ Hid (HV w b a l c zs W.drew) :=
  ⟨h1.cell, h1, h2, h3.drew⟩
theorem HV.nt {w : World} {b : Nat} {a : Option Addr} {l c : Nat} {zs : List Int} {W : World} (h : W.cell? ⟨b, 0, none⟩ = some (.slice a l c) ∧ Hid (HV w b a l c zs W)) : Nt W a l c zs := h.2.2.1
/-- A variable that is only read. -/
def Rd (w : World) (b : Nat) (v : Value) : Prop := w.cell? ⟨b, 0, none⟩ = some v
theorem Rd.lt {w : World} {b : Nat} {v : Value} (h : Rd w b v) : b < w.heap.size := by
  unfold Rd at h
  rcases Nat.lt_or_ge b w.heap.size with h' | h'
  · exact h'
  · simp [World.cell?, Array.getElem?_eq_none h'] at h
theorem Rd.after {w w' : World} (hb : Below w.heap.size w w') {b : Nat} {v : Value} (h : Rd w b v) : Rd w' b v := by
  have hl := h.lt
  unfold Rd at *
  rw [hb.cell (p := ⟨b, 0, none⟩) hl]; exact h
theorem Va.rd {w : World} {b : Nat} {t : TypeId} {v : Value} (h : Va w b t #[v]) : Rd w b v := h.cell
theorem cell_stc (w : World) (b c o : Nat) (v : Value) (h : ¬ (c = b ∧ o = 0)) : (w.setCell ⟨b, 0, none⟩ v).cell? ⟨c, o, none⟩ = w.cell? ⟨c, o, none⟩ := by
  by_cases hc : c = b
  · subst hc
    have ho : o ≠ 0 := fun e => h ⟨rfl, e⟩
    simp only [World.setCell, World.cell?, Array.getElem?_modify]
    cases hh : w.heap[c]? with
    | none => simp
    | some x =>
      cases x <;> simp
      rw [Array.getElem?_setIfInBounds]
      simp [ho.symm]
  · exact World.cell?_of_block (w := w) (Below.heap_setCell _ _ _ _ hc)
theorem Nt.stc {w : World} {a : Option Addr} {l c : Nat} {zs : List Int} (h : Nt w a l c zs) {b : Nat} {x : Option Addr} {y z : Nat} (V : w.cell? ⟨b, 0, none⟩ = some (.slice x y z)) (v : Value) : Nt (w.setCell ⟨b, 0, none⟩ v) a l c zs := by
  obtain ⟨⟨h1, h2, h3⟩, h4⟩ := h
  refine ⟨⟨h1, h2, fun h0 => ?_⟩, h4⟩
  obtain ⟨bb, off, rfl, hc⟩ := h3 h0
  refine ⟨bb, off, rfl, fun i hi => ?_⟩
  rw [cell_stc _ _ _ _ _ ?_]
  · exact hc i hi
  · rintro ⟨rfl, e⟩
    have := hc i hi
    rw [e, V] at this
    cases this
theorem HV.stc {w : World} {b : Nat} {a : Option Addr} {l c : Nat} {zs : List Int} {W : World} {d : Nat} (h : W.cell? ⟨b, 0, none⟩ = some (.slice a l c) ∧ Hid (HV w b a l c zs W)) (hd : ∃ x y z, W.cell? ⟨d, 0, none⟩ = some (.slice x y z)) (h1 : b ≠ d) (h2 : w.heap.size ≤ d) (v : Value) :
    (W.setCell ⟨d, 0, none⟩ v).cell? ⟨b, 0, none⟩ = some (.slice a l c) ∧ Hid (HV w b a l c zs (W.setCell ⟨d, 0, none⟩ v)) := by
  obtain ⟨-, g1, g2, g3⟩ := h
  obtain ⟨x, y, z, hd⟩ := hd
  exact ⟨(g1.other (p := ⟨d, 0, none⟩) h1 v).cell, g1.other (p := ⟨d, 0, none⟩) h1 v, g2.stc hd v, g3.setCell (p := ⟨d, 0, none⟩) h2 v⟩
theorem HV.dr {w : World} {b : Nat} {a : Option Addr} {l c : Nat} {zs : List Int} {W : World} (h : W.cell? ⟨b, 0, none⟩ = some (.slice a l c) ∧ Hid (HV w b a l c zs W)) : W.drew.cell? ⟨b, 0, none⟩ = some (.slice a l c) ∧ Hid (HV w b a l c zs W.drew) :=
  ⟨h.1, h.2.1, h.2.2.1, h.2.2.2.drew⟩
theorem HV.mk' {w : World} {b : Nat} {a : Option Addr} {l c : Nat} {zs : List Int} {W : World} (h1 : Va W b 25 #[.slice a l c]) (h2 : Nt W a l c zs) (h3 : Below w.heap.size w W) : W.cell? ⟨b, 0, none⟩ = some (.slice a l c) ∧ Hid (HV w b a l c zs W) := ⟨h1.cell, h1, h2, h3⟩
end Go.Proofs.Ytopmbfiepheepaa
