/-
  What stands while a statement's parts are carried out in whatever order: three variables that hold numbers.
-/
import Derived.Test.YtckfgolijlggbaaHeld
namespace Go.Proofs.Ytckfgolijlggbaa
open Go.RowKit Go.Shelf
theorem H3.n1 {w : World} {b1 b2 b3 : Nat} {a1 a2 a3 : Option Addr} {l1 l2 l3 c1 c2 c3 : Nat} {z1 z2 z3 : List Int} {W : World} (h : (W.cell? ⟨b1, 0, none⟩ = some (.slice a1 l1 c1) ∧ Hid (HV w b1 a1 l1 c1 z1 W)) ∧ (W.cell? ⟨b2, 0, none⟩ = some (.slice a2 l2 c2) ∧ Hid (HV w b2 a2 l2 c2 z2 W)) ∧ (W.cell? ⟨b3, 0, none⟩ = some (.slice a3 l3 c3) ∧ Hid (HV w b3 a3 l3 c3 z3 W))) : Nt W a1 l1 c1 z1 := HV.nt h.1
theorem H3.n2 {w : World} {b1 b2 b3 : Nat} {a1 a2 a3 : Option Addr} {l1 l2 l3 c1 c2 c3 : Nat} {z1 z2 z3 : List Int} {W : World} (h : (W.cell? ⟨b1, 0, none⟩ = some (.slice a1 l1 c1) ∧ Hid (HV w b1 a1 l1 c1 z1 W)) ∧ (W.cell? ⟨b2, 0, none⟩ = some (.slice a2 l2 c2) ∧ Hid (HV w b2 a2 l2 c2 z2 W)) ∧ (W.cell? ⟨b3, 0, none⟩ = some (.slice a3 l3 c3) ∧ Hid (HV w b3 a3 l3 c3 z3 W))) : Nt W a2 l2 c2 z2 := HV.nt h.2.1
theorem H3.n3 {w : World} {b1 b2 b3 : Nat} {a1 a2 a3 : Option Addr} {l1 l2 l3 c1 c2 c3 : Nat} {z1 z2 z3 : List Int} {W : World} (h : (W.cell? ⟨b1, 0, none⟩ = some (.slice a1 l1 c1) ∧ Hid (HV w b1 a1 l1 c1 z1 W)) ∧ (W.cell? ⟨b2, 0, none⟩ = some (.slice a2 l2 c2) ∧ Hid (HV w b2 a2 l2 c2 z2 W)) ∧ (W.cell? ⟨b3, 0, none⟩ = some (.slice a3 l3 c3) ∧ Hid (HV w b3 a3 l3 c3 z3 W))) : Nt W a3 l3 c3 z3 := HV.nt h.2.2
theorem H3.call {w : World} {b1 b2 b3 : Nat} {a1 a2 a3 : Option Addr} {l1 l2 l3 c1 c2 c3 : Nat} {z1 z2 z3 : List Int} {W W' : World} (hb : Below W.heap.size W W') (h : (W.cell? ⟨b1, 0, none⟩ = some (.slice a1 l1 c1) ∧ Hid (HV w b1 a1 l1 c1 z1 W)) ∧ (W.cell? ⟨b2, 0, none⟩ = some (.slice a2 l2 c2) ∧ Hid (HV w b2 a2 l2 c2 z2 W)) ∧ (W.cell? ⟨b3, 0, none⟩ = some (.slice a3 l3 c3) ∧ Hid (HV w b3 a3 l3 c3 z3 W))) :
    (W'.cell? ⟨b1, 0, none⟩ = some (.slice a1 l1 c1) ∧ Hid (HV w b1 a1 l1 c1 z1 W')) ∧ (W'.cell? ⟨b2, 0, none⟩ = some (.slice a2 l2 c2) ∧ Hid (HV w b2 a2 l2 c2 z2 W')) ∧ (W'.cell? ⟨b3, 0, none⟩ = some (.slice a3 l3 c3) ∧ Hid (HV w b3 a3 l3 c3 z3 W')) :=
  ⟨HV.call hb h.1, HV.call hb h.2.1, HV.call hb h.2.2⟩
end Go.Proofs.Ytckfgolijlggbaa
