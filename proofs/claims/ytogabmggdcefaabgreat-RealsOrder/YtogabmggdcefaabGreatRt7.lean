/-
  The document's Make, Small, Int of layer 5.
-/
import Derived.Test.YtogabmggdcefaabGreatBsL
import Derived.Test.YtogabmggdcefaabGreatRt3
namespace Go.Proofs.YtogabmggdcefaabGreat
open Go.RowKit Go.Shelf
set_option linter.unusedVariables false

/-- A normal ratio of the document's: its lists can be read and are trimmed. -/
def Rr (w : World) (s : Bool) (a : Option Addr) (l c : Nat) (zs : List Int) (b : Option Addr) (m d : Nat) (ys : List Int) (v : Rat) : Prop :=
  Sl w a l zs ∧ Sl w b m ys ∧ usedN zs = l ∧ usedN ys = m ∧ (l ≤ c ∧ m ≤ d) ∧ iv s zs = v.num ∧ num ys = v.den ∧ (s = true → num zs ≠ 0)
theorem Rr.after {w w' : World} (hb : Below w.heap.size w w') {s : Bool} {a : Option Addr} {l c : Nat} {zs : List Int} {b : Option Addr} {m d : Nat} {ys : List Int} {v : Rat} (h : Rr w s a l c zs b m d ys v) : Rr w' s a l c zs b m d ys v := ⟨h.1.below hb (Nat.le_refl _), h.2.1.below hb (Nat.le_refl _), h.2.2⟩
theorem Rr.drw {w : World} {s : Bool} {a : Option Addr} {l c : Nat} {zs : List Int} {b : Option Addr} {m d : Nat} {ys : List Int} {v : Rat} (h : Rr w s a l c zs b m d ys v) : Rr w.drew s a l c zs b m d ys v := h
theorem Rr.far {w : World} {s : Bool} {a : Option Addr} {l c : Nat} {zs : List Int} {b : Option Addr} {m d : Nat} {ys : List Int} {v : Rat} (h : Rr w s a l c zs b m d ys v) {b' : Nat} {t : TypeId} {cs : Array Value} (V : Va w b' t cs) (hn : NoInt cs) {w' : World} (k : ∀ c, c ≠ b' → w'.heap[c]? = w.heap[c]?) : Rr w' s a l c zs b m d ys v := ⟨h.1.far V hn k, h.2.1.far V hn k, h.2.2⟩
end Go.Proofs.YtogabmggdcefaabGreat
