/-
  The document's Neg, Add, Sub, Floor, Ceil, Frac of layer 5.
-/
import Derived.Test.YtjlodljgfjjclaaGreatBtD
import Derived.Test.YtjlodljgfjjclaaGreatBtC
namespace Go.Proofs.YtjlodljgfjjclaaGreat
open Go.RowKit Go.Shelf
set_option linter.unusedVariables false

/-- What is answered where a ratio of the document's is. -/
def RrP (w : World) (X : Rat) (e : Ending) (w' : World) : Prop := ∃ s' a' l' c' zs' b' m' d' ys', e = .returned (.agg #[.bool s', .slice a' l' c', .slice b' m' d']) ∧ Rr w' s' a' l' c' zs' b' m' d' ys' X ∧ Below w.heap.size w w'
theorem Rr.len {w : World} {s : Bool} {a : Option Addr} {l c : Nat} {zs : List Int} {b : Option Addr} {m d : Nat} {ys : List Int} {v : Rat} (h : Rr w s a l c zs b m d ys v) (hs : Short v) : l ≤ 1024 ∧ m ≤ 1024 := by
  have := h.long.2 hs
  omega
theorem qfl_neg0 {v : Rat} {q d : Int} (hn : v.num = -(q * d)) (hd : d = v.den) : qfl v = -q := by
  have := v.den_pos
  exact (qfl_of (v := v) (q := -q) (r := 0) (by rw [hn, hd]; rw [Int.neg_mul]; omega) (by omega) (by omega)).1.symm
theorem qfl_neg1 {v : Rat} {q d r : Int} (hn : v.num = -(q * d + r)) (hd : d = v.den) (h0 : 0 < r) (h1 : r < d) : qfl v = -(q + 1) := by
  exact (qfl_of (v := v) (q := -(q + 1)) (r := d - r) (by rw [hn, ← hd, Int.neg_mul, Int.add_mul]; omega) (by omega) (by omega)).1.symm
end Go.Proofs.YtjlodljgfjjclaaGreat
