/-
  The walk of WholeOrder.
-/
import Derived.Test.YtopmbfiepheepaaOrdL
import Derived.Test.YtopmbfiepheepaaOrdE
import Derived.Test.YtopmbfiepheepaaOrdG
namespace Go.Proofs.Ytopmbfiepheepaa
open Go.RowKit Go.Shelf
theorem order4_walk (s0 : Bool) (a0 : Option Addr) (len0 cap0 : Nat) (z0 : List Int) (s1 : Bool) (a1 : Option Addr) (len1 cap1 : Nat) (z1 : List Int) (w : World) (h0 : Sl w a0 len0 z0) (c0 : len0 ≤ cap0) (e0 : a0 = none → len0 = 0 ∧ cap0 = 0) (h1 : Sl w a1 len1 z1) (c1 : len1 ≤ cap1) (e1 : a1 = none → len1 = 0 ∧ cap1 = 0) :
    Calls Try.prog 6 #[.agg #[.bool s0, .slice a0 len0 cap0], .agg #[.bool s1, .slice a1 len1 cap1]] w fun e w' => e = .returned (.bool true) ∧ Below w.heap.size w w' := by
  rcases Int.lt_trichotomy (iv s0 (z0.take 4096)) (iv s1 (z1.take 4096)) with h | h | h
  · exact order_L s0 a0 len0 cap0 z0 s1 a1 len1 cap1 z1 w h0 c0 e0 h1 c1 e1 h
  · exact order_E s0 a0 len0 cap0 z0 s1 a1 len1 cap1 z1 w h0 c0 e0 h1 c1 e1 h
  · exact order_G s0 a0 len0 cap0 z0 s1 a1 len1 cap1 z1 w h0 c0 e0 h1 c1 e1 h
end Go.Proofs.Ytopmbfiepheepaa
