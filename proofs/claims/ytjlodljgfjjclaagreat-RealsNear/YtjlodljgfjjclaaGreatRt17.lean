/-
  The document's Neg, Add, Sub, Floor, Ceil, Frac of layer 5.
-/
import Derived.Test.YtjlodljgfjjclaaGreatBtD
import Derived.Test.YtjlodljgfjjclaaGreatBtC
namespace Go.Proofs.YtjlodljgfjjclaaGreat
open Go.RowKit Go.Shelf
set_option linter.unusedVariables false

theorem sz_sum2 {P Q x y : Int} (w : 2 * P ≤ Q) (h1 : x < P) (h2 : y < P) : x + y < Q := by omega
/-- What is answered where a ratio of the document's is. -/
def RrP (w : World) (X : Rat) (e : Ending) (w' : World) : Prop := ∃ s' a' l' c' zs' b' m' d' ys', e = .returned (.agg #[.bool s', .slice a' l' c', .slice b' m' d']) ∧ Rr w' s' a' l' c' zs' b' m' d' ys' X ∧ Below w.heap.size w w'
theorem Rr.len {w : World} {s : Bool} {a : Option Addr} {l c : Nat} {zs : List Int} {b : Option Addr} {m d : Nat} {ys : List Int} {v : Rat} (h : Rr w s a l c zs b m d ys v) (hs : Short v) : l ≤ 1024 ∧ m ≤ 1024 := by
  have := h.long.2 hs
  omega
theorem add_val {v1 v2 : Rat} {N D : Int} (hN : N = v1.num * v2.den + v2.num * v1.den) (hD : D = v1.den * v2.den) : Rat.divInt N D = v1 + v2 := by
  rw [Rat.add_def', ← Rat.divInt_ofNat, hN, hD, Int.natCast_mul]
theorem qfl_neg0 {v : Rat} {q d : Int} (hn : v.num = -(q * d)) (hd : d = v.den) : qfl v = -q := by
  have := v.den_pos
  exact (qfl_of (v := v) (q := -q) (r := 0) (by rw [hn, hd]; rw [Int.neg_mul]; omega) (by omega) (by omega)).1.symm
theorem qfl_neg1 {v : Rat} {q d r : Int} (hn : v.num = -(q * d + r)) (hd : d = v.den) (h0 : 0 < r) (h1 : r < d) : qfl v = -(q + 1) := by
  exact (qfl_of (v := v) (q := -(q + 1)) (r := d - r) (by rw [hn, ← hd, Int.neg_mul, Int.add_mul]; omega) (by omega) (by omega)).1.symm
theorem rneg5 (s : Bool) (a : Option Addr) (l c : Nat) (zs : List Int) (b : Option Addr) (m d : Nat) (ys : List Int) (v : Rat) (w : World) (h : Rr w s a l c zs b m d ys v) :
    Calls Tryz.prog 67 #[.agg #[.bool s, .slice a l c, .slice b m d]] w fun e w' => RrP w (-v) e w' := by
  have hz := num_eq_zero h.1.2.1
  rw [h.2.2.1] at hz
  cases s
  · by_cases l0 : l = 0
    · subst l0
      go_enter Tryz.func67, Tryz.ntmps67
      go_wp2_with fail
      refine bodyPost_ret (results_ra rfl rfl (by have := Va.new (w.alloc (Obj.cells #[Value.bool false, Value.slice a 0 c, Value.slice b m d] 38)) 38 #[Value.bool false, Value.slice a 0 c, Value.slice b m d]; simp only [World.alloc, Array.size_push] at this ⊢; exact this)) rfl ?_
      have B0 : Below w.heap.size w _ := ((Below.refl w.heap.size w).alloc (Nat.le_refl _) (.cells #[.bool false, .slice a 0 c, .slice b m d] 38)).alloc (by simp) (.cells #[.bool false, .slice a 0 c, .slice b m d] 38)
      have h' := Rr.after B0 h
      refine ⟨false, a, 0, c, zs, b, m, d, ys, rfl, ⟨h'.1, h'.2.1, h'.2.2.1, h'.2.2.2.1, h'.2.2.2.2.1, ?_, by rw [Rat.neg_den]; exact h'.2.2.2.2.2.2.1, ?_⟩, B0⟩
      · rw [Rat.neg_num, ← h'.2.2.2.2.2.1]; rw [iv_f, hz.2 (by first | rfl | trivial)]; rfl
      · intro e; cases e
    · have l1 : 0 < l := Nat.pos_of_ne_zero l0
      go_enter Tryz.func67, Tryz.ntmps67
      go_wp2_with fail
      refine bodyPost_ret (results_ra rfl rfl (by have := Va.new (w.alloc (Obj.cells #[Value.bool false, Value.slice a l c, Value.slice b m d] 38)) 38 #[Value.bool true, Value.slice a l c, Value.slice b m d]; simp only [World.alloc, Array.size_push] at this ⊢; exact this)) rfl ?_
      have B0 : Below w.heap.size w _ := ((Below.refl w.heap.size w).alloc (Nat.le_refl _) (.cells #[.bool false, .slice a l c, .slice b m d] 38)).alloc (by simp) (.cells #[.bool true, .slice a l c, .slice b m d] 38)
      have h' := Rr.after B0 h
      refine ⟨true, a, l, c, zs, b, m, d, ys, rfl, ⟨h'.1, h'.2.1, h'.2.2.1, h'.2.2.2.1, h'.2.2.2.2.1, ?_, by rw [Rat.neg_den]; exact h'.2.2.2.2.2.2.1, ?_⟩, B0⟩
      · rw [Rat.neg_num, ← h'.2.2.2.2.2.1]; rw [iv_f, iv_t]
      · intro _ e; exact l0 (hz.1 e)
  ·
    go_enter Tryz.func67, Tryz.ntmps67
    go_wp2_with fail
    refine bodyPost_ret (results_ra rfl rfl (by have := Va.new (w.alloc (Obj.cells #[Value.bool true, Value.slice a l c, Value.slice b m d] 38)) 38 #[Value.bool false, Value.slice a l c, Value.slice b m d]; simp only [World.alloc, Array.size_push] at this ⊢; exact this)) rfl ?_
    have B0 : Below w.heap.size w _ := ((Below.refl w.heap.size w).alloc (Nat.le_refl _) (.cells #[.bool true, .slice a l c, .slice b m d] 38)).alloc (by simp) (.cells #[.bool false, .slice a l c, .slice b m d] 38)
    have h' := Rr.after B0 h
    refine ⟨false, a, l, c, zs, b, m, d, ys, rfl, ⟨h'.1, h'.2.1, h'.2.2.1, h'.2.2.2.1, h'.2.2.2.2.1, ?_, by rw [Rat.neg_den]; exact h'.2.2.2.2.2.2.1, ?_⟩, B0⟩
    · rw [Rat.neg_num, ← h'.2.2.2.2.2.1]; rw [iv_f, iv_t]; omega
    · intro e; cases e

end Go.Proofs.YtjlodljgfjjclaaGreat
