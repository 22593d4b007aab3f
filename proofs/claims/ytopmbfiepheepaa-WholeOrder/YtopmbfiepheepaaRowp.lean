/-
  Rows of limbs and the numbers they say, when some of their places change: plain arithmetic.
-/
import Derived.Test.YtopmbfiepheepaaOrder
import Derived.Test.YtopmbfiepheepaaWide
namespace Go.Proofs.Ytopmbfiepheepaa

theorem num_take_congr {a b : List Int} : ∀ (k : Nat), (∀ j, j < k → a.getD j 0 = b.getD j 0) → num (a.take k) = num (b.take k)
  | 0, _ => by simp
  | k + 1, h => by rw [num_take_succ, num_take_succ, h k (by omega), num_take_congr k (fun j hj => h j (by omega))]
theorem num_set {cs : List Int} {i : Nat} (v : Int) (h : i < cs.length) : num (cs.set i v) = num cs + (v - cs.getD i 0) * pw i := by
  have e := num_above' (a := cs.set i v) (b := cs) (t := i + 1) (fun j hj => getD_set_other _ _ _ _ (by omega))
  rw [num_set_take _ _ _ h, num_take_succ] at e
  grind
theorem getD_set_self (zs : List Int) (i : Nat) (v : Int) (h : i < zs.length) : (zs.set i v).getD i 0 = v := by
  rw [List.getD_eq_getElem?_getD, List.getElem?_set_self h]; rfl
theorem getD_drop (zs : List Int) (k j : Nat) : (zs.drop k).getD j 0 = zs.getD (k + j) 0 := by
  rw [List.getD_eq_getElem?_getD, List.getElem?_drop, ← List.getD_eq_getElem?_getD]
theorem getD_seg (zs : List Int) (k n j : Nat) (h : j < n) : ((zs.drop k).take n).getD j 0 = zs.getD (k + j) 0 := by
  rw [getD_take_lt _ _ _ h, getD_drop]
theorem num_drop_congr {a b : List Int} (k : Nat) (h : ∀ j, k ≤ j → a.getD j 0 = b.getD j 0) : num (a.drop k) = num (b.drop k) :=
  num_eq_of fun j => by rw [getD_drop, getD_drop]; exact h _ (by omega)
theorem seg_length (cs : List Int) (off n : Nat) (h : off + n ≤ cs.length) : ((cs.drop off).take n).length = n := by
  rw [List.length_take, List.length_drop]; omega
/-- A row is what lies below a piece, the piece, and what lies beyond. -/
theorem num_parts (cs : List Int) (off n : Nat) (h : off + n ≤ cs.length) : num cs = num (cs.take off) + num ((cs.drop off).take n) * pw off + num (cs.drop (off + n)) * pw (off + n) := by
  have h1 := num_take_drop cs off (by omega)
  have h2 := num_take_drop (cs.drop off) n (by rw [List.length_drop]; omega)
  rw [List.drop_drop] at h2
  rw [h1, h2, pw_add]
  grind
/-- Where a piece alone has changed, by how much the row has. -/
theorem num_piece {cs ds : List Int} {off n : Nat} (hl : cs.length = ds.length) (h : off + n ≤ cs.length) (hout : ∀ j, j < off ∨ off + n ≤ j → cs.getD j 0 = ds.getD j 0) :
    num cs - num ds = (num ((cs.drop off).take n) - num ((ds.drop off).take n)) * pw off := by
  have h1 := num_parts cs off n h
  have h2 := num_parts ds off n (by omega)
  rw [num_take_congr off (fun j hj => hout j (.inl hj)), num_drop_congr (off + n) (fun j hj => hout j (.inr hj))] at h1
  grind
theorem mul_cancel {a b p : Int} (hp : 0 < p) (h : a * p = b * p) : a = b := Int.eq_of_mul_eq_mul_right (by omega) h
theorem lt_cancel {a b p : Int} (hp : 0 < p) (h : a * p < b * p) : a < b := Int.lt_of_mul_lt_mul_right h (by omega)
theorem le_cancel {a b p : Int} (hp : 0 < p) (h : a * p ≤ b * p) : a ≤ b := Int.le_of_mul_le_mul_right h hp
theorem mul_le {a b p : Int} (hp : 0 ≤ p) (h : a ≤ b) : a * p ≤ b * p := Int.mul_le_mul_of_nonneg_right h hp
theorem num_top (cs : List Int) (n : Nat) (h : cs.length = n + 1) : num cs = num (cs.take n) + cs.getD n 0 * pw n := by
  have := num_take_succ cs n
  rw [List.take_of_length_le (by omega)] at this; exact this
theorem num_take_lt {cs : List Int} (h : Limbs cs) (n : Nat) : num (cs.take n) < pw n := by
  refine Int.lt_of_lt_of_le (num_lt (h.take n)) (pw_mono ?_)
  rw [List.length_take]; omega
theorem num_take_nonneg {cs : List Int} (h : Limbs cs) (n : Nat) : 0 ≤ num (cs.take n) := num_nonneg (h.take n)
end Go.Proofs.Ytopmbfiepheepaa
