/-
  A list without the noughts at its end, with noughts behind it: plain.
-/
import Derived.Test.YtopmbfiepheepaaNums
namespace Go.Proofs.Ytopmbfiepheepaa
theorem getD_used (xs : List Int) (j : Nat) : (xs.take (usedN xs)).getD j 0 = xs.getD j 0 := by
  rcases Nat.lt_or_ge j (usedN xs) with h | h
  · rw [List.getD_eq_getElem?_getD, List.getElem?_take_of_lt h, ← List.getD_eq_getElem?_getD]
  · rw [usedN_beyond xs j h, List.getD_eq_getElem?_getD, List.getElem?_eq_none (by rw [List.length_take]; omega)]; rfl
theorem wide_length (xs : List Int) (n : Nat) (h : usedN xs ≤ n) : (xs.take (usedN xs) ++ List.replicate (n - usedN xs) 0).length = n := by
  have := usedN_le xs
  rw [List.length_append, List.length_take, List.length_replicate]; omega
theorem wide_getD (xs : List Int) (n j : Nat) : (xs.take (usedN xs) ++ List.replicate (n - usedN xs) 0).getD j 0 = xs.getD j 0 := by
  have hu := usedN_le xs
  rw [← getD_used xs, List.getD_eq_getElem?_getD, List.getD_eq_getElem?_getD]
  rcases Nat.lt_or_ge j (xs.take (usedN xs)).length with h | h
  · rw [List.getElem?_append_left h]
  · rw [List.getElem?_append_right h, List.getElem?_eq_none h, List.getElem?_replicate]; split <;> rfl
theorem wide_limbs {xs : List Int} (h : Limbs xs) (n : Nat) : Limbs (xs.take (usedN xs) ++ List.replicate (n - usedN xs) 0) := (h.take _).append (Limbs.zeros _)
theorem getD_take_lt (zs : List Int) (k j : Nat) (h : j < k) : (zs.take k).getD j 0 = zs.getD j 0 := by
  rw [List.getD_eq_getElem?_getD, List.getElem?_take_of_lt h, ← List.getD_eq_getElem?_getD]
theorem num_drop_at (zs : List Int) (t : Nat) (h : t < zs.length) : num (zs.drop t) = zs.getD t 0 + 18446744073709551616 * num (zs.drop (t + 1)) := by
  rw [List.drop_eq_getElem_cons h, num, List.getD_eq_getElem?_getD, List.getElem?_eq_getElem h]; rfl
theorem num_set_drop (zs : List Int) (t : Nat) (v : Int) (h : t < zs.length) : num ((zs.set t v).drop t) = v + 18446744073709551616 * num (zs.drop (t + 1)) := by
  rw [num_drop_at _ _ (by rw [List.length_set]; exact h), List.getD_eq_getElem?_getD, List.getElem?_set_self h, List.drop_set_of_lt (by omega)]; rfl
end Go.Proofs.Ytopmbfiepheepaa
