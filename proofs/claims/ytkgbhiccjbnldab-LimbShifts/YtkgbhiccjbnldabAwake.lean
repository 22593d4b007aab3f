/-
  The answers that are fixed.
-/
import Derived.Test.YtkgbhiccjbnldabUni2
namespace Go.Proofs.Ytkgbhiccjbnldab
open Go.RowKit Go.Shelf

theorem limbs_of (cs : List Int) (h : cs.all (fun z => decide (0 ≤ z ∧ z < 18446744073709551616)) = true) : Limbs cs := fun z hz => of_decide_eq_true (List.all_eq_true.1 h z hz)

set_option maxHeartbeats 1000000 in
theorem awake_any (w : World) : Calls Try.prog 18 #[] w fun e w' => e = .returned (.bool true) ∧ Below w.heap.size w w' := by
  have A := add_any 9223372036854775808 9223372036854775808 5 ⟨by decide, by decide⟩ ⟨by decide, by decide⟩ ⟨by decide, by decide⟩ w
  rw [show ((9223372036854775808 + 9223372036854775808 + 5 : Int) % 18446744073709551616) = 5 from by decide, show ((9223372036854775808 + 9223372036854775808 + 5 : Int) / 18446744073709551616) = 1 from by decide] at A
  have B : Below w.heap.size w w := Below.refl _ _
  have b3 : bitsN [3] = 2 := by decide +kernel
  have b03 : bitsN [0, 3] = 66 := by decide +kernel
  have c09 : cmp3 (num [0, 3]) (num [9]) = 1 := by decide +kernel
  have HB3 : Hid (bitsN [3] = 2) := b3
  have HB03 : Hid (bitsN [0, 3] = 66) := b03
  have HC : Hid (cmp3 (num [0, 3]) (num [9]) = 1) := c09
  clear b3 b03 c09
  go_enter Try.func18, Try.ntmps18
  go_wp2_with fail
  refine A.mono ?_
  rintro e w1 ⟨rfl, rfl⟩
  clear A
  go_wp2_with fail
  have s1 := sl_new w1 [3] (limbs_of _ (by decide))
  have L := left_val (some ⟨w1.heap.size, 0, none⟩) 1 1 [3] 64 _ s1 (by omega) (by omega) (.inr (by rw [HB3.out]; decide))
  refine L.mono ?_
  rintro e w2 ⟨a2, m2, c2, zs2, rfl, r1, r2, t2, hu, hn, hb2⟩
  replace B := step B (step ((Below.refl _ _).alloc (Nat.le_refl _) _) hb2)
  have L03 : Limbs [0, 3] := limbs_of _ (by decide)
  obtain ⟨e1, e2⟩ := one_list (xs := [0, 3]) t2.2.1 L03 t2.1 hu (by rw [hn]; decide +kernel)
  have e3 : usedN [0, 3] = 2 := by decide
  rw [e3] at e1 e2
  have e4 : List.take 2 [(0 : Int), 3] = [0, 3] := rfl
  rw [e4] at e2
  subst e1 e2
  clear L s1 hb2 hu hn e3 e4
  go_wp2_with fail
  have s3 := sl_new w2 [0, 3] L03
  have hb3 : Below w2.heap.size w2 (w2.alloc (.cells (row [0, 3]).toArray 22)) := (Below.refl _ _).alloc (Nat.le_refl _) _
  replace t2 := t2.below hb3 (Nat.le_refl _)
  replace B := step B hb3
  refine (same_b a2 (some ⟨w2.heap.size, 0, none⟩) 2 c2 2 [0, 3] _ t2 s3 (by omega)).mono ?_
  rintro e w3 ⟨rfl, hb4⟩
  replace t2 := t2.below hb4 (Nat.le_refl _)
  replace B := step B hb4
  clear s3 hb3 hb4
  go_wp2_with fail
  refine (bits_any a2 2 c2 [0, 3] _ t2 (by omega)).mono ?_
  rintro e w4 ⟨rfl, rfl⟩
  rw [HB03.out]
  go_wp2_with fail
  have s5 := sl_new w4 [9] (limbs_of _ (by decide))
  have hb5 : Below w4.heap.size w4 (w4.alloc (.cells (row [9]).toArray 22)) := (Below.refl _ _).alloc (Nat.le_refl _) _
  replace t2 := t2.below hb5 (Nat.le_refl _)
  replace B := step B hb5
  refine (compare_b a2 (some ⟨w4.heap.size, 0, none⟩) 2 c2 1 1 [0, 3] [9] _ t2 s5 (by omega) (by omega)).mono ?_
  rintro e w6 ⟨rfl, hb6⟩
  rw [HC.out]
  replace B := step B hb6
  go_wp2_with fail
  go_ret
  exact ⟨rfl, B⟩
end Go.Proofs.Ytkgbhiccjbnldab
