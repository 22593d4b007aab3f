/-
  The walk of LimbNumbers: each call by its contract.
-/
import Derived.Test.YtkgbhiccjbnldaaUni2
import Derived.Test.YtkgbhiccjbnldaaLess
import Derived.Test.YtkgbhiccjbnldaaOver
namespace Go.Proofs.Ytkgbhiccjbnldaa.limbNumbers
open Go.RowKit Go.Shelf

theorem limbs_of (cs : List Int) (h : cs.all (fun z => decide (0 ≤ z ∧ z < 18446744073709551616)) = true) : Limbs cs := fun z hz => of_decide_eq_true (List.all_eq_true.1 h z hz)
/-- The one list of a power of two. -/
def top (p : Nat) (v : Int) : List Int := List.replicate p 0 ++ [v]
theorem top_limbs (p : Nat) {v : Int} (hv : 0 ≤ v ∧ v < 18446744073709551616) : Limbs (top p v) := (Limbs.zeros p).append (fun z hz => by rw [List.mem_singleton.1 hz]; exact hv)
theorem top_num (p : Nat) (v : Int) : num (top p v) = v * pw p := by
  rw [top, num_append, num_zeros, List.length_replicate]; simp [num]
theorem top_at (p : Nat) (v : Int) : (top p v).getD p 0 = v := by
  rw [top, List.getD_eq_getElem?_getD, List.getElem?_append_right (by simp)]; simp
theorem top_len (p : Nat) (v : Int) : (top p v).length = p + 1 := by simp [top]
theorem top_used (p : Nat) {v : Int} (hv : v ≠ 0) : usedN (top p v) = p + 1 := by
  refine usedN_eq (by rw [top_len]; exact Nat.le_refl _) (fun i h1 h2 => ?_) (.inr ?_)
  · rw [top_len] at h2; omega
  · rw [Nat.add_sub_cancel, top_at]; exact hv
theorem p2_split {n m k : Nat} (h : n = m + k) : (2 : Int) ^ n = 2 ^ m * 2 ^ k := by rw [h, Int.pow_add]

theorem far_list {zs : List Int} {m t : Nat} (hz : Limbs zs) (hl : zs.length = m) (hu : usedN zs = m) (ht : t = 262143) (hn : num zs = 2 ^ t) : m = 4096 ∧ zs.getD 4095 0 = 9223372036854775808 := by
  have hv : (0 : Int) ≤ 9223372036854775808 ∧ (9223372036854775808 : Int) < 18446744073709551616 := by decide
  have e : num zs = num (top 4095 9223372036854775808) := by
    rw [hn, top_num, pw_eq, p2_split (n := t) (m := 63) (k := 64 * 4095) (by omega)]; rfl
  obtain ⟨e1, e2⟩ := one_list hz (top_limbs 4095 hv) hl hu e
  rw [top_used 4095 (by decide)] at e1 e2
  refine ⟨e1, ?_⟩
  rw [e2, List.take_of_length_le (by rw [top_len]; exact Nat.le_refl _), top_at]

theorem nil_sl (w : World) : Sl w none 0 [] := ⟨rfl, Limbs.nil, fun h => absurd h (by decide)⟩

set_option maxHeartbeats 2000000 in
theorem walk (w : World) : Calls Try.prog 3 #[] w fun e w' => e = .returned (.bool true) ∧ Below w.heap.size w w' := by
  have B : Below w.heap.size w w := Below.refl _ _
  have L1 : Limbs [1] := limbs_of _ (by decide)
  have L00 : Limbs [0] := limbs_of _ (by decide)
  have b1 : Hid (bitsN [1] = 1) := by show bitsN [1] = 1; decide +kernel
  have u1 : Hid (usedN [1] = 1) := by show usedN [1] = 1; decide
  have u0 : Hid (usedN [0] = 0) := by show usedN [0] = 0; decide
  obtain ⟨t, ht⟩ : ∃ t : Nat, t = 262143 := ⟨_, rfl⟩
  have HT : Hid (t = 262143) := ht
  clear ht
  go_enter Try.func3, Try.ntmps3
  go_wp2_with fail
  have LV := left_ok (some ⟨w.heap.size, 0, none⟩) 1 1 [1] t _ (sl_new w [1] L1) (by omega) (by omega) (by rw [u1.out]; omega) (by rw [b1.out, HT.out]; decide)
  rw [show ((t : Nat) : Int) = 262143 by rw [HT.out]; rfl] at LV
  refine LV.mono ?_
  rintro e w1 ⟨g1, m1, k1, zs1, rfl, -, hm1, t1, hu, hn, hb1⟩
  clear LV
  obtain ⟨e1, e2⟩ := far_list t1.2.1 t1.1 hu HT.out (by rw [hn]; simp [num])
  subst e1
  have E2 : Hid (zs1.getD 4095 0 = 9223372036854775808) := e2
  replace B := step B (step ((Below.refl w.heap.size w).alloc (Nat.le_refl _) (.cells (row [1]).toArray 26)) hb1)
  clear e2 hn hu hb1
  go_wp2_with fail
  refine (left_long (some ⟨w1.heap.size, 0, none⟩) 1 1 [1] 262144 _ (sl_new w1 [1] L1) (by omega) (by omega) (by rw [u1.out]; omega) (by rw [b1.out]; decide)).mono ?_
  rintro e w2 ⟨rfl, rfl⟩
  have hb2 : Below w1.heap.size w1 (w1.alloc (.cells (row [1]).toArray 26)) := (Below.refl w1.heap.size w1).alloc (Nat.le_refl _) _
  replace B := step B hb2
  replace t1 := t1.below hb2 (Nat.le_refl _)
  clear hb2
  go_wp2_with fail
  refine (right_neg none 0 0 (-1) _ (by decide)).mono ?_
  rintro e w3 ⟨rfl, hw3⟩
  rw [hw3]
  clear hw3
  go_wp2_with fail
  refine (over_nought none 0 0 _).mono ?_
  rintro e w4 ⟨rfl, hw4⟩
  rw [hw4]
  clear hw4
  go_wp2_with fail
  refine (div_over 1 0 1 (by decide) (by decide) _).mono ?_
  rintro e w5 ⟨rfl, hw5⟩
  rw [hw5]
  clear hw5
  go_wp2_with fail
  obtain ⟨w6, hw6⟩ : ∃ W, W = w1.alloc (.cells (row [1]).toArray 26) := ⟨_, rfl⟩
  have hsz : w6.heap.size = w1.heap.size + 1 := by rw [hw6]; simp
  rw [← hw6] at B t1
  have t2 := sl_new w6 [1] L1
  have hb6 : Below w6.heap.size w6 (w6.alloc (.cells (row [1]).toArray 26)) := (Below.refl _ _).alloc (Nat.le_refl _) _
  have t3 := t1.below hb6 (Nat.le_refl _)
  have B6 := step B hb6
  rw [← hw6, ← hsz]
  refine (less_below none (some ⟨w6.heap.size, 0, none⟩) 0 0 1 1 [] [1] _ (nil_sl _) t2 (by omega) (by omega) (by decide)).mono ?_
  rintro e w7 ⟨rfl, n7, hw7⟩
  have hb7 : Below (w6.alloc (.cells (row [1]).toArray 26)).heap.size (w6.alloc (.cells (row [1]).toArray 26)) w7 := by rw [hw7]; exact below_drewN (Below.refl _ _) n7
  replace t3 := t3.below hb7 (Nat.le_refl _)
  replace B6 := step B6 hb7
  clear hw7 hb7 t2 hb6 t1 B hsz hw6
  go_wp2_with fail
  have t8 := sl_new w7 [0] L00
  have hb8 : Below w7.heap.size w7 (w7.alloc (.cells (row [0]).toArray 26)) := (Below.refl _ _).alloc (Nat.le_refl _) _
  replace t3 := t3.below hb8 (Nat.le_refl _)
  replace B6 := step B6 hb8
  refine (left_none (some ⟨w7.heap.size, 0, none⟩) 1 1 [0] 4611686018427387904 _ t8 (by omega) (by omega) u0.out).mono ?_
  rintro e w9 ⟨rfl, rfl⟩
  obtain ⟨b9, o9, e9, hc9⟩ := t3.2.2 (by omega)
  cases e9
  have hcx := hc9 4095 (by omega)
  rw [E2.out, Nat.zero_add] at hcx
  clear hc9 t3 t8 hb8
  go_wp2_with fail
  go_ret
  exact ⟨rfl, B6⟩
end Go.Proofs.Ytkgbhiccjbnldaa.limbNumbers
