/-
  The document's answers for words: Add, Sub, Mul.
-/
import Derived.Test.YtkgbhiccjbnldaaRef5
import Derived.Test.YtkgbhiccjbnldaaUni
namespace Go.Proofs.Ytkgbhiccjbnldaa
open Go.RowKit Go.Shelf

theorem sl_news (w : World) (cs : List Int) (hL : Limbs cs) : Sl (w.alloc (.cells (row cs).toArray 26)) (some ⟨w.heap.size, 0, none⟩) cs.length cs := Own.sl (heap_alloc_new w _) hL
theorem limbs1 {a : Int} (ha : Word a) : Limbs [a] := fun z hz => by rw [List.mem_singleton.1 hz]; exact ha
theorem limbs2 {a b : Int} (ha : Word a) (hb : Word b) : Limbs [a, b] := fun z hz => by
  simp only [List.mem_cons, List.not_mem_nil, or_false] at hz
  rcases hz with rfl | rfl
  · exact ha
  · exact hb
theorem num1 (a : Int) : num [a] = a := by simp [num]
theorem num2 (a b : Int) : num [a, b] = a + 18446744073709551616 * b := by simp [num]

/-- Digits of one word: that word. -/
theorem digits1 (x : Int) (hx : Word x) (w : World) :
    Calls Try.prog 47 #[.slice (some ⟨w.heap.size, 0, none⟩) 1 1] (w.alloc (.cells #[.int .u64 x] 26)) fun e w' => DRes w w' e x 2 := by
  refine (digits_any (some ⟨w.heap.size, 0, none⟩) 1 1 [x] _ (sl_news w [x] (limbs1 hx)) (by omega)).mono ?_
  rintro e w' ⟨a, m, c, ds, rfl, r1, r2, r3, r4, r5, r6, r7⟩
  exact ⟨a, m, c, ds, rfl, r1, r2, r3, r4, r5, by rw [r6, num1], step ((Below.refl _ _).alloc (Nat.le_refl _) _) r7⟩
theorem digits2 (x y : Int) (hx : Word x) (hy : Word y) (w : World) :
    Calls Try.prog 47 #[.slice (some ⟨w.heap.size, 0, none⟩) 2 2] (w.alloc (.cells #[.int .u64 x, .int .u64 y] 26)) fun e w' => DRes w w' e (x + 18446744073709551616 * y) 4 := by
  refine (digits_any (some ⟨w.heap.size, 0, none⟩) 2 2 [x, y] _ (sl_news w [x, y] (limbs2 hx hy)) (by omega)).mono ?_
  rintro e w' ⟨a, m, c, ds, rfl, r1, r2, r3, r4, r5, r6, r7⟩
  exact ⟨a, m, c, ds, rfl, r1, r2, r3, r4, r5, by rw [r6, num2], step ((Below.refl _ _).alloc (Nat.le_refl _) _) r7⟩

set_option maxHeartbeats 1000000 in
theorem radd_any (a b c : Int) (ha : Word a) (hb : Word b) (hc : Word c) (w : World) :
    Calls Try.prog 15 #[.int .u64 a, .int .u64 b, .int .u64 c] w fun e w' =>
      e = .returned (.tuple #[.int .u64 ((a + b + c) % 18446744073709551616), .int .u64 ((a + b + c) / 18446744073709551616)]) ∧ Below w.heap.size w w' := by
  have B : Below w.heap.size w w := Below.refl _ _
  have bd : Hid (0 ≤ a + b + c ∧ a + b + c < 55340232221128654848) := by
    have := ha.1; have := ha.2; have := hb.1; have := hb.2; have := hc.1; have := hc.2
    exact ⟨by omega, by omega⟩
  go_enter Try.func15, Try.ntmps15
  go_wp2_with fail
  refine (digits1 a ha _).mono ?_
  rintro e w1 ⟨a1, m1, c1, d1, rfl, k1, l1, t1, L1, -, n1, b1⟩
  replace B := step B b1
  clear b1
  go_wp2_with fail
  refine (digits1 b hb _).mono ?_
  rintro e w2 ⟨a2, m2, c2, d2, rfl, k2, l2, t2, L2, -, n2, b2⟩
  replace B := step B b2
  replace t1 := t1.below b2 (Nat.le_refl _)
  clear b2
  have N1 : Hid (H.num d1 = a) := n1
  have N2 : Hid (H.num d2 = b) := n2
  clear n1 n2
  go_wp2_with fail
  refine (sum_any a1 a2 m1 c1 m2 c2 d1 d2 _ t1 t2 L1 L2 (by omega) (by omega)).mono ?_
  rintro e w3 ⟨a3, m3, c3, d3, rfl, k3, l3, t3, L3, -, n3, b3⟩
  replace B := step B b3
  have N3 : Hid (H.num d3 = a + b) := by show _ = _; rw [n3, N1.out, N2.out]
  clear b3 t1 t2 n3
  go_wp2_with fail
  refine (digits1 c hc _).mono ?_
  rintro e w4 ⟨a4, m4, c4, d4, rfl, k4, l4, t4, L4, -, n4, b4⟩
  replace B := step B b4
  replace t3 := t3.below b4 (Nat.le_refl _)
  have N4 : Hid (H.num d4 = c) := n4
  clear b4 n4
  go_wp2_with fail
  refine (sum_any a3 a4 m3 c3 m4 c4 d3 d4 _ t3 t4 L3 L4 (by omega) (by omega)).mono ?_
  rintro e w5 ⟨a5, m5, c5, d5, rfl, k5, l5, t5, L5, -, n5, b5⟩
  replace B := step B b5
  have N5 : Hid (H.num d5 = a + b + c) := by show _ = _; rw [n5, N3.out, N4.out]
  clear b5 t3 t4 n5
  go_wp2_with fail
  refine (low_any a5 m5 c5 d5 _ t5 L5).mono ?_
  rintro e w6 ⟨rfl, hw⟩
  rw [hw, N5.out]
  clear hw
  go_wp2_with fail
  refine (high_any a5 m5 c5 d5 _ t5 L5).mono ?_
  rintro e w6 ⟨rfl, hw⟩
  rw [hw, N5.out, show (a + b + c) / 18446744073709551616 % 18446744073709551616 = (a + b + c) / 18446744073709551616 by have := bd.out; omega]
  clear hw
  go_wp2_with fail
  go_ret2
  exact ⟨rfl, B⟩

set_option maxHeartbeats 1000000 in
theorem rmul_any (a b : Int) (ha : Word a) (hb : Word b) (w : World) :
    Calls Try.prog 19 #[.int .u64 a, .int .u64 b] w fun e w' =>
      e = .returned (.tuple #[.int .u64 (a * b / 18446744073709551616), .int .u64 (a * b % 18446744073709551616)]) ∧ Below w.heap.size w w' := by
  have B : Below w.heap.size w w := Below.refl _ _
  have bd : Hid (0 ≤ a * b / 18446744073709551616 ∧ a * b / 18446744073709551616 < 18446744073709551616) := by
    have h1 : 0 ≤ a * b := Int.mul_nonneg ha.1 hb.1
    have h2 : a * b ≤ 18446744073709551615 * b := Int.mul_le_mul_of_nonneg_right (by have := ha.2; omega) hb.1
    have := hb.2
    generalize a * b = p at *
    exact ⟨by omega, by omega⟩
  go_enter Try.func19, Try.ntmps19
  go_wp2_with fail
  refine (digits1 a ha _).mono ?_
  rintro e w1 ⟨a1, m1, c1, d1, rfl, k1, l1, t1, L1, -, n1, b1⟩
  replace B := step B b1
  clear b1
  go_wp2_with fail
  refine (digits1 b hb _).mono ?_
  rintro e w2 ⟨a2, m2, c2, d2, rfl, k2, l2, t2, L2, -, n2, b2⟩
  replace B := step B b2
  replace t1 := t1.below b2 (Nat.le_refl _)
  clear b2
  have N1 : Hid (H.num d1 = a) := n1
  have N2 : Hid (H.num d2 = b) := n2
  clear n1 n2
  go_wp2_with fail
  refine (product_any a1 a2 m1 c1 m2 c2 d1 d2 _ t1 t2 L1 L2 (by omega) (by omega)).mono ?_
  rintro e w5 ⟨a5, m5, c5, d5, rfl, k5, l5, t5, L5, -, n5, b5⟩
  replace B := step B b5
  have N5 : Hid (H.num d5 = a * b) := by show _ = _; rw [n5, N1.out, N2.out]
  clear b5 t1 t2 n5
  go_wp2_with fail
  refine (high_any a5 m5 c5 d5 _ t5 L5).mono ?_
  rintro e w6 ⟨rfl, hw⟩
  rw [hw, N5.out, show a * b / 18446744073709551616 % 18446744073709551616 = a * b / 18446744073709551616 from Int.emod_eq_of_lt bd.out.1 bd.out.2]
  clear hw
  go_wp2_with fail
  refine (low_any a5 m5 c5 d5 _ t5 L5).mono ?_
  rintro e w6 ⟨rfl, hw⟩
  rw [hw, N5.out]
  clear hw
  go_wp2_with fail
  go_ret2
  exact ⟨rfl, B⟩
end Go.Proofs.Ytkgbhiccjbnldaa
