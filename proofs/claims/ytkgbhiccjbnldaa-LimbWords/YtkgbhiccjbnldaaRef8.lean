/-
  The document's answer for words: Sub: as many times 2^64 are borrowed as are wanted.
-/
import Derived.Test.YtkgbhiccjbnldaaRef7
namespace Go.Proofs.Ytkgbhiccjbnldaa
open Go.RowKit Go.Shelf

set_option maxHeartbeats 1000000 in
theorem rsub_any (a b c : Int) (ha : Word a) (hb : Word b) (hc : Word c) (w : World) :
    Calls Try.prog 17 #[.int .u64 a, .int .u64 b, .int .u64 c] w fun e w' =>
      e = .returned (.tuple #[.int .u64 ((a - b - c) % 18446744073709551616), .int .u64 (-((a - b - c) / 18446744073709551616))]) ∧ Below w.heap.size w w' := by
  have B : Below w.heap.size w w := Below.refl _ _
  obtain ⟨N, hN⟩ : ∃ N : Nat, -((a - b - c) / 18446744073709551616) = (N : Int) := by
    refine Int.eq_ofNat_of_zero_le ?_
    have := ha.2; have := hb.1; have := hc.1
    omega
  have hN2 : N ≤ 2 := by have := ha.1; have := hb.2; have := hc.2; omega
  have HT : Hid (∀ k : Nat, a + 18446744073709551616 * (k : Int) < b + c ↔ k < N) := by
    intro k
    omega
  have HL : Hid ((a + 18446744073709551616 * (N : Int) - (b + c)) % 18446744073709551616 = (a - b - c) % 18446744073709551616) := by show _ = _; omega
  rw [hN]
  clear hN
  go_enter Try.func17, Try.ntmps17
  go_wp2_with fail
  refine (digits1 b hb _).mono ?_
  rintro e w1 ⟨a1, m1, c1, d1, rfl, k1, l1, t1, L1, -, n1, b1⟩
  replace B := step B b1
  clear b1
  go_wp2_with fail
  refine (digits1 c hc _).mono ?_
  rintro e w2 ⟨a2, m2, c2, d2, rfl, k2, l2, t2, L2, -, n2, b2⟩
  replace B := step B b2
  replace t1 := t1.below b2 (Nat.le_refl _)
  clear b2
  have N1 : Hid (H.num d1 = b) := n1
  have N2 : Hid (H.num d2 = c) := n2
  clear n1 n2
  go_wp2_with fail
  refine (sum_any a1 a2 m1 c1 m2 c2 d1 d2 _ t1 t2 L1 L2 (by omega) (by omega)).mono ?_
  rintro e w3 ⟨a3, m3, c3, d3, rfl, k3, l3, t3, L3, -, n3, b3⟩
  replace B := step B b3
  have N3 : Hid (H.num d3 = b + c) := by show _ = _; rw [n3, N1.out, N2.out]
  clear b3 t1 t2 n3
  go_wp2_with fail
  go_loopw [9] (fun nn wr => ∃ k : Nat, nn = .int .u64 k ∧ k ≤ N ∧ Below w.heap.size w wr ∧ Hid (Sl wr a3 m3 d3)) (fun nn _ => N - (intOf nn).toNat)
  case atStart => exact ⟨0, rfl, by omega, B, t3⟩
  case round =>
    obtain ⟨k, rfl, hk, hbl, hs⟩ := hrel
    clear B t3
    have hkw : Word (k : Int) := ⟨by omega, by omega⟩
    have Dg := digits2 a k ha hkw wr
    by_cases hlt : k < N
    · go_wp2_with fail
      refine Dg.mono ?_
      rintro e w4 ⟨a4, m4, c4, d4, rfl, k4, l4, t4, L4, -, n4, b4⟩
      have t5 := hs.out.below b4 (Nat.le_refl _)
      have hb5 := step hbl b4
      have hcmp : cmp3 (H.num d4) (H.num d3) = -1 := cmp3_lt (by rw [n4, N3.out]; exact (HT.out k).2 hlt)
      have O := order_any a4 a3 m4 c4 m3 c3 d4 d3 w4 t4 t5 L4 L3 (by omega) (by omega) k4 k3
      rw [hcmp] at O
      clear hcmp n4 b4 Dg
      go_wp2_with fail
      refine O.mono ?_
      rintro e w6 ⟨rfl, hw⟩
      rw [hw]
      clear hw O
      have T5 : Hid (Sl w4 a3 m3 d3) := t5
      clear t5 t4
      go_wp2_with fail
      go_roundw
      case rel => exact ⟨k + 1, by go_num, by omega, hb5, T5⟩
      case measure => simp [intOf]; omega
    · obtain rfl : k = N := by omega
      go_wp2_with fail
      refine Dg.mono ?_
      rintro e w4 ⟨a4, m4, c4, d4, rfl, k4, l4, t4, L4, -, n4, b4⟩
      have t5 := hs.out.below b4 (Nat.le_refl _)
      have hb5 := step hbl b4
      have hge : ¬ cmp3 (H.num d4) (H.num d3) < 0 := by
        rw [cmp3_neg_iff, n4, N3.out, HT.out k]; omega
      have O := order_any a4 a3 m4 c4 m3 c3 d4 d3 w4 t4 t5 L4 L3 (by omega) (by omega) k4 k3
      obtain ⟨z, hz⟩ : ∃ z, cmp3 (H.num d4) (H.num d3) = z := ⟨_, rfl⟩
      rw [hz] at O hge
      clear hz n4 b4 Dg
      go_wp2_with fail
      refine O.mono ?_
      rintro e w6 ⟨rfl, hw⟩
      rw [hw]
      clear hw O t4
      go_wp2_with fail
      refine (digits2 a k ha hkw w4).mono ?_
      rintro e w7 ⟨a7, m7, c7, d7, rfl, k7, l7, t7, L7, -, n7, b7⟩
      have t8 := t5.below b7 (Nat.le_refl _)
      have hb8 := step hb5 b7
      have N7 : Hid (H.num d7 = a + 18446744073709551616 * (k : Int)) := n7
      clear n7 b7 t5
      go_wp2_with fail
      refine (difference_any a7 a3 m7 c7 m3 c3 d7 d3 _ t7 t8 L7 L3 (by omega) (by rw [N7.out, N3.out]; have := HT.out k; omega)).mono ?_
      rintro e w9 ⟨a9, m9, c9, d9, rfl, k9, l9, t9, L9, -, n9, b9⟩
      have hb10 := step hb8 b9
      have N9 : Hid (H.num d9 = a + 18446744073709551616 * (k : Int) - (b + c)) := by show _ = _; rw [n9, N7.out, N3.out]
      clear n9 b9 t7 t8
      go_wp2_with fail
      refine (low_any a9 m9 c9 d9 _ t9 L9).mono ?_
      rintro e w11 ⟨rfl, hw⟩
      rw [hw, N9.out, HL.out]
      clear hw
      go_wp2_with fail
      go_ret2
      exact ⟨rfl, hb10⟩
end Go.Proofs.Ytkgbhiccjbnldaa
