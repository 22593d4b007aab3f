/-
  The walk of LimbWords: each call by its contract.
-/
import Derived.Test.YtkgbhiccjbnldaaRef8
import Derived.Test.YtkgbhiccjbnldaaRef6
import Derived.Test.YtkgbhiccjbnldaaDiv
namespace Go.Proofs.Ytkgbhiccjbnldaa.limbWords
open Go.RowKit Go.Shelf

set_option maxHeartbeats 2000000 in
theorem walk (a b c : Int) (w : World) (ha : Word a) (hb : Word b) (hc : Word c) :
    Calls Try.prog 4 #[.int .u64 a, .int .u64 b, .int .u64 c] w fun e w' => e = .returned (.bool true) ∧ Below w.heap.size w w' := by
  have B : Below w.heap.size w w := Below.refl _ _
  have A1 := fun W => add_any a b c ha hb hc W
  have A2 := fun W => radd_any a b c ha hb hc W
  have S1 := fun W => sub_any a b c ha hb hc W
  have S2 := fun W => rsub_any a b c ha hb hc W
  have M1 := fun W => mul_any a b ha hb W
  have M2 := fun W => rmul_any a b ha hb W
  obtain ⟨s, hs⟩ : ∃ z, (a + b + c) % 18446744073709551616 = z := ⟨_, rfl⟩
  obtain ⟨n, hn⟩ : ∃ z, (a + b + c) / 18446744073709551616 = z := ⟨_, rfl⟩
  obtain ⟨d, hd⟩ : ∃ z, (a - b - c) % 18446744073709551616 = z := ⟨_, rfl⟩
  obtain ⟨m, hm⟩ : ∃ z, -((a - b - c) / 18446744073709551616) = z := ⟨_, rfl⟩
  obtain ⟨h, hh⟩ : ∃ z, a * b / 18446744073709551616 = z := ⟨_, rfl⟩
  obtain ⟨l, hl⟩ : ∃ z, a * b % 18446744073709551616 = z := ⟨_, rfl⟩
  simp only [hs, hn] at A1 A2
  simp only [hd, hm] at S1 S2
  simp only [hh, hl] at M1 M2
  have g1 : (s == s) = true := by simp
  have g2 : (n == n) = true := by simp
  have g3 : (d == d) = true := by simp
  have g4 : (m == m) = true := by simp
  have g5 : (h == h) = true := by simp
  have g6 : (l == l) = true := by simp
  have HA1 : Hid (∀ W, Calls Try.prog 14 #[.int .u64 a, .int .u64 b, .int .u64 c] W fun e w' => e = .returned (.tuple #[.int .u64 s, .int .u64 n]) ∧ w' = W) := A1
  have HA2 : Hid (∀ W : World, Calls Try.prog 15 #[.int .u64 a, .int .u64 b, .int .u64 c] W fun e w' => e = .returned (.tuple #[.int .u64 s, .int .u64 n]) ∧ Below W.heap.size W w') := A2
  have HS1 : Hid (∀ W, Calls Try.prog 16 #[.int .u64 a, .int .u64 b, .int .u64 c] W fun e w' => e = .returned (.tuple #[.int .u64 d, .int .u64 m]) ∧ w' = W) := S1
  have HS2 : Hid (∀ W : World, Calls Try.prog 17 #[.int .u64 a, .int .u64 b, .int .u64 c] W fun e w' => e = .returned (.tuple #[.int .u64 d, .int .u64 m]) ∧ Below W.heap.size W w') := S2
  have HM1 : Hid (∀ W, Calls Try.prog 18 #[.int .u64 a, .int .u64 b] W fun e w' => e = .returned (.tuple #[.int .u64 h, .int .u64 l]) ∧ w' = W) := M1
  have HM2 : Hid (∀ W : World, Calls Try.prog 19 #[.int .u64 a, .int .u64 b] W fun e w' => e = .returned (.tuple #[.int .u64 h, .int .u64 l]) ∧ Below W.heap.size W w') := M2
  clear A1 A2 S1 S2 M1 M2 hs hn hd hm hh hl
  by_cases h0 : c = 0
  · subst h0
    go_enter Try.func4, Try.ntmps4
    go_wp2_with fail
    refine (HA1.out _).mono ?_
    rintro e w1 ⟨rfl, hw⟩
    rw [hw]
    clear hw
    go_wp2_with fail
    refine (HA2.out _).mono ?_
    rintro e w2 ⟨rfl, b2⟩
    replace B := step B b2
    clear b2
    go_wp2_with fail
    refine (HS1.out _).mono ?_
    rintro e w3 ⟨rfl, hw⟩
    rw [hw]
    clear hw
    go_wp2_with fail
    refine (HS2.out _).mono ?_
    rintro e w4 ⟨rfl, b4⟩
    replace B := step B b4
    clear b4
    go_wp2_with fail
    refine (HM1.out _).mono ?_
    rintro e w5 ⟨rfl, hw⟩
    rw [hw]
    clear hw
    go_wp2_with fail
    refine (HM2.out _).mono ?_
    rintro e w6 ⟨rfl, b6⟩
    replace B := step B b6
    clear b6
    go_wp2_with fail
    refine (div_nought a b _).mono ?_
    rintro e w7 ⟨rfl, hw⟩
    rw [hw]
    clear hw
    go_wp2_with fail
    refine (rdiv_nought a b _).mono ?_
    rintro e w8 ⟨rfl, hw⟩
    rw [hw]
    clear hw
    go_wp2_with fail
    go_ret
    exact ⟨rfl, B⟩
  · have hcp : 0 < c := by have := hc.1; omega
    by_cases h1 : c ≤ a
    · clear h0
      go_enter Try.func4, Try.ntmps4
      go_wp2_with fail
      refine (HA1.out _).mono ?_
      rintro e w1 ⟨rfl, hw⟩
      rw [hw]
      clear hw
      go_wp2_with fail
      refine (HA2.out _).mono ?_
      rintro e w2 ⟨rfl, b2⟩
      replace B := step B b2
      clear b2
      go_wp2_with fail
      refine (HS1.out _).mono ?_
      rintro e w3 ⟨rfl, hw⟩
      rw [hw]
      clear hw
      go_wp2_with fail
      refine (HS2.out _).mono ?_
      rintro e w4 ⟨rfl, b4⟩
      replace B := step B b4
      clear b4
      go_wp2_with fail
      refine (HM1.out _).mono ?_
      rintro e w5 ⟨rfl, hw⟩
      rw [hw]
      clear hw
      go_wp2_with fail
      refine (HM2.out _).mono ?_
      rintro e w6 ⟨rfl, b6⟩
      replace B := step B b6
      clear b6
      go_wp2_with fail
      refine (div_over a b c hcp h1 _).mono ?_
      rintro e w7 ⟨rfl, hw⟩
      rw [hw]
      clear hw
      go_wp2_with fail
      refine (rdiv_over a b c hcp h1 _).mono ?_
      rintro e w8 ⟨rfl, hw⟩
      rw [hw]
      clear hw
      go_wp2_with fail
      go_ret
      exact ⟨rfl, B⟩
    · have D1 := fun W => div_ok a b c ha hb hc (by omega) W
      have D2 := fun W => rdiv_ok a b c ha hb hc (by omega) W
      obtain ⟨q, hq⟩ : ∃ z, (a * 18446744073709551616 + b) / c = z := ⟨_, rfl⟩
      obtain ⟨r, hr⟩ : ∃ z, (a * 18446744073709551616 + b) % c = z := ⟨_, rfl⟩
      simp only [hq, hr] at D1 D2
      have g7 : (q == q) = true := by simp
      have g8 : (r == r) = true := by simp
      have HD1 : Hid (∀ W : World, Calls Try.prog 12 #[.int .u64 a, .int .u64 b, .int .u64 c] W fun e w' => e = .returned (.tuple #[.int .u64 q, .int .u64 r, .int .i64 0]) ∧ ∃ n, w' = W.drewN n) := D1
      have HD2 : Hid (∀ W, Calls Try.prog 20 #[.int .u64 a, .int .u64 b, .int .u64 c] W fun e w' => e = .returned (.tuple #[.int .u64 q, .int .u64 r, .int .i64 0]) ∧ w' = W) := D2
      clear h0 h1 D1 D2 hq hr
      go_enter Try.func4, Try.ntmps4
      go_wp2_with fail
      refine (HA1.out _).mono ?_
      rintro e w1 ⟨rfl, hw⟩
      rw [hw]
      clear hw
      go_wp2_with fail
      refine (HA2.out _).mono ?_
      rintro e w2 ⟨rfl, b2⟩
      replace B := step B b2
      clear b2
      go_wp2_with fail
      refine (HS1.out _).mono ?_
      rintro e w3 ⟨rfl, hw⟩
      rw [hw]
      clear hw
      go_wp2_with fail
      refine (HS2.out _).mono ?_
      rintro e w4 ⟨rfl, b4⟩
      replace B := step B b4
      clear b4
      go_wp2_with fail
      refine (HM1.out _).mono ?_
      rintro e w5 ⟨rfl, hw⟩
      rw [hw]
      clear hw
      go_wp2_with fail
      refine (HM2.out _).mono ?_
      rintro e w6 ⟨rfl, b6⟩
      replace B := step B b6
      clear b6
      go_wp2_with fail
      refine (HD1.out _).mono ?_
      rintro e w7 ⟨rfl, nq, hw⟩
      rw [hw]
      clear hw
      go_wp2_with fail
      refine (HD2.out _).mono ?_
      rintro e w8 ⟨rfl, hw⟩
      rw [hw]
      clear hw
      go_wp2_with fail
      go_ret
      exact ⟨rfl, below_drewN B _⟩
end Go.Proofs.Ytkgbhiccjbnldaa.limbWords
