/-
  numeral.Text, Digits and Parse at any base.
-/
import Derived.Test.YtclefkmhchfkkaaGreatDoorTzP
import Derived.Test.YtclefkmhchfkkaaGreatDoorApartW
import Derived.Test.YtclefkmhchfkkaaGreatDoorParseA
namespace Go.Proofs.YtclefkmhchfkkaaGreatDoor
open Go.RowKit Go.Shelf
set_option linter.unusedVariables false

theorem gp_one {b s t : Nat} (hb : 2 ≤ b) (h1 : b ^ s < 18446744073709551616) (h2 : 18446744073709551616 ≤ b ^ t * b) : s ≤ t := by
  rcases Nat.lt_or_ge t s with h | h
  · exfalso
    have : b ^ (t + 1) ≤ b ^ s := Nat.pow_le_pow_right (by omega) (by omega)
    rw [Nat.pow_succ] at this
    omega
  · exact h
set_option maxRecDepth 100000 in
theorem gp_all : ∀ b : Fin 37, 2 ≤ b.1 → ∃ s : Fin 64, 2 ≤ s.1 ∧ b.1 ^ s.1 < 18446744073709551616 ∧ 18446744073709551616 ≤ b.1 ^ s.1 * b.1 := by decide
theorem gp_b (b : Nat) (h2 : 2 ≤ b) (h36 : b ≤ 36) : ∃ sz : Nat, 2 ≤ sz ∧ sz ≤ 63 ∧ b ^ sz < 18446744073709551616 ∧ ∀ w, Calls Tryz.prog 28 #[.int .i64 b] w fun e w' => e = .returned (.tuple #[.int .u64 ((b ^ sz : Nat) : Int), .int .i64 sz]) ∧ w' = w := by
  obtain ⟨s, h1, h3, h4⟩ := gp_all ⟨b, by omega⟩ h2
  simp only at h3 h4
  refine ⟨s.1, h1, by omega, h3, fun w => (greatPower_any b (by omega) (by omega) w).mono ?_⟩
  rintro e w' ⟨t, rfl, ht, rfl⟩
  obtain ⟨g1, g2, g3, g4⟩ := ht.out
  have e1 : (b : Int) ^ t = ((b ^ t : Nat) : Int) := (Int.natCast_pow b t).symm
  rw [e1] at g3 g4
  have g3' : b ^ t < 18446744073709551616 := by omega
  rw [← Int.natCast_mul] at g4
  have g4' : 18446744073709551616 ≤ b ^ t * b := by
    generalize b ^ t * b = y at g4 ⊢
    omega
  have : t = s.1 := Nat.le_antisymm (gp_one h2 g3' h4) (gp_one h2 h3 g4')
  subst this
  exact ⟨by rw [e1], rfl⟩
theorem pow_two_le {b : Nat} (h2 : 2 ≤ b) {sz : Nat} (h1 : 2 ≤ sz) : 2 ≤ b ^ sz := by
  have h3 : 2 ^ 1 ≤ 2 ^ sz := Nat.pow_le_pow_right (by omega) (by omega)
  have h4 : 2 ^ sz ≤ b ^ sz := Nat.pow_le_pow_left h2 _
  omega
theorem text_b (b : Nat) (h2 : 2 ≤ b) (h36 : b ≤ 36) (a : Option Addr) (l c : Nat) (xs : List Int) (w : World) (h : Nt w a l c xs) (hT : Tb w) :
    Calls Tryz.prog 9 #[.agg #[.slice a l c], .int .i64 b] w fun e W' => ∃ t, e = .returned (.tuple #[.string ⟨List.toArray t⟩, .int .i64 0]) ∧ Tx b t (num xs).toNat ∧ Below w.heap.size w W' := by
  obtain ⟨sz, h1, h3, h4, hg⟩ := gp_b b h2 h36
  have h5 := pow_two_le h2 h1
  exact text_from Tb (fun W W' hb h => h.to hb) b sz ((b ^ sz : Nat) : Int) h2 h36 (by omega) h3 rfl ⟨by omega, by omega⟩ (by omega) hg (fun u w hu hp => fmt_any u b hu h2 h36 w hp) a l c xs w h hT
theorem parse_b (b : Nat) (h2 : 2 ≤ b) (h36 : b ≤ 36) (s : ByteArray) (w : World) : Calls Tryz.prog 41 #[.string s, .int .i64 b] w fun e W' => PsR b s W' e ∧ Below w.heap.size w W' := by
  obtain ⟨sz, h1, h3, h4, hg⟩ := gp_b b h2 h36
  have h5 := pow_two_le h2 h1
  exact parse_from b sz ((b ^ sz : Nat) : Int) h2 h36 h1 h3 rfl ⟨by omega, by omega⟩ (by omega) hg s w
theorem two_big {b : Nat} (h2 : 2 ≤ b) (n : Nat) : (2 : Int) ^ n ≤ ((b ^ n : Nat) : Int) := by
  have := two_le_pow (b := (b : Int)) (by omega) n
  rw [Int.natCast_pow]; exact this
theorem len_b {b : Nat} (h2 : 2 ≤ b) {zs : List Int} {t : List UInt8} (ht : Tx b t (num zs).toNat) (h0 : 0 ≤ num zs) (hlt : num zs < pw 4096) : t.length ≤ 262144 := by
  refine ht.le h2 (k := 262144) ?_ (by omega)
  have h1 := two_big h2 262144
  rw [pw_eq, show 64 * 4096 = 262144 from rfl] at hlt
  generalize (2 : Int) ^ 262144 = X at *
  generalize b ^ 262144 = Y at *
  omega
theorem digits_b (b : Nat) (h2 : 2 ≤ b) (h36 : b ≤ 36) (a : Option Addr) (l c : Nat) (xs : List Int) (w : World) (h : Nt w a l c xs) (hT : Tb w) :
    Calls Tryz.prog 10 #[.agg #[.slice a l c], .int .i64 b] w fun e W' => ∃ t : List UInt8, e = .returned (.tuple #[.int .i64 (t.length : Int), .int .i64 0]) ∧ Tx b t (num xs).toNat ∧ Below w.heap.size w W' := by
  go_enter Tryz.func10, Tryz.ntmps10
  go_wp2_with fail
  refine ent1 w _ _ (Q := fun W => Calls Tryz.prog _ _ W _) ?_
  intro w0 B0 hs V0
  refine (text_b b h2 h36 a l c xs w0 (Nt.after B0 h) (hT.to B0)).mono ?_
  rintro e w1 ⟨t, rfl, ht, hb1⟩
  have hbz : (ByteArray.mk t.toArray).size = t.length := by rw [Go.Lib.size_eq]
  go_wp2_with fail
  go_ret2
  exact ⟨t, by first | rfl | rw [← hbz], ht, step B0 hb1⟩
theorem text_bad (b : Int) (hb : b < 2 ∨ 36 < b) (a : Option Addr) (l c : Nat) (w : World) :
    Calls Tryz.prog 9 #[.agg #[.slice a l c], .int .i64 b] w fun e W' => e = .returned (.tuple #[.string ⟨#[]⟩, .int .i64 30]) ∧ Below w.heap.size w W' := by
  have hI : ∀ W, Calls Tryz.prog 27 #[.int .i64 b] W fun e W' => e = .returned (.bool false) ∧ W' = W := fun W => by
    rcases hb with hb | hb
    · go_enter Tryz.func27, Tryz.ntmps27
      go_wp2_with fail
      go_ret
      exact ⟨rfl, rfl⟩
    · have h1 : ¬ b < 2 := by omega
      have h3 : ¬ b ≤ 36 := by omega
      go_enter Tryz.func27, Tryz.ntmps27
      go_wp2_with fail
      go_ret
      exact ⟨by first | rfl | simp [h3], rfl⟩
  go_enter Tryz.func9, Tryz.ntmps9
  go_wp2_with fail
  refine ent1 w _ _ (Q := fun W => Calls Tryz.prog _ _ W _) ?_
  intro w0 B0 hs V0
  refine (hI w0).mono ?_
  rintro e w' ⟨rfl, rfl⟩
  go_wp2_with fail
  go_ret2
  exact ⟨rfl, B0⟩
end Go.Proofs.YtclefkmhchfkkaaGreatDoor
