/-
  Left, Right, Uint64 of layer nat.
-/
import Derived.Test.YtopmbfiepheepaaVals
namespace Go.Proofs.Ytopmbfiepheepaa
open Go.RowKit Go.Shelf

theorem uint64_small (a : Option Addr) (la ca : Nat) (xs : List Int) (w : World) (ha : Nt w a la ca xs) (hlt : num xs < 18446744073709551616) :
    Calls Try.prog 33 #[.agg #[.slice a la ca]] w fun e w' => e = .returned (.tuple #[.int .u64 (num xs), .bool true]) ∧ Below w.heap.size w w' := by
  have hu1 : usedN xs ≤ 1 := used_of_lt ha.limbs (by simpa [pw] using hlt)
  obtain ⟨hs, hu, hc, hl⟩ := ha
  have hz := hs.1
  have hla : la = 0 ∨ la = 1 := by omega
  rcases hla with rfl | rfl
  · have e0 : num xs = 0 := (num_eq_zero hs.2.1).2 hu
    rw [e0]
    go_enter Try.func33, Try.ntmps33
    go_wp2_with fail
    go_ret2
    exact ⟨rfl, (Below.refl _ _).alloc (Nat.le_refl _) _⟩
  · obtain ⟨x, rfl⟩ : ∃ x, xs = [x] := by
      match xs, hz with
      | [x], _ => exact ⟨x, rfl⟩
    have e0 : num [x] = x := by simp [num]
    rw [e0]
    have sl := fun w0 (B0 : Below w.heap.size w w0) => hs.below B0 (Nat.le_refl _)
    obtain ⟨b, off, rfl, hc0⟩ := hs.2.2 (by omega)
    have hlt0 : b < w.heap.size := by
      have hh := hc0 0 (by omega)
      rcases Nat.lt_or_ge b w.heap.size with h' | h'
      · exact h'
      · simp [World.cell?, Array.getElem?_eq_none h'] at hh
    have hcx := ((Below.refl w.heap.size w).alloc (Nat.le_refl _) (.cells #[.slice (some ⟨b, off, none⟩) 1 ca] 25)).cell (p := ⟨b, off + 0, none⟩) hlt0
    rw [hc0 0 (by omega)] at hcx
    simp only [Nat.add_zero, List.getD_cons_zero] at hcx
    go_enter Try.func33, Try.ntmps33
    go_wp2_with fail
    go_ret2
    exact ⟨rfl, (Below.refl _ _).alloc (Nat.le_refl _) _⟩
theorem uint64_great (a : Option Addr) (la ca : Nat) (xs : List Int) (w : World) (ha : Nt w a la ca xs) (hge : 18446744073709551616 ≤ num xs) :
    Calls Try.prog 33 #[.agg #[.slice a la ca]] w fun e w' => e = .returned (.tuple #[.int .u64 0, .bool false]) ∧ Below w.heap.size w w' := by
  have hla : 1 < la := by
    rcases Nat.lt_or_ge 1 la with h | h
    · exact h
    · have := lt_of_used ha.limbs (n := 1) (by rw [ha.2.1]; exact h)
      simp [pw] at this; omega
  have g0 : ((la : Int) == 0) = false := by simp; omega
  have g1 : ((la : Int) == 1) = false := by simp; omega
  go_enter Try.func33, Try.ntmps33
  go_wp2_with fail
  go_ret2
  exact ⟨rfl, (Below.refl _ _).alloc (Nat.le_refl _) _⟩
end Go.Proofs.Ytopmbfiepheepaa
