/-
  Sizes of sums and products; whether a number is long.
-/
import Derived.Test.YtajjhnilpdmnhaaLongs
namespace Go.Proofs.Ytajjhnilpdmnhaa
open Go.RowKit Go.Shelf

theorem fits_mul {x y : Int} {i j : Nat} (x0 : 0 ≤ x) (hx : x < pw i) (hy : y < pw j) : x * y < pw (i + j) := by
  rw [pw_add]
  have h1 : x * y ≤ x * pw j := Int.mul_le_mul_of_nonneg_left (by omega) x0
  have h2 : x * pw j < pw i * pw j := Int.mul_lt_mul_of_pos_right hx (pw_pos j)
  omega
theorem fits_add {x y : Int} {i : Nat} (hx : x < pw i) (hy : y < pw i) : x + y < pw (i + 1) := by
  have := pw_pos i
  show _ < 18446744073709551616 * pw i
  omega
theorem fits_to {x : Int} {i j : Nat} (hx : x < pw i) (h : i ≤ j) : x < pw j := Int.lt_of_lt_of_le hx (pw_mono h)
theorem fits_len {w : World} {a : Option Addr} {len n : Nat} {zs : List Int} (s : Sl w a len zs) (h : len ≤ n) : num zs < pw n := by
  have := num_lt s.2.1
  rw [s.1] at this
  exact fits_to this h
theorem rlong_no (a : Option Addr) (len cap : Nat) (zs : List Int) (w : World) (h : Sl w a len zs) (hl : len ≤ 40000000000000) (hu : usedN zs ≤ 4096) :
    Calls Try.prog 17 #[.slice a len cap] w fun e w' => e = .returned (.bool false) ∧ Below w.heap.size w w' := by
  have e1 : decide ((4096 : Int) < usedN zs) = false := by simp; omega
  refine (rlong_any a len cap zs w h hl).mono ?_
  rintro e w' ⟨rfl, rfl⟩
  rw [e1]
  exact ⟨rfl, Below.refl _ _⟩
theorem rlong_yes (a : Option Addr) (len cap : Nat) (zs : List Int) (w : World) (h : Sl w a len zs) (hl : len ≤ 40000000000000) (hu : 4096 < usedN zs) :
    Calls Try.prog 17 #[.slice a len cap] w fun e w' => e = .returned (.bool true) ∧ Below w.heap.size w w' := by
  have e1 : decide ((4096 : Int) < usedN zs) = true := by simp; omega
  refine (rlong_any a len cap zs w h hl).mono ?_
  rintro e w' ⟨rfl, rfl⟩
  rw [e1]
  exact ⟨rfl, Below.refl _ _⟩
end Go.Proofs.Ytajjhnilpdmnhaa
