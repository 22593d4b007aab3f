/-
  What the walk of WholeLaws reckons with.
-/
import Derived.Test.YtbadjonlhijoaaaLawsA
import Derived.Test.YtbadjonlhijoaaaWh3
import Derived.Test.YtbadjonlhijoaaaAwake4
import Derived.Test.YtbadjonlhijoaaaBsM
namespace Go.Proofs.Ytbadjonlhijoaaa
open Go.RowKit Go.Shelf
set_option linter.unusedVariables false

theorem three {w X wr : World} {b : Nat} {T : In3} {v : Value} {ps : List W4} (h : Rn3 w X b T v ps wr) (hl : ps.length = 3) : ∃ (g cap : Nat) (s0 : Bool) (a0 : Option Addr) (l0 c0 : Nat) (z0 : List Int) (s1 : Bool) (a1 : Option Addr) (l1 c1 : Nat) (z1 : List Int) (s2 : Bool) (a2 : Option Addr) (l2 c2 : Nat) (z2 : List Int), v = .slice (some ⟨g, 0, none⟩) 3 cap ∧ 3 ≤ cap ∧ Hid (∀ W, Below wr.heap.size wr W → (W.cell? ⟨g, 0, none⟩ = some (.bool s0) ∧ W.cell? ⟨g, 1, none⟩ = some (.slice a0 l0 c0) ∧ W.cell? ⟨g, 2, none⟩ = some (.bool s1) ∧ W.cell? ⟨g, 3, none⟩ = some (.slice a1 l1 c1) ∧ W.cell? ⟨g, 4, none⟩ = some (.bool s2) ∧ W.cell? ⟨g, 5, none⟩ = some (.slice a2 l2 c2))) ∧ It wr s0 a0 l0 c0 z0 ∧ It wr s1 a1 l1 c1 z1 ∧ It wr s2 a2 l2 c2 z2 ∧ Hid (((iv s0 z0).natAbs : Int) < pw 1000 ∧ ((iv s1 z1).natAbs : Int) < pw 1000 ∧ ((iv s2 z2).natAbs : Int) < pw 1000) ∧ Below w.heap.size w wr := by
  obtain ⟨B, -, hG, -, hF⟩ := h
  match ps, hl with
  | [p0, p1, p2], _ =>
    obtain ⟨g, cap, e, hc, -, hlt, hce⟩ := hG.lies (by simp)
    obtain ⟨g0, z0, e0, i0, v0, n0⟩ := hF 0 p0 rfl
    obtain ⟨g1, z1, e1, i1, v1, n1⟩ := hF 1 p1 rfl
    obtain ⟨g2, z2, e2, i2, v2, n2⟩ := hF 2 p2 rfl
    refine ⟨g, cap, _, _, _, _, z0, _, _, _, _, z1, _, _, _, _, z2, e, hc, fun W hb => ?_, i0, i1, i2, ⟨by rw [v0]; exact n0, by rw [v1]; exact n1, by rw [v2]; exact n2⟩, B⟩
    have k : ∀ j x, (flat [p0, p1, p2])[j]? = some x → W.cell? ⟨g, j, none⟩ = some x := fun j x hx => (hb.cell (p := ⟨g, j, none⟩) hlt).trans (hce j x hx)
    exact ⟨k 0 _ rfl, k 1 _ rfl, k 2 _ rfl, k 3 _ rfl, k 4 _ rfl, k 5 _ rfl⟩
/-- All that is reckoned of three numbers of a thousand limbs has room. -/
structure Fit3 (x y z : Int) : Prop where
  a : ((x + y).natAbs : Int) < pw 4096
  b : ((y + x).natAbs : Int) < pw 4096
  c : ((x + y - y).natAbs : Int) < pw 4096
  d : ((x * y).natAbs : Int) < pw 4096
  e : ((y * x).natAbs : Int) < pw 4096
  f : ((y + z).natAbs : Int) < pw 4096
  g : ((x * (y + z)).natAbs : Int) < pw 4096
  h : ((x * z).natAbs : Int) < pw 4096
  i : ((x * y + x * z).natAbs : Int) < pw 4096
  j : ((x + -x).natAbs : Int) < pw 4096
  k : ((x * 1).natAbs : Int) < pw 4096
theorem mul_abs_lt {x y p q : Int} (hx : (x.natAbs : Int) < p) (hy : (y.natAbs : Int) < q) : ((x * y).natAbs : Int) < p * q := by
  rw [Int.natAbs_mul, Int.natCast_mul]
  exact Int.lt_of_le_of_lt (Int.mul_le_mul_of_nonneg_left (Int.le_of_lt hy) (by omega)) (Int.mul_lt_mul_of_pos_right hx (by omega))
theorem fit3 {x y z : Int} (h : ((x.natAbs : Int) < pw 1000 ∧ (y.natAbs : Int) < pw 1000 ∧ (z.natAbs : Int) < pw 1000)) : Fit3 x y z := by
  obtain ⟨hx, hy, hz⟩ := h
  have h4 : 2 * (pw 1000 * pw 1000) ≤ pw 4096 := by
    have e1 : pw 1000 * pw 1000 = pw 2000 := (pw_add 1000 1000).symm
    have e2 : pw 2001 = pw 2000 * pw 1 := pw_add 2000 1
    have e3 : (2 : Int) ≤ pw 1 := by decide
    have e4 : pw 2001 ≤ pw 4096 := pw_mono (by omega)
    have e5 := pw_pos 2000
    rw [e1]
    have e6 : pw 2000 * 2 ≤ pw 2000 * pw 1 := Int.mul_le_mul_of_nonneg_left e3 (by omega)
    omega
  have hp := pw_pos 1000
  have hq : pw 1000 ≤ pw 1000 * pw 1000 := by
    have := Int.mul_le_mul_of_nonneg_left (show (1 : Int) ≤ pw 1000 by omega) (show 0 ≤ pw 1000 by omega)
    omega
  have m1 := mul_abs_lt hx hy
  have m2 := mul_abs_lt hy hx
  have m3 := mul_abs_lt hx hz
  have m4 : x * (y + z) = x * y + x * z := Int.mul_add ..
  have m5 : x * 1 = x := Int.mul_one x
  constructor <;> (try rw [m4]) <;> (try rw [m5]) <;> (generalize pw 4096 = R at *; generalize pw 1000 * pw 1000 = Q at *; generalize pw 1000 = P at *; omega)
theorem sign_wrap (x y : Int) : IntKind.i64.wrap (Int.sign x * Int.sign y) = Int.sign x * Int.sign y := by
  have hx : Int.sign x = -1 ∨ Int.sign x = 0 ∨ Int.sign x = 1 := by have := sign_range x; omega
  have hy : Int.sign y = -1 ∨ Int.sign y = 0 ∨ Int.sign y = 1 := by have := sign_range y; omega
  rcases hx with h | h | h <;> rcases hy with h' | h' | h' <;> rw [h, h'] <;> decide
end Go.Proofs.Ytbadjonlhijoaaa
