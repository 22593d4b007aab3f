/-
  tooMuch and guess: a limb of the quotient, guessed from the highest limbs, never too small.
-/
import Derived.Test.YtkfpblonjinfmaaVals
import Derived.Test.YtkfpblonjinfmaaKnuth
import Derived.Deep.RegionWith
namespace Go.Proofs.Ytkfpblonjinfmaa
open Go.RowKit Go.Shelf

/-- Whether a product of two limbs is above a number of two limbs. -/
def above2 (t l h u : Int) : Bool := decide (h * 18446744073709551616 + u < t * l)
theorem tooMuch_any (t l h u : Int) (ht : Word t) (hl : Word l) (hh : Word h) (hu : Word u) (w : World) :
    Calls Try.prog 94 #[.int .u64 t, .int .u64 l, .int .u64 h, .int .u64 u] w fun e w' => e = .returned (.bool (above2 t l h u)) ∧ ∃ n, w' = w.drewN n := by
  have M := mul_any t l ht hl w
  obtain ⟨p, hp⟩ : ∃ p, t * l / 18446744073709551616 = p := ⟨_, rfl⟩
  obtain ⟨q, hq⟩ : ∃ q, t * l % 18446744073709551616 = q := ⟨_, rfl⟩
  have hA : above2 t l h u = decide (h < p ∨ p = h ∧ u < q) := by
    obtain ⟨h1, h2⟩ := hh; obtain ⟨u1, u2⟩ := hu
    unfold above2
    rw [decide_eq_decide]
    generalize t * l = x at *
    omega
  rw [hp, hq] at M
  clear hp hq
  rcases Int.lt_trichotomy h p with hc | hc | hc
  · have hr : above2 t l h u = true := by rw [hA]; simp [hc]
    rw [hr]
    clear hA hr
    go_enter Try.func94, Try.ntmps94
    go_wp2_with fail
    refine M.mono ?_
    rintro e w' ⟨rfl, rfl⟩
    go_wp2_with fail
    go_ret
    exact ⟨rfl, 0, rfl⟩
  · subst hc
    have hr : above2 t l h u = decide (u < q) := by rw [hA]; simp
    rw [hr]
    clear hA hr
    go_enter Try.func94, Try.ntmps94
    go_wp2_with fail
    refine M.mono ?_
    rintro e w' ⟨rfl, rfl⟩
    go_wp2_with fail
    go_ret
    exact ⟨rfl, 0, rfl⟩
  · have hr : above2 t l h u = decide (h < p) := by rw [hA, decide_eq_decide]; omega
    rw [hr]
    have g1 : (p == h) = false := by simp; omega
    clear hA hr
    go_enter Try.func94, Try.ntmps94
    go_wp2_with fail
    refine M.mono ?_
    rintro e w' ⟨rfl, rfl⟩
    go_wp2_with fail
    go_ret
    exact ⟨rfl, 0, rfl⟩
end Go.Proofs.Ytkfpblonjinfmaa
