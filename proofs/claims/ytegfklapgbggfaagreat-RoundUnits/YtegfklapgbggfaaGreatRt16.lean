/-
  rat.Of of any ratio; KeptRatio, told, the document's Sign.
-/
import Derived.Test.YtegfklapgbggfaaGreatRt11
import Derived.Test.YtegfklapgbggfaaGreatKept5
import Derived.Test.YtegfklapgbggfaaGreatRt15
namespace Go.Proofs.YtegfklapgbggfaaGreat
open Go.RowKit Go.Shelf
set_option linter.unusedVariables false

theorem rsign5 (s : Bool) (a : Option Addr) (l c : Nat) (zs : List Int) (b : Option Addr) (m d : Nat) (ys : List Int) (v : Rat) (w : World) (h : Rr w s a l c zs b m d ys v) :
    Calls Tryz.prog 27 #[.agg #[.bool s, .slice a l c, .slice b m d]] w fun e w' => e = .returned (.int .i64 (Int.sign v.num)) ∧ Below w.heap.size w w' := by
  have hz := num_eq_zero h.1.2.1
  have z0 := num_nonneg h.1.2.1
  rw [h.2.2.1] at hz
  have hv := h.2.2.2.2.2.1
  have hs := h.2.2.2.2.2.2.2
  by_cases l0 : l = 0
  · have e1 : Int.sign v.num = 0 := by rw [← hv]; cases s <;> simp only [iv_t, iv_f, hz.2 l0] <;> rfl
    rw [e1]
    subst l0
    clear hz hv hs h e1 z0
    go_enter Tryz.func27, Tryz.ntmps27
    go_wp2_with fail
    go_ret
    exact ⟨rfl, (Below.refl _ _).alloc (Nat.le_refl _) _⟩
  · have l1 : ((l : Int) == 0) = false := by simp; omega
    have n0 : num zs ≠ 0 := fun e => l0 (hz.1 e)
    cases s
    · have e1 : Int.sign v.num = 1 := by rw [← hv, iv_f]; exact Int.sign_eq_one_of_pos (by omega)
      rw [e1]
      clear hz hv hs h e1 z0 n0 l0
      go_enter Tryz.func27, Tryz.ntmps27
      go_wp2_with fail
      go_ret
      exact ⟨rfl, (Below.refl _ _).alloc (Nat.le_refl _) _⟩
    · have e1 : Int.sign v.num = -1 := by rw [← hv, iv_t]; exact Int.sign_eq_neg_one_of_neg (by omega)
      rw [e1]
      clear hz hv hs h e1 z0 n0 l0
      go_enter Tryz.func27, Tryz.ntmps27
      go_wp2_with fail
      go_ret
      exact ⟨rfl, (Below.refl _ _).alloc (Nat.le_refl _) _⟩

end Go.Proofs.YtegfklapgbggfaaGreat
