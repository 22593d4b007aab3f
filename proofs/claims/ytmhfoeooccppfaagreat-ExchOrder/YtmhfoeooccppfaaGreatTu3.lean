/-
  tokens: Code.
-/
import Derived.Test.YtmhfoeooccppfaaGreatTu1
namespace Go.Proofs.YtmhfoeooccppfaaGreat
open Go.RowKit Go.Shelf
set_option linter.unusedVariables false
set_option maxRecDepth 20000

def cdF (s : List UInt8) : Bool := decide (s.length = 3) && decide (rn cp s = 3)
theorem code_any (s : List UInt8) (w : World) :
    Calls Tryz.prog 32 #[sv s] w fun e w' => e = .returned (.bool (cdF s)) ∧ w' = w := by
  by_cases h3 : s.length = 3
  · have hr := fun W => runC s W (by omega)
    have hi : (s.length : Int) = 3 := by omega
    have HS : Hid (cdF s = decide (rn cp s = 3)) := by show _ = _; simp [cdF, h3]
    generalize rn cp s = q at *
    clear h3
    by_cases hq : q = 3
    · subst hq
      go_enter Tryz.func32, Tryz.ntmps32
      go_wp2_with (go_at_call 62; refine (hr _).mono ?_; rintro e w' ⟨rfl, rfl⟩)
      go_ret
      exact ⟨by rw [HS.out]; rfl, rfl⟩
    · have hqi : ¬ (q : Int) = 3 := by omega
      have hqb : ((q : Int) == 3) = false := by simpa using hqi
      have HE : Hid (cdF s = false) := by show _ = _; rw [HS.out]; simp [hq]
      clear HS hq hqi
      go_enter Tryz.func32, Tryz.ntmps32
      go_wp2_with (go_at_call 62; refine (hr _).mono ?_; rintro e w' ⟨rfl, rfl⟩)
      go_ret
      exact ⟨by rw [HE.out]; rfl, rfl⟩
  · have HE : Hid (cdF s = false) := by show _ = _; simp [cdF, h3]
    have hi : ¬ (s.length : Int) = 3 := by omega
    have hib : ((s.length : Int) == 3) = false := by simpa using hi
    clear h3 hi
    go_enter Tryz.func32, Tryz.ntmps32
    go_wp2_with fail
    go_ret
    exact ⟨by rw [HE.out]; rfl, rfl⟩
end Go.Proofs.YtmhfoeooccppfaaGreat
