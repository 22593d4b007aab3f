/-
  CopyLimbs.
-/
import Derived.Test.YtclefkmhchfkkaaGreatDoorBsI
namespace Go.Proofs.YtclefkmhchfkkaaGreatDoor
open Go.RowKit Go.Shelf
set_option linter.unusedVariables false

theorem copyl_any (a : Option Addr) (la ca : Nat) (zs : List Int) (w : World) (h : Sl w a la zs) (hn : a = none → la = 0 ∧ ca = 0) (hl : la ≤ 17592186044416) :
    Calls Tryz.prog 22 #[.slice a la ca] w fun e w' => ∃ a' c', e = .returned (.slice a' la c') ∧ Sl w' a' la zs ∧ la ≤ c' ∧ (a' = none → la = 0 ∧ c' = 0) ∧ Below w.heap.size w w' := by
  have hL := h.2.1
  have hz := h.1
  cases a with
  | none =>
    obtain ⟨rfl, rfl⟩ := hn rfl
    have hz : zs = [] := List.eq_nil_of_length_eq_zero h.1
    subst hz
    go_enter Tryz.func22, Tryz.ntmps22
    go_wp2_with fail
    go_ret
    exact ⟨_, _, rfl, h, fun _ => rfl, Below.refl _ _⟩
  | some ad =>
    have HSL : Hid (Sl w (some ad) la zs) := h
    have HLL : Hid (Limbs zs ∧ zs.length = la) := ⟨hL, hz⟩
    clear h hn hL hz
    go_enter Tryz.func22, Tryz.ntmps22
    go_wp2_with (at_builtin; refine wpList_app_some rfl (.tmp 4) (.tmp 5) rfl w.heap.size _ [] rfl (Gr.nil _ _) ad la ca zs rfl HSL.out (by simpa using hl) (Nat.le_refl _) ?_; intro v1 w1 hG hb)
    go_ret
    obtain ⟨a1, c1, gm, e1, h1, h2, -, h3, -⟩ := Gr.parts (by simpa using hG.out) HLL.out.1
    rw [HLL.out.2] at e1 h1 h2 h3
    subst e1
    exact ⟨a1, c1, rfl, h2, h1, h3, hb⟩
end Go.Proofs.YtclefkmhchfkkaaGreatDoor
