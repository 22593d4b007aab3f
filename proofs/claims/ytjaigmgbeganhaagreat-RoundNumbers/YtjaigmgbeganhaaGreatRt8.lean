/-
  SameRatio, spoilt, is, zero, alike, awake of the statements of layer 5.
-/
import Derived.Test.YtjaigmgbeganhaaGreatRt7
import Derived.Test.YtjaigmgbeganhaaGreatRt5
namespace Go.Proofs.YtjaigmgbeganhaaGreat
open Go.RowKit Go.Shelf
set_option linter.unusedVariables false

set_option maxHeartbeats 1000000 in
theorem sameq_any (a b : Option Addr) (la ca cb : Nat) (xs : List Int) (w : World) (ha : Sl w a la xs) (hb : Sl w b la xs) (h1 : la ≤ 40000000000000) :
    Calls Tryz.prog 49 #[.slice a la ca, .slice b la cb] w fun e w' => e = .returned (.bool true) ∧ ∃ n, w' = w.drewN n := by
  have hza := ha.1
  have g1 : ((la : Int) != la) = false := by simp
  by_cases h0 : la = 0
  · subst h0
    clear ha hb
    go_enter Tryz.func49, Tryz.ntmps49
    go_wp2_with fail
    refine wp_loop_rounds 1 ?_
    rw [rounds_succ]
    go_wp2_with fail
    go_ret
    exact ⟨rfl, 0, rfl⟩
  · obtain ⟨ba, oa, rfl, hca⟩ := ha.2.2 (by omega)
    obtain ⟨bb, ob, rfl, hcb⟩ := hb.2.2 (by omega)
    clear ha hb
    go_enter Tryz.func49, Tryz.ntmps49
    go_wp2_with fail
    go_loopw [5] (fun i wr => ∃ k : Nat, k ≤ la ∧ i = .int .i64 k ∧ ∃ q, wr = w.drewN q) (fun i _ => la - (intOf i).toNat)
    case atStart => exact ⟨0, Nat.zero_le _, rfl, 0, rfl⟩
    case round =>
      obtain ⟨k, hk, rfl, q, rfl⟩ := hrel
      by_cases hlt : k < la
      · have hcx := hca k (by omega)
        have hcy := hcb k (by omega)
        obtain ⟨x, hx⟩ : ∃ x, xs.getD k 0 = x := ⟨_, rfl⟩
        rw [hx] at hcx hcy
        clear hx
        have g2 : (x != x) = false := by simp
        go_wp2_with fail
        go_quiet (fail)
        go_wp2_with fail
        go_roundw
        case rel => exact ⟨k + 1, by omega, by go_num, q + nq, rfl⟩
        case measure => simp [intOf]; omega
      · go_wp2_with fail
        go_ret
        exact ⟨rfl, q, rfl⟩


theorem sameq_b (a b : Option Addr) (la ca cb : Nat) (xs : List Int) (w : World) (ha : Sl w a la xs) (hb : Sl w b la xs) (h1 : la ≤ 40000000000000) :
    Calls Tryz.prog 49 #[.slice a la ca, .slice b la cb] w fun e w' => e = .returned (.bool true) ∧ Below w.heap.size w w' := by
  refine (sameq_any a b la ca cb xs w ha hb h1).mono ?_
  rintro e w' ⟨rfl, n, rfl⟩
  exact ⟨rfl, below_drewN (Below.refl _ _) n⟩

theorem trim_one {xs ys : List Int} (hx : Limbs xs) (hy : Limbs ys) (ux : usedN xs = xs.length) (uy : usedN ys = ys.length) (e : num xs = num ys) : xs = ys := by
  obtain ⟨e1, e2⟩ := one_list hx hy rfl ux e
  rw [uy, List.take_of_length_le (Nat.le_refl _)] at e2
  exact e2
theorem Ow.sl {w : World} {g : Nat} {cs : List Int} (h : Ow w g cs) (hL : Limbs cs) {n : Nat} (hn : cs.length = n) : Sl w (some ⟨g, 0, none⟩) n cs := by subst hn; exact Own.sl h hL
theorem len_4096 {zs : List Int} {w : World} {a : Option Addr} {l c : Nat} (h : Nt w a l c zs) : l ≤ 4096 := h.2.2.2
end Go.Proofs.YtjaigmgbeganhaaGreat
