/-
  The walk of NatMoves: each call by its contract.
-/
import Derived.Test.YtckfgolijlggbaaMovesA
import Derived.Test.YtckfgolijlggbaaMovesB
import Derived.Test.YtckfgolijlggbaaMovesC
namespace Go.Proofs.Ytckfgolijlggbaa.natMoves
open Go.RowKit Go.Shelf
set_option linter.unusedVariables false

theorem walk (a0 : Option Addr) (len0 cap0 : Nat) (z0 : List Int) (t : Int) (w : World) (s0 : Sl w a0 len0 z0) (c0 : len0 ≤ cap0) (r0 : cap0 ≤ 17592186043904) (e0 : a0 = none → len0 = 0 ∧ cap0 = 0) (ht : (Lit.int .i64 t).wf = true) :
    Calls Try.prog 4 #[.slice a0 len0 cap0, .int .i64 t] w fun e w' => e = .returned (.bool true) ∧ Below w.heap.size w w' := by
  by_cases h1 : 4096 < usedN z0
  · exact walk_a a0 len0 cap0 z0 t w s0 c0 r0 e0 ht h1
  · by_cases h2 : t < 0
    · exact walk_b a0 len0 cap0 z0 t w s0 c0 r0 e0 ht (by omega) h2
    · by_cases h3 : 300000 < t
      · exact walk_c a0 len0 cap0 z0 t w s0 c0 r0 e0 ht (by omega) h3
      · by_cases h4 : num z0 = 0
        · exact walk_z a0 len0 cap0 z0 t w s0 c0 r0 e0 ht (by omega) (by omega) (by omega) h4 (.inl h4)
        · have hone : ∀ zs, Limbs zs → num zs = num z0 → bitsN zs = bitsN z0 := by
            intro zs hz e
            have u : 0 < usedN zs := by
              rcases Nat.eq_zero_or_pos (usedN zs) with h' | h'
              · exact absurd (e ▸ (num_eq_zero hz).2 h') h4
              · exact h'
            obtain ⟨k, e1, k1, k2⟩ := bits_spec hz u
            rw [e1, bits_of s0.2.1 (k := k) (by rw [← e]; exact k1) (by rw [← e]; exact k2)]
          by_cases h5 : bitsN z0 + t ≤ 262144
          · exact walk_d a0 len0 cap0 z0 t w s0 c0 r0 e0 ht (by omega) (by omega) (by omega) h4 (.inr fun zs hz e => by rw [hone zs hz e]; exact h5)
          · exact walk_e a0 len0 cap0 z0 t w s0 c0 r0 e0 ht (by omega) (by omega) (by omega) ⟨h4, fun zs hz e => by rw [hone zs hz e]; omega⟩
end Go.Proofs.Ytckfgolijlggbaa.natMoves
