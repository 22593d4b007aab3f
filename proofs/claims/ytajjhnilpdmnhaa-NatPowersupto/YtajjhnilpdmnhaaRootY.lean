/-
  Root of every number.
-/
import Derived.Test.YtajjhnilpdmnhaaRootX
namespace Go.Proofs.Ytajjhnilpdmnhaa
open Go.RowKit Go.Shelf
set_option linter.unusedVariables false
theorem small_root {xs : List Int} (h : Limbs xs) (h4 : num xs < 4) : 0 ≤ bitsN xs ∧ bitsN xs ≤ 2 ∧ IsRoot (num xs) (min (bitsN xs) 1) := by
  rcases Nat.eq_zero_or_pos (usedN xs) with h0 | h0
  · rw [bits_nought h0, (num_eq_zero h).2 h0]
    refine ⟨by decide, by decide, ?_⟩
    exact ⟨by decide, by decide, by decide⟩
  · obtain ⟨k, e, k1, k2⟩ := bits_spec h h0
    have hk : k < 2 := by
      rcases Nat.lt_or_ge k 2 with h | h
      · exact h
      · have := p2_mono h
        rw [show (2 : Int) ^ 2 = 4 by decide] at this
        omega
    have p0 := p2_pos k
    rw [e]
    refine ⟨by omega, by omega, ?_⟩
    rw [show min ((k : Int) + 1) 1 = 1 by omega]
    refine ⟨by decide, by omega, by omega⟩
set_option maxHeartbeats 4000000 in
theorem root_little (a : Option Addr) (la ca : Nat) (xs : List Int) (w : World) (hx : Nt w a la ca xs) (h4 : num xs < 4) :
    Calls Try.prog 41 #[.agg #[.slice a la ca]] w fun e w' => ∃ a' l' c' zs, e = .returned (.agg #[.slice a' l' c']) ∧ Nt w' a' l' c' zs ∧ IsRoot (num xs) (num zs) ∧ Below w.heap.size w w' := by
  have B0 : Below w.heap.size w w := Below.refl _ _
  obtain ⟨s1, s2, s3⟩ := small_root hx.limbs h4
  obtain ⟨bb, hbb⟩ : ∃ b, bitsN xs = b := ⟨_, rfl⟩
  rw [hbb] at s1 s2 s3
  have wr : Word (min bb 1) := ⟨by omega, by omega⟩
  go_enter Try.func41, Try.ntmps41
  go_wp2_with fail
  refine ent2 w _ _ _ _ (Q := fun W => Calls Try.prog _ _ W _) ?_
  intro x1 hb hs_x1 V0 V1
  replace hx := Nt.after hb hx
  replace B0 := step B0 hb
  clear hb hs_x1
  refine (nbits_any a la ca xs x1 hx).mono ?_
  rintro e x2 ⟨rfl, hb⟩
  replace V0 := Va.after hb V0
  replace V1 := Va.after hb V1
  replace hx := Nt.after hb hx
  replace B0 := step B0 hb
  clear hb
  rw [hbb]
  have c_V0 := V0.cell
  have f_V0 := V0.frozen 0
  have l_V0 := V0.lt
  have m_V0 := Nat.le_of_lt l_V0
  have c_V1 := V1.cell
  have f_V1 := V1.frozen 0
  have l_V1 := V1.lt
  have m_V1 := Nat.le_of_lt l_V1
  go_wp2_with fail
  refine (nbits_any a la ca xs x2 hx).mono ?_
  rintro e x3 ⟨rfl, hb⟩
  replace V0 := Va.after hb V0
  replace V1 := Va.after hb V1
  replace hx := Nt.after hb hx
  replace B0 := step B0 hb
  clear hb
  rw [hbb]
  clear c_V0 f_V0 l_V0 m_V0 c_V1 f_V1 l_V1 m_V1
  have c_V0 := V0.cell
  have f_V0 := V0.frozen 0
  have l_V0 := V0.lt
  have m_V0 := Nat.le_of_lt l_V0
  have c_V1 := V1.cell
  have f_V1 := V1.frozen 0
  have l_V1 := V1.lt
  have m_V1 := Nat.le_of_lt l_V1
  go_wp2_with fail
  refine (small_any (min bb 1) wr x3).mono ?_
  rintro e x4 ⟨ar, lr, kr, zr, rfl, hr, nr, hb⟩
  replace V0 := Va.after hb V0
  replace V1 := Va.after hb V1
  replace hx := Nt.after hb hx
  replace B0 := step B0 hb
  clear hb
  clear c_V0 f_V0 l_V0 m_V0 c_V1 f_V1 l_V1 m_V1
  have c_V0 := V0.cell
  have f_V0 := V0.frozen 0
  have l_V0 := V0.lt
  have m_V0 := Nat.le_of_lt l_V0
  have c_V1 := V1.cell
  have f_V1 := V1.frozen 0
  have l_V1 := V1.lt
  have m_V1 := Nat.le_of_lt l_V1
  go_wp2_with fail
  refine bodyPost_ret (results_c rfl rfl (V1.set _)) rfl ?_
  exact ⟨_, _, _, zr, rfl, hr.store V1 _, by rw [nr]; exact s3, B0.setCell (p := ⟨w.heap.size + 1, 0, none⟩) (by show _ ≤ w.heap.size + 1; omega) _⟩
theorem root_below : ∀ (n : Nat), RootOk (n : Int) := by
  intro n
  induction n with
  | zero =>
    intro a la ca xs w hx h
    have := hx.nonneg
    omega
  | succ n ih =>
    intro a la ca xs w hx h
    rcases Int.lt_or_le (num xs) 4 with h4 | h4
    · exact root_little a la ca xs w hx h4
    · exact root_great a la ca xs w hx (fun b lb cb ys W hy hlt => ih b lb cb ys W hy (by omega)) h4
theorem root_any (a : Option Addr) (la ca : Nat) (xs : List Int) (w : World) (hx : Nt w a la ca xs) :
    Calls Try.prog 41 #[.agg #[.slice a la ca]] w fun e w' => ∃ a' l' c' zs, e = .returned (.agg #[.slice a' l' c']) ∧ Nt w' a' l' c' zs ∧ IsRoot (num xs) (num zs) ∧ Below w.heap.size w w' :=
  root_below ((num xs).toNat + 1) a la ca xs w hx (by have := hx.nonneg; omega)
end Go.Proofs.Ytajjhnilpdmnhaa
