/-
  The walk of WholeParses.
-/
import Derived.Test.YtpfbcicjfnfpgaaPrW4
namespace Go.Proofs.Ytpfbcicjfnfpgaa
open Go.RowKit Go.Shelf
set_option linter.unusedVariables false
theorem five_pow (n : Nat) (h : 3 ≤ n) : ((5 : Nat) : Int) < 2 ^ n := by
  have h1 : 2 ^ 3 ≤ 2 ^ n := Nat.pow_le_pow_right (by omega) h
  have h2 : 5 < 2 ^ n := by omega
  exact_mod_cast h2
theorem five4 {v at4 er : Int} (h : WpX [53] v at4 er) : v = 5 := by
  unfold WpX at h
  rw [pRes_good (by decide) (by decide) (by unfold Dig; decide)] at h
  have e1 : neg [53] = false := by decide
  have e2 : tv 10 (bare [53]) = 5 := by decide
  have e3 : ((5 : Nat) : Int) < pw 4096 := by
    rw [pw_eq]
    exact five_pow _ (by omega)
  rw [e1, e2, if_neg (by simp), if_pos e3] at h
  simp at h
  omega
set_option maxHeartbeats 4000000 in
theorem wparses_walk (l : List UInt8) (hl : l.length ≤ 140737488355328) (w : World) :
    Calls Try.prog 4 #[.string ⟨l.toArray⟩] w fun e w' => e = .returned (.bool true) ∧ Below w.heap.size w w' := by
  have HL : Hid (l.length ≤ 140737488355328) := hl
  clear hl
  have B0 : Below w.heap.size w w := Below.refl _ _
  go_enter Try.func4, Try.ntmps4
  go_wp2_with fail
  refine (wparsex_any l HL.out _).mono ?_
  rintro e x1 ⟨s, a, ln, c, zs, at1, er, rfl, hI, HX, hb⟩
  replace B0 := step B0 hb
  clear hb
  go_wp2_with fail
  refine ent1 x1 _ _ (Q := fun W => Calls Try.prog _ _ W _) ?_
  intro x2 hb hs2 V1
  replace hI := It.after hb hI
  replace B0 := step B0 hb
  clear hb hs2
  refine (rparse4 l HL.out _).mono ?_
  rintro e x3 ⟨t, b, m, k, ds, at2, er2, rfl, hR, hX2, hb⟩
  replace V1 := Va.after hb V1
  replace hI := It.after hb hI
  replace B0 := step B0 hb
  clear hb
  have hee := HX.out.symm.trans hX2
  simp only [Prod.mk.injEq] at hee
  obtain ⟨hv, rfl, rfl⟩ := hee
  have HV : Hid (iv t ds = iv s zs) := hv.symm
  clear hv HX hX2
  go_wp2_with fail
  refine ent1 x3 _ _ (Q := fun W => Calls Try.prog _ _ W _) ?_
  intro x4 hb hs4 V2
  replace V1 := Va.after hb V1
  replace hI := It.after hb hI
  replace hR := Ir.after hb hR
  replace B0 := step B0 hb
  skip
  clear hb hs4
  refine (wparsex_any [53] (by simp) _).mono ?_
  rintro e x5 ⟨s5, a5, l5, c5, z5, at5, er5, rfl, hI5, HX5, hb⟩
  replace V1 := Va.after hb V1
  replace V2 := Va.after hb V2
  replace hI := It.after hb hI
  replace hR := Ir.after hb hR
  replace B0 := step B0 hb
  clear hb
  have HV5 : Hid (iv s5 z5 = 5) := five4 HX5.out
  clear HX5
  have c_V1 := V1.c0
  have f0_V1 := V1.frozen 0
  have d_V1 := V1.c1
  have f1_V1 := V1.frozen 1
  have l_V1 := V1.lt
  have m_V1 := Nat.le_of_lt l_V1
  have c_V2 := V2.c0
  have f0_V2 := V2.frozen 0
  have d_V2 := V2.c1
  have f1_V2 := V2.frozen 1
  have l_V2 := V2.lt
  have m_V2 := Nat.le_of_lt l_V2
  go_wp2_with fail
  clear c_V1 f0_V1 d_V1 f1_V1 l_V1 m_V1
  clear c_V2 f0_V2 d_V2 f1_V2 l_V2 m_V2
  refine ent1 x5 _ _ (Q := fun W => Calls Try.prog _ _ W _) ?_
  intro x6 hb hs6 V5
  replace hI := It.after hb hI
  replace hR := Ir.after hb hR
  replace hI5 := It.after hb hI5
  replace B0 := step B0 hb
  clear hb hs6 V1 V2
  refine (is4_ok s t a b ln c m k zs ds _ hI hR HV.out).mono ?_
  rintro e x7 ⟨rfl, hb⟩
  replace V5 := Va.after hb V5
  replace hI5 := It.after hb hI5
  replace B0 := step B0 hb
  clear hb
  have c_V5 := V5.c0
  have f0_V5 := V5.frozen 0
  have d_V5 := V5.c1
  have f1_V5 := V5.frozen 1
  have l_V5 := V5.lt
  have m_V5 := Nat.le_of_lt l_V5
  go_wp2_with fail
  clear c_V5 f0_V5 d_V5 f1_V5 l_V5 m_V5
  refine (wsign_any s5 a5 l5 c5 z5 _ hI5).mono ?_
  rintro e x8 ⟨rfl, hb⟩
  replace B0 := step B0 hb
  clear hb
  rw [HV5.out]
  go_wp2_with fail
  go_ret
  exact ⟨rfl, B0⟩
end Go.Proofs.Ytpfbcicjfnfpgaa
