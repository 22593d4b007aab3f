/-
  decimal.worth.
-/
import Derived.Test.YtebbblhafjaaiaaGreatDoorDec1
import Derived.Test.YtebbblhafjaaiaaGreatDoorDec4
import Derived.Test.YtebbblhafjaaiaaGreatDoorParseF
import Derived.Test.YtebbblhafjaaiaaGreatDoorWh8a
namespace Go.Proofs.YtebbblhafjaaiaaGreatDoor
open Go.RowKit Go.Shelf
set_option linter.unusedVariables false

theorem iv_sgn (s : Bool) (zs : List Int) (n : Nat) (h : num zs = n) : iv s zs = sgn s n := by cases s <;> simp [iv, sgn, h]
theorem worthL_over {neg : Bool} {a b : List UInt8} (h : b.length > 9 ∨ a.length > 19) : worthL neg a b = (0, 0, 5) := by unfold worthL; rw [if_pos h]
theorem worthL_in {neg : Bool} {a b : List UInt8} (h1 : b.length ≤ 9) (h2 : a.length ≤ 19) (hf : fits (sgn neg (tv 10 (a ++ b))) = true) : worthL neg a b = (sgn neg (tv 10 (a ++ b)), b.length, 0) := by unfold worthL; rw [if_neg (by omega), if_pos hf]
theorem worthL_out {neg : Bool} {a b : List UInt8} (h1 : b.length ≤ 9) (h2 : a.length ≤ 19) (hf : fits (sgn neg (tv 10 (a ++ b))) = false) : worthL neg a b = (0, 0, 5) := by unfold worthL; rw [if_neg (by omega), if_neg (by rw [hf]; simp)]
theorem tv_nought (b : Nat) (l : List UInt8) : tv b (48 :: l) = tv b l := by rw [tv_cons, wv_nought]; omega
theorem fits_iff (x : Int) : fits x = true ↔ -9223372036854775808 ≤ x ∧ x ≤ 9223372036854775807 := by simp [fits]
set_option maxHeartbeats 4000000 in
theorem worth_dec (neg : Bool) (a b : List UInt8) (ha : Dig 10 a) (hb : Dig 10 b) (hla : a.length ≤ 140737488355328) (hlb : b.length ≤ 140737488355328) (w : World) :
    Calls Tryz.prog 63 #[.bool neg, .string ⟨a.toArray⟩, .string ⟨b.toArray⟩] w fun e W' => e = .returned (.tuple #[.agg #[.int .i64 (worthL neg a b).1, .int .i64 (worthL neg a b).2.1], .int .i64 (worthL neg a b).2.2]) ∧ Below w.heap.size w W' := by
  by_cases hb9 : b.length ≤ 9
  · by_cases ha19 : a.length ≤ 19
    · have HD : Hid (Dig 10 (48 :: (a ++ b))) := fun c hc => by
        rcases List.mem_cons.1 hc with h | h
        · rw [h, wv_nought]; omega
        · exact (ha.append hb) c h
      clear ha hb
      obtain ⟨V, hV⟩ : ∃ V : Nat, tv 10 (a ++ b) = V := ⟨_, rfl⟩
      have HV : Hid (tv 10 (48 :: (a ++ b)) = V) := by show _ = _; rw [tv_nought]; exact hV
      have hpc := parse_few ⟨(48 :: (a ++ b)).toArray⟩ (by rw [bsize]; simp) (by rw [bsize]; simp; omega) HD.out
      rw [show (ByteArray.mk (48 :: (a ++ b)).toArray).data.toList = 48 :: (a ++ b) from rfl, HV.out] at hpc
      have c1 := cat [48] a
      have c2 := cat (48 :: a) b
      have hnb : ¬ (9 : Int) < (b.length : Int) := by omega
      have hna : ¬ (19 : Int) < (a.length : Int) := by omega
      by_cases hf : fits (sgn neg V) = true
      · rw [worthL_in hb9 ha19 (by rw [hV]; exact hf), hV]
        have hf2 := (fits_iff _).1 hf
        have HF : Hid (-9223372036854775808 ≤ sgn neg V ∧ sgn neg V ≤ 9223372036854775807) := hf2
        clear hf hf2 hV HD
        have B0 : Below w.heap.size w w := Below.refl _ _
        go_enter Tryz.func63, Tryz.ntmps63
        go_wp2_with fail
        refine ent1 w _ _ (Q := fun W => Calls Tryz.prog _ _ W _) ?_
        intro x1 hb hs_x1 V0
        replace B0 := step B0 hb
        clear hb hs_x1
        refine (hpc _).mono ?_
        rintro e x2 ⟨p, l, c, zs, rfl, hN, hn, hb⟩
        replace V0 := Va.after hb V0
        replace B0 := step B0 hb
        clear hb
        have c_V0 := V0.c0
        have f0_V0 := V0.frozen 0
        have d_V0 := V0.c1
        have f1_V0 := V0.frozen 1
        have l_V0 := V0.lt
        have m_V0 := Nat.le_of_lt l_V0
        go_wp2_with fail
        refine ent1 x2 _ _ (Q := fun W => Calls Tryz.prog _ _ W _) ?_
        intro x3 hb hs_x3 V1
        replace V0 := Va.after hb V0
        replace hN := Nt.after hb hN
        replace B0 := step B0 hb
        clear hb hs_x3
        refine (wnew_any neg p l c zs _ hN).mono ?_
        rintro e x4 ⟨s', rfl, hI, hiv, hb⟩
        replace V0 := Va.after hb V0
        replace V1 := Va.after hb V1
        replace hN := Nt.after hb hN
        replace B0 := step B0 hb
        clear hb
        have HIV : Hid (iv s' zs = sgn neg V) := by show _ = _; rw [hiv]; exact iv_sgn neg zs V hn
        clear hiv
        clear c_V0 f0_V0 d_V0 f1_V0 l_V0 m_V0
        have c_V0 := V0.c0
        have f0_V0 := V0.frozen 0
        have d_V0 := V0.c1
        have f1_V0 := V0.frozen 1
        have l_V0 := V0.lt
        have m_V0 := Nat.le_of_lt l_V0
        go_wp2_with fail
        have hw := wint64_in s' p l c zs x4 hI (by rw [HIV.out]; exact HF.out.1) (by rw [HIV.out]; exact HF.out.2)
        rw [HIV.out] at hw
        refine (hw).mono ?_
        rintro e x5 ⟨rfl, hb⟩
        replace V0 := Va.after hb V0
        replace V1 := Va.after hb V1
        replace hN := Nt.after hb hN
        replace hI := It.after hb hI
        replace B0 := step B0 hb
        clear hb
        clear c_V0 f0_V0 d_V0 f1_V0 l_V0 m_V0
        have c_V0 := V0.c0
        have f0_V0 := V0.frozen 0
        have d_V0 := V0.c1
        have f1_V0 := V0.frozen 1
        have l_V0 := V0.lt
        have m_V0 := Nat.le_of_lt l_V0
        go_wp2_with fail
        refine bodyPost_ret (results_dt rfl rfl (V0.set2 _ _)) rfl ?_
        exact ⟨rfl, below_2 B0 (Nat.le_refl _) _ _⟩
      · have hf' : fits (sgn neg V) = false := by simpa using hf
        rw [worthL_out hb9 ha19 (by rw [hV]; exact hf')]
        have HF : Hid (sgn neg V < -9223372036854775808 ∨ 9223372036854775807 < sgn neg V) := by
          show _ ∨ _
          rcases Int.lt_or_le (sgn neg V) (-9223372036854775808) with h | h
          · exact .inl h
          · rcases Int.lt_or_le 9223372036854775807 (sgn neg V) with h' | h'
            · exact .inr h'
            · exact absurd ((fits_iff _).2 ⟨h, h'⟩) hf
        clear hf hf' hV HD
        have B0 : Below w.heap.size w w := Below.refl _ _
        go_enter Tryz.func63, Tryz.ntmps63
        go_wp2_with fail
        refine ent1 w _ _ (Q := fun W => Calls Tryz.prog _ _ W _) ?_
        intro x1 hb hs_x1 V0
        replace B0 := step B0 hb
        clear hb hs_x1
        refine (hpc _).mono ?_
        rintro e x2 ⟨p, l, c, zs, rfl, hN, hn, hb⟩
        replace V0 := Va.after hb V0
        replace B0 := step B0 hb
        clear hb
        have c_V0 := V0.c0
        have f0_V0 := V0.frozen 0
        have d_V0 := V0.c1
        have f1_V0 := V0.frozen 1
        have l_V0 := V0.lt
        have m_V0 := Nat.le_of_lt l_V0
        go_wp2_with fail
        refine ent1 x2 _ _ (Q := fun W => Calls Tryz.prog _ _ W _) ?_
        intro x3 hb hs_x3 V1
        replace V0 := Va.after hb V0
        replace hN := Nt.after hb hN
        replace B0 := step B0 hb
        clear hb hs_x3
        refine (wnew_any neg p l c zs _ hN).mono ?_
        rintro e x4 ⟨s', rfl, hI, hiv, hb⟩
        replace V0 := Va.after hb V0
        replace V1 := Va.after hb V1
        replace hN := Nt.after hb hN
        replace B0 := step B0 hb
        clear hb
        have HIV : Hid (iv s' zs = sgn neg V) := by show _ = _; rw [hiv]; exact iv_sgn neg zs V hn
        clear hiv
        clear c_V0 f0_V0 d_V0 f1_V0 l_V0 m_V0
        have c_V0 := V0.c0
        have f0_V0 := V0.frozen 0
        have d_V0 := V0.c1
        have f1_V0 := V0.frozen 1
        have l_V0 := V0.lt
        have m_V0 := Nat.le_of_lt l_V0
        go_wp2_with fail
        have hw := wint64_out s' p l c zs x4 hI (by rw [HIV.out]; exact HF.out)
        refine (hw).mono ?_
        rintro e x5 ⟨rfl, hb⟩
        replace V0 := Va.after hb V0
        replace V1 := Va.after hb V1
        replace hN := Nt.after hb hN
        replace hI := It.after hb hI
        replace B0 := step B0 hb
        clear hb
        clear c_V0 f0_V0 d_V0 f1_V0 l_V0 m_V0
        have c_V0 := V0.c0
        have f0_V0 := V0.frozen 0
        have d_V0 := V0.c1
        have f1_V0 := V0.frozen 1
        have l_V0 := V0.lt
        have m_V0 := Nat.le_of_lt l_V0
        go_wp2_with fail
        refine bodyPost_ret (results_dt rfl rfl (V0.set2 _ _)) rfl ?_
        exact ⟨rfl, below_2 B0 (Nat.le_refl _) _ _⟩
    · rw [worthL_over (Or.inr (by omega))]
      have hnb : ¬ (9 : Int) < (b.length : Int) := by omega
      have hna : (19 : Int) < (a.length : Int) := by omega
      go_enter Tryz.func63, Tryz.ntmps63
      go_wp2_with fail
      refine bodyPost_ret (results_dt rfl rfl (Va.new w _ _)) rfl ?_
      exact ⟨rfl, (Below.refl _ _).alloc (Nat.le_refl _) _⟩
  · rw [worthL_over (Or.inl (by omega))]
    have hnb : (9 : Int) < (b.length : Int) := by omega
    go_enter Tryz.func63, Tryz.ntmps63
    go_wp2_with fail
    refine bodyPost_ret (results_dt rfl rfl (Va.new w _ _)) rfl ?_
    exact ⟨rfl, (Below.refl _ _).alloc (Nat.le_refl _) _⟩
end Go.Proofs.YtebbblhafjaaiaaGreatDoor
