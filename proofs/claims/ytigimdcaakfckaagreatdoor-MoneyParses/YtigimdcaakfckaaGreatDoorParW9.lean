/-
  MoneyParses: the walk.
-/
import Derived.Test.YtigimdcaakfckaaGreatDoorRp9e
import Derived.Test.YtigimdcaakfckaaGreatDoorAw9
namespace Go.Proofs.YtigimdcaakfckaaGreatDoor
open Go.RowKit Go.Shelf
set_option linter.unusedVariables false

theorem rparse9 (nm s : List UInt8) (D : Nat) (w : World) (hC : Cur nm D) (hs : s.length ≤ 140737488355328) (T : R9) (hT : parR nm D s = T) :
    Calls Tryz.prog 36 #[.agg #[.string ⟨nm.toArray⟩, .int .i64 D], .string ⟨s.toArray⟩] w fun e w' => e = .returned (.tuple #[.int .i64 (out9 T).1, .int .i64 (out9 T).2.1, .int .i64 (out9 T).2.2]) ∧ Below w.heap.size w w' := by
  have hD : D ≤ 4 := by have := hC.2.2.2; omega
  obtain rfl | rfl | rfl | rfl | rfl : D = 0 ∨ D = 1 ∨ D = 2 ∨ D = 3 ∨ D = 4 := by omega
  · exact rparse9_0 nm s w hC hs T hT
  · exact rparse9_1 nm s w hC hs T hT
  · exact rparse9_2 nm s w hC hs T hT
  · exact rparse9_3 nm s w hC hs T hT
  · exact rparse9_4 nm s w hC hs T hT
theorem rparse9_no (nm : List UInt8) (D : Int) (s : ByteArray) (w : World) (hC : ¬ Cur nm D) :
    Calls Tryz.prog 36 #[.agg #[.string ⟨nm.toArray⟩, .int .i64 D], .string s] w fun e w' => e = .returned (.tuple #[.int .i64 0, .int .i64 0, .int .i64 90]) ∧ Below w.heap.size w w' := by
  have B0 : Below w.heap.size w w := Below.refl _ _
  go_enter Tryz.func36, Tryz.ntmps36
  go_wp2_with fail
  refine ent1 w _ _ (Q := fun W => Calls Tryz.prog _ _ W _) ?_
  intro x1 hb hs_x1 V0
  replace B0 := step B0 hb
  clear hb hs_x1
  refine (rcheck9_no nm D hC _).mono ?_
  rintro e x2 ⟨rfl, hb⟩
  replace V0 := Va.after hb V0
  replace B0 := step B0 hb
  clear hb
  have c_V0 := V0.c0
  have f0_V0 := V0.frozen 0
  have d_V0 := V0.c1
  have f1_V0 := V0.frozen 1
  have l_V0 := V0.lt
  have m_V0 := Nat.le_of_lt l_V0
  go_wp2_with fail
  (try simp only [Exit.inBlock, Exit.then])
  refine bodyPost_ret (results_tmp3 rfl _ _ _) rfl ?_
  exact ⟨rfl, B0⟩
set_option maxHeartbeats 2000000 in
theorem parses_walk (nm s : List UInt8) (D0 : Int) (w : World) (hs : s.length ≤ 140737488355328) (hP : Pt w) (hT : Tm w) :
    Calls Tryz.prog 7 #[.agg #[.string ⟨nm.toArray⟩, .int .i64 D0], .string ⟨s.toArray⟩] w fun e w' => e = .returned (.bool true) ∧ Below w.heap.size w w' := by
  have HP : Hid (Pt w) := hP
  have HT : Hid (Tm w) := hT
  clear hP hT
  by_cases hC : Cur nm D0
  · obtain ⟨D, rfl⟩ : ∃ D : Nat, D0 = D := ⟨D0.toNat, by have := hC.2.2.1; omega⟩
    have h1 := fun W => rparse9 nm s D W hC hs _ rfl
    have h2 := fun W h => parse9 nm s D W hC hs h
    obtain ⟨⟨n, at0, er⟩, ho⟩ : ∃ r, out9 (parR nm D s) = r := ⟨_, rfl⟩
    rw [ho] at h1 h2
    simp only at h1 h2
    clear ho
    have B0 : Below w.heap.size w w := Below.refl _ _
    go_enter Tryz.func7, Tryz.ntmps7
    go_wp2_with fail
    refine ent1 w _ _ (Q := fun W => Calls Tryz.prog _ _ W _) ?_
    intro x1 hb hs_x1 V0
    replace B0 := step B0 hb
    clear hb hs_x1
    refine (h1 _).mono ?_
    rintro e x2 ⟨rfl, hb⟩
    replace V0 := Va.after hb V0
    replace B0 := step B0 hb
    clear hb
    have c_V0 := V0.c0
    have f0_V0 := V0.frozen 0
    have d_V0 := V0.c1
    have f1_V0 := V0.frozen 1
    have l_V0 := V0.lt
    have m_V0 := Nat.le_of_lt l_V0
    go_wp2_with fail
    refine (h2 _ (HT.out.to B0)).mono ?_
    rintro e x3 ⟨rfl, hb⟩
    replace V0 := Va.after hb V0
    replace B0 := step B0 hb
    clear hb
    clear c_V0 f0_V0 d_V0 f1_V0 l_V0 m_V0
    have c_V0 := V0.c0
    have f0_V0 := V0.frozen 0
    have d_V0 := V0.c1
    have f1_V0 := V0.frozen 1
    have l_V0 := V0.lt
    have m_V0 := Nat.le_of_lt l_V0
    go_wp2_with fail
    refine (awake9 _ (HP.out.to B0) (HT.out.to B0)).mono ?_
    rintro e x4 ⟨rfl, hb⟩
    replace V0 := Va.after hb V0
    replace B0 := step B0 hb
    clear hb
    clear c_V0 f0_V0 d_V0 f1_V0 l_V0 m_V0
    go_wp2_with fail
    go_ret
    exact ⟨by simp, B0⟩
  · have h1 := fun W => rparse9_no nm D0 ⟨s.toArray⟩ W hC
    have h2 := fun W => parse9_no nm D0 ⟨s.toArray⟩ W hC
    have B0 : Below w.heap.size w w := Below.refl _ _
    go_enter Tryz.func7, Tryz.ntmps7
    go_wp2_with fail
    refine ent1 w _ _ (Q := fun W => Calls Tryz.prog _ _ W _) ?_
    intro x1 hb hs_x1 V0
    replace B0 := step B0 hb
    clear hb hs_x1
    refine (h1 _).mono ?_
    rintro e x2 ⟨rfl, hb⟩
    replace V0 := Va.after hb V0
    replace B0 := step B0 hb
    clear hb
    have c_V0 := V0.c0
    have f0_V0 := V0.frozen 0
    have d_V0 := V0.c1
    have f1_V0 := V0.frozen 1
    have l_V0 := V0.lt
    have m_V0 := Nat.le_of_lt l_V0
    go_wp2_with fail
    refine (h2 _).mono ?_
    rintro e x3 ⟨rfl, hb⟩
    replace V0 := Va.after hb V0
    replace B0 := step B0 hb
    clear hb
    clear c_V0 f0_V0 d_V0 f1_V0 l_V0 m_V0
    have c_V0 := V0.c0
    have f0_V0 := V0.frozen 0
    have d_V0 := V0.c1
    have f1_V0 := V0.frozen 1
    have l_V0 := V0.lt
    have m_V0 := Nat.le_of_lt l_V0
    go_wp2_with fail
    refine (awake9 _ (HP.out.to B0) (HT.out.to B0)).mono ?_
    rintro e x4 ⟨rfl, hb⟩
    replace V0 := Va.after hb V0
    replace B0 := step B0 hb
    clear hb
    clear c_V0 f0_V0 d_V0 f1_V0 l_V0 m_V0
    go_wp2_with fail
    go_ret
    exact ⟨by simp, B0⟩
end Go.Proofs.YtigimdcaakfckaaGreatDoor
