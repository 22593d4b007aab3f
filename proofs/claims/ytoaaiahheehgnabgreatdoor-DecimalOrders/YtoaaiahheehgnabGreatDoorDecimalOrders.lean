/-
  For every two int64s and every two ints DecimalOrders returns true; its arguments read as before. Conditions: the listed variables hold what the program's text lays.
-/
import Derived.Test.YtoaaiahheehgnabGreatDoorDec3
import Derived.Test.YtoaaiahheehgnabGreatDoorDec6
import Derived.Test.YtoaaiahheehgnabGreatDoorDec7
import Derived.Test.YtoaaiahheehgnabGreatDoorRows
import Derived.Test.YtoaaiahheehgnabGreatDoorFmt10
import Derived.Lib.LaidTab
import Derived.Stop.LaidErr
import Derived.Test.YtoaaiahheehgnabGreatDoorCards
import Derived.Test.YtoaaiahheehgnabGreatDoorTie
import Derived.Lay
import Derived.LaidLaws
import Derived.MakeChecks
import Derived.SevenTiedAt
import Derived.WalkKit
import Derived.ProofKit
import Derived.OpenShut
import Derived.ShutString
import Derived.ChangeOld
import Derived.SizedLaws
namespace Go.Proofs.YtoaaiahheehgnabGreatDoor
open Go.RowKit Go.Shelf
set_option linter.unusedVariables false

theorem aw1 : readL [45, 50, 46, 53, 48] = (-25, 1, 0, 0) := by decide
theorem aw2 : readL [53, 46, 120] = (0, 0, 2, 60) := by decide
theorem aw3 : dtx (-5) 2 = [45, 48, 46, 48, 53] := by
  unfold dtx
  rw [show Int.natAbs (-5) = 5 from rfl, Go.Lib.decDigits_one (by omega)]
  decide
set_option maxHeartbeats 4000000 in
theorem awake6 (w : World) (hT : Pt w) : Calls Tryz.prog 6 #[] w fun e W' => e = .returned (.bool true) ∧ Below w.heap.size w W' := by
  have p1 := parse_dec [45, 50, 46, 53, 48] (by decide)
  rw [aw1] at p1
  have p2 := parse_dec [53, 46, 120] (by decide)
  rw [aw2] at p2
  have HT : Hid (Pt w) := hT
  clear hT
  have B0 : Below w.heap.size w w := Below.refl _ _
  go_enter Tryz.func6, Tryz.ntmps6
  go_wp2_with fail
  refine (p1 _).mono ?_
  rintro e x1 ⟨rfl, hb⟩
  replace B0 := step B0 hb
  clear hb
  go_wp2_with fail
  refine ent1 x1 _ _ (Q := fun W => Calls Tryz.prog _ _ W _) ?_
  intro x2 hb hs_x2 V0
  replace B0 := step B0 hb
  clear hb hs_x2
  have t1 := dtext_ok (-5) 2 (by omega) (by omega) ⟨by omega, fun _ => by decide⟩ x2 (HT.out.to B0)
  rw [aw3] at t1
  refine (t1).mono ?_
  rintro e x3 ⟨rfl, hb⟩
  replace V0 := Va.after hb V0
  replace B0 := step B0 hb
  clear hb
  have c_V0 := V0.c0
  have f0_V0 := V0.frozen 0
  have d_V0 := V0.c1
  have f1_V0 := V0.frozen 1
  have l_V0 := V0.lt
  have m_V0 := Nat.le_of_lt l_V0
  go_wp2_with fail
  refine (p2 _).mono ?_
  rintro e x4 ⟨rfl, hb⟩
  replace V0 := Va.after hb V0
  replace B0 := step B0 hb
  clear hb
  clear c_V0 f0_V0 d_V0 f1_V0 l_V0 m_V0
  have c_V0 := V0.c0
  have f0_V0 := V0.frozen 0
  have d_V0 := V0.c1
  have f1_V0 := V0.frozen 1
  have l_V0 := V0.lt
  have m_V0 := Nat.le_of_lt l_V0
  go_wp2_with fail
  refine ent1 x4 _ _ (Q := fun W => Calls Tryz.prog _ _ W _) ?_
  intro x5 hb hs_x5 V1
  replace V0 := Va.after hb V0
  replace B0 := step B0 hb
  clear hb hs_x5
  refine (check_no 20 1 (fun h => h.2.2 (by omega) rfl) _).mono ?_
  rintro e x6 ⟨rfl, hb⟩
  replace V0 := Va.after hb V0
  replace V1 := Va.after hb V1
  replace B0 := step B0 hb
  clear hb
  clear c_V0 f0_V0 d_V0 f1_V0 l_V0 m_V0
  go_wp2_with fail
  go_ret
  exact ⟨rfl, B0⟩
end Go.Proofs.YtoaaiahheehgnabGreatDoor
namespace Go.Proofs.YtoaaiahheehgnabGreatDoor
open Go.RowKit Go.Shelf
set_option linter.unusedVariables false

theorem qcmp_turn (x y : Rat) : qcmp y x = - qcmp x y := by unfold qcmp cmp3; grind
theorem qcmp_small (x y : Rat) : -1 ≤ qcmp x y ∧ qcmp x y ≤ 1 := by unfold qcmp cmp3; grind
theorem qcmp_zero {x y : Rat} (h : qcmp x y = 0) : x = y := by
  rcases Rat.le_total (a := x) (b := y) with h1 | h1
  · rcases Rat.le_iff_lt_or_eq.1 h1 with h2 | h2
    · rw [qcmp_lt h2] at h; omega
    · exact h2
  · rcases Rat.le_iff_lt_or_eq.1 h1 with h2 | h2
    · rw [qcmp_gt h2] at h; omega
    · exact h2.symm
theorem can_same {U V : Int} {P Q : Nat} (h : Can U P) (k : Can V Q) : decide (qcmp (Rat.divInt U (10 ^ P)) (Rat.divInt V (10 ^ Q)) = 0) = (decide (U = V) && decide (P = Q)) := by
  rw [Bool.eq_iff_iff]
  simp only [decide_eq_true_eq, Bool.and_eq_true]
  constructor
  · intro e
    exact can_inj h k (qcmp_zero e)
  · rintro ⟨rfl, rfl⟩
    exact qcmp_eq _
set_option maxHeartbeats 8000000 in
theorem orders_walk (a b p q : Int) (w : World) (a1 : -9223372036854775808 ≤ a) (a2 : a ≤ 9223372036854775807) (b1 : -9223372036854775808 ≤ b) (b2 : b ≤ 9223372036854775807) (hPt : Pt w) (hTn : Tn w) :
    Calls Tryz.prog 4 #[.int .i64 a, .int .i64 b, .int .i64 p, .int .i64 q] w fun e W' => e = .returned (.bool true) ∧ Below w.heap.size w W' := by
  have HPt : Hid (Pt w) := hPt
  have HTn : Hid (Tn w) := hTn
  clear hPt hTn
  by_cases hp : 0 ≤ p ∧ p ≤ 9
  · obtain ⟨P0, rfl⟩ : ∃ P0 : Nat, p = P0 := ⟨p.toNat, by omega⟩
    have hm1 := make_ok a P0 (by omega) a1 a2
    have hc1 := mkd_can P0 a (by omega)
    have hd1 := mkd_bound P0 a a1 a2
    obtain ⟨⟨U, P⟩, hUP⟩ : ∃ q, mkd a P0 = q := ⟨_, rfl⟩
    rw [hUP] at hm1 hc1 hd1
    simp only at hm1 hc1 hd1
    clear hUP
    by_cases hq : 0 ≤ q ∧ q ≤ 9
    · obtain ⟨Q0, rfl⟩ : ∃ Q0 : Nat, q = Q0 := ⟨q.toNat, by omega⟩
      have hm2 := make_ok b Q0 (by omega) b1 b2
      have hc2 := mkd_can Q0 b (by omega)
      have hd2 := mkd_bound Q0 b b1 b2
      obtain ⟨⟨V, Q⟩, hVQ⟩ : ∃ q, mkd b Q0 = q := ⟨_, rfl⟩
      rw [hVQ] at hm2 hc2 hd2
      simp only at hm2 hc2 hd2
      clear hVQ
      have hr1 : ∀ W, Tn W → _ := fun W hW => rat_ok U P hd1.1 hd1.2 hc1 W hW
      have hr2 : ∀ W, Tn W → _ := fun W hW => rat_ok V Q hd2.1 hd2.2 hc2 W hW
      have hn1 : ∀ W, Tn W → _ := fun W hW => dcmp_ok U V P Q hd1.1 hd1.2 hc1 hd2.1 hd2.2 hc2 W hW
      have hn2 : ∀ W, Tn W → _ := fun W hW => dcmp_ok V U Q P hd2.1 hd2.2 hc2 hd1.1 hd1.2 hc1 W hW
      have hsame := can_same hc1 hc2
      rw [qcmp_turn (Rat.divInt U (10 ^ P)) (Rat.divInt V (10 ^ Q))] at hn2
      have hq3 := qcmp_small (Rat.divInt U (10 ^ P)) (Rat.divInt V (10 ^ Q))
      obtain ⟨n, hn⟩ : ∃ n, qcmp (Rat.divInt U (10 ^ P)) (Rat.divInt V (10 ^ Q)) = n := ⟨_, rfl⟩
      have HN : Hid _ := hn
      rw [hn] at hn1 hn2 hsame hq3
      have hnn : IntKind.i64.wrap (-n) = -n := by rw [IntKind.wrap_i64]; omega
      have HSM : Hid (decide (n = 0) = (decide (U = V) && decide (P = Q))) := hsame
      clear hn hsame
      have B0 : Below w.heap.size w w := Below.refl _ _
      go_enter Tryz.func4, Tryz.ntmps4
      go_wp2_with fail
      refine (awake6 _ (HPt.out.to B0)).mono ?_
      rintro e x1 ⟨rfl, hb⟩
      replace B0 := step B0 hb
      clear hb
      go_wp2_with fail
      refine (hm1 _).mono ?_
      rintro e x2 ⟨rfl, hb⟩
      replace B0 := step B0 hb
      clear hb
      go_wp2_with fail
      refine ent1 x2 _ _ (Q := fun W => Calls Tryz.prog _ _ W _) ?_
      intro x3 hb hs_x3 V0
      replace B0 := step B0 hb
      clear hb hs_x3
      refine (hm2 _).mono ?_
      rintro e x4 ⟨rfl, hb⟩
      replace V0 := Va.after hb V0
      replace B0 := step B0 hb
      clear hb
      have c_V0 := V0.c0
      have f0_V0 := V0.frozen 0
      have d_V0 := V0.c1
      have f1_V0 := V0.frozen 1
      have l_V0 := V0.lt
      have m_V0 := Nat.le_of_lt l_V0
      go_wp2_with fail
      skip
      refine ent1 x4 _ _ (Q := fun W => Calls Tryz.prog _ _ W _) ?_
      intro x5 hb hs_x5 V1
      replace V0 := Va.after hb V0
      replace B0 := step B0 hb
      clear hb hs_x5
      refine (hr1 _ (HTn.out.to B0)).mono ?_
      rintro e x6 ⟨s, aa, l, c, z, bb, m, d, y, rfl, hx, hb⟩
      replace V0 := Va.after hb V0
      replace V1 := Va.after hb V1
      replace B0 := step B0 hb
      clear hb
      clear c_V0 f0_V0 d_V0 f1_V0 l_V0 m_V0
      have c_V0 := V0.c0
      have f0_V0 := V0.frozen 0
      have d_V0 := V0.c1
      have f1_V0 := V0.frozen 1
      have l_V0 := V0.lt
      have m_V0 := Nat.le_of_lt l_V0
      have c_V1 := V1.c0
      have f0_V1 := V1.frozen 0
      have d_V1 := V1.c1
      have f1_V1 := V1.frozen 1
      have l_V1 := V1.lt
      have m_V1 := Nat.le_of_lt l_V1
      go_wp2_with fail
      refine ent1 x6 _ _ (Q := fun W => Calls Tryz.prog _ _ W _) ?_
      intro x7 hb hs_x7 X0
      replace V0 := Va.after hb V0
      replace V1 := Va.after hb V1
      replace hx := Rt.after hb hx
      replace B0 := step B0 hb
      clear hb hs_x7
      refine (hr2 _ (HTn.out.to B0)).mono ?_
      rintro e x8 ⟨s2, aa2, l2, c2, z2, bb2, m2, d2, y2, rfl, hy, hb⟩
      replace V0 := Va.after hb V0
      replace V1 := Va.after hb V1
      replace X0 := Va.after hb X0
      replace hx := Rt.after hb hx
      replace B0 := step B0 hb
      clear hb
      clear c_V0 f0_V0 d_V0 f1_V0 l_V0 m_V0 c_V1 f0_V1 d_V1 f1_V1 l_V1 m_V1
      have c_V0 := V0.c0
      have f0_V0 := V0.frozen 0
      have d_V0 := V0.c1
      have f1_V0 := V0.frozen 1
      have l_V0 := V0.lt
      have m_V0 := Nat.le_of_lt l_V0
      have c_V1 := V1.c0
      have f0_V1 := V1.frozen 0
      have d_V1 := V1.c1
      have f1_V1 := V1.frozen 1
      have l_V1 := V1.lt
      have m_V1 := Nat.le_of_lt l_V1
      have p0_V0 := (V0.old (.cells #[.bool s2, .slice aa2 l2 c2, .slice bb2 m2 d2] 40)).c0
      have q0_V0 := (V0.old (.cells #[.bool s2, .slice aa2 l2 c2, .slice bb2 m2 d2] 40)).frozen 0
      have p1_V0 := (V0.old (.cells #[.bool s2, .slice aa2 l2 c2, .slice bb2 m2 d2] 40)).c1
      have q1_V0 := (V0.old (.cells #[.bool s2, .slice aa2 l2 c2, .slice bb2 m2 d2] 40)).frozen 1
      have p0_V1 := (V1.old (.cells #[.bool s2, .slice aa2 l2 c2, .slice bb2 m2 d2] 40)).c0
      have q0_V1 := (V1.old (.cells #[.bool s2, .slice aa2 l2 c2, .slice bb2 m2 d2] 40)).frozen 0
      have p1_V1 := (V1.old (.cells #[.bool s2, .slice aa2 l2 c2, .slice bb2 m2 d2] 40)).c1
      have q1_V1 := (V1.old (.cells #[.bool s2, .slice aa2 l2 c2, .slice bb2 m2 d2] 40)).frozen 1
      go_wp2_with fail
      clear c_V0 f0_V0 d_V0 f1_V0 l_V0 m_V0 c_V1 f0_V1 d_V1 f1_V1 l_V1 m_V1 p0_V0 q0_V0 p1_V0 q1_V0 p0_V1 q0_V1 p1_V1 q1_V1
      refine ent1 x8 _ _ (Q := fun W => Calls Tryz.prog _ _ W _) ?_
      intro x9 hb hs_x9 X1
      replace V0 := Va.after hb V0
      replace V1 := Va.after hb V1
      replace X0 := Va.after hb X0
      replace hx := Rt.after hb hx
      replace hy := Rt.after hb hy
      replace B0 := step B0 hb
      clear hb hs_x9
      refine (hn1 _ (HTn.out.to B0)).mono ?_
      rintro e x10 ⟨rfl, hb⟩
      replace V0 := Va.after hb V0
      replace V1 := Va.after hb V1
      replace X0 := Va.after hb X0
      replace X1 := Va.after hb X1
      replace hx := Rt.after hb hx
      replace hy := Rt.after hb hy
      replace B0 := step B0 hb
      clear hb
      have c_V0 := V0.c0
      have f0_V0 := V0.frozen 0
      have d_V0 := V0.c1
      have f1_V0 := V0.frozen 1
      have l_V0 := V0.lt
      have m_V0 := Nat.le_of_lt l_V0
      have c_V1 := V1.c0
      have f0_V1 := V1.frozen 0
      have d_V1 := V1.c1
      have f1_V1 := V1.frozen 1
      have l_V1 := V1.lt
      have m_V1 := Nat.le_of_lt l_V1
      go_wp2_with fail
      refine (hn2 _ (HTn.out.to B0)).mono ?_
      rintro e x11 ⟨rfl, hb⟩
      replace V0 := Va.after hb V0
      replace V1 := Va.after hb V1
      replace X0 := Va.after hb X0
      replace X1 := Va.after hb X1
      replace hx := Rt.after hb hx
      replace hy := Rt.after hb hy
      replace B0 := step B0 hb
      clear hb
      clear c_V0 f0_V0 d_V0 f1_V0 l_V0 m_V0 c_V1 f0_V1 d_V1 f1_V1 l_V1 m_V1
      have c_X0 := X0.d0
      have f0_X0 := X0.frozen 0
      have d_X0 := X0.d1
      have f1_X0 := X0.frozen 1
      have e_X0 := X0.d2
      have f2_X0 := X0.frozen 2
      have l_X0 := X0.lt
      have m_X0 := Nat.le_of_lt l_X0
      have c_X1 := X1.d0
      have f0_X1 := X1.frozen 0
      have d_X1 := X1.d1
      have f1_X1 := X1.frozen 1
      have e_X1 := X1.d2
      have f2_X1 := X1.frozen 2
      have l_X1 := X1.lt
      have m_X1 := Nat.le_of_lt l_X1
      go_wp2_with fail
      have hqc := qcompare_any s aa l c z bb m d y _ s2 aa2 l2 c2 z2 bb2 m2 d2 y2 _ x11 hx hy
      rw [HN.out] at hqc
      refine (hqc).mono ?_
      rintro e x12 ⟨rfl, hb⟩
      replace V0 := Va.after hb V0
      replace V1 := Va.after hb V1
      replace X0 := Va.after hb X0
      replace X1 := Va.after hb X1
      replace hx := Rt.after hb hx
      replace hy := Rt.after hb hy
      replace B0 := step B0 hb
      clear hb
      by_cases hn0 : n = 0
      ·
        have hUV : U = V ∧ P = Q := by have h := HSM.out; rw [decide_eq_true hn0] at h; simpa using h.symm
        obtain ⟨rfl, rfl⟩ := hUV
        subst hn0
        clear c_X0 f0_X0 d_X0 f1_X0 e_X0 f2_X0 l_X0 m_X0 c_X1 f0_X1 d_X1 f1_X1 e_X1 f2_X1 l_X1 m_X1
        have c_V0 := V0.c0
        have f0_V0 := V0.frozen 0
        have d_V0 := V0.c1
        have f1_V0 := V0.frozen 1
        have l_V0 := V0.lt
        have m_V0 := Nat.le_of_lt l_V0
        have c_V1 := V1.c0
        have f0_V1 := V1.frozen 0
        have d_V1 := V1.c1
        have f1_V1 := V1.frozen 1
        have l_V1 := V1.lt
        have m_V1 := Nat.le_of_lt l_V1
        go_wp2_with fail
        go_ret
        exact ⟨rfl, B0⟩
      ·
        have hUV : (decide (U = V) && decide (P = Q)) = false := by rw [← HSM.out]; simpa using hn0
        have hnb : (n == 0) = false := by simpa using hn0
        by_cases hu : U = V
        ·
          subst hu
          have hpn : P ≠ Q := by simpa using hUV
          have hpi : (P : Int) ≠ (Q : Int) := by omega
          have hpq : ((P : Int) == (Q : Int)) = false := by simpa using hpi
          have hpq2 : (P == Q) = false := by simpa using hpn
          clear hUV
          clear c_X0 f0_X0 d_X0 f1_X0 e_X0 f2_X0 l_X0 m_X0 c_X1 f0_X1 d_X1 f1_X1 e_X1 f2_X1 l_X1 m_X1
          have c_V0 := V0.c0
          have f0_V0 := V0.frozen 0
          have d_V0 := V0.c1
          have f1_V0 := V0.frozen 1
          have l_V0 := V0.lt
          have m_V0 := Nat.le_of_lt l_V0
          have c_V1 := V1.c0
          have f0_V1 := V1.frozen 0
          have d_V1 := V1.c1
          have f1_V1 := V1.frozen 1
          have l_V1 := V1.lt
          have m_V1 := Nat.le_of_lt l_V1
          go_wp2_with fail
          go_ret
          exact ⟨rfl, B0⟩
        ·
          have hub : (U == V) = false := by simpa using hu
          clear hUV
          clear c_X0 f0_X0 d_X0 f1_X0 e_X0 f2_X0 l_X0 m_X0 c_X1 f0_X1 d_X1 f1_X1 e_X1 f2_X1 l_X1 m_X1
          have c_V0 := V0.c0
          have f0_V0 := V0.frozen 0
          have d_V0 := V0.c1
          have f1_V0 := V0.frozen 1
          have l_V0 := V0.lt
          have m_V0 := Nat.le_of_lt l_V0
          have c_V1 := V1.c0
          have f0_V1 := V1.frozen 0
          have d_V1 := V1.c1
          have f1_V1 := V1.frozen 1
          have l_V1 := V1.lt
          have m_V1 := Nat.le_of_lt l_V1
          go_wp2_with fail
          go_ret
          exact ⟨rfl, B0⟩
    · have hm2 := make_no b q hq
      have B0 : Below w.heap.size w w := Below.refl _ _
      go_enter Tryz.func4, Tryz.ntmps4
      go_wp2_with fail
      refine (awake6 _ (HPt.out.to B0)).mono ?_
      rintro e x1 ⟨rfl, hb⟩
      replace B0 := step B0 hb
      clear hb
      go_wp2_with fail
      refine (hm1 _).mono ?_
      rintro e x2 ⟨rfl, hb⟩
      replace B0 := step B0 hb
      clear hb
      go_wp2_with fail
      refine ent1 x2 _ _ (Q := fun W => Calls Tryz.prog _ _ W _) ?_
      intro x3 hb hs_x3 V0
      replace B0 := step B0 hb
      clear hb hs_x3
      refine (hm2 _).mono ?_
      rintro e x4 ⟨rfl, hb⟩
      replace V0 := Va.after hb V0
      replace B0 := step B0 hb
      clear hb
      have c_V0 := V0.c0
      have f0_V0 := V0.frozen 0
      have d_V0 := V0.c1
      have f1_V0 := V0.frozen 1
      have l_V0 := V0.lt
      have m_V0 := Nat.le_of_lt l_V0
      go_wp2_with fail
      go_ret
      exact ⟨rfl, B0.alloc B0.size _⟩
  · have hm1 := make_no a p hp
    by_cases hq : 0 ≤ q ∧ q ≤ 9
    · obtain ⟨Q0, rfl⟩ : ∃ Q0 : Nat, q = Q0 := ⟨q.toNat, by omega⟩
      have hm2 := make_ok b Q0 (by omega) b1 b2
      have B0 : Below w.heap.size w w := Below.refl _ _
      go_enter Tryz.func4, Tryz.ntmps4
      go_wp2_with fail
      refine (awake6 _ (HPt.out.to B0)).mono ?_
      rintro e x1 ⟨rfl, hb⟩
      replace B0 := step B0 hb
      clear hb
      go_wp2_with fail
      refine (hm1 _).mono ?_
      rintro e x2 ⟨rfl, hb⟩
      replace B0 := step B0 hb
      clear hb
      go_wp2_with fail
      refine ent1 x2 _ _ (Q := fun W => Calls Tryz.prog _ _ W _) ?_
      intro x3 hb hs_x3 V0
      replace B0 := step B0 hb
      clear hb hs_x3
      refine (hm2 _).mono ?_
      rintro e x4 ⟨rfl, hb⟩
      replace V0 := Va.after hb V0
      replace B0 := step B0 hb
      clear hb
      have c_V0 := V0.c0
      have f0_V0 := V0.frozen 0
      have d_V0 := V0.c1
      have f1_V0 := V0.frozen 1
      have l_V0 := V0.lt
      have m_V0 := Nat.le_of_lt l_V0
      go_wp2_with fail
      go_ret
      exact ⟨rfl, B0.alloc B0.size _⟩
    · have hm2 := make_no b q hq
      have B0 : Below w.heap.size w w := Below.refl _ _
      go_enter Tryz.func4, Tryz.ntmps4
      go_wp2_with fail
      refine (awake6 _ (HPt.out.to B0)).mono ?_
      rintro e x1 ⟨rfl, hb⟩
      replace B0 := step B0 hb
      clear hb
      go_wp2_with fail
      refine (hm1 _).mono ?_
      rintro e x2 ⟨rfl, hb⟩
      replace B0 := step B0 hb
      clear hb
      go_wp2_with fail
      refine ent1 x2 _ _ (Q := fun W => Calls Tryz.prog _ _ W _) ?_
      intro x3 hb hs_x3 V0
      replace B0 := step B0 hb
      clear hb hs_x3
      refine (hm2 _).mono ?_
      rintro e x4 ⟨rfl, hb⟩
      replace V0 := Va.after hb V0
      replace B0 := step B0 hb
      clear hb
      have c_V0 := V0.c0
      have f0_V0 := V0.frozen 0
      have d_V0 := V0.c1
      have f1_V0 := V0.frozen 1
      have l_V0 := V0.lt
      have m_V0 := Nat.le_of_lt l_V0
      go_wp2_with fail
      go_ret
      exact ⟨rfl, B0.alloc B0.size _⟩
end Go.Proofs.YtoaaiahheehgnabGreatDoor
namespace Go.Proofs.YtoaaiahheehgnabGreatDoor
open Go.RowKit Go.Shelf
set_option linter.unusedVariables false

theorem gPow : Tryz.prog.globalNamed "internal/strconv.uint64pow10" = some 6 := by kernel_rfl
theorem gPowT : (Tryz.prog.globals[6]?).map (·.type) = some 197 := by kernel_rfl
theorem cPow : Tryz.prog.cellsOf 197 = 20 := by kernel_rfl
theorem cU64 : Tryz.prog.cellsOf 79 = 1 := by kernel_rfl
theorem ptOf {W : World} {rest : List (String × DataW Unit)} (h : laidMet Tryz.prog (("internal/strconv.uint64pow10", Rows.laid_internal_strconv_uint64pow10) :: rest) W) : Pt W :=
  Go.Lib.tabIs_of_head (zs := Go.Lib.pow10Tab) gPow gPowT Tryz.underlying197 Tryz.underlying79 cU64 cPow h
end Go.Proofs.YtoaaiahheehgnabGreatDoor
namespace Go.Proofs.YtoaaiahheehgnabGreatDoor
open Go.RowKit Go.Shelf
set_option linter.unusedVariables false

theorem gTens : Tryz.prog.globalNamed "tollbook/decimal.tens" = some 0 := by kernel_rfl
theorem gTensT : (Tryz.prog.globals[0]?).map (·.type) = some 75 := by kernel_rfl
theorem cTens : Tryz.prog.cellsOf 75 = 10 := by kernel_rfl
theorem cI64 : Tryz.prog.cellsOf 2 = 1 := by kernel_rfl
theorem tnOf {W : World} {rest : List (String × DataW Unit)} (h : laidMet Tryz.prog (("tollbook/decimal.tens", Rows.laid_tollbook_decimal_tens) :: rest) W) : Tn W :=
  Go.Lib.tabIs_of_head (zs := [1, 10, 100, 1000, 10000, 100000, 1000000, 10000000, 100000000, 1000000000]) gTens gTensT Tryz.underlying75 Tryz.underlying2 cI64 cTens h
end Go.Proofs.YtoaaiahheehgnabGreatDoor
namespace Go.Proofs.YtoaaiahheehgnabGreatDoor
set_option linter.unusedVariables false
theorem wf64 {a : Int} (w : (Lit.int .i64 a).wf = true) : -9223372036854775808 ≤ a ∧ a ≤ 9223372036854775807 := by simp [Lit.wf, IntKind.min, IntKind.max, IntKind.signed, IntKind.bits] at w; omega
theorem decimalOrders_walk0 (a0 a1 a2 a3 : Int) (W : World) (w0 : (Lit.int .i64 a0).wf = true) (w1 : (Lit.int .i64 a1).wf = true) (w2 : (Lit.int .i64 a2).wf = true) (w3 : (Lit.int .i64 a3).wf = true) (hP : Pt W) (hT : Tn W) :
    Calls Tryz.prog 4 #[.int .i64 a0, .int .i64 a1, .int .i64 a2, .int .i64 a3] W fun e W' => e = .returned (.bool true) ∧ Go.RowKit.Below W.heap.size W W' :=
  orders_walk a0 a1 a2 a3 W (wf64 w0).1 (wf64 w0).2 (wf64 w1).1 (wf64 w1).2 hP hT
end Go.Proofs.YtoaaiahheehgnabGreatDoor
namespace Go.Proofs.YtoaaiahheehgnabGreatDoor.decimalOrders
open Go.ChangeShapes Go.WideShapes Go.ChangeAt Go.RowKit
set_option linter.unusedVariables false

theorem own : ownKnob Tryz.prog.godebug = none := by kernel_rfl
theorem laidOut : laidOutB Tryz.prog = true := by kernel_rfl
theorem bytes8 : Tryz.prog.bytesOf 79 = 8 := by kernel_rfl

set_option maxRecDepth 100000 in
theorem contract (H : Type) (enc : TypeId × Value → H) (W : World) (base : Nat) (args : Array Value) (ds gs : List (DataW H)) (before : List MemPlace)
    (hval : ∀ (j : Nat) t v, Tryz.f4.params[j]? = some t → args[j]? = some v → Value.okWide Tryz.prog W .any base t v)
    (hW : DataW.Whole enc Tryz.prog Tryz.f4.params.toList Rows.decimalOrdersSpec.vars false W args.toList ds gs before) (hsz : (DataW.weightsEach Tryz.prog (Tryz.f4.params.toList ++ Rows.decimalOrdersSpec.plain.varTypes Tryz.prog) (ds ++ gs)).all (· ≤ reachBytes) = true) (hL0 : laidMetH Tryz.prog Rows.decimalOrdersRow.laid W) :
    Calls Tryz.prog 4 args W fun e W' => ∃ v, e = .returned v ∧ Rows.decimalOrdersSpec.post enc Tryz.prog Tryz.f4 false true false false W args v W' := by
  rw [MakeChecks.laidMetH_plain _ _ _ (by kernel_rfl)] at hL0
  have tb0 := by first | exact ptOf hL0 | exact ptOf hL0.tail | exact ptOf hL0.tail.tail | exact ptOf hL0.tail.tail.tail | exact ptOf hL0.tail.tail.tail.tail | exact ptOf hL0.tail.tail.tail.tail.tail | exact ptOf hL0.tail.tail.tail.tail.tail.tail | exact ptOf hL0.tail.tail.tail.tail.tail.tail.tail
  have tb1 := by first | exact tnOf hL0 | exact tnOf hL0.tail | exact tnOf hL0.tail.tail | exact tnOf hL0.tail.tail.tail | exact tnOf hL0.tail.tail.tail.tail | exact tnOf hL0.tail.tail.tail.tail.tail | exact tnOf hL0.tail.tail.tail.tail.tail.tail | exact tnOf hL0.tail.tail.tail.tail.tail.tail.tail
  have hW' := hW
  obtain ⟨p, q, hA0, hV, rfl, hfz, hnd⟩ := hW
  have hA : DataW.TrodAll enc Tryz.prog W 0 (fun _ => true) true Tryz.f4.params.toList args.toList ds p := hA0
  rw [Tryz.params4] at hA hval hsz
  obtain ⟨v0, vs0, d0, ds0, p0, q0, hargs, rfl, rfl, h0, r0⟩ := trodAll_cons hA
  obtain ⟨v1, vs1, d1, ds1, p1, q1, rfl, rfl, rfl, h1, r1⟩ := trodAll_cons r0
  obtain ⟨v2, vs2, d2, ds2, p2, q2, rfl, rfl, rfl, h2, r2⟩ := trodAll_cons r1
  obtain ⟨v3, vs3, d3, ds3, p3, q3, rfl, rfl, rfl, h3, r3⟩ := trodAll_cons r2
  obtain ⟨rfl, rfl, rfl⟩ := trodAll_nil r3
  obtain rfl : args = #[v0, v1, v2, v3] := by cases args; simp_all
  obtain ⟨rfl, rfl⟩ := trodVars_none hV
  obtain ⟨a0, rfl, rfl, rfl, w0⟩ := open_int Tryz.underlying2 (hval 0 2 v0 rfl rfl) h0
  obtain ⟨a1, rfl, rfl, rfl, w1⟩ := open_int Tryz.underlying2 (hval 1 2 v1 rfl rfl) h1
  obtain ⟨a2, rfl, rfl, rfl, w2⟩ := open_int Tryz.underlying3 (hval 2 3 v2 rfl rfl) h2
  obtain ⟨a3, rfl, rfl, rfl, w3⟩ := open_int Tryz.underlying3 (hval 3 3 v3 rfl rfl) h3
  clear hA0
  refine (decimalOrders_walk0 a0 a1 a2 a3 W w0 w1 w2 w3 tb0 tb1).mono fun e W' ⟨he, bel⟩ => ?_
  subst he
  exact ⟨_, rfl, _, _, _, [], _, [], hW', trodAll_mk1 (shut_bool Tryz.underlying4 _), (trodAll_cons_mk (shut_int Tryz.underlying2 w0) (trodAll_cons_mk (shut_int Tryz.underlying2 w1) (trodAll_cons_mk (shut_int Tryz.underlying3 w2) (trodAll_cons_mk (shut_int Tryz.underlying3 w3) trodAll_mk0)))), rfl, bel.frame _, fun h => by cases h⟩

set_option maxRecDepth 100000 in
theorem lifted (os : Os) (started : os.Started) (H : Type) (enc : TypeId × Value → H) :
    ReturnsInHanded {} Tryz.checked os 4 .any (fun w args => (Rows.decimalOrdersSpec.pre enc Tryz.prog Tryz.f4 [] false w args ∧ laidMetH Tryz.prog Rows.decimalOrdersRow.laid w) ∧ sizedMet enc Tryz.prog Tryz.f4 (OpenSpec.ofChange Rows.decimalOrdersSpec) false w args)
      (Rows.decimalOrdersSpec.post enc Tryz.prog Tryz.f4 false true false false) := by
  refine returnsInHanded_of_change_and (C := Tryz.checked) (X := fun w _ => laidMetH Tryz.prog Rows.decimalOrdersRow.laid w) (fun _ _ _ hh h => h.of_heap hh) own started (by kernel_rfl) Tryz.func4
    (ChangeSpec.witness_shaped (enc := enc) (C := Tryz.checked) (os := os) (X := fun w _ => laidMetH Tryz.prog Rows.decimalOrdersRow.laid w) false (World.laidAll Tryz.prog os Rows.decimalOrdersRow.laid) #[.int .i64 0, .int .i64 0, .int .i64 0, .int .i64 0] 8 (World.laidAll_os _ _ _)
      (World.shaped_of_ZipB (by kernel_rfl) (by kernel_rfl)) (by kernel_rfl) (by kernel_rfl) (by kernel_rfl)
      (by rw [MakeChecks.laidMetH_plain _ _ _ (by kernel_rfl)]; exact laidMet_laidAll _ (by kernel_rfl) (by kernel_rfl))) ?_
  intro W base args ds gs before hval0 hW _ hsz0 hL _
  exact contract H enc W base args ds gs before hval0 hW hsz0 hL

theorem over : Rows.decimalOrdersRow.holds Tryz.pinned (OpenSpec.ofChange Rows.decimalOrdersSpec) :=
  OpenClaim.holds_of_wide 4 Tryz.f4 rfl rfl rfl rfl rfl rfl rfl ⟨rfl, rfl, rfl, rfl, rfl⟩ rfl rfl rfl rfl rfl (by kernel_rfl) Tryz.func4 (by kernel_rfl)
    (of_decide_eq_true (by kernel_rfl)) (by unfold Func.isWrapper; first | (rw [if_pos (by decide +kernel)]; kernel_rfl) | (rw [if_neg (by decide +kernel)]; exact ⟨rfl, rfl⟩))
    (fun os started H enc _ => lifted os started H enc)
end Go.Proofs.YtoaaiahheehgnabGreatDoor.decimalOrders
namespace Go.Proofs.YtoaaiahheehgnabGreatDoor
theorem decimalOrders_plain (f : FuncId) (fn : Func) (hf : Tryz.pinned.checked.prog.funcNamed "tollbook/tollbooklaw06.DecimalOrders" = some f) (hfn : Tryz.pinned.checked.prog.funcs[f]? = some fn) :
    false = Tryz.pinned.checked.prog.looks [] ∧ ∀ (j : Nat) t, fn.params[j]? = some t → Tryz.pinned.checked.prog.wantsStandIn t = false := by
  obtain rfl : f = 4 := Option.some.inj ((show Tryz.prog.funcNamed "tollbook/tollbooklaw06.DecimalOrders" = some 4 by kernel_rfl).symm.trans hf) |>.symm
  obtain rfl : fn = Tryz.f4 := (Option.some.inj (Tryz.func4.symm.trans hfn)).symm
  refine ⟨by kernel_rfl, fun j t ht => ?_⟩
  rw [Tryz.params4] at ht
  have hm : t ∈ [2, 3] := by have := Array.mem_of_getElem? ht; simp at this; simp; omega
  have hall : ([2, 3].all fun u => !Tryz.prog.wantsStandIn u) = true := by kernel_rfl
  exact (show Tryz.prog.wantsStandIn t = false by simpa using List.all_eq_true.1 hall t hm)
theorem decimalOrdersCard_holds : Rows.DecimalOrdersCardSaid :=
  Claim7.holds_tied_plain_at .later [] _ _ _ _ decimalOrders.over (fun _ h => by cases h) (by kernel_rfl) (fun _ h => by cases h) decimalOrders_row_tie rfl ⟨rfl, rfl⟩ (by kernel_rfl) rfl decimalOrders_plain (by kernel_rfl)
#print axioms decimalOrdersCard_holds
end Go.Proofs.YtoaaiahheehgnabGreatDoor
