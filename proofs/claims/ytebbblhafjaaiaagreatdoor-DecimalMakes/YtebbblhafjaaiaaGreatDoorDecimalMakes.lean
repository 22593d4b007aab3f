/-
  For every decimal, every number of units and every number of places DecimalMakes returns true; what is handed in reads as before. Conditions: the listed variables hold what the program's text lays.
-/
import Derived.Test.YtebbblhafjaaiaaGreatDoorDec1
import Derived.Test.YtebbblhafjaaiaaGreatDoorRt4
import Derived.Lib.LaidTab
import Derived.Lib.AppendIntMem
import Derived.Test.YtebbblhafjaaiaaGreatDoorBsJ
import Derived.Test.YtebbblhafjaaiaaGreatDoorBsL
import Derived.Test.YtebbblhafjaaiaaGreatDoorTxP
import Derived.Test.YtebbblhafjaaiaaGreatDoorBsK
import Derived.Test.YtebbblhafjaaiaaGreatDoorGrow
import Derived.Laws.MakeOwn
import Derived.Laws.IdiomStrings
import Derived.Test.YtebbblhafjaaiaaGreatDoorShelf
import Derived.Test.YtebbblhafjaaiaaGreatDoorBsF
import Derived.Shelf.Strconv.Itoa4
import Derived.Test.YtebbblhafjaaiaaGreatDoorJoinFew
import Derived.Test.YtebbblhafjaaiaaGreatDoorBsH
import Derived.Test.YtebbblhafjaaiaaGreatDoorBsM
import Derived.Shelf.Strings.BuilderK
import Derived.Shelf.Strings.Builder2
import Derived.Shelf.Strings.Repeat
import Derived.Test.YtebbblhafjaaiaaGreatDoorReads2
import Derived.Test.YtebbblhafjaaiaaGreatDoorDecT
import Derived.Test.YtebbblhafjaaiaaGreatDoorStrP
import Derived.Deep.QuietTactic
import Derived.BigQuiet
import Derived.Test.YtebbblhafjaaiaaGreatDoorRt3
import Derived.Test.YtebbblhafjaaiaaGreatDoorDec6
import Derived.Test.YtebbblhafjaaiaaGreatDoorRows
import Derived.Stop.LaidErr
import Derived.Test.YtebbblhafjaaiaaGreatDoorCards
import Derived.Test.YtebbblhafjaaiaaGreatDoorTie
import Derived.Lay
import Derived.LaidLaws
import Derived.MakeChecks
import Derived.SevenTiedAt
import Derived.WalkKit
import Derived.ProofKit
import Derived.OpenShut
import Derived.ShutString
import Derived.ChangeOld
import Derived.SizedLaws
import Derived.Lib.SmallJoins
namespace Go.Proofs.YtebbblhafjaaiaaGreatDoor
open Go.RowKit Go.Shelf
set_option linter.unusedVariables false

/-- The table of the powers of ten of decimal. -/
def Tn (w : World) : Prop := Go.Lib.TabIs Tryz.prog w "tollbook/decimal.tens" .i64 [1, 10, 100, 1000, 10000, 100000, 1000000, 10000000, 100000000, 1000000000]
theorem Tn.to {w w' : World} (h : Tn w) (hb : Below w.heap.size w w') : Tn w' := Go.Lib.tabBelow_of_tabIs h w' hb
theorem Tn.cell {w : World} (h : Tn w) (P : Nat) (hP : P ≤ 9) : w.cell? ⟨0, P, none⟩ = some (.int .i64 (10 ^ P)) := by
  have := Go.Lib.TabIs.cell (g := 0) h (by kernel_rfl) P (by simp; omega)
  rw [this]
  match P, hP with
  | 0, _ => rfl
  | 1, _ => rfl
  | 2, _ => rfl
  | 3, _ => rfl
  | 4, _ => rfl
  | 5, _ => rfl
  | 6, _ => rfl
  | 7, _ => rfl
  | 8, _ => rfl
  | 9, _ => rfl
theorem short64 {x y : Int} (h1 : -9223372036854775808 ≤ x) (h2 : x ≤ 9223372036854775807) (h3 : -9223372036854775808 ≤ y) (h4 : y ≤ 9223372036854775807) (h0 : y ≠ 0) : Short (Rat.divInt x y) := by
  have b1 : (9223372036854775808 : Int) < pw 1024 := Int.lt_of_lt_of_le (by decide : (9223372036854775808 : Int) < pw 1) (pw_mono (by omega))
  unfold Short
  rw [Rat.num_divInt, Rat.den_divInt, if_neg h0]
  have g1 : ((y.sign * x) / (y.gcd x : Nat)).natAbs ≤ x.natAbs := by
    have hd : ((y.gcd x : Nat) : Int) ∣ y.sign * x := Int.dvd_mul_of_dvd_right (Int.gcd_dvd_right ..)
    rw [Int.natAbs_ediv_of_dvd hd, Int.natAbs_mul, Int.natAbs_sign_of_ne_zero h0, Nat.one_mul]
    exact Nat.div_le_self _ _
  have g2 := Nat.div_le_self y.natAbs (y.gcd x)
  exact ⟨Int.lt_of_le_of_lt (by omega) b1, Int.lt_of_le_of_lt (by omega) b1⟩
theorem ten_bound {P : Nat} (hP : P ≤ 9) : 1 ≤ (10 : Int) ^ P ∧ (10 : Int) ^ P ≤ 1000000000 := by
  match P, hP with
  | 0, _ => decide
  | 1, _ => decide
  | 2, _ => decide
  | 3, _ => decide
  | 4, _ => decide
  | 5, _ => decide
  | 6, _ => decide
  | 7, _ => decide
  | 8, _ => decide
  | 9, _ => decide
set_option maxHeartbeats 4000000 in
theorem rat_ok (U : Int) (P : Nat) (h1 : -9223372036854775808 ≤ U) (h2 : U ≤ 9223372036854775807) (hc : Can U P) (w : World) (hT : Tn w) :
    Calls Tryz.prog 16 #[.agg #[.int .i64 U, .int .i64 P]] w fun e W' => ∃ s a l c zs b m d ds, e = .returned (.tuple #[.agg #[.bool s, .slice a l c, .slice b m d], .int .i64 0]) ∧ Rt W' s a l c zs b m d ds (Rat.divInt U (10 ^ P)) ∧ Below w.heap.size w W' := by
  have HC : Hid (CanI U P) := (canI_iff U P).2 hc
  have hP := hc.1
  clear hc
  obtain ⟨T, hTT⟩ : ∃ T : Int, (10 : Int) ^ P = T := ⟨_, rfl⟩
  have hTb := ten_bound hP
  have hTc : Hid (∀ W, Below w.heap.size w W → W.cell? ⟨0, P, none⟩ = some (.int .i64 T)) := fun W hb => by rw [← hTT]; exact (hT.to hb).cell P hP
  rw [hTT] at hTb ⊢
  have HS : Hid (Short (Rat.divInt U T)) := short64 h1 h2 (by omega) (by omega) (by omega)
  have hP10 : (P : Int) < 10 := by omega
  clear hTT
  have B0 : Below w.heap.size w w := Below.refl _ _
  go_enter Tryz.func16, Tryz.ntmps16
  go_wp2_with fail
  refine ent2 w _ _ _ _ (Q := fun W => Calls Tryz.prog _ _ W _) ?_
  intro x1 hb hs_x1 V0 V1
  replace B0 := step B0 hb
  clear hb hs_x1
  refine (check_ok U P HC.out _).mono ?_
  rintro e x2 ⟨rfl, hb⟩
  replace V0 := Va.after hb V0
  replace V1 := Va.after hb V1
  replace B0 := step B0 hb
  clear hb
  have c_V0 := V0.c0
  have f0_V0 := V0.frozen 0
  have d_V0 := V0.c1
  have f1_V0 := V0.frozen 1
  have l_V0 := V0.lt
  have m_V0 := Nat.le_of_lt l_V0
  go_wp2_with fail
  clear c_V0 f0_V0 d_V0 f1_V0 l_V0 m_V0
  refine wp_region_noPanic ?_
  replace V0 : Va x2.drew _ _ _ := V0
  replace V1 : Va x2.drew _ _ _ := V1
  replace B0 := Below.drew B0
  refine wp_region_held_drew (S := (fun W => W.cell? ⟨w.heap.size, 0, none⟩ = some (.int .i64 U) ∧ W.cell? ⟨w.heap.size, 1, none⟩ = some (.int .i64 P) ∧ W.cell? ⟨0, P, none⟩ = some (.int .i64 T))) (by kernel_rfl) ⟨V0.c0, V0.c1, (hTc.out _ B0)⟩ (fun hHeld => ?_)
  obtain ⟨x3, hxd⟩ : ∃ xd, xd = x2.drew := ⟨_, rfl⟩
  rw [← hxd] at V0 V1 B0 hHeld ⊢
  clear hxd
  refine wpAnyH_take (i := 0) (v := ?_) rfl (by kernel_rfl) (by kernel_rfl) (by kernel_rfl) (fun _ _ _ h => h) (Or.inl ⟨by rfl, ?_⟩) hHeld ?_
  rotate_left
  · (intro W hSw; (try dsimp only at hSw); go_simp; all_goals (with_reducible rfl))
  simp only [List.getElem_toArray, List.getElem_cons_zero, Act.put, List.setIfInBounds_toArray, List.set_cons_zero, List.set_cons_succ]
  refine wpAnyH_take (i := 1) (v := ?_) rfl (by kernel_rfl) (by kernel_rfl) (by kernel_rfl) (fun _ _ _ h => h) (Or.inl ⟨by rfl, ?_⟩) hHeld ?_
  rotate_left
  · (intro W hSw; (try dsimp only at hSw); go_simp; all_goals (with_reducible rfl))
  simp only [List.getElem_toArray, List.getElem_cons_zero, List.getElem_cons_succ, Act.put, List.setIfInBounds_toArray, List.set_cons_zero, List.set_cons_succ]
  refine wpAnyH_take (i := 2) (v := ?_) rfl (by kernel_rfl) (by kernel_rfl) (by kernel_rfl) (fun _ _ _ h => h) (Or.inl ⟨by rfl, ?_⟩) hHeld ?_
  rotate_left
  · (intro W hSw; (try dsimp only at hSw); go_simp; all_goals (with_reducible rfl))
  simp only [List.getElem_toArray, List.getElem_cons_zero, List.getElem_cons_succ, Act.put, List.setIfInBounds_toArray, List.set_cons_zero, List.set_cons_succ]
  refine wpAnyH_take (i := 3) (v := ?_) rfl (by kernel_rfl) (by kernel_rfl) (by kernel_rfl) (fun _ _ _ h => h) (Or.inl ⟨by rfl, ?_⟩) hHeld ?_
  rotate_left
  · (intro W hSw; (try dsimp only at hSw); go_simp; all_goals (with_reducible rfl))
  simp only [List.getElem_toArray, List.getElem_cons_zero, List.getElem_cons_succ, Act.put, List.setIfInBounds_toArray, List.set_cons_zero, List.set_cons_succ]
  refine wpAnyH_take (i := 4) (v := ?_) rfl (by kernel_rfl) (by kernel_rfl) (by kernel_rfl) (fun _ _ _ h => h) (Or.inl ⟨by rfl, ?_⟩) hHeld ?_
  rotate_left
  · (intro W hSw; (try dsimp only at hSw); go_simp; all_goals (with_reducible rfl))
  simp only [List.getElem_toArray, List.getElem_cons_zero, List.getElem_cons_succ, Act.put, List.setIfInBounds_toArray, List.set_cons_zero, List.set_cons_succ]
  refine wpAnyH_take (i := 5) (v := ?_) rfl (by kernel_rfl) (by kernel_rfl) (by kernel_rfl) (fun _ _ _ h => h) (Or.inl ⟨by rfl, ?_⟩) hHeld ?_
  rotate_left
  · (intro W hSw; (try dsimp only at hSw); go_simp; all_goals (with_reducible rfl))
  simp only [List.getElem_toArray, List.getElem_cons_zero, List.getElem_cons_succ, Act.put, List.setIfInBounds_toArray, List.set_cons_zero, List.set_cons_succ]
  refine wpAnyH_ready (rs := [6]) (by kernel_rfl) (by simp) ?_
  refine AllReadyH.cons rfl (fun K hK => ?_) AllReadyH.nil
  simp only [List.getElem_toArray, List.getElem_cons_zero, List.getElem_cons_succ]
  go_simp
  refine (qsmall_ok U T h1 h2 (by omega) (by omega) (by omega) _).mono ?_
  rintro e x4 ⟨er, s', a', l', c', z', b', m', d', y', v', rfl, h', hra, hb⟩
  replace V0 := Va.after hb V0
  replace V1 := Va.after hb V1
  replace B0 := step B0 hb
  clear hb
  obtain ⟨-, rfl, rfl⟩ := hra.out.resolve_right (fun h => h.1 HS.out)
  clear hra
  try go_wp2_with fail
  refine hK.out _ _ ⟨V0.c0, V0.c1, (hTc.out _ B0)⟩ (fun hHeld => ?_)
  clear hK K
  refine wpAnyH_take (i := 7) (v := ?_) rfl (by kernel_rfl) (by kernel_rfl) (by kernel_rfl) (fun _ _ _ h => h) (Or.inl ⟨by rfl, ?_⟩) hHeld ?_
  rotate_left
  · (intro W hSw; (try dsimp only at hSw); go_simp; all_goals (with_reducible rfl))
  simp only [List.getElem_toArray, List.getElem_cons_zero, List.getElem_cons_succ, Act.put, List.setIfInBounds_toArray, List.set_cons_zero, List.set_cons_succ]
  refine wpAnyH_take (i := 8) (v := ?_) rfl (by kernel_rfl) (by kernel_rfl) (by kernel_rfl) (fun _ _ _ h => h) (Or.inl ⟨by rfl, ?_⟩) hHeld ?_
  rotate_left
  · (intro W hSw; (try dsimp only at hSw); go_simp; all_goals (with_reducible rfl))
  simp only [List.getElem_toArray, List.getElem_cons_zero, List.getElem_cons_succ, Act.put, List.setIfInBounds_toArray, List.set_cons_zero, List.set_cons_succ]
  have c_V1 := V1.d0
  have f0_V1 := V1.frozen 0
  have d_V1 := V1.d1
  have f1_V1 := V1.frozen 1
  have e_V1 := V1.d2
  have f2_V1 := V1.frozen 2
  have l_V1 := V1.lt
  have m_V1 := Nat.le_of_lt l_V1
  refine wpAnyH_ready (rs := [9]) (by kernel_rfl) (by simp) ?_
  refine AllReadyH.cons rfl (fun K hK => ?_) AllReadyH.nil
  simp only [List.getElem_toArray, List.getElem_cons_zero, List.getElem_cons_succ]
  go_simp
  clear c_V1 f0_V1 d_V1 f1_V1 e_V1 f2_V1 l_V1 m_V1
  refine sto3 V1 (.bool s') (.slice a' l' c') (.slice b' m' d') (Q := fun W => K _ W) ?_
  intro x5 V' oth far
  replace V0 := oth _ _ _ (by first | omega | assumption | (simp; omega)) V0
  replace h' := h'.far V1 (noInt3 _ _ _ _ _ _ _) far.1
  replace B0 := far.2 _ _ (by first | omega | (simp; omega)) B0
  replace V1 := V'
  clear oth far
  refine hK.out _ _ ⟨V0.c0, V0.c1, (hTc.out _ B0)⟩ (fun hHeld => ?_)
  clear hK K
  refine wpAnyH_take (i := 10) (v := ?_) rfl (by kernel_rfl) (by kernel_rfl) (by kernel_rfl) (fun _ _ _ h => h) (Or.inl ⟨by rfl, ?_⟩) hHeld ?_
  rotate_left
  · (intro W hSw; (try dsimp only at hSw); go_simp; all_goals (with_reducible rfl))
  simp only [List.getElem_toArray, List.getElem_cons_zero, List.getElem_cons_succ, Act.put, List.setIfInBounds_toArray, List.set_cons_zero, List.set_cons_succ]
  refine wpAnyH_done (by kernel_rfl) ?_ _
  refine NoPanic.normal ?_
  clear hHeld
  go_wp2_with fail
  refine bodyPost_ret (results_rt rfl rfl V1) rfl ?_
  exact ⟨s', a', l', c', z', b', m', d', y', rfl, h', B0⟩
set_option maxHeartbeats 4000000 in
theorem rat_no (U P : Int) (hc : ¬ CanI U P) (w : World) :
    Calls Tryz.prog 16 #[.agg #[.int .i64 U, .int .i64 P]] w fun e W' => e = .returned (.tuple #[.agg #[.bool false, .slice none 0 0, .slice none 0 0], .int .i64 60]) ∧ Below w.heap.size w W' := by
  have B0 : Below w.heap.size w w := Below.refl _ _
  go_enter Tryz.func16, Tryz.ntmps16
  go_wp2_with fail
  refine ent2 w _ _ _ _ (Q := fun W => Calls Tryz.prog _ _ W _) ?_
  intro x1 hb hs_x1 V0 V1
  replace B0 := step B0 hb
  clear hb hs_x1
  refine (check_no U P hc _).mono ?_
  rintro e x2 ⟨rfl, hb⟩
  replace V0 := Va.after hb V0
  replace V1 := Va.after hb V1
  replace B0 := step B0 hb
  clear hb
  have c_V1 := V1.d0
  have f0_V1 := V1.frozen 0
  have d_V1 := V1.d1
  have f1_V1 := V1.frozen 1
  have e_V1 := V1.d2
  have f2_V1 := V1.frozen 2
  have l_V1 := V1.lt
  have m_V1 := Nat.le_of_lt l_V1
  go_wp2_with fail
  refine bodyPost_ret (results_rt rfl rfl (V1.set3 _ _ _)) rfl ?_
  exact ⟨rfl, belo3 B0 (by omega) _ _ _⟩
end Go.Proofs.YtebbblhafjaaiaaGreatDoor
namespace Go.Proofs.YtebbblhafjaaiaaGreatDoor
open Go.RowKit Go.Shelf

theorem gr_own {w : World} {B : Nat} {v : Value} {cs : List Int} (h : Gr w B v cs) : ∀ a cap, v = .slice a cs.length cap → ∀ x : Nat, x ≠ 0 → x = cs.length → ∃ g cur, a = some ⟨g, 0, none⟩ ∧ B ≤ g ∧ w.heap[g]? = some (.cells cur 94 (0, 0)) := by
  intro a cap hv x hx hxc
  obtain ⟨h1, h2 | ⟨g, cap2, cur, rfl, hB, hh, hc, hm, hs, ht⟩⟩ := h
  · omega
  · cases hv
    exact ⟨g, cur, rfl, hB, hh⟩
/-- A list of digits is answered, trimmed, of that number, in memory of its own. -/
def DRes3 (w w' : World) (e : Ending) (N : Int) (bound : Nat) : Prop :=
  ∃ a m c ds, e = .returned (.slice a m c) ∧ m ≤ c ∧ m ≤ bound ∧ Sl w' a m ds ∧ H.Limbs ds ∧ usedN ds = m ∧ H.num ds = N ∧ (m ≠ 0 → ∃ g cur, a = some ⟨g, 0, none⟩ ∧ w.heap.size ≤ g ∧ w'.heap[g]? = some (.cells cur 94 (0, 0))) ∧ Below w.heap.size w w'
set_option maxHeartbeats 400000 in
theorem cut3_any (a : Option Addr) (len cap : Nat) (zs : List Int) (w : World) (h : Sl w a len zs) (hl : len ≤ 40000000000000) (hcap : len ≤ cap) :
    Calls Tryz.prog 149 #[.slice a len cap] w fun e w' => e = .returned (.slice a (usedN zs) cap) ∧ w' = w := by
  obtain ⟨hz, hL, hc⟩ := h
  by_cases h0 : len = 0
  · subst h0
    have e0 : usedN zs = 0 := by have := usedN_le zs; omega
    rw [e0]
    cases a with
    | none =>
      go_enter Tryz.func149, Tryz.ntmps149
      go_wp2_with fail
      refine wp_loop_rounds 1 ?_
      rw [rounds_succ]
      go_wp2_with fail
      go_ret
      exact ⟨rfl, rfl⟩
    | some a =>
      go_enter Tryz.func149, Tryz.ntmps149
      go_wp2_with fail
      refine wp_loop_rounds 1 ?_
      rw [rounds_succ]
      go_wp2_with fail
      go_ret
      exact ⟨rfl, rfl⟩
  · obtain ⟨b, off, rfl, hcell⟩ := hc (by omega)
    go_enter Tryz.func149, Tryz.ntmps149
    go_wp2_with fail
    go_loop [3] (fun i => ∃ k : Nat, k ≤ len ∧ i = .int .i64 k ∧ Hid (∀ j, k ≤ j → j < len → zs.getD j 0 = 0)) (fun i => (intOf i).toNat)
    case atStart => exact ⟨len, Nat.le_refl _, rfl, fun j h1 h2 => absurd h1 (by omega)⟩
    case round =>
      obtain ⟨k, hk, rfl, hI⟩ := hrel
      by_cases hlt : 0 < k
      · have hcx := hcell (k - 1) (by omega)
        have ex : ((k : Int) - 1).toNat = k - 1 := by omega
        obtain ⟨x, hx⟩ : ∃ x, zs.getD (k - 1) 0 = x := ⟨_, rfl⟩
        rw [hx] at hcx
        have HX : Hid (zs.getD (k - 1) 0 = x) := hx
        clear hx
        by_cases hx0 : x = 0
        · have g1 : (x == 0) = true := by simp [hx0]
          have HX0 : Hid (x = 0) := hx0
          clear hx0
          go_wp2_with fail
          go_round
          case rel =>
            refine ⟨k - 1, by omega, by rw [show ((k - 1 : Nat) : Int) = (k : Int) - 1 by omega], ?_⟩
            intro j h1 h2
            by_cases hj : j = k - 1
            · rw [hj, HX.out, HX0.out]
            · exact hI.out j (by omega) h2
          case measure => simp [intOf]; omega
        · have g1 : (x == 0) = false := by simp [hx0]
          have hu : usedN zs = k := usedN_eq (by omega) (fun i h1 h2 => hI.out i h1 (by omega)) (.inr (by rw [HX.out]; exact hx0))
          have HU : Hid (usedN zs = k) := hu
          clear hu hx0
          go_wp2_with fail
          go_ret
          exact ⟨ret_sl HU.out.symm, rfl⟩
      · obtain rfl : k = 0 := by omega
        have hu : usedN zs = 0 := usedN_eq (by omega) (fun i h1 h2 => hI.out i (by omega) (by omega)) (.inl rfl)
        have HU : Hid (usedN zs = 0) := hu
        clear hu
        go_wp2_with fail
        go_ret
        exact ⟨ret_sl HU.out.symm, rfl⟩

set_option maxHeartbeats 1000000 in
theorem halves3 (a : Option Addr) (la ca : Nat) (zs : List Int) (w : World) (h : Sl w a la zs) (hl : la ≤ 8000000000000) :
    Calls Tryz.prog 147 #[.slice a la ca] w fun e w' => DRes3 w w' e (num zs) (2 * la) := by
  have hz := h.1
  have hL := h.2.1
  go_enter Tryz.func147, Tryz.ntmps147
  go_wp2_with fail
  go_loopw [3, 4] (fun v i wr => ∃ (k : Nat) (cs : List Int), k ≤ la ∧ i = .int .i64 k ∧ Hid (GInv zs cs k) ∧ Hid (Gr wr w.heap.size v cs) ∧ Below w.heap.size w wr) (fun _ i _ => la - (intOf i).toNat)
  case atStart => exact ⟨0, [], Nat.zero_le _, rfl, ⟨rfl, H.Limbs.nil, rfl⟩, Gr.nil _ _, Below.refl _ _⟩
  case round =>
    obtain ⟨k, cs, hk, rfl, hI, hG, hb⟩ := hrel
    by_cases hlt : k < la
    · have hs := h.below hb (Nat.le_refl _)
      obtain ⟨b, off, rfl, hcell⟩ := hs.2.2 (by omega)
      have hcx := hcell k hlt
      have hstep := ginv_step hL hI.out
      have hw := hL.getD k
      obtain ⟨x, hx⟩ : ∃ x, zs.getD k 0 = x := ⟨_, rfl⟩
      rw [hx] at hcx hstep hw
      obtain ⟨x1, x2⟩ := hw
      obtain ⟨d0, hd0⟩ : ∃ d, x % 4294967296 = d := ⟨_, rfl⟩
      obtain ⟨d1, hd1⟩ : ∃ d, x / 4294967296 = d := ⟨_, rfl⟩
      rw [hd0, hd1] at hstep
      have e1 : x.tmod 4294967296 = d0 := by rw [Int.tmod_eq_emod_of_nonneg x1, hd0]
      have e2 : IntKind.u64.wrap (x.tdiv 4294967296) = d1 := by rw [Int.tdiv_eq_ediv_of_nonneg x1, IntKind.wrap_u64]; omega
      have HS : Hid (GInv zs (cs ++ [d0, d1]) (k + 1)) := hstep
      have hcl : cs.length ≤ 2 * k := by have := hI.out.1; omega
      clear hs hcell hx hstep hd0 hd1
      go_wp2_with fail
      go_region_law (refine step_app rfl (.tmp 11) (.tmp 22) rfl w.heap.size u3 cs (by simp [Act.eval]) (by exact hG.out.alloc _) wr.heap.size 2 2 [d0, d1] (by simp [Act.eval]) rfl (by exact heap_alloc_new _ _) (by omega) (by have := hb.size; simp; omega) ?_; intro v1 w1 hG1 hb1)
      all_goals
        have hb2 : Below w.heap.size w w1 := ((hb.alloc hb.size _).drew).trans hb1
        have HG1 : Hid (Gr w1 w.heap.size v1 (cs ++ [d0, d1])) := hG1
        clear hG1 hb1
        go_wp2_with fail
        go_roundw
        case rel => exact ⟨k + 1, _, by omega, by go_num, HS, HG1, hb2⟩
        case measure => simp [intOf]; omega
    · obtain rfl : k = la := by omega
      obtain ⟨i1, i2, i3⟩ := hI.out
      rw [List.take_of_length_le (by omega)] at i3
      have hown := gr_own hG.out
      obtain ⟨aa, cap, hv, hcap, hsl⟩ := hG.out.sl i2.up
      have hu := usedN_le cs
      have hle : cs.length ≤ 2 * k := by omega
      rw [hv] at hown
      have HOWN : Hid (∀ x : Nat, x ≠ 0 → x = cs.length → ∃ g cur, aa = some ⟨g, 0, none⟩ ∧ w.heap.size ≤ g ∧ wr.heap[g]? = some (.cells cur 94 (0, 0))) := hown aa cap rfl
      rw [hv]
      clear hG hv i1 hown
      go_wp2_with fail
      refine (cut3_any aa cs.length cap cs _ hsl (by omega) hcap).mono ?_
      rintro e w2 ⟨rfl, rfl⟩
      go_wp2_with fail
      go_ret
      exact ⟨aa, usedN cs, cap, cs.take (usedN cs), rfl, by omega, by omega, hsl.take hu, i2.take _, usedN_take cs (Nat.le_refl _), by rw [H.num_take_used cs (Nat.le_refl _)]; exact i3, fun h0 => HOWN.out cs.length (by omega) rfl, hb⟩
set_option maxHeartbeats 1000000 in
theorem limbs3 (a : Option Addr) (m ca : Nat) (ds : List Int) (w : World) (h : Sl w a m ds) (hd : H.Limbs ds) (hl : m ≤ 17000000000000) :
    Calls Tryz.prog 201 #[.slice a m ca] w fun e w' => LRes w w' e (H.num ds) m := by
  have hz := h.1
  have HSL : Hid (Sl w a m ds) := h
  clear h
  go_enter Tryz.func201, Tryz.ntmps201
  go_wp2_with fail
  go_loopw [3, 4] (fun v i wr => ∃ (k : Nat) (cs : List Int), i = .int .i64 (2 * (k : Int)) ∧ 2 * k ≤ m + 1 ∧ Hid (LmInv ds cs k) ∧ Hid (Gr wr w.heap.size v cs) ∧ Below w.heap.size w wr) (fun _ i _ => m + 1 - (intOf i).toNat)
  case atStart => exact ⟨0, [], rfl, by omega, ⟨rfl, Limbs.nil, rfl⟩, Gr.nil _ _, Below.refl _ _⟩
  case round =>
    obtain ⟨k, cs, rfl, hk, hI, hG, hb⟩ := hrel
    by_cases hlt : 2 * k < m
    · have hs := HSL.out.below hb (Nat.le_refl _)
      obtain ⟨b, off, rfl, hcell⟩ := hs.2.2 (by omega)
      have hcx := hcell (2 * k) hlt
      have hstep := lm_step hd hI.out
      have b1 := hd.getD (2 * k); have b2 := hd.getD (2 * k + 1)
      have hcl : cs.length ≤ k := by have := hI.out.1; omega
      have hbs := hb.size
      have ek : (2 * (k : Int)).toNat = 2 * k := by omega
      have ek1 : (2 * (k : Int) + 1).toNat = 2 * k + 1 := by omega
      obtain ⟨x, hx⟩ : ∃ x, ds.getD (2 * k) 0 = x := ⟨_, rfl⟩
      obtain ⟨y, hy⟩ : ∃ y, ds.getD (2 * k + 1) 0 = y := ⟨_, rfl⟩
      rw [hx] at hcx hstep b1
      rw [hy] at hstep b2
      obtain ⟨x1, x2⟩ := b1; obtain ⟨y1, y2⟩ := b2
      by_cases hlt2 : 2 * k + 1 < m
      · have hcy := hcell (2 * k + 1) hlt2
        rw [hy] at hcy
        have HS : Hid (LmInv ds (cs ++ [x + 4294967296 * y]) (k + 1)) := hstep
        have HSZ : Hid (w.heap.size ≤ (wr.alloc (.cells (row [x + 4294967296 * y]).toArray 94)).heap.size) := by show _ ≤ _; simp; omega
        have q1 : (2 * (k : Int)) < m := by omega
        have q2 : (2 * (k : Int)) + 1 < m := by omega
        clear hs hcell hx hy hstep
        go_wp2_with (at_builtin; refine wpList_app rfl (.tmp 29) (.tmp 31) rfl w.heap.size u3 cs rfl (hG.out.alloc _) wr.heap.size 1 1 [x + 4294967296 * y] rfl rfl (heap_alloc_new _ _) (by omega) HSZ.out ?_; intro v1 w1 hG1 hb1)
        have hb2 : Below w.heap.size w w1 := (hb.alloc hbs _).trans hb1
        clear hb1
        go_wp2_with fail
        go_roundw
        case rel => exact ⟨k + 1, _, by rw [show 2 * ((k + 1 : Nat) : Int) = 2 * (k : Int) + 2 by omega], by omega, HS, hG1, hb2⟩
        case measure => simp [intOf]; omega
      · have hy0 : y = 0 := by rw [← hy, List.getD_eq_getElem?_getD, List.getElem?_eq_none (by omega)]; rfl
        rw [hy0, Int.mul_zero, Int.add_zero] at hstep
        have HS : Hid (LmInv ds (cs ++ [x]) (k + 1)) := hstep
        have HSZ : Hid (w.heap.size ≤ (wr.alloc (.cells (row [x]).toArray 94)).heap.size) := by show _ ≤ _; simp; omega
        have q1 : (2 * (k : Int)) < m := by omega
        have q2 : ¬ (2 * (k : Int)) + 1 < m := by omega
        clear hs hcell hx hy hstep hy0
        go_wp2_with (at_builtin; refine wpList_app rfl (.tmp 29) (.tmp 31) rfl w.heap.size u3 cs rfl (hG.out.alloc _) wr.heap.size 1 1 [x] rfl rfl (heap_alloc_new _ _) (by omega) HSZ.out ?_; intro v1 w1 hG1 hb1)
        have hb2 : Below w.heap.size w w1 := (hb.alloc hbs _).trans hb1
        clear hb1
        go_wp2_with fail
        go_roundw
        case rel => exact ⟨k + 1, _, by rw [show 2 * ((k + 1 : Nat) : Int) = 2 * (k : Int) + 2 by omega], by omega, HS, hG1, hb2⟩
        case measure => simp [intOf]; omega
    · obtain ⟨i1, i2, i3⟩ := hI.out
      have et : ds.take (2 * k) = ds := List.take_of_length_le (by omega)
      rw [et] at i3
      obtain ⟨aa, cap, gm, hv, hcap, hsl, -, hnil, -⟩ := hG.out.parts i2
      have hu := usedN_le cs
      have hle : cs.length ≤ m := by omega
      have q1 : ¬ (2 * (k : Int)) < m := by omega
      rw [hv]
      clear hG hv i1 et
      go_wp2_with fail
      refine (rtrim_any aa cs.length cap cs _ hsl hnil (by omega) hcap).mono ?_
      rintro e w2 ⟨a2, c2, rfl, s2, hc2, b2⟩
      go_wp2_with fail
      go_ret
      exact ⟨a2, usedN cs, c2, cs.take (usedN cs), rfl, hc2, by omega, s2, usedN_take cs (Nat.le_refl _), by rw [num_take_used cs (Nat.le_refl _)]; exact i3, step hb b2⟩

end Go.Proofs.YtebbblhafjaaiaaGreatDoor
namespace Go.Proofs.YtebbblhafjaaiaaGreatDoor
open Go.RowKit Go.Shelf
set_option linter.unusedVariables false

set_option maxHeartbeats 2000000 in
theorem onto_one (g cap : Nat) (p : Int) (cur : Array Value) (w : World) (h1 : 1 ≤ p) (h2 : p < 4294967296) (hg : w.heap[g]? = some (.cells cur 94 (0, 0))) (h0 : w.cell? ⟨g, 0, none⟩ = some (.int .u64 1)) :
    Calls Tryz.prog 200 #[.slice (some ⟨g, 0, none⟩) 1 cap, .int .u64 p, .int .u64 0] w fun e w' => e = .returned (.slice (some ⟨g, 0, none⟩) 1 cap) ∧ w' = w.setCell ⟨g, 0, none⟩ (.int .u64 p) := by
  have w1 : IntKind.u64.wrap p = p := by rw [IntKind.wrap_u64]; omega
  have m1 : p.tmod 4294967296 = p := by rw [Int.tmod_eq_emod_of_nonneg (by omega)]; omega
  have d1 : p.tdiv 4294967296 = 0 := by rw [Int.tdiv_eq_ediv_of_nonneg (by omega)]; omega
  have fz : w.frozen? ⟨g, 0, none⟩ = false := by simp [World.frozen?, hg]
  have lt : g < w.heap.size := by
    rcases Nat.lt_or_ge g w.heap.size with h | h
    · exact h
    · rw [Array.getElem?_eq_none h] at hg; cases hg
  go_enter Tryz.func200, Tryz.ntmps200
  go_wp2_with fail
  refine wp_loop_rounds 2 ?_
  rw [rounds_succ]
  go_wp2_with fail
  rw [rounds_succ]
  go_wp2_with fail
  go_ret
  exact ⟨rfl, rfl⟩
theorem one_half : H.Limbs [1] := fun z hz => by rw [List.mem_singleton.1 hz]; exact ⟨by decide, by decide⟩
theorem half_of {q : Int} (h : 1 ≤ q ∧ q < 4294967296) : H.Limbs [q] := fun z hz => by rw [List.mem_singleton.1 hz]; exact ⟨by omega, by omega⟩
theorem pow9 {i : Nat} (h : i ≤ 9) : (1 : Int) ≤ 10 ^ i ∧ (10 : Int) ^ i ≤ 1000000000 := by
  match i, h with
  | 0, _ | 1, _ | 2, _ | 3, _ | 4, _ | 5, _ | 6, _ | 7, _ | 8, _ | 9, _ => decide
theorem one_digits {a : Option Addr} {m : Nat} {ds : List Int} {w : World} (hs : Sl w a m ds) (hL : H.Limbs ds) (hu : usedN ds = m) (hm : m ≤ 2 * 1) (hN : H.num ds = num [1]) : ds = [1] ∧ m = 1 := by
  have hl := hs.1
  have e1 : num [1] = 1 := by decide
  rw [e1] at hN
  match ds, hl, hL, hu, hN with
  | [], _, _, _, hN => simp [H.num] at hN
  | [x], hl, _, _, hN =>
    have : x = 1 := by simpa [H.num] using hN
    subst this
    exact ⟨rfl, by simpa using hl.symm⟩
  | [x, y], hl, hL, hu, hN =>
    have bx := hL.getD 0
    have by' := hL.getD 1
    simp only [List.getD_cons_zero, List.getD_cons_succ] at bx by'
    simp only [H.num] at hN
    have y0 : y = 0 := by omega
    subst y0
    have := usedN_eq (zs := [x, 0]) (u := 1) (by simp) (fun i h1 h2 => by
      have : i = 1 := by simp at h2; omega
      subst this; rfl) (by right; simp; omega)
    simp at hl
    omega
  | x :: y :: z :: t, hl, _, _, _ => simp at hl; omega
set_option maxHeartbeats 2000000 in
theorem scale_one (a : Addr) (ca k : Nat) (hk : k ≤ 9) (w : World) (h : Sl w (some a) 1 [1]) :
    Calls Tryz.prog 164 #[.slice (some a) 1 ca, .int .i64 k] w fun e w' => ∃ a' m c zs, e = .returned (.tuple #[.slice a' m c, .int .i64 0]) ∧ m ≤ c ∧ m ≤ 1 ∧ Sl w' a' m zs ∧ usedN zs = m ∧ num zs = 10 ^ k ∧ Below w.heap.size w w' := by
  have g0 : decide ((k : Int) < 0) = false := by rw [decide_eq_false_iff_not]; omega
  go_enter Tryz.func164, Tryz.ntmps164
  go_wp2_with fail
  refine (halves3 (some a) 1 ca [1] _ h (by omega)).mono ?_
  rintro e x1 ⟨a1, m1, c1_, ds, rfl, hc, hm, hs, hL, hu, hN, hO, hb⟩
  obtain ⟨rfl, rfl⟩ := one_digits hs hL hu hm hN
  obtain ⟨g, cur, rfl, hB, hg⟩ := hO (by decide)
  have h0 : x1.cell? ⟨g, 0, none⟩ = some (.int .u64 1) := by
    obtain ⟨b, o, e, hcell⟩ := hs.2.2 (by decide)
    cases e
    exact hcell 0 (by decide)
  have B1 : Below w.heap.size w x1 := hb
  clear hb
  by_cases k0 : k = 0
  · subst k0
    clear hO hN hu hL hm
    go_wp2_with fail
    refine wp_loop_rounds 1 ?_
    rw [rounds_succ]
    go_wp2_with fail
    refine (limbs3 (some ⟨g, 0, none⟩) 1 c1_ [1] _ hs one_half (by omega)).mono ?_
    rintro e x2 ⟨a2, m2, c2, zs, rfl, hc2, hm2, hs2, hu2, hn2, hb2⟩
    go_wp2_with fail
    go_ret2
    exact ⟨a2, m2, c2, zs, rfl, hc2, hm2, hs2, hu2, by rw [hn2]; decide, step B1 hb2⟩
  · have g1 : decide ((0 : Int) < (k : Int)) = true := by rw [decide_eq_true_iff]; omega
    have mn : min (k : Int) 9 = (k : Int) := by omega
    have HK : Hid (k ≤ 9) := hk
    clear hO hN hu hL hm
    go_wp2_with fail
    refine wp_loop_rounds 2 ?_
    rw [rounds_succ]
    go_wp2_with fail
    go_loop [8, 9] (fun sp si => ∃ (i : Nat) (q : Int), sp = .int .u64 q ∧ si = .int .i64 i ∧ i ≤ k ∧ Hid (q = 10 ^ i)) (fun _ si => k - (intOf si).toNat)
    case atStart => exact ⟨0, 1, rfl, rfl, by omega, by show _ = _; decide⟩
    case round =>
      obtain ⟨i, q, rfl, rfl, hi, HQ⟩ := hrel
      have hb9 := pow9 (i := i) (by have := HK.out; omega)
      rw [← HQ.out] at hb9
      obtain ⟨q1, q2⟩ := hb9
      by_cases hlt : i < k
      · have c1 : decide ((i : Int) < (k : Int)) = true := by rw [decide_eq_true_iff]; omega
        have wq : IntKind.u64.wrap (10 * q) = 10 * q := by rw [IntKind.wrap_u64]; omega
        go_wp2_with fail
        go_round
        case rel => exact ⟨i + 1, 10 * q, rfl, by go_num, by omega, by show _ = _; rw [HQ.out, Int.pow_succ]; omega⟩
        case measure => simp [intOf]; omega
      · obtain rfl : i = k := by omega
        have c1 : decide ((i : Int) < (i : Int)) = false := by rw [decide_eq_false_iff_not]; omega
        have ws : IntKind.i64.wrap ((i : Int) - (i : Int)) = 0 := by rw [Int.sub_self]; decide
        have HQ1 : Hid (1 ≤ q ∧ q < 4294967296) := ⟨q1, by omega⟩
        clear q1 q2
        go_wp2_with fail
        refine (onto_one g c1_ q cur x1 HQ1.out.1 HQ1.out.2 hg h0).mono ?_
        rintro e x2 ⟨rfl, hw⟩
        have B2 : Below w.heap.size w x2 := by rw [hw]; exact B1.setCell hB _
        have hs2 : Sl x2 (some ⟨g, 0, none⟩) 1 [q] := by
          refine ⟨rfl, fun z hz => ?_, fun _ => ⟨g, 0, rfl, fun j hj => ?_⟩⟩
          · rw [List.mem_singleton.1 hz]; have := HQ1.out; exact ⟨by omega, by omega⟩
          · obtain rfl : j = 0 := by omega
            rw [hw]
            exact World.cell?_setCell_same' x1 _ _ (by rw [h0]; rfl)
        clear hw
        go_wp2_with fail
        rw [rounds_succ]
        go_wp2_with fail
        refine (limbs3 (some ⟨g, 0, none⟩) 1 c1_ [q] _ hs2 (half_of HQ1.out) (by omega)).mono ?_
        rintro e x3 ⟨a2, m2, c2, zs, rfl, hc2, hm2, hs3, hu2, hn2, hb2⟩
        go_wp2_with fail
        go_ret2
        exact ⟨a2, m2, c2, zs, rfl, hc2, hm2, hs3, hu2, by rw [hn2, ← HQ.out]; simp [H.num], step B2 hb2⟩
theorem ten3 (k : Nat) (hk : k ≤ 9) (w : World) :
    Calls Tryz.prog 121 #[.int .i64 k] w fun e w' => ∃ a' m c zs, e = .returned (.tuple #[.slice a' m c, .int .i64 0]) ∧ m ≤ c ∧ m ≤ 1 ∧ Sl w' a' m zs ∧ usedN zs = m ∧ num zs = 10 ^ k ∧ Below w.heap.size w w' := by
  go_enter Tryz.func121, Tryz.ntmps121
  go_wp2_with fail
  have ho : Own (w.alloc (.cells #[.int .u64 1] 94)) w.heap.size [1] := heap_alloc_new w _
  have hs := ho.sl (fun z hz => by rw [List.mem_singleton.1 hz]; exact ⟨by decide, by decide⟩)
  have B1 : Below w.heap.size w (w.alloc (.cells #[.int .u64 1] 94)) := (Below.refl _ _).alloc (Nat.le_refl _) _
  refine (scale_one ⟨w.heap.size, 0, none⟩ 1 k hk _ hs).mono ?_
  rintro e x1 ⟨a2, m2, c2, zs, rfl, hc2, hm2, hs2, hu2, hn2, hb2⟩
  go_wp2_with fail
  go_ret2
  exact ⟨a2, m2, c2, zs, rfl, hc2, hm2, hs2, hu2, hn2, step B1 hb2⟩
end Go.Proofs.YtebbblhafjaaiaaGreatDoor
namespace Go.Proofs.YtebbblhafjaaiaaGreatDoor
open Go.RowKit Go.Shelf
set_option linter.unusedVariables false

theorem cmp3_mul9 {x y k : Int} (h : 0 < k) : cmp3 (x * k) (y * k) = cmp3 x y := by
  rcases Int.lt_trichotomy x y with g | g | g
  · rw [cmp3_lt g, cmp3_lt (Int.mul_lt_mul_of_pos_right g h)]
  · rw [g, cmp3_eq rfl, cmp3_eq rfl]
  · rw [cmp3_gt g, cmp3_gt (Int.mul_lt_mul_of_pos_right g h)]
theorem mk_num9 {a : Int} {D : Nat} (hD : 0 < D) : (mkRat a D).num * D = a * (mkRat a D).den := by
  have h : mkRat a D = mkRat (mkRat a D).num (mkRat a D).den := (Rat.mkRat_self _).symm
  exact ((Rat.mkRat_eq_iff (Nat.ne_of_gt hD) (mkRat a D).den_nz).1 h).symm
theorem qcmp_mk9 {a b : Int} {D E : Nat} (hD : 0 < D) (hE : 0 < E) : qcmp (mkRat a D) (mkRat b E) = cmp3 (a * E) (b * D) := by
  have h1 := @mk_num9 a D hD
  have h2 := @mk_num9 b E hE
  have p1 := (mkRat a D).den_pos
  have p2 := (mkRat b E).den_pos
  unfold qcmp
  generalize (mkRat a D).num = n1 at *
  generalize (mkRat b E).num = n2 at *
  generalize (mkRat a D).den = d1 at *
  generalize (mkRat b E).den = d2 at *
  have c1 : n1 * (d2 : Int) * ((D : Int) * (E : Int)) = a * (E : Int) * ((d1 : Int) * (d2 : Int)) := by
    rw [show n1 * (d2 : Int) * ((D : Int) * (E : Int)) = (n1 * (D : Int)) * ((d2 : Int) * (E : Int)) by grind, h1]; grind
  have c2 : n2 * (d1 : Int) * ((D : Int) * (E : Int)) = b * (D : Int) * ((d1 : Int) * (d2 : Int)) := by
    rw [show n2 * (d1 : Int) * ((D : Int) * (E : Int)) = (n2 * (E : Int)) * ((d1 : Int) * (D : Int)) by grind, h2]; grind
  rw [← cmp3_mul9 (show (0 : Int) < (D : Int) * (E : Int) from Int.mul_pos (by omega) (by omega)), c1, c2, cmp3_mul9 (Int.mul_pos (by omega) (by omega))]
theorem ten_mk9 (U : Int) (P : Nat) : Rat.divInt U (10 ^ P) = mkRat U (10 ^ P) := by
  rw [show ((10 : Int) ^ P) = ((10 ^ P : Nat) : Int) by simp, Rat.divInt_ofNat]
/-- Below 0, 0, above. -/
def side9 (x : Int) : Int := if x < 0 then -1 else if 0 < x then 1 else 0
/-- The document's order of two decimals. -/
def dcw (U : Int) (P : Nat) (V : Int) (Q : Nat) : Int :=
  if side9 U = side9 V then (if U < 0 then -cmp3 ((U.natAbs : Int) * 10 ^ Q) ((V.natAbs : Int) * 10 ^ P) else cmp3 ((U.natAbs : Int) * 10 ^ Q) ((V.natAbs : Int) * 10 ^ P))
  else if side9 U < side9 V then -1 else 1
theorem qcmp_dcw (U V : Int) (P Q : Nat) : qcmp (Rat.divInt U (10 ^ P)) (Rat.divInt V (10 ^ Q)) = dcw U P V Q := by
  have tp : 0 < 10 ^ P := Nat.pow_pos (by decide)
  have tq : 0 < 10 ^ Q := Nat.pow_pos (by decide)
  rw [ten_mk9, ten_mk9, qcmp_mk9 tp tq]
  have ep : ((10 ^ P : Nat) : Int) = 10 ^ P := by simp
  have eq : ((10 ^ Q : Nat) : Int) = 10 ^ Q := by simp
  have ip : (0 : Int) < 10 ^ P := by rw [← ep]; omega
  have iq : (0 : Int) < 10 ^ Q := by rw [← eq]; omega
  rw [ep, eq]
  unfold dcw
  generalize (10 : Int) ^ P = A at *
  generalize (10 : Int) ^ Q = B at *
  clear ep eq tp tq
  rcases Int.lt_trichotomy U 0 with u | u | u <;> rcases Int.lt_trichotomy V 0 with v | v | v
  · have sU : side9 U = -1 := if_pos u
    have sV : side9 V = -1 := if_pos v
    have xU := Int.mul_neg_of_neg_of_pos u iq
    have xV := Int.mul_neg_of_neg_of_pos v ip
    rw [sU, sV]
    rw [if_pos rfl, if_pos u, Int.ofNat_natAbs_of_nonpos (by omega), Int.ofNat_natAbs_of_nonpos (by omega), ← cmp3_turn, Int.neg_mul, Int.neg_mul]
    rcases Int.lt_trichotomy (U * B) (V * A) with x | x | x
    · rw [cmp3_lt x, cmp3_lt (by omega)]
    · rw [cmp3_eq x, cmp3_eq (by omega)]
    · rw [cmp3_gt x, cmp3_gt (by omega)]
  · have sU : side9 U = -1 := if_pos u
    have sV : side9 V = 0 := by subst v; rfl
    have xU := Int.mul_neg_of_neg_of_pos u iq
    have xV : V * A = 0 := by rw [v, Int.zero_mul]
    rw [sU, sV]
    rw [if_neg (by decide), if_pos (by decide), cmp3_lt (by omega)]
  · have sU : side9 U = -1 := if_pos u
    have sV : side9 V = 1 := by unfold side9; rw [if_neg (by omega), if_pos v]
    have xU := Int.mul_neg_of_neg_of_pos u iq
    have xV := Int.mul_pos v ip
    rw [sU, sV]
    rw [if_neg (by decide), if_pos (by decide), cmp3_lt (by omega)]
  · have sU : side9 U = 0 := by subst u; rfl
    have sV : side9 V = -1 := if_pos v
    have xU : U * B = 0 := by rw [u, Int.zero_mul]
    have xV := Int.mul_neg_of_neg_of_pos v ip
    rw [sU, sV]
    rw [if_neg (by decide), if_neg (by decide), cmp3_gt (by omega)]
  · have sU : side9 U = 0 := by subst u; rfl
    have sV : side9 V = 0 := by subst v; rfl
    have xU : U * B = 0 := by rw [u, Int.zero_mul]
    have xV : V * A = 0 := by rw [v, Int.zero_mul]
    rw [sU, sV]
    subst u; subst v
    simp [cmp3]
  · have sU : side9 U = 0 := by subst u; rfl
    have sV : side9 V = 1 := by unfold side9; rw [if_neg (by omega), if_pos v]
    have xU : U * B = 0 := by rw [u, Int.zero_mul]
    have xV := Int.mul_pos v ip
    rw [sU, sV]
    rw [if_neg (by decide), if_pos (by decide), cmp3_lt (by omega)]
  · have sU : side9 U = 1 := by unfold side9; rw [if_neg (by omega), if_pos u]
    have sV : side9 V = -1 := if_pos v
    have xU := Int.mul_pos u iq
    have xV := Int.mul_neg_of_neg_of_pos v ip
    rw [sU, sV]
    rw [if_neg (by decide), if_neg (by decide), cmp3_gt (by omega)]
  · have sU : side9 U = 1 := by unfold side9; rw [if_neg (by omega), if_pos u]
    have sV : side9 V = 0 := by subst v; rfl
    have xU := Int.mul_pos u iq
    have xV : V * A = 0 := by rw [v, Int.zero_mul]
    rw [sU, sV]
    rw [if_neg (by decide), if_neg (by decide), cmp3_gt (by omega)]
  · have sU : side9 U = 1 := by unfold side9; rw [if_neg (by omega), if_pos u]
    have sV : side9 V = 1 := by unfold side9; rw [if_neg (by omega), if_pos v]
    have xU := Int.mul_pos u iq
    have xV := Int.mul_pos v ip
    rw [sU, sV]
    rw [if_pos rfl, if_neg (by omega), Int.natAbs_of_nonneg (by omega), Int.natAbs_of_nonneg (by omega)]
end Go.Proofs.YtebbblhafjaaiaaGreatDoor
namespace Go.Proofs.YtebbblhafjaaiaaGreatDoor
open Go.RowKit Go.Shelf

def RPrInv (xs ys cs : List Int) (n lb i : Nat) : Prop :=
  cs.length = n ∧ H.Limbs cs ∧ (∀ j, i + lb ≤ j → cs.getD j 0 = 0) ∧ H.num cs = H.num (xs.take i) * H.num ys
def InInv (ys cs : List Int) (n lb i k : Nat) (T x c : Int) : Prop :=
  cs.length = n ∧ H.Limbs cs ∧ (∀ j, i + lb ≤ j → cs.getD j 0 = 0) ∧ H.num cs + c * H.pw (i + k) = T + x * H.num (ys.take k) * H.pw i ∧ 0 ≤ c ∧ c < 4294967296

theorem in_start {xs ys cs : List Int} {n lb i : Nat} (x : Int) (I : RPrInv xs ys cs n lb i) : InInv ys cs n lb i 0 (H.num (xs.take i) * H.num ys) x 0 := by
  obtain ⟨i1, i2, i3, i4⟩ := I
  exact ⟨i1, i2, i3, by rw [i4]; simp [H.num], by omega, by omega⟩
theorem in_word {o x y c : Int} (ho : 0 ≤ o ∧ o < 4294967296) (hx : 0 ≤ x ∧ x < 4294967296) (hy : 0 ≤ y ∧ y < 4294967296) (hc : 0 ≤ c ∧ c < 4294967296) :
    0 ≤ x * y ∧ x * y ≤ 18446744065119617025 ∧ (o + x * y + c) / 4294967296 < 4294967296 := by
  have h1 : 0 ≤ x * y := Int.mul_nonneg hx.1 hy.1
  have h2 : x * y ≤ 4294967295 * y := Int.mul_le_mul_of_nonneg_right (by omega) hy.1
  generalize x * y = p at *
  omega
theorem in_step {ys cs : List Int} {n lb i k : Nat} {T x c : Int} (hx : 0 ≤ x ∧ x < 4294967296) (hy : H.Limbs ys) (hk : k < lb) (hn : i + lb ≤ n) (I : InInv ys cs n lb i k T x c) :
    InInv ys (cs.set (i + k) ((cs.getD (i + k) 0 + x * ys.getD k 0 + c) % 4294967296)) n lb i (k + 1) T x ((cs.getD (i + k) 0 + x * ys.getD k 0 + c) / 4294967296) := by
  obtain ⟨i1, i2, i3, i4, i5, i6⟩ := I
  have b1 := i2.getD (i + k); have b2 := hy.getD k
  obtain ⟨p1, p2, p3⟩ := in_word b1 hx b2 ⟨i5, i6⟩
  refine ⟨by rw [List.length_set]; exact i1, i2.set _ ⟨by omega, by omega⟩, fun j hj => by rw [getD_set_other _ _ _ _ (by omega)]; exact i3 j hj, ?_, by omega, p3⟩
  have hc := H.carry_step (v := (cs.getD (i + k) 0 + x * ys.getD k 0 + c) % 4294967296) (c' := (cs.getD (i + k) 0 + x * ys.getD k 0 + c) / 4294967296) (p := H.pw (i + k)) (s := cs.getD (i + k) 0 + x * ys.getD k 0 + c) (by omega)
  rw [Int.add_mul (cs.getD (i + k) 0 + x * ys.getD k 0), Int.add_mul (cs.getD (i + k) 0)] at hc
  rw [H.num_set _ _ _ (by omega), H.num_take_succ, ← Nat.add_assoc, H.pw, Int.sub_mul, Int.mul_add x, Int.add_mul (x * H.num (ys.take k))]
  have e : x * (ys.getD k 0 * H.pw k) * H.pw i = x * ys.getD k 0 * H.pw (i + k) := by
    rw [H.pw_add, Int.mul_comm (H.pw i), Int.mul_assoc, Int.mul_assoc, Int.mul_assoc]
  rw [e]
  omega
theorem in_end {xs ys cs : List Int} {n lb i : Nat} {c : Int} (hlb : ys.length = lb) (hn : i + lb < n) (I : InInv ys cs n lb i lb (H.num (xs.take i) * H.num ys) (xs.getD i 0) c) : RPrInv xs ys (cs.set (i + lb) c) n lb (i + 1) := by
  obtain ⟨i1, i2, i3, i4, i5, i6⟩ := I
  refine ⟨by rw [List.length_set]; exact i1, i2.set _ ⟨i5, i6⟩, fun j hj => by rw [getD_set_other _ _ _ _ (by omega)]; exact i3 j (by omega), ?_⟩
  have et : ys.take lb = ys := List.take_of_length_le (by omega)
  rw [et] at i4
  rw [H.num_set _ _ _ (by omega), i3 (i + lb) (Nat.le_refl _), Int.sub_zero, H.num_take_succ, Int.add_mul, Int.mul_right_comm (xs.getD i 0)]
  exact i4

set_option maxHeartbeats 2000000 in
theorem rproduct_any (a b : Option Addr) (la ca lb cb : Nat) (xs ys : List Int) (w : World) (ha : Sl w a la xs) (hb : Sl w b lb ys) (hx : H.Limbs xs) (hy : H.Limbs ys) (h1 : la ≤ 8000000000000) (h2 : lb ≤ 8000000000000) :
    Calls Tryz.prog 120 #[.slice a la ca, .slice b lb cb] w fun e w' => DRes w w' e (H.num xs * H.num ys) (la + lb) := by
  have hza := ha.1; have hzb := hb.1
  have hmk := make_row (la + lb) (by omega)
  rw [show ((la + lb : Nat) : Int) = (la : Int) + lb by omega] at hmk
  have I0 : Hid (RPrInv xs ys (List.replicate (la + lb) 0) (la + lb) lb 0) :=
    ⟨by simp, fun z hz => by rw [List.eq_of_mem_replicate hz]; decide, fun j _ => by rw [List.getD_eq_getElem?_getD, List.getElem?_replicate]; split <;> rfl, by rw [H.num_zeros]; simp [H.num]⟩
  have O0 : Hid (Own (w.alloc (.cells (row (List.replicate (la + lb) 0)).toArray 94)) w.heap.size (List.replicate (la + lb) 0)) := heap_alloc_new _ _
  go_enter Tryz.func120, Tryz.ntmps120
  go_wp2_with fail
  clear hmk
  go_loopw [6] (fun ii wr => ∃ (i : Nat) (cs : List Int), ii = .int .i64 i ∧ i ≤ la ∧ Hid (RPrInv xs ys cs (la + lb) lb i) ∧ Hid (Own wr w.heap.size cs) ∧ Below w.heap.size w wr) (fun ii _ => la - (intOf ii).toNat)
  case atStart => exact ⟨0, _, rfl, by omega, I0, O0, (Below.refl _ _).alloc (Nat.le_refl _) _⟩
  case round =>
    obtain ⟨i, cs, rfl, hi, hI, hO, hbl⟩ := hrel
    by_cases hlt : i < la
    · obtain ⟨x, hxx⟩ : ∃ x, xs.getD i 0 = x := ⟨_, rfl⟩
      have hxw := hx.getD i
      rw [hxx] at hxw
      have HXX : Hid (xs.getD i 0 = x) := hxx
      have IN0 : Hid (InInv ys cs (la + lb) lb i 0 (H.num (xs.take i) * H.num ys) x 0) := in_start x hI.out
      obtain ⟨ba, oa, rfl, hca⟩ := ha.2.2 (by omega)
      have hcax := hca i hlt
      rw [hxx] at hcax
      have hba : ba < w.heap.size := by
        rcases Nat.lt_or_ge ba w.heap.size with h' | h'
        · exact h'
        · simp [World.cell?, Array.getElem?_eq_none h'] at hcax
      obtain ⟨wo, hwo⟩ : ∃ wo : World, wo = wr := ⟨_, rfl⟩
      rw [← hwo] at hO hbl
      clear hxx hca
      go_wp2_with fail
      rw [← hwo]
      clear hwo
      go_loopw [7, 8] (fun cc kk wq => ∃ (k : Nat) (c : Int) (ds : List Int), kk = .int .i64 k ∧ cc = .int .u64 c ∧ k ≤ lb ∧ Hid (InInv ys ds (la + lb) lb i k (H.num (xs.take i) * H.num ys) x c) ∧ Hid (Own wq w.heap.size ds) ∧ Below w.heap.size w wq) (fun _ kk _ => lb - (intOf kk).toNat)
      case atStart => exact ⟨0, 0, cs, rfl, rfl, by omega, IN0, hO, hbl⟩
      case round =>
        obtain ⟨k, c, ds, rfl, rfl, hk, hJ, hP, hbq⟩ := hrel
        by_cases hkl : k < lb
        · obtain ⟨bb, ob, rfl, hcb⟩ := hb.2.2 (by omega)
          have hcbx := hcb k hkl
          have hbb : bb < w.heap.size := by
            rcases Nat.lt_or_ge bb w.heap.size with h' | h'
            · exact h'
            · simp [World.cell?, Array.getElem?_eq_none h'] at hcbx
          obtain ⟨y, hyy⟩ : ∃ y, ys.getD k 0 = y := ⟨_, rfl⟩
          have hyw := hy.getD k
          have hstep := in_step hxw hy hkl (by omega) hJ.out
          have hcx := hP.out.cell (i + k) (by rw [hJ.out.1]; omega)
          have hfx := hP.out.frozen (i + k)
          have how := hJ.out.2.1.getD (i + k)
          have hc0 := hJ.out.2.2.2.2.1
          have hc1 := hJ.out.2.2.2.2.2
          obtain ⟨o, hoo⟩ : ∃ o, ds.getD (i + k) 0 = o := ⟨_, rfl⟩
          rw [hyy] at hcbx hyw hstep
          rw [hoo] at hcx how hstep
          obtain ⟨p1, p2, p3⟩ := in_word how hxw hyw ⟨hc0, hc1⟩
          obtain ⟨p, hp⟩ : ∃ p, x * y = p := ⟨_, rfl⟩
          rw [hp] at p1 p2 p3 hstep
          obtain ⟨o1, o2⟩ := how
          have ca1 : wr.cell? ⟨ba, oa + i, none⟩ = some (.int .u64 x) := (hbq.cell (p := ⟨ba, oa + i, none⟩) hba).trans hcax
          have cb1 : wr.cell? ⟨bb, ob + k, none⟩ = some (.int .u64 y) := (hbq.cell (p := ⟨bb, ob + k, none⟩) hbb).trans hcbx
          obtain ⟨t, ht⟩ : ∃ t, o + p + c = t := ⟨_, rfl⟩
          rw [ht] at hstep p3
          have t0 : 0 ≤ t := by omega
          have t1 : t < 18446744073709551616 := by omega
          have m0 : IntKind.i64.wrap ((i : Int) + k) = i + k := by rw [IntKind.wrap_i64]; omega
          have m1 : IntKind.u64.wrap (x * y) = p := by rw [hp, IntKind.wrap_u64]; omega
          have m2 : IntKind.u64.wrap (p + o) = p + o := by rw [IntKind.wrap_u64]; omega
          have m3 : IntKind.u64.wrap (p + o + c) = t := by rw [IntKind.wrap_u64]; omega
          have m4 : ((i : Int) + k).toNat = i + k := by omega
          have m5 : (i : Int) + k < la + lb := by omega
          have HS : Hid (InInv ys (ds.set (i + k) (t % 4294967296)) (la + lb) lb i (k + 1) (H.num (xs.take i) * H.num ys) x (t / 4294967296)) := hstep
          clear hstep hyy hoo hp ht hcb hcbx hcax hyw p3
          go_wp2_with fail
          go_quiet (fail)
          clear m1 m2 m3
          go_wp2_with fail
          go_roundw
          case rel => exact ⟨k + 1, _, _, by go_num, rfl, by omega, HS, Own.set (w := wr.drewN nq) hP.out (i + k) _, (below_drewN hbq nq).setCell (Nat.le_refl _) _⟩
          case measure => simp [intOf]; omega
        · obtain rfl : k = lb := by omega
          have hJ' := hJ.out
          rw [← HXX.out] at hJ'
          have HE : Hid (RPrInv xs ys (ds.set (i + k) c) (la + k) k (i + 1)) := in_end hzb (by omega) hJ'
          have hcx := hP.out.cell (i + k) (by rw [hJ.out.1]; omega)
          have hfx := hP.out.frozen (i + k)
          have m4 : ((i : Int) + k).toNat = i + k := by omega
          have m5 : (i : Int) + k < la + k := by omega
          clear hJ' hcax
          go_wp2_with fail
          go_roundw
          case rel => exact ⟨i + 1, _, by go_num, by omega, HE, Own.set hP.out (i + k) _, hbq.setCell (Nat.le_refl _) _⟩
          case measure => simp [intOf]; omega
    · obtain rfl : i = la := by omega
      obtain ⟨i1, i2, i3, i4⟩ := hI.out
      have et : xs.take i = xs := List.take_of_length_le (by omega)
      rw [et] at i4
      have hsl := hO.out.sl i2.up
      rw [i1] at hsl
      have hu := usedN_le cs
      have hle : usedN cs ≤ i + lb := by omega
      clear i1 et
      go_wp2_with fail
      refine (cutr_any (some ⟨w.heap.size, 0, none⟩) (i + lb) (i + lb) cs _ hsl (by omega) (Nat.le_refl _)).mono ?_
      rintro e w2 ⟨rfl, rfl⟩
      go_wp2_with fail
      go_ret
      exact ⟨_, usedN cs, i + lb, cs.take (usedN cs), rfl, hle, hle, hsl.take hle, i2.take _, usedN_take cs (Nat.le_refl _), by rw [H.num_take_used cs (Nat.le_refl _)]; exact i4, hbl⟩

theorem rmul_any (a0 a1 : Option Addr) (l0 k0 l1 k1 : Nat) (z0 z1 : List Int) (w : World) (ha0 : Sl w a0 l0 z0) (hb0 : Sl w a1 l1 z1) (h1 : l0 ≤ 2000000000000) (h2 : l1 ≤ 2000000000000) :
    Calls Tryz.prog 68 #[.slice a0 l0 k0, .slice a1 l1 k1] w fun e w' => LRes w w' e (num z0 * num z1) (2 * l0 + 2 * l1) := by
  go_enter Tryz.func68, Tryz.ntmps68
  go_wp2_with fail
  refine (digits_any a0 l0 k0 z0 w ha0 (by omega)).mono ?_
  rintro e wa ⟨a, la, ca, xs, rfl, -, hla, ha, hx, ux, nx, ba⟩
  go_wp2_with fail
  refine (digits_any a1 l1 k1 z1 wa (hb0.below ba (Nat.le_refl _)) (by omega)).mono ?_
  rintro e wb ⟨b, lb, cb, ys, rfl, -, hlb, hb, hy, uy, ny, bb⟩
  replace ha := ha.below bb (Nat.le_refl _)
  have HB : Hid (Below w.heap.size w wb) := step ba bb
  go_wp2_with fail
  refine (rproduct_any a b la ca lb cb xs ys wb ha hb hx hy (by omega) (by omega)).mono ?_
  rintro e wd ⟨ad, md, cd, ds, rfl, -, hmd, sd, hd, ud, nd, bd⟩
  go_wp2_with fail
  refine (limbsr_any ad md cd ds wd sd hd (by omega)).mono ?_
  rintro e w4 ⟨a4, m4, c4, z4, rfl, k4, k5, s4, u4, n4, b4⟩
  go_wp2_with fail
  go_ret
  exact ⟨a4, m4, c4, z4, rfl, k4, by omega, s4, u4, by rw [n4, nd, nx, ny], step (step HB.out bd) b4⟩
end Go.Proofs.YtebbblhafjaaiaaGreatDoor
namespace Go.Proofs.YtebbblhafjaaiaaGreatDoor
open Go.RowKit Go.Shelf
set_option linter.unusedVariables false

theorem rsize6 (x : Int) (h1 : -9223372036854775808 ≤ x) (h2 : x ≤ 9223372036854775807) (w : World) : Calls Tryz.prog 48 #[.int .i64 x] w fun e w' => e = .returned (.int .u64 (x.natAbs : Int)) ∧ w' = w := by
  obtain ⟨y, hy⟩ : ∃ y, x.natAbs = y := ⟨_, rfl⟩
  rw [hy]
  by_cases g : x < 0
  · have g1 : decide (x < 0) = true := decide_eq_true g
    have e1 : IntKind.u64.wrap x = x + 18446744073709551616 := by rw [IntKind.wrap_u64]; omega
    have e2 : IntKind.u64.wrap (-(x + 18446744073709551616)) = (y : Int) := by rw [IntKind.wrap_u64]; omega
    clear hy h1 h2
    go_enter Tryz.func48, Tryz.ntmps48
    go_wp2_with fail
    go_ret
    exact ⟨rfl, rfl⟩
  · have g1 : decide (x < 0) = false := decide_eq_false g
    have e1 : IntKind.u64.wrap x = (y : Int) := by rw [IntKind.wrap_u64]; omega
    clear hy h1 h2
    go_enter Tryz.func48, Tryz.ntmps48
    go_wp2_with fail
    go_ret
    exact ⟨rfl, rfl⟩
theorem rten6 (k : Nat) (hk : k ≤ 9) (w : World) :
    Calls Tryz.prog 69 #[.int .i64 k] w fun e w' => ∃ a' m c zs, e = .returned (.slice a' m c) ∧ m ≤ c ∧ m ≤ 1 ∧ Sl w' a' m zs ∧ usedN zs = m ∧ num zs = 10 ^ k ∧ Below w.heap.size w w' := by
  go_enter Tryz.func69, Tryz.ntmps69
  go_wp2_with fail
  refine (ten3 k hk _).mono ?_
  rintro e x1 ⟨a2, m2, c2, zs, rfl, hc2, hm2, hs2, hu2, hn2, hb2⟩
  go_wp2_with fail
  go_ret
  exact ⟨a2, m2, c2, zs, rfl, hc2, hm2, hs2, hu2, hn2, hb2⟩
theorem rcheck6_ok (U P : Int) (h : CanI U P) (w : World) : Calls Tryz.prog 12 #[.agg #[.int .i64 U, .int .i64 P]] w fun e w' => e = .returned (.int .i64 0) ∧ Below w.heap.size w w' := by
  obtain ⟨h0, h9, h3⟩ := h
  have g1 : decide (P < 0) = false := decide_eq_false (by omega)
  have g2 : decide (9 < P) = false := decide_eq_false (by omega)
  by_cases hp : 0 < P
  ·
    obtain ⟨m, hm⟩ : ∃ m, U.tmod 10 = m := ⟨_, rfl⟩
    have hm0 : (m == 0) = false := by have := h3 hp; rw [hm] at this; simpa using this
    have g3 : decide (0 < P) = true := decide_eq_true hp
    go_enter Tryz.func12, Tryz.ntmps12
    go_wp2_with fail
    go_ret
    exact ⟨rfl, (Below.refl _ _).alloc (Nat.le_refl _) _⟩
  ·
    have g3 : decide (0 < P) = false := decide_eq_false hp
    go_enter Tryz.func12, Tryz.ntmps12
    go_wp2_with fail
    go_ret
    exact ⟨rfl, (Below.refl _ _).alloc (Nat.le_refl _) _⟩
theorem rcheck6_no (U P : Int) (h : ¬ CanI U P) (w : World) : Calls Tryz.prog 12 #[.agg #[.int .i64 U, .int .i64 P]] w fun e w' => e = .returned (.int .i64 60) ∧ Below w.heap.size w w' := by
  by_cases a1 : P < 0
  ·
    have g1 : decide (P < 0) = true := decide_eq_true a1
    go_enter Tryz.func12, Tryz.ntmps12
    go_wp2_with fail
    go_ret
    exact ⟨rfl, (Below.refl _ _).alloc (Nat.le_refl _) _⟩
  ·
    have g1 : decide (P < 0) = false := decide_eq_false a1
    by_cases a2 : 9 < P
    ·
      have g2 : decide (9 < P) = true := decide_eq_true a2
      go_enter Tryz.func12, Tryz.ntmps12
      go_wp2_with fail
      go_ret
      exact ⟨rfl, (Below.refl _ _).alloc (Nat.le_refl _) _⟩
    ·
      have g2 : decide (9 < P) = false := decide_eq_false a2
      have hp : 0 < P := by
        rcases Int.lt_or_le 0 P with h' | h'
        · exact h'
        · exact absurd ⟨by omega, by omega, fun hh => by omega⟩ h
      have hm : U.tmod 10 = 0 := by
        rcases Decidable.em (U.tmod 10 = 0) with h' | h'
        · exact h'
        · exact absurd ⟨by omega, by omega, fun _ => h'⟩ h
      have g3 : decide (0 < P) = true := decide_eq_true hp
      go_enter Tryz.func12, Tryz.ntmps12
      go_wp2_with fail
      go_ret
      exact ⟨rfl, (Below.refl _ _).alloc (Nat.le_refl _) _⟩
end Go.Proofs.YtebbblhafjaaiaaGreatDoor
namespace Go.Proofs.YtebbblhafjaaiaaGreatDoor
set_option linter.unusedVariables false

def tvI (b : Int) (l : List Int) : Int := l.foldl (fun s z => s * b + z) 0
theorem tvI_nil (b : Int) : tvI b [] = 0 := rfl
theorem tvI_snoc (b : Int) (l : List Int) (z : Int) : tvI b (l ++ [z]) = tvI b l * b + z := by simp [tvI]
theorem tvI_fold (b : Int) (m : List Int) : ∀ s, m.foldl (fun s z => s * b + z) s = s * b ^ m.length + tvI b m := by
  induction m with
  | nil => intro s; simp [tvI]
  | cons z m ih =>
    intro s
    have e : tvI b (z :: m) = m.foldl (fun s z => s * b + z) (0 * b + z) := rfl
    rw [List.foldl_cons, ih, e, ih, List.length_cons, Int.pow_succ]
    grind
theorem tvI_append (b : Int) (l m : List Int) : tvI b (l ++ m) = tvI b l * b ^ m.length + tvI b m := by
  have : tvI b (l ++ m) = m.foldl (fun s z => s * b + z) (tvI b l) := by unfold tvI; rw [List.foldl_append]
  rw [this, tvI_fold]
/-- Each is a digit to that base. -/
def DgI (b : Int) (l : List Int) : Prop := ∀ z ∈ l, 0 ≤ z ∧ z < b
theorem DgI.take {b : Int} {l : List Int} (h : DgI b l) (n : Nat) : DgI b (l.take n) := fun z hz => h z (List.mem_of_mem_take hz)
theorem DgI.drop {b : Int} {l : List Int} (h : DgI b l) (n : Nat) : DgI b (l.drop n) := fun z hz => h z (List.mem_of_mem_drop hz)
theorem DgI.getD {b : Int} {l : List Int} (h : DgI b l) {i : Nat} (hi : i < l.length) : 0 ≤ l.getD i 0 ∧ l.getD i 0 < b := by
  rw [List.getD_eq_getElem?_getD, List.getElem?_eq_getElem hi]; exact h _ (List.getElem_mem hi)
theorem tvI_nonneg {b : Int} (hb : 1 ≤ b) : ∀ {l : List Int}, DgI b l → ∀ s, 0 ≤ s → 0 ≤ l.foldl (fun s z => s * b + z) s
  | [], _, s, hs => hs
  | z :: l, h, s, hs => by
    rw [List.foldl_cons]
    have hz := h z (by simp)
    exact tvI_nonneg hb (fun x hx => h x (by simp [hx])) _ (by have := Int.mul_nonneg hs (show 0 ≤ b by omega); omega)
theorem tvI_pos {b : Int} (hb : 1 ≤ b) {l : List Int} (h : DgI b l) : 0 ≤ tvI b l := tvI_nonneg hb h 0 (by omega)
theorem ipow_pos {b : Int} (hb : 1 ≤ b) : ∀ n : Nat, 1 ≤ b ^ n
  | 0 => by simp
  | n + 1 => by
    have h1 := ipow_pos hb n
    rw [Int.pow_succ]
    have h2 : b ^ n * 1 ≤ b ^ n * b := Int.mul_le_mul_of_nonneg_left hb (by omega)
    omega
theorem tvI_mono {b : Int} (hb : 1 ≤ b) {l : List Int} (h : DgI b l) (k : Nat) : tvI b (l.take k) ≤ tvI b l := by
  have e : tvI b l = tvI b (l.take k) * b ^ (l.drop k).length + tvI b (l.drop k) := by rw [← tvI_append, List.take_append_drop]
  have h1 := tvI_pos hb (h.take k)
  have h2 := tvI_pos hb (h.drop k)
  have h3 := ipow_pos hb (l.drop k).length
  have h4 : tvI b (l.take k) * 1 ≤ tvI b (l.take k) * b ^ (l.drop k).length := Int.mul_le_mul_of_nonneg_left h3 h1
  omega
/-- One more digit. -/
theorem take_snocI (l : List Int) (k : Nat) (h : k < l.length) : l.take (k + 1) = l.take k ++ [l.getD k 0] := by
  rw [List.take_succ_eq_append_getElem h, List.getD_eq_getElem?_getD, List.getElem?_eq_getElem h]; rfl
theorem drop_take_snoc (l : List Int) (k j : Nat) (h : k + j < l.length) : (l.drop k).take (j + 1) = (l.drop k).take j ++ [l.getD (k + j) 0] := by
  rw [take_snocI _ _ (by rw [List.length_drop]; omega)]
  congr 2
  rw [List.getD_eq_getElem?_getD, List.getD_eq_getElem?_getD, List.getElem?_drop]
theorem take_more (l : List Int) (k j : Nat) : l.take (k + j) = l.take k ++ (l.drop k).take j := by rw [List.take_add]
/-- Digits are below the power. -/
theorem tvI_lt {b : Int} (hb : 1 ≤ b) {l : List Int} (h : DgI b l) : tvI b l < b ^ l.length := by
  induction l with
  | nil => simp [tvI]
  | cons z l ih =>
    have hz := h z (by simp)
    have ih' := ih (fun x hx => h x (by simp [hx]))
    have e : tvI b (z :: l) = z * b ^ l.length + tvI b l := by
      have := tvI_append b [z] l
      rw [List.singleton_append] at this
      rw [this]; simp [tvI]
    have hp := ipow_pos hb l.length
    rw [e, List.length_cons, Int.pow_succ, Int.mul_comm (b ^ l.length) b]
    have h1 : z * b ^ l.length ≤ (b - 1) * b ^ l.length := Int.mul_le_mul_of_nonneg_right (by omega) (by omega)
    have h2 : (b - 1) * b ^ l.length = b * b ^ l.length - b ^ l.length := by grind
    omega
/-- A text's digits. -/
def txI (s : List UInt8) : List Int := s.map (fun c => (wv c : Int))
theorem txI_val (b : Nat) : ∀ s : List UInt8, tvI b (txI s) = (tv b s : Int) := by
  intro s
  unfold tvI txI tv
  rw [List.foldl_map]
  have : ∀ (l : List UInt8) (n : Nat), l.foldl (fun (x : Int) c => x * b + (wv c : Int)) (n : Int) = ((l.foldl (fun s c => s * b + wv c) n : Nat) : Int) := by
    intro l
    induction l with
    | nil => intro n; rfl
    | cons c l ih =>
      intro n
      rw [List.foldl_cons, List.foldl_cons, ← ih]
      congr 1
  exact this s 0
theorem txI_dig {b : Nat} {s : List UInt8} (h : Dig b s) : DgI b (txI s) := by
  intro z hz
  unfold txI at hz
  obtain ⟨c, hc, rfl⟩ := List.mem_map.1 hz
  have := h c hc
  exact ⟨by omega, by omega⟩
theorem txI_len (s : List UInt8) : (txI s).length = s.length := by simp [txI]
end Go.Proofs.YtebbblhafjaaiaaGreatDoor
namespace Go.Proofs.YtebbblhafjaaiaaGreatDoor
set_option linter.unusedVariables false

/-- What digits come to, the lowest first. -/
def lvB (b : Int) : List Int → Int
  | [] => 0
  | z :: t => z + b * lvB b t
theorem lvB_app (b x : Int) : ∀ os : List Int, lvB b (os ++ [x]) = lvB b os + b ^ os.length * x
  | [] => by simp [lvB]
  | z :: t => by
    rw [List.cons_append]
    simp only [lvB, List.length_cons]
    rw [lvB_app b x t, Int.pow_succ]
    grind
theorem lvB_rev (b : Int) : ∀ os : List Int, tvI b os.reverse = lvB b os
  | [] => rfl
  | z :: t => by
    rw [List.reverse_cons, tvI_snoc, lvB_rev b t]
    simp only [lvB]
    grind
theorem DgI.app {b : Int} {os : List Int} (h : DgI b os) {x : Int} (hx : 0 ≤ x ∧ x < b) : DgI b (os ++ [x]) := fun z hz => by
  rcases List.mem_append.1 hz with h' | h'
  · exact h z h'
  · rw [List.mem_singleton.1 h']; exact hx
/-- The highest is not 0. -/
def TpB (os : List Int) : Prop := os ≠ [] ∧ os.getD (os.length - 1) 0 ≠ 0
theorem tpB_app {os : List Int} {x : Int} (hx : x ≠ 0) : TpB (os ++ [x]) := by
  refine ⟨by simp, ?_⟩
  rw [List.length_append, List.length_singleton, Nat.add_sub_cancel, List.getD_eq_getElem?_getD, List.getElem?_append_right (Nat.le_refl _), Nat.sub_self]
  simpa using hx
structure InB (b N C : Int) (sz l0 k : Nat) (os : List Int) (r : Int) : Prop where
  dig : DgI b os
  val : N = lvB b os + b ^ os.length * (r + C * b ^ (sz - k))
  len : os.length = l0 + k
  kl : k ≤ sz
  r0 : 0 ≤ r
  r1 : r < b ^ (sz - k)
  top : 0 < k → C = 0 → r = 0 → TpB os
theorem InB.step {b N C : Int} {sz l0 k : Nat} {os : List Int} {r : Int} (h : InB b N C sz l0 k os r) (hb : 2 ≤ b) (hC : 0 ≤ C) (hk : k < sz) (hc : 0 < C ∨ 0 < r) : InB b N C sz l0 (k + 1) (os ++ [r % b]) (r / b) := by
  obtain ⟨h1, h2, h3, h4, h5, h6, h7⟩ := h
  have hm0 := Int.emod_nonneg r (b := b) (by omega)
  have hm1 := Int.emod_lt_of_pos r (b := b) (by omega)
  have hdm := Int.mul_ediv_add_emod r b
  obtain ⟨t, ht⟩ : ∃ t, sz - k = t + 1 := ⟨sz - k - 1, by omega⟩
  have ht2 : sz - (k + 1) = t := by omega
  rw [ht, Int.pow_succ] at h2 h6
  refine ⟨h1.app ⟨hm0, hm1⟩, ?_, by rw [List.length_append, List.length_singleton]; omega, by omega, Int.ediv_nonneg h5 (by omega), ?_, fun _ c0 r0 => ?_⟩
  · rw [ht2, lvB_app, List.length_append, List.length_singleton, Int.pow_succ, h2]
    generalize b ^ os.length = X
    generalize b ^ t = Y
    generalize hq : r / b = q at *
    generalize hs : r % b = s at *
    rw [← hdm]
    grind
  · rw [ht2]
    exact Int.ediv_lt_of_lt_mul (by omega) h6
  · refine tpB_app ?_
    have hrp : 0 < r := by omega
    rw [r0] at hdm
    omega
structure OuB (b N D : Int) (os : List Int) : Prop where
  dig : DgI b os
  val : N = lvB b os + b ^ os.length * D
  top : D = 0 → os = [] ∨ TpB os
theorem OuB.start (b N : Int) : OuB b N N [] := ⟨fun z hz => (by cases hz), by simp [lvB], fun _ => .inl rfl⟩
theorem OuB.piece {b N D C r : Int} {sz : Nat} {os : List Int} (h : OuB b N D os) (e : D = C * b ^ sz + r) (r0 : 0 ≤ r) (r1 : r < b ^ sz) : InB b N C sz os.length 0 os r :=
  ⟨h.dig, by rw [h.val, e, Nat.sub_zero]; grind, by omega, by omega, r0, by rw [Nat.sub_zero]; exact r1, fun h => by omega⟩
theorem InB.leave {b N C r : Int} {sz l0 k : Nat} {os : List Int} (h : InB b N C sz l0 k os r) (hk : 0 < k) (he : k = sz ∨ (C = 0 ∧ r = 0)) : OuB b N C os := by
  obtain ⟨h1, h2, h3, h4, h5, h6, h7⟩ := h
  rcases he with rfl | ⟨rfl, rfl⟩
  · rw [Nat.sub_self, Int.pow_zero] at h2 h6
    have r0 : r = 0 := by omega
    subst r0
    exact ⟨h1, by rw [h2]; grind, fun c0 => .inr (h7 hk c0 rfl)⟩
  · exact ⟨h1, by rw [h2]; grind, fun _ => .inr (h7 hk rfl rfl)⟩
theorem lvB_nonneg {b : Int} (hb : 1 ≤ b) {os : List Int} (h : DgI b os) : 0 ≤ lvB b os := by
  rw [← lvB_rev]; exact tvI_pos hb (fun z hz => h z (List.mem_reverse.1 hz))
theorem OuB.le {b N D : Int} {os : List Int} (h : OuB b N D os) (hb : 1 ≤ b) (hD : 0 < D) : b ^ os.length ≤ N := by
  have h1 := lvB_nonneg hb h.dig
  have h2 := ipow_pos hb os.length
  have h3 : b ^ os.length * 1 ≤ b ^ os.length * D := Int.mul_le_mul_of_nonneg_left (by omega) (by omega)
  rw [h.val]
  omega
end Go.Proofs.YtebbblhafjaaiaaGreatDoor
namespace Go.Proofs.YtebbblhafjaaiaaGreatDoor
set_option linter.unusedVariables false

def ltr (x : Int) : UInt8 := UInt8.ofNat (if x < 10 then 48 + x.toNat else 87 + x.toNat)
theorem ltr_val {x : Int} (h0 : 0 ≤ x) (h : x < 36) : ((ltr x).toNat : Int) = if x < 10 then 48 + x else 87 + x := by
  unfold ltr
  split <;> simp <;> omega
theorem wv_ltr {x : Int} (h0 : 0 ≤ x) (h : x < 36) : (wv (ltr x) : Int) = x := by
  have e := ltr_val h0 h
  unfold wv
  split at e
  · rw [if_pos (by omega)]; omega
  · rw [if_neg (by omega), if_pos (by omega)]; omega
/-- The text of digits, the lowest first. -/
def tB3 (os : List Int) : List UInt8 := (os.map ltr).reverse
theorem tB3_len (os : List Int) : (tB3 os).length = os.length := by simp [tB3]
theorem tB3_dig {b : Nat} (h36 : b ≤ 36) {os : List Int} (h : DgI b os) : Dig b (tB3 os) := by
  intro c hc
  obtain ⟨x, hx, rfl⟩ := List.mem_map.1 (List.mem_reverse.1 hc)
  have hb := h x hx
  have := wv_ltr hb.1 (by omega)
  omega
theorem tB3_txI {b : Nat} (h36 : b ≤ 36) {os : List Int} (h : DgI b os) : txI (tB3 os) = os.reverse := by
  unfold txI tB3
  rw [List.map_reverse, List.map_map]
  congr 1
  have : ∀ l : List Int, DgI b l → l.map ((fun c => (wv c : Int)) ∘ ltr) = l := by
    intro l
    induction l with
    | nil => intro _; rfl
    | cons x t ih =>
      intro hl
      rw [List.map_cons, ih (fun z hz => hl z (List.mem_cons_of_mem _ hz))]
      have hx := hl x (List.mem_cons_self ..)
      simp only [Function.comp]
      rw [wv_ltr hx.1 (by omega)]
  exact this os h
theorem tB3_tx {b : Nat} (h2 : 2 ≤ b) (h36 : b ≤ 36) {os : List Int} {N : Int} (h : DgI b os) (he : os ≠ []) (hv : lvB b os = N) (ht : os = [0] ∨ TpB os) : Tx b (tB3 os) N.toNat := by
  refine ⟨fun e => he (List.length_eq_zero_iff.1 (by rw [← tB3_len, e]; rfl)), tB3_dig h36 h, ?_, fun hh => ?_⟩
  · have e := txI_val b (tB3 os)
    rw [tB3_txI h36 h, lvB_rev, hv] at e
    omega
  · rcases ht with rfl | ⟨_, ht⟩
    · rfl
    · exfalso
      have hp := List.length_pos_iff.2 he
      have e1 : (tB3 os).head? = some (ltr (os.getD (os.length - 1) 0)) := by
        unfold tB3
        rw [List.head?_reverse, List.getLast?_eq_getElem?, List.length_map, List.getElem?_map, List.getD_eq_getElem?_getD, List.getElem?_eq_getElem (by omega)]
        rfl
      rw [e1] at hh
      have hd := h.getD (i := os.length - 1) (by omega)
      have e2 := ltr_val hd.1 (by omega)
      have e3 : ltr (os.getD (os.length - 1) 0) = 48 := by simpa using hh
      rw [e3] at e2
      have e4 : ((48 : UInt8).toNat : Int) = 48 := rfl
      rw [e4] at e2
      split at e2 <;> omega
/-- One more letter. -/
theorem tB3_drop (os : List Int) {k : Nat} (h : k < os.length) : tB3 (os.drop k) = tB3 (os.drop (k + 1)) ++ [ltr (os.getD k 0)] := by
  unfold tB3
  rw [List.drop_eq_getElem_cons h, List.map_cons, List.reverse_cons, List.getD_eq_getElem?_getD, List.getElem?_eq_getElem h]
  rfl
/-- The sum of digits. -/
def sumI (l : List Int) : Int := l.foldl (fun s z => s + z) 0
theorem sumI_snoc (l : List Int) (z : Int) : sumI (l ++ [z]) = sumI l + z := by simp [sumI]
theorem sumI_fold : ∀ (l : List Int) (s : Int), l.foldl (fun s z => s + z) s = s + sumI l
  | [], s => by simp [sumI]
  | z :: l, s => by
    rw [List.foldl_cons, sumI_fold l, show sumI (z :: l) = l.foldl (fun s z => s + z) (0 + z) from rfl, sumI_fold l]
    omega
theorem sumI_cons (z : Int) (l : List Int) : sumI (z :: l) = z + sumI l := by
  rw [show sumI (z :: l) = l.foldl (fun s z => s + z) (0 + z) from rfl, sumI_fold l]; omega
theorem sumI_rev : ∀ l : List Int, sumI l.reverse = sumI l
  | [] => rfl
  | z :: l => by rw [List.reverse_cons, sumI_snoc, sumI_rev l, sumI_cons]; omega
theorem sumI_bd {b : Int} (hb : b ≤ 36) : ∀ {l : List Int}, DgI b l → 0 ≤ sumI l ∧ sumI l ≤ 36 * l.length
  | [], _ => by simp [sumI]
  | z :: l, h => by
    have h1 := sumI_bd hb (l := l) (fun x hx => h x (List.mem_cons_of_mem _ hx))
    have h2 := h z (List.mem_cons_self ..)
    rw [sumI_cons, List.length_cons]
    omega
theorem sumI_take {l : List Int} {k : Nat} (h : k < l.length) : sumI (l.take (k + 1)) = sumI (l.take k) + l.getD k 0 := by rw [take_snocI l k h, sumI_snoc]
end Go.Proofs.YtebbblhafjaaiaaGreatDoor
namespace Go.Proofs.YtebbblhafjaaiaaGreatDoor
open Go.RowKit Go.Shelf
set_option linter.unusedVariables false

/-- Digits at the head of a row of the call's own. -/
def Wb (w : World) (g m : Nat) (ds : List Int) : Prop := ds.length = m ∧ ∃ cur : Array Value, w.heap[g]? = some (.cells cur 94 (0, 0)) ∧ ∀ i, i < m → cur[i]? = some (.int .u64 (ds.getD i 0))
theorem Wb.cell {w : World} {g m : Nat} {ds : List Int} (h : Wb w g m ds) (i : Nat) (hi : i < m) : w.cell? ⟨g, i, none⟩ = some (.int .u64 (ds.getD i 0)) := by
  obtain ⟨-, cur, h1, h2⟩ := h
  simp only [World.cell?, h1]
  simpa using h2 i hi
theorem Wb.frozen {w : World} {g m : Nat} {ds : List Int} (h : Wb w g m ds) (i : Nat) : w.frozen? ⟨g, i, none⟩ = false := by
  obtain ⟨-, cur, h1, h2⟩ := h
  simp [World.frozen?, h1]
theorem Wb.lt {w : World} {g m : Nat} {ds : List Int} (h : Wb w g m ds) : g < w.heap.size := by
  obtain ⟨-, cur, h1, h2⟩ := h
  rcases Nat.lt_or_ge g w.heap.size with h' | h'
  · exact h'
  · rw [Array.getElem?_eq_none h'] at h1; cases h1
theorem Wb.set {w : World} {g m : Nat} {ds : List Int} (h : Wb w g m ds) (i : Nat) (hi : i < m) (v : Int) : Wb (w.setCell ⟨g, i, none⟩ (.int .u64 v)) g m (ds.set i v) := by
  obtain ⟨h0, cur, h1, h2⟩ := h
  have hc : i < cur.size := by
    rcases Nat.lt_or_ge i cur.size with h' | h'
    · exact h'
    · have := h2 i hi; rw [Array.getElem?_eq_none h'] at this; cases this
  refine ⟨by rw [List.length_set]; exact h0, cur.setIfInBounds i (.int .u64 v), ?_, fun j hj => ?_⟩
  · simp only [World.setCell]
    rw [Array.getElem?_modify, if_pos rfl, h1]
    simp
  · rw [List.getD_eq_getElem?_getD]
    by_cases e : i = j
    · subst e
      rw [Array.getElem?_setIfInBounds_self_of_lt hc, List.getElem?_set_self (by omega)]; rfl
    · rw [Array.getElem?_setIfInBounds_ne e, List.getElem?_set_ne e, ← List.getD_eq_getElem?_getD]; exact h2 j hj
theorem Wb.sl {w : World} {g m : Nat} {ds : List Int} (h : Wb w g m ds) (hL : Limbs ds) : Sl w (some ⟨g, 0, none⟩) m ds :=
  ⟨h.1, hL, fun _ => ⟨g, 0, rfl, fun i hi => by rw [Nat.zero_add]; exact h.cell i hi⟩⟩
theorem Wb.take {w : World} {g m : Nat} {ds : List Int} (h : Wb w g m ds) {n : Nat} (hn : n ≤ m) : Wb w g n (ds.take n) := by
  obtain ⟨h0, cur, h1, h2⟩ := h
  refine ⟨by rw [List.length_take]; omega, cur, h1, fun i hi => ?_⟩
  rw [h2 i (by omega), List.getD_eq_getElem?_getD, List.getD_eq_getElem?_getD, List.getElem?_take_of_lt hi]
theorem Wb.below {B : Nat} {w w' : World} {g m : Nat} {ds : List Int} (h : Wb w g m ds) (b : Below B w w') (hg : g < B) : Wb w' g m ds := by
  obtain ⟨h0, cur, h1, h2⟩ := h
  exact ⟨h0, cur, by rw [b.block g hg]; exact h1, h2⟩
theorem wb_of {w : World} {g m : Nat} {ds : List Int} {cur : Array Value} (h : Sl w (some ⟨g, 0, none⟩) m ds) (hh : w.heap[g]? = some (.cells cur 94 (0, 0))) : Wb w g m ds := by
  refine ⟨h.1, cur, hh, fun i hi => ?_⟩
  obtain ⟨b, off, e, hc⟩ := h.2.2 (by omega)
  cases e
  have := hc i hi
  simp only [World.cell?, hh, Nat.zero_add] at this
  simpa using this
theorem gr_only {g : Nat} {w w' : World} {B : Nat} {v : Value} {cs : List Int} (h : Gr w B v cs) (o : Only g w w') (hg : g < B) : Gr w' B v cs := by
  obtain ⟨h1, h2 | ⟨k, cap, cur, e, hB, hh, hc, hm, hs, ht⟩⟩ := h
  · exact ⟨h1, .inl h2⟩
  · exact ⟨h1, .inr ⟨k, cap, cur, e, hB, by rw [o.oth k (by omega)]; exact hh, hc, hm, hs, ht⟩⟩
set_option maxHeartbeats 1000000 in
theorem over9 (g m cap : Nat) (ds : List Int) (b : Int) (w : World) (h : Wb w g m ds) (hd : H.Limbs ds) (hm : m ≤ 16000000000000) (b0 : 0 < b) (b1 : b < 4294967296) :
    Calls Tryz.prog 148 #[.slice (some ⟨g, 0, none⟩) m cap, .int .u64 b] w fun e w' => ∃ cs r, e = .returned (.int .u64 r) ∧ Wb w' g m cs ∧ H.Limbs cs ∧ H.num ds = H.num cs * b + r ∧ 0 ≤ r ∧ r < b ∧ Only g w w' := by
  have gb : (b == 0) = false := by simp; omega
  have HLD : Hid (ds.length = m) := h.1
  have HW : Hid (Wb w g m ds) := h
  have I0 : Hid (RvInv ds ds b m 0) := by
    refine ⟨rfl, hd, ?_, by omega, b0⟩
    have e1 : ds.drop m = [] := List.drop_eq_nil_of_le (by rw [HLD.out]; exact Nat.le_refl _)
    rw [e1]; simp [H.num]
  clear h
  go_enter Tryz.func148, Tryz.ntmps148
  go_wp2_with fail
  go_loopw [5, 6] (fun rr ii wr => ∃ (k : Nat) (r : Int) (cs : List Int), ii = .int .i64 ((k : Int) - 1) ∧ rr = .int .u64 r ∧ k ≤ m ∧ Hid (RvInv ds cs b k r) ∧ Hid (Wb wr g m cs) ∧ Hid (∀ j, j < k → cs.getD j 0 = ds.getD j 0) ∧ Only g w wr) (fun _ ii _ => (intOf ii + 1).toNat)
  case atStart => exact ⟨m, 0, ds, rfl, rfl, Nat.le_refl _, I0, HW, fun _ _ => rfl, Only.refl _ _⟩
  case round =>
    obtain ⟨k, r, cs, rfl, rfl, hk, hI, hO, hE, ho⟩ := hrel
    by_cases h0 : k = 0
    · subst h0
      have HE : Hid (H.num ds = H.num cs * b + r) := rv_whole hI.out
      obtain ⟨i1, i2, i3, i4, i5⟩ := hI.out
      clear i1 i3
      go_wp2_with fail
      go_ret
      exact ⟨cs, r, rfl, hO.out, i2, HE.out, i4, i5, ho⟩
    · obtain ⟨j, rfl⟩ : ∃ j, k = j + 1 := ⟨k - 1, by omega⟩
      have hxw := hd.getD j
      have hstep := rv_step hd hI.out (by rw [HLD.out]; omega)
      have hcy := hO.out.cell j (by omega)
      rw [hE.out j (by omega)] at hcy
      have hfy := hO.out.frozen j
      have hr0 := hI.out.2.2.2.1
      have hr1 := hI.out.2.2.2.2
      obtain ⟨x, hx⟩ : ∃ x, ds.getD j 0 = x := ⟨_, rfl⟩
      rw [hx] at hcy hxw hstep
      obtain ⟨x1, x2⟩ := hxw
      rw [Int.mul_comm] at hstep
      obtain ⟨y, hy⟩ : ∃ y, r * 4294967296 + x = y := ⟨_, rfl⟩
      rw [hy] at hstep
      have y1 : 0 ≤ y := by omega
      have y2 : y < 18446744073709551616 := by omega
      have r2 : r < 4294967296 := by omega
      have HS : Hid (RvInv ds (cs.set j (y / b)) b j (y % b)) := hstep
      have jn : (j : Int) < m := by omega
      have HE2 : Hid (∀ i, i < j → (cs.set j (y / b)).getD i 0 = ds.getD i 0) := by
        intro i hi
        rw [← hE.out i (by omega), List.getD_eq_getElem?_getD, List.getD_eq_getElem?_getD, List.getElem?_set_ne (by omega)]
      rw [show (((j + 1 : Nat) : Int) - 1) = (j : Int) by omega]
      clear hstep hx h0
      go_wp2_with fail
      go_roundw
      case rel => exact ⟨j, _, _, rfl, rfl, by omega, HS, Wb.set hO.out j (by omega) _, HE2, ho.set j _⟩
      case measure => simp [intOf]
set_option maxHeartbeats 1000000 in
theorem piece9 (w : World) : Calls Tryz.prog 146 #[.int .i64 10] w fun e w' => e = .returned (.tuple #[.int .u64 1000000000, .int .i64 9]) ∧ w' = w := by
  go_enter Tryz.func146, Tryz.ntmps146
  go_wp2_with fail
  go_loopw [4, 5] (fun p n wr => wr = w ∧ ((p = .int .u64 1 ∧ n = .int .i64 0) ∨ (p = .int .u64 10 ∧ n = .int .i64 1) ∨ (p = .int .u64 100 ∧ n = .int .i64 2) ∨ (p = .int .u64 1000 ∧ n = .int .i64 3) ∨ (p = .int .u64 10000 ∧ n = .int .i64 4) ∨ (p = .int .u64 100000 ∧ n = .int .i64 5) ∨ (p = .int .u64 1000000 ∧ n = .int .i64 6) ∨ (p = .int .u64 10000000 ∧ n = .int .i64 7) ∨ (p = .int .u64 100000000 ∧ n = .int .i64 8) ∨ (p = .int .u64 1000000000 ∧ n = .int .i64 9))) (fun _ n _ => (9 - intOf n).toNat)
  case atStart => exact ⟨rfl, .inl ⟨rfl, rfl⟩⟩
  case round =>
    obtain ⟨rfl, hc⟩ := hrel
    rcases hc with ⟨rfl, rfl⟩ | ⟨rfl, rfl⟩ | ⟨rfl, rfl⟩ | ⟨rfl, rfl⟩ | ⟨rfl, rfl⟩ | ⟨rfl, rfl⟩ | ⟨rfl, rfl⟩ | ⟨rfl, rfl⟩ | ⟨rfl, rfl⟩ | ⟨rfl, rfl⟩
    all_goals first
      | (go_wp2_with fail
         go_roundw
         case rel => simp
         case measure => simp [intOf])
      | (go_wp2_with fail
         go_ret2
         exact ⟨rfl, rfl⟩)
end Go.Proofs.YtebbblhafjaaiaaGreatDoor
namespace Go.Proofs.YtebbblhafjaaiaaGreatDoor
set_option linter.unusedVariables false

/-- k digits are done: what is carried. -/
structure OnI (ds cs : List Int) (p q : Int) (k : Nat) (c : Int) : Prop where
  len : cs.length = ds.length
  lim : H.Limbs cs
  val : H.num (cs.take k) + c * H.pw k = H.num (ds.take k) * p + q
  rst : ∀ j, k ≤ j → cs.getD j 0 = ds.getD j 0
  c0 : 0 ≤ c
  c1 : c < 4294967296
theorem OnI.start {ds : List Int} (h : H.Limbs ds) {p q : Int} (q0 : 0 ≤ q) (q1 : q < 4294967296) : OnI ds ds p q 0 q :=
  ⟨rfl, h, by simp [H.num, H.pw], fun _ _ => rfl, q0, q1⟩
theorem mul32_bd {a b : Int} (a0 : 0 ≤ a) (a1 : a < 4294967296) (b0 : 0 ≤ b) (b1 : b < 4294967296) : 0 ≤ a * b ∧ a * b ≤ 18446744065119617025 := by
  constructor
  · exact Int.mul_nonneg a0 b0
  · have h1 : a * b ≤ 4294967295 * b := Int.mul_le_mul_of_nonneg_right (by omega) b0
    omega
theorem OnI.step {ds cs : List Int} {p q c : Int} {k : Nat} (h : OnI ds cs p q k c) (hk : k < ds.length) (p0 : 0 ≤ p) (p1 : p < 4294967296) :
    OnI ds (cs.set k ((ds.getD k 0 * p + c) % 4294967296)) p q (k + 1) ((ds.getD k 0 * p + c) / 4294967296) := by
  obtain ⟨h1, h2, h3, h4, h5, h6⟩ := h
  have hd : 0 ≤ ds.getD k 0 ∧ ds.getD k 0 < 4294967296 := by rw [← h4 k (Nat.le_refl _)]; exact h2.getD k
  have hm := mul32_bd hd.1 hd.2 p0 p1
  generalize hs : ds.getD k 0 * p + c = s at *
  have s0 : 0 ≤ s := by omega
  have s1 : s ≤ 18446744069414584320 := by omega
  refine ⟨by rw [List.length_set]; exact h1, h2.set k ⟨by omega, by omega⟩, ?_, fun j hj => ?_, by omega, by omega⟩
  · rw [H.num_set_take cs k _ (by omega), H.num_take_succ ds k, H.pw]
    have e : s % 4294967296 + 4294967296 * (s / 4294967296) = s := by omega
    have e2 := H.carry_step (p := H.pw k) e
    have e3 : ds.getD k 0 * H.pw k * p = (s - c) * H.pw k := by rw [← hs]; grind
    grind
  · rw [← h4 j (by omega), List.getD_eq_getElem?_getD, List.getD_eq_getElem?_getD, List.getElem?_set_ne (by omega)]
/-- A row with no nought at its end. -/
def Tzr (ds : List Int) : Prop := ds ≠ [] → ds.getD (ds.length - 1) 0 ≠ 0
theorem Tzr.nil : Tzr [] := fun h => absurd rfl h
theorem tzr_used {ds : List Int} (hL : H.Limbs ds) (h : Tzr ds) : usedN ds = ds.length := by
  rcases Nat.eq_zero_or_pos ds.length with h0 | h0
  · have := usedN_le ds; omega
  · refine usedN_eq (Nat.le_refl _) (fun i h1 h2 => by omega) (Or.inr ?_)
    exact h (fun e => by rw [e] at h0; simp at h0)
/-- What onto leaves: the row, or the row and what is carried. -/
theorem OnI.end_ {ds cs : List Int} {p q c : Int} (h : OnI ds cs p q ds.length c) (hz : Tzr ds) (hL : H.Limbs ds) (p1 : 1 ≤ p) (q0 : 0 ≤ q) :
    H.num (if 0 < c then cs ++ [c] else cs) = H.num ds * p + q ∧ H.Limbs (if 0 < c then cs ++ [c] else cs) ∧ Tzr (if 0 < c then cs ++ [c] else cs) := by
  obtain ⟨h1, h2, h3, h4, h5, h6⟩ := h
  rw [List.take_of_length_le (by omega), List.take_of_length_le (Nat.le_refl _)] at h3
  by_cases hc : 0 < c
  · rw [if_pos hc]
    refine ⟨by rw [H.num_snoc, h1]; exact h3, h2.snoc ⟨h5, h6⟩, fun _ => ?_⟩
    rw [List.length_append, List.length_singleton, Nat.add_sub_cancel, List.getD_eq_getElem?_getD, List.getElem?_append_right (Nat.le_refl _), Nat.sub_self]
    simp; omega
  · rw [if_neg hc]
    have c0 : c = 0 := by omega
    subst c0
    rw [Int.zero_mul, Int.add_zero] at h3
    refine ⟨h3, h2, fun hne => ?_⟩
    have hds : ds ≠ [] := fun e => hne (List.length_eq_zero_iff.1 (by rw [h1, e]; rfl))
    have hp := List.length_pos_iff.2 hds
    -- the value is at least that of ds, so the row is as long as ds
    have hu := tzr_used hL hz
    have hge := H.num_ge_used hL (by rw [hu]; exact hp)
    have hnn := H.num_nonneg hL
    have hle : H.num ds ≤ H.num ds * p := by
      have := Int.mul_le_mul_of_nonneg_left p1 hnn
      omega
    have hlt := H.num_lt_used h2
    have hul := usedN_le cs
    have hueq : usedN cs = cs.length := by
      rcases Nat.lt_or_ge (usedN cs) cs.length with h' | h'
      · have := H.pw_mono (m := usedN cs) (n := usedN ds - 1) (by omega)
        omega
      · omega
    have ht := usedN_top cs
    rw [hueq] at ht
    exact ht (by omega)
theorem long32_iff {ds : List Int} (hL : H.Limbs ds) (hz : Tzr ds) : 8192 < ds.length ↔ pw 4096 ≤ H.num ds := by
  have hu := tzr_used hL hz
  have e := H.pw_two 4096
  constructor
  · intro h
    have h1 := H.num_ge_used hL (by omega)
    have h2 := H.pw_mono (m := 2 * 4096) (n := usedN ds - 1) (by omega)
    omega
  · intro h
    rcases Nat.lt_or_ge 8192 ds.length with h' | h'
    · exact h'
    · have h1 := H.num_lt hL
      have h2 := H.pw_mono (m := ds.length) (n := 2 * 4096) (by omega)
      omega
end Go.Proofs.YtebbblhafjaaiaaGreatDoor
namespace Go.Proofs.YtebbblhafjaaiaaGreatDoor
open Go.RowKit Go.Shelf
set_option linter.unusedVariables false

theorem pow_big32 {b n : Nat} (h2 : 2 ≤ b) (h : (b : Int) ^ n < 4294967296) : n ≤ 31 := by
  rcases Nat.lt_or_ge n 32 with h' | h'
  · omega
  · have h1 : 2 ^ 32 ≤ b ^ n := Nat.le_trans (Nat.pow_le_pow_right (by omega) h') (Nat.pow_le_pow_left h2 n)
    have h3 : (b : Int) ^ n = ((b ^ n : Nat) : Int) := by simp
    rw [h3] at h
    omega
/-- The greatest power below 2^32. -/
def PcB (b sz : Nat) (p : Int) : Prop := p = (b : Int) ^ sz ∧ 2 ≤ p ∧ p < 4294967296 ∧ 1 ≤ sz ∧ sz ≤ 31
set_option maxHeartbeats 1000000 in
theorem pieceB (b : Nat) (h2 : 2 ≤ b) (h36 : b ≤ 36) (w : World) : Calls Tryz.prog 146 #[.int .i64 b] w fun e w' => ∃ (sz : Nat) (p : Int), e = .returned (.tuple #[.int .u64 p, .int .i64 sz]) ∧ PcB b sz p ∧ w' = w := by
  go_enter Tryz.func146, Tryz.ntmps146
  go_wp2_with fail
  go_loop [4, 5] (fun pp nn => ∃ (n : Nat) (p : Int), pp = .int .u64 p ∧ nn = .int .i64 n ∧ Hid (p = (b : Int) ^ n) ∧ 1 ≤ p ∧ p < 4294967296 ∧ n ≤ 31 ∧ (n = 0 → p = 1) ∧ (0 < n → 2 ≤ p)) (fun _ nn => (40 - intOf nn).toNat)
  case atStart => exact ⟨0, 1, rfl, rfl, by show (1 : Int) = _; simp, by omega, by omega, by omega, fun _ => rfl, fun h => by omega⟩
  case round =>
    obtain ⟨n, p, rfl, rfl, HP, p1, p2, hn, hz, hp⟩ := hrel
    have HZ : Hid ((n = 0 → p = 1) ∧ (0 < n → 2 ≤ p)) := ⟨hz, hp⟩
    clear hz hp
    have wb : IntKind.u64.wrap (b : Int) = b := by rw [IntKind.wrap_u64]; omega
    obtain ⟨y, hy⟩ : ∃ y, p * (b : Int) = y := ⟨_, rfl⟩
    have yb := mul32_bd (a := p) (b := (b : Int)) (by omega) (by omega) (by omega) (by omega)
    have y2 : 2 ≤ y := by
      have : 1 * (b : Int) ≤ p * b := Int.mul_le_mul_of_nonneg_right p1 (by omega)
      omega
    rw [hy] at yb
    obtain ⟨y0, y1⟩ := yb
    have wy : IntKind.u64.wrap y = y := by rw [IntKind.wrap_u64]; omega
    by_cases hyw : y < 4294967296
    · have hpow : y = (b : Int) ^ (n + 1) := by rw [← hy, HP.out, Int.pow_succ]
      have hn31 := pow_big32 h2 (by rw [← hpow]; exact hyw)
      have HY : Hid (y = (b : Int) ^ (n + 1)) := hpow
      clear hpow
      go_wp2_with fail
      go_round
      case rel => exact ⟨n + 1, y, rfl, by go_num, HY, by omega, hyw, hn31, (fun h => by omega), fun _ => y2⟩
      case measure => simp [intOf]; omega
    · have hyd : decide (y < 4294967296) = false := by simpa using hyw
      have hn0 : 0 < n := by
        rcases Nat.eq_zero_or_pos n with h0 | h0
        · have := HZ.out.1 h0
          rw [this, Int.one_mul] at hy
          omega
        · exact h0
      have HF : Hid (PcB b n p) := ⟨HP.out, HZ.out.2 hn0, p2, hn0, hn⟩
      clear HZ HP
      go_wp2_with fail
      go_ret2
      exact ⟨n, p, rfl, HF.out, rfl⟩
def slenB : Value → Nat
  | .slice _ n _ => n
  | _ => 0
theorem DgI.limbs {b : Int} {os : List Int} (h : DgI b os) (hb : b ≤ 36) : Limbs os := fun z hz => by have := h z hz; omega
theorem Gr.lenB {w : World} {B : Nat} {v : Value} {cs : List Int} (h : Gr w B v cs) : slenB v = cs.length := by
  obtain ⟨h1, h2 | ⟨g, cap, cur, e, hB, hh, hc, hm, hs, ht⟩⟩ := h
  · obtain ⟨rfl, h0⟩ := h2
    rw [h0]; rfl
  · rw [e]; rfl
theorem gr_weakB {w : World} {B B' : Nat} {v : Value} {cs : List Int} (h : Gr w B v cs) (hB : B' ≤ B) : Gr w B' v cs := by
  obtain ⟨h1, h2 | ⟨g, cap, cur, e, hg, hh, hc, hm, hs, ht⟩⟩ := h
  · exact ⟨h1, .inl h2⟩
  · exact ⟨h1, .inr ⟨g, cap, cur, e, by omega, hh, hc, hm, hs, ht⟩⟩
/-- The digits that are left of the number. -/
def LfB (B0 B1 : Nat) (wr : World) (a : Option Addr) (m cap : Nat) (ds : List Int) : Prop :=
  m ≤ cap ∧ m ≤ 4000000 ∧ ds.length = m ∧ H.Limbs ds ∧ usedN ds = m ∧ (m ≠ 0 → ∃ g, a = some ⟨g, 0, none⟩ ∧ B0 ≤ g ∧ g < B1 ∧ Wb wr g m ds)
theorem LfB.pos {B0 B1 : Nat} {wr : World} {a : Option Addr} {m cap : Nat} {ds : List Int} (h : LfB B0 B1 wr a m cap ds) (hm : 0 < m) : 0 < H.num ds := by
  obtain ⟨-, -, h1, h2, h3, -⟩ := h
  have := H.num_ge_used h2 (show 0 < usedN ds by omega)
  have := H.pw_pos (usedN ds - 1)
  omega
theorem LfB.zero {B0 B1 : Nat} {wr : World} {a : Option Addr} {m cap : Nat} {ds : List Int} (h : LfB B0 B1 wr a m cap ds) (hm : m = 0) : H.num ds = 0 := by
  obtain ⟨-, -, h1, h2, h3, -⟩ := h
  have : ds = [] := List.eq_nil_of_length_eq_zero (by omega)
  rw [this]; rfl
theorem LfB.below {B0 B1 B : Nat} {wr w' : World} {a : Option Addr} {m cap : Nat} {ds : List Int} (h : LfB B0 B1 wr a m cap ds) (b : Below B wr w') (hB : B1 ≤ B) : LfB B0 B1 w' a m cap ds := by
  obtain ⟨h1, h2, h3, h4, h5, h6⟩ := h
  refine ⟨h1, h2, h3, h4, h5, fun h => ?_⟩
  obtain ⟨g, e, g1, g2, g3⟩ := h6 h
  exact ⟨g, e, g1, g2, g3.below b (by omega)⟩
/-- What Worths answers. -/
def WoR (b : Nat) (N : Int) (w : World) (e : Ending) (w' : World) : Prop := ∃ v os, e = .returned v ∧ Gr w' w.heap.size v os ∧ os ≠ [] ∧ DgI b os ∧ lvB b os = N ∧ os.length ≤ 300100 ∧ (os = [0] ∨ TpB os) ∧ Below w.heap.size w w'
set_option maxRecDepth 20000 in
set_option maxHeartbeats 4000000 in
theorem worthsB (b : Nat) (h2 : 2 ≤ b) (h36 : b ≤ 36) (a : Option Addr) (la ca : Nat) (zs : List Int) (w : World) (h : Sl w a la zs) (hl : la ≤ 1100000) (hM : ∀ n : Nat, (b : Int) ^ n ≤ num zs → n ≤ 300000) (hN0 : 0 ≤ num zs) :
    Calls Tryz.prog 102 #[.slice a la ca, .int .i64 b] w fun e w' => WoR b (num zs) w e w' := by
  obtain ⟨N, hNN⟩ : ∃ N, num zs = N := ⟨_, rfl⟩
  have hh := halves3 a la ca zs
  rw [hNN] at hM hN0 hh ⊢
  have HM : Hid (∀ n : Nat, (b : Int) ^ n ≤ N → n ≤ 300000) := hM
  clear hM
  have b1 : (1 : Int) ≤ b := by omega
  have wb : IntKind.u64.wrap (b : Int) = b := by rw [IntKind.wrap_u64]; omega
  go_enter Tryz.func102, Tryz.ntmps102
  go_wp2_with fail
  refine (pieceB b h2 h36 _).mono ?_
  rintro e w0 ⟨sz, p, rfl, HPC0, hw⟩
  have HPC : Hid (PcB b sz p) := HPC0
  have p2 := HPC0.2.1; have p3 := HPC0.2.2.1; have sz1 := HPC0.2.2.2.1; have sz2 := HPC0.2.2.2.2
  rw [hw]
  clear hw HPC0
  go_wp2_with fail
  refine (hh _ h (by omega)).mono ?_
  clear hh
  rintro e x1 ⟨a1, m1, c1, ds1, rfl, hc1, hm1, hs1, hL1, hu1, hn1, ho1, hb1⟩
  have HL0 : Hid (LfB w.heap.size x1.heap.size x1 a1 m1 c1 ds1) := by
    refine ⟨hc1, by omega, hs1.1, hL1, hu1, fun h0 => ?_⟩
    obtain ⟨g, cur, rfl, hg, hcur⟩ := ho1 h0
    have hwb := wb_of hs1 hcur
    exact ⟨g, rfl, hg, hwb.lt, hwb⟩
  have HO0 : Hid (OuB b N (H.num ds1) []) := by rw [hn1]; exact OuB.start b N
  clear hc1 hm1 hs1 hL1 hu1 hn1 ho1
  obtain ⟨B1, hB1⟩ : ∃ B1, B1 = x1.heap.size := ⟨_, rfl⟩
  have hbB : w.heap.size ≤ B1 := by rw [hB1]; exact hb1.size
  have hB2 : B1 ≤ x1.heap.size := by omega
  rw [← hB1] at HL0
  go_wp2_with fail
  go_loopw [7, 8] (fun d out wr => ∃ aa m cap ds os, d = .slice aa m cap ∧ Hid (LfB w.heap.size B1 wr aa m cap ds) ∧ Hid (OuB b N (H.num ds) os) ∧ Hid (Gr wr B1 out os) ∧ Below w.heap.size w wr ∧ B1 ≤ wr.heap.size ∧ os.length ≤ 300100) (fun _ out _ => 400000 - slenB out)
  case atStart => exact ⟨a1, m1, c1, ds1, [], rfl, HL0, HO0, Gr.nil _ _, hb1, hB2, by simp⟩
  case round =>
    obtain ⟨aa, m, cap, ds, os, rfl, HL, HO, HG, hbl, hsz, hole⟩ := hrel
    clear HL0 HO0 hB2 hB1 hb1
    by_cases hm0 : m = 0
    · subst hm0
      have hD := HL.out.zero rfl
      have hO := HO.out
      rw [hD] at hO
      have hv : lvB b os = N := by have := hO.val; rw [Int.mul_zero, Int.add_zero] at this; exact this.symm
      by_cases he : os = []
      · subst he
        have HN1 : Hid ((0 : Int) = N) := hv
        obtain ⟨a8, c8, hv8, hc8, hs8⟩ := HG.out.sl (hO.dig.limbs (by omega))
        subst hv8
        clear HG hs8 hO HO hv
        go_wp2_with fail
        go_ret
        exact ⟨_, [0], rfl, gr_of_own (cs := [0]) (heap_alloc_new _ _) hbl.size (by decide), by simp, fun z hz => by rw [List.mem_singleton.1 hz]; exact ⟨by decide, by omega⟩, by rw [← HN1.out]; simp [lvB], by decide, .inl rfl, hbl.alloc hbl.size _⟩
      · obtain ⟨a8, c8, hv8, hc8, hs8⟩ := HG.out.sl (hO.dig.limbs (by omega))
        have htop := (hO.top rfl).resolve_left he
        have hdig := hO.dig
        have hpos : 0 < os.length := List.length_pos_iff.2 he
        subst hv8
        have g0 : ((os.length : Int) == 0) = false := by simp; omega
        clear hs8 hO HO
        go_wp2_with fail
        go_ret
        exact ⟨_, os, rfl, gr_weakB HG.out hbB, he, hdig, hv, hole, .inr htop, hbl⟩
    · have hmi : (0 : Int) < m := by omega
      obtain ⟨g, rfl, hg0, hg1, hW⟩ := HL.out.2.2.2.2.2 hm0
      have hos := HM.out _ (HO.out.le b1 (HL.out.pos (by omega)))
      go_wp2_with fail
      refine (over9 g m cap ds p _ hW HL.out.2.2.2.1 (by have := HL.out.2.1; omega) (by omega) (by omega)).mono ?_
      rintro e x2 ⟨cs, r, rfl, hW2, hL2, hn2, hr0, hr1, ho2⟩
      have hG2 := gr_only HG.out ho2 hg1
      have hP : InB b N (H.num cs) sz os.length 0 os r := HO.out.piece (by rw [← HPC.out.1]; exact hn2) hr0 (by rw [← HPC.out.1]; exact hr1)
      go_wp2_with fail
      refine (cut3_any (some ⟨g, 0, none⟩) m cap cs _ (hW2.sl hL2.up) (by have := HL.out.2.1; omega) HL.out.1).mono ?_
      rintro e w3 ⟨rfl, hw⟩
      rw [hw]
      clear hw
      have hu := usedN_le cs
      have hlc := hW2.1
      have HL3 : Hid (LfB w.heap.size B1 x2 (some ⟨g, 0, none⟩) (usedN cs) cap (cs.take (usedN cs))) :=
        ⟨by have := HL.out.1; omega, by have := HL.out.2.1; omega, by rw [List.length_take]; omega, hL2.take _, usedN_take cs (Nat.le_refl _), fun _ => ⟨g, rfl, hg0, hg1, hW2.take (by omega)⟩⟩
      have HNc : H.num (cs.take (usedN cs)) = H.num cs := H.num_take_used cs (Nat.le_refl _)
      rw [← HNc] at hP hn2
      have hk0 : 0 < H.num (cs.take (usedN cs)) ∨ 0 < r := by
        have h1 := HL.out.pos (by omega)
        have h3 := H.num_nonneg (hL2.take (usedN cs))
        rcases Int.lt_or_eq_of_le h3 with h' | h'
        · exact .inl h'
        · right; rw [← h', Int.zero_mul] at hn2; omega
      have HP : Hid (InB b N (H.num (cs.take (usedN cs))) sz os.length 0 os r) := hP
      obtain ⟨ds3, hds3⟩ : ∃ d, cs.take (usedN cs) = d := ⟨_, rfl⟩
      obtain ⟨m3, hm3⟩ : ∃ d, usedN cs = d := ⟨_, rfl⟩
      rw [hds3] at HL3 HP hk0
      rw [hm3] at HL3 ⊢
      have hb2 : Below w.heap.size w x2 := hbl.trans (ho2.below hg0)
      have hsz2 : B1 ≤ x2.heap.size := Nat.le_trans hsz ho2.bel.size
      have HG2 : Hid (Gr x2 B1 _ os) := hG2
      have HK0 : Hid (0 < H.num ds3 ∨ 0 < r) := hk0
      have HLEN := HG.out.lenB
      clear HNc hP hk0 hds3 hm3 hu hlc hW hW2 hG2 hL2 hn2 hr0 hr1 ho2 HL HO HG hbl hsz
      go_wp2_with fail
      go_loopw [8, 9, 10] (fun out rest kk wr2 => ∃ (k : Nat) (os2 : List Int) (r2 : Int), kk = .int .i64 k ∧ rest = .int .u64 r2 ∧ r2 < 4294967296 ∧ Hid (InB b N (H.num ds3) sz os.length k os2 r2) ∧ Hid (Gr wr2 B1 out os2) ∧ Hid (LfB w.heap.size B1 wr2 (some ⟨g, 0, none⟩) m3 cap ds3) ∧ Hid (k = 0 → 0 < H.num ds3 ∨ 0 < r2) ∧ Below w.heap.size w wr2 ∧ B1 ≤ wr2.heap.size) (fun _ _ kk _ => sz - (intOf kk).toNat)
      case atStart => exact ⟨0, os, r, rfl, rfl, by have := HP.out.r1; rw [Nat.sub_zero, ← HPC.out.1] at this; omega, HP, HG2, HL3, fun _ => HK0.out, hb2, hsz2⟩
      case round =>
        obtain ⟨k, os2, r2, rfl, rfl, hr32, HI, HG3, HL4, HK, hb3, hsz3⟩ := hrel
        clear HP HG2 HL3 HK0 hb2 hsz2
        have hr0 := HI.out.r0
        have hr1 : r2 < 18446744073709551616 := by omega
        have hkl := HI.out.kl
        have hle2 : os2.length ≤ 300100 := by have := HI.out.len; omega
        have hD := H.num_nonneg HL4.out.2.2.2.1
        have bz : ((b : Int) == 0) = false := by simp; omega
        by_cases hk9 : k < sz
        · have hki : (k : Int) < sz := by omega
          have hq0 : 0 ≤ r2 / (b : Int) := Int.ediv_nonneg hr0 (by omega)
          have hq1 : r2 / (b : Int) ≤ r2 := Int.ediv_le_self _ hr0
          have hm0' : 0 ≤ r2 % (b : Int) := Int.emod_nonneg r2 (by omega)
          have hm1' : r2 % (b : Int) < b := Int.emod_lt_of_pos r2 (by omega)
          by_cases hm3 : 0 < m3
          · have hmi3 : (0 : Int) < m3 := by omega
            have HS : Hid (InB b N (H.num ds3) sz os.length (k + 1) (os2 ++ [r2 % b]) (r2 / b)) := HI.out.step (by omega) hD hk9 (.inl (HL4.out.pos hm3))
            have hw10 : Limbs [r2 % (b : Int)] := fun z hz => by rw [List.mem_singleton.1 hz]; omega
            have HC : Hid (Sl (wr.alloc (.cells #[.int .u64 (r2 % (b : Int))] 94)) (some ⟨wr.heap.size, 0, none⟩) 1 [r2 % (b : Int)]) := Own.sl (cs := [r2 % (b : Int)]) (heap_alloc_new _ _) hw10
            have HGa : Hid (Gr (wr.alloc (.cells #[.int .u64 (r2 % (b : Int))] 94)) B1 u8 os2) := HG3.out.alloc _
            have hszA : B1 ≤ (wr.alloc (.cells #[.int .u64 (r2 % (b : Int))] 94)).heap.size := by simp; omega
            go_wp2_with (at_builtin; refine wpList_app_sl rfl (.tmp 40) (.tmp 45) rfl B1 u8 os2 rfl HGa.out wr.heap.size 0 1 1 [r2 % (b : Int)] rfl HC.out (by omega) hszA ?_; intro v1 w1 HG1 hb1)
            have hb4 : Below w.heap.size w w1 := (hb3.alloc hb3.size _).trans (hb1.mono hbB)
            have HL5 : Hid (LfB w.heap.size B1 w1 (some ⟨g, 0, none⟩) m3 cap ds3) := (HL4.out.below ((Below.refl B1 wr).alloc hsz3 _) (Nat.le_refl _)).below hb1 (Nat.le_refl _)
            have hsz4 : B1 ≤ w1.heap.size := Nat.le_trans hszA hb1.size
            clear HC HGa hb1 HI HG3 HL4 HK hw10
            go_wp2_with fail
            go_roundw
            case rel => exact ⟨k + 1, _, _, by go_num, rfl, by omega, HS, HG1, HL5, fun h => by omega, hb4, hsz4⟩
            case measure => simp [intOf]; omega
          · have HMZ : Hid (m3 = 0) := by show _ = _; omega
            have hmi3 : ¬ (0 : Int) < m3 := by omega
            by_cases hr2 : 0 < r2
            · have HS : Hid (InB b N (H.num ds3) sz os.length (k + 1) (os2 ++ [r2 % b]) (r2 / b)) := HI.out.step (by omega) hD hk9 (.inr hr2)
              have hw10 : Limbs [r2 % (b : Int)] := fun z hz => by rw [List.mem_singleton.1 hz]; omega
              have HC : Hid (Sl (wr.alloc (.cells #[.int .u64 (r2 % (b : Int))] 94)) (some ⟨wr.heap.size, 0, none⟩) 1 [r2 % (b : Int)]) := Own.sl (cs := [r2 % (b : Int)]) (heap_alloc_new _ _) hw10
              have HGa : Hid (Gr (wr.alloc (.cells #[.int .u64 (r2 % (b : Int))] 94)) B1 u8 os2) := HG3.out.alloc _
              have hszA : B1 ≤ (wr.alloc (.cells #[.int .u64 (r2 % (b : Int))] 94)).heap.size := by simp; omega
              go_wp2_with (at_builtin; refine wpList_app_sl rfl (.tmp 40) (.tmp 45) rfl B1 u8 os2 rfl HGa.out wr.heap.size 0 1 1 [r2 % (b : Int)] rfl HC.out (by omega) hszA ?_; intro v1 w1 HG1 hb1)
              have hb4 : Below w.heap.size w w1 := (hb3.alloc hb3.size _).trans (hb1.mono hbB)
              have HL5 : Hid (LfB w.heap.size B1 w1 (some ⟨g, 0, none⟩) m3 cap ds3) := (HL4.out.below ((Below.refl B1 wr).alloc hsz3 _) (Nat.le_refl _)).below hb1 (Nat.le_refl _)
              have hsz4 : B1 ≤ w1.heap.size := Nat.le_trans hszA hb1.size
              clear HC HGa hb1 HI HG3 HL4 HK hw10
              go_wp2_with fail
              go_roundw
              case rel => exact ⟨k + 1, _, _, by go_num, rfl, by omega, HS, HG1, HL5, fun h => by omega, hb4, hsz4⟩
              case measure => simp [intOf]; omega
            · have HRZ : Hid (r2 = 0) := by show _ = _; omega
              have hk0' : 0 < k := by
                rcases Nat.eq_zero_or_pos k with h0 | h0
                · exfalso
                  have h1 := HK.out h0
                  have h3 := HL4.out.zero HMZ.out
                  have h4 := HRZ.out
                  omega
                · exact h0
              have HO3 : Hid (OuB b N (H.num ds3) os2) := HI.out.leave hk0' (.inr ⟨HL4.out.zero HMZ.out, HRZ.out⟩)
              go_wp2_with fail
              go_roundw
              case rel => exact ⟨_, m3, cap, ds3, os2, rfl, HL4, HO3, HG3, hb3, hsz3, hle2⟩
              case measure =>
                have h1 := HG3.out.lenB
                have h3 := HI.out.len
                simp
                omega
        · have hki : ¬ (k : Int) < sz := by omega
          have hk9e : k = sz := by omega
          have HO3 : Hid (OuB b N (H.num ds3) os2) := HI.out.leave (by omega) (.inl hk9e)
          go_wp2_with fail
          go_roundw
          case rel => exact ⟨_, m3, cap, ds3, os2, rfl, HL4, HO3, HG3, hb3, hsz3, hle2⟩
          case measure =>
            have h1 := HG3.out.lenB
            have h3 := HI.out.len
            simp
            omega
end Go.Proofs.YtebbblhafjaaiaaGreatDoor
namespace Go.Proofs.YtebbblhafjaaiaaGreatDoor
open Go.RowKit Go.Shelf
set_option linter.unusedVariables false

def rowU (cs : List UInt8) : List Value := cs.map (fun c => Value.int .u8 (c.toNat : Int))
theorem rowU_length (cs : List UInt8) : (rowU cs).length = cs.length := by simp [rowU]
theorem rowU_append (a b : List UInt8) : rowU (a ++ b) = rowU a ++ rowU b := by simp [rowU]
theorem rowU_one (cs : List UInt8) : ∀ v ∈ rowU cs, v.oneCell' = true := by
  intro v hv
  simp only [rowU, List.mem_map] at hv
  obtain ⟨x, -, rfl⟩ := hv
  rfl
def GrU (w : World) (B : Nat) (v : Value) (cs : List UInt8) : Prop := w.ownsRow B 5 1 v cs.length (rowU cs)
theorem GrU.nil (w : World) (B : Nat) : GrU w B (.slice none 0 0) [] := ⟨rfl, .inl ⟨rfl, rfl⟩⟩
theorem GrU.alloc {w : World} {B : Nat} {v : Value} {cs : List UInt8} (h : GrU w B v cs) (o : Obj) : GrU (w.alloc o) B v cs := World.ownsRow.alloc h o
theorem GrU.block {w : World} {B : Nat} {v : Value} {cs : List UInt8} (h : GrU w B v cs) : ∀ k, v.ownBlock = some k → B ≤ k := by
  obtain ⟨h1, h2 | ⟨g, cap, cur, rfl, hB, hh, hc, hm, hs, ht⟩⟩ := h
  · obtain ⟨rfl, h0⟩ := h2
    intro k hk; cases hk
  · intro k hk; cases hk; exact hB
theorem info1U : (Tryz.prog.info? 5).map (fun i => (i.zero, i.size, i.bytes)) = some (some (.int .u8 0), 1, 1) := by kernel_rfl
/-- append of one byte. -/
theorem wpList_appU {ops : Array Oper} {rest : List Oper} {o : Oper} {a : Act} {w : World} {Q : Exit → Act → World → Prop} (hgd : o.guard = none) (s x : Operand)
    (ho : o.op = .call { callee := .builtin .append, args := #[s, x], argTypes := #[152, 152] })
    (B : Nat) (v : Value) (cs : List UInt8) (hs : a.eval s = v) (hg : GrU w B v cs) (g : Nat) (c : UInt8) (hx : a.eval x = .slice (some ⟨g, 0, none⟩) 1 1) (hn : w.cell? ⟨g, 0, none⟩ = some (.int .u8 (c.toNat : Int)))
    (hb : cs.length + 1 ≤ 17592186044416) (hB : B ≤ w.heap.size)
    (h : ∀ v' w', Hid (GrU w' B v' (cs ++ [c])) → Below B w w' → wpList Tryz.prog ops Q rest (a.put o.dst v') w') : wpList Tryz.prog ops Q (o :: rest) a w := by
  obtain ⟨i0, hi, hz0, hz1, hz2⟩ := info_parts info1U
  refine wpList_append_own w hgd s x _ ho B 5 i0 (.int .u8 0) 1 1 Tryz.underlying152 hi hz0 hz1 hz2 rfl (by decide) v cs.length (rowU cs) hs hg ⟨g, 0, none⟩ 1 1 (rowU [c]) hx rfl ?_ (rowU_one _) (by unfold maxLen; omega) (by omega) hB ?_
  · intro j u hu
    have hj : j = 0 := by
      rcases Nat.lt_or_ge j (rowU [c]).length with h' | h'
      · rw [rowU_length] at h'; simpa using h'
      · rw [List.getElem?_eq_none h'] at hu; cases hu
    subst hj
    cases hu
    rw [addr_add]
    exact hn
  · intro v' w' h2 h3 _
    refine h v' w' ?_ ((Below.refl B w).grown h3 hB hg.block)
    show GrU w' B v' (cs ++ [c])
    unfold GrU
    rw [List.length_append, rowU_append]
    exact h2
theorem GrU.conv {w : World} {B : Nat} {v : Value} {cs : List UInt8} (h : GrU w B v cs) (h0 : cs ≠ []) : (convert 152 9 v).run Tryz.prog w = .ok (.string ⟨cs.toArray⟩) w := by
  obtain ⟨h1, h2 | ⟨g, cap, cur, rfl, hB, hh, hc, hm, hs, ht⟩⟩ := h
  · exact absurd (List.eq_nil_of_length_eq_zero h2.2) h0
  · refine run_convert_bytes_back (P := Tryz.prog) w 152 9 5 ⟨g, 0, none⟩ cap cs Tryz.underlying152 Tryz.underlying5 Tryz.underlying9 (fun j hj => ?_)
    have hr : (rowU cs)[j]? = some (.int .u8 ((cs[j]).toNat : Int)) := by simp [rowU, hj]
    rw [← ht, Nat.mul_one, List.getElem?_take_of_lt hj] at hr
    rw [addr_add, Nat.zero_add]
    simp only [World.cell?, hh]
    simpa using hr
end Go.Proofs.YtebbblhafjaaiaaGreatDoor
namespace Go.Proofs.YtebbblhafjaaiaaGreatDoor
open Go.RowKit Go.Shelf
set_option linter.unusedVariables false

theorem Gr.shape {w : World} {B : Nat} {v : Value} {cs : List Int} (h : Gr w B v cs) : (v = .slice none 0 0 ∧ cs = []) ∨ ∃ g cap, v = .slice (some ⟨g, 0, none⟩) cs.length cap ∧ B ≤ g ∧ g < w.heap.size ∧ cs.length ≤ cap ∧ Wb w g cs.length cs := by
  obtain ⟨h1, h2 | ⟨g, cap, cur, rfl, hB, hh, hc, hm, hs, ht⟩⟩ := h
  · obtain ⟨rfl, h0⟩ := h2
    exact .inl ⟨rfl, List.length_eq_zero_iff.1 h0⟩
  · refine .inr ⟨g, cap, rfl, hB, ?_, hc, rfl, cur, hh, fun i hi => ?_⟩
    · rcases Nat.lt_or_ge g w.heap.size with h' | h'
      · exact h'
      · rw [Array.getElem?_eq_none h'] at hh; cases hh
    · have hr := row_getElem? cs i hi
      rw [← ht, Nat.mul_one, List.getElem?_take_of_lt hi] at hr
      simpa using hr
theorem row_set (cs : List Int) (i : Nat) (x : Int) : row (cs.set i x) = (row cs).set i (.int .u64 x) := by simp [row, List.map_set]
theorem Gr.seti {w : World} {B g cap : Nat} {cs : List Int} (h : Gr w B (.slice (some ⟨g, 0, none⟩) cs.length cap) cs) (i : Nat) (hi : i < cs.length) (x : Int) : Gr (w.setCell ⟨g, i, none⟩ (.int .u64 x)) B (.slice (some ⟨g, 0, none⟩) cs.length cap) (cs.set i x) := by
  obtain ⟨h1, h2 | ⟨g', cap', cur, e, hB, hh, hc, hm, hs, ht⟩⟩ := h
  · obtain ⟨e, h0⟩ := h2; cases e
  · cases e
    refine ⟨by rw [row_length, List.length_set, Nat.mul_one], .inr ⟨g, cap, cur.setIfInBounds i (.int .u64 x), by rw [List.length_set], hB, ?_, by rw [List.length_set]; exact hc, hm, by rw [Array.size_setIfInBounds]; exact hs, ?_⟩⟩
    · simp only [World.setCell]
      rw [Array.getElem?_modify, if_pos rfl, hh]
      simp
    · rw [List.length_set, Array.toList_setIfInBounds, List.take_set, ht, row_set]
def OnR (B : Nat) (ds : List Int) (p q : Int) (w : World) (e : Ending) (w' : World) : Prop := ∃ v' cs, e = .returned v' ∧ Gr w' B v' cs ∧ H.Limbs cs ∧ Tzr cs ∧ H.num cs = H.num ds * p + q ∧ cs.length ≤ ds.length + 1 ∧ Below B w w'
set_option maxHeartbeats 2000000 in
theorem onto_any (B : Nat) (v : Value) (ds : List Int) (p q : Int) (w : World) (h : Gr w B v ds) (hL : H.Limbs ds) (hz : Tzr ds) (hB : B ≤ w.heap.size) (hlen : ds.length ≤ 1000000) (p1 : 1 ≤ p) (p2 : p < 4294967296) (q0 : 0 ≤ q) (q1 : q < 4294967296) :
    Calls Tryz.prog 200 #[v, .int .u64 p, .int .u64 q] w fun e w' => OnR B ds p q w e w' := by
  have HG0 : Hid (Gr w B v ds) := h
  have I0 : Hid (OnI ds ds p q 0 q) := OnI.start hL q0 q1
  obtain ⟨m, hm⟩ : ∃ m, ds.length = m := ⟨_, rfl⟩
  obtain ⟨a, cap, hv⟩ : ∃ a cap, v = .slice a m cap := by
    rw [← hm]
    obtain ⟨a, cap, e, -⟩ := h.sl hL.up
    exact ⟨a, cap, e⟩
  subst hv
  rw [hm] at hlen
  have HM : Hid (ds.length = m) := hm
  have HL : Hid (H.Limbs ds ∧ Tzr ds) := ⟨hL, hz⟩
  clear h hL hz hm
  go_enter Tryz.func200, Tryz.ntmps200
  go_wp2_with fail
  go_loopw [7, 8] (fun cc ii wr => ∃ (k : Nat) (c : Int) (cs : List Int), ii = .int .i64 k ∧ cc = .int .u64 c ∧ k ≤ m ∧ Hid (OnI ds cs p q k c) ∧ Hid (Gr wr B (.slice a m cap) cs) ∧ Hid (Below B w wr)) (fun _ ii _ => ((m : Int) - intOf ii).toNat)
  case atStart => exact ⟨0, q, ds, rfl, rfl, by omega, I0, HG0, Below.refl _ _⟩
  case round =>
    obtain ⟨k, c, cs, rfl, rfl, hk, HI, HG, HB⟩ := hrel
    have hcl : cs.length = m := by rw [HI.out.len]; exact HM.out
    have c0 := HI.out.c0
    have c1 := HI.out.c1
    clear I0 HG0
    by_cases hlt : k < m
    · have hki : (k : Int) < m := by omega
      obtain ⟨g, cap', e, hBg, hgl, hcc, hWb⟩ : ∃ g cap', Value.slice a m cap = .slice (some ⟨g, 0, none⟩) cs.length cap' ∧ B ≤ g ∧ g < wr.heap.size ∧ cs.length ≤ cap' ∧ Wb wr g cs.length cs := by
        rcases HG.out.shape with ⟨e, e2⟩ | h
        · rw [e2] at hcl; simp at hcl; omega
        · exact h
      rw [hcl] at e
      cases e
      have hstep := HI.out.step (by rw [HM.out]; exact hlt) (by omega) p2
      have hd0 := HI.out.lim.getD k
      have hcell := hWb.cell k (by omega)
      have hfz := hWb.frozen k
      rw [HI.out.rst k (Nat.le_refl _)] at hcell hd0
      have hG2 := HG.out
      rw [← hcl] at hG2
      have hset := fun x => hG2.seti k (by omega) x
      rw [hcl] at hset
      obtain ⟨x, hx⟩ : ∃ x, ds.getD k 0 = x := ⟨_, rfl⟩
      rw [hx] at hstep hcell hd0
      have hmb := mul32_bd hd0.1 hd0.2 (show 0 ≤ p by omega) p2
      obtain ⟨y, hy⟩ : ∃ y, x * p = y := ⟨_, rfl⟩
      rw [hy] at hstep hmb
      obtain ⟨s, hs⟩ : ∃ s, y + c = s := ⟨_, rfl⟩
      rw [hs] at hstep
      have s0 : 0 ≤ s := by omega
      have s1 : s < 18446744073709551616 := by omega
      have y1 : y < 18446744073709551616 := by omega
      have y0 : 0 ≤ y := hmb.1
      have wy : IntKind.u64.wrap y = y := by rw [IntKind.wrap_u64]; omega
      have ws : IntKind.u64.wrap s = s := by rw [IntKind.wrap_u64]; omega
      have HST : Hid (OnI ds (cs.set k (s % 4294967296)) p q (k + 1) (s / 4294967296)) := hstep
      have HSET : Hid (∀ x : Int, Gr (wr.setCell ⟨g, k, none⟩ (.int .u64 x)) B (.slice (some ⟨g, 0, none⟩) m cap) (cs.set k x)) := hset
      clear hstep hset hG2 hWb hx hmb HI HG
      go_wp2_with fail
      go_roundw
      case rel => exact ⟨k + 1, _, _, by go_num, rfl, by omega, HST, HSET.out _, HB.out.setCell (p := ⟨g, k, none⟩) hBg _⟩
      case measure => simp [intOf]; omega
    · have hki : ¬ (k : Int) < m := by omega
      obtain rfl : k = m := by omega
      have hI := HI.out
      rw [← HM.out] at hI
      have hend := hI.end_ HL.out.2 HL.out.1 p1 q0
      by_cases hc : 0 < c
      · rw [if_pos hc] at hend
        have HE : Hid (H.num (cs ++ [c]) = H.num ds * p + q ∧ H.Limbs (cs ++ [c]) ∧ Tzr (cs ++ [c])) := hend
        have hBw : B ≤ wr.heap.size := Nat.le_trans hB HB.out.size
        clear hI hend HI
        have hal : B ≤ (wr.alloc (.cells #[.int .u64 c] 94)).heap.size := by simp; omega
        have HAL : Hid (Below B w (wr.alloc (.cells #[.int .u64 c] 94))) := HB.out.alloc hBw _
        go_wp2_with (at_builtin; refine wpList_app rfl (.tmp 34) (.tmp 36) rfl B (.slice a k cap) cs rfl (HG.out.alloc _) wr.heap.size 1 1 [c] rfl rfl (heap_alloc_new _ _) (by omega) hal ?_; intro v1 w1 hG1 hb1)
        go_ret
        exact ⟨_, cs ++ [c], rfl, hG1.out, HE.out.2.1, HE.out.2.2, HE.out.1, by rw [HM.out]; simp; omega, HAL.out.trans hb1⟩
      · rw [if_neg hc] at hend
        have HE : Hid (H.num cs = H.num ds * p + q ∧ H.Limbs cs ∧ Tzr cs) := hend
        clear hI hend HI
        go_wp2_with fail
        go_ret
        exact ⟨_, cs, rfl, HG.out, HE.out.2.1, HE.out.2.2, HE.out.1, by rw [HM.out]; omega, HB.out⟩
end Go.Proofs.YtebbblhafjaaiaaGreatDoor
namespace Go.Proofs.YtebbblhafjaaiaaGreatDoor
open Go.RowKit Go.Shelf
set_option linter.unusedVariables false

/-- What Text answers: THE text. -/
def TxR (b : Nat) (N : Int) (w : World) (e : Ending) (w' : World) : Prop := ∃ t, e = .returned (.tuple #[.string ⟨t.toArray⟩, .int .i64 0]) ∧ Tx b t N.toNat ∧ Below w.heap.size w w'
/-- What Digits answers: the length of THE text. -/
def DiR (b : Nat) (N : Int) (w : World) (e : Ending) (w' : World) : Prop := ∃ t : List UInt8, e = .returned (.tuple #[.int .i64 (t.length : Int), .int .i64 0]) ∧ Tx b t N.toNat ∧ Below w.heap.size w w'
theorem rsmall_nil (x : Int) (hx : Word x) (w : World) :
    Calls Tryz.prog 47 #[.int .u64 x] w fun e w' => ∃ a m c zs, e = .returned (.slice a m c) ∧ m ≤ c ∧ m ≤ 1 ∧ Sl w' a m zs ∧ num zs = x ∧ (a = none → m = 0 ∧ c = 0) ∧ Below w.heap.size w w' := by
  have hm1 : usedN [x] ≤ 1 := usedN_le [x]
  have HA : Hid (Below w.heap.size w (w.alloc (.cells #[.int .u64 x] 94))) := (Below.refl _ _).alloc (Nat.le_refl _) _
  have hL : Limbs [x] := fun z hz => by rw [List.mem_singleton.1 hz]; exact hx
  have tr := rtrim_nil (some ⟨w.heap.size, 0, none⟩) 1 1 [x] (w.alloc (.cells #[.int .u64 x] 94)) (Own.sl (cs := [x]) (heap_alloc_new _ _) hL) (fun h => by cases h) (by omega) (by omega)
  have HN : Hid (num ([x].take (usedN [x])) = x) := by show _ = _; rw [num_take_used _ (Nat.le_refl _)]; simp [num]
  generalize [x].take (usedN [x]) = zs at *
  generalize usedN [x] = m at *
  go_enter Tryz.func47, Tryz.ntmps47
  go_wp2_with fail
  go_at_call 24
  refine tr.mono ?_
  rintro e w2 ⟨a', c', rfl, hs, hc, hn, hb⟩
  have HB : Hid (Below w.heap.size w w2) := step HA.out hb
  clear tr hb HA
  go_wp2_with fail
  go_ret
  exact ⟨a', m, c', zs, rfl, hc, hm1, hs, HN.out, hn, HB.out⟩
/-- What Sum answers: the sum of the digits of THE text. -/
def SuR (b : Nat) (N : Int) (w : World) (e : Ending) (w' : World) : Prop := ∃ (t : List UInt8) (a : Option Addr) (m c : Nat) (zs : List Int), e = .returned (.tuple #[.slice a m c, .int .i64 0]) ∧ Tx b t N.toNat ∧ m ≤ c ∧ m ≤ 1 ∧ Sl w' a m zs ∧ num zs = sumI (txI t) ∧ (a = none → m = 0 ∧ c = 0) ∧ Below w.heap.size w w'
end Go.Proofs.YtebbblhafjaaiaaGreatDoor
namespace Go.Proofs.YtebbblhafjaaiaaGreatDoor
open Go.RowKit Go.Shelf Go.Sort
set_option linter.unusedVariables false

theorem wv_ten {d : Nat} (h : d < 10) : wv (UInt8.ofNat (48 + d)) = d := by
  have e : (UInt8.ofNat (48 + d)).toNat = 48 + d := by simp; omega
  unfold wv
  rw [e, if_pos (by omega)]
  omega
theorem dec_tx (u : Nat) : Tx 10 (Go.Lib.decDigits u) u := by
  induction u using Nat.strongRecOn with
  | ind u ih =>
    rw [Go.Lib.decDigits]
    by_cases h : u < 10
    · rw [dif_pos h]
      refine ⟨by simp, fun c hc => ?_, by rw [tv_cons, wv_ten h]; simp [tv], fun _ => rfl⟩
      obtain rfl : c = UInt8.ofNat (48 + u) := by simpa using hc
      rw [wv_ten h]; exact h
    · rw [dif_neg h]
      have h1 := ih (u / 10) (by omega)
      have hd : u % 10 < 10 := Nat.mod_lt _ (by omega)
      have h2 := h1.more (m := [UInt8.ofNat (48 + u % 10)]) (by omega) (fun c hc => by
        obtain rfl : c = UInt8.ofNat (48 + u % 10) := by simpa using hc
        rw [wv_ten hd]; exact hd)
      have e : u / 10 * 10 ^ [UInt8.ofNat (48 + u % 10)].length + tv 10 [UInt8.ofNat (48 + u % 10)] = u := by
        rw [tv_cons, wv_ten hd]
        simp [tv]
        omega
      rw [e] at h2
      exact h2

/-- The table of the powers of ten of strconv. -/
def Pt (w : World) : Prop := Go.Lib.TabIs Tryz.prog w "internal/strconv.uint64pow10" .u64 Go.Lib.pow10Tab
theorem Pt.to {w w' : World} (h : Pt w) (hb : Below w.heap.size w w') : Pt w' := Go.Lib.tabBelow_of_tabIs h w' hb

set_option maxHeartbeats 4000000 in
set_option maxRecDepth 100000 in
theorem ifmt10 (u : Nat) (hu64 : u < 18446744073709551616) (w : World) (hT : Pt w) :
    Calls Tryz.prog 193 #[.int .u64 u, .int .i64 10] w fun e w' => e = .returned (.string ⟨(Go.Lib.decDigits u).toArray⟩) ∧ Below w.heap.size w w' := by
  by_cases hs : u < 100
  · go_enter Tryz.func193, Tryz.ntmps193
    go_wp2_with (go_at_call 218; refine (Tryz.internal_strconv_small u hs _).mono ?_; rintro e w' ⟨rfl, rfl⟩)
    go_ret
    exact ⟨rfl, Below.refl _ _⟩
  · have hu1 : 1 ≤ u := by omega
    have hnd20 : Go.Lib.nDigits u ≤ 20 := by have := Go.Lib.numDigits_eq u hu1 hu64; split at this <;> omega
    have hal : Tryz.prog.arrayLen 253 = 24 := by simp [Program.arrayLen, Tryz.underlying253]
    have hsl : ∀ W, (Instr.sliceAt 253 (.pointer (some ⟨w.heap.size, 0, none⟩)) none (some (.int .i64 (Go.Lib.nDigits u : Int))) none).run Tryz.prog W = .ok (.slice (some ⟨w.heap.size, 0, none⟩) (Go.Lib.nDigits u) 24) W := fun W => by
      rw [run_sliceAt_array_h W 253 ⟨w.heap.size, 0, none⟩ (by simp [Program.arrayLen, Program.elem, Tryz.underlying253]) .i64 (Go.Lib.nDigits u : Int) (by omega) (by rw [hal]; omega)]
      go_simp
    have hH0 := Go.Lib.holds_zero0 w 253 (Go.Lib.nDigits u) (by omega)
    have hfmt := Tryz.internal_strconv_formatBase10 w.heap.size 0 24 u (Array.replicate (Go.Lib.nDigits u) 0) (w.alloc (.cells Go.Lib.zeros24 253)) hH0 (by rw [Array.size_replicate]; exact Go.Lib.lt_pow_nDigits u) hu64 (by rw [Array.size_replicate]; omega)
    rw [Array.size_replicate] at hfmt
    have HH0 := Go.Lib.hid hH0
    have iu : (100 : Int) ≤ (u : Int) := by omega
    clear hH0 hal
    go_enter Tryz.func193, Tryz.ntmps193
    go_wp2_with (go_at_call 219; refine (Tryz.internal_strconv_numDigits u hu1 hu64 _ (Go.Lib.tabIs_alloc hT _)).mono ?_; rintro e w' ⟨rfl, rfl⟩)
    go_at_call 220
    refine hfmt.mono ?_
    rintro e w' ⟨rfl, k, v', dk, rfl, hF⟩
    have hcv : (convert 152 9 (.slice (some ⟨w.heap.size, 0, none⟩) (Go.Lib.nDigits u) 24)).run Tryz.prog ((putRow (fun (b : UInt8) => Value.int .u8 (b.toNat : Int)) (w.alloc (.cells Go.Lib.zeros24 253)) w.heap.size 0 dk).drewN k) = .ok (.string ⟨(Go.Lib.decDigits u).toArray⟩) ((putRow (fun (b : UInt8) => Value.int .u8 (b.toNat : Int)) (w.alloc (.cells Go.Lib.zeros24 253)) w.heap.size 0 dk).drewN k) := by
      have h := run_convert_bytes_back (P := Tryz.prog) ((putRow (fun (b : UInt8) => Value.int .u8 (b.toNat : Int)) (w.alloc (.cells Go.Lib.zeros24 253)) w.heap.size 0 dk).drewN k) 152 9 5 ⟨w.heap.size, 0, none⟩ 24 (Go.Lib.decDigits u) Tryz.underlying152 Tryz.underlying5 Tryz.underlying9 (fun j hj => by
        rw [Go.Lib.row_is_numeral hF j hj, Go.Lib.add_plain, World.cell?_drewN]
        exact cell?_putRow (fun (b : UInt8) => Value.int .u8 (b.toNat : Int)) _ w.heap.size 0 _ dk HH0.out (by rw [hF.size, Array.size_replicate]) j (by rw [hF.size]; rw [Go.Lib.decDigits_length] at hj; exact hj))
      rw [Go.Lib.decDigits_length] at h
      exact h
    go_wp2_with fail
    go_ret
    refine ⟨rfl, ?_⟩
    obtain ⟨os, eo⟩ := Go.Lib.fin_at w (.cells Go.Lib.zeros24 253) dk k 0
    rw [eo]
    exact Go.Lib.below_grow _ w (Nat.le_refl _) k os
theorem fmt10 (u : Nat) (hu64 : u < 18446744073709551616) (w : World) (hT : Pt w) :
    Calls Tryz.prog 152 #[.int .u64 u, .int .i64 10] w fun e w' => e = .returned (.string ⟨(Go.Lib.decDigits u).toArray⟩) ∧ Below w.heap.size w w' := by
  go_enter Tryz.func152, Tryz.ntmps152
  go_wp2_with (go_at_call 193; refine (ifmt10 u hu64 _ hT).mono ?_; rintro e w' ⟨rfl, hb⟩)
  go_ret
  exact ⟨rfl, hb⟩
end Go.Proofs.YtebbblhafjaaiaaGreatDoor
namespace Go.Proofs.YtebbblhafjaaiaaGreatDoor
open Go.RowKit Go.Shelf
set_option linter.unusedVariables false

/-- Pieces of a number, the lowest first. -/
def AP (W : World) (g off len : Nat) (D : Nat → Dg) (V By : Int) : Prop :=
  1 ≤ len ∧ len ≤ 1000000 ∧ g < W.heap.size ∧ (∀ j, j < len → W.cell? ⟨g, off + j, none⟩ = some (dv (D j))) ∧ (∀ j, Nt W (D j).1 (D j).2.1 (D j).2.2.1 (D j).2.2.2) ∧ (∀ j, num (D j).2.2.2 < By) ∧ dsum By D (down len len) = V ∧ (1 < len → num (D (len - 1)).2.2.2 ≠ 0)
theorem AP.after {W W' : World} (hb : Below W.heap.size W W') {g off len : Nat} {D : Nat → Dg} {V By : Int} (h : AP W g off len D V By) : AP W' g off len D V By :=
  ⟨h.1, h.2.1, Nat.lt_of_lt_of_le h.2.2.1 hb.size, fun j hj => (hb.cell (p := ⟨g, off + j, none⟩) h.2.2.1).trans (h.2.2.2.1 j hj), fun j => Nt.after hb (h.2.2.2.2.1 j), h.2.2.2.2.2⟩
/-- A builder stays one where memory is only made. -/
theorem bld_after {T e : TypeId} {B b : Nat} {bs : List Value} {W W' : World} (hb : Below W.heap.size W W') (h : Go.Lib.IsBuilderF T e B b bs W) : Go.Lib.IsBuilderF T e B b bs W' := by
  have one : ∀ p, Go.Lib.BuilderAtF T e B b p bs W → Go.Lib.BuilderAtF T e B b p bs W' := fun p h => by
    obtain ⟨h1, v, h2, h3, h4⟩ := h
    have hg : W.grownBy W' none := ⟨hb.os, hb.tape, hb.output, hb.size, fun k hk _ => hb.block k hk⟩
    exact ⟨h1, v, (hb.block b (Array.getElem?_eq_some_iff.1 h2).1).trans h2, h3.kept hg (by cases h : v.ownBlock <;> simp), h4⟩
  exact h.elim (fun x => .inl (one _ x)) (fun x => .inr (one _ x))
theorem wstr (B b : Nat) (l : List UInt8) (t : List UInt8) (w : World) (h : Go.Lib.IsBuilderF 183 5 B b (Go.Lib.byteCells l) w) (hlen : l.length + t.length ≤ 140737488355328) (hBw : B ≤ w.heap.size) :
    Calls Tryz.prog 139 #[.pointer (some ⟨b, 0, none⟩), .string ⟨t.toArray⟩] w fun e w' => (∃ v, e = .returned v) ∧ Go.Lib.IsBuilderF 183 5 B b (Go.Lib.byteCells (l ++ t)) w' ∧ Below B w w' := by
  refine (Any.Builder_WriteString_k { Tryz.lays105 with } Tryz.Builder_Extra_105 B b (Go.Lib.byteCells l) ⟨t.toArray⟩ w h (by simp [Go.Lib.byteCells]; exact hlen) hBw).mono ?_
  rintro e w' ⟨rfl, h1, h2, -⟩
  refine ⟨⟨_, rfl⟩, ?_, h2⟩
  rw [Go.Lib.byteCells_append]
  exact .inr h1
theorem repeat_noughts (n : Nat) : Go.Lib.repeatL [48] n = List.replicate n 48 := by
  induction n with
  | zero => simp [Go.Lib.repeatL]
  | succ n ih => simp_all [Go.Lib.repeatL, List.replicate_succ]
theorem zrep (n : Nat) (hn : n ≤ 1000000) (w : World) : Calls Tryz.prog 104 #[.string ⟨#[48]⟩, .int .i64 n] w fun e w' => e = .returned (.string ⟨(List.replicate n (48 : UInt8)).toArray⟩) ∧ Below w.heap.size w w' := by
  have := Tryz.strings_Repeat ⟨#[48]⟩ n w (by omega) (by show 1 * n ≤ _; omega)
  rw [show (ByteArray.mk #[48]).data.toList = [48] from rfl, repeat_noughts] at this
  exact this
/-- What stands between two rounds. -/
def TxI (bn sz len k : Nat) (D : Nat → Dg) (By : Int) (acc : List UInt8) : Prop := k ≤ len ∧ acc.length ≤ k * sz ∧ (k = 0 → acc = []) ∧ (0 < k → ∃ V : Nat, dsum By D (down len k) = V ∧ Tx bn acc V ∧ (1 < len → V ≠ 0))
theorem down_one (len : Nat) : down len 1 = [len - 1] := by simp [down]
theorem txI_on {w : World} {bn sz len k u : Nat} {D : Nat → Dg} {By : Int} {acc l : List UInt8} (h : TxI bn sz len k D By acc) (hk : k < len) (hb2 : 2 ≤ bn) (hBy : By = ((bn ^ sz : Nat) : Int)) (hu : num (D (len - 1 - k)).2.2.2 = u) (hl : Tx bn l u) (hlen : l.length ≤ sz) (hnn : ∀ j, 0 ≤ num (D j).2.2.2) (htop : 1 < len → num (D (len - 1)).2.2.2 ≠ 0) :
    TxI bn sz len (k + 1) D By (if k = 0 then l else acc ++ (List.replicate (sz - l.length) 48 ++ l)) := by
  obtain ⟨h1, h2, h3, h4⟩ := h
  have hB1 : 1 ≤ By := by rw [hBy]; have : 0 < bn ^ sz := Nat.pow_pos (by omega); omega
  by_cases h0 : k = 0
  · subst h0
    rw [if_pos rfl]
    refine ⟨by omega, by omega, fun h => by omega, fun _ => ⟨u, ?_, hl, fun hl1 e => ?_⟩⟩
    · rw [down_one]; simp only [dsum, List.foldl_cons, List.foldl_nil]; rw [show len - 1 = len - 1 - 0 by omega, hu]; omega
    · have := htop hl1
      rw [show len - 1 = len - 1 - 0 by omega, hu] at this
      omega
  · rw [if_neg h0]
    obtain ⟨V, hV, ht, hne⟩ := h4 (by omega)
    have hlm : (List.replicate (sz - l.length) (48 : UInt8) ++ l).length = sz := by simp; omega
    have hm := ht.more (m := List.replicate (sz - l.length) 48 ++ l) (hne (by omega)) ((dig_noughts hb2 _).append hl.dig)
    rw [hlm, tv_ahead, hl.val] at hm
    refine ⟨by omega, ?_, fun h => by omega, fun _ => ⟨V * bn ^ sz + u, ?_, hm, fun hl1 e => ?_⟩⟩
    · rw [List.length_append, hlm, Nat.add_mul]; omega
    · rw [down_succ, dsum_snoc, hV, hu, hBy]; simp
    · have hp : 0 < bn ^ sz := Nat.pow_pos (by omega)
      have : 0 < V * bn ^ sz := Nat.mul_pos (by have := hne hl1; omega) hp
      omega

set_option maxHeartbeats 8000000 in
set_option maxRecDepth 20000 in
theorem text_of (T : World → Prop) (hTo : ∀ W W', Below W.heap.size W W' → T W → T W') (bn sz : Nat) (By : Int) (hb2 : 2 ≤ bn) (hb36 : bn ≤ 36) (hs1 : 1 ≤ sz) (hs63 : sz ≤ 63) (hBy : By = ((bn ^ sz : Nat) : Int)) (hBw : Word By) (hB0 : By ≠ 0)
    (hgp : ∀ w, Calls Tryz.prog 79 #[.int .i64 bn] w fun e w' => e = .returned (.tuple #[.int .u64 By, .int .i64 sz]) ∧ w' = w)
    (hF : ∀ (u : Nat) (w : World), u < 18446744073709551616 → T w → Calls Tryz.prog 152 #[.int .u64 u, .int .i64 bn] w fun e w' => ∃ l, e = .returned (.string ⟨List.toArray l⟩) ∧ Tx bn l u ∧ Below w.heap.size w w')
    (a : Option Addr) (l c : Nat) (xs : List Int) (w : World) (h0 : Nt w a l c xs) (hT : T w)
    (hA : ∀ W a2 l2 c2, Below w.heap.size w W → Nt W a2 l2 c2 [By] → Nt W a l c xs → Calls Tryz.prog 150 #[.agg #[.slice a l c], .agg #[.slice a2 l2 c2]] W fun e W' => ∃ g off len cap D, e = .returned (.slice (some ⟨g, off, none⟩) len cap) ∧ len ≤ cap ∧ Hid (AP W' g off len D (num xs) By) ∧ Below W.heap.size W W') :
    Calls Tryz.prog 103 #[.agg #[.slice a l c], .int .i64 bn] w fun e W' => ∃ t, e = .returned (.tuple #[.string ⟨List.toArray t⟩, .int .i64 0]) ∧ Tx bn t (num xs).toNat ∧ Below w.heap.size w W' := by
  have HTo : Hid (∀ W W', Below W.heap.size W W' → T W → T W') := hTo
  clear hTo
  have HBY : Hid (By = ((bn ^ sz : Nat) : Int)) := hBy
  have HF : Hid _ := hF
  have HA : Hid _ := hA
  clear hBy hF hA
  have B0 : Below w.heap.size w w := Below.refl _ _
  go_enter Tryz.func103, Tryz.ntmps103
  go_wp2_with fail
  refine ent1 w _ _ (Q := fun W => Calls Tryz.prog _ _ W _) ?_
  intro x1 hb hs_x1 V0
  replace h0 := Nt.after hb h0
  replace B0 := step B0 hb
  clear hb hs_x1
  refine (isBase_any bn (by omega) (by omega) _).mono ?_
  rintro e w' ⟨rfl, rfl⟩
  go_wp2_with fail
  refine (hgp _).mono ?_
  rintro e w' ⟨rfl, rfl⟩
  clear hgp
  go_wp2_with fail
  refine wp_region_noPanic ?_
  replace V0 : Va w'.drew _ _ _ := V0
  replace h0 := h0.drw
  replace B0 := Below.drew B0
  refine wp_region_held_drew (S := (fun W => W.cell? ⟨w.heap.size, 0, none⟩ = some (.slice a l c))) (by kernel_rfl) V0.cell (fun hHeld => ?_)
  obtain ⟨x2, hxd⟩ : ∃ xd, xd = w'.drew := ⟨_, rfl⟩
  rw [← hxd] at V0 h0 B0 hHeld ⊢
  clear hxd
  refine wpAnyH_take (i := 0) (v := ?_) rfl (by kernel_rfl) (by kernel_rfl) (by kernel_rfl) (fun _ _ _ h => h) (Or.inl ⟨by rfl, ?_⟩) hHeld ?_
  rotate_left
  · (intro W hSw; (try dsimp only at hSw); go_simp; all_goals (with_reducible rfl))
  simp only [List.getElem_toArray, List.getElem_cons_zero, Act.put, List.setIfInBounds_toArray, List.set_cons_zero, List.set_cons_succ]
  refine wpAnyH_take (i := 1) (v := ?_) rfl (by kernel_rfl) (by kernel_rfl) (by kernel_rfl) (fun _ _ _ h => h) (Or.inl ⟨by rfl, ?_⟩) hHeld ?_
  rotate_left
  · (intro W hSw; (try dsimp only at hSw); go_simp; all_goals (with_reducible rfl))
  simp only [List.getElem_toArray, List.getElem_cons_zero, List.getElem_cons_succ, Act.put, List.setIfInBounds_toArray, List.set_cons_zero, List.set_cons_succ]
  refine wpAnyH_ready (rs := [2]) (by kernel_rfl) (by simp) ?_
  refine AllReadyH.cons rfl (fun K hK => ?_) AllReadyH.nil
  simp only [List.getElem_toArray, List.getElem_cons_zero, List.getElem_cons_succ]
  go_simp
  refine (small_pos By hBw hB0 _).mono ?_
  rintro e x3 ⟨rfl, hS, hb⟩
  replace V0 := Va.after hb V0
  replace h0 := Nt.after hb h0
  replace B0 := step B0 hb
  clear hb
  try go_wp2_with fail
  refine hK.out _ _ V0.cell (fun hHeld => ?_)
  clear hK K
  refine wpAnyH_ready (rs := [3]) (by kernel_rfl) (by simp) ?_
  refine AllReadyH.cons rfl (fun K hK => ?_) AllReadyH.nil
  simp only [List.getElem_toArray, List.getElem_cons_zero, List.getElem_cons_succ]
  go_simp
  refine (HA.out _ _ _ _ B0 hS h0).mono ?_
  rintro e x4 ⟨g, off, len, cap, D, rfl, hcap, hAP', hb⟩
  replace V0 := Va.after hb V0
  replace h0 := Nt.after hb h0
  replace hS := Nt.after hb hS
  replace B0 := step B0 hb
  clear hb
  have hAP := hAP'.out
  clear hAP' HA
  try go_wp2_with fail
  refine hK.out _ _ V0.cell (fun hHeld => ?_)
  clear hK K
  refine wpAnyH_take (i := 4) (v := ?_) rfl (by kernel_rfl) (by kernel_rfl) (by kernel_rfl) (fun _ _ _ h => h) (Or.inl ⟨by rfl, ?_⟩) hHeld ?_
  rotate_left
  · (intro W hSw; (try dsimp only at hSw); go_simp; all_goals (with_reducible rfl))
  simp only [List.getElem_toArray, List.getElem_cons_zero, List.getElem_cons_succ, Act.put, List.setIfInBounds_toArray, List.set_cons_zero, List.set_cons_succ]
  refine wpAnyH_done (by kernel_rfl) ?_ _
  refine NoPanic.normal ?_
  clear hHeld
  have HAP : Hid (AP x4 g off len D (num xs) By) := hAP
  have hlen1 : 1 ≤ len := HAP.out.1
  have hlen2 : len ≤ 1000000 := HAP.out.2.1
  have HPt : Hid (T x4) := HTo.out _ _ B0 hT
  have HB0 : Hid (Below w.heap.size w x4) := B0
  obtain ⟨M, hM⟩ : ∃ M : Nat, wrap64 ((len : Int) * sz) = M := ⟨len * sz, by
    have : len * sz ≤ 1000000 * 63 := Nat.mul_le_mul hlen2 hs63
    have e : (len : Int) * sz = ((len * sz : Nat) : Int) := by simp
    unfold wrap64; omega⟩
  have HM : Hid (M ≤ 100000000) := by
    have : len * sz ≤ 1000000 * 63 := Nat.mul_le_mul hlen2 hs63
    have e : (len : Int) * sz = ((len * sz : Nat) : Int) := by simp
    have e2 : (M : Int) = len * sz := by rw [← hM]; unfold wrap64; omega
    show M ≤ _
    omega
  clear hAP B0 h0 hS V0 hT
  go_wp2_with fail
  refine (Tryz.Builder_Grow_fresh x4.heap.size x4.heap.size M _ (Nat.le_refl _) (Va.new _ _ _) (by simp) (by have := HM.out; omega)).mono ?_
  rintro e y0 ⟨rfl, hbl, hb⟩
  have HBl : Hid (Go.Lib.IsBuilderF 183 5 x4.heap.size x4.heap.size (Go.Lib.byteCells []) y0) := .inr (Go.Lib.BuilderAtF.of hbl)
  have HBX : Hid (Below x4.heap.size x4 y0) := ((Below.refl _ _).alloc (Nat.le_refl _) _).trans hb
  clear hbl hb hM
  go_wp2_with fail
  go_loopw [10] (fun i wr => ∃ (k : Nat) (acc : List UInt8), i = .int .i64 ((len : Int) - 1 - k) ∧ k ≤ len ∧ Hid (TxI bn sz len k D By acc) ∧ Hid (Go.Lib.IsBuilderF 183 5 x4.heap.size x4.heap.size (Go.Lib.byteCells acc) wr) ∧ Hid (Below x4.heap.size x4 wr)) (fun i _ => ((intOf i) + 1).toNat)
  case atStart => exact ⟨0, [], by go_num, by omega, ⟨by omega, by simp, fun _ => rfl, fun h => absurd h (by omega)⟩, HBl.out, HBX.out⟩
  case round =>
    obtain ⟨k, acc, rfl, hkl, HI, HL, HW⟩ := hrel
    by_cases hk : k < len
    · obtain ⟨q, hq⟩ : ∃ q, q = len - 1 - k := ⟨_, rfl⟩
      have eq : (len : Int) - 1 - k = q := by omega
      rw [eq]
      have HQ : Hid (q = len - 1 - k) := hq
      have hql : q < len := by omega
      have hq0 : (0 : Int) ≤ q := by omega
      have HA2 := HAP.out.after HW.out
      have hcq := HA2.2.2.2.1 q hql
      have hNq := HA2.2.2.2.2.1 q
      have hUq := HA2.2.2.2.2.2.1 q
      have HNN : Hid (∀ j, 0 ≤ num (D j).2.2.2) := fun j => (HA2.2.2.2.2.1 j).nonneg
      have HTP : Hid (1 < len → num (D (len - 1)).2.2.2 ≠ 0) := HA2.2.2.2.2.2.2.2
      obtain ⟨u, hu⟩ : ∃ u : Nat, num (D q).2.2.2 = u := ⟨(num (D q).2.2.2).toNat, by have := HNN.out q; omega⟩
      have HU : Hid (num (D (len - 1 - k)).2.2.2 = u) := by rw [← hq]; exact hu
      have HUB : Hid (u < bn ^ sz) := by rw [hu, HBY.out] at hUq; show u < bn ^ sz; omega
      have hu64 : u < 18446744073709551616 := by rw [hu] at hUq; have := hBw.2; omega
      obtain ⟨dq, hdq⟩ : ∃ d, D q = d := ⟨_, rfl⟩
      obtain ⟨aq, lq, cq, zq⟩ := dq
      rw [hdq] at hcq hNq hu
      simp only [dv] at hcq hNq hu
      have hUc : Calls Tryz.prog 70 #[.agg #[.slice aq lq cq]] wr fun e w' => e = .returned (.tuple #[.int .u64 (u : Int), .bool true]) ∧ Below wr.heap.size wr w' := by
        have := uint64_small aq lq cq zq wr hNq (by rw [hu]; omega)
        rw [hu] at this
        exact this
      have hgw : g < wr.heap.size := HA2.2.2.1
      clear hq eq hdq hu hUq HA2 hNq
      go_wp2_with fail
      refine hUc.mono ?_
      rintro e y1 ⟨rfl, hb1⟩
      have HL1 : Hid (Go.Lib.IsBuilderF 183 5 x4.heap.size x4.heap.size (Go.Lib.byteCells acc) y1) := bld_after hb1 HL.out
      have HW1 : Hid (Below x4.heap.size x4 y1) := step HW.out hb1
      clear hb1 hUc hcq hgw
      go_wp2_with fail
      refine (HF.out u y1 hu64 (HTo.out _ _ HW1.out HPt.out)).mono ?_
      rintro e y2 ⟨t, rfl, htx, hB2⟩
      have HL2 : Hid (Go.Lib.IsBuilderF 183 5 x4.heap.size x4.heap.size (Go.Lib.byteCells acc) y2) := bld_after hB2 HL1.out
      have HW2 : Hid (Below x4.heap.size x4 y2) := step HW1.out hB2
      have HTX : Hid (Tx bn t u) := htx
      have htl : t.length ≤ sz := htx.le hb2 HUB.out hs1
      clear hB2 HL1 HW1 htx
      have hLen : Calls Tryz.prog 153 #[.pointer (some ⟨x4.heap.size, 0, none⟩)] y2 fun e w' => e = .returned (.int .i64 (acc.length : Int)) ∧ w' = y2 := by
        have := Tryz.Builder_Len_f x4.heap.size x4.heap.size _ y2 HL2.out
        rw [Go.Lib.byteCells_length] at this
        exact this
      have HX4 : Hid (x4.heap.size ≤ y2.heap.size) := HW2.out.size
      have HAL : Hid (acc.length ≤ 63000000) := by
        have h1 := HI.out.2.1
        have h2 : k * sz ≤ 1000000 * 63 := Nat.mul_le_mul (by omega) hs63
        show acc.length ≤ _
        omega
      by_cases hk0 : k = 0
      · have HA0 : Hid (acc = []) := HI.out.2.2.1 hk0
        have hal : ¬ (0 : Int) < (acc.length : Int) := by rw [HA0.out]; simp
        have HK0 : Hid (k = 0) := hk0
        clear hk0
        go_wp2_with fail
        refine hLen.mono ?_
        rintro e w' ⟨rfl, rfl⟩
        go_wp2_with fail
        refine (wstr x4.heap.size x4.heap.size acc t w' HL2.out (by have := HAL.out; omega) HX4.out).mono ?_
        rintro e y3 ⟨⟨v, rfl⟩, hL3, hb3⟩
        have HL3 : Hid (Go.Lib.IsBuilderF 183 5 x4.heap.size x4.heap.size (Go.Lib.byteCells t) y3) := by rw [HA0.out] at hL3; exact hL3
        have HW3 : Hid (Below x4.heap.size x4 y3) := HW2.out.trans hb3
        clear hL3 hb3 hLen
        go_wp2_with fail
        go_roundw
        case rel =>
          have hI := txI_on (w := w') HI.out hk hb2 HBY.out HU.out HTX.out htl HNN.out HTP.out
          rw [if_pos HK0.out] at hI
          exact ⟨k + 1, t, by have := HQ.out; congr 1; omega, by omega, hI, HL3.out, HW3.out⟩
        case measure => simp [intOf]
      · have hal : (0 : Int) < (acc.length : Int) := by
          obtain ⟨V, -, ht, -⟩ := HI.out.2.2.2 (by omega)
          have := ht.pos
          omega
        obtain ⟨Z, hZ⟩ : ∃ Z : Nat, (sz : Int) - t.length = Z := ⟨sz - t.length, by omega⟩
        have HZ : Hid (Z = sz - t.length) := by show Z = _; omega
        have HZ6 : Hid (Z ≤ 63) := by show Z ≤ _; omega
        go_wp2_with fail
        refine hLen.mono ?_
        rintro e w' ⟨rfl, rfl⟩
        go_wp2_with fail
        refine (zrep Z (by have := HZ6.out; omega) w').mono ?_
        rintro e y3 ⟨rfl, hb3⟩
        have HL3 : Hid (Go.Lib.IsBuilderF 183 5 x4.heap.size x4.heap.size (Go.Lib.byteCells acc) y3) := bld_after hb3 HL2.out
        have HW3 : Hid (Below x4.heap.size x4 y3) := step HW2.out hb3
        clear hb3 hLen
        go_wp2_with fail
        refine (wstr x4.heap.size x4.heap.size acc (List.replicate Z 48) y3 HL3.out (by have := HAL.out; have := HZ6.out; simp; omega) HW3.out.size).mono ?_
        rintro e y4 ⟨⟨v, rfl⟩, hL4, hb4⟩
        have HL4 : Hid (Go.Lib.IsBuilderF 183 5 x4.heap.size x4.heap.size (Go.Lib.byteCells (acc ++ List.replicate Z 48)) y4) := hL4
        have HW4 : Hid (Below x4.heap.size x4 y4) := HW3.out.trans hb4
        clear hL4 hb4
        go_wp2_with fail
        refine (wstr x4.heap.size x4.heap.size (acc ++ List.replicate Z 48) t y4 HL4.out (by have := HAL.out; have := HZ6.out; simp; omega) HW4.out.size).mono ?_
        rintro e y5 ⟨⟨v2, rfl⟩, hL5, hb5⟩
        have HL5 : Hid (Go.Lib.IsBuilderF 183 5 x4.heap.size x4.heap.size (Go.Lib.byteCells (acc ++ (List.replicate (sz - t.length) 48 ++ t))) y5) := by rw [← HZ.out, ← List.append_assoc]; exact hL5
        have HW5 : Hid (Below x4.heap.size x4 y5) := HW4.out.trans hb5
        clear hL5 hb5 hZ
        go_wp2_with fail
        go_roundw
        case rel =>
          have hI := txI_on (w := y5) HI.out hk hb2 HBY.out HU.out HTX.out htl HNN.out HTP.out
          rw [if_neg hk0] at hI
          exact ⟨k + 1, _, by have := HQ.out; congr 1; omega, by omega, hI, HL5.out, HW5.out⟩
        case measure => simp [intOf]
    · have hkl2 : k = len := by omega
      subst hkl2
      have HX : Hid (x4.heap.size ≤ wr.heap.size) := HW.out.size
      have hneg : ¬ (0 : Int) ≤ (k : Int) - 1 - k := by omega
      clear hk
      go_wp2_with fail
      refine (Tryz.Builder_String_any_k x4.heap.size x4.heap.size acc wr HL.out HX.out).mono ?_
      rintro e y1 ⟨rfl, -, hb1, -⟩
      go_wp2_with fail
      go_ret2
      obtain ⟨V, hV, ht, -⟩ := HI.out.2.2.2 (by omega)
      have hE := HAP.out.2.2.2.2.2.2.1
      rw [hV] at hE
      refine ⟨acc, rfl, ?_, step HB0.out (HW.out.trans hb1)⟩
      rw [← hE]
      exact ht
end Go.Proofs.YtebbblhafjaaiaaGreatDoor
namespace Go.Proofs.YtebbblhafjaaiaaGreatDoor
open Go.RowKit Go.Shelf
set_option linter.unusedVariables false

def oneD (d : Dg) : Nat → Dg
  | 0 => d
  | _ + 1 => d0
set_option maxHeartbeats 2000000 in
theorem apart_one (a b : Option Addr) (la ca lb cb : Nat) (xs ys : List Int) (w : World) (ha : Nt w a la ca xs) (hb : Nt w b lb cb ys) (hlt : num xs < num ys) :
    Calls Tryz.prog 150 #[.agg #[.slice a la ca], .agg #[.slice b lb cb]] w fun e W' => ∃ g off len cap D, e = .returned (.slice (some ⟨g, off, none⟩) len cap) ∧ len ≤ cap ∧ Hid (AP W' g off len D (num xs) (num ys)) ∧ Below w.heap.size w W' := by
  go_enter Tryz.func150, Tryz.ntmps150
  go_wp2_with fail
  refine ent2 w _ _ _ _ (Q := fun W => Calls Tryz.prog _ _ W _) ?_
  intro w0 B0 hs V0 V1
  have e1 : cmp3 (num xs) (num ys) = -1 := by unfold cmp3; rw [if_pos hlt]
  refine (ncompare_any a b la ca lb cb xs ys w0 (Nt.after B0 ha) (Nt.after B0 hb)).mono ?_
  rintro e w1 ⟨rfl, hb1⟩
  rw [e1]
  replace V0 := Va.after hb1 V0
  replace B0 := step B0 hb1
  have c0 := V0.cell
  have l0 := V0.lt
  go_wp2_with fail
  go_ret
  have B1 := B0.alloc B0.size (.cells #[.slice a la ca] 41)
  refine ⟨w1.heap.size, 0, 1, 1, oneD (a, la, ca, xs), rfl, Nat.le_refl _, ?_, B1⟩
  have hN := Nt.after B1 ha
  refine ⟨Nat.le_refl _, by omega, by simp, fun j hj => ?_, fun j => ?_, fun j => ?_, ?_, fun h => absurd h (by omega)⟩
  · obtain rfl : j = 0 := by omega
    exact (Va.new w1 _ _).cell
  · match j with
    | 0 => exact hN
    | _ + 1 => exact Nt.nil _
  · match j with
    | 0 => exact hlt
    | _ + 1 =>
      have := ha.nonneg
      show num [] < _
      simp [num]; omega
  · rw [down_one]; simp [dsum, oneD]
theorem text_small (a : Option Addr) (l c : Nat) (xs : List Int) (w : World) (h : Nt w a l c xs) (hlt : num xs < 10000000000000000000) (hT : Pt w) :
    Calls Tryz.prog 103 #[.agg #[.slice a l c], .int .i64 10] w fun e W' => ∃ t, e = .returned (.tuple #[.string ⟨List.toArray t⟩, .int .i64 0]) ∧ Tx 10 t (num xs).toNat ∧ Below w.heap.size w W' := by
  refine text_of Pt (fun W W' hb h => h.to hb) 10 19 10000000000000000000 (by omega) (by omega) (by omega) (by omega) (by decide) ⟨by omega, by omega⟩ (by omega) greatPower_ten
    (fun u w hu hp => (fmt10 u hu w hp).mono fun e w' h => ⟨_, h.1, dec_tx u, h.2⟩) a l c xs w h hT (fun W a2 l2 c2 hb h2 hx => ?_)
  have := apart_one a a2 l c l2 c2 xs [10000000000000000000] W hx h2 (by simpa [num] using hlt)
  have e : num [(10000000000000000000 : Int)] = 10000000000000000000 := by simp [num]
  rw [e] at this
  exact this
end Go.Proofs.YtebbblhafjaaiaaGreatDoor
namespace Go.Proofs.YtebbblhafjaaiaaGreatDoor
open Go.RowKit Go.Shelf
set_option linter.unusedVariables false

theorem below_dN {B : Nat} {a w : World} (h : Below B a w) (n : Nat) : Below B a (w.drewN n) := below_drewN h n
set_option maxHeartbeats 4000000 in
theorem written_a (neg : Bool) (P : Nat) (hP : P ≤ 4096) (a : Option Addr) (l c : Nat) (w : World) (t : List UInt8) (hl : t.length ≤ 1000000) (hl1 : 0 < t.length)
    (hX : ∀ W, Below w.heap.size w W → Calls Tryz.prog 103 #[.agg #[.slice a l c], .int .i64 10] W fun e W' => e = .returned (.tuple #[.string ⟨List.toArray t⟩, .int .i64 0]) ∧ Below W.heap.size W W') :
    Calls Tryz.prog 50 #[.bool neg, .agg #[.slice a l c], .int .i64 P] w fun e W' => e = .returned (.string ⟨(textL neg P t).toArray⟩) ∧ Below w.heap.size w W' := by
  have HX : Hid _ := hX
  clear hX
  go_enter Tryz.func50, Tryz.ntmps50
  go_wp2_with fail
  refine ent1 w _ _ (Q := fun W => Calls Tryz.prog _ _ W _) ?_
  intro w0 B0 hs V0
  refine (HX.out w0 B0).mono ?_
  rintro e w1 ⟨rfl, hb1⟩
  replace B0 := step B0 hb1
  clear hb1 V0 hs HX
  have hct := cat
  by_cases hz : (0 : Int) < (P : Int) + 1 - t.length
  · obtain ⟨Z, hZ⟩ : ∃ Z : Nat, (P : Int) + 1 - t.length = Z := ⟨P + 1 - t.length, by omega⟩
    have HZ : Hid (Z = P + 1 - t.length) := by show Z = _; omega
    have hz6 : Z ≤ 5000 := by omega
    have hzp : (0 : Int) < Z := by omega
    have HPD : Hid (padL P t = List.replicate Z 48 ++ t) := by show padL P t = _; unfold padL; rw [HZ.out]
    have hL : Hid ((List.replicate Z (48 : UInt8) ++ t).length = P + 1) := by have := HZ.out; show _ = _; simp; omega
    have hL2 : (List.replicate Z (48 : UInt8) ++ t).length ≤ 1000000 := by rw [hL.out]; omega
    have c0 := cat (List.replicate Z 48) t
    clear hz
    go_wp2_with fail
    refine (zrep Z (by omega) _).mono ?_
    rintro e w2 ⟨rfl, hb2⟩
    replace B0 := step B0 hb2
    clear hb2 hZ hzp
    generalize hTT : List.replicate Z (48 : UInt8) ++ t = T at *
    by_cases hp : 0 < P
    · have hpi : (0 : Int) < P := by omega
      have hlT : P < (T).length := by have := hL.out; omega
      have s1 := slice_hi (T) (((T).length : Int) - P) ((T).length - P) (by omega) (by omega)
      have s2 := slice_lo (T) (((T).length : Int) - P) ((T).length - P) (by omega) (by omega)
      have c1 := cat ((T).take ((T).length - P)) [46]
      have c2 := cat ((T).take ((T).length - P) ++ [46]) ((T).drop ((T).length - P))
      have c3 := cat [45] ((T).take ((T).length - P) ++ [46] ++ (T).drop ((T).length - P))
      have HE : Hid (ptL P (T) = (T).take ((T).length - P) ++ 46 :: (T).drop ((T).length - P)) := by show ptL P _ = _; unfold ptL; rw [if_neg (by omega)]
      cases neg
      · go_wp2_with fail
        go_quiet (fail)
        go_wp2_with fail
        go_ret
        refine ⟨?_, below_dN B0 _⟩
        have e : textL false P t = ((T).take ((T).length - P) ++ 46 :: (T).drop ((T).length - P)) := by unfold textL sgL; rw [HPD.out, HE.out]; rfl
        rw [e]
        rfl
      · go_wp2_with fail
        go_quiet (fail)
        go_wp2_with fail
        go_ret
        refine ⟨?_, below_dN B0 _⟩
        have e : textL true P t = 45 :: ((T).take ((T).length - P) ++ 46 :: (T).drop ((T).length - P)) := by unfold textL sgL; rw [HPD.out, HE.out]; rfl
        rw [e]
        rfl
    · have hpi : ¬ (0 : Int) < P := by omega
      have HP0 : Hid (P = 0) := by show P = 0; omega
      have c3 := cat [45] (T)
      cases neg
      · go_wp2_with fail
        go_ret
        refine ⟨?_, B0⟩
        have e : textL false P t = (T) := by unfold textL sgL; rw [HPD.out]; unfold ptL; rw [if_pos HP0.out]; rfl
        rw [e]
        rfl
      · go_wp2_with fail
        go_ret
        refine ⟨?_, B0⟩
        have e : textL true P t = 45 :: (T) := by unfold textL sgL; rw [HPD.out]; unfold ptL; rw [if_pos HP0.out]; rfl
        rw [e]
        rfl
  · have HPD : Hid (padL P t = t) := by show padL P t = _; unfold padL; rw [show P + 1 - t.length = 0 by omega]; rfl
    have hL : Hid (P + 1 ≤ t.length) := by show P + 1 ≤ _; omega
    by_cases hp : 0 < P
    · have hpi : (0 : Int) < P := by omega
      have hlT : P < (t).length := by have := hL.out; omega
      have s1 := slice_hi (t) (((t).length : Int) - P) ((t).length - P) (by omega) (by omega)
      have s2 := slice_lo (t) (((t).length : Int) - P) ((t).length - P) (by omega) (by omega)
      have c1 := cat ((t).take ((t).length - P)) [46]
      have c2 := cat ((t).take ((t).length - P) ++ [46]) ((t).drop ((t).length - P))
      have c3 := cat [45] ((t).take ((t).length - P) ++ [46] ++ (t).drop ((t).length - P))
      have HE : Hid (ptL P (t) = (t).take ((t).length - P) ++ 46 :: (t).drop ((t).length - P)) := by show ptL P _ = _; unfold ptL; rw [if_neg (by omega)]
      cases neg
      · go_wp2_with fail
        go_quiet (fail)
        go_wp2_with fail
        go_ret
        refine ⟨?_, below_dN B0 _⟩
        have e : textL false P t = ((t).take ((t).length - P) ++ 46 :: (t).drop ((t).length - P)) := by unfold textL sgL; rw [HPD.out, HE.out]; rfl
        rw [e]
        rfl
      · go_wp2_with fail
        go_quiet (fail)
        go_wp2_with fail
        go_ret
        refine ⟨?_, below_dN B0 _⟩
        have e : textL true P t = 45 :: ((t).take ((t).length - P) ++ 46 :: (t).drop ((t).length - P)) := by unfold textL sgL; rw [HPD.out, HE.out]; rfl
        rw [e]
        rfl
    · have hpi : ¬ (0 : Int) < P := by omega
      have HP0 : Hid (P = 0) := by show P = 0; omega
      have c3 := cat [45] (t)
      cases neg
      · go_wp2_with fail
        go_ret
        refine ⟨?_, B0⟩
        have e : textL false P t = (t) := by unfold textL sgL; rw [HPD.out]; unfold ptL; rw [if_pos HP0.out]; rfl
        rw [e]
        rfl
      · go_wp2_with fail
        go_ret
        refine ⟨?_, B0⟩
        have e : textL true P t = 45 :: (t) := by unfold textL sgL; rw [HPD.out]; unfold ptL; rw [if_pos HP0.out]; rfl
        rw [e]
        rfl
end Go.Proofs.YtebbblhafjaaiaaGreatDoor
namespace Go.Proofs.YtebbblhafjaaiaaGreatDoor
open Go.RowKit Go.Shelf
set_option linter.unusedVariables false

theorem text_dec (a : Option Addr) (l c : Nat) (xs : List Int) (w : World) (h : Nt w a l c xs) (hlt : num xs < 10000000000000000000) (hT : Pt w) :
    Calls Tryz.prog 103 #[.agg #[.slice a l c], .int .i64 10] w fun e W' => e = .returned (.tuple #[.string ⟨(Go.Lib.decDigits (num xs).toNat).toArray⟩, .int .i64 0]) ∧ Below w.heap.size w W' := by
  refine (text_small a l c xs w h hlt hT).mono ?_
  rintro e W' ⟨t, rfl, ht, hb⟩
  rw [ht.unique (by omega) (by omega) (dec_tx _)]
  exact ⟨rfl, hb⟩
theorem dec_len {n : Nat} (h : n < 10 ^ 19) : 0 < (Go.Lib.decDigits n).length ∧ (Go.Lib.decDigits n).length ≤ 19 := ⟨(dec_tx n).pos, (dec_tx n).le (by omega) h (by omega)⟩
/-- The text of a decimal that may be. -/
def dtx (U : Int) (P : Nat) : List UInt8 := textL (decide (U < 0)) P (Go.Lib.decDigits U.natAbs)
set_option maxHeartbeats 4000000 in
theorem dtext_ok (U : Int) (P : Nat) (h1 : -9223372036854775808 ≤ U) (h2 : U ≤ 9223372036854775807) (hc : Can U P) (w : World) (hT : Pt w) :
    Calls Tryz.prog 14 #[.agg #[.int .i64 U, .int .i64 P]] w fun e W' => e = .returned (.tuple #[.string ⟨(dtx U P).toArray⟩, .int .i64 0]) ∧ Below w.heap.size w W' := by
  have HC : Hid (CanI U P) := (canI_iff U P).2 hc
  have hP := hc.1
  clear hc
  have B0 : Below w.heap.size w w := Below.refl _ _
  go_enter Tryz.func14, Tryz.ntmps14
  go_wp2_with fail
  refine ent1 w _ _ (Q := fun W => Calls Tryz.prog _ _ W _) ?_
  intro x1 hb hs_x1 V0
  replace B0 := step B0 hb
  clear hb hs_x1
  refine (check_ok U P HC.out _).mono ?_
  rintro e x2 ⟨rfl, hb⟩
  replace V0 := Va.after hb V0
  replace B0 := step B0 hb
  clear hb
  have c_V0 := V0.c0
  have f0_V0 := V0.frozen 0
  have d_V0 := V0.c1
  have f1_V0 := V0.frozen 1
  have l_V0 := V0.lt
  have m_V0 := Nat.le_of_lt l_V0
  go_wp2_with fail
  clear c_V0 f0_V0 d_V0 f1_V0 l_V0 m_V0
  refine wp_region_noPanic ?_
  replace V0 : Va x2.drew _ _ _ := V0
  replace B0 := Below.drew B0
  refine wp_region_held_drew (S := (fun W => W.cell? ⟨w.heap.size, 0, none⟩ = some (.int .i64 U) ∧ W.cell? ⟨w.heap.size, 1, none⟩ = some (.int .i64 P))) (by kernel_rfl) ⟨V0.c0, V0.c1⟩ (fun hHeld => ?_)
  obtain ⟨x3, hxd⟩ : ∃ xd, xd = x2.drew := ⟨_, rfl⟩
  rw [← hxd] at V0 B0 hHeld ⊢
  clear hxd
  refine wpAnyH_take (i := 0) (v := ?_) rfl (by kernel_rfl) (by kernel_rfl) (by kernel_rfl) (fun _ _ _ h => h) (Or.inl ⟨by rfl, ?_⟩) hHeld ?_
  rotate_left
  · (intro W hSw; (try dsimp only at hSw); go_simp; all_goals (with_reducible rfl))
  simp only [List.getElem_toArray, List.getElem_cons_zero, Act.put, List.setIfInBounds_toArray, List.set_cons_zero, List.set_cons_succ]
  refine wpAnyH_take (i := 1) (v := ?_) rfl (by kernel_rfl) (by kernel_rfl) (by kernel_rfl) (fun _ _ _ h => h) (Or.inl ⟨by rfl, ?_⟩) hHeld ?_
  rotate_left
  · (intro W hSw; (try dsimp only at hSw); go_simp; all_goals (with_reducible rfl))
  simp only [List.getElem_toArray, List.getElem_cons_zero, List.getElem_cons_succ, Act.put, List.setIfInBounds_toArray, List.set_cons_zero, List.set_cons_succ]
  refine wpAnyH_take (i := 2) (v := ?_) rfl (by kernel_rfl) (by kernel_rfl) (by kernel_rfl) (fun _ _ _ h => h) (Or.inl ⟨by rfl, ?_⟩) hHeld ?_
  rotate_left
  · (intro W hSw; (try dsimp only at hSw); go_simp; all_goals (with_reducible rfl))
  simp only [List.getElem_toArray, List.getElem_cons_zero, List.getElem_cons_succ, Act.put, List.setIfInBounds_toArray, List.set_cons_zero, List.set_cons_succ]
  refine wpAnyH_take (i := 3) (v := ?_) rfl (by kernel_rfl) (by kernel_rfl) (by kernel_rfl) (fun _ _ _ h => h) (Or.inl ⟨by rfl, ?_⟩) hHeld ?_
  rotate_left
  · (intro W hSw; (try dsimp only at hSw); go_simp; all_goals (with_reducible rfl))
  simp only [List.getElem_toArray, List.getElem_cons_zero, List.getElem_cons_succ, Act.put, List.setIfInBounds_toArray, List.set_cons_zero, List.set_cons_succ]
  refine wpAnyH_take (i := 4) (v := ?_) rfl (by kernel_rfl) (by kernel_rfl) (by kernel_rfl) (fun _ _ _ h => h) (Or.inl ⟨by rfl, ?_⟩) hHeld ?_
  rotate_left
  · (intro W hSw; (try dsimp only at hSw); go_simp; all_goals (with_reducible rfl))
  simp only [List.getElem_toArray, List.getElem_cons_zero, List.getElem_cons_succ, Act.put, List.setIfInBounds_toArray, List.set_cons_zero, List.set_cons_succ]
  refine wpAnyH_take (i := 7) (v := ?_) rfl (by kernel_rfl) (by kernel_rfl) (by kernel_rfl) (fun _ _ _ h => h) (Or.inl ⟨by rfl, ?_⟩) hHeld ?_
  rotate_left
  · (intro W hSw; (try dsimp only at hSw); go_simp; all_goals (with_reducible rfl))
  simp only [List.getElem_toArray, List.getElem_cons_zero, List.getElem_cons_succ, Act.put, List.setIfInBounds_toArray, List.set_cons_zero, List.set_cons_succ]
  refine wpAnyH_take (i := 8) (v := ?_) rfl (by kernel_rfl) (by kernel_rfl) (by kernel_rfl) (fun _ _ _ h => h) (Or.inl ⟨by rfl, ?_⟩) hHeld ?_
  rotate_left
  · (intro W hSw; (try dsimp only at hSw); go_simp; all_goals (with_reducible rfl))
  simp only [List.getElem_toArray, List.getElem_cons_zero, List.getElem_cons_succ, Act.put, List.setIfInBounds_toArray, List.set_cons_zero, List.set_cons_succ]
  refine wpAnyH_ready (rs := [5]) (by kernel_rfl) (by simp) ?_
  refine AllReadyH.cons rfl (fun K hK => ?_) AllReadyH.nil
  simp only [List.getElem_toArray, List.getElem_cons_zero, List.getElem_cons_succ]
  go_simp
  refine (wsmall_any U h1 h2 _).mono ?_
  rintro e x4 ⟨s, a, l, c, zs, rfl, hI, hv, hb⟩
  replace V0 := Va.after hb V0
  replace B0 := step B0 hb
  clear hb
  try go_wp2_with fail
  refine hK.out _ _ ⟨V0.c0, V0.c1⟩ (fun hHeld => ?_)
  clear hK K
  refine wpAnyH_ready (rs := [6]) (by kernel_rfl) (by simp) ?_
  refine AllReadyH.cons rfl (fun K hK => ?_) AllReadyH.nil
  simp only [List.getElem_toArray, List.getElem_cons_zero, List.getElem_cons_succ]
  go_simp
  refine (wabs_any s a l c _).mono ?_
  rintro e x5 ⟨rfl, hb⟩
  replace V0 := Va.after hb V0
  replace hI := It.after hb hI
  replace B0 := step B0 hb
  clear hb
  try go_wp2_with fail
  refine hK.out _ _ ⟨V0.c0, V0.c1⟩ (fun hHeld => ?_)
  clear hK K
  have HV : Hid (num zs = U.natAbs) := by have := hI.abs; rw [hv] at this; exact this
  refine wpAnyH_ready (rs := [9]) (by kernel_rfl) (by simp) ?_
  refine AllReadyH.cons rfl (fun K hK => ?_) AllReadyH.nil
  simp only [List.getElem_toArray, List.getElem_cons_zero, List.getElem_cons_succ]
  go_simp
  refine (written_a (decide (U < 0)) P (by omega) a l c _ (Go.Lib.decDigits U.natAbs) (by have := (dec_len (n := U.natAbs) (by omega)).2; omega) (dec_len (n := U.natAbs) (by omega)).1 (fun W hb => by have := text_dec a l c zs W (Nt.after hb hI.1) (by rw [HV.out]; omega) (hT.to (step B0 hb)); rw [show (num zs).toNat = U.natAbs by rw [HV.out]; rfl] at this; exact this)).mono ?_
  rintro e x6 ⟨rfl, hb⟩
  replace V0 := Va.after hb V0
  replace hI := It.after hb hI
  replace B0 := step B0 hb
  clear hb
  try go_wp2_with fail
  refine hK.out _ _ ⟨V0.c0, V0.c1⟩ (fun hHeld => ?_)
  clear hK K
  refine wpAnyH_take (i := 10) (v := ?_) rfl (by kernel_rfl) (by kernel_rfl) (by kernel_rfl) (fun _ _ _ h => h) (Or.inl ⟨by rfl, ?_⟩) hHeld ?_
  rotate_left
  · (intro W hSw; (try dsimp only at hSw); go_simp; all_goals (with_reducible rfl))
  simp only [List.getElem_toArray, List.getElem_cons_zero, List.getElem_cons_succ, Act.put, List.setIfInBounds_toArray, List.set_cons_zero, List.set_cons_succ]
  refine wpAnyH_take (i := 11) (v := ?_) rfl (by kernel_rfl) (by kernel_rfl) (by kernel_rfl) (fun _ _ _ h => h) (Or.inl ⟨by rfl, ?_⟩) hHeld ?_
  rotate_left
  · (intro W hSw; (try dsimp only at hSw); go_simp; all_goals (with_reducible rfl))
  simp only [List.getElem_toArray, List.getElem_cons_zero, List.getElem_cons_succ, Act.put, List.setIfInBounds_toArray, List.set_cons_zero, List.set_cons_succ]
  refine wpAnyH_done (by kernel_rfl) ?_ _
  refine NoPanic.normal ?_
  clear hHeld
  go_wp2_with fail
  go_ret2
  exact ⟨rfl, B0⟩
end Go.Proofs.YtebbblhafjaaiaaGreatDoor
namespace Go.Proofs.YtebbblhafjaaiaaGreatDoor
open Go.RowKit Go.Shelf
set_option linter.unusedVariables false

set_option maxHeartbeats 2000000 in
theorem rmake6_ok (U : Int) (P : Nat) (hP : P ≤ 9) (h1 : -9223372036854775808 ≤ U) (h2 : U ≤ 9223372036854775807) (w : World) :
    Calls Tryz.prog 9 #[.int .i64 U, .int .i64 P] w fun e w' => e = .returned (.tuple #[.agg #[.int .i64 (mkd U P).1, .int .i64 (mkd U P).2], .int .i64 0]) ∧ Below w.heap.size w w' := by
  have p0 : ¬ (P : Int) < 0 := by omega
  have p9 : ¬ (9 : Int) < (P : Int) := by omega
  have p0n : decide ((P : Int) < 0) = false := decide_eq_false p0
  have p9n : decide (9 < P) = false := by simp; omega
  go_enter Tryz.func9, Tryz.ntmps9
  go_wp2_with fail
  clear p0 p9 p0n p9n
  go_loop [0, 1] (fun x p => ∃ (V : Int) (q : Nat), x = .int .i64 V ∧ p = .int .i64 q ∧ q ≤ 9 ∧ -9223372036854775808 ≤ V ∧ V ≤ 9223372036854775807 ∧ Hid (mkd V q = mkd U P)) (fun _ p => (intOf p).toNat)
  case atStart => exact ⟨U, P, rfl, rfl, hP, h1, h2, rfl⟩
  case round =>
    obtain ⟨V, q, rfl, rfl, hq, hV1, hV2, HM⟩ := hrel
    have FIN : Hid (mkd V q = (V, q) → (mkd U P).1 = V ∧ (mkd U P).2 = q) := fun e => ⟨by rw [← HM.out, e], by rw [← HM.out, e]⟩
    cases q with
    | zero =>
      have hq0 : ¬ (0 : Int) < ((0 : Nat) : Int) := by omega
      go_wp2_with fail
      refine bodyPost_ret (results_dt rfl rfl (Va.new w _ _)) rfl ?_
      obtain ⟨g2, g3⟩ := FIN.out rfl
      rw [g2, g3]
      exact ⟨rfl, (Below.refl _ _).alloc (Nat.le_refl _) _⟩
    | succ p =>
      have hq0 : (0 : Int) < ((p + 1 : Nat) : Int) := by omega
      by_cases hm : V.tmod 10 = 0
      · have hb := tdiv_ten hm
        obtain ⟨Y, hY⟩ : ∃ Y, V.tdiv 10 = Y := ⟨_, rfl⟩
        have HE : Hid (mkd Y p = mkd U P) := by
          have h' := HM.out
          have e : mkd V (p + 1) = if V.tmod 10 = 0 then mkd (V.tdiv 10) p else (V, p + 1) := rfl
          rw [e, if_pos hm, hY] at h'
          exact h'
        rw [hY] at hb
        have y1 : -9223372036854775808 ≤ Y := by omega
        have y2 : Y ≤ 9223372036854775807 := by omega
        have eY : IntKind.i64.wrap Y = Y := by rw [IntKind.wrap_i64]; omega
        clear hb FIN
        go_wp2_with fail
        go_round
        case rel => exact ⟨Y, p, rfl, by go_num, by omega, y1, y2, HE⟩
        case measure => simp [intOf]
      · obtain ⟨m, hm'⟩ : ∃ m, V.tmod 10 = m := ⟨_, rfl⟩
        have hm0 : (m == 0) = false := by rw [hm'] at hm; simpa using hm
        have HN : Hid (mkd V (p + 1) = (V, p + 1)) := by show mkd V (p + 1) = _; unfold mkd; rw [if_neg hm]
        clear hm
        go_wp2_with fail
        refine bodyPost_ret (results_dt rfl rfl (Va.new w _ _)) rfl ?_
        obtain ⟨g2, g3⟩ := FIN.out HN.out
        rw [g2, g3]
        exact ⟨rfl, (Below.refl _ _).alloc (Nat.le_refl _) _⟩
set_option maxHeartbeats 2000000 in
theorem rmake6_no (U P : Int) (h : ¬ (0 ≤ P ∧ P ≤ 9)) (w : World) :
    Calls Tryz.prog 9 #[.int .i64 U, .int .i64 P] w fun e w' => e = .returned (.tuple #[.agg #[.int .i64 0, .int .i64 0], .int .i64 60]) ∧ Below w.heap.size w w' := by
  by_cases h0 : P < 0
  · have b0 : decide (P < 0) = true := decide_eq_true h0
    go_enter Tryz.func9, Tryz.ntmps9
    go_wp2_with fail
    refine bodyPost_ret (results_dt rfl rfl (Va.new w _ _)) rfl ?_
    exact ⟨rfl, (Below.refl _ _).alloc (Nat.le_refl _) _⟩
  · have b0 : decide (P < 0) = false := decide_eq_false h0
    have h9 : 9 < P := by omega
    have b9 : decide (9 < P) = true := decide_eq_true h9
    go_enter Tryz.func9, Tryz.ntmps9
    go_wp2_with fail
    refine bodyPost_ret (results_dt rfl rfl (Va.new w _ _)) rfl ?_
    exact ⟨rfl, (Below.refl _ _).alloc (Nat.le_refl _) _⟩
set_option maxHeartbeats 2000000 in
theorem rpointed6 (s : List UInt8) (P : Nat) (neg : Bool) (hP : P < s.length) (hs : s.length ≤ 1000000) (w : World) :
    Calls Tryz.prog 49 #[.string ⟨s.toArray⟩, .int .i64 P, .bool neg] w fun e w' => e = .returned (.string ⟨(sgL neg (ptL P s)).toArray⟩) ∧ Below w.heap.size w w' := by
  have B0 : Below w.heap.size w w := Below.refl _ _
  by_cases h0 : P = 0
  · subst h0
    have e0 : ptL 0 s = s := rfl
    rw [e0]
    cases neg
    · go_enter Tryz.func49, Tryz.ntmps49
      go_wp2_with fail
      go_ret
      exact ⟨rfl, B0⟩
    · have hcat := cat [45] s
      go_enter Tryz.func49, Tryz.ntmps49
      go_wp2_with fail
      go_ret
      exact ⟨rfl, B0⟩
  · have hpi : (0 : Int) < P := by omega
    have s1 := slice_hi s ((s.length : Int) - P) (s.length - P) (by omega) (by omega)
    have s2 := slice_lo s ((s.length : Int) - P) (s.length - P) (by omega) (by omega)
    have c1 := cat (s.take (s.length - P)) [46]
    have c2 := cat (s.take (s.length - P) ++ [46]) (s.drop (s.length - P))
    have c3 := cat [45] (s.take (s.length - P) ++ [46] ++ s.drop (s.length - P))
    have HE : Hid (ptL P s = s.take (s.length - P) ++ 46 :: s.drop (s.length - P)) := by show ptL P _ = _; unfold ptL; rw [if_neg (by omega)]
    cases neg
    · go_enter Tryz.func49, Tryz.ntmps49
      go_wp2_with fail
      go_quiet (fail)
      go_wp2_with fail
      go_ret
      refine ⟨?_, below_dN B0 _⟩
      rw [HE.out]
      have e : sgL false (s.take (s.length - P) ++ 46 :: s.drop (s.length - P)) = s.take (s.length - P) ++ [46] ++ s.drop (s.length - P) := by unfold sgL; simp
      first | rfl | (rw [e]; rfl) | (unfold sgL; rfl) | (unfold sgL; simp)
    · go_enter Tryz.func49, Tryz.ntmps49
      go_wp2_with fail
      go_quiet (fail)
      go_wp2_with fail
      go_ret
      refine ⟨?_, below_dN B0 _⟩
      rw [HE.out]
      have e : sgL true (s.take (s.length - P) ++ 46 :: s.drop (s.length - P)) = [45] ++ (s.take (s.length - P) ++ [46] ++ s.drop (s.length - P)) := by unfold sgL; simp
      first | rfl | (rw [e]; rfl) | (unfold sgL; rfl) | (unfold sgL; simp)
/-- Noughts behind digits, the lowest first, are noughts ahead of the text. -/
theorem tB3_pad (os : List Int) (k : Nat) : tB3 (os ++ List.replicate k 0) = List.replicate k 48 ++ tB3 os := by
  unfold tB3
  rw [List.map_append, List.reverse_append, List.map_replicate, List.reverse_replicate]
  rfl
theorem DgI.pad {os : List Int} (h : DgI 10 os) (k : Nat) : DgI 10 (os ++ List.replicate k 0) := fun z hz => by
  rcases List.mem_append.1 hz with h' | h'
  · exact h z h'
  · rw [List.eq_of_mem_replicate h']; exact ⟨by omega, by omega⟩
set_option maxRecDepth 20000 in
set_option maxHeartbeats 2000000 in
theorem rtold6 (least : Nat) (hleast : least ≤ 5000) (a : Option Addr) (la ca : Nat) (zs : List Int) (w : World) (h : Sl w a la zs) (hl : la ≤ 1100000) (hM : ∀ n : Nat, ((10 : Nat) : Int) ^ n ≤ num zs → n ≤ 300000) (hN0 : 0 ≤ num zs) :
    Calls Tryz.prog 46 #[.slice a la ca, .int .i64 least] w fun e w' => ∃ t, e = .returned (.string ⟨(List.replicate (least - t.length) 48 ++ t).toArray⟩) ∧ Tx 10 t (num zs).toNat ∧ t.length ≤ 300100 ∧ Below w.heap.size w w' := by
  have wo := worthsB 10 (by omega) (by omega) a la ca zs w h hl hM hN0
  generalize num zs = N at *
  clear h hM
  go_enter Tryz.func46, Tryz.ntmps46
  go_wp2_with fail
  go_at_call 102
  refine wo.mono ?_
  rintro e x1 ⟨v, os, rfl, hG, hne, hdg, hlv, hlen, htp, hb1⟩
  have hTx := tB3_tx (by omega) (by omega) hdg hne hlv htp
  have HTX : Hid (Tx 10 (tB3 os) N.toNat) := hTx
  have HNE : Hid (os ≠ []) := hne
  have HDG : Hid (DgI 10 os) := hdg
  have HG0 : Hid (Gr x1 w.heap.size v os) := hG
  have HB1 : Hid (Below w.heap.size w x1) := hb1
  have hlB := hG.lenB
  clear hTx hne hdg hlv htp hG wo hb1
  go_wp2_with fail
  go_loopw [5] (fun vv wr => ∃ k : Nat, k ≤ least - os.length ∧ Hid (Gr wr w.heap.size vv (os ++ List.replicate k 0)) ∧ Hid (Below w.heap.size w wr)) (fun vv _ => least - slenB vv)
  case atStart => exact ⟨0, by omega, by simpa using HG0, HB1⟩
  case round =>
    obtain ⟨k, hk, HG, HB⟩ := hrel
    clear HG0 HB1
    have hdg := HDG.out.pad k
    obtain ⟨cs, hcs⟩ : ∃ cs, os ++ List.replicate k 0 = cs := ⟨_, rfl⟩
    have HCS : Hid (os ++ List.replicate k 0 = cs) := hcs
    have hcl : cs.length = os.length + k := by rw [← hcs]; simp
    rw [hcs] at HG hdg
    obtain ⟨a5, c5, rfl, hc5, hs5⟩ := HG.out.sl (hdg.limbs (by omega))
    obtain ⟨L, hL⟩ : ∃ L, cs.length = L := ⟨_, rfl⟩
    have HLN : Hid (cs.length = L) := hL
    rw [hL] at hcl hc5
    by_cases hlt : L < least
    · have hli : (L : Int) < least := by omega
      have HSZ : Hid (w.heap.size ≤ (wr.alloc (.cells #[.int .u64 0] 94)).heap.size) := by show _ ≤ _; have := HB.out.size; simp; omega
      have HGA : Hid (Gr (wr.alloc (.cells #[.int .u64 0] 94)) w.heap.size (.slice a5 L c5) cs) := by have := HG.out.alloc (.cells #[.int .u64 0] 94); rw [HLN.out] at this; exact this
      have HBA : Hid (Below w.heap.size w (wr.alloc (.cells #[.int .u64 0] 94))) := HB.out.alloc HB.out.size _
      rw [hL]
      clear hcs hdg hs5 HG HB hL
      go_wp2_with (at_builtin; refine wpList_app rfl (.tmp 14) (.tmp 15) rfl w.heap.size (.slice a5 L c5) cs rfl HGA.out wr.heap.size 1 1 [0] rfl rfl (heap_alloc_new _ _) (by have := HLN.out; omega) HSZ.out ?_; intro v1 w1 hG1 hb1)
      have HB2 : Hid (Below w.heap.size w w1) := HBA.out.trans hb1
      have HG2 : Hid (Gr w1 w.heap.size v1 (os ++ List.replicate (k + 1) 0)) := by
        have e : os ++ List.replicate (k + 1) 0 = cs ++ [0] := by rw [← HCS.out, List.replicate_succ', List.append_assoc]
        rw [e]; exact hG1.out
      have hl2 := HG2.out.lenB
      rw [List.length_append, List.length_replicate] at hl2
      clear hb1 hG1 HGA HBA HSZ
      go_wp2_with fail
      go_roundw
      case rel => exact ⟨k + 1, by omega, HG2, HB2⟩
      case measure => simp [slenB] at hl2 ⊢; omega
    · have hli : ¬ (L : Int) < least := by omega
      have hk2 : k = least - os.length := by omega
      have HT : Hid (tB3 cs = List.replicate (least - (tB3 os).length) 48 ++ tB3 os) := by show _ = _; rw [← HCS.out, tB3_pad, tB3_len, hk2]
      have HTL : Hid ((tB3 os).length ≤ 300100) := by show _ ≤ _; rw [tB3_len]; exact hlen
      have HDC : Hid (DgI 10 cs) := hdg
      have L1 : 1 ≤ L := by have := List.length_pos_iff.2 HNE.out; omega
      have L2 : L ≤ 310000 := by omega
      obtain ⟨g, cap, he5, hg0, hg1, hcc, hWb⟩ : ∃ g cap, (.slice a5 cs.length c5 : Value) = .slice (some ⟨g, 0, none⟩) cs.length cap ∧ w.heap.size ≤ g ∧ g < wr.heap.size ∧ cs.length ≤ cap ∧ Wb wr g cs.length cs := by
        rcases HG.out.shape with ⟨-, e2⟩ | h
        · rw [e2] at hL; simp at hL; omega
        · exact h
      injection he5 with he5 _ he6
      subst he5
      subst he6
      have HW : Hid (Wb wr g cs.length cs) := hWb
      have HB0 : Hid (Below w.heap.size w wr) := HB.out
      rw [hL]
      clear hk2 hcl hdg hs5 HG HB hWb hL hcs HDG HNE HCS
      go_wp2_with fail
      obtain ⟨x2, hx2⟩ : ∃ x2, x2 = wr := ⟨_, rfl⟩
      subst hx2
      have U0 : Hid (GrU x2 x2.heap.size (.slice none 0 0) (tB3 (cs.drop L))) := by rw [← HLN.out, List.drop_length]; exact GrU.nil _ _
      go_loopw [6, 7] (fun bv ii W => ∃ k : Nat, k ≤ L ∧ ii = .int .i64 ((k : Int) - 1) ∧ Hid (GrU W x2.heap.size bv (tB3 (cs.drop k))) ∧ Hid (Below x2.heap.size x2 W)) (fun _ ii _ => (intOf ii + 1).toNat)
      case atStart => exact ⟨L, Nat.le_refl _, rfl, U0, Below.refl _ _⟩
      case round =>
        obtain ⟨k2, hk2, rfl, HU, HBr⟩ := hrel
        clear U0
        by_cases hk0 : k2 = 0
        · subst hk0
          have hki : ¬ (0 : Int) ≤ ((0 : Nat) : Int) - 1 := by omega
          have hU := HU.out
          rw [List.drop_zero] at hU
          have hcv := hU.conv (by intro e; have := tB3_len cs; rw [e] at this; simp at this; have := HLN.out; omega)
          have HB2 := step HB0.out HBr.out
          clear hU HU HBr HDC
          rw [HT.out] at hcv
          generalize tB3 os = T at *
          go_wp2_with fail
          go_ret
          exact ⟨T, rfl, HTX.out, HTL.out, HB2⟩
        · obtain ⟨j, rfl⟩ : ∃ j, k2 = j + 1 := ⟨k2 - 1, by omega⟩
          have hki : (0 : Int) ≤ ((j + 1 : Nat) : Int) - 1 := by omega
          have hlt2 : j < cs.length := by rw [HLN.out]; omega
          have hd := HDC.out.getD hlt2
          have hc := (HW.out.below HBr.out hg1).cell j hlt2
          have hst := tB3_drop cs hlt2
          obtain ⟨x, hx⟩ : ∃ x, cs.getD j 0 = x := ⟨_, rfl⟩
          rw [hx] at hd hc hst
          have HST : Hid (tB3 (cs.drop j) = tB3 (cs.drop (j + 1)) ++ [ltr x]) := hst
          have jL : (j : Int) < L := by rw [← HLN.out]; omega
          obtain ⟨x0, x1b⟩ := hd
          have hlv := ltr_val x0 (by omega)
          rw [if_pos (by omega)] at hlv
          obtain ⟨c, hcc2⟩ : ∃ c, ltr x = c := ⟨_, rfl⟩
          have HLT : Hid (ltr x = c) := hcc2
          rw [hcc2] at hlv
          have w64 : IntKind.u64.wrap (48 + x) = 48 + x := by rw [IntKind.wrap_u64]; omega
          have w8 : IntKind.u8.wrap (48 + x) = (c.toNat : Int) := by rw [hlv]; show (48 + x) % 256 = _; omega
          have hlen2 : (tB3 (cs.drop (j + 1))).length + 1 ≤ 17592186044416 := by rw [tB3_len, List.length_drop]; have := HLN.out; omega
          rw [show (((j + 1 : Nat) : Int) - 1) = (j : Int) by omega] at *
          clear hst hx hki hcc2 hlv
          have hji : (0 : Int) ≤ j := by omega
          have hsA : x2.heap.size ≤ (wr.alloc (.cells #[.int .u8 (c.toNat : Int)] 5)).heap.size := by have := HBr.out.size; simp; omega
          have HUa : Hid (GrU (wr.alloc (.cells #[.int .u8 (c.toNat : Int)] 5)) x2.heap.size u6 (tB3 (cs.drop (j + 1)))) := HU.out.alloc _
          have HC1 : Hid ((wr.alloc (.cells #[.int .u8 (c.toNat : Int)] 5)).cell? ⟨wr.heap.size, 0, none⟩ = some (.int .u8 (c.toNat : Int))) := (Va.new wr 5 #[.int .u8 (c.toNat : Int)]).cell
          have HBa : Hid (Below x2.heap.size x2 (wr.alloc (.cells #[.int .u8 (c.toNat : Int)] 5))) := HBr.out.alloc HBr.out.size _
          clear HU HBr
          go_wp2_with (at_builtin; refine wpList_appU rfl (.tmp 24) (.tmp 31) rfl x2.heap.size u6 _ rfl HUa.out wr.heap.size c rfl HC1.out hlen2 hsA ?_; intro v2 w2 HG2 hb2)
          have HB3 : Hid (Below x2.heap.size x2 w2) := HBa.out.trans hb2
          have HG3 : Hid (GrU w2 x2.heap.size v2 (tB3 (cs.drop j))) := by rw [HST.out, HLT.out]; exact HG2.out
          clear hb2 HG2 HUa HC1 HBa
          go_wp2_with fail
          go_roundw
          case rel => exact ⟨j, by omega, rfl, HG3, HB3⟩
          case measure => simp [intOf]
theorem rtext6_no (U P : Int) (h : ¬ CanI U P) (w : World) : Calls Tryz.prog 13 #[.agg #[.int .i64 U, .int .i64 P]] w fun e w' => e = .returned (.tuple #[.string ⟨#[]⟩, .int .i64 60]) ∧ Below w.heap.size w w' := by
  have B0 : Below w.heap.size w w := Below.refl _ _
  go_enter Tryz.func13, Tryz.ntmps13
  go_wp2_with fail
  refine ent1 w _ _ (Q := fun W => Calls Tryz.prog _ _ W _) ?_
  intro x1 hb hs_x1 V0
  replace B0 := step B0 hb
  clear hb hs_x1
  refine (rcheck6_no U P h _).mono ?_
  rintro e x2 ⟨rfl, hb⟩
  replace V0 := Va.after hb V0
  replace B0 := step B0 hb
  clear hb
  go_wp2_with fail
  go_ret2
  exact ⟨rfl, B0⟩
theorem ten_few {n : Nat} {x : Int} (h : ((10 : Nat) : Int) ^ n ≤ x) (hx : x ≤ 18446744073709551616) : n ≤ 300000 := by
  rcases Nat.lt_or_ge 300000 n with h1 | h1
  · exfalso
    have h2 : (10 : Int) ^ 20 ≤ 10 ^ n := by
      have := Nat.pow_le_pow_right (n := 10) (by omega) (show 20 ≤ n by omega)
      exact_mod_cast this
    have h3 : (18446744073709551616 : Int) < 10 ^ 20 := by decide
    have h4 : ((10 : Nat) : Int) ^ n = (10 : Int) ^ n := rfl
    omega
  · exact h1
end Go.Proofs.YtebbblhafjaaiaaGreatDoor
namespace Go.Proofs.YtebbblhafjaaiaaGreatDoor
open Go.RowKit Go.Shelf
set_option linter.unusedVariables false

/-- told at a decimal's units. -/
theorem told_at (U : Int) (P : Nat) (hP : P ≤ 9) (hU : -9223372036854775808 ≤ U ∧ U ≤ 9223372036854775807) (a : Option Addr) (la ca : Nat) (zs : List Int) (w : World) (h : Sl w a la zs) (hl : la ≤ 1100000) (hn : num zs = (U.natAbs : Int)) :
    Calls Tryz.prog 46 #[.slice a la ca, .int .i64 ((P : Int) + 1)] w fun e w' => ∃ s, e = .returned (.string ⟨s.toArray⟩) ∧ padL P (Go.Lib.decDigits U.natAbs) = s ∧ (P < s.length ∧ s.length ≤ 1000000) ∧ Below w.heap.size w w' := by
  have hb := rtold6 (P + 1) (by omega) a la ca zs w h hl (fun n hn2 => ten_few hn2 (by rw [hn]; omega)) (by rw [hn]; omega)
  rw [show ((P + 1 : Nat) : Int) = (P : Int) + 1 from by omega] at hb
  refine hb.mono ?_
  rintro e x ⟨t, rfl, ht, htl, hb⟩
  rw [hn, Int.toNat_natCast] at ht
  have hu : Go.Lib.decDigits U.natAbs = t := (dec_tx U.natAbs).unique (by omega) (by omega) ht
  refine ⟨_, rfl, by unfold padL; rw [hu], ?_, hb⟩
  rw [List.length_append, List.length_replicate]
  have := ht.pos
  omega
set_option maxHeartbeats 4000000 in
theorem rtext6_ok (U : Int) (P : Nat) (h1 : -9223372036854775808 ≤ U) (h2 : U ≤ 9223372036854775807) (hc : Can U P) (w : World) : Calls Tryz.prog 13 #[.agg #[.int .i64 U, .int .i64 P]] w fun e w' => e = .returned (.tuple #[.string ⟨(dtx U P).toArray⟩, .int .i64 0]) ∧ Below w.heap.size w w' := by
  have HC : Hid (CanI U P) := (canI_iff U P).2 hc
  have hP9 := hc.1
  have HB : Hid (-9223372036854775808 ≤ U ∧ U ≤ 9223372036854775807) := ⟨h1, h2⟩
  clear h1 h2 hc
  have B0 : Below w.heap.size w w := Below.refl _ _
  go_enter Tryz.func13, Tryz.ntmps13
  go_wp2_with fail
  refine ent1 w _ _ (Q := fun W => Calls Tryz.prog _ _ W _) ?_
  intro x1 hb hs_x1 V0
  replace B0 := step B0 hb
  clear hb hs_x1
  refine (rcheck6_ok U P HC.out _).mono ?_
  rintro e x2 ⟨rfl, hb⟩
  replace V0 := Va.after hb V0
  replace B0 := step B0 hb
  clear hb
  have c_V0 := V0.c0
  have f0_V0 := V0.frozen 0
  have d_V0 := V0.c1
  have f1_V0 := V0.frozen 1
  have l_V0 := V0.lt
  have m_V0 := Nat.le_of_lt l_V0
  go_wp2_with fail
  clear c_V0 f0_V0 d_V0 f1_V0 l_V0 m_V0
  have wP1 : IntKind.i64.wrap ((P : Int) + 1) = (P : Int) + 1 := by rw [IntKind.wrap_i64]; omega
  refine wp_region_noPanic ?_
  replace V0 : Va x2.drew _ _ _ := V0
  replace B0 := Below.drew B0
  refine wp_region_held_drew (S := (fun W => W.cell? ⟨w.heap.size, 0, none⟩ = some (.int .i64 U) ∧ W.cell? ⟨w.heap.size, 1, none⟩ = some (.int .i64 P))) (by kernel_rfl) ⟨V0.c0, V0.c1⟩ (fun hHeld => ?_)
  obtain ⟨x3, hxd⟩ : ∃ xd, xd = x2.drew := ⟨_, rfl⟩
  rw [← hxd] at V0 B0 hHeld ⊢
  clear hxd
  refine wpAnyH_take (i := 0) (v := ?_) rfl (by kernel_rfl) (by kernel_rfl) (by kernel_rfl) (fun _ _ _ h => h) (Or.inl ⟨by rfl, ?_⟩) hHeld ?_
  rotate_left
  · (intro W hSw; (try dsimp only at hSw); go_simp; all_goals (with_reducible rfl))
  simp only [List.getElem_toArray, List.getElem_cons_zero, Act.put, List.setIfInBounds_toArray, List.set_cons_zero, List.set_cons_succ]
  refine wpAnyH_take (i := 1) (v := ?_) rfl (by kernel_rfl) (by kernel_rfl) (by kernel_rfl) (fun _ _ _ h => h) (Or.inl ⟨by rfl, ?_⟩) hHeld ?_
  rotate_left
  · (intro W hSw; (try dsimp only at hSw); go_simp; all_goals (with_reducible rfl))
  simp only [List.getElem_toArray, List.getElem_cons_zero, List.getElem_cons_succ, Act.put, List.setIfInBounds_toArray, List.set_cons_zero, List.set_cons_succ]
  refine wpAnyH_take (i := 4) (v := ?_) rfl (by kernel_rfl) (by kernel_rfl) (by kernel_rfl) (fun _ _ _ h => h) (Or.inl ⟨by rfl, ?_⟩) hHeld ?_
  rotate_left
  · (intro W hSw; (try dsimp only at hSw); go_simp; all_goals (with_reducible rfl))
  simp only [List.getElem_toArray, List.getElem_cons_zero, List.getElem_cons_succ, Act.put, List.setIfInBounds_toArray, List.set_cons_zero, List.set_cons_succ]
  refine wpAnyH_take (i := 5) (v := ?_) rfl (by kernel_rfl) (by kernel_rfl) (by kernel_rfl) (fun _ _ _ h => h) (Or.inl ⟨by rfl, ?_⟩) hHeld ?_
  rotate_left
  · (intro W hSw; (try dsimp only at hSw); go_simp; all_goals (with_reducible rfl))
  simp only [List.getElem_toArray, List.getElem_cons_zero, List.getElem_cons_succ, Act.put, List.setIfInBounds_toArray, List.set_cons_zero, List.set_cons_succ]
  refine wpAnyH_take (i := 6) (v := ?_) rfl (by kernel_rfl) (by kernel_rfl) (by kernel_rfl) (fun _ _ _ h => h) (Or.inl ⟨by rfl, ?_⟩) hHeld ?_
  rotate_left
  · (intro W hSw; (try dsimp only at hSw); go_simp; all_goals (with_reducible rfl))
  simp only [List.getElem_toArray, List.getElem_cons_zero, List.getElem_cons_succ, Act.put, List.setIfInBounds_toArray, List.set_cons_zero, List.set_cons_succ]
  refine wpAnyH_ready (rs := [2]) (by kernel_rfl) (by simp) ?_
  refine AllReadyH.cons rfl (fun K hK => ?_) AllReadyH.nil
  simp only [List.getElem_toArray, List.getElem_cons_zero, List.getElem_cons_succ]
  go_simp
  refine (rsize6 U HB.out.1 HB.out.2 _).mono ?_
  rintro e xw ⟨rfl, hw⟩
  rw [hw]
  clear hw
  try go_wp2_with fail
  refine hK.out _ _ ⟨V0.c0, V0.c1⟩ (fun hHeld => ?_)
  clear hK K
  refine wpAnyH_ready (rs := [3]) (by kernel_rfl) (by simp) ?_
  refine AllReadyH.cons rfl (fun K hK => ?_) AllReadyH.nil
  simp only [List.getElem_toArray, List.getElem_cons_zero, List.getElem_cons_succ]
  go_simp
  refine (rsmall_any (U.natAbs : Int) ⟨by omega, by have h5 := HB.out; omega⟩ _).mono ?_
  rintro e x4 ⟨a1, m1, c1, z1, rfl, hc1, hm1, h1, hu1, hn1, hb⟩
  replace V0 := Va.after hb V0
  replace B0 := step B0 hb
  clear hb
  try go_wp2_with fail
  refine hK.out _ _ ⟨V0.c0, V0.c1⟩ (fun hHeld => ?_)
  clear hK K
  refine wpAnyH_ready (rs := [7]) (by kernel_rfl) (by simp) ?_
  refine AllReadyH.cons rfl (fun K hK => ?_) AllReadyH.nil
  simp only [List.getElem_toArray, List.getElem_cons_zero, List.getElem_cons_succ]
  go_simp
  refine (told_at U P hP9 HB.out a1 m1 c1 z1 _ h1 (by omega) hn1).mono ?_
  rintro e x5 ⟨s, rfl, hsl, hs5, hb⟩
  replace V0 := Va.after hb V0
  replace B0 := step B0 hb
  clear hb h1 hu1 hn1
  try go_wp2_with fail
  refine hK.out _ _ ⟨V0.c0, V0.c1⟩ (fun hHeld => ?_)
  clear hK K
  refine wpAnyH_take (i := 8) (v := ?_) rfl (by kernel_rfl) (by kernel_rfl) (by kernel_rfl) (fun _ _ _ h => h) (Or.inl ⟨by rfl, ?_⟩) hHeld ?_
  rotate_left
  · (intro W hSw; (try dsimp only at hSw); go_simp; all_goals (with_reducible rfl))
  simp only [List.getElem_toArray, List.getElem_cons_zero, List.getElem_cons_succ, Act.put, List.setIfInBounds_toArray, List.set_cons_zero, List.set_cons_succ]
  refine wpAnyH_done (by kernel_rfl) ?_ _
  refine NoPanic.normal ?_
  clear hHeld
  have c_V0 := V0.c0
  have f0_V0 := V0.frozen 0
  have d_V0 := V0.c1
  have f1_V0 := V0.frozen 1
  have l_V0 := V0.lt
  have m_V0 := Nat.le_of_lt l_V0
  have HS : Hid (textL (decide (U < 0)) P (Go.Lib.decDigits U.natAbs) = sgL (decide (U < 0)) (ptL P s)) := by show textL _ _ _ = _; unfold textL; rw [hsl]
  have hsP : P < s.length ∧ s.length ≤ 1000000 := hs5
  clear hsl hs5
  obtain ⟨neg, hng⟩ : ∃ neg, decide (U < 0) = neg := ⟨_, rfl⟩
  rw [hng] at HS
  go_wp2_with fail
  refine (rpointed6 s P neg hsP.1 hsP.2 _).mono ?_
  rintro e x7 ⟨rfl, hb⟩
  replace B0 := step B0 hb
  clear hb
  go_wp2_with fail
  go_ret2
  exact ⟨by unfold dtx; rw [hng, HS.out]; rfl, B0⟩
end Go.Proofs.YtebbblhafjaaiaaGreatDoor
namespace Go.Proofs.YtebbblhafjaaiaaGreatDoor
open Go.RowKit Go.Shelf
set_option linter.unusedVariables false

/-- A normal ratio of the document's: its lists can be read and are trimmed. -/
def Rr (w : World) (s : Bool) (a : Option Addr) (l c : Nat) (zs : List Int) (b : Option Addr) (m d : Nat) (ys : List Int) (v : Rat) : Prop :=
  Sl w a l zs ∧ Sl w b m ys ∧ usedN zs = l ∧ usedN ys = m ∧ (l ≤ c ∧ m ≤ d) ∧ iv s zs = v.num ∧ num ys = v.den ∧ (s = true → num zs ≠ 0)
theorem Rr.after {w w' : World} (hb : Below w.heap.size w w') {s : Bool} {a : Option Addr} {l c : Nat} {zs : List Int} {b : Option Addr} {m d : Nat} {ys : List Int} {v : Rat} (h : Rr w s a l c zs b m d ys v) : Rr w' s a l c zs b m d ys v := ⟨h.1.below hb (Nat.le_refl _), h.2.1.below hb (Nat.le_refl _), h.2.2⟩
theorem Rr.drw {w : World} {s : Bool} {a : Option Addr} {l c : Nat} {zs : List Int} {b : Option Addr} {m d : Nat} {ys : List Int} {v : Rat} (h : Rr w s a l c zs b m d ys v) : Rr w.drew s a l c zs b m d ys v := h
theorem Rr.far {w : World} {s : Bool} {a : Option Addr} {l c : Nat} {zs : List Int} {b : Option Addr} {m d : Nat} {ys : List Int} {v : Rat} (h : Rr w s a l c zs b m d ys v) {b' : Nat} {t : TypeId} {cs : Array Value} (V : Va w b' t cs) (hn : NoInt cs) {w' : World} (k : ∀ c, c ≠ b' → w'.heap[c]? = w.heap[c]?) : Rr w' s a l c zs b m d ys v := ⟨h.1.far V hn k, h.2.1.far V hn k, h.2.2⟩
theorem div_exact {x g q r : Int} (e : x = q * g + r) (r0 : 0 ≤ r) (hr : r < g) (hd : g ∣ x) : q * g = x := by
  obtain ⟨k, hk⟩ := hd
  have e2 : r = g * (k - q) := by rw [Int.mul_sub, ← hk, e, Int.mul_comm g]; omega
  rcases Int.lt_or_le (k - q) 1 with h1 | h1
  · have := Int.mul_le_mul_of_nonneg_left (show k - q ≤ 0 by omega) (show 0 ≤ g by omega); rw [Int.mul_zero] at this; omega
  · have := Int.mul_le_mul_of_nonneg_left h1 (show 0 ≤ g by omega); rw [Int.mul_one] at this; omega
/-- What the document's Make comes to. -/
theorem make_parts {n : Bool} {z0 z1 zg qs rs : List Int} (h0 : 0 ≤ num z0) (h1 : 0 < num z1) (hg : num zg = (Int.gcd (num z0) (num z1) : Nat)) (q0 : 0 ≤ num qs) (r0 : 0 ≤ num rs)
    (e1 : num qs * num zg = num z0) (e2 : num rs * num zg = num z1) : iv (n && decide (num qs ≠ 0)) qs = (Rat.divInt (iv n z0) (num z1)).num ∧ num rs = (Rat.divInt (iv n z0) (num z1)).den := by
  have hA : num z0 = ((iv n z0).natAbs : Int) := by cases n <;> simp only [iv_t, iv_f] <;> omega
  have hB : num z1 = ((num z1).natAbs : Int) := by omega
  have hq : (num qs = 0) ↔ (num z0 = 0) := by
    constructor
    · intro h; rw [h, Int.zero_mul] at e1; exact e1.symm
    · intro h
      rw [h] at e1
      rcases Int.mul_eq_zero.1 e1 with h' | h'
      · exact h'
      · rw [h', Int.mul_zero] at e2; omega
  have hr : num rs ≠ 0 := by intro h; rw [h, Int.zero_mul] at e2; omega
  obtain ⟨p1, p2⟩ := new_parts (X := iv n z0) (Y := num z1) (X' := iv n z0) (by omega) (by rw [if_neg (by omega)]) hA hB hg e1 e2 q0 r0 (b := n && decide (num qs ≠ 0)) (by
    cases n
    · rw [iv_f]; simp; exact h0
    · rw [iv_t]
      by_cases h : num qs = 0
      · rw [hq.1 h]; simp [h]
      · have hz : ¬ num z0 = 0 := fun h' => h (hq.2 h')
        rw [Int.sign_eq_neg_one_of_neg (by omega)]; simp [h])
  refine ⟨p1, ?_⟩
  rw [← p2]; unfold dn; rw [if_neg hr]

theorem small_div {x y : Int} (hy : y ≠ 0) {z0 z1 : List Int} (e0 : num z0 = (x.natAbs : Int)) (e1 : num z1 = (y.natAbs : Int)) : Rat.divInt (iv (!(decide (x < 0) == decide (y < 0))) z0) (num z1) = Rat.divInt x y := by
  rcases Int.lt_or_le y 0 with h | h
  · have e2 : num z1 = -y := by omega
    rw [e2, ← Rat.neg_divInt_neg x y]
    congr 1
    rcases Int.lt_or_le x 0 with h' | h'
    · simp [h, h', iv_f]; omega
    · have : ¬ x < 0 := by omega
      simp [h, this, iv_t]; omega
  · have e2 : num z1 = y := by omega
    have h2 : ¬ y < 0 := by omega
    rw [e2]
    congr 1
    rcases Int.lt_or_le x 0 with h' | h'
    · simp [h2, h', iv_t]; omega
    · have : ¬ x < 0 := by omega
      simp [h2, this, iv_f]; omega
end Go.Proofs.YtebbblhafjaaiaaGreatDoor
namespace Go.Proofs.YtebbblhafjaaiaaGreatDoor
open Go.RowKit Go.Shelf
set_option linter.unusedVariables false

set_option maxHeartbeats 4000000 in
theorem rlow6 (n : Bool) (a0 a1 : Option Addr) (l0 k0 l1 k1 : Nat) (z0 z1 : List Int) (w : World) (h0 : Sl w a0 l0 z0) (h1 : Sl w a1 l1 z1) (c0 : l0 ≤ k0) (c1 : l1 ≤ k1) (t0 : l0 ≤ 1000000) (t1 : l1 ≤ 1000000) (u0 : usedN z0 ≤ 4096) (u1 : usedN z1 ≤ 4096) (hz : num z1 ≠ 0) :
    Calls Tryz.prog 105 #[.agg #[.bool n, .slice a0 l0 k0, .slice a1 l1 k1]] w fun e w' => ∃ s' a' l' c' zs' b' m' d' ys', e = .returned (.agg #[.bool s', .slice a' l' c', .slice b' m' d']) ∧ Rr w' s' a' l' c' zs' b' m' d' ys' (Rat.divInt (iv n z0) (num z1)) ∧ l' ≤ 2 * l0 ∧ m' ≤ 2 * l1 ∧ Below w.heap.size w w' := by
  have B0 : Below w.heap.size w w := Below.refl _ _
  have p0 := num_nonneg h0.2.1
  have p1 := num_nonneg h1.2.1
  go_enter Tryz.func105, Tryz.ntmps105
  go_wp2_with fail
  refine ent2 w _ _ _ _ (Q := fun W => Calls Tryz.prog _ _ W _) ?_
  intro x1 hb hs_x1 V1 V0
  replace h0 := Sl.after hb h0
  replace h1 := Sl.after hb h1
  replace B0 := step B0 hb
  clear hb hs_x1
  refine (rgcd_n a0 a1 l0 k0 l1 k1 z0 z1 x1 h0 h1 c0 c1 (by omega) (by omega) u0 u1).mono ?_
  rintro e x2 ⟨ag, mg, cg, zg, rfl, hcg, hg, ug, eg, hb⟩
  replace V0 := Va.after hb V0
  replace V1 := Va.after hb V1
  replace h0 := Sl.after hb h0
  replace h1 := Sl.after hb h1
  replace B0 := step B0 hb
  clear hb
  have HG : Hid (num zg ≠ 0 ∧ num zg ∣ num z0 ∧ num zg ∣ num z1) := by
    refine ⟨?_, ?_, ?_⟩
    · rw [eg]; exact gcd_ne hz
    · rw [eg]; exact Int.gcd_dvd_left ..
    · rw [eg]; exact Int.gcd_dvd_right ..
  have hmg : mg ≤ 4096 := by
    have hgl : num zg ≤ num z1 := Int.le_of_dvd (by omega) HG.out.2.2
    have := used_of_lt hg.2.1 (Int.lt_of_le_of_lt hgl (lt_of_used h1.2.1 u1))
    omega
  have HE : Hid (num zg = (Int.gcd (num z0) (num z1) : Nat)) := eg
  clear eg ug
  have c_V1 := V1.d0
  have f0_V1 := V1.frozen 0
  have d_V1 := V1.d1
  have f1_V1 := V1.frozen 1
  have e_V1 := V1.d2
  have f2_V1 := V1.frozen 2
  have l_V1 := V1.lt
  have m_V1 := Nat.le_of_lt l_V1
  go_wp2_with fail
  clear c_V1 f0_V1 d_V1 f1_V1 e_V1 f2_V1 l_V1 m_V1
  refine (rdivmod_n a0 ag l0 k0 mg cg z0 zg x2 h0 hg c0 (by omega) (by omega) HG.out.1).mono ?_
  rintro e x3 ⟨aq, mq, cq, qs, ax, mx, cx, xs, rfl, hq, uq, hcq, hx, ux, hcx, e1, x0, x1, lq, lx, hb⟩
  replace V0 := Va.after hb V0
  replace V1 := Va.after hb V1
  replace h0 := Sl.after hb h0
  replace h1 := Sl.after hb h1
  replace hg := Sl.after hb hg
  replace B0 := step B0 hb
  clear hb
  have EQ : Hid (num qs * num zg = num z0) := div_exact e1 x0 x1 HG.out.2.1
  clear e1 x0 x1 lx ux hcx hx
  have c_V1 := V1.d0
  have f0_V1 := V1.frozen 0
  have d_V1 := V1.d1
  have f1_V1 := V1.frozen 1
  have e_V1 := V1.d2
  have f2_V1 := V1.frozen 2
  have l_V1 := V1.lt
  have m_V1 := Nat.le_of_lt l_V1
  go_wp2_with fail
  clear c_V1 f0_V1 d_V1 f1_V1 e_V1 f2_V1 l_V1 m_V1
  refine (rdivmod_n a1 ag l1 k1 mg cg z1 zg x3 h1 hg c1 (by omega) (by omega) HG.out.1).mono ?_
  rintro e x4 ⟨ar, mr, cr, rs, ax, mx, cx, xs, rfl, hr, ur, hcr, hx, ux, hcx, e1, x0, x1, lr, lx, hb⟩
  replace V0 := Va.after hb V0
  replace V1 := Va.after hb V1
  replace h0 := Sl.after hb h0
  replace h1 := Sl.after hb h1
  replace hg := Sl.after hb hg
  replace hq := Sl.after hb hq
  replace B0 := step B0 hb
  clear hb
  have ER : Hid (num rs * num zg = num z1) := div_exact e1 x0 x1 HG.out.2.2
  clear e1 x0 x1 lx ux hcx hx
  have HP := make_parts (n := n) p0 (by omega) HE.out (num_nonneg hq.2.1) (num_nonneg hr.2.1) EQ.out ER.out
  have HPP : Hid (iv (n && decide (num qs ≠ 0)) qs = (Rat.divInt (iv n z0) (num z1)).num ∧ num rs = (Rat.divInt (iv n z0) (num z1)).den) := HP
  have hqz : num qs = 0 ↔ mq = 0 := by rw [num_eq_zero hq.2.1, uq]
  clear HP HE EQ ER HG
  have szz := B0.size
  cases n
  ·
    have c_V0 := V0.d0
    have f0_V0 := V0.frozen 0
    have d_V0 := V0.d1
    have f1_V0 := V0.frozen 1
    have e_V0 := V0.d2
    have f2_V0 := V0.frozen 2
    have l_V0 := V0.lt
    have m_V0 := Nat.le_of_lt l_V0
    have c_V1 := V1.d0
    have f0_V1 := V1.frozen 0
    have d_V1 := V1.d1
    have f1_V1 := V1.frozen 1
    have e_V1 := V1.d2
    have f2_V1 := V1.frozen 2
    have l_V1 := V1.lt
    have m_V1 := Nat.le_of_lt l_V1
    go_wp2_with fail
    refine bodyPost_ret (results_ra rfl rfl (V0.set3 _ _ _)) rfl ?_
    refine ⟨false, aq, mq, cq, qs, ar, mr, cr, rs, rfl, ?_, lq, lr, belo3 B0 (Nat.le_succ _) _ _ _⟩
    refine Rr.far (V := V0) (hn := noInt3 _ _ _ _ _ _ _) (k := fa3 _ _ _ _ _) ⟨hq, hr, uq, ur, ⟨hcq, hcr⟩, ?_, HPP.out.2, ?_⟩
    · exact HPP.out.1
    · intro h; cases h
  ·
    by_cases hm : mq = 0
    ·
      have hd : decide (num qs ≠ 0) = false := by simp; exact hqz.2 hm
      rw [hd] at HPP
      subst hm
      have c_V0 := V0.d0
      have f0_V0 := V0.frozen 0
      have d_V0 := V0.d1
      have f1_V0 := V0.frozen 1
      have e_V0 := V0.d2
      have f2_V0 := V0.frozen 2
      have l_V0 := V0.lt
      have m_V0 := Nat.le_of_lt l_V0
      have c_V1 := V1.d0
      have f0_V1 := V1.frozen 0
      have d_V1 := V1.d1
      have f1_V1 := V1.frozen 1
      have e_V1 := V1.d2
      have f2_V1 := V1.frozen 2
      have l_V1 := V1.lt
      have m_V1 := Nat.le_of_lt l_V1
      go_wp2_with fail
      refine bodyPost_ret (results_ra rfl rfl (V0.set3 _ _ _)) rfl ?_
      refine ⟨false, aq, 0, cq, qs, ar, mr, cr, rs, rfl, ?_, lq, lr, belo3 B0 (Nat.le_succ _) _ _ _⟩
      refine Rr.far (V := V0) (hn := noInt3 _ _ _ _ _ _ _) (k := fa3 _ _ _ _ _) ⟨hq, hr, uq, ur, ⟨hcq, hcr⟩, ?_, HPP.out.2, ?_⟩
      · exact HPP.out.1
      · intro h; cases h
    ·
      have hd : decide (num qs ≠ 0) = true := by simp; exact fun h => hm (hqz.1 h)
      rw [hd] at HPP
      have hm2 : 0 < mq := Nat.pos_of_ne_zero hm
      have c_V0 := V0.d0
      have f0_V0 := V0.frozen 0
      have d_V0 := V0.d1
      have f1_V0 := V0.frozen 1
      have e_V0 := V0.d2
      have f2_V0 := V0.frozen 2
      have l_V0 := V0.lt
      have m_V0 := Nat.le_of_lt l_V0
      have c_V1 := V1.d0
      have f0_V1 := V1.frozen 0
      have d_V1 := V1.d1
      have f1_V1 := V1.frozen 1
      have e_V1 := V1.d2
      have f2_V1 := V1.frozen 2
      have l_V1 := V1.lt
      have m_V1 := Nat.le_of_lt l_V1
      go_wp2_with fail
      refine bodyPost_ret (results_ra rfl rfl (V0.set3 _ _ _)) rfl ?_
      refine ⟨true, aq, mq, cq, qs, ar, mr, cr, rs, rfl, ?_, lq, lr, belo3 B0 (Nat.le_succ _) _ _ _⟩
      refine Rr.far (V := V0) (hn := noInt3 _ _ _ _ _ _ _) (k := fa3 _ _ _ _ _) ⟨hq, hr, uq, ur, ⟨hcq, hcr⟩, ?_, HPP.out.2, ?_⟩
      · exact HPP.out.1
      · intro _; exact of_decide_eq_true hd
theorem worth_val {U : Int} {P : Nat} {neg : Bool} {z1 z2 : List Int} (hng : decide (U < 0) = neg) (h1 : num z1 = (U.natAbs : Int)) (h2 : num z2 = 10 ^ P) : Rat.divInt (iv neg z1) (num z2) = Rat.divInt U (10 ^ P) := by
  have e : iv neg z1 = U := by
    subst hng
    unfold iv
    by_cases h : U < 0 <;> simp [h, h1] <;> omega
  rw [e, h2]
set_option maxHeartbeats 4000000 in
set_option maxRecDepth 8000 in
theorem rworth6 (U : Int) (P : Nat) (hP : P ≤ 9) (h1 : -9223372036854775808 ≤ U) (h2 : U ≤ 9223372036854775807) (w : World) :
    Calls Tryz.prog 52 #[.agg #[.int .i64 U, .int .i64 P]] w fun e w' => ∃ s' a' l' c' zs' b' m' d' ys', e = .returned (.agg #[.bool s', .slice a' l' c', .slice b' m' d']) ∧ Rr w' s' a' l' c' zs' b' m' d' ys' (Rat.divInt U (10 ^ P)) ∧ Below w.heap.size w w' := by
  have HB : Hid (-9223372036854775808 ≤ U ∧ U ≤ 9223372036854775807) := ⟨h1, h2⟩
  obtain ⟨neg, hng⟩ : ∃ neg, decide (U < 0) = neg := ⟨_, rfl⟩
  have HN : Hid (decide (U < 0) = neg) := hng
  have hne : (10 : Int) ^ P ≠ 0 := by have : (0 : Int) < 10 ^ P := Int.pow_pos (by omega); omega
  have HNE : Hid ((10 : Int) ^ P ≠ 0) := hne
  clear h1 h2 hne
  have B0 : Below w.heap.size w w := Below.refl _ _
  go_enter Tryz.func52, Tryz.ntmps52
  go_wp2_with fail
  refine ent2 w _ _ _ _ (Q := fun W => Code.wp Tryz.prog _ _ _ W) ?_
  intro x1 hb hs_x1 V1 V0
  replace B0 := step B0 hb
  clear hb hs_x1
  refine wp_region_noPanic ?_
  replace V0 : Va x1.drew _ _ _ := V0
  replace V1 : Va x1.drew _ _ _ := V1
  replace B0 := Below.drew B0
  refine wp_region_held_drew (S := (fun W => W.cell? ⟨w.heap.size, 0, none⟩ = some (.int .i64 U) ∧ W.cell? ⟨w.heap.size, 1, none⟩ = some (.int .i64 P))) (by kernel_rfl) ⟨V1.c0, V1.c1⟩ (fun hHeld => ?_)
  obtain ⟨x2, hxd⟩ : ∃ xd, xd = x1.drew := ⟨_, rfl⟩
  rw [← hxd] at V0 V1 B0 hHeld ⊢
  clear hxd
  refine wpAnyH_take (i := 0) (v := ?_) rfl (by kernel_rfl) (by kernel_rfl) (by kernel_rfl) (fun _ _ _ h => h) (Or.inl ⟨by rfl, ?_⟩) hHeld ?_
  rotate_left
  · (intro W hSw; (try dsimp only at hSw); go_simp; all_goals (with_reducible rfl))
  simp only [List.getElem_toArray, List.getElem_cons_zero, Act.put, List.setIfInBounds_toArray, List.set_cons_zero, List.set_cons_succ]
  refine wpAnyH_take (i := 1) (v := ?_) rfl (by kernel_rfl) (by kernel_rfl) (by kernel_rfl) (fun _ _ _ h => h) (Or.inl ⟨by rfl, ?_⟩) hHeld ?_
  rotate_left
  · (intro W hSw; (try dsimp only at hSw); go_simp; all_goals (with_reducible rfl))
  simp only [List.getElem_toArray, List.getElem_cons_zero, List.getElem_cons_succ, Act.put, List.setIfInBounds_toArray, List.set_cons_zero, List.set_cons_succ]
  refine wpAnyH_take (i := 2) (v := ?_) rfl (by kernel_rfl) (by kernel_rfl) (by kernel_rfl) (fun _ _ _ h => h) (Or.inl ⟨by rfl, ?_⟩) hHeld ?_
  rotate_left
  · (intro W hSw; (try dsimp only at hSw); go_simp; all_goals (with_reducible rfl))
  simp only [List.getElem_toArray, List.getElem_cons_zero, List.getElem_cons_succ, Act.put, List.setIfInBounds_toArray, List.set_cons_zero, List.set_cons_succ]
  refine wpAnyH_take (i := 3) (v := ?_) rfl (by kernel_rfl) (by kernel_rfl) (by kernel_rfl) (fun _ _ _ h => h) (Or.inl ⟨by rfl, ?_⟩) hHeld ?_
  rotate_left
  · (intro W hSw; (try dsimp only at hSw); go_simp; all_goals (with_reducible rfl))
  simp only [List.getElem_toArray, List.getElem_cons_zero, List.getElem_cons_succ, Act.put, List.setIfInBounds_toArray, List.set_cons_zero, List.set_cons_succ]
  refine wpAnyH_take (i := 4) (v := ?_) rfl (by kernel_rfl) (by kernel_rfl) (by kernel_rfl) (fun _ _ _ h => h) (Or.inl ⟨by rfl, ?_⟩) hHeld ?_
  rotate_left
  · (intro W hSw; (try dsimp only at hSw); go_simp; all_goals (with_reducible rfl))
  simp only [List.getElem_toArray, List.getElem_cons_zero, List.getElem_cons_succ, Act.put, List.setIfInBounds_toArray, List.set_cons_zero, List.set_cons_succ]
  refine wpAnyH_take (i := 7) (v := ?_) rfl (by kernel_rfl) (by kernel_rfl) (by kernel_rfl) (fun _ _ _ h => h) (Or.inl ⟨by rfl, ?_⟩) hHeld ?_
  rotate_left
  · (intro W hSw; (try dsimp only at hSw); go_simp; all_goals (with_reducible rfl))
  simp only [List.getElem_toArray, List.getElem_cons_zero, List.getElem_cons_succ, Act.put, List.setIfInBounds_toArray, List.set_cons_zero, List.set_cons_succ]
  refine wpAnyH_take (i := 8) (v := ?_) rfl (by kernel_rfl) (by kernel_rfl) (by kernel_rfl) (fun _ _ _ h => h) (Or.inl ⟨by rfl, ?_⟩) hHeld ?_
  rotate_left
  · (intro W hSw; (try dsimp only at hSw); go_simp; all_goals (with_reducible rfl))
  simp only [List.getElem_toArray, List.getElem_cons_zero, List.getElem_cons_succ, Act.put, List.setIfInBounds_toArray, List.set_cons_zero, List.set_cons_succ]
  refine wpAnyH_ready (rs := [5]) (by kernel_rfl) (by simp) ?_
  refine AllReadyH.cons rfl (fun K hK => ?_) AllReadyH.nil
  simp only [List.getElem_toArray, List.getElem_cons_zero, List.getElem_cons_succ]
  go_simp
  refine (rsize6 U HB.out.1 HB.out.2 _).mono ?_
  rintro e xw ⟨rfl, hw⟩
  rw [hw]
  clear hw
  try go_wp2_with fail
  refine hK.out _ _ ⟨V1.c0, V1.c1⟩ (fun hHeld => ?_)
  clear hK K
  refine wpAnyH_ready (rs := [6]) (by kernel_rfl) (by simp) ?_
  refine AllReadyH.cons rfl (fun K hK => ?_) AllReadyH.nil
  simp only [List.getElem_toArray, List.getElem_cons_zero, List.getElem_cons_succ]
  go_simp
  refine (rsmall_any (U.natAbs : Int) ⟨by omega, by have h5 := HB.out; omega⟩ _).mono ?_
  rintro e x3 ⟨a1, m1, c1, z1, rfl, hc1, hm1, h1, hu1, hn1, hb⟩
  replace V0 := Va.after hb V0
  replace V1 := Va.after hb V1
  replace B0 := step B0 hb
  clear hb
  try go_wp2_with fail
  refine hK.out _ _ ⟨V1.c0, V1.c1⟩ (fun hHeld => ?_)
  clear hK K
  refine wpAnyH_ready (rs := [9]) (by kernel_rfl) (by simp) ?_
  refine AllReadyH.cons rfl (fun K hK => ?_) AllReadyH.nil
  simp only [List.getElem_toArray, List.getElem_cons_zero, List.getElem_cons_succ]
  go_simp
  refine (rten6 P hP _).mono ?_
  rintro e x4 ⟨a2, m2, c2, z2, rfl, hc2, hm2, h2, hu2, hn2, hb⟩
  replace V0 := Va.after hb V0
  replace V1 := Va.after hb V1
  replace B0 := step B0 hb
  replace h1 := Sl.after hb h1
  clear hb
  try go_wp2_with fail
  refine hK.out _ _ ⟨V1.c0, V1.c1⟩ (fun hHeld => ?_)
  clear hK K
  refine wpAnyH_take (i := 10) (v := ?_) rfl (by kernel_rfl) (by kernel_rfl) (by kernel_rfl) (fun _ _ _ h => h) (Or.inl ⟨by rfl, ?_⟩) hHeld ?_
  rotate_left
  · (intro W hSw; (try dsimp only at hSw); go_simp; all_goals (with_reducible rfl))
  simp only [List.getElem_toArray, List.getElem_cons_zero, List.getElem_cons_succ, Act.put, List.setIfInBounds_toArray, List.set_cons_zero, List.set_cons_succ]
  refine wpAnyH_ready (rs := [11]) (by kernel_rfl) (by simp) ?_
  refine AllReadyH.cons rfl (fun K hK => ?_) AllReadyH.nil
  simp only [List.getElem_toArray, List.getElem_cons_zero, List.getElem_cons_succ]
  go_simp
  refine (rlow6 neg a1 a2 m1 c1 m2 c2 z1 z2 _ h1 h2 hc1 hc2 (by omega) (by omega) (by omega) (by omega) (by rw [hn2]; exact HNE.out)).mono ?_
  rintro e x5 ⟨s', a', l', c', zs', b', m', d', ys', rfl, hr, -, -, hb⟩
  replace V0 := Va.after hb V0
  replace V1 := Va.after hb V1
  replace B0 := step B0 hb
  clear hb
  rw [worth_val HN.out hn1 hn2] at hr
  clear h1 h2 hn1 hn2 hu1 hu2
  try go_wp2_with fail
  refine hK.out _ _ ⟨V1.c0, V1.c1⟩ (fun hHeld => ?_)
  clear hK K
  have c_V0 := V0.d0
  have f0_V0 := V0.frozen 0
  have d_V0 := V0.d1
  have f1_V0 := V0.frozen 1
  have e_V0 := V0.d2
  have f2_V0 := V0.frozen 2
  have l_V0 := V0.lt
  have m_V0 := Nat.le_of_lt l_V0
  refine wpAnyH_ready (rs := [12]) (by kernel_rfl) (by simp) ?_
  refine AllReadyH.cons rfl (fun K hK => ?_) AllReadyH.nil
  simp only [List.getElem_toArray, List.getElem_cons_zero, List.getElem_cons_succ]
  go_simp
  clear c_V0 f0_V0 d_V0 f1_V0 e_V0 f2_V0 l_V0 m_V0
  refine sto3 V0 (.bool s') (.slice a' l' c') (.slice b' m' d') (Q := fun W => K _ W) ?_
  intro x6 V' oth far
  replace V1 := oth _ _ _ (by omega) V1
  replace hr := hr.far V0 (noInt3 _ _ _ _ _ _ _) far.1
  replace B0 := far.2 _ _ (by omega) B0
  replace V0 := V'
  clear oth far V'
  refine hK.out _ _ ⟨V1.c0, V1.c1⟩ (fun hHeld => ?_)
  clear hK K
  refine wpAnyH_done (by kernel_rfl) ?_ _
  refine NoPanic.normal ?_
  clear hHeld
  go_wp2_with fail
  refine bodyPost_ret (results_ra rfl rfl V0) rfl ?_
  exact ⟨s', a', l', c', zs', b', m', d', ys', rfl, hr, B0⟩
theorem results_rat6 {fn : Func} {i j b : Nat} {x y z : Value} {tmps : Array Value} {w : World} (h : fn.results = #[.cell i 37, .tmp j]) (hi : tmps.getD i undef = .pointer (some ⟨b, 0, none⟩)) (hv : Va w b 37 #[x, y, z]) :
    (results fn tmps).run Tryz.prog w = .ok (.tuple #[.agg #[x, y, z], tmps.getD j undef]) w := by
  have c := hv.d0; have d := hv.d1; have e := hv.d2
  rw [Array.getD_eq_getD_getElem?] at hi
  simp [results, h, hi, c, d, e, go_sem]
set_option maxHeartbeats 4000000 in
theorem rrat6_ok (U : Int) (P : Nat) (h1 : -9223372036854775808 ≤ U) (h2 : U ≤ 9223372036854775807) (hc : Can U P) (w : World) :
    Calls Tryz.prog 15 #[.agg #[.int .i64 U, .int .i64 P]] w fun e w' => ∃ s' a' l' c' zs' b' m' d' ys', e = .returned (.tuple #[.agg #[.bool s', .slice a' l' c', .slice b' m' d'], .int .i64 0]) ∧ Rr w' s' a' l' c' zs' b' m' d' ys' (Rat.divInt U (10 ^ P)) ∧ Below w.heap.size w w' := by
  have hw := rworth6 U P hc.1 h1 h2
  have HC : Hid (CanI U P) := (canI_iff U P).2 hc
  clear h1 h2 hc
  have B0 : Below w.heap.size w w := Below.refl _ _
  go_enter Tryz.func15, Tryz.ntmps15
  go_wp2_with fail
  refine ent2 w _ _ _ _ (Q := fun W => Calls Tryz.prog _ _ W _) ?_
  intro x1 hb hs_x1 V1 V0
  replace B0 := step B0 hb
  clear hb hs_x1
  refine (rcheck6_ok U P HC.out _).mono ?_
  rintro e x2 ⟨rfl, hb⟩
  replace V0 := Va.after hb V0
  replace V1 := Va.after hb V1
  replace B0 := step B0 hb
  clear hb
  have c_V1 := V1.c0
  have f0_V1 := V1.frozen 0
  have d_V1 := V1.c1
  have f1_V1 := V1.frozen 1
  have l_V1 := V1.lt
  have m_V1 := Nat.le_of_lt l_V1
  go_wp2_with fail
  refine (hw _).mono ?_
  rintro e x3 ⟨s', a', l', c', zs', b', m', d', ys', rfl, hr, hb⟩
  replace V0 := Va.after hb V0
  replace B0 := step B0 hb
  clear hb c_V1 f0_V1 d_V1 f1_V1 l_V1 m_V1
  have c_V0 := V0.d0
  have f0_V0 := V0.frozen 0
  have d_V0 := V0.d1
  have f1_V0 := V0.frozen 1
  have e_V0 := V0.d2
  have f2_V0 := V0.frozen 2
  have l_V0 := V0.lt
  have m_V0 := Nat.le_of_lt l_V0
  go_wp2_with fail
  refine bodyPost_ret (results_rat6 rfl rfl (V0.set3 _ _ _)) rfl ?_
  exact ⟨s', a', l', c', zs', b', m', d', ys', rfl, hr.far V0 (noInt3 _ _ _ _ _ _ _) (fa3 _ _ _ _ _), belo3 B0 (Nat.le_succ _) _ _ _⟩
set_option maxHeartbeats 4000000 in
theorem rrat6_no (U P : Int) (hc : ¬ CanI U P) (w : World) :
    Calls Tryz.prog 15 #[.agg #[.int .i64 U, .int .i64 P]] w fun e w' => e = .returned (.tuple #[.agg #[.bool false, .slice none 0 0, .slice none 0 0], .int .i64 60]) ∧ Below w.heap.size w w' := by
  have B0 : Below w.heap.size w w := Below.refl _ _
  go_enter Tryz.func15, Tryz.ntmps15
  go_wp2_with fail
  refine ent2 w _ _ _ _ (Q := fun W => Calls Tryz.prog _ _ W _) ?_
  intro x1 hb hs_x1 V1 V0
  replace B0 := step B0 hb
  clear hb hs_x1
  refine (rcheck6_no U P hc _).mono ?_
  rintro e x2 ⟨rfl, hb⟩
  replace V0 := Va.after hb V0
  replace B0 := step B0 hb
  clear hb
  have c_V0 := V0.d0
  have f0_V0 := V0.frozen 0
  have d_V0 := V0.d1
  have f1_V0 := V0.frozen 1
  have e_V0 := V0.d2
  have f2_V0 := V0.frozen 2
  have l_V0 := V0.lt
  have m_V0 := Nat.le_of_lt l_V0
  go_wp2_with fail
  refine bodyPost_ret (results_rat6 rfl rfl (V0.set3 _ _ _)) rfl ?_
  exact ⟨rfl, belo3 B0 (Nat.le_succ _) _ _ _⟩
end Go.Proofs.YtebbblhafjaaiaaGreatDoor
namespace Go.Proofs.YtebbblhafjaaiaaGreatDoor
open Go.RowKit Go.Shelf
set_option linter.unusedVariables false

theorem aw1 : readL [45, 50, 46, 53, 48] = (-25, 1, 0, 0) := by decide
theorem aw2 : readL [53, 46, 120] = (0, 0, 2, 60) := by decide
theorem aw3 : dtx (-5) 2 = [45, 48, 46, 48, 53] := by
  unfold dtx
  rw [show Int.natAbs (-5) = 5 from rfl, Go.Lib.decDigits_one (by omega)]
  decide
set_option maxHeartbeats 4000000 in
theorem awake6 (w : World) (hT : Pt w) : Calls Tryz.prog 17 #[] w fun e W' => e = .returned (.bool true) ∧ Below w.heap.size w W' := by
  have p1 := parse_dec [45, 50, 46, 53, 48] (by decide)
  rw [aw1] at p1
  have p2 := parse_dec [53, 46, 120] (by decide)
  rw [aw2] at p2
  have HT : Hid (Pt w) := hT
  clear hT
  have B0 : Below w.heap.size w w := Below.refl _ _
  go_enter Tryz.func17, Tryz.ntmps17
  go_wp2_with fail
  refine (p1 _).mono ?_
  rintro e x1 ⟨rfl, hb⟩
  replace B0 := step B0 hb
  clear hb
  go_wp2_with fail
  refine ent1 x1 _ _ (Q := fun W => Calls Tryz.prog _ _ W _) ?_
  intro x2 hb hs_x2 V0
  replace B0 := step B0 hb
  clear hb hs_x2
  have t1 := dtext_ok (-5) 2 (by omega) (by omega) ⟨by omega, fun _ => by decide⟩ x2 (HT.out.to B0)
  rw [aw3] at t1
  refine (t1).mono ?_
  rintro e x3 ⟨rfl, hb⟩
  replace V0 := Va.after hb V0
  replace B0 := step B0 hb
  clear hb
  have c_V0 := V0.c0
  have f0_V0 := V0.frozen 0
  have d_V0 := V0.c1
  have f1_V0 := V0.frozen 1
  have l_V0 := V0.lt
  have m_V0 := Nat.le_of_lt l_V0
  go_wp2_with fail
  refine (p2 _).mono ?_
  rintro e x4 ⟨rfl, hb⟩
  replace V0 := Va.after hb V0
  replace B0 := step B0 hb
  clear hb
  clear c_V0 f0_V0 d_V0 f1_V0 l_V0 m_V0
  have c_V0 := V0.c0
  have f0_V0 := V0.frozen 0
  have d_V0 := V0.c1
  have f1_V0 := V0.frozen 1
  have l_V0 := V0.lt
  have m_V0 := Nat.le_of_lt l_V0
  go_wp2_with fail
  refine ent1 x4 _ _ (Q := fun W => Calls Tryz.prog _ _ W _) ?_
  intro x5 hb hs_x5 V1
  replace V0 := Va.after hb V0
  replace B0 := step B0 hb
  clear hb hs_x5
  refine (check_no 20 1 (fun h => h.2.2 (by omega) rfl) _).mono ?_
  rintro e x6 ⟨rfl, hb⟩
  replace V0 := Va.after hb V0
  replace V1 := Va.after hb V1
  replace B0 := step B0 hb
  clear hb
  clear c_V0 f0_V0 d_V0 f1_V0 l_V0 m_V0
  go_wp2_with fail
  go_ret
  exact ⟨rfl, B0⟩
end Go.Proofs.YtebbblhafjaaiaaGreatDoor
namespace Go.Proofs.YtebbblhafjaaiaaGreatDoor
open Go.RowKit Go.Shelf
set_option linter.unusedVariables false

set_option maxHeartbeats 1000000 in
theorem sameq_any (a b : Option Addr) (la ca cb : Nat) (xs : List Int) (w : World) (ha : Sl w a la xs) (hb : Sl w b la xs) (h1 : la ≤ 40000000000000) :
    Calls Tryz.prog 55 #[.slice a la ca, .slice b la cb] w fun e w' => e = .returned (.bool true) ∧ ∃ n, w' = w.drewN n := by
  have hza := ha.1
  have g1 : ((la : Int) != la) = false := by simp
  by_cases h0 : la = 0
  · subst h0
    clear ha hb
    go_enter Tryz.func55, Tryz.ntmps55
    go_wp2_with fail
    refine wp_loop_rounds 1 ?_
    rw [rounds_succ]
    go_wp2_with fail
    go_ret
    exact ⟨rfl, 0, rfl⟩
  · obtain ⟨ba, oa, rfl, hca⟩ := ha.2.2 (by omega)
    obtain ⟨bb, ob, rfl, hcb⟩ := hb.2.2 (by omega)
    clear ha hb
    go_enter Tryz.func55, Tryz.ntmps55
    go_wp2_with fail
    go_loopw [5] (fun i wr => ∃ k : Nat, k ≤ la ∧ i = .int .i64 k ∧ ∃ q, wr = w.drewN q) (fun i _ => la - (intOf i).toNat)
    case atStart => exact ⟨0, Nat.zero_le _, rfl, 0, rfl⟩
    case round =>
      obtain ⟨k, hk, rfl, q, rfl⟩ := hrel
      by_cases hlt : k < la
      · have hcx := hca k (by omega)
        have hcy := hcb k (by omega)
        obtain ⟨x, hx⟩ : ∃ x, xs.getD k 0 = x := ⟨_, rfl⟩
        rw [hx] at hcx hcy
        clear hx
        have g2 : (x != x) = false := by simp
        go_wp2_with fail
        go_quiet (fail)
        go_wp2_with fail
        go_roundw
        case rel => exact ⟨k + 1, by omega, by go_num, q + nq, rfl⟩
        case measure => simp [intOf]; omega
      · go_wp2_with fail
        go_ret
        exact ⟨rfl, q, rfl⟩


theorem sameq_b (a b : Option Addr) (la ca cb : Nat) (xs : List Int) (w : World) (ha : Sl w a la xs) (hb : Sl w b la xs) (h1 : la ≤ 40000000000000) :
    Calls Tryz.prog 55 #[.slice a la ca, .slice b la cb] w fun e w' => e = .returned (.bool true) ∧ Below w.heap.size w w' := by
  refine (sameq_any a b la ca cb xs w ha hb h1).mono ?_
  rintro e w' ⟨rfl, n, rfl⟩
  exact ⟨rfl, below_drewN (Below.refl _ _) n⟩

set_option maxHeartbeats 4000000 in
theorem rsame5 (s : Bool) (a1 a2 b1 b2 : Option Addr) (l m c1 c2 d1 d2 : Nat) (xs ys : List Int) (w : World) (h1 : Sl w a1 l xs) (h2 : Sl w a2 l xs) (h3 : Sl w b1 m ys) (h4 : Sl w b2 m ys) (hl : l ≤ 40000000000000) (hm : m ≤ 40000000000000) :
    Calls Tryz.prog 19 #[.agg #[.bool s, .slice a1 l c1, .slice b1 m d1], .agg #[.bool s, .slice a2 l c2, .slice b2 m d2]] w fun e w' => e = .returned (.bool true) ∧ Below w.heap.size w w' := by
  have hss : (s == s) = true := by simp
  have B0 : Below w.heap.size w w := Below.refl _ _
  go_enter Tryz.func19, Tryz.ntmps19
  go_wp2_with fail
  refine ent2 w _ _ _ _ (Q := fun W => Calls Tryz.prog _ _ W _) ?_
  intro x1 hb hs_x1 V0 V1
  replace h1 := Sl.after hb h1
  replace h2 := Sl.after hb h2
  replace h3 := Sl.after hb h3
  replace h4 := Sl.after hb h4
  replace B0 := step B0 hb
  clear hb hs_x1
  refine (sameq_b a1 a2 l c1 c2 xs x1 h1 h2 hl).mono ?_
  rintro e x2 ⟨rfl, hb⟩
  replace V0 := Va.after hb V0
  replace V1 := Va.after hb V1
  replace h1 := Sl.after hb h1
  replace h2 := Sl.after hb h2
  replace h3 := Sl.after hb h3
  replace h4 := Sl.after hb h4
  replace B0 := step B0 hb
  clear hb
  have c_V0 := V0.d0
  have f0_V0 := V0.frozen 0
  have d_V0 := V0.d1
  have f1_V0 := V0.frozen 1
  have e_V0 := V0.d2
  have f2_V0 := V0.frozen 2
  have l_V0 := V0.lt
  have m_V0 := Nat.le_of_lt l_V0
  have c_V1 := V1.d0
  have f0_V1 := V1.frozen 0
  have d_V1 := V1.d1
  have f1_V1 := V1.frozen 1
  have e_V1 := V1.d2
  have f2_V1 := V1.frozen 2
  have l_V1 := V1.lt
  have m_V1 := Nat.le_of_lt l_V1
  go_wp2_with fail
  refine (sameq_b b1 b2 m d1 d2 ys x2 h3 h4 hm).mono ?_
  rintro e x3 ⟨rfl, hb⟩
  replace V0 := Va.after hb V0
  replace V1 := Va.after hb V1
  replace h1 := Sl.after hb h1
  replace h2 := Sl.after hb h2
  replace h3 := Sl.after hb h3
  replace h4 := Sl.after hb h4
  replace B0 := step B0 hb
  clear hb
  clear c_V0 f0_V0 d_V0 f1_V0 e_V0 f2_V0 l_V0 m_V0 c_V1 f0_V1 d_V1 f1_V1 e_V1 f2_V1 l_V1 m_V1
  have c_V0 := V0.d0
  have f0_V0 := V0.frozen 0
  have d_V0 := V0.d1
  have f1_V0 := V0.frozen 1
  have e_V0 := V0.d2
  have f2_V0 := V0.frozen 2
  have l_V0 := V0.lt
  have m_V0 := Nat.le_of_lt l_V0
  have c_V1 := V1.d0
  have f0_V1 := V1.frozen 0
  have d_V1 := V1.d1
  have f1_V1 := V1.frozen 1
  have e_V1 := V1.d2
  have f2_V1 := V1.frozen 2
  have l_V1 := V1.lt
  have m_V1 := Nat.le_of_lt l_V1
  go_wp2_with fail
  go_ret
  exact ⟨rfl, B0⟩
theorem trim_one {xs ys : List Int} (hx : Limbs xs) (hy : Limbs ys) (ux : usedN xs = xs.length) (uy : usedN ys = ys.length) (e : num xs = num ys) : xs = ys := by
  obtain ⟨e1, e2⟩ := one_list hx hy rfl ux e
  rw [uy, List.take_of_length_le (Nat.le_refl _)] at e2
  exact e2
/-- What Plain tells of a number is the document's ratio of it. -/
theorem rt_rr {w w' : World} {s : Bool} {a : Option Addr} {l c : Nat} {zs : List Int} {b : Option Addr} {m d : Nat} {ds : List Int} {v : Rat} {s2 : Bool} {a2 : Option Addr} {l2 c2 : Nat} {xs : List Int} {b2 : Option Addr} {m2 d2 : Nat} {es : List Int}
    (h : Rt w s a l c zs b m d ds v) (g : Rr w' s2 a2 l2 c2 xs b2 m2 d2 es v) {ys : List Int} (hy : Limbs ys ∧ usedN ys = ys.length ∧ num ys = v.den) : s2 = s ∧ l2 = l ∧ xs = zs ∧ m2 = ys.length ∧ es = ys := by
  have e1 : s = decide (v.num < 0) := by rw [← h.2.2.1]; exact h.1.sign
  have g0 : 0 ≤ num xs := num_nonneg g.1.2.1
  have e2 : s2 = decide (v.num < 0) := by
    rw [← g.2.2.2.2.2.1]
    cases s2
    · rw [iv_f]; symm; simp; omega
    · have := g.2.2.2.2.2.2.2 rfl; rw [iv_t]; symm; simp; omega
  have es' : s2 = s := by rw [e1, e2]
  subst es'
  have en : num xs = num zs := by
    have q1 := h.2.2.1
    have q2 := g.2.2.2.2.2.1
    cases s2 <;> simp only [iv_t, iv_f] at q1 q2 <;> omega
  have z1 := h.1.1.1.1
  have z2 := g.1.1
  have z3 := g.2.1.1
  have x1 := trim_one g.1.2.1 h.1.1.limbs (by rw [g.2.2.1, z2]) (by rw [h.1.1.2.1, z1]) en
  have x2 := trim_one g.2.1.2.1 hy.1 (by rw [g.2.2.2.1, z3]) hy.2.1 (by rw [g.2.2.2.2.2.2.1, hy.2.2])
  exact ⟨rfl, by rw [← z2, ← z1, x1], x1, by rw [← z3, x2], x2⟩
theorem Ow.sl {w : World} {g : Nat} {cs : List Int} (h : Ow w g cs) (hL : Limbs cs) {n : Nat} (hn : cs.length = n) : Sl w (some ⟨g, 0, none⟩) n cs := by subst hn; exact Own.sl h hL
theorem len_4096 {zs : List Int} {w : World} {a : Option Addr} {l c : Nat} (h : Nt w a l c zs) : l ≤ 4096 := h.2.2.2
theorem den_4096 {ys : List Int} {v : Rat} (hv : Short v) (hy : Limbs ys ∧ usedN ys = ys.length ∧ num ys = v.den) : ys.length ≤ 1024 := by
  have := used_of_lt hy.1 (n := 1024) (by rw [hy.2.2]; exact hv.2)
  omega
end Go.Proofs.YtebbblhafjaaiaaGreatDoor
namespace Go.Proofs.YtebbblhafjaaiaaGreatDoor
open Go.RowKit Go.Shelf
set_option linter.unusedVariables false

theorem dtext_no (U P : Int) (h : ¬ CanI U P) (w : World) : Calls Tryz.prog 14 #[.agg #[.int .i64 U, .int .i64 P]] w fun e w' => e = .returned (.tuple #[.string ⟨#[]⟩, .int .i64 60]) ∧ Below w.heap.size w w' := by
  have B0 : Below w.heap.size w w := Below.refl _ _
  go_enter Tryz.func14, Tryz.ntmps14
  go_wp2_with fail
  refine ent1 w _ _ (Q := fun W => Calls Tryz.prog _ _ W _) ?_
  intro x1 hb hs_x1 V0
  replace B0 := step B0 hb
  clear hb hs_x1
  refine (check_no U P h _).mono ?_
  rintro e x2 ⟨rfl, hb⟩
  replace V0 := Va.after hb V0
  replace B0 := step B0 hb
  clear hb
  go_wp2_with fail
  go_ret2
  exact ⟨rfl, B0⟩
/-- A number's plain form, held against the document's. -/
theorem same6 {w0 : World} (s : Bool) (a : Option Addr) (l c : Nat) (zs : List Int) (b : Option Addr) (m d : Nat) (ds : List Int) (v : Rat) (s2 : Bool) (a2 : Option Addr) (l2 c2 : Nat) (xs : List Int) (b2 : Option Addr) (m2 d2 : Nat) (es : List Int) (g h : Nat) (ys : List Int) (w : World) (hr : Rt w0 s a l c zs b m d ds v) (hw : Rr w s2 a2 l2 c2 xs b2 m2 d2 es v) (hg : Ow w g zs) (hh : Ow w h ys) (hy : Limbs ys ∧ usedN ys = ys.length ∧ num ys = v.den) :
    Calls Tryz.prog 19 #[.agg #[.bool s, .slice (some ⟨g, 0, none⟩) l l, .slice (some ⟨h, 0, none⟩) ys.length ys.length], .agg #[.bool s2, .slice a2 l2 c2, .slice b2 m2 d2]] w fun e w' => e = .returned (.bool true) ∧ Below w.heap.size w w' := by
  have hl := len_4096 hr.1.1
  have hzl : zs.length = l := hr.1.1.1.1
  have hm := den_4096 hr.2.2.2.2 hy
  obtain ⟨rfl, rfl, rfl, rfl, rfl⟩ := rt_rr hr hw hy
  exact rsame5 s2 (some ⟨g, 0, none⟩) a2 (some ⟨h, 0, none⟩) b2 l2 es.length l2 c2 es.length d2 xs es w (hg.sl hr.1.1.limbs hzl) hw.1 (hh.sl hy.1 rfl) hw.2.1 (by omega) (by omega)
/-- What both Makes answer. -/
theorem makes_both (V : Int) (Q : Int) (h1 : -9223372036854775808 ≤ V) (h2 : V ≤ 9223372036854775807) : ∃ M1 M2 E : Int,
    (∀ w, Calls Tryz.prog 9 #[.int .i64 V, .int .i64 Q] w fun e w' => e = .returned (.tuple #[.agg #[.int .i64 M1, .int .i64 M2], .int .i64 E]) ∧ Below w.heap.size w w') ∧
    (∀ w, Calls Tryz.prog 10 #[.int .i64 V, .int .i64 Q] w fun e w' => e = .returned (.tuple #[.agg #[.int .i64 M1, .int .i64 M2], .int .i64 E]) ∧ Below w.heap.size w w') := by
  by_cases hq : 0 ≤ Q ∧ Q ≤ 9
  · obtain ⟨q, rfl⟩ := Int.eq_ofNat_of_zero_le hq.1
    exact ⟨_, _, _, fun w => rmake6_ok V q (by omega) h1 h2 w, fun w => make_ok V q (by omega) h1 h2 w⟩
  · exact ⟨_, _, _, fun w => rmake6_no V Q hq w, fun w => make_no V Q hq w⟩
/-- What both Checks and both Texts answer. -/
theorem texts_both (U P : Int) (h1 : -9223372036854775808 ≤ U) (h2 : U ≤ 9223372036854775807) : ∃ (C : Int) (T : List UInt8),
    (∀ w, Calls Tryz.prog 12 #[.agg #[.int .i64 U, .int .i64 P]] w fun e w' => e = .returned (.int .i64 C) ∧ Below w.heap.size w w') ∧
    (∀ w, Calls Tryz.prog 11 #[.agg #[.int .i64 U, .int .i64 P]] w fun e w' => e = .returned (.int .i64 C) ∧ Below w.heap.size w w') ∧
    (∀ w, Calls Tryz.prog 13 #[.agg #[.int .i64 U, .int .i64 P]] w fun e w' => e = .returned (.tuple #[.string ⟨T.toArray⟩, .int .i64 C]) ∧ Below w.heap.size w w') ∧
    (∀ w, Pt w → Calls Tryz.prog 14 #[.agg #[.int .i64 U, .int .i64 P]] w fun e w' => e = .returned (.tuple #[.string ⟨T.toArray⟩, .int .i64 C]) ∧ Below w.heap.size w w') ∧
    (C = 0 ∧ CanI U P ∨ C = 60 ∧ ¬ CanI U P) := by
  by_cases hc : CanI U P
  · obtain ⟨p, rfl⟩ := Int.eq_ofNat_of_zero_le hc.1
    have c1 := (canI_iff U p).1 hc
    exact ⟨0, dtx U p, fun w => rcheck6_ok U p hc w, fun w => check_ok U p hc w, fun w => rtext6_ok U p h1 h2 c1 w, fun w hP => dtext_ok U p h1 h2 c1 w hP, .inl ⟨rfl, hc⟩⟩
  · exact ⟨60, [], fun w => rcheck6_no U P hc w, fun w => check_no U P hc w, fun w => rtext6_no U P hc w, fun w _ => dtext_no U P hc w, .inr ⟨rfl, hc⟩⟩
set_option maxHeartbeats 4000000 in
set_option maxRecDepth 8000 in
theorem dmakes_walk (U P V Q : Int) (w : World) (h1 : -9223372036854775808 ≤ U) (h2 : U ≤ 9223372036854775807) (g1 : -9223372036854775808 ≤ V) (g2 : V ≤ 9223372036854775807) (hP : Pt w) (hT : Tn w) :
    Calls Tryz.prog 3 #[.agg #[.int .i64 U, .int .i64 P], .int .i64 V, .int .i64 Q] w fun e w' => e = .returned (.bool true) ∧ Below w.heap.size w w' := by
  have HP : Hid (Pt w) := hP
  have HT : Hid (Tn w) := hT
  have HB : Hid (-9223372036854775808 ≤ U ∧ U ≤ 9223372036854775807) := ⟨h1, h2⟩
  obtain ⟨M1, M2, E, mk1, mk2⟩ := makes_both V Q g1 g2
  obtain ⟨C, T, ck1, ck2, tx1, tx2, hC⟩ := texts_both U P h1 h2
  have HC : Hid (C = 0 ∧ CanI U P ∨ C = 60 ∧ ¬ CanI U P) := hC
  clear hP hT h1 h2 g1 g2 hC
  have b1 : (M1 == M1) = true := beq_self_eq_true _
  have b2 : (M2 == M2) = true := beq_self_eq_true _
  have b3 : (E == E) = true := beq_self_eq_true _
  have b4 : (C == C) = true := beq_self_eq_true _
  have B0 : Below w.heap.size w w := Below.refl _ _
  go_enter Tryz.func3, Tryz.ntmps3
  go_wp2_with fail
  refine ent1 w _ _ (Q := fun W => Calls Tryz.prog _ _ W _) ?_
  intro x1 hb hs_x1 V0
  replace B0 := step B0 hb
  clear hb hs_x1
  refine (mk1 _).mono ?_
  rintro e x2 ⟨rfl, hb⟩
  replace V0 := Va.after hb V0
  replace B0 := step B0 hb
  clear hb mk1
  go_wp2_with fail
  refine ent1 x2 _ _ (Q := fun W => Calls Tryz.prog _ _ W _) ?_
  intro x3 hb hs_x3 V1
  replace V0 := Va.after hb V0
  replace B0 := step B0 hb
  clear hb hs_x3
  refine (mk2 _).mono ?_
  rintro e x4 ⟨rfl, hb⟩
  replace V0 := Va.after hb V0
  replace V1 := Va.after hb V1
  replace B0 := step B0 hb
  clear hb mk2
  have c_V0 := V0.c0
  have f0_V0 := V0.frozen 0
  have d_V0 := V0.c1
  have f1_V0 := V0.frozen 1
  have l_V0 := V0.lt
  have m_V0 := Nat.le_of_lt l_V0
  have c_V1 := V1.c0
  have f0_V1 := V1.frozen 0
  have d_V1 := V1.c1
  have f1_V1 := V1.frozen 1
  have l_V1 := V1.lt
  have m_V1 := Nat.le_of_lt l_V1
  go_wp2_with fail
  clear c_V0 f0_V0 d_V0 f1_V0 l_V0 m_V0
  clear c_V1 f0_V1 d_V1 f1_V1 l_V1 m_V1
  refine ent1 x4 _ _ (Q := fun W => Code.wp Tryz.prog _ _ _ W) ?_
  intro x5 hb hs_x5 V2
  replace V0 := Va.after hb V0
  replace V1 := Va.after hb V1
  replace B0 := step B0 hb
  clear hb hs_x5
  refine wp_region_noPanic ?_
  replace V0 : Va x5.drew _ _ _ := V0
  replace V1 : Va x5.drew _ _ _ := V1
  replace V2 : Va x5.drew _ _ _ := V2
  replace B0 := Below.drew B0
  refine wp_region_held_drew (S := (fun W => (W.cell? ⟨w.heap.size, 0, none⟩ = some (.int .i64 U) ∧ W.cell? ⟨w.heap.size, 1, none⟩ = some (.int .i64 P)) ∧ (W.cell? ⟨x2.heap.size, 0, none⟩ = some (.int .i64 M1) ∧ W.cell? ⟨x2.heap.size, 1, none⟩ = some (.int .i64 M2)) ∧ (W.cell? ⟨x4.heap.size, 0, none⟩ = some (.int .i64 M1) ∧ W.cell? ⟨x4.heap.size, 1, none⟩ = some (.int .i64 M2)))) (by kernel_rfl) ⟨⟨V0.c0, V0.c1⟩, ⟨V1.c0, V1.c1⟩, ⟨V2.c0, V2.c1⟩⟩ (fun hHeld => ?_)
  obtain ⟨x6, hxd⟩ : ∃ xd, xd = x5.drew := ⟨_, rfl⟩
  rw [← hxd] at V0 V1 V2 B0 hHeld ⊢
  clear hxd
  refine wpAnyH_take (i := 0) (v := ?_) rfl (by kernel_rfl) (by kernel_rfl) (by kernel_rfl) (fun _ _ _ h => h) (Or.inl ⟨by rfl, ?_⟩) hHeld ?_
  rotate_left
  · (intro W hSw; (try dsimp only at hSw); go_simp; all_goals (with_reducible rfl))
  simp only [List.getElem_toArray, List.getElem_cons_zero, Act.put, List.setIfInBounds_toArray, List.set_cons_zero, List.set_cons_succ]
  refine wpAnyH_take (i := 1) (v := ?_) rfl (by kernel_rfl) (by kernel_rfl) (by kernel_rfl) (fun _ _ _ h => h) (Or.inl ⟨by rfl, ?_⟩) hHeld ?_
  rotate_left
  · (intro W hSw; (try dsimp only at hSw); go_simp; all_goals (with_reducible rfl))
  simp only [List.getElem_toArray, List.getElem_cons_zero, List.getElem_cons_succ, Act.put, List.setIfInBounds_toArray, List.set_cons_zero, List.set_cons_succ]
  refine wpAnyH_take (i := 2) (v := ?_) rfl (by kernel_rfl) (by kernel_rfl) (by kernel_rfl) (fun _ _ _ h => h) (Or.inl ⟨by rfl, ?_⟩) hHeld ?_
  rotate_left
  · (intro W hSw; (try dsimp only at hSw); go_simp; all_goals (with_reducible rfl))
  simp only [List.getElem_toArray, List.getElem_cons_zero, List.getElem_cons_succ, Act.put, List.setIfInBounds_toArray, List.set_cons_zero, List.set_cons_succ]
  refine wpAnyH_take (i := 3) (v := ?_) rfl (by kernel_rfl) (by kernel_rfl) (by kernel_rfl) (fun _ _ _ h => h) (Or.inl ⟨by rfl, ?_⟩) hHeld ?_
  rotate_left
  · (intro W hSw; (try dsimp only at hSw); go_simp; all_goals (with_reducible rfl))
  simp only [List.getElem_toArray, List.getElem_cons_zero, List.getElem_cons_succ, Act.put, List.setIfInBounds_toArray, List.set_cons_zero, List.set_cons_succ]
  refine wpAnyH_take (i := 4) (v := ?_) rfl (by kernel_rfl) (by kernel_rfl) (by kernel_rfl) (fun _ _ _ h => h) (Or.inl ⟨by rfl, ?_⟩) hHeld ?_
  rotate_left
  · (intro W hSw; (try dsimp only at hSw); go_simp; all_goals (with_reducible rfl))
  simp only [List.getElem_toArray, List.getElem_cons_zero, List.getElem_cons_succ, Act.put, List.setIfInBounds_toArray, List.set_cons_zero, List.set_cons_succ]
  refine wpAnyH_take (i := 5) (v := ?_) rfl (by kernel_rfl) (by kernel_rfl) (by kernel_rfl) (fun _ _ _ h => h) (Or.inl ⟨by rfl, ?_⟩) hHeld ?_
  rotate_left
  · (intro W hSw; (try dsimp only at hSw); go_simp; all_goals (with_reducible rfl))
  simp only [List.getElem_toArray, List.getElem_cons_zero, List.getElem_cons_succ, Act.put, List.setIfInBounds_toArray, List.set_cons_zero, List.set_cons_succ]
  refine wpAnyH_take (i := 6) (v := ?_) rfl (by kernel_rfl) (by kernel_rfl) (by kernel_rfl) (fun _ _ _ h => h) (Or.inl ⟨by rfl, ?_⟩) hHeld ?_
  rotate_left
  · (intro W hSw; (try dsimp only at hSw); go_simp; all_goals (with_reducible rfl))
  simp only [List.getElem_toArray, List.getElem_cons_zero, List.getElem_cons_succ, Act.put, List.setIfInBounds_toArray, List.set_cons_zero, List.set_cons_succ]
  refine wpAnyH_take (i := 7) (v := ?_) rfl (by kernel_rfl) (by kernel_rfl) (by kernel_rfl) (fun _ _ _ h => h) (Or.inl ⟨by rfl, ?_⟩) hHeld ?_
  rotate_left
  · (intro W hSw; (try dsimp only at hSw); go_simp; all_goals (with_reducible rfl))
  simp only [List.getElem_toArray, List.getElem_cons_zero, List.getElem_cons_succ, Act.put, List.setIfInBounds_toArray, List.set_cons_zero, List.set_cons_succ]
  refine wpAnyH_take (i := 8) (v := ?_) rfl (by kernel_rfl) (by kernel_rfl) (by kernel_rfl) (fun _ _ _ h => h) (Or.inl ⟨by rfl, ?_⟩) hHeld ?_
  rotate_left
  · (intro W hSw; (try dsimp only at hSw); go_simp; all_goals (with_reducible rfl))
  simp only [List.getElem_toArray, List.getElem_cons_zero, List.getElem_cons_succ, Act.put, List.setIfInBounds_toArray, List.set_cons_zero, List.set_cons_succ]
  refine wpAnyH_take (i := 9) (v := ?_) rfl (by kernel_rfl) (by kernel_rfl) (by kernel_rfl) (fun _ _ _ h => h) (Or.inl ⟨by rfl, ?_⟩) hHeld ?_
  rotate_left
  · (intro W hSw; (try dsimp only at hSw); go_simp; all_goals (with_reducible rfl))
  simp only [List.getElem_toArray, List.getElem_cons_zero, List.getElem_cons_succ, Act.put, List.setIfInBounds_toArray, List.set_cons_zero, List.set_cons_succ]
  refine wpAnyH_take (i := 11) (v := ?_) rfl (by kernel_rfl) (by kernel_rfl) (by kernel_rfl) (fun _ _ _ h => h) (Or.inl ⟨by rfl, ?_⟩) hHeld ?_
  rotate_left
  · (intro W hSw; (try dsimp only at hSw); go_simp; all_goals (with_reducible rfl))
  simp only [List.getElem_toArray, List.getElem_cons_zero, List.getElem_cons_succ, Act.put, List.setIfInBounds_toArray, List.set_cons_zero, List.set_cons_succ]
  refine wpAnyH_ready (rs := [10]) (by kernel_rfl) (by simp) ?_
  refine AllReadyH.cons rfl (fun K hK => ?_) AllReadyH.nil
  simp only [List.getElem_toArray, List.getElem_cons_zero, List.getElem_cons_succ]
  go_simp
  refine (ck2 _).mono ?_
  rintro e x7 ⟨rfl, hb⟩
  replace V0 := Va.after hb V0
  replace V1 := Va.after hb V1
  replace V2 := Va.after hb V2
  replace B0 := step B0 hb
  clear hb
  try go_wp2_with fail
  refine hK.out _ _ ⟨⟨V0.c0, V0.c1⟩, ⟨V1.c0, V1.c1⟩, ⟨V2.c0, V2.c1⟩⟩ (fun hHeld => ?_)
  clear hK K
  refine wpAnyH_ready (rs := [12]) (by kernel_rfl) (by simp) ?_
  refine AllReadyH.cons rfl (fun K hK => ?_) AllReadyH.nil
  simp only [List.getElem_toArray, List.getElem_cons_zero, List.getElem_cons_succ]
  go_simp
  refine (ck1 _).mono ?_
  rintro e x8 ⟨rfl, hb⟩
  replace V0 := Va.after hb V0
  replace V1 := Va.after hb V1
  replace V2 := Va.after hb V2
  replace B0 := step B0 hb
  clear hb
  try go_wp2_with fail
  refine hK.out _ _ ⟨⟨V0.c0, V0.c1⟩, ⟨V1.c0, V1.c1⟩, ⟨V2.c0, V2.c1⟩⟩ (fun hHeld => ?_)
  clear hK K
  refine wpAnyH_take (i := 13) (v := ?_) rfl (by kernel_rfl) (by kernel_rfl) (by kernel_rfl) (fun _ _ _ h => h) (Or.inl ⟨by rfl, ?_⟩) hHeld ?_
  rotate_left
  · (intro W hSw; (try dsimp only at hSw); go_simp; all_goals (with_reducible rfl))
  simp only [List.getElem_toArray, List.getElem_cons_zero, List.getElem_cons_succ, Act.put, List.setIfInBounds_toArray, List.set_cons_zero, List.set_cons_succ]
  refine wpAnyH_take (i := 14) (v := ?_) rfl (by kernel_rfl) (by kernel_rfl) (by kernel_rfl) (fun _ _ _ h => h) (Or.inl ⟨by rfl, ?_⟩) hHeld ?_
  rotate_left
  · (intro W hSw; (try dsimp only at hSw); go_simp; all_goals (with_reducible rfl))
  simp only [List.getElem_toArray, List.getElem_cons_zero, List.getElem_cons_succ, Act.put, List.setIfInBounds_toArray, List.set_cons_zero, List.set_cons_succ]
  refine wpAnyH_done (by kernel_rfl) ?_ _
  refine NoPanic.normal ?_
  clear hHeld
  clear V1 V2 ck1 ck2
  have c_V0 := V0.c0
  have f0_V0 := V0.frozen 0
  have d_V0 := V0.c1
  have f1_V0 := V0.frozen 1
  have l_V0 := V0.lt
  have m_V0 := Nat.le_of_lt l_V0
  go_wp2_with fail
  refine (tx1 _).mono ?_
  rintro e x9 ⟨rfl, hb⟩
  replace V0 := Va.after hb V0
  replace B0 := step B0 hb
  clear hb tx1
  clear c_V0 f0_V0 d_V0 f1_V0 l_V0 m_V0
  have c_V0 := V0.c0
  have f0_V0 := V0.frozen 0
  have d_V0 := V0.c1
  have f1_V0 := V0.frozen 1
  have l_V0 := V0.lt
  have m_V0 := Nat.le_of_lt l_V0
  go_wp2_with fail
  refine (tx2 _ (HP.out.to B0)).mono ?_
  rintro e x10 ⟨rfl, hb⟩
  replace V0 := Va.after hb V0
  replace B0 := step B0 hb
  clear hb tx2
  clear c_V0 f0_V0 d_V0 f1_V0 l_V0 m_V0
  have bT2 : (T == T) = true := beq_self_eq_true _
  have c_V0 := V0.c0
  have f0_V0 := V0.frozen 0
  have d_V0 := V0.c1
  have f1_V0 := V0.frozen 1
  have l_V0 := V0.lt
  have m_V0 := Nat.le_of_lt l_V0
  rcases HC.out with ⟨hC, hcan⟩ | ⟨hC, hcan⟩
  · subst hC
    obtain ⟨p, rfl⟩ := Int.eq_ofNat_of_zero_le hcan.1
    have hc1 := (canI_iff U p).1 hcan
    have HCC : Hid (Can U p) := hc1
    clear hcan hc1 HC
    go_wp2_with fail
    refine (rrat6_ok U p HB.out.1 HB.out.2 HCC.out _).mono ?_
    rintro e x11 ⟨s', a', l', c', zs', b', m', d', ys', rfl, hr, hb⟩
    replace V0 := Va.after hb V0
    replace B0 := step B0 hb
    clear hb
    clear c_V0 f0_V0 d_V0 f1_V0 l_V0 m_V0
    have c_V0 := V0.c0
    have f0_V0 := V0.frozen 0
    have d_V0 := V0.c1
    have f1_V0 := V0.frozen 1
    have l_V0 := V0.lt
    have m_V0 := Nat.le_of_lt l_V0
    go_wp2_with fail
    refine ent1 x11 _ _ (Q := fun W => Calls Tryz.prog _ _ W _) ?_
    intro x12 hb hs_x12 V1
    replace V0 := Va.after hb V0
    replace hr := Rr.after hb hr
    replace B0 := step B0 hb
    clear hb hs_x12
    refine (rat_ok U p HB.out.1 HB.out.2 HCC.out _ (HT.out.to B0)).mono ?_
    rintro e x13 ⟨s, a, l, c, zs, b, m, d, ds, rfl, hq, hb⟩
    replace V1 := Va.after hb V1
    replace hr := Rr.after hb hr
    replace B0 := step B0 hb
    clear hb V0
    clear c_V0 f0_V0 d_V0 f1_V0 l_V0 m_V0
    go_wp2_with fail
    refine ent1 x13 _ _ (Q := fun W => Calls Tryz.prog _ _ W _) ?_
    intro x14 hb hs_x14 V2
    replace V1 := Va.after hb V1
    replace hr := Rr.after hb hr
    replace hq := Rt.after hb hq
    replace B0 := step B0 hb
    clear hb hs_x14
    refine (awake6 _ (HP.out.to B0)).mono ?_
    rintro e x15 ⟨rfl, hb⟩
    replace V1 := Va.after hb V1
    replace V2 := Va.after hb V2
    replace hr := Rr.after hb hr
    replace hq := Rt.after hb hq
    replace B0 := step B0 hb
    clear hb
    have c_V1 := V1.d0
    have f0_V1 := V1.frozen 0
    have d_V1 := V1.d1
    have f1_V1 := V1.frozen 1
    have e_V1 := V1.d2
    have f2_V1 := V1.frozen 2
    have l_V1 := V1.lt
    have m_V1 := Nat.le_of_lt l_V1
    have c_V2 := V2.d0
    have f0_V2 := V2.frozen 0
    have d_V2 := V2.d1
    have f1_V2 := V2.frozen 1
    have e_V2 := V2.d2
    have f2_V2 := V2.frozen 2
    have l_V2 := V2.lt
    have m_V2 := Nat.le_of_lt l_V2
    go_wp2_with fail
    clear c_V1 f0_V1 d_V1 f1_V1 e_V1 f2_V1 l_V1 m_V1
    clear c_V2 f0_V2 d_V2 f1_V2 e_V2 f2_V2 l_V2 m_V2
    refine wp_region_noPanic ?_
    replace V1 : Va x15.drew _ _ _ := V1
    replace V2 : Va x15.drew _ _ _ := V2
    replace B0 := Below.drew B0
    refine wp_region_held_drew (S := (fun W => (W.cell? ⟨x11.heap.size, 0, none⟩ = some (.bool s') ∧ W.cell? ⟨x11.heap.size, 1, none⟩ = some (.slice a' l' c') ∧ W.cell? ⟨x11.heap.size, 2, none⟩ = some (.slice b' m' d')) ∧ (W.cell? ⟨x13.heap.size, 0, none⟩ = some (.bool s) ∧ W.cell? ⟨x13.heap.size, 1, none⟩ = some (.slice a l c) ∧ W.cell? ⟨x13.heap.size, 2, none⟩ = some (.slice b m d)))) (by kernel_rfl) ⟨⟨V1.d0, V1.d1, V1.d2⟩, ⟨V2.d0, V2.d1, V2.d2⟩⟩ (fun hHeld => ?_)
    obtain ⟨x16, hxd⟩ : ∃ xd, xd = x15.drew := ⟨_, rfl⟩
    rw [← hxd] at V1 V2 B0 hHeld ⊢
    replace hr : Rr x16 s' a' l' c' zs' b' m' d' ys' (Rat.divInt U (10 ^ p)) := by rw [hxd]; exact hr
    replace hq : Rt x16 s a l c zs b m d ds (Rat.divInt U (10 ^ p)) := by rw [hxd]; exact hq
    clear hxd
    refine wpAnyH_take (i := 0) (v := ?_) rfl (by kernel_rfl) (by kernel_rfl) (by kernel_rfl) (fun _ _ _ h => h) (Or.inl ⟨by rfl, ?_⟩) hHeld ?_
    rotate_left
    · (intro W hSw; (try dsimp only at hSw); go_simp; all_goals (with_reducible rfl))
    simp only [List.getElem_toArray, List.getElem_cons_zero, Act.put, List.setIfInBounds_toArray, List.set_cons_zero, List.set_cons_succ]
    refine wpAnyH_take (i := 2) (v := ?_) rfl (by kernel_rfl) (by kernel_rfl) (by kernel_rfl) (fun _ _ _ h => h) (Or.inl ⟨by rfl, ?_⟩) hHeld ?_
    rotate_left
    · (intro W hSw; (try dsimp only at hSw); go_simp; all_goals (with_reducible rfl))
    simp only [List.getElem_toArray, List.getElem_cons_zero, List.getElem_cons_succ, Act.put, List.setIfInBounds_toArray, List.set_cons_zero, List.set_cons_succ]
    refine wpAnyH_ready (rs := [1]) (by kernel_rfl) (by simp) ?_
    refine AllReadyH.cons rfl (fun K hK => ?_) AllReadyH.nil
    simp only [List.getElem_toArray, List.getElem_cons_zero, List.getElem_cons_succ]
    go_simp
    refine (qplain_any s a l c zs b m d ds _ _ hq).mono ?_
    rintro e x17 ⟨g, h, ys, rfl, hg, hh, hgh, hy, hb⟩
    replace V1 := Va.after hb V1
    replace V2 := Va.after hb V2
    replace hr := Rr.after hb hr
    replace B0 := step B0 hb
    clear hb
    try go_wp2_with fail
    refine hK.out _ _ ⟨⟨V1.d0, V1.d1, V1.d2⟩, ⟨V2.d0, V2.d1, V2.d2⟩⟩ (fun hHeld => ?_)
    clear hK K
    refine wpAnyH_ready (rs := [3]) (by kernel_rfl) (by simp) ?_
    refine AllReadyH.cons rfl (fun K hK => ?_) AllReadyH.nil
    simp only [List.getElem_toArray, List.getElem_cons_zero, List.getElem_cons_succ]
    go_simp
    refine (same6 s a l c zs b m d ds _ s' a' l' c' zs' b' m' d' ys' g h ys _ hq hr hg hh hy.out).mono ?_
    rintro e x18 ⟨rfl, hb⟩
    replace V1 := Va.after hb V1
    replace V2 := Va.after hb V2
    replace B0 := step B0 hb
    clear hb
    try go_wp2_with fail
    refine hK.out _ _ ⟨⟨V1.d0, V1.d1, V1.d2⟩, ⟨V2.d0, V2.d1, V2.d2⟩⟩ (fun hHeld => ?_)
    clear hK K
    refine wpAnyH_take (i := 4) (v := ?_) rfl (by kernel_rfl) (by kernel_rfl) (by kernel_rfl) (fun _ _ _ h => h) (Or.inl ⟨by rfl, ?_⟩) hHeld ?_
    rotate_left
    · (intro W hSw; (try dsimp only at hSw); go_simp; all_goals (with_reducible rfl))
    simp only [List.getElem_toArray, List.getElem_cons_zero, List.getElem_cons_succ, Act.put, List.setIfInBounds_toArray, List.set_cons_zero, List.set_cons_succ]
    refine wpAnyH_done (by kernel_rfl) ?_ _
    refine NoPanic.normal ?_
    clear hHeld
    go_wp2_with fail
    go_ret
    exact ⟨rfl, B0⟩
  · subst hC
    have HNC : Hid (¬ CanI U P) := hcan
    clear hcan HC
    go_wp2_with fail
    refine (rrat6_no U P HNC.out _).mono ?_
    rintro e x11 ⟨rfl, hb⟩
    replace V0 := Va.after hb V0
    replace B0 := step B0 hb
    clear hb
    clear c_V0 f0_V0 d_V0 f1_V0 l_V0 m_V0
    have c_V0 := V0.c0
    have f0_V0 := V0.frozen 0
    have d_V0 := V0.c1
    have f1_V0 := V0.frozen 1
    have l_V0 := V0.lt
    have m_V0 := Nat.le_of_lt l_V0
    go_wp2_with fail
    refine ent1 x11 _ _ (Q := fun W => Calls Tryz.prog _ _ W _) ?_
    intro x12 hb hs_x12 V1
    replace V0 := Va.after hb V0
    replace B0 := step B0 hb
    clear hb hs_x12
    refine (rat_no U P HNC.out _).mono ?_
    rintro e x13 ⟨rfl, hb⟩
    replace V1 := Va.after hb V1
    replace B0 := step B0 hb
    clear hb V0
    clear c_V0 f0_V0 d_V0 f1_V0 l_V0 m_V0
    go_wp2_with fail
    refine ent1 x13 _ _ (Q := fun W => Calls Tryz.prog _ _ W _) ?_
    intro x14 hb hs_x14 V2
    replace V1 := Va.after hb V1
    replace B0 := step B0 hb
    clear hb hs_x14
    refine (awake6 _ (HP.out.to B0)).mono ?_
    rintro e x15 ⟨rfl, hb⟩
    replace V1 := Va.after hb V1
    replace V2 := Va.after hb V2
    replace B0 := step B0 hb
    clear hb
    have c_V1 := V1.d0
    have f0_V1 := V1.frozen 0
    have d_V1 := V1.d1
    have f1_V1 := V1.frozen 1
    have e_V1 := V1.d2
    have f2_V1 := V1.frozen 2
    have l_V1 := V1.lt
    have m_V1 := Nat.le_of_lt l_V1
    have c_V2 := V2.d0
    have f0_V2 := V2.frozen 0
    have d_V2 := V2.d1
    have f1_V2 := V2.frozen 1
    have e_V2 := V2.d2
    have f2_V2 := V2.frozen 2
    have l_V2 := V2.lt
    have m_V2 := Nat.le_of_lt l_V2
    go_wp2_with fail
    refine (qsign_any false none 0 0 [] none 0 0 [] 0 _ (Rt.nil _)).mono ?_
    rintro e x16 ⟨rfl, hb⟩
    replace B0 := step B0 hb
    clear hb
    go_wp2_with fail
    go_ret
    exact ⟨rfl, B0⟩
end Go.Proofs.YtebbblhafjaaiaaGreatDoor
namespace Go.Proofs.YtebbblhafjaaiaaGreatDoor
open Go.RowKit Go.Shelf
set_option linter.unusedVariables false

theorem gPow : Tryz.prog.globalNamed "internal/strconv.uint64pow10" = some 7 := by kernel_rfl
theorem gPowT : (Tryz.prog.globals[7]?).map (·.type) = some 267 := by kernel_rfl
theorem cPow : Tryz.prog.cellsOf 267 = 20 := by kernel_rfl
theorem cU64 : Tryz.prog.cellsOf 94 = 1 := by kernel_rfl
theorem ptOf {W : World} {rest : List (String × DataW Unit)} (h : laidMet Tryz.prog (("internal/strconv.uint64pow10", Rows.laid_internal_strconv_uint64pow10) :: rest) W) : Pt W :=
  Go.Lib.tabIs_of_head (zs := Go.Lib.pow10Tab) gPow gPowT Tryz.underlying267 Tryz.underlying94 cU64 cPow h
end Go.Proofs.YtebbblhafjaaiaaGreatDoor
namespace Go.Proofs.YtebbblhafjaaiaaGreatDoor
open Go.RowKit Go.Shelf
set_option linter.unusedVariables false

theorem gTens : Tryz.prog.globalNamed "tollbook/decimal.tens" = some 0 := by kernel_rfl
theorem gTensT : (Tryz.prog.globals[0]?).map (·.type) = some 101 := by kernel_rfl
theorem cTens : Tryz.prog.cellsOf 101 = 10 := by kernel_rfl
theorem cI64 : Tryz.prog.cellsOf 2 = 1 := by kernel_rfl
theorem tnOf {W : World} {rest : List (String × DataW Unit)} (h : laidMet Tryz.prog (("tollbook/decimal.tens", Rows.laid_tollbook_decimal_tens) :: rest) W) : Tn W :=
  Go.Lib.tabIs_of_head (zs := [1, 10, 100, 1000, 10000, 100000, 1000000, 10000000, 100000000, 1000000000]) gTens gTensT Tryz.underlying101 Tryz.underlying2 cI64 cTens h
end Go.Proofs.YtebbblhafjaaiaaGreatDoor
namespace Go.Proofs.YtebbblhafjaaiaaGreatDoor
set_option linter.unusedVariables false
theorem wf64 {a : Int} (w : (Lit.int .i64 a).wf = true) : -9223372036854775808 ≤ a ∧ a ≤ 9223372036854775807 := by simp [Lit.wf, IntKind.min, IntKind.max, IntKind.signed, IntKind.bits] at w; omega
theorem decimalMakes_walk0 (a0 q0 a1 a2 : Int) (W : World) (wa0 : (Lit.int .i64 a0).wf = true) (wq0 : (Lit.int .i64 q0).wf = true) (wa1 : (Lit.int .i64 a1).wf = true) (wa2 : (Lit.int .i64 a2).wf = true) (hP : Pt W) (hT : Tn W) :
    Calls Tryz.prog 3 #[.agg #[.int .i64 a0, .int .i64 q0], .int .i64 a1, .int .i64 a2] W fun e W' => e = .returned (.bool true) ∧ Go.RowKit.Below W.heap.size W W' :=
  dmakes_walk a0 q0 a1 a2 W (wf64 wa0).1 (wf64 wa0).2 (wf64 wa1).1 (wf64 wa1).2 hP hT
end Go.Proofs.YtebbblhafjaaiaaGreatDoor
namespace Go.Proofs.YtebbblhafjaaiaaGreatDoor.decimalMakes
open Go.ChangeShapes Go.WideShapes Go.ChangeAt Go.RowKit
set_option linter.unusedVariables false

theorem own : ownKnob Tryz.prog.godebug = none := by kernel_rfl
theorem laidOut : laidOutB Tryz.prog = true := by kernel_rfl
theorem bytes8 : Tryz.prog.bytesOf 94 = 8 := by kernel_rfl

set_option maxRecDepth 100000 in
theorem contract (H : Type) (enc : TypeId × Value → H) (W : World) (base : Nat) (args : Array Value) (ds gs : List (DataW H)) (before : List MemPlace)
    (hval : ∀ (j : Nat) t v, Tryz.f3.params[j]? = some t → args[j]? = some v → Value.okWide Tryz.prog W .any base t v)
    (hW : DataW.Whole enc Tryz.prog Tryz.f3.params.toList Rows.decimalMakesSpec.vars false W args.toList ds gs before) (hsz : (DataW.weightsEach Tryz.prog (Tryz.f3.params.toList ++ Rows.decimalMakesSpec.plain.varTypes Tryz.prog) (ds ++ gs)).all (· ≤ reachBytes) = true) (hL0 : laidMetH Tryz.prog Rows.decimalMakesRow.laid W) :
    Calls Tryz.prog 3 args W fun e W' => ∃ v, e = .returned v ∧ Rows.decimalMakesSpec.post enc Tryz.prog Tryz.f3 false true false false W args v W' := by
  rw [MakeChecks.laidMetH_plain _ _ _ (by kernel_rfl)] at hL0
  have tb0 := by first | exact ptOf hL0 | exact ptOf hL0.tail | exact ptOf hL0.tail.tail | exact ptOf hL0.tail.tail.tail | exact ptOf hL0.tail.tail.tail.tail | exact ptOf hL0.tail.tail.tail.tail.tail | exact ptOf hL0.tail.tail.tail.tail.tail.tail | exact ptOf hL0.tail.tail.tail.tail.tail.tail.tail
  have tb1 := by first | exact tnOf hL0 | exact tnOf hL0.tail | exact tnOf hL0.tail.tail | exact tnOf hL0.tail.tail.tail | exact tnOf hL0.tail.tail.tail.tail | exact tnOf hL0.tail.tail.tail.tail.tail | exact tnOf hL0.tail.tail.tail.tail.tail.tail | exact tnOf hL0.tail.tail.tail.tail.tail.tail.tail
  have hW' := hW
  obtain ⟨p, q, hA0, hV, rfl, hfz, hnd⟩ := hW
  have hA : DataW.TrodAll enc Tryz.prog W 0 (fun _ => true) true Tryz.f3.params.toList args.toList ds p := hA0
  rw [Tryz.params3] at hA hval hsz
  obtain ⟨v0, vs0, d0, ds0, p0, q0, hargs, rfl, rfl, h0, r0⟩ := trodAll_cons hA
  obtain ⟨v1, vs1, d1, ds1, p1, q1, rfl, rfl, rfl, h1, r1⟩ := trodAll_cons r0
  obtain ⟨v2, vs2, d2, ds2, p2, q2, rfl, rfl, rfl, h2, r2⟩ := trodAll_cons r1
  obtain ⟨rfl, rfl, rfl⟩ := trodAll_nil r2
  obtain rfl : args = #[v0, v1, v2] := by cases args; simp_all
  obtain ⟨rfl, rfl⟩ := trodVars_none hV
  have k0 := h0
  have lt0 : ∀ x ∈ p0, x.block < W.heap.size := by obtain ⟨m, hm⟩ := k0; exact DataW.trod_lt m _ _ _ hm
  obtain ⟨u0, x0, y00, y01, m0, rfl, rfl, rfl, hy00, hy01⟩ := Go.Joins.open_agg2 Tryz.underlying23 (by kernel_rfl) (by kernel_rfl) (hval 0 23 v0 rfl rfl) h0
  obtain ⟨a0, ha0, hd0, wa0⟩ := DataW.trod_int Tryz.underlying2 hy00
  obtain ⟨q0, hq0, he0, wq0⟩ := DataW.trod_int Tryz.underlying3 hy01
  obtain rfl : u0 = .int .i64 a0 := by simpa using ha0
  obtain rfl : x0 = .int .i64 q0 := by simpa using hq0
  obtain ⟨a1, rfl, rfl, rfl, w1⟩ := open_int Tryz.underlying2 (hval 1 2 v1 rfl rfl) h1
  obtain ⟨a2, rfl, rfl, rfl, w2⟩ := open_int Tryz.underlying3 (hval 2 3 v2 rfl rfl) h2
  clear hA0
  refine (decimalMakes_walk0 a0 q0 a1 a2 W wa0 wq0 w1 w2 tb0 tb1).mono fun e W' ⟨he, bel⟩ => ?_
  subst he
  exact ⟨_, rfl, _, _, _, [], _, [], hW', trodAll_mk1 (shut_bool Tryz.underlying4 _), (trodAll_cons_mk (Below.trod laidOut (by kernel_rfl) (of_decide_eq_true (by kernel_rfl)) k0 bel lt0) (trodAll_cons_mk (shut_int Tryz.underlying2 w1) (trodAll_cons_mk (shut_int Tryz.underlying3 w2) trodAll_mk0))), rfl, bel.frame _, fun h => by cases h⟩

set_option maxRecDepth 100000 in
theorem lifted (os : Os) (started : os.Started) (H : Type) (enc : TypeId × Value → H) :
    ReturnsInHanded {} Tryz.checked os 3 .any (fun w args => (Rows.decimalMakesSpec.pre enc Tryz.prog Tryz.f3 [] false w args ∧ laidMetH Tryz.prog Rows.decimalMakesRow.laid w) ∧ sizedMet enc Tryz.prog Tryz.f3 (OpenSpec.ofChange Rows.decimalMakesSpec) false w args)
      (Rows.decimalMakesSpec.post enc Tryz.prog Tryz.f3 false true false false) := by
  refine returnsInHanded_of_change_and (C := Tryz.checked) (X := fun w _ => laidMetH Tryz.prog Rows.decimalMakesRow.laid w) (fun _ _ _ hh h => h.of_heap hh) own started (by kernel_rfl) Tryz.func3
    (ChangeSpec.witness_shaped (enc := enc) (C := Tryz.checked) (os := os) (X := fun w _ => laidMetH Tryz.prog Rows.decimalMakesRow.laid w) false (World.laidAll Tryz.prog os Rows.decimalMakesRow.laid) #[.agg #[.int .i64 0, .int .i64 0], .int .i64 0, .int .i64 0] 8 (World.laidAll_os _ _ _)
      (World.shaped_of_ZipB (by kernel_rfl) (by kernel_rfl)) (by kernel_rfl) (by kernel_rfl) (by kernel_rfl)
      (by rw [MakeChecks.laidMetH_plain _ _ _ (by kernel_rfl)]; exact laidMet_laidAll _ (by kernel_rfl) (by kernel_rfl))) ?_
  intro W base args ds gs before hval0 hW _ hsz0 hL _
  exact contract H enc W base args ds gs before hval0 hW hsz0 hL

theorem over : Rows.decimalMakesRow.holds Tryz.pinned (OpenSpec.ofChange Rows.decimalMakesSpec) :=
  OpenClaim.holds_of_wide 3 Tryz.f3 rfl rfl rfl rfl rfl rfl rfl ⟨rfl, rfl, rfl, rfl, rfl⟩ rfl rfl rfl rfl rfl (by kernel_rfl) Tryz.func3 (by kernel_rfl)
    (of_decide_eq_true (by kernel_rfl)) (by unfold Func.isWrapper; first | (rw [if_pos (by decide +kernel)]; kernel_rfl) | (rw [if_neg (by decide +kernel)]; exact ⟨rfl, rfl⟩))
    (fun os started H enc _ => lifted os started H enc)
end Go.Proofs.YtebbblhafjaaiaaGreatDoor.decimalMakes
namespace Go.Proofs.YtebbblhafjaaiaaGreatDoor
theorem decimalMakes_plain (f : FuncId) (fn : Func) (hf : Tryz.pinned.checked.prog.funcNamed "tollbook/tollbooklaw06.DecimalMakes" = some f) (hfn : Tryz.pinned.checked.prog.funcs[f]? = some fn) :
    false = Tryz.pinned.checked.prog.looks [] ∧ ∀ (j : Nat) t, fn.params[j]? = some t → Tryz.pinned.checked.prog.wantsStandIn t = false := by
  obtain rfl : f = 3 := Option.some.inj ((show Tryz.prog.funcNamed "tollbook/tollbooklaw06.DecimalMakes" = some 3 by kernel_rfl).symm.trans hf) |>.symm
  obtain rfl : fn = Tryz.f3 := (Option.some.inj (Tryz.func3.symm.trans hfn)).symm
  refine ⟨by kernel_rfl, fun j t ht => ?_⟩
  rw [Tryz.params3] at ht
  have hm : t ∈ [23, 2, 3] := by have := Array.mem_of_getElem? ht; simp at this; simp; omega
  have hall : ([23, 2, 3].all fun u => !Tryz.prog.wantsStandIn u) = true := by kernel_rfl
  exact (show Tryz.prog.wantsStandIn t = false by simpa using List.all_eq_true.1 hall t hm)
theorem decimalMakesCard_holds : Rows.DecimalMakesCardSaid :=
  Claim7.holds_tied_plain_at .later [] _ _ _ _ decimalMakes.over (fun _ h => by cases h) (by kernel_rfl) (fun _ h => by cases h) decimalMakes_row_tie rfl ⟨rfl, rfl⟩ (by kernel_rfl) rfl decimalMakes_plain (by kernel_rfl)
#print axioms decimalMakesCard_holds
end Go.Proofs.YtebbblhafjaaiaaGreatDoor
