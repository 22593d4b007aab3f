/-
  reals.Of: a finite float's number.
-/
import Derived.Test.YtmhfoeooccppfaaGreatRe5
import Derived.Test.YtmhfoeooccppfaaGreatRt3
import Derived.Test.YtmhfoeooccppfaaGreatRt12
namespace Go.Proofs.YtmhfoeooccppfaaGreat
open Go.RowKit Go.Shelf
set_option linter.unusedVariables false

theorem pw_nat8 (n : Nat) : pw n = ((2 ^ (64 * n) : Nat) : Int) := by rw [pw_eq, Int.natCast_pow]; rfl
theorem pow_le8 {a b : Nat} (h : a ≤ b) : (2 : Nat) ^ a ≤ 2 ^ b := Nat.pow_le_pow_right (by decide) h
theorem pow_lt8 {a b : Nat} (h : a < b) : (2 : Nat) ^ a < 2 ^ b := Nat.pow_lt_pow_right (by decide) h
theorem sz_fv {x : Nat} (h : x < 18446744073709551616) (hr : x % 9223372036854775808 < 9218868437227405312) : Sz 33 (fv x) := by
  have hf := fi_lt hr
  rw [fi_inf] at hf
  have hz : (fz x).natAbs = fi (x % 9223372036854775808) := by rw [fz_sg h]; cases fsg x <;> simp
  refine Sz.mk (Nat.ne_of_gt K8_pos) ?_ ?_
  · rw [hz, pw_nat8]
    have := pow_le8 (show 2098 ≤ 64 * 33 by decide)
    have h2 := Nat.lt_of_lt_of_le hf this
    exact_mod_cast h2
  · rw [K8_eq, pw_nat8]
    have := pow_lt8 (show 1074 < 64 * 33 by decide)
    exact_mod_cast this
theorem short_fv {x : Nat} (h : x < 18446744073709551616) (hr : x % 9223372036854775808 < 9218868437227405312) : Short (fv x) := (sz_fv h hr).short (by omega)
theorem small_b (x : Nat) (hx : x < 9007199254740992) (w : World) :
    Calls Tryz.prog 66 #[.int .u64 (x : Int)] w fun e w' => ∃ a len cap zs, e = .returned (.agg #[.slice a len cap]) ∧ Nt w' a len cap zs ∧ Hid (num zs = (x : Int) ∧ bitsN zs ≤ 64) ∧ Below w.heap.size w w' := by
  refine (small_any (x : Int) ⟨by omega, by omega⟩ w).mono ?_
  rintro e w' ⟨a, l, c, zs, rfl, h, hz, hb⟩
  refine ⟨a, l, c, zs, rfl, h, ⟨hz, ?_⟩, hb⟩
  have h1 := (bits_limbs h.limbs).2.2
  have h2 := used_of_lt (n := 1) h.limbs (by rw [hz]; have : pw 1 = 18446744073709551616 := by decide
                                             omega)
  omega

set_option maxHeartbeats 2000000 in
theorem of8_no (x : Nat) (h : x < 18446744073709551616) (hr : 9218868437227405312 ≤ x % 9223372036854775808) (w : World) :
    Calls Tryz.prog 35 #[.float .f64 x] w fun e w' => e = .returned (.tuple #[.agg #[.bool false, .slice none 0 0, .slice none 0 0], .int .i64 80]) ∧ Below w.heap.size w w' := by
  have B0 : Below w.heap.size w w := Below.refl _ _
  go_enter Tryz.func35, Tryz.ntmps35
  go_wp2_with fail
  refine ent1 w _ _ (Q := fun W => Calls Tryz.prog _ _ W _) ?_
  intro x1 hb hs_x1 V2
  replace B0 := step B0 hb
  clear hb hs_x1
  refine (apart_no x h hr x1).mono ?_
  rintro e x2 ⟨rfl, hb⟩
  replace V2 := Va.after hb V2
  replace B0 := step B0 hb
  clear hb
  have c_V2 := V2.d0
  have f0_V2 := V2.frozen 0
  have d_V2 := V2.d1
  have f1_V2 := V2.frozen 1
  have e_V2 := V2.d2
  have f2_V2 := V2.frozen 2
  have l_V2 := V2.lt
  have m_V2 := Nat.le_of_lt l_V2
  have p0_V2 := (V2.old (.cells #[.bool false, .int .u64 0, .int .i64 0] 118)).d0
  have q0_V2 := (V2.old (.cells #[.bool false, .int .u64 0, .int .i64 0] 118)).frozen 0
  have p1_V2 := (V2.old (.cells #[.bool false, .int .u64 0, .int .i64 0] 118)).d1
  have q1_V2 := (V2.old (.cells #[.bool false, .int .u64 0, .int .i64 0] 118)).frozen 1
  have p2_V2 := (V2.old (.cells #[.bool false, .int .u64 0, .int .i64 0] 118)).d2
  have q2_V2 := (V2.old (.cells #[.bool false, .int .u64 0, .int .i64 0] 118)).frozen 2
  go_wp2_with fail
  refine bodyPost_ret (results_rt rfl rfl ((V2.set3 _ _ _).old _)) rfl ?_
  exact ⟨rfl, (belo3 B0 (by omega) _ _ _).alloc (belo3 B0 (by omega) _ _ _).size _⟩

set_option maxHeartbeats 8000000 in
theorem of8 (x : Nat) (h : x < 18446744073709551616) (hr : x % 9223372036854775808 < 9218868437227405312) (w : World) :
    Calls Tryz.prog 35 #[.float .f64 x] w fun e w' => ∃ s' a' l' c' zs' b' m' d' ds', e = .returned (.tuple #[.agg #[.bool s', .slice a' l' c', .slice b' m' d'], .int .i64 0]) ∧ Rt w' s' a' l' c' zs' b' m' d' ds' (fv x) ∧ Below w.heap.size w w' := by
  have HX : Hid (x < 18446744073709551616 ∧ x % 9223372036854775808 < 9218868437227405312) := ⟨h, hr⟩
  clear h hr
  have B0 : Below w.heap.size w w := Below.refl _ _
  go_enter Tryz.func35, Tryz.ntmps35
  go_wp2_with fail
  refine ent1 w _ _ (Q := fun W => Calls Tryz.prog _ _ W _) ?_
  intro x1 hb hs_x1 V2
  replace B0 := step B0 hb
  clear hb hs_x1
  refine (apart_fin x HX.out.1 HX.out.2 x1).mono ?_
  rintro e x2 ⟨d, u, rfl, HD, hb⟩
  replace V2 := Va.after hb V2
  replace B0 := step B0 hb
  clear hb
  have c_V2 := V2.d0
  have f0_V2 := V2.frozen 0
  have d_V2 := V2.d1
  have f1_V2 := V2.frozen 1
  have e_V2 := V2.d2
  have f2_V2 := V2.frozen 2
  have l_V2 := V2.lt
  have m_V2 := Nat.le_of_lt l_V2
  go_wp2_with fail
  have lv2 := V2.lt
  refine ent1 x2 _ _ (Q := fun W => Code.wp Tryz.prog _ _ _ W) ?_
  intro x3 hb hs_x3 Vp
  replace V2 := Va.after hb V2
  replace B0 := step B0 hb
  clear hb hs_x3
  obtain ⟨A, hA⟩ := Int.eq_ofNat_of_zero_le (show 0 ≤ max ((u : Int) - 1074) 0 by omega)
  obtain ⟨B, hB⟩ := Int.eq_ofNat_of_zero_le (show 0 ≤ max (-((u : Int) - 1074)) 0 by omega)
  have HA : Hid (max ((u : Int) - 1074) 0 = (A : Int)) := hA
  have HB : Hid (max (-((u : Int) - 1074)) 0 = (B : Int)) := hB
  have HW : Hid (IntKind.i64.wrap (-((u : Int) - 1074)) = -((u : Int) - 1074)) := by show _ = _; rw [IntKind.wrap_i64]; have h5 := HD.out.2.1; omega
  have HAB : Hid (A + 1074 = u + B ∧ A ≤ 971 ∧ B ≤ 1074) := by have h5 := HD.out.2.1; show _ ∧ _; omega
  clear hA hB
  clear c_V2 f0_V2 d_V2 f1_V2 e_V2 f2_V2 l_V2 m_V2
  have LS : Hid (∀ W, Below x3.heap.size x3 W → (fun W => W.cell? ⟨x2.heap.size, 0, none⟩ = some (.bool (fsg x)) ∧ W.cell? ⟨x2.heap.size, 1, none⟩ = some (.int .u64 (d : Int)) ∧ W.cell? ⟨x2.heap.size, 2, none⟩ = some (.int .i64 ((u : Int) - 1074))) W) := fun W hb => ⟨(Va.after hb Vp).d0, (Va.after hb Vp).d1, (Va.after hb Vp).d2⟩
  have lb_V2 := V2.lt
  have L_V2 : Hid (Va x3 (w.heap.size) 39 #[.bool false, .slice none 0 0, .slice none 0 0]) := V2
  have lb_Vp := Vp.lt
  have L_Vp : Hid (Va x3 (x2.heap.size) 118 #[.bool (fsg x), .int .u64 (d : Int), .int .i64 ((u : Int) - 1074)]) := Vp
  have L_B : Hid (Below w.heap.size w x3) := B0
  clear V2 Vp B0
  have BX := Below.refl x3.heap.size x3
  go_cut [6] (fun s6 wx => ∃ (q6 : Nat) (a2 : Option Addr) (l2 c2 : Nat) (z2 : List Int), s6 = .pointer (some ⟨q6, 0, none⟩) ∧ Hid (Va wx q6 35 #[.slice a2 l2 c2]) ∧ Hid (Nt wx a2 l2 c2 z2) ∧ Hid (num z2 = (d : Int) * 2 ^ A) ∧ Hid (Below x3.heap.size x3 wx) ∧ Hid (w.heap.size + 1 ≤ q6))
  case first =>
    refine wp_region_noPanic ?_
    replace BX := Below.drew BX
    refine wp_region_held_drew (S := (fun W => W.cell? ⟨x2.heap.size, 0, none⟩ = some (.bool (fsg x)) ∧ W.cell? ⟨x2.heap.size, 1, none⟩ = some (.int .u64 (d : Int)) ∧ W.cell? ⟨x2.heap.size, 2, none⟩ = some (.int .i64 ((u : Int) - 1074)))) (by kernel_rfl) (LS.out _ BX) (fun hHeld => ?_)
    obtain ⟨x4, hxd⟩ : ∃ xd, xd = x3.drew := ⟨_, rfl⟩
    rw [← hxd] at BX hHeld ⊢
    clear hxd
    refine wpAnyH_take (i := 0) (v := ?_) rfl (by kernel_rfl) (by kernel_rfl) (by kernel_rfl) (fun _ _ _ h => h) (Or.inl ⟨by rfl, ?_⟩) hHeld ?_
    rotate_left
    · (intro W hSw; (try dsimp only at hSw); go_simp; all_goals (with_reducible rfl))
    simp only [List.getElem_toArray, List.getElem_cons_zero, Act.put, List.setIfInBounds_toArray, List.set_cons_zero, List.set_cons_succ]
    refine wpAnyH_take (i := 1) (v := ?_) rfl (by kernel_rfl) (by kernel_rfl) (by kernel_rfl) (fun _ _ _ h => h) (Or.inl ⟨by rfl, ?_⟩) hHeld ?_
    rotate_left
    · (intro W hSw; (try dsimp only at hSw); go_simp; all_goals (with_reducible rfl))
    simp only [List.getElem_toArray, List.getElem_cons_zero, List.getElem_cons_succ, Act.put, List.setIfInBounds_toArray, List.set_cons_zero, List.set_cons_succ]
    refine wpAnyH_take (i := 3) (v := ?_) rfl (by kernel_rfl) (by kernel_rfl) (by kernel_rfl) (fun _ _ _ h => h) (Or.inl ⟨by rfl, ?_⟩) hHeld ?_
    rotate_left
    · (intro W hSw; (try dsimp only at hSw); go_simp; all_goals (with_reducible rfl))
    simp only [List.getElem_toArray, List.getElem_cons_zero, List.getElem_cons_succ, Act.put, List.setIfInBounds_toArray, List.set_cons_zero, List.set_cons_succ]
    refine wpAnyH_take (i := 4) (v := ?_) rfl (by kernel_rfl) (by kernel_rfl) (by kernel_rfl) (fun _ _ _ h => h) (Or.inl ⟨by rfl, ?_⟩) hHeld ?_
    rotate_left
    · (intro W hSw; (try dsimp only at hSw); go_simp; all_goals (with_reducible rfl))
    simp only [List.getElem_toArray, List.getElem_cons_zero, List.getElem_cons_succ, Act.put, List.setIfInBounds_toArray, List.set_cons_zero, List.set_cons_succ]
    refine wpAnyH_take (i := 5) (v := .int .i64 (A : Int)) rfl (by kernel_rfl) (by kernel_rfl) (by kernel_rfl) (fun _ _ _ h => h) (Or.inl ⟨by rfl, ?_⟩) hHeld ?_
    · (intro W hSw; (try dsimp only at hSw); go_simp; first | rfl | (rw [HA.out]) | (have h5 := HA.out; simp only [go_sem] at h5; rw [h5]) | skip)
    simp only [List.getElem_toArray, List.getElem_cons_zero, List.getElem_cons_succ, Act.put, List.setIfInBounds_toArray, List.set_cons_zero, List.set_cons_succ]
    refine wpAnyH_ready (rs := [2, 10]) (by kernel_rfl) (by simp) ?_
    refine AllReadyH.cons rfl (fun K hK => ?_) (AllReadyH.cons rfl (fun K hK => ?_) AllReadyH.nil)
    ·
      simp only [List.getElem_toArray, List.getElem_cons_zero, List.getElem_cons_succ]
      go_simp
      refine (small_b d HD.out.1 _).mono ?_
      rintro e x5 ⟨a1, l1, c1, z1, rfl, h1, e1, hb⟩
      replace BX := step BX hb
      clear hb
      try go_wp2_with fail
      refine hK.out _ _ (LS.out _ BX) (fun hHeld => ?_)
      clear hK K
      refine wpAnyH_ready (rs := [6, 10]) (by kernel_rfl) (by simp) ?_
      refine AllReadyH.cons rfl (fun K hK => ?_) (AllReadyH.cons rfl (fun K hK => ?_) AllReadyH.nil)
      ·
        simp only [List.getElem_toArray, List.getElem_cons_zero, List.getElem_cons_succ]
        go_simp
        refine (nleft_b a1 l1 c1 z1 A _ h1 (by have h5 := e1.out.2; have h6 := HAB.out; omega)).mono ?_
        rintro e x6 ⟨a2, l2, c2, z2, rfl, h2, e2', hb⟩
        replace h1 := Nt.after hb h1
        replace BX := step BX hb
        clear hb
        have e2 : num z2 = (d : Int) * 2 ^ A := by rw [e2'.out.1, e1.out.1]
        clear e1 e2' h1
        try go_wp2_with fail
        refine hK.out _ _ (LS.out _ BX) (fun hHeld => ?_)
        clear hK K
        refine wpAnyH_take (i := 7) (v := ?_) rfl (by kernel_rfl) (by kernel_rfl) (by kernel_rfl) (fun _ _ _ h => h) (Or.inl ⟨by rfl, ?_⟩) hHeld ?_
        rotate_left
        · (intro W hSw; (try dsimp only at hSw); go_simp; all_goals (with_reducible rfl))
        simp only [List.getElem_toArray, List.getElem_cons_zero, List.getElem_cons_succ, Act.put, List.setIfInBounds_toArray, List.set_cons_zero, List.set_cons_succ]
        refine wpAnyH_take (i := 8) (v := ?_) rfl (by kernel_rfl) (by kernel_rfl) (by kernel_rfl) (fun _ _ _ h => h) (Or.inl ⟨by rfl, ?_⟩) hHeld ?_
        rotate_left
        · (intro W hSw; (try dsimp only at hSw); go_simp; all_goals (with_reducible rfl))
        simp only [List.getElem_toArray, List.getElem_cons_zero, List.getElem_cons_succ, Act.put, List.setIfInBounds_toArray, List.set_cons_zero, List.set_cons_succ]
        refine wpAnyH_take (i := 9) (v := ?_) rfl (by kernel_rfl) (by kernel_rfl) (by kernel_rfl) (fun _ _ _ h => h) (Or.inl ⟨by rfl, ?_⟩) hHeld ?_
        rotate_left
        · (intro W hSw; (try dsimp only at hSw); go_simp; all_goals (with_reducible rfl))
        simp only [List.getElem_toArray, List.getElem_cons_zero, List.getElem_cons_succ, Act.put, List.setIfInBounds_toArray, List.set_cons_zero, List.set_cons_succ]
        refine wpAnyH_ready (rs := [10]) (by kernel_rfl) (by simp) ?_
        refine AllReadyH.cons rfl (fun K hK => ?_) AllReadyH.nil
        ·
          simp only [List.getElem_toArray, List.getElem_cons_zero, List.getElem_cons_succ]
          go_simp
          have sz_Vn := BX.size
          refine ent1 _ _ _ (Q := fun V => K _ V) ?_
          intro x7 hb hs_ Vn
          replace h2 := Nt.after hb h2
          replace BX := step BX hb
          clear hb hs_
          refine hK.out _ _ (LS.out _ BX) (fun hHeld => ?_)
          clear hK K
          have c_Vn := Vn.cell
          have f0_Vn := Vn.frozen 0
          have l_Vn := Vn.lt
          have m_Vn := Nat.le_of_lt l_Vn
          refine wpAnyH_ready (rs := [11]) (by kernel_rfl) (by simp) ?_
          refine AllReadyH.cons rfl (fun K hK => ?_) AllReadyH.nil
          simp only [List.getElem_toArray, List.getElem_cons_zero, List.getElem_cons_succ]
          go_simp
          clear c_Vn f0_Vn l_Vn m_Vn
          refine sto1 Vn (.slice a2 l2 c2) (Q := fun W => K _ W) ?_
          intro x8 V' oth far
          replace h2 := h2.far Vn (noInt1 _ _ _) far.1
          replace BX := far.2 _ _ (by first | omega | (simp; omega)) BX
          replace Vn := V'
          clear oth far
          refine hK.out _ _ (LS.out _ BX) (fun hHeld => ?_)
          clear hK K
          refine wpAnyH_take (i := 12) (v := ?_) rfl (by kernel_rfl) (by kernel_rfl) (by kernel_rfl) (fun _ _ _ h => h) (Or.inl ⟨by rfl, ?_⟩) hHeld ?_
          rotate_left
          · (intro W hSw; (try dsimp only at hSw); go_simp; all_goals (with_reducible rfl))
          simp only [List.getElem_toArray, List.getElem_cons_zero, List.getElem_cons_succ, Act.put, List.setIfInBounds_toArray, List.set_cons_zero, List.set_cons_succ]
          refine wpAnyH_done (by kernel_rfl) ?_ _
          refine NoPanic.normal ?_
          clear hHeld
          go_wp2_with fail
          go_meet
          exact ⟨_, a2, l2, c2, z2, rfl, Vn, h2, e2, BX, by show _ ≤ _; omega⟩
      ·
        simp only [List.getElem_toArray, List.getElem_cons_zero, List.getElem_cons_succ]
        go_simp
        have sz_Vn := BX.size
        refine ent1 _ _ _ (Q := fun V => K _ V) ?_
        intro x6 hb hs_ Vn
        replace h1 := Nt.after hb h1
        replace BX := step BX hb
        clear hb hs_
        refine hK.out _ _ (LS.out _ BX) (fun hHeld => ?_)
        clear hK K
        refine wpAnyH_ready (rs := [6]) (by kernel_rfl) (by simp) ?_
        refine AllReadyH.cons rfl (fun K hK => ?_) AllReadyH.nil
        ·
          simp only [List.getElem_toArray, List.getElem_cons_zero, List.getElem_cons_succ]
          go_simp
          refine (nleft_b a1 l1 c1 z1 A _ h1 (by have h5 := e1.out.2; have h6 := HAB.out; omega)).mono ?_
          rintro e x7 ⟨a2, l2, c2, z2, rfl, h2, e2', hb⟩
          replace Vn := Va.after hb Vn
          replace h1 := Nt.after hb h1
          replace BX := step BX hb
          clear hb
          have e2 : num z2 = (d : Int) * 2 ^ A := by rw [e2'.out.1, e1.out.1]
          clear e1 e2' h1
          try go_wp2_with fail
          refine hK.out _ _ (LS.out _ BX) (fun hHeld => ?_)
          clear hK K
          refine wpAnyH_take (i := 7) (v := ?_) rfl (by kernel_rfl) (by kernel_rfl) (by kernel_rfl) (fun _ _ _ h => h) (Or.inl ⟨by rfl, ?_⟩) hHeld ?_
          rotate_left
          · (intro W hSw; (try dsimp only at hSw); go_simp; all_goals (with_reducible rfl))
          simp only [List.getElem_toArray, List.getElem_cons_zero, List.getElem_cons_succ, Act.put, List.setIfInBounds_toArray, List.set_cons_zero, List.set_cons_succ]
          refine wpAnyH_take (i := 8) (v := ?_) rfl (by kernel_rfl) (by kernel_rfl) (by kernel_rfl) (fun _ _ _ h => h) (Or.inl ⟨by rfl, ?_⟩) hHeld ?_
          rotate_left
          · (intro W hSw; (try dsimp only at hSw); go_simp; all_goals (with_reducible rfl))
          simp only [List.getElem_toArray, List.getElem_cons_zero, List.getElem_cons_succ, Act.put, List.setIfInBounds_toArray, List.set_cons_zero, List.set_cons_succ]
          refine wpAnyH_take (i := 9) (v := ?_) rfl (by kernel_rfl) (by kernel_rfl) (by kernel_rfl) (fun _ _ _ h => h) (Or.inl ⟨by rfl, ?_⟩) hHeld ?_
          rotate_left
          · (intro W hSw; (try dsimp only at hSw); go_simp; all_goals (with_reducible rfl))
          simp only [List.getElem_toArray, List.getElem_cons_zero, List.getElem_cons_succ, Act.put, List.setIfInBounds_toArray, List.set_cons_zero, List.set_cons_succ]
          have c_Vn := Vn.cell
          have f0_Vn := Vn.frozen 0
          have l_Vn := Vn.lt
          have m_Vn := Nat.le_of_lt l_Vn
          refine wpAnyH_ready (rs := [11]) (by kernel_rfl) (by simp) ?_
          refine AllReadyH.cons rfl (fun K hK => ?_) AllReadyH.nil
          simp only [List.getElem_toArray, List.getElem_cons_zero, List.getElem_cons_succ]
          go_simp
          clear c_Vn f0_Vn l_Vn m_Vn
          refine sto1 Vn (.slice a2 l2 c2) (Q := fun W => K _ W) ?_
          intro x8 V' oth far
          replace h2 := h2.far Vn (noInt1 _ _ _) far.1
          replace BX := far.2 _ _ (by first | omega | (simp; omega)) BX
          replace Vn := V'
          clear oth far
          refine hK.out _ _ (LS.out _ BX) (fun hHeld => ?_)
          clear hK K
          refine wpAnyH_take (i := 12) (v := ?_) rfl (by kernel_rfl) (by kernel_rfl) (by kernel_rfl) (fun _ _ _ h => h) (Or.inl ⟨by rfl, ?_⟩) hHeld ?_
          rotate_left
          · (intro W hSw; (try dsimp only at hSw); go_simp; all_goals (with_reducible rfl))
          simp only [List.getElem_toArray, List.getElem_cons_zero, List.getElem_cons_succ, Act.put, List.setIfInBounds_toArray, List.set_cons_zero, List.set_cons_succ]
          refine wpAnyH_done (by kernel_rfl) ?_ _
          refine NoPanic.normal ?_
          clear hHeld
          go_wp2_with fail
          go_meet
          exact ⟨_, a2, l2, c2, z2, rfl, Vn, h2, e2, BX, by show _ ≤ _; omega⟩
    ·
      simp only [List.getElem_toArray, List.getElem_cons_zero, List.getElem_cons_succ]
      go_simp
      have sz_Vn := BX.size
      refine ent1 _ _ _ (Q := fun V => K _ V) ?_
      intro x5 hb hs_ Vn
      replace BX := step BX hb
      clear hb hs_
      refine hK.out _ _ (LS.out _ BX) (fun hHeld => ?_)
      clear hK K
      refine wpAnyH_ready (rs := [2]) (by kernel_rfl) (by simp) ?_
      refine AllReadyH.cons rfl (fun K hK => ?_) AllReadyH.nil
      ·
        simp only [List.getElem_toArray, List.getElem_cons_zero, List.getElem_cons_succ]
        go_simp
        refine (small_b d HD.out.1 _).mono ?_
        rintro e x6 ⟨a1, l1, c1, z1, rfl, h1, e1, hb⟩
        replace Vn := Va.after hb Vn
        replace BX := step BX hb
        clear hb
        try go_wp2_with fail
        refine hK.out _ _ (LS.out _ BX) (fun hHeld => ?_)
        clear hK K
        refine wpAnyH_ready (rs := [6]) (by kernel_rfl) (by simp) ?_
        refine AllReadyH.cons rfl (fun K hK => ?_) AllReadyH.nil
        ·
          simp only [List.getElem_toArray, List.getElem_cons_zero, List.getElem_cons_succ]
          go_simp
          refine (nleft_b a1 l1 c1 z1 A _ h1 (by have h5 := e1.out.2; have h6 := HAB.out; omega)).mono ?_
          rintro e x7 ⟨a2, l2, c2, z2, rfl, h2, e2', hb⟩
          replace Vn := Va.after hb Vn
          replace h1 := Nt.after hb h1
          replace BX := step BX hb
          clear hb
          have e2 : num z2 = (d : Int) * 2 ^ A := by rw [e2'.out.1, e1.out.1]
          clear e1 e2' h1
          try go_wp2_with fail
          refine hK.out _ _ (LS.out _ BX) (fun hHeld => ?_)
          clear hK K
          refine wpAnyH_take (i := 7) (v := ?_) rfl (by kernel_rfl) (by kernel_rfl) (by kernel_rfl) (fun _ _ _ h => h) (Or.inl ⟨by rfl, ?_⟩) hHeld ?_
          rotate_left
          · (intro W hSw; (try dsimp only at hSw); go_simp; all_goals (with_reducible rfl))
          simp only [List.getElem_toArray, List.getElem_cons_zero, List.getElem_cons_succ, Act.put, List.setIfInBounds_toArray, List.set_cons_zero, List.set_cons_succ]
          refine wpAnyH_take (i := 8) (v := ?_) rfl (by kernel_rfl) (by kernel_rfl) (by kernel_rfl) (fun _ _ _ h => h) (Or.inl ⟨by rfl, ?_⟩) hHeld ?_
          rotate_left
          · (intro W hSw; (try dsimp only at hSw); go_simp; all_goals (with_reducible rfl))
          simp only [List.getElem_toArray, List.getElem_cons_zero, List.getElem_cons_succ, Act.put, List.setIfInBounds_toArray, List.set_cons_zero, List.set_cons_succ]
          refine wpAnyH_take (i := 9) (v := ?_) rfl (by kernel_rfl) (by kernel_rfl) (by kernel_rfl) (fun _ _ _ h => h) (Or.inl ⟨by rfl, ?_⟩) hHeld ?_
          rotate_left
          · (intro W hSw; (try dsimp only at hSw); go_simp; all_goals (with_reducible rfl))
          simp only [List.getElem_toArray, List.getElem_cons_zero, List.getElem_cons_succ, Act.put, List.setIfInBounds_toArray, List.set_cons_zero, List.set_cons_succ]
          have c_Vn := Vn.cell
          have f0_Vn := Vn.frozen 0
          have l_Vn := Vn.lt
          have m_Vn := Nat.le_of_lt l_Vn
          refine wpAnyH_ready (rs := [11]) (by kernel_rfl) (by simp) ?_
          refine AllReadyH.cons rfl (fun K hK => ?_) AllReadyH.nil
          simp only [List.getElem_toArray, List.getElem_cons_zero, List.getElem_cons_succ]
          go_simp
          clear c_Vn f0_Vn l_Vn m_Vn
          refine sto1 Vn (.slice a2 l2 c2) (Q := fun W => K _ W) ?_
          intro x8 V' oth far
          replace h2 := h2.far Vn (noInt1 _ _ _) far.1
          replace BX := far.2 _ _ (by first | omega | (simp; omega)) BX
          replace Vn := V'
          clear oth far
          refine hK.out _ _ (LS.out _ BX) (fun hHeld => ?_)
          clear hK K
          refine wpAnyH_take (i := 12) (v := ?_) rfl (by kernel_rfl) (by kernel_rfl) (by kernel_rfl) (fun _ _ _ h => h) (Or.inl ⟨by rfl, ?_⟩) hHeld ?_
          rotate_left
          · (intro W hSw; (try dsimp only at hSw); go_simp; all_goals (with_reducible rfl))
          simp only [List.getElem_toArray, List.getElem_cons_zero, List.getElem_cons_succ, Act.put, List.setIfInBounds_toArray, List.set_cons_zero, List.set_cons_succ]
          refine wpAnyH_done (by kernel_rfl) ?_ _
          refine NoPanic.normal ?_
          clear hHeld
          go_wp2_with fail
          go_meet
          exact ⟨_, a2, l2, c2, z2, rfl, Vn, h2, e2, BX, by show _ ≤ _; omega⟩
  case rest =>
    clear BX
    obtain ⟨q6, a2, l2, c2, z2, rfl, Vn', h2', EN', BX', hineq'⟩ := hcut
    have Vn := Vn'.out
    have h2 := h2'.out
    have EN := EN'.out
    have BX := BX'.out
    have hineq := hineq'.out
    clear Vn' h2' EN' BX' hineq'
    have iq0 := hineq
    clear hineq
    go_wp2_with fail
    have V2 := Va.after BX L_V2.out
    have Vp := Va.after BX L_Vp.out
    have B0 := step L_B.out BX
    have EN' : Hid (num z2 = (d : Int) * 2 ^ A) := EN
    clear EN
    obtain ⟨an, hn⟩ : ∃ y, y = a2 := ⟨_, rfl⟩
    obtain ⟨ln, hln⟩ : ∃ y, y = l2 := ⟨_, rfl⟩
    obtain ⟨cn, hcn⟩ : ∃ y, y = c2 := ⟨_, rfl⟩
    obtain ⟨zn, hzn⟩ : ∃ y, y = z2 := ⟨_, rfl⟩
    rw [← hn, ← hln, ← hcn] at Vn
    rw [← hn, ← hln, ← hcn, ← hzn] at h2
    rw [← hzn] at EN'
    have hnn := h2
    clear h2 hn hln hcn hzn
    have LS : Hid (∀ W, Below wc.heap.size wc W → (fun W => W.cell? ⟨x2.heap.size, 0, none⟩ = some (.bool (fsg x)) ∧ W.cell? ⟨x2.heap.size, 1, none⟩ = some (.int .u64 (d : Int)) ∧ W.cell? ⟨x2.heap.size, 2, none⟩ = some (.int .i64 ((u : Int) - 1074))) W) := fun W hb => ⟨(Va.after hb Vp).d0, (Va.after hb Vp).d1, (Va.after hb Vp).d2⟩
    have lb_V2 := V2.lt
    have L_V2 : Hid (Va wc (w.heap.size) 39 #[.bool false, .slice none 0 0, .slice none 0 0]) := V2
    have lb_Vp := Vp.lt
    have L_Vp : Hid (Va wc (x2.heap.size) 118 #[.bool (fsg x), .int .u64 (d : Int), .int .i64 ((u : Int) - 1074)]) := Vp
    have lb_Vn := Vn.lt
    have L_Vn : Hid (Va wc (q6) 35 #[.slice an ln cn]) := Vn
    have L_hnn : Hid (Nt wc an ln cn zn) := hnn
    have L_B : Hid (Below w.heap.size w wc) := B0
    clear V2 Vp Vn hnn B0
    have BX := Below.refl wc.heap.size wc
    go_cut [8] (fun s8 wx => ∃ (q8 : Nat) (a2 : Option Addr) (l2 c2 : Nat) (z2 : List Int), s8 = .pointer (some ⟨q8, 0, none⟩) ∧ Hid (Va wx q8 35 #[.slice a2 l2 c2]) ∧ Hid (Nt wx a2 l2 c2 z2) ∧ Hid (num z2 = ((1 : Nat) : Int) * 2 ^ B) ∧ Hid (Below wc.heap.size wc wx) ∧ Hid (w.heap.size + 1 ≤ q8))
    case first =>
      refine wp_region_noPanic ?_
      replace BX := Below.drew BX
      refine wp_region_held_drew (S := (fun W => W.cell? ⟨x2.heap.size, 0, none⟩ = some (.bool (fsg x)) ∧ W.cell? ⟨x2.heap.size, 1, none⟩ = some (.int .u64 (d : Int)) ∧ W.cell? ⟨x2.heap.size, 2, none⟩ = some (.int .i64 ((u : Int) - 1074)))) (by kernel_rfl) (LS.out _ BX) (fun hHeld => ?_)
      obtain ⟨x4, hxd⟩ : ∃ xd, xd = wc.drew := ⟨_, rfl⟩
      rw [← hxd] at BX hHeld ⊢
      clear hxd
      refine wpAnyH_take (i := 1) (v := ?_) rfl (by kernel_rfl) (by kernel_rfl) (by kernel_rfl) (fun _ _ _ h => h) (Or.inl ⟨by rfl, ?_⟩) hHeld ?_
      rotate_left
      · (intro W hSw; (try dsimp only at hSw); go_simp; all_goals (with_reducible rfl))
      simp only [List.getElem_toArray, List.getElem_cons_zero, List.getElem_cons_succ, Act.put, List.setIfInBounds_toArray, List.set_cons_zero, List.set_cons_succ]
      refine wpAnyH_take (i := 2) (v := ?_) rfl (by kernel_rfl) (by kernel_rfl) (by kernel_rfl) (fun _ _ _ h => h) (Or.inl ⟨by rfl, ?_⟩) hHeld ?_
      rotate_left
      · (intro W hSw; (try dsimp only at hSw); go_simp; all_goals (with_reducible rfl))
      simp only [List.getElem_toArray, List.getElem_cons_zero, List.getElem_cons_succ, Act.put, List.setIfInBounds_toArray, List.set_cons_zero, List.set_cons_succ]
      refine wpAnyH_take (i := 3) (v := .int .i64 (-((u : Int) - 1074))) rfl (by kernel_rfl) (by kernel_rfl) (by kernel_rfl) (fun _ _ _ h => h) (Or.inl ⟨by rfl, ?_⟩) hHeld ?_
      · (intro W hSw; (try dsimp only at hSw); go_simp; first | rfl | (rw [HW.out]) | (have h5 := HW.out; simp only [go_sem] at h5; rw [h5]) | skip)
      simp only [List.getElem_toArray, List.getElem_cons_zero, List.getElem_cons_succ, Act.put, List.setIfInBounds_toArray, List.set_cons_zero, List.set_cons_succ]
      refine wpAnyH_take (i := 4) (v := .int .i64 (B : Int)) rfl (by kernel_rfl) (by kernel_rfl) (by kernel_rfl) (fun _ _ _ h => h) (Or.inl ⟨by rfl, ?_⟩) hHeld ?_
      · (intro W hSw; (try dsimp only at hSw); go_simp; first | rfl | (rw [HB.out]) | (have h5 := HB.out; simp only [go_sem] at h5; rw [h5]) | skip)
      simp only [List.getElem_toArray, List.getElem_cons_zero, List.getElem_cons_succ, Act.put, List.setIfInBounds_toArray, List.set_cons_zero, List.set_cons_succ]
      refine wpAnyH_ready (rs := [0, 9]) (by kernel_rfl) (by simp) ?_
      refine AllReadyH.cons rfl (fun K hK => ?_) (AllReadyH.cons rfl (fun K hK => ?_) AllReadyH.nil)
      ·
        simp only [List.getElem_toArray, List.getElem_cons_zero]
        go_simp
        refine (small_b 1 (by omega) _).mono ?_
        rintro e x5 ⟨a1, l1, c1, z1, rfl, h1, e1, hb⟩
        replace BX := step BX hb
        clear hb
        try go_wp2_with fail
        refine hK.out _ _ (LS.out _ BX) (fun hHeld => ?_)
        clear hK K
        refine wpAnyH_ready (rs := [5, 9]) (by kernel_rfl) (by simp) ?_
        refine AllReadyH.cons rfl (fun K hK => ?_) (AllReadyH.cons rfl (fun K hK => ?_) AllReadyH.nil)
        ·
          simp only [List.getElem_toArray, List.getElem_cons_zero, List.getElem_cons_succ]
          go_simp
          refine (nleft_b a1 l1 c1 z1 B _ h1 (by have h5 := e1.out.2; have h6 := HAB.out; omega)).mono ?_
          rintro e x6 ⟨a2, l2, c2, z2, rfl, h2, e2', hb⟩
          replace h1 := Nt.after hb h1
          replace BX := step BX hb
          clear hb
          have e2 : num z2 = ((1 : Nat) : Int) * 2 ^ B := by rw [e2'.out.1, e1.out.1]
          clear e1 e2' h1
          try go_wp2_with fail
          refine hK.out _ _ (LS.out _ BX) (fun hHeld => ?_)
          clear hK K
          refine wpAnyH_take (i := 6) (v := ?_) rfl (by kernel_rfl) (by kernel_rfl) (by kernel_rfl) (fun _ _ _ h => h) (Or.inl ⟨by rfl, ?_⟩) hHeld ?_
          rotate_left
          · (intro W hSw; (try dsimp only at hSw); go_simp; all_goals (with_reducible rfl))
          simp only [List.getElem_toArray, List.getElem_cons_zero, List.getElem_cons_succ, Act.put, List.setIfInBounds_toArray, List.set_cons_zero, List.set_cons_succ]
          refine wpAnyH_take (i := 7) (v := ?_) rfl (by kernel_rfl) (by kernel_rfl) (by kernel_rfl) (fun _ _ _ h => h) (Or.inl ⟨by rfl, ?_⟩) hHeld ?_
          rotate_left
          · (intro W hSw; (try dsimp only at hSw); go_simp; all_goals (with_reducible rfl))
          simp only [List.getElem_toArray, List.getElem_cons_zero, List.getElem_cons_succ, Act.put, List.setIfInBounds_toArray, List.set_cons_zero, List.set_cons_succ]
          refine wpAnyH_take (i := 8) (v := ?_) rfl (by kernel_rfl) (by kernel_rfl) (by kernel_rfl) (fun _ _ _ h => h) (Or.inl ⟨by rfl, ?_⟩) hHeld ?_
          rotate_left
          · (intro W hSw; (try dsimp only at hSw); go_simp; all_goals (with_reducible rfl))
          simp only [List.getElem_toArray, List.getElem_cons_zero, List.getElem_cons_succ, Act.put, List.setIfInBounds_toArray, List.set_cons_zero, List.set_cons_succ]
          refine wpAnyH_ready (rs := [9]) (by kernel_rfl) (by simp) ?_
          refine AllReadyH.cons rfl (fun K hK => ?_) AllReadyH.nil
          ·
            simp only [List.getElem_toArray, List.getElem_cons_zero, List.getElem_cons_succ]
            go_simp
            have sz_Vd := BX.size
            refine ent1 _ _ _ (Q := fun V => K _ V) ?_
            intro x7 hb hs_ Vd
            replace h2 := Nt.after hb h2
            replace BX := step BX hb
            clear hb hs_
            refine hK.out _ _ (LS.out _ BX) (fun hHeld => ?_)
            clear hK K
            have c_Vd := Vd.cell
            have f0_Vd := Vd.frozen 0
            have l_Vd := Vd.lt
            have m_Vd := Nat.le_of_lt l_Vd
            refine wpAnyH_ready (rs := [10]) (by kernel_rfl) (by simp) ?_
            refine AllReadyH.cons rfl (fun K hK => ?_) AllReadyH.nil
            simp only [List.getElem_toArray, List.getElem_cons_zero, List.getElem_cons_succ]
            go_simp
            clear c_Vd f0_Vd l_Vd m_Vd
            refine sto1 Vd (.slice a2 l2 c2) (Q := fun W => K _ W) ?_
            intro x8 V' oth far
            replace h2 := h2.far Vd (noInt1 _ _ _) far.1
            replace BX := far.2 _ _ (by first | omega | (simp; omega)) BX
            replace Vd := V'
            clear oth far
            refine hK.out _ _ (LS.out _ BX) (fun hHeld => ?_)
            clear hK K
            refine wpAnyH_take (i := 11) (v := ?_) rfl (by kernel_rfl) (by kernel_rfl) (by kernel_rfl) (fun _ _ _ h => h) (Or.inl ⟨by rfl, ?_⟩) hHeld ?_
            rotate_left
            · (intro W hSw; (try dsimp only at hSw); go_simp; all_goals (with_reducible rfl))
            simp only [List.getElem_toArray, List.getElem_cons_zero, List.getElem_cons_succ, Act.put, List.setIfInBounds_toArray, List.set_cons_zero, List.set_cons_succ]
            refine wpAnyH_done (by kernel_rfl) ?_ _
            refine NoPanic.normal ?_
            clear hHeld
            go_wp2_with fail
            go_meet
            exact ⟨_, a2, l2, c2, z2, rfl, Vd, h2, e2, BX, by show _ ≤ _; omega⟩
        ·
          simp only [List.getElem_toArray, List.getElem_cons_zero, List.getElem_cons_succ]
          go_simp
          have sz_Vd := BX.size
          refine ent1 _ _ _ (Q := fun V => K _ V) ?_
          intro x6 hb hs_ Vd
          replace h1 := Nt.after hb h1
          replace BX := step BX hb
          clear hb hs_
          refine hK.out _ _ (LS.out _ BX) (fun hHeld => ?_)
          clear hK K
          refine wpAnyH_ready (rs := [5]) (by kernel_rfl) (by simp) ?_
          refine AllReadyH.cons rfl (fun K hK => ?_) AllReadyH.nil
          ·
            simp only [List.getElem_toArray, List.getElem_cons_zero, List.getElem_cons_succ]
            go_simp
            refine (nleft_b a1 l1 c1 z1 B _ h1 (by have h5 := e1.out.2; have h6 := HAB.out; omega)).mono ?_
            rintro e x7 ⟨a2, l2, c2, z2, rfl, h2, e2', hb⟩
            replace Vd := Va.after hb Vd
            replace h1 := Nt.after hb h1
            replace BX := step BX hb
            clear hb
            have e2 : num z2 = ((1 : Nat) : Int) * 2 ^ B := by rw [e2'.out.1, e1.out.1]
            clear e1 e2' h1
            try go_wp2_with fail
            refine hK.out _ _ (LS.out _ BX) (fun hHeld => ?_)
            clear hK K
            refine wpAnyH_take (i := 6) (v := ?_) rfl (by kernel_rfl) (by kernel_rfl) (by kernel_rfl) (fun _ _ _ h => h) (Or.inl ⟨by rfl, ?_⟩) hHeld ?_
            rotate_left
            · (intro W hSw; (try dsimp only at hSw); go_simp; all_goals (with_reducible rfl))
            simp only [List.getElem_toArray, List.getElem_cons_zero, List.getElem_cons_succ, Act.put, List.setIfInBounds_toArray, List.set_cons_zero, List.set_cons_succ]
            refine wpAnyH_take (i := 7) (v := ?_) rfl (by kernel_rfl) (by kernel_rfl) (by kernel_rfl) (fun _ _ _ h => h) (Or.inl ⟨by rfl, ?_⟩) hHeld ?_
            rotate_left
            · (intro W hSw; (try dsimp only at hSw); go_simp; all_goals (with_reducible rfl))
            simp only [List.getElem_toArray, List.getElem_cons_zero, List.getElem_cons_succ, Act.put, List.setIfInBounds_toArray, List.set_cons_zero, List.set_cons_succ]
            refine wpAnyH_take (i := 8) (v := ?_) rfl (by kernel_rfl) (by kernel_rfl) (by kernel_rfl) (fun _ _ _ h => h) (Or.inl ⟨by rfl, ?_⟩) hHeld ?_
            rotate_left
            · (intro W hSw; (try dsimp only at hSw); go_simp; all_goals (with_reducible rfl))
            simp only [List.getElem_toArray, List.getElem_cons_zero, List.getElem_cons_succ, Act.put, List.setIfInBounds_toArray, List.set_cons_zero, List.set_cons_succ]
            have c_Vd := Vd.cell
            have f0_Vd := Vd.frozen 0
            have l_Vd := Vd.lt
            have m_Vd := Nat.le_of_lt l_Vd
            refine wpAnyH_ready (rs := [10]) (by kernel_rfl) (by simp) ?_
            refine AllReadyH.cons rfl (fun K hK => ?_) AllReadyH.nil
            simp only [List.getElem_toArray, List.getElem_cons_zero, List.getElem_cons_succ]
            go_simp
            clear c_Vd f0_Vd l_Vd m_Vd
            refine sto1 Vd (.slice a2 l2 c2) (Q := fun W => K _ W) ?_
            intro x8 V' oth far
            replace h2 := h2.far Vd (noInt1 _ _ _) far.1
            replace BX := far.2 _ _ (by first | omega | (simp; omega)) BX
            replace Vd := V'
            clear oth far
            refine hK.out _ _ (LS.out _ BX) (fun hHeld => ?_)
            clear hK K
            refine wpAnyH_take (i := 11) (v := ?_) rfl (by kernel_rfl) (by kernel_rfl) (by kernel_rfl) (fun _ _ _ h => h) (Or.inl ⟨by rfl, ?_⟩) hHeld ?_
            rotate_left
            · (intro W hSw; (try dsimp only at hSw); go_simp; all_goals (with_reducible rfl))
            simp only [List.getElem_toArray, List.getElem_cons_zero, List.getElem_cons_succ, Act.put, List.setIfInBounds_toArray, List.set_cons_zero, List.set_cons_succ]
            refine wpAnyH_done (by kernel_rfl) ?_ _
            refine NoPanic.normal ?_
            clear hHeld
            go_wp2_with fail
            go_meet
            exact ⟨_, a2, l2, c2, z2, rfl, Vd, h2, e2, BX, by show _ ≤ _; omega⟩
      ·
        simp only [List.getElem_toArray, List.getElem_cons_zero, List.getElem_cons_succ]
        go_simp
        have sz_Vd := BX.size
        refine ent1 _ _ _ (Q := fun V => K _ V) ?_
        intro x5 hb hs_ Vd
        replace BX := step BX hb
        clear hb hs_
        refine hK.out _ _ (LS.out _ BX) (fun hHeld => ?_)
        clear hK K
        refine wpAnyH_ready (rs := [0]) (by kernel_rfl) (by simp) ?_
        refine AllReadyH.cons rfl (fun K hK => ?_) AllReadyH.nil
        ·
          simp only [List.getElem_toArray, List.getElem_cons_zero]
          go_simp
          refine (small_b 1 (by omega) _).mono ?_
          rintro e x6 ⟨a1, l1, c1, z1, rfl, h1, e1, hb⟩
          replace Vd := Va.after hb Vd
          replace BX := step BX hb
          clear hb
          try go_wp2_with fail
          refine hK.out _ _ (LS.out _ BX) (fun hHeld => ?_)
          clear hK K
          refine wpAnyH_ready (rs := [5]) (by kernel_rfl) (by simp) ?_
          refine AllReadyH.cons rfl (fun K hK => ?_) AllReadyH.nil
          ·
            simp only [List.getElem_toArray, List.getElem_cons_zero, List.getElem_cons_succ]
            go_simp
            refine (nleft_b a1 l1 c1 z1 B _ h1 (by have h5 := e1.out.2; have h6 := HAB.out; omega)).mono ?_
            rintro e x7 ⟨a2, l2, c2, z2, rfl, h2, e2', hb⟩
            replace Vd := Va.after hb Vd
            replace h1 := Nt.after hb h1
            replace BX := step BX hb
            clear hb
            have e2 : num z2 = ((1 : Nat) : Int) * 2 ^ B := by rw [e2'.out.1, e1.out.1]
            clear e1 e2' h1
            try go_wp2_with fail
            refine hK.out _ _ (LS.out _ BX) (fun hHeld => ?_)
            clear hK K
            refine wpAnyH_take (i := 6) (v := ?_) rfl (by kernel_rfl) (by kernel_rfl) (by kernel_rfl) (fun _ _ _ h => h) (Or.inl ⟨by rfl, ?_⟩) hHeld ?_
            rotate_left
            · (intro W hSw; (try dsimp only at hSw); go_simp; all_goals (with_reducible rfl))
            simp only [List.getElem_toArray, List.getElem_cons_zero, List.getElem_cons_succ, Act.put, List.setIfInBounds_toArray, List.set_cons_zero, List.set_cons_succ]
            refine wpAnyH_take (i := 7) (v := ?_) rfl (by kernel_rfl) (by kernel_rfl) (by kernel_rfl) (fun _ _ _ h => h) (Or.inl ⟨by rfl, ?_⟩) hHeld ?_
            rotate_left
            · (intro W hSw; (try dsimp only at hSw); go_simp; all_goals (with_reducible rfl))
            simp only [List.getElem_toArray, List.getElem_cons_zero, List.getElem_cons_succ, Act.put, List.setIfInBounds_toArray, List.set_cons_zero, List.set_cons_succ]
            refine wpAnyH_take (i := 8) (v := ?_) rfl (by kernel_rfl) (by kernel_rfl) (by kernel_rfl) (fun _ _ _ h => h) (Or.inl ⟨by rfl, ?_⟩) hHeld ?_
            rotate_left
            · (intro W hSw; (try dsimp only at hSw); go_simp; all_goals (with_reducible rfl))
            simp only [List.getElem_toArray, List.getElem_cons_zero, List.getElem_cons_succ, Act.put, List.setIfInBounds_toArray, List.set_cons_zero, List.set_cons_succ]
            have c_Vd := Vd.cell
            have f0_Vd := Vd.frozen 0
            have l_Vd := Vd.lt
            have m_Vd := Nat.le_of_lt l_Vd
            refine wpAnyH_ready (rs := [10]) (by kernel_rfl) (by simp) ?_
            refine AllReadyH.cons rfl (fun K hK => ?_) AllReadyH.nil
            simp only [List.getElem_toArray, List.getElem_cons_zero, List.getElem_cons_succ]
            go_simp
            clear c_Vd f0_Vd l_Vd m_Vd
            refine sto1 Vd (.slice a2 l2 c2) (Q := fun W => K _ W) ?_
            intro x8 V' oth far
            replace h2 := h2.far Vd (noInt1 _ _ _) far.1
            replace BX := far.2 _ _ (by first | omega | (simp; omega)) BX
            replace Vd := V'
            clear oth far
            refine hK.out _ _ (LS.out _ BX) (fun hHeld => ?_)
            clear hK K
            refine wpAnyH_take (i := 11) (v := ?_) rfl (by kernel_rfl) (by kernel_rfl) (by kernel_rfl) (fun _ _ _ h => h) (Or.inl ⟨by rfl, ?_⟩) hHeld ?_
            rotate_left
            · (intro W hSw; (try dsimp only at hSw); go_simp; all_goals (with_reducible rfl))
            simp only [List.getElem_toArray, List.getElem_cons_zero, List.getElem_cons_succ, Act.put, List.setIfInBounds_toArray, List.set_cons_zero, List.set_cons_succ]
            refine wpAnyH_done (by kernel_rfl) ?_ _
            refine NoPanic.normal ?_
            clear hHeld
            go_wp2_with fail
            go_meet
            exact ⟨_, a2, l2, c2, z2, rfl, Vd, h2, e2, BX, by show _ ≤ _; omega⟩
    case rest =>
      clear BX
      obtain ⟨q8, a2, l2, c2, z2, rfl, Vd', h2', EM', BX', hineq'⟩ := hcut
      have Vd := Vd'.out
      have h2 := h2'.out
      have EM := EM'.out
      have BX := BX'.out
      have hineq := hineq'.out
      clear Vd' h2' EM' BX' hineq'
      have iq1 := hineq
      clear hineq
      go_wp2_with fail
      have V2 := Va.after BX L_V2.out
      have Vp := Va.after BX L_Vp.out
      have Vn := Va.after BX L_Vn.out
      have hnn := Nt.after BX L_hnn.out
      have B0 := step L_B.out BX
      have EM' : Hid (num z2 = (2 : Int) ^ B) := by show _ = _; rw [EM]; simp
      clear EM
      refine wp_region_noPanic ?_
      replace V2 : Va wc.drew _ _ _ := V2
      replace Vp : Va wc.drew _ _ _ := Vp
      replace Vn : Va wc.drew _ _ _ := Vn
      replace Vd : Va wc.drew _ _ _ := Vd
      replace hnn := hnn.drw
      replace h2 := h2.drw
      replace B0 := Below.drew B0
      refine wp_region_held_drew (S := (fun W => W.cell? ⟨x2.heap.size, 0, none⟩ = some (.bool (fsg x)) ∧ W.cell? ⟨x2.heap.size, 1, none⟩ = some (.int .u64 (d : Int)) ∧ W.cell? ⟨x2.heap.size, 2, none⟩ = some (.int .i64 ((u : Int) - 1074)) ∧ W.cell? ⟨q6, 0, none⟩ = some (.slice an ln cn) ∧ W.cell? ⟨q8, 0, none⟩ = some (.slice a2 l2 c2))) (by kernel_rfl) ⟨Vp.d0, Vp.d1, Vp.d2, Vn.cell, Vd.cell⟩ (fun hHeld => ?_)
      obtain ⟨x4, hxd⟩ : ∃ xd, xd = wc.drew := ⟨_, rfl⟩
      rw [← hxd] at V2 Vp Vn Vd hnn h2 B0 hHeld ⊢
      clear hxd
      refine wpAnyH_take (i := 0) (v := ?_) rfl (by kernel_rfl) (by kernel_rfl) (by kernel_rfl) (fun _ _ _ h => h) (Or.inl ⟨by rfl, ?_⟩) hHeld ?_
      rotate_left
      · (intro W hSw; (try dsimp only at hSw); go_simp; all_goals (with_reducible rfl))
      simp only [List.getElem_toArray, List.getElem_cons_zero, Act.put, List.setIfInBounds_toArray, List.set_cons_zero, List.set_cons_succ]
      refine wpAnyH_take (i := 1) (v := ?_) rfl (by kernel_rfl) (by kernel_rfl) (by kernel_rfl) (fun _ _ _ h => h) (Or.inl ⟨by rfl, ?_⟩) hHeld ?_
      rotate_left
      · (intro W hSw; (try dsimp only at hSw); go_simp; all_goals (with_reducible rfl))
      simp only [List.getElem_toArray, List.getElem_cons_zero, List.getElem_cons_succ, Act.put, List.setIfInBounds_toArray, List.set_cons_zero, List.set_cons_succ]
      refine wpAnyH_take (i := 2) (v := ?_) rfl (by kernel_rfl) (by kernel_rfl) (by kernel_rfl) (fun _ _ _ h => h) (Or.inl ⟨by rfl, ?_⟩) hHeld ?_
      rotate_left
      · (intro W hSw; (try dsimp only at hSw); go_simp; all_goals (with_reducible rfl))
      simp only [List.getElem_toArray, List.getElem_cons_zero, List.getElem_cons_succ, Act.put, List.setIfInBounds_toArray, List.set_cons_zero, List.set_cons_succ]
      refine wpAnyH_take (i := 4) (v := ?_) rfl (by kernel_rfl) (by kernel_rfl) (by kernel_rfl) (fun _ _ _ h => h) (Or.inl ⟨by rfl, ?_⟩) hHeld ?_
      rotate_left
      · (intro W hSw; (try dsimp only at hSw); go_simp; all_goals (with_reducible rfl))
      simp only [List.getElem_toArray, List.getElem_cons_zero, List.getElem_cons_succ, Act.put, List.setIfInBounds_toArray, List.set_cons_zero, List.set_cons_succ]
      refine wpAnyH_ready (rs := [3]) (by kernel_rfl) (by simp) ?_
      refine AllReadyH.cons rfl (fun K hK => ?_) AllReadyH.nil
      simp only [List.getElem_toArray, List.getElem_cons_zero, List.getElem_cons_succ]
      go_simp
      refine (wnew_any (fsg x) an ln cn zn _ hnn).mono ?_
      rintro e x5 ⟨s5, rfl, h5, e5, hb⟩
      replace V2 := Va.after hb V2
      replace Vp := Va.after hb Vp
      replace Vn := Va.after hb Vn
      replace Vd := Va.after hb Vd
      replace hnn := Nt.after hb hnn
      replace h2 := Nt.after hb h2
      replace B0 := step B0 hb
      clear hb
      try go_wp2_with fail
      refine hK.out _ _ ⟨Vp.d0, Vp.d1, Vp.d2, Vn.cell, Vd.cell⟩ (fun hHeld => ?_)
      clear hK K
      refine wpAnyH_ready (rs := [5]) (by kernel_rfl) (by simp) ?_
      refine AllReadyH.cons rfl (fun K hK => ?_) AllReadyH.nil
      simp only [List.getElem_toArray, List.getElem_cons_zero, List.getElem_cons_succ]
      go_simp
      refine (wnew_any false a2 l2 c2 z2 _ h2).mono ?_
      rintro e x6 ⟨s6, rfl, h6, e6, hb⟩
      replace V2 := Va.after hb V2
      replace Vp := Va.after hb Vp
      replace Vn := Va.after hb Vn
      replace Vd := Va.after hb Vd
      replace hnn := Nt.after hb hnn
      replace h2 := Nt.after hb h2
      replace h5 := It.after hb h5
      replace B0 := step B0 hb
      clear hb
      try go_wp2_with fail
      refine hK.out _ _ ⟨Vp.d0, Vp.d1, Vp.d2, Vn.cell, Vd.cell⟩ (fun hHeld => ?_)
      clear hK K
      refine wpAnyH_ready (rs := [6]) (by kernel_rfl) (by simp) ?_
      refine AllReadyH.cons rfl (fun K hK => ?_) AllReadyH.nil
      simp only [List.getElem_toArray, List.getElem_cons_zero, List.getElem_cons_succ]
      go_simp
      refine (qnew_ok s5 s6 an a2 ln cn l2 c2 zn z2 _ h5 h6 (by rw [e6, iv_f, EM'.out]; have h7 := two_pos' B; omega)).mono ?_
      rintro e x7 ⟨er, s7, a7, l7, c7, z7, b7, m7, d7, y7, v7, rfl, h7, hRA, hb⟩
      replace V2 := Va.after hb V2
      replace Vp := Va.after hb Vp
      replace Vn := Va.after hb Vn
      replace Vd := Va.after hb Vd
      replace hnn := Nt.after hb hnn
      replace h2 := Nt.after hb h2
      replace h5 := It.after hb h5
      replace h6 := It.after hb h6
      replace B0 := step B0 hb
      clear hb
      have HV : Hid (er = 0 ∧ v7 = fv x) := by
        have h8 := hRA.out
        have h9 : Rat.divInt (iv s5 zn) (iv s6 z2) = fv x := by
          refine fv_made x (fsg x) d u 0 ?_ A B HAB.out.1 _ ?_ _ ?_
          · rw [fz_sg HX.out.1, HD.out.2.2]
          · rw [e5]; unfold iv; rw [EN'.out, ← pow_cast, ← Int.natCast_mul]
          · rw [e6, iv_f, EM'.out, ← pow_cast]
        rw [h9] at h8
        rcases h8 with ⟨-, h8, h10⟩ | ⟨h8, -, -⟩
        · exact ⟨h8, h10⟩
        · exact absurd (short_fv HX.out.1 HX.out.2) h8
      have hv1 := HV.out.1
      have hv2 := HV.out.2
      subst hv1 hv2
      clear HV hRA
      try go_wp2_with fail
      refine hK.out _ _ ⟨Vp.d0, Vp.d1, Vp.d2, Vn.cell, Vd.cell⟩ (fun hHeld => ?_)
      clear hK K
      refine wpAnyH_take (i := 7) (v := ?_) rfl (by kernel_rfl) (by kernel_rfl) (by kernel_rfl) (fun _ _ _ h => h) (Or.inl ⟨by rfl, ?_⟩) hHeld ?_
      rotate_left
      · (intro W hSw; (try dsimp only at hSw); go_simp; all_goals (with_reducible rfl))
      simp only [List.getElem_toArray, List.getElem_cons_zero, List.getElem_cons_succ, Act.put, List.setIfInBounds_toArray, List.set_cons_zero, List.set_cons_succ]
      refine wpAnyH_take (i := 8) (v := ?_) rfl (by kernel_rfl) (by kernel_rfl) (by kernel_rfl) (fun _ _ _ h => h) (Or.inl ⟨by rfl, ?_⟩) hHeld ?_
      rotate_left
      · (intro W hSw; (try dsimp only at hSw); go_simp; all_goals (with_reducible rfl))
      simp only [List.getElem_toArray, List.getElem_cons_zero, List.getElem_cons_succ, Act.put, List.setIfInBounds_toArray, List.set_cons_zero, List.set_cons_succ]
      have c_V2 := V2.d0
      have f0_V2 := V2.frozen 0
      have d_V2 := V2.d1
      have f1_V2 := V2.frozen 1
      have e_V2 := V2.d2
      have f2_V2 := V2.frozen 2
      have l_V2 := V2.lt
      have m_V2 := Nat.le_of_lt l_V2
      refine wpAnyH_ready (rs := [9]) (by kernel_rfl) (by simp) ?_
      refine AllReadyH.cons rfl (fun K hK => ?_) AllReadyH.nil
      simp only [List.getElem_toArray, List.getElem_cons_zero, List.getElem_cons_succ]
      go_simp
      clear c_V2 f0_V2 d_V2 f1_V2 e_V2 f2_V2 l_V2 m_V2
      refine sto3 V2 (.bool s7) (.slice a7 l7 c7) (.slice b7 m7 d7) (Q := fun W => K _ W) ?_
      intro x8 V' oth far
      replace Vp := oth _ _ _ (by first | omega | assumption | (simp; omega)) Vp
      replace Vn := oth _ _ _ (by first | omega | assumption | (simp; omega)) Vn
      replace Vd := oth _ _ _ (by first | omega | assumption | (simp; omega)) Vd
      replace hnn := hnn.far V2 (noInt3 _ _ _ _ _ _ _) far.1
      replace h2 := h2.far V2 (noInt3 _ _ _ _ _ _ _) far.1
      replace h5 := h5.far V2 (noInt3 _ _ _ _ _ _ _) far.1
      replace h6 := h6.far V2 (noInt3 _ _ _ _ _ _ _) far.1
      replace h7 := h7.far V2 (noInt3 _ _ _ _ _ _ _) far.1
      replace B0 := far.2 _ _ (by first | omega | (simp; omega)) B0
      replace V2 := V'
      clear oth far
      refine hK.out _ _ ⟨Vp.d0, Vp.d1, Vp.d2, Vn.cell, Vd.cell⟩ (fun hHeld => ?_)
      clear hK K
      refine wpAnyH_take (i := 10) (v := ?_) rfl (by kernel_rfl) (by kernel_rfl) (by kernel_rfl) (fun _ _ _ h => h) (Or.inl ⟨by rfl, ?_⟩) hHeld ?_
      rotate_left
      · (intro W hSw; (try dsimp only at hSw); go_simp; all_goals (with_reducible rfl))
      simp only [List.getElem_toArray, List.getElem_cons_zero, List.getElem_cons_succ, Act.put, List.setIfInBounds_toArray, List.set_cons_zero, List.set_cons_succ]
      refine wpAnyH_done (by kernel_rfl) ?_ _
      refine NoPanic.normal ?_
      clear hHeld
      go_wp2_with fail
      refine bodyPost_ret (results_rt rfl rfl V2) rfl ?_
      exact ⟨s7, a7, l7, c7, z7, b7, m7, d7, y7, rfl, h7, B0⟩
end Go.Proofs.YtmhfoeooccppfaaGreat
