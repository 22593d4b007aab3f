/-
  rounding.above, isOdd, rounded, To.
-/
import Derived.Test.YtegfklapgbggfaaGreatRdP
import Derived.Test.YtegfklapgbggfaaGreatRt3
import Derived.Test.YtegfklapgbggfaaGreatAl
namespace Go.Proofs.YtegfklapgbggfaaGreat
open Go.RowKit Go.Shelf
set_option linter.unusedVariables false

theorem div_of {n d q r : Int} (h : n = q * d + r) (h0 : 0 ≤ r) (h1 : r < d) : q = n / d ∧ r = n % d := by
  have e : n / d = q := by
    rw [h, Int.add_comm, Int.add_mul_ediv_right _ _ (by omega), Int.ediv_eq_zero_of_lt h0 h1]; omega
  refine ⟨e.symm, ?_⟩
  have := Int.mul_ediv_add_emod n d
  rw [e, Int.mul_comm] at this
  omega
theorem odd_abs {z q r : Int} (h : ((z.natAbs : Nat) : Int) = q * 2 + r) (h0 : 0 ≤ r) (h1 : r < 2) : decide (z % 2 ≠ 0) = !decide (r = 0) := by
  by_cases h2 : r = 0 <;> simp [h2] <;> omega
theorem noIntY (m : Int) (nm : ByteArray) (f : Value) (hf : ∀ z, f ≠ .int .u64 z) : NoInt #[.int .i64 m, .string nm, f] := by
  intro i z h
  rcases i with _ | _ | _ | i <;> simp at h
  exact hf z h
theorem nleft_one (a : Option Addr) (la ca : Nat) (xs : List Int) (w : World) (ha : Nt w a la ca xs) (hl : Hid (num xs < pw 2048)) :
    Calls Tryz.prog 54 #[.agg #[.slice a la ca], .int .i64 1] w fun e w' => ∃ a' l' c' zs, e = .returned (.tuple #[.agg #[.slice a' l' c'], .int .i64 0]) ∧ Nt w' a' l' c' zs ∧ num zs = 2 * num xs ∧ Below w.heap.size w w' := by
  have hl2 : la ≤ 2048 := (ha.short 2048).2 hl.out
  have hb := (bits_limbs ha.limbs).2.2
  have hu : usedN xs = la := ha.2.1
  refine (nleft_ok a la ca xs 1 w ha (Or.inr (by omega))).mono ?_
  rintro e w' ⟨a', l', c', zs, rfl, h, hz, hb⟩
  exact ⟨a', l', c', zs, rfl, h, by rw [hz]; omega, hb⟩

theorem above7 (b : Option Addr) (m d : Nat) (y : List Int) (w : World) (h : Nt w b m d y) :
    Calls Tryz.prog 21 #[.agg #[.slice b m d]] w fun e w' => e = .returned (.agg #[.bool false, .slice b m d]) ∧ It w' false b m d y ∧ Below w.heap.size w w' := by
  have B0 : Below w.heap.size w w := Below.refl _ _
  go_enter Tryz.func21, Tryz.ntmps21
  go_wp2_with fail
  refine ent2 w _ _ _ _ (Q := fun W => Calls Tryz.prog _ _ W _) ?_
  intro x1 hb hs_x1 V0 V1
  replace h := Nt.after hb h
  replace B0 := step B0 hb
  clear hb hs_x1
  refine (wnew_any false b m d y x1 h).mono ?_
  rintro e x2 ⟨s', rfl, h', e', hb⟩
  replace V0 := Va.after hb V0
  replace V1 := Va.after hb V1
  replace h := Nt.after hb h
  replace B0 := step B0 hb
  clear hb
  obtain rfl : s' = false := by
    have := h'.sign
    rw [e', iv_f] at this
    have h0 := h.nonneg
    rw [this]; simp; exact h0
  clear e'
  have c_V1 := V1.c0
  have f0_V1 := V1.frozen 0
  have d_V1 := V1.c1
  have f1_V1 := V1.frozen 1
  have l_V1 := V1.lt
  have m_V1 := Nat.le_of_lt l_V1
  go_wp2_with fail
  refine bodyPost_ret (results_w rfl rfl (V1.set2 _ _)) rfl ?_
  exact ⟨rfl, h'.far V1 (noInt2 _ _ _ _) (far2 _ _ _ _), below_2 B0 (by omega) _ _⟩

set_option maxHeartbeats 1000000 in
theorem isOdd7 (s : Bool) (a : Option Addr) (l c : Nat) (zs : List Int) (w : World) (h : It w s a l c zs) :
    Calls Tryz.prog 56 #[.agg #[.bool s, .slice a l c]] w fun e w' => e = .returned (.bool (decide (iv s zs % 2 ≠ 0))) ∧ Below w.heap.size w w' := by
  have B0 : Below w.heap.size w w := Below.refl _ _
  go_enter Tryz.func56, Tryz.ntmps56
  go_wp2_with fail
  refine ent1 w _ _ (Q := fun W => Calls Tryz.prog _ _ W _) ?_
  intro x1 hb hs_x1 V0
  replace h := It.after hb h
  replace B0 := step B0 hb
  clear hb hs_x1
  refine (wabs_any s a l c x1).mono ?_
  rintro e x2 ⟨rfl, hb⟩
  replace V0 := Va.after hb V0
  replace h := It.after hb h
  replace B0 := step B0 hb
  clear hb
  go_wp2_with fail
  refine (small_any 2 ⟨by omega, by omega⟩ x2).mono ?_
  rintro e x3 ⟨b1, m1, d1, y1, rfl, h1, e1, hb⟩
  replace V0 := Va.after hb V0
  replace h := It.after hb h
  replace B0 := step B0 hb
  clear hb
  go_wp2_with fail
  refine (ndiv_ok a b1 l c m1 d1 zs y1 x3 h.1 h1 (by rw [e1]; omega)).mono ?_
  rintro e x4 ⟨aq, lq, kq, ar, lr, kr, zq, zr, rfl, hq, hr, d1', d2', hb⟩
  replace V0 := Va.after hb V0
  replace h := It.after hb h
  replace h1 := Nt.after hb h1
  replace B0 := step B0 hb
  clear hb
  have HO0 : decide (iv s zs % 2 ≠ 0) = !((lr : Int) == 0) := by
    rw [e1] at d1' d2'
    rw [h.abs] at d1'
    rw [odd_abs d1' hr.nonneg d2']
    have hz : num zr = 0 ↔ lr = 0 := by rw [num_eq_zero hr.limbs, hr.2.1]
    by_cases h5 : lr = 0
    · simp [h5, hz.2 h5]
    · have h6 : ¬ num zr = 0 := fun e => h5 (hz.1 e)
      have h7 : ¬ ((lr : Int) = 0) := by omega
      simp [h5, h6]
  have HO : Hid (decide (iv s zs % 2 ≠ 0) = !((lr : Int) == 0)) := HO0
  clear HO0 d1' d2' e1
  go_wp2_with fail
  refine ent2 x4 _ _ _ _ (Q := fun W => Calls Tryz.prog _ _ W _) ?_
  intro x5 hb hs_x5 Vq Vr
  replace V0 := Va.after hb V0
  replace h := It.after hb h
  replace h1 := Nt.after hb h1
  replace hq := Nt.after hb hq
  replace hr := Nt.after hb hr
  replace B0 := step B0 hb
  clear hb hs_x5
  refine (isZero_any ar lr kr x5).mono ?_
  rintro e x6 ⟨rfl, hb⟩
  replace V0 := Va.after hb V0
  replace Vq := Va.after hb Vq
  replace Vr := Va.after hb Vr
  replace h := It.after hb h
  replace h1 := Nt.after hb h1
  replace hq := Nt.after hb hq
  replace hr := Nt.after hb hr
  replace B0 := step B0 hb
  clear hb
  go_wp2_with fail
  go_ret
  exact ⟨by rw [HO.out]; rfl, B0⟩

set_option maxHeartbeats 8000000 in
set_option maxRecDepth 4000 in
theorem rounded7 (m : Int) (nm : ByteArray) (K : Nat) (HK : Hid (∀ h q w, Calls Tryz.prog K #[.int .i64 h, .bool q] w fun e w' => e = .returned (.bool (rise m h q)) ∧ w' = w)) (HE : Hid (∀ args w, (callFunc K args).run Tryz.prog w = .ok (.enter K args) w)) (s : Bool) (a : Option Addr) (l c : Nat) (xs : List Int) (b : Option Addr) (lb cb : Nat) (ys : List Int) (w : World) (hx : It w s a l c xs) (hy : Nt w b lb cb ys) (h0 : Hid (0 < num ys ∧ ∀ n, n = 2048 → num ys < pw n)) :
    Calls Tryz.prog 25 #[.agg #[.int .i64 m, .string nm, .func (.func K) #[] #[]], .agg #[.bool s, .slice a l c], .agg #[.slice b lb cb]] w fun e w' => FlP w (rnd m (iv s xs) (num ys)) e w' := by
  have B0 : Below w.heap.size w w := Below.refl _ _
  have HF : Hid (∀ n, n = 4096 → ((rnd m (iv s xs) (num ys)).natAbs : Int) < pw n) := fun n e => by subst e; exact Int.lt_of_le_of_lt (rnd_abs h0.out.1) hx.lt
  go_enter Tryz.func25, Tryz.ntmps25
  go_wp2_with fail
  refine ent4 w _ _ _ _ _ _ _ _ (Q := fun W => Code.wp Tryz.prog _ _ _ W) ?_
  intro x1 hb hs_x1 V0 V1 V2 V3
  replace hx := It.after hb hx
  replace hy := Nt.after hb hy
  replace B0 := step B0 hb
  clear hb hs_x1
  have LS : Hid (∀ W, Below x1.heap.size x1 W → (fun W => W.cell? ⟨w.heap.size + 1, 0, none⟩ = some (.bool s) ∧ W.cell? ⟨w.heap.size + 1, 1, none⟩ = some (.slice a l c) ∧ W.cell? ⟨w.heap.size + 1 + 1, 0, none⟩ = some (.slice b lb cb)) W) := fun W hb => ⟨(Va.after hb V1).c0, (Va.after hb V1).c1, (Va.after hb V2).cell⟩
  have lb_V0 := V0.lt
  have L_V0 : Hid (Va x1 (w.heap.size) 54 #[.int .i64 m, .string nm, .func (.func K) #[] #[]]) := V0
  have lb_V1 := V1.lt
  have L_V1 : Hid (Va x1 (w.heap.size + 1) 28 #[.bool s, .slice a l c]) := V1
  have lb_V2 := V2.lt
  have L_V2 : Hid (Va x1 (w.heap.size + 1 + 1) 26 #[.slice b lb cb]) := V2
  have lb_V3 := V3.lt
  have L_V3 : Hid (Va x1 (w.heap.size + 1 + 1 + 1) 28 #[.bool false, .slice none 0 0]) := V3
  have L_hx : Hid (It x1 s a l c xs) := hx
  have L_hy : Hid (Nt x1 b lb cb ys) := hy
  have L_B : Hid (Below w.heap.size w x1) := B0
  clear V0 V1 V2 V3 hx hy B0
  have BX := Below.refl x1.heap.size x1
  go_cut [7, 8] (fun s7 s8 wx => ∃ (b7 : Nat) (b8 : Nat) (sq : Bool) (aq : Option Addr) (lq kq : Nat) (zq : List Int) (sr : Bool) (ar : Option Addr) (lr kr : Nat) (zr : List Int), s7 = .pointer (some ⟨b7, 0, none⟩) ∧ s8 = .pointer (some ⟨b8, 0, none⟩) ∧ Hid (Va wx b7 28 #[.bool sq, .slice aq lq kq]) ∧ Hid (Va wx b8 28 #[.bool sr, .slice ar lr kr]) ∧ Hid (It wx sq aq lq kq zq) ∧ Hid (It wx sr ar lr kr zr) ∧ Hid (iv sq zq = iv s xs / num ys ∧ iv sr zr = iv s xs % num ys) ∧ Hid (Below x1.heap.size x1 wx) ∧ Hid (w.heap.size + 4 ≤ b7 ∧ w.heap.size + 4 ≤ b8 ∧ b7 ≠ b8))
  case first =>
    refine wp_region_noPanic ?_
    replace BX := Below.drew BX
    refine wp_region_held_drew (S := (fun W => W.cell? ⟨w.heap.size + 1, 0, none⟩ = some (.bool s) ∧ W.cell? ⟨w.heap.size + 1, 1, none⟩ = some (.slice a l c) ∧ W.cell? ⟨w.heap.size + 1 + 1, 0, none⟩ = some (.slice b lb cb))) (by kernel_rfl) (LS.out _ BX) (fun hHeld => ?_)
    obtain ⟨x2, hxd⟩ : ∃ xd, xd = x1.drew := ⟨_, rfl⟩
    rw [← hxd] at BX hHeld ⊢
    clear hxd
    refine wpAnyH_take (i := 0) (v := ?_) rfl (by kernel_rfl) (by kernel_rfl) (by kernel_rfl) (fun _ _ _ h => h) (Or.inl ⟨by rfl, ?_⟩) hHeld ?_
    rotate_left
    · (intro W hSw; (try dsimp only at hSw); go_simp; all_goals (with_reducible rfl))
    simp only [List.getElem_toArray, List.getElem_cons_zero, Act.put, List.setIfInBounds_toArray, List.set_cons_zero, List.set_cons_succ]
    refine wpAnyH_take (i := 1) (v := ?_) rfl (by kernel_rfl) (by kernel_rfl) (by kernel_rfl) (fun _ _ _ h => h) (Or.inl ⟨by rfl, ?_⟩) hHeld ?_
    rotate_left
    · (intro W hSw; (try dsimp only at hSw); go_simp; all_goals (with_reducible rfl))
    simp only [List.getElem_toArray, List.getElem_cons_zero, List.getElem_cons_succ, Act.put, List.setIfInBounds_toArray, List.set_cons_zero, List.set_cons_succ]
    refine wpAnyH_ready (rs := [2, 8, 9]) (by kernel_rfl) (by simp) ?_
    refine AllReadyH.cons rfl (fun K hK => ?_) (AllReadyH.cons rfl (fun K hK => ?_) (AllReadyH.cons rfl (fun K hK => ?_) AllReadyH.nil))
    ·
      simp only [List.getElem_toArray, List.getElem_cons_zero, List.getElem_cons_succ]
      go_simp
      refine (above7 b lb cb ys _ (Nt.after BX L_hy.out)).mono ?_
      rintro e x3 ⟨rfl, h4, hb⟩
      replace BX := step BX hb
      clear hb
      try go_wp2_with fail
      refine hK.out _ _ (LS.out _ BX) (fun hHeld => ?_)
      clear hK K
      refine wpAnyH_ready (rs := [3, 8, 9]) (by kernel_rfl) (by simp) ?_
      refine AllReadyH.cons rfl (fun K hK => ?_) (AllReadyH.cons rfl (fun K hK => ?_) (AllReadyH.cons rfl (fun K hK => ?_) AllReadyH.nil))
      ·
        simp only [List.getElem_toArray, List.getElem_cons_zero, List.getElem_cons_succ]
        go_simp
        refine (wdiv_ok s false a b l c lb cb xs ys _ (It.after BX L_hx.out) h4 (by rw [iv_f]; have := h0.out.1; omega)).mono ?_
        rintro e x4 ⟨sq, aq, lq, kq, zq, sr, ar, lr, kr, zr, rfl, hq, hr2, d1, d2, hb⟩
        replace h4 := It.after hb h4
        replace BX := step BX hb
        clear hb
        have ev : iv sq zq = iv s xs / num ys ∧ iv sr zr = iv s xs % num ys := by
          rw [iv_f] at d1 d2
          have hd := h0.out.1
          exact div_of d1 (by omega) (by omega)
        clear d1 d2 h4
        try go_wp2_with fail
        refine hK.out _ _ (LS.out _ BX) (fun hHeld => ?_)
        clear hK K
        refine wpAnyH_take (i := 4) (v := ?_) rfl (by kernel_rfl) (by kernel_rfl) (by kernel_rfl) (fun _ _ _ h => h) (Or.inl ⟨by rfl, ?_⟩) hHeld ?_
        rotate_left
        · (intro W hSw; (try dsimp only at hSw); go_simp; all_goals (with_reducible rfl))
        simp only [List.getElem_toArray, List.getElem_cons_zero, List.getElem_cons_succ, Act.put, List.setIfInBounds_toArray, List.set_cons_zero, List.set_cons_succ]
        refine wpAnyH_take (i := 5) (v := ?_) rfl (by kernel_rfl) (by kernel_rfl) (by kernel_rfl) (fun _ _ _ h => h) (Or.inl ⟨by rfl, ?_⟩) hHeld ?_
        rotate_left
        · (intro W hSw; (try dsimp only at hSw); go_simp; all_goals (with_reducible rfl))
        simp only [List.getElem_toArray, List.getElem_cons_zero, List.getElem_cons_succ, Act.put, List.setIfInBounds_toArray, List.set_cons_zero, List.set_cons_succ]
        refine wpAnyH_take (i := 6) (v := ?_) rfl (by kernel_rfl) (by kernel_rfl) (by kernel_rfl) (fun _ _ _ h => h) (Or.inl ⟨by rfl, ?_⟩) hHeld ?_
        rotate_left
        · (intro W hSw; (try dsimp only at hSw); go_simp; all_goals (with_reducible rfl))
        simp only [List.getElem_toArray, List.getElem_cons_zero, List.getElem_cons_succ, Act.put, List.setIfInBounds_toArray, List.set_cons_zero, List.set_cons_succ]
        refine wpAnyH_take (i := 7) (v := ?_) rfl (by kernel_rfl) (by kernel_rfl) (by kernel_rfl) (fun _ _ _ h => h) (Or.inl ⟨by rfl, ?_⟩) hHeld ?_
        rotate_left
        · (intro W hSw; (try dsimp only at hSw); go_simp; all_goals (with_reducible rfl))
        simp only [List.getElem_toArray, List.getElem_cons_zero, List.getElem_cons_succ, Act.put, List.setIfInBounds_toArray, List.set_cons_zero, List.set_cons_succ]
        refine wpAnyH_ready (rs := [8, 9]) (by kernel_rfl) (by simp) ?_
        refine AllReadyH.cons rfl (fun K hK => ?_) (AllReadyH.cons rfl (fun K hK => ?_) AllReadyH.nil)
        ·
          simp only [List.getElem_toArray, List.getElem_cons_zero, List.getElem_cons_succ]
          go_simp
          have sz_Vq := BX.size
          refine ent1 _ _ _ (Q := fun V => K _ V) ?_
          intro x5 hb hs_ Vq
          replace hq := It.after hb hq
          replace hr2 := It.after hb hr2
          replace BX := step BX hb
          clear hb hs_
          refine hK.out _ _ (LS.out _ BX) (fun hHeld => ?_)
          clear hK K
          refine wpAnyH_ready (rs := [9]) (by kernel_rfl) (by simp) ?_
          refine AllReadyH.cons rfl (fun K hK => ?_) AllReadyH.nil
          ·
            simp only [List.getElem_toArray, List.getElem_cons_zero, List.getElem_cons_succ]
            go_simp
            have lt_Vr_Vq := Vq.lt
            have sz_Vr := BX.size
            refine ent1 _ _ _ (Q := fun V => K _ V) ?_
            intro x6 hb hs_ Vr
            replace Vq := Va.after hb Vq
            replace hq := It.after hb hq
            replace hr2 := It.after hb hr2
            replace BX := step BX hb
            clear hb hs_
            refine hK.out _ _ (LS.out _ BX) (fun hHeld => ?_)
            clear hK K
            have c_Vq := Vq.c0
            have f0_Vq := Vq.frozen 0
            have d_Vq := Vq.c1
            have f1_Vq := Vq.frozen 1
            have l_Vq := Vq.lt
            have m_Vq := Nat.le_of_lt l_Vq
            refine wpAnyH_ready (rs := [10]) (by kernel_rfl) (by simp) ?_
            refine AllReadyH.cons rfl (fun K hK => ?_) AllReadyH.nil
            simp only [List.getElem_toArray, List.getElem_cons_zero, List.getElem_cons_succ]
            go_simp
            clear c_Vq f0_Vq d_Vq f1_Vq l_Vq m_Vq
            refine st2 Vq (.bool sq) (.slice aq lq kq) (Q := fun W => K _ W) ?_
            intro x7 V' oth far
            replace Vr := oth _ _ _ (by first | omega | assumption | (simp; omega)) Vr
            replace hq := hq.far Vq (noInt2 _ _ _ _) far.1
            replace hr2 := hr2.far Vq (noInt2 _ _ _ _) far.1
            replace BX := far.2 _ _ (by first | omega | (simp; omega)) BX
            replace Vq := V'
            clear oth far
            refine hK.out _ _ (LS.out _ BX) (fun hHeld => ?_)
            clear hK K
            have c_Vr := Vr.c0
            have f0_Vr := Vr.frozen 0
            have d_Vr := Vr.c1
            have f1_Vr := Vr.frozen 1
            have l_Vr := Vr.lt
            have m_Vr := Nat.le_of_lt l_Vr
            refine wpAnyH_ready (rs := [11]) (by kernel_rfl) (by simp) ?_
            refine AllReadyH.cons rfl (fun K hK => ?_) AllReadyH.nil
            simp only [List.getElem_toArray, List.getElem_cons_zero, List.getElem_cons_succ]
            go_simp
            clear c_Vr f0_Vr d_Vr f1_Vr l_Vr m_Vr
            refine st2 Vr (.bool sr) (.slice ar lr kr) (Q := fun W => K _ W) ?_
            intro x8 V' oth far
            replace Vq := oth _ _ _ (by first | omega | assumption | (simp; omega)) Vq
            replace hq := hq.far Vr (noInt2 _ _ _ _) far.1
            replace hr2 := hr2.far Vr (noInt2 _ _ _ _) far.1
            replace BX := far.2 _ _ (by first | omega | (simp; omega)) BX
            replace Vr := V'
            clear oth far
            refine hK.out _ _ (LS.out _ BX) (fun hHeld => ?_)
            clear hK K
            refine wpAnyH_take (i := 12) (v := ?_) rfl (by kernel_rfl) (by kernel_rfl) (by kernel_rfl) (fun _ _ _ h => h) (Or.inl ⟨by rfl, ?_⟩) hHeld ?_
            rotate_left
            · (intro W hSw; (try dsimp only at hSw); go_simp; all_goals (with_reducible rfl))
            simp only [List.getElem_toArray, List.getElem_cons_zero, List.getElem_cons_succ, Act.put, List.setIfInBounds_toArray, List.set_cons_zero, List.set_cons_succ]
            refine wpAnyH_done (by kernel_rfl) ?_ _
            refine NoPanic.normal ?_
            clear hHeld
            go_wp2_with fail
            go_meet
            exact ⟨_, _, sq, aq, lq, kq, zq, sr, ar, lr, kr, zr, rfl, rfl, Vq, Vr, hq, hr2, ev, BX, ⟨by omega, by omega, by omega⟩⟩
        ·
          simp only [List.getElem_toArray, List.getElem_cons_zero, List.getElem_cons_succ]
          go_simp
          have sz_Vr := BX.size
          refine ent1 _ _ _ (Q := fun V => K _ V) ?_
          intro x5 hb hs_ Vr
          replace hq := It.after hb hq
          replace hr2 := It.after hb hr2
          replace BX := step BX hb
          clear hb hs_
          refine hK.out _ _ (LS.out _ BX) (fun hHeld => ?_)
          clear hK K
          refine wpAnyH_ready (rs := [8]) (by kernel_rfl) (by simp) ?_
          refine AllReadyH.cons rfl (fun K hK => ?_) AllReadyH.nil
          ·
            simp only [List.getElem_toArray, List.getElem_cons_zero, List.getElem_cons_succ]
            go_simp
            have lt_Vq_Vr := Vr.lt
            have sz_Vq := BX.size
            refine ent1 _ _ _ (Q := fun V => K _ V) ?_
            intro x6 hb hs_ Vq
            replace Vr := Va.after hb Vr
            replace hq := It.after hb hq
            replace hr2 := It.after hb hr2
            replace BX := step BX hb
            clear hb hs_
            refine hK.out _ _ (LS.out _ BX) (fun hHeld => ?_)
            clear hK K
            have c_Vq := Vq.c0
            have f0_Vq := Vq.frozen 0
            have d_Vq := Vq.c1
            have f1_Vq := Vq.frozen 1
            have l_Vq := Vq.lt
            have m_Vq := Nat.le_of_lt l_Vq
            refine wpAnyH_ready (rs := [10]) (by kernel_rfl) (by simp) ?_
            refine AllReadyH.cons rfl (fun K hK => ?_) AllReadyH.nil
            simp only [List.getElem_toArray, List.getElem_cons_zero, List.getElem_cons_succ]
            go_simp
            clear c_Vq f0_Vq d_Vq f1_Vq l_Vq m_Vq
            refine st2 Vq (.bool sq) (.slice aq lq kq) (Q := fun W => K _ W) ?_
            intro x7 V' oth far
            replace Vr := oth _ _ _ (by first | omega | assumption | (simp; omega)) Vr
            replace hq := hq.far Vq (noInt2 _ _ _ _) far.1
            replace hr2 := hr2.far Vq (noInt2 _ _ _ _) far.1
            replace BX := far.2 _ _ (by first | omega | (simp; omega)) BX
            replace Vq := V'
            clear oth far
            refine hK.out _ _ (LS.out _ BX) (fun hHeld => ?_)
            clear hK K
            have c_Vr := Vr.c0
            have f0_Vr := Vr.frozen 0
            have d_Vr := Vr.c1
            have f1_Vr := Vr.frozen 1
            have l_Vr := Vr.lt
            have m_Vr := Nat.le_of_lt l_Vr
            refine wpAnyH_ready (rs := [11]) (by kernel_rfl) (by simp) ?_
            refine AllReadyH.cons rfl (fun K hK => ?_) AllReadyH.nil
            simp only [List.getElem_toArray, List.getElem_cons_zero, List.getElem_cons_succ]
            go_simp
            clear c_Vr f0_Vr d_Vr f1_Vr l_Vr m_Vr
            refine st2 Vr (.bool sr) (.slice ar lr kr) (Q := fun W => K _ W) ?_
            intro x8 V' oth far
            replace Vq := oth _ _ _ (by first | omega | assumption | (simp; omega)) Vq
            replace hq := hq.far Vr (noInt2 _ _ _ _) far.1
            replace hr2 := hr2.far Vr (noInt2 _ _ _ _) far.1
            replace BX := far.2 _ _ (by first | omega | (simp; omega)) BX
            replace Vr := V'
            clear oth far
            refine hK.out _ _ (LS.out _ BX) (fun hHeld => ?_)
            clear hK K
            refine wpAnyH_take (i := 12) (v := ?_) rfl (by kernel_rfl) (by kernel_rfl) (by kernel_rfl) (fun _ _ _ h => h) (Or.inl ⟨by rfl, ?_⟩) hHeld ?_
            rotate_left
            · (intro W hSw; (try dsimp only at hSw); go_simp; all_goals (with_reducible rfl))
            simp only [List.getElem_toArray, List.getElem_cons_zero, List.getElem_cons_succ, Act.put, List.setIfInBounds_toArray, List.set_cons_zero, List.set_cons_succ]
            refine wpAnyH_done (by kernel_rfl) ?_ _
            refine NoPanic.normal ?_
            clear hHeld
            go_wp2_with fail
            go_meet
            exact ⟨_, _, sq, aq, lq, kq, zq, sr, ar, lr, kr, zr, rfl, rfl, Vq, Vr, hq, hr2, ev, BX, ⟨by omega, by omega, by omega⟩⟩
      ·
        simp only [List.getElem_toArray, List.getElem_cons_zero, List.getElem_cons_succ]
        go_simp
        have sz_Vq := BX.size
        refine ent1 _ _ _ (Q := fun V => K _ V) ?_
        intro x4 hb hs_ Vq
        replace h4 := It.after hb h4
        replace BX := step BX hb
        clear hb hs_
        refine hK.out _ _ (LS.out _ BX) (fun hHeld => ?_)
        clear hK K
        refine wpAnyH_ready (rs := [3, 9]) (by kernel_rfl) (by simp) ?_
        refine AllReadyH.cons rfl (fun K hK => ?_) (AllReadyH.cons rfl (fun K hK => ?_) AllReadyH.nil)
        ·
          simp only [List.getElem_toArray, List.getElem_cons_zero, List.getElem_cons_succ]
          go_simp
          refine (wdiv_ok s false a b l c lb cb xs ys _ (It.after BX L_hx.out) h4 (by rw [iv_f]; have := h0.out.1; omega)).mono ?_
          rintro e x5 ⟨sq, aq, lq, kq, zq, sr, ar, lr, kr, zr, rfl, hq, hr2, d1, d2, hb⟩
          replace Vq := Va.after hb Vq
          replace h4 := It.after hb h4
          replace BX := step BX hb
          clear hb
          have ev : iv sq zq = iv s xs / num ys ∧ iv sr zr = iv s xs % num ys := by
            rw [iv_f] at d1 d2
            have hd := h0.out.1
            exact div_of d1 (by omega) (by omega)
          clear d1 d2 h4
          try go_wp2_with fail
          refine hK.out _ _ (LS.out _ BX) (fun hHeld => ?_)
          clear hK K
          refine wpAnyH_take (i := 4) (v := ?_) rfl (by kernel_rfl) (by kernel_rfl) (by kernel_rfl) (fun _ _ _ h => h) (Or.inl ⟨by rfl, ?_⟩) hHeld ?_
          rotate_left
          · (intro W hSw; (try dsimp only at hSw); go_simp; all_goals (with_reducible rfl))
          simp only [List.getElem_toArray, List.getElem_cons_zero, List.getElem_cons_succ, Act.put, List.setIfInBounds_toArray, List.set_cons_zero, List.set_cons_succ]
          refine wpAnyH_take (i := 5) (v := ?_) rfl (by kernel_rfl) (by kernel_rfl) (by kernel_rfl) (fun _ _ _ h => h) (Or.inl ⟨by rfl, ?_⟩) hHeld ?_
          rotate_left
          · (intro W hSw; (try dsimp only at hSw); go_simp; all_goals (with_reducible rfl))
          simp only [List.getElem_toArray, List.getElem_cons_zero, List.getElem_cons_succ, Act.put, List.setIfInBounds_toArray, List.set_cons_zero, List.set_cons_succ]
          refine wpAnyH_take (i := 6) (v := ?_) rfl (by kernel_rfl) (by kernel_rfl) (by kernel_rfl) (fun _ _ _ h => h) (Or.inl ⟨by rfl, ?_⟩) hHeld ?_
          rotate_left
          · (intro W hSw; (try dsimp only at hSw); go_simp; all_goals (with_reducible rfl))
          simp only [List.getElem_toArray, List.getElem_cons_zero, List.getElem_cons_succ, Act.put, List.setIfInBounds_toArray, List.set_cons_zero, List.set_cons_succ]
          refine wpAnyH_take (i := 7) (v := ?_) rfl (by kernel_rfl) (by kernel_rfl) (by kernel_rfl) (fun _ _ _ h => h) (Or.inl ⟨by rfl, ?_⟩) hHeld ?_
          rotate_left
          · (intro W hSw; (try dsimp only at hSw); go_simp; all_goals (with_reducible rfl))
          simp only [List.getElem_toArray, List.getElem_cons_zero, List.getElem_cons_succ, Act.put, List.setIfInBounds_toArray, List.set_cons_zero, List.set_cons_succ]
          refine wpAnyH_ready (rs := [9]) (by kernel_rfl) (by simp) ?_
          refine AllReadyH.cons rfl (fun K hK => ?_) AllReadyH.nil
          ·
            simp only [List.getElem_toArray, List.getElem_cons_zero, List.getElem_cons_succ]
            go_simp
            have lt_Vr_Vq := Vq.lt
            have sz_Vr := BX.size
            refine ent1 _ _ _ (Q := fun V => K _ V) ?_
            intro x6 hb hs_ Vr
            replace Vq := Va.after hb Vq
            replace hq := It.after hb hq
            replace hr2 := It.after hb hr2
            replace BX := step BX hb
            clear hb hs_
            refine hK.out _ _ (LS.out _ BX) (fun hHeld => ?_)
            clear hK K
            have c_Vq := Vq.c0
            have f0_Vq := Vq.frozen 0
            have d_Vq := Vq.c1
            have f1_Vq := Vq.frozen 1
            have l_Vq := Vq.lt
            have m_Vq := Nat.le_of_lt l_Vq
            refine wpAnyH_ready (rs := [10]) (by kernel_rfl) (by simp) ?_
            refine AllReadyH.cons rfl (fun K hK => ?_) AllReadyH.nil
            simp only [List.getElem_toArray, List.getElem_cons_zero, List.getElem_cons_succ]
            go_simp
            clear c_Vq f0_Vq d_Vq f1_Vq l_Vq m_Vq
            refine st2 Vq (.bool sq) (.slice aq lq kq) (Q := fun W => K _ W) ?_
            intro x7 V' oth far
            replace Vr := oth _ _ _ (by first | omega | assumption | (simp; omega)) Vr
            replace hq := hq.far Vq (noInt2 _ _ _ _) far.1
            replace hr2 := hr2.far Vq (noInt2 _ _ _ _) far.1
            replace BX := far.2 _ _ (by first | omega | (simp; omega)) BX
            replace Vq := V'
            clear oth far
            refine hK.out _ _ (LS.out _ BX) (fun hHeld => ?_)
            clear hK K
            have c_Vr := Vr.c0
            have f0_Vr := Vr.frozen 0
            have d_Vr := Vr.c1
            have f1_Vr := Vr.frozen 1
            have l_Vr := Vr.lt
            have m_Vr := Nat.le_of_lt l_Vr
            refine wpAnyH_ready (rs := [11]) (by kernel_rfl) (by simp) ?_
            refine AllReadyH.cons rfl (fun K hK => ?_) AllReadyH.nil
            simp only [List.getElem_toArray, List.getElem_cons_zero, List.getElem_cons_succ]
            go_simp
            clear c_Vr f0_Vr d_Vr f1_Vr l_Vr m_Vr
            refine st2 Vr (.bool sr) (.slice ar lr kr) (Q := fun W => K _ W) ?_
            intro x8 V' oth far
            replace Vq := oth _ _ _ (by first | omega | assumption | (simp; omega)) Vq
            replace hq := hq.far Vr (noInt2 _ _ _ _) far.1
            replace hr2 := hr2.far Vr (noInt2 _ _ _ _) far.1
            replace BX := far.2 _ _ (by first | omega | (simp; omega)) BX
            replace Vr := V'
            clear oth far
            refine hK.out _ _ (LS.out _ BX) (fun hHeld => ?_)
            clear hK K
            refine wpAnyH_take (i := 12) (v := ?_) rfl (by kernel_rfl) (by kernel_rfl) (by kernel_rfl) (fun _ _ _ h => h) (Or.inl ⟨by rfl, ?_⟩) hHeld ?_
            rotate_left
            · (intro W hSw; (try dsimp only at hSw); go_simp; all_goals (with_reducible rfl))
            simp only [List.getElem_toArray, List.getElem_cons_zero, List.getElem_cons_succ, Act.put, List.setIfInBounds_toArray, List.set_cons_zero, List.set_cons_succ]
            refine wpAnyH_done (by kernel_rfl) ?_ _
            refine NoPanic.normal ?_
            clear hHeld
            go_wp2_with fail
            go_meet
            exact ⟨_, _, sq, aq, lq, kq, zq, sr, ar, lr, kr, zr, rfl, rfl, Vq, Vr, hq, hr2, ev, BX, ⟨by omega, by omega, by omega⟩⟩
        ·
          simp only [List.getElem_toArray, List.getElem_cons_zero, List.getElem_cons_succ]
          go_simp
          have lt_Vr_Vq := Vq.lt
          have sz_Vr := BX.size
          refine ent1 _ _ _ (Q := fun V => K _ V) ?_
          intro x5 hb hs_ Vr
          replace Vq := Va.after hb Vq
          replace h4 := It.after hb h4
          replace BX := step BX hb
          clear hb hs_
          refine hK.out _ _ (LS.out _ BX) (fun hHeld => ?_)
          clear hK K
          refine wpAnyH_ready (rs := [3]) (by kernel_rfl) (by simp) ?_
          refine AllReadyH.cons rfl (fun K hK => ?_) AllReadyH.nil
          ·
            simp only [List.getElem_toArray, List.getElem_cons_zero, List.getElem_cons_succ]
            go_simp
            refine (wdiv_ok s false a b l c lb cb xs ys _ (It.after BX L_hx.out) h4 (by rw [iv_f]; have := h0.out.1; omega)).mono ?_
            rintro e x6 ⟨sq, aq, lq, kq, zq, sr, ar, lr, kr, zr, rfl, hq, hr2, d1, d2, hb⟩
            replace Vq := Va.after hb Vq
            replace Vr := Va.after hb Vr
            replace h4 := It.after hb h4
            replace BX := step BX hb
            clear hb
            have ev : iv sq zq = iv s xs / num ys ∧ iv sr zr = iv s xs % num ys := by
              rw [iv_f] at d1 d2
              have hd := h0.out.1
              exact div_of d1 (by omega) (by omega)
            clear d1 d2 h4
            try go_wp2_with fail
            refine hK.out _ _ (LS.out _ BX) (fun hHeld => ?_)
            clear hK K
            refine wpAnyH_take (i := 4) (v := ?_) rfl (by kernel_rfl) (by kernel_rfl) (by kernel_rfl) (fun _ _ _ h => h) (Or.inl ⟨by rfl, ?_⟩) hHeld ?_
            rotate_left
            · (intro W hSw; (try dsimp only at hSw); go_simp; all_goals (with_reducible rfl))
            simp only [List.getElem_toArray, List.getElem_cons_zero, List.getElem_cons_succ, Act.put, List.setIfInBounds_toArray, List.set_cons_zero, List.set_cons_succ]
            refine wpAnyH_take (i := 5) (v := ?_) rfl (by kernel_rfl) (by kernel_rfl) (by kernel_rfl) (fun _ _ _ h => h) (Or.inl ⟨by rfl, ?_⟩) hHeld ?_
            rotate_left
            · (intro W hSw; (try dsimp only at hSw); go_simp; all_goals (with_reducible rfl))
            simp only [List.getElem_toArray, List.getElem_cons_zero, List.getElem_cons_succ, Act.put, List.setIfInBounds_toArray, List.set_cons_zero, List.set_cons_succ]
            refine wpAnyH_take (i := 6) (v := ?_) rfl (by kernel_rfl) (by kernel_rfl) (by kernel_rfl) (fun _ _ _ h => h) (Or.inl ⟨by rfl, ?_⟩) hHeld ?_
            rotate_left
            · (intro W hSw; (try dsimp only at hSw); go_simp; all_goals (with_reducible rfl))
            simp only [List.getElem_toArray, List.getElem_cons_zero, List.getElem_cons_succ, Act.put, List.setIfInBounds_toArray, List.set_cons_zero, List.set_cons_succ]
            refine wpAnyH_take (i := 7) (v := ?_) rfl (by kernel_rfl) (by kernel_rfl) (by kernel_rfl) (fun _ _ _ h => h) (Or.inl ⟨by rfl, ?_⟩) hHeld ?_
            rotate_left
            · (intro W hSw; (try dsimp only at hSw); go_simp; all_goals (with_reducible rfl))
            simp only [List.getElem_toArray, List.getElem_cons_zero, List.getElem_cons_succ, Act.put, List.setIfInBounds_toArray, List.set_cons_zero, List.set_cons_succ]
            have c_Vq := Vq.c0
            have f0_Vq := Vq.frozen 0
            have d_Vq := Vq.c1
            have f1_Vq := Vq.frozen 1
            have l_Vq := Vq.lt
            have m_Vq := Nat.le_of_lt l_Vq
            refine wpAnyH_ready (rs := [10]) (by kernel_rfl) (by simp) ?_
            refine AllReadyH.cons rfl (fun K hK => ?_) AllReadyH.nil
            simp only [List.getElem_toArray, List.getElem_cons_zero, List.getElem_cons_succ]
            go_simp
            clear c_Vq f0_Vq d_Vq f1_Vq l_Vq m_Vq
            refine st2 Vq (.bool sq) (.slice aq lq kq) (Q := fun W => K _ W) ?_
            intro x7 V' oth far
            replace Vr := oth _ _ _ (by first | omega | assumption | (simp; omega)) Vr
            replace hq := hq.far Vq (noInt2 _ _ _ _) far.1
            replace hr2 := hr2.far Vq (noInt2 _ _ _ _) far.1
            replace BX := far.2 _ _ (by first | omega | (simp; omega)) BX
            replace Vq := V'
            clear oth far
            refine hK.out _ _ (LS.out _ BX) (fun hHeld => ?_)
            clear hK K
            have c_Vr := Vr.c0
            have f0_Vr := Vr.frozen 0
            have d_Vr := Vr.c1
            have f1_Vr := Vr.frozen 1
            have l_Vr := Vr.lt
            have m_Vr := Nat.le_of_lt l_Vr
            refine wpAnyH_ready (rs := [11]) (by kernel_rfl) (by simp) ?_
            refine AllReadyH.cons rfl (fun K hK => ?_) AllReadyH.nil
            simp only [List.getElem_toArray, List.getElem_cons_zero, List.getElem_cons_succ]
            go_simp
            clear c_Vr f0_Vr d_Vr f1_Vr l_Vr m_Vr
            refine st2 Vr (.bool sr) (.slice ar lr kr) (Q := fun W => K _ W) ?_
            intro x8 V' oth far
            replace Vq := oth _ _ _ (by first | omega | assumption | (simp; omega)) Vq
            replace hq := hq.far Vr (noInt2 _ _ _ _) far.1
            replace hr2 := hr2.far Vr (noInt2 _ _ _ _) far.1
            replace BX := far.2 _ _ (by first | omega | (simp; omega)) BX
            replace Vr := V'
            clear oth far
            refine hK.out _ _ (LS.out _ BX) (fun hHeld => ?_)
            clear hK K
            refine wpAnyH_take (i := 12) (v := ?_) rfl (by kernel_rfl) (by kernel_rfl) (by kernel_rfl) (fun _ _ _ h => h) (Or.inl ⟨by rfl, ?_⟩) hHeld ?_
            rotate_left
            · (intro W hSw; (try dsimp only at hSw); go_simp; all_goals (with_reducible rfl))
            simp only [List.getElem_toArray, List.getElem_cons_zero, List.getElem_cons_succ, Act.put, List.setIfInBounds_toArray, List.set_cons_zero, List.set_cons_succ]
            refine wpAnyH_done (by kernel_rfl) ?_ _
            refine NoPanic.normal ?_
            clear hHeld
            go_wp2_with fail
            go_meet
            exact ⟨_, _, sq, aq, lq, kq, zq, sr, ar, lr, kr, zr, rfl, rfl, Vq, Vr, hq, hr2, ev, BX, ⟨by omega, by omega, by omega⟩⟩
      ·
        simp only [List.getElem_toArray, List.getElem_cons_zero, List.getElem_cons_succ]
        go_simp
        have sz_Vr := BX.size
        refine ent1 _ _ _ (Q := fun V => K _ V) ?_
        intro x4 hb hs_ Vr
        replace h4 := It.after hb h4
        replace BX := step BX hb
        clear hb hs_
        refine hK.out _ _ (LS.out _ BX) (fun hHeld => ?_)
        clear hK K
        refine wpAnyH_ready (rs := [3, 8]) (by kernel_rfl) (by simp) ?_
        refine AllReadyH.cons rfl (fun K hK => ?_) (AllReadyH.cons rfl (fun K hK => ?_) AllReadyH.nil)
        ·
          simp only [List.getElem_toArray, List.getElem_cons_zero, List.getElem_cons_succ]
          go_simp
          refine (wdiv_ok s false a b l c lb cb xs ys _ (It.after BX L_hx.out) h4 (by rw [iv_f]; have := h0.out.1; omega)).mono ?_
          rintro e x5 ⟨sq, aq, lq, kq, zq, sr, ar, lr, kr, zr, rfl, hq, hr2, d1, d2, hb⟩
          replace Vr := Va.after hb Vr
          replace h4 := It.after hb h4
          replace BX := step BX hb
          clear hb
          have ev : iv sq zq = iv s xs / num ys ∧ iv sr zr = iv s xs % num ys := by
            rw [iv_f] at d1 d2
            have hd := h0.out.1
            exact div_of d1 (by omega) (by omega)
          clear d1 d2 h4
          try go_wp2_with fail
          refine hK.out _ _ (LS.out _ BX) (fun hHeld => ?_)
          clear hK K
          refine wpAnyH_take (i := 4) (v := ?_) rfl (by kernel_rfl) (by kernel_rfl) (by kernel_rfl) (fun _ _ _ h => h) (Or.inl ⟨by rfl, ?_⟩) hHeld ?_
          rotate_left
          · (intro W hSw; (try dsimp only at hSw); go_simp; all_goals (with_reducible rfl))
          simp only [List.getElem_toArray, List.getElem_cons_zero, List.getElem_cons_succ, Act.put, List.setIfInBounds_toArray, List.set_cons_zero, List.set_cons_succ]
          refine wpAnyH_take (i := 5) (v := ?_) rfl (by kernel_rfl) (by kernel_rfl) (by kernel_rfl) (fun _ _ _ h => h) (Or.inl ⟨by rfl, ?_⟩) hHeld ?_
          rotate_left
          · (intro W hSw; (try dsimp only at hSw); go_simp; all_goals (with_reducible rfl))
          simp only [List.getElem_toArray, List.getElem_cons_zero, List.getElem_cons_succ, Act.put, List.setIfInBounds_toArray, List.set_cons_zero, List.set_cons_succ]
          refine wpAnyH_take (i := 6) (v := ?_) rfl (by kernel_rfl) (by kernel_rfl) (by kernel_rfl) (fun _ _ _ h => h) (Or.inl ⟨by rfl, ?_⟩) hHeld ?_
          rotate_left
          · (intro W hSw; (try dsimp only at hSw); go_simp; all_goals (with_reducible rfl))
          simp only [List.getElem_toArray, List.getElem_cons_zero, List.getElem_cons_succ, Act.put, List.setIfInBounds_toArray, List.set_cons_zero, List.set_cons_succ]
          refine wpAnyH_take (i := 7) (v := ?_) rfl (by kernel_rfl) (by kernel_rfl) (by kernel_rfl) (fun _ _ _ h => h) (Or.inl ⟨by rfl, ?_⟩) hHeld ?_
          rotate_left
          · (intro W hSw; (try dsimp only at hSw); go_simp; all_goals (with_reducible rfl))
          simp only [List.getElem_toArray, List.getElem_cons_zero, List.getElem_cons_succ, Act.put, List.setIfInBounds_toArray, List.set_cons_zero, List.set_cons_succ]
          refine wpAnyH_ready (rs := [8]) (by kernel_rfl) (by simp) ?_
          refine AllReadyH.cons rfl (fun K hK => ?_) AllReadyH.nil
          ·
            simp only [List.getElem_toArray, List.getElem_cons_zero, List.getElem_cons_succ]
            go_simp
            have lt_Vq_Vr := Vr.lt
            have sz_Vq := BX.size
            refine ent1 _ _ _ (Q := fun V => K _ V) ?_
            intro x6 hb hs_ Vq
            replace Vr := Va.after hb Vr
            replace hq := It.after hb hq
            replace hr2 := It.after hb hr2
            replace BX := step BX hb
            clear hb hs_
            refine hK.out _ _ (LS.out _ BX) (fun hHeld => ?_)
            clear hK K
            have c_Vq := Vq.c0
            have f0_Vq := Vq.frozen 0
            have d_Vq := Vq.c1
            have f1_Vq := Vq.frozen 1
            have l_Vq := Vq.lt
            have m_Vq := Nat.le_of_lt l_Vq
            refine wpAnyH_ready (rs := [10]) (by kernel_rfl) (by simp) ?_
            refine AllReadyH.cons rfl (fun K hK => ?_) AllReadyH.nil
            simp only [List.getElem_toArray, List.getElem_cons_zero, List.getElem_cons_succ]
            go_simp
            clear c_Vq f0_Vq d_Vq f1_Vq l_Vq m_Vq
            refine st2 Vq (.bool sq) (.slice aq lq kq) (Q := fun W => K _ W) ?_
            intro x7 V' oth far
            replace Vr := oth _ _ _ (by first | omega | assumption | (simp; omega)) Vr
            replace hq := hq.far Vq (noInt2 _ _ _ _) far.1
            replace hr2 := hr2.far Vq (noInt2 _ _ _ _) far.1
            replace BX := far.2 _ _ (by first | omega | (simp; omega)) BX
            replace Vq := V'
            clear oth far
            refine hK.out _ _ (LS.out _ BX) (fun hHeld => ?_)
            clear hK K
            have c_Vr := Vr.c0
            have f0_Vr := Vr.frozen 0
            have d_Vr := Vr.c1
            have f1_Vr := Vr.frozen 1
            have l_Vr := Vr.lt
            have m_Vr := Nat.le_of_lt l_Vr
            refine wpAnyH_ready (rs := [11]) (by kernel_rfl) (by simp) ?_
            refine AllReadyH.cons rfl (fun K hK => ?_) AllReadyH.nil
            simp only [List.getElem_toArray, List.getElem_cons_zero, List.getElem_cons_succ]
            go_simp
            clear c_Vr f0_Vr d_Vr f1_Vr l_Vr m_Vr
            refine st2 Vr (.bool sr) (.slice ar lr kr) (Q := fun W => K _ W) ?_
            intro x8 V' oth far
            replace Vq := oth _ _ _ (by first | omega | assumption | (simp; omega)) Vq
            replace hq := hq.far Vr (noInt2 _ _ _ _) far.1
            replace hr2 := hr2.far Vr (noInt2 _ _ _ _) far.1
            replace BX := far.2 _ _ (by first | omega | (simp; omega)) BX
            replace Vr := V'
            clear oth far
            refine hK.out _ _ (LS.out _ BX) (fun hHeld => ?_)
            clear hK K
            refine wpAnyH_take (i := 12) (v := ?_) rfl (by kernel_rfl) (by kernel_rfl) (by kernel_rfl) (fun _ _ _ h => h) (Or.inl ⟨by rfl, ?_⟩) hHeld ?_
            rotate_left
            · (intro W hSw; (try dsimp only at hSw); go_simp; all_goals (with_reducible rfl))
            simp only [List.getElem_toArray, List.getElem_cons_zero, List.getElem_cons_succ, Act.put, List.setIfInBounds_toArray, List.set_cons_zero, List.set_cons_succ]
            refine wpAnyH_done (by kernel_rfl) ?_ _
            refine NoPanic.normal ?_
            clear hHeld
            go_wp2_with fail
            go_meet
            exact ⟨_, _, sq, aq, lq, kq, zq, sr, ar, lr, kr, zr, rfl, rfl, Vq, Vr, hq, hr2, ev, BX, ⟨by omega, by omega, by omega⟩⟩
        ·
          simp only [List.getElem_toArray, List.getElem_cons_zero, List.getElem_cons_succ]
          go_simp
          have lt_Vq_Vr := Vr.lt
          have sz_Vq := BX.size
          refine ent1 _ _ _ (Q := fun V => K _ V) ?_
          intro x5 hb hs_ Vq
          replace Vr := Va.after hb Vr
          replace h4 := It.after hb h4
          replace BX := step BX hb
          clear hb hs_
          refine hK.out _ _ (LS.out _ BX) (fun hHeld => ?_)
          clear hK K
          refine wpAnyH_ready (rs := [3]) (by kernel_rfl) (by simp) ?_
          refine AllReadyH.cons rfl (fun K hK => ?_) AllReadyH.nil
          ·
            simp only [List.getElem_toArray, List.getElem_cons_zero, List.getElem_cons_succ]
            go_simp
            refine (wdiv_ok s false a b l c lb cb xs ys _ (It.after BX L_hx.out) h4 (by rw [iv_f]; have := h0.out.1; omega)).mono ?_
            rintro e x6 ⟨sq, aq, lq, kq, zq, sr, ar, lr, kr, zr, rfl, hq, hr2, d1, d2, hb⟩
            replace Vr := Va.after hb Vr
            replace Vq := Va.after hb Vq
            replace h4 := It.after hb h4
            replace BX := step BX hb
            clear hb
            have ev : iv sq zq = iv s xs / num ys ∧ iv sr zr = iv s xs % num ys := by
              rw [iv_f] at d1 d2
              have hd := h0.out.1
              exact div_of d1 (by omega) (by omega)
            clear d1 d2 h4
            try go_wp2_with fail
            refine hK.out _ _ (LS.out _ BX) (fun hHeld => ?_)
            clear hK K
            refine wpAnyH_take (i := 4) (v := ?_) rfl (by kernel_rfl) (by kernel_rfl) (by kernel_rfl) (fun _ _ _ h => h) (Or.inl ⟨by rfl, ?_⟩) hHeld ?_
            rotate_left
            · (intro W hSw; (try dsimp only at hSw); go_simp; all_goals (with_reducible rfl))
            simp only [List.getElem_toArray, List.getElem_cons_zero, List.getElem_cons_succ, Act.put, List.setIfInBounds_toArray, List.set_cons_zero, List.set_cons_succ]
            refine wpAnyH_take (i := 5) (v := ?_) rfl (by kernel_rfl) (by kernel_rfl) (by kernel_rfl) (fun _ _ _ h => h) (Or.inl ⟨by rfl, ?_⟩) hHeld ?_
            rotate_left
            · (intro W hSw; (try dsimp only at hSw); go_simp; all_goals (with_reducible rfl))
            simp only [List.getElem_toArray, List.getElem_cons_zero, List.getElem_cons_succ, Act.put, List.setIfInBounds_toArray, List.set_cons_zero, List.set_cons_succ]
            refine wpAnyH_take (i := 6) (v := ?_) rfl (by kernel_rfl) (by kernel_rfl) (by kernel_rfl) (fun _ _ _ h => h) (Or.inl ⟨by rfl, ?_⟩) hHeld ?_
            rotate_left
            · (intro W hSw; (try dsimp only at hSw); go_simp; all_goals (with_reducible rfl))
            simp only [List.getElem_toArray, List.getElem_cons_zero, List.getElem_cons_succ, Act.put, List.setIfInBounds_toArray, List.set_cons_zero, List.set_cons_succ]
            refine wpAnyH_take (i := 7) (v := ?_) rfl (by kernel_rfl) (by kernel_rfl) (by kernel_rfl) (fun _ _ _ h => h) (Or.inl ⟨by rfl, ?_⟩) hHeld ?_
            rotate_left
            · (intro W hSw; (try dsimp only at hSw); go_simp; all_goals (with_reducible rfl))
            simp only [List.getElem_toArray, List.getElem_cons_zero, List.getElem_cons_succ, Act.put, List.setIfInBounds_toArray, List.set_cons_zero, List.set_cons_succ]
            have c_Vq := Vq.c0
            have f0_Vq := Vq.frozen 0
            have d_Vq := Vq.c1
            have f1_Vq := Vq.frozen 1
            have l_Vq := Vq.lt
            have m_Vq := Nat.le_of_lt l_Vq
            refine wpAnyH_ready (rs := [10]) (by kernel_rfl) (by simp) ?_
            refine AllReadyH.cons rfl (fun K hK => ?_) AllReadyH.nil
            simp only [List.getElem_toArray, List.getElem_cons_zero, List.getElem_cons_succ]
            go_simp
            clear c_Vq f0_Vq d_Vq f1_Vq l_Vq m_Vq
            refine st2 Vq (.bool sq) (.slice aq lq kq) (Q := fun W => K _ W) ?_
            intro x7 V' oth far
            replace Vr := oth _ _ _ (by first | omega | assumption | (simp; omega)) Vr
            replace hq := hq.far Vq (noInt2 _ _ _ _) far.1
            replace hr2 := hr2.far Vq (noInt2 _ _ _ _) far.1
            replace BX := far.2 _ _ (by first | omega | (simp; omega)) BX
            replace Vq := V'
            clear oth far
            refine hK.out _ _ (LS.out _ BX) (fun hHeld => ?_)
            clear hK K
            have c_Vr := Vr.c0
            have f0_Vr := Vr.frozen 0
            have d_Vr := Vr.c1
            have f1_Vr := Vr.frozen 1
            have l_Vr := Vr.lt
            have m_Vr := Nat.le_of_lt l_Vr
            refine wpAnyH_ready (rs := [11]) (by kernel_rfl) (by simp) ?_
            refine AllReadyH.cons rfl (fun K hK => ?_) AllReadyH.nil
            simp only [List.getElem_toArray, List.getElem_cons_zero, List.getElem_cons_succ]
            go_simp
            clear c_Vr f0_Vr d_Vr f1_Vr l_Vr m_Vr
            refine st2 Vr (.bool sr) (.slice ar lr kr) (Q := fun W => K _ W) ?_
            intro x8 V' oth far
            replace Vq := oth _ _ _ (by first | omega | assumption | (simp; omega)) Vq
            replace hq := hq.far Vr (noInt2 _ _ _ _) far.1
            replace hr2 := hr2.far Vr (noInt2 _ _ _ _) far.1
            replace BX := far.2 _ _ (by first | omega | (simp; omega)) BX
            replace Vr := V'
            clear oth far
            refine hK.out _ _ (LS.out _ BX) (fun hHeld => ?_)
            clear hK K
            refine wpAnyH_take (i := 12) (v := ?_) rfl (by kernel_rfl) (by kernel_rfl) (by kernel_rfl) (fun _ _ _ h => h) (Or.inl ⟨by rfl, ?_⟩) hHeld ?_
            rotate_left
            · (intro W hSw; (try dsimp only at hSw); go_simp; all_goals (with_reducible rfl))
            simp only [List.getElem_toArray, List.getElem_cons_zero, List.getElem_cons_succ, Act.put, List.setIfInBounds_toArray, List.set_cons_zero, List.set_cons_succ]
            refine wpAnyH_done (by kernel_rfl) ?_ _
            refine NoPanic.normal ?_
            clear hHeld
            go_wp2_with fail
            go_meet
            exact ⟨_, _, sq, aq, lq, kq, zq, sr, ar, lr, kr, zr, rfl, rfl, Vq, Vr, hq, hr2, ev, BX, ⟨by omega, by omega, by omega⟩⟩
    ·
      simp only [List.getElem_toArray, List.getElem_cons_zero, List.getElem_cons_succ]
      go_simp
      have sz_Vq := BX.size
      refine ent1 _ _ _ (Q := fun V => K _ V) ?_
      intro x3 hb hs_ Vq
      replace BX := step BX hb
      clear hb hs_
      refine hK.out _ _ (LS.out _ BX) (fun hHeld => ?_)
      clear hK K
      refine wpAnyH_ready (rs := [2, 9]) (by kernel_rfl) (by simp) ?_
      refine AllReadyH.cons rfl (fun K hK => ?_) (AllReadyH.cons rfl (fun K hK => ?_) AllReadyH.nil)
      ·
        simp only [List.getElem_toArray, List.getElem_cons_zero, List.getElem_cons_succ]
        go_simp
        refine (above7 b lb cb ys _ (Nt.after BX L_hy.out)).mono ?_
        rintro e x4 ⟨rfl, h4, hb⟩
        replace Vq := Va.after hb Vq
        replace BX := step BX hb
        clear hb
        try go_wp2_with fail
        refine hK.out _ _ (LS.out _ BX) (fun hHeld => ?_)
        clear hK K
        refine wpAnyH_ready (rs := [3, 9]) (by kernel_rfl) (by simp) ?_
        refine AllReadyH.cons rfl (fun K hK => ?_) (AllReadyH.cons rfl (fun K hK => ?_) AllReadyH.nil)
        ·
          simp only [List.getElem_toArray, List.getElem_cons_zero, List.getElem_cons_succ]
          go_simp
          refine (wdiv_ok s false a b l c lb cb xs ys _ (It.after BX L_hx.out) h4 (by rw [iv_f]; have := h0.out.1; omega)).mono ?_
          rintro e x5 ⟨sq, aq, lq, kq, zq, sr, ar, lr, kr, zr, rfl, hq, hr2, d1, d2, hb⟩
          replace Vq := Va.after hb Vq
          replace h4 := It.after hb h4
          replace BX := step BX hb
          clear hb
          have ev : iv sq zq = iv s xs / num ys ∧ iv sr zr = iv s xs % num ys := by
            rw [iv_f] at d1 d2
            have hd := h0.out.1
            exact div_of d1 (by omega) (by omega)
          clear d1 d2 h4
          try go_wp2_with fail
          refine hK.out _ _ (LS.out _ BX) (fun hHeld => ?_)
          clear hK K
          refine wpAnyH_take (i := 4) (v := ?_) rfl (by kernel_rfl) (by kernel_rfl) (by kernel_rfl) (fun _ _ _ h => h) (Or.inl ⟨by rfl, ?_⟩) hHeld ?_
          rotate_left
          · (intro W hSw; (try dsimp only at hSw); go_simp; all_goals (with_reducible rfl))
          simp only [List.getElem_toArray, List.getElem_cons_zero, List.getElem_cons_succ, Act.put, List.setIfInBounds_toArray, List.set_cons_zero, List.set_cons_succ]
          refine wpAnyH_take (i := 5) (v := ?_) rfl (by kernel_rfl) (by kernel_rfl) (by kernel_rfl) (fun _ _ _ h => h) (Or.inl ⟨by rfl, ?_⟩) hHeld ?_
          rotate_left
          · (intro W hSw; (try dsimp only at hSw); go_simp; all_goals (with_reducible rfl))
          simp only [List.getElem_toArray, List.getElem_cons_zero, List.getElem_cons_succ, Act.put, List.setIfInBounds_toArray, List.set_cons_zero, List.set_cons_succ]
          refine wpAnyH_take (i := 6) (v := ?_) rfl (by kernel_rfl) (by kernel_rfl) (by kernel_rfl) (fun _ _ _ h => h) (Or.inl ⟨by rfl, ?_⟩) hHeld ?_
          rotate_left
          · (intro W hSw; (try dsimp only at hSw); go_simp; all_goals (with_reducible rfl))
          simp only [List.getElem_toArray, List.getElem_cons_zero, List.getElem_cons_succ, Act.put, List.setIfInBounds_toArray, List.set_cons_zero, List.set_cons_succ]
          refine wpAnyH_take (i := 7) (v := ?_) rfl (by kernel_rfl) (by kernel_rfl) (by kernel_rfl) (fun _ _ _ h => h) (Or.inl ⟨by rfl, ?_⟩) hHeld ?_
          rotate_left
          · (intro W hSw; (try dsimp only at hSw); go_simp; all_goals (with_reducible rfl))
          simp only [List.getElem_toArray, List.getElem_cons_zero, List.getElem_cons_succ, Act.put, List.setIfInBounds_toArray, List.set_cons_zero, List.set_cons_succ]
          refine wpAnyH_ready (rs := [9]) (by kernel_rfl) (by simp) ?_
          refine AllReadyH.cons rfl (fun K hK => ?_) AllReadyH.nil
          ·
            simp only [List.getElem_toArray, List.getElem_cons_zero, List.getElem_cons_succ]
            go_simp
            have lt_Vr_Vq := Vq.lt
            have sz_Vr := BX.size
            refine ent1 _ _ _ (Q := fun V => K _ V) ?_
            intro x6 hb hs_ Vr
            replace Vq := Va.after hb Vq
            replace hq := It.after hb hq
            replace hr2 := It.after hb hr2
            replace BX := step BX hb
            clear hb hs_
            refine hK.out _ _ (LS.out _ BX) (fun hHeld => ?_)
            clear hK K
            have c_Vq := Vq.c0
            have f0_Vq := Vq.frozen 0
            have d_Vq := Vq.c1
            have f1_Vq := Vq.frozen 1
            have l_Vq := Vq.lt
            have m_Vq := Nat.le_of_lt l_Vq
            refine wpAnyH_ready (rs := [10]) (by kernel_rfl) (by simp) ?_
            refine AllReadyH.cons rfl (fun K hK => ?_) AllReadyH.nil
            simp only [List.getElem_toArray, List.getElem_cons_zero, List.getElem_cons_succ]
            go_simp
            clear c_Vq f0_Vq d_Vq f1_Vq l_Vq m_Vq
            refine st2 Vq (.bool sq) (.slice aq lq kq) (Q := fun W => K _ W) ?_
            intro x7 V' oth far
            replace Vr := oth _ _ _ (by first | omega | assumption | (simp; omega)) Vr
            replace hq := hq.far Vq (noInt2 _ _ _ _) far.1
            replace hr2 := hr2.far Vq (noInt2 _ _ _ _) far.1
            replace BX := far.2 _ _ (by first | omega | (simp; omega)) BX
            replace Vq := V'
            clear oth far
            refine hK.out _ _ (LS.out _ BX) (fun hHeld => ?_)
            clear hK K
            have c_Vr := Vr.c0
            have f0_Vr := Vr.frozen 0
            have d_Vr := Vr.c1
            have f1_Vr := Vr.frozen 1
            have l_Vr := Vr.lt
            have m_Vr := Nat.le_of_lt l_Vr
            refine wpAnyH_ready (rs := [11]) (by kernel_rfl) (by simp) ?_
            refine AllReadyH.cons rfl (fun K hK => ?_) AllReadyH.nil
            simp only [List.getElem_toArray, List.getElem_cons_zero, List.getElem_cons_succ]
            go_simp
            clear c_Vr f0_Vr d_Vr f1_Vr l_Vr m_Vr
            refine st2 Vr (.bool sr) (.slice ar lr kr) (Q := fun W => K _ W) ?_
            intro x8 V' oth far
            replace Vq := oth _ _ _ (by first | omega | assumption | (simp; omega)) Vq
            replace hq := hq.far Vr (noInt2 _ _ _ _) far.1
            replace hr2 := hr2.far Vr (noInt2 _ _ _ _) far.1
            replace BX := far.2 _ _ (by first | omega | (simp; omega)) BX
            replace Vr := V'
            clear oth far
            refine hK.out _ _ (LS.out _ BX) (fun hHeld => ?_)
            clear hK K
            refine wpAnyH_take (i := 12) (v := ?_) rfl (by kernel_rfl) (by kernel_rfl) (by kernel_rfl) (fun _ _ _ h => h) (Or.inl ⟨by rfl, ?_⟩) hHeld ?_
            rotate_left
            · (intro W hSw; (try dsimp only at hSw); go_simp; all_goals (with_reducible rfl))
            simp only [List.getElem_toArray, List.getElem_cons_zero, List.getElem_cons_succ, Act.put, List.setIfInBounds_toArray, List.set_cons_zero, List.set_cons_succ]
            refine wpAnyH_done (by kernel_rfl) ?_ _
            refine NoPanic.normal ?_
            clear hHeld
            go_wp2_with fail
            go_meet
            exact ⟨_, _, sq, aq, lq, kq, zq, sr, ar, lr, kr, zr, rfl, rfl, Vq, Vr, hq, hr2, ev, BX, ⟨by omega, by omega, by omega⟩⟩
        ·
          simp only [List.getElem_toArray, List.getElem_cons_zero, List.getElem_cons_succ]
          go_simp
          have lt_Vr_Vq := Vq.lt
          have sz_Vr := BX.size
          refine ent1 _ _ _ (Q := fun V => K _ V) ?_
          intro x5 hb hs_ Vr
          replace Vq := Va.after hb Vq
          replace h4 := It.after hb h4
          replace BX := step BX hb
          clear hb hs_
          refine hK.out _ _ (LS.out _ BX) (fun hHeld => ?_)
          clear hK K
          refine wpAnyH_ready (rs := [3]) (by kernel_rfl) (by simp) ?_
          refine AllReadyH.cons rfl (fun K hK => ?_) AllReadyH.nil
          ·
            simp only [List.getElem_toArray, List.getElem_cons_zero, List.getElem_cons_succ]
            go_simp
            refine (wdiv_ok s false a b l c lb cb xs ys _ (It.after BX L_hx.out) h4 (by rw [iv_f]; have := h0.out.1; omega)).mono ?_
            rintro e x6 ⟨sq, aq, lq, kq, zq, sr, ar, lr, kr, zr, rfl, hq, hr2, d1, d2, hb⟩
            replace Vq := Va.after hb Vq
            replace Vr := Va.after hb Vr
            replace h4 := It.after hb h4
            replace BX := step BX hb
            clear hb
            have ev : iv sq zq = iv s xs / num ys ∧ iv sr zr = iv s xs % num ys := by
              rw [iv_f] at d1 d2
              have hd := h0.out.1
              exact div_of d1 (by omega) (by omega)
            clear d1 d2 h4
            try go_wp2_with fail
            refine hK.out _ _ (LS.out _ BX) (fun hHeld => ?_)
            clear hK K
            refine wpAnyH_take (i := 4) (v := ?_) rfl (by kernel_rfl) (by kernel_rfl) (by kernel_rfl) (fun _ _ _ h => h) (Or.inl ⟨by rfl, ?_⟩) hHeld ?_
            rotate_left
            · (intro W hSw; (try dsimp only at hSw); go_simp; all_goals (with_reducible rfl))
            simp only [List.getElem_toArray, List.getElem_cons_zero, List.getElem_cons_succ, Act.put, List.setIfInBounds_toArray, List.set_cons_zero, List.set_cons_succ]
            refine wpAnyH_take (i := 5) (v := ?_) rfl (by kernel_rfl) (by kernel_rfl) (by kernel_rfl) (fun _ _ _ h => h) (Or.inl ⟨by rfl, ?_⟩) hHeld ?_
            rotate_left
            · (intro W hSw; (try dsimp only at hSw); go_simp; all_goals (with_reducible rfl))
            simp only [List.getElem_toArray, List.getElem_cons_zero, List.getElem_cons_succ, Act.put, List.setIfInBounds_toArray, List.set_cons_zero, List.set_cons_succ]
            refine wpAnyH_take (i := 6) (v := ?_) rfl (by kernel_rfl) (by kernel_rfl) (by kernel_rfl) (fun _ _ _ h => h) (Or.inl ⟨by rfl, ?_⟩) hHeld ?_
            rotate_left
            · (intro W hSw; (try dsimp only at hSw); go_simp; all_goals (with_reducible rfl))
            simp only [List.getElem_toArray, List.getElem_cons_zero, List.getElem_cons_succ, Act.put, List.setIfInBounds_toArray, List.set_cons_zero, List.set_cons_succ]
            refine wpAnyH_take (i := 7) (v := ?_) rfl (by kernel_rfl) (by kernel_rfl) (by kernel_rfl) (fun _ _ _ h => h) (Or.inl ⟨by rfl, ?_⟩) hHeld ?_
            rotate_left
            · (intro W hSw; (try dsimp only at hSw); go_simp; all_goals (with_reducible rfl))
            simp only [List.getElem_toArray, List.getElem_cons_zero, List.getElem_cons_succ, Act.put, List.setIfInBounds_toArray, List.set_cons_zero, List.set_cons_succ]
            have c_Vq := Vq.c0
            have f0_Vq := Vq.frozen 0
            have d_Vq := Vq.c1
            have f1_Vq := Vq.frozen 1
            have l_Vq := Vq.lt
            have m_Vq := Nat.le_of_lt l_Vq
            refine wpAnyH_ready (rs := [10]) (by kernel_rfl) (by simp) ?_
            refine AllReadyH.cons rfl (fun K hK => ?_) AllReadyH.nil
            simp only [List.getElem_toArray, List.getElem_cons_zero, List.getElem_cons_succ]
            go_simp
            clear c_Vq f0_Vq d_Vq f1_Vq l_Vq m_Vq
            refine st2 Vq (.bool sq) (.slice aq lq kq) (Q := fun W => K _ W) ?_
            intro x7 V' oth far
            replace Vr := oth _ _ _ (by first | omega | assumption | (simp; omega)) Vr
            replace hq := hq.far Vq (noInt2 _ _ _ _) far.1
            replace hr2 := hr2.far Vq (noInt2 _ _ _ _) far.1
            replace BX := far.2 _ _ (by first | omega | (simp; omega)) BX
            replace Vq := V'
            clear oth far
            refine hK.out _ _ (LS.out _ BX) (fun hHeld => ?_)
            clear hK K
            have c_Vr := Vr.c0
            have f0_Vr := Vr.frozen 0
            have d_Vr := Vr.c1
            have f1_Vr := Vr.frozen 1
            have l_Vr := Vr.lt
            have m_Vr := Nat.le_of_lt l_Vr
            refine wpAnyH_ready (rs := [11]) (by kernel_rfl) (by simp) ?_
            refine AllReadyH.cons rfl (fun K hK => ?_) AllReadyH.nil
            simp only [List.getElem_toArray, List.getElem_cons_zero, List.getElem_cons_succ]
            go_simp
            clear c_Vr f0_Vr d_Vr f1_Vr l_Vr m_Vr
            refine st2 Vr (.bool sr) (.slice ar lr kr) (Q := fun W => K _ W) ?_
            intro x8 V' oth far
            replace Vq := oth _ _ _ (by first | omega | assumption | (simp; omega)) Vq
            replace hq := hq.far Vr (noInt2 _ _ _ _) far.1
            replace hr2 := hr2.far Vr (noInt2 _ _ _ _) far.1
            replace BX := far.2 _ _ (by first | omega | (simp; omega)) BX
            replace Vr := V'
            clear oth far
            refine hK.out _ _ (LS.out _ BX) (fun hHeld => ?_)
            clear hK K
            refine wpAnyH_take (i := 12) (v := ?_) rfl (by kernel_rfl) (by kernel_rfl) (by kernel_rfl) (fun _ _ _ h => h) (Or.inl ⟨by rfl, ?_⟩) hHeld ?_
            rotate_left
            · (intro W hSw; (try dsimp only at hSw); go_simp; all_goals (with_reducible rfl))
            simp only [List.getElem_toArray, List.getElem_cons_zero, List.getElem_cons_succ, Act.put, List.setIfInBounds_toArray, List.set_cons_zero, List.set_cons_succ]
            refine wpAnyH_done (by kernel_rfl) ?_ _
            refine NoPanic.normal ?_
            clear hHeld
            go_wp2_with fail
            go_meet
            exact ⟨_, _, sq, aq, lq, kq, zq, sr, ar, lr, kr, zr, rfl, rfl, Vq, Vr, hq, hr2, ev, BX, ⟨by omega, by omega, by omega⟩⟩
      ·
        simp only [List.getElem_toArray, List.getElem_cons_zero, List.getElem_cons_succ]
        go_simp
        have lt_Vr_Vq := Vq.lt
        have sz_Vr := BX.size
        refine ent1 _ _ _ (Q := fun V => K _ V) ?_
        intro x4 hb hs_ Vr
        replace Vq := Va.after hb Vq
        replace BX := step BX hb
        clear hb hs_
        refine hK.out _ _ (LS.out _ BX) (fun hHeld => ?_)
        clear hK K
        refine wpAnyH_ready (rs := [2]) (by kernel_rfl) (by simp) ?_
        refine AllReadyH.cons rfl (fun K hK => ?_) AllReadyH.nil
        ·
          simp only [List.getElem_toArray, List.getElem_cons_zero, List.getElem_cons_succ]
          go_simp
          refine (above7 b lb cb ys _ (Nt.after BX L_hy.out)).mono ?_
          rintro e x5 ⟨rfl, h4, hb⟩
          replace Vq := Va.after hb Vq
          replace Vr := Va.after hb Vr
          replace BX := step BX hb
          clear hb
          try go_wp2_with fail
          refine hK.out _ _ (LS.out _ BX) (fun hHeld => ?_)
          clear hK K
          refine wpAnyH_ready (rs := [3]) (by kernel_rfl) (by simp) ?_
          refine AllReadyH.cons rfl (fun K hK => ?_) AllReadyH.nil
          ·
            simp only [List.getElem_toArray, List.getElem_cons_zero, List.getElem_cons_succ]
            go_simp
            refine (wdiv_ok s false a b l c lb cb xs ys _ (It.after BX L_hx.out) h4 (by rw [iv_f]; have := h0.out.1; omega)).mono ?_
            rintro e x6 ⟨sq, aq, lq, kq, zq, sr, ar, lr, kr, zr, rfl, hq, hr2, d1, d2, hb⟩
            replace Vq := Va.after hb Vq
            replace Vr := Va.after hb Vr
            replace h4 := It.after hb h4
            replace BX := step BX hb
            clear hb
            have ev : iv sq zq = iv s xs / num ys ∧ iv sr zr = iv s xs % num ys := by
              rw [iv_f] at d1 d2
              have hd := h0.out.1
              exact div_of d1 (by omega) (by omega)
            clear d1 d2 h4
            try go_wp2_with fail
            refine hK.out _ _ (LS.out _ BX) (fun hHeld => ?_)
            clear hK K
            refine wpAnyH_take (i := 4) (v := ?_) rfl (by kernel_rfl) (by kernel_rfl) (by kernel_rfl) (fun _ _ _ h => h) (Or.inl ⟨by rfl, ?_⟩) hHeld ?_
            rotate_left
            · (intro W hSw; (try dsimp only at hSw); go_simp; all_goals (with_reducible rfl))
            simp only [List.getElem_toArray, List.getElem_cons_zero, List.getElem_cons_succ, Act.put, List.setIfInBounds_toArray, List.set_cons_zero, List.set_cons_succ]
            refine wpAnyH_take (i := 5) (v := ?_) rfl (by kernel_rfl) (by kernel_rfl) (by kernel_rfl) (fun _ _ _ h => h) (Or.inl ⟨by rfl, ?_⟩) hHeld ?_
            rotate_left
            · (intro W hSw; (try dsimp only at hSw); go_simp; all_goals (with_reducible rfl))
            simp only [List.getElem_toArray, List.getElem_cons_zero, List.getElem_cons_succ, Act.put, List.setIfInBounds_toArray, List.set_cons_zero, List.set_cons_succ]
            refine wpAnyH_take (i := 6) (v := ?_) rfl (by kernel_rfl) (by kernel_rfl) (by kernel_rfl) (fun _ _ _ h => h) (Or.inl ⟨by rfl, ?_⟩) hHeld ?_
            rotate_left
            · (intro W hSw; (try dsimp only at hSw); go_simp; all_goals (with_reducible rfl))
            simp only [List.getElem_toArray, List.getElem_cons_zero, List.getElem_cons_succ, Act.put, List.setIfInBounds_toArray, List.set_cons_zero, List.set_cons_succ]
            refine wpAnyH_take (i := 7) (v := ?_) rfl (by kernel_rfl) (by kernel_rfl) (by kernel_rfl) (fun _ _ _ h => h) (Or.inl ⟨by rfl, ?_⟩) hHeld ?_
            rotate_left
            · (intro W hSw; (try dsimp only at hSw); go_simp; all_goals (with_reducible rfl))
            simp only [List.getElem_toArray, List.getElem_cons_zero, List.getElem_cons_succ, Act.put, List.setIfInBounds_toArray, List.set_cons_zero, List.set_cons_succ]
            have c_Vq := Vq.c0
            have f0_Vq := Vq.frozen 0
            have d_Vq := Vq.c1
            have f1_Vq := Vq.frozen 1
            have l_Vq := Vq.lt
            have m_Vq := Nat.le_of_lt l_Vq
            refine wpAnyH_ready (rs := [10]) (by kernel_rfl) (by simp) ?_
            refine AllReadyH.cons rfl (fun K hK => ?_) AllReadyH.nil
            simp only [List.getElem_toArray, List.getElem_cons_zero, List.getElem_cons_succ]
            go_simp
            clear c_Vq f0_Vq d_Vq f1_Vq l_Vq m_Vq
            refine st2 Vq (.bool sq) (.slice aq lq kq) (Q := fun W => K _ W) ?_
            intro x7 V' oth far
            replace Vr := oth _ _ _ (by first | omega | assumption | (simp; omega)) Vr
            replace hq := hq.far Vq (noInt2 _ _ _ _) far.1
            replace hr2 := hr2.far Vq (noInt2 _ _ _ _) far.1
            replace BX := far.2 _ _ (by first | omega | (simp; omega)) BX
            replace Vq := V'
            clear oth far
            refine hK.out _ _ (LS.out _ BX) (fun hHeld => ?_)
            clear hK K
            have c_Vr := Vr.c0
            have f0_Vr := Vr.frozen 0
            have d_Vr := Vr.c1
            have f1_Vr := Vr.frozen 1
            have l_Vr := Vr.lt
            have m_Vr := Nat.le_of_lt l_Vr
            refine wpAnyH_ready (rs := [11]) (by kernel_rfl) (by simp) ?_
            refine AllReadyH.cons rfl (fun K hK => ?_) AllReadyH.nil
            simp only [List.getElem_toArray, List.getElem_cons_zero, List.getElem_cons_succ]
            go_simp
            clear c_Vr f0_Vr d_Vr f1_Vr l_Vr m_Vr
            refine st2 Vr (.bool sr) (.slice ar lr kr) (Q := fun W => K _ W) ?_
            intro x8 V' oth far
            replace Vq := oth _ _ _ (by first | omega | assumption | (simp; omega)) Vq
            replace hq := hq.far Vr (noInt2 _ _ _ _) far.1
            replace hr2 := hr2.far Vr (noInt2 _ _ _ _) far.1
            replace BX := far.2 _ _ (by first | omega | (simp; omega)) BX
            replace Vr := V'
            clear oth far
            refine hK.out _ _ (LS.out _ BX) (fun hHeld => ?_)
            clear hK K
            refine wpAnyH_take (i := 12) (v := ?_) rfl (by kernel_rfl) (by kernel_rfl) (by kernel_rfl) (fun _ _ _ h => h) (Or.inl ⟨by rfl, ?_⟩) hHeld ?_
            rotate_left
            · (intro W hSw; (try dsimp only at hSw); go_simp; all_goals (with_reducible rfl))
            simp only [List.getElem_toArray, List.getElem_cons_zero, List.getElem_cons_succ, Act.put, List.setIfInBounds_toArray, List.set_cons_zero, List.set_cons_succ]
            refine wpAnyH_done (by kernel_rfl) ?_ _
            refine NoPanic.normal ?_
            clear hHeld
            go_wp2_with fail
            go_meet
            exact ⟨_, _, sq, aq, lq, kq, zq, sr, ar, lr, kr, zr, rfl, rfl, Vq, Vr, hq, hr2, ev, BX, ⟨by omega, by omega, by omega⟩⟩
    ·
      simp only [List.getElem_toArray, List.getElem_cons_zero, List.getElem_cons_succ]
      go_simp
      have sz_Vr := BX.size
      refine ent1 _ _ _ (Q := fun V => K _ V) ?_
      intro x3 hb hs_ Vr
      replace BX := step BX hb
      clear hb hs_
      refine hK.out _ _ (LS.out _ BX) (fun hHeld => ?_)
      clear hK K
      refine wpAnyH_ready (rs := [2, 8]) (by kernel_rfl) (by simp) ?_
      refine AllReadyH.cons rfl (fun K hK => ?_) (AllReadyH.cons rfl (fun K hK => ?_) AllReadyH.nil)
      ·
        simp only [List.getElem_toArray, List.getElem_cons_zero, List.getElem_cons_succ]
        go_simp
        refine (above7 b lb cb ys _ (Nt.after BX L_hy.out)).mono ?_
        rintro e x4 ⟨rfl, h4, hb⟩
        replace Vr := Va.after hb Vr
        replace BX := step BX hb
        clear hb
        try go_wp2_with fail
        refine hK.out _ _ (LS.out _ BX) (fun hHeld => ?_)
        clear hK K
        refine wpAnyH_ready (rs := [3, 8]) (by kernel_rfl) (by simp) ?_
        refine AllReadyH.cons rfl (fun K hK => ?_) (AllReadyH.cons rfl (fun K hK => ?_) AllReadyH.nil)
        ·
          simp only [List.getElem_toArray, List.getElem_cons_zero, List.getElem_cons_succ]
          go_simp
          refine (wdiv_ok s false a b l c lb cb xs ys _ (It.after BX L_hx.out) h4 (by rw [iv_f]; have := h0.out.1; omega)).mono ?_
          rintro e x5 ⟨sq, aq, lq, kq, zq, sr, ar, lr, kr, zr, rfl, hq, hr2, d1, d2, hb⟩
          replace Vr := Va.after hb Vr
          replace h4 := It.after hb h4
          replace BX := step BX hb
          clear hb
          have ev : iv sq zq = iv s xs / num ys ∧ iv sr zr = iv s xs % num ys := by
            rw [iv_f] at d1 d2
            have hd := h0.out.1
            exact div_of d1 (by omega) (by omega)
          clear d1 d2 h4
          try go_wp2_with fail
          refine hK.out _ _ (LS.out _ BX) (fun hHeld => ?_)
          clear hK K
          refine wpAnyH_take (i := 4) (v := ?_) rfl (by kernel_rfl) (by kernel_rfl) (by kernel_rfl) (fun _ _ _ h => h) (Or.inl ⟨by rfl, ?_⟩) hHeld ?_
          rotate_left
          · (intro W hSw; (try dsimp only at hSw); go_simp; all_goals (with_reducible rfl))
          simp only [List.getElem_toArray, List.getElem_cons_zero, List.getElem_cons_succ, Act.put, List.setIfInBounds_toArray, List.set_cons_zero, List.set_cons_succ]
          refine wpAnyH_take (i := 5) (v := ?_) rfl (by kernel_rfl) (by kernel_rfl) (by kernel_rfl) (fun _ _ _ h => h) (Or.inl ⟨by rfl, ?_⟩) hHeld ?_
          rotate_left
          · (intro W hSw; (try dsimp only at hSw); go_simp; all_goals (with_reducible rfl))
          simp only [List.getElem_toArray, List.getElem_cons_zero, List.getElem_cons_succ, Act.put, List.setIfInBounds_toArray, List.set_cons_zero, List.set_cons_succ]
          refine wpAnyH_take (i := 6) (v := ?_) rfl (by kernel_rfl) (by kernel_rfl) (by kernel_rfl) (fun _ _ _ h => h) (Or.inl ⟨by rfl, ?_⟩) hHeld ?_
          rotate_left
          · (intro W hSw; (try dsimp only at hSw); go_simp; all_goals (with_reducible rfl))
          simp only [List.getElem_toArray, List.getElem_cons_zero, List.getElem_cons_succ, Act.put, List.setIfInBounds_toArray, List.set_cons_zero, List.set_cons_succ]
          refine wpAnyH_take (i := 7) (v := ?_) rfl (by kernel_rfl) (by kernel_rfl) (by kernel_rfl) (fun _ _ _ h => h) (Or.inl ⟨by rfl, ?_⟩) hHeld ?_
          rotate_left
          · (intro W hSw; (try dsimp only at hSw); go_simp; all_goals (with_reducible rfl))
          simp only [List.getElem_toArray, List.getElem_cons_zero, List.getElem_cons_succ, Act.put, List.setIfInBounds_toArray, List.set_cons_zero, List.set_cons_succ]
          refine wpAnyH_ready (rs := [8]) (by kernel_rfl) (by simp) ?_
          refine AllReadyH.cons rfl (fun K hK => ?_) AllReadyH.nil
          ·
            simp only [List.getElem_toArray, List.getElem_cons_zero, List.getElem_cons_succ]
            go_simp
            have lt_Vq_Vr := Vr.lt
            have sz_Vq := BX.size
            refine ent1 _ _ _ (Q := fun V => K _ V) ?_
            intro x6 hb hs_ Vq
            replace Vr := Va.after hb Vr
            replace hq := It.after hb hq
            replace hr2 := It.after hb hr2
            replace BX := step BX hb
            clear hb hs_
            refine hK.out _ _ (LS.out _ BX) (fun hHeld => ?_)
            clear hK K
            have c_Vq := Vq.c0
            have f0_Vq := Vq.frozen 0
            have d_Vq := Vq.c1
            have f1_Vq := Vq.frozen 1
            have l_Vq := Vq.lt
            have m_Vq := Nat.le_of_lt l_Vq
            refine wpAnyH_ready (rs := [10]) (by kernel_rfl) (by simp) ?_
            refine AllReadyH.cons rfl (fun K hK => ?_) AllReadyH.nil
            simp only [List.getElem_toArray, List.getElem_cons_zero, List.getElem_cons_succ]
            go_simp
            clear c_Vq f0_Vq d_Vq f1_Vq l_Vq m_Vq
            refine st2 Vq (.bool sq) (.slice aq lq kq) (Q := fun W => K _ W) ?_
            intro x7 V' oth far
            replace Vr := oth _ _ _ (by first | omega | assumption | (simp; omega)) Vr
            replace hq := hq.far Vq (noInt2 _ _ _ _) far.1
            replace hr2 := hr2.far Vq (noInt2 _ _ _ _) far.1
            replace BX := far.2 _ _ (by first | omega | (simp; omega)) BX
            replace Vq := V'
            clear oth far
            refine hK.out _ _ (LS.out _ BX) (fun hHeld => ?_)
            clear hK K
            have c_Vr := Vr.c0
            have f0_Vr := Vr.frozen 0
            have d_Vr := Vr.c1
            have f1_Vr := Vr.frozen 1
            have l_Vr := Vr.lt
            have m_Vr := Nat.le_of_lt l_Vr
            refine wpAnyH_ready (rs := [11]) (by kernel_rfl) (by simp) ?_
            refine AllReadyH.cons rfl (fun K hK => ?_) AllReadyH.nil
            simp only [List.getElem_toArray, List.getElem_cons_zero, List.getElem_cons_succ]
            go_simp
            clear c_Vr f0_Vr d_Vr f1_Vr l_Vr m_Vr
            refine st2 Vr (.bool sr) (.slice ar lr kr) (Q := fun W => K _ W) ?_
            intro x8 V' oth far
            replace Vq := oth _ _ _ (by first | omega | assumption | (simp; omega)) Vq
            replace hq := hq.far Vr (noInt2 _ _ _ _) far.1
            replace hr2 := hr2.far Vr (noInt2 _ _ _ _) far.1
            replace BX := far.2 _ _ (by first | omega | (simp; omega)) BX
            replace Vr := V'
            clear oth far
            refine hK.out _ _ (LS.out _ BX) (fun hHeld => ?_)
            clear hK K
            refine wpAnyH_take (i := 12) (v := ?_) rfl (by kernel_rfl) (by kernel_rfl) (by kernel_rfl) (fun _ _ _ h => h) (Or.inl ⟨by rfl, ?_⟩) hHeld ?_
            rotate_left
            · (intro W hSw; (try dsimp only at hSw); go_simp; all_goals (with_reducible rfl))
            simp only [List.getElem_toArray, List.getElem_cons_zero, List.getElem_cons_succ, Act.put, List.setIfInBounds_toArray, List.set_cons_zero, List.set_cons_succ]
            refine wpAnyH_done (by kernel_rfl) ?_ _
            refine NoPanic.normal ?_
            clear hHeld
            go_wp2_with fail
            go_meet
            exact ⟨_, _, sq, aq, lq, kq, zq, sr, ar, lr, kr, zr, rfl, rfl, Vq, Vr, hq, hr2, ev, BX, ⟨by omega, by omega, by omega⟩⟩
        ·
          simp only [List.getElem_toArray, List.getElem_cons_zero, List.getElem_cons_succ]
          go_simp
          have lt_Vq_Vr := Vr.lt
          have sz_Vq := BX.size
          refine ent1 _ _ _ (Q := fun V => K _ V) ?_
          intro x5 hb hs_ Vq
          replace Vr := Va.after hb Vr
          replace h4 := It.after hb h4
          replace BX := step BX hb
          clear hb hs_
          refine hK.out _ _ (LS.out _ BX) (fun hHeld => ?_)
          clear hK K
          refine wpAnyH_ready (rs := [3]) (by kernel_rfl) (by simp) ?_
          refine AllReadyH.cons rfl (fun K hK => ?_) AllReadyH.nil
          ·
            simp only [List.getElem_toArray, List.getElem_cons_zero, List.getElem_cons_succ]
            go_simp
            refine (wdiv_ok s false a b l c lb cb xs ys _ (It.after BX L_hx.out) h4 (by rw [iv_f]; have := h0.out.1; omega)).mono ?_
            rintro e x6 ⟨sq, aq, lq, kq, zq, sr, ar, lr, kr, zr, rfl, hq, hr2, d1, d2, hb⟩
            replace Vr := Va.after hb Vr
            replace Vq := Va.after hb Vq
            replace h4 := It.after hb h4
            replace BX := step BX hb
            clear hb
            have ev : iv sq zq = iv s xs / num ys ∧ iv sr zr = iv s xs % num ys := by
              rw [iv_f] at d1 d2
              have hd := h0.out.1
              exact div_of d1 (by omega) (by omega)
            clear d1 d2 h4
            try go_wp2_with fail
            refine hK.out _ _ (LS.out _ BX) (fun hHeld => ?_)
            clear hK K
            refine wpAnyH_take (i := 4) (v := ?_) rfl (by kernel_rfl) (by kernel_rfl) (by kernel_rfl) (fun _ _ _ h => h) (Or.inl ⟨by rfl, ?_⟩) hHeld ?_
            rotate_left
            · (intro W hSw; (try dsimp only at hSw); go_simp; all_goals (with_reducible rfl))
            simp only [List.getElem_toArray, List.getElem_cons_zero, List.getElem_cons_succ, Act.put, List.setIfInBounds_toArray, List.set_cons_zero, List.set_cons_succ]
            refine wpAnyH_take (i := 5) (v := ?_) rfl (by kernel_rfl) (by kernel_rfl) (by kernel_rfl) (fun _ _ _ h => h) (Or.inl ⟨by rfl, ?_⟩) hHeld ?_
            rotate_left
            · (intro W hSw; (try dsimp only at hSw); go_simp; all_goals (with_reducible rfl))
            simp only [List.getElem_toArray, List.getElem_cons_zero, List.getElem_cons_succ, Act.put, List.setIfInBounds_toArray, List.set_cons_zero, List.set_cons_succ]
            refine wpAnyH_take (i := 6) (v := ?_) rfl (by kernel_rfl) (by kernel_rfl) (by kernel_rfl) (fun _ _ _ h => h) (Or.inl ⟨by rfl, ?_⟩) hHeld ?_
            rotate_left
            · (intro W hSw; (try dsimp only at hSw); go_simp; all_goals (with_reducible rfl))
            simp only [List.getElem_toArray, List.getElem_cons_zero, List.getElem_cons_succ, Act.put, List.setIfInBounds_toArray, List.set_cons_zero, List.set_cons_succ]
            refine wpAnyH_take (i := 7) (v := ?_) rfl (by kernel_rfl) (by kernel_rfl) (by kernel_rfl) (fun _ _ _ h => h) (Or.inl ⟨by rfl, ?_⟩) hHeld ?_
            rotate_left
            · (intro W hSw; (try dsimp only at hSw); go_simp; all_goals (with_reducible rfl))
            simp only [List.getElem_toArray, List.getElem_cons_zero, List.getElem_cons_succ, Act.put, List.setIfInBounds_toArray, List.set_cons_zero, List.set_cons_succ]
            have c_Vq := Vq.c0
            have f0_Vq := Vq.frozen 0
            have d_Vq := Vq.c1
            have f1_Vq := Vq.frozen 1
            have l_Vq := Vq.lt
            have m_Vq := Nat.le_of_lt l_Vq
            refine wpAnyH_ready (rs := [10]) (by kernel_rfl) (by simp) ?_
            refine AllReadyH.cons rfl (fun K hK => ?_) AllReadyH.nil
            simp only [List.getElem_toArray, List.getElem_cons_zero, List.getElem_cons_succ]
            go_simp
            clear c_Vq f0_Vq d_Vq f1_Vq l_Vq m_Vq
            refine st2 Vq (.bool sq) (.slice aq lq kq) (Q := fun W => K _ W) ?_
            intro x7 V' oth far
            replace Vr := oth _ _ _ (by first | omega | assumption | (simp; omega)) Vr
            replace hq := hq.far Vq (noInt2 _ _ _ _) far.1
            replace hr2 := hr2.far Vq (noInt2 _ _ _ _) far.1
            replace BX := far.2 _ _ (by first | omega | (simp; omega)) BX
            replace Vq := V'
            clear oth far
            refine hK.out _ _ (LS.out _ BX) (fun hHeld => ?_)
            clear hK K
            have c_Vr := Vr.c0
            have f0_Vr := Vr.frozen 0
            have d_Vr := Vr.c1
            have f1_Vr := Vr.frozen 1
            have l_Vr := Vr.lt
            have m_Vr := Nat.le_of_lt l_Vr
            refine wpAnyH_ready (rs := [11]) (by kernel_rfl) (by simp) ?_
            refine AllReadyH.cons rfl (fun K hK => ?_) AllReadyH.nil
            simp only [List.getElem_toArray, List.getElem_cons_zero, List.getElem_cons_succ]
            go_simp
            clear c_Vr f0_Vr d_Vr f1_Vr l_Vr m_Vr
            refine st2 Vr (.bool sr) (.slice ar lr kr) (Q := fun W => K _ W) ?_
            intro x8 V' oth far
            replace Vq := oth _ _ _ (by first | omega | assumption | (simp; omega)) Vq
            replace hq := hq.far Vr (noInt2 _ _ _ _) far.1
            replace hr2 := hr2.far Vr (noInt2 _ _ _ _) far.1
            replace BX := far.2 _ _ (by first | omega | (simp; omega)) BX
            replace Vr := V'
            clear oth far
            refine hK.out _ _ (LS.out _ BX) (fun hHeld => ?_)
            clear hK K
            refine wpAnyH_take (i := 12) (v := ?_) rfl (by kernel_rfl) (by kernel_rfl) (by kernel_rfl) (fun _ _ _ h => h) (Or.inl ⟨by rfl, ?_⟩) hHeld ?_
            rotate_left
            · (intro W hSw; (try dsimp only at hSw); go_simp; all_goals (with_reducible rfl))
            simp only [List.getElem_toArray, List.getElem_cons_zero, List.getElem_cons_succ, Act.put, List.setIfInBounds_toArray, List.set_cons_zero, List.set_cons_succ]
            refine wpAnyH_done (by kernel_rfl) ?_ _
            refine NoPanic.normal ?_
            clear hHeld
            go_wp2_with fail
            go_meet
            exact ⟨_, _, sq, aq, lq, kq, zq, sr, ar, lr, kr, zr, rfl, rfl, Vq, Vr, hq, hr2, ev, BX, ⟨by omega, by omega, by omega⟩⟩
      ·
        simp only [List.getElem_toArray, List.getElem_cons_zero, List.getElem_cons_succ]
        go_simp
        have lt_Vq_Vr := Vr.lt
        have sz_Vq := BX.size
        refine ent1 _ _ _ (Q := fun V => K _ V) ?_
        intro x4 hb hs_ Vq
        replace Vr := Va.after hb Vr
        replace BX := step BX hb
        clear hb hs_
        refine hK.out _ _ (LS.out _ BX) (fun hHeld => ?_)
        clear hK K
        refine wpAnyH_ready (rs := [2]) (by kernel_rfl) (by simp) ?_
        refine AllReadyH.cons rfl (fun K hK => ?_) AllReadyH.nil
        ·
          simp only [List.getElem_toArray, List.getElem_cons_zero, List.getElem_cons_succ]
          go_simp
          refine (above7 b lb cb ys _ (Nt.after BX L_hy.out)).mono ?_
          rintro e x5 ⟨rfl, h4, hb⟩
          replace Vr := Va.after hb Vr
          replace Vq := Va.after hb Vq
          replace BX := step BX hb
          clear hb
          try go_wp2_with fail
          refine hK.out _ _ (LS.out _ BX) (fun hHeld => ?_)
          clear hK K
          refine wpAnyH_ready (rs := [3]) (by kernel_rfl) (by simp) ?_
          refine AllReadyH.cons rfl (fun K hK => ?_) AllReadyH.nil
          ·
            simp only [List.getElem_toArray, List.getElem_cons_zero, List.getElem_cons_succ]
            go_simp
            refine (wdiv_ok s false a b l c lb cb xs ys _ (It.after BX L_hx.out) h4 (by rw [iv_f]; have := h0.out.1; omega)).mono ?_
            rintro e x6 ⟨sq, aq, lq, kq, zq, sr, ar, lr, kr, zr, rfl, hq, hr2, d1, d2, hb⟩
            replace Vr := Va.after hb Vr
            replace Vq := Va.after hb Vq
            replace h4 := It.after hb h4
            replace BX := step BX hb
            clear hb
            have ev : iv sq zq = iv s xs / num ys ∧ iv sr zr = iv s xs % num ys := by
              rw [iv_f] at d1 d2
              have hd := h0.out.1
              exact div_of d1 (by omega) (by omega)
            clear d1 d2 h4
            try go_wp2_with fail
            refine hK.out _ _ (LS.out _ BX) (fun hHeld => ?_)
            clear hK K
            refine wpAnyH_take (i := 4) (v := ?_) rfl (by kernel_rfl) (by kernel_rfl) (by kernel_rfl) (fun _ _ _ h => h) (Or.inl ⟨by rfl, ?_⟩) hHeld ?_
            rotate_left
            · (intro W hSw; (try dsimp only at hSw); go_simp; all_goals (with_reducible rfl))
            simp only [List.getElem_toArray, List.getElem_cons_zero, List.getElem_cons_succ, Act.put, List.setIfInBounds_toArray, List.set_cons_zero, List.set_cons_succ]
            refine wpAnyH_take (i := 5) (v := ?_) rfl (by kernel_rfl) (by kernel_rfl) (by kernel_rfl) (fun _ _ _ h => h) (Or.inl ⟨by rfl, ?_⟩) hHeld ?_
            rotate_left
            · (intro W hSw; (try dsimp only at hSw); go_simp; all_goals (with_reducible rfl))
            simp only [List.getElem_toArray, List.getElem_cons_zero, List.getElem_cons_succ, Act.put, List.setIfInBounds_toArray, List.set_cons_zero, List.set_cons_succ]
            refine wpAnyH_take (i := 6) (v := ?_) rfl (by kernel_rfl) (by kernel_rfl) (by kernel_rfl) (fun _ _ _ h => h) (Or.inl ⟨by rfl, ?_⟩) hHeld ?_
            rotate_left
            · (intro W hSw; (try dsimp only at hSw); go_simp; all_goals (with_reducible rfl))
            simp only [List.getElem_toArray, List.getElem_cons_zero, List.getElem_cons_succ, Act.put, List.setIfInBounds_toArray, List.set_cons_zero, List.set_cons_succ]
            refine wpAnyH_take (i := 7) (v := ?_) rfl (by kernel_rfl) (by kernel_rfl) (by kernel_rfl) (fun _ _ _ h => h) (Or.inl ⟨by rfl, ?_⟩) hHeld ?_
            rotate_left
            · (intro W hSw; (try dsimp only at hSw); go_simp; all_goals (with_reducible rfl))
            simp only [List.getElem_toArray, List.getElem_cons_zero, List.getElem_cons_succ, Act.put, List.setIfInBounds_toArray, List.set_cons_zero, List.set_cons_succ]
            have c_Vq := Vq.c0
            have f0_Vq := Vq.frozen 0
            have d_Vq := Vq.c1
            have f1_Vq := Vq.frozen 1
            have l_Vq := Vq.lt
            have m_Vq := Nat.le_of_lt l_Vq
            refine wpAnyH_ready (rs := [10]) (by kernel_rfl) (by simp) ?_
            refine AllReadyH.cons rfl (fun K hK => ?_) AllReadyH.nil
            simp only [List.getElem_toArray, List.getElem_cons_zero, List.getElem_cons_succ]
            go_simp
            clear c_Vq f0_Vq d_Vq f1_Vq l_Vq m_Vq
            refine st2 Vq (.bool sq) (.slice aq lq kq) (Q := fun W => K _ W) ?_
            intro x7 V' oth far
            replace Vr := oth _ _ _ (by first | omega | assumption | (simp; omega)) Vr
            replace hq := hq.far Vq (noInt2 _ _ _ _) far.1
            replace hr2 := hr2.far Vq (noInt2 _ _ _ _) far.1
            replace BX := far.2 _ _ (by first | omega | (simp; omega)) BX
            replace Vq := V'
            clear oth far
            refine hK.out _ _ (LS.out _ BX) (fun hHeld => ?_)
            clear hK K
            have c_Vr := Vr.c0
            have f0_Vr := Vr.frozen 0
            have d_Vr := Vr.c1
            have f1_Vr := Vr.frozen 1
            have l_Vr := Vr.lt
            have m_Vr := Nat.le_of_lt l_Vr
            refine wpAnyH_ready (rs := [11]) (by kernel_rfl) (by simp) ?_
            refine AllReadyH.cons rfl (fun K hK => ?_) AllReadyH.nil
            simp only [List.getElem_toArray, List.getElem_cons_zero, List.getElem_cons_succ]
            go_simp
            clear c_Vr f0_Vr d_Vr f1_Vr l_Vr m_Vr
            refine st2 Vr (.bool sr) (.slice ar lr kr) (Q := fun W => K _ W) ?_
            intro x8 V' oth far
            replace Vq := oth _ _ _ (by first | omega | assumption | (simp; omega)) Vq
            replace hq := hq.far Vr (noInt2 _ _ _ _) far.1
            replace hr2 := hr2.far Vr (noInt2 _ _ _ _) far.1
            replace BX := far.2 _ _ (by first | omega | (simp; omega)) BX
            replace Vr := V'
            clear oth far
            refine hK.out _ _ (LS.out _ BX) (fun hHeld => ?_)
            clear hK K
            refine wpAnyH_take (i := 12) (v := ?_) rfl (by kernel_rfl) (by kernel_rfl) (by kernel_rfl) (fun _ _ _ h => h) (Or.inl ⟨by rfl, ?_⟩) hHeld ?_
            rotate_left
            · (intro W hSw; (try dsimp only at hSw); go_simp; all_goals (with_reducible rfl))
            simp only [List.getElem_toArray, List.getElem_cons_zero, List.getElem_cons_succ, Act.put, List.setIfInBounds_toArray, List.set_cons_zero, List.set_cons_succ]
            refine wpAnyH_done (by kernel_rfl) ?_ _
            refine NoPanic.normal ?_
            clear hHeld
            go_wp2_with fail
            go_meet
            exact ⟨_, _, sq, aq, lq, kq, zq, sr, ar, lr, kr, zr, rfl, rfl, Vq, Vr, hq, hr2, ev, BX, ⟨by omega, by omega, by omega⟩⟩
  case rest =>
    clear BX
    obtain ⟨b7, b8, sq, aq, lq, kq, zq, sr, ar, lr, kr, zr, rfl, rfl, Vq', Vr', hq', hr2', EV', BX', hineq'⟩ := hcut
    have Vq := Vq'.out
    have Vr := Vr'.out
    have hq := hq'.out
    have hr2 := hr2'.out
    have EV := EV'.out
    have BX := BX'.out
    have hineq := hineq'.out
    clear Vq' Vr' hq' hr2' EV' BX' hineq'
    obtain ⟨iq0, iq1, iq2⟩ := hineq
    have V0 := Va.after BX L_V0.out
    have V1 := Va.after BX L_V1.out
    have V2 := Va.after BX L_V2.out
    have V3 := Va.after BX L_V3.out
    have hx := It.after BX L_hx.out
    have hy := Nt.after BX L_hy.out
    have B0 := step L_B.out BX
    have EQ : Hid (iv sq zq = iv s xs / num ys) := EV.1
    have ER : Hid (iv sr zr = iv s xs % num ys) := EV.2
    clear EV
    have R0 : Hid (0 ≤ iv s xs % num ys ∧ iv s xs % num ys < num ys) := ⟨Int.emod_nonneg _ (by have := h0.out.1; omega), Int.emod_lt_of_pos _ h0.out.1⟩
    by_cases hz : iv s xs % num ys = 0
    ·
      have HZ : Hid (iv s xs % num ys = 0) := hz
      clear hz
      have c_Vr := Vr.c0
      have f0_Vr := Vr.frozen 0
      have d_Vr := Vr.c1
      have f1_Vr := Vr.frozen 1
      have l_Vr := Vr.lt
      have m_Vr := Nat.le_of_lt l_Vr
      go_wp2_with fail
      refine (wsign_any sr ar lr kr zr wc hr2).mono ?_
      rintro e x2 ⟨rfl, hb⟩
      replace V0 := Va.after hb V0
      replace V1 := Va.after hb V1
      replace V2 := Va.after hb V2
      replace V3 := Va.after hb V3
      replace Vq := Va.after hb Vq
      replace Vr := Va.after hb Vr
      replace hx := It.after hb hx
      replace hy := Nt.after hb hy
      replace hq := It.after hb hq
      replace hr2 := It.after hb hr2
      replace B0 := step B0 hb
      clear hb
      rw [ER.out, HZ.out, Int.sign_zero]
      clear c_Vr f0_Vr d_Vr f1_Vr l_Vr m_Vr
      have c_Vq := Vq.c0
      have f0_Vq := Vq.frozen 0
      have d_Vq := Vq.c1
      have f1_Vq := Vq.frozen 1
      have l_Vq := Vq.lt
      have m_Vq := Nat.le_of_lt l_Vq
      have c_V3 := V3.c0
      have f0_V3 := V3.frozen 0
      have d_V3 := V3.c1
      have f1_V3 := V3.frozen 1
      have l_V3 := V3.lt
      have m_V3 := Nat.le_of_lt l_V3
      go_wp2_with fail
      refine bodyPost_ret (results_w rfl rfl (V3.set2 _ _)) rfl ?_
      exact ⟨sq, aq, lq, kq, zq, rfl, hq.far V3 (noInt2 _ _ _ _) (far2 _ _ _ _), by rw [EQ.out]; unfold rnd; rw [if_pos HZ.out], below_2 B0 (by omega) _ _⟩
    ·
      have HZ : Hid (iv s xs % num ys ≠ 0) := hz
      clear hz
      obtain ⟨rb, hrb⟩ : ∃ rb, rise m (cmp3 (2 * (iv s xs % num ys)) (num ys)) (decide (iv s xs / num ys % 2 ≠ 0)) = rb := ⟨_, rfl⟩
      have HR : Hid (rise m (cmp3 (2 * (iv s xs % num ys)) (num ys)) (decide (iv s xs / num ys % 2 ≠ 0)) = rb) := hrb
      clear hrb
      have HA : Hid (num zr = iv s xs % num ys) := by
        have h5 := hr2.abs
        rw [ER.out] at h5
        have h6 := R0.out.1
        rw [h5]; show ((iv s xs % num ys).natAbs : Int) = _; omega
      have c_Vr := Vr.c0
      have f0_Vr := Vr.frozen 0
      have d_Vr := Vr.c1
      have f1_Vr := Vr.frozen 1
      have l_Vr := Vr.lt
      have m_Vr := Nat.le_of_lt l_Vr
      go_wp2_with fail
      refine (wsign_any sr ar lr kr zr wc hr2).mono ?_
      rintro e x2 ⟨rfl, hb⟩
      replace V0 := Va.after hb V0
      replace V1 := Va.after hb V1
      replace V2 := Va.after hb V2
      replace V3 := Va.after hb V3
      replace Vq := Va.after hb Vq
      replace Vr := Va.after hb Vr
      replace hx := It.after hb hx
      replace hy := Nt.after hb hy
      replace hq := It.after hb hq
      replace hr2 := It.after hb hr2
      replace B0 := step B0 hb
      clear hb
      rw [ER.out, Int.sign_eq_one_of_pos (by have h5 := R0.out.1; have h6 := HZ.out; omega)]
      clear c_Vr f0_Vr d_Vr f1_Vr l_Vr m_Vr
      have c_Vr := Vr.c0
      have f0_Vr := Vr.frozen 0
      have d_Vr := Vr.c1
      have f1_Vr := Vr.frozen 1
      have l_Vr := Vr.lt
      have m_Vr := Nat.le_of_lt l_Vr
      go_wp2_with fail
      refine (wabs_any sr ar lr kr x2).mono ?_
      rintro e x3 ⟨rfl, hb⟩
      replace V0 := Va.after hb V0
      replace V1 := Va.after hb V1
      replace V2 := Va.after hb V2
      replace V3 := Va.after hb V3
      replace Vq := Va.after hb Vq
      replace Vr := Va.after hb Vr
      replace hx := It.after hb hx
      replace hy := Nt.after hb hy
      replace hq := It.after hb hq
      replace hr2 := It.after hb hr2
      replace B0 := step B0 hb
      clear hb
      clear c_Vr f0_Vr d_Vr f1_Vr l_Vr m_Vr
      go_wp2_with fail
      refine (nleft_one ar lr kr zr x3 hr2.1 (by show num zr < pw 2048; rw [HA.out]; have h5 := R0.out.2; have h6 := h0.out.2 2048 rfl; omega)).mono ?_
      rintro e x4 ⟨a2, l2, c2, z2, rfl, h2, e2, hb⟩
      replace V0 := Va.after hb V0
      replace V1 := Va.after hb V1
      replace V2 := Va.after hb V2
      replace V3 := Va.after hb V3
      replace Vq := Va.after hb Vq
      replace Vr := Va.after hb Vr
      replace hx := It.after hb hx
      replace hy := Nt.after hb hy
      replace hq := It.after hb hq
      replace hr2 := It.after hb hr2
      replace B0 := step B0 hb
      clear hb
      have E2 : Hid (num z2 = 2 * (iv s xs % num ys)) := by show num z2 = _; rw [e2, HA.out]
      clear e2
      go_wp2_with fail
      refine ent1 x4 _ _ (Q := fun W => Code.wp Tryz.prog _ _ _ W) ?_
      intro x5 hb hs_x5 Vt
      replace V0 := Va.after hb V0
      replace V1 := Va.after hb V1
      replace V2 := Va.after hb V2
      replace V3 := Va.after hb V3
      replace Vq := Va.after hb Vq
      replace Vr := Va.after hb Vr
      replace hx := It.after hb hx
      replace hy := Nt.after hb hy
      replace hq := It.after hb hq
      replace hr2 := It.after hb hr2
      replace h2 := Nt.after hb h2
      replace B0 := step B0 hb
      clear hb hs_x5
      refine wp_region_noPanic ?_
      replace V0 : Va x5.drew _ _ _ := V0
      replace V1 : Va x5.drew _ _ _ := V1
      replace V2 : Va x5.drew _ _ _ := V2
      replace V3 : Va x5.drew _ _ _ := V3
      replace Vq : Va x5.drew _ _ _ := Vq
      replace Vr : Va x5.drew _ _ _ := Vr
      replace Vt : Va x5.drew _ _ _ := Vt
      replace hx := hx.drw
      replace hy := hy.drw
      replace hq := hq.drw
      replace hr2 := hr2.drw
      replace h2 := h2.drw
      replace B0 := Below.drew B0
      refine wp_region_held_drew (S := (fun W => W.cell? ⟨w.heap.size, 0, none⟩ = some (.int .i64 m) ∧ W.cell? ⟨w.heap.size, 1, none⟩ = some (.string nm) ∧ W.cell? ⟨w.heap.size, 2, none⟩ = some (.func (.func K) #[] #[]) ∧ W.cell? ⟨x4.heap.size, 0, none⟩ = some (.slice a2 l2 c2) ∧ W.cell? ⟨w.heap.size + 1 + 1, 0, none⟩ = some (.slice b lb cb) ∧ W.cell? ⟨b7, 0, none⟩ = some (.bool sq) ∧ W.cell? ⟨b7, 1, none⟩ = some (.slice aq lq kq))) (by kernel_rfl) ⟨V0.d0, V0.d1, V0.d2, Vt.cell, V2.cell, Vq.c0, Vq.c1⟩ (fun hHeld => ?_)
      obtain ⟨x6, hxd⟩ : ∃ xd, xd = x5.drew := ⟨_, rfl⟩
      rw [← hxd] at V0 V1 V2 V3 Vq Vr Vt hx hy hq hr2 h2 B0 hHeld ⊢
      clear hxd
      refine wpAnyH_take (i := 0) (v := ?_) rfl (by kernel_rfl) (by kernel_rfl) (by kernel_rfl) (fun _ _ _ h => h) (Or.inl ⟨by rfl, ?_⟩) hHeld ?_
      rotate_left
      · (intro W hSw; (try dsimp only at hSw); go_simp; all_goals (with_reducible rfl))
      simp only [List.getElem_toArray, List.getElem_cons_zero, Act.put, List.setIfInBounds_toArray, List.set_cons_zero, List.set_cons_succ]
      refine wpAnyH_take (i := 1) (v := ?_) rfl (by kernel_rfl) (by kernel_rfl) (by kernel_rfl) (fun _ _ _ h => h) (Or.inl ⟨by rfl, ?_⟩) hHeld ?_
      rotate_left
      · (intro W hSw; (try dsimp only at hSw); go_simp; all_goals (with_reducible rfl))
      simp only [List.getElem_toArray, List.getElem_cons_zero, List.getElem_cons_succ, Act.put, List.setIfInBounds_toArray, List.set_cons_zero, List.set_cons_succ]
      refine wpAnyH_take (i := 2) (v := ?_) rfl (by kernel_rfl) (by kernel_rfl) (by kernel_rfl) (fun _ _ _ h => h) (Or.inl ⟨by rfl, ?_⟩) hHeld ?_
      rotate_left
      · (intro W hSw; (try dsimp only at hSw); go_simp; all_goals (with_reducible rfl))
      simp only [List.getElem_toArray, List.getElem_cons_zero, List.getElem_cons_succ, Act.put, List.setIfInBounds_toArray, List.set_cons_zero, List.set_cons_succ]
      refine wpAnyH_take (i := 3) (v := ?_) rfl (by kernel_rfl) (by kernel_rfl) (by kernel_rfl) (fun _ _ _ h => h) (Or.inl ⟨by rfl, ?_⟩) hHeld ?_
      rotate_left
      · (intro W hSw; (try dsimp only at hSw); go_simp; all_goals (with_reducible rfl))
      simp only [List.getElem_toArray, List.getElem_cons_zero, List.getElem_cons_succ, Act.put, List.setIfInBounds_toArray, List.set_cons_zero, List.set_cons_succ]
      refine wpAnyH_take (i := 5) (v := ?_) rfl (by kernel_rfl) (by kernel_rfl) (by kernel_rfl) (fun _ _ _ h => h) (Or.inl ⟨by rfl, ?_⟩) hHeld ?_
      rotate_left
      · (intro W hSw; (try dsimp only at hSw); go_simp; all_goals (with_reducible rfl))
      simp only [List.getElem_toArray, List.getElem_cons_zero, List.getElem_cons_succ, Act.put, List.setIfInBounds_toArray, List.set_cons_zero, List.set_cons_succ]
      refine wpAnyH_ready (rs := [4]) (by kernel_rfl) (by simp) ?_
      refine AllReadyH.cons rfl (fun K hK => ?_) AllReadyH.nil
      simp only [List.getElem_toArray, List.getElem_cons_zero, List.getElem_cons_succ]
      go_simp
      refine (ncompare_any a2 b l2 c2 lb cb z2 ys _ h2 hy).mono ?_
      rintro e x7 ⟨rfl, hb⟩
      replace V0 := Va.after hb V0
      replace V1 := Va.after hb V1
      replace V2 := Va.after hb V2
      replace V3 := Va.after hb V3
      replace Vq := Va.after hb Vq
      replace Vr := Va.after hb Vr
      replace Vt := Va.after hb Vt
      replace hx := It.after hb hx
      replace hy := Nt.after hb hy
      replace hq := It.after hb hq
      replace hr2 := It.after hb hr2
      replace h2 := Nt.after hb h2
      replace B0 := step B0 hb
      clear hb
      rw [E2.out]
      try go_wp2_with fail
      refine hK.out _ _ ⟨V0.d0, V0.d1, V0.d2, Vt.cell, V2.cell, Vq.c0, Vq.c1⟩ (fun hHeld => ?_)
      clear hK K
      refine wpAnyH_ready (rs := [6]) (by kernel_rfl) (by simp) ?_
      refine AllReadyH.cons rfl (fun K hK => ?_) AllReadyH.nil
      simp only [List.getElem_toArray, List.getElem_cons_zero, List.getElem_cons_succ]
      go_simp
      refine (isOdd7 sq aq lq kq zq _ hq).mono ?_
      rintro e x8 ⟨rfl, hb⟩
      replace V0 := Va.after hb V0
      replace V1 := Va.after hb V1
      replace V2 := Va.after hb V2
      replace V3 := Va.after hb V3
      replace Vq := Va.after hb Vq
      replace Vr := Va.after hb Vr
      replace Vt := Va.after hb Vt
      replace hx := It.after hb hx
      replace hy := Nt.after hb hy
      replace hq := It.after hb hq
      replace hr2 := It.after hb hr2
      replace h2 := Nt.after hb h2
      replace B0 := step B0 hb
      clear hb
      rw [EQ.out]
      try go_wp2_with fail
      refine hK.out _ _ ⟨V0.d0, V0.d1, V0.d2, Vt.cell, V2.cell, Vq.c0, Vq.c1⟩ (fun hHeld => ?_)
      clear hK K
      refine wpAnyH_ready (rs := [7]) (by kernel_rfl) (by simp) ?_
      refine AllReadyH.cons rfl (fun K hK => ?_) AllReadyH.nil
      simp only [List.getElem_toArray, List.getElem_cons_zero, List.getElem_cons_succ]
      go_simp
      rw [HE.out, Oper.upon_enter]
      refine (HK.out _ _ _).mono ?_
      rintro e x9 ⟨rfl, hw⟩
      rw [hw]
      clear hw
      try go_wp2_with fail
      rw [show rise m (cmp3 (2 * (iv s xs % num ys)) (num ys)) (!decide (iv s xs / num ys % 2 = 0)) = rb by rw [← HR.out]; congr 1; simp]
      refine hK.out _ _ ⟨V0.d0, V0.d1, V0.d2, Vt.cell, V2.cell, Vq.c0, Vq.c1⟩ (fun hHeld => ?_)
      clear hK K
      refine wpAnyH_take (i := 8) (v := ?_) rfl (by kernel_rfl) (by kernel_rfl) (by kernel_rfl) (fun _ _ _ h => h) (Or.inl ⟨by rfl, ?_⟩) hHeld ?_
      rotate_left
      · (intro W hSw; (try dsimp only at hSw); go_simp; all_goals (with_reducible rfl))
      simp only [List.getElem_toArray, List.getElem_cons_zero, List.getElem_cons_succ, Act.put, List.setIfInBounds_toArray, List.set_cons_zero, List.set_cons_succ]
      refine wpAnyH_done (by kernel_rfl) ?_ _
      refine NoPanic.normal ?_
      clear hHeld
      cases rb
      ·
        have c_Vq := Vq.c0
        have f0_Vq := Vq.frozen 0
        have d_Vq := Vq.c1
        have f1_Vq := Vq.frozen 1
        have l_Vq := Vq.lt
        have m_Vq := Nat.le_of_lt l_Vq
        have c_V3 := V3.c0
        have f0_V3 := V3.frozen 0
        have d_V3 := V3.c1
        have f1_V3 := V3.frozen 1
        have l_V3 := V3.lt
        have m_V3 := Nat.le_of_lt l_V3
        go_wp2_with fail
        refine bodyPost_ret (results_w rfl rfl (V3.set2 _ _)) rfl ?_
        exact ⟨sq, aq, lq, kq, zq, rfl, hq.far V3 (noInt2 _ _ _ _) (far2 _ _ _ _), by rw [EQ.out]; unfold rnd; rw [if_neg HZ.out, HR.out]; rfl, below_2 B0 (by omega) _ _⟩
      ·
        have ERN : Hid (rnd m (iv s xs) (num ys) = iv s xs / num ys + 1) := by show _ = _; unfold rnd; rw [if_neg HZ.out, HR.out]; rfl
        go_wp2_with fail
        clear Vr Vt hr2 h2 V0 V1 V2
        refine wp_region_noPanic ?_
        replace V3 : Va x8.drew _ _ _ := V3
        replace Vq : Va x8.drew _ _ _ := Vq
        replace hx := hx.drw
        replace hy := hy.drw
        replace hq := hq.drw
        replace B0 := Below.drew B0
        refine wp_region_held_drew (S := (fun W => W.cell? ⟨b7, 0, none⟩ = some (.bool sq) ∧ W.cell? ⟨b7, 1, none⟩ = some (.slice aq lq kq))) (by kernel_rfl) ⟨Vq.c0, Vq.c1⟩ (fun hHeld => ?_)
        obtain ⟨x10, hxd⟩ : ∃ xd, xd = x8.drew := ⟨_, rfl⟩
        rw [← hxd] at V3 Vq hx hy hq B0 hHeld ⊢
        clear hxd
        refine wpAnyH_take (i := 0) (v := ?_) rfl (by kernel_rfl) (by kernel_rfl) (by kernel_rfl) (fun _ _ _ h => h) (Or.inl ⟨by rfl, ?_⟩) hHeld ?_
        rotate_left
        · (intro W hSw; (try dsimp only at hSw); go_simp; all_goals (with_reducible rfl))
        simp only [List.getElem_toArray, List.getElem_cons_zero, Act.put, List.setIfInBounds_toArray, List.set_cons_zero, List.set_cons_succ]
        refine wpAnyH_ready (rs := [1, 6]) (by kernel_rfl) (by simp) ?_
        refine AllReadyH.cons rfl (fun K hK => ?_) (AllReadyH.cons rfl (fun K hK => ?_) AllReadyH.nil)
        ·
          simp only [List.getElem_toArray, List.getElem_cons_zero, List.getElem_cons_succ]
          go_simp
          refine (wsmall_any 1 (by omega) (by omega) _).mono ?_
          rintro e x11 ⟨s4, a4, l4, c4, z4, rfl, h4, e4, hb⟩
          replace V3 := Va.after hb V3
          replace Vq := Va.after hb Vq
          replace hx := It.after hb hx
          replace hy := Nt.after hb hy
          replace hq := It.after hb hq
          replace B0 := step B0 hb
          clear hb
          have E4 : Hid (iv s4 z4 = 1) := e4
          clear e4
          try go_wp2_with fail
          refine hK.out _ _ ⟨Vq.c0, Vq.c1⟩ (fun hHeld => ?_)
          clear hK K
          refine wpAnyH_ready (rs := [2, 6]) (by kernel_rfl) (by simp) ?_
          refine AllReadyH.cons rfl (fun K hK => ?_) (AllReadyH.cons rfl (fun K hK => ?_) AllReadyH.nil)
          ·
            simp only [List.getElem_toArray, List.getElem_cons_zero, List.getElem_cons_succ]
            go_simp
            refine (wadd_ok sq s4 aq a4 lq kq l4 c4 zq z4 _ hq h4 (by show ((iv sq zq + iv s4 z4).natAbs : Int) < _; rw [EQ.out, E4.out, ← ERN.out]; exact HF.out 4096 rfl)).mono ?_
            rintro e x12 ⟨s5, a5, l5, c5, z5, rfl, h5, e5, hb⟩
            replace V3 := Va.after hb V3
            replace Vq := Va.after hb Vq
            replace hx := It.after hb hx
            replace hy := Nt.after hb hy
            replace hq := It.after hb hq
            replace h4 := It.after hb h4
            replace B0 := step B0 hb
            clear hb
            have E5 : Hid (iv s5 z5 = iv s xs / num ys + 1) := by show _ = _; rw [e5, EQ.out, E4.out]
            clear e5
            try go_wp2_with fail
            refine hK.out _ _ ⟨Vq.c0, Vq.c1⟩ (fun hHeld => ?_)
            clear hK K
            refine wpAnyH_take (i := 3) (v := ?_) rfl (by kernel_rfl) (by kernel_rfl) (by kernel_rfl) (fun _ _ _ h => h) (Or.inl ⟨by rfl, ?_⟩) hHeld ?_
            rotate_left
            · (intro W hSw; (try dsimp only at hSw); go_simp; all_goals (with_reducible rfl))
            simp only [List.getElem_toArray, List.getElem_cons_zero, List.getElem_cons_succ, Act.put, List.setIfInBounds_toArray, List.set_cons_zero, List.set_cons_succ]
            refine wpAnyH_take (i := 4) (v := ?_) rfl (by kernel_rfl) (by kernel_rfl) (by kernel_rfl) (fun _ _ _ h => h) (Or.inl ⟨by rfl, ?_⟩) hHeld ?_
            rotate_left
            · (intro W hSw; (try dsimp only at hSw); go_simp; all_goals (with_reducible rfl))
            simp only [List.getElem_toArray, List.getElem_cons_zero, List.getElem_cons_succ, Act.put, List.setIfInBounds_toArray, List.set_cons_zero, List.set_cons_succ]
            refine wpAnyH_take (i := 5) (v := ?_) rfl (by kernel_rfl) (by kernel_rfl) (by kernel_rfl) (fun _ _ _ h => h) (Or.inl ⟨by rfl, ?_⟩) hHeld ?_
            rotate_left
            · (intro W hSw; (try dsimp only at hSw); go_simp; all_goals (with_reducible rfl))
            simp only [List.getElem_toArray, List.getElem_cons_zero, List.getElem_cons_succ, Act.put, List.setIfInBounds_toArray, List.set_cons_zero, List.set_cons_succ]
            refine wpAnyH_ready (rs := [6]) (by kernel_rfl) (by simp) ?_
            refine AllReadyH.cons rfl (fun K hK => ?_) AllReadyH.nil
            ·
              simp only [List.getElem_toArray, List.getElem_cons_zero, List.getElem_cons_succ]
              go_simp
              have lt_Vn_V3 := V3.lt
              have lt_Vn_Vq := Vq.lt
              have sz_Vn := B0.size
              refine ent1 _ _ _ (Q := fun V => K _ V) ?_
              intro x13 hb hs_ Vn
              replace V3 := Va.after hb V3
              replace Vq := Va.after hb Vq
              replace hx := It.after hb hx
              replace hy := Nt.after hb hy
              replace hq := It.after hb hq
              replace h4 := It.after hb h4
              replace h5 := It.after hb h5
              replace B0 := step B0 hb
              clear hb hs_
              refine hK.out _ _ ⟨Vq.c0, Vq.c1⟩ (fun hHeld => ?_)
              clear hK K
              have c_Vn := Vn.c0
              have f0_Vn := Vn.frozen 0
              have d_Vn := Vn.c1
              have f1_Vn := Vn.frozen 1
              have l_Vn := Vn.lt
              have m_Vn := Nat.le_of_lt l_Vn
              refine wpAnyH_ready (rs := [7]) (by kernel_rfl) (by simp) ?_
              refine AllReadyH.cons rfl (fun K hK => ?_) AllReadyH.nil
              simp only [List.getElem_toArray, List.getElem_cons_zero, List.getElem_cons_succ]
              go_simp
              clear c_Vn f0_Vn d_Vn f1_Vn l_Vn m_Vn
              refine st2 Vn (.bool s5) (.slice a5 l5 c5) (Q := fun W => K _ W) ?_
              intro x14 V' oth far
              replace V3 := oth _ _ _ (by first | omega | assumption | (simp; omega)) V3
              replace Vq := oth _ _ _ (by first | omega | assumption | (simp; omega)) Vq
              replace hx := hx.far Vn (noInt2 _ _ _ _) far.1
              replace hy := hy.far Vn (noInt2 _ _ _ _) far.1
              replace hq := hq.far Vn (noInt2 _ _ _ _) far.1
              replace h4 := h4.far Vn (noInt2 _ _ _ _) far.1
              replace h5 := h5.far Vn (noInt2 _ _ _ _) far.1
              replace B0 := far.2 _ _ (by first | omega | (simp; omega)) B0
              replace Vn := V'
              clear oth far
              refine hK.out _ _ ⟨Vq.c0, Vq.c1⟩ (fun hHeld => ?_)
              clear hK K
              refine wpAnyH_take (i := 8) (v := ?_) rfl (by kernel_rfl) (by kernel_rfl) (by kernel_rfl) (fun _ _ _ h => h) (Or.inl ⟨by rfl, ?_⟩) hHeld ?_
              rotate_left
              · (intro W hSw; (try dsimp only at hSw); go_simp; all_goals (with_reducible rfl))
              simp only [List.getElem_toArray, List.getElem_cons_zero, List.getElem_cons_succ, Act.put, List.setIfInBounds_toArray, List.set_cons_zero, List.set_cons_succ]
              refine wpAnyH_done (by kernel_rfl) ?_ _
              refine NoPanic.normal ?_
              clear hHeld
              have c_Vn := Vn.c0
              have f0_Vn := Vn.frozen 0
              have d_Vn := Vn.c1
              have f1_Vn := Vn.frozen 1
              have l_Vn := Vn.lt
              have m_Vn := Nat.le_of_lt l_Vn
              have c_V3 := V3.c0
              have f0_V3 := V3.frozen 0
              have d_V3 := V3.c1
              have f1_V3 := V3.frozen 1
              have l_V3 := V3.lt
              have m_V3 := Nat.le_of_lt l_V3
              go_wp2_with fail
              refine bodyPost_ret (results_w rfl rfl (V3.set2 _ _)) rfl ?_
              exact ⟨s5, a5, l5, c5, z5, rfl, h5.far V3 (noInt2 _ _ _ _) (far2 _ _ _ _), by rw [E5.out, ERN.out], below_2 B0 (by omega) _ _⟩
          ·
            simp only [List.getElem_toArray, List.getElem_cons_zero, List.getElem_cons_succ]
            go_simp
            have lt_Vn_V3 := V3.lt
            have lt_Vn_Vq := Vq.lt
            have sz_Vn := B0.size
            refine ent1 _ _ _ (Q := fun V => K _ V) ?_
            intro x12 hb hs_ Vn
            replace V3 := Va.after hb V3
            replace Vq := Va.after hb Vq
            replace hx := It.after hb hx
            replace hy := Nt.after hb hy
            replace hq := It.after hb hq
            replace h4 := It.after hb h4
            replace B0 := step B0 hb
            clear hb hs_
            refine hK.out _ _ ⟨Vq.c0, Vq.c1⟩ (fun hHeld => ?_)
            clear hK K
            refine wpAnyH_ready (rs := [2]) (by kernel_rfl) (by simp) ?_
            refine AllReadyH.cons rfl (fun K hK => ?_) AllReadyH.nil
            ·
              simp only [List.getElem_toArray, List.getElem_cons_zero, List.getElem_cons_succ]
              go_simp
              refine (wadd_ok sq s4 aq a4 lq kq l4 c4 zq z4 _ hq h4 (by show ((iv sq zq + iv s4 z4).natAbs : Int) < _; rw [EQ.out, E4.out, ← ERN.out]; exact HF.out 4096 rfl)).mono ?_
              rintro e x13 ⟨s5, a5, l5, c5, z5, rfl, h5, e5, hb⟩
              replace V3 := Va.after hb V3
              replace Vq := Va.after hb Vq
              replace Vn := Va.after hb Vn
              replace hx := It.after hb hx
              replace hy := Nt.after hb hy
              replace hq := It.after hb hq
              replace h4 := It.after hb h4
              replace B0 := step B0 hb
              clear hb
              have E5 : Hid (iv s5 z5 = iv s xs / num ys + 1) := by show _ = _; rw [e5, EQ.out, E4.out]
              clear e5
              try go_wp2_with fail
              refine hK.out _ _ ⟨Vq.c0, Vq.c1⟩ (fun hHeld => ?_)
              clear hK K
              refine wpAnyH_take (i := 3) (v := ?_) rfl (by kernel_rfl) (by kernel_rfl) (by kernel_rfl) (fun _ _ _ h => h) (Or.inl ⟨by rfl, ?_⟩) hHeld ?_
              rotate_left
              · (intro W hSw; (try dsimp only at hSw); go_simp; all_goals (with_reducible rfl))
              simp only [List.getElem_toArray, List.getElem_cons_zero, List.getElem_cons_succ, Act.put, List.setIfInBounds_toArray, List.set_cons_zero, List.set_cons_succ]
              refine wpAnyH_take (i := 4) (v := ?_) rfl (by kernel_rfl) (by kernel_rfl) (by kernel_rfl) (fun _ _ _ h => h) (Or.inl ⟨by rfl, ?_⟩) hHeld ?_
              rotate_left
              · (intro W hSw; (try dsimp only at hSw); go_simp; all_goals (with_reducible rfl))
              simp only [List.getElem_toArray, List.getElem_cons_zero, List.getElem_cons_succ, Act.put, List.setIfInBounds_toArray, List.set_cons_zero, List.set_cons_succ]
              refine wpAnyH_take (i := 5) (v := ?_) rfl (by kernel_rfl) (by kernel_rfl) (by kernel_rfl) (fun _ _ _ h => h) (Or.inl ⟨by rfl, ?_⟩) hHeld ?_
              rotate_left
              · (intro W hSw; (try dsimp only at hSw); go_simp; all_goals (with_reducible rfl))
              simp only [List.getElem_toArray, List.getElem_cons_zero, List.getElem_cons_succ, Act.put, List.setIfInBounds_toArray, List.set_cons_zero, List.set_cons_succ]
              have c_Vn := Vn.c0
              have f0_Vn := Vn.frozen 0
              have d_Vn := Vn.c1
              have f1_Vn := Vn.frozen 1
              have l_Vn := Vn.lt
              have m_Vn := Nat.le_of_lt l_Vn
              refine wpAnyH_ready (rs := [7]) (by kernel_rfl) (by simp) ?_
              refine AllReadyH.cons rfl (fun K hK => ?_) AllReadyH.nil
              simp only [List.getElem_toArray, List.getElem_cons_zero, List.getElem_cons_succ]
              go_simp
              clear c_Vn f0_Vn d_Vn f1_Vn l_Vn m_Vn
              refine st2 Vn (.bool s5) (.slice a5 l5 c5) (Q := fun W => K _ W) ?_
              intro x14 V' oth far
              replace V3 := oth _ _ _ (by first | omega | assumption | (simp; omega)) V3
              replace Vq := oth _ _ _ (by first | omega | assumption | (simp; omega)) Vq
              replace hx := hx.far Vn (noInt2 _ _ _ _) far.1
              replace hy := hy.far Vn (noInt2 _ _ _ _) far.1
              replace hq := hq.far Vn (noInt2 _ _ _ _) far.1
              replace h4 := h4.far Vn (noInt2 _ _ _ _) far.1
              replace h5 := h5.far Vn (noInt2 _ _ _ _) far.1
              replace B0 := far.2 _ _ (by first | omega | (simp; omega)) B0
              replace Vn := V'
              clear oth far
              refine hK.out _ _ ⟨Vq.c0, Vq.c1⟩ (fun hHeld => ?_)
              clear hK K
              refine wpAnyH_take (i := 8) (v := ?_) rfl (by kernel_rfl) (by kernel_rfl) (by kernel_rfl) (fun _ _ _ h => h) (Or.inl ⟨by rfl, ?_⟩) hHeld ?_
              rotate_left
              · (intro W hSw; (try dsimp only at hSw); go_simp; all_goals (with_reducible rfl))
              simp only [List.getElem_toArray, List.getElem_cons_zero, List.getElem_cons_succ, Act.put, List.setIfInBounds_toArray, List.set_cons_zero, List.set_cons_succ]
              refine wpAnyH_done (by kernel_rfl) ?_ _
              refine NoPanic.normal ?_
              clear hHeld
              have c_Vn := Vn.c0
              have f0_Vn := Vn.frozen 0
              have d_Vn := Vn.c1
              have f1_Vn := Vn.frozen 1
              have l_Vn := Vn.lt
              have m_Vn := Nat.le_of_lt l_Vn
              have c_V3 := V3.c0
              have f0_V3 := V3.frozen 0
              have d_V3 := V3.c1
              have f1_V3 := V3.frozen 1
              have l_V3 := V3.lt
              have m_V3 := Nat.le_of_lt l_V3
              go_wp2_with fail
              refine bodyPost_ret (results_w rfl rfl (V3.set2 _ _)) rfl ?_
              exact ⟨s5, a5, l5, c5, z5, rfl, h5.far V3 (noInt2 _ _ _ _) (far2 _ _ _ _), by rw [E5.out, ERN.out], below_2 B0 (by omega) _ _⟩
        ·
          simp only [List.getElem_toArray, List.getElem_cons_zero, List.getElem_cons_succ]
          go_simp
          have lt_Vn_V3 := V3.lt
          have lt_Vn_Vq := Vq.lt
          have sz_Vn := B0.size
          refine ent1 _ _ _ (Q := fun V => K _ V) ?_
          intro x11 hb hs_ Vn
          replace V3 := Va.after hb V3
          replace Vq := Va.after hb Vq
          replace hx := It.after hb hx
          replace hy := Nt.after hb hy
          replace hq := It.after hb hq
          replace B0 := step B0 hb
          clear hb hs_
          refine hK.out _ _ ⟨Vq.c0, Vq.c1⟩ (fun hHeld => ?_)
          clear hK K
          refine wpAnyH_ready (rs := [1]) (by kernel_rfl) (by simp) ?_
          refine AllReadyH.cons rfl (fun K hK => ?_) AllReadyH.nil
          ·
            simp only [List.getElem_toArray, List.getElem_cons_zero, List.getElem_cons_succ]
            go_simp
            refine (wsmall_any 1 (by omega) (by omega) _).mono ?_
            rintro e x12 ⟨s4, a4, l4, c4, z4, rfl, h4, e4, hb⟩
            replace V3 := Va.after hb V3
            replace Vq := Va.after hb Vq
            replace Vn := Va.after hb Vn
            replace hx := It.after hb hx
            replace hy := Nt.after hb hy
            replace hq := It.after hb hq
            replace B0 := step B0 hb
            clear hb
            have E4 : Hid (iv s4 z4 = 1) := e4
            clear e4
            try go_wp2_with fail
            refine hK.out _ _ ⟨Vq.c0, Vq.c1⟩ (fun hHeld => ?_)
            clear hK K
            refine wpAnyH_ready (rs := [2]) (by kernel_rfl) (by simp) ?_
            refine AllReadyH.cons rfl (fun K hK => ?_) AllReadyH.nil
            ·
              simp only [List.getElem_toArray, List.getElem_cons_zero, List.getElem_cons_succ]
              go_simp
              refine (wadd_ok sq s4 aq a4 lq kq l4 c4 zq z4 _ hq h4 (by show ((iv sq zq + iv s4 z4).natAbs : Int) < _; rw [EQ.out, E4.out, ← ERN.out]; exact HF.out 4096 rfl)).mono ?_
              rintro e x13 ⟨s5, a5, l5, c5, z5, rfl, h5, e5, hb⟩
              replace V3 := Va.after hb V3
              replace Vq := Va.after hb Vq
              replace Vn := Va.after hb Vn
              replace hx := It.after hb hx
              replace hy := Nt.after hb hy
              replace hq := It.after hb hq
              replace h4 := It.after hb h4
              replace B0 := step B0 hb
              clear hb
              have E5 : Hid (iv s5 z5 = iv s xs / num ys + 1) := by show _ = _; rw [e5, EQ.out, E4.out]
              clear e5
              try go_wp2_with fail
              refine hK.out _ _ ⟨Vq.c0, Vq.c1⟩ (fun hHeld => ?_)
              clear hK K
              refine wpAnyH_take (i := 3) (v := ?_) rfl (by kernel_rfl) (by kernel_rfl) (by kernel_rfl) (fun _ _ _ h => h) (Or.inl ⟨by rfl, ?_⟩) hHeld ?_
              rotate_left
              · (intro W hSw; (try dsimp only at hSw); go_simp; all_goals (with_reducible rfl))
              simp only [List.getElem_toArray, List.getElem_cons_zero, List.getElem_cons_succ, Act.put, List.setIfInBounds_toArray, List.set_cons_zero, List.set_cons_succ]
              refine wpAnyH_take (i := 4) (v := ?_) rfl (by kernel_rfl) (by kernel_rfl) (by kernel_rfl) (fun _ _ _ h => h) (Or.inl ⟨by rfl, ?_⟩) hHeld ?_
              rotate_left
              · (intro W hSw; (try dsimp only at hSw); go_simp; all_goals (with_reducible rfl))
              simp only [List.getElem_toArray, List.getElem_cons_zero, List.getElem_cons_succ, Act.put, List.setIfInBounds_toArray, List.set_cons_zero, List.set_cons_succ]
              refine wpAnyH_take (i := 5) (v := ?_) rfl (by kernel_rfl) (by kernel_rfl) (by kernel_rfl) (fun _ _ _ h => h) (Or.inl ⟨by rfl, ?_⟩) hHeld ?_
              rotate_left
              · (intro W hSw; (try dsimp only at hSw); go_simp; all_goals (with_reducible rfl))
              simp only [List.getElem_toArray, List.getElem_cons_zero, List.getElem_cons_succ, Act.put, List.setIfInBounds_toArray, List.set_cons_zero, List.set_cons_succ]
              have c_Vn := Vn.c0
              have f0_Vn := Vn.frozen 0
              have d_Vn := Vn.c1
              have f1_Vn := Vn.frozen 1
              have l_Vn := Vn.lt
              have m_Vn := Nat.le_of_lt l_Vn
              refine wpAnyH_ready (rs := [7]) (by kernel_rfl) (by simp) ?_
              refine AllReadyH.cons rfl (fun K hK => ?_) AllReadyH.nil
              simp only [List.getElem_toArray, List.getElem_cons_zero, List.getElem_cons_succ]
              go_simp
              clear c_Vn f0_Vn d_Vn f1_Vn l_Vn m_Vn
              refine st2 Vn (.bool s5) (.slice a5 l5 c5) (Q := fun W => K _ W) ?_
              intro x14 V' oth far
              replace V3 := oth _ _ _ (by first | omega | assumption | (simp; omega)) V3
              replace Vq := oth _ _ _ (by first | omega | assumption | (simp; omega)) Vq
              replace hx := hx.far Vn (noInt2 _ _ _ _) far.1
              replace hy := hy.far Vn (noInt2 _ _ _ _) far.1
              replace hq := hq.far Vn (noInt2 _ _ _ _) far.1
              replace h4 := h4.far Vn (noInt2 _ _ _ _) far.1
              replace h5 := h5.far Vn (noInt2 _ _ _ _) far.1
              replace B0 := far.2 _ _ (by first | omega | (simp; omega)) B0
              replace Vn := V'
              clear oth far
              refine hK.out _ _ ⟨Vq.c0, Vq.c1⟩ (fun hHeld => ?_)
              clear hK K
              refine wpAnyH_take (i := 8) (v := ?_) rfl (by kernel_rfl) (by kernel_rfl) (by kernel_rfl) (fun _ _ _ h => h) (Or.inl ⟨by rfl, ?_⟩) hHeld ?_
              rotate_left
              · (intro W hSw; (try dsimp only at hSw); go_simp; all_goals (with_reducible rfl))
              simp only [List.getElem_toArray, List.getElem_cons_zero, List.getElem_cons_succ, Act.put, List.setIfInBounds_toArray, List.set_cons_zero, List.set_cons_succ]
              refine wpAnyH_done (by kernel_rfl) ?_ _
              refine NoPanic.normal ?_
              clear hHeld
              have c_Vn := Vn.c0
              have f0_Vn := Vn.frozen 0
              have d_Vn := Vn.c1
              have f1_Vn := Vn.frozen 1
              have l_Vn := Vn.lt
              have m_Vn := Nat.le_of_lt l_Vn
              have c_V3 := V3.c0
              have f0_V3 := V3.frozen 0
              have d_V3 := V3.c1
              have f1_V3 := V3.frozen 1
              have l_V3 := V3.lt
              have m_V3 := Nat.le_of_lt l_V3
              go_wp2_with fail
              refine bodyPost_ret (results_w rfl rfl (V3.set2 _ _)) rfl ?_
              exact ⟨s5, a5, l5, c5, z5, rfl, h5.far V3 (noInt2 _ _ _ _) (far2 _ _ _ _), by rw [E5.out, ERN.out], below_2 B0 (by omega) _ _⟩
end Go.Proofs.YtegfklapgbggfaaGreat
