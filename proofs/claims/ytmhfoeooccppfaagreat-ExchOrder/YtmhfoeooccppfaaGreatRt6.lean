/-
  rat.Mul, Quo.
-/
import Derived.Test.YtmhfoeooccppfaaGreatRt4
namespace Go.Proofs.YtmhfoeooccppfaaGreat
open Go.RowKit Go.Shelf
set_option linter.unusedVariables false

theorem Short.over {u v : Rat} (h1 : Short u) (h2 : Short v) : Short (Rat.divInt u.num (v.den : Int)) := by
  have e : Rat.divInt u.num (v.den : Int) = mkRat u.num v.den := Rat.divInt_ofNat _ _
  rw [e]
  unfold Short
  rw [Rat.num_mkRat, Rat.den_mkRat, if_neg v.den_nz, if_neg v.den_nz]
  refine ⟨Int.lt_of_le_of_lt ?_ h1.1, Int.lt_of_le_of_lt ?_ h2.2⟩
  · have : (u.num / (v.den.gcd u.num.natAbs : Nat)).natAbs ≤ u.num.natAbs := by
      rw [Int.natAbs_ediv_of_dvd (Int.ofNat_dvd_left.2 (Nat.gcd_dvd_right _ _))]
      exact Nat.div_le_self _ _
    exact_mod_cast this
  · exact_mod_cast Nat.div_le_self _ _
theorem Short.nn {u v : Rat} (h1 : Short u) (h2 : Short v) : ((u.num * v.num).natAbs : Int) < pw 4096 := by
  rw [Int.natAbs_mul, Int.natCast_mul]; exact rt_fits (by omega) (by omega) h1.1 h2.1 (by omega)
theorem Short.dd {u v : Rat} (h1 : Short u) (h2 : Short v) : (u.den : Int) * v.den < pw 4096 := rt_fits (by omega) (by omega) h1.2 h2.2 (by omega)
theorem Short.inv {v : Rat} (h : Short v) : Short v⁻¹ := by
  unfold Short
  rw [Rat.num_inv, Rat.den_inv]
  refine ⟨?_, ?_⟩
  · refine Int.lt_of_le_of_lt ?_ h.2
    rw [Int.natAbs_mul]
    have : v.num.sign.natAbs ≤ 1 := by
      rcases Int.lt_trichotomy v.num 0 with h | h | h
      · rw [Int.sign_eq_neg_one_of_neg h]; decide
      · rw [h]; decide
      · rw [Int.sign_eq_one_of_pos h]; decide
    have h2 := Nat.mul_le_mul_right v.den this
    simp only [Int.natAbs_natCast]
    omega
  · split
    · exact one_lt_pw (by omega)
    · exact h.1
theorem RA.ok {v v' : Rat} {er : Int} (h : RA v er v') (hs : Short v) : v' = v := by
  rcases h with ⟨_, _, h⟩ | ⟨h, _⟩
  · exact h
  · exact absurd hs h
theorem qsign_ne {y : Int} (h : y ≠ 0) : (Int.sign y == 0) = false := by
  rcases Int.lt_or_le y 0 with h' | h'
  · rw [Int.sign_eq_neg_one_of_neg h']; rfl
  · rw [Int.sign_eq_one_of_pos (by omega)]; rfl

set_option maxHeartbeats 16000000 in
set_option maxRecDepth 4000 in
theorem qmul_any (s1 : Bool) (a1 : Option Addr) (l1 c1 : Nat) (z1 : List Int) (b1 : Option Addr) (m1 d1 : Nat) (y1 : List Int) (v1 : Rat) (s2 : Bool) (a2 : Option Addr) (l2 c2 : Nat) (z2 : List Int) (b2 : Option Addr) (m2 d2 : Nat) (y2 : List Int) (v2 : Rat) (w : World) (h1 : Rt w s1 a1 l1 c1 z1 b1 m1 d1 y1 v1) (h2 : Rt w s2 a2 l2 c2 z2 b2 m2 d2 y2 v2) :
    Calls Tryz.prog 23 #[.agg #[.bool s1, .slice a1 l1 c1, .slice b1 m1 d1], .agg #[.bool s2, .slice a2 l2 c2, .slice b2 m2 d2]] w fun e w' => ∃ er s' a' l' c' zs' b' m' d' ds' v', e = .returned (.tuple #[.agg #[.bool s', .slice a' l' c', .slice b' m' d'], .int .i64 er]) ∧ Rt w' s' a' l' c' zs' b' m' d' ds' v' ∧ Hid (RA (v1 * v2) er v') ∧ Below w.heap.size w w' := by
  have B0 : Below w.heap.size w w := Below.refl _ _
  go_enter Tryz.func23, Tryz.ntmps23
  go_wp2_with fail
  refine ent3 w _ _ _ _ _ _ (Q := fun W => Code.wp Tryz.prog _ _ _ W) ?_
  intro x1 hb hs_x1 V0 V1 V2
  replace h1 := Rt.after hb h1
  replace h2 := Rt.after hb h2
  replace B0 := step B0 hb
  clear hb hs_x1
  have HS : Hid (Short v1 ∧ Short v2) := ⟨h1.2.2.2.2, h2.2.2.2.2⟩
  go_cut [6] (fun s6 wx => ∃ (b6 : Nat) (sf : Bool) (af : Option Addr) (lf cf : Nat) (zf : List Int) (bf : Option Addr) (mf df : Nat) (yf : List Int) (vf : Rat), s6 = .pointer (some ⟨b6, 0, none⟩) ∧ Hid (Va wx b6 39 #[.bool sf, .slice af lf cf, .slice bf mf df]) ∧ Hid (Va wx (w.heap.size) 39 #[.bool s1, .slice a1 l1 c1, .slice b1 m1 d1]) ∧ Hid (Va wx (w.heap.size + 1) 39 #[.bool s2, .slice a2 l2 c2, .slice b2 m2 d2]) ∧ Hid (Va wx (w.heap.size + 1 + 1) 39 #[.bool false, .slice none 0 0, .slice none 0 0]) ∧ Hid (Rt wx s1 a1 l1 c1 z1 b1 m1 d1 y1 v1) ∧ Hid (Rt wx s2 a2 l2 c2 z2 b2 m2 d2 y2 v2) ∧ Hid (Rt wx sf af lf cf zf bf mf df yf vf) ∧ Hid (vf = Rat.divInt v1.num (v2.den : Int)) ∧ Hid (Below w.heap.size w wx) ∧ Hid (w.heap.size + 3 ≤ b6))
  case first =>
    refine wp_region_noPanic ?_
    replace V0 : Va x1.drew _ _ _ := V0
    replace V1 : Va x1.drew _ _ _ := V1
    replace V2 : Va x1.drew _ _ _ := V2
    replace h1 := h1.drw
    replace h2 := h2.drw
    replace B0 := Below.drew B0
    refine wp_region_held_drew (S := (fun W => W.cell? ⟨w.heap.size, 0, none⟩ = some (.bool s1) ∧ W.cell? ⟨w.heap.size, 1, none⟩ = some (.slice a1 l1 c1) ∧ W.cell? ⟨w.heap.size, 2, none⟩ = some (.slice b1 m1 d1) ∧ W.cell? ⟨w.heap.size + 1, 0, none⟩ = some (.bool s2) ∧ W.cell? ⟨w.heap.size + 1, 1, none⟩ = some (.slice a2 l2 c2) ∧ W.cell? ⟨w.heap.size + 1, 2, none⟩ = some (.slice b2 m2 d2))) (by kernel_rfl) ⟨V0.d0, V0.d1, V0.d2, V1.d0, V1.d1, V1.d2⟩ (fun hHeld => ?_)
    obtain ⟨x2, hxd⟩ : ∃ xd, xd = x1.drew := ⟨_, rfl⟩
    rw [← hxd] at V0 V1 V2 h1 h2 B0 hHeld ⊢
    clear hxd
    refine wpAnyH_take (i := 0) (v := ?_) rfl (by kernel_rfl) (by kernel_rfl) (by kernel_rfl) (fun _ _ _ h => h) (Or.inl ⟨by rfl, ?_⟩) hHeld ?_
    rotate_left
    · (intro W hSw; (try dsimp only at hSw); go_simp; all_goals (with_reducible rfl))
    simp only [List.getElem_toArray, List.getElem_cons_zero, Act.put, List.setIfInBounds_toArray, List.set_cons_zero, List.set_cons_succ]
    refine wpAnyH_take (i := 1) (v := ?_) rfl (by kernel_rfl) (by kernel_rfl) (by kernel_rfl) (fun _ _ _ h => h) (Or.inl ⟨by rfl, ?_⟩) hHeld ?_
    rotate_left
    · (intro W hSw; (try dsimp only at hSw); go_simp; all_goals (with_reducible rfl))
    simp only [List.getElem_toArray, List.getElem_cons_zero, List.getElem_cons_succ, Act.put, List.setIfInBounds_toArray, List.set_cons_zero, List.set_cons_succ]
    refine wpAnyH_take (i := 2) (v := ?_) rfl (by kernel_rfl) (by kernel_rfl) (by kernel_rfl) (fun _ _ _ h => h) (Or.inl ⟨by rfl, ?_⟩) hHeld ?_
    rotate_left
    · (intro W hSw; (try dsimp only at hSw); go_simp; all_goals (with_reducible rfl))
    simp only [List.getElem_toArray, List.getElem_cons_zero, List.getElem_cons_succ, Act.put, List.setIfInBounds_toArray, List.set_cons_zero, List.set_cons_succ]
    refine wpAnyH_ready (rs := [3, 9]) (by kernel_rfl) (by simp) ?_
    refine AllReadyH.cons rfl (fun K hK => ?_) (AllReadyH.cons rfl (fun K hK => ?_) AllReadyH.nil)
    ·
      simp only [List.getElem_toArray, List.getElem_cons_zero, List.getElem_cons_succ]
      go_simp
      refine (rden_any s2 a2 l2 c2 b2 m2 d2 y2 _ h2.2.1).mono ?_
      rintro e x3 ⟨b3, m3, d3, y3, rfl, h3, e3, hb⟩
      replace V0 := Va.after hb V0
      replace V1 := Va.after hb V1
      replace V2 := Va.after hb V2
      replace h1 := Rt.after hb h1
      replace h2 := Rt.after hb h2
      replace B0 := step B0 hb
      clear hb
      replace e3 := e3.trans h2.2.2.2.1
      try go_wp2_with fail
      refine hK.out _ _ ⟨V0.d0, V0.d1, V0.d2, V1.d0, V1.d1, V1.d2⟩ (fun hHeld => ?_)
      clear hK K
      refine wpAnyH_ready (rs := [4, 9]) (by kernel_rfl) (by simp) ?_
      refine AllReadyH.cons rfl (fun K hK => ?_) (AllReadyH.cons rfl (fun K hK => ?_) AllReadyH.nil)
      ·
        simp only [List.getElem_toArray, List.getElem_cons_zero, List.getElem_cons_succ]
        go_simp
        refine (qabove_any b3 m3 d3 y3 _ h3).mono ?_
        rintro e x4 ⟨rfl, h4, hb⟩
        replace V0 := Va.after hb V0
        replace V1 := Va.after hb V1
        replace V2 := Va.after hb V2
        replace h1 := Rt.after hb h1
        replace h2 := Rt.after hb h2
        replace h3 := Nt.after hb h3
        replace B0 := step B0 hb
        clear hb
        try go_wp2_with fail
        refine hK.out _ _ ⟨V0.d0, V0.d1, V0.d2, V1.d0, V1.d1, V1.d2⟩ (fun hHeld => ?_)
        clear hK K
        refine wpAnyH_ready (rs := [5, 9]) (by kernel_rfl) (by simp) ?_
        refine AllReadyH.cons rfl (fun K hK => ?_) (AllReadyH.cons rfl (fun K hK => ?_) AllReadyH.nil)
        ·
          simp only [List.getElem_toArray, List.getElem_cons_zero, List.getElem_cons_succ]
          go_simp
          refine (qnew_ok s1 false a1 b3 l1 c1 m3 d3 z1 y3 _ h1.1 h4 (by show num y3 ≠ 0; rw [e3]; have := v2.den_pos; omega)).mono ?_
          rintro e x5 ⟨er, sf, af, lf, cf, zf, bf, mf, df, yf, vf, rfl, hf, hra0, hb⟩
          replace V0 := Va.after hb V0
          replace V1 := Va.after hb V1
          replace V2 := Va.after hb V2
          replace h1 := Rt.after hb h1
          replace h2 := Rt.after hb h2
          replace h3 := Nt.after hb h3
          replace h4 := It.after hb h4
          replace B0 := step B0 hb
          clear hb
          have hra : vf = Rat.divInt v1.num (v2.den : Int) := by
            rw [h1.2.2.1, iv_f, e3] at hra0
            exact hra0.out.ok (HS.out.1.over HS.out.2)
          clear hra0
          try go_wp2_with fail
          refine hK.out _ _ ⟨V0.d0, V0.d1, V0.d2, V1.d0, V1.d1, V1.d2⟩ (fun hHeld => ?_)
          clear hK K
          refine wpAnyH_take (i := 6) (v := ?_) rfl (by kernel_rfl) (by kernel_rfl) (by kernel_rfl) (fun _ _ _ h => h) (Or.inl ⟨by rfl, ?_⟩) hHeld ?_
          rotate_left
          · (intro W hSw; (try dsimp only at hSw); go_simp; all_goals (with_reducible rfl))
          simp only [List.getElem_toArray, List.getElem_cons_zero, List.getElem_cons_succ, Act.put, List.setIfInBounds_toArray, List.set_cons_zero, List.set_cons_succ]
          refine wpAnyH_take (i := 7) (v := ?_) rfl (by kernel_rfl) (by kernel_rfl) (by kernel_rfl) (fun _ _ _ h => h) (Or.inl ⟨by rfl, ?_⟩) hHeld ?_
          rotate_left
          · (intro W hSw; (try dsimp only at hSw); go_simp; all_goals (with_reducible rfl))
          simp only [List.getElem_toArray, List.getElem_cons_zero, List.getElem_cons_succ, Act.put, List.setIfInBounds_toArray, List.set_cons_zero, List.set_cons_succ]
          refine wpAnyH_take (i := 8) (v := ?_) rfl (by kernel_rfl) (by kernel_rfl) (by kernel_rfl) (fun _ _ _ h => h) (Or.inl ⟨by rfl, ?_⟩) hHeld ?_
          rotate_left
          · (intro W hSw; (try dsimp only at hSw); go_simp; all_goals (with_reducible rfl))
          simp only [List.getElem_toArray, List.getElem_cons_zero, List.getElem_cons_succ, Act.put, List.setIfInBounds_toArray, List.set_cons_zero, List.set_cons_succ]
          refine wpAnyH_ready (rs := [9]) (by kernel_rfl) (by simp) ?_
          refine AllReadyH.cons rfl (fun K hK => ?_) AllReadyH.nil
          ·
            simp only [List.getElem_toArray, List.getElem_cons_zero, List.getElem_cons_succ]
            go_simp
            have lt_Vf_V0 := V0.lt
            have lt_Vf_V1 := V1.lt
            have lt_Vf_V2 := V2.lt
            have sz_Vf := B0.size
            refine ent1 _ _ _ (Q := fun V => K _ V) ?_
            intro x6 hb hs_ Vf
            replace V0 := Va.after hb V0
            replace V1 := Va.after hb V1
            replace V2 := Va.after hb V2
            replace h1 := Rt.after hb h1
            replace h2 := Rt.after hb h2
            replace h3 := Nt.after hb h3
            replace h4 := It.after hb h4
            replace hf := Rt.after hb hf
            replace B0 := step B0 hb
            clear hb hs_
            refine hK.out _ _ ⟨V0.d0, V0.d1, V0.d2, V1.d0, V1.d1, V1.d2⟩ (fun hHeld => ?_)
            clear hK K
            have c_Vf := Vf.d0
            have f0_Vf := Vf.frozen 0
            have d_Vf := Vf.d1
            have f1_Vf := Vf.frozen 1
            have e_Vf := Vf.d2
            have f2_Vf := Vf.frozen 2
            have l_Vf := Vf.lt
            have m_Vf := Nat.le_of_lt l_Vf
            refine wpAnyH_ready (rs := [10]) (by kernel_rfl) (by simp) ?_
            refine AllReadyH.cons rfl (fun K hK => ?_) AllReadyH.nil
            simp only [List.getElem_toArray, List.getElem_cons_zero, List.getElem_cons_succ]
            go_simp
            clear c_Vf f0_Vf d_Vf f1_Vf e_Vf f2_Vf l_Vf m_Vf
            refine sto3 Vf (.bool sf) (.slice af lf cf) (.slice bf mf df) (Q := fun W => K _ W) ?_
            intro x7 V' oth far
            replace V0 := oth _ _ _ (by first | omega | assumption | (simp; omega)) V0
            replace V1 := oth _ _ _ (by first | omega | assumption | (simp; omega)) V1
            replace V2 := oth _ _ _ (by first | omega | assumption | (simp; omega)) V2
            replace h1 := h1.far Vf (noInt3 _ _ _ _ _ _ _) far.1
            replace h2 := h2.far Vf (noInt3 _ _ _ _ _ _ _) far.1
            replace h3 := h3.far Vf (noInt3 _ _ _ _ _ _ _) far.1
            replace h4 := h4.far Vf (noInt3 _ _ _ _ _ _ _) far.1
            replace hf := hf.far Vf (noInt3 _ _ _ _ _ _ _) far.1
            replace B0 := far.2 _ _ (by first | omega | (simp; omega)) B0
            replace Vf := V'
            clear oth far
            refine hK.out _ _ ⟨V0.d0, V0.d1, V0.d2, V1.d0, V1.d1, V1.d2⟩ (fun hHeld => ?_)
            clear hK K
            refine wpAnyH_take (i := 11) (v := ?_) rfl (by kernel_rfl) (by kernel_rfl) (by kernel_rfl) (fun _ _ _ h => h) (Or.inl ⟨by rfl, ?_⟩) hHeld ?_
            rotate_left
            · (intro W hSw; (try dsimp only at hSw); go_simp; all_goals (with_reducible rfl))
            simp only [List.getElem_toArray, List.getElem_cons_zero, List.getElem_cons_succ, Act.put, List.setIfInBounds_toArray, List.set_cons_zero, List.set_cons_succ]
            refine wpAnyH_done (by kernel_rfl) ?_ _
            refine NoPanic.normal ?_
            clear hHeld
            go_wp2_with fail
            go_meet
            exact ⟨_, sf, af, lf, cf, zf, bf, mf, df, yf, vf, rfl, Vf, V0, V1, V2, h1, h2, hf, hra, B0, by show _ ≤ _; omega⟩
        ·
          simp only [List.getElem_toArray, List.getElem_cons_zero, List.getElem_cons_succ]
          go_simp
          have lt_Vf_V0 := V0.lt
          have lt_Vf_V1 := V1.lt
          have lt_Vf_V2 := V2.lt
          have sz_Vf := B0.size
          refine ent1 _ _ _ (Q := fun V => K _ V) ?_
          intro x5 hb hs_ Vf
          replace V0 := Va.after hb V0
          replace V1 := Va.after hb V1
          replace V2 := Va.after hb V2
          replace h1 := Rt.after hb h1
          replace h2 := Rt.after hb h2
          replace h3 := Nt.after hb h3
          replace h4 := It.after hb h4
          replace B0 := step B0 hb
          clear hb hs_
          refine hK.out _ _ ⟨V0.d0, V0.d1, V0.d2, V1.d0, V1.d1, V1.d2⟩ (fun hHeld => ?_)
          clear hK K
          refine wpAnyH_ready (rs := [5]) (by kernel_rfl) (by simp) ?_
          refine AllReadyH.cons rfl (fun K hK => ?_) AllReadyH.nil
          ·
            simp only [List.getElem_toArray, List.getElem_cons_zero, List.getElem_cons_succ]
            go_simp
            refine (qnew_ok s1 false a1 b3 l1 c1 m3 d3 z1 y3 _ h1.1 h4 (by show num y3 ≠ 0; rw [e3]; have := v2.den_pos; omega)).mono ?_
            rintro e x6 ⟨er, sf, af, lf, cf, zf, bf, mf, df, yf, vf, rfl, hf, hra0, hb⟩
            replace V0 := Va.after hb V0
            replace V1 := Va.after hb V1
            replace V2 := Va.after hb V2
            replace Vf := Va.after hb Vf
            replace h1 := Rt.after hb h1
            replace h2 := Rt.after hb h2
            replace h3 := Nt.after hb h3
            replace h4 := It.after hb h4
            replace B0 := step B0 hb
            clear hb
            have hra : vf = Rat.divInt v1.num (v2.den : Int) := by
              rw [h1.2.2.1, iv_f, e3] at hra0
              exact hra0.out.ok (HS.out.1.over HS.out.2)
            clear hra0
            try go_wp2_with fail
            refine hK.out _ _ ⟨V0.d0, V0.d1, V0.d2, V1.d0, V1.d1, V1.d2⟩ (fun hHeld => ?_)
            clear hK K
            refine wpAnyH_take (i := 6) (v := ?_) rfl (by kernel_rfl) (by kernel_rfl) (by kernel_rfl) (fun _ _ _ h => h) (Or.inl ⟨by rfl, ?_⟩) hHeld ?_
            rotate_left
            · (intro W hSw; (try dsimp only at hSw); go_simp; all_goals (with_reducible rfl))
            simp only [List.getElem_toArray, List.getElem_cons_zero, List.getElem_cons_succ, Act.put, List.setIfInBounds_toArray, List.set_cons_zero, List.set_cons_succ]
            refine wpAnyH_take (i := 7) (v := ?_) rfl (by kernel_rfl) (by kernel_rfl) (by kernel_rfl) (fun _ _ _ h => h) (Or.inl ⟨by rfl, ?_⟩) hHeld ?_
            rotate_left
            · (intro W hSw; (try dsimp only at hSw); go_simp; all_goals (with_reducible rfl))
            simp only [List.getElem_toArray, List.getElem_cons_zero, List.getElem_cons_succ, Act.put, List.setIfInBounds_toArray, List.set_cons_zero, List.set_cons_succ]
            refine wpAnyH_take (i := 8) (v := ?_) rfl (by kernel_rfl) (by kernel_rfl) (by kernel_rfl) (fun _ _ _ h => h) (Or.inl ⟨by rfl, ?_⟩) hHeld ?_
            rotate_left
            · (intro W hSw; (try dsimp only at hSw); go_simp; all_goals (with_reducible rfl))
            simp only [List.getElem_toArray, List.getElem_cons_zero, List.getElem_cons_succ, Act.put, List.setIfInBounds_toArray, List.set_cons_zero, List.set_cons_succ]
            have c_Vf := Vf.d0
            have f0_Vf := Vf.frozen 0
            have d_Vf := Vf.d1
            have f1_Vf := Vf.frozen 1
            have e_Vf := Vf.d2
            have f2_Vf := Vf.frozen 2
            have l_Vf := Vf.lt
            have m_Vf := Nat.le_of_lt l_Vf
            refine wpAnyH_ready (rs := [10]) (by kernel_rfl) (by simp) ?_
            refine AllReadyH.cons rfl (fun K hK => ?_) AllReadyH.nil
            simp only [List.getElem_toArray, List.getElem_cons_zero, List.getElem_cons_succ]
            go_simp
            clear c_Vf f0_Vf d_Vf f1_Vf e_Vf f2_Vf l_Vf m_Vf
            refine sto3 Vf (.bool sf) (.slice af lf cf) (.slice bf mf df) (Q := fun W => K _ W) ?_
            intro x7 V' oth far
            replace V0 := oth _ _ _ (by first | omega | assumption | (simp; omega)) V0
            replace V1 := oth _ _ _ (by first | omega | assumption | (simp; omega)) V1
            replace V2 := oth _ _ _ (by first | omega | assumption | (simp; omega)) V2
            replace h1 := h1.far Vf (noInt3 _ _ _ _ _ _ _) far.1
            replace h2 := h2.far Vf (noInt3 _ _ _ _ _ _ _) far.1
            replace h3 := h3.far Vf (noInt3 _ _ _ _ _ _ _) far.1
            replace h4 := h4.far Vf (noInt3 _ _ _ _ _ _ _) far.1
            replace hf := hf.far Vf (noInt3 _ _ _ _ _ _ _) far.1
            replace B0 := far.2 _ _ (by first | omega | (simp; omega)) B0
            replace Vf := V'
            clear oth far
            refine hK.out _ _ ⟨V0.d0, V0.d1, V0.d2, V1.d0, V1.d1, V1.d2⟩ (fun hHeld => ?_)
            clear hK K
            refine wpAnyH_take (i := 11) (v := ?_) rfl (by kernel_rfl) (by kernel_rfl) (by kernel_rfl) (fun _ _ _ h => h) (Or.inl ⟨by rfl, ?_⟩) hHeld ?_
            rotate_left
            · (intro W hSw; (try dsimp only at hSw); go_simp; all_goals (with_reducible rfl))
            simp only [List.getElem_toArray, List.getElem_cons_zero, List.getElem_cons_succ, Act.put, List.setIfInBounds_toArray, List.set_cons_zero, List.set_cons_succ]
            refine wpAnyH_done (by kernel_rfl) ?_ _
            refine NoPanic.normal ?_
            clear hHeld
            go_wp2_with fail
            go_meet
            exact ⟨_, sf, af, lf, cf, zf, bf, mf, df, yf, vf, rfl, Vf, V0, V1, V2, h1, h2, hf, hra, B0, by show _ ≤ _; omega⟩
      ·
        simp only [List.getElem_toArray, List.getElem_cons_zero, List.getElem_cons_succ]
        go_simp
        have lt_Vf_V0 := V0.lt
        have lt_Vf_V1 := V1.lt
        have lt_Vf_V2 := V2.lt
        have sz_Vf := B0.size
        refine ent1 _ _ _ (Q := fun V => K _ V) ?_
        intro x4 hb hs_ Vf
        replace V0 := Va.after hb V0
        replace V1 := Va.after hb V1
        replace V2 := Va.after hb V2
        replace h1 := Rt.after hb h1
        replace h2 := Rt.after hb h2
        replace h3 := Nt.after hb h3
        replace B0 := step B0 hb
        clear hb hs_
        refine hK.out _ _ ⟨V0.d0, V0.d1, V0.d2, V1.d0, V1.d1, V1.d2⟩ (fun hHeld => ?_)
        clear hK K
        refine wpAnyH_ready (rs := [4]) (by kernel_rfl) (by simp) ?_
        refine AllReadyH.cons rfl (fun K hK => ?_) AllReadyH.nil
        ·
          simp only [List.getElem_toArray, List.getElem_cons_zero, List.getElem_cons_succ]
          go_simp
          refine (qabove_any b3 m3 d3 y3 _ h3).mono ?_
          rintro e x5 ⟨rfl, h4, hb⟩
          replace V0 := Va.after hb V0
          replace V1 := Va.after hb V1
          replace V2 := Va.after hb V2
          replace Vf := Va.after hb Vf
          replace h1 := Rt.after hb h1
          replace h2 := Rt.after hb h2
          replace h3 := Nt.after hb h3
          replace B0 := step B0 hb
          clear hb
          try go_wp2_with fail
          refine hK.out _ _ ⟨V0.d0, V0.d1, V0.d2, V1.d0, V1.d1, V1.d2⟩ (fun hHeld => ?_)
          clear hK K
          refine wpAnyH_ready (rs := [5]) (by kernel_rfl) (by simp) ?_
          refine AllReadyH.cons rfl (fun K hK => ?_) AllReadyH.nil
          ·
            simp only [List.getElem_toArray, List.getElem_cons_zero, List.getElem_cons_succ]
            go_simp
            refine (qnew_ok s1 false a1 b3 l1 c1 m3 d3 z1 y3 _ h1.1 h4 (by show num y3 ≠ 0; rw [e3]; have := v2.den_pos; omega)).mono ?_
            rintro e x6 ⟨er, sf, af, lf, cf, zf, bf, mf, df, yf, vf, rfl, hf, hra0, hb⟩
            replace V0 := Va.after hb V0
            replace V1 := Va.after hb V1
            replace V2 := Va.after hb V2
            replace Vf := Va.after hb Vf
            replace h1 := Rt.after hb h1
            replace h2 := Rt.after hb h2
            replace h3 := Nt.after hb h3
            replace h4 := It.after hb h4
            replace B0 := step B0 hb
            clear hb
            have hra : vf = Rat.divInt v1.num (v2.den : Int) := by
              rw [h1.2.2.1, iv_f, e3] at hra0
              exact hra0.out.ok (HS.out.1.over HS.out.2)
            clear hra0
            try go_wp2_with fail
            refine hK.out _ _ ⟨V0.d0, V0.d1, V0.d2, V1.d0, V1.d1, V1.d2⟩ (fun hHeld => ?_)
            clear hK K
            refine wpAnyH_take (i := 6) (v := ?_) rfl (by kernel_rfl) (by kernel_rfl) (by kernel_rfl) (fun _ _ _ h => h) (Or.inl ⟨by rfl, ?_⟩) hHeld ?_
            rotate_left
            · (intro W hSw; (try dsimp only at hSw); go_simp; all_goals (with_reducible rfl))
            simp only [List.getElem_toArray, List.getElem_cons_zero, List.getElem_cons_succ, Act.put, List.setIfInBounds_toArray, List.set_cons_zero, List.set_cons_succ]
            refine wpAnyH_take (i := 7) (v := ?_) rfl (by kernel_rfl) (by kernel_rfl) (by kernel_rfl) (fun _ _ _ h => h) (Or.inl ⟨by rfl, ?_⟩) hHeld ?_
            rotate_left
            · (intro W hSw; (try dsimp only at hSw); go_simp; all_goals (with_reducible rfl))
            simp only [List.getElem_toArray, List.getElem_cons_zero, List.getElem_cons_succ, Act.put, List.setIfInBounds_toArray, List.set_cons_zero, List.set_cons_succ]
            refine wpAnyH_take (i := 8) (v := ?_) rfl (by kernel_rfl) (by kernel_rfl) (by kernel_rfl) (fun _ _ _ h => h) (Or.inl ⟨by rfl, ?_⟩) hHeld ?_
            rotate_left
            · (intro W hSw; (try dsimp only at hSw); go_simp; all_goals (with_reducible rfl))
            simp only [List.getElem_toArray, List.getElem_cons_zero, List.getElem_cons_succ, Act.put, List.setIfInBounds_toArray, List.set_cons_zero, List.set_cons_succ]
            have c_Vf := Vf.d0
            have f0_Vf := Vf.frozen 0
            have d_Vf := Vf.d1
            have f1_Vf := Vf.frozen 1
            have e_Vf := Vf.d2
            have f2_Vf := Vf.frozen 2
            have l_Vf := Vf.lt
            have m_Vf := Nat.le_of_lt l_Vf
            refine wpAnyH_ready (rs := [10]) (by kernel_rfl) (by simp) ?_
            refine AllReadyH.cons rfl (fun K hK => ?_) AllReadyH.nil
            simp only [List.getElem_toArray, List.getElem_cons_zero, List.getElem_cons_succ]
            go_simp
            clear c_Vf f0_Vf d_Vf f1_Vf e_Vf f2_Vf l_Vf m_Vf
            refine sto3 Vf (.bool sf) (.slice af lf cf) (.slice bf mf df) (Q := fun W => K _ W) ?_
            intro x7 V' oth far
            replace V0 := oth _ _ _ (by first | omega | assumption | (simp; omega)) V0
            replace V1 := oth _ _ _ (by first | omega | assumption | (simp; omega)) V1
            replace V2 := oth _ _ _ (by first | omega | assumption | (simp; omega)) V2
            replace h1 := h1.far Vf (noInt3 _ _ _ _ _ _ _) far.1
            replace h2 := h2.far Vf (noInt3 _ _ _ _ _ _ _) far.1
            replace h3 := h3.far Vf (noInt3 _ _ _ _ _ _ _) far.1
            replace h4 := h4.far Vf (noInt3 _ _ _ _ _ _ _) far.1
            replace hf := hf.far Vf (noInt3 _ _ _ _ _ _ _) far.1
            replace B0 := far.2 _ _ (by first | omega | (simp; omega)) B0
            replace Vf := V'
            clear oth far
            refine hK.out _ _ ⟨V0.d0, V0.d1, V0.d2, V1.d0, V1.d1, V1.d2⟩ (fun hHeld => ?_)
            clear hK K
            refine wpAnyH_take (i := 11) (v := ?_) rfl (by kernel_rfl) (by kernel_rfl) (by kernel_rfl) (fun _ _ _ h => h) (Or.inl ⟨by rfl, ?_⟩) hHeld ?_
            rotate_left
            · (intro W hSw; (try dsimp only at hSw); go_simp; all_goals (with_reducible rfl))
            simp only [List.getElem_toArray, List.getElem_cons_zero, List.getElem_cons_succ, Act.put, List.setIfInBounds_toArray, List.set_cons_zero, List.set_cons_succ]
            refine wpAnyH_done (by kernel_rfl) ?_ _
            refine NoPanic.normal ?_
            clear hHeld
            go_wp2_with fail
            go_meet
            exact ⟨_, sf, af, lf, cf, zf, bf, mf, df, yf, vf, rfl, Vf, V0, V1, V2, h1, h2, hf, hra, B0, by show _ ≤ _; omega⟩
    ·
      simp only [List.getElem_toArray, List.getElem_cons_zero, List.getElem_cons_succ]
      go_simp
      have lt_Vf_V0 := V0.lt
      have lt_Vf_V1 := V1.lt
      have lt_Vf_V2 := V2.lt
      have sz_Vf := B0.size
      refine ent1 _ _ _ (Q := fun V => K _ V) ?_
      intro x3 hb hs_ Vf
      replace V0 := Va.after hb V0
      replace V1 := Va.after hb V1
      replace V2 := Va.after hb V2
      replace h1 := Rt.after hb h1
      replace h2 := Rt.after hb h2
      replace B0 := step B0 hb
      clear hb hs_
      refine hK.out _ _ ⟨V0.d0, V0.d1, V0.d2, V1.d0, V1.d1, V1.d2⟩ (fun hHeld => ?_)
      clear hK K
      refine wpAnyH_ready (rs := [3]) (by kernel_rfl) (by simp) ?_
      refine AllReadyH.cons rfl (fun K hK => ?_) AllReadyH.nil
      ·
        simp only [List.getElem_toArray, List.getElem_cons_zero, List.getElem_cons_succ]
        go_simp
        refine (rden_any s2 a2 l2 c2 b2 m2 d2 y2 _ h2.2.1).mono ?_
        rintro e x4 ⟨b3, m3, d3, y3, rfl, h3, e3, hb⟩
        replace V0 := Va.after hb V0
        replace V1 := Va.after hb V1
        replace V2 := Va.after hb V2
        replace Vf := Va.after hb Vf
        replace h1 := Rt.after hb h1
        replace h2 := Rt.after hb h2
        replace B0 := step B0 hb
        clear hb
        replace e3 := e3.trans h2.2.2.2.1
        try go_wp2_with fail
        refine hK.out _ _ ⟨V0.d0, V0.d1, V0.d2, V1.d0, V1.d1, V1.d2⟩ (fun hHeld => ?_)
        clear hK K
        refine wpAnyH_ready (rs := [4]) (by kernel_rfl) (by simp) ?_
        refine AllReadyH.cons rfl (fun K hK => ?_) AllReadyH.nil
        ·
          simp only [List.getElem_toArray, List.getElem_cons_zero, List.getElem_cons_succ]
          go_simp
          refine (qabove_any b3 m3 d3 y3 _ h3).mono ?_
          rintro e x5 ⟨rfl, h4, hb⟩
          replace V0 := Va.after hb V0
          replace V1 := Va.after hb V1
          replace V2 := Va.after hb V2
          replace Vf := Va.after hb Vf
          replace h1 := Rt.after hb h1
          replace h2 := Rt.after hb h2
          replace h3 := Nt.after hb h3
          replace B0 := step B0 hb
          clear hb
          try go_wp2_with fail
          refine hK.out _ _ ⟨V0.d0, V0.d1, V0.d2, V1.d0, V1.d1, V1.d2⟩ (fun hHeld => ?_)
          clear hK K
          refine wpAnyH_ready (rs := [5]) (by kernel_rfl) (by simp) ?_
          refine AllReadyH.cons rfl (fun K hK => ?_) AllReadyH.nil
          ·
            simp only [List.getElem_toArray, List.getElem_cons_zero, List.getElem_cons_succ]
            go_simp
            refine (qnew_ok s1 false a1 b3 l1 c1 m3 d3 z1 y3 _ h1.1 h4 (by show num y3 ≠ 0; rw [e3]; have := v2.den_pos; omega)).mono ?_
            rintro e x6 ⟨er, sf, af, lf, cf, zf, bf, mf, df, yf, vf, rfl, hf, hra0, hb⟩
            replace V0 := Va.after hb V0
            replace V1 := Va.after hb V1
            replace V2 := Va.after hb V2
            replace Vf := Va.after hb Vf
            replace h1 := Rt.after hb h1
            replace h2 := Rt.after hb h2
            replace h3 := Nt.after hb h3
            replace h4 := It.after hb h4
            replace B0 := step B0 hb
            clear hb
            have hra : vf = Rat.divInt v1.num (v2.den : Int) := by
              rw [h1.2.2.1, iv_f, e3] at hra0
              exact hra0.out.ok (HS.out.1.over HS.out.2)
            clear hra0
            try go_wp2_with fail
            refine hK.out _ _ ⟨V0.d0, V0.d1, V0.d2, V1.d0, V1.d1, V1.d2⟩ (fun hHeld => ?_)
            clear hK K
            refine wpAnyH_take (i := 6) (v := ?_) rfl (by kernel_rfl) (by kernel_rfl) (by kernel_rfl) (fun _ _ _ h => h) (Or.inl ⟨by rfl, ?_⟩) hHeld ?_
            rotate_left
            · (intro W hSw; (try dsimp only at hSw); go_simp; all_goals (with_reducible rfl))
            simp only [List.getElem_toArray, List.getElem_cons_zero, List.getElem_cons_succ, Act.put, List.setIfInBounds_toArray, List.set_cons_zero, List.set_cons_succ]
            refine wpAnyH_take (i := 7) (v := ?_) rfl (by kernel_rfl) (by kernel_rfl) (by kernel_rfl) (fun _ _ _ h => h) (Or.inl ⟨by rfl, ?_⟩) hHeld ?_
            rotate_left
            · (intro W hSw; (try dsimp only at hSw); go_simp; all_goals (with_reducible rfl))
            simp only [List.getElem_toArray, List.getElem_cons_zero, List.getElem_cons_succ, Act.put, List.setIfInBounds_toArray, List.set_cons_zero, List.set_cons_succ]
            refine wpAnyH_take (i := 8) (v := ?_) rfl (by kernel_rfl) (by kernel_rfl) (by kernel_rfl) (fun _ _ _ h => h) (Or.inl ⟨by rfl, ?_⟩) hHeld ?_
            rotate_left
            · (intro W hSw; (try dsimp only at hSw); go_simp; all_goals (with_reducible rfl))
            simp only [List.getElem_toArray, List.getElem_cons_zero, List.getElem_cons_succ, Act.put, List.setIfInBounds_toArray, List.set_cons_zero, List.set_cons_succ]
            have c_Vf := Vf.d0
            have f0_Vf := Vf.frozen 0
            have d_Vf := Vf.d1
            have f1_Vf := Vf.frozen 1
            have e_Vf := Vf.d2
            have f2_Vf := Vf.frozen 2
            have l_Vf := Vf.lt
            have m_Vf := Nat.le_of_lt l_Vf
            refine wpAnyH_ready (rs := [10]) (by kernel_rfl) (by simp) ?_
            refine AllReadyH.cons rfl (fun K hK => ?_) AllReadyH.nil
            simp only [List.getElem_toArray, List.getElem_cons_zero, List.getElem_cons_succ]
            go_simp
            clear c_Vf f0_Vf d_Vf f1_Vf e_Vf f2_Vf l_Vf m_Vf
            refine sto3 Vf (.bool sf) (.slice af lf cf) (.slice bf mf df) (Q := fun W => K _ W) ?_
            intro x7 V' oth far
            replace V0 := oth _ _ _ (by first | omega | assumption | (simp; omega)) V0
            replace V1 := oth _ _ _ (by first | omega | assumption | (simp; omega)) V1
            replace V2 := oth _ _ _ (by first | omega | assumption | (simp; omega)) V2
            replace h1 := h1.far Vf (noInt3 _ _ _ _ _ _ _) far.1
            replace h2 := h2.far Vf (noInt3 _ _ _ _ _ _ _) far.1
            replace h3 := h3.far Vf (noInt3 _ _ _ _ _ _ _) far.1
            replace h4 := h4.far Vf (noInt3 _ _ _ _ _ _ _) far.1
            replace hf := hf.far Vf (noInt3 _ _ _ _ _ _ _) far.1
            replace B0 := far.2 _ _ (by first | omega | (simp; omega)) B0
            replace Vf := V'
            clear oth far
            refine hK.out _ _ ⟨V0.d0, V0.d1, V0.d2, V1.d0, V1.d1, V1.d2⟩ (fun hHeld => ?_)
            clear hK K
            refine wpAnyH_take (i := 11) (v := ?_) rfl (by kernel_rfl) (by kernel_rfl) (by kernel_rfl) (fun _ _ _ h => h) (Or.inl ⟨by rfl, ?_⟩) hHeld ?_
            rotate_left
            · (intro W hSw; (try dsimp only at hSw); go_simp; all_goals (with_reducible rfl))
            simp only [List.getElem_toArray, List.getElem_cons_zero, List.getElem_cons_succ, Act.put, List.setIfInBounds_toArray, List.set_cons_zero, List.set_cons_succ]
            refine wpAnyH_done (by kernel_rfl) ?_ _
            refine NoPanic.normal ?_
            clear hHeld
            go_wp2_with fail
            go_meet
            exact ⟨_, sf, af, lf, cf, zf, bf, mf, df, yf, vf, rfl, Vf, V0, V1, V2, h1, h2, hf, hra, B0, by show _ ≤ _; omega⟩
  case rest =>
    clear V0 V1 V2 h1 h2 B0
    obtain ⟨b6, sf, af, lf, cf, zf, bf, mf, df, yf, vf, rfl, Vf', V0', V1', V2', h1', h2', hf', Ef', B0', hineq'⟩ := hcut
    have Vf := Vf'.out
    have V0 := V0'.out
    have V1 := V1'.out
    have V2 := V2'.out
    have h1 := h1'.out
    have h2 := h2'.out
    have hf := hf'.out
    have Ef := Ef'.out
    have B0 := B0'.out
    have hineq := hineq'.out
    clear Vf' V0' V1' V2' h1' h2' hf' Ef' B0' hineq'
    have iq0 := hineq
    clear hineq
    go_wp2_with fail
    have Hf : Hid (vf = Rat.divInt v1.num (v2.den : Int)) := Ef
    clear Ef
    go_cut [8] (fun s8 wx => ∃ (b8 : Nat) (sh : Bool) (ah : Option Addr) (lh ch : Nat) (zh : List Int) (bh : Option Addr) (mh dh : Nat) (yh : List Int) (vh : Rat), s8 = .pointer (some ⟨b8, 0, none⟩) ∧ Hid (Va wx b8 39 #[.bool sh, .slice ah lh ch, .slice bh mh dh]) ∧ Hid (Va wx (w.heap.size) 39 #[.bool s1, .slice a1 l1 c1, .slice b1 m1 d1]) ∧ Hid (Va wx (w.heap.size + 1) 39 #[.bool s2, .slice a2 l2 c2, .slice b2 m2 d2]) ∧ Hid (Va wx (w.heap.size + 1 + 1) 39 #[.bool false, .slice none 0 0, .slice none 0 0]) ∧ Hid (Va wx (b6) 39 #[.bool sf, .slice af lf cf, .slice bf mf df]) ∧ Hid (Rt wx s1 a1 l1 c1 z1 b1 m1 d1 y1 v1) ∧ Hid (Rt wx s2 a2 l2 c2 z2 b2 m2 d2 y2 v2) ∧ Hid (Rt wx sf af lf cf zf bf mf df yf vf) ∧ Hid (Rt wx sh ah lh ch zh bh mh dh yh vh) ∧ Hid (vh = Rat.divInt v2.num (v1.den : Int)) ∧ Hid (Below w.heap.size w wx) ∧ Hid (w.heap.size + 3 ≤ b8))
    case first =>
      refine wp_region_noPanic ?_
      replace V0 : Va wc.drew _ _ _ := V0
      replace V1 : Va wc.drew _ _ _ := V1
      replace V2 : Va wc.drew _ _ _ := V2
      replace Vf : Va wc.drew _ _ _ := Vf
      replace h1 := h1.drw
      replace h2 := h2.drw
      replace hf := hf.drw
      replace B0 := Below.drew B0
      refine wp_region_held_drew (S := (fun W => W.cell? ⟨w.heap.size, 0, none⟩ = some (.bool s1) ∧ W.cell? ⟨w.heap.size, 1, none⟩ = some (.slice a1 l1 c1) ∧ W.cell? ⟨w.heap.size, 2, none⟩ = some (.slice b1 m1 d1) ∧ W.cell? ⟨w.heap.size + 1, 0, none⟩ = some (.bool s2) ∧ W.cell? ⟨w.heap.size + 1, 1, none⟩ = some (.slice a2 l2 c2) ∧ W.cell? ⟨w.heap.size + 1, 2, none⟩ = some (.slice b2 m2 d2))) (by kernel_rfl) ⟨V0.d0, V0.d1, V0.d2, V1.d0, V1.d1, V1.d2⟩ (fun hHeld => ?_)
      obtain ⟨x2, hxd⟩ : ∃ xd, xd = wc.drew := ⟨_, rfl⟩
      rw [← hxd] at V0 V1 V2 Vf h1 h2 hf B0 hHeld ⊢
      clear hxd
      refine wpAnyH_take (i := 0) (v := ?_) rfl (by kernel_rfl) (by kernel_rfl) (by kernel_rfl) (fun _ _ _ h => h) (Or.inl ⟨by rfl, ?_⟩) hHeld ?_
      rotate_left
      · (intro W hSw; (try dsimp only at hSw); go_simp; all_goals (with_reducible rfl))
      simp only [List.getElem_toArray, List.getElem_cons_zero, Act.put, List.setIfInBounds_toArray, List.set_cons_zero, List.set_cons_succ]
      refine wpAnyH_take (i := 1) (v := ?_) rfl (by kernel_rfl) (by kernel_rfl) (by kernel_rfl) (fun _ _ _ h => h) (Or.inl ⟨by rfl, ?_⟩) hHeld ?_
      rotate_left
      · (intro W hSw; (try dsimp only at hSw); go_simp; all_goals (with_reducible rfl))
      simp only [List.getElem_toArray, List.getElem_cons_zero, List.getElem_cons_succ, Act.put, List.setIfInBounds_toArray, List.set_cons_zero, List.set_cons_succ]
      refine wpAnyH_take (i := 2) (v := ?_) rfl (by kernel_rfl) (by kernel_rfl) (by kernel_rfl) (fun _ _ _ h => h) (Or.inl ⟨by rfl, ?_⟩) hHeld ?_
      rotate_left
      · (intro W hSw; (try dsimp only at hSw); go_simp; all_goals (with_reducible rfl))
      simp only [List.getElem_toArray, List.getElem_cons_zero, List.getElem_cons_succ, Act.put, List.setIfInBounds_toArray, List.set_cons_zero, List.set_cons_succ]
      refine wpAnyH_ready (rs := [3, 9]) (by kernel_rfl) (by simp) ?_
      refine AllReadyH.cons rfl (fun K hK => ?_) (AllReadyH.cons rfl (fun K hK => ?_) AllReadyH.nil)
      ·
        simp only [List.getElem_toArray, List.getElem_cons_zero, List.getElem_cons_succ]
        go_simp
        refine (rden_any s1 a1 l1 c1 b1 m1 d1 y1 _ h1.2.1).mono ?_
        rintro e x3 ⟨b3, m3, d3, y3, rfl, h3, e3, hb⟩
        replace V0 := Va.after hb V0
        replace V1 := Va.after hb V1
        replace V2 := Va.after hb V2
        replace Vf := Va.after hb Vf
        replace h1 := Rt.after hb h1
        replace h2 := Rt.after hb h2
        replace hf := Rt.after hb hf
        replace B0 := step B0 hb
        clear hb
        replace e3 := e3.trans h1.2.2.2.1
        try go_wp2_with fail
        refine hK.out _ _ ⟨V0.d0, V0.d1, V0.d2, V1.d0, V1.d1, V1.d2⟩ (fun hHeld => ?_)
        clear hK K
        refine wpAnyH_ready (rs := [4, 9]) (by kernel_rfl) (by simp) ?_
        refine AllReadyH.cons rfl (fun K hK => ?_) (AllReadyH.cons rfl (fun K hK => ?_) AllReadyH.nil)
        ·
          simp only [List.getElem_toArray, List.getElem_cons_zero, List.getElem_cons_succ]
          go_simp
          refine (qabove_any b3 m3 d3 y3 _ h3).mono ?_
          rintro e x4 ⟨rfl, h4, hb⟩
          replace V0 := Va.after hb V0
          replace V1 := Va.after hb V1
          replace V2 := Va.after hb V2
          replace Vf := Va.after hb Vf
          replace h1 := Rt.after hb h1
          replace h2 := Rt.after hb h2
          replace hf := Rt.after hb hf
          replace h3 := Nt.after hb h3
          replace B0 := step B0 hb
          clear hb
          try go_wp2_with fail
          refine hK.out _ _ ⟨V0.d0, V0.d1, V0.d2, V1.d0, V1.d1, V1.d2⟩ (fun hHeld => ?_)
          clear hK K
          refine wpAnyH_ready (rs := [5, 9]) (by kernel_rfl) (by simp) ?_
          refine AllReadyH.cons rfl (fun K hK => ?_) (AllReadyH.cons rfl (fun K hK => ?_) AllReadyH.nil)
          ·
            simp only [List.getElem_toArray, List.getElem_cons_zero, List.getElem_cons_succ]
            go_simp
            refine (qnew_ok s2 false a2 b3 l2 c2 m3 d3 z2 y3 _ h2.1 h4 (by show num y3 ≠ 0; rw [e3]; have := v1.den_pos; omega)).mono ?_
            rintro e x5 ⟨er, sh, ah, lh, ch, zh, bh, mh, dh, yh, vh, rfl, hh, hra0, hb⟩
            replace V0 := Va.after hb V0
            replace V1 := Va.after hb V1
            replace V2 := Va.after hb V2
            replace Vf := Va.after hb Vf
            replace h1 := Rt.after hb h1
            replace h2 := Rt.after hb h2
            replace hf := Rt.after hb hf
            replace h3 := Nt.after hb h3
            replace h4 := It.after hb h4
            replace B0 := step B0 hb
            clear hb
            have hra : vh = Rat.divInt v2.num (v1.den : Int) := by
              rw [h2.2.2.1, iv_f, e3] at hra0
              exact hra0.out.ok (HS.out.2.over HS.out.1)
            clear hra0
            try go_wp2_with fail
            refine hK.out _ _ ⟨V0.d0, V0.d1, V0.d2, V1.d0, V1.d1, V1.d2⟩ (fun hHeld => ?_)
            clear hK K
            refine wpAnyH_take (i := 6) (v := ?_) rfl (by kernel_rfl) (by kernel_rfl) (by kernel_rfl) (fun _ _ _ h => h) (Or.inl ⟨by rfl, ?_⟩) hHeld ?_
            rotate_left
            · (intro W hSw; (try dsimp only at hSw); go_simp; all_goals (with_reducible rfl))
            simp only [List.getElem_toArray, List.getElem_cons_zero, List.getElem_cons_succ, Act.put, List.setIfInBounds_toArray, List.set_cons_zero, List.set_cons_succ]
            refine wpAnyH_take (i := 7) (v := ?_) rfl (by kernel_rfl) (by kernel_rfl) (by kernel_rfl) (fun _ _ _ h => h) (Or.inl ⟨by rfl, ?_⟩) hHeld ?_
            rotate_left
            · (intro W hSw; (try dsimp only at hSw); go_simp; all_goals (with_reducible rfl))
            simp only [List.getElem_toArray, List.getElem_cons_zero, List.getElem_cons_succ, Act.put, List.setIfInBounds_toArray, List.set_cons_zero, List.set_cons_succ]
            refine wpAnyH_take (i := 8) (v := ?_) rfl (by kernel_rfl) (by kernel_rfl) (by kernel_rfl) (fun _ _ _ h => h) (Or.inl ⟨by rfl, ?_⟩) hHeld ?_
            rotate_left
            · (intro W hSw; (try dsimp only at hSw); go_simp; all_goals (with_reducible rfl))
            simp only [List.getElem_toArray, List.getElem_cons_zero, List.getElem_cons_succ, Act.put, List.setIfInBounds_toArray, List.set_cons_zero, List.set_cons_succ]
            refine wpAnyH_ready (rs := [9]) (by kernel_rfl) (by simp) ?_
            refine AllReadyH.cons rfl (fun K hK => ?_) AllReadyH.nil
            ·
              simp only [List.getElem_toArray, List.getElem_cons_zero, List.getElem_cons_succ]
              go_simp
              have lt_Vh_V0 := V0.lt
              have lt_Vh_V1 := V1.lt
              have lt_Vh_V2 := V2.lt
              have lt_Vh_Vf := Vf.lt
              have sz_Vh := B0.size
              refine ent1 _ _ _ (Q := fun V => K _ V) ?_
              intro x6 hb hs_ Vh
              replace V0 := Va.after hb V0
              replace V1 := Va.after hb V1
              replace V2 := Va.after hb V2
              replace Vf := Va.after hb Vf
              replace h1 := Rt.after hb h1
              replace h2 := Rt.after hb h2
              replace hf := Rt.after hb hf
              replace h3 := Nt.after hb h3
              replace h4 := It.after hb h4
              replace hh := Rt.after hb hh
              replace B0 := step B0 hb
              clear hb hs_
              refine hK.out _ _ ⟨V0.d0, V0.d1, V0.d2, V1.d0, V1.d1, V1.d2⟩ (fun hHeld => ?_)
              clear hK K
              have c_Vh := Vh.d0
              have f0_Vh := Vh.frozen 0
              have d_Vh := Vh.d1
              have f1_Vh := Vh.frozen 1
              have e_Vh := Vh.d2
              have f2_Vh := Vh.frozen 2
              have l_Vh := Vh.lt
              have m_Vh := Nat.le_of_lt l_Vh
              refine wpAnyH_ready (rs := [10]) (by kernel_rfl) (by simp) ?_
              refine AllReadyH.cons rfl (fun K hK => ?_) AllReadyH.nil
              simp only [List.getElem_toArray, List.getElem_cons_zero, List.getElem_cons_succ]
              go_simp
              clear c_Vh f0_Vh d_Vh f1_Vh e_Vh f2_Vh l_Vh m_Vh
              refine sto3 Vh (.bool sh) (.slice ah lh ch) (.slice bh mh dh) (Q := fun W => K _ W) ?_
              intro x7 V' oth far
              replace V0 := oth _ _ _ (by first | omega | assumption | (simp; omega)) V0
              replace V1 := oth _ _ _ (by first | omega | assumption | (simp; omega)) V1
              replace V2 := oth _ _ _ (by first | omega | assumption | (simp; omega)) V2
              replace Vf := oth _ _ _ (by first | omega | assumption | (simp; omega)) Vf
              replace h1 := h1.far Vh (noInt3 _ _ _ _ _ _ _) far.1
              replace h2 := h2.far Vh (noInt3 _ _ _ _ _ _ _) far.1
              replace hf := hf.far Vh (noInt3 _ _ _ _ _ _ _) far.1
              replace h3 := h3.far Vh (noInt3 _ _ _ _ _ _ _) far.1
              replace h4 := h4.far Vh (noInt3 _ _ _ _ _ _ _) far.1
              replace hh := hh.far Vh (noInt3 _ _ _ _ _ _ _) far.1
              replace B0 := far.2 _ _ (by first | omega | (simp; omega)) B0
              replace Vh := V'
              clear oth far
              refine hK.out _ _ ⟨V0.d0, V0.d1, V0.d2, V1.d0, V1.d1, V1.d2⟩ (fun hHeld => ?_)
              clear hK K
              refine wpAnyH_take (i := 11) (v := ?_) rfl (by kernel_rfl) (by kernel_rfl) (by kernel_rfl) (fun _ _ _ h => h) (Or.inl ⟨by rfl, ?_⟩) hHeld ?_
              rotate_left
              · (intro W hSw; (try dsimp only at hSw); go_simp; all_goals (with_reducible rfl))
              simp only [List.getElem_toArray, List.getElem_cons_zero, List.getElem_cons_succ, Act.put, List.setIfInBounds_toArray, List.set_cons_zero, List.set_cons_succ]
              refine wpAnyH_done (by kernel_rfl) ?_ _
              refine NoPanic.normal ?_
              clear hHeld
              go_wp2_with fail
              go_meet
              exact ⟨_, sh, ah, lh, ch, zh, bh, mh, dh, yh, vh, rfl, Vh, V0, V1, V2, Vf, h1, h2, hf, hh, hra, B0, by show _ ≤ _; omega⟩
          ·
            simp only [List.getElem_toArray, List.getElem_cons_zero, List.getElem_cons_succ]
            go_simp
            have lt_Vh_V0 := V0.lt
            have lt_Vh_V1 := V1.lt
            have lt_Vh_V2 := V2.lt
            have lt_Vh_Vf := Vf.lt
            have sz_Vh := B0.size
            refine ent1 _ _ _ (Q := fun V => K _ V) ?_
            intro x5 hb hs_ Vh
            replace V0 := Va.after hb V0
            replace V1 := Va.after hb V1
            replace V2 := Va.after hb V2
            replace Vf := Va.after hb Vf
            replace h1 := Rt.after hb h1
            replace h2 := Rt.after hb h2
            replace hf := Rt.after hb hf
            replace h3 := Nt.after hb h3
            replace h4 := It.after hb h4
            replace B0 := step B0 hb
            clear hb hs_
            refine hK.out _ _ ⟨V0.d0, V0.d1, V0.d2, V1.d0, V1.d1, V1.d2⟩ (fun hHeld => ?_)
            clear hK K
            refine wpAnyH_ready (rs := [5]) (by kernel_rfl) (by simp) ?_
            refine AllReadyH.cons rfl (fun K hK => ?_) AllReadyH.nil
            ·
              simp only [List.getElem_toArray, List.getElem_cons_zero, List.getElem_cons_succ]
              go_simp
              refine (qnew_ok s2 false a2 b3 l2 c2 m3 d3 z2 y3 _ h2.1 h4 (by show num y3 ≠ 0; rw [e3]; have := v1.den_pos; omega)).mono ?_
              rintro e x6 ⟨er, sh, ah, lh, ch, zh, bh, mh, dh, yh, vh, rfl, hh, hra0, hb⟩
              replace V0 := Va.after hb V0
              replace V1 := Va.after hb V1
              replace V2 := Va.after hb V2
              replace Vf := Va.after hb Vf
              replace Vh := Va.after hb Vh
              replace h1 := Rt.after hb h1
              replace h2 := Rt.after hb h2
              replace hf := Rt.after hb hf
              replace h3 := Nt.after hb h3
              replace h4 := It.after hb h4
              replace B0 := step B0 hb
              clear hb
              have hra : vh = Rat.divInt v2.num (v1.den : Int) := by
                rw [h2.2.2.1, iv_f, e3] at hra0
                exact hra0.out.ok (HS.out.2.over HS.out.1)
              clear hra0
              try go_wp2_with fail
              refine hK.out _ _ ⟨V0.d0, V0.d1, V0.d2, V1.d0, V1.d1, V1.d2⟩ (fun hHeld => ?_)
              clear hK K
              refine wpAnyH_take (i := 6) (v := ?_) rfl (by kernel_rfl) (by kernel_rfl) (by kernel_rfl) (fun _ _ _ h => h) (Or.inl ⟨by rfl, ?_⟩) hHeld ?_
              rotate_left
              · (intro W hSw; (try dsimp only at hSw); go_simp; all_goals (with_reducible rfl))
              simp only [List.getElem_toArray, List.getElem_cons_zero, List.getElem_cons_succ, Act.put, List.setIfInBounds_toArray, List.set_cons_zero, List.set_cons_succ]
              refine wpAnyH_take (i := 7) (v := ?_) rfl (by kernel_rfl) (by kernel_rfl) (by kernel_rfl) (fun _ _ _ h => h) (Or.inl ⟨by rfl, ?_⟩) hHeld ?_
              rotate_left
              · (intro W hSw; (try dsimp only at hSw); go_simp; all_goals (with_reducible rfl))
              simp only [List.getElem_toArray, List.getElem_cons_zero, List.getElem_cons_succ, Act.put, List.setIfInBounds_toArray, List.set_cons_zero, List.set_cons_succ]
              refine wpAnyH_take (i := 8) (v := ?_) rfl (by kernel_rfl) (by kernel_rfl) (by kernel_rfl) (fun _ _ _ h => h) (Or.inl ⟨by rfl, ?_⟩) hHeld ?_
              rotate_left
              · (intro W hSw; (try dsimp only at hSw); go_simp; all_goals (with_reducible rfl))
              simp only [List.getElem_toArray, List.getElem_cons_zero, List.getElem_cons_succ, Act.put, List.setIfInBounds_toArray, List.set_cons_zero, List.set_cons_succ]
              have c_Vh := Vh.d0
              have f0_Vh := Vh.frozen 0
              have d_Vh := Vh.d1
              have f1_Vh := Vh.frozen 1
              have e_Vh := Vh.d2
              have f2_Vh := Vh.frozen 2
              have l_Vh := Vh.lt
              have m_Vh := Nat.le_of_lt l_Vh
              refine wpAnyH_ready (rs := [10]) (by kernel_rfl) (by simp) ?_
              refine AllReadyH.cons rfl (fun K hK => ?_) AllReadyH.nil
              simp only [List.getElem_toArray, List.getElem_cons_zero, List.getElem_cons_succ]
              go_simp
              clear c_Vh f0_Vh d_Vh f1_Vh e_Vh f2_Vh l_Vh m_Vh
              refine sto3 Vh (.bool sh) (.slice ah lh ch) (.slice bh mh dh) (Q := fun W => K _ W) ?_
              intro x7 V' oth far
              replace V0 := oth _ _ _ (by first | omega | assumption | (simp; omega)) V0
              replace V1 := oth _ _ _ (by first | omega | assumption | (simp; omega)) V1
              replace V2 := oth _ _ _ (by first | omega | assumption | (simp; omega)) V2
              replace Vf := oth _ _ _ (by first | omega | assumption | (simp; omega)) Vf
              replace h1 := h1.far Vh (noInt3 _ _ _ _ _ _ _) far.1
              replace h2 := h2.far Vh (noInt3 _ _ _ _ _ _ _) far.1
              replace hf := hf.far Vh (noInt3 _ _ _ _ _ _ _) far.1
              replace h3 := h3.far Vh (noInt3 _ _ _ _ _ _ _) far.1
              replace h4 := h4.far Vh (noInt3 _ _ _ _ _ _ _) far.1
              replace hh := hh.far Vh (noInt3 _ _ _ _ _ _ _) far.1
              replace B0 := far.2 _ _ (by first | omega | (simp; omega)) B0
              replace Vh := V'
              clear oth far
              refine hK.out _ _ ⟨V0.d0, V0.d1, V0.d2, V1.d0, V1.d1, V1.d2⟩ (fun hHeld => ?_)
              clear hK K
              refine wpAnyH_take (i := 11) (v := ?_) rfl (by kernel_rfl) (by kernel_rfl) (by kernel_rfl) (fun _ _ _ h => h) (Or.inl ⟨by rfl, ?_⟩) hHeld ?_
              rotate_left
              · (intro W hSw; (try dsimp only at hSw); go_simp; all_goals (with_reducible rfl))
              simp only [List.getElem_toArray, List.getElem_cons_zero, List.getElem_cons_succ, Act.put, List.setIfInBounds_toArray, List.set_cons_zero, List.set_cons_succ]
              refine wpAnyH_done (by kernel_rfl) ?_ _
              refine NoPanic.normal ?_
              clear hHeld
              go_wp2_with fail
              go_meet
              exact ⟨_, sh, ah, lh, ch, zh, bh, mh, dh, yh, vh, rfl, Vh, V0, V1, V2, Vf, h1, h2, hf, hh, hra, B0, by show _ ≤ _; omega⟩
        ·
          simp only [List.getElem_toArray, List.getElem_cons_zero, List.getElem_cons_succ]
          go_simp
          have lt_Vh_V0 := V0.lt
          have lt_Vh_V1 := V1.lt
          have lt_Vh_V2 := V2.lt
          have lt_Vh_Vf := Vf.lt
          have sz_Vh := B0.size
          refine ent1 _ _ _ (Q := fun V => K _ V) ?_
          intro x4 hb hs_ Vh
          replace V0 := Va.after hb V0
          replace V1 := Va.after hb V1
          replace V2 := Va.after hb V2
          replace Vf := Va.after hb Vf
          replace h1 := Rt.after hb h1
          replace h2 := Rt.after hb h2
          replace hf := Rt.after hb hf
          replace h3 := Nt.after hb h3
          replace B0 := step B0 hb
          clear hb hs_
          refine hK.out _ _ ⟨V0.d0, V0.d1, V0.d2, V1.d0, V1.d1, V1.d2⟩ (fun hHeld => ?_)
          clear hK K
          refine wpAnyH_ready (rs := [4]) (by kernel_rfl) (by simp) ?_
          refine AllReadyH.cons rfl (fun K hK => ?_) AllReadyH.nil
          ·
            simp only [List.getElem_toArray, List.getElem_cons_zero, List.getElem_cons_succ]
            go_simp
            refine (qabove_any b3 m3 d3 y3 _ h3).mono ?_
            rintro e x5 ⟨rfl, h4, hb⟩
            replace V0 := Va.after hb V0
            replace V1 := Va.after hb V1
            replace V2 := Va.after hb V2
            replace Vf := Va.after hb Vf
            replace Vh := Va.after hb Vh
            replace h1 := Rt.after hb h1
            replace h2 := Rt.after hb h2
            replace hf := Rt.after hb hf
            replace h3 := Nt.after hb h3
            replace B0 := step B0 hb
            clear hb
            try go_wp2_with fail
            refine hK.out _ _ ⟨V0.d0, V0.d1, V0.d2, V1.d0, V1.d1, V1.d2⟩ (fun hHeld => ?_)
            clear hK K
            refine wpAnyH_ready (rs := [5]) (by kernel_rfl) (by simp) ?_
            refine AllReadyH.cons rfl (fun K hK => ?_) AllReadyH.nil
            ·
              simp only [List.getElem_toArray, List.getElem_cons_zero, List.getElem_cons_succ]
              go_simp
              refine (qnew_ok s2 false a2 b3 l2 c2 m3 d3 z2 y3 _ h2.1 h4 (by show num y3 ≠ 0; rw [e3]; have := v1.den_pos; omega)).mono ?_
              rintro e x6 ⟨er, sh, ah, lh, ch, zh, bh, mh, dh, yh, vh, rfl, hh, hra0, hb⟩
              replace V0 := Va.after hb V0
              replace V1 := Va.after hb V1
              replace V2 := Va.after hb V2
              replace Vf := Va.after hb Vf
              replace Vh := Va.after hb Vh
              replace h1 := Rt.after hb h1
              replace h2 := Rt.after hb h2
              replace hf := Rt.after hb hf
              replace h3 := Nt.after hb h3
              replace h4 := It.after hb h4
              replace B0 := step B0 hb
              clear hb
              have hra : vh = Rat.divInt v2.num (v1.den : Int) := by
                rw [h2.2.2.1, iv_f, e3] at hra0
                exact hra0.out.ok (HS.out.2.over HS.out.1)
              clear hra0
              try go_wp2_with fail
              refine hK.out _ _ ⟨V0.d0, V0.d1, V0.d2, V1.d0, V1.d1, V1.d2⟩ (fun hHeld => ?_)
              clear hK K
              refine wpAnyH_take (i := 6) (v := ?_) rfl (by kernel_rfl) (by kernel_rfl) (by kernel_rfl) (fun _ _ _ h => h) (Or.inl ⟨by rfl, ?_⟩) hHeld ?_
              rotate_left
              · (intro W hSw; (try dsimp only at hSw); go_simp; all_goals (with_reducible rfl))
              simp only [List.getElem_toArray, List.getElem_cons_zero, List.getElem_cons_succ, Act.put, List.setIfInBounds_toArray, List.set_cons_zero, List.set_cons_succ]
              refine wpAnyH_take (i := 7) (v := ?_) rfl (by kernel_rfl) (by kernel_rfl) (by kernel_rfl) (fun _ _ _ h => h) (Or.inl ⟨by rfl, ?_⟩) hHeld ?_
              rotate_left
              · (intro W hSw; (try dsimp only at hSw); go_simp; all_goals (with_reducible rfl))
              simp only [List.getElem_toArray, List.getElem_cons_zero, List.getElem_cons_succ, Act.put, List.setIfInBounds_toArray, List.set_cons_zero, List.set_cons_succ]
              refine wpAnyH_take (i := 8) (v := ?_) rfl (by kernel_rfl) (by kernel_rfl) (by kernel_rfl) (fun _ _ _ h => h) (Or.inl ⟨by rfl, ?_⟩) hHeld ?_
              rotate_left
              · (intro W hSw; (try dsimp only at hSw); go_simp; all_goals (with_reducible rfl))
              simp only [List.getElem_toArray, List.getElem_cons_zero, List.getElem_cons_succ, Act.put, List.setIfInBounds_toArray, List.set_cons_zero, List.set_cons_succ]
              have c_Vh := Vh.d0
              have f0_Vh := Vh.frozen 0
              have d_Vh := Vh.d1
              have f1_Vh := Vh.frozen 1
              have e_Vh := Vh.d2
              have f2_Vh := Vh.frozen 2
              have l_Vh := Vh.lt
              have m_Vh := Nat.le_of_lt l_Vh
              refine wpAnyH_ready (rs := [10]) (by kernel_rfl) (by simp) ?_
              refine AllReadyH.cons rfl (fun K hK => ?_) AllReadyH.nil
              simp only [List.getElem_toArray, List.getElem_cons_zero, List.getElem_cons_succ]
              go_simp
              clear c_Vh f0_Vh d_Vh f1_Vh e_Vh f2_Vh l_Vh m_Vh
              refine sto3 Vh (.bool sh) (.slice ah lh ch) (.slice bh mh dh) (Q := fun W => K _ W) ?_
              intro x7 V' oth far
              replace V0 := oth _ _ _ (by first | omega | assumption | (simp; omega)) V0
              replace V1 := oth _ _ _ (by first | omega | assumption | (simp; omega)) V1
              replace V2 := oth _ _ _ (by first | omega | assumption | (simp; omega)) V2
              replace Vf := oth _ _ _ (by first | omega | assumption | (simp; omega)) Vf
              replace h1 := h1.far Vh (noInt3 _ _ _ _ _ _ _) far.1
              replace h2 := h2.far Vh (noInt3 _ _ _ _ _ _ _) far.1
              replace hf := hf.far Vh (noInt3 _ _ _ _ _ _ _) far.1
              replace h3 := h3.far Vh (noInt3 _ _ _ _ _ _ _) far.1
              replace h4 := h4.far Vh (noInt3 _ _ _ _ _ _ _) far.1
              replace hh := hh.far Vh (noInt3 _ _ _ _ _ _ _) far.1
              replace B0 := far.2 _ _ (by first | omega | (simp; omega)) B0
              replace Vh := V'
              clear oth far
              refine hK.out _ _ ⟨V0.d0, V0.d1, V0.d2, V1.d0, V1.d1, V1.d2⟩ (fun hHeld => ?_)
              clear hK K
              refine wpAnyH_take (i := 11) (v := ?_) rfl (by kernel_rfl) (by kernel_rfl) (by kernel_rfl) (fun _ _ _ h => h) (Or.inl ⟨by rfl, ?_⟩) hHeld ?_
              rotate_left
              · (intro W hSw; (try dsimp only at hSw); go_simp; all_goals (with_reducible rfl))
              simp only [List.getElem_toArray, List.getElem_cons_zero, List.getElem_cons_succ, Act.put, List.setIfInBounds_toArray, List.set_cons_zero, List.set_cons_succ]
              refine wpAnyH_done (by kernel_rfl) ?_ _
              refine NoPanic.normal ?_
              clear hHeld
              go_wp2_with fail
              go_meet
              exact ⟨_, sh, ah, lh, ch, zh, bh, mh, dh, yh, vh, rfl, Vh, V0, V1, V2, Vf, h1, h2, hf, hh, hra, B0, by show _ ≤ _; omega⟩
      ·
        simp only [List.getElem_toArray, List.getElem_cons_zero, List.getElem_cons_succ]
        go_simp
        have lt_Vh_V0 := V0.lt
        have lt_Vh_V1 := V1.lt
        have lt_Vh_V2 := V2.lt
        have lt_Vh_Vf := Vf.lt
        have sz_Vh := B0.size
        refine ent1 _ _ _ (Q := fun V => K _ V) ?_
        intro x3 hb hs_ Vh
        replace V0 := Va.after hb V0
        replace V1 := Va.after hb V1
        replace V2 := Va.after hb V2
        replace Vf := Va.after hb Vf
        replace h1 := Rt.after hb h1
        replace h2 := Rt.after hb h2
        replace hf := Rt.after hb hf
        replace B0 := step B0 hb
        clear hb hs_
        refine hK.out _ _ ⟨V0.d0, V0.d1, V0.d2, V1.d0, V1.d1, V1.d2⟩ (fun hHeld => ?_)
        clear hK K
        refine wpAnyH_ready (rs := [3]) (by kernel_rfl) (by simp) ?_
        refine AllReadyH.cons rfl (fun K hK => ?_) AllReadyH.nil
        ·
          simp only [List.getElem_toArray, List.getElem_cons_zero, List.getElem_cons_succ]
          go_simp
          refine (rden_any s1 a1 l1 c1 b1 m1 d1 y1 _ h1.2.1).mono ?_
          rintro e x4 ⟨b3, m3, d3, y3, rfl, h3, e3, hb⟩
          replace V0 := Va.after hb V0
          replace V1 := Va.after hb V1
          replace V2 := Va.after hb V2
          replace Vf := Va.after hb Vf
          replace Vh := Va.after hb Vh
          replace h1 := Rt.after hb h1
          replace h2 := Rt.after hb h2
          replace hf := Rt.after hb hf
          replace B0 := step B0 hb
          clear hb
          replace e3 := e3.trans h1.2.2.2.1
          try go_wp2_with fail
          refine hK.out _ _ ⟨V0.d0, V0.d1, V0.d2, V1.d0, V1.d1, V1.d2⟩ (fun hHeld => ?_)
          clear hK K
          refine wpAnyH_ready (rs := [4]) (by kernel_rfl) (by simp) ?_
          refine AllReadyH.cons rfl (fun K hK => ?_) AllReadyH.nil
          ·
            simp only [List.getElem_toArray, List.getElem_cons_zero, List.getElem_cons_succ]
            go_simp
            refine (qabove_any b3 m3 d3 y3 _ h3).mono ?_
            rintro e x5 ⟨rfl, h4, hb⟩
            replace V0 := Va.after hb V0
            replace V1 := Va.after hb V1
            replace V2 := Va.after hb V2
            replace Vf := Va.after hb Vf
            replace Vh := Va.after hb Vh
            replace h1 := Rt.after hb h1
            replace h2 := Rt.after hb h2
            replace hf := Rt.after hb hf
            replace h3 := Nt.after hb h3
            replace B0 := step B0 hb
            clear hb
            try go_wp2_with fail
            refine hK.out _ _ ⟨V0.d0, V0.d1, V0.d2, V1.d0, V1.d1, V1.d2⟩ (fun hHeld => ?_)
            clear hK K
            refine wpAnyH_ready (rs := [5]) (by kernel_rfl) (by simp) ?_
            refine AllReadyH.cons rfl (fun K hK => ?_) AllReadyH.nil
            ·
              simp only [List.getElem_toArray, List.getElem_cons_zero, List.getElem_cons_succ]
              go_simp
              refine (qnew_ok s2 false a2 b3 l2 c2 m3 d3 z2 y3 _ h2.1 h4 (by show num y3 ≠ 0; rw [e3]; have := v1.den_pos; omega)).mono ?_
              rintro e x6 ⟨er, sh, ah, lh, ch, zh, bh, mh, dh, yh, vh, rfl, hh, hra0, hb⟩
              replace V0 := Va.after hb V0
              replace V1 := Va.after hb V1
              replace V2 := Va.after hb V2
              replace Vf := Va.after hb Vf
              replace Vh := Va.after hb Vh
              replace h1 := Rt.after hb h1
              replace h2 := Rt.after hb h2
              replace hf := Rt.after hb hf
              replace h3 := Nt.after hb h3
              replace h4 := It.after hb h4
              replace B0 := step B0 hb
              clear hb
              have hra : vh = Rat.divInt v2.num (v1.den : Int) := by
                rw [h2.2.2.1, iv_f, e3] at hra0
                exact hra0.out.ok (HS.out.2.over HS.out.1)
              clear hra0
              try go_wp2_with fail
              refine hK.out _ _ ⟨V0.d0, V0.d1, V0.d2, V1.d0, V1.d1, V1.d2⟩ (fun hHeld => ?_)
              clear hK K
              refine wpAnyH_take (i := 6) (v := ?_) rfl (by kernel_rfl) (by kernel_rfl) (by kernel_rfl) (fun _ _ _ h => h) (Or.inl ⟨by rfl, ?_⟩) hHeld ?_
              rotate_left
              · (intro W hSw; (try dsimp only at hSw); go_simp; all_goals (with_reducible rfl))
              simp only [List.getElem_toArray, List.getElem_cons_zero, List.getElem_cons_succ, Act.put, List.setIfInBounds_toArray, List.set_cons_zero, List.set_cons_succ]
              refine wpAnyH_take (i := 7) (v := ?_) rfl (by kernel_rfl) (by kernel_rfl) (by kernel_rfl) (fun _ _ _ h => h) (Or.inl ⟨by rfl, ?_⟩) hHeld ?_
              rotate_left
              · (intro W hSw; (try dsimp only at hSw); go_simp; all_goals (with_reducible rfl))
              simp only [List.getElem_toArray, List.getElem_cons_zero, List.getElem_cons_succ, Act.put, List.setIfInBounds_toArray, List.set_cons_zero, List.set_cons_succ]
              refine wpAnyH_take (i := 8) (v := ?_) rfl (by kernel_rfl) (by kernel_rfl) (by kernel_rfl) (fun _ _ _ h => h) (Or.inl ⟨by rfl, ?_⟩) hHeld ?_
              rotate_left
              · (intro W hSw; (try dsimp only at hSw); go_simp; all_goals (with_reducible rfl))
              simp only [List.getElem_toArray, List.getElem_cons_zero, List.getElem_cons_succ, Act.put, List.setIfInBounds_toArray, List.set_cons_zero, List.set_cons_succ]
              have c_Vh := Vh.d0
              have f0_Vh := Vh.frozen 0
              have d_Vh := Vh.d1
              have f1_Vh := Vh.frozen 1
              have e_Vh := Vh.d2
              have f2_Vh := Vh.frozen 2
              have l_Vh := Vh.lt
              have m_Vh := Nat.le_of_lt l_Vh
              refine wpAnyH_ready (rs := [10]) (by kernel_rfl) (by simp) ?_
              refine AllReadyH.cons rfl (fun K hK => ?_) AllReadyH.nil
              simp only [List.getElem_toArray, List.getElem_cons_zero, List.getElem_cons_succ]
              go_simp
              clear c_Vh f0_Vh d_Vh f1_Vh e_Vh f2_Vh l_Vh m_Vh
              refine sto3 Vh (.bool sh) (.slice ah lh ch) (.slice bh mh dh) (Q := fun W => K _ W) ?_
              intro x7 V' oth far
              replace V0 := oth _ _ _ (by first | omega | assumption | (simp; omega)) V0
              replace V1 := oth _ _ _ (by first | omega | assumption | (simp; omega)) V1
              replace V2 := oth _ _ _ (by first | omega | assumption | (simp; omega)) V2
              replace Vf := oth _ _ _ (by first | omega | assumption | (simp; omega)) Vf
              replace h1 := h1.far Vh (noInt3 _ _ _ _ _ _ _) far.1
              replace h2 := h2.far Vh (noInt3 _ _ _ _ _ _ _) far.1
              replace hf := hf.far Vh (noInt3 _ _ _ _ _ _ _) far.1
              replace h3 := h3.far Vh (noInt3 _ _ _ _ _ _ _) far.1
              replace h4 := h4.far Vh (noInt3 _ _ _ _ _ _ _) far.1
              replace hh := hh.far Vh (noInt3 _ _ _ _ _ _ _) far.1
              replace B0 := far.2 _ _ (by first | omega | (simp; omega)) B0
              replace Vh := V'
              clear oth far
              refine hK.out _ _ ⟨V0.d0, V0.d1, V0.d2, V1.d0, V1.d1, V1.d2⟩ (fun hHeld => ?_)
              clear hK K
              refine wpAnyH_take (i := 11) (v := ?_) rfl (by kernel_rfl) (by kernel_rfl) (by kernel_rfl) (fun _ _ _ h => h) (Or.inl ⟨by rfl, ?_⟩) hHeld ?_
              rotate_left
              · (intro W hSw; (try dsimp only at hSw); go_simp; all_goals (with_reducible rfl))
              simp only [List.getElem_toArray, List.getElem_cons_zero, List.getElem_cons_succ, Act.put, List.setIfInBounds_toArray, List.set_cons_zero, List.set_cons_succ]
              refine wpAnyH_done (by kernel_rfl) ?_ _
              refine NoPanic.normal ?_
              clear hHeld
              go_wp2_with fail
              go_meet
              exact ⟨_, sh, ah, lh, ch, zh, bh, mh, dh, yh, vh, rfl, Vh, V0, V1, V2, Vf, h1, h2, hf, hh, hra, B0, by show _ ≤ _; omega⟩
    case rest =>
      clear V0 V1 V2 Vf h1 h2 hf B0
      obtain ⟨b8, sh, ah, lh, ch, zh, bh, mh, dh, yh, vh, rfl, Vh', V0', V1', V2', Vf', h1', h2', hf', hh', Eh', B0', hineq'⟩ := hcut
      have Vh := Vh'.out
      have V0 := V0'.out
      have V1 := V1'.out
      have V2 := V2'.out
      have Vf := Vf'.out
      have h1 := h1'.out
      have h2 := h2'.out
      have hf := hf'.out
      have hh := hh'.out
      have Eh := Eh'.out
      have B0 := B0'.out
      have hineq := hineq'.out
      clear Vh' V0' V1' V2' Vf' h1' h2' hf' hh' Eh' B0' hineq'
      have iq1 := hineq
      clear hineq
      have Hh : Hid (vh = Rat.divInt v2.num (v1.den : Int)) := Eh
      clear Eh
      have HM : Hid ((v1 * v2).num = vf.num * vh.num ∧ ((v1 * v2).den : Int) = vf.den * vh.den ∧ ((vf.num * vh.num).natAbs : Int) < pw 4096 ∧ (vf.den : Int) * vh.den < pw 4096) := by
        obtain ⟨e1, e2⟩ := rat_mul_low v1 v2
        refine ⟨by rw [Hf.out, Hh.out]; exact e1, by rw [Hf.out, Hh.out, e2, Int.natCast_mul], hf.2.2.2.2.nn hh.2.2.2.2, hf.2.2.2.2.dd hh.2.2.2.2⟩
      clear Hf Hh HS
      clear V0 V1 h1 h2
      have c_Vf := Vf.d0
      have f0_Vf := Vf.frozen 0
      have d_Vf := Vf.d1
      have f1_Vf := Vf.frozen 1
      have e_Vf := Vf.d2
      have f2_Vf := Vf.frozen 2
      have l_Vf := Vf.lt
      have m_Vf := Nat.le_of_lt l_Vf
      have c_Vh := Vh.d0
      have f0_Vh := Vh.frozen 0
      have d_Vh := Vh.d1
      have f1_Vh := Vh.frozen 1
      have e_Vh := Vh.d2
      have f2_Vh := Vh.frozen 2
      have l_Vh := Vh.lt
      have m_Vh := Nat.le_of_lt l_Vh
      go_wp2_with fail
      refine (wmul_ok sf sh af ah lf cf lh ch zf zh wc hf.1 hh.1 (by rw [hf.2.2.1, hh.2.2.1]; exact HM.out.2.2.1)).mono ?_
      rintro e x2 ⟨sn, an, ln, kn, zn, rfl, hn, en, hb⟩
      replace V2 := Va.after hb V2
      replace Vf := Va.after hb Vf
      replace Vh := Va.after hb Vh
      replace hf := Rt.after hb hf
      replace hh := Rt.after hb hh
      replace B0 := step B0 hb
      clear hb
      rw [hf.2.2.1, hh.2.2.1] at en
      clear c_Vf f0_Vf d_Vf f1_Vf e_Vf f2_Vf l_Vf m_Vf c_Vh f0_Vh d_Vh f1_Vh e_Vh f2_Vh l_Vh m_Vh
      go_wp2_with fail
      have szd := B0.size
      have lt_d_V2 := V2.lt
      have lt_d_Vf := Vf.lt
      have lt_d_Vh := Vh.lt
      refine ent1 x2 _ _ (Q := fun W => Code.wp Tryz.prog _ _ _ W) ?_
      intro x3 hb hs_x3 Vn
      replace V2 := Va.after hb V2
      replace Vf := Va.after hb Vf
      replace Vh := Va.after hb Vh
      replace hf := Rt.after hb hf
      replace hh := Rt.after hb hh
      replace hn := It.after hb hn
      replace B0 := step B0 hb
      clear hb hs_x3
      refine wp_region_noPanic ?_
      replace V2 : Va x3.drew _ _ _ := V2
      replace Vf : Va x3.drew _ _ _ := Vf
      replace Vh : Va x3.drew _ _ _ := Vh
      replace Vn : Va x3.drew _ _ _ := Vn
      replace hf := hf.drw
      replace hh := hh.drw
      replace hn := hn.drw
      replace B0 := Below.drew B0
      refine wp_region_held_drew (S := (fun W => W.cell? ⟨b6, 0, none⟩ = some (.bool sf) ∧ W.cell? ⟨b6, 1, none⟩ = some (.slice af lf cf) ∧ W.cell? ⟨b6, 2, none⟩ = some (.slice bf mf df) ∧ W.cell? ⟨b8, 0, none⟩ = some (.bool sh) ∧ W.cell? ⟨b8, 1, none⟩ = some (.slice ah lh ch) ∧ W.cell? ⟨b8, 2, none⟩ = some (.slice bh mh dh))) (by kernel_rfl) ⟨Vf.d0, Vf.d1, Vf.d2, Vh.d0, Vh.d1, Vh.d2⟩ (fun hHeld => ?_)
      obtain ⟨x4, hxd⟩ : ∃ xd, xd = x3.drew := ⟨_, rfl⟩
      rw [← hxd] at V2 Vf Vh Vn hf hh hn B0 hHeld ⊢
      clear hxd
      refine wpAnyH_take (i := 0) (v := ?_) rfl (by kernel_rfl) (by kernel_rfl) (by kernel_rfl) (fun _ _ _ h => h) (Or.inl ⟨by rfl, ?_⟩) hHeld ?_
      rotate_left
      · (intro W hSw; (try dsimp only at hSw); go_simp; all_goals (with_reducible rfl))
      simp only [List.getElem_toArray, List.getElem_cons_zero, Act.put, List.setIfInBounds_toArray, List.set_cons_zero, List.set_cons_succ]
      refine wpAnyH_take (i := 2) (v := ?_) rfl (by kernel_rfl) (by kernel_rfl) (by kernel_rfl) (fun _ _ _ h => h) (Or.inl ⟨by rfl, ?_⟩) hHeld ?_
      rotate_left
      · (intro W hSw; (try dsimp only at hSw); go_simp; all_goals (with_reducible rfl))
      simp only [List.getElem_toArray, List.getElem_cons_zero, List.getElem_cons_succ, Act.put, List.setIfInBounds_toArray, List.set_cons_zero, List.set_cons_succ]
      refine wpAnyH_ready (rs := [1, 8]) (by kernel_rfl) (by simp) ?_
      refine AllReadyH.cons rfl (fun K hK => ?_) (AllReadyH.cons rfl (fun K hK => ?_) AllReadyH.nil)
      ·
        simp only [List.getElem_toArray, List.getElem_cons_zero, List.getElem_cons_succ]
        go_simp
        refine (rden_any sf af lf cf bf mf df yf _ hf.2.1).mono ?_
        rintro e x5 ⟨b3, m3, d3, y3, rfl, h3, e3, hb⟩
        replace V2 := Va.after hb V2
        replace Vf := Va.after hb Vf
        replace Vh := Va.after hb Vh
        replace Vn := Va.after hb Vn
        replace hf := Rt.after hb hf
        replace hh := Rt.after hb hh
        replace hn := It.after hb hn
        replace B0 := step B0 hb
        clear hb
        replace e3 := e3.trans hf.2.2.2.1
        try go_wp2_with fail
        refine hK.out _ _ ⟨Vf.d0, Vf.d1, Vf.d2, Vh.d0, Vh.d1, Vh.d2⟩ (fun hHeld => ?_)
        clear hK K
        refine wpAnyH_ready (rs := [3, 8]) (by kernel_rfl) (by simp) ?_
        refine AllReadyH.cons rfl (fun K hK => ?_) (AllReadyH.cons rfl (fun K hK => ?_) AllReadyH.nil)
        ·
          simp only [List.getElem_toArray, List.getElem_cons_zero, List.getElem_cons_succ]
          go_simp
          refine (rden_any sh ah lh ch bh mh dh yh _ hh.2.1).mono ?_
          rintro e x6 ⟨b4, m4, d4, y4, rfl, h4, e4, hb⟩
          replace V2 := Va.after hb V2
          replace Vf := Va.after hb Vf
          replace Vh := Va.after hb Vh
          replace Vn := Va.after hb Vn
          replace hf := Rt.after hb hf
          replace hh := Rt.after hb hh
          replace hn := It.after hb hn
          replace h3 := Nt.after hb h3
          replace B0 := step B0 hb
          clear hb
          replace e4 := e4.trans hh.2.2.2.1
          try go_wp2_with fail
          refine hK.out _ _ ⟨Vf.d0, Vf.d1, Vf.d2, Vh.d0, Vh.d1, Vh.d2⟩ (fun hHeld => ?_)
          clear hK K
          refine wpAnyH_ready (rs := [4, 8]) (by kernel_rfl) (by simp) ?_
          refine AllReadyH.cons rfl (fun K hK => ?_) (AllReadyH.cons rfl (fun K hK => ?_) AllReadyH.nil)
          ·
            simp only [List.getElem_toArray, List.getElem_cons_zero, List.getElem_cons_succ]
            go_simp
            refine (nmul_ok b3 b4 m3 d3 m4 d4 y3 y4 _ h3 h4 (by rw [e3, e4]; exact HM.out.2.2.2)).mono ?_
            rintro e x7 ⟨aD, lD, kD, zD, rfl, hD, eD, hb⟩
            replace V2 := Va.after hb V2
            replace Vf := Va.after hb Vf
            replace Vh := Va.after hb Vh
            replace Vn := Va.after hb Vn
            replace hf := Rt.after hb hf
            replace hh := Rt.after hb hh
            replace hn := It.after hb hn
            replace h3 := Nt.after hb h3
            replace h4 := Nt.after hb h4
            replace B0 := step B0 hb
            clear hb
            rw [e3, e4] at eD
            try go_wp2_with fail
            refine hK.out _ _ ⟨Vf.d0, Vf.d1, Vf.d2, Vh.d0, Vh.d1, Vh.d2⟩ (fun hHeld => ?_)
            clear hK K
            refine wpAnyH_take (i := 5) (v := ?_) rfl (by kernel_rfl) (by kernel_rfl) (by kernel_rfl) (fun _ _ _ h => h) (Or.inl ⟨by rfl, ?_⟩) hHeld ?_
            rotate_left
            · (intro W hSw; (try dsimp only at hSw); go_simp; all_goals (with_reducible rfl))
            simp only [List.getElem_toArray, List.getElem_cons_zero, List.getElem_cons_succ, Act.put, List.setIfInBounds_toArray, List.set_cons_zero, List.set_cons_succ]
            refine wpAnyH_take (i := 6) (v := ?_) rfl (by kernel_rfl) (by kernel_rfl) (by kernel_rfl) (fun _ _ _ h => h) (Or.inl ⟨by rfl, ?_⟩) hHeld ?_
            rotate_left
            · (intro W hSw; (try dsimp only at hSw); go_simp; all_goals (with_reducible rfl))
            simp only [List.getElem_toArray, List.getElem_cons_zero, List.getElem_cons_succ, Act.put, List.setIfInBounds_toArray, List.set_cons_zero, List.set_cons_succ]
            refine wpAnyH_take (i := 7) (v := ?_) rfl (by kernel_rfl) (by kernel_rfl) (by kernel_rfl) (fun _ _ _ h => h) (Or.inl ⟨by rfl, ?_⟩) hHeld ?_
            rotate_left
            · (intro W hSw; (try dsimp only at hSw); go_simp; all_goals (with_reducible rfl))
            simp only [List.getElem_toArray, List.getElem_cons_zero, List.getElem_cons_succ, Act.put, List.setIfInBounds_toArray, List.set_cons_zero, List.set_cons_succ]
            refine wpAnyH_ready (rs := [8]) (by kernel_rfl) (by simp) ?_
            refine AllReadyH.cons rfl (fun K hK => ?_) AllReadyH.nil
            ·
              simp only [List.getElem_toArray, List.getElem_cons_zero, List.getElem_cons_succ]
              go_simp
              have lt_Vd_V2 := V2.lt
              have lt_Vd_Vf := Vf.lt
              have lt_Vd_Vh := Vh.lt
              have lt_Vd_Vn := Vn.lt
              have sz_Vd := B0.size
              refine ent1 _ _ _ (Q := fun V => K _ V) ?_
              intro x8 hb hs_ Vd
              replace V2 := Va.after hb V2
              replace Vf := Va.after hb Vf
              replace Vh := Va.after hb Vh
              replace Vn := Va.after hb Vn
              replace hf := Rt.after hb hf
              replace hh := Rt.after hb hh
              replace hn := It.after hb hn
              replace h3 := Nt.after hb h3
              replace h4 := Nt.after hb h4
              replace hD := Nt.after hb hD
              replace B0 := step B0 hb
              clear hb hs_
              refine hK.out _ _ ⟨Vf.d0, Vf.d1, Vf.d2, Vh.d0, Vh.d1, Vh.d2⟩ (fun hHeld => ?_)
              clear hK K
              have c_Vd := Vd.cell
              have f0_Vd := Vd.frozen 0
              have l_Vd := Vd.lt
              have m_Vd := Nat.le_of_lt l_Vd
              refine wpAnyH_ready (rs := [9]) (by kernel_rfl) (by simp) ?_
              refine AllReadyH.cons rfl (fun K hK => ?_) AllReadyH.nil
              simp only [List.getElem_toArray, List.getElem_cons_zero, List.getElem_cons_succ]
              go_simp
              clear c_Vd f0_Vd l_Vd m_Vd
              refine sto1 Vd (.slice aD lD kD) (Q := fun W => K _ W) ?_
              intro x9 V' oth far
              replace V2 := oth _ _ _ (by first | omega | assumption | (simp; omega)) V2
              replace Vf := oth _ _ _ (by first | omega | assumption | (simp; omega)) Vf
              replace Vh := oth _ _ _ (by first | omega | assumption | (simp; omega)) Vh
              replace Vn := oth _ _ _ (by first | omega | assumption | (simp; omega)) Vn
              replace hf := hf.far Vd (noInt1 _ _ _) far.1
              replace hh := hh.far Vd (noInt1 _ _ _) far.1
              replace hn := hn.far Vd (noInt1 _ _ _) far.1
              replace h3 := h3.far Vd (noInt1 _ _ _) far.1
              replace h4 := h4.far Vd (noInt1 _ _ _) far.1
              replace hD := hD.far Vd (noInt1 _ _ _) far.1
              replace B0 := far.2 _ _ (by first | omega | (simp; omega)) B0
              replace Vd := V'
              clear oth far
              refine hK.out _ _ ⟨Vf.d0, Vf.d1, Vf.d2, Vh.d0, Vh.d1, Vh.d2⟩ (fun hHeld => ?_)
              clear hK K
              refine wpAnyH_take (i := 10) (v := ?_) rfl (by kernel_rfl) (by kernel_rfl) (by kernel_rfl) (fun _ _ _ h => h) (Or.inl ⟨by rfl, ?_⟩) hHeld ?_
              rotate_left
              · (intro W hSw; (try dsimp only at hSw); go_simp; all_goals (with_reducible rfl))
              simp only [List.getElem_toArray, List.getElem_cons_zero, List.getElem_cons_succ, Act.put, List.setIfInBounds_toArray, List.set_cons_zero, List.set_cons_succ]
              refine wpAnyH_done (by kernel_rfl) ?_ _
              refine NoPanic.normal ?_
              clear hHeld
              have c_Vn := Vn.c0
              have f0_Vn := Vn.frozen 0
              have d_Vn := Vn.c1
              have f1_Vn := Vn.frozen 1
              have l_Vn := Vn.lt
              have m_Vn := Nat.le_of_lt l_Vn
              have c_Vd := Vd.cell
              have f0_Vd := Vd.frozen 0
              have l_Vd := Vd.lt
              have m_Vd := Nat.le_of_lt l_Vd
              have c_V2 := V2.d0
              have f0_V2 := V2.frozen 0
              have d_V2 := V2.d1
              have f1_V2 := V2.frozen 1
              have e_V2 := V2.d2
              have f2_V2 := V2.frozen 2
              have l_V2 := V2.lt
              have m_V2 := Nat.le_of_lt l_V2
              go_wp2_with fail
              refine (rmade_any sn an ln kn zn aD lD kD zD (v1 * v2) x9 hn hD (by rw [HM.out.1]; exact en) (by unfold dn; rw [eD, ← HM.out.2.1, if_neg (by have := (v1 * v2).den_pos; omega)])).mono ?_
              rintro e x10 ⟨er', s', a', l', c', zs', b', m', d', ds', v', rfl, h', hra, hb⟩
              replace V2 := Va.after hb V2
              replace Vf := Va.after hb Vf
              replace Vh := Va.after hb Vh
              replace Vn := Va.after hb Vn
              replace Vd := Va.after hb Vd
              replace hf := Rt.after hb hf
              replace hh := Rt.after hb hh
              replace hn := It.after hb hn
              replace h3 := Nt.after hb h3
              replace h4 := Nt.after hb h4
              replace hD := Nt.after hb hD
              replace B0 := step B0 hb
              clear hb
              clear c_Vn f0_Vn d_Vn f1_Vn l_Vn m_Vn c_Vd f0_Vd l_Vd m_Vd c_V2 f0_V2 d_V2 f1_V2 e_V2 f2_V2 l_V2 m_V2
              have c_V2 := V2.d0
              have f0_V2 := V2.frozen 0
              have d_V2 := V2.d1
              have f1_V2 := V2.frozen 1
              have e_V2 := V2.d2
              have f2_V2 := V2.frozen 2
              have l_V2 := V2.lt
              have m_V2 := Nat.le_of_lt l_V2
              go_wp2_with fail
              refine bodyPost_ret (results_rt rfl rfl (V2.set3 _ _ _)) rfl ?_
              exact ⟨er', s', a', l', c', zs', b', m', d', ds', v', rfl, h'.far V2 (noInt3 _ _ _ _ _ _ _) (fa3 _ _ _ _ _), hra, belo3 B0 (by omega) _ _ _⟩
          ·
            simp only [List.getElem_toArray, List.getElem_cons_zero, List.getElem_cons_succ]
            go_simp
            have lt_Vd_V2 := V2.lt
            have lt_Vd_Vf := Vf.lt
            have lt_Vd_Vh := Vh.lt
            have lt_Vd_Vn := Vn.lt
            have sz_Vd := B0.size
            refine ent1 _ _ _ (Q := fun V => K _ V) ?_
            intro x7 hb hs_ Vd
            replace V2 := Va.after hb V2
            replace Vf := Va.after hb Vf
            replace Vh := Va.after hb Vh
            replace Vn := Va.after hb Vn
            replace hf := Rt.after hb hf
            replace hh := Rt.after hb hh
            replace hn := It.after hb hn
            replace h3 := Nt.after hb h3
            replace h4 := Nt.after hb h4
            replace B0 := step B0 hb
            clear hb hs_
            refine hK.out _ _ ⟨Vf.d0, Vf.d1, Vf.d2, Vh.d0, Vh.d1, Vh.d2⟩ (fun hHeld => ?_)
            clear hK K
            refine wpAnyH_ready (rs := [4]) (by kernel_rfl) (by simp) ?_
            refine AllReadyH.cons rfl (fun K hK => ?_) AllReadyH.nil
            ·
              simp only [List.getElem_toArray, List.getElem_cons_zero, List.getElem_cons_succ]
              go_simp
              refine (nmul_ok b3 b4 m3 d3 m4 d4 y3 y4 _ h3 h4 (by rw [e3, e4]; exact HM.out.2.2.2)).mono ?_
              rintro e x8 ⟨aD, lD, kD, zD, rfl, hD, eD, hb⟩
              replace V2 := Va.after hb V2
              replace Vf := Va.after hb Vf
              replace Vh := Va.after hb Vh
              replace Vn := Va.after hb Vn
              replace Vd := Va.after hb Vd
              replace hf := Rt.after hb hf
              replace hh := Rt.after hb hh
              replace hn := It.after hb hn
              replace h3 := Nt.after hb h3
              replace h4 := Nt.after hb h4
              replace B0 := step B0 hb
              clear hb
              rw [e3, e4] at eD
              try go_wp2_with fail
              refine hK.out _ _ ⟨Vf.d0, Vf.d1, Vf.d2, Vh.d0, Vh.d1, Vh.d2⟩ (fun hHeld => ?_)
              clear hK K
              refine wpAnyH_take (i := 5) (v := ?_) rfl (by kernel_rfl) (by kernel_rfl) (by kernel_rfl) (fun _ _ _ h => h) (Or.inl ⟨by rfl, ?_⟩) hHeld ?_
              rotate_left
              · (intro W hSw; (try dsimp only at hSw); go_simp; all_goals (with_reducible rfl))
              simp only [List.getElem_toArray, List.getElem_cons_zero, List.getElem_cons_succ, Act.put, List.setIfInBounds_toArray, List.set_cons_zero, List.set_cons_succ]
              refine wpAnyH_take (i := 6) (v := ?_) rfl (by kernel_rfl) (by kernel_rfl) (by kernel_rfl) (fun _ _ _ h => h) (Or.inl ⟨by rfl, ?_⟩) hHeld ?_
              rotate_left
              · (intro W hSw; (try dsimp only at hSw); go_simp; all_goals (with_reducible rfl))
              simp only [List.getElem_toArray, List.getElem_cons_zero, List.getElem_cons_succ, Act.put, List.setIfInBounds_toArray, List.set_cons_zero, List.set_cons_succ]
              refine wpAnyH_take (i := 7) (v := ?_) rfl (by kernel_rfl) (by kernel_rfl) (by kernel_rfl) (fun _ _ _ h => h) (Or.inl ⟨by rfl, ?_⟩) hHeld ?_
              rotate_left
              · (intro W hSw; (try dsimp only at hSw); go_simp; all_goals (with_reducible rfl))
              simp only [List.getElem_toArray, List.getElem_cons_zero, List.getElem_cons_succ, Act.put, List.setIfInBounds_toArray, List.set_cons_zero, List.set_cons_succ]
              have c_Vd := Vd.cell
              have f0_Vd := Vd.frozen 0
              have l_Vd := Vd.lt
              have m_Vd := Nat.le_of_lt l_Vd
              refine wpAnyH_ready (rs := [9]) (by kernel_rfl) (by simp) ?_
              refine AllReadyH.cons rfl (fun K hK => ?_) AllReadyH.nil
              simp only [List.getElem_toArray, List.getElem_cons_zero, List.getElem_cons_succ]
              go_simp
              clear c_Vd f0_Vd l_Vd m_Vd
              refine sto1 Vd (.slice aD lD kD) (Q := fun W => K _ W) ?_
              intro x9 V' oth far
              replace V2 := oth _ _ _ (by first | omega | assumption | (simp; omega)) V2
              replace Vf := oth _ _ _ (by first | omega | assumption | (simp; omega)) Vf
              replace Vh := oth _ _ _ (by first | omega | assumption | (simp; omega)) Vh
              replace Vn := oth _ _ _ (by first | omega | assumption | (simp; omega)) Vn
              replace hf := hf.far Vd (noInt1 _ _ _) far.1
              replace hh := hh.far Vd (noInt1 _ _ _) far.1
              replace hn := hn.far Vd (noInt1 _ _ _) far.1
              replace h3 := h3.far Vd (noInt1 _ _ _) far.1
              replace h4 := h4.far Vd (noInt1 _ _ _) far.1
              replace hD := hD.far Vd (noInt1 _ _ _) far.1
              replace B0 := far.2 _ _ (by first | omega | (simp; omega)) B0
              replace Vd := V'
              clear oth far
              refine hK.out _ _ ⟨Vf.d0, Vf.d1, Vf.d2, Vh.d0, Vh.d1, Vh.d2⟩ (fun hHeld => ?_)
              clear hK K
              refine wpAnyH_take (i := 10) (v := ?_) rfl (by kernel_rfl) (by kernel_rfl) (by kernel_rfl) (fun _ _ _ h => h) (Or.inl ⟨by rfl, ?_⟩) hHeld ?_
              rotate_left
              · (intro W hSw; (try dsimp only at hSw); go_simp; all_goals (with_reducible rfl))
              simp only [List.getElem_toArray, List.getElem_cons_zero, List.getElem_cons_succ, Act.put, List.setIfInBounds_toArray, List.set_cons_zero, List.set_cons_succ]
              refine wpAnyH_done (by kernel_rfl) ?_ _
              refine NoPanic.normal ?_
              clear hHeld
              have c_Vn := Vn.c0
              have f0_Vn := Vn.frozen 0
              have d_Vn := Vn.c1
              have f1_Vn := Vn.frozen 1
              have l_Vn := Vn.lt
              have m_Vn := Nat.le_of_lt l_Vn
              have c_Vd := Vd.cell
              have f0_Vd := Vd.frozen 0
              have l_Vd := Vd.lt
              have m_Vd := Nat.le_of_lt l_Vd
              have c_V2 := V2.d0
              have f0_V2 := V2.frozen 0
              have d_V2 := V2.d1
              have f1_V2 := V2.frozen 1
              have e_V2 := V2.d2
              have f2_V2 := V2.frozen 2
              have l_V2 := V2.lt
              have m_V2 := Nat.le_of_lt l_V2
              go_wp2_with fail
              refine (rmade_any sn an ln kn zn aD lD kD zD (v1 * v2) x9 hn hD (by rw [HM.out.1]; exact en) (by unfold dn; rw [eD, ← HM.out.2.1, if_neg (by have := (v1 * v2).den_pos; omega)])).mono ?_
              rintro e x10 ⟨er', s', a', l', c', zs', b', m', d', ds', v', rfl, h', hra, hb⟩
              replace V2 := Va.after hb V2
              replace Vf := Va.after hb Vf
              replace Vh := Va.after hb Vh
              replace Vn := Va.after hb Vn
              replace Vd := Va.after hb Vd
              replace hf := Rt.after hb hf
              replace hh := Rt.after hb hh
              replace hn := It.after hb hn
              replace h3 := Nt.after hb h3
              replace h4 := Nt.after hb h4
              replace hD := Nt.after hb hD
              replace B0 := step B0 hb
              clear hb
              clear c_Vn f0_Vn d_Vn f1_Vn l_Vn m_Vn c_Vd f0_Vd l_Vd m_Vd c_V2 f0_V2 d_V2 f1_V2 e_V2 f2_V2 l_V2 m_V2
              have c_V2 := V2.d0
              have f0_V2 := V2.frozen 0
              have d_V2 := V2.d1
              have f1_V2 := V2.frozen 1
              have e_V2 := V2.d2
              have f2_V2 := V2.frozen 2
              have l_V2 := V2.lt
              have m_V2 := Nat.le_of_lt l_V2
              go_wp2_with fail
              refine bodyPost_ret (results_rt rfl rfl (V2.set3 _ _ _)) rfl ?_
              exact ⟨er', s', a', l', c', zs', b', m', d', ds', v', rfl, h'.far V2 (noInt3 _ _ _ _ _ _ _) (fa3 _ _ _ _ _), hra, belo3 B0 (by omega) _ _ _⟩
        ·
          simp only [List.getElem_toArray, List.getElem_cons_zero, List.getElem_cons_succ]
          go_simp
          have lt_Vd_V2 := V2.lt
          have lt_Vd_Vf := Vf.lt
          have lt_Vd_Vh := Vh.lt
          have lt_Vd_Vn := Vn.lt
          have sz_Vd := B0.size
          refine ent1 _ _ _ (Q := fun V => K _ V) ?_
          intro x6 hb hs_ Vd
          replace V2 := Va.after hb V2
          replace Vf := Va.after hb Vf
          replace Vh := Va.after hb Vh
          replace Vn := Va.after hb Vn
          replace hf := Rt.after hb hf
          replace hh := Rt.after hb hh
          replace hn := It.after hb hn
          replace h3 := Nt.after hb h3
          replace B0 := step B0 hb
          clear hb hs_
          refine hK.out _ _ ⟨Vf.d0, Vf.d1, Vf.d2, Vh.d0, Vh.d1, Vh.d2⟩ (fun hHeld => ?_)
          clear hK K
          refine wpAnyH_ready (rs := [3]) (by kernel_rfl) (by simp) ?_
          refine AllReadyH.cons rfl (fun K hK => ?_) AllReadyH.nil
          ·
            simp only [List.getElem_toArray, List.getElem_cons_zero, List.getElem_cons_succ]
            go_simp
            refine (rden_any sh ah lh ch bh mh dh yh _ hh.2.1).mono ?_
            rintro e x7 ⟨b4, m4, d4, y4, rfl, h4, e4, hb⟩
            replace V2 := Va.after hb V2
            replace Vf := Va.after hb Vf
            replace Vh := Va.after hb Vh
            replace Vn := Va.after hb Vn
            replace Vd := Va.after hb Vd
            replace hf := Rt.after hb hf
            replace hh := Rt.after hb hh
            replace hn := It.after hb hn
            replace h3 := Nt.after hb h3
            replace B0 := step B0 hb
            clear hb
            replace e4 := e4.trans hh.2.2.2.1
            try go_wp2_with fail
            refine hK.out _ _ ⟨Vf.d0, Vf.d1, Vf.d2, Vh.d0, Vh.d1, Vh.d2⟩ (fun hHeld => ?_)
            clear hK K
            refine wpAnyH_ready (rs := [4]) (by kernel_rfl) (by simp) ?_
            refine AllReadyH.cons rfl (fun K hK => ?_) AllReadyH.nil
            ·
              simp only [List.getElem_toArray, List.getElem_cons_zero, List.getElem_cons_succ]
              go_simp
              refine (nmul_ok b3 b4 m3 d3 m4 d4 y3 y4 _ h3 h4 (by rw [e3, e4]; exact HM.out.2.2.2)).mono ?_
              rintro e x8 ⟨aD, lD, kD, zD, rfl, hD, eD, hb⟩
              replace V2 := Va.after hb V2
              replace Vf := Va.after hb Vf
              replace Vh := Va.after hb Vh
              replace Vn := Va.after hb Vn
              replace Vd := Va.after hb Vd
              replace hf := Rt.after hb hf
              replace hh := Rt.after hb hh
              replace hn := It.after hb hn
              replace h3 := Nt.after hb h3
              replace h4 := Nt.after hb h4
              replace B0 := step B0 hb
              clear hb
              rw [e3, e4] at eD
              try go_wp2_with fail
              refine hK.out _ _ ⟨Vf.d0, Vf.d1, Vf.d2, Vh.d0, Vh.d1, Vh.d2⟩ (fun hHeld => ?_)
              clear hK K
              refine wpAnyH_take (i := 5) (v := ?_) rfl (by kernel_rfl) (by kernel_rfl) (by kernel_rfl) (fun _ _ _ h => h) (Or.inl ⟨by rfl, ?_⟩) hHeld ?_
              rotate_left
              · (intro W hSw; (try dsimp only at hSw); go_simp; all_goals (with_reducible rfl))
              simp only [List.getElem_toArray, List.getElem_cons_zero, List.getElem_cons_succ, Act.put, List.setIfInBounds_toArray, List.set_cons_zero, List.set_cons_succ]
              refine wpAnyH_take (i := 6) (v := ?_) rfl (by kernel_rfl) (by kernel_rfl) (by kernel_rfl) (fun _ _ _ h => h) (Or.inl ⟨by rfl, ?_⟩) hHeld ?_
              rotate_left
              · (intro W hSw; (try dsimp only at hSw); go_simp; all_goals (with_reducible rfl))
              simp only [List.getElem_toArray, List.getElem_cons_zero, List.getElem_cons_succ, Act.put, List.setIfInBounds_toArray, List.set_cons_zero, List.set_cons_succ]
              refine wpAnyH_take (i := 7) (v := ?_) rfl (by kernel_rfl) (by kernel_rfl) (by kernel_rfl) (fun _ _ _ h => h) (Or.inl ⟨by rfl, ?_⟩) hHeld ?_
              rotate_left
              · (intro W hSw; (try dsimp only at hSw); go_simp; all_goals (with_reducible rfl))
              simp only [List.getElem_toArray, List.getElem_cons_zero, List.getElem_cons_succ, Act.put, List.setIfInBounds_toArray, List.set_cons_zero, List.set_cons_succ]
              have c_Vd := Vd.cell
              have f0_Vd := Vd.frozen 0
              have l_Vd := Vd.lt
              have m_Vd := Nat.le_of_lt l_Vd
              refine wpAnyH_ready (rs := [9]) (by kernel_rfl) (by simp) ?_
              refine AllReadyH.cons rfl (fun K hK => ?_) AllReadyH.nil
              simp only [List.getElem_toArray, List.getElem_cons_zero, List.getElem_cons_succ]
              go_simp
              clear c_Vd f0_Vd l_Vd m_Vd
              refine sto1 Vd (.slice aD lD kD) (Q := fun W => K _ W) ?_
              intro x9 V' oth far
              replace V2 := oth _ _ _ (by first | omega | assumption | (simp; omega)) V2
              replace Vf := oth _ _ _ (by first | omega | assumption | (simp; omega)) Vf
              replace Vh := oth _ _ _ (by first | omega | assumption | (simp; omega)) Vh
              replace Vn := oth _ _ _ (by first | omega | assumption | (simp; omega)) Vn
              replace hf := hf.far Vd (noInt1 _ _ _) far.1
              replace hh := hh.far Vd (noInt1 _ _ _) far.1
              replace hn := hn.far Vd (noInt1 _ _ _) far.1
              replace h3 := h3.far Vd (noInt1 _ _ _) far.1
              replace h4 := h4.far Vd (noInt1 _ _ _) far.1
              replace hD := hD.far Vd (noInt1 _ _ _) far.1
              replace B0 := far.2 _ _ (by first | omega | (simp; omega)) B0
              replace Vd := V'
              clear oth far
              refine hK.out _ _ ⟨Vf.d0, Vf.d1, Vf.d2, Vh.d0, Vh.d1, Vh.d2⟩ (fun hHeld => ?_)
              clear hK K
              refine wpAnyH_take (i := 10) (v := ?_) rfl (by kernel_rfl) (by kernel_rfl) (by kernel_rfl) (fun _ _ _ h => h) (Or.inl ⟨by rfl, ?_⟩) hHeld ?_
              rotate_left
              · (intro W hSw; (try dsimp only at hSw); go_simp; all_goals (with_reducible rfl))
              simp only [List.getElem_toArray, List.getElem_cons_zero, List.getElem_cons_succ, Act.put, List.setIfInBounds_toArray, List.set_cons_zero, List.set_cons_succ]
              refine wpAnyH_done (by kernel_rfl) ?_ _
              refine NoPanic.normal ?_
              clear hHeld
              have c_Vn := Vn.c0
              have f0_Vn := Vn.frozen 0
              have d_Vn := Vn.c1
              have f1_Vn := Vn.frozen 1
              have l_Vn := Vn.lt
              have m_Vn := Nat.le_of_lt l_Vn
              have c_Vd := Vd.cell
              have f0_Vd := Vd.frozen 0
              have l_Vd := Vd.lt
              have m_Vd := Nat.le_of_lt l_Vd
              have c_V2 := V2.d0
              have f0_V2 := V2.frozen 0
              have d_V2 := V2.d1
              have f1_V2 := V2.frozen 1
              have e_V2 := V2.d2
              have f2_V2 := V2.frozen 2
              have l_V2 := V2.lt
              have m_V2 := Nat.le_of_lt l_V2
              go_wp2_with fail
              refine (rmade_any sn an ln kn zn aD lD kD zD (v1 * v2) x9 hn hD (by rw [HM.out.1]; exact en) (by unfold dn; rw [eD, ← HM.out.2.1, if_neg (by have := (v1 * v2).den_pos; omega)])).mono ?_
              rintro e x10 ⟨er', s', a', l', c', zs', b', m', d', ds', v', rfl, h', hra, hb⟩
              replace V2 := Va.after hb V2
              replace Vf := Va.after hb Vf
              replace Vh := Va.after hb Vh
              replace Vn := Va.after hb Vn
              replace Vd := Va.after hb Vd
              replace hf := Rt.after hb hf
              replace hh := Rt.after hb hh
              replace hn := It.after hb hn
              replace h3 := Nt.after hb h3
              replace h4 := Nt.after hb h4
              replace hD := Nt.after hb hD
              replace B0 := step B0 hb
              clear hb
              clear c_Vn f0_Vn d_Vn f1_Vn l_Vn m_Vn c_Vd f0_Vd l_Vd m_Vd c_V2 f0_V2 d_V2 f1_V2 e_V2 f2_V2 l_V2 m_V2
              have c_V2 := V2.d0
              have f0_V2 := V2.frozen 0
              have d_V2 := V2.d1
              have f1_V2 := V2.frozen 1
              have e_V2 := V2.d2
              have f2_V2 := V2.frozen 2
              have l_V2 := V2.lt
              have m_V2 := Nat.le_of_lt l_V2
              go_wp2_with fail
              refine bodyPost_ret (results_rt rfl rfl (V2.set3 _ _ _)) rfl ?_
              exact ⟨er', s', a', l', c', zs', b', m', d', ds', v', rfl, h'.far V2 (noInt3 _ _ _ _ _ _ _) (fa3 _ _ _ _ _), hra, belo3 B0 (by omega) _ _ _⟩
      ·
        simp only [List.getElem_toArray, List.getElem_cons_zero, List.getElem_cons_succ]
        go_simp
        have lt_Vd_V2 := V2.lt
        have lt_Vd_Vf := Vf.lt
        have lt_Vd_Vh := Vh.lt
        have lt_Vd_Vn := Vn.lt
        have sz_Vd := B0.size
        refine ent1 _ _ _ (Q := fun V => K _ V) ?_
        intro x5 hb hs_ Vd
        replace V2 := Va.after hb V2
        replace Vf := Va.after hb Vf
        replace Vh := Va.after hb Vh
        replace Vn := Va.after hb Vn
        replace hf := Rt.after hb hf
        replace hh := Rt.after hb hh
        replace hn := It.after hb hn
        replace B0 := step B0 hb
        clear hb hs_
        refine hK.out _ _ ⟨Vf.d0, Vf.d1, Vf.d2, Vh.d0, Vh.d1, Vh.d2⟩ (fun hHeld => ?_)
        clear hK K
        refine wpAnyH_ready (rs := [1]) (by kernel_rfl) (by simp) ?_
        refine AllReadyH.cons rfl (fun K hK => ?_) AllReadyH.nil
        ·
          simp only [List.getElem_toArray, List.getElem_cons_zero, List.getElem_cons_succ]
          go_simp
          refine (rden_any sf af lf cf bf mf df yf _ hf.2.1).mono ?_
          rintro e x6 ⟨b3, m3, d3, y3, rfl, h3, e3, hb⟩
          replace V2 := Va.after hb V2
          replace Vf := Va.after hb Vf
          replace Vh := Va.after hb Vh
          replace Vn := Va.after hb Vn
          replace Vd := Va.after hb Vd
          replace hf := Rt.after hb hf
          replace hh := Rt.after hb hh
          replace hn := It.after hb hn
          replace B0 := step B0 hb
          clear hb
          replace e3 := e3.trans hf.2.2.2.1
          try go_wp2_with fail
          refine hK.out _ _ ⟨Vf.d0, Vf.d1, Vf.d2, Vh.d0, Vh.d1, Vh.d2⟩ (fun hHeld => ?_)
          clear hK K
          refine wpAnyH_ready (rs := [3]) (by kernel_rfl) (by simp) ?_
          refine AllReadyH.cons rfl (fun K hK => ?_) AllReadyH.nil
          ·
            simp only [List.getElem_toArray, List.getElem_cons_zero, List.getElem_cons_succ]
            go_simp
            refine (rden_any sh ah lh ch bh mh dh yh _ hh.2.1).mono ?_
            rintro e x7 ⟨b4, m4, d4, y4, rfl, h4, e4, hb⟩
            replace V2 := Va.after hb V2
            replace Vf := Va.after hb Vf
            replace Vh := Va.after hb Vh
            replace Vn := Va.after hb Vn
            replace Vd := Va.after hb Vd
            replace hf := Rt.after hb hf
            replace hh := Rt.after hb hh
            replace hn := It.after hb hn
            replace h3 := Nt.after hb h3
            replace B0 := step B0 hb
            clear hb
            replace e4 := e4.trans hh.2.2.2.1
            try go_wp2_with fail
            refine hK.out _ _ ⟨Vf.d0, Vf.d1, Vf.d2, Vh.d0, Vh.d1, Vh.d2⟩ (fun hHeld => ?_)
            clear hK K
            refine wpAnyH_ready (rs := [4]) (by kernel_rfl) (by simp) ?_
            refine AllReadyH.cons rfl (fun K hK => ?_) AllReadyH.nil
            ·
              simp only [List.getElem_toArray, List.getElem_cons_zero, List.getElem_cons_succ]
              go_simp
              refine (nmul_ok b3 b4 m3 d3 m4 d4 y3 y4 _ h3 h4 (by rw [e3, e4]; exact HM.out.2.2.2)).mono ?_
              rintro e x8 ⟨aD, lD, kD, zD, rfl, hD, eD, hb⟩
              replace V2 := Va.after hb V2
              replace Vf := Va.after hb Vf
              replace Vh := Va.after hb Vh
              replace Vn := Va.after hb Vn
              replace Vd := Va.after hb Vd
              replace hf := Rt.after hb hf
              replace hh := Rt.after hb hh
              replace hn := It.after hb hn
              replace h3 := Nt.after hb h3
              replace h4 := Nt.after hb h4
              replace B0 := step B0 hb
              clear hb
              rw [e3, e4] at eD
              try go_wp2_with fail
              refine hK.out _ _ ⟨Vf.d0, Vf.d1, Vf.d2, Vh.d0, Vh.d1, Vh.d2⟩ (fun hHeld => ?_)
              clear hK K
              refine wpAnyH_take (i := 5) (v := ?_) rfl (by kernel_rfl) (by kernel_rfl) (by kernel_rfl) (fun _ _ _ h => h) (Or.inl ⟨by rfl, ?_⟩) hHeld ?_
              rotate_left
              · (intro W hSw; (try dsimp only at hSw); go_simp; all_goals (with_reducible rfl))
              simp only [List.getElem_toArray, List.getElem_cons_zero, List.getElem_cons_succ, Act.put, List.setIfInBounds_toArray, List.set_cons_zero, List.set_cons_succ]
              refine wpAnyH_take (i := 6) (v := ?_) rfl (by kernel_rfl) (by kernel_rfl) (by kernel_rfl) (fun _ _ _ h => h) (Or.inl ⟨by rfl, ?_⟩) hHeld ?_
              rotate_left
              · (intro W hSw; (try dsimp only at hSw); go_simp; all_goals (with_reducible rfl))
              simp only [List.getElem_toArray, List.getElem_cons_zero, List.getElem_cons_succ, Act.put, List.setIfInBounds_toArray, List.set_cons_zero, List.set_cons_succ]
              refine wpAnyH_take (i := 7) (v := ?_) rfl (by kernel_rfl) (by kernel_rfl) (by kernel_rfl) (fun _ _ _ h => h) (Or.inl ⟨by rfl, ?_⟩) hHeld ?_
              rotate_left
              · (intro W hSw; (try dsimp only at hSw); go_simp; all_goals (with_reducible rfl))
              simp only [List.getElem_toArray, List.getElem_cons_zero, List.getElem_cons_succ, Act.put, List.setIfInBounds_toArray, List.set_cons_zero, List.set_cons_succ]
              have c_Vd := Vd.cell
              have f0_Vd := Vd.frozen 0
              have l_Vd := Vd.lt
              have m_Vd := Nat.le_of_lt l_Vd
              refine wpAnyH_ready (rs := [9]) (by kernel_rfl) (by simp) ?_
              refine AllReadyH.cons rfl (fun K hK => ?_) AllReadyH.nil
              simp only [List.getElem_toArray, List.getElem_cons_zero, List.getElem_cons_succ]
              go_simp
              clear c_Vd f0_Vd l_Vd m_Vd
              refine sto1 Vd (.slice aD lD kD) (Q := fun W => K _ W) ?_
              intro x9 V' oth far
              replace V2 := oth _ _ _ (by first | omega | assumption | (simp; omega)) V2
              replace Vf := oth _ _ _ (by first | omega | assumption | (simp; omega)) Vf
              replace Vh := oth _ _ _ (by first | omega | assumption | (simp; omega)) Vh
              replace Vn := oth _ _ _ (by first | omega | assumption | (simp; omega)) Vn
              replace hf := hf.far Vd (noInt1 _ _ _) far.1
              replace hh := hh.far Vd (noInt1 _ _ _) far.1
              replace hn := hn.far Vd (noInt1 _ _ _) far.1
              replace h3 := h3.far Vd (noInt1 _ _ _) far.1
              replace h4 := h4.far Vd (noInt1 _ _ _) far.1
              replace hD := hD.far Vd (noInt1 _ _ _) far.1
              replace B0 := far.2 _ _ (by first | omega | (simp; omega)) B0
              replace Vd := V'
              clear oth far
              refine hK.out _ _ ⟨Vf.d0, Vf.d1, Vf.d2, Vh.d0, Vh.d1, Vh.d2⟩ (fun hHeld => ?_)
              clear hK K
              refine wpAnyH_take (i := 10) (v := ?_) rfl (by kernel_rfl) (by kernel_rfl) (by kernel_rfl) (fun _ _ _ h => h) (Or.inl ⟨by rfl, ?_⟩) hHeld ?_
              rotate_left
              · (intro W hSw; (try dsimp only at hSw); go_simp; all_goals (with_reducible rfl))
              simp only [List.getElem_toArray, List.getElem_cons_zero, List.getElem_cons_succ, Act.put, List.setIfInBounds_toArray, List.set_cons_zero, List.set_cons_succ]
              refine wpAnyH_done (by kernel_rfl) ?_ _
              refine NoPanic.normal ?_
              clear hHeld
              have c_Vn := Vn.c0
              have f0_Vn := Vn.frozen 0
              have d_Vn := Vn.c1
              have f1_Vn := Vn.frozen 1
              have l_Vn := Vn.lt
              have m_Vn := Nat.le_of_lt l_Vn
              have c_Vd := Vd.cell
              have f0_Vd := Vd.frozen 0
              have l_Vd := Vd.lt
              have m_Vd := Nat.le_of_lt l_Vd
              have c_V2 := V2.d0
              have f0_V2 := V2.frozen 0
              have d_V2 := V2.d1
              have f1_V2 := V2.frozen 1
              have e_V2 := V2.d2
              have f2_V2 := V2.frozen 2
              have l_V2 := V2.lt
              have m_V2 := Nat.le_of_lt l_V2
              go_wp2_with fail
              refine (rmade_any sn an ln kn zn aD lD kD zD (v1 * v2) x9 hn hD (by rw [HM.out.1]; exact en) (by unfold dn; rw [eD, ← HM.out.2.1, if_neg (by have := (v1 * v2).den_pos; omega)])).mono ?_
              rintro e x10 ⟨er', s', a', l', c', zs', b', m', d', ds', v', rfl, h', hra, hb⟩
              replace V2 := Va.after hb V2
              replace Vf := Va.after hb Vf
              replace Vh := Va.after hb Vh
              replace Vn := Va.after hb Vn
              replace Vd := Va.after hb Vd
              replace hf := Rt.after hb hf
              replace hh := Rt.after hb hh
              replace hn := It.after hb hn
              replace h3 := Nt.after hb h3
              replace h4 := Nt.after hb h4
              replace hD := Nt.after hb hD
              replace B0 := step B0 hb
              clear hb
              clear c_Vn f0_Vn d_Vn f1_Vn l_Vn m_Vn c_Vd f0_Vd l_Vd m_Vd c_V2 f0_V2 d_V2 f1_V2 e_V2 f2_V2 l_V2 m_V2
              have c_V2 := V2.d0
              have f0_V2 := V2.frozen 0
              have d_V2 := V2.d1
              have f1_V2 := V2.frozen 1
              have e_V2 := V2.d2
              have f2_V2 := V2.frozen 2
              have l_V2 := V2.lt
              have m_V2 := Nat.le_of_lt l_V2
              go_wp2_with fail
              refine bodyPost_ret (results_rt rfl rfl (V2.set3 _ _ _)) rfl ?_
              exact ⟨er', s', a', l', c', zs', b', m', d', ds', v', rfl, h'.far V2 (noInt3 _ _ _ _ _ _ _) (fa3 _ _ _ _ _), hra, belo3 B0 (by omega) _ _ _⟩

theorem qquo_nought (s1 : Bool) (a1 : Option Addr) (l1 c1 : Nat) (z1 : List Int) (b1 : Option Addr) (m1 d1 : Nat) (y1 : List Int) (v1 : Rat) (s2 : Bool) (a2 : Option Addr) (l2 c2 : Nat) (z2 : List Int) (b2 : Option Addr) (m2 d2 : Nat) (y2 : List Int) (v2 : Rat) (w : World) (h1 : Rt w s1 a1 l1 c1 z1 b1 m1 d1 y1 v1) (h2 : Rt w s2 a2 l2 c2 z2 b2 m2 d2 y2 v2) (h0 : v2 = 0) :
    Calls Tryz.prog 68 #[.agg #[.bool s1, .slice a1 l1 c1, .slice b1 m1 d1], .agg #[.bool s2, .slice a2 l2 c2, .slice b2 m2 d2]] w fun e w' => e = .returned (.tuple #[.agg #[.bool false, .slice none 0 0, .slice none 0 0], .int .i64 4]) ∧ Below w.heap.size w w' := by
  have B0 : Below w.heap.size w w := Below.refl _ _
  go_enter Tryz.func68, Tryz.ntmps68
  go_wp2_with fail
  refine ent3 w _ _ _ _ _ _ (Q := fun W => Calls Tryz.prog _ _ W _) ?_
  intro x1 hb hs_x1 V0 V1 V2
  replace h1 := Rt.after hb h1
  replace h2 := Rt.after hb h2
  replace B0 := step B0 hb
  clear hb hs_x1
  refine (qsign_any s2 a2 l2 c2 z2 b2 m2 d2 y2 v2 x1 h2).mono ?_
  rintro e x2 ⟨rfl, hb⟩
  replace V0 := Va.after hb V0
  replace V1 := Va.after hb V1
  replace V2 := Va.after hb V2
  replace h1 := Rt.after hb h1
  replace h2 := Rt.after hb h2
  replace B0 := step B0 hb
  clear hb
  rw [h0, Rat.zero_num, Int.sign_zero]
  have c_V2 := V2.d0
  have f0_V2 := V2.frozen 0
  have d_V2 := V2.d1
  have f1_V2 := V2.frozen 1
  have e_V2 := V2.d2
  have f2_V2 := V2.frozen 2
  have l_V2 := V2.lt
  have m_V2 := Nat.le_of_lt l_V2
  go_wp2_with fail
  refine bodyPost_ret (results_rt rfl rfl (V2.set3 _ _ _)) rfl ?_
  exact ⟨rfl, belo3 B0 (by omega) _ _ _⟩

set_option maxHeartbeats 8000000 in
theorem qquo_ok (s1 : Bool) (a1 : Option Addr) (l1 c1 : Nat) (z1 : List Int) (b1 : Option Addr) (m1 d1 : Nat) (y1 : List Int) (v1 : Rat) (s2 : Bool) (a2 : Option Addr) (l2 c2 : Nat) (z2 : List Int) (b2 : Option Addr) (m2 d2 : Nat) (y2 : List Int) (v2 : Rat) (w : World) (h1 : Rt w s1 a1 l1 c1 z1 b1 m1 d1 y1 v1) (h2 : Rt w s2 a2 l2 c2 z2 b2 m2 d2 y2 v2) (h0 : v2 ≠ 0) :
    Calls Tryz.prog 68 #[.agg #[.bool s1, .slice a1 l1 c1, .slice b1 m1 d1], .agg #[.bool s2, .slice a2 l2 c2, .slice b2 m2 d2]] w fun e w' => ∃ er s' a' l' c' zs' b' m' d' ds' v', e = .returned (.tuple #[.agg #[.bool s', .slice a' l' c', .slice b' m' d'], .int .i64 er]) ∧ Rt w' s' a' l' c' zs' b' m' d' ds' v' ∧ Hid (RA (v1 / v2) er v') ∧ Below w.heap.size w w' := by
  have hn0 : v2.num ≠ 0 := fun h => h0 (Rat.num_eq_zero.1 h)
  have sgn := qsign_ne hn0
  have HN : Hid (v2.num ≠ 0) := hn0
  clear h0 hn0
  obtain ⟨sg, hsg⟩ : ∃ sg, Int.sign v2.num = sg := ⟨_, rfl⟩
  have HSG : Hid (Int.sign v2.num = sg) := hsg
  rw [hsg] at sgn
  clear hsg
  have B0 : Below w.heap.size w w := Below.refl _ _
  go_enter Tryz.func68, Tryz.ntmps68
  go_wp2_with fail
  refine ent3 w _ _ _ _ _ _ (Q := fun W => Calls Tryz.prog _ _ W _) ?_
  intro x1 hb hs_x1 V0 V1 V2
  replace h1 := Rt.after hb h1
  replace h2 := Rt.after hb h2
  replace B0 := step B0 hb
  clear hb hs_x1
  refine (qsign_any s2 a2 l2 c2 z2 b2 m2 d2 y2 v2 x1 h2).mono ?_
  rintro e x2 ⟨rfl, hb⟩
  replace V0 := Va.after hb V0
  replace V1 := Va.after hb V1
  replace V2 := Va.after hb V2
  replace h1 := Rt.after hb h1
  replace h2 := Rt.after hb h2
  replace B0 := step B0 hb
  clear hb
  rw [HSG.out]
  go_wp2_with fail
  refine wp_region_noPanic ?_
  replace V0 : Va x2.drew _ _ _ := V0
  replace V1 : Va x2.drew _ _ _ := V1
  replace V2 : Va x2.drew _ _ _ := V2
  replace h1 := h1.drw
  replace h2 := h2.drw
  replace B0 := Below.drew B0
  refine wp_region_held_drew (S := (fun W => W.cell? ⟨w.heap.size, 0, none⟩ = some (.bool s1) ∧ W.cell? ⟨w.heap.size, 1, none⟩ = some (.slice a1 l1 c1) ∧ W.cell? ⟨w.heap.size, 2, none⟩ = some (.slice b1 m1 d1) ∧ W.cell? ⟨w.heap.size + 1, 0, none⟩ = some (.bool s2) ∧ W.cell? ⟨w.heap.size + 1, 1, none⟩ = some (.slice a2 l2 c2) ∧ W.cell? ⟨w.heap.size + 1, 2, none⟩ = some (.slice b2 m2 d2))) (by kernel_rfl) ⟨V0.d0, V0.d1, V0.d2, V1.d0, V1.d1, V1.d2⟩ (fun hHeld => ?_)
  obtain ⟨x3, hxd⟩ : ∃ xd, xd = x2.drew := ⟨_, rfl⟩
  rw [← hxd] at V0 V1 V2 h1 h2 B0 hHeld ⊢
  clear hxd
  refine wpAnyH_take (i := 0) (v := ?_) rfl (by kernel_rfl) (by kernel_rfl) (by kernel_rfl) (fun _ _ _ h => h) (Or.inl ⟨by rfl, ?_⟩) hHeld ?_
  rotate_left
  · (intro W hSw; (try dsimp only at hSw); go_simp; all_goals (with_reducible rfl))
  simp only [List.getElem_toArray, List.getElem_cons_zero, Act.put, List.setIfInBounds_toArray, List.set_cons_zero, List.set_cons_succ]
  refine wpAnyH_take (i := 1) (v := ?_) rfl (by kernel_rfl) (by kernel_rfl) (by kernel_rfl) (fun _ _ _ h => h) (Or.inl ⟨by rfl, ?_⟩) hHeld ?_
  rotate_left
  · (intro W hSw; (try dsimp only at hSw); go_simp; all_goals (with_reducible rfl))
  simp only [List.getElem_toArray, List.getElem_cons_zero, List.getElem_cons_succ, Act.put, List.setIfInBounds_toArray, List.set_cons_zero, List.set_cons_succ]
  refine wpAnyH_take (i := 4) (v := ?_) rfl (by kernel_rfl) (by kernel_rfl) (by kernel_rfl) (fun _ _ _ h => h) (Or.inl ⟨by rfl, ?_⟩) hHeld ?_
  rotate_left
  · (intro W hSw; (try dsimp only at hSw); go_simp; all_goals (with_reducible rfl))
  simp only [List.getElem_toArray, List.getElem_cons_zero, List.getElem_cons_succ, Act.put, List.setIfInBounds_toArray, List.set_cons_zero, List.set_cons_succ]
  refine wpAnyH_take (i := 7) (v := ?_) rfl (by kernel_rfl) (by kernel_rfl) (by kernel_rfl) (fun _ _ _ h => h) (Or.inl ⟨by rfl, ?_⟩) hHeld ?_
  rotate_left
  · (intro W hSw; (try dsimp only at hSw); go_simp; all_goals (with_reducible rfl))
  simp only [List.getElem_toArray, List.getElem_cons_zero, List.getElem_cons_succ, Act.put, List.setIfInBounds_toArray, List.set_cons_zero, List.set_cons_succ]
  refine wpAnyH_take (i := 8) (v := ?_) rfl (by kernel_rfl) (by kernel_rfl) (by kernel_rfl) (fun _ _ _ h => h) (Or.inl ⟨by rfl, ?_⟩) hHeld ?_
  rotate_left
  · (intro W hSw; (try dsimp only at hSw); go_simp; all_goals (with_reducible rfl))
  simp only [List.getElem_toArray, List.getElem_cons_zero, List.getElem_cons_succ, Act.put, List.setIfInBounds_toArray, List.set_cons_zero, List.set_cons_succ]
  refine wpAnyH_ready (rs := [2]) (by kernel_rfl) (by simp) ?_
  refine AllReadyH.cons rfl (fun K hK => ?_) AllReadyH.nil
  simp only [List.getElem_toArray, List.getElem_cons_zero, List.getElem_cons_succ]
  go_simp
  refine (qsign_any s2 a2 l2 c2 z2 b2 m2 d2 y2 v2 _ h2).mono ?_
  rintro e x4 ⟨rfl, hb⟩
  replace V0 := Va.after hb V0
  replace V1 := Va.after hb V1
  replace V2 := Va.after hb V2
  replace h1 := Rt.after hb h1
  replace h2 := Rt.after hb h2
  replace B0 := step B0 hb
  clear hb
  rw [HSG.out]
  try go_wp2_with fail
  refine hK.out _ _ ⟨V0.d0, V0.d1, V0.d2, V1.d0, V1.d1, V1.d2⟩ (fun hHeld => ?_)
  clear hK K
  refine wpAnyH_take (i := 3) (v := ?_) rfl (by kernel_rfl) (by kernel_rfl) (by kernel_rfl) (fun _ _ _ h => h) (Or.inl ⟨by rfl, ?_⟩) hHeld ?_
  rotate_left
  · (intro W hSw; (try dsimp only at hSw); go_simp; all_goals (with_reducible rfl))
  simp only [List.getElem_toArray, List.getElem_cons_zero, List.getElem_cons_succ, Act.put, List.setIfInBounds_toArray, List.set_cons_zero, List.set_cons_succ]
  refine wpAnyH_ready (rs := [5]) (by kernel_rfl) (by simp) ?_
  refine AllReadyH.cons rfl (fun K hK => ?_) AllReadyH.nil
  simp only [List.getElem_toArray, List.getElem_cons_zero, List.getElem_cons_succ]
  go_simp
  refine (rden_any s2 a2 l2 c2 b2 m2 d2 y2 _ h2.2.1).mono ?_
  rintro e x5 ⟨b3, m3, d3, y3, rfl, h3, e3, hb⟩
  replace V0 := Va.after hb V0
  replace V1 := Va.after hb V1
  replace V2 := Va.after hb V2
  replace h1 := Rt.after hb h1
  replace h2 := Rt.after hb h2
  replace B0 := step B0 hb
  clear hb
  replace e3 := e3.trans h2.2.2.2.1
  try go_wp2_with fail
  refine hK.out _ _ ⟨V0.d0, V0.d1, V0.d2, V1.d0, V1.d1, V1.d2⟩ (fun hHeld => ?_)
  clear hK K
  refine wpAnyH_ready (rs := [6]) (by kernel_rfl) (by simp) ?_
  refine AllReadyH.cons rfl (fun K hK => ?_) AllReadyH.nil
  simp only [List.getElem_toArray, List.getElem_cons_zero, List.getElem_cons_succ]
  go_simp
  refine (wnew_any (decide (sg < 0)) b3 m3 d3 y3 _ h3).mono ?_
  rintro e x6 ⟨sn, rfl, hn, en, hb⟩
  replace V0 := Va.after hb V0
  replace V1 := Va.after hb V1
  replace V2 := Va.after hb V2
  replace h1 := Rt.after hb h1
  replace h2 := Rt.after hb h2
  replace h3 := Nt.after hb h3
  replace B0 := step B0 hb
  clear hb
  try go_wp2_with fail
  refine hK.out _ _ ⟨V0.d0, V0.d1, V0.d2, V1.d0, V1.d1, V1.d2⟩ (fun hHeld => ?_)
  clear hK K
  refine wpAnyH_ready (rs := [9]) (by kernel_rfl) (by simp) ?_
  refine AllReadyH.cons rfl (fun K hK => ?_) AllReadyH.nil
  simp only [List.getElem_toArray, List.getElem_cons_zero, List.getElem_cons_succ]
  go_simp
  refine (wabs_any s2 a2 l2 c2 _).mono ?_
  rintro e x7 ⟨rfl, hb⟩
  replace V0 := Va.after hb V0
  replace V1 := Va.after hb V1
  replace V2 := Va.after hb V2
  replace h1 := Rt.after hb h1
  replace h2 := Rt.after hb h2
  replace h3 := Nt.after hb h3
  replace hn := It.after hb hn
  replace B0 := step B0 hb
  clear hb
  have hI : Rt x7 sn b3 m3 d3 y3 a2 l2 c2 z2 v2⁻¹ := by
    refine ⟨hn, h2.1.1, ?_, ?_, h2.2.2.2.2.inv⟩
    · rw [en, Rat.num_inv, HSG.out, ← HSG.out, sign_lt]
      by_cases hh : v2.num < 0
      · rw [decide_eq_true hh, iv_t, e3, Int.sign_eq_neg_one_of_neg hh]; omega
      · rw [decide_eq_false hh, iv_f, e3, Int.sign_eq_one_of_pos (by have := HN.out; omega)]; omega
    · rw [Rat.den_inv, if_neg HN.out]; unfold dn; have h9 := h2.1.abs; rw [h2.2.2.1] at h9; rw [h9, if_neg (by have := HN.out; omega)]
  clear en e3
  try go_wp2_with fail
  refine hK.out _ _ ⟨V0.d0, V0.d1, V0.d2, V1.d0, V1.d1, V1.d2⟩ (fun hHeld => ?_)
  clear hK K
  refine wpAnyH_take (i := 10) (v := ?_) rfl (by kernel_rfl) (by kernel_rfl) (by kernel_rfl) (fun _ _ _ h => h) (Or.inl ⟨by rfl, ?_⟩) hHeld ?_
  rotate_left
  · (intro W hSw; (try dsimp only at hSw); go_simp; all_goals (with_reducible rfl))
  simp only [List.getElem_toArray, List.getElem_cons_zero, List.getElem_cons_succ, Act.put, List.setIfInBounds_toArray, List.set_cons_zero, List.set_cons_succ]
  refine wpAnyH_ready (rs := [11]) (by kernel_rfl) (by simp) ?_
  refine AllReadyH.cons rfl (fun K hK => ?_) AllReadyH.nil
  simp only [List.getElem_toArray, List.getElem_cons_zero, List.getElem_cons_succ]
  go_simp
  refine (qmul_any s1 a1 l1 c1 z1 b1 m1 d1 y1 v1 sn b3 m3 d3 y3 a2 l2 c2 z2 v2⁻¹ _ h1 hI).mono ?_
  rintro e x8 ⟨er', s', a', l', c', zs', b', m', d', ds', v', rfl, h', hra, hb⟩
  replace V0 := Va.after hb V0
  replace V1 := Va.after hb V1
  replace V2 := Va.after hb V2
  replace h1 := Rt.after hb h1
  replace h2 := Rt.after hb h2
  replace h3 := Nt.after hb h3
  replace hn := It.after hb hn
  replace hI := Rt.after hb hI
  replace B0 := step B0 hb
  clear hb
  rw [← Rat.div_def] at hra
  try go_wp2_with fail
  refine hK.out _ _ ⟨V0.d0, V0.d1, V0.d2, V1.d0, V1.d1, V1.d2⟩ (fun hHeld => ?_)
  clear hK K
  refine wpAnyH_take (i := 12) (v := ?_) rfl (by kernel_rfl) (by kernel_rfl) (by kernel_rfl) (fun _ _ _ h => h) (Or.inl ⟨by rfl, ?_⟩) hHeld ?_
  rotate_left
  · (intro W hSw; (try dsimp only at hSw); go_simp; all_goals (with_reducible rfl))
  simp only [List.getElem_toArray, List.getElem_cons_zero, List.getElem_cons_succ, Act.put, List.setIfInBounds_toArray, List.set_cons_zero, List.set_cons_succ]
  refine wpAnyH_take (i := 13) (v := ?_) rfl (by kernel_rfl) (by kernel_rfl) (by kernel_rfl) (fun _ _ _ h => h) (Or.inl ⟨by rfl, ?_⟩) hHeld ?_
  rotate_left
  · (intro W hSw; (try dsimp only at hSw); go_simp; all_goals (with_reducible rfl))
  simp only [List.getElem_toArray, List.getElem_cons_zero, List.getElem_cons_succ, Act.put, List.setIfInBounds_toArray, List.set_cons_zero, List.set_cons_succ]
  have c_V2 := V2.d0
  have f0_V2 := V2.frozen 0
  have d_V2 := V2.d1
  have f1_V2 := V2.frozen 1
  have e_V2 := V2.d2
  have f2_V2 := V2.frozen 2
  have l_V2 := V2.lt
  have m_V2 := Nat.le_of_lt l_V2
  refine wpAnyH_ready (rs := [14]) (by kernel_rfl) (by simp) ?_
  refine AllReadyH.cons rfl (fun K hK => ?_) AllReadyH.nil
  simp only [List.getElem_toArray, List.getElem_cons_zero, List.getElem_cons_succ]
  go_simp
  clear c_V2 f0_V2 d_V2 f1_V2 e_V2 f2_V2 l_V2 m_V2
  refine sto3 V2 (.bool s') (.slice a' l' c') (.slice b' m' d') (Q := fun W => K _ W) ?_
  intro x9 V' oth far
  replace V0 := oth _ _ _ (by first | omega | assumption | (simp; omega)) V0
  replace V1 := oth _ _ _ (by first | omega | assumption | (simp; omega)) V1
  replace h1 := h1.far V2 (noInt3 _ _ _ _ _ _ _) far.1
  replace h2 := h2.far V2 (noInt3 _ _ _ _ _ _ _) far.1
  replace h3 := h3.far V2 (noInt3 _ _ _ _ _ _ _) far.1
  replace hn := hn.far V2 (noInt3 _ _ _ _ _ _ _) far.1
  replace hI := hI.far V2 (noInt3 _ _ _ _ _ _ _) far.1
  replace h' := h'.far V2 (noInt3 _ _ _ _ _ _ _) far.1
  replace B0 := far.2 _ _ (by first | omega | (simp; omega)) B0
  replace V2 := V'
  clear oth far
  refine hK.out _ _ ⟨V0.d0, V0.d1, V0.d2, V1.d0, V1.d1, V1.d2⟩ (fun hHeld => ?_)
  clear hK K
  refine wpAnyH_take (i := 15) (v := ?_) rfl (by kernel_rfl) (by kernel_rfl) (by kernel_rfl) (fun _ _ _ h => h) (Or.inl ⟨by rfl, ?_⟩) hHeld ?_
  rotate_left
  · (intro W hSw; (try dsimp only at hSw); go_simp; all_goals (with_reducible rfl))
  simp only [List.getElem_toArray, List.getElem_cons_zero, List.getElem_cons_succ, Act.put, List.setIfInBounds_toArray, List.set_cons_zero, List.set_cons_succ]
  refine wpAnyH_done (by kernel_rfl) ?_ _
  refine NoPanic.normal ?_
  clear hHeld
  go_wp2_with fail
  refine bodyPost_ret (results_rt rfl rfl V2) rfl ?_
  exact ⟨er', s', a', l', c', zs', b', m', d', ds', v', rfl, h', hra, B0⟩
end Go.Proofs.YtmhfoeooccppfaaGreat
