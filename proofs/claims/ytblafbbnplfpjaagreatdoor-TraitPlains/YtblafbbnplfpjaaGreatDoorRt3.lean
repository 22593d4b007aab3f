/-
  rat.New, Small, Whole.
-/
import Derived.Test.YtblafbbnplfpjaaGreatDoorRt2
import Derived.Test.YtblafbbnplfpjaaGreatDoorBsQ
namespace Go.Proofs.YtblafbbnplfpjaaGreatDoor
open Go.RowKit Go.Shelf
set_option linter.unusedVariables false

theorem new_parts {X Y X' : Int} (hY : Y ≠ 0) (hX : X' = if Y < 0 then -X else X) {xs ys zg zq zr : List Int} (hx : num xs = X'.natAbs) (hy : num ys = Y.natAbs) (hg : num zg = (Int.gcd (num xs) (num ys) : Nat))
    (e1 : num zq * num zg = num xs) (e2 : num zr * num zg = num ys) (q0 : 0 ≤ num zq) (r0 : 0 ≤ num zr) {b : Bool} (hb : b = decide (X'.sign < 0)) : iv b zq = (Rat.divInt X Y).num ∧ dn zr = (Rat.divInt X Y).den := by
  have hX2 : Y.sign * X = X' := by
    rw [hX]
    rcases Int.lt_or_le Y 0 with h | h
    · rw [if_pos h, Int.sign_eq_neg_one_of_neg h]; omega
    · rw [if_neg (by omega), Int.sign_eq_one_of_pos (by omega)]; omega
  have hA : X'.natAbs = X.natAbs := by rw [hX]; split <;> omega
  obtain ⟨q, hq⟩ := Int.eq_ofNat_of_zero_le q0
  obtain ⟨r, hr⟩ := Int.eq_ofNat_of_zero_le r0
  have hg2 : num zg = ((Nat.gcd X.natAbs Y.natAbs : Nat) : Int) := by rw [hg, hx, hy, hA]; rfl
  rw [hg2, hq, hx, hA] at e1
  rw [hg2, hr, hy] at e2
  obtain ⟨h1, h2⟩ := rat_new X Y hY rfl (q := q) (r := r) (by exact_mod_cast e1) (by exact_mod_cast e2)
  rw [h1, h2, hX2, hb]
  have hr0 : r ≠ 0 := by rintro rfl; simp at e2; omega
  refine ⟨?_, by unfold dn; rw [hr, if_neg (by omega)]⟩
  by_cases h : X' < 0
  · rw [if_pos h, Int.sign_eq_neg_one_of_neg h]
    show iv true zq = _
    rw [iv_t, hq]
  · rw [if_neg h]
    have : ¬ X'.sign < 0 := by
      rcases Int.lt_trichotomy X' 0 with h' | h' | h'
      · exact absurd h' h
      · rw [h']; decide
      · rw [Int.sign_eq_one_of_pos h']; decide
    rw [decide_eq_false this, iv_f, hq]
theorem gcd_ne {x y : Int} (h : y ≠ 0) : ((Int.gcd x y : Nat) : Int) ≠ 0 := by
  have := Int.gcd_pos_of_ne_zero_right x h
  omega

set_option maxHeartbeats 8000000 in
theorem qnew_ok (s t : Bool) (a b : Option Addr) (la ca lb cb : Nat) (xs ys : List Int) (w : World) (hx : It w s a la ca xs) (hy : It w t b lb cb ys) (h0 : iv t ys ≠ 0) :
    Calls Tryz.prog 97 #[.agg #[.bool s, .slice a la ca], .agg #[.bool t, .slice b lb cb]] w fun e w' => ∃ er s' a' l' c' zs' b' m' d' ds' v', e = .returned (.tuple #[.agg #[.bool s', .slice a' l' c', .slice b' m' d'], .int .i64 er]) ∧ Rt w' s' a' l' c' zs' b' m' d' ds' v' ∧ Hid (RA (Rat.divInt (iv s xs) (iv t ys)) er v') ∧ Below w.heap.size w w' := by
  by_cases hneg : iv t ys < 0
  ·
    have HNG : Hid (iv t ys < 0) := hneg
    have B0 : Below w.heap.size w w := Below.refl _ _
    go_enter Tryz.func97, Tryz.ntmps97
    go_wp2_with fail
    refine ent3 w _ _ _ _ _ _ (Q := fun W => Calls Tryz.prog _ _ W _) ?_
    intro x1 hb hs_x1 V0 V1 V2
    replace hx := It.after hb hx
    replace hy := It.after hb hy
    replace B0 := step B0 hb
    clear hb hs_x1
    have es : Int.sign (iv t ys) = -1 := Int.sign_eq_neg_one_of_neg hneg
    refine (wsign_any t b lb cb ys x1 hy).mono ?_
    rintro e x2 ⟨rfl, hb⟩
    replace V0 := Va.after hb V0
    replace V1 := Va.after hb V1
    replace V2 := Va.after hb V2
    replace hx := It.after hb hx
    replace hy := It.after hb hy
    replace B0 := step B0 hb
    clear hb
    rw [es]
    have c_V1 := V1.c0
    have f0_V1 := V1.frozen 0
    have d_V1 := V1.c1
    have f1_V1 := V1.frozen 1
    have l_V1 := V1.lt
    have m_V1 := Nat.le_of_lt l_V1
    go_wp2_with fail
    refine (wsign_any t b lb cb ys x2 hy).mono ?_
    rintro e x3 ⟨rfl, hb⟩
    replace V0 := Va.after hb V0
    replace V1 := Va.after hb V1
    replace V2 := Va.after hb V2
    replace hx := It.after hb hx
    replace hy := It.after hb hy
    replace B0 := step B0 hb
    clear hb
    rw [es]
    clear es
    clear c_V1 f0_V1 d_V1 f1_V1 l_V1 m_V1
    have c_V0 := V0.c0
    have f0_V0 := V0.frozen 0
    have d_V0 := V0.c1
    have f1_V0 := V0.frozen 1
    have l_V0 := V0.lt
    have m_V0 := Nat.le_of_lt l_V0
    have c_V1 := V1.c0
    have f0_V1 := V1.frozen 0
    have d_V1 := V1.c1
    have f1_V1 := V1.frozen 1
    have l_V1 := V1.lt
    have m_V1 := Nat.le_of_lt l_V1
    go_wp2_with fail
    refine (wneg_any s a la ca xs x3 hx).mono ?_
    rintro e x4 ⟨s2, rfl, h2, e2, hb⟩
    replace V0 := Va.after hb V0
    replace V1 := Va.after hb V1
    replace V2 := Va.after hb V2
    replace hx := It.after hb hx
    replace hy := It.after hb hy
    replace B0 := step B0 hb
    clear hb
    clear c_V0 f0_V0 d_V0 f1_V0 l_V0 m_V0 c_V1 f0_V1 d_V1 f1_V1 l_V1 m_V1
    have c_V0 := V0.c0
    have f0_V0 := V0.frozen 0
    have d_V0 := V0.c1
    have f1_V0 := V0.frozen 1
    have l_V0 := V0.lt
    have m_V0 := Nat.le_of_lt l_V0
    go_wp2_with fail
    clear c_V0 f0_V0 d_V0 f1_V0 l_V0 m_V0
    refine st2 V0 (.bool s2) (.slice a la ca) (Q := fun W => Code.wp Tryz.prog _ _ _ W) ?_
    intro x5 V' oth far
    replace V1 := oth _ _ _ (by first | omega | assumption | (simp; omega)) V1
    replace V2 := oth _ _ _ (by first | omega | assumption | (simp; omega)) V2
    replace hx := hx.far V0 (noInt2 _ _ _ _) far.1
    replace hy := hy.far V0 (noInt2 _ _ _ _) far.1
    replace h2 := h2.far V0 (noInt2 _ _ _ _) far.1
    replace B0 := far.2 _ _ (by first | omega | (simp; omega)) B0
    replace V0 := V'
    clear oth far
    have HX : Hid (iv s2 xs = if iv t ys < 0 then - iv s xs else iv s xs) := by show _ = _; rw [if_pos HNG.out]; exact e2
    clear e2
    clear hx
    have H0 : Hid (iv t ys ≠ 0) := h0
    have HN : Hid (num ys ≠ 0) := by intro e; apply h0; have := hy.abs; omega
    clear h0 hneg HNG
    go_cut [6] (fun s6 wx => ∃ (b6 : Nat) (ag : Option Addr) (lg kg : Nat) (zg : List Int), s6 = .pointer (some ⟨b6, 0, none⟩) ∧ Hid (Va wx b6 62 #[.slice ag lg kg]) ∧ Hid (Va wx (w.heap.size) 64 #[.bool s2, .slice a la ca]) ∧ Hid (Va wx (w.heap.size + 1) 64 #[.bool t, .slice b lb cb]) ∧ Hid (Va wx (w.heap.size + 1 + 1) 66 #[.bool false, .slice none 0 0, .slice none 0 0]) ∧ Hid (It wx t b lb cb ys) ∧ Hid (It wx s2 a la ca xs) ∧ Hid (Nt wx ag lg kg zg) ∧ Hid (num zg = (Int.gcd (num xs) (num ys) : Nat)) ∧ Hid (Below w.heap.size w wx) ∧ Hid (w.heap.size + 3 ≤ b6))
    case first =>
      refine wp_region_noPanic ?_
      replace V0 : Va x5.drew _ _ _ := V0
      replace V1 : Va x5.drew _ _ _ := V1
      replace V2 : Va x5.drew _ _ _ := V2
      replace hy := hy.drw
      replace h2 := h2.drw
      replace B0 := Below.drew B0
      refine wp_region_held_drew (S := (fun W => W.cell? ⟨w.heap.size, 0, none⟩ = some (.bool s2) ∧ W.cell? ⟨w.heap.size, 1, none⟩ = some (.slice a la ca) ∧ W.cell? ⟨w.heap.size + 1, 0, none⟩ = some (.bool t) ∧ W.cell? ⟨w.heap.size + 1, 1, none⟩ = some (.slice b lb cb))) (by kernel_rfl) ⟨V0.c0, V0.c1, V1.c0, V1.c1⟩ (fun hHeld => ?_)
      obtain ⟨x6, hxd⟩ : ∃ xd, xd = x5.drew := ⟨_, rfl⟩
      rw [← hxd] at V0 V1 V2 hy h2 B0 hHeld ⊢
      clear hxd
      refine wpAnyH_take (i := 0) (v := ?_) rfl (by kernel_rfl) (by kernel_rfl) (by kernel_rfl) (fun _ _ _ h => h) (Or.inl ⟨by rfl, ?_⟩) hHeld ?_
      rotate_left
      · (intro W hSw; (try dsimp only at hSw); go_simp; all_goals (with_reducible rfl))
      simp only [List.getElem_toArray, List.getElem_cons_zero, Act.put, List.setIfInBounds_toArray, List.set_cons_zero, List.set_cons_succ]
      refine wpAnyH_take (i := 2) (v := ?_) rfl (by kernel_rfl) (by kernel_rfl) (by kernel_rfl) (fun _ _ _ h => h) (Or.inl ⟨by rfl, ?_⟩) hHeld ?_
      rotate_left
      · (intro W hSw; (try dsimp only at hSw); go_simp; all_goals (with_reducible rfl))
      simp only [List.getElem_toArray, List.getElem_cons_zero, List.getElem_cons_succ, Act.put, List.setIfInBounds_toArray, List.set_cons_zero, List.set_cons_succ]
      refine wpAnyH_ready (rs := [1, 5]) (by kernel_rfl) (by simp) ?_
      refine AllReadyH.cons rfl (fun K hK => ?_) (AllReadyH.cons rfl (fun K hK => ?_) AllReadyH.nil)
      ·
        simp only [List.getElem_toArray, List.getElem_cons_zero, List.getElem_cons_succ]
        go_simp
        refine (wabs_any s2 a la ca _).mono ?_
        rintro e x7 ⟨rfl, hb⟩
        replace V0 := Va.after hb V0
        replace V1 := Va.after hb V1
        replace V2 := Va.after hb V2
        replace hy := It.after hb hy
        replace h2 := It.after hb h2
        replace B0 := step B0 hb
        clear hb
        try go_wp2_with fail
        refine hK.out _ _ ⟨V0.c0, V0.c1, V1.c0, V1.c1⟩ (fun hHeld => ?_)
        clear hK K
        refine wpAnyH_ready (rs := [3, 5]) (by kernel_rfl) (by simp) ?_
        refine AllReadyH.cons rfl (fun K hK => ?_) (AllReadyH.cons rfl (fun K hK => ?_) AllReadyH.nil)
        ·
          simp only [List.getElem_toArray, List.getElem_cons_zero, List.getElem_cons_succ]
          go_simp
          refine (wabs_any t b lb cb _).mono ?_
          rintro e x8 ⟨rfl, hb⟩
          replace V0 := Va.after hb V0
          replace V1 := Va.after hb V1
          replace V2 := Va.after hb V2
          replace hy := It.after hb hy
          replace h2 := It.after hb h2
          replace B0 := step B0 hb
          clear hb
          try go_wp2_with fail
          refine hK.out _ _ ⟨V0.c0, V0.c1, V1.c0, V1.c1⟩ (fun hHeld => ?_)
          clear hK K
          refine wpAnyH_ready (rs := [4, 5]) (by kernel_rfl) (by simp) ?_
          refine AllReadyH.cons rfl (fun K hK => ?_) (AllReadyH.cons rfl (fun K hK => ?_) AllReadyH.nil)
          ·
            simp only [List.getElem_toArray, List.getElem_cons_zero, List.getElem_cons_succ]
            go_simp
            refine (ngcd_any a b la ca lb cb xs ys _ h2.1 hy.1).mono ?_
            rintro e x9 ⟨ag, lg, kg, zg, rfl, hg, eg, hb⟩
            replace V0 := Va.after hb V0
            replace V1 := Va.after hb V1
            replace V2 := Va.after hb V2
            replace hy := It.after hb hy
            replace h2 := It.after hb h2
            replace B0 := step B0 hb
            clear hb
            try go_wp2_with fail
            refine hK.out _ _ ⟨V0.c0, V0.c1, V1.c0, V1.c1⟩ (fun hHeld => ?_)
            clear hK K
            refine wpAnyH_ready (rs := [5]) (by kernel_rfl) (by simp) ?_
            refine AllReadyH.cons rfl (fun K hK => ?_) AllReadyH.nil
            ·
              simp only [List.getElem_toArray, List.getElem_cons_zero, List.getElem_cons_succ]
              go_simp
              have lt_Vg_V0 := V0.lt
              have lt_Vg_V1 := V1.lt
              have lt_Vg_V2 := V2.lt
              have sz_Vg := B0.size
              refine ent1 _ _ _ (Q := fun V => K _ V) ?_
              intro x10 hb hs_ Vg
              replace V0 := Va.after hb V0
              replace V1 := Va.after hb V1
              replace V2 := Va.after hb V2
              replace hy := It.after hb hy
              replace h2 := It.after hb h2
              replace hg := Nt.after hb hg
              replace B0 := step B0 hb
              clear hb hs_
              refine hK.out _ _ ⟨V0.c0, V0.c1, V1.c0, V1.c1⟩ (fun hHeld => ?_)
              clear hK K
              have c_Vg := Vg.cell
              have f0_Vg := Vg.frozen 0
              have l_Vg := Vg.lt
              have m_Vg := Nat.le_of_lt l_Vg
              refine wpAnyH_ready (rs := [6]) (by kernel_rfl) (by simp) ?_
              refine AllReadyH.cons rfl (fun K hK => ?_) AllReadyH.nil
              simp only [List.getElem_toArray, List.getElem_cons_zero, List.getElem_cons_succ]
              go_simp
              clear c_Vg f0_Vg l_Vg m_Vg
              refine sto1 Vg (.slice ag lg kg) (Q := fun W => K _ W) ?_
              intro x11 V' oth far
              replace V0 := oth _ _ _ (by first | omega | assumption | (simp; omega)) V0
              replace V1 := oth _ _ _ (by first | omega | assumption | (simp; omega)) V1
              replace V2 := oth _ _ _ (by first | omega | assumption | (simp; omega)) V2
              replace hy := hy.far Vg (noInt1 _ _ _) far.1
              replace h2 := h2.far Vg (noInt1 _ _ _) far.1
              replace hg := hg.far Vg (noInt1 _ _ _) far.1
              replace B0 := far.2 _ _ (by first | omega | (simp; omega)) B0
              replace Vg := V'
              clear oth far
              refine hK.out _ _ ⟨V0.c0, V0.c1, V1.c0, V1.c1⟩ (fun hHeld => ?_)
              clear hK K
              refine wpAnyH_done (by kernel_rfl) ?_ _
              refine NoPanic.normal ?_
              clear hHeld
              go_wp2_with fail
              go_meet
              exact ⟨_, ag, lg, kg, zg, rfl, Vg, V0, V1, V2, hy, h2, hg, eg, B0, by show _ ≤ _; omega⟩
          ·
            simp only [List.getElem_toArray, List.getElem_cons_zero, List.getElem_cons_succ]
            go_simp
            have lt_Vg_V0 := V0.lt
            have lt_Vg_V1 := V1.lt
            have lt_Vg_V2 := V2.lt
            have sz_Vg := B0.size
            refine ent1 _ _ _ (Q := fun V => K _ V) ?_
            intro x9 hb hs_ Vg
            replace V0 := Va.after hb V0
            replace V1 := Va.after hb V1
            replace V2 := Va.after hb V2
            replace hy := It.after hb hy
            replace h2 := It.after hb h2
            replace B0 := step B0 hb
            clear hb hs_
            refine hK.out _ _ ⟨V0.c0, V0.c1, V1.c0, V1.c1⟩ (fun hHeld => ?_)
            clear hK K
            refine wpAnyH_ready (rs := [4]) (by kernel_rfl) (by simp) ?_
            refine AllReadyH.cons rfl (fun K hK => ?_) AllReadyH.nil
            ·
              simp only [List.getElem_toArray, List.getElem_cons_zero, List.getElem_cons_succ]
              go_simp
              refine (ngcd_any a b la ca lb cb xs ys _ h2.1 hy.1).mono ?_
              rintro e x10 ⟨ag, lg, kg, zg, rfl, hg, eg, hb⟩
              replace V0 := Va.after hb V0
              replace V1 := Va.after hb V1
              replace V2 := Va.after hb V2
              replace Vg := Va.after hb Vg
              replace hy := It.after hb hy
              replace h2 := It.after hb h2
              replace B0 := step B0 hb
              clear hb
              try go_wp2_with fail
              refine hK.out _ _ ⟨V0.c0, V0.c1, V1.c0, V1.c1⟩ (fun hHeld => ?_)
              clear hK K
              have c_Vg := Vg.cell
              have f0_Vg := Vg.frozen 0
              have l_Vg := Vg.lt
              have m_Vg := Nat.le_of_lt l_Vg
              refine wpAnyH_ready (rs := [6]) (by kernel_rfl) (by simp) ?_
              refine AllReadyH.cons rfl (fun K hK => ?_) AllReadyH.nil
              simp only [List.getElem_toArray, List.getElem_cons_zero, List.getElem_cons_succ]
              go_simp
              clear c_Vg f0_Vg l_Vg m_Vg
              refine sto1 Vg (.slice ag lg kg) (Q := fun W => K _ W) ?_
              intro x11 V' oth far
              replace V0 := oth _ _ _ (by first | omega | assumption | (simp; omega)) V0
              replace V1 := oth _ _ _ (by first | omega | assumption | (simp; omega)) V1
              replace V2 := oth _ _ _ (by first | omega | assumption | (simp; omega)) V2
              replace hy := hy.far Vg (noInt1 _ _ _) far.1
              replace h2 := h2.far Vg (noInt1 _ _ _) far.1
              replace hg := hg.far Vg (noInt1 _ _ _) far.1
              replace B0 := far.2 _ _ (by first | omega | (simp; omega)) B0
              replace Vg := V'
              clear oth far
              refine hK.out _ _ ⟨V0.c0, V0.c1, V1.c0, V1.c1⟩ (fun hHeld => ?_)
              clear hK K
              refine wpAnyH_done (by kernel_rfl) ?_ _
              refine NoPanic.normal ?_
              clear hHeld
              go_wp2_with fail
              go_meet
              exact ⟨_, ag, lg, kg, zg, rfl, Vg, V0, V1, V2, hy, h2, hg, eg, B0, by show _ ≤ _; omega⟩
        ·
          simp only [List.getElem_toArray, List.getElem_cons_zero, List.getElem_cons_succ]
          go_simp
          have lt_Vg_V0 := V0.lt
          have lt_Vg_V1 := V1.lt
          have lt_Vg_V2 := V2.lt
          have sz_Vg := B0.size
          refine ent1 _ _ _ (Q := fun V => K _ V) ?_
          intro x8 hb hs_ Vg
          replace V0 := Va.after hb V0
          replace V1 := Va.after hb V1
          replace V2 := Va.after hb V2
          replace hy := It.after hb hy
          replace h2 := It.after hb h2
          replace B0 := step B0 hb
          clear hb hs_
          refine hK.out _ _ ⟨V0.c0, V0.c1, V1.c0, V1.c1⟩ (fun hHeld => ?_)
          clear hK K
          refine wpAnyH_ready (rs := [3]) (by kernel_rfl) (by simp) ?_
          refine AllReadyH.cons rfl (fun K hK => ?_) AllReadyH.nil
          ·
            simp only [List.getElem_toArray, List.getElem_cons_zero, List.getElem_cons_succ]
            go_simp
            refine (wabs_any t b lb cb _).mono ?_
            rintro e x9 ⟨rfl, hb⟩
            replace V0 := Va.after hb V0
            replace V1 := Va.after hb V1
            replace V2 := Va.after hb V2
            replace Vg := Va.after hb Vg
            replace hy := It.after hb hy
            replace h2 := It.after hb h2
            replace B0 := step B0 hb
            clear hb
            try go_wp2_with fail
            refine hK.out _ _ ⟨V0.c0, V0.c1, V1.c0, V1.c1⟩ (fun hHeld => ?_)
            clear hK K
            refine wpAnyH_ready (rs := [4]) (by kernel_rfl) (by simp) ?_
            refine AllReadyH.cons rfl (fun K hK => ?_) AllReadyH.nil
            ·
              simp only [List.getElem_toArray, List.getElem_cons_zero, List.getElem_cons_succ]
              go_simp
              refine (ngcd_any a b la ca lb cb xs ys _ h2.1 hy.1).mono ?_
              rintro e x10 ⟨ag, lg, kg, zg, rfl, hg, eg, hb⟩
              replace V0 := Va.after hb V0
              replace V1 := Va.after hb V1
              replace V2 := Va.after hb V2
              replace Vg := Va.after hb Vg
              replace hy := It.after hb hy
              replace h2 := It.after hb h2
              replace B0 := step B0 hb
              clear hb
              try go_wp2_with fail
              refine hK.out _ _ ⟨V0.c0, V0.c1, V1.c0, V1.c1⟩ (fun hHeld => ?_)
              clear hK K
              have c_Vg := Vg.cell
              have f0_Vg := Vg.frozen 0
              have l_Vg := Vg.lt
              have m_Vg := Nat.le_of_lt l_Vg
              refine wpAnyH_ready (rs := [6]) (by kernel_rfl) (by simp) ?_
              refine AllReadyH.cons rfl (fun K hK => ?_) AllReadyH.nil
              simp only [List.getElem_toArray, List.getElem_cons_zero, List.getElem_cons_succ]
              go_simp
              clear c_Vg f0_Vg l_Vg m_Vg
              refine sto1 Vg (.slice ag lg kg) (Q := fun W => K _ W) ?_
              intro x11 V' oth far
              replace V0 := oth _ _ _ (by first | omega | assumption | (simp; omega)) V0
              replace V1 := oth _ _ _ (by first | omega | assumption | (simp; omega)) V1
              replace V2 := oth _ _ _ (by first | omega | assumption | (simp; omega)) V2
              replace hy := hy.far Vg (noInt1 _ _ _) far.1
              replace h2 := h2.far Vg (noInt1 _ _ _) far.1
              replace hg := hg.far Vg (noInt1 _ _ _) far.1
              replace B0 := far.2 _ _ (by first | omega | (simp; omega)) B0
              replace Vg := V'
              clear oth far
              refine hK.out _ _ ⟨V0.c0, V0.c1, V1.c0, V1.c1⟩ (fun hHeld => ?_)
              clear hK K
              refine wpAnyH_done (by kernel_rfl) ?_ _
              refine NoPanic.normal ?_
              clear hHeld
              go_wp2_with fail
              go_meet
              exact ⟨_, ag, lg, kg, zg, rfl, Vg, V0, V1, V2, hy, h2, hg, eg, B0, by show _ ≤ _; omega⟩
      ·
        simp only [List.getElem_toArray, List.getElem_cons_zero, List.getElem_cons_succ]
        go_simp
        have lt_Vg_V0 := V0.lt
        have lt_Vg_V1 := V1.lt
        have lt_Vg_V2 := V2.lt
        have sz_Vg := B0.size
        refine ent1 _ _ _ (Q := fun V => K _ V) ?_
        intro x7 hb hs_ Vg
        replace V0 := Va.after hb V0
        replace V1 := Va.after hb V1
        replace V2 := Va.after hb V2
        replace hy := It.after hb hy
        replace h2 := It.after hb h2
        replace B0 := step B0 hb
        clear hb hs_
        refine hK.out _ _ ⟨V0.c0, V0.c1, V1.c0, V1.c1⟩ (fun hHeld => ?_)
        clear hK K
        refine wpAnyH_ready (rs := [1]) (by kernel_rfl) (by simp) ?_
        refine AllReadyH.cons rfl (fun K hK => ?_) AllReadyH.nil
        ·
          simp only [List.getElem_toArray, List.getElem_cons_zero, List.getElem_cons_succ]
          go_simp
          refine (wabs_any s2 a la ca _).mono ?_
          rintro e x8 ⟨rfl, hb⟩
          replace V0 := Va.after hb V0
          replace V1 := Va.after hb V1
          replace V2 := Va.after hb V2
          replace Vg := Va.after hb Vg
          replace hy := It.after hb hy
          replace h2 := It.after hb h2
          replace B0 := step B0 hb
          clear hb
          try go_wp2_with fail
          refine hK.out _ _ ⟨V0.c0, V0.c1, V1.c0, V1.c1⟩ (fun hHeld => ?_)
          clear hK K
          refine wpAnyH_ready (rs := [3]) (by kernel_rfl) (by simp) ?_
          refine AllReadyH.cons rfl (fun K hK => ?_) AllReadyH.nil
          ·
            simp only [List.getElem_toArray, List.getElem_cons_zero, List.getElem_cons_succ]
            go_simp
            refine (wabs_any t b lb cb _).mono ?_
            rintro e x9 ⟨rfl, hb⟩
            replace V0 := Va.after hb V0
            replace V1 := Va.after hb V1
            replace V2 := Va.after hb V2
            replace Vg := Va.after hb Vg
            replace hy := It.after hb hy
            replace h2 := It.after hb h2
            replace B0 := step B0 hb
            clear hb
            try go_wp2_with fail
            refine hK.out _ _ ⟨V0.c0, V0.c1, V1.c0, V1.c1⟩ (fun hHeld => ?_)
            clear hK K
            refine wpAnyH_ready (rs := [4]) (by kernel_rfl) (by simp) ?_
            refine AllReadyH.cons rfl (fun K hK => ?_) AllReadyH.nil
            ·
              simp only [List.getElem_toArray, List.getElem_cons_zero, List.getElem_cons_succ]
              go_simp
              refine (ngcd_any a b la ca lb cb xs ys _ h2.1 hy.1).mono ?_
              rintro e x10 ⟨ag, lg, kg, zg, rfl, hg, eg, hb⟩
              replace V0 := Va.after hb V0
              replace V1 := Va.after hb V1
              replace V2 := Va.after hb V2
              replace Vg := Va.after hb Vg
              replace hy := It.after hb hy
              replace h2 := It.after hb h2
              replace B0 := step B0 hb
              clear hb
              try go_wp2_with fail
              refine hK.out _ _ ⟨V0.c0, V0.c1, V1.c0, V1.c1⟩ (fun hHeld => ?_)
              clear hK K
              have c_Vg := Vg.cell
              have f0_Vg := Vg.frozen 0
              have l_Vg := Vg.lt
              have m_Vg := Nat.le_of_lt l_Vg
              refine wpAnyH_ready (rs := [6]) (by kernel_rfl) (by simp) ?_
              refine AllReadyH.cons rfl (fun K hK => ?_) AllReadyH.nil
              simp only [List.getElem_toArray, List.getElem_cons_zero, List.getElem_cons_succ]
              go_simp
              clear c_Vg f0_Vg l_Vg m_Vg
              refine sto1 Vg (.slice ag lg kg) (Q := fun W => K _ W) ?_
              intro x11 V' oth far
              replace V0 := oth _ _ _ (by first | omega | assumption | (simp; omega)) V0
              replace V1 := oth _ _ _ (by first | omega | assumption | (simp; omega)) V1
              replace V2 := oth _ _ _ (by first | omega | assumption | (simp; omega)) V2
              replace hy := hy.far Vg (noInt1 _ _ _) far.1
              replace h2 := h2.far Vg (noInt1 _ _ _) far.1
              replace hg := hg.far Vg (noInt1 _ _ _) far.1
              replace B0 := far.2 _ _ (by first | omega | (simp; omega)) B0
              replace Vg := V'
              clear oth far
              refine hK.out _ _ ⟨V0.c0, V0.c1, V1.c0, V1.c1⟩ (fun hHeld => ?_)
              clear hK K
              refine wpAnyH_done (by kernel_rfl) ?_ _
              refine NoPanic.normal ?_
              clear hHeld
              go_wp2_with fail
              go_meet
              exact ⟨_, ag, lg, kg, zg, rfl, Vg, V0, V1, V2, hy, h2, hg, eg, B0, by show _ ≤ _; omega⟩
    case rest =>
      clear V0 V1 V2 hy h2 B0
      obtain ⟨b6, ag, lg, kg, zg, rfl, Vg', V0', V1', V2', hy', h2', hg', EG', B0', hineq'⟩ := hcut
      have Vg := Vg'.out
      have V0 := V0'.out
      have V1 := V1'.out
      have V2 := V2'.out
      have hy := hy'.out
      have h2 := h2'.out
      have hg := hg'.out
      have EG := EG'.out
      have B0 := B0'.out
      have hineq := hineq'.out
      clear Vg' V0' V1' V2' hy' h2' hg' EG' B0' hineq'
      have iq0 := hineq
      clear hineq
      go_wp2_with fail
      have HG : Hid (num zg ≠ 0 ∧ num zg ∣ num xs ∧ num zg ∣ num ys) := by
        refine ⟨?_, ?_, ?_⟩
        · rw [EG]; exact gcd_ne HN.out
        · rw [EG]; exact Int.gcd_dvd_left ..
        · rw [EG]; exact Int.gcd_dvd_right ..
      have HE : Hid (num zg = (Int.gcd (num xs) (num ys) : Nat)) := EG
      clear EG
      refine wp_region_noPanic ?_
      replace V0 : Va wc.drew _ _ _ := V0
      replace V1 : Va wc.drew _ _ _ := V1
      replace V2 : Va wc.drew _ _ _ := V2
      replace Vg : Va wc.drew _ _ _ := Vg
      replace hy := hy.drw
      replace h2 := h2.drw
      replace hg := hg.drw
      replace B0 := Below.drew B0
      refine wp_region_held_drew (S := (fun W => W.cell? ⟨w.heap.size, 0, none⟩ = some (.bool s2) ∧ W.cell? ⟨w.heap.size, 1, none⟩ = some (.slice a la ca) ∧ W.cell? ⟨w.heap.size + 1, 0, none⟩ = some (.bool t) ∧ W.cell? ⟨w.heap.size + 1, 1, none⟩ = some (.slice b lb cb) ∧ W.cell? ⟨b6, 0, none⟩ = some (.slice ag lg kg))) (by kernel_rfl) ⟨V0.c0, V0.c1, V1.c0, V1.c1, Vg.cell⟩ (fun hHeld => ?_)
      obtain ⟨x6, hxd⟩ : ∃ xd, xd = wc.drew := ⟨_, rfl⟩
      rw [← hxd] at V0 V1 V2 Vg hy h2 hg B0 hHeld ⊢
      clear hxd
      refine wpAnyH_take (i := 0) (v := ?_) rfl (by kernel_rfl) (by kernel_rfl) (by kernel_rfl) (fun _ _ _ h => h) (Or.inl ⟨by rfl, ?_⟩) hHeld ?_
      rotate_left
      · (intro W hSw; (try dsimp only at hSw); go_simp; all_goals (with_reducible rfl))
      simp only [List.getElem_toArray, List.getElem_cons_zero, Act.put, List.setIfInBounds_toArray, List.set_cons_zero, List.set_cons_succ]
      refine wpAnyH_take (i := 3) (v := ?_) rfl (by kernel_rfl) (by kernel_rfl) (by kernel_rfl) (fun _ _ _ h => h) (Or.inl ⟨by rfl, ?_⟩) hHeld ?_
      rotate_left
      · (intro W hSw; (try dsimp only at hSw); go_simp; all_goals (with_reducible rfl))
      simp only [List.getElem_toArray, List.getElem_cons_zero, List.getElem_cons_succ, Act.put, List.setIfInBounds_toArray, List.set_cons_zero, List.set_cons_succ]
      refine wpAnyH_take (i := 5) (v := ?_) rfl (by kernel_rfl) (by kernel_rfl) (by kernel_rfl) (fun _ _ _ h => h) (Or.inl ⟨by rfl, ?_⟩) hHeld ?_
      rotate_left
      · (intro W hSw; (try dsimp only at hSw); go_simp; all_goals (with_reducible rfl))
      simp only [List.getElem_toArray, List.getElem_cons_zero, List.getElem_cons_succ, Act.put, List.setIfInBounds_toArray, List.set_cons_zero, List.set_cons_succ]
      refine wpAnyH_take (i := 8) (v := ?_) rfl (by kernel_rfl) (by kernel_rfl) (by kernel_rfl) (fun _ _ _ h => h) (Or.inl ⟨by rfl, ?_⟩) hHeld ?_
      rotate_left
      · (intro W hSw; (try dsimp only at hSw); go_simp; all_goals (with_reducible rfl))
      simp only [List.getElem_toArray, List.getElem_cons_zero, List.getElem_cons_succ, Act.put, List.setIfInBounds_toArray, List.set_cons_zero, List.set_cons_succ]
      refine wpAnyH_take (i := 10) (v := ?_) rfl (by kernel_rfl) (by kernel_rfl) (by kernel_rfl) (fun _ _ _ h => h) (Or.inl ⟨by rfl, ?_⟩) hHeld ?_
      rotate_left
      · (intro W hSw; (try dsimp only at hSw); go_simp; all_goals (with_reducible rfl))
      simp only [List.getElem_toArray, List.getElem_cons_zero, List.getElem_cons_succ, Act.put, List.setIfInBounds_toArray, List.set_cons_zero, List.set_cons_succ]
      refine wpAnyH_ready (rs := [1]) (by kernel_rfl) (by simp) ?_
      refine AllReadyH.cons rfl (fun K hK => ?_) AllReadyH.nil
      simp only [List.getElem_toArray, List.getElem_cons_zero, List.getElem_cons_succ]
      go_simp
      refine (wsign_any s2 a la ca xs _ h2).mono ?_
      rintro e x7 ⟨rfl, hb⟩
      replace V0 := Va.after hb V0
      replace V1 := Va.after hb V1
      replace V2 := Va.after hb V2
      replace Vg := Va.after hb Vg
      replace hy := It.after hb hy
      replace h2 := It.after hb h2
      replace hg := Nt.after hb hg
      replace B0 := step B0 hb
      clear hb
      obtain ⟨sg, hsg⟩ : ∃ sg, Int.sign (iv s2 xs) = sg := ⟨_, rfl⟩
      have HS : Hid (Int.sign (iv s2 xs) = sg) := hsg
      rw [hsg]
      clear hsg
      try go_wp2_with fail
      refine hK.out _ _ ⟨V0.c0, V0.c1, V1.c0, V1.c1, Vg.cell⟩ (fun hHeld => ?_)
      clear hK K
      refine wpAnyH_take (i := 2) (v := ?_) rfl (by kernel_rfl) (by kernel_rfl) (by kernel_rfl) (fun _ _ _ h => h) (Or.inl ⟨by rfl, ?_⟩) hHeld ?_
      rotate_left
      · (intro W hSw; (try dsimp only at hSw); go_simp; all_goals (with_reducible rfl))
      simp only [List.getElem_toArray, List.getElem_cons_zero, List.getElem_cons_succ, Act.put, List.setIfInBounds_toArray, List.set_cons_zero, List.set_cons_succ]
      refine wpAnyH_ready (rs := [4]) (by kernel_rfl) (by simp) ?_
      refine AllReadyH.cons rfl (fun K hK => ?_) AllReadyH.nil
      simp only [List.getElem_toArray, List.getElem_cons_zero, List.getElem_cons_succ]
      go_simp
      refine (wabs_any s2 a la ca _).mono ?_
      rintro e x8 ⟨rfl, hb⟩
      replace V0 := Va.after hb V0
      replace V1 := Va.after hb V1
      replace V2 := Va.after hb V2
      replace Vg := Va.after hb Vg
      replace hy := It.after hb hy
      replace h2 := It.after hb h2
      replace hg := Nt.after hb hg
      replace B0 := step B0 hb
      clear hb
      try go_wp2_with fail
      refine hK.out _ _ ⟨V0.c0, V0.c1, V1.c0, V1.c1, Vg.cell⟩ (fun hHeld => ?_)
      clear hK K
      refine wpAnyH_ready (rs := [6]) (by kernel_rfl) (by simp) ?_
      refine AllReadyH.cons rfl (fun K hK => ?_) AllReadyH.nil
      simp only [List.getElem_toArray, List.getElem_cons_zero, List.getElem_cons_succ]
      go_simp
      refine (rover_ok a ag la ca lg kg xs zg _ h2.1 hg HG.out.1 HG.out.2.1).mono ?_
      rintro e x9 ⟨aq, lq, kq, zq, rfl, hq, eq, hb⟩
      replace V0 := Va.after hb V0
      replace V1 := Va.after hb V1
      replace V2 := Va.after hb V2
      replace Vg := Va.after hb Vg
      replace hy := It.after hb hy
      replace h2 := It.after hb h2
      replace hg := Nt.after hb hg
      replace B0 := step B0 hb
      clear hb
      have EQ : Hid (num zq * num zg = num xs) := eq
      clear eq
      try go_wp2_with fail
      refine hK.out _ _ ⟨V0.c0, V0.c1, V1.c0, V1.c1, Vg.cell⟩ (fun hHeld => ?_)
      clear hK K
      refine wpAnyH_ready (rs := [7]) (by kernel_rfl) (by simp) ?_
      refine AllReadyH.cons rfl (fun K hK => ?_) AllReadyH.nil
      simp only [List.getElem_toArray, List.getElem_cons_zero, List.getElem_cons_succ]
      go_simp
      refine (wnew_any (decide (sg < 0)) aq lq kq zq _ hq).mono ?_
      rintro e x10 ⟨sn, rfl, hn, en, hb⟩
      replace V0 := Va.after hb V0
      replace V1 := Va.after hb V1
      replace V2 := Va.after hb V2
      replace Vg := Va.after hb Vg
      replace hy := It.after hb hy
      replace h2 := It.after hb h2
      replace hg := Nt.after hb hg
      replace hq := Nt.after hb hq
      replace B0 := step B0 hb
      clear hb
      have EN : Hid (iv sn zq = iv (decide (sg < 0)) zq) := en
      clear en
      try go_wp2_with fail
      refine hK.out _ _ ⟨V0.c0, V0.c1, V1.c0, V1.c1, Vg.cell⟩ (fun hHeld => ?_)
      clear hK K
      refine wpAnyH_ready (rs := [9]) (by kernel_rfl) (by simp) ?_
      refine AllReadyH.cons rfl (fun K hK => ?_) AllReadyH.nil
      simp only [List.getElem_toArray, List.getElem_cons_zero, List.getElem_cons_succ]
      go_simp
      refine (wabs_any t b lb cb _).mono ?_
      rintro e x11 ⟨rfl, hb⟩
      replace V0 := Va.after hb V0
      replace V1 := Va.after hb V1
      replace V2 := Va.after hb V2
      replace Vg := Va.after hb Vg
      replace hy := It.after hb hy
      replace h2 := It.after hb h2
      replace hg := Nt.after hb hg
      replace hq := Nt.after hb hq
      replace hn := It.after hb hn
      replace B0 := step B0 hb
      clear hb
      try go_wp2_with fail
      refine hK.out _ _ ⟨V0.c0, V0.c1, V1.c0, V1.c1, Vg.cell⟩ (fun hHeld => ?_)
      clear hK K
      refine wpAnyH_ready (rs := [11]) (by kernel_rfl) (by simp) ?_
      refine AllReadyH.cons rfl (fun K hK => ?_) AllReadyH.nil
      simp only [List.getElem_toArray, List.getElem_cons_zero, List.getElem_cons_succ]
      go_simp
      refine (rover_ok b ag lb cb lg kg ys zg _ hy.1 hg HG.out.1 HG.out.2.2).mono ?_
      rintro e x12 ⟨ar, lr, kr, zr, rfl, hr, er, hb⟩
      replace V0 := Va.after hb V0
      replace V1 := Va.after hb V1
      replace V2 := Va.after hb V2
      replace Vg := Va.after hb Vg
      replace hy := It.after hb hy
      replace h2 := It.after hb h2
      replace hg := Nt.after hb hg
      replace hq := Nt.after hb hq
      replace hn := It.after hb hn
      replace B0 := step B0 hb
      clear hb
      have ER : Hid (num zr * num zg = num ys) := er
      clear er
      have HP : Hid (iv sn zq = (Rat.divInt (iv s xs) (iv t ys)).num ∧ dn zr = (Rat.divInt (iv s xs) (iv t ys)).den) := by
        rw [EN.out]; exact new_parts H0.out HX.out h2.abs hy.abs HE.out EQ.out ER.out hq.nonneg hr.nonneg (by rw [HS.out])
      clear EN ER EQ HE HS
      try go_wp2_with fail
      refine hK.out _ _ ⟨V0.c0, V0.c1, V1.c0, V1.c1, Vg.cell⟩ (fun hHeld => ?_)
      clear hK K
      refine wpAnyH_ready (rs := [12]) (by kernel_rfl) (by simp) ?_
      refine AllReadyH.cons rfl (fun K hK => ?_) AllReadyH.nil
      simp only [List.getElem_toArray, List.getElem_cons_zero, List.getElem_cons_succ]
      go_simp
      refine (rmade_any sn aq lq kq zq ar lr kr zr _ _ hn hr HP.out.1 HP.out.2).mono ?_
      rintro e x13 ⟨er, s', a', l', c', zs', b', m', d', ds', v', rfl, h', hra, hb⟩
      replace V0 := Va.after hb V0
      replace V1 := Va.after hb V1
      replace V2 := Va.after hb V2
      replace Vg := Va.after hb Vg
      replace hy := It.after hb hy
      replace h2 := It.after hb h2
      replace hg := Nt.after hb hg
      replace hq := Nt.after hb hq
      replace hn := It.after hb hn
      replace hr := Nt.after hb hr
      replace B0 := step B0 hb
      clear hb
      try go_wp2_with fail
      refine hK.out _ _ ⟨V0.c0, V0.c1, V1.c0, V1.c1, Vg.cell⟩ (fun hHeld => ?_)
      clear hK K
      refine wpAnyH_take (i := 13) (v := ?_) rfl (by kernel_rfl) (by kernel_rfl) (by kernel_rfl) (fun _ _ _ h => h) (Or.inl ⟨by rfl, ?_⟩) hHeld ?_
      rotate_left
      · (intro W hSw; (try dsimp only at hSw); go_simp; all_goals (with_reducible rfl))
      simp only [List.getElem_toArray, List.getElem_cons_zero, List.getElem_cons_succ, Act.put, List.setIfInBounds_toArray, List.set_cons_zero, List.set_cons_succ]
      refine wpAnyH_take (i := 14) (v := ?_) rfl (by kernel_rfl) (by kernel_rfl) (by kernel_rfl) (fun _ _ _ h => h) (Or.inl ⟨by rfl, ?_⟩) hHeld ?_
      rotate_left
      · (intro W hSw; (try dsimp only at hSw); go_simp; all_goals (with_reducible rfl))
      simp only [List.getElem_toArray, List.getElem_cons_zero, List.getElem_cons_succ, Act.put, List.setIfInBounds_toArray, List.set_cons_zero, List.set_cons_succ]
      have c_V2 := V2.d0
      have f0_V2 := V2.frozen 0
      have d_V2 := V2.d1
      have f1_V2 := V2.frozen 1
      have e_V2 := V2.d2
      have f2_V2 := V2.frozen 2
      have l_V2 := V2.lt
      have m_V2 := Nat.le_of_lt l_V2
      refine wpAnyH_ready (rs := [15]) (by kernel_rfl) (by simp) ?_
      refine AllReadyH.cons rfl (fun K hK => ?_) AllReadyH.nil
      simp only [List.getElem_toArray, List.getElem_cons_zero, List.getElem_cons_succ]
      go_simp
      clear c_V2 f0_V2 d_V2 f1_V2 e_V2 f2_V2 l_V2 m_V2
      refine sto3 V2 (.bool s') (.slice a' l' c') (.slice b' m' d') (Q := fun W => K _ W) ?_
      intro x14 V' oth far
      replace V0 := oth _ _ _ (by first | omega | assumption | (simp; omega)) V0
      replace V1 := oth _ _ _ (by first | omega | assumption | (simp; omega)) V1
      replace Vg := oth _ _ _ (by first | omega | assumption | (simp; omega)) Vg
      replace hy := hy.far V2 (noInt3 _ _ _ _ _ _ _) far.1
      replace h2 := h2.far V2 (noInt3 _ _ _ _ _ _ _) far.1
      replace hg := hg.far V2 (noInt3 _ _ _ _ _ _ _) far.1
      replace hq := hq.far V2 (noInt3 _ _ _ _ _ _ _) far.1
      replace hn := hn.far V2 (noInt3 _ _ _ _ _ _ _) far.1
      replace hr := hr.far V2 (noInt3 _ _ _ _ _ _ _) far.1
      replace h' := h'.far V2 (noInt3 _ _ _ _ _ _ _) far.1
      replace B0 := far.2 _ _ (by first | omega | (simp; omega)) B0
      replace V2 := V'
      clear oth far
      refine hK.out _ _ ⟨V0.c0, V0.c1, V1.c0, V1.c1, Vg.cell⟩ (fun hHeld => ?_)
      clear hK K
      refine wpAnyH_take (i := 16) (v := ?_) rfl (by kernel_rfl) (by kernel_rfl) (by kernel_rfl) (fun _ _ _ h => h) (Or.inl ⟨by rfl, ?_⟩) hHeld ?_
      rotate_left
      · (intro W hSw; (try dsimp only at hSw); go_simp; all_goals (with_reducible rfl))
      simp only [List.getElem_toArray, List.getElem_cons_zero, List.getElem_cons_succ, Act.put, List.setIfInBounds_toArray, List.set_cons_zero, List.set_cons_succ]
      refine wpAnyH_done (by kernel_rfl) ?_ _
      refine NoPanic.normal ?_
      clear hHeld
      go_wp2_with fail
      refine bodyPost_ret (results_rt rfl rfl V2) rfl ?_
      exact ⟨er, s', a', l', c', zs', b', m', d', ds', v', rfl, h', hra, B0⟩
  ·
    have HNG : Hid (¬ iv t ys < 0) := hneg
    have B0 : Below w.heap.size w w := Below.refl _ _
    go_enter Tryz.func97, Tryz.ntmps97
    go_wp2_with fail
    refine ent3 w _ _ _ _ _ _ (Q := fun W => Calls Tryz.prog _ _ W _) ?_
    intro x1 hb hs_x1 V0 V1 V2
    replace hx := It.after hb hx
    replace hy := It.after hb hy
    replace B0 := step B0 hb
    clear hb hs_x1
    have es : Int.sign (iv t ys) = 1 := Int.sign_eq_one_of_pos (by omega)
    refine (wsign_any t b lb cb ys x1 hy).mono ?_
    rintro e x2 ⟨rfl, hb⟩
    replace V0 := Va.after hb V0
    replace V1 := Va.after hb V1
    replace V2 := Va.after hb V2
    replace hx := It.after hb hx
    replace hy := It.after hb hy
    replace B0 := step B0 hb
    clear hb
    rw [es]
    have c_V1 := V1.c0
    have f0_V1 := V1.frozen 0
    have d_V1 := V1.c1
    have f1_V1 := V1.frozen 1
    have l_V1 := V1.lt
    have m_V1 := Nat.le_of_lt l_V1
    go_wp2_with fail
    refine (wsign_any t b lb cb ys x2 hy).mono ?_
    rintro e x3 ⟨rfl, hb⟩
    replace V0 := Va.after hb V0
    replace V1 := Va.after hb V1
    replace V2 := Va.after hb V2
    replace hx := It.after hb hx
    replace hy := It.after hb hy
    replace B0 := step B0 hb
    clear hb
    rw [es]
    clear es
    clear c_V1 f0_V1 d_V1 f1_V1 l_V1 m_V1
    have c_V0 := V0.c0
    have f0_V0 := V0.frozen 0
    have d_V0 := V0.c1
    have f1_V0 := V0.frozen 1
    have l_V0 := V0.lt
    have m_V0 := Nat.le_of_lt l_V0
    have c_V1 := V1.c0
    have f0_V1 := V1.frozen 0
    have d_V1 := V1.c1
    have f1_V1 := V1.frozen 1
    have l_V1 := V1.lt
    have m_V1 := Nat.le_of_lt l_V1
    go_wp2_with fail
    have HX : Hid (iv s xs = if iv t ys < 0 then - iv s xs else iv s xs) := by show _ = _; rw [if_neg (by have := HNG.out; omega)]
    have H0 : Hid (iv t ys ≠ 0) := h0
    have HN : Hid (num ys ≠ 0) := by intro e; apply h0; have := hy.abs; omega
    clear h0 hneg HNG
    go_cut [6] (fun s6 wx => ∃ (b6 : Nat) (ag : Option Addr) (lg kg : Nat) (zg : List Int), s6 = .pointer (some ⟨b6, 0, none⟩) ∧ Hid (Va wx b6 62 #[.slice ag lg kg]) ∧ Hid (Va wx (w.heap.size) 64 #[.bool s, .slice a la ca]) ∧ Hid (Va wx (w.heap.size + 1) 64 #[.bool t, .slice b lb cb]) ∧ Hid (Va wx (w.heap.size + 1 + 1) 66 #[.bool false, .slice none 0 0, .slice none 0 0]) ∧ Hid (It wx s a la ca xs) ∧ Hid (It wx t b lb cb ys) ∧ Hid (Nt wx ag lg kg zg) ∧ Hid (num zg = (Int.gcd (num xs) (num ys) : Nat)) ∧ Hid (Below w.heap.size w wx) ∧ Hid (w.heap.size + 3 ≤ b6))
    case first =>
      clear c_V0 f0_V0 d_V0 f1_V0 l_V0 m_V0 c_V1 f0_V1 d_V1 f1_V1 l_V1 m_V1
      refine wp_region_noPanic ?_
      replace V0 : Va x3.drew _ _ _ := V0
      replace V1 : Va x3.drew _ _ _ := V1
      replace V2 : Va x3.drew _ _ _ := V2
      replace hx := hx.drw
      replace hy := hy.drw
      replace B0 := Below.drew B0
      refine wp_region_held_drew (S := (fun W => W.cell? ⟨w.heap.size, 0, none⟩ = some (.bool s) ∧ W.cell? ⟨w.heap.size, 1, none⟩ = some (.slice a la ca) ∧ W.cell? ⟨w.heap.size + 1, 0, none⟩ = some (.bool t) ∧ W.cell? ⟨w.heap.size + 1, 1, none⟩ = some (.slice b lb cb))) (by kernel_rfl) ⟨V0.c0, V0.c1, V1.c0, V1.c1⟩ (fun hHeld => ?_)
      obtain ⟨x4, hxd⟩ : ∃ xd, xd = x3.drew := ⟨_, rfl⟩
      rw [← hxd] at V0 V1 V2 hx hy B0 hHeld ⊢
      clear hxd
      refine wpAnyH_take (i := 0) (v := ?_) rfl (by kernel_rfl) (by kernel_rfl) (by kernel_rfl) (fun _ _ _ h => h) (Or.inl ⟨by rfl, ?_⟩) hHeld ?_
      rotate_left
      · (intro W hSw; (try dsimp only at hSw); go_simp; all_goals (with_reducible rfl))
      simp only [List.getElem_toArray, List.getElem_cons_zero, Act.put, List.setIfInBounds_toArray, List.set_cons_zero, List.set_cons_succ]
      refine wpAnyH_take (i := 2) (v := ?_) rfl (by kernel_rfl) (by kernel_rfl) (by kernel_rfl) (fun _ _ _ h => h) (Or.inl ⟨by rfl, ?_⟩) hHeld ?_
      rotate_left
      · (intro W hSw; (try dsimp only at hSw); go_simp; all_goals (with_reducible rfl))
      simp only [List.getElem_toArray, List.getElem_cons_zero, List.getElem_cons_succ, Act.put, List.setIfInBounds_toArray, List.set_cons_zero, List.set_cons_succ]
      refine wpAnyH_ready (rs := [1, 5]) (by kernel_rfl) (by simp) ?_
      refine AllReadyH.cons rfl (fun K hK => ?_) (AllReadyH.cons rfl (fun K hK => ?_) AllReadyH.nil)
      ·
        simp only [List.getElem_toArray, List.getElem_cons_zero, List.getElem_cons_succ]
        go_simp
        refine (wabs_any s a la ca _).mono ?_
        rintro e x5 ⟨rfl, hb⟩
        replace V0 := Va.after hb V0
        replace V1 := Va.after hb V1
        replace V2 := Va.after hb V2
        replace hx := It.after hb hx
        replace hy := It.after hb hy
        replace B0 := step B0 hb
        clear hb
        try go_wp2_with fail
        refine hK.out _ _ ⟨V0.c0, V0.c1, V1.c0, V1.c1⟩ (fun hHeld => ?_)
        clear hK K
        refine wpAnyH_ready (rs := [3, 5]) (by kernel_rfl) (by simp) ?_
        refine AllReadyH.cons rfl (fun K hK => ?_) (AllReadyH.cons rfl (fun K hK => ?_) AllReadyH.nil)
        ·
          simp only [List.getElem_toArray, List.getElem_cons_zero, List.getElem_cons_succ]
          go_simp
          refine (wabs_any t b lb cb _).mono ?_
          rintro e x6 ⟨rfl, hb⟩
          replace V0 := Va.after hb V0
          replace V1 := Va.after hb V1
          replace V2 := Va.after hb V2
          replace hx := It.after hb hx
          replace hy := It.after hb hy
          replace B0 := step B0 hb
          clear hb
          try go_wp2_with fail
          refine hK.out _ _ ⟨V0.c0, V0.c1, V1.c0, V1.c1⟩ (fun hHeld => ?_)
          clear hK K
          refine wpAnyH_ready (rs := [4, 5]) (by kernel_rfl) (by simp) ?_
          refine AllReadyH.cons rfl (fun K hK => ?_) (AllReadyH.cons rfl (fun K hK => ?_) AllReadyH.nil)
          ·
            simp only [List.getElem_toArray, List.getElem_cons_zero, List.getElem_cons_succ]
            go_simp
            refine (ngcd_any a b la ca lb cb xs ys _ hx.1 hy.1).mono ?_
            rintro e x7 ⟨ag, lg, kg, zg, rfl, hg, eg, hb⟩
            replace V0 := Va.after hb V0
            replace V1 := Va.after hb V1
            replace V2 := Va.after hb V2
            replace hx := It.after hb hx
            replace hy := It.after hb hy
            replace B0 := step B0 hb
            clear hb
            try go_wp2_with fail
            refine hK.out _ _ ⟨V0.c0, V0.c1, V1.c0, V1.c1⟩ (fun hHeld => ?_)
            clear hK K
            refine wpAnyH_ready (rs := [5]) (by kernel_rfl) (by simp) ?_
            refine AllReadyH.cons rfl (fun K hK => ?_) AllReadyH.nil
            ·
              simp only [List.getElem_toArray, List.getElem_cons_zero, List.getElem_cons_succ]
              go_simp
              have lt_Vg_V0 := V0.lt
              have lt_Vg_V1 := V1.lt
              have lt_Vg_V2 := V2.lt
              have sz_Vg := B0.size
              refine ent1 _ _ _ (Q := fun V => K _ V) ?_
              intro x8 hb hs_ Vg
              replace V0 := Va.after hb V0
              replace V1 := Va.after hb V1
              replace V2 := Va.after hb V2
              replace hx := It.after hb hx
              replace hy := It.after hb hy
              replace hg := Nt.after hb hg
              replace B0 := step B0 hb
              clear hb hs_
              refine hK.out _ _ ⟨V0.c0, V0.c1, V1.c0, V1.c1⟩ (fun hHeld => ?_)
              clear hK K
              have c_Vg := Vg.cell
              have f0_Vg := Vg.frozen 0
              have l_Vg := Vg.lt
              have m_Vg := Nat.le_of_lt l_Vg
              refine wpAnyH_ready (rs := [6]) (by kernel_rfl) (by simp) ?_
              refine AllReadyH.cons rfl (fun K hK => ?_) AllReadyH.nil
              simp only [List.getElem_toArray, List.getElem_cons_zero, List.getElem_cons_succ]
              go_simp
              clear c_Vg f0_Vg l_Vg m_Vg
              refine sto1 Vg (.slice ag lg kg) (Q := fun W => K _ W) ?_
              intro x9 V' oth far
              replace V0 := oth _ _ _ (by first | omega | assumption | (simp; omega)) V0
              replace V1 := oth _ _ _ (by first | omega | assumption | (simp; omega)) V1
              replace V2 := oth _ _ _ (by first | omega | assumption | (simp; omega)) V2
              replace hx := hx.far Vg (noInt1 _ _ _) far.1
              replace hy := hy.far Vg (noInt1 _ _ _) far.1
              replace hg := hg.far Vg (noInt1 _ _ _) far.1
              replace B0 := far.2 _ _ (by first | omega | (simp; omega)) B0
              replace Vg := V'
              clear oth far
              refine hK.out _ _ ⟨V0.c0, V0.c1, V1.c0, V1.c1⟩ (fun hHeld => ?_)
              clear hK K
              refine wpAnyH_done (by kernel_rfl) ?_ _
              refine NoPanic.normal ?_
              clear hHeld
              go_wp2_with fail
              go_meet
              exact ⟨_, ag, lg, kg, zg, rfl, Vg, V0, V1, V2, hx, hy, hg, eg, B0, by show _ ≤ _; omega⟩
          ·
            simp only [List.getElem_toArray, List.getElem_cons_zero, List.getElem_cons_succ]
            go_simp
            have lt_Vg_V0 := V0.lt
            have lt_Vg_V1 := V1.lt
            have lt_Vg_V2 := V2.lt
            have sz_Vg := B0.size
            refine ent1 _ _ _ (Q := fun V => K _ V) ?_
            intro x7 hb hs_ Vg
            replace V0 := Va.after hb V0
            replace V1 := Va.after hb V1
            replace V2 := Va.after hb V2
            replace hx := It.after hb hx
            replace hy := It.after hb hy
            replace B0 := step B0 hb
            clear hb hs_
            refine hK.out _ _ ⟨V0.c0, V0.c1, V1.c0, V1.c1⟩ (fun hHeld => ?_)
            clear hK K
            refine wpAnyH_ready (rs := [4]) (by kernel_rfl) (by simp) ?_
            refine AllReadyH.cons rfl (fun K hK => ?_) AllReadyH.nil
            ·
              simp only [List.getElem_toArray, List.getElem_cons_zero, List.getElem_cons_succ]
              go_simp
              refine (ngcd_any a b la ca lb cb xs ys _ hx.1 hy.1).mono ?_
              rintro e x8 ⟨ag, lg, kg, zg, rfl, hg, eg, hb⟩
              replace V0 := Va.after hb V0
              replace V1 := Va.after hb V1
              replace V2 := Va.after hb V2
              replace Vg := Va.after hb Vg
              replace hx := It.after hb hx
              replace hy := It.after hb hy
              replace B0 := step B0 hb
              clear hb
              try go_wp2_with fail
              refine hK.out _ _ ⟨V0.c0, V0.c1, V1.c0, V1.c1⟩ (fun hHeld => ?_)
              clear hK K
              have c_Vg := Vg.cell
              have f0_Vg := Vg.frozen 0
              have l_Vg := Vg.lt
              have m_Vg := Nat.le_of_lt l_Vg
              refine wpAnyH_ready (rs := [6]) (by kernel_rfl) (by simp) ?_
              refine AllReadyH.cons rfl (fun K hK => ?_) AllReadyH.nil
              simp only [List.getElem_toArray, List.getElem_cons_zero, List.getElem_cons_succ]
              go_simp
              clear c_Vg f0_Vg l_Vg m_Vg
              refine sto1 Vg (.slice ag lg kg) (Q := fun W => K _ W) ?_
              intro x9 V' oth far
              replace V0 := oth _ _ _ (by first | omega | assumption | (simp; omega)) V0
              replace V1 := oth _ _ _ (by first | omega | assumption | (simp; omega)) V1
              replace V2 := oth _ _ _ (by first | omega | assumption | (simp; omega)) V2
              replace hx := hx.far Vg (noInt1 _ _ _) far.1
              replace hy := hy.far Vg (noInt1 _ _ _) far.1
              replace hg := hg.far Vg (noInt1 _ _ _) far.1
              replace B0 := far.2 _ _ (by first | omega | (simp; omega)) B0
              replace Vg := V'
              clear oth far
              refine hK.out _ _ ⟨V0.c0, V0.c1, V1.c0, V1.c1⟩ (fun hHeld => ?_)
              clear hK K
              refine wpAnyH_done (by kernel_rfl) ?_ _
              refine NoPanic.normal ?_
              clear hHeld
              go_wp2_with fail
              go_meet
              exact ⟨_, ag, lg, kg, zg, rfl, Vg, V0, V1, V2, hx, hy, hg, eg, B0, by show _ ≤ _; omega⟩
        ·
          simp only [List.getElem_toArray, List.getElem_cons_zero, List.getElem_cons_succ]
          go_simp
          have lt_Vg_V0 := V0.lt
          have lt_Vg_V1 := V1.lt
          have lt_Vg_V2 := V2.lt
          have sz_Vg := B0.size
          refine ent1 _ _ _ (Q := fun V => K _ V) ?_
          intro x6 hb hs_ Vg
          replace V0 := Va.after hb V0
          replace V1 := Va.after hb V1
          replace V2 := Va.after hb V2
          replace hx := It.after hb hx
          replace hy := It.after hb hy
          replace B0 := step B0 hb
          clear hb hs_
          refine hK.out _ _ ⟨V0.c0, V0.c1, V1.c0, V1.c1⟩ (fun hHeld => ?_)
          clear hK K
          refine wpAnyH_ready (rs := [3]) (by kernel_rfl) (by simp) ?_
          refine AllReadyH.cons rfl (fun K hK => ?_) AllReadyH.nil
          ·
            simp only [List.getElem_toArray, List.getElem_cons_zero, List.getElem_cons_succ]
            go_simp
            refine (wabs_any t b lb cb _).mono ?_
            rintro e x7 ⟨rfl, hb⟩
            replace V0 := Va.after hb V0
            replace V1 := Va.after hb V1
            replace V2 := Va.after hb V2
            replace Vg := Va.after hb Vg
            replace hx := It.after hb hx
            replace hy := It.after hb hy
            replace B0 := step B0 hb
            clear hb
            try go_wp2_with fail
            refine hK.out _ _ ⟨V0.c0, V0.c1, V1.c0, V1.c1⟩ (fun hHeld => ?_)
            clear hK K
            refine wpAnyH_ready (rs := [4]) (by kernel_rfl) (by simp) ?_
            refine AllReadyH.cons rfl (fun K hK => ?_) AllReadyH.nil
            ·
              simp only [List.getElem_toArray, List.getElem_cons_zero, List.getElem_cons_succ]
              go_simp
              refine (ngcd_any a b la ca lb cb xs ys _ hx.1 hy.1).mono ?_
              rintro e x8 ⟨ag, lg, kg, zg, rfl, hg, eg, hb⟩
              replace V0 := Va.after hb V0
              replace V1 := Va.after hb V1
              replace V2 := Va.after hb V2
              replace Vg := Va.after hb Vg
              replace hx := It.after hb hx
              replace hy := It.after hb hy
              replace B0 := step B0 hb
              clear hb
              try go_wp2_with fail
              refine hK.out _ _ ⟨V0.c0, V0.c1, V1.c0, V1.c1⟩ (fun hHeld => ?_)
              clear hK K
              have c_Vg := Vg.cell
              have f0_Vg := Vg.frozen 0
              have l_Vg := Vg.lt
              have m_Vg := Nat.le_of_lt l_Vg
              refine wpAnyH_ready (rs := [6]) (by kernel_rfl) (by simp) ?_
              refine AllReadyH.cons rfl (fun K hK => ?_) AllReadyH.nil
              simp only [List.getElem_toArray, List.getElem_cons_zero, List.getElem_cons_succ]
              go_simp
              clear c_Vg f0_Vg l_Vg m_Vg
              refine sto1 Vg (.slice ag lg kg) (Q := fun W => K _ W) ?_
              intro x9 V' oth far
              replace V0 := oth _ _ _ (by first | omega | assumption | (simp; omega)) V0
              replace V1 := oth _ _ _ (by first | omega | assumption | (simp; omega)) V1
              replace V2 := oth _ _ _ (by first | omega | assumption | (simp; omega)) V2
              replace hx := hx.far Vg (noInt1 _ _ _) far.1
              replace hy := hy.far Vg (noInt1 _ _ _) far.1
              replace hg := hg.far Vg (noInt1 _ _ _) far.1
              replace B0 := far.2 _ _ (by first | omega | (simp; omega)) B0
              replace Vg := V'
              clear oth far
              refine hK.out _ _ ⟨V0.c0, V0.c1, V1.c0, V1.c1⟩ (fun hHeld => ?_)
              clear hK K
              refine wpAnyH_done (by kernel_rfl) ?_ _
              refine NoPanic.normal ?_
              clear hHeld
              go_wp2_with fail
              go_meet
              exact ⟨_, ag, lg, kg, zg, rfl, Vg, V0, V1, V2, hx, hy, hg, eg, B0, by show _ ≤ _; omega⟩
      ·
        simp only [List.getElem_toArray, List.getElem_cons_zero, List.getElem_cons_succ]
        go_simp
        have lt_Vg_V0 := V0.lt
        have lt_Vg_V1 := V1.lt
        have lt_Vg_V2 := V2.lt
        have sz_Vg := B0.size
        refine ent1 _ _ _ (Q := fun V => K _ V) ?_
        intro x5 hb hs_ Vg
        replace V0 := Va.after hb V0
        replace V1 := Va.after hb V1
        replace V2 := Va.after hb V2
        replace hx := It.after hb hx
        replace hy := It.after hb hy
        replace B0 := step B0 hb
        clear hb hs_
        refine hK.out _ _ ⟨V0.c0, V0.c1, V1.c0, V1.c1⟩ (fun hHeld => ?_)
        clear hK K
        refine wpAnyH_ready (rs := [1]) (by kernel_rfl) (by simp) ?_
        refine AllReadyH.cons rfl (fun K hK => ?_) AllReadyH.nil
        ·
          simp only [List.getElem_toArray, List.getElem_cons_zero, List.getElem_cons_succ]
          go_simp
          refine (wabs_any s a la ca _).mono ?_
          rintro e x6 ⟨rfl, hb⟩
          replace V0 := Va.after hb V0
          replace V1 := Va.after hb V1
          replace V2 := Va.after hb V2
          replace Vg := Va.after hb Vg
          replace hx := It.after hb hx
          replace hy := It.after hb hy
          replace B0 := step B0 hb
          clear hb
          try go_wp2_with fail
          refine hK.out _ _ ⟨V0.c0, V0.c1, V1.c0, V1.c1⟩ (fun hHeld => ?_)
          clear hK K
          refine wpAnyH_ready (rs := [3]) (by kernel_rfl) (by simp) ?_
          refine AllReadyH.cons rfl (fun K hK => ?_) AllReadyH.nil
          ·
            simp only [List.getElem_toArray, List.getElem_cons_zero, List.getElem_cons_succ]
            go_simp
            refine (wabs_any t b lb cb _).mono ?_
            rintro e x7 ⟨rfl, hb⟩
            replace V0 := Va.after hb V0
            replace V1 := Va.after hb V1
            replace V2 := Va.after hb V2
            replace Vg := Va.after hb Vg
            replace hx := It.after hb hx
            replace hy := It.after hb hy
            replace B0 := step B0 hb
            clear hb
            try go_wp2_with fail
            refine hK.out _ _ ⟨V0.c0, V0.c1, V1.c0, V1.c1⟩ (fun hHeld => ?_)
            clear hK K
            refine wpAnyH_ready (rs := [4]) (by kernel_rfl) (by simp) ?_
            refine AllReadyH.cons rfl (fun K hK => ?_) AllReadyH.nil
            ·
              simp only [List.getElem_toArray, List.getElem_cons_zero, List.getElem_cons_succ]
              go_simp
              refine (ngcd_any a b la ca lb cb xs ys _ hx.1 hy.1).mono ?_
              rintro e x8 ⟨ag, lg, kg, zg, rfl, hg, eg, hb⟩
              replace V0 := Va.after hb V0
              replace V1 := Va.after hb V1
              replace V2 := Va.after hb V2
              replace Vg := Va.after hb Vg
              replace hx := It.after hb hx
              replace hy := It.after hb hy
              replace B0 := step B0 hb
              clear hb
              try go_wp2_with fail
              refine hK.out _ _ ⟨V0.c0, V0.c1, V1.c0, V1.c1⟩ (fun hHeld => ?_)
              clear hK K
              have c_Vg := Vg.cell
              have f0_Vg := Vg.frozen 0
              have l_Vg := Vg.lt
              have m_Vg := Nat.le_of_lt l_Vg
              refine wpAnyH_ready (rs := [6]) (by kernel_rfl) (by simp) ?_
              refine AllReadyH.cons rfl (fun K hK => ?_) AllReadyH.nil
              simp only [List.getElem_toArray, List.getElem_cons_zero, List.getElem_cons_succ]
              go_simp
              clear c_Vg f0_Vg l_Vg m_Vg
              refine sto1 Vg (.slice ag lg kg) (Q := fun W => K _ W) ?_
              intro x9 V' oth far
              replace V0 := oth _ _ _ (by first | omega | assumption | (simp; omega)) V0
              replace V1 := oth _ _ _ (by first | omega | assumption | (simp; omega)) V1
              replace V2 := oth _ _ _ (by first | omega | assumption | (simp; omega)) V2
              replace hx := hx.far Vg (noInt1 _ _ _) far.1
              replace hy := hy.far Vg (noInt1 _ _ _) far.1
              replace hg := hg.far Vg (noInt1 _ _ _) far.1
              replace B0 := far.2 _ _ (by first | omega | (simp; omega)) B0
              replace Vg := V'
              clear oth far
              refine hK.out _ _ ⟨V0.c0, V0.c1, V1.c0, V1.c1⟩ (fun hHeld => ?_)
              clear hK K
              refine wpAnyH_done (by kernel_rfl) ?_ _
              refine NoPanic.normal ?_
              clear hHeld
              go_wp2_with fail
              go_meet
              exact ⟨_, ag, lg, kg, zg, rfl, Vg, V0, V1, V2, hx, hy, hg, eg, B0, by show _ ≤ _; omega⟩
    case rest =>
      clear c_V0 f0_V0 d_V0 f1_V0 l_V0 m_V0 c_V1 f0_V1 d_V1 f1_V1 l_V1 m_V1
      clear V0 V1 V2 hx hy B0
      obtain ⟨b6, ag, lg, kg, zg, rfl, Vg', V0', V1', V2', hx', hy', hg', EG', B0', hineq'⟩ := hcut
      have Vg := Vg'.out
      have V0 := V0'.out
      have V1 := V1'.out
      have V2 := V2'.out
      have hx := hx'.out
      have hy := hy'.out
      have hg := hg'.out
      have EG := EG'.out
      have B0 := B0'.out
      have hineq := hineq'.out
      clear Vg' V0' V1' V2' hx' hy' hg' EG' B0' hineq'
      have iq0 := hineq
      clear hineq
      go_wp2_with fail
      have HG : Hid (num zg ≠ 0 ∧ num zg ∣ num xs ∧ num zg ∣ num ys) := by
        refine ⟨?_, ?_, ?_⟩
        · rw [EG]; exact gcd_ne HN.out
        · rw [EG]; exact Int.gcd_dvd_left ..
        · rw [EG]; exact Int.gcd_dvd_right ..
      have HE : Hid (num zg = (Int.gcd (num xs) (num ys) : Nat)) := EG
      clear EG
      refine wp_region_noPanic ?_
      replace V0 : Va wc.drew _ _ _ := V0
      replace V1 : Va wc.drew _ _ _ := V1
      replace V2 : Va wc.drew _ _ _ := V2
      replace Vg : Va wc.drew _ _ _ := Vg
      replace hx := hx.drw
      replace hy := hy.drw
      replace hg := hg.drw
      replace B0 := Below.drew B0
      refine wp_region_held_drew (S := (fun W => W.cell? ⟨w.heap.size, 0, none⟩ = some (.bool s) ∧ W.cell? ⟨w.heap.size, 1, none⟩ = some (.slice a la ca) ∧ W.cell? ⟨w.heap.size + 1, 0, none⟩ = some (.bool t) ∧ W.cell? ⟨w.heap.size + 1, 1, none⟩ = some (.slice b lb cb) ∧ W.cell? ⟨b6, 0, none⟩ = some (.slice ag lg kg))) (by kernel_rfl) ⟨V0.c0, V0.c1, V1.c0, V1.c1, Vg.cell⟩ (fun hHeld => ?_)
      obtain ⟨x4, hxd⟩ : ∃ xd, xd = wc.drew := ⟨_, rfl⟩
      rw [← hxd] at V0 V1 V2 Vg hx hy hg B0 hHeld ⊢
      clear hxd
      refine wpAnyH_take (i := 0) (v := ?_) rfl (by kernel_rfl) (by kernel_rfl) (by kernel_rfl) (fun _ _ _ h => h) (Or.inl ⟨by rfl, ?_⟩) hHeld ?_
      rotate_left
      · (intro W hSw; (try dsimp only at hSw); go_simp; all_goals (with_reducible rfl))
      simp only [List.getElem_toArray, List.getElem_cons_zero, Act.put, List.setIfInBounds_toArray, List.set_cons_zero, List.set_cons_succ]
      refine wpAnyH_take (i := 3) (v := ?_) rfl (by kernel_rfl) (by kernel_rfl) (by kernel_rfl) (fun _ _ _ h => h) (Or.inl ⟨by rfl, ?_⟩) hHeld ?_
      rotate_left
      · (intro W hSw; (try dsimp only at hSw); go_simp; all_goals (with_reducible rfl))
      simp only [List.getElem_toArray, List.getElem_cons_zero, List.getElem_cons_succ, Act.put, List.setIfInBounds_toArray, List.set_cons_zero, List.set_cons_succ]
      refine wpAnyH_take (i := 5) (v := ?_) rfl (by kernel_rfl) (by kernel_rfl) (by kernel_rfl) (fun _ _ _ h => h) (Or.inl ⟨by rfl, ?_⟩) hHeld ?_
      rotate_left
      · (intro W hSw; (try dsimp only at hSw); go_simp; all_goals (with_reducible rfl))
      simp only [List.getElem_toArray, List.getElem_cons_zero, List.getElem_cons_succ, Act.put, List.setIfInBounds_toArray, List.set_cons_zero, List.set_cons_succ]
      refine wpAnyH_take (i := 8) (v := ?_) rfl (by kernel_rfl) (by kernel_rfl) (by kernel_rfl) (fun _ _ _ h => h) (Or.inl ⟨by rfl, ?_⟩) hHeld ?_
      rotate_left
      · (intro W hSw; (try dsimp only at hSw); go_simp; all_goals (with_reducible rfl))
      simp only [List.getElem_toArray, List.getElem_cons_zero, List.getElem_cons_succ, Act.put, List.setIfInBounds_toArray, List.set_cons_zero, List.set_cons_succ]
      refine wpAnyH_take (i := 10) (v := ?_) rfl (by kernel_rfl) (by kernel_rfl) (by kernel_rfl) (fun _ _ _ h => h) (Or.inl ⟨by rfl, ?_⟩) hHeld ?_
      rotate_left
      · (intro W hSw; (try dsimp only at hSw); go_simp; all_goals (with_reducible rfl))
      simp only [List.getElem_toArray, List.getElem_cons_zero, List.getElem_cons_succ, Act.put, List.setIfInBounds_toArray, List.set_cons_zero, List.set_cons_succ]
      refine wpAnyH_ready (rs := [1]) (by kernel_rfl) (by simp) ?_
      refine AllReadyH.cons rfl (fun K hK => ?_) AllReadyH.nil
      simp only [List.getElem_toArray, List.getElem_cons_zero, List.getElem_cons_succ]
      go_simp
      refine (wsign_any s a la ca xs _ hx).mono ?_
      rintro e x5 ⟨rfl, hb⟩
      replace V0 := Va.after hb V0
      replace V1 := Va.after hb V1
      replace V2 := Va.after hb V2
      replace Vg := Va.after hb Vg
      replace hx := It.after hb hx
      replace hy := It.after hb hy
      replace hg := Nt.after hb hg
      replace B0 := step B0 hb
      clear hb
      obtain ⟨sg, hsg⟩ : ∃ sg, Int.sign (iv s xs) = sg := ⟨_, rfl⟩
      have HS : Hid (Int.sign (iv s xs) = sg) := hsg
      rw [hsg]
      clear hsg
      try go_wp2_with fail
      refine hK.out _ _ ⟨V0.c0, V0.c1, V1.c0, V1.c1, Vg.cell⟩ (fun hHeld => ?_)
      clear hK K
      refine wpAnyH_take (i := 2) (v := ?_) rfl (by kernel_rfl) (by kernel_rfl) (by kernel_rfl) (fun _ _ _ h => h) (Or.inl ⟨by rfl, ?_⟩) hHeld ?_
      rotate_left
      · (intro W hSw; (try dsimp only at hSw); go_simp; all_goals (with_reducible rfl))
      simp only [List.getElem_toArray, List.getElem_cons_zero, List.getElem_cons_succ, Act.put, List.setIfInBounds_toArray, List.set_cons_zero, List.set_cons_succ]
      refine wpAnyH_ready (rs := [4]) (by kernel_rfl) (by simp) ?_
      refine AllReadyH.cons rfl (fun K hK => ?_) AllReadyH.nil
      simp only [List.getElem_toArray, List.getElem_cons_zero, List.getElem_cons_succ]
      go_simp
      refine (wabs_any s a la ca _).mono ?_
      rintro e x6 ⟨rfl, hb⟩
      replace V0 := Va.after hb V0
      replace V1 := Va.after hb V1
      replace V2 := Va.after hb V2
      replace Vg := Va.after hb Vg
      replace hx := It.after hb hx
      replace hy := It.after hb hy
      replace hg := Nt.after hb hg
      replace B0 := step B0 hb
      clear hb
      try go_wp2_with fail
      refine hK.out _ _ ⟨V0.c0, V0.c1, V1.c0, V1.c1, Vg.cell⟩ (fun hHeld => ?_)
      clear hK K
      refine wpAnyH_ready (rs := [6]) (by kernel_rfl) (by simp) ?_
      refine AllReadyH.cons rfl (fun K hK => ?_) AllReadyH.nil
      simp only [List.getElem_toArray, List.getElem_cons_zero, List.getElem_cons_succ]
      go_simp
      refine (rover_ok a ag la ca lg kg xs zg _ hx.1 hg HG.out.1 HG.out.2.1).mono ?_
      rintro e x7 ⟨aq, lq, kq, zq, rfl, hq, eq, hb⟩
      replace V0 := Va.after hb V0
      replace V1 := Va.after hb V1
      replace V2 := Va.after hb V2
      replace Vg := Va.after hb Vg
      replace hx := It.after hb hx
      replace hy := It.after hb hy
      replace hg := Nt.after hb hg
      replace B0 := step B0 hb
      clear hb
      have EQ : Hid (num zq * num zg = num xs) := eq
      clear eq
      try go_wp2_with fail
      refine hK.out _ _ ⟨V0.c0, V0.c1, V1.c0, V1.c1, Vg.cell⟩ (fun hHeld => ?_)
      clear hK K
      refine wpAnyH_ready (rs := [7]) (by kernel_rfl) (by simp) ?_
      refine AllReadyH.cons rfl (fun K hK => ?_) AllReadyH.nil
      simp only [List.getElem_toArray, List.getElem_cons_zero, List.getElem_cons_succ]
      go_simp
      refine (wnew_any (decide (sg < 0)) aq lq kq zq _ hq).mono ?_
      rintro e x8 ⟨sn, rfl, hn, en, hb⟩
      replace V0 := Va.after hb V0
      replace V1 := Va.after hb V1
      replace V2 := Va.after hb V2
      replace Vg := Va.after hb Vg
      replace hx := It.after hb hx
      replace hy := It.after hb hy
      replace hg := Nt.after hb hg
      replace hq := Nt.after hb hq
      replace B0 := step B0 hb
      clear hb
      have EN : Hid (iv sn zq = iv (decide (sg < 0)) zq) := en
      clear en
      try go_wp2_with fail
      refine hK.out _ _ ⟨V0.c0, V0.c1, V1.c0, V1.c1, Vg.cell⟩ (fun hHeld => ?_)
      clear hK K
      refine wpAnyH_ready (rs := [9]) (by kernel_rfl) (by simp) ?_
      refine AllReadyH.cons rfl (fun K hK => ?_) AllReadyH.nil
      simp only [List.getElem_toArray, List.getElem_cons_zero, List.getElem_cons_succ]
      go_simp
      refine (wabs_any t b lb cb _).mono ?_
      rintro e x9 ⟨rfl, hb⟩
      replace V0 := Va.after hb V0
      replace V1 := Va.after hb V1
      replace V2 := Va.after hb V2
      replace Vg := Va.after hb Vg
      replace hx := It.after hb hx
      replace hy := It.after hb hy
      replace hg := Nt.after hb hg
      replace hq := Nt.after hb hq
      replace hn := It.after hb hn
      replace B0 := step B0 hb
      clear hb
      try go_wp2_with fail
      refine hK.out _ _ ⟨V0.c0, V0.c1, V1.c0, V1.c1, Vg.cell⟩ (fun hHeld => ?_)
      clear hK K
      refine wpAnyH_ready (rs := [11]) (by kernel_rfl) (by simp) ?_
      refine AllReadyH.cons rfl (fun K hK => ?_) AllReadyH.nil
      simp only [List.getElem_toArray, List.getElem_cons_zero, List.getElem_cons_succ]
      go_simp
      refine (rover_ok b ag lb cb lg kg ys zg _ hy.1 hg HG.out.1 HG.out.2.2).mono ?_
      rintro e x10 ⟨ar, lr, kr, zr, rfl, hr, er, hb⟩
      replace V0 := Va.after hb V0
      replace V1 := Va.after hb V1
      replace V2 := Va.after hb V2
      replace Vg := Va.after hb Vg
      replace hx := It.after hb hx
      replace hy := It.after hb hy
      replace hg := Nt.after hb hg
      replace hq := Nt.after hb hq
      replace hn := It.after hb hn
      replace B0 := step B0 hb
      clear hb
      have ER : Hid (num zr * num zg = num ys) := er
      clear er
      have HP : Hid (iv sn zq = (Rat.divInt (iv s xs) (iv t ys)).num ∧ dn zr = (Rat.divInt (iv s xs) (iv t ys)).den) := by
        rw [EN.out]; exact new_parts H0.out HX.out hx.abs hy.abs HE.out EQ.out ER.out hq.nonneg hr.nonneg (by rw [HS.out])
      clear EN ER EQ HE HS
      try go_wp2_with fail
      refine hK.out _ _ ⟨V0.c0, V0.c1, V1.c0, V1.c1, Vg.cell⟩ (fun hHeld => ?_)
      clear hK K
      refine wpAnyH_ready (rs := [12]) (by kernel_rfl) (by simp) ?_
      refine AllReadyH.cons rfl (fun K hK => ?_) AllReadyH.nil
      simp only [List.getElem_toArray, List.getElem_cons_zero, List.getElem_cons_succ]
      go_simp
      refine (rmade_any sn aq lq kq zq ar lr kr zr _ _ hn hr HP.out.1 HP.out.2).mono ?_
      rintro e x11 ⟨er, s', a', l', c', zs', b', m', d', ds', v', rfl, h', hra, hb⟩
      replace V0 := Va.after hb V0
      replace V1 := Va.after hb V1
      replace V2 := Va.after hb V2
      replace Vg := Va.after hb Vg
      replace hx := It.after hb hx
      replace hy := It.after hb hy
      replace hg := Nt.after hb hg
      replace hq := Nt.after hb hq
      replace hn := It.after hb hn
      replace hr := Nt.after hb hr
      replace B0 := step B0 hb
      clear hb
      try go_wp2_with fail
      refine hK.out _ _ ⟨V0.c0, V0.c1, V1.c0, V1.c1, Vg.cell⟩ (fun hHeld => ?_)
      clear hK K
      refine wpAnyH_take (i := 13) (v := ?_) rfl (by kernel_rfl) (by kernel_rfl) (by kernel_rfl) (fun _ _ _ h => h) (Or.inl ⟨by rfl, ?_⟩) hHeld ?_
      rotate_left
      · (intro W hSw; (try dsimp only at hSw); go_simp; all_goals (with_reducible rfl))
      simp only [List.getElem_toArray, List.getElem_cons_zero, List.getElem_cons_succ, Act.put, List.setIfInBounds_toArray, List.set_cons_zero, List.set_cons_succ]
      refine wpAnyH_take (i := 14) (v := ?_) rfl (by kernel_rfl) (by kernel_rfl) (by kernel_rfl) (fun _ _ _ h => h) (Or.inl ⟨by rfl, ?_⟩) hHeld ?_
      rotate_left
      · (intro W hSw; (try dsimp only at hSw); go_simp; all_goals (with_reducible rfl))
      simp only [List.getElem_toArray, List.getElem_cons_zero, List.getElem_cons_succ, Act.put, List.setIfInBounds_toArray, List.set_cons_zero, List.set_cons_succ]
      have c_V2 := V2.d0
      have f0_V2 := V2.frozen 0
      have d_V2 := V2.d1
      have f1_V2 := V2.frozen 1
      have e_V2 := V2.d2
      have f2_V2 := V2.frozen 2
      have l_V2 := V2.lt
      have m_V2 := Nat.le_of_lt l_V2
      refine wpAnyH_ready (rs := [15]) (by kernel_rfl) (by simp) ?_
      refine AllReadyH.cons rfl (fun K hK => ?_) AllReadyH.nil
      simp only [List.getElem_toArray, List.getElem_cons_zero, List.getElem_cons_succ]
      go_simp
      clear c_V2 f0_V2 d_V2 f1_V2 e_V2 f2_V2 l_V2 m_V2
      refine sto3 V2 (.bool s') (.slice a' l' c') (.slice b' m' d') (Q := fun W => K _ W) ?_
      intro x12 V' oth far
      replace V0 := oth _ _ _ (by first | omega | assumption | (simp; omega)) V0
      replace V1 := oth _ _ _ (by first | omega | assumption | (simp; omega)) V1
      replace Vg := oth _ _ _ (by first | omega | assumption | (simp; omega)) Vg
      replace hx := hx.far V2 (noInt3 _ _ _ _ _ _ _) far.1
      replace hy := hy.far V2 (noInt3 _ _ _ _ _ _ _) far.1
      replace hg := hg.far V2 (noInt3 _ _ _ _ _ _ _) far.1
      replace hq := hq.far V2 (noInt3 _ _ _ _ _ _ _) far.1
      replace hn := hn.far V2 (noInt3 _ _ _ _ _ _ _) far.1
      replace hr := hr.far V2 (noInt3 _ _ _ _ _ _ _) far.1
      replace h' := h'.far V2 (noInt3 _ _ _ _ _ _ _) far.1
      replace B0 := far.2 _ _ (by first | omega | (simp; omega)) B0
      replace V2 := V'
      clear oth far
      refine hK.out _ _ ⟨V0.c0, V0.c1, V1.c0, V1.c1, Vg.cell⟩ (fun hHeld => ?_)
      clear hK K
      refine wpAnyH_take (i := 16) (v := ?_) rfl (by kernel_rfl) (by kernel_rfl) (by kernel_rfl) (fun _ _ _ h => h) (Or.inl ⟨by rfl, ?_⟩) hHeld ?_
      rotate_left
      · (intro W hSw; (try dsimp only at hSw); go_simp; all_goals (with_reducible rfl))
      simp only [List.getElem_toArray, List.getElem_cons_zero, List.getElem_cons_succ, Act.put, List.setIfInBounds_toArray, List.set_cons_zero, List.set_cons_succ]
      refine wpAnyH_done (by kernel_rfl) ?_ _
      refine NoPanic.normal ?_
      clear hHeld
      go_wp2_with fail
      refine bodyPost_ret (results_rt rfl rfl V2) rfl ?_
      exact ⟨er, s', a', l', c', zs', b', m', d', ds', v', rfl, h', hra, B0⟩

theorem qsmall_ok (x y : Int) (h1 : -9223372036854775808 ≤ x) (h2 : x ≤ 9223372036854775807) (h3 : -9223372036854775808 ≤ y) (h4 : y ≤ 9223372036854775807) (h0 : y ≠ 0) (w : World) :
    Calls Tryz.prog 80 #[.int .i64 x, .int .i64 y] w fun e w' => ∃ er s' a' l' c' zs' b' m' d' ds' v', e = .returned (.tuple #[.agg #[.bool s', .slice a' l' c', .slice b' m' d'], .int .i64 er]) ∧ Rt w' s' a' l' c' zs' b' m' d' ds' v' ∧ Hid (RA (Rat.divInt x y) er v') ∧ Below w.heap.size w w' := by
  have B0 : Below w.heap.size w w := Below.refl _ _
  go_enter Tryz.func80, Tryz.ntmps80
  go_wp2_with fail
  refine ent1 w _ _ (Q := fun W => Calls Tryz.prog _ _ W _) ?_
  intro x1 hb hs_x1 V2
  replace B0 := step B0 hb
  clear hb hs_x1
  refine (wsmall_any x h1 h2 x1).mono ?_
  rintro e x2 ⟨s, a, l, c, zs, rfl, hx, ex, hb⟩
  replace V2 := Va.after hb V2
  replace B0 := step B0 hb
  clear hb
  go_wp2_with fail
  refine (wsmall_any y h3 h4 x2).mono ?_
  rintro e x3 ⟨t, b, m, d, ys, rfl, hy, ey, hb⟩
  replace V2 := Va.after hb V2
  replace hx := It.after hb hx
  replace B0 := step B0 hb
  clear hb
  go_wp2_with fail
  refine (qnew_ok s t a b l c m d zs ys x3 hx hy (by rw [ey]; exact h0)).mono ?_
  rintro e x4 ⟨er, s', a', l', c', zs', b', m', d', ds', v', rfl, h', hra, hb⟩
  replace V2 := Va.after hb V2
  replace hx := It.after hb hx
  replace hy := It.after hb hy
  replace B0 := step B0 hb
  clear hb
  rw [ex, ey] at hra
  clear ex ey h0 h1 h2 h3 h4
  have c_V2 := V2.d0
  have f0_V2 := V2.frozen 0
  have d_V2 := V2.d1
  have f1_V2 := V2.frozen 1
  have e_V2 := V2.d2
  have f2_V2 := V2.frozen 2
  have l_V2 := V2.lt
  have m_V2 := Nat.le_of_lt l_V2
  go_wp2_with fail
  refine bodyPost_ret (results_rt rfl rfl (V2.set3 _ _ _)) rfl ?_
  exact ⟨er, s', a', l', c', zs', b', m', d', ds', v', rfl, h'.far V2 (noInt3 _ _ _ _ _ _ _) (fa3 _ _ _ _ _), hra, belo3 B0 (by omega) _ _ _⟩
end Go.Proofs.YtblafbbnplfpjaaGreatDoor
