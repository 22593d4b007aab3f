/-
  The loop of WholeLaws.
-/
import Derived.Test.YtbadjonlhijoaaaLawsP
namespace Go.Proofs.Ytbadjonlhijoaaa
open Go.RowKit Go.Shelf
set_option linter.unusedVariables false

set_option maxHeartbeats 16000000 in
set_option maxRecDepth 20000 in
theorem laws_t (T : In3) (w : World) (hT : Ok3 w T) :
    Calls Try.prog 4 #[.agg #[.bool (T.s 0), .slice (T.a 0) (T.l 0) (T.c 0)], .agg #[.bool (T.s 1), .slice (T.a 1) (T.l 1) (T.c 1)], .agg #[.bool (T.s 2), .slice (T.a 2) (T.l 2) (T.c 2)]] w fun e w' => e = .returned (.bool true) ∧ Below w.heap.size w w' := by
  have HT : Hid (Ok3 w T) := hT
  clear hT
  go_enter Try.func4, Try.ntmps4
  go_wp2_with fail
  refine ent4 w _ _ _ _ _ _ _ _ (Q := fun W => Code.wp Try.prog _ _ _ W) ?_
  intro X B0 hs V0 V1 V2 V3
  have HL : Hid (Lit3 X (w.heap.size + 1 + 1 + 1) T) := by
    intro i hi
    have h3 : i = 0 ∨ i = 1 ∨ i = 2 := by omega
    rcases h3 with rfl | rfl | rfl <;> exact ⟨by rw [V3.cellAt]; rfl, by rw [V3.cellAt]; rfl⟩
  have HX : Hid (w.heap.size + 1 + 1 + 1 < X.heap.size) := V3.lt
  have HR0 : Hid (Rn3 w X (w.heap.size + 1 + 1 + 1) T (.slice none 0 0) [] X) := ⟨B0, Below.refl _ _, Grw.nil _ _, fun _ => rfl, fun j p h => by simp at h⟩
  clear V0 V1 V2 V3 B0 hs
  go_loopw [7, 39] (fun lv ii wr => ∃ (i : Nat) (ps : List W4), i ≤ 3 ∧ ii = .int .i64 i ∧ Hid (ps.length = i) ∧ Hid (Rn3 w X (w.heap.size + 1 + 1 + 1) T lv ps wr)) (fun _ ii _ => 3 - (intOf ii).toNat)
  case atStart => exact ⟨0, [], by omega, rfl, rfl, HR0⟩
  case round =>
    obtain ⟨i, ps, hi, rfl, hpl, hR⟩ := hrel
    by_cases hlt : i < 3
    · have jl : (i : Int) < 3 := by omega
      obtain ⟨c1, c2⟩ := HL.out i hlt
      have q1 := (hR.out.2.1.cell (p := ⟨w.heap.size + 1 + 1 + 1, i * 2, none⟩) HX.out).trans c1
      have q2 := (hR.out.2.1.cell (p := ⟨w.heap.size + 1 + 1 + 1, i * 2 + 1, none⟩) HX.out).trans c2
      clear c1 c2
      obtain ⟨hSl, hcap, hnil⟩ := HT.out i
      have HW := hR.out.1
      have hzl := hSl.1
      by_cases hlen : 1000 < T.l i
      · have SL := hSl.take (m := 1000) (by omega)
        have HCAP : 1000 ≤ T.c i := by omega
        have HNIL : T.a i = none → 1000 = 0 ∧ T.c i = 0 := fun e => by have := (hnil e).1; omega
        have EQ : List.take 4096 (List.take 1000 (T.z i)) = List.take 1000 (T.z i) := by rw [List.take_take]; rfl
        have hl1 : (1000 : Int) < T.l i := by omega
        go_wp2_with fail
        refine ent1 wr _ _ (Q := fun W => Calls Try.prog _ _ W _) ?_
        intro w1 hb1 hs1 V9
        refine (oflaw4g (T.s i) (T.a i) (1000) (T.c i) ((T.z i).take 1000) w1 (SL.below (step HW hb1) (Nat.le_refl _)) HNIL HCAP).mono ?_
        rintro e w2 ⟨s', g', l', c', zs', a2, k2, rfl, hI, -, ev, hb2⟩
        have HEV : Hid (iv s' zs' = iv (T.s i) ((T.z i).take 1000)) := by show _ = _; rw [ev, EQ]
        have HLT : Hid (((iv s' zs').natAbs : Int) < pw 1000) := few_lt hI (hSl.2.1.take 1000) HEV.out (by rw [List.length_take]; omega)
        have HI : Hid (It w2 s' (some ⟨g', 0, none⟩) l' c' zs') := hI
        have HB : Hid (Below wr.heap.size wr w2) := step hb1 hb2
        have HG : Hid (Grw w2 X.heap.size u7 ps) := hR.out.2.2.1.after HB.out
        have hsz2 : X.heap.size ≤ w2.heap.size := by have := hR.out.2.1.size; have := HB.out.size; omega
        clear hb1 hs1 V9 hb2 hI ev q1 q2
        go_wp2_with (at_builtin; refine wpList_appw rfl (.tmp 59) (.tmp 61) rfl X.heap.size u7 ps rfl (HG.out.after (tri_b _ _ _ _)) (w2.heap.size + 1 + 1) 1 s' (some ⟨g', 0, none⟩) l' c' rfl (tri_c0 _ _ _ _ _ _) (tri_c1 _ _ _ _ _ _) (by rw [hpl.out]; omega) (by have := (tri_b w2 (.cells #[] 0) (.cells #[] 0) (.cells #[] 0)).size; simp; omega) ?_; intro v3 w3 hG3 hb3 hfar)
        go_roundw
        case rel => exact ⟨i + 1, _, by omega, by go_num, by show _ = _; rw [List.length_append, hpl.out]; rfl, rn_step (Nat.le_of_lt (Nat.lt_of_le_of_lt (by omega) HX.out)) hR.out hpl.out (step HB.out (tri_b _ _ _ _)) (It.after (tri_b _ _ _ _) HI.out) HEV.out HLT.out hG3.out hb3 hfar.out⟩
        case measure => simp [intOf]; omega
      · have SL := hSl
        have HCAP := hcap
        have HNIL := hnil
        have EQ : List.take 4096 (T.z i) = List.take 1000 (T.z i) := by rw [List.take_of_length_le (by omega), List.take_of_length_le (by omega)]
        have hl1 : ¬ (1000 : Int) < T.l i := by omega
        go_wp2_with fail
        refine ent1 wr _ _ (Q := fun W => Calls Try.prog _ _ W _) ?_
        intro w1 hb1 hs1 V9
        refine (oflaw4g (T.s i) (T.a i) (T.l i) (T.c i) (T.z i) w1 (SL.below (step HW hb1) (Nat.le_refl _)) HNIL HCAP).mono ?_
        rintro e w2 ⟨s', g', l', c', zs', a2, k2, rfl, hI, -, ev, hb2⟩
        have HEV : Hid (iv s' zs' = iv (T.s i) ((T.z i).take 1000)) := by show _ = _; rw [ev, EQ]
        have HLT : Hid (((iv s' zs').natAbs : Int) < pw 1000) := few_lt hI (hSl.2.1.take 1000) HEV.out (by rw [List.length_take]; omega)
        have HI : Hid (It w2 s' (some ⟨g', 0, none⟩) l' c' zs') := hI
        have HB : Hid (Below wr.heap.size wr w2) := step hb1 hb2
        have HG : Hid (Grw w2 X.heap.size u7 ps) := hR.out.2.2.1.after HB.out
        have hsz2 : X.heap.size ≤ w2.heap.size := by have := hR.out.2.1.size; have := HB.out.size; omega
        clear hb1 hs1 V9 hb2 hI ev q1 q2
        go_wp2_with (at_builtin; refine wpList_appw rfl (.tmp 59) (.tmp 61) rfl X.heap.size u7 ps rfl (HG.out.after (tri_b _ _ _ _)) (w2.heap.size + 1 + 1) 1 s' (some ⟨g', 0, none⟩) l' c' rfl (tri_c0 _ _ _ _ _ _) (tri_c1 _ _ _ _ _ _) (by rw [hpl.out]; omega) (by have := (tri_b w2 (.cells #[] 0) (.cells #[] 0) (.cells #[] 0)).size; simp; omega) ?_; intro v3 w3 hG3 hb3 hfar)
        go_roundw
        case rel => exact ⟨i + 1, _, by omega, by go_num, by show _ = _; rw [List.length_append, hpl.out]; rfl, rn_step (Nat.le_of_lt (Nat.lt_of_le_of_lt (by omega) HX.out)) hR.out hpl.out (step HB.out (tri_b _ _ _ _)) (It.after (tri_b _ _ _ _) HI.out) HEV.out HLT.out hG3.out hb3 hfar.out⟩
        case measure => simp [intOf]; omega
    · have jl : ¬ ((i : Int) < 3) := by omega
      obtain ⟨g, cap, s0, a0, l0, c0, z0, s1, a1, l1, c1, z1, s2, a2, l2, c2, z2, rfl, hcap, LS, h0, h1, h2, HZ, B0⟩ := three hR.out (hpl.out.trans (by omega))
      have HF : Hid (Fit3 (iv s0 z0) (iv s1 z1) (iv s2 z2)) := fit3 HZ.out
      clear HT HL HX HR0 hR HZ hpl
      as_aux_lemma =>
        go_wp2_with fail
        have L_h0 : Hid (It wr s0 a0 l0 c0 z0) := h0
        have L_h1 : Hid (It wr s1 a1 l1 c1 z1) := h1
        have L_h2 : Hid (It wr s2 a2 l2 c2 z2) := h2
        have L_B : Hid (Below w.heap.size w wr) := B0
        clear h0 h1 h2 B0
        have BX := Below.refl wr.heap.size wr
        go_cut [13, 14, 15] (fun s13 s14 s15 wx => ∃ (b13 : Nat) (b14 : Nat) (b15 : Nat), s13 = .pointer (some ⟨b13, 0, none⟩) ∧ s14 = .pointer (some ⟨b14, 0, none⟩) ∧ s15 = .pointer (some ⟨b15, 0, none⟩) ∧ Hid (Va wx b13 27 #[.bool s0, .slice a0 l0 c0]) ∧ Hid (Va wx b14 27 #[.bool s1, .slice a1 l1 c1]) ∧ Hid (Va wx b15 27 #[.bool s2, .slice a2 l2 c2]) ∧ Hid (Below wr.heap.size wr wx) ∧ Hid (b13 ≠ b14 ∧ b13 ≠ b15 ∧ b14 ≠ b15))
        case first =>
          as_aux_lemma =>
            refine wp_region_noPanic ?_
            replace BX := Below.drew BX
            refine wp_region_held_drew (S := (fun W => W.cell? ⟨g, 0, none⟩ = some (.bool s0) ∧ W.cell? ⟨g, 1, none⟩ = some (.slice a0 l0 c0) ∧ W.cell? ⟨g, 2, none⟩ = some (.bool s1) ∧ W.cell? ⟨g, 3, none⟩ = some (.slice a1 l1 c1) ∧ W.cell? ⟨g, 4, none⟩ = some (.bool s2) ∧ W.cell? ⟨g, 5, none⟩ = some (.slice a2 l2 c2))) (by kernel_rfl) (LS.out _ BX) (fun hHeld => ?_)
            obtain ⟨x1, hxd⟩ : ∃ xd, xd = wr.drew := ⟨_, rfl⟩
            rw [← hxd] at BX hHeld ⊢
            clear hxd
            refine wpAnyH_take (i := 0) (v := ?_) rfl (by kernel_rfl) (by kernel_rfl) (by kernel_rfl) (fun _ _ _ h => h) (Or.inl ⟨by rfl, ?_⟩) hHeld ?_
            rotate_left
            · (intro W hSw; (try dsimp only at hSw); go_simp; all_goals (with_reducible rfl))
            simp only [List.getElem_toArray, List.getElem_cons_zero, Act.put, List.setIfInBounds_toArray, List.set_cons_zero, List.set_cons_succ]
            refine wpAnyH_take (i := 1) (v := ?_) rfl (by kernel_rfl) (by kernel_rfl) (by kernel_rfl) (fun _ _ _ h => h) (Or.inl ⟨by rfl, ?_⟩) hHeld ?_
            rotate_left
            · (intro W hSw; (try dsimp only at hSw); go_simp; all_goals (with_reducible rfl))
            simp only [List.getElem_toArray, List.getElem_cons_zero, List.getElem_cons_succ, Act.put, List.setIfInBounds_toArray, List.set_cons_zero, List.set_cons_succ]
            refine wpAnyH_take (i := 2) (v := ?_) rfl (by kernel_rfl) (by kernel_rfl) (by kernel_rfl) (fun _ _ _ h => h) (Or.inl ⟨by rfl, ?_⟩) hHeld ?_
            rotate_left
            · (intro W hSw; (try dsimp only at hSw); go_simp; all_goals (with_reducible rfl))
            simp only [List.getElem_toArray, List.getElem_cons_zero, List.getElem_cons_succ, Act.put, List.setIfInBounds_toArray, List.set_cons_zero, List.set_cons_succ]
            refine wpAnyH_take (i := 3) (v := ?_) rfl (by kernel_rfl) (by kernel_rfl) (by kernel_rfl) (fun _ _ _ h => h) (Or.inl ⟨by rfl, ?_⟩) hHeld ?_
            rotate_left
            · (intro W hSw; (try dsimp only at hSw); go_simp; all_goals (with_reducible rfl))
            simp only [List.getElem_toArray, List.getElem_cons_zero, List.getElem_cons_succ, Act.put, List.setIfInBounds_toArray, List.set_cons_zero, List.set_cons_succ]
            refine wpAnyH_take (i := 4) (v := ?_) rfl (by kernel_rfl) (by kernel_rfl) (by kernel_rfl) (fun _ _ _ h => h) (Or.inl ⟨by rfl, ?_⟩) hHeld ?_
            rotate_left
            · (intro W hSw; (try dsimp only at hSw); go_simp; all_goals (with_reducible rfl))
            simp only [List.getElem_toArray, List.getElem_cons_zero, List.getElem_cons_succ, Act.put, List.setIfInBounds_toArray, List.set_cons_zero, List.set_cons_succ]
            refine wpAnyH_take (i := 5) (v := ?_) rfl (by kernel_rfl) (by kernel_rfl) (by kernel_rfl) (fun _ _ _ h => h) (Or.inl ⟨by rfl, ?_⟩) hHeld ?_
            rotate_left
            · (intro W hSw; (try dsimp only at hSw); go_simp; all_goals (with_reducible rfl))
            simp only [List.getElem_toArray, List.getElem_cons_zero, List.getElem_cons_succ, Act.put, List.setIfInBounds_toArray, List.set_cons_zero, List.set_cons_succ]
            refine wpAnyH_take (i := 6) (v := ?_) rfl (by kernel_rfl) (by kernel_rfl) (by kernel_rfl) (fun _ _ _ h => h) (Or.inl ⟨by rfl, ?_⟩) hHeld ?_
            rotate_left
            · (intro W hSw; (try dsimp only at hSw); go_simp; all_goals (with_reducible rfl))
            simp only [List.getElem_toArray, List.getElem_cons_zero, List.getElem_cons_succ, Act.put, List.setIfInBounds_toArray, List.set_cons_zero, List.set_cons_succ]
            refine wpAnyH_take (i := 7) (v := ?_) rfl (by kernel_rfl) (by kernel_rfl) (by kernel_rfl) (fun _ _ _ h => h) (Or.inl ⟨by rfl, ?_⟩) hHeld ?_
            rotate_left
            · (intro W hSw; (try dsimp only at hSw); go_simp; all_goals (with_reducible rfl))
            simp only [List.getElem_toArray, List.getElem_cons_zero, List.getElem_cons_succ, Act.put, List.setIfInBounds_toArray, List.set_cons_zero, List.set_cons_succ]
            refine wpAnyH_take (i := 8) (v := ?_) rfl (by kernel_rfl) (by kernel_rfl) (by kernel_rfl) (fun _ _ _ h => h) (Or.inl ⟨by rfl, ?_⟩) hHeld ?_
            rotate_left
            · (intro W hSw; (try dsimp only at hSw); go_simp; all_goals (with_reducible rfl))
            simp only [List.getElem_toArray, List.getElem_cons_zero, List.getElem_cons_succ, Act.put, List.setIfInBounds_toArray, List.set_cons_zero, List.set_cons_succ]
            refine wpAnyH_ready (rs := [9, 10, 11]) (by kernel_rfl) (by simp) ?_
            refine AllReadyH.cons rfl (fun K hK => ?_) (AllReadyH.cons rfl (fun K hK => ?_) (AllReadyH.cons rfl (fun K hK => ?_) AllReadyH.nil))
            ·
              as_aux_lemma =>
                simp only [List.getElem_toArray, List.getElem_cons_zero, List.getElem_cons_succ]
                go_simp
                have sz_V13 := BX.size
                refine ent1 _ _ _ (Q := fun V => K _ V) ?_
                intro x2 hb hs_ V13
                replace BX := step BX hb
                clear hb hs_
                refine hK.out _ _ (LS.out _ BX) (fun hHeld => ?_)
                clear hK K
                refine wpAnyH_ready (rs := [10, 11]) (by kernel_rfl) (by simp) ?_
                refine AllReadyH.cons rfl (fun K hK => ?_) (AllReadyH.cons rfl (fun K hK => ?_) AllReadyH.nil)
                ·
                  simp only [List.getElem_toArray, List.getElem_cons_zero, List.getElem_cons_succ]
                  go_simp
                  have lt_V14_V13 := V13.lt
                  have sz_V14 := BX.size
                  refine ent1 _ _ _ (Q := fun V => K _ V) ?_
                  intro x3 hb hs_ V14
                  replace V13 := Va.after hb V13
                  replace BX := step BX hb
                  clear hb hs_
                  refine hK.out _ _ (LS.out _ BX) (fun hHeld => ?_)
                  clear hK K
                  refine wpAnyH_ready (rs := [11]) (by kernel_rfl) (by simp) ?_
                  refine AllReadyH.cons rfl (fun K hK => ?_) AllReadyH.nil
                  ·
                    simp only [List.getElem_toArray, List.getElem_cons_zero, List.getElem_cons_succ]
                    go_simp
                    have lt_V15_V13 := V13.lt
                    have lt_V15_V14 := V14.lt
                    have sz_V15 := BX.size
                    refine ent1 _ _ _ (Q := fun V => K _ V) ?_
                    intro x4 hb hs_ V15
                    replace V13 := Va.after hb V13
                    replace V14 := Va.after hb V14
                    replace BX := step BX hb
                    clear hb hs_
                    refine hK.out _ _ (LS.out _ BX) (fun hHeld => ?_)
                    clear hK K
                    have c_V13 := V13.c0
                    have f0_V13 := V13.frozen 0
                    have d_V13 := V13.c1
                    have f1_V13 := V13.frozen 1
                    have l_V13 := V13.lt
                    have m_V13 := Nat.le_of_lt l_V13
                    refine wpAnyH_ready (rs := [12]) (by kernel_rfl) (by simp) ?_
                    refine AllReadyH.cons rfl (fun K hK => ?_) AllReadyH.nil
                    simp only [List.getElem_toArray, List.getElem_cons_zero, List.getElem_cons_succ]
                    go_simp
                    clear c_V13 f0_V13 d_V13 f1_V13 l_V13 m_V13
                    refine st2 V13 (.bool s0) (.slice a0 l0 c0) (Q := fun W => K _ W) ?_
                    intro x5 V' oth far
                    replace V14 := oth _ _ _ (by first | omega | assumption | (simp; omega)) V14
                    replace V15 := oth _ _ _ (by first | omega | assumption | (simp; omega)) V15
                    replace BX := far.2 _ _ (by first | omega | (simp; omega)) BX
                    replace V13 := V'
                    clear oth far
                    refine hK.out _ _ (LS.out _ BX) (fun hHeld => ?_)
                    clear hK K
                    have c_V14 := V14.c0
                    have f0_V14 := V14.frozen 0
                    have d_V14 := V14.c1
                    have f1_V14 := V14.frozen 1
                    have l_V14 := V14.lt
                    have m_V14 := Nat.le_of_lt l_V14
                    refine wpAnyH_ready (rs := [13]) (by kernel_rfl) (by simp) ?_
                    refine AllReadyH.cons rfl (fun K hK => ?_) AllReadyH.nil
                    simp only [List.getElem_toArray, List.getElem_cons_zero, List.getElem_cons_succ]
                    go_simp
                    clear c_V14 f0_V14 d_V14 f1_V14 l_V14 m_V14
                    refine st2 V14 (.bool s1) (.slice a1 l1 c1) (Q := fun W => K _ W) ?_
                    intro x6 V' oth far
                    replace V13 := oth _ _ _ (by first | omega | assumption | (simp; omega)) V13
                    replace V15 := oth _ _ _ (by first | omega | assumption | (simp; omega)) V15
                    replace BX := far.2 _ _ (by first | omega | (simp; omega)) BX
                    replace V14 := V'
                    clear oth far
                    refine hK.out _ _ (LS.out _ BX) (fun hHeld => ?_)
                    clear hK K
                    have c_V15 := V15.c0
                    have f0_V15 := V15.frozen 0
                    have d_V15 := V15.c1
                    have f1_V15 := V15.frozen 1
                    have l_V15 := V15.lt
                    have m_V15 := Nat.le_of_lt l_V15
                    refine wpAnyH_ready (rs := [14]) (by kernel_rfl) (by simp) ?_
                    refine AllReadyH.cons rfl (fun K hK => ?_) AllReadyH.nil
                    simp only [List.getElem_toArray, List.getElem_cons_zero, List.getElem_cons_succ]
                    go_simp
                    clear c_V15 f0_V15 d_V15 f1_V15 l_V15 m_V15
                    refine st2 V15 (.bool s2) (.slice a2 l2 c2) (Q := fun W => K _ W) ?_
                    intro x7 V' oth far
                    replace V13 := oth _ _ _ (by first | omega | assumption | (simp; omega)) V13
                    replace V14 := oth _ _ _ (by first | omega | assumption | (simp; omega)) V14
                    replace BX := far.2 _ _ (by first | omega | (simp; omega)) BX
                    replace V15 := V'
                    clear oth far
                    refine hK.out _ _ (LS.out _ BX) (fun hHeld => ?_)
                    clear hK K
                    refine wpAnyH_done (by kernel_rfl) ?_ _
                    refine NoPanic.normal ?_
                    clear hHeld
                    go_wp2_with fail
                    go_meet
                    exact ⟨_, _, _, rfl, rfl, rfl, V13, V14, V15, BX, ⟨by omega, by omega, by omega⟩⟩
                ·
                  simp only [List.getElem_toArray, List.getElem_cons_zero, List.getElem_cons_succ]
                  go_simp
                  have lt_V15_V13 := V13.lt
                  have sz_V15 := BX.size
                  refine ent1 _ _ _ (Q := fun V => K _ V) ?_
                  intro x3 hb hs_ V15
                  replace V13 := Va.after hb V13
                  replace BX := step BX hb
                  clear hb hs_
                  refine hK.out _ _ (LS.out _ BX) (fun hHeld => ?_)
                  clear hK K
                  refine wpAnyH_ready (rs := [10]) (by kernel_rfl) (by simp) ?_
                  refine AllReadyH.cons rfl (fun K hK => ?_) AllReadyH.nil
                  ·
                    simp only [List.getElem_toArray, List.getElem_cons_zero, List.getElem_cons_succ]
                    go_simp
                    have lt_V14_V13 := V13.lt
                    have lt_V14_V15 := V15.lt
                    have sz_V14 := BX.size
                    refine ent1 _ _ _ (Q := fun V => K _ V) ?_
                    intro x4 hb hs_ V14
                    replace V13 := Va.after hb V13
                    replace V15 := Va.after hb V15
                    replace BX := step BX hb
                    clear hb hs_
                    refine hK.out _ _ (LS.out _ BX) (fun hHeld => ?_)
                    clear hK K
                    have c_V13 := V13.c0
                    have f0_V13 := V13.frozen 0
                    have d_V13 := V13.c1
                    have f1_V13 := V13.frozen 1
                    have l_V13 := V13.lt
                    have m_V13 := Nat.le_of_lt l_V13
                    refine wpAnyH_ready (rs := [12]) (by kernel_rfl) (by simp) ?_
                    refine AllReadyH.cons rfl (fun K hK => ?_) AllReadyH.nil
                    simp only [List.getElem_toArray, List.getElem_cons_zero, List.getElem_cons_succ]
                    go_simp
                    clear c_V13 f0_V13 d_V13 f1_V13 l_V13 m_V13
                    refine st2 V13 (.bool s0) (.slice a0 l0 c0) (Q := fun W => K _ W) ?_
                    intro x5 V' oth far
                    replace V15 := oth _ _ _ (by first | omega | assumption | (simp; omega)) V15
                    replace V14 := oth _ _ _ (by first | omega | assumption | (simp; omega)) V14
                    replace BX := far.2 _ _ (by first | omega | (simp; omega)) BX
                    replace V13 := V'
                    clear oth far
                    refine hK.out _ _ (LS.out _ BX) (fun hHeld => ?_)
                    clear hK K
                    have c_V14 := V14.c0
                    have f0_V14 := V14.frozen 0
                    have d_V14 := V14.c1
                    have f1_V14 := V14.frozen 1
                    have l_V14 := V14.lt
                    have m_V14 := Nat.le_of_lt l_V14
                    refine wpAnyH_ready (rs := [13]) (by kernel_rfl) (by simp) ?_
                    refine AllReadyH.cons rfl (fun K hK => ?_) AllReadyH.nil
                    simp only [List.getElem_toArray, List.getElem_cons_zero, List.getElem_cons_succ]
                    go_simp
                    clear c_V14 f0_V14 d_V14 f1_V14 l_V14 m_V14
                    refine st2 V14 (.bool s1) (.slice a1 l1 c1) (Q := fun W => K _ W) ?_
                    intro x6 V' oth far
                    replace V13 := oth _ _ _ (by first | omega | assumption | (simp; omega)) V13
                    replace V15 := oth _ _ _ (by first | omega | assumption | (simp; omega)) V15
                    replace BX := far.2 _ _ (by first | omega | (simp; omega)) BX
                    replace V14 := V'
                    clear oth far
                    refine hK.out _ _ (LS.out _ BX) (fun hHeld => ?_)
                    clear hK K
                    have c_V15 := V15.c0
                    have f0_V15 := V15.frozen 0
                    have d_V15 := V15.c1
                    have f1_V15 := V15.frozen 1
                    have l_V15 := V15.lt
                    have m_V15 := Nat.le_of_lt l_V15
                    refine wpAnyH_ready (rs := [14]) (by kernel_rfl) (by simp) ?_
                    refine AllReadyH.cons rfl (fun K hK => ?_) AllReadyH.nil
                    simp only [List.getElem_toArray, List.getElem_cons_zero, List.getElem_cons_succ]
                    go_simp
                    clear c_V15 f0_V15 d_V15 f1_V15 l_V15 m_V15
                    refine st2 V15 (.bool s2) (.slice a2 l2 c2) (Q := fun W => K _ W) ?_
                    intro x7 V' oth far
                    replace V13 := oth _ _ _ (by first | omega | assumption | (simp; omega)) V13
                    replace V14 := oth _ _ _ (by first | omega | assumption | (simp; omega)) V14
                    replace BX := far.2 _ _ (by first | omega | (simp; omega)) BX
                    replace V15 := V'
                    clear oth far
                    refine hK.out _ _ (LS.out _ BX) (fun hHeld => ?_)
                    clear hK K
                    refine wpAnyH_done (by kernel_rfl) ?_ _
                    refine NoPanic.normal ?_
                    clear hHeld
                    go_wp2_with fail
                    go_meet
                    exact ⟨_, _, _, rfl, rfl, rfl, V13, V14, V15, BX, ⟨by omega, by omega, by omega⟩⟩
            ·
              as_aux_lemma =>
                simp only [List.getElem_toArray, List.getElem_cons_zero, List.getElem_cons_succ]
                go_simp
                have sz_V14 := BX.size
                refine ent1 _ _ _ (Q := fun V => K _ V) ?_
                intro x2 hb hs_ V14
                replace BX := step BX hb
                clear hb hs_
                refine hK.out _ _ (LS.out _ BX) (fun hHeld => ?_)
                clear hK K
                refine wpAnyH_ready (rs := [9, 11]) (by kernel_rfl) (by simp) ?_
                refine AllReadyH.cons rfl (fun K hK => ?_) (AllReadyH.cons rfl (fun K hK => ?_) AllReadyH.nil)
                ·
                  simp only [List.getElem_toArray, List.getElem_cons_zero, List.getElem_cons_succ]
                  go_simp
                  have lt_V13_V14 := V14.lt
                  have sz_V13 := BX.size
                  refine ent1 _ _ _ (Q := fun V => K _ V) ?_
                  intro x3 hb hs_ V13
                  replace V14 := Va.after hb V14
                  replace BX := step BX hb
                  clear hb hs_
                  refine hK.out _ _ (LS.out _ BX) (fun hHeld => ?_)
                  clear hK K
                  refine wpAnyH_ready (rs := [11]) (by kernel_rfl) (by simp) ?_
                  refine AllReadyH.cons rfl (fun K hK => ?_) AllReadyH.nil
                  ·
                    simp only [List.getElem_toArray, List.getElem_cons_zero, List.getElem_cons_succ]
                    go_simp
                    have lt_V15_V14 := V14.lt
                    have lt_V15_V13 := V13.lt
                    have sz_V15 := BX.size
                    refine ent1 _ _ _ (Q := fun V => K _ V) ?_
                    intro x4 hb hs_ V15
                    replace V14 := Va.after hb V14
                    replace V13 := Va.after hb V13
                    replace BX := step BX hb
                    clear hb hs_
                    refine hK.out _ _ (LS.out _ BX) (fun hHeld => ?_)
                    clear hK K
                    have c_V13 := V13.c0
                    have f0_V13 := V13.frozen 0
                    have d_V13 := V13.c1
                    have f1_V13 := V13.frozen 1
                    have l_V13 := V13.lt
                    have m_V13 := Nat.le_of_lt l_V13
                    refine wpAnyH_ready (rs := [12]) (by kernel_rfl) (by simp) ?_
                    refine AllReadyH.cons rfl (fun K hK => ?_) AllReadyH.nil
                    simp only [List.getElem_toArray, List.getElem_cons_zero, List.getElem_cons_succ]
                    go_simp
                    clear c_V13 f0_V13 d_V13 f1_V13 l_V13 m_V13
                    refine st2 V13 (.bool s0) (.slice a0 l0 c0) (Q := fun W => K _ W) ?_
                    intro x5 V' oth far
                    replace V14 := oth _ _ _ (by first | omega | assumption | (simp; omega)) V14
                    replace V15 := oth _ _ _ (by first | omega | assumption | (simp; omega)) V15
                    replace BX := far.2 _ _ (by first | omega | (simp; omega)) BX
                    replace V13 := V'
                    clear oth far
                    refine hK.out _ _ (LS.out _ BX) (fun hHeld => ?_)
                    clear hK K
                    have c_V14 := V14.c0
                    have f0_V14 := V14.frozen 0
                    have d_V14 := V14.c1
                    have f1_V14 := V14.frozen 1
                    have l_V14 := V14.lt
                    have m_V14 := Nat.le_of_lt l_V14
                    refine wpAnyH_ready (rs := [13]) (by kernel_rfl) (by simp) ?_
                    refine AllReadyH.cons rfl (fun K hK => ?_) AllReadyH.nil
                    simp only [List.getElem_toArray, List.getElem_cons_zero, List.getElem_cons_succ]
                    go_simp
                    clear c_V14 f0_V14 d_V14 f1_V14 l_V14 m_V14
                    refine st2 V14 (.bool s1) (.slice a1 l1 c1) (Q := fun W => K _ W) ?_
                    intro x6 V' oth far
                    replace V13 := oth _ _ _ (by first | omega | assumption | (simp; omega)) V13
                    replace V15 := oth _ _ _ (by first | omega | assumption | (simp; omega)) V15
                    replace BX := far.2 _ _ (by first | omega | (simp; omega)) BX
                    replace V14 := V'
                    clear oth far
                    refine hK.out _ _ (LS.out _ BX) (fun hHeld => ?_)
                    clear hK K
                    have c_V15 := V15.c0
                    have f0_V15 := V15.frozen 0
                    have d_V15 := V15.c1
                    have f1_V15 := V15.frozen 1
                    have l_V15 := V15.lt
                    have m_V15 := Nat.le_of_lt l_V15
                    refine wpAnyH_ready (rs := [14]) (by kernel_rfl) (by simp) ?_
                    refine AllReadyH.cons rfl (fun K hK => ?_) AllReadyH.nil
                    simp only [List.getElem_toArray, List.getElem_cons_zero, List.getElem_cons_succ]
                    go_simp
                    clear c_V15 f0_V15 d_V15 f1_V15 l_V15 m_V15
                    refine st2 V15 (.bool s2) (.slice a2 l2 c2) (Q := fun W => K _ W) ?_
                    intro x7 V' oth far
                    replace V14 := oth _ _ _ (by first | omega | assumption | (simp; omega)) V14
                    replace V13 := oth _ _ _ (by first | omega | assumption | (simp; omega)) V13
                    replace BX := far.2 _ _ (by first | omega | (simp; omega)) BX
                    replace V15 := V'
                    clear oth far
                    refine hK.out _ _ (LS.out _ BX) (fun hHeld => ?_)
                    clear hK K
                    refine wpAnyH_done (by kernel_rfl) ?_ _
                    refine NoPanic.normal ?_
                    clear hHeld
                    go_wp2_with fail
                    go_meet
                    exact ⟨_, _, _, rfl, rfl, rfl, V13, V14, V15, BX, ⟨by omega, by omega, by omega⟩⟩
                ·
                  simp only [List.getElem_toArray, List.getElem_cons_zero, List.getElem_cons_succ]
                  go_simp
                  have lt_V15_V14 := V14.lt
                  have sz_V15 := BX.size
                  refine ent1 _ _ _ (Q := fun V => K _ V) ?_
                  intro x3 hb hs_ V15
                  replace V14 := Va.after hb V14
                  replace BX := step BX hb
                  clear hb hs_
                  refine hK.out _ _ (LS.out _ BX) (fun hHeld => ?_)
                  clear hK K
                  refine wpAnyH_ready (rs := [9]) (by kernel_rfl) (by simp) ?_
                  refine AllReadyH.cons rfl (fun K hK => ?_) AllReadyH.nil
                  ·
                    simp only [List.getElem_toArray, List.getElem_cons_zero, List.getElem_cons_succ]
                    go_simp
                    have lt_V13_V14 := V14.lt
                    have lt_V13_V15 := V15.lt
                    have sz_V13 := BX.size
                    refine ent1 _ _ _ (Q := fun V => K _ V) ?_
                    intro x4 hb hs_ V13
                    replace V14 := Va.after hb V14
                    replace V15 := Va.after hb V15
                    replace BX := step BX hb
                    clear hb hs_
                    refine hK.out _ _ (LS.out _ BX) (fun hHeld => ?_)
                    clear hK K
                    have c_V13 := V13.c0
                    have f0_V13 := V13.frozen 0
                    have d_V13 := V13.c1
                    have f1_V13 := V13.frozen 1
                    have l_V13 := V13.lt
                    have m_V13 := Nat.le_of_lt l_V13
                    refine wpAnyH_ready (rs := [12]) (by kernel_rfl) (by simp) ?_
                    refine AllReadyH.cons rfl (fun K hK => ?_) AllReadyH.nil
                    simp only [List.getElem_toArray, List.getElem_cons_zero, List.getElem_cons_succ]
                    go_simp
                    clear c_V13 f0_V13 d_V13 f1_V13 l_V13 m_V13
                    refine st2 V13 (.bool s0) (.slice a0 l0 c0) (Q := fun W => K _ W) ?_
                    intro x5 V' oth far
                    replace V14 := oth _ _ _ (by first | omega | assumption | (simp; omega)) V14
                    replace V15 := oth _ _ _ (by first | omega | assumption | (simp; omega)) V15
                    replace BX := far.2 _ _ (by first | omega | (simp; omega)) BX
                    replace V13 := V'
                    clear oth far
                    refine hK.out _ _ (LS.out _ BX) (fun hHeld => ?_)
                    clear hK K
                    have c_V14 := V14.c0
                    have f0_V14 := V14.frozen 0
                    have d_V14 := V14.c1
                    have f1_V14 := V14.frozen 1
                    have l_V14 := V14.lt
                    have m_V14 := Nat.le_of_lt l_V14
                    refine wpAnyH_ready (rs := [13]) (by kernel_rfl) (by simp) ?_
                    refine AllReadyH.cons rfl (fun K hK => ?_) AllReadyH.nil
                    simp only [List.getElem_toArray, List.getElem_cons_zero, List.getElem_cons_succ]
                    go_simp
                    clear c_V14 f0_V14 d_V14 f1_V14 l_V14 m_V14
                    refine st2 V14 (.bool s1) (.slice a1 l1 c1) (Q := fun W => K _ W) ?_
                    intro x6 V' oth far
                    replace V15 := oth _ _ _ (by first | omega | assumption | (simp; omega)) V15
                    replace V13 := oth _ _ _ (by first | omega | assumption | (simp; omega)) V13
                    replace BX := far.2 _ _ (by first | omega | (simp; omega)) BX
                    replace V14 := V'
                    clear oth far
                    refine hK.out _ _ (LS.out _ BX) (fun hHeld => ?_)
                    clear hK K
                    have c_V15 := V15.c0
                    have f0_V15 := V15.frozen 0
                    have d_V15 := V15.c1
                    have f1_V15 := V15.frozen 1
                    have l_V15 := V15.lt
                    have m_V15 := Nat.le_of_lt l_V15
                    refine wpAnyH_ready (rs := [14]) (by kernel_rfl) (by simp) ?_
                    refine AllReadyH.cons rfl (fun K hK => ?_) AllReadyH.nil
                    simp only [List.getElem_toArray, List.getElem_cons_zero, List.getElem_cons_succ]
                    go_simp
                    clear c_V15 f0_V15 d_V15 f1_V15 l_V15 m_V15
                    refine st2 V15 (.bool s2) (.slice a2 l2 c2) (Q := fun W => K _ W) ?_
                    intro x7 V' oth far
                    replace V14 := oth _ _ _ (by first | omega | assumption | (simp; omega)) V14
                    replace V13 := oth _ _ _ (by first | omega | assumption | (simp; omega)) V13
                    replace BX := far.2 _ _ (by first | omega | (simp; omega)) BX
                    replace V15 := V'
                    clear oth far
                    refine hK.out _ _ (LS.out _ BX) (fun hHeld => ?_)
                    clear hK K
                    refine wpAnyH_done (by kernel_rfl) ?_ _
                    refine NoPanic.normal ?_
                    clear hHeld
                    go_wp2_with fail
                    go_meet
                    exact ⟨_, _, _, rfl, rfl, rfl, V13, V14, V15, BX, ⟨by omega, by omega, by omega⟩⟩
            ·
              as_aux_lemma =>
                simp only [List.getElem_toArray, List.getElem_cons_zero, List.getElem_cons_succ]
                go_simp
                have sz_V15 := BX.size
                refine ent1 _ _ _ (Q := fun V => K _ V) ?_
                intro x2 hb hs_ V15
                replace BX := step BX hb
                clear hb hs_
                refine hK.out _ _ (LS.out _ BX) (fun hHeld => ?_)
                clear hK K
                refine wpAnyH_ready (rs := [9, 10]) (by kernel_rfl) (by simp) ?_
                refine AllReadyH.cons rfl (fun K hK => ?_) (AllReadyH.cons rfl (fun K hK => ?_) AllReadyH.nil)
                ·
                  simp only [List.getElem_toArray, List.getElem_cons_zero, List.getElem_cons_succ]
                  go_simp
                  have lt_V13_V15 := V15.lt
                  have sz_V13 := BX.size
                  refine ent1 _ _ _ (Q := fun V => K _ V) ?_
                  intro x3 hb hs_ V13
                  replace V15 := Va.after hb V15
                  replace BX := step BX hb
                  clear hb hs_
                  refine hK.out _ _ (LS.out _ BX) (fun hHeld => ?_)
                  clear hK K
                  refine wpAnyH_ready (rs := [10]) (by kernel_rfl) (by simp) ?_
                  refine AllReadyH.cons rfl (fun K hK => ?_) AllReadyH.nil
                  ·
                    simp only [List.getElem_toArray, List.getElem_cons_zero, List.getElem_cons_succ]
                    go_simp
                    have lt_V14_V15 := V15.lt
                    have lt_V14_V13 := V13.lt
                    have sz_V14 := BX.size
                    refine ent1 _ _ _ (Q := fun V => K _ V) ?_
                    intro x4 hb hs_ V14
                    replace V15 := Va.after hb V15
                    replace V13 := Va.after hb V13
                    replace BX := step BX hb
                    clear hb hs_
                    refine hK.out _ _ (LS.out _ BX) (fun hHeld => ?_)
                    clear hK K
                    have c_V13 := V13.c0
                    have f0_V13 := V13.frozen 0
                    have d_V13 := V13.c1
                    have f1_V13 := V13.frozen 1
                    have l_V13 := V13.lt
                    have m_V13 := Nat.le_of_lt l_V13
                    refine wpAnyH_ready (rs := [12]) (by kernel_rfl) (by simp) ?_
                    refine AllReadyH.cons rfl (fun K hK => ?_) AllReadyH.nil
                    simp only [List.getElem_toArray, List.getElem_cons_zero, List.getElem_cons_succ]
                    go_simp
                    clear c_V13 f0_V13 d_V13 f1_V13 l_V13 m_V13
                    refine st2 V13 (.bool s0) (.slice a0 l0 c0) (Q := fun W => K _ W) ?_
                    intro x5 V' oth far
                    replace V15 := oth _ _ _ (by first | omega | assumption | (simp; omega)) V15
                    replace V14 := oth _ _ _ (by first | omega | assumption | (simp; omega)) V14
                    replace BX := far.2 _ _ (by first | omega | (simp; omega)) BX
                    replace V13 := V'
                    clear oth far
                    refine hK.out _ _ (LS.out _ BX) (fun hHeld => ?_)
                    clear hK K
                    have c_V14 := V14.c0
                    have f0_V14 := V14.frozen 0
                    have d_V14 := V14.c1
                    have f1_V14 := V14.frozen 1
                    have l_V14 := V14.lt
                    have m_V14 := Nat.le_of_lt l_V14
                    refine wpAnyH_ready (rs := [13]) (by kernel_rfl) (by simp) ?_
                    refine AllReadyH.cons rfl (fun K hK => ?_) AllReadyH.nil
                    simp only [List.getElem_toArray, List.getElem_cons_zero, List.getElem_cons_succ]
                    go_simp
                    clear c_V14 f0_V14 d_V14 f1_V14 l_V14 m_V14
                    refine st2 V14 (.bool s1) (.slice a1 l1 c1) (Q := fun W => K _ W) ?_
                    intro x6 V' oth far
                    replace V15 := oth _ _ _ (by first | omega | assumption | (simp; omega)) V15
                    replace V13 := oth _ _ _ (by first | omega | assumption | (simp; omega)) V13
                    replace BX := far.2 _ _ (by first | omega | (simp; omega)) BX
                    replace V14 := V'
                    clear oth far
                    refine hK.out _ _ (LS.out _ BX) (fun hHeld => ?_)
                    clear hK K
                    have c_V15 := V15.c0
                    have f0_V15 := V15.frozen 0
                    have d_V15 := V15.c1
                    have f1_V15 := V15.frozen 1
                    have l_V15 := V15.lt
                    have m_V15 := Nat.le_of_lt l_V15
                    refine wpAnyH_ready (rs := [14]) (by kernel_rfl) (by simp) ?_
                    refine AllReadyH.cons rfl (fun K hK => ?_) AllReadyH.nil
                    simp only [List.getElem_toArray, List.getElem_cons_zero, List.getElem_cons_succ]
                    go_simp
                    clear c_V15 f0_V15 d_V15 f1_V15 l_V15 m_V15
                    refine st2 V15 (.bool s2) (.slice a2 l2 c2) (Q := fun W => K _ W) ?_
                    intro x7 V' oth far
                    replace V13 := oth _ _ _ (by first | omega | assumption | (simp; omega)) V13
                    replace V14 := oth _ _ _ (by first | omega | assumption | (simp; omega)) V14
                    replace BX := far.2 _ _ (by first | omega | (simp; omega)) BX
                    replace V15 := V'
                    clear oth far
                    refine hK.out _ _ (LS.out _ BX) (fun hHeld => ?_)
                    clear hK K
                    refine wpAnyH_done (by kernel_rfl) ?_ _
                    refine NoPanic.normal ?_
                    clear hHeld
                    go_wp2_with fail
                    go_meet
                    exact ⟨_, _, _, rfl, rfl, rfl, V13, V14, V15, BX, ⟨by omega, by omega, by omega⟩⟩
                ·
                  simp only [List.getElem_toArray, List.getElem_cons_zero, List.getElem_cons_succ]
                  go_simp
                  have lt_V14_V15 := V15.lt
                  have sz_V14 := BX.size
                  refine ent1 _ _ _ (Q := fun V => K _ V) ?_
                  intro x3 hb hs_ V14
                  replace V15 := Va.after hb V15
                  replace BX := step BX hb
                  clear hb hs_
                  refine hK.out _ _ (LS.out _ BX) (fun hHeld => ?_)
                  clear hK K
                  refine wpAnyH_ready (rs := [9]) (by kernel_rfl) (by simp) ?_
                  refine AllReadyH.cons rfl (fun K hK => ?_) AllReadyH.nil
                  ·
                    simp only [List.getElem_toArray, List.getElem_cons_zero, List.getElem_cons_succ]
                    go_simp
                    have lt_V13_V15 := V15.lt
                    have lt_V13_V14 := V14.lt
                    have sz_V13 := BX.size
                    refine ent1 _ _ _ (Q := fun V => K _ V) ?_
                    intro x4 hb hs_ V13
                    replace V15 := Va.after hb V15
                    replace V14 := Va.after hb V14
                    replace BX := step BX hb
                    clear hb hs_
                    refine hK.out _ _ (LS.out _ BX) (fun hHeld => ?_)
                    clear hK K
                    have c_V13 := V13.c0
                    have f0_V13 := V13.frozen 0
                    have d_V13 := V13.c1
                    have f1_V13 := V13.frozen 1
                    have l_V13 := V13.lt
                    have m_V13 := Nat.le_of_lt l_V13
                    refine wpAnyH_ready (rs := [12]) (by kernel_rfl) (by simp) ?_
                    refine AllReadyH.cons rfl (fun K hK => ?_) AllReadyH.nil
                    simp only [List.getElem_toArray, List.getElem_cons_zero, List.getElem_cons_succ]
                    go_simp
                    clear c_V13 f0_V13 d_V13 f1_V13 l_V13 m_V13
                    refine st2 V13 (.bool s0) (.slice a0 l0 c0) (Q := fun W => K _ W) ?_
                    intro x5 V' oth far
                    replace V15 := oth _ _ _ (by first | omega | assumption | (simp; omega)) V15
                    replace V14 := oth _ _ _ (by first | omega | assumption | (simp; omega)) V14
                    replace BX := far.2 _ _ (by first | omega | (simp; omega)) BX
                    replace V13 := V'
                    clear oth far
                    refine hK.out _ _ (LS.out _ BX) (fun hHeld => ?_)
                    clear hK K
                    have c_V14 := V14.c0
                    have f0_V14 := V14.frozen 0
                    have d_V14 := V14.c1
                    have f1_V14 := V14.frozen 1
                    have l_V14 := V14.lt
                    have m_V14 := Nat.le_of_lt l_V14
                    refine wpAnyH_ready (rs := [13]) (by kernel_rfl) (by simp) ?_
                    refine AllReadyH.cons rfl (fun K hK => ?_) AllReadyH.nil
                    simp only [List.getElem_toArray, List.getElem_cons_zero, List.getElem_cons_succ]
                    go_simp
                    clear c_V14 f0_V14 d_V14 f1_V14 l_V14 m_V14
                    refine st2 V14 (.bool s1) (.slice a1 l1 c1) (Q := fun W => K _ W) ?_
                    intro x6 V' oth far
                    replace V15 := oth _ _ _ (by first | omega | assumption | (simp; omega)) V15
                    replace V13 := oth _ _ _ (by first | omega | assumption | (simp; omega)) V13
                    replace BX := far.2 _ _ (by first | omega | (simp; omega)) BX
                    replace V14 := V'
                    clear oth far
                    refine hK.out _ _ (LS.out _ BX) (fun hHeld => ?_)
                    clear hK K
                    have c_V15 := V15.c0
                    have f0_V15 := V15.frozen 0
                    have d_V15 := V15.c1
                    have f1_V15 := V15.frozen 1
                    have l_V15 := V15.lt
                    have m_V15 := Nat.le_of_lt l_V15
                    refine wpAnyH_ready (rs := [14]) (by kernel_rfl) (by simp) ?_
                    refine AllReadyH.cons rfl (fun K hK => ?_) AllReadyH.nil
                    simp only [List.getElem_toArray, List.getElem_cons_zero, List.getElem_cons_succ]
                    go_simp
                    clear c_V15 f0_V15 d_V15 f1_V15 l_V15 m_V15
                    refine st2 V15 (.bool s2) (.slice a2 l2 c2) (Q := fun W => K _ W) ?_
                    intro x7 V' oth far
                    replace V14 := oth _ _ _ (by first | omega | assumption | (simp; omega)) V14
                    replace V13 := oth _ _ _ (by first | omega | assumption | (simp; omega)) V13
                    replace BX := far.2 _ _ (by first | omega | (simp; omega)) BX
                    replace V15 := V'
                    clear oth far
                    refine hK.out _ _ (LS.out _ BX) (fun hHeld => ?_)
                    clear hK K
                    refine wpAnyH_done (by kernel_rfl) ?_ _
                    refine NoPanic.normal ?_
                    clear hHeld
                    go_wp2_with fail
                    go_meet
                    exact ⟨_, _, _, rfl, rfl, rfl, V13, V14, V15, BX, ⟨by omega, by omega, by omega⟩⟩
        case rest =>
          clear BX
          obtain ⟨b13, b14, b15, rfl, rfl, rfl, V13', V14', V15', BX', hineq'⟩ := hcut
          have V13 := V13'.out
          have V14 := V14'.out
          have V15 := V15'.out
          have BX := BX'.out
          have hineq := hineq'.out
          clear V13' V14' V15' BX' hineq'
          obtain ⟨iq0, iq1, iq2⟩ := hineq
          as_aux_lemma =>
            have h0 := It.after BX L_h0.out
            have h1 := It.after BX L_h1.out
            have h2 := It.after BX L_h2.out
            have B0 := step L_B.out BX
            clear LS L_h0 L_h1 L_h2 L_B BX
            have c_V13 := V13.c0
            have f0_V13 := V13.frozen 0
            have d_V13 := V13.c1
            have f1_V13 := V13.frozen 1
            have l_V13 := V13.lt
            have m_V13 := Nat.le_of_lt l_V13
            have c_V14 := V14.c0
            have f0_V14 := V14.frozen 0
            have d_V14 := V14.c1
            have f1_V14 := V14.frozen 1
            have l_V14 := V14.lt
            have m_V14 := Nat.le_of_lt l_V14
            go_wp2_with fail
            refine (wadd_ok s0 s1 a0 a1 l0 c0 l1 c1 z0 z1 wc h0 h1 HF.out.a).mono ?_
            rintro e x1 ⟨sA, aA, lA, cA, zA, rfl, hA, eA, hb⟩
            replace V13 := Va.after hb V13
            replace V14 := Va.after hb V14
            replace V15 := Va.after hb V15
            replace h0 := It.after hb h0
            replace h1 := It.after hb h1
            replace h2 := It.after hb h2
            replace B0 := step B0 hb
            clear hb
            have EA : Hid (iv sA zA = iv s0 z0 + iv s1 z1) := eA
            clear eA
            clear c_V13 f0_V13 d_V13 f1_V13 l_V13 m_V13 c_V14 f0_V14 d_V14 f1_V14 l_V14 m_V14
            have c_V14 := V14.c0
            have f0_V14 := V14.frozen 0
            have d_V14 := V14.c1
            have f1_V14 := V14.frozen 1
            have l_V14 := V14.lt
            have m_V14 := Nat.le_of_lt l_V14
            have c_V13 := V13.c0
            have f0_V13 := V13.frozen 0
            have d_V13 := V13.c1
            have f1_V13 := V13.frozen 1
            have l_V13 := V13.lt
            have m_V13 := Nat.le_of_lt l_V13
            go_wp2_with fail
            refine ent1 x1 _ _ (Q := fun W => Calls Try.prog _ _ W _) ?_
            intro x2 hb hs_x2 XA
            replace V13 := Va.after hb V13
            replace V14 := Va.after hb V14
            replace V15 := Va.after hb V15
            replace h0 := It.after hb h0
            replace h1 := It.after hb h1
            replace h2 := It.after hb h2
            replace hA := It.after hb hA
            replace B0 := step B0 hb
            clear hb hs_x2
            refine (wadd_ok s1 s0 a1 a0 l1 c1 l0 c0 z1 z0 x2 h1 h0 HF.out.b).mono ?_
            rintro e x3 ⟨sB, aB, lB, cB, zB, rfl, hB, eB, hb⟩
            replace V13 := Va.after hb V13
            replace V14 := Va.after hb V14
            replace V15 := Va.after hb V15
            replace XA := Va.after hb XA
            replace h0 := It.after hb h0
            replace h1 := It.after hb h1
            replace h2 := It.after hb h2
            replace hA := It.after hb hA
            replace B0 := step B0 hb
            clear hb
            have EB : Hid (iv sB zB = iv s1 z1 + iv s0 z0) := eB
            clear eB
            clear c_V14 f0_V14 d_V14 f1_V14 l_V14 m_V14 c_V13 f0_V13 d_V13 f1_V13 l_V13 m_V13
            have c_XA := XA.c0
            have f0_XA := XA.frozen 0
            have d_XA := XA.c1
            have f1_XA := XA.frozen 1
            have l_XA := XA.lt
            have m_XA := Nat.le_of_lt l_XA
            have c_V14 := V14.c0
            have f0_V14 := V14.frozen 0
            have d_V14 := V14.c1
            have f1_V14 := V14.frozen 1
            have l_V14 := V14.lt
            have m_V14 := Nat.le_of_lt l_V14
            go_wp2_with fail
            refine ent1 x3 _ _ (Q := fun W => Calls Try.prog _ _ W _) ?_
            intro x4 hb hs_x4 XB
            replace V13 := Va.after hb V13
            replace V14 := Va.after hb V14
            replace V15 := Va.after hb V15
            replace XA := Va.after hb XA
            replace h0 := It.after hb h0
            replace h1 := It.after hb h1
            replace h2 := It.after hb h2
            replace hA := It.after hb hA
            replace hB := It.after hb hB
            replace B0 := step B0 hb
            clear hb hs_x4
            refine (wsub_ok sA s1 aA a1 lA cA l1 c1 zA z1 x4 hA h1 (by rw [EA.out]; exact HF.out.c)).mono ?_
            rintro e x5 ⟨sC, aC, lC, cC, zC, rfl, hC, eC, hb⟩
            replace V13 := Va.after hb V13
            replace V14 := Va.after hb V14
            replace V15 := Va.after hb V15
            replace XA := Va.after hb XA
            replace XB := Va.after hb XB
            replace h0 := It.after hb h0
            replace h1 := It.after hb h1
            replace h2 := It.after hb h2
            replace hA := It.after hb hA
            replace hB := It.after hb hB
            replace B0 := step B0 hb
            clear hb
            rw [EA.out] at eC
            have EC : Hid (iv sC zC = iv s0 z0 + iv s1 z1 - iv s1 z1) := eC
            clear eC
            clear c_XA f0_XA d_XA f1_XA l_XA m_XA c_V14 f0_V14 d_V14 f1_V14 l_V14 m_V14
            have c_V13 := V13.c0
            have f0_V13 := V13.frozen 0
            have d_V13 := V13.c1
            have f1_V13 := V13.frozen 1
            have l_V13 := V13.lt
            have m_V13 := Nat.le_of_lt l_V13
            have c_V14 := V14.c0
            have f0_V14 := V14.frozen 0
            have d_V14 := V14.c1
            have f1_V14 := V14.frozen 1
            have l_V14 := V14.lt
            have m_V14 := Nat.le_of_lt l_V14
            go_wp2_with fail
            refine ent1 x5 _ _ (Q := fun W => Calls Try.prog _ _ W _) ?_
            intro x6 hb hs_x6 XC
            replace V13 := Va.after hb V13
            replace V14 := Va.after hb V14
            replace V15 := Va.after hb V15
            replace XA := Va.after hb XA
            replace XB := Va.after hb XB
            replace h0 := It.after hb h0
            replace h1 := It.after hb h1
            replace h2 := It.after hb h2
            replace hA := It.after hb hA
            replace hB := It.after hb hB
            replace hC := It.after hb hC
            replace B0 := step B0 hb
            clear hb hs_x6
            refine (wmul_ok s0 s1 a0 a1 l0 c0 l1 c1 z0 z1 x6 h0 h1 HF.out.d).mono ?_
            rintro e x7 ⟨sD, aD, lD, cD, zD, rfl, hD, eD, hb⟩
            replace V13 := Va.after hb V13
            replace V14 := Va.after hb V14
            replace V15 := Va.after hb V15
            replace XA := Va.after hb XA
            replace XB := Va.after hb XB
            replace XC := Va.after hb XC
            replace h0 := It.after hb h0
            replace h1 := It.after hb h1
            replace h2 := It.after hb h2
            replace hA := It.after hb hA
            replace hB := It.after hb hB
            replace hC := It.after hb hC
            replace B0 := step B0 hb
            clear hb
            have ED : Hid (iv sD zD = iv s0 z0 * iv s1 z1) := eD
            clear eD
            clear c_V13 f0_V13 d_V13 f1_V13 l_V13 m_V13 c_V14 f0_V14 d_V14 f1_V14 l_V14 m_V14
            have c_V14 := V14.c0
            have f0_V14 := V14.frozen 0
            have d_V14 := V14.c1
            have f1_V14 := V14.frozen 1
            have l_V14 := V14.lt
            have m_V14 := Nat.le_of_lt l_V14
            have c_V13 := V13.c0
            have f0_V13 := V13.frozen 0
            have d_V13 := V13.c1
            have f1_V13 := V13.frozen 1
            have l_V13 := V13.lt
            have m_V13 := Nat.le_of_lt l_V13
            go_wp2_with fail
            refine ent1 x7 _ _ (Q := fun W => Calls Try.prog _ _ W _) ?_
            intro x8 hb hs_x8 XD
            replace V13 := Va.after hb V13
            replace V14 := Va.after hb V14
            replace V15 := Va.after hb V15
            replace XA := Va.after hb XA
            replace XB := Va.after hb XB
            replace XC := Va.after hb XC
            replace h0 := It.after hb h0
            replace h1 := It.after hb h1
            replace h2 := It.after hb h2
            replace hA := It.after hb hA
            replace hB := It.after hb hB
            replace hC := It.after hb hC
            replace hD := It.after hb hD
            replace B0 := step B0 hb
            clear hb hs_x8
            refine (wmul_ok s1 s0 a1 a0 l1 c1 l0 c0 z1 z0 x8 h1 h0 HF.out.e).mono ?_
            rintro e x9 ⟨sE, aE, lE, cE, zE, rfl, hE, eE, hb⟩
            replace V13 := Va.after hb V13
            replace V14 := Va.after hb V14
            replace V15 := Va.after hb V15
            replace XA := Va.after hb XA
            replace XB := Va.after hb XB
            replace XC := Va.after hb XC
            replace XD := Va.after hb XD
            replace h0 := It.after hb h0
            replace h1 := It.after hb h1
            replace h2 := It.after hb h2
            replace hA := It.after hb hA
            replace hB := It.after hb hB
            replace hC := It.after hb hC
            replace hD := It.after hb hD
            replace B0 := step B0 hb
            clear hb
            have EE : Hid (iv sE zE = iv s1 z1 * iv s0 z0) := eE
            clear eE
            clear c_V14 f0_V14 d_V14 f1_V14 l_V14 m_V14 c_V13 f0_V13 d_V13 f1_V13 l_V13 m_V13
            go_wp2_with fail
            refine ent1 x9 _ _ (Q := fun W => Code.wp Try.prog _ _ _ W) ?_
            intro x10 hb hs_x10 XE
            replace V13 := Va.after hb V13
            replace V14 := Va.after hb V14
            replace V15 := Va.after hb V15
            replace XA := Va.after hb XA
            replace XB := Va.after hb XB
            replace XC := Va.after hb XC
            replace XD := Va.after hb XD
            replace h0 := It.after hb h0
            replace h1 := It.after hb h1
            replace h2 := It.after hb h2
            replace hA := It.after hb hA
            replace hB := It.after hb hB
            replace hC := It.after hb hC
            replace hD := It.after hb hD
            replace hE := It.after hb hE
            replace B0 := step B0 hb
            clear hb hs_x10
            have ew := sign_wrap (iv s0 z0) (iv s1 z1)
            as_aux_lemma =>
              have LS : Hid (∀ W, Below x10.heap.size x10 W → (fun W => W.cell? ⟨x1.heap.size, 0, none⟩ = some (.bool sA) ∧ W.cell? ⟨x1.heap.size, 1, none⟩ = some (.slice aA lA cA) ∧ W.cell? ⟨x3.heap.size, 0, none⟩ = some (.bool sB) ∧ W.cell? ⟨x3.heap.size, 1, none⟩ = some (.slice aB lB cB) ∧ W.cell? ⟨x5.heap.size, 0, none⟩ = some (.bool sC) ∧ W.cell? ⟨x5.heap.size, 1, none⟩ = some (.slice aC lC cC) ∧ W.cell? ⟨x7.heap.size, 0, none⟩ = some (.bool sD) ∧ W.cell? ⟨x7.heap.size, 1, none⟩ = some (.slice aD lD cD) ∧ W.cell? ⟨x9.heap.size, 0, none⟩ = some (.bool sE) ∧ W.cell? ⟨x9.heap.size, 1, none⟩ = some (.slice aE lE cE) ∧ W.cell? ⟨b13, 0, none⟩ = some (.bool s0) ∧ W.cell? ⟨b13, 1, none⟩ = some (.slice a0 l0 c0) ∧ W.cell? ⟨b14, 0, none⟩ = some (.bool s1) ∧ W.cell? ⟨b14, 1, none⟩ = some (.slice a1 l1 c1)) W) := fun W hb => ⟨(Va.after hb XA).c0, (Va.after hb XA).c1, (Va.after hb XB).c0, (Va.after hb XB).c1, (Va.after hb XC).c0, (Va.after hb XC).c1, (Va.after hb XD).c0, (Va.after hb XD).c1, (Va.after hb XE).c0, (Va.after hb XE).c1, (Va.after hb V13).c0, (Va.after hb V13).c1, (Va.after hb V14).c0, (Va.after hb V14).c1⟩
              have lb_V13 := V13.lt
              have L_V13 : Hid (Va x10 (b13) 27 #[.bool s0, .slice a0 l0 c0]) := V13
              have lb_V14 := V14.lt
              have L_V14 : Hid (Va x10 (b14) 27 #[.bool s1, .slice a1 l1 c1]) := V14
              have lb_V15 := V15.lt
              have L_V15 : Hid (Va x10 (b15) 27 #[.bool s2, .slice a2 l2 c2]) := V15
              have lb_XA := XA.lt
              have L_XA : Hid (Va x10 (x1.heap.size) 27 #[.bool sA, .slice aA lA cA]) := XA
              have lb_XB := XB.lt
              have L_XB : Hid (Va x10 (x3.heap.size) 27 #[.bool sB, .slice aB lB cB]) := XB
              have lb_XC := XC.lt
              have L_XC : Hid (Va x10 (x5.heap.size) 27 #[.bool sC, .slice aC lC cC]) := XC
              have lb_XD := XD.lt
              have L_XD : Hid (Va x10 (x7.heap.size) 27 #[.bool sD, .slice aD lD cD]) := XD
              have lb_XE := XE.lt
              have L_XE : Hid (Va x10 (x9.heap.size) 27 #[.bool sE, .slice aE lE cE]) := XE
              have L_h0 : Hid (It x10 s0 a0 l0 c0 z0) := h0
              have L_h1 : Hid (It x10 s1 a1 l1 c1 z1) := h1
              have L_h2 : Hid (It x10 s2 a2 l2 c2 z2) := h2
              have L_hA : Hid (It x10 sA aA lA cA zA) := hA
              have L_hB : Hid (It x10 sB aB lB cB zB) := hB
              have L_hC : Hid (It x10 sC aC lC cC zC) := hC
              have L_hD : Hid (It x10 sD aD lD cD zD) := hD
              have L_hE : Hid (It x10 sE aE lE cE zE) := hE
              have L_B : Hid (Below w.heap.size w x10) := B0
              clear V13 V14 V15 XA XB XC XD XE h0 h1 h2 hA hB hC hD hE B0
              have BX := Below.refl x10.heap.size x10
              refine wp_region_noPanic ?_
              replace BX := Below.drew BX
              refine wp_region_held_drew (S := (fun W => W.cell? ⟨x1.heap.size, 0, none⟩ = some (.bool sA) ∧ W.cell? ⟨x1.heap.size, 1, none⟩ = some (.slice aA lA cA) ∧ W.cell? ⟨x3.heap.size, 0, none⟩ = some (.bool sB) ∧ W.cell? ⟨x3.heap.size, 1, none⟩ = some (.slice aB lB cB) ∧ W.cell? ⟨x5.heap.size, 0, none⟩ = some (.bool sC) ∧ W.cell? ⟨x5.heap.size, 1, none⟩ = some (.slice aC lC cC) ∧ W.cell? ⟨x7.heap.size, 0, none⟩ = some (.bool sD) ∧ W.cell? ⟨x7.heap.size, 1, none⟩ = some (.slice aD lD cD) ∧ W.cell? ⟨x9.heap.size, 0, none⟩ = some (.bool sE) ∧ W.cell? ⟨x9.heap.size, 1, none⟩ = some (.slice aE lE cE) ∧ W.cell? ⟨b13, 0, none⟩ = some (.bool s0) ∧ W.cell? ⟨b13, 1, none⟩ = some (.slice a0 l0 c0) ∧ W.cell? ⟨b14, 0, none⟩ = some (.bool s1) ∧ W.cell? ⟨b14, 1, none⟩ = some (.slice a1 l1 c1))) (by kernel_rfl) (LS.out _ BX) (fun hHeld => ?_)
              obtain ⟨x11, hxd⟩ : ∃ xd, xd = x10.drew := ⟨_, rfl⟩
              rw [← hxd] at BX hHeld ⊢
              clear hxd
              refine wpAnyH_take (i := 0) (v := ?_) rfl (by kernel_rfl) (by kernel_rfl) (by kernel_rfl) (fun _ _ _ h => h) (Or.inl ⟨by rfl, ?_⟩) hHeld ?_
              rotate_left
              · (intro W hSw; (try dsimp only at hSw); go_simp; all_goals (with_reducible rfl))
              simp only [List.getElem_toArray, List.getElem_cons_zero, Act.put, List.setIfInBounds_toArray, List.set_cons_zero, List.set_cons_succ]
              refine wpAnyH_take (i := 1) (v := ?_) rfl (by kernel_rfl) (by kernel_rfl) (by kernel_rfl) (fun _ _ _ h => h) (Or.inl ⟨by rfl, ?_⟩) hHeld ?_
              rotate_left
              · (intro W hSw; (try dsimp only at hSw); go_simp; all_goals (with_reducible rfl))
              simp only [List.getElem_toArray, List.getElem_cons_zero, List.getElem_cons_succ, Act.put, List.setIfInBounds_toArray, List.set_cons_zero, List.set_cons_succ]
              refine wpAnyH_take (i := 2) (v := ?_) rfl (by kernel_rfl) (by kernel_rfl) (by kernel_rfl) (fun _ _ _ h => h) (Or.inl ⟨by rfl, ?_⟩) hHeld ?_
              rotate_left
              · (intro W hSw; (try dsimp only at hSw); go_simp; all_goals (with_reducible rfl))
              simp only [List.getElem_toArray, List.getElem_cons_zero, List.getElem_cons_succ, Act.put, List.setIfInBounds_toArray, List.set_cons_zero, List.set_cons_succ]
              refine wpAnyH_take (i := 3) (v := ?_) rfl (by kernel_rfl) (by kernel_rfl) (by kernel_rfl) (fun _ _ _ h => h) (Or.inl ⟨by rfl, ?_⟩) hHeld ?_
              rotate_left
              · (intro W hSw; (try dsimp only at hSw); go_simp; all_goals (with_reducible rfl))
              simp only [List.getElem_toArray, List.getElem_cons_zero, List.getElem_cons_succ, Act.put, List.setIfInBounds_toArray, List.set_cons_zero, List.set_cons_succ]
              refine wpAnyH_take (i := 4) (v := ?_) rfl (by kernel_rfl) (by kernel_rfl) (by kernel_rfl) (fun _ _ _ h => h) (Or.inl ⟨by rfl, ?_⟩) hHeld ?_
              rotate_left
              · (intro W hSw; (try dsimp only at hSw); go_simp; all_goals (with_reducible rfl))
              simp only [List.getElem_toArray, List.getElem_cons_zero, List.getElem_cons_succ, Act.put, List.setIfInBounds_toArray, List.set_cons_zero, List.set_cons_succ]
              refine wpAnyH_take (i := 5) (v := ?_) rfl (by kernel_rfl) (by kernel_rfl) (by kernel_rfl) (fun _ _ _ h => h) (Or.inl ⟨by rfl, ?_⟩) hHeld ?_
              rotate_left
              · (intro W hSw; (try dsimp only at hSw); go_simp; all_goals (with_reducible rfl))
              simp only [List.getElem_toArray, List.getElem_cons_zero, List.getElem_cons_succ, Act.put, List.setIfInBounds_toArray, List.set_cons_zero, List.set_cons_succ]
              refine wpAnyH_take (i := 6) (v := ?_) rfl (by kernel_rfl) (by kernel_rfl) (by kernel_rfl) (fun _ _ _ h => h) (Or.inl ⟨by rfl, ?_⟩) hHeld ?_
              rotate_left
              · (intro W hSw; (try dsimp only at hSw); go_simp; all_goals (with_reducible rfl))
              simp only [List.getElem_toArray, List.getElem_cons_zero, List.getElem_cons_succ, Act.put, List.setIfInBounds_toArray, List.set_cons_zero, List.set_cons_succ]
              refine wpAnyH_take (i := 7) (v := ?_) rfl (by kernel_rfl) (by kernel_rfl) (by kernel_rfl) (fun _ _ _ h => h) (Or.inl ⟨by rfl, ?_⟩) hHeld ?_
              rotate_left
              · (intro W hSw; (try dsimp only at hSw); go_simp; all_goals (with_reducible rfl))
              simp only [List.getElem_toArray, List.getElem_cons_zero, List.getElem_cons_succ, Act.put, List.setIfInBounds_toArray, List.set_cons_zero, List.set_cons_succ]
              refine wpAnyH_take (i := 8) (v := ?_) rfl (by kernel_rfl) (by kernel_rfl) (by kernel_rfl) (fun _ _ _ h => h) (Or.inl ⟨by rfl, ?_⟩) hHeld ?_
              rotate_left
              · (intro W hSw; (try dsimp only at hSw); go_simp; all_goals (with_reducible rfl))
              simp only [List.getElem_toArray, List.getElem_cons_zero, List.getElem_cons_succ, Act.put, List.setIfInBounds_toArray, List.set_cons_zero, List.set_cons_succ]
              refine wpAnyH_take (i := 9) (v := ?_) rfl (by kernel_rfl) (by kernel_rfl) (by kernel_rfl) (fun _ _ _ h => h) (Or.inl ⟨by rfl, ?_⟩) hHeld ?_
              rotate_left
              · (intro W hSw; (try dsimp only at hSw); go_simp; all_goals (with_reducible rfl))
              simp only [List.getElem_toArray, List.getElem_cons_zero, List.getElem_cons_succ, Act.put, List.setIfInBounds_toArray, List.set_cons_zero, List.set_cons_succ]
              refine wpAnyH_take (i := 10) (v := ?_) rfl (by kernel_rfl) (by kernel_rfl) (by kernel_rfl) (fun _ _ _ h => h) (Or.inl ⟨by rfl, ?_⟩) hHeld ?_
              rotate_left
              · (intro W hSw; (try dsimp only at hSw); go_simp; all_goals (with_reducible rfl))
              simp only [List.getElem_toArray, List.getElem_cons_zero, List.getElem_cons_succ, Act.put, List.setIfInBounds_toArray, List.set_cons_zero, List.set_cons_succ]
              refine wpAnyH_take (i := 11) (v := ?_) rfl (by kernel_rfl) (by kernel_rfl) (by kernel_rfl) (fun _ _ _ h => h) (Or.inl ⟨by rfl, ?_⟩) hHeld ?_
              rotate_left
              · (intro W hSw; (try dsimp only at hSw); go_simp; all_goals (with_reducible rfl))
              simp only [List.getElem_toArray, List.getElem_cons_zero, List.getElem_cons_succ, Act.put, List.setIfInBounds_toArray, List.set_cons_zero, List.set_cons_succ]
              refine wpAnyH_take (i := 12) (v := ?_) rfl (by kernel_rfl) (by kernel_rfl) (by kernel_rfl) (fun _ _ _ h => h) (Or.inl ⟨by rfl, ?_⟩) hHeld ?_
              rotate_left
              · (intro W hSw; (try dsimp only at hSw); go_simp; all_goals (with_reducible rfl))
              simp only [List.getElem_toArray, List.getElem_cons_zero, List.getElem_cons_succ, Act.put, List.setIfInBounds_toArray, List.set_cons_zero, List.set_cons_succ]
              refine wpAnyH_take (i := 13) (v := ?_) rfl (by kernel_rfl) (by kernel_rfl) (by kernel_rfl) (fun _ _ _ h => h) (Or.inl ⟨by rfl, ?_⟩) hHeld ?_
              rotate_left
              · (intro W hSw; (try dsimp only at hSw); go_simp; all_goals (with_reducible rfl))
              simp only [List.getElem_toArray, List.getElem_cons_zero, List.getElem_cons_succ, Act.put, List.setIfInBounds_toArray, List.set_cons_zero, List.set_cons_succ]
              refine wpAnyH_take (i := 14) (v := ?_) rfl (by kernel_rfl) (by kernel_rfl) (by kernel_rfl) (fun _ _ _ h => h) (Or.inl ⟨by rfl, ?_⟩) hHeld ?_
              rotate_left
              · (intro W hSw; (try dsimp only at hSw); go_simp; all_goals (with_reducible rfl))
              simp only [List.getElem_toArray, List.getElem_cons_zero, List.getElem_cons_succ, Act.put, List.setIfInBounds_toArray, List.set_cons_zero, List.set_cons_succ]
              refine wpAnyH_take (i := 15) (v := ?_) rfl (by kernel_rfl) (by kernel_rfl) (by kernel_rfl) (fun _ _ _ h => h) (Or.inl ⟨by rfl, ?_⟩) hHeld ?_
              rotate_left
              · (intro W hSw; (try dsimp only at hSw); go_simp; all_goals (with_reducible rfl))
              simp only [List.getElem_toArray, List.getElem_cons_zero, List.getElem_cons_succ, Act.put, List.setIfInBounds_toArray, List.set_cons_zero, List.set_cons_succ]
              refine wpAnyH_take (i := 16) (v := ?_) rfl (by kernel_rfl) (by kernel_rfl) (by kernel_rfl) (fun _ _ _ h => h) (Or.inl ⟨by rfl, ?_⟩) hHeld ?_
              rotate_left
              · (intro W hSw; (try dsimp only at hSw); go_simp; all_goals (with_reducible rfl))
              simp only [List.getElem_toArray, List.getElem_cons_zero, List.getElem_cons_succ, Act.put, List.setIfInBounds_toArray, List.set_cons_zero, List.set_cons_succ]
              refine wpAnyH_take (i := 17) (v := ?_) rfl (by kernel_rfl) (by kernel_rfl) (by kernel_rfl) (fun _ _ _ h => h) (Or.inl ⟨by rfl, ?_⟩) hHeld ?_
              rotate_left
              · (intro W hSw; (try dsimp only at hSw); go_simp; all_goals (with_reducible rfl))
              simp only [List.getElem_toArray, List.getElem_cons_zero, List.getElem_cons_succ, Act.put, List.setIfInBounds_toArray, List.set_cons_zero, List.set_cons_succ]
              refine wpAnyH_take (i := 18) (v := ?_) rfl (by kernel_rfl) (by kernel_rfl) (by kernel_rfl) (fun _ _ _ h => h) (Or.inl ⟨by rfl, ?_⟩) hHeld ?_
              rotate_left
              · (intro W hSw; (try dsimp only at hSw); go_simp; all_goals (with_reducible rfl))
              simp only [List.getElem_toArray, List.getElem_cons_zero, List.getElem_cons_succ, Act.put, List.setIfInBounds_toArray, List.set_cons_zero, List.set_cons_succ]
              refine wpAnyH_take (i := 19) (v := ?_) rfl (by kernel_rfl) (by kernel_rfl) (by kernel_rfl) (fun _ _ _ h => h) (Or.inl ⟨by rfl, ?_⟩) hHeld ?_
              rotate_left
              · (intro W hSw; (try dsimp only at hSw); go_simp; all_goals (with_reducible rfl))
              simp only [List.getElem_toArray, List.getElem_cons_zero, List.getElem_cons_succ, Act.put, List.setIfInBounds_toArray, List.set_cons_zero, List.set_cons_succ]
              refine wpAnyH_take (i := 20) (v := ?_) rfl (by kernel_rfl) (by kernel_rfl) (by kernel_rfl) (fun _ _ _ h => h) (Or.inl ⟨by rfl, ?_⟩) hHeld ?_
              rotate_left
              · (intro W hSw; (try dsimp only at hSw); go_simp; all_goals (with_reducible rfl))
              simp only [List.getElem_toArray, List.getElem_cons_zero, List.getElem_cons_succ, Act.put, List.setIfInBounds_toArray, List.set_cons_zero, List.set_cons_succ]
              refine wpAnyH_ready (rs := [21]) (by kernel_rfl) (by simp) ?_
              refine AllReadyH.cons rfl (fun K hK => ?_) AllReadyH.nil
              simp only [List.getElem_toArray, List.getElem_cons_zero, List.getElem_cons_succ]
              go_simp
              refine (wsame_ok sA sB aA aB lA cA lB cB zA zB _ (It.after BX L_hA.out) (It.after BX L_hB.out) (by rw [EA.out, EB.out]; exact Int.add_comm ..)).mono ?_
              rintro e x12 ⟨rfl, hb⟩
              replace BX := step BX hb
              clear hb
              try go_wp2_with fail
              refine hK.out _ _ (LS.out _ BX) (fun hHeld => ?_)
              clear hK K
              refine wpAnyH_take (i := 22) (v := ?_) rfl (by kernel_rfl) (by kernel_rfl) (by kernel_rfl) (fun _ _ _ h => h) (Or.inl ⟨by rfl, ?_⟩) hHeld ?_
              rotate_left
              · (intro W hSw; (try dsimp only at hSw); go_simp; all_goals (with_reducible rfl))
              simp only [List.getElem_toArray, List.getElem_cons_zero, List.getElem_cons_succ, Act.put, List.setIfInBounds_toArray, List.set_cons_zero, List.set_cons_succ]
              refine wpAnyH_take (i := 23) (v := ?_) rfl (by kernel_rfl) (by kernel_rfl) (by kernel_rfl) (fun _ _ _ h => h) (Or.inl ⟨by rfl, ?_⟩) hHeld ?_
              rotate_left
              · (intro W hSw; (try dsimp only at hSw); go_simp; all_goals (with_reducible rfl))
              simp only [List.getElem_toArray, List.getElem_cons_zero, List.getElem_cons_succ, Act.put, List.setIfInBounds_toArray, List.set_cons_zero, List.set_cons_succ]
              refine wpAnyH_take (i := 24) (v := ?_) rfl (by kernel_rfl) (by kernel_rfl) (by kernel_rfl) (fun _ _ _ h => h) (Or.inl ⟨by rfl, ?_⟩) hHeld ?_
              rotate_left
              · (intro W hSw; (try dsimp only at hSw); go_simp; all_goals (with_reducible rfl))
              simp only [List.getElem_toArray, List.getElem_cons_zero, List.getElem_cons_succ, Act.put, List.setIfInBounds_toArray, List.set_cons_zero, List.set_cons_succ]
              refine wpAnyH_take (i := 25) (v := ?_) rfl (by kernel_rfl) (by kernel_rfl) (by kernel_rfl) (fun _ _ _ h => h) (Or.inl ⟨by rfl, ?_⟩) hHeld ?_
              rotate_left
              · (intro W hSw; (try dsimp only at hSw); go_simp; all_goals (with_reducible rfl))
              simp only [List.getElem_toArray, List.getElem_cons_zero, List.getElem_cons_succ, Act.put, List.setIfInBounds_toArray, List.set_cons_zero, List.set_cons_succ]
              refine wpAnyH_take (i := 26) (v := ?_) rfl (by kernel_rfl) (by kernel_rfl) (by kernel_rfl) (fun _ _ _ h => h) (Or.inl ⟨by rfl, ?_⟩) hHeld ?_
              rotate_left
              · (intro W hSw; (try dsimp only at hSw); go_simp; all_goals (with_reducible rfl))
              simp only [List.getElem_toArray, List.getElem_cons_zero, List.getElem_cons_succ, Act.put, List.setIfInBounds_toArray, List.set_cons_zero, List.set_cons_succ]
              refine wpAnyH_ready (rs := [27]) (by kernel_rfl) (by simp) ?_
              refine AllReadyH.cons rfl (fun K hK => ?_) AllReadyH.nil
              simp only [List.getElem_toArray, List.getElem_cons_zero, List.getElem_cons_succ]
              go_simp
              refine (wsame_ok sC s0 aC a0 lC cC l0 c0 zC z0 _ (It.after BX L_hC.out) (It.after BX L_h0.out) (by rw [EC.out]; omega)).mono ?_
              rintro e x13 ⟨rfl, hb⟩
              replace BX := step BX hb
              clear hb
              try go_wp2_with fail
              refine hK.out _ _ (LS.out _ BX) (fun hHeld => ?_)
              clear hK K
              refine wpAnyH_take (i := 28) (v := ?_) rfl (by kernel_rfl) (by kernel_rfl) (by kernel_rfl) (fun _ _ _ h => h) (Or.inl ⟨by rfl, ?_⟩) hHeld ?_
              rotate_left
              · (intro W hSw; (try dsimp only at hSw); go_simp; all_goals (with_reducible rfl))
              simp only [List.getElem_toArray, List.getElem_cons_zero, List.getElem_cons_succ, Act.put, List.setIfInBounds_toArray, List.set_cons_zero, List.set_cons_succ]
              refine wpAnyH_take (i := 29) (v := ?_) rfl (by kernel_rfl) (by kernel_rfl) (by kernel_rfl) (fun _ _ _ h => h) (Or.inl ⟨by rfl, ?_⟩) hHeld ?_
              rotate_left
              · (intro W hSw; (try dsimp only at hSw); go_simp; all_goals (with_reducible rfl))
              simp only [List.getElem_toArray, List.getElem_cons_zero, List.getElem_cons_succ, Act.put, List.setIfInBounds_toArray, List.set_cons_zero, List.set_cons_succ]
              refine wpAnyH_take (i := 30) (v := ?_) rfl (by kernel_rfl) (by kernel_rfl) (by kernel_rfl) (fun _ _ _ h => h) (Or.inl ⟨by rfl, ?_⟩) hHeld ?_
              rotate_left
              · (intro W hSw; (try dsimp only at hSw); go_simp; all_goals (with_reducible rfl))
              simp only [List.getElem_toArray, List.getElem_cons_zero, List.getElem_cons_succ, Act.put, List.setIfInBounds_toArray, List.set_cons_zero, List.set_cons_succ]
              refine wpAnyH_take (i := 31) (v := ?_) rfl (by kernel_rfl) (by kernel_rfl) (by kernel_rfl) (fun _ _ _ h => h) (Or.inl ⟨by rfl, ?_⟩) hHeld ?_
              rotate_left
              · (intro W hSw; (try dsimp only at hSw); go_simp; all_goals (with_reducible rfl))
              simp only [List.getElem_toArray, List.getElem_cons_zero, List.getElem_cons_succ, Act.put, List.setIfInBounds_toArray, List.set_cons_zero, List.set_cons_succ]
              refine wpAnyH_take (i := 32) (v := ?_) rfl (by kernel_rfl) (by kernel_rfl) (by kernel_rfl) (fun _ _ _ h => h) (Or.inl ⟨by rfl, ?_⟩) hHeld ?_
              rotate_left
              · (intro W hSw; (try dsimp only at hSw); go_simp; all_goals (with_reducible rfl))
              simp only [List.getElem_toArray, List.getElem_cons_zero, List.getElem_cons_succ, Act.put, List.setIfInBounds_toArray, List.set_cons_zero, List.set_cons_succ]
              refine wpAnyH_ready (rs := [33]) (by kernel_rfl) (by simp) ?_
              refine AllReadyH.cons rfl (fun K hK => ?_) AllReadyH.nil
              simp only [List.getElem_toArray, List.getElem_cons_zero, List.getElem_cons_succ]
              go_simp
              refine (wsame_ok sD sE aD aE lD cD lE cE zD zE _ (It.after BX L_hD.out) (It.after BX L_hE.out) (by rw [ED.out, EE.out]; exact Int.mul_comm ..)).mono ?_
              rintro e x14 ⟨rfl, hb⟩
              replace BX := step BX hb
              clear hb
              try go_wp2_with fail
              refine hK.out _ _ (LS.out _ BX) (fun hHeld => ?_)
              clear hK K
              refine wpAnyH_take (i := 34) (v := ?_) rfl (by kernel_rfl) (by kernel_rfl) (by kernel_rfl) (fun _ _ _ h => h) (Or.inl ⟨by rfl, ?_⟩) hHeld ?_
              rotate_left
              · (intro W hSw; (try dsimp only at hSw); go_simp; all_goals (with_reducible rfl))
              simp only [List.getElem_toArray, List.getElem_cons_zero, List.getElem_cons_succ, Act.put, List.setIfInBounds_toArray, List.set_cons_zero, List.set_cons_succ]
              refine wpAnyH_take (i := 35) (v := ?_) rfl (by kernel_rfl) (by kernel_rfl) (by kernel_rfl) (fun _ _ _ h => h) (Or.inl ⟨by rfl, ?_⟩) hHeld ?_
              rotate_left
              · (intro W hSw; (try dsimp only at hSw); go_simp; all_goals (with_reducible rfl))
              simp only [List.getElem_toArray, List.getElem_cons_zero, List.getElem_cons_succ, Act.put, List.setIfInBounds_toArray, List.set_cons_zero, List.set_cons_succ]
              refine wpAnyH_take (i := 36) (v := ?_) rfl (by kernel_rfl) (by kernel_rfl) (by kernel_rfl) (fun _ _ _ h => h) (Or.inl ⟨by rfl, ?_⟩) hHeld ?_
              rotate_left
              · (intro W hSw; (try dsimp only at hSw); go_simp; all_goals (with_reducible rfl))
              simp only [List.getElem_toArray, List.getElem_cons_zero, List.getElem_cons_succ, Act.put, List.setIfInBounds_toArray, List.set_cons_zero, List.set_cons_succ]
              refine wpAnyH_take (i := 37) (v := ?_) rfl (by kernel_rfl) (by kernel_rfl) (by kernel_rfl) (fun _ _ _ h => h) (Or.inl ⟨by rfl, ?_⟩) hHeld ?_
              rotate_left
              · (intro W hSw; (try dsimp only at hSw); go_simp; all_goals (with_reducible rfl))
              simp only [List.getElem_toArray, List.getElem_cons_zero, List.getElem_cons_succ, Act.put, List.setIfInBounds_toArray, List.set_cons_zero, List.set_cons_succ]
              refine wpAnyH_take (i := 39) (v := ?_) rfl (by kernel_rfl) (by kernel_rfl) (by kernel_rfl) (fun _ _ _ h => h) (Or.inl ⟨by rfl, ?_⟩) hHeld ?_
              rotate_left
              · (intro W hSw; (try dsimp only at hSw); go_simp; all_goals (with_reducible rfl))
              simp only [List.getElem_toArray, List.getElem_cons_zero, List.getElem_cons_succ, Act.put, List.setIfInBounds_toArray, List.set_cons_zero, List.set_cons_succ]
              refine wpAnyH_take (i := 41) (v := ?_) rfl (by kernel_rfl) (by kernel_rfl) (by kernel_rfl) (fun _ _ _ h => h) (Or.inl ⟨by rfl, ?_⟩) hHeld ?_
              rotate_left
              · (intro W hSw; (try dsimp only at hSw); go_simp; all_goals (with_reducible rfl))
              simp only [List.getElem_toArray, List.getElem_cons_zero, List.getElem_cons_succ, Act.put, List.setIfInBounds_toArray, List.set_cons_zero, List.set_cons_succ]
              refine wpAnyH_ready (rs := [38]) (by kernel_rfl) (by simp) ?_
              refine AllReadyH.cons rfl (fun K hK => ?_) AllReadyH.nil
              simp only [List.getElem_toArray, List.getElem_cons_zero, List.getElem_cons_succ]
              go_simp
              refine (wsign_any sD aD lD cD zD _ (It.after BX L_hD.out)).mono ?_
              rintro e x15 ⟨rfl, hb⟩
              replace BX := step BX hb
              clear hb
              rw [ED.out, Int.sign_mul]
              try go_wp2_with fail
              refine hK.out _ _ (LS.out _ BX) (fun hHeld => ?_)
              clear hK K
              refine wpAnyH_ready (rs := [40]) (by kernel_rfl) (by simp) ?_
              refine AllReadyH.cons rfl (fun K hK => ?_) AllReadyH.nil
              simp only [List.getElem_toArray, List.getElem_cons_zero, List.getElem_cons_succ]
              go_simp
              refine (wsign_any s0 a0 l0 c0 z0 _ (It.after BX L_h0.out)).mono ?_
              rintro e x16 ⟨rfl, hb⟩
              replace BX := step BX hb
              clear hb
              try go_wp2_with fail
              refine hK.out _ _ (LS.out _ BX) (fun hHeld => ?_)
              clear hK K
              refine wpAnyH_ready (rs := [42]) (by kernel_rfl) (by simp) ?_
              refine AllReadyH.cons rfl (fun K hK => ?_) AllReadyH.nil
              simp only [List.getElem_toArray, List.getElem_cons_zero, List.getElem_cons_succ]
              go_simp
              refine (wsign_any s1 a1 l1 c1 z1 _ (It.after BX L_h1.out)).mono ?_
              rintro e x17 ⟨rfl, hb⟩
              replace BX := step BX hb
              clear hb
              try go_wp2_with fail
              refine hK.out _ _ (LS.out _ BX) (fun hHeld => ?_)
              clear hK K
              refine wpAnyH_take (i := 43) (v := .int .i64 (Int.sign (iv s0 z0) * Int.sign (iv s1 z1))) rfl (by kernel_rfl) (by kernel_rfl) (by kernel_rfl) (fun _ _ _ h => h) (Or.inl ⟨by rfl, ?_⟩) hHeld ?_
              · (intro W hSw; (try dsimp only at hSw); go_simp; all_goals (first | rfl | rw [ew] | simp [ew]))
              simp only [List.getElem_toArray, List.getElem_cons_zero, List.getElem_cons_succ, Act.put, List.setIfInBounds_toArray, List.set_cons_zero, List.set_cons_succ]
              refine wpAnyH_take (i := 44) (v := .bool false) rfl (by kernel_rfl) (by kernel_rfl) (by kernel_rfl) (fun _ _ _ h => h) (Or.inl ⟨by rfl, ?_⟩) hHeld ?_
              · (intro W hSw; (try dsimp only at hSw); go_simp; all_goals (first | rfl | simp))
              simp only [List.getElem_toArray, List.getElem_cons_zero, List.getElem_cons_succ, Act.put, List.setIfInBounds_toArray, List.set_cons_zero, List.set_cons_succ]
              refine wpAnyH_take (i := 45) (v := ?_) rfl (by kernel_rfl) (by kernel_rfl) (by kernel_rfl) (fun _ _ _ h => h) (Or.inl ⟨by rfl, ?_⟩) hHeld ?_
              rotate_left
              · (intro W hSw; (try dsimp only at hSw); go_simp; all_goals (with_reducible rfl))
              simp only [List.getElem_toArray, List.getElem_cons_zero, List.getElem_cons_succ, Act.put, List.setIfInBounds_toArray, List.set_cons_zero, List.set_cons_succ]
              refine wpAnyH_done (by kernel_rfl) ?_ _
              refine NoPanic.normal ?_
              clear hHeld
              clear ew EA EB EC EE
              have V13 := Va.after BX L_V13.out
              have V14 := Va.after BX L_V14.out
              have V15 := Va.after BX L_V15.out
              have XD := Va.after BX L_XD.out
              have h0 := It.after BX L_h0.out
              have h1 := It.after BX L_h1.out
              have h2 := It.after BX L_h2.out
              have hD := It.after BX L_hD.out
              have B0 := step L_B.out BX
              clear LS L_B BX L_XA L_XB L_XC L_XD L_XE L_V13 L_V14 L_V15 L_h0 L_h1 L_h2 L_hA L_hB L_hC L_hD L_hE
              as_aux_lemma =>
                have c_V14 := V14.c0
                have f0_V14 := V14.frozen 0
                have d_V14 := V14.c1
                have f1_V14 := V14.frozen 1
                have l_V14 := V14.lt
                have m_V14 := Nat.le_of_lt l_V14
                have c_V15 := V15.c0
                have f0_V15 := V15.frozen 0
                have d_V15 := V15.c1
                have f1_V15 := V15.frozen 1
                have l_V15 := V15.lt
                have m_V15 := Nat.le_of_lt l_V15
                go_wp2_with fail
                refine (wadd_ok s1 s2 a1 a2 l1 c1 l2 c2 z1 z2 x17 h1 h2 HF.out.f).mono ?_
                rintro e x18 ⟨sF, aF, lF, cF, zF, rfl, hF, eF, hb⟩
                replace V13 := Va.after hb V13
                replace V14 := Va.after hb V14
                replace V15 := Va.after hb V15
                replace XD := Va.after hb XD
                replace h0 := It.after hb h0
                replace h1 := It.after hb h1
                replace h2 := It.after hb h2
                replace hD := It.after hb hD
                replace B0 := step B0 hb
                clear hb
                have EF : Hid (iv sF zF = iv s1 z1 + iv s2 z2) := eF
                clear eF
                clear c_V14 f0_V14 d_V14 f1_V14 l_V14 m_V14 c_V15 f0_V15 d_V15 f1_V15 l_V15 m_V15
                have c_V13 := V13.c0
                have f0_V13 := V13.frozen 0
                have d_V13 := V13.c1
                have f1_V13 := V13.frozen 1
                have l_V13 := V13.lt
                have m_V13 := Nat.le_of_lt l_V13
                go_wp2_with fail
                refine ent1 x18 _ _ (Q := fun W => Calls Try.prog _ _ W _) ?_
                intro x19 hb hs_x19 XF
                replace V13 := Va.after hb V13
                replace V14 := Va.after hb V14
                replace V15 := Va.after hb V15
                replace XD := Va.after hb XD
                replace h0 := It.after hb h0
                replace h1 := It.after hb h1
                replace h2 := It.after hb h2
                replace hD := It.after hb hD
                replace hF := It.after hb hF
                replace B0 := step B0 hb
                clear hb hs_x19
                refine (wmul_ok s0 sF a0 aF l0 c0 lF cF z0 zF x19 h0 hF (by rw [EF.out]; exact HF.out.g)).mono ?_
                rintro e x20 ⟨sG, aG, lG, cG, zG, rfl, hG, eG, hb⟩
                replace V13 := Va.after hb V13
                replace V14 := Va.after hb V14
                replace V15 := Va.after hb V15
                replace XD := Va.after hb XD
                replace XF := Va.after hb XF
                replace h0 := It.after hb h0
                replace h1 := It.after hb h1
                replace h2 := It.after hb h2
                replace hD := It.after hb hD
                replace hF := It.after hb hF
                replace B0 := step B0 hb
                clear hb
                rw [EF.out] at eG
                have EG : Hid (iv sG zG = iv s0 z0 * (iv s1 z1 + iv s2 z2)) := eG
                clear eG
                clear c_V13 f0_V13 d_V13 f1_V13 l_V13 m_V13
                have c_V13 := V13.c0
                have f0_V13 := V13.frozen 0
                have d_V13 := V13.c1
                have f1_V13 := V13.frozen 1
                have l_V13 := V13.lt
                have m_V13 := Nat.le_of_lt l_V13
                have c_V15 := V15.c0
                have f0_V15 := V15.frozen 0
                have d_V15 := V15.c1
                have f1_V15 := V15.frozen 1
                have l_V15 := V15.lt
                have m_V15 := Nat.le_of_lt l_V15
                go_wp2_with fail
                refine ent1 x20 _ _ (Q := fun W => Calls Try.prog _ _ W _) ?_
                intro x21 hb hs_x21 XG
                replace V13 := Va.after hb V13
                replace V14 := Va.after hb V14
                replace V15 := Va.after hb V15
                replace XD := Va.after hb XD
                replace XF := Va.after hb XF
                replace h0 := It.after hb h0
                replace h1 := It.after hb h1
                replace h2 := It.after hb h2
                replace hD := It.after hb hD
                replace hF := It.after hb hF
                replace hG := It.after hb hG
                replace B0 := step B0 hb
                clear hb hs_x21
                refine (wmul_ok s0 s2 a0 a2 l0 c0 l2 c2 z0 z2 x21 h0 h2 HF.out.h).mono ?_
                rintro e x22 ⟨sH, aH, lH, cH, zH, rfl, hH, eH, hb⟩
                replace V13 := Va.after hb V13
                replace V14 := Va.after hb V14
                replace V15 := Va.after hb V15
                replace XD := Va.after hb XD
                replace XF := Va.after hb XF
                replace XG := Va.after hb XG
                replace h0 := It.after hb h0
                replace h1 := It.after hb h1
                replace h2 := It.after hb h2
                replace hD := It.after hb hD
                replace hF := It.after hb hF
                replace hG := It.after hb hG
                replace B0 := step B0 hb
                clear hb
                have EH : Hid (iv sH zH = iv s0 z0 * iv s2 z2) := eH
                clear eH
                clear c_V13 f0_V13 d_V13 f1_V13 l_V13 m_V13 c_V15 f0_V15 d_V15 f1_V15 l_V15 m_V15
                have c_XD := XD.c0
                have f0_XD := XD.frozen 0
                have d_XD := XD.c1
                have f1_XD := XD.frozen 1
                have l_XD := XD.lt
                have m_XD := Nat.le_of_lt l_XD
                go_wp2_with fail
                refine ent1 x22 _ _ (Q := fun W => Calls Try.prog _ _ W _) ?_
                intro x23 hb hs_x23 XH
                replace V13 := Va.after hb V13
                replace V14 := Va.after hb V14
                replace V15 := Va.after hb V15
                replace XD := Va.after hb XD
                replace XF := Va.after hb XF
                replace XG := Va.after hb XG
                replace h0 := It.after hb h0
                replace h1 := It.after hb h1
                replace h2 := It.after hb h2
                replace hD := It.after hb hD
                replace hF := It.after hb hF
                replace hG := It.after hb hG
                replace hH := It.after hb hH
                replace B0 := step B0 hb
                clear hb hs_x23
                refine (wadd_ok sD sH aD aH lD cD lH cH zD zH x23 hD hH (by rw [ED.out, EH.out]; exact HF.out.i)).mono ?_
                rintro e x24 ⟨sK, aK, lK, cK, zK, rfl, hK, eK, hb⟩
                replace V13 := Va.after hb V13
                replace V14 := Va.after hb V14
                replace V15 := Va.after hb V15
                replace XD := Va.after hb XD
                replace XF := Va.after hb XF
                replace XG := Va.after hb XG
                replace XH := Va.after hb XH
                replace h0 := It.after hb h0
                replace h1 := It.after hb h1
                replace h2 := It.after hb h2
                replace hD := It.after hb hD
                replace hF := It.after hb hF
                replace hG := It.after hb hG
                replace hH := It.after hb hH
                replace B0 := step B0 hb
                clear hb
                rw [ED.out, EH.out] at eK
                have EK : Hid (iv sK zK = iv s0 z0 * iv s1 z1 + iv s0 z0 * iv s2 z2) := eK
                clear eK
                clear c_XD f0_XD d_XD f1_XD l_XD m_XD
                go_wp2_with fail
                refine ent1 x24 _ _ (Q := fun W => Code.wp Try.prog _ _ _ W) ?_
                intro x25 hb hs_x25 XK
                replace V13 := Va.after hb V13
                replace V14 := Va.after hb V14
                replace V15 := Va.after hb V15
                replace XD := Va.after hb XD
                replace XF := Va.after hb XF
                replace XG := Va.after hb XG
                replace XH := Va.after hb XH
                replace h0 := It.after hb h0
                replace h1 := It.after hb h1
                replace h2 := It.after hb h2
                replace hD := It.after hb hD
                replace hF := It.after hb hF
                replace hG := It.after hb hG
                replace hH := It.after hb hH
                replace hK := It.after hb hK
                replace B0 := step B0 hb
                clear hb hs_x25
                clear ED EF EH
                clear V14 V15 XD XF XH h1 h2 hD hF hH
                have LS : Hid (∀ W, Below x25.heap.size x25 W → (fun W => W.cell? ⟨b13, 0, none⟩ = some (.bool s0) ∧ W.cell? ⟨b13, 1, none⟩ = some (.slice a0 l0 c0)) W) := fun W hb => ⟨(Va.after hb V13).c0, (Va.after hb V13).c1⟩
                have lb_V13 := V13.lt
                have L_V13 : Hid (Va x25 (b13) 27 #[.bool s0, .slice a0 l0 c0]) := V13
                have lb_XG := XG.lt
                have L_XG : Hid (Va x25 (x20.heap.size) 27 #[.bool sG, .slice aG lG cG]) := XG
                have lb_XK := XK.lt
                have L_XK : Hid (Va x25 (x24.heap.size) 27 #[.bool sK, .slice aK lK cK]) := XK
                have L_h0 : Hid (It x25 s0 a0 l0 c0 z0) := h0
                have L_hG : Hid (It x25 sG aG lG cG zG) := hG
                have L_hK : Hid (It x25 sK aK lK cK zK) := hK
                have L_B : Hid (Below w.heap.size w x25) := B0
                clear V13 XG XK h0 hG hK B0
                have BX := Below.refl x25.heap.size x25
                go_cut [32, 21] (fun s32 s21 wx => ∃ (b32 : Nat) (sM : Bool) (aM : Option Addr) (lM cM : Nat) (zM : List Int), s32 = .pointer (some ⟨b32, 0, none⟩) ∧ s21 = .int .i64 0 ∧ Hid (Va wx b32 27 #[.bool sM, .slice aM lM cM]) ∧ Hid (It wx sM aM lM cM zM) ∧ Hid (iv sM zM = 0) ∧ Hid (Below x25.heap.size x25 wx))
                case first =>
                  as_aux_lemma =>
                    refine wp_region_noPanic ?_
                    replace BX := Below.drew BX
                    refine wp_region_held_drew (S := (fun W => W.cell? ⟨b13, 0, none⟩ = some (.bool s0) ∧ W.cell? ⟨b13, 1, none⟩ = some (.slice a0 l0 c0))) (by kernel_rfl) (LS.out _ BX) (fun hHeld => ?_)
                    obtain ⟨x26, hxd⟩ : ∃ xd, xd = x25.drew := ⟨_, rfl⟩
                    rw [← hxd] at BX hHeld ⊢
                    clear hxd
                    refine wpAnyH_take (i := 0) (v := ?_) rfl (by kernel_rfl) (by kernel_rfl) (by kernel_rfl) (fun _ _ _ h => h) (Or.inl ⟨by rfl, ?_⟩) hHeld ?_
                    rotate_left
                    · (intro W hSw; (try dsimp only at hSw); go_simp; all_goals (with_reducible rfl))
                    simp only [List.getElem_toArray, List.getElem_cons_zero, Act.put, List.setIfInBounds_toArray, List.set_cons_zero, List.set_cons_succ]
                    refine wpAnyH_take (i := 1) (v := ?_) rfl (by kernel_rfl) (by kernel_rfl) (by kernel_rfl) (fun _ _ _ h => h) (Or.inl ⟨by rfl, ?_⟩) hHeld ?_
                    rotate_left
                    · (intro W hSw; (try dsimp only at hSw); go_simp; all_goals (with_reducible rfl))
                    simp only [List.getElem_toArray, List.getElem_cons_zero, List.getElem_cons_succ, Act.put, List.setIfInBounds_toArray, List.set_cons_zero, List.set_cons_succ]
                    refine wpAnyH_ready (rs := [2, 7]) (by kernel_rfl) (by simp) ?_
                    refine AllReadyH.cons rfl (fun K hK => ?_) (AllReadyH.cons rfl (fun K hK => ?_) AllReadyH.nil)
                    ·
                      simp only [List.getElem_toArray, List.getElem_cons_zero, List.getElem_cons_succ]
                      go_simp
                      refine (wneg_any s0 a0 l0 c0 z0 _ (It.after BX L_h0.out)).mono ?_
                      rintro e x27 ⟨t0, rfl, m0, n0, hb⟩
                      replace BX := step BX hb
                      clear hb
                      try go_wp2_with fail
                      refine hK.out _ _ (LS.out _ BX) (fun hHeld => ?_)
                      clear hK K
                      refine wpAnyH_ready (rs := [3, 7]) (by kernel_rfl) (by simp) ?_
                      refine AllReadyH.cons rfl (fun K hK => ?_) (AllReadyH.cons rfl (fun K hK => ?_) AllReadyH.nil)
                      ·
                        simp only [List.getElem_toArray, List.getElem_cons_zero, List.getElem_cons_succ]
                        go_simp
                        refine (wadd_ok s0 t0 a0 a0 l0 c0 l0 c0 z0 z0 _ (It.after BX L_h0.out) m0 (by rw [n0]; exact HF.out.j)).mono ?_
                        rintro e x28 ⟨sM, aM, lM, cM, zM, rfl, hM, eM, hb⟩
                        replace m0 := It.after hb m0
                        replace BX := step BX hb
                        clear hb
                        rw [n0] at eM
                        replace eM : iv sM zM = 0 := by omega
                        try go_wp2_with fail
                        refine hK.out _ _ (LS.out _ BX) (fun hHeld => ?_)
                        clear hK K
                        refine wpAnyH_take (i := 4) (v := ?_) rfl (by kernel_rfl) (by kernel_rfl) (by kernel_rfl) (fun _ _ _ h => h) (Or.inl ⟨by rfl, ?_⟩) hHeld ?_
                        rotate_left
                        · (intro W hSw; (try dsimp only at hSw); go_simp; all_goals (with_reducible rfl))
                        simp only [List.getElem_toArray, List.getElem_cons_zero, List.getElem_cons_succ, Act.put, List.setIfInBounds_toArray, List.set_cons_zero, List.set_cons_succ]
                        refine wpAnyH_take (i := 5) (v := ?_) rfl (by kernel_rfl) (by kernel_rfl) (by kernel_rfl) (fun _ _ _ h => h) (Or.inl ⟨by rfl, ?_⟩) hHeld ?_
                        rotate_left
                        · (intro W hSw; (try dsimp only at hSw); go_simp; all_goals (with_reducible rfl))
                        simp only [List.getElem_toArray, List.getElem_cons_zero, List.getElem_cons_succ, Act.put, List.setIfInBounds_toArray, List.set_cons_zero, List.set_cons_succ]
                        refine wpAnyH_take (i := 6) (v := ?_) rfl (by kernel_rfl) (by kernel_rfl) (by kernel_rfl) (fun _ _ _ h => h) (Or.inl ⟨by rfl, ?_⟩) hHeld ?_
                        rotate_left
                        · (intro W hSw; (try dsimp only at hSw); go_simp; all_goals (with_reducible rfl))
                        simp only [List.getElem_toArray, List.getElem_cons_zero, List.getElem_cons_succ, Act.put, List.setIfInBounds_toArray, List.set_cons_zero, List.set_cons_succ]
                        refine wpAnyH_ready (rs := [7]) (by kernel_rfl) (by simp) ?_
                        refine AllReadyH.cons rfl (fun K hK => ?_) AllReadyH.nil
                        ·
                          simp only [List.getElem_toArray, List.getElem_cons_zero, List.getElem_cons_succ]
                          go_simp
                          have sz_XM := BX.size
                          refine ent1 _ _ _ (Q := fun V => K _ V) ?_
                          intro x29 hb hs_ XM
                          replace m0 := It.after hb m0
                          replace hM := It.after hb hM
                          replace BX := step BX hb
                          clear hb hs_
                          refine hK.out _ _ (LS.out _ BX) (fun hHeld => ?_)
                          clear hK K
                          have c_XM := XM.c0
                          have f0_XM := XM.frozen 0
                          have d_XM := XM.c1
                          have f1_XM := XM.frozen 1
                          have l_XM := XM.lt
                          have m_XM := Nat.le_of_lt l_XM
                          refine wpAnyH_ready (rs := [8]) (by kernel_rfl) (by simp) ?_
                          refine AllReadyH.cons rfl (fun K hK => ?_) AllReadyH.nil
                          simp only [List.getElem_toArray, List.getElem_cons_zero, List.getElem_cons_succ]
                          go_simp
                          clear c_XM f0_XM d_XM f1_XM l_XM m_XM
                          refine st2 XM (.bool sM) (.slice aM lM cM) (Q := fun W => K _ W) ?_
                          intro x30 V' oth far
                          replace m0 := m0.far XM (noInt2 _ _ _ _) far.1
                          replace hM := hM.far XM (noInt2 _ _ _ _) far.1
                          replace BX := far.2 _ _ (by first | omega | (simp; omega)) BX
                          replace XM := V'
                          clear oth far
                          refine hK.out _ _ (LS.out _ BX) (fun hHeld => ?_)
                          clear hK K
                          refine wpAnyH_take (i := 9) (v := ?_) rfl (by kernel_rfl) (by kernel_rfl) (by kernel_rfl) (fun _ _ _ h => h) (Or.inl ⟨by rfl, ?_⟩) hHeld ?_
                          rotate_left
                          · (intro W hSw; (try dsimp only at hSw); go_simp; all_goals (with_reducible rfl))
                          simp only [List.getElem_toArray, List.getElem_cons_zero, List.getElem_cons_succ, Act.put, List.setIfInBounds_toArray, List.set_cons_zero, List.set_cons_succ]
                          refine wpAnyH_done (by kernel_rfl) ?_ _
                          refine NoPanic.normal ?_
                          clear hHeld
                          go_wp2_with fail
                          go_meet
                          exact ⟨_, sM, aM, lM, cM, zM, rfl, rfl, XM, hM, eM, BX⟩
                      ·
                        simp only [List.getElem_toArray, List.getElem_cons_zero, List.getElem_cons_succ]
                        go_simp
                        have sz_XM := BX.size
                        refine ent1 _ _ _ (Q := fun V => K _ V) ?_
                        intro x28 hb hs_ XM
                        replace m0 := It.after hb m0
                        replace BX := step BX hb
                        clear hb hs_
                        refine hK.out _ _ (LS.out _ BX) (fun hHeld => ?_)
                        clear hK K
                        refine wpAnyH_ready (rs := [3]) (by kernel_rfl) (by simp) ?_
                        refine AllReadyH.cons rfl (fun K hK => ?_) AllReadyH.nil
                        ·
                          simp only [List.getElem_toArray, List.getElem_cons_zero, List.getElem_cons_succ]
                          go_simp
                          refine (wadd_ok s0 t0 a0 a0 l0 c0 l0 c0 z0 z0 _ (It.after BX L_h0.out) m0 (by rw [n0]; exact HF.out.j)).mono ?_
                          rintro e x29 ⟨sM, aM, lM, cM, zM, rfl, hM, eM, hb⟩
                          replace XM := Va.after hb XM
                          replace m0 := It.after hb m0
                          replace BX := step BX hb
                          clear hb
                          rw [n0] at eM
                          replace eM : iv sM zM = 0 := by omega
                          try go_wp2_with fail
                          refine hK.out _ _ (LS.out _ BX) (fun hHeld => ?_)
                          clear hK K
                          refine wpAnyH_take (i := 4) (v := ?_) rfl (by kernel_rfl) (by kernel_rfl) (by kernel_rfl) (fun _ _ _ h => h) (Or.inl ⟨by rfl, ?_⟩) hHeld ?_
                          rotate_left
                          · (intro W hSw; (try dsimp only at hSw); go_simp; all_goals (with_reducible rfl))
                          simp only [List.getElem_toArray, List.getElem_cons_zero, List.getElem_cons_succ, Act.put, List.setIfInBounds_toArray, List.set_cons_zero, List.set_cons_succ]
                          refine wpAnyH_take (i := 5) (v := ?_) rfl (by kernel_rfl) (by kernel_rfl) (by kernel_rfl) (fun _ _ _ h => h) (Or.inl ⟨by rfl, ?_⟩) hHeld ?_
                          rotate_left
                          · (intro W hSw; (try dsimp only at hSw); go_simp; all_goals (with_reducible rfl))
                          simp only [List.getElem_toArray, List.getElem_cons_zero, List.getElem_cons_succ, Act.put, List.setIfInBounds_toArray, List.set_cons_zero, List.set_cons_succ]
                          refine wpAnyH_take (i := 6) (v := ?_) rfl (by kernel_rfl) (by kernel_rfl) (by kernel_rfl) (fun _ _ _ h => h) (Or.inl ⟨by rfl, ?_⟩) hHeld ?_
                          rotate_left
                          · (intro W hSw; (try dsimp only at hSw); go_simp; all_goals (with_reducible rfl))
                          simp only [List.getElem_toArray, List.getElem_cons_zero, List.getElem_cons_succ, Act.put, List.setIfInBounds_toArray, List.set_cons_zero, List.set_cons_succ]
                          have c_XM := XM.c0
                          have f0_XM := XM.frozen 0
                          have d_XM := XM.c1
                          have f1_XM := XM.frozen 1
                          have l_XM := XM.lt
                          have m_XM := Nat.le_of_lt l_XM
                          refine wpAnyH_ready (rs := [8]) (by kernel_rfl) (by simp) ?_
                          refine AllReadyH.cons rfl (fun K hK => ?_) AllReadyH.nil
                          simp only [List.getElem_toArray, List.getElem_cons_zero, List.getElem_cons_succ]
                          go_simp
                          clear c_XM f0_XM d_XM f1_XM l_XM m_XM
                          refine st2 XM (.bool sM) (.slice aM lM cM) (Q := fun W => K _ W) ?_
                          intro x30 V' oth far
                          replace m0 := m0.far XM (noInt2 _ _ _ _) far.1
                          replace hM := hM.far XM (noInt2 _ _ _ _) far.1
                          replace BX := far.2 _ _ (by first | omega | (simp; omega)) BX
                          replace XM := V'
                          clear oth far
                          refine hK.out _ _ (LS.out _ BX) (fun hHeld => ?_)
                          clear hK K
                          refine wpAnyH_take (i := 9) (v := ?_) rfl (by kernel_rfl) (by kernel_rfl) (by kernel_rfl) (fun _ _ _ h => h) (Or.inl ⟨by rfl, ?_⟩) hHeld ?_
                          rotate_left
                          · (intro W hSw; (try dsimp only at hSw); go_simp; all_goals (with_reducible rfl))
                          simp only [List.getElem_toArray, List.getElem_cons_zero, List.getElem_cons_succ, Act.put, List.setIfInBounds_toArray, List.set_cons_zero, List.set_cons_succ]
                          refine wpAnyH_done (by kernel_rfl) ?_ _
                          refine NoPanic.normal ?_
                          clear hHeld
                          go_wp2_with fail
                          go_meet
                          exact ⟨_, sM, aM, lM, cM, zM, rfl, rfl, XM, hM, eM, BX⟩
                    ·
                      simp only [List.getElem_toArray, List.getElem_cons_zero, List.getElem_cons_succ]
                      go_simp
                      have sz_XM := BX.size
                      refine ent1 _ _ _ (Q := fun V => K _ V) ?_
                      intro x27 hb hs_ XM
                      replace BX := step BX hb
                      clear hb hs_
                      refine hK.out _ _ (LS.out _ BX) (fun hHeld => ?_)
                      clear hK K
                      refine wpAnyH_ready (rs := [2]) (by kernel_rfl) (by simp) ?_
                      refine AllReadyH.cons rfl (fun K hK => ?_) AllReadyH.nil
                      ·
                        simp only [List.getElem_toArray, List.getElem_cons_zero, List.getElem_cons_succ]
                        go_simp
                        refine (wneg_any s0 a0 l0 c0 z0 _ (It.after BX L_h0.out)).mono ?_
                        rintro e x28 ⟨t0, rfl, m0, n0, hb⟩
                        replace XM := Va.after hb XM
                        replace BX := step BX hb
                        clear hb
                        try go_wp2_with fail
                        refine hK.out _ _ (LS.out _ BX) (fun hHeld => ?_)
                        clear hK K
                        refine wpAnyH_ready (rs := [3]) (by kernel_rfl) (by simp) ?_
                        refine AllReadyH.cons rfl (fun K hK => ?_) AllReadyH.nil
                        ·
                          simp only [List.getElem_toArray, List.getElem_cons_zero, List.getElem_cons_succ]
                          go_simp
                          refine (wadd_ok s0 t0 a0 a0 l0 c0 l0 c0 z0 z0 _ (It.after BX L_h0.out) m0 (by rw [n0]; exact HF.out.j)).mono ?_
                          rintro e x29 ⟨sM, aM, lM, cM, zM, rfl, hM, eM, hb⟩
                          replace XM := Va.after hb XM
                          replace m0 := It.after hb m0
                          replace BX := step BX hb
                          clear hb
                          rw [n0] at eM
                          replace eM : iv sM zM = 0 := by omega
                          try go_wp2_with fail
                          refine hK.out _ _ (LS.out _ BX) (fun hHeld => ?_)
                          clear hK K
                          refine wpAnyH_take (i := 4) (v := ?_) rfl (by kernel_rfl) (by kernel_rfl) (by kernel_rfl) (fun _ _ _ h => h) (Or.inl ⟨by rfl, ?_⟩) hHeld ?_
                          rotate_left
                          · (intro W hSw; (try dsimp only at hSw); go_simp; all_goals (with_reducible rfl))
                          simp only [List.getElem_toArray, List.getElem_cons_zero, List.getElem_cons_succ, Act.put, List.setIfInBounds_toArray, List.set_cons_zero, List.set_cons_succ]
                          refine wpAnyH_take (i := 5) (v := ?_) rfl (by kernel_rfl) (by kernel_rfl) (by kernel_rfl) (fun _ _ _ h => h) (Or.inl ⟨by rfl, ?_⟩) hHeld ?_
                          rotate_left
                          · (intro W hSw; (try dsimp only at hSw); go_simp; all_goals (with_reducible rfl))
                          simp only [List.getElem_toArray, List.getElem_cons_zero, List.getElem_cons_succ, Act.put, List.setIfInBounds_toArray, List.set_cons_zero, List.set_cons_succ]
                          refine wpAnyH_take (i := 6) (v := ?_) rfl (by kernel_rfl) (by kernel_rfl) (by kernel_rfl) (fun _ _ _ h => h) (Or.inl ⟨by rfl, ?_⟩) hHeld ?_
                          rotate_left
                          · (intro W hSw; (try dsimp only at hSw); go_simp; all_goals (with_reducible rfl))
                          simp only [List.getElem_toArray, List.getElem_cons_zero, List.getElem_cons_succ, Act.put, List.setIfInBounds_toArray, List.set_cons_zero, List.set_cons_succ]
                          have c_XM := XM.c0
                          have f0_XM := XM.frozen 0
                          have d_XM := XM.c1
                          have f1_XM := XM.frozen 1
                          have l_XM := XM.lt
                          have m_XM := Nat.le_of_lt l_XM
                          refine wpAnyH_ready (rs := [8]) (by kernel_rfl) (by simp) ?_
                          refine AllReadyH.cons rfl (fun K hK => ?_) AllReadyH.nil
                          simp only [List.getElem_toArray, List.getElem_cons_zero, List.getElem_cons_succ]
                          go_simp
                          clear c_XM f0_XM d_XM f1_XM l_XM m_XM
                          refine st2 XM (.bool sM) (.slice aM lM cM) (Q := fun W => K _ W) ?_
                          intro x30 V' oth far
                          replace m0 := m0.far XM (noInt2 _ _ _ _) far.1
                          replace hM := hM.far XM (noInt2 _ _ _ _) far.1
                          replace BX := far.2 _ _ (by first | omega | (simp; omega)) BX
                          replace XM := V'
                          clear oth far
                          refine hK.out _ _ (LS.out _ BX) (fun hHeld => ?_)
                          clear hK K
                          refine wpAnyH_take (i := 9) (v := ?_) rfl (by kernel_rfl) (by kernel_rfl) (by kernel_rfl) (fun _ _ _ h => h) (Or.inl ⟨by rfl, ?_⟩) hHeld ?_
                          rotate_left
                          · (intro W hSw; (try dsimp only at hSw); go_simp; all_goals (with_reducible rfl))
                          simp only [List.getElem_toArray, List.getElem_cons_zero, List.getElem_cons_succ, Act.put, List.setIfInBounds_toArray, List.set_cons_zero, List.set_cons_succ]
                          refine wpAnyH_done (by kernel_rfl) ?_ _
                          refine NoPanic.normal ?_
                          clear hHeld
                          go_wp2_with fail
                          go_meet
                          exact ⟨_, sM, aM, lM, cM, zM, rfl, rfl, XM, hM, eM, BX⟩
                case rest =>
                  clear BX
                  obtain ⟨b32, sM, aM, lM, cM, zM, rfl, rfl, XM', hM', EM', BX'⟩ := hcut
                  have XM := XM'.out
                  have hM := hM'.out
                  have EM := EM'.out
                  have BX := BX'.out
                  clear XM' hM' EM' BX'
                  go_wp2_with fail
                  as_aux_lemma =>
                    have V13 := Va.after BX L_V13.out
                    have XG := Va.after BX L_XG.out
                    have XK := Va.after BX L_XK.out
                    have h0 := It.after BX L_h0.out
                    have hG := It.after BX L_hG.out
                    have hK := It.after BX L_hK.out
                    have B0 := step L_B.out BX
                    clear LS L_B BX
                    have LS : Hid (∀ W, Below wc.heap.size wc W → (fun W => W.cell? ⟨b13, 0, none⟩ = some (.bool s0) ∧ W.cell? ⟨b13, 1, none⟩ = some (.slice a0 l0 c0)) W) := fun W hb => ⟨(Va.after hb V13).c0, (Va.after hb V13).c1⟩
                    have lb_V13 := V13.lt
                    have L_V13 : Hid (Va wc (b13) 27 #[.bool s0, .slice a0 l0 c0]) := V13
                    have lb_XG := XG.lt
                    have L_XG : Hid (Va wc (x20.heap.size) 27 #[.bool sG, .slice aG lG cG]) := XG
                    have lb_XK := XK.lt
                    have L_XK : Hid (Va wc (x24.heap.size) 27 #[.bool sK, .slice aK lK cK]) := XK
                    have lb_XM := XM.lt
                    have L_XM : Hid (Va wc (b32) 27 #[.bool sM, .slice aM lM cM]) := XM
                    have L_h0 : Hid (It wc s0 a0 l0 c0 z0) := h0
                    have L_hG : Hid (It wc sG aG lG cG zG) := hG
                    have L_hK : Hid (It wc sK aK lK cK zK) := hK
                    have L_hM : Hid (It wc sM aM lM cM zM) := hM
                    have L_B : Hid (Below w.heap.size w wc) := B0
                    clear V13 XG XK XM h0 hG hK hM B0
                    have BX := Below.refl wc.heap.size wc
                    go_cut [33, 23] (fun s33 s23 wx => ∃ (b33 : Nat) (sO : Bool) (aO : Option Addr) (lO cO : Nat) (zO : List Int), s33 = .pointer (some ⟨b33, 0, none⟩) ∧ s23 = .int .i64 0 ∧ Hid (Va wx b33 27 #[.bool sO, .slice aO lO cO]) ∧ Hid (It wx sO aO lO cO zO) ∧ Hid (iv sO zO = iv s0 z0) ∧ Hid (Below wc.heap.size wc wx))
                    case first =>
                      as_aux_lemma =>
                        refine wp_region_noPanic ?_
                        replace BX := Below.drew BX
                        refine wp_region_held_drew (S := (fun W => W.cell? ⟨b13, 0, none⟩ = some (.bool s0) ∧ W.cell? ⟨b13, 1, none⟩ = some (.slice a0 l0 c0))) (by kernel_rfl) (LS.out _ BX) (fun hHeld => ?_)
                        obtain ⟨x26, hxd⟩ : ∃ xd, xd = wc.drew := ⟨_, rfl⟩
                        rw [← hxd] at BX hHeld ⊢
                        clear hxd
                        refine wpAnyH_take (i := 0) (v := ?_) rfl (by kernel_rfl) (by kernel_rfl) (by kernel_rfl) (fun _ _ _ h => h) (Or.inl ⟨by rfl, ?_⟩) hHeld ?_
                        rotate_left
                        · (intro W hSw; (try dsimp only at hSw); go_simp; all_goals (with_reducible rfl))
                        simp only [List.getElem_toArray, List.getElem_cons_zero, Act.put, List.setIfInBounds_toArray, List.set_cons_zero, List.set_cons_succ]
                        refine wpAnyH_ready (rs := [1, 6]) (by kernel_rfl) (by simp) ?_
                        refine AllReadyH.cons rfl (fun K hK => ?_) (AllReadyH.cons rfl (fun K hK => ?_) AllReadyH.nil)
                        ·
                          simp only [List.getElem_toArray, List.getElem_cons_zero, List.getElem_cons_succ]
                          go_simp
                          refine (wsmall_any 1 (by omega) (by omega) _).mono ?_
                          rintro e x27 ⟨so, ao, lo, co, zo, rfl, ho, eo, hb⟩
                          replace BX := step BX hb
                          clear hb
                          try go_wp2_with fail
                          refine hK.out _ _ (LS.out _ BX) (fun hHeld => ?_)
                          clear hK K
                          refine wpAnyH_ready (rs := [2, 6]) (by kernel_rfl) (by simp) ?_
                          refine AllReadyH.cons rfl (fun K hK => ?_) (AllReadyH.cons rfl (fun K hK => ?_) AllReadyH.nil)
                          ·
                            simp only [List.getElem_toArray, List.getElem_cons_zero, List.getElem_cons_succ]
                            go_simp
                            refine (wmul_ok s0 so a0 ao l0 c0 lo co z0 zo _ (It.after BX L_h0.out) ho (by rw [eo]; exact HF.out.k)).mono ?_
                            rintro e x28 ⟨sO, aO, lO, cO, zO, rfl, hO, eO, hb⟩
                            replace ho := It.after hb ho
                            replace BX := step BX hb
                            clear hb
                            rw [eo, Int.mul_one] at eO
                            try go_wp2_with fail
                            refine hK.out _ _ (LS.out _ BX) (fun hHeld => ?_)
                            clear hK K
                            refine wpAnyH_take (i := 3) (v := ?_) rfl (by kernel_rfl) (by kernel_rfl) (by kernel_rfl) (fun _ _ _ h => h) (Or.inl ⟨by rfl, ?_⟩) hHeld ?_
                            rotate_left
                            · (intro W hSw; (try dsimp only at hSw); go_simp; all_goals (with_reducible rfl))
                            simp only [List.getElem_toArray, List.getElem_cons_zero, List.getElem_cons_succ, Act.put, List.setIfInBounds_toArray, List.set_cons_zero, List.set_cons_succ]
                            refine wpAnyH_take (i := 4) (v := ?_) rfl (by kernel_rfl) (by kernel_rfl) (by kernel_rfl) (fun _ _ _ h => h) (Or.inl ⟨by rfl, ?_⟩) hHeld ?_
                            rotate_left
                            · (intro W hSw; (try dsimp only at hSw); go_simp; all_goals (with_reducible rfl))
                            simp only [List.getElem_toArray, List.getElem_cons_zero, List.getElem_cons_succ, Act.put, List.setIfInBounds_toArray, List.set_cons_zero, List.set_cons_succ]
                            refine wpAnyH_take (i := 5) (v := ?_) rfl (by kernel_rfl) (by kernel_rfl) (by kernel_rfl) (fun _ _ _ h => h) (Or.inl ⟨by rfl, ?_⟩) hHeld ?_
                            rotate_left
                            · (intro W hSw; (try dsimp only at hSw); go_simp; all_goals (with_reducible rfl))
                            simp only [List.getElem_toArray, List.getElem_cons_zero, List.getElem_cons_succ, Act.put, List.setIfInBounds_toArray, List.set_cons_zero, List.set_cons_succ]
                            refine wpAnyH_ready (rs := [6]) (by kernel_rfl) (by simp) ?_
                            refine AllReadyH.cons rfl (fun K hK => ?_) AllReadyH.nil
                            ·
                              simp only [List.getElem_toArray, List.getElem_cons_zero, List.getElem_cons_succ]
                              go_simp
                              have sz_XO := BX.size
                              refine ent1 _ _ _ (Q := fun V => K _ V) ?_
                              intro x29 hb hs_ XO
                              replace ho := It.after hb ho
                              replace hO := It.after hb hO
                              replace BX := step BX hb
                              clear hb hs_
                              refine hK.out _ _ (LS.out _ BX) (fun hHeld => ?_)
                              clear hK K
                              have c_XO := XO.c0
                              have f0_XO := XO.frozen 0
                              have d_XO := XO.c1
                              have f1_XO := XO.frozen 1
                              have l_XO := XO.lt
                              have m_XO := Nat.le_of_lt l_XO
                              refine wpAnyH_ready (rs := [7]) (by kernel_rfl) (by simp) ?_
                              refine AllReadyH.cons rfl (fun K hK => ?_) AllReadyH.nil
                              simp only [List.getElem_toArray, List.getElem_cons_zero, List.getElem_cons_succ]
                              go_simp
                              clear c_XO f0_XO d_XO f1_XO l_XO m_XO
                              refine st2 XO (.bool sO) (.slice aO lO cO) (Q := fun W => K _ W) ?_
                              intro x30 V' oth far
                              replace ho := ho.far XO (noInt2 _ _ _ _) far.1
                              replace hO := hO.far XO (noInt2 _ _ _ _) far.1
                              replace BX := far.2 _ _ (by first | omega | (simp; omega)) BX
                              replace XO := V'
                              clear oth far
                              refine hK.out _ _ (LS.out _ BX) (fun hHeld => ?_)
                              clear hK K
                              refine wpAnyH_take (i := 8) (v := ?_) rfl (by kernel_rfl) (by kernel_rfl) (by kernel_rfl) (fun _ _ _ h => h) (Or.inl ⟨by rfl, ?_⟩) hHeld ?_
                              rotate_left
                              · (intro W hSw; (try dsimp only at hSw); go_simp; all_goals (with_reducible rfl))
                              simp only [List.getElem_toArray, List.getElem_cons_zero, List.getElem_cons_succ, Act.put, List.setIfInBounds_toArray, List.set_cons_zero, List.set_cons_succ]
                              refine wpAnyH_done (by kernel_rfl) ?_ _
                              refine NoPanic.normal ?_
                              clear hHeld
                              go_wp2_with fail
                              go_meet
                              exact ⟨_, sO, aO, lO, cO, zO, rfl, rfl, XO, hO, eO, BX⟩
                          ·
                            simp only [List.getElem_toArray, List.getElem_cons_zero, List.getElem_cons_succ]
                            go_simp
                            have sz_XO := BX.size
                            refine ent1 _ _ _ (Q := fun V => K _ V) ?_
                            intro x28 hb hs_ XO
                            replace ho := It.after hb ho
                            replace BX := step BX hb
                            clear hb hs_
                            refine hK.out _ _ (LS.out _ BX) (fun hHeld => ?_)
                            clear hK K
                            refine wpAnyH_ready (rs := [2]) (by kernel_rfl) (by simp) ?_
                            refine AllReadyH.cons rfl (fun K hK => ?_) AllReadyH.nil
                            ·
                              simp only [List.getElem_toArray, List.getElem_cons_zero, List.getElem_cons_succ]
                              go_simp
                              refine (wmul_ok s0 so a0 ao l0 c0 lo co z0 zo _ (It.after BX L_h0.out) ho (by rw [eo]; exact HF.out.k)).mono ?_
                              rintro e x29 ⟨sO, aO, lO, cO, zO, rfl, hO, eO, hb⟩
                              replace XO := Va.after hb XO
                              replace ho := It.after hb ho
                              replace BX := step BX hb
                              clear hb
                              rw [eo, Int.mul_one] at eO
                              try go_wp2_with fail
                              refine hK.out _ _ (LS.out _ BX) (fun hHeld => ?_)
                              clear hK K
                              refine wpAnyH_take (i := 3) (v := ?_) rfl (by kernel_rfl) (by kernel_rfl) (by kernel_rfl) (fun _ _ _ h => h) (Or.inl ⟨by rfl, ?_⟩) hHeld ?_
                              rotate_left
                              · (intro W hSw; (try dsimp only at hSw); go_simp; all_goals (with_reducible rfl))
                              simp only [List.getElem_toArray, List.getElem_cons_zero, List.getElem_cons_succ, Act.put, List.setIfInBounds_toArray, List.set_cons_zero, List.set_cons_succ]
                              refine wpAnyH_take (i := 4) (v := ?_) rfl (by kernel_rfl) (by kernel_rfl) (by kernel_rfl) (fun _ _ _ h => h) (Or.inl ⟨by rfl, ?_⟩) hHeld ?_
                              rotate_left
                              · (intro W hSw; (try dsimp only at hSw); go_simp; all_goals (with_reducible rfl))
                              simp only [List.getElem_toArray, List.getElem_cons_zero, List.getElem_cons_succ, Act.put, List.setIfInBounds_toArray, List.set_cons_zero, List.set_cons_succ]
                              refine wpAnyH_take (i := 5) (v := ?_) rfl (by kernel_rfl) (by kernel_rfl) (by kernel_rfl) (fun _ _ _ h => h) (Or.inl ⟨by rfl, ?_⟩) hHeld ?_
                              rotate_left
                              · (intro W hSw; (try dsimp only at hSw); go_simp; all_goals (with_reducible rfl))
                              simp only [List.getElem_toArray, List.getElem_cons_zero, List.getElem_cons_succ, Act.put, List.setIfInBounds_toArray, List.set_cons_zero, List.set_cons_succ]
                              have c_XO := XO.c0
                              have f0_XO := XO.frozen 0
                              have d_XO := XO.c1
                              have f1_XO := XO.frozen 1
                              have l_XO := XO.lt
                              have m_XO := Nat.le_of_lt l_XO
                              refine wpAnyH_ready (rs := [7]) (by kernel_rfl) (by simp) ?_
                              refine AllReadyH.cons rfl (fun K hK => ?_) AllReadyH.nil
                              simp only [List.getElem_toArray, List.getElem_cons_zero, List.getElem_cons_succ]
                              go_simp
                              clear c_XO f0_XO d_XO f1_XO l_XO m_XO
                              refine st2 XO (.bool sO) (.slice aO lO cO) (Q := fun W => K _ W) ?_
                              intro x30 V' oth far
                              replace ho := ho.far XO (noInt2 _ _ _ _) far.1
                              replace hO := hO.far XO (noInt2 _ _ _ _) far.1
                              replace BX := far.2 _ _ (by first | omega | (simp; omega)) BX
                              replace XO := V'
                              clear oth far
                              refine hK.out _ _ (LS.out _ BX) (fun hHeld => ?_)
                              clear hK K
                              refine wpAnyH_take (i := 8) (v := ?_) rfl (by kernel_rfl) (by kernel_rfl) (by kernel_rfl) (fun _ _ _ h => h) (Or.inl ⟨by rfl, ?_⟩) hHeld ?_
                              rotate_left
                              · (intro W hSw; (try dsimp only at hSw); go_simp; all_goals (with_reducible rfl))
                              simp only [List.getElem_toArray, List.getElem_cons_zero, List.getElem_cons_succ, Act.put, List.setIfInBounds_toArray, List.set_cons_zero, List.set_cons_succ]
                              refine wpAnyH_done (by kernel_rfl) ?_ _
                              refine NoPanic.normal ?_
                              clear hHeld
                              go_wp2_with fail
                              go_meet
                              exact ⟨_, sO, aO, lO, cO, zO, rfl, rfl, XO, hO, eO, BX⟩
                        ·
                          simp only [List.getElem_toArray, List.getElem_cons_zero, List.getElem_cons_succ]
                          go_simp
                          have sz_XO := BX.size
                          refine ent1 _ _ _ (Q := fun V => K _ V) ?_
                          intro x27 hb hs_ XO
                          replace BX := step BX hb
                          clear hb hs_
                          refine hK.out _ _ (LS.out _ BX) (fun hHeld => ?_)
                          clear hK K
                          refine wpAnyH_ready (rs := [1]) (by kernel_rfl) (by simp) ?_
                          refine AllReadyH.cons rfl (fun K hK => ?_) AllReadyH.nil
                          ·
                            simp only [List.getElem_toArray, List.getElem_cons_zero, List.getElem_cons_succ]
                            go_simp
                            refine (wsmall_any 1 (by omega) (by omega) _).mono ?_
                            rintro e x28 ⟨so, ao, lo, co, zo, rfl, ho, eo, hb⟩
                            replace XO := Va.after hb XO
                            replace BX := step BX hb
                            clear hb
                            try go_wp2_with fail
                            refine hK.out _ _ (LS.out _ BX) (fun hHeld => ?_)
                            clear hK K
                            refine wpAnyH_ready (rs := [2]) (by kernel_rfl) (by simp) ?_
                            refine AllReadyH.cons rfl (fun K hK => ?_) AllReadyH.nil
                            ·
                              simp only [List.getElem_toArray, List.getElem_cons_zero, List.getElem_cons_succ]
                              go_simp
                              refine (wmul_ok s0 so a0 ao l0 c0 lo co z0 zo _ (It.after BX L_h0.out) ho (by rw [eo]; exact HF.out.k)).mono ?_
                              rintro e x29 ⟨sO, aO, lO, cO, zO, rfl, hO, eO, hb⟩
                              replace XO := Va.after hb XO
                              replace ho := It.after hb ho
                              replace BX := step BX hb
                              clear hb
                              rw [eo, Int.mul_one] at eO
                              try go_wp2_with fail
                              refine hK.out _ _ (LS.out _ BX) (fun hHeld => ?_)
                              clear hK K
                              refine wpAnyH_take (i := 3) (v := ?_) rfl (by kernel_rfl) (by kernel_rfl) (by kernel_rfl) (fun _ _ _ h => h) (Or.inl ⟨by rfl, ?_⟩) hHeld ?_
                              rotate_left
                              · (intro W hSw; (try dsimp only at hSw); go_simp; all_goals (with_reducible rfl))
                              simp only [List.getElem_toArray, List.getElem_cons_zero, List.getElem_cons_succ, Act.put, List.setIfInBounds_toArray, List.set_cons_zero, List.set_cons_succ]
                              refine wpAnyH_take (i := 4) (v := ?_) rfl (by kernel_rfl) (by kernel_rfl) (by kernel_rfl) (fun _ _ _ h => h) (Or.inl ⟨by rfl, ?_⟩) hHeld ?_
                              rotate_left
                              · (intro W hSw; (try dsimp only at hSw); go_simp; all_goals (with_reducible rfl))
                              simp only [List.getElem_toArray, List.getElem_cons_zero, List.getElem_cons_succ, Act.put, List.setIfInBounds_toArray, List.set_cons_zero, List.set_cons_succ]
                              refine wpAnyH_take (i := 5) (v := ?_) rfl (by kernel_rfl) (by kernel_rfl) (by kernel_rfl) (fun _ _ _ h => h) (Or.inl ⟨by rfl, ?_⟩) hHeld ?_
                              rotate_left
                              · (intro W hSw; (try dsimp only at hSw); go_simp; all_goals (with_reducible rfl))
                              simp only [List.getElem_toArray, List.getElem_cons_zero, List.getElem_cons_succ, Act.put, List.setIfInBounds_toArray, List.set_cons_zero, List.set_cons_succ]
                              have c_XO := XO.c0
                              have f0_XO := XO.frozen 0
                              have d_XO := XO.c1
                              have f1_XO := XO.frozen 1
                              have l_XO := XO.lt
                              have m_XO := Nat.le_of_lt l_XO
                              refine wpAnyH_ready (rs := [7]) (by kernel_rfl) (by simp) ?_
                              refine AllReadyH.cons rfl (fun K hK => ?_) AllReadyH.nil
                              simp only [List.getElem_toArray, List.getElem_cons_zero, List.getElem_cons_succ]
                              go_simp
                              clear c_XO f0_XO d_XO f1_XO l_XO m_XO
                              refine st2 XO (.bool sO) (.slice aO lO cO) (Q := fun W => K _ W) ?_
                              intro x30 V' oth far
                              replace ho := ho.far XO (noInt2 _ _ _ _) far.1
                              replace hO := hO.far XO (noInt2 _ _ _ _) far.1
                              replace BX := far.2 _ _ (by first | omega | (simp; omega)) BX
                              replace XO := V'
                              clear oth far
                              refine hK.out _ _ (LS.out _ BX) (fun hHeld => ?_)
                              clear hK K
                              refine wpAnyH_take (i := 8) (v := ?_) rfl (by kernel_rfl) (by kernel_rfl) (by kernel_rfl) (fun _ _ _ h => h) (Or.inl ⟨by rfl, ?_⟩) hHeld ?_
                              rotate_left
                              · (intro W hSw; (try dsimp only at hSw); go_simp; all_goals (with_reducible rfl))
                              simp only [List.getElem_toArray, List.getElem_cons_zero, List.getElem_cons_succ, Act.put, List.setIfInBounds_toArray, List.set_cons_zero, List.set_cons_succ]
                              refine wpAnyH_done (by kernel_rfl) ?_ _
                              refine NoPanic.normal ?_
                              clear hHeld
                              go_wp2_with fail
                              go_meet
                              exact ⟨_, sO, aO, lO, cO, zO, rfl, rfl, XO, hO, eO, BX⟩
                    case rest =>
                      clear BX
                      obtain ⟨b33, sO, aO, lO, cO, zO, rfl, rfl, XO', hO', EO', BX'⟩ := hcut
                      have XO := XO'.out
                      have hO := hO'.out
                      have EO := EO'.out
                      have BX := BX'.out
                      clear XO' hO' EO' BX'
                      as_aux_lemma =>
                        have V13 := Va.after BX L_V13.out
                        have XG := Va.after BX L_XG.out
                        have XK := Va.after BX L_XK.out
                        have XM := Va.after BX L_XM.out
                        have h0 := It.after BX L_h0.out
                        have hG := It.after BX L_hG.out
                        have hK := It.after BX L_hK.out
                        have hM := It.after BX L_hM.out
                        have B0 := step L_B.out BX
                        go_wp2_with fail
                        refine (awake4_any wc).mono ?_
                        rintro e x26 ⟨rfl, hb⟩
                        replace V13 := Va.after hb V13
                        replace XG := Va.after hb XG
                        replace XK := Va.after hb XK
                        replace XM := Va.after hb XM
                        replace XO := Va.after hb XO
                        replace h0 := It.after hb h0
                        replace hG := It.after hb hG
                        replace hK := It.after hb hK
                        replace hM := It.after hb hM
                        replace hO := It.after hb hO
                        replace B0 := step B0 hb
                        clear hb
                        have c_XG := XG.c0
                        have f0_XG := XG.frozen 0
                        have d_XG := XG.c1
                        have f1_XG := XG.frozen 1
                        have l_XG := XG.lt
                        have m_XG := Nat.le_of_lt l_XG
                        have c_XK := XK.c0
                        have f0_XK := XK.frozen 0
                        have d_XK := XK.c1
                        have f1_XK := XK.frozen 1
                        have l_XK := XK.lt
                        have m_XK := Nat.le_of_lt l_XK
                        go_wp2_with fail
                        refine (wsame_ok sG sK aG aK lG cG lK cK zG zK x26 hG hK (by rw [EG.out, EK.out]; exact Int.mul_add ..)).mono ?_
                        rintro e x27 ⟨rfl, hb⟩
                        replace V13 := Va.after hb V13
                        replace XG := Va.after hb XG
                        replace XK := Va.after hb XK
                        replace XM := Va.after hb XM
                        replace XO := Va.after hb XO
                        replace h0 := It.after hb h0
                        replace hG := It.after hb hG
                        replace hK := It.after hb hK
                        replace hM := It.after hb hM
                        replace hO := It.after hb hO
                        replace B0 := step B0 hb
                        clear hb
                        clear c_XG f0_XG d_XG f1_XG l_XG m_XG c_XK f0_XK d_XK f1_XK l_XK m_XK
                        have c_XM := XM.c0
                        have f0_XM := XM.frozen 0
                        have d_XM := XM.c1
                        have f1_XM := XM.frozen 1
                        have l_XM := XM.lt
                        have m_XM := Nat.le_of_lt l_XM
                        go_wp2_with fail
                        refine (wsign_any sM aM lM cM zM x27 hM).mono ?_
                        rintro e x28 ⟨rfl, hb⟩
                        replace V13 := Va.after hb V13
                        replace XG := Va.after hb XG
                        replace XK := Va.after hb XK
                        replace XM := Va.after hb XM
                        replace XO := Va.after hb XO
                        replace h0 := It.after hb h0
                        replace hG := It.after hb hG
                        replace hK := It.after hb hK
                        replace hM := It.after hb hM
                        replace hO := It.after hb hO
                        replace B0 := step B0 hb
                        clear hb
                        rw [EM]
                        clear c_XM f0_XM d_XM f1_XM l_XM m_XM
                        have c_XO := XO.c0
                        have f0_XO := XO.frozen 0
                        have d_XO := XO.c1
                        have f1_XO := XO.frozen 1
                        have l_XO := XO.lt
                        have m_XO := Nat.le_of_lt l_XO
                        have c_V13 := V13.c0
                        have f0_V13 := V13.frozen 0
                        have d_V13 := V13.c1
                        have f1_V13 := V13.frozen 1
                        have l_V13 := V13.lt
                        have m_V13 := Nat.le_of_lt l_V13
                        go_wp2_with fail
                        refine (wsame_ok sO s0 aO a0 lO cO l0 c0 zO z0 x28 hO h0 EO).mono ?_
                        rintro e x29 ⟨rfl, hb⟩
                        replace V13 := Va.after hb V13
                        replace XG := Va.after hb XG
                        replace XK := Va.after hb XK
                        replace XM := Va.after hb XM
                        replace XO := Va.after hb XO
                        replace h0 := It.after hb h0
                        replace hG := It.after hb hG
                        replace hK := It.after hb hK
                        replace hM := It.after hb hM
                        replace hO := It.after hb hO
                        replace B0 := step B0 hb
                        clear hb
                        clear c_XO f0_XO d_XO f1_XO l_XO m_XO c_V13 f0_V13 d_V13 f1_V13 l_V13 m_V13
                        go_wp2_with fail
                        go_ret
                        exact ⟨rfl, B0⟩
end Go.Proofs.Ytbadjonlhijoaaa
