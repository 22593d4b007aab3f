/-
  The walk of WholeNumbers.
-/
import Derived.Test.YtpfbcicjfnfpgaaPrW4
import Derived.Test.YtpfbcicjfnfpgaaWh4
import Derived.Test.YtpfbcicjfnfpgaaWh8a
namespace Go.Proofs.Ytpfbcicjfnfpgaa
open Go.RowKit Go.Shelf
set_option linter.unusedVariables false
theorem pw_big4 : 18446744073709551616 < pw 4096 := by
  have h := pw_mono (show 2 ≤ 4096 by omega)
  have e : pw 2 = 340282366920938463463374607431768211456 := by decide
  omega
theorem neg_rep (n : Nat) (c : UInt8) (h : c ≠ 45) : neg (List.replicate n c) = false := by
  unfold neg
  rw [List.head?_replicate]
  split <;> simp [h]
theorem bare_rep (n : Nat) (c : UInt8) (h : c ≠ 45) : bare (List.replicate n c) = List.replicate n c := by
  unfold bare; rw [neg_rep n c h]; rfl
theorem dig_rep (n : Nat) (c : UInt8) (h : wv c < 10) : Dig 10 (List.replicate n c) := fun x hx => by rw [List.eq_of_mem_replicate hx]; exact h
theorem wp_zeros {n : Nat} {v a e : Int} (hn : n ≤ 262144) (h0 : 0 < n) (h : WpX (List.replicate n 48) v a e) : v = 0 ∧ a = 0 ∧ e = 0 := by
  unfold WpX at h
  rw [neg_rep n 48 (by decide), bare_rep n 48 (by decide), pRes_good (by rw [List.length_replicate]; exact hn) (fun e => by have := congrArg List.length e; rw [List.length_replicate] at this; simp at this; omega) (dig_rep n 48 (by decide))] at h
  have t0 : tv 10 (List.replicate n 48) = 0 := by
    have := tv_zeros (d := List.replicate n 48) (f := n) (by rw [List.length_replicate]; exact Nat.le_refl _) (fun j hj _ => by rw [List.getElem_replicate])
    rw [List.take_of_length_le (by rw [List.length_replicate]; exact Nat.le_refl _)] at this
    exact this
  rw [t0, if_neg (by simp), if_pos (by have := pw_big4; show ((0 : Nat) : Int) < _; omega)] at h
  simp only [Prod.mk.injEq] at h
  exact ⟨h.1.symm, h.2.1.symm, h.2.2.symm⟩
theorem wp_longz {n : Nat} {v a e : Int} (hn : 262144 < n) (h : WpX (List.replicate n 48) v a e) : e = 3 := by
  unfold WpX at h
  rw [bare_rep n 48 (by decide), pRes_long (by rw [List.length_replicate]; exact hn)] at h
  simp only [Prod.mk.injEq] at h
  exact h.2.2.symm
theorem wp_nines {n : Nat} {v a e : Int} (hn : n ≤ 262144) (h0 : 80000 < n) (h : WpX (List.replicate n 57) v a e) : a = 0 ∧ e = 3 := by
  unfold WpX at h
  rw [neg_rep n 57 (by decide), bare_rep n 57 (by decide), pRes_good (by rw [List.length_replicate]; exact hn) (fun e => by have := congrArg List.length e; rw [List.length_replicate] at this; simp at this; omega) (dig_rep n 57 (by decide))] at h
  have t0 := tv_top (d := List.replicate n 57) (f := 0) (by rw [List.length_replicate]; omega) (dig_rep n 57 (by decide)) (by rw [List.getElem_replicate]; decide)
  rw [List.length_replicate, List.drop_zero] at t0
  have t1 : pw 4096 ≤ (10 : Int) ^ (n - 0 - 1) := ten_huge (by omega)
  have t2 : (10 : Int) ^ (n - 0 - 1) ≤ (tv 10 (List.replicate n 57) : Int) := by exact_mod_cast t0
  rw [if_neg (by simp), if_neg (by omega)] at h
  simp only [Prod.mk.injEq] at h
  exact ⟨h.2.1.symm, h.2.2.symm⟩
theorem wp_bad {n : Nat} {v a e : Int} (hn : n + 1 ≤ 262144) (h : WpX (45 :: (List.replicate n 48 ++ [120])) v a e) : v = 0 ∧ a = n + 1 ∧ e = 31 := by
  unfold WpX at h
  have e2 : bare (45 :: (List.replicate n 48 ++ [120])) = List.replicate n 48 ++ [120] := by simp [bare, neg]
  have el : (List.replicate n (48 : UInt8) ++ [120]).length = n + 1 := by rw [List.length_append, List.length_replicate]; rfl
  rw [e2, pRes_bad (k := n) (by rw [el]; exact hn) (by rw [el]; omega) (by rw [List.take_append_of_le_length (by rw [List.length_replicate]; exact Nat.le_refl _), List.take_of_length_le (by rw [List.length_replicate]; exact Nat.le_refl _)]; exact dig_rep n 48 (by decide)) (by rw [List.getElem_append_right (by rw [List.length_replicate]; exact Nat.le_refl _)]; simp; decide), List.length_cons, el] at h
  simp only [Prod.mk.injEq] at h
  refine ⟨h.1.symm, ?_, h.2.2.symm⟩
  rw [← h.2.1]
  push_cast
  omega
theorem rep_one (c : UInt8) (n : Nat) : Go.Lib.repeatL [c] n = List.replicate n c := by
  induction n with
  | zero => simp [Go.Lib.repeatL]
  | succ n ih => simp_all [Go.Lib.repeatL, List.replicate_succ]
theorem cat4 (r : List UInt8) : (ByteArray.mk #[45] ++ ByteArray.mk r.toArray ++ ByteArray.mk #[120]) = ⟨(45 :: (r ++ [120])).toArray⟩ := by
  apply ByteArray.ext
  simp [ByteArray.data_append]
/-- Repeat of one byte. -/
theorem rep4 (c : UInt8) (n : Nat) (hn : n ≤ 1000000) (w : World) : Calls Try.prog 12 #[.string ⟨#[c]⟩, .int .i64 n] w fun e w' => ∃ r, e = .returned (.string ⟨r.toArray⟩) ∧ Hid (r = List.replicate n c) ∧ Below w.heap.size w w' := by
  have h := Try.strings_Repeat ⟨#[c]⟩ n w (by omega) (by show 1 * n ≤ _; omega)
  refine h.mono ?_
  rintro e w' ⟨rfl, hb⟩
  exact ⟨_, rfl, rep_one c n, hb⟩
/-- The list of all ones as it is filled. -/
def fl (j : Nat) : List Int := List.replicate j 18446744073709551615 ++ List.replicate (4096 - j) 0
theorem fl_0 : fl 0 = List.replicate 4096 0 := by unfold fl; rw [List.replicate_zero, List.nil_append]
theorem fl_len {j : Nat} (h : j ≤ 4096) : (fl j).length = 4096 := by unfold fl; rw [List.length_append, List.length_replicate, List.length_replicate]; omega
theorem fl_set {j : Nat} (h : j < 4096) : (fl j).set j 18446744073709551615 = fl (j + 1) := by
  unfold fl
  rw [List.set_append_right _ _ (by rw [List.length_replicate]; exact Nat.le_refl _), List.length_replicate, Nat.sub_self, show 4096 - j = (4096 - (j + 1)) + 1 by omega, List.replicate_succ, List.set_cons_zero, List.replicate_succ', List.append_assoc, List.singleton_append]
theorem fl_limbs (j : Nat) : Limbs (fl j) := by
  intro z hz
  unfold fl at hz
  rcases List.mem_append.1 hz with h | h <;> rw [List.eq_of_mem_replicate h] <;> exact ⟨by omega, by omega⟩
theorem ones_num (n : Nat) : num (List.replicate n 18446744073709551615) = pw n - 1 := by
  induction n with
  | zero => simp [num, pw_eq]
  | succ n ih =>
    simp only [List.replicate_succ, num, pw, ih]
    omega
theorem fl_num : num (fl 4096) = pw 4096 - 1 := by unfold fl; rw [Nat.sub_self, List.replicate_zero, List.append_nil, ones_num]
set_option maxHeartbeats 8000000 in
set_option maxRecDepth 8000 in
theorem wnumbers_walk (w : World) :
    Calls Try.prog 3 #[] w fun e w' => e = .returned (.bool true) ∧ Below w.heap.size w w' := by
  have B0 : Below w.heap.size w w := Below.refl _ _
  go_enter Try.func3, Try.ntmps3
  obtain ⟨z, hz⟩ : ∃ z, List.replicate 4096 (0 : Int) = z := ⟨_, rfl⟩
  have hmk : ∀ W, (Instr.makeSlice 22 (.int .i64 4096) (.int .i64 4096)).run Try.prog W = .ok (.slice (some ⟨W.heap.size, 0, none⟩) 4096 4096) (W.alloc (.cells (row z).toArray 23)) := fun W => by rw [← hz]; exact make_row 4096 (by omega) W
  have O0 : Own (w.alloc (.cells (row z).toArray 23)) w.heap.size z := heap_alloc_new _ _
  have HZ : Hid (fl 0 = z) := by show _ = _; rw [← hz, fl_0]
  replace B0 := B0.alloc (Nat.le_refl _) (.cells (row z).toArray 23)
  clear hz
  go_wp2_with fail
  obtain ⟨x1, hx1⟩ : ∃ x, x = w.alloc (.cells (row z).toArray 23) := ⟨_, rfl⟩
  rw [← hx1] at O0 B0 ⊢
  clear hx1 hmk
  have O1 : Hid (Own x1 w.heap.size (fl 0)) := by show Own _ _ _; rw [HZ.out]; exact O0
  have HB1 : Hid (Below w.heap.size w x1) := B0
  clear O0 HZ B0
  go_loopw [2] (fun ii W => ∃ j : Nat, ii = .int .i64 j ∧ j ≤ 4096 ∧ Hid (Own W w.heap.size (fl j)) ∧ Hid (Below w.heap.size w W)) (fun ii _ => 4096 - (intOf ii).toNat)
  case atStart => exact ⟨0, rfl, by omega, O1, HB1⟩
  case round =>
    clear O1 HB1
    obtain ⟨j, rfl, hj, HO, HB⟩ := hrel
    by_cases hlt : j < 4096
    · have hji : (j : Int) < 4096 := by omega
      have hjn : decide (j < 4096) = true := decide_eq_true hlt
      have hcell := HO.out.cell j (by rw [fl_len hj]; exact hlt)
      have hfz := HO.out.frozen j
      have HO2 : Hid (Own (wr.setCell ⟨w.heap.size, j, none⟩ (.int .u64 18446744073709551615)) w.heap.size (fl (j + 1))) := by
        have h := HO.out.set j 18446744073709551615
        rw [fl_set hlt] at h
        exact h
      go_wp2_with fail
      go_roundw
      case rel => exact ⟨j + 1, by go_num, by omega, HO2, HB.out.setCell (p := ⟨w.heap.size, j, none⟩) (Nat.le_refl _) _⟩
      case measure => simp [intOf]; omega
    obtain rfl : j = 4096 := by omega
    have hji : ¬ ((4096 : Nat) : Int) < 4096 := by omega
    have hS : Sl wr (some ⟨w.heap.size, 0, none⟩) 4096 (fl 4096) := by
      have h := HO.out.sl (fl_limbs _)
      rw [fl_len (Nat.le_refl _)] at h
      exact h
    have HF : Hid (num (fl 4096) = pw 4096 - 1) := fl_num
    have B0 := HB.out
    clear HO HB
    obtain ⟨fu, hfu⟩ : ∃ fu, fl 4096 = fu := ⟨_, rfl⟩
    rw [hfu] at hS HF
    have HFL : Hid (fu.length = 4096) := by show _ = _; rw [← hfu, fl_len (Nat.le_refl _)]
    clear hfu
    go_wp2_with fail
    refine (oflaw4 false _ 4096 4096 fu _ hS (fun h => by cases h) (Nat.le_refl _)).mono ?_
    rintro e x2 ⟨s, a, l, c, zs, a2, c2, rfl, hI, -, hiv, hb⟩
    replace B0 := step B0 hb
    clear hb hS
    have HV : Hid (iv s zs = pw 4096 - 1) := by show _ = _; rw [hiv, List.take_of_length_le (by rw [HFL.out]; exact Nat.le_refl _)]; exact HF.out
    clear hiv HF HFL
    have HBS : Hid (w.heap.size ≤ x2.heap.size) := B0.size
    go_wp2_with fail
    refine ent2 x2 _ _ _ _ (Q := fun W => Code.wp Try.prog _ _ _ W) ?_
    intro x3 hb hs3 VF VW
    replace hI := It.after hb hI
    replace B0 := step B0 hb
    obtain ⟨gf, hgf⟩ : ∃ g, g = x2.heap.size := ⟨_, rfl⟩
    rw [← hgf] at VF ⊢
    have hgw : w.heap.size ≤ gf := by rw [hgf]; exact HBS.out
    clear hb hs3 VW hgf HBS
    go_cut [6, 7] (fun s6 s7 wx => ∃ (g : Nat), s6 = .pointer (some ⟨g, 0, none⟩) ∧ s7 = .int .i64 3 ∧ Hid (Va wx gf 27 #[.bool s, .slice a l c]) ∧ Hid (It wx s a l c zs) ∧ Hid (Below w.heap.size w wx))
    case first =>
      have hgB := VF.lt
      refine wp_region_noPanic ?_
      replace VF : Va x3.drew _ _ _ := VF
      replace B0 := Below.drew B0
      refine wp_region_held_drew (S := (fun W => W.cell? ⟨gf, 0, none⟩ = some (.bool s) ∧ W.cell? ⟨gf, 1, none⟩ = some (.slice a l c))) (by kernel_rfl) ⟨VF.c0, VF.c1⟩ (fun hHeld => ?_)
      obtain ⟨x4, hxd⟩ : ∃ xd, xd = x3.drew := ⟨_, rfl⟩
      rw [← hxd] at VF B0 hHeld ⊢
      replace hI : It x4 s a l c zs := by rw [hxd]; exact hI
      replace hgB : gf < x4.heap.size := by rw [hxd]; exact hgB
      clear hxd
      refine wpAnyH_take (i := 0) (v := ?_) rfl (by kernel_rfl) (by kernel_rfl) (by kernel_rfl) (fun _ _ _ h => h) (Or.inl ⟨by rfl, ?_⟩) hHeld ?_
      rotate_left
      · (intro W hSw; (try dsimp only at hSw); go_simp; all_goals (with_reducible rfl))
      simp only [List.getElem_toArray, List.getElem_cons_zero, Act.put, List.setIfInBounds_toArray, List.set_cons_zero, List.set_cons_succ]
      refine wpAnyH_ready (rs := [1, 6]) (by kernel_rfl) (by simp) ?_
      refine AllReadyH.cons rfl (fun K hK => ?_) (AllReadyH.cons rfl (fun K hK => ?_) AllReadyH.nil)
      ·
        simp only [List.getElem_toArray, List.getElem_cons_zero, List.getElem_cons_succ]
        go_simp
        refine (wsmall_any 1 (by omega) (by omega) _).mono ?_
        rintro e x5 ⟨s1, a1, l1, c1, z1, rfl, h1, hv1, hb⟩
        replace VF := Va.after hb VF
        replace hI := It.after hb hI
        replace B0 := step B0 hb
        replace hgB := Nat.lt_of_lt_of_le hgB hb.size
        clear hb
        try go_wp2_with fail
        refine hK.out _ _ ⟨VF.c0, VF.c1⟩ (fun hHeld => ?_)
        clear hK K
        refine wpAnyH_ready (rs := [2, 6]) (by kernel_rfl) (by simp) ?_
        refine AllReadyH.cons rfl (fun K hK => ?_) (AllReadyH.cons rfl (fun K hK => ?_) AllReadyH.nil)
        ·
          simp only [List.getElem_toArray, List.getElem_cons_zero, List.getElem_cons_succ]
          go_simp
          refine (wadd_long s s1 a a1 l c l1 c1 zs z1 _ hI h1 (by show _ ≤ _; rw [HV.out, hv1]; omega)).mono ?_
          rintro e x6 ⟨rfl, hb⟩
          replace VF := Va.after hb VF
          replace hI := It.after hb hI
          replace B0 := step B0 hb
          replace hgB := Nat.lt_of_lt_of_le hgB hb.size
          clear hb
          clear h1 hv1
          try go_wp2_with fail
          refine hK.out _ _ ⟨VF.c0, VF.c1⟩ (fun hHeld => ?_)
          clear hK K
          refine wpAnyH_take (i := 3) (v := ?_) rfl (by kernel_rfl) (by kernel_rfl) (by kernel_rfl) (fun _ _ _ h => h) (Or.inl ⟨by rfl, ?_⟩) hHeld ?_
          rotate_left
          · (intro W hSw; (try dsimp only at hSw); go_simp; all_goals (with_reducible rfl))
          simp only [List.getElem_toArray, List.getElem_cons_zero, List.getElem_cons_succ, Act.put, List.setIfInBounds_toArray, List.set_cons_zero, List.set_cons_succ]
          refine wpAnyH_take (i := 4) (v := ?_) rfl (by kernel_rfl) (by kernel_rfl) (by kernel_rfl) (fun _ _ _ h => h) (Or.inl ⟨by rfl, ?_⟩) hHeld ?_
          rotate_left
          · (intro W hSw; (try dsimp only at hSw); go_simp; all_goals (with_reducible rfl))
          simp only [List.getElem_toArray, List.getElem_cons_zero, List.getElem_cons_succ, Act.put, List.setIfInBounds_toArray, List.set_cons_zero, List.set_cons_succ]
          refine wpAnyH_take (i := 5) (v := ?_) rfl (by kernel_rfl) (by kernel_rfl) (by kernel_rfl) (fun _ _ _ h => h) (Or.inl ⟨by rfl, ?_⟩) hHeld ?_
          rotate_left
          · (intro W hSw; (try dsimp only at hSw); go_simp; all_goals (with_reducible rfl))
          simp only [List.getElem_toArray, List.getElem_cons_zero, List.getElem_cons_succ, Act.put, List.setIfInBounds_toArray, List.set_cons_zero, List.set_cons_succ]
          refine wpAnyH_ready (rs := [6]) (by kernel_rfl) (by simp) ?_
          refine AllReadyH.cons rfl (fun K hK => ?_) AllReadyH.nil
          simp only [List.getElem_toArray, List.getElem_cons_zero, List.getElem_cons_succ]
          go_simp
          refine ent1 x6 _ _ (Q := fun V => K _ V) ?_
          intro x7 hb hsz VG
          clear hsz
          have hgg : gf < x6.heap.size := hgB
          replace VF := Va.after hb VF
          replace hI := It.after hb hI
          replace B0 := step B0 hb
          replace hgB := Nat.lt_of_lt_of_le hgB hb.size
          clear hb
          refine hK.out _ _ ⟨VF.c0, VF.c1⟩ (fun hHeld => ?_)
          clear hK K
          have c_VG := VG.c0
          have f0_VG := VG.frozen 0
          have d_VG := VG.c1
          have f1_VG := VG.frozen 1
          have l_VG := VG.lt
          have m_VG := Nat.le_of_lt l_VG
          refine wpAnyH_ready (rs := [7]) (by kernel_rfl) (by simp) ?_
          refine AllReadyH.cons rfl (fun K hK => ?_) AllReadyH.nil
          simp only [List.getElem_toArray, List.getElem_cons_zero, List.getElem_cons_succ]
          go_simp
          clear c_VG f0_VG d_VG f1_VG l_VG m_VG
          refine st2 VG (.bool false) (.slice none 0 0) (Q := fun W => K _ W) ?_
          intro xz V' oth far
          replace VF := oth _ _ _ (by omega) VF
          replace hI := hI.far VG (noInt2 _ _ _ _) far.1
          replace B0 := far.2 _ _ (by omega) B0
          clear oth far V' VG
          refine hK.out _ _ ⟨VF.c0, VF.c1⟩ (fun hHeld => ?_)
          clear hK K
          refine wpAnyH_take (i := 8) (v := ?_) rfl (by kernel_rfl) (by kernel_rfl) (by kernel_rfl) (fun _ _ _ h => h) (Or.inl ⟨by rfl, ?_⟩) hHeld ?_
          rotate_left
          · (intro W hSw; (try dsimp only at hSw); go_simp; all_goals (with_reducible rfl))
          simp only [List.getElem_toArray, List.getElem_cons_zero, List.getElem_cons_succ, Act.put, List.setIfInBounds_toArray, List.set_cons_zero, List.set_cons_succ]
          refine wpAnyH_done (by kernel_rfl) ?_ _
          refine NoPanic.normal ?_
          clear hHeld
          try go_wp2_with fail
          go_meet
          exact ⟨_, rfl, rfl, VF, hI, B0⟩
        ·
          simp only [List.getElem_toArray, List.getElem_cons_zero, List.getElem_cons_succ]
          go_simp
          refine ent1 x5 _ _ (Q := fun V => K _ V) ?_
          intro x8 hb hsz VG
          clear hsz
          have hgg : gf < x5.heap.size := hgB
          replace VF := Va.after hb VF
          replace hI := It.after hb hI
          replace h1 := It.after hb h1
          replace B0 := step B0 hb
          replace hgB := Nat.lt_of_lt_of_le hgB hb.size
          clear hb
          refine hK.out _ _ ⟨VF.c0, VF.c1⟩ (fun hHeld => ?_)
          clear hK K
          refine wpAnyH_ready (rs := [2]) (by kernel_rfl) (by simp) ?_
          refine AllReadyH.cons rfl (fun K hK => ?_) AllReadyH.nil
          simp only [List.getElem_toArray, List.getElem_cons_zero, List.getElem_cons_succ]
          go_simp
          refine (wadd_long s s1 a a1 l c l1 c1 zs z1 _ hI h1 (by show _ ≤ _; rw [HV.out, hv1]; omega)).mono ?_
          rintro e x9 ⟨rfl, hb⟩
          replace VF := Va.after hb VF
          replace hI := It.after hb hI
          replace VG := Va.after hb VG
          replace B0 := step B0 hb
          replace hgB := Nat.lt_of_lt_of_le hgB hb.size
          clear hb
          clear h1 hv1
          try go_wp2_with fail
          refine hK.out _ _ ⟨VF.c0, VF.c1⟩ (fun hHeld => ?_)
          clear hK K
          refine wpAnyH_take (i := 3) (v := ?_) rfl (by kernel_rfl) (by kernel_rfl) (by kernel_rfl) (fun _ _ _ h => h) (Or.inl ⟨by rfl, ?_⟩) hHeld ?_
          rotate_left
          · (intro W hSw; (try dsimp only at hSw); go_simp; all_goals (with_reducible rfl))
          simp only [List.getElem_toArray, List.getElem_cons_zero, List.getElem_cons_succ, Act.put, List.setIfInBounds_toArray, List.set_cons_zero, List.set_cons_succ]
          refine wpAnyH_take (i := 4) (v := ?_) rfl (by kernel_rfl) (by kernel_rfl) (by kernel_rfl) (fun _ _ _ h => h) (Or.inl ⟨by rfl, ?_⟩) hHeld ?_
          rotate_left
          · (intro W hSw; (try dsimp only at hSw); go_simp; all_goals (with_reducible rfl))
          simp only [List.getElem_toArray, List.getElem_cons_zero, List.getElem_cons_succ, Act.put, List.setIfInBounds_toArray, List.set_cons_zero, List.set_cons_succ]
          refine wpAnyH_take (i := 5) (v := ?_) rfl (by kernel_rfl) (by kernel_rfl) (by kernel_rfl) (fun _ _ _ h => h) (Or.inl ⟨by rfl, ?_⟩) hHeld ?_
          rotate_left
          · (intro W hSw; (try dsimp only at hSw); go_simp; all_goals (with_reducible rfl))
          simp only [List.getElem_toArray, List.getElem_cons_zero, List.getElem_cons_succ, Act.put, List.setIfInBounds_toArray, List.set_cons_zero, List.set_cons_succ]
          have c_VG := VG.c0
          have f0_VG := VG.frozen 0
          have d_VG := VG.c1
          have f1_VG := VG.frozen 1
          have l_VG := VG.lt
          have m_VG := Nat.le_of_lt l_VG
          refine wpAnyH_ready (rs := [7]) (by kernel_rfl) (by simp) ?_
          refine AllReadyH.cons rfl (fun K hK => ?_) AllReadyH.nil
          simp only [List.getElem_toArray, List.getElem_cons_zero, List.getElem_cons_succ]
          go_simp
          clear c_VG f0_VG d_VG f1_VG l_VG m_VG
          refine st2 VG (.bool false) (.slice none 0 0) (Q := fun W => K _ W) ?_
          intro xz V' oth far
          replace VF := oth _ _ _ (by omega) VF
          replace hI := hI.far VG (noInt2 _ _ _ _) far.1
          replace B0 := far.2 _ _ (by omega) B0
          clear oth far V' VG
          refine hK.out _ _ ⟨VF.c0, VF.c1⟩ (fun hHeld => ?_)
          clear hK K
          refine wpAnyH_take (i := 8) (v := ?_) rfl (by kernel_rfl) (by kernel_rfl) (by kernel_rfl) (fun _ _ _ h => h) (Or.inl ⟨by rfl, ?_⟩) hHeld ?_
          rotate_left
          · (intro W hSw; (try dsimp only at hSw); go_simp; all_goals (with_reducible rfl))
          simp only [List.getElem_toArray, List.getElem_cons_zero, List.getElem_cons_succ, Act.put, List.setIfInBounds_toArray, List.set_cons_zero, List.set_cons_succ]
          refine wpAnyH_done (by kernel_rfl) ?_ _
          refine NoPanic.normal ?_
          clear hHeld
          try go_wp2_with fail
          go_meet
          exact ⟨_, rfl, rfl, VF, hI, B0⟩
      ·
        simp only [List.getElem_toArray, List.getElem_cons_zero, List.getElem_cons_succ]
        go_simp
        refine ent1 x4 _ _ (Q := fun V => K _ V) ?_
        intro x10 hb hsz VG
        clear hsz
        have hgg : gf < x4.heap.size := hgB
        replace VF := Va.after hb VF
        replace hI := It.after hb hI
        replace B0 := step B0 hb
        replace hgB := Nat.lt_of_lt_of_le hgB hb.size
        clear hb
        refine hK.out _ _ ⟨VF.c0, VF.c1⟩ (fun hHeld => ?_)
        clear hK K
        refine wpAnyH_ready (rs := [1]) (by kernel_rfl) (by simp) ?_
        refine AllReadyH.cons rfl (fun K hK => ?_) AllReadyH.nil
        simp only [List.getElem_toArray, List.getElem_cons_zero, List.getElem_cons_succ]
        go_simp
        refine (wsmall_any 1 (by omega) (by omega) _).mono ?_
        rintro e x11 ⟨s1, a1, l1, c1, z1, rfl, h1, hv1, hb⟩
        replace VF := Va.after hb VF
        replace hI := It.after hb hI
        replace VG := Va.after hb VG
        replace B0 := step B0 hb
        replace hgB := Nat.lt_of_lt_of_le hgB hb.size
        clear hb
        try go_wp2_with fail
        refine hK.out _ _ ⟨VF.c0, VF.c1⟩ (fun hHeld => ?_)
        clear hK K
        refine wpAnyH_ready (rs := [2]) (by kernel_rfl) (by simp) ?_
        refine AllReadyH.cons rfl (fun K hK => ?_) AllReadyH.nil
        simp only [List.getElem_toArray, List.getElem_cons_zero, List.getElem_cons_succ]
        go_simp
        refine (wadd_long s s1 a a1 l c l1 c1 zs z1 _ hI h1 (by show _ ≤ _; rw [HV.out, hv1]; omega)).mono ?_
        rintro e x12 ⟨rfl, hb⟩
        replace VF := Va.after hb VF
        replace hI := It.after hb hI
        replace VG := Va.after hb VG
        replace B0 := step B0 hb
        replace hgB := Nat.lt_of_lt_of_le hgB hb.size
        clear hb
        clear h1 hv1
        try go_wp2_with fail
        refine hK.out _ _ ⟨VF.c0, VF.c1⟩ (fun hHeld => ?_)
        clear hK K
        refine wpAnyH_take (i := 3) (v := ?_) rfl (by kernel_rfl) (by kernel_rfl) (by kernel_rfl) (fun _ _ _ h => h) (Or.inl ⟨by rfl, ?_⟩) hHeld ?_
        rotate_left
        · (intro W hSw; (try dsimp only at hSw); go_simp; all_goals (with_reducible rfl))
        simp only [List.getElem_toArray, List.getElem_cons_zero, List.getElem_cons_succ, Act.put, List.setIfInBounds_toArray, List.set_cons_zero, List.set_cons_succ]
        refine wpAnyH_take (i := 4) (v := ?_) rfl (by kernel_rfl) (by kernel_rfl) (by kernel_rfl) (fun _ _ _ h => h) (Or.inl ⟨by rfl, ?_⟩) hHeld ?_
        rotate_left
        · (intro W hSw; (try dsimp only at hSw); go_simp; all_goals (with_reducible rfl))
        simp only [List.getElem_toArray, List.getElem_cons_zero, List.getElem_cons_succ, Act.put, List.setIfInBounds_toArray, List.set_cons_zero, List.set_cons_succ]
        refine wpAnyH_take (i := 5) (v := ?_) rfl (by kernel_rfl) (by kernel_rfl) (by kernel_rfl) (fun _ _ _ h => h) (Or.inl ⟨by rfl, ?_⟩) hHeld ?_
        rotate_left
        · (intro W hSw; (try dsimp only at hSw); go_simp; all_goals (with_reducible rfl))
        simp only [List.getElem_toArray, List.getElem_cons_zero, List.getElem_cons_succ, Act.put, List.setIfInBounds_toArray, List.set_cons_zero, List.set_cons_succ]
        have c_VG := VG.c0
        have f0_VG := VG.frozen 0
        have d_VG := VG.c1
        have f1_VG := VG.frozen 1
        have l_VG := VG.lt
        have m_VG := Nat.le_of_lt l_VG
        refine wpAnyH_ready (rs := [7]) (by kernel_rfl) (by simp) ?_
        refine AllReadyH.cons rfl (fun K hK => ?_) AllReadyH.nil
        simp only [List.getElem_toArray, List.getElem_cons_zero, List.getElem_cons_succ]
        go_simp
        clear c_VG f0_VG d_VG f1_VG l_VG m_VG
        refine st2 VG (.bool false) (.slice none 0 0) (Q := fun W => K _ W) ?_
        intro xz V' oth far
        replace VF := oth _ _ _ (by omega) VF
        replace hI := hI.far VG (noInt2 _ _ _ _) far.1
        replace B0 := far.2 _ _ (by omega) B0
        clear oth far V' VG
        refine hK.out _ _ ⟨VF.c0, VF.c1⟩ (fun hHeld => ?_)
        clear hK K
        refine wpAnyH_take (i := 8) (v := ?_) rfl (by kernel_rfl) (by kernel_rfl) (by kernel_rfl) (fun _ _ _ h => h) (Or.inl ⟨by rfl, ?_⟩) hHeld ?_
        rotate_left
        · (intro W hSw; (try dsimp only at hSw); go_simp; all_goals (with_reducible rfl))
        simp only [List.getElem_toArray, List.getElem_cons_zero, List.getElem_cons_succ, Act.put, List.setIfInBounds_toArray, List.set_cons_zero, List.set_cons_succ]
        refine wpAnyH_done (by kernel_rfl) ?_ _
        refine NoPanic.normal ?_
        clear hHeld
        try go_wp2_with fail
        go_meet
        exact ⟨_, rfl, rfl, VF, hI, B0⟩
    case rest =>
      clear VF hI B0
      obtain ⟨g6, rfl, rfl, HVF, HI, HB⟩ := hcut
      have VF := HVF.out
      have hI := HI.out
      have B0 := HB.out
      clear HVF HI HB
      have c_VF := VF.c0
      have f0_VF := VF.frozen 0
      have d_VF := VF.c1
      have f1_VF := VF.frozen 1
      have l_VF := VF.lt
      have m_VF := Nat.le_of_lt l_VF
      go_wp2_with fail
      clear c_VF f0_VF d_VF f1_VF l_VF m_VF
      refine (wneg_any s a l c zs _ hI).mono ?_
      rintro e x10 ⟨s2, rfl, hN, hn2, hb⟩
      replace VF := Va.after hb VF
      replace hI := It.after hb hI
      replace B0 := step B0 hb
      clear hb
      go_wp2_with fail
      refine (wsmall_any 1 (by omega) (by omega) _).mono ?_
      rintro e x11 ⟨s3, a3, l3, c3, z3, rfl, h3, hv3, hb⟩
      replace VF := Va.after hb VF
      replace hI := It.after hb hI
      replace hN := It.after hb hN
      replace B0 := step B0 hb
      clear hb
      go_wp2_with fail
      refine (wadd_ok s2 s3 a a3 l c l3 c3 zs z3 _ hN h3 (by show _ < _; rw [hn2, HV.out, hv3]; have := pw_big4; omega)).mono ?_
      rintro e x12 ⟨s4, a4, l4, c4, z4, rfl, h4, hv4, hb⟩
      replace VF := Va.after hb VF
      replace hI := It.after hb hI
      replace B0 := step B0 hb
      clear hb
      rw [hn2, HV.out, hv3] at hv4
      have HV4 : Hid (iv s4 z4 = -(pw 4096 - 1) + 1) := hv4
      clear hn2 hv3 hv4 hN h3
      have c_VF := VF.c0
      have f0_VF := VF.frozen 0
      have d_VF := VF.c1
      have f1_VF := VF.frozen 1
      have l_VF := VF.lt
      have m_VF := Nat.le_of_lt l_VF
      go_wp2_with fail
      clear c_VF f0_VF d_VF f1_VF l_VF m_VF
      refine ent1 x12 _ _ (Q := fun W => Calls Try.prog _ _ W _) ?_
      intro x13 hb hs13 VL
      replace h4 := It.after hb h4
      replace VF := Va.after hb VF
      replace hI := It.after hb hI
      replace B0 := step B0 hb
      clear hb
      clear hs13
      refine (wdiv_nought s false a none l c 0 0 zs [] _ hI (It.nil _) iv_nil).mono ?_
      rintro e x14 ⟨rfl, hb⟩
      replace VL := Va.after hb VL
      replace h4 := It.after hb h4
      replace VF := Va.after hb VF
      replace hI := It.after hb hI
      replace B0 := step B0 hb
      clear hb
      have c_VF := VF.c0
      have f0_VF := VF.frozen 0
      have d_VF := VF.c1
      have f1_VF := VF.frozen 1
      have l_VF := VF.lt
      have m_VF := Nat.le_of_lt l_VF
      go_wp2_with fail
      clear c_VF f0_VF d_VF f1_VF l_VF m_VF
      refine ent2 x14 _ _ _ _ (Q := fun W => Calls Try.prog _ _ W _) ?_
      intro x15 hb hs15 VA1 VA2
      replace VL := Va.after hb VL
      replace h4 := It.after hb h4
      replace hI := It.after hb hI
      replace B0 := step B0 hb
      clear hb
      clear hs15 VA1 VA2 VF
      have hbig : 18446744073709551616 ≤ num zs := by
        have h1 := HV.out
        have h2 := pw_big4
        have h3 := num_nonneg hI.1.1.2.1
        cases s <;> simp only [iv_t, iv_f] at h1 <;> omega
      refine (wint64_great s a l c zs _ hI hbig).mono ?_
      rintro e x16 ⟨rfl, hb⟩
      replace VL := Va.after hb VL
      replace h4 := It.after hb h4
      replace B0 := step B0 hb
      clear hb
      clear hI hbig HV
      go_wp2_with fail
      refine (rep4 48 262143 (by omega) _).mono ?_
      rintro e x17 ⟨r1, rfl, HR1, hb⟩
      replace VL := Va.after hb VL
      replace h4 := It.after hb h4
      replace B0 := step B0 hb
      clear hb
      have hr1 : r1.length = 262143 := by rw [HR1.out, List.length_replicate]
      have hn1 : ¬ 9223372036854775807 < 1 + r1.length := by omega
      have hn2 : ¬ 9223372036854775807 < 1 + r1.length + 1 := by omega
      go_wp2_with fail
      rw [cat4]
      refine (wparsex_any (45 :: (r1 ++ [120])) (by simp; omega) _).mono ?_
      rintro e x21 ⟨s21, a21, l21, c21, z21, at21, er21, rfl, i21, HX, hb⟩
      replace VL := Va.after hb VL
      replace h4 := It.after hb h4
      replace B0 := step B0 hb
      clear hb
      have hx := HX.out
      rw [HR1.out] at hx
      obtain ⟨hv21, hat21, rfl⟩ := wp_bad (n := 262143) (by omega) hx
      obtain rfl : at21 = 262144 := by rw [hat21]; rfl
      have HV21 : Hid (iv s21 z21 = 0) := hv21
      clear hx hv21 hat21 HR1 hr1 hn1 hn2
      clear HX
      go_wp2_with fail
      refine ent1 x21 _ _ (Q := fun W => Calls Try.prog _ _ W _) ?_
      intro x22 hb hse VZ
      replace VL := Va.after hb VL
      replace h4 := It.after hb h4
      replace i21 := It.after hb i21
      replace B0 := step B0 hb
      clear hb
      clear hse
      refine (rep4 48 262144 (by omega) _).mono ?_
      rintro e x23 ⟨r2, rfl, HR, hb⟩
      replace VL := Va.after hb VL
      replace VZ := Va.after hb VZ
      replace h4 := It.after hb h4
      replace i21 := It.after hb i21
      replace B0 := step B0 hb
      clear hb
      have hrl : r2.length = 262144 := by rw [HR.out, List.length_replicate]
      go_wp2_with fail
      refine (wparsex_any r2 (by omega) _).mono ?_
      rintro e x24 ⟨s24, a24, l24, c24, z24, at24, er24, rfl, i24, HX, hb⟩
      replace VL := Va.after hb VL
      replace VZ := Va.after hb VZ
      replace h4 := It.after hb h4
      replace i21 := It.after hb i21
      replace B0 := step B0 hb
      clear hb
      have hx := HX.out
      rw [HR.out] at hx
      obtain ⟨hv24, rfl, rfl⟩ := wp_zeros (by omega) (by omega) hx
      have HV24 : Hid (iv s24 z24 = 0) := hv24
      clear hx hv24 HR hrl
      clear HX
      go_wp2_with fail
      refine ent1 x24 _ _ (Q := fun W => Calls Try.prog _ _ W _) ?_
      intro x25 hb hse VN
      replace VL := Va.after hb VL
      replace VZ := Va.after hb VZ
      replace h4 := It.after hb h4
      replace i21 := It.after hb i21
      replace i24 := It.after hb i24
      replace B0 := step B0 hb
      clear hb
      clear hse
      refine (rep4 48 262145 (by omega) _).mono ?_
      rintro e x26 ⟨r3, rfl, HR, hb⟩
      replace VL := Va.after hb VL
      replace VZ := Va.after hb VZ
      replace VN := Va.after hb VN
      replace h4 := It.after hb h4
      replace i21 := It.after hb i21
      replace i24 := It.after hb i24
      replace B0 := step B0 hb
      clear hb
      have hrl : r3.length = 262145 := by rw [HR.out, List.length_replicate]
      go_wp2_with fail
      refine (wparsex_any r3 (by omega) _).mono ?_
      rintro e x27 ⟨s27, a27, l27, c27, z27, at27, er27, rfl, i27, HX, hb⟩
      replace VL := Va.after hb VL
      replace VZ := Va.after hb VZ
      replace VN := Va.after hb VN
      replace h4 := It.after hb h4
      replace i21 := It.after hb i21
      replace i24 := It.after hb i24
      replace B0 := step B0 hb
      clear hb
      have hx := HX.out
      rw [HR.out] at hx
      obtain rfl := wp_longz (by omega) hx
      clear hx HR hrl
      clear HX
      clear i27
      go_wp2_with fail
      refine ent1 x27 _ _ (Q := fun W => Calls Try.prog _ _ W _) ?_
      intro x28 hb hse VT
      replace VL := Va.after hb VL
      replace VZ := Va.after hb VZ
      replace VN := Va.after hb VN
      replace h4 := It.after hb h4
      replace i21 := It.after hb i21
      replace i24 := It.after hb i24
      replace B0 := step B0 hb
      clear hb
      clear hse
      clear VT
      refine (rep4 57 262144 (by omega) _).mono ?_
      rintro e x29 ⟨r4, rfl, HR, hb⟩
      replace VL := Va.after hb VL
      replace VZ := Va.after hb VZ
      replace VN := Va.after hb VN
      replace h4 := It.after hb h4
      replace i21 := It.after hb i21
      replace i24 := It.after hb i24
      replace B0 := step B0 hb
      clear hb
      have hrl : r4.length = 262144 := by rw [HR.out, List.length_replicate]
      go_wp2_with fail
      refine (wparsex_any r4 (by omega) _).mono ?_
      rintro e x30 ⟨s30, a30, l30, c30, z30, at30, er30, rfl, i30, HX, hb⟩
      replace VL := Va.after hb VL
      replace VZ := Va.after hb VZ
      replace VN := Va.after hb VN
      replace h4 := It.after hb h4
      replace i21 := It.after hb i21
      replace i24 := It.after hb i24
      replace B0 := step B0 hb
      clear hb
      have hx := HX.out
      rw [HR.out] at hx
      obtain ⟨rfl, rfl⟩ := wp_nines (by omega) (by omega) hx
      clear hx HR hrl
      clear HX
      clear i30
      have c_VL := VL.c0
      have f0_VL := VL.frozen 0
      have d_VL := VL.c1
      have f1_VL := VL.frozen 1
      have l_VL := VL.lt
      have m_VL := Nat.le_of_lt l_VL
      go_wp2_with fail
      clear c_VL f0_VL d_VL f1_VL l_VL m_VL
      refine ent1 x30 _ _ (Q := fun W => Calls Try.prog _ _ W _) ?_
      intro x31 hb hse VT
      replace VL := Va.after hb VL
      replace VZ := Va.after hb VZ
      replace VN := Va.after hb VN
      replace h4 := It.after hb h4
      replace i21 := It.after hb i21
      replace i24 := It.after hb i24
      replace B0 := step B0 hb
      clear hb
      clear hse
      clear VT
      have hsg : Int.sign (iv s4 z4) = -1 := Int.sign_eq_neg_one_of_neg (by have h1 := HV4.out; have h2 := pw_big4; omega)
      refine (wsign_any s4 a4 l4 c4 z4 _ h4).mono ?_
      rintro e x32 ⟨rfl, hb⟩
      replace VL := Va.after hb VL
      replace VZ := Va.after hb VZ
      replace VN := Va.after hb VN
      replace h4 := It.after hb h4
      replace i21 := It.after hb i21
      replace i24 := It.after hb i24
      replace B0 := step B0 hb
      clear hb
      rw [hsg]
      clear hsg HV4 VL h4
      have c_VZ := VZ.c0
      have f0_VZ := VZ.frozen 0
      have d_VZ := VZ.c1
      have f1_VZ := VZ.frozen 1
      have l_VZ := VZ.lt
      have m_VZ := Nat.le_of_lt l_VZ
      go_wp2_with fail
      clear c_VZ f0_VZ d_VZ f1_VZ l_VZ m_VZ
      refine (wsign_any s21 a21 l21 c21 z21 _ i21).mono ?_
      rintro e x33 ⟨rfl, hb⟩
      replace VZ := Va.after hb VZ
      replace VN := Va.after hb VN
      replace i21 := It.after hb i21
      replace i24 := It.after hb i24
      replace B0 := step B0 hb
      clear hb
      rw [HV21.out]
      have hs0 : Int.sign 0 = 0 := rfl
      rw [hs0]
      clear hs0
      have c_VN := VN.c0
      have f0_VN := VN.frozen 0
      have d_VN := VN.c1
      have f1_VN := VN.frozen 1
      have l_VN := VN.lt
      have m_VN := Nat.le_of_lt l_VN
      go_wp2_with fail
      clear c_VN f0_VN d_VN f1_VN l_VN m_VN
      refine (wsign_any s24 a24 l24 c24 z24 _ i24).mono ?_
      rintro e x34 ⟨rfl, hb⟩
      replace VZ := Va.after hb VZ
      replace VN := Va.after hb VN
      replace i21 := It.after hb i21
      replace i24 := It.after hb i24
      replace B0 := step B0 hb
      clear hb
      rw [HV24.out]
      have hs0 : Int.sign 0 = 0 := rfl
      rw [hs0]
      clear hs0
      go_wp2_with fail
      go_ret
      exact ⟨rfl, B0⟩
end Go.Proofs.Ytpfbcicjfnfpgaa
