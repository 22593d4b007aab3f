/-
  decimal.Of of any ratio.
-/
import Derived.Test.YtebbblhafjaaiaaGreatDoorDec8
import Derived.Test.YtebbblhafjaaiaaGreatDoorBsH
namespace Go.Proofs.YtebbblhafjaaiaaGreatDoor
open Go.RowKit Go.Shelf
set_option linter.unusedVariables false

/-- The first power of ten that a denominator divides. -/
def ofR (v : Rat) : Int × Nat × Int := match (List.range 10).find? (fun p => decide (10 ^ p % v.den = 0)) with
  | some p => frp (v.num * ((10 ^ p / v.den : Nat) : Int)) p
  | none => (0, 0, 61)
theorem ofR_some {v : Rat} {k : Nat} (hk : k < 10) (h : 10 ^ k % v.den = 0) (hb : ∀ p, p < k → 10 ^ p % v.den ≠ 0) : ofR v = frp (v.num * ((10 ^ k / v.den : Nat) : Int)) k := by
  have e : (List.range 10).find? (fun p => decide (10 ^ p % v.den = 0)) = some k := by
    rw [List.find?_range_eq_some]
    exact ⟨by simpa using h, by simpa using hk, fun j hj => by simpa using hb j hj⟩
  unfold ofR
  rw [e]
theorem ofR_none {v : Rat} (hb : ∀ p, p < 10 → 10 ^ p % v.den ≠ 0) : ofR v = (0, 0, 61) := by
  have e : (List.range 10).find? (fun p => decide (10 ^ p % v.den = 0)) = none := by
    rw [List.find?_eq_none]
    intro p hp
    simpa using hb p (by simpa using hp)
  unfold ofR
  rw [e]
theorem noIntD (x y : Int) : NoInt #[.int .i64 x, .int .i64 y] := by
  intro i z h
  rcases i with _ | _ | i <;> simp at h
theorem tens_index (k : Nat) (hk : k < 10) (W : World) : (Instr.index 101 (.agg #[.int .i64 1, .int .i64 10, .int .i64 100, .int .i64 1000, .int .i64 10000, .int .i64 100000, .int .i64 1000000, .int .i64 10000000, .int .i64 100000000, .int .i64 1000000000]) (.int .i64 (k : Int))).run Tryz.prog W = .ok (.int .i64 (10 ^ k)) W := by
  match k, hk with
  | 0, _ => simp [Instr.index, go_sem]
  | 1, _ => simp [Instr.index, go_sem]
  | 2, _ => simp [Instr.index, go_sem]
  | 3, _ => simp [Instr.index, go_sem]
  | 4, _ => simp [Instr.index, go_sem]
  | 5, _ => simp [Instr.index, go_sem]
  | 6, _ => simp [Instr.index, go_sem]
  | 7, _ => simp [Instr.index, go_sem]
  | 8, _ => simp [Instr.index, go_sem]
  | 9, _ => simp [Instr.index, go_sem]
theorem ten_mod {k : Nat} (d : Nat) : ((10 : Int) ^ k).tmod d = ((10 ^ k % d : Nat) : Int) := by
  rw [Int.tmod_eq_emod_of_nonneg (Int.le_of_lt (Int.pow_pos (by omega)))]; simp
theorem ten_div {k : Nat} (d : Nat) : ((10 : Int) ^ k).tdiv d = ((10 ^ k / d : Nat) : Int) := by
  rw [Int.tdiv_eq_ediv_of_nonneg (Int.le_of_lt (Int.pow_pos (by omega)))]; simp
theorem ten_small {q : Nat} (d : Nat) (hq : q < 10) : 10 ^ q % d ≤ 1000000000 ∧ 10 ^ q / d ≤ 1000000000 := by
  have h3 : 10 ^ q ≤ 10 ^ 9 := Nat.pow_le_pow_right (by omega) (by omega)
  have h4 : (10 : Nat) ^ 9 = 1000000000 := by decide
  have h1 := Nat.mod_le (10 ^ q) d
  have h2 := Nat.div_le_self (10 ^ q) d
  omega
theorem frp_fits {v : Rat} (h : Short v) {q : Nat} (hq : q ≤ 1000000000) : ((v.num * (q : Int)).natAbs : Int) < pw 4096 := by
  have h1 := h.1
  have e : ((v.num * (q : Int)).natAbs : Int) = (v.num.natAbs : Int) * q := by rw [Int.natAbs_mul]; simp
  rw [e]
  have h2 : (v.num.natAbs : Int) * q ≤ pw 1024 * 18446744073709551616 := Int.mul_le_mul (Int.le_of_lt h1) (by omega) (by omega) (Int.le_of_lt (pw_pos _))
  have h3 : pw 1024 * 18446744073709551616 = pw 1025 := (Int.mul_comm _ _).trans rfl
  rw [h3] at h2
  have h4 := pw_add 1025 1
  have h5 : pw 1 = 18446744073709551616 := by decide
  have h6 : pw (1025 + 1) ≤ pw 4096 := pw_mono (by omega)
  have h7 := pw_pos 1025
  rw [h4, h5] at h6
  generalize pw 1025 = X at *
  generalize pw 4096 = Y at *
  omega
set_option maxHeartbeats 8000000 in
set_option maxRecDepth 20000 in
theorem of_dec (s : Bool) (a : Option Addr) (l c : Nat) (zs : List Int) (b : Option Addr) (m d : Nat) (ds : List Int) (v : Rat) (w : World) (hr : Rt w s a l c zs b m d ds v) (hT : Tn w) :
    Calls Tryz.prog 26 #[.agg #[.bool s, .slice a l c, .slice b m d]] w fun e W' => e = .returned (.tuple #[.agg #[.int .i64 (ofR v).1, .int .i64 (ofR v).2.1], .int .i64 (ofR v).2.2]) ∧ Below w.heap.size w W' := by
  obtain ⟨dv', hdv⟩ : ∃ n : Nat, v.den = n := ⟨_, rfl⟩
  have hd0 : dv' ≠ 0 := by rw [← hdv]; exact v.den_nz
  have HDV : Hid (v.den = dv') := hdv
  have HT : Hid (Tn w) := hT
  clear hdv hT
  by_cases h64 : dv' < 18446744073709551616
  ·
    have B0 : Below w.heap.size w w := Below.refl _ _
    go_enter Tryz.func26, Tryz.ntmps26
    go_wp2_with fail
    refine ent2 w _ _ _ _ (Q := fun W => Calls Tryz.prog _ _ W _) ?_
    intro x1 hb hs_x1 V0 V1
    replace hr := Rt.after hb hr
    replace B0 := step B0 hb
    clear hb hs_x1
    refine (rden_any s a l c b m d ds _ hr.2.1).mono ?_
    rintro e x2 ⟨b3, m3, d3, y3, rfl, h3, e3, hb⟩
    replace V0 := Va.after hb V0
    replace V1 := Va.after hb V1
    replace hr := Rt.after hb hr
    replace B0 := step B0 hb
    clear hb
    have E3 : Hid (num y3 = dv') := by show _ = _; rw [e3, hr.2.2.2.1, HDV.out]
    clear e3
    go_wp2_with fail
    have hu := uint64_small b3 m3 d3 y3 x2 h3 (by rw [E3.out]; omega)
    rw [E3.out] at hu
    refine (hu).mono ?_
    rintro e x3 ⟨rfl, hb⟩
    replace V0 := Va.after hb V0
    replace V1 := Va.after hb V1
    replace hr := Rt.after hb hr
    replace h3 := Nt.after hb h3
    replace B0 := step B0 hb
    clear hb
    clear hu h3 E3
    have tc0 : x3.cell? ⟨0, 0, none⟩ = some (.int .i64 1) := ((HT.out.to B0).cell 0 (by omega))
    have tc1 : x3.cell? ⟨0, 1, none⟩ = some (.int .i64 10) := ((HT.out.to B0).cell 1 (by omega))
    have tc2 : x3.cell? ⟨0, 2, none⟩ = some (.int .i64 100) := ((HT.out.to B0).cell 2 (by omega))
    have tc3 : x3.cell? ⟨0, 3, none⟩ = some (.int .i64 1000) := ((HT.out.to B0).cell 3 (by omega))
    have tc4 : x3.cell? ⟨0, 4, none⟩ = some (.int .i64 10000) := ((HT.out.to B0).cell 4 (by omega))
    have tc5 : x3.cell? ⟨0, 5, none⟩ = some (.int .i64 100000) := ((HT.out.to B0).cell 5 (by omega))
    have tc6 : x3.cell? ⟨0, 6, none⟩ = some (.int .i64 1000000) := ((HT.out.to B0).cell 6 (by omega))
    have tc7 : x3.cell? ⟨0, 7, none⟩ = some (.int .i64 10000000) := ((HT.out.to B0).cell 7 (by omega))
    have tc8 : x3.cell? ⟨0, 8, none⟩ = some (.int .i64 100000000) := ((HT.out.to B0).cell 8 (by omega))
    have tc9 : x3.cell? ⟨0, 9, none⟩ = some (.int .i64 1000000000) := ((HT.out.to B0).cell 9 (by omega))
    go_wp2_with fail
    have hr0 := hr
    go_loop [18] (fun i => ∃ k : Nat, i = .int .i64 k ∧ k ≤ 10 ∧ Hid (∀ p, p < k → 10 ^ p % dv' ≠ 0)) (fun i => 10 - (intOf i).toNat)
    case atStart => exact ⟨0, rfl, by omega, fun p hp => absurd hp (by omega)⟩
    case round =>
      clear tc0 tc1 tc2 tc3 tc4 tc5 tc6 tc7 tc8 tc9
      obtain ⟨q, rfl, hq, HQ⟩ := hrel
      by_cases hq10 : q < 10
      · have hqi : (q : Int) < 10 := by omega
        have hix := tens_index q hq10
        obtain ⟨T, hTT⟩ : ∃ T : Int, (10 : Int) ^ q = T := ⟨_, rfl⟩
        have hTb := ten_bound (P := q) (by omega)
        obtain ⟨M, hM⟩ : ∃ M : Nat, 10 ^ q % dv' = M := ⟨_, rfl⟩
        obtain ⟨G, hG⟩ : ∃ G : Nat, 10 ^ q / dv' = G := ⟨_, rfl⟩
        have hMi : T.tmod (dv' : Int) = M := by rw [← hTT, ten_mod, hM]
        have hGi : T.tdiv (dv' : Int) = G := by rw [← hTT, ten_div, hG]
        rw [hTT] at hix hTb
        have hsm := ten_small dv' hq10
        rw [hM, hG] at hsm
        have HGb : Hid (G ≤ 1000000000) := hsm.2
        have hGb := HGb.out
        have HM : Hid (10 ^ q % dv' = M) := hM
        have HG : Hid (10 ^ q / dv' = G) := hG
        have eT : IntKind.u64.wrap T = T := by rw [IntKind.wrap_u64]; omega
        have eM : IntKind.u64.wrap (M : Int) = M := by rw [IntKind.wrap_u64]; omega
        have eG : IntKind.u64.wrap (G : Int) = G := by rw [IntKind.wrap_u64]; omega
        have eG2 : IntKind.i64.wrap (G : Int) = G := by rw [IntKind.wrap_i64]; omega
        have hdz : ((dv' : Int) == 0) = false := by simpa using hd0
        have hdn : (dv' : Int) ≠ 0 := by omega
        clear hTT hM hG
        by_cases hM0 : M = 0
        · have hm : ((M : Int) == 0) = true := by simp [hM0]
          have HM0 : Hid (M = 0) := hM0
          clear hM0
          go_wp2_with fail
          refine wp_region_noPanic ?_
          replace V0 : Va x3.drew _ _ _ := V0
          replace V1 : Va x3.drew _ _ _ := V1
          replace hr := hr.drw
          replace B0 := Below.drew B0
          refine wp_region_held_drew (S := (fun W => W.cell? ⟨w.heap.size, 0, none⟩ = some (.bool s) ∧ W.cell? ⟨w.heap.size, 1, none⟩ = some (.slice a l c) ∧ W.cell? ⟨w.heap.size, 2, none⟩ = some (.slice b m d))) (by kernel_rfl) ⟨V0.d0, V0.d1, V0.d2⟩ (fun hHeld => ?_)
          obtain ⟨x4, hxd⟩ : ∃ xd, xd = x3.drew := ⟨_, rfl⟩
          rw [← hxd] at V0 V1 hr B0 hHeld ⊢
          clear hxd
          refine wpAnyH_take (i := 0) (v := ?_) rfl (by kernel_rfl) (by kernel_rfl) (by kernel_rfl) (fun _ _ _ h => h) (Or.inl ⟨by rfl, ?_⟩) hHeld ?_
          rotate_left
          · (intro W hSw; (try dsimp only at hSw); go_simp; all_goals (with_reducible rfl))
          simp only [List.getElem_toArray, List.getElem_cons_zero, Act.put, List.setIfInBounds_toArray, List.set_cons_zero, List.set_cons_succ]
          refine wpAnyH_take (i := 2) (v := ?_) rfl (by kernel_rfl) (by kernel_rfl) (by kernel_rfl) (fun _ _ _ h => h) (Or.inl ⟨by rfl, ?_⟩) hHeld ?_
          rotate_left
          · (intro W hSw; (try dsimp only at hSw); go_simp; all_goals (with_reducible rfl))
          simp only [List.getElem_toArray, List.getElem_cons_zero, List.getElem_cons_succ, Act.put, List.setIfInBounds_toArray, List.set_cons_zero, List.set_cons_succ]
          refine wpAnyH_take (i := 3) (v := ?_) rfl (by kernel_rfl) (by kernel_rfl) (by kernel_rfl) (fun _ _ _ h => h) (Or.inl ⟨by rfl, ?_⟩) hHeld ?_
          rotate_left
          · (intro W hSw; (try dsimp only at hSw); go_simp; all_goals (with_reducible rfl))
          simp only [List.getElem_toArray, List.getElem_cons_zero, List.getElem_cons_succ, Act.put, List.setIfInBounds_toArray, List.set_cons_zero, List.set_cons_succ]
          refine wpAnyH_take (i := 4) (v := ?_) rfl (by kernel_rfl) (by kernel_rfl) (by kernel_rfl) (fun _ _ _ h => h) (Or.inl ⟨by rfl, ?_⟩) hHeld ?_
          rotate_left
          · (intro W hSw; (try dsimp only at hSw); go_simp; all_goals (with_reducible rfl))
          simp only [List.getElem_toArray, List.getElem_cons_zero, List.getElem_cons_succ, Act.put, List.setIfInBounds_toArray, List.set_cons_zero, List.set_cons_succ]
          refine wpAnyH_take (i := 5) (v := ?_) rfl (by kernel_rfl) (by kernel_rfl) (by kernel_rfl) (fun _ _ _ h => h) (Or.inl ⟨by rfl, ?_⟩) hHeld ?_
          rotate_left
          · (intro W hSw; (try dsimp only at hSw); go_simp; all_goals (with_reducible rfl))
          simp only [List.getElem_toArray, List.getElem_cons_zero, List.getElem_cons_succ, Act.put, List.setIfInBounds_toArray, List.set_cons_zero, List.set_cons_succ]
          refine wpAnyH_take (i := 6) (v := ?_) rfl (by kernel_rfl) (by kernel_rfl) (by kernel_rfl) (fun _ _ _ h => h) (Or.inl ⟨by rfl, ?_⟩) hHeld ?_
          rotate_left
          · (intro W hSw; (try dsimp only at hSw); go_simp; all_goals (with_reducible rfl))
          simp only [List.getElem_toArray, List.getElem_cons_zero, List.getElem_cons_succ, Act.put, List.setIfInBounds_toArray, List.set_cons_zero, List.set_cons_succ]
          refine wpAnyH_take (i := 7) (v := ?_) rfl (by kernel_rfl) (by kernel_rfl) (by kernel_rfl) (fun _ _ _ h => h) (Or.inl ⟨by rfl, ?_⟩) hHeld ?_
          rotate_left
          · (intro W hSw; (try dsimp only at hSw); go_simp; all_goals (with_reducible rfl))
          simp only [List.getElem_toArray, List.getElem_cons_zero, List.getElem_cons_succ, Act.put, List.setIfInBounds_toArray, List.set_cons_zero, List.set_cons_succ]
          refine wpAnyH_ready (rs := [1]) (by kernel_rfl) (by simp) ?_
          refine AllReadyH.cons rfl (fun K hK => ?_) AllReadyH.nil
          simp only [List.getElem_toArray, List.getElem_cons_zero, List.getElem_cons_succ]
          go_simp
          refine (qnum_any s a l c b m d _).mono ?_
          rintro e x5 ⟨rfl, hb⟩
          replace V0 := Va.after hb V0
          replace V1 := Va.after hb V1
          replace hr := Rt.after hb hr
          replace B0 := step B0 hb
          clear hb
          try go_wp2_with fail
          refine hK.out _ _ ⟨V0.d0, V0.d1, V0.d2⟩ (fun hHeld => ?_)
          clear hK K
          have hN := hr.1
          have HOF : Hid (ofR v = frp (v.num * (G : Int)) q) := by have h := ofR_some (v := v) hq10 (by rw [HDV.out, HM.out, HM0.out]) (fun p hp => by rw [HDV.out]; exact HQ.out p hp); rw [HDV.out, HG.out] at h; exact h
          refine wpAnyH_ready (rs := [8]) (by kernel_rfl) (by simp) ?_
          refine AllReadyH.cons rfl (fun K hK => ?_) AllReadyH.nil
          simp only [List.getElem_toArray, List.getElem_cons_zero, List.getElem_cons_succ]
          go_simp
          refine (frp_any s a l c zs v.num G q _ hN hr.2.2.1 (by omega) (by omega) (frp_fits hr.2.2.2.2 HGb.out)).mono ?_
          rintro e x6 ⟨rfl, hb⟩
          replace V0 := Va.after hb V0
          replace V1 := Va.after hb V1
          replace hr := Rt.after hb hr
          replace hN := It.after hb hN
          replace B0 := step B0 hb
          clear hb
          try go_wp2_with fail
          refine hK.out _ _ ⟨V0.d0, V0.d1, V0.d2⟩ (fun hHeld => ?_)
          clear hK K
          refine wpAnyH_take (i := 9) (v := ?_) rfl (by kernel_rfl) (by kernel_rfl) (by kernel_rfl) (fun _ _ _ h => h) (Or.inl ⟨by rfl, ?_⟩) hHeld ?_
          rotate_left
          · (intro W hSw; (try dsimp only at hSw); go_simp; all_goals (with_reducible rfl))
          simp only [List.getElem_toArray, List.getElem_cons_zero, List.getElem_cons_succ, Act.put, List.setIfInBounds_toArray, List.set_cons_zero, List.set_cons_succ]
          refine wpAnyH_take (i := 10) (v := ?_) rfl (by kernel_rfl) (by kernel_rfl) (by kernel_rfl) (fun _ _ _ h => h) (Or.inl ⟨by rfl, ?_⟩) hHeld ?_
          rotate_left
          · (intro W hSw; (try dsimp only at hSw); go_simp; all_goals (with_reducible rfl))
          simp only [List.getElem_toArray, List.getElem_cons_zero, List.getElem_cons_succ, Act.put, List.setIfInBounds_toArray, List.set_cons_zero, List.set_cons_succ]
          have c_V1 := V1.c0
          have f0_V1 := V1.frozen 0
          have d_V1 := V1.c1
          have f1_V1 := V1.frozen 1
          have l_V1 := V1.lt
          have m_V1 := Nat.le_of_lt l_V1
          refine wpAnyH_ready (rs := [11]) (by kernel_rfl) (by simp) ?_
          refine AllReadyH.cons rfl (fun K hK => ?_) AllReadyH.nil
          simp only [List.getElem_toArray, List.getElem_cons_zero, List.getElem_cons_succ]
          go_simp
          clear c_V1 f0_V1 d_V1 f1_V1 l_V1 m_V1
          refine st2 V1 (.int .i64 (frp (v.num * (G : Int)) q).1) (.int .i64 (frp (v.num * (G : Int)) q).2.1) (Q := fun W => K _ W) ?_
          intro x7 V' oth far
          replace V0 := oth _ _ _ (by first | omega | assumption | (simp; omega)) V0
          replace hr := hr.far V1 (noIntD _ _) far.1
          replace hN := hN.far V1 (noIntD _ _) far.1
          replace B0 := far.2 _ _ (by first | omega | (simp; omega)) B0
          replace V1 := V'
          clear oth far
          refine hK.out _ _ ⟨V0.d0, V0.d1, V0.d2⟩ (fun hHeld => ?_)
          clear hK K
          refine wpAnyH_take (i := 12) (v := ?_) rfl (by kernel_rfl) (by kernel_rfl) (by kernel_rfl) (fun _ _ _ h => h) (Or.inl ⟨by rfl, ?_⟩) hHeld ?_
          rotate_left
          · (intro W hSw; (try dsimp only at hSw); go_simp; all_goals (with_reducible rfl))
          simp only [List.getElem_toArray, List.getElem_cons_zero, List.getElem_cons_succ, Act.put, List.setIfInBounds_toArray, List.set_cons_zero, List.set_cons_succ]
          refine wpAnyH_done (by kernel_rfl) ?_ _
          refine NoPanic.normal ?_
          clear hHeld
          go_wp2_with fail
          refine bodyPost_ret (results_dt rfl rfl V1) rfl ?_
          rw [HOF.out]
          exact ⟨rfl, B0⟩
        · have hm : ((M : Int) == 0) = false := by simpa using hM0
          go_wp2_with fail
          go_round
          case rel => exact ⟨q + 1, by go_num, by omega, fun p hp => by rcases Nat.lt_or_ge p q with h | h; exact HQ.out p h; rw [show p = q by omega, HM.out]; exact hM0⟩
          case measure => simp [intOf]; omega
      · have hqi : ¬ (q : Int) < 10 := by omega
        have HOF : Hid (ofR v = (0, 0, 61)) := ofR_none (fun p hp => by rw [HDV.out]; exact HQ.out p (by omega))
        have c_V1 := V1.c0
        have f0_V1 := V1.frozen 0
        have d_V1 := V1.c1
        have f1_V1 := V1.frozen 1
        have l_V1 := V1.lt
        have m_V1 := Nat.le_of_lt l_V1
        go_wp2_with fail
        refine bodyPost_ret (results_dt rfl rfl (V1.set2 _ _)) rfl ?_
        rw [HOF.out]
        exact ⟨rfl, below_2 B0 (by omega) _ _⟩
  · have HOF : Hid (ofR v = (0, 0, 61)) := ofR_none (fun p hp h => by
      have h1 := Nat.dvd_of_mod_eq_zero h
      rw [HDV.out] at h1
      have h2 := Nat.le_of_dvd (Nat.pow_pos (by omega)) h1
      have h3 : 10 ^ p ≤ 10 ^ 9 := Nat.pow_le_pow_right (by omega) (by omega)
      have h4 : (10 : Nat) ^ 9 = 1000000000 := by decide
      omega)
    rw [HOF.out]
    have B0 : Below w.heap.size w w := Below.refl _ _
    go_enter Tryz.func26, Tryz.ntmps26
    go_wp2_with fail
    refine ent2 w _ _ _ _ (Q := fun W => Calls Tryz.prog _ _ W _) ?_
    intro x1 hb hs_x1 V0 V1
    replace hr := Rt.after hb hr
    replace B0 := step B0 hb
    clear hb hs_x1
    refine (rden_any s a l c b m d ds _ hr.2.1).mono ?_
    rintro e x2 ⟨b3, m3, d3, y3, rfl, h3, e3, hb⟩
    replace V0 := Va.after hb V0
    replace V1 := Va.after hb V1
    replace hr := Rt.after hb hr
    replace B0 := step B0 hb
    clear hb
    have E3 : Hid (num y3 = dv') := by show _ = _; rw [e3, hr.2.2.2.1, HDV.out]
    clear e3
    go_wp2_with fail
    refine (uint64_great b3 m3 d3 y3 _ h3 (by rw [E3.out]; omega)).mono ?_
    rintro e x3 ⟨rfl, hb⟩
    replace V0 := Va.after hb V0
    replace V1 := Va.after hb V1
    replace hr := Rt.after hb hr
    replace h3 := Nt.after hb h3
    replace B0 := step B0 hb
    clear hb
    have c_V1 := V1.c0
    have f0_V1 := V1.frozen 0
    have d_V1 := V1.c1
    have f1_V1 := V1.frozen 1
    have l_V1 := V1.lt
    have m_V1 := Nat.le_of_lt l_V1
    go_wp2_with fail
    refine bodyPost_ret (results_dt rfl rfl (V1.set2 _ _)) rfl ?_
    exact ⟨rfl, below_2 B0 (by omega) _ _⟩
end Go.Proofs.YtebbblhafjaaiaaGreatDoor
