/-
  whole.DivMod.
-/
import Derived.Test.YtpfbcicjfnfpgaaWh3
import Derived.Test.YtpfbcicjfnfpgaaBsO
namespace Go.Proofs.Ytpfbcicjfnfpgaa
open Go.RowKit Go.Shelf
set_option linter.unusedVariables false

/-- What stands once quotient and rest are made. -/
def DmF (w : World) (s t : Bool) (a b : Option Addr) (la ca lb cb : Nat) (ys : List Int) (aq : Option Addr) (lq kq : Nat) (zq : List Int) (ar : Option Addr) (lr kr : Nat) (zr : List Int) (bl b10 b11 : Nat) (sq sr : Bool) (W : World) : Prop :=
  Va W w.heap.size 27 #[.bool s, .slice a la ca] ∧ Va W (w.heap.size + 1) 27 #[.bool t, .slice b lb cb] ∧ Va W (w.heap.size + 1 + 1) 27 #[.bool false, .slice none 0 0] ∧ Va W (w.heap.size + 1 + 1 + 1) 27 #[.bool false, .slice none 0 0] ∧
  Va W bl 25 #[.slice ar lr kr] ∧ Va W b10 27 #[.bool sq, .slice aq lq kq] ∧ Va W b11 27 #[.bool sr, .slice ar lr kr] ∧ It W t b lb cb ys ∧ It W sq aq lq kq zq ∧ It W sr ar lr kr zr ∧ iv sq zq = iv (s != t) zq ∧ iv sr zr = iv s zr ∧ Below w.heap.size w W ∧
  (w.heap.size + 4 ≤ b10 ∧ w.heap.size + 4 ≤ b11 ∧ b10 ≠ b11 ∧ w.heap.size + 4 ≤ bl)
/-- What quotient and rest are. -/
def DmR (er : Int) (s t : Bool) (xs ys : List Int) (sq : Bool) (aq : Option Addr) (lq kq : Nat) (zq : List Int) (sr : Bool) (ar : Option Addr) (lr kr : Nat) (zr : List Int) : Prop :=
  ((er = 4 ∧ sq = false ∧ aq = none ∧ lq = 0 ∧ kq = 0 ∧ zq = [] ∧ sr = false ∧ ar = none ∧ lr = 0 ∧ kr = 0 ∧ zr = []) ∨ (er = 0 ∧ iv s xs = iv sq zq * iv t ys + iv sr zr ∧ ((0 ≤ iv sr zr ∧ iv sr zr < iv t ys) ∨ (iv t ys < iv sr zr ∧ iv sr zr ≤ 0))))
theorem dm_id {s t : Bool} {xs ys zq zr : List Int} (h : num xs = num zq * num ys + num zr) : iv s xs = iv (s != t) zq * iv t ys + iv s zr := by
  cases s <;> cases t <;> simp [iv_t, iv_f] <;> grind
theorem dm_floor {s t : Bool} {ys zr : List Int} (h0 : 0 ≤ num zr) (h1 : num zr < num ys) (h : num zr = 0 ∨ s = t) : (0 ≤ iv s zr ∧ iv s zr < iv t ys) ∨ (iv t ys < iv s zr ∧ iv s zr ≤ 0) := by
  rcases h with h | h
  · cases s <;> cases t <;> simp only [iv_t, iv_f] <;> omega
  · subst h
    cases s <;> simp only [iv_t, iv_f] <;> omega
theorem dm_floor2 {s : Bool} {ys zr : List Int} (h0 : 0 ≤ num zr) (h1 : num zr < num ys) (h : num zr ≠ 0) : (0 ≤ iv s zr + iv (!s) ys ∧ iv s zr + iv (!s) ys < iv (!s) ys) ∨ (iv (!s) ys < iv s zr + iv (!s) ys ∧ iv s zr + iv (!s) ys ≤ 0) := by
  cases s <;> simp only [iv_t, iv_f, Bool.not_false, Bool.not_true] <;> omega
theorem dm_fits {s : Bool} {P : Int} {xs ys zq zr : List Int} (hx : num xs < P) (hy : num ys < P) (q0 : 0 ≤ num zq) (r0 : 0 ≤ num zr) (h : num xs = num zq * num ys + num zr) (h1 : num zr < num ys) (h2 : num zr ≠ 0) :
    ((iv (s != !s) zq - 1).natAbs : Int) < P ∧ ((iv s zr + iv (!s) ys).natAbs : Int) < P := by
  have e : (s != !s) = true := by cases s <;> rfl
  have h3 : num zq * 2 ≤ num zq * num ys := Int.mul_le_mul_of_nonneg_left (by omega) q0
  rw [e, iv_t]
  refine ⟨by omega, ?_⟩
  cases s <;> simp only [iv_t, iv_f, Bool.not_false, Bool.not_true] <;> omega

set_option maxHeartbeats 8000000 in
theorem wdiv_core (er : Int) (P : Option Addr → Nat → Nat → List Int → Option Addr → Nat → Nat → List Int → Prop) (s t : Bool) (a b : Option Addr) (la ca lb cb : Nat) (xs ys : List Int) (w : World) (hx : It w s a la ca xs) (hy : It w t b lb cb ys)
    (C : Hid (∀ W, Nt W a la ca xs → Nt W b lb cb ys → Calls Try.prog 24 #[.agg #[.slice a la ca], .agg #[.slice b lb cb]] W fun e w' => ∃ aq lq kq zq ar lr kr zr, e = .returned (.tuple #[.agg #[.slice aq lq kq], .agg #[.slice ar lr kr], .int .i64 er]) ∧ Nt w' aq lq kq zq ∧ Nt w' ar lr kr zr ∧ Hid (P aq lq kq zq ar lr kr zr) ∧ Below W.heap.size W w'))
    (hcase : Hid ((er = 4 ∧ ∀ aq lq kq zq ar lr kr zr, P aq lq kq zq ar lr kr zr → aq = none ∧ lq = 0 ∧ kq = 0 ∧ zq = [] ∧ ar = none ∧ lr = 0 ∧ kr = 0 ∧ zr = []) ∨ (er = 0 ∧ ∀ aq lq kq zq ar lr kr zr, P aq lq kq zq ar lr kr zr → num xs = num zq * num ys + num zr ∧ num zr < num ys))) :
    Calls Try.prog 9 #[.agg #[.bool s, .slice a la ca], .agg #[.bool t, .slice b lb cb]] w fun e w' => ∃ sq aq lq kq zq sr ar lr kr zr, e = .returned (.tuple #[.agg #[.bool sq, .slice aq lq kq], .agg #[.bool sr, .slice ar lr kr], .int .i64 er]) ∧ It w' sq aq lq kq zq ∧ It w' sr ar lr kr zr ∧
      DmR er s t xs ys sq aq lq kq zq sr ar lr kr zr ∧ Below w.heap.size w w' := by
  have HXL : Hid (∀ P, pw 4096 = P → num xs < P ∧ num ys < P) := fun P e => by rw [← e]; exact ⟨hx.1.lt, hy.1.lt⟩
  have B0 : Below w.heap.size w w := Below.refl _ _
  go_enter Try.func9, Try.ntmps9
  go_wp2_with fail
  refine ent4 w _ _ _ _ _ _ _ _ (Q := fun W => Calls Try.prog _ _ W _) ?_
  intro x1 hb hs_x1 V0 V1 V2 V3
  replace hx := It.after hb hx
  replace hy := It.after hb hy
  replace B0 := step B0 hb
  clear hb hs_x1
  refine (C.out x1 hx.1 hy.1).mono ?_
  rintro e x2 ⟨aq, lq, kq, zq, ar, lr, kr, zr, rfl, hq, hr, hP, hb⟩
  replace V0 := Va.after hb V0
  replace V1 := Va.after hb V1
  replace V2 := Va.after hb V2
  replace V3 := Va.after hb V3
  replace hx := It.after hb hx
  replace hy := It.after hb hy
  replace B0 := step B0 hb
  clear hb
  have c_V0 := V0.c0
  have d_V0 := V0.c1
  have f_V0 := V0.frozen 0
  have g_V0 := V0.frozen 1
  have l_V0 := V0.lt
  have m_V0 := Nat.le_of_lt l_V0
  have c_V1 := V1.c0
  have d_V1 := V1.c1
  have f_V1 := V1.frozen 0
  have g_V1 := V1.frozen 1
  have l_V1 := V1.lt
  have m_V1 := Nat.le_of_lt l_V1
  have c_V2 := V2.c0
  have d_V2 := V2.c1
  have f_V2 := V2.frozen 0
  have g_V2 := V2.frozen 1
  have l_V2 := V2.lt
  have m_V2 := Nat.le_of_lt l_V2
  have c_V3 := V3.c0
  have d_V3 := V3.c1
  have f_V3 := V3.frozen 0
  have g_V3 := V3.frozen 1
  have l_V3 := V3.lt
  have m_V3 := Nat.le_of_lt l_V3
  go_wp2_with fail
  have szz := B0.size
  have lv3 := V3.lt
  refine ent2 x2 _ _ _ _ (Q := fun W => Code.wp Try.prog _ _ _ W) ?_
  intro x3 hb hs_x3 Vt Vl
  replace V0 := Va.after hb V0
  replace V1 := Va.after hb V1
  replace V2 := Va.after hb V2
  replace V3 := Va.after hb V3
  replace hq := Nt.after hb hq
  replace hr := Nt.after hb hr
  replace hx := It.after hb hx
  replace hy := It.after hb hy
  replace B0 := step B0 hb
  clear hb hs_x3
  clear C
  clear hx
  go_cut [10, 11] (fun s10 s11 wx => ∃ (b10 b11 : Nat) (sq sr : Bool), s10 = .pointer (some ⟨b10, 0, none⟩) ∧ s11 = .pointer (some ⟨b11, 0, none⟩) ∧ Hid (DmF w s t a b la ca lb cb ys aq lq kq zq ar lr kr zr (x2.heap.size + 1) b10 b11 sq sr wx))
  case first =>
    clear hcase HXL hP
    clear c_V0 d_V0 f_V0 g_V0 l_V0 m_V0 c_V1 d_V1 f_V1 g_V1 l_V1 m_V1 c_V2 d_V2 f_V2 g_V2 l_V2 m_V2 c_V3 d_V3 f_V3 g_V3 l_V3 m_V3
    refine wp_region_noPanic ?_
    replace V0 : Va x3.drew _ _ _ := V0
    replace V1 : Va x3.drew _ _ _ := V1
    replace V2 : Va x3.drew _ _ _ := V2
    replace V3 : Va x3.drew _ _ _ := V3
    replace Vt : Va x3.drew _ _ _ := Vt
    replace Vl : Va x3.drew _ _ _ := Vl
    replace hq : Nt x3.drew _ _ _ _ := hq
    replace hr : Nt x3.drew _ _ _ _ := hr
    replace hy : It x3.drew _ _ _ _ _ := hy
    replace B0 := Below.drew B0
    refine wp_region_held_drew (S := (fun W => W.cell? ⟨w.heap.size, 0, none⟩ = some (.bool s) ∧ W.cell? ⟨w.heap.size, 1, none⟩ = some (.slice a la ca) ∧ W.cell? ⟨w.heap.size + 1, 0, none⟩ = some (.bool t) ∧ W.cell? ⟨w.heap.size + 1, 1, none⟩ = some (.slice b lb cb) ∧ W.cell? ⟨x2.heap.size, 0, none⟩ = some (.slice aq lq kq) ∧ W.cell? ⟨x2.heap.size + 1, 0, none⟩ = some (.slice ar lr kr))) (by kernel_rfl) ⟨V0.c0, V0.c1, V1.c0, V1.c1, Vt.cell, Vl.cell⟩ (fun hHeld => ?_)
    obtain ⟨x4, hxd⟩ : ∃ xd, xd = x3.drew := ⟨_, rfl⟩
    rw [← hxd] at V0 V1 V2 V3 Vt Vl hq hr hy B0 hHeld ⊢
    clear hxd
    refine wpAnyH_take (i := 0) (v := ?_) rfl (by kernel_rfl) (by kernel_rfl) (by kernel_rfl) (fun _ _ _ h => h) (Or.inl ⟨by rfl, ?_⟩) hHeld ?_
    rotate_left
    · (intro W hSw; (try dsimp only at hSw); go_simp; all_goals (with_reducible rfl))
    simp only [List.getElem_toArray, List.getElem_cons_zero, Act.put, List.setIfInBounds_toArray, List.set_cons_zero, List.set_cons_succ]
    refine wpAnyH_take (i := 1) (v := ?_) rfl (by kernel_rfl) (by kernel_rfl) (by kernel_rfl) (fun _ _ _ h => h) (Or.inl ⟨by rfl, ?_⟩) hHeld ?_
    rotate_left
    · (intro W hSw; (try dsimp only at hSw); go_simp; all_goals (with_reducible rfl))
    simp only [List.getElem_toArray, List.getElem_cons_zero, List.getElem_cons_succ, Act.put, List.setIfInBounds_toArray, List.set_cons_zero, List.set_cons_succ]
    refine wpAnyH_take (i := 2) (v := ?_) rfl (by kernel_rfl) (by kernel_rfl) (by kernel_rfl) (fun _ _ _ h => h) (Or.inl ⟨by rfl, ?_⟩) hHeld ?_
    rotate_left
    · (intro W hSw; (try dsimp only at hSw); go_simp; all_goals (with_reducible rfl))
    simp only [List.getElem_toArray, List.getElem_cons_zero, List.getElem_cons_succ, Act.put, List.setIfInBounds_toArray, List.set_cons_zero, List.set_cons_succ]
    refine wpAnyH_take (i := 3) (v := ?_) rfl (by kernel_rfl) (by kernel_rfl) (by kernel_rfl) (fun _ _ _ h => h) (Or.inl ⟨by rfl, ?_⟩) hHeld ?_
    rotate_left
    · (intro W hSw; (try dsimp only at hSw); go_simp; all_goals (with_reducible rfl))
    simp only [List.getElem_toArray, List.getElem_cons_zero, List.getElem_cons_succ, Act.put, List.setIfInBounds_toArray, List.set_cons_zero, List.set_cons_succ]
    refine wpAnyH_take (i := 4) (v := ?_) rfl (by kernel_rfl) (by kernel_rfl) (by kernel_rfl) (fun _ _ _ h => h) (Or.inl ⟨by rfl, ?_⟩) hHeld ?_
    rotate_left
    · (intro W hSw; (try dsimp only at hSw); go_simp; all_goals (with_reducible rfl))
    simp only [List.getElem_toArray, List.getElem_cons_zero, List.getElem_cons_succ, Act.put, List.setIfInBounds_toArray, List.set_cons_zero, List.set_cons_succ]
    refine wpAnyH_take (i := 5) (v := ?_) rfl (by kernel_rfl) (by kernel_rfl) (by kernel_rfl) (fun _ _ _ h => h) (Or.inl ⟨by rfl, ?_⟩) hHeld ?_
    rotate_left
    · (intro W hSw; (try dsimp only at hSw); go_simp; all_goals (with_reducible rfl))
    simp only [List.getElem_toArray, List.getElem_cons_zero, List.getElem_cons_succ, Act.put, List.setIfInBounds_toArray, List.set_cons_zero, List.set_cons_succ]
    refine wpAnyH_take (i := 7) (v := ?_) rfl (by kernel_rfl) (by kernel_rfl) (by kernel_rfl) (fun _ _ _ h => h) (Or.inl ⟨by rfl, ?_⟩) hHeld ?_
    rotate_left
    · (intro W hSw; (try dsimp only at hSw); go_simp; all_goals (with_reducible rfl))
    simp only [List.getElem_toArray, List.getElem_cons_zero, List.getElem_cons_succ, Act.put, List.setIfInBounds_toArray, List.set_cons_zero, List.set_cons_succ]
    refine wpAnyH_take (i := 8) (v := ?_) rfl (by kernel_rfl) (by kernel_rfl) (by kernel_rfl) (fun _ _ _ h => h) (Or.inl ⟨by rfl, ?_⟩) hHeld ?_
    rotate_left
    · (intro W hSw; (try dsimp only at hSw); go_simp; all_goals (with_reducible rfl))
    simp only [List.getElem_toArray, List.getElem_cons_zero, List.getElem_cons_succ, Act.put, List.setIfInBounds_toArray, List.set_cons_zero, List.set_cons_succ]
    refine wpAnyH_take (i := 9) (v := ?_) rfl (by kernel_rfl) (by kernel_rfl) (by kernel_rfl) (fun _ _ _ h => h) (Or.inl ⟨by rfl, ?_⟩) hHeld ?_
    rotate_left
    · (intro W hSw; (try dsimp only at hSw); go_simp; all_goals (with_reducible rfl))
    simp only [List.getElem_toArray, List.getElem_cons_zero, List.getElem_cons_succ, Act.put, List.setIfInBounds_toArray, List.set_cons_zero, List.set_cons_succ]
    refine wpAnyH_ready (rs := [6, 11, 12]) (by kernel_rfl) (by simp) ?_
    refine AllReadyH.cons rfl (fun K hK => ?_) (AllReadyH.cons rfl (fun K hK => ?_) (AllReadyH.cons rfl (fun K hK => ?_) AllReadyH.nil))
    ·
      simp only [List.getElem_toArray, List.getElem_cons_zero, List.getElem_cons_succ]
      go_simp
      refine (wnew_any _ aq lq kq zq _ hq).mono ?_
      rintro e x5 ⟨sq, rfl, hsq, eq', hb⟩
      replace V0 := Va.after hb V0
      replace V1 := Va.after hb V1
      replace V2 := Va.after hb V2
      replace V3 := Va.after hb V3
      replace Vt := Va.after hb Vt
      replace Vl := Va.after hb Vl
      replace hq := Nt.after hb hq
      replace hr := Nt.after hb hr
      replace hy := It.after hb hy
      replace B0 := step B0 hb
      clear hb
      try go_wp2_with fail
      refine hK.out _ _ ⟨V0.c0, V0.c1, V1.c0, V1.c1, Vt.cell, Vl.cell⟩ (fun hHeld => ?_)
      clear hK K
      refine wpAnyH_ready (rs := [10, 11, 12]) (by kernel_rfl) (by simp) ?_
      refine AllReadyH.cons rfl (fun K hK => ?_) (AllReadyH.cons rfl (fun K hK => ?_) (AllReadyH.cons rfl (fun K hK => ?_) AllReadyH.nil))
      ·
        simp only [List.getElem_toArray, List.getElem_cons_zero, List.getElem_cons_succ]
        go_simp
        refine (wnew_any _ ar lr kr zr _ hr).mono ?_
        rintro e x6 ⟨sr, rfl, hsr, er', hb⟩
        replace V0 := Va.after hb V0
        replace V1 := Va.after hb V1
        replace V2 := Va.after hb V2
        replace V3 := Va.after hb V3
        replace Vt := Va.after hb Vt
        replace Vl := Va.after hb Vl
        replace hq := Nt.after hb hq
        replace hr := Nt.after hb hr
        replace hy := It.after hb hy
        replace hsq := It.after hb hsq
        replace B0 := step B0 hb
        clear hb
        try go_wp2_with fail
        refine hK.out _ _ ⟨V0.c0, V0.c1, V1.c0, V1.c1, Vt.cell, Vl.cell⟩ (fun hHeld => ?_)
        clear hK K
        refine wpAnyH_ready (rs := [11, 12]) (by kernel_rfl) (by simp) ?_
        refine AllReadyH.cons rfl (fun K hK => ?_) (AllReadyH.cons rfl (fun K hK => ?_) AllReadyH.nil)
        ·
          simp only [List.getElem_toArray, List.getElem_cons_zero, List.getElem_cons_succ]
          go_simp
          have lt_Vq_V0 := V0.lt
          have lt_Vq_V1 := V1.lt
          have lt_Vq_V2 := V2.lt
          have lt_Vq_V3 := V3.lt
          have lt_Vq_Vt := Vt.lt
          have lt_Vq_Vl := Vl.lt
          have sz_Vq := B0.size
          refine ent1 _ _ _ (Q := fun V => K _ V) ?_
          intro x7 hb hs_ Vq
          replace V0 := Va.after hb V0
          replace V1 := Va.after hb V1
          replace V2 := Va.after hb V2
          replace V3 := Va.after hb V3
          replace Vt := Va.after hb Vt
          replace Vl := Va.after hb Vl
          replace hq := Nt.after hb hq
          replace hr := Nt.after hb hr
          replace hy := It.after hb hy
          replace hsq := It.after hb hsq
          replace hsr := It.after hb hsr
          replace B0 := step B0 hb
          clear hb hs_
          refine hK.out _ _ ⟨V0.c0, V0.c1, V1.c0, V1.c1, Vt.cell, Vl.cell⟩ (fun hHeld => ?_)
          clear hK K
          refine wpAnyH_ready (rs := [12]) (by kernel_rfl) (by simp) ?_
          refine AllReadyH.cons rfl (fun K hK => ?_) AllReadyH.nil
          ·
            simp only [List.getElem_toArray, List.getElem_cons_zero, List.getElem_cons_succ]
            go_simp
            have lt_Vr_V0 := V0.lt
            have lt_Vr_V1 := V1.lt
            have lt_Vr_V2 := V2.lt
            have lt_Vr_V3 := V3.lt
            have lt_Vr_Vt := Vt.lt
            have lt_Vr_Vl := Vl.lt
            have lt_Vr_Vq := Vq.lt
            have sz_Vr := B0.size
            refine ent1 _ _ _ (Q := fun V => K _ V) ?_
            intro x8 hb hs_ Vr
            replace V0 := Va.after hb V0
            replace V1 := Va.after hb V1
            replace V2 := Va.after hb V2
            replace V3 := Va.after hb V3
            replace Vt := Va.after hb Vt
            replace Vl := Va.after hb Vl
            replace Vq := Va.after hb Vq
            replace hq := Nt.after hb hq
            replace hr := Nt.after hb hr
            replace hy := It.after hb hy
            replace hsq := It.after hb hsq
            replace hsr := It.after hb hsr
            replace B0 := step B0 hb
            clear hb hs_
            refine hK.out _ _ ⟨V0.c0, V0.c1, V1.c0, V1.c1, Vt.cell, Vl.cell⟩ (fun hHeld => ?_)
            clear hK K
            have c_Vq := Vq.c0
            have d_Vq := Vq.c1
            have f_Vq := Vq.frozen 0
            have g_Vq := Vq.frozen 1
            have l_Vq := Vq.lt
            have m_Vq := Nat.le_of_lt l_Vq
            refine wpAnyH_ready (rs := [13]) (by kernel_rfl) (by simp) ?_
            refine AllReadyH.cons rfl (fun K hK => ?_) AllReadyH.nil
            simp only [List.getElem_toArray, List.getElem_cons_zero, List.getElem_cons_succ]
            go_simp
            clear c_Vq d_Vq f_Vq g_Vq l_Vq m_Vq
            refine st2 Vq (.bool sq) (.slice aq lq kq) (Q := fun W => K _ W) ?_
            intro x9 V' oth far
            replace V0 := oth _ _ _ (by first | omega | assumption) V0
            replace V1 := oth _ _ _ (by first | omega | assumption) V1
            replace V2 := oth _ _ _ (by first | omega | assumption) V2
            replace V3 := oth _ _ _ (by first | omega | assumption) V3
            replace Vt := oth _ _ _ (by first | omega | assumption) Vt
            replace Vl := oth _ _ _ (by first | omega | assumption) Vl
            replace Vr := oth _ _ _ (by first | omega | assumption) Vr
            replace hq := hq.far Vq (noInt2 _ _ _ _) far.1
            replace hr := hr.far Vq (noInt2 _ _ _ _) far.1
            replace hy := hy.far Vq (noInt2 _ _ _ _) far.1
            replace hsq := hsq.far Vq (noInt2 _ _ _ _) far.1
            replace hsr := hsr.far Vq (noInt2 _ _ _ _) far.1
            replace B0 := far.2 _ _ (by first | omega | (simp; omega)) B0
            replace Vq := V'
            clear oth far
            refine hK.out _ _ ⟨V0.c0, V0.c1, V1.c0, V1.c1, Vt.cell, Vl.cell⟩ (fun hHeld => ?_)
            clear hK K
            have c_Vr := Vr.c0
            have d_Vr := Vr.c1
            have f_Vr := Vr.frozen 0
            have g_Vr := Vr.frozen 1
            have l_Vr := Vr.lt
            have m_Vr := Nat.le_of_lt l_Vr
            refine wpAnyH_ready (rs := [14]) (by kernel_rfl) (by simp) ?_
            refine AllReadyH.cons rfl (fun K hK => ?_) AllReadyH.nil
            simp only [List.getElem_toArray, List.getElem_cons_zero, List.getElem_cons_succ]
            go_simp
            clear c_Vr d_Vr f_Vr g_Vr l_Vr m_Vr
            refine st2 Vr (.bool sr) (.slice ar lr kr) (Q := fun W => K _ W) ?_
            intro x10 V' oth far
            replace V0 := oth _ _ _ (by first | omega | assumption) V0
            replace V1 := oth _ _ _ (by first | omega | assumption) V1
            replace V2 := oth _ _ _ (by first | omega | assumption) V2
            replace V3 := oth _ _ _ (by first | omega | assumption) V3
            replace Vt := oth _ _ _ (by first | omega | assumption) Vt
            replace Vl := oth _ _ _ (by first | omega | assumption) Vl
            replace Vq := oth _ _ _ (by first | omega | assumption) Vq
            replace hq := hq.far Vr (noInt2 _ _ _ _) far.1
            replace hr := hr.far Vr (noInt2 _ _ _ _) far.1
            replace hy := hy.far Vr (noInt2 _ _ _ _) far.1
            replace hsq := hsq.far Vr (noInt2 _ _ _ _) far.1
            replace hsr := hsr.far Vr (noInt2 _ _ _ _) far.1
            replace B0 := far.2 _ _ (by first | omega | (simp; omega)) B0
            replace Vr := V'
            clear oth far
            refine hK.out _ _ ⟨V0.c0, V0.c1, V1.c0, V1.c1, Vt.cell, Vl.cell⟩ (fun hHeld => ?_)
            clear hK K
            refine wpAnyH_done (by kernel_rfl) ?_ _
            refine NoPanic.normal ?_
            clear hHeld
            go_wp2_with fail
            go_meet
            exact ⟨_, _, sq, sr, rfl, rfl, V0, V1, V2, V3, Vl, Vq, Vr, hy, hsq, hsr, eq', er', B0, by omega, by omega, by omega, by omega⟩
        ·
          simp only [List.getElem_toArray, List.getElem_cons_zero, List.getElem_cons_succ]
          go_simp
          have lt_Vr_V0 := V0.lt
          have lt_Vr_V1 := V1.lt
          have lt_Vr_V2 := V2.lt
          have lt_Vr_V3 := V3.lt
          have lt_Vr_Vt := Vt.lt
          have lt_Vr_Vl := Vl.lt
          have sz_Vr := B0.size
          refine ent1 _ _ _ (Q := fun V => K _ V) ?_
          intro x7 hb hs_ Vr
          replace V0 := Va.after hb V0
          replace V1 := Va.after hb V1
          replace V2 := Va.after hb V2
          replace V3 := Va.after hb V3
          replace Vt := Va.after hb Vt
          replace Vl := Va.after hb Vl
          replace hq := Nt.after hb hq
          replace hr := Nt.after hb hr
          replace hy := It.after hb hy
          replace hsq := It.after hb hsq
          replace hsr := It.after hb hsr
          replace B0 := step B0 hb
          clear hb hs_
          refine hK.out _ _ ⟨V0.c0, V0.c1, V1.c0, V1.c1, Vt.cell, Vl.cell⟩ (fun hHeld => ?_)
          clear hK K
          refine wpAnyH_ready (rs := [11]) (by kernel_rfl) (by simp) ?_
          refine AllReadyH.cons rfl (fun K hK => ?_) AllReadyH.nil
          ·
            simp only [List.getElem_toArray, List.getElem_cons_zero, List.getElem_cons_succ]
            go_simp
            have lt_Vq_V0 := V0.lt
            have lt_Vq_V1 := V1.lt
            have lt_Vq_V2 := V2.lt
            have lt_Vq_V3 := V3.lt
            have lt_Vq_Vt := Vt.lt
            have lt_Vq_Vl := Vl.lt
            have lt_Vq_Vr := Vr.lt
            have sz_Vq := B0.size
            refine ent1 _ _ _ (Q := fun V => K _ V) ?_
            intro x8 hb hs_ Vq
            replace V0 := Va.after hb V0
            replace V1 := Va.after hb V1
            replace V2 := Va.after hb V2
            replace V3 := Va.after hb V3
            replace Vt := Va.after hb Vt
            replace Vl := Va.after hb Vl
            replace Vr := Va.after hb Vr
            replace hq := Nt.after hb hq
            replace hr := Nt.after hb hr
            replace hy := It.after hb hy
            replace hsq := It.after hb hsq
            replace hsr := It.after hb hsr
            replace B0 := step B0 hb
            clear hb hs_
            refine hK.out _ _ ⟨V0.c0, V0.c1, V1.c0, V1.c1, Vt.cell, Vl.cell⟩ (fun hHeld => ?_)
            clear hK K
            have c_Vq := Vq.c0
            have d_Vq := Vq.c1
            have f_Vq := Vq.frozen 0
            have g_Vq := Vq.frozen 1
            have l_Vq := Vq.lt
            have m_Vq := Nat.le_of_lt l_Vq
            refine wpAnyH_ready (rs := [13]) (by kernel_rfl) (by simp) ?_
            refine AllReadyH.cons rfl (fun K hK => ?_) AllReadyH.nil
            simp only [List.getElem_toArray, List.getElem_cons_zero, List.getElem_cons_succ]
            go_simp
            clear c_Vq d_Vq f_Vq g_Vq l_Vq m_Vq
            refine st2 Vq (.bool sq) (.slice aq lq kq) (Q := fun W => K _ W) ?_
            intro x9 V' oth far
            replace V0 := oth _ _ _ (by first | omega | assumption) V0
            replace V1 := oth _ _ _ (by first | omega | assumption) V1
            replace V2 := oth _ _ _ (by first | omega | assumption) V2
            replace V3 := oth _ _ _ (by first | omega | assumption) V3
            replace Vt := oth _ _ _ (by first | omega | assumption) Vt
            replace Vl := oth _ _ _ (by first | omega | assumption) Vl
            replace Vr := oth _ _ _ (by first | omega | assumption) Vr
            replace hq := hq.far Vq (noInt2 _ _ _ _) far.1
            replace hr := hr.far Vq (noInt2 _ _ _ _) far.1
            replace hy := hy.far Vq (noInt2 _ _ _ _) far.1
            replace hsq := hsq.far Vq (noInt2 _ _ _ _) far.1
            replace hsr := hsr.far Vq (noInt2 _ _ _ _) far.1
            replace B0 := far.2 _ _ (by first | omega | (simp; omega)) B0
            replace Vq := V'
            clear oth far
            refine hK.out _ _ ⟨V0.c0, V0.c1, V1.c0, V1.c1, Vt.cell, Vl.cell⟩ (fun hHeld => ?_)
            clear hK K
            have c_Vr := Vr.c0
            have d_Vr := Vr.c1
            have f_Vr := Vr.frozen 0
            have g_Vr := Vr.frozen 1
            have l_Vr := Vr.lt
            have m_Vr := Nat.le_of_lt l_Vr
            refine wpAnyH_ready (rs := [14]) (by kernel_rfl) (by simp) ?_
            refine AllReadyH.cons rfl (fun K hK => ?_) AllReadyH.nil
            simp only [List.getElem_toArray, List.getElem_cons_zero, List.getElem_cons_succ]
            go_simp
            clear c_Vr d_Vr f_Vr g_Vr l_Vr m_Vr
            refine st2 Vr (.bool sr) (.slice ar lr kr) (Q := fun W => K _ W) ?_
            intro x10 V' oth far
            replace V0 := oth _ _ _ (by first | omega | assumption) V0
            replace V1 := oth _ _ _ (by first | omega | assumption) V1
            replace V2 := oth _ _ _ (by first | omega | assumption) V2
            replace V3 := oth _ _ _ (by first | omega | assumption) V3
            replace Vt := oth _ _ _ (by first | omega | assumption) Vt
            replace Vl := oth _ _ _ (by first | omega | assumption) Vl
            replace Vq := oth _ _ _ (by first | omega | assumption) Vq
            replace hq := hq.far Vr (noInt2 _ _ _ _) far.1
            replace hr := hr.far Vr (noInt2 _ _ _ _) far.1
            replace hy := hy.far Vr (noInt2 _ _ _ _) far.1
            replace hsq := hsq.far Vr (noInt2 _ _ _ _) far.1
            replace hsr := hsr.far Vr (noInt2 _ _ _ _) far.1
            replace B0 := far.2 _ _ (by first | omega | (simp; omega)) B0
            replace Vr := V'
            clear oth far
            refine hK.out _ _ ⟨V0.c0, V0.c1, V1.c0, V1.c1, Vt.cell, Vl.cell⟩ (fun hHeld => ?_)
            clear hK K
            refine wpAnyH_done (by kernel_rfl) ?_ _
            refine NoPanic.normal ?_
            clear hHeld
            go_wp2_with fail
            go_meet
            exact ⟨_, _, sq, sr, rfl, rfl, V0, V1, V2, V3, Vl, Vq, Vr, hy, hsq, hsr, eq', er', B0, by omega, by omega, by omega, by omega⟩
      ·
        simp only [List.getElem_toArray, List.getElem_cons_zero, List.getElem_cons_succ]
        go_simp
        have lt_Vq_V0 := V0.lt
        have lt_Vq_V1 := V1.lt
        have lt_Vq_V2 := V2.lt
        have lt_Vq_V3 := V3.lt
        have lt_Vq_Vt := Vt.lt
        have lt_Vq_Vl := Vl.lt
        have sz_Vq := B0.size
        refine ent1 _ _ _ (Q := fun V => K _ V) ?_
        intro x6 hb hs_ Vq
        replace V0 := Va.after hb V0
        replace V1 := Va.after hb V1
        replace V2 := Va.after hb V2
        replace V3 := Va.after hb V3
        replace Vt := Va.after hb Vt
        replace Vl := Va.after hb Vl
        replace hq := Nt.after hb hq
        replace hr := Nt.after hb hr
        replace hy := It.after hb hy
        replace hsq := It.after hb hsq
        replace B0 := step B0 hb
        clear hb hs_
        refine hK.out _ _ ⟨V0.c0, V0.c1, V1.c0, V1.c1, Vt.cell, Vl.cell⟩ (fun hHeld => ?_)
        clear hK K
        refine wpAnyH_ready (rs := [10, 12]) (by kernel_rfl) (by simp) ?_
        refine AllReadyH.cons rfl (fun K hK => ?_) (AllReadyH.cons rfl (fun K hK => ?_) AllReadyH.nil)
        ·
          simp only [List.getElem_toArray, List.getElem_cons_zero, List.getElem_cons_succ]
          go_simp
          refine (wnew_any _ ar lr kr zr _ hr).mono ?_
          rintro e x7 ⟨sr, rfl, hsr, er', hb⟩
          replace V0 := Va.after hb V0
          replace V1 := Va.after hb V1
          replace V2 := Va.after hb V2
          replace V3 := Va.after hb V3
          replace Vt := Va.after hb Vt
          replace Vl := Va.after hb Vl
          replace Vq := Va.after hb Vq
          replace hq := Nt.after hb hq
          replace hr := Nt.after hb hr
          replace hy := It.after hb hy
          replace hsq := It.after hb hsq
          replace B0 := step B0 hb
          clear hb
          try go_wp2_with fail
          refine hK.out _ _ ⟨V0.c0, V0.c1, V1.c0, V1.c1, Vt.cell, Vl.cell⟩ (fun hHeld => ?_)
          clear hK K
          refine wpAnyH_ready (rs := [12]) (by kernel_rfl) (by simp) ?_
          refine AllReadyH.cons rfl (fun K hK => ?_) AllReadyH.nil
          ·
            simp only [List.getElem_toArray, List.getElem_cons_zero, List.getElem_cons_succ]
            go_simp
            have lt_Vr_V0 := V0.lt
            have lt_Vr_V1 := V1.lt
            have lt_Vr_V2 := V2.lt
            have lt_Vr_V3 := V3.lt
            have lt_Vr_Vt := Vt.lt
            have lt_Vr_Vl := Vl.lt
            have lt_Vr_Vq := Vq.lt
            have sz_Vr := B0.size
            refine ent1 _ _ _ (Q := fun V => K _ V) ?_
            intro x8 hb hs_ Vr
            replace V0 := Va.after hb V0
            replace V1 := Va.after hb V1
            replace V2 := Va.after hb V2
            replace V3 := Va.after hb V3
            replace Vt := Va.after hb Vt
            replace Vl := Va.after hb Vl
            replace Vq := Va.after hb Vq
            replace hq := Nt.after hb hq
            replace hr := Nt.after hb hr
            replace hy := It.after hb hy
            replace hsq := It.after hb hsq
            replace hsr := It.after hb hsr
            replace B0 := step B0 hb
            clear hb hs_
            refine hK.out _ _ ⟨V0.c0, V0.c1, V1.c0, V1.c1, Vt.cell, Vl.cell⟩ (fun hHeld => ?_)
            clear hK K
            have c_Vq := Vq.c0
            have d_Vq := Vq.c1
            have f_Vq := Vq.frozen 0
            have g_Vq := Vq.frozen 1
            have l_Vq := Vq.lt
            have m_Vq := Nat.le_of_lt l_Vq
            refine wpAnyH_ready (rs := [13]) (by kernel_rfl) (by simp) ?_
            refine AllReadyH.cons rfl (fun K hK => ?_) AllReadyH.nil
            simp only [List.getElem_toArray, List.getElem_cons_zero, List.getElem_cons_succ]
            go_simp
            clear c_Vq d_Vq f_Vq g_Vq l_Vq m_Vq
            refine st2 Vq (.bool sq) (.slice aq lq kq) (Q := fun W => K _ W) ?_
            intro x9 V' oth far
            replace V0 := oth _ _ _ (by first | omega | assumption) V0
            replace V1 := oth _ _ _ (by first | omega | assumption) V1
            replace V2 := oth _ _ _ (by first | omega | assumption) V2
            replace V3 := oth _ _ _ (by first | omega | assumption) V3
            replace Vt := oth _ _ _ (by first | omega | assumption) Vt
            replace Vl := oth _ _ _ (by first | omega | assumption) Vl
            replace Vr := oth _ _ _ (by first | omega | assumption) Vr
            replace hq := hq.far Vq (noInt2 _ _ _ _) far.1
            replace hr := hr.far Vq (noInt2 _ _ _ _) far.1
            replace hy := hy.far Vq (noInt2 _ _ _ _) far.1
            replace hsq := hsq.far Vq (noInt2 _ _ _ _) far.1
            replace hsr := hsr.far Vq (noInt2 _ _ _ _) far.1
            replace B0 := far.2 _ _ (by first | omega | (simp; omega)) B0
            replace Vq := V'
            clear oth far
            refine hK.out _ _ ⟨V0.c0, V0.c1, V1.c0, V1.c1, Vt.cell, Vl.cell⟩ (fun hHeld => ?_)
            clear hK K
            have c_Vr := Vr.c0
            have d_Vr := Vr.c1
            have f_Vr := Vr.frozen 0
            have g_Vr := Vr.frozen 1
            have l_Vr := Vr.lt
            have m_Vr := Nat.le_of_lt l_Vr
            refine wpAnyH_ready (rs := [14]) (by kernel_rfl) (by simp) ?_
            refine AllReadyH.cons rfl (fun K hK => ?_) AllReadyH.nil
            simp only [List.getElem_toArray, List.getElem_cons_zero, List.getElem_cons_succ]
            go_simp
            clear c_Vr d_Vr f_Vr g_Vr l_Vr m_Vr
            refine st2 Vr (.bool sr) (.slice ar lr kr) (Q := fun W => K _ W) ?_
            intro x10 V' oth far
            replace V0 := oth _ _ _ (by first | omega | assumption) V0
            replace V1 := oth _ _ _ (by first | omega | assumption) V1
            replace V2 := oth _ _ _ (by first | omega | assumption) V2
            replace V3 := oth _ _ _ (by first | omega | assumption) V3
            replace Vt := oth _ _ _ (by first | omega | assumption) Vt
            replace Vl := oth _ _ _ (by first | omega | assumption) Vl
            replace Vq := oth _ _ _ (by first | omega | assumption) Vq
            replace hq := hq.far Vr (noInt2 _ _ _ _) far.1
            replace hr := hr.far Vr (noInt2 _ _ _ _) far.1
            replace hy := hy.far Vr (noInt2 _ _ _ _) far.1
            replace hsq := hsq.far Vr (noInt2 _ _ _ _) far.1
            replace hsr := hsr.far Vr (noInt2 _ _ _ _) far.1
            replace B0 := far.2 _ _ (by first | omega | (simp; omega)) B0
            replace Vr := V'
            clear oth far
            refine hK.out _ _ ⟨V0.c0, V0.c1, V1.c0, V1.c1, Vt.cell, Vl.cell⟩ (fun hHeld => ?_)
            clear hK K
            refine wpAnyH_done (by kernel_rfl) ?_ _
            refine NoPanic.normal ?_
            clear hHeld
            go_wp2_with fail
            go_meet
            exact ⟨_, _, sq, sr, rfl, rfl, V0, V1, V2, V3, Vl, Vq, Vr, hy, hsq, hsr, eq', er', B0, by omega, by omega, by omega, by omega⟩
        ·
          simp only [List.getElem_toArray, List.getElem_cons_zero, List.getElem_cons_succ]
          go_simp
          have lt_Vr_V0 := V0.lt
          have lt_Vr_V1 := V1.lt
          have lt_Vr_V2 := V2.lt
          have lt_Vr_V3 := V3.lt
          have lt_Vr_Vt := Vt.lt
          have lt_Vr_Vl := Vl.lt
          have lt_Vr_Vq := Vq.lt
          have sz_Vr := B0.size
          refine ent1 _ _ _ (Q := fun V => K _ V) ?_
          intro x7 hb hs_ Vr
          replace V0 := Va.after hb V0
          replace V1 := Va.after hb V1
          replace V2 := Va.after hb V2
          replace V3 := Va.after hb V3
          replace Vt := Va.after hb Vt
          replace Vl := Va.after hb Vl
          replace Vq := Va.after hb Vq
          replace hq := Nt.after hb hq
          replace hr := Nt.after hb hr
          replace hy := It.after hb hy
          replace hsq := It.after hb hsq
          replace B0 := step B0 hb
          clear hb hs_
          refine hK.out _ _ ⟨V0.c0, V0.c1, V1.c0, V1.c1, Vt.cell, Vl.cell⟩ (fun hHeld => ?_)
          clear hK K
          refine wpAnyH_ready (rs := [10]) (by kernel_rfl) (by simp) ?_
          refine AllReadyH.cons rfl (fun K hK => ?_) AllReadyH.nil
          ·
            simp only [List.getElem_toArray, List.getElem_cons_zero, List.getElem_cons_succ]
            go_simp
            refine (wnew_any _ ar lr kr zr _ hr).mono ?_
            rintro e x8 ⟨sr, rfl, hsr, er', hb⟩
            replace V0 := Va.after hb V0
            replace V1 := Va.after hb V1
            replace V2 := Va.after hb V2
            replace V3 := Va.after hb V3
            replace Vt := Va.after hb Vt
            replace Vl := Va.after hb Vl
            replace Vq := Va.after hb Vq
            replace Vr := Va.after hb Vr
            replace hq := Nt.after hb hq
            replace hr := Nt.after hb hr
            replace hy := It.after hb hy
            replace hsq := It.after hb hsq
            replace B0 := step B0 hb
            clear hb
            try go_wp2_with fail
            refine hK.out _ _ ⟨V0.c0, V0.c1, V1.c0, V1.c1, Vt.cell, Vl.cell⟩ (fun hHeld => ?_)
            clear hK K
            have c_Vq := Vq.c0
            have d_Vq := Vq.c1
            have f_Vq := Vq.frozen 0
            have g_Vq := Vq.frozen 1
            have l_Vq := Vq.lt
            have m_Vq := Nat.le_of_lt l_Vq
            refine wpAnyH_ready (rs := [13]) (by kernel_rfl) (by simp) ?_
            refine AllReadyH.cons rfl (fun K hK => ?_) AllReadyH.nil
            simp only [List.getElem_toArray, List.getElem_cons_zero, List.getElem_cons_succ]
            go_simp
            clear c_Vq d_Vq f_Vq g_Vq l_Vq m_Vq
            refine st2 Vq (.bool sq) (.slice aq lq kq) (Q := fun W => K _ W) ?_
            intro x9 V' oth far
            replace V0 := oth _ _ _ (by first | omega | assumption) V0
            replace V1 := oth _ _ _ (by first | omega | assumption) V1
            replace V2 := oth _ _ _ (by first | omega | assumption) V2
            replace V3 := oth _ _ _ (by first | omega | assumption) V3
            replace Vt := oth _ _ _ (by first | omega | assumption) Vt
            replace Vl := oth _ _ _ (by first | omega | assumption) Vl
            replace Vr := oth _ _ _ (by first | omega | assumption) Vr
            replace hq := hq.far Vq (noInt2 _ _ _ _) far.1
            replace hr := hr.far Vq (noInt2 _ _ _ _) far.1
            replace hy := hy.far Vq (noInt2 _ _ _ _) far.1
            replace hsq := hsq.far Vq (noInt2 _ _ _ _) far.1
            replace hsr := hsr.far Vq (noInt2 _ _ _ _) far.1
            replace B0 := far.2 _ _ (by first | omega | (simp; omega)) B0
            replace Vq := V'
            clear oth far
            refine hK.out _ _ ⟨V0.c0, V0.c1, V1.c0, V1.c1, Vt.cell, Vl.cell⟩ (fun hHeld => ?_)
            clear hK K
            have c_Vr := Vr.c0
            have d_Vr := Vr.c1
            have f_Vr := Vr.frozen 0
            have g_Vr := Vr.frozen 1
            have l_Vr := Vr.lt
            have m_Vr := Nat.le_of_lt l_Vr
            refine wpAnyH_ready (rs := [14]) (by kernel_rfl) (by simp) ?_
            refine AllReadyH.cons rfl (fun K hK => ?_) AllReadyH.nil
            simp only [List.getElem_toArray, List.getElem_cons_zero, List.getElem_cons_succ]
            go_simp
            clear c_Vr d_Vr f_Vr g_Vr l_Vr m_Vr
            refine st2 Vr (.bool sr) (.slice ar lr kr) (Q := fun W => K _ W) ?_
            intro x10 V' oth far
            replace V0 := oth _ _ _ (by first | omega | assumption) V0
            replace V1 := oth _ _ _ (by first | omega | assumption) V1
            replace V2 := oth _ _ _ (by first | omega | assumption) V2
            replace V3 := oth _ _ _ (by first | omega | assumption) V3
            replace Vt := oth _ _ _ (by first | omega | assumption) Vt
            replace Vl := oth _ _ _ (by first | omega | assumption) Vl
            replace Vq := oth _ _ _ (by first | omega | assumption) Vq
            replace hq := hq.far Vr (noInt2 _ _ _ _) far.1
            replace hr := hr.far Vr (noInt2 _ _ _ _) far.1
            replace hy := hy.far Vr (noInt2 _ _ _ _) far.1
            replace hsq := hsq.far Vr (noInt2 _ _ _ _) far.1
            replace hsr := hsr.far Vr (noInt2 _ _ _ _) far.1
            replace B0 := far.2 _ _ (by first | omega | (simp; omega)) B0
            replace Vr := V'
            clear oth far
            refine hK.out _ _ ⟨V0.c0, V0.c1, V1.c0, V1.c1, Vt.cell, Vl.cell⟩ (fun hHeld => ?_)
            clear hK K
            refine wpAnyH_done (by kernel_rfl) ?_ _
            refine NoPanic.normal ?_
            clear hHeld
            go_wp2_with fail
            go_meet
            exact ⟨_, _, sq, sr, rfl, rfl, V0, V1, V2, V3, Vl, Vq, Vr, hy, hsq, hsr, eq', er', B0, by omega, by omega, by omega, by omega⟩
      ·
        simp only [List.getElem_toArray, List.getElem_cons_zero, List.getElem_cons_succ]
        go_simp
        have lt_Vr_V0 := V0.lt
        have lt_Vr_V1 := V1.lt
        have lt_Vr_V2 := V2.lt
        have lt_Vr_V3 := V3.lt
        have lt_Vr_Vt := Vt.lt
        have lt_Vr_Vl := Vl.lt
        have sz_Vr := B0.size
        refine ent1 _ _ _ (Q := fun V => K _ V) ?_
        intro x6 hb hs_ Vr
        replace V0 := Va.after hb V0
        replace V1 := Va.after hb V1
        replace V2 := Va.after hb V2
        replace V3 := Va.after hb V3
        replace Vt := Va.after hb Vt
        replace Vl := Va.after hb Vl
        replace hq := Nt.after hb hq
        replace hr := Nt.after hb hr
        replace hy := It.after hb hy
        replace hsq := It.after hb hsq
        replace B0 := step B0 hb
        clear hb hs_
        refine hK.out _ _ ⟨V0.c0, V0.c1, V1.c0, V1.c1, Vt.cell, Vl.cell⟩ (fun hHeld => ?_)
        clear hK K
        refine wpAnyH_ready (rs := [10, 11]) (by kernel_rfl) (by simp) ?_
        refine AllReadyH.cons rfl (fun K hK => ?_) (AllReadyH.cons rfl (fun K hK => ?_) AllReadyH.nil)
        ·
          simp only [List.getElem_toArray, List.getElem_cons_zero, List.getElem_cons_succ]
          go_simp
          refine (wnew_any _ ar lr kr zr _ hr).mono ?_
          rintro e x7 ⟨sr, rfl, hsr, er', hb⟩
          replace V0 := Va.after hb V0
          replace V1 := Va.after hb V1
          replace V2 := Va.after hb V2
          replace V3 := Va.after hb V3
          replace Vt := Va.after hb Vt
          replace Vl := Va.after hb Vl
          replace Vr := Va.after hb Vr
          replace hq := Nt.after hb hq
          replace hr := Nt.after hb hr
          replace hy := It.after hb hy
          replace hsq := It.after hb hsq
          replace B0 := step B0 hb
          clear hb
          try go_wp2_with fail
          refine hK.out _ _ ⟨V0.c0, V0.c1, V1.c0, V1.c1, Vt.cell, Vl.cell⟩ (fun hHeld => ?_)
          clear hK K
          refine wpAnyH_ready (rs := [11]) (by kernel_rfl) (by simp) ?_
          refine AllReadyH.cons rfl (fun K hK => ?_) AllReadyH.nil
          ·
            simp only [List.getElem_toArray, List.getElem_cons_zero, List.getElem_cons_succ]
            go_simp
            have lt_Vq_V0 := V0.lt
            have lt_Vq_V1 := V1.lt
            have lt_Vq_V2 := V2.lt
            have lt_Vq_V3 := V3.lt
            have lt_Vq_Vt := Vt.lt
            have lt_Vq_Vl := Vl.lt
            have lt_Vq_Vr := Vr.lt
            have sz_Vq := B0.size
            refine ent1 _ _ _ (Q := fun V => K _ V) ?_
            intro x8 hb hs_ Vq
            replace V0 := Va.after hb V0
            replace V1 := Va.after hb V1
            replace V2 := Va.after hb V2
            replace V3 := Va.after hb V3
            replace Vt := Va.after hb Vt
            replace Vl := Va.after hb Vl
            replace Vr := Va.after hb Vr
            replace hq := Nt.after hb hq
            replace hr := Nt.after hb hr
            replace hy := It.after hb hy
            replace hsq := It.after hb hsq
            replace hsr := It.after hb hsr
            replace B0 := step B0 hb
            clear hb hs_
            refine hK.out _ _ ⟨V0.c0, V0.c1, V1.c0, V1.c1, Vt.cell, Vl.cell⟩ (fun hHeld => ?_)
            clear hK K
            have c_Vq := Vq.c0
            have d_Vq := Vq.c1
            have f_Vq := Vq.frozen 0
            have g_Vq := Vq.frozen 1
            have l_Vq := Vq.lt
            have m_Vq := Nat.le_of_lt l_Vq
            refine wpAnyH_ready (rs := [13]) (by kernel_rfl) (by simp) ?_
            refine AllReadyH.cons rfl (fun K hK => ?_) AllReadyH.nil
            simp only [List.getElem_toArray, List.getElem_cons_zero, List.getElem_cons_succ]
            go_simp
            clear c_Vq d_Vq f_Vq g_Vq l_Vq m_Vq
            refine st2 Vq (.bool sq) (.slice aq lq kq) (Q := fun W => K _ W) ?_
            intro x9 V' oth far
            replace V0 := oth _ _ _ (by first | omega | assumption) V0
            replace V1 := oth _ _ _ (by first | omega | assumption) V1
            replace V2 := oth _ _ _ (by first | omega | assumption) V2
            replace V3 := oth _ _ _ (by first | omega | assumption) V3
            replace Vt := oth _ _ _ (by first | omega | assumption) Vt
            replace Vl := oth _ _ _ (by first | omega | assumption) Vl
            replace Vr := oth _ _ _ (by first | omega | assumption) Vr
            replace hq := hq.far Vq (noInt2 _ _ _ _) far.1
            replace hr := hr.far Vq (noInt2 _ _ _ _) far.1
            replace hy := hy.far Vq (noInt2 _ _ _ _) far.1
            replace hsq := hsq.far Vq (noInt2 _ _ _ _) far.1
            replace hsr := hsr.far Vq (noInt2 _ _ _ _) far.1
            replace B0 := far.2 _ _ (by first | omega | (simp; omega)) B0
            replace Vq := V'
            clear oth far
            refine hK.out _ _ ⟨V0.c0, V0.c1, V1.c0, V1.c1, Vt.cell, Vl.cell⟩ (fun hHeld => ?_)
            clear hK K
            have c_Vr := Vr.c0
            have d_Vr := Vr.c1
            have f_Vr := Vr.frozen 0
            have g_Vr := Vr.frozen 1
            have l_Vr := Vr.lt
            have m_Vr := Nat.le_of_lt l_Vr
            refine wpAnyH_ready (rs := [14]) (by kernel_rfl) (by simp) ?_
            refine AllReadyH.cons rfl (fun K hK => ?_) AllReadyH.nil
            simp only [List.getElem_toArray, List.getElem_cons_zero, List.getElem_cons_succ]
            go_simp
            clear c_Vr d_Vr f_Vr g_Vr l_Vr m_Vr
            refine st2 Vr (.bool sr) (.slice ar lr kr) (Q := fun W => K _ W) ?_
            intro x10 V' oth far
            replace V0 := oth _ _ _ (by first | omega | assumption) V0
            replace V1 := oth _ _ _ (by first | omega | assumption) V1
            replace V2 := oth _ _ _ (by first | omega | assumption) V2
            replace V3 := oth _ _ _ (by first | omega | assumption) V3
            replace Vt := oth _ _ _ (by first | omega | assumption) Vt
            replace Vl := oth _ _ _ (by first | omega | assumption) Vl
            replace Vq := oth _ _ _ (by first | omega | assumption) Vq
            replace hq := hq.far Vr (noInt2 _ _ _ _) far.1
            replace hr := hr.far Vr (noInt2 _ _ _ _) far.1
            replace hy := hy.far Vr (noInt2 _ _ _ _) far.1
            replace hsq := hsq.far Vr (noInt2 _ _ _ _) far.1
            replace hsr := hsr.far Vr (noInt2 _ _ _ _) far.1
            replace B0 := far.2 _ _ (by first | omega | (simp; omega)) B0
            replace Vr := V'
            clear oth far
            refine hK.out _ _ ⟨V0.c0, V0.c1, V1.c0, V1.c1, Vt.cell, Vl.cell⟩ (fun hHeld => ?_)
            clear hK K
            refine wpAnyH_done (by kernel_rfl) ?_ _
            refine NoPanic.normal ?_
            clear hHeld
            go_wp2_with fail
            go_meet
            exact ⟨_, _, sq, sr, rfl, rfl, V0, V1, V2, V3, Vl, Vq, Vr, hy, hsq, hsr, eq', er', B0, by omega, by omega, by omega, by omega⟩
        ·
          simp only [List.getElem_toArray, List.getElem_cons_zero, List.getElem_cons_succ]
          go_simp
          have lt_Vq_V0 := V0.lt
          have lt_Vq_V1 := V1.lt
          have lt_Vq_V2 := V2.lt
          have lt_Vq_V3 := V3.lt
          have lt_Vq_Vt := Vt.lt
          have lt_Vq_Vl := Vl.lt
          have lt_Vq_Vr := Vr.lt
          have sz_Vq := B0.size
          refine ent1 _ _ _ (Q := fun V => K _ V) ?_
          intro x7 hb hs_ Vq
          replace V0 := Va.after hb V0
          replace V1 := Va.after hb V1
          replace V2 := Va.after hb V2
          replace V3 := Va.after hb V3
          replace Vt := Va.after hb Vt
          replace Vl := Va.after hb Vl
          replace Vr := Va.after hb Vr
          replace hq := Nt.after hb hq
          replace hr := Nt.after hb hr
          replace hy := It.after hb hy
          replace hsq := It.after hb hsq
          replace B0 := step B0 hb
          clear hb hs_
          refine hK.out _ _ ⟨V0.c0, V0.c1, V1.c0, V1.c1, Vt.cell, Vl.cell⟩ (fun hHeld => ?_)
          clear hK K
          refine wpAnyH_ready (rs := [10]) (by kernel_rfl) (by simp) ?_
          refine AllReadyH.cons rfl (fun K hK => ?_) AllReadyH.nil
          ·
            simp only [List.getElem_toArray, List.getElem_cons_zero, List.getElem_cons_succ]
            go_simp
            refine (wnew_any _ ar lr kr zr _ hr).mono ?_
            rintro e x8 ⟨sr, rfl, hsr, er', hb⟩
            replace V0 := Va.after hb V0
            replace V1 := Va.after hb V1
            replace V2 := Va.after hb V2
            replace V3 := Va.after hb V3
            replace Vt := Va.after hb Vt
            replace Vl := Va.after hb Vl
            replace Vr := Va.after hb Vr
            replace Vq := Va.after hb Vq
            replace hq := Nt.after hb hq
            replace hr := Nt.after hb hr
            replace hy := It.after hb hy
            replace hsq := It.after hb hsq
            replace B0 := step B0 hb
            clear hb
            try go_wp2_with fail
            refine hK.out _ _ ⟨V0.c0, V0.c1, V1.c0, V1.c1, Vt.cell, Vl.cell⟩ (fun hHeld => ?_)
            clear hK K
            have c_Vq := Vq.c0
            have d_Vq := Vq.c1
            have f_Vq := Vq.frozen 0
            have g_Vq := Vq.frozen 1
            have l_Vq := Vq.lt
            have m_Vq := Nat.le_of_lt l_Vq
            refine wpAnyH_ready (rs := [13]) (by kernel_rfl) (by simp) ?_
            refine AllReadyH.cons rfl (fun K hK => ?_) AllReadyH.nil
            simp only [List.getElem_toArray, List.getElem_cons_zero, List.getElem_cons_succ]
            go_simp
            clear c_Vq d_Vq f_Vq g_Vq l_Vq m_Vq
            refine st2 Vq (.bool sq) (.slice aq lq kq) (Q := fun W => K _ W) ?_
            intro x9 V' oth far
            replace V0 := oth _ _ _ (by first | omega | assumption) V0
            replace V1 := oth _ _ _ (by first | omega | assumption) V1
            replace V2 := oth _ _ _ (by first | omega | assumption) V2
            replace V3 := oth _ _ _ (by first | omega | assumption) V3
            replace Vt := oth _ _ _ (by first | omega | assumption) Vt
            replace Vl := oth _ _ _ (by first | omega | assumption) Vl
            replace Vr := oth _ _ _ (by first | omega | assumption) Vr
            replace hq := hq.far Vq (noInt2 _ _ _ _) far.1
            replace hr := hr.far Vq (noInt2 _ _ _ _) far.1
            replace hy := hy.far Vq (noInt2 _ _ _ _) far.1
            replace hsq := hsq.far Vq (noInt2 _ _ _ _) far.1
            replace hsr := hsr.far Vq (noInt2 _ _ _ _) far.1
            replace B0 := far.2 _ _ (by first | omega | (simp; omega)) B0
            replace Vq := V'
            clear oth far
            refine hK.out _ _ ⟨V0.c0, V0.c1, V1.c0, V1.c1, Vt.cell, Vl.cell⟩ (fun hHeld => ?_)
            clear hK K
            have c_Vr := Vr.c0
            have d_Vr := Vr.c1
            have f_Vr := Vr.frozen 0
            have g_Vr := Vr.frozen 1
            have l_Vr := Vr.lt
            have m_Vr := Nat.le_of_lt l_Vr
            refine wpAnyH_ready (rs := [14]) (by kernel_rfl) (by simp) ?_
            refine AllReadyH.cons rfl (fun K hK => ?_) AllReadyH.nil
            simp only [List.getElem_toArray, List.getElem_cons_zero, List.getElem_cons_succ]
            go_simp
            clear c_Vr d_Vr f_Vr g_Vr l_Vr m_Vr
            refine st2 Vr (.bool sr) (.slice ar lr kr) (Q := fun W => K _ W) ?_
            intro x10 V' oth far
            replace V0 := oth _ _ _ (by first | omega | assumption) V0
            replace V1 := oth _ _ _ (by first | omega | assumption) V1
            replace V2 := oth _ _ _ (by first | omega | assumption) V2
            replace V3 := oth _ _ _ (by first | omega | assumption) V3
            replace Vt := oth _ _ _ (by first | omega | assumption) Vt
            replace Vl := oth _ _ _ (by first | omega | assumption) Vl
            replace Vq := oth _ _ _ (by first | omega | assumption) Vq
            replace hq := hq.far Vr (noInt2 _ _ _ _) far.1
            replace hr := hr.far Vr (noInt2 _ _ _ _) far.1
            replace hy := hy.far Vr (noInt2 _ _ _ _) far.1
            replace hsq := hsq.far Vr (noInt2 _ _ _ _) far.1
            replace hsr := hsr.far Vr (noInt2 _ _ _ _) far.1
            replace B0 := far.2 _ _ (by first | omega | (simp; omega)) B0
            replace Vr := V'
            clear oth far
            refine hK.out _ _ ⟨V0.c0, V0.c1, V1.c0, V1.c1, Vt.cell, Vl.cell⟩ (fun hHeld => ?_)
            clear hK K
            refine wpAnyH_done (by kernel_rfl) ?_ _
            refine NoPanic.normal ?_
            clear hHeld
            go_wp2_with fail
            go_meet
            exact ⟨_, _, sq, sr, rfl, rfl, V0, V1, V2, V3, Vl, Vq, Vr, hy, hsq, hsr, eq', er', B0, by omega, by omega, by omega, by omega⟩
    ·
      simp only [List.getElem_toArray, List.getElem_cons_zero, List.getElem_cons_succ]
      go_simp
      have lt_Vq_V0 := V0.lt
      have lt_Vq_V1 := V1.lt
      have lt_Vq_V2 := V2.lt
      have lt_Vq_V3 := V3.lt
      have lt_Vq_Vt := Vt.lt
      have lt_Vq_Vl := Vl.lt
      have sz_Vq := B0.size
      refine ent1 _ _ _ (Q := fun V => K _ V) ?_
      intro x5 hb hs_ Vq
      replace V0 := Va.after hb V0
      replace V1 := Va.after hb V1
      replace V2 := Va.after hb V2
      replace V3 := Va.after hb V3
      replace Vt := Va.after hb Vt
      replace Vl := Va.after hb Vl
      replace hq := Nt.after hb hq
      replace hr := Nt.after hb hr
      replace hy := It.after hb hy
      replace B0 := step B0 hb
      clear hb hs_
      refine hK.out _ _ ⟨V0.c0, V0.c1, V1.c0, V1.c1, Vt.cell, Vl.cell⟩ (fun hHeld => ?_)
      clear hK K
      refine wpAnyH_ready (rs := [6, 12]) (by kernel_rfl) (by simp) ?_
      refine AllReadyH.cons rfl (fun K hK => ?_) (AllReadyH.cons rfl (fun K hK => ?_) AllReadyH.nil)
      ·
        simp only [List.getElem_toArray, List.getElem_cons_zero, List.getElem_cons_succ]
        go_simp
        refine (wnew_any _ aq lq kq zq _ hq).mono ?_
        rintro e x6 ⟨sq, rfl, hsq, eq', hb⟩
        replace V0 := Va.after hb V0
        replace V1 := Va.after hb V1
        replace V2 := Va.after hb V2
        replace V3 := Va.after hb V3
        replace Vt := Va.after hb Vt
        replace Vl := Va.after hb Vl
        replace Vq := Va.after hb Vq
        replace hq := Nt.after hb hq
        replace hr := Nt.after hb hr
        replace hy := It.after hb hy
        replace B0 := step B0 hb
        clear hb
        try go_wp2_with fail
        refine hK.out _ _ ⟨V0.c0, V0.c1, V1.c0, V1.c1, Vt.cell, Vl.cell⟩ (fun hHeld => ?_)
        clear hK K
        refine wpAnyH_ready (rs := [10, 12]) (by kernel_rfl) (by simp) ?_
        refine AllReadyH.cons rfl (fun K hK => ?_) (AllReadyH.cons rfl (fun K hK => ?_) AllReadyH.nil)
        ·
          simp only [List.getElem_toArray, List.getElem_cons_zero, List.getElem_cons_succ]
          go_simp
          refine (wnew_any _ ar lr kr zr _ hr).mono ?_
          rintro e x7 ⟨sr, rfl, hsr, er', hb⟩
          replace V0 := Va.after hb V0
          replace V1 := Va.after hb V1
          replace V2 := Va.after hb V2
          replace V3 := Va.after hb V3
          replace Vt := Va.after hb Vt
          replace Vl := Va.after hb Vl
          replace Vq := Va.after hb Vq
          replace hq := Nt.after hb hq
          replace hr := Nt.after hb hr
          replace hy := It.after hb hy
          replace hsq := It.after hb hsq
          replace B0 := step B0 hb
          clear hb
          try go_wp2_with fail
          refine hK.out _ _ ⟨V0.c0, V0.c1, V1.c0, V1.c1, Vt.cell, Vl.cell⟩ (fun hHeld => ?_)
          clear hK K
          refine wpAnyH_ready (rs := [12]) (by kernel_rfl) (by simp) ?_
          refine AllReadyH.cons rfl (fun K hK => ?_) AllReadyH.nil
          ·
            simp only [List.getElem_toArray, List.getElem_cons_zero, List.getElem_cons_succ]
            go_simp
            have lt_Vr_V0 := V0.lt
            have lt_Vr_V1 := V1.lt
            have lt_Vr_V2 := V2.lt
            have lt_Vr_V3 := V3.lt
            have lt_Vr_Vt := Vt.lt
            have lt_Vr_Vl := Vl.lt
            have lt_Vr_Vq := Vq.lt
            have sz_Vr := B0.size
            refine ent1 _ _ _ (Q := fun V => K _ V) ?_
            intro x8 hb hs_ Vr
            replace V0 := Va.after hb V0
            replace V1 := Va.after hb V1
            replace V2 := Va.after hb V2
            replace V3 := Va.after hb V3
            replace Vt := Va.after hb Vt
            replace Vl := Va.after hb Vl
            replace Vq := Va.after hb Vq
            replace hq := Nt.after hb hq
            replace hr := Nt.after hb hr
            replace hy := It.after hb hy
            replace hsq := It.after hb hsq
            replace hsr := It.after hb hsr
            replace B0 := step B0 hb
            clear hb hs_
            refine hK.out _ _ ⟨V0.c0, V0.c1, V1.c0, V1.c1, Vt.cell, Vl.cell⟩ (fun hHeld => ?_)
            clear hK K
            have c_Vq := Vq.c0
            have d_Vq := Vq.c1
            have f_Vq := Vq.frozen 0
            have g_Vq := Vq.frozen 1
            have l_Vq := Vq.lt
            have m_Vq := Nat.le_of_lt l_Vq
            refine wpAnyH_ready (rs := [13]) (by kernel_rfl) (by simp) ?_
            refine AllReadyH.cons rfl (fun K hK => ?_) AllReadyH.nil
            simp only [List.getElem_toArray, List.getElem_cons_zero, List.getElem_cons_succ]
            go_simp
            clear c_Vq d_Vq f_Vq g_Vq l_Vq m_Vq
            refine st2 Vq (.bool sq) (.slice aq lq kq) (Q := fun W => K _ W) ?_
            intro x9 V' oth far
            replace V0 := oth _ _ _ (by first | omega | assumption) V0
            replace V1 := oth _ _ _ (by first | omega | assumption) V1
            replace V2 := oth _ _ _ (by first | omega | assumption) V2
            replace V3 := oth _ _ _ (by first | omega | assumption) V3
            replace Vt := oth _ _ _ (by first | omega | assumption) Vt
            replace Vl := oth _ _ _ (by first | omega | assumption) Vl
            replace Vr := oth _ _ _ (by first | omega | assumption) Vr
            replace hq := hq.far Vq (noInt2 _ _ _ _) far.1
            replace hr := hr.far Vq (noInt2 _ _ _ _) far.1
            replace hy := hy.far Vq (noInt2 _ _ _ _) far.1
            replace hsq := hsq.far Vq (noInt2 _ _ _ _) far.1
            replace hsr := hsr.far Vq (noInt2 _ _ _ _) far.1
            replace B0 := far.2 _ _ (by first | omega | (simp; omega)) B0
            replace Vq := V'
            clear oth far
            refine hK.out _ _ ⟨V0.c0, V0.c1, V1.c0, V1.c1, Vt.cell, Vl.cell⟩ (fun hHeld => ?_)
            clear hK K
            have c_Vr := Vr.c0
            have d_Vr := Vr.c1
            have f_Vr := Vr.frozen 0
            have g_Vr := Vr.frozen 1
            have l_Vr := Vr.lt
            have m_Vr := Nat.le_of_lt l_Vr
            refine wpAnyH_ready (rs := [14]) (by kernel_rfl) (by simp) ?_
            refine AllReadyH.cons rfl (fun K hK => ?_) AllReadyH.nil
            simp only [List.getElem_toArray, List.getElem_cons_zero, List.getElem_cons_succ]
            go_simp
            clear c_Vr d_Vr f_Vr g_Vr l_Vr m_Vr
            refine st2 Vr (.bool sr) (.slice ar lr kr) (Q := fun W => K _ W) ?_
            intro x10 V' oth far
            replace V0 := oth _ _ _ (by first | omega | assumption) V0
            replace V1 := oth _ _ _ (by first | omega | assumption) V1
            replace V2 := oth _ _ _ (by first | omega | assumption) V2
            replace V3 := oth _ _ _ (by first | omega | assumption) V3
            replace Vt := oth _ _ _ (by first | omega | assumption) Vt
            replace Vl := oth _ _ _ (by first | omega | assumption) Vl
            replace Vq := oth _ _ _ (by first | omega | assumption) Vq
            replace hq := hq.far Vr (noInt2 _ _ _ _) far.1
            replace hr := hr.far Vr (noInt2 _ _ _ _) far.1
            replace hy := hy.far Vr (noInt2 _ _ _ _) far.1
            replace hsq := hsq.far Vr (noInt2 _ _ _ _) far.1
            replace hsr := hsr.far Vr (noInt2 _ _ _ _) far.1
            replace B0 := far.2 _ _ (by first | omega | (simp; omega)) B0
            replace Vr := V'
            clear oth far
            refine hK.out _ _ ⟨V0.c0, V0.c1, V1.c0, V1.c1, Vt.cell, Vl.cell⟩ (fun hHeld => ?_)
            clear hK K
            refine wpAnyH_done (by kernel_rfl) ?_ _
            refine NoPanic.normal ?_
            clear hHeld
            go_wp2_with fail
            go_meet
            exact ⟨_, _, sq, sr, rfl, rfl, V0, V1, V2, V3, Vl, Vq, Vr, hy, hsq, hsr, eq', er', B0, by omega, by omega, by omega, by omega⟩
        ·
          simp only [List.getElem_toArray, List.getElem_cons_zero, List.getElem_cons_succ]
          go_simp
          have lt_Vr_V0 := V0.lt
          have lt_Vr_V1 := V1.lt
          have lt_Vr_V2 := V2.lt
          have lt_Vr_V3 := V3.lt
          have lt_Vr_Vt := Vt.lt
          have lt_Vr_Vl := Vl.lt
          have lt_Vr_Vq := Vq.lt
          have sz_Vr := B0.size
          refine ent1 _ _ _ (Q := fun V => K _ V) ?_
          intro x7 hb hs_ Vr
          replace V0 := Va.after hb V0
          replace V1 := Va.after hb V1
          replace V2 := Va.after hb V2
          replace V3 := Va.after hb V3
          replace Vt := Va.after hb Vt
          replace Vl := Va.after hb Vl
          replace Vq := Va.after hb Vq
          replace hq := Nt.after hb hq
          replace hr := Nt.after hb hr
          replace hy := It.after hb hy
          replace hsq := It.after hb hsq
          replace B0 := step B0 hb
          clear hb hs_
          refine hK.out _ _ ⟨V0.c0, V0.c1, V1.c0, V1.c1, Vt.cell, Vl.cell⟩ (fun hHeld => ?_)
          clear hK K
          refine wpAnyH_ready (rs := [10]) (by kernel_rfl) (by simp) ?_
          refine AllReadyH.cons rfl (fun K hK => ?_) AllReadyH.nil
          ·
            simp only [List.getElem_toArray, List.getElem_cons_zero, List.getElem_cons_succ]
            go_simp
            refine (wnew_any _ ar lr kr zr _ hr).mono ?_
            rintro e x8 ⟨sr, rfl, hsr, er', hb⟩
            replace V0 := Va.after hb V0
            replace V1 := Va.after hb V1
            replace V2 := Va.after hb V2
            replace V3 := Va.after hb V3
            replace Vt := Va.after hb Vt
            replace Vl := Va.after hb Vl
            replace Vq := Va.after hb Vq
            replace Vr := Va.after hb Vr
            replace hq := Nt.after hb hq
            replace hr := Nt.after hb hr
            replace hy := It.after hb hy
            replace hsq := It.after hb hsq
            replace B0 := step B0 hb
            clear hb
            try go_wp2_with fail
            refine hK.out _ _ ⟨V0.c0, V0.c1, V1.c0, V1.c1, Vt.cell, Vl.cell⟩ (fun hHeld => ?_)
            clear hK K
            have c_Vq := Vq.c0
            have d_Vq := Vq.c1
            have f_Vq := Vq.frozen 0
            have g_Vq := Vq.frozen 1
            have l_Vq := Vq.lt
            have m_Vq := Nat.le_of_lt l_Vq
            refine wpAnyH_ready (rs := [13]) (by kernel_rfl) (by simp) ?_
            refine AllReadyH.cons rfl (fun K hK => ?_) AllReadyH.nil
            simp only [List.getElem_toArray, List.getElem_cons_zero, List.getElem_cons_succ]
            go_simp
            clear c_Vq d_Vq f_Vq g_Vq l_Vq m_Vq
            refine st2 Vq (.bool sq) (.slice aq lq kq) (Q := fun W => K _ W) ?_
            intro x9 V' oth far
            replace V0 := oth _ _ _ (by first | omega | assumption) V0
            replace V1 := oth _ _ _ (by first | omega | assumption) V1
            replace V2 := oth _ _ _ (by first | omega | assumption) V2
            replace V3 := oth _ _ _ (by first | omega | assumption) V3
            replace Vt := oth _ _ _ (by first | omega | assumption) Vt
            replace Vl := oth _ _ _ (by first | omega | assumption) Vl
            replace Vr := oth _ _ _ (by first | omega | assumption) Vr
            replace hq := hq.far Vq (noInt2 _ _ _ _) far.1
            replace hr := hr.far Vq (noInt2 _ _ _ _) far.1
            replace hy := hy.far Vq (noInt2 _ _ _ _) far.1
            replace hsq := hsq.far Vq (noInt2 _ _ _ _) far.1
            replace hsr := hsr.far Vq (noInt2 _ _ _ _) far.1
            replace B0 := far.2 _ _ (by first | omega | (simp; omega)) B0
            replace Vq := V'
            clear oth far
            refine hK.out _ _ ⟨V0.c0, V0.c1, V1.c0, V1.c1, Vt.cell, Vl.cell⟩ (fun hHeld => ?_)
            clear hK K
            have c_Vr := Vr.c0
            have d_Vr := Vr.c1
            have f_Vr := Vr.frozen 0
            have g_Vr := Vr.frozen 1
            have l_Vr := Vr.lt
            have m_Vr := Nat.le_of_lt l_Vr
            refine wpAnyH_ready (rs := [14]) (by kernel_rfl) (by simp) ?_
            refine AllReadyH.cons rfl (fun K hK => ?_) AllReadyH.nil
            simp only [List.getElem_toArray, List.getElem_cons_zero, List.getElem_cons_succ]
            go_simp
            clear c_Vr d_Vr f_Vr g_Vr l_Vr m_Vr
            refine st2 Vr (.bool sr) (.slice ar lr kr) (Q := fun W => K _ W) ?_
            intro x10 V' oth far
            replace V0 := oth _ _ _ (by first | omega | assumption) V0
            replace V1 := oth _ _ _ (by first | omega | assumption) V1
            replace V2 := oth _ _ _ (by first | omega | assumption) V2
            replace V3 := oth _ _ _ (by first | omega | assumption) V3
            replace Vt := oth _ _ _ (by first | omega | assumption) Vt
            replace Vl := oth _ _ _ (by first | omega | assumption) Vl
            replace Vq := oth _ _ _ (by first | omega | assumption) Vq
            replace hq := hq.far Vr (noInt2 _ _ _ _) far.1
            replace hr := hr.far Vr (noInt2 _ _ _ _) far.1
            replace hy := hy.far Vr (noInt2 _ _ _ _) far.1
            replace hsq := hsq.far Vr (noInt2 _ _ _ _) far.1
            replace hsr := hsr.far Vr (noInt2 _ _ _ _) far.1
            replace B0 := far.2 _ _ (by first | omega | (simp; omega)) B0
            replace Vr := V'
            clear oth far
            refine hK.out _ _ ⟨V0.c0, V0.c1, V1.c0, V1.c1, Vt.cell, Vl.cell⟩ (fun hHeld => ?_)
            clear hK K
            refine wpAnyH_done (by kernel_rfl) ?_ _
            refine NoPanic.normal ?_
            clear hHeld
            go_wp2_with fail
            go_meet
            exact ⟨_, _, sq, sr, rfl, rfl, V0, V1, V2, V3, Vl, Vq, Vr, hy, hsq, hsr, eq', er', B0, by omega, by omega, by omega, by omega⟩
      ·
        simp only [List.getElem_toArray, List.getElem_cons_zero, List.getElem_cons_succ]
        go_simp
        have lt_Vr_V0 := V0.lt
        have lt_Vr_V1 := V1.lt
        have lt_Vr_V2 := V2.lt
        have lt_Vr_V3 := V3.lt
        have lt_Vr_Vt := Vt.lt
        have lt_Vr_Vl := Vl.lt
        have lt_Vr_Vq := Vq.lt
        have sz_Vr := B0.size
        refine ent1 _ _ _ (Q := fun V => K _ V) ?_
        intro x6 hb hs_ Vr
        replace V0 := Va.after hb V0
        replace V1 := Va.after hb V1
        replace V2 := Va.after hb V2
        replace V3 := Va.after hb V3
        replace Vt := Va.after hb Vt
        replace Vl := Va.after hb Vl
        replace Vq := Va.after hb Vq
        replace hq := Nt.after hb hq
        replace hr := Nt.after hb hr
        replace hy := It.after hb hy
        replace B0 := step B0 hb
        clear hb hs_
        refine hK.out _ _ ⟨V0.c0, V0.c1, V1.c0, V1.c1, Vt.cell, Vl.cell⟩ (fun hHeld => ?_)
        clear hK K
        refine wpAnyH_ready (rs := [6]) (by kernel_rfl) (by simp) ?_
        refine AllReadyH.cons rfl (fun K hK => ?_) AllReadyH.nil
        ·
          simp only [List.getElem_toArray, List.getElem_cons_zero, List.getElem_cons_succ]
          go_simp
          refine (wnew_any _ aq lq kq zq _ hq).mono ?_
          rintro e x7 ⟨sq, rfl, hsq, eq', hb⟩
          replace V0 := Va.after hb V0
          replace V1 := Va.after hb V1
          replace V2 := Va.after hb V2
          replace V3 := Va.after hb V3
          replace Vt := Va.after hb Vt
          replace Vl := Va.after hb Vl
          replace Vq := Va.after hb Vq
          replace Vr := Va.after hb Vr
          replace hq := Nt.after hb hq
          replace hr := Nt.after hb hr
          replace hy := It.after hb hy
          replace B0 := step B0 hb
          clear hb
          try go_wp2_with fail
          refine hK.out _ _ ⟨V0.c0, V0.c1, V1.c0, V1.c1, Vt.cell, Vl.cell⟩ (fun hHeld => ?_)
          clear hK K
          refine wpAnyH_ready (rs := [10]) (by kernel_rfl) (by simp) ?_
          refine AllReadyH.cons rfl (fun K hK => ?_) AllReadyH.nil
          ·
            simp only [List.getElem_toArray, List.getElem_cons_zero, List.getElem_cons_succ]
            go_simp
            refine (wnew_any _ ar lr kr zr _ hr).mono ?_
            rintro e x8 ⟨sr, rfl, hsr, er', hb⟩
            replace V0 := Va.after hb V0
            replace V1 := Va.after hb V1
            replace V2 := Va.after hb V2
            replace V3 := Va.after hb V3
            replace Vt := Va.after hb Vt
            replace Vl := Va.after hb Vl
            replace Vq := Va.after hb Vq
            replace Vr := Va.after hb Vr
            replace hq := Nt.after hb hq
            replace hr := Nt.after hb hr
            replace hy := It.after hb hy
            replace hsq := It.after hb hsq
            replace B0 := step B0 hb
            clear hb
            try go_wp2_with fail
            refine hK.out _ _ ⟨V0.c0, V0.c1, V1.c0, V1.c1, Vt.cell, Vl.cell⟩ (fun hHeld => ?_)
            clear hK K
            have c_Vq := Vq.c0
            have d_Vq := Vq.c1
            have f_Vq := Vq.frozen 0
            have g_Vq := Vq.frozen 1
            have l_Vq := Vq.lt
            have m_Vq := Nat.le_of_lt l_Vq
            refine wpAnyH_ready (rs := [13]) (by kernel_rfl) (by simp) ?_
            refine AllReadyH.cons rfl (fun K hK => ?_) AllReadyH.nil
            simp only [List.getElem_toArray, List.getElem_cons_zero, List.getElem_cons_succ]
            go_simp
            clear c_Vq d_Vq f_Vq g_Vq l_Vq m_Vq
            refine st2 Vq (.bool sq) (.slice aq lq kq) (Q := fun W => K _ W) ?_
            intro x9 V' oth far
            replace V0 := oth _ _ _ (by first | omega | assumption) V0
            replace V1 := oth _ _ _ (by first | omega | assumption) V1
            replace V2 := oth _ _ _ (by first | omega | assumption) V2
            replace V3 := oth _ _ _ (by first | omega | assumption) V3
            replace Vt := oth _ _ _ (by first | omega | assumption) Vt
            replace Vl := oth _ _ _ (by first | omega | assumption) Vl
            replace Vr := oth _ _ _ (by first | omega | assumption) Vr
            replace hq := hq.far Vq (noInt2 _ _ _ _) far.1
            replace hr := hr.far Vq (noInt2 _ _ _ _) far.1
            replace hy := hy.far Vq (noInt2 _ _ _ _) far.1
            replace hsq := hsq.far Vq (noInt2 _ _ _ _) far.1
            replace hsr := hsr.far Vq (noInt2 _ _ _ _) far.1
            replace B0 := far.2 _ _ (by first | omega | (simp; omega)) B0
            replace Vq := V'
            clear oth far
            refine hK.out _ _ ⟨V0.c0, V0.c1, V1.c0, V1.c1, Vt.cell, Vl.cell⟩ (fun hHeld => ?_)
            clear hK K
            have c_Vr := Vr.c0
            have d_Vr := Vr.c1
            have f_Vr := Vr.frozen 0
            have g_Vr := Vr.frozen 1
            have l_Vr := Vr.lt
            have m_Vr := Nat.le_of_lt l_Vr
            refine wpAnyH_ready (rs := [14]) (by kernel_rfl) (by simp) ?_
            refine AllReadyH.cons rfl (fun K hK => ?_) AllReadyH.nil
            simp only [List.getElem_toArray, List.getElem_cons_zero, List.getElem_cons_succ]
            go_simp
            clear c_Vr d_Vr f_Vr g_Vr l_Vr m_Vr
            refine st2 Vr (.bool sr) (.slice ar lr kr) (Q := fun W => K _ W) ?_
            intro x10 V' oth far
            replace V0 := oth _ _ _ (by first | omega | assumption) V0
            replace V1 := oth _ _ _ (by first | omega | assumption) V1
            replace V2 := oth _ _ _ (by first | omega | assumption) V2
            replace V3 := oth _ _ _ (by first | omega | assumption) V3
            replace Vt := oth _ _ _ (by first | omega | assumption) Vt
            replace Vl := oth _ _ _ (by first | omega | assumption) Vl
            replace Vq := oth _ _ _ (by first | omega | assumption) Vq
            replace hq := hq.far Vr (noInt2 _ _ _ _) far.1
            replace hr := hr.far Vr (noInt2 _ _ _ _) far.1
            replace hy := hy.far Vr (noInt2 _ _ _ _) far.1
            replace hsq := hsq.far Vr (noInt2 _ _ _ _) far.1
            replace hsr := hsr.far Vr (noInt2 _ _ _ _) far.1
            replace B0 := far.2 _ _ (by first | omega | (simp; omega)) B0
            replace Vr := V'
            clear oth far
            refine hK.out _ _ ⟨V0.c0, V0.c1, V1.c0, V1.c1, Vt.cell, Vl.cell⟩ (fun hHeld => ?_)
            clear hK K
            refine wpAnyH_done (by kernel_rfl) ?_ _
            refine NoPanic.normal ?_
            clear hHeld
            go_wp2_with fail
            go_meet
            exact ⟨_, _, sq, sr, rfl, rfl, V0, V1, V2, V3, Vl, Vq, Vr, hy, hsq, hsr, eq', er', B0, by omega, by omega, by omega, by omega⟩
    ·
      simp only [List.getElem_toArray, List.getElem_cons_zero, List.getElem_cons_succ]
      go_simp
      have lt_Vr_V0 := V0.lt
      have lt_Vr_V1 := V1.lt
      have lt_Vr_V2 := V2.lt
      have lt_Vr_V3 := V3.lt
      have lt_Vr_Vt := Vt.lt
      have lt_Vr_Vl := Vl.lt
      have sz_Vr := B0.size
      refine ent1 _ _ _ (Q := fun V => K _ V) ?_
      intro x5 hb hs_ Vr
      replace V0 := Va.after hb V0
      replace V1 := Va.after hb V1
      replace V2 := Va.after hb V2
      replace V3 := Va.after hb V3
      replace Vt := Va.after hb Vt
      replace Vl := Va.after hb Vl
      replace hq := Nt.after hb hq
      replace hr := Nt.after hb hr
      replace hy := It.after hb hy
      replace B0 := step B0 hb
      clear hb hs_
      refine hK.out _ _ ⟨V0.c0, V0.c1, V1.c0, V1.c1, Vt.cell, Vl.cell⟩ (fun hHeld => ?_)
      clear hK K
      refine wpAnyH_ready (rs := [6, 11]) (by kernel_rfl) (by simp) ?_
      refine AllReadyH.cons rfl (fun K hK => ?_) (AllReadyH.cons rfl (fun K hK => ?_) AllReadyH.nil)
      ·
        simp only [List.getElem_toArray, List.getElem_cons_zero, List.getElem_cons_succ]
        go_simp
        refine (wnew_any _ aq lq kq zq _ hq).mono ?_
        rintro e x6 ⟨sq, rfl, hsq, eq', hb⟩
        replace V0 := Va.after hb V0
        replace V1 := Va.after hb V1
        replace V2 := Va.after hb V2
        replace V3 := Va.after hb V3
        replace Vt := Va.after hb Vt
        replace Vl := Va.after hb Vl
        replace Vr := Va.after hb Vr
        replace hq := Nt.after hb hq
        replace hr := Nt.after hb hr
        replace hy := It.after hb hy
        replace B0 := step B0 hb
        clear hb
        try go_wp2_with fail
        refine hK.out _ _ ⟨V0.c0, V0.c1, V1.c0, V1.c1, Vt.cell, Vl.cell⟩ (fun hHeld => ?_)
        clear hK K
        refine wpAnyH_ready (rs := [10, 11]) (by kernel_rfl) (by simp) ?_
        refine AllReadyH.cons rfl (fun K hK => ?_) (AllReadyH.cons rfl (fun K hK => ?_) AllReadyH.nil)
        ·
          simp only [List.getElem_toArray, List.getElem_cons_zero, List.getElem_cons_succ]
          go_simp
          refine (wnew_any _ ar lr kr zr _ hr).mono ?_
          rintro e x7 ⟨sr, rfl, hsr, er', hb⟩
          replace V0 := Va.after hb V0
          replace V1 := Va.after hb V1
          replace V2 := Va.after hb V2
          replace V3 := Va.after hb V3
          replace Vt := Va.after hb Vt
          replace Vl := Va.after hb Vl
          replace Vr := Va.after hb Vr
          replace hq := Nt.after hb hq
          replace hr := Nt.after hb hr
          replace hy := It.after hb hy
          replace hsq := It.after hb hsq
          replace B0 := step B0 hb
          clear hb
          try go_wp2_with fail
          refine hK.out _ _ ⟨V0.c0, V0.c1, V1.c0, V1.c1, Vt.cell, Vl.cell⟩ (fun hHeld => ?_)
          clear hK K
          refine wpAnyH_ready (rs := [11]) (by kernel_rfl) (by simp) ?_
          refine AllReadyH.cons rfl (fun K hK => ?_) AllReadyH.nil
          ·
            simp only [List.getElem_toArray, List.getElem_cons_zero, List.getElem_cons_succ]
            go_simp
            have lt_Vq_V0 := V0.lt
            have lt_Vq_V1 := V1.lt
            have lt_Vq_V2 := V2.lt
            have lt_Vq_V3 := V3.lt
            have lt_Vq_Vt := Vt.lt
            have lt_Vq_Vl := Vl.lt
            have lt_Vq_Vr := Vr.lt
            have sz_Vq := B0.size
            refine ent1 _ _ _ (Q := fun V => K _ V) ?_
            intro x8 hb hs_ Vq
            replace V0 := Va.after hb V0
            replace V1 := Va.after hb V1
            replace V2 := Va.after hb V2
            replace V3 := Va.after hb V3
            replace Vt := Va.after hb Vt
            replace Vl := Va.after hb Vl
            replace Vr := Va.after hb Vr
            replace hq := Nt.after hb hq
            replace hr := Nt.after hb hr
            replace hy := It.after hb hy
            replace hsq := It.after hb hsq
            replace hsr := It.after hb hsr
            replace B0 := step B0 hb
            clear hb hs_
            refine hK.out _ _ ⟨V0.c0, V0.c1, V1.c0, V1.c1, Vt.cell, Vl.cell⟩ (fun hHeld => ?_)
            clear hK K
            have c_Vq := Vq.c0
            have d_Vq := Vq.c1
            have f_Vq := Vq.frozen 0
            have g_Vq := Vq.frozen 1
            have l_Vq := Vq.lt
            have m_Vq := Nat.le_of_lt l_Vq
            refine wpAnyH_ready (rs := [13]) (by kernel_rfl) (by simp) ?_
            refine AllReadyH.cons rfl (fun K hK => ?_) AllReadyH.nil
            simp only [List.getElem_toArray, List.getElem_cons_zero, List.getElem_cons_succ]
            go_simp
            clear c_Vq d_Vq f_Vq g_Vq l_Vq m_Vq
            refine st2 Vq (.bool sq) (.slice aq lq kq) (Q := fun W => K _ W) ?_
            intro x9 V' oth far
            replace V0 := oth _ _ _ (by first | omega | assumption) V0
            replace V1 := oth _ _ _ (by first | omega | assumption) V1
            replace V2 := oth _ _ _ (by first | omega | assumption) V2
            replace V3 := oth _ _ _ (by first | omega | assumption) V3
            replace Vt := oth _ _ _ (by first | omega | assumption) Vt
            replace Vl := oth _ _ _ (by first | omega | assumption) Vl
            replace Vr := oth _ _ _ (by first | omega | assumption) Vr
            replace hq := hq.far Vq (noInt2 _ _ _ _) far.1
            replace hr := hr.far Vq (noInt2 _ _ _ _) far.1
            replace hy := hy.far Vq (noInt2 _ _ _ _) far.1
            replace hsq := hsq.far Vq (noInt2 _ _ _ _) far.1
            replace hsr := hsr.far Vq (noInt2 _ _ _ _) far.1
            replace B0 := far.2 _ _ (by first | omega | (simp; omega)) B0
            replace Vq := V'
            clear oth far
            refine hK.out _ _ ⟨V0.c0, V0.c1, V1.c0, V1.c1, Vt.cell, Vl.cell⟩ (fun hHeld => ?_)
            clear hK K
            have c_Vr := Vr.c0
            have d_Vr := Vr.c1
            have f_Vr := Vr.frozen 0
            have g_Vr := Vr.frozen 1
            have l_Vr := Vr.lt
            have m_Vr := Nat.le_of_lt l_Vr
            refine wpAnyH_ready (rs := [14]) (by kernel_rfl) (by simp) ?_
            refine AllReadyH.cons rfl (fun K hK => ?_) AllReadyH.nil
            simp only [List.getElem_toArray, List.getElem_cons_zero, List.getElem_cons_succ]
            go_simp
            clear c_Vr d_Vr f_Vr g_Vr l_Vr m_Vr
            refine st2 Vr (.bool sr) (.slice ar lr kr) (Q := fun W => K _ W) ?_
            intro x10 V' oth far
            replace V0 := oth _ _ _ (by first | omega | assumption) V0
            replace V1 := oth _ _ _ (by first | omega | assumption) V1
            replace V2 := oth _ _ _ (by first | omega | assumption) V2
            replace V3 := oth _ _ _ (by first | omega | assumption) V3
            replace Vt := oth _ _ _ (by first | omega | assumption) Vt
            replace Vl := oth _ _ _ (by first | omega | assumption) Vl
            replace Vq := oth _ _ _ (by first | omega | assumption) Vq
            replace hq := hq.far Vr (noInt2 _ _ _ _) far.1
            replace hr := hr.far Vr (noInt2 _ _ _ _) far.1
            replace hy := hy.far Vr (noInt2 _ _ _ _) far.1
            replace hsq := hsq.far Vr (noInt2 _ _ _ _) far.1
            replace hsr := hsr.far Vr (noInt2 _ _ _ _) far.1
            replace B0 := far.2 _ _ (by first | omega | (simp; omega)) B0
            replace Vr := V'
            clear oth far
            refine hK.out _ _ ⟨V0.c0, V0.c1, V1.c0, V1.c1, Vt.cell, Vl.cell⟩ (fun hHeld => ?_)
            clear hK K
            refine wpAnyH_done (by kernel_rfl) ?_ _
            refine NoPanic.normal ?_
            clear hHeld
            go_wp2_with fail
            go_meet
            exact ⟨_, _, sq, sr, rfl, rfl, V0, V1, V2, V3, Vl, Vq, Vr, hy, hsq, hsr, eq', er', B0, by omega, by omega, by omega, by omega⟩
        ·
          simp only [List.getElem_toArray, List.getElem_cons_zero, List.getElem_cons_succ]
          go_simp
          have lt_Vq_V0 := V0.lt
          have lt_Vq_V1 := V1.lt
          have lt_Vq_V2 := V2.lt
          have lt_Vq_V3 := V3.lt
          have lt_Vq_Vt := Vt.lt
          have lt_Vq_Vl := Vl.lt
          have lt_Vq_Vr := Vr.lt
          have sz_Vq := B0.size
          refine ent1 _ _ _ (Q := fun V => K _ V) ?_
          intro x7 hb hs_ Vq
          replace V0 := Va.after hb V0
          replace V1 := Va.after hb V1
          replace V2 := Va.after hb V2
          replace V3 := Va.after hb V3
          replace Vt := Va.after hb Vt
          replace Vl := Va.after hb Vl
          replace Vr := Va.after hb Vr
          replace hq := Nt.after hb hq
          replace hr := Nt.after hb hr
          replace hy := It.after hb hy
          replace hsq := It.after hb hsq
          replace B0 := step B0 hb
          clear hb hs_
          refine hK.out _ _ ⟨V0.c0, V0.c1, V1.c0, V1.c1, Vt.cell, Vl.cell⟩ (fun hHeld => ?_)
          clear hK K
          refine wpAnyH_ready (rs := [10]) (by kernel_rfl) (by simp) ?_
          refine AllReadyH.cons rfl (fun K hK => ?_) AllReadyH.nil
          ·
            simp only [List.getElem_toArray, List.getElem_cons_zero, List.getElem_cons_succ]
            go_simp
            refine (wnew_any _ ar lr kr zr _ hr).mono ?_
            rintro e x8 ⟨sr, rfl, hsr, er', hb⟩
            replace V0 := Va.after hb V0
            replace V1 := Va.after hb V1
            replace V2 := Va.after hb V2
            replace V3 := Va.after hb V3
            replace Vt := Va.after hb Vt
            replace Vl := Va.after hb Vl
            replace Vr := Va.after hb Vr
            replace Vq := Va.after hb Vq
            replace hq := Nt.after hb hq
            replace hr := Nt.after hb hr
            replace hy := It.after hb hy
            replace hsq := It.after hb hsq
            replace B0 := step B0 hb
            clear hb
            try go_wp2_with fail
            refine hK.out _ _ ⟨V0.c0, V0.c1, V1.c0, V1.c1, Vt.cell, Vl.cell⟩ (fun hHeld => ?_)
            clear hK K
            have c_Vq := Vq.c0
            have d_Vq := Vq.c1
            have f_Vq := Vq.frozen 0
            have g_Vq := Vq.frozen 1
            have l_Vq := Vq.lt
            have m_Vq := Nat.le_of_lt l_Vq
            refine wpAnyH_ready (rs := [13]) (by kernel_rfl) (by simp) ?_
            refine AllReadyH.cons rfl (fun K hK => ?_) AllReadyH.nil
            simp only [List.getElem_toArray, List.getElem_cons_zero, List.getElem_cons_succ]
            go_simp
            clear c_Vq d_Vq f_Vq g_Vq l_Vq m_Vq
            refine st2 Vq (.bool sq) (.slice aq lq kq) (Q := fun W => K _ W) ?_
            intro x9 V' oth far
            replace V0 := oth _ _ _ (by first | omega | assumption) V0
            replace V1 := oth _ _ _ (by first | omega | assumption) V1
            replace V2 := oth _ _ _ (by first | omega | assumption) V2
            replace V3 := oth _ _ _ (by first | omega | assumption) V3
            replace Vt := oth _ _ _ (by first | omega | assumption) Vt
            replace Vl := oth _ _ _ (by first | omega | assumption) Vl
            replace Vr := oth _ _ _ (by first | omega | assumption) Vr
            replace hq := hq.far Vq (noInt2 _ _ _ _) far.1
            replace hr := hr.far Vq (noInt2 _ _ _ _) far.1
            replace hy := hy.far Vq (noInt2 _ _ _ _) far.1
            replace hsq := hsq.far Vq (noInt2 _ _ _ _) far.1
            replace hsr := hsr.far Vq (noInt2 _ _ _ _) far.1
            replace B0 := far.2 _ _ (by first | omega | (simp; omega)) B0
            replace Vq := V'
            clear oth far
            refine hK.out _ _ ⟨V0.c0, V0.c1, V1.c0, V1.c1, Vt.cell, Vl.cell⟩ (fun hHeld => ?_)
            clear hK K
            have c_Vr := Vr.c0
            have d_Vr := Vr.c1
            have f_Vr := Vr.frozen 0
            have g_Vr := Vr.frozen 1
            have l_Vr := Vr.lt
            have m_Vr := Nat.le_of_lt l_Vr
            refine wpAnyH_ready (rs := [14]) (by kernel_rfl) (by simp) ?_
            refine AllReadyH.cons rfl (fun K hK => ?_) AllReadyH.nil
            simp only [List.getElem_toArray, List.getElem_cons_zero, List.getElem_cons_succ]
            go_simp
            clear c_Vr d_Vr f_Vr g_Vr l_Vr m_Vr
            refine st2 Vr (.bool sr) (.slice ar lr kr) (Q := fun W => K _ W) ?_
            intro x10 V' oth far
            replace V0 := oth _ _ _ (by first | omega | assumption) V0
            replace V1 := oth _ _ _ (by first | omega | assumption) V1
            replace V2 := oth _ _ _ (by first | omega | assumption) V2
            replace V3 := oth _ _ _ (by first | omega | assumption) V3
            replace Vt := oth _ _ _ (by first | omega | assumption) Vt
            replace Vl := oth _ _ _ (by first | omega | assumption) Vl
            replace Vq := oth _ _ _ (by first | omega | assumption) Vq
            replace hq := hq.far Vr (noInt2 _ _ _ _) far.1
            replace hr := hr.far Vr (noInt2 _ _ _ _) far.1
            replace hy := hy.far Vr (noInt2 _ _ _ _) far.1
            replace hsq := hsq.far Vr (noInt2 _ _ _ _) far.1
            replace hsr := hsr.far Vr (noInt2 _ _ _ _) far.1
            replace B0 := far.2 _ _ (by first | omega | (simp; omega)) B0
            replace Vr := V'
            clear oth far
            refine hK.out _ _ ⟨V0.c0, V0.c1, V1.c0, V1.c1, Vt.cell, Vl.cell⟩ (fun hHeld => ?_)
            clear hK K
            refine wpAnyH_done (by kernel_rfl) ?_ _
            refine NoPanic.normal ?_
            clear hHeld
            go_wp2_with fail
            go_meet
            exact ⟨_, _, sq, sr, rfl, rfl, V0, V1, V2, V3, Vl, Vq, Vr, hy, hsq, hsr, eq', er', B0, by omega, by omega, by omega, by omega⟩
      ·
        simp only [List.getElem_toArray, List.getElem_cons_zero, List.getElem_cons_succ]
        go_simp
        have lt_Vq_V0 := V0.lt
        have lt_Vq_V1 := V1.lt
        have lt_Vq_V2 := V2.lt
        have lt_Vq_V3 := V3.lt
        have lt_Vq_Vt := Vt.lt
        have lt_Vq_Vl := Vl.lt
        have lt_Vq_Vr := Vr.lt
        have sz_Vq := B0.size
        refine ent1 _ _ _ (Q := fun V => K _ V) ?_
        intro x6 hb hs_ Vq
        replace V0 := Va.after hb V0
        replace V1 := Va.after hb V1
        replace V2 := Va.after hb V2
        replace V3 := Va.after hb V3
        replace Vt := Va.after hb Vt
        replace Vl := Va.after hb Vl
        replace Vr := Va.after hb Vr
        replace hq := Nt.after hb hq
        replace hr := Nt.after hb hr
        replace hy := It.after hb hy
        replace B0 := step B0 hb
        clear hb hs_
        refine hK.out _ _ ⟨V0.c0, V0.c1, V1.c0, V1.c1, Vt.cell, Vl.cell⟩ (fun hHeld => ?_)
        clear hK K
        refine wpAnyH_ready (rs := [6]) (by kernel_rfl) (by simp) ?_
        refine AllReadyH.cons rfl (fun K hK => ?_) AllReadyH.nil
        ·
          simp only [List.getElem_toArray, List.getElem_cons_zero, List.getElem_cons_succ]
          go_simp
          refine (wnew_any _ aq lq kq zq _ hq).mono ?_
          rintro e x7 ⟨sq, rfl, hsq, eq', hb⟩
          replace V0 := Va.after hb V0
          replace V1 := Va.after hb V1
          replace V2 := Va.after hb V2
          replace V3 := Va.after hb V3
          replace Vt := Va.after hb Vt
          replace Vl := Va.after hb Vl
          replace Vr := Va.after hb Vr
          replace Vq := Va.after hb Vq
          replace hq := Nt.after hb hq
          replace hr := Nt.after hb hr
          replace hy := It.after hb hy
          replace B0 := step B0 hb
          clear hb
          try go_wp2_with fail
          refine hK.out _ _ ⟨V0.c0, V0.c1, V1.c0, V1.c1, Vt.cell, Vl.cell⟩ (fun hHeld => ?_)
          clear hK K
          refine wpAnyH_ready (rs := [10]) (by kernel_rfl) (by simp) ?_
          refine AllReadyH.cons rfl (fun K hK => ?_) AllReadyH.nil
          ·
            simp only [List.getElem_toArray, List.getElem_cons_zero, List.getElem_cons_succ]
            go_simp
            refine (wnew_any _ ar lr kr zr _ hr).mono ?_
            rintro e x8 ⟨sr, rfl, hsr, er', hb⟩
            replace V0 := Va.after hb V0
            replace V1 := Va.after hb V1
            replace V2 := Va.after hb V2
            replace V3 := Va.after hb V3
            replace Vt := Va.after hb Vt
            replace Vl := Va.after hb Vl
            replace Vr := Va.after hb Vr
            replace Vq := Va.after hb Vq
            replace hq := Nt.after hb hq
            replace hr := Nt.after hb hr
            replace hy := It.after hb hy
            replace hsq := It.after hb hsq
            replace B0 := step B0 hb
            clear hb
            try go_wp2_with fail
            refine hK.out _ _ ⟨V0.c0, V0.c1, V1.c0, V1.c1, Vt.cell, Vl.cell⟩ (fun hHeld => ?_)
            clear hK K
            have c_Vq := Vq.c0
            have d_Vq := Vq.c1
            have f_Vq := Vq.frozen 0
            have g_Vq := Vq.frozen 1
            have l_Vq := Vq.lt
            have m_Vq := Nat.le_of_lt l_Vq
            refine wpAnyH_ready (rs := [13]) (by kernel_rfl) (by simp) ?_
            refine AllReadyH.cons rfl (fun K hK => ?_) AllReadyH.nil
            simp only [List.getElem_toArray, List.getElem_cons_zero, List.getElem_cons_succ]
            go_simp
            clear c_Vq d_Vq f_Vq g_Vq l_Vq m_Vq
            refine st2 Vq (.bool sq) (.slice aq lq kq) (Q := fun W => K _ W) ?_
            intro x9 V' oth far
            replace V0 := oth _ _ _ (by first | omega | assumption) V0
            replace V1 := oth _ _ _ (by first | omega | assumption) V1
            replace V2 := oth _ _ _ (by first | omega | assumption) V2
            replace V3 := oth _ _ _ (by first | omega | assumption) V3
            replace Vt := oth _ _ _ (by first | omega | assumption) Vt
            replace Vl := oth _ _ _ (by first | omega | assumption) Vl
            replace Vr := oth _ _ _ (by first | omega | assumption) Vr
            replace hq := hq.far Vq (noInt2 _ _ _ _) far.1
            replace hr := hr.far Vq (noInt2 _ _ _ _) far.1
            replace hy := hy.far Vq (noInt2 _ _ _ _) far.1
            replace hsq := hsq.far Vq (noInt2 _ _ _ _) far.1
            replace hsr := hsr.far Vq (noInt2 _ _ _ _) far.1
            replace B0 := far.2 _ _ (by first | omega | (simp; omega)) B0
            replace Vq := V'
            clear oth far
            refine hK.out _ _ ⟨V0.c0, V0.c1, V1.c0, V1.c1, Vt.cell, Vl.cell⟩ (fun hHeld => ?_)
            clear hK K
            have c_Vr := Vr.c0
            have d_Vr := Vr.c1
            have f_Vr := Vr.frozen 0
            have g_Vr := Vr.frozen 1
            have l_Vr := Vr.lt
            have m_Vr := Nat.le_of_lt l_Vr
            refine wpAnyH_ready (rs := [14]) (by kernel_rfl) (by simp) ?_
            refine AllReadyH.cons rfl (fun K hK => ?_) AllReadyH.nil
            simp only [List.getElem_toArray, List.getElem_cons_zero, List.getElem_cons_succ]
            go_simp
            clear c_Vr d_Vr f_Vr g_Vr l_Vr m_Vr
            refine st2 Vr (.bool sr) (.slice ar lr kr) (Q := fun W => K _ W) ?_
            intro x10 V' oth far
            replace V0 := oth _ _ _ (by first | omega | assumption) V0
            replace V1 := oth _ _ _ (by first | omega | assumption) V1
            replace V2 := oth _ _ _ (by first | omega | assumption) V2
            replace V3 := oth _ _ _ (by first | omega | assumption) V3
            replace Vt := oth _ _ _ (by first | omega | assumption) Vt
            replace Vl := oth _ _ _ (by first | omega | assumption) Vl
            replace Vq := oth _ _ _ (by first | omega | assumption) Vq
            replace hq := hq.far Vr (noInt2 _ _ _ _) far.1
            replace hr := hr.far Vr (noInt2 _ _ _ _) far.1
            replace hy := hy.far Vr (noInt2 _ _ _ _) far.1
            replace hsq := hsq.far Vr (noInt2 _ _ _ _) far.1
            replace hsr := hsr.far Vr (noInt2 _ _ _ _) far.1
            replace B0 := far.2 _ _ (by first | omega | (simp; omega)) B0
            replace Vr := V'
            clear oth far
            refine hK.out _ _ ⟨V0.c0, V0.c1, V1.c0, V1.c1, Vt.cell, Vl.cell⟩ (fun hHeld => ?_)
            clear hK K
            refine wpAnyH_done (by kernel_rfl) ?_ _
            refine NoPanic.normal ?_
            clear hHeld
            go_wp2_with fail
            go_meet
            exact ⟨_, _, sq, sr, rfl, rfl, V0, V1, V2, V3, Vl, Vq, Vr, hy, hsq, hsr, eq', er', B0, by omega, by omega, by omega, by omega⟩
  case rest =>
    obtain ⟨b10, b11, sq, sr, rfl, rfl, hcut⟩ := hcut
    have r0 := hr.nonneg
    have q0 := hq.nonneg
    have hz := hr.zero
    clear hy V0 V1 V2 V3 Vt Vl hq hr B0 szz lv3
    obtain ⟨V0, V1, V2, V3, Vl, Vq, Vr, hy, hq, hr, eq', er', B0, z1, z2, z3, z4⟩ := hcut.out
    clear hcut
    rcases hcase.out with ⟨rfl, hc⟩ | ⟨rfl, hc⟩
    ·
      obtain ⟨rfl, rfl, rfl, rfl, rfl, rfl, rfl, rfl⟩ := hc _ _ _ _ _ _ _ _ hP.out
      have es1 : sq = false := by cases sq with | false => rfl | true => exact absurd rfl (hq.2 rfl)
      have es2 : sr = false := by cases sr with | false => rfl | true => exact absurd rfl (hr.2 rfl)
      subst es1 es2
      clear hc hcase hP HXL hz r0 q0
      clear c_V0 d_V0 f_V0 g_V0 l_V0 m_V0 c_V1 d_V1 f_V1 g_V1 l_V1 m_V1 c_V2 d_V2 f_V2 g_V2 l_V2 m_V2 c_V3 d_V3 f_V3 g_V3 l_V3 m_V3
      have c_V0 := V0.c0
      have d_V0 := V0.c1
      have f_V0 := V0.frozen 0
      have g_V0 := V0.frozen 1
      have l_V0 := V0.lt
      have m_V0 := Nat.le_of_lt l_V0
      have c_V1 := V1.c0
      have d_V1 := V1.c1
      have f_V1 := V1.frozen 0
      have g_V1 := V1.frozen 1
      have l_V1 := V1.lt
      have m_V1 := Nat.le_of_lt l_V1
      have c_V2 := V2.c0
      have d_V2 := V2.c1
      have f_V2 := V2.frozen 0
      have g_V2 := V2.frozen 1
      have l_V2 := V2.lt
      have m_V2 := Nat.le_of_lt l_V2
      have c_V3 := V3.c0
      have d_V3 := V3.c1
      have f_V3 := V3.frozen 0
      have g_V3 := V3.frozen 1
      have l_V3 := V3.lt
      have m_V3 := Nat.le_of_lt l_V3
      have c_Vl := Vl.cell
      have f_Vl := Vl.frozen 0
      have l_Vl := Vl.lt
      have m_Vl := Nat.le_of_lt l_Vl
      have c_Vq := Vq.c0
      have d_Vq := Vq.c1
      have f_Vq := Vq.frozen 0
      have g_Vq := Vq.frozen 1
      have l_Vq := Vq.lt
      have m_Vq := Nat.le_of_lt l_Vq
      have c_Vr := Vr.c0
      have d_Vr := Vr.c1
      have f_Vr := Vr.frozen 0
      have g_Vr := Vr.frozen 1
      have l_Vr := Vr.lt
      have m_Vr := Nat.le_of_lt l_Vr
      go_wp2_with fail
      clear c_V0 d_V0 f_V0 g_V0 l_V0 m_V0 c_V1 d_V1 f_V1 g_V1 l_V1 m_V1 c_V2 d_V2 f_V2 g_V2 l_V2 m_V2 c_V3 d_V3 f_V3 g_V3 l_V3 m_V3 c_Vl f_Vl l_Vl m_Vl c_Vq d_Vq f_Vq g_Vq l_Vq m_Vq c_Vr d_Vr f_Vr g_Vr l_Vr m_Vr
      refine wp_region_noPanic ?_
      replace V0 : Va wc.drew _ _ _ := V0
      replace V1 : Va wc.drew _ _ _ := V1
      replace V2 : Va wc.drew _ _ _ := V2
      replace V3 : Va wc.drew _ _ _ := V3
      replace Vl : Va wc.drew _ _ _ := Vl
      replace Vq : Va wc.drew _ _ _ := Vq
      replace Vr : Va wc.drew _ _ _ := Vr
      replace hy : It wc.drew _ _ _ _ _ := hy
      replace hq : It wc.drew _ _ _ _ _ := hq
      replace hr : It wc.drew _ _ _ _ _ := hr
      replace B0 := Below.drew B0
      refine wp_region_held_drew (S := (fun W => W.cell? ⟨b10, 0, none⟩ = some (.bool false) ∧ W.cell? ⟨b10, 1, none⟩ = some (.slice none 0 0) ∧ W.cell? ⟨b11, 0, none⟩ = some (.bool false) ∧ W.cell? ⟨b11, 1, none⟩ = some (.slice none 0 0))) (by kernel_rfl) ⟨Vq.c0, Vq.c1, Vr.c0, Vr.c1⟩ (fun hHeld => ?_)
      obtain ⟨x4, hxd⟩ : ∃ xd, xd = wc.drew := ⟨_, rfl⟩
      rw [← hxd] at V0 V1 V2 V3 Vl Vq Vr hy hq hr B0 hHeld ⊢
      clear hxd
      refine wpAnyH_take (i := 0) (v := ?_) rfl (by kernel_rfl) (by kernel_rfl) (by kernel_rfl) (fun _ _ _ h => h) (Or.inl ⟨by rfl, ?_⟩) hHeld ?_
      rotate_left
      · (intro W hSw; (try dsimp only at hSw); go_simp; all_goals (with_reducible rfl))
      simp only [List.getElem_toArray, List.getElem_cons_zero, Act.put, List.setIfInBounds_toArray, List.set_cons_zero, List.set_cons_succ]
      refine wpAnyH_take (i := 1) (v := ?_) rfl (by kernel_rfl) (by kernel_rfl) (by kernel_rfl) (fun _ _ _ h => h) (Or.inl ⟨by rfl, ?_⟩) hHeld ?_
      rotate_left
      · (intro W hSw; (try dsimp only at hSw); go_simp; all_goals (with_reducible rfl))
      simp only [List.getElem_toArray, List.getElem_cons_zero, List.getElem_cons_succ, Act.put, List.setIfInBounds_toArray, List.set_cons_zero, List.set_cons_succ]
      refine wpAnyH_take (i := 2) (v := ?_) rfl (by kernel_rfl) (by kernel_rfl) (by kernel_rfl) (fun _ _ _ h => h) (Or.inl ⟨by rfl, ?_⟩) hHeld ?_
      rotate_left
      · (intro W hSw; (try dsimp only at hSw); go_simp; all_goals (with_reducible rfl))
      simp only [List.getElem_toArray, List.getElem_cons_zero, List.getElem_cons_succ, Act.put, List.setIfInBounds_toArray, List.set_cons_zero, List.set_cons_succ]
      have c_V2 := V2.c0
      have d_V2 := V2.c1
      have f_V2 := V2.frozen 0
      have g_V2 := V2.frozen 1
      have l_V2 := V2.lt
      have m_V2 := Nat.le_of_lt l_V2
      refine wpAnyH_ready (rs := [3]) (by kernel_rfl) (by simp) ?_
      refine AllReadyH.cons rfl (fun K hK => ?_) AllReadyH.nil
      simp only [List.getElem_toArray, List.getElem_cons_zero, List.getElem_cons_succ]
      go_simp
      clear c_V2 d_V2 f_V2 g_V2 l_V2 m_V2
      refine st2 V2 (.bool false) (.slice none 0 0) (Q := fun W => K _ W) ?_
      intro x5 V' oth far
      replace V0 := oth _ _ _ (by first | omega | assumption) V0
      replace V1 := oth _ _ _ (by first | omega | assumption) V1
      replace V3 := oth _ _ _ (by first | omega | assumption) V3
      replace Vl := oth _ _ _ (by first | omega | assumption) Vl
      replace Vq := oth _ _ _ (by first | omega | assumption) Vq
      replace Vr := oth _ _ _ (by first | omega | assumption) Vr
      replace hy := hy.far V2 (noInt2 _ _ _ _) far.1
      replace hq := hq.far V2 (noInt2 _ _ _ _) far.1
      replace hr := hr.far V2 (noInt2 _ _ _ _) far.1
      replace B0 := far.2 _ _ (by first | omega | (simp; omega)) B0
      replace V2 := V'
      clear oth far
      refine hK.out _ _ ⟨Vq.c0, Vq.c1, Vr.c0, Vr.c1⟩ (fun hHeld => ?_)
      clear hK K
      have c_V3 := V3.c0
      have d_V3 := V3.c1
      have f_V3 := V3.frozen 0
      have g_V3 := V3.frozen 1
      have l_V3 := V3.lt
      have m_V3 := Nat.le_of_lt l_V3
      refine wpAnyH_ready (rs := [4]) (by kernel_rfl) (by simp) ?_
      refine AllReadyH.cons rfl (fun K hK => ?_) AllReadyH.nil
      simp only [List.getElem_toArray, List.getElem_cons_zero, List.getElem_cons_succ]
      go_simp
      clear c_V3 d_V3 f_V3 g_V3 l_V3 m_V3
      refine st2 V3 (.bool false) (.slice none 0 0) (Q := fun W => K _ W) ?_
      intro x6 V' oth far
      replace V0 := oth _ _ _ (by first | omega | assumption) V0
      replace V1 := oth _ _ _ (by first | omega | assumption) V1
      replace V2 := oth _ _ _ (by first | omega | assumption) V2
      replace Vl := oth _ _ _ (by first | omega | assumption) Vl
      replace Vq := oth _ _ _ (by first | omega | assumption) Vq
      replace Vr := oth _ _ _ (by first | omega | assumption) Vr
      replace hy := hy.far V3 (noInt2 _ _ _ _) far.1
      replace hq := hq.far V3 (noInt2 _ _ _ _) far.1
      replace hr := hr.far V3 (noInt2 _ _ _ _) far.1
      replace B0 := far.2 _ _ (by first | omega | (simp; omega)) B0
      replace V3 := V'
      clear oth far
      refine hK.out _ _ ⟨Vq.c0, Vq.c1, Vr.c0, Vr.c1⟩ (fun hHeld => ?_)
      clear hK K
      refine wpAnyH_take (i := 5) (v := ?_) rfl (by kernel_rfl) (by kernel_rfl) (by kernel_rfl) (fun _ _ _ h => h) (Or.inl ⟨by rfl, ?_⟩) hHeld ?_
      rotate_left
      · (intro W hSw; (try dsimp only at hSw); go_simp; all_goals (with_reducible rfl))
      simp only [List.getElem_toArray, List.getElem_cons_zero, List.getElem_cons_succ, Act.put, List.setIfInBounds_toArray, List.set_cons_zero, List.set_cons_succ]
      refine wpAnyH_done (by kernel_rfl) ?_ _
      refine NoPanic.normal ?_
      clear hHeld
      go_wp2_with fail
      refine bodyPost_ret (results_wwt rfl rfl V2 rfl V3) rfl ?_
      exact ⟨_, _, _, _, _, _, _, _, _, _, rfl, hq, hr, Or.inl ⟨rfl, rfl, rfl, rfl, rfl, rfl, rfl, rfl, rfl, rfl, rfl⟩, B0⟩
    ·
      obtain ⟨hd, hr1⟩ := hc _ _ _ _ _ _ _ _ hP.out
      have HD : Hid (num xs = num zq * num ys + num zr) := hd
      have HR : Hid (0 ≤ num zq ∧ 0 ≤ num zr ∧ num zr < num ys) := ⟨q0, r0, hr1⟩
      clear hc hcase hP hd hr1 r0 q0
      by_cases hz0 : num zr = 0
      ·
        have hz1 : ((lr : Int) == 0) = true := by rw [hz]; simpa using hz0
        clear hz HXL
        clear c_V0 d_V0 f_V0 g_V0 l_V0 m_V0 c_V1 d_V1 f_V1 g_V1 l_V1 m_V1 c_V2 d_V2 f_V2 g_V2 l_V2 m_V2 c_V3 d_V3 f_V3 g_V3 l_V3 m_V3
        have c_V0 := V0.c0
        have d_V0 := V0.c1
        have f_V0 := V0.frozen 0
        have g_V0 := V0.frozen 1
        have l_V0 := V0.lt
        have m_V0 := Nat.le_of_lt l_V0
        have c_V1 := V1.c0
        have d_V1 := V1.c1
        have f_V1 := V1.frozen 0
        have g_V1 := V1.frozen 1
        have l_V1 := V1.lt
        have m_V1 := Nat.le_of_lt l_V1
        have c_V2 := V2.c0
        have d_V2 := V2.c1
        have f_V2 := V2.frozen 0
        have g_V2 := V2.frozen 1
        have l_V2 := V2.lt
        have m_V2 := Nat.le_of_lt l_V2
        have c_V3 := V3.c0
        have d_V3 := V3.c1
        have f_V3 := V3.frozen 0
        have g_V3 := V3.frozen 1
        have l_V3 := V3.lt
        have m_V3 := Nat.le_of_lt l_V3
        have c_Vl := Vl.cell
        have f_Vl := Vl.frozen 0
        have l_Vl := Vl.lt
        have m_Vl := Nat.le_of_lt l_Vl
        have c_Vq := Vq.c0
        have d_Vq := Vq.c1
        have f_Vq := Vq.frozen 0
        have g_Vq := Vq.frozen 1
        have l_Vq := Vq.lt
        have m_Vq := Nat.le_of_lt l_Vq
        have c_Vr := Vr.c0
        have d_Vr := Vr.c1
        have f_Vr := Vr.frozen 0
        have g_Vr := Vr.frozen 1
        have l_Vr := Vr.lt
        have m_Vr := Nat.le_of_lt l_Vr
        go_wp2_with fail
        refine (isZero_any ar lr kr wc).mono ?_
        rintro e x4 ⟨rfl, hb⟩
        replace V0 := Va.after hb V0
        replace V1 := Va.after hb V1
        replace V2 := Va.after hb V2
        replace V3 := Va.after hb V3
        replace Vl := Va.after hb Vl
        replace Vq := Va.after hb Vq
        replace Vr := Va.after hb Vr
        replace hy := It.after hb hy
        replace hq := It.after hb hq
        replace hr := It.after hb hr
        replace B0 := step B0 hb
        clear hb
        rw [hz1]
        clear c_V0 d_V0 f_V0 g_V0 l_V0 m_V0 c_V1 d_V1 f_V1 g_V1 l_V1 m_V1 c_V2 d_V2 f_V2 g_V2 l_V2 m_V2 c_V3 d_V3 f_V3 g_V3 l_V3 m_V3 c_Vl f_Vl l_Vl m_Vl c_Vq d_Vq f_Vq g_Vq l_Vq m_Vq c_Vr d_Vr f_Vr g_Vr l_Vr m_Vr
        have c_V0 := V0.c0
        have d_V0 := V0.c1
        have f_V0 := V0.frozen 0
        have g_V0 := V0.frozen 1
        have l_V0 := V0.lt
        have m_V0 := Nat.le_of_lt l_V0
        have c_V1 := V1.c0
        have d_V1 := V1.c1
        have f_V1 := V1.frozen 0
        have g_V1 := V1.frozen 1
        have l_V1 := V1.lt
        have m_V1 := Nat.le_of_lt l_V1
        have c_V2 := V2.c0
        have d_V2 := V2.c1
        have f_V2 := V2.frozen 0
        have g_V2 := V2.frozen 1
        have l_V2 := V2.lt
        have m_V2 := Nat.le_of_lt l_V2
        have c_V3 := V3.c0
        have d_V3 := V3.c1
        have f_V3 := V3.frozen 0
        have g_V3 := V3.frozen 1
        have l_V3 := V3.lt
        have m_V3 := Nat.le_of_lt l_V3
        have c_Vl := Vl.cell
        have f_Vl := Vl.frozen 0
        have l_Vl := Vl.lt
        have m_Vl := Nat.le_of_lt l_Vl
        have c_Vq := Vq.c0
        have d_Vq := Vq.c1
        have f_Vq := Vq.frozen 0
        have g_Vq := Vq.frozen 1
        have l_Vq := Vq.lt
        have m_Vq := Nat.le_of_lt l_Vq
        have c_Vr := Vr.c0
        have d_Vr := Vr.c1
        have f_Vr := Vr.frozen 0
        have g_Vr := Vr.frozen 1
        have l_Vr := Vr.lt
        have m_Vr := Nat.le_of_lt l_Vr
        go_wp2_with fail
        clear c_V0 d_V0 f_V0 g_V0 l_V0 m_V0 c_V1 d_V1 f_V1 g_V1 l_V1 m_V1 c_V2 d_V2 f_V2 g_V2 l_V2 m_V2 c_V3 d_V3 f_V3 g_V3 l_V3 m_V3 c_Vl f_Vl l_Vl m_Vl c_Vq d_Vq f_Vq g_Vq l_Vq m_Vq c_Vr d_Vr f_Vr g_Vr l_Vr m_Vr
        refine wp_region_noPanic ?_
        replace V0 : Va x4.drew _ _ _ := V0
        replace V1 : Va x4.drew _ _ _ := V1
        replace V2 : Va x4.drew _ _ _ := V2
        replace V3 : Va x4.drew _ _ _ := V3
        replace Vl : Va x4.drew _ _ _ := Vl
        replace Vq : Va x4.drew _ _ _ := Vq
        replace Vr : Va x4.drew _ _ _ := Vr
        replace hy : It x4.drew _ _ _ _ _ := hy
        replace hq : It x4.drew _ _ _ _ _ := hq
        replace hr : It x4.drew _ _ _ _ _ := hr
        replace B0 := Below.drew B0
        refine wp_region_held_drew (S := (fun W => W.cell? ⟨b10, 0, none⟩ = some (.bool sq) ∧ W.cell? ⟨b10, 1, none⟩ = some (.slice aq lq kq) ∧ W.cell? ⟨b11, 0, none⟩ = some (.bool sr) ∧ W.cell? ⟨b11, 1, none⟩ = some (.slice ar lr kr))) (by kernel_rfl) ⟨Vq.c0, Vq.c1, Vr.c0, Vr.c1⟩ (fun hHeld => ?_)
        obtain ⟨x5, hxd⟩ : ∃ xd, xd = x4.drew := ⟨_, rfl⟩
        rw [← hxd] at V0 V1 V2 V3 Vl Vq Vr hy hq hr B0 hHeld ⊢
        clear hxd
        refine wpAnyH_take (i := 0) (v := ?_) rfl (by kernel_rfl) (by kernel_rfl) (by kernel_rfl) (fun _ _ _ h => h) (Or.inl ⟨by rfl, ?_⟩) hHeld ?_
        rotate_left
        · (intro W hSw; (try dsimp only at hSw); go_simp; all_goals (with_reducible rfl))
        simp only [List.getElem_toArray, List.getElem_cons_zero, Act.put, List.setIfInBounds_toArray, List.set_cons_zero, List.set_cons_succ]
        refine wpAnyH_take (i := 1) (v := ?_) rfl (by kernel_rfl) (by kernel_rfl) (by kernel_rfl) (fun _ _ _ h => h) (Or.inl ⟨by rfl, ?_⟩) hHeld ?_
        rotate_left
        · (intro W hSw; (try dsimp only at hSw); go_simp; all_goals (with_reducible rfl))
        simp only [List.getElem_toArray, List.getElem_cons_zero, List.getElem_cons_succ, Act.put, List.setIfInBounds_toArray, List.set_cons_zero, List.set_cons_succ]
        refine wpAnyH_take (i := 2) (v := ?_) rfl (by kernel_rfl) (by kernel_rfl) (by kernel_rfl) (fun _ _ _ h => h) (Or.inl ⟨by rfl, ?_⟩) hHeld ?_
        rotate_left
        · (intro W hSw; (try dsimp only at hSw); go_simp; all_goals (with_reducible rfl))
        simp only [List.getElem_toArray, List.getElem_cons_zero, List.getElem_cons_succ, Act.put, List.setIfInBounds_toArray, List.set_cons_zero, List.set_cons_succ]
        have c_V2 := V2.c0
        have d_V2 := V2.c1
        have f_V2 := V2.frozen 0
        have g_V2 := V2.frozen 1
        have l_V2 := V2.lt
        have m_V2 := Nat.le_of_lt l_V2
        refine wpAnyH_ready (rs := [3]) (by kernel_rfl) (by simp) ?_
        refine AllReadyH.cons rfl (fun K hK => ?_) AllReadyH.nil
        simp only [List.getElem_toArray, List.getElem_cons_zero, List.getElem_cons_succ]
        go_simp
        clear c_V2 d_V2 f_V2 g_V2 l_V2 m_V2
        refine st2 V2 (.bool sq) (.slice aq lq kq) (Q := fun W => K _ W) ?_
        intro x6 V' oth far
        replace V0 := oth _ _ _ (by first | omega | assumption) V0
        replace V1 := oth _ _ _ (by first | omega | assumption) V1
        replace V3 := oth _ _ _ (by first | omega | assumption) V3
        replace Vl := oth _ _ _ (by first | omega | assumption) Vl
        replace Vq := oth _ _ _ (by first | omega | assumption) Vq
        replace Vr := oth _ _ _ (by first | omega | assumption) Vr
        replace hy := hy.far V2 (noInt2 _ _ _ _) far.1
        replace hq := hq.far V2 (noInt2 _ _ _ _) far.1
        replace hr := hr.far V2 (noInt2 _ _ _ _) far.1
        replace B0 := far.2 _ _ (by first | omega | (simp; omega)) B0
        replace V2 := V'
        clear oth far
        refine hK.out _ _ ⟨Vq.c0, Vq.c1, Vr.c0, Vr.c1⟩ (fun hHeld => ?_)
        clear hK K
        have c_V3 := V3.c0
        have d_V3 := V3.c1
        have f_V3 := V3.frozen 0
        have g_V3 := V3.frozen 1
        have l_V3 := V3.lt
        have m_V3 := Nat.le_of_lt l_V3
        refine wpAnyH_ready (rs := [4]) (by kernel_rfl) (by simp) ?_
        refine AllReadyH.cons rfl (fun K hK => ?_) AllReadyH.nil
        simp only [List.getElem_toArray, List.getElem_cons_zero, List.getElem_cons_succ]
        go_simp
        clear c_V3 d_V3 f_V3 g_V3 l_V3 m_V3
        refine st2 V3 (.bool sr) (.slice ar lr kr) (Q := fun W => K _ W) ?_
        intro x7 V' oth far
        replace V0 := oth _ _ _ (by first | omega | assumption) V0
        replace V1 := oth _ _ _ (by first | omega | assumption) V1
        replace V2 := oth _ _ _ (by first | omega | assumption) V2
        replace Vl := oth _ _ _ (by first | omega | assumption) Vl
        replace Vq := oth _ _ _ (by first | omega | assumption) Vq
        replace Vr := oth _ _ _ (by first | omega | assumption) Vr
        replace hy := hy.far V3 (noInt2 _ _ _ _) far.1
        replace hq := hq.far V3 (noInt2 _ _ _ _) far.1
        replace hr := hr.far V3 (noInt2 _ _ _ _) far.1
        replace B0 := far.2 _ _ (by first | omega | (simp; omega)) B0
        replace V3 := V'
        clear oth far
        refine hK.out _ _ ⟨Vq.c0, Vq.c1, Vr.c0, Vr.c1⟩ (fun hHeld => ?_)
        clear hK K
        refine wpAnyH_take (i := 5) (v := ?_) rfl (by kernel_rfl) (by kernel_rfl) (by kernel_rfl) (fun _ _ _ h => h) (Or.inl ⟨by rfl, ?_⟩) hHeld ?_
        rotate_left
        · (intro W hSw; (try dsimp only at hSw); go_simp; all_goals (with_reducible rfl))
        simp only [List.getElem_toArray, List.getElem_cons_zero, List.getElem_cons_succ, Act.put, List.setIfInBounds_toArray, List.set_cons_zero, List.set_cons_succ]
        refine wpAnyH_done (by kernel_rfl) ?_ _
        refine NoPanic.normal ?_
        clear hHeld
        go_wp2_with fail
        refine bodyPost_ret (results_wwt rfl rfl V2 rfl V3) rfl ?_
        refine ⟨_, _, _, _, _, _, _, _, _, _, rfl, hq, hr, Or.inr ⟨rfl, ?_, ?_⟩, B0⟩
        · rw [eq', er']; exact dm_id HD.out
        · rw [er']; exact dm_floor HR.out.2.1 HR.out.2.2 (Or.inl hz0)
      ·
        have hz1 : ((lr : Int) == 0) = false := by rw [hz]; simpa using hz0
        clear hz
        by_cases hst : s = t
        ·
          have hst' : (s == t) = true := by simpa using hst
          clear HXL
          clear c_V0 d_V0 f_V0 g_V0 l_V0 m_V0 c_V1 d_V1 f_V1 g_V1 l_V1 m_V1 c_V2 d_V2 f_V2 g_V2 l_V2 m_V2 c_V3 d_V3 f_V3 g_V3 l_V3 m_V3
          have c_V0 := V0.c0
          have d_V0 := V0.c1
          have f_V0 := V0.frozen 0
          have g_V0 := V0.frozen 1
          have l_V0 := V0.lt
          have m_V0 := Nat.le_of_lt l_V0
          have c_V1 := V1.c0
          have d_V1 := V1.c1
          have f_V1 := V1.frozen 0
          have g_V1 := V1.frozen 1
          have l_V1 := V1.lt
          have m_V1 := Nat.le_of_lt l_V1
          have c_V2 := V2.c0
          have d_V2 := V2.c1
          have f_V2 := V2.frozen 0
          have g_V2 := V2.frozen 1
          have l_V2 := V2.lt
          have m_V2 := Nat.le_of_lt l_V2
          have c_V3 := V3.c0
          have d_V3 := V3.c1
          have f_V3 := V3.frozen 0
          have g_V3 := V3.frozen 1
          have l_V3 := V3.lt
          have m_V3 := Nat.le_of_lt l_V3
          have c_Vl := Vl.cell
          have f_Vl := Vl.frozen 0
          have l_Vl := Vl.lt
          have m_Vl := Nat.le_of_lt l_Vl
          have c_Vq := Vq.c0
          have d_Vq := Vq.c1
          have f_Vq := Vq.frozen 0
          have g_Vq := Vq.frozen 1
          have l_Vq := Vq.lt
          have m_Vq := Nat.le_of_lt l_Vq
          have c_Vr := Vr.c0
          have d_Vr := Vr.c1
          have f_Vr := Vr.frozen 0
          have g_Vr := Vr.frozen 1
          have l_Vr := Vr.lt
          have m_Vr := Nat.le_of_lt l_Vr
          go_wp2_with fail
          refine (isZero_any ar lr kr wc).mono ?_
          rintro e x4 ⟨rfl, hb⟩
          replace V0 := Va.after hb V0
          replace V1 := Va.after hb V1
          replace V2 := Va.after hb V2
          replace V3 := Va.after hb V3
          replace Vl := Va.after hb Vl
          replace Vq := Va.after hb Vq
          replace Vr := Va.after hb Vr
          replace hy := It.after hb hy
          replace hq := It.after hb hq
          replace hr := It.after hb hr
          replace B0 := step B0 hb
          clear hb
          rw [hz1]
          clear c_V0 d_V0 f_V0 g_V0 l_V0 m_V0 c_V1 d_V1 f_V1 g_V1 l_V1 m_V1 c_V2 d_V2 f_V2 g_V2 l_V2 m_V2 c_V3 d_V3 f_V3 g_V3 l_V3 m_V3 c_Vl f_Vl l_Vl m_Vl c_Vq d_Vq f_Vq g_Vq l_Vq m_Vq c_Vr d_Vr f_Vr g_Vr l_Vr m_Vr
          have c_V0 := V0.c0
          have d_V0 := V0.c1
          have f_V0 := V0.frozen 0
          have g_V0 := V0.frozen 1
          have l_V0 := V0.lt
          have m_V0 := Nat.le_of_lt l_V0
          have c_V1 := V1.c0
          have d_V1 := V1.c1
          have f_V1 := V1.frozen 0
          have g_V1 := V1.frozen 1
          have l_V1 := V1.lt
          have m_V1 := Nat.le_of_lt l_V1
          have c_V2 := V2.c0
          have d_V2 := V2.c1
          have f_V2 := V2.frozen 0
          have g_V2 := V2.frozen 1
          have l_V2 := V2.lt
          have m_V2 := Nat.le_of_lt l_V2
          have c_V3 := V3.c0
          have d_V3 := V3.c1
          have f_V3 := V3.frozen 0
          have g_V3 := V3.frozen 1
          have l_V3 := V3.lt
          have m_V3 := Nat.le_of_lt l_V3
          have c_Vl := Vl.cell
          have f_Vl := Vl.frozen 0
          have l_Vl := Vl.lt
          have m_Vl := Nat.le_of_lt l_Vl
          have c_Vq := Vq.c0
          have d_Vq := Vq.c1
          have f_Vq := Vq.frozen 0
          have g_Vq := Vq.frozen 1
          have l_Vq := Vq.lt
          have m_Vq := Nat.le_of_lt l_Vq
          have c_Vr := Vr.c0
          have d_Vr := Vr.c1
          have f_Vr := Vr.frozen 0
          have g_Vr := Vr.frozen 1
          have l_Vr := Vr.lt
          have m_Vr := Nat.le_of_lt l_Vr
          go_wp2_with fail
          clear c_V0 d_V0 f_V0 g_V0 l_V0 m_V0 c_V1 d_V1 f_V1 g_V1 l_V1 m_V1 c_V2 d_V2 f_V2 g_V2 l_V2 m_V2 c_V3 d_V3 f_V3 g_V3 l_V3 m_V3 c_Vl f_Vl l_Vl m_Vl c_Vq d_Vq f_Vq g_Vq l_Vq m_Vq c_Vr d_Vr f_Vr g_Vr l_Vr m_Vr
          refine wp_region_noPanic ?_
          replace V0 : Va x4.drew _ _ _ := V0
          replace V1 : Va x4.drew _ _ _ := V1
          replace V2 : Va x4.drew _ _ _ := V2
          replace V3 : Va x4.drew _ _ _ := V3
          replace Vl : Va x4.drew _ _ _ := Vl
          replace Vq : Va x4.drew _ _ _ := Vq
          replace Vr : Va x4.drew _ _ _ := Vr
          replace hy : It x4.drew _ _ _ _ _ := hy
          replace hq : It x4.drew _ _ _ _ _ := hq
          replace hr : It x4.drew _ _ _ _ _ := hr
          replace B0 := Below.drew B0
          refine wp_region_held_drew (S := (fun W => W.cell? ⟨b10, 0, none⟩ = some (.bool sq) ∧ W.cell? ⟨b10, 1, none⟩ = some (.slice aq lq kq) ∧ W.cell? ⟨b11, 0, none⟩ = some (.bool sr) ∧ W.cell? ⟨b11, 1, none⟩ = some (.slice ar lr kr))) (by kernel_rfl) ⟨Vq.c0, Vq.c1, Vr.c0, Vr.c1⟩ (fun hHeld => ?_)
          obtain ⟨x5, hxd⟩ : ∃ xd, xd = x4.drew := ⟨_, rfl⟩
          rw [← hxd] at V0 V1 V2 V3 Vl Vq Vr hy hq hr B0 hHeld ⊢
          clear hxd
          refine wpAnyH_take (i := 0) (v := ?_) rfl (by kernel_rfl) (by kernel_rfl) (by kernel_rfl) (fun _ _ _ h => h) (Or.inl ⟨by rfl, ?_⟩) hHeld ?_
          rotate_left
          · (intro W hSw; (try dsimp only at hSw); go_simp; all_goals (with_reducible rfl))
          simp only [List.getElem_toArray, List.getElem_cons_zero, Act.put, List.setIfInBounds_toArray, List.set_cons_zero, List.set_cons_succ]
          refine wpAnyH_take (i := 1) (v := ?_) rfl (by kernel_rfl) (by kernel_rfl) (by kernel_rfl) (fun _ _ _ h => h) (Or.inl ⟨by rfl, ?_⟩) hHeld ?_
          rotate_left
          · (intro W hSw; (try dsimp only at hSw); go_simp; all_goals (with_reducible rfl))
          simp only [List.getElem_toArray, List.getElem_cons_zero, List.getElem_cons_succ, Act.put, List.setIfInBounds_toArray, List.set_cons_zero, List.set_cons_succ]
          refine wpAnyH_take (i := 2) (v := ?_) rfl (by kernel_rfl) (by kernel_rfl) (by kernel_rfl) (fun _ _ _ h => h) (Or.inl ⟨by rfl, ?_⟩) hHeld ?_
          rotate_left
          · (intro W hSw; (try dsimp only at hSw); go_simp; all_goals (with_reducible rfl))
          simp only [List.getElem_toArray, List.getElem_cons_zero, List.getElem_cons_succ, Act.put, List.setIfInBounds_toArray, List.set_cons_zero, List.set_cons_succ]
          have c_V2 := V2.c0
          have d_V2 := V2.c1
          have f_V2 := V2.frozen 0
          have g_V2 := V2.frozen 1
          have l_V2 := V2.lt
          have m_V2 := Nat.le_of_lt l_V2
          refine wpAnyH_ready (rs := [3]) (by kernel_rfl) (by simp) ?_
          refine AllReadyH.cons rfl (fun K hK => ?_) AllReadyH.nil
          simp only [List.getElem_toArray, List.getElem_cons_zero, List.getElem_cons_succ]
          go_simp
          clear c_V2 d_V2 f_V2 g_V2 l_V2 m_V2
          refine st2 V2 (.bool sq) (.slice aq lq kq) (Q := fun W => K _ W) ?_
          intro x6 V' oth far
          replace V0 := oth _ _ _ (by first | omega | assumption) V0
          replace V1 := oth _ _ _ (by first | omega | assumption) V1
          replace V3 := oth _ _ _ (by first | omega | assumption) V3
          replace Vl := oth _ _ _ (by first | omega | assumption) Vl
          replace Vq := oth _ _ _ (by first | omega | assumption) Vq
          replace Vr := oth _ _ _ (by first | omega | assumption) Vr
          replace hy := hy.far V2 (noInt2 _ _ _ _) far.1
          replace hq := hq.far V2 (noInt2 _ _ _ _) far.1
          replace hr := hr.far V2 (noInt2 _ _ _ _) far.1
          replace B0 := far.2 _ _ (by first | omega | (simp; omega)) B0
          replace V2 := V'
          clear oth far
          refine hK.out _ _ ⟨Vq.c0, Vq.c1, Vr.c0, Vr.c1⟩ (fun hHeld => ?_)
          clear hK K
          have c_V3 := V3.c0
          have d_V3 := V3.c1
          have f_V3 := V3.frozen 0
          have g_V3 := V3.frozen 1
          have l_V3 := V3.lt
          have m_V3 := Nat.le_of_lt l_V3
          refine wpAnyH_ready (rs := [4]) (by kernel_rfl) (by simp) ?_
          refine AllReadyH.cons rfl (fun K hK => ?_) AllReadyH.nil
          simp only [List.getElem_toArray, List.getElem_cons_zero, List.getElem_cons_succ]
          go_simp
          clear c_V3 d_V3 f_V3 g_V3 l_V3 m_V3
          refine st2 V3 (.bool sr) (.slice ar lr kr) (Q := fun W => K _ W) ?_
          intro x7 V' oth far
          replace V0 := oth _ _ _ (by first | omega | assumption) V0
          replace V1 := oth _ _ _ (by first | omega | assumption) V1
          replace V2 := oth _ _ _ (by first | omega | assumption) V2
          replace Vl := oth _ _ _ (by first | omega | assumption) Vl
          replace Vq := oth _ _ _ (by first | omega | assumption) Vq
          replace Vr := oth _ _ _ (by first | omega | assumption) Vr
          replace hy := hy.far V3 (noInt2 _ _ _ _) far.1
          replace hq := hq.far V3 (noInt2 _ _ _ _) far.1
          replace hr := hr.far V3 (noInt2 _ _ _ _) far.1
          replace B0 := far.2 _ _ (by first | omega | (simp; omega)) B0
          replace V3 := V'
          clear oth far
          refine hK.out _ _ ⟨Vq.c0, Vq.c1, Vr.c0, Vr.c1⟩ (fun hHeld => ?_)
          clear hK K
          refine wpAnyH_take (i := 5) (v := ?_) rfl (by kernel_rfl) (by kernel_rfl) (by kernel_rfl) (fun _ _ _ h => h) (Or.inl ⟨by rfl, ?_⟩) hHeld ?_
          rotate_left
          · (intro W hSw; (try dsimp only at hSw); go_simp; all_goals (with_reducible rfl))
          simp only [List.getElem_toArray, List.getElem_cons_zero, List.getElem_cons_succ, Act.put, List.setIfInBounds_toArray, List.set_cons_zero, List.set_cons_succ]
          refine wpAnyH_done (by kernel_rfl) ?_ _
          refine NoPanic.normal ?_
          clear hHeld
          go_wp2_with fail
          refine bodyPost_ret (results_wwt rfl rfl V2 rfl V3) rfl ?_
          refine ⟨_, _, _, _, _, _, _, _, _, _, rfl, hq, hr, Or.inr ⟨rfl, ?_, ?_⟩, B0⟩
          · rw [eq', er']; exact dm_id HD.out
          · rw [er']; exact dm_floor HR.out.2.1 HR.out.2.2 (Or.inr hst)
        ·
          have hst' : t = !s := by cases s <;> cases t <;> simp_all
          subst hst'
          have hst2 : (s == !s) = false := by cases s <;> rfl
          have HF : Hid (∀ P, pw 4096 = P → ((iv sq zq - 1).natAbs : Int) < P ∧ ((iv sr zr + iv (!s) ys).natAbs : Int) < P) := fun P e => by
            obtain ⟨h1, h2⟩ := HXL.out P e
            rw [eq', er']; exact dm_fits h1 h2 HR.out.1 HR.out.2.1 HD.out HR.out.2.2 hz0
          clear HXL hst
          clear c_V0 d_V0 f_V0 g_V0 l_V0 m_V0 c_V1 d_V1 f_V1 g_V1 l_V1 m_V1 c_V2 d_V2 f_V2 g_V2 l_V2 m_V2 c_V3 d_V3 f_V3 g_V3 l_V3 m_V3
          have c_V0 := V0.c0
          have d_V0 := V0.c1
          have f_V0 := V0.frozen 0
          have g_V0 := V0.frozen 1
          have l_V0 := V0.lt
          have m_V0 := Nat.le_of_lt l_V0
          have c_V1 := V1.c0
          have d_V1 := V1.c1
          have f_V1 := V1.frozen 0
          have g_V1 := V1.frozen 1
          have l_V1 := V1.lt
          have m_V1 := Nat.le_of_lt l_V1
          have c_V2 := V2.c0
          have d_V2 := V2.c1
          have f_V2 := V2.frozen 0
          have g_V2 := V2.frozen 1
          have l_V2 := V2.lt
          have m_V2 := Nat.le_of_lt l_V2
          have c_V3 := V3.c0
          have d_V3 := V3.c1
          have f_V3 := V3.frozen 0
          have g_V3 := V3.frozen 1
          have l_V3 := V3.lt
          have m_V3 := Nat.le_of_lt l_V3
          have c_Vl := Vl.cell
          have f_Vl := Vl.frozen 0
          have l_Vl := Vl.lt
          have m_Vl := Nat.le_of_lt l_Vl
          have c_Vq := Vq.c0
          have d_Vq := Vq.c1
          have f_Vq := Vq.frozen 0
          have g_Vq := Vq.frozen 1
          have l_Vq := Vq.lt
          have m_Vq := Nat.le_of_lt l_Vq
          have c_Vr := Vr.c0
          have d_Vr := Vr.c1
          have f_Vr := Vr.frozen 0
          have g_Vr := Vr.frozen 1
          have l_Vr := Vr.lt
          have m_Vr := Nat.le_of_lt l_Vr
          go_wp2_with fail
          refine (isZero_any ar lr kr wc).mono ?_
          rintro e x4 ⟨rfl, hb⟩
          replace V0 := Va.after hb V0
          replace V1 := Va.after hb V1
          replace V2 := Va.after hb V2
          replace V3 := Va.after hb V3
          replace Vl := Va.after hb Vl
          replace Vq := Va.after hb Vq
          replace Vr := Va.after hb Vr
          replace hy := It.after hb hy
          replace hq := It.after hb hq
          replace hr := It.after hb hr
          replace B0 := step B0 hb
          clear hb
          rw [hz1]
          clear c_V0 d_V0 f_V0 g_V0 l_V0 m_V0 c_V1 d_V1 f_V1 g_V1 l_V1 m_V1 c_V2 d_V2 f_V2 g_V2 l_V2 m_V2 c_V3 d_V3 f_V3 g_V3 l_V3 m_V3 c_Vl f_Vl l_Vl m_Vl c_Vq d_Vq f_Vq g_Vq l_Vq m_Vq c_Vr d_Vr f_Vr g_Vr l_Vr m_Vr
          have c_V0 := V0.c0
          have d_V0 := V0.c1
          have f_V0 := V0.frozen 0
          have g_V0 := V0.frozen 1
          have l_V0 := V0.lt
          have m_V0 := Nat.le_of_lt l_V0
          have c_V1 := V1.c0
          have d_V1 := V1.c1
          have f_V1 := V1.frozen 0
          have g_V1 := V1.frozen 1
          have l_V1 := V1.lt
          have m_V1 := Nat.le_of_lt l_V1
          have c_V2 := V2.c0
          have d_V2 := V2.c1
          have f_V2 := V2.frozen 0
          have g_V2 := V2.frozen 1
          have l_V2 := V2.lt
          have m_V2 := Nat.le_of_lt l_V2
          have c_V3 := V3.c0
          have d_V3 := V3.c1
          have f_V3 := V3.frozen 0
          have g_V3 := V3.frozen 1
          have l_V3 := V3.lt
          have m_V3 := Nat.le_of_lt l_V3
          have c_Vl := Vl.cell
          have f_Vl := Vl.frozen 0
          have l_Vl := Vl.lt
          have m_Vl := Nat.le_of_lt l_Vl
          have c_Vq := Vq.c0
          have d_Vq := Vq.c1
          have f_Vq := Vq.frozen 0
          have g_Vq := Vq.frozen 1
          have l_Vq := Vq.lt
          have m_Vq := Nat.le_of_lt l_Vq
          have c_Vr := Vr.c0
          have d_Vr := Vr.c1
          have f_Vr := Vr.frozen 0
          have g_Vr := Vr.frozen 1
          have l_Vr := Vr.lt
          have m_Vr := Nat.le_of_lt l_Vr
          go_wp2_with fail
          clear c_V0 d_V0 f_V0 g_V0 l_V0 m_V0 c_V1 d_V1 f_V1 g_V1 l_V1 m_V1 c_V2 d_V2 f_V2 g_V2 l_V2 m_V2 c_V3 d_V3 f_V3 g_V3 l_V3 m_V3 c_Vl f_Vl l_Vl m_Vl c_Vq d_Vq f_Vq g_Vq l_Vq m_Vq c_Vr d_Vr f_Vr g_Vr l_Vr m_Vr
          clear Vl
          refine wp_region_noPanic ?_
          replace V0 : Va x4.drew _ _ _ := V0
          replace V1 : Va x4.drew _ _ _ := V1
          replace V2 : Va x4.drew _ _ _ := V2
          replace V3 : Va x4.drew _ _ _ := V3
          replace Vq : Va x4.drew _ _ _ := Vq
          replace Vr : Va x4.drew _ _ _ := Vr
          replace hy : It x4.drew _ _ _ _ _ := hy
          replace hq : It x4.drew _ _ _ _ _ := hq
          replace hr : It x4.drew _ _ _ _ _ := hr
          replace B0 := Below.drew B0
          refine wp_region_held_drew (S := (fun W => True)) (by kernel_rfl) trivial (fun hHeld => ?_)
          obtain ⟨x5, hxd⟩ : ∃ xd, xd = x4.drew := ⟨_, rfl⟩
          rw [← hxd] at V0 V1 V2 V3 Vq Vr hy hq hr B0 ⊢
          clear hxd
          refine wpAnyH_ready (rs := [0, 1]) (by kernel_rfl) (by simp) ?_
          refine AllReadyH.cons rfl (fun K hK => ?_) (AllReadyH.cons rfl (fun K hK => ?_) AllReadyH.nil)
          ·
            have c_Vq := Vq.c0
            have d_Vq := Vq.c1
            have f_Vq := Vq.frozen 0
            have g_Vq := Vq.frozen 1
            have l_Vq := Vq.lt
            have m_Vq := Nat.le_of_lt l_Vq
            simp only [List.getElem_toArray, List.getElem_cons_zero]
            go_simp
            clear c_Vq d_Vq f_Vq g_Vq l_Vq m_Vq
            refine hK.out _ _ trivial (fun hHeld => ?_)
            clear hK K
            refine wpAnyH_ready (rs := [1]) (by kernel_rfl) (by simp) ?_
            refine AllReadyH.cons rfl (fun K hK => ?_) AllReadyH.nil
            ·
              simp only [List.getElem_toArray, List.getElem_cons_zero, List.getElem_cons_succ]
              go_simp
              refine (wsmall_any 1 (by omega) (by omega) _).mono ?_
              rintro e x6 ⟨s1, a1, l1, k1, o1, rfl, h1, e1, hb⟩
              replace V0 := Va.after hb V0
              replace V1 := Va.after hb V1
              replace V2 := Va.after hb V2
              replace V3 := Va.after hb V3
              replace Vq := Va.after hb Vq
              replace Vr := Va.after hb Vr
              replace hy := It.after hb hy
              replace hq := It.after hb hq
              replace hr := It.after hb hr
              replace B0 := step B0 hb
              clear hb
              try go_wp2_with fail
              refine hK.out _ _ trivial (fun hHeld => ?_)
              clear hK K
              refine wpAnyH_ready (rs := [2]) (by kernel_rfl) (by simp) ?_
              refine AllReadyH.cons rfl (fun K hK => ?_) AllReadyH.nil
              ·
                simp only [List.getElem_toArray, List.getElem_cons_zero, List.getElem_cons_succ]
                go_simp
                refine (wsub_ok sq s1 aq a1 lq kq l1 k1 zq o1 _ hq h1 (by show _; rw [e1]; exact (HF.out _ rfl).1)).mono ?_
                rintro e x7 ⟨s2, a2, l2, k2, y2, rfl, h2, e2, hb⟩
                replace V0 := Va.after hb V0
                replace V1 := Va.after hb V1
                replace V2 := Va.after hb V2
                replace V3 := Va.after hb V3
                replace Vq := Va.after hb Vq
                replace Vr := Va.after hb Vr
                replace hy := It.after hb hy
                replace hq := It.after hb hq
                replace hr := It.after hb hr
                replace h1 := It.after hb h1
                replace B0 := step B0 hb
                clear hb
                try go_wp2_with fail
                refine hK.out _ _ trivial (fun hHeld => ?_)
                clear hK K
                refine wpAnyH_take (i := 3) (v := ?_) rfl (by kernel_rfl) (by kernel_rfl) (by kernel_rfl) (fun _ _ _ h => h) (Or.inl ⟨by rfl, ?_⟩) hHeld ?_
                rotate_left
                · (intro W hSw; (try dsimp only at hSw); go_simp; all_goals (with_reducible rfl))
                simp only [List.getElem_toArray, List.getElem_cons_zero, List.getElem_cons_succ, Act.put, List.setIfInBounds_toArray, List.set_cons_zero, List.set_cons_succ]
                refine wpAnyH_take (i := 4) (v := ?_) rfl (by kernel_rfl) (by kernel_rfl) (by kernel_rfl) (fun _ _ _ h => h) (Or.inl ⟨by rfl, ?_⟩) hHeld ?_
                rotate_left
                · (intro W hSw; (try dsimp only at hSw); go_simp; all_goals (with_reducible rfl))
                simp only [List.getElem_toArray, List.getElem_cons_zero, List.getElem_cons_succ, Act.put, List.setIfInBounds_toArray, List.set_cons_zero, List.set_cons_succ]
                refine wpAnyH_take (i := 5) (v := ?_) rfl (by kernel_rfl) (by kernel_rfl) (by kernel_rfl) (fun _ _ _ h => h) (Or.inl ⟨by rfl, ?_⟩) hHeld ?_
                rotate_left
                · (intro W hSw; (try dsimp only at hSw); go_simp; all_goals (with_reducible rfl))
                simp only [List.getElem_toArray, List.getElem_cons_zero, List.getElem_cons_succ, Act.put, List.setIfInBounds_toArray, List.set_cons_zero, List.set_cons_succ]
                have c_Vq := Vq.c0
                have d_Vq := Vq.c1
                have f_Vq := Vq.frozen 0
                have g_Vq := Vq.frozen 1
                have l_Vq := Vq.lt
                have m_Vq := Nat.le_of_lt l_Vq
                refine wpAnyH_ready (rs := [6]) (by kernel_rfl) (by simp) ?_
                refine AllReadyH.cons rfl (fun K hK => ?_) AllReadyH.nil
                simp only [List.getElem_toArray, List.getElem_cons_zero, List.getElem_cons_succ]
                go_simp
                clear c_Vq d_Vq f_Vq g_Vq l_Vq m_Vq
                refine st2 Vq (.bool s2) (.slice a2 l2 k2) (Q := fun W => K _ W) ?_
                intro x8 V' oth far
                replace V0 := oth _ _ _ (by first | omega | assumption) V0
                replace V1 := oth _ _ _ (by first | omega | assumption) V1
                replace V2 := oth _ _ _ (by first | omega | assumption) V2
                replace V3 := oth _ _ _ (by first | omega | assumption) V3
                replace Vr := oth _ _ _ (by first | omega | assumption) Vr
                replace hy := hy.far Vq (noInt2 _ _ _ _) far.1
                replace hq := hq.far Vq (noInt2 _ _ _ _) far.1
                replace hr := hr.far Vq (noInt2 _ _ _ _) far.1
                replace h1 := h1.far Vq (noInt2 _ _ _ _) far.1
                replace h2 := h2.far Vq (noInt2 _ _ _ _) far.1
                replace B0 := far.2 _ _ (by first | omega | (simp; omega)) B0
                replace Vq := V'
                clear oth far
                refine hK.out _ _ trivial (fun hHeld => ?_)
                clear hK K
                refine wpAnyH_done (by kernel_rfl) ?_ _
                refine NoPanic.normal ?_
                clear hHeld
                have c_V0 := V0.c0
                have d_V0 := V0.c1
                have f_V0 := V0.frozen 0
                have g_V0 := V0.frozen 1
                have l_V0 := V0.lt
                have m_V0 := Nat.le_of_lt l_V0
                have c_V1 := V1.c0
                have d_V1 := V1.c1
                have f_V1 := V1.frozen 0
                have g_V1 := V1.frozen 1
                have l_V1 := V1.lt
                have m_V1 := Nat.le_of_lt l_V1
                have c_V2 := V2.c0
                have d_V2 := V2.c1
                have f_V2 := V2.frozen 0
                have g_V2 := V2.frozen 1
                have l_V2 := V2.lt
                have m_V2 := Nat.le_of_lt l_V2
                have c_V3 := V3.c0
                have d_V3 := V3.c1
                have f_V3 := V3.frozen 0
                have g_V3 := V3.frozen 1
                have l_V3 := V3.lt
                have m_V3 := Nat.le_of_lt l_V3
                have c_Vq := Vq.c0
                have d_Vq := Vq.c1
                have f_Vq := Vq.frozen 0
                have g_Vq := Vq.frozen 1
                have l_Vq := Vq.lt
                have m_Vq := Nat.le_of_lt l_Vq
                have c_Vr := Vr.c0
                have d_Vr := Vr.c1
                have f_Vr := Vr.frozen 0
                have g_Vr := Vr.frozen 1
                have l_Vr := Vr.lt
                have m_Vr := Nat.le_of_lt l_Vr
                go_wp2_with fail
                refine (wadd_ok sr (!s) ar b lr kr lb cb zr ys x8 hr hy (by show _; exact (HF.out _ rfl).2)).mono ?_
                rintro e x9 ⟨s3, a3, l3, k3, z3', rfl, h3, e3, hb⟩
                replace V0 := Va.after hb V0
                replace V1 := Va.after hb V1
                replace V2 := Va.after hb V2
                replace V3 := Va.after hb V3
                replace Vq := Va.after hb Vq
                replace Vr := Va.after hb Vr
                replace hy := It.after hb hy
                replace hq := It.after hb hq
                replace hr := It.after hb hr
                replace h1 := It.after hb h1
                replace h2 := It.after hb h2
                replace B0 := step B0 hb
                clear hb
                clear c_V0 d_V0 f_V0 g_V0 l_V0 m_V0 c_V1 d_V1 f_V1 g_V1 l_V1 m_V1 c_V2 d_V2 f_V2 g_V2 l_V2 m_V2 c_V3 d_V3 f_V3 g_V3 l_V3 m_V3 c_Vq d_Vq f_Vq g_Vq l_Vq m_Vq c_Vr d_Vr f_Vr g_Vr l_Vr m_Vr
                have c_V0 := V0.c0
                have d_V0 := V0.c1
                have f_V0 := V0.frozen 0
                have g_V0 := V0.frozen 1
                have l_V0 := V0.lt
                have m_V0 := Nat.le_of_lt l_V0
                have c_V1 := V1.c0
                have d_V1 := V1.c1
                have f_V1 := V1.frozen 0
                have g_V1 := V1.frozen 1
                have l_V1 := V1.lt
                have m_V1 := Nat.le_of_lt l_V1
                have c_V2 := V2.c0
                have d_V2 := V2.c1
                have f_V2 := V2.frozen 0
                have g_V2 := V2.frozen 1
                have l_V2 := V2.lt
                have m_V2 := Nat.le_of_lt l_V2
                have c_V3 := V3.c0
                have d_V3 := V3.c1
                have f_V3 := V3.frozen 0
                have g_V3 := V3.frozen 1
                have l_V3 := V3.lt
                have m_V3 := Nat.le_of_lt l_V3
                have c_Vq := Vq.c0
                have d_Vq := Vq.c1
                have f_Vq := Vq.frozen 0
                have g_Vq := Vq.frozen 1
                have l_Vq := Vq.lt
                have m_Vq := Nat.le_of_lt l_Vq
                have c_Vr := Vr.c0
                have d_Vr := Vr.c1
                have f_Vr := Vr.frozen 0
                have g_Vr := Vr.frozen 1
                have l_Vr := Vr.lt
                have m_Vr := Nat.le_of_lt l_Vr
                go_wp2_with fail
                clear c_V0 d_V0 f_V0 g_V0 l_V0 m_V0 c_V1 d_V1 f_V1 g_V1 l_V1 m_V1 c_V2 d_V2 f_V2 g_V2 l_V2 m_V2 c_V3 d_V3 f_V3 g_V3 l_V3 m_V3 c_Vq d_Vq f_Vq g_Vq l_Vq m_Vq c_Vr d_Vr f_Vr g_Vr l_Vr m_Vr
                refine st2 Vr (.bool s3) (.slice a3 l3 k3) (Q := fun W => Code.wp Try.prog _ _ _ W) ?_
                intro x10 V' oth far
                replace V0 := oth _ _ _ (by first | omega | assumption) V0
                replace V1 := oth _ _ _ (by first | omega | assumption) V1
                replace V2 := oth _ _ _ (by first | omega | assumption) V2
                replace V3 := oth _ _ _ (by first | omega | assumption) V3
                replace Vq := oth _ _ _ (by first | omega | assumption) Vq
                replace hy := hy.far Vr (noInt2 _ _ _ _) far.1
                replace hq := hq.far Vr (noInt2 _ _ _ _) far.1
                replace hr := hr.far Vr (noInt2 _ _ _ _) far.1
                replace h1 := h1.far Vr (noInt2 _ _ _ _) far.1
                replace h2 := h2.far Vr (noInt2 _ _ _ _) far.1
                replace h3 := h3.far Vr (noInt2 _ _ _ _) far.1
                replace B0 := far.2 _ _ (by first | omega | (simp; omega)) B0
                replace Vr := V'
                clear oth far
                refine wp_region_noPanic ?_
                replace V0 : Va x10.drew _ _ _ := V0
                replace V1 : Va x10.drew _ _ _ := V1
                replace V2 : Va x10.drew _ _ _ := V2
                replace V3 : Va x10.drew _ _ _ := V3
                replace Vq : Va x10.drew _ _ _ := Vq
                replace Vr : Va x10.drew _ _ _ := Vr
                replace hy : It x10.drew _ _ _ _ _ := hy
                replace hq : It x10.drew _ _ _ _ _ := hq
                replace hr : It x10.drew _ _ _ _ _ := hr
                replace h1 : It x10.drew _ _ _ _ _ := h1
                replace h2 : It x10.drew _ _ _ _ _ := h2
                replace h3 : It x10.drew _ _ _ _ _ := h3
                replace B0 := Below.drew B0
                refine wp_region_held_drew (S := (fun W => W.cell? ⟨b10, 0, none⟩ = some (.bool s2) ∧ W.cell? ⟨b10, 1, none⟩ = some (.slice a2 l2 k2) ∧ W.cell? ⟨b11, 0, none⟩ = some (.bool s3) ∧ W.cell? ⟨b11, 1, none⟩ = some (.slice a3 l3 k3))) (by kernel_rfl) ⟨Vq.c0, Vq.c1, Vr.c0, Vr.c1⟩ (fun hHeld => ?_)
                obtain ⟨x11, hxd⟩ : ∃ xd, xd = x10.drew := ⟨_, rfl⟩
                rw [← hxd] at V0 V1 V2 V3 Vq Vr hy hq hr h1 h2 h3 B0 hHeld ⊢
                clear hxd
                refine wpAnyH_take (i := 0) (v := ?_) rfl (by kernel_rfl) (by kernel_rfl) (by kernel_rfl) (fun _ _ _ h => h) (Or.inl ⟨by rfl, ?_⟩) hHeld ?_
                rotate_left
                · (intro W hSw; (try dsimp only at hSw); go_simp; all_goals (with_reducible rfl))
                simp only [List.getElem_toArray, List.getElem_cons_zero, Act.put, List.setIfInBounds_toArray, List.set_cons_zero, List.set_cons_succ]
                refine wpAnyH_take (i := 1) (v := ?_) rfl (by kernel_rfl) (by kernel_rfl) (by kernel_rfl) (fun _ _ _ h => h) (Or.inl ⟨by rfl, ?_⟩) hHeld ?_
                rotate_left
                · (intro W hSw; (try dsimp only at hSw); go_simp; all_goals (with_reducible rfl))
                simp only [List.getElem_toArray, List.getElem_cons_zero, List.getElem_cons_succ, Act.put, List.setIfInBounds_toArray, List.set_cons_zero, List.set_cons_succ]
                have c_V2 := V2.c0
                have d_V2 := V2.c1
                have f_V2 := V2.frozen 0
                have g_V2 := V2.frozen 1
                have l_V2 := V2.lt
                have m_V2 := Nat.le_of_lt l_V2
                refine wpAnyH_ready (rs := [2]) (by kernel_rfl) (by simp) ?_
                refine AllReadyH.cons rfl (fun K hK => ?_) AllReadyH.nil
                simp only [List.getElem_toArray, List.getElem_cons_zero, List.getElem_cons_succ]
                go_simp
                clear c_V2 d_V2 f_V2 g_V2 l_V2 m_V2
                refine st2 V2 (.bool s2) (.slice a2 l2 k2) (Q := fun W => K _ W) ?_
                intro x12 V' oth far
                replace V0 := oth _ _ _ (by first | omega | assumption) V0
                replace V1 := oth _ _ _ (by first | omega | assumption) V1
                replace V3 := oth _ _ _ (by first | omega | assumption) V3
                replace Vq := oth _ _ _ (by first | omega | assumption) Vq
                replace Vr := oth _ _ _ (by first | omega | assumption) Vr
                replace hy := hy.far V2 (noInt2 _ _ _ _) far.1
                replace hq := hq.far V2 (noInt2 _ _ _ _) far.1
                replace hr := hr.far V2 (noInt2 _ _ _ _) far.1
                replace h1 := h1.far V2 (noInt2 _ _ _ _) far.1
                replace h2 := h2.far V2 (noInt2 _ _ _ _) far.1
                replace h3 := h3.far V2 (noInt2 _ _ _ _) far.1
                replace B0 := far.2 _ _ (by first | omega | (simp; omega)) B0
                replace V2 := V'
                clear oth far
                refine hK.out _ _ ⟨Vq.c0, Vq.c1, Vr.c0, Vr.c1⟩ (fun hHeld => ?_)
                clear hK K
                have c_V3 := V3.c0
                have d_V3 := V3.c1
                have f_V3 := V3.frozen 0
                have g_V3 := V3.frozen 1
                have l_V3 := V3.lt
                have m_V3 := Nat.le_of_lt l_V3
                refine wpAnyH_ready (rs := [3]) (by kernel_rfl) (by simp) ?_
                refine AllReadyH.cons rfl (fun K hK => ?_) AllReadyH.nil
                simp only [List.getElem_toArray, List.getElem_cons_zero, List.getElem_cons_succ]
                go_simp
                clear c_V3 d_V3 f_V3 g_V3 l_V3 m_V3
                refine st2 V3 (.bool s3) (.slice a3 l3 k3) (Q := fun W => K _ W) ?_
                intro x13 V' oth far
                replace V0 := oth _ _ _ (by first | omega | assumption) V0
                replace V1 := oth _ _ _ (by first | omega | assumption) V1
                replace V2 := oth _ _ _ (by first | omega | assumption) V2
                replace Vq := oth _ _ _ (by first | omega | assumption) Vq
                replace Vr := oth _ _ _ (by first | omega | assumption) Vr
                replace hy := hy.far V3 (noInt2 _ _ _ _) far.1
                replace hq := hq.far V3 (noInt2 _ _ _ _) far.1
                replace hr := hr.far V3 (noInt2 _ _ _ _) far.1
                replace h1 := h1.far V3 (noInt2 _ _ _ _) far.1
                replace h2 := h2.far V3 (noInt2 _ _ _ _) far.1
                replace h3 := h3.far V3 (noInt2 _ _ _ _) far.1
                replace B0 := far.2 _ _ (by first | omega | (simp; omega)) B0
                replace V3 := V'
                clear oth far
                refine hK.out _ _ ⟨Vq.c0, Vq.c1, Vr.c0, Vr.c1⟩ (fun hHeld => ?_)
                clear hK K
                refine wpAnyH_take (i := 4) (v := ?_) rfl (by kernel_rfl) (by kernel_rfl) (by kernel_rfl) (fun _ _ _ h => h) (Or.inl ⟨by rfl, ?_⟩) hHeld ?_
                rotate_left
                · (intro W hSw; (try dsimp only at hSw); go_simp; all_goals (with_reducible rfl))
                simp only [List.getElem_toArray, List.getElem_cons_zero, List.getElem_cons_succ, Act.put, List.setIfInBounds_toArray, List.set_cons_zero, List.set_cons_succ]
                refine wpAnyH_done (by kernel_rfl) ?_ _
                refine NoPanic.normal ?_
                clear hHeld
                go_wp2_with fail
                refine bodyPost_ret (results_wwt rfl rfl V2 rfl V3) rfl ?_
                refine ⟨_, _, _, _, _, _, _, _, _, _, rfl, h2, h3, Or.inr ⟨rfl, ?_, ?_⟩, B0⟩
                · rw [e2, e3, e1, eq', er', dm_id (t := !s) HD.out]; grind
                · rw [e3, er']; exact dm_floor2 HR.out.2.1 HR.out.2.2 hz0
          ·
            simp only [List.getElem_toArray, List.getElem_cons_zero, List.getElem_cons_succ]
            go_simp
            refine (wsmall_any 1 (by omega) (by omega) _).mono ?_
            rintro e x6 ⟨s1, a1, l1, k1, o1, rfl, h1, e1, hb⟩
            replace V0 := Va.after hb V0
            replace V1 := Va.after hb V1
            replace V2 := Va.after hb V2
            replace V3 := Va.after hb V3
            replace Vq := Va.after hb Vq
            replace Vr := Va.after hb Vr
            replace hy := It.after hb hy
            replace hq := It.after hb hq
            replace hr := It.after hb hr
            replace B0 := step B0 hb
            clear hb
            try go_wp2_with fail
            refine hK.out _ _ trivial (fun hHeld => ?_)
            clear hK K
            refine wpAnyH_ready (rs := [0]) (by kernel_rfl) (by simp) ?_
            refine AllReadyH.cons rfl (fun K hK => ?_) AllReadyH.nil
            ·
              have c_Vq := Vq.c0
              have d_Vq := Vq.c1
              have f_Vq := Vq.frozen 0
              have g_Vq := Vq.frozen 1
              have l_Vq := Vq.lt
              have m_Vq := Nat.le_of_lt l_Vq
              simp only [List.getElem_toArray, List.getElem_cons_zero]
              go_simp
              clear c_Vq d_Vq f_Vq g_Vq l_Vq m_Vq
              refine hK.out _ _ trivial (fun hHeld => ?_)
              clear hK K
              refine wpAnyH_ready (rs := [2]) (by kernel_rfl) (by simp) ?_
              refine AllReadyH.cons rfl (fun K hK => ?_) AllReadyH.nil
              ·
                simp only [List.getElem_toArray, List.getElem_cons_zero, List.getElem_cons_succ]
                go_simp
                refine (wsub_ok sq s1 aq a1 lq kq l1 k1 zq o1 _ hq h1 (by show _; rw [e1]; exact (HF.out _ rfl).1)).mono ?_
                rintro e x7 ⟨s2, a2, l2, k2, y2, rfl, h2, e2, hb⟩
                replace V0 := Va.after hb V0
                replace V1 := Va.after hb V1
                replace V2 := Va.after hb V2
                replace V3 := Va.after hb V3
                replace Vq := Va.after hb Vq
                replace Vr := Va.after hb Vr
                replace hy := It.after hb hy
                replace hq := It.after hb hq
                replace hr := It.after hb hr
                replace h1 := It.after hb h1
                replace B0 := step B0 hb
                clear hb
                try go_wp2_with fail
                refine hK.out _ _ trivial (fun hHeld => ?_)
                clear hK K
                refine wpAnyH_take (i := 3) (v := ?_) rfl (by kernel_rfl) (by kernel_rfl) (by kernel_rfl) (fun _ _ _ h => h) (Or.inl ⟨by rfl, ?_⟩) hHeld ?_
                rotate_left
                · (intro W hSw; (try dsimp only at hSw); go_simp; all_goals (with_reducible rfl))
                simp only [List.getElem_toArray, List.getElem_cons_zero, List.getElem_cons_succ, Act.put, List.setIfInBounds_toArray, List.set_cons_zero, List.set_cons_succ]
                refine wpAnyH_take (i := 4) (v := ?_) rfl (by kernel_rfl) (by kernel_rfl) (by kernel_rfl) (fun _ _ _ h => h) (Or.inl ⟨by rfl, ?_⟩) hHeld ?_
                rotate_left
                · (intro W hSw; (try dsimp only at hSw); go_simp; all_goals (with_reducible rfl))
                simp only [List.getElem_toArray, List.getElem_cons_zero, List.getElem_cons_succ, Act.put, List.setIfInBounds_toArray, List.set_cons_zero, List.set_cons_succ]
                refine wpAnyH_take (i := 5) (v := ?_) rfl (by kernel_rfl) (by kernel_rfl) (by kernel_rfl) (fun _ _ _ h => h) (Or.inl ⟨by rfl, ?_⟩) hHeld ?_
                rotate_left
                · (intro W hSw; (try dsimp only at hSw); go_simp; all_goals (with_reducible rfl))
                simp only [List.getElem_toArray, List.getElem_cons_zero, List.getElem_cons_succ, Act.put, List.setIfInBounds_toArray, List.set_cons_zero, List.set_cons_succ]
                have c_Vq := Vq.c0
                have d_Vq := Vq.c1
                have f_Vq := Vq.frozen 0
                have g_Vq := Vq.frozen 1
                have l_Vq := Vq.lt
                have m_Vq := Nat.le_of_lt l_Vq
                refine wpAnyH_ready (rs := [6]) (by kernel_rfl) (by simp) ?_
                refine AllReadyH.cons rfl (fun K hK => ?_) AllReadyH.nil
                simp only [List.getElem_toArray, List.getElem_cons_zero, List.getElem_cons_succ]
                go_simp
                clear c_Vq d_Vq f_Vq g_Vq l_Vq m_Vq
                refine st2 Vq (.bool s2) (.slice a2 l2 k2) (Q := fun W => K _ W) ?_
                intro x8 V' oth far
                replace V0 := oth _ _ _ (by first | omega | assumption) V0
                replace V1 := oth _ _ _ (by first | omega | assumption) V1
                replace V2 := oth _ _ _ (by first | omega | assumption) V2
                replace V3 := oth _ _ _ (by first | omega | assumption) V3
                replace Vr := oth _ _ _ (by first | omega | assumption) Vr
                replace hy := hy.far Vq (noInt2 _ _ _ _) far.1
                replace hq := hq.far Vq (noInt2 _ _ _ _) far.1
                replace hr := hr.far Vq (noInt2 _ _ _ _) far.1
                replace h1 := h1.far Vq (noInt2 _ _ _ _) far.1
                replace h2 := h2.far Vq (noInt2 _ _ _ _) far.1
                replace B0 := far.2 _ _ (by first | omega | (simp; omega)) B0
                replace Vq := V'
                clear oth far
                refine hK.out _ _ trivial (fun hHeld => ?_)
                clear hK K
                refine wpAnyH_done (by kernel_rfl) ?_ _
                refine NoPanic.normal ?_
                clear hHeld
                have c_V0 := V0.c0
                have d_V0 := V0.c1
                have f_V0 := V0.frozen 0
                have g_V0 := V0.frozen 1
                have l_V0 := V0.lt
                have m_V0 := Nat.le_of_lt l_V0
                have c_V1 := V1.c0
                have d_V1 := V1.c1
                have f_V1 := V1.frozen 0
                have g_V1 := V1.frozen 1
                have l_V1 := V1.lt
                have m_V1 := Nat.le_of_lt l_V1
                have c_V2 := V2.c0
                have d_V2 := V2.c1
                have f_V2 := V2.frozen 0
                have g_V2 := V2.frozen 1
                have l_V2 := V2.lt
                have m_V2 := Nat.le_of_lt l_V2
                have c_V3 := V3.c0
                have d_V3 := V3.c1
                have f_V3 := V3.frozen 0
                have g_V3 := V3.frozen 1
                have l_V3 := V3.lt
                have m_V3 := Nat.le_of_lt l_V3
                have c_Vq := Vq.c0
                have d_Vq := Vq.c1
                have f_Vq := Vq.frozen 0
                have g_Vq := Vq.frozen 1
                have l_Vq := Vq.lt
                have m_Vq := Nat.le_of_lt l_Vq
                have c_Vr := Vr.c0
                have d_Vr := Vr.c1
                have f_Vr := Vr.frozen 0
                have g_Vr := Vr.frozen 1
                have l_Vr := Vr.lt
                have m_Vr := Nat.le_of_lt l_Vr
                go_wp2_with fail
                refine (wadd_ok sr (!s) ar b lr kr lb cb zr ys x8 hr hy (by show _; exact (HF.out _ rfl).2)).mono ?_
                rintro e x9 ⟨s3, a3, l3, k3, z3', rfl, h3, e3, hb⟩
                replace V0 := Va.after hb V0
                replace V1 := Va.after hb V1
                replace V2 := Va.after hb V2
                replace V3 := Va.after hb V3
                replace Vq := Va.after hb Vq
                replace Vr := Va.after hb Vr
                replace hy := It.after hb hy
                replace hq := It.after hb hq
                replace hr := It.after hb hr
                replace h1 := It.after hb h1
                replace h2 := It.after hb h2
                replace B0 := step B0 hb
                clear hb
                clear c_V0 d_V0 f_V0 g_V0 l_V0 m_V0 c_V1 d_V1 f_V1 g_V1 l_V1 m_V1 c_V2 d_V2 f_V2 g_V2 l_V2 m_V2 c_V3 d_V3 f_V3 g_V3 l_V3 m_V3 c_Vq d_Vq f_Vq g_Vq l_Vq m_Vq c_Vr d_Vr f_Vr g_Vr l_Vr m_Vr
                have c_V0 := V0.c0
                have d_V0 := V0.c1
                have f_V0 := V0.frozen 0
                have g_V0 := V0.frozen 1
                have l_V0 := V0.lt
                have m_V0 := Nat.le_of_lt l_V0
                have c_V1 := V1.c0
                have d_V1 := V1.c1
                have f_V1 := V1.frozen 0
                have g_V1 := V1.frozen 1
                have l_V1 := V1.lt
                have m_V1 := Nat.le_of_lt l_V1
                have c_V2 := V2.c0
                have d_V2 := V2.c1
                have f_V2 := V2.frozen 0
                have g_V2 := V2.frozen 1
                have l_V2 := V2.lt
                have m_V2 := Nat.le_of_lt l_V2
                have c_V3 := V3.c0
                have d_V3 := V3.c1
                have f_V3 := V3.frozen 0
                have g_V3 := V3.frozen 1
                have l_V3 := V3.lt
                have m_V3 := Nat.le_of_lt l_V3
                have c_Vq := Vq.c0
                have d_Vq := Vq.c1
                have f_Vq := Vq.frozen 0
                have g_Vq := Vq.frozen 1
                have l_Vq := Vq.lt
                have m_Vq := Nat.le_of_lt l_Vq
                have c_Vr := Vr.c0
                have d_Vr := Vr.c1
                have f_Vr := Vr.frozen 0
                have g_Vr := Vr.frozen 1
                have l_Vr := Vr.lt
                have m_Vr := Nat.le_of_lt l_Vr
                go_wp2_with fail
                clear c_V0 d_V0 f_V0 g_V0 l_V0 m_V0 c_V1 d_V1 f_V1 g_V1 l_V1 m_V1 c_V2 d_V2 f_V2 g_V2 l_V2 m_V2 c_V3 d_V3 f_V3 g_V3 l_V3 m_V3 c_Vq d_Vq f_Vq g_Vq l_Vq m_Vq c_Vr d_Vr f_Vr g_Vr l_Vr m_Vr
                refine st2 Vr (.bool s3) (.slice a3 l3 k3) (Q := fun W => Code.wp Try.prog _ _ _ W) ?_
                intro x10 V' oth far
                replace V0 := oth _ _ _ (by first | omega | assumption) V0
                replace V1 := oth _ _ _ (by first | omega | assumption) V1
                replace V2 := oth _ _ _ (by first | omega | assumption) V2
                replace V3 := oth _ _ _ (by first | omega | assumption) V3
                replace Vq := oth _ _ _ (by first | omega | assumption) Vq
                replace hy := hy.far Vr (noInt2 _ _ _ _) far.1
                replace hq := hq.far Vr (noInt2 _ _ _ _) far.1
                replace hr := hr.far Vr (noInt2 _ _ _ _) far.1
                replace h1 := h1.far Vr (noInt2 _ _ _ _) far.1
                replace h2 := h2.far Vr (noInt2 _ _ _ _) far.1
                replace h3 := h3.far Vr (noInt2 _ _ _ _) far.1
                replace B0 := far.2 _ _ (by first | omega | (simp; omega)) B0
                replace Vr := V'
                clear oth far
                refine wp_region_noPanic ?_
                replace V0 : Va x10.drew _ _ _ := V0
                replace V1 : Va x10.drew _ _ _ := V1
                replace V2 : Va x10.drew _ _ _ := V2
                replace V3 : Va x10.drew _ _ _ := V3
                replace Vq : Va x10.drew _ _ _ := Vq
                replace Vr : Va x10.drew _ _ _ := Vr
                replace hy : It x10.drew _ _ _ _ _ := hy
                replace hq : It x10.drew _ _ _ _ _ := hq
                replace hr : It x10.drew _ _ _ _ _ := hr
                replace h1 : It x10.drew _ _ _ _ _ := h1
                replace h2 : It x10.drew _ _ _ _ _ := h2
                replace h3 : It x10.drew _ _ _ _ _ := h3
                replace B0 := Below.drew B0
                refine wp_region_held_drew (S := (fun W => W.cell? ⟨b10, 0, none⟩ = some (.bool s2) ∧ W.cell? ⟨b10, 1, none⟩ = some (.slice a2 l2 k2) ∧ W.cell? ⟨b11, 0, none⟩ = some (.bool s3) ∧ W.cell? ⟨b11, 1, none⟩ = some (.slice a3 l3 k3))) (by kernel_rfl) ⟨Vq.c0, Vq.c1, Vr.c0, Vr.c1⟩ (fun hHeld => ?_)
                obtain ⟨x11, hxd⟩ : ∃ xd, xd = x10.drew := ⟨_, rfl⟩
                rw [← hxd] at V0 V1 V2 V3 Vq Vr hy hq hr h1 h2 h3 B0 hHeld ⊢
                clear hxd
                refine wpAnyH_take (i := 0) (v := ?_) rfl (by kernel_rfl) (by kernel_rfl) (by kernel_rfl) (fun _ _ _ h => h) (Or.inl ⟨by rfl, ?_⟩) hHeld ?_
                rotate_left
                · (intro W hSw; (try dsimp only at hSw); go_simp; all_goals (with_reducible rfl))
                simp only [List.getElem_toArray, List.getElem_cons_zero, Act.put, List.setIfInBounds_toArray, List.set_cons_zero, List.set_cons_succ]
                refine wpAnyH_take (i := 1) (v := ?_) rfl (by kernel_rfl) (by kernel_rfl) (by kernel_rfl) (fun _ _ _ h => h) (Or.inl ⟨by rfl, ?_⟩) hHeld ?_
                rotate_left
                · (intro W hSw; (try dsimp only at hSw); go_simp; all_goals (with_reducible rfl))
                simp only [List.getElem_toArray, List.getElem_cons_zero, List.getElem_cons_succ, Act.put, List.setIfInBounds_toArray, List.set_cons_zero, List.set_cons_succ]
                have c_V2 := V2.c0
                have d_V2 := V2.c1
                have f_V2 := V2.frozen 0
                have g_V2 := V2.frozen 1
                have l_V2 := V2.lt
                have m_V2 := Nat.le_of_lt l_V2
                refine wpAnyH_ready (rs := [2]) (by kernel_rfl) (by simp) ?_
                refine AllReadyH.cons rfl (fun K hK => ?_) AllReadyH.nil
                simp only [List.getElem_toArray, List.getElem_cons_zero, List.getElem_cons_succ]
                go_simp
                clear c_V2 d_V2 f_V2 g_V2 l_V2 m_V2
                refine st2 V2 (.bool s2) (.slice a2 l2 k2) (Q := fun W => K _ W) ?_
                intro x12 V' oth far
                replace V0 := oth _ _ _ (by first | omega | assumption) V0
                replace V1 := oth _ _ _ (by first | omega | assumption) V1
                replace V3 := oth _ _ _ (by first | omega | assumption) V3
                replace Vq := oth _ _ _ (by first | omega | assumption) Vq
                replace Vr := oth _ _ _ (by first | omega | assumption) Vr
                replace hy := hy.far V2 (noInt2 _ _ _ _) far.1
                replace hq := hq.far V2 (noInt2 _ _ _ _) far.1
                replace hr := hr.far V2 (noInt2 _ _ _ _) far.1
                replace h1 := h1.far V2 (noInt2 _ _ _ _) far.1
                replace h2 := h2.far V2 (noInt2 _ _ _ _) far.1
                replace h3 := h3.far V2 (noInt2 _ _ _ _) far.1
                replace B0 := far.2 _ _ (by first | omega | (simp; omega)) B0
                replace V2 := V'
                clear oth far
                refine hK.out _ _ ⟨Vq.c0, Vq.c1, Vr.c0, Vr.c1⟩ (fun hHeld => ?_)
                clear hK K
                have c_V3 := V3.c0
                have d_V3 := V3.c1
                have f_V3 := V3.frozen 0
                have g_V3 := V3.frozen 1
                have l_V3 := V3.lt
                have m_V3 := Nat.le_of_lt l_V3
                refine wpAnyH_ready (rs := [3]) (by kernel_rfl) (by simp) ?_
                refine AllReadyH.cons rfl (fun K hK => ?_) AllReadyH.nil
                simp only [List.getElem_toArray, List.getElem_cons_zero, List.getElem_cons_succ]
                go_simp
                clear c_V3 d_V3 f_V3 g_V3 l_V3 m_V3
                refine st2 V3 (.bool s3) (.slice a3 l3 k3) (Q := fun W => K _ W) ?_
                intro x13 V' oth far
                replace V0 := oth _ _ _ (by first | omega | assumption) V0
                replace V1 := oth _ _ _ (by first | omega | assumption) V1
                replace V2 := oth _ _ _ (by first | omega | assumption) V2
                replace Vq := oth _ _ _ (by first | omega | assumption) Vq
                replace Vr := oth _ _ _ (by first | omega | assumption) Vr
                replace hy := hy.far V3 (noInt2 _ _ _ _) far.1
                replace hq := hq.far V3 (noInt2 _ _ _ _) far.1
                replace hr := hr.far V3 (noInt2 _ _ _ _) far.1
                replace h1 := h1.far V3 (noInt2 _ _ _ _) far.1
                replace h2 := h2.far V3 (noInt2 _ _ _ _) far.1
                replace h3 := h3.far V3 (noInt2 _ _ _ _) far.1
                replace B0 := far.2 _ _ (by first | omega | (simp; omega)) B0
                replace V3 := V'
                clear oth far
                refine hK.out _ _ ⟨Vq.c0, Vq.c1, Vr.c0, Vr.c1⟩ (fun hHeld => ?_)
                clear hK K
                refine wpAnyH_take (i := 4) (v := ?_) rfl (by kernel_rfl) (by kernel_rfl) (by kernel_rfl) (fun _ _ _ h => h) (Or.inl ⟨by rfl, ?_⟩) hHeld ?_
                rotate_left
                · (intro W hSw; (try dsimp only at hSw); go_simp; all_goals (with_reducible rfl))
                simp only [List.getElem_toArray, List.getElem_cons_zero, List.getElem_cons_succ, Act.put, List.setIfInBounds_toArray, List.set_cons_zero, List.set_cons_succ]
                refine wpAnyH_done (by kernel_rfl) ?_ _
                refine NoPanic.normal ?_
                clear hHeld
                go_wp2_with fail
                refine bodyPost_ret (results_wwt rfl rfl V2 rfl V3) rfl ?_
                refine ⟨_, _, _, _, _, _, _, _, _, _, rfl, h2, h3, Or.inr ⟨rfl, ?_, ?_⟩, B0⟩
                · rw [e2, e3, e1, eq', er', dm_id (t := !s) HD.out]; grind
                · rw [e3, er']; exact dm_floor2 HR.out.2.1 HR.out.2.2 hz0

theorem wdiv_ok (s t : Bool) (a b : Option Addr) (la ca lb cb : Nat) (xs ys : List Int) (w : World) (hx : It w s a la ca xs) (hy : It w t b lb cb ys) (h0 : iv t ys ≠ 0) :
    Calls Try.prog 9 #[.agg #[.bool s, .slice a la ca], .agg #[.bool t, .slice b lb cb]] w fun e w' => ∃ sq aq lq kq zq sr ar lr kr zr, e = .returned (.tuple #[.agg #[.bool sq, .slice aq lq kq], .agg #[.bool sr, .slice ar lr kr], .int .i64 0]) ∧ It w' sq aq lq kq zq ∧ It w' sr ar lr kr zr ∧
      iv s xs = iv sq zq * iv t ys + iv sr zr ∧ ((0 ≤ iv sr zr ∧ iv sr zr < iv t ys) ∨ (iv t ys < iv sr zr ∧ iv sr zr ≤ 0)) ∧ Below w.heap.size w w' := by
  have hn : num ys ≠ 0 := by
    intro e
    apply h0
    cases t
    · rw [iv_f]; exact e
    · rw [iv_t, e]; rfl
  refine (wdiv_core 0 (fun aq lq kq zq ar lr kr zr => num xs = num zq * num ys + num zr ∧ num zr < num ys) s t a b la ca lb cb xs ys w hx hy ?_ (Or.inr ⟨rfl, fun aq lq kq zq ar lr kr zr h => h⟩)).mono ?_
  · intro W h1 h2
    refine (ndiv_ok a b la ca lb cb xs ys W h1 h2 hn).mono ?_
    rintro e w' ⟨aq, lq, kq, ar, lr, kr, zq, zr, rfl, hq, hr, d1, d2, hb⟩
    exact ⟨aq, lq, kq, zq, ar, lr, kr, zr, rfl, hq, hr, ⟨d1, d2⟩, hb⟩
  · rintro e w' ⟨sq, aq, lq, kq, zq, sr, ar, lr, kr, zr, rfl, hq, hr, ⟨h, -⟩ | ⟨-, h1, h2⟩, hb⟩
    · exact absurd h (by decide)
    · exact ⟨sq, aq, lq, kq, zq, sr, ar, lr, kr, zr, rfl, hq, hr, h1, h2, hb⟩
theorem wdiv_nought (s t : Bool) (a b : Option Addr) (la ca lb cb : Nat) (xs ys : List Int) (w : World) (hx : It w s a la ca xs) (hy : It w t b lb cb ys) (h0 : iv t ys = 0) :
    Calls Try.prog 9 #[.agg #[.bool s, .slice a la ca], .agg #[.bool t, .slice b lb cb]] w fun e w' => e = .returned (.tuple #[.agg #[.bool false, .slice none 0 0], .agg #[.bool false, .slice none 0 0], .int .i64 4]) ∧ Below w.heap.size w w' := by
  have hn : num ys = 0 := by rw [hy.abs, h0]; rfl
  refine (wdiv_core 4 (fun aq lq kq zq ar lr kr zr => aq = none ∧ lq = 0 ∧ kq = 0 ∧ zq = [] ∧ ar = none ∧ lr = 0 ∧ kr = 0 ∧ zr = []) s t a b la ca lb cb xs ys w hx hy ?_ (Or.inl ⟨rfl, fun aq lq kq zq ar lr kr zr h => h⟩)).mono ?_
  · intro W h1 h2
    refine (ndiv_nought a b la ca lb cb xs ys W h1 h2 hn).mono ?_
    rintro e w' ⟨rfl, hb⟩
    exact ⟨none, 0, 0, [], none, 0, 0, [], rfl, Nt.nil _, Nt.nil _, ⟨rfl, rfl, rfl, rfl, rfl, rfl, rfl, rfl⟩, hb⟩
  · rintro e w' ⟨sq, aq, lq, kq, zq, sr, ar, lr, kr, zr, rfl, hq, hr, ⟨-, h⟩ | ⟨h, -⟩, hb⟩
    · obtain ⟨rfl, rfl, rfl, rfl, rfl, rfl, rfl, rfl, rfl, rfl⟩ := h
      exact ⟨rfl, hb⟩
    · exact absurd h (by decide)
end Go.Proofs.Ytpfbcicjfnfpgaa
