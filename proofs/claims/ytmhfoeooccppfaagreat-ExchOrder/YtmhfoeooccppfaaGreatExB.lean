/-
  exchange: oneOver, Rate.
-/
import Derived.Test.YtmhfoeooccppfaaGreatExA
import Derived.Test.YtmhfoeooccppfaaGreatRe6
import Derived.Test.YtmhfoeooccppfaaGreatRt12
namespace Go.Proofs.YtmhfoeooccppfaaGreat
open Go.RowKit Go.Shelf
set_option linter.unusedVariables false
set_option maxRecDepth 20000

/-- What Rate answers. -/
inductive RtR (T : List Qe) (f t : List UInt8) (d : Int) : Int → Rat → Prop
  | cur (h : cdF' f = false ∨ cdF' t = false) : RtR T f t d 90 0
  | date (h1 : cdF' f = true) (h2 : cdF' t = true) (h3 : ¬ (0 ≤ d ∧ d ≤ 3652058)) : RtR T f t d 100 0
  | one (h1 : cdF' f = true) (h2 : cdF' t = true) (h3 : 0 ≤ d ∧ d ≤ 3652058) (h4 : f = t) : RtR T f t d 0 1
  | forth (h1 : cdF' f = true) (h2 : cdF' t = true) (h3 : 0 ≤ d ∧ d ≤ 3652058) (h4 : f ≠ t) (q : Qe) (h5 : Bst T f t d q) (h6 : q.fr = f) : RtR T f t d 0 (fv q.rate)
  | back (h1 : cdF' f = true) (h2 : cdF' t = true) (h3 : 0 ≤ d ∧ d ≤ 3652058) (h4 : f ≠ t) (q : Qe) (h5 : Bst T f t d q) (h6 : q.fr ≠ f) : RtR T f t d 0 (fv q.rate)⁻¹
  | none (h1 : cdF' f = true) (h2 : cdF' t = true) (h3 : 0 ≤ d ∧ d ≤ 3652058) (h4 : f ≠ t) (h5 : Non T f t d) : RtR T f t d 160 0
theorem rok_fin {x : Nat} (h : Rok x) : x < 18446744073709551616 ∧ x % 9223372036854775808 < 9218868437227405312 := by
  unfold Rok at h
  omega
theorem fv_pos {x : Nat} (h : Rok x) : 0 < (fv x).num := by
  have h1 := fv_num x
  have h2 : 0 < fz x := by
    unfold Rok at h
    unfold fz
    rw [if_pos (by omega)]
    have := @fi_lt_iff 0 x
    rw [fi_zero] at this
    omega
  have h3 : 0 < (fv x).den := Nat.pos_of_ne_zero (fv x).den_nz
  have h4 : 0 < fz x * ((fv x).den : Int) := Int.mul_pos h2 (by omega)
  rw [← h1] at h4
  have hK := K8_pos
  exact Int.pos_of_mul_pos_left h4 (by omega)
theorem fv_ne {x : Nat} (h : Rok x) : fv x ≠ 0 := fun e => by
  have := fv_pos h
  rw [e] at this
  exact absurd this (by decide)
theorem short_one : Short 1 := ⟨by show (1 : Int) < pw 1024; exact one_lt_pw (by omega), by show (1 : Int) < pw 1024; exact one_lt_pw (by omega)⟩
set_option maxHeartbeats 4000000 in
theorem over_any (x : Nat) (h : Rok x) (w : World) :
    Calls Tryz.prog 36 #[.float .f64 x] w fun e w' => ∃ s' a' l' c' zs' b' m' d' ds', e = .returned (.tuple #[.agg #[.bool s', .slice a' l' c', .slice b' m' d'], .int .i64 0]) ∧ Rt w' s' a' l' c' zs' b' m' d' ds' (fv x)⁻¹ ∧ Below w.heap.size w w' := by
  have HX : Hid (Rok x) := h
  clear h
  have B0 : Below w.heap.size w w := Below.refl _ _
  go_enter Tryz.func36, Tryz.ntmps36
  go_wp2_with fail
  refine ent1 w _ _ (Q := fun W => Calls Tryz.prog _ _ W _) ?_
  intro x1 hb hs1 V1
  replace B0 := step B0 hb
  clear hb hs1
  refine (qsmall_to 1 1 (by decide) (by decide) (by decide) (by decide) (by decide) 1 x1 (by decide +kernel) short_one).mono ?_
  rintro e x2 ⟨s1, a1, l1, c1, z1, b1, m1, d1, y1, rfl, hr1, hb⟩
  replace V1 := Va.after hb V1
  replace B0 := step B0 hb
  clear hb
  go_wp2_with fail
  have HNE : Hid (w.heap.size ≠ x2.heap.size) := Nat.ne_of_lt V1.lt
  have HNE2 : Hid (w.heap.size ≤ x2.heap.size) := Nat.le_of_lt V1.lt
  refine ent1 x2 _ _ (Q := fun W => Calls Tryz.prog _ _ W _) ?_
  intro x4 hb hs3 V2
  replace V1 := Va.after hb V1
  replace hr1 := Rt.after hb hr1
  replace B0 := step B0 hb
  clear hb hs3
  refine (of8 x (rok_fin HX.out).1 (rok_fin HX.out).2 x4).mono ?_
  rintro e x5 ⟨s2, a2, l2, c2, z2, b2, m2, d2, y2, rfl, hr2, hb⟩
  replace V1 := Va.after hb V1
  replace V2 := Va.after hb V2
  replace hr1 := Rt.after hb hr1
  replace B0 := step B0 hb
  have HNF : Hid (x2.heap.size ≠ x5.heap.size ∧ w.heap.size ≠ x5.heap.size ∧ w.heap.size ≤ x5.heap.size) := ⟨Nat.ne_of_lt V2.lt, Nat.ne_of_lt V1.lt, Nat.le_of_lt V1.lt⟩
  clear hb
  go_upto_region 3 with fail
  refine ent1 x5 _ _ (Q := fun W => Code.wp Tryz.prog _ _ _ W) ?_
  intro x7 hb hs6 V3
  replace V1 := Va.after hb V1
  replace V2 := Va.after hb V2
  replace hr1 := Rt.after hb hr1
  replace hr2 := Rt.after hb hr2
  replace B0 := step B0 hb
  clear hb hs6
  have c_V2 := V2.d0
  have d_V2 := V2.d1
  have e_V2 := V2.d2
  have c_V3 := V3.d0
  have d_V3 := V3.d1
  have e_V3 := V3.d2
  go_wp2_with fail
  refine (qquo_to s1 a1 l1 c1 z1 b1 m1 d1 y1 1 s2 a2 l2 c2 z2 b2 m2 d2 y2 (fv x) (fv x)⁻¹ x7 hr1 hr2 (by rw [Rat.div_def, Rat.one_mul]) (short_fv (rok_fin HX.out).1 (rok_fin HX.out).2).inv (fv_ne HX.out)).mono ?_
  rintro e x8 ⟨s3, a3, l3, c3, z3, b3, m3, d3, y3, rfl, hr3, hb⟩
  replace V1 := Va.after hb V1
  replace B0 := step B0 hb
  clear hb c_V2 d_V2 e_V2 c_V3 d_V3 e_V3
  have c_V1 := V1.d0
  have f0_V1 := V1.frozen 0
  have d_V1 := V1.d1
  have f1_V1 := V1.frozen 1
  have e_V1 := V1.d2
  have f2_V1 := V1.frozen 2
  have l_V1 := V1.lt
  go_wp2_with fail
  refine bodyPost_ret (results_rt rfl rfl (V1.set3 _ _ _)) rfl ?_
  exact ⟨s3, a3, l3, c3, z3, b3, m3, d3, y3, rfl, hr3.far V1 (noInt3 _ _ _ _ _ _ _) (fa3 _ _ _ _ _), belo3 B0 (Nat.le_refl _) _ _ _⟩
/-- How Rate ends. -/
def RtE (T : List Qe) (f t : List UInt8) (d : Int) (w : World) (e : Ending) (w' : World) : Prop := ∃ (E : Int) (v : Rat) (s' : Bool) (a' : Option Addr) (l' c' : Nat) (zs' : List Int) (b' : Option Addr) (m' d' : Nat) (ds' : List Int), e = .returned (.tuple #[.agg #[.bool s', .slice a' l' c', .slice b' m' d'], .int .i64 E]) ∧ Rt w' s' a' l' c' zs' b' m' d' ds' v ∧ RtR T f t d E v ∧ Below w.heap.size w w'
set_option maxHeartbeats 16000000 in
theorem rate_any (f t : List UInt8) (d : Int) (S : Nat → Prop) (b : Nat) (T : List Qe) (w : World) (h : TbR w S b T) (hT : Tok T) :
    Calls Tryz.prog 11 #[.pointer (some ⟨b, 0, none⟩), sv f, sv t, .int .i64 d] w fun e w' => RtE T f t d w e w' := by
  obtain ⟨m, n, D, HTb⟩ := h
  have B0 : Below w.heap.size w w := Below.refl _ _
  have hF := code_any f
  have hT2 := code_any t
  have hD := isDay_any d
  rw [cdF_eq'] at hF hT2
  obtain ⟨bf, hbf⟩ : ∃ bf, cdF' f = bf := ⟨_, rfl⟩
  obtain ⟨bt, hbt⟩ : ∃ bt, cdF' t = bt := ⟨_, rfl⟩
  have HF : Hid (cdF' f = bf) := hbf
  have HT : Hid (cdF' t = bt) := hbt
  rw [hbf] at hF
  rw [hbt] at hT2
  clear hbf hbt
  cases bf with
  | false =>
    go_enter Tryz.func11, Tryz.ntmps11
    go_wp2_with fail
    refine ent1 w _ _ (Q := fun W => Calls Tryz.prog _ _ W _) ?_
    intro x1 hb hs1 V1
    replace HTb := HTb.after hb
    replace B0 := step B0 hb
    clear hb hs1
    refine (isTable_yes b m _ x1 HTb.cells).mono ?_
    rintro e w' ⟨rfl, rfl⟩
    go_wp2_with fail
    refine (hF _).mono ?_
    rintro e w' ⟨rfl, rfl⟩
    have c_V1 := V1.d0
    have f0_V1 := V1.frozen 0
    have d_V1 := V1.d1
    have f1_V1 := V1.frozen 1
    have e_V1 := V1.d2
    have f2_V1 := V1.frozen 2
    have l_V1 := V1.lt
    go_wp2_with fail
    refine bodyPost_ret (results_rt rfl rfl (V1.set3 _ _ _)) rfl ?_
    unfold RtE
    refine ⟨90, 0, false, none, 0, 0, [], none, 0, 0, [], rfl, (Rt.nil _).far V1 (noInt3 _ _ _ _ _ _ _) (fa3 _ _ _ _ _), .cur (Or.inl HF.out), belo3 B0 (Nat.le_refl _) _ _ _⟩
  | true =>
    cases bt with
    | false =>
      go_enter Tryz.func11, Tryz.ntmps11
      go_wp2_with fail
      refine ent1 w _ _ (Q := fun W => Calls Tryz.prog _ _ W _) ?_
      intro x1 hb hs1 V1
      replace HTb := HTb.after hb
      replace B0 := step B0 hb
      clear hb hs1
      refine (isTable_yes b m _ x1 HTb.cells).mono ?_
      rintro e w' ⟨rfl, rfl⟩
      go_wp2_with fail
      refine (hF _).mono ?_
      rintro e w' ⟨rfl, rfl⟩
      go_wp2_with fail
      refine (hT2 _).mono ?_
      rintro e w' ⟨rfl, rfl⟩
      have c_V1 := V1.d0
      have f0_V1 := V1.frozen 0
      have d_V1 := V1.d1
      have f1_V1 := V1.frozen 1
      have e_V1 := V1.d2
      have f2_V1 := V1.frozen 2
      have l_V1 := V1.lt
      go_wp2_with fail
      refine bodyPost_ret (results_rt rfl rfl (V1.set3 _ _ _)) rfl ?_
      unfold RtE
      refine ⟨90, 0, false, none, 0, 0, [], none, 0, 0, [], rfl, (Rt.nil _).far V1 (noInt3 _ _ _ _ _ _ _) (fa3 _ _ _ _ _), .cur (Or.inr HT.out), belo3 B0 (Nat.le_refl _) _ _ _⟩
    | true =>
      obtain ⟨bd, hbd⟩ : ∃ bd, dyB d = bd := ⟨_, rfl⟩
      have HD : Hid (dyB d = bd) := hbd
      rw [hbd] at hD
      clear hbd
      cases bd with
      | false =>
        go_enter Tryz.func11, Tryz.ntmps11
        go_wp2_with fail
        refine ent1 w _ _ (Q := fun W => Calls Tryz.prog _ _ W _) ?_
        intro x1 hb hs1 V1
        replace HTb := HTb.after hb
        replace B0 := step B0 hb
        clear hb hs1
        refine (isTable_yes b m _ x1 HTb.cells).mono ?_
        rintro e w' ⟨rfl, rfl⟩
        go_wp2_with fail
        refine (hF _).mono ?_
        rintro e w' ⟨rfl, rfl⟩
        go_wp2_with fail
        refine (hT2 _).mono ?_
        rintro e w' ⟨rfl, rfl⟩
        go_wp2_with fail
        refine (hD _).mono ?_
        rintro e w' ⟨rfl, rfl⟩
        have c_V1 := V1.d0
        have f0_V1 := V1.frozen 0
        have d_V1 := V1.d1
        have f1_V1 := V1.frozen 1
        have e_V1 := V1.d2
        have f2_V1 := V1.frozen 2
        have l_V1 := V1.lt
        go_wp2_with fail
        refine bodyPost_ret (results_rt rfl rfl (V1.set3 _ _ _)) rfl ?_
        unfold RtE
        refine ⟨100, 0, false, none, 0, 0, [], none, 0, 0, [], rfl, (Rt.nil _).far V1 (noInt3 _ _ _ _ _ _ _) (fa3 _ _ _ _ _), .date HF.out HT.out (by have := HD.out; simpa [dyB] using this), belo3 B0 (Nat.le_refl _) _ _ _⟩
      | true =>
        have HDD : Hid (0 ≤ d ∧ d ≤ 3652058) := by show 0 ≤ d ∧ d ≤ 3652058; have := HD.out; simpa [dyB] using this
        clear HD
        by_cases hft : f = t
        · subst hft
          go_enter Tryz.func11, Tryz.ntmps11
          go_wp2_with fail
          refine ent1 w _ _ (Q := fun W => Calls Tryz.prog _ _ W _) ?_
          intro x1 hb hs1 V1
          replace HTb := HTb.after hb
          replace B0 := step B0 hb
          clear hb hs1
          refine (isTable_yes b m _ x1 HTb.cells).mono ?_
          rintro e w' ⟨rfl, rfl⟩
          go_wp2_with fail
          refine (hF _).mono ?_
          rintro e w' ⟨rfl, rfl⟩
          go_wp2_with fail
          refine (hT2 _).mono ?_
          rintro e w' ⟨rfl, rfl⟩
          go_wp2_with fail
          refine (hD _).mono ?_
          rintro e w' ⟨rfl, rfl⟩
          go_wp2_with fail
          refine (qsmall_to 1 1 (by decide) (by decide) (by decide) (by decide) (by decide) 1 _ (by decide +kernel) short_one).mono ?_
          rintro e x2 ⟨s1, a1, l1, c1, z1, b1, m1, d1, y1, rfl, hr1, hb⟩
          replace V1 := Va.after hb V1
          replace B0 := step B0 hb
          clear hb
          have c_V1 := V1.d0
          have f0_V1 := V1.frozen 0
          have d_V1 := V1.d1
          have f1_V1 := V1.frozen 1
          have e_V1 := V1.d2
          have f2_V1 := V1.frozen 2
          have l_V1 := V1.lt
          go_wp2_with fail
          refine bodyPost_ret (results_rt rfl rfl (V1.set3 _ _ _)) rfl ?_
          unfold RtE
          exact ⟨0, 1, s1, a1, l1, c1, z1, b1, m1, d1, y1, rfl, hr1.far V1 (noInt3 _ _ _ _ _ _ _) (fa3 _ _ _ _ _), .one HF.out HT.out HDD.out rfl, belo3 B0 (Nat.le_refl _) _ _ _⟩
        · have hfb : (f == t) = false := by simpa using hft
          have HNE : Hid (f ≠ t) := hft
          have HSH : Hid (Sho (f, t)) := ⟨code_len HF.out, code_len HT.out⟩
          have HSH2 : Hid (Sho (t, f)) := ⟨code_len HT.out, code_len HF.out⟩
          clear hft
          go_enter Tryz.func11, Tryz.ntmps11
          go_wp2_with fail
          refine ent1 w _ _ (Q := fun W => Calls Tryz.prog _ _ W _) ?_
          intro x1 hb hs1 V1
          replace HTb := HTb.after hb
          replace B0 := step B0 hb
          clear hb hs1
          refine (isTable_yes b m _ x1 HTb.cells).mono ?_
          rintro e w' ⟨rfl, rfl⟩
          go_wp2_with fail
          refine (hF _).mono ?_
          rintro e w' ⟨rfl, rfl⟩
          go_wp2_with fail
          refine (hT2 _).mono ?_
          rintro e w' ⟨rfl, rfl⟩
          go_wp2_with fail
          refine (hD _).mono ?_
          rintro e w' ⟨rfl, rfl⟩
          go_wp2_with fail
          refine (newest_any f t HSH.out d HDD.out.1 HDD.out.2 S b m n D T w' HTb hT).mono ?_
          rintro e x2 ⟨⟨y1, r1, F1, rfl, n1, n2⟩, hb⟩
          replace HTb := HTb.after hb
          replace V1 := Va.after hb V1
          replace B0 := step B0 hb
          have HN1 : Hid ((F1 = true → Nst (sel f t T) d (y1, r1)) ∧ (F1 = false → Nol (sel f t T) d)) := ⟨n1, n2⟩
          clear hb n1 n2
          have sf := run_store_flt
          go_wp2_with fail
          have HNE1 : Hid (w.heap.size ≠ x2.heap.size) := Nat.ne_of_lt V1.lt
          refine ent1 x2 _ _ (Q := fun W => Calls Tryz.prog _ _ W _) ?_
          intro x3 hb hs3 V2
          replace HTb := HTb.after hb
          replace V1 := Va.after hb V1
          replace B0 := step B0 hb
          clear hb hs3
          refine (newest_any t f HSH2.out d HDD.out.1 HDD.out.2 S b m n D T x3 HTb hT).mono ?_
          rintro e x4 ⟨⟨y2, r2, F2, rfl, n1, n2⟩, hb⟩
          replace V2 := Va.after hb V2
          replace V1 := Va.after hb V1
          replace B0 := step B0 hb
          have HN2 : Hid ((F2 = true → Nst (sel t f T) d (y2, r2)) ∧ (F2 = false → Nol (sel t f T) d)) := ⟨n1, n2⟩
          clear hb n1 n2
          go_upto_region 11 with fail
          refine ent1 x4 _ _ (Q := fun W => Code.wp Tryz.prog _ _ _ W) ?_
          intro x5 hb hs5 V3
          replace V1 := Va.after hb V1
          replace V2 := Va.after hb V2
          replace B0 := step B0 hb
          clear hb hs5
          have c20 : x5.cell? ⟨x2.heap.size, 0, none⟩ = some (.int .i64 y1) := by rw [V2.cellAt 0]; rfl
          have c21 : x5.cell? ⟨x2.heap.size, 1, none⟩ = some (.float .f64 r1) := by rw [V2.cellAt 1]; rfl
          have c30 : x5.cell? ⟨x4.heap.size, 0, none⟩ = some (.int .i64 y2) := by rw [V3.cellAt 0]; rfl
          have c31 : x5.cell? ⟨x4.heap.size, 1, none⟩ = some (.float .f64 r2) := by rw [V3.cellAt 1]; rfl
          cases F1 with
          | false =>
            cases F2 with
            | false =>
              clear c20 c21 c30 c31
              have c_V1 := V1.d0
              have f0_V1 := V1.frozen 0
              have d_V1 := V1.d1
              have f1_V1 := V1.frozen 1
              have e_V1 := V1.d2
              have f2_V1 := V1.frozen 2
              have l_V1 := V1.lt
              go_wp2_with fail
              refine bodyPost_ret (results_rt rfl rfl (V1.set3 _ _ _)) rfl ?_
              unfold RtE
              refine ⟨160, 0, false, none, 0, 0, [], none, 0, 0, [], rfl, (Rt.nil _).far V1 (noInt3 _ _ _ _ _ _ _) (fa3 _ _ _ _ _), .none HF.out HT.out HDD.out HNE.out (non_both (HN1.out.2 (by simp)) (HN2.out.2 (by simp))), belo3 B0 (Nat.le_refl _) _ _ _⟩
            | true =>
              have HB1 : Hid (Bst T f t d ⟨t, f, y2, r2⟩) := bst_back HNE.out (HN2.out.1 rfl) (Or.inl (HN1.out.2 rfl))
              have HO : Hid (Rok r2) := (hT.ok _ HB1.out.mem).2.2.2.2.2
              go_wp2_with fail
              refine (over_any r2 HO.out x5).mono ?_
              rintro e x6 ⟨s1, a1, l1, c1, z1, b1, m1, d1, y1', rfl, hr1, hb⟩
              replace V1 := Va.after hb V1
              replace B0 := step B0 hb
              clear hb c20 c21 c30 c31
              have c_V1 := V1.d0
              have f0_V1 := V1.frozen 0
              have d_V1 := V1.d1
              have f1_V1 := V1.frozen 1
              have e_V1 := V1.d2
              have f2_V1 := V1.frozen 2
              have l_V1 := V1.lt
              go_wp2_with fail
              refine bodyPost_ret (results_rt rfl rfl (V1.set3 _ _ _)) rfl ?_
              unfold RtE
              exact ⟨0, _, s1, a1, l1, c1, z1, b1, m1, d1, y1', rfl, hr1.far V1 (noInt3 _ _ _ _ _ _ _) (fa3 _ _ _ _ _), .back HF.out HT.out HDD.out HNE.out _ HB1.out (fun e => HNE.out e.symm), belo3 B0 (Nat.le_refl _) _ _ _⟩
          | true =>
            cases F2 with
            | false =>
              have HB1 : Hid (Bst T f t d ⟨f, t, y1, r1⟩) := bst_forth HNE.out (HN1.out.1 rfl) (Or.inl (HN2.out.2 rfl))
              have HO : Hid (Rok r1) := (hT.ok _ HB1.out.mem).2.2.2.2.2
              go_wp2_with fail
              refine (of8 r1 (rok_fin HO.out).1 (rok_fin HO.out).2 x5).mono ?_
              rintro e x6 ⟨s1, a1, l1, c1, z1, b1, m1, d1, y1', rfl, hr1, hb⟩
              replace V1 := Va.after hb V1
              replace B0 := step B0 hb
              clear hb c20 c21 c30 c31
              have c_V1 := V1.d0
              have f0_V1 := V1.frozen 0
              have d_V1 := V1.d1
              have f1_V1 := V1.frozen 1
              have e_V1 := V1.d2
              have f2_V1 := V1.frozen 2
              have l_V1 := V1.lt
              go_wp2_with fail
              refine bodyPost_ret (results_rt rfl rfl (V1.set3 _ _ _)) rfl ?_
              unfold RtE
              exact ⟨0, _, s1, a1, l1, c1, z1, b1, m1, d1, y1', rfl, hr1.far V1 (noInt3 _ _ _ _ _ _ _) (fa3 _ _ _ _ _), .forth HF.out HT.out HDD.out HNE.out _ HB1.out rfl, belo3 B0 (Nat.le_refl _) _ _ _⟩
            | true =>
              by_cases hle : y2 ≤ y1
              · have HLE : Hid (y2 ≤ y1) := hle
                have HB1 : Hid (Bst T f t d ⟨f, t, y1, r1⟩) := bst_forth HNE.out (HN1.out.1 rfl) (Or.inr ⟨_, HN2.out.1 rfl, HLE.out⟩)
                have HO : Hid (Rok r1) := (hT.ok _ HB1.out.mem).2.2.2.2.2
                go_wp2_with fail
                refine (of8 r1 (rok_fin HO.out).1 (rok_fin HO.out).2 x5).mono ?_
                rintro e x6 ⟨s1, a1, l1, c1, z1, b1, m1, d1, y1', rfl, hr1, hb⟩
                replace V1 := Va.after hb V1
                replace B0 := step B0 hb
                clear hb c20 c21 c30 c31
                have c_V1 := V1.d0
                have f0_V1 := V1.frozen 0
                have d_V1 := V1.d1
                have f1_V1 := V1.frozen 1
                have e_V1 := V1.d2
                have f2_V1 := V1.frozen 2
                have l_V1 := V1.lt
                go_wp2_with fail
                refine bodyPost_ret (results_rt rfl rfl (V1.set3 _ _ _)) rfl ?_
                unfold RtE
                exact ⟨0, _, s1, a1, l1, c1, z1, b1, m1, d1, y1', rfl, hr1.far V1 (noInt3 _ _ _ _ _ _ _) (fa3 _ _ _ _ _), .forth HF.out HT.out HDD.out HNE.out _ HB1.out rfl, belo3 B0 (Nat.le_refl _) _ _ _⟩
              · have HLE : Hid (y1 < y2) := Int.lt_of_not_ge hle
                have HB1 : Hid (Bst T f t d ⟨t, f, y2, r2⟩) := bst_back HNE.out (HN2.out.1 rfl) (Or.inr ⟨_, HN1.out.1 rfl, HLE.out⟩)
                have HO : Hid (Rok r2) := (hT.ok _ HB1.out.mem).2.2.2.2.2
                go_wp2_with fail
                refine (over_any r2 HO.out x5).mono ?_
                rintro e x6 ⟨s1, a1, l1, c1, z1, b1, m1, d1, y1', rfl, hr1, hb⟩
                replace V1 := Va.after hb V1
                replace B0 := step B0 hb
                clear hb c20 c21 c30 c31
                have c_V1 := V1.d0
                have f0_V1 := V1.frozen 0
                have d_V1 := V1.d1
                have f1_V1 := V1.frozen 1
                have e_V1 := V1.d2
                have f2_V1 := V1.frozen 2
                have l_V1 := V1.lt
                go_wp2_with fail
                refine bodyPost_ret (results_rt rfl rfl (V1.set3 _ _ _)) rfl ?_
                unfold RtE
                exact ⟨0, _, s1, a1, l1, c1, z1, b1, m1, d1, y1', rfl, hr1.far V1 (noInt3 _ _ _ _ _ _ _) (fa3 _ _ _ _ _), .back HF.out HT.out HDD.out HNE.out _ HB1.out (fun e => HNE.out e.symm), belo3 B0 (Nat.le_refl _) _ _ _⟩
end Go.Proofs.YtmhfoeooccppfaaGreat
