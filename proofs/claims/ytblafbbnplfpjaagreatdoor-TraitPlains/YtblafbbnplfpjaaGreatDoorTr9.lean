/-
  traits.Holds.
-/
import Derived.Test.YtblafbbnplfpjaaGreatDoorMgAm
namespace Go.Proofs.YtblafbbnplfpjaaGreatDoor
open Go.RowKit Go.Shelf
set_option linter.unusedVariables false

/-- Whether nodes that are a condition hold. -/
noncomputable def hoV (ns : List Nd) (v : Nd → Bool) : Bool := open Classical in if h : ∃ t : Fo, ns = t.flat ∧ t.len = 1 ∧ t.Ok wdB 0 1 then (h.choose.ev v).headD true else true
theorem hoV_eq {ns : List Nd} {n : Nd} {k : Fo} (h : ns = (Fo.cons n k .nil).flat) (hok : (Fo.cons n k .nil).Ok wdB 0 1) (v : Nd → Bool) : hoV ns v = val v n (k.ev v) := by
  have hx : ∃ t : Fo, ns = t.flat ∧ t.len = 1 ∧ t.Ok wdB 0 1 := ⟨.cons n k .nil, h, rfl, hok⟩
  unfold hoV
  rw [dif_pos hx]
  obtain ⟨h1, h3, h2⟩ := hx.choose_spec
  have := (flat_inj _ _ _ _ _ _ [] [] h2 hok h3 (by rw [List.append_nil, List.append_nil, ← h1, ← h])).1
  rw [this]; rfl
theorem hoV_nil (v : Nd → Bool) : hoV [] v = true := by
  unfold hoV
  rw [dif_neg]
  rintro ⟨t, h, h1, -⟩
  have := Fo.len_flat t
  rw [← h, h1] at this
  simp at this
/-- Facts as they are told. -/
structure Fx where
  byr : List (List UInt8)
  lin : List (List UInt8)
  amt : Int
  dig : Int
  qty : Int
def Fx.Ok (f : Fx) : Prop := FtOk f.byr f.lin f.amt f.dig f.qty
def Fx.vf (f : Fx) : Nd → Bool := vfa f.byr f.lin (Rat.divInt f.amt (10 ^ f.dig.toNat)) (Rat.divInt f.qty (10 ^ 0))
noncomputable def hoE (ns : List Nd) (f : Fx) : Int := open Classical in if Cond wdB ns then ftE f.byr f.lin f.amt f.dig f.qty else 131
noncomputable def hoB (ns : List Nd) (f : Fx) : Bool := open Classical in if Cond wdB ns ∧ f.Ok then hoV ns f.vf else false
def B64 (x : Int) : Prop := -9223372036854775808 ≤ x ∧ x ≤ 9223372036854775807
/-- Facts that can be read. -/
structure Lf (w : World) (a1 : Option Addr) (c1 : Nat) (a2 : Option Addr) (c2 : Nat) (f : Fx) : Prop where
  l1 : Le elS w a1 f.byr.length f.byr
  l2 : Le elS w a2 f.lin.length f.lin
  b1 : B64 f.amt
  b2 : B64 f.dig
  b3 : B64 f.qty
theorem Lf.after {w w' : World} {a1 : Option Addr} {c1 : Nat} {a2 : Option Addr} {c2 : Nat} {f : Fx} (h : Lf w a1 c1 a2 c2 f) (hb : Below w.heap.size w w') : Lf w' a1 c1 a2 c2 f := ⟨h.l1.after hb, h.l2.after hb, h.b1, h.b2, h.b3⟩
abbrev fxv (a1 : Option Addr) (c1 : Nat) (a2 : Option Addr) (c2 : Nat) (f : Fx) : Value := .agg #[.slice a1 f.byr.length c1, .slice a2 f.lin.length c2, .int .i64 f.amt, .int .i64 f.dig, .int .i64 f.qty]
set_option maxHeartbeats 8000000 in
theorem holds_any (ns : List Nd) (a : Option Addr) (cap : Nat) (a1 : Option Addr) (c1 : Nat) (a2 : Option Addr) (c2 : Nat) (f : Fx) (w : World) (hL : Le elN w a ns.length ns) (h64 : ∀ n ∈ ns, N64 n) (hf : Lf w a1 c1 a2 c2 f) (hT : Tn w) :
    Calls Tryz.prog 15 #[.slice a ns.length cap, fxv a1 c1 a2 c2 f] w fun e w' => e = .returned (.tuple #[.bool (hoB ns f), .int .i64 (hoE ns f)]) ∧ Below w.heap.size w w' := by
  have HL : Hid (Le elN w a ns.length ns) := hL
  have H6 : Hid (∀ n ∈ ns, N64 n) := h64
  have HF : Hid (Lf w a1 c1 a2 c2 f) := hf
  have HT : Hid (Tn w) := hT
  obtain ⟨RB, hRB⟩ : ∃ R, hoB ns f = R := ⟨_, rfl⟩
  obtain ⟨RE, hRE⟩ : ∃ R, hoE ns f = R := ⟨_, rfl⟩
  have HRB : Hid (hoB ns f = RB) := hRB
  have HRE : Hid (hoE ns f = RE) := hRE
  rw [hRB, hRE]
  clear hL h64 hf hT hRB hRE
  obtain ⟨byr, lin, am, dg, qt⟩ := f
  dsimp only [fxv] at *
  have C1 := fun W h => check13 ns a cap W h H6.out
  have C2 := fun W h1 h2 => fit_any byr lin a1 c1 a2 c2 am dg qt W h1 h2
  rcases Classical.em (Cond wdB ns) with hc | hc
  rotate_left
  · have e1 : Hid (RB = false ∧ RE = 131) := ⟨by rw [← HRB.out]; simp [hoB, hc], by rw [← HRE.out]; simp [hoE, hc]⟩
    rw [ckE_no hc] at C1
    go_enter Tryz.func15, Tryz.ntmps15
    go_upto_region 1 with fail
    refine ent1 w _ _ (Q := fun W => Code.wp _ _ _ _ W) ?_
    intro W1 hb1 hs1 V1
    have D1 := C1 W1 (HL.out.after hb1)
    go_wp2_with fail
    refine D1.mono ?_
    rintro e W2 ⟨rfl, hb2⟩
    go_wp2_with fail
    go_ret2
    exact ⟨by rw [e1.out.1, e1.out.2]; rfl, step hb1 hb2⟩
  rw [ckE_ok hc] at C1
  have HC : Hid (Cond wdB ns) := hc
  rcases Classical.em (FtOk byr lin am dg qt) with hf | hf
  rotate_left
  · have e1 : Hid (RB = false ∧ RE = 141) := ⟨by rw [← HRB.out]; simp [hoB, Fx.Ok, hf], by rw [← HRE.out]; simp [hoE, hc, ftE_no hf]⟩
    rw [ftE_no hf] at C2
    clear hc
    go_enter Tryz.func15, Tryz.ntmps15
    go_upto_region 1 with fail
    refine ent1 w _ _ (Q := fun W => Code.wp _ _ _ _ W) ?_
    intro W1 hb1 hs1 V1
    have D1 := C1 W1 (HL.out.after hb1)
    go_wp2_with fail
    refine D1.mono ?_
    rintro e W2 ⟨rfl, hb2⟩
    have V2 := V1.after hb2
    have v0 := V2.f0
    have v1 := V2.f1
    have v2 := V2.f2
    have v3 := V2.f3
    have v4 := V2.f4
    have D2 := C2 W2 (HF.out.l1.after (step hb1 hb2)) (HF.out.l2.after (step hb1 hb2))
    clear D1
    go_wp2_with fail
    refine D2.mono ?_
    rintro e W3 ⟨rfl, hb3⟩
    go_wp2_with fail
    go_ret2
    exact ⟨by rw [e1.out.1, e1.out.2]; rfl, step (step hb1 hb2) hb3⟩
  rw [ftE_ok hf] at C2
  have HFT : Hid (FtOk byr lin am dg qt) := hf
  have e1 : Hid (RB = hoV ns (Fx.vf ⟨byr, lin, am, dg, qt⟩) ∧ RE = 0) := ⟨by rw [← HRB.out]; simp [hoB, hc, Fx.Ok, hf], by rw [← HRE.out]; simp [hoE, hc, ftE_ok hf]⟩
  clear hc hf
  go_enter Tryz.func15, Tryz.ntmps15
  go_upto_region 1 with fail
  refine ent1 w _ _ (Q := fun W => Code.wp _ _ _ _ W) ?_
  intro W1 hb1 hs1 V1
  have D1 := C1 W1 (HL.out.after hb1)
  go_wp2_with fail
  refine D1.mono ?_
  rintro e W2 ⟨rfl, hb2⟩
  have V2 := V1.after hb2
  have v0 := V2.f0
  have v1 := V2.f1
  have v2 := V2.f2
  have v3 := V2.f3
  have v4 := V2.f4
  have D2 := C2 W2 (HF.out.l1.after (step hb1 hb2)) (HF.out.l2.after (step hb1 hb2))
  clear D1 C1 C2
  go_wp2_with fail
  refine D2.mono ?_
  rintro e W3 ⟨rfl, hb3⟩
  have V0 := V2.after hb3
  have B0 := step (step hb1 hb2) hb3
  clear D2 v0 v1 v2 v3 v4 V2 V1 hb1 hb2 hb3 hs1
  rcases Nat.eq_zero_or_pos ns.length with h0 | h0
  · have hn0 : ((ns.length : Int) == 0) = true := by rw [h0]; rfl
    have e2 : Hid (RB = true ∧ RE = 0) := ⟨by rw [e1.out.1, List.length_eq_zero_iff.1 h0, hoV_nil], e1.out.2⟩
    go_wp2_with fail
    go_ret2
    exact ⟨by rw [e2.out.1, e2.out.2]; rfl, B0⟩
  have hne : ns ≠ [] := fun h => by rw [h] at h0; exact absurd h0 (Nat.lt_irrefl _)
  have hn0 : ((ns.length : Int) == 0) = false := by simp; omega
  obtain ⟨hl64, n, k, hnk, hok⟩ := cond_tree hne HC.out
  have e2 : Hid (RB = val (vfa byr lin (Rat.divInt am (10 ^ dg.toNat)) (Rat.divInt qt (10 ^ 0))) n (k.ev (vfa byr lin (Rat.divInt am (10 ^ dg.toNat)) (Rat.divInt qt (10 ^ 0)))) ∧ RE = 0) := ⟨by rw [e1.out.1, hoV_eq hnk hok]; rfl, e1.out.2⟩
  have HNK : Hid (ns = (Fo.cons n k .nil).flat ∧ (Fo.cons n k .nil).Ok wdB 0 1) := ⟨hnk, hok⟩
  obtain ⟨D, rfl⟩ : ∃ D : Nat, dg = D := ⟨dg.toNat, by have := HFT.out.2.2.1; omega⟩
  have hD : D ≤ 9 := by have := HFT.out.2.2.2.1; omega
  have hA := HF.out.b1
  have hQ := HF.out.b3
  dsimp only at hA hQ
  have hA1 := hA.1
  have hA2 := hA.2
  have hQ1 := hQ.1
  have hQ2 := hQ.2
  have HS : Hid (byr.length ≤ 100 ∧ lin.length ≤ 100) := ⟨by have := HFT.out.1.1; omega, by have := HFT.out.2.1.1; omega⟩
  rw [show (D : Int).toNat = D from rfl] at e2
  obtain ⟨A, hAA⟩ : ∃ A, Rat.divInt am (10 ^ D) = A := ⟨_, rfl⟩
  obtain ⟨Q, hQQ⟩ : ∃ Q, Rat.divInt qt (10 ^ 0) = Q := ⟨_, rfl⟩
  have CA := fun W h => worth_any am D hD hA1 hA2 W h
  have CQ := fun W h => worth_any qt 0 (by omega) hQ1 hQ2 W h
  rw [hAA] at e2 CA
  rw [hQQ] at e2 CQ
  clear hAA hQQ hne hnk hok hA hQ e1 HFT HC
  go_wp2_with fail
  go_cut [8, 9] (fun s8 s9 wx => ∃ (qa : Nat) (qq : Nat) (se : Bool) (ae : Option Addr) (le ce : Nat) (ze : List Int) (be : Option Addr) (me de : Nat) (ye : List Int) (su : Bool) (au : Option Addr) (lu cu : Nat) (zu : List Int) (bu : Option Addr) (mu du : Nat) (yu : List Int), s8 = .pointer (some ⟨qa, 0, none⟩) ∧ s9 = .pointer (some ⟨qq, 0, none⟩) ∧ Hid (Va wx qa 66 #[.bool se, .slice ae le ce, .slice be me de]) ∧ Hid (Va wx qq 66 #[.bool su, .slice au lu cu, .slice bu mu du]) ∧ Hid (Va wx (w.heap.size) 25 #[.slice a1 byr.length c1, .slice a2 lin.length c2, .int .i64 am, .int .i64 D, .int .i64 qt]) ∧ Hid (Rt wx se ae le ce ze be me de ye A) ∧ Hid (Rt wx su au lu cu zu bu mu du yu Q) ∧ Hid (Below w.heap.size w wx) ∧ Hid (w.heap.size + 1 ≤ qa ∧ w.heap.size + 1 ≤ qq ∧ qa ≠ qq))
  case first =>
    refine wp_region_noPanic ?_
    replace V0 : Va W3.drew _ _ _ := V0
    replace B0 := Below.drew B0
    refine wp_region_held_drew (S := (fun W => W.cell? ⟨w.heap.size, 0, none⟩ = some (.slice a1 byr.length c1) ∧ W.cell? ⟨w.heap.size, 1, none⟩ = some (.slice a2 lin.length c2) ∧ W.cell? ⟨w.heap.size, 2, none⟩ = some (.int .i64 am) ∧ W.cell? ⟨w.heap.size, 3, none⟩ = some (.int .i64 D) ∧ W.cell? ⟨w.heap.size, 4, none⟩ = some (.int .i64 qt))) (by kernel_rfl) ⟨V0.f0, V0.f1, V0.f2, V0.f3, V0.f4⟩ (fun hHeld => ?_)
    obtain ⟨x1, hxd⟩ : ∃ xd, xd = W3.drew := ⟨_, rfl⟩
    rw [← hxd] at V0 B0 hHeld ⊢
    clear hxd
    refine wpAnyH_take (i := 0) (v := ?_) rfl (by kernel_rfl) (by kernel_rfl) (by kernel_rfl) (fun _ _ _ h => h) (Or.inl ⟨by rfl, ?_⟩) hHeld ?_
    rotate_left
    · (intro W hSw; (try dsimp only at hSw); go_simp; all_goals (with_reducible rfl))
    simp only [List.getElem_toArray, List.getElem_cons_zero, Act.put, List.setIfInBounds_toArray, List.set_cons_zero, List.set_cons_succ]
    refine wpAnyH_take (i := 1) (v := ?_) rfl (by kernel_rfl) (by kernel_rfl) (by kernel_rfl) (fun _ _ _ h => h) (Or.inl ⟨by rfl, ?_⟩) hHeld ?_
    rotate_left
    · (intro W hSw; (try dsimp only at hSw); go_simp; all_goals (with_reducible rfl))
    simp only [List.getElem_toArray, List.getElem_cons_zero, List.getElem_cons_succ, Act.put, List.setIfInBounds_toArray, List.set_cons_zero, List.set_cons_succ]
    refine wpAnyH_take (i := 2) (v := ?_) rfl (by kernel_rfl) (by kernel_rfl) (by kernel_rfl) (fun _ _ _ h => h) (Or.inl ⟨by rfl, ?_⟩) hHeld ?_
    rotate_left
    · (intro W hSw; (try dsimp only at hSw); go_simp; all_goals (with_reducible rfl))
    simp only [List.getElem_toArray, List.getElem_cons_zero, List.getElem_cons_succ, Act.put, List.setIfInBounds_toArray, List.set_cons_zero, List.set_cons_succ]
    refine wpAnyH_take (i := 3) (v := ?_) rfl (by kernel_rfl) (by kernel_rfl) (by kernel_rfl) (fun _ _ _ h => h) (Or.inl ⟨by rfl, ?_⟩) hHeld ?_
    rotate_left
    · (intro W hSw; (try dsimp only at hSw); go_simp; all_goals (with_reducible rfl))
    simp only [List.getElem_toArray, List.getElem_cons_zero, List.getElem_cons_succ, Act.put, List.setIfInBounds_toArray, List.set_cons_zero, List.set_cons_succ]
    refine wpAnyH_take (i := 5) (v := ?_) rfl (by kernel_rfl) (by kernel_rfl) (by kernel_rfl) (fun _ _ _ h => h) (Or.inl ⟨by rfl, ?_⟩) hHeld ?_
    rotate_left
    · (intro W hSw; (try dsimp only at hSw); go_simp; all_goals (with_reducible rfl))
    simp only [List.getElem_toArray, List.getElem_cons_zero, List.getElem_cons_succ, Act.put, List.setIfInBounds_toArray, List.set_cons_zero, List.set_cons_succ]
    refine wpAnyH_take (i := 6) (v := ?_) rfl (by kernel_rfl) (by kernel_rfl) (by kernel_rfl) (fun _ _ _ h => h) (Or.inl ⟨by rfl, ?_⟩) hHeld ?_
    rotate_left
    · (intro W hSw; (try dsimp only at hSw); go_simp; all_goals (with_reducible rfl))
    simp only [List.getElem_toArray, List.getElem_cons_zero, List.getElem_cons_succ, Act.put, List.setIfInBounds_toArray, List.set_cons_zero, List.set_cons_succ]
    refine wpAnyH_ready (rs := [4, 8, 9]) (by kernel_rfl) (by simp) ?_
    refine AllReadyH.cons rfl (fun K hK => ?_) (AllReadyH.cons rfl (fun K hK => ?_) (AllReadyH.cons rfl (fun K hK => ?_) AllReadyH.nil))
    ·
      simp only [List.getElem_toArray, List.getElem_cons_zero, List.getElem_cons_succ]
      go_simp
      refine (CA _ (HT.out.to B0)).mono ?_
      rintro e x2 ⟨se, ae, le, ce, ze, be, me, de, ye, rfl, ha, hb⟩
      replace V0 := Va.after hb V0
      replace B0 := step B0 hb
      clear hb
      try go_wp2_with fail
      refine hK.out _ _ ⟨V0.f0, V0.f1, V0.f2, V0.f3, V0.f4⟩ (fun hHeld => ?_)
      clear hK K
      refine wpAnyH_ready (rs := [7, 8, 9]) (by kernel_rfl) (by simp) ?_
      refine AllReadyH.cons rfl (fun K hK => ?_) (AllReadyH.cons rfl (fun K hK => ?_) (AllReadyH.cons rfl (fun K hK => ?_) AllReadyH.nil))
      ·
        simp only [List.getElem_toArray, List.getElem_cons_zero, List.getElem_cons_succ]
        go_simp
        refine (CQ _ (HT.out.to B0)).mono ?_
        rintro e x3 ⟨su, au, lu, cu, zu, bu, mu, du, yu, rfl, hu, hb⟩
        replace V0 := Va.after hb V0
        replace ha := Rt.after hb ha
        replace B0 := step B0 hb
        clear hb
        try go_wp2_with fail
        refine hK.out _ _ ⟨V0.f0, V0.f1, V0.f2, V0.f3, V0.f4⟩ (fun hHeld => ?_)
        clear hK K
        refine wpAnyH_ready (rs := [8, 9]) (by kernel_rfl) (by simp) ?_
        refine AllReadyH.cons rfl (fun K hK => ?_) (AllReadyH.cons rfl (fun K hK => ?_) AllReadyH.nil)
        ·
          simp only [List.getElem_toArray, List.getElem_cons_zero, List.getElem_cons_succ]
          go_simp
          have lt_Va1_V0 := V0.lt
          have sz_Va1 := B0.size
          refine ent1 _ _ _ (Q := fun V => K _ V) ?_
          intro x4 hb hs_ Va1
          replace V0 := Va.after hb V0
          replace ha := Rt.after hb ha
          replace hu := Rt.after hb hu
          replace B0 := step B0 hb
          clear hb hs_
          refine hK.out _ _ ⟨V0.f0, V0.f1, V0.f2, V0.f3, V0.f4⟩ (fun hHeld => ?_)
          clear hK K
          refine wpAnyH_ready (rs := [9]) (by kernel_rfl) (by simp) ?_
          refine AllReadyH.cons rfl (fun K hK => ?_) AllReadyH.nil
          ·
            simp only [List.getElem_toArray, List.getElem_cons_zero, List.getElem_cons_succ]
            go_simp
            have lt_Vq1_V0 := V0.lt
            have lt_Vq1_Va1 := Va1.lt
            have sz_Vq1 := B0.size
            refine ent1 _ _ _ (Q := fun V => K _ V) ?_
            intro x5 hb hs_ Vq1
            replace V0 := Va.after hb V0
            replace Va1 := Va.after hb Va1
            replace ha := Rt.after hb ha
            replace hu := Rt.after hb hu
            replace B0 := step B0 hb
            clear hb hs_
            refine hK.out _ _ ⟨V0.f0, V0.f1, V0.f2, V0.f3, V0.f4⟩ (fun hHeld => ?_)
            clear hK K
            have c_Va1 := Va1.d0
            have f0_Va1 := Va1.frozen 0
            have d_Va1 := Va1.d1
            have f1_Va1 := Va1.frozen 1
            have e_Va1 := Va1.d2
            have f2_Va1 := Va1.frozen 2
            have l_Va1 := Va1.lt
            have m_Va1 := Nat.le_of_lt l_Va1
            refine wpAnyH_ready (rs := [10]) (by kernel_rfl) (by simp) ?_
            refine AllReadyH.cons rfl (fun K hK => ?_) AllReadyH.nil
            simp only [List.getElem_toArray, List.getElem_cons_zero, List.getElem_cons_succ]
            go_simp
            clear c_Va1 f0_Va1 d_Va1 f1_Va1 e_Va1 f2_Va1 l_Va1 m_Va1
            refine sto3 Va1 (.bool se) (.slice ae le ce) (.slice be me de) (Q := fun W => K _ W) ?_
            intro x6 V' oth far
            replace V0 := oth _ _ _ (by first | omega | assumption | (simp; omega)) V0
            replace Vq1 := oth _ _ _ (by first | omega | assumption | (simp; omega)) Vq1
            replace ha := ha.far Va1 (noInt3 _ _ _ _ _ _ _) far.1
            replace hu := hu.far Va1 (noInt3 _ _ _ _ _ _ _) far.1
            replace B0 := far.2 _ _ (by first | omega | (simp; omega)) B0
            replace Va1 := V'
            clear oth far
            refine hK.out _ _ ⟨V0.f0, V0.f1, V0.f2, V0.f3, V0.f4⟩ (fun hHeld => ?_)
            clear hK K
            have c_Vq1 := Vq1.d0
            have f0_Vq1 := Vq1.frozen 0
            have d_Vq1 := Vq1.d1
            have f1_Vq1 := Vq1.frozen 1
            have e_Vq1 := Vq1.d2
            have f2_Vq1 := Vq1.frozen 2
            have l_Vq1 := Vq1.lt
            have m_Vq1 := Nat.le_of_lt l_Vq1
            refine wpAnyH_ready (rs := [11]) (by kernel_rfl) (by simp) ?_
            refine AllReadyH.cons rfl (fun K hK => ?_) AllReadyH.nil
            simp only [List.getElem_toArray, List.getElem_cons_zero, List.getElem_cons_succ]
            go_simp
            clear c_Vq1 f0_Vq1 d_Vq1 f1_Vq1 e_Vq1 f2_Vq1 l_Vq1 m_Vq1
            refine sto3 Vq1 (.bool su) (.slice au lu cu) (.slice bu mu du) (Q := fun W => K _ W) ?_
            intro x7 V' oth far
            replace V0 := oth _ _ _ (by first | omega | assumption | (simp; omega)) V0
            replace Va1 := oth _ _ _ (by first | omega | assumption | (simp; omega)) Va1
            replace ha := ha.far Vq1 (noInt3 _ _ _ _ _ _ _) far.1
            replace hu := hu.far Vq1 (noInt3 _ _ _ _ _ _ _) far.1
            replace B0 := far.2 _ _ (by first | omega | (simp; omega)) B0
            replace Vq1 := V'
            clear oth far
            refine hK.out _ _ ⟨V0.f0, V0.f1, V0.f2, V0.f3, V0.f4⟩ (fun hHeld => ?_)
            clear hK K
            refine wpAnyH_done (by kernel_rfl) ?_ _
            refine NoPanic.normal ?_
            clear hHeld
            go_wp2_with fail
            go_meet
            exact ⟨_, _, se, ae, le, ce, ze, be, me, de, ye, su, au, lu, cu, zu, bu, mu, du, yu, rfl, rfl, Va1, Vq1, V0, ha, hu, B0, ⟨by omega, by omega, by omega⟩⟩
        ·
          simp only [List.getElem_toArray, List.getElem_cons_zero, List.getElem_cons_succ]
          go_simp
          have lt_Vq1_V0 := V0.lt
          have sz_Vq1 := B0.size
          refine ent1 _ _ _ (Q := fun V => K _ V) ?_
          intro x4 hb hs_ Vq1
          replace V0 := Va.after hb V0
          replace ha := Rt.after hb ha
          replace hu := Rt.after hb hu
          replace B0 := step B0 hb
          clear hb hs_
          refine hK.out _ _ ⟨V0.f0, V0.f1, V0.f2, V0.f3, V0.f4⟩ (fun hHeld => ?_)
          clear hK K
          refine wpAnyH_ready (rs := [8]) (by kernel_rfl) (by simp) ?_
          refine AllReadyH.cons rfl (fun K hK => ?_) AllReadyH.nil
          ·
            simp only [List.getElem_toArray, List.getElem_cons_zero, List.getElem_cons_succ]
            go_simp
            have lt_Va1_V0 := V0.lt
            have lt_Va1_Vq1 := Vq1.lt
            have sz_Va1 := B0.size
            refine ent1 _ _ _ (Q := fun V => K _ V) ?_
            intro x5 hb hs_ Va1
            replace V0 := Va.after hb V0
            replace Vq1 := Va.after hb Vq1
            replace ha := Rt.after hb ha
            replace hu := Rt.after hb hu
            replace B0 := step B0 hb
            clear hb hs_
            refine hK.out _ _ ⟨V0.f0, V0.f1, V0.f2, V0.f3, V0.f4⟩ (fun hHeld => ?_)
            clear hK K
            have c_Va1 := Va1.d0
            have f0_Va1 := Va1.frozen 0
            have d_Va1 := Va1.d1
            have f1_Va1 := Va1.frozen 1
            have e_Va1 := Va1.d2
            have f2_Va1 := Va1.frozen 2
            have l_Va1 := Va1.lt
            have m_Va1 := Nat.le_of_lt l_Va1
            refine wpAnyH_ready (rs := [10]) (by kernel_rfl) (by simp) ?_
            refine AllReadyH.cons rfl (fun K hK => ?_) AllReadyH.nil
            simp only [List.getElem_toArray, List.getElem_cons_zero, List.getElem_cons_succ]
            go_simp
            clear c_Va1 f0_Va1 d_Va1 f1_Va1 e_Va1 f2_Va1 l_Va1 m_Va1
            refine sto3 Va1 (.bool se) (.slice ae le ce) (.slice be me de) (Q := fun W => K _ W) ?_
            intro x6 V' oth far
            replace V0 := oth _ _ _ (by first | omega | assumption | (simp; omega)) V0
            replace Vq1 := oth _ _ _ (by first | omega | assumption | (simp; omega)) Vq1
            replace ha := ha.far Va1 (noInt3 _ _ _ _ _ _ _) far.1
            replace hu := hu.far Va1 (noInt3 _ _ _ _ _ _ _) far.1
            replace B0 := far.2 _ _ (by first | omega | (simp; omega)) B0
            replace Va1 := V'
            clear oth far
            refine hK.out _ _ ⟨V0.f0, V0.f1, V0.f2, V0.f3, V0.f4⟩ (fun hHeld => ?_)
            clear hK K
            have c_Vq1 := Vq1.d0
            have f0_Vq1 := Vq1.frozen 0
            have d_Vq1 := Vq1.d1
            have f1_Vq1 := Vq1.frozen 1
            have e_Vq1 := Vq1.d2
            have f2_Vq1 := Vq1.frozen 2
            have l_Vq1 := Vq1.lt
            have m_Vq1 := Nat.le_of_lt l_Vq1
            refine wpAnyH_ready (rs := [11]) (by kernel_rfl) (by simp) ?_
            refine AllReadyH.cons rfl (fun K hK => ?_) AllReadyH.nil
            simp only [List.getElem_toArray, List.getElem_cons_zero, List.getElem_cons_succ]
            go_simp
            clear c_Vq1 f0_Vq1 d_Vq1 f1_Vq1 e_Vq1 f2_Vq1 l_Vq1 m_Vq1
            refine sto3 Vq1 (.bool su) (.slice au lu cu) (.slice bu mu du) (Q := fun W => K _ W) ?_
            intro x7 V' oth far
            replace V0 := oth _ _ _ (by first | omega | assumption | (simp; omega)) V0
            replace Va1 := oth _ _ _ (by first | omega | assumption | (simp; omega)) Va1
            replace ha := ha.far Vq1 (noInt3 _ _ _ _ _ _ _) far.1
            replace hu := hu.far Vq1 (noInt3 _ _ _ _ _ _ _) far.1
            replace B0 := far.2 _ _ (by first | omega | (simp; omega)) B0
            replace Vq1 := V'
            clear oth far
            refine hK.out _ _ ⟨V0.f0, V0.f1, V0.f2, V0.f3, V0.f4⟩ (fun hHeld => ?_)
            clear hK K
            refine wpAnyH_done (by kernel_rfl) ?_ _
            refine NoPanic.normal ?_
            clear hHeld
            go_wp2_with fail
            go_meet
            exact ⟨_, _, se, ae, le, ce, ze, be, me, de, ye, su, au, lu, cu, zu, bu, mu, du, yu, rfl, rfl, Va1, Vq1, V0, ha, hu, B0, ⟨by omega, by omega, by omega⟩⟩
      ·
        simp only [List.getElem_toArray, List.getElem_cons_zero, List.getElem_cons_succ]
        go_simp
        have lt_Va1_V0 := V0.lt
        have sz_Va1 := B0.size
        refine ent1 _ _ _ (Q := fun V => K _ V) ?_
        intro x3 hb hs_ Va1
        replace V0 := Va.after hb V0
        replace ha := Rt.after hb ha
        replace B0 := step B0 hb
        clear hb hs_
        refine hK.out _ _ ⟨V0.f0, V0.f1, V0.f2, V0.f3, V0.f4⟩ (fun hHeld => ?_)
        clear hK K
        refine wpAnyH_ready (rs := [7, 9]) (by kernel_rfl) (by simp) ?_
        refine AllReadyH.cons rfl (fun K hK => ?_) (AllReadyH.cons rfl (fun K hK => ?_) AllReadyH.nil)
        ·
          simp only [List.getElem_toArray, List.getElem_cons_zero, List.getElem_cons_succ]
          go_simp
          refine (CQ _ (HT.out.to B0)).mono ?_
          rintro e x4 ⟨su, au, lu, cu, zu, bu, mu, du, yu, rfl, hu, hb⟩
          replace V0 := Va.after hb V0
          replace Va1 := Va.after hb Va1
          replace ha := Rt.after hb ha
          replace B0 := step B0 hb
          clear hb
          try go_wp2_with fail
          refine hK.out _ _ ⟨V0.f0, V0.f1, V0.f2, V0.f3, V0.f4⟩ (fun hHeld => ?_)
          clear hK K
          refine wpAnyH_ready (rs := [9]) (by kernel_rfl) (by simp) ?_
          refine AllReadyH.cons rfl (fun K hK => ?_) AllReadyH.nil
          ·
            simp only [List.getElem_toArray, List.getElem_cons_zero, List.getElem_cons_succ]
            go_simp
            have lt_Vq1_V0 := V0.lt
            have lt_Vq1_Va1 := Va1.lt
            have sz_Vq1 := B0.size
            refine ent1 _ _ _ (Q := fun V => K _ V) ?_
            intro x5 hb hs_ Vq1
            replace V0 := Va.after hb V0
            replace Va1 := Va.after hb Va1
            replace ha := Rt.after hb ha
            replace hu := Rt.after hb hu
            replace B0 := step B0 hb
            clear hb hs_
            refine hK.out _ _ ⟨V0.f0, V0.f1, V0.f2, V0.f3, V0.f4⟩ (fun hHeld => ?_)
            clear hK K
            have c_Va1 := Va1.d0
            have f0_Va1 := Va1.frozen 0
            have d_Va1 := Va1.d1
            have f1_Va1 := Va1.frozen 1
            have e_Va1 := Va1.d2
            have f2_Va1 := Va1.frozen 2
            have l_Va1 := Va1.lt
            have m_Va1 := Nat.le_of_lt l_Va1
            refine wpAnyH_ready (rs := [10]) (by kernel_rfl) (by simp) ?_
            refine AllReadyH.cons rfl (fun K hK => ?_) AllReadyH.nil
            simp only [List.getElem_toArray, List.getElem_cons_zero, List.getElem_cons_succ]
            go_simp
            clear c_Va1 f0_Va1 d_Va1 f1_Va1 e_Va1 f2_Va1 l_Va1 m_Va1
            refine sto3 Va1 (.bool se) (.slice ae le ce) (.slice be me de) (Q := fun W => K _ W) ?_
            intro x6 V' oth far
            replace V0 := oth _ _ _ (by first | omega | assumption | (simp; omega)) V0
            replace Vq1 := oth _ _ _ (by first | omega | assumption | (simp; omega)) Vq1
            replace ha := ha.far Va1 (noInt3 _ _ _ _ _ _ _) far.1
            replace hu := hu.far Va1 (noInt3 _ _ _ _ _ _ _) far.1
            replace B0 := far.2 _ _ (by first | omega | (simp; omega)) B0
            replace Va1 := V'
            clear oth far
            refine hK.out _ _ ⟨V0.f0, V0.f1, V0.f2, V0.f3, V0.f4⟩ (fun hHeld => ?_)
            clear hK K
            have c_Vq1 := Vq1.d0
            have f0_Vq1 := Vq1.frozen 0
            have d_Vq1 := Vq1.d1
            have f1_Vq1 := Vq1.frozen 1
            have e_Vq1 := Vq1.d2
            have f2_Vq1 := Vq1.frozen 2
            have l_Vq1 := Vq1.lt
            have m_Vq1 := Nat.le_of_lt l_Vq1
            refine wpAnyH_ready (rs := [11]) (by kernel_rfl) (by simp) ?_
            refine AllReadyH.cons rfl (fun K hK => ?_) AllReadyH.nil
            simp only [List.getElem_toArray, List.getElem_cons_zero, List.getElem_cons_succ]
            go_simp
            clear c_Vq1 f0_Vq1 d_Vq1 f1_Vq1 e_Vq1 f2_Vq1 l_Vq1 m_Vq1
            refine sto3 Vq1 (.bool su) (.slice au lu cu) (.slice bu mu du) (Q := fun W => K _ W) ?_
            intro x7 V' oth far
            replace V0 := oth _ _ _ (by first | omega | assumption | (simp; omega)) V0
            replace Va1 := oth _ _ _ (by first | omega | assumption | (simp; omega)) Va1
            replace ha := ha.far Vq1 (noInt3 _ _ _ _ _ _ _) far.1
            replace hu := hu.far Vq1 (noInt3 _ _ _ _ _ _ _) far.1
            replace B0 := far.2 _ _ (by first | omega | (simp; omega)) B0
            replace Vq1 := V'
            clear oth far
            refine hK.out _ _ ⟨V0.f0, V0.f1, V0.f2, V0.f3, V0.f4⟩ (fun hHeld => ?_)
            clear hK K
            refine wpAnyH_done (by kernel_rfl) ?_ _
            refine NoPanic.normal ?_
            clear hHeld
            go_wp2_with fail
            go_meet
            exact ⟨_, _, se, ae, le, ce, ze, be, me, de, ye, su, au, lu, cu, zu, bu, mu, du, yu, rfl, rfl, Va1, Vq1, V0, ha, hu, B0, ⟨by omega, by omega, by omega⟩⟩
        ·
          simp only [List.getElem_toArray, List.getElem_cons_zero, List.getElem_cons_succ]
          go_simp
          have lt_Vq1_V0 := V0.lt
          have lt_Vq1_Va1 := Va1.lt
          have sz_Vq1 := B0.size
          refine ent1 _ _ _ (Q := fun V => K _ V) ?_
          intro x4 hb hs_ Vq1
          replace V0 := Va.after hb V0
          replace Va1 := Va.after hb Va1
          replace ha := Rt.after hb ha
          replace B0 := step B0 hb
          clear hb hs_
          refine hK.out _ _ ⟨V0.f0, V0.f1, V0.f2, V0.f3, V0.f4⟩ (fun hHeld => ?_)
          clear hK K
          refine wpAnyH_ready (rs := [7]) (by kernel_rfl) (by simp) ?_
          refine AllReadyH.cons rfl (fun K hK => ?_) AllReadyH.nil
          ·
            simp only [List.getElem_toArray, List.getElem_cons_zero, List.getElem_cons_succ]
            go_simp
            refine (CQ _ (HT.out.to B0)).mono ?_
            rintro e x5 ⟨su, au, lu, cu, zu, bu, mu, du, yu, rfl, hu, hb⟩
            replace V0 := Va.after hb V0
            replace Va1 := Va.after hb Va1
            replace Vq1 := Va.after hb Vq1
            replace ha := Rt.after hb ha
            replace B0 := step B0 hb
            clear hb
            try go_wp2_with fail
            refine hK.out _ _ ⟨V0.f0, V0.f1, V0.f2, V0.f3, V0.f4⟩ (fun hHeld => ?_)
            clear hK K
            have c_Va1 := Va1.d0
            have f0_Va1 := Va1.frozen 0
            have d_Va1 := Va1.d1
            have f1_Va1 := Va1.frozen 1
            have e_Va1 := Va1.d2
            have f2_Va1 := Va1.frozen 2
            have l_Va1 := Va1.lt
            have m_Va1 := Nat.le_of_lt l_Va1
            refine wpAnyH_ready (rs := [10]) (by kernel_rfl) (by simp) ?_
            refine AllReadyH.cons rfl (fun K hK => ?_) AllReadyH.nil
            simp only [List.getElem_toArray, List.getElem_cons_zero, List.getElem_cons_succ]
            go_simp
            clear c_Va1 f0_Va1 d_Va1 f1_Va1 e_Va1 f2_Va1 l_Va1 m_Va1
            refine sto3 Va1 (.bool se) (.slice ae le ce) (.slice be me de) (Q := fun W => K _ W) ?_
            intro x6 V' oth far
            replace V0 := oth _ _ _ (by first | omega | assumption | (simp; omega)) V0
            replace Vq1 := oth _ _ _ (by first | omega | assumption | (simp; omega)) Vq1
            replace ha := ha.far Va1 (noInt3 _ _ _ _ _ _ _) far.1
            replace hu := hu.far Va1 (noInt3 _ _ _ _ _ _ _) far.1
            replace B0 := far.2 _ _ (by first | omega | (simp; omega)) B0
            replace Va1 := V'
            clear oth far
            refine hK.out _ _ ⟨V0.f0, V0.f1, V0.f2, V0.f3, V0.f4⟩ (fun hHeld => ?_)
            clear hK K
            have c_Vq1 := Vq1.d0
            have f0_Vq1 := Vq1.frozen 0
            have d_Vq1 := Vq1.d1
            have f1_Vq1 := Vq1.frozen 1
            have e_Vq1 := Vq1.d2
            have f2_Vq1 := Vq1.frozen 2
            have l_Vq1 := Vq1.lt
            have m_Vq1 := Nat.le_of_lt l_Vq1
            refine wpAnyH_ready (rs := [11]) (by kernel_rfl) (by simp) ?_
            refine AllReadyH.cons rfl (fun K hK => ?_) AllReadyH.nil
            simp only [List.getElem_toArray, List.getElem_cons_zero, List.getElem_cons_succ]
            go_simp
            clear c_Vq1 f0_Vq1 d_Vq1 f1_Vq1 e_Vq1 f2_Vq1 l_Vq1 m_Vq1
            refine sto3 Vq1 (.bool su) (.slice au lu cu) (.slice bu mu du) (Q := fun W => K _ W) ?_
            intro x7 V' oth far
            replace V0 := oth _ _ _ (by first | omega | assumption | (simp; omega)) V0
            replace Va1 := oth _ _ _ (by first | omega | assumption | (simp; omega)) Va1
            replace ha := ha.far Vq1 (noInt3 _ _ _ _ _ _ _) far.1
            replace hu := hu.far Vq1 (noInt3 _ _ _ _ _ _ _) far.1
            replace B0 := far.2 _ _ (by first | omega | (simp; omega)) B0
            replace Vq1 := V'
            clear oth far
            refine hK.out _ _ ⟨V0.f0, V0.f1, V0.f2, V0.f3, V0.f4⟩ (fun hHeld => ?_)
            clear hK K
            refine wpAnyH_done (by kernel_rfl) ?_ _
            refine NoPanic.normal ?_
            clear hHeld
            go_wp2_with fail
            go_meet
            exact ⟨_, _, se, ae, le, ce, ze, be, me, de, ye, su, au, lu, cu, zu, bu, mu, du, yu, rfl, rfl, Va1, Vq1, V0, ha, hu, B0, ⟨by omega, by omega, by omega⟩⟩
      ·
        simp only [List.getElem_toArray, List.getElem_cons_zero, List.getElem_cons_succ]
        go_simp
        have lt_Vq1_V0 := V0.lt
        have sz_Vq1 := B0.size
        refine ent1 _ _ _ (Q := fun V => K _ V) ?_
        intro x3 hb hs_ Vq1
        replace V0 := Va.after hb V0
        replace ha := Rt.after hb ha
        replace B0 := step B0 hb
        clear hb hs_
        refine hK.out _ _ ⟨V0.f0, V0.f1, V0.f2, V0.f3, V0.f4⟩ (fun hHeld => ?_)
        clear hK K
        refine wpAnyH_ready (rs := [7, 8]) (by kernel_rfl) (by simp) ?_
        refine AllReadyH.cons rfl (fun K hK => ?_) (AllReadyH.cons rfl (fun K hK => ?_) AllReadyH.nil)
        ·
          simp only [List.getElem_toArray, List.getElem_cons_zero, List.getElem_cons_succ]
          go_simp
          refine (CQ _ (HT.out.to B0)).mono ?_
          rintro e x4 ⟨su, au, lu, cu, zu, bu, mu, du, yu, rfl, hu, hb⟩
          replace V0 := Va.after hb V0
          replace Vq1 := Va.after hb Vq1
          replace ha := Rt.after hb ha
          replace B0 := step B0 hb
          clear hb
          try go_wp2_with fail
          refine hK.out _ _ ⟨V0.f0, V0.f1, V0.f2, V0.f3, V0.f4⟩ (fun hHeld => ?_)
          clear hK K
          refine wpAnyH_ready (rs := [8]) (by kernel_rfl) (by simp) ?_
          refine AllReadyH.cons rfl (fun K hK => ?_) AllReadyH.nil
          ·
            simp only [List.getElem_toArray, List.getElem_cons_zero, List.getElem_cons_succ]
            go_simp
            have lt_Va1_V0 := V0.lt
            have lt_Va1_Vq1 := Vq1.lt
            have sz_Va1 := B0.size
            refine ent1 _ _ _ (Q := fun V => K _ V) ?_
            intro x5 hb hs_ Va1
            replace V0 := Va.after hb V0
            replace Vq1 := Va.after hb Vq1
            replace ha := Rt.after hb ha
            replace hu := Rt.after hb hu
            replace B0 := step B0 hb
            clear hb hs_
            refine hK.out _ _ ⟨V0.f0, V0.f1, V0.f2, V0.f3, V0.f4⟩ (fun hHeld => ?_)
            clear hK K
            have c_Va1 := Va1.d0
            have f0_Va1 := Va1.frozen 0
            have d_Va1 := Va1.d1
            have f1_Va1 := Va1.frozen 1
            have e_Va1 := Va1.d2
            have f2_Va1 := Va1.frozen 2
            have l_Va1 := Va1.lt
            have m_Va1 := Nat.le_of_lt l_Va1
            refine wpAnyH_ready (rs := [10]) (by kernel_rfl) (by simp) ?_
            refine AllReadyH.cons rfl (fun K hK => ?_) AllReadyH.nil
            simp only [List.getElem_toArray, List.getElem_cons_zero, List.getElem_cons_succ]
            go_simp
            clear c_Va1 f0_Va1 d_Va1 f1_Va1 e_Va1 f2_Va1 l_Va1 m_Va1
            refine sto3 Va1 (.bool se) (.slice ae le ce) (.slice be me de) (Q := fun W => K _ W) ?_
            intro x6 V' oth far
            replace V0 := oth _ _ _ (by first | omega | assumption | (simp; omega)) V0
            replace Vq1 := oth _ _ _ (by first | omega | assumption | (simp; omega)) Vq1
            replace ha := ha.far Va1 (noInt3 _ _ _ _ _ _ _) far.1
            replace hu := hu.far Va1 (noInt3 _ _ _ _ _ _ _) far.1
            replace B0 := far.2 _ _ (by first | omega | (simp; omega)) B0
            replace Va1 := V'
            clear oth far
            refine hK.out _ _ ⟨V0.f0, V0.f1, V0.f2, V0.f3, V0.f4⟩ (fun hHeld => ?_)
            clear hK K
            have c_Vq1 := Vq1.d0
            have f0_Vq1 := Vq1.frozen 0
            have d_Vq1 := Vq1.d1
            have f1_Vq1 := Vq1.frozen 1
            have e_Vq1 := Vq1.d2
            have f2_Vq1 := Vq1.frozen 2
            have l_Vq1 := Vq1.lt
            have m_Vq1 := Nat.le_of_lt l_Vq1
            refine wpAnyH_ready (rs := [11]) (by kernel_rfl) (by simp) ?_
            refine AllReadyH.cons rfl (fun K hK => ?_) AllReadyH.nil
            simp only [List.getElem_toArray, List.getElem_cons_zero, List.getElem_cons_succ]
            go_simp
            clear c_Vq1 f0_Vq1 d_Vq1 f1_Vq1 e_Vq1 f2_Vq1 l_Vq1 m_Vq1
            refine sto3 Vq1 (.bool su) (.slice au lu cu) (.slice bu mu du) (Q := fun W => K _ W) ?_
            intro x7 V' oth far
            replace V0 := oth _ _ _ (by first | omega | assumption | (simp; omega)) V0
            replace Va1 := oth _ _ _ (by first | omega | assumption | (simp; omega)) Va1
            replace ha := ha.far Vq1 (noInt3 _ _ _ _ _ _ _) far.1
            replace hu := hu.far Vq1 (noInt3 _ _ _ _ _ _ _) far.1
            replace B0 := far.2 _ _ (by first | omega | (simp; omega)) B0
            replace Vq1 := V'
            clear oth far
            refine hK.out _ _ ⟨V0.f0, V0.f1, V0.f2, V0.f3, V0.f4⟩ (fun hHeld => ?_)
            clear hK K
            refine wpAnyH_done (by kernel_rfl) ?_ _
            refine NoPanic.normal ?_
            clear hHeld
            go_wp2_with fail
            go_meet
            exact ⟨_, _, se, ae, le, ce, ze, be, me, de, ye, su, au, lu, cu, zu, bu, mu, du, yu, rfl, rfl, Va1, Vq1, V0, ha, hu, B0, ⟨by omega, by omega, by omega⟩⟩
        ·
          simp only [List.getElem_toArray, List.getElem_cons_zero, List.getElem_cons_succ]
          go_simp
          have lt_Va1_V0 := V0.lt
          have lt_Va1_Vq1 := Vq1.lt
          have sz_Va1 := B0.size
          refine ent1 _ _ _ (Q := fun V => K _ V) ?_
          intro x4 hb hs_ Va1
          replace V0 := Va.after hb V0
          replace Vq1 := Va.after hb Vq1
          replace ha := Rt.after hb ha
          replace B0 := step B0 hb
          clear hb hs_
          refine hK.out _ _ ⟨V0.f0, V0.f1, V0.f2, V0.f3, V0.f4⟩ (fun hHeld => ?_)
          clear hK K
          refine wpAnyH_ready (rs := [7]) (by kernel_rfl) (by simp) ?_
          refine AllReadyH.cons rfl (fun K hK => ?_) AllReadyH.nil
          ·
            simp only [List.getElem_toArray, List.getElem_cons_zero, List.getElem_cons_succ]
            go_simp
            refine (CQ _ (HT.out.to B0)).mono ?_
            rintro e x5 ⟨su, au, lu, cu, zu, bu, mu, du, yu, rfl, hu, hb⟩
            replace V0 := Va.after hb V0
            replace Vq1 := Va.after hb Vq1
            replace Va1 := Va.after hb Va1
            replace ha := Rt.after hb ha
            replace B0 := step B0 hb
            clear hb
            try go_wp2_with fail
            refine hK.out _ _ ⟨V0.f0, V0.f1, V0.f2, V0.f3, V0.f4⟩ (fun hHeld => ?_)
            clear hK K
            have c_Va1 := Va1.d0
            have f0_Va1 := Va1.frozen 0
            have d_Va1 := Va1.d1
            have f1_Va1 := Va1.frozen 1
            have e_Va1 := Va1.d2
            have f2_Va1 := Va1.frozen 2
            have l_Va1 := Va1.lt
            have m_Va1 := Nat.le_of_lt l_Va1
            refine wpAnyH_ready (rs := [10]) (by kernel_rfl) (by simp) ?_
            refine AllReadyH.cons rfl (fun K hK => ?_) AllReadyH.nil
            simp only [List.getElem_toArray, List.getElem_cons_zero, List.getElem_cons_succ]
            go_simp
            clear c_Va1 f0_Va1 d_Va1 f1_Va1 e_Va1 f2_Va1 l_Va1 m_Va1
            refine sto3 Va1 (.bool se) (.slice ae le ce) (.slice be me de) (Q := fun W => K _ W) ?_
            intro x6 V' oth far
            replace V0 := oth _ _ _ (by first | omega | assumption | (simp; omega)) V0
            replace Vq1 := oth _ _ _ (by first | omega | assumption | (simp; omega)) Vq1
            replace ha := ha.far Va1 (noInt3 _ _ _ _ _ _ _) far.1
            replace hu := hu.far Va1 (noInt3 _ _ _ _ _ _ _) far.1
            replace B0 := far.2 _ _ (by first | omega | (simp; omega)) B0
            replace Va1 := V'
            clear oth far
            refine hK.out _ _ ⟨V0.f0, V0.f1, V0.f2, V0.f3, V0.f4⟩ (fun hHeld => ?_)
            clear hK K
            have c_Vq1 := Vq1.d0
            have f0_Vq1 := Vq1.frozen 0
            have d_Vq1 := Vq1.d1
            have f1_Vq1 := Vq1.frozen 1
            have e_Vq1 := Vq1.d2
            have f2_Vq1 := Vq1.frozen 2
            have l_Vq1 := Vq1.lt
            have m_Vq1 := Nat.le_of_lt l_Vq1
            refine wpAnyH_ready (rs := [11]) (by kernel_rfl) (by simp) ?_
            refine AllReadyH.cons rfl (fun K hK => ?_) AllReadyH.nil
            simp only [List.getElem_toArray, List.getElem_cons_zero, List.getElem_cons_succ]
            go_simp
            clear c_Vq1 f0_Vq1 d_Vq1 f1_Vq1 e_Vq1 f2_Vq1 l_Vq1 m_Vq1
            refine sto3 Vq1 (.bool su) (.slice au lu cu) (.slice bu mu du) (Q := fun W => K _ W) ?_
            intro x7 V' oth far
            replace V0 := oth _ _ _ (by first | omega | assumption | (simp; omega)) V0
            replace Va1 := oth _ _ _ (by first | omega | assumption | (simp; omega)) Va1
            replace ha := ha.far Vq1 (noInt3 _ _ _ _ _ _ _) far.1
            replace hu := hu.far Vq1 (noInt3 _ _ _ _ _ _ _) far.1
            replace B0 := far.2 _ _ (by first | omega | (simp; omega)) B0
            replace Vq1 := V'
            clear oth far
            refine hK.out _ _ ⟨V0.f0, V0.f1, V0.f2, V0.f3, V0.f4⟩ (fun hHeld => ?_)
            clear hK K
            refine wpAnyH_done (by kernel_rfl) ?_ _
            refine NoPanic.normal ?_
            clear hHeld
            go_wp2_with fail
            go_meet
            exact ⟨_, _, se, ae, le, ce, ze, be, me, de, ye, su, au, lu, cu, zu, bu, mu, du, yu, rfl, rfl, Va1, Vq1, V0, ha, hu, B0, ⟨by omega, by omega, by omega⟩⟩
    ·
      simp only [List.getElem_toArray, List.getElem_cons_zero, List.getElem_cons_succ]
      go_simp
      have lt_Va1_V0 := V0.lt
      have sz_Va1 := B0.size
      refine ent1 _ _ _ (Q := fun V => K _ V) ?_
      intro x2 hb hs_ Va1
      replace V0 := Va.after hb V0
      replace B0 := step B0 hb
      clear hb hs_
      refine hK.out _ _ ⟨V0.f0, V0.f1, V0.f2, V0.f3, V0.f4⟩ (fun hHeld => ?_)
      clear hK K
      refine wpAnyH_ready (rs := [4, 9]) (by kernel_rfl) (by simp) ?_
      refine AllReadyH.cons rfl (fun K hK => ?_) (AllReadyH.cons rfl (fun K hK => ?_) AllReadyH.nil)
      ·
        simp only [List.getElem_toArray, List.getElem_cons_zero, List.getElem_cons_succ]
        go_simp
        refine (CA _ (HT.out.to B0)).mono ?_
        rintro e x3 ⟨se, ae, le, ce, ze, be, me, de, ye, rfl, ha, hb⟩
        replace V0 := Va.after hb V0
        replace Va1 := Va.after hb Va1
        replace B0 := step B0 hb
        clear hb
        try go_wp2_with fail
        refine hK.out _ _ ⟨V0.f0, V0.f1, V0.f2, V0.f3, V0.f4⟩ (fun hHeld => ?_)
        clear hK K
        refine wpAnyH_ready (rs := [7, 9]) (by kernel_rfl) (by simp) ?_
        refine AllReadyH.cons rfl (fun K hK => ?_) (AllReadyH.cons rfl (fun K hK => ?_) AllReadyH.nil)
        ·
          simp only [List.getElem_toArray, List.getElem_cons_zero, List.getElem_cons_succ]
          go_simp
          refine (CQ _ (HT.out.to B0)).mono ?_
          rintro e x4 ⟨su, au, lu, cu, zu, bu, mu, du, yu, rfl, hu, hb⟩
          replace V0 := Va.after hb V0
          replace Va1 := Va.after hb Va1
          replace ha := Rt.after hb ha
          replace B0 := step B0 hb
          clear hb
          try go_wp2_with fail
          refine hK.out _ _ ⟨V0.f0, V0.f1, V0.f2, V0.f3, V0.f4⟩ (fun hHeld => ?_)
          clear hK K
          refine wpAnyH_ready (rs := [9]) (by kernel_rfl) (by simp) ?_
          refine AllReadyH.cons rfl (fun K hK => ?_) AllReadyH.nil
          ·
            simp only [List.getElem_toArray, List.getElem_cons_zero, List.getElem_cons_succ]
            go_simp
            have lt_Vq1_V0 := V0.lt
            have lt_Vq1_Va1 := Va1.lt
            have sz_Vq1 := B0.size
            refine ent1 _ _ _ (Q := fun V => K _ V) ?_
            intro x5 hb hs_ Vq1
            replace V0 := Va.after hb V0
            replace Va1 := Va.after hb Va1
            replace ha := Rt.after hb ha
            replace hu := Rt.after hb hu
            replace B0 := step B0 hb
            clear hb hs_
            refine hK.out _ _ ⟨V0.f0, V0.f1, V0.f2, V0.f3, V0.f4⟩ (fun hHeld => ?_)
            clear hK K
            have c_Va1 := Va1.d0
            have f0_Va1 := Va1.frozen 0
            have d_Va1 := Va1.d1
            have f1_Va1 := Va1.frozen 1
            have e_Va1 := Va1.d2
            have f2_Va1 := Va1.frozen 2
            have l_Va1 := Va1.lt
            have m_Va1 := Nat.le_of_lt l_Va1
            refine wpAnyH_ready (rs := [10]) (by kernel_rfl) (by simp) ?_
            refine AllReadyH.cons rfl (fun K hK => ?_) AllReadyH.nil
            simp only [List.getElem_toArray, List.getElem_cons_zero, List.getElem_cons_succ]
            go_simp
            clear c_Va1 f0_Va1 d_Va1 f1_Va1 e_Va1 f2_Va1 l_Va1 m_Va1
            refine sto3 Va1 (.bool se) (.slice ae le ce) (.slice be me de) (Q := fun W => K _ W) ?_
            intro x6 V' oth far
            replace V0 := oth _ _ _ (by first | omega | assumption | (simp; omega)) V0
            replace Vq1 := oth _ _ _ (by first | omega | assumption | (simp; omega)) Vq1
            replace ha := ha.far Va1 (noInt3 _ _ _ _ _ _ _) far.1
            replace hu := hu.far Va1 (noInt3 _ _ _ _ _ _ _) far.1
            replace B0 := far.2 _ _ (by first | omega | (simp; omega)) B0
            replace Va1 := V'
            clear oth far
            refine hK.out _ _ ⟨V0.f0, V0.f1, V0.f2, V0.f3, V0.f4⟩ (fun hHeld => ?_)
            clear hK K
            have c_Vq1 := Vq1.d0
            have f0_Vq1 := Vq1.frozen 0
            have d_Vq1 := Vq1.d1
            have f1_Vq1 := Vq1.frozen 1
            have e_Vq1 := Vq1.d2
            have f2_Vq1 := Vq1.frozen 2
            have l_Vq1 := Vq1.lt
            have m_Vq1 := Nat.le_of_lt l_Vq1
            refine wpAnyH_ready (rs := [11]) (by kernel_rfl) (by simp) ?_
            refine AllReadyH.cons rfl (fun K hK => ?_) AllReadyH.nil
            simp only [List.getElem_toArray, List.getElem_cons_zero, List.getElem_cons_succ]
            go_simp
            clear c_Vq1 f0_Vq1 d_Vq1 f1_Vq1 e_Vq1 f2_Vq1 l_Vq1 m_Vq1
            refine sto3 Vq1 (.bool su) (.slice au lu cu) (.slice bu mu du) (Q := fun W => K _ W) ?_
            intro x7 V' oth far
            replace V0 := oth _ _ _ (by first | omega | assumption | (simp; omega)) V0
            replace Va1 := oth _ _ _ (by first | omega | assumption | (simp; omega)) Va1
            replace ha := ha.far Vq1 (noInt3 _ _ _ _ _ _ _) far.1
            replace hu := hu.far Vq1 (noInt3 _ _ _ _ _ _ _) far.1
            replace B0 := far.2 _ _ (by first | omega | (simp; omega)) B0
            replace Vq1 := V'
            clear oth far
            refine hK.out _ _ ⟨V0.f0, V0.f1, V0.f2, V0.f3, V0.f4⟩ (fun hHeld => ?_)
            clear hK K
            refine wpAnyH_done (by kernel_rfl) ?_ _
            refine NoPanic.normal ?_
            clear hHeld
            go_wp2_with fail
            go_meet
            exact ⟨_, _, se, ae, le, ce, ze, be, me, de, ye, su, au, lu, cu, zu, bu, mu, du, yu, rfl, rfl, Va1, Vq1, V0, ha, hu, B0, ⟨by omega, by omega, by omega⟩⟩
        ·
          simp only [List.getElem_toArray, List.getElem_cons_zero, List.getElem_cons_succ]
          go_simp
          have lt_Vq1_V0 := V0.lt
          have lt_Vq1_Va1 := Va1.lt
          have sz_Vq1 := B0.size
          refine ent1 _ _ _ (Q := fun V => K _ V) ?_
          intro x4 hb hs_ Vq1
          replace V0 := Va.after hb V0
          replace Va1 := Va.after hb Va1
          replace ha := Rt.after hb ha
          replace B0 := step B0 hb
          clear hb hs_
          refine hK.out _ _ ⟨V0.f0, V0.f1, V0.f2, V0.f3, V0.f4⟩ (fun hHeld => ?_)
          clear hK K
          refine wpAnyH_ready (rs := [7]) (by kernel_rfl) (by simp) ?_
          refine AllReadyH.cons rfl (fun K hK => ?_) AllReadyH.nil
          ·
            simp only [List.getElem_toArray, List.getElem_cons_zero, List.getElem_cons_succ]
            go_simp
            refine (CQ _ (HT.out.to B0)).mono ?_
            rintro e x5 ⟨su, au, lu, cu, zu, bu, mu, du, yu, rfl, hu, hb⟩
            replace V0 := Va.after hb V0
            replace Va1 := Va.after hb Va1
            replace Vq1 := Va.after hb Vq1
            replace ha := Rt.after hb ha
            replace B0 := step B0 hb
            clear hb
            try go_wp2_with fail
            refine hK.out _ _ ⟨V0.f0, V0.f1, V0.f2, V0.f3, V0.f4⟩ (fun hHeld => ?_)
            clear hK K
            have c_Va1 := Va1.d0
            have f0_Va1 := Va1.frozen 0
            have d_Va1 := Va1.d1
            have f1_Va1 := Va1.frozen 1
            have e_Va1 := Va1.d2
            have f2_Va1 := Va1.frozen 2
            have l_Va1 := Va1.lt
            have m_Va1 := Nat.le_of_lt l_Va1
            refine wpAnyH_ready (rs := [10]) (by kernel_rfl) (by simp) ?_
            refine AllReadyH.cons rfl (fun K hK => ?_) AllReadyH.nil
            simp only [List.getElem_toArray, List.getElem_cons_zero, List.getElem_cons_succ]
            go_simp
            clear c_Va1 f0_Va1 d_Va1 f1_Va1 e_Va1 f2_Va1 l_Va1 m_Va1
            refine sto3 Va1 (.bool se) (.slice ae le ce) (.slice be me de) (Q := fun W => K _ W) ?_
            intro x6 V' oth far
            replace V0 := oth _ _ _ (by first | omega | assumption | (simp; omega)) V0
            replace Vq1 := oth _ _ _ (by first | omega | assumption | (simp; omega)) Vq1
            replace ha := ha.far Va1 (noInt3 _ _ _ _ _ _ _) far.1
            replace hu := hu.far Va1 (noInt3 _ _ _ _ _ _ _) far.1
            replace B0 := far.2 _ _ (by first | omega | (simp; omega)) B0
            replace Va1 := V'
            clear oth far
            refine hK.out _ _ ⟨V0.f0, V0.f1, V0.f2, V0.f3, V0.f4⟩ (fun hHeld => ?_)
            clear hK K
            have c_Vq1 := Vq1.d0
            have f0_Vq1 := Vq1.frozen 0
            have d_Vq1 := Vq1.d1
            have f1_Vq1 := Vq1.frozen 1
            have e_Vq1 := Vq1.d2
            have f2_Vq1 := Vq1.frozen 2
            have l_Vq1 := Vq1.lt
            have m_Vq1 := Nat.le_of_lt l_Vq1
            refine wpAnyH_ready (rs := [11]) (by kernel_rfl) (by simp) ?_
            refine AllReadyH.cons rfl (fun K hK => ?_) AllReadyH.nil
            simp only [List.getElem_toArray, List.getElem_cons_zero, List.getElem_cons_succ]
            go_simp
            clear c_Vq1 f0_Vq1 d_Vq1 f1_Vq1 e_Vq1 f2_Vq1 l_Vq1 m_Vq1
            refine sto3 Vq1 (.bool su) (.slice au lu cu) (.slice bu mu du) (Q := fun W => K _ W) ?_
            intro x7 V' oth far
            replace V0 := oth _ _ _ (by first | omega | assumption | (simp; omega)) V0
            replace Va1 := oth _ _ _ (by first | omega | assumption | (simp; omega)) Va1
            replace ha := ha.far Vq1 (noInt3 _ _ _ _ _ _ _) far.1
            replace hu := hu.far Vq1 (noInt3 _ _ _ _ _ _ _) far.1
            replace B0 := far.2 _ _ (by first | omega | (simp; omega)) B0
            replace Vq1 := V'
            clear oth far
            refine hK.out _ _ ⟨V0.f0, V0.f1, V0.f2, V0.f3, V0.f4⟩ (fun hHeld => ?_)
            clear hK K
            refine wpAnyH_done (by kernel_rfl) ?_ _
            refine NoPanic.normal ?_
            clear hHeld
            go_wp2_with fail
            go_meet
            exact ⟨_, _, se, ae, le, ce, ze, be, me, de, ye, su, au, lu, cu, zu, bu, mu, du, yu, rfl, rfl, Va1, Vq1, V0, ha, hu, B0, ⟨by omega, by omega, by omega⟩⟩
      ·
        simp only [List.getElem_toArray, List.getElem_cons_zero, List.getElem_cons_succ]
        go_simp
        have lt_Vq1_V0 := V0.lt
        have lt_Vq1_Va1 := Va1.lt
        have sz_Vq1 := B0.size
        refine ent1 _ _ _ (Q := fun V => K _ V) ?_
        intro x3 hb hs_ Vq1
        replace V0 := Va.after hb V0
        replace Va1 := Va.after hb Va1
        replace B0 := step B0 hb
        clear hb hs_
        refine hK.out _ _ ⟨V0.f0, V0.f1, V0.f2, V0.f3, V0.f4⟩ (fun hHeld => ?_)
        clear hK K
        refine wpAnyH_ready (rs := [4]) (by kernel_rfl) (by simp) ?_
        refine AllReadyH.cons rfl (fun K hK => ?_) AllReadyH.nil
        ·
          simp only [List.getElem_toArray, List.getElem_cons_zero, List.getElem_cons_succ]
          go_simp
          refine (CA _ (HT.out.to B0)).mono ?_
          rintro e x4 ⟨se, ae, le, ce, ze, be, me, de, ye, rfl, ha, hb⟩
          replace V0 := Va.after hb V0
          replace Va1 := Va.after hb Va1
          replace Vq1 := Va.after hb Vq1
          replace B0 := step B0 hb
          clear hb
          try go_wp2_with fail
          refine hK.out _ _ ⟨V0.f0, V0.f1, V0.f2, V0.f3, V0.f4⟩ (fun hHeld => ?_)
          clear hK K
          refine wpAnyH_ready (rs := [7]) (by kernel_rfl) (by simp) ?_
          refine AllReadyH.cons rfl (fun K hK => ?_) AllReadyH.nil
          ·
            simp only [List.getElem_toArray, List.getElem_cons_zero, List.getElem_cons_succ]
            go_simp
            refine (CQ _ (HT.out.to B0)).mono ?_
            rintro e x5 ⟨su, au, lu, cu, zu, bu, mu, du, yu, rfl, hu, hb⟩
            replace V0 := Va.after hb V0
            replace Va1 := Va.after hb Va1
            replace Vq1 := Va.after hb Vq1
            replace ha := Rt.after hb ha
            replace B0 := step B0 hb
            clear hb
            try go_wp2_with fail
            refine hK.out _ _ ⟨V0.f0, V0.f1, V0.f2, V0.f3, V0.f4⟩ (fun hHeld => ?_)
            clear hK K
            have c_Va1 := Va1.d0
            have f0_Va1 := Va1.frozen 0
            have d_Va1 := Va1.d1
            have f1_Va1 := Va1.frozen 1
            have e_Va1 := Va1.d2
            have f2_Va1 := Va1.frozen 2
            have l_Va1 := Va1.lt
            have m_Va1 := Nat.le_of_lt l_Va1
            refine wpAnyH_ready (rs := [10]) (by kernel_rfl) (by simp) ?_
            refine AllReadyH.cons rfl (fun K hK => ?_) AllReadyH.nil
            simp only [List.getElem_toArray, List.getElem_cons_zero, List.getElem_cons_succ]
            go_simp
            clear c_Va1 f0_Va1 d_Va1 f1_Va1 e_Va1 f2_Va1 l_Va1 m_Va1
            refine sto3 Va1 (.bool se) (.slice ae le ce) (.slice be me de) (Q := fun W => K _ W) ?_
            intro x6 V' oth far
            replace V0 := oth _ _ _ (by first | omega | assumption | (simp; omega)) V0
            replace Vq1 := oth _ _ _ (by first | omega | assumption | (simp; omega)) Vq1
            replace ha := ha.far Va1 (noInt3 _ _ _ _ _ _ _) far.1
            replace hu := hu.far Va1 (noInt3 _ _ _ _ _ _ _) far.1
            replace B0 := far.2 _ _ (by first | omega | (simp; omega)) B0
            replace Va1 := V'
            clear oth far
            refine hK.out _ _ ⟨V0.f0, V0.f1, V0.f2, V0.f3, V0.f4⟩ (fun hHeld => ?_)
            clear hK K
            have c_Vq1 := Vq1.d0
            have f0_Vq1 := Vq1.frozen 0
            have d_Vq1 := Vq1.d1
            have f1_Vq1 := Vq1.frozen 1
            have e_Vq1 := Vq1.d2
            have f2_Vq1 := Vq1.frozen 2
            have l_Vq1 := Vq1.lt
            have m_Vq1 := Nat.le_of_lt l_Vq1
            refine wpAnyH_ready (rs := [11]) (by kernel_rfl) (by simp) ?_
            refine AllReadyH.cons rfl (fun K hK => ?_) AllReadyH.nil
            simp only [List.getElem_toArray, List.getElem_cons_zero, List.getElem_cons_succ]
            go_simp
            clear c_Vq1 f0_Vq1 d_Vq1 f1_Vq1 e_Vq1 f2_Vq1 l_Vq1 m_Vq1
            refine sto3 Vq1 (.bool su) (.slice au lu cu) (.slice bu mu du) (Q := fun W => K _ W) ?_
            intro x7 V' oth far
            replace V0 := oth _ _ _ (by first | omega | assumption | (simp; omega)) V0
            replace Va1 := oth _ _ _ (by first | omega | assumption | (simp; omega)) Va1
            replace ha := ha.far Vq1 (noInt3 _ _ _ _ _ _ _) far.1
            replace hu := hu.far Vq1 (noInt3 _ _ _ _ _ _ _) far.1
            replace B0 := far.2 _ _ (by first | omega | (simp; omega)) B0
            replace Vq1 := V'
            clear oth far
            refine hK.out _ _ ⟨V0.f0, V0.f1, V0.f2, V0.f3, V0.f4⟩ (fun hHeld => ?_)
            clear hK K
            refine wpAnyH_done (by kernel_rfl) ?_ _
            refine NoPanic.normal ?_
            clear hHeld
            go_wp2_with fail
            go_meet
            exact ⟨_, _, se, ae, le, ce, ze, be, me, de, ye, su, au, lu, cu, zu, bu, mu, du, yu, rfl, rfl, Va1, Vq1, V0, ha, hu, B0, ⟨by omega, by omega, by omega⟩⟩
    ·
      simp only [List.getElem_toArray, List.getElem_cons_zero, List.getElem_cons_succ]
      go_simp
      have lt_Vq1_V0 := V0.lt
      have sz_Vq1 := B0.size
      refine ent1 _ _ _ (Q := fun V => K _ V) ?_
      intro x2 hb hs_ Vq1
      replace V0 := Va.after hb V0
      replace B0 := step B0 hb
      clear hb hs_
      refine hK.out _ _ ⟨V0.f0, V0.f1, V0.f2, V0.f3, V0.f4⟩ (fun hHeld => ?_)
      clear hK K
      refine wpAnyH_ready (rs := [4, 8]) (by kernel_rfl) (by simp) ?_
      refine AllReadyH.cons rfl (fun K hK => ?_) (AllReadyH.cons rfl (fun K hK => ?_) AllReadyH.nil)
      ·
        simp only [List.getElem_toArray, List.getElem_cons_zero, List.getElem_cons_succ]
        go_simp
        refine (CA _ (HT.out.to B0)).mono ?_
        rintro e x3 ⟨se, ae, le, ce, ze, be, me, de, ye, rfl, ha, hb⟩
        replace V0 := Va.after hb V0
        replace Vq1 := Va.after hb Vq1
        replace B0 := step B0 hb
        clear hb
        try go_wp2_with fail
        refine hK.out _ _ ⟨V0.f0, V0.f1, V0.f2, V0.f3, V0.f4⟩ (fun hHeld => ?_)
        clear hK K
        refine wpAnyH_ready (rs := [7, 8]) (by kernel_rfl) (by simp) ?_
        refine AllReadyH.cons rfl (fun K hK => ?_) (AllReadyH.cons rfl (fun K hK => ?_) AllReadyH.nil)
        ·
          simp only [List.getElem_toArray, List.getElem_cons_zero, List.getElem_cons_succ]
          go_simp
          refine (CQ _ (HT.out.to B0)).mono ?_
          rintro e x4 ⟨su, au, lu, cu, zu, bu, mu, du, yu, rfl, hu, hb⟩
          replace V0 := Va.after hb V0
          replace Vq1 := Va.after hb Vq1
          replace ha := Rt.after hb ha
          replace B0 := step B0 hb
          clear hb
          try go_wp2_with fail
          refine hK.out _ _ ⟨V0.f0, V0.f1, V0.f2, V0.f3, V0.f4⟩ (fun hHeld => ?_)
          clear hK K
          refine wpAnyH_ready (rs := [8]) (by kernel_rfl) (by simp) ?_
          refine AllReadyH.cons rfl (fun K hK => ?_) AllReadyH.nil
          ·
            simp only [List.getElem_toArray, List.getElem_cons_zero, List.getElem_cons_succ]
            go_simp
            have lt_Va1_V0 := V0.lt
            have lt_Va1_Vq1 := Vq1.lt
            have sz_Va1 := B0.size
            refine ent1 _ _ _ (Q := fun V => K _ V) ?_
            intro x5 hb hs_ Va1
            replace V0 := Va.after hb V0
            replace Vq1 := Va.after hb Vq1
            replace ha := Rt.after hb ha
            replace hu := Rt.after hb hu
            replace B0 := step B0 hb
            clear hb hs_
            refine hK.out _ _ ⟨V0.f0, V0.f1, V0.f2, V0.f3, V0.f4⟩ (fun hHeld => ?_)
            clear hK K
            have c_Va1 := Va1.d0
            have f0_Va1 := Va1.frozen 0
            have d_Va1 := Va1.d1
            have f1_Va1 := Va1.frozen 1
            have e_Va1 := Va1.d2
            have f2_Va1 := Va1.frozen 2
            have l_Va1 := Va1.lt
            have m_Va1 := Nat.le_of_lt l_Va1
            refine wpAnyH_ready (rs := [10]) (by kernel_rfl) (by simp) ?_
            refine AllReadyH.cons rfl (fun K hK => ?_) AllReadyH.nil
            simp only [List.getElem_toArray, List.getElem_cons_zero, List.getElem_cons_succ]
            go_simp
            clear c_Va1 f0_Va1 d_Va1 f1_Va1 e_Va1 f2_Va1 l_Va1 m_Va1
            refine sto3 Va1 (.bool se) (.slice ae le ce) (.slice be me de) (Q := fun W => K _ W) ?_
            intro x6 V' oth far
            replace V0 := oth _ _ _ (by first | omega | assumption | (simp; omega)) V0
            replace Vq1 := oth _ _ _ (by first | omega | assumption | (simp; omega)) Vq1
            replace ha := ha.far Va1 (noInt3 _ _ _ _ _ _ _) far.1
            replace hu := hu.far Va1 (noInt3 _ _ _ _ _ _ _) far.1
            replace B0 := far.2 _ _ (by first | omega | (simp; omega)) B0
            replace Va1 := V'
            clear oth far
            refine hK.out _ _ ⟨V0.f0, V0.f1, V0.f2, V0.f3, V0.f4⟩ (fun hHeld => ?_)
            clear hK K
            have c_Vq1 := Vq1.d0
            have f0_Vq1 := Vq1.frozen 0
            have d_Vq1 := Vq1.d1
            have f1_Vq1 := Vq1.frozen 1
            have e_Vq1 := Vq1.d2
            have f2_Vq1 := Vq1.frozen 2
            have l_Vq1 := Vq1.lt
            have m_Vq1 := Nat.le_of_lt l_Vq1
            refine wpAnyH_ready (rs := [11]) (by kernel_rfl) (by simp) ?_
            refine AllReadyH.cons rfl (fun K hK => ?_) AllReadyH.nil
            simp only [List.getElem_toArray, List.getElem_cons_zero, List.getElem_cons_succ]
            go_simp
            clear c_Vq1 f0_Vq1 d_Vq1 f1_Vq1 e_Vq1 f2_Vq1 l_Vq1 m_Vq1
            refine sto3 Vq1 (.bool su) (.slice au lu cu) (.slice bu mu du) (Q := fun W => K _ W) ?_
            intro x7 V' oth far
            replace V0 := oth _ _ _ (by first | omega | assumption | (simp; omega)) V0
            replace Va1 := oth _ _ _ (by first | omega | assumption | (simp; omega)) Va1
            replace ha := ha.far Vq1 (noInt3 _ _ _ _ _ _ _) far.1
            replace hu := hu.far Vq1 (noInt3 _ _ _ _ _ _ _) far.1
            replace B0 := far.2 _ _ (by first | omega | (simp; omega)) B0
            replace Vq1 := V'
            clear oth far
            refine hK.out _ _ ⟨V0.f0, V0.f1, V0.f2, V0.f3, V0.f4⟩ (fun hHeld => ?_)
            clear hK K
            refine wpAnyH_done (by kernel_rfl) ?_ _
            refine NoPanic.normal ?_
            clear hHeld
            go_wp2_with fail
            go_meet
            exact ⟨_, _, se, ae, le, ce, ze, be, me, de, ye, su, au, lu, cu, zu, bu, mu, du, yu, rfl, rfl, Va1, Vq1, V0, ha, hu, B0, ⟨by omega, by omega, by omega⟩⟩
        ·
          simp only [List.getElem_toArray, List.getElem_cons_zero, List.getElem_cons_succ]
          go_simp
          have lt_Va1_V0 := V0.lt
          have lt_Va1_Vq1 := Vq1.lt
          have sz_Va1 := B0.size
          refine ent1 _ _ _ (Q := fun V => K _ V) ?_
          intro x4 hb hs_ Va1
          replace V0 := Va.after hb V0
          replace Vq1 := Va.after hb Vq1
          replace ha := Rt.after hb ha
          replace B0 := step B0 hb
          clear hb hs_
          refine hK.out _ _ ⟨V0.f0, V0.f1, V0.f2, V0.f3, V0.f4⟩ (fun hHeld => ?_)
          clear hK K
          refine wpAnyH_ready (rs := [7]) (by kernel_rfl) (by simp) ?_
          refine AllReadyH.cons rfl (fun K hK => ?_) AllReadyH.nil
          ·
            simp only [List.getElem_toArray, List.getElem_cons_zero, List.getElem_cons_succ]
            go_simp
            refine (CQ _ (HT.out.to B0)).mono ?_
            rintro e x5 ⟨su, au, lu, cu, zu, bu, mu, du, yu, rfl, hu, hb⟩
            replace V0 := Va.after hb V0
            replace Vq1 := Va.after hb Vq1
            replace Va1 := Va.after hb Va1
            replace ha := Rt.after hb ha
            replace B0 := step B0 hb
            clear hb
            try go_wp2_with fail
            refine hK.out _ _ ⟨V0.f0, V0.f1, V0.f2, V0.f3, V0.f4⟩ (fun hHeld => ?_)
            clear hK K
            have c_Va1 := Va1.d0
            have f0_Va1 := Va1.frozen 0
            have d_Va1 := Va1.d1
            have f1_Va1 := Va1.frozen 1
            have e_Va1 := Va1.d2
            have f2_Va1 := Va1.frozen 2
            have l_Va1 := Va1.lt
            have m_Va1 := Nat.le_of_lt l_Va1
            refine wpAnyH_ready (rs := [10]) (by kernel_rfl) (by simp) ?_
            refine AllReadyH.cons rfl (fun K hK => ?_) AllReadyH.nil
            simp only [List.getElem_toArray, List.getElem_cons_zero, List.getElem_cons_succ]
            go_simp
            clear c_Va1 f0_Va1 d_Va1 f1_Va1 e_Va1 f2_Va1 l_Va1 m_Va1
            refine sto3 Va1 (.bool se) (.slice ae le ce) (.slice be me de) (Q := fun W => K _ W) ?_
            intro x6 V' oth far
            replace V0 := oth _ _ _ (by first | omega | assumption | (simp; omega)) V0
            replace Vq1 := oth _ _ _ (by first | omega | assumption | (simp; omega)) Vq1
            replace ha := ha.far Va1 (noInt3 _ _ _ _ _ _ _) far.1
            replace hu := hu.far Va1 (noInt3 _ _ _ _ _ _ _) far.1
            replace B0 := far.2 _ _ (by first | omega | (simp; omega)) B0
            replace Va1 := V'
            clear oth far
            refine hK.out _ _ ⟨V0.f0, V0.f1, V0.f2, V0.f3, V0.f4⟩ (fun hHeld => ?_)
            clear hK K
            have c_Vq1 := Vq1.d0
            have f0_Vq1 := Vq1.frozen 0
            have d_Vq1 := Vq1.d1
            have f1_Vq1 := Vq1.frozen 1
            have e_Vq1 := Vq1.d2
            have f2_Vq1 := Vq1.frozen 2
            have l_Vq1 := Vq1.lt
            have m_Vq1 := Nat.le_of_lt l_Vq1
            refine wpAnyH_ready (rs := [11]) (by kernel_rfl) (by simp) ?_
            refine AllReadyH.cons rfl (fun K hK => ?_) AllReadyH.nil
            simp only [List.getElem_toArray, List.getElem_cons_zero, List.getElem_cons_succ]
            go_simp
            clear c_Vq1 f0_Vq1 d_Vq1 f1_Vq1 e_Vq1 f2_Vq1 l_Vq1 m_Vq1
            refine sto3 Vq1 (.bool su) (.slice au lu cu) (.slice bu mu du) (Q := fun W => K _ W) ?_
            intro x7 V' oth far
            replace V0 := oth _ _ _ (by first | omega | assumption | (simp; omega)) V0
            replace Va1 := oth _ _ _ (by first | omega | assumption | (simp; omega)) Va1
            replace ha := ha.far Vq1 (noInt3 _ _ _ _ _ _ _) far.1
            replace hu := hu.far Vq1 (noInt3 _ _ _ _ _ _ _) far.1
            replace B0 := far.2 _ _ (by first | omega | (simp; omega)) B0
            replace Vq1 := V'
            clear oth far
            refine hK.out _ _ ⟨V0.f0, V0.f1, V0.f2, V0.f3, V0.f4⟩ (fun hHeld => ?_)
            clear hK K
            refine wpAnyH_done (by kernel_rfl) ?_ _
            refine NoPanic.normal ?_
            clear hHeld
            go_wp2_with fail
            go_meet
            exact ⟨_, _, se, ae, le, ce, ze, be, me, de, ye, su, au, lu, cu, zu, bu, mu, du, yu, rfl, rfl, Va1, Vq1, V0, ha, hu, B0, ⟨by omega, by omega, by omega⟩⟩
      ·
        simp only [List.getElem_toArray, List.getElem_cons_zero, List.getElem_cons_succ]
        go_simp
        have lt_Va1_V0 := V0.lt
        have lt_Va1_Vq1 := Vq1.lt
        have sz_Va1 := B0.size
        refine ent1 _ _ _ (Q := fun V => K _ V) ?_
        intro x3 hb hs_ Va1
        replace V0 := Va.after hb V0
        replace Vq1 := Va.after hb Vq1
        replace B0 := step B0 hb
        clear hb hs_
        refine hK.out _ _ ⟨V0.f0, V0.f1, V0.f2, V0.f3, V0.f4⟩ (fun hHeld => ?_)
        clear hK K
        refine wpAnyH_ready (rs := [4]) (by kernel_rfl) (by simp) ?_
        refine AllReadyH.cons rfl (fun K hK => ?_) AllReadyH.nil
        ·
          simp only [List.getElem_toArray, List.getElem_cons_zero, List.getElem_cons_succ]
          go_simp
          refine (CA _ (HT.out.to B0)).mono ?_
          rintro e x4 ⟨se, ae, le, ce, ze, be, me, de, ye, rfl, ha, hb⟩
          replace V0 := Va.after hb V0
          replace Vq1 := Va.after hb Vq1
          replace Va1 := Va.after hb Va1
          replace B0 := step B0 hb
          clear hb
          try go_wp2_with fail
          refine hK.out _ _ ⟨V0.f0, V0.f1, V0.f2, V0.f3, V0.f4⟩ (fun hHeld => ?_)
          clear hK K
          refine wpAnyH_ready (rs := [7]) (by kernel_rfl) (by simp) ?_
          refine AllReadyH.cons rfl (fun K hK => ?_) AllReadyH.nil
          ·
            simp only [List.getElem_toArray, List.getElem_cons_zero, List.getElem_cons_succ]
            go_simp
            refine (CQ _ (HT.out.to B0)).mono ?_
            rintro e x5 ⟨su, au, lu, cu, zu, bu, mu, du, yu, rfl, hu, hb⟩
            replace V0 := Va.after hb V0
            replace Vq1 := Va.after hb Vq1
            replace Va1 := Va.after hb Va1
            replace ha := Rt.after hb ha
            replace B0 := step B0 hb
            clear hb
            try go_wp2_with fail
            refine hK.out _ _ ⟨V0.f0, V0.f1, V0.f2, V0.f3, V0.f4⟩ (fun hHeld => ?_)
            clear hK K
            have c_Va1 := Va1.d0
            have f0_Va1 := Va1.frozen 0
            have d_Va1 := Va1.d1
            have f1_Va1 := Va1.frozen 1
            have e_Va1 := Va1.d2
            have f2_Va1 := Va1.frozen 2
            have l_Va1 := Va1.lt
            have m_Va1 := Nat.le_of_lt l_Va1
            refine wpAnyH_ready (rs := [10]) (by kernel_rfl) (by simp) ?_
            refine AllReadyH.cons rfl (fun K hK => ?_) AllReadyH.nil
            simp only [List.getElem_toArray, List.getElem_cons_zero, List.getElem_cons_succ]
            go_simp
            clear c_Va1 f0_Va1 d_Va1 f1_Va1 e_Va1 f2_Va1 l_Va1 m_Va1
            refine sto3 Va1 (.bool se) (.slice ae le ce) (.slice be me de) (Q := fun W => K _ W) ?_
            intro x6 V' oth far
            replace V0 := oth _ _ _ (by first | omega | assumption | (simp; omega)) V0
            replace Vq1 := oth _ _ _ (by first | omega | assumption | (simp; omega)) Vq1
            replace ha := ha.far Va1 (noInt3 _ _ _ _ _ _ _) far.1
            replace hu := hu.far Va1 (noInt3 _ _ _ _ _ _ _) far.1
            replace B0 := far.2 _ _ (by first | omega | (simp; omega)) B0
            replace Va1 := V'
            clear oth far
            refine hK.out _ _ ⟨V0.f0, V0.f1, V0.f2, V0.f3, V0.f4⟩ (fun hHeld => ?_)
            clear hK K
            have c_Vq1 := Vq1.d0
            have f0_Vq1 := Vq1.frozen 0
            have d_Vq1 := Vq1.d1
            have f1_Vq1 := Vq1.frozen 1
            have e_Vq1 := Vq1.d2
            have f2_Vq1 := Vq1.frozen 2
            have l_Vq1 := Vq1.lt
            have m_Vq1 := Nat.le_of_lt l_Vq1
            refine wpAnyH_ready (rs := [11]) (by kernel_rfl) (by simp) ?_
            refine AllReadyH.cons rfl (fun K hK => ?_) AllReadyH.nil
            simp only [List.getElem_toArray, List.getElem_cons_zero, List.getElem_cons_succ]
            go_simp
            clear c_Vq1 f0_Vq1 d_Vq1 f1_Vq1 e_Vq1 f2_Vq1 l_Vq1 m_Vq1
            refine sto3 Vq1 (.bool su) (.slice au lu cu) (.slice bu mu du) (Q := fun W => K _ W) ?_
            intro x7 V' oth far
            replace V0 := oth _ _ _ (by first | omega | assumption | (simp; omega)) V0
            replace Va1 := oth _ _ _ (by first | omega | assumption | (simp; omega)) Va1
            replace ha := ha.far Vq1 (noInt3 _ _ _ _ _ _ _) far.1
            replace hu := hu.far Vq1 (noInt3 _ _ _ _ _ _ _) far.1
            replace B0 := far.2 _ _ (by first | omega | (simp; omega)) B0
            replace Vq1 := V'
            clear oth far
            refine hK.out _ _ ⟨V0.f0, V0.f1, V0.f2, V0.f3, V0.f4⟩ (fun hHeld => ?_)
            clear hK K
            refine wpAnyH_done (by kernel_rfl) ?_ _
            refine NoPanic.normal ?_
            clear hHeld
            go_wp2_with fail
            go_meet
            exact ⟨_, _, se, ae, le, ce, ze, be, me, de, ye, su, au, lu, cu, zu, bu, mu, du, yu, rfl, rfl, Va1, Vq1, V0, ha, hu, B0, ⟨by omega, by omega, by omega⟩⟩
  case rest =>
    clear V0 B0
    obtain ⟨qa, qq, se, ae, le, ce, ze, be, me, de, ye, su, au, lu, cu, zu, bu, mu, du, yu, rfl, rfl, Va1', Vq1', V0', ha', hu', B0', hineq'⟩ := hcut
    have Va1 := Va1'.out
    have Vq1 := Vq1'.out
    have V0 := V0'.out
    have ha := ha'.out
    have hu := hu'.out
    have B0 := B0'.out
    have hineq := hineq'.out
    clear Va1' Vq1' V0' ha' hu' B0' hineq'
    obtain ⟨iq0, iq1, iq2⟩ := hineq
    have FA : Fa wc w.heap.size qa qq byr lin A Q := ⟨HT.out.to B0, ⟨a1, c1, a2, c2, am, D, qt, V0, HF.out.l1.after B0, HF.out.l2.after B0⟩, ⟨se, ae, le, ce, ze, be, me, de, ye, Va1, ha⟩, ⟨su, au, lu, cu, zu, bu, mu, du, yu, Vq1, hu⟩, HS.out.1, HS.out.2⟩
    have D9 := foldB ns a cap wc (HL.out.after B0) H6.out hl64 n k HNK.out.1 HNK.out.2 w.heap.size qa qq byr lin A Q FA
    clear FA Va1 Vq1 ha hu V0
    go_wp2_with fail
    refine D9.mono ?_
    rintro e W5 ⟨rfl, hb5⟩
    have B5 := step B0 hb5
    clear D9 hb5
    go_wp2_with fail
    go_ret2
    exact ⟨by rw [e2.out.1, e2.out.2]; rfl, B5⟩
end Go.Proofs.YtblafbbnplfpjaaGreatDoor
