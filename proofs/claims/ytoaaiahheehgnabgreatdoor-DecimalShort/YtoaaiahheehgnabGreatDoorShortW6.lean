/-
  The walk of DecimalShort: each call by its contract.
-/
import Derived.Test.YtoaaiahheehgnabGreatDoorDecA
namespace Go.Proofs.YtoaaiahheehgnabGreatDoor
open Go.RowKit Go.Shelf
set_option linter.unusedVariables false

theorem partsL_ok {l a b : List UInt8} {n : Nat} (h : partsL l = (a, b, n, true)) : a ≠ [] ∧ a.length + (if b = [] then 0 else 1 + b.length) ≤ l.length := by
  have hl := congrArg List.length (take_drop_while isD l)
  rw [List.length_append] at hl
  have h2 := take_len isD ((l.dropWhile isD).drop 1)
  unfold partsL at h
  split at h
  · simp only [Prod.mk.injEq] at h
    obtain ⟨rfl, rfl, -, h4⟩ := h
    refine ⟨List.length_pos_iff.1 (by simpa using h4), ?_⟩
    rw [if_pos rfl]; omega
  · split at h
    · rename_i h0 h1
      simp only [Prod.mk.injEq] at h
      obtain ⟨rfl, rfl, -, -⟩ := h
      have hr : 0 < (l.dropWhile isD).length := List.length_pos_iff.2 (fun e => h0 (Or.inr e))
      have hd : ((l.dropWhile isD).drop 1).length = (l.dropWhile isD).length - 1 := by simp
      refine ⟨fun e => h0 (Or.inl (by rw [e]; rfl)), ?_⟩
      split <;> omega
    · simp at h
theorem readL_err {l : List UInt8} (h : (readL l).2.2.2 ≠ 0) : (readL l).1 = 0 ∧ (readL l).2.1 = 0 := by
  obtain ⟨neg, hneg⟩ : ∃ neg, decide (l.head? = some 45) = neg := ⟨_, rfl⟩
  obtain ⟨bare, hbare⟩ : ∃ bare, (if neg then l.drop 1 else l) = bare := ⟨_, rfl⟩
  have hrd : readL l = if (partsL bare).2.2.2 then ((worthL neg (trimA (partsL bare).1) (trimB (partsL bare).2.1)).1, (worthL neg (trimA (partsL bare).1) (trimB (partsL bare).2.1)).2.1, 0, (worthL neg (trimA (partsL bare).1) (trimB (partsL bare).2.1)).2.2)
      else (0, 0, l.length - bare.length + (partsL bare).2.2.1, 60) := by
    unfold readL; simp only [hneg, hbare]
  by_cases hp : (partsL bare).2.2.2 = true
  · rw [if_pos hp] at hrd
    generalize trimA (partsL bare).1 = a at hrd
    generalize trimB (partsL bare).2.1 = b at hrd
    by_cases hov : b.length > 9 ∨ a.length > 19
    · have hw : worthL neg a b = (0, 0, 5) := by unfold worthL; rw [if_pos hov]
      rw [hw] at hrd; rw [hrd]; exact ⟨rfl, rfl⟩
    · by_cases hf : fits (sgn neg (tv 10 (a ++ b))) = true
      · have hw : worthL neg a b = (sgn neg (tv 10 (a ++ b)), b.length, 0) := by unfold worthL; rw [if_neg hov, if_pos hf]
        rw [hw] at hrd; rw [hrd] at h; exact absurd rfl h
      · have hw : worthL neg a b = (0, 0, 5) := by unfold worthL; rw [if_neg hov, if_neg hf]
        rw [hw] at hrd; rw [hrd]; exact ⟨rfl, rfl⟩
  · rw [if_neg hp] at hrd; rw [hrd]; exact ⟨rfl, rfl⟩
/-- What is read may be, and is told not longer than it was read. -/
theorem readL_ok {l : List UInt8} (h : (readL l).2.2.2 = 0) : (readL l).2.2.1 = 0 ∧ -9223372036854775808 ≤ (readL l).1 ∧ (readL l).1 ≤ 9223372036854775807 ∧ Can (readL l).1 (readL l).2.1 ∧ (dtx (readL l).1 (readL l).2.1).length ≤ l.length := by
  obtain ⟨neg, hneg⟩ : ∃ neg, decide (l.head? = some 45) = neg := ⟨_, rfl⟩
  obtain ⟨bare, hbare⟩ : ∃ bare, (if neg then l.drop 1 else l) = bare := ⟨_, rfl⟩
  have hlen : l.length = (if neg then 1 else 0) + bare.length := by
    rw [← hbare]
    cases neg with
    | false => simp
    | true =>
      have : l.head? = some 45 := of_decide_eq_true hneg
      cases l with
      | nil => simp at this
      | cons c l => simp; omega
  have hrd : readL l = if (partsL bare).2.2.2 then ((worthL neg (trimA (partsL bare).1) (trimB (partsL bare).2.1)).1, (worthL neg (trimA (partsL bare).1) (trimB (partsL bare).2.1)).2.1, 0, (worthL neg (trimA (partsL bare).1) (trimB (partsL bare).2.1)).2.2)
      else (0, 0, l.length - bare.length + (partsL bare).2.2.1, 60) := by
    unfold readL; simp only [hneg, hbare]
  have hdg := partsL_dig bare
  obtain ⟨⟨A, B, n, ok⟩, hp⟩ : ∃ p, partsL bare = p := ⟨_, rfl⟩
  rw [hp] at hrd hdg
  simp only at hrd hdg
  cases ok with
  | false =>
    rw [hrd] at h
    simp at h
  | true =>
    obtain ⟨hA, hlb⟩ := partsL_ok hp
    simp only [if_true] at hrd
    have la := trimA_len A
    have lb := trimB_len B
    have da := trimA_dig hdg.1
    have db := trimB_dig hdg.2.1
    obtain ⟨-, -, hla0⟩ := trimB_spec B
    generalize trimA A = a at *
    generalize trimB B = b at *
    rw [hrd] at h ⊢
    simp only at h ⊢
    by_cases hov : b.length > 9 ∨ a.length > 19
    · rw [show worthL neg a b = (0, 0, 5) by unfold worthL; rw [if_pos hov]] at h
      simp at h
    · by_cases hf : fits (sgn neg (tv 10 (a ++ b))) = true
      · have hw : worthL neg a b = (sgn neg (tv 10 (a ++ b)), b.length, 0) := by unfold worthL; rw [if_neg hov, if_pos hf]
        rw [hw]
        have hfb : -9223372036854775808 ≤ sgn neg (tv 10 (a ++ b)) ∧ sgn neg (tv 10 (a ++ b)) ≤ 9223372036854775807 := (fits_iff _).1 hf
        have hna : (sgn neg (tv 10 (a ++ b))).natAbs = tv 10 (a ++ b) := by unfold sgn; cases neg <;> simp
        refine ⟨trivial, hfb.1, hfb.2, ⟨by show b.length ≤ 9; omega, fun hp0 => ?_⟩, ?_⟩
        · show (sgn neg (tv 10 (a ++ b))).natAbs % 10 ≠ 0
          rw [hna]
          have hb0 : b ≠ [] := List.length_pos_iff.1 hp0
          obtain ⟨s, c, rfl⟩ : ∃ s c, b = s ++ [c] := ⟨b.dropLast, b.getLast hb0, (List.dropLast_concat_getLast hb0).symm⟩
          rw [← List.append_assoc, tv_snoc]
          have hc : wv c < 10 := db c (by simp)
          have hc0 : wv c ≠ 0 := fun e => hla0 (by rw [wv_zero e]; simp)
          omega
        · show (dtx (sgn neg (tv 10 (a ++ b))) b.length).length ≤ _
          unfold dtx textL
          rw [hna]
          have ht := dec_tx (tv 10 (a ++ b))
          have hv := tv_lt (da.append db)
          have htl : (Go.Lib.decDigits (tv 10 (a ++ b))).length ≤ max 1 (a.length + b.length) := by
            refine ht.le (by omega) (Nat.lt_of_lt_of_le hv (Nat.pow_le_pow_right (by omega) ?_)) (by omega)
            rw [List.length_append]; omega
          have hpl := padL_len b.length (Go.Lib.decDigits (tv 10 (a ++ b)))
          generalize padL b.length (Go.Lib.decDigits (tv 10 (a ++ b))) = p at hpl ⊢
          have hA1 : 1 ≤ A.length := List.length_pos_iff.2 hA
          have hpt : (ptL b.length p).length = p.length + (if b.length = 0 then 0 else 1) := by
            unfold ptL
            split
            · rfl
            · simp; omega
          have hsg : (sgL (decide (sgn neg (tv 10 (a ++ b)) < 0)) (ptL b.length p)).length ≤ (if neg then 1 else 0) + (ptL b.length p).length := by
            unfold sgL
            cases neg with
            | false =>
              have : decide (sgn false (tv 10 (a ++ b)) < 0) = false := by simp [sgn]
              rw [this]; simp
            | true =>
              generalize decide (sgn true (tv 10 (a ++ b)) < 0) = q
              cases q
              · simp
              · simp; omega
          refine Nat.le_trans hsg ?_
          rw [hpt, hlen]
          refine Nat.add_le_add_left ?_ _
          by_cases hB0 : B = []
          · subst hB0
            have : b.length = 0 := by simpa using lb
            rw [if_pos this]
            rw [if_pos rfl] at hlb
            omega
          · rw [if_neg hB0] at hlb
            split <;> omega
      · rw [show worthL neg a b = (0, 0, 5) by unfold worthL; rw [if_neg hov, if_neg hf]] at h
        simp at h
theorem dtx_read {U : Int} {P : Nat} (h1 : -9223372036854775808 ≤ U) (h2 : U ≤ 9223372036854775807) (hc : Can U P) : readL (dtx U P) = (U, P, 0, 0) := by
  have h := back_read h1 h2 hc.1 hc.2 (dec_tx U.natAbs) 0 0
  unfold dtx textL
  simpa using h
set_option maxHeartbeats 8000000 in
theorem short_walk (l : List UInt8) (hl : l.length ≤ 140737488351232) (w : World) (hPt : Pt w) :
    Calls Tryz.prog 3 #[.string ⟨l.toArray⟩] w fun e W' => e = .returned (.bool true) ∧ Below w.heap.size w W' := by
  have HPt : Hid (Pt w) := hPt
  clear hPt
  have hp := parse_dec l (by omega)
  by_cases hz : (readL l).2.2.2 = 0
  · obtain ⟨e1, g1, g2, hc, hln⟩ := readL_ok hz
    obtain ⟨⟨U, P, at', er⟩, hr⟩ : ∃ p, readL l = p := ⟨_, rfl⟩
    rw [hr] at hp hz e1 g1 g2 hc hln
    simp only at hp hz e1 g1 g2 hc hln
    subst hz e1
    have hck := check_ok U P ((canI_iff U P).2 hc)
    have htx : ∀ W, Pt W → _ := fun W hW => dtext_ok U P g1 g2 hc W hW
    have hrd := dtx_read g1 g2 hc
    obtain ⟨S, hS⟩ : ∃ S, dtx U P = S := ⟨_, rfl⟩
    rw [hS] at htx hrd hln
    have hps := parse_dec S (by omega)
    rw [hrd] at hps
    have hle : (S.length : Int) ≤ l.length := by omega
    clear hr hS hrd
    have B0 : Below w.heap.size w w := Below.refl _ _
    go_enter Tryz.func3, Tryz.ntmps3
    go_wp2_with fail
    refine (awake6 _ (HPt.out.to B0)).mono ?_
    rintro e x1 ⟨rfl, hb⟩
    replace B0 := step B0 hb
    clear hb
    go_wp2_with fail
    refine (hp _).mono ?_
    rintro e x2 ⟨rfl, hb⟩
    replace B0 := step B0 hb
    clear hb
    go_wp2_with fail
    refine ent1 x2 _ _ (Q := fun W => Calls Tryz.prog _ _ W _) ?_
    intro x3 hb hs_x3 V0
    replace B0 := step B0 hb
    clear hb hs_x3
    refine (htx _ (HPt.out.to B0)).mono ?_
    rintro e x4 ⟨rfl, hb⟩
    replace V0 := Va.after hb V0
    replace B0 := step B0 hb
    clear hb
    have c_V0 := V0.c0
    have f0_V0 := V0.frozen 0
    have d_V0 := V0.c1
    have f1_V0 := V0.frozen 1
    have l_V0 := V0.lt
    have m_V0 := Nat.le_of_lt l_V0
    go_wp2_with fail
    refine (hps _).mono ?_
    rintro e x5 ⟨rfl, hb⟩
    replace V0 := Va.after hb V0
    replace B0 := step B0 hb
    clear hb
    clear c_V0 f0_V0 d_V0 f1_V0 l_V0 m_V0
    have c_V0 := V0.c0
    have f0_V0 := V0.frozen 0
    have d_V0 := V0.c1
    have f1_V0 := V0.frozen 1
    have l_V0 := V0.lt
    have m_V0 := Nat.le_of_lt l_V0
    go_wp2_with fail
    refine ent1 x5 _ _ (Q := fun W => Calls Tryz.prog _ _ W _) ?_
    intro x6 hb hs_x6 M0
    replace V0 := Va.after hb V0
    replace B0 := step B0 hb
    clear hb hs_x6
    refine (hck _).mono ?_
    rintro e x7 ⟨rfl, hb⟩
    replace V0 := Va.after hb V0
    replace M0 := Va.after hb M0
    replace B0 := step B0 hb
    clear hb
    clear c_V0 f0_V0 d_V0 f1_V0 l_V0 m_V0
    have c_V0 := V0.c0
    have f0_V0 := V0.frozen 0
    have d_V0 := V0.c1
    have f1_V0 := V0.frozen 1
    have l_V0 := V0.lt
    have m_V0 := Nat.le_of_lt l_V0
    have c_M0 := M0.c0
    have f0_M0 := M0.frozen 0
    have d_M0 := M0.c1
    have f1_M0 := M0.frozen 1
    have l_M0 := M0.lt
    have m_M0 := Nat.le_of_lt l_M0
    go_wp2_with fail
    go_ret
    exact ⟨rfl, B0⟩
  · obtain ⟨e1, e2⟩ := readL_err hz
    obtain ⟨⟨U, P, at', er⟩, hr⟩ : ∃ p, readL l = p := ⟨_, rfl⟩
    rw [hr] at hp hz e1 e2
    simp only at hp hz e1 e2
    subst e1 e2
    have hzb : (er == 0) = false := by simpa using hz
    clear hr
    have B0 : Below w.heap.size w w := Below.refl _ _
    go_enter Tryz.func3, Tryz.ntmps3
    go_wp2_with fail
    refine (awake6 _ (HPt.out.to B0)).mono ?_
    rintro e x1 ⟨rfl, hb⟩
    replace B0 := step B0 hb
    clear hb
    go_wp2_with fail
    refine (hp _).mono ?_
    rintro e x2 ⟨rfl, hb⟩
    replace B0 := step B0 hb
    clear hb
    go_wp2_with fail
    go_ret
    exact ⟨rfl, B0.alloc B0.size _⟩
end Go.Proofs.YtoaaiahheehgnabGreatDoor
