/-
  The document's Narrow; MoneyNarrows: the walk.
-/
import Derived.Test.YtigimdcaakfckaaGreatDoorAw9
import Derived.Test.YtigimdcaakfckaaGreatDoorCopyl
namespace Go.Proofs.YtigimdcaakfckaaGreatDoor
open Go.RowKit Go.Shelf
set_option linter.unusedVariables false

set_option maxHeartbeats 1000000 in
theorem rnarrow9 (neg : Bool) (a : Option Addr) (len cap : Nat) (zs : List Int) (w : World) (h : Sl w a len zs) (hn : a = none → len = 0 ∧ cap = 0) (hl : len ≤ 17592186044416) (hcap : len ≤ cap) :
    Calls Tryz.prog 21 #[.bool neg, .slice a len cap] w fun e w' => e = .returned (.tuple #[.int .i64 (fit9 (iv neg zs)).1, .int .i64 (fit9 (iv neg zs)).2]) ∧ Below w.heap.size w w' := by
  have hL := h.2.1
  have hu := num_take_used zs (Nat.le_refl _)
  have htr := rtrim_any a len cap zs w h hn hl hcap
  obtain ⟨m, hm⟩ : ∃ m, usedN zs = m := ⟨_, rfl⟩
  rw [hm] at htr hu
  clear h
  by_cases h0 : m = 0
  · subst h0
    have hz : iv neg zs = 0 := by
      have : num zs = 0 := by rw [← hu]; simp [num]
      cases neg <;> simp [iv, this]
    rw [hz]
    clear hu hm
    go_enter Tryz.func21, Tryz.ntmps21
    go_wp2_with fail
    refine htr.mono ?_
    rintro e w1 ⟨a', c', rfl, hs, hc', hb⟩
    go_wp2_with fail
    go_ret2
    exact ⟨rfl, hb⟩
  · by_cases h1 : m = 1
    · subst h1
      obtain ⟨X, hX⟩ : ∃ X, num zs = X := ⟨_, rfl⟩
      have hXw : Word X ∧ X ≠ 0 ∧ (zs.take 1).getD 0 0 = X := by
        have ht : usedN zs ≤ zs.length := usedN_le zs
        obtain ⟨x, hx⟩ : ∃ x, zs.take 1 = [x] := List.length_eq_one_iff.1 (by rw [List.length_take]; omega)
        have hxX : x = X := by rw [hx] at hu; rw [← hX, ← hu]; simp [num]
        have htop := usedN_top zs (by omega)
        rw [hm] at htop
        have hg : zs.getD 0 0 = x := by
          have : (zs.take 1).getD 0 0 = zs.getD 0 0 := by rw [List.getD_eq_getElem?_getD, List.getD_eq_getElem?_getD, List.getElem?_take_of_lt (by omega)]
          rw [← this, hx]; rfl
        refine ⟨?_, ?_, by rw [hx]; exact hxX⟩
        · rw [← hxX]; exact hL x (List.mem_of_mem_take (by rw [hx]; simp))
        · rw [← hxX, ← hg]; exact htop
      obtain ⟨⟨x0, x1⟩, xn, hgx⟩ := hXw
      have hiv : iv neg zs = if neg then -X else X := by cases neg <;> simp [iv, hX]
      rw [hiv]
      clear hu hm hX hiv hL
      have go : ∀ (w1 : World) (a' : Option Addr) (c' : Nat), Sl w1 a' 1 (zs.take 1) → ∃ b off, a' = some ⟨b, off, none⟩ ∧ w1.cell? ⟨b, off + 0, none⟩ = some (.int .u64 X) := by
        intro w1 a' c' hs
        obtain ⟨b, off, e, hc⟩ := hs.2.2 (by omega)
        exact ⟨b, off, e, by rw [hc 0 (by omega), hgx]⟩
      clear hgx
      cases neg with
      | false =>
        simp only [Bool.false_eq_true, if_false]
        by_cases hx : X < 9223372036854775808
        · rw [fit9_in (by omega) (by omega)]
          have hw : wrap64 X = X := by unfold wrap64; omega
          go_enter Tryz.func21, Tryz.ntmps21
          go_wp2_with fail
          refine htr.mono ?_
          rintro e w1 ⟨a', c', rfl, hs, hc', hb⟩
          obtain ⟨b, off, rfl, hcl⟩ := go w1 a' c' hs
          rw [Nat.add_zero] at hcl
          go_wp2_with fail
          all_goals (try (go_quiet (fail)))
          all_goals (try go_wp2_with fail)
          go_ret2
          exact ⟨rfl, by first | exact below_drewN hb _ | exact hb⟩
        · rw [fit9_out (by omega)]
          go_enter Tryz.func21, Tryz.ntmps21
          go_wp2_with fail
          refine htr.mono ?_
          rintro e w1 ⟨a', c', rfl, hs, hc', hb⟩
          obtain ⟨b, off, rfl, hcl⟩ := go w1 a' c' hs
          rw [Nat.add_zero] at hcl
          go_wp2_with fail
          all_goals (try (go_quiet (fail)))
          all_goals (try go_wp2_with fail)
          go_ret2
          exact ⟨rfl, by first | exact below_drewN hb _ | exact hb⟩
      | true =>
        simp only [if_true]
        by_cases hx : X ≤ 9223372036854775808
        · rw [fit9_in (by omega) (by omega)]
          obtain ⟨Y, hY⟩ : ∃ Y, 18446744073709551616 - X = Y := ⟨_, rfl⟩
          have hy1 : IntKind.u64.wrap (-X) = Y := by show (-X) % 18446744073709551616 = Y; omega
          have hy2 : wrap64 Y = -X := by unfold wrap64; omega
          clear hY
          go_enter Tryz.func21, Tryz.ntmps21
          go_wp2_with fail
          refine htr.mono ?_
          rintro e w1 ⟨a', c', rfl, hs, hc', hb⟩
          obtain ⟨b, off, rfl, hcl⟩ := go w1 a' c' hs
          rw [Nat.add_zero] at hcl
          go_wp2_with fail
          all_goals (try (go_quiet (fail)))
          all_goals (try go_wp2_with fail)
          go_ret2
          exact ⟨by show Ending.returned (.tuple #[.int .i64 (wrap64 Y), .int .i64 0]) = _; rw [hy2], by first | exact below_drewN hb _ | exact hb⟩
        · rw [fit9_out (by omega)]
          go_enter Tryz.func21, Tryz.ntmps21
          go_wp2_with fail
          refine htr.mono ?_
          rintro e w1 ⟨a', c', rfl, hs, hc', hb⟩
          obtain ⟨b, off, rfl, hcl⟩ := go w1 a' c' hs
          rw [Nat.add_zero] at hcl
          go_wp2_with fail
          all_goals (try (go_quiet (fail)))
          all_goals (try go_wp2_with fail)
          go_ret2
          exact ⟨rfl, by first | exact below_drewN hb _ | exact hb⟩
    · have hbig : 18446744073709551616 ≤ num zs := by
        have h2 := num_ge_used hL (by omega)
        have h3 : pw 1 ≤ pw (usedN zs - 1) := pw_mono (by omega)
        have h4 : pw 1 = 18446744073709551616 := by decide
        omega
      rw [fit9_out (by cases neg <;> simp [iv] <;> omega)]
      have hm1 : (1 : Int) < m := by omega
      have hm0 : ((m : Int) == 0) = false := by simp; omega
      clear hbig hu
      go_enter Tryz.func21, Tryz.ntmps21
      go_wp2_with fail
      refine htr.mono ?_
      rintro e w1 ⟨a', c', rfl, hs, hc', hb⟩
      go_wp2_with fail
      all_goals (try (go_quiet (fail)))
      all_goals (try go_wp2_with fail)
      go_ret2
      exact ⟨rfl, by first | exact below_drewN hb _ | exact hb⟩
theorem narrow_fit (s : Bool) (a : Option Addr) (l c : Nat) (zs : List Int) (w : World) (h : It w s a l c zs) {X er : Int} (hf : fit9 (iv s zs) = (X, er)) :
    Calls Tryz.prog 22 #[.agg #[.bool s, .slice a l c]] w fun e w' => e = .returned (.tuple #[.int .i64 X, .int .i64 er]) ∧ Below w.heap.size w w' := by
  by_cases hb : -9223372036854775808 ≤ iv s zs ∧ iv s zs ≤ 9223372036854775807
  · rw [fit9_in hb.1 hb.2] at hf
    injection hf with e1 e2
    subst e1 e2
    exact narrow_in s a l c zs w h hb.1 hb.2
  · rw [fit9_out (by omega)] at hf
    injection hf with e1 e2
    subst e1 e2
    exact narrow_out s a l c zs w h (by omega)
set_option maxHeartbeats 2000000 in
theorem narrows_walk (neg : Bool) (a : Option Addr) (len cap : Nat) (zs : List Int) (w : World) (h : Sl w a len zs) (hc : len ≤ cap) (hl : cap ≤ 17592186043904) (hn : a = none → len = 0 ∧ cap = 0) (hP : Pt w) (hT : Tm w) :
    Calls Tryz.prog 4 #[.bool neg, .slice a len cap] w fun e w' => e = .returned (.bool true) ∧ Below w.heap.size w w' := by
  have HP : Hid (Pt w) := hP
  have HT : Hid (Tm w) := hT
  have hlen : len ≤ 17592186044416 := by omega
  have HCL : Hid (cap ≤ 17592186043904) := hl
  have hl20 : len ≤ 20000000000000 := by omega
  have htr := fun W hS => rtrim_any a len cap zs W hS hn hlen hc
  obtain ⟨m, hm⟩ : ∃ m, usedN zs = m := ⟨_, rfl⟩
  rw [hm] at htr
  clear hP hT hl
  by_cases h4 : m ≤ 4096
  · have h4i : ¬ (4096 : Int) < m := by omega
    have HM : Hid (usedN zs ≤ 4096) := by rw [hm]; exact h4
    clear h4 hm
    have B0 : Below w.heap.size w w := Below.refl _ _
    go_enter Tryz.func4, Tryz.ntmps4
    go_wp2_with fail
    refine (htr _ h).mono ?_
    rintro e x1 ⟨a1, c1, rfl, h1, hc1, hb⟩
    replace h := Sl.after hb h
    replace B0 := step B0 hb
    clear hb
    clear h1
    go_wp2_with fail
    refine (copyl_any a len cap zs _ h hn hlen).mono ?_
    rintro e x2 ⟨a2, c2, rfl, h2, hc2, hn2, hb⟩
    replace h := Sl.after hb h
    replace B0 := step B0 hb
    clear hb
    go_wp2_with fail
    refine (of_ok a2 len c2 zs _ h2 hl20 hc2 HM.out).mono ?_
    rintro e x3 ⟨g, l3, c3, z3, rfl, hg3, h3, e3, hb⟩
    replace h := Sl.after hb h
    replace h2 := Sl.after hb h2
    replace B0 := step B0 hb
    clear hb
    go_wp2_with fail
    refine ent1 x3 _ _ (Q := fun W => Calls Tryz.prog _ _ W _) ?_
    intro x4 hb hs_x4 V0
    replace h := Sl.after hb h
    replace h2 := Sl.after hb h2
    replace h3 := Nt.after hb h3
    replace B0 := step B0 hb
    clear hb hs_x4
    obtain ⟨⟨X, er⟩, hf⟩ : ∃ r, fit9 (iv neg zs) = r := ⟨_, rfl⟩
    have hrn := rnarrow9 neg a len cap zs x4 h hn hlen hc
    rw [hf] at hrn
    simp only at hrn
    refine (hrn).mono ?_
    rintro e x5 ⟨rfl, hb⟩
    replace V0 := Va.after hb V0
    replace h := Sl.after hb h
    replace h2 := Sl.after hb h2
    replace h3 := Nt.after hb h3
    replace B0 := step B0 hb
    clear hb
    have c_V0 := V0.cell
    have f0_V0 := V0.frozen 0
    have l_V0 := V0.lt
    have m_V0 := Nat.le_of_lt l_V0
    go_wp2_with fail
    refine (wnew_any neg (some ⟨g, 0, none⟩) l3 c3 z3 _ h3).mono ?_
    rintro e x6 ⟨s', rfl, hI, hiv, hb⟩
    replace V0 := Va.after hb V0
    replace h := Sl.after hb h
    replace h2 := Sl.after hb h2
    replace h3 := Nt.after hb h3
    replace B0 := step B0 hb
    clear hb
    have hfi : fit9 (iv s' z3) = (X, er) := by rw [← hf, hiv]; cases neg <;> simp [iv, e3]
    clear c_V0 f0_V0 l_V0 m_V0
    have c_V0 := V0.cell
    have f0_V0 := V0.frozen 0
    have l_V0 := V0.lt
    have m_V0 := Nat.le_of_lt l_V0
    go_wp2_with fail
    refine (narrow_fit s' (some ⟨g, 0, none⟩) l3 c3 z3 _ hI hfi).mono ?_
    rintro e x7 ⟨rfl, hb⟩
    replace V0 := Va.after hb V0
    replace h := Sl.after hb h
    replace h2 := Sl.after hb h2
    replace h3 := Nt.after hb h3
    replace hI := It.after hb hI
    replace B0 := step B0 hb
    clear hb
    clear hf hfi hiv e3
    clear c_V0 f0_V0 l_V0 m_V0
    have c_V0 := V0.cell
    have f0_V0 := V0.frozen 0
    have l_V0 := V0.lt
    have m_V0 := Nat.le_of_lt l_V0
    go_wp2_with fail
    refine (awake9 _ (HP.out.to B0) (HT.out.to B0)).mono ?_
    rintro e x8 ⟨rfl, hb⟩
    replace V0 := Va.after hb V0
    replace h := Sl.after hb h
    replace h2 := Sl.after hb h2
    replace h3 := Nt.after hb h3
    replace hI := It.after hb hI
    replace B0 := step B0 hb
    clear hb
    clear c_V0 f0_V0 l_V0 m_V0
    go_wp2_with fail
    go_ret
    exact ⟨by simp, B0⟩
  · have h4i : (4096 : Int) < m := by omega
    have B0 : Below w.heap.size w w := Below.refl _ _
    go_enter Tryz.func4, Tryz.ntmps4
    go_wp2_with fail
    refine (htr _ h).mono ?_
    rintro e x1 ⟨a1, c1, rfl, h1, hc1, hb⟩
    replace h := Sl.after hb h
    replace B0 := step B0 hb
    clear hb
    go_wp2_with fail
    go_ret
    exact ⟨rfl, B0⟩
end Go.Proofs.YtigimdcaakfckaaGreatDoor
