/-
  The document's Int64, rounding.Int64.
-/
import Derived.Test.YtjlodljgfjjclaaGreatTk
import Derived.Test.YtjlodljgfjjclaaGreatAl
import Derived.Test.YtjlodljgfjjclaaGreatRw7
import Derived.Test.YtjlodljgfjjclaaGreatBtE
import Derived.Test.YtjlodljgfjjclaaGreatWh8a
namespace Go.Proofs.YtjlodljgfjjclaaGreat
open Go.RowKit Go.Shelf
set_option linter.unusedVariables false

/-- What is told of a whole number as an int64. -/
def i64v (k : Int) : Int := if -9223372036854775808 ≤ k ∧ k ≤ 9223372036854775807 then k else 0
def i64b (k : Int) : Bool := decide (-9223372036854775808 ≤ k ∧ k ≤ 9223372036854775807)
theorem num_single {zs : List Int} {l : Nat} (hl : zs.length = l) (h1 : l = 1) : num zs = zs.getD 0 0 := by
  subst h1
  match zs, hl with
  | [z], _ => simp [num]
theorem num_two {zs : List Int} (h : Limbs zs) {l : Nat} (hu : usedN zs = l) (h1 : 1 < l) : 18446744073709551616 ≤ num zs := by
  have := num_ge_used h (by omega)
  have h2 : pw 1 ≤ pw (usedN zs - 1) := pw_mono (by omega)
  have h3 : pw 1 = 18446744073709551616 := by decide
  omega

set_option maxHeartbeats 8000000 in
theorem rint7 (s1 : Bool) (a1 : Option Addr) (l1 c1 : Nat) (z1 : List Int) (b1 : Option Addr) (m1 d1 : Nat) (y1 : List Int) (k : Int) (w : World) (h : Rr w s1 a1 l1 c1 z1 b1 m1 d1 y1 (k : Rat)) (hl : l1 ≤ 1000000) :
    Calls Tryz.prog 45 #[.agg #[.bool s1, .slice a1 l1 c1, .slice b1 m1 d1]] w fun e w' => e = .returned (.tuple #[.int .i64 (i64v k), .bool (i64b k)]) ∧ Below w.heap.size w w' := by
  have HN : Hid (iv s1 z1 = k ∧ num y1 = 1 ∧ (s1 = true → num z1 ≠ 0)) := ⟨by rw [h.2.2.2.2.2.1]; rfl, by rw [h.2.2.2.2.2.2.1]; rfl, h.2.2.2.2.2.2.2⟩
  have HM : Hid (m1 = 1) := by
    have h5 := h.2.2.2.1; have h6 : num y1 = 1 := HN.out.2.1; have h7 := used_of_lt (n := 1) h.2.1.2.1 (by rw [h6]; decide); (have h8 : usedN y1 ≠ 0 := fun e => by have := (num_eq_zero h.2.1.2.1).2 e; omega)
    show m1 = 1
    omega
  have hm := HM.out; subst hm; clear HM; have B0 : Below w.heap.size w w := Below.refl _ _
  go_enter Tryz.func45, Tryz.ntmps45
  (go_wp2_with fail); refine ent1 w _ _ (Q := fun W => Code.wp Tryz.prog _ _ _ W) ?_; intro x1 hb hs_x1 V0; replace h := Rr.after hb h; replace B0 := step B0 hb; clear hb hs_x1
  by_cases hl1 : 1 < l1
  ·
    have hno : ¬ (-9223372036854775808 ≤ k ∧ k ≤ 9223372036854775807) := by
      have h5 := num_two h.1.2.1 h.2.2.1 hl1; have h6 := HN.out.1
      cases s1 <;> simp only [iv_t, iv_f] at h6 <;> omega
    have HV : Hid (i64v k = 0 ∧ i64b k = false) := by
      unfold i64v i64b
      refine ⟨if_neg hno, by simpa using hno⟩
    clear hno; (have tl : decide ((1 : Int) < (l1 : Int)) = true := by simp; omega); refine wp_region_noPanic ?_; replace V0 : Va x1.drew _ _ _ := V0; replace h := h.drw; replace B0 := Below.drew B0; refine wp_region_held_drew (S := (fun W => W.cell? ⟨w.heap.size, 0, none⟩ = some (.bool s1) ∧ W.cell? ⟨w.heap.size, 1, none⟩ = some (.slice a1 l1 c1) ∧ W.cell? ⟨w.heap.size, 2, none⟩ = some (.slice b1 1 d1))) (by kernel_rfl) ⟨V0.d0, V0.d1, V0.d2⟩ (fun hHeld => ?_); (obtain ⟨x2, hxd⟩ : ∃ xd, xd = x1.drew := ⟨_, rfl⟩); rw [← hxd] at V0 h B0 hHeld ⊢; clear hxd; refine tk 0 rfl hHeld ?_; simp only [gA, gB, Act.put, gD, gE, gF]; refine tk 1 rfl hHeld ?_; simp only [gA, gB, gC, Act.put, gD, gE, gF]; refine tk 2 rfl hHeld ?_; simp only [gA, gB, gC, Act.put, gD, gE, gF]; refine wpAnyH_take (i := 3) (v := .bool true) rfl (by kernel_rfl) (by kernel_rfl) (by kernel_rfl) (fun _ _ _ h => h) (Or.inl ⟨by rfl, ?_⟩) hHeld ?_
    · (intro W hSw; (try dsimp only at hSw); go_simp; first | (rw [tl]) | (simp; omega) | skip)
    simp only [gA, gB, gC, Act.put, gD, gE, gF]; refine tk 4 rfl hHeld ?_; simp only [gA, gB, gC, Act.put, gD, gE, gF]; refine wpAnyH_take (i := 5) (v := undef) rfl (by kernel_rfl) (by kernel_rfl) (by kernel_rfl) (fun _ _ _ h => h) (Or.inr ⟨by rfl, rfl⟩) hHeld ?_; simp only [gA, gB, gC, Act.put, gD, gE, gF]; refine wpAnyH_take (i := 6) (v := undef) rfl (by kernel_rfl) (by kernel_rfl) (by kernel_rfl) (fun _ _ _ h => h) (Or.inr ⟨by rfl, rfl⟩) hHeld ?_; simp only [gA, gB, gC, Act.put, gD, gE, gF]; refine wpAnyH_take (i := 7) (v := undef) rfl (by kernel_rfl) (by kernel_rfl) (by kernel_rfl) (fun _ _ _ h => h) (Or.inr ⟨by rfl, rfl⟩) hHeld ?_; simp only [gA, gB, gC, Act.put, gD, gE, gF]; refine wpAnyH_take (i := 8) (v := undef) rfl (by kernel_rfl) (by kernel_rfl) (by kernel_rfl) (fun _ _ _ h => h) (Or.inr ⟨by rfl, rfl⟩) hHeld ?_; simp only [gA, gB, gC, Act.put, gD, gE, gF]; refine wpAnyH_take (i := 9) (v := undef) rfl (by kernel_rfl) (by kernel_rfl) (by kernel_rfl) (fun _ _ _ h => h) (Or.inr ⟨by rfl, rfl⟩) hHeld ?_
    simp only [gA, gB, gC, Act.put, gD, gE, gF]; refine tk 10 rfl hHeld ?_; simp only [gA, gB, gC, Act.put, gD, gE, gF]; refine wpAnyH_done (by kernel_rfl) ?_ _; refine NoPanic.normal ?_; clear hHeld; (go_wp2_with fail)
    go_ret2
    exact ⟨by rw [show i64v k = 0 from HV.out.1, show i64b k = false from HV.out.2]; rfl, B0⟩
  ·
    (have tl : decide ((1 : Int) < (l1 : Int)) = false := by simp; omega); refine wp_region_noPanic ?_; replace V0 : Va x1.drew _ _ _ := V0; replace h := h.drw; replace B0 := Below.drew B0; refine wp_region_held_drew (S := (fun W => W.cell? ⟨w.heap.size, 0, none⟩ = some (.bool s1) ∧ W.cell? ⟨w.heap.size, 1, none⟩ = some (.slice a1 l1 c1) ∧ W.cell? ⟨w.heap.size, 2, none⟩ = some (.slice b1 1 d1))) (by kernel_rfl) ⟨V0.d0, V0.d1, V0.d2⟩ (fun hHeld => ?_); (obtain ⟨x2, hxd⟩ : ∃ xd, xd = x1.drew := ⟨_, rfl⟩); rw [← hxd] at V0 h B0 hHeld ⊢; clear hxd; refine tk 0 rfl hHeld ?_; simp only [gA, gB, Act.put, gD, gE, gF]; refine tk 1 rfl hHeld ?_; simp only [gA, gB, gC, Act.put, gD, gE, gF]; refine tk 2 rfl hHeld ?_; simp only [gA, gB, gC, Act.put, gD, gE, gF]; refine wpAnyH_take (i := 3) (v := .bool false) rfl (by kernel_rfl) (by kernel_rfl) (by kernel_rfl) (fun _ _ _ h => h) (Or.inl ⟨by rfl, ?_⟩) hHeld ?_
    · (intro W hSw; (try dsimp only at hSw); go_simp; first | (rw [tl]) | (simp; omega) | skip)
    simp only [gA, gB, gC, Act.put, gD, gE, gF]; refine tk 4 rfl hHeld ?_; simp only [gA, gB, gC, Act.put, gD, gE, gF]; refine tk 5 rfl hHeld ?_; simp only [gA, gB, gC, Act.put, gD, gE, gF]; refine tk 6 rfl hHeld ?_; simp only [gA, gB, gC, Act.put, gD, gE, gF]; refine wpAnyH_ready (rs := [7]) (by kernel_rfl) (by simp) ?_; refine AllReadyH.cons rfl (fun K hK => ?_) AllReadyH.nil; simp only [gA, gB, gC]; (go_simp); refine (one5 _).mono ?_; rintro e x3 ⟨g1, rfl, ho, hb⟩; replace V0 := Va.after hb V0; replace h := Rr.after hb h; replace B0 := step B0 hb; clear hb; (try go_wp2_with fail); refine hK.out _ _ ⟨V0.d0, V0.d1, V0.d2⟩ (fun hHeld => ?_); clear hK K; refine wpAnyH_ready (rs := [8]) (by kernel_rfl) (by simp) ?_; refine AllReadyH.cons rfl (fun K hK => ?_) AllReadyH.nil; simp only [gA, gB, gC]; (go_simp); refine (rcompare_n b1 (some ⟨g1, 0, none⟩) 1 d1 1 1 y1 [1] _ h.2.1 ho (by omega) (by omega) h.2.2.2.2.1.2 (by omega)).mono ?_; rintro e x4 ⟨rfl, hb⟩
    replace V0 := Va.after hb V0; replace h := Rr.after hb h; replace ho := Sl.after hb ho; replace B0 := step B0 hb; clear hb; rw [HN.out.2.1, show num [1] = 1 from rfl, show cmp3 1 1 = 0 from rfl]; (try go_wp2_with fail); refine hK.out _ _ ⟨V0.d0, V0.d1, V0.d2⟩ (fun hHeld => ?_); clear hK K; refine tk 9 rfl hHeld ?_; simp only [gA, gB, gC, Act.put, gD, gE, gF]; refine tk 10 rfl hHeld ?_; simp only [gA, gB, gC, Act.put, gD, gE, gF]; refine wpAnyH_done (by kernel_rfl) ?_ _; refine NoPanic.normal ?_; clear hHeld; clear ho
    by_cases hl0 : l1 = 0
    ·
      have HV : Hid (i64v k = 0 ∧ i64b k = true) := by
        have h5 := (num_eq_zero h.1.2.1).2 (h.2.2.1.trans hl0); have h6 := HN.out.1; (have h7 : k = 0 := by cases s1 <;> simp only [iv_t, iv_f] at h6 <;> omega); subst h7; exact ⟨by decide, by decide⟩
      subst hl0; have c_V0 := V0.d0; have f0_V0 := V0.frozen 0; have d_V0 := V0.d1; have f1_V0 := V0.frozen 1; have e_V0 := V0.d2; have f2_V0 := V0.frozen 2; have l_V0 := V0.lt; have m_V0 := Nat.le_of_lt l_V0; (go_wp2_with fail)
      go_ret2
      exact ⟨by rw [show i64v k = 0 from HV.out.1, show i64b k = true from HV.out.2]; rfl, B0⟩
    ·
      (obtain rfl : l1 = 1 := by omega); obtain ⟨bb, off, rfl, hc⟩ := h.1.2.2 (by omega); have c0 := hc 0 (by omega); rw [Nat.add_zero] at c0; have hz := num_single h.1.1 rfl; have hp := num_nonneg h.1.2.1; have hW := lt_of_used h.1.2.1 (show usedN z1 ≤ 1 by rw [h.2.2.1]; omega); rw [hz] at hp hW; have hN := HN.out; rw [show iv s1 z1 = (if s1 then - num z1 else num z1) from rfl, hz] at hN; (have hpw : pw 1 = 18446744073709551616 := by decide); rw [hpw] at hW; clear hpw
      generalize z1.getD 0 0 = z at *
      clear hc hz
      cases s1
      ·
        (have hk : k = z := by have h9 := hN.1; simp at h9; omega)
        by_cases hr : z < 9223372036854775808
        ·
          have HV : Hid (i64v k = z ∧ i64b k = true) := by
            unfold i64v i64b
            rw [if_pos (by omega)]; exact ⟨hk, by simp; omega⟩
          (have w1 : IntKind.i64.wrap z = z := by rw [IntKind.wrap_i64]; omega); (have g1 : decide (9223372036854775808 ≤ z) = false := by simp; omega); (have g2 : ¬ (9223372036854775808 ≤ z) := by omega); clear hk hN; have c_V0 := V0.d0; have f0_V0 := V0.frozen 0; have d_V0 := V0.d1; have f1_V0 := V0.frozen 1; have e_V0 := V0.d2; have f2_V0 := V0.frozen 2; have l_V0 := V0.lt; have m_V0 := Nat.le_of_lt l_V0; (go_wp2_with fail)
          go_ret2
          exact ⟨by rw [show i64v k = z from HV.out.1, show i64b k = true from HV.out.2]; rfl, B0⟩
        ·
          (have hno : ¬ (-9223372036854775808 ≤ k ∧ k ≤ 9223372036854775807) := by omega)
          have HV : Hid (i64v k = 0 ∧ i64b k = false) := by
            unfold i64v i64b
            refine ⟨if_neg hno, by simpa using hno⟩
          clear hno; (have g1 : decide (9223372036854775808 ≤ z) = true := by simp; omega); (have g2 : 9223372036854775808 ≤ z := by omega); clear hk hN; have c_V0 := V0.d0; have f0_V0 := V0.frozen 0; have d_V0 := V0.d1; have f1_V0 := V0.frozen 1; have e_V0 := V0.d2; have f2_V0 := V0.frozen 2; have l_V0 := V0.lt; have m_V0 := Nat.le_of_lt l_V0; (go_wp2_with fail)
          go_ret2
          exact ⟨by rw [show i64v k = 0 from HV.out.1, show i64b k = false from HV.out.2]; rfl, B0⟩
      ·
        (have hk : k = -z := by have h9 := hN.1; simp at h9; omega)
        by_cases hr : z ≤ 9223372036854775808
        ·
          have HV : Hid (i64v k = -z ∧ i64b k = true) := by
            unfold i64v i64b
            rw [if_pos (by omega)]; exact ⟨hk, by simp; omega⟩
          (have hz0 : z ≠ 0 := by have h9 := hN.2.2 rfl; simpa using h9); (have w0 : IntKind.u64.wrap (z - 1) = z - 1 := by rw [IntKind.wrap_u64]; omega); (have w1 : IntKind.i64.wrap (z - 1) = z - 1 := by rw [IntKind.wrap_i64]; omega); (have w2 : IntKind.i64.wrap (-(z - 1)) = -(z - 1) := by rw [IntKind.wrap_i64]; omega); (have w3 : IntKind.i64.wrap (-(z - 1) - 1) = -z := by rw [IntKind.wrap_i64]; omega); (have g1 : decide (9223372036854775808 < z) = false := by simp; omega); (have g2 : ¬ (9223372036854775808 < z) := by omega); clear hk hN; have c_V0 := V0.d0; have f0_V0 := V0.frozen 0; have d_V0 := V0.d1; have f1_V0 := V0.frozen 1; have e_V0 := V0.d2; have f2_V0 := V0.frozen 2; have l_V0 := V0.lt; have m_V0 := Nat.le_of_lt l_V0; (go_wp2_with fail)
          go_ret2
          exact ⟨by rw [show i64v k = -z from HV.out.1, show i64b k = true from HV.out.2]; rfl, B0⟩
        ·
          (have hno : ¬ (-9223372036854775808 ≤ k ∧ k ≤ 9223372036854775807) := by omega)
          have HV : Hid (i64v k = 0 ∧ i64b k = false) := by
            unfold i64v i64b
            refine ⟨if_neg hno, by simpa using hno⟩
          clear hno; (have g1 : decide (9223372036854775808 < z) = true := by simp; omega); (have g2 : 9223372036854775808 < z := by omega); clear hk hN; have c_V0 := V0.d0; have f0_V0 := V0.frozen 0; have d_V0 := V0.d1; have f1_V0 := V0.frozen 1; have e_V0 := V0.d2; have f2_V0 := V0.frozen 2; have l_V0 := V0.lt; have m_V0 := Nat.le_of_lt l_V0; (go_wp2_with fail)
          go_ret2
          exact ⟨by rw [show i64v k = 0 from HV.out.1, show i64b k = false from HV.out.2]; rfl, B0⟩

end Go.Proofs.YtjlodljgfjjclaaGreat
