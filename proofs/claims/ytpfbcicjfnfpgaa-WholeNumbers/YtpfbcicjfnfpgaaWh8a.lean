/-
  Int64 of the program.
-/
import Derived.Test.YtpfbcicjfnfpgaaBsM
import Derived.Test.YtpfbcicjfnfpgaaBsH
namespace Go.Proofs.Ytpfbcicjfnfpgaa
open Go.RowKit Go.Shelf
set_option linter.unusedVariables false


theorem wint64_great (s : Bool) (a : Option Addr) (l c : Nat) (zs : List Int) (w : World) (h : It w s a l c zs) (hg : 18446744073709551616 ≤ num zs) :
    Calls Try.prog 10 #[.agg #[.bool s, .slice a l c]] w fun e w' => e = .returned (.tuple #[.int .i64 0, .int .i64 5]) ∧ Below w.heap.size w w' := by
  have p0 := h.1.nonneg
  have B0 : Below w.heap.size w w := Below.refl _ _
  go_enter Try.func10, Try.ntmps10
  go_wp2_with fail
  refine ent1 w _ _ (Q := fun W => Calls Try.prog _ _ W _) ?_
  intro x1 hb hs_x1 V0
  replace h := It.after hb h
  replace B0 := step B0 hb
  clear hb hs_x1
  refine (uint64_great a l c zs x1 h.1 hg).mono ?_
  rintro e x2 ⟨rfl, hb⟩
  replace V0 := Va.after hb V0
  replace h := It.after hb h
  replace B0 := step B0 hb
  clear hb
  have c_V0 := V0.c0
  have d_V0 := V0.c1
  have f_V0 := V0.frozen 0
  have g_V0 := V0.frozen 1
  have l_V0 := V0.lt
  have m_V0 := Nat.le_of_lt l_V0
  go_wp2_with fail
  all_goals
    go_ret2
    exact ⟨rfl, B0⟩

theorem wint64_pos (s : Bool) (a : Option Addr) (l c : Nat) (zs : List Int) (w : World) (h : It w s a l c zs) (hs : s = false) (hv : num zs < 9223372036854775808) :
    Calls Try.prog 10 #[.agg #[.bool s, .slice a l c]] w fun e w' => e = .returned (.tuple #[.int .i64 (num zs), .int .i64 0]) ∧ Below w.heap.size w w' := by
  have p0 := h.1.nonneg
  subst hs
  have hg : num zs < 18446744073709551616 := by omega
  have e1 : IntKind.i64.wrap (num zs) = num zs := by rw [IntKind.wrap_i64]; omega
  have B0 : Below w.heap.size w w := Below.refl _ _
  go_enter Try.func10, Try.ntmps10
  go_wp2_with fail
  refine ent1 w _ _ (Q := fun W => Calls Try.prog _ _ W _) ?_
  intro x1 hb hs_x1 V0
  replace h := It.after hb h
  replace B0 := step B0 hb
  clear hb hs_x1
  refine (uint64_small a l c zs x1 h.1 hg).mono ?_
  rintro e x2 ⟨rfl, hb⟩
  replace V0 := Va.after hb V0
  replace h := It.after hb h
  replace B0 := step B0 hb
  clear hb
  have c_V0 := V0.c0
  have d_V0 := V0.c1
  have f_V0 := V0.frozen 0
  have g_V0 := V0.frozen 1
  have l_V0 := V0.lt
  have m_V0 := Nat.le_of_lt l_V0
  go_wp2_with fail
  all_goals
    go_ret2
    exact ⟨rfl, B0⟩

theorem wint64_over (s : Bool) (a : Option Addr) (l c : Nat) (zs : List Int) (w : World) (h : It w s a l c zs) (hs : s = false) (hv : 9223372036854775808 ≤ num zs) (hg : num zs < 18446744073709551616) :
    Calls Try.prog 10 #[.agg #[.bool s, .slice a l c]] w fun e w' => e = .returned (.tuple #[.int .i64 0, .int .i64 5]) ∧ Below w.heap.size w w' := by
  have p0 := h.1.nonneg
  subst hs
  have hv2 : ¬ num zs < 9223372036854775808 := by omega
  have B0 : Below w.heap.size w w := Below.refl _ _
  go_enter Try.func10, Try.ntmps10
  go_wp2_with fail
  refine ent1 w _ _ (Q := fun W => Calls Try.prog _ _ W _) ?_
  intro x1 hb hs_x1 V0
  replace h := It.after hb h
  replace B0 := step B0 hb
  clear hb hs_x1
  refine (uint64_small a l c zs x1 h.1 hg).mono ?_
  rintro e x2 ⟨rfl, hb⟩
  replace V0 := Va.after hb V0
  replace h := It.after hb h
  replace B0 := step B0 hb
  clear hb
  have c_V0 := V0.c0
  have d_V0 := V0.c1
  have f_V0 := V0.frozen 0
  have g_V0 := V0.frozen 1
  have l_V0 := V0.lt
  have m_V0 := Nat.le_of_lt l_V0
  go_wp2_with fail
  all_goals
    go_ret2
    exact ⟨rfl, B0⟩

theorem wint64_neg (s : Bool) (a : Option Addr) (l c : Nat) (zs : List Int) (w : World) (h : It w s a l c zs) (hs : s = true) (hv : num zs ≤ 9223372036854775808) :
    Calls Try.prog 10 #[.agg #[.bool s, .slice a l c]] w fun e w' => e = .returned (.tuple #[.int .i64 (- num zs), .int .i64 0]) ∧ Below w.heap.size w w' := by
  have p0 := h.1.nonneg
  subst hs
  have hg : num zs < 18446744073709551616 := by omega
  have p1 := h.2 rfl
  have e1 : IntKind.u64.wrap (- num zs) = 18446744073709551616 - num zs := by rw [IntKind.wrap_u64]; omega
  have e2 : IntKind.i64.wrap (18446744073709551616 - num zs) = - num zs := by rw [IntKind.wrap_i64]; omega
  by_cases hv3 : num zs < 9223372036854775808
  ·
    have B0 : Below w.heap.size w w := Below.refl _ _
    go_enter Try.func10, Try.ntmps10
    go_wp2_with fail
    refine ent1 w _ _ (Q := fun W => Calls Try.prog _ _ W _) ?_
    intro x1 hb hs_x1 V0
    replace h := It.after hb h
    replace B0 := step B0 hb
    clear hb hs_x1
    refine (uint64_small a l c zs x1 h.1 hg).mono ?_
    rintro e x2 ⟨rfl, hb⟩
    replace V0 := Va.after hb V0
    replace h := It.after hb h
    replace B0 := step B0 hb
    clear hb
    have c_V0 := V0.c0
    have d_V0 := V0.c1
    have f_V0 := V0.frozen 0
    have g_V0 := V0.frozen 1
    have l_V0 := V0.lt
    have m_V0 := Nat.le_of_lt l_V0
    go_wp2_with fail
    all_goals
      go_ret2
      exact ⟨rfl, B0⟩
  ·
    have B0 : Below w.heap.size w w := Below.refl _ _
    go_enter Try.func10, Try.ntmps10
    go_wp2_with fail
    refine ent1 w _ _ (Q := fun W => Calls Try.prog _ _ W _) ?_
    intro x1 hb hs_x1 V0
    replace h := It.after hb h
    replace B0 := step B0 hb
    clear hb hs_x1
    refine (uint64_small a l c zs x1 h.1 hg).mono ?_
    rintro e x2 ⟨rfl, hb⟩
    replace V0 := Va.after hb V0
    replace h := It.after hb h
    replace B0 := step B0 hb
    clear hb
    have c_V0 := V0.c0
    have d_V0 := V0.c1
    have f_V0 := V0.frozen 0
    have g_V0 := V0.frozen 1
    have l_V0 := V0.lt
    have m_V0 := Nat.le_of_lt l_V0
    go_wp2_with fail
    all_goals
      go_ret2
      exact ⟨rfl, B0⟩

theorem wint64_under (s : Bool) (a : Option Addr) (l c : Nat) (zs : List Int) (w : World) (h : It w s a l c zs) (hs : s = true) (hv : 9223372036854775808 < num zs) (hg : num zs < 18446744073709551616) :
    Calls Try.prog 10 #[.agg #[.bool s, .slice a l c]] w fun e w' => e = .returned (.tuple #[.int .i64 0, .int .i64 5]) ∧ Below w.heap.size w w' := by
  have p0 := h.1.nonneg
  subst hs
  have hv2 : ¬ num zs < 9223372036854775808 := by omega
  have hv3 : ¬ num zs ≤ 9223372036854775808 := by omega
  have B0 : Below w.heap.size w w := Below.refl _ _
  go_enter Try.func10, Try.ntmps10
  go_wp2_with fail
  refine ent1 w _ _ (Q := fun W => Calls Try.prog _ _ W _) ?_
  intro x1 hb hs_x1 V0
  replace h := It.after hb h
  replace B0 := step B0 hb
  clear hb hs_x1
  refine (uint64_small a l c zs x1 h.1 hg).mono ?_
  rintro e x2 ⟨rfl, hb⟩
  replace V0 := Va.after hb V0
  replace h := It.after hb h
  replace B0 := step B0 hb
  clear hb
  have c_V0 := V0.c0
  have d_V0 := V0.c1
  have f_V0 := V0.frozen 0
  have g_V0 := V0.frozen 1
  have l_V0 := V0.lt
  have m_V0 := Nat.le_of_lt l_V0
  go_wp2_with fail
  all_goals
    go_ret2
    exact ⟨rfl, B0⟩

theorem wint64_in (s : Bool) (a : Option Addr) (l c : Nat) (zs : List Int) (w : World) (h : It w s a l c zs) (h1 : -9223372036854775808 ≤ iv s zs) (h2 : iv s zs ≤ 9223372036854775807) :
    Calls Try.prog 10 #[.agg #[.bool s, .slice a l c]] w fun e w' => e = .returned (.tuple #[.int .i64 (iv s zs), .int .i64 0]) ∧ Below w.heap.size w w' := by
  cases s
  · rw [iv_f] at h1 h2 ⊢; exact wint64_pos false a l c zs w h rfl (by omega)
  · rw [iv_t] at h1 h2 ⊢; exact wint64_neg true a l c zs w h rfl (by omega)
theorem wint64_out (s : Bool) (a : Option Addr) (l c : Nat) (zs : List Int) (w : World) (h : It w s a l c zs) (hv : iv s zs < -9223372036854775808 ∨ 9223372036854775807 < iv s zs) :
    Calls Try.prog 10 #[.agg #[.bool s, .slice a l c]] w fun e w' => e = .returned (.tuple #[.int .i64 0, .int .i64 5]) ∧ Below w.heap.size w w' := by
  have p0 := h.1.nonneg
  by_cases hg : 18446744073709551616 ≤ num zs
  · exact wint64_great s a l c zs w h hg
  · cases s
    · rw [iv_f] at hv; exact wint64_over false a l c zs w h rfl (by omega) (by omega)
    · rw [iv_t] at hv; exact wint64_under true a l c zs w h rfl (by omega) (by omega)
end Go.Proofs.Ytpfbcicjfnfpgaa
