/-
  The document's Whole, Long, TooLong, Zero; agrees, and the whole numbers of the statements.
-/
import Derived.Test.YtegfklapgbggfaaGreatRt9a
import Derived.Test.YtegfklapgbggfaaGreatCopyl
namespace Go.Proofs.YtegfklapgbggfaaGreat
open Go.RowKit Go.Shelf
set_option linter.unusedVariables false

theorem Rr.long {w : World} {s : Bool} {a : Option Addr} {l c : Nat} {zs : List Int} {b : Option Addr} {m d : Nat} {ys : List Int} {v : Rat} (h : Rr w s a l c zs b m d ys v) : max (l : Int) (m : Int) ≤ 1024 ↔ Short v := by
  have z0 := num_nonneg h.1.2.1
  have e1 : (v.num.natAbs : Int) = num zs := by rw [← h.2.2.2.2.2.1]; cases s <;> simp only [iv_t, iv_f] <;> omega
  have p1 : l ≤ 1024 ↔ num zs < pw 1024 := ⟨fun q => lt_of_used h.1.2.1 (by rw [h.2.2.1]; exact q), fun q => by have := used_of_lt h.1.2.1 q; rw [h.2.2.1] at this; exact this⟩
  have p2 : m ≤ 1024 ↔ num ys < pw 1024 := ⟨fun q => lt_of_used h.2.1.2.1 (by rw [h.2.2.2.1]; exact q), fun q => by have := used_of_lt h.2.1.2.1 q; rw [h.2.2.2.1] at this; exact this⟩
  rw [h.2.2.2.2.2.2.1] at p2
  unfold Short
  rw [e1, ← p1, ← p2]
  omega

theorem rlong5 (s : Bool) (a : Option Addr) (l c : Nat) (b : Option Addr) (m d : Nat) (w : World) :
    Calls Tryz.prog 67 #[.agg #[.bool s, .slice a l c, .slice b m d]] w fun e w' => e = .returned (.int .i64 (max (l : Int) (m : Int))) ∧ Below w.heap.size w w' := by
  go_enter Tryz.func67, Tryz.ntmps67
  go_wp2_with fail
  go_ret
  exact ⟨rfl, (Below.refl _ _).alloc (Nat.le_refl _) _⟩

theorem toolong5 (s : Bool) (a : Option Addr) (l c : Nat) (b : Option Addr) (m d : Nat) (w : World) (q : Bool) (hq : q = decide (1024 < max (l : Int) (m : Int))) :
    Calls Tryz.prog 32 #[.agg #[.bool s, .slice a l c, .slice b m d]] w fun e w' => e = .returned (.bool q) ∧ Below w.heap.size w w' := by
  have B0 : Below w.heap.size w w := Below.refl _ _
  go_enter Tryz.func32, Tryz.ntmps32
  go_wp2_with fail
  refine ent1 w _ _ (Q := fun W => Calls Tryz.prog _ _ W _) ?_
  intro x1 hb hs_x1 V0
  replace B0 := step B0 hb
  clear hb hs_x1
  refine (rlong5 s a l c b m d x1).mono ?_
  rintro e x2 ⟨rfl, hb⟩
  replace V0 := Va.after hb V0
  replace B0 := step B0 hb
  clear hb
  obtain ⟨n, hn⟩ : ∃ n : Int, max (l : Int) (m : Int) = n := ⟨_, rfl⟩
  rw [hn] at hq ⊢
  clear hn
  go_wp2_with fail
  go_ret
  subst hq
  exact ⟨rfl, B0⟩

set_option maxHeartbeats 4000000 in
theorem rwhole5 (n : Bool) (a : Option Addr) (l c : Nat) (zs : List Int) (w : World) (h : Sl w a l zs) (hc : l ≤ c) (hl : l ≤ 1000000) :
    Calls Tryz.prog 101 #[.bool n, .slice a l c] w fun e w' => ∃ s' a' l' c' zs' b' m' d' ys', e = .returned (.agg #[.bool s', .slice a' l' c', .slice b' m' d']) ∧ Rr w' s' a' l' c' zs' b' m' d' ys' (((iv n zs : Int) : Rat)) ∧ Below w.heap.size w w' := by
  have hz := num_eq_zero h.2.1
  have hul := usedN_le zs
  have hL := h.2.1
  have HT : Hid (num (zs.take (usedN zs)) = num zs ∧ usedN (zs.take (usedN zs)) = usedN zs) := ⟨num_take_used zs (Nat.le_refl _), usedN_take zs (Nat.le_refl _)⟩
  have B0 : Below w.heap.size w w := Below.refl _ _
  go_enter Tryz.func101, Tryz.ntmps101
  go_wp2_with fail
  refine ent1 w _ _ (Q := fun W => Calls Tryz.prog _ _ W _) ?_
  intro x1 hb hs_x1 V0
  replace h := Sl.after hb h
  replace B0 := step B0 hb
  clear hb hs_x1
  refine (rtrim_m a l c zs x1 h (by omega) hc).mono ?_
  rintro e x2 ⟨a2, c2, rfl, h2, hc2, hb⟩
  replace V0 := Va.after hb V0
  replace h := Sl.after hb h
  replace B0 := step B0 hb
  clear hb
  obtain ⟨u, hu⟩ : ∃ u, usedN zs = u := ⟨_, rfl⟩
  rw [hu] at h2 hc2 hz HT ⊢
  have hu2 : u ≤ l := by have := h.1; omega
  clear hu hul
  cases n
  ·
    have c_V0 := V0.d0
    have f0_V0 := V0.frozen 0
    have d_V0 := V0.d1
    have f1_V0 := V0.frozen 1
    have e_V0 := V0.d2
    have f2_V0 := V0.frozen 2
    have l_V0 := V0.lt
    have m_V0 := Nat.le_of_lt l_V0
    go_wp2_with fail
    refine (one5 x2).mono ?_
    rintro e x3 ⟨g1, rfl, hg1, hb⟩
    replace V0 := Va.after hb V0
    replace h := Sl.after hb h
    replace h2 := Sl.after hb h2
    replace B0 := step B0 hb
    clear hb
    clear c_V0 f0_V0 d_V0 f1_V0 e_V0 f2_V0 l_V0 m_V0
    have c_V0 := V0.d0
    have f0_V0 := V0.frozen 0
    have d_V0 := V0.d1
    have f1_V0 := V0.frozen 1
    have e_V0 := V0.d2
    have f2_V0 := V0.frozen 2
    have l_V0 := V0.lt
    have m_V0 := Nat.le_of_lt l_V0
    go_wp2_with fail
    refine bodyPost_ret (results_ra rfl rfl (V0.set3 _ _ _)) rfl ?_
    refine ⟨false, a2, _, c2, _, _, 1, 1, [1], rfl, Rr.far (V := V0) (hn := noInt3 _ _ _ _ _ _ _) (k := fa3 _ _ _ _ _) ⟨h2, hg1, HT.out.2, rfl, ⟨hc2, Nat.le_refl _⟩, ?_, by simp [num], ?_⟩, belo3 B0 (Nat.le_refl _) _ _ _⟩
    · rw [Rat.num_intCast]
      rw [iv_f, iv_f]; exact HT.out.1
    · intro h; cases h
  ·
    by_cases u0 : u = 0
    ·
      subst u0
      have c_V0 := V0.d0
      have f0_V0 := V0.frozen 0
      have d_V0 := V0.d1
      have f1_V0 := V0.frozen 1
      have e_V0 := V0.d2
      have f2_V0 := V0.frozen 2
      have l_V0 := V0.lt
      have m_V0 := Nat.le_of_lt l_V0
      go_wp2_with fail
      refine (one5 x2).mono ?_
      rintro e x3 ⟨g1, rfl, hg1, hb⟩
      replace V0 := Va.after hb V0
      replace h := Sl.after hb h
      replace h2 := Sl.after hb h2
      replace B0 := step B0 hb
      clear hb
      clear c_V0 f0_V0 d_V0 f1_V0 e_V0 f2_V0 l_V0 m_V0
      have c_V0 := V0.d0
      have f0_V0 := V0.frozen 0
      have d_V0 := V0.d1
      have f1_V0 := V0.frozen 1
      have e_V0 := V0.d2
      have f2_V0 := V0.frozen 2
      have l_V0 := V0.lt
      have m_V0 := Nat.le_of_lt l_V0
      go_wp2_with fail
      refine bodyPost_ret (results_ra rfl rfl (V0.set3 _ _ _)) rfl ?_
      refine ⟨false, a2, _, c2, _, _, 1, 1, [1], rfl, Rr.far (V := V0) (hn := noInt3 _ _ _ _ _ _ _) (k := fa3 _ _ _ _ _) ⟨h2, hg1, HT.out.2, rfl, ⟨hc2, Nat.le_refl _⟩, ?_, by simp [num], ?_⟩, belo3 B0 (Nat.le_refl _) _ _ _⟩
      · rw [Rat.num_intCast]
        rw [iv_f, iv_t, HT.out.1, hz.2 (by first | rfl | trivial)]; rfl
      · intro h; cases h
    ·
      have u1 : 0 < u := Nat.pos_of_ne_zero u0
      have c_V0 := V0.d0
      have f0_V0 := V0.frozen 0
      have d_V0 := V0.d1
      have f1_V0 := V0.frozen 1
      have e_V0 := V0.d2
      have f2_V0 := V0.frozen 2
      have l_V0 := V0.lt
      have m_V0 := Nat.le_of_lt l_V0
      go_wp2_with fail
      refine (one5 x2).mono ?_
      rintro e x3 ⟨g1, rfl, hg1, hb⟩
      replace V0 := Va.after hb V0
      replace h := Sl.after hb h
      replace h2 := Sl.after hb h2
      replace B0 := step B0 hb
      clear hb
      clear c_V0 f0_V0 d_V0 f1_V0 e_V0 f2_V0 l_V0 m_V0
      have c_V0 := V0.d0
      have f0_V0 := V0.frozen 0
      have d_V0 := V0.d1
      have f1_V0 := V0.frozen 1
      have e_V0 := V0.d2
      have f2_V0 := V0.frozen 2
      have l_V0 := V0.lt
      have m_V0 := Nat.le_of_lt l_V0
      go_wp2_with fail
      refine bodyPost_ret (results_ra rfl rfl (V0.set3 _ _ _)) rfl ?_
      refine ⟨true, a2, _, c2, _, _, 1, 1, [1], rfl, Rr.far (V := V0) (hn := noInt3 _ _ _ _ _ _ _) (k := fa3 _ _ _ _ _) ⟨h2, hg1, HT.out.2, rfl, ⟨hc2, Nat.le_refl _⟩, ?_, by simp [num], ?_⟩, belo3 B0 (Nat.le_refl _) _ _ _⟩
      · rw [Rat.num_intCast]
        rw [iv_t, iv_t, HT.out.1]
      · intro _ e; rw [HT.out.1] at e; exact u0 (hz.1 e)
end Go.Proofs.YtegfklapgbggfaaGreat
