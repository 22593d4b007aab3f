/-
  Put together of: Kept5, Copyl, Rt15, Rt16, Wh4, Rt13p.
-/
import Derived.Test.YtjlodljgfjjclaaGreatBtB
import Derived.Test.YtjlodljgfjjclaaGreatBsI
import Derived.Test.YtjlodljgfjjclaaGreatWh3
import Derived.Test.YtjlodljgfjjclaaGreatBsO
import Derived.Test.YtjlodljgfjjclaaGreatRt4
import Derived.Test.YtjlodljgfjjclaaGreatAl
namespace Go.Proofs.YtjlodljgfjjclaaGreat
open Go.RowKit Go.Shelf

end Go.Proofs.YtjlodljgfjjclaaGreat

namespace Go.Proofs.YtjlodljgfjjclaaGreat
open Go.RowKit Go.Shelf
set_option linter.unusedVariables false

end Go.Proofs.YtjlodljgfjjclaaGreat

namespace Go.Proofs.YtjlodljgfjjclaaGreat
open Go.RowKit Go.Shelf
set_option linter.unusedVariables false

theorem Rr.long {w : World} {s : Bool} {a : Option Addr} {l c : Nat} {zs : List Int} {b : Option Addr} {m d : Nat} {ys : List Int} {v : Rat} (h : Rr w s a l c zs b m d ys v) : max (l : Int) (m : Int) ≤ 1024 ↔ Short v := by
  have z0 := num_nonneg h.1.2.1
  have e1 : (v.num.natAbs : Int) = num zs := by rw [← h.2.2.2.2.2.1]; cases s <;> simp only [iv_t, iv_f] <;> omega
  have p1 : l ≤ 1024 ↔ num zs < pw 1024 := ⟨fun q => lt_of_used h.1.2.1 (by rw [h.2.2.1]; exact q), fun q => by have := used_of_lt h.1.2.1 q; rw [h.2.2.1] at this; exact this⟩
  have p2 : m ≤ 1024 ↔ num ys < pw 1024 := ⟨fun q => lt_of_used h.2.1.2.1 (by rw [h.2.2.2.1]; exact q), fun q => by have := used_of_lt h.2.1.2.1 q; rw [h.2.2.2.1] at this; exact this⟩
  rw [h.2.2.2.2.2.2.1] at p2
  unfold Short
  rw [e1, ← p1, ← p2]
  omega

set_option maxHeartbeats 4000000 in
theorem rwhole5 (n : Bool) (a : Option Addr) (l c : Nat) (zs : List Int) (w : World) (h : Sl w a l zs) (hc : l ≤ c) (hl : l ≤ 1000000) :
    Calls Tryz.prog 82 #[.bool n, .slice a l c] w fun e w' => ∃ s' a' l' c' zs' b' m' d' ys', e = .returned (.agg #[.bool s', .slice a' l' c', .slice b' m' d']) ∧ Rr w' s' a' l' c' zs' b' m' d' ys' (((iv n zs : Int) : Rat)) ∧ Below w.heap.size w w' := by
  have hz := num_eq_zero h.2.1
  have hul := usedN_le zs
  have hL := h.2.1
  have HT : Hid (num (zs.take (usedN zs)) = num zs ∧ usedN (zs.take (usedN zs)) = usedN zs) := ⟨num_take_used zs (Nat.le_refl _), usedN_take zs (Nat.le_refl _)⟩
  have B0 : Below w.heap.size w w := Below.refl _ _
  go_enter Tryz.func82, Tryz.ntmps82
  go_wp2_with fail
  refine ent1 w _ _ (Q := fun W => Calls Tryz.prog _ _ W _) ?_
  intro x1 hb hs_x1 V0
  replace h := Sl.after hb h
  replace B0 := step B0 hb
  clear hb hs_x1
  refine (rtrim_m a l c zs x1 h (by omega) hc).mono ?_
  rintro e x2 ⟨a2, c2, rfl, h2, hc2, hb⟩
  replace V0 := Va.after hb V0
  replace h := Sl.after hb h
  replace B0 := step B0 hb
  clear hb
  obtain ⟨u, hu⟩ : ∃ u, usedN zs = u := ⟨_, rfl⟩
  rw [hu] at h2 hc2 hz HT ⊢
  have hu2 : u ≤ l := by have := h.1; omega
  clear hu hul
  cases n
  ·
    have c_V0 := V0.d0
    have f0_V0 := V0.frozen 0
    have d_V0 := V0.d1
    have f1_V0 := V0.frozen 1
    have e_V0 := V0.d2
    have f2_V0 := V0.frozen 2
    have l_V0 := V0.lt
    have m_V0 := Nat.le_of_lt l_V0
    go_wp2_with fail
    refine (one5 x2).mono ?_
    rintro e x3 ⟨g1, rfl, hg1, hb⟩
    replace V0 := Va.after hb V0
    replace h := Sl.after hb h
    replace h2 := Sl.after hb h2
    replace B0 := step B0 hb
    clear hb
    clear c_V0 f0_V0 d_V0 f1_V0 e_V0 f2_V0 l_V0 m_V0
    have c_V0 := V0.d0
    have f0_V0 := V0.frozen 0
    have d_V0 := V0.d1
    have f1_V0 := V0.frozen 1
    have e_V0 := V0.d2
    have f2_V0 := V0.frozen 2
    have l_V0 := V0.lt
    have m_V0 := Nat.le_of_lt l_V0
    go_wp2_with fail
    refine bodyPost_ret (results_ra rfl rfl (V0.set3 _ _ _)) rfl ?_
    refine ⟨false, a2, _, c2, _, _, 1, 1, [1], rfl, Rr.far (V := V0) (hn := noInt3 _ _ _ _ _ _ _) (k := fa3 _ _ _ _ _) ⟨h2, hg1, HT.out.2, rfl, ⟨hc2, Nat.le_refl _⟩, ?_, by simp [num], ?_⟩, belo3 B0 (Nat.le_refl _) _ _ _⟩
    · rw [Rat.num_intCast]
      rw [iv_f, iv_f]; exact HT.out.1
    · intro h; cases h
  ·
    by_cases u0 : u = 0
    ·
      subst u0
      have c_V0 := V0.d0
      have f0_V0 := V0.frozen 0
      have d_V0 := V0.d1
      have f1_V0 := V0.frozen 1
      have e_V0 := V0.d2
      have f2_V0 := V0.frozen 2
      have l_V0 := V0.lt
      have m_V0 := Nat.le_of_lt l_V0
      go_wp2_with fail
      refine (one5 x2).mono ?_
      rintro e x3 ⟨g1, rfl, hg1, hb⟩
      replace V0 := Va.after hb V0
      replace h := Sl.after hb h
      replace h2 := Sl.after hb h2
      replace B0 := step B0 hb
      clear hb
      clear c_V0 f0_V0 d_V0 f1_V0 e_V0 f2_V0 l_V0 m_V0
      have c_V0 := V0.d0
      have f0_V0 := V0.frozen 0
      have d_V0 := V0.d1
      have f1_V0 := V0.frozen 1
      have e_V0 := V0.d2
      have f2_V0 := V0.frozen 2
      have l_V0 := V0.lt
      have m_V0 := Nat.le_of_lt l_V0
      go_wp2_with fail
      refine bodyPost_ret (results_ra rfl rfl (V0.set3 _ _ _)) rfl ?_
      refine ⟨false, a2, _, c2, _, _, 1, 1, [1], rfl, Rr.far (V := V0) (hn := noInt3 _ _ _ _ _ _ _) (k := fa3 _ _ _ _ _) ⟨h2, hg1, HT.out.2, rfl, ⟨hc2, Nat.le_refl _⟩, ?_, by simp [num], ?_⟩, belo3 B0 (Nat.le_refl _) _ _ _⟩
      · rw [Rat.num_intCast]
        rw [iv_f, iv_t, HT.out.1, hz.2 (by first | rfl | trivial)]; rfl
      · intro h; cases h
    ·
      have u1 : 0 < u := Nat.pos_of_ne_zero u0
      have c_V0 := V0.d0
      have f0_V0 := V0.frozen 0
      have d_V0 := V0.d1
      have f1_V0 := V0.frozen 1
      have e_V0 := V0.d2
      have f2_V0 := V0.frozen 2
      have l_V0 := V0.lt
      have m_V0 := Nat.le_of_lt l_V0
      go_wp2_with fail
      refine (one5 x2).mono ?_
      rintro e x3 ⟨g1, rfl, hg1, hb⟩
      replace V0 := Va.after hb V0
      replace h := Sl.after hb h
      replace h2 := Sl.after hb h2
      replace B0 := step B0 hb
      clear hb
      clear c_V0 f0_V0 d_V0 f1_V0 e_V0 f2_V0 l_V0 m_V0
      have c_V0 := V0.d0
      have f0_V0 := V0.frozen 0
      have d_V0 := V0.d1
      have f1_V0 := V0.frozen 1
      have e_V0 := V0.d2
      have f2_V0 := V0.frozen 2
      have l_V0 := V0.lt
      have m_V0 := Nat.le_of_lt l_V0
      go_wp2_with fail
      refine bodyPost_ret (results_ra rfl rfl (V0.set3 _ _ _)) rfl ?_
      refine ⟨true, a2, _, c2, _, _, 1, 1, [1], rfl, Rr.far (V := V0) (hn := noInt3 _ _ _ _ _ _ _) (k := fa3 _ _ _ _ _) ⟨h2, hg1, HT.out.2, rfl, ⟨hc2, Nat.le_refl _⟩, ?_, by simp [num], ?_⟩, belo3 B0 (Nat.le_refl _) _ _ _⟩
      · rw [Rat.num_intCast]
        rw [iv_t, iv_t, HT.out.1]
      · intro _ e; rw [HT.out.1] at e; exact u0 (hz.1 e)
end Go.Proofs.YtjlodljgfjjclaaGreat

namespace Go.Proofs.YtjlodljgfjjclaaGreat
open Go.RowKit Go.Shelf
set_option linter.unusedVariables false

theorem rsign5 (s : Bool) (a : Option Addr) (l c : Nat) (zs : List Int) (b : Option Addr) (m d : Nat) (ys : List Int) (v : Rat) (w : World) (h : Rr w s a l c zs b m d ys v) :
    Calls Tryz.prog 83 #[.agg #[.bool s, .slice a l c, .slice b m d]] w fun e w' => e = .returned (.int .i64 (Int.sign v.num)) ∧ Below w.heap.size w w' := by
  have hz := num_eq_zero h.1.2.1
  have z0 := num_nonneg h.1.2.1
  rw [h.2.2.1] at hz
  have hv := h.2.2.2.2.2.1
  have hs := h.2.2.2.2.2.2.2
  by_cases l0 : l = 0
  · have e1 : Int.sign v.num = 0 := by rw [← hv]; cases s <;> simp only [iv_t, iv_f, hz.2 l0] <;> rfl
    rw [e1]
    subst l0
    clear hz hv hs h e1 z0
    go_enter Tryz.func83, Tryz.ntmps83
    go_wp2_with fail
    go_ret
    exact ⟨rfl, (Below.refl _ _).alloc (Nat.le_refl _) _⟩
  · have l1 : ((l : Int) == 0) = false := by simp; omega
    have n0 : num zs ≠ 0 := fun e => l0 (hz.1 e)
    cases s
    · have e1 : Int.sign v.num = 1 := by rw [← hv, iv_f]; exact Int.sign_eq_one_of_pos (by omega)
      rw [e1]
      clear hz hv hs h e1 z0 n0 l0
      go_enter Tryz.func83, Tryz.ntmps83
      go_wp2_with fail
      go_ret
      exact ⟨rfl, (Below.refl _ _).alloc (Nat.le_refl _) _⟩
    · have e1 : Int.sign v.num = -1 := by rw [← hv, iv_t]; exact Int.sign_eq_neg_one_of_neg (by omega)
      rw [e1]
      clear hz hv hs h e1 z0 n0 l0
      go_enter Tryz.func83, Tryz.ntmps83
      go_wp2_with fail
      go_ret
      exact ⟨rfl, (Below.refl _ _).alloc (Nat.le_refl _) _⟩

end Go.Proofs.YtjlodljgfjjclaaGreat

namespace Go.Proofs.YtjlodljgfjjclaaGreat
open Go.RowKit Go.Shelf
set_option linter.unusedVariables false

end Go.Proofs.YtjlodljgfjjclaaGreat

namespace Go.Proofs.YtjlodljgfjjclaaGreat
open Go.RowKit Go.Shelf
set_option linter.unusedVariables false

/-- The floor of a number. -/
def qfl (v : Rat) : Int := v.num / (v.den : Int)
theorem qfl_of {v : Rat} {q r : Int} (h : v.num = q * v.den + r) (h0 : 0 ≤ r) (h1 : r < v.den) : q = qfl v ∧ r = v.num % (v.den : Int) := by
  have hd := v.den_pos
  have e : v.num / (v.den : Int) = q := by
    rw [h, Int.add_comm, Int.add_mul_ediv_right _ _ (by omega), Int.ediv_eq_zero_of_lt h0 h1]; omega
  refine ⟨e.symm, ?_⟩
  have := Int.mul_ediv_add_emod v.num (v.den : Int)
  rw [e, Int.mul_comm] at this
  omega
/-- What Floor and Ceil answer. -/
def FlP (w : World) (x : Int) (e : Ending) (w' : World) : Prop := ∃ s' a' l' c' zs', e = .returned (.agg #[.bool s', .slice a' l' c']) ∧ It w' s' a' l' c' zs' ∧ iv s' zs' = x ∧ Below w.heap.size w w'
end Go.Proofs.YtjlodljgfjjclaaGreat
