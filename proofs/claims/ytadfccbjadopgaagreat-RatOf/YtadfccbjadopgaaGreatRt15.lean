/-
  The document's Whole, Long, TooLong, Zero; agrees, and the whole numbers of the statements.
-/
import Derived.Test.YtadfccbjadopgaaGreatRt9a
import Derived.Test.YtadfccbjadopgaaGreatCopyl
namespace Go.Proofs.YtadfccbjadopgaaGreat
open Go.RowKit Go.Shelf
set_option linter.unusedVariables false

theorem Rr.long {w : World} {s : Bool} {a : Option Addr} {l c : Nat} {zs : List Int} {b : Option Addr} {m d : Nat} {ys : List Int} {v : Rat} (h : Rr w s a l c zs b m d ys v) : max (l : Int) (m : Int) ≤ 1024 ↔ Short v := by
  have z0 := num_nonneg h.1.2.1
  have e1 : (v.num.natAbs : Int) = num zs := by rw [← h.2.2.2.2.2.1]; cases s <;> simp only [iv_t, iv_f] <;> omega
  have p1 : l ≤ 1024 ↔ num zs < pw 1024 := ⟨fun q => lt_of_used h.1.2.1 (by rw [h.2.2.1]; exact q), fun q => by have := used_of_lt h.1.2.1 q; rw [h.2.2.1] at this; exact this⟩
  have p2 : m ≤ 1024 ↔ num ys < pw 1024 := ⟨fun q => lt_of_used h.2.1.2.1 (by rw [h.2.2.2.1]; exact q), fun q => by have := used_of_lt h.2.1.2.1 q; rw [h.2.2.2.1] at this; exact this⟩
  rw [h.2.2.2.2.2.2.1] at p2
  unfold Short
  rw [e1, ← p1, ← p2]
  omega

theorem rlong5 (s : Bool) (a : Option Addr) (l c : Nat) (b : Option Addr) (m d : Nat) (w : World) :
    Calls Tryz.prog 19 #[.agg #[.bool s, .slice a l c, .slice b m d]] w fun e w' => e = .returned (.int .i64 (max (l : Int) (m : Int))) ∧ Below w.heap.size w w' := by
  go_enter Tryz.func19, Tryz.ntmps19
  go_wp2_with fail
  go_ret
  exact ⟨rfl, (Below.refl _ _).alloc (Nat.le_refl _) _⟩

theorem toolong5 (s : Bool) (a : Option Addr) (l c : Nat) (b : Option Addr) (m d : Nat) (w : World) (q : Bool) (hq : q = decide (1024 < max (l : Int) (m : Int))) :
    Calls Tryz.prog 76 #[.agg #[.bool s, .slice a l c, .slice b m d]] w fun e w' => e = .returned (.bool q) ∧ Below w.heap.size w w' := by
  have B0 : Below w.heap.size w w := Below.refl _ _
  go_enter Tryz.func76, Tryz.ntmps76
  go_wp2_with fail
  refine ent1 w _ _ (Q := fun W => Calls Tryz.prog _ _ W _) ?_
  intro x1 hb hs_x1 V0
  replace B0 := step B0 hb
  clear hb hs_x1
  refine (rlong5 s a l c b m d x1).mono ?_
  rintro e x2 ⟨rfl, hb⟩
  replace V0 := Va.after hb V0
  replace B0 := step B0 hb
  clear hb
  obtain ⟨n, hn⟩ : ∃ n : Int, max (l : Int) (m : Int) = n := ⟨_, rfl⟩
  rw [hn] at hq ⊢
  clear hn
  go_wp2_with fail
  go_ret
  subst hq
  exact ⟨rfl, B0⟩

set_option maxHeartbeats 4000000 in
theorem agrees5 (s1 : Bool) (a1 : Option Addr) (l1 c1 : Nat) (z1 : List Int) (b1 : Option Addr) (m1 d1 : Nat) (y1 : List Int) (v' X : Rat) (er : Int) (s : Bool) (a : Option Addr) (l c : Nat) (zs : List Int) (b : Option Addr) (m d : Nat) (ys : List Int) (w : World) (h1 : Rt w s1 a1 l1 c1 z1 b1 m1 d1 y1 v') (h2 : Rr w s a l c zs b m d ys X) (hA : Hid (RA X er v')) :
    Calls Tryz.prog 29 #[.agg #[.bool s1, .slice a1 l1 c1, .slice b1 m1 d1], .int .i64 er, .agg #[.bool s, .slice a l c, .slice b m d]] w fun e w' => e = .returned (.bool true) ∧ Below w.heap.size w w' := by
  have hl := h2.long
  rcases hA.out with ⟨hs, rfl, rfl⟩ | ⟨hs, rfl, rfl⟩
  ·
    have HT : Hid (false = decide (1024 < max (l : Int) (m : Int))) := by
      show _ = _; symm; simp only [decide_eq_false_iff_not]; have := hl.2 hs; omega
    clear hl hA hs
    have B0 : Below w.heap.size w w := Below.refl _ _
    go_enter Tryz.func29, Tryz.ntmps29
    go_wp2_with fail
    refine ent2 w _ _ _ _ (Q := fun W => Calls Tryz.prog _ _ W _) ?_
    intro x1 hb hs_x1 V0 V1
    replace h1 := Rt.after hb h1
    replace h2 := Rr.after hb h2
    replace B0 := step B0 hb
    clear hb hs_x1
    refine (toolong5 s a l c b m d x1 false HT.out).mono ?_
    rintro e x2 ⟨rfl, hb⟩
    replace V0 := Va.after hb V0
    replace V1 := Va.after hb V1
    replace h1 := Rt.after hb h1
    replace h2 := Rr.after hb h2
    replace B0 := step B0 hb
    clear hb
    have c_V0 := V0.d0
    have f0_V0 := V0.frozen 0
    have d_V0 := V0.d1
    have f1_V0 := V0.frozen 1
    have e_V0 := V0.d2
    have f2_V0 := V0.frozen 2
    have l_V0 := V0.lt
    have m_V0 := Nat.le_of_lt l_V0
    have c_V1 := V1.d0
    have f0_V1 := V1.frozen 0
    have d_V1 := V1.d1
    have f1_V1 := V1.frozen 1
    have e_V1 := V1.d2
    have f2_V1 := V1.frozen 2
    have l_V1 := V1.lt
    have m_V1 := Nat.le_of_lt l_V1
    go_wp2_with fail
    refine (is5 s1 a1 l1 c1 z1 b1 m1 d1 y1 _ s a l c zs b m d ys x2 h1 h2).mono ?_
    rintro e x3 ⟨rfl, hb⟩
    replace V0 := Va.after hb V0
    replace V1 := Va.after hb V1
    replace h1 := Rt.after hb h1
    replace h2 := Rr.after hb h2
    replace B0 := step B0 hb
    clear hb
    clear c_V0 f0_V0 d_V0 f1_V0 e_V0 f2_V0 l_V0 m_V0 c_V1 f0_V1 d_V1 f1_V1 e_V1 f2_V1 l_V1 m_V1
    go_wp2_with fail
    go_ret
    exact ⟨rfl, B0⟩
  ·
    have HT : Hid (true = decide (1024 < max (l : Int) (m : Int))) := by
      show _ = _; symm; simp only [decide_eq_true_eq]; have : ¬ max (l : Int) (m : Int) ≤ 1024 := fun h => hs (hl.1 h); omega
    clear hl hA hs
    have B0 : Below w.heap.size w w := Below.refl _ _
    go_enter Tryz.func29, Tryz.ntmps29
    go_wp2_with fail
    refine ent2 w _ _ _ _ (Q := fun W => Calls Tryz.prog _ _ W _) ?_
    intro x1 hb hs_x1 V0 V1
    replace h1 := Rt.after hb h1
    replace h2 := Rr.after hb h2
    replace B0 := step B0 hb
    clear hb hs_x1
    refine (toolong5 s a l c b m d x1 true HT.out).mono ?_
    rintro e x2 ⟨rfl, hb⟩
    replace V0 := Va.after hb V0
    replace V1 := Va.after hb V1
    replace h1 := Rt.after hb h1
    replace h2 := Rr.after hb h2
    replace B0 := step B0 hb
    clear hb
    have c_V0 := V0.d0
    have f0_V0 := V0.frozen 0
    have d_V0 := V0.d1
    have f1_V0 := V0.frozen 1
    have e_V0 := V0.d2
    have f2_V0 := V0.frozen 2
    have l_V0 := V0.lt
    have m_V0 := Nat.le_of_lt l_V0
    have c_V1 := V1.d0
    have f0_V1 := V1.frozen 0
    have d_V1 := V1.d1
    have f1_V1 := V1.frozen 1
    have e_V1 := V1.d2
    have f2_V1 := V1.frozen 2
    have l_V1 := V1.lt
    have m_V1 := Nat.le_of_lt l_V1
    go_wp2_with fail
    refine (zero5 s1 a1 l1 c1 z1 b1 m1 d1 y1 0 x2 h1 rfl).mono ?_
    rintro e x3 ⟨rfl, hb⟩
    replace V0 := Va.after hb V0
    replace V1 := Va.after hb V1
    replace h1 := Rt.after hb h1
    replace h2 := Rr.after hb h2
    replace B0 := step B0 hb
    clear hb
    clear c_V0 f0_V0 d_V0 f1_V0 e_V0 f2_V0 l_V0 m_V0 c_V1 f0_V1 d_V1 f1_V1 e_V1 f2_V1 l_V1 m_V1
    go_wp2_with fail
    go_ret
    exact ⟨rfl, B0⟩

theorem results_wt2 {fn : Func} {i j b : Nat} {x y : Value} {tmps : Array Value} {w : World} (h : fn.results = #[.cell i 30, .tmp j]) (hi : tmps.getD i undef = .pointer (some ⟨b, 0, none⟩)) (hv : Va w b 30 #[x, y]) :
    (results fn tmps).run Tryz.prog w = .ok (.tuple #[.agg #[x, y], tmps.getD j undef]) w := results_wt h hi hv
set_option maxRecDepth 8000 in
theorem iwhole_no (s : Bool) (a : Option Addr) (l c : Nat) (w : World) (hl : 1100 < l) :
    Calls Tryz.prog 26 #[.agg #[.bool s, .slice a l c]] w fun e w' => e = .returned (.tuple #[.agg #[.bool false, .slice none 0 0], .bool false]) ∧ Below w.heap.size w w' := by
  go_enter Tryz.func26, Tryz.ntmps26
  go_wp2_with fail
  refine bodyPost_ret (results_wt rfl rfl (by have := Va.new (w.alloc (Obj.cells #[Value.bool s, Value.slice a l c] 51)) 30 #[Value.bool false, Value.slice none 0 0]; simp only [World.alloc, Array.size_push] at this ⊢; exact this)) rfl ?_
  exact ⟨rfl, ((Below.refl _ _).alloc (Nat.le_refl _) _).alloc (by simp) _⟩
set_option maxHeartbeats 4000000 in
theorem iwhole_ok (s : Bool) (a : Option Addr) (l c : Nat) (zs : List Int) (w : World) (h : Sl w a l zs) (hn : a = none → l = 0 ∧ c = 0) (hl : l ≤ 1100) :
    Calls Tryz.prog 26 #[.agg #[.bool s, .slice a l c]] w fun e w' => ∃ s' a' l' c' zs', e = .returned (.tuple #[.agg #[.bool s', .slice a' l' c'], .bool true]) ∧ It w' s' a' l' c' zs' ∧ iv s' zs' = iv s zs ∧ Below w.heap.size w w' := by
  have hzl := h.1
  have hul := usedN_le zs
  have B0 : Below w.heap.size w w := Below.refl _ _
  go_enter Tryz.func26, Tryz.ntmps26
  go_wp2_with fail
  refine ent2 w _ _ _ _ (Q := fun W => Calls Tryz.prog _ _ W _) ?_
  intro x1 hb hs_x1 V0 V1
  replace h := Sl.after hb h
  replace B0 := step B0 hb
  clear hb hs_x1
  refine (copyl_any a l c zs x1 h hn (by omega)).mono ?_
  rintro e x2 ⟨a2, c2, rfl, h2, hc2, hn2, hb⟩
  replace V0 := Va.after hb V0
  replace V1 := Va.after hb V1
  replace h := Sl.after hb h
  replace B0 := step B0 hb
  clear hb
  have c_V0 := V0.c0
  have f0_V0 := V0.frozen 0
  have d_V0 := V0.c1
  have f1_V0 := V0.frozen 1
  have l_V0 := V0.lt
  have m_V0 := Nat.le_of_lt l_V0
  have c_V1 := V1.c0
  have f0_V1 := V1.frozen 0
  have d_V1 := V1.c1
  have f1_V1 := V1.frozen 1
  have l_V1 := V1.lt
  have m_V1 := Nat.le_of_lt l_V1
  go_wp2_with fail
  refine (of_ok a2 l c2 zs x2 h2 (by omega) hc2 (by omega)).mono ?_
  rintro e x3 ⟨g, l3, c3, z3, rfl, hg, h3, e3, hb⟩
  replace V0 := Va.after hb V0
  replace V1 := Va.after hb V1
  replace h := Sl.after hb h
  replace h2 := Sl.after hb h2
  replace B0 := step B0 hb
  clear hb
  clear c_V0 f0_V0 d_V0 f1_V0 l_V0 m_V0 c_V1 f0_V1 d_V1 f1_V1 l_V1 m_V1
  have c_V0 := V0.c0
  have f0_V0 := V0.frozen 0
  have d_V0 := V0.c1
  have f1_V0 := V0.frozen 1
  have l_V0 := V0.lt
  have m_V0 := Nat.le_of_lt l_V0
  have c_V1 := V1.c0
  have f0_V1 := V1.frozen 0
  have d_V1 := V1.c1
  have f1_V1 := V1.frozen 1
  have l_V1 := V1.lt
  have m_V1 := Nat.le_of_lt l_V1
  go_wp2_with fail
  have sz := V1.lt
  refine ent1 x3 _ _ (Q := fun W => Calls Tryz.prog _ _ W _) ?_
  intro x4 hb hs_x4 V2
  replace V0 := Va.after hb V0
  replace V1 := Va.after hb V1
  replace h := Sl.after hb h
  replace h2 := Sl.after hb h2
  replace h3 := Nt.after hb h3
  replace B0 := step B0 hb
  clear hb hs_x4
  refine (wnew_any s (some ⟨g, 0, none⟩) l3 c3 z3 x4 h3).mono ?_
  rintro e x5 ⟨s4, rfl, h4, e4, hb⟩
  replace V0 := Va.after hb V0
  replace V1 := Va.after hb V1
  replace V2 := Va.after hb V2
  replace h := Sl.after hb h
  replace h2 := Sl.after hb h2
  replace h3 := Nt.after hb h3
  replace B0 := step B0 hb
  clear hb
  clear c_V0 f0_V0 d_V0 f1_V0 l_V0 m_V0 c_V1 f0_V1 d_V1 f1_V1 l_V1 m_V1
  have c_V1 := V1.c0
  have f0_V1 := V1.frozen 0
  have d_V1 := V1.c1
  have f1_V1 := V1.frozen 1
  have l_V1 := V1.lt
  have m_V1 := Nat.le_of_lt l_V1
  go_wp2_with fail
  refine bodyPost_ret (results_wt rfl rfl (V1.set2 _ _)) rfl ?_
  exact ⟨s4, _, l3, c3, z3, rfl, h4.far V1 (noInt2 _ _ _ _) (far2 _ _ _ _), by rw [e4]; cases s <;> simp only [iv_t, iv_f] <;> omega, below_2 B0 (by omega) _ _⟩

theorem rzero_n (a : Option Addr) (l c : Nat) (zs : List Int) (w : World) (h : Sl w a l zs) (hc : l ≤ c) (hl : l ≤ 1000000) (q : Bool) (hq : q = decide (num zs = 0)) :
    Calls Tryz.prog 30 #[.slice a l c] w fun e w' => e = .returned (.bool q) ∧ Below w.heap.size w w' := by
  have hz := num_eq_zero h.2.1
  have hul := usedN_le zs
  have B0 : Below w.heap.size w w := Below.refl _ _
  go_enter Tryz.func30, Tryz.ntmps30
  go_wp2_with fail
  refine (rtrim_m a l c zs w h (by omega) hc).mono ?_
  rintro e x1 ⟨a2, c2, rfl, h2, hc2, hb⟩
  replace h := Sl.after hb h
  replace B0 := step B0 hb
  clear hb
  have e1 : ((usedN zs : Int) == 0) = q := by
    rw [hq]
    by_cases h0 : usedN zs = 0
    · rw [h0]; simp [hz.2 h0]
    · have := mt hz.1 h0; simp [h0, this]
  clear hq
  go_wp2_with fail
  go_ret
  first | exact ⟨rfl, B0⟩ | (rw [e1]; exact ⟨rfl, B0⟩)

set_option maxHeartbeats 4000000 in
theorem rwhole5 (n : Bool) (a : Option Addr) (l c : Nat) (zs : List Int) (w : World) (h : Sl w a l zs) (hc : l ≤ c) (hl : l ≤ 1000000) :
    Calls Tryz.prog 22 #[.bool n, .slice a l c] w fun e w' => ∃ s' a' l' c' zs' b' m' d' ys', e = .returned (.agg #[.bool s', .slice a' l' c', .slice b' m' d']) ∧ Rr w' s' a' l' c' zs' b' m' d' ys' (((iv n zs : Int) : Rat)) ∧ Below w.heap.size w w' := by
  have hz := num_eq_zero h.2.1
  have hul := usedN_le zs
  have hL := h.2.1
  have HT : Hid (num (zs.take (usedN zs)) = num zs ∧ usedN (zs.take (usedN zs)) = usedN zs) := ⟨num_take_used zs (Nat.le_refl _), usedN_take zs (Nat.le_refl _)⟩
  have B0 : Below w.heap.size w w := Below.refl _ _
  go_enter Tryz.func22, Tryz.ntmps22
  go_wp2_with fail
  refine ent1 w _ _ (Q := fun W => Calls Tryz.prog _ _ W _) ?_
  intro x1 hb hs_x1 V0
  replace h := Sl.after hb h
  replace B0 := step B0 hb
  clear hb hs_x1
  refine (rtrim_m a l c zs x1 h (by omega) hc).mono ?_
  rintro e x2 ⟨a2, c2, rfl, h2, hc2, hb⟩
  replace V0 := Va.after hb V0
  replace h := Sl.after hb h
  replace B0 := step B0 hb
  clear hb
  obtain ⟨u, hu⟩ : ∃ u, usedN zs = u := ⟨_, rfl⟩
  rw [hu] at h2 hc2 hz HT ⊢
  have hu2 : u ≤ l := by have := h.1; omega
  clear hu hul
  cases n
  ·
    have c_V0 := V0.d0
    have f0_V0 := V0.frozen 0
    have d_V0 := V0.d1
    have f1_V0 := V0.frozen 1
    have e_V0 := V0.d2
    have f2_V0 := V0.frozen 2
    have l_V0 := V0.lt
    have m_V0 := Nat.le_of_lt l_V0
    go_wp2_with fail
    refine (one5 x2).mono ?_
    rintro e x3 ⟨g1, rfl, hg1, hb⟩
    replace V0 := Va.after hb V0
    replace h := Sl.after hb h
    replace h2 := Sl.after hb h2
    replace B0 := step B0 hb
    clear hb
    clear c_V0 f0_V0 d_V0 f1_V0 e_V0 f2_V0 l_V0 m_V0
    have c_V0 := V0.d0
    have f0_V0 := V0.frozen 0
    have d_V0 := V0.d1
    have f1_V0 := V0.frozen 1
    have e_V0 := V0.d2
    have f2_V0 := V0.frozen 2
    have l_V0 := V0.lt
    have m_V0 := Nat.le_of_lt l_V0
    go_wp2_with fail
    refine bodyPost_ret (results_ra rfl rfl (V0.set3 _ _ _)) rfl ?_
    refine ⟨false, a2, _, c2, _, _, 1, 1, [1], rfl, Rr.far (V := V0) (hn := noInt3 _ _ _ _ _ _ _) (k := fa3 _ _ _ _ _) ⟨h2, hg1, HT.out.2, rfl, ⟨hc2, Nat.le_refl _⟩, ?_, by simp [num], ?_⟩, belo3 B0 (Nat.le_refl _) _ _ _⟩
    · rw [Rat.num_intCast]
      rw [iv_f, iv_f]; exact HT.out.1
    · intro h; cases h
  ·
    by_cases u0 : u = 0
    ·
      subst u0
      have c_V0 := V0.d0
      have f0_V0 := V0.frozen 0
      have d_V0 := V0.d1
      have f1_V0 := V0.frozen 1
      have e_V0 := V0.d2
      have f2_V0 := V0.frozen 2
      have l_V0 := V0.lt
      have m_V0 := Nat.le_of_lt l_V0
      go_wp2_with fail
      refine (one5 x2).mono ?_
      rintro e x3 ⟨g1, rfl, hg1, hb⟩
      replace V0 := Va.after hb V0
      replace h := Sl.after hb h
      replace h2 := Sl.after hb h2
      replace B0 := step B0 hb
      clear hb
      clear c_V0 f0_V0 d_V0 f1_V0 e_V0 f2_V0 l_V0 m_V0
      have c_V0 := V0.d0
      have f0_V0 := V0.frozen 0
      have d_V0 := V0.d1
      have f1_V0 := V0.frozen 1
      have e_V0 := V0.d2
      have f2_V0 := V0.frozen 2
      have l_V0 := V0.lt
      have m_V0 := Nat.le_of_lt l_V0
      go_wp2_with fail
      refine bodyPost_ret (results_ra rfl rfl (V0.set3 _ _ _)) rfl ?_
      refine ⟨false, a2, _, c2, _, _, 1, 1, [1], rfl, Rr.far (V := V0) (hn := noInt3 _ _ _ _ _ _ _) (k := fa3 _ _ _ _ _) ⟨h2, hg1, HT.out.2, rfl, ⟨hc2, Nat.le_refl _⟩, ?_, by simp [num], ?_⟩, belo3 B0 (Nat.le_refl _) _ _ _⟩
      · rw [Rat.num_intCast]
        rw [iv_f, iv_t, HT.out.1, hz.2 (by first | rfl | trivial)]; rfl
      · intro h; cases h
    ·
      have u1 : 0 < u := Nat.pos_of_ne_zero u0
      have c_V0 := V0.d0
      have f0_V0 := V0.frozen 0
      have d_V0 := V0.d1
      have f1_V0 := V0.frozen 1
      have e_V0 := V0.d2
      have f2_V0 := V0.frozen 2
      have l_V0 := V0.lt
      have m_V0 := Nat.le_of_lt l_V0
      go_wp2_with fail
      refine (one5 x2).mono ?_
      rintro e x3 ⟨g1, rfl, hg1, hb⟩
      replace V0 := Va.after hb V0
      replace h := Sl.after hb h
      replace h2 := Sl.after hb h2
      replace B0 := step B0 hb
      clear hb
      clear c_V0 f0_V0 d_V0 f1_V0 e_V0 f2_V0 l_V0 m_V0
      have c_V0 := V0.d0
      have f0_V0 := V0.frozen 0
      have d_V0 := V0.d1
      have f1_V0 := V0.frozen 1
      have e_V0 := V0.d2
      have f2_V0 := V0.frozen 2
      have l_V0 := V0.lt
      have m_V0 := Nat.le_of_lt l_V0
      go_wp2_with fail
      refine bodyPost_ret (results_ra rfl rfl (V0.set3 _ _ _)) rfl ?_
      refine ⟨true, a2, _, c2, _, _, 1, 1, [1], rfl, Rr.far (V := V0) (hn := noInt3 _ _ _ _ _ _ _) (k := fa3 _ _ _ _ _) ⟨h2, hg1, HT.out.2, rfl, ⟨hc2, Nat.le_refl _⟩, ?_, by simp [num], ?_⟩, belo3 B0 (Nat.le_refl _) _ _ _⟩
      · rw [Rat.num_intCast]
        rw [iv_t, iv_t, HT.out.1]
      · intro _ e; rw [HT.out.1] at e; exact u0 (hz.1 e)
end Go.Proofs.YtadfccbjadopgaaGreat
