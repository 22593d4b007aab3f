import Derived.Test.YtngichjgfppnpaaGreatDoorRt5
import Derived.Test.YtngichjgfppnpaaGreatDoorRt6
import Derived.Test.YtngichjgfppnpaaGreatDoorMgAj
import Derived.Test.YtngichjgfppnpaaGreatDoorMgAa
namespace Go.Proofs.YtngichjgfppnpaaGreatDoor
open Go.RowKit Go.Shelf
set_option linter.unusedVariables false

def Sz (n : Nat) (v : Rat) : Prop := (v.num.natAbs : Int) < pw n ∧ (v.den : Int) < pw n
theorem Sz.short {n : Nat} {v : Rat} (h : Sz n v) (hn : n ≤ 1024) : Short v := ⟨Int.lt_of_lt_of_le h.1 (pw_mono hn), Int.lt_of_lt_of_le h.2 (pw_mono hn)⟩
theorem Sz.mk {i : Nat} {N : Int} {D : Nat} (hD : D ≠ 0) (h1 : (N.natAbs : Int) < pw i) (h2 : (D : Int) < pw i) : Sz i (mkRat N D) := by
  unfold Sz
  rw [Rat.num_mkRat, Rat.den_mkRat, if_neg hD, if_neg hD]
  refine ⟨Int.lt_of_le_of_lt ?_ h1, Int.lt_of_le_of_lt ?_ h2⟩
  · have : (N / (D.gcd N.natAbs : Nat)).natAbs ≤ N.natAbs := by
      rw [Int.natAbs_ediv_of_dvd (Int.ofNat_dvd_left.2 (Nat.gcd_dvd_right _ _))]
      exact Nat.div_le_self _ _
    exact_mod_cast this
  · exact_mod_cast Nat.div_le_self _ _
theorem sz_sum {P Q x y : Int} (w : 2 * P ≤ Q) (h1 : (x.natAbs : Int) < P) (h2 : (y.natAbs : Int) < P) : ((x + y).natAbs : Int) < Q := by omega
theorem Sz.add {i j : Nat} {u v : Rat} (h1 : Sz i u) (h2 : Sz j v) : Sz (i + j + 1) (u + v) := by
  rw [Rat.add_def']
  have a1 : ((u.num * (v.den : Int)).natAbs : Int) < pw (i + j) := by rw [Int.natAbs_mul, Int.natCast_mul]; exact rt_fits (by omega) (by omega) h1.1 (show ((Int.natAbs (v.den : Int) : Nat) : Int) < _ from h2.2) (Nat.le_refl _)
  have a2 : ((v.num * (u.den : Int)).natAbs : Int) < pw (i + j) := by rw [Int.natAbs_mul, Int.natCast_mul]; exact rt_fits (by omega) (by omega) h2.1 (show ((Int.natAbs (u.den : Int) : Nat) : Int) < _ from h1.2) (by omega)
  refine Sz.mk (Nat.mul_ne_zero u.den_nz v.den_nz) (sz_sum (two_pw _) a1 a2) ?_
  rw [Int.natCast_mul]
  exact rt_fits (by omega) (by omega) h1.2 h2.2 (by omega)
theorem Sz.mul {i j : Nat} {u v : Rat} (h1 : Sz i u) (h2 : Sz j v) : Sz (i + j) (u * v) := by
  rw [Rat.mul_def']
  refine Sz.mk (Nat.mul_ne_zero u.den_nz v.den_nz) ?_ ?_
  · rw [Int.natAbs_mul, Int.natCast_mul]; exact rt_fits (by omega) (by omega) h1.1 h2.1 (Nat.le_refl _)
  · rw [Int.natCast_mul]; exact rt_fits (by omega) (by omega) h1.2 h2.2 (by omega)
theorem Sz.neg {i : Nat} {u : Rat} (h : Sz i u) : Sz i (-u) := by unfold Sz at *; rw [Rat.neg_num, Rat.neg_den, Int.natAbs_neg]; exact h
theorem Sz.sub {i j : Nat} {u v : Rat} (h1 : Sz i u) (h2 : Sz j v) : Sz (i + j + 1) (u - v) := by rw [Rat.sub_eq_add_neg]; exact h1.add h2.neg
theorem Sz.mono {i j : Nat} {u : Rat} (h : Sz i u) (hij : i ≤ j) : Sz j u := ⟨Int.lt_of_lt_of_le h.1 (pw_mono hij), Int.lt_of_lt_of_le h.2 (pw_mono hij)⟩
theorem sz_of {w : World} {s : Bool} {a b : Option Addr} {l m : Nat} {zs ys : List Int} (h1 : Sl w a l zs) (h2 : Sl w b m ys) {n : Nat} (hl : l ≤ n) (hm : m ≤ n) {v : Rat} (hv : iv s zs = v.num) (hd : num ys = v.den) : Sz n v := by
  have z0 := num_nonneg h1.2.1
  have u1 := usedN_le zs
  have u2 := usedN_le ys
  have e1 : (v.num.natAbs : Int) = num zs := by rw [← hv]; cases s <;> simp only [iv_t, iv_f] <;> omega
  refine ⟨by rw [e1]; exact lt_of_used h1.2.1 (by rw [h1.1] at u1; omega), by rw [← hd]; exact lt_of_used h2.2.1 (by rw [h2.1] at u2; omega)⟩

theorem qadd_to (s1 : Bool) (a1 : Option Addr) (l1 c1 : Nat) (z1 : List Int) (b1 : Option Addr) (m1 d1 : Nat) (y1 : List Int) (v1 : Rat) (s2 : Bool) (a2 : Option Addr) (l2 c2 : Nat) (z2 : List Int) (b2 : Option Addr) (m2 d2 : Nat) (y2 : List Int) (v2 : Rat) (v : Rat) (w : World) (h1 : Rt w s1 a1 l1 c1 z1 b1 m1 d1 y1 v1) (h2 : Rt w s2 a2 l2 c2 z2 b2 m2 d2 y2 v2) (he : v1 + v2 = v) (hs : Short v) :
    Calls Tryz.prog 53 #[.agg #[.bool s1, .slice a1 l1 c1, .slice b1 m1 d1], .agg #[.bool s2, .slice a2 l2 c2, .slice b2 m2 d2]] w fun e w' => ∃ s' a' l' c' zs' b' m' d' ds', e = .returned (.tuple #[.agg #[.bool s', .slice a' l' c', .slice b' m' d'], .int .i64 0]) ∧ Rt w' s' a' l' c' zs' b' m' d' ds' v ∧ Below w.heap.size w w' := by
  refine (qadd_any s1 a1 l1 c1 z1 b1 m1 d1 y1 v1 s2 a2 l2 c2 z2 b2 m2 d2 y2 v2 w h1 h2).mono ?_
  rintro e w' ⟨er, s', a', l', c', zs', b', m', d', ds', v', rfl, h', hra, hb⟩
  rw [he] at hra
  rcases hra.out with ⟨-, rfl, rfl⟩ | ⟨hn, -⟩
  · exact ⟨s', a', l', c', zs', b', m', d', ds', rfl, h', hb⟩
  · exact absurd hs hn

theorem qsub_to (s1 : Bool) (a1 : Option Addr) (l1 c1 : Nat) (z1 : List Int) (b1 : Option Addr) (m1 d1 : Nat) (y1 : List Int) (v1 : Rat) (s2 : Bool) (a2 : Option Addr) (l2 c2 : Nat) (z2 : List Int) (b2 : Option Addr) (m2 d2 : Nat) (y2 : List Int) (v2 : Rat) (v : Rat) (w : World) (h1 : Rt w s1 a1 l1 c1 z1 b1 m1 d1 y1 v1) (h2 : Rt w s2 a2 l2 c2 z2 b2 m2 d2 y2 v2) (he : v1 - v2 = v) (hs : Short v) :
    Calls Tryz.prog 52 #[.agg #[.bool s1, .slice a1 l1 c1, .slice b1 m1 d1], .agg #[.bool s2, .slice a2 l2 c2, .slice b2 m2 d2]] w fun e w' => ∃ s' a' l' c' zs' b' m' d' ds', e = .returned (.tuple #[.agg #[.bool s', .slice a' l' c', .slice b' m' d'], .int .i64 0]) ∧ Rt w' s' a' l' c' zs' b' m' d' ds' v ∧ Below w.heap.size w w' := by
  refine (qsub_any s1 a1 l1 c1 z1 b1 m1 d1 y1 v1 s2 a2 l2 c2 z2 b2 m2 d2 y2 v2 w h1 h2).mono ?_
  rintro e w' ⟨er, s', a', l', c', zs', b', m', d', ds', v', rfl, h', hra, hb⟩
  rw [he] at hra
  rcases hra.out with ⟨-, rfl, rfl⟩ | ⟨hn, -⟩
  · exact ⟨s', a', l', c', zs', b', m', d', ds', rfl, h', hb⟩
  · exact absurd hs hn

theorem qmul_to (s1 : Bool) (a1 : Option Addr) (l1 c1 : Nat) (z1 : List Int) (b1 : Option Addr) (m1 d1 : Nat) (y1 : List Int) (v1 : Rat) (s2 : Bool) (a2 : Option Addr) (l2 c2 : Nat) (z2 : List Int) (b2 : Option Addr) (m2 d2 : Nat) (y2 : List Int) (v2 : Rat) (v : Rat) (w : World) (h1 : Rt w s1 a1 l1 c1 z1 b1 m1 d1 y1 v1) (h2 : Rt w s2 a2 l2 c2 z2 b2 m2 d2 y2 v2) (he : v1 * v2 = v) (hs : Short v) :
    Calls Tryz.prog 34 #[.agg #[.bool s1, .slice a1 l1 c1, .slice b1 m1 d1], .agg #[.bool s2, .slice a2 l2 c2, .slice b2 m2 d2]] w fun e w' => ∃ s' a' l' c' zs' b' m' d' ds', e = .returned (.tuple #[.agg #[.bool s', .slice a' l' c', .slice b' m' d'], .int .i64 0]) ∧ Rt w' s' a' l' c' zs' b' m' d' ds' v ∧ Below w.heap.size w w' := by
  refine (qmul_any s1 a1 l1 c1 z1 b1 m1 d1 y1 v1 s2 a2 l2 c2 z2 b2 m2 d2 y2 v2 w h1 h2).mono ?_
  rintro e w' ⟨er, s', a', l', c', zs', b', m', d', ds', v', rfl, h', hra, hb⟩
  rw [he] at hra
  rcases hra.out with ⟨-, rfl, rfl⟩ | ⟨hn, -⟩
  · exact ⟨s', a', l', c', zs', b', m', d', ds', rfl, h', hb⟩
  · exact absurd hs hn

theorem qquo_to (s1 : Bool) (a1 : Option Addr) (l1 c1 : Nat) (z1 : List Int) (b1 : Option Addr) (m1 d1 : Nat) (y1 : List Int) (v1 : Rat) (s2 : Bool) (a2 : Option Addr) (l2 c2 : Nat) (z2 : List Int) (b2 : Option Addr) (m2 d2 : Nat) (y2 : List Int) (v2 : Rat) (v : Rat) (w : World) (h1 : Rt w s1 a1 l1 c1 z1 b1 m1 d1 y1 v1) (h2 : Rt w s2 a2 l2 c2 z2 b2 m2 d2 y2 v2) (he : v1 / v2 = v) (hs : Short v) (h0 : v2 ≠ 0) :
    Calls Tryz.prog 83 #[.agg #[.bool s1, .slice a1 l1 c1, .slice b1 m1 d1], .agg #[.bool s2, .slice a2 l2 c2, .slice b2 m2 d2]] w fun e w' => ∃ s' a' l' c' zs' b' m' d' ds', e = .returned (.tuple #[.agg #[.bool s', .slice a' l' c', .slice b' m' d'], .int .i64 0]) ∧ Rt w' s' a' l' c' zs' b' m' d' ds' v ∧ Below w.heap.size w w' := by
  refine (qquo_ok s1 a1 l1 c1 z1 b1 m1 d1 y1 v1 s2 a2 l2 c2 z2 b2 m2 d2 y2 v2 w h1 h2 h0).mono ?_
  rintro e w' ⟨er, s', a', l', c', zs', b', m', d', ds', v', rfl, h', hra, hb⟩
  rw [he] at hra
  rcases hra.out with ⟨-, rfl, rfl⟩ | ⟨hn, -⟩
  · exact ⟨s', a', l', c', zs', b', m', d', ds', rfl, h', hb⟩
  · exact absurd hs hn

theorem qsmall_to (x y : Int) (h1 : -9223372036854775808 ≤ x) (h2 : x ≤ 9223372036854775807) (h3 : -9223372036854775808 ≤ y) (h4 : y ≤ 9223372036854775807) (h0 : y ≠ 0) (v : Rat) (w : World) (he : Rat.divInt x y = v) (hs : Short v) :
    Calls Tryz.prog 48 #[.int .i64 x, .int .i64 y] w fun e w' => ∃ s' a' l' c' zs' b' m' d' ds', e = .returned (.tuple #[.agg #[.bool s', .slice a' l' c', .slice b' m' d'], .int .i64 0]) ∧ Rt w' s' a' l' c' zs' b' m' d' ds' v ∧ Below w.heap.size w w' := by
  refine (qsmall_ok x y h1 h2 h3 h4 h0 w).mono ?_
  rintro e w' ⟨er, s', a', l', c', zs', b', m', d', ds', v', rfl, h', hra, hb⟩
  rw [he] at hra
  rcases hra.out with ⟨-, rfl, rfl⟩ | ⟨hn, -⟩
  · exact ⟨s', a', l', c', zs', b', m', d', ds', rfl, h', hb⟩
  · exact absurd hs hn
end Go.Proofs.YtngichjgfppnpaaGreatDoor
namespace Go.Proofs.YtngichjgfppnpaaGreatDoor
open Go.RowKit Go.Shelf
set_option linter.unusedVariables false

set_option maxHeartbeats 1000000 in
theorem sameq_any (a b : Option Addr) (la ca cb : Nat) (xs : List Int) (w : World) (ha : Sl w a la xs) (hb : Sl w b la xs) (h1 : la ≤ 40000000000000) :
    Calls Tryz.prog 96 #[.slice a la ca, .slice b la cb] w fun e w' => e = .returned (.bool true) ∧ ∃ n, w' = w.drewN n := by
  have hza := ha.1
  have g1 : ((la : Int) != la) = false := by simp
  by_cases h0 : la = 0
  · subst h0
    clear ha hb
    go_enter Tryz.func96, Tryz.ntmps96
    go_wp2_with fail
    refine wp_loop_rounds 1 ?_
    rw [rounds_succ]
    go_wp2_with fail
    go_ret
    exact ⟨rfl, 0, rfl⟩
  · obtain ⟨ba, oa, rfl, hca⟩ := ha.2.2 (by omega)
    obtain ⟨bb, ob, rfl, hcb⟩ := hb.2.2 (by omega)
    clear ha hb
    go_enter Tryz.func96, Tryz.ntmps96
    go_wp2_with fail
    go_loopw [5] (fun i wr => ∃ k : Nat, k ≤ la ∧ i = .int .i64 k ∧ ∃ q, wr = w.drewN q) (fun i _ => la - (intOf i).toNat)
    case atStart => exact ⟨0, Nat.zero_le _, rfl, 0, rfl⟩
    case round =>
      obtain ⟨k, hk, rfl, q, rfl⟩ := hrel
      by_cases hlt : k < la
      · have hcx := hca k (by omega)
        have hcy := hcb k (by omega)
        obtain ⟨x, hx⟩ : ∃ x, xs.getD k 0 = x := ⟨_, rfl⟩
        rw [hx] at hcx hcy
        clear hx
        have g2 : (x != x) = false := by simp
        go_wp2_with fail
        go_quiet (fail)
        go_wp2_with fail
        go_roundw
        case rel => exact ⟨k + 1, by omega, by go_num, q + nq, rfl⟩
        case measure => simp [intOf]; omega
      · go_wp2_with fail
        go_ret
        exact ⟨rfl, q, rfl⟩


theorem sameq_b (a b : Option Addr) (la ca cb : Nat) (xs : List Int) (w : World) (ha : Sl w a la xs) (hb : Sl w b la xs) (h1 : la ≤ 40000000000000) :
    Calls Tryz.prog 96 #[.slice a la ca, .slice b la cb] w fun e w' => e = .returned (.bool true) ∧ Below w.heap.size w w' := by
  refine (sameq_any a b la ca cb xs w ha hb h1).mono ?_
  rintro e w' ⟨rfl, n, rfl⟩
  exact ⟨rfl, below_drewN (Below.refl _ _) n⟩

set_option maxHeartbeats 4000000 in
theorem rsame5 (s : Bool) (a1 a2 b1 b2 : Option Addr) (l m c1 c2 d1 d2 : Nat) (xs ys : List Int) (w : World) (h1 : Sl w a1 l xs) (h2 : Sl w a2 l xs) (h3 : Sl w b1 m ys) (h4 : Sl w b2 m ys) (hl : l ≤ 40000000000000) (hm : m ≤ 40000000000000) :
    Calls Tryz.prog 58 #[.agg #[.bool s, .slice a1 l c1, .slice b1 m d1], .agg #[.bool s, .slice a2 l c2, .slice b2 m d2]] w fun e w' => e = .returned (.bool true) ∧ Below w.heap.size w w' := by
  have hss : (s == s) = true := by simp
  have B0 : Below w.heap.size w w := Below.refl _ _
  go_enter Tryz.func58, Tryz.ntmps58
  go_wp2_with fail
  refine ent2 w _ _ _ _ (Q := fun W => Calls Tryz.prog _ _ W _) ?_
  intro x1 hb hs_x1 V0 V1
  replace h1 := Sl.after hb h1
  replace h2 := Sl.after hb h2
  replace h3 := Sl.after hb h3
  replace h4 := Sl.after hb h4
  replace B0 := step B0 hb
  clear hb hs_x1
  refine (sameq_b a1 a2 l c1 c2 xs x1 h1 h2 hl).mono ?_
  rintro e x2 ⟨rfl, hb⟩
  replace V0 := V0.a hb
  replace V1 := V1.a hb
  replace h1 := Sl.after hb h1
  replace h2 := Sl.after hb h2
  replace h3 := Sl.after hb h3
  replace h4 := Sl.after hb h4
  replace B0 := step B0 hb
  clear hb
  have c_V0 := V0.d0
  have f0_V0 := V0.frozen 0
  have d_V0 := V0.d1
  have f1_V0 := V0.frozen 1
  have e_V0 := V0.d2
  have f2_V0 := V0.frozen 2
  have l_V0 := V0.lt
  have m_V0 := Nat.le_of_lt l_V0
  have c_V1 := V1.d0
  have f0_V1 := V1.frozen 0
  have d_V1 := V1.d1
  have f1_V1 := V1.frozen 1
  have e_V1 := V1.d2
  have f2_V1 := V1.frozen 2
  have l_V1 := V1.lt
  have m_V1 := Nat.le_of_lt l_V1
  go_wp2_with fail
  refine (sameq_b b1 b2 m d1 d2 ys x2 h3 h4 hm).mono ?_
  rintro e x3 ⟨rfl, hb⟩
  replace V0 := V0.a hb
  replace V1 := V1.a hb
  replace h1 := Sl.after hb h1
  replace h2 := Sl.after hb h2
  replace h3 := Sl.after hb h3
  replace h4 := Sl.after hb h4
  replace B0 := step B0 hb
  clear hb
  clear c_V0 f0_V0 d_V0 f1_V0 e_V0 f2_V0 l_V0 m_V0 c_V1 f0_V1 d_V1 f1_V1 e_V1 f2_V1 l_V1 m_V1
  have c_V0 := V0.d0
  have f0_V0 := V0.frozen 0
  have d_V0 := V0.d1
  have f1_V0 := V0.frozen 1
  have e_V0 := V0.d2
  have f2_V0 := V0.frozen 2
  have l_V0 := V0.lt
  have m_V0 := Nat.le_of_lt l_V0
  have c_V1 := V1.d0
  have f0_V1 := V1.frozen 0
  have d_V1 := V1.d1
  have f1_V1 := V1.frozen 1
  have e_V1 := V1.d2
  have f2_V1 := V1.frozen 2
  have l_V1 := V1.lt
  have m_V1 := Nat.le_of_lt l_V1
  go_wp2_with fail
  go_ret
  exact ⟨rfl, B0⟩

theorem trim_one {xs ys : List Int} (hx : Limbs xs) (hy : Limbs ys) (ux : usedN xs = xs.length) (uy : usedN ys = ys.length) (e : num xs = num ys) : xs = ys := by
  obtain ⟨e1, e2⟩ := one_list hx hy rfl ux e
  rw [uy, List.take_of_length_le (Nat.le_refl _)] at e2
  exact e2
theorem Ow.sl {w : World} {g : Nat} {cs : List Int} (h : Ow w g cs) (hL : Limbs cs) {n : Nat} (hn : cs.length = n) : Sl w (some ⟨g, 0, none⟩) n cs := by subst hn; exact Own.sl h hL
end Go.Proofs.YtngichjgfppnpaaGreatDoor
namespace Go.Proofs.YtngichjgfppnpaaGreatDoor
open Go.RowKit Go.Shelf
set_option linter.unusedVariables false

def Norm (s : Bool) (zs ys : List Int) : Prop := usedN zs = zs.length ∧ usedN ys = ys.length ∧ ys.length ≠ 0 ∧ ¬ (s = true ∧ zs.length = 0) ∧ Int.gcd (num zs) (num ys) = 1
def Ri (w : World) (a : Option Addr) (l c : Nat) (zs : List Int) (b : Option Addr) (m d : Nat) (ys : List Int) : Prop := Sl w a l zs ∧ Sl w b m ys ∧ l ≤ c ∧ m ≤ d
theorem Ri.after {w w' : World} (hb : Below w.heap.size w w') {a : Option Addr} {l c : Nat} {zs : List Int} {b : Option Addr} {m d : Nat} {ys : List Int} (h : Ri w a l c zs b m d ys) : Ri w' a l c zs b m d ys := ⟨h.1.below hb (Nat.le_refl _), h.2.1.below hb (Nat.le_refl _), h.2.2⟩
theorem Ri.drw {w : World} {a : Option Addr} {l c : Nat} {zs : List Int} {b : Option Addr} {m d : Nat} {ys : List Int} (h : Ri w a l c zs b m d ys) : Ri w.drew a l c zs b m d ys := h
theorem Ri.far {w : World} {a : Option Addr} {l c : Nat} {zs : List Int} {b : Option Addr} {m d : Nat} {ys : List Int} (h : Ri w a l c zs b m d ys) {b' : Nat} {t : TypeId} {cs : Array Value} (V : Va w b' t cs) (hn : NoInt cs) {w' : World} (k : ∀ c, c ≠ b' → w'.heap[c]? = w.heap[c]?) : Ri w' a l c zs b m d ys := ⟨h.1.far V hn k, h.2.1.far V hn k, h.2.2⟩
theorem used_last {zs : List Int} {k : Nat} (h : zs.length = k + 1) : (usedN zs = k + 1) ↔ zs.getD k 0 ≠ 0 := by
  constructor
  · intro e
    have := usedN_top zs (by omega)
    rw [e] at this
    exact this
  · intro e
    exact usedN_eq (by omega) (fun i h1 h2 => by omega) (Or.inr (by simpa using e))
theorem norm_rat {s : Bool} {zs ys : List Int} (hz : Limbs zs) (hy : Limbs ys) (h : Norm s zs ys) : ∃ v : Rat, iv s zs = v.num ∧ num ys = v.den ∧ (s = true → num zs ≠ 0) := by
  have z0 := num_nonneg hz
  have y0 := num_nonneg hy
  have y1 : num ys ≠ 0 := fun e => h.2.2.1 (by rw [← h.2.1]; exact (num_eq_zero hy).1 e)
  have c : (iv s zs).natAbs.gcd (num ys).toNat = 1 := by
    have e1 : (iv s zs).natAbs = (num zs).natAbs := by cases s <;> simp only [iv_t, iv_f] <;> omega
    have e2 : (num ys).toNat = (num ys).natAbs := by omega
    rw [e1, e2]
    exact h.2.2.2.2
  refine ⟨⟨iv s zs, (num ys).toNat, by omega, c⟩, rfl, by show num ys = ((num ys).toNat : Int); omega, fun e1 e2 => h.2.2.2.1 ⟨e1, by rw [← h.1]; exact (num_eq_zero hz).1 e2⟩⟩

theorem trimmed5 (a : Option Addr) (l c : Nat) (zs : List Int) (w : World) (h : Sl w a l zs) (hl : l ≤ 40000000000000) :
    Calls Tryz.prog 62 #[.slice a l c] w fun e w' => e = .returned (.bool (decide (usedN zs = l))) ∧ Below w.heap.size w w' := by
  rcases l with _ | k
  · have e0 : decide (usedN zs = 0) = true := by simp; have := usedN_le zs; have := h.1; omega
    rw [e0]
    clear e0 h
    go_enter Tryz.func62, Tryz.ntmps62
    go_wp2_with fail
    go_ret
    exact ⟨rfl, Below.refl _ _⟩
  · obtain ⟨b, off, rfl, hc⟩ := h.2.2 (by omega)
    have hck := hc k (by omega)
    have hu := used_last h.1
    obtain ⟨x, hx⟩ : ∃ x, zs.getD k 0 = x := ⟨_, rfl⟩
    rw [hx] at hck hu
    have e1 : (x != 0) = decide (usedN zs = k + 1) := by
      by_cases hh : x = 0
      · subst hh; simp at hu; simp; omega
      · simp only [hu.2 hh]; simp [hh]
    have e2 : IntKind.i64.wrap ((((k + 1 : Nat) : Int)) - 1) = (k : Int) := by rw [IntKind.wrap_i64]; omega
    obtain ⟨q, hq⟩ : ∃ q : Bool, decide (usedN zs = k + 1) = q := ⟨_, rfl⟩
    rw [hq] at e1 ⊢
    clear hq hu hx hc h
    go_enter Tryz.func62, Tryz.ntmps62
    go_wp2_with fail
    go_ret
    exact ⟨rfl, Below.refl _ _⟩

theorem one5 (w : World) :
    Calls Tryz.prog 64 #[] w fun e w' => ∃ g, e = .returned (.slice (some ⟨g, 0, none⟩) 1 1) ∧ Sl w' (some ⟨g, 0, none⟩) 1 [1] ∧ Below w.heap.size w w' := by
  go_enter Tryz.func64, Tryz.ntmps64
  go_wp2_with fail
  go_ret
  exact ⟨w.heap.size, rfl, sl_one w 1 ⟨by omega, by omega⟩, (Below.refl _ _).alloc (Nat.le_refl _) _⟩

def Chk (s : Bool) (l m : Nat) (zs ys : List Int) (er : Int) : Prop := (er = 3 ∧ (1024 < l ∨ 1024 < m)) ∨ (er = 50 ∧ l ≤ 1024 ∧ m ≤ 1024 ∧ ¬ Norm s zs ys) ∨ (er = 0 ∧ l ≤ 1024 ∧ m ≤ 1024 ∧ Norm s zs ys)
set_option maxHeartbeats 8000000 in
theorem check5 (s : Bool) (a : Option Addr) (l c : Nat) (zs : List Int) (b : Option Addr) (m d : Nat) (ys : List Int) (w : World) (h : Ri w a l c zs b m d ys) :
    Calls Tryz.prog 24 #[.agg #[.bool s, .slice a l c, .slice b m d]] w fun e w' => ∃ er, e = .returned (.int .i64 er) ∧ Hid (Chk s l m zs ys er) ∧ Below w.heap.size w w' := by
  have hzl := h.1.1
  have hyl := h.2.1.1
  by_cases h1 : 1024 < l
  ·
    have B0 : Below w.heap.size w w := Below.refl _ _
    go_enter Tryz.func24, Tryz.ntmps24
    go_wp2_with fail
    go_ret
    exact ⟨_, rfl, Or.inl ⟨rfl, Or.inl h1⟩, B0.alloc (Nat.le_refl _) _⟩
  by_cases h2 : 1024 < m
  ·
    have B0 : Below w.heap.size w w := Below.refl _ _
    go_enter Tryz.func24, Tryz.ntmps24
    go_wp2_with fail
    go_ret
    exact ⟨_, rfl, Or.inl ⟨rfl, Or.inr h2⟩, B0.alloc (Nat.le_refl _) _⟩
  have HT : Hid (l ≤ 1024 ∧ m ≤ 1024) := ⟨by omega, by omega⟩
  have hl : l ≤ 40000000000000 := by omega
  have hm : m ≤ 40000000000000 := by omega
  by_cases u1 : usedN zs = l
  rotate_left
  ·
    have B0 : Below w.heap.size w w := Below.refl _ _
    go_enter Tryz.func24, Tryz.ntmps24
    go_wp2_with fail
    refine ent1 w _ _ (Q := fun W => Calls Tryz.prog _ _ W _) ?_
    intro x1 hb hs_x1 V0
    replace h := Ri.after hb h
    replace B0 := step B0 hb
    clear hb hs_x1
    refine (trimmed5 a l c zs x1 h.1 hl).mono ?_
    rintro e x2 ⟨rfl, hb⟩
    replace V0 := V0.a hb
    replace h := Ri.after hb h
    replace B0 := step B0 hb
    clear hb
    rw [decide_eq_false u1]
    have c_V0 := V0.d0
    have f0_V0 := V0.frozen 0
    have d_V0 := V0.d1
    have f1_V0 := V0.frozen 1
    have e_V0 := V0.d2
    have f2_V0 := V0.frozen 2
    have l_V0 := V0.lt
    have m_V0 := Nat.le_of_lt l_V0
    go_wp2_with fail
    go_ret
    exact ⟨_, rfl, Or.inr (Or.inl ⟨rfl, HT.out.1, HT.out.2, fun e => u1 (by rw [e.1, hzl])⟩), B0⟩
  by_cases u2 : usedN ys = m
  rotate_left
  ·
    have B0 : Below w.heap.size w w := Below.refl _ _
    go_enter Tryz.func24, Tryz.ntmps24
    go_wp2_with fail
    refine ent1 w _ _ (Q := fun W => Calls Tryz.prog _ _ W _) ?_
    intro x1 hb hs_x1 V0
    replace h := Ri.after hb h
    replace B0 := step B0 hb
    clear hb hs_x1
    refine (trimmed5 a l c zs x1 h.1 hl).mono ?_
    rintro e x2 ⟨rfl, hb⟩
    replace V0 := V0.a hb
    replace h := Ri.after hb h
    replace B0 := step B0 hb
    clear hb
    rw [decide_eq_true u1]
    have c_V0 := V0.d0
    have f0_V0 := V0.frozen 0
    have d_V0 := V0.d1
    have f1_V0 := V0.frozen 1
    have e_V0 := V0.d2
    have f2_V0 := V0.frozen 2
    have l_V0 := V0.lt
    have m_V0 := Nat.le_of_lt l_V0
    go_wp2_with fail
    refine (trimmed5 b m d ys x2 h.2.1 hm).mono ?_
    rintro e x3 ⟨rfl, hb⟩
    replace V0 := V0.a hb
    replace h := Ri.after hb h
    replace B0 := step B0 hb
    clear hb
    rw [decide_eq_false u2]
    clear c_V0 f0_V0 d_V0 f1_V0 e_V0 f2_V0 l_V0 m_V0
    have c_V0 := V0.d0
    have f0_V0 := V0.frozen 0
    have d_V0 := V0.d1
    have f1_V0 := V0.frozen 1
    have e_V0 := V0.d2
    have f2_V0 := V0.frozen 2
    have l_V0 := V0.lt
    have m_V0 := Nat.le_of_lt l_V0
    go_wp2_with fail
    go_ret
    exact ⟨_, rfl, Or.inr (Or.inl ⟨rfl, HT.out.1, HT.out.2, fun e => u2 (by rw [e.2.1, hyl])⟩), B0⟩
  have HU : Hid (usedN zs = l ∧ usedN ys = m) := ⟨u1, u2⟩
  by_cases m0 : m = 0
  · subst m0
    have B0 : Below w.heap.size w w := Below.refl _ _
    go_enter Tryz.func24, Tryz.ntmps24
    go_wp2_with fail
    refine ent1 w _ _ (Q := fun W => Calls Tryz.prog _ _ W _) ?_
    intro x1 hb hs_x1 V0
    replace h := Ri.after hb h
    replace B0 := step B0 hb
    clear hb hs_x1
    refine (trimmed5 a l c zs x1 h.1 hl).mono ?_
    rintro e x2 ⟨rfl, hb⟩
    replace V0 := V0.a hb
    replace h := Ri.after hb h
    replace B0 := step B0 hb
    clear hb
    rw [decide_eq_true u1]
    have c_V0 := V0.d0
    have f0_V0 := V0.frozen 0
    have d_V0 := V0.d1
    have f1_V0 := V0.frozen 1
    have e_V0 := V0.d2
    have f2_V0 := V0.frozen 2
    have l_V0 := V0.lt
    have m_V0 := Nat.le_of_lt l_V0
    go_wp2_with fail
    refine (trimmed5 b 0 d ys x2 h.2.1 hm).mono ?_
    rintro e x3 ⟨rfl, hb⟩
    replace V0 := V0.a hb
    replace h := Ri.after hb h
    replace B0 := step B0 hb
    clear hb
    rw [decide_eq_true u2]
    clear c_V0 f0_V0 d_V0 f1_V0 e_V0 f2_V0 l_V0 m_V0
    have c_V0 := V0.d0
    have f0_V0 := V0.frozen 0
    have d_V0 := V0.d1
    have f1_V0 := V0.frozen 1
    have e_V0 := V0.d2
    have f2_V0 := V0.frozen 2
    have l_V0 := V0.lt
    have m_V0 := Nat.le_of_lt l_V0
    go_wp2_with fail
    go_ret
    exact ⟨_, rfl, Or.inr (Or.inl ⟨rfl, HT.out.1, HT.out.2, fun e => e.2.2.1 hyl⟩), B0⟩
  have m1 : 0 < m := Nat.pos_of_ne_zero m0
  have mb : ((m : Int) == 0) = false := by simp; omega
  cases s
  ·
    have B0 : Below w.heap.size w w := Below.refl _ _
    go_enter Tryz.func24, Tryz.ntmps24
    go_wp2_with fail
    refine ent1 w _ _ (Q := fun W => Calls Tryz.prog _ _ W _) ?_
    intro x1 hb hs_x1 V0
    replace h := Ri.after hb h
    replace B0 := step B0 hb
    clear hb hs_x1
    refine (trimmed5 a l c zs x1 h.1 hl).mono ?_
    rintro e x2 ⟨rfl, hb⟩
    replace V0 := V0.a hb
    replace h := Ri.after hb h
    replace B0 := step B0 hb
    clear hb
    rw [decide_eq_true u1]
    have c_V0 := V0.d0
    have f0_V0 := V0.frozen 0
    have d_V0 := V0.d1
    have f1_V0 := V0.frozen 1
    have e_V0 := V0.d2
    have f2_V0 := V0.frozen 2
    have l_V0 := V0.lt
    have m_V0 := Nat.le_of_lt l_V0
    go_wp2_with fail
    refine (trimmed5 b m d ys x2 h.2.1 hm).mono ?_
    rintro e x3 ⟨rfl, hb⟩
    replace V0 := V0.a hb
    replace h := Ri.after hb h
    replace B0 := step B0 hb
    clear hb
    rw [decide_eq_true u2]
    clear c_V0 f0_V0 d_V0 f1_V0 e_V0 f2_V0 l_V0 m_V0
    have c_V0 := V0.d0
    have f0_V0 := V0.frozen 0
    have d_V0 := V0.d1
    have f1_V0 := V0.frozen 1
    have e_V0 := V0.d2
    have f2_V0 := V0.frozen 2
    have l_V0 := V0.lt
    have m_V0 := Nat.le_of_lt l_V0
    go_wp2_with fail
    refine (rgcd_n a b l c m d zs ys x3 h.1 h.2.1 h.2.2.1 h.2.2.2 (by omega) (by omega) (by have := HU.out.1; have := HT.out.1; omega) (by have := HU.out.2; have := HT.out.2; omega)).mono ?_
    rintro e x4 ⟨ag, mg, cg, zg, rfl, hcg, hg, ug, eg, hb⟩
    replace V0 := V0.a hb
    replace h := Ri.after hb h
    replace B0 := step B0 hb
    clear hb
    have EG : Hid (num zg = (Int.gcd (num zs) (num ys) : Nat)) := eg
    have hmg : mg ≤ 1024 := by
      have y0 := num_nonneg h.2.1.2.1
      have yn : num ys ≠ 0 := fun e => m0 (by rw [← HU.out.2]; exact (num_eq_zero h.2.1.2.1).1 e)
      have hgl : num zg ≤ num ys := Int.le_of_dvd (by omega) (by rw [eg]; exact Int.gcd_dvd_right ..)
      have := used_of_lt hg.2.1 (n := 1024) (Int.lt_of_le_of_lt hgl (lt_of_used h.2.1.2.1 (by rw [HU.out.2]; exact HT.out.2)))
      omega
    clear eg
    clear c_V0 f0_V0 d_V0 f1_V0 e_V0 f2_V0 l_V0 m_V0
    have c_V0 := V0.d0
    have f0_V0 := V0.frozen 0
    have d_V0 := V0.d1
    have f1_V0 := V0.frozen 1
    have e_V0 := V0.d2
    have f2_V0 := V0.frozen 2
    have l_V0 := V0.lt
    have m_V0 := Nat.le_of_lt l_V0
    go_wp2_with fail
    refine (one5 x4).mono ?_
    rintro e x5 ⟨g1, rfl, hg1, hb⟩
    replace V0 := V0.a hb
    replace h := Ri.after hb h
    replace hg := Sl.after hb hg
    replace B0 := step B0 hb
    clear hb
    clear c_V0 f0_V0 d_V0 f1_V0 e_V0 f2_V0 l_V0 m_V0
    have c_V0 := V0.d0
    have f0_V0 := V0.frozen 0
    have d_V0 := V0.d1
    have f1_V0 := V0.frozen 1
    have e_V0 := V0.d2
    have f2_V0 := V0.frozen 2
    have l_V0 := V0.lt
    have m_V0 := Nat.le_of_lt l_V0
    go_wp2_with fail
    refine (rcompare_n ag (some ⟨g1, 0, none⟩) mg cg 1 1 zg [1] x5 hg hg1 (by omega) (by omega) hcg (by omega)).mono ?_
    rintro e x6 ⟨rfl, hb⟩
    replace V0 := V0.a hb
    replace h := Ri.after hb h
    replace hg := Sl.after hb hg
    replace hg1 := Sl.after hb hg1
    replace B0 := step B0 hb
    clear hb
    have n1 : num [1] = 1 := by simp [num]
    rw [n1, EG.out]
    clear n1
    by_cases g1' : Int.gcd (num zs) (num ys) = 1
    ·
      have ec : cmp3 ((Int.gcd (num zs) (num ys) : Nat) : Int) 1 = 0 := by rw [g1']; rfl
      rw [ec]
      clear c_V0 f0_V0 d_V0 f1_V0 e_V0 f2_V0 l_V0 m_V0
      have c_V0 := V0.d0
      have f0_V0 := V0.frozen 0
      have d_V0 := V0.d1
      have f1_V0 := V0.frozen 1
      have e_V0 := V0.d2
      have f2_V0 := V0.frozen 2
      have l_V0 := V0.lt
      have m_V0 := Nat.le_of_lt l_V0
      go_wp2_with fail
      go_ret
      exact ⟨_, rfl, Or.inr (Or.inr ⟨rfl, HT.out.1, HT.out.2, by rw [hzl]; exact HU.out.1, by rw [hyl]; exact HU.out.2, by rw [hyl]; exact m0, (fun e => by cases e.1), g1'⟩), B0⟩
    ·
      have gp : 0 < Int.gcd (num zs) (num ys) := Int.gcd_pos_of_ne_zero_right _ (fun e => m0 (by rw [← HU.out.2]; exact (num_eq_zero h.2.1.2.1).1 e))
      have ec : cmp3 ((Int.gcd (num zs) (num ys) : Nat) : Int) 1 = 1 := cmp3_gt (by omega)
      rw [ec]
      clear c_V0 f0_V0 d_V0 f1_V0 e_V0 f2_V0 l_V0 m_V0
      have c_V0 := V0.d0
      have f0_V0 := V0.frozen 0
      have d_V0 := V0.d1
      have f1_V0 := V0.frozen 1
      have e_V0 := V0.d2
      have f2_V0 := V0.frozen 2
      have l_V0 := V0.lt
      have m_V0 := Nat.le_of_lt l_V0
      go_wp2_with fail
      go_ret
      exact ⟨_, rfl, Or.inr (Or.inl ⟨rfl, HT.out.1, HT.out.2, fun e => g1' e.2.2.2.2⟩), B0⟩
  ·
    by_cases l0 : l = 0
    · subst l0
      have B0 : Below w.heap.size w w := Below.refl _ _
      go_enter Tryz.func24, Tryz.ntmps24
      go_wp2_with fail
      refine ent1 w _ _ (Q := fun W => Calls Tryz.prog _ _ W _) ?_
      intro x1 hb hs_x1 V0
      replace h := Ri.after hb h
      replace B0 := step B0 hb
      clear hb hs_x1
      refine (trimmed5 a 0 c zs x1 h.1 hl).mono ?_
      rintro e x2 ⟨rfl, hb⟩
      replace V0 := V0.a hb
      replace h := Ri.after hb h
      replace B0 := step B0 hb
      clear hb
      rw [decide_eq_true u1]
      have c_V0 := V0.d0
      have f0_V0 := V0.frozen 0
      have d_V0 := V0.d1
      have f1_V0 := V0.frozen 1
      have e_V0 := V0.d2
      have f2_V0 := V0.frozen 2
      have l_V0 := V0.lt
      have m_V0 := Nat.le_of_lt l_V0
      go_wp2_with fail
      refine (trimmed5 b m d ys x2 h.2.1 hm).mono ?_
      rintro e x3 ⟨rfl, hb⟩
      replace V0 := V0.a hb
      replace h := Ri.after hb h
      replace B0 := step B0 hb
      clear hb
      rw [decide_eq_true u2]
      clear c_V0 f0_V0 d_V0 f1_V0 e_V0 f2_V0 l_V0 m_V0
      have c_V0 := V0.d0
      have f0_V0 := V0.frozen 0
      have d_V0 := V0.d1
      have f1_V0 := V0.frozen 1
      have e_V0 := V0.d2
      have f2_V0 := V0.frozen 2
      have l_V0 := V0.lt
      have m_V0 := Nat.le_of_lt l_V0
      go_wp2_with fail
      go_ret
      exact ⟨_, rfl, Or.inr (Or.inl ⟨rfl, HT.out.1, HT.out.2, fun e => e.2.2.2.1 ⟨rfl, hzl⟩⟩), B0⟩
    have l1 : 0 < l := Nat.pos_of_ne_zero l0
    have lb : ((l : Int) == 0) = false := by simp; omega
    have mb : ((m : Int) == 0) = false := by simp; omega
    have B0 : Below w.heap.size w w := Below.refl _ _
    go_enter Tryz.func24, Tryz.ntmps24
    go_wp2_with fail
    refine ent1 w _ _ (Q := fun W => Calls Tryz.prog _ _ W _) ?_
    intro x1 hb hs_x1 V0
    replace h := Ri.after hb h
    replace B0 := step B0 hb
    clear hb hs_x1
    refine (trimmed5 a l c zs x1 h.1 hl).mono ?_
    rintro e x2 ⟨rfl, hb⟩
    replace V0 := V0.a hb
    replace h := Ri.after hb h
    replace B0 := step B0 hb
    clear hb
    rw [decide_eq_true u1]
    have c_V0 := V0.d0
    have f0_V0 := V0.frozen 0
    have d_V0 := V0.d1
    have f1_V0 := V0.frozen 1
    have e_V0 := V0.d2
    have f2_V0 := V0.frozen 2
    have l_V0 := V0.lt
    have m_V0 := Nat.le_of_lt l_V0
    go_wp2_with fail
    refine (trimmed5 b m d ys x2 h.2.1 hm).mono ?_
    rintro e x3 ⟨rfl, hb⟩
    replace V0 := V0.a hb
    replace h := Ri.after hb h
    replace B0 := step B0 hb
    clear hb
    rw [decide_eq_true u2]
    clear c_V0 f0_V0 d_V0 f1_V0 e_V0 f2_V0 l_V0 m_V0
    have c_V0 := V0.d0
    have f0_V0 := V0.frozen 0
    have d_V0 := V0.d1
    have f1_V0 := V0.frozen 1
    have e_V0 := V0.d2
    have f2_V0 := V0.frozen 2
    have l_V0 := V0.lt
    have m_V0 := Nat.le_of_lt l_V0
    go_wp2_with fail
    refine (rgcd_n a b l c m d zs ys x3 h.1 h.2.1 h.2.2.1 h.2.2.2 (by omega) (by omega) (by have := HU.out.1; have := HT.out.1; omega) (by have := HU.out.2; have := HT.out.2; omega)).mono ?_
    rintro e x4 ⟨ag, mg, cg, zg, rfl, hcg, hg, ug, eg, hb⟩
    replace V0 := V0.a hb
    replace h := Ri.after hb h
    replace B0 := step B0 hb
    clear hb
    have EG : Hid (num zg = (Int.gcd (num zs) (num ys) : Nat)) := eg
    have hmg : mg ≤ 1024 := by
      have y0 := num_nonneg h.2.1.2.1
      have yn : num ys ≠ 0 := fun e => m0 (by rw [← HU.out.2]; exact (num_eq_zero h.2.1.2.1).1 e)
      have hgl : num zg ≤ num ys := Int.le_of_dvd (by omega) (by rw [eg]; exact Int.gcd_dvd_right ..)
      have := used_of_lt hg.2.1 (n := 1024) (Int.lt_of_le_of_lt hgl (lt_of_used h.2.1.2.1 (by rw [HU.out.2]; exact HT.out.2)))
      omega
    clear eg
    clear c_V0 f0_V0 d_V0 f1_V0 e_V0 f2_V0 l_V0 m_V0
    have c_V0 := V0.d0
    have f0_V0 := V0.frozen 0
    have d_V0 := V0.d1
    have f1_V0 := V0.frozen 1
    have e_V0 := V0.d2
    have f2_V0 := V0.frozen 2
    have l_V0 := V0.lt
    have m_V0 := Nat.le_of_lt l_V0
    go_wp2_with fail
    refine (one5 x4).mono ?_
    rintro e x5 ⟨g1, rfl, hg1, hb⟩
    replace V0 := V0.a hb
    replace h := Ri.after hb h
    replace hg := Sl.after hb hg
    replace B0 := step B0 hb
    clear hb
    clear c_V0 f0_V0 d_V0 f1_V0 e_V0 f2_V0 l_V0 m_V0
    have c_V0 := V0.d0
    have f0_V0 := V0.frozen 0
    have d_V0 := V0.d1
    have f1_V0 := V0.frozen 1
    have e_V0 := V0.d2
    have f2_V0 := V0.frozen 2
    have l_V0 := V0.lt
    have m_V0 := Nat.le_of_lt l_V0
    go_wp2_with fail
    refine (rcompare_n ag (some ⟨g1, 0, none⟩) mg cg 1 1 zg [1] x5 hg hg1 (by omega) (by omega) hcg (by omega)).mono ?_
    rintro e x6 ⟨rfl, hb⟩
    replace V0 := V0.a hb
    replace h := Ri.after hb h
    replace hg := Sl.after hb hg
    replace hg1 := Sl.after hb hg1
    replace B0 := step B0 hb
    clear hb
    have n1 : num [1] = 1 := by simp [num]
    rw [n1, EG.out]
    clear n1
    by_cases g1' : Int.gcd (num zs) (num ys) = 1
    ·
      have ec : cmp3 ((Int.gcd (num zs) (num ys) : Nat) : Int) 1 = 0 := by rw [g1']; rfl
      rw [ec]
      clear c_V0 f0_V0 d_V0 f1_V0 e_V0 f2_V0 l_V0 m_V0
      have c_V0 := V0.d0
      have f0_V0 := V0.frozen 0
      have d_V0 := V0.d1
      have f1_V0 := V0.frozen 1
      have e_V0 := V0.d2
      have f2_V0 := V0.frozen 2
      have l_V0 := V0.lt
      have m_V0 := Nat.le_of_lt l_V0
      go_wp2_with fail
      go_ret
      exact ⟨_, rfl, Or.inr (Or.inr ⟨rfl, HT.out.1, HT.out.2, by rw [hzl]; exact HU.out.1, by rw [hyl]; exact HU.out.2, by rw [hyl]; exact m0, (fun e => l0 (by rw [← hzl]; exact e.2)), g1'⟩), B0⟩
    ·
      have gp : 0 < Int.gcd (num zs) (num ys) := Int.gcd_pos_of_ne_zero_right _ (fun e => m0 (by rw [← HU.out.2]; exact (num_eq_zero h.2.1.2.1).1 e))
      have ec : cmp3 ((Int.gcd (num zs) (num ys) : Nat) : Int) 1 = 1 := cmp3_gt (by omega)
      rw [ec]
      clear c_V0 f0_V0 d_V0 f1_V0 e_V0 f2_V0 l_V0 m_V0
      have c_V0 := V0.d0
      have f0_V0 := V0.frozen 0
      have d_V0 := V0.d1
      have f1_V0 := V0.frozen 1
      have e_V0 := V0.d2
      have f2_V0 := V0.frozen 2
      have l_V0 := V0.lt
      have m_V0 := Nat.le_of_lt l_V0
      go_wp2_with fail
      go_ret
      exact ⟨_, rfl, Or.inr (Or.inl ⟨rfl, HT.out.1, HT.out.2, fun e => g1' e.2.2.2.2⟩), B0⟩

end Go.Proofs.YtngichjgfppnpaaGreatDoor
namespace Go.Proofs.YtngichjgfppnpaaGreatDoor
set_option linter.unusedVariables false

structure Ck (l : List Pq) (j : Nat) : Prop where
  z : j = 0 → aq l 0 = 0
  u : 0 < j → aq l (j - 1) < aq l j
  r0 : 0 ≤ rq l j
  r1 : rq l j ≤ 1
theorem Sok.ck {l : List Pq} (h : Sok l) {j : Nat} (hj : j < l.length) : Ck l j :=
  ⟨fun _ => h.nought, fun h0 => by
    obtain ⟨i, rfl⟩ : ∃ i, j = i + 1 := ⟨j - 1, by omega⟩
    exact h.up i hj, (h.rate j hj).1, (h.rate j hj).2⟩
theorem Sok.of {l : List Pq} (h1 : 1 ≤ l.length) (h2 : l.length ≤ 8) (h : ∀ j, j < l.length → Ck l j) : Sok l :=
  ⟨h1, h2, (h 0 h1).z rfl, fun i hi => (h (i + 1) hi).u (by omega), fun i hi => ⟨(h i hi).r0, (h i hi).r1⟩⟩
def Sht (l : List Pq) : Prop := ∀ i, i < l.length → Sz 3 (aq l i) ∧ Sz 3 (rq l i)
theorem Sht.part {l : List Pq} (h : Sht l) {i : Nat} (hi : i + 1 < l.length) : Sz 7 (aq l (i + 1) - aq l i) ∧ Sz 10 (rq l i * (aq l (i + 1) - aq l i)) := by
  have a1 := (h _ hi).1
  have a2 := (h i (by omega)).1
  have a3 := (h i (by omega)).2
  have b1 : Sz 7 (aq l (i + 1) - aq l i) := (a1.sub a2).mono (by omega)
  exact ⟨b1, (a3.mul b1).mono (by omega)⟩
theorem Sz.zero : Sz 1 0 := by
  unfold Sz
  exact ⟨Int.lt_trans (by decide) (one_lt_pw (by omega)), one_lt_pw (by omega)⟩
theorem Sht.ful {l : List Pq} (h : Sht l) : ∀ k, k < l.length → Sz (11 * k + 1) (ful l k)
  | 0, _ => Sz.zero
  | k + 1, hk => by
    have := (h.ful k (by omega)).add (h.part hk).2
    exact this.mono (by omega)
theorem Sht.last {l : List Pq} (h : Sht l) {k n : Nat} {b : Rat} (h1 : 1 ≤ k) (hk : k ≤ l.length) (h8 : l.length ≤ 8) (hb : Sz n b) : Sz (n + 4) (b - aq l (k - 1)) ∧ Sz (n + 7) (rq l (k - 1) * (b - aq l (k - 1))) ∧ Sz (n + 86) (atk l k b) := by
  have a1 := (h (k - 1) (by omega)).1
  have a2 := (h (k - 1) (by omega)).2
  have a3 : Sz (n + 4) (b - aq l (k - 1)) := (hb.sub a1).mono (by omega)
  have a4 : Sz (n + 7) (rq l (k - 1) * (b - aq l (k - 1))) := (a2.mul a3).mono (by omega)
  exact ⟨a3, a4, ((h.ful (k - 1) (by omega)).add a4).mono (by omega)⟩
end Go.Proofs.YtngichjgfppnpaaGreatDoor
