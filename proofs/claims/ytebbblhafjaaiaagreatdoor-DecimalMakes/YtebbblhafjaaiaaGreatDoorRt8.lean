/-
  SameRatio, spoilt, is, zero, alike, awake of the statements of layer 5.
-/
import Derived.Test.YtebbblhafjaaiaaGreatDoorRt7
import Derived.Test.YtebbblhafjaaiaaGreatDoorRt5
namespace Go.Proofs.YtebbblhafjaaiaaGreatDoor
open Go.RowKit Go.Shelf
set_option linter.unusedVariables false

set_option maxHeartbeats 1000000 in
theorem sameq_any (a b : Option Addr) (la ca cb : Nat) (xs : List Int) (w : World) (ha : Sl w a la xs) (hb : Sl w b la xs) (h1 : la ≤ 40000000000000) :
    Calls Tryz.prog 55 #[.slice a la ca, .slice b la cb] w fun e w' => e = .returned (.bool true) ∧ ∃ n, w' = w.drewN n := by
  have hza := ha.1
  have g1 : ((la : Int) != la) = false := by simp
  by_cases h0 : la = 0
  · subst h0
    clear ha hb
    go_enter Tryz.func55, Tryz.ntmps55
    go_wp2_with fail
    refine wp_loop_rounds 1 ?_
    rw [rounds_succ]
    go_wp2_with fail
    go_ret
    exact ⟨rfl, 0, rfl⟩
  · obtain ⟨ba, oa, rfl, hca⟩ := ha.2.2 (by omega)
    obtain ⟨bb, ob, rfl, hcb⟩ := hb.2.2 (by omega)
    clear ha hb
    go_enter Tryz.func55, Tryz.ntmps55
    go_wp2_with fail
    go_loopw [5] (fun i wr => ∃ k : Nat, k ≤ la ∧ i = .int .i64 k ∧ ∃ q, wr = w.drewN q) (fun i _ => la - (intOf i).toNat)
    case atStart => exact ⟨0, Nat.zero_le _, rfl, 0, rfl⟩
    case round =>
      obtain ⟨k, hk, rfl, q, rfl⟩ := hrel
      by_cases hlt : k < la
      · have hcx := hca k (by omega)
        have hcy := hcb k (by omega)
        obtain ⟨x, hx⟩ : ∃ x, xs.getD k 0 = x := ⟨_, rfl⟩
        rw [hx] at hcx hcy
        clear hx
        have g2 : (x != x) = false := by simp
        go_wp2_with fail
        go_quiet (fail)
        go_wp2_with fail
        go_roundw
        case rel => exact ⟨k + 1, by omega, by go_num, q + nq, rfl⟩
        case measure => simp [intOf]; omega
      · go_wp2_with fail
        go_ret
        exact ⟨rfl, q, rfl⟩


theorem sameq_b (a b : Option Addr) (la ca cb : Nat) (xs : List Int) (w : World) (ha : Sl w a la xs) (hb : Sl w b la xs) (h1 : la ≤ 40000000000000) :
    Calls Tryz.prog 55 #[.slice a la ca, .slice b la cb] w fun e w' => e = .returned (.bool true) ∧ Below w.heap.size w w' := by
  refine (sameq_any a b la ca cb xs w ha hb h1).mono ?_
  rintro e w' ⟨rfl, n, rfl⟩
  exact ⟨rfl, below_drewN (Below.refl _ _) n⟩

set_option maxHeartbeats 4000000 in
theorem rsame5 (s : Bool) (a1 a2 b1 b2 : Option Addr) (l m c1 c2 d1 d2 : Nat) (xs ys : List Int) (w : World) (h1 : Sl w a1 l xs) (h2 : Sl w a2 l xs) (h3 : Sl w b1 m ys) (h4 : Sl w b2 m ys) (hl : l ≤ 40000000000000) (hm : m ≤ 40000000000000) :
    Calls Tryz.prog 19 #[.agg #[.bool s, .slice a1 l c1, .slice b1 m d1], .agg #[.bool s, .slice a2 l c2, .slice b2 m d2]] w fun e w' => e = .returned (.bool true) ∧ Below w.heap.size w w' := by
  have hss : (s == s) = true := by simp
  have B0 : Below w.heap.size w w := Below.refl _ _
  go_enter Tryz.func19, Tryz.ntmps19
  go_wp2_with fail
  refine ent2 w _ _ _ _ (Q := fun W => Calls Tryz.prog _ _ W _) ?_
  intro x1 hb hs_x1 V0 V1
  replace h1 := Sl.after hb h1
  replace h2 := Sl.after hb h2
  replace h3 := Sl.after hb h3
  replace h4 := Sl.after hb h4
  replace B0 := step B0 hb
  clear hb hs_x1
  refine (sameq_b a1 a2 l c1 c2 xs x1 h1 h2 hl).mono ?_
  rintro e x2 ⟨rfl, hb⟩
  replace V0 := Va.after hb V0
  replace V1 := Va.after hb V1
  replace h1 := Sl.after hb h1
  replace h2 := Sl.after hb h2
  replace h3 := Sl.after hb h3
  replace h4 := Sl.after hb h4
  replace B0 := step B0 hb
  clear hb
  have c_V0 := V0.d0
  have f0_V0 := V0.frozen 0
  have d_V0 := V0.d1
  have f1_V0 := V0.frozen 1
  have e_V0 := V0.d2
  have f2_V0 := V0.frozen 2
  have l_V0 := V0.lt
  have m_V0 := Nat.le_of_lt l_V0
  have c_V1 := V1.d0
  have f0_V1 := V1.frozen 0
  have d_V1 := V1.d1
  have f1_V1 := V1.frozen 1
  have e_V1 := V1.d2
  have f2_V1 := V1.frozen 2
  have l_V1 := V1.lt
  have m_V1 := Nat.le_of_lt l_V1
  go_wp2_with fail
  refine (sameq_b b1 b2 m d1 d2 ys x2 h3 h4 hm).mono ?_
  rintro e x3 ⟨rfl, hb⟩
  replace V0 := Va.after hb V0
  replace V1 := Va.after hb V1
  replace h1 := Sl.after hb h1
  replace h2 := Sl.after hb h2
  replace h3 := Sl.after hb h3
  replace h4 := Sl.after hb h4
  replace B0 := step B0 hb
  clear hb
  clear c_V0 f0_V0 d_V0 f1_V0 e_V0 f2_V0 l_V0 m_V0 c_V1 f0_V1 d_V1 f1_V1 e_V1 f2_V1 l_V1 m_V1
  have c_V0 := V0.d0
  have f0_V0 := V0.frozen 0
  have d_V0 := V0.d1
  have f1_V0 := V0.frozen 1
  have e_V0 := V0.d2
  have f2_V0 := V0.frozen 2
  have l_V0 := V0.lt
  have m_V0 := Nat.le_of_lt l_V0
  have c_V1 := V1.d0
  have f0_V1 := V1.frozen 0
  have d_V1 := V1.d1
  have f1_V1 := V1.frozen 1
  have e_V1 := V1.d2
  have f2_V1 := V1.frozen 2
  have l_V1 := V1.lt
  have m_V1 := Nat.le_of_lt l_V1
  go_wp2_with fail
  go_ret
  exact ⟨rfl, B0⟩

theorem trim_one {xs ys : List Int} (hx : Limbs xs) (hy : Limbs ys) (ux : usedN xs = xs.length) (uy : usedN ys = ys.length) (e : num xs = num ys) : xs = ys := by
  obtain ⟨e1, e2⟩ := one_list hx hy rfl ux e
  rw [uy, List.take_of_length_le (Nat.le_refl _)] at e2
  exact e2
/-- What Plain tells of a number is the document's ratio of it. -/
theorem rt_rr {w w' : World} {s : Bool} {a : Option Addr} {l c : Nat} {zs : List Int} {b : Option Addr} {m d : Nat} {ds : List Int} {v : Rat} {s2 : Bool} {a2 : Option Addr} {l2 c2 : Nat} {xs : List Int} {b2 : Option Addr} {m2 d2 : Nat} {es : List Int}
    (h : Rt w s a l c zs b m d ds v) (g : Rr w' s2 a2 l2 c2 xs b2 m2 d2 es v) {ys : List Int} (hy : Limbs ys ∧ usedN ys = ys.length ∧ num ys = v.den) : s2 = s ∧ l2 = l ∧ xs = zs ∧ m2 = ys.length ∧ es = ys := by
  have e1 : s = decide (v.num < 0) := by rw [← h.2.2.1]; exact h.1.sign
  have g0 : 0 ≤ num xs := num_nonneg g.1.2.1
  have e2 : s2 = decide (v.num < 0) := by
    rw [← g.2.2.2.2.2.1]
    cases s2
    · rw [iv_f]; symm; simp; omega
    · have := g.2.2.2.2.2.2.2 rfl; rw [iv_t]; symm; simp; omega
  have es' : s2 = s := by rw [e1, e2]
  subst es'
  have en : num xs = num zs := by
    have q1 := h.2.2.1
    have q2 := g.2.2.2.2.2.1
    cases s2 <;> simp only [iv_t, iv_f] at q1 q2 <;> omega
  have z1 := h.1.1.1.1
  have z2 := g.1.1
  have z3 := g.2.1.1
  have x1 := trim_one g.1.2.1 h.1.1.limbs (by rw [g.2.2.1, z2]) (by rw [h.1.1.2.1, z1]) en
  have x2 := trim_one g.2.1.2.1 hy.1 (by rw [g.2.2.2.1, z3]) hy.2.1 (by rw [g.2.2.2.2.2.2.1, hy.2.2])
  exact ⟨rfl, by rw [← z2, ← z1, x1], x1, by rw [← z3, x2], x2⟩
theorem Ow.sl {w : World} {g : Nat} {cs : List Int} (h : Ow w g cs) (hL : Limbs cs) {n : Nat} (hn : cs.length = n) : Sl w (some ⟨g, 0, none⟩) n cs := by subst hn; exact Own.sl h hL
theorem len_4096 {zs : List Int} {w : World} {a : Option Addr} {l c : Nat} (h : Nt w a l c zs) : l ≤ 4096 := h.2.2.2
theorem den_4096 {ys : List Int} {v : Rat} (hv : Short v) (hy : Limbs ys ∧ usedN ys = ys.length ∧ num ys = v.den) : ys.length ≤ 1024 := by
  have := used_of_lt hy.1 (n := 1024) (by rw [hy.2.2]; exact hv.2)
  omega

theorem rt_rt {w w' : World} {s : Bool} {a : Option Addr} {l c : Nat} {zs : List Int} {b : Option Addr} {m d : Nat} {ds : List Int} {v : Rat} {s2 : Bool} {a2 : Option Addr} {l2 c2 : Nat} {xs : List Int} {b2 : Option Addr} {m2 d2 : Nat} {es : List Int}
    (h : Rt w s a l c zs b m d ds v) (g : Rt w' s2 a2 l2 c2 xs b2 m2 d2 es v) : s2 = s ∧ l2 = l ∧ xs = zs := by
  have e1 : s = decide (v.num < 0) := by rw [← h.2.2.1]; exact h.1.sign
  have e2 : s2 = decide (v.num < 0) := by rw [← g.2.2.1]; exact g.1.sign
  have es' : s2 = s := by rw [e1, e2]
  subst es'
  have en : num xs = num zs := by
    have q1 := h.2.2.1
    have q2 := g.2.2.1
    cases s2 <;> simp only [iv_t, iv_f] at q1 q2 <;> omega
  obtain ⟨x1, x2⟩ := Nt.one g.1.1 h.1.1 en
  exact ⟨rfl, x1, x2⟩

theorem short_tiny (x y : Int) (h1 : x.natAbs ≤ 10) (h2 : 0 < y) (h3 : y ≤ 10) (v : Rat) (hv : v = Rat.divInt x y) : Short v := by
  have e : Rat.divInt x y = mkRat x y.natAbs := by rw [← Rat.divInt_ofNat]; congr 1; omega
  rw [hv, e]
  unfold Short
  rw [Rat.num_mkRat, Rat.den_mkRat, if_neg (by omega), if_neg (by omega)]
  have b1 : (10 : Int) < pw 1024 := Int.lt_of_lt_of_le (by decide : (10 : Int) < pw 1) (pw_mono (by omega))
  refine ⟨Int.lt_of_le_of_lt ?_ b1, Int.lt_of_le_of_lt ?_ b1⟩
  · have : (x / (y.natAbs.gcd x.natAbs : Nat)).natAbs ≤ x.natAbs := by
      rw [Int.natAbs_ediv_of_dvd (Int.ofNat_dvd_left.2 (Nat.gcd_dvd_right _ _))]
      exact Nat.div_le_self _ _
    omega
  · have := Nat.div_le_self y.natAbs (y.natAbs.gcd x.natAbs)
    omega
end Go.Proofs.YtebbblhafjaaiaaGreatDoor
