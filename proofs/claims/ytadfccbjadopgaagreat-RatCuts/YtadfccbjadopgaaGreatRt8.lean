/-
  SameRatio, spoilt, is, zero, alike, awake of the statements of layer 5.
-/
import Derived.Test.YtadfccbjadopgaaGreatAl
import Derived.Test.YtadfccbjadopgaaGreatRt7
import Derived.Test.YtadfccbjadopgaaGreatRt5
namespace Go.Proofs.YtadfccbjadopgaaGreat
open Go.RowKit Go.Shelf
set_option linter.unusedVariables false

set_option maxHeartbeats 1000000 in
theorem sameq_any (a b : Option Addr) (la ca cb : Nat) (xs : List Int) (w : World) (ha : Sl w a la xs) (hb : Sl w b la xs) (h1 : la ≤ 40000000000000) :
    Calls Tryz.prog 23 #[.slice a la ca, .slice b la cb] w fun e w' => e = .returned (.bool true) ∧ ∃ n, w' = w.drewN n := by
  have hza := ha.1
  have g1 : ((la : Int) != la) = false := by simp
  by_cases h0 : la = 0
  · subst h0
    clear ha hb
    go_enter Tryz.func23, Tryz.ntmps23
    go_wp2_with fail
    refine wp_loop_rounds 1 ?_
    rw [rounds_succ]
    go_wp2_with fail
    go_ret
    exact ⟨rfl, 0, rfl⟩
  · obtain ⟨ba, oa, rfl, hca⟩ := ha.2.2 (by omega)
    obtain ⟨bb, ob, rfl, hcb⟩ := hb.2.2 (by omega)
    clear ha hb
    go_enter Tryz.func23, Tryz.ntmps23
    go_wp2_with fail
    go_loopw [5] (fun i wr => ∃ k : Nat, k ≤ la ∧ i = .int .i64 k ∧ ∃ q, wr = w.drewN q) (fun i _ => la - (intOf i).toNat)
    case atStart => exact ⟨0, Nat.zero_le _, rfl, 0, rfl⟩
    case round =>
      obtain ⟨k, hk, rfl, q, rfl⟩ := hrel
      by_cases hlt : k < la
      · have hcx := hca k (by omega)
        have hcy := hcb k (by omega)
        obtain ⟨x, hx⟩ : ∃ x, xs.getD k 0 = x := ⟨_, rfl⟩
        rw [hx] at hcx hcy
        clear hx
        have g2 : (x != x) = false := by simp
        go_wp2_with fail
        go_quiet (fail)
        go_wp2_with fail
        go_roundw
        case rel => exact ⟨k + 1, by omega, by go_num, q + nq, rfl⟩
        case measure => simp [intOf]; omega
      · go_wp2_with fail
        go_ret
        exact ⟨rfl, q, rfl⟩


theorem sameq_b (a b : Option Addr) (la ca cb : Nat) (xs : List Int) (w : World) (ha : Sl w a la xs) (hb : Sl w b la xs) (h1 : la ≤ 40000000000000) :
    Calls Tryz.prog 23 #[.slice a la ca, .slice b la cb] w fun e w' => e = .returned (.bool true) ∧ Below w.heap.size w w' := by
  refine (sameq_any a b la ca cb xs w ha hb h1).mono ?_
  rintro e w' ⟨rfl, n, rfl⟩
  exact ⟨rfl, below_drewN (Below.refl _ _) n⟩

set_option maxHeartbeats 4000000 in
theorem rsame5 (s : Bool) (a1 a2 b1 b2 : Option Addr) (l m c1 c2 d1 d2 : Nat) (xs ys : List Int) (w : World) (h1 : Sl w a1 l xs) (h2 : Sl w a2 l xs) (h3 : Sl w b1 m ys) (h4 : Sl w b2 m ys) (hl : l ≤ 40000000000000) (hm : m ≤ 40000000000000) :
    Calls Tryz.prog 62 #[.agg #[.bool s, .slice a1 l c1, .slice b1 m d1], .agg #[.bool s, .slice a2 l c2, .slice b2 m d2]] w fun e w' => e = .returned (.bool true) ∧ Below w.heap.size w w' := by
  have hss : (s == s) = true := by simp
  have B0 : Below w.heap.size w w := Below.refl _ _
  go_enter Tryz.func62, Tryz.ntmps62
  go_wp2_with fail
  refine ent2 w _ _ _ _ (Q := fun W => Calls Tryz.prog _ _ W _) ?_
  intro x1 hb hs_x1 V0 V1
  replace h1 := Sl.after hb h1
  replace h2 := Sl.after hb h2
  replace h3 := Sl.after hb h3
  replace h4 := Sl.after hb h4
  replace B0 := step B0 hb
  clear hb hs_x1
  refine (sameq_b a1 a2 l c1 c2 xs x1 h1 h2 hl).mono ?_
  rintro e x2 ⟨rfl, hb⟩
  replace V0 := Va.after hb V0
  replace V1 := Va.after hb V1
  replace h1 := Sl.after hb h1
  replace h2 := Sl.after hb h2
  replace h3 := Sl.after hb h3
  replace h4 := Sl.after hb h4
  replace B0 := step B0 hb
  clear hb
  have c_V0 := V0.d0
  have f0_V0 := V0.frozen 0
  have d_V0 := V0.d1
  have f1_V0 := V0.frozen 1
  have e_V0 := V0.d2
  have f2_V0 := V0.frozen 2
  have l_V0 := V0.lt
  have m_V0 := Nat.le_of_lt l_V0
  have c_V1 := V1.d0
  have f0_V1 := V1.frozen 0
  have d_V1 := V1.d1
  have f1_V1 := V1.frozen 1
  have e_V1 := V1.d2
  have f2_V1 := V1.frozen 2
  have l_V1 := V1.lt
  have m_V1 := Nat.le_of_lt l_V1
  go_wp2_with fail
  refine (sameq_b b1 b2 m d1 d2 ys x2 h3 h4 hm).mono ?_
  rintro e x3 ⟨rfl, hb⟩
  replace V0 := Va.after hb V0
  replace V1 := Va.after hb V1
  replace h1 := Sl.after hb h1
  replace h2 := Sl.after hb h2
  replace h3 := Sl.after hb h3
  replace h4 := Sl.after hb h4
  replace B0 := step B0 hb
  clear hb
  clear c_V0 f0_V0 d_V0 f1_V0 e_V0 f2_V0 l_V0 m_V0 c_V1 f0_V1 d_V1 f1_V1 e_V1 f2_V1 l_V1 m_V1
  have c_V0 := V0.d0
  have f0_V0 := V0.frozen 0
  have d_V0 := V0.d1
  have f1_V0 := V0.frozen 1
  have e_V0 := V0.d2
  have f2_V0 := V0.frozen 2
  have l_V0 := V0.lt
  have m_V0 := Nat.le_of_lt l_V0
  have c_V1 := V1.d0
  have f0_V1 := V1.frozen 0
  have d_V1 := V1.d1
  have f1_V1 := V1.frozen 1
  have e_V1 := V1.d2
  have f2_V1 := V1.frozen 2
  have l_V1 := V1.lt
  have m_V1 := Nat.le_of_lt l_V1
  go_wp2_with fail
  go_ret
  exact ⟨rfl, B0⟩

set_option maxHeartbeats 1000000 in
theorem spoilt5 (g n : Nat) (zs : List Int) (w : World) (ho : Ow w g zs) (hz : zs.length = n) (hn : n ≤ 40000000000000) :
    Calls Tryz.prog 69 #[.slice (some ⟨g, 0, none⟩) n n] w fun e w' => e = .returned (.tuple #[]) ∧ Only g w w' := by
  have HO : Hid (Own w g zs) := ho
  clear ho
  go_enter Tryz.func69, Tryz.ntmps69
  go_wp2_with fail
  go_loopw [2] (fun ii wr => ∃ (k : Nat) (cs : List Int), k ≤ n ∧ ii = .int .i64 k ∧ Hid (cs.length = n) ∧ Hid (Own wr g cs) ∧ Hid (Only g w wr)) (fun ii _ => n - (intOf ii).toNat)
  case atStart => exact ⟨0, zs, Nat.zero_le _, rfl, hz, HO, Only.refl _ _⟩
  case round =>
    obtain ⟨k, cs, hk, rfl, hlen, hO, hON⟩ := hrel
    by_cases hlt : k < n
    · have hcx := hO.out.cell k (by rw [hlen.out]; exact hlt)
      have hfx := hO.out.frozen k
      go_wp2_with fail
      go_roundw
      case rel => exact ⟨k + 1, _, by omega, by go_num, by show _ = _; rw [List.length_set]; exact hlen, Own.set hO.out k _, Only.set hON.out k _⟩
      case measure => simp [intOf]; omega
    · go_wp2_with fail
      go_end0
      exact ⟨rfl, hON.out⟩

theorem trim_one {xs ys : List Int} (hx : Limbs xs) (hy : Limbs ys) (ux : usedN xs = xs.length) (uy : usedN ys = ys.length) (e : num xs = num ys) : xs = ys := by
  obtain ⟨e1, e2⟩ := one_list hx hy rfl ux e
  rw [uy, List.take_of_length_le (Nat.le_refl _)] at e2
  exact e2
/-- What Plain tells of a number is the document's ratio of it. -/
theorem rt_rr {w w' : World} {s : Bool} {a : Option Addr} {l c : Nat} {zs : List Int} {b : Option Addr} {m d : Nat} {ds : List Int} {v : Rat} {s2 : Bool} {a2 : Option Addr} {l2 c2 : Nat} {xs : List Int} {b2 : Option Addr} {m2 d2 : Nat} {es : List Int}
    (h : Rt w s a l c zs b m d ds v) (g : Rr w' s2 a2 l2 c2 xs b2 m2 d2 es v) {ys : List Int} (hy : Limbs ys ∧ usedN ys = ys.length ∧ num ys = v.den) : s2 = s ∧ l2 = l ∧ xs = zs ∧ m2 = ys.length ∧ es = ys := by
  have e1 : s = decide (v.num < 0) := by rw [← h.2.2.1]; exact h.1.sign
  have g0 : 0 ≤ num xs := num_nonneg g.1.2.1
  have e2 : s2 = decide (v.num < 0) := by
    rw [← g.2.2.2.2.2.1]
    cases s2
    · rw [iv_f]; symm; simp; omega
    · have := g.2.2.2.2.2.2.2 rfl; rw [iv_t]; symm; simp; omega
  have es' : s2 = s := by rw [e1, e2]
  subst es'
  have en : num xs = num zs := by
    have q1 := h.2.2.1
    have q2 := g.2.2.2.2.2.1
    cases s2 <;> simp only [iv_t, iv_f] at q1 q2 <;> omega
  have z1 := h.1.1.1.1
  have z2 := g.1.1
  have z3 := g.2.1.1
  have x1 := trim_one g.1.2.1 h.1.1.limbs (by rw [g.2.2.1, z2]) (by rw [h.1.1.2.1, z1]) en
  have x2 := trim_one g.2.1.2.1 hy.1 (by rw [g.2.2.2.1, z3]) hy.2.1 (by rw [g.2.2.2.2.2.2.1, hy.2.2])
  exact ⟨rfl, by rw [← z2, ← z1, x1], x1, by rw [← z3, x2], x2⟩
theorem Ow.sl {w : World} {g : Nat} {cs : List Int} (h : Ow w g cs) (hL : Limbs cs) {n : Nat} (hn : cs.length = n) : Sl w (some ⟨g, 0, none⟩) n cs := by subst hn; exact Own.sl h hL
theorem len_4096 {zs : List Int} {w : World} {a : Option Addr} {l c : Nat} (h : Nt w a l c zs) : l ≤ 4096 := h.2.2.2
theorem den_4096 {ys : List Int} {v : Rat} (hv : Short v) (hy : Limbs ys ∧ usedN ys = ys.length ∧ num ys = v.den) : ys.length ≤ 1024 := by
  have := used_of_lt hy.1 (n := 1024) (by rw [hy.2.2]; exact hv.2)
  omega

set_option maxHeartbeats 4000000 in
theorem is5 (s : Bool) (a : Option Addr) (l c : Nat) (zs : List Int) (b : Option Addr) (m d : Nat) (ds : List Int) (v : Rat) (s2 : Bool) (a2 : Option Addr) (l2 c2 : Nat) (xs : List Int) (b2 : Option Addr) (m2 d2 : Nat) (es : List Int) (w : World) (hr : Rt w s a l c zs b m d ds v) (hw : Rr w s2 a2 l2 c2 xs b2 m2 d2 es v) :
    Calls Tryz.prog 17 #[.agg #[.bool s, .slice a l c, .slice b m d], .agg #[.bool s2, .slice a2 l2 c2, .slice b2 m2 d2]] w fun e w' => e = .returned (.bool true) ∧ Below w.heap.size w w' := by
  have hl := len_4096 hr.1.1; have hzl : zs.length = l := hr.1.1.1.1; have hS := hr.2.2.2.2; have B0 : Below w.heap.size w w := Below.refl _ _
  go_enter Tryz.func17, Tryz.ntmps17
  (go_wp2_with fail); refine ent2 w _ _ _ _ (Q := fun W => Calls Tryz.prog _ _ W _) ?_; intro x1 hb hs_x1 V0 V1; replace hr := Rt.after hb hr; replace hw := Rr.after hb hw; replace B0 := step B0 hb; clear hb hs_x1; have HR0 : Hid (Rt x1 s a l c zs b m d ds v) := hr; have HW0 : Hid (Rr x1 s2 a2 l2 c2 xs b2 m2 d2 es v) := hw; have V00 : Hid (Va x1 w.heap.size 32 #[.bool s, .slice a l c, .slice b m d]) := V0; have V10 : Hid (Va x1 (w.heap.size + 1) 24 #[.bool s2, .slice a2 l2 c2, .slice b2 m2 d2]) := V1; have B00 : Hid (Below w.heap.size w x1) := B0; clear B0; have BX := Below.refl x1.heap.size x1; refine (qplain_any s a l c zs b m d ds v x1 hr).mono ?_; rintro e x2 ⟨g, h, ys, rfl, hg, hh, hi, hy, hb⟩; replace V0 := Va.after hb V0; replace V1 := Va.after hb V1; replace hr := Rt.after hb hr; replace hw := Rr.after hb hw; replace BX := step BX hb; clear hb; obtain ⟨rfl, rfl, rfl, rfl, rfl⟩ := rt_rr hr hw hy.out; have hm := den_4096 hS hy.out
  have hgl := hg.lt; have hhl := hh.lt; clear hS; have c_V0 := V0.d0; have f0_V0 := V0.frozen 0; have d_V0 := V0.d1; have f1_V0 := V0.frozen 1; have e_V0 := V0.d2; have f2_V0 := V0.frozen 2; have l_V0 := V0.lt; have m_V0 := Nat.le_of_lt l_V0; have c_V1 := V1.d0; have f0_V1 := V1.frozen 0; have d_V1 := V1.d1; have f1_V1 := V1.frozen 1; have e_V1 := V1.d2; have f2_V1 := V1.frozen 2; have l_V1 := V1.lt; have m_V1 := Nat.le_of_lt l_V1; (go_wp2_with fail); refine ent1 x2 _ _ (Q := fun W => Calls Tryz.prog _ _ W _) ?_; intro x3 hb hs_x3 Vp; replace V0 := Va.after hb V0; replace V1 := Va.after hb V1; replace hr := Rt.after hb hr; replace hw := Rr.after hb hw; replace hg := Ow.after hb hg; replace hh := Ow.after hb hh; replace BX := step BX hb; clear hb hs_x3; refine (rsame5 s2 (some ⟨g, 0, none⟩) a2 (some ⟨h, 0, none⟩) b2 l2 es.length l2 c2 es.length d2 xs es x3 (hg.sl hr.1.1.limbs hzl) hw.1 (hh.sl hy.out.1 rfl) hw.2.1 (by omega) (by omega)).mono ?_; rintro e x4 ⟨rfl, hb⟩
  replace V0 := Va.after hb V0; replace V1 := Va.after hb V1; replace Vp := Va.after hb Vp; replace hr := Rt.after hb hr; replace hw := Rr.after hb hw; replace hg := Ow.after hb hg; replace hh := Ow.after hb hh; replace BX := step BX hb; clear hb; clear c_V0 f0_V0 d_V0 f1_V0 e_V0 f2_V0 l_V0 m_V0 c_V1 f0_V1 d_V1 f1_V1 e_V1 f2_V1 l_V1 m_V1; have c_Vp := Vp.d0; have f0_Vp := Vp.frozen 0; have d_Vp := Vp.d1; have f1_Vp := Vp.frozen 1; have e_Vp := Vp.d2; have f2_Vp := Vp.frozen 2; have l_Vp := Vp.lt; have m_Vp := Nat.le_of_lt l_Vp; (go_wp2_with fail); obtain ⟨hi1, hi2, hi3⟩ := hi.out; clear hr hw V0 V1; clear c_Vp f0_Vp d_Vp f1_Vp e_Vp f2_Vp l_Vp m_Vp; refine (spoilt5 g l2 xs x4 hg hzl (by omega)).mono ?_; rintro e x5 ⟨rfl, hO⟩; replace BX := BX.trans (hO.below hi1); replace Vp := Vp.only hO (by omega); replace hh : Ow x5 h es := Own.only hh hO (fun e => hi3 e.symm); clear hg hO; have c_Vp := Vp.d0; have f0_Vp := Vp.frozen 0; have d_Vp := Vp.d1; have f1_Vp := Vp.frozen 1
  have e_Vp := Vp.d2; have f2_Vp := Vp.frozen 2; have l_Vp := Vp.lt; have m_Vp := Nat.le_of_lt l_Vp; (go_wp2_with fail); clear c_Vp f0_Vp d_Vp f1_Vp e_Vp f2_Vp l_Vp m_Vp; refine (spoilt5 h es.length es x5 hh rfl (by omega)).mono ?_; rintro e x6 ⟨rfl, hO⟩; replace BX := BX.trans (hO.below hi2); replace Vp := Vp.only hO (by omega); clear hh hO; have hr := Rt.after BX HR0.out; have hw := Rr.after BX HW0.out; have V0 := Va.after BX V00.out; have V1 := Va.after BX V10.out; have B0 := step B00.out BX; clear BX HR0 HW0 V00 V10 B00 Vp hi1 hi2 hi3 hi hgl hhl; have c_V0 := V0.d0; have f0_V0 := V0.frozen 0; have d_V0 := V0.d1; have f1_V0 := V0.frozen 1; have e_V0 := V0.d2; have f2_V0 := V0.frozen 2; have l_V0 := V0.lt; have m_V0 := Nat.le_of_lt l_V0; have c_V1 := V1.d0; have f0_V1 := V1.frozen 0; have d_V1 := V1.d1; have f1_V1 := V1.frozen 1; have e_V1 := V1.d2; have f2_V1 := V1.frozen 2; have l_V1 := V1.lt; have m_V1 := Nat.le_of_lt l_V1; (go_wp2_with fail); clear c_V0 f0_V0 d_V0 f1_V0 e_V0 f2_V0 l_V0 m_V0 c_V1 f0_V1 d_V1 f1_V1 e_V1 f2_V1 l_V1 m_V1
  refine wp_region_noPanic ?_; replace V0 : Va x6.drew _ _ _ := V0; replace V1 : Va x6.drew _ _ _ := V1; replace hr := hr.drw; replace hw := hw.drw; replace B0 := Below.drew B0; refine wp_region_held_drew (S := (fun W => W.cell? ⟨w.heap.size, 0, none⟩ = some (.bool s2) ∧ W.cell? ⟨w.heap.size, 1, none⟩ = some (.slice a l2 c) ∧ W.cell? ⟨w.heap.size, 2, none⟩ = some (.slice b m d) ∧ W.cell? ⟨w.heap.size + 1, 0, none⟩ = some (.bool s2) ∧ W.cell? ⟨w.heap.size + 1, 1, none⟩ = some (.slice a2 l2 c2) ∧ W.cell? ⟨w.heap.size + 1, 2, none⟩ = some (.slice b2 es.length d2))) (by kernel_rfl) ⟨V0.d0, V0.d1, V0.d2, V1.d0, V1.d1, V1.d2⟩ (fun hHeld => ?_); (obtain ⟨x7, hxd⟩ : ∃ xd, xd = x6.drew := ⟨_, rfl⟩); rw [← hxd] at V0 V1 hr hw B0 hHeld ⊢; clear hxd; refine wpAnyH_take (i := 0) (v := ?_) rfl (by kernel_rfl) (by kernel_rfl) (by kernel_rfl) (fun _ _ _ h => h) (Or.inl ⟨by rfl, ?_⟩) hHeld ?_; rotate_left
  · (intro W hSw; (try dsimp only at hSw); go_simp; all_goals (with_reducible rfl))
  simp only [gA, gB, Act.put, gD, gE, gF]; refine wpAnyH_take (i := 1) (v := ?_) rfl (by kernel_rfl) (by kernel_rfl) (by kernel_rfl) (fun _ _ _ h => h) (Or.inl ⟨by rfl, ?_⟩) hHeld ?_; rotate_left
  · (intro W hSw; (try dsimp only at hSw); go_simp; all_goals (with_reducible rfl))
  simp only [gA, gB, gC, Act.put, gD, gE, gF]; refine wpAnyH_take (i := 2) (v := ?_) rfl (by kernel_rfl) (by kernel_rfl) (by kernel_rfl) (fun _ _ _ h => h) (Or.inl ⟨by rfl, ?_⟩) hHeld ?_; rotate_left
  · (intro W hSw; (try dsimp only at hSw); go_simp; all_goals (with_reducible rfl))
  simp only [gA, gB, gC, Act.put, gD, gE, gF]; refine wpAnyH_take (i := 4) (v := ?_) rfl (by kernel_rfl) (by kernel_rfl) (by kernel_rfl) (fun _ _ _ h => h) (Or.inl ⟨by rfl, ?_⟩) hHeld ?_; rotate_left
  · (intro W hSw; (try dsimp only at hSw); go_simp; all_goals (with_reducible rfl))
  simp only [gA, gB, gC, Act.put, gD, gE, gF]; refine wpAnyH_ready (rs := [3]) (by kernel_rfl) (by simp) ?_; refine AllReadyH.cons rfl (fun K hK => ?_) AllReadyH.nil; simp only [gA, gB, gC]; (go_simp); refine (qplain_any s2 a l2 c xs b m d ds v _ hr).mono ?_; rintro e x8 ⟨g, h, ys, rfl, hg, hh, hi, hy2, hb⟩; replace V0 := Va.after hb V0; replace V1 := Va.after hb V1; replace hr := Rt.after hb hr; replace hw := Rr.after hb hw; replace B0 := step B0 hb; clear hb hi; obtain ⟨-, -, -, ey, ey2⟩ := rt_rr hr hw hy2.out; subst ey2; clear ey; (try go_wp2_with fail); refine hK.out _ _ ⟨V0.d0, V0.d1, V0.d2, V1.d0, V1.d1, V1.d2⟩ (fun hHeld => ?_); clear hK K; refine wpAnyH_ready (rs := [5]) (by kernel_rfl) (by simp) ?_; refine AllReadyH.cons rfl (fun K hK => ?_) AllReadyH.nil; simp only [gA, gB, gC]; (go_simp); refine (rsame5 s2 (some ⟨g, 0, none⟩) a2 (some ⟨h, 0, none⟩) b2 l2 es.length l2 c2 es.length d2 xs es _ (hg.sl hr.1.1.limbs hzl) hw.1 (hh.sl hy.out.1 rfl) hw.2.1 (by omega) (by omega)).mono ?_
  rintro e x9 ⟨rfl, hb⟩; replace V0 := Va.after hb V0; replace V1 := Va.after hb V1; replace hr := Rt.after hb hr; replace hw := Rr.after hb hw; replace hg := Ow.after hb hg; replace hh := Ow.after hb hh; replace B0 := step B0 hb; clear hb; (try go_wp2_with fail); refine hK.out _ _ ⟨V0.d0, V0.d1, V0.d2, V1.d0, V1.d1, V1.d2⟩ (fun hHeld => ?_); clear hK K; refine wpAnyH_take (i := 6) (v := ?_) rfl (by kernel_rfl) (by kernel_rfl) (by kernel_rfl) (fun _ _ _ h => h) (Or.inl ⟨by rfl, ?_⟩) hHeld ?_; rotate_left
  · (intro W hSw; (try dsimp only at hSw); go_simp; all_goals (with_reducible rfl))
  simp only [gA, gB, gC, Act.put, gD, gE, gF]; refine wpAnyH_take (i := 7) (v := ?_) rfl (by kernel_rfl) (by kernel_rfl) (by kernel_rfl) (fun _ _ _ h => h) (Or.inl ⟨by rfl, ?_⟩) hHeld ?_; rotate_left
  · (intro W hSw; (try dsimp only at hSw); go_simp; all_goals (with_reducible rfl))
  simp only [gA, gB, gC, Act.put, gD, gE, gF]; refine wpAnyH_done (by kernel_rfl) ?_ _; refine NoPanic.normal ?_; clear hHeld; (go_wp2_with fail)
  go_ret
  exact ⟨rfl, B0⟩

theorem short_tiny (x y : Int) (h1 : x.natAbs ≤ 10) (h2 : 0 < y) (h3 : y ≤ 10) (v : Rat) (hv : v = Rat.divInt x y) : Short v := by
  have e : Rat.divInt x y = mkRat x y.natAbs := by rw [← Rat.divInt_ofNat]; congr 1; omega
  rw [hv, e]
  unfold Short
  rw [Rat.num_mkRat, Rat.den_mkRat, if_neg (by omega), if_neg (by omega)]
  have b1 : (10 : Int) < pw 1024 := Int.lt_of_lt_of_le (by decide : (10 : Int) < pw 1) (pw_mono (by omega))
  refine ⟨Int.lt_of_le_of_lt ?_ b1, Int.lt_of_le_of_lt ?_ b1⟩
  · have : (x / (y.natAbs.gcd x.natAbs : Nat)).natAbs ≤ x.natAbs := by
      rw [Int.natAbs_ediv_of_dvd (Int.ofNat_dvd_left.2 (Nat.gcd_dvd_right _ _))]
      exact Nat.div_le_self _ _
    omega
  · have := Nat.div_le_self y.natAbs (y.natAbs.gcd x.natAbs)
    omega
set_option maxHeartbeats 4000000 in
theorem awake5 (w : World) : Calls Tryz.prog 8 #[] w fun e w' => e = .returned (.bool true) ∧ Below w.heap.size w w' := by
  have B0 : Below w.heap.size w w := Below.refl _ _
  go_enter Tryz.func8, Tryz.ntmps8
  (go_wp2_with fail); refine (qsmall_ok (1) 2 (by omega) (by omega) (by omega) (by omega) (by omega) w).mono ?_; rintro e x1 ⟨er1, s1, a1, l1, c1, z1, b1, m1, d1, y1, v1, rfl, h1, hra1, hb⟩; replace B0 := step B0 hb; clear hb; obtain ⟨-, rfl, hv1⟩ := hra1.out.resolve_right (fun h => h.1 (short_tiny (1) 2 (by decide) (by omega) (by omega) _ rfl)); have HV1 : Hid (v1 = Rat.divInt (1) 2) := hv1; clear hra1 hv1; (go_wp2_with fail); refine ent1 x1 _ _ (Q := fun W => Calls Tryz.prog _ _ W _) ?_; intro x2 hb hs_x2 V1; replace h1 := Rt.after hb h1; replace B0 := step B0 hb; clear hb hs_x2; refine (qsmall_ok (-1) 3 (by omega) (by omega) (by omega) (by omega) (by omega) x2).mono ?_; rintro e x3 ⟨er2, s2, a2, l2, c2, z2, b2, m2, d2, y2, v2, rfl, h2, hra2, hb⟩; replace V1 := Va.after hb V1; replace h1 := Rt.after hb h1; replace B0 := step B0 hb; clear hb; obtain ⟨-, rfl, hv2⟩ := hra2.out.resolve_right (fun h => h.1 (short_tiny (-1) 3 (by decide) (by omega) (by omega) _ rfl))
  have HV2 : Hid (v2 = Rat.divInt (-1) 3) := hv2; clear hra2 hv2; have c_V1 := V1.d0; have f0_V1 := V1.frozen 0; have d_V1 := V1.d1; have f1_V1 := V1.frozen 1; have e_V1 := V1.d2; have f2_V1 := V1.frozen 2; have l_V1 := V1.lt; have m_V1 := Nat.le_of_lt l_V1; (go_wp2_with fail); refine ent1 x3 _ _ (Q := fun W => Calls Tryz.prog _ _ W _) ?_; intro x4 hb hs_x4 V2; replace V1 := Va.after hb V1; replace h1 := Rt.after hb h1; replace h2 := Rt.after hb h2; replace B0 := step B0 hb; clear hb hs_x4; refine (qadd_any s1 a1 l1 c1 z1 b1 m1 d1 y1 v1 s2 a2 l2 c2 z2 b2 m2 d2 y2 v2 x4 h1 h2).mono ?_; rintro e x5 ⟨er3, s3, a3, l3, c3, z3, b3, m3, d3, y3, v3, rfl, h3, hra3, hb⟩; replace V1 := Va.after hb V1; replace V2 := Va.after hb V2; replace h1 := Rt.after hb h1; replace h2 := Rt.after hb h2; replace B0 := step B0 hb; clear hb; (have ev : v1 + v2 = Rat.divInt 1 6 := by rw [HV1.out, HV2.out]; decide +kernel); obtain ⟨-, rfl, hv3⟩ := hra3.out.resolve_right (fun h => h.1 (short_tiny 1 6 (by decide) (by omega) (by omega) _ ev))
  have HV3 : Hid (v3 = Rat.divInt 1 6) := hv3.trans ev; (have HQ : Hid (qcmp v1 v2 = 1) := by show _ = _; rw [HV1.out, HV2.out]; decide +kernel); clear hra3 hv3 ev HV1 HV2; clear c_V1 f0_V1 d_V1 f1_V1 e_V1 f2_V1 l_V1 m_V1; have c_V1 := V1.d0; have f0_V1 := V1.frozen 0; have d_V1 := V1.d1; have f1_V1 := V1.frozen 1; have e_V1 := V1.d2; have f2_V1 := V1.frozen 2; have l_V1 := V1.lt; have m_V1 := Nat.le_of_lt l_V1; have c_V2 := V2.d0; have f0_V2 := V2.frozen 0; have d_V2 := V2.d1; have f1_V2 := V2.frozen 1; have e_V2 := V2.d2; have f2_V2 := V2.frozen 2; have l_V2 := V2.lt; have m_V2 := Nat.le_of_lt l_V2; (go_wp2_with fail); refine ent1 x5 _ _ (Q := fun W => Code.wp Tryz.prog _ _ _ W) ?_; intro x6 hb hs_x6 V3; replace V1 := Va.after hb V1; replace V2 := Va.after hb V2; replace h1 := Rt.after hb h1; replace h2 := Rt.after hb h2; replace h3 := Rt.after hb h3; replace B0 := step B0 hb; clear hb hs_x6; clear c_V1 f0_V1 d_V1 f1_V1 e_V1 f2_V1 l_V1 m_V1 c_V2 f0_V2 d_V2 f1_V2 e_V2 f2_V2 l_V2 m_V2
  refine wp_region_noPanic ?_; replace V1 : Va x6.drew _ _ _ := V1; replace V2 : Va x6.drew _ _ _ := V2; replace V3 : Va x6.drew _ _ _ := V3; replace h1 := h1.drw; replace h2 := h2.drw; replace h3 := h3.drw; replace B0 := Below.drew B0; refine wp_region_held_drew (S := (fun W => W.cell? ⟨x1.heap.size, 0, none⟩ = some (.bool s1) ∧ W.cell? ⟨x1.heap.size, 1, none⟩ = some (.slice a1 l1 c1) ∧ W.cell? ⟨x1.heap.size, 2, none⟩ = some (.slice b1 m1 d1) ∧ W.cell? ⟨x3.heap.size, 0, none⟩ = some (.bool s2) ∧ W.cell? ⟨x3.heap.size, 1, none⟩ = some (.slice a2 l2 c2) ∧ W.cell? ⟨x3.heap.size, 2, none⟩ = some (.slice b2 m2 d2) ∧ W.cell? ⟨x5.heap.size, 0, none⟩ = some (.bool s3) ∧ W.cell? ⟨x5.heap.size, 1, none⟩ = some (.slice a3 l3 c3) ∧ W.cell? ⟨x5.heap.size, 2, none⟩ = some (.slice b3 m3 d3))) (by kernel_rfl) ⟨V1.d0, V1.d1, V1.d2, V2.d0, V2.d1, V2.d2, V3.d0, V3.d1, V3.d2⟩ (fun hHeld => ?_); (obtain ⟨x7, hxd⟩ : ∃ xd, xd = x6.drew := ⟨_, rfl⟩)
  rw [← hxd] at V1 V2 V3 h1 h2 h3 B0 hHeld ⊢; clear hxd; refine wpAnyH_take (i := 0) (v := ?_) rfl (by kernel_rfl) (by kernel_rfl) (by kernel_rfl) (fun _ _ _ h => h) (Or.inl ⟨by rfl, ?_⟩) hHeld ?_; rotate_left
  · (intro W hSw; (try dsimp only at hSw); go_simp; all_goals (with_reducible rfl))
  simp only [gA, gB, Act.put, gD, gE, gF]; refine wpAnyH_take (i := 1) (v := ?_) rfl (by kernel_rfl) (by kernel_rfl) (by kernel_rfl) (fun _ _ _ h => h) (Or.inl ⟨by rfl, ?_⟩) hHeld ?_; rotate_left
  · (intro W hSw; (try dsimp only at hSw); go_simp; all_goals (with_reducible rfl))
  simp only [gA, gB, gC, Act.put, gD, gE, gF]; refine wpAnyH_take (i := 2) (v := ?_) rfl (by kernel_rfl) (by kernel_rfl) (by kernel_rfl) (fun _ _ _ h => h) (Or.inl ⟨by rfl, ?_⟩) hHeld ?_; rotate_left
  · (intro W hSw; (try dsimp only at hSw); go_simp; all_goals (with_reducible rfl))
  simp only [gA, gB, gC, Act.put, gD, gE, gF]; refine wpAnyH_take (i := 3) (v := ?_) rfl (by kernel_rfl) (by kernel_rfl) (by kernel_rfl) (fun _ _ _ h => h) (Or.inl ⟨by rfl, ?_⟩) hHeld ?_; rotate_left
  · (intro W hSw; (try dsimp only at hSw); go_simp; all_goals (with_reducible rfl))
  simp only [gA, gB, gC, Act.put, gD, gE, gF]; refine wpAnyH_take (i := 4) (v := ?_) rfl (by kernel_rfl) (by kernel_rfl) (by kernel_rfl) (fun _ _ _ h => h) (Or.inl ⟨by rfl, ?_⟩) hHeld ?_; rotate_left
  · (intro W hSw; (try dsimp only at hSw); go_simp; all_goals (with_reducible rfl))
  simp only [gA, gB, gC, Act.put, gD, gE, gF]; refine wpAnyH_take (i := 5) (v := ?_) rfl (by kernel_rfl) (by kernel_rfl) (by kernel_rfl) (fun _ _ _ h => h) (Or.inl ⟨by rfl, ?_⟩) hHeld ?_; rotate_left
  · (intro W hSw; (try dsimp only at hSw); go_simp; all_goals (with_reducible rfl))
  simp only [gA, gB, gC, Act.put, gD, gE, gF]; refine wpAnyH_take (i := 6) (v := ?_) rfl (by kernel_rfl) (by kernel_rfl) (by kernel_rfl) (fun _ _ _ h => h) (Or.inl ⟨by rfl, ?_⟩) hHeld ?_; rotate_left
  · (intro W hSw; (try dsimp only at hSw); go_simp; all_goals (with_reducible rfl))
  simp only [gA, gB, gC, Act.put, gD, gE, gF]; refine wpAnyH_take (i := 7) (v := ?_) rfl (by kernel_rfl) (by kernel_rfl) (by kernel_rfl) (fun _ _ _ h => h) (Or.inl ⟨by rfl, ?_⟩) hHeld ?_; rotate_left
  · (intro W hSw; (try dsimp only at hSw); go_simp; all_goals (with_reducible rfl))
  simp only [gA, gB, gC, Act.put, gD, gE, gF]; refine wpAnyH_take (i := 8) (v := ?_) rfl (by kernel_rfl) (by kernel_rfl) (by kernel_rfl) (fun _ _ _ h => h) (Or.inl ⟨by rfl, ?_⟩) hHeld ?_; rotate_left
  · (intro W hSw; (try dsimp only at hSw); go_simp; all_goals (with_reducible rfl))
  simp only [gA, gB, gC, Act.put, gD, gE, gF]; refine wpAnyH_take (i := 9) (v := ?_) rfl (by kernel_rfl) (by kernel_rfl) (by kernel_rfl) (fun _ _ _ h => h) (Or.inl ⟨by rfl, ?_⟩) hHeld ?_; rotate_left
  · (intro W hSw; (try dsimp only at hSw); go_simp; all_goals (with_reducible rfl))
  simp only [gA, gB, gC, Act.put, gD, gE, gF]; refine wpAnyH_take (i := 10) (v := ?_) rfl (by kernel_rfl) (by kernel_rfl) (by kernel_rfl) (fun _ _ _ h => h) (Or.inl ⟨by rfl, ?_⟩) hHeld ?_; rotate_left
  · (intro W hSw; (try dsimp only at hSw); go_simp; all_goals (with_reducible rfl))
  simp only [gA, gB, gC, Act.put, gD, gE, gF]; refine wpAnyH_take (i := 11) (v := ?_) rfl (by kernel_rfl) (by kernel_rfl) (by kernel_rfl) (fun _ _ _ h => h) (Or.inl ⟨by rfl, ?_⟩) hHeld ?_; rotate_left
  · (intro W hSw; (try dsimp only at hSw); go_simp; all_goals (with_reducible rfl))
  simp only [gA, gB, gC, Act.put, gD, gE, gF]; refine wpAnyH_ready (rs := [12]) (by kernel_rfl) (by simp) ?_; refine AllReadyH.cons rfl (fun K hK => ?_) AllReadyH.nil; simp only [gA, gB, gC]; (go_simp); refine (rsmall5 1 6 (by omega) (by omega) (by omega) (by omega) (by omega) _).mono ?_; rintro e x8 ⟨s', a', l', c', zs', b', m', d', ys', rfl, h', g1, g2, hb⟩; replace V1 := Va.after hb V1; replace V2 := Va.after hb V2; replace V3 := Va.after hb V3; replace h1 := Rt.after hb h1; replace h2 := Rt.after hb h2; replace h3 := Rt.after hb h3; replace B0 := step B0 hb; clear hb; rw [← HV3.out] at h'; (try go_wp2_with fail); refine hK.out _ _ ⟨V1.d0, V1.d1, V1.d2, V2.d0, V2.d1, V2.d2, V3.d0, V3.d1, V3.d2⟩ (fun hHeld => ?_); clear hK K; refine wpAnyH_ready (rs := [13]) (by kernel_rfl) (by simp) ?_; refine AllReadyH.cons rfl (fun K hK => ?_) AllReadyH.nil; simp only [gA, gB, gC]; (go_simp); refine (is5 s3 a3 l3 c3 z3 b3 m3 d3 y3 v3 s' a' l' c' zs' b' m' d' ys' _ h3 h').mono ?_
  rintro e x9 ⟨rfl, hb⟩; replace V1 := Va.after hb V1; replace V2 := Va.after hb V2; replace V3 := Va.after hb V3; replace h1 := Rt.after hb h1; replace h2 := Rt.after hb h2; replace h3 := Rt.after hb h3; replace h' := Rr.after hb h'; replace B0 := step B0 hb; clear hb; (try go_wp2_with fail); refine hK.out _ _ ⟨V1.d0, V1.d1, V1.d2, V2.d0, V2.d1, V2.d2, V3.d0, V3.d1, V3.d2⟩ (fun hHeld => ?_); clear hK K; refine wpAnyH_take (i := 14) (v := ?_) rfl (by kernel_rfl) (by kernel_rfl) (by kernel_rfl) (fun _ _ _ h => h) (Or.inl ⟨by rfl, ?_⟩) hHeld ?_; rotate_left
  · (intro W hSw; (try dsimp only at hSw); go_simp; all_goals (with_reducible rfl))
  simp only [gA, gB, gC, Act.put, gD, gE, gF]; refine wpAnyH_take (i := 15) (v := ?_) rfl (by kernel_rfl) (by kernel_rfl) (by kernel_rfl) (fun _ _ _ h => h) (Or.inl ⟨by rfl, ?_⟩) hHeld ?_; rotate_left
  · (intro W hSw; (try dsimp only at hSw); go_simp; all_goals (with_reducible rfl))
  simp only [gA, gB, gC, Act.put, gD, gE, gF]; refine wpAnyH_take (i := 16) (v := ?_) rfl (by kernel_rfl) (by kernel_rfl) (by kernel_rfl) (fun _ _ _ h => h) (Or.inl ⟨by rfl, ?_⟩) hHeld ?_; rotate_left
  · (intro W hSw; (try dsimp only at hSw); go_simp; all_goals (with_reducible rfl))
  simp only [gA, gB, gC, Act.put, gD, gE, gF]; refine wpAnyH_take (i := 17) (v := ?_) rfl (by kernel_rfl) (by kernel_rfl) (by kernel_rfl) (fun _ _ _ h => h) (Or.inl ⟨by rfl, ?_⟩) hHeld ?_; rotate_left
  · (intro W hSw; (try dsimp only at hSw); go_simp; all_goals (with_reducible rfl))
  simp only [gA, gB, gC, Act.put, gD, gE, gF]; refine wpAnyH_ready (rs := [18]) (by kernel_rfl) (by simp) ?_; refine AllReadyH.cons rfl (fun K hK => ?_) AllReadyH.nil; simp only [gA, gB, gC]; (go_simp); refine (qcompare_any s1 a1 l1 c1 z1 b1 m1 d1 y1 v1 s2 a2 l2 c2 z2 b2 m2 d2 y2 v2 _ h1 h2).mono ?_; rintro e x10 ⟨rfl, hb⟩; replace V1 := Va.after hb V1; replace V2 := Va.after hb V2; replace V3 := Va.after hb V3; replace h1 := Rt.after hb h1; replace h2 := Rt.after hb h2; replace h3 := Rt.after hb h3; replace h' := Rr.after hb h'; replace B0 := step B0 hb; clear hb; rw [HQ.out]; (try go_wp2_with fail); refine hK.out _ _ ⟨V1.d0, V1.d1, V1.d2, V2.d0, V2.d1, V2.d2, V3.d0, V3.d1, V3.d2⟩ (fun hHeld => ?_); clear hK K; refine wpAnyH_take (i := 19) (v := ?_) rfl (by kernel_rfl) (by kernel_rfl) (by kernel_rfl) (fun _ _ _ h => h) (Or.inl ⟨by rfl, ?_⟩) hHeld ?_; rotate_left
  · (intro W hSw; (try dsimp only at hSw); go_simp; all_goals (with_reducible rfl))
  simp only [gA, gB, gC, Act.put, gD, gE, gF]; refine wpAnyH_take (i := 20) (v := ?_) rfl (by kernel_rfl) (by kernel_rfl) (by kernel_rfl) (fun _ _ _ h => h) (Or.inl ⟨by rfl, ?_⟩) hHeld ?_; rotate_left
  · (intro W hSw; (try dsimp only at hSw); go_simp; all_goals (with_reducible rfl))
  simp only [gA, gB, gC, Act.put, gD, gE, gF]; refine wpAnyH_take (i := 21) (v := ?_) rfl (by kernel_rfl) (by kernel_rfl) (by kernel_rfl) (fun _ _ _ h => h) (Or.inl ⟨by rfl, ?_⟩) hHeld ?_; rotate_left
  · (intro W hSw; (try dsimp only at hSw); go_simp; all_goals (with_reducible rfl))
  simp only [gA, gB, gC, Act.put, gD, gE]; refine wpAnyH_done (by kernel_rfl) ?_ _; refine NoPanic.normal ?_; clear hHeld; (go_wp2_with fail)
  go_ret
  exact ⟨rfl, B0⟩
end Go.Proofs.YtadfccbjadopgaaGreat
