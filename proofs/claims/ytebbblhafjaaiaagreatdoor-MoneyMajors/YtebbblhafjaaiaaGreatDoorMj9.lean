/-
  The document's lowest, Major and Minor of layer 9.
-/
import Derived.Test.YtebbblhafjaaiaaGreatDoorMgAa
import Derived.Test.YtebbblhafjaaiaaGreatDoorMgAx
import Derived.Test.YtebbblhafjaaiaaGreatDoorMgAm
namespace Go.Proofs.YtebbblhafjaaiaaGreatDoor
open Go.RowKit Go.Shelf
set_option linter.unusedVariables false

theorem rsize9m (x : Int) (h1 : -9223372036854775808 ≤ x) (h2 : x ≤ 9223372036854775807) (w : World) : Calls Tryz.prog 93 #[.int .i64 x] w fun e w' => e = .returned (.int .u64 (x.natAbs : Int)) ∧ w' = w := by
  obtain ⟨y, hy⟩ : ∃ y, x.natAbs = y := ⟨_, rfl⟩
  rw [hy]
  by_cases g : x < 0
  · have g1 : decide (x < 0) = true := decide_eq_true g
    have e1 : IntKind.u64.wrap x = x + 18446744073709551616 := by rw [IntKind.wrap_u64]; omega
    have e2 : IntKind.u64.wrap (-(x + 18446744073709551616)) = (y : Int) := by rw [IntKind.wrap_u64]; omega
    clear hy h1 h2
    go_enter Tryz.func93, Tryz.ntmps93
    go_wp2_with fail
    go_ret
    exact ⟨rfl, rfl⟩
  · have g1 : decide (x < 0) = false := decide_eq_false g
    have e1 : IntKind.u64.wrap x = (y : Int) := by rw [IntKind.wrap_u64]; omega
    clear hy h1 h2
    go_enter Tryz.func93, Tryz.ntmps93
    go_wp2_with fail
    go_ret
    exact ⟨rfl, rfl⟩
theorem rten9m (k : Nat) (hk : k ≤ 9) (w : World) :
    Calls Tryz.prog 94 #[.int .i64 k] w fun e w' => ∃ a' m c zs, e = .returned (.slice a' m c) ∧ m ≤ c ∧ m ≤ 1 ∧ Sl w' a' m zs ∧ usedN zs = m ∧ num zs = 10 ^ k ∧ Below w.heap.size w w' := by
  go_enter Tryz.func94, Tryz.ntmps94
  go_wp2_with fail
  refine (ten3 k hk _).mono ?_
  rintro e x1 ⟨a2, m2, c2, zs, rfl, hc2, hm2, hs2, hu2, hn2, hb2⟩
  go_wp2_with fail
  go_ret
  exact ⟨a2, m2, c2, zs, rfl, hc2, hm2, hs2, hu2, hn2, hb2⟩
set_option maxHeartbeats 4000000 in
theorem rlow9 (n : Bool) (a0 a1 : Option Addr) (l0 k0 l1 k1 : Nat) (z0 z1 : List Int) (w : World) (h0 : Sl w a0 l0 z0) (h1 : Sl w a1 l1 z1) (c0 : l0 ≤ k0) (c1 : l1 ≤ k1) (t0 : l0 ≤ 1000000) (t1 : l1 ≤ 1000000) (u0 : usedN z0 ≤ 4096) (u1 : usedN z1 ≤ 4096) (hz : num z1 ≠ 0) :
    Calls Tryz.prog 92 #[.agg #[.bool n, .slice a0 l0 k0, .slice a1 l1 k1]] w fun e w' => ∃ s' a' l' c' zs' b' m' d' ys', e = .returned (.agg #[.bool s', .slice a' l' c', .slice b' m' d']) ∧ Rr w' s' a' l' c' zs' b' m' d' ys' (Rat.divInt (iv n z0) (num z1)) ∧ l' ≤ 2 * l0 ∧ m' ≤ 2 * l1 ∧ Below w.heap.size w w' := by
  have B0 : Below w.heap.size w w := Below.refl _ _
  have p0 := num_nonneg h0.2.1
  have p1 := num_nonneg h1.2.1
  go_enter Tryz.func92, Tryz.ntmps92
  go_wp2_with fail
  refine ent2 w _ _ _ _ (Q := fun W => Calls Tryz.prog _ _ W _) ?_
  intro x1 hb hs_x1 V1 V0
  replace h0 := Sl.after hb h0
  replace h1 := Sl.after hb h1
  replace B0 := step B0 hb
  clear hb hs_x1
  refine (rgcd_n a0 a1 l0 k0 l1 k1 z0 z1 x1 h0 h1 c0 c1 (by omega) (by omega) u0 u1).mono ?_
  rintro e x2 ⟨ag, mg, cg, zg, rfl, hcg, hg, ug, eg, hb⟩
  replace V0 := Va.after hb V0
  replace V1 := Va.after hb V1
  replace h0 := Sl.after hb h0
  replace h1 := Sl.after hb h1
  replace B0 := step B0 hb
  clear hb
  have HG : Hid (num zg ≠ 0 ∧ num zg ∣ num z0 ∧ num zg ∣ num z1) := by
    refine ⟨?_, ?_, ?_⟩
    · rw [eg]; exact gcd_ne hz
    · rw [eg]; exact Int.gcd_dvd_left ..
    · rw [eg]; exact Int.gcd_dvd_right ..
  have hmg : mg ≤ 4096 := by
    have hgl : num zg ≤ num z1 := Int.le_of_dvd (by omega) HG.out.2.2
    have := used_of_lt hg.2.1 (Int.lt_of_le_of_lt hgl (lt_of_used h1.2.1 u1))
    omega
  have HE : Hid (num zg = (Int.gcd (num z0) (num z1) : Nat)) := eg
  clear eg ug
  have c_V1 := V1.d0
  have f0_V1 := V1.frozen 0
  have d_V1 := V1.d1
  have f1_V1 := V1.frozen 1
  have e_V1 := V1.d2
  have f2_V1 := V1.frozen 2
  have l_V1 := V1.lt
  have m_V1 := Nat.le_of_lt l_V1
  go_wp2_with fail
  clear c_V1 f0_V1 d_V1 f1_V1 e_V1 f2_V1 l_V1 m_V1
  refine (rdivmod_n a0 ag l0 k0 mg cg z0 zg x2 h0 hg c0 (by omega) (by omega) HG.out.1).mono ?_
  rintro e x3 ⟨aq, mq, cq, qs, ax, mx, cx, xs, rfl, hq, uq, hcq, hx, ux, hcx, e1, x0, x1, lq, lx, hb⟩
  replace V0 := Va.after hb V0
  replace V1 := Va.after hb V1
  replace h0 := Sl.after hb h0
  replace h1 := Sl.after hb h1
  replace hg := Sl.after hb hg
  replace B0 := step B0 hb
  clear hb
  have EQ : Hid (num qs * num zg = num z0) := div_exact e1 x0 x1 HG.out.2.1
  clear e1 x0 x1 lx ux hcx hx
  have c_V1 := V1.d0
  have f0_V1 := V1.frozen 0
  have d_V1 := V1.d1
  have f1_V1 := V1.frozen 1
  have e_V1 := V1.d2
  have f2_V1 := V1.frozen 2
  have l_V1 := V1.lt
  have m_V1 := Nat.le_of_lt l_V1
  go_wp2_with fail
  clear c_V1 f0_V1 d_V1 f1_V1 e_V1 f2_V1 l_V1 m_V1
  refine (rdivmod_n a1 ag l1 k1 mg cg z1 zg x3 h1 hg c1 (by omega) (by omega) HG.out.1).mono ?_
  rintro e x4 ⟨ar, mr, cr, rs, ax, mx, cx, xs, rfl, hr, ur, hcr, hx, ux, hcx, e1, x0, x1, lr, lx, hb⟩
  replace V0 := Va.after hb V0
  replace V1 := Va.after hb V1
  replace h0 := Sl.after hb h0
  replace h1 := Sl.after hb h1
  replace hg := Sl.after hb hg
  replace hq := Sl.after hb hq
  replace B0 := step B0 hb
  clear hb
  have ER : Hid (num rs * num zg = num z1) := div_exact e1 x0 x1 HG.out.2.2
  clear e1 x0 x1 lx ux hcx hx
  have HP := make_parts (n := n) p0 (by omega) HE.out (num_nonneg hq.2.1) (num_nonneg hr.2.1) EQ.out ER.out
  have HPP : Hid (iv (n && decide (num qs ≠ 0)) qs = (Rat.divInt (iv n z0) (num z1)).num ∧ num rs = (Rat.divInt (iv n z0) (num z1)).den) := HP
  have hqz : num qs = 0 ↔ mq = 0 := by rw [num_eq_zero hq.2.1, uq]
  clear HP HE EQ ER HG
  have szz := B0.size
  cases n
  ·
    have c_V0 := V0.d0
    have f0_V0 := V0.frozen 0
    have d_V0 := V0.d1
    have f1_V0 := V0.frozen 1
    have e_V0 := V0.d2
    have f2_V0 := V0.frozen 2
    have l_V0 := V0.lt
    have m_V0 := Nat.le_of_lt l_V0
    have c_V1 := V1.d0
    have f0_V1 := V1.frozen 0
    have d_V1 := V1.d1
    have f1_V1 := V1.frozen 1
    have e_V1 := V1.d2
    have f2_V1 := V1.frozen 2
    have l_V1 := V1.lt
    have m_V1 := Nat.le_of_lt l_V1
    go_wp2_with fail
    refine bodyPost_ret (results_ra rfl rfl (V0.set3 _ _ _)) rfl ?_
    refine ⟨false, aq, mq, cq, qs, ar, mr, cr, rs, rfl, ?_, lq, lr, belo3 B0 (Nat.le_succ _) _ _ _⟩
    refine Rr.far (V := V0) (hn := noInt3 _ _ _ _ _ _ _) (k := fa3 _ _ _ _ _) ⟨hq, hr, uq, ur, ⟨hcq, hcr⟩, ?_, HPP.out.2, ?_⟩
    · exact HPP.out.1
    · intro h; cases h
  ·
    by_cases hm : mq = 0
    ·
      have hd : decide (num qs ≠ 0) = false := by simp; exact hqz.2 hm
      rw [hd] at HPP
      subst hm
      have c_V0 := V0.d0
      have f0_V0 := V0.frozen 0
      have d_V0 := V0.d1
      have f1_V0 := V0.frozen 1
      have e_V0 := V0.d2
      have f2_V0 := V0.frozen 2
      have l_V0 := V0.lt
      have m_V0 := Nat.le_of_lt l_V0
      have c_V1 := V1.d0
      have f0_V1 := V1.frozen 0
      have d_V1 := V1.d1
      have f1_V1 := V1.frozen 1
      have e_V1 := V1.d2
      have f2_V1 := V1.frozen 2
      have l_V1 := V1.lt
      have m_V1 := Nat.le_of_lt l_V1
      go_wp2_with fail
      refine bodyPost_ret (results_ra rfl rfl (V0.set3 _ _ _)) rfl ?_
      refine ⟨false, aq, 0, cq, qs, ar, mr, cr, rs, rfl, ?_, lq, lr, belo3 B0 (Nat.le_succ _) _ _ _⟩
      refine Rr.far (V := V0) (hn := noInt3 _ _ _ _ _ _ _) (k := fa3 _ _ _ _ _) ⟨hq, hr, uq, ur, ⟨hcq, hcr⟩, ?_, HPP.out.2, ?_⟩
      · exact HPP.out.1
      · intro h; cases h
    ·
      have hd : decide (num qs ≠ 0) = true := by simp; exact fun h => hm (hqz.1 h)
      rw [hd] at HPP
      have hm2 : 0 < mq := Nat.pos_of_ne_zero hm
      have c_V0 := V0.d0
      have f0_V0 := V0.frozen 0
      have d_V0 := V0.d1
      have f1_V0 := V0.frozen 1
      have e_V0 := V0.d2
      have f2_V0 := V0.frozen 2
      have l_V0 := V0.lt
      have m_V0 := Nat.le_of_lt l_V0
      have c_V1 := V1.d0
      have f0_V1 := V1.frozen 0
      have d_V1 := V1.d1
      have f1_V1 := V1.frozen 1
      have e_V1 := V1.d2
      have f2_V1 := V1.frozen 2
      have l_V1 := V1.lt
      have m_V1 := Nat.le_of_lt l_V1
      go_wp2_with fail
      refine bodyPost_ret (results_ra rfl rfl (V0.set3 _ _ _)) rfl ?_
      refine ⟨true, aq, mq, cq, qs, ar, mr, cr, rs, rfl, ?_, lq, lr, belo3 B0 (Nat.le_succ _) _ _ _⟩
      refine Rr.far (V := V0) (hn := noInt3 _ _ _ _ _ _ _) (k := fa3 _ _ _ _ _) ⟨hq, hr, uq, ur, ⟨hcq, hcr⟩, ?_, HPP.out.2, ?_⟩
      · exact HPP.out.1
      · intro _; exact of_decide_eq_true hd

theorem major_val {U : Int} {P : Nat} {neg : Bool} {z1 z2 : List Int} (hng : decide (U < 0) = neg) (h1 : num z1 = (U.natAbs : Int)) (h2 : num z2 = 10 ^ P) : Rat.divInt (iv neg z1) (num z2) = Rat.divInt U ((10 ^ P : Nat) : Int) := by
  have e : iv neg z1 = U := by
    subst hng
    unfold iv
    by_cases h : U < 0 <;> simp [h, h1] <;> omega
  rw [e, h2, Int.natCast_pow]
  rfl
theorem results_rat9 {fn : Func} {i j b : Nat} {x y z : Value} {tmps : Array Value} {w : World} (h : fn.results = #[.cell i 37, .tmp j]) (hi : tmps.getD i undef = .pointer (some ⟨b, 0, none⟩)) (hv : Va w b 37 #[x, y, z]) :
    (results fn tmps).run Tryz.prog w = .ok (.tuple #[.agg #[x, y, z], tmps.getD j undef]) w := by
  have c := hv.d0; have d := hv.d1; have e := hv.d2
  rw [Array.getD_eq_getD_getElem?] at hi
  simp [results, h, hi, c, d, e, go_sem]
set_option maxHeartbeats 4000000 in
set_option maxRecDepth 8000 in
theorem rmajor9 (nm : List UInt8) (D : Nat) (U : Int) (w : World) (hC : Cur nm D) (h1 : -9223372036854775808 ≤ U) (h2 : U ≤ 9223372036854775807) :
  Calls Tryz.prog 37 #[.agg #[.string ⟨nm.toArray⟩, .int .i64 D], .int .i64 U] w fun e w' => ∃ s' a' l' c' zs' b' m' d' ys', e = .returned (.tuple #[.agg #[.bool s', .slice a' l' c', .slice b' m' d'], .int .i64 0]) ∧ Rr w' s' a' l' c' zs' b' m' d' ys' (Rat.divInt U ((10 ^ D : Nat) : Int)) ∧ Below w.heap.size w w' := by
 have HB : Hid (-9223372036854775808 ≤ U ∧ U ≤ 9223372036854775807) := ⟨h1, h2⟩; have HC : Hid (Cur nm D) := hC; (have hD4 : D ≤ 4 := by have := hC.2.2.2; omega); (obtain ⟨neg, hng⟩ : ∃ neg, decide (U < 0) = neg := ⟨_, rfl⟩); have HN : Hid (decide (U < 0) = neg) := hng; (have hne : (10 : Int) ^ D ≠ 0 := by have : (0 : Int) < 10 ^ D := Int.pow_pos (by omega); omega); have HNE : Hid ((10 : Int) ^ D ≠ 0) := hne; clear h1 h2 hne hC; have B0 : Below w.heap.size w w := Below.refl _ _
 go_enter Tryz.func37, Tryz.ntmps37
 (go_wp2_with fail); refine ent2 w _ _ _ _ (Q := fun W => Calls Tryz.prog _ _ W _) ?_; intro x1 hb hs_x1 V1 V0; replace B0 := step B0 hb; clear hb hs_x1; refine (rcheck9_ok nm D HC.out _).mono ?_; rintro e x2 ⟨rfl, hb⟩; replace V0 := Va.after hb V0; replace V1 := Va.after hb V1; replace B0 := step B0 hb; clear hb; have c_V1 := V1.c0; have f0_V1 := V1.frozen 0; have d_V1 := V1.c1; have f1_V1 := V1.frozen 1; have l_V1 := V1.lt; have m_V1 := Nat.le_of_lt l_V1; (go_wp2_with fail); clear c_V1 f0_V1 d_V1 f1_V1 l_V1 m_V1; refine wp_region_noPanic ?_; replace V0 : Va x2.drew _ _ _ := V0; replace V1 : Va x2.drew _ _ _ := V1; replace B0 := Below.drew B0; refine wp_region_held_drew (S := (fun W => W.cell? ⟨w.heap.size, 0, none⟩ = some (.string ⟨nm.toArray⟩) ∧ W.cell? ⟨w.heap.size, 1, none⟩ = some (.int .i64 D))) (by kernel_rfl) ⟨V1.c0, V1.c1⟩ (fun hHeld => ?_); (obtain ⟨x3, hxd⟩ : ∃ xd, xd = x2.drew := ⟨_, rfl⟩); rw [← hxd] at V0 V1 B0 hHeld ⊢; clear hxd
 refine tk 0 rfl hHeld ?_; simp only [gA, gB, Act.put, gD, gE, gF]; refine tk 1 rfl hHeld ?_; simp only [gA, gB, gC, Act.put, gD, gE, gF]; refine tk 2 rfl hHeld ?_; simp only [gA, gB, gC, Act.put, gD, gE, gF]; refine tk 5 rfl hHeld ?_; simp only [gA, gB, gC, Act.put, gD, gE, gF]; refine tk 6 rfl hHeld ?_; simp only [gA, gB, gC, Act.put, gD, gE, gF]; refine wpAnyH_ready (rs := [3]) (by kernel_rfl) (by simp) ?_; refine AllReadyH.cons rfl (fun K hK => ?_) AllReadyH.nil; simp only [gA, gB, gC]; (go_simp); refine (rsize9m U HB.out.1 HB.out.2 _).mono ?_; rintro e xw ⟨rfl, hw⟩; rw [hw]; clear hw; (try go_wp2_with fail); refine hK.out _ _ ⟨V1.c0, V1.c1⟩ (fun hHeld => ?_); clear hK K; refine wpAnyH_ready (rs := [4]) (by kernel_rfl) (by simp) ?_; refine AllReadyH.cons rfl (fun K hK => ?_) AllReadyH.nil; simp only [gA, gB, gC]; (go_simp); refine (rsmall_any (U.natAbs : Int) ⟨by omega, by have h5 := HB.out; omega⟩ _).mono ?_; rintro e x4 ⟨a1, m1, c1, z1, rfl, hc1, hm1, h1, hu1, hn1, hb⟩
 replace V0 := Va.after hb V0; replace V1 := Va.after hb V1; replace B0 := step B0 hb; clear hb; (try go_wp2_with fail); refine hK.out _ _ ⟨V1.c0, V1.c1⟩ (fun hHeld => ?_); clear hK K; refine wpAnyH_ready (rs := [7]) (by kernel_rfl) (by simp) ?_; refine AllReadyH.cons rfl (fun K hK => ?_) AllReadyH.nil; simp only [gA, gB, gC]; (go_simp); refine (rten9m D (by omega) _).mono ?_; rintro e x5 ⟨a2, m2, c2, z2, rfl, hc2, hm2, h2, hu2, hn2, hb⟩; replace V0 := Va.after hb V0; replace V1 := Va.after hb V1; replace B0 := step B0 hb; replace h1 := Sl.after hb h1; clear hb; (try go_wp2_with fail); refine hK.out _ _ ⟨V1.c0, V1.c1⟩ (fun hHeld => ?_); clear hK K; refine tk 8 rfl hHeld ?_; simp only [gA, gB, gC, Act.put, gD, gE, gF]; refine wpAnyH_ready (rs := [9]) (by kernel_rfl) (by simp) ?_; refine AllReadyH.cons rfl (fun K hK => ?_) AllReadyH.nil; simp only [gA, gB, gC]; (go_simp); refine (rlow9 neg a1 a2 m1 c1 m2 c2 z1 z2 _ h1 h2 hc1 hc2 (by omega) (by omega) (by omega) (by omega) (by rw [hn2]; exact HNE.out)).mono ?_
 rintro e x6 ⟨s', a', l', c', zs', b', m', d', ys', rfl, hr, -, -, hb⟩; replace V0 := Va.after hb V0; replace V1 := Va.after hb V1; replace B0 := step B0 hb; clear hb; rw [major_val HN.out hn1 hn2] at hr; clear h1 h2 hn1 hn2 hu1 hu2; (try go_wp2_with fail); refine hK.out _ _ ⟨V1.c0, V1.c1⟩ (fun hHeld => ?_); clear hK K; have c_V0 := V0.d0; have f0_V0 := V0.frozen 0; have d_V0 := V0.d1; have f1_V0 := V0.frozen 1; have e_V0 := V0.d2; have f2_V0 := V0.frozen 2; have l_V0 := V0.lt; have m_V0 := Nat.le_of_lt l_V0; refine wpAnyH_ready (rs := [10]) (by kernel_rfl) (by simp) ?_; refine AllReadyH.cons rfl (fun K hK => ?_) AllReadyH.nil; simp only [gA, gB, gC]; (go_simp); clear c_V0 f0_V0 d_V0 f1_V0 e_V0 f2_V0 l_V0 m_V0; refine sto3 V0 (.bool s') (.slice a' l' c') (.slice b' m' d') (Q := fun W => K _ W) ?_; intro x7 V' oth far; replace V1 := oth _ _ _ (by omega) V1; replace hr := hr.far V0 (noInt3 _ _ _ _ _ _ _) far.1; replace B0 := far.2 _ _ (by omega) B0
 replace V0 := V'; clear oth far V'; refine hK.out _ _ ⟨V1.c0, V1.c1⟩ (fun hHeld => ?_); clear hK K; refine tk 11 rfl hHeld ?_; simp only [gA, gB, gC, Act.put, gD, gE, gF]; refine wpAnyH_done (by kernel_rfl) ?_ _; refine NoPanic.normal ?_; clear hHeld; (go_wp2_with fail); refine bodyPost_ret (results_rat9 rfl rfl V0) rfl ?_; exact ⟨s', a', l', c', zs', b', m', d', ys', rfl, hr, B0⟩
set_option maxHeartbeats 4000000 in
theorem rmajor9_no (nm : List UInt8) (D U : Int) (w : World) (hC : ¬ Cur nm D) :
    Calls Tryz.prog 37 #[.agg #[.string ⟨nm.toArray⟩, .int .i64 D], .int .i64 U] w fun e w' => e = .returned (.tuple #[.agg #[.bool false, .slice none 0 0, .slice none 0 0], .int .i64 90]) ∧ Below w.heap.size w w' := by
  have HC : Hid (¬ Cur nm D) := hC
  clear hC
  have B0 : Below w.heap.size w w := Below.refl _ _
  go_enter Tryz.func37, Tryz.ntmps37
  go_wp2_with fail
  refine ent2 w _ _ _ _ (Q := fun W => Calls Tryz.prog _ _ W _) ?_
  intro x1 hb hs_x1 V1 V0
  replace B0 := step B0 hb
  clear hb hs_x1
  refine (rcheck9_no nm D HC.out _).mono ?_
  rintro e x2 ⟨rfl, hb⟩
  replace V0 := Va.after hb V0
  replace B0 := step B0 hb
  clear hb
  have c_V0 := V0.d0
  have f0_V0 := V0.frozen 0
  have d_V0 := V0.d1
  have f1_V0 := V0.frozen 1
  have e_V0 := V0.d2
  have f2_V0 := V0.frozen 2
  have l_V0 := V0.lt
  have m_V0 := Nat.le_of_lt l_V0
  go_wp2_with fail
  refine bodyPost_ret (results_rat9 rfl rfl (V0.set3 _ _ _)) rfl ?_
  exact ⟨rfl, belo3 B0 (Nat.le_succ _) _ _ _⟩
/-- What Minor answers. -/
def MnR (V : Rat) (e : Ending) (w' : World) : Prop :=
  (Short V ∧ ∃ s' a' l' c' zs' b' m' d' ys', e = .returned (.tuple #[.agg #[.bool s', .slice a' l' c', .slice b' m' d'], .int .i64 0]) ∧ Rr w' s' a' l' c' zs' b' m' d' ys' V) ∨
  (¬ Short V ∧ e = .returned (.tuple #[.agg #[.bool false, .slice none 0 0, .slice none 0 0], .int .i64 3]))
theorem minor_val {D : Nat} {neg : Bool} {xs ys z : List Int} (h1 : num z = num xs * 10 ^ D) (h0 : num ys ≠ 0) : Rat.divInt (iv neg z) (num ys) = Rat.divInt (iv neg xs) (num ys) * Rat.divInt ((10 ^ D : Nat) : Int) 1 := by
  have e : iv neg z = iv neg xs * 10 ^ D := by unfold iv; rw [h1]; cases neg <;> simp [Int.neg_mul]
  rw [Rat.divInt_mul_divInt, e, Int.mul_one]
  congr 1
theorem rr_long9 {w : World} {s : Bool} {a : Option Addr} {l c : Nat} {zs : List Int} {b : Option Addr} {m d : Nat} {ys : List Int} {v : Rat} (h : Rr w s a l c zs b m d ys v) : max (l : Int) (m : Int) ≤ 1024 ↔ Short v := by
  have z0 := num_nonneg h.1.2.1
  have e1 : (v.num.natAbs : Int) = num zs := by rw [← h.2.2.2.2.2.1]; cases s <;> simp only [iv_t, iv_f] <;> omega
  have p1 : l ≤ 1024 ↔ num zs < pw 1024 := ⟨fun q => lt_of_used h.1.2.1 (by rw [h.2.2.1]; exact q), fun q => by have := used_of_lt h.1.2.1 q; rw [h.2.2.1] at this; exact this⟩
  have p2 : m ≤ 1024 ↔ num ys < pw 1024 := ⟨fun q => lt_of_used h.2.1.2.1 (by rw [h.2.2.2.1]; exact q), fun q => by have := used_of_lt h.2.1.2.1 q; rw [h.2.2.2.1] at this; exact this⟩
  rw [h.2.2.2.2.2.2.1] at p2
  unfold Short
  rw [e1, ← p1, ← p2]
  omega
theorem lens_short {w : World} {s : Bool} {a : Option Addr} {l c : Nat} {zs : List Int} {b : Option Addr} {m d : Nat} {ys : List Int} {v : Rat} (h : Rr w s a l c zs b m d ys v) : (l ≤ 1024 ∧ m ≤ 1024) ↔ Short v := by
  rw [← rr_long9 h]
  omega
set_option maxHeartbeats 4000000 in
set_option maxRecDepth 8000 in
theorem rminor9 (nm : List UInt8) (D : Nat) (neg : Bool) (an ad : Option Addr) (ln cn ld cd : Nat) (xs ys : List Int) (w : World) (hC : Cur nm D) (hx : Sl w an ln xs) (hy : Sl w ad ld ys) (hxc : ln ≤ cn) (hyc : ld ≤ cd) (hl : ln ≤ 1024) (hm : ld ≤ 1024) (h0 : num ys ≠ 0) :
    Calls Tryz.prog 43 #[.agg #[.string ⟨nm.toArray⟩, .int .i64 D], .agg #[.bool neg, .slice an ln cn, .slice ad ld cd]] w fun e w' => MnR (Rat.divInt (iv neg xs) (num ys) * Rat.divInt ((10 ^ D : Nat) : Int) 1) e w' ∧ Below w.heap.size w w' := by
  have HC : Hid (Cur nm D) := hC; (have hD4 : D ≤ 4 := by have := hC.2.2.2; omega); have H0 : Hid (num ys ≠ 0) := h0; (obtain ⟨V, hV⟩ : ∃ V, Rat.divInt (iv neg xs) (num ys) * Rat.divInt ((10 ^ D : Nat) : Int) 1 = V := ⟨_, rfl⟩); rw [hV]; have HV : Hid (Rat.divInt (iv neg xs) (num ys) * Rat.divInt ((10 ^ D : Nat) : Int) 1 = V) := hV; clear h0 hC hV; have B0 : Below w.heap.size w w := Below.refl _ _
  go_enter Tryz.func43, Tryz.ntmps43
  (go_wp2_with fail); refine ent3 w _ _ _ _ _ _ (Q := fun W => Calls Tryz.prog _ _ W _) ?_; intro x1 hb hs_x1 V1 V2 V0; replace hx := Sl.after hb hx; replace hy := Sl.after hb hy; replace B0 := step B0 hb; clear hb hs_x1; refine (rcheck9_ok nm D HC.out _).mono ?_; rintro e x2 ⟨rfl, hb⟩; replace V1 := Va.after hb V1; replace V2 := Va.after hb V2; replace V0 := Va.after hb V0; replace hx := Sl.after hb hx; replace hy := Sl.after hb hy; replace B0 := step B0 hb; clear hb; have c_V1 := V1.c0; have f0_V1 := V1.frozen 0; have d_V1 := V1.c1; have f1_V1 := V1.frozen 1; have l_V1 := V1.lt; have m_V1 := Nat.le_of_lt l_V1; have c_V2 := V2.d0; have f0_V2 := V2.frozen 0; have d_V2 := V2.d1; have f1_V2 := V2.frozen 1; have e_V2 := V2.d2; have f2_V2 := V2.frozen 2; have l_V2 := V2.lt; have m_V2 := Nat.le_of_lt l_V2
  go_upto_region 3 with fail
  clear c_V1 f0_V1 d_V1 f1_V1 l_V1 m_V1; clear c_V2 f0_V2 d_V2 f1_V2 e_V2 f2_V2 l_V2 m_V2
  go_cut [6] (fun s6 wx => ∃ (g : Nat) (s' : Bool) (a' : Option Addr) (l' c' : Nat) (zs' : List Int) (b' : Option Addr) (m' d' : Nat) (ys' : List Int), s6 = .pointer (some ⟨g, 0, none⟩) ∧ w.heap.size + 3 ≤ g ∧ Hid (Va wx g 37 #[.bool s', .slice a' l' c', .slice b' m' d']) ∧ Hid (Rr wx s' a' l' c' zs' b' m' d' ys' V) ∧ Hid (Va wx (w.heap.size + 1 + 1) 37 #[.bool false, .slice none 0 0, .slice none 0 0]) ∧ Hid (Below w.heap.size w wx))
  case first =>
    have hgB := V0.lt; refine wp_region_noPanic ?_; replace V1 : Va x2.drew _ _ _ := V1; replace V2 : Va x2.drew _ _ _ := V2; replace V0 : Va x2.drew _ _ _ := V0; replace B0 := Below.drew B0; refine wp_region_held_drew (S := (fun W => (W.cell? ⟨w.heap.size, 0, none⟩ = some (.string ⟨nm.toArray⟩) ∧ W.cell? ⟨w.heap.size, 1, none⟩ = some (.int .i64 D)) ∧ W.cell? ⟨w.heap.size + 1, 0, none⟩ = some (.bool neg) ∧ W.cell? ⟨w.heap.size + 1, 1, none⟩ = some (.slice an ln cn) ∧ W.cell? ⟨w.heap.size + 1, 2, none⟩ = some (.slice ad ld cd))) (by kernel_rfl) ⟨⟨V1.c0, V1.c1⟩, V2.d0, V2.d1, V2.d2⟩ (fun hHeld => ?_); (obtain ⟨x3, hxd⟩ : ∃ xd, xd = x2.drew := ⟨_, rfl⟩); rw [← hxd] at V1 V2 V0 B0 hHeld ⊢; (replace hx : Sl x3 an ln xs := by rw [hxd]; exact hx); (replace hy : Sl x3 ad ld ys := by rw [hxd]; exact hy); (replace hgB : w.heap.size + 1 + 1 < x3.heap.size := by rw [hxd]; exact hgB); clear hxd; refine tk 0 rfl hHeld ?_; simp only [gA, gB, Act.put, gD, gE, gF]
    refine tk 1 rfl hHeld ?_; simp only [gA, gB, gC, Act.put, gD, gE, gF]; refine tk 2 rfl hHeld ?_; simp only [gA, gB, gC, Act.put, gD, gE, gF]; refine tk 3 rfl hHeld ?_; simp only [gA, gB, gC, Act.put, gD, gE, gF]; refine tk 4 rfl hHeld ?_; simp only [gA, gB, gC, Act.put, gD, gE, gF]; refine tk 5 rfl hHeld ?_; simp only [gA, gB, gC, Act.put, gD, gE, gF]; refine tk 8 rfl hHeld ?_; simp only [gA, gB, gC, Act.put, gD, gE, gF]; refine tk 9 rfl hHeld ?_; simp only [gA, gB, gC, Act.put, gD, gE, gF]; refine wpAnyH_ready (rs := [6, 12]) (by kernel_rfl) (by simp) ?_; refine AllReadyH.cons rfl (fun K hK => ?_) (AllReadyH.cons rfl (fun K hK => ?_) AllReadyH.nil)
    ·
      simp only [gA, gB, gC]; (go_simp); refine (rten9m D (by omega) _).mono ?_; rintro e x4 ⟨a2, m2, c2, z2, rfl, hc2, hm2, h2, hu2, hn2, hb⟩; replace V1 := Va.after hb V1; replace V2 := Va.after hb V2; replace V0 := Va.after hb V0; replace hx := Sl.after hb hx; replace hy := Sl.after hb hy; replace B0 := step B0 hb; replace hgB := Nat.lt_of_lt_of_le hgB hb.size; clear hb; (try go_wp2_with fail); refine hK.out _ _ ⟨⟨V1.c0, V1.c1⟩, V2.d0, V2.d1, V2.d2⟩ (fun hHeld => ?_); clear hK K; refine wpAnyH_ready (rs := [7, 12]) (by kernel_rfl) (by simp) ?_; refine AllReadyH.cons rfl (fun K hK => ?_) (AllReadyH.cons rfl (fun K hK => ?_) AllReadyH.nil)
      ·
        simp only [gA, gB, gC]; (go_simp); refine (rmul_any an a2 ln cn m2 c2 xs z2 _ hx h2 (by omega) (by omega)).mono ?_; rintro e x5 ⟨a3, m3, c3, z3, rfl, hc3, hm3, h3, hu3, hn3, hb⟩; replace V1 := Va.after hb V1; replace V2 := Va.after hb V2; replace V0 := Va.after hb V0; replace hy := Sl.after hb hy; replace B0 := step B0 hb; replace hgB := Nat.lt_of_lt_of_le hgB hb.size; clear hb; rw [hn2] at hn3; clear hx h2 hu2 hn2; (try go_wp2_with fail); refine hK.out _ _ ⟨⟨V1.c0, V1.c1⟩, V2.d0, V2.d1, V2.d2⟩ (fun hHeld => ?_); clear hK K; refine tk 10 rfl hHeld ?_; simp only [gA, gB, gC, Act.put, gD, gE, gF]; refine wpAnyH_ready (rs := [11, 12]) (by kernel_rfl) (by simp) ?_; refine AllReadyH.cons rfl (fun K hK => ?_) (AllReadyH.cons rfl (fun K hK => ?_) AllReadyH.nil)
        ·
          simp only [gA, gB, gC]; (go_simp); refine (rlow9 neg a3 ad m3 c3 ld cd z3 ys _ h3 hy hc3 hyc (by omega) (by omega) (by omega) (Nat.le_trans (usedN_le _) (by rw [hy.1]; omega)) H0.out).mono ?_; rintro e x6 ⟨s', a', l', c', zs', b', m', d', ys', rfl, hr, -, -, hb⟩; replace V1 := Va.after hb V1; replace V2 := Va.after hb V2; replace V0 := Va.after hb V0; replace B0 := step B0 hb; replace hgB := Nat.lt_of_lt_of_le hgB hb.size; clear hb; rw [minor_val hn3 H0.out, HV.out] at hr; clear h3 hy hn3 hu3; (try go_wp2_with fail); refine hK.out _ _ ⟨⟨V1.c0, V1.c1⟩, V2.d0, V2.d1, V2.d2⟩ (fun hHeld => ?_); clear hK K; refine wpAnyH_ready (rs := [12]) (by kernel_rfl) (by simp) ?_; refine AllReadyH.cons rfl (fun K hK => ?_) AllReadyH.nil; simp only [gA, gB, gC]; (go_simp); refine ent1 x6 _ _ (Q := fun V => K _ V) ?_; intro x7 hb hsz VG; clear hsz; (have hgg : w.heap.size + 3 ≤ x6.heap.size := by omega); replace V1 := Va.after hb V1; replace V2 := Va.after hb V2
          replace V0 := Va.after hb V0; replace hr := Rr.after hb hr; replace B0 := step B0 hb; replace hgB := Nat.lt_of_lt_of_le hgB hb.size; clear hb; refine hK.out _ _ ⟨⟨V1.c0, V1.c1⟩, V2.d0, V2.d1, V2.d2⟩ (fun hHeld => ?_); clear hK K; have c_VG := VG.d0; have f0_VG := VG.frozen 0; have d_VG := VG.d1; have f1_VG := VG.frozen 1; have e_VG := VG.d2; have f2_VG := VG.frozen 2; have l_VG := VG.lt; have m_VG := Nat.le_of_lt l_VG; refine wpAnyH_ready (rs := [13]) (by kernel_rfl) (by simp) ?_; refine AllReadyH.cons rfl (fun K hK => ?_) AllReadyH.nil; simp only [gA, gB, gC]; (go_simp); clear c_VG f0_VG d_VG f1_VG e_VG f2_VG l_VG m_VG; refine sto3 VG (.bool s') (.slice a' l' c') (.slice b' m' d') (Q := fun W => K _ W) ?_; intro xz V' oth far; replace V1 := oth _ _ _ (by omega) V1; replace V2 := oth _ _ _ (by omega) V2; replace V0 := oth _ _ _ (by omega) V0; replace hr := hr.far VG (noInt3 _ _ _ _ _ _ _) far.1; replace B0 := far.2 _ _ (by omega) B0; replace VG := V'
          clear oth far V'; refine hK.out _ _ ⟨⟨V1.c0, V1.c1⟩, V2.d0, V2.d1, V2.d2⟩ (fun hHeld => ?_); clear hK K; refine wpAnyH_done (by kernel_rfl) ?_ _; refine NoPanic.normal ?_; clear hHeld; (try go_wp2_with fail)
          go_meet
          exact ⟨_, s', a', l', c', zs', b', m', d', ys', rfl, hgg, VG, hr, V0, B0⟩
        ·
          simp only [gA, gB, gC]; (go_simp); refine ent1 x5 _ _ (Q := fun V => K _ V) ?_; intro x8 hb hsz VG; clear hsz; (have hgg : w.heap.size + 3 ≤ x5.heap.size := by omega); replace V1 := Va.after hb V1; replace V2 := Va.after hb V2; replace V0 := Va.after hb V0; replace hy := Sl.after hb hy; replace h3 := Sl.after hb h3; replace B0 := step B0 hb; replace hgB := Nat.lt_of_lt_of_le hgB hb.size; clear hb; refine hK.out _ _ ⟨⟨V1.c0, V1.c1⟩, V2.d0, V2.d1, V2.d2⟩ (fun hHeld => ?_); clear hK K; refine wpAnyH_ready (rs := [11]) (by kernel_rfl) (by simp) ?_; refine AllReadyH.cons rfl (fun K hK => ?_) AllReadyH.nil; simp only [gA, gB, gC]; (go_simp); refine (rlow9 neg a3 ad m3 c3 ld cd z3 ys _ h3 hy hc3 hyc (by omega) (by omega) (by omega) (Nat.le_trans (usedN_le _) (by rw [hy.1]; omega)) H0.out).mono ?_; rintro e x9 ⟨s', a', l', c', zs', b', m', d', ys', rfl, hr, -, -, hb⟩; replace V1 := Va.after hb V1; replace V2 := Va.after hb V2; replace V0 := Va.after hb V0
          replace VG := Va.after hb VG; replace B0 := step B0 hb; replace hgB := Nat.lt_of_lt_of_le hgB hb.size; clear hb; rw [minor_val hn3 H0.out, HV.out] at hr; clear h3 hy hn3 hu3; (try go_wp2_with fail); refine hK.out _ _ ⟨⟨V1.c0, V1.c1⟩, V2.d0, V2.d1, V2.d2⟩ (fun hHeld => ?_); clear hK K; have c_VG := VG.d0; have f0_VG := VG.frozen 0; have d_VG := VG.d1; have f1_VG := VG.frozen 1; have e_VG := VG.d2; have f2_VG := VG.frozen 2; have l_VG := VG.lt; have m_VG := Nat.le_of_lt l_VG; refine wpAnyH_ready (rs := [13]) (by kernel_rfl) (by simp) ?_; refine AllReadyH.cons rfl (fun K hK => ?_) AllReadyH.nil; simp only [gA, gB, gC]; (go_simp); clear c_VG f0_VG d_VG f1_VG e_VG f2_VG l_VG m_VG; refine sto3 VG (.bool s') (.slice a' l' c') (.slice b' m' d') (Q := fun W => K _ W) ?_; intro xz V' oth far; replace V1 := oth _ _ _ (by omega) V1; replace V2 := oth _ _ _ (by omega) V2; replace V0 := oth _ _ _ (by omega) V0; replace hr := hr.far VG (noInt3 _ _ _ _ _ _ _) far.1
          replace B0 := far.2 _ _ (by omega) B0; replace VG := V'; clear oth far V'; refine hK.out _ _ ⟨⟨V1.c0, V1.c1⟩, V2.d0, V2.d1, V2.d2⟩ (fun hHeld => ?_); clear hK K; refine wpAnyH_done (by kernel_rfl) ?_ _; refine NoPanic.normal ?_; clear hHeld; (try go_wp2_with fail)
          go_meet
          exact ⟨_, s', a', l', c', zs', b', m', d', ys', rfl, hgg, VG, hr, V0, B0⟩
      ·
        simp only [gA, gB, gC]; (go_simp); refine ent1 x4 _ _ (Q := fun V => K _ V) ?_; intro x10 hb hsz VG; clear hsz; (have hgg : w.heap.size + 3 ≤ x4.heap.size := by omega); replace V1 := Va.after hb V1; replace V2 := Va.after hb V2; replace V0 := Va.after hb V0; replace hx := Sl.after hb hx; replace hy := Sl.after hb hy; replace h2 := Sl.after hb h2; replace B0 := step B0 hb; replace hgB := Nat.lt_of_lt_of_le hgB hb.size; clear hb; refine hK.out _ _ ⟨⟨V1.c0, V1.c1⟩, V2.d0, V2.d1, V2.d2⟩ (fun hHeld => ?_); clear hK K; refine wpAnyH_ready (rs := [7]) (by kernel_rfl) (by simp) ?_; refine AllReadyH.cons rfl (fun K hK => ?_) AllReadyH.nil; simp only [gA, gB, gC]; (go_simp); refine (rmul_any an a2 ln cn m2 c2 xs z2 _ hx h2 (by omega) (by omega)).mono ?_; rintro e x11 ⟨a3, m3, c3, z3, rfl, hc3, hm3, h3, hu3, hn3, hb⟩; replace V1 := Va.after hb V1; replace V2 := Va.after hb V2; replace V0 := Va.after hb V0; replace hy := Sl.after hb hy; replace VG := Va.after hb VG
        replace B0 := step B0 hb; replace hgB := Nat.lt_of_lt_of_le hgB hb.size; clear hb; rw [hn2] at hn3; clear hx h2 hu2 hn2; (try go_wp2_with fail); refine hK.out _ _ ⟨⟨V1.c0, V1.c1⟩, V2.d0, V2.d1, V2.d2⟩ (fun hHeld => ?_); clear hK K; refine tk 10 rfl hHeld ?_; simp only [gA, gB, gC, Act.put, gD, gE, gF]; refine wpAnyH_ready (rs := [11]) (by kernel_rfl) (by simp) ?_; refine AllReadyH.cons rfl (fun K hK => ?_) AllReadyH.nil; simp only [gA, gB, gC]; (go_simp); refine (rlow9 neg a3 ad m3 c3 ld cd z3 ys _ h3 hy hc3 hyc (by omega) (by omega) (by omega) (Nat.le_trans (usedN_le _) (by rw [hy.1]; omega)) H0.out).mono ?_; rintro e x12 ⟨s', a', l', c', zs', b', m', d', ys', rfl, hr, -, -, hb⟩; replace V1 := Va.after hb V1; replace V2 := Va.after hb V2; replace V0 := Va.after hb V0; replace VG := Va.after hb VG; replace B0 := step B0 hb; replace hgB := Nat.lt_of_lt_of_le hgB hb.size; clear hb; rw [minor_val hn3 H0.out, HV.out] at hr; clear h3 hy hn3 hu3
        (try go_wp2_with fail); refine hK.out _ _ ⟨⟨V1.c0, V1.c1⟩, V2.d0, V2.d1, V2.d2⟩ (fun hHeld => ?_); clear hK K; have c_VG := VG.d0; have f0_VG := VG.frozen 0; have d_VG := VG.d1; have f1_VG := VG.frozen 1; have e_VG := VG.d2; have f2_VG := VG.frozen 2; have l_VG := VG.lt; have m_VG := Nat.le_of_lt l_VG; refine wpAnyH_ready (rs := [13]) (by kernel_rfl) (by simp) ?_; refine AllReadyH.cons rfl (fun K hK => ?_) AllReadyH.nil; simp only [gA, gB, gC]; (go_simp); clear c_VG f0_VG d_VG f1_VG e_VG f2_VG l_VG m_VG; refine sto3 VG (.bool s') (.slice a' l' c') (.slice b' m' d') (Q := fun W => K _ W) ?_; intro xz V' oth far; replace V1 := oth _ _ _ (by omega) V1; replace V2 := oth _ _ _ (by omega) V2; replace V0 := oth _ _ _ (by omega) V0; replace hr := hr.far VG (noInt3 _ _ _ _ _ _ _) far.1; replace B0 := far.2 _ _ (by omega) B0; replace VG := V'; clear oth far V'; refine hK.out _ _ ⟨⟨V1.c0, V1.c1⟩, V2.d0, V2.d1, V2.d2⟩ (fun hHeld => ?_); clear hK K; refine wpAnyH_done (by kernel_rfl) ?_ _
        refine NoPanic.normal ?_; clear hHeld; (try go_wp2_with fail)
        go_meet
        exact ⟨_, s', a', l', c', zs', b', m', d', ys', rfl, hgg, VG, hr, V0, B0⟩
    ·
      simp only [gA, gB, gC]; (go_simp); refine ent1 x3 _ _ (Q := fun V => K _ V) ?_; intro x13 hb hsz VG; clear hsz; (have hgg : w.heap.size + 3 ≤ x3.heap.size := by omega); replace V1 := Va.after hb V1; replace V2 := Va.after hb V2; replace V0 := Va.after hb V0; replace hx := Sl.after hb hx; replace hy := Sl.after hb hy; replace B0 := step B0 hb; replace hgB := Nat.lt_of_lt_of_le hgB hb.size; clear hb; refine hK.out _ _ ⟨⟨V1.c0, V1.c1⟩, V2.d0, V2.d1, V2.d2⟩ (fun hHeld => ?_); clear hK K; refine wpAnyH_ready (rs := [6]) (by kernel_rfl) (by simp) ?_; refine AllReadyH.cons rfl (fun K hK => ?_) AllReadyH.nil; simp only [gA, gB, gC]; (go_simp); refine (rten9m D (by omega) _).mono ?_; rintro e x14 ⟨a2, m2, c2, z2, rfl, hc2, hm2, h2, hu2, hn2, hb⟩; replace V1 := Va.after hb V1; replace V2 := Va.after hb V2; replace V0 := Va.after hb V0; replace hx := Sl.after hb hx; replace hy := Sl.after hb hy; replace VG := Va.after hb VG; replace B0 := step B0 hb; replace hgB := Nat.lt_of_lt_of_le hgB hb.size
      clear hb; (try go_wp2_with fail); refine hK.out _ _ ⟨⟨V1.c0, V1.c1⟩, V2.d0, V2.d1, V2.d2⟩ (fun hHeld => ?_); clear hK K; refine wpAnyH_ready (rs := [7]) (by kernel_rfl) (by simp) ?_; refine AllReadyH.cons rfl (fun K hK => ?_) AllReadyH.nil; simp only [gA, gB, gC]; (go_simp); refine (rmul_any an a2 ln cn m2 c2 xs z2 _ hx h2 (by omega) (by omega)).mono ?_; rintro e x15 ⟨a3, m3, c3, z3, rfl, hc3, hm3, h3, hu3, hn3, hb⟩; replace V1 := Va.after hb V1; replace V2 := Va.after hb V2; replace V0 := Va.after hb V0; replace hy := Sl.after hb hy; replace VG := Va.after hb VG; replace B0 := step B0 hb; replace hgB := Nat.lt_of_lt_of_le hgB hb.size; clear hb; rw [hn2] at hn3; clear hx h2 hu2 hn2; (try go_wp2_with fail); refine hK.out _ _ ⟨⟨V1.c0, V1.c1⟩, V2.d0, V2.d1, V2.d2⟩ (fun hHeld => ?_); clear hK K; refine tk 10 rfl hHeld ?_; simp only [gA, gB, gC, Act.put, gD, gE, gF]; refine wpAnyH_ready (rs := [11]) (by kernel_rfl) (by simp) ?_; refine AllReadyH.cons rfl (fun K hK => ?_) AllReadyH.nil
      simp only [gA, gB, gC]; (go_simp); refine (rlow9 neg a3 ad m3 c3 ld cd z3 ys _ h3 hy hc3 hyc (by omega) (by omega) (by omega) (Nat.le_trans (usedN_le _) (by rw [hy.1]; omega)) H0.out).mono ?_; rintro e x16 ⟨s', a', l', c', zs', b', m', d', ys', rfl, hr, -, -, hb⟩; replace V1 := Va.after hb V1; replace V2 := Va.after hb V2; replace V0 := Va.after hb V0; replace VG := Va.after hb VG; replace B0 := step B0 hb; replace hgB := Nat.lt_of_lt_of_le hgB hb.size; clear hb; rw [minor_val hn3 H0.out, HV.out] at hr; clear h3 hy hn3 hu3; (try go_wp2_with fail); refine hK.out _ _ ⟨⟨V1.c0, V1.c1⟩, V2.d0, V2.d1, V2.d2⟩ (fun hHeld => ?_); clear hK K; have c_VG := VG.d0; have f0_VG := VG.frozen 0; have d_VG := VG.d1; have f1_VG := VG.frozen 1; have e_VG := VG.d2; have f2_VG := VG.frozen 2; have l_VG := VG.lt; have m_VG := Nat.le_of_lt l_VG; refine wpAnyH_ready (rs := [13]) (by kernel_rfl) (by simp) ?_; refine AllReadyH.cons rfl (fun K hK => ?_) AllReadyH.nil
      simp only [gA, gB, gC]; (go_simp); clear c_VG f0_VG d_VG f1_VG e_VG f2_VG l_VG m_VG; refine sto3 VG (.bool s') (.slice a' l' c') (.slice b' m' d') (Q := fun W => K _ W) ?_; intro xz V' oth far; replace V1 := oth _ _ _ (by omega) V1; replace V2 := oth _ _ _ (by omega) V2; replace V0 := oth _ _ _ (by omega) V0; replace hr := hr.far VG (noInt3 _ _ _ _ _ _ _) far.1; replace B0 := far.2 _ _ (by omega) B0; replace VG := V'; clear oth far V'; refine hK.out _ _ ⟨⟨V1.c0, V1.c1⟩, V2.d0, V2.d1, V2.d2⟩ (fun hHeld => ?_); clear hK K; refine wpAnyH_done (by kernel_rfl) ?_ _; refine NoPanic.normal ?_; clear hHeld; (try go_wp2_with fail)
      go_meet
      exact ⟨_, s', a', l', c', zs', b', m', d', ys', rfl, hgg, VG, hr, V0, B0⟩
  case rest =>
    clear V1 V2 V0 hx hy B0; obtain ⟨g, s', a', l', c', zs', b', m', d', ys', rfl, hg3, HVG, HR, HV0, HB⟩ := hcut; have VG := HVG.out; have V0 := HV0.out; have hr := HR.out; have B0 := HB.out; have hsh := lens_short hr; have HSH : Hid ((l' ≤ 1024 ∧ m' ≤ 1024) ↔ Short V) := hsh; clear HVG HV0 HR HB hsh; have c_VG := VG.d0; have f0_VG := VG.frozen 0; have d_VG := VG.d1; have f1_VG := VG.frozen 1; have e_VG := VG.d2; have f2_VG := VG.frozen 2; have l_VG := VG.lt; have m_VG := Nat.le_of_lt l_VG; have c_V0 := V0.d0; have f0_V0 := V0.frozen 0; have d_V0 := V0.d1; have f1_V0 := V0.frozen 1; have e_V0 := V0.d2; have f2_V0 := V0.frozen 2; have l_V0 := V0.lt; have m_V0 := Nat.le_of_lt l_V0
    by_cases g1 : 1024 < l'
    · have g1i : (1024 : Int) < l' := by omega
      have g1n : decide (1024 < l') = true := decide_eq_true g1; (go_wp2_with fail); refine bodyPost_ret (results_rat9 rfl rfl (V0.set3 _ _ _)) rfl ?_; exact ⟨.inr ⟨fun h => by have := HSH.out.2 h; omega, rfl⟩, belo3 B0 (by omega) _ _ _⟩
    (have g1i : ¬ (1024 : Int) < l' := by omega); have g1n : decide (1024 < l') = false := decide_eq_false g1
    by_cases g2 : 1024 < m'
    · have g2i : (1024 : Int) < m' := by omega
      have g2n : decide (1024 < m') = true := decide_eq_true g2; (go_wp2_with fail); refine bodyPost_ret (results_rat9 rfl rfl (V0.set3 _ _ _)) rfl ?_; exact ⟨.inr ⟨fun h => by have := HSH.out.2 h; omega, rfl⟩, belo3 B0 (by omega) _ _ _⟩
    (have g2i : ¬ (1024 : Int) < m' := by omega); have g2n : decide (1024 < m') = false := decide_eq_false g2; (go_wp2_with fail); refine bodyPost_ret (results_rat9 rfl rfl (V0.set3 _ _ _)) rfl ?_; exact ⟨.inl ⟨HSH.out.1 ⟨by omega, by omega⟩, s', a', l', c', zs', b', m', d', ys', rfl, hr.far V0 (noInt3 _ _ _ _ _ _ _) (fa3 _ _ _ _ _)⟩, belo3 B0 (by omega) _ _ _⟩
set_option maxHeartbeats 4000000 in
theorem rminor9_no (nm : List UInt8) (D : Int) (neg : Bool) (an ad : Option Addr) (ln cn ld cd : Nat) (w : World) (hC : ¬ Cur nm D) :
    Calls Tryz.prog 43 #[.agg #[.string ⟨nm.toArray⟩, .int .i64 D], .agg #[.bool neg, .slice an ln cn, .slice ad ld cd]] w fun e w' => e = .returned (.tuple #[.agg #[.bool false, .slice none 0 0, .slice none 0 0], .int .i64 90]) ∧ Below w.heap.size w w' := by
  have HC : Hid (¬ Cur nm D) := hC
  clear hC
  have B0 : Below w.heap.size w w := Below.refl _ _
  go_enter Tryz.func43, Tryz.ntmps43
  go_wp2_with fail
  refine ent3 w _ _ _ _ _ _ (Q := fun W => Calls Tryz.prog _ _ W _) ?_
  intro x1 hb hs_x1 V1 V2 V0
  replace B0 := step B0 hb
  clear hb hs_x1
  refine (rcheck9_no nm D HC.out _).mono ?_
  rintro e x2 ⟨rfl, hb⟩
  replace V0 := Va.after hb V0
  replace B0 := step B0 hb
  clear hb
  have c_V0 := V0.d0
  have f0_V0 := V0.frozen 0
  have d_V0 := V0.d1
  have f1_V0 := V0.frozen 1
  have e_V0 := V0.d2
  have f2_V0 := V0.frozen 2
  have l_V0 := V0.lt
  have m_V0 := Nat.le_of_lt l_V0
  go_wp2_with fail
  refine bodyPost_ret (results_rat9 rfl rfl (V0.set3 _ _ _)) rfl ?_
  exact ⟨rfl, belo3 B0 (by omega) _ _ _⟩
end Go.Proofs.YtebbblhafjaaiaaGreatDoor
