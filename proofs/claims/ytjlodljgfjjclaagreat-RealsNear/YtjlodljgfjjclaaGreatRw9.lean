/-
  The document's Add, Sub, Floor, Ceil, Compare, To for numbers of up to 4000 limbs.
-/
import Derived.Test.YtjlodljgfjjclaaGreatTk
import Derived.Test.YtjlodljgfjjclaaGreatAl
import Derived.Test.YtjlodljgfjjclaaGreatRw7
import Derived.Test.YtjlodljgfjjclaaGreatBtA
namespace Go.Proofs.YtjlodljgfjjclaaGreat
open Go.RowKit Go.Shelf
set_option linter.unusedVariables false

/-- What products of the parts of two numbers keep to. -/
def Fit3 (u v : Rat) : Prop := ∀ n, n = 4000 → (u.num.natAbs : Int) * (v.den : Int) < pw n ∧ (v.num.natAbs : Int) * (u.den : Int) < pw n ∧ (u.den : Int) * (v.den : Int) < pw n
theorem Fit3.neg {u v : Rat} (h : Fit3 u v) : Fit3 u (-v) := fun n e => by rw [Rat.neg_num, Rat.neg_den, Int.natAbs_neg]; exact h n e
theorem Rr.len9 {w : World} {s : Bool} {a : Option Addr} {l c : Nat} {zs : List Int} {b : Option Addr} {m d : Nat} {ys : List Int} {v : Rat} (h : Rr w s a l c zs b m d ys v) (hS : Sz 4000 v) : l ≤ 4000 ∧ m ≤ 4000 := by
  obtain ⟨h1, h2, h3, h4, -, h5, h6, -⟩ := h
  have p1 := num_nonneg h1.2.1
  refine ⟨?_, ?_⟩
  · have := used_of_lt (n := 4000) h1.2.1 (by
      have h7 := hS.1
      rw [← h5] at h7
      cases s
      · rw [iv_f] at h7; omega
      · rw [iv_t] at h7; omega)
    omega
  · have := used_of_lt (n := 4000) h2.2.1 (by rw [h6]; exact hS.2)
    omega
theorem natAbs_iv {s : Bool} {zs : List Int} {x : Int} (h : iv s zs = x) (p : 0 ≤ num zs) : num zs = (x.natAbs : Int) := by
  cases s
  · rw [iv_f] at h; omega
  · rw [iv_t] at h; omega
set_option maxHeartbeats 8000000 in
theorem radd9 (s1 : Bool) (a1 : Option Addr) (l1 c1 : Nat) (z1 : List Int) (b1 : Option Addr) (m1 d1 : Nat) (y1 : List Int) (v1 : Rat) (s2 : Bool) (a2 : Option Addr) (l2 c2 : Nat) (z2 : List Int) (b2 : Option Addr) (m2 d2 : Nat) (y2 : List Int) (v2 : Rat) (w : World) (h1 : Rr w s1 a1 l1 c1 z1 b1 m1 d1 y1 v1) (h2 : Rr w s2 a2 l2 c2 z2 b2 m2 d2 y2 v2) (t1 : Sz 4000 v1) (t2 : Sz 4000 v2) (t3 : Fit3 v1 v2) :
  Calls Tryz.prog 100 #[.agg #[.bool s1, .slice a1 l1 c1, .slice b1 m1 d1], .agg #[.bool s2, .slice a2 l2 c2, .slice b2 m2 d2]] w fun e w' => RrP w (v1 + v2) e w' := by
 obtain ⟨u1, u2⟩ := h1.len9 t1; obtain ⟨u3, u4⟩ := h2.len9 t2; have n1 := num_nonneg h1.1.2.1; have n2 := num_nonneg h2.1.2.1; have g1 := h1.2.2.2.2.2.1; have g2 := h2.2.2.2.2.2.1; have e1 : num y1 = v1.den := h1.2.2.2.2.2.2.1; have e2 : num y2 = v2.den := h2.2.2.2.2.2.2.1; have q1 : num z1 = (v1.num.natAbs : Int) := natAbs_iv g1 n1; have q2 : num z2 = (v2.num.natAbs : Int) := natAbs_iv g2 n2
 have HF : Hid (∀ X Y D : Int, X = num z1 * num y2 → Y = num z2 * num y1 → D = num y1 * num y2 → 0 ≤ X ∧ 0 ≤ Y ∧ X < pw 4000 ∧ Y < pw 4000 ∧ X + Y < pw 4096 ∧ D < pw 4096 ∧ D ≠ 0) := by
  intro X Y D hX hY hD; have p1 := v1.den_pos; have p2 := v2.den_pos; obtain ⟨f1, f2, f3⟩ := t3 4000 rfl; (have x1 : X < pw 4000 := by rw [hX, e2, q1]; exact f1); (have x2 : Y < pw 4000 := by rw [hY, e1, q2]; exact f2); (have x0 : 0 ≤ X := by rw [hX, e2]; exact Int.mul_nonneg n1 (by omega)); (have y0 : 0 ≤ Y := by rw [hY, e1]; exact Int.mul_nonneg n2 (by omega)); (have x3 : D < pw 4096 := by rw [hD, e1, e2]; exact Int.lt_of_lt_of_le f3 (pw_mono (by omega))); (have x4 : D ≠ 0 := by rw [hD, e1, e2]; exact Int.mul_ne_zero (by omega) (by omega)); have x5 := sz_sum2 (two_pw 4000) x1 x2; exact ⟨x0, y0, x1, x2, Int.lt_of_lt_of_le x5 (pw_mono (by omega)), x3, x4⟩
 have HV : Hid (iv s1 z1 = v1.num ∧ iv s2 z2 = v2.num ∧ num y1 = v1.den ∧ num y2 = v2.den) := ⟨g1, g2, e1, e2⟩; clear g1 g2 e1 e2 q1 q2 n1 n2; have B0 : Below w.heap.size w w := Below.refl _ _
 go_enter Tryz.func100, Tryz.ntmps100
 (go_wp2_with fail); refine ent3 w _ _ _ _ _ _ (Q := fun W => Calls Tryz.prog _ _ W _) ?_; intro x1 hb hs_x1 V0 V1 V2; replace h1 := Rr.after hb h1; replace h2 := Rr.after hb h2; replace B0 := step B0 hb; clear hb hs_x1; refine (rmul_any a1 b2 l1 c1 m2 d2 z1 y2 x1 h1.1 h2.2.1 (by omega) (by omega)).mono ?_; rintro e x2 ⟨ax, lx, cx, zx, rfl, kx, tx, hx, ux, ex, hb⟩; replace V0 := Va.after hb V0; replace V1 := Va.after hb V1; replace V2 := Va.after hb V2; replace h1 := Rr.after hb h1; replace h2 := Rr.after hb h2; replace B0 := step B0 hb; clear hb; have Nx : Hid (num zx = num z1 * num y2 ∧ usedN zx = lx) := ⟨ex, ux⟩; clear ex ux; have c_V0 := V0.d0; have f0_V0 := V0.frozen 0; have d_V0 := V0.d1; have f1_V0 := V0.frozen 1; have e_V0 := V0.d2; have f2_V0 := V0.frozen 2; have l_V0 := V0.lt; have m_V0 := Nat.le_of_lt l_V0; have c_V1 := V1.d0; have f0_V1 := V1.frozen 0; have d_V1 := V1.d1; have f1_V1 := V1.frozen 1; have e_V1 := V1.d2; have f2_V1 := V1.frozen 2
 have l_V1 := V1.lt; have m_V1 := Nat.le_of_lt l_V1; (go_wp2_with fail); refine (rmul_any a2 b1 l2 c2 m1 d1 z2 y1 x2 h2.1 h1.2.1 (by omega) (by omega)).mono ?_; rintro e x3 ⟨aw, lw, cw, zw, rfl, kw, tw, hw, uw, ew, hb⟩; replace V0 := Va.after hb V0; replace V1 := Va.after hb V1; replace V2 := Va.after hb V2; replace h1 := Rr.after hb h1; replace h2 := Rr.after hb h2; replace hx := Sl.after hb hx; replace B0 := step B0 hb; clear hb; have Nw : Hid (num zw = num z2 * num y1 ∧ usedN zw = lw) := ⟨ew, uw⟩; clear ew uw; clear c_V0 f0_V0 d_V0 f1_V0 e_V0 f2_V0 l_V0 m_V0 c_V1 f0_V1 d_V1 f1_V1 e_V1 f2_V1 l_V1 m_V1; have c_V0 := V0.d0; have f0_V0 := V0.frozen 0; have d_V0 := V0.d1; have f1_V0 := V0.frozen 1; have e_V0 := V0.d2; have f2_V0 := V0.frozen 2; have l_V0 := V0.lt; have m_V0 := Nat.le_of_lt l_V0; have c_V1 := V1.d0; have f0_V1 := V1.frozen 0; have d_V1 := V1.d1; have f1_V1 := V1.frozen 1; have e_V1 := V1.d2; have f2_V1 := V1.frozen 2; have l_V1 := V1.lt
 have m_V1 := Nat.le_of_lt l_V1; (go_wp2_with fail); refine (rmul_any b1 b2 m1 d1 m2 d2 y1 y2 x3 h1.2.1 h2.2.1 (by omega) (by omega)).mono ?_; rintro e x4 ⟨aE, lE, cE, zE, rfl, kE, tE, hE, uE, eE, hb⟩; replace V0 := Va.after hb V0; replace V1 := Va.after hb V1; replace V2 := Va.after hb V2; replace h1 := Rr.after hb h1; replace h2 := Rr.after hb h2; replace hx := Sl.after hb hx; replace hw := Sl.after hb hw; replace B0 := step B0 hb; clear hb; have NE : Hid (num zE = num y1 * num y2 ∧ usedN zE = lE) := ⟨eE, uE⟩; clear eE uE; have HG : Hid (0 ≤ num zx ∧ 0 ≤ num zw ∧ num zx < pw 4000 ∧ num zw < pw 4000 ∧ num zx + num zw < pw 4096 ∧ num zE < pw 4096 ∧ num zE ≠ 0) := HF.out _ _ _ Nx.out.1 Nw.out.1 NE.out.1; clear HF t1 t2 t3; have HUE : Hid (usedN zE ≤ 4096) := used_of_lt hE.2.1 HG.out.2.2.2.2.2.1
 by_cases hss : s1 = s2
 ·
  subst hss; (have dss : (s1 == s1) = true := by simp); clear c_V0 f0_V0 d_V0 f1_V0 e_V0 f2_V0 l_V0 m_V0 c_V1 f0_V1 d_V1 f1_V1 e_V1 f2_V1 l_V1 m_V1; have c_V0 := V0.d0; have f0_V0 := V0.frozen 0; have d_V0 := V0.d1; have f1_V0 := V0.frozen 1; have e_V0 := V0.d2; have f2_V0 := V0.frozen 2; have l_V0 := V0.lt; have m_V0 := Nat.le_of_lt l_V0; have c_V1 := V1.d0; have f0_V1 := V1.frozen 0; have d_V1 := V1.d1; have f1_V1 := V1.frozen 1; have e_V1 := V1.d2; have f2_V1 := V1.frozen 2; have l_V1 := V1.lt; have m_V1 := Nat.le_of_lt l_V1; (go_wp2_with fail); clear c_V0 f0_V0 d_V0 f1_V0 e_V0 f2_V0 l_V0 m_V0 c_V1 f0_V1 d_V1 f1_V1 e_V1 f2_V1 l_V1 m_V1; refine wp_region_noPanic ?_; replace V0 : Va x4.drew _ _ _ := V0; replace V1 : Va x4.drew _ _ _ := V1; replace V2 : Va x4.drew _ _ _ := V2; replace h1 := h1.drw; replace h2 := h2.drw; replace hx := hx.drw; replace hw := hw.drw; replace hE := hE.drw; replace B0 := Below.drew B0; refine wp_region_held_drew (S := (fun W => W.cell? ⟨w.heap.size, 0, none⟩ = some (.bool s1) ∧ W.cell? ⟨w.heap.size, 1, none⟩ = some (.slice a1 l1 c1) ∧ W.cell? ⟨w.heap.size, 2, none⟩ = some (.slice b1 m1 d1) ∧ W.cell? ⟨w.heap.size + 1, 0, none⟩ = some (.bool s1) ∧ W.cell? ⟨w.heap.size + 1, 1, none⟩ = some (.slice a2 l2 c2) ∧ W.cell? ⟨w.heap.size + 1, 2, none⟩ = some (.slice b2 m2 d2))) (by kernel_rfl) ⟨V0.d0, V0.d1, V0.d2, V1.d0, V1.d1, V1.d2⟩ (fun hHeld => ?_)
  (obtain ⟨x5, hxd⟩ : ∃ xd, xd = x4.drew := ⟨_, rfl⟩); rw [← hxd] at V0 V1 V2 h1 h2 hx hw hE B0 hHeld ⊢; clear hxd; refine tk 0 rfl hHeld ?_; simp only [gA, gB, Act.put, gD, gE, gF]; refine tk 1 rfl hHeld ?_; simp only [gA, gB, gC, Act.put, gD, gE, gF]; refine tk 2 rfl hHeld ?_; simp only [gA, gB, gC, Act.put, gD, gE, gF]; refine tk 3 rfl hHeld ?_; simp only [gA, gB, gC, Act.put, gD, gE, gF]; refine tk 5 rfl hHeld ?_; simp only [gA, gB, gC, Act.put, gD, gE, gF]; refine wpAnyH_ready (rs := [4]) (by kernel_rfl) (by simp) ?_; refine AllReadyH.cons rfl (fun K hK => ?_) AllReadyH.nil; simp only [gA, gB, gC]; (go_simp); refine (radd_any ax aw lx cx lw cw zx zw _ hx hw (by omega) (by omega)).mono ?_; rintro e x6 ⟨aS, lS, cS, zS, rfl, kS, tS, hS, uS, eS, hb⟩; replace V0 := Va.after hb V0; replace V1 := Va.after hb V1; replace V2 := Va.after hb V2; replace h1 := Rr.after hb h1; replace h2 := Rr.after hb h2; replace hx := Sl.after hb hx; replace hw := Sl.after hb hw
  replace hE := Sl.after hb hE; replace B0 := step B0 hb; clear hb; have HUS : Hid (usedN zS ≤ 4096) := used_of_lt hS.2.1 (by rw [eS]; exact HG.out.2.2.2.2.1); (try go_wp2_with fail); refine hK.out _ _ ⟨V0.d0, V0.d1, V0.d2, V1.d0, V1.d1, V1.d2⟩ (fun hHeld => ?_); clear hK K; refine wpAnyH_ready (rs := [6]) (by kernel_rfl) (by simp) ?_; refine AllReadyH.cons rfl (fun K hK => ?_) AllReadyH.nil; simp only [gA, gB, gC]; (go_simp); refine (rmake5 s1 aS aE lS cS lE cE zS zE _ hS hE kS kE (by omega) (by omega) HUS.out HUE.out HG.out.2.2.2.2.2.2).mono ?_; rintro e x7 ⟨s', a', l', c', zs', b', m', d', ys', rfl, h', _, _, hb⟩; replace V0 := Va.after hb V0; replace V1 := Va.after hb V1; replace V2 := Va.after hb V2; replace h1 := Rr.after hb h1; replace h2 := Rr.after hb h2; replace hx := Sl.after hb hx; replace hw := Sl.after hb hw; replace hE := Sl.after hb hE; replace hS := Sl.after hb hS; replace B0 := step B0 hb; clear hb; rw [add_val (v1 := v1) (v2 := v2) (by rw [← HV.out.1, ← HV.out.2.1, ← HV.out.2.2.1, ← HV.out.2.2.2]; have E1 := Nx.out.1; have E2 := Nw.out.1; cases s1 <;> simp only [iv_t, iv_f, eS, E1, E2] <;> grind) (by rw [NE.out.1, HV.out.2.2.1, HV.out.2.2.2])] at h'
  (try go_wp2_with fail); refine hK.out _ _ ⟨V0.d0, V0.d1, V0.d2, V1.d0, V1.d1, V1.d2⟩ (fun hHeld => ?_); clear hK K; have c_V2 := V2.d0; have f0_V2 := V2.frozen 0; have d_V2 := V2.d1; have f1_V2 := V2.frozen 1; have e_V2 := V2.d2; have f2_V2 := V2.frozen 2; have l_V2 := V2.lt; have m_V2 := Nat.le_of_lt l_V2; refine wpAnyH_ready (rs := [7]) (by kernel_rfl) (by simp) ?_; refine AllReadyH.cons rfl (fun K hK => ?_) AllReadyH.nil; simp only [gA, gB, gC]; (go_simp); clear c_V2 f0_V2 d_V2 f1_V2 e_V2 f2_V2 l_V2 m_V2; refine sto3 V2 (.bool s') (.slice a' l' c') (.slice b' m' d') (Q := fun W => K _ W) ?_; intro x8 V' oth far; replace V0 := oth _ _ _ (by first | omega | assumption | (simp; omega)) V0; replace V1 := oth _ _ _ (by first | omega | assumption | (simp; omega)) V1; replace h1 := h1.far V2 (noInt3 _ _ _ _ _ _ _) far.1; replace h2 := h2.far V2 (noInt3 _ _ _ _ _ _ _) far.1; replace hx := hx.far V2 (noInt3 _ _ _ _ _ _ _) far.1; replace hw := hw.far V2 (noInt3 _ _ _ _ _ _ _) far.1
  replace hE := hE.far V2 (noInt3 _ _ _ _ _ _ _) far.1; replace hS := hS.far V2 (noInt3 _ _ _ _ _ _ _) far.1; replace h' := h'.far V2 (noInt3 _ _ _ _ _ _ _) far.1; replace B0 := far.2 _ _ (by first | omega | (simp; omega)) B0; replace V2 := V'; clear oth far; refine hK.out _ _ ⟨V0.d0, V0.d1, V0.d2, V1.d0, V1.d1, V1.d2⟩ (fun hHeld => ?_); clear hK K; refine wpAnyH_done (by kernel_rfl) ?_ _; refine NoPanic.normal ?_; clear hHeld; (go_wp2_with fail); refine bodyPost_ret (results_ra rfl rfl V2) rfl ?_; exact ⟨s', a', l', c', zs', b', m', d', ys', rfl, h', B0⟩
 ·
  (have hs2 : s2 = !s1 := by cases s1 <;> cases s2 <;> simp_all); subst hs2; (have dss : (s1 == !s1) = false := by cases s1 <;> rfl); clear hss; clear c_V0 f0_V0 d_V0 f1_V0 e_V0 f2_V0 l_V0 m_V0 c_V1 f0_V1 d_V1 f1_V1 e_V1 f2_V1 l_V1 m_V1; have c_V0 := V0.d0; have f0_V0 := V0.frozen 0; have d_V0 := V0.d1; have f1_V0 := V0.frozen 1; have e_V0 := V0.d2; have f2_V0 := V0.frozen 2; have l_V0 := V0.lt; have m_V0 := Nat.le_of_lt l_V0; have c_V1 := V1.d0; have f0_V1 := V1.frozen 0; have d_V1 := V1.d1; have f1_V1 := V1.frozen 1; have e_V1 := V1.d2; have f2_V1 := V1.frozen 2; have l_V1 := V1.lt; have m_V1 := Nat.le_of_lt l_V1; (go_wp2_with fail); refine (rcompare_n ax aw lx cx lw cw zx zw x4 hx hw (by omega) (by omega) kx kw).mono ?_; rintro e x5 ⟨rfl, hb⟩; replace V0 := Va.after hb V0; replace V1 := Va.after hb V1; replace V2 := Va.after hb V2; replace h1 := Rr.after hb h1; replace h2 := Rr.after hb h2; replace hx := Sl.after hb hx; replace hw := Sl.after hb hw
  replace hE := Sl.after hb hE; replace B0 := step B0 hb; clear hb
  by_cases hlt : num zx < num zw
  ·
   rw [cmp3_lt hlt]; have HLT : Hid (num zx < num zw) := hlt; clear hlt; clear c_V0 f0_V0 d_V0 f1_V0 e_V0 f2_V0 l_V0 m_V0 c_V1 f0_V1 d_V1 f1_V1 e_V1 f2_V1 l_V1 m_V1; have c_V0 := V0.d0; have f0_V0 := V0.frozen 0; have d_V0 := V0.d1; have f1_V0 := V0.frozen 1; have e_V0 := V0.d2; have f2_V0 := V0.frozen 2; have l_V0 := V0.lt; have m_V0 := Nat.le_of_lt l_V0; have c_V1 := V1.d0; have f0_V1 := V1.frozen 0; have d_V1 := V1.d1; have f1_V1 := V1.frozen 1; have e_V1 := V1.d2; have f2_V1 := V1.frozen 2; have l_V1 := V1.lt; have m_V1 := Nat.le_of_lt l_V1; (go_wp2_with fail); clear c_V0 f0_V0 d_V0 f1_V0 e_V0 f2_V0 l_V0 m_V0 c_V1 f0_V1 d_V1 f1_V1 e_V1 f2_V1 l_V1 m_V1; refine wp_region_noPanic ?_; replace V0 : Va x5.drew _ _ _ := V0; replace V1 : Va x5.drew _ _ _ := V1; replace V2 : Va x5.drew _ _ _ := V2; replace h1 := h1.drw; replace h2 := h2.drw; replace hx := hx.drw; replace hw := hw.drw; replace hE := hE.drw; replace B0 := Below.drew B0; refine wp_region_held_drew (S := (fun W => W.cell? ⟨w.heap.size, 0, none⟩ = some (.bool s1) ∧ W.cell? ⟨w.heap.size, 1, none⟩ = some (.slice a1 l1 c1) ∧ W.cell? ⟨w.heap.size, 2, none⟩ = some (.slice b1 m1 d1) ∧ W.cell? ⟨w.heap.size + 1, 0, none⟩ = some (.bool (!s1)) ∧ W.cell? ⟨w.heap.size + 1, 1, none⟩ = some (.slice a2 l2 c2) ∧ W.cell? ⟨w.heap.size + 1, 2, none⟩ = some (.slice b2 m2 d2))) (by kernel_rfl) ⟨V0.d0, V0.d1, V0.d2, V1.d0, V1.d1, V1.d2⟩ (fun hHeld => ?_)
   (obtain ⟨x6, hxd⟩ : ∃ xd, xd = x5.drew := ⟨_, rfl⟩); rw [← hxd] at V0 V1 V2 h1 h2 hx hw hE B0 hHeld ⊢; clear hxd; refine tk 0 rfl hHeld ?_; simp only [gA, gB, Act.put, gD, gE, gF]; refine tk 1 rfl hHeld ?_; simp only [gA, gB, gC, Act.put, gD, gE, gF]; refine tk 2 rfl hHeld ?_; simp only [gA, gB, gC, Act.put, gD, gE, gF]; refine tk 3 rfl hHeld ?_; simp only [gA, gB, gC, Act.put, gD, gE, gF]; refine tk 5 rfl hHeld ?_; simp only [gA, gB, gC, Act.put, gD, gE, gF]; refine wpAnyH_ready (rs := [4]) (by kernel_rfl) (by simp) ?_; refine AllReadyH.cons rfl (fun K hK => ?_) AllReadyH.nil; simp only [gA, gB, gC]; (go_simp); refine (rsub_any aw ax lw cw lx cx zw zx _ hw hx (by omega) (by omega) (Int.le_of_lt HLT.out)).mono ?_; rintro e x7 ⟨aS, lS, cS, zS, rfl, kS, tS, hS, uS, eS, hb⟩; replace V0 := Va.after hb V0; replace V1 := Va.after hb V1; replace V2 := Va.after hb V2; replace h1 := Rr.after hb h1; replace h2 := Rr.after hb h2; replace hx := Sl.after hb hx
   replace hw := Sl.after hb hw; replace hE := Sl.after hb hE; replace B0 := step B0 hb; clear hb; have HUS : Hid (usedN zS ≤ 4096) := used_of_lt hS.2.1 (by rw [eS]; have := HG.out.1; exact Int.lt_of_lt_of_le (Int.lt_of_le_of_lt (by omega) HG.out.2.2.2.1) (pw_mono (by omega))); (try go_wp2_with fail); refine hK.out _ _ ⟨V0.d0, V0.d1, V0.d2, V1.d0, V1.d1, V1.d2⟩ (fun hHeld => ?_); clear hK K; refine wpAnyH_ready (rs := [6]) (by kernel_rfl) (by simp) ?_; refine AllReadyH.cons rfl (fun K hK => ?_) AllReadyH.nil; simp only [gA, gB, gC]; (go_simp); refine (rmake5 (!s1) aS aE lS cS lE cE zS zE _ hS hE kS kE (by omega) (by omega) HUS.out HUE.out HG.out.2.2.2.2.2.2).mono ?_; rintro e x8 ⟨s', a', l', c', zs', b', m', d', ys', rfl, h', _, _, hb⟩; replace V0 := Va.after hb V0; replace V1 := Va.after hb V1; replace V2 := Va.after hb V2; replace h1 := Rr.after hb h1; replace h2 := Rr.after hb h2; replace hx := Sl.after hb hx; replace hw := Sl.after hb hw
   replace hE := Sl.after hb hE; replace hS := Sl.after hb hS; replace B0 := step B0 hb; clear hb; rw [add_val (v1 := v1) (v2 := v2) (by rw [← HV.out.1, ← HV.out.2.1, ← HV.out.2.2.1, ← HV.out.2.2.2]; have E1 := Nx.out.1; have E2 := Nw.out.1; cases s1 <;> simp only [iv_t, iv_f, eS, E1, E2, Bool.not_false, Bool.not_true] <;> grind) (by rw [NE.out.1, HV.out.2.2.1, HV.out.2.2.2])] at h'; (try go_wp2_with fail); refine hK.out _ _ ⟨V0.d0, V0.d1, V0.d2, V1.d0, V1.d1, V1.d2⟩ (fun hHeld => ?_); clear hK K; have c_V2 := V2.d0; have f0_V2 := V2.frozen 0; have d_V2 := V2.d1; have f1_V2 := V2.frozen 1; have e_V2 := V2.d2; have f2_V2 := V2.frozen 2; have l_V2 := V2.lt; have m_V2 := Nat.le_of_lt l_V2; refine wpAnyH_ready (rs := [7]) (by kernel_rfl) (by simp) ?_; refine AllReadyH.cons rfl (fun K hK => ?_) AllReadyH.nil; simp only [gA, gB, gC]; (go_simp); clear c_V2 f0_V2 d_V2 f1_V2 e_V2 f2_V2 l_V2 m_V2; refine sto3 V2 (.bool s') (.slice a' l' c') (.slice b' m' d') (Q := fun W => K _ W) ?_
   intro x9 V' oth far; replace V0 := oth _ _ _ (by first | omega | assumption | (simp; omega)) V0; replace V1 := oth _ _ _ (by first | omega | assumption | (simp; omega)) V1; replace h1 := h1.far V2 (noInt3 _ _ _ _ _ _ _) far.1; replace h2 := h2.far V2 (noInt3 _ _ _ _ _ _ _) far.1; replace hx := hx.far V2 (noInt3 _ _ _ _ _ _ _) far.1; replace hw := hw.far V2 (noInt3 _ _ _ _ _ _ _) far.1; replace hE := hE.far V2 (noInt3 _ _ _ _ _ _ _) far.1; replace hS := hS.far V2 (noInt3 _ _ _ _ _ _ _) far.1; replace h' := h'.far V2 (noInt3 _ _ _ _ _ _ _) far.1; replace B0 := far.2 _ _ (by first | omega | (simp; omega)) B0; replace V2 := V'; clear oth far; refine hK.out _ _ ⟨V0.d0, V0.d1, V0.d2, V1.d0, V1.d1, V1.d2⟩ (fun hHeld => ?_); clear hK K; refine wpAnyH_done (by kernel_rfl) ?_ _; refine NoPanic.normal ?_; clear hHeld; (go_wp2_with fail); refine bodyPost_ret (results_ra rfl rfl V2) rfl ?_; exact ⟨s', a', l', c', zs', b', m', d', ys', rfl, h', B0⟩
  ·
   have HLT : Hid (num zw ≤ num zx) := Int.not_lt.1 hlt; (have hc0 : ¬ cmp3 (num zx) (num zw) < 0 := by unfold cmp3; split <;> first | omega | (split <;> omega)); (obtain ⟨q, hq⟩ : ∃ q, cmp3 (num zx) (num zw) = q := ⟨_, rfl⟩); rw [hq] at hc0 ⊢; clear hq hlt; clear c_V0 f0_V0 d_V0 f1_V0 e_V0 f2_V0 l_V0 m_V0 c_V1 f0_V1 d_V1 f1_V1 e_V1 f2_V1 l_V1 m_V1; have c_V0 := V0.d0; have f0_V0 := V0.frozen 0; have d_V0 := V0.d1; have f1_V0 := V0.frozen 1; have e_V0 := V0.d2; have f2_V0 := V0.frozen 2; have l_V0 := V0.lt; have m_V0 := Nat.le_of_lt l_V0; have c_V1 := V1.d0; have f0_V1 := V1.frozen 0; have d_V1 := V1.d1; have f1_V1 := V1.frozen 1; have e_V1 := V1.d2; have f2_V1 := V1.frozen 2; have l_V1 := V1.lt; have m_V1 := Nat.le_of_lt l_V1; (go_wp2_with fail); clear c_V0 f0_V0 d_V0 f1_V0 e_V0 f2_V0 l_V0 m_V0 c_V1 f0_V1 d_V1 f1_V1 e_V1 f2_V1 l_V1 m_V1; refine wp_region_noPanic ?_; replace V0 : Va x5.drew _ _ _ := V0; replace V1 : Va x5.drew _ _ _ := V1; replace V2 : Va x5.drew _ _ _ := V2
   replace h1 := h1.drw; replace h2 := h2.drw; replace hx := hx.drw; replace hw := hw.drw; replace hE := hE.drw; replace B0 := Below.drew B0; refine wp_region_held_drew (S := (fun W => W.cell? ⟨w.heap.size, 0, none⟩ = some (.bool s1) ∧ W.cell? ⟨w.heap.size, 1, none⟩ = some (.slice a1 l1 c1) ∧ W.cell? ⟨w.heap.size, 2, none⟩ = some (.slice b1 m1 d1) ∧ W.cell? ⟨w.heap.size + 1, 0, none⟩ = some (.bool (!s1)) ∧ W.cell? ⟨w.heap.size + 1, 1, none⟩ = some (.slice a2 l2 c2) ∧ W.cell? ⟨w.heap.size + 1, 2, none⟩ = some (.slice b2 m2 d2))) (by kernel_rfl) ⟨V0.d0, V0.d1, V0.d2, V1.d0, V1.d1, V1.d2⟩ (fun hHeld => ?_); (obtain ⟨x6, hxd⟩ : ∃ xd, xd = x5.drew := ⟨_, rfl⟩); rw [← hxd] at V0 V1 V2 h1 h2 hx hw hE B0 hHeld ⊢; clear hxd; refine tk 0 rfl hHeld ?_; simp only [gA, gB, Act.put, gD, gE, gF]; refine tk 1 rfl hHeld ?_; simp only [gA, gB, gC, Act.put, gD, gE, gF]; refine tk 2 rfl hHeld ?_; simp only [gA, gB, gC, Act.put, gD, gE, gF]
   refine tk 3 rfl hHeld ?_; simp only [gA, gB, gC, Act.put, gD, gE, gF]; refine tk 5 rfl hHeld ?_; simp only [gA, gB, gC, Act.put, gD, gE, gF]; refine wpAnyH_ready (rs := [4]) (by kernel_rfl) (by simp) ?_; refine AllReadyH.cons rfl (fun K hK => ?_) AllReadyH.nil; simp only [gA, gB, gC]; (go_simp); refine (rsub_any ax aw lx cx lw cw zx zw _ hx hw (by omega) (by omega) HLT.out).mono ?_; rintro e x7 ⟨aS, lS, cS, zS, rfl, kS, tS, hS, uS, eS, hb⟩; replace V0 := Va.after hb V0; replace V1 := Va.after hb V1; replace V2 := Va.after hb V2; replace h1 := Rr.after hb h1; replace h2 := Rr.after hb h2; replace hx := Sl.after hb hx; replace hw := Sl.after hb hw; replace hE := Sl.after hb hE; replace B0 := step B0 hb; clear hb; have HUS : Hid (usedN zS ≤ 4096) := used_of_lt hS.2.1 (by rw [eS]; have := HG.out.2.1; exact Int.lt_of_lt_of_le (Int.lt_of_le_of_lt (by omega) HG.out.2.2.1) (pw_mono (by omega))); (try go_wp2_with fail); refine hK.out _ _ ⟨V0.d0, V0.d1, V0.d2, V1.d0, V1.d1, V1.d2⟩ (fun hHeld => ?_)
   clear hK K; refine wpAnyH_ready (rs := [6]) (by kernel_rfl) (by simp) ?_; refine AllReadyH.cons rfl (fun K hK => ?_) AllReadyH.nil; simp only [gA, gB, gC]; (go_simp); refine (rmake5 s1 aS aE lS cS lE cE zS zE _ hS hE kS kE (by omega) (by omega) HUS.out HUE.out HG.out.2.2.2.2.2.2).mono ?_; rintro e x8 ⟨s', a', l', c', zs', b', m', d', ys', rfl, h', _, _, hb⟩; replace V0 := Va.after hb V0; replace V1 := Va.after hb V1; replace V2 := Va.after hb V2; replace h1 := Rr.after hb h1; replace h2 := Rr.after hb h2; replace hx := Sl.after hb hx; replace hw := Sl.after hb hw; replace hE := Sl.after hb hE; replace hS := Sl.after hb hS; replace B0 := step B0 hb; clear hb; rw [add_val (v1 := v1) (v2 := v2) (by rw [← HV.out.1, ← HV.out.2.1, ← HV.out.2.2.1, ← HV.out.2.2.2]; have E1 := Nx.out.1; have E2 := Nw.out.1; cases s1 <;> simp only [iv_t, iv_f, eS, E1, E2, Bool.not_false, Bool.not_true] <;> grind) (by rw [NE.out.1, HV.out.2.2.1, HV.out.2.2.2])] at h'
   (try go_wp2_with fail); refine hK.out _ _ ⟨V0.d0, V0.d1, V0.d2, V1.d0, V1.d1, V1.d2⟩ (fun hHeld => ?_); clear hK K; have c_V2 := V2.d0; have f0_V2 := V2.frozen 0; have d_V2 := V2.d1; have f1_V2 := V2.frozen 1; have e_V2 := V2.d2; have f2_V2 := V2.frozen 2; have l_V2 := V2.lt; have m_V2 := Nat.le_of_lt l_V2; refine wpAnyH_ready (rs := [7]) (by kernel_rfl) (by simp) ?_; refine AllReadyH.cons rfl (fun K hK => ?_) AllReadyH.nil; simp only [gA, gB, gC]; (go_simp); clear c_V2 f0_V2 d_V2 f1_V2 e_V2 f2_V2 l_V2 m_V2; refine sto3 V2 (.bool s') (.slice a' l' c') (.slice b' m' d') (Q := fun W => K _ W) ?_; intro x9 V' oth far; replace V0 := oth _ _ _ (by first | omega | assumption | (simp; omega)) V0; replace V1 := oth _ _ _ (by first | omega | assumption | (simp; omega)) V1; replace h1 := h1.far V2 (noInt3 _ _ _ _ _ _ _) far.1; replace h2 := h2.far V2 (noInt3 _ _ _ _ _ _ _) far.1; replace hx := hx.far V2 (noInt3 _ _ _ _ _ _ _) far.1; replace hw := hw.far V2 (noInt3 _ _ _ _ _ _ _) far.1
   replace hE := hE.far V2 (noInt3 _ _ _ _ _ _ _) far.1; replace hS := hS.far V2 (noInt3 _ _ _ _ _ _ _) far.1; replace h' := h'.far V2 (noInt3 _ _ _ _ _ _ _) far.1; replace B0 := far.2 _ _ (by first | omega | (simp; omega)) B0; replace V2 := V'; clear oth far; refine hK.out _ _ ⟨V0.d0, V0.d1, V0.d2, V1.d0, V1.d1, V1.d2⟩ (fun hHeld => ?_); clear hK K; refine wpAnyH_done (by kernel_rfl) ?_ _; refine NoPanic.normal ?_; clear hHeld; (go_wp2_with fail); refine bodyPost_ret (results_ra rfl rfl V2) rfl ?_; exact ⟨s', a', l', c', zs', b', m', d', ys', rfl, h', B0⟩
set_option maxHeartbeats 4000000 in
theorem rsub9 (s1 : Bool) (a1 : Option Addr) (l1 c1 : Nat) (z1 : List Int) (b1 : Option Addr) (m1 d1 : Nat) (y1 : List Int) (v1 : Rat) (s2 : Bool) (a2 : Option Addr) (l2 c2 : Nat) (z2 : List Int) (b2 : Option Addr) (m2 d2 : Nat) (y2 : List Int) (v2 : Rat) (w : World) (h1 : Rr w s1 a1 l1 c1 z1 b1 m1 d1 y1 v1) (h2 : Rr w s2 a2 l2 c2 z2 b2 m2 d2 y2 v2) (t1 : Sz 4000 v1) (t2 : Sz 4000 v2) (t3 : Fit3 v1 v2) :
  Calls Tryz.prog 70 #[.agg #[.bool s1, .slice a1 l1 c1, .slice b1 m1 d1], .agg #[.bool s2, .slice a2 l2 c2, .slice b2 m2 d2]] w fun e w' => RrP w (v1 - v2) e w' := by
 have HT : Hid (Sz 4000 v1 ∧ Sz 4000 (-v2) ∧ Fit3 v1 (-v2)) := ⟨t1, t2.neg, t3.neg⟩; clear t1 t2 t3; have B0 : Below w.heap.size w w := Below.refl _ _
 go_enter Tryz.func70, Tryz.ntmps70
 (go_wp2_with fail); refine ent3 w _ _ _ _ _ _ (Q := fun W => Code.wp Tryz.prog _ _ _ W) ?_; intro x1 hb hs_x1 V0 V1 V2; replace h1 := Rr.after hb h1; replace h2 := Rr.after hb h2; replace B0 := step B0 hb; clear hb hs_x1; refine wp_region_noPanic ?_; replace V0 : Va x1.drew _ _ _ := V0; replace V1 : Va x1.drew _ _ _ := V1; replace V2 : Va x1.drew _ _ _ := V2; replace h1 := h1.drw; replace h2 := h2.drw; replace B0 := Below.drew B0; refine wp_region_held_drew (S := (fun W => W.cell? ⟨w.heap.size, 0, none⟩ = some (.bool s1) ∧ W.cell? ⟨w.heap.size, 1, none⟩ = some (.slice a1 l1 c1) ∧ W.cell? ⟨w.heap.size, 2, none⟩ = some (.slice b1 m1 d1) ∧ W.cell? ⟨w.heap.size + 1, 0, none⟩ = some (.bool s2) ∧ W.cell? ⟨w.heap.size + 1, 1, none⟩ = some (.slice a2 l2 c2) ∧ W.cell? ⟨w.heap.size + 1, 2, none⟩ = some (.slice b2 m2 d2))) (by kernel_rfl) ⟨V0.d0, V0.d1, V0.d2, V1.d0, V1.d1, V1.d2⟩ (fun hHeld => ?_); (obtain ⟨x2, hxd⟩ : ∃ xd, xd = x1.drew := ⟨_, rfl⟩)
 rw [← hxd] at V0 V1 V2 h1 h2 B0 hHeld ⊢; clear hxd; refine tk 0 rfl hHeld ?_; simp only [gA, gB, Act.put, gD, gE, gF]; refine tk 1 rfl hHeld ?_; simp only [gA, gB, gC, Act.put, gD, gE, gF]; refine wpAnyH_ready (rs := [2]) (by kernel_rfl) (by simp) ?_; refine AllReadyH.cons rfl (fun K hK => ?_) AllReadyH.nil; simp only [gA, gB, gC]; (go_simp); refine (rneg5 s2 a2 l2 c2 z2 b2 m2 d2 y2 v2 _ h2).mono ?_; rintro e x3 ⟨sN, aN, lN, cN, zN, bN, mN, dN, yN, rfl, hN, hb⟩; replace V0 := Va.after hb V0; replace V1 := Va.after hb V1; replace V2 := Va.after hb V2; replace h1 := Rr.after hb h1; replace h2 := Rr.after hb h2; replace B0 := step B0 hb; clear hb; (try go_wp2_with fail); refine hK.out _ _ ⟨V0.d0, V0.d1, V0.d2, V1.d0, V1.d1, V1.d2⟩ (fun hHeld => ?_); clear hK K; refine wpAnyH_ready (rs := [3]) (by kernel_rfl) (by simp) ?_; refine AllReadyH.cons rfl (fun K hK => ?_) AllReadyH.nil; simp only [gA, gB, gC]; (go_simp); refine (radd9 s1 a1 l1 c1 z1 b1 m1 d1 y1 v1 sN aN lN cN zN bN mN dN yN (-v2) _ h1 hN HT.out.1 HT.out.2.1 HT.out.2.2).mono ?_
 rintro e x4 ⟨s', a', l', c', zs', b', m', d', ys', rfl, h', hb⟩; replace V0 := Va.after hb V0; replace V1 := Va.after hb V1; replace V2 := Va.after hb V2; replace h1 := Rr.after hb h1; replace h2 := Rr.after hb h2; replace hN := Rr.after hb hN; replace B0 := step B0 hb; clear hb; rw [← Rat.sub_eq_add_neg] at h'; (try go_wp2_with fail); refine hK.out _ _ ⟨V0.d0, V0.d1, V0.d2, V1.d0, V1.d1, V1.d2⟩ (fun hHeld => ?_); clear hK K; have c_V2 := V2.d0; have f0_V2 := V2.frozen 0; have d_V2 := V2.d1; have f1_V2 := V2.frozen 1; have e_V2 := V2.d2; have f2_V2 := V2.frozen 2; have l_V2 := V2.lt; have m_V2 := Nat.le_of_lt l_V2; refine wpAnyH_ready (rs := [4]) (by kernel_rfl) (by simp) ?_; refine AllReadyH.cons rfl (fun K hK => ?_) AllReadyH.nil; simp only [gA, gB, gC]; (go_simp); clear c_V2 f0_V2 d_V2 f1_V2 e_V2 f2_V2 l_V2 m_V2; refine sto3 V2 (.bool s') (.slice a' l' c') (.slice b' m' d') (Q := fun W => K _ W) ?_; intro x5 V' oth far; replace V0 := oth _ _ _ (by first | omega | assumption | (simp; omega)) V0
 replace V1 := oth _ _ _ (by first | omega | assumption | (simp; omega)) V1; replace h1 := h1.far V2 (noInt3 _ _ _ _ _ _ _) far.1; replace h2 := h2.far V2 (noInt3 _ _ _ _ _ _ _) far.1; replace hN := hN.far V2 (noInt3 _ _ _ _ _ _ _) far.1; replace h' := h'.far V2 (noInt3 _ _ _ _ _ _ _) far.1; replace B0 := far.2 _ _ (by first | omega | (simp; omega)) B0; replace V2 := V'; clear oth far; refine hK.out _ _ ⟨V0.d0, V0.d1, V0.d2, V1.d0, V1.d1, V1.d2⟩ (fun hHeld => ?_); clear hK K; refine wpAnyH_done (by kernel_rfl) ?_ _; refine NoPanic.normal ?_; clear hHeld; (go_wp2_with fail); refine bodyPost_ret (results_ra rfl rfl V2) rfl ?_; exact ⟨s', a', l', c', zs', b', m', d', ys', rfl, h', B0⟩
set_option maxHeartbeats 8000000 in
theorem rfloor9 (s : Bool) (a : Option Addr) (l c : Nat) (zs : List Int) (b : Option Addr) (m d : Nat) (ys : List Int) (v : Rat) (w : World) (h : Rr w s a l c zs b m d ys v) (t : Sz 4000 v) :
    Calls Tryz.prog 44 #[.agg #[.bool s, .slice a l c, .slice b m d]] w fun e w' => RrP w ((qfl v : Int) : Rat) e w' := by
  obtain ⟨u1, u2⟩ := h.len9 t
  have e2 : num ys = v.den := h.2.2.2.2.2.2.1
  have g := h.2.2.2.2.2.1
  have hd := v.den_pos
  have y0 : num ys ≠ 0 := by rw [e2]; omega
  have HV : Hid (iv s zs = v.num ∧ num ys = v.den) := ⟨g, e2⟩
  clear g e2 t hd
  have B0 : Below w.heap.size w w := Below.refl _ _
  go_enter Tryz.func44, Tryz.ntmps44
  go_wp2_with fail
  refine ent2 w _ _ _ _ (Q := fun W => Calls Tryz.prog _ _ W _) ?_
  intro x1 hb hs_x1 V0 V1
  replace h := Rr.after hb h
  replace B0 := step B0 hb
  clear hb hs_x1
  refine (rdivmod_n a b l c m d zs ys x1 h.1 h.2.1 h.2.2.2.2.1.1 (by omega) (by omega) y0).mono ?_
  rintro e x2 ⟨aq, mq, cq, qs, ar, mr, cr, rs, rfl, hq, uq, hcq, hr, ur, hcr, d1, x0, x1, lq, lr, hb⟩
  replace V0 := Va.after hb V0
  replace V1 := Va.after hb V1
  replace h := Rr.after hb h
  replace B0 := step B0 hb
  clear hb
  have HD : Hid (num zs = num qs * num ys + num rs ∧ 0 ≤ num rs ∧ num rs < num ys) := ⟨d1, x0, x1⟩
  have hz := num_eq_zero hr.2.1
  rw [ur] at hz
  clear d1 x0 x1 lr
  cases s
  ·
    have c_V0 := V0.d0
    have f0_V0 := V0.frozen 0
    have d_V0 := V0.d1
    have f1_V0 := V0.frozen 1
    have e_V0 := V0.d2
    have f2_V0 := V0.frozen 2
    have l_V0 := V0.lt
    have m_V0 := Nat.le_of_lt l_V0
    have c_V1 := V1.d0
    have f0_V1 := V1.frozen 0
    have d_V1 := V1.d1
    have f1_V1 := V1.frozen 1
    have e_V1 := V1.d2
    have f2_V1 := V1.frozen 2
    have l_V1 := V1.lt
    have m_V1 := Nat.le_of_lt l_V1
    go_wp2_with fail
    refine (rwhole5 false aq mq cq qs x2 hq hcq (by omega)).mono ?_
    rintro e x3 ⟨s', a', l', c', zs', b', m', d', ys', rfl, h', hb⟩
    replace V0 := Va.after hb V0
    replace V1 := Va.after hb V1
    replace h := Rr.after hb h
    replace hq := Sl.after hb hq
    replace hr := Sl.after hb hr
    replace B0 := step B0 hb
    clear hb
    have ef : iv false qs = qfl v := by
      obtain ⟨d1, d2, d3⟩ := HD.out
      obtain ⟨v1, v2⟩ := HV.out
      rw [iv_f] at v1
      rw [iv_f]
      exact (qfl_of (v := v) (by rw [← v1, d1, v2]) d2 (by rw [← v2]; exact d3)).1
    rw [ef] at h'
    clear c_V0 f0_V0 d_V0 f1_V0 e_V0 f2_V0 l_V0 m_V0 c_V1 f0_V1 d_V1 f1_V1 e_V1 f2_V1 l_V1 m_V1
    have c_V1 := V1.d0
    have f0_V1 := V1.frozen 0
    have d_V1 := V1.d1
    have f1_V1 := V1.frozen 1
    have e_V1 := V1.d2
    have f2_V1 := V1.frozen 2
    have l_V1 := V1.lt
    have m_V1 := Nat.le_of_lt l_V1
    go_wp2_with fail
    refine bodyPost_ret (results_ra rfl rfl (V1.set3 _ _ _)) rfl ?_
    exact ⟨s', a', l', c', zs', b', m', d', ys', rfl, h'.far V1 (noInt3 _ _ _ _ _ _ _) (fa3 _ _ _ _ _), belo3 B0 (by omega) _ _ _⟩
  ·
    by_cases r0 : mr = 0
    ·
      have HR0 : Hid (num rs = 0) := hz.2 r0
      subst r0
      have c_V0 := V0.d0
      have f0_V0 := V0.frozen 0
      have d_V0 := V0.d1
      have f1_V0 := V0.frozen 1
      have e_V0 := V0.d2
      have f2_V0 := V0.frozen 2
      have l_V0 := V0.lt
      have m_V0 := Nat.le_of_lt l_V0
      have c_V1 := V1.d0
      have f0_V1 := V1.frozen 0
      have d_V1 := V1.d1
      have f1_V1 := V1.frozen 1
      have e_V1 := V1.d2
      have f2_V1 := V1.frozen 2
      have l_V1 := V1.lt
      have m_V1 := Nat.le_of_lt l_V1
      go_wp2_with fail
      refine (rwhole5 true aq mq cq qs x2 hq hcq (by omega)).mono ?_
      rintro e x3 ⟨s', a', l', c', zs', b', m', d', ys', rfl, h', hb⟩
      replace V0 := Va.after hb V0
      replace V1 := Va.after hb V1
      replace h := Rr.after hb h
      replace hq := Sl.after hb hq
      replace hr := Sl.after hb hr
      replace B0 := step B0 hb
      clear hb
      have ef : iv true qs = qfl v := by
        obtain ⟨d1, d2, d3⟩ := HD.out
        obtain ⟨v1, v2⟩ := HV.out
        rw [iv_t] at v1
        rw [iv_t]
        exact (qfl_neg0 (by rw [← v1, d1, HR0.out, Int.add_zero]) v2).symm
      rw [ef] at h'
      clear c_V0 f0_V0 d_V0 f1_V0 e_V0 f2_V0 l_V0 m_V0 c_V1 f0_V1 d_V1 f1_V1 e_V1 f2_V1 l_V1 m_V1
      have c_V1 := V1.d0
      have f0_V1 := V1.frozen 0
      have d_V1 := V1.d1
      have f1_V1 := V1.frozen 1
      have e_V1 := V1.d2
      have f2_V1 := V1.frozen 2
      have l_V1 := V1.lt
      have m_V1 := Nat.le_of_lt l_V1
      go_wp2_with fail
      refine bodyPost_ret (results_ra rfl rfl (V1.set3 _ _ _)) rfl ?_
      exact ⟨s', a', l', c', zs', b', m', d', ys', rfl, h'.far V1 (noInt3 _ _ _ _ _ _ _) (fa3 _ _ _ _ _), belo3 B0 (by omega) _ _ _⟩
    ·
      have r1 : 0 < mr := Nat.pos_of_ne_zero r0
      have HR0 : Hid (num rs ≠ 0) := fun e => r0 (hz.1 e)
      have c_V0 := V0.d0
      have f0_V0 := V0.frozen 0
      have d_V0 := V0.d1
      have f1_V0 := V0.frozen 1
      have e_V0 := V0.d2
      have f2_V0 := V0.frozen 2
      have l_V0 := V0.lt
      have m_V0 := Nat.le_of_lt l_V0
      have c_V1 := V1.d0
      have f0_V1 := V1.frozen 0
      have d_V1 := V1.d1
      have f1_V1 := V1.frozen 1
      have e_V1 := V1.d2
      have f2_V1 := V1.frozen 2
      have l_V1 := V1.lt
      have m_V1 := Nat.le_of_lt l_V1
      go_wp2_with fail
      refine (one5 x2).mono ?_
      rintro e x3 ⟨g1, rfl, hg1, hb⟩
      replace V0 := Va.after hb V0
      replace V1 := Va.after hb V1
      replace h := Rr.after hb h
      replace hq := Sl.after hb hq
      replace hr := Sl.after hb hr
      replace B0 := step B0 hb
      clear hb
      clear c_V0 f0_V0 d_V0 f1_V0 e_V0 f2_V0 l_V0 m_V0 c_V1 f0_V1 d_V1 f1_V1 e_V1 f2_V1 l_V1 m_V1
      have c_V0 := V0.d0
      have f0_V0 := V0.frozen 0
      have d_V0 := V0.d1
      have f1_V0 := V0.frozen 1
      have e_V0 := V0.d2
      have f2_V0 := V0.frozen 2
      have l_V0 := V0.lt
      have m_V0 := Nat.le_of_lt l_V0
      have c_V1 := V1.d0
      have f0_V1 := V1.frozen 0
      have d_V1 := V1.d1
      have f1_V1 := V1.frozen 1
      have e_V1 := V1.d2
      have f2_V1 := V1.frozen 2
      have l_V1 := V1.lt
      have m_V1 := Nat.le_of_lt l_V1
      go_wp2_with fail
      refine (radd_any aq (some ⟨g1, 0, none⟩) mq cq 1 1 qs [1] x3 hq hg1 (by omega) (by omega)).mono ?_
      rintro e x4 ⟨aS, lS, cS, zS, rfl, kS, tS, hS, uS, eS, hb⟩
      replace V0 := Va.after hb V0
      replace V1 := Va.after hb V1
      replace h := Rr.after hb h
      replace hq := Sl.after hb hq
      replace hr := Sl.after hb hr
      replace hg1 := Sl.after hb hg1
      replace B0 := step B0 hb
      clear hb
      have n1 : num [1] = 1 := by simp [num]
      rw [n1] at eS
      have ES : Hid (num zS = num qs + 1) := eS
      clear eS n1 uS
      clear c_V0 f0_V0 d_V0 f1_V0 e_V0 f2_V0 l_V0 m_V0 c_V1 f0_V1 d_V1 f1_V1 e_V1 f2_V1 l_V1 m_V1
      have c_V0 := V0.d0
      have f0_V0 := V0.frozen 0
      have d_V0 := V0.d1
      have f1_V0 := V0.frozen 1
      have e_V0 := V0.d2
      have f2_V0 := V0.frozen 2
      have l_V0 := V0.lt
      have m_V0 := Nat.le_of_lt l_V0
      have c_V1 := V1.d0
      have f0_V1 := V1.frozen 0
      have d_V1 := V1.d1
      have f1_V1 := V1.frozen 1
      have e_V1 := V1.d2
      have f2_V1 := V1.frozen 2
      have l_V1 := V1.lt
      have m_V1 := Nat.le_of_lt l_V1
      go_wp2_with fail
      refine (rwhole5 true aS lS cS zS x4 hS kS (by omega)).mono ?_
      rintro e x5 ⟨s', a', l', c', zs', b', m', d', ys', rfl, h', hb⟩
      replace V0 := Va.after hb V0
      replace V1 := Va.after hb V1
      replace h := Rr.after hb h
      replace hq := Sl.after hb hq
      replace hr := Sl.after hb hr
      replace hg1 := Sl.after hb hg1
      replace hS := Sl.after hb hS
      replace B0 := step B0 hb
      clear hb
      have ef : iv true zS = qfl v := by
        obtain ⟨d1, d2, d3⟩ := HD.out
        obtain ⟨v1, v2⟩ := HV.out
        have r9 := HR0.out
        rw [iv_t] at v1
        rw [iv_t, ES.out]
        exact (qfl_neg1 (by rw [← v1, d1]) v2 (by omega) d3).symm
      rw [ef] at h'
      clear c_V0 f0_V0 d_V0 f1_V0 e_V0 f2_V0 l_V0 m_V0 c_V1 f0_V1 d_V1 f1_V1 e_V1 f2_V1 l_V1 m_V1
      have c_V1 := V1.d0
      have f0_V1 := V1.frozen 0
      have d_V1 := V1.d1
      have f1_V1 := V1.frozen 1
      have e_V1 := V1.d2
      have f2_V1 := V1.frozen 2
      have l_V1 := V1.lt
      have m_V1 := Nat.le_of_lt l_V1
      go_wp2_with fail
      refine bodyPost_ret (results_ra rfl rfl (V1.set3 _ _ _)) rfl ?_
      exact ⟨s', a', l', c', zs', b', m', d', ys', rfl, h'.far V1 (noInt3 _ _ _ _ _ _ _) (fa3 _ _ _ _ _), belo3 B0 (by omega) _ _ _⟩
set_option maxHeartbeats 4000000 in
theorem rcompare9 (s1 : Bool) (a1 : Option Addr) (l1 c1 : Nat) (z1 : List Int) (b1 : Option Addr) (m1 d1 : Nat) (y1 : List Int) (u : Rat) (s2 : Bool) (a2 : Option Addr) (l2 c2 : Nat) (z2 : List Int) (b2 : Option Addr) (m2 d2 : Nat) (y2 : List Int) (v : Rat) (w : World) (h1 : Rr w s1 a1 l1 c1 z1 b1 m1 d1 y1 u) (h2 : Rr w s2 a2 l2 c2 z2 b2 m2 d2 y2 v) (t1 : Sz 4000 u) (t2 : Sz 4000 v) :
  Calls Tryz.prog 43 #[.agg #[.bool s1, .slice a1 l1 c1, .slice b1 m1 d1], .agg #[.bool s2, .slice a2 l2 c2, .slice b2 m2 d2]] w fun e w' => e = .returned (.int .i64 (qcmp u v)) ∧ Below w.heap.size w w' := by
 obtain ⟨u1, u2⟩ := h1.len9 t1; obtain ⟨u3, u4⟩ := h2.len9 t2; have HL : Hid (l1 ≤ 4000 ∧ m1 ≤ 4000 ∧ l2 ≤ 4000 ∧ m2 ≤ 4000) := ⟨u1, u2, u3, u4⟩; clear t1 t2 u1 u2 u3 u4; have HD : Hid (Int.sign u.num ≠ Int.sign v.num → qcmp u v = if Int.sign u.num < Int.sign v.num then -1 else 1) := qcmp_signs; have HE : Hid (Int.sign u.num = Int.sign v.num → qcmp u v = if Int.sign u.num < 0 then - cmp3 (num z1 * num y2) (num z2 * num y1) else cmp3 (num z1 * num y2) (num z2 * num y1)) := qcmp_side h1.2.2.2.2.2.1 h1.2.2.2.2.2.2.1 h2.2.2.2.2.2.1 h2.2.2.2.2.2.2.1 (num_nonneg h1.1.2.1) (num_nonneg h2.1.2.1) h1.2.2.2.2.2.2.2 h2.2.2.2.2.2.2.2; (obtain ⟨x, hx⟩ : ∃ x, Int.sign u.num = x := ⟨_, rfl⟩); (obtain ⟨y, hy⟩ : ∃ y, Int.sign v.num = y := ⟨_, rfl⟩); rw [hx, hy] at HD; rw [hx, hy] at HE; have EX : Hid (Int.sign u.num = x) := hx; have EY : Hid (Int.sign v.num = y) := hy; clear hx hy; have B0 : Below w.heap.size w w := Below.refl _ _
 go_enter Tryz.func43, Tryz.ntmps43
 (go_wp2_with fail); refine ent2 w _ _ _ _ (Q := fun W => Code.wp Tryz.prog _ _ _ W) ?_; intro x1 hb hs_x1 V0 V1; replace h1 := Rr.after hb h1; replace h2 := Rr.after hb h2; replace B0 := step B0 hb; clear hb hs_x1; refine wp_region_noPanic ?_; replace V0 : Va x1.drew _ _ _ := V0; replace V1 : Va x1.drew _ _ _ := V1; replace h1 := h1.drw; replace h2 := h2.drw; replace B0 := Below.drew B0; refine wp_region_held_drew (S := (fun W => W.cell? ⟨w.heap.size, 0, none⟩ = some (.bool s1) ∧ W.cell? ⟨w.heap.size, 1, none⟩ = some (.slice a1 l1 c1) ∧ W.cell? ⟨w.heap.size, 2, none⟩ = some (.slice b1 m1 d1) ∧ W.cell? ⟨w.heap.size + 1, 0, none⟩ = some (.bool s2) ∧ W.cell? ⟨w.heap.size + 1, 1, none⟩ = some (.slice a2 l2 c2) ∧ W.cell? ⟨w.heap.size + 1, 2, none⟩ = some (.slice b2 m2 d2))) (by kernel_rfl) ⟨V0.d0, V0.d1, V0.d2, V1.d0, V1.d1, V1.d2⟩ (fun hHeld => ?_); (obtain ⟨x2, hxd⟩ : ∃ xd, xd = x1.drew := ⟨_, rfl⟩); rw [← hxd] at V0 V1 h1 h2 B0 hHeld ⊢
 clear hxd; refine tk 0 rfl hHeld ?_; simp only [gA, gB, Act.put, gD, gE, gF]; refine tk 2 rfl hHeld ?_; simp only [gA, gB, gC, Act.put, gD, gE, gF]; refine wpAnyH_ready (rs := [1]) (by kernel_rfl) (by simp) ?_; refine AllReadyH.cons rfl (fun K hK => ?_) AllReadyH.nil; simp only [gA, gB, gC]; (go_simp); refine (rsign5 s1 a1 l1 c1 z1 b1 m1 d1 y1 u _ h1).mono ?_; rintro e x3 ⟨rfl, hb⟩; replace V0 := Va.after hb V0; replace V1 := Va.after hb V1; replace h1 := Rr.after hb h1; replace h2 := Rr.after hb h2; replace B0 := step B0 hb; clear hb; rw [EX.out]; (try go_wp2_with fail); refine hK.out _ _ ⟨V0.d0, V0.d1, V0.d2, V1.d0, V1.d1, V1.d2⟩ (fun hHeld => ?_); clear hK K; refine wpAnyH_ready (rs := [3]) (by kernel_rfl) (by simp) ?_; refine AllReadyH.cons rfl (fun K hK => ?_) AllReadyH.nil; simp only [gA, gB, gC]; (go_simp); refine (rsign5 s2 a2 l2 c2 z2 b2 m2 d2 y2 v _ h2).mono ?_; rintro e x4 ⟨rfl, hb⟩; replace V0 := Va.after hb V0; replace V1 := Va.after hb V1
 replace h1 := Rr.after hb h1; replace h2 := Rr.after hb h2; replace B0 := step B0 hb; clear hb; rw [EY.out]; (try go_wp2_with fail); refine hK.out _ _ ⟨V0.d0, V0.d1, V0.d2, V1.d0, V1.d1, V1.d2⟩ (fun hHeld => ?_); clear hK K; refine tk 4 rfl hHeld ?_; simp only [gA, gB, gC, Act.put, gD, gE, gF]; refine tk 5 rfl hHeld ?_; simp only [gA, gB, gC, Act.put, gD, gE, gF]; refine wpAnyH_done (by kernel_rfl) ?_ _; refine NoPanic.normal ?_; clear hHeld
 by_cases hs : x = y
 ·
  subst hs; (go_wp2_with fail); refine wp_region_noPanic ?_; replace V0 : Va x4.drew _ _ _ := V0; replace V1 : Va x4.drew _ _ _ := V1; replace h1 := h1.drw; replace h2 := h2.drw; replace B0 := Below.drew B0; refine wp_region_held_drew (S := (fun W => W.cell? ⟨w.heap.size, 0, none⟩ = some (.bool s1) ∧ W.cell? ⟨w.heap.size, 1, none⟩ = some (.slice a1 l1 c1) ∧ W.cell? ⟨w.heap.size, 2, none⟩ = some (.slice b1 m1 d1) ∧ W.cell? ⟨w.heap.size + 1, 0, none⟩ = some (.bool s2) ∧ W.cell? ⟨w.heap.size + 1, 1, none⟩ = some (.slice a2 l2 c2) ∧ W.cell? ⟨w.heap.size + 1, 2, none⟩ = some (.slice b2 m2 d2))) (by kernel_rfl) ⟨V0.d0, V0.d1, V0.d2, V1.d0, V1.d1, V1.d2⟩ (fun hHeld => ?_); (obtain ⟨x5, hxd⟩ : ∃ xd, xd = x4.drew := ⟨_, rfl⟩); rw [← hxd] at V0 V1 h1 h2 B0 hHeld ⊢; clear hxd; refine tk 0 rfl hHeld ?_; simp only [gA, gB, Act.put, gD, gE, gF]; refine tk 1 rfl hHeld ?_; simp only [gA, gB, gC, Act.put, gD, gE, gF]; refine tk 2 rfl hHeld ?_
  simp only [gA, gB, gC, Act.put, gD, gE, gF]; refine tk 3 rfl hHeld ?_; simp only [gA, gB, gC, Act.put, gD, gE, gF]; refine tk 5 rfl hHeld ?_; simp only [gA, gB, gC, Act.put, gD, gE, gF]; refine tk 6 rfl hHeld ?_; simp only [gA, gB, gC, Act.put, gD, gE, gF]; refine tk 7 rfl hHeld ?_; simp only [gA, gB, gC, Act.put, gD, gE, gF]; refine tk 8 rfl hHeld ?_; simp only [gA, gB, gC, Act.put, gD, gE, gF]; refine wpAnyH_ready (rs := [4]) (by kernel_rfl) (by simp) ?_; refine AllReadyH.cons rfl (fun K hK => ?_) AllReadyH.nil; simp only [gA, gB, gC]; (go_simp); refine (rmul_any a1 b2 l1 c1 m2 d2 z1 y2 _ h1.1 h2.2.1 (by have := HL.out; omega) (by have := HL.out; omega)).mono ?_; rintro e x6 ⟨a5, l5, c5, z5, rfl, k5, t5, h5, u5, e5, hb⟩; replace V0 := Va.after hb V0; replace V1 := Va.after hb V1; replace h1 := Rr.after hb h1; replace h2 := Rr.after hb h2; replace B0 := step B0 hb; clear hb; (try go_wp2_with fail); refine hK.out _ _ ⟨V0.d0, V0.d1, V0.d2, V1.d0, V1.d1, V1.d2⟩ (fun hHeld => ?_)
  clear hK K; refine wpAnyH_ready (rs := [9]) (by kernel_rfl) (by simp) ?_; refine AllReadyH.cons rfl (fun K hK => ?_) AllReadyH.nil; simp only [gA, gB, gC]; (go_simp); refine (rmul_any a2 b1 l2 c2 m1 d1 z2 y1 _ h2.1 h1.2.1 (by have := HL.out; omega) (by have := HL.out; omega)).mono ?_; rintro e x7 ⟨a6, l6, c6, z6, rfl, k6, t6, h6, u6, e6, hb⟩; replace V0 := Va.after hb V0; replace V1 := Va.after hb V1; replace h1 := Rr.after hb h1; replace h2 := Rr.after hb h2; replace h5 := Sl.after hb h5; replace B0 := step B0 hb; clear hb; (try go_wp2_with fail); refine hK.out _ _ ⟨V0.d0, V0.d1, V0.d2, V1.d0, V1.d1, V1.d2⟩ (fun hHeld => ?_); clear hK K; refine wpAnyH_ready (rs := [10]) (by kernel_rfl) (by simp) ?_; refine AllReadyH.cons rfl (fun K hK => ?_) AllReadyH.nil; simp only [gA, gB, gC]; (go_simp); refine (rcompare_n a5 a6 l5 c5 l6 c6 z5 z6 _ h5 h6 (by have := HL.out; omega) (by have := HL.out; omega) k5 k6).mono ?_; rintro e x8 ⟨rfl, hb⟩
  replace V0 := Va.after hb V0; replace V1 := Va.after hb V1; replace h1 := Rr.after hb h1; replace h2 := Rr.after hb h2; replace h5 := Sl.after hb h5; replace h6 := Sl.after hb h6; replace B0 := step B0 hb; clear hb; rw [e5, e6]; (obtain ⟨c, hc⟩ : ∃ c, cmp3 (num z1 * num y2) (num z2 * num y1) = c := ⟨_, rfl⟩); rw [hc]; have HC := HE.out (by first | rfl | trivial); rw [hc] at HC; have hcv := cmp3_vals7 (num z1 * num y2) (num z2 * num y1); rw [hc] at hcv; have HV : Hid (c = -1 ∨ c = 0 ∨ c = 1) := hcv; have HCC : Hid (qcmp u v = if x < 0 then -c else c) := HC; clear hc HC hcv e5 e6 u5 u6 t5 t6; (try go_wp2_with fail); refine hK.out _ _ ⟨V0.d0, V0.d1, V0.d2, V1.d0, V1.d1, V1.d2⟩ (fun hHeld => ?_); clear hK K; refine tk 11 rfl hHeld ?_; simp only [gA, gB, gC, Act.put, gD, gE, gF]; refine wpAnyH_done (by kernel_rfl) ?_ _; refine NoPanic.normal ?_; clear hHeld
  by_cases hn : x < 0
  ·
   have hv : Hid (qcmp u v = -c) := HCC.out.trans (if_pos hn); (have nl : decide (x < 0) = true := by simpa using hn); (have nw : IntKind.i64.wrap (-c) = -c := by rw [IntKind.wrap_i64]; have := HV.out; omega); (go_wp2_with fail)
   go_ret
   exact ⟨by rw [hv.out]; rfl, B0⟩
  ·
   have hv : Hid (qcmp u v = c) := HCC.out.trans (if_neg hn); (have nl : decide (x < 0) = false := by simpa using hn); (have nw : IntKind.i64.wrap (-c) = -c := by rw [IntKind.wrap_i64]; have := HV.out; omega); (go_wp2_with fail)
   go_ret
   exact ⟨by rw [hv.out]; rfl, B0⟩
 ·
  (have ns : (x == y) = false := by simpa using hs); (have nt : (x != y) = true := by simpa using hs)
  by_cases hl : x < y
  ·
   have hv : Hid (qcmp u v = -1) := (HD.out hs).trans (if_pos hl); (have nl : decide (x < y) = true := by simpa using hl); (go_wp2_with fail)
   go_ret
   exact ⟨by rw [hv.out]; rfl, B0⟩
  ·
   have hv : Hid (qcmp u v = 1) := (HD.out hs).trans (if_neg hl); (have nl : decide (x < y) = false := by simpa using hl); (go_wp2_with fail)
   go_ret
   exact ⟨by rw [hv.out]; rfl, B0⟩

theorem Fit3.symm {u v : Rat} (h : Fit3 u v) : Fit3 v u := fun n e => ⟨(h n e).2.1, (h n e).1, by rw [Int.mul_comm]; exact (h n e).2.2⟩
end Go.Proofs.YtjlodljgfjjclaaGreat
