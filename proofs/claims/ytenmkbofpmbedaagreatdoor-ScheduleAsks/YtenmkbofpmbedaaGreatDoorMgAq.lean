import Derived.Test.YtenmkbofpmbedaaGreatDoorMgAa
import Derived.Test.YtenmkbofpmbedaaGreatDoorRt16
import Derived.Test.YtenmkbofpmbedaaGreatDoorMgAo
import Derived.Test.YtenmkbofpmbedaaGreatDoorMgAf
import Derived.Test.YtenmkbofpmbedaaGreatDoorMgAe
import Derived.Test.YtenmkbofpmbedaaGreatDoorMgAj
import Derived.ProofKit
import Derived.OpenShut
import Derived.ShutString
import Derived.ChangeOld
import Derived.SizedLaws
import Derived.Deep.Slices
namespace Go.Proofs.YtenmkbofpmbedaaGreatDoor
open Go.RowKit Go.Shelf
set_option linter.unusedVariables false

theorem sz_sum2 {P Q x y : Int} (w : 2 * P ≤ Q) (h1 : x < P) (h2 : y < P) : x + y < Q := by omega
def RrP (w : World) (X : Rat) (e : Ending) (w' : World) : Prop := ∃ s' a' l' c' zs' b' m' d' ys', e = .returned (.agg #[.bool s', .slice a' l' c', .slice b' m' d']) ∧ Rr w' s' a' l' c' zs' b' m' d' ys' X ∧ Below w.heap.size w w'
theorem Rr.len {w : World} {s : Bool} {a : Option Addr} {l c : Nat} {zs : List Int} {b : Option Addr} {m d : Nat} {ys : List Int} {v : Rat} (h : Rr w s a l c zs b m d ys v) (hs : Short v) : l ≤ 1024 ∧ m ≤ 1024 := by
  have := h.long.2 hs
  omega
theorem add_val {v1 v2 : Rat} {N D : Int} (hN : N = v1.num * v2.den + v2.num * v1.den) (hD : D = v1.den * v2.den) : Rat.divInt N D = v1 + v2 := by
  rw [Rat.add_def', ← Rat.divInt_ofNat, hN, hD, Int.natCast_mul]
theorem rneg5 (s : Bool) (a : Option Addr) (l c : Nat) (zs : List Int) (b : Option Addr) (m d : Nat) (ys : List Int) (v : Rat) (w : World) (h : Rr w s a l c zs b m d ys v) :
    Calls Tryz.prog 107 #[.agg #[.bool s, .slice a l c, .slice b m d]] w fun e w' => RrP w (-v) e w' := by
  have hz := num_eq_zero h.1.2.1
  rw [h.2.2.1] at hz
  cases s
  · by_cases l0 : l = 0
    · subst l0
      go_enter Tryz.func107, Tryz.ntmps107
      go_wp2_with fail
      refine bodyPost_ret (results_ra rfl rfl (by have := Va.new (w.alloc (Obj.cells #[Value.bool false, Value.slice a 0 c, Value.slice b m d] 25)) 25 #[Value.bool false, Value.slice a 0 c, Value.slice b m d]; simp only [World.alloc, Array.size_push] at this ⊢; exact this)) rfl ?_
      have B0 : Below w.heap.size w _ := ((Below.refl w.heap.size w).alloc (Nat.le_refl _) (.cells #[.bool false, .slice a 0 c, .slice b m d] 25)).alloc (by simp) (.cells #[.bool false, .slice a 0 c, .slice b m d] 25)
      have h' := Rr.after B0 h
      refine ⟨false, a, 0, c, zs, b, m, d, ys, rfl, ⟨h'.1, h'.2.1, h'.2.2.1, h'.2.2.2.1, h'.2.2.2.2.1, ?_, by rw [Rat.neg_den]; exact h'.2.2.2.2.2.2.1, ?_⟩, B0⟩
      · rw [Rat.neg_num, ← h'.2.2.2.2.2.1]; rw [iv_f, hz.2 (by first | rfl | trivial)]; rfl
      · intro e; cases e
    · have l1 : 0 < l := Nat.pos_of_ne_zero l0
      go_enter Tryz.func107, Tryz.ntmps107
      go_wp2_with fail
      refine bodyPost_ret (results_ra rfl rfl (by have := Va.new (w.alloc (Obj.cells #[Value.bool false, Value.slice a l c, Value.slice b m d] 25)) 25 #[Value.bool true, Value.slice a l c, Value.slice b m d]; simp only [World.alloc, Array.size_push] at this ⊢; exact this)) rfl ?_
      have B0 : Below w.heap.size w _ := ((Below.refl w.heap.size w).alloc (Nat.le_refl _) (.cells #[.bool false, .slice a l c, .slice b m d] 25)).alloc (by simp) (.cells #[.bool true, .slice a l c, .slice b m d] 25)
      have h' := Rr.after B0 h
      refine ⟨true, a, l, c, zs, b, m, d, ys, rfl, ⟨h'.1, h'.2.1, h'.2.2.1, h'.2.2.2.1, h'.2.2.2.2.1, ?_, by rw [Rat.neg_den]; exact h'.2.2.2.2.2.2.1, ?_⟩, B0⟩
      · rw [Rat.neg_num, ← h'.2.2.2.2.2.1]; rw [iv_f, iv_t]
      · intro _ e; exact l0 (hz.1 e)
  ·
    go_enter Tryz.func107, Tryz.ntmps107
    go_wp2_with fail
    refine bodyPost_ret (results_ra rfl rfl (by have := Va.new (w.alloc (Obj.cells #[Value.bool true, Value.slice a l c, Value.slice b m d] 25)) 25 #[Value.bool false, Value.slice a l c, Value.slice b m d]; simp only [World.alloc, Array.size_push] at this ⊢; exact this)) rfl ?_
    have B0 : Below w.heap.size w _ := ((Below.refl w.heap.size w).alloc (Nat.le_refl _) (.cells #[.bool true, .slice a l c, .slice b m d] 25)).alloc (by simp) (.cells #[.bool false, .slice a l c, .slice b m d] 25)
    have h' := Rr.after B0 h
    refine ⟨false, a, l, c, zs, b, m, d, ys, rfl, ⟨h'.1, h'.2.1, h'.2.2.1, h'.2.2.2.1, h'.2.2.2.2.1, ?_, by rw [Rat.neg_den]; exact h'.2.2.2.2.2.2.1, ?_⟩, B0⟩
    · rw [Rat.neg_num, ← h'.2.2.2.2.2.1]; rw [iv_f, iv_t]; omega
    · intro e; cases e

set_option maxHeartbeats 8000000 in
theorem radd5 (s1 : Bool) (a1 : Option Addr) (l1 c1 : Nat) (z1 : List Int) (b1 : Option Addr) (m1 d1 : Nat) (y1 : List Int) (v1 : Rat) (s2 : Bool) (a2 : Option Addr) (l2 c2 : Nat) (z2 : List Int) (b2 : Option Addr) (m2 d2 : Nat) (y2 : List Int) (v2 : Rat) (w : World) (h1 : Rr w s1 a1 l1 c1 z1 b1 m1 d1 y1 v1) (h2 : Rr w s2 a2 l2 c2 z2 b2 m2 d2 y2 v2) (t1 : Short v1) (t2 : Short v2) :
  Calls Tryz.prog 59 #[.agg #[.bool s1, .slice a1 l1 c1, .slice b1 m1 d1], .agg #[.bool s2, .slice a2 l2 c2, .slice b2 m2 d2]] w fun e w' => RrP w (v1 + v2) e w' := by
 obtain ⟨u1, u2⟩ := h1.len t1; obtain ⟨u3, u4⟩ := h2.len t2; have n1 := num_nonneg h1.1.2.1; have n2 := num_nonneg h2.1.2.1; have g1 := h1.2.2.2.2.2.1; have g2 := h2.2.2.2.2.2.1; have e1 : num y1 = v1.den := h1.2.2.2.2.2.2.1; have e2 : num y2 = v2.den := h2.2.2.2.2.2.2.1; have q1 : num z1 < pw 1024 := lt_of_used h1.1.2.1 (by rw [h1.2.2.1]; exact u1); have q2 : num z2 < pw 1024 := lt_of_used h2.1.2.1 (by rw [h2.2.2.1]; exact u3)
 have HF : Hid (∀ X Y D : Int, X = num z1 * num y2 → Y = num z2 * num y1 → D = num y1 * num y2 → 0 ≤ X ∧ 0 ≤ Y ∧ X < pw 2048 ∧ Y < pw 2048 ∧ X + Y < pw 4096 ∧ D < pw 4096 ∧ D ≠ 0) := by
  intro X Y D hX hY hD; have p1 := v1.den_pos; have p2 := v2.den_pos; (have x1 : X < pw 2048 := by rw [hX, e2]; exact rt_fits n1 (by omega) q1 t2.2 (by omega)); (have x2 : Y < pw 2048 := by rw [hY, e1]; exact rt_fits n2 (by omega) q2 t1.2 (by omega)); (have x0 : 0 ≤ X := by rw [hX, e2]; exact Int.mul_nonneg n1 (by omega)); (have y0 : 0 ≤ Y := by rw [hY, e1]; exact Int.mul_nonneg n2 (by omega)); (have x3 : D < pw 4096 := by rw [hD, e1, e2]; exact rt_fits (by omega) (by omega) t1.2 t2.2 (by omega)); (have x4 : D ≠ 0 := by rw [hD, e1, e2]; exact Int.mul_ne_zero (by omega) (by omega)); have x5 := sz_sum2 (two_pw 2048) x1 x2; exact ⟨x0, y0, x1, x2, Int.lt_of_lt_of_le x5 (pw_mono (by omega)), x3, x4⟩
 have HV : Hid (iv s1 z1 = v1.num ∧ iv s2 z2 = v2.num ∧ num y1 = v1.den ∧ num y2 = v2.den) := ⟨g1, g2, e1, e2⟩; clear g1 g2 e1 e2 q1 q2 n1 n2; have B0 : Below w.heap.size w w := Below.refl _ _
 go_enter Tryz.func59, Tryz.ntmps59
 (go_wp2_with fail); refine ent3 w _ _ _ _ _ _ (Q := fun W => Calls Tryz.prog _ _ W _) ?_; intro x1 hb hs_x1 V0 V1 V2; replace h1 := Rr.after hb h1; replace h2 := Rr.after hb h2; replace B0 := step B0 hb; clear hb hs_x1; refine (rmul_any a1 b2 l1 c1 m2 d2 z1 y2 x1 h1.1 h2.2.1 (by omega) (by omega)).mono ?_; rintro e x2 ⟨ax, lx, cx, zx, rfl, kx, tx, hx, ux, ex, hb⟩; replace V0 := V0.a hb; replace V1 := V1.a hb; replace V2 := V2.a hb; replace h1 := Rr.after hb h1; replace h2 := Rr.after hb h2; replace B0 := step B0 hb; clear hb; have Nx : Hid (num zx = num z1 * num y2 ∧ usedN zx = lx) := ⟨ex, ux⟩; clear ex ux; obtain ⟨c_V0, f0_V0, d_V0, f1_V0, e_V0, f2_V0, l_V0, m_V0⟩ := V0.q3; have c_V1 := V1.d0; have f0_V1 := V1.frozen 0; have d_V1 := V1.d1; have f1_V1 := V1.frozen 1; have e_V1 := V1.d2; have f2_V1 := V1.frozen 2
 have l_V1 := V1.lt; have m_V1 := Nat.le_of_lt l_V1; (go_wp2_with fail); refine (rmul_any a2 b1 l2 c2 m1 d1 z2 y1 x2 h2.1 h1.2.1 (by omega) (by omega)).mono ?_; rintro e x3 ⟨aw, lw, cw, zw, rfl, kw, tw, hw, uw, ew, hb⟩; replace V0 := V0.a hb; replace V1 := V1.a hb; replace V2 := V2.a hb; replace h1 := Rr.after hb h1; replace h2 := Rr.after hb h2; replace hx := Sl.after hb hx; replace B0 := step B0 hb; clear hb; have Nw : Hid (num zw = num z2 * num y1 ∧ usedN zw = lw) := ⟨ew, uw⟩; clear ew uw; clear c_V0 f0_V0 d_V0 f1_V0 e_V0 f2_V0 l_V0 m_V0 c_V1 f0_V1 d_V1 f1_V1 e_V1 f2_V1 l_V1 m_V1; obtain ⟨c_V0, f0_V0, d_V0, f1_V0, e_V0, f2_V0, l_V0, m_V0⟩ := V0.q3; have c_V1 := V1.d0; have f0_V1 := V1.frozen 0; have d_V1 := V1.d1; have f1_V1 := V1.frozen 1; have e_V1 := V1.d2; have f2_V1 := V1.frozen 2; have l_V1 := V1.lt
 have m_V1 := Nat.le_of_lt l_V1; (go_wp2_with fail); refine (rmul_any b1 b2 m1 d1 m2 d2 y1 y2 x3 h1.2.1 h2.2.1 (by omega) (by omega)).mono ?_; rintro e x4 ⟨aE, lE, cE, zE, rfl, kE, tE, hE, uE, eE, hb⟩; replace V0 := V0.a hb; replace V1 := V1.a hb; replace V2 := V2.a hb; replace h1 := Rr.after hb h1; replace h2 := Rr.after hb h2; replace hx := Sl.after hb hx; replace hw := Sl.after hb hw; replace B0 := step B0 hb; clear hb; have NE : Hid (num zE = num y1 * num y2 ∧ usedN zE = lE) := ⟨eE, uE⟩; clear eE uE; have HG : Hid (0 ≤ num zx ∧ 0 ≤ num zw ∧ num zx < pw 2048 ∧ num zw < pw 2048 ∧ num zx + num zw < pw 4096 ∧ num zE < pw 4096 ∧ num zE ≠ 0) := HF.out _ _ _ Nx.out.1 Nw.out.1 NE.out.1; clear HF t1 t2; have HUE : Hid (usedN zE ≤ 4096) := used_of_lt hE.2.1 HG.out.2.2.2.2.2.1
 by_cases hss : s1 = s2
 ·
  subst hss; (have dss : (s1 == s1) = true := by simp); clear c_V0 f0_V0 d_V0 f1_V0 e_V0 f2_V0 l_V0 m_V0 c_V1 f0_V1 d_V1 f1_V1 e_V1 f2_V1 l_V1 m_V1; obtain ⟨c_V0, f0_V0, d_V0, f1_V0, e_V0, f2_V0, l_V0, m_V0⟩ := V0.q3; obtain ⟨c_V1, f0_V1, d_V1, f1_V1, e_V1, f2_V1, l_V1, m_V1⟩ := V1.q3; (go_wp2_with fail); clear c_V0 f0_V0 d_V0 f1_V0 e_V0 f2_V0 l_V0 m_V0 c_V1 f0_V1 d_V1 f1_V1 e_V1 f2_V1 l_V1 m_V1; refine wp_region_noPanic ?_; replace V0 : Va x4.drew _ _ _ := V0; replace V1 : Va x4.drew _ _ _ := V1; replace V2 : Va x4.drew _ _ _ := V2; replace h1 := h1.drw; replace h2 := h2.drw; replace hx := hx.drw; replace hw := hw.drw; replace hE := hE.drw; replace B0 := Below.drew B0; refine wp_region_held_drew (S := (fun W => W.cell? ⟨w.heap.size, 0, none⟩ = some (.bool s1) ∧ W.cell? ⟨w.heap.size, 1, none⟩ = some (.slice a1 l1 c1) ∧ W.cell? ⟨w.heap.size, 2, none⟩ = some (.slice b1 m1 d1) ∧ W.cell? ⟨w.heap.size + 1, 0, none⟩ = some (.bool s1) ∧ W.cell? ⟨w.heap.size + 1, 1, none⟩ = some (.slice a2 l2 c2) ∧ W.cell? ⟨w.heap.size + 1, 2, none⟩ = some (.slice b2 m2 d2))) (by kernel_rfl) ⟨V0.d0, V0.d1, V0.d2, V1.d0, V1.d1, V1.d2⟩ (fun hHeld => ?_)
  (obtain ⟨x5, hxd⟩ : ∃ xd, xd = x4.drew := ⟨_, rfl⟩); rw [← hxd] at V0 V1 V2 h1 h2 hx hw hE B0 hHeld ⊢; clear hxd; refine tjz 0 hHeld ?_; refine tjz 1 hHeld ?_; refine tjz 2 hHeld ?_; refine tjz 3 hHeld ?_; refine tjz 5 hHeld ?_; refine ryz 4 (fun K hK => ?_); simp only [gA, gB, gC]; (go_simp); refine (radd_any ax aw lx cx lw cw zx zw _ hx hw (by omega) (by omega)).mono ?_; rintro e x6 ⟨aS, lS, cS, zS, rfl, kS, tS, hS, uS, eS, hb⟩; replace V0 := V0.a hb; replace V1 := V1.a hb; replace V2 := V2.a hb; replace h1 := Rr.after hb h1; replace h2 := Rr.after hb h2; replace hx := Sl.after hb hx; replace hw := Sl.after hb hw
  replace hE := Sl.after hb hE; replace B0 := step B0 hb; clear hb; have HUS : Hid (usedN zS ≤ 4096) := used_of_lt hS.2.1 (by rw [eS]; exact HG.out.2.2.2.2.1); (try go_wp2_with fail); refine hK.out _ _ ⟨V0.d0, V0.d1, V0.d2, V1.d0, V1.d1, V1.d2⟩ (fun hHeld => ?_); clear hK K; refine ryz 6 (fun K hK => ?_); simp only [gA, gB, gC]; (go_simp); refine (rmake5 s1 aS aE lS cS lE cE zS zE _ hS hE kS kE (by omega) (by omega) HUS.out HUE.out HG.out.2.2.2.2.2.2).mono ?_; rintro e x7 ⟨s', a', l', c', zs', b', m', d', ys', rfl, h', _, _, hb⟩; replace V0 := V0.a hb; replace V1 := V1.a hb; replace V2 := V2.a hb; replace h1 := Rr.after hb h1; replace h2 := Rr.after hb h2; replace hx := Sl.after hb hx; replace hw := Sl.after hb hw; replace hE := Sl.after hb hE; replace hS := Sl.after hb hS; replace B0 := step B0 hb; clear hb; rw [add_val (v1 := v1) (v2 := v2) (by rw [← HV.out.1, ← HV.out.2.1, ← HV.out.2.2.1, ← HV.out.2.2.2]; have E1 := Nx.out.1; have E2 := Nw.out.1; cases s1 <;> simp only [iv_t, iv_f, eS, E1, E2] <;> grind) (by rw [NE.out.1, HV.out.2.2.1, HV.out.2.2.2])] at h'
  (try go_wp2_with fail); refine hK.out _ _ ⟨V0.d0, V0.d1, V0.d2, V1.d0, V1.d1, V1.d2⟩ (fun hHeld => ?_); clear hK K; obtain ⟨c_V2, f0_V2, d_V2, f1_V2, e_V2, f2_V2, l_V2, m_V2⟩ := V2.q3; refine ryz 7 (fun K hK => ?_); simp only [gA, gB, gC]; (go_simp); clear c_V2 f0_V2 d_V2 f1_V2 e_V2 f2_V2 l_V2 m_V2; refine sto3 V2 (.bool s') (.slice a' l' c') (.slice b' m' d') (Q := fun W => K _ W) ?_; intro x8 V' oth far; replace V0 := apz (oth _ _ _) V0; replace V1 := apz (oth _ _ _) V1; replace h1 := h1.far V2 (noInt3 _ _ _ _ _ _ _) far.1; replace h2 := h2.far V2 (noInt3 _ _ _ _ _ _ _) far.1; replace hx := hx.far V2 (noInt3 _ _ _ _ _ _ _) far.1; replace hw := hw.far V2 (noInt3 _ _ _ _ _ _ _) far.1
  replace hE := hE.far V2 (noInt3 _ _ _ _ _ _ _) far.1; replace hS := hS.far V2 (noInt3 _ _ _ _ _ _ _) far.1; replace h' := h'.far V2 (noInt3 _ _ _ _ _ _ _) far.1; replace B0 := apz (far.2 _ _) B0; replace V2 := V'; clear oth far; refine hK.out _ _ ⟨V0.d0, V0.d1, V0.d2, V1.d0, V1.d1, V1.d2⟩ (fun hHeld => ?_); clear hK K; refine dnz ?_; clear hHeld; (go_wp2_with fail); refine bodyPost_ret (results_ra rfl rfl V2) rfl ?_; exact ⟨s', a', l', c', zs', b', m', d', ys', rfl, h', B0⟩
 ·
  (have hs2 : s2 = !s1 := by cases s1 <;> cases s2 <;> simp_all); subst hs2; (have dss : (s1 == !s1) = false := by cases s1 <;> rfl); clear hss; clear c_V0 f0_V0 d_V0 f1_V0 e_V0 f2_V0 l_V0 m_V0 c_V1 f0_V1 d_V1 f1_V1 e_V1 f2_V1 l_V1 m_V1; obtain ⟨c_V0, f0_V0, d_V0, f1_V0, e_V0, f2_V0, l_V0, m_V0⟩ := V0.q3; obtain ⟨c_V1, f0_V1, d_V1, f1_V1, e_V1, f2_V1, l_V1, m_V1⟩ := V1.q3; (go_wp2_with fail); refine (rcompare_n ax aw lx cx lw cw zx zw x4 hx hw (by omega) (by omega) kx kw).mono ?_; rintro e x5 ⟨rfl, hb⟩; replace V0 := V0.a hb; replace V1 := V1.a hb; replace V2 := V2.a hb; replace h1 := Rr.after hb h1; replace h2 := Rr.after hb h2; replace hx := Sl.after hb hx; replace hw := Sl.after hb hw
  replace hE := Sl.after hb hE; replace B0 := step B0 hb; clear hb
  by_cases hlt : num zx < num zw
  ·
   rw [cmp3_lt hlt]; have HLT : Hid (num zx < num zw) := hlt; clear hlt; clear c_V0 f0_V0 d_V0 f1_V0 e_V0 f2_V0 l_V0 m_V0 c_V1 f0_V1 d_V1 f1_V1 e_V1 f2_V1 l_V1 m_V1; obtain ⟨c_V0, f0_V0, d_V0, f1_V0, e_V0, f2_V0, l_V0, m_V0⟩ := V0.q3; obtain ⟨c_V1, f0_V1, d_V1, f1_V1, e_V1, f2_V1, l_V1, m_V1⟩ := V1.q3; (go_wp2_with fail); clear c_V0 f0_V0 d_V0 f1_V0 e_V0 f2_V0 l_V0 m_V0 c_V1 f0_V1 d_V1 f1_V1 e_V1 f2_V1 l_V1 m_V1; refine wp_region_noPanic ?_; replace V0 : Va x5.drew _ _ _ := V0; replace V1 : Va x5.drew _ _ _ := V1; replace V2 : Va x5.drew _ _ _ := V2; replace h1 := h1.drw; replace h2 := h2.drw; replace hx := hx.drw; replace hw := hw.drw; replace hE := hE.drw; replace B0 := Below.drew B0; refine wp_region_held_drew (S := (fun W => W.cell? ⟨w.heap.size, 0, none⟩ = some (.bool s1) ∧ W.cell? ⟨w.heap.size, 1, none⟩ = some (.slice a1 l1 c1) ∧ W.cell? ⟨w.heap.size, 2, none⟩ = some (.slice b1 m1 d1) ∧ W.cell? ⟨w.heap.size + 1, 0, none⟩ = some (.bool (!s1)) ∧ W.cell? ⟨w.heap.size + 1, 1, none⟩ = some (.slice a2 l2 c2) ∧ W.cell? ⟨w.heap.size + 1, 2, none⟩ = some (.slice b2 m2 d2))) (by kernel_rfl) ⟨V0.d0, V0.d1, V0.d2, V1.d0, V1.d1, V1.d2⟩ (fun hHeld => ?_)
   (obtain ⟨x6, hxd⟩ : ∃ xd, xd = x5.drew := ⟨_, rfl⟩); rw [← hxd] at V0 V1 V2 h1 h2 hx hw hE B0 hHeld ⊢; clear hxd; refine tjz 0 hHeld ?_; refine tjz 1 hHeld ?_; refine tjz 2 hHeld ?_; refine tjz 3 hHeld ?_; refine tjz 5 hHeld ?_; refine ryz 4 (fun K hK => ?_); simp only [gA, gB, gC]; (go_simp); refine (rsub_any aw ax lw cw lx cx zw zx _ hw hx (by omega) (by omega) (Int.le_of_lt HLT.out)).mono ?_; rintro e x7 ⟨aS, lS, cS, zS, rfl, kS, tS, hS, uS, eS, hb⟩; replace V0 := V0.a hb; replace V1 := V1.a hb; replace V2 := V2.a hb; replace h1 := Rr.after hb h1; replace h2 := Rr.after hb h2; replace hx := Sl.after hb hx
   replace hw := Sl.after hb hw; replace hE := Sl.after hb hE; replace B0 := step B0 hb; clear hb; have HUS : Hid (usedN zS ≤ 4096) := used_of_lt hS.2.1 (by rw [eS]; have := HG.out.1; exact Int.lt_of_lt_of_le (Int.lt_of_le_of_lt (by omega) HG.out.2.2.2.1) (pw_mono (by omega))); (try go_wp2_with fail); refine hK.out _ _ ⟨V0.d0, V0.d1, V0.d2, V1.d0, V1.d1, V1.d2⟩ (fun hHeld => ?_); clear hK K; refine ryz 6 (fun K hK => ?_); simp only [gA, gB, gC]; (go_simp); refine (rmake5 (!s1) aS aE lS cS lE cE zS zE _ hS hE kS kE (by omega) (by omega) HUS.out HUE.out HG.out.2.2.2.2.2.2).mono ?_; rintro e x8 ⟨s', a', l', c', zs', b', m', d', ys', rfl, h', _, _, hb⟩; replace V0 := V0.a hb; replace V1 := V1.a hb; replace V2 := V2.a hb; replace h1 := Rr.after hb h1; replace h2 := Rr.after hb h2; replace hx := Sl.after hb hx; replace hw := Sl.after hb hw
   replace hE := Sl.after hb hE; replace hS := Sl.after hb hS; replace B0 := step B0 hb; clear hb; rw [add_val (v1 := v1) (v2 := v2) (by rw [← HV.out.1, ← HV.out.2.1, ← HV.out.2.2.1, ← HV.out.2.2.2]; have E1 := Nx.out.1; have E2 := Nw.out.1; cases s1 <;> simp only [iv_t, iv_f, eS, E1, E2, Bool.not_false, Bool.not_true] <;> grind) (by rw [NE.out.1, HV.out.2.2.1, HV.out.2.2.2])] at h'; (try go_wp2_with fail); refine hK.out _ _ ⟨V0.d0, V0.d1, V0.d2, V1.d0, V1.d1, V1.d2⟩ (fun hHeld => ?_); clear hK K; obtain ⟨c_V2, f0_V2, d_V2, f1_V2, e_V2, f2_V2, l_V2, m_V2⟩ := V2.q3; refine ryz 7 (fun K hK => ?_); simp only [gA, gB, gC]; (go_simp); clear c_V2 f0_V2 d_V2 f1_V2 e_V2 f2_V2 l_V2 m_V2; refine sto3 V2 (.bool s') (.slice a' l' c') (.slice b' m' d') (Q := fun W => K _ W) ?_
   intro x9 V' oth far; replace V0 := apz (oth _ _ _) V0; replace V1 := apz (oth _ _ _) V1; replace h1 := h1.far V2 (noInt3 _ _ _ _ _ _ _) far.1; replace h2 := h2.far V2 (noInt3 _ _ _ _ _ _ _) far.1; replace hx := hx.far V2 (noInt3 _ _ _ _ _ _ _) far.1; replace hw := hw.far V2 (noInt3 _ _ _ _ _ _ _) far.1; replace hE := hE.far V2 (noInt3 _ _ _ _ _ _ _) far.1; replace hS := hS.far V2 (noInt3 _ _ _ _ _ _ _) far.1; replace h' := h'.far V2 (noInt3 _ _ _ _ _ _ _) far.1; replace B0 := apz (far.2 _ _) B0; replace V2 := V'; clear oth far; refine hK.out _ _ ⟨V0.d0, V0.d1, V0.d2, V1.d0, V1.d1, V1.d2⟩ (fun hHeld => ?_); clear hK K; refine dnz ?_; clear hHeld; (go_wp2_with fail); refine bodyPost_ret (results_ra rfl rfl V2) rfl ?_; exact ⟨s', a', l', c', zs', b', m', d', ys', rfl, h', B0⟩
  ·
   have HLT : Hid (num zw ≤ num zx) := Int.not_lt.1 hlt; (have hc0 : ¬ cmp3 (num zx) (num zw) < 0 := by unfold cmp3; split <;> first | omega | (split <;> omega)); (obtain ⟨q, hq⟩ : ∃ q, cmp3 (num zx) (num zw) = q := ⟨_, rfl⟩); rw [hq] at hc0 ⊢; clear hq hlt; clear c_V0 f0_V0 d_V0 f1_V0 e_V0 f2_V0 l_V0 m_V0 c_V1 f0_V1 d_V1 f1_V1 e_V1 f2_V1 l_V1 m_V1; obtain ⟨c_V0, f0_V0, d_V0, f1_V0, e_V0, f2_V0, l_V0, m_V0⟩ := V0.q3; obtain ⟨c_V1, f0_V1, d_V1, f1_V1, e_V1, f2_V1, l_V1, m_V1⟩ := V1.q3; (go_wp2_with fail); clear c_V0 f0_V0 d_V0 f1_V0 e_V0 f2_V0 l_V0 m_V0 c_V1 f0_V1 d_V1 f1_V1 e_V1 f2_V1 l_V1 m_V1; refine wp_region_noPanic ?_; replace V0 : Va x5.drew _ _ _ := V0; replace V1 : Va x5.drew _ _ _ := V1; replace V2 : Va x5.drew _ _ _ := V2
   replace h1 := h1.drw; replace h2 := h2.drw; replace hx := hx.drw; replace hw := hw.drw; replace hE := hE.drw; replace B0 := Below.drew B0; refine wp_region_held_drew (S := (fun W => W.cell? ⟨w.heap.size, 0, none⟩ = some (.bool s1) ∧ W.cell? ⟨w.heap.size, 1, none⟩ = some (.slice a1 l1 c1) ∧ W.cell? ⟨w.heap.size, 2, none⟩ = some (.slice b1 m1 d1) ∧ W.cell? ⟨w.heap.size + 1, 0, none⟩ = some (.bool (!s1)) ∧ W.cell? ⟨w.heap.size + 1, 1, none⟩ = some (.slice a2 l2 c2) ∧ W.cell? ⟨w.heap.size + 1, 2, none⟩ = some (.slice b2 m2 d2))) (by kernel_rfl) ⟨V0.d0, V0.d1, V0.d2, V1.d0, V1.d1, V1.d2⟩ (fun hHeld => ?_); (obtain ⟨x6, hxd⟩ : ∃ xd, xd = x5.drew := ⟨_, rfl⟩); rw [← hxd] at V0 V1 V2 h1 h2 hx hw hE B0 hHeld ⊢; clear hxd; refine tjz 0 hHeld ?_; refine tjz 1 hHeld ?_; refine tjz 2 hHeld ?_
   refine tjz 3 hHeld ?_; refine tjz 5 hHeld ?_; refine ryz 4 (fun K hK => ?_); simp only [gA, gB, gC]; (go_simp); refine (rsub_any ax aw lx cx lw cw zx zw _ hx hw (by omega) (by omega) HLT.out).mono ?_; rintro e x7 ⟨aS, lS, cS, zS, rfl, kS, tS, hS, uS, eS, hb⟩; replace V0 := V0.a hb; replace V1 := V1.a hb; replace V2 := V2.a hb; replace h1 := Rr.after hb h1; replace h2 := Rr.after hb h2; replace hx := Sl.after hb hx; replace hw := Sl.after hb hw; replace hE := Sl.after hb hE; replace B0 := step B0 hb; clear hb; have HUS : Hid (usedN zS ≤ 4096) := used_of_lt hS.2.1 (by rw [eS]; have := HG.out.2.1; exact Int.lt_of_lt_of_le (Int.lt_of_le_of_lt (by omega) HG.out.2.2.1) (pw_mono (by omega))); (try go_wp2_with fail); refine hK.out _ _ ⟨V0.d0, V0.d1, V0.d2, V1.d0, V1.d1, V1.d2⟩ (fun hHeld => ?_)
   clear hK K; refine ryz 6 (fun K hK => ?_); simp only [gA, gB, gC]; (go_simp); refine (rmake5 s1 aS aE lS cS lE cE zS zE _ hS hE kS kE (by omega) (by omega) HUS.out HUE.out HG.out.2.2.2.2.2.2).mono ?_; rintro e x8 ⟨s', a', l', c', zs', b', m', d', ys', rfl, h', _, _, hb⟩; replace V0 := V0.a hb; replace V1 := V1.a hb; replace V2 := V2.a hb; replace h1 := Rr.after hb h1; replace h2 := Rr.after hb h2; replace hx := Sl.after hb hx; replace hw := Sl.after hb hw; replace hE := Sl.after hb hE; replace hS := Sl.after hb hS; replace B0 := step B0 hb; clear hb; rw [add_val (v1 := v1) (v2 := v2) (by rw [← HV.out.1, ← HV.out.2.1, ← HV.out.2.2.1, ← HV.out.2.2.2]; have E1 := Nx.out.1; have E2 := Nw.out.1; cases s1 <;> simp only [iv_t, iv_f, eS, E1, E2, Bool.not_false, Bool.not_true] <;> grind) (by rw [NE.out.1, HV.out.2.2.1, HV.out.2.2.2])] at h'
   (try go_wp2_with fail); refine hK.out _ _ ⟨V0.d0, V0.d1, V0.d2, V1.d0, V1.d1, V1.d2⟩ (fun hHeld => ?_); clear hK K; obtain ⟨c_V2, f0_V2, d_V2, f1_V2, e_V2, f2_V2, l_V2, m_V2⟩ := V2.q3; refine ryz 7 (fun K hK => ?_); simp only [gA, gB, gC]; (go_simp); clear c_V2 f0_V2 d_V2 f1_V2 e_V2 f2_V2 l_V2 m_V2; refine sto3 V2 (.bool s') (.slice a' l' c') (.slice b' m' d') (Q := fun W => K _ W) ?_; intro x9 V' oth far; replace V0 := apz (oth _ _ _) V0; replace V1 := apz (oth _ _ _) V1; replace h1 := h1.far V2 (noInt3 _ _ _ _ _ _ _) far.1; replace h2 := h2.far V2 (noInt3 _ _ _ _ _ _ _) far.1; replace hx := hx.far V2 (noInt3 _ _ _ _ _ _ _) far.1; replace hw := hw.far V2 (noInt3 _ _ _ _ _ _ _) far.1
   replace hE := hE.far V2 (noInt3 _ _ _ _ _ _ _) far.1; replace hS := hS.far V2 (noInt3 _ _ _ _ _ _ _) far.1; replace h' := h'.far V2 (noInt3 _ _ _ _ _ _ _) far.1; replace B0 := apz (far.2 _ _) B0; replace V2 := V'; clear oth far; refine hK.out _ _ ⟨V0.d0, V0.d1, V0.d2, V1.d0, V1.d1, V1.d2⟩ (fun hHeld => ?_); clear hK K; refine dnz ?_; clear hHeld; (go_wp2_with fail); refine bodyPost_ret (results_ra rfl rfl V2) rfl ?_; exact ⟨s', a', l', c', zs', b', m', d', ys', rfl, h', B0⟩

set_option maxHeartbeats 4000000 in
theorem rsub5 (s1 : Bool) (a1 : Option Addr) (l1 c1 : Nat) (z1 : List Int) (b1 : Option Addr) (m1 d1 : Nat) (y1 : List Int) (v1 : Rat) (s2 : Bool) (a2 : Option Addr) (l2 c2 : Nat) (z2 : List Int) (b2 : Option Addr) (m2 d2 : Nat) (y2 : List Int) (v2 : Rat) (w : World) (h1 : Rr w s1 a1 l1 c1 z1 b1 m1 d1 y1 v1) (h2 : Rr w s2 a2 l2 c2 z2 b2 m2 d2 y2 v2) (t1 : Short v1) (t2 : Short v2) :
  Calls Tryz.prog 60 #[.agg #[.bool s1, .slice a1 l1 c1, .slice b1 m1 d1], .agg #[.bool s2, .slice a2 l2 c2, .slice b2 m2 d2]] w fun e w' => RrP w (v1 - v2) e w' := by
 have HT : Hid (Short v1 ∧ Short (-v2)) := ⟨t1, t2.neg⟩; clear t1 t2; have B0 : Below w.heap.size w w := Below.refl _ _
 go_enter Tryz.func60, Tryz.ntmps60
 (go_wp2_with fail); refine ent3 w _ _ _ _ _ _ (Q := fun W => Code.wp Tryz.prog _ _ _ W) ?_; intro x1 hb hs_x1 V0 V1 V2; replace h1 := Rr.after hb h1; replace h2 := Rr.after hb h2; replace B0 := step B0 hb; clear hb hs_x1; refine wp_region_noPanic ?_; replace V0 : Va x1.drew _ _ _ := V0; replace V1 : Va x1.drew _ _ _ := V1; replace V2 : Va x1.drew _ _ _ := V2; replace h1 := h1.drw; replace h2 := h2.drw; replace B0 := Below.drew B0; refine wp_region_held_drew (S := (fun W => W.cell? ⟨w.heap.size, 0, none⟩ = some (.bool s1) ∧ W.cell? ⟨w.heap.size, 1, none⟩ = some (.slice a1 l1 c1) ∧ W.cell? ⟨w.heap.size, 2, none⟩ = some (.slice b1 m1 d1) ∧ W.cell? ⟨w.heap.size + 1, 0, none⟩ = some (.bool s2) ∧ W.cell? ⟨w.heap.size + 1, 1, none⟩ = some (.slice a2 l2 c2) ∧ W.cell? ⟨w.heap.size + 1, 2, none⟩ = some (.slice b2 m2 d2))) (by kernel_rfl) ⟨V0.d0, V0.d1, V0.d2, V1.d0, V1.d1, V1.d2⟩ (fun hHeld => ?_); (obtain ⟨x2, hxd⟩ : ∃ xd, xd = x1.drew := ⟨_, rfl⟩)
 rw [← hxd] at V0 V1 V2 h1 h2 B0 hHeld ⊢; clear hxd; refine tjz 0 hHeld ?_; refine tjz 1 hHeld ?_; refine ryz 2 (fun K hK => ?_); simp only [gA, gB, gC]; (go_simp); refine (rneg5 s2 a2 l2 c2 z2 b2 m2 d2 y2 v2 _ h2).mono ?_; rintro e x3 ⟨sN, aN, lN, cN, zN, bN, mN, dN, yN, rfl, hN, hb⟩; replace V0 := V0.a hb; replace V1 := V1.a hb; replace V2 := V2.a hb; replace h1 := Rr.after hb h1; replace h2 := Rr.after hb h2; replace B0 := step B0 hb; clear hb; (try go_wp2_with fail); refine hK.out _ _ ⟨V0.d0, V0.d1, V0.d2, V1.d0, V1.d1, V1.d2⟩ (fun hHeld => ?_); clear hK K; refine ryz 3 (fun K hK => ?_); simp only [gA, gB, gC]; (go_simp); refine (radd5 s1 a1 l1 c1 z1 b1 m1 d1 y1 v1 sN aN lN cN zN bN mN dN yN (-v2) _ h1 hN HT.out.1 HT.out.2).mono ?_
 rintro e x4 ⟨s', a', l', c', zs', b', m', d', ys', rfl, h', hb⟩; replace V0 := V0.a hb; replace V1 := V1.a hb; replace V2 := V2.a hb; replace h1 := Rr.after hb h1; replace h2 := Rr.after hb h2; replace hN := Rr.after hb hN; replace B0 := step B0 hb; clear hb; rw [← Rat.sub_eq_add_neg] at h'; (try go_wp2_with fail); refine hK.out _ _ ⟨V0.d0, V0.d1, V0.d2, V1.d0, V1.d1, V1.d2⟩ (fun hHeld => ?_); clear hK K; obtain ⟨c_V2, f0_V2, d_V2, f1_V2, e_V2, f2_V2, l_V2, m_V2⟩ := V2.q3; refine ryz 4 (fun K hK => ?_); simp only [gA, gB, gC]; (go_simp); clear c_V2 f0_V2 d_V2 f1_V2 e_V2 f2_V2 l_V2 m_V2; refine sto3 V2 (.bool s') (.slice a' l' c') (.slice b' m' d') (Q := fun W => K _ W) ?_; intro x5 V' oth far; replace V0 := apz (oth _ _ _) V0
 replace V1 := apz (oth _ _ _) V1; replace h1 := h1.far V2 (noInt3 _ _ _ _ _ _ _) far.1; replace h2 := h2.far V2 (noInt3 _ _ _ _ _ _ _) far.1; replace hN := hN.far V2 (noInt3 _ _ _ _ _ _ _) far.1; replace h' := h'.far V2 (noInt3 _ _ _ _ _ _ _) far.1; replace B0 := apz (far.2 _ _) B0; replace V2 := V'; clear oth far; refine hK.out _ _ ⟨V0.d0, V0.d1, V0.d2, V1.d0, V1.d1, V1.d2⟩ (fun hHeld => ?_); clear hK K; refine dnz ?_; clear hHeld; (go_wp2_with fail); refine bodyPost_ret (results_ra rfl rfl V2) rfl ?_; exact ⟨s', a', l', c', zs', b', m', d', ys', rfl, h', B0⟩

end Go.Proofs.YtenmkbofpmbedaaGreatDoor
namespace Go.Proofs.YtenmkbofpmbedaaGreatDoor
open Go.ChangeShapes Go.WideShapes Go.ChangeAt Go.RowKit
set_option linter.unusedVariables false

theorem list6p {α : Type} {l : List α} (h : l.length = 6) : ∃ a b c d e f, l = [a, b, c, d, e, f] := by
  match l, h with
  | [a, b, c, d, e, f], _ => exact ⟨a, b, c, d, e, f, rfl⟩
theorem list3p {α : Type} {l : List α} (h : l.length = 3) : ∃ a b c, l = [a, b, c] := by
  match l, h with
  | [a, b, c], _ => exact ⟨a, b, c, rfl⟩
theorem list2p {α : Type} {l : List α} (h : l.length = 2) : ∃ a b, l = [a, b] := by
  match l, h with
  | [a, b], _ => exact ⟨a, b, rfl⟩
instance : Inhabited Rc := ⟨Rc.nil⟩
theorem cPiece : Tryz.prog.cellsOf 95 = 6 := by kernel_rfl
theorem cRatio : Tryz.prog.cellsOf 25 = 3 := by kernel_rfl
theorem bytes8p : Tryz.prog.bytesOf 125 = 8 := by kernel_rfl
theorem bytesPi : Tryz.prog.bytesOf 95 = 112 := by kernel_rfl
section
variable {H : Type} {enc : TypeId × Value → H} {W : World}
theorem limbs_open {n : Nat} {v : Value} {y : DataW H × List MemPlace} (h : DataW.trod enc Tryz.prog W 0 (fun _ => true) true n 23 [v] = some y) (hs : ∀ x ∈ y.1.weights Tryz.prog 23, x ≤ reachBytes) :
    ∃ (a : Option Addr) (len cap : Nat) (zs : List Int), v = .slice a len cap ∧ Sl W a len zs ∧ len ≤ cap ∧ len ≤ 17592186043904 := by
  rcases open_ints Tryz.underlying23 Tryz.underlying125 (by kernel_rfl) h with ⟨hcs, _⟩ | ⟨x, l, c, zs, hcs, _, hl, hm, hz, hx, hcell, hwz⟩
  · exact ⟨Option.none, 0, 0, [], by simpa using hcs, ⟨rfl, Limbs.nil, fun h => absurd h (by decide)⟩, Nat.le_refl _, by decide⟩
  · have hz' : zs.length = c := by simpa using hz
    have hd : y.1 = DataW.slice (lits .u64 (zs.take l)) (lits .u64 (zs.drop l)) := congrArg Prod.fst hx
    have hb := hs (((lits (H := H) .u64 (zs.take l)).length + (lits (H := H) .u64 (zs.drop l)).length) * Tryz.prog.bytesOf 125) (by rw [hd]; simp [DataW.weights, Tryz.underlying23])
    rw [bytes8p] at hb
    have hcap : c ≤ 17592186043904 := by
      simp only [lits, List.length_map, List.length_take, List.length_drop, reachBytes] at hb
      omega
    refine ⟨some x, l, c, zs.take l, by simpa using hcs, ⟨by rw [List.length_take]; omega, fun z hz2 => word_of_wf (hwz z (List.mem_of_mem_take hz2)), fun h => ?_⟩, hl, by omega⟩
    obtain ⟨bb, off, rfl, hc⟩ := ints_at hcell (by omega)
    refine ⟨bb, off, rfl, fun j hj => ?_⟩
    rw [hc j (by omega), List.getD_eq_getElem?_getD, List.getD_eq_getElem?_getD, List.getElem?_take_of_lt hj]
theorem ratio_open {n : Nat} {v0 v1 v2 : Value} {y : DataW H × List MemPlace} (h : DataW.trod enc Tryz.prog W 0 (fun _ => true) true n 25 [v0, v1, v2] = some y) (hs : ∀ x ∈ y.1.weights Tryz.prog 25, x ≤ reachBytes) :
    ∃ r : Rc, [v0, v1, v2] = r.vs ∧ Rd2 W r ∧ Lng r := by
  obtain ⟨xs, k, _, hy, hl, hxl, hf⟩ := DataW.trod_struct Tryz.underlying25 h
  obtain ⟨y0, y1, y2, rfl⟩ := list3p hxl
  have g0 := hf 0 _ rfl
  have g1 := hf 1 _ rfl
  have g2 := hf 2 _ rfl
  have e1 : Tryz.prog.cellsOf 4 = 1 := by kernel_rfl
  have e2 : Tryz.prog.cellsOf 23 = 1 := by kernel_rfl
  simp [e1, e2] at g0 g1 g2
  have hw : ∀ x ∈ DataW.weightsEach Tryz.prog [4, 23, 23] [y0.1, y1.1, y2.1], x ≤ reachBytes := fun x hx => hs x (by
    rw [hy]
    simp only [DataW.weights, Tryz.underlying25]
    exact hx)
  obtain ⟨u, hu, -⟩ := DataW.trod_bool Tryz.underlying4 g0
  obtain ⟨a, l, c, z, rfl, s1, c1, b1⟩ := limbs_open g1 (fun x hx => hw x (DataW.weights_mem_each (j := 1) rfl rfl x hx))
  obtain ⟨b, m, d, t, rfl, s2, c2, b2⟩ := limbs_open g2 (fun x hx => hw x (DataW.weights_mem_each (j := 2) rfl rfl x hx))
  simp at hu
  subst hu
  exact ⟨⟨u, a, l, c, z, b, m, d, t⟩, rfl, ⟨s1, s2, c1, c2⟩, b1, b2⟩
theorem piece_open {n : Nat} {cs : List Value} {y : DataW H × List MemPlace} (h : DataW.trod enc Tryz.prog W 0 (fun _ => true) true n 95 cs = some y) (hs : ∀ x ∈ y.1.weights Tryz.prog 95, x ≤ reachBytes) :
    ∃ p : Pc, cs = Pc.vs p ∧ (Rd2 W p.1 ∧ Lng p.1) ∧ (Rd2 W p.2 ∧ Lng p.2) := by
  obtain ⟨xs, k, _, hy, hl, hxl, hf⟩ := DataW.trod_struct Tryz.underlying95 h
  obtain ⟨v0, v1, v2, v3, v4, v5, rfl⟩ := list6p (hl.trans cPiece)
  obtain ⟨y0, y1, rfl⟩ := list2p hxl
  have g0 := hf 0 _ rfl
  have g1 := hf 1 _ rfl
  simp [cRatio] at g0 g1
  have hw : ∀ x ∈ DataW.weightsEach Tryz.prog [25, 25] [y0.1, y1.1], x ≤ reachBytes := fun x hx => hs x (by
    rw [hy]
    simp only [DataW.weights, Tryz.underlying95]
    exact hx)
  obtain ⟨p, hp, r1⟩ := ratio_open g0 (fun x hx => hw x (DataW.weights_mem_each (j := 0) rfl rfl x hx))
  obtain ⟨q, hq, r2⟩ := ratio_open g1 (fun x hx => hw x (DataW.weights_mem_each (j := 1) rfl rfl x hx))
  simp only [List.cons.injEq, and_true] at hp hq
  obtain ⟨rfl, rfl, rfl⟩ := hp
  obtain ⟨rfl, rfl, rfl⟩ := hq
  exact ⟨(p, q), rfl, r1, r2⟩
theorem weights_all {P : Program} {e : TypeId} : ∀ {ds : List (DataW H)} {d : DataW H}, d ∈ ds → ∀ x ∈ d.weights P e, x ∈ DataW.weightsAll P e ds
  | d0 :: ds, d, hd, x, hx => by
    simp only [DataW.weightsAll, List.mem_append]
    rcases List.mem_cons.1 hd with rfl | h
    · exact .inl hx
    · exact .inr (weights_all h x hx)
  | [], _, hd, _, _ => by cases hd
theorem open_pieces {a : Option Addr} {len cap : Nat} {d : DataW H} {p : List MemPlace} (h : DataW.Trod enc Tryz.prog W 0 (fun _ => true) true 39 (.slice a len cap) d p) (hs : ∀ x ∈ d.weights Tryz.prog 39, x ≤ reachBytes) :
    ∃ ps : List Pc, Le elP W a len ps ∧ len ≤ cap ∧ cap ≤ 1256584717423 ∧ (a = none → len = 0 ∧ cap = 0) ∧ ∀ q ∈ ps, (Rd2 W q.1 ∧ Lng q.1) ∧ (Rd2 W q.2 ∧ Lng q.2) := by
  obtain ⟨fuel, hf⟩ := h
  rcases Go.Deep.open_slice Tryz.underlying39 hf with ⟨hcs, _⟩ | ⟨ad, l, c, m, n, D, Pl, hcs, _, hl, hcm, hmm, hd, hx⟩
  · simp [Value.cells] at hcs
    obtain ⟨rfl, rfl, rfl⟩ := hcs
    exact ⟨[], Le.nil _ _, Nat.le_refl _, by decide, fun _ => ⟨rfl, rfl⟩, fun n hn => by simp at hn⟩
  · simp [Value.cells] at hcs
    obtain ⟨rfl, rfl, rfl⟩ := hcs
    simp at hmm
    subst hmm
    have hd1 : d = DataW.slice ((List.range len).map D) ((List.range (m - len)).map fun j => D (len + j)) := congrArg Prod.fst hd
    rw [hd1] at hs
    simp only [DataW.weights, Tryz.underlying39] at hs
    have hb := hs _ (List.mem_cons_self ..)
    rw [bytesPi] at hb
    simp only [List.length_map, List.length_range, reachBytes] at hb
    have each : ∀ i, i < len → ∃ nd : Pc, (∀ j u, (Pc.vs nd)[j]? = some u → W.cell? ((ad.add (i * 6)).add j) = some u) ∧ (Rd2 W nd.1 ∧ Lng nd.1) ∧ (Rd2 W nd.2 ∧ Lng nd.2) := by
      intro i hi
      obtain ⟨cs', h1, h2⟩ := hx i (by omega)
      rw [cPiece] at h1
      obtain ⟨nd, rfl, h6⟩ := piece_open h2 (fun x hx => hs x (List.mem_cons_of_mem _ (List.mem_append_left _ (weights_all (List.mem_map.2 ⟨i, List.mem_range.2 hi, rfl⟩) x hx))))
      obtain ⟨_, hlen, hcell⟩ := World.cells?_some h1
      refine ⟨nd, fun j u hj => ?_, h6⟩
      have hj6 : j < 6 := by
        rcases Nat.lt_or_ge j 6 with h' | h'
        · exact h'
        · rw [List.getElem?_eq_none (by exact h')] at hj; cases hj
      have := hcell j hj6
      rw [this, hj]
    obtain ⟨Q, hQ⟩ := Go.Deep.choose_lt each
    refine ⟨(List.range len).map Q, ⟨by simp, fun h0 => ?_⟩, hl, by omega, (fun h => by cases h), fun n hn => ?_⟩
    · obtain ⟨b, off, spot⟩ := ad
      have hspot : spot = none := by
        have := (hQ 0 h0).1 0 _ rfl
        simpa [Addr.add] using World.cell?_spot this
      subst hspot
      refine ⟨b, off, rfl, fun i u hu => ?_⟩
      have hlen : (rowE elP ((List.range len).map Q)).length = len * 6 := by rw [rowE_length]; simp; rfl
      have hi : i < len * 6 := by
        rcases Nat.lt_or_ge i (rowE elP ((List.range len).map Q)).length with h' | h'
        · omega
        · rw [List.getElem?_eq_none h'] at hu; cases hu
      have hq := rowE_get elP (i % 6) (Nat.mod_lt _ (by decide)) ((List.range len).map Q) (i / 6) (by simp; omega)
      rw [show i / 6 * elP.s + i % 6 = i by show i / 6 * 6 + i % 6 = i; omega, hu] at hq
      have hg : ((List.range len).map Q).getD (i / 6) elP.dft = Q (i / 6) := by simp [show i / 6 < len by omega]
      rw [hg] at hq
      have := (hQ (i / 6) (by omega)).1 (i % 6) u hq.symm
      rw [Go.WideShapes.add_plain, Go.WideShapes.add_plain] at this
      rw [← this]
      congr 2
      omega
    · simp only [List.mem_map, List.mem_range] at hn
      obtain ⟨i, hi, rfl⟩ := hn
      exact (hQ i hi).2
end
end Go.Proofs.YtenmkbofpmbedaaGreatDoor
