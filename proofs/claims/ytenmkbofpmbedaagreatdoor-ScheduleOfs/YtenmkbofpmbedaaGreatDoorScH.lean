import Derived.Test.YtenmkbofpmbedaaGreatDoorMgAa
import Derived.Test.YtenmkbofpmbedaaGreatDoorScE
import Derived.Test.YtenmkbofpmbedaaGreatDoorMgAq
namespace Go.Proofs.YtenmkbofpmbedaaGreatDoor
open Go.RowKit Go.Shelf
set_option linter.unusedVariables false
set_option maxRecDepth 20000

theorem rd_rn {w : World} {r : Rc} {v : Rat} (h : Rd2 w r) (hN : Nm r v) : Rn w r v := by
  obtain ⟨⟨n1, n2, n3, n4, n5⟩, e1, e2⟩ := hN
  refine ⟨h.1, h.2.1, by rw [n1, h.1.1], by rw [n2, h.2.1.1], h.2.2, e1, e2, fun hs hz => n4 ⟨hs, ?_⟩⟩
  have := (num_eq_zero h.1.2.1).1 hz
  omega
theorem long18 (r : Rc) (w : World) : Calls Tryz.prog 52 #[.agg #[.bool r.s, .slice r.a r.l r.c, .slice r.b r.m r.d]] w fun e w' => e = .returned (.bool (decide (3 < max (r.l : Int) (r.m : Int)))) ∧ Below w.heap.size w w' := by
  by_cases h1 : (3 : Int) < (r.l : Int)
  · have HE : Hid (decide (3 < max (r.l : Int) (r.m : Int)) = true) := by show _ = _; rw [decide_eq_true_iff]; omega
    go_enter Tryz.func52, Tryz.ntmps52
    go_wp2_with fail
    go_ret
    exact ⟨by rw [HE.out]; rfl, (Below.refl _ _).alloc (Nat.le_refl _) _⟩
  · by_cases h2 : (3 : Int) < (r.m : Int)
    · have HE : Hid (decide (3 < max (r.l : Int) (r.m : Int)) = true) := by show _ = _; rw [decide_eq_true_iff]; omega
      go_enter Tryz.func52, Tryz.ntmps52
      go_wp2_with fail
      go_ret
      exact ⟨by rw [HE.out]; rfl, (Below.refl _ _).alloc (Nat.le_refl _) _⟩
    · have HE : Hid (decide (3 < max (r.l : Int) (r.m : Int)) = false) := by show _ = _; rw [decide_eq_false_iff_not]; omega
      go_enter Tryz.func52, Tryz.ntmps52
      go_wp2_with fail
      go_ret
      exact ⟨by rw [HE.out]; rfl, (Below.refl _ _).alloc (Nat.le_refl _) _⟩
theorem chk_rc (p : Rc) (w : World) (h : Rd2 w p) (hl : ¬ 3 < max (p.l : Int) (p.m : Int)) :
    Calls Tryz.prog 40 #[.agg #[.bool p.s, .slice p.a p.l p.c, .slice p.b p.m p.d]] w fun e w' => ∃ er : Int, e = .returned (.int .i64 er) ∧ Hid ((er = 0 ∧ ∃ v, Nm p v ∧ Sz 3 v) ∨ (er ≠ 0 ∧ ∀ v, ¬ Nm p v)) ∧ Below w.heap.size w w' := by
  refine (check5 p.s p.a p.l p.c p.z p.b p.m p.d p.y w h).mono ?_
  rintro e w' ⟨er, rfl, hc, hb⟩
  refine ⟨er, rfl, ?_, hb⟩
  rcases hc.out with ⟨-, h0⟩ | ⟨h0, -, -, h1⟩ | ⟨h0, -, -, h1⟩
  · omega
  · exact .inr ⟨by omega, fun v hv => h1 hv.1⟩
  · obtain ⟨v, e1, e2, e3⟩ := norm_rat h.1.2.1 h.2.1.2.1 h1
    exact .inl ⟨h0, v, ⟨h1, e1, e2⟩, sz_of h.1 h.2.1 (by omega) (by omega) e1 e2⟩
theorem rint_rc (n : Int) (v : Rat) (h1 : -9223372036854775808 ≤ n) (h2 : n ≤ 9223372036854775807) (he : Rat.divInt n 1 = v) (w : World) :
    Calls Tryz.prog 47 #[.int .i64 n] w fun e w' => ∃ r : Rc, e = .returned (.agg #[.bool r.s, .slice r.a r.l r.c, .slice r.b r.m r.d]) ∧ Rn w' r v ∧ Below w.heap.size w w' := by
  refine (rint5 n h1 h2 w).mono ?_
  rintro e w' ⟨s, a, l, c, z, b, m, d, y, rfl, h, -, -, hb⟩
  rw [he] at h
  exact ⟨⟨s, a, l, c, z, b, m, d, y⟩, rfl, h, hb⟩
theorem rsign_rc (p : Rc) (v : Rat) (w : World) (h : Rn w p v) :
    Calls Tryz.prog 43 #[.agg #[.bool p.s, .slice p.a p.l p.c, .slice p.b p.m p.d]] w fun e w' => e = .returned (.int .i64 (Int.sign v.num)) ∧ Below w.heap.size w w' := rsign5 p.s p.a p.l p.c p.z p.b p.m p.d p.y v w h
theorem rcmp_rc (p q : Rc) (x y : Rat) (w : World) (h1 : Rn w p x) (h2 : Rn w q y) (t1 : Short x) (t2 : Short y) :
    Calls Tryz.prog 53 #[.agg #[.bool p.s, .slice p.a p.l p.c, .slice p.b p.m p.d], .agg #[.bool q.s, .slice q.a q.l q.c, .slice q.b q.m q.d]] w fun e w' => e = .returned (.int .i64 (qcmp x y)) ∧ Below w.heap.size w w' :=
  rcompare7 p.s p.a p.l p.c p.z p.b p.m p.d p.y x q.s q.a q.l q.c q.z q.b q.m q.d q.y y w h1 h2 t1 t2
theorem rzero_rc (p : Rc) (v : Rat) (w : World) (h : Rn w p v) :
    Calls Tryz.prog 54 #[.agg #[.bool p.s, .slice p.a p.l p.c, .slice p.b p.m p.d]] w fun e w' => e = .returned (.bool (decide (v = 0))) ∧ Below w.heap.size w w' := by
  have hz : (v = 0) ↔ p.l = 0 := by
    have hu := h.2.2.1
    have e1 := h.2.2.2.2.2.1
    have z0 := num_eq_zero h.1.2.1
    rw [← Rat.num_eq_zero, ← e1]
    have : iv p.s p.z = 0 ↔ num p.z = 0 := by generalize p.s = s; cases s <;> simp only [iv_t, iv_f] <;> omega
    rw [this, z0, hu]
  by_cases h0 : p.l = 0
  · have HE : Hid (decide (v = 0) = true) := decide_eq_true (hz.2 h0)
    have e2 : ((p.l : Int) == 0) = true := by simp; omega
    clear hz
    go_enter Tryz.func54, Tryz.ntmps54
    go_wp2_with fail
    go_ret
    exact ⟨by rw [HE.out]; rfl, (Below.refl _ _).alloc (Nat.le_refl _) _⟩
  · have HE : Hid (decide (v = 0) = false) := decide_eq_false (fun h => h0 (hz.1 h))
    have e2 : ((p.l : Int) == 0) = false := by simp; omega
    clear hz
    go_enter Tryz.func54, Tryz.ntmps54
    go_wp2_with fail
    go_ret
    exact ⟨by rw [HE.out]; rfl, (Below.refl _ _).alloc (Nat.le_refl _) _⟩
theorem same_sm (p q : Rc) (w : World) (h1 : Rd2 w p) (h2 : Rd2 w q) (hs : Sm p q) (hl : p.l ≤ 3 ∧ p.m ≤ 3) :
    Calls Tryz.prog 65 #[.agg #[.bool p.s, .slice p.a p.l p.c, .slice p.b p.m p.d], .agg #[.bool q.s, .slice q.a q.l q.c, .slice q.b q.m q.d]] w fun e w' => e = .returned (.bool true) ∧ Below w.heap.size w w' := by
  obtain ⟨e1, e2, e3, e4, e5⟩ := hs
  rw [← e1, ← e2, ← e4]
  exact rsame5 p.s p.a q.a p.b q.b p.l p.m p.c q.c p.d q.d p.z p.y w h1.1 (by have := h2.1; rw [← e2, ← e3] at this; exact this) h1.2.1 (by have := h2.2.1; rw [← e4, ← e5] at this; exact this) (by omega) (by omega)
set_option maxHeartbeats 4000000 in
theorem sameP (p q : Pc) (w : World) (h1 : Rd2 w p.1) (h2 : Rd2 w p.2) (g1 : Rd2 w q.1) (g2 : Rd2 w q.2) (s1 : Sm p.1 q.1) (s2 : Sm p.2 q.2) (hl : (p.1.l ≤ 3 ∧ p.1.m ≤ 3) ∧ (p.2.l ≤ 3 ∧ p.2.m ≤ 3)) :
    Calls Tryz.prog 51 #[.agg #[.bool p.1.s, .slice p.1.a p.1.l p.1.c, .slice p.1.b p.1.m p.1.d, .bool p.2.s, .slice p.2.a p.2.l p.2.c, .slice p.2.b p.2.m p.2.d], .agg #[.bool q.1.s, .slice q.1.a q.1.l q.1.c, .slice q.1.b q.1.m q.1.d, .bool q.2.s, .slice q.2.a q.2.l q.2.c, .slice q.2.b q.2.m q.2.d]] w fun e w' => e = .returned (.bool true) ∧ Below w.heap.size w w' := by
  have B0 : Below w.heap.size w w := Below.refl _ _
  go_enter Tryz.func51, Tryz.ntmps51
  go_wp2_with fail
  refine ent2 w _ _ _ _ (Q := fun W => Calls Tryz.prog _ _ W _) ?_
  intro x1 hb hs_x1 V2 V3
  replace h1 := Rd2.after hb h1
  replace h2 := Rd2.after hb h2
  replace g1 := Rd2.after hb g1
  replace g2 := Rd2.after hb g2
  replace B0 := step B0 hb
  clear hb hs_x1
  refine (same_sm p.1 q.1 _ h1 g1 s1 hl.1).mono ?_
  rintro e x2 ⟨rfl, hb⟩
  replace V2 := V2.a hb
  replace V3 := V3.a hb
  replace h1 := Rd2.after hb h1
  replace h2 := Rd2.after hb h2
  replace g1 := Rd2.after hb g1
  replace g2 := Rd2.after hb g2
  replace B0 := step B0 hb
  clear hb
  have c_V2 := V2.e0
  have f0_V2 := V2.frozen 0
  have d_V2 := V2.e1
  have f1_V2 := V2.frozen 1
  have e_V2 := V2.e2
  have f2_V2 := V2.frozen 2
  have j_V2 := V2.e3
  have f3_V2 := V2.frozen 3
  have k_V2 := V2.e4
  have f4_V2 := V2.frozen 4
  have z_V2 := V2.e5
  have f5_V2 := V2.frozen 5
  have l_V2 := V2.lt
  have m_V2 := Nat.le_of_lt l_V2
  have c_V3 := V3.e0
  have f0_V3 := V3.frozen 0
  have d_V3 := V3.e1
  have f1_V3 := V3.frozen 1
  have e_V3 := V3.e2
  have f2_V3 := V3.frozen 2
  have j_V3 := V3.e3
  have f3_V3 := V3.frozen 3
  have k_V3 := V3.e4
  have f4_V3 := V3.frozen 4
  have z_V3 := V3.e5
  have f5_V3 := V3.frozen 5
  have l_V3 := V3.lt
  have m_V3 := Nat.le_of_lt l_V3
  go_wp2_with fail
  clear c_V2 f0_V2 d_V2 f1_V2 e_V2 f2_V2 j_V2 f3_V2 k_V2 f4_V2 z_V2 f5_V2 l_V2 m_V2 c_V3 f0_V3 d_V3 f1_V3 e_V3 f2_V3 j_V3 f3_V3 k_V3 f4_V3 z_V3 f5_V3 l_V3 m_V3
  refine (same_sm p.2 q.2 _ h2 g2 s2 hl.2).mono ?_
  rintro e x3 ⟨rfl, hb⟩
  replace V2 := V2.a hb
  replace V3 := V3.a hb
  replace h1 := Rd2.after hb h1
  replace h2 := Rd2.after hb h2
  replace g1 := Rd2.after hb g1
  replace g2 := Rd2.after hb g2
  replace B0 := step B0 hb
  clear hb
  go_wp2_with fail
  go_ret
  exact ⟨rfl, B0⟩
set_option maxHeartbeats 8000000 in
theorem samePs (b1 o1 b2 o2 n c1 c2 : Nat) (ps qs : List Pc) (w : World) (hL : Le elP w (some ⟨b1, o1, none⟩) n ps) (gL : Le elP w (some ⟨b2, o2, none⟩) n qs) (hR : Rp w ps n) (gR : Rp w qs n) (hS : Smp ps qs n) (hl : ∀ i, i < n → ((ps.getD i pz).1.l ≤ 3 ∧ (ps.getD i pz).1.m ≤ 3) ∧ ((ps.getD i pz).2.l ≤ 3 ∧ (ps.getD i pz).2.m ≤ 3)) (h8 : n ≤ 8) :
  Calls Tryz.prog 16 #[.slice (some ⟨b1, o1, none⟩) n c1, .slice (some ⟨b2, o2, none⟩) n c2] w fun e w' => e = .returned (.bool true) ∧ Below w.heap.size w w' := by
 have HL : Hid (Le elP w (some ⟨b1, o1, none⟩) n ps) := hL; have GL : Hid (Le elP w (some ⟨b2, o2, none⟩) n qs) := gL; have HR : Hid (Rp w ps n) := hR; have GR : Hid (Rp w qs n) := gR; have HS : Hid (Smp ps qs n) := hS; have HN : Hid (∀ i, i < n → ((ps.getD i pz).1.l ≤ 3 ∧ (ps.getD i pz).1.m ≤ 3) ∧ ((ps.getD i pz).2.l ≤ 3 ∧ (ps.getD i pz).2.m ≤ 3)) := hl; clear hL gL hR gR hS hl
 go_enter Tryz.func16, Tryz.ntmps16
 (go_wp2_with fail)
 go_loopw [5] (fun i wr => ∃ k : Nat, k ≤ n ∧ i = .int .i64 k ∧ Hid (Below w.heap.size w wr)) (fun i _ => n - (intOf i).toNat)
 case atStart => exact ⟨0, Nat.zero_le _, rfl, Below.refl _ _⟩
 case round =>
  obtain ⟨k, hk, rfl, HW⟩ := hrel
  by_cases hlt : k < n
  ·
   have B0 := HW.out; have hc : At6 wr b1 (o1 + k * 6) (ps.getD k pz) := (HL.out.after B0).six rfl rfl k hlt; have hd : At6 wr b2 (o2 + k * 6) (qs.getD k pz) := (GL.out.after B0).six rfl rfl k hlt; have hr := (HR.out.after B0) k hlt; have gr := (GR.out.after B0) k hlt; have hs := HS.out k hlt; have hn := HN.out k hlt
   generalize ps.getD k pz = p at hc hr hs hn
   generalize qs.getD k pz = q at hd gr hs
   (go_wp2_with fail); obtain ⟨h1, h2⟩ := hr; obtain ⟨g1, g2⟩ := gr; refine wp_region_noPanic ?_; replace hc := hc.drw; replace hd := hd.drw; replace h1 := h1.drw; replace h2 := h2.drw; replace g1 := g1.drw; replace g2 := g2.drw; replace B0 := Below.drew B0; refine wp_region_held_drew (S := (fun W => W.cell? ⟨b1, o1 + k * 6, none⟩ = some (.bool p.1.s) ∧ W.cell? ⟨b1, o1 + k * 6 + 1, none⟩ = some (.slice p.1.a p.1.l p.1.c) ∧ W.cell? ⟨b1, o1 + k * 6 + 2, none⟩ = some (.slice p.1.b p.1.m p.1.d) ∧ W.cell? ⟨b1, o1 + k * 6 + 3, none⟩ = some (.bool p.2.s) ∧ W.cell? ⟨b1, o1 + k * 6 + 4, none⟩ = some (.slice p.2.a p.2.l p.2.c) ∧ W.cell? ⟨b1, o1 + k * 6 + 5, none⟩ = some (.slice p.2.b p.2.m p.2.d) ∧ W.cell? ⟨b2, o2 + k * 6, none⟩ = some (.bool q.1.s) ∧ W.cell? ⟨b2, o2 + k * 6 + 1, none⟩ = some (.slice q.1.a q.1.l q.1.c) ∧ W.cell? ⟨b2, o2 + k * 6 + 2, none⟩ = some (.slice q.1.b q.1.m q.1.d) ∧ W.cell? ⟨b2, o2 + k * 6 + 3, none⟩ = some (.bool q.2.s) ∧ W.cell? ⟨b2, o2 + k * 6 + 4, none⟩ = some (.slice q.2.a q.2.l q.2.c) ∧ W.cell? ⟨b2, o2 + k * 6 + 5, none⟩ = some (.slice q.2.b q.2.m q.2.d))) (by kernel_rfl) ⟨hc.c0, hc.c1, hc.c2, hc.c3, hc.c4, hc.c5, hd.c0, hd.c1, hd.c2, hd.c3, hd.c4, hd.c5⟩ (fun hHeld => ?_)
   (obtain ⟨x6, hxd⟩ : ∃ xd, xd = wr.drew := ⟨_, rfl⟩); rw [← hxd] at hc hd h1 h2 g1 g2 B0 hHeld ⊢; clear hxd; refine tjz 0 hHeld ?_; refine tjz 1 hHeld ?_; refine tjz 2 hHeld ?_; refine tjz 3 hHeld ?_; refine tjz 4 hHeld ?_; refine tjz 5 hHeld ?_; refine tjz 6 hHeld ?_; refine tjz 7 hHeld ?_; refine ryz 8 (fun K hK => ?_); simp only [gA, gB, gC]; (go_simp); refine (sameP p q _ h1 h2 g1 g2 hs.1 hs.2 hn).mono ?_; rintro e x7 ⟨rfl, hb⟩; replace hc := At6.after hb hc; replace hd := At6.after hb hd
   replace h1 := Rd2.after hb h1; replace h2 := Rd2.after hb h2; replace g1 := Rd2.after hb g1; replace g2 := Rd2.after hb g2; replace B0 := step B0 hb; clear hb; (try go_wp2_with fail); refine hK.out _ _ ⟨hc.c0, hc.c1, hc.c2, hc.c3, hc.c4, hc.c5, hd.c0, hd.c1, hd.c2, hd.c3, hd.c4, hd.c5⟩ (fun hHeld => ?_); clear hK K; refine tjz 9 hHeld ?_; refine dnz ?_; clear hHeld hc hd; (go_wp2_with fail)
   go_roundw
   case measure => simp [intOf]; omega
   case rel => exact ⟨k + 1, by omega, by go_num, B0⟩
  ·
   (obtain rfl : k = n := by omega); (go_wp2_with fail)
   go_ret
   exact ⟨rfl, HW.out⟩
end Go.Proofs.YtenmkbofpmbedaaGreatDoor
