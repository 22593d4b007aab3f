import Derived.Test.YtenmkbofpmbedaaGreatDoorMgAa
import Derived.Test.YtenmkbofpmbedaaGreatDoorScE
namespace Go.Proofs.YtenmkbofpmbedaaGreatDoor
open Go.RowKit Go.Shelf
set_option linter.unusedVariables false
set_option maxRecDepth 20000

theorem Ata.of {l : List Pq} (h : Sok l) {b : Rat} (h0 : 0 ≤ b) : ∃ v, Ata l b v := by
  obtain ⟨k, hk⟩ := Bg.ex h b
  exact ⟨_, k, hk, hk.pos h h0, rfl⟩
theorem rat_sign0 : Int.sign (0 : Rat).num = 0 := by decide +kernel
set_option maxHeartbeats 16000000 in
theorem steps_walk (a : Option Addr) (n c : Nat) (ps : List Pc) (px py : Rc) (w : World) (hT : Tn w) (hL : Le elP w a n ps) (hR : Rp w ps n) (hG : ∀ i, i < n → Lng (ps.getD i pz).1 ∧ Lng (ps.getD i pz).2) (hx : Rd2 w px) (hy : Rd2 w py) (gx : Lng px) (gy : Lng py) :
    Calls Tryz.prog 7 #[.slice a n c, .agg #[.bool px.s, .slice px.a px.l px.c, .slice px.b px.m px.d], .agg #[.bool py.s, .slice py.a py.l py.c, .slice py.b py.m py.d]] w fun e w' => e = .returned (.bool true) ∧ Below w.heap.size w w' := by
  have B0 : Below w.heap.size w w := Below.refl _ _
  go_enter Tryz.func7, Tryz.ntmps7
  go_wp2_with fail
  refine ent2 w _ _ _ _ (Q := fun W => Calls Tryz.prog _ _ W _) ?_
  intro x1 hb hs_x1 V4 V5
  replace hT := Tn.after hb hT
  replace hL := Le.after hb hL
  replace hR := Rp.after hb hR
  replace hx := Rd2.after hb hx
  replace hy := Rd2.after hb hy
  replace B0 := step B0 hb
  clear hb hs_x1
  refine (awake18 _ hT).mono ?_
  rintro e x2 ⟨rfl, hb⟩
  replace V4 := V4.a hb
  replace V5 := V5.a hb
  replace hT := Tn.after hb hT
  replace hL := Le.after hb hL
  replace hR := Rp.after hb hR
  replace hx := Rd2.after hb hx
  replace hy := Rd2.after hb hy
  replace B0 := step B0 hb
  clear hb
  clear hT
  have c_V4 := V4.d0
  have f0_V4 := V4.frozen 0
  have d_V4 := V4.d1
  have f1_V4 := V4.frozen 1
  have e_V4 := V4.d2
  have f2_V4 := V4.frozen 2
  have l_V4 := V4.lt
  have m_V4 := Nat.le_of_lt l_V4
  have c_V5 := V5.d0
  have f0_V5 := V5.frozen 0
  have d_V5 := V5.d1
  have f1_V5 := V5.frozen 1
  have e_V5 := V5.d2
  have f2_V5 := V5.frozen 2
  have l_V5 := V5.lt
  have m_V5 := Nat.le_of_lt l_V5
  go_wp2_with fail
  clear c_V4 f0_V4 d_V4 f1_V4 e_V4 f2_V4 l_V4 m_V4 c_V5 f0_V5 d_V5 f1_V5 e_V5 f2_V5 l_V5 m_V5
  refine (few_any a n c ps px py _ hL hR hG hx hy gx gy).mono ?_
  rintro e x3 ⟨q1, ra, rb, t1, rfl, hfw, hb⟩
  replace V4 := V4.a hb
  replace V5 := V5.a hb
  replace hL := Le.after hb hL
  replace hR := Rp.after hb hR
  replace hx := Rd2.after hb hx
  replace hy := Rd2.after hb hy
  replace B0 := step B0 hb
  clear hb
  clear hL hR hx hy V4 V5
  obtain ⟨u, rfl, hf⟩ := hfw.out
  have hf1 : FwR x3 q1 ra rb u := hf
  clear hf hfw hG gx gy
  cases u
  ·
    clear hf1
    go_wp2_with fail
    go_ret
    exact ⟨rfl, (B0.alloc (by have := B0.size; omega) _).alloc (by have := B0.size; rw [World.size_alloc]; omega) _⟩
  ·
    obtain ⟨g, b, m, xs, l, va, vb, rfl, hd, h0, hab, za, zb, ha, hb9⟩ := Or.elim hf1 (fun h => absurd h (by decide)) (fun h => h.2)
    clear hf1
    have HA : Hid (0 ≤ va ∧ va ≤ vb ∧ Sz 64 va ∧ Sz 64 vb) := ⟨h0, hab, za, zb⟩
    clear h0 hab za zb
    obtain ⟨k, hk⟩ := Bg.ex hd.ok va
    have HK : Hid (Bg l va k) := hk
    have HO : Hid (Sok l ∧ Sht l ∧ l.length = m) := ⟨hd.ok, hd.sh, hd.ln⟩
    clear hk
    have lts := hd.lts
    have szB := B0.size
    go_wp2_with fail
    refine ent2 x3 _ _ _ _ (Q := fun W => Calls Tryz.prog _ _ W _) ?_
    intro x4 hb hs_x4 V8 V9
    replace hd := Sd.after hb hd
    replace ha := Rv.after hb ha
    replace hb9 := Rv.after hb hb9
    replace B0 := step B0 hb
    clear hb hs_x4
    refine (next8_any g b 0 m m xs l ra va _ hd ha k HK.out).mono ?_
    rintro e x5 ⟨qe, t, rfl, hn, hb⟩
    replace V8 := V8.a hb
    replace V9 := V9.a hb
    replace hd := Sd.after hb hd
    replace ha := Rv.after hb ha
    replace hb9 := Rv.after hb hb9
    replace B0 := step B0 hb
    clear hb
    rcases hn.out with h | h
    ·
      have he : Rv x5 qe (aq l k) := h.2.2
      have hkm : k < m := h.2.1
      obtain rfl := h.1
      clear h hn
      have HN : Hid (va < aq l k) := HK.out.next (by rw [HO.out.2.2]; exact hkm)
      have HZE : Hid (Sz 64 (aq l k)) := (HO.out.2.1 k (by rw [HO.out.2.2]; exact hkm)).1.mono (by omega)
      have c_V8 := V8.d0
      have f0_V8 := V8.frozen 0
      have d_V8 := V8.d1
      have f1_V8 := V8.frozen 1
      have e_V8 := V8.d2
      have f2_V8 := V8.frozen 2
      have l_V8 := V8.lt
      have m_V8 := Nat.le_of_lt l_V8
      go_wp2_with fail
      have lt_V11_V8 := V8.lt
      have lt_V11_V9 := V9.lt
      refine ent1 x5 _ _ (Q := fun W => Calls Tryz.prog _ _ W _) ?_
      intro x6 hb hs_x6 V11
      replace V8 := V8.a hb
      replace V9 := V9.a hb
      replace hd := Sd.after hb hd
      replace ha := Rv.after hb ha
      replace hb9 := Rv.after hb hb9
      replace he := Rv.after hb he
      replace B0 := step B0 hb
      clear hb hs_x6
      clear c_V8 f0_V8 d_V8 f1_V8 e_V8 f2_V8 l_V8 m_V8
      refine (cmp_rc qe ra (aq l k) va _ he ha).mono ?_
      rintro e x7 ⟨rfl, hb⟩
      replace V8 := V8.a hb
      replace V9 := V9.a hb
      replace V11 := V11.a hb
      replace hd := Sd.after hb hd
      replace ha := Rv.after hb ha
      replace hb9 := Rv.after hb hb9
      replace he := Rv.after hb he
      replace B0 := step B0 hb
      clear hb
      rw [qcmp_gt HN.out]
      have c_V9 := V9.d0
      have f0_V9 := V9.frozen 0
      have d_V9 := V9.d1
      have f1_V9 := V9.frozen 1
      have e_V9 := V9.d2
      have f2_V9 := V9.frozen 2
      have l_V9 := V9.lt
      have m_V9 := Nat.le_of_lt l_V9
      have c_V11 := V11.d0
      have f0_V11 := V11.frozen 0
      have d_V11 := V11.d1
      have f1_V11 := V11.frozen 1
      have e_V11 := V11.d2
      have f2_V11 := V11.frozen 2
      have l_V11 := V11.lt
      have m_V11 := Nat.le_of_lt l_V11
      go_wp2_with fail
      clear c_V9 f0_V9 d_V9 f1_V9 e_V9 f2_V9 l_V9 m_V9 c_V11 f0_V11 d_V11 f1_V11 e_V11 f2_V11 l_V11 m_V11
      refine (cmp_rc rb qe vb (aq l k) _ hb9 he).mono ?_
      rintro e x8 ⟨rfl, hb⟩
      replace V8 := V8.a hb
      replace V9 := V9.a hb
      replace V11 := V11.a hb
      replace hd := Sd.after hb hd
      replace ha := Rv.after hb ha
      replace hb9 := Rv.after hb hb9
      replace he := Rv.after hb he
      replace B0 := step B0 hb
      clear hb
      obtain ⟨cc, hcc⟩ : ∃ s, qcmp vb (aq l k) = s := ⟨_, rfl⟩
      rw [hcc]
      have HCC : Hid (0 < cc ↔ aq l k < vb) := by have := cmp_gt vb (aq l k); rw [hcc] at this; exact this
      by_cases gc : 0 < cc
      ·
        have ec : decide (0 < cc) = true := decide_eq_true gc
        have HB : Hid (va ≤ aq l k ∧ Sz 64 (aq l k) ∧ (k < m → aq l k ≤ aq l k)) := ⟨Rat.le_of_lt HN.out, HZE.out, fun _ => Rat.le_refl⟩
        have c_V8 := V8.d0
        have f0_V8 := V8.frozen 0
        have d_V8 := V8.d1
        have f1_V8 := V8.frozen 1
        have e_V8 := V8.d2
        have f2_V8 := V8.frozen 2
        have l_V8 := V8.lt
        have m_V8 := Nat.le_of_lt l_V8
        have c_V9 := V9.d0
        have f0_V9 := V9.frozen 0
        have d_V9 := V9.d1
        have f1_V9 := V9.frozen 1
        have e_V9 := V9.d2
        have f2_V9 := V9.frozen 2
        have l_V9 := V9.lt
        have m_V9 := Nat.le_of_lt l_V9
        have c_V11 := V11.d0
        have f0_V11 := V11.frozen 0
        have d_V11 := V11.d1
        have f1_V11 := V11.frozen 1
        have e_V11 := V11.d2
        have f2_V11 := V11.frozen 2
        have l_V11 := V11.lt
        have m_V11 := Nat.le_of_lt l_V11
        go_wp2_with fail
        clear c_V8 f0_V8 d_V8 f1_V8 e_V8 f2_V8 l_V8 m_V8 c_V9 f0_V9 d_V9 f1_V9 e_V9 f2_V9 l_V9 m_V9 c_V11 f0_V11 d_V11 f1_V11 e_V11 f2_V11 l_V11 m_V11
        refine sto3 V9 (.bool qe.s) (.slice qe.a qe.l qe.c) (.slice qe.b qe.m qe.d) (Q := fun W => Calls Tryz.prog _ _ W _) ?_
        intro x9 V' oth far
        replace V8 := apz (oth _ _ _) V8
        replace V11 := apz (oth _ _ _) V11
        replace ha := ha.far V9 (noInt3 _ _ _ _ _ _ _) far.1
        replace hb9 := hb9.far V9 (noInt3 _ _ _ _ _ _ _) far.1
        replace he := he.far V9 (noInt3 _ _ _ _ _ _ _) far.1
        replace B0 := apz (far.2 _ _) B0
        replace hd := hd.far V9 (noInt3 _ _ _ _ _ _ _) far.1 (by omega) (by omega)
        replace V9 := V'
        clear oth far
        clear hb9 V11
        have HKP : Hid (1 ≤ k) := HK.out.pos HO.out.1 HA.out.1
        refine (slope8_ok g b 0 m m xs l ra va _ hd ha k HK.out HA.out.1).mono ?_
        rintro e x10 ⟨qs, rfl, hs, hb⟩
        replace V8 := V8.a hb
        replace V9 := V9.a hb
        replace ha := Rv.after hb ha
        replace he := Rv.after hb he
        replace hd := Sd.after hb hd
        replace B0 := step B0 hb
        clear hb
        have c_V8 := V8.d0
        have f0_V8 := V8.frozen 0
        have d_V8 := V8.d1
        have f1_V8 := V8.frozen 1
        have e_V8 := V8.d2
        have f2_V8 := V8.frozen 2
        have l_V8 := V8.lt
        have m_V8 := Nat.le_of_lt l_V8
        have c_V9 := V9.d0
        have f0_V9 := V9.frozen 0
        have d_V9 := V9.d1
        have f1_V9 := V9.frozen 1
        have e_V9 := V9.d2
        have f2_V9 := V9.frozen 2
        have l_V9 := V9.lt
        have m_V9 := Nat.le_of_lt l_V9
        go_wp2_with fail
        have lt_V13_V8 := V8.lt
        have lt_V13_V9 := V9.lt
        refine ent1 x10 _ _ (Q := fun W => Calls Tryz.prog _ _ W _) ?_
        intro x11 hb hs_x11 V13
        replace V8 := V8.a hb
        replace V9 := V9.a hb
        replace ha := Rv.after hb ha
        replace he := Rv.after hb he
        replace hd := Sd.after hb hd
        replace hs := Rv.after hb hs
        replace B0 := step B0 hb
        clear hb hs_x11
        clear c_V8 f0_V8 d_V8 f1_V8 e_V8 f2_V8 l_V8 m_V8 c_V9 f0_V9 d_V9 f1_V9 e_V9 f2_V9 l_V9 m_V9
        obtain ⟨wx, hwx⟩ := Ata.of HO.out.1 HA.out.1
        obtain ⟨wy, hwy⟩ := Ata.of HO.out.1 (Rat.le_trans HA.out.1 HB.out.1)
        have HRI : Hid (wy - wx = rq l (k - 1) * ((aq l k) - va)) := steps_rise HO.out.1 HA.out.1 HK.out HB.out.1 (by rw [HO.out.2.2]; exact HB.out.2.2) hwx hwy
        refine (both_any g b 0 m m xs l ra qe va (aq l k) wx wy _ hd ha he HA.out.2.2.1 HB.out.2.1 HA.out.1 (Rat.le_trans HA.out.1 HB.out.1) hwx hwy).mono ?_
        rintro e x12 ⟨q1, q2, rfl, g1, g2, hb⟩
        replace V8 := V8.a hb
        replace V9 := V9.a hb
        replace V13 := V13.a hb
        replace ha := Rv.after hb ha
        replace he := Rv.after hb he
        replace hd := Sd.after hb hd
        replace hs := Rv.after hb hs
        replace B0 := step B0 hb
        clear hb hwx hwy
        clear V8 V9 ha he
        have c_V13 := V13.d0
        have f0_V13 := V13.frozen 0
        have d_V13 := V13.d1
        have f1_V13 := V13.frozen 1
        have e_V13 := V13.d2
        have f2_V13 := V13.frozen 2
        have l_V13 := V13.lt
        have m_V13 := Nat.le_of_lt l_V13
        go_wp2_with fail
        have lt_V15_V13 := V13.lt
        refine ent2 x12 _ _ _ _ (Q := fun W => Calls Tryz.prog _ _ W _) ?_
        intro x13 hb hs_x13 V15 V16
        replace V13 := V13.a hb
        replace hd := Sd.after hb hd
        replace hs := Rv.after hb hs
        replace g1 := Rv.after hb g1
        replace g2 := Rv.after hb g2
        replace B0 := step B0 hb
        clear hb hs_x13
        clear c_V13 f0_V13 d_V13 f1_V13 e_V13 f2_V13 l_V13 m_V13
        have HSM : Hid (Short (rq l (k - 1) * ((aq l k) - va))) := (((HO.out.2.1 (k - 1) (by have := HK.out.le; have := HKP.out; omega)).2).mul (HB.out.2.1.sub HA.out.2.2.1)).short (by omega)
        refine (mul_rc qs q2 (rq l (k - 1)) ((aq l k) - va) (rq l (k - 1) * ((aq l k) - va)) _ hs g2 rfl HSM.out).mono ?_
        rintro e x14 ⟨q3, rfl, g3, hb⟩
        replace V13 := V13.a hb
        replace V15 := V15.a hb
        replace V16 := V16.a hb
        replace hd := Sd.after hb hd
        replace hs := Rv.after hb hs
        replace g1 := Rv.after hb g1
        replace g2 := Rv.after hb g2
        replace B0 := step B0 hb
        clear hb
        clear V13 V16 hs g2
        have c_V15 := V15.d0
        have f0_V15 := V15.frozen 0
        have d_V15 := V15.d1
        have f1_V15 := V15.frozen 1
        have e_V15 := V15.d2
        have f2_V15 := V15.frozen 2
        have l_V15 := V15.lt
        have m_V15 := Nat.le_of_lt l_V15
        go_wp2_with fail
        have lt_V17_V15 := V15.lt
        refine ent1 x14 _ _ (Q := fun W => Calls Tryz.prog _ _ W _) ?_
        intro x15 hb hs_x15 V17
        replace V15 := V15.a hb
        replace hd := Sd.after hb hd
        replace g1 := Rv.after hb g1
        replace g3 := Rv.after hb g3
        replace B0 := step B0 hb
        clear hb hs_x15
        clear c_V15 f0_V15 d_V15 f1_V15 e_V15 f2_V15 l_V15 m_V15
        refine (at8_any g b 0 m m xs l Rc.nil 0 _ hd (Rv.nil _)).mono ?_
        rintro e x16 ⟨q4, er, rfl, hat, hb⟩
        replace V15 := V15.a hb
        replace V17 := V17.a hb
        replace hd := Sd.after hb hd
        replace g1 := Rv.after hb g1
        replace g3 := Rv.after hb g3
        replace B0 := step B0 hb
        obtain ⟨rfl, g4, -⟩ := at_ok hat.out Sz.zero (by omega) Rat.le_refl (at_zero HO.out.1)
        clear hb hat
        clear hd
        have c_V15 := V15.d0
        have f0_V15 := V15.frozen 0
        have d_V15 := V15.d1
        have f1_V15 := V15.frozen 1
        have e_V15 := V15.d2
        have f2_V15 := V15.frozen 2
        have l_V15 := V15.lt
        have m_V15 := Nat.le_of_lt l_V15
        have c_V17 := V17.d0
        have f0_V17 := V17.frozen 0
        have d_V17 := V17.d1
        have f1_V17 := V17.frozen 1
        have e_V17 := V17.d2
        have f2_V17 := V17.frozen 2
        have l_V17 := V17.lt
        have m_V17 := Nat.le_of_lt l_V17
        go_wp2_with fail
        have lt_V19_V15 := V15.lt
        have lt_V19_V17 := V17.lt
        refine ent1 x16 _ _ (Q := fun W => Calls Tryz.prog _ _ W _) ?_
        intro x17 hb hs_x17 V19
        replace V15 := V15.a hb
        replace V17 := V17.a hb
        replace g1 := Rv.after hb g1
        replace g3 := Rv.after hb g3
        replace g4 := Rv.after hb g4
        replace B0 := step B0 hb
        clear hb hs_x17
        clear c_V15 f0_V15 d_V15 f1_V15 e_V15 f2_V15 l_V15 m_V15 c_V17 f0_V17 d_V17 f1_V17 e_V17 f2_V17 l_V17 m_V17
        refine (cmp_rc q1 q3 (wy - wx) (rq l (k - 1) * ((aq l k) - va)) _ g1 g3).mono ?_
        rintro e x18 ⟨rfl, hb⟩
        replace V15 := V15.a hb
        replace V17 := V17.a hb
        replace V19 := V19.a hb
        replace g1 := Rv.after hb g1
        replace g3 := Rv.after hb g3
        replace g4 := Rv.after hb g4
        replace B0 := step B0 hb
        clear hb
        rw [(cmp_eq _ _).2 HRI.out]
        have c_V19 := V19.d0
        have f0_V19 := V19.frozen 0
        have d_V19 := V19.d1
        have f1_V19 := V19.frozen 1
        have e_V19 := V19.d2
        have f2_V19 := V19.frozen 2
        have l_V19 := V19.lt
        have m_V19 := Nat.le_of_lt l_V19
        go_wp2_with fail
        clear c_V19 f0_V19 d_V19 f1_V19 e_V19 f2_V19 l_V19 m_V19
        refine (sign_rc q4 0 _ g4).mono ?_
        rintro e x19 ⟨rfl, hb⟩
        replace V15 := V15.a hb
        replace V17 := V17.a hb
        replace V19 := V19.a hb
        replace g1 := Rv.after hb g1
        replace g3 := Rv.after hb g3
        replace g4 := Rv.after hb g4
        replace B0 := step B0 hb
        clear hb
        rw [rat_sign0]
        go_wp2_with fail
        go_ret
        exact ⟨rfl, B0⟩
      ·
        have ec : decide (0 < cc) = false := decide_eq_false gc
        have HB : Hid (va ≤ vb ∧ Sz 64 vb ∧ (k < m → vb ≤ aq l k)) := ⟨HA.out.2.1, HA.out.2.2.2, fun _ => by have := HCC.out; grind⟩
        clear V11 he
        have c_V8 := V8.d0
        have f0_V8 := V8.frozen 0
        have d_V8 := V8.d1
        have f1_V8 := V8.frozen 1
        have e_V8 := V8.d2
        have f2_V8 := V8.frozen 2
        have l_V8 := V8.lt
        have m_V8 := Nat.le_of_lt l_V8
        go_wp2_with fail
        clear c_V8 f0_V8 d_V8 f1_V8 e_V8 f2_V8 l_V8 m_V8
        have HKP : Hid (1 ≤ k) := HK.out.pos HO.out.1 HA.out.1
        refine (slope8_ok g b 0 m m xs l ra va _ hd ha k HK.out HA.out.1).mono ?_
        rintro e x20 ⟨qs, rfl, hs, hb⟩
        replace V8 := V8.a hb
        replace V9 := V9.a hb
        replace hd := Sd.after hb hd
        replace ha := Rv.after hb ha
        replace hb9 := Rv.after hb hb9
        replace B0 := step B0 hb
        clear hb
        have c_V8 := V8.d0
        have f0_V8 := V8.frozen 0
        have d_V8 := V8.d1
        have f1_V8 := V8.frozen 1
        have e_V8 := V8.d2
        have f2_V8 := V8.frozen 2
        have l_V8 := V8.lt
        have m_V8 := Nat.le_of_lt l_V8
        have c_V9 := V9.d0
        have f0_V9 := V9.frozen 0
        have d_V9 := V9.d1
        have f1_V9 := V9.frozen 1
        have e_V9 := V9.d2
        have f2_V9 := V9.frozen 2
        have l_V9 := V9.lt
        have m_V9 := Nat.le_of_lt l_V9
        go_wp2_with fail
        have lt_V13_V8 := V8.lt
        have lt_V13_V9 := V9.lt
        refine ent1 x20 _ _ (Q := fun W => Calls Tryz.prog _ _ W _) ?_
        intro x21 hb hs_x21 V13
        replace V8 := V8.a hb
        replace V9 := V9.a hb
        replace hd := Sd.after hb hd
        replace ha := Rv.after hb ha
        replace hb9 := Rv.after hb hb9
        replace hs := Rv.after hb hs
        replace B0 := step B0 hb
        clear hb hs_x21
        clear c_V8 f0_V8 d_V8 f1_V8 e_V8 f2_V8 l_V8 m_V8 c_V9 f0_V9 d_V9 f1_V9 e_V9 f2_V9 l_V9 m_V9
        obtain ⟨wx, hwx⟩ := Ata.of HO.out.1 HA.out.1
        obtain ⟨wy, hwy⟩ := Ata.of HO.out.1 (Rat.le_trans HA.out.1 HB.out.1)
        have HRI : Hid (wy - wx = rq l (k - 1) * (vb - va)) := steps_rise HO.out.1 HA.out.1 HK.out HB.out.1 (by rw [HO.out.2.2]; exact HB.out.2.2) hwx hwy
        refine (both_any g b 0 m m xs l ra rb va vb wx wy _ hd ha hb9 HA.out.2.2.1 HB.out.2.1 HA.out.1 (Rat.le_trans HA.out.1 HB.out.1) hwx hwy).mono ?_
        rintro e x22 ⟨q1, q2, rfl, g1, g2, hb⟩
        replace V8 := V8.a hb
        replace V9 := V9.a hb
        replace V13 := V13.a hb
        replace hd := Sd.after hb hd
        replace ha := Rv.after hb ha
        replace hb9 := Rv.after hb hb9
        replace hs := Rv.after hb hs
        replace B0 := step B0 hb
        clear hb hwx hwy
        clear V8 V9 ha hb9
        have c_V13 := V13.d0
        have f0_V13 := V13.frozen 0
        have d_V13 := V13.d1
        have f1_V13 := V13.frozen 1
        have e_V13 := V13.d2
        have f2_V13 := V13.frozen 2
        have l_V13 := V13.lt
        have m_V13 := Nat.le_of_lt l_V13
        go_wp2_with fail
        have lt_V15_V13 := V13.lt
        refine ent2 x22 _ _ _ _ (Q := fun W => Calls Tryz.prog _ _ W _) ?_
        intro x23 hb hs_x23 V15 V16
        replace V13 := V13.a hb
        replace hd := Sd.after hb hd
        replace hs := Rv.after hb hs
        replace g1 := Rv.after hb g1
        replace g2 := Rv.after hb g2
        replace B0 := step B0 hb
        clear hb hs_x23
        clear c_V13 f0_V13 d_V13 f1_V13 e_V13 f2_V13 l_V13 m_V13
        have HSM : Hid (Short (rq l (k - 1) * (vb - va))) := (((HO.out.2.1 (k - 1) (by have := HK.out.le; have := HKP.out; omega)).2).mul (HB.out.2.1.sub HA.out.2.2.1)).short (by omega)
        refine (mul_rc qs q2 (rq l (k - 1)) (vb - va) (rq l (k - 1) * (vb - va)) _ hs g2 rfl HSM.out).mono ?_
        rintro e x24 ⟨q3, rfl, g3, hb⟩
        replace V13 := V13.a hb
        replace V15 := V15.a hb
        replace V16 := V16.a hb
        replace hd := Sd.after hb hd
        replace hs := Rv.after hb hs
        replace g1 := Rv.after hb g1
        replace g2 := Rv.after hb g2
        replace B0 := step B0 hb
        clear hb
        clear V13 V16 hs g2
        have c_V15 := V15.d0
        have f0_V15 := V15.frozen 0
        have d_V15 := V15.d1
        have f1_V15 := V15.frozen 1
        have e_V15 := V15.d2
        have f2_V15 := V15.frozen 2
        have l_V15 := V15.lt
        have m_V15 := Nat.le_of_lt l_V15
        go_wp2_with fail
        have lt_V17_V15 := V15.lt
        refine ent1 x24 _ _ (Q := fun W => Calls Tryz.prog _ _ W _) ?_
        intro x25 hb hs_x25 V17
        replace V15 := V15.a hb
        replace hd := Sd.after hb hd
        replace g1 := Rv.after hb g1
        replace g3 := Rv.after hb g3
        replace B0 := step B0 hb
        clear hb hs_x25
        clear c_V15 f0_V15 d_V15 f1_V15 e_V15 f2_V15 l_V15 m_V15
        refine (at8_any g b 0 m m xs l Rc.nil 0 _ hd (Rv.nil _)).mono ?_
        rintro e x26 ⟨q4, er, rfl, hat, hb⟩
        replace V15 := V15.a hb
        replace V17 := V17.a hb
        replace hd := Sd.after hb hd
        replace g1 := Rv.after hb g1
        replace g3 := Rv.after hb g3
        replace B0 := step B0 hb
        obtain ⟨rfl, g4, -⟩ := at_ok hat.out Sz.zero (by omega) Rat.le_refl (at_zero HO.out.1)
        clear hb hat
        clear hd
        have c_V15 := V15.d0
        have f0_V15 := V15.frozen 0
        have d_V15 := V15.d1
        have f1_V15 := V15.frozen 1
        have e_V15 := V15.d2
        have f2_V15 := V15.frozen 2
        have l_V15 := V15.lt
        have m_V15 := Nat.le_of_lt l_V15
        have c_V17 := V17.d0
        have f0_V17 := V17.frozen 0
        have d_V17 := V17.d1
        have f1_V17 := V17.frozen 1
        have e_V17 := V17.d2
        have f2_V17 := V17.frozen 2
        have l_V17 := V17.lt
        have m_V17 := Nat.le_of_lt l_V17
        go_wp2_with fail
        have lt_V19_V15 := V15.lt
        have lt_V19_V17 := V17.lt
        refine ent1 x26 _ _ (Q := fun W => Calls Tryz.prog _ _ W _) ?_
        intro x27 hb hs_x27 V19
        replace V15 := V15.a hb
        replace V17 := V17.a hb
        replace g1 := Rv.after hb g1
        replace g3 := Rv.after hb g3
        replace g4 := Rv.after hb g4
        replace B0 := step B0 hb
        clear hb hs_x27
        clear c_V15 f0_V15 d_V15 f1_V15 e_V15 f2_V15 l_V15 m_V15 c_V17 f0_V17 d_V17 f1_V17 e_V17 f2_V17 l_V17 m_V17
        refine (cmp_rc q1 q3 (wy - wx) (rq l (k - 1) * (vb - va)) _ g1 g3).mono ?_
        rintro e x28 ⟨rfl, hb⟩
        replace V15 := V15.a hb
        replace V17 := V17.a hb
        replace V19 := V19.a hb
        replace g1 := Rv.after hb g1
        replace g3 := Rv.after hb g3
        replace g4 := Rv.after hb g4
        replace B0 := step B0 hb
        clear hb
        rw [(cmp_eq _ _).2 HRI.out]
        have c_V19 := V19.d0
        have f0_V19 := V19.frozen 0
        have d_V19 := V19.d1
        have f1_V19 := V19.frozen 1
        have e_V19 := V19.d2
        have f2_V19 := V19.frozen 2
        have l_V19 := V19.lt
        have m_V19 := Nat.le_of_lt l_V19
        go_wp2_with fail
        clear c_V19 f0_V19 d_V19 f1_V19 e_V19 f2_V19 l_V19 m_V19
        refine (sign_rc q4 0 _ g4).mono ?_
        rintro e x29 ⟨rfl, hb⟩
        replace V15 := V15.a hb
        replace V17 := V17.a hb
        replace V19 := V19.a hb
        replace g1 := Rv.after hb g1
        replace g3 := Rv.after hb g3
        replace g4 := Rv.after hb g4
        replace B0 := step B0 hb
        clear hb
        rw [rat_sign0]
        go_wp2_with fail
        go_ret
        exact ⟨rfl, B0⟩
    ·
      have hkm : k = m := h.2.1
      obtain rfl := h.1
      clear h hn
      have HB : Hid (va ≤ vb ∧ Sz 64 vb ∧ (k < m → vb ≤ aq l k)) := ⟨HA.out.2.1, HA.out.2.2.2, fun h => by omega⟩
      have c_V8 := V8.d0
      have f0_V8 := V8.frozen 0
      have d_V8 := V8.d1
      have f1_V8 := V8.frozen 1
      have e_V8 := V8.d2
      have f2_V8 := V8.frozen 2
      have l_V8 := V8.lt
      have m_V8 := Nat.le_of_lt l_V8
      go_wp2_with fail
      have lt_V11_V8 := V8.lt
      have lt_V11_V9 := V9.lt
      refine ent1 x5 _ _ (Q := fun W => Calls Tryz.prog _ _ W _) ?_
      intro x30 hb hs_x30 V11
      replace V8 := V8.a hb
      replace V9 := V9.a hb
      replace hd := Sd.after hb hd
      replace ha := Rv.after hb ha
      replace hb9 := Rv.after hb hb9
      replace B0 := step B0 hb
      clear hb hs_x30
      clear c_V8 f0_V8 d_V8 f1_V8 e_V8 f2_V8 l_V8 m_V8
      clear V11
      have HKP : Hid (1 ≤ k) := HK.out.pos HO.out.1 HA.out.1
      refine (slope8_ok g b 0 m m xs l ra va _ hd ha k HK.out HA.out.1).mono ?_
      rintro e x31 ⟨qs, rfl, hs, hb⟩
      replace V8 := V8.a hb
      replace V9 := V9.a hb
      replace hd := Sd.after hb hd
      replace ha := Rv.after hb ha
      replace hb9 := Rv.after hb hb9
      replace B0 := step B0 hb
      clear hb
      have c_V8 := V8.d0
      have f0_V8 := V8.frozen 0
      have d_V8 := V8.d1
      have f1_V8 := V8.frozen 1
      have e_V8 := V8.d2
      have f2_V8 := V8.frozen 2
      have l_V8 := V8.lt
      have m_V8 := Nat.le_of_lt l_V8
      have c_V9 := V9.d0
      have f0_V9 := V9.frozen 0
      have d_V9 := V9.d1
      have f1_V9 := V9.frozen 1
      have e_V9 := V9.d2
      have f2_V9 := V9.frozen 2
      have l_V9 := V9.lt
      have m_V9 := Nat.le_of_lt l_V9
      go_wp2_with fail
      have lt_V13_V8 := V8.lt
      have lt_V13_V9 := V9.lt
      refine ent1 x31 _ _ (Q := fun W => Calls Tryz.prog _ _ W _) ?_
      intro x32 hb hs_x32 V13
      replace V8 := V8.a hb
      replace V9 := V9.a hb
      replace hd := Sd.after hb hd
      replace ha := Rv.after hb ha
      replace hb9 := Rv.after hb hb9
      replace hs := Rv.after hb hs
      replace B0 := step B0 hb
      clear hb hs_x32
      clear c_V8 f0_V8 d_V8 f1_V8 e_V8 f2_V8 l_V8 m_V8 c_V9 f0_V9 d_V9 f1_V9 e_V9 f2_V9 l_V9 m_V9
      obtain ⟨wx, hwx⟩ := Ata.of HO.out.1 HA.out.1
      obtain ⟨wy, hwy⟩ := Ata.of HO.out.1 (Rat.le_trans HA.out.1 HB.out.1)
      have HRI : Hid (wy - wx = rq l (k - 1) * (vb - va)) := steps_rise HO.out.1 HA.out.1 HK.out HB.out.1 (by rw [HO.out.2.2]; exact HB.out.2.2) hwx hwy
      refine (both_any g b 0 m m xs l ra rb va vb wx wy _ hd ha hb9 HA.out.2.2.1 HB.out.2.1 HA.out.1 (Rat.le_trans HA.out.1 HB.out.1) hwx hwy).mono ?_
      rintro e x33 ⟨q1, q2, rfl, g1, g2, hb⟩
      replace V8 := V8.a hb
      replace V9 := V9.a hb
      replace V13 := V13.a hb
      replace hd := Sd.after hb hd
      replace ha := Rv.after hb ha
      replace hb9 := Rv.after hb hb9
      replace hs := Rv.after hb hs
      replace B0 := step B0 hb
      clear hb hwx hwy
      clear V8 V9 ha hb9
      have c_V13 := V13.d0
      have f0_V13 := V13.frozen 0
      have d_V13 := V13.d1
      have f1_V13 := V13.frozen 1
      have e_V13 := V13.d2
      have f2_V13 := V13.frozen 2
      have l_V13 := V13.lt
      have m_V13 := Nat.le_of_lt l_V13
      go_wp2_with fail
      have lt_V15_V13 := V13.lt
      refine ent2 x33 _ _ _ _ (Q := fun W => Calls Tryz.prog _ _ W _) ?_
      intro x34 hb hs_x34 V15 V16
      replace V13 := V13.a hb
      replace hd := Sd.after hb hd
      replace hs := Rv.after hb hs
      replace g1 := Rv.after hb g1
      replace g2 := Rv.after hb g2
      replace B0 := step B0 hb
      clear hb hs_x34
      clear c_V13 f0_V13 d_V13 f1_V13 e_V13 f2_V13 l_V13 m_V13
      have HSM : Hid (Short (rq l (k - 1) * (vb - va))) := (((HO.out.2.1 (k - 1) (by have := HK.out.le; have := HKP.out; omega)).2).mul (HB.out.2.1.sub HA.out.2.2.1)).short (by omega)
      refine (mul_rc qs q2 (rq l (k - 1)) (vb - va) (rq l (k - 1) * (vb - va)) _ hs g2 rfl HSM.out).mono ?_
      rintro e x35 ⟨q3, rfl, g3, hb⟩
      replace V13 := V13.a hb
      replace V15 := V15.a hb
      replace V16 := V16.a hb
      replace hd := Sd.after hb hd
      replace hs := Rv.after hb hs
      replace g1 := Rv.after hb g1
      replace g2 := Rv.after hb g2
      replace B0 := step B0 hb
      clear hb
      clear V13 V16 hs g2
      have c_V15 := V15.d0
      have f0_V15 := V15.frozen 0
      have d_V15 := V15.d1
      have f1_V15 := V15.frozen 1
      have e_V15 := V15.d2
      have f2_V15 := V15.frozen 2
      have l_V15 := V15.lt
      have m_V15 := Nat.le_of_lt l_V15
      go_wp2_with fail
      have lt_V17_V15 := V15.lt
      refine ent1 x35 _ _ (Q := fun W => Calls Tryz.prog _ _ W _) ?_
      intro x36 hb hs_x36 V17
      replace V15 := V15.a hb
      replace hd := Sd.after hb hd
      replace g1 := Rv.after hb g1
      replace g3 := Rv.after hb g3
      replace B0 := step B0 hb
      clear hb hs_x36
      clear c_V15 f0_V15 d_V15 f1_V15 e_V15 f2_V15 l_V15 m_V15
      refine (at8_any g b 0 m m xs l Rc.nil 0 _ hd (Rv.nil _)).mono ?_
      rintro e x37 ⟨q4, er, rfl, hat, hb⟩
      replace V15 := V15.a hb
      replace V17 := V17.a hb
      replace hd := Sd.after hb hd
      replace g1 := Rv.after hb g1
      replace g3 := Rv.after hb g3
      replace B0 := step B0 hb
      obtain ⟨rfl, g4, -⟩ := at_ok hat.out Sz.zero (by omega) Rat.le_refl (at_zero HO.out.1)
      clear hb hat
      clear hd
      have c_V15 := V15.d0
      have f0_V15 := V15.frozen 0
      have d_V15 := V15.d1
      have f1_V15 := V15.frozen 1
      have e_V15 := V15.d2
      have f2_V15 := V15.frozen 2
      have l_V15 := V15.lt
      have m_V15 := Nat.le_of_lt l_V15
      have c_V17 := V17.d0
      have f0_V17 := V17.frozen 0
      have d_V17 := V17.d1
      have f1_V17 := V17.frozen 1
      have e_V17 := V17.d2
      have f2_V17 := V17.frozen 2
      have l_V17 := V17.lt
      have m_V17 := Nat.le_of_lt l_V17
      go_wp2_with fail
      have lt_V19_V15 := V15.lt
      have lt_V19_V17 := V17.lt
      refine ent1 x37 _ _ (Q := fun W => Calls Tryz.prog _ _ W _) ?_
      intro x38 hb hs_x38 V19
      replace V15 := V15.a hb
      replace V17 := V17.a hb
      replace g1 := Rv.after hb g1
      replace g3 := Rv.after hb g3
      replace g4 := Rv.after hb g4
      replace B0 := step B0 hb
      clear hb hs_x38
      clear c_V15 f0_V15 d_V15 f1_V15 e_V15 f2_V15 l_V15 m_V15 c_V17 f0_V17 d_V17 f1_V17 e_V17 f2_V17 l_V17 m_V17
      refine (cmp_rc q1 q3 (wy - wx) (rq l (k - 1) * (vb - va)) _ g1 g3).mono ?_
      rintro e x39 ⟨rfl, hb⟩
      replace V15 := V15.a hb
      replace V17 := V17.a hb
      replace V19 := V19.a hb
      replace g1 := Rv.after hb g1
      replace g3 := Rv.after hb g3
      replace g4 := Rv.after hb g4
      replace B0 := step B0 hb
      clear hb
      rw [(cmp_eq _ _).2 HRI.out]
      have c_V19 := V19.d0
      have f0_V19 := V19.frozen 0
      have d_V19 := V19.d1
      have f1_V19 := V19.frozen 1
      have e_V19 := V19.d2
      have f2_V19 := V19.frozen 2
      have l_V19 := V19.lt
      have m_V19 := Nat.le_of_lt l_V19
      go_wp2_with fail
      clear c_V19 f0_V19 d_V19 f1_V19 e_V19 f2_V19 l_V19 m_V19
      refine (sign_rc q4 0 _ g4).mono ?_
      rintro e x40 ⟨rfl, hb⟩
      replace V15 := V15.a hb
      replace V17 := V17.a hb
      replace V19 := V19.a hb
      replace g1 := Rv.after hb g1
      replace g3 := Rv.after hb g3
      replace g4 := Rv.after hb g4
      replace B0 := step B0 hb
      clear hb
      rw [rat_sign0]
      go_wp2_with fail
      go_ret
      exact ⟨rfl, B0⟩
end Go.Proofs.YtenmkbofpmbedaaGreatDoor
