import Derived.Test.YtenmkbofpmbedabGreatDoorMgAa
import Derived.Test.YtenmkbofpmbedabGreatDoorMgAj
import Derived.Laws.MakeOwn
import Derived.ProofKit
import Derived.OpenShut
import Derived.ShutString
import Derived.ChangeOld
import Derived.SizedLaws
import Derived.Deep.Slices
namespace Go.Proofs.YtenmkbofpmbedabGreatDoor
open Go.RowKit Go.Shelf
set_option linter.unusedVariables false
set_option maxRecDepth 20000

theorem isCount_any (n : Int) (w : World) : Calls Tryz.prog 59 #[.int .i64 n] w fun e w' => e = .returned (.bool (decide (1 ≤ n ∧ n ≤ 8))) ∧ w' = w := by
  by_cases h1 : 1 ≤ n
  · by_cases h2 : n ≤ 8
    · have HE : Hid (decide (1 ≤ n ∧ n ≤ 8) = true) := by show _ = _; simp [h1, h2]
      go_enter Tryz.func59, Tryz.ntmps59
      go_wp2_with fail
      go_ret
      exact ⟨by rw [HE.out]; rfl, rfl⟩
    · have HE : Hid (decide (1 ≤ n ∧ n ≤ 8) = false) := by show _ = _; simp [h1, h2]
      go_enter Tryz.func59, Tryz.ntmps59
      go_wp2_with fail
      go_ret
      exact ⟨by simp; omega, rfl⟩
  · have HE : Hid (decide (1 ≤ n ∧ n ≤ 8) = false) := by show _ = _; simp [h1]
    go_enter Tryz.func59, Tryz.ntmps59
    go_wp2_with fail
    go_ret
    exact ⟨by simp; omega, rfl⟩
theorem isLong_any (r : Rc) (w : World) : Calls Tryz.prog 64 #[.agg #[.bool r.s, .slice r.a r.l r.c, .slice r.b r.m r.d]] w fun e w' => e = .returned (.bool (decide (3 < max (r.l : Int) (r.m : Int)))) ∧ Below w.heap.size w w' := by
  go_enter Tryz.func64, Tryz.ntmps64
  go_wp2_with fail
  go_ret
  exact ⟨rfl, (Below.refl _ _).alloc (Nat.le_refl _) _⟩
theorem one_div : Rat.divInt 1 1 = 1 := by decide +kernel
theorem hun_div : Rat.divInt 100 1 = 100 := by decide +kernel
theorem sz_one {n : Int} {d : Nat} (v : Rat) (h1 : v.num = n) (h2 : v.den = d) (hn : n.natAbs < 18446744073709551616) (hd : d < 18446744073709551616) : Sz 1 v := by
  unfold Sz
  rw [h1, h2]
  have : pw 1 = 18446744073709551616 := by decide
  rw [this]
  omega
theorem sz_1 : Sz 1 (1 : Rat) := sz_one (n := 1) (d := 1) 1 rfl rfl (by decide) (by decide)
theorem sz_100 : Sz 1 (100 : Rat) := sz_one (n := 100) (d := 1) 100 rfl rfl (by decide) (by decide)
theorem hundredth_any (p : Rc) (x : Rat) (n : Nat) (w : World) (hp : Rv w p x) (hn : Sz n x) (h10 : n ≤ 1000) :
    Calls Tryz.prog 61 #[.agg #[.bool p.s, .slice p.a p.l p.c, .slice p.b p.m p.d]] w fun e w' => ∃ r : Rc, e = .returned (.agg #[.bool r.s, .slice r.a r.l r.c, .slice r.b r.m r.d]) ∧ Rv w' r (x / 100) ∧ Below w.heap.size w w' := by
  have HS : Hid (Short (x / 100)) := by
    show Short _
    rw [Rat.div_def]
    exact (hn.mul (i := n) (j := 1) (show Sz 1 ((100 : Rat)⁻¹) from sz_one (n := 1) (d := 100) _ (by decide +kernel) (by decide +kernel) (by decide) (by decide))).short (by omega)
  have B0 : Below w.heap.size w w := Below.refl _ _
  go_enter Tryz.func61, Tryz.ntmps61
  go_wp2_with fail
  refine ent2 w _ _ _ _ (Q := fun W => Calls Tryz.prog _ _ W _) ?_
  intro x1 hb hs_x1 V1 V2
  replace hp := Rv.after hb hp
  replace B0 := step B0 hb
  clear hb hs_x1
  refine (small_rc 100 1 (by omega) (by omega) (by omega) (by omega) (by omega) 100 _ hun_div (sz_100.short (by omega))).mono ?_
  rintro e x2 ⟨q, rfl, hq, hb⟩
  replace V1 := V1.a hb
  replace V2 := V2.a hb
  replace hp := Rv.after hb hp
  replace B0 := step B0 hb
  clear hb
  have c_V1 := V1.d0
  have f0_V1 := V1.frozen 0
  have d_V1 := V1.d1
  have f1_V1 := V1.frozen 1
  have e_V1 := V1.d2
  have f2_V1 := V1.frozen 2
  have l_V1 := V1.lt
  have m_V1 := Nat.le_of_lt l_V1
  have c_V2 := V2.d0
  have f0_V2 := V2.frozen 0
  have d_V2 := V2.d1
  have f1_V2 := V2.frozen 1
  have e_V2 := V2.d2
  have f2_V2 := V2.frozen 2
  have l_V2 := V2.lt
  have m_V2 := Nat.le_of_lt l_V2
  go_wp2_with fail
  refine ent1 x2 _ _ (Q := fun W => Calls Tryz.prog _ _ W _) ?_
  intro x3 hb hs_x3 V3
  replace V1 := V1.a hb
  replace V2 := V2.a hb
  replace hp := Rv.after hb hp
  replace hq := Rv.after hb hq
  replace B0 := step B0 hb
  clear hb hs_x3
  clear c_V1 f0_V1 d_V1 f1_V1 e_V1 f2_V1 l_V1 m_V1 c_V2 f0_V2 d_V2 f1_V2 e_V2 f2_V2 l_V2 m_V2
  refine (quo_rc p q x 100 (x / 100) _ hp hq rfl HS.out (by decide +kernel)).mono ?_
  rintro e x4 ⟨r, rfl, hr, hb⟩
  replace V1 := V1.a hb
  replace V2 := V2.a hb
  replace V3 := V3.a hb
  replace hp := Rv.after hb hp
  replace hq := Rv.after hb hq
  replace B0 := step B0 hb
  clear hb
  clear V1 V3 hp hq
  have c_V2 := V2.d0
  have f0_V2 := V2.frozen 0
  have d_V2 := V2.d1
  have f1_V2 := V2.frozen 1
  have e_V2 := V2.d2
  have f2_V2 := V2.frozen 2
  have l_V2 := V2.lt
  have m_V2 := Nat.le_of_lt l_V2
  have p0_V2 := (V2.old (.cells #[.bool r.s, .slice r.a r.l r.c, .slice r.b r.m r.d] 32)).d0
  have q0_V2 := (V2.old (.cells #[.bool r.s, .slice r.a r.l r.c, .slice r.b r.m r.d] 32)).frozen 0
  have p1_V2 := (V2.old (.cells #[.bool r.s, .slice r.a r.l r.c, .slice r.b r.m r.d] 32)).d1
  have q1_V2 := (V2.old (.cells #[.bool r.s, .slice r.a r.l r.c, .slice r.b r.m r.d] 32)).frozen 1
  have p2_V2 := (V2.old (.cells #[.bool r.s, .slice r.a r.l r.c, .slice r.b r.m r.d] 32)).d2
  have q2_V2 := (V2.old (.cells #[.bool r.s, .slice r.a r.l r.c, .slice r.b r.m r.d] 32)).frozen 2
  go_wp2_with fail
  refine bodyPost_ret (results_r rfl rfl ((V2.set3 _ _ _).old _)) rfl ?_
  exact ⟨r, rfl, (hr.far V2 (noInt3 _ _ _ _ _ _ _) (fa3 _ _ _ _ _)).after ((Below.refl _ _).alloc (Nat.le_refl _) _), (belo3 B0 (by omega) _ _ _).alloc (by simp; omega) _⟩
def CkR (l : List Pq) (n : Nat) (er : Int) : Prop := (er = 0 ∧ ∀ j, j < n → Ck l j) ∨ (er = 180 ∧ ¬ ∀ j, j < n → Ck l j)
set_option maxHeartbeats 8000000 in
theorem check_any (b off n c : Nat) (xs : List Pc) (l : List Pq) (w : World) (hL : Le elT w (some ⟨b, off, none⟩) n xs) (hS : Ss w xs l) (hn : l.length = n) (h8 : n ≤ 8) :
    Calls Tryz.prog 62 #[.slice (some ⟨b, off, none⟩) n c] w fun e w' => ∃ er : Int, e = .returned (.int .i64 er) ∧ Hid (CkR l n er) ∧ Below w.heap.size w w' := by
  have HL : Hid (Le elT w (some ⟨b, off, none⟩) n xs) := hL; have HS : Hid (Ss w xs l) := hS; have HN : Hid (l.length = n) := hn; clear hL hS hn; have B0 : Below w.heap.size w w := Below.refl _ _
  go_enter Tryz.func62, Tryz.ntmps62
  (go_wp2_with fail); refine (small_rc 1 1 (by omega) (by omega) (by omega) (by omega) (by omega) 1 _ one_div (sz_1.short (by omega))).mono ?_; rintro e x1 ⟨r1, rfl, h1, hb⟩; replace B0 := step B0 hb; clear hb; (go_wp2_with fail); refine ent1 x1 _ _ (Q := fun W => Code.wp Tryz.prog _ _ _ W) ?_; intro x2 hb hs_x2 V1; replace h1 := Rv.after hb h1; replace B0 := step B0 hb; clear hb hs_x2; have HL2 : Hid (Le elT x2 (some ⟨b, off, none⟩) n xs) := HL.out.after B0; have HS2 : Hid (Ss x2 xs l) := HS.out.after B0; have HV1 : Hid (Va x2 (x1.heap.size) 32 #[.bool r1.s, .slice r1.a r1.l r1.c, .slice r1.b r1.m r1.d]) := V1; have H1 : Hid (Rv x2 r1 (1 : Rat)) := h1; have HB : Hid (Below w.heap.size w x2) := B0; have c1v := V1.d0; clear V1 h1 B0 HL HS c1v
  go_loopw [13] (fun i wr => ∃ k : Nat, k ≤ n ∧ i = .int .i64 k ∧ Hid (∀ j, j < k → Ck l j) ∧ Hid (Below x2.heap.size x2 wr)) (fun i _ => n - (intOf i).toNat)
  case atStart => exact ⟨0, Nat.zero_le _, rfl, fun j hj => absurd hj (by omega), Below.refl _ _⟩
  case round =>
    obtain ⟨k, hk, rfl, HO, HW⟩ := hrel
    by_cases hlt : k < n
    ·
      have B0 := HW.out; have V1 := Va.after B0 HV1.out; have h1 := H1.out.after B0; have hL := HL2.out.after B0; have hS := (HS2.out.after B0).2 k (by rw [HN.out]; exact hlt); have hc : At6 wr b (off + k * 6) (xs.getD k (Rc.nil, Rc.nil)) := hL.six rfl rfl k hlt; (obtain ⟨x, hx⟩ : ∃ x, aq l k = x := ⟨_, rfl⟩); (obtain ⟨y, hy⟩ : ∃ y, rq l k = y := ⟨_, rfl⟩); rw [hx, hy] at hS; have HX : Hid (aq l k = x ∧ rq l k = y) := ⟨hx, hy⟩; clear hx hy
      generalize xs.getD k (Rc.nil, Rc.nil) = p at hc hS
      obtain ⟨hp1, hp2⟩ := hS; (obtain ⟨sx, hsx⟩ : ∃ s, Int.sign x.num = s := ⟨_, rfl⟩); (obtain ⟨sy, hsy⟩ : ∃ s, Int.sign y.num = s := ⟨_, rfl⟩); (obtain ⟨cy, hcy⟩ : ∃ s, qcmp y 1 = s := ⟨_, rfl⟩); (have HSX : Hid (sx = 0 ↔ x = 0) := by have := sgn_eq x; rw [hsx] at this; exact this); (have HSY : Hid (sy < 0 ↔ y < 0) := by have := sgn_lt y; rw [hsy] at this; exact this); (have HCY : Hid (0 < cy ↔ 1 < y) := by have := cmp_gt y 1; rw [hcy] at this; exact this)
      by_cases h0 : k = 0
      ·
        subst h0; (replace hc : At6 wr b off p := by simpa using hc); obtain ⟨c0, c1, c2, c3, c4, c5⟩ := hc; have lb := cell_lt c0; (go_wp2_with fail); refine ent1 wr _ _ (Q := fun W => Calls Tryz.prog _ _ W _) ?_; intro x6 hb hs_x6 V6; replace V1 := V1.a hb; replace h1 := Rv.after hb h1; replace hp1 := Rv.after hb hp1; replace hp2 := Rv.after hb hp2; replace B0 := step B0 hb; clear hb hs_x6; clear c0 c1 c2 c3 c4 c5 lb; refine (sign_rc p.1 x _ hp1).mono ?_; rintro e x7 ⟨rfl, hb⟩; replace V1 := V1.a hb; replace V6 := V6.a hb; replace h1 := Rv.after hb h1; replace hp1 := Rv.after hb hp1; replace hp2 := Rv.after hb hp2; replace B0 := step B0 hb; clear hb; rw [hsx]
        by_cases g1 : sx = 0
        ·
          (have e4 : (sx != 0) = false := by simp [g1]); (go_wp2_with fail); refine wp_region_noPanic ?_; replace V1 : Va x7.drew _ _ _ := V1; replace V6 : Va x7.drew _ _ _ := V6; replace h1 := h1.drw; replace hp1 := hp1.drw; replace hp2 := hp2.drw; replace B0 := Below.drew B0; refine wp_region_held_drew (S := (fun W => True)) (by kernel_rfl) trivial (fun hHeld => ?_); (obtain ⟨x8, hxd⟩ : ∃ xd, xd = x7.drew := ⟨_, rfl⟩); rw [← hxd] at V1 V6 h1 hp1 hp2 B0 ⊢; clear hxd; refine tjz 0 hHeld ?_; refine tjz 1 hHeld ?_; refine tjz 2 hHeld ?_; refine wpAnyH_take (i := 3) (v := undef) rfl (by kernel_rfl) (by kernel_rfl) (by kernel_rfl) (fun _ _ _ h => h) (Or.inr ⟨by rfl, rfl⟩) hHeld ?_; simp only [gA, gB, gC, Act.put, gD, gE, gF]; refine wpAnyH_take (i := 4) (v := undef) rfl (by kernel_rfl) (by kernel_rfl) (by kernel_rfl) (fun _ _ _ h => h) (Or.inr ⟨by rfl, rfl⟩) hHeld ?_
          simp only [gA, gB, gC, Act.put, gD, gE, gF]; refine wpAnyH_take (i := 5) (v := undef) rfl (by kernel_rfl) (by kernel_rfl) (by kernel_rfl) (fun _ _ _ h => h) (Or.inr ⟨by rfl, rfl⟩) hHeld ?_; simp only [gA, gB, gC, Act.put, gD, gE, gF]; refine wpAnyH_take (i := 6) (v := undef) rfl (by kernel_rfl) (by kernel_rfl) (by kernel_rfl) (fun _ _ _ h => h) (Or.inr ⟨by rfl, rfl⟩) hHeld ?_; simp only [gA, gB, gC, Act.put, gD, gE, gF]; refine wpAnyH_take (i := 7) (v := undef) rfl (by kernel_rfl) (by kernel_rfl) (by kernel_rfl) (fun _ _ _ h => h) (Or.inr ⟨by rfl, rfl⟩) hHeld ?_; simp only [gA, gB, gC, Act.put, gD, gE, gF]; refine wpAnyH_take (i := 8) (v := undef) rfl (by kernel_rfl) (by kernel_rfl) (by kernel_rfl) (fun _ _ _ h => h) (Or.inr ⟨by rfl, rfl⟩) hHeld ?_; simp only [gA, gB, gC, Act.put, gD, gE, gF]; refine wpAnyH_take (i := 9) (v := undef) rfl (by kernel_rfl) (by kernel_rfl) (by kernel_rfl) (fun _ _ _ h => h) (Or.inr ⟨by rfl, rfl⟩) hHeld ?_
          simp only [gA, gB, gC, Act.put, gD, gE, gF]; refine wpAnyH_take (i := 10) (v := undef) rfl (by kernel_rfl) (by kernel_rfl) (by kernel_rfl) (fun _ _ _ h => h) (Or.inr ⟨by rfl, rfl⟩) hHeld ?_; simp only [gA, gB, gC, Act.put, gD, gE, gF]; refine wpAnyH_take (i := 11) (v := undef) rfl (by kernel_rfl) (by kernel_rfl) (by kernel_rfl) (fun _ _ _ h => h) (Or.inr ⟨by rfl, rfl⟩) hHeld ?_; simp only [gA, gB, gC, Act.put, gD, gE, gF]; refine wpAnyH_take (i := 12) (v := undef) rfl (by kernel_rfl) (by kernel_rfl) (by kernel_rfl) (fun _ _ _ h => h) (Or.inr ⟨by rfl, rfl⟩) hHeld ?_; simp only [gA, gB, gC, Act.put, gD, gE, gF]; refine tjz 13 hHeld ?_; refine tjz 14 hHeld ?_; refine dnz ?_; clear hHeld; have c_V6 := V6.e0; have f0_V6 := V6.frozen 0; have d_V6 := V6.e1; have f1_V6 := V6.frozen 1
          have e_V6 := V6.e2; have f2_V6 := V6.frozen 2; have j_V6 := V6.e3; have f3_V6 := V6.frozen 3; have k_V6 := V6.e4; have f4_V6 := V6.frozen 4; have z_V6 := V6.e5; have f5_V6 := V6.frozen 5; have l_V6 := V6.lt; have m_V6 := Nat.le_of_lt l_V6; (go_wp2_with fail); refine (sign_rc p.2 y _ hp2).mono ?_; rintro e x9 ⟨rfl, hb⟩; replace V1 := V1.a hb; replace V6 := V6.a hb; replace h1 := Rv.after hb h1; replace hp1 := Rv.after hb hp1; replace hp2 := Rv.after hb hp2; replace B0 := step B0 hb; clear hb; rw [hsy]
          by_cases g2 : sy < 0
          ·
            have e2 : decide (sy < 0) = true := decide_eq_true g2; clear c_V6 f0_V6 d_V6 f1_V6 e_V6 f2_V6 j_V6 f3_V6 k_V6 f4_V6 z_V6 f5_V6 l_V6 m_V6; (go_wp2_with fail); (go_wp2_with fail)
            go_ret
            exact ⟨_, rfl, Or.inr ⟨rfl, fun h => by have h' := h 0 hlt; have := HSY.out.1 g2; have := h'.r0; rw [HX.out.2] at this; grind⟩, step HB.out B0⟩
          ·
            have e2 : decide (sy < 0) = false := decide_eq_false g2; clear c_V6 f0_V6 d_V6 f1_V6 e_V6 f2_V6 j_V6 f3_V6 k_V6 f4_V6 z_V6 f5_V6 l_V6 m_V6; have c_V6 := V6.e0; have f0_V6 := V6.frozen 0; have d_V6 := V6.e1; have f1_V6 := V6.frozen 1; have e_V6 := V6.e2; have f2_V6 := V6.frozen 2; have j_V6 := V6.e3; have f3_V6 := V6.frozen 3; have k_V6 := V6.e4; have f4_V6 := V6.frozen 4; have z_V6 := V6.e5; have f5_V6 := V6.frozen 5; have l_V6 := V6.lt; have m_V6 := Nat.le_of_lt l_V6; have c_V1 := V1.d0; have f0_V1 := V1.frozen 0; have d_V1 := V1.d1; have f1_V1 := V1.frozen 1; have e_V1 := V1.d2; have f2_V1 := V1.frozen 2; have l_V1 := V1.lt; have m_V1 := Nat.le_of_lt l_V1; (go_wp2_with fail); refine (cmp_rc p.2 r1 y 1 _ hp2 h1).mono ?_; rintro e x10 ⟨rfl, hb⟩; replace V1 := V1.a hb; replace V6 := V6.a hb; replace h1 := Rv.after hb h1; replace hp1 := Rv.after hb hp1; replace hp2 := Rv.after hb hp2; replace B0 := step B0 hb; clear hb; rw [hcy]
            by_cases g3 : 0 < cy
            ·
              have e3 : decide (0 < cy) = true := decide_eq_true g3; clear c_V6 f0_V6 d_V6 f1_V6 e_V6 f2_V6 j_V6 f3_V6 k_V6 f4_V6 z_V6 f5_V6 l_V6 m_V6 c_V1 f0_V1 d_V1 f1_V1 e_V1 f2_V1 l_V1 m_V1; (go_wp2_with fail)
              go_ret
              exact ⟨_, rfl, Or.inr ⟨rfl, fun h => by have h' := h 0 hlt; have := HCY.out.1 g3; have := h'.r1; rw [HX.out.2] at this; grind⟩, step HB.out B0⟩
            ·
              have e3 : decide (0 < cy) = false := decide_eq_false g3; have HK : Hid (Ck l 0) := ⟨fun _ => by have h0 := HSX.out.1 g1; rw [← HX.out.1] at h0; exact h0, fun h => by omega, by rw [HX.out.2]; have := HSY.out; grind, by rw [HX.out.2]; have := HCY.out; grind⟩; clear c_V6 f0_V6 d_V6 f1_V6 e_V6 f2_V6 j_V6 f3_V6 k_V6 f4_V6 z_V6 f5_V6 l_V6 m_V6 c_V1 f0_V1 d_V1 f1_V1 e_V1 f2_V1 l_V1 m_V1; (go_wp2_with fail)
              go_roundw
              case measure => simp [intOf]; omega
              case rel =>
                refine ⟨0 + 1, by omega, by go_num, fun j hj => ?_, B0⟩
                rcases Nat.lt_or_ge j 0 with h' | h'
                · exact HO.out j h'
                · have e : j = 0 := by omega
                  subst e; exact HK.out
        ·
          (have e4 : (sx != 0) = true := by simp [g1]); (go_wp2_with fail)
          go_ret
          exact ⟨_, rfl, Or.inr ⟨rfl, fun h => by have h' := h 0 hlt; exact g1 (HSX.out.2 (by have := h'.z rfl; rw [← HX.out.1]; exact this))⟩, step HB.out B0⟩
      ·
        (obtain ⟨m, rfl⟩ : ∃ m, k = m + 1 := ⟨k - 1, by omega⟩); (have hmn : m < n := by omega); have hd : At6 wr b (off + m * 6) (xs.getD m (Rc.nil, Rc.nil)) := hL.six rfl rfl m hmn; have hS2 := ((HS2.out.after B0).2 m (by rw [HN.out]; exact hmn)).1; (obtain ⟨u, hu⟩ : ∃ u, aq l m = u := ⟨_, rfl⟩); rw [hu] at hS2; have HU : Hid (aq l m = u) := hu; clear hu
        generalize xs.getD m (Rc.nil, Rc.nil) = q at hd hS2
        (obtain ⟨cu, hcu⟩ : ∃ s, qcmp u x = s := ⟨_, rfl⟩); (have HCU : Hid (cu < 0 ↔ u < x) := by have := cmp_lt' u x; rw [hcu] at this; exact this); (have e0 : (((m + 1 : Nat) : Int) == 0) = false := by simp; omega); (have e1 : (0 : Int) < ((m + 1 : Nat) : Int) := by omega); have d1 : decide ((0 : Int) < ((m + 1 : Nat) : Int)) = true := decide_eq_true e1; (have e5 : ((m + 1 : Nat) : Int) - 1 = (m : Int) := by omega); obtain ⟨c0, c1, c2, c3, c4, c5⟩ := hc; have lb := cell_lt c0; (go_wp2_with fail); refine ent1 wr _ _ (Q := fun W => Code.wp Tryz.prog _ _ _ W) ?_; intro x11 hb hs_x11 V6; replace V1 := V1.a hb; replace h1 := Rv.after hb h1; replace hp1 := Rv.after hb hp1; replace hp2 := Rv.after hb hp2; replace hS2 := Rv.after hb hS2; replace hd := At6.after hb hd; replace B0 := step B0 hb; clear hb hs_x11; clear c0 c1 c2 c3 c4 c5 lb; refine wp_region_noPanic ?_; replace V1 : Va x11.drew _ _ _ := V1; replace V6 : Va x11.drew _ _ _ := V6
        replace h1 := h1.drw; replace hp1 := hp1.drw; replace hp2 := hp2.drw; replace hS2 := hS2.drw; replace hd := hd.drw; replace B0 := Below.drew B0; refine wp_region_held_drew (S := (fun W => W.cell? ⟨wr.heap.size, 0, none⟩ = some (.bool p.1.s) ∧ W.cell? ⟨wr.heap.size, 1, none⟩ = some (.slice p.1.a p.1.l p.1.c) ∧ W.cell? ⟨wr.heap.size, 2, none⟩ = some (.slice p.1.b p.1.m p.1.d) ∧ W.cell? ⟨wr.heap.size, 3, none⟩ = some (.bool p.2.s) ∧ W.cell? ⟨wr.heap.size, 4, none⟩ = some (.slice p.2.a p.2.l p.2.c) ∧ W.cell? ⟨wr.heap.size, 5, none⟩ = some (.slice p.2.b p.2.m p.2.d) ∧ W.cell? ⟨b, off + m * 6, none⟩ = some (.bool q.1.s) ∧ W.cell? ⟨b, off + m * 6 + 1, none⟩ = some (.slice q.1.a q.1.l q.1.c) ∧ W.cell? ⟨b, off + m * 6 + 2, none⟩ = some (.slice q.1.b q.1.m q.1.d))) (by kernel_rfl) ⟨V6.e0, V6.e1, V6.e2, V6.e3, V6.e4, V6.e5, hd.c0, hd.c1, hd.c2⟩ (fun hHeld => ?_); (obtain ⟨x12, hxd⟩ : ∃ xd, xd = x11.drew := ⟨_, rfl⟩)
        rw [← hxd] at V1 V6 h1 hp1 hp2 hS2 hd B0 hHeld ⊢; clear hxd; refine tjz 0 hHeld ?_; refine wpAnyH_take (i := 1) (v := .bool true) rfl (by kernel_rfl) (by kernel_rfl) (by kernel_rfl) (fun _ _ _ h => h) (Or.inl ⟨by rfl, ?_⟩) hHeld ?_
        · (intro W hSw; (try dsimp only at hSw); go_simp; first | (rw [d1]) | (simp; omega) | skip)
        simp only [gA, gB, gC, Act.put, gD, gE, gF]; refine tjz 2 hHeld ?_; refine tjz 3 hHeld ?_; refine tjz 4 hHeld ?_; refine wpAnyH_take (i := 5) (v := .int .i64 (m : Int)) rfl (by kernel_rfl) (by kernel_rfl) (by kernel_rfl) (fun _ _ _ h => h) (Or.inl ⟨by rfl, ?_⟩) hHeld ?_
        · (intro W hSw; (try dsimp only at hSw); go_simp; (simp only [IntKind.wrap_i64]; omega))
        simp only [gA, gB, gC, Act.put, gD, gE, gF]; refine tjz 6 hHeld ?_; refine tjz 7 hHeld ?_; refine tjz 8 hHeld ?_; refine tjz 9 hHeld ?_; refine tjz 10 hHeld ?_; refine ryz 11 (fun K hK => ?_); simp only [gA, gB, gC]; (go_simp); refine (cmp_rc q.1 p.1 u x _ hS2 hp1).mono ?_; rintro e x13 ⟨rfl, hb⟩; replace V1 := V1.a hb; replace V6 := V6.a hb; replace h1 := Rv.after hb h1; replace hp1 := Rv.after hb hp1; replace hp2 := Rv.after hb hp2; replace hS2 := Rv.after hb hS2; replace hd := At6.after hb hd; replace B0 := step B0 hb; clear hb; rw [hcu]; (try go_wp2_with fail); refine hK.out _ _ ⟨V6.e0, V6.e1, V6.e2, V6.e3, V6.e4, V6.e5, hd.c0, hd.c1, hd.c2⟩ (fun hHeld => ?_)
        clear hK K
        by_cases g1 : 0 ≤ cu
        ·
          have e4 : decide (0 ≤ cu) = true := decide_eq_true g1; refine wpAnyH_take (i := 12) (v := .bool true) rfl (by kernel_rfl) (by kernel_rfl) (by kernel_rfl) (fun _ _ _ h => h) (Or.inl ⟨by rfl, ?_⟩) hHeld ?_
          · (intro W hSw; (try dsimp only at hSw); go_simp; first | (rw [e4]) | (simp; omega) | skip)
          simp only [gA, gB, gC, Act.put, gD, gE, gF]; refine tjz 13 hHeld ?_; refine tjz 14 hHeld ?_; refine dnz ?_; clear hHeld; (go_wp2_with fail)
          go_ret
          exact ⟨_, rfl, Or.inr ⟨rfl, fun h => by have h' := h (m + 1) hlt; have := h'.u (by omega); rw [HX.out.1, show m + 1 - 1 = m from rfl, HU.out] at this; have := HCU.out.2 this; omega⟩, step HB.out B0⟩
        ·
          have e4 : decide (0 ≤ cu) = false := decide_eq_false g1; refine wpAnyH_take (i := 12) (v := .bool false) rfl (by kernel_rfl) (by kernel_rfl) (by kernel_rfl) (fun _ _ _ h => h) (Or.inl ⟨by rfl, ?_⟩) hHeld ?_
          · (intro W hSw; (try dsimp only at hSw); go_simp; first | (rw [e4]) | (simp; omega) | skip)
          simp only [gA, gB, gC, Act.put, gD, gE, gF]; refine tjz 13 hHeld ?_; refine tjz 14 hHeld ?_; refine dnz ?_; clear hHeld; have c_V6 := V6.e0; have f0_V6 := V6.frozen 0; have d_V6 := V6.e1; have f1_V6 := V6.frozen 1; have e_V6 := V6.e2; have f2_V6 := V6.frozen 2; have j_V6 := V6.e3; have f3_V6 := V6.frozen 3; have k_V6 := V6.e4; have f4_V6 := V6.frozen 4; have z_V6 := V6.e5; have f5_V6 := V6.frozen 5; have l_V6 := V6.lt; have m_V6 := Nat.le_of_lt l_V6; (go_wp2_with fail); refine (sign_rc p.2 y _ hp2).mono ?_; rintro e x14 ⟨rfl, hb⟩; replace V1 := V1.a hb; replace V6 := V6.a hb; replace h1 := Rv.after hb h1; replace hp1 := Rv.after hb hp1; replace hp2 := Rv.after hb hp2; replace hS2 := Rv.after hb hS2; replace hd := At6.after hb hd; replace B0 := step B0 hb; clear hb; rw [hsy]
          by_cases g2 : sy < 0
          ·
            have e2 : decide (sy < 0) = true := decide_eq_true g2; clear c_V6 f0_V6 d_V6 f1_V6 e_V6 f2_V6 j_V6 f3_V6 k_V6 f4_V6 z_V6 f5_V6 l_V6 m_V6; (go_wp2_with fail); (go_wp2_with fail)
            go_ret
            exact ⟨_, rfl, Or.inr ⟨rfl, fun h => by have h' := h (m + 1) hlt; have := HSY.out.1 g2; have := h'.r0; rw [HX.out.2] at this; grind⟩, step HB.out B0⟩
          ·
            have e2 : decide (sy < 0) = false := decide_eq_false g2; clear c_V6 f0_V6 d_V6 f1_V6 e_V6 f2_V6 j_V6 f3_V6 k_V6 f4_V6 z_V6 f5_V6 l_V6 m_V6; have c_V6 := V6.e0; have f0_V6 := V6.frozen 0; have d_V6 := V6.e1; have f1_V6 := V6.frozen 1; have e_V6 := V6.e2; have f2_V6 := V6.frozen 2; have j_V6 := V6.e3; have f3_V6 := V6.frozen 3; have k_V6 := V6.e4; have f4_V6 := V6.frozen 4; have z_V6 := V6.e5; have f5_V6 := V6.frozen 5; have l_V6 := V6.lt; have m_V6 := Nat.le_of_lt l_V6; have c_V1 := V1.d0; have f0_V1 := V1.frozen 0; have d_V1 := V1.d1; have f1_V1 := V1.frozen 1; have e_V1 := V1.d2; have f2_V1 := V1.frozen 2; have l_V1 := V1.lt; have m_V1 := Nat.le_of_lt l_V1; (go_wp2_with fail); refine (cmp_rc p.2 r1 y 1 _ hp2 h1).mono ?_; rintro e x15 ⟨rfl, hb⟩; replace V1 := V1.a hb; replace V6 := V6.a hb; replace h1 := Rv.after hb h1; replace hp1 := Rv.after hb hp1; replace hp2 := Rv.after hb hp2; replace hS2 := Rv.after hb hS2; replace hd := At6.after hb hd
            replace B0 := step B0 hb; clear hb; rw [hcy]
            by_cases g3 : 0 < cy
            ·
              have e3 : decide (0 < cy) = true := decide_eq_true g3; clear c_V6 f0_V6 d_V6 f1_V6 e_V6 f2_V6 j_V6 f3_V6 k_V6 f4_V6 z_V6 f5_V6 l_V6 m_V6 c_V1 f0_V1 d_V1 f1_V1 e_V1 f2_V1 l_V1 m_V1; (go_wp2_with fail)
              go_ret
              exact ⟨_, rfl, Or.inr ⟨rfl, fun h => by have h' := h (m + 1) hlt; have := HCY.out.1 g3; have := h'.r1; rw [HX.out.2] at this; grind⟩, step HB.out B0⟩
            ·
              have e3 : decide (0 < cy) = false := decide_eq_false g3; have HK : Hid (Ck l (m + 1)) := ⟨fun h => by omega, fun _ => by rw [HX.out.1, show m + 1 - 1 = m from rfl, HU.out]; exact HCU.out.1 (by omega), by rw [HX.out.2]; have := HSY.out; grind, by rw [HX.out.2]; have := HCY.out; grind⟩; clear c_V6 f0_V6 d_V6 f1_V6 e_V6 f2_V6 j_V6 f3_V6 k_V6 f4_V6 z_V6 f5_V6 l_V6 m_V6 c_V1 f0_V1 d_V1 f1_V1 e_V1 f2_V1 l_V1 m_V1; (go_wp2_with fail)
              go_roundw
              case measure => simp [intOf]; omega
              case rel =>
                refine ⟨(m + 1) + 1, by omega, by go_num, fun j hj => ?_, B0⟩
                rcases Nat.lt_or_ge j (m + 1) with h' | h'
                · exact HO.out j h'
                · have e : j = (m + 1) := by omega
                  subst e; exact HK.out
    ·
      (go_wp2_with fail)
      go_ret
      exact ⟨_, rfl, Or.inl ⟨rfl, fun j hj => HO.out j (by omega)⟩, step HB.out HW.out⟩
end Go.Proofs.YtenmkbofpmbedabGreatDoor
namespace Go.Proofs.YtenmkbofpmbedabGreatDoor
open Go.RowKit Go.Shelf
set_option linter.unusedVariables false
set_option maxRecDepth 20000

theorem made6 (n : Nat) (hn : n ≤ 8) : madeCells (Value.cells (.agg #[.bool false, .slice none 0 0, .slice none 0 0, .bool false, .slice none 0 0, .slice none 0 0])) (n * 6) = (rowE elP (List.replicate n (Rc.nil, Rc.nil))).toArray := by
  have hl : (rowE elP (List.replicate n (Rc.nil, Rc.nil))).length = n * 6 := by rw [rowE_length]; simp; rfl
  apply Array.ext
  · rw [size_madeCells, List.size_toArray, hl]
  · intro i h1 h2
    have hi : i < n * 6 := by rw [size_madeCells] at h1; exact h1
    have hq := rowE_get elP (i % 6) (Nat.mod_lt _ (by decide)) (List.replicate n (Rc.nil, Rc.nil)) (i / 6) (by simp; omega)
    rw [show i / 6 * elP.s + i % 6 = i by show i / 6 * 6 + i % 6 = i; omega] at hq
    have hg : (List.replicate n (Rc.nil, Rc.nil)).getD (i / 6) elP.dft = (Rc.nil, Rc.nil) := by simp [show i / 6 < n by omega]
    rw [hg] at hq
    have h6 : i % 6 < 6 := Nat.mod_lt _ (by decide)
    have hr : (rowE elP (List.replicate n (Rc.nil, Rc.nil))).toArray[i] = (rowE elP (List.replicate n (Rc.nil, Rc.nil)))[i]'(by rw [hl]; exact hi) := by simp
    rw [hr]
    have hm : (madeCells (Value.cells (.agg #[.bool false, .slice none 0 0, .slice none 0 0, .bool false, .slice none 0 0, .slice none 0 0])) (n * 6))[i] = (#[Value.bool false, .slice none 0 0, .slice none 0 0, .bool false, .slice none 0 0, .slice none 0 0])[i % 6]! := by simp [madeCells, Value.cells]
    rw [hm]
    rw [List.getElem?_eq_getElem (by rw [hl]; exact hi)] at hq
    generalize i % 6 = j at *
    have : j = 0 ∨ j = 1 ∨ j = 2 ∨ j = 3 ∨ j = 4 ∨ j = 5 := by omega
    rcases this with rfl | rfl | rfl | rfl | rfl | rfl <;> exact (Option.some.inj hq).symm
theorem make_P (n : Nat) (hn : n ≤ 8) (w : World) : ∃ w', (Instr.makeSlice 36 (.int .i64 (n : Int)) (.int .i64 (n : Int))).run Tryz.prog w = .ok (.slice (some ⟨w.heap.size, 0, none⟩) n n) w' ∧ Bk elP w' w.heap.size (List.replicate n (Rc.nil, Rc.nil)) ∧ Below w.heap.size w w' ∧ w'.heap.size = w.heap.size + 1 := by
  obtain ⟨i0, hi, hz0, hz1, hz2⟩ := info_parts infoPi
  have h := run_make (P := Tryz.prog) w 36 105 i0 (.agg #[.bool false, .slice none 0 0, .slice none 0 0, .bool false, .slice none 0 0, .slice none 0 0]) Tryz.underlying36 hi hz0 .i64 .i64 (n : Int) (n : Int) (by omega) (by omega) (by rw [hz2]; omega) (by omega)
  rw [hz1] at h
  simp only [Int.toNat_natCast] at h
  refine ⟨_, h, ?_, (Below.refl _ _).alloc (Nat.le_refl _) _, by simp⟩
  rw [made6 n hn]
  exact Va.new w _ _
theorem make_T (n : Nat) (hn : n ≤ 8) (w : World) : ∃ w', (Instr.makeSlice 59 (.int .i64 (n : Int)) (.int .i64 (n : Int))).run Tryz.prog w = .ok (.slice (some ⟨w.heap.size, 0, none⟩) n n) w' ∧ Bk elT w' w.heap.size (List.replicate n (Rc.nil, Rc.nil)) ∧ Below w.heap.size w w' ∧ w'.heap.size = w.heap.size + 1 := by
  obtain ⟨i0, hi, hz0, hz1, hz2⟩ := info_parts infoSt
  have h := run_make (P := Tryz.prog) w 59 63 i0 (.agg #[.bool false, .slice none 0 0, .slice none 0 0, .bool false, .slice none 0 0, .slice none 0 0]) Tryz.underlying59 hi hz0 .i64 .i64 (n : Int) (n : Int) (by omega) (by omega) (by rw [hz2]; omega) (by omega)
  rw [hz1] at h
  simp only [Int.toNat_natCast] at h
  refine ⟨_, h, ?_, (Below.refl _ _).alloc (Nat.le_refl _) _, by simp⟩
  rw [made6 n hn]
  exact Va.new w _ _
theorem sto6 {E : El Pc} (hE : E.s = 6) (he : E.enc = Pc.vs) {W : World} {g k : Nat} {ps : List Pc} (h : Bk E W g ps) (hk : k < ps.length) (p : Pc) {Q : World → Prop}
    (q : ∀ V, Bk E V g (ps.set k p) → (∀ c, c ≠ g → V.heap[c]? = W.heap[c]?) → (∀ B v, B ≤ g → Below B v W → Below B v V) → Q V) : Q (put6 W g k p) :=
  q _ (h.put6 hE he hk p) (put6_other W g k p) (fun B v hB hb => put6_below hb hB k p)
theorem Rn.far {w : World} {r : Rc} {v : Rat} (h : Rn w r v) {b' : Nat} {t : TypeId} {cs : Array Value} (V : Va w b' t cs) (hn : NoInt cs) {w' : World} (k : ∀ c, c ≠ b' → w'.heap[c]? = w.heap[c]?) : Rn w' r v := Rr.far h V hn k
theorem getD_set {α : Type} (ps : List α) (k j : Nat) (p d : α) (hk : k < ps.length) : (ps.set k p).getD j d = if j = k then p else ps.getD j d := by
  rw [List.getD_eq_getElem?_getD, List.getD_eq_getElem?_getD, List.getElem?_set]
  by_cases h : k = j
  · subst h; simp [hk]
  · simp [h, Ne.symm h]
def Ps (w : World) (ps : List Pc) (l : List Pq) (k : Nat) : Prop := ∀ i, i < k → Rn w (ps.getD i (Rc.nil, Rc.nil)).1 (aq l i) ∧ Rn w (ps.getD i (Rc.nil, Rc.nil)).2 (rq l i)
theorem Ps.after {w w' : World} (hb : Below w.heap.size w w') {ps : List Pc} {l : List Pq} {k : Nat} (h : Ps w ps l k) : Ps w' ps l k := fun i hi => ⟨(h i hi).1.after hb, (h i hi).2.after hb⟩
theorem Ps.drw {w : World} {ps : List Pc} {l : List Pq} {k : Nat} (h : Ps w ps l k) : Ps w.drew ps l k := h
theorem Ps.put {w w' : World} {ps : List Pc} {l : List Pq} {k g : Nat} {p : Pc} (h : Ps w ps l k) (hb : Bk elP w g ps) (hk : k < ps.length) (h1 : Rn w p.1 (aq l k)) (h2 : Rn w p.2 (rq l k)) (hf : ∀ c, c ≠ g → w'.heap[c]? = w.heap[c]?) : Ps w' (ps.set k p) l (k + 1) := by
  intro i hi
  rw [getD_set _ _ _ _ _ hk]
  by_cases e : i = k
  · subst e; rw [if_pos rfl]
    exact ⟨h1.far hb (row_noInt rfl _) hf, h2.far hb (row_noInt rfl _) hf⟩
  · rw [if_neg e]
    have := h i (by omega)
    exact ⟨this.1.far hb (row_noInt rfl _) hf, this.2.far hb (row_noInt rfl _) hf⟩
theorem Bk.lt {α : Type} {E : El α} {w : World} {g : Nat} {xs : List α} (h : Bk E w g xs) : g < w.heap.size := Va.lt h
theorem Bk.frozen {α : Type} {E : El α} {w : World} {g : Nat} {xs : List α} (h : Bk E w g xs) (i : Nat) : w.frozen? ⟨g, i, none⟩ = false := Va.frozen h i
set_option maxHeartbeats 8000000 in
theorem plain_any (b off n c : Nat) (xs : List Pc) (l : List Pq) (w : World) (hL : Le elT w (some ⟨b, off, none⟩) n xs) (hS : Ss w xs l) (hn : l.length = n) (h8 : n ≤ 8) :
  Calls Tryz.prog 28 #[.slice (some ⟨b, off, none⟩) n c] w fun e w' => ∃ (g : Nat) (ps : List Pc), e = .returned (.slice (some ⟨g, 0, none⟩) n n) ∧ Bk elP w' g ps ∧ ps.length = n ∧ Hid (Ps w' ps l n) ∧ Below w.heap.size w w' := by
 have HL : Hid (Le elT w (some ⟨b, off, none⟩) n xs) := hL; have HS : Hid (Ss w xs l) := hS; have HN : Hid (l.length = n) := hn; clear hL hS hn; obtain ⟨w1, hmk, hG, hb1, hs1⟩ := make_P n h8 w; have HG : Hid (Bk elP w1 w.heap.size (List.replicate n (Rc.nil, Rc.nil))) := hG; have HB1 : Hid (Below w.heap.size w w1) := hb1; clear hG hb1 hs1
 go_enter Tryz.func28, Tryz.ntmps28
 (go_wp2_with fail); clear hmk
 go_loopw [11] (fun i wr => ∃ (k : Nat) (ps : List Pc), k ≤ n ∧ i = .int .i64 k ∧ ps.length = n ∧ Hid (Bk elP wr w.heap.size ps) ∧ Hid (Ps wr ps l k) ∧ Hid (Below w.heap.size w wr)) (fun i _ => n - (intOf i).toNat)
 case atStart => exact ⟨0, _, Nat.zero_le _, rfl, List.length_replicate, HG.out, fun j hj => absurd hj (by omega), HB1.out⟩
 case round =>
  obtain ⟨k, ps, hk, rfl, hpl, HGR, HPS, HW⟩ := hrel
  by_cases hlt : k < n
  ·
   have B0 := HW.out; have hG := HGR.out; have flt := HGR.out.lt; have hP := HPS.out; have hL := HL.out.after B0; have hS := (HS.out.after B0).2 k (by rw [HN.out]; exact hlt); have hc : At6 wr b (off + k * 6) (xs.getD k (Rc.nil, Rc.nil)) := hL.six rfl rfl k hlt
   generalize xs.getD k (Rc.nil, Rc.nil) = p at hc hS
   obtain ⟨hp1, hp2⟩ := hS; clear hL; obtain ⟨c0, c1, c2, c3, c4, c5⟩ := hc; have lb := cell_lt c0; (go_wp2_with fail); refine ent1 wr _ _ (Q := fun W => Code.wp Tryz.prog _ _ _ W) ?_; intro x6 hb hs_x6 V6; replace hG := Bk.after hb hG; replace hP := Ps.after hb hP; replace hp1 := Rv.after hb hp1; replace hp2 := Rv.after hb hp2; replace B0 := step B0 hb; clear hb hs_x6; clear c0 c1 c2 c3 c4 c5 lb; refine wp_region_noPanic ?_; replace V6 : Va x6.drew _ _ _ := V6; replace hG := hG.drw; replace hP := hP.drw; replace hp1 := hp1.drw; replace hp2 := hp2.drw; replace B0 := Below.drew B0; refine wp_region_held_drew (S := (fun W => W.cell? ⟨wr.heap.size, 0, none⟩ = some (.bool p.1.s) ∧ W.cell? ⟨wr.heap.size, 1, none⟩ = some (.slice p.1.a p.1.l p.1.c) ∧ W.cell? ⟨wr.heap.size, 2, none⟩ = some (.slice p.1.b p.1.m p.1.d) ∧ W.cell? ⟨wr.heap.size, 3, none⟩ = some (.bool p.2.s) ∧ W.cell? ⟨wr.heap.size, 4, none⟩ = some (.slice p.2.a p.2.l p.2.c) ∧ W.cell? ⟨wr.heap.size, 5, none⟩ = some (.slice p.2.b p.2.m p.2.d))) (by kernel_rfl) ⟨V6.e0, V6.e1, V6.e2, V6.e3, V6.e4, V6.e5⟩ (fun hHeld => ?_)
   (obtain ⟨x7, hxd⟩ : ∃ xd, xd = x6.drew := ⟨_, rfl⟩); rw [← hxd] at V6 hG hP hp1 hp2 B0 hHeld ⊢; clear hxd; refine tjz 0 hHeld ?_; refine tjz 1 hHeld ?_; refine tjz 2 hHeld ?_; refine tjz 3 hHeld ?_; refine tjz 5 hHeld ?_; refine tjz 6 hHeld ?_; refine ryz 4 (fun K hK => ?_); simp only [gA, gB, gC]; (go_simp); refine (plain_rc p.1 _ _ hp1).mono ?_; rintro e x8 ⟨q1, rfl, hq1, hb⟩; replace V6 := V6.a hb; replace hG := Bk.after hb hG; replace hP := Ps.after hb hP; replace hp1 := Rv.after hb hp1; replace hp2 := Rv.after hb hp2; replace B0 := step B0 hb; clear hb; (try go_wp2_with fail)
   refine hK.out _ _ ⟨V6.e0, V6.e1, V6.e2, V6.e3, V6.e4, V6.e5⟩ (fun hHeld => ?_); clear hK K; refine ryz 7 (fun K hK => ?_); simp only [gA, gB, gC]; (go_simp); refine (plain_rc p.2 _ _ hp2).mono ?_; rintro e x9 ⟨q2, rfl, hq2, hb⟩; replace V6 := V6.a hb; replace hG := Bk.after hb hG; replace hP := Ps.after hb hP; replace hp1 := Rv.after hb hp1; replace hp2 := Rv.after hb hp2; replace hq1 := Rn.after hb hq1; replace B0 := step B0 hb; clear hb; (try go_wp2_with fail); refine hK.out _ _ ⟨V6.e0, V6.e1, V6.e2, V6.e3, V6.e4, V6.e5⟩ (fun hHeld => ?_); clear hK K; refine tjz 8 hHeld ?_; refine tjz 9 hHeld ?_; have fl := hG.lt; obtain ⟨b0, b1, b2, b3, b4, b5⟩ := hG.at6 rfl rfl k (by omega); have fr0 := hG.frozen (k * 6); have fr1 := hG.frozen (k * 6 + 1); have fr2 := hG.frozen (k * 6 + 2)
   have fr3 := hG.frozen (k * 6 + 3); have fr4 := hG.frozen (k * 6 + 4); have fr5 := hG.frozen (k * 6 + 5); refine ryz 10 (fun K hK => ?_); simp only [gA, gB, gC]; (go_simp); clear b0 b1 b2 b3 b4 b5 fr0 fr1 fr2 fr3 fr4 fr5; refine sto6 (E := elP) rfl rfl hG (by omega) (q1, q2) (Q := fun W => K _ W) ?_; intro x9 hG9 far9 bel9; have HP9 : Hid (Ps x9 (ps.set k (q1, q2)) l (k + 1)) := hP.put hG (by omega) hq1 hq2 far9; have HG9 : Hid (Bk elP x9 w.heap.size (ps.set k (q1, q2))) := hG9; have HB9 : Hid (Below w.heap.size w x9) := bel9 _ _ (Nat.le_refl _) B0; replace V6 := V6.stay far9 (by omega); refine hK.out _ _ ⟨V6.e0, V6.e1, V6.e2, V6.e3, V6.e4, V6.e5⟩ (fun hHeld => ?_); clear hK K; refine dnz ?_; clear hHeld; (go_wp2_with fail)
   go_roundw
   case measure => simp [intOf]; omega
   case rel => exact ⟨k + 1, ps.set k (q1, q2), by omega, by go_num, by rw [List.length_set]; exact hpl, HG9.out, HP9.out, HB9.out⟩
  ·
   (obtain rfl : k = n := by omega); (go_wp2_with fail)
   go_ret
   exact ⟨w.heap.size, ps, rfl, HGR.out, hpl, HPS.out, HW.out⟩
end Go.Proofs.YtenmkbofpmbedabGreatDoor
namespace Go.Proofs.YtenmkbofpmbedabGreatDoor
open Go.ChangeShapes Go.WideShapes Go.ChangeAt Go.RowKit
set_option linter.unusedVariables false

theorem list2p {α : Type} {l : List α} (h : l.length = 2) : ∃ a b, l = [a, b] := by
  match l, h with
  | [a, b], _ => exact ⟨a, b, rfl⟩
instance : Inhabited Rc := ⟨Rc.nil⟩
section
variable {H : Type} {enc : TypeId × Value → H} {W : World}
end
end Go.Proofs.YtenmkbofpmbedabGreatDoor
