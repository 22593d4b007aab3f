import Derived.Test.YtngichjgfppnpaaGreatDoorMgAa
import Derived.Test.YtngichjgfppnpaaGreatDoorMgAp
import Derived.Test.YtngichjgfppnpaaGreatDoorMgAs
import Derived.Test.YtngichjgfppnpaaGreatDoorMgAt
import Derived.Test.YtngichjgfppnpaaGreatDoorMgAr
namespace Go.Proofs.YtngichjgfppnpaaGreatDoor
open Go.RowKit Go.Shelf
set_option linter.unusedVariables false
set_option maxRecDepth 20000

theorem At4.after {w w' : World} (hb : Below w.heap.size w w') {b k : Nat} {x : Br} (h : At4 w b k x) : At4 w' b k x := ⟨cell_after hb h.c0, cell_after hb h.c1, cell_after hb h.c2, cell_after hb h.c3⟩
theorem At4.drw {w : World} {b k : Nat} {x : Br} (h : At4 w b k x) : At4 w.drew b k x := ⟨h.c0, h.c1, h.c2, h.c3⟩
theorem chk6_any (u p : Int) (w : World) : Calls Tryz.prog 13 #[.agg #[.int .i64 u, .int .i64 p]] w fun e w' => ∃ er : Int, e = .returned (.int .i64 er) ∧ Hid ((er = 0 ∧ CanI u p) ∨ (er ≠ 0 ∧ ¬ CanI u p)) ∧ Below w.heap.size w w' := by
  by_cases hc : CanI u p
  · exact (rcheck6_ok u p hc w).mono (by rintro e w' ⟨rfl, hb⟩; exact ⟨0, rfl, .inl ⟨rfl, hc⟩, hb⟩)
  · exact (rcheck6_no u p hc w).mono (by rintro e w' ⟨rfl, hb⟩; exact ⟨60, rfl, .inr ⟨by decide, hc⟩, hb⟩)
theorem cmp6_any (u p v q : Int) (hu : W64 u) (hv : W64 v) (hc : CanI u p) (hd : CanI v q) (w : World) : Calls Tryz.prog 14 #[.agg #[.int .i64 u, .int .i64 p], .agg #[.int .i64 v, .int .i64 q]] w fun e w' => e = .returned (.tuple #[.int .i64 (qcmp (dvv u p) (dvv v q)), .int .i64 0]) ∧ Below w.heap.size w w' := by
  obtain ⟨P, rfl⟩ : ∃ P : Nat, p = (P : Int) := ⟨p.toNat, by have := hc.1; omega⟩
  obtain ⟨Q, rfl⟩ : ∃ Q : Nat, q = (Q : Int) := ⟨q.toNat, by have := hd.1; omega⟩
  have e : qcmp (dvv u P) (dvv v Q) = dcw u P v Q := by unfold dvv; exact qcmp_dcw u v P Q
  rw [e]
  exact rcmp6_ok u v P Q hu.1 hu.2 ((canI_iff u P).1 hc) hv.1 hv.2 ((canI_iff v Q).1 hd) w
set_option maxHeartbeats 16000000 in
theorem rchk18_any (a : Option Addr) (n c : Nat) (bs : List Br) (w : World) (hL : Le elB w a n bs) (hW : ∀ i, i < n → (bs.getD i bz).ok) :
    Calls Tryz.prog 6 #[.slice a n c] w fun e w' => ∃ er : Int, e = .returned (.int .i64 er) ∧ Hid ((er = 0 ∧ (1 ≤ n ∧ n ≤ 8) ∧ ∃ l, BVals bs l n ∧ Sok l) ∨ (er = 180 ∧ ¬ ((1 ≤ n ∧ n ≤ 8) ∧ ∃ l, BVals bs l n ∧ Sok l))) ∧ Below w.heap.size w w' := by
  have HL : Hid (Le elB w a n bs) := hL; have HW : Hid (∀ i, i < n → (bs.getD i bz).ok) := hW; clear hL hW
  by_cases hn : 1 ≤ n ∧ n ≤ 8
  · have HN : Hid (1 ≤ n ∧ n ≤ 8) := hn
    (have q1 : decide ((n : Int) < 1) = false := by rw [decide_eq_false_iff_not]; omega); (have q2 : decide ((8 : Int) < (n : Int)) = false := by rw [decide_eq_false_iff_not]; omega); obtain ⟨lb, lo, rfl⟩ := HL.out.ex hn.1; have h8 := hn.2; clear hn
    go_enter Tryz.func6, Tryz.ntmps6
    (go_wp2_with fail); clear q1 q2
    go_loopw [3] (fun i wr => ∃ (j : Nat) (l : List Pq), j ≤ n ∧ i = .int .i64 j ∧ Hid (BVals bs l j) ∧ Hid (∀ i, i < j → Ck l i) ∧ Hid (Below w.heap.size w wr)) (fun i _ => n - (intOf i).toNat)
    case atStart => exact ⟨0, [], Nat.zero_le _, rfl, ⟨rfl, fun j hj => absurd hj (by omega)⟩, fun j hj => absurd hj (by omega), Below.refl _ _⟩
    case round =>
      obtain ⟨j, l, hj, rfl, HV, HC, HQ⟩ := hrel
      by_cases hlt : j < n
      ·
        have B0 := HQ.out; have hc : At4 wr lb (lo + j * 4) (bs.getD j bz) := (HL.out.after B0).four j hlt; have hok := HW.out j hlt; (obtain ⟨x, hx⟩ : ∃ x, bs.getD j bz = x := ⟨_, rfl⟩); rw [hx] at hc hok; have HX : Hid (bs.getD j bz = x) := hx; clear hx; have HOK : Hid x.ok := hok; clear hok; obtain ⟨c0, c1, c2, c3⟩ := id hc; (go_wp2_with fail); clear c0 c1 c2 c3; refine (chk6_any x.u x.p _).mono ?_; rintro e x6 ⟨e1, rfl, hk1, hb⟩; replace hc := At4.after hb hc; replace B0 := step B0 hb; clear hb
        by_cases z1 : e1 = 0
        ·
          subst z1; have HCU : Hid (CanI x.u x.p) := Or.elim hk1.out (fun h => h.2) (fun h => absurd rfl h.1); clear hk1; obtain ⟨c0, c1, c2, c3⟩ := id hc; (go_wp2_with fail); clear c0 c1 c2 c3; refine (chk6_any x.v x.q _).mono ?_; rintro e x7 ⟨e2, rfl, hk2, hb⟩; replace hc := At4.after hb hc; replace B0 := step B0 hb; clear hb
          by_cases z4 : e2 = 0
          ·
            subst z4; have HCV : Hid (CanI x.v x.q) := Or.elim hk2.out (fun h => h.2) (fun h => absurd rfl h.1); clear hk2
            by_cases g1 : x.u < 0
            ·
              have d1 : decide (x.u < 0) = true := decide_eq_true g1; obtain ⟨c0, c1, c2, c3⟩ := id hc
              have HBAD : Hid (∀ l', BVals bs l' n → Sok l' → False) := fun l' hv ho => by
                have h' := hv.2 j hlt; rw [HX.out] at h'; have h1 := ho.nonneg (i := j) (by rw [hv.1]; exact hlt); rw [h'.2.1] at h1; exact absurd ((dvv_neg x.u x.p).2 g1) (Rat.not_lt.2 h1)
              (go_wp2_with fail)
              go_ret
              exact ⟨180, rfl, .inr ⟨rfl, fun ⟨_, l', hv, ho⟩ => HBAD.out l' hv ho⟩, B0⟩
            ·
              have d1 : decide (x.u < 0) = false := decide_eq_false g1
              by_cases g2 : x.v < 0
              ·
                have d2 : decide (x.v < 0) = true := decide_eq_true g2; obtain ⟨c0, c1, c2, c3⟩ := id hc
                have HBAD : Hid (∀ l', BVals bs l' n → Sok l' → False) := fun l' hv ho => by
                  have h' := hv.2 j hlt; rw [HX.out] at h'; have h1 := (ho.rate j (by rw [hv.1]; exact hlt)).1; rw [h'.2.2] at h1; exact (rate_0 x.v x.q).1 h1 g2
                (go_wp2_with fail)
                go_ret
                exact ⟨180, rfl, .inr ⟨rfl, fun ⟨_, l', hv, ho⟩ => HBAD.out l' hv ho⟩, B0⟩
              ·
                have d2 : decide (x.v < 0) = false := decide_eq_false g2; obtain ⟨c0, c1, c2, c3⟩ := id hc; (go_wp2_with fail); clear c0 c1 c2 c3; refine (cmp6_any x.v x.q 100 0 HOK.out.2.2.1 ⟨by decide, by decide⟩ HCV.out can_100 _).mono ?_; rintro e x8 ⟨rfl, hb⟩; replace hc := At4.after hb hc; replace B0 := step B0 hb; clear hb; (obtain ⟨cc, hcc⟩ : ∃ s, qcmp (dvv x.v x.q) (dvv 100 0) = s := ⟨_, rfl⟩); rw [hcc]; (have HR1 : Hid (dvv x.v x.q / 100 ≤ 1 ↔ ¬ 0 < cc) := by have := rate_1 x.v x.q; rw [hcc] at this; exact this); clear hcc
                by_cases g3 : 0 < cc
                ·
                  have d3 : decide (0 < cc) = true := decide_eq_true g3
                  have HBAD : Hid (∀ l', BVals bs l' n → Sok l' → False) := fun l' hv ho => by
                    have h' := hv.2 j hlt; rw [HX.out] at h'; have h1 := (ho.rate j (by rw [hv.1]; exact hlt)).2; rw [h'.2.2] at h1; exact HR1.out.1 h1 g3
                  (go_wp2_with fail)
                  go_ret
                  exact ⟨180, rfl, .inr ⟨rfl, fun ⟨_, l', hv, ho⟩ => HBAD.out l' hv ho⟩, B0⟩
                ·
                  have d3 : decide (0 < cc) = false := decide_eq_false g3; have HR : Hid (0 ≤ dvv x.v x.q / 100 ∧ dvv x.v x.q / 100 ≤ 1) := ⟨(rate_0 x.v x.q).2 (by omega), HR1.out.2 (by omega)⟩; clear HR1
                  by_cases h0 : j = 0
                  ·
                    subst h0; (replace hc : At4 x8 lb lo x := by simpa using hc)
                    by_cases gx : x.u = 0
                    ·
                      (have d4 : (x.u != 0) = false := by simp [gx]); (have d5 : (x.u == 0) = true := by simp [gx]); obtain ⟨c0, c1, c2, c3⟩ := id hc; (have HNX : Hid (BVals bs (l ++ [(dvv x.u x.p, dvv x.v x.q / 100)]) (0 + 1)) := by have h0 := HV.out.snoc (by rw [HX.out]; exact HCU.out) (by rw [HX.out]; exact HCV.out); rw [HX.out] at h0; exact h0)
                      have HCX : Hid (∀ i, i < 0 + 1 → Ck (l ++ [(dvv x.u x.p, dvv x.v x.q / 100)]) i) := fun i hi => by
                        have hln := HV.out.1
                        by_cases e : i = 0
                        · rw [e]
                          (have a1 : aq (l ++ [(dvv x.u x.p, dvv x.v x.q / 100)]) (0) = dvv x.u x.p := by rw [← hln, aq_last]); (have a2 : rq (l ++ [(dvv x.u x.p, dvv x.v x.q / 100)]) (0) = dvv x.v x.q / 100 := by rw [← hln, rq_last]); exact ⟨fun _ => by rw [a1]; exact (dvv_zero x.u x.p).2 gx, fun h => absurd h (by omega), by rw [a2]; exact HR.out.1, by rw [a2]; exact HR.out.2⟩
                        · have hc' := HC.out i (by omega)
                          refine ⟨fun h0 => ?_, fun h0 => ?_, by rw [rq_app _ (by omega)]; exact hc'.r0, by rw [rq_app _ (by omega)]; exact hc'.r1⟩
                          · rw [aq_app _ (by omega)]; exact hc'.z h0
                          · rw [aq_app _ (by omega), aq_app _ (by omega)]; exact hc'.u h0
                      (go_wp2_with fail)
                      go_roundw
                      case measure => simp [intOf]; omega
                      case rel => exact ⟨0 + 1, _, by omega, by go_num, HNX.out, HCX.out, B0⟩
                    ·
                      (have d4 : (x.u != 0) = true := by simp [gx]); (have d5 : (x.u == 0) = false := by simp [gx]); obtain ⟨c0, c1, c2, c3⟩ := id hc
                      have HBAD : Hid (∀ l', BVals bs l' n → Sok l' → False) := fun l' hv ho => by
                        have h' := hv.2 0 hlt; rw [HX.out] at h'; have h1 := ho.nought; rw [h'.2.1] at h1; exact gx ((dvv_zero x.u x.p).1 h1)
                      (go_wp2_with fail)
                      go_ret
                      exact ⟨180, rfl, .inr ⟨rfl, fun ⟨_, l', hv, ho⟩ => HBAD.out l' hv ho⟩, B0⟩
                  ·
                    (obtain ⟨m, hjm⟩ : ∃ m, j = m + 1 := ⟨j - 1, by omega⟩); have HJM : Hid (j = m + 1) := hjm; (have e9 : (j : Int) - 1 = (m : Int) := by omega); (have hmk : m < n := by omega); have hd : At4 x8 lb (lo + m * 4) (bs.getD m bz) := (HL.out.after (show Below w.heap.size w x8 from B0)).four m hmk; (obtain ⟨y, hy⟩ : ∃ y, bs.getD m bz = y := ⟨_, rfl⟩); rw [hy] at hd; (have HY : Hid (bs.getD m bz = y ∧ y.ok ∧ CanI y.u y.p ∧ aq l m = dvv y.u y.p) := by have h1 := HV.out.2 m (by omega); have h2 := HW.out m hmk; rw [hy] at h1 h2; exact ⟨hy, h2, h1.1.1, h1.2.1⟩); clear hy; (obtain ⟨cu, hcu⟩ : ∃ s, qcmp (dvv y.u y.p) (dvv x.u x.p) = s := ⟨_, rfl⟩); (have HCM : Hid (cu < 0 ↔ dvv y.u y.p < dvv x.u x.p) := by have := cmp_lt' (dvv y.u y.p) (dvv x.u x.p); rw [hcu] at this; exact this); (have e7 : ((j : Int) == 0) = false := by simp; omega); (have e8 : decide ((0 : Int) < (j : Int)) = true := by rw [decide_eq_true_iff]; omega); clear hjm
                    (go_wp2_with fail); refine wp_region_noPanic ?_; replace hc := hc.drw; replace hd := hd.drw; replace B0 := Below.drew B0; refine wp_region_held_drew (S := (fun W => W.cell? ⟨lb, lo + j * 4, none⟩ = some (.int .i64 x.u) ∧ W.cell? ⟨lb, lo + j * 4 + 1, none⟩ = some (.int .i64 x.p) ∧ W.cell? ⟨lb, lo + m * 4, none⟩ = some (.int .i64 y.u) ∧ W.cell? ⟨lb, lo + m * 4 + 1, none⟩ = some (.int .i64 y.p))) (by kernel_rfl) ⟨hc.c0, hc.c1, hd.c0, hd.c1⟩ (fun hHeld => ?_); (obtain ⟨x9, hxd⟩ : ∃ xd, xd = x8.drew := ⟨_, rfl⟩); rw [← hxd] at hc hd B0 hHeld ⊢; clear hxd; refine tjz 0 hHeld ?_; refine tjz 1 hHeld ?_; refine wpAnyH_take (i := 2) (v := .int .i64 (m : Int)) rfl (by kernel_rfl) (by kernel_rfl) (by kernel_rfl) (fun _ _ _ h => h) (Or.inl ⟨by rfl, ?_⟩) hHeld ?_
                    · (intro W hSw; (try dsimp only at hSw); go_simp; (simp only [IntKind.wrap_i64]; omega))
                    simp only [gA, gB, gC, Act.put, gD, gE, gF]; refine tjz 3 hHeld ?_; refine tjz 4 hHeld ?_; refine tjz 5 hHeld ?_; refine tjz 6 hHeld ?_; refine tjz 7 hHeld ?_; refine tjz 8 hHeld ?_; refine tjz 9 hHeld ?_; refine tjz 10 hHeld ?_; refine ryz 11 (fun K hK => ?_); simp only [gA, gB, gC]; (go_simp); refine (cmp6_any y.u y.p x.u x.p HY.out.2.1.1 HOK.out.1 HY.out.2.2.1 HCU.out _).mono ?_; rintro e x10 ⟨rfl, hb⟩; replace hc := At4.after hb hc; replace hd := At4.after hb hd; replace B0 := step B0 hb
                    clear hb; rw [hcu]; (try go_wp2_with fail); refine hK.out _ _ ⟨hc.c0, hc.c1, hd.c0, hd.c1⟩ (fun hHeld => ?_); clear hK K; refine tjz 12 hHeld ?_; refine tjz 13 hHeld ?_; refine tjz 14 hHeld ?_; refine tjz 15 hHeld ?_; refine tjz 16 hHeld ?_; refine dnz ?_; clear hHeld
                    by_cases gu : 0 ≤ cu
                    ·
                      have eu : decide (0 ≤ cu) = true := decide_eq_true gu
                      have HBAD : Hid (∀ l', BVals bs l' n → Sok l' → False) := fun l' hv ho => by
                        have h' := hv.2 j hlt; rw [HX.out] at h'; have hj1 := HJM.out; have h1 := ho.up m (by rw [hv.1, ← hj1]; exact hlt); have h2 := hv.2 m (by omega); rw [HY.out.1] at h2; rw [← hj1, h'.2.1, h2.2.1] at h1; have := HCM.out.2 h1
                        omega
                      (go_wp2_with fail)
                      go_ret
                      exact ⟨180, rfl, .inr ⟨rfl, fun ⟨_, l', hv, ho⟩ => HBAD.out l' hv ho⟩, B0⟩
                    ·
                      have eu : decide (0 ≤ cu) = false := decide_eq_false gu; (have HNX : Hid (BVals bs (l ++ [(dvv x.u x.p, dvv x.v x.q / 100)]) (j + 1)) := by have h0 := HV.out.snoc (by rw [HX.out]; exact HCU.out) (by rw [HX.out]; exact HCV.out); rw [HX.out] at h0; exact h0)
                      have HCX : Hid (∀ i, i < j + 1 → Ck (l ++ [(dvv x.u x.p, dvv x.v x.q / 100)]) i) := fun i hi => by
                        have hln := HV.out.1
                        by_cases e : i = j
                        · rw [e]
                          (have a1 : aq (l ++ [(dvv x.u x.p, dvv x.v x.q / 100)]) (j) = dvv x.u x.p := by rw [← hln, aq_last]); (have a2 : rq (l ++ [(dvv x.u x.p, dvv x.v x.q / 100)]) (j) = dvv x.v x.q / 100 := by rw [← hln, rq_last]); exact ⟨fun h => absurd h h0, fun _ => by have hj1 := HJM.out; rw [a1, show j - 1 = m by omega, aq_app _ (by omega), HY.out.2.2.2]; exact HCM.out.1 (by omega), by rw [a2]; exact HR.out.1, by rw [a2]; exact HR.out.2⟩
                        · have hc' := HC.out i (by omega)
                          refine ⟨fun h0 => ?_, fun h0 => ?_, by rw [rq_app _ (by omega)]; exact hc'.r0, by rw [rq_app _ (by omega)]; exact hc'.r1⟩
                          · rw [aq_app _ (by omega)]; exact hc'.z h0
                          · rw [aq_app _ (by omega), aq_app _ (by omega)]; exact hc'.u h0
                      (go_wp2_with fail)
                      go_roundw
                      case measure => simp [intOf]; omega
                      case rel => exact ⟨j + 1, _, by omega, by go_num, HNX.out, HCX.out, B0⟩
          ·
            (have z5 : (e2 != 0) = true := by simp [z4]); (have z6 : (e2 == 0) = false := by simp [z4])
            have HBAD : Hid (∀ l', BVals bs l' n → Sok l' → False) := fun l' hv ho => by
              have h' := hv.2 j hlt; rw [HX.out] at h'
              rcases hk2.out with ⟨h0, -⟩ | ⟨-, h0⟩
              · exact z4 h0
              · exact h0 h'.1.2
            (go_wp2_with fail)
            go_ret
            exact ⟨180, rfl, .inr ⟨rfl, fun ⟨_, l', hv, ho⟩ => HBAD.out l' hv ho⟩, B0⟩
        ·
          (have z2 : (e1 != 0) = true := by simp [z1]); (have z3 : (e1 == 0) = false := by simp [z1])
          have HBAD : Hid (∀ l', BVals bs l' n → Sok l' → False) := fun l' hv ho => by
            have h' := hv.2 j hlt; rw [HX.out] at h'
            rcases hk1.out with ⟨h0, -⟩ | ⟨-, h0⟩
            · exact z1 h0
            · exact h0 h'.1.1
          (go_wp2_with fail)
          go_ret
          exact ⟨180, rfl, .inr ⟨rfl, fun ⟨_, l', hv, ho⟩ => HBAD.out l' hv ho⟩, B0⟩
      ·
        (obtain rfl : j = n := by omega); have B0 := HQ.out; (go_wp2_with fail)
        go_ret
        exact ⟨0, rfl, .inl ⟨rfl, HN.out, l, HV.out, Sok.of (by rw [HV.out.1]; exact HN.out.1) (by rw [HV.out.1]; exact HN.out.2) (by rw [HV.out.1]; exact HC.out)⟩, B0⟩
  · have HN : Hid (¬ (1 ≤ n ∧ n ≤ 8)) := hn
    rcases Nat.lt_or_ge n 1 with g | g
    · have q1 : decide ((n : Int) < 1) = true := by rw [decide_eq_true_iff]; omega
      clear hn
      go_enter Tryz.func6, Tryz.ntmps6
      (go_wp2_with fail)
      go_ret
      exact ⟨180, rfl, .inr ⟨rfl, fun h => HN.out h.1⟩, Below.refl _ _⟩
    · have q1 : decide ((n : Int) < 1) = false := by rw [decide_eq_false_iff_not]; omega
      (have q2 : decide ((8 : Int) < (n : Int)) = true := by rw [decide_eq_true_iff]; omega); clear hn
      go_enter Tryz.func6, Tryz.ntmps6
      (go_wp2_with fail)
      go_ret
      exact ⟨180, rfl, .inr ⟨rfl, fun h => HN.out h.1⟩, Below.refl _ _⟩
end Go.Proofs.YtngichjgfppnpaaGreatDoor
namespace Go.Proofs.YtngichjgfppnpaaGreatDoor
open Go.RowKit Go.Shelf
set_option linter.unusedVariables false
set_option maxRecDepth 20000

def ChS (bs : List Br) (n : Nat) (er : Int) : Prop := (er = 0 ∧ (1 ≤ n ∧ n ≤ 8) ∧ ∃ l, BVals bs l n ∧ Sok l) ∨ (er = 180 ∧ ¬ ((1 ≤ n ∧ n ≤ 8) ∧ ∃ l, BVals bs l n ∧ Sok l))
theorem ChS.uniq {bs : List Br} {n : Nat} {e f : Int} (h : ChS bs n e) (g : ChS bs n f) : e = f := by
  rcases h with ⟨h1, h2⟩ | ⟨h1, h2⟩ <;> rcases g with ⟨g1, g2⟩ | ⟨g1, g2⟩
  · omega
  · exact absurd h2 g2
  · exact absurd g2 h2
  · omega
set_option maxHeartbeats 4000000 in
theorem chk18_any (a : Option Addr) (n c : Nat) (bs : List Br) (w : World) (hL : Le elB w a n bs) (hW : ∀ i, i < n → (bs.getD i bz).ok) (hT : Tn w) :
    Calls Tryz.prog 4 #[.slice a n c] w fun e w' => ∃ er : Int, e = .returned (.int .i64 er) ∧ Hid (ChS bs n er) ∧ Below w.heap.size w w' := by
  have HO := ofBr_any a n c bs w hL hW hT
  clear hL hW hT
  go_enter Tryz.func4, Tryz.ntmps4
  go_wp2_with fail
  refine HO.mono ?_
  clear HO
  rintro e w1 ⟨a', n', c', er, rfl, hs, hb⟩
  have HS : Hid (ChS bs n er) := by
    show ChS bs n er
    rcases hs.out with ⟨h0, h⟩ | h
    · obtain ⟨g, xs, l, -, -, -, -, -, -, -, hV, hO⟩ := h.ex
      have h1 := hO.one
      have h8 := hO.few
      rw [hV.1] at h1 h8
      exact .inl ⟨h0, ⟨h1, h8⟩, l, hV, hO⟩
    · exact .inr h
  have HB : Hid (Below w.heap.size w w1) := hb
  clear hs hb
  go_wp2_with fail
  go_ret
  exact ⟨er, rfl, HS, HB.out⟩
end Go.Proofs.YtngichjgfppnpaaGreatDoor
namespace Go.Proofs.YtngichjgfppnpaaGreatDoor
open Go.RowKit Go.Shelf
set_option linter.unusedVariables false
set_option maxRecDepth 20000

def NoLm (l : List Value) : Prop := ∀ u ∈ l, ∀ z : Int, u ≠ .int .u64 z
theorem NoLm.of {l : List Value} (h : NoLm l) : NoInt l.toArray := fun i z e => h _ (List.mem_of_getElem? (by simpa using e)) z rfl
theorem NoLm.ofA {cs : Array Value} (h : NoLm cs.toList) : NoInt cs := fun i z e => h _ (List.mem_of_getElem? (by simpa using e)) z rfl
theorem NoInt.lm {cs : Array Value} (h : NoInt cs) : NoLm cs.toList := fun u hu z e => by
  obtain ⟨i, hi⟩ := List.mem_iff_getElem?.1 hu
  exact h i z (by rw [e] at hi; simpa using hi)
theorem NoLm.app {a b : List Value} (h : NoLm a) (g : NoLm b) : NoLm (a ++ b) := fun u hu => by
  rcases List.mem_append.1 hu with h1 | h1
  · exact h u h1
  · exact g u h1
theorem NoLm.sub {a b : List Value} (h : NoLm a) (g : ∀ u ∈ b, u ∈ a) : NoLm b := fun u hu => h u (g u hu)
theorem zeros_nolm (z : Array Value) (n : Nat) (h : NoLm z.toList) : NoLm (Builtin.zeroCells z n).toList := by
  intro u hu k
  simp only [Builtin.zeroCells, Array.toList_map, List.mem_map] at hu
  obtain ⟨i, hi, rfl⟩ := hu
  have h1 : i < n * z.size := by simpa using hi
  have h2 : 0 < z.size := Nat.pos_of_ne_zero (fun e => by rw [e] at h1; simp at h1)
  rw [getElem!_pos z (i % z.size) (Nat.mod_lt _ h2)]
  exact h _ (by simp) k
theorem pc_nolm (xs : List Pc) : NoLm (rowE elP xs) := by
  intro u hu z
  simp only [rowE, List.mem_flatMap] at hu
  obtain ⟨x, -, hx⟩ := hu
  have hx' : u ∈ Pc.vs x := hx
  simp at hx'
  rcases hx' with rfl | rfl | rfl | rfl | rfl | rfl <;> simp
theorem zp_nolm : NoLm elP.z.cells.toList := by
  intro u hu z e
  subst e
  have hu' : Value.int .u64 z ∈ [Value.bool false, .slice none 0 0, .slice none 0 0, .bool false, .slice none 0 0, .slice none 0 0] := hu
  simp at hu'
def Nb (w : World) (v : Value) : Prop := ∀ g, v.ownBlock = some g → ∃ cur, Va w g 75 cur ∧ NoInt cur
theorem Nb.nil (w : World) : Nb w (.slice none 0 0) := fun g h => by cases h
theorem Nb.after {w w' : World} (hb : Below w.heap.size w w') {v : Value} (h : Nb w v) : Nb w' v := fun g hg => by
  obtain ⟨cur, h1, h2⟩ := h g hg
  exact ⟨cur, h1.after hb, h2⟩
theorem Nb.al {w : World} {v : Value} (h : Nb w v) (o : Obj) : Nb (w.alloc o) v := h.after ((Below.refl _ _).alloc (Nat.le_refl _) _)
theorem run_appN (w : World) (ty : TypeId) (B : Nat) (v : Value) (xs : List Pc) (hg : Ge elP w B v xs) (hN : Nb w v) (b off c : Nat) (p : Pc) (hy : Le elP w (.some ⟨b, off, none⟩) 1 [p]) (hb : xs.length + 1 ≤ 1000000000000) (hB : B ≤ w.heap.size) :
    ∃ v' w', (Builtin.append_ #[elP.tl, elP.tl] ty #[v, .slice (.some ⟨b, off, none⟩) 1 c]).run Tryz.prog w = .ok v' w' ∧ Nb w' v' := by
  obtain ⟨i, hi, hz, hz1, hz2⟩ := info_parts elP.inf
  have hl : (rowE elP [p]).length = 1 * elP.s := by rw [rowE_length]; rfl
  have hnews := hy.news
  have hlm := pc_nolm [p]
  have hone := rowE_one elP [p]
  generalize rowE elP [p] = news at hl hnews hlm hone
  have hs6 : elP.s = 6 := rfl
  rw [← hz1] at hl
  obtain ⟨h1, h2⟩ := hg
  have hxl := pc_nolm xs
  rcases h2 with ⟨rfl, h0⟩ | ⟨g, cap, cur, rfl, hbg, hh, hnc, hcm, hcs, htake⟩
  · have hr := run_append_nil (P := Tryz.prog) w elP.tl ty elP.te i elP.z elP.und hi hz ⟨b, off, none⟩ 1 c news hl hnews (by omega) (by omega) (by rw [hz2]; decide)
    refine ⟨_, _, hr, fun g hg => ?_⟩
    cases hg
    exact ⟨_, heap_alloc_new w.drew _, NoLm.ofA (by simpa using hlm.app (zeros_nolm _ (grownCap w 1 0 elP.te - 1) zp_nolm))⟩
  · by_cases hroom : xs.length + 1 ≤ cap
    · have hfit : xs.length * i.size + news.length ≤ cur.size := by rw [hl, hcs, hz1, ← Nat.add_mul]; exact Nat.mul_le_mul_right _ hroom
      have hr := run_append_room (P := Tryz.prog) w elP.tl ty elP.te i elP.und hi g xs.length cap cur hh ⟨b, off, none⟩ 1 c news hl hnews hone hroom hfit
      refine ⟨_, _, hr, fun k hk => ?_⟩
      cases hk
      obtain ⟨cur2, hv, hn⟩ := hN g rfl
      have e : cur2 = cur := by
        unfold Va at hv
        rw [hh] at hv
        cases hv; rfl
      subst e
      exact ⟨_, setRow_heap w g cur2 _ elP.te _ hh, ((hn.lm.sub (fun u hu => List.mem_of_mem_take hu)).app hlm |>.app (hn.lm.sub (fun u hu => List.mem_of_mem_drop hu))).of⟩
    · have holds : ∀ j u, (rowE elP xs)[j]? = some u → w.cell? ((⟨g, 0, none⟩ : Addr).add j) = some u := World.ownsRow.cells (g := g) ⟨h1, .inr ⟨g, cap, cur, rfl, hbg, hh, hnc, hcm, hcs, htake⟩⟩ rfl
      have hr := run_append_grow (P := Tryz.prog) w elP.tl ty elP.te i elP.z elP.und hi hz ⟨g, 0, none⟩ xs.length cap (rowE elP xs) (by rw [rowE_length, hz1]) holds ⟨b, off, none⟩ 1 c news hl hnews (by omega) (by omega) (growslice_fits (by omega) (by rw [hz2]; show _ * 112 ≤ _; omega))
      refine ⟨_, _, hr, fun k hk => ?_⟩
      cases hk
      exact ⟨_, heap_alloc_new w.drew _, NoLm.ofA (by simpa using (hxl.app hlm).app (zeros_nolm _ (grownCap w (xs.length + 1) cap elP.te - (xs.length + 1)) zp_nolm))⟩
theorem wpList_appN {ops : Array Oper} {rest : List Oper} {o : Oper} {a : Act} {w : World} {Q : Exit → Act → World → Prop} (hgd : o.guard = none) (s x : Operand) (t : TypeId)
    (ho : o.op = .call { callee := .builtin .append, args := #[s, x], argTypes := #[t, t] }) (ht : t = elP.tl)
    (B : Nat) (v : Value) (xs : List Pc) (hs : a.eval s = v) (hg : Ge elP w B v xs) (hN : Nb w v) (b off c : Nat) (p : Pc) (hx : a.eval x = .slice (.some ⟨b, off, none⟩) 1 c) (hy : Le elP w (.some ⟨b, off, none⟩) 1 [p])
    (hb : xs.length + 1 ≤ 1000000000000) (hB : B ≤ w.heap.size)
    (h : ∀ v' w', Ge elP w' B v' (xs ++ [p]) → w.grownBy w' v.ownBlock → Nb w' v' → wpList Tryz.prog ops Q rest (a.put o.dst v') w') : wpList Tryz.prog ops Q (o :: rest) a w := by
  subst ht
  refine wpList_plain hgd fun K hK => ?_
  obtain ⟨v', w', hr, k2, k3, k5⟩ := run_appE w o.type B v xs hg b off 1 c [p] hy (by omega) hB
  obtain ⟨v2, w2, hr2, hN2⟩ := run_appN w o.type B v xs hg hN b off c p hy hb hB
  rw [hr] at hr2
  cases hr2
  unfold Oper.wp execOp
  simp only [ho, resolve, invoke, builtin, Sem.run_bind, Sem.run_pure, Result.andThen_ok, List.map_toArray, List.map_cons, List.map_nil, hs, hx, hr]
  exact hK _ _ (h v' w' k2 k3 hN2)
theorem Sl.gr {w w' : World} {a : Option Addr} {len : Nat} {zs : List Int} (h : Sl w a len zs) {v : Value} (hg : w.grownBy w' v.ownBlock) (hN : Nb w v) : Sl w' a len zs := by
  obtain ⟨h1, h2, h3⟩ := h
  refine ⟨h1, h2, fun h0 => ?_⟩
  obtain ⟨bb, off, rfl, hc⟩ := h3 h0
  refine ⟨bb, off, rfl, fun i hi => ?_⟩
  have e := hc i hi
  have hlt := cell_lt e
  by_cases hb : v.ownBlock = some bb
  · obtain ⟨cur, V, hn⟩ := hN bb hb
    rw [V.cellAt] at e
    exact absurd e (hn _ _)
  · exact cell_hop9 e (hg.block bb hlt (fun e2 => hb e2.symm))
theorem Rn.gr {w w' : World} {r : Rc} {x : Rat} (h : Rn w r x) {v : Value} (hg : w.grownBy w' v.ownBlock) (hN : Nb w v) : Rn w' r x := ⟨Sl.gr h.1 hg hN, Sl.gr h.2.1 hg hN, h.2.2⟩
theorem Ps.gr {w w' : World} {ps : List Pc} {l : List Pq} {k : Nat} (h : Ps w ps l k) {v : Value} (hg : w.grownBy w' v.ownBlock) (hN : Nb w v) : Ps w' ps l k := fun i hi => ⟨(h i hi).1.gr hg hN, (h i hi).2.gr hg hN⟩
theorem Ps.snoc {w : World} {ps : List Pc} {l : List Pq} {p : Pc} {x y : Rat} (h : Ps w ps l ps.length) (hl : l.length = ps.length) (h1 : Rn w p.1 x) (h2 : Rn w p.2 y) : Ps w (ps ++ [p]) (l ++ [(x, y)]) (ps.length + 1) := by
  intro i hi
  by_cases e : i = ps.length
  · have e1 : (ps ++ [p]).getD i (Rc.nil, Rc.nil) = p := by rw [e, List.getD_eq_getElem?_getD, List.getElem?_append_right (Nat.le_refl _)]; simp
    rw [e1, e, ← hl, aq_last, rq_last]
    exact ⟨h1, h2⟩
  · have e1 : (ps ++ [p]).getD i (Rc.nil, Rc.nil) = ps.getD i (Rc.nil, Rc.nil) := by rw [List.getD_eq_getElem?_getD, List.getElem?_append_left (by omega), ← List.getD_eq_getElem?_getD]
    rw [e1, aq_app _ (by omega), rq_app _ (by omega)]
    exact h i (by omega)
theorem Ps.aft {w w' : World} (hb : Below w.heap.size w w') {ps : List Pc} {l : List Pq} {k : Nat} (h : Ps w ps l k) : Ps w' ps l k := fun i hi => ⟨(h i hi).1.after hb, (h i hi).2.after hb⟩
end Go.Proofs.YtngichjgfppnpaaGreatDoor
namespace Go.Proofs.YtngichjgfppnpaaGreatDoor
open Go.RowKit Go.Shelf
set_option linter.unusedVariables false
set_option linter.unusedSimpArgs false
set_option maxRecDepth 20000

theorem wpList_appB {ops : Array Oper} {rest : List Oper} {o : Oper} {a : Act} {w : World} {Q : Exit → Act → World → Prop} (hgd : o.guard = none) (s x : Operand)
    (ho : o.op = .call { callee := .builtin .append, args := #[s, x], argTypes := #[22, 22] })
    (hs : a.eval s = .slice none 0 0) (b off m c : Nat) (ys : List Br) (hx : a.eval x = .slice (some ⟨b, off, none⟩) m c) (hy : Le elB w (some ⟨b, off, none⟩) m ys) (hb : m ≤ 4398046511104)
    (h : ∀ v' w', Ge elB w' w.heap.size v' ys → w.grownBy w' none → wpList Tryz.prog ops Q rest (a.put o.dst v') w') : wpList Tryz.prog ops Q (o :: rest) a w := by
  refine wpList_plain hgd fun K hK => ?_
  obtain ⟨i0, hi, hz0, hz1, hz2⟩ := info_parts infoBr
  obtain ⟨v', w', hr, h2, h3, -, h5⟩ := run_append_own_at (P := Tryz.prog) (w := w) w.heap.size 22 o.type 53 i0 (.agg #[.int .i64 0, .int .i64 0, .int .i64 0, .int .i64 0]) 4 32 Tryz.underlying22 hi hz0 hz1 hz2 rfl (by decide) (.slice none 0 0) 0 [] (Ge.nil (E := elB) w w.heap.size) ⟨b, off, none⟩ m c (rowE elB ys) (by rw [rowE_length, hy.1]; rfl) (Le.news hy) (rowE_one elB _) (by unfold maxLen; omega) (by omega) (Nat.le_refl _)
  unfold Oper.wp execOp
  simp only [ho, resolve, invoke, builtin, Sem.run_bind, Sem.run_pure, Result.andThen_ok, List.map_toArray, List.map_cons, List.map_nil, hs, hx, hr]
  refine hK _ _ (h v' w' ?_ h3)
  have h6 : World.ownsRow w' w.heap.size 53 4 v' m (rowE elB ys) := by simpa using h2
  show World.ownsRow _ _ _ _ _ _ _
  rw [hy.1]
  exact h6
set_option maxHeartbeats 2000000 in
theorem copyB (a : Option Addr) (len cap : Nat) (ys : List Br) (w : World) (h : Le elB w a len ys) (hn : a = none → len = 0 ∧ cap = 0) (hl : len ≤ 4398046511104) :
    Calls Tryz.prog 5 #[.slice a len cap] w fun e w' => (∃ a' c', e = .returned (.slice a' len c') ∧ Le elB w' a' len ys) ∧ Below w.heap.size w w' := by
  have hlen := h.1
  cases a with
  | none =>
    obtain ⟨rfl, rfl⟩ := hn rfl
    have hp : ys = [] := List.length_eq_zero_iff.1 h.1
    subst hp
    go_enter Tryz.func5, Tryz.ntmps5
    go_wp2_with fail
    go_ret
    first
      | exact ⟨⟨_, _, rfl, Le.nil _ _⟩, Below.refl _ _⟩
      | exact ⟨⟨_, ⟨_, rfl⟩, Le.nil _ _⟩, Below.refl _ _⟩
  | some ad =>
    rcases Nat.eq_zero_or_pos len with h0 | h0
    · subst h0
      have hp : ys = [] := List.length_eq_zero_iff.1 h.1
      subst hp
      have HL : Hid (Le elB w (some ⟨0, 0, none⟩) 0 []) := Le.nil _ _
      clear h hn
      go_enter Tryz.func5, Tryz.ntmps5
      go_wp2_with fail
      go_ret
      first
        | exact ⟨⟨_, _, rfl, Le.nil _ _⟩, Below.refl _ _⟩
        | exact ⟨⟨_, ⟨_, rfl⟩, Le.nil _ _⟩, Below.refl _ _⟩
    · obtain ⟨b, off, e⟩ := Le.ex h h0
      cases e
      have HL : Hid (Le elB w (some ⟨b, off, none⟩) len ys) := h
      clear h hn
      go_enter Tryz.func5, Tryz.ntmps5
      go_wp2_with (at_builtin; refine wpList_appB rfl _ _ rfl rfl b off len cap ys rfl HL.out hl ?_; intro v1 w1 hg hgr; obtain ⟨a2, c2, rfl, -, -, -⟩ := hg.shape; have HG : Hid (Le elB w1 a2 ys.length ys) := hg.toLe; have HB : Hid (Below w.heap.size w w1) := (Below.refl _ _).grown hgr (Nat.le_refl _) (fun k hk => by cases hk); clear hg hgr; rw [hlen] at HG ⊢)
      go_ret
      first
        | exact ⟨⟨_, _, rfl, HG.out⟩, HB.out⟩
        | exact ⟨⟨_, ⟨_, rfl⟩, HG.out⟩, HB.out⟩
theorem copyB9 (a : Option Addr) (len cap : Nat) (ys : List Br) (w : World) (h : Le elB w a len ys) (hn : a = none → len = 0 ∧ cap = 0) (hl : len ≤ 4398046511104) :
    Calls Tryz.prog 5 #[.slice a len cap] w fun e w' => ∃ (a' : Option Addr) (c' : Nat), e = .returned (.slice a' len c') ∧ Le elB w' a' len ys ∧ Below w.heap.size w w' :=
  (copyB a len cap ys w h hn hl).mono (by rintro e w' ⟨⟨a', c', rfl, h⟩, hb⟩; exact ⟨a', c', rfl, h, hb⟩)
end Go.Proofs.YtngichjgfppnpaaGreatDoor
