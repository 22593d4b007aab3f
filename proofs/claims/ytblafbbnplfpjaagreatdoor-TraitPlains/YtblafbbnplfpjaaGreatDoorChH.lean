/-
  The document's grown, walked.
-/
import Derived.Test.YtblafbbnplfpjaaGreatDoorMgAp
namespace Go.Proofs.YtblafbbnplfpjaaGreatDoor
open Go.RowKit Go.Shelf
set_option linter.unusedVariables false
set_option linter.unusedSimpArgs false

set_option maxRecDepth 20000 in
set_option maxHeartbeats 16000000 in
theorem grown_any (ns : List Nd) (a : Option Addr) (cap : Nat) (h64 : ∀ n ∈ ns, N64 n) (hl : ns.length ≤ 64) : ∀ (f d : Nat), d + f = 17 → ∀ (p : Nat) (w : World), p ≤ ns.length → Le elN w a ns.length ns →
    Calls Tryz.prog 52 #[.slice a ns.length cap, .int .i64 p, .int .i64 d] w (TgE ns p d w) := by
  intro f
  induction f with
  | zero =>
    intro d hd p w hp hL
    have hd' : (16 : Int) < d := by omega
    have HR : Hid (NoTree wdB (ns.drop p) 0 d) := no_deep _ _ _ (by omega)
    clear hL
    by_cases hpl : p < ns.length
    · have hpi : ¬ (ns.length : Int) ≤ p := by omega
      clear hpl
      go_enter Tryz.func52, Tryz.ntmps52
      go_upto_region 1 with fail
      refine ent1 w _ _ (Q := fun W => Code.wp _ _ _ _ W) ?_
      intro W1 hb1 hs1 V1
      have HV1 : Hid (Va W1 w.heap.size 56 zT) := V1
      have HB1 : Hid (Below w.heap.size w W1) := hb1
      have f0 := V1.frozen 0
      have zf0 := V1.t0
      have f1 := V1.frozen 1
      have zf1 := V1.t1
      have f2 := V1.frozen 2
      have zf2 := V1.t2
      have f3 := V1.frozen 3
      have zf3 := V1.t3
      have f4 := V1.frozen 4
      have zf4 := V1.t4
      have f5 := V1.frozen 5
      have zf5 := V1.t5
      have f6 := V1.frozen 6
      have zf6 := V1.t6
      clear V1 hb1 hs1
      go_wp2_with fail
      refine bodyPost_ret (results_tn rfl rfl rfl (HV1.out.set7 _ _ _ _ _ _ _ )) rfl ?_
      exact ⟨below_7 HB1.out (Nat.le_refl _) _ _ _ _ _ _ _ , .inl ⟨rfl, HR.out⟩⟩
    · have hpi : (ns.length : Int) ≤ p := by omega
      clear hpl
      go_enter Tryz.func52, Tryz.ntmps52
      go_upto_region 1 with fail
      refine ent1 w _ _ (Q := fun W => Code.wp _ _ _ _ W) ?_
      intro W1 hb1 hs1 V1
      have HV1 : Hid (Va W1 w.heap.size 56 zT) := V1
      have HB1 : Hid (Below w.heap.size w W1) := hb1
      have f0 := V1.frozen 0
      have zf0 := V1.t0
      have f1 := V1.frozen 1
      have zf1 := V1.t1
      have f2 := V1.frozen 2
      have zf2 := V1.t2
      have f3 := V1.frozen 3
      have zf3 := V1.t3
      have f4 := V1.frozen 4
      have zf4 := V1.t4
      have f5 := V1.frozen 5
      have zf5 := V1.t5
      have f6 := V1.frozen 6
      have zf6 := V1.t6
      clear V1 hb1 hs1
      go_wp2_with fail
      refine bodyPost_ret (results_tn rfl rfl rfl (HV1.out.set7 _ _ _ _ _ _ _ )) rfl ?_
      exact ⟨below_7 HB1.out (Nat.le_refl _) _ _ _ _ _ _ _ , .inl ⟨rfl, HR.out⟩⟩
  | succ f ih =>
    intro d hd p w hp hL
    have hd' : ¬ (16 : Int) < d := by omega
    have HL : Hid (Le elN w a ns.length ns) := hL
    rcases Nat.eq_or_lt_of_le hp with hpe | hpl
    · have HR : Hid (NoTree wdB (ns.drop p) 0 d) := by show NoTree _ _ _ _; rw [hpe, List.drop_length]; exact no_end _ _
      have hpi : (ns.length : Int) ≤ p := by omega
      clear hpe hL
      go_enter Tryz.func52, Tryz.ntmps52
      go_upto_region 1 with fail
      refine ent1 w _ _ (Q := fun W => Code.wp _ _ _ _ W) ?_
      intro W1 hb1 hs1 V1
      have HV1 : Hid (Va W1 w.heap.size 56 zT) := V1
      have HB1 : Hid (Below w.heap.size w W1) := hb1
      have f0 := V1.frozen 0
      have zf0 := V1.t0
      have f1 := V1.frozen 1
      have zf1 := V1.t1
      have f2 := V1.frozen 2
      have zf2 := V1.t2
      have f3 := V1.frozen 3
      have zf3 := V1.t3
      have f4 := V1.frozen 4
      have zf4 := V1.t4
      have f5 := V1.frozen 5
      have zf5 := V1.t5
      have f6 := V1.frozen 6
      have zf6 := V1.t6
      clear V1 hb1 hs1
      go_wp2_with fail
      refine bodyPost_ret (results_tn rfl rfl rfl (HV1.out.set7 _ _ _ _ _ _ _ )) rfl ?_
      exact ⟨below_7 HB1.out (Nat.le_refl _) _ _ _ _ _ _ _ , .inl ⟨rfl, HR.out⟩⟩
    · have hpi : ¬ (ns.length : Int) ≤ p := by omega
      obtain ⟨b, off, rfl⟩ := hL.ex (by omega)
      obtain ⟨n, hn⟩ : ∃ n, ns.getD p nd0 = n := ⟨_, rfl⟩
      have hmem : n ∈ ns := by rw [← hn, List.getD_eq_getElem?_getD, List.getElem?_eq_getElem hpl]; exact List.getElem_mem hpl
      have hdrop : ns.drop p = n :: ns.drop (p + 1) := by
        rw [List.drop_eq_getElem_cons hpl, ← hn, List.getD_eq_getElem?_getD, List.getElem?_eq_getElem hpl]; rfl
      have HD : Hid (ns.drop p = n :: ns.drop (p + 1)) := hdrop
      have HN64 : Hid (N64 n) := h64 n hmem
      have HNG : Hid (ns.getD p nd0 = n) := hn
      have HIH : Hid (∀ d : Nat, d + f = 17 → ∀ (p : Nat) (w : World), p ≤ ns.length → Le elN w (some ⟨b, off, none⟩) ns.length ns →
          Calls Tryz.prog 52 #[.slice (some ⟨b, off, none⟩) ns.length cap, .int .i64 p, .int .i64 d] w (TgE ns p d w)) := ih
      clear hn hmem hdrop ih hL
      go_enter Tryz.func52, Tryz.ntmps52
      go_upto_region 1 with fail
      refine ent1 w _ _ (Q := fun W => Code.wp _ _ _ _ W) ?_
      intro W1 hb1 hs1 V1
      have L1 := HL.out.after hb1
      have k0 : W1.cell? ⟨b, off + p * 6, none⟩ = some (.int .i64 n.kd) := L1.at p hpl 0 _ (by rw [← HNG.out]; rfl)
      have k1 : W1.cell? ⟨b, off + p * 6 + 1, none⟩ = some (.int .i64 n.ks) := by rw [Nat.add_assoc]; exact L1.at p hpl 1 _ (by rw [← HNG.out]; rfl)
      have k2 : W1.cell? ⟨b, off + p * 6 + 2, none⟩ = some (sv n.nm) := by rw [Nat.add_assoc]; exact L1.at p hpl 2 _ (by rw [← HNG.out]; rfl)
      have k3 : W1.cell? ⟨b, off + p * 6 + 3, none⟩ = some (.int .i64 n.op) := by rw [Nat.add_assoc]; exact L1.at p hpl 3 _ (by rw [← HNG.out]; rfl)
      have k4 : W1.cell? ⟨b, off + p * 6 + 4, none⟩ = some (.int .i64 n.un) := by rw [Nat.add_assoc]; exact L1.at p hpl 4 _ (by rw [← HNG.out]; rfl)
      have k5 : W1.cell? ⟨b, off + p * 6 + 5, none⟩ = some (.int .i64 n.pl) := by rw [Nat.add_assoc]; exact L1.at p hpl 5 _ (by rw [← HNG.out]; rfl)
      have HV1 : Hid (Va W1 w.heap.size 56 zT) := V1
      have HB1 : Hid (Below w.heap.size w W1) := hb1
      have hw1 : w.heap.size < W1.heap.size := by omega
      clear V1 hb1 hs1 L1
      go_upto_region 4 with fail
      refine ent1 W1 _ _ (Q := fun W => Code.wp _ _ _ _ W) ?_
      intro W2 hb2 hs2 V2
      clear k0 k1 k2 k3 k4 k5
      obtain ⟨bn, hbn⟩ : ∃ bn, W1.heap.size = bn := ⟨_, rfl⟩
      have HB2 : Hid (Below w.heap.size w W2) := step HB1.out hb2
      have HV2 : Hid (Va W2 w.heap.size 56 zT) := HV1.out.after hb2
      rw [hbn] at V2 hs2 hw1
      rw [hbn]
      have HN2 : Hid (Va W2 bn 48 (cn n)) := V2
      have m0 := V2.n0
      have m1 := V2.n1
      have m2 := V2.n2
      have m3 := V2.n3
      have m4 := V2.n4
      have m5 := V2.n5
      clear V2 hb2 HB1 HV1 hbn
      go_wp2_with fail
      refine (rsingle_any n W2).mono ?_
      rintro e W3 ⟨rfl, hb3⟩
      have HB3 : Hid (Below w.heap.size w W3) := step HB2.out hb3
      have HV3 : Hid (Va W3 w.heap.size 56 zT) := HV2.out.after hb3
      have HN3 : Hid (Va W3 bn 48 (cn n)) := HN2.out.after hb3
      have hs3 : bn < W3.heap.size := by have := hb3.size; omega
      clear hb3 HB2 HV2 HN2 m0 m1 m2 m3 m4 m5 hs2
      cases hm : mB n with
      | false =>
        have HX : Hid (¬ NdOk wdB n) := fun h => (by rw [mB_yes h] at hm; cases hm)
        clear hm
        have f0 := HV3.out.frozen 0
        have zf0 := HV3.out.t0
        have f1 := HV3.out.frozen 1
        have zf1 := HV3.out.t1
        have f2 := HV3.out.frozen 2
        have zf2 := HV3.out.t2
        have f3 := HV3.out.frozen 3
        have zf3 := HV3.out.t3
        have f4 := HV3.out.frozen 4
        have zf4 := HV3.out.t4
        have f5 := HV3.out.frozen 5
        have zf5 := HV3.out.t5
        have f6 := HV3.out.frozen 6
        have zf6 := HV3.out.t6
        go_wp2_with fail
        refine bodyPost_ret (results_tn rfl rfl rfl (HV3.out.set7 _ _ _ _ _ _ _ )) rfl ?_
        exact ⟨below_7 HB3.out (Nat.le_refl _) _ _ _ _ _ _ _ , .inl ⟨rfl, by rw [HD.out]; exact no_node _ _ _ _ (fun h => HX.out h.1)⟩⟩
      | true =>
        have HN : Hid (NdOk wdB n) := (mB_iff n).1 hm
        have hks0 : (0 : Int) ≤ n.ks := by
          rcases HN.out with ⟨-, h, -⟩ | ⟨-, h, -⟩ | ⟨-, h, -⟩ | ⟨-, h, -⟩ <;> omega
        clear hm
        have m0 := HN3.out.n0
        have m1 := HN3.out.n1
        have m2 := HN3.out.n2
        have m3 := HN3.out.n3
        have m4 := HN3.out.n4
        have m5 := HN3.out.n5
        go_upto_region 8 with fail
        refine ent1 W3 _ _ (Q := fun W => Code.wp _ _ _ _ W) ?_
        intro W4 hb4 hs4 V4
        clear m0 m1 m2 m3 m4 m5
        obtain ⟨bt, hbt⟩ : ∃ bt, W3.heap.size = bt := ⟨_, rfl⟩
        have HB4 : Hid (Below w.heap.size w W4) := step HB3.out hb4
        have HV4 : Hid (Va W4 w.heap.size 56 zT) := HV3.out.after hb4
        have HN4 : Hid (Va W4 bn 48 (cn n)) := HN3.out.after hb4
        rw [hbt] at V4 hs3
        rw [hbt]
        have HT4 : Hid (Va W4 bt 56 (cT n (.slice none 0 0))) := V4
        have xp : IntKind.i64.wrap ((p : Int) + 1) = (p : Int) + 1 := by rw [IntKind.wrap_i64]; omega
        have HK4 : Hid (Ks ns p d w.heap.size bt n W4 0 (p + 1) .nil [] (.slice none 0 0)) := Ks.start hpl
        clear V4 hb4 hs4 hbt HB3 HV3 HN3
        go_wp2_with fail
        go_loopw [1, 11, 12, 13] (fun v1 v11 v12 v13 wr => ∃ (i q : Nat) (kj : Fo) (ts : List Tc) (v : Value), v1 = .int .i64 q ∧ v11 = .int .i64 i ∧ (i : Int) ≤ n.ks ∧ i ≤ 64 ∧ Hid (Ks ns p d w.heap.size bt n wr i q kj ts v) ∧ Hid (Va wr w.heap.size 56 zT) ∧ Hid (Va wr bn 48 (cn n)) ∧ Hid (Va wr bt 56 (cT n v)) ∧ Hid (Below w.heap.size w wr)) (fun _ v11 _ _ _ => (n.ks - intOf v11).toNat)
        case atStart => exact ⟨0, p + 1, .nil, [], .slice none 0 0, by go_num, rfl, hks0, Nat.zero_le _, HK4.out, HV4.out, HN4.out, HT4.out, HB4.out⟩
        case round =>
          clear HK4 HV4 HN4 HT4 HB4 hks0 xp
          obtain ⟨i, q, kj, ts, v, rfl, rfl, hik, hi64, HK, HV, HNd, HT, HB⟩ := hrel
          have q0 := HNd.out.n0
          have q1 := HNd.out.n1
          rcases Int.lt_or_le (i : Int) n.ks with hlt | hge
          · have C9 : Calls Tryz.prog 52 #[.slice (some ⟨b, off, none⟩) ns.length cap, .int .i64 q, .int .i64 ((d : Int) + 1)] wr (TgE ns q (d + 1) wr) := HIH.out (d + 1) (by omega) q wr HK.out.le (HL.out.after HB.out)
            have xd : IntKind.i64.wrap ((d : Int) + 1) = (d : Int) + 1 := by rw [IntKind.wrap_i64]; omega
            have xi : IntKind.i64.wrap ((i : Int) + 1) = (i : Int) + 1 := by rw [IntKind.wrap_i64]; omega
            go_wp2_with fail
            refine C9.mono ?_
            rintro e w5 ⟨hb5, ⟨rfl, hno⟩ | ⟨m, k, ⟨tn, ta, tl, tc⟩, q', rfl, hg⟩⟩
            · have HNO : Hid (NoTree wdB (ns.drop p) 0 d) := by
                show NoTree _ _ _ _
                rw [HD.out]; exact no_kid HK.out.ok HK.out.e (by rw [HK.out.len]; exact hlt) (no_zero hno _)
              clear hno q0 q1 C9
              go_upto_region 13 with fail
              refine ent1 w5 _ _ (Q := fun W => Code.wp _ _ _ _ W) ?_
              intro W6 hb6 hs6 V6
              have h56 := step hb5 hb6
              have HB6 : Hid (Below w.heap.size w W6) := step HB.out h56
              have HV6 : Hid (Va W6 w.heap.size 56 zT) := HV.out.after h56
              have HN6 : Hid (Va W6 bn 48 (cn n)) := HNd.out.after h56
              have HT6 : Hid (Va W6 bt 56 (cT n v)) := HT.out.after h56
              have q0 := HN6.out.n0
              have q1 := HN6.out.n1
              have f0 := HV6.out.frozen 0
              have zf0 := HV6.out.t0
              have f1 := HV6.out.frozen 1
              have zf1 := HV6.out.t1
              have f2 := HV6.out.frozen 2
              have zf2 := HV6.out.t2
              have f3 := HV6.out.frozen 3
              have zf3 := HV6.out.t3
              have f4 := HV6.out.frozen 4
              have zf4 := HV6.out.t4
              have f5 := HV6.out.frozen 5
              have zf5 := HV6.out.t5
              have f6 := HV6.out.frozen 6
              have zf6 := HV6.out.t6
              clear V6 hs6 hb6 hb5 h56
              go_wp2_with fail
              refine bodyPost_ret (results_tn rfl rfl rfl (HV6.out.set7 _ _ _ _ _ _ _ )) rfl ?_
              exact ⟨below_7 HB6.out (Nat.le_refl _) _ _ _ _ _ _ _ , .inl ⟨rfl, HNO.out⟩⟩
            · have htn : tn = m := by
                obtain ⟨t0, ts0, kts0, e0, h0, -⟩ := hg.t
                cases e0; exact h0
              subst htn
              have HG : Hid (Tgr ns q (d + 1) wr.heap.size w5 tn k ⟨tn, ta, tl, tc⟩ q') := hg
              have hq0 : ¬ ((q' : Nat) : Int) < 0 := by omega
              clear q0 q1 C9 hg
              go_upto_region 13 with fail
              refine ent1 w5 _ _ (Q := fun W => Code.wp _ _ _ _ W) ?_
              intro W6 hb6 hs6 V6
              have h56 := step hb5 hb6
              have HB6 : Hid (Below w.heap.size w W6) := step HB.out h56
              have HV6 : Hid (Va W6 w.heap.size 56 zT) := HV.out.after h56
              have HN6 : Hid (Va W6 bn 48 (cn n)) := HNd.out.after h56
              have HT6 : Hid (Va W6 bt 56 (cT n v)) := HT.out.after h56
              have q0 := HN6.out.n0
              have q1 := HN6.out.n1
              obtain ⟨bk, hbk⟩ : ∃ bk, w5.heap.size = bk := ⟨_, rfl⟩
              rw [hbk] at V6
              rw [hbk]
              have HK6 : Hid (Va W6 bk 56 (cT tn (.slice ta tl tc))) := V6
              have hbw : bt < wr.heap.size := HT.out.lt
              have h5w := hb5.size
              have g0 := HK6.out.t0
              have HB5 : Hid (Below wr.heap.size wr w5) := hb5
              have HB56 : Hid (Below wr.heap.size wr W6) := h56
              have HB66 : Hid (Below w5.heap.size w5 W6) := hb6
              clear V6 hb6 hb5 h56 hs6 hbk
              by_cases hc : (n.kd = 1 ∨ n.kd = 2) ∧ tn.kd = n.kd
              · have HNO : Hid (NoTree wdB (ns.drop p) 0 d) := by
                  show NoTree _ _ _ _
                  rw [HD.out]; exact no_kid HK.out.ok HK.out.e (by rw [HK.out.len]; exact hlt) (by rw [HG.out.e]; exact no_same HG.out.ok hc.2 (by rcases hc.1 with h | h <;> omega))
                have b3 : (tn.kd == n.kd) = true := by simpa using hc.2
                rcases hc.1 with h1 | h1
                · have b1 : (n.kd == 1) = true := by simp [h1]
                  have b2 : (n.kd == 2) = false := by simp [h1]
                  clear hc h1
                  have f0 := HV6.out.frozen 0
                  have zf0 := HV6.out.t0
                  have f1 := HV6.out.frozen 1
                  have zf1 := HV6.out.t1
                  have f2 := HV6.out.frozen 2
                  have zf2 := HV6.out.t2
                  have f3 := HV6.out.frozen 3
                  have zf3 := HV6.out.t3
                  have f4 := HV6.out.frozen 4
                  have zf4 := HV6.out.t4
                  have f5 := HV6.out.frozen 5
                  have zf5 := HV6.out.t5
                  have f6 := HV6.out.frozen 6
                  have zf6 := HV6.out.t6
                  go_wp2_with fail
                  refine bodyPost_ret (results_tn rfl rfl rfl (HV6.out.set7 _ _ _ _ _ _ _ )) rfl ?_
                  exact ⟨below_7 HB6.out (Nat.le_refl _) _ _ _ _ _ _ _ , .inl ⟨rfl, HNO.out⟩⟩
                · have b1 : (n.kd == 1) = false := by simp [h1]
                  have b2 : (n.kd == 2) = true := by simp [h1]
                  clear hc h1
                  have f0 := HV6.out.frozen 0
                  have zf0 := HV6.out.t0
                  have f1 := HV6.out.frozen 1
                  have zf1 := HV6.out.t1
                  have f2 := HV6.out.frozen 2
                  have zf2 := HV6.out.t2
                  have f3 := HV6.out.frozen 3
                  have zf3 := HV6.out.t3
                  have f4 := HV6.out.frozen 4
                  have zf4 := HV6.out.t4
                  have f5 := HV6.out.frozen 5
                  have zf5 := HV6.out.t5
                  have f6 := HV6.out.frozen 6
                  have zf6 := HV6.out.t6
                  go_wp2_with fail
                  refine bodyPost_ret (results_tn rfl rfl rfl (HV6.out.set7 _ _ _ _ _ _ _ )) rfl ?_
                  exact ⟨below_7 HB6.out (Nat.le_refl _) _ _ _ _ _ _ _ , .inl ⟨rfl, HNO.out⟩⟩
              · have HC : Hid (tn.kd ≠ n.kd ∨ n.kd = 3) := by
                  show _ ∨ _
                  rcases HN.out with ⟨h, -⟩ | ⟨h, -⟩ | ⟨-, h, -⟩ | ⟨-, h, -⟩
                  · exact .inl (fun e => hc ⟨h, e⟩)
                  · exact .inr h
                  · omega
                  · omega
                have hk3 : n.kd = 1 ∨ n.kd = 2 ∨ n.kd = 3 := by
                  rcases HN.out with ⟨h | h, -⟩ | ⟨h, -⟩ | ⟨-, h, -⟩ | ⟨-, h, -⟩ <;> omega
                rcases hk3 with h1 | h1 | h1
                · have b3 : (tn.kd == n.kd) = false := by simpa using (fun e => hc ⟨.inl h1, e⟩)
                  have b1 : (n.kd == 1) = true := by simp [h1]
                  have b2 : (n.kd == 2) = false := by simp [h1]
                  clear hc h1
                  have g1 := HK6.out.t1
                  have g2 := HK6.out.t2
                  have g3 := HK6.out.t3
                  have g4 := HK6.out.t4
                  have g5 := HK6.out.t5
                  have g6 := HK6.out.t6
                  have r6 := HT6.out.t6
                  have HGE : Hid (Ge elT W6 (bt + 1) v ts) := HK.out.g.after HB56.out
                  have HON : Hid (Le elT (W6.alloc (.cells (cT tn (.slice ta tl tc)) 56)) (some ⟨W6.heap.size, 0, none⟩) 1 [⟨tn, ta, tl, tc⟩]) := Le.one (Va.new W6 _ _) rfl
                  have hsz6 := HB56.out.size
                  have hszw := HB6.out.size
                  have htl := HK.out.lenT
                  go_wp2_with (at_builtin; refine wpList_appE rfl _ _ _ rfl elT rfl (bt + 1) _ ts rfl (HGE.out.al _) W6.heap.size 0 1 1 [⟨tn, ta, tl, tc⟩] rfl HON.out (by omega) (by simp; omega) ?_; intro v8 W8 hg8 hgr8 hob8; have hnb : v.ownBlock ≠ some bt := (fun e => by have := HGE.out.block bt e; omega); have hblk : ∀ c, c < W6.heap.size → v.ownBlock ≠ some c → W8.heap[c]? = W6.heap[c]? := (fun c hc hne => (hgr8.block c (by simp; omega) (fun e => hne e.symm)).trans (((Below.refl W6.heap.size W6).alloc (Nat.le_refl _) _).block c hc)); have HVT8 : Hid (Va W8 bt 56 (cT n v)) := HT6.out.keptW (hblk bt (by omega) hnb); have hfr6 := HVT8.out.frozen 6; have hce6 := HVT8.out.t6; have HB8 : Hid (Below w.heap.size w W8) := (HB6.out.alloc HB6.out.size _).grown hgr8 (by simp; omega) (fun c hc => by have := HGE.out.block c hc; omega); have HV8 : Hid (Va W8 w.heap.size 56 zT) := HV6.out.keptW (hblk _ (by omega) (fun e => by have := HGE.out.block _ e; omega)); have HN8 : Hid (Va W8 bn 48 (cn n)) := HN6.out.keptW (hblk _ (by omega) (fun e => by have := HGE.out.block _ e; omega)); have HBL : Hid (∀ c, c < W6.heap.size → v.ownBlock ≠ some c → W8.heap[c]? = W6.heap[c]?) := hblk; have HG8 : Hid (Ge elT W8 (bt + 1) v8 (ts ++ [⟨tn, ta, tl, tc⟩])) := hg8; have HO8 : Hid (v8.ownBlock = v.ownBlock ∨ ∃ c, v8.ownBlock = some c ∧ W6.heap.size ≤ c) := (hob8.imp id (fun h => ⟨_, h, by simp⟩)); obtain ⟨a8, c8, e8, -, -, -⟩ := hg8.shape; subst e8; clear hg8 hgr8 hob8 hblk hnb)
                  go_roundw
                  case rel =>
                    have h8 : i + 1 = (ts ++ [(⟨tn, ta, tl, tc⟩ : Tc)]).length := by rw [List.length_append, htl]; rfl
                    have HKN := Ks.next HK.out HG.out HC.out hbw HB5.out HB66.out HG8.out HO8.out HBL.out (.slice a8 (i + 1) c8)
                    rw [← h8] at HKN
                    exact ⟨i + 1, q', _, _, .slice a8 (i + 1) c8, by go_num, by go_num, by omega, Nat.le_trans HKN.i64 hl, HKN, HV8.out.keptW (heap_setCell_other _ _ _ _ (by show w.heap.size ≠ bt; omega)), HN8.out.keptW (heap_setCell_other _ _ _ _ (by show bn ≠ bt; omega)), HVT8.out.setT6 _, HB8.out.setCell (p := ⟨bt, 6, none⟩) (by show w.heap.size ≤ bt; omega) _⟩
                  case measure => simp [intOf]; omega
                · have b3 : (tn.kd == n.kd) = false := by simpa using (fun e => hc ⟨.inr h1, e⟩)
                  have b1 : (n.kd == 1) = false := by simp [h1]
                  have b2 : (n.kd == 2) = true := by simp [h1]
                  clear hc h1
                  have g1 := HK6.out.t1
                  have g2 := HK6.out.t2
                  have g3 := HK6.out.t3
                  have g4 := HK6.out.t4
                  have g5 := HK6.out.t5
                  have g6 := HK6.out.t6
                  have r6 := HT6.out.t6
                  have HGE : Hid (Ge elT W6 (bt + 1) v ts) := HK.out.g.after HB56.out
                  have HON : Hid (Le elT (W6.alloc (.cells (cT tn (.slice ta tl tc)) 56)) (some ⟨W6.heap.size, 0, none⟩) 1 [⟨tn, ta, tl, tc⟩]) := Le.one (Va.new W6 _ _) rfl
                  have hsz6 := HB56.out.size
                  have hszw := HB6.out.size
                  have htl := HK.out.lenT
                  go_wp2_with (at_builtin; refine wpList_appE rfl _ _ _ rfl elT rfl (bt + 1) _ ts rfl (HGE.out.al _) W6.heap.size 0 1 1 [⟨tn, ta, tl, tc⟩] rfl HON.out (by omega) (by simp; omega) ?_; intro v8 W8 hg8 hgr8 hob8; have hnb : v.ownBlock ≠ some bt := (fun e => by have := HGE.out.block bt e; omega); have hblk : ∀ c, c < W6.heap.size → v.ownBlock ≠ some c → W8.heap[c]? = W6.heap[c]? := (fun c hc hne => (hgr8.block c (by simp; omega) (fun e => hne e.symm)).trans (((Below.refl W6.heap.size W6).alloc (Nat.le_refl _) _).block c hc)); have HVT8 : Hid (Va W8 bt 56 (cT n v)) := HT6.out.keptW (hblk bt (by omega) hnb); have hfr6 := HVT8.out.frozen 6; have hce6 := HVT8.out.t6; have HB8 : Hid (Below w.heap.size w W8) := (HB6.out.alloc HB6.out.size _).grown hgr8 (by simp; omega) (fun c hc => by have := HGE.out.block c hc; omega); have HV8 : Hid (Va W8 w.heap.size 56 zT) := HV6.out.keptW (hblk _ (by omega) (fun e => by have := HGE.out.block _ e; omega)); have HN8 : Hid (Va W8 bn 48 (cn n)) := HN6.out.keptW (hblk _ (by omega) (fun e => by have := HGE.out.block _ e; omega)); have HBL : Hid (∀ c, c < W6.heap.size → v.ownBlock ≠ some c → W8.heap[c]? = W6.heap[c]?) := hblk; have HG8 : Hid (Ge elT W8 (bt + 1) v8 (ts ++ [⟨tn, ta, tl, tc⟩])) := hg8; have HO8 : Hid (v8.ownBlock = v.ownBlock ∨ ∃ c, v8.ownBlock = some c ∧ W6.heap.size ≤ c) := (hob8.imp id (fun h => ⟨_, h, by simp⟩)); obtain ⟨a8, c8, e8, -, -, -⟩ := hg8.shape; subst e8; clear hg8 hgr8 hob8 hblk hnb)
                  go_roundw
                  case rel =>
                    have h8 : i + 1 = (ts ++ [(⟨tn, ta, tl, tc⟩ : Tc)]).length := by rw [List.length_append, htl]; rfl
                    have HKN := Ks.next HK.out HG.out HC.out hbw HB5.out HB66.out HG8.out HO8.out HBL.out (.slice a8 (i + 1) c8)
                    rw [← h8] at HKN
                    exact ⟨i + 1, q', _, _, .slice a8 (i + 1) c8, by go_num, by go_num, by omega, Nat.le_trans HKN.i64 hl, HKN, HV8.out.keptW (heap_setCell_other _ _ _ _ (by show w.heap.size ≠ bt; omega)), HN8.out.keptW (heap_setCell_other _ _ _ _ (by show bn ≠ bt; omega)), HVT8.out.setT6 _, HB8.out.setCell (p := ⟨bt, 6, none⟩) (by show w.heap.size ≤ bt; omega) _⟩
                  case measure => simp [intOf]; omega
                · have b1 : (n.kd == 1) = false := by simp [h1]
                  have b2 : (n.kd == 2) = false := by simp [h1]
                  clear hc h1
                  have g1 := HK6.out.t1
                  have g2 := HK6.out.t2
                  have g3 := HK6.out.t3
                  have g4 := HK6.out.t4
                  have g5 := HK6.out.t5
                  have g6 := HK6.out.t6
                  have r6 := HT6.out.t6
                  have HGE : Hid (Ge elT W6 (bt + 1) v ts) := HK.out.g.after HB56.out
                  have HON : Hid (Le elT (W6.alloc (.cells (cT tn (.slice ta tl tc)) 56)) (some ⟨W6.heap.size, 0, none⟩) 1 [⟨tn, ta, tl, tc⟩]) := Le.one (Va.new W6 _ _) rfl
                  have hsz6 := HB56.out.size
                  have hszw := HB6.out.size
                  have htl := HK.out.lenT
                  go_wp2_with (at_builtin; refine wpList_appE rfl _ _ _ rfl elT rfl (bt + 1) _ ts rfl (HGE.out.al _) W6.heap.size 0 1 1 [⟨tn, ta, tl, tc⟩] rfl HON.out (by omega) (by simp; omega) ?_; intro v8 W8 hg8 hgr8 hob8; have hnb : v.ownBlock ≠ some bt := (fun e => by have := HGE.out.block bt e; omega); have hblk : ∀ c, c < W6.heap.size → v.ownBlock ≠ some c → W8.heap[c]? = W6.heap[c]? := (fun c hc hne => (hgr8.block c (by simp; omega) (fun e => hne e.symm)).trans (((Below.refl W6.heap.size W6).alloc (Nat.le_refl _) _).block c hc)); have HVT8 : Hid (Va W8 bt 56 (cT n v)) := HT6.out.keptW (hblk bt (by omega) hnb); have hfr6 := HVT8.out.frozen 6; have hce6 := HVT8.out.t6; have HB8 : Hid (Below w.heap.size w W8) := (HB6.out.alloc HB6.out.size _).grown hgr8 (by simp; omega) (fun c hc => by have := HGE.out.block c hc; omega); have HV8 : Hid (Va W8 w.heap.size 56 zT) := HV6.out.keptW (hblk _ (by omega) (fun e => by have := HGE.out.block _ e; omega)); have HN8 : Hid (Va W8 bn 48 (cn n)) := HN6.out.keptW (hblk _ (by omega) (fun e => by have := HGE.out.block _ e; omega)); have HBL : Hid (∀ c, c < W6.heap.size → v.ownBlock ≠ some c → W8.heap[c]? = W6.heap[c]?) := hblk; have HG8 : Hid (Ge elT W8 (bt + 1) v8 (ts ++ [⟨tn, ta, tl, tc⟩])) := hg8; have HO8 : Hid (v8.ownBlock = v.ownBlock ∨ ∃ c, v8.ownBlock = some c ∧ W6.heap.size ≤ c) := (hob8.imp id (fun h => ⟨_, h, by simp⟩)); obtain ⟨a8, c8, e8, -, -, -⟩ := hg8.shape; subst e8; clear hg8 hgr8 hob8 hblk hnb)
                  go_roundw
                  case rel =>
                    have h8 : i + 1 = (ts ++ [(⟨tn, ta, tl, tc⟩ : Tc)]).length := by rw [List.length_append, htl]; rfl
                    have HKN := Ks.next HK.out HG.out HC.out hbw HB5.out HB66.out HG8.out HO8.out HBL.out (.slice a8 (i + 1) c8)
                    rw [← h8] at HKN
                    exact ⟨i + 1, q', _, _, .slice a8 (i + 1) c8, by go_num, by go_num, by omega, Nat.le_trans HKN.i64 hl, HKN, HV8.out.keptW (heap_setCell_other _ _ _ _ (by show w.heap.size ≠ bt; omega)), HN8.out.keptW (heap_setCell_other _ _ _ _ (by show bn ≠ bt; omega)), HVT8.out.setT6 _, HB8.out.setCell (p := ⟨bt, 6, none⟩) (by show w.heap.size ≤ bt; omega) _⟩
                  case measure => simp [intOf]; omega
          · obtain ⟨av, cv, rfl, -, -, -⟩ := HK.out.g.shape
            have r0 := HT.out.t0
            have r1 := HT.out.t1
            have r2 := HT.out.t2
            have r3 := HT.out.t3
            have r4 := HT.out.t4
            have r5 := HT.out.t5
            have r6 := HT.out.t6
            have f0 := HV.out.frozen 0
            have zf0 := HV.out.t0
            have f1 := HV.out.frozen 1
            have zf1 := HV.out.t1
            have f2 := HV.out.frozen 2
            have zf2 := HV.out.t2
            have f3 := HV.out.frozen 3
            have zf3 := HV.out.t3
            have f4 := HV.out.frozen 4
            have zf4 := HV.out.t4
            have f5 := HV.out.frozen 5
            have zf5 := HV.out.t5
            have f6 := HV.out.frozen 6
            have zf6 := HV.out.t6
            go_wp2_with fail
            refine bodyPost_ret (results_tn rfl rfl rfl (HV.out.set7 _ _ _ _ _ _ _ )) rfl ?_
            exact ⟨below_7 HB.out (Nat.le_refl _) _ _ _ _ _ _ _ , .inr ⟨n, kj, ⟨n, av, ts.length, cv⟩, q, rfl, Ks.whole HK.out HD.out HN.out (by omega) (by omega) (by omega) (fun c hc => fa7 _ _ _ _ _ _ _ _ _ c (by omega))⟩⟩
end Go.Proofs.YtblafbbnplfpjaaGreatDoor
