import Derived.Test.YtenmkbofpmbedaaGreatDoorMgAa
import Derived.Test.YtenmkbofpmbedaaGreatDoorMgAr
import Derived.Test.YtenmkbofpmbedaaGreatDoorMgAh
import Derived.Test.YtenmkbofpmbedaaGreatDoorCards
import Derived.Test.YtenmkbofpmbedaaGreatDoorMgAq
import Derived.Test.YtenmkbofpmbedaaGreatDoorMgAl
import Derived.Test.YtenmkbofpmbedaaGreatDoorMgAm
import Derived.Lib.LaidTab
import Derived.Stop.LaidErr
namespace Go.Proofs.YtenmkbofpmbedaaGreatDoor
open Go.RowKit Go.Shelf
set_option linter.unusedVariables false
set_option maxRecDepth 20000

def Fin (ps : List Pc) (n : Nat) : Prop := (1 ≤ n ∧ n ≤ 8) ∧ (∀ i, i < n → ¬ Lg (ps.getD i pz)) ∧ ∃ l, Vals ps l n ∧ Sok l
theorem ofe_not {ps : List Pc} {n : Nat} {e : Int} (h : OfE ps n e) (g : Fin ps n) : False := by
  obtain ⟨g1, g2, g3⟩ := g
  rcases h with ⟨-, b⟩ | ⟨-, -, i, hi, c⟩ | ⟨-, -, -, d⟩
  · exact b g1
  · exact g2 i hi c
  · exact d g3
set_option maxHeartbeats 16000000 in
theorem rof_any (a : Option Addr) (n c : Nat) (ps : List Pc) (w : World) (hL : Le elP w a n ps) (hR : Rp w ps n) :
    Calls Tryz.prog 17 #[.slice a n c] w fun e w' => ∃ er : Int, e = .returned (.int .i64 er) ∧ Hid ((er = 0 ∧ Fin ps n) ∨ (er ≠ 0 ∧ OfE ps n er)) ∧ Below w.heap.size w w' := by
  have HL : Hid (Le elP w a n ps) := hL; have HR : Hid (Rp w ps n) := hR; clear hL hR
  by_cases hn : 1 ≤ n ∧ n ≤ 8
  · have HN : Hid (1 ≤ n ∧ n ≤ 8) := hn
    (have q1 : decide ((n : Int) < 1) = false := by rw [decide_eq_false_iff_not]; omega); (have q2 : decide ((8 : Int) < (n : Int)) = false := by rw [decide_eq_false_iff_not]; omega); obtain ⟨lb, lo, rfl⟩ := HL.out.ex hn.1; have h8 := hn.2; clear hn
    go_enter Tryz.func17, Tryz.ntmps17
    (go_wp2_with fail); clear q1 q2
    go_loopw [3] (fun i wr => ∃ k : Nat, k ≤ n ∧ i = .int .i64 k ∧ Hid (∀ j, j < k → ¬ Lg (ps.getD j pz)) ∧ Hid (Below w.heap.size w wr)) (fun i _ => n - (intOf i).toNat)
    case atStart => exact ⟨0, Nat.zero_le _, rfl, fun j hj => absurd hj (by omega), Below.refl _ _⟩
    case round =>
      obtain ⟨k, hk, rfl, HO, HW⟩ := hrel
      by_cases hlt : k < n
      ·
        have B0 := HW.out; have hc : At6 wr lb (lo + k * 6) (ps.getD k pz) := (HL.out.after B0).six rfl rfl k hlt; (obtain ⟨p, hp⟩ : ∃ p, ps.getD k pz = p := ⟨_, rfl⟩); rw [hp] at hc; have HP : Hid (ps.getD k pz = p) := hp; clear hp; obtain ⟨c0, c1, c2, -, -, -⟩ := id hc; (go_wp2_with fail); clear c0 c1 c2; refine (long18 p.1 _).mono ?_; rintro e x6 ⟨rfl, hb⟩; replace hc := At6.after hb hc; replace B0 := step B0 hb; clear hb
        by_cases g1 : 3 < max (p.1.l : Int) (p.1.m : Int)
        ·
          rw [decide_eq_true g1]; (go_wp2_with fail)
          go_ret
          exact ⟨3, rfl, .inr ⟨by decide, .inr (.inl ⟨rfl, HN.out, k, hlt, by rw [HP.out]; exact .inl g1⟩)⟩, B0⟩
        ·
          rw [decide_eq_false g1]; obtain ⟨-, -, -, c3, c4, c5⟩ := id hc; (go_wp2_with fail); clear c3 c4 c5; refine (long18 p.2 _).mono ?_; rintro e x7 ⟨rfl, hb⟩; replace hc := At6.after hb hc; replace B0 := step B0 hb; clear hb
          by_cases g2 : 3 < max (p.2.l : Int) (p.2.m : Int)
          ·
            rw [decide_eq_true g2]; (go_wp2_with fail)
            go_ret
            exact ⟨3, rfl, .inr ⟨by decide, .inr (.inl ⟨rfl, HN.out, k, hlt, by rw [HP.out]; exact .inr g2⟩)⟩, B0⟩
          ·
            rw [decide_eq_false g2]; (have HK : Hid (¬ Lg (ps.getD k pz)) := by rw [HP.out]; exact fun h => h.elim (fun h' => by omega) (fun h' => by omega)); (go_wp2_with fail)
            go_roundw
            case measure => simp [intOf]; omega
            case rel =>
              refine ⟨k + 1, by omega, by go_num, fun j hj => ?_, B0⟩
              rcases Nat.lt_or_ge j k with h' | h'
              · exact HO.out j h'
              · obtain rfl : j = k := by omega
                exact HK.out
      ·
        (obtain rfl : k = n := by omega); (obtain ⟨w2, rfl⟩ : ∃ w2, w2 = wr := ⟨_, rfl⟩); have HLG := HO; have hL2 := HL.out.after HW.out; have hR2 := HR.out.after HW.out; have B0 := HW.out; clear HO HW HL HR; (go_wp2_with fail); refine (rint_rc 1 1 (by omega) (by omega) one_div _).mono ?_; rintro e x6 ⟨r1, rfl, h1, hb⟩; replace hL2 := Le.after hb hL2; replace hR2 := Rp.after hb hR2; replace B0 := step B0 hb; clear hb; (go_wp2_with fail); refine ent1 x6 _ _ (Q := fun W => Code.wp Tryz.prog _ _ _ W) ?_; intro x7 hb hs_x7 V4; replace hL2 := Le.after hb hL2; replace hR2 := Rp.after hb hR2; replace h1 := Rn.after hb h1; replace B0 := step B0 hb; clear hb hs_x7; have HL : Hid (Le elP x7 (some ⟨lb, lo, none⟩) k ps) := hL2; have HR : Hid (Rp x7 ps k) := hR2; have HV4 : Hid (Va x7 (x6.heap.size) 25 #[.bool r1.s, .slice r1.a r1.l r1.c, .slice r1.b r1.m r1.d]) := V4; have H1 : Hid (Rn x7 r1 1) := h1; have HB : Hid (Below w.heap.size w x7) := B0; clear hL2 hR2 V4 h1 B0
        go_loopw [5] (fun i wr => ∃ (j : Nat) (l : List Pq), j ≤ k ∧ i = .int .i64 j ∧ Hid (Vals ps l j) ∧ Hid (∀ i, i < j → Ck l i) ∧ Hid (Sht l) ∧ Hid (Below x7.heap.size x7 wr)) (fun i _ => k - (intOf i).toNat)
        case atStart => exact ⟨0, [], Nat.zero_le _, rfl, ⟨rfl, fun j hj => absurd hj (by omega)⟩, fun j hj => absurd hj (by omega), fun j hj => absurd hj (by simp), Below.refl _ _⟩
        case round =>
          obtain ⟨j, l, hj, rfl, HV, HC, HT, HQ⟩ := hrel
          by_cases hlt : j < k
          ·
            have B0 := HQ.out; have V4 := Va.after B0 HV4.out; have h1 := H1.out.after B0; have hc : At6 wr lb (lo + j * 6) (ps.getD j pz) := (HL.out.after B0).six rfl rfl j hlt; have hr := (HR.out.after B0) j hlt; have hnl := HLG.out j hlt; (obtain ⟨p, hp⟩ : ∃ p, ps.getD j pz = p := ⟨_, rfl⟩); rw [hp] at hc hr hnl; have HP : Hid (ps.getD j pz = p) := hp; clear hp; obtain ⟨hr1, hr2⟩ := hr; have HNL : Hid (¬ Lg p) := hnl; clear hnl; obtain ⟨c0, c1, c2, -, -, -⟩ := id hc; (go_wp2_with fail); clear c0 c1 c2; refine (chk_rc p.1 _ hr1 (fun h => HNL.out (.inl h))).mono ?_; rintro e x31 ⟨e1, rfl, hk1, hb⟩; replace V4 := V4.a hb; replace h1 := Rn.after hb h1; replace hc := At6.after hb hc; replace hr1 := Rd2.after hb hr1; replace hr2 := Rd2.after hb hr2; replace B0 := step B0 hb; clear hb
            by_cases z1 : e1 = 0
            ·
              subst z1; obtain ⟨x, hx, sx⟩ := Or.elim hk1.out (fun h => h.2) (fun h => absurd rfl h.1); have HX : Hid (Nm p.1 x ∧ Sz 3 x) := ⟨hx, sx⟩; clear hk1; obtain ⟨-, -, -, c3, c4, c5⟩ := id hc; (go_wp2_with fail); clear c3 c4 c5; refine (chk_rc p.2 _ hr2 (fun h => HNL.out (.inr h))).mono ?_; rintro e x32 ⟨e2, rfl, hk2, hb⟩; replace V4 := V4.a hb; replace h1 := Rn.after hb h1; replace hc := At6.after hb hc; replace hr1 := Rd2.after hb hr1; replace hr2 := Rd2.after hb hr2; replace B0 := step B0 hb; clear hb
              by_cases z4 : e2 = 0
              ·
                subst z4; obtain ⟨y, hy, sy⟩ := Or.elim hk2.out (fun h => h.2) (fun h => absurd rfl h.1); have HY : Hid (Nm p.2 y ∧ Sz 3 y) := ⟨hy, sy⟩; clear hk2; have n1 := rd_rn hr1 hx; have n2 := rd_rn hr2 hy; clear hx hy sx sy
                have HVX : Hid (∀ l', Vals ps l' k → aq l' j = x ∧ rq l' j = y) := fun l' hv => by
                  have h' := hv.2 j hlt; rw [HP.out] at h'; exact ⟨h'.1.uniq HX.out.1, h'.2.uniq HY.out.1⟩
                (go_wp2_with fail); clear hr1 hr2; (obtain ⟨sy, hsy⟩ : ∃ s, Int.sign y.num = s := ⟨_, rfl⟩); (have HSY : Hid (sy < 0 ↔ y < 0) := by have := sgn_lt y; rw [hsy] at this; exact this); (obtain ⟨cy, hcy⟩ : ∃ s, qcmp y 1 = s := ⟨_, rfl⟩); (have HCY : Hid (0 < cy ↔ 1 < y) := by have := cmp_gt y 1; rw [hcy] at this; exact this); refine wp_region_noPanic ?_; replace V4 : Va x32.drew _ _ _ := V4; replace h1 := h1.drw; replace hc := hc.drw; replace n1 := n1.drw; replace n2 := n2.drw; replace B0 := Below.drew B0; refine wp_region_held_drew (S := (fun W => W.cell? ⟨x6.heap.size, 0, none⟩ = some (.bool r1.s) ∧ W.cell? ⟨x6.heap.size, 1, none⟩ = some (.slice r1.a r1.l r1.c) ∧ W.cell? ⟨x6.heap.size, 2, none⟩ = some (.slice r1.b r1.m r1.d) ∧ W.cell? ⟨lb, lo + j * 6, none⟩ = some (.bool p.1.s) ∧ W.cell? ⟨lb, lo + j * 6 + 1, none⟩ = some (.slice p.1.a p.1.l p.1.c) ∧ W.cell? ⟨lb, lo + j * 6 + 2, none⟩ = some (.slice p.1.b p.1.m p.1.d) ∧ W.cell? ⟨lb, lo + j * 6 + 3, none⟩ = some (.bool p.2.s) ∧ W.cell? ⟨lb, lo + j * 6 + 4, none⟩ = some (.slice p.2.a p.2.l p.2.c) ∧ W.cell? ⟨lb, lo + j * 6 + 5, none⟩ = some (.slice p.2.b p.2.m p.2.d))) (by kernel_rfl) ⟨V4.d0, V4.d1, V4.d2, hc.c0, hc.c1, hc.c2, hc.c3, hc.c4, hc.c5⟩ (fun hHeld => ?_)
                (obtain ⟨x33, hxd⟩ : ∃ xd, xd = x32.drew := ⟨_, rfl⟩); rw [← hxd] at V4 h1 hc n1 n2 B0 hHeld ⊢; clear hxd; refine tjz 0 hHeld ?_; refine tjz 1 hHeld ?_; refine tjz 2 hHeld ?_; refine tjz 3 hHeld ?_; refine tjz 4 hHeld ?_; refine ryz 5 (fun K hK => ?_); simp only [gA, gB, gC]; (go_simp); refine (rsign_rc p.2 y _ n2).mono ?_; rintro e x34 ⟨rfl, hb⟩; replace V4 := V4.a hb; replace h1 := Rn.after hb h1; replace hc := At6.after hb hc; replace n1 := Rn.after hb n1; replace n2 := Rn.after hb n2; replace B0 := step B0 hb; clear hb; rw [hsy]; (try go_wp2_with fail); refine hK.out _ _ ⟨V4.d0, V4.d1, V4.d2, hc.c0, hc.c1, hc.c2, hc.c3, hc.c4, hc.c5⟩ (fun hHeld => ?_)
                clear hK K
                by_cases g2 : sy < 0
                ·
                  have e2 : decide (sy < 0) = true := decide_eq_true g2; refine tuz 6 (.bool true) rfl (Or.inl ⟨by rfl, ?_⟩) hHeld ?_
                  · (intro W hSw; (try dsimp only at hSw); go_simp; first | (rw [e2]) | (simp; omega) | skip)
                  simp only [gA, gB, gC, Act.put, gD, gE, gF]; refine tjz 7 hHeld ?_; refine tuz 8 undef rfl (Or.inr ⟨by rfl, rfl⟩) hHeld ?_; simp only [gA, gB, gC, Act.put, gD, gE, gF]; refine tuz 9 undef rfl (Or.inr ⟨by rfl, rfl⟩) hHeld ?_; simp only [gA, gB, gC, Act.put, gD, gE, gF]; refine tuz 10 undef rfl (Or.inr ⟨by rfl, rfl⟩) hHeld ?_; simp only [gA, gB, gC, Act.put, gD, gE, gF]; refine tuz 11 undef rfl (Or.inr ⟨by rfl, rfl⟩) hHeld ?_; simp only [gA, gB, gC, Act.put, gD, gE, gF]; refine tuz 12 undef rfl (Or.inr ⟨by rfl, rfl⟩) hHeld ?_
                  simp only [gA, gB, gC, Act.put, gD, gE, gF]; refine tuz 13 undef rfl (Or.inr ⟨by rfl, rfl⟩) hHeld ?_; simp only [gA, gB, gC, Act.put, gD, gE, gF]; refine tuz 14 undef rfl (Or.inr ⟨by rfl, rfl⟩) hHeld ?_; simp only [gA, gB, gC, Act.put, gD, gE, gF]; refine tuz 15 undef rfl (Or.inr ⟨by rfl, rfl⟩) hHeld ?_; simp only [gA, gB, gC, Act.put, gD, gE, gF]; refine tjz 16 hHeld ?_; refine dnz ?_; clear hHeld
                  have HBAD : Hid (∀ l', Vals ps l' k → Sok l' → False) := fun l' hv ho => by
                    have h1 := (ho.rate j (by rw [hv.1]; exact hlt)).1; rw [(HVX.out l' hv).2] at h1; have := HSY.out.1 g2
                    grind
                  (go_wp2_with fail)
                  go_ret
                  exact ⟨180, rfl, .inr ⟨by decide, .inr (.inr ⟨rfl, HN.out, HLG.out, fun ⟨l', hv, ho⟩ => HBAD.out l' hv ho⟩)⟩, step HB.out B0⟩
                ·
                  have e2 : decide (sy < 0) = false := decide_eq_false g2; refine tuz 6 (.bool false) rfl (Or.inl ⟨by rfl, ?_⟩) hHeld ?_
                  · (intro W hSw; (try dsimp only at hSw); go_simp; first | (rw [e2]) | (simp; omega) | skip)
                  simp only [gA, gB, gC, Act.put, gD, gE, gF]; refine tjz 7 hHeld ?_; refine tjz 8 hHeld ?_; refine tjz 9 hHeld ?_; refine tjz 10 hHeld ?_; refine tjz 11 hHeld ?_; refine tjz 12 hHeld ?_; refine tjz 13 hHeld ?_; refine ryz 14 (fun K hK => ?_); simp only [gA, gB, gC]; (go_simp); refine (rcmp_rc p.2 r1 y 1 _ n2 h1 (HY.out.2.short (by omega)) (sz_1.short (by omega))).mono ?_; rintro e x35 ⟨rfl, hb⟩; replace V4 := V4.a hb; replace h1 := Rn.after hb h1; replace hc := At6.after hb hc; replace n1 := Rn.after hb n1; replace n2 := Rn.after hb n2
                  replace B0 := step B0 hb; clear hb; rw [hcy]; (try go_wp2_with fail); refine hK.out _ _ ⟨V4.d0, V4.d1, V4.d2, hc.c0, hc.c1, hc.c2, hc.c3, hc.c4, hc.c5⟩ (fun hHeld => ?_); clear hK K
                  by_cases g3 : 0 < cy
                  ·
                    have e3 : decide (0 < cy) = true := decide_eq_true g3; refine tuz 15 (.bool true) rfl (Or.inl ⟨by rfl, ?_⟩) hHeld ?_
                    · (intro W hSw; (try dsimp only at hSw); go_simp; first | (rw [e3]) | (simp; omega) | skip)
                    simp only [gA, gB, gC, Act.put, gD, gE, gF]; refine tjz 16 hHeld ?_; refine dnz ?_; clear hHeld
                    have HBAD : Hid (∀ l', Vals ps l' k → Sok l' → False) := fun l' hv ho => by
                      have h1 := (ho.rate j (by rw [hv.1]; exact hlt)).2; rw [(HVX.out l' hv).2] at h1; have := HCY.out.1 g3
                      grind
                    (go_wp2_with fail)
                    go_ret
                    exact ⟨180, rfl, .inr ⟨by decide, .inr (.inr ⟨rfl, HN.out, HLG.out, fun ⟨l', hv, ho⟩ => HBAD.out l' hv ho⟩)⟩, step HB.out B0⟩
                  ·
                    have e3 : decide (0 < cy) = false := decide_eq_false g3; refine tuz 15 (.bool false) rfl (Or.inl ⟨by rfl, ?_⟩) hHeld ?_
                    · (intro W hSw; (try dsimp only at hSw); go_simp; first | (rw [e3]) | (simp; omega) | skip)
                    simp only [gA, gB, gC, Act.put, gD, gE, gF]; refine tjz 16 hHeld ?_; refine dnz ?_; clear hHeld; have HR0 : Hid (0 ≤ y ∧ y ≤ 1) := ⟨by have := HSY.out; grind, by have := HCY.out; grind⟩
                    by_cases h0 : j = 0
                    ·
                      subst h0; (replace hc : At6 x35 lb lo p := by simpa using hc); (go_wp2_with fail); refine wp_region_noPanic ?_; replace V4 : Va x35.drew _ _ _ := V4; replace h1 := h1.drw; replace hc := hc.drw; replace n1 := n1.drw; replace n2 := n2.drw; replace B0 := Below.drew B0; refine wp_region_held_drew (S := (fun W => W.cell? ⟨lb, lo, none⟩ = some (.bool p.1.s) ∧ W.cell? ⟨lb, lo + 1, none⟩ = some (.slice p.1.a p.1.l p.1.c) ∧ W.cell? ⟨lb, lo + 2, none⟩ = some (.slice p.1.b p.1.m p.1.d) ∧ W.cell? ⟨lb, lo + 3, none⟩ = some (.bool p.2.s) ∧ W.cell? ⟨lb, lo + 4, none⟩ = some (.slice p.2.a p.2.l p.2.c) ∧ W.cell? ⟨lb, lo + 5, none⟩ = some (.slice p.2.b p.2.m p.2.d))) (by kernel_rfl) ⟨hc.c0, hc.c1, hc.c2, hc.c3, hc.c4, hc.c5⟩ (fun hHeld => ?_); (obtain ⟨x36, hxd⟩ : ∃ xd, xd = x35.drew := ⟨_, rfl⟩); rw [← hxd] at V4 h1 hc n1 n2 B0 hHeld ⊢; clear hxd; refine tjz 0 hHeld ?_; refine tk 1 rfl hHeld ?_
                      simp only [gA, gB, gC, Act.put, gD, gE, gF]; refine tjz 2 hHeld ?_; refine tjz 3 hHeld ?_; refine tjz 4 hHeld ?_; refine tjz 5 hHeld ?_; refine tjz 6 hHeld ?_; refine tjz 7 hHeld ?_; refine ryz 8 (fun K hK => ?_); simp only [gA, gB, gC]; (go_simp); refine (rzero_rc p.1 x _ n1).mono ?_; rintro e x37 ⟨rfl, hb⟩; replace V4 := V4.a hb; replace h1 := Rn.after hb h1; replace hc := At6.after hb hc; replace n1 := Rn.after hb n1; replace n2 := Rn.after hb n2; replace B0 := step B0 hb; clear hb; (try go_wp2_with fail); refine hK.out _ _ ⟨hc.c0, hc.c1, hc.c2, hc.c3, hc.c4, hc.c5⟩ (fun hHeld => ?_)
                      clear hK K
                      by_cases gx : x = 0
                      ·
                        have ex : decide (x = 0) = true := decide_eq_true gx; refine tuz 9 (.bool false) rfl (Or.inl ⟨by rfl, ?_⟩) hHeld ?_
                        · (intro W hSw; (try dsimp only at hSw); go_simp; first | (rw [ex]; rfl) | (simp [gx]) | skip)
                        simp only [gA, gB, gC, Act.put, gD, gE, gF]; refine tjz 10 hHeld ?_; refine tjz 11 hHeld ?_; refine tjz 12 hHeld ?_; refine tjz 13 hHeld ?_; refine tjz 14 hHeld ?_; refine tuz 15 undef rfl (Or.inr ⟨by rfl, rfl⟩) hHeld ?_; simp only [gA, gB, gC, Act.put, gD, gE, gF]; refine tuz 16 undef rfl (Or.inr ⟨by rfl, rfl⟩) hHeld ?_; simp only [gA, gB, gC, Act.put, gD, gE, gF]; refine tuz 17 undef rfl (Or.inr ⟨by rfl, rfl⟩) hHeld ?_
                        simp only [gA, gB, gC, Act.put, gD, gE, gF]; refine tuz 18 undef rfl (Or.inr ⟨by rfl, rfl⟩) hHeld ?_; simp only [gA, gB, gC, Act.put, gD, gE, gF]; refine tuz 19 undef rfl (Or.inr ⟨by rfl, rfl⟩) hHeld ?_; simp only [gA, gB, gC, Act.put, gD, gE, gF]; refine tuz 20 undef rfl (Or.inr ⟨by rfl, rfl⟩) hHeld ?_; simp only [gA, gB, gC, Act.put, gD, gE, gF]; refine tuz 21 undef rfl (Or.inr ⟨by rfl, rfl⟩) hHeld ?_; simp only [gA, gB, gC, Act.put, gD, gE, gF]; refine tuz 22 undef rfl (Or.inr ⟨by rfl, rfl⟩) hHeld ?_
                        simp only [gA, gB, gC, Act.put, gD, gE, gF]; refine tuz 23 undef rfl (Or.inr ⟨by rfl, rfl⟩) hHeld ?_; simp only [gA, gB, gC, Act.put, gD, gE, gF]; refine tuz 24 undef rfl (Or.inr ⟨by rfl, rfl⟩) hHeld ?_; simp only [gA, gB, gC, Act.put, gD, gE, gF]; refine tuz 25 undef rfl (Or.inr ⟨by rfl, rfl⟩) hHeld ?_; simp only [gA, gB, gC, Act.put, gD, gE, gF]; refine tuz 26 undef rfl (Or.inr ⟨by rfl, rfl⟩) hHeld ?_; simp only [gA, gB, gC, Act.put, gD, gE, gF]; refine tuz 27 undef rfl (Or.inr ⟨by rfl, rfl⟩) hHeld ?_
                        simp only [gA, gB, gC, Act.put, gD, gE, gF]; refine tjz 28 hHeld ?_; refine tjz 29 hHeld ?_; refine dnz ?_; clear hHeld; have HNX : Hid (Vals ps (l ++ [(x, y)]) (0 + 1)) := HV.out.snoc (by rw [HP.out]; exact HX.out.1) (by rw [HP.out]; exact HY.out.1)
                        have HCX : Hid (∀ i, i < 0 + 1 → Ck (l ++ [(x, y)]) i) := fun i hi => by
                          have hln := HV.out.1
                          by_cases e : i = 0
                          · rw [e]
                            (have a1 : aq (l ++ [(x, y)]) (0) = x := by rw [← hln, aq_last]); (have a2 : rq (l ++ [(x, y)]) (0) = y := by rw [← hln, rq_last]); exact ⟨fun _ => by rw [a1]; exact gx, fun h => absurd h (by omega), by rw [a2]; exact HR0.out.1, by rw [a2]; exact HR0.out.2⟩
                          · have hc' := HC.out i (by omega)
                            refine ⟨fun h0 => ?_, fun h0 => ?_, by rw [rq_app _ (by omega)]; exact hc'.r0, by rw [rq_app _ (by omega)]; exact hc'.r1⟩
                            · rw [aq_app _ (by omega)]; exact hc'.z h0
                            · rw [aq_app _ (by omega), aq_app _ (by omega)]; exact hc'.u h0
                        (go_wp2_with fail)
                        go_roundw
                        case measure => simp [intOf]; omega
                        case rel => exact ⟨0 + 1, _, by omega, by go_num, HNX.out, HCX.out, HT.out.snoc HX.out.2 HY.out.2, B0⟩
                      ·
                        have ex : decide (x = 0) = false := decide_eq_false gx; refine tuz 9 (.bool true) rfl (Or.inl ⟨by rfl, ?_⟩) hHeld ?_
                        · (intro W hSw; (try dsimp only at hSw); go_simp; first | (rw [ex]; rfl) | (simp [gx]) | skip)
                        simp only [gA, gB, gC, Act.put, gD, gE, gF]; refine tjz 10 hHeld ?_; refine tjz 11 hHeld ?_; refine tuz 12 undef rfl (Or.inr ⟨by rfl, rfl⟩) hHeld ?_; simp only [gA, gB, gC, Act.put, gD, gE, gF]; refine tuz 13 undef rfl (Or.inr ⟨by rfl, rfl⟩) hHeld ?_; simp only [gA, gB, gC, Act.put, gD, gE, gF]; refine tuz 14 undef rfl (Or.inr ⟨by rfl, rfl⟩) hHeld ?_; simp only [gA, gB, gC, Act.put, gD, gE, gF]; refine tuz 15 undef rfl (Or.inr ⟨by rfl, rfl⟩) hHeld ?_; simp only [gA, gB, gC, Act.put, gD, gE, gF]
                        refine tuz 16 undef rfl (Or.inr ⟨by rfl, rfl⟩) hHeld ?_; simp only [gA, gB, gC, Act.put, gD, gE, gF]; refine tuz 17 undef rfl (Or.inr ⟨by rfl, rfl⟩) hHeld ?_; simp only [gA, gB, gC, Act.put, gD, gE, gF]; refine tuz 18 undef rfl (Or.inr ⟨by rfl, rfl⟩) hHeld ?_; simp only [gA, gB, gC, Act.put, gD, gE, gF]; refine tuz 19 undef rfl (Or.inr ⟨by rfl, rfl⟩) hHeld ?_; simp only [gA, gB, gC, Act.put, gD, gE, gF]; refine tuz 20 undef rfl (Or.inr ⟨by rfl, rfl⟩) hHeld ?_; simp only [gA, gB, gC, Act.put, gD, gE, gF]
                        refine tuz 21 undef rfl (Or.inr ⟨by rfl, rfl⟩) hHeld ?_; simp only [gA, gB, gC, Act.put, gD, gE, gF]; refine tuz 22 undef rfl (Or.inr ⟨by rfl, rfl⟩) hHeld ?_; simp only [gA, gB, gC, Act.put, gD, gE, gF]; refine tuz 23 undef rfl (Or.inr ⟨by rfl, rfl⟩) hHeld ?_; simp only [gA, gB, gC, Act.put, gD, gE, gF]; refine tuz 24 undef rfl (Or.inr ⟨by rfl, rfl⟩) hHeld ?_; simp only [gA, gB, gC, Act.put, gD, gE, gF]; refine tuz 25 undef rfl (Or.inr ⟨by rfl, rfl⟩) hHeld ?_; simp only [gA, gB, gC, Act.put, gD, gE, gF]
                        refine tuz 26 undef rfl (Or.inr ⟨by rfl, rfl⟩) hHeld ?_; simp only [gA, gB, gC, Act.put, gD, gE, gF]; refine tuz 27 undef rfl (Or.inr ⟨by rfl, rfl⟩) hHeld ?_; simp only [gA, gB, gC, Act.put, gD, gE, gF]; refine tuz 28 undef rfl (Or.inr ⟨by rfl, rfl⟩) hHeld ?_; simp only [gA, gB, gC, Act.put, gD, gE, gF]; refine tjz 29 hHeld ?_; refine dnz ?_; clear hHeld
                        have HBAD : Hid (∀ l', Vals ps l' k → Sok l' → False) := fun l' hv ho => by
                          have h1 := ho.nought; rw [(HVX.out l' hv).1] at h1; exact gx h1
                        (go_wp2_with fail)
                        go_ret
                        exact ⟨180, rfl, .inr ⟨by decide, .inr (.inr ⟨rfl, HN.out, HLG.out, fun ⟨l', hv, ho⟩ => HBAD.out l' hv ho⟩)⟩, step HB.out B0⟩
                    ·
                      (obtain ⟨m, hjm⟩ : ∃ m, j = m + 1 := ⟨j - 1, by omega⟩); have HJM : Hid (j = m + 1) := hjm; (have e9 : (j : Int) - 1 = (m : Int) := by omega); (have hmk : m < k := by omega)
                      have hd : At6 x35 lb (lo + m * 6) (ps.getD m pz) := by
                        have hL9 := HL.out.after (show Below x7.heap.size x7 x35 from B0); exact hL9.six rfl rfl m hmk
                      (obtain ⟨u, hu⟩ : ∃ u, aq l m = u := ⟨_, rfl⟩); have hvm := (HV.out.2 m (by omega)).1; (have hsm : Sz 3 u := by rw [← hu]; exact (HT.out m (by rw [HV.out.1]; omega)).1); have hrm := ((HR.out.after (show Below x7.heap.size x7 x35 from B0)) m hmk).1; rw [hu] at hvm; have HU : Hid (aq l m = u) := hu; (obtain ⟨q, hq⟩ : ∃ q, ps.getD m pz = q := ⟨_, rfl⟩); rw [hq] at hd hvm hrm; have n3 := rd_rn hrm hvm
                      have HVU : Hid (∀ l', Vals ps l' k → aq l' m = u) := fun l' hv => by
                        have h' := (hv.2 m hmk).1; rw [hq] at h'; exact h'.uniq hvm
                      have HSU : Hid (Sz 3 u) := hsm; clear hvm hrm hq hsm hu; (obtain ⟨cu, hcu⟩ : ∃ s, qcmp u x = s := ⟨_, rfl⟩); (have HCU : Hid (cu < 0 ↔ u < x) := by have := cmp_lt' u x; rw [hcu] at this; exact this); (have e7 : ((j : Int) == 0) = false := by simp; omega); (have e8 : decide ((0 : Int) < (j : Int)) = true := by rw [decide_eq_true_iff]; omega); clear hjm; (go_wp2_with fail); refine wp_region_noPanic ?_; replace V4 : Va x35.drew _ _ _ := V4; replace h1 := h1.drw; replace hc := hc.drw; replace n1 := n1.drw; replace n2 := n2.drw; replace hd := hd.drw; replace n3 := n3.drw; replace B0 := Below.drew B0; refine wp_region_held_drew (S := (fun W => W.cell? ⟨lb, lo + j * 6, none⟩ = some (.bool p.1.s) ∧ W.cell? ⟨lb, lo + j * 6 + 1, none⟩ = some (.slice p.1.a p.1.l p.1.c) ∧ W.cell? ⟨lb, lo + j * 6 + 2, none⟩ = some (.slice p.1.b p.1.m p.1.d) ∧ W.cell? ⟨lb, lo + j * 6 + 3, none⟩ = some (.bool p.2.s) ∧ W.cell? ⟨lb, lo + j * 6 + 4, none⟩ = some (.slice p.2.a p.2.l p.2.c) ∧ W.cell? ⟨lb, lo + j * 6 + 5, none⟩ = some (.slice p.2.b p.2.m p.2.d) ∧ W.cell? ⟨lb, lo + m * 6, none⟩ = some (.bool q.1.s) ∧ W.cell? ⟨lb, lo + m * 6 + 1, none⟩ = some (.slice q.1.a q.1.l q.1.c) ∧ W.cell? ⟨lb, lo + m * 6 + 2, none⟩ = some (.slice q.1.b q.1.m q.1.d))) (by kernel_rfl) ⟨hc.c0, hc.c1, hc.c2, hc.c3, hc.c4, hc.c5, hd.c0, hd.c1, hd.c2⟩ (fun hHeld => ?_)
                      (obtain ⟨x38, hxd⟩ : ∃ xd, xd = x35.drew := ⟨_, rfl⟩); rw [← hxd] at V4 h1 hc n1 n2 hd n3 B0 hHeld ⊢; clear hxd; refine tjz 0 hHeld ?_; refine tuz 1 (.bool false) rfl (Or.inl ⟨by rfl, ?_⟩) hHeld ?_
                      · (intro W hSw; (try dsimp only at hSw); go_simp; first | (rw [e7]) | (simp; omega) | skip)
                      simp only [gA, gB, gC, Act.put, gD, gE, gF]; refine tjz 2 hHeld ?_; refine tuz 3 undef rfl (Or.inr ⟨by rfl, rfl⟩) hHeld ?_; simp only [gA, gB, gC, Act.put, gD, gE, gF]; refine tuz 4 undef rfl (Or.inr ⟨by rfl, rfl⟩) hHeld ?_; simp only [gA, gB, gC, Act.put, gD, gE, gF]; refine tuz 5 undef rfl (Or.inr ⟨by rfl, rfl⟩) hHeld ?_; simp only [gA, gB, gC, Act.put, gD, gE, gF]; refine tuz 6 undef rfl (Or.inr ⟨by rfl, rfl⟩) hHeld ?_; simp only [gA, gB, gC, Act.put, gD, gE, gF]; refine tuz 7 undef rfl (Or.inr ⟨by rfl, rfl⟩) hHeld ?_
                      simp only [gA, gB, gC, Act.put, gD, gE, gF]; refine tuz 8 undef rfl (Or.inr ⟨by rfl, rfl⟩) hHeld ?_; simp only [gA, gB, gC, Act.put, gD, gE, gF]; refine tuz 9 undef rfl (Or.inr ⟨by rfl, rfl⟩) hHeld ?_; simp only [gA, gB, gC, Act.put, gD, gE, gF]; refine tjz 10 hHeld ?_; refine tjz 11 hHeld ?_; refine tjz 12 hHeld ?_; refine tuz 13 (.bool true) rfl (Or.inl ⟨by rfl, ?_⟩) hHeld ?_
                      · (intro W hSw; (try dsimp only at hSw); go_simp; first | (rw [e8]) | omega | (simp; omega) | skip)
                      simp only [gA, gB, gC, Act.put, gD, gE, gF]; refine tjz 14 hHeld ?_; refine tjz 15 hHeld ?_; refine tjz 16 hHeld ?_; refine tuz 17 (.int .i64 (m : Int)) rfl (Or.inl ⟨by rfl, ?_⟩) hHeld ?_
                      · (intro W hSw; (try dsimp only at hSw); go_simp; (simp only [IntKind.wrap_i64]; omega))
                      simp only [gA, gB, gC, Act.put, gD, gE, gF]; refine tjz 18 hHeld ?_; refine tjz 19 hHeld ?_; refine tjz 20 hHeld ?_; refine tjz 21 hHeld ?_; refine tjz 22 hHeld ?_; refine tjz 23 hHeld ?_; refine tjz 24 hHeld ?_; refine tjz 25 hHeld ?_; refine ryz 26 (fun K hK => ?_); simp only [gA, gB, gC]; (go_simp); refine (rcmp_rc q.1 p.1 u x _ n3 n1 (HSU.out.short (by omega)) (HX.out.2.short (by omega))).mono ?_; rintro e x39 ⟨rfl, hb⟩; replace V4 := V4.a hb; replace h1 := Rn.after hb h1
                      replace hc := At6.after hb hc; replace n1 := Rn.after hb n1; replace n2 := Rn.after hb n2; replace hd := At6.after hb hd; replace n3 := Rn.after hb n3; replace B0 := step B0 hb; clear hb; rw [hcu]; (try go_wp2_with fail); refine hK.out _ _ ⟨hc.c0, hc.c1, hc.c2, hc.c3, hc.c4, hc.c5, hd.c0, hd.c1, hd.c2⟩ (fun hHeld => ?_); clear hK K
                      by_cases gu : 0 ≤ cu
                      ·
                        have eu : decide (0 ≤ cu) = true := decide_eq_true gu; refine tuz 27 (.bool true) rfl (Or.inl ⟨by rfl, ?_⟩) hHeld ?_
                        · (intro W hSw; (try dsimp only at hSw); go_simp; first | (rw [eu]) | (simp; omega) | skip)
                        simp only [gA, gB, gC, Act.put, gD, gE, gF]; refine tjz 28 hHeld ?_; refine tjz 29 hHeld ?_; refine dnz ?_; clear hHeld
                        have HBAD : Hid (∀ l', Vals ps l' k → Sok l' → False) := fun l' hv ho => by
                          have hj1 := HJM.out; have h1 := ho.up m (by rw [hv.1, ← hj1]; exact hlt); rw [← hj1, (HVX.out l' hv).1, HVU.out l' hv] at h1; have := HCU.out.2 h1
                          omega
                        (go_wp2_with fail)
                        go_ret
                        exact ⟨180, rfl, .inr ⟨by decide, .inr (.inr ⟨rfl, HN.out, HLG.out, fun ⟨l', hv, ho⟩ => HBAD.out l' hv ho⟩)⟩, step HB.out B0⟩
                      ·
                        have eu : decide (0 ≤ cu) = false := decide_eq_false gu; refine tuz 27 (.bool false) rfl (Or.inl ⟨by rfl, ?_⟩) hHeld ?_
                        · (intro W hSw; (try dsimp only at hSw); go_simp; first | (rw [eu]) | (simp; omega) | skip)
                        simp only [gA, gB, gC, Act.put, gD, gE, gF]; refine tjz 28 hHeld ?_; refine tjz 29 hHeld ?_; refine dnz ?_; clear hHeld; have HNX : Hid (Vals ps (l ++ [(x, y)]) (j + 1)) := HV.out.snoc (by rw [HP.out]; exact HX.out.1) (by rw [HP.out]; exact HY.out.1)
                        have HCX : Hid (∀ i, i < j + 1 → Ck (l ++ [(x, y)]) i) := fun i hi => by
                          have hln := HV.out.1
                          by_cases e : i = j
                          · rw [e]
                            (have a1 : aq (l ++ [(x, y)]) (j) = x := by rw [← hln, aq_last]); (have a2 : rq (l ++ [(x, y)]) (j) = y := by rw [← hln, rq_last]); exact ⟨fun h => absurd h h0, fun _ => by have hj1 := HJM.out; rw [a1, show j - 1 = m by omega, aq_app _ (by omega), HU.out]; exact HCU.out.1 (by omega), by rw [a2]; exact HR0.out.1, by rw [a2]; exact HR0.out.2⟩
                          · have hc' := HC.out i (by omega)
                            refine ⟨fun h0 => ?_, fun h0 => ?_, by rw [rq_app _ (by omega)]; exact hc'.r0, by rw [rq_app _ (by omega)]; exact hc'.r1⟩
                            · rw [aq_app _ (by omega)]; exact hc'.z h0
                            · rw [aq_app _ (by omega), aq_app _ (by omega)]; exact hc'.u h0
                        (go_wp2_with fail)
                        go_roundw
                        case measure => simp [intOf]; omega
                        case rel => exact ⟨j + 1, _, by omega, by go_num, HNX.out, HCX.out, HT.out.snoc HX.out.2 HY.out.2, B0⟩
              ·
                (have z5 : (e2 != 0) = true := by simp [z4]); (have z6 : (e2 == 0) = false := by simp [z4])
                have HBAD : Hid (∀ l', Vals ps l' k → Sok l' → False) := fun l' hv ho => by
                  have h' := (hv.2 j hlt).2; rw [HP.out] at h'
                  rcases hk2.out with ⟨h0, -⟩ | ⟨-, h0⟩
                  · exact z4 h0
                  · exact h0 _ h'
                (go_wp2_with fail)
                go_ret
                exact ⟨180, rfl, .inr ⟨by decide, .inr (.inr ⟨rfl, HN.out, HLG.out, fun ⟨l', hv, ho⟩ => HBAD.out l' hv ho⟩)⟩, step HB.out B0⟩
            ·
              (have z2 : (e1 != 0) = true := by simp [z1]); (have z3 : (e1 == 0) = false := by simp [z1])
              have HBAD : Hid (∀ l', Vals ps l' k → Sok l' → False) := fun l' hv ho => by
                have h' := (hv.2 j hlt).1; rw [HP.out] at h'
                rcases hk1.out with ⟨h0, -⟩ | ⟨-, h0⟩
                · exact z1 h0
                · exact h0 _ h'
              (go_wp2_with fail)
              go_ret
              exact ⟨180, rfl, .inr ⟨by decide, .inr (.inr ⟨rfl, HN.out, HLG.out, fun ⟨l', hv, ho⟩ => HBAD.out l' hv ho⟩)⟩, step HB.out B0⟩
          ·
            (obtain rfl : j = k := by omega); (go_wp2_with fail)
            go_ret
            exact ⟨0, rfl, .inl ⟨rfl, HN.out, HLG.out, l, HV.out, Sok.of (by rw [HV.out.1]; exact HN.out.1) (by rw [HV.out.1]; exact HN.out.2) (by rw [HV.out.1]; exact HC.out)⟩, step HB.out HQ.out⟩
  · have HN : Hid (¬ (1 ≤ n ∧ n ≤ 8)) := hn
    rcases Nat.lt_or_ge n 1 with g | g
    · have q1 : decide ((n : Int) < 1) = true := by rw [decide_eq_true_iff]; omega
      clear hn
      go_enter Tryz.func17, Tryz.ntmps17
      (go_wp2_with fail)
      go_ret
      exact ⟨180, rfl, .inr ⟨by decide, .inl ⟨rfl, HN.out⟩⟩, Below.refl _ _⟩
    · have q1 : decide ((n : Int) < 1) = false := by rw [decide_eq_false_iff_not]; omega
      (have q2 : decide ((8 : Int) < (n : Int)) = true := by rw [decide_eq_true_iff]; omega); clear hn
      go_enter Tryz.func17, Tryz.ntmps17
      (go_wp2_with fail)
      go_ret
      exact ⟨180, rfl, .inr ⟨by decide, .inl ⟨rfl, HN.out⟩⟩, Below.refl _ _⟩
end Go.Proofs.YtenmkbofpmbedaaGreatDoor
namespace Go.Proofs.YtenmkbofpmbedaaGreatDoor
open Go.RowKit Go.Shelf
set_option linter.unusedVariables false

def Fit3 (u v : Rat) : Prop := ∀ n, n = 4000 → (u.num.natAbs : Int) * (v.den : Int) < pw n ∧ (v.num.natAbs : Int) * (u.den : Int) < pw n ∧ (u.den : Int) * (v.den : Int) < pw n
theorem Fit3.neg {u v : Rat} (h : Fit3 u v) : Fit3 u (-v) := fun n e => by rw [Rat.neg_num, Rat.neg_den, Int.natAbs_neg]; exact h n e
theorem Rr.len9 {w : World} {s : Bool} {a : Option Addr} {l c : Nat} {zs : List Int} {b : Option Addr} {m d : Nat} {ys : List Int} {v : Rat} (h : Rr w s a l c zs b m d ys v) (hS : Sz 4000 v) : l ≤ 4000 ∧ m ≤ 4000 := by
  obtain ⟨h1, h2, h3, h4, -, h5, h6, -⟩ := h
  have p1 := num_nonneg h1.2.1
  refine ⟨?_, ?_⟩
  · have := used_of_lt (n := 4000) h1.2.1 (by
      have h7 := hS.1
      rw [← h5] at h7
      cases s
      · rw [iv_f] at h7; omega
      · rw [iv_t] at h7; omega)
    omega
  · have := used_of_lt (n := 4000) h2.2.1 (by rw [h6]; exact hS.2)
    omega
theorem natAbs_iv {s : Bool} {zs : List Int} {x : Int} (h : iv s zs = x) (p : 0 ≤ num zs) : num zs = (x.natAbs : Int) := by
  cases s
  · rw [iv_f] at h; omega
  · rw [iv_t] at h; omega
theorem Fit3.symm {u v : Rat} (h : Fit3 u v) : Fit3 v u := fun n e => ⟨(h n e).2.1, (h n e).1, by rw [Int.mul_comm]; exact (h n e).2.2⟩
end Go.Proofs.YtenmkbofpmbedaaGreatDoor
namespace Go.Proofs.YtenmkbofpmbedaaGreatDoor
open Go.RowKit Go.Shelf
set_option linter.unusedVariables false
set_option maxRecDepth 20000

end Go.Proofs.YtenmkbofpmbedaaGreatDoor
namespace Go.Proofs.YtenmkbofpmbedaaGreatDoor
open Go.RowKit Go.Shelf
set_option linter.unusedVariables false

theorem gTens : Tryz.prog.globalNamed "tollbook/decimal.tens" = some 0 := by kernel_rfl
theorem gTensT : (Tryz.prog.globals[0]?).map (·.type) = some 146 := by kernel_rfl
theorem cTens : Tryz.prog.cellsOf 146 = 10 := by kernel_rfl
theorem cI64 : Tryz.prog.cellsOf 2 = 1 := by kernel_rfl
theorem tnOf {W : World} {rest : List (String × DataW Unit)} (h : laidMet Tryz.prog (("tollbook/decimal.tens", Rows.laid_tollbook_decimal_tens) :: rest) W) : Tn W :=
  Go.Lib.tabIs_of_head (zs := [1, 10, 100, 1000, 10000, 100000, 1000000, 10000000, 100000000, 1000000000]) gTens gTensT Tryz.underlying146 Tryz.underlying2 cI64 cTens h
theorem mem_getD {α : Type} {l : List α} {n i : Nat} (d : α) (hl : l.length = n) (hi : i < n) : l.getD i d ∈ l := by
  rw [List.getD_eq_getElem?_getD, List.getElem?_eq_getElem (by omega)]
  exact List.getElem_mem _
theorem rpOf {W : World} {a : Option Addr} {n : Nat} {ps : List Pc} (h : Le elP W a n ps) (g : ∀ q ∈ ps, (Rd2 W q.1 ∧ Lng q.1) ∧ (Rd2 W q.2 ∧ Lng q.2)) : Rp W ps n ∧ ∀ i, i < n → Lng (ps.getD i pz).1 ∧ Lng (ps.getD i pz).2 :=
  ⟨fun i hi => ⟨(g _ (mem_getD pz h.1 hi)).1.1, (g _ (mem_getD pz h.1 hi)).2.1⟩, fun i hi => ⟨(g _ (mem_getD pz h.1 hi)).1.2, (g _ (mem_getD pz h.1 hi)).2.2⟩⟩
end Go.Proofs.YtenmkbofpmbedaaGreatDoor
