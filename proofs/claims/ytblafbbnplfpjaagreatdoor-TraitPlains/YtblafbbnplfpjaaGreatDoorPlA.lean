/-
  The document's plain: of a tree in memory.
-/
import Derived.Test.YtblafbbnplfpjaaGreatDoorMgAn
namespace Go.Proofs.YtblafbbnplfpjaaGreatDoor
open Go.RowKit Go.Shelf
set_option linter.unusedVariables false
set_option linter.unusedSimpArgs false

set_option maxRecDepth 20000 in
set_option maxHeartbeats 32000000 in
theorem rplain_any (P : Nat → Prop) : ∀ (fu d : Nat), d + fu = 17 → 1 ≤ d → ∀ (n : Nd) (k : Fo) (o : Int) (neg : Bool) (t : Tc) (w : World), (Fo.cons n k .nil).Ok wdB o d → k.flat.length ≤ 64 → Rtw w P (.cons n k .nil) [t] →
    Calls Tryz.prog 43 #[tvT t, .bool neg] w (PnE n k neg w) := by
  intro fu
  induction fu with
  | zero =>
    intro d hd hd1 n k o neg t w hok
    have := hok.1.2.2.1
    omega
  | succ fu ih =>
    intro d hd hd1 n k o neg t w hok hkl hR
    obtain ⟨t, ts0, kts, e0, htn, htl, hL, -, hK, -⟩ := hR
    cases e0
    obtain ⟨⟨kd, ks, nm, op, un, pl⟩, ta, tl, tc⟩ := t
    dsimp only at htn htl hL
    subst htn
    have HOK : Hid ((Fo.cons ⟨kd, ks, nm, op, un, pl⟩ k .nil).Ok wdB o d) := hok
    have HKL : Hid (k.flat.length ≤ 64) := hkl
    have HL : Hid (Le elT w ta tl kts) := hL
    have HK : Hid (Rtw w P k kts) := hK
    have HTL : Hid (tl = k.len) := htl
    have HIH : Hid (∀ d : Nat, d + fu = 17 → 1 ≤ d → ∀ (n : Nd) (k : Fo) (o : Int) (neg : Bool) (t : Tc) (w : World), (Fo.cons n k .nil).Ok wdB o d → k.flat.length ≤ 64 → Rtw w P (.cons n k .nil) [t] →
        Calls Tryz.prog 43 #[tvT t, .bool neg] w (PnE n k neg w)) := ih
    have htl64 : tl ≤ 64 := by rw [htl]; exact Nat.le_trans (Fo.len_flat k) hkl
    have hkd : kd = 1 ∨ kd = 2 ∨ kd = 3 ∨ kd = 4 ∨ kd = 5 ∨ kd = 6 ∨ kd = 7 := by
      have h := hok.1.1
      unfold NdOk at h
      dsimp only at h
      omega
    clear hok hkl hL hK htl ih
    dsimp only [tvT, cT]
    rcases hkd with rfl | rfl | rfl | rfl | rfl | rfl | rfl
    · cases neg
      · go_enter Tryz.func43, Tryz.ntmps43
        go_upto_region 1 with fail
        refine ent2 w _ _ _ _ (Q := fun W => Code.wp _ _ _ _ W) ?_
        intro W2 hb2 hs2 V2 V4
        have HV2 : Hid (Va W2 w.heap.size 56 #[.int .i64 1, .int .i64 ks, sv nm, .int .i64 op, .int .i64 un, .int .i64 pl, .slice ta tl tc]) := V2
        have HV4 : Hid (Va W2 (w.heap.size + 1) 56 zT) := V4
        have HB2 : Hid (Below w.heap.size w W2) := hb2
        have hw2 : w.heap.size + 1 < W2.heap.size := by omega
        have z0 := V2.t0
        have z1 := V2.t1
        have z2 := V2.t2
        have z3 := V2.t3
        have z4 := V2.t4
        have z5 := V2.t5
        have z6 := V2.t6
        clear V2 V4 hb2 hs2
        go_upto_region 2 with fail
        refine ent1 W2 _ _ (Q := fun W => Code.wp _ _ _ _ W) ?_
        intro W3 hb3 hs3 V5
        have HV3 : Hid (Va W3 w.heap.size 56 #[.int .i64 1, .int .i64 ks, sv nm, .int .i64 op, .int .i64 un, .int .i64 pl, .slice ta tl tc]) := HV2.out.after hb3
        have HVR : Hid (Va W3 (w.heap.size + 1) 56 zT) := HV4.out.after hb3
        have HVN : Hid (Va W3 W2.heap.size 48 #[.int .i64 1, .int .i64 ks, sv nm, .int .i64 op, .int .i64 un, .int .i64 pl]) := V5
        have HB3 : Hid (Below w.heap.size w W3) := step HB2.out hb3
        have hw3 : W2.heap.size < W3.heap.size := by omega
        clear V5 hb3 hs3 HV2 HV4 HB2 z0 z1 z2 z3 z4 z5 z6
        have n0 := HVN.out.n0
        have n1 := HVN.out.n1
        have n2 := HVN.out.n2
        have n3 := HVN.out.n3
        have n4 := HVN.out.n4
        have n5 := HVN.out.n5
        have xw1 : IntKind.i64.wrap (1 : Int) = 1 := by decide
        have xw2 : IntKind.i64.wrap (2 : Int) = 2 := by decide
        go_upto_region 9 with fail
        refine ent1 W3 _ _ (Q := fun W => Code.wp _ _ _ _ W) ?_
        intro W4 hb4 hs4 V7
        obtain ⟨bo, hbo⟩ : ∃ bo, W3.heap.size = bo := ⟨_, rfl⟩
        have HB4 : Hid (Below w.heap.size w W4) := step HB3.out hb4
        have HT4 : Hid (Va W4 w.heap.size 56 #[.int .i64 1, .int .i64 ks, sv nm, .int .i64 op, .int .i64 un, .int .i64 pl, .slice ta tl tc]) := HV3.out.after hb4
        have HR4 : Hid (Va W4 (w.heap.size + 1) 56 zT) := HVR.out.after hb4
        rw [hbo] at V7 hw3
        rw [hbo]
        have HO4 : Hid (Va W4 bo 56 (cT ⟨1, 0, [], 0, 0, 0⟩ (.slice none 0 0))) := V7
        have hwb : w.heap.size + 1 < bo := by omega
        clear V7 hb4 hs4 hbo HB3 HV3 HVR HVN n0 n1 n2 n3 n4 n5 xw1 xw2 hw2 hw3
        go_wp2_with fail
        go_loopw [8, 9] (fun v8 _ wr => ∃ (i : Nat) (x y : Fo) (ts : List Tc) (av : Option Addr) (cv : Nat), v8 = .int .i64 i ∧ i ≤ tl ∧ Hid (Pk k false 1 bo wr x y i ts (.slice av ts.length cv)) ∧ Hid (Va wr w.heap.size 56 #[.int .i64 1, .int .i64 ks, sv nm, .int .i64 op, .int .i64 un, .int .i64 pl, .slice ta tl tc]) ∧ Hid (Va wr (w.heap.size + 1) 56 zT) ∧ Hid (Va wr bo 56 (cT ⟨1, 0, [], 0, 0, 0⟩ (.slice av ts.length cv))) ∧ Hid (Below w.heap.size w wr)) (fun v8 _ _ => (tl - (intOf v8).toNat : Nat))
        case atStart => exact ⟨0, .nil, k, [], none, 0, rfl, Nat.zero_le _, Pk.start, HT4.out, HR4.out, HO4.out, HB4.out⟩
        case round =>
          clear HT4 HR4 HO4 HB4
          obtain ⟨i, x, y, ts, av, cv, rfl, hi, HP, HT, HR, HO, HB⟩ := hrel
          have hfew := HP.out.few HKL.out
          have c6 := HT.out.t6
          rcases Nat.lt_or_ge i tl with hlt | hge
          · have hii : (i : Int) < tl := by omega
            obtain ⟨m, km, r, t, hk⟩ := kid_at HK.out (i := i) (by have := HTL.out; omega) HP.out.e HP.out.l
            obtain ⟨mn, ma, ml, mc⟩ := t
            obtain rfl : mn = m := hk.fn
            obtain ⟨b, off, rfl⟩ := HL.out.ex (by omega)
            have kk : Ct7 wr b (off + i * 7) mn ma ml mc := ct7_of (HL.out.after HB.out) i hlt hk.fg
            have k0 := kk.c0
            have k1 := kk.c1
            have k2 := kk.c2
            have k3 := kk.c3
            have k4 := kk.c4
            have k5 := kk.c5
            have k6 := kk.c6
            have hd16 := HOK.out.1.2.2.1
            have hkk : k.Ok wdB 1 (d + 1) := HOK.out.1.2.2.2.2
            have hkl := HKL.out
            rw [hk.fe] at hkk hkl
            have hml : km.flat.length ≤ 64 := by
              rw [Fo.flat_app] at hkl
              simp only [Fo.flat, List.length_append, List.length_cons] at hkl
              omega
            have D : Calls Tryz.prog 43 #[tvT ⟨mn, ma, ml, mc⟩, .bool false] wr (PnE mn km false wr) := HIH.out (d + 1) (by omega) (by omega) mn km _ false _ wr (ok_oneP hkk.right) hml (Rtw.imp (fun b' hb' hp => ⟨hp, HB.out.block b' hb'⟩) hk.ft)
            dsimp only [tvT, cT] at D
            have HKE : Hid (k = x.app (.cons mn km r)) := hk.fe
            have HPO : Hid (((Fo.cons mn km .nil).plain false).Ok wdB 0 (d + 1)) := plain_ok _ false _ _ (ok_oneP hkk.right)
            have HPL : Hid (((Fo.cons mn km .nil).plain false).flat.length ≤ 200) := by
              have h9 := plain_size (.cons mn km .nil) false
              simp only [Fo.flat, List.append_nil, List.length_cons] at h9
              show _ ≤ _; omega
            clear kk hk hkk hkl hml hd16
            go_wp2_with fail
            refine D.mono ?_
            rintro e w5 ⟨hb5, m5, j5, ⟨tn5, ta5, tl5, tc5⟩, rfl, hp5, hr5⟩
            have htn5 : tn5 = m5 := by
              obtain ⟨t0, ts0, kts0, e0, h0, -⟩ := hr5
              cases e0; exact h0
            subst htn5
            have hjl : j5.len ≤ 200 := by
              have h1 := HPL.out
              rw [hp5] at h1
              have h2 := Fo.len_flat j5
              simp only [Fo.flat, List.append_nil, List.length_cons] at h1
              omega
            have HPO2 : Hid ((Fo.cons tn5 j5 .nil).Ok wdB 0 (d + 1)) := by have := HPO.out; rw [hp5] at this; exact this
            have HP5 : Hid ((Fo.cons mn km .nil).plain false = .cons tn5 j5 .nil) := hp5
            have HR5 : Hid (Rtw w5 (fun b => wr.heap.size ≤ b) (.cons tn5 j5 .nil) [⟨tn5, ta5, tl5, tc5⟩]) := hr5
            have HB5 : Hid (Below wr.heap.size wr w5) := hb5
            clear k0 k1 k2 k3 k4 k5 k6 c6 D hb5 hp5 hr5 HPO HPL
            go_upto_region 13 with fail
            refine ent1 w5 _ _ (Q := fun W => Code.wp _ _ _ _ W) ?_
            intro W6 hb6 hs6 V9
            have HB56 : Hid (Below wr.heap.size wr W6) := step HB5.out hb6
            have HB6 : Hid (Below w.heap.size w W6) := step HB.out HB56.out
            have HT6 : Hid (Va W6 w.heap.size 56 #[.int .i64 1, .int .i64 ks, sv nm, .int .i64 op, .int .i64 un, .int .i64 pl, .slice (some ⟨b, off, none⟩) tl tc]) := HT.out.after HB56.out
            have HRR6 : Hid (Va W6 (w.heap.size + 1) 56 zT) := HR.out.after HB56.out
            have HO6 : Hid (Va W6 bo 56 (cT ⟨1, 0, [], 0, 0, 0⟩ (.slice av ts.length cv))) := HO.out.after HB56.out
            obtain ⟨bk, hbk⟩ : ∃ bk, w5.heap.size = bk := ⟨_, rfl⟩
            rw [hbk] at V9
            rw [hbk]
            have HK6 : Hid (Va W6 bk 56 (cT tn5 (.slice ta5 tl5 tc5))) := V9
            have hbw : bo < wr.heap.size := HO.out.lt
            have h5w := HB5.out.size
            have HB66 : Hid (Below w5.heap.size w5 W6) := hb6
            have hsz6 := HB56.out.size
            have g0 := HK6.out.t0
            have g6 := HK6.out.t6
            have r6 := HO6.out.t6
            have r7 := HO6.out.frozen 6
            have HGE : Hid (Ge elT W6 (bo + 1) (.slice av ts.length cv) ts) := HP.out.g.after HB56.out
            clear V9 hb6 hs6 hbk HB HT HR HO
            by_cases hc : tn5.kd = 1
            · have b3 : (tn5.kd == 1) = true := by simpa using hc
              obtain ⟨L, hLL, hRL, hLl⟩ := (kid_put 1 HR5.out).1 hc
              dsimp only at hLL hLl
              have htwo := kids_two HPO2.out (by omega)
              obtain ⟨b5, o5, rfl⟩ := hLL.ex (by omega)
              have HRL : Hid (Rtw w5 (fun b => wr.heap.size ≤ b) (((Fo.cons mn km .nil).plain false).melt 1) L) := by show Rtw _ _ _ _; rw [HP5.out]; exact hRL
              have HLL : Hid (Le elT W6 (some ⟨b5, o5, none⟩) tl5 L) := hLL.after HB66.out
              have HLN : Hid (L.length = tl5) := hLL.1
              have htl5 : tl5 ≤ 200 := by omega
              clear hc hLL hRL hLl htwo hjl
              go_wp2_with (at_builtin; go_loud (refine wpList_appE rfl _ _ _ rfl elT rfl (bo + 1) _ ts rfl HGE.out b5 o5 tl5 tc5 L rfl HLL.out (by omega) (by omega) ?_; intro v8 W8 hg8 hgr8 hob8; have hblk : ∀ c, c < W6.heap.size → (Value.slice av ts.length cv).ownBlock ≠ some c → W8.heap[c]? = W6.heap[c]? := (fun c hc hne => hgr8.block c hc (fun e => hne e.symm)); have hno : ∀ c, c ≤ bo → (Value.slice av ts.length cv).ownBlock ≠ some c := (fun c hc e => by have := HGE.out.block c e; omega); have HVT8 : Hid (Va W8 bo 56 (cT ⟨1, 0, [], 0, 0, 0⟩ (.slice av ts.length cv))) := HO6.out.keptW (hblk bo (by omega) (hno _ (Nat.le_refl _))); have hfr6 := HVT8.out.frozen 6; have hce6 := HVT8.out.t6; have HB8 : Hid (Below w.heap.size w W8) := HB6.out.grown hgr8 HB6.out.size (fun c hc => by have := HGE.out.block c hc; omega); have HT8 : Hid (Va W8 w.heap.size 56 #[.int .i64 1, .int .i64 ks, sv nm, .int .i64 op, .int .i64 un, .int .i64 pl, .slice (some ⟨b, off, none⟩) tl tc]) := HT6.out.keptW (hblk _ (by omega) (hno _ (by omega))); have HRR8 : Hid (Va W8 (w.heap.size + 1) 56 zT) := HRR6.out.keptW (hblk _ (by omega) (hno _ (by omega))); have HBL : Hid (∀ c, c < W6.heap.size → (Value.slice av ts.length cv).ownBlock ≠ some c → W8.heap[c]? = W6.heap[c]?) := hblk; have HO8 : Hid (v8.ownBlock = (Value.slice av ts.length cv).ownBlock ∨ ∃ c, v8.ownBlock = some c ∧ W6.heap.size ≤ c) := (hob8.imp id (fun h => ⟨_, h, Nat.le_refl _⟩)); obtain ⟨a8, c8, e8, -, -, -⟩ := hg8.shape; subst e8; have h9 : (ts ++ L).length = ts.length + tl5 := (by rw [List.length_append, HLN.out]); rw [h9] at hg8 HO8; have HG8 : Hid (Ge elT W8 (bo + 1) (.slice a8 (ts.length + tl5) c8) (ts ++ L)) := hg8; rw [h9]; clear hg8 hgr8 hob8 hblk hno h9))
              go_roundw
              case rel =>
                have h8 : ts.length + tl5 = (ts ++ L).length := by rw [List.length_append, HLN.out]
                have HPN := Pk.next HP.out HKE.out HRL.out hbw HB5.out HB66.out HG8.out HO8.out HBL.out (.slice a8 (ts.length + tl5) c8)
                refine ⟨i + 1, x.app (.cons mn km .nil), r, ts ++ L, a8, c8, by go_num, by omega, ?_, HT8.out.keptW (heap_setCell_other _ _ _ _ (by show w.heap.size ≠ bo; omega)), HRR8.out.keptW (heap_setCell_other _ _ _ _ (by show w.heap.size + 1 ≠ bo; omega)), ?_, HB8.out.setCell (p := ⟨bo, 6, none⟩) (by show w.heap.size ≤ bo; omega) _⟩
                · rw [← h8]; exact HPN
                · rw [← h8]; exact HVT8.out.setT6 _
              case measure => simp [intOf]; omega
            · have b3 : (tn5.kd == 1) = false := by simpa using hc
              have HRL : Hid (Rtw w5 (fun b => wr.heap.size ≤ b) (((Fo.cons mn km .nil).plain false).melt 1) [⟨tn5, ta5, tl5, tc5⟩]) := by show Rtw _ _ _ _; rw [HP5.out]; exact (kid_put 1 HR5.out).2 hc
              have g1 := HK6.out.t1
              have g2 := HK6.out.t2
              have g3 := HK6.out.t3
              have g4 := HK6.out.t4
              have g5 := HK6.out.t5
              have HON : Hid (Le elT (W6.alloc (.cells (cT tn5 (.slice ta5 tl5 tc5)) 56)) (some ⟨W6.heap.size, 0, none⟩) 1 [⟨tn5, ta5, tl5, tc5⟩]) := Le.one (Va.new W6 _ _) rfl
              clear hc hjl
              go_wp2_with (at_builtin; go_loud (refine wpList_appE rfl _ _ _ rfl elT rfl (bo + 1) _ ts rfl (HGE.out.al _) W6.heap.size 0 1 1 [⟨tn5, ta5, tl5, tc5⟩] rfl HON.out (by omega) (by simp; omega) ?_; intro v8 W8 hg8 hgr8 hob8; have hblk : ∀ c, c < W6.heap.size → (Value.slice av ts.length cv).ownBlock ≠ some c → W8.heap[c]? = W6.heap[c]? := (fun c hc hne => (hgr8.block c (by simp; omega) (fun e => hne e.symm)).trans (((Below.refl W6.heap.size W6).alloc (Nat.le_refl _) _).block c hc)); have hno : ∀ c, c ≤ bo → (Value.slice av ts.length cv).ownBlock ≠ some c := (fun c hc e => by have := HGE.out.block c e; omega); have HVT8 : Hid (Va W8 bo 56 (cT ⟨1, 0, [], 0, 0, 0⟩ (.slice av ts.length cv))) := HO6.out.keptW (hblk bo (by omega) (hno _ (Nat.le_refl _))); have hfr6 := HVT8.out.frozen 6; have hce6 := HVT8.out.t6; have HB8 : Hid (Below w.heap.size w W8) := (HB6.out.alloc HB6.out.size _).grown hgr8 (by simp; omega) (fun c hc => by have := HGE.out.block c hc; omega); have HT8 : Hid (Va W8 w.heap.size 56 #[.int .i64 1, .int .i64 ks, sv nm, .int .i64 op, .int .i64 un, .int .i64 pl, .slice (some ⟨b, off, none⟩) tl tc]) := HT6.out.keptW (hblk _ (by omega) (hno _ (by omega))); have HRR8 : Hid (Va W8 (w.heap.size + 1) 56 zT) := HRR6.out.keptW (hblk _ (by omega) (hno _ (by omega))); have HBL : Hid (∀ c, c < W6.heap.size → (Value.slice av ts.length cv).ownBlock ≠ some c → W8.heap[c]? = W6.heap[c]?) := hblk; have HO8 : Hid (v8.ownBlock = (Value.slice av ts.length cv).ownBlock ∨ ∃ c, v8.ownBlock = some c ∧ W6.heap.size ≤ c) := (hob8.imp id (fun h => ⟨_, h, by simp⟩)); obtain ⟨a8, c8, e8, -, -, -⟩ := hg8.shape; subst e8; have h9 : (ts ++ [(⟨tn5, ta5, tl5, tc5⟩ : Tc)]).length = ts.length + 1 := (by rw [List.length_append]; rfl); rw [h9] at hg8 HO8; have HG8 : Hid (Ge elT W8 (bo + 1) (.slice a8 (ts.length + 1) c8) (ts ++ [(⟨tn5, ta5, tl5, tc5⟩ : Tc)])) := hg8; rw [h9]; clear hg8 hgr8 hob8 hblk hno h9))
              go_roundw
              case rel =>
                have h8 : ts.length + 1 = (ts ++ [(⟨tn5, ta5, tl5, tc5⟩ : Tc)]).length := by rw [List.length_append]; rfl
                have HPN := Pk.next HP.out HKE.out HRL.out hbw HB5.out HB66.out HG8.out HO8.out HBL.out (.slice a8 (ts.length + 1) c8)
                refine ⟨i + 1, x.app (.cons mn km .nil), r, ts ++ [⟨tn5, ta5, tl5, tc5⟩], a8, c8, by go_num, by omega, ?_, HT8.out.keptW (heap_setCell_other _ _ _ _ (by show w.heap.size ≠ bo; omega)), HRR8.out.keptW (heap_setCell_other _ _ _ _ (by show w.heap.size + 1 ≠ bo; omega)), ?_, HB8.out.setCell (p := ⟨bo, 6, none⟩) (by show w.heap.size ≤ bo; omega) _⟩
                · rw [← h8]; exact HPN
                · rw [← h8]; exact HVT8.out.setT6 _
              case measure => simp [intOf]; omega
          · have hii : ¬ (i : Int) < tl := by omega
            have hil : i = k.len := by have := HTL.out; omega
            have r1 := HO.out.t1
            have r6 := HO.out.t6
            have f1 := HO.out.frozen 1
            have hbw : bo < wr.heap.size := HO.out.lt
            go_upto_region 17 with fail
            refine stoT1 HO.out _ (Q := fun W => Code.wp _ _ _ _ W) ?_
            intro W7 V7 hk7 hb7 hs7
            have HR7 : Hid (Va W7 (w.heap.size + 1) 56 zT) := HR.out.keptW (hk7 _ (by omega))
            have HB7 : Hid (Below w.heap.size w W7) := hb7 _ _ (by omega) HB.out
            have HK7 : Hid (∀ c, c ≠ bo → W7.heap[c]? = wr.heap[c]?) := hk7
            clear r1 r6 f1 c6 hk7 hb7 hs7 HT HR HO HB hge hi
            have r0 := V7.t0
            have r1 := V7.t1
            have r2 := V7.t2
            have r3 := V7.t3
            have r4 := V7.t4
            have r5 := V7.t5
            have r6 := V7.t6
            have q0 := HR7.out.frozen 0
            have cq0 := HR7.out.t0
            have q1 := HR7.out.frozen 1
            have cq1 := HR7.out.t1
            have q2 := HR7.out.frozen 2
            have cq2 := HR7.out.t2
            have q3 := HR7.out.frozen 3
            have cq3 := HR7.out.t3
            have q4 := HR7.out.frozen 4
            have cq4 := HR7.out.t4
            have q5 := HR7.out.frozen 5
            have cq5 := HR7.out.t5
            have q6 := HR7.out.frozen 6
            have cq6 := HR7.out.t6
            clear V7
            go_wp2_with fail
            refine bodyPost_ret (results_tr rfl rfl (HR7.out.set7 _ _ _ _ _ _ _)) rfl ?_
            refine ⟨below_7 HB7.out (by omega) _ _ _ _ _ _ _, ⟨1, (ts.length : Nat), [], 0, 0, 0⟩, (k.plain false).melt 1, ⟨⟨1, (ts.length : Nat), [], 0, 0, 0⟩, av, ts.length, cv⟩, rfl, ?_, ?_⟩
            · rw [HP.out.lenT hil]; exact plain_12 k false (.inl rfl)
            · exact HP.out.whole hil (by omega) (fun b hb => (fa7 _ _ _ _ _ _ _ _ _ b (by omega)).trans (HK7.out b (by omega))) _
      · go_enter Tryz.func43, Tryz.ntmps43
        go_upto_region 1 with fail
        refine ent2 w _ _ _ _ (Q := fun W => Code.wp _ _ _ _ W) ?_
        intro W2 hb2 hs2 V2 V4
        have HV2 : Hid (Va W2 w.heap.size 56 #[.int .i64 1, .int .i64 ks, sv nm, .int .i64 op, .int .i64 un, .int .i64 pl, .slice ta tl tc]) := V2
        have HV4 : Hid (Va W2 (w.heap.size + 1) 56 zT) := V4
        have HB2 : Hid (Below w.heap.size w W2) := hb2
        have hw2 : w.heap.size + 1 < W2.heap.size := by omega
        have z0 := V2.t0
        have z1 := V2.t1
        have z2 := V2.t2
        have z3 := V2.t3
        have z4 := V2.t4
        have z5 := V2.t5
        have z6 := V2.t6
        clear V2 V4 hb2 hs2
        go_upto_region 2 with fail
        refine ent1 W2 _ _ (Q := fun W => Code.wp _ _ _ _ W) ?_
        intro W3 hb3 hs3 V5
        have HV3 : Hid (Va W3 w.heap.size 56 #[.int .i64 1, .int .i64 ks, sv nm, .int .i64 op, .int .i64 un, .int .i64 pl, .slice ta tl tc]) := HV2.out.after hb3
        have HVR : Hid (Va W3 (w.heap.size + 1) 56 zT) := HV4.out.after hb3
        have HVN : Hid (Va W3 W2.heap.size 48 #[.int .i64 1, .int .i64 ks, sv nm, .int .i64 op, .int .i64 un, .int .i64 pl]) := V5
        have HB3 : Hid (Below w.heap.size w W3) := step HB2.out hb3
        have hw3 : W2.heap.size < W3.heap.size := by omega
        clear V5 hb3 hs3 HV2 HV4 HB2 z0 z1 z2 z3 z4 z5 z6
        have n0 := HVN.out.n0
        have n1 := HVN.out.n1
        have n2 := HVN.out.n2
        have n3 := HVN.out.n3
        have n4 := HVN.out.n4
        have n5 := HVN.out.n5
        have xw1 : IntKind.i64.wrap (1 : Int) = 1 := by decide
        have xw2 : IntKind.i64.wrap (2 : Int) = 2 := by decide
        go_upto_region 9 with fail
        refine ent1 W3 _ _ (Q := fun W => Code.wp _ _ _ _ W) ?_
        intro W4 hb4 hs4 V7
        obtain ⟨bo, hbo⟩ : ∃ bo, W3.heap.size = bo := ⟨_, rfl⟩
        have HB4 : Hid (Below w.heap.size w W4) := step HB3.out hb4
        have HT4 : Hid (Va W4 w.heap.size 56 #[.int .i64 1, .int .i64 ks, sv nm, .int .i64 op, .int .i64 un, .int .i64 pl, .slice ta tl tc]) := HV3.out.after hb4
        have HR4 : Hid (Va W4 (w.heap.size + 1) 56 zT) := HVR.out.after hb4
        rw [hbo] at V7 hw3
        rw [hbo]
        have HO4 : Hid (Va W4 bo 56 (cT ⟨2, 0, [], 0, 0, 0⟩ (.slice none 0 0))) := V7
        have hwb : w.heap.size + 1 < bo := by omega
        clear V7 hb4 hs4 hbo HB3 HV3 HVR HVN n0 n1 n2 n3 n4 n5 xw1 xw2 hw2 hw3
        go_wp2_with fail
        go_loopw [8, 9] (fun v8 _ wr => ∃ (i : Nat) (x y : Fo) (ts : List Tc) (av : Option Addr) (cv : Nat), v8 = .int .i64 i ∧ i ≤ tl ∧ Hid (Pk k true 2 bo wr x y i ts (.slice av ts.length cv)) ∧ Hid (Va wr w.heap.size 56 #[.int .i64 1, .int .i64 ks, sv nm, .int .i64 op, .int .i64 un, .int .i64 pl, .slice ta tl tc]) ∧ Hid (Va wr (w.heap.size + 1) 56 zT) ∧ Hid (Va wr bo 56 (cT ⟨2, 0, [], 0, 0, 0⟩ (.slice av ts.length cv))) ∧ Hid (Below w.heap.size w wr)) (fun v8 _ _ => (tl - (intOf v8).toNat : Nat))
        case atStart => exact ⟨0, .nil, k, [], none, 0, rfl, Nat.zero_le _, Pk.start, HT4.out, HR4.out, HO4.out, HB4.out⟩
        case round =>
          clear HT4 HR4 HO4 HB4
          obtain ⟨i, x, y, ts, av, cv, rfl, hi, HP, HT, HR, HO, HB⟩ := hrel
          have hfew := HP.out.few HKL.out
          have c6 := HT.out.t6
          rcases Nat.lt_or_ge i tl with hlt | hge
          · have hii : (i : Int) < tl := by omega
            obtain ⟨m, km, r, t, hk⟩ := kid_at HK.out (i := i) (by have := HTL.out; omega) HP.out.e HP.out.l
            obtain ⟨mn, ma, ml, mc⟩ := t
            obtain rfl : mn = m := hk.fn
            obtain ⟨b, off, rfl⟩ := HL.out.ex (by omega)
            have kk : Ct7 wr b (off + i * 7) mn ma ml mc := ct7_of (HL.out.after HB.out) i hlt hk.fg
            have k0 := kk.c0
            have k1 := kk.c1
            have k2 := kk.c2
            have k3 := kk.c3
            have k4 := kk.c4
            have k5 := kk.c5
            have k6 := kk.c6
            have hd16 := HOK.out.1.2.2.1
            have hkk : k.Ok wdB 1 (d + 1) := HOK.out.1.2.2.2.2
            have hkl := HKL.out
            rw [hk.fe] at hkk hkl
            have hml : km.flat.length ≤ 64 := by
              rw [Fo.flat_app] at hkl
              simp only [Fo.flat, List.length_append, List.length_cons] at hkl
              omega
            have D : Calls Tryz.prog 43 #[tvT ⟨mn, ma, ml, mc⟩, .bool true] wr (PnE mn km true wr) := HIH.out (d + 1) (by omega) (by omega) mn km _ true _ wr (ok_oneP hkk.right) hml (Rtw.imp (fun b' hb' hp => ⟨hp, HB.out.block b' hb'⟩) hk.ft)
            dsimp only [tvT, cT] at D
            have HKE : Hid (k = x.app (.cons mn km r)) := hk.fe
            have HPO : Hid (((Fo.cons mn km .nil).plain true).Ok wdB 0 d) := plain_ok _ true _ _ (ok_oneP hkk.right)
            have HPL : Hid (((Fo.cons mn km .nil).plain true).flat.length ≤ 200) := by
              have h9 := plain_size (.cons mn km .nil) true
              simp only [Fo.flat, List.append_nil, List.length_cons] at h9
              show _ ≤ _; omega
            clear kk hk hkk hkl hml hd16
            go_wp2_with fail
            refine D.mono ?_
            rintro e w5 ⟨hb5, m5, j5, ⟨tn5, ta5, tl5, tc5⟩, rfl, hp5, hr5⟩
            have htn5 : tn5 = m5 := by
              obtain ⟨t0, ts0, kts0, e0, h0, -⟩ := hr5
              cases e0; exact h0
            subst htn5
            have hjl : j5.len ≤ 200 := by
              have h1 := HPL.out
              rw [hp5] at h1
              have h2 := Fo.len_flat j5
              simp only [Fo.flat, List.append_nil, List.length_cons] at h1
              omega
            have HPO2 : Hid ((Fo.cons tn5 j5 .nil).Ok wdB 0 d) := by have := HPO.out; rw [hp5] at this; exact this
            have HP5 : Hid ((Fo.cons mn km .nil).plain true = .cons tn5 j5 .nil) := hp5
            have HR5 : Hid (Rtw w5 (fun b => wr.heap.size ≤ b) (.cons tn5 j5 .nil) [⟨tn5, ta5, tl5, tc5⟩]) := hr5
            have HB5 : Hid (Below wr.heap.size wr w5) := hb5
            clear k0 k1 k2 k3 k4 k5 k6 c6 D hb5 hp5 hr5 HPO HPL
            go_upto_region 13 with fail
            refine ent1 w5 _ _ (Q := fun W => Code.wp _ _ _ _ W) ?_
            intro W6 hb6 hs6 V9
            have HB56 : Hid (Below wr.heap.size wr W6) := step HB5.out hb6
            have HB6 : Hid (Below w.heap.size w W6) := step HB.out HB56.out
            have HT6 : Hid (Va W6 w.heap.size 56 #[.int .i64 1, .int .i64 ks, sv nm, .int .i64 op, .int .i64 un, .int .i64 pl, .slice (some ⟨b, off, none⟩) tl tc]) := HT.out.after HB56.out
            have HRR6 : Hid (Va W6 (w.heap.size + 1) 56 zT) := HR.out.after HB56.out
            have HO6 : Hid (Va W6 bo 56 (cT ⟨2, 0, [], 0, 0, 0⟩ (.slice av ts.length cv))) := HO.out.after HB56.out
            obtain ⟨bk, hbk⟩ : ∃ bk, w5.heap.size = bk := ⟨_, rfl⟩
            rw [hbk] at V9
            rw [hbk]
            have HK6 : Hid (Va W6 bk 56 (cT tn5 (.slice ta5 tl5 tc5))) := V9
            have hbw : bo < wr.heap.size := HO.out.lt
            have h5w := HB5.out.size
            have HB66 : Hid (Below w5.heap.size w5 W6) := hb6
            have hsz6 := HB56.out.size
            have g0 := HK6.out.t0
            have g6 := HK6.out.t6
            have r6 := HO6.out.t6
            have r7 := HO6.out.frozen 6
            have HGE : Hid (Ge elT W6 (bo + 1) (.slice av ts.length cv) ts) := HP.out.g.after HB56.out
            clear V9 hb6 hs6 hbk HB HT HR HO
            by_cases hc : tn5.kd = 2
            · have b3 : (tn5.kd == 2) = true := by simpa using hc
              obtain ⟨L, hLL, hRL, hLl⟩ := (kid_put 2 HR5.out).1 hc
              dsimp only at hLL hLl
              have htwo := kids_two HPO2.out (by omega)
              obtain ⟨b5, o5, rfl⟩ := hLL.ex (by omega)
              have HRL : Hid (Rtw w5 (fun b => wr.heap.size ≤ b) (((Fo.cons mn km .nil).plain true).melt 2) L) := by show Rtw _ _ _ _; rw [HP5.out]; exact hRL
              have HLL : Hid (Le elT W6 (some ⟨b5, o5, none⟩) tl5 L) := hLL.after HB66.out
              have HLN : Hid (L.length = tl5) := hLL.1
              have htl5 : tl5 ≤ 200 := by omega
              clear hc hLL hRL hLl htwo hjl
              go_wp2_with (at_builtin; go_loud (refine wpList_appE rfl _ _ _ rfl elT rfl (bo + 1) _ ts rfl HGE.out b5 o5 tl5 tc5 L rfl HLL.out (by omega) (by omega) ?_; intro v8 W8 hg8 hgr8 hob8; have hblk : ∀ c, c < W6.heap.size → (Value.slice av ts.length cv).ownBlock ≠ some c → W8.heap[c]? = W6.heap[c]? := (fun c hc hne => hgr8.block c hc (fun e => hne e.symm)); have hno : ∀ c, c ≤ bo → (Value.slice av ts.length cv).ownBlock ≠ some c := (fun c hc e => by have := HGE.out.block c e; omega); have HVT8 : Hid (Va W8 bo 56 (cT ⟨2, 0, [], 0, 0, 0⟩ (.slice av ts.length cv))) := HO6.out.keptW (hblk bo (by omega) (hno _ (Nat.le_refl _))); have hfr6 := HVT8.out.frozen 6; have hce6 := HVT8.out.t6; have HB8 : Hid (Below w.heap.size w W8) := HB6.out.grown hgr8 HB6.out.size (fun c hc => by have := HGE.out.block c hc; omega); have HT8 : Hid (Va W8 w.heap.size 56 #[.int .i64 1, .int .i64 ks, sv nm, .int .i64 op, .int .i64 un, .int .i64 pl, .slice (some ⟨b, off, none⟩) tl tc]) := HT6.out.keptW (hblk _ (by omega) (hno _ (by omega))); have HRR8 : Hid (Va W8 (w.heap.size + 1) 56 zT) := HRR6.out.keptW (hblk _ (by omega) (hno _ (by omega))); have HBL : Hid (∀ c, c < W6.heap.size → (Value.slice av ts.length cv).ownBlock ≠ some c → W8.heap[c]? = W6.heap[c]?) := hblk; have HO8 : Hid (v8.ownBlock = (Value.slice av ts.length cv).ownBlock ∨ ∃ c, v8.ownBlock = some c ∧ W6.heap.size ≤ c) := (hob8.imp id (fun h => ⟨_, h, Nat.le_refl _⟩)); obtain ⟨a8, c8, e8, -, -, -⟩ := hg8.shape; subst e8; have h9 : (ts ++ L).length = ts.length + tl5 := (by rw [List.length_append, HLN.out]); rw [h9] at hg8 HO8; have HG8 : Hid (Ge elT W8 (bo + 1) (.slice a8 (ts.length + tl5) c8) (ts ++ L)) := hg8; rw [h9]; clear hg8 hgr8 hob8 hblk hno h9))
              go_roundw
              case rel =>
                have h8 : ts.length + tl5 = (ts ++ L).length := by rw [List.length_append, HLN.out]
                have HPN := Pk.next HP.out HKE.out HRL.out hbw HB5.out HB66.out HG8.out HO8.out HBL.out (.slice a8 (ts.length + tl5) c8)
                refine ⟨i + 1, x.app (.cons mn km .nil), r, ts ++ L, a8, c8, by go_num, by omega, ?_, HT8.out.keptW (heap_setCell_other _ _ _ _ (by show w.heap.size ≠ bo; omega)), HRR8.out.keptW (heap_setCell_other _ _ _ _ (by show w.heap.size + 1 ≠ bo; omega)), ?_, HB8.out.setCell (p := ⟨bo, 6, none⟩) (by show w.heap.size ≤ bo; omega) _⟩
                · rw [← h8]; exact HPN
                · rw [← h8]; exact HVT8.out.setT6 _
              case measure => simp [intOf]; omega
            · have b3 : (tn5.kd == 2) = false := by simpa using hc
              have HRL : Hid (Rtw w5 (fun b => wr.heap.size ≤ b) (((Fo.cons mn km .nil).plain true).melt 2) [⟨tn5, ta5, tl5, tc5⟩]) := by show Rtw _ _ _ _; rw [HP5.out]; exact (kid_put 2 HR5.out).2 hc
              have g1 := HK6.out.t1
              have g2 := HK6.out.t2
              have g3 := HK6.out.t3
              have g4 := HK6.out.t4
              have g5 := HK6.out.t5
              have HON : Hid (Le elT (W6.alloc (.cells (cT tn5 (.slice ta5 tl5 tc5)) 56)) (some ⟨W6.heap.size, 0, none⟩) 1 [⟨tn5, ta5, tl5, tc5⟩]) := Le.one (Va.new W6 _ _) rfl
              clear hc hjl
              go_wp2_with (at_builtin; go_loud (refine wpList_appE rfl _ _ _ rfl elT rfl (bo + 1) _ ts rfl (HGE.out.al _) W6.heap.size 0 1 1 [⟨tn5, ta5, tl5, tc5⟩] rfl HON.out (by omega) (by simp; omega) ?_; intro v8 W8 hg8 hgr8 hob8; have hblk : ∀ c, c < W6.heap.size → (Value.slice av ts.length cv).ownBlock ≠ some c → W8.heap[c]? = W6.heap[c]? := (fun c hc hne => (hgr8.block c (by simp; omega) (fun e => hne e.symm)).trans (((Below.refl W6.heap.size W6).alloc (Nat.le_refl _) _).block c hc)); have hno : ∀ c, c ≤ bo → (Value.slice av ts.length cv).ownBlock ≠ some c := (fun c hc e => by have := HGE.out.block c e; omega); have HVT8 : Hid (Va W8 bo 56 (cT ⟨2, 0, [], 0, 0, 0⟩ (.slice av ts.length cv))) := HO6.out.keptW (hblk bo (by omega) (hno _ (Nat.le_refl _))); have hfr6 := HVT8.out.frozen 6; have hce6 := HVT8.out.t6; have HB8 : Hid (Below w.heap.size w W8) := (HB6.out.alloc HB6.out.size _).grown hgr8 (by simp; omega) (fun c hc => by have := HGE.out.block c hc; omega); have HT8 : Hid (Va W8 w.heap.size 56 #[.int .i64 1, .int .i64 ks, sv nm, .int .i64 op, .int .i64 un, .int .i64 pl, .slice (some ⟨b, off, none⟩) tl tc]) := HT6.out.keptW (hblk _ (by omega) (hno _ (by omega))); have HRR8 : Hid (Va W8 (w.heap.size + 1) 56 zT) := HRR6.out.keptW (hblk _ (by omega) (hno _ (by omega))); have HBL : Hid (∀ c, c < W6.heap.size → (Value.slice av ts.length cv).ownBlock ≠ some c → W8.heap[c]? = W6.heap[c]?) := hblk; have HO8 : Hid (v8.ownBlock = (Value.slice av ts.length cv).ownBlock ∨ ∃ c, v8.ownBlock = some c ∧ W6.heap.size ≤ c) := (hob8.imp id (fun h => ⟨_, h, by simp⟩)); obtain ⟨a8, c8, e8, -, -, -⟩ := hg8.shape; subst e8; have h9 : (ts ++ [(⟨tn5, ta5, tl5, tc5⟩ : Tc)]).length = ts.length + 1 := (by rw [List.length_append]; rfl); rw [h9] at hg8 HO8; have HG8 : Hid (Ge elT W8 (bo + 1) (.slice a8 (ts.length + 1) c8) (ts ++ [(⟨tn5, ta5, tl5, tc5⟩ : Tc)])) := hg8; rw [h9]; clear hg8 hgr8 hob8 hblk hno h9))
              go_roundw
              case rel =>
                have h8 : ts.length + 1 = (ts ++ [(⟨tn5, ta5, tl5, tc5⟩ : Tc)]).length := by rw [List.length_append]; rfl
                have HPN := Pk.next HP.out HKE.out HRL.out hbw HB5.out HB66.out HG8.out HO8.out HBL.out (.slice a8 (ts.length + 1) c8)
                refine ⟨i + 1, x.app (.cons mn km .nil), r, ts ++ [⟨tn5, ta5, tl5, tc5⟩], a8, c8, by go_num, by omega, ?_, HT8.out.keptW (heap_setCell_other _ _ _ _ (by show w.heap.size ≠ bo; omega)), HRR8.out.keptW (heap_setCell_other _ _ _ _ (by show w.heap.size + 1 ≠ bo; omega)), ?_, HB8.out.setCell (p := ⟨bo, 6, none⟩) (by show w.heap.size ≤ bo; omega) _⟩
                · rw [← h8]; exact HPN
                · rw [← h8]; exact HVT8.out.setT6 _
              case measure => simp [intOf]; omega
          · have hii : ¬ (i : Int) < tl := by omega
            have hil : i = k.len := by have := HTL.out; omega
            have r1 := HO.out.t1
            have r6 := HO.out.t6
            have f1 := HO.out.frozen 1
            have hbw : bo < wr.heap.size := HO.out.lt
            go_upto_region 17 with fail
            refine stoT1 HO.out _ (Q := fun W => Code.wp _ _ _ _ W) ?_
            intro W7 V7 hk7 hb7 hs7
            have HR7 : Hid (Va W7 (w.heap.size + 1) 56 zT) := HR.out.keptW (hk7 _ (by omega))
            have HB7 : Hid (Below w.heap.size w W7) := hb7 _ _ (by omega) HB.out
            have HK7 : Hid (∀ c, c ≠ bo → W7.heap[c]? = wr.heap[c]?) := hk7
            clear r1 r6 f1 c6 hk7 hb7 hs7 HT HR HO HB hge hi
            have r0 := V7.t0
            have r1 := V7.t1
            have r2 := V7.t2
            have r3 := V7.t3
            have r4 := V7.t4
            have r5 := V7.t5
            have r6 := V7.t6
            have q0 := HR7.out.frozen 0
            have cq0 := HR7.out.t0
            have q1 := HR7.out.frozen 1
            have cq1 := HR7.out.t1
            have q2 := HR7.out.frozen 2
            have cq2 := HR7.out.t2
            have q3 := HR7.out.frozen 3
            have cq3 := HR7.out.t3
            have q4 := HR7.out.frozen 4
            have cq4 := HR7.out.t4
            have q5 := HR7.out.frozen 5
            have cq5 := HR7.out.t5
            have q6 := HR7.out.frozen 6
            have cq6 := HR7.out.t6
            clear V7
            go_wp2_with fail
            refine bodyPost_ret (results_tr rfl rfl (HR7.out.set7 _ _ _ _ _ _ _)) rfl ?_
            refine ⟨below_7 HB7.out (by omega) _ _ _ _ _ _ _, ⟨2, (ts.length : Nat), [], 0, 0, 0⟩, (k.plain true).melt 2, ⟨⟨2, (ts.length : Nat), [], 0, 0, 0⟩, av, ts.length, cv⟩, rfl, ?_, ?_⟩
            · rw [HP.out.lenT hil]; exact plain_12 k true (.inl rfl)
            · exact HP.out.whole hil (by omega) (fun b hb => (fa7 _ _ _ _ _ _ _ _ _ b (by omega)).trans (HK7.out b (by omega))) _
    · cases neg
      · go_enter Tryz.func43, Tryz.ntmps43
        go_upto_region 1 with fail
        refine ent2 w _ _ _ _ (Q := fun W => Code.wp _ _ _ _ W) ?_
        intro W2 hb2 hs2 V2 V4
        have HV2 : Hid (Va W2 w.heap.size 56 #[.int .i64 2, .int .i64 ks, sv nm, .int .i64 op, .int .i64 un, .int .i64 pl, .slice ta tl tc]) := V2
        have HV4 : Hid (Va W2 (w.heap.size + 1) 56 zT) := V4
        have HB2 : Hid (Below w.heap.size w W2) := hb2
        have hw2 : w.heap.size + 1 < W2.heap.size := by omega
        have z0 := V2.t0
        have z1 := V2.t1
        have z2 := V2.t2
        have z3 := V2.t3
        have z4 := V2.t4
        have z5 := V2.t5
        have z6 := V2.t6
        clear V2 V4 hb2 hs2
        go_upto_region 2 with fail
        refine ent1 W2 _ _ (Q := fun W => Code.wp _ _ _ _ W) ?_
        intro W3 hb3 hs3 V5
        have HV3 : Hid (Va W3 w.heap.size 56 #[.int .i64 2, .int .i64 ks, sv nm, .int .i64 op, .int .i64 un, .int .i64 pl, .slice ta tl tc]) := HV2.out.after hb3
        have HVR : Hid (Va W3 (w.heap.size + 1) 56 zT) := HV4.out.after hb3
        have HVN : Hid (Va W3 W2.heap.size 48 #[.int .i64 2, .int .i64 ks, sv nm, .int .i64 op, .int .i64 un, .int .i64 pl]) := V5
        have HB3 : Hid (Below w.heap.size w W3) := step HB2.out hb3
        have hw3 : W2.heap.size < W3.heap.size := by omega
        clear V5 hb3 hs3 HV2 HV4 HB2 z0 z1 z2 z3 z4 z5 z6
        have n0 := HVN.out.n0
        have n1 := HVN.out.n1
        have n2 := HVN.out.n2
        have n3 := HVN.out.n3
        have n4 := HVN.out.n4
        have n5 := HVN.out.n5
        have xw1 : IntKind.i64.wrap (1 : Int) = 1 := by decide
        have xw2 : IntKind.i64.wrap (2 : Int) = 2 := by decide
        go_upto_region 9 with fail
        refine ent1 W3 _ _ (Q := fun W => Code.wp _ _ _ _ W) ?_
        intro W4 hb4 hs4 V7
        obtain ⟨bo, hbo⟩ : ∃ bo, W3.heap.size = bo := ⟨_, rfl⟩
        have HB4 : Hid (Below w.heap.size w W4) := step HB3.out hb4
        have HT4 : Hid (Va W4 w.heap.size 56 #[.int .i64 2, .int .i64 ks, sv nm, .int .i64 op, .int .i64 un, .int .i64 pl, .slice ta tl tc]) := HV3.out.after hb4
        have HR4 : Hid (Va W4 (w.heap.size + 1) 56 zT) := HVR.out.after hb4
        rw [hbo] at V7 hw3
        rw [hbo]
        have HO4 : Hid (Va W4 bo 56 (cT ⟨2, 0, [], 0, 0, 0⟩ (.slice none 0 0))) := V7
        have hwb : w.heap.size + 1 < bo := by omega
        clear V7 hb4 hs4 hbo HB3 HV3 HVR HVN n0 n1 n2 n3 n4 n5 xw1 xw2 hw2 hw3
        go_wp2_with fail
        go_loopw [8, 9] (fun v8 _ wr => ∃ (i : Nat) (x y : Fo) (ts : List Tc) (av : Option Addr) (cv : Nat), v8 = .int .i64 i ∧ i ≤ tl ∧ Hid (Pk k false 2 bo wr x y i ts (.slice av ts.length cv)) ∧ Hid (Va wr w.heap.size 56 #[.int .i64 2, .int .i64 ks, sv nm, .int .i64 op, .int .i64 un, .int .i64 pl, .slice ta tl tc]) ∧ Hid (Va wr (w.heap.size + 1) 56 zT) ∧ Hid (Va wr bo 56 (cT ⟨2, 0, [], 0, 0, 0⟩ (.slice av ts.length cv))) ∧ Hid (Below w.heap.size w wr)) (fun v8 _ _ => (tl - (intOf v8).toNat : Nat))
        case atStart => exact ⟨0, .nil, k, [], none, 0, rfl, Nat.zero_le _, Pk.start, HT4.out, HR4.out, HO4.out, HB4.out⟩
        case round =>
          clear HT4 HR4 HO4 HB4
          obtain ⟨i, x, y, ts, av, cv, rfl, hi, HP, HT, HR, HO, HB⟩ := hrel
          have hfew := HP.out.few HKL.out
          have c6 := HT.out.t6
          rcases Nat.lt_or_ge i tl with hlt | hge
          · have hii : (i : Int) < tl := by omega
            obtain ⟨m, km, r, t, hk⟩ := kid_at HK.out (i := i) (by have := HTL.out; omega) HP.out.e HP.out.l
            obtain ⟨mn, ma, ml, mc⟩ := t
            obtain rfl : mn = m := hk.fn
            obtain ⟨b, off, rfl⟩ := HL.out.ex (by omega)
            have kk : Ct7 wr b (off + i * 7) mn ma ml mc := ct7_of (HL.out.after HB.out) i hlt hk.fg
            have k0 := kk.c0
            have k1 := kk.c1
            have k2 := kk.c2
            have k3 := kk.c3
            have k4 := kk.c4
            have k5 := kk.c5
            have k6 := kk.c6
            have hd16 := HOK.out.1.2.2.1
            have hkk : k.Ok wdB 2 (d + 1) := HOK.out.1.2.2.2.2
            have hkl := HKL.out
            rw [hk.fe] at hkk hkl
            have hml : km.flat.length ≤ 64 := by
              rw [Fo.flat_app] at hkl
              simp only [Fo.flat, List.length_append, List.length_cons] at hkl
              omega
            have D : Calls Tryz.prog 43 #[tvT ⟨mn, ma, ml, mc⟩, .bool false] wr (PnE mn km false wr) := HIH.out (d + 1) (by omega) (by omega) mn km _ false _ wr (ok_oneP hkk.right) hml (Rtw.imp (fun b' hb' hp => ⟨hp, HB.out.block b' hb'⟩) hk.ft)
            dsimp only [tvT, cT] at D
            have HKE : Hid (k = x.app (.cons mn km r)) := hk.fe
            have HPO : Hid (((Fo.cons mn km .nil).plain false).Ok wdB 0 (d + 1)) := plain_ok _ false _ _ (ok_oneP hkk.right)
            have HPL : Hid (((Fo.cons mn km .nil).plain false).flat.length ≤ 200) := by
              have h9 := plain_size (.cons mn km .nil) false
              simp only [Fo.flat, List.append_nil, List.length_cons] at h9
              show _ ≤ _; omega
            clear kk hk hkk hkl hml hd16
            go_wp2_with fail
            refine D.mono ?_
            rintro e w5 ⟨hb5, m5, j5, ⟨tn5, ta5, tl5, tc5⟩, rfl, hp5, hr5⟩
            have htn5 : tn5 = m5 := by
              obtain ⟨t0, ts0, kts0, e0, h0, -⟩ := hr5
              cases e0; exact h0
            subst htn5
            have hjl : j5.len ≤ 200 := by
              have h1 := HPL.out
              rw [hp5] at h1
              have h2 := Fo.len_flat j5
              simp only [Fo.flat, List.append_nil, List.length_cons] at h1
              omega
            have HPO2 : Hid ((Fo.cons tn5 j5 .nil).Ok wdB 0 (d + 1)) := by have := HPO.out; rw [hp5] at this; exact this
            have HP5 : Hid ((Fo.cons mn km .nil).plain false = .cons tn5 j5 .nil) := hp5
            have HR5 : Hid (Rtw w5 (fun b => wr.heap.size ≤ b) (.cons tn5 j5 .nil) [⟨tn5, ta5, tl5, tc5⟩]) := hr5
            have HB5 : Hid (Below wr.heap.size wr w5) := hb5
            clear k0 k1 k2 k3 k4 k5 k6 c6 D hb5 hp5 hr5 HPO HPL
            go_upto_region 13 with fail
            refine ent1 w5 _ _ (Q := fun W => Code.wp _ _ _ _ W) ?_
            intro W6 hb6 hs6 V9
            have HB56 : Hid (Below wr.heap.size wr W6) := step HB5.out hb6
            have HB6 : Hid (Below w.heap.size w W6) := step HB.out HB56.out
            have HT6 : Hid (Va W6 w.heap.size 56 #[.int .i64 2, .int .i64 ks, sv nm, .int .i64 op, .int .i64 un, .int .i64 pl, .slice (some ⟨b, off, none⟩) tl tc]) := HT.out.after HB56.out
            have HRR6 : Hid (Va W6 (w.heap.size + 1) 56 zT) := HR.out.after HB56.out
            have HO6 : Hid (Va W6 bo 56 (cT ⟨2, 0, [], 0, 0, 0⟩ (.slice av ts.length cv))) := HO.out.after HB56.out
            obtain ⟨bk, hbk⟩ : ∃ bk, w5.heap.size = bk := ⟨_, rfl⟩
            rw [hbk] at V9
            rw [hbk]
            have HK6 : Hid (Va W6 bk 56 (cT tn5 (.slice ta5 tl5 tc5))) := V9
            have hbw : bo < wr.heap.size := HO.out.lt
            have h5w := HB5.out.size
            have HB66 : Hid (Below w5.heap.size w5 W6) := hb6
            have hsz6 := HB56.out.size
            have g0 := HK6.out.t0
            have g6 := HK6.out.t6
            have r6 := HO6.out.t6
            have r7 := HO6.out.frozen 6
            have HGE : Hid (Ge elT W6 (bo + 1) (.slice av ts.length cv) ts) := HP.out.g.after HB56.out
            clear V9 hb6 hs6 hbk HB HT HR HO
            by_cases hc : tn5.kd = 2
            · have b3 : (tn5.kd == 2) = true := by simpa using hc
              obtain ⟨L, hLL, hRL, hLl⟩ := (kid_put 2 HR5.out).1 hc
              dsimp only at hLL hLl
              have htwo := kids_two HPO2.out (by omega)
              obtain ⟨b5, o5, rfl⟩ := hLL.ex (by omega)
              have HRL : Hid (Rtw w5 (fun b => wr.heap.size ≤ b) (((Fo.cons mn km .nil).plain false).melt 2) L) := by show Rtw _ _ _ _; rw [HP5.out]; exact hRL
              have HLL : Hid (Le elT W6 (some ⟨b5, o5, none⟩) tl5 L) := hLL.after HB66.out
              have HLN : Hid (L.length = tl5) := hLL.1
              have htl5 : tl5 ≤ 200 := by omega
              clear hc hLL hRL hLl htwo hjl
              go_wp2_with (at_builtin; go_loud (refine wpList_appE rfl _ _ _ rfl elT rfl (bo + 1) _ ts rfl HGE.out b5 o5 tl5 tc5 L rfl HLL.out (by omega) (by omega) ?_; intro v8 W8 hg8 hgr8 hob8; have hblk : ∀ c, c < W6.heap.size → (Value.slice av ts.length cv).ownBlock ≠ some c → W8.heap[c]? = W6.heap[c]? := (fun c hc hne => hgr8.block c hc (fun e => hne e.symm)); have hno : ∀ c, c ≤ bo → (Value.slice av ts.length cv).ownBlock ≠ some c := (fun c hc e => by have := HGE.out.block c e; omega); have HVT8 : Hid (Va W8 bo 56 (cT ⟨2, 0, [], 0, 0, 0⟩ (.slice av ts.length cv))) := HO6.out.keptW (hblk bo (by omega) (hno _ (Nat.le_refl _))); have hfr6 := HVT8.out.frozen 6; have hce6 := HVT8.out.t6; have HB8 : Hid (Below w.heap.size w W8) := HB6.out.grown hgr8 HB6.out.size (fun c hc => by have := HGE.out.block c hc; omega); have HT8 : Hid (Va W8 w.heap.size 56 #[.int .i64 2, .int .i64 ks, sv nm, .int .i64 op, .int .i64 un, .int .i64 pl, .slice (some ⟨b, off, none⟩) tl tc]) := HT6.out.keptW (hblk _ (by omega) (hno _ (by omega))); have HRR8 : Hid (Va W8 (w.heap.size + 1) 56 zT) := HRR6.out.keptW (hblk _ (by omega) (hno _ (by omega))); have HBL : Hid (∀ c, c < W6.heap.size → (Value.slice av ts.length cv).ownBlock ≠ some c → W8.heap[c]? = W6.heap[c]?) := hblk; have HO8 : Hid (v8.ownBlock = (Value.slice av ts.length cv).ownBlock ∨ ∃ c, v8.ownBlock = some c ∧ W6.heap.size ≤ c) := (hob8.imp id (fun h => ⟨_, h, Nat.le_refl _⟩)); obtain ⟨a8, c8, e8, -, -, -⟩ := hg8.shape; subst e8; have h9 : (ts ++ L).length = ts.length + tl5 := (by rw [List.length_append, HLN.out]); rw [h9] at hg8 HO8; have HG8 : Hid (Ge elT W8 (bo + 1) (.slice a8 (ts.length + tl5) c8) (ts ++ L)) := hg8; rw [h9]; clear hg8 hgr8 hob8 hblk hno h9))
              go_roundw
              case rel =>
                have h8 : ts.length + tl5 = (ts ++ L).length := by rw [List.length_append, HLN.out]
                have HPN := Pk.next HP.out HKE.out HRL.out hbw HB5.out HB66.out HG8.out HO8.out HBL.out (.slice a8 (ts.length + tl5) c8)
                refine ⟨i + 1, x.app (.cons mn km .nil), r, ts ++ L, a8, c8, by go_num, by omega, ?_, HT8.out.keptW (heap_setCell_other _ _ _ _ (by show w.heap.size ≠ bo; omega)), HRR8.out.keptW (heap_setCell_other _ _ _ _ (by show w.heap.size + 1 ≠ bo; omega)), ?_, HB8.out.setCell (p := ⟨bo, 6, none⟩) (by show w.heap.size ≤ bo; omega) _⟩
                · rw [← h8]; exact HPN
                · rw [← h8]; exact HVT8.out.setT6 _
              case measure => simp [intOf]; omega
            · have b3 : (tn5.kd == 2) = false := by simpa using hc
              have HRL : Hid (Rtw w5 (fun b => wr.heap.size ≤ b) (((Fo.cons mn km .nil).plain false).melt 2) [⟨tn5, ta5, tl5, tc5⟩]) := by show Rtw _ _ _ _; rw [HP5.out]; exact (kid_put 2 HR5.out).2 hc
              have g1 := HK6.out.t1
              have g2 := HK6.out.t2
              have g3 := HK6.out.t3
              have g4 := HK6.out.t4
              have g5 := HK6.out.t5
              have HON : Hid (Le elT (W6.alloc (.cells (cT tn5 (.slice ta5 tl5 tc5)) 56)) (some ⟨W6.heap.size, 0, none⟩) 1 [⟨tn5, ta5, tl5, tc5⟩]) := Le.one (Va.new W6 _ _) rfl
              clear hc hjl
              go_wp2_with (at_builtin; go_loud (refine wpList_appE rfl _ _ _ rfl elT rfl (bo + 1) _ ts rfl (HGE.out.al _) W6.heap.size 0 1 1 [⟨tn5, ta5, tl5, tc5⟩] rfl HON.out (by omega) (by simp; omega) ?_; intro v8 W8 hg8 hgr8 hob8; have hblk : ∀ c, c < W6.heap.size → (Value.slice av ts.length cv).ownBlock ≠ some c → W8.heap[c]? = W6.heap[c]? := (fun c hc hne => (hgr8.block c (by simp; omega) (fun e => hne e.symm)).trans (((Below.refl W6.heap.size W6).alloc (Nat.le_refl _) _).block c hc)); have hno : ∀ c, c ≤ bo → (Value.slice av ts.length cv).ownBlock ≠ some c := (fun c hc e => by have := HGE.out.block c e; omega); have HVT8 : Hid (Va W8 bo 56 (cT ⟨2, 0, [], 0, 0, 0⟩ (.slice av ts.length cv))) := HO6.out.keptW (hblk bo (by omega) (hno _ (Nat.le_refl _))); have hfr6 := HVT8.out.frozen 6; have hce6 := HVT8.out.t6; have HB8 : Hid (Below w.heap.size w W8) := (HB6.out.alloc HB6.out.size _).grown hgr8 (by simp; omega) (fun c hc => by have := HGE.out.block c hc; omega); have HT8 : Hid (Va W8 w.heap.size 56 #[.int .i64 2, .int .i64 ks, sv nm, .int .i64 op, .int .i64 un, .int .i64 pl, .slice (some ⟨b, off, none⟩) tl tc]) := HT6.out.keptW (hblk _ (by omega) (hno _ (by omega))); have HRR8 : Hid (Va W8 (w.heap.size + 1) 56 zT) := HRR6.out.keptW (hblk _ (by omega) (hno _ (by omega))); have HBL : Hid (∀ c, c < W6.heap.size → (Value.slice av ts.length cv).ownBlock ≠ some c → W8.heap[c]? = W6.heap[c]?) := hblk; have HO8 : Hid (v8.ownBlock = (Value.slice av ts.length cv).ownBlock ∨ ∃ c, v8.ownBlock = some c ∧ W6.heap.size ≤ c) := (hob8.imp id (fun h => ⟨_, h, by simp⟩)); obtain ⟨a8, c8, e8, -, -, -⟩ := hg8.shape; subst e8; have h9 : (ts ++ [(⟨tn5, ta5, tl5, tc5⟩ : Tc)]).length = ts.length + 1 := (by rw [List.length_append]; rfl); rw [h9] at hg8 HO8; have HG8 : Hid (Ge elT W8 (bo + 1) (.slice a8 (ts.length + 1) c8) (ts ++ [(⟨tn5, ta5, tl5, tc5⟩ : Tc)])) := hg8; rw [h9]; clear hg8 hgr8 hob8 hblk hno h9))
              go_roundw
              case rel =>
                have h8 : ts.length + 1 = (ts ++ [(⟨tn5, ta5, tl5, tc5⟩ : Tc)]).length := by rw [List.length_append]; rfl
                have HPN := Pk.next HP.out HKE.out HRL.out hbw HB5.out HB66.out HG8.out HO8.out HBL.out (.slice a8 (ts.length + 1) c8)
                refine ⟨i + 1, x.app (.cons mn km .nil), r, ts ++ [⟨tn5, ta5, tl5, tc5⟩], a8, c8, by go_num, by omega, ?_, HT8.out.keptW (heap_setCell_other _ _ _ _ (by show w.heap.size ≠ bo; omega)), HRR8.out.keptW (heap_setCell_other _ _ _ _ (by show w.heap.size + 1 ≠ bo; omega)), ?_, HB8.out.setCell (p := ⟨bo, 6, none⟩) (by show w.heap.size ≤ bo; omega) _⟩
                · rw [← h8]; exact HPN
                · rw [← h8]; exact HVT8.out.setT6 _
              case measure => simp [intOf]; omega
          · have hii : ¬ (i : Int) < tl := by omega
            have hil : i = k.len := by have := HTL.out; omega
            have r1 := HO.out.t1
            have r6 := HO.out.t6
            have f1 := HO.out.frozen 1
            have hbw : bo < wr.heap.size := HO.out.lt
            go_upto_region 17 with fail
            refine stoT1 HO.out _ (Q := fun W => Code.wp _ _ _ _ W) ?_
            intro W7 V7 hk7 hb7 hs7
            have HR7 : Hid (Va W7 (w.heap.size + 1) 56 zT) := HR.out.keptW (hk7 _ (by omega))
            have HB7 : Hid (Below w.heap.size w W7) := hb7 _ _ (by omega) HB.out
            have HK7 : Hid (∀ c, c ≠ bo → W7.heap[c]? = wr.heap[c]?) := hk7
            clear r1 r6 f1 c6 hk7 hb7 hs7 HT HR HO HB hge hi
            have r0 := V7.t0
            have r1 := V7.t1
            have r2 := V7.t2
            have r3 := V7.t3
            have r4 := V7.t4
            have r5 := V7.t5
            have r6 := V7.t6
            have q0 := HR7.out.frozen 0
            have cq0 := HR7.out.t0
            have q1 := HR7.out.frozen 1
            have cq1 := HR7.out.t1
            have q2 := HR7.out.frozen 2
            have cq2 := HR7.out.t2
            have q3 := HR7.out.frozen 3
            have cq3 := HR7.out.t3
            have q4 := HR7.out.frozen 4
            have cq4 := HR7.out.t4
            have q5 := HR7.out.frozen 5
            have cq5 := HR7.out.t5
            have q6 := HR7.out.frozen 6
            have cq6 := HR7.out.t6
            clear V7
            go_wp2_with fail
            refine bodyPost_ret (results_tr rfl rfl (HR7.out.set7 _ _ _ _ _ _ _)) rfl ?_
            refine ⟨below_7 HB7.out (by omega) _ _ _ _ _ _ _, ⟨2, (ts.length : Nat), [], 0, 0, 0⟩, (k.plain false).melt 2, ⟨⟨2, (ts.length : Nat), [], 0, 0, 0⟩, av, ts.length, cv⟩, rfl, ?_, ?_⟩
            · rw [HP.out.lenT hil]; exact plain_12 k false (.inr rfl)
            · exact HP.out.whole hil (by omega) (fun b hb => (fa7 _ _ _ _ _ _ _ _ _ b (by omega)).trans (HK7.out b (by omega))) _
      · go_enter Tryz.func43, Tryz.ntmps43
        go_upto_region 1 with fail
        refine ent2 w _ _ _ _ (Q := fun W => Code.wp _ _ _ _ W) ?_
        intro W2 hb2 hs2 V2 V4
        have HV2 : Hid (Va W2 w.heap.size 56 #[.int .i64 2, .int .i64 ks, sv nm, .int .i64 op, .int .i64 un, .int .i64 pl, .slice ta tl tc]) := V2
        have HV4 : Hid (Va W2 (w.heap.size + 1) 56 zT) := V4
        have HB2 : Hid (Below w.heap.size w W2) := hb2
        have hw2 : w.heap.size + 1 < W2.heap.size := by omega
        have z0 := V2.t0
        have z1 := V2.t1
        have z2 := V2.t2
        have z3 := V2.t3
        have z4 := V2.t4
        have z5 := V2.t5
        have z6 := V2.t6
        clear V2 V4 hb2 hs2
        go_upto_region 2 with fail
        refine ent1 W2 _ _ (Q := fun W => Code.wp _ _ _ _ W) ?_
        intro W3 hb3 hs3 V5
        have HV3 : Hid (Va W3 w.heap.size 56 #[.int .i64 2, .int .i64 ks, sv nm, .int .i64 op, .int .i64 un, .int .i64 pl, .slice ta tl tc]) := HV2.out.after hb3
        have HVR : Hid (Va W3 (w.heap.size + 1) 56 zT) := HV4.out.after hb3
        have HVN : Hid (Va W3 W2.heap.size 48 #[.int .i64 2, .int .i64 ks, sv nm, .int .i64 op, .int .i64 un, .int .i64 pl]) := V5
        have HB3 : Hid (Below w.heap.size w W3) := step HB2.out hb3
        have hw3 : W2.heap.size < W3.heap.size := by omega
        clear V5 hb3 hs3 HV2 HV4 HB2 z0 z1 z2 z3 z4 z5 z6
        have n0 := HVN.out.n0
        have n1 := HVN.out.n1
        have n2 := HVN.out.n2
        have n3 := HVN.out.n3
        have n4 := HVN.out.n4
        have n5 := HVN.out.n5
        have xw1 : IntKind.i64.wrap (1 : Int) = 1 := by decide
        have xw2 : IntKind.i64.wrap (2 : Int) = 2 := by decide
        go_upto_region 9 with fail
        refine ent1 W3 _ _ (Q := fun W => Code.wp _ _ _ _ W) ?_
        intro W4 hb4 hs4 V7
        obtain ⟨bo, hbo⟩ : ∃ bo, W3.heap.size = bo := ⟨_, rfl⟩
        have HB4 : Hid (Below w.heap.size w W4) := step HB3.out hb4
        have HT4 : Hid (Va W4 w.heap.size 56 #[.int .i64 2, .int .i64 ks, sv nm, .int .i64 op, .int .i64 un, .int .i64 pl, .slice ta tl tc]) := HV3.out.after hb4
        have HR4 : Hid (Va W4 (w.heap.size + 1) 56 zT) := HVR.out.after hb4
        rw [hbo] at V7 hw3
        rw [hbo]
        have HO4 : Hid (Va W4 bo 56 (cT ⟨1, 0, [], 0, 0, 0⟩ (.slice none 0 0))) := V7
        have hwb : w.heap.size + 1 < bo := by omega
        clear V7 hb4 hs4 hbo HB3 HV3 HVR HVN n0 n1 n2 n3 n4 n5 xw1 xw2 hw2 hw3
        go_wp2_with fail
        go_loopw [8, 9] (fun v8 _ wr => ∃ (i : Nat) (x y : Fo) (ts : List Tc) (av : Option Addr) (cv : Nat), v8 = .int .i64 i ∧ i ≤ tl ∧ Hid (Pk k true 1 bo wr x y i ts (.slice av ts.length cv)) ∧ Hid (Va wr w.heap.size 56 #[.int .i64 2, .int .i64 ks, sv nm, .int .i64 op, .int .i64 un, .int .i64 pl, .slice ta tl tc]) ∧ Hid (Va wr (w.heap.size + 1) 56 zT) ∧ Hid (Va wr bo 56 (cT ⟨1, 0, [], 0, 0, 0⟩ (.slice av ts.length cv))) ∧ Hid (Below w.heap.size w wr)) (fun v8 _ _ => (tl - (intOf v8).toNat : Nat))
        case atStart => exact ⟨0, .nil, k, [], none, 0, rfl, Nat.zero_le _, Pk.start, HT4.out, HR4.out, HO4.out, HB4.out⟩
        case round =>
          clear HT4 HR4 HO4 HB4
          obtain ⟨i, x, y, ts, av, cv, rfl, hi, HP, HT, HR, HO, HB⟩ := hrel
          have hfew := HP.out.few HKL.out
          have c6 := HT.out.t6
          rcases Nat.lt_or_ge i tl with hlt | hge
          · have hii : (i : Int) < tl := by omega
            obtain ⟨m, km, r, t, hk⟩ := kid_at HK.out (i := i) (by have := HTL.out; omega) HP.out.e HP.out.l
            obtain ⟨mn, ma, ml, mc⟩ := t
            obtain rfl : mn = m := hk.fn
            obtain ⟨b, off, rfl⟩ := HL.out.ex (by omega)
            have kk : Ct7 wr b (off + i * 7) mn ma ml mc := ct7_of (HL.out.after HB.out) i hlt hk.fg
            have k0 := kk.c0
            have k1 := kk.c1
            have k2 := kk.c2
            have k3 := kk.c3
            have k4 := kk.c4
            have k5 := kk.c5
            have k6 := kk.c6
            have hd16 := HOK.out.1.2.2.1
            have hkk : k.Ok wdB 2 (d + 1) := HOK.out.1.2.2.2.2
            have hkl := HKL.out
            rw [hk.fe] at hkk hkl
            have hml : km.flat.length ≤ 64 := by
              rw [Fo.flat_app] at hkl
              simp only [Fo.flat, List.length_append, List.length_cons] at hkl
              omega
            have D : Calls Tryz.prog 43 #[tvT ⟨mn, ma, ml, mc⟩, .bool true] wr (PnE mn km true wr) := HIH.out (d + 1) (by omega) (by omega) mn km _ true _ wr (ok_oneP hkk.right) hml (Rtw.imp (fun b' hb' hp => ⟨hp, HB.out.block b' hb'⟩) hk.ft)
            dsimp only [tvT, cT] at D
            have HKE : Hid (k = x.app (.cons mn km r)) := hk.fe
            have HPO : Hid (((Fo.cons mn km .nil).plain true).Ok wdB 0 d) := plain_ok _ true _ _ (ok_oneP hkk.right)
            have HPL : Hid (((Fo.cons mn km .nil).plain true).flat.length ≤ 200) := by
              have h9 := plain_size (.cons mn km .nil) true
              simp only [Fo.flat, List.append_nil, List.length_cons] at h9
              show _ ≤ _; omega
            clear kk hk hkk hkl hml hd16
            go_wp2_with fail
            refine D.mono ?_
            rintro e w5 ⟨hb5, m5, j5, ⟨tn5, ta5, tl5, tc5⟩, rfl, hp5, hr5⟩
            have htn5 : tn5 = m5 := by
              obtain ⟨t0, ts0, kts0, e0, h0, -⟩ := hr5
              cases e0; exact h0
            subst htn5
            have hjl : j5.len ≤ 200 := by
              have h1 := HPL.out
              rw [hp5] at h1
              have h2 := Fo.len_flat j5
              simp only [Fo.flat, List.append_nil, List.length_cons] at h1
              omega
            have HPO2 : Hid ((Fo.cons tn5 j5 .nil).Ok wdB 0 d) := by have := HPO.out; rw [hp5] at this; exact this
            have HP5 : Hid ((Fo.cons mn km .nil).plain true = .cons tn5 j5 .nil) := hp5
            have HR5 : Hid (Rtw w5 (fun b => wr.heap.size ≤ b) (.cons tn5 j5 .nil) [⟨tn5, ta5, tl5, tc5⟩]) := hr5
            have HB5 : Hid (Below wr.heap.size wr w5) := hb5
            clear k0 k1 k2 k3 k4 k5 k6 c6 D hb5 hp5 hr5 HPO HPL
            go_upto_region 13 with fail
            refine ent1 w5 _ _ (Q := fun W => Code.wp _ _ _ _ W) ?_
            intro W6 hb6 hs6 V9
            have HB56 : Hid (Below wr.heap.size wr W6) := step HB5.out hb6
            have HB6 : Hid (Below w.heap.size w W6) := step HB.out HB56.out
            have HT6 : Hid (Va W6 w.heap.size 56 #[.int .i64 2, .int .i64 ks, sv nm, .int .i64 op, .int .i64 un, .int .i64 pl, .slice (some ⟨b, off, none⟩) tl tc]) := HT.out.after HB56.out
            have HRR6 : Hid (Va W6 (w.heap.size + 1) 56 zT) := HR.out.after HB56.out
            have HO6 : Hid (Va W6 bo 56 (cT ⟨1, 0, [], 0, 0, 0⟩ (.slice av ts.length cv))) := HO.out.after HB56.out
            obtain ⟨bk, hbk⟩ : ∃ bk, w5.heap.size = bk := ⟨_, rfl⟩
            rw [hbk] at V9
            rw [hbk]
            have HK6 : Hid (Va W6 bk 56 (cT tn5 (.slice ta5 tl5 tc5))) := V9
            have hbw : bo < wr.heap.size := HO.out.lt
            have h5w := HB5.out.size
            have HB66 : Hid (Below w5.heap.size w5 W6) := hb6
            have hsz6 := HB56.out.size
            have g0 := HK6.out.t0
            have g6 := HK6.out.t6
            have r6 := HO6.out.t6
            have r7 := HO6.out.frozen 6
            have HGE : Hid (Ge elT W6 (bo + 1) (.slice av ts.length cv) ts) := HP.out.g.after HB56.out
            clear V9 hb6 hs6 hbk HB HT HR HO
            by_cases hc : tn5.kd = 1
            · have b3 : (tn5.kd == 1) = true := by simpa using hc
              obtain ⟨L, hLL, hRL, hLl⟩ := (kid_put 1 HR5.out).1 hc
              dsimp only at hLL hLl
              have htwo := kids_two HPO2.out (by omega)
              obtain ⟨b5, o5, rfl⟩ := hLL.ex (by omega)
              have HRL : Hid (Rtw w5 (fun b => wr.heap.size ≤ b) (((Fo.cons mn km .nil).plain true).melt 1) L) := by show Rtw _ _ _ _; rw [HP5.out]; exact hRL
              have HLL : Hid (Le elT W6 (some ⟨b5, o5, none⟩) tl5 L) := hLL.after HB66.out
              have HLN : Hid (L.length = tl5) := hLL.1
              have htl5 : tl5 ≤ 200 := by omega
              clear hc hLL hRL hLl htwo hjl
              go_wp2_with (at_builtin; go_loud (refine wpList_appE rfl _ _ _ rfl elT rfl (bo + 1) _ ts rfl HGE.out b5 o5 tl5 tc5 L rfl HLL.out (by omega) (by omega) ?_; intro v8 W8 hg8 hgr8 hob8; have hblk : ∀ c, c < W6.heap.size → (Value.slice av ts.length cv).ownBlock ≠ some c → W8.heap[c]? = W6.heap[c]? := (fun c hc hne => hgr8.block c hc (fun e => hne e.symm)); have hno : ∀ c, c ≤ bo → (Value.slice av ts.length cv).ownBlock ≠ some c := (fun c hc e => by have := HGE.out.block c e; omega); have HVT8 : Hid (Va W8 bo 56 (cT ⟨1, 0, [], 0, 0, 0⟩ (.slice av ts.length cv))) := HO6.out.keptW (hblk bo (by omega) (hno _ (Nat.le_refl _))); have hfr6 := HVT8.out.frozen 6; have hce6 := HVT8.out.t6; have HB8 : Hid (Below w.heap.size w W8) := HB6.out.grown hgr8 HB6.out.size (fun c hc => by have := HGE.out.block c hc; omega); have HT8 : Hid (Va W8 w.heap.size 56 #[.int .i64 2, .int .i64 ks, sv nm, .int .i64 op, .int .i64 un, .int .i64 pl, .slice (some ⟨b, off, none⟩) tl tc]) := HT6.out.keptW (hblk _ (by omega) (hno _ (by omega))); have HRR8 : Hid (Va W8 (w.heap.size + 1) 56 zT) := HRR6.out.keptW (hblk _ (by omega) (hno _ (by omega))); have HBL : Hid (∀ c, c < W6.heap.size → (Value.slice av ts.length cv).ownBlock ≠ some c → W8.heap[c]? = W6.heap[c]?) := hblk; have HO8 : Hid (v8.ownBlock = (Value.slice av ts.length cv).ownBlock ∨ ∃ c, v8.ownBlock = some c ∧ W6.heap.size ≤ c) := (hob8.imp id (fun h => ⟨_, h, Nat.le_refl _⟩)); obtain ⟨a8, c8, e8, -, -, -⟩ := hg8.shape; subst e8; have h9 : (ts ++ L).length = ts.length + tl5 := (by rw [List.length_append, HLN.out]); rw [h9] at hg8 HO8; have HG8 : Hid (Ge elT W8 (bo + 1) (.slice a8 (ts.length + tl5) c8) (ts ++ L)) := hg8; rw [h9]; clear hg8 hgr8 hob8 hblk hno h9))
              go_roundw
              case rel =>
                have h8 : ts.length + tl5 = (ts ++ L).length := by rw [List.length_append, HLN.out]
                have HPN := Pk.next HP.out HKE.out HRL.out hbw HB5.out HB66.out HG8.out HO8.out HBL.out (.slice a8 (ts.length + tl5) c8)
                refine ⟨i + 1, x.app (.cons mn km .nil), r, ts ++ L, a8, c8, by go_num, by omega, ?_, HT8.out.keptW (heap_setCell_other _ _ _ _ (by show w.heap.size ≠ bo; omega)), HRR8.out.keptW (heap_setCell_other _ _ _ _ (by show w.heap.size + 1 ≠ bo; omega)), ?_, HB8.out.setCell (p := ⟨bo, 6, none⟩) (by show w.heap.size ≤ bo; omega) _⟩
                · rw [← h8]; exact HPN
                · rw [← h8]; exact HVT8.out.setT6 _
              case measure => simp [intOf]; omega
            · have b3 : (tn5.kd == 1) = false := by simpa using hc
              have HRL : Hid (Rtw w5 (fun b => wr.heap.size ≤ b) (((Fo.cons mn km .nil).plain true).melt 1) [⟨tn5, ta5, tl5, tc5⟩]) := by show Rtw _ _ _ _; rw [HP5.out]; exact (kid_put 1 HR5.out).2 hc
              have g1 := HK6.out.t1
              have g2 := HK6.out.t2
              have g3 := HK6.out.t3
              have g4 := HK6.out.t4
              have g5 := HK6.out.t5
              have HON : Hid (Le elT (W6.alloc (.cells (cT tn5 (.slice ta5 tl5 tc5)) 56)) (some ⟨W6.heap.size, 0, none⟩) 1 [⟨tn5, ta5, tl5, tc5⟩]) := Le.one (Va.new W6 _ _) rfl
              clear hc hjl
              go_wp2_with (at_builtin; go_loud (refine wpList_appE rfl _ _ _ rfl elT rfl (bo + 1) _ ts rfl (HGE.out.al _) W6.heap.size 0 1 1 [⟨tn5, ta5, tl5, tc5⟩] rfl HON.out (by omega) (by simp; omega) ?_; intro v8 W8 hg8 hgr8 hob8; have hblk : ∀ c, c < W6.heap.size → (Value.slice av ts.length cv).ownBlock ≠ some c → W8.heap[c]? = W6.heap[c]? := (fun c hc hne => (hgr8.block c (by simp; omega) (fun e => hne e.symm)).trans (((Below.refl W6.heap.size W6).alloc (Nat.le_refl _) _).block c hc)); have hno : ∀ c, c ≤ bo → (Value.slice av ts.length cv).ownBlock ≠ some c := (fun c hc e => by have := HGE.out.block c e; omega); have HVT8 : Hid (Va W8 bo 56 (cT ⟨1, 0, [], 0, 0, 0⟩ (.slice av ts.length cv))) := HO6.out.keptW (hblk bo (by omega) (hno _ (Nat.le_refl _))); have hfr6 := HVT8.out.frozen 6; have hce6 := HVT8.out.t6; have HB8 : Hid (Below w.heap.size w W8) := (HB6.out.alloc HB6.out.size _).grown hgr8 (by simp; omega) (fun c hc => by have := HGE.out.block c hc; omega); have HT8 : Hid (Va W8 w.heap.size 56 #[.int .i64 2, .int .i64 ks, sv nm, .int .i64 op, .int .i64 un, .int .i64 pl, .slice (some ⟨b, off, none⟩) tl tc]) := HT6.out.keptW (hblk _ (by omega) (hno _ (by omega))); have HRR8 : Hid (Va W8 (w.heap.size + 1) 56 zT) := HRR6.out.keptW (hblk _ (by omega) (hno _ (by omega))); have HBL : Hid (∀ c, c < W6.heap.size → (Value.slice av ts.length cv).ownBlock ≠ some c → W8.heap[c]? = W6.heap[c]?) := hblk; have HO8 : Hid (v8.ownBlock = (Value.slice av ts.length cv).ownBlock ∨ ∃ c, v8.ownBlock = some c ∧ W6.heap.size ≤ c) := (hob8.imp id (fun h => ⟨_, h, by simp⟩)); obtain ⟨a8, c8, e8, -, -, -⟩ := hg8.shape; subst e8; have h9 : (ts ++ [(⟨tn5, ta5, tl5, tc5⟩ : Tc)]).length = ts.length + 1 := (by rw [List.length_append]; rfl); rw [h9] at hg8 HO8; have HG8 : Hid (Ge elT W8 (bo + 1) (.slice a8 (ts.length + 1) c8) (ts ++ [(⟨tn5, ta5, tl5, tc5⟩ : Tc)])) := hg8; rw [h9]; clear hg8 hgr8 hob8 hblk hno h9))
              go_roundw
              case rel =>
                have h8 : ts.length + 1 = (ts ++ [(⟨tn5, ta5, tl5, tc5⟩ : Tc)]).length := by rw [List.length_append]; rfl
                have HPN := Pk.next HP.out HKE.out HRL.out hbw HB5.out HB66.out HG8.out HO8.out HBL.out (.slice a8 (ts.length + 1) c8)
                refine ⟨i + 1, x.app (.cons mn km .nil), r, ts ++ [⟨tn5, ta5, tl5, tc5⟩], a8, c8, by go_num, by omega, ?_, HT8.out.keptW (heap_setCell_other _ _ _ _ (by show w.heap.size ≠ bo; omega)), HRR8.out.keptW (heap_setCell_other _ _ _ _ (by show w.heap.size + 1 ≠ bo; omega)), ?_, HB8.out.setCell (p := ⟨bo, 6, none⟩) (by show w.heap.size ≤ bo; omega) _⟩
                · rw [← h8]; exact HPN
                · rw [← h8]; exact HVT8.out.setT6 _
              case measure => simp [intOf]; omega
          · have hii : ¬ (i : Int) < tl := by omega
            have hil : i = k.len := by have := HTL.out; omega
            have r1 := HO.out.t1
            have r6 := HO.out.t6
            have f1 := HO.out.frozen 1
            have hbw : bo < wr.heap.size := HO.out.lt
            go_upto_region 17 with fail
            refine stoT1 HO.out _ (Q := fun W => Code.wp _ _ _ _ W) ?_
            intro W7 V7 hk7 hb7 hs7
            have HR7 : Hid (Va W7 (w.heap.size + 1) 56 zT) := HR.out.keptW (hk7 _ (by omega))
            have HB7 : Hid (Below w.heap.size w W7) := hb7 _ _ (by omega) HB.out
            have HK7 : Hid (∀ c, c ≠ bo → W7.heap[c]? = wr.heap[c]?) := hk7
            clear r1 r6 f1 c6 hk7 hb7 hs7 HT HR HO HB hge hi
            have r0 := V7.t0
            have r1 := V7.t1
            have r2 := V7.t2
            have r3 := V7.t3
            have r4 := V7.t4
            have r5 := V7.t5
            have r6 := V7.t6
            have q0 := HR7.out.frozen 0
            have cq0 := HR7.out.t0
            have q1 := HR7.out.frozen 1
            have cq1 := HR7.out.t1
            have q2 := HR7.out.frozen 2
            have cq2 := HR7.out.t2
            have q3 := HR7.out.frozen 3
            have cq3 := HR7.out.t3
            have q4 := HR7.out.frozen 4
            have cq4 := HR7.out.t4
            have q5 := HR7.out.frozen 5
            have cq5 := HR7.out.t5
            have q6 := HR7.out.frozen 6
            have cq6 := HR7.out.t6
            clear V7
            go_wp2_with fail
            refine bodyPost_ret (results_tr rfl rfl (HR7.out.set7 _ _ _ _ _ _ _)) rfl ?_
            refine ⟨below_7 HB7.out (by omega) _ _ _ _ _ _ _, ⟨1, (ts.length : Nat), [], 0, 0, 0⟩, (k.plain true).melt 1, ⟨⟨1, (ts.length : Nat), [], 0, 0, 0⟩, av, ts.length, cv⟩, rfl, ?_, ?_⟩
            · rw [HP.out.lenT hil]; exact plain_12 k true (.inr rfl)
            · exact HP.out.whole hil (by omega) (fun b hb => (fa7 _ _ _ _ _ _ _ _ _ b (by omega)).trans (HK7.out b (by omega))) _
    · cases neg
      · go_enter Tryz.func43, Tryz.ntmps43
        go_upto_region 1 with fail
        refine ent2 w _ _ _ _ (Q := fun W => Code.wp _ _ _ _ W) ?_
        intro W2 hb2 hs2 V2 V4
        have HV2 : Hid (Va W2 w.heap.size 56 #[.int .i64 3, .int .i64 ks, sv nm, .int .i64 op, .int .i64 un, .int .i64 pl, .slice ta tl tc]) := V2
        have HV4 : Hid (Va W2 (w.heap.size + 1) 56 zT) := V4
        have HB2 : Hid (Below w.heap.size w W2) := hb2
        have hw2 : w.heap.size + 1 < W2.heap.size := by omega
        have z0 := V2.t0
        have z1 := V2.t1
        have z2 := V2.t2
        have z3 := V2.t3
        have z4 := V2.t4
        have z5 := V2.t5
        have z6 := V2.t6
        clear V2 V4 hb2 hs2
        go_upto_region 2 with fail
        refine ent1 W2 _ _ (Q := fun W => Code.wp _ _ _ _ W) ?_
        intro W3 hb3 hs3 V5
        have HV3 : Hid (Va W3 w.heap.size 56 #[.int .i64 3, .int .i64 ks, sv nm, .int .i64 op, .int .i64 un, .int .i64 pl, .slice ta tl tc]) := HV2.out.after hb3
        have HVR : Hid (Va W3 (w.heap.size + 1) 56 zT) := HV4.out.after hb3
        have HVN : Hid (Va W3 W2.heap.size 48 #[.int .i64 3, .int .i64 ks, sv nm, .int .i64 op, .int .i64 un, .int .i64 pl]) := V5
        have HB3 : Hid (Below w.heap.size w W3) := step HB2.out hb3
        have hw3 : W2.heap.size < W3.heap.size := by omega
        clear V5 hb3 hs3 HV2 HV4 HB2 z0 z1 z2 z3 z4 z5 z6
        have n0 := HVN.out.n0
        have n1 := HVN.out.n1
        have n2 := HVN.out.n2
        have n3 := HVN.out.n3
        have n4 := HVN.out.n4
        have n5 := HVN.out.n5
        have hlen : k.len = 1 := by
          have h1 := HOK.out.1.2.2.2.1
          have h2 := HOK.out.1.1
          unfold NdOk at h2
          dsimp only at h1 h2
          omega
        have htl1 : tl = 1 := by rw [HTL.out, hlen]
        obtain ⟨m, km, r, t, hk⟩ := kid_at HK.out (i := 0) (by omega) (x := .nil) (y := k) rfl rfl
        have hke : k = .cons m km .nil := by
          have h1 := hk.fe
          have h2 : r = .nil := Fo.nil_of_len (by have := congrArg Fo.len h1; simp only [Fo.app, Fo.len] at this; omega)
          rw [h2] at h1; exact h1
        obtain ⟨mn, ma, ml, mc⟩ := t
        obtain rfl : mn = m := hk.fn
        obtain ⟨b, off, rfl⟩ := HL.out.ex (by omega)
        have kk : Ct7 W3 b off mn ma ml mc := by have := ct7_of (HL.out.after HB3.out) 0 (by omega) hk.fg; simpa using this
        have k0 := kk.c0
        have k1 := kk.c1
        have k2 := kk.c2
        have k3 := kk.c3
        have k4 := kk.c4
        have k5 := kk.c5
        have k6 := kk.c6
        have c6 := HV3.out.t6
        have hd16 := HOK.out.1.2.2.1
        have hkk : k.Ok wdB 3 (d + 1) := HOK.out.1.2.2.2.2
        have hkl := HKL.out
        rw [hke] at hkk hkl
        have hml : km.flat.length ≤ 64 := by
          simp only [Fo.flat, List.length_append, List.length_cons] at hkl
          omega
        have D : Calls Tryz.prog 43 #[tvT ⟨mn, ma, ml, mc⟩, .bool true] W3 (PnE mn km true W3) := HIH.out (d + 1) (by omega) (by omega) mn km _ true _ W3 hkk hml (Rtw.imp (fun b' hb' hp => ⟨hp, HB3.out.block b' hb'⟩) hk.ft)
        dsimp only [tvT, cT] at D
        have HKE : Hid (k = .cons mn km .nil) := hke
        clear kk hk hkk hkl hml hke hd16 hlen
        subst htl1
        go_wp2_with fail
        refine D.mono ?_
        rintro e w5 ⟨hb5, m5, j5, ⟨tn5, ta5, tl5, tc5⟩, rfl, hp5, hr5⟩
        have HV5 : Hid (Va w5 (w.heap.size + 1) 56 zT) := HVR.out.after hb5
        have HB5 : Hid (Below w.heap.size w w5) := step HB3.out hb5
        have HP5 : Hid ((Fo.cons mn km .nil).plain true = .cons m5 j5 .nil) := hp5
        have HR5 : Hid (Rtw w5 (fun b => W3.heap.size ≤ b) (.cons m5 j5 .nil) [⟨tn5, ta5, tl5, tc5⟩]) := hr5
        clear hb5 hp5 hr5 D k0 k1 k2 k3 k4 k5 k6 c6 HV3 HVN HVR n0 n1 n2 n3 n4 n5
        have q0 := HV5.out.frozen 0
        have cq0 := HV5.out.t0
        have q1 := HV5.out.frozen 1
        have cq1 := HV5.out.t1
        have q2 := HV5.out.frozen 2
        have cq2 := HV5.out.t2
        have q3 := HV5.out.frozen 3
        have cq3 := HV5.out.t3
        have q4 := HV5.out.frozen 4
        have cq4 := HV5.out.t4
        have q5 := HV5.out.frozen 5
        have cq5 := HV5.out.t5
        have q6 := HV5.out.frozen 6
        have cq6 := HV5.out.t6
        go_wp2_with fail
        refine bodyPost_ret (results_tr rfl rfl (HV5.out.set7 _ _ _ _ _ _ _)) rfl ?_
        exact ⟨below_7 HB5.out (by omega) _ _ _ _ _ _ _, m5, j5, ⟨tn5, ta5, tl5, tc5⟩, rfl, by rw [plain_3 k false rfl, HKE.out]; exact HP5.out, Rtw.imp (fun b hb hp => ⟨by omega, fa7 _ _ _ _ _ _ _ _ _ b (by omega)⟩) HR5.out⟩
      · go_enter Tryz.func43, Tryz.ntmps43
        go_upto_region 1 with fail
        refine ent2 w _ _ _ _ (Q := fun W => Code.wp _ _ _ _ W) ?_
        intro W2 hb2 hs2 V2 V4
        have HV2 : Hid (Va W2 w.heap.size 56 #[.int .i64 3, .int .i64 ks, sv nm, .int .i64 op, .int .i64 un, .int .i64 pl, .slice ta tl tc]) := V2
        have HV4 : Hid (Va W2 (w.heap.size + 1) 56 zT) := V4
        have HB2 : Hid (Below w.heap.size w W2) := hb2
        have hw2 : w.heap.size + 1 < W2.heap.size := by omega
        have z0 := V2.t0
        have z1 := V2.t1
        have z2 := V2.t2
        have z3 := V2.t3
        have z4 := V2.t4
        have z5 := V2.t5
        have z6 := V2.t6
        clear V2 V4 hb2 hs2
        go_upto_region 2 with fail
        refine ent1 W2 _ _ (Q := fun W => Code.wp _ _ _ _ W) ?_
        intro W3 hb3 hs3 V5
        have HV3 : Hid (Va W3 w.heap.size 56 #[.int .i64 3, .int .i64 ks, sv nm, .int .i64 op, .int .i64 un, .int .i64 pl, .slice ta tl tc]) := HV2.out.after hb3
        have HVR : Hid (Va W3 (w.heap.size + 1) 56 zT) := HV4.out.after hb3
        have HVN : Hid (Va W3 W2.heap.size 48 #[.int .i64 3, .int .i64 ks, sv nm, .int .i64 op, .int .i64 un, .int .i64 pl]) := V5
        have HB3 : Hid (Below w.heap.size w W3) := step HB2.out hb3
        have hw3 : W2.heap.size < W3.heap.size := by omega
        clear V5 hb3 hs3 HV2 HV4 HB2 z0 z1 z2 z3 z4 z5 z6
        have n0 := HVN.out.n0
        have n1 := HVN.out.n1
        have n2 := HVN.out.n2
        have n3 := HVN.out.n3
        have n4 := HVN.out.n4
        have n5 := HVN.out.n5
        have hlen : k.len = 1 := by
          have h1 := HOK.out.1.2.2.2.1
          have h2 := HOK.out.1.1
          unfold NdOk at h2
          dsimp only at h1 h2
          omega
        have htl1 : tl = 1 := by rw [HTL.out, hlen]
        obtain ⟨m, km, r, t, hk⟩ := kid_at HK.out (i := 0) (by omega) (x := .nil) (y := k) rfl rfl
        have hke : k = .cons m km .nil := by
          have h1 := hk.fe
          have h2 : r = .nil := Fo.nil_of_len (by have := congrArg Fo.len h1; simp only [Fo.app, Fo.len] at this; omega)
          rw [h2] at h1; exact h1
        obtain ⟨mn, ma, ml, mc⟩ := t
        obtain rfl : mn = m := hk.fn
        obtain ⟨b, off, rfl⟩ := HL.out.ex (by omega)
        have kk : Ct7 W3 b off mn ma ml mc := by have := ct7_of (HL.out.after HB3.out) 0 (by omega) hk.fg; simpa using this
        have k0 := kk.c0
        have k1 := kk.c1
        have k2 := kk.c2
        have k3 := kk.c3
        have k4 := kk.c4
        have k5 := kk.c5
        have k6 := kk.c6
        have c6 := HV3.out.t6
        have hd16 := HOK.out.1.2.2.1
        have hkk : k.Ok wdB 3 (d + 1) := HOK.out.1.2.2.2.2
        have hkl := HKL.out
        rw [hke] at hkk hkl
        have hml : km.flat.length ≤ 64 := by
          simp only [Fo.flat, List.length_append, List.length_cons] at hkl
          omega
        have D : Calls Tryz.prog 43 #[tvT ⟨mn, ma, ml, mc⟩, .bool false] W3 (PnE mn km false W3) := HIH.out (d + 1) (by omega) (by omega) mn km _ false _ W3 hkk hml (Rtw.imp (fun b' hb' hp => ⟨hp, HB3.out.block b' hb'⟩) hk.ft)
        dsimp only [tvT, cT] at D
        have HKE : Hid (k = .cons mn km .nil) := hke
        clear kk hk hkk hkl hml hke hd16 hlen
        subst htl1
        go_wp2_with fail
        refine D.mono ?_
        rintro e w5 ⟨hb5, m5, j5, ⟨tn5, ta5, tl5, tc5⟩, rfl, hp5, hr5⟩
        have HV5 : Hid (Va w5 (w.heap.size + 1) 56 zT) := HVR.out.after hb5
        have HB5 : Hid (Below w.heap.size w w5) := step HB3.out hb5
        have HP5 : Hid ((Fo.cons mn km .nil).plain false = .cons m5 j5 .nil) := hp5
        have HR5 : Hid (Rtw w5 (fun b => W3.heap.size ≤ b) (.cons m5 j5 .nil) [⟨tn5, ta5, tl5, tc5⟩]) := hr5
        clear hb5 hp5 hr5 D k0 k1 k2 k3 k4 k5 k6 c6 HV3 HVN HVR n0 n1 n2 n3 n4 n5
        have q0 := HV5.out.frozen 0
        have cq0 := HV5.out.t0
        have q1 := HV5.out.frozen 1
        have cq1 := HV5.out.t1
        have q2 := HV5.out.frozen 2
        have cq2 := HV5.out.t2
        have q3 := HV5.out.frozen 3
        have cq3 := HV5.out.t3
        have q4 := HV5.out.frozen 4
        have cq4 := HV5.out.t4
        have q5 := HV5.out.frozen 5
        have cq5 := HV5.out.t5
        have q6 := HV5.out.frozen 6
        have cq6 := HV5.out.t6
        go_wp2_with fail
        refine bodyPost_ret (results_tr rfl rfl (HV5.out.set7 _ _ _ _ _ _ _)) rfl ?_
        exact ⟨below_7 HB5.out (by omega) _ _ _ _ _ _ _, m5, j5, ⟨tn5, ta5, tl5, tc5⟩, rfl, by rw [plain_3 k true rfl, HKE.out]; exact HP5.out, Rtw.imp (fun b hb hp => ⟨by omega, fa7 _ _ _ _ _ _ _ _ _ b (by omega)⟩) HR5.out⟩
    · cases neg
      · go_enter Tryz.func43, Tryz.ntmps43
        go_upto_region 1 with fail
        refine ent2 w _ _ _ _ (Q := fun W => Code.wp _ _ _ _ W) ?_
        intro W2 hb2 hs2 V2 V4
        have HV2 : Hid (Va W2 w.heap.size 56 #[.int .i64 4, .int .i64 ks, sv nm, .int .i64 op, .int .i64 un, .int .i64 pl, .slice ta tl tc]) := V2
        have HV4 : Hid (Va W2 (w.heap.size + 1) 56 zT) := V4
        have HB2 : Hid (Below w.heap.size w W2) := hb2
        have hw2 : w.heap.size + 1 < W2.heap.size := by omega
        have z0 := V2.t0
        have z1 := V2.t1
        have z2 := V2.t2
        have z3 := V2.t3
        have z4 := V2.t4
        have z5 := V2.t5
        have z6 := V2.t6
        clear V2 V4 hb2 hs2
        go_upto_region 2 with fail
        refine ent1 W2 _ _ (Q := fun W => Code.wp _ _ _ _ W) ?_
        intro W3 hb3 hs3 V5
        have HV3 : Hid (Va W3 w.heap.size 56 #[.int .i64 4, .int .i64 ks, sv nm, .int .i64 op, .int .i64 un, .int .i64 pl, .slice ta tl tc]) := HV2.out.after hb3
        have HVR : Hid (Va W3 (w.heap.size + 1) 56 zT) := HV4.out.after hb3
        have HVN : Hid (Va W3 W2.heap.size 48 #[.int .i64 4, .int .i64 ks, sv nm, .int .i64 op, .int .i64 un, .int .i64 pl]) := V5
        have HB3 : Hid (Below w.heap.size w W3) := step HB2.out hb3
        have hw3 : W2.heap.size < W3.heap.size := by omega
        clear V5 hb3 hs3 HV2 HV4 HB2 z0 z1 z2 z3 z4 z5 z6
        have n0 := HVN.out.n0
        have n1 := HVN.out.n1
        have n2 := HVN.out.n2
        have n3 := HVN.out.n3
        have n4 := HVN.out.n4
        have n5 := HVN.out.n5
        have q0 := HVR.out.frozen 0
        have cq0 := HVR.out.t0
        have q1 := HVR.out.frozen 1
        have cq1 := HVR.out.t1
        have q2 := HVR.out.frozen 2
        have cq2 := HVR.out.t2
        have q3 := HVR.out.frozen 3
        have cq3 := HVR.out.t3
        have q4 := HVR.out.frozen 4
        have cq4 := HVR.out.t4
        have q5 := HVR.out.frozen 5
        have cq5 := HVR.out.t5
        have q6 := HVR.out.frozen 6
        have cq6 := HVR.out.t6
        go_wp2_with fail
        refine bodyPost_ret (results_tr rfl rfl (HVR.out.set7 _ _ _ _ _ _ _)) rfl ?_
        exact ⟨below_7 HB3.out (by omega) _ _ _ _ _ _ _, (⟨4, ks, nm, op, un, pl⟩ : Nd), .nil, ⟨(⟨4, ks, nm, op, un, pl⟩ : Nd), none, 0, 0⟩, rfl, plain_45 k false (.inl rfl), ⟨_, [], [], rfl, rfl, rfl, Le.nil _ _, fun h => absurd h (Nat.lt_irrefl _), rfl, rfl⟩⟩
      · go_enter Tryz.func43, Tryz.ntmps43
        go_upto_region 1 with fail
        refine ent2 w _ _ _ _ (Q := fun W => Code.wp _ _ _ _ W) ?_
        intro W2 hb2 hs2 V2 V4
        have HV2 : Hid (Va W2 w.heap.size 56 #[.int .i64 4, .int .i64 ks, sv nm, .int .i64 op, .int .i64 un, .int .i64 pl, .slice ta tl tc]) := V2
        have HV4 : Hid (Va W2 (w.heap.size + 1) 56 zT) := V4
        have HB2 : Hid (Below w.heap.size w W2) := hb2
        have hw2 : w.heap.size + 1 < W2.heap.size := by omega
        have z0 := V2.t0
        have z1 := V2.t1
        have z2 := V2.t2
        have z3 := V2.t3
        have z4 := V2.t4
        have z5 := V2.t5
        have z6 := V2.t6
        clear V2 V4 hb2 hs2
        go_upto_region 2 with fail
        refine ent1 W2 _ _ (Q := fun W => Code.wp _ _ _ _ W) ?_
        intro W3 hb3 hs3 V5
        have HV3 : Hid (Va W3 w.heap.size 56 #[.int .i64 4, .int .i64 ks, sv nm, .int .i64 op, .int .i64 un, .int .i64 pl, .slice ta tl tc]) := HV2.out.after hb3
        have HVR : Hid (Va W3 (w.heap.size + 1) 56 zT) := HV4.out.after hb3
        have HVN : Hid (Va W3 W2.heap.size 48 #[.int .i64 4, .int .i64 ks, sv nm, .int .i64 op, .int .i64 un, .int .i64 pl]) := V5
        have HB3 : Hid (Below w.heap.size w W3) := step HB2.out hb3
        have hw3 : W2.heap.size < W3.heap.size := by omega
        clear V5 hb3 hs3 HV2 HV4 HB2 z0 z1 z2 z3 z4 z5 z6
        have n0 := HVN.out.n0
        have n1 := HVN.out.n1
        have n2 := HVN.out.n2
        have n3 := HVN.out.n3
        have n4 := HVN.out.n4
        have n5 := HVN.out.n5
        have q0 := HVR.out.frozen 0
        have cq0 := HVR.out.t0
        have q1 := HVR.out.frozen 1
        have cq1 := HVR.out.t1
        have q2 := HVR.out.frozen 2
        have cq2 := HVR.out.t2
        have q3 := HVR.out.frozen 3
        have cq3 := HVR.out.t3
        have q4 := HVR.out.frozen 4
        have cq4 := HVR.out.t4
        have q5 := HVR.out.frozen 5
        have cq5 := HVR.out.t5
        have q6 := HVR.out.frozen 6
        have cq6 := HVR.out.t6
        have hq := HVR.out.lt
        have hq2 := Nat.ne_of_lt hq
        go_wp2_with fail
        refine bodyPost_ret (results_tr rfl rfl ((HVR.out.set7 _ _ _ _ _ _ _).old _)) rfl ?_
        refine ⟨(below_7 HB3.out (by omega) _ _ _ _ _ _ _).alloc (by simp [World.setCell]; omega) _, ndN, .cons (⟨4, ks, nm, op, un, pl⟩ : Nd) .nil .nil, ⟨ndN, some ⟨W3.heap.size, 0, none⟩, 1, 1⟩, ?_, plain_45 k true (.inl rfl), _, [], [⟨(⟨4, ks, nm, op, un, pl⟩ : Nd), none, 0, 0⟩], rfl, rfl, rfl, ?_, fun _ b off e => by cases e; omega, ⟨_, [], [], rfl, rfl, rfl, Le.nil _ _, fun h => absurd h (Nat.lt_irrefl _), rfl, rfl⟩, rfl⟩
        · simp [World.setCell, ndN]
        · exact le_new (by simp [World.setCell]) ⟨(⟨4, ks, nm, op, un, pl⟩ : Nd), none, 0, 0⟩ rfl
    · cases neg
      · go_enter Tryz.func43, Tryz.ntmps43
        go_upto_region 1 with fail
        refine ent2 w _ _ _ _ (Q := fun W => Code.wp _ _ _ _ W) ?_
        intro W2 hb2 hs2 V2 V4
        have HV2 : Hid (Va W2 w.heap.size 56 #[.int .i64 5, .int .i64 ks, sv nm, .int .i64 op, .int .i64 un, .int .i64 pl, .slice ta tl tc]) := V2
        have HV4 : Hid (Va W2 (w.heap.size + 1) 56 zT) := V4
        have HB2 : Hid (Below w.heap.size w W2) := hb2
        have hw2 : w.heap.size + 1 < W2.heap.size := by omega
        have z0 := V2.t0
        have z1 := V2.t1
        have z2 := V2.t2
        have z3 := V2.t3
        have z4 := V2.t4
        have z5 := V2.t5
        have z6 := V2.t6
        clear V2 V4 hb2 hs2
        go_upto_region 2 with fail
        refine ent1 W2 _ _ (Q := fun W => Code.wp _ _ _ _ W) ?_
        intro W3 hb3 hs3 V5
        have HV3 : Hid (Va W3 w.heap.size 56 #[.int .i64 5, .int .i64 ks, sv nm, .int .i64 op, .int .i64 un, .int .i64 pl, .slice ta tl tc]) := HV2.out.after hb3
        have HVR : Hid (Va W3 (w.heap.size + 1) 56 zT) := HV4.out.after hb3
        have HVN : Hid (Va W3 W2.heap.size 48 #[.int .i64 5, .int .i64 ks, sv nm, .int .i64 op, .int .i64 un, .int .i64 pl]) := V5
        have HB3 : Hid (Below w.heap.size w W3) := step HB2.out hb3
        have hw3 : W2.heap.size < W3.heap.size := by omega
        clear V5 hb3 hs3 HV2 HV4 HB2 z0 z1 z2 z3 z4 z5 z6
        have n0 := HVN.out.n0
        have n1 := HVN.out.n1
        have n2 := HVN.out.n2
        have n3 := HVN.out.n3
        have n4 := HVN.out.n4
        have n5 := HVN.out.n5
        have q0 := HVR.out.frozen 0
        have cq0 := HVR.out.t0
        have q1 := HVR.out.frozen 1
        have cq1 := HVR.out.t1
        have q2 := HVR.out.frozen 2
        have cq2 := HVR.out.t2
        have q3 := HVR.out.frozen 3
        have cq3 := HVR.out.t3
        have q4 := HVR.out.frozen 4
        have cq4 := HVR.out.t4
        have q5 := HVR.out.frozen 5
        have cq5 := HVR.out.t5
        have q6 := HVR.out.frozen 6
        have cq6 := HVR.out.t6
        go_wp2_with fail
        refine bodyPost_ret (results_tr rfl rfl (HVR.out.set7 _ _ _ _ _ _ _)) rfl ?_
        exact ⟨below_7 HB3.out (by omega) _ _ _ _ _ _ _, (⟨5, ks, nm, op, un, pl⟩ : Nd), .nil, ⟨(⟨5, ks, nm, op, un, pl⟩ : Nd), none, 0, 0⟩, rfl, plain_45 k false (.inr rfl), ⟨_, [], [], rfl, rfl, rfl, Le.nil _ _, fun h => absurd h (Nat.lt_irrefl _), rfl, rfl⟩⟩
      · go_enter Tryz.func43, Tryz.ntmps43
        go_upto_region 1 with fail
        refine ent2 w _ _ _ _ (Q := fun W => Code.wp _ _ _ _ W) ?_
        intro W2 hb2 hs2 V2 V4
        have HV2 : Hid (Va W2 w.heap.size 56 #[.int .i64 5, .int .i64 ks, sv nm, .int .i64 op, .int .i64 un, .int .i64 pl, .slice ta tl tc]) := V2
        have HV4 : Hid (Va W2 (w.heap.size + 1) 56 zT) := V4
        have HB2 : Hid (Below w.heap.size w W2) := hb2
        have hw2 : w.heap.size + 1 < W2.heap.size := by omega
        have z0 := V2.t0
        have z1 := V2.t1
        have z2 := V2.t2
        have z3 := V2.t3
        have z4 := V2.t4
        have z5 := V2.t5
        have z6 := V2.t6
        clear V2 V4 hb2 hs2
        go_upto_region 2 with fail
        refine ent1 W2 _ _ (Q := fun W => Code.wp _ _ _ _ W) ?_
        intro W3 hb3 hs3 V5
        have HV3 : Hid (Va W3 w.heap.size 56 #[.int .i64 5, .int .i64 ks, sv nm, .int .i64 op, .int .i64 un, .int .i64 pl, .slice ta tl tc]) := HV2.out.after hb3
        have HVR : Hid (Va W3 (w.heap.size + 1) 56 zT) := HV4.out.after hb3
        have HVN : Hid (Va W3 W2.heap.size 48 #[.int .i64 5, .int .i64 ks, sv nm, .int .i64 op, .int .i64 un, .int .i64 pl]) := V5
        have HB3 : Hid (Below w.heap.size w W3) := step HB2.out hb3
        have hw3 : W2.heap.size < W3.heap.size := by omega
        clear V5 hb3 hs3 HV2 HV4 HB2 z0 z1 z2 z3 z4 z5 z6
        have n0 := HVN.out.n0
        have n1 := HVN.out.n1
        have n2 := HVN.out.n2
        have n3 := HVN.out.n3
        have n4 := HVN.out.n4
        have n5 := HVN.out.n5
        have q0 := HVR.out.frozen 0
        have cq0 := HVR.out.t0
        have q1 := HVR.out.frozen 1
        have cq1 := HVR.out.t1
        have q2 := HVR.out.frozen 2
        have cq2 := HVR.out.t2
        have q3 := HVR.out.frozen 3
        have cq3 := HVR.out.t3
        have q4 := HVR.out.frozen 4
        have cq4 := HVR.out.t4
        have q5 := HVR.out.frozen 5
        have cq5 := HVR.out.t5
        have q6 := HVR.out.frozen 6
        have cq6 := HVR.out.t6
        have hq := HVR.out.lt
        have hq2 := Nat.ne_of_lt hq
        go_wp2_with fail
        refine bodyPost_ret (results_tr rfl rfl ((HVR.out.set7 _ _ _ _ _ _ _).old _)) rfl ?_
        refine ⟨(below_7 HB3.out (by omega) _ _ _ _ _ _ _).alloc (by simp [World.setCell]; omega) _, ndN, .cons (⟨5, ks, nm, op, un, pl⟩ : Nd) .nil .nil, ⟨ndN, some ⟨W3.heap.size, 0, none⟩, 1, 1⟩, ?_, plain_45 k true (.inr rfl), _, [], [⟨(⟨5, ks, nm, op, un, pl⟩ : Nd), none, 0, 0⟩], rfl, rfl, rfl, ?_, fun _ b off e => by cases e; omega, ⟨_, [], [], rfl, rfl, rfl, Le.nil _ _, fun h => absurd h (Nat.lt_irrefl _), rfl, rfl⟩, rfl⟩
        · simp [World.setCell, ndN]
        · exact le_new (by simp [World.setCell]) ⟨(⟨5, ks, nm, op, un, pl⟩ : Nd), none, 0, 0⟩ rfl
    · cases neg
      · go_enter Tryz.func43, Tryz.ntmps43
        go_upto_region 1 with fail
        refine ent2 w _ _ _ _ (Q := fun W => Code.wp _ _ _ _ W) ?_
        intro W2 hb2 hs2 V2 V4
        have HV2 : Hid (Va W2 w.heap.size 56 #[.int .i64 6, .int .i64 ks, sv nm, .int .i64 op, .int .i64 un, .int .i64 pl, .slice ta tl tc]) := V2
        have HV4 : Hid (Va W2 (w.heap.size + 1) 56 zT) := V4
        have HB2 : Hid (Below w.heap.size w W2) := hb2
        have hw2 : w.heap.size + 1 < W2.heap.size := by omega
        have z0 := V2.t0
        have z1 := V2.t1
        have z2 := V2.t2
        have z3 := V2.t3
        have z4 := V2.t4
        have z5 := V2.t5
        have z6 := V2.t6
        clear V2 V4 hb2 hs2
        go_upto_region 2 with fail
        refine ent1 W2 _ _ (Q := fun W => Code.wp _ _ _ _ W) ?_
        intro W3 hb3 hs3 V5
        have HV3 : Hid (Va W3 w.heap.size 56 #[.int .i64 6, .int .i64 ks, sv nm, .int .i64 op, .int .i64 un, .int .i64 pl, .slice ta tl tc]) := HV2.out.after hb3
        have HVR : Hid (Va W3 (w.heap.size + 1) 56 zT) := HV4.out.after hb3
        have HVN : Hid (Va W3 W2.heap.size 48 #[.int .i64 6, .int .i64 ks, sv nm, .int .i64 op, .int .i64 un, .int .i64 pl]) := V5
        have HB3 : Hid (Below w.heap.size w W3) := step HB2.out hb3
        have hw3 : W2.heap.size < W3.heap.size := by omega
        clear V5 hb3 hs3 HV2 HV4 HB2 z0 z1 z2 z3 z4 z5 z6
        have n0 := HVN.out.n0
        have n1 := HVN.out.n1
        have n2 := HVN.out.n2
        have n3 := HVN.out.n3
        have n4 := HVN.out.n4
        have n5 := HVN.out.n5
        have q0 := HVR.out.frozen 0
        have cq0 := HVR.out.t0
        have q1 := HVR.out.frozen 1
        have cq1 := HVR.out.t1
        have q2 := HVR.out.frozen 2
        have cq2 := HVR.out.t2
        have q3 := HVR.out.frozen 3
        have cq3 := HVR.out.t3
        have q4 := HVR.out.frozen 4
        have cq4 := HVR.out.t4
        have q5 := HVR.out.frozen 5
        have cq5 := HVR.out.t5
        have q6 := HVR.out.frozen 6
        have cq6 := HVR.out.t6
        go_wp2_with fail
        refine bodyPost_ret (results_tr rfl rfl (HVR.out.set7 _ _ _ _ _ _ _)) rfl ?_
        exact ⟨below_7 HB3.out (by omega) _ _ _ _ _ _ _, (⟨6, ks, nm, op, un, pl⟩ : Nd), .nil, ⟨(⟨6, ks, nm, op, un, pl⟩ : Nd), none, 0, 0⟩, rfl, plain_67 k false (.inl rfl), ⟨_, [], [], rfl, rfl, rfl, Le.nil _ _, fun h => absurd h (Nat.lt_irrefl _), rfl, rfl⟩⟩
      · go_enter Tryz.func43, Tryz.ntmps43
        go_upto_region 1 with fail
        refine ent2 w _ _ _ _ (Q := fun W => Code.wp _ _ _ _ W) ?_
        intro W2 hb2 hs2 V2 V4
        have HV2 : Hid (Va W2 w.heap.size 56 #[.int .i64 6, .int .i64 ks, sv nm, .int .i64 op, .int .i64 un, .int .i64 pl, .slice ta tl tc]) := V2
        have HV4 : Hid (Va W2 (w.heap.size + 1) 56 zT) := V4
        have HB2 : Hid (Below w.heap.size w W2) := hb2
        have hw2 : w.heap.size + 1 < W2.heap.size := by omega
        have z0 := V2.t0
        have z1 := V2.t1
        have z2 := V2.t2
        have z3 := V2.t3
        have z4 := V2.t4
        have z5 := V2.t5
        have z6 := V2.t6
        clear V2 V4 hb2 hs2
        go_upto_region 2 with fail
        refine ent1 W2 _ _ (Q := fun W => Code.wp _ _ _ _ W) ?_
        intro W3 hb3 hs3 V5
        have HV3 : Hid (Va W3 w.heap.size 56 #[.int .i64 6, .int .i64 ks, sv nm, .int .i64 op, .int .i64 un, .int .i64 pl, .slice ta tl tc]) := HV2.out.after hb3
        have HVR : Hid (Va W3 (w.heap.size + 1) 56 zT) := HV4.out.after hb3
        have HVN : Hid (Va W3 W2.heap.size 48 #[.int .i64 6, .int .i64 ks, sv nm, .int .i64 op, .int .i64 un, .int .i64 pl]) := V5
        have HB3 : Hid (Below w.heap.size w W3) := step HB2.out hb3
        have hw3 : W2.heap.size < W3.heap.size := by omega
        clear V5 hb3 hs3 HV2 HV4 HB2 z0 z1 z2 z3 z4 z5 z6
        have n0 := HVN.out.n0
        have n1 := HVN.out.n1
        have n2 := HVN.out.n2
        have n3 := HVN.out.n3
        have n4 := HVN.out.n4
        have n5 := HVN.out.n5
        have hop : 1 ≤ op ∧ op ≤ 4 := by
          have h := HOK.out.1.1
          unfold NdOk at h
          dsimp only at h
          omega
        have xw : IntKind.i64.wrap (5 - op) = 5 - op := by rw [IntKind.wrap_i64]; omega
        have g3 := HVN.out.frozen 3
        go_upto_region 27 with fail
        refine stoN3 HVN.out _ (Q := fun W => Code.wp _ _ _ _ W) ?_
        intro W4 V5 hk4 hb4 hs4
        have HVR4 : Hid (Va W4 (w.heap.size + 1) 56 zT) := HVR.out.keptW (hk4 _ (by omega))
        have HB4 : Hid (Below w.heap.size w W4) := hb4 _ _ (by omega) HB3.out
        clear n0 n1 n2 n3 n4 n5 g3
        have n0 := V5.n0
        have n1 := V5.n1
        have n2 := V5.n2
        have n3 := V5.n3
        have n4 := V5.n4
        have n5 := V5.n5
        have q0 := HVR4.out.frozen 0
        have cq0 := HVR4.out.t0
        have q1 := HVR4.out.frozen 1
        have cq1 := HVR4.out.t1
        have q2 := HVR4.out.frozen 2
        have cq2 := HVR4.out.t2
        have q3 := HVR4.out.frozen 3
        have cq3 := HVR4.out.t3
        have q4 := HVR4.out.frozen 4
        have cq4 := HVR4.out.t4
        have q5 := HVR4.out.frozen 5
        have cq5 := HVR4.out.t5
        have q6 := HVR4.out.frozen 6
        have cq6 := HVR4.out.t6
        clear V5 hk4 hb4 hs4
        go_wp2_with fail
        refine bodyPost_ret (results_tr rfl rfl (HVR4.out.set7 _ _ _ _ _ _ _)) rfl ?_
        exact ⟨below_7 HB4.out (by omega) _ _ _ _ _ _ _, ({ (⟨6, ks, nm, op, un, pl⟩ : Nd) with op := 5 - op } : Nd), .nil, ⟨({ (⟨6, ks, nm, op, un, pl⟩ : Nd) with op := 5 - op } : Nd), none, 0, 0⟩, rfl, plain_67 k true (.inl rfl), ⟨_, [], [], rfl, rfl, rfl, Le.nil _ _, fun h => absurd h (Nat.lt_irrefl _), rfl, rfl⟩⟩
    · cases neg
      · go_enter Tryz.func43, Tryz.ntmps43
        go_upto_region 1 with fail
        refine ent2 w _ _ _ _ (Q := fun W => Code.wp _ _ _ _ W) ?_
        intro W2 hb2 hs2 V2 V4
        have HV2 : Hid (Va W2 w.heap.size 56 #[.int .i64 7, .int .i64 ks, sv nm, .int .i64 op, .int .i64 un, .int .i64 pl, .slice ta tl tc]) := V2
        have HV4 : Hid (Va W2 (w.heap.size + 1) 56 zT) := V4
        have HB2 : Hid (Below w.heap.size w W2) := hb2
        have hw2 : w.heap.size + 1 < W2.heap.size := by omega
        have z0 := V2.t0
        have z1 := V2.t1
        have z2 := V2.t2
        have z3 := V2.t3
        have z4 := V2.t4
        have z5 := V2.t5
        have z6 := V2.t6
        clear V2 V4 hb2 hs2
        go_upto_region 2 with fail
        refine ent1 W2 _ _ (Q := fun W => Code.wp _ _ _ _ W) ?_
        intro W3 hb3 hs3 V5
        have HV3 : Hid (Va W3 w.heap.size 56 #[.int .i64 7, .int .i64 ks, sv nm, .int .i64 op, .int .i64 un, .int .i64 pl, .slice ta tl tc]) := HV2.out.after hb3
        have HVR : Hid (Va W3 (w.heap.size + 1) 56 zT) := HV4.out.after hb3
        have HVN : Hid (Va W3 W2.heap.size 48 #[.int .i64 7, .int .i64 ks, sv nm, .int .i64 op, .int .i64 un, .int .i64 pl]) := V5
        have HB3 : Hid (Below w.heap.size w W3) := step HB2.out hb3
        have hw3 : W2.heap.size < W3.heap.size := by omega
        clear V5 hb3 hs3 HV2 HV4 HB2 z0 z1 z2 z3 z4 z5 z6
        have n0 := HVN.out.n0
        have n1 := HVN.out.n1
        have n2 := HVN.out.n2
        have n3 := HVN.out.n3
        have n4 := HVN.out.n4
        have n5 := HVN.out.n5
        have q0 := HVR.out.frozen 0
        have cq0 := HVR.out.t0
        have q1 := HVR.out.frozen 1
        have cq1 := HVR.out.t1
        have q2 := HVR.out.frozen 2
        have cq2 := HVR.out.t2
        have q3 := HVR.out.frozen 3
        have cq3 := HVR.out.t3
        have q4 := HVR.out.frozen 4
        have cq4 := HVR.out.t4
        have q5 := HVR.out.frozen 5
        have cq5 := HVR.out.t5
        have q6 := HVR.out.frozen 6
        have cq6 := HVR.out.t6
        go_wp2_with fail
        refine bodyPost_ret (results_tr rfl rfl (HVR.out.set7 _ _ _ _ _ _ _)) rfl ?_
        exact ⟨below_7 HB3.out (by omega) _ _ _ _ _ _ _, (⟨7, ks, nm, op, un, pl⟩ : Nd), .nil, ⟨(⟨7, ks, nm, op, un, pl⟩ : Nd), none, 0, 0⟩, rfl, plain_67 k false (.inr rfl), ⟨_, [], [], rfl, rfl, rfl, Le.nil _ _, fun h => absurd h (Nat.lt_irrefl _), rfl, rfl⟩⟩
      · go_enter Tryz.func43, Tryz.ntmps43
        go_upto_region 1 with fail
        refine ent2 w _ _ _ _ (Q := fun W => Code.wp _ _ _ _ W) ?_
        intro W2 hb2 hs2 V2 V4
        have HV2 : Hid (Va W2 w.heap.size 56 #[.int .i64 7, .int .i64 ks, sv nm, .int .i64 op, .int .i64 un, .int .i64 pl, .slice ta tl tc]) := V2
        have HV4 : Hid (Va W2 (w.heap.size + 1) 56 zT) := V4
        have HB2 : Hid (Below w.heap.size w W2) := hb2
        have hw2 : w.heap.size + 1 < W2.heap.size := by omega
        have z0 := V2.t0
        have z1 := V2.t1
        have z2 := V2.t2
        have z3 := V2.t3
        have z4 := V2.t4
        have z5 := V2.t5
        have z6 := V2.t6
        clear V2 V4 hb2 hs2
        go_upto_region 2 with fail
        refine ent1 W2 _ _ (Q := fun W => Code.wp _ _ _ _ W) ?_
        intro W3 hb3 hs3 V5
        have HV3 : Hid (Va W3 w.heap.size 56 #[.int .i64 7, .int .i64 ks, sv nm, .int .i64 op, .int .i64 un, .int .i64 pl, .slice ta tl tc]) := HV2.out.after hb3
        have HVR : Hid (Va W3 (w.heap.size + 1) 56 zT) := HV4.out.after hb3
        have HVN : Hid (Va W3 W2.heap.size 48 #[.int .i64 7, .int .i64 ks, sv nm, .int .i64 op, .int .i64 un, .int .i64 pl]) := V5
        have HB3 : Hid (Below w.heap.size w W3) := step HB2.out hb3
        have hw3 : W2.heap.size < W3.heap.size := by omega
        clear V5 hb3 hs3 HV2 HV4 HB2 z0 z1 z2 z3 z4 z5 z6
        have n0 := HVN.out.n0
        have n1 := HVN.out.n1
        have n2 := HVN.out.n2
        have n3 := HVN.out.n3
        have n4 := HVN.out.n4
        have n5 := HVN.out.n5
        have hop : 1 ≤ op ∧ op ≤ 4 := by
          have h := HOK.out.1.1
          unfold NdOk at h
          dsimp only at h
          omega
        have xw : IntKind.i64.wrap (5 - op) = 5 - op := by rw [IntKind.wrap_i64]; omega
        have g3 := HVN.out.frozen 3
        go_upto_region 27 with fail
        refine stoN3 HVN.out _ (Q := fun W => Code.wp _ _ _ _ W) ?_
        intro W4 V5 hk4 hb4 hs4
        have HVR4 : Hid (Va W4 (w.heap.size + 1) 56 zT) := HVR.out.keptW (hk4 _ (by omega))
        have HB4 : Hid (Below w.heap.size w W4) := hb4 _ _ (by omega) HB3.out
        clear n0 n1 n2 n3 n4 n5 g3
        have n0 := V5.n0
        have n1 := V5.n1
        have n2 := V5.n2
        have n3 := V5.n3
        have n4 := V5.n4
        have n5 := V5.n5
        have q0 := HVR4.out.frozen 0
        have cq0 := HVR4.out.t0
        have q1 := HVR4.out.frozen 1
        have cq1 := HVR4.out.t1
        have q2 := HVR4.out.frozen 2
        have cq2 := HVR4.out.t2
        have q3 := HVR4.out.frozen 3
        have cq3 := HVR4.out.t3
        have q4 := HVR4.out.frozen 4
        have cq4 := HVR4.out.t4
        have q5 := HVR4.out.frozen 5
        have cq5 := HVR4.out.t5
        have q6 := HVR4.out.frozen 6
        have cq6 := HVR4.out.t6
        clear V5 hk4 hb4 hs4
        go_wp2_with fail
        refine bodyPost_ret (results_tr rfl rfl (HVR4.out.set7 _ _ _ _ _ _ _)) rfl ?_
        exact ⟨below_7 HB4.out (by omega) _ _ _ _ _ _ _, ({ (⟨7, ks, nm, op, un, pl⟩ : Nd) with op := 5 - op } : Nd), .nil, ⟨({ (⟨7, ks, nm, op, un, pl⟩ : Nd) with op := 5 - op } : Nd), none, 0, 0⟩, rfl, plain_67 k true (.inr rfl), ⟨_, [], [], rfl, rfl, rfl, Le.nil _ _, fun h => absurd h (Nat.lt_irrefl _), rfl, rfl⟩⟩
end Go.Proofs.YtblafbbnplfpjaaGreatDoor
