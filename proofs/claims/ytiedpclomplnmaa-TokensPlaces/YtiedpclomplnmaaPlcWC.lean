/-
  tokens: the walk of TokensPlaces.
-/
import Derived.Test.YtiedpclomplnmaaRmkWC
import Derived.Test.YtiedpclomplnmaaTc7
import Derived.Test.YtiedpclomplnmaaTc8
namespace Go.Proofs.Ytiedpclomplnmaa
open Go.RowKit Go.Shelf
set_option linter.unusedVariables false

set_option maxHeartbeats 2000000 in
set_option maxRecDepth 20000 in
theorem plc_walk (s : List UInt8) (w : World) (hs : s.length ≤ 1048576) : Calls Try.prog 4 #[sv s] w fun e w' => e = .returned (.bool true) ∧ Below w.heap.size w w' := by
  go_enter Try.func4, Try.ntmps4
  go_wp2_with fail
  refine (awake_any w).mono ?_
  rintro e w1 ⟨rfl, hb1⟩
  have HB1 : Hid (Below w.heap.size w w1) := hb1
  clear hb1
  go_wp2_with fail
  rcases Nat.lt_or_ge 65536 s.length with h | h
  · have hi : (65536 : Int) < s.length := by omega
    refine (cut_long s w1 h).mono ?_
    rintro e w2 ⟨rfl, hb2⟩
    have HB2 : Hid (Below w.heap.size w w2) := step HB1.out hb2
    clear hb2 HB1
    go_wp2_with fail
    refine ent1 w2 _ _ (Q := fun W => Calls _ _ _ W _) ?_
    intro W2 hB2 hs2 V2
    have HB3 : Hid (Below w.heap.size w W2) := step HB2.out hB2
    refine (starts_any s W2 (by omega)).mono ?_
    rintro e w3 ⟨g, cap, rfl, -, hb3⟩
    have V3 := V2.after hb3
    have HB4 : Hid (Below w.heap.size w w3) := step HB3.out hb3
    have a0 : w3.cell? ⟨w2.heap.size, 0, none⟩ = some (.int .i64 3) := V3.cellAt 0
    have a1 : w3.cell? ⟨w2.heap.size, 1, none⟩ = some (.int .i64 1) := V3.cellAt 1
    have a2 : w3.cell? ⟨w2.heap.size, 2, none⟩ = some (.int .i64 1) := V3.cellAt 2
    clear hb3 V3 HB3 V2 hB2 hs2 HB2
    generalize (st 0 s).length.succ = N at *
    go_wp2_with fail
    go_ret
    exact ⟨rfl, by first | exact HB4.out | exact below_dN HB4.out _⟩
  · cases hT : cu s 1 1 with
    | no L C =>
      obtain ⟨p, b, hpb, hat, hbk⟩ := refused_at s _ 0 1 1 L C (Nat.le_refl _) (At.start s) hT
      have hup : L ≤ 1 + s.length := by
        have := cu_upTo _ s 1 1 (Nat.le_refl _)
        rw [hT] at this; exact this
      have hpl := (List.getElem?_eq_some_iff.1 hpb).1
      refine (cut_no s L C w1 h hT).mono ?_
      rintro e w2 ⟨rfl, hb2⟩
      have HB2 : Hid (Below w.heap.size w w2) := step HB1.out hb2
      clear hb2 HB1 hT
      go_wp2_with fail
      refine ent1 w2 _ _ (Q := fun W => Calls _ _ _ W _) ?_
      intro W2 hB2 hs2 V2
      have HB3 : Hid (Below w.heap.size w W2) := step HB2.out hB2
      refine (starts_any s W2 (by omega)).mono ?_
      rintro e w3 ⟨g, cap, rfl, hg3, hb3⟩
      have V3 := V2.after hb3
      have HB4 : Hid (Below w.heap.size w w3) := step HB3.out hb3
      have a0 : w3.cell? ⟨w2.heap.size, 0, none⟩ = some (.int .i64 120) := V3.cellAt 0
      have a1 : w3.cell? ⟨w2.heap.size, 1, none⟩ = some (.int .i64 L) := V3.cellAt 1
      have a2 : w3.cell? ⟨w2.heap.size, 2, none⟩ = some (.int .i64 C) := V3.cellAt 2
      have hll := hat.ll
      have cL := hg3.cell (L - 1) (by have := hat.l1; omega)
      have hpos := hat.at_
      have h1 := hat.l1
      have h2 := hat.c1
      have hbyte := str_at s p b hpb
      have hblank := blank_any b
      rw [hbk] at hblank
      simp only [List.length_cons] at hll
      have hLi : (L : Int) ≤ ((st 0 s).length.succ : Int) := by omega
      clear hb3 V3 HB3 V2 hB2 hs2 HB2 hg3 hat hbk hpb hll
      generalize (0 :: st 0 s).getD (L - 1) 0 = P at *
      generalize (st 0 s).length.succ = N at *
      obtain ⟨d, rfl⟩ : ∃ d, L = d + 1 := ⟨L - 1, by omega⟩
      rw [Nat.add_sub_cancel] at cL
      have a1' : w3.cell? ⟨w2.heap.size, 1, none⟩ = some (.int .i64 ((d : Int) + 1)) := a1
      have hLi' : (d : Int) + 1 ≤ N := by omega
      have hdN : (d : Int) < N := by omega
      have hd0 : (1 : Int) ≤ (d : Int) + 1 := by omega
      have hPC : (1 : Int) ≤ (P : Int) + C := by omega
      have hC1 : (1 : Int) ≤ C := by omega
      have HPI : Hid ((P : Int) + C - 1 = p) := by show _ = _; omega
      have hPl : (P : Int) + C ≤ 65537 := by omega
      have hpl2 : (p : Int) < s.length := by omega
      have x1 : IntKind.i64.wrap (d : Int) = (d : Int) := by rw [IntKind.wrap_i64]; omega
      have x2 : IntKind.i64.wrap ((P : Int) + C) = (P : Int) + C := by rw [IntKind.wrap_i64]; omega
      have x3 : IntKind.i64.wrap ((P : Int) + C - 1) = (p : Int) := by rw [IntKind.wrap_i64]; omega
      have hd00 : ¬ (d : Int) < 0 := by omega
      clear a1 hLi h1 hup
      go_wp2_with fail
      go_quiet (fail)
      go_wp2_with fail
      refine (hblank _).mono ?_
      rintro e w' ⟨rfl, hw'⟩
      rw [hw']; clear hw' w'
      go_wp2_with fail
      go_ret
      exact ⟨rfl, below_dN HB4.out _⟩
    | ok ts =>
      have hpl := places s _ 0 0 1 1 false ts (Nat.le_refl _) (At.start s) (Nat.le_refl _) rfl (fun h => by cases h) hT
      have hne := ok_ne _ (Nat.le_refl _) hT
      have htl : ts.length ≤ 200000 := by
        have h1 := len_nT ts
        have h2 := nT_cut _ (Nat.le_refl _) hT
        omega
      have ht1 : 1 ≤ ts.length := by cases ts with | nil => exact absurd rfl hne | cons _ _ => simp
      refine (cut_ok s ts w1 h hT).mono ?_
      rintro e w2 ⟨g, cap, rfl, hg2, hb2⟩
      have HG2 : Hid (Gt w2 w1.heap.size (.slice (some ⟨g, 0, none⟩) ts.length cap) ts) := hg2
      have HB2 : Hid (Below w.heap.size w w2) := step HB1.out hb2
      have HP : Hid (PL s 0 ts) := hpl
      clear hb2 HB1 hT hg2 hpl hne
      go_wp2_with fail
      refine ent1 w2 _ _ (Q := fun W => Calls _ _ _ W _) ?_
      intro W2 hB2 hs2 V2
      have HB3 : Hid (Below w.heap.size w W2) := step HB2.out hB2
      have HG3 : Hid (Gt W2 w1.heap.size (.slice (some ⟨g, 0, none⟩) ts.length cap) ts) := HG2.out.after hB2
      refine (starts_any s W2 (by omega)).mono ?_
      rintro e w3 ⟨gl, capl, rfl, hg3, hb3⟩
      have V3 := V2.after hb3
      have HB4 : Hid (Below w.heap.size w w3) := step HB3.out hb3
      have HGL : Hid (Gn w3 W2.heap.size (.slice (some ⟨gl, 0, none⟩) (st 0 s).length.succ capl) (0 :: st 0 s)) := hg3
      have HG4 : Hid (Gt w3 w1.heap.size (.slice (some ⟨g, 0, none⟩) ts.length cap) ts) := HG3.out.after hb3
      have a0 : w3.cell? ⟨w2.heap.size, 0, none⟩ = some (.int .i64 0) := V3.cellAt 0
      have a1 : w3.cell? ⟨w2.heap.size, 1, none⟩ = some (.int .i64 0) := V3.cellAt 1
      have a2 : w3.cell? ⟨w2.heap.size, 2, none⟩ = some (.int .i64 0) := V3.cellAt 2
      clear hb3 V3 HB3 V2 hB2 hs2 HB2 hg3 HG2 HG3
      have hNl : (st 0 s).length.succ ≤ 65537 := by have := st_len s 0; omega
      obtain ⟨N, hN⟩ : ∃ N, (st 0 s).length.succ = N := ⟨_, rfl⟩
      have HN : Hid ((0 :: st 0 s).length = N) := hN
      rw [hN] at HGL hNl ⊢
      clear hN
      go_wp2_with fail
      go_loopw [7, 8] (fun en i wr => ∃ k e : Nat, i = .int .i64 k ∧ en = .int .i64 e ∧ k ≤ ts.length ∧ e ≤ s.length ∧ Hid ((k < ts.length → PL s e (ts.drop k)) ∧ (k = ts.length → e = s.length)) ∧ Hid (Dr w3 wr)) (fun _ i _ => (ts.length - (intOf i).toNat : Nat))
      case atStart => exact ⟨0, 0, rfl, rfl, Nat.zero_le _, Nat.zero_le _, ⟨fun _ => HP.out, fun h => by omega⟩, Dr.refl _⟩
      case round =>
        clear HP a0 a1 a2
        obtain ⟨k, e, rfl, rfl, hk, hes, HP, HD⟩ := hrel
        rcases Nat.lt_or_ge k ts.length with hlt | hge
        · have hki : (k : Int) < ts.length := by omega
          obtain ⟨b0, b1, b2, b3⟩ := (HG4.out.after (HD.out.below _)).cellsA k hlt
          have hPL := HP.out.1 hlt
          have hdk : ts.drop k = ts.getD k tk0 :: ts.drop (k + 1) := by
            rw [List.drop_eq_getElem_cons hlt, List.getD_eq_getElem?_getD, List.getElem?_eq_getElem hlt]; rfl
          rw [hdk] at hPL
          generalize ts.getD k tk0 = X at *
          obtain ⟨n, hen, hat, hnl, htx, hbw, hkd, hte, hls, hnx⟩ := hPL
          obtain ⟨kd, tx, ln, co⟩ := X
          change wr.cell? ⟨g, k * 4, none⟩ = some (.int .i64 kd) at b0
          change wr.cell? ⟨g, k * 4 + 1, none⟩ = some (sv tx) at b1
          change wr.cell? ⟨g, k * 4 + 2, none⟩ = some (.int .i64 ln) at b2
          change wr.cell? ⟨g, k * 4 + 3, none⟩ = some (.int .i64 co) at b3
          change n + tx.length ≤ s.length at hnl
          change (s.drop n).take tx.length = tx at htx
          change kd = 0 ↔ ts.drop (k + 1) = [] at hkd
          change tx = [] ↔ ts.drop (k + 1) = [] at hte
          have hl1 := hat.l1
          have hc1 := hat.c1
          have hll := hat.ll
          have hpos := hat.at_
          rw [HN.out] at hll
          change (0 :: st 0 s).getD (ln - 1) 0 + co = n + 1 at hpos
          change 1 ≤ ln at hl1
          change 1 ≤ co at hc1
          change ln ≤ N at hll
          have cL := (HGL.out.after (HD.out.below _)).cell (ln - 1) (by rw [HN.out]; omega)
          generalize (0 :: st 0 s).getD (ln - 1) 0 = P at *
          obtain ⟨d, rfl⟩ : ∃ d, ln = d + 1 := ⟨ln - 1, by omega⟩
          rw [Nat.add_sub_cancel] at cL
          have b2' : wr.cell? ⟨g, k * 4 + 2, none⟩ = some (.int .i64 ((d : Int) + 1)) := b2
          have sl1 := slice_mid s n (n + tx.length : Int) n (n + tx.length) rfl (by omega) (by omega) hnl
          rw [Nat.add_sub_cancel_left, htx] at sl1
          have sl2 := slice_mid s e n e n rfl rfl hen (by omega)
          have btw := fun W => between_any ((s.drop e).take (n - e)) W (by rw [List.length_take, List.length_drop]; omega)
          rw [hbw] at btw
          generalize (s.drop e).take (n - e) = Y at *
          have hdN : (d : Int) < N := by omega
          have hdN1 : (d : Int) + 1 ≤ N := by omega
          have hd0 : (1 : Int) ≤ (d : Int) + 1 := by omega
          have hd00 : ¬ (d : Int) < 0 := by omega
          have hC1 : (1 : Int) ≤ co := by omega
          have x1 : IntKind.i64.wrap (d : Int) = (d : Int) := by rw [IntKind.wrap_i64]; omega
          have x2 : IntKind.i64.wrap ((P : Int) + co) = (P : Int) + co := by rw [IntKind.wrap_i64]; omega
          have x3 : IntKind.i64.wrap ((P : Int) + co - 1) = (n : Int) := by rw [IntKind.wrap_i64]; omega
          have x4 : IntKind.i64.wrap ((n : Int) + tx.length) = (n : Int) + tx.length := by rw [IntKind.wrap_i64]; omega
          have x5 : IntKind.i64.wrap ((ts.length : Int) - 1) = (ts.length : Int) - 1 := by rw [IntKind.wrap_i64]; omega
          have heni : (e : Int) ≤ n := by omega
          have hnli : (n : Int) + tx.length ≤ s.length := by omega
          have HNX : Hid (k + 1 < ts.length → PL s (n + tx.length) (ts.drop (k + 1))) := fun h' => hnx (by intro h0; have := congrArg List.length h0; simp at this; omega)
          have HLS : Hid (k + 1 = ts.length → n + tx.length = s.length) := fun h' => by
            have h0 : ts.drop (k + 1) = [] := by rw [h']; simp
            have h1 := hls h0
            have h2 := hte.2 h0
            rw [h2]; exact h1
          have hk9 : k + 1 ≤ 200001 := by omega
          have HNN : Hid (n + tx.length ≤ s.length) := hnl
          clear hdk hat htx hbw hls hnx b2 hpos hl1 hc1 hll HP
          have cx : (tx == tx) = true := by simp
          have q1 : decide (n < e) = false := by simp; omega
          have q2 : decide (s.length < n + tx.length) = false := by simp; omega
          have q3 : decide ((s.length : Int) < (n : Int) + tx.length) = false := by simp; omega
          have q4 : decide ((d : Int) + 1 < 1) = false := by simp; omega
          have q5 : decide ((N : Int) < (d : Int) + 1) = false := by simp; omega
          have q6 : decide ((co : Int) < 1) = false := by simp; omega
          by_cases hlast : k + 1 = ts.length
          · have h0 : ts.drop (k + 1) = [] := by rw [hlast]; simp
            have ci : ((k : Int) == (ts.length : Int) - 1) = true := by simp; omega
            have cj : ((kd : Int) == 0) = true := by simp [hkd.2 h0]
            have ck : (tx == []) = true := by simp [hte.2 h0]
            have ck2 : ([] == tx) = true := by simp [hte.2 h0]
            clear h0 hkd hte
            go_wp2_with fail
            go_quiet (fail)
            go_wp2_with fail
            refine wp_region_quiet_lit (by kernel_rfl) (by kernel_rfl) ?_
            repeat (go_big_quiet_step (fail))
            go_big_quiet_step ((refine (btw _).mono ?_; rintro e w2 ⟨rfl, rfl⟩; exact ⟨rfl, _, by first | rfl | (rw [World.drewN_drewN])⟩))
            repeat (go_big_quiet_step (fail))
            refine wpQuiet_nil ?_
            intro _ hw'
            obtain ⟨nq, hw''⟩ := hw'
            subst hw''
            go_wp2_with fail
            try go_quiet (fail)
            go_wp2_with fail
            go_roundw
            case rel => exact ⟨k + 1, n + tx.length, rfl, by simp, by omega, HNN.out, ⟨HNX.out, HLS.out⟩, by first | exact HD.out.dr _ | exact (HD.out.dr _).dr _ | exact ((HD.out.dr _).dr _).dr _⟩
            case measure => simp [intOf]; omega
          · have hne0 : ts.drop (k + 1) ≠ [] := by intro h0; have := congrArg List.length h0; simp at this; omega
            have hkd0 : ¬ kd = 0 := fun h => hne0 (hkd.1 h)
            have htx0 : ¬ tx = [] := fun h => hne0 (hte.1 h)
            have ci : ((k : Int) == (ts.length : Int) - 1) = false := by simp; omega
            have cj : ((kd : Int) == 0) = false := by simp; omega
            have ck : (tx == []) = false := by simpa using htx0
            have ck2 : ([] == tx) = false := by simpa using htx0
            clear hkd hte hne0 hkd0 htx0
            go_wp2_with fail
            go_quiet (fail)
            go_wp2_with fail
            refine wp_region_quiet_lit (by kernel_rfl) (by kernel_rfl) ?_
            repeat (go_big_quiet_step (fail))
            go_big_quiet_step ((refine (btw _).mono ?_; rintro e w2 ⟨rfl, rfl⟩; exact ⟨rfl, _, by first | rfl | (rw [World.drewN_drewN])⟩))
            repeat (go_big_quiet_step (fail))
            refine wpQuiet_nil ?_
            intro _ hw'
            obtain ⟨nq, hw''⟩ := hw'
            subst hw''
            go_wp2_with fail
            try go_quiet (fail)
            go_wp2_with fail
            go_roundw
            case rel => exact ⟨k + 1, n + tx.length, rfl, by simp, by omega, HNN.out, ⟨HNX.out, HLS.out⟩, by first | exact HD.out.dr _ | exact (HD.out.dr _).dr _ | exact ((HD.out.dr _).dr _).dr _⟩
            case measure => simp [intOf]; omega
        · obtain rfl : k = ts.length := by omega
          have hee := HP.out.2 rfl
          subst hee
          clear hge HP
          go_wp2_with fail
          go_ret
          exact ⟨rfl, HB4.out.trans (HD.out.below _)⟩
theorem plc_w (s : ByteArray) (w : World) (hs : s.data.toList.length ≤ 1048576) : Calls Try.prog 4 #[.string s] w fun e w' => e = .returned (.bool true) ∧ Below w.heap.size w w' := by
  rw [sv_of]; exact plc_walk s.data.toList w hs
end Go.Proofs.Ytiedpclomplnmaa
