/-
  The document's Make and Text of layer 6.
-/
import Derived.Test.YtebbblhafjaaiaaGreatDoorDp1
import Derived.Test.YtebbblhafjaaiaaGreatDoorDd1
import Derived.Test.YtebbblhafjaaiaaGreatDoorTeW3
import Derived.Test.YtebbblhafjaaiaaGreatDoorDec3
namespace Go.Proofs.YtebbblhafjaaiaaGreatDoor
open Go.RowKit Go.Shelf
set_option linter.unusedVariables false

set_option maxHeartbeats 2000000 in
theorem rmake6_ok (U : Int) (P : Nat) (hP : P ≤ 9) (h1 : -9223372036854775808 ≤ U) (h2 : U ≤ 9223372036854775807) (w : World) :
    Calls Tryz.prog 9 #[.int .i64 U, .int .i64 P] w fun e w' => e = .returned (.tuple #[.agg #[.int .i64 (mkd U P).1, .int .i64 (mkd U P).2], .int .i64 0]) ∧ Below w.heap.size w w' := by
  have p0 : ¬ (P : Int) < 0 := by omega
  have p9 : ¬ (9 : Int) < (P : Int) := by omega
  have p0n : decide ((P : Int) < 0) = false := decide_eq_false p0
  have p9n : decide (9 < P) = false := by simp; omega
  go_enter Tryz.func9, Tryz.ntmps9
  go_wp2_with fail
  clear p0 p9 p0n p9n
  go_loop [0, 1] (fun x p => ∃ (V : Int) (q : Nat), x = .int .i64 V ∧ p = .int .i64 q ∧ q ≤ 9 ∧ -9223372036854775808 ≤ V ∧ V ≤ 9223372036854775807 ∧ Hid (mkd V q = mkd U P)) (fun _ p => (intOf p).toNat)
  case atStart => exact ⟨U, P, rfl, rfl, hP, h1, h2, rfl⟩
  case round =>
    obtain ⟨V, q, rfl, rfl, hq, hV1, hV2, HM⟩ := hrel
    have FIN : Hid (mkd V q = (V, q) → (mkd U P).1 = V ∧ (mkd U P).2 = q) := fun e => ⟨by rw [← HM.out, e], by rw [← HM.out, e]⟩
    cases q with
    | zero =>
      have hq0 : ¬ (0 : Int) < ((0 : Nat) : Int) := by omega
      go_wp2_with fail
      refine bodyPost_ret (results_dt rfl rfl (Va.new w _ _)) rfl ?_
      obtain ⟨g2, g3⟩ := FIN.out rfl
      rw [g2, g3]
      exact ⟨rfl, (Below.refl _ _).alloc (Nat.le_refl _) _⟩
    | succ p =>
      have hq0 : (0 : Int) < ((p + 1 : Nat) : Int) := by omega
      by_cases hm : V.tmod 10 = 0
      · have hb := tdiv_ten hm
        obtain ⟨Y, hY⟩ : ∃ Y, V.tdiv 10 = Y := ⟨_, rfl⟩
        have HE : Hid (mkd Y p = mkd U P) := by
          have h' := HM.out
          have e : mkd V (p + 1) = if V.tmod 10 = 0 then mkd (V.tdiv 10) p else (V, p + 1) := rfl
          rw [e, if_pos hm, hY] at h'
          exact h'
        rw [hY] at hb
        have y1 : -9223372036854775808 ≤ Y := by omega
        have y2 : Y ≤ 9223372036854775807 := by omega
        have eY : IntKind.i64.wrap Y = Y := by rw [IntKind.wrap_i64]; omega
        clear hb FIN
        go_wp2_with fail
        go_round
        case rel => exact ⟨Y, p, rfl, by go_num, by omega, y1, y2, HE⟩
        case measure => simp [intOf]
      · obtain ⟨m, hm'⟩ : ∃ m, V.tmod 10 = m := ⟨_, rfl⟩
        have hm0 : (m == 0) = false := by rw [hm'] at hm; simpa using hm
        have HN : Hid (mkd V (p + 1) = (V, p + 1)) := by show mkd V (p + 1) = _; unfold mkd; rw [if_neg hm]
        clear hm
        go_wp2_with fail
        refine bodyPost_ret (results_dt rfl rfl (Va.new w _ _)) rfl ?_
        obtain ⟨g2, g3⟩ := FIN.out HN.out
        rw [g2, g3]
        exact ⟨rfl, (Below.refl _ _).alloc (Nat.le_refl _) _⟩
set_option maxHeartbeats 2000000 in
theorem rmake6_no (U P : Int) (h : ¬ (0 ≤ P ∧ P ≤ 9)) (w : World) :
    Calls Tryz.prog 9 #[.int .i64 U, .int .i64 P] w fun e w' => e = .returned (.tuple #[.agg #[.int .i64 0, .int .i64 0], .int .i64 60]) ∧ Below w.heap.size w w' := by
  by_cases h0 : P < 0
  · have b0 : decide (P < 0) = true := decide_eq_true h0
    go_enter Tryz.func9, Tryz.ntmps9
    go_wp2_with fail
    refine bodyPost_ret (results_dt rfl rfl (Va.new w _ _)) rfl ?_
    exact ⟨rfl, (Below.refl _ _).alloc (Nat.le_refl _) _⟩
  · have b0 : decide (P < 0) = false := decide_eq_false h0
    have h9 : 9 < P := by omega
    have b9 : decide (9 < P) = true := decide_eq_true h9
    go_enter Tryz.func9, Tryz.ntmps9
    go_wp2_with fail
    refine bodyPost_ret (results_dt rfl rfl (Va.new w _ _)) rfl ?_
    exact ⟨rfl, (Below.refl _ _).alloc (Nat.le_refl _) _⟩
set_option maxHeartbeats 2000000 in
theorem rpointed6 (s : List UInt8) (P : Nat) (neg : Bool) (hP : P < s.length) (hs : s.length ≤ 1000000) (w : World) :
    Calls Tryz.prog 49 #[.string ⟨s.toArray⟩, .int .i64 P, .bool neg] w fun e w' => e = .returned (.string ⟨(sgL neg (ptL P s)).toArray⟩) ∧ Below w.heap.size w w' := by
  have B0 : Below w.heap.size w w := Below.refl _ _
  by_cases h0 : P = 0
  · subst h0
    have e0 : ptL 0 s = s := rfl
    rw [e0]
    cases neg
    · go_enter Tryz.func49, Tryz.ntmps49
      go_wp2_with fail
      go_ret
      exact ⟨rfl, B0⟩
    · have hcat := cat [45] s
      go_enter Tryz.func49, Tryz.ntmps49
      go_wp2_with fail
      go_ret
      exact ⟨rfl, B0⟩
  · have hpi : (0 : Int) < P := by omega
    have s1 := slice_hi s ((s.length : Int) - P) (s.length - P) (by omega) (by omega)
    have s2 := slice_lo s ((s.length : Int) - P) (s.length - P) (by omega) (by omega)
    have c1 := cat (s.take (s.length - P)) [46]
    have c2 := cat (s.take (s.length - P) ++ [46]) (s.drop (s.length - P))
    have c3 := cat [45] (s.take (s.length - P) ++ [46] ++ s.drop (s.length - P))
    have HE : Hid (ptL P s = s.take (s.length - P) ++ 46 :: s.drop (s.length - P)) := by show ptL P _ = _; unfold ptL; rw [if_neg (by omega)]
    cases neg
    · go_enter Tryz.func49, Tryz.ntmps49
      go_wp2_with fail
      go_quiet (fail)
      go_wp2_with fail
      go_ret
      refine ⟨?_, below_dN B0 _⟩
      rw [HE.out]
      have e : sgL false (s.take (s.length - P) ++ 46 :: s.drop (s.length - P)) = s.take (s.length - P) ++ [46] ++ s.drop (s.length - P) := by unfold sgL; simp
      first | rfl | (rw [e]; rfl) | (unfold sgL; rfl) | (unfold sgL; simp)
    · go_enter Tryz.func49, Tryz.ntmps49
      go_wp2_with fail
      go_quiet (fail)
      go_wp2_with fail
      go_ret
      refine ⟨?_, below_dN B0 _⟩
      rw [HE.out]
      have e : sgL true (s.take (s.length - P) ++ 46 :: s.drop (s.length - P)) = [45] ++ (s.take (s.length - P) ++ [46] ++ s.drop (s.length - P)) := by unfold sgL; simp
      first | rfl | (rw [e]; rfl) | (unfold sgL; rfl) | (unfold sgL; simp)
/-- Noughts behind digits, the lowest first, are noughts ahead of the text. -/
theorem tB3_pad (os : List Int) (k : Nat) : tB3 (os ++ List.replicate k 0) = List.replicate k 48 ++ tB3 os := by
  unfold tB3
  rw [List.map_append, List.reverse_append, List.map_replicate, List.reverse_replicate]
  rfl
theorem DgI.pad {os : List Int} (h : DgI 10 os) (k : Nat) : DgI 10 (os ++ List.replicate k 0) := fun z hz => by
  rcases List.mem_append.1 hz with h' | h'
  · exact h z h'
  · rw [List.eq_of_mem_replicate h']; exact ⟨by omega, by omega⟩
set_option maxRecDepth 20000 in
set_option maxHeartbeats 2000000 in
theorem rtold6 (least : Nat) (hleast : least ≤ 5000) (a : Option Addr) (la ca : Nat) (zs : List Int) (w : World) (h : Sl w a la zs) (hl : la ≤ 1100000) (hM : ∀ n : Nat, ((10 : Nat) : Int) ^ n ≤ num zs → n ≤ 300000) (hN0 : 0 ≤ num zs) :
    Calls Tryz.prog 46 #[.slice a la ca, .int .i64 least] w fun e w' => ∃ t, e = .returned (.string ⟨(List.replicate (least - t.length) 48 ++ t).toArray⟩) ∧ Tx 10 t (num zs).toNat ∧ t.length ≤ 300100 ∧ Below w.heap.size w w' := by
  have wo := worthsB 10 (by omega) (by omega) a la ca zs w h hl hM hN0
  generalize num zs = N at *
  clear h hM
  go_enter Tryz.func46, Tryz.ntmps46
  go_wp2_with fail
  go_at_call 102
  refine wo.mono ?_
  rintro e x1 ⟨v, os, rfl, hG, hne, hdg, hlv, hlen, htp, hb1⟩
  have hTx := tB3_tx (by omega) (by omega) hdg hne hlv htp
  have HTX : Hid (Tx 10 (tB3 os) N.toNat) := hTx
  have HNE : Hid (os ≠ []) := hne
  have HDG : Hid (DgI 10 os) := hdg
  have HG0 : Hid (Gr x1 w.heap.size v os) := hG
  have HB1 : Hid (Below w.heap.size w x1) := hb1
  have hlB := hG.lenB
  clear hTx hne hdg hlv htp hG wo hb1
  go_wp2_with fail
  go_loopw [5] (fun vv wr => ∃ k : Nat, k ≤ least - os.length ∧ Hid (Gr wr w.heap.size vv (os ++ List.replicate k 0)) ∧ Hid (Below w.heap.size w wr)) (fun vv _ => least - slenB vv)
  case atStart => exact ⟨0, by omega, by simpa using HG0, HB1⟩
  case round =>
    obtain ⟨k, hk, HG, HB⟩ := hrel
    clear HG0 HB1
    have hdg := HDG.out.pad k
    obtain ⟨cs, hcs⟩ : ∃ cs, os ++ List.replicate k 0 = cs := ⟨_, rfl⟩
    have HCS : Hid (os ++ List.replicate k 0 = cs) := hcs
    have hcl : cs.length = os.length + k := by rw [← hcs]; simp
    rw [hcs] at HG hdg
    obtain ⟨a5, c5, rfl, hc5, hs5⟩ := HG.out.sl (hdg.limbs (by omega))
    obtain ⟨L, hL⟩ : ∃ L, cs.length = L := ⟨_, rfl⟩
    have HLN : Hid (cs.length = L) := hL
    rw [hL] at hcl hc5
    by_cases hlt : L < least
    · have hli : (L : Int) < least := by omega
      have HSZ : Hid (w.heap.size ≤ (wr.alloc (.cells #[.int .u64 0] 94)).heap.size) := by show _ ≤ _; have := HB.out.size; simp; omega
      have HGA : Hid (Gr (wr.alloc (.cells #[.int .u64 0] 94)) w.heap.size (.slice a5 L c5) cs) := by have := HG.out.alloc (.cells #[.int .u64 0] 94); rw [HLN.out] at this; exact this
      have HBA : Hid (Below w.heap.size w (wr.alloc (.cells #[.int .u64 0] 94))) := HB.out.alloc HB.out.size _
      rw [hL]
      clear hcs hdg hs5 HG HB hL
      go_wp2_with (at_builtin; refine wpList_app rfl (.tmp 14) (.tmp 15) rfl w.heap.size (.slice a5 L c5) cs rfl HGA.out wr.heap.size 1 1 [0] rfl rfl (heap_alloc_new _ _) (by have := HLN.out; omega) HSZ.out ?_; intro v1 w1 hG1 hb1)
      have HB2 : Hid (Below w.heap.size w w1) := HBA.out.trans hb1
      have HG2 : Hid (Gr w1 w.heap.size v1 (os ++ List.replicate (k + 1) 0)) := by
        have e : os ++ List.replicate (k + 1) 0 = cs ++ [0] := by rw [← HCS.out, List.replicate_succ', List.append_assoc]
        rw [e]; exact hG1.out
      have hl2 := HG2.out.lenB
      rw [List.length_append, List.length_replicate] at hl2
      clear hb1 hG1 HGA HBA HSZ
      go_wp2_with fail
      go_roundw
      case rel => exact ⟨k + 1, by omega, HG2, HB2⟩
      case measure => simp [slenB] at hl2 ⊢; omega
    · have hli : ¬ (L : Int) < least := by omega
      have hk2 : k = least - os.length := by omega
      have HT : Hid (tB3 cs = List.replicate (least - (tB3 os).length) 48 ++ tB3 os) := by show _ = _; rw [← HCS.out, tB3_pad, tB3_len, hk2]
      have HTL : Hid ((tB3 os).length ≤ 300100) := by show _ ≤ _; rw [tB3_len]; exact hlen
      have HDC : Hid (DgI 10 cs) := hdg
      have L1 : 1 ≤ L := by have := List.length_pos_iff.2 HNE.out; omega
      have L2 : L ≤ 310000 := by omega
      obtain ⟨g, cap, he5, hg0, hg1, hcc, hWb⟩ : ∃ g cap, (.slice a5 cs.length c5 : Value) = .slice (some ⟨g, 0, none⟩) cs.length cap ∧ w.heap.size ≤ g ∧ g < wr.heap.size ∧ cs.length ≤ cap ∧ Wb wr g cs.length cs := by
        rcases HG.out.shape with ⟨-, e2⟩ | h
        · rw [e2] at hL; simp at hL; omega
        · exact h
      injection he5 with he5 _ he6
      subst he5
      subst he6
      have HW : Hid (Wb wr g cs.length cs) := hWb
      have HB0 : Hid (Below w.heap.size w wr) := HB.out
      rw [hL]
      clear hk2 hcl hdg hs5 HG HB hWb hL hcs HDG HNE HCS
      go_wp2_with fail
      obtain ⟨x2, hx2⟩ : ∃ x2, x2 = wr := ⟨_, rfl⟩
      subst hx2
      have U0 : Hid (GrU x2 x2.heap.size (.slice none 0 0) (tB3 (cs.drop L))) := by rw [← HLN.out, List.drop_length]; exact GrU.nil _ _
      go_loopw [6, 7] (fun bv ii W => ∃ k : Nat, k ≤ L ∧ ii = .int .i64 ((k : Int) - 1) ∧ Hid (GrU W x2.heap.size bv (tB3 (cs.drop k))) ∧ Hid (Below x2.heap.size x2 W)) (fun _ ii _ => (intOf ii + 1).toNat)
      case atStart => exact ⟨L, Nat.le_refl _, rfl, U0, Below.refl _ _⟩
      case round =>
        obtain ⟨k2, hk2, rfl, HU, HBr⟩ := hrel
        clear U0
        by_cases hk0 : k2 = 0
        · subst hk0
          have hki : ¬ (0 : Int) ≤ ((0 : Nat) : Int) - 1 := by omega
          have hU := HU.out
          rw [List.drop_zero] at hU
          have hcv := hU.conv (by intro e; have := tB3_len cs; rw [e] at this; simp at this; have := HLN.out; omega)
          have HB2 := step HB0.out HBr.out
          clear hU HU HBr HDC
          rw [HT.out] at hcv
          generalize tB3 os = T at *
          go_wp2_with fail
          go_ret
          exact ⟨T, rfl, HTX.out, HTL.out, HB2⟩
        · obtain ⟨j, rfl⟩ : ∃ j, k2 = j + 1 := ⟨k2 - 1, by omega⟩
          have hki : (0 : Int) ≤ ((j + 1 : Nat) : Int) - 1 := by omega
          have hlt2 : j < cs.length := by rw [HLN.out]; omega
          have hd := HDC.out.getD hlt2
          have hc := (HW.out.below HBr.out hg1).cell j hlt2
          have hst := tB3_drop cs hlt2
          obtain ⟨x, hx⟩ : ∃ x, cs.getD j 0 = x := ⟨_, rfl⟩
          rw [hx] at hd hc hst
          have HST : Hid (tB3 (cs.drop j) = tB3 (cs.drop (j + 1)) ++ [ltr x]) := hst
          have jL : (j : Int) < L := by rw [← HLN.out]; omega
          obtain ⟨x0, x1b⟩ := hd
          have hlv := ltr_val x0 (by omega)
          rw [if_pos (by omega)] at hlv
          obtain ⟨c, hcc2⟩ : ∃ c, ltr x = c := ⟨_, rfl⟩
          have HLT : Hid (ltr x = c) := hcc2
          rw [hcc2] at hlv
          have w64 : IntKind.u64.wrap (48 + x) = 48 + x := by rw [IntKind.wrap_u64]; omega
          have w8 : IntKind.u8.wrap (48 + x) = (c.toNat : Int) := by rw [hlv]; show (48 + x) % 256 = _; omega
          have hlen2 : (tB3 (cs.drop (j + 1))).length + 1 ≤ 17592186044416 := by rw [tB3_len, List.length_drop]; have := HLN.out; omega
          rw [show (((j + 1 : Nat) : Int) - 1) = (j : Int) by omega] at *
          clear hst hx hki hcc2 hlv
          have hji : (0 : Int) ≤ j := by omega
          have hsA : x2.heap.size ≤ (wr.alloc (.cells #[.int .u8 (c.toNat : Int)] 5)).heap.size := by have := HBr.out.size; simp; omega
          have HUa : Hid (GrU (wr.alloc (.cells #[.int .u8 (c.toNat : Int)] 5)) x2.heap.size u6 (tB3 (cs.drop (j + 1)))) := HU.out.alloc _
          have HC1 : Hid ((wr.alloc (.cells #[.int .u8 (c.toNat : Int)] 5)).cell? ⟨wr.heap.size, 0, none⟩ = some (.int .u8 (c.toNat : Int))) := (Va.new wr 5 #[.int .u8 (c.toNat : Int)]).cell
          have HBa : Hid (Below x2.heap.size x2 (wr.alloc (.cells #[.int .u8 (c.toNat : Int)] 5))) := HBr.out.alloc HBr.out.size _
          clear HU HBr
          go_wp2_with (at_builtin; refine wpList_appU rfl (.tmp 24) (.tmp 31) rfl x2.heap.size u6 _ rfl HUa.out wr.heap.size c rfl HC1.out hlen2 hsA ?_; intro v2 w2 HG2 hb2)
          have HB3 : Hid (Below x2.heap.size x2 w2) := HBa.out.trans hb2
          have HG3 : Hid (GrU w2 x2.heap.size v2 (tB3 (cs.drop j))) := by rw [HST.out, HLT.out]; exact HG2.out
          clear hb2 HG2 HUa HC1 HBa
          go_wp2_with fail
          go_roundw
          case rel => exact ⟨j, by omega, rfl, HG3, HB3⟩
          case measure => simp [intOf]
theorem rtext6_no (U P : Int) (h : ¬ CanI U P) (w : World) : Calls Tryz.prog 13 #[.agg #[.int .i64 U, .int .i64 P]] w fun e w' => e = .returned (.tuple #[.string ⟨#[]⟩, .int .i64 60]) ∧ Below w.heap.size w w' := by
  have B0 : Below w.heap.size w w := Below.refl _ _
  go_enter Tryz.func13, Tryz.ntmps13
  go_wp2_with fail
  refine ent1 w _ _ (Q := fun W => Calls Tryz.prog _ _ W _) ?_
  intro x1 hb hs_x1 V0
  replace B0 := step B0 hb
  clear hb hs_x1
  refine (rcheck6_no U P h _).mono ?_
  rintro e x2 ⟨rfl, hb⟩
  replace V0 := Va.after hb V0
  replace B0 := step B0 hb
  clear hb
  go_wp2_with fail
  go_ret2
  exact ⟨rfl, B0⟩
theorem ten_few {n : Nat} {x : Int} (h : ((10 : Nat) : Int) ^ n ≤ x) (hx : x ≤ 18446744073709551616) : n ≤ 300000 := by
  rcases Nat.lt_or_ge 300000 n with h1 | h1
  · exfalso
    have h2 : (10 : Int) ^ 20 ≤ 10 ^ n := by
      have := Nat.pow_le_pow_right (n := 10) (by omega) (show 20 ≤ n by omega)
      exact_mod_cast this
    have h3 : (18446744073709551616 : Int) < 10 ^ 20 := by decide
    have h4 : ((10 : Nat) : Int) ^ n = (10 : Int) ^ n := rfl
    omega
  · exact h1
end Go.Proofs.YtebbblhafjaaiaaGreatDoor
