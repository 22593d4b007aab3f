/-
  order: sorted, walked.
-/
import Derived.Test.YtonhooaboieapaaOd3
namespace Go.Proofs.Ytonhooaboieapaa
open Go.RowKit Go.Shelf
set_option linter.unusedVariables false
set_option linter.unusedSimpArgs false

set_option maxRecDepth 20000 in
set_option maxHeartbeats 8000000 in
theorem sorted_any (n : Nat) (hn : n ≤ 4096) (b0 : Nat) (N : Nat → List Nat) (w : World) (h : Rw n w b0 N) (hl : ∀ p, (N p).length ≤ 65536) (hN : ∀ x y, y ∈ N x → x < n ∧ y < n) :
    Calls Try.prog 29 #[.slice (some ⟨b0, 0, none⟩) n n] w fun e w' => (∃ lst out, e = .returned lst ∧ So (Rn N) n out ∧ (∀ x, ¬ AvN (Rn N) n out x) ∧ Ge elI w' w.heap.size lst (ints out)) ∧ Below w.heap.size w w' := by
  have HTu := turned_any n hn b0 N w h hl hN
  have HR : Hid (Rw n w b0 N) := h
  have HLe : Hid (∀ p, (N p).length ≤ 65536) := hl
  have HNn : Hid (∀ x y, y ∈ N x → x < n ∧ y < n) := hN
  have hm := fun W => make_int n (by omega) W
  clear h hl hN
  go_enter Try.func29, Try.ntmps29
  go_wp2_with (go_at_call 34; refine HTu.mono ?_; rintro e w1 ⟨f, T, rfl, hD, hTn, hTl⟩; have HRT : Hid (Rw n w1 w.heap.size T) := hD.rows; have HTn : Hid (Tn N n T) := hTn; have HTl : Hid (∀ x, (T x).length ≤ 300000000) := hTl; have HB1 : Hid (Below w.heap.size w w1) := hD.below; clear hD hTn hTl HTu)
  refine ent3 w1 _ _ _ _ _ _ (Q := fun W => Code.wp _ _ _ _ W) ?_
  intro W2 hB2 hs2 V0 V1 V2
  have HS0 : Hid (Sd n w1 W2 (w1.heap.size + 1) (w1.heap.size + 1 + 1) (fun _ => 0) (.slice (some ⟨w1.heap.size, 0, none⟩) 0 0) (.slice none 0 0) [] []) := by
    refine ⟨⟨V1, Ge.of (E := elI) V0 (Nat.le_refl _) rfl rfl (by decide), fun k _ h => absurd h (by simp), by omega⟩, Fn.zeros V2, Ge.nil _ _, fun e => ?_, fun e => (by cases e), fun c hc => (by cases hc), hB2, by omega, by omega⟩
    have e2 : some w1.heap.size = some (w1.heap.size + 1 + 1) := e
    have := Option.some.inj e2
    omega
  have HR0 : Hid (Rs N 0 (fun _ => 0) []) := Rs.start N _
  clear V0 V1 V2 hB2 hs2
  go_loopw [20] (fun j wr => ∃ (k : Nat) (miss : Nat → Nat) (v : Value) (l : List Int), j = .int .i64 k ∧ k ≤ n ∧ Hid (Sd n w1 wr (w1.heap.size + 1) (w1.heap.size + 1 + 1) miss v (.slice none 0 0) l []) ∧ Hid (Rs N k miss l)) (fun j _ => (n - (intOf j).toNat : Nat))
  case atStart => exact ⟨0, _, _, _, rfl, Nat.zero_le _, HS0.out, HR0.out⟩
  case round =>
    clear HS0 HR0
    obtain ⟨k, miss, v, l, rfl, hk, HS, HRs⟩ := hrel
    have HBw : Hid (Below w.heap.size w wr) := HB1.out.trans (HS.out.below.mono HB1.out.size)
    rcases Nat.lt_or_ge k n with hlt | hge
    · have hki : (k : Int) < n := by omega
      obtain ⟨a, c, ck0, -⟩ := HR.out.cell hlt
      have ck := (HBw.out.cell (p := ⟨b0, k, none⟩) HR.out.lt).trans ck0
      have fm := Fv.frozen HS.out.mis k
      have cm := Fn.cell HS.out.mis hlt
      obtain ⟨m, hm0⟩ : ∃ m, (N k).length = m := ⟨_, rfl⟩
      have HM : Hid ((N k).length = m) := hm0
      have hl6 := HLe.out k
      rw [hm0] at ck hl6
      clear ck0 hm0
      cases m with
      | zero =>
        have HS1 : Hid (Sd n w1 (wr.setCell ⟨w1.heap.size + 1 + 1, k, none⟩ (.int .i64 0)) (w1.heap.size + 1) (w1.heap.size + 1 + 1) (upf miss k 0) v (.slice none 0 0) l []) := HS.out.miss k 0 rfl
        have HRs1 : Hid (Rs N (k + 1) (upf miss k 0) (l ++ [(k : Int)])) := by
          have := HRs.out.one HM.out
          rwa [HM.out] at this
        clear HS HRs
        obtain ⟨av, cv, rfl, -, -, -⟩ := HS1.out.hv.ge.shape
        have cb := HS1.out.hv.va.cell
        have HLn : Hid (l.length + 1 ≤ 1000000000000) := by
          have := HRs1.out.few
          show _ ≤ _; simp at this; omega
        have HRo : Hid (Ge elR (wr.setCell ⟨w1.heap.size + 1 + 1, k, none⟩ (.int .i64 0)) w1.heap.size (.slice av l.length cv) l) := ge_R.2 HS1.out.hv.ge
        have HVN : Hid (Le elR ((wr.setCell ⟨w1.heap.size + 1 + 1, k, none⟩ (.int .i64 0)).alloc (.cells #[.int .i64 (k : Int)] 3)) (some ⟨wr.heap.size, 0, none⟩) 1 [(k : Int)]) := Le.one (by have := Va.new (wr.setCell ⟨w1.heap.size + 1 + 1, k, none⟩ (.int .i64 0)) 3 #[.int .i64 (k : Int)]; rwa [World.size_setCell] at this) rfl
        have HLe2 : Hid (w1.heap.size ≤ (wr.setCell ⟨w1.heap.size + 1 + 1, k, none⟩ (.int .i64 0)).heap.size) := HS1.out.hv.le
        go_wp2_with (at_builtin; refine wpList_appE rfl _ _ _ rfl elR rfl w1.heap.size _ l rfl (HRo.out.al _) wr.heap.size 0 1 1 [(k : Int)] rfl HVN.out HLn.out (by have := HLe2.out; simp at this ⊢; omega) ?_; intro v' w5 hg5 hgr5 hob5; have HS5 : Hid (Sd n w1 (w5.setCell ⟨w1.heap.size + 1, 0, none⟩ v') (w1.heap.size + 1) (w1.heap.size + 1 + 1) (upf miss k 0) v' (.slice none 0 0) (l ++ [(k : Int)]) []) := HS1.out.put hgr5 (ge_R.1 hg5) HRs1.out.hp hob5; have hvb : Va w5 (w1.heap.size + 1) 52 _ := (hgr5.block _ (by have := HS1.out.hv.va.lt; simp at this ⊢; omega) (fun e => HS1.out.hv.ge.apart HS1.out.hv.va (by decide) e.symm)).trans (HS1.out.hv.va.old _); have fb5 := hvb.frozen 0; have cb5 := hvb.cell; clear hgr5 hob5 hvb; obtain ⟨a5, c5, rfl, -, -, -⟩ := hg5.shape; clear hg5 cb)
        go_roundw
        case rel => exact ⟨k + 1, _, .slice a5 (l.length + 1) c5, l ++ [(k : Int)], rfl, by omega, (by show Sd _ _ _ _ _ _ _ _ _ _; have h9 := HS5.out; rw [List.length_append] at h9; exact h9), HRs1.out⟩
        case measure => simp [intOf]; omega
      | succ m =>
        have HS1 : Hid (Sd n w1 (wr.setCell ⟨w1.heap.size + 1 + 1, k, none⟩ (.int .i64 ((m + 1 : Nat) : Int))) (w1.heap.size + 1) (w1.heap.size + 1 + 1) (upf miss k (m + 1)) v (.slice none 0 0) l []) := HS.out.miss k (m + 1) rfl
        have HRs1 : Hid (Rs N (k + 1) (upf miss k (m + 1)) l) := by
          have := HRs.out.none (by rw [HM.out]; omega)
          rwa [HM.out] at this
        have hmi : ¬ ((m + 1 : Nat) : Int) = 0 := by omega
        clear HS HRs
        go_wp2_with fail
        go_roundw
        case rel => exact ⟨k + 1, _, _, _, rfl, by omega, HS1.out, HRs1.out⟩
        case measure => simp [intOf]; omega
    · obtain rfl : k = n := by omega
      clear hge hk
      obtain ⟨hc1, hc2⟩ := HRs.out.done
      have HC1 : Hid (HpS k [] miss l) := hc1
      have HC2 : Hid (∀ p, p < k → miss p = wts N [] p) := hc2
      clear hc1 hc2 HRs HBw
      go_wp2_with fail
      have HV0 : Hid (Sd k w1 wr (w1.heap.size + 1) (w1.heap.size + 1 + 1) miss v (.slice none 0 0) l []) := HS.out
      have HG0 : Hid (So (Rn N) k []) := So.nil k
      clear HS
      go_loopw [8] (fun lst wz => ∃ (out : List Nat) (miss : Nat → Nat) (v : Value) (l : List Int), Hid (Sd k w1 wz (w1.heap.size + 1) (w1.heap.size + 1 + 1) miss v lst l out) ∧ Hid (HpS k out miss l) ∧ Hid (∀ p, p < k → miss p = wts N out p) ∧ Hid (So (Rn N) k out)) (fun lst _ => (k + 1 - lenV lst : Nat))
      case atStart => exact ⟨[], _, _, _, HV0.out, HC1.out, HC2.out, HG0.out⟩
      case round =>
        clear HV0 HG0 HC1 HC2
        obtain ⟨out, miss, v, l, HS, HC, HM, HG⟩ := hrel
        have hll := HC.out.few
        obtain ⟨av, cv, rfl, -, -, hsh⟩ := HS.out.hv.ge.shape
        have cb := HS.out.hv.va.cell
        have fb := HS.out.hv.va.frozen 0
        obtain ⟨al, cl, rfl, -, -, -⟩ := HS.out.told.shape
        have hol := HG.out.few
        have HBw : Hid (Below w.heap.size w wr) := HB1.out.trans (HS.out.below.mono HB1.out.size)
        rcases Nat.eq_zero_or_pos l.length with h0 | h0
        · have hl0 : l = [] := List.length_eq_zero_iff.1 h0
          have HAll : Hid (∀ x, ¬ AvN (Rn N) k out x) := fun x hx => by
            obtain ⟨h1, h2, h3⟩ := avn_iff.1 hx
            have := HC.out x
            rw [hl0, if_pos ⟨by omega, by simpa using h1, by simpa using h2, by rw [Int.toNat_natCast, HM.out x h1]; exact h3⟩] at this
            simp at this
          rw [h0] at cb
          go_wp2_with fail
          go_ret
          exact ⟨⟨_, out, rfl, HG.out, HAll.out, HS.out.told.le HB1.out.size⟩, HBw.out⟩
        · obtain ⟨g, rfl⟩ : ∃ g, av = some ⟨g, 0, none⟩ := by
            rcases hsh with ⟨-, e, -⟩ | h
            · rw [e] at h0; simp at h0
            · exact h
          obtain ⟨x, hx, hxn, hxo, hxm, hmin⟩ := HC.out.top HS.out.hv.hp h0
          have cg := HS.out.hv.ge.at0 h0
          rw [hx] at cg
          have hxi : (x : Int) < k := by omega
          have h0i : (0 : Int) < l.length := by omega
          have HAv : Hid (AvN (Rn N) k out x) := avn_iff.2 ⟨hxn, hxo, by rw [← HM.out x hxn]; exact hxm⟩
          have HX : Hid (l.getD 0 0 = (x : Int) ∧ x ∉ out ∧ miss x = 0 ∧ ∀ i, AvN (Rn N) k out i → x ≤ i) := ⟨hx, hxo, hxm, fun i hi => by
            obtain ⟨h1, h2, h3⟩ := avn_iff.1 hi
            exact hmin i h1 h2 (by rw [HM.out i h1]; exact h3)⟩
          have hP := hpop_any HS.out.hv h0 (by omega)
          have HLn : Hid ((ints out).length + 1 ≤ 1000000000000) := by show _ ≤ _; rw [ints_length]; omega
          obtain ⟨ax, cx2, cx0, hLx⟩ := HRT.out.cell hxn
          have HLx : Hid (Li w1 ax (T x).length (ints (T x))) := hLx
          have HCx : Hid (∀ W, Below w1.heap.size w1 W → W.cell? ⟨w.heap.size, x, none⟩ = some (.slice ax (T x).length cx2)) := fun W hb => (hb.cell (p := ⟨w.heap.size, x, none⟩) HRT.out.lt).trans cx0
          have htl := HTl.out x
          clear hx hxo hxm hmin hsh hLx cx0
          go_wp2_with (first
            | (go_at_call 35; refine hP.mono ?_; rintro e w2 ⟨⟨u2, rfl⟩, v2, l2, hv2, hl2, hc2, hz2, hs2, hk2, ho2⟩; have HS2 : Hid (Sd k w1 w2 (w1.heap.size + 1) (w1.heap.size + 1 + 1) miss v2 (.slice al (ints out).length cl) l2 out) := HS.out.move hv2 hz2 (by omega) hk2 (.inl ho2); have HC2 : Hid (HpS k (out ++ [x]) miss l2) := HC.out.pop hxn HX.out.2.1 HX.out.2.2.1 (fun y => by rw [← hc2 y, HX.out.1]); have hb2 := HS2.out.hv.le; clear hv2 hl2 hc2 hz2 hs2 hk2 ho2 hP)
            | (at_builtin; refine wpList_appE rfl _ _ _ rfl elI rfl w1.heap.size _ (ints out) rfl (HS2.out.told.al _) w2.heap.size 0 1 1 [(x : Int)] rfl (Le.one (Va.new w2 _ _) rfl) HLn.out (by simp; omega) ?_; intro v3 w3 hg3 hgr3 hob3; have HS3 : Hid (Sd k w1 w3 (w1.heap.size + 1) (w1.heap.size + 1 + 1) miss v2 v3 l2 (out ++ [x])) := HS2.out.tell hgr3 (by rw [ints_snoc]; exact hg3) hob3; have cx := HCx.out w3 HS3.out.below; obtain ⟨a3, c3, rfl, -, -, -⟩ := hg3.shape; clear hg3 hgr3 hob3))
          have HM3 : Hid (∀ p, p < k → miss p = wts N (out ++ [x]) p + ((T x).drop 0).count p) := fun p hp => by
            rw [List.drop_zero, HM.out p hp, wts_snoc HX.out.2.1 p, HTn.out x p, if_pos hp]
          have HG3 : Hid (So (Rn N) k (out ++ [x])) := HG.out.snoc HAv.out HX.out.2.2.2
          have HNd : Hid (∀ p, p ∈ T x → p < k ∧ p ∉ out ++ [x]) := fun p hp => by
            obtain ⟨h1, h2⟩ := HTn.out.mem.1 hp
            exact ⟨h1, HG.out.need HAv.out h2⟩
          have HS4 : Hid (Sd k w1 w3 (w1.heap.size + 1) (w1.heap.size + 1 + 1) miss v2 (.slice a3 ((ints out).length + 1) c3) l2 (out ++ [x])) := by
            have h9 := HS3.out; rw [List.length_append] at h9; exact h9
          clear cx cb fb cg HS HC HS2 HS3 HM HBw HX HAv HG
          go_loopw [55] (fun u wz => ∃ (j : Nat) (miss : Nat → Nat) (v : Value) (q : List Int), u = .int .i64 j ∧ j ≤ (T x).length ∧ Hid (Sd k w1 wz (w1.heap.size + 1) (w1.heap.size + 1 + 1) miss v (.slice a3 ((ints out).length + 1) c3) q (out ++ [x])) ∧ Hid (HpS k (out ++ [x]) miss q) ∧ Hid (∀ p, p < k → miss p = wts N (out ++ [x]) p + ((T x).drop j).count p)) (fun u _ => ((T x).length - (intOf u).toNat : Nat))
          case atStart => exact ⟨0, miss, v2, l2, rfl, Nat.zero_le _, HS4.out, HC2.out, HM3.out⟩
          case round =>
            clear HS4 HC2 HM3
            obtain ⟨j, miss, v, q, rfl, hj, HS, HC, HM⟩ := hrel
            rcases Nat.lt_or_ge j (T x).length with hlt | hge
            · have hji : (j : Int) < (T x).length := by omega
              have hxg : (T x)[j]? = some ((T x).getD j 0) := by rw [List.getD_eq_getElem?_getD, List.getElem?_eq_getElem hlt]; rfl
              obtain ⟨b9, o9, rfl, c9⟩ := Li.node (HLx.out.after HS.out.below) hlt
              have hdr : (T x).drop j = (T x).getD j 0 :: (T x).drop (j + 1) := by
                rw [List.drop_eq_getElem_cons hlt]
                congr 1
                rw [List.getD_eq_getElem?_getD, List.getElem?_eq_getElem hlt]; rfl
              have hpn := HNd.out _ (List.mem_of_getElem? hxg)
              clear hxg
              generalize (T x).getD j 0 = p at *
              have HDr : Hid ((T x).drop j = p :: (T x).drop (j + 1)) := hdr
              have hpk := hpn.1
              have HPo : Hid (p ∉ out ++ [x]) := hpn.2
              have hpi : (p : Int) < k := by omega
              obtain ⟨m, hm1⟩ : ∃ m, miss p = m + 1 := by
                refine ⟨miss p - 1, ?_⟩
                have := HM.out p hpk
                rw [hdr, List.count_cons_self] at this
                omega
              have cm := Fn.cell HS.out.mis hpk
              rw [hm1] at cm
              have HM1 : Hid (miss p = m + 1) := hm1
              have fm := Fv.frozen HS.out.mis p
              have hmb : m + 1 ≤ 400000000 := by
                have h5 := HM.out p hpk
                have h6 : wts N (out ++ [x]) p ≤ (N p).length := List.countP_le_length
                have h7 : ((T x).drop j).count p ≤ (T x).length := Nat.le_trans List.count_le_length (by rw [List.length_drop]; omega)
                have := HLe.out p
                omega
              have hw1 : IntKind.i64.wrap (((m + 1 : Nat) : Int) - 1) = (m : Int) := by rw [IntKind.wrap_i64]; omega
              have HS1 : Hid (Sd k w1 (wr.setCell ⟨w1.heap.size + 1 + 1, p, none⟩ (.int .i64 (m : Int))) (w1.heap.size + 1) (w1.heap.size + 1 + 1) (upf miss p m) v (.slice a3 ((ints out).length + 1) c3) q (out ++ [x])) := HS.out.miss p m rfl
              have HMn : Hid (∀ z, z < k → upf miss p m z = wts N (out ++ [x]) z + ((T x).drop (j + 1)).count z) := fun z hz => by
                have h5 := HM.out z hz
                rw [HDr.out] at h5
                by_cases e : z = p
                · rw [e, upf_self]
                  rw [e, List.count_cons_self, HM1.out] at h5
                  omega
                · rw [upf_ne _ _ e, h5, List.count_cons_of_ne (fun h => e h.symm)]
              clear hdr hpn hm1
              have hqf := HC.out.few
              have hHv := HS1.out.hv
              have hPu := hpush_any hHv (by omega) (p : Int)
              by_cases hm0 : m = 0
              · subst hm0
                clear hHv
                go_wp2_with (go_at_call 36; refine hPu.mono ?_; rintro e w5 ⟨⟨u5, rfl⟩, v5, l5, hv5, hl5, hc5, hz5, hs5, hk5, ho5⟩; have HS5 : Hid (Sd k w1 w5 (w1.heap.size + 1) (w1.heap.size + 1 + 1) (upf miss p 0) v5 (.slice a3 ((ints out).length + 1) c3) l5 (out ++ [x])) := HS1.out.move hv5 hz5 hs5 hk5 ho5; have HC5 : Hid (HpS k (out ++ [x]) (upf miss p 0) l5) := HC.out.less hpk HPo.out HM1.out (fun y => by rw [hc5 y]; by_cases e : (p : Int) = y <;> simp [e]); clear hv5 hl5 hc5 hz5 hs5 hk5 ho5 hPu)
                go_roundw
                case rel => exact ⟨j + 1, _, v5, l5, rfl, by omega, HS5.out, HC5.out, HMn.out⟩
                case measure => simp [intOf]; omega
              · have hmi : ¬ (m : Int) = 0 := by omega
                have HC5 : Hid (HpS k (out ++ [x]) (upf miss p m) q) := HC.out.less hpk HPo.out HM1.out (fun y => by rw [if_neg (fun h => hm0 h.1)]; omega)
                clear hPu hHv
                go_wp2_with fail
                go_roundw
                case rel => exact ⟨j + 1, _, v, q, rfl, by omega, HS1.out, HC5.out, HMn.out⟩
                case measure => simp [intOf]; omega
            · obtain rfl : j = (T x).length := by omega
              clear hge hj
              go_wp2_with fail
              go_roundw
              case rel =>
                refine ⟨out ++ [x], miss, v, q, ?_, HC.out, fun p hp => ?_, HG3.out⟩
                · exact HS.out
                · rw [HM.out p hp, List.drop_length]; rfl
              case measure =>
                have h9 := HG3.out.few
                rw [List.length_append] at h9
                simp only [lenV, ints_length, List.length_cons, List.length_nil] at h9 ⊢
                omega
end Go.Proofs.Ytonhooaboieapaa
