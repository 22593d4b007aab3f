/-
  MoneyTurned: the walk.
-/
import Derived.Test.YtigimdcaakfckabGreatDoorAw9
import Derived.Test.YtigimdcaakfckabGreatDoorGrI
namespace Go.Proofs.YtigimdcaakfckabGreatDoor
open Go.RowKit Go.Shelf
set_option linter.unusedVariables false

theorem fit9_case {s n er : Int} (h : fit9 s = (n, er)) : er = 0 ∨ (er = 5 ∧ n = 0) := by
  unfold fit9 at h
  split at h
  · injection h with h1 h2; exact .inl h2.symm
  · injection h with h1 h2; exact .inr ⟨h2.symm, h1.symm⟩
theorem sumNil (a : Option Addr) (c : Nat) (w : World) : Calls Tryz.prog 9 #[.slice a 0 c] w fun e w' => e = .returned (.tuple #[.int .i64 0, .int .i64 0]) ∧ w' = w :=
  sum9 a 0 c [] w ⟨rfl, (fun z hz => by cases hz), fun h => absurd h (by decide)⟩ (by omega)
theorem sumTo {a : Option Addr} {len cap : Nat} {zs : List Int} {w : World} {n er : Int} (h : Li w a len zs) (hl : len ≤ 20000000000000) (hf : fit9 (lsum zs) = (n, er)) : Calls Tryz.prog 9 #[.slice a len cap] w fun e w' => e = .returned (.tuple #[.int .i64 n, .int .i64 er]) ∧ w' = w := by
  have := sum9 a len cap zs w h hl
  rw [hf] at this
  exact this
theorem addTo {a b n er : Int} (ha : b64 a) (hb : b64 b) (w : World) (hf : fit9 (a + b) = (n, er)) : Calls Tryz.prog 10 #[.int .i64 a, .int .i64 b] w fun e w' => e = .returned (.tuple #[.int .i64 n, .int .i64 er]) ∧ w' = w := by
  have := add9 a b ha hb w
  rw [hf] at this
  exact this
theorem lsum_cut (zs : List Int) (q : Nat) : lsum (zs.take q) + lsum (zs.drop q) = lsum zs := by rw [← lsum_append, List.take_append_drop]
theorem fit9_or (s : Int) : (b64 s ∧ fit9 s = (s, 0)) ∨ fit9 s = (0, 5) := by
  by_cases h : -9223372036854775808 ≤ s ∧ s ≤ 9223372036854775807
  · exact .inl ⟨h, fit9_in h.1 h.2⟩
  · exact .inr (fit9_out (by omega))
theorem rev_step {zs : List Int} {k q : Nat} (hk : k < zs.length) (hq : q = zs.length - 1 - k) : zs.reverse.take (k + 1) = zs.reverse.take k ++ [zs.getD q 0] := by
  have h : k < zs.reverse.length := by simpa using hk
  rw [List.take_succ_eq_append_getElem h]
  congr 2
  rw [List.getElem_reverse, List.getD_eq_getElem?_getD, List.getElem?_eq_getElem (by omega)]
  simp [hq]
theorem li_one (z : Int) (hz : b64 z) (w : World) : Li (w.alloc (.cells #[.int .i64 z] 2)) (some ⟨w.heap.size, 0, none⟩) 1 [z] :=
  li_va (zs := [z]) (Va.new w _ _) (fun x hx => by simp at hx; rw [hx]; exact hz)
set_option maxHeartbeats 2000000 in
theorem turned_walk (a : Option Addr) (len cap : Nat) (zs : List Int) (at0 : Int) (w : World) (h : Li w a len zs) (hc : len ≤ cap) (hl : cap ≤ 17592186043904) (hn : a = none → len = 0 ∧ cap = 0) (hP : Pt w) (hT : Tm w) :
    Calls Tryz.prog 4 #[.slice a len cap, .int .i64 at0] w fun e w' => e = .returned (.bool true) ∧ Below w.heap.size w w' := by
  have HP : Hid (Pt w) := hP
  have HT : Hid (Tm w) := hT
  have HL : Hid (Li w a len zs) := h
  clear hP hT h
  have B0 : Below w.heap.size w w := Below.refl _ _
  go_enter Tryz.func4, Tryz.ntmps4
  go_wp2_with fail
  have hlen : len ≤ 20000000000000 := by omega
  have HCL : Hid (cap ≤ 17592186043904) := hl
  clear hl
  refine (awake9 _ (HP.out.to B0) (HT.out.to B0)).mono ?_
  rintro e x1 ⟨rfl, hb⟩
  replace B0 := step B0 hb
  clear hb
  obtain ⟨w1, hmk, hG, hb⟩ := make_I len hlen x1
  have HG : Hid (GrI w1 x1.heap.size (.slice (some ⟨x1.heap.size, 0, none⟩) 0 len) []) := hG
  have HB : Hid (Below x1.heap.size x1 w1) := hb
  clear hG hb
  go_wp2_with fail
  have HL1 : Hid (Li x1 a len zs) := HL.out.after B0
  go_loopw [5, 6] (fun v i wr => ∃ k : Nat, i = .int .i64 ((len : Int) - 1 - k) ∧ k ≤ len ∧ Hid (GrI wr x1.heap.size v (zs.reverse.take k)) ∧ Hid (Below x1.heap.size x1 wr)) (fun v i _ => (intOf i + 1).toNat)
  case atStart => exact ⟨0, by go_num, by omega, HG.out, HB.out⟩
  case round =>
    clear hmk HG HB
    obtain ⟨k, rfl, hk, HG, HB⟩ := hrel
    by_cases hkl : k < len
    · obtain ⟨q, hq⟩ : ∃ q, q = len - 1 - k := ⟨_, rfl⟩
      have eq : (len : Int) - 1 - k = q := by omega
      rw [eq]
      have hq0 : (0 : Int) ≤ q := by omega
      have hql : q < len := by omega
      have hqi : (q : Int) < len := by omega
      have hLw := HL1.out.after HB.out
      have hz := hLw.get hql
      obtain ⟨b, off, ea, hcell⟩ := hLw.2.2 (by omega)
      subst ea
      have ck := hcell q hql
      have HR : Hid (zs.reverse.take (k + 1) = zs.reverse.take k ++ [zs.getD q 0]) := rev_step (by rw [hLw.1]; exact hkl) (by rw [hLw.1]; exact hq)
      have HLen : Hid ((zs.reverse.take k).length + 1 ≤ 17592186044416) := by show _ ≤ _; have := HCL.out; rw [List.length_take]; omega
      obtain ⟨z, hzz⟩ : ∃ z, zs.getD q 0 = z := ⟨_, rfl⟩
      rw [hzz] at ck hz HR
      have HZ : Hid (b64 z) := hz
      have hszx := HB.out.size
      have HQ : Hid (q = len - 1 - k) := hq
      clear hcell hLw hzz hz eq hq
      go_wp2_with (at_builtin; refine wpList_appI rfl (.tmp 30) (.tmp 35) rfl x1.heap.size _ _ rfl (GrI.after ((Below.refl _ _).alloc (Nat.le_refl _) _) HG.out) ⟨wr.heap.size, 0, none⟩ 1 1 [z] rfl (li_one z HZ.out wr) HLen.out (by simp; omega) ?_; intro v1 w2 hG2 hb2)
      go_roundw
      case rel => exact ⟨k + 1, by have := HQ.out; congr 1; omega, by omega, by rw [HR.out]; exact hG2.out, (HB.out.alloc (Nat.le_trans HB.out.size (Nat.le_refl _)) _).trans hb2⟩
      case measure => simp [intOf]
    · obtain rfl : k = len := by omega
      have hneg : ¬ (0 : Int) ≤ (k : Int) - 1 - k := by omega
      have hLw := HL1.out.after HB.out
      have hb64 := HL.out.2.1
      have hzl := HL.out.1
      have hG0 := HG.out
      rw [List.take_of_length_le (by simp; omega)] at hG0
      obtain ⟨a5, c5, e5, hc5, hL5, hn5⟩ := hG0.li (fun z hz => hb64 z (by simpa using hz))
      rw [List.length_reverse, hzl] at e5 hc5 hL5
      subst e5
      have HL5 : Hid (Li wr a5 k zs.reverse) := hL5
      have HLw : Hid (Li wr a k zs) := hLw
      have HBB : Hid (∀ z ∈ zs, b64 z) := hb64
      have HZL : Hid (zs.length = k) := hzl
      clear hG0 hc5 hL5 hn5 hLw hb64 hzl HG
      obtain ⟨⟨n, er⟩, hf⟩ : ∃ r, fit9 (lsum zs) = r := ⟨_, rfl⟩
      have HF : Hid (fit9 (lsum zs) = (n, er)) := hf
      have HFR : Hid (fit9 (lsum zs.reverse) = (n, er)) := by show _ = _; rw [lsum_reverse]; exact hf
      have hcase : er = 0 ∨ (er = 5 ∧ n = 0) := fit9_case hf
      clear hf
      cases a with
      | none =>
        obtain ⟨h0, hc0⟩ := hn rfl
        subst h0 hc0
        have hz0 : zs = [] := List.eq_nil_of_length_eq_zero HZL.out
        subst hz0
        have HB3 : Hid (Below w.heap.size w (wr.alloc (.cells #[] 2))) := (step B0 HB.out).alloc (Nat.le_trans B0.size HB.out.size) _
        clear HF HFR hcase HL HL1 HL5 HLw B0 HB HP HT
        by_cases ha0 : at0 < 0
        · go_wp2_with fail
          refine (sumNil _ _ _).mono ?_
          rintro e w' ⟨rfl, hw⟩
          rw [hw]
          clear hw
          go_wp2_with fail
          refine (sumNil _ _ _).mono ?_
          rintro e w' ⟨rfl, hw⟩
          rw [hw]
          clear hw
          go_wp2_with fail
          go_ret
          exact ⟨rfl, HB3.out⟩
        · by_cases ha1 : 0 < at0
          · go_wp2_with fail
            refine (sumNil _ _ _).mono ?_
            rintro e w' ⟨rfl, hw⟩
            rw [hw]
            clear hw
            go_wp2_with fail
            refine (sumNil _ _ _).mono ?_
            rintro e w' ⟨rfl, hw⟩
            rw [hw]
            clear hw
            go_wp2_with fail
            go_ret
            exact ⟨rfl, HB3.out⟩
          · obtain rfl : at0 = 0 := by omega
            go_wp2_with fail
            refine (sumNil _ _ _).mono ?_
            rintro e w' ⟨rfl, hw⟩
            rw [hw]
            clear hw
            go_wp2_with fail
            refine (sumNil _ _ _).mono ?_
            rintro e w' ⟨rfl, hw⟩
            rw [hw]
            clear hw
            go_wp2_with fail
            refine (sumNil _ _ _).mono ?_
            rintro e w' ⟨rfl, hw⟩
            rw [hw]
            clear hw
            go_wp2_with fail
            refine (sumNil _ _ _).mono ?_
            rintro e w' ⟨rfl, hw⟩
            rw [hw]
            clear hw
            go_wp2_with fail
            refine (addTo (n := 0) (er := 0) ⟨by omega, by omega⟩ ⟨by omega, by omega⟩ _ rfl).mono ?_
            rintro e w' ⟨rfl, hw⟩
            rw [hw]
            clear hw
            go_wp2_with fail
            go_ret
            exact ⟨rfl, HB3.out⟩
      | some ad =>
        have HCP : Hid (k ≤ 17592186044416) := by have := HCL.out; show k ≤ _; omega
        have hmx : wr.heap.size ≤ wr.heap.size + 1 := by omega
        go_wp2_with (at_builtin; refine wpList_appI rfl (.tmp 37) (.tmp 38) rfl wr.heap.size _ _ rfl (grI_empty wr) ad k cap zs rfl (Li.after ((Below.refl _ _).alloc (Nat.le_refl _) _) HLw.out) (by simpa using HCP.out) (by simp) ?_; intro v1 w2 hG2 hb2)
        have hbw : Below wr.heap.size wr w2 := ((Below.refl _ _).alloc (Nat.le_refl _) _).trans hb2
        have hG3 := hG2.out
        rw [List.nil_append] at hG3
        obtain ⟨a1, c1, e1, hc1, hL6, hn6⟩ := hG3.li HBB.out
        rw [HZL.out] at e1 hc1 hL6 hn6
        subst e1
        have HB3 : Hid (Below w.heap.size w w2) := step B0 (HB.out.trans (hbw.mono HB.out.size))
        have HL6 : Hid (Li w2 a1 k zs) := hL6
        have hs1 := sum9 a1 k c1 zs w2 hL6 hlen
        have hs2 := sum9 a5 k c5 zs.reverse w2 (Li.after hbw HL5.out) hlen
        rw [HF.out] at hs1
        rw [HFR.out] at hs2
        simp only at hs1 hs2
        clear hG2 hG3 hL6 hb2 hbw HB B0 HL HL1 HL5 HLw HFR HP HT
        have tail : ∀ (Q : World → Prop), True := fun _ => trivial
        clear tail
        rcases hcase with rfl | ⟨rfl, rfl⟩

        ·
          by_cases ha0 : at0 < 0
          · go_wp2_with fail
            refine hs1.mono ?_
            rintro e w' ⟨rfl, hw⟩
            rw [hw]
            clear hw
            go_wp2_with fail
            refine hs2.mono ?_
            rintro e w' ⟨rfl, hw⟩
            rw [hw]
            clear hw
            go_wp2_with fail
            go_ret
            exact ⟨rfl, HB3.out⟩
          · by_cases ha1 : (k : Int) < at0
            · go_wp2_with fail
              refine hs1.mono ?_
              rintro e w' ⟨rfl, hw⟩
              rw [hw]
              clear hw
              go_wp2_with fail
              refine hs2.mono ?_
              rintro e w' ⟨rfl, hw⟩
              rw [hw]
              clear hw
              go_wp2_with fail
              go_ret
              exact ⟨rfl, HB3.out⟩
            · obtain ⟨q, rfl⟩ : ∃ q : Nat, at0 = q := ⟨at0.toNat, by omega⟩
              have hq : q ≤ k := by omega
              have hqc : q ≤ c1 := by omega
              have hqi : (q : Int) ≤ k := by omega
              have hqc2 : (q : Int) ≤ c1 := by omega
              have hkc : (k : Int) ≤ c1 := by omega
              rcases hn6 with ⟨rfl, h0, h1⟩ | ⟨g, rfl⟩
              · subst h0 h1
                obtain rfl : q = 0 := by omega
                have hz0 : zs = [] := List.eq_nil_of_length_eq_zero HZL.out
                have HF2 : Hid (fit9 (lsum ([] : List Int)) = (n, 0)) := by rw [← hz0]; exact HF.out
                clear hz0
                obtain rfl : n = 0 := by have := HF2.out; exact (congrArg Prod.fst this).symm
                go_wp2_with fail
                refine hs1.mono ?_
                rintro e w' ⟨rfl, hw⟩
                rw [hw]
                clear hw
                go_wp2_with fail
                refine hs2.mono ?_
                rintro e w' ⟨rfl, hw⟩
                rw [hw]
                clear hw
                go_wp2_with fail
                refine (sumNil _ _ _).mono ?_
                rintro e w' ⟨rfl, hw⟩
                rw [hw]
                clear hw
                go_wp2_with fail
                refine (sumNil _ _ _).mono ?_
                rintro e w' ⟨rfl, hw⟩
                rw [hw]
                clear hw
                go_wp2_with fail
                refine (addTo (n := 0) (er := 0) ⟨by omega, by omega⟩ ⟨by omega, by omega⟩ _ rfl).mono ?_
                rintro e w' ⟨rfl, hw⟩
                rw [hw]
                clear hw
                go_wp2_with fail
                go_ret
                exact ⟨rfl, HB3.out⟩
              · by_cases hcq : c1 = q
                · subst hcq
                  have hLt := HL6.out.take hq
                  have hLd : Li w2 (some ⟨g, 0, none⟩) 0 (zs.drop c1) := ⟨by rw [List.length_drop, HZL.out]; omega, fun z hz => HBB.out z (List.mem_of_mem_drop hz), fun h => absurd h (by omega)⟩
                  have HFS : Hid (fit9 (lsum (zs.take c1) + lsum (zs.drop c1)) = (n, 0)) := by show _ = _; rw [lsum_cut]; exact HF.out
                  rcases fit9_or (lsum (zs.take c1)) with ⟨b1, f1⟩ | f1
                  · rcases fit9_or (lsum (zs.drop c1)) with ⟨b2, f2⟩ | f2
                    · obtain ⟨S1, e1⟩ : ∃ S, lsum (zs.take c1) = S := ⟨_, rfl⟩
                      obtain ⟨S2, e2⟩ : ∃ S, lsum (zs.drop c1) = S := ⟨_, rfl⟩
                      rw [e1] at b1 HFS
                      rw [e2] at b2 HFS
                      have HT1 : Hid (Calls Tryz.prog _ _ _ _) := sumTo (cap := c1) hLt (by omega) (n := S1) (er := 0) (by rw [f1, e1])
                      have HT2 : Hid (Calls Tryz.prog _ _ _ _) := sumTo (cap := 0) hLd (by omega) (n := S2) (er := 0) (by rw [f2, e2])
                      clear hLt hLd
                      clear f1 f2 e1 e2
                      go_wp2_with fail
                      refine hs1.mono ?_
                      rintro e w' ⟨rfl, hw⟩
                      rw [hw]
                      clear hw
                      go_wp2_with fail
                      refine hs2.mono ?_
                      rintro e w' ⟨rfl, hw⟩
                      rw [hw]
                      clear hw
                      go_wp2_with fail
                      refine (HT1.out).mono ?_
                      rintro e w' ⟨rfl, hw⟩
                      rw [hw]
                      clear hw
                      go_wp2_with fail
                      refine (HT2.out).mono ?_
                      rintro e w' ⟨rfl, hw⟩
                      rw [hw]
                      clear hw
                      go_wp2_with fail
                      refine (addTo b1 b2 _ HFS.out).mono ?_
                      rintro e w' ⟨rfl, hw⟩
                      rw [hw]
                      clear hw
                      go_wp2_with fail
                      go_ret
                      exact ⟨by simp, HB3.out⟩
                    · obtain ⟨S1, e1⟩ : ∃ S, lsum (zs.take c1) = S := ⟨_, rfl⟩
                      have HT1 : Hid (Calls Tryz.prog _ _ _ _) := sumTo (cap := c1) hLt (by omega) (n := S1) (er := 0) (by rw [f1, e1])
                      have HT2 : Hid (Calls Tryz.prog _ _ _ _) := sumTo (cap := 0) hLd (by omega) f2
                      clear hLt hLd
                      clear f1 f2 b1 e1 HFS
                      go_wp2_with fail
                      refine hs1.mono ?_
                      rintro e w' ⟨rfl, hw⟩
                      rw [hw]
                      clear hw
                      go_wp2_with fail
                      refine hs2.mono ?_
                      rintro e w' ⟨rfl, hw⟩
                      rw [hw]
                      clear hw
                      go_wp2_with fail
                      refine (HT1.out).mono ?_
                      rintro e w' ⟨rfl, hw⟩
                      rw [hw]
                      clear hw
                      go_wp2_with fail
                      refine (HT2.out).mono ?_
                      rintro e w' ⟨rfl, hw⟩
                      rw [hw]
                      clear hw
                      go_wp2_with fail
                      go_ret
                      exact ⟨rfl, HB3.out⟩
                  · obtain ⟨⟨y2, o2⟩, f2⟩ : ∃ r, fit9 (lsum (zs.drop c1)) = r := ⟨_, rfl⟩
                    have HT1 : Hid (Calls Tryz.prog _ _ _ _) := sumTo (cap := c1) hLt (by omega) f1
                    have HT2 : Hid (Calls Tryz.prog _ _ _ _) := sumTo (cap := 0) hLd (by omega) f2
                    clear hLt hLd
                    clear f1 f2 HFS
                    go_wp2_with fail
                    refine hs1.mono ?_
                    rintro e w' ⟨rfl, hw⟩
                    rw [hw]
                    clear hw
                    go_wp2_with fail
                    refine hs2.mono ?_
                    rintro e w' ⟨rfl, hw⟩
                    rw [hw]
                    clear hw
                    go_wp2_with fail
                    refine (HT1.out).mono ?_
                    rintro e w' ⟨rfl, hw⟩
                    rw [hw]
                    clear hw
                    go_wp2_with fail
                    refine (HT2.out).mono ?_
                    rintro e w' ⟨rfl, hw⟩
                    rw [hw]
                    clear hw
                    go_wp2_with fail
                    go_ret
                    exact ⟨rfl, HB3.out⟩
                · have hcq2 : ¬ c1 - q = 0 := by omega
                  have hLt := HL6.out.take hq
                  have hLd := HL6.out.drop hq
                  rw [Nat.zero_add] at hLd
                  have HFS : Hid (fit9 (lsum (zs.take q) + lsum (zs.drop q)) = (n, 0)) := by show _ = _; rw [lsum_cut]; exact HF.out
                  rcases fit9_or (lsum (zs.take q)) with ⟨b1, f1⟩ | f1
                  · rcases fit9_or (lsum (zs.drop q)) with ⟨b2, f2⟩ | f2
                    · obtain ⟨S1, e1⟩ : ∃ S, lsum (zs.take q) = S := ⟨_, rfl⟩
                      obtain ⟨S2, e2⟩ : ∃ S, lsum (zs.drop q) = S := ⟨_, rfl⟩
                      rw [e1] at b1 HFS
                      rw [e2] at b2 HFS
                      have HT1 : Hid (Calls Tryz.prog _ _ _ _) := sumTo (cap := c1) hLt (by omega) (n := S1) (er := 0) (by rw [f1, e1])
                      have HT2 : Hid (Calls Tryz.prog _ _ _ _) := sumTo (cap := c1 - q) hLd (by omega) (n := S2) (er := 0) (by rw [f2, e2])
                      clear hLt hLd
                      clear f1 f2 e1 e2
                      go_wp2_with fail
                      refine hs1.mono ?_
                      rintro e w' ⟨rfl, hw⟩
                      rw [hw]
                      clear hw
                      go_wp2_with fail
                      refine hs2.mono ?_
                      rintro e w' ⟨rfl, hw⟩
                      rw [hw]
                      clear hw
                      go_wp2_with fail
                      refine (HT1.out).mono ?_
                      rintro e w' ⟨rfl, hw⟩
                      rw [hw]
                      clear hw
                      go_wp2_with fail
                      refine (HT2.out).mono ?_
                      rintro e w' ⟨rfl, hw⟩
                      rw [hw]
                      clear hw
                      go_wp2_with fail
                      refine (addTo b1 b2 _ HFS.out).mono ?_
                      rintro e w' ⟨rfl, hw⟩
                      rw [hw]
                      clear hw
                      go_wp2_with fail
                      go_ret
                      exact ⟨by simp, HB3.out⟩
                    · obtain ⟨S1, e1⟩ : ∃ S, lsum (zs.take q) = S := ⟨_, rfl⟩
                      have HT1 : Hid (Calls Tryz.prog _ _ _ _) := sumTo (cap := c1) hLt (by omega) (n := S1) (er := 0) (by rw [f1, e1])
                      have HT2 : Hid (Calls Tryz.prog _ _ _ _) := sumTo (cap := c1 - q) hLd (by omega) f2
                      clear hLt hLd
                      clear f1 f2 b1 e1 HFS
                      go_wp2_with fail
                      refine hs1.mono ?_
                      rintro e w' ⟨rfl, hw⟩
                      rw [hw]
                      clear hw
                      go_wp2_with fail
                      refine hs2.mono ?_
                      rintro e w' ⟨rfl, hw⟩
                      rw [hw]
                      clear hw
                      go_wp2_with fail
                      refine (HT1.out).mono ?_
                      rintro e w' ⟨rfl, hw⟩
                      rw [hw]
                      clear hw
                      go_wp2_with fail
                      refine (HT2.out).mono ?_
                      rintro e w' ⟨rfl, hw⟩
                      rw [hw]
                      clear hw
                      go_wp2_with fail
                      go_ret
                      exact ⟨rfl, HB3.out⟩
                  · obtain ⟨⟨y2, o2⟩, f2⟩ : ∃ r, fit9 (lsum (zs.drop q)) = r := ⟨_, rfl⟩
                    have HT1 : Hid (Calls Tryz.prog _ _ _ _) := sumTo (cap := c1) hLt (by omega) f1
                    have HT2 : Hid (Calls Tryz.prog _ _ _ _) := sumTo (cap := c1 - q) hLd (by omega) f2
                    clear hLt hLd
                    clear f1 f2 HFS
                    go_wp2_with fail
                    refine hs1.mono ?_
                    rintro e w' ⟨rfl, hw⟩
                    rw [hw]
                    clear hw
                    go_wp2_with fail
                    refine hs2.mono ?_
                    rintro e w' ⟨rfl, hw⟩
                    rw [hw]
                    clear hw
                    go_wp2_with fail
                    refine (HT1.out).mono ?_
                    rintro e w' ⟨rfl, hw⟩
                    rw [hw]
                    clear hw
                    go_wp2_with fail
                    refine (HT2.out).mono ?_
                    rintro e w' ⟨rfl, hw⟩
                    rw [hw]
                    clear hw
                    go_wp2_with fail
                    go_ret
                    exact ⟨rfl, HB3.out⟩
        ·
          by_cases ha0 : at0 < 0
          · go_wp2_with fail
            refine hs1.mono ?_
            rintro e w' ⟨rfl, hw⟩
            rw [hw]
            clear hw
            go_wp2_with fail
            refine hs2.mono ?_
            rintro e w' ⟨rfl, hw⟩
            rw [hw]
            clear hw
            go_wp2_with fail
            go_ret
            exact ⟨rfl, HB3.out⟩
          · by_cases ha1 : (k : Int) < at0
            · go_wp2_with fail
              refine hs1.mono ?_
              rintro e w' ⟨rfl, hw⟩
              rw [hw]
              clear hw
              go_wp2_with fail
              refine hs2.mono ?_
              rintro e w' ⟨rfl, hw⟩
              rw [hw]
              clear hw
              go_wp2_with fail
              go_ret
              exact ⟨rfl, HB3.out⟩
            · obtain ⟨q, rfl⟩ : ∃ q : Nat, at0 = q := ⟨at0.toNat, by omega⟩
              have hq : q ≤ k := by omega
              have hqc : q ≤ c1 := by omega
              have hqi : (q : Int) ≤ k := by omega
              have hqc2 : (q : Int) ≤ c1 := by omega
              have hkc : (k : Int) ≤ c1 := by omega
              rcases hn6 with ⟨rfl, h0, h1⟩ | ⟨g, rfl⟩
              · subst h0 h1
                obtain rfl : q = 0 := by omega
                have hz0 : zs = [] := List.eq_nil_of_length_eq_zero HZL.out
                have hbad := HF.out
                rw [hz0] at hbad
                exact absurd hbad (by decide)
              · by_cases hcq : c1 = q
                · subst hcq
                  have hLt := HL6.out.take hq
                  have hLd : Li w2 (some ⟨g, 0, none⟩) 0 (zs.drop c1) := ⟨by rw [List.length_drop, HZL.out]; omega, fun z hz => HBB.out z (List.mem_of_mem_drop hz), fun h => absurd h (by omega)⟩
                  have HFS : Hid (fit9 (lsum (zs.take c1) + lsum (zs.drop c1)) = (0, 5)) := by show _ = _; rw [lsum_cut]; exact HF.out
                  rcases fit9_or (lsum (zs.take c1)) with ⟨b1, f1⟩ | f1
                  · rcases fit9_or (lsum (zs.drop c1)) with ⟨b2, f2⟩ | f2
                    · obtain ⟨S1, e1⟩ : ∃ S, lsum (zs.take c1) = S := ⟨_, rfl⟩
                      obtain ⟨S2, e2⟩ : ∃ S, lsum (zs.drop c1) = S := ⟨_, rfl⟩
                      rw [e1] at b1 HFS
                      rw [e2] at b2 HFS
                      have HT1 : Hid (Calls Tryz.prog _ _ _ _) := sumTo (cap := c1) hLt (by omega) (n := S1) (er := 0) (by rw [f1, e1])
                      have HT2 : Hid (Calls Tryz.prog _ _ _ _) := sumTo (cap := 0) hLd (by omega) (n := S2) (er := 0) (by rw [f2, e2])
                      clear hLt hLd
                      clear f1 f2 e1 e2
                      go_wp2_with fail
                      refine hs1.mono ?_
                      rintro e w' ⟨rfl, hw⟩
                      rw [hw]
                      clear hw
                      go_wp2_with fail
                      refine hs2.mono ?_
                      rintro e w' ⟨rfl, hw⟩
                      rw [hw]
                      clear hw
                      go_wp2_with fail
                      refine (HT1.out).mono ?_
                      rintro e w' ⟨rfl, hw⟩
                      rw [hw]
                      clear hw
                      go_wp2_with fail
                      refine (HT2.out).mono ?_
                      rintro e w' ⟨rfl, hw⟩
                      rw [hw]
                      clear hw
                      go_wp2_with fail
                      refine (addTo b1 b2 _ HFS.out).mono ?_
                      rintro e w' ⟨rfl, hw⟩
                      rw [hw]
                      clear hw
                      go_wp2_with fail
                      go_ret
                      exact ⟨by simp, HB3.out⟩
                    · obtain ⟨S1, e1⟩ : ∃ S, lsum (zs.take c1) = S := ⟨_, rfl⟩
                      have HT1 : Hid (Calls Tryz.prog _ _ _ _) := sumTo (cap := c1) hLt (by omega) (n := S1) (er := 0) (by rw [f1, e1])
                      have HT2 : Hid (Calls Tryz.prog _ _ _ _) := sumTo (cap := 0) hLd (by omega) f2
                      clear hLt hLd
                      clear f1 f2 b1 e1 HFS
                      go_wp2_with fail
                      refine hs1.mono ?_
                      rintro e w' ⟨rfl, hw⟩
                      rw [hw]
                      clear hw
                      go_wp2_with fail
                      refine hs2.mono ?_
                      rintro e w' ⟨rfl, hw⟩
                      rw [hw]
                      clear hw
                      go_wp2_with fail
                      refine (HT1.out).mono ?_
                      rintro e w' ⟨rfl, hw⟩
                      rw [hw]
                      clear hw
                      go_wp2_with fail
                      refine (HT2.out).mono ?_
                      rintro e w' ⟨rfl, hw⟩
                      rw [hw]
                      clear hw
                      go_wp2_with fail
                      go_ret
                      exact ⟨rfl, HB3.out⟩
                  · obtain ⟨⟨y2, o2⟩, f2⟩ : ∃ r, fit9 (lsum (zs.drop c1)) = r := ⟨_, rfl⟩
                    have HT1 : Hid (Calls Tryz.prog _ _ _ _) := sumTo (cap := c1) hLt (by omega) f1
                    have HT2 : Hid (Calls Tryz.prog _ _ _ _) := sumTo (cap := 0) hLd (by omega) f2
                    clear hLt hLd
                    clear f1 f2 HFS
                    go_wp2_with fail
                    refine hs1.mono ?_
                    rintro e w' ⟨rfl, hw⟩
                    rw [hw]
                    clear hw
                    go_wp2_with fail
                    refine hs2.mono ?_
                    rintro e w' ⟨rfl, hw⟩
                    rw [hw]
                    clear hw
                    go_wp2_with fail
                    refine (HT1.out).mono ?_
                    rintro e w' ⟨rfl, hw⟩
                    rw [hw]
                    clear hw
                    go_wp2_with fail
                    refine (HT2.out).mono ?_
                    rintro e w' ⟨rfl, hw⟩
                    rw [hw]
                    clear hw
                    go_wp2_with fail
                    go_ret
                    exact ⟨rfl, HB3.out⟩
                · have hcq2 : ¬ c1 - q = 0 := by omega
                  have hLt := HL6.out.take hq
                  have hLd := HL6.out.drop hq
                  rw [Nat.zero_add] at hLd
                  have HFS : Hid (fit9 (lsum (zs.take q) + lsum (zs.drop q)) = (0, 5)) := by show _ = _; rw [lsum_cut]; exact HF.out
                  rcases fit9_or (lsum (zs.take q)) with ⟨b1, f1⟩ | f1
                  · rcases fit9_or (lsum (zs.drop q)) with ⟨b2, f2⟩ | f2
                    · obtain ⟨S1, e1⟩ : ∃ S, lsum (zs.take q) = S := ⟨_, rfl⟩
                      obtain ⟨S2, e2⟩ : ∃ S, lsum (zs.drop q) = S := ⟨_, rfl⟩
                      rw [e1] at b1 HFS
                      rw [e2] at b2 HFS
                      have HT1 : Hid (Calls Tryz.prog _ _ _ _) := sumTo (cap := c1) hLt (by omega) (n := S1) (er := 0) (by rw [f1, e1])
                      have HT2 : Hid (Calls Tryz.prog _ _ _ _) := sumTo (cap := c1 - q) hLd (by omega) (n := S2) (er := 0) (by rw [f2, e2])
                      clear hLt hLd
                      clear f1 f2 e1 e2
                      go_wp2_with fail
                      refine hs1.mono ?_
                      rintro e w' ⟨rfl, hw⟩
                      rw [hw]
                      clear hw
                      go_wp2_with fail
                      refine hs2.mono ?_
                      rintro e w' ⟨rfl, hw⟩
                      rw [hw]
                      clear hw
                      go_wp2_with fail
                      refine (HT1.out).mono ?_
                      rintro e w' ⟨rfl, hw⟩
                      rw [hw]
                      clear hw
                      go_wp2_with fail
                      refine (HT2.out).mono ?_
                      rintro e w' ⟨rfl, hw⟩
                      rw [hw]
                      clear hw
                      go_wp2_with fail
                      refine (addTo b1 b2 _ HFS.out).mono ?_
                      rintro e w' ⟨rfl, hw⟩
                      rw [hw]
                      clear hw
                      go_wp2_with fail
                      go_ret
                      exact ⟨by simp, HB3.out⟩
                    · obtain ⟨S1, e1⟩ : ∃ S, lsum (zs.take q) = S := ⟨_, rfl⟩
                      have HT1 : Hid (Calls Tryz.prog _ _ _ _) := sumTo (cap := c1) hLt (by omega) (n := S1) (er := 0) (by rw [f1, e1])
                      have HT2 : Hid (Calls Tryz.prog _ _ _ _) := sumTo (cap := c1 - q) hLd (by omega) f2
                      clear hLt hLd
                      clear f1 f2 b1 e1 HFS
                      go_wp2_with fail
                      refine hs1.mono ?_
                      rintro e w' ⟨rfl, hw⟩
                      rw [hw]
                      clear hw
                      go_wp2_with fail
                      refine hs2.mono ?_
                      rintro e w' ⟨rfl, hw⟩
                      rw [hw]
                      clear hw
                      go_wp2_with fail
                      refine (HT1.out).mono ?_
                      rintro e w' ⟨rfl, hw⟩
                      rw [hw]
                      clear hw
                      go_wp2_with fail
                      refine (HT2.out).mono ?_
                      rintro e w' ⟨rfl, hw⟩
                      rw [hw]
                      clear hw
                      go_wp2_with fail
                      go_ret
                      exact ⟨rfl, HB3.out⟩
                  · obtain ⟨⟨y2, o2⟩, f2⟩ : ∃ r, fit9 (lsum (zs.drop q)) = r := ⟨_, rfl⟩
                    have HT1 : Hid (Calls Tryz.prog _ _ _ _) := sumTo (cap := c1) hLt (by omega) f1
                    have HT2 : Hid (Calls Tryz.prog _ _ _ _) := sumTo (cap := c1 - q) hLd (by omega) f2
                    clear hLt hLd
                    clear f1 f2 HFS
                    go_wp2_with fail
                    refine hs1.mono ?_
                    rintro e w' ⟨rfl, hw⟩
                    rw [hw]
                    clear hw
                    go_wp2_with fail
                    refine hs2.mono ?_
                    rintro e w' ⟨rfl, hw⟩
                    rw [hw]
                    clear hw
                    go_wp2_with fail
                    refine (HT1.out).mono ?_
                    rintro e w' ⟨rfl, hw⟩
                    rw [hw]
                    clear hw
                    go_wp2_with fail
                    refine (HT2.out).mono ?_
                    rintro e w' ⟨rfl, hw⟩
                    rw [hw]
                    clear hw
                    go_wp2_with fail
                    go_ret
                    exact ⟨rfl, HB3.out⟩
end Go.Proofs.YtigimdcaakfckabGreatDoor
