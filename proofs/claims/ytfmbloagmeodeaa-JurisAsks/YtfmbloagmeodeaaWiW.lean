/-
  The walk of JurisWithin.
-/
import Derived.Test.YtfmbloagmeodeaaMtW
import Derived.Test.YtfmbloagmeodeaaJuS
namespace Go.Proofs.Ytfmbloagmeodeaa
open Go.RowKit Go.Shelf
set_option linter.unusedVariables false

theorem wl_prefix (ps : List Int) (i : Nat) {m n : Nat} (h : m ≤ n) : wl ps i m <+: wl ps i n := by
  obtain ⟨d, rfl⟩ : ∃ d, n = m + d := ⟨n - m, by omega⟩
  induction d with
  | zero => exact List.prefix_rfl
  | succ d ih =>
    refine (ih (by omega)).trans ?_
    show wl ps i (m + d) <+: wl ps i (m + d + 1)
    simp only [wl]
    exact List.prefix_append _ _
theorem wl_yes {ps : List Int} {i j : Nat} (h : Wn ps j i) : wl ps i (j + 1) = wl ps i j ++ [(j : Int)] := by simp only [wl]; rw [if_pos h]
theorem wl_no {ps : List Int} {i j : Nat} (h : ¬ Wn ps j i) : wl ps i (j + 1) = wl ps i j := by simp only [wl]; rw [if_neg h, List.append_nil]
theorem wl_at {ps : List Int} {i j n : Nat} (h : Wn ps j i) (hj : j < n) : (wl ps i j).length < (wl ps i n).length ∧ (wl ps i n).getD (wl ps i j).length (-1) = (j : Int) := by
  obtain ⟨t, ht⟩ := wl_prefix ps i (show j + 1 ≤ n by omega)
  rw [wl_yes h] at ht
  rw [← ht]
  refine ⟨by simp, ?_⟩
  rw [List.getD_eq_getElem?_getD, List.append_assoc, List.getElem?_append_right (Nat.le_refl _)]
  simp
theorem Hid.mk' {p : Prop} (h : p) : Hid p := h
set_option maxRecDepth 100000 in
set_option maxHeartbeats 8000000 in
theorem within_walk (a0 : Option Addr) (len0 cap0 : Nat) (ps : List Int) (x y z : Int) (w : World) (hL : Li w a0 len0 ps) (hc : len0 ≤ cap0) (hb : cap0 ≤ 17592186043904) (hn : a0 = none → len0 = 0 ∧ cap0 = 0) (hz : ∀ z ∈ ps, b64 z) (hx' : (Lit.int .i64 x).wf = true) (hy' : (Lit.int .i64 y).wf = true) (hz' : (Lit.int .i64 z).wf = true) :
    Calls Try.prog 7 #[.slice a0 len0 cap0, .int .i64 x, .int .i64 y, .int .i64 z] w fun e w' => e = .returned (.bool true) ∧ Below w.heap.size w w' := by
  obtain rfl := hL.1
  have hx := b64_of_wf hx'
  have hy := b64_of_wf hy'
  have hzz := b64_of_wf hz'
  clear hx' hy' hz'
  have HA := awake15 w
  have HL : Hid (Li w a0 ps.length ps) := hL
  have hn' : a0 = none → cap0 = 0 := fun e => (hn e).2
  clear hz hn hL
  by_cases hT : Tre (ps.take 300)
  · have hF := fun W (h : Below w.heap.size w W) => few_yes a0 cap0 W (HL.out.after h) hc hn' hb hT
    have hql : (ps.take 300).length ≤ 300 := by rw [List.length_take]; omega
    generalize ps.take 300 = qs at *
    have HF : Hid _ := hF
    clear hF
    by_cases h0 : qs.length = 0
    · rw [h0] at HF
      go_enter Try.func7, Try.ntmps7
      go_wp2_with (first
        | (go_at_call 9; refine HA.mono ?_; rintro e w1 ⟨rfl, hb1⟩; have HB1 : Hid (Below w.heap.size w w1) := hb1; clear hb1 HA)
        | (go_at_call 27; refine (HF.out w1 HB1.out).mono ?_; rintro e w2 ⟨⟨p, a2, c2, rfl, hv⟩, hb2⟩; have HB2 : Hid (Below w.heap.size w w2) := step HB1.out hb2; clear hb2 hv HF))
      go_ret
      exact ⟨rfl, HB2.out⟩
    · obtain ⟨i, hi, hpi⟩ := pick_nat x hx qs.length (by omega) (by omega)
      obtain ⟨k, hk, hpk⟩ := pick_nat y hy qs.length (by omega) (by omega)
      obtain ⟨r, hr, hpr⟩ := pick_nat z hzz qs.length (by omega) (by omega)
      have h0i : ¬ (qs.length : Int) = 0 := by omega
      have hii : wnB qs i i = true := wnB_true hT hi (Wn.refl qs i)
      have HDp := fun (q a : Option Addr) (cap : Nat) (W : World) (h : Tv W q a qs.length cap qs true) => deep_ok h hT (by omega) i hi
      have HPa := fun (q a : Option Addr) (cap : Nat) (W : World) (h : Tv W q a qs.length cap qs true) => lpath_any h hT (by omega) i ((qs.length : Int) + 1) (by omega)
      have hpl := pthZ_len hT i
      rw [show (pthZ qs i).take ((qs.length : Int) + 1).toNat = pthZ qs i from List.take_of_length_le (by omega)] at HPa
      have HDp2 : Hid _ := HDp
      have HPa2 : Hid _ := HPa
      have hTq : Hid (Tre qs) := hT
      have hcase : (wnB qs i k = false) ∨ (wnB qs i k = true ∧ wnB qs k i = false ∧ wnB qs k r = false) ∨ (wnB qs i k = true ∧ wnB qs k i = false ∧ wnB qs k r = true ∧ wnB qs i r = true) ∨ (i = k ∧ wnB qs i r = false) ∨ (i = k ∧ wnB qs i r = true) := by
        by_cases hA : Wn qs i k
        · by_cases hB : Wn qs k i
          · have e := Wn.antisymm hT hi hA hB
            by_cases hC : Wn qs i r
            · exact .inr (.inr (.inr (.inr ⟨e, wnB_true hT hi hC⟩)))
            · exact .inr (.inr (.inr (.inl ⟨e, wnB_false hT hi hC⟩)))
          · by_cases hC : Wn qs k r
            · exact .inr (.inr (.inl ⟨wnB_true hT hi hA, wnB_false hT hk hB, wnB_true hT hk hC, wnB_true hT hi (hA.trans hC)⟩))
            · exact .inr (.inl ⟨wnB_true hT hi hA, wnB_false hT hk hB, wnB_false hT hk hC⟩)
        · exact .inl (wnB_false hT hi hA)
      clear HDp HPa hT
      rcases hcase with h1 | ⟨h1, h2, h3⟩ | ⟨h1, h2, h3, h4⟩ | ⟨rfl, h1⟩ | ⟨rfl, h1⟩
      all_goals
        go_enter Try.func7, Try.ntmps7
        go_wp2_with (first
          | (go_at_call 9; refine HA.mono ?_; rintro e w1 ⟨rfl, hb1⟩; have HB1 : Hid (Below w.heap.size w w1) := hb1; clear hb1 HA)
          | (go_at_call 27; refine (HF.out w1 HB1.out).mono ?_; rintro e w2 ⟨⟨p, a2, c2, rfl, hv⟩, hb2⟩; have HB : Hid (Below w.heap.size w w2) := step HB1.out hb2; have HT : Hid (Tv w2 (some ⟨p, 0, none⟩) a2 qs.length c2 qs true) := hv; clear hb2 hv HF)
          | (go_at_call 28; refine (hpi w2).mono ?_; rintro e w3 ⟨rfl, hw⟩; rw [hw]; clear hw w3 hpi)
          | (go_at_call 28; refine (hpk w2).mono ?_; rintro e w3 ⟨rfl, hw⟩; rw [hw]; clear hw w3 hpk)
          | (go_at_call 28; refine (hpr w2).mono ?_; rintro e w3 ⟨rfl, hw⟩; rw [hw]; clear hw w3 hpr)
          | (go_at_call 22; refine (within_any HT.out hTq.out (by omega) _ _).mono ?_; rintro e w9 ⟨rfl, hb9⟩; replace HB : Hid (Below w.heap.size w w9) := step HB.out hb9; replace HT : Hid (Tv w9 (some ⟨p, 0, none⟩) a2 qs.length c2 qs true) := HT.out.after hb9; clear hb9)
          | (go_at_call 19; refine (under_ok HT.out hTq.out (by omega) _ hi).mono ?_; rintro e w5 ⟨⟨al, cl, rfl, hl5⟩, hb5⟩; replace HB : Hid (Below w.heap.size w w5) := step HB.out hb5; replace HT : Hid (Tv w5 (some ⟨p, 0, none⟩) a2 qs.length c2 qs true) := HT.out.after hb5; have HLi : Hid (Li w5 al (wl qs _ qs.length).length (wl qs _ qs.length)) := hl5; clear hb5 hl5))
      all_goals
        have hsl := (wl_prefix qs i (Nat.le_refl qs.length)).length_le
        have hwn : (wl qs i qs.length).length ≤ qs.length := nodup_le _ _ (fun v => by
          rw [← Nat.not_lt]; intro h
          have h7 := wl_rising qs i qs.length
          have := h7.imp (fun h => (Int.ne_of_lt h))
          exact absurd (List.nodup_iff_count.1 this v) (by omega)) (fun v hv => by obtain ⟨a, b, c⟩ := wl_lt hv; exact ⟨a, by omega⟩)
        go_loopw [16, 17] (fun u v wr => ∃ j : Nat, u = .int .i64 ((wl qs i j).length : Int) ∧ v = .int .i64 j ∧ j ≤ qs.length ∧ Hid (Tv wr (some ⟨p, 0, none⟩) a2 qs.length c2 qs true) ∧ Hid (Below w.heap.size w wr) ∧ Hid (Li wr al (wl qs i qs.length).length (wl qs i qs.length))) (fun _ v _ => (qs.length - (intOf v).toNat : Nat))
        case atStart => exact ⟨0, rfl, rfl, Nat.zero_le _, HT.out, HB.out, HLi.out⟩
        case round =>
          clear HT HB HLi
          obtain ⟨j, rfl, rfl, hj, HT, HB, HLi⟩ := hrel
          rcases Nat.lt_or_ge j qs.length with hlt | hge
          · have hji : (j : Int) < qs.length := by omega
            by_cases hA : Wn qs j i
            · have hjb := wnB_true hTq.out hlt hA
              obtain ⟨g1, g2⟩ := wl_at hA hlt
              obtain ⟨b, off, rfl, hcell⟩ := HLi.out.at g1
              rw [g2] at hcell
              have HE : Hid (wl qs i (j + 1) = wl qs i j ++ [(j : Int)]) := wl_yes hA
              have HEl : Hid (((wl qs i (j + 1)).length : Int) = (wl qs i j).length + 1) := by show _ = _; rw [HE.out]; simp
              have g1i : ((wl qs i j).length : Int) < (wl qs i qs.length).length := by omega
              generalize (wl qs i j).length = A at *
              generalize hBn : (wl qs i qs.length).length = B at *
              clear g2 hA
              go_wp2_with (go_at_call 22; refine (within_any HT.out hTq.out (by omega) _ _).mono ?_; rintro e w9 ⟨rfl, hb9⟩; replace HB : Hid (Below w.heap.size w w9) := step HB.out hb9; replace HT : Hid (Tv w9 (some ⟨p, 0, none⟩) a2 qs.length c2 qs true) := HT.out.after hb9; replace HLi := Hid.mk' (HLi.out.after hb9); replace hcell := (hb9.cell (p := ⟨b, off + A, none⟩) (cell_lt hcell)).trans hcell; clear hb9)
              go_roundw
              case rel => exact ⟨j + 1, by rw [HEl.out], rfl, by omega, HT.out, HB.out, HLi⟩
              case measure => simp [intOf]; omega
            · have hjb := wnB_false hTq.out hlt hA
              have HE : Hid (wl qs i (j + 1) = wl qs i j) := wl_no hA
              clear hA
              generalize hAn : (wl qs i j).length = A at *
              go_wp2_with (go_at_call 22; refine (within_any HT.out hTq.out (by omega) _ _).mono ?_; rintro e w9 ⟨rfl, hb9⟩; replace HB : Hid (Below w.heap.size w w9) := step HB.out hb9; replace HT : Hid (Tv w9 (some ⟨p, 0, none⟩) a2 qs.length c2 qs true) := HT.out.after hb9; replace HLi := Hid.mk' (HLi.out.after hb9); clear hb9)
              go_roundw
              case rel => exact ⟨j + 1, by rw [HE.out, hAn], rfl, by omega, HT.out, HB.out, HLi⟩
              case measure => simp [intOf]; omega
          · obtain rfl : j = qs.length := by omega
            clear hge hj
            go_wp2_with (first
              | (go_at_call 18; refine (HDp2.out _ _ _ _ HT.out).mono ?_; rintro e w9 ⟨rfl, hb9⟩; replace HB : Hid (Below w.heap.size w w9) := step HB.out hb9; replace HT : Hid (Tv w9 (some ⟨p, 0, none⟩) a2 qs.length c2 qs true) := HT.out.after hb9; clear hb9)
              | (go_at_call 24; refine (HPa2.out _ _ _ _ HT.out).mono ?_; rintro e w9 ⟨⟨v, rfl, hG⟩, hb9⟩; obtain ⟨a9, c9, rfl, -⟩ := hG.sl; rw [ints_length]; replace HB : Hid (Below w.heap.size w w9) := step HB.out hb9; clear hb9 hG))
            go_ret
            exact ⟨rfl, HB.out⟩
  · have hF := fun W (h : Below w.heap.size w W) => few_no a0 cap0 W (HL.out.after h) hc hn' hb hT
    go_enter Try.func7, Try.ntmps7
    go_wp2_with (first
      | (go_at_call 9; refine HA.mono ?_; rintro e w1 ⟨rfl, hb1⟩; have HB1 : Hid (Below w.heap.size w w1) := hb1; clear hb1 HA)
      | (go_at_call 27; refine (hF w1 HB1.out).mono ?_; rintro e w2 ⟨rfl, hb2⟩; have HB2 : Hid (Below w.heap.size w w2) := step HB1.out hb2; clear hb2 hF))
    go_ret
    exact ⟨rfl, HB2.out⟩
end Go.Proofs.Ytfmbloagmeodeaa
