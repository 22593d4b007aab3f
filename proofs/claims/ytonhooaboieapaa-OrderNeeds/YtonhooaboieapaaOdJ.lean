/-
  order: container/heap's down, Push, Pop at the heap's own type.
-/
import Derived.Test.YtonhooaboieapaaOdI
namespace Go.Proofs.Ytonhooaboieapaa
open Go.RowKit Go.Shelf
set_option linter.unusedVariables false

set_option maxRecDepth 20000 in
set_option maxHeartbeats 8000000 in
theorem hdown_any {w : World} {B b g cap : Nat} {l : List Int} (V : Va w b 52 #[.slice (some ⟨g, 0, none⟩) l.length cap]) (h : Ge elI w B (.slice (some ⟨g, 0, none⟩) l.length cap) l) (hB : B ≤ w.heap.size) (hl : l.length ≤ 1000000) (n : Nat) (hn : n ≤ l.length) (hD : HpD l n 0) :
    Calls Try.prog 46 #[.iface 54 (.pointer (some ⟨b, 0, none⟩)), .int .i64 0, .int .i64 (n : Int)] w fun e w' => (∃ u, e = .returned u) ∧ ∃ l' : List Int, l'.length = l.length ∧ Hp l' n ∧ (∀ v, l'.count v = l.count v) ∧ (∀ k, n ≤ k → l'.getD k 0 = l.getD k 0) ∧ Va w' b 52 #[.slice (some ⟨g, 0, none⟩) l.length cap] ∧ Ge elI w' B (.slice (some ⟨g, 0, none⟩) l.length cap) l' ∧ w.grownBy w' (some g) ∧ w'.heap.size = w.heap.size := by
  have hbg : b ≠ g := fun e => h.apart V (by decide) (by rw [e]; rfl)
  have HV : Hid (Va w b 52 #[.slice (some ⟨g, 0, none⟩) l.length cap]) := V
  have HG : Hid (Ge elI w B (.slice (some ⟨g, 0, none⟩) l.length cap) l) := h
  have HD : Hid (HpD l n 0) := hD
  clear h V hD
  go_enter Try.func46, Try.ntmps46
  go_wp2_with fail
  go_loopw [7] (fun v wr => ∃ (k : Nat) (m : List Int), v = .int .i64 k ∧ k ≤ l.length ∧ m.length = l.length ∧ Hid (HpD m n k) ∧ Hid (∀ v, m.count v = l.count v) ∧ Hid (∀ k, n ≤ k → m.getD k 0 = l.getD k 0) ∧ Hid (Va wr b 52 #[.slice (some ⟨g, 0, none⟩) l.length cap]) ∧ Hid (Ge elI wr B (.slice (some ⟨g, 0, none⟩) l.length cap) m) ∧ Hid (w.grownBy wr (some g)) ∧ wr.heap.size = w.heap.size) (fun v _ => (l.length + 1 - (intOf v).toNat : Nat))
  case atStart => exact ⟨0, l, rfl, Nat.zero_le _, rfl, HD.out, fun _ => rfl, fun _ _ => rfl, HV.out, HG.out, World.grownBy.refl _ _, rfl⟩
  case round =>
    clear HD HV HG
    obtain ⟨k, m, rfl, hk, hml, HD, HC, HE, HV, HG, HW, hsz⟩ := hrel
    have c0 := HV.out.cell
    have hw1 : IntKind.i64.wrap (2 * (k : Int)) = 2 * (k : Int) := by rw [IntKind.wrap_i64]; omega
    have hw2 : IntKind.i64.wrap (2 * (k : Int) + 1) = 2 * (k : Int) + 1 := by rw [IntKind.wrap_i64]; omega
    have hw3 : IntKind.i64.wrap (2 * (k : Int) + 1 + 1) = 2 * (k : Int) + 1 + 1 := by rw [IntKind.wrap_i64]; omega
    by_cases h1 : 2 * k + 1 < n
    · have h1i : ¬ (n : Int) ≤ 2 * (k : Int) + 1 := by omega
      have h1n : ¬ 2 * (k : Int) + 1 < 0 := by omega
      have ml := me_less c0
      have HGm : Hid (Ge elI wr B (.slice (some ⟨g, 0, none⟩) m.length cap) m) := by show Ge _ _ _ _ _; rw [hml]; exact HG.out
      have HLs : Hid (∀ (W : World) (p q : Nat), Below wr.heap.size wr W → p < l.length → q < l.length → Calls Try.prog 93 #[.slice (some ⟨g, 0, none⟩) l.length cap, .int .i64 (p : Int), .int .i64 (q : Int)] W fun e w' => e = .returned (.bool (decide (m.getD p 0 < m.getD q 0))) ∧ Below W.heap.size W w' ∧ w'.heap.size = W.heap.size) := fun W p q hb hp hq => by
        have := rless_any (HGm.out.after hb) (i := p) (j := q) (by omega) (by omega)
        rwa [hml] at this
      have HSw : Hid (∀ (W : World) (p q : Nat), Below wr.heap.size wr W → p < l.length → q < l.length → Calls Try.prog 94 #[.slice (some ⟨g, 0, none⟩) l.length cap, .int .i64 (p : Int), .int .i64 (q : Int)] W fun e w' => (∃ v, e = .returned v) ∧ Ge elI w' B (.slice (some ⟨g, 0, none⟩) l.length cap) (sw m p q) ∧ W.grownBy w' (some g) ∧ w'.heap.size = W.heap.size) := fun W p q hb hp hq => by
        have := rswap_any (HGm.out.after hb) (i := p) (j := q) (by omega) (by omega)
        rwa [hml] at this
      have HB : Hid (Below wr.heap.size wr wr) := Below.refl _ _
      have HS : Hid (wr.heap.size = wr.heap.size) := rfl
      by_cases h2 : 2 * k + 1 + 1 < n
      · have h2i : 2 * (k : Int) + 1 + 1 < n := by omega
        by_cases h8 : m.getD (2 * k + 1 + 1) 0 < m.getD (2 * k + 1) 0
        · have hd8 := decide_eq_true h8
          have HLc : Hid (∀ c, 0 < c → c < n → (c - 1) / 2 = k → m.getD (2 * k + 1 + 1) 0 ≤ m.getD c 0) := fun c hc0 hcn hck => by
            have hc2 : c = 2 * k + 1 ∨ c = 2 * k + 1 + 1 := by omega
            rcases hc2 with rfl | rfl
            · omega
            · exact Int.le_refl _
          by_cases hlt : m.getD (2 * k + 1 + 1) 0 < m.getD k 0
          · have HLt : Hid (m.getD (2 * k + 1 + 1) 0 < m.getD k 0) := hlt
            have hd9 := decide_eq_true hlt
            clear hlt
            go_wp2_with (first
              | (go_at_call 93; have hL := HLs.out wr (2 * k + 1 + 1) (2 * k + 1) HB.out (by omega) (by omega); rw [hd8] at hL; push_cast at hL; refine hL.mono ?_; rintro e w1 ⟨rfl, hb1, hs1⟩; have HB' : Hid (Below wr.heap.size wr w1) := step HB.out hb1; have HS' : Hid (w1.heap.size = wr.heap.size) := hs1.trans HS.out; clear HB HS; have HB := HB'; have HS := HS'; clear HB' HS'; replace c0 := (HV.out.after HB.out).cell; replace ml := me_less c0; have ms := me_swap c0; clear hb1 hs1 hL)
              | (go_at_call 93; have hL := HLs.out w1 (2 * k + 1 + 1) (k) HB.out (by omega) (by omega); rw [hd9] at hL; push_cast at hL; refine hL.mono ?_; rintro e w2 ⟨rfl, hb1, hs1⟩; have HB' : Hid (Below wr.heap.size wr w2) := step HB.out hb1; have HS' : Hid (w2.heap.size = wr.heap.size) := hs1.trans HS.out; clear HB HS; have HB := HB'; have HS := HS'; clear HB' HS'; replace c0 := (HV.out.after HB.out).cell; replace ml := me_less c0; have ms := me_swap c0; clear hb1 hs1 hL)
              | (go_at_call 94; have hW := HSw.out w2 k (2 * k + 1 + 1) HB.out (by omega) (by omega); push_cast at hW; refine hW.mono ?_; rintro e w5 ⟨⟨u, rfl⟩, hg2, hgr2, hs2⟩; have HG2 : Hid (Ge elI w5 B (.slice (some ⟨g, 0, none⟩) l.length cap) (sw m k (2 * k + 1 + 1))) := hg2; have HR2 : Hid (w2.grownBy w5 (some g)) := hgr2; have HS2 : Hid (w5.heap.size = w2.heap.size) := hs2; clear hg2 hgr2 hs2 hW))
            go_roundw
            case rel =>
              have hB1 := HB.out
              have hV2 : Va w5 b 52 #[.slice (some ⟨g, 0, none⟩) l.length cap] := (HR2.out.block b (HV.out.after hB1).lt (fun e => hbg (Option.some.inj e))).trans (HV.out.after hB1)
              refine ⟨2 * k + 1 + 1, sw m k (2 * k + 1 + 1), by push_cast; rfl, by omega, by rw [sw_length]; exact hml, ?_, fun v => ?_, fun c hc => ?_, hV2, HG2.out, ?_, by rw [HS2.out, HS.out]; exact hsz⟩
              · exact HD.out.step (by omega) (by omega) (by omega) HLc.out HLt.out
              · rw [sw_count (by omega) (by omega)]; exact HC.out v
              · rw [sw_get (by omega) (by omega), if_neg (by omega), if_neg (by omega)]; exact HE.out c hc
              · exact grown_trans HW.out (grown_below HB.out) HR2.out
            case measure => simp [intOf]; omega
          · have HLt : Hid (¬ m.getD (2 * k + 1 + 1) 0 < m.getD k 0) := hlt
            have hd9 := decide_eq_false hlt
            clear hlt
            go_wp2_with (first
              | (go_at_call 93; have hL := HLs.out wr (2 * k + 1 + 1) (2 * k + 1) HB.out (by omega) (by omega); rw [hd8] at hL; push_cast at hL; refine hL.mono ?_; rintro e w1 ⟨rfl, hb1, hs1⟩; have HB' : Hid (Below wr.heap.size wr w1) := step HB.out hb1; have HS' : Hid (w1.heap.size = wr.heap.size) := hs1.trans HS.out; clear HB HS; have HB := HB'; have HS := HS'; clear HB' HS'; replace c0 := (HV.out.after HB.out).cell; replace ml := me_less c0; have ms := me_swap c0; clear hb1 hs1 hL)
              | (go_at_call 93; have hL := HLs.out w1 (2 * k + 1 + 1) (k) HB.out (by omega) (by omega); rw [hd9] at hL; push_cast at hL; refine hL.mono ?_; rintro e w2 ⟨rfl, hb1, hs1⟩; have HB' : Hid (Below wr.heap.size wr w2) := step HB.out hb1; have HS' : Hid (w2.heap.size = wr.heap.size) := hs1.trans HS.out; clear HB HS; have HB := HB'; have HS := HS'; clear HB' HS'; replace c0 := (HV.out.after HB.out).cell; replace ml := me_less c0; have ms := me_swap c0; clear hb1 hs1 hL))
            go_ret
            have hB1 := HB.out
            refine ⟨⟨_, rfl⟩, m, hml, HD.out.done (fun c hc0 hcn hck => ?_), HC.out, HE.out, HV.out.after hB1, HG.out.after hB1, grown_after HW.out hB1, by rw [HS.out]; exact hsz⟩
            have := HLc.out c hc0 hcn hck
            have := HLt.out
            omega
        · have hd8 := decide_eq_false h8
          have HLc : Hid (∀ c, 0 < c → c < n → (c - 1) / 2 = k → m.getD (2 * k + 1) 0 ≤ m.getD c 0) := fun c hc0 hcn hck => by
            have hc2 : c = 2 * k + 1 ∨ c = 2 * k + 1 + 1 := by omega
            rcases hc2 with rfl | rfl
            · exact Int.le_refl _
            · omega
          by_cases hlt : m.getD (2 * k + 1) 0 < m.getD k 0
          · have HLt : Hid (m.getD (2 * k + 1) 0 < m.getD k 0) := hlt
            have hd9 := decide_eq_true hlt
            clear hlt
            go_wp2_with (first
              | (go_at_call 93; have hL := HLs.out wr (2 * k + 1 + 1) (2 * k + 1) HB.out (by omega) (by omega); rw [hd8] at hL; push_cast at hL; refine hL.mono ?_; rintro e w1 ⟨rfl, hb1, hs1⟩; have HB' : Hid (Below wr.heap.size wr w1) := step HB.out hb1; have HS' : Hid (w1.heap.size = wr.heap.size) := hs1.trans HS.out; clear HB HS; have HB := HB'; have HS := HS'; clear HB' HS'; replace c0 := (HV.out.after HB.out).cell; replace ml := me_less c0; have ms := me_swap c0; clear hb1 hs1 hL)
              | (go_at_call 93; have hL := HLs.out w1 (2 * k + 1) (k) HB.out (by omega) (by omega); rw [hd9] at hL; push_cast at hL; refine hL.mono ?_; rintro e w2 ⟨rfl, hb1, hs1⟩; have HB' : Hid (Below wr.heap.size wr w2) := step HB.out hb1; have HS' : Hid (w2.heap.size = wr.heap.size) := hs1.trans HS.out; clear HB HS; have HB := HB'; have HS := HS'; clear HB' HS'; replace c0 := (HV.out.after HB.out).cell; replace ml := me_less c0; have ms := me_swap c0; clear hb1 hs1 hL)
              | (go_at_call 94; have hW := HSw.out w2 k (2 * k + 1) HB.out (by omega) (by omega); push_cast at hW; refine hW.mono ?_; rintro e w5 ⟨⟨u, rfl⟩, hg2, hgr2, hs2⟩; have HG2 : Hid (Ge elI w5 B (.slice (some ⟨g, 0, none⟩) l.length cap) (sw m k (2 * k + 1))) := hg2; have HR2 : Hid (w2.grownBy w5 (some g)) := hgr2; have HS2 : Hid (w5.heap.size = w2.heap.size) := hs2; clear hg2 hgr2 hs2 hW))
            go_roundw
            case rel =>
              have hB1 := HB.out
              have hV2 : Va w5 b 52 #[.slice (some ⟨g, 0, none⟩) l.length cap] := (HR2.out.block b (HV.out.after hB1).lt (fun e => hbg (Option.some.inj e))).trans (HV.out.after hB1)
              refine ⟨2 * k + 1, sw m k (2 * k + 1), by push_cast; rfl, by omega, by rw [sw_length]; exact hml, ?_, fun v => ?_, fun c hc => ?_, hV2, HG2.out, ?_, by rw [HS2.out, HS.out]; exact hsz⟩
              · exact HD.out.step (by omega) (by omega) (by omega) HLc.out HLt.out
              · rw [sw_count (by omega) (by omega)]; exact HC.out v
              · rw [sw_get (by omega) (by omega), if_neg (by omega), if_neg (by omega)]; exact HE.out c hc
              · exact grown_trans HW.out (grown_below HB.out) HR2.out
            case measure => simp [intOf]; omega
          · have HLt : Hid (¬ m.getD (2 * k + 1) 0 < m.getD k 0) := hlt
            have hd9 := decide_eq_false hlt
            clear hlt
            go_wp2_with (first
              | (go_at_call 93; have hL := HLs.out wr (2 * k + 1 + 1) (2 * k + 1) HB.out (by omega) (by omega); rw [hd8] at hL; push_cast at hL; refine hL.mono ?_; rintro e w1 ⟨rfl, hb1, hs1⟩; have HB' : Hid (Below wr.heap.size wr w1) := step HB.out hb1; have HS' : Hid (w1.heap.size = wr.heap.size) := hs1.trans HS.out; clear HB HS; have HB := HB'; have HS := HS'; clear HB' HS'; replace c0 := (HV.out.after HB.out).cell; replace ml := me_less c0; have ms := me_swap c0; clear hb1 hs1 hL)
              | (go_at_call 93; have hL := HLs.out w1 (2 * k + 1) (k) HB.out (by omega) (by omega); rw [hd9] at hL; push_cast at hL; refine hL.mono ?_; rintro e w2 ⟨rfl, hb1, hs1⟩; have HB' : Hid (Below wr.heap.size wr w2) := step HB.out hb1; have HS' : Hid (w2.heap.size = wr.heap.size) := hs1.trans HS.out; clear HB HS; have HB := HB'; have HS := HS'; clear HB' HS'; replace c0 := (HV.out.after HB.out).cell; replace ml := me_less c0; have ms := me_swap c0; clear hb1 hs1 hL))
            go_ret
            have hB1 := HB.out
            refine ⟨⟨_, rfl⟩, m, hml, HD.out.done (fun c hc0 hcn hck => ?_), HC.out, HE.out, HV.out.after hB1, HG.out.after hB1, grown_after HW.out hB1, by rw [HS.out]; exact hsz⟩
            have := HLc.out c hc0 hcn hck
            have := HLt.out
            omega
      · have h2i : ¬ 2 * (k : Int) + 1 + 1 < n := by omega
        have h2d : decide (2 * (k : Int) + 1 + 1 < n) = false := decide_eq_false h2i
        have HLc : Hid (∀ c, 0 < c → c < n → (c - 1) / 2 = k → m.getD (2 * k + 1) 0 ≤ m.getD c 0) := fun c hc0 hcn hck => by
          have hc2 : c = 2 * k + 1 ∨ c = 2 * k + 1 + 1 := by omega
          rcases hc2 with rfl | rfl
          · exact Int.le_refl _
          · omega
        by_cases hlt : m.getD (2 * k + 1) 0 < m.getD k 0
        · have HLt : Hid (m.getD (2 * k + 1) 0 < m.getD k 0) := hlt
          have hd9 := decide_eq_true hlt
          clear hlt
          go_wp2_with (first
            | (go_at_call 93; have hL := HLs.out wr (2 * k + 1) (k) HB.out (by omega) (by omega); rw [hd9] at hL; push_cast at hL; refine hL.mono ?_; rintro e w1 ⟨rfl, hb1, hs1⟩; have HB' : Hid (Below wr.heap.size wr w1) := step HB.out hb1; have HS' : Hid (w1.heap.size = wr.heap.size) := hs1.trans HS.out; clear HB HS; have HB := HB'; have HS := HS'; clear HB' HS'; replace c0 := (HV.out.after HB.out).cell; replace ml := me_less c0; have ms := me_swap c0; clear hb1 hs1 hL)
            | (go_at_call 94; have hW := HSw.out w1 k (2 * k + 1) HB.out (by omega) (by omega); push_cast at hW; refine hW.mono ?_; rintro e w5 ⟨⟨u, rfl⟩, hg2, hgr2, hs2⟩; have HG2 : Hid (Ge elI w5 B (.slice (some ⟨g, 0, none⟩) l.length cap) (sw m k (2 * k + 1))) := hg2; have HR2 : Hid (w1.grownBy w5 (some g)) := hgr2; have HS2 : Hid (w5.heap.size = w1.heap.size) := hs2; clear hg2 hgr2 hs2 hW))
          go_roundw
          case rel =>
            have hB1 := HB.out
            have hV2 : Va w5 b 52 #[.slice (some ⟨g, 0, none⟩) l.length cap] := (HR2.out.block b (HV.out.after hB1).lt (fun e => hbg (Option.some.inj e))).trans (HV.out.after hB1)
            refine ⟨2 * k + 1, sw m k (2 * k + 1), by push_cast; rfl, by omega, by rw [sw_length]; exact hml, ?_, fun v => ?_, fun c hc => ?_, hV2, HG2.out, ?_, by rw [HS2.out, HS.out]; exact hsz⟩
            · exact HD.out.step (by omega) (by omega) (by omega) HLc.out HLt.out
            · rw [sw_count (by omega) (by omega)]; exact HC.out v
            · rw [sw_get (by omega) (by omega), if_neg (by omega), if_neg (by omega)]; exact HE.out c hc
            · exact grown_trans HW.out (grown_below HB.out) HR2.out
          case measure => simp [intOf]; omega
        · have HLt : Hid (¬ m.getD (2 * k + 1) 0 < m.getD k 0) := hlt
          have hd9 := decide_eq_false hlt
          clear hlt
          go_wp2_with (first
            | (go_at_call 93; have hL := HLs.out wr (2 * k + 1) (k) HB.out (by omega) (by omega); rw [hd9] at hL; push_cast at hL; refine hL.mono ?_; rintro e w1 ⟨rfl, hb1, hs1⟩; have HB' : Hid (Below wr.heap.size wr w1) := step HB.out hb1; have HS' : Hid (w1.heap.size = wr.heap.size) := hs1.trans HS.out; clear HB HS; have HB := HB'; have HS := HS'; clear HB' HS'; replace c0 := (HV.out.after HB.out).cell; replace ml := me_less c0; have ms := me_swap c0; clear hb1 hs1 hL))
          go_ret
          have hB1 := HB.out
          refine ⟨⟨_, rfl⟩, m, hml, HD.out.done (fun c hc0 hcn hck => ?_), HC.out, HE.out, HV.out.after hB1, HG.out.after hB1, grown_after HW.out hB1, by rw [HS.out]; exact hsz⟩
          have := HLc.out c hc0 hcn hck
          have := HLt.out
          omega
    · have h1i : (n : Int) ≤ 2 * (k : Int) + 1 := by omega
      go_wp2_with fail
      go_ret
      exact ⟨⟨_, rfl⟩, m, hml, HD.out.done (fun c h0 hc he => by omega), HC.out, HE.out, HV.out, HG.out, HW.out, hsz⟩
end Go.Proofs.Ytonhooaboieapaa
