/-
  order: the heap's Pop; container/heap's up, Push, down, Pop at the heap's own type.
-/
import Derived.Test.YtonhooaboieapaaOdM
namespace Go.Proofs.Ytonhooaboieapaa
open Go.RowKit Go.Shelf
set_option linter.unusedVariables false

theorem Ge.shrink {w : World} {B g cap : Nat} {l : List Int} {k n : Nat} (h : Ge elI w B (.slice (some ⟨g, 0, none⟩) n cap) l) (hk : k ≤ l.length) : Ge elI w B (.slice (some ⟨g, 0, none⟩) k cap) (l.take k) := by
  obtain ⟨h1, h2 | ⟨g', cap', cur, e, hB, hh, hc, hm, hs, ht⟩⟩ := h
  · cases h2.1
  · cases e
    have hs1 : elI.s = 1 := rfl
    have hlt : (l.take k).length = k := by rw [List.length_take]; omega
    refine ⟨rowE_length elI _, .inr ⟨g, cap, cur, by rw [hlt], hB, hh, by rw [hlt]; omega, hm, hs, ?_⟩⟩
    rw [hlt]
    have : rowE elI (l.take k) = (rowE elI l).take (k * elI.s) := by
      rw [rowI, rowI, hs1, Nat.mul_one, List.map_take]
    rw [this, ← ht, List.take_take]
    congr 1
    rw [hs1]; omega
theorem grown_after {w w1 w2 : World} {g : Option Nat} (h : w.grownBy w1 g) (hb : Below w1.heap.size w1 w2) : w.grownBy w2 g :=
  ⟨hb.os.trans h.os, hb.tape.trans h.tape, hb.output.trans h.output, Nat.le_trans h.size hb.size, fun k hk hne => (hb.block k (Nat.lt_of_lt_of_le hk h.size)).trans (h.block k hk hne)⟩
theorem grown_below {w w1 : World} (hb : Below w.heap.size w w1) : w.grownBy w1 none :=
  ⟨hb.os, hb.tape, hb.output, hb.size, fun k hk _ => hb.block k hk⟩
theorem grown_trans {w w1 w2 w3 : World} {g : Option Nat} (h : w.grownBy w1 g) (h1 : w1.grownBy w2 none) (h2 : w2.grownBy w3 g) : w.grownBy w3 g :=
  ⟨h2.os.trans (h1.os.trans h.os), h2.tape.trans (h1.tape.trans h.tape), h2.output.trans (h1.output.trans h.output), Nat.le_trans h.size (Nat.le_trans h1.size h2.size), fun k hk hne => (h2.block k (Nat.lt_of_lt_of_le hk (Nat.le_trans h.size h1.size)) hne).trans ((h1.block k (Nat.lt_of_lt_of_le hk h.size) (fun e => by cases e)).trans (h.block k hk hne))⟩
theorem rpop_any {w : World} {B b g cap : Nat} {l : List Int} (V : Va w b 52 #[.slice (some ⟨g, 0, none⟩) l.length cap]) (h : Ge elI w B (.slice (some ⟨g, 0, none⟩) l.length cap) l) (h0 : 0 < l.length) (hl : l.length ≤ 1000000) :
    Calls Try.prog 95 #[.pointer (some ⟨b, 0, none⟩)] w fun e w' => (∃ u, e = .returned u) ∧ w' = w.setCell ⟨b, 0, none⟩ (.slice (some ⟨g, 0, none⟩) (l.length - 1) cap) ∧ Va w' b 52 #[.slice (some ⟨g, 0, none⟩) (l.length - 1) cap] ∧ Ge elI w' B (.slice (some ⟨g, 0, none⟩) (l.length - 1) cap) (l.take (l.length - 1)) := by
  have c0 := V.cell
  have f0 := V.frozen 0
  obtain ⟨m, hm⟩ : ∃ m, l.length = m + 1 := ⟨l.length - 1, by omega⟩
  have c1 := h.at0 (i := m) (by omega)
  have hcap : l.length ≤ cap := by
    obtain ⟨a', cap', e, hc, -, -⟩ := h.shape
    cases e; exact hc
  have HR : Hid (∀ v : Value, Ge elI (w.setCell ⟨b, 0, none⟩ v) B (.slice (some ⟨g, 0, none⟩) (l.length - 1) cap) (l.take (l.length - 1))) := fun v => (h.shrink (k := l.length - 1) (by omega)).far (p := ⟨b, 0, none⟩) (fun e => h.apart V (by decide) (by rw [← e]; rfl)) _
  have HV : Hid (Va w b 52 #[.slice (some ⟨g, 0, none⟩) l.length cap]) := V
  generalize l.getD m 0 = x at *
  rw [hm] at c0 HV
  rw [show l.length - 1 = m by omega] at HR ⊢
  have hmi : ((m : Int) + 1 - 1) = m := by omega
  have hmc : (m : Int) ≤ cap := by omega
  have hm1 : m + 1 ≤ 1000000 := by omega
  clear h V hl h0 hcap hm
  go_enter Try.func95, Try.ntmps95
  go_wp2_with fail
  go_ret
  exact ⟨⟨_, rfl⟩, rfl, HV.out.set _, HR.out _⟩
set_option maxRecDepth 20000 in
set_option maxHeartbeats 4000000 in
theorem hup_any {w : World} {B b g cap : Nat} {l : List Int} (V : Va w b 52 #[.slice (some ⟨g, 0, none⟩) l.length cap]) (h : Ge elI w B (.slice (some ⟨g, 0, none⟩) l.length cap) l) (hB : B ≤ w.heap.size) (hl : l.length ≤ 1000000) (j : Nat) (hj : j < l.length) (hU : HpU l l.length j) :
    Calls Try.prog 47 #[.iface 54 (.pointer (some ⟨b, 0, none⟩)), .int .i64 (j : Int)] w fun e w' => (∃ u, e = .returned u) ∧ ∃ l' : List Int, l'.length = l.length ∧ Hp l' l'.length ∧ (∀ v, l'.count v = l.count v) ∧ Va w' b 52 #[.slice (some ⟨g, 0, none⟩) l.length cap] ∧ Ge elI w' B (.slice (some ⟨g, 0, none⟩) l.length cap) l' ∧ w.grownBy w' (some g) ∧ w'.heap.size = w.heap.size := by
  have hbg : b ≠ g := fun e => h.apart V (by decide) (by rw [e]; rfl)
  have HV : Hid (Va w b 52 #[.slice (some ⟨g, 0, none⟩) l.length cap]) := V
  have HG : Hid (Ge elI w B (.slice (some ⟨g, 0, none⟩) l.length cap) l) := h
  have HU : Hid (HpU l l.length j) := hU
  clear h V hU
  go_enter Try.func47, Try.ntmps47
  go_wp2_with fail
  go_loopw [1, 4] (fun v _ wr => ∃ (k : Nat) (m : List Int), v = .int .i64 k ∧ k < l.length ∧ m.length = l.length ∧ Hid (HpU m m.length k) ∧ Hid (∀ v, m.count v = l.count v) ∧ Hid (Va wr b 52 #[.slice (some ⟨g, 0, none⟩) l.length cap]) ∧ Hid (Ge elI wr B (.slice (some ⟨g, 0, none⟩) l.length cap) m) ∧ Hid (w.grownBy wr (some g)) ∧ wr.heap.size = w.heap.size) (fun v _ _ => ((intOf v).toNat : Nat))
  case atStart => exact ⟨j, l, rfl, hj, rfl, HU.out, fun _ => rfl, HV.out, HG.out, World.grownBy.refl _ _, rfl⟩
  case round =>
    clear HU HV HG
    obtain ⟨k, m, rfl, hk, hml, HU, HC, HV, HG, HW, hsz⟩ := hrel
    have c0 := HV.out.cell
    by_cases hk0 : k = 0
    · subst hk0
      go_wp2_with fail
      go_end0
      exact ⟨⟨_, rfl⟩, m, hml, HU.out.done (.inl rfl), HC.out, HV.out, HG.out, HW.out, hsz⟩
    · obtain ⟨i, hi⟩ : ∃ i : Nat, i = (k - 1) / 2 := ⟨_, rfl⟩
      have HI : Hid (i = (k - 1) / 2) := hi
      have hq : ((k : Int) - 1).tdiv 2 = (i : Int) := by rw [Int.tdiv_eq_ediv_of_nonneg (by omega)]; omega
      have hne : ¬ (i : Int) = (k : Int) := by omega
      have hw1 : IntKind.i64.wrap ((k : Int) - 1) = (k : Int) - 1 := by rw [IntKind.wrap_i64]; omega
      have hw2 : IntKind.i64.wrap ((i : Int)) = (i : Int) := by rw [IntKind.wrap_i64]; omega
      have hil : i < l.length := by omega
      have hik : i < k := by omega
      have ml := me_less c0
      have HGm : Ge elI wr B (.slice (some ⟨g, 0, none⟩) m.length cap) m := by rw [hml]; exact HG.out
      have hL := rless_any HGm (i := k) (j := i) (by omega) (by omega)
      rw [hml] at hL
      clear hi
      by_cases hlt : m.getD k 0 < m.getD i 0
      · rw [decide_eq_true hlt] at hL
        have HLt : Hid (m.getD k 0 < m.getD i 0) := hlt
        have HGm2 : Hid (Ge elI wr B (.slice (some ⟨g, 0, none⟩) m.length cap) m) := HGm
        have HSw : Hid (∀ W, Below wr.heap.size wr W → Calls Try.prog 94 #[.slice (some ⟨g, 0, none⟩) l.length cap, .int .i64 (i : Int), .int .i64 (k : Int)] W fun e w' => (∃ v, e = .returned v) ∧ Ge elI w' B (.slice (some ⟨g, 0, none⟩) l.length cap) (sw m i k) ∧ W.grownBy w' (some g) ∧ w'.heap.size = W.heap.size) := fun W hb => by
          have := rswap_any (HGm2.out.after hb) (i := i) (j := k) (by omega) (by omega)
          rwa [hml] at this
        clear hlt HGm
        go_wp2_with (first
          | (go_at_call 93; refine hL.mono ?_; rintro e w1 ⟨rfl, hb1, hs1⟩; have HB1 : Hid (Below wr.heap.size wr w1) := hb1; have HS1 : Hid (w1.heap.size = wr.heap.size) := hs1; have c1 := (HV.out.after hb1).cell; have ms := me_swap c1; clear hb1 hs1 ml hL)
          | (go_at_call 94; refine (HSw.out w1 HB1.out).mono ?_; rintro e w2 ⟨⟨u, rfl⟩, hg2, hgr2, hs2⟩; have HG2 : Hid (Ge elI w2 B (.slice (some ⟨g, 0, none⟩) l.length cap) (sw m i k)) := hg2; have HR2 : Hid (w1.grownBy w2 (some g)) := hgr2; have HS2 : Hid (w2.heap.size = w1.heap.size) := hs2; clear hg2 hgr2 hs2))
        go_roundw
        case rel =>
          have hB1 := HB1.out
          have hV2 : Va w2 b 52 #[.slice (some ⟨g, 0, none⟩) l.length cap] := (HR2.out.block b (HV.out.after hB1).lt (fun e => hbg (Option.some.inj e))).trans (HV.out.after hB1)
          refine ⟨i, sw m i k, rfl, hil, by rw [sw_length]; exact hml, ?_, fun v => ?_, hV2, HG2.out, ?_, by rw [HS2.out, HS1.out]; exact hsz⟩
          · have := HU.out.step (by omega) (by omega) (by omega) (by rw [← HI.out]; exact HLt.out)
            rw [← HI.out] at this
            show HpU _ _ _
            rw [sw_length]
            exact this
          · rw [sw_count (by omega) (by omega)]; exact HC.out v
          · exact grown_trans HW.out (grown_below HB1.out) HR2.out
        case measure => simp [intOf]; omega
      · rw [decide_eq_false hlt] at hL
        have HLt : Hid (¬ m.getD k 0 < m.getD i 0) := hlt
        clear hlt HGm
        go_wp2_with (go_at_call 93; refine hL.mono ?_; rintro e w1 ⟨rfl, hb1, hs1⟩; have HB1 : Hid (Below wr.heap.size wr w1) := hb1; have HS1 : Hid (w1.heap.size = wr.heap.size) := hs1; clear hb1 hs1 ml hL)
        go_end0
        have hB1 := HB1.out
        exact ⟨⟨_, rfl⟩, m, hml, HU.out.done (.inr (by rw [← HI.out]; have := HLt.out; omega)), HC.out, HV.out.after hB1, HG.out.after hB1, grown_after HW.out hB1, by rw [HS1.out]; exact hsz⟩
end Go.Proofs.Ytonhooaboieapaa
