/-
  The document's onto: digits to the base 2^32 times a number, and one more, in a row of the caller's own.
-/
import Derived.Test.YtebbblhafjaaiaaGreatDoorOnP
import Derived.Test.YtebbblhafjaaiaaGreatDoorWt9
namespace Go.Proofs.YtebbblhafjaaiaaGreatDoor
open Go.RowKit Go.Shelf
set_option linter.unusedVariables false

theorem Gr.shape {w : World} {B : Nat} {v : Value} {cs : List Int} (h : Gr w B v cs) : (v = .slice none 0 0 ∧ cs = []) ∨ ∃ g cap, v = .slice (some ⟨g, 0, none⟩) cs.length cap ∧ B ≤ g ∧ g < w.heap.size ∧ cs.length ≤ cap ∧ Wb w g cs.length cs := by
  obtain ⟨h1, h2 | ⟨g, cap, cur, rfl, hB, hh, hc, hm, hs, ht⟩⟩ := h
  · obtain ⟨rfl, h0⟩ := h2
    exact .inl ⟨rfl, List.length_eq_zero_iff.1 h0⟩
  · refine .inr ⟨g, cap, rfl, hB, ?_, hc, rfl, cur, hh, fun i hi => ?_⟩
    · rcases Nat.lt_or_ge g w.heap.size with h' | h'
      · exact h'
      · rw [Array.getElem?_eq_none h'] at hh; cases hh
    · have hr := row_getElem? cs i hi
      rw [← ht, Nat.mul_one, List.getElem?_take_of_lt hi] at hr
      simpa using hr
theorem row_set (cs : List Int) (i : Nat) (x : Int) : row (cs.set i x) = (row cs).set i (.int .u64 x) := by simp [row, List.map_set]
theorem Gr.seti {w : World} {B g cap : Nat} {cs : List Int} (h : Gr w B (.slice (some ⟨g, 0, none⟩) cs.length cap) cs) (i : Nat) (hi : i < cs.length) (x : Int) : Gr (w.setCell ⟨g, i, none⟩ (.int .u64 x)) B (.slice (some ⟨g, 0, none⟩) cs.length cap) (cs.set i x) := by
  obtain ⟨h1, h2 | ⟨g', cap', cur, e, hB, hh, hc, hm, hs, ht⟩⟩ := h
  · obtain ⟨e, h0⟩ := h2; cases e
  · cases e
    refine ⟨by rw [row_length, List.length_set, Nat.mul_one], .inr ⟨g, cap, cur.setIfInBounds i (.int .u64 x), by rw [List.length_set], hB, ?_, by rw [List.length_set]; exact hc, hm, by rw [Array.size_setIfInBounds]; exact hs, ?_⟩⟩
    · simp only [World.setCell]
      rw [Array.getElem?_modify, if_pos rfl, hh]
      simp
    · rw [List.length_set, Array.toList_setIfInBounds, List.take_set, ht, row_set]
def OnR (B : Nat) (ds : List Int) (p q : Int) (w : World) (e : Ending) (w' : World) : Prop := ∃ v' cs, e = .returned v' ∧ Gr w' B v' cs ∧ H.Limbs cs ∧ Tzr cs ∧ H.num cs = H.num ds * p + q ∧ cs.length ≤ ds.length + 1 ∧ Below B w w'
set_option maxHeartbeats 2000000 in
theorem onto_any (B : Nat) (v : Value) (ds : List Int) (p q : Int) (w : World) (h : Gr w B v ds) (hL : H.Limbs ds) (hz : Tzr ds) (hB : B ≤ w.heap.size) (hlen : ds.length ≤ 1000000) (p1 : 1 ≤ p) (p2 : p < 4294967296) (q0 : 0 ≤ q) (q1 : q < 4294967296) :
    Calls Tryz.prog 200 #[v, .int .u64 p, .int .u64 q] w fun e w' => OnR B ds p q w e w' := by
  have HG0 : Hid (Gr w B v ds) := h
  have I0 : Hid (OnI ds ds p q 0 q) := OnI.start hL q0 q1
  obtain ⟨m, hm⟩ : ∃ m, ds.length = m := ⟨_, rfl⟩
  obtain ⟨a, cap, hv⟩ : ∃ a cap, v = .slice a m cap := by
    rw [← hm]
    obtain ⟨a, cap, e, -⟩ := h.sl hL.up
    exact ⟨a, cap, e⟩
  subst hv
  rw [hm] at hlen
  have HM : Hid (ds.length = m) := hm
  have HL : Hid (H.Limbs ds ∧ Tzr ds) := ⟨hL, hz⟩
  clear h hL hz hm
  go_enter Tryz.func200, Tryz.ntmps200
  go_wp2_with fail
  go_loopw [7, 8] (fun cc ii wr => ∃ (k : Nat) (c : Int) (cs : List Int), ii = .int .i64 k ∧ cc = .int .u64 c ∧ k ≤ m ∧ Hid (OnI ds cs p q k c) ∧ Hid (Gr wr B (.slice a m cap) cs) ∧ Hid (Below B w wr)) (fun _ ii _ => ((m : Int) - intOf ii).toNat)
  case atStart => exact ⟨0, q, ds, rfl, rfl, by omega, I0, HG0, Below.refl _ _⟩
  case round =>
    obtain ⟨k, c, cs, rfl, rfl, hk, HI, HG, HB⟩ := hrel
    have hcl : cs.length = m := by rw [HI.out.len]; exact HM.out
    have c0 := HI.out.c0
    have c1 := HI.out.c1
    clear I0 HG0
    by_cases hlt : k < m
    · have hki : (k : Int) < m := by omega
      obtain ⟨g, cap', e, hBg, hgl, hcc, hWb⟩ : ∃ g cap', Value.slice a m cap = .slice (some ⟨g, 0, none⟩) cs.length cap' ∧ B ≤ g ∧ g < wr.heap.size ∧ cs.length ≤ cap' ∧ Wb wr g cs.length cs := by
        rcases HG.out.shape with ⟨e, e2⟩ | h
        · rw [e2] at hcl; simp at hcl; omega
        · exact h
      rw [hcl] at e
      cases e
      have hstep := HI.out.step (by rw [HM.out]; exact hlt) (by omega) p2
      have hd0 := HI.out.lim.getD k
      have hcell := hWb.cell k (by omega)
      have hfz := hWb.frozen k
      rw [HI.out.rst k (Nat.le_refl _)] at hcell hd0
      have hG2 := HG.out
      rw [← hcl] at hG2
      have hset := fun x => hG2.seti k (by omega) x
      rw [hcl] at hset
      obtain ⟨x, hx⟩ : ∃ x, ds.getD k 0 = x := ⟨_, rfl⟩
      rw [hx] at hstep hcell hd0
      have hmb := mul32_bd hd0.1 hd0.2 (show 0 ≤ p by omega) p2
      obtain ⟨y, hy⟩ : ∃ y, x * p = y := ⟨_, rfl⟩
      rw [hy] at hstep hmb
      obtain ⟨s, hs⟩ : ∃ s, y + c = s := ⟨_, rfl⟩
      rw [hs] at hstep
      have s0 : 0 ≤ s := by omega
      have s1 : s < 18446744073709551616 := by omega
      have y1 : y < 18446744073709551616 := by omega
      have y0 : 0 ≤ y := hmb.1
      have wy : IntKind.u64.wrap y = y := by rw [IntKind.wrap_u64]; omega
      have ws : IntKind.u64.wrap s = s := by rw [IntKind.wrap_u64]; omega
      have HST : Hid (OnI ds (cs.set k (s % 4294967296)) p q (k + 1) (s / 4294967296)) := hstep
      have HSET : Hid (∀ x : Int, Gr (wr.setCell ⟨g, k, none⟩ (.int .u64 x)) B (.slice (some ⟨g, 0, none⟩) m cap) (cs.set k x)) := hset
      clear hstep hset hG2 hWb hx hmb HI HG
      go_wp2_with fail
      go_roundw
      case rel => exact ⟨k + 1, _, _, by go_num, rfl, by omega, HST, HSET.out _, HB.out.setCell (p := ⟨g, k, none⟩) hBg _⟩
      case measure => simp [intOf]; omega
    · have hki : ¬ (k : Int) < m := by omega
      obtain rfl : k = m := by omega
      have hI := HI.out
      rw [← HM.out] at hI
      have hend := hI.end_ HL.out.2 HL.out.1 p1 q0
      by_cases hc : 0 < c
      · rw [if_pos hc] at hend
        have HE : Hid (H.num (cs ++ [c]) = H.num ds * p + q ∧ H.Limbs (cs ++ [c]) ∧ Tzr (cs ++ [c])) := hend
        have hBw : B ≤ wr.heap.size := Nat.le_trans hB HB.out.size
        clear hI hend HI
        have hal : B ≤ (wr.alloc (.cells #[.int .u64 c] 94)).heap.size := by simp; omega
        have HAL : Hid (Below B w (wr.alloc (.cells #[.int .u64 c] 94))) := HB.out.alloc hBw _
        go_wp2_with (at_builtin; refine wpList_app rfl (.tmp 34) (.tmp 36) rfl B (.slice a k cap) cs rfl (HG.out.alloc _) wr.heap.size 1 1 [c] rfl rfl (heap_alloc_new _ _) (by omega) hal ?_; intro v1 w1 hG1 hb1)
        go_ret
        exact ⟨_, cs ++ [c], rfl, hG1.out, HE.out.2.1, HE.out.2.2, HE.out.1, by rw [HM.out]; simp; omega, HAL.out.trans hb1⟩
      · rw [if_neg hc] at hend
        have HE : Hid (H.num cs = H.num ds * p + q ∧ H.Limbs cs ∧ Tzr cs) := hend
        clear hI hend HI
        go_wp2_with fail
        go_ret
        exact ⟨_, cs, rfl, HG.out, HE.out.2.1, HE.out.2.2, HE.out.1, by rw [HM.out]; omega, HB.out⟩
end Go.Proofs.YtebbblhafjaaiaaGreatDoor
