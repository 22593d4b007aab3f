/-
  The document's cut, halves and limbs of layer 3.
-/
import Derived.Test.YtlcopgmkgphodaaDoorBsJ
namespace Go.Proofs.YtlcopgmkgphodaaDoor
open Go.RowKit Go.Shelf

theorem gr_own {w : World} {B : Nat} {v : Value} {cs : List Int} (h : Gr w B v cs) : ∀ a cap, v = .slice a cs.length cap → ∀ x : Nat, x ≠ 0 → x = cs.length → ∃ g cur, a = some ⟨g, 0, none⟩ ∧ B ≤ g ∧ w.heap[g]? = some (.cells cur 34 (0, 0)) := by
  intro a cap hv x hx hxc
  obtain ⟨h1, h2 | ⟨g, cap2, cur, rfl, hB, hh, hc, hm, hs, ht⟩⟩ := h
  · omega
  · cases hv
    exact ⟨g, cur, rfl, hB, hh⟩
/-- A list of digits is answered, trimmed, of that number, in memory of its own. -/
def DRes3 (w w' : World) (e : Ending) (N : Int) (bound : Nat) : Prop :=
  ∃ a m c ds, e = .returned (.slice a m c) ∧ m ≤ c ∧ m ≤ bound ∧ Sl w' a m ds ∧ H.Limbs ds ∧ usedN ds = m ∧ H.num ds = N ∧ (m ≠ 0 → ∃ g cur, a = some ⟨g, 0, none⟩ ∧ w.heap.size ≤ g ∧ w'.heap[g]? = some (.cells cur 34 (0, 0))) ∧ Below w.heap.size w w'
set_option maxHeartbeats 1000000 in
theorem limbs3 (a : Option Addr) (m ca : Nat) (ds : List Int) (w : World) (h : Sl w a m ds) (hd : H.Limbs ds) (hl : m ≤ 17000000000000) :
    Calls Tryd.prog 22 #[.slice a m ca] w fun e w' => LRes w w' e (H.num ds) m := by
  have hz := h.1
  have HSL : Hid (Sl w a m ds) := h
  clear h
  go_enter Tryd.func22, Tryd.ntmps22
  go_wp2_with fail
  go_loopw [3, 4] (fun v i wr => ∃ (k : Nat) (cs : List Int), i = .int .i64 (2 * (k : Int)) ∧ 2 * k ≤ m + 1 ∧ Hid (LmInv ds cs k) ∧ Hid (Gr wr w.heap.size v cs) ∧ Below w.heap.size w wr) (fun _ i _ => m + 1 - (intOf i).toNat)
  case atStart => exact ⟨0, [], rfl, by omega, ⟨rfl, Limbs.nil, rfl⟩, Gr.nil _ _, Below.refl _ _⟩
  case round =>
    obtain ⟨k, cs, rfl, hk, hI, hG, hb⟩ := hrel
    by_cases hlt : 2 * k < m
    · have hs := HSL.out.below hb (Nat.le_refl _)
      obtain ⟨b, off, rfl, hcell⟩ := hs.2.2 (by omega)
      have hcx := hcell (2 * k) hlt
      have hstep := lm_step hd hI.out
      have b1 := hd.getD (2 * k); have b2 := hd.getD (2 * k + 1)
      have hcl : cs.length ≤ k := by have := hI.out.1; omega
      have hbs := hb.size
      have ek : (2 * (k : Int)).toNat = 2 * k := by omega
      have ek1 : (2 * (k : Int) + 1).toNat = 2 * k + 1 := by omega
      obtain ⟨x, hx⟩ : ∃ x, ds.getD (2 * k) 0 = x := ⟨_, rfl⟩
      obtain ⟨y, hy⟩ : ∃ y, ds.getD (2 * k + 1) 0 = y := ⟨_, rfl⟩
      rw [hx] at hcx hstep b1
      rw [hy] at hstep b2
      obtain ⟨x1, x2⟩ := b1; obtain ⟨y1, y2⟩ := b2
      by_cases hlt2 : 2 * k + 1 < m
      · have hcy := hcell (2 * k + 1) hlt2
        rw [hy] at hcy
        have HS : Hid (LmInv ds (cs ++ [x + 4294967296 * y]) (k + 1)) := hstep
        have HSZ : Hid (w.heap.size ≤ (wr.alloc (.cells (row [x + 4294967296 * y]).toArray 34)).heap.size) := by show _ ≤ _; simp; omega
        have q1 : (2 * (k : Int)) < m := by omega
        have q2 : (2 * (k : Int)) + 1 < m := by omega
        clear hs hcell hx hy hstep
        go_wp2_with (at_builtin; refine wpList_app rfl (.tmp 29) (.tmp 31) rfl w.heap.size u3 cs rfl (hG.out.alloc _) wr.heap.size 1 1 [x + 4294967296 * y] rfl rfl (heap_alloc_new _ _) (by omega) HSZ.out ?_; intro v1 w1 hG1 hb1)
        have hb2 : Below w.heap.size w w1 := (hb.alloc hbs _).trans hb1
        clear hb1
        go_wp2_with fail
        go_roundw
        case rel => exact ⟨k + 1, _, by rw [show 2 * ((k + 1 : Nat) : Int) = 2 * (k : Int) + 2 by omega], by omega, HS, hG1, hb2⟩
        case measure => simp [intOf]; omega
      · have hy0 : y = 0 := by rw [← hy, List.getD_eq_getElem?_getD, List.getElem?_eq_none (by omega)]; rfl
        rw [hy0, Int.mul_zero, Int.add_zero] at hstep
        have HS : Hid (LmInv ds (cs ++ [x]) (k + 1)) := hstep
        have HSZ : Hid (w.heap.size ≤ (wr.alloc (.cells (row [x]).toArray 34)).heap.size) := by show _ ≤ _; simp; omega
        have q1 : (2 * (k : Int)) < m := by omega
        have q2 : ¬ (2 * (k : Int)) + 1 < m := by omega
        clear hs hcell hx hy hstep hy0
        go_wp2_with (at_builtin; refine wpList_app rfl (.tmp 29) (.tmp 31) rfl w.heap.size u3 cs rfl (hG.out.alloc _) wr.heap.size 1 1 [x] rfl rfl (heap_alloc_new _ _) (by omega) HSZ.out ?_; intro v1 w1 hG1 hb1)
        have hb2 : Below w.heap.size w w1 := (hb.alloc hbs _).trans hb1
        clear hb1
        go_wp2_with fail
        go_roundw
        case rel => exact ⟨k + 1, _, by rw [show 2 * ((k + 1 : Nat) : Int) = 2 * (k : Int) + 2 by omega], by omega, HS, hG1, hb2⟩
        case measure => simp [intOf]; omega
    · obtain ⟨i1, i2, i3⟩ := hI.out
      have et : ds.take (2 * k) = ds := List.take_of_length_le (by omega)
      rw [et] at i3
      obtain ⟨aa, cap, gm, hv, hcap, hsl, -, hnil, -⟩ := hG.out.parts i2
      have hu := usedN_le cs
      have hle : cs.length ≤ m := by omega
      have q1 : ¬ (2 * (k : Int)) < m := by omega
      rw [hv]
      clear hG hv i1 et
      go_wp2_with fail
      refine (rtrim_any aa cs.length cap cs _ hsl hnil (by omega) hcap).mono ?_
      rintro e w2 ⟨a2, c2, rfl, s2, hc2, b2⟩
      go_wp2_with fail
      go_ret
      exact ⟨a2, usedN cs, c2, cs.take (usedN cs), rfl, hc2, by omega, s2, usedN_take cs (Nat.le_refl _), by rw [num_take_used cs (Nat.le_refl _)]; exact i3, step hb b2⟩

end Go.Proofs.YtlcopgmkgphodaaDoor
