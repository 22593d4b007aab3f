/-
  The document's piece, over and Worths of layer 3, at base ten, for numbers below 2 ^ 64.
-/
import Derived.Test.YtebbblhafjaaiaaGreatDoorT3a
import Derived.Test.YtebbblhafjaaiaaGreatDoorBsK
namespace Go.Proofs.YtebbblhafjaaiaaGreatDoor
open Go.RowKit Go.Shelf
set_option linter.unusedVariables false

/-- Digits at the head of a row of the call's own. -/
def Wb (w : World) (g m : Nat) (ds : List Int) : Prop := ds.length = m ∧ ∃ cur : Array Value, w.heap[g]? = some (.cells cur 94 (0, 0)) ∧ ∀ i, i < m → cur[i]? = some (.int .u64 (ds.getD i 0))
theorem Wb.cell {w : World} {g m : Nat} {ds : List Int} (h : Wb w g m ds) (i : Nat) (hi : i < m) : w.cell? ⟨g, i, none⟩ = some (.int .u64 (ds.getD i 0)) := by
  obtain ⟨-, cur, h1, h2⟩ := h
  simp only [World.cell?, h1]
  simpa using h2 i hi
theorem Wb.frozen {w : World} {g m : Nat} {ds : List Int} (h : Wb w g m ds) (i : Nat) : w.frozen? ⟨g, i, none⟩ = false := by
  obtain ⟨-, cur, h1, h2⟩ := h
  simp [World.frozen?, h1]
theorem Wb.lt {w : World} {g m : Nat} {ds : List Int} (h : Wb w g m ds) : g < w.heap.size := by
  obtain ⟨-, cur, h1, h2⟩ := h
  rcases Nat.lt_or_ge g w.heap.size with h' | h'
  · exact h'
  · rw [Array.getElem?_eq_none h'] at h1; cases h1
theorem Wb.set {w : World} {g m : Nat} {ds : List Int} (h : Wb w g m ds) (i : Nat) (hi : i < m) (v : Int) : Wb (w.setCell ⟨g, i, none⟩ (.int .u64 v)) g m (ds.set i v) := by
  obtain ⟨h0, cur, h1, h2⟩ := h
  have hc : i < cur.size := by
    rcases Nat.lt_or_ge i cur.size with h' | h'
    · exact h'
    · have := h2 i hi; rw [Array.getElem?_eq_none h'] at this; cases this
  refine ⟨by rw [List.length_set]; exact h0, cur.setIfInBounds i (.int .u64 v), ?_, fun j hj => ?_⟩
  · simp only [World.setCell]
    rw [Array.getElem?_modify, if_pos rfl, h1]
    simp
  · rw [List.getD_eq_getElem?_getD]
    by_cases e : i = j
    · subst e
      rw [Array.getElem?_setIfInBounds_self_of_lt hc, List.getElem?_set_self (by omega)]; rfl
    · rw [Array.getElem?_setIfInBounds_ne e, List.getElem?_set_ne e, ← List.getD_eq_getElem?_getD]; exact h2 j hj
theorem Wb.sl {w : World} {g m : Nat} {ds : List Int} (h : Wb w g m ds) (hL : Limbs ds) : Sl w (some ⟨g, 0, none⟩) m ds :=
  ⟨h.1, hL, fun _ => ⟨g, 0, rfl, fun i hi => by rw [Nat.zero_add]; exact h.cell i hi⟩⟩
theorem Wb.take {w : World} {g m : Nat} {ds : List Int} (h : Wb w g m ds) {n : Nat} (hn : n ≤ m) : Wb w g n (ds.take n) := by
  obtain ⟨h0, cur, h1, h2⟩ := h
  refine ⟨by rw [List.length_take]; omega, cur, h1, fun i hi => ?_⟩
  rw [h2 i (by omega), List.getD_eq_getElem?_getD, List.getD_eq_getElem?_getD, List.getElem?_take_of_lt hi]
theorem Wb.below {B : Nat} {w w' : World} {g m : Nat} {ds : List Int} (h : Wb w g m ds) (b : Below B w w') (hg : g < B) : Wb w' g m ds := by
  obtain ⟨h0, cur, h1, h2⟩ := h
  exact ⟨h0, cur, by rw [b.block g hg]; exact h1, h2⟩
theorem wb_of {w : World} {g m : Nat} {ds : List Int} {cur : Array Value} (h : Sl w (some ⟨g, 0, none⟩) m ds) (hh : w.heap[g]? = some (.cells cur 94 (0, 0))) : Wb w g m ds := by
  refine ⟨h.1, cur, hh, fun i hi => ?_⟩
  obtain ⟨b, off, e, hc⟩ := h.2.2 (by omega)
  cases e
  have := hc i hi
  simp only [World.cell?, hh, Nat.zero_add] at this
  simpa using this
theorem gr_only {g : Nat} {w w' : World} {B : Nat} {v : Value} {cs : List Int} (h : Gr w B v cs) (o : Only g w w') (hg : g < B) : Gr w' B v cs := by
  obtain ⟨h1, h2 | ⟨k, cap, cur, e, hB, hh, hc, hm, hs, ht⟩⟩ := h
  · exact ⟨h1, .inl h2⟩
  · exact ⟨h1, .inr ⟨k, cap, cur, e, hB, by rw [o.oth k (by omega)]; exact hh, hc, hm, hs, ht⟩⟩
set_option maxHeartbeats 1000000 in
theorem over9 (g m cap : Nat) (ds : List Int) (b : Int) (w : World) (h : Wb w g m ds) (hd : H.Limbs ds) (hm : m ≤ 16000000000000) (b0 : 0 < b) (b1 : b < 4294967296) :
    Calls Tryz.prog 148 #[.slice (some ⟨g, 0, none⟩) m cap, .int .u64 b] w fun e w' => ∃ cs r, e = .returned (.int .u64 r) ∧ Wb w' g m cs ∧ H.Limbs cs ∧ H.num ds = H.num cs * b + r ∧ 0 ≤ r ∧ r < b ∧ Only g w w' := by
  have gb : (b == 0) = false := by simp; omega
  have HLD : Hid (ds.length = m) := h.1
  have HW : Hid (Wb w g m ds) := h
  have I0 : Hid (RvInv ds ds b m 0) := by
    refine ⟨rfl, hd, ?_, by omega, b0⟩
    have e1 : ds.drop m = [] := List.drop_eq_nil_of_le (by rw [HLD.out]; exact Nat.le_refl _)
    rw [e1]; simp [H.num]
  clear h
  go_enter Tryz.func148, Tryz.ntmps148
  go_wp2_with fail
  go_loopw [5, 6] (fun rr ii wr => ∃ (k : Nat) (r : Int) (cs : List Int), ii = .int .i64 ((k : Int) - 1) ∧ rr = .int .u64 r ∧ k ≤ m ∧ Hid (RvInv ds cs b k r) ∧ Hid (Wb wr g m cs) ∧ Hid (∀ j, j < k → cs.getD j 0 = ds.getD j 0) ∧ Only g w wr) (fun _ ii _ => (intOf ii + 1).toNat)
  case atStart => exact ⟨m, 0, ds, rfl, rfl, Nat.le_refl _, I0, HW, fun _ _ => rfl, Only.refl _ _⟩
  case round =>
    obtain ⟨k, r, cs, rfl, rfl, hk, hI, hO, hE, ho⟩ := hrel
    by_cases h0 : k = 0
    · subst h0
      have HE : Hid (H.num ds = H.num cs * b + r) := rv_whole hI.out
      obtain ⟨i1, i2, i3, i4, i5⟩ := hI.out
      clear i1 i3
      go_wp2_with fail
      go_ret
      exact ⟨cs, r, rfl, hO.out, i2, HE.out, i4, i5, ho⟩
    · obtain ⟨j, rfl⟩ : ∃ j, k = j + 1 := ⟨k - 1, by omega⟩
      have hxw := hd.getD j
      have hstep := rv_step hd hI.out (by rw [HLD.out]; omega)
      have hcy := hO.out.cell j (by omega)
      rw [hE.out j (by omega)] at hcy
      have hfy := hO.out.frozen j
      have hr0 := hI.out.2.2.2.1
      have hr1 := hI.out.2.2.2.2
      obtain ⟨x, hx⟩ : ∃ x, ds.getD j 0 = x := ⟨_, rfl⟩
      rw [hx] at hcy hxw hstep
      obtain ⟨x1, x2⟩ := hxw
      rw [Int.mul_comm] at hstep
      obtain ⟨y, hy⟩ : ∃ y, r * 4294967296 + x = y := ⟨_, rfl⟩
      rw [hy] at hstep
      have y1 : 0 ≤ y := by omega
      have y2 : y < 18446744073709551616 := by omega
      have r2 : r < 4294967296 := by omega
      have HS : Hid (RvInv ds (cs.set j (y / b)) b j (y % b)) := hstep
      have jn : (j : Int) < m := by omega
      have HE2 : Hid (∀ i, i < j → (cs.set j (y / b)).getD i 0 = ds.getD i 0) := by
        intro i hi
        rw [← hE.out i (by omega), List.getD_eq_getElem?_getD, List.getD_eq_getElem?_getD, List.getElem?_set_ne (by omega)]
      rw [show (((j + 1 : Nat) : Int) - 1) = (j : Int) by omega]
      clear hstep hx h0
      go_wp2_with fail
      go_roundw
      case rel => exact ⟨j, _, _, rfl, rfl, by omega, HS, Wb.set hO.out j (by omega) _, HE2, ho.set j _⟩
      case measure => simp [intOf]
set_option maxHeartbeats 1000000 in
theorem piece9 (w : World) : Calls Tryz.prog 146 #[.int .i64 10] w fun e w' => e = .returned (.tuple #[.int .u64 1000000000, .int .i64 9]) ∧ w' = w := by
  go_enter Tryz.func146, Tryz.ntmps146
  go_wp2_with fail
  go_loopw [4, 5] (fun p n wr => wr = w ∧ ((p = .int .u64 1 ∧ n = .int .i64 0) ∨ (p = .int .u64 10 ∧ n = .int .i64 1) ∨ (p = .int .u64 100 ∧ n = .int .i64 2) ∨ (p = .int .u64 1000 ∧ n = .int .i64 3) ∨ (p = .int .u64 10000 ∧ n = .int .i64 4) ∨ (p = .int .u64 100000 ∧ n = .int .i64 5) ∨ (p = .int .u64 1000000 ∧ n = .int .i64 6) ∨ (p = .int .u64 10000000 ∧ n = .int .i64 7) ∨ (p = .int .u64 100000000 ∧ n = .int .i64 8) ∨ (p = .int .u64 1000000000 ∧ n = .int .i64 9))) (fun _ n _ => (9 - intOf n).toNat)
  case atStart => exact ⟨rfl, .inl ⟨rfl, rfl⟩⟩
  case round =>
    obtain ⟨rfl, hc⟩ := hrel
    rcases hc with ⟨rfl, rfl⟩ | ⟨rfl, rfl⟩ | ⟨rfl, rfl⟩ | ⟨rfl, rfl⟩ | ⟨rfl, rfl⟩ | ⟨rfl, rfl⟩ | ⟨rfl, rfl⟩ | ⟨rfl, rfl⟩ | ⟨rfl, rfl⟩ | ⟨rfl, rfl⟩
    all_goals first
      | (go_wp2_with fail
         go_roundw
         case rel => simp
         case measure => simp [intOf])
      | (go_wp2_with fail
         go_ret2
         exact ⟨rfl, rfl⟩)
end Go.Proofs.YtebbblhafjaaiaaGreatDoor
