/-
  Lists that are lent with marks behind their ends, and whether they are still as they were.
-/
import Derived.Test.YtigimdcaakfckaaGreatDoorGrI
import Derived.Deep.RegionWith
namespace Go.Proofs.YtigimdcaakfckaaGreatDoor
open Go.RowKit Go.Shelf

/-- A row of int64s that a call made itself: block g, whole. -/
def OwI (w : World) (g : Nat) (cs : List Int) : Prop := w.heap[g]? = some (.cells (rowI cs).toArray 2 (0, 0))
theorem OwI.cell {w : World} {g : Nat} {cs : List Int} (h : OwI w g cs) (i : Nat) (hi : i < cs.length) : w.cell? ⟨g, i, none⟩ = some (.int .i64 (cs.getD i 0)) := by
  have := rowI_get cs i hi
  simp only [World.cell?, OwI] at *
  rw [h]
  simpa using this
theorem OwI.lt {w : World} {g : Nat} {cs : List Int} (h : OwI w g cs) : g < w.heap.size := Va.lt (t := 2) h
theorem OwI.below {B : Nat} {w w' : World} {g : Nat} {cs : List Int} (h : OwI w g cs) (b : Below B w w') (hg : g < B) : OwI w' g cs := Va.below (t := 2) h b hg
theorem OwI.frozen {w : World} {g : Nat} {cs : List Int} (h : OwI w g cs) (i : Nat) : w.frozen? ⟨g, i, none⟩ = false := Va.frozen (t := 2) h i
theorem Li.below {w w' : World} {a : Option Addr} {len : Nat} {zs : List Int} {B : Nat} (h : Li w a len zs) (b : Below B w w') (hB : w.heap.size ≤ B) : Li w' a len zs := h.after (b.mono hB)
/-- The marks. -/
def marks : Nat → List Int
  | 0 => []
  | k + 1 => marks k ++ [8000024 + (k : Int)]
theorem marks_length : ∀ k, (marks k).length = k
  | 0 => rfl
  | k + 1 => by simp [marks, marks_length k]
theorem marks_getD : ∀ (n k : Nat), k < n → (marks n).getD k 0 = 8000024 + (k : Int)
  | 0, k, h => absurd h (by omega)
  | n + 1, k, h => by
    rw [marks, List.getD_eq_getElem?_getD]
    by_cases hk : k < n
    · rw [List.getElem?_append_left (by rw [marks_length]; exact hk), ← List.getD_eq_getElem?_getD]; exact marks_getD n k hk
    · obtain rfl : k = n := by omega
      rw [List.getElem?_append_right (by rw [marks_length]; exact Nat.le_refl _), marks_length, Nat.sub_self]; rfl

theorem mark_any (i : Int) (h0 : 0 ≤ i) (h1 : i ≤ 100) (w : World) : Calls Tryz.prog 41 #[.int .i64 1, .int .i64 i] w fun e w' => e = .returned (.int .i64 (8000024 + i)) ∧ w' = w := by
  go_enter Tryz.func41, Tryz.ntmps41
  go_wp2_with fail
  go_ret
  exact ⟨rfl, rfl⟩

/-- A rowI of the call's own, filled up. -/
theorem ownI_full {w : World} {B g cap : Nat} {cs : List Int} (h : w.ownsRow B 2 1 (.slice (some ⟨g, 0, none⟩) cap cap) cap (rowI cs)) : OwI w g cs := by
  obtain ⟨h1, h2 | ⟨g', cap', cur, e, hB, hh, hc, hm, hs, ht⟩⟩ := h
  · obtain ⟨h2, -⟩ := h2; cases h2
  · cases e
    rw [Nat.mul_one] at hs ht
    rw [List.take_of_length_le (by simp; omega)] at ht
    unfold OwI
    rw [hh, ← ht]

set_option maxRecDepth 20000 in
set_option maxHeartbeats 1000000 in
theorem lentI (a : Option Addr) (la ca : Nat) (zs : List Int) (w : World) (h : Li w a la zs) (hn : a = none → la = 0 ∧ ca = 0) (hl : la ≤ 20000000000000) :
    Calls Tryz.prog 12 #[.slice a la ca] w fun e w' =>
      ∃ g, e = .returned (.slice (some ⟨g, 0, none⟩) la (la + 12)) ∧ w.heap.size ≤ g ∧ OwI w' g (zs ++ marks 12) ∧ Below w.heap.size w w' := by
  have hz := h.1
  obtain ⟨i0, hi, hz0, hz1, hz2⟩ := info_parts info8I
  have hb8 : i0.bytes * (la + 12) ≤ 281474976710656 := by rw [hz2]; omega
  have HR : Hid (∀ ad, a = some ad → ∀ (j : Nat) (u : Value), (rowI zs)[j]? = some u → w.cell? (ad.add j) = some u) := by
    intro ad had j u hu
    have hj : j < zs.length := by
      rcases Nat.lt_or_ge j (rowI zs).length with h' | h'
      · rw [rowI_length] at h'; exact h'
      · rw [List.getElem?_eq_none h'] at hu; cases hu
    rw [rowI_get _ _ hj] at hu
    cases hu
    obtain ⟨b, o, e, hc⟩ := h.2.2 (by omega)
    rw [had] at e
    cases e
    rw [addr_add]
    exact hc j (by omega)
  have HNN : Hid (a = none → la = 0 ∧ ca = 0) := hn
  have HB8 : Hid (i0.bytes * (la + 12) ≤ 281474976710656) := hb8
  have HSL : Hid (Li w a la zs) := h
  clear hn hb8 h
  go_enter Tryz.func12, Tryz.ntmps12
  go_wp2_with (at_make; refine wpList_make_own w rfl _ _ 22 rfl w.heap.size 2 i0 (.int .i64 0) 1 Tryz.underlying22 hi hz0 hz1 .i64 .i64 _ (la + 12) rfl rfl ?c1 HB8.out ?c2 (Nat.le_refl _) ?_)
  case c1 => omega
  case c2 => unfold maxLen; omega
  intro w1 ho1 hg1
  have hb1 : Below w.heap.size w w1 := (Below.refl _ _).grown hg1 (Nat.le_refl _) (fun k hk => by cases hk)
  have hs1 := HSL.out.below hb1 (Nat.le_refl _)
  have HR1 : Hid (∀ ad, a = some ad → ∀ (j : Nat) (u : Value), (rowI zs)[j]? = some u → w1.cell? (ad.add j) = some u) := by
    intro ad had j u hu
    have hj : j < zs.length := by
      rcases Nat.lt_or_ge j (rowI zs).length with h' | h'
      · rw [rowI_length] at h'; exact h'
      · rw [List.getElem?_eq_none h'] at hu; cases hu
    rw [rowI_get _ _ hj] at hu
    cases hu
    obtain ⟨b, o, e, hc⟩ := hs1.2.2 (by omega)
    rw [had] at e
    cases e
    rw [addr_add]
    exact hc j (by omega)
  have HO1 : Hid (w1.ownsRow w.heap.size 2 1 (.slice (some ⟨w.heap.size, 0, none⟩) 0 (la + 12)) 0 []) := ho1
  have HLZ : Hid ((rowI zs).length = la * 1) := by show _ = _; rw [rowI_length]; omega
  have HZ1 : ∀ u ∈ rowI zs, u.oneCell' = true := by
    intro v hv
    simp only [rowI, List.mem_map] at hv
    obtain ⟨x, -, rfl⟩ := hv
    rfl
  have HZ : Hid (∀ u ∈ rowI zs, u.oneCell' = true) := HZ1
  clear ho1 hg1 hs1 HR HSL HZ1
  go_wp2_with (at_builtin; refine wpList_append_fits_any w1 rfl (.tmp 9) (.tmp 10) 22 rfl w.heap.size 2 i0 1 Tryz.underlying22 hi hz1 w.heap.size 0 (la + 12) [] rfl HO1.out a la ca (rowI zs) rfl HLZ.out HNN.out HR1.out HZ.out (by omega) ?_; intro w2 ho2 hg2; simp only [Nat.zero_add, List.nil_append] at ho2)
  have hb2 : Below w.heap.size w w2 := hb1.grown hg2 hb1.size (fun k hk => by cases hk; exact Nat.le_refl _)
  have HO2 : Hid (w2.ownsRow w.heap.size 2 1 (.slice (some ⟨w.heap.size, 0, none⟩) la (la + 12)) la (rowI zs)) := ho2
  clear ho2 hg2 hb1 HR1 HO1
  go_wp2_with fail
  go_loopw [3, 4] (fun v ii wr => ∃ k : Nat, k ≤ 12 ∧ ii = .int .i64 k ∧ v = .slice (some ⟨w.heap.size, 0, none⟩) (la + k) (la + 12) ∧ Hid (wr.ownsRow w.heap.size 2 1 (.slice (some ⟨w.heap.size, 0, none⟩) (la + k) (la + 12)) (la + k) (rowI (zs ++ marks k))) ∧ Below w.heap.size w wr) (fun _ ii _ => 12 - (intOf ii).toNat)
  case atStart => exact ⟨0, by omega, rfl, rfl, by rw [marks, List.append_nil]; exact HO2, hb2⟩
  case round =>
    obtain ⟨k, hk, rfl, rfl, hO, hbl⟩ := hrel
    clear HO2 hb2
    by_cases hlt : k < 12
    · have hbs := hbl.size
      have HO3 : Hid ((wr.alloc (.cells #[.int .i64 (8000024 + k)] 2)).ownsRow w.heap.size 2 1 (.slice (some ⟨w.heap.size, 0, none⟩) (la + k) (la + 12)) (la + k) (rowI (zs ++ marks k))) := World.ownsRow.alloc hO.out _
      have HC : Hid (∀ (j : Nat) (u : Value), (rowI [8000024 + (k : Int)])[j]? = some u → (wr.alloc (.cells #[.int .i64 (8000024 + k)] 2)).cell? ((⟨wr.heap.size, 0, none⟩ : Addr).add j) = some u) := by
        intro j u hu
        have hj : j < [8000024 + (k : Int)].length := by
          rcases Nat.lt_or_ge j (rowI [8000024 + (k : Int)]).length with h' | h'
          · rw [rowI_length] at h'; exact h'
          · rw [List.getElem?_eq_none h'] at hu; cases hu
        rw [rowI_get _ _ hj] at hu
        cases hu
        rw [addr_add, Nat.zero_add]
        exact OwI.cell (cs := [8000024 + (k : Int)]) (heap_alloc_new wr _) j hj
      have HZ1 : Hid (∀ u ∈ rowI [8000024 + (k : Int)], u.oneCell' = true) := by
        intro v hv
        simp only [rowI, List.mem_map] at hv
        obtain ⟨x, -, rfl⟩ := hv
        rfl
      go_wp2_with fail
      refine (mark_any k (by omega) (by omega) _).mono ?_
      rintro e w3 ⟨rfl, hw3⟩
      rw [hw3]
      clear hw3
      go_wp2_with (at_builtin; refine wpList_append_fits _ rfl (.tmp 16) (.tmp 19) 22 rfl w.heap.size 2 i0 1 Tryz.underlying22 hi hz1 w.heap.size (la + k) (la + 12) (rowI (zs ++ marks k)) rfl HO3.out ⟨wr.heap.size, 0, none⟩ 1 1 (rowI [8000024 + (k : Int)]) rfl rfl HC.out HZ1.out (by omega) ?_; intro w4 ho4 hg4)
      have hb4 : Below w.heap.size w w4 := (hbl.alloc hbs _).grown hg4 (by simp; omega) (fun k hk => by cases hk; exact Nat.le_refl _)
      have HO5 : Hid (w4.ownsRow w.heap.size 2 1 (.slice (some ⟨w.heap.size, 0, none⟩) (la + (k + 1)) (la + 12)) (la + (k + 1)) (rowI (zs ++ marks (k + 1)))) := by
        have := ho4
        rw [← rowI_append, List.append_assoc] at this
        exact this
      clear ho4 hg4 HO3 HC HZ1 hO
      go_wp2_with fail
      go_roundw
      case rel => exact ⟨k + 1, by omega, by go_num, rfl, HO5, hb4⟩
      case measure => simp [intOf]; omega
    · obtain rfl : k = 12 := by omega
      have hown := ownI_full hO.out
      go_wp2_with fail
      go_ret
      exact ⟨w.heap.size, rfl, Nat.le_refl _, hown, hbl⟩
end Go.Proofs.YtigimdcaakfckaaGreatDoor
