/-
  Lists of limbs in memory: how many limbs count, a list cut there, one limb of it, a copy with noughts behind it.
-/
import Derived.Test.YtblafbbnplfpjaaGreatDoorBsA
import Derived.Below
import Derived.BigQuiet
import Derived.Deep.QuietTactic
import Derived.Deep.DeepCutAuto
import Derived.Deep.CutBlock
import Derived.Deep.OwnRows
import Derived.Laws.CopyOwn
import Derived.WalkSmall
namespace Go.Proofs.YtblafbbnplfpjaaGreatDoor
open Go.RowKit Go.Shelf

/-- A list of limbs that can be read: of an empty one nothing is known but that. -/
def Sl (w : World) (a : Option Addr) (len : Nat) (zs : List Int) : Prop :=
  zs.length = len ∧ Limbs zs ∧ (0 < len → ∃ b off, a = some ⟨b, off, none⟩ ∧ ∀ i, i < len → w.cell? ⟨b, off + i, none⟩ = some (.int .u64 (zs.getD i 0)))

theorem ret_int {k : IntKind} {a b : Int} (h : a = b) : Ending.returned (.int k a) = .returned (.int k b) := by rw [h]

set_option maxHeartbeats 400000 in
theorem used_any (a : Option Addr) (len cap : Nat) (zs : List Int) (w : World) (h : Sl w a len zs) (hl : len ≤ 40000000000000) :
    Calls Tryz.prog 163 #[.slice a len cap] w fun e w' => e = .returned (.int .i64 (usedN zs)) ∧ w' = w := by
  obtain ⟨hz, hL, hc⟩ := h
  by_cases h0 : len = 0
  · subst h0
    have e0 : usedN zs = 0 := by have := usedN_le zs; omega
    rw [e0]
    go_enter Tryz.func163, Tryz.ntmps163
    go_wp2_with fail
    refine wp_loop_rounds 1 ?_
    rw [rounds_succ]
    go_wp2_with fail
    go_ret
    exact ⟨rfl, rfl⟩
  · obtain ⟨b, off, rfl, hcell⟩ := hc (by omega)
    go_enter Tryz.func163, Tryz.ntmps163
    go_wp2_with fail
    go_loop [8] (fun i => ∃ k : Nat, k ≤ len ∧ i = .int .i64 k ∧ Hid (∀ j, len - k ≤ j → j < len → zs.getD j 0 = 0)) (fun i => len - (intOf i).toNat)
    case atStart => exact ⟨0, Nat.zero_le _, rfl, fun j h1 h2 => absurd h1 (by omega)⟩
    case round =>
      obtain ⟨k, hk, rfl, hI⟩ := hrel
      by_cases hlt : k < len
      · have hcx := hcell (len - 1 - k) (by omega)
        have ex : ((len : Int) - 1 - k).toNat = len - 1 - k := by omega
        go_wp2_with fail
        · have hne : (zs[len - 1 - k]?.getD 0 != 0) = true := by assumption
          have hne' : zs.getD (len - 1 - k) 0 ≠ 0 := by rw [List.getD_eq_getElem?_getD]; simpa using hne
          have hu : usedN zs = len - k := usedN_eq (by omega) (fun i h1 h2 => hI.out i h1 (by omega)) (.inr (by rw [show len - k - 1 = len - 1 - k by omega]; exact hne'))
          go_ret
          exact ⟨ret_int (by omega), rfl⟩
        · have hne : (zs[len - 1 - k]?.getD 0 != 0) = false := by assumption
          have hne' : zs.getD (len - 1 - k) 0 = 0 := by rw [List.getD_eq_getElem?_getD]; simpa using hne
          go_round
          case rel =>
            refine ⟨k + 1, by omega, by go_num, ?_⟩
            intro j h1 h2
            by_cases hj : j = len - 1 - k
            · rw [hj]; exact hne'
            · exact hI.out j (by omega) h2
          case measure => simp [intOf]; omega
      · have hu : usedN zs = 0 := usedN_eq (by omega) (fun i h1 h2 => hI.out i (by omega) (by omega)) (.inl rfl)
        go_wp2_with fail
        go_ret
        exact ⟨ret_int (by omega), rfl⟩

theorem cut_any (a : Option Addr) (len cap : Nat) (zs : List Int) (w : World) (h : Sl w a len zs) (hl : len ≤ 40000000000000) (hcap : len ≤ cap) :
    Calls Tryz.prog 183 #[.slice a len cap] w fun e w' => e = .returned (.slice a (usedN zs) cap) ∧ w' = w := by
  have hu := usedN_le zs
  have hz := h.1
  go_enter Tryz.func183, Tryz.ntmps183
  go_wp2_with fail
  refine (used_any a len cap zs _ h hl).mono ?_
  rintro e w' ⟨rfl, rfl⟩
  have hu' : usedN zs ≤ len := by omega
  clear h
  cases a with
  | none =>
    go_wp2_with fail
    go_ret
    exact ⟨rfl, rfl⟩
  | some a =>
    go_wp2_with fail
    go_ret
    exact ⟨rfl, rfl⟩

theorem limbAt_any (a : Option Addr) (len cap : Nat) (zs : List Int) (i : Int) (w : World) (h : Sl w a len zs) (hi : 0 ≤ i) :
    Calls Tryz.prog 214 #[.slice a len cap, .int .i64 i] w fun e w' => e = .returned (.int .u64 (zs.getD i.toNat 0)) ∧ w' = w := by
  obtain ⟨hz, hL, hc⟩ := h
  obtain ⟨k, rfl⟩ := Int.eq_ofNat_of_zero_le hi
  rw [Int.toNat_natCast]
  by_cases hlt : k < len
  · obtain ⟨b, off, rfl, hcell⟩ := hc (by omega)
    have hcx := hcell k hlt
    clear hc hcell
    generalize zs.getD k 0 = z at hcx ⊢
    go_enter Tryz.func214, Tryz.ntmps214
    go_wp2_with fail
    go_ret
    exact ⟨rfl, rfl⟩
  · have e0 : zs.getD k 0 = 0 := by rw [List.getD_eq_getElem?_getD, List.getElem?_eq_none (by omega)]; rfl
    rw [e0]
    go_enter Tryz.func214, Tryz.ntmps214
    go_wp2_with fail
    go_ret
    exact ⟨rfl, rfl⟩

/-- Limbs as memory holds them. -/
def row (cs : List Int) : List Value := cs.map (Value.int .u64)
/-- A row of limbs that a call made itself: block g, whole. -/
def Own (w : World) (g : Nat) (cs : List Int) : Prop := w.heap[g]? = some (.cells (row cs).toArray 124 (0, 0))

set_option maxRecDepth 20000 in
theorem make_row (n : Nat) (hn : n ≤ 30000000000000) (w : World) : (Instr.makeSlice 60 (.int .i64 (n : Int)) (.int .i64 (n : Int))).run Tryz.prog w =
    .ok (.slice (some ⟨w.heap.size, 0, none⟩) n n) (w.alloc (.cells (row (List.replicate n 0)).toArray 124)) := by
  have h := run_make_row' (P := Tryz.prog) 60 124 (.int .u64 0) 8 Tryz.underlying60 (by kernel_rfl) rfl .i64 .i64 n (by omega) (by omega) w
  rw [h]
  congr 3
  apply Array.ext'
  rw [toList_madeCells_one]
  simp [row]

theorem addr_add (b off j : Nat) : (⟨b, off, none⟩ : Addr).add j = ⟨b, off + j, none⟩ := by
  unfold Addr.add; split <;> simp_all
theorem row_length (cs : List Int) : (row cs).length = cs.length := by simp [row]
theorem row_getElem? (cs : List Int) (i : Nat) (h : i < cs.length) : (row cs)[i]? = some (.int .u64 (cs.getD i 0)) := by
  simp [row, List.getD_eq_getElem?_getD, List.getElem?_eq_getElem h]
theorem Own.cell {w : World} {g : Nat} {cs : List Int} (h : Own w g cs) (i : Nat) (hi : i < cs.length) : w.cell? ⟨g, i, none⟩ = some (.int .u64 (cs.getD i 0)) := by
  have := row_getElem? cs i hi
  unfold Own at h
  simp [World.cell?, h, this]
theorem Own.frozen {w : World} {g : Nat} {cs : List Int} (h : Own w g cs) (i : Nat) : w.frozen? ⟨g, i, none⟩ = false := by
  unfold Own at h
  simp [World.frozen?, h]
theorem Own.lt {w : World} {g : Nat} {cs : List Int} (h : Own w g cs) : g < w.heap.size := by
  unfold Own at h
  rcases Nat.lt_or_ge g w.heap.size with h' | h'
  · exact h'
  · rw [Array.getElem?_eq_none h'] at h; cases h
theorem Own.below {B : Nat} {w w' : World} {g : Nat} {cs : List Int} (h : Own w g cs) (b : Below B w w') (hg : g < B) : Own w' g cs := by
  unfold Own at *; rw [b.block g hg]; exact h
theorem Own.set {w : World} {g : Nat} {cs : List Int} (h : Own w g cs) (i : Nat) (v : Int) : Own (w.setCell ⟨g, i, none⟩ (.int .u64 v)) g (cs.set i v) := by
  unfold Own at *
  simp only [World.setCell]
  rw [Array.getElem?_modify, if_pos rfl, h]
  simp [row, List.map_set]
theorem Own.sl {w : World} {g : Nat} {cs : List Int} (h : Own w g cs) (hL : Limbs cs) : Sl w (some ⟨g, 0, none⟩) cs.length cs :=
  ⟨rfl, hL, fun _ => ⟨g, 0, rfl, fun i hi => by rw [Nat.zero_add]; exact h.cell i hi⟩⟩
theorem Sl.below {w w' : World} {a : Option Addr} {len : Nat} {zs : List Int} {B : Nat} (h : Sl w a len zs) (b : Below B w w') (hB : w.heap.size ≤ B) : Sl w' a len zs := by
  obtain ⟨h1, h2, h3⟩ := h
  refine ⟨h1, h2, fun h0 => ?_⟩
  obtain ⟨bb, off, rfl, hc⟩ := h3 h0
  refine ⟨bb, off, rfl, fun i hi => ?_⟩
  have hh := hc i hi
  have hlt : bb < w.heap.size := by
    rcases Nat.lt_or_ge bb w.heap.size with h' | h'
    · exact h'
    · simp [World.cell?, Array.getElem?_eq_none h'] at hh
  rw [b.cell (p := ⟨bb, off + i, none⟩) (by show bb < B; omega)]; exact hh
theorem Sl.take {w : World} {a : Option Addr} {len m : Nat} {zs : List Int} (h : Sl w a len zs) (hm : m ≤ len) : Sl w a m (zs.take m) := by
  obtain ⟨h1, h2, h3⟩ := h
  refine ⟨by rw [List.length_take]; omega, h2.take m, fun h0 => ?_⟩
  obtain ⟨b, off, rfl, hc⟩ := h3 (by omega)
  refine ⟨b, off, rfl, fun i hi => ?_⟩
  rw [hc i (by omega), List.getD_eq_getElem?_getD, List.getD_eq_getElem?_getD, List.getElem?_take_of_lt hi]
theorem Sl.drewN {w : World} {a : Option Addr} {len : Nat} {zs : List Int} (h : Sl w a len zs) (n : Nat) : Sl (w.drewN n) a len zs := h

set_option maxHeartbeats 400000 in
theorem widened_any (a : Option Addr) (len cap n : Nat) (zs : List Int) (w : World) (h : Sl w a len zs) (hl : len ≤ 20000000000000) (hcap : len ≤ cap) (hn : usedN zs ≤ n) (hn' : n ≤ 30000000000000) :
    Calls Tryz.prog 197 #[.slice a len cap, .int .i64 n] w fun e w' =>
      ∃ g, e = .returned (.slice (some ⟨g, 0, none⟩) n n) ∧ w.heap.size ≤ g ∧ Own w' g (zs.take (usedN zs) ++ List.replicate (n - usedN zs) 0) ∧ Below w.heap.size w w' := by
  have hu := usedN_le zs
  have hz := h.1
  have hu' : usedN zs ≤ len := by omega
  have hmk := make_row n hn'
  go_enter Tryz.func197, Tryz.ntmps197
  go_wp2_with fail
  refine (used_any a len cap zs _ (h.below ((Below.refl _ _).alloc (Nat.le_refl _) _) (Nat.le_refl _)) (by omega)).mono ?_
  rintro e w' ⟨rfl, rfl⟩
  go_wp2_with (refine wpList_copy_splice rfl (.tmp 8) (.tmp 12) 60 60 rfl 124 Tryz.underlying60 (by kernel_rfl) _ _ _ _ _ _ rfl rfl w.heap.size 0 (row (List.replicate n 0)) 124 ?hg (row (zs.take (usedN zs))) ?hn ?hpos ?hfit ?h1 w.heap.size w ?hb ?hBg ?_)
  case hg => exact heap_alloc_new _ _
  case hn => rw [row_length, List.length_take]; show _ = min _ _; omega
  case hpos =>
    intro h0
    rw [row_length, List.length_take] at h0
    obtain ⟨b, off, rfl, hc⟩ := h.2.2 (by omega)
    refine ⟨_, rfl, fun j v hj => ?_⟩
    have hj' : j < (row (zs.take (usedN zs))).length := by
      rcases Nat.lt_or_ge j (row (zs.take (usedN zs))).length with h' | h'
      · exact h'
      · rw [List.getElem?_eq_none h'] at hj; cases hj
    rw [row_length, List.length_take] at hj'
    rw [row_getElem? _ _ (by rw [List.length_take]; omega), List.getD_eq_getElem?_getD, List.getElem?_take_of_lt (by omega), ← List.getD_eq_getElem?_getD] at hj
    cases hj
    obtain ⟨b', off', e, hc'⟩ := (h.below ((Below.refl w.heap.size w).alloc (Nat.le_refl _) (Obj.cells (row (List.replicate n 0)).toArray 124)) (Nat.le_refl _)).2.2 (by omega)
    cases e
    have hcj := hc' j (by omega)
    rw [addr_add]; exact hcj
  case hfit => rw [row_length, row_length, List.length_take, List.length_replicate]; omega
  case h1 =>
    intro v hv
    simp only [row, List.mem_map] at hv
    obtain ⟨x, -, rfl⟩ := hv
    rfl
  case hb => exact (Below.refl _ _).alloc (Nat.le_refl _) _
  case hBg => exact Nat.le_refl _
  intro w1 hg1 hb1
  go_wp2_with fail
  go_ret
  refine ⟨w.heap.size, rfl, Nat.le_refl _, ?_, hb1⟩
  have e : splice (row (List.replicate n 0)) 0 (row (zs.take (usedN zs))) = row (zs.take (usedN zs) ++ List.replicate (n - usedN zs) 0) := by
    simp only [splice, row, List.take_zero, List.nil_append, Nat.zero_add, List.length_map, List.length_take, List.map_append, Nat.min_eq_left hu]
    rw [← List.map_drop, List.drop_replicate]
  have := hg1.out
  rw [e] at this
  exact this
end Go.Proofs.YtblafbbnplfpjaaGreatDoor
