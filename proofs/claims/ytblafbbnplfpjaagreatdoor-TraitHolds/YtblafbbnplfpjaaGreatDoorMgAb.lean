import Derived.Test.YtblafbbnplfpjaaGreatDoorMgAa
import Derived.Below
import Derived.BigQuiet
import Derived.Deep.QuietTactic
import Derived.Deep.DeepCutAuto
import Derived.Deep.CutBlock
import Derived.Deep.OwnRows
import Derived.Laws.CopyOwn
import Derived.WalkSmall
import Derived.Deep.RegionLaw
import Derived.Deep.AppendLies
namespace Go.Proofs.YtblafbbnplfpjaaGreatDoor
open Go.RowKit Go.Shelf

def Sl (w : World) (a : Option Addr) (len : Nat) (zs : List Int) : Prop :=
  zs.length = len ∧ Limbs zs ∧ (0 < len → ∃ b off, a = some ⟨b, off, none⟩ ∧ ∀ i, i < len → w.cell? ⟨b, off + i, none⟩ = some (.int .u64 (zs.getD i 0)))

theorem ret_int {k : IntKind} {a b : Int} (h : a = b) : Ending.returned (.int k a) = .returned (.int k b) := by rw [h]

set_option maxHeartbeats 400000 in
theorem used_any (a : Option Addr) (len cap : Nat) (zs : List Int) (w : World) (h : Sl w a len zs) (hl : len ≤ 40000000000000) :
    Calls Tryz.prog 163 #[.slice a len cap] w fun e w' => e = .returned (.int .i64 (usedN zs)) ∧ w' = w := by
  obtain ⟨hz, hL, hc⟩ := h
  by_cases h0 : len = 0
  · subst h0
    have e0 : usedN zs = 0 := by have := usedN_le zs; omega
    rw [e0]
    go_enter Tryz.func163, Tryz.ntmps163
    go_wp2_with fail
    refine wp_loop_rounds 1 ?_
    rw [rounds_succ]
    go_wp2_with fail
    go_ret
    exact ⟨rfl, rfl⟩
  · obtain ⟨b, off, rfl, hcell⟩ := hc (by omega)
    go_enter Tryz.func163, Tryz.ntmps163
    go_wp2_with fail
    go_loop [8] (fun i => ∃ k : Nat, k ≤ len ∧ i = .int .i64 k ∧ Hid (∀ j, len - k ≤ j → j < len → zs.getD j 0 = 0)) (fun i => len - (intOf i).toNat)
    case atStart => exact ⟨0, Nat.zero_le _, rfl, fun j h1 h2 => absurd h1 (by omega)⟩
    case round =>
      obtain ⟨k, hk, rfl, hI⟩ := hrel
      by_cases hlt : k < len
      · have hcx := hcell (len - 1 - k) (by omega)
        have ex : ((len : Int) - 1 - k).toNat = len - 1 - k := by omega
        go_wp2_with fail
        · have hne : (zs[len - 1 - k]?.getD 0 != 0) = true := by assumption
          have hne' : zs.getD (len - 1 - k) 0 ≠ 0 := by rw [List.getD_eq_getElem?_getD]; simpa using hne
          have hu : usedN zs = len - k := usedN_eq (by omega) (fun i h1 h2 => hI.out i h1 (by omega)) (.inr (by rw [show len - k - 1 = len - 1 - k by omega]; exact hne'))
          go_ret
          exact ⟨ret_int (by omega), rfl⟩
        · have hne : (zs[len - 1 - k]?.getD 0 != 0) = false := by assumption
          have hne' : zs.getD (len - 1 - k) 0 = 0 := by rw [List.getD_eq_getElem?_getD]; simpa using hne
          go_round
          case rel =>
            refine ⟨k + 1, by omega, by go_num, ?_⟩
            intro j h1 h2
            by_cases hj : j = len - 1 - k
            · rw [hj]; exact hne'
            · exact hI.out j (by omega) h2
          case measure => simp [intOf]; omega
      · have hu : usedN zs = 0 := usedN_eq (by omega) (fun i h1 h2 => hI.out i (by omega) (by omega)) (.inl rfl)
        go_wp2_with fail
        go_ret
        exact ⟨ret_int (by omega), rfl⟩

theorem cut_any (a : Option Addr) (len cap : Nat) (zs : List Int) (w : World) (h : Sl w a len zs) (hl : len ≤ 40000000000000) (hcap : len ≤ cap) :
    Calls Tryz.prog 183 #[.slice a len cap] w fun e w' => e = .returned (.slice a (usedN zs) cap) ∧ w' = w := by
  have hu := usedN_le zs
  have hz := h.1
  go_enter Tryz.func183, Tryz.ntmps183
  go_wp2_with fail
  refine (used_any a len cap zs _ h hl).mono ?_
  rintro e w' ⟨rfl, rfl⟩
  have hu' : usedN zs ≤ len := by omega
  clear h
  cases a with
  | none =>
    go_wp2_with fail
    go_ret
    exact ⟨rfl, rfl⟩
  | some a =>
    go_wp2_with fail
    go_ret
    exact ⟨rfl, rfl⟩

theorem limbAt_any (a : Option Addr) (len cap : Nat) (zs : List Int) (i : Int) (w : World) (h : Sl w a len zs) (hi : 0 ≤ i) :
    Calls Tryz.prog 214 #[.slice a len cap, .int .i64 i] w fun e w' => e = .returned (.int .u64 (zs.getD i.toNat 0)) ∧ w' = w := by
  obtain ⟨hz, hL, hc⟩ := h
  obtain ⟨k, rfl⟩ := Int.eq_ofNat_of_zero_le hi
  rw [Int.toNat_natCast]
  by_cases hlt : k < len
  · obtain ⟨b, off, rfl, hcell⟩ := hc (by omega)
    have hcx := hcell k hlt
    clear hc hcell
    generalize zs.getD k 0 = z at hcx ⊢
    go_enter Tryz.func214, Tryz.ntmps214
    go_wp2_with fail
    go_ret
    exact ⟨rfl, rfl⟩
  · have e0 : zs.getD k 0 = 0 := by rw [List.getD_eq_getElem?_getD, List.getElem?_eq_none (by omega)]; rfl
    rw [e0]
    go_enter Tryz.func214, Tryz.ntmps214
    go_wp2_with fail
    go_ret
    exact ⟨rfl, rfl⟩

def row (cs : List Int) : List Value := cs.map (Value.int .u64)
def Own (w : World) (g : Nat) (cs : List Int) : Prop := w.heap[g]? = some (.cells (row cs).toArray 124 (0, 0))

set_option maxRecDepth 20000 in
theorem make_row (n : Nat) (hn : n ≤ 30000000000000) (w : World) : (Instr.makeSlice 60 (.int .i64 (n : Int)) (.int .i64 (n : Int))).run Tryz.prog w =
    .ok (.slice (some ⟨w.heap.size, 0, none⟩) n n) (w.alloc (.cells (row (List.replicate n 0)).toArray 124)) := by
  have h := run_make_row' (P := Tryz.prog) 60 124 (.int .u64 0) 8 Tryz.underlying60 (by kernel_rfl) rfl .i64 .i64 n (by omega) (by omega) w
  rw [h]
  congr 3
  apply Array.ext'
  rw [toList_madeCells_one]
  simp [row]

theorem addr_add (b off j : Nat) : (⟨b, off, none⟩ : Addr).add j = ⟨b, off + j, none⟩ := by
  unfold Addr.add; split <;> simp_all
theorem row_length (cs : List Int) : (row cs).length = cs.length := by simp [row]
theorem row_getElem? (cs : List Int) (i : Nat) (h : i < cs.length) : (row cs)[i]? = some (.int .u64 (cs.getD i 0)) := by
  simp [row, List.getD_eq_getElem?_getD, List.getElem?_eq_getElem h]
theorem Own.cell {w : World} {g : Nat} {cs : List Int} (h : Own w g cs) (i : Nat) (hi : i < cs.length) : w.cell? ⟨g, i, none⟩ = some (.int .u64 (cs.getD i 0)) := by
  have := row_getElem? cs i hi
  unfold Own at h
  simp [World.cell?, h, this]
theorem Own.frozen {w : World} {g : Nat} {cs : List Int} (h : Own w g cs) (i : Nat) : w.frozen? ⟨g, i, none⟩ = false := by
  unfold Own at h
  simp [World.frozen?, h]
theorem Own.lt {w : World} {g : Nat} {cs : List Int} (h : Own w g cs) : g < w.heap.size := by
  unfold Own at h
  rcases Nat.lt_or_ge g w.heap.size with h' | h'
  · exact h'
  · rw [Array.getElem?_eq_none h'] at h; cases h
theorem Own.below {B : Nat} {w w' : World} {g : Nat} {cs : List Int} (h : Own w g cs) (b : Below B w w') (hg : g < B) : Own w' g cs := by
  unfold Own at *; rw [b.block g hg]; exact h
theorem Own.set {w : World} {g : Nat} {cs : List Int} (h : Own w g cs) (i : Nat) (v : Int) : Own (w.setCell ⟨g, i, none⟩ (.int .u64 v)) g (cs.set i v) := by
  unfold Own at *
  simp only [World.setCell]
  rw [Array.getElem?_modify, if_pos rfl, h]
  simp [row, List.map_set]
theorem Own.sl {w : World} {g : Nat} {cs : List Int} (h : Own w g cs) (hL : Limbs cs) : Sl w (some ⟨g, 0, none⟩) cs.length cs :=
  ⟨rfl, hL, fun _ => ⟨g, 0, rfl, fun i hi => by rw [Nat.zero_add]; exact h.cell i hi⟩⟩
theorem Sl.below {w w' : World} {a : Option Addr} {len : Nat} {zs : List Int} {B : Nat} (h : Sl w a len zs) (b : Below B w w') (hB : w.heap.size ≤ B) : Sl w' a len zs := by
  obtain ⟨h1, h2, h3⟩ := h
  refine ⟨h1, h2, fun h0 => ?_⟩
  obtain ⟨bb, off, rfl, hc⟩ := h3 h0
  refine ⟨bb, off, rfl, fun i hi => ?_⟩
  have hh := hc i hi
  have hlt : bb < w.heap.size := by
    rcases Nat.lt_or_ge bb w.heap.size with h' | h'
    · exact h'
    · simp [World.cell?, Array.getElem?_eq_none h'] at hh
  rw [b.cell (p := ⟨bb, off + i, none⟩) (by show bb < B; omega)]; exact hh
theorem Sl.take {w : World} {a : Option Addr} {len m : Nat} {zs : List Int} (h : Sl w a len zs) (hm : m ≤ len) : Sl w a m (zs.take m) := by
  obtain ⟨h1, h2, h3⟩ := h
  refine ⟨by rw [List.length_take]; omega, h2.take m, fun h0 => ?_⟩
  obtain ⟨b, off, rfl, hc⟩ := h3 (by omega)
  refine ⟨b, off, rfl, fun i hi => ?_⟩
  rw [hc i (by omega), List.getD_eq_getElem?_getD, List.getD_eq_getElem?_getD, List.getElem?_take_of_lt hi]
theorem Sl.drewN {w : World} {a : Option Addr} {len : Nat} {zs : List Int} (h : Sl w a len zs) (n : Nat) : Sl (w.drewN n) a len zs := h

set_option maxHeartbeats 400000 in
theorem widened_any (a : Option Addr) (len cap n : Nat) (zs : List Int) (w : World) (h : Sl w a len zs) (hl : len ≤ 20000000000000) (hcap : len ≤ cap) (hn : usedN zs ≤ n) (hn' : n ≤ 30000000000000) :
    Calls Tryz.prog 197 #[.slice a len cap, .int .i64 n] w fun e w' =>
      ∃ g, e = .returned (.slice (some ⟨g, 0, none⟩) n n) ∧ w.heap.size ≤ g ∧ Own w' g (zs.take (usedN zs) ++ List.replicate (n - usedN zs) 0) ∧ Below w.heap.size w w' := by
  have hu := usedN_le zs
  have hz := h.1
  have hu' : usedN zs ≤ len := by omega
  have hmk := make_row n hn'
  go_enter Tryz.func197, Tryz.ntmps197
  go_wp2_with fail
  refine (used_any a len cap zs _ (h.below ((Below.refl _ _).alloc (Nat.le_refl _) _) (Nat.le_refl _)) (by omega)).mono ?_
  rintro e w' ⟨rfl, rfl⟩
  go_wp2_with (refine wpList_copy_splice rfl (.tmp 8) (.tmp 12) 60 60 rfl 124 Tryz.underlying60 (by kernel_rfl) _ _ _ _ _ _ rfl rfl w.heap.size 0 (row (List.replicate n 0)) 124 ?hg (row (zs.take (usedN zs))) ?hn ?hpos ?hfit ?h1 w.heap.size w ?hb ?hBg ?_)
  case hg => exact heap_alloc_new _ _
  case hn => rw [row_length, List.length_take]; show _ = min _ _; omega
  case hpos =>
    intro h0
    rw [row_length, List.length_take] at h0
    obtain ⟨b, off, rfl, hc⟩ := h.2.2 (by omega)
    refine ⟨_, rfl, fun j v hj => ?_⟩
    have hj' : j < (row (zs.take (usedN zs))).length := by
      rcases Nat.lt_or_ge j (row (zs.take (usedN zs))).length with h' | h'
      · exact h'
      · rw [List.getElem?_eq_none h'] at hj; cases hj
    rw [row_length, List.length_take] at hj'
    rw [row_getElem? _ _ (by rw [List.length_take]; omega), List.getD_eq_getElem?_getD, List.getElem?_take_of_lt (by omega), ← List.getD_eq_getElem?_getD] at hj
    cases hj
    obtain ⟨b', off', e, hc'⟩ := (h.below ((Below.refl w.heap.size w).alloc (Nat.le_refl _) (Obj.cells (row (List.replicate n 0)).toArray 124)) (Nat.le_refl _)).2.2 (by omega)
    cases e
    have hcj := hc' j (by omega)
    rw [addr_add]; exact hcj
  case hfit => rw [row_length, row_length, List.length_take, List.length_replicate]; omega
  case h1 =>
    intro v hv
    simp only [row, List.mem_map] at hv
    obtain ⟨x, -, rfl⟩ := hv
    rfl
  case hb => exact (Below.refl _ _).alloc (Nat.le_refl _) _
  case hBg => exact Nat.le_refl _
  intro w1 hg1 hb1
  go_wp2_with fail
  go_ret
  refine ⟨w.heap.size, rfl, Nat.le_refl _, ?_, hb1⟩
  have e : splice (row (List.replicate n 0)) 0 (row (zs.take (usedN zs))) = row (zs.take (usedN zs) ++ List.replicate (n - usedN zs) 0) := by
    simp only [splice, row, List.take_zero, List.nil_append, Nat.zero_add, List.length_map, List.length_take, List.map_append, Nat.min_eq_left hu]
    rw [← List.map_drop, List.drop_replicate]
  have := hg1.out
  rw [e] at this
  exact this
end Go.Proofs.YtblafbbnplfpjaaGreatDoor
namespace Go.Proofs.YtblafbbnplfpjaaGreatDoor

def cmp3 (x y : Int) : Int := if x < y then -1 else if y < x then 1 else 0
theorem cmp3_lt {x y : Int} (h : x < y) : cmp3 x y = -1 := by simp [cmp3, h]
theorem cmp3_gt {x y : Int} (h : y < x) : cmp3 x y = 1 := by unfold cmp3; rw [if_neg (by omega), if_pos h]
theorem cmp3_eq {x y : Int} (h : x = y) : cmp3 x y = 0 := by subst h; simp [cmp3]
theorem cmp3_neg_iff (x y : Int) : cmp3 x y < 0 ↔ x < y := by
  rcases Int.lt_trichotomy x y with h | h | h
  · rw [cmp3_lt h]; omega
  · rw [cmp3_eq h]; omega
  · rw [cmp3_gt h]; omega

theorem num_above {a b : List Int} {t : Nat} (h : ∀ j, t ≤ j → a.getD j 0 = b.getD j 0) : ∀ k, num (a.take (t + k)) - num (a.take t) = num (b.take (t + k)) - num (b.take t)
  | 0 => by simp only [Nat.add_zero]; omega
  | k + 1 => by
    have ih := num_above h k
    rw [← Nat.add_assoc, num_take_succ, num_take_succ, h (t + k) (by omega)]; omega
theorem num_above' {a b : List Int} {t : Nat} (h : ∀ j, t ≤ j → a.getD j 0 = b.getD j 0) : num a - num (a.take t) = num b - num (b.take t) := by
  have e := num_above h (a.length + b.length)
  have e1 : a.take (t + (a.length + b.length)) = a := List.take_of_length_le (by omega)
  have e2 : b.take (t + (a.length + b.length)) = b := List.take_of_length_le (by omega)
  rw [e1, e2] at e; exact e
theorem num_lt_at {a b : List Int} {t : Nat} (ha : Limbs a) (hb : Limbs b) (h : ∀ j, t < j → a.getD j 0 = b.getD j 0) (hlt : a.getD t 0 < b.getD t 0) : num a < num b := by
  have e := num_above' (t := t + 1) (fun j hj => h j (by omega))
  rw [num_take_succ, num_take_succ] at e
  have h1 := num_lt (ha.take t); have h2 := num_nonneg (hb.take t)
  have h3 : num (a.take t) < pw t := by
    refine Int.lt_of_lt_of_le h1 (pw_mono ?_)
    rw [List.length_take]; omega
  have h4 : (a.getD t 0 + 1) * pw t ≤ b.getD t 0 * pw t := Int.mul_le_mul_of_nonneg_right (by omega) (by have := pw_pos t; omega)
  rw [Int.add_mul, Int.one_mul] at h4
  omega
theorem num_lt_len {a b : List Int} (ha : Limbs a) (hb : Limbs b) (h : usedN a < usedN b) : num a < num b := by
  have h1 := num_lt_used ha; have h2 := num_ge_used hb (by omega)
  have := pw_mono (show usedN a ≤ usedN b - 1 by omega); omega
theorem num_eq_of {a b : List Int} (h : ∀ j, a.getD j 0 = b.getD j 0) : num a = num b := by
  have e := num_above' (a := a) (b := b) (t := 0) (fun j _ => h j)
  simp [num] at e; omega
end Go.Proofs.YtblafbbnplfpjaaGreatDoor

namespace Go.Proofs.YtblafbbnplfpjaaGreatDoor
open Go.RowKit Go.Shelf

theorem sign_any (b : Bool) (w : World) : Calls Tryz.prog 164 #[.bool b] w fun e w' => e = .returned (.int .i64 (if b then 1 else -1)) ∧ w' = w := by
  cases b
  all_goals
    go_enter Tryz.func164, Tryz.ntmps164
    go_wp2_with fail
    go_ret
    exact ⟨rfl, rfl⟩

theorem trim_any (a : Option Addr) (len cap : Nat) (zs : List Int) (w : World) (h : Sl w a len zs) (hl : len ≤ 20000000000000) (hcap : len ≤ cap) :
    Calls Tryz.prog 181 #[.slice a len cap] w fun e w' =>
      ∃ g, e = .returned (.slice (some ⟨g, 0, none⟩) (usedN zs) (usedN zs)) ∧ w.heap.size ≤ g ∧ Own w' g (zs.take (usedN zs)) ∧ Below w.heap.size w w' := by
  have hu := usedN_le zs
  have hz := h.1
  go_enter Tryz.func181, Tryz.ntmps181
  go_wp2_with fail
  refine (used_any a len cap zs _ h (by omega)).mono ?_
  rintro e w' ⟨rfl, rfl⟩
  go_wp2_with fail
  refine (widened_any a len cap (usedN zs) zs _ h hl hcap (Nat.le_refl _) (by omega)).mono ?_
  rintro e w' ⟨g, rfl, hg, ho, hb⟩
  go_wp2_with fail
  go_ret
  refine ⟨g, rfl, hg, ?_, hb⟩
  rw [Nat.sub_self, List.replicate_zero, List.append_nil] at ho
  exact ho

set_option maxHeartbeats 1000000 in
theorem compare_any (a b : Option Addr) (la ca lb cb : Nat) (xs ys : List Int) (w : World) (ha : Sl w a la xs) (hb : Sl w b lb ys) (h1 : la ≤ 40000000000000) (h2 : lb ≤ 40000000000000) :
    Calls Tryz.prog 139 #[.slice a la ca, .slice b lb cb] w fun e w' => e = .returned (.int .i64 (cmp3 (num xs) (num ys))) ∧ ∃ n, w' = w.drewN n := by
  have hux := usedN_le xs; have huy := usedN_le ys
  have hza := ha.1; have hzb := hb.1
  have hLx := ha.2.1; have hLy := hb.2.1
  have U := used_any a la ca xs w ha h1
  have V := used_any b lb cb ys w hb h2
  by_cases hne : usedN xs = usedN ys
  · by_cases h0 : usedN xs = 0
    · have e1 : cmp3 (num xs) (num ys) = 0 := cmp3_eq (by rw [(num_eq_zero hLx).2 h0, (num_eq_zero hLy).2 (by omega)])
      rw [e1]
      rw [h0] at U
      rw [← hne, h0] at V
      clear ha hb hne h0
      go_enter Tryz.func139, Tryz.ntmps139
      go_wp2_with fail
      refine U.mono ?_
      rintro e w' ⟨rfl, rfl⟩
      go_wp2_with fail
      refine V.mono ?_
      rintro e w' ⟨rfl, rfl⟩
      go_wp2_with fail
      refine wp_loop_rounds 1 ?_
      rw [rounds_succ]
      go_wp2_with fail
      go_ret
      exact ⟨rfl, 0, rfl⟩
    · obtain ⟨ba, oa, rfl, hca⟩ := ha.2.2 (by omega)
      obtain ⟨bb, ob, rfl, hcb⟩ := hb.2.2 (by omega)
      rw [← hne] at V
      obtain ⟨n, hn⟩ : ∃ n, usedN xs = n := ⟨_, rfl⟩
      rw [hn] at U V
      have hna : n ≤ la := by omega
      have hnb : n ≤ lb := by omega
      have HN : Hid (usedN xs = n) := hn
      have HE : Hid (usedN xs = usedN ys) := hne
      have g1 : ((n : Int) != n) = false := by simp
      clear hn hne h0 ha hb hux huy
      go_enter Tryz.func139, Tryz.ntmps139
      go_wp2_with fail
      refine U.mono ?_
      rintro e w' ⟨rfl, rfl⟩
      go_wp2_with fail
      refine V.mono ?_
      rintro e w' ⟨rfl, rfl⟩
      clear U V
      go_wp2_with fail
      go_loopw [21] (fun i wr => ∃ k : Nat, k ≤ n ∧ i = .int .i64 k ∧ Hid (∀ j, n - k ≤ j → j < n → xs.getD j 0 = ys.getD j 0) ∧ ∃ q, wr = w'.drewN q) (fun i _ => n - (intOf i).toNat)
      case atStart => exact ⟨0, Nat.zero_le _, rfl, fun j h1 h2 => absurd h1 (by omega), 0, rfl⟩
      case round =>
        obtain ⟨k, hk, rfl, hI, q, rfl⟩ := hrel
        by_cases hlt : k < n
        · have hcx := hca (n - 1 - k) (by omega)
          have hcy := hcb (n - 1 - k) (by omega)
          have ex : ((n : Int) - 1 - k).toNat = n - 1 - k := by omega
          obtain ⟨x, hx⟩ : ∃ x, xs.getD (n - 1 - k) 0 = x := ⟨_, rfl⟩
          obtain ⟨y, hy⟩ : ∃ y, ys.getD (n - 1 - k) 0 = y := ⟨_, rfl⟩
          rw [hx] at hcx
          rw [hy] at hcy
          have HX : Hid (xs.getD (n - 1 - k) 0 = x) := hx
          have HY : Hid (ys.getD (n - 1 - k) 0 = y) := hy
          clear hx hy
          by_cases hxy : x = y
          · have g2 : (x != y) = false := by simp [hxy]
            have HXY : Hid (x = y) := hxy
            clear hxy
            go_wp2_with fail
            go_quiet (fail)
            go_wp2_with fail
            go_roundw
            case rel =>
              refine ⟨k + 1, by omega, by go_num, ?_, q + nq, rfl⟩
              intro j h1 h2
              by_cases hj : j = n - 1 - k
              · rw [hj, HX.out, HY.out, HXY.out]
              · exact hI.out j (by omega) h2
            case measure => simp [intOf]; omega
          · have g2 : (x != y) = true := by simp [hxy]
            have g3 : Hid (∀ j, n - 1 - k < j → xs.getD j 0 = ys.getD j 0) := by
              intro j hj
              by_cases hjn : j < n
              · exact hI.out j (by omega) hjn
              · rw [usedN_beyond xs j (by rw [HN.out]; omega), usedN_beyond ys j (by rw [← HE.out, HN.out]; omega)]
            by_cases hyx : y < x
            · have e1 : cmp3 (num xs) (num ys) = 1 := cmp3_gt (num_lt_at hLy hLx (fun j hj => (g3.out j hj).symm) (by rw [HX.out, HY.out]; exact hyx))
              have E1 : Hid (cmp3 (num xs) (num ys) = 1) := e1
              clear e1 hxy
              go_wp2_with fail
              go_quiet (fail)
              go_wp2_with fail
              go_region_with (go_at_call 164; refine (sign_any _ _).mono ?_; rintro e w1 ⟨rfl, rfl⟩)
              all_goals
                go_wp2_with fail
                go_ret
                exact ⟨ret_int (by rw [E1.out]), _, rfl⟩
            · have e1 : cmp3 (num xs) (num ys) = -1 := cmp3_lt (num_lt_at hLx hLy g3.out (by rw [HX.out, HY.out]; omega))
              have E1 : Hid (cmp3 (num xs) (num ys) = -1) := e1
              clear e1 hxy
              go_wp2_with fail
              go_quiet (fail)
              go_wp2_with fail
              go_region_with (go_at_call 164; refine (sign_any _ _).mono ?_; rintro e w1 ⟨rfl, rfl⟩)
              all_goals
                go_wp2_with fail
                go_ret
                exact ⟨ret_int (by rw [E1.out]), _, rfl⟩
        · have e1 : cmp3 (num xs) (num ys) = 0 := by
            refine cmp3_eq (num_eq_of fun j => ?_)
            by_cases hjn : j < n
            · exact hI.out j (by omega) hjn
            · rw [usedN_beyond xs j (by rw [HN.out]; omega), usedN_beyond ys j (by rw [← HE.out, HN.out]; omega)]
          have E1 : Hid (cmp3 (num xs) (num ys) = 0) := e1
          clear e1
          go_wp2_with fail
          go_ret
          exact ⟨ret_int (by rw [E1.out]), q, rfl⟩
  · have g1 : ((usedN xs : Int) != usedN ys) = true := by simp; omega
    by_cases hgt : usedN ys < usedN xs
    · have e1 : cmp3 (num xs) (num ys) = 1 := cmp3_gt (num_lt_len hLy hLx hgt)
      rw [e1]
      clear ha hb hne e1
      go_enter Tryz.func139, Tryz.ntmps139
      go_wp2_with fail
      refine U.mono ?_
      rintro e w' ⟨rfl, rfl⟩
      go_wp2_with fail
      refine V.mono ?_
      rintro e w' ⟨rfl, rfl⟩
      go_wp2_with fail
      refine (sign_any _ _).mono ?_
      rintro e w' ⟨rfl, rfl⟩
      go_wp2_with fail
      go_ret
      exact ⟨rfl, 0, rfl⟩
    · have e1 : cmp3 (num xs) (num ys) = -1 := cmp3_lt (num_lt_len hLx hLy (by omega))
      rw [e1]
      clear ha hb hne e1
      go_enter Tryz.func139, Tryz.ntmps139
      go_wp2_with fail
      refine U.mono ?_
      rintro e w' ⟨rfl, rfl⟩
      go_wp2_with fail
      refine V.mono ?_
      rintro e w' ⟨rfl, rfl⟩
      go_wp2_with fail
      refine (sign_any _ _).mono ?_
      rintro e w' ⟨rfl, rfl⟩
      go_wp2_with fail
      go_ret
      exact ⟨rfl, 0, rfl⟩
end Go.Proofs.YtblafbbnplfpjaaGreatDoor
namespace Go.Proofs.YtblafbbnplfpjaaGreatDoor
open Go.RowKit Go.Shelf

theorem ret_sl {a : Option Addr} {k m c : Nat} (h : k = m) : Ending.returned (.slice a k c) = .returned (.slice a m c) := by rw [h]

def Gr (w : World) (B : Nat) (v : Value) (cs : List Int) : Prop := w.ownsRow B 124 1 v cs.length (row cs)

theorem Gr.sl {w : World} {B : Nat} {v : Value} {cs : List Int} (h : Gr w B v cs) (hL : Limbs cs) : ∃ a cap, v = .slice a cs.length cap ∧ cs.length ≤ cap ∧ Sl w a cs.length cs := by
  obtain ⟨h1, h2 | ⟨g, cap, cur, rfl, hB, hh, hc, hm, hs, ht⟩⟩ := h
  · obtain ⟨rfl, h0⟩ := h2
    refine ⟨none, 0, by rw [h0], by omega, rfl, hL, fun h => ?_⟩
    omega
  · refine ⟨_, cap, rfl, hc, rfl, hL, fun _ => ⟨g, 0, rfl, fun i hi => ?_⟩⟩
    have hr := row_getElem? cs i hi
    rw [← ht, Nat.mul_one, List.getElem?_take_of_lt hi] at hr
    rw [Nat.zero_add]
    simp only [World.cell?, hh]
    simpa using hr
theorem Gr.nil (w : World) (B : Nat) : Gr w B (.slice none 0 0) [] := ⟨rfl, .inl ⟨rfl, rfl⟩⟩
theorem Gr.block {w : World} {B : Nat} {v : Value} {cs : List Int} (h : Gr w B v cs) : ∀ k, v.ownBlock = some k → B ≤ k := by
  obtain ⟨h1, h2 | ⟨g, cap, cur, rfl, hB, hh, hc, hm, hs, ht⟩⟩ := h
  · obtain ⟨rfl, h0⟩ := h2
    intro k hk; cases hk
  · intro k hk; cases hk; exact hB
theorem row_append (a b : List Int) : row (a ++ b) = row a ++ row b := by simp [row]
theorem info8 : (Tryz.prog.info? 124).map (fun i => (i.zero, i.size, i.bytes)) = some (some (.int .u64 0), 1, 8) := by kernel_rfl

theorem step_app {ops : Array Oper} {o : Oper} {a : Act} {w : World} {K : Act → World → Prop} {Q : Exit → Act → World → Prop} {E : Prop} (hgd : o.guard = none) (s x : Operand)
    (ho : o.op = .call { callee := .builtin .append, args := #[s, x], argTypes := #[60, 60] })
    (B : Nat) (v : Value) (cs : List Int) (hs : a.eval s = v) (hg : Gr w B v cs) (g m c : Nat) (news : List Int) (hx : a.eval x = .slice (some ⟨g, 0, none⟩) m c) (hl : news.length = m) (hn : Own w g news)
    (hb : cs.length + m ≤ 17592186044416) (hB : B ≤ w.heap.size)
    (h : ∀ v' w', Gr w' B v' (cs ++ news) → Below B w w' → K (a.put o.dst v') w') : if Region.wanted o (yielded ops a.tmps) = true then Oper.wp Tryz.prog o a w K Q else E := by
  have hw : Region.wanted o (yielded ops a.tmps) = true := by simp [Region.wanted, hgd]
  rw [if_pos hw]
  obtain ⟨i0, hi, hz0, hz1, hz2⟩ := info_parts info8
  refine wp_append_own w s x _ ho B 124 i0 (.int .u64 0) 1 8 Tryz.underlying60 hi hz0 hz1 hz2 rfl (by decide) v cs.length (row cs) hs hg ⟨g, 0, none⟩ m c (row news) hx (by rw [row_length, hl, Nat.mul_one]) ?_ ?_ (by unfold maxLen; omega) (by omega) hB ?_
  · intro j u hu
    have hj : j < news.length := by
      rcases Nat.lt_or_ge j (row news).length with h' | h'
      · rw [row_length] at h'; exact h'
      · rw [List.getElem?_eq_none h'] at hu; cases hu
    rw [row_getElem? _ _ hj] at hu
    cases hu
    rw [addr_add, Nat.zero_add]
    exact hn.cell j hj
  · intro v hv
    simp only [row, List.mem_map] at hv
    obtain ⟨x, -, rfl⟩ := hv
    rfl
  · intro v' w' h2 h3 _
    refine h v' w' ?_ ((Below.refl B w).grown h3 hB hg.block)
    unfold Gr
    rw [List.length_append, hl, row_append]
    exact h2
theorem row_one (cs : List Int) : ∀ v ∈ row cs, v.oneCell' = true := by
  intro v hv
  simp only [row, List.mem_map] at hv
  obtain ⟨x, -, rfl⟩ := hv
  rfl
theorem src_row {W : World} {b o la n : Nat} {xs : List Int} (ha : Sl W (some ⟨b, o, none⟩) la xs) (hn : n ≤ la) : ∀ j v, (row (xs.take n))[j]? = some v → W.cell? ((⟨b, o, none⟩ : Addr).add j) = some v := by
  intro j v hj
  have hj' : j < (row (xs.take n)).length := by
    rcases Nat.lt_or_ge j (row (xs.take n)).length with h' | h'
    · exact h'
    · rw [List.getElem?_eq_none h'] at hj; cases hj
  rw [row_length, List.length_take] at hj'
  have hz := ha.1
  rw [row_getElem? _ _ (by rw [List.length_take]; omega), getD_take_lt _ _ _ (by omega)] at hj
  cases hj
  obtain ⟨b', o', e, hc⟩ := ha.2.2 (by omega)
  cases e
  rw [addr_add]
  exact hc j (by omega)
end Go.Proofs.YtblafbbnplfpjaaGreatDoor
