/-
  Plus: the sum of two lists of limbs, trimmed, in new memory.
-/
import Derived.Test.YtopmbfiepheepaaLists
import Derived.Test.YtopmbfiepheepaaWide
import Derived.Deep.RegionWith
namespace Go.Proofs.Ytopmbfiepheepaa
open Go.RowKit Go.Shelf

/-- What holds of the row behind k places. -/
def PInv (xs ys cs : List Int) (n k : Nat) (c : Int) : Prop :=
  cs.length = n ∧ Limbs cs ∧ (∀ j, k ≤ j → cs.getD j 0 = (xs.take (usedN xs)).getD j 0) ∧ num (cs.take k) + c * pw k = num (xs.take k) + num (ys.take k) ∧ 0 ≤ c ∧ c ≤ 1

theorem pinv_start {xs ys : List Int} {n : Nat} (hx : Limbs xs) (h : usedN xs ≤ n) : PInv xs ys (xs.take (usedN xs) ++ List.replicate (n - usedN xs) 0) n 0 0 :=
  ⟨wide_length xs n h, wide_limbs hx n, fun j _ => (wide_getD xs n j).trans (getD_used xs j).symm, by simp [num], by omega, by omega⟩
theorem pinv_step {xs ys cs : List Int} {n k : Nat} {c : Int} (hy : Limbs ys) (I : PInv xs ys cs n k c) (h : k < n) :
    PInv xs ys (cs.set k ((cs.getD k 0 + ys.getD k 0 + c) % 18446744073709551616)) n (k + 1) ((cs.getD k 0 + ys.getD k 0 + c) / 18446744073709551616) := by
  obtain ⟨i1, i2, i3, i4, i5, i6⟩ := I
  have b1 := i2.getD k; have b2 := hy.getD k
  have e := i3 k (Nat.le_refl _)
  rw [getD_used] at e
  refine ⟨by rw [List.length_set]; exact i1, i2.set k ⟨by omega, by omega⟩, fun j hj => by rw [getD_set_other _ _ _ _ (by omega)]; exact i3 j (by omega), ?_, by omega, by omega⟩
  have hc := carry_step (v := (cs.getD k 0 + ys.getD k 0 + c) % 18446744073709551616) (c' := (cs.getD k 0 + ys.getD k 0 + c) / 18446744073709551616) (p := pw k) (s := cs.getD k 0 + ys.getD k 0 + c) (by omega)
  rw [num_set_take _ _ _ (by omega), num_take_succ, num_take_succ, pw, ← e]
  rw [Int.add_mul, Int.add_mul] at hc
  omega
theorem pinv_end {xs ys cs : List Int} {n : Nat} {c : Int} (hx : Limbs xs) (hy : Limbs ys) (I : PInv xs ys cs n n c) (h : n = max (usedN xs) (usedN ys) + 1) : num cs = num xs + num ys := by
  obtain ⟨i1, i2, i3, i4, i5, i6⟩ := I
  rw [num_take_used xs (by omega), num_take_used ys (by omega), List.take_of_length_le (by omega)] at i4
  have h1 := num_lt_used hx; have h2 := num_lt_used hy
  have h3 := pw_mono (show usedN xs ≤ n - 1 by omega); have h4 := pw_mono (show usedN ys ≤ n - 1 by omega)
  have h5 : pw n = 18446744073709551616 * pw (n - 1) := by
    obtain ⟨m, rfl⟩ : ∃ m, n = m + 1 := ⟨n - 1, by omega⟩
    rfl
  have h6 := pw_pos (n - 1)
  have h7 := num_nonneg i2
  have : c = 0 ∨ c = 1 := by omega
  rcases this with rfl | rfl
  · simpa using i4
  · rw [Int.one_mul] at i4; omega

set_option maxHeartbeats 1000000 in
theorem plus_any (a b : Option Addr) (la ca lb cb : Nat) (xs ys : List Int) (w : World) (ha : Sl w a la xs) (hb : Sl w b lb ys) (h1 : la ≤ 20000000000000) (h2 : lb ≤ 20000000000000) (hca : la ≤ ca) :
    Calls Try.prog 52 #[.slice a la ca, .slice b lb cb] w fun e w' =>
      ∃ g m c zs, e = .returned (.slice (some ⟨g, 0, none⟩) m c) ∧ w.heap.size ≤ g ∧ m ≤ c ∧ m ≤ max (usedN xs) (usedN ys) + 1 ∧ Sl w' (some ⟨g, 0, none⟩) m zs ∧ usedN zs = m ∧ num zs = num xs + num ys ∧ Below w.heap.size w w' := by
  have hux := usedN_le xs; have huy := usedN_le ys
  have hza := ha.1; have hzb := hb.1
  have hLx := ha.2.1; have hLy := hb.2.1
  have U := used_any a la ca xs w ha (by omega)
  have V := used_any b lb cb ys w hb (by omega)
  obtain ⟨n, hn⟩ : ∃ n, n = max (usedN xs) (usedN ys) + 1 := ⟨_, rfl⟩
  have W := widened_any a la ca n xs w ha h1 hca (by omega) (by omega)
  have en : max (usedN xs : Int) (usedN ys : Int) + 1 = (n : Int) := by omega
  have hnb : n ≤ 20000000000001 := by omega
  have hnu : usedN xs ≤ n := by omega
  have EN : Hid (max (usedN xs : Int) (usedN ys : Int) + 1 = (n : Int)) := en
  have HN : Hid (n = max (usedN xs) (usedN ys) + 1) := hn
  clear en hn
  go_enter Try.func52, Try.ntmps52
  go_wp2_with fail
  refine U.mono ?_
  rintro e w' ⟨rfl, rfl⟩
  go_wp2_with fail
  refine V.mono ?_
  rintro e w' ⟨rfl, rfl⟩
  go_wp2_with fail
  rw [EN.out]
  refine W.mono ?_
  rintro e w1 ⟨g, rfl, hg, hown, hbel⟩
  clear U V W ha
  go_wp2_with fail
  go_loopw [7, 19] (fun cc i wr => ∃ (k : Nat) (c : Int) (cs : List Int), k ≤ n ∧ i = .int .i64 k ∧ cc = .int .u64 c ∧ Hid (PInv xs ys cs n k c) ∧ Hid (Own wr g cs) ∧ Below w'.heap.size w' wr) (fun _ i _ => n - (intOf i).toNat)
  case atStart => exact ⟨0, 0, _, Nat.zero_le _, rfl, rfl, pinv_start hLx hnu, hown, hbel⟩
  case round =>
    obtain ⟨k, c, cs, hk, rfl, rfl, hI, ho, hbl⟩ := hrel
    by_cases hlt : k < n
    · have hcx := ho.out.cell k (by rw [hI.out.1]; exact hlt)
      have hfx := ho.out.frozen k
      have hw1 := hI.out.2.1.getD k
      have hw2 := hLy.getD k
      have hc0 := hI.out.2.2.2.2.1
      have hc1 := hI.out.2.2.2.2.2
      have hstep := pinv_step hLy hI.out hlt
      obtain ⟨x, hx⟩ : ∃ x, cs.getD k 0 = x := ⟨_, rfl⟩
      obtain ⟨y, hy⟩ : ∃ y, ys.getD k 0 = y := ⟨_, rfl⟩
      have L : ∀ W0, Below w'.heap.size w' W0 → Calls Try.prog 74 #[.slice b lb cb, .int .i64 k] W0 fun e w' => e = .returned (.int .u64 y) ∧ w' = W0 := by
        intro W0 hW0
        have := limbAt_any b lb cb ys k W0 (hb.below hW0 (Nat.le_refl _)) (by omega)
        rw [Int.toNat_natCast, hy] at this; exact this
      rw [hx] at hcx hw1
      rw [hy] at hw2
      rw [hx, hy] at hstep
      have HS : Hid (PInv xs ys (cs.set k ((x + y + c) % 18446744073709551616)) n (k + 1) ((x + y + c) / 18446744073709551616)) := hstep
      have LH : Hid (∀ W0, Below w'.heap.size w' W0 → Calls Try.prog 74 #[.slice b lb cb, .int .i64 k] W0 fun e w' => e = .returned (.int .u64 y) ∧ w' = W0) := L
      clear hstep hx hy L
      go_wp2_with fail
      go_region_with (first | (go_at_call 74; refine (LH.out _ (by exact hbl.drew)).mono ?_; rintro e w2 ⟨rfl, rfl⟩) | (go_at_call 73; refine (add_any x y c hw1 hw2 ⟨hc0, by omega⟩ _).mono ?_; rintro e w2 ⟨rfl, rfl⟩))
      all_goals
        go_wp2_with fail
        go_roundw
        case rel => exact ⟨k + 1, _, _, by omega, by go_num, rfl, HS, Own.set (w := wr.drew) ho.out k _, hbl.drew.setCell (by exact hg) _⟩
        case measure => simp [intOf]; omega
    · obtain rfl : k = n := by omega
      have hlen := hI.out.1
      have hsl := ho.out.sl hI.out.2.1
      rw [hlen] at hsl
      have C := cut_any (some ⟨g, 0, none⟩) k k cs wr hsl (by omega) (Nat.le_refl _)
      have hcu := usedN_le cs
      go_wp2_with fail
      refine C.mono ?_
      rintro e w2 ⟨rfl, rfl⟩
      go_wp2_with fail
      go_ret
      refine ⟨g, usedN cs, k, cs.take (usedN cs), rfl, hg, by omega, by have := HN.out; omega, hsl.take (by omega), usedN_take cs (Nat.le_refl _), ?_, hbl⟩
      rw [num_take_used cs (Nat.le_refl _)]
      exact pinv_end hLx hLy hI.out HN.out
end Go.Proofs.Ytopmbfiepheepaa
