/-
  Less: the difference of two lists of limbs, trimmed, in new memory; refused where it would be below 0.
-/
import Derived.Test.YtopmbfiepheepaaLists2
import Derived.Test.YtopmbfiepheepaaWide
import Derived.Deep.RegionWith
namespace Go.Proofs.Ytopmbfiepheepaa
open Go.RowKit Go.Shelf

/-- What holds of the row behind k places. -/
def LInv (xs ys cs : List Int) (n k : Nat) (c : Int) : Prop :=
  cs.length = n ∧ Limbs cs ∧ (∀ j, k ≤ j → cs.getD j 0 = (xs.take (usedN xs)).getD j 0) ∧ num (cs.take k) - c * pw k = num (xs.take k) - num (ys.take k) ∧ 0 ≤ c ∧ c ≤ 1

theorem linv_start {xs ys : List Int} (hx : Limbs xs) : LInv xs ys (xs.take (usedN xs)) (usedN xs) 0 0 :=
  ⟨by have := usedN_le xs; rw [List.length_take]; omega, hx.take _, fun j _ => rfl, by simp [num], by omega, by omega⟩
theorem borrow_step {v c' s p : Int} (h : v - 18446744073709551616 * c' = s) : v * p - c' * (18446744073709551616 * p) = s * p := by
  rw [← h, Int.sub_mul, Int.mul_comm 18446744073709551616 c', Int.mul_assoc]
theorem linv_step {xs ys cs : List Int} {n k : Nat} {c : Int} (hy : Limbs ys) (I : LInv xs ys cs n k c) (h : k < n) :
    LInv xs ys (cs.set k ((cs.getD k 0 - ys.getD k 0 - c) % 18446744073709551616)) n (k + 1) (-((cs.getD k 0 - ys.getD k 0 - c) / 18446744073709551616)) := by
  obtain ⟨i1, i2, i3, i4, i5, i6⟩ := I
  have b1 := i2.getD k; have b2 := hy.getD k
  have e := i3 k (Nat.le_refl _)
  rw [getD_used] at e
  refine ⟨by rw [List.length_set]; exact i1, i2.set k ⟨by omega, by omega⟩, fun j hj => by rw [getD_set_other _ _ _ _ (by omega)]; exact i3 j (by omega), ?_, by omega, by omega⟩
  have hc := borrow_step (v := (cs.getD k 0 - ys.getD k 0 - c) % 18446744073709551616) (c' := -((cs.getD k 0 - ys.getD k 0 - c) / 18446744073709551616)) (p := pw k) (s := cs.getD k 0 - ys.getD k 0 - c) (by omega)
  rw [num_set_take _ _ _ (by omega), num_take_succ, num_take_succ, pw, ← e]
  rw [Int.sub_mul, Int.sub_mul] at hc
  omega
theorem linv_end {xs ys cs : List Int} {n : Nat} {c : Int} (hx : Limbs xs) (hy : Limbs ys) (I : LInv xs ys cs n n c) (hn : n = usedN xs) (h : num ys ≤ num xs) : num cs = num xs - num ys := by
  obtain ⟨i1, i2, i3, i4, i5, i6⟩ := I
  have hle : usedN ys ≤ usedN xs := by
    rcases Nat.lt_or_ge (usedN xs) (usedN ys) with h' | h'
    · have := num_lt_len hx hy h'; omega
    · exact h'
  rw [num_take_used xs (by omega), num_take_used ys (by omega), List.take_of_length_le (by omega)] at i4
  have h1 := num_lt i2
  rw [i1] at h1
  have : c = 0 ∨ c = 1 := by omega
  rcases this with rfl | rfl
  · simpa using i4
  · rw [Int.one_mul] at i4; omega

theorem less_below (a b : Option Addr) (la ca lb cb : Nat) (xs ys : List Int) (w : World) (ha : Sl w a la xs) (hb : Sl w b lb ys) (h1 : la ≤ 20000000000001) (h2 : lb ≤ 20000000000001) (hlt : num xs < num ys) :
    Calls Try.prog 54 #[.slice a la ca, .slice b lb cb] w fun e w' => e = .returned (.tuple #[.slice none 0 0, .int .i64 6]) ∧ ∃ n, w' = w.drewN n := by
  have C := compare_any a b la ca lb cb xs ys w ha hb (by omega) (by omega)
  rw [cmp3_lt hlt] at C
  go_enter Try.func54, Try.ntmps54
  go_wp2_with fail
  refine C.mono ?_
  rintro e w' ⟨rfl, n, rfl⟩
  go_wp2_with fail
  go_ret2
  exact ⟨rfl, n, rfl⟩

set_option maxHeartbeats 1000000 in
theorem less_ok (a b : Option Addr) (la ca lb cb : Nat) (xs ys : List Int) (w : World) (ha : Sl w a la xs) (hb : Sl w b lb ys) (h1 : la ≤ 20000000000000) (h2 : lb ≤ 20000000000000) (hca : la ≤ ca) (hle : num ys ≤ num xs) :
    Calls Try.prog 54 #[.slice a la ca, .slice b lb cb] w fun e w' =>
      ∃ g m c zs, e = .returned (.tuple #[.slice (some ⟨g, 0, none⟩) m c, .int .i64 0]) ∧ w.heap.size ≤ g ∧ m ≤ c ∧ m ≤ la ∧ Sl w' (some ⟨g, 0, none⟩) m zs ∧ usedN zs = m ∧ num zs = num xs - num ys ∧ Below w.heap.size w w' := by
  have hux := usedN_le xs
  have hza := ha.1; have hzb := hb.1
  have hLx := ha.2.1; have hLy := hb.2.1
  have C := compare_any a b la ca lb cb xs ys w ha hb (by omega) (by omega)
  have hcm : ¬ cmp3 (num xs) (num ys) < 0 := by rw [cmp3_neg_iff]; omega
  obtain ⟨z, hz⟩ : ∃ z, cmp3 (num xs) (num ys) = z := ⟨_, rfl⟩
  rw [hz] at C hcm
  clear hz
  have T := fun nq => trim_any a la ca xs (w.drewN nq) (ha.drewN nq) h1 hca
  obtain ⟨n, hn⟩ : ∃ n, usedN xs = n := ⟨_, rfl⟩
  rw [hn] at T
  have hnb : n ≤ la := by omega
  have HN : Hid (n = usedN xs) := hn.symm
  have I0 := linv_start (ys := ys) hLx
  rw [hn] at I0
  have HI0 : Hid (LInv xs ys (xs.take n) n 0 0) := I0
  have HLE : Hid (num ys ≤ num xs) := hle
  clear hn hux I0 hle
  go_enter Try.func54, Try.ntmps54
  go_wp2_with fail
  refine C.mono ?_
  rintro e w' ⟨rfl, nq, rfl⟩
  go_wp2_with fail
  refine (T nq).mono ?_
  rintro e w1 ⟨g, rfl, hg, hown, hbel⟩
  have hg' : w.heap.size ≤ g := hg
  have hbel' : Below w.heap.size w w1 := ⟨hbel.os, hbel.tape, hbel.output, hbel.size, hbel.block⟩
  clear C T ha hbel hg
  go_wp2_with fail
  go_loopw [7, 17] (fun cc i wr => ∃ (k : Nat) (c : Int) (cs : List Int), k ≤ n ∧ i = .int .i64 k ∧ cc = .int .u64 c ∧ Hid (LInv xs ys cs n k c) ∧ Hid (Own wr g cs) ∧ Below w.heap.size w wr) (fun _ i _ => n - (intOf i).toNat)
  case atStart => exact ⟨0, 0, _, Nat.zero_le _, rfl, rfl, HI0, hown, hbel'⟩
  case round =>
    obtain ⟨k, c, cs, hk, rfl, rfl, hI, ho, hbl⟩ := hrel
    by_cases hlt : k < n
    · have hcx := ho.out.cell k (by rw [hI.out.1]; exact hlt)
      have hfx := ho.out.frozen k
      have hw1 := hI.out.2.1.getD k
      have hw2 := hLy.getD k
      have hc0 := hI.out.2.2.2.2.1
      have hc1 := hI.out.2.2.2.2.2
      have hstep := linv_step hLy hI.out hlt
      obtain ⟨x, hx⟩ : ∃ x, cs.getD k 0 = x := ⟨_, rfl⟩
      obtain ⟨y, hy⟩ : ∃ y, ys.getD k 0 = y := ⟨_, rfl⟩
      have L : ∀ W0, Below w.heap.size w W0 → Calls Try.prog 74 #[.slice b lb cb, .int .i64 k] W0 fun e w' => e = .returned (.int .u64 y) ∧ w' = W0 := by
        intro W0 hW0
        have := limbAt_any b lb cb ys k W0 (hb.below hW0 (Nat.le_refl _)) (by omega)
        rw [Int.toNat_natCast, hy] at this; exact this
      rw [hx] at hcx hw1
      rw [hy] at hw2
      rw [hx, hy] at hstep
      have HS : Hid (LInv xs ys (cs.set k ((x - y - c) % 18446744073709551616)) n (k + 1) (-((x - y - c) / 18446744073709551616))) := hstep
      have LH : Hid (∀ W0, Below w.heap.size w W0 → Calls Try.prog 74 #[.slice b lb cb, .int .i64 k] W0 fun e w' => e = .returned (.int .u64 y) ∧ w' = W0) := L
      clear hstep hx hy L
      go_wp2_with fail
      go_region_with (first | (go_at_call 74; refine (LH.out _ (by exact hbl.drew)).mono ?_; rintro e w2 ⟨rfl, rfl⟩) | (go_at_call 77; refine (sub_any x y c hw1 hw2 ⟨hc0, by omega⟩ _).mono ?_; rintro e w2 ⟨rfl, rfl⟩))
      all_goals
        go_wp2_with fail
        go_roundw
        case rel => exact ⟨k + 1, _, _, by omega, by go_num, rfl, HS, Own.set (w := wr.drew) ho.out k _, hbl.drew.setCell (by exact hg') _⟩
        case measure => simp [intOf]; omega
    · obtain rfl : k = n := by omega
      have hlen := hI.out.1
      have hsl := ho.out.sl hI.out.2.1
      rw [hlen] at hsl
      have C := cut_any (some ⟨g, 0, none⟩) k k cs wr hsl (by omega) (Nat.le_refl _)
      have hcu := usedN_le cs
      go_wp2_with fail
      refine C.mono ?_
      rintro e w2 ⟨rfl, rfl⟩
      go_wp2_with fail
      go_ret2
      refine ⟨g, usedN cs, k, cs.take (usedN cs), rfl, hg', by omega, by omega, hsl.take (by omega), usedN_take cs (Nat.le_refl _), ?_, hbl⟩
      rw [num_take_used cs (Nat.le_refl _)]
      exact linv_end hLx hLy hI.out HN.out HLE.out
end Go.Proofs.Ytopmbfiepheepaa
