/-
  Put together of: Plus, Less, Over.
-/
import Derived.Test.YtblafbbnplfpjaaGreatDoorLists
import Derived.Test.YtblafbbnplfpjaaGreatDoorBsA
import Derived.Deep.RegionWith
import Derived.Test.YtblafbbnplfpjaaGreatDoorBsC
import Derived.Test.YtblafbbnplfpjaaGreatDoorBsD
namespace Go.Proofs.YtblafbbnplfpjaaGreatDoor
open Go.RowKit Go.Shelf

/-- What holds of the row behind k places. -/
def PInv (xs ys cs : List Int) (n k : Nat) (c : Int) : Prop :=
  cs.length = n ∧ Limbs cs ∧ (∀ j, k ≤ j → cs.getD j 0 = (xs.take (usedN xs)).getD j 0) ∧ num (cs.take k) + c * pw k = num (xs.take k) + num (ys.take k) ∧ 0 ≤ c ∧ c ≤ 1

theorem pinv_start {xs ys : List Int} {n : Nat} (hx : Limbs xs) (h : usedN xs ≤ n) : PInv xs ys (xs.take (usedN xs) ++ List.replicate (n - usedN xs) 0) n 0 0 :=
  ⟨wide_length xs n h, wide_limbs hx n, fun j _ => (wide_getD xs n j).trans (getD_used xs j).symm, by simp [num], by omega, by omega⟩
theorem pinv_step {xs ys cs : List Int} {n k : Nat} {c : Int} (hy : Limbs ys) (I : PInv xs ys cs n k c) (h : k < n) :
    PInv xs ys (cs.set k ((cs.getD k 0 + ys.getD k 0 + c) % 18446744073709551616)) n (k + 1) ((cs.getD k 0 + ys.getD k 0 + c) / 18446744073709551616) := by
  obtain ⟨i1, i2, i3, i4, i5, i6⟩ := I
  have b1 := i2.getD k; have b2 := hy.getD k
  have e := i3 k (Nat.le_refl _)
  rw [getD_used] at e
  refine ⟨by rw [List.length_set]; exact i1, i2.set k ⟨by omega, by omega⟩, fun j hj => by rw [getD_set_other _ _ _ _ (by omega)]; exact i3 j (by omega), ?_, by omega, by omega⟩
  have hc := carry_step (v := (cs.getD k 0 + ys.getD k 0 + c) % 18446744073709551616) (c' := (cs.getD k 0 + ys.getD k 0 + c) / 18446744073709551616) (p := pw k) (s := cs.getD k 0 + ys.getD k 0 + c) (by omega)
  rw [num_set_take _ _ _ (by omega), num_take_succ, num_take_succ, pw, ← e]
  rw [Int.add_mul, Int.add_mul] at hc
  omega
theorem pinv_end {xs ys cs : List Int} {n : Nat} {c : Int} (hx : Limbs xs) (hy : Limbs ys) (I : PInv xs ys cs n n c) (h : n = max (usedN xs) (usedN ys) + 1) : num cs = num xs + num ys := by
  obtain ⟨i1, i2, i3, i4, i5, i6⟩ := I
  rw [num_take_used xs (by omega), num_take_used ys (by omega), List.take_of_length_le (by omega)] at i4
  have h1 := num_lt_used hx; have h2 := num_lt_used hy
  have h3 := pw_mono (show usedN xs ≤ n - 1 by omega); have h4 := pw_mono (show usedN ys ≤ n - 1 by omega)
  have h5 : pw n = 18446744073709551616 * pw (n - 1) := by
    obtain ⟨m, rfl⟩ : ∃ m, n = m + 1 := ⟨n - 1, by omega⟩
    rfl
  have h6 := pw_pos (n - 1)
  have h7 := num_nonneg i2
  have : c = 0 ∨ c = 1 := by omega
  rcases this with rfl | rfl
  · simpa using i4
  · rw [Int.one_mul] at i4; omega

end Go.Proofs.YtblafbbnplfpjaaGreatDoor

namespace Go.Proofs.YtblafbbnplfpjaaGreatDoor
open Go.RowKit Go.Shelf

/-- What holds of the row behind k places. -/
def LInv (xs ys cs : List Int) (n k : Nat) (c : Int) : Prop :=
  cs.length = n ∧ Limbs cs ∧ (∀ j, k ≤ j → cs.getD j 0 = (xs.take (usedN xs)).getD j 0) ∧ num (cs.take k) - c * pw k = num (xs.take k) - num (ys.take k) ∧ 0 ≤ c ∧ c ≤ 1

theorem linv_start {xs ys : List Int} (hx : Limbs xs) : LInv xs ys (xs.take (usedN xs)) (usedN xs) 0 0 :=
  ⟨by have := usedN_le xs; rw [List.length_take]; omega, hx.take _, fun j _ => rfl, by simp [num], by omega, by omega⟩
theorem borrow_step {v c' s p : Int} (h : v - 18446744073709551616 * c' = s) : v * p - c' * (18446744073709551616 * p) = s * p := by
  rw [← h, Int.sub_mul, Int.mul_comm 18446744073709551616 c', Int.mul_assoc]
theorem linv_step {xs ys cs : List Int} {n k : Nat} {c : Int} (hy : Limbs ys) (I : LInv xs ys cs n k c) (h : k < n) :
    LInv xs ys (cs.set k ((cs.getD k 0 - ys.getD k 0 - c) % 18446744073709551616)) n (k + 1) (-((cs.getD k 0 - ys.getD k 0 - c) / 18446744073709551616)) := by
  obtain ⟨i1, i2, i3, i4, i5, i6⟩ := I
  have b1 := i2.getD k; have b2 := hy.getD k
  have e := i3 k (Nat.le_refl _)
  rw [getD_used] at e
  refine ⟨by rw [List.length_set]; exact i1, i2.set k ⟨by omega, by omega⟩, fun j hj => by rw [getD_set_other _ _ _ _ (by omega)]; exact i3 j (by omega), ?_, by omega, by omega⟩
  have hc := borrow_step (v := (cs.getD k 0 - ys.getD k 0 - c) % 18446744073709551616) (c' := -((cs.getD k 0 - ys.getD k 0 - c) / 18446744073709551616)) (p := pw k) (s := cs.getD k 0 - ys.getD k 0 - c) (by omega)
  rw [num_set_take _ _ _ (by omega), num_take_succ, num_take_succ, pw, ← e]
  rw [Int.sub_mul, Int.sub_mul] at hc
  omega
theorem linv_end {xs ys cs : List Int} {n : Nat} {c : Int} (hx : Limbs xs) (hy : Limbs ys) (I : LInv xs ys cs n n c) (hn : n = usedN xs) (h : num ys ≤ num xs) : num cs = num xs - num ys := by
  obtain ⟨i1, i2, i3, i4, i5, i6⟩ := I
  have hle : usedN ys ≤ usedN xs := by
    rcases Nat.lt_or_ge (usedN xs) (usedN ys) with h' | h'
    · have := num_lt_len hx hy h'; omega
    · exact h'
  rw [num_take_used xs (by omega), num_take_used ys (by omega), List.take_of_length_le (by omega)] at i4
  have h1 := num_lt i2
  rw [i1] at h1
  have : c = 0 ∨ c = 1 := by omega
  rcases this with rfl | rfl
  · simpa using i4
  · rw [Int.one_mul] at i4; omega

end Go.Proofs.YtblafbbnplfpjaaGreatDoor

namespace Go.Proofs.YtblafbbnplfpjaaGreatDoor
open Go.RowKit Go.Shelf

/-- What holds where the places from t on are divided. -/
def OInv (xs cs : List Int) (b : Int) (n t : Nat) (r : Int) : Prop :=
  cs.length = n ∧ Limbs cs ∧ (∀ j, j < t → cs.getD j 0 = (xs.take (usedN xs)).getD j 0) ∧ num ((xs.take (usedN xs)).drop t) = num (cs.drop t) * b + r ∧ 0 ≤ r ∧ r < b

theorem oinv_start {xs : List Int} {b : Int} (hx : Limbs xs) (hb : 0 < b) : OInv xs (xs.take (usedN xs)) b (usedN xs) (usedN xs) 0 := by
  have hu := usedN_le xs
  have hl : (xs.take (usedN xs)).length = usedN xs := by rw [List.length_take]; omega
  refine ⟨hl, hx.take _, fun j _ => rfl, ?_, by omega, hb⟩
  have e : (xs.take (usedN xs)).drop (usedN xs) = [] := List.drop_eq_nil_of_le (by omega)
  rw [e]; simp [num]
theorem oinv_step {xs cs : List Int} {b : Int} {n t : Nat} {r : Int} (hn : n = usedN xs) (hb : b < 18446744073709551616) (I : OInv xs cs b n (t + 1) r) (h : t < n) :
    OInv xs (cs.set t ((r * 18446744073709551616 + cs.getD t 0) / b)) b n t ((r * 18446744073709551616 + cs.getD t 0) % b) := by
  obtain ⟨i1, i2, i3, i4, i5, i6⟩ := I
  have hu := usedN_le xs
  have hl : (xs.take (usedN xs)).length = n := by rw [List.length_take]; omega
  have b1 := i2.getD t
  have e := i3 t (by omega)
  have hm := Int.emod_nonneg (r * 18446744073709551616 + cs.getD t 0) (b := b) (by omega)
  have hml := Int.emod_lt_of_pos (r * 18446744073709551616 + cs.getD t 0) (b := b) (by omega)
  have hd0 : 0 ≤ (r * 18446744073709551616 + cs.getD t 0) / b := Int.ediv_nonneg (by omega) (by omega)
  have hd1 : (r * 18446744073709551616 + cs.getD t 0) / b < 18446744073709551616 := Int.ediv_lt_of_lt_mul (by omega) (by omega)
  refine ⟨by rw [List.length_set]; exact i1, i2.set t ⟨hd0, hd1⟩, fun j hj => by rw [getD_set_other _ _ _ _ (by omega)]; exact i3 j (by omega), ?_, hm, hml⟩
  have hdm := Int.mul_ediv_add_emod (r * 18446744073709551616 + cs.getD t 0) b
  rw [num_set_drop _ _ _ (by omega), num_drop_at _ _ (by omega), i4, ← e, Int.add_mul, Int.mul_assoc]
  rw [Int.mul_comm b] at hdm
  omega
theorem oinv_end {xs cs : List Int} {b : Int} {n : Nat} {r : Int} (I : OInv xs cs b n 0 r) : num xs = num cs * b + r := by
  have := I.2.2.2.1
  rw [List.drop_zero, List.drop_zero, num_take_used xs (Nat.le_refl _)] at this; exact this

theorem over_nought (a : Option Addr) (la ca : Nat) (w : World) :
    Calls Tryz.prog 160 #[.slice a la ca, .int .u64 0] w fun e w' => e = .returned (.tuple #[.slice none 0 0, .int .u64 0, .int .i64 4]) ∧ w' = w := by
  go_enter Tryz.func160, Tryz.ntmps160
  go_wp2_with fail
  go_ret3
  exact ⟨rfl, rfl⟩

set_option maxHeartbeats 1000000 in
theorem over_ok (a : Option Addr) (la ca : Nat) (xs : List Int) (b : Int) (w : World) (ha : Sl w a la xs) (h1 : la ≤ 20000000000000) (hca : la ≤ ca) (hb : Word b) (hb0 : 0 < b) :
    Calls Tryz.prog 160 #[.slice a la ca, .int .u64 b] w fun e w' =>
      ∃ g m c zs r, e = .returned (.tuple #[.slice (some ⟨g, 0, none⟩) m c, .int .u64 r, .int .i64 0]) ∧ w.heap.size ≤ g ∧ m ≤ c ∧ m ≤ la ∧ Sl w' (some ⟨g, 0, none⟩) m zs ∧ usedN zs = m ∧ num xs = num zs * b + r ∧ 0 ≤ r ∧ r < b ∧ Below w.heap.size w w' := by
  have hux := usedN_le xs
  have hza := ha.1
  have hLx := ha.2.1
  have T := trim_any a la ca xs w ha h1 hca
  have I0 := oinv_start hLx hb0
  obtain ⟨n, hn⟩ : ∃ n, usedN xs = n := ⟨_, rfl⟩
  rw [hn] at T I0
  have hnb : n ≤ la := by omega
  have HN : Hid (n = usedN xs) := hn.symm
  have HI0 : Hid (OInv xs (xs.take n) b n n 0) := I0
  have g0 : (b == 0) = false := by simp; omega
  have hb1 := hb.2
  clear hn hux I0
  go_enter Tryz.func160, Tryz.ntmps160
  go_wp2_with fail
  refine T.mono ?_
  rintro e w1 ⟨g, rfl, hg, hown, hbel⟩
  clear T ha
  go_wp2_with fail
  go_loopw [9, 19] (fun rr i wr => ∃ (k : Nat) (r : Int) (cs : List Int), k ≤ n ∧ i = .int .i64 k ∧ rr = .int .u64 r ∧ Hid (OInv xs cs b n (n - k) r) ∧ Hid (Own wr g cs) ∧ Below w.heap.size w wr) (fun _ i _ => n - (intOf i).toNat)
  case atStart => exact ⟨0, 0, _, Nat.zero_le _, rfl, rfl, HI0, hown, hbel⟩
  case round =>
    obtain ⟨k, r, cs, hk, rfl, rfl, hI, ho, hbl⟩ := hrel
    by_cases hlt : k < n
    · obtain ⟨t, ht⟩ : ∃ t, n - k = t + 1 := ⟨n - 1 - k, by omega⟩
      have hI' := hI.out
      rw [ht] at hI'
      have hcx := ho.out.cell t (by rw [hI'.1]; omega)
      have hfx := ho.out.frozen t
      have hw1 := hI'.2.1.getD t
      have hc0 := hI'.2.2.2.2.1
      have hc1 := hI'.2.2.2.2.2
      have hstep := oinv_step HN.out hb1 hI' (by omega)
      obtain ⟨x, hx⟩ : ∃ x, cs.getD t 0 = x := ⟨_, rfl⟩
      rw [hx] at hcx hw1 hstep
      have D := div_ok r x b ⟨hc0, by omega⟩ hw1 hb hc1 wr
      have ex : ((n : Int) - 1 - k).toNat = t := by omega
      have et : ((n : Int) - 1 - k) = (t : Int) := by omega
      have htn : t < n := by omega
      have ET : Hid (n - (k + 1) = t) := by show n - (k + 1) = t; omega
      obtain ⟨qq, hqq⟩ : ∃ q, (r * 18446744073709551616 + x) / b = q := ⟨_, rfl⟩
      obtain ⟨rr, hrr⟩ : ∃ q, (r * 18446744073709551616 + x) % b = q := ⟨_, rfl⟩
      rw [hqq, hrr] at hstep D
      have HS : Hid (OInv xs (cs.set t qq) b n t rr) := hstep
      clear hstep hx hI' ht hqq hrr ex
      go_wp2_with fail
      refine D.mono ?_
      rintro e w2 ⟨rfl, nq, rfl⟩
      go_wp2_with fail
      go_roundw
      case rel => exact ⟨k + 1, _, _, by omega, by go_num, rfl, by rw [ET.out]; exact HS, Own.set (w := wr.drewN nq) ho.out t _, (below_drewN hbl nq).setCell (by exact hg) _⟩
      case measure => simp [intOf]; omega
    · obtain rfl : k = n := by omega
      have hI' := hI.out
      rw [Nat.sub_self] at hI'
      have hlen := hI'.1
      have hsl := ho.out.sl hI'.2.1
      rw [hlen] at hsl
      have C := cut_any (some ⟨g, 0, none⟩) k k cs wr hsl (by omega) (Nat.le_refl _)
      have hcu := usedN_le cs
      have HE : Hid (num xs = num cs * b + r) := oinv_end hI'
      have HR : Hid (0 ≤ r ∧ r < b) := hI'.2.2.2.2
      clear hI'
      go_wp2_with fail
      refine C.mono ?_
      rintro e w2 ⟨rfl, rfl⟩
      go_wp2_with fail
      go_ret3
      refine ⟨g, usedN cs, k, cs.take (usedN cs), r, rfl, hg, by omega, by omega, hsl.take (by omega), usedN_take cs (Nat.le_refl _), ?_, HR.out.1, HR.out.2, hbl⟩
      rw [num_take_used cs (Nat.le_refl _)]
      exact HE.out
end Go.Proofs.YtblafbbnplfpjaaGreatDoor
