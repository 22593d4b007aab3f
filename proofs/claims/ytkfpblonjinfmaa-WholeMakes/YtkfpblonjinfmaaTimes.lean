/-
  Times: a list of limbs times a limb, and a limb more; trimmed, in new memory.
-/
import Derived.Test.YtkfpblonjinfmaaLists
import Derived.Test.YtkfpblonjinfmaaWide
namespace Go.Proofs.Ytkfpblonjinfmaa
open Go.RowKit Go.Shelf

/-- What holds of the row behind k places. -/
def TInv (xs cs : List Int) (by' more : Int) (n k : Nat) (c : Int) : Prop :=
  cs.length = n + 1 ∧ Limbs cs ∧ (∀ j, k ≤ j → cs.getD j 0 = xs.getD j 0) ∧ num (cs.take k) + c * pw k = num (xs.take k) * by' + more ∧ 0 ≤ c ∧ c < 18446744073709551616

theorem tinv_start {xs : List Int} {b m : Int} (hx : Limbs xs) (hm : 0 ≤ m ∧ m < 18446744073709551616) : TInv xs (xs.take (usedN xs) ++ List.replicate (usedN xs + 1 - usedN xs) 0) b m (usedN xs) 0 m :=
  ⟨wide_length xs _ (by omega), wide_limbs hx _, fun j _ => wide_getD xs _ j, by simp [num, pw], hm.1, hm.2⟩
theorem prod_bd {x b c : Int} (hx : 0 ≤ x ∧ x < 18446744073709551616) (hb : 0 ≤ b ∧ b < 18446744073709551616) (hc : 0 ≤ c ∧ c < 18446744073709551616) :
    0 ≤ (x * b + c) / 18446744073709551616 ∧ (x * b + c) / 18446744073709551616 < 18446744073709551616 := by
  have h1 : 0 ≤ x * b := Int.mul_nonneg hx.1 hb.1
  have h2 : x * b ≤ 18446744073709551615 * b := Int.mul_le_mul_of_nonneg_right (by omega) hb.1
  generalize x * b = p at *
  omega
theorem tinv_step {xs cs : List Int} {b m : Int} {n k : Nat} {c : Int} (hb : 0 ≤ b ∧ b < 18446744073709551616) (I : TInv xs cs b m n k c) (h : k < n) :
    TInv xs (cs.set k ((cs.getD k 0 * b + c) % 18446744073709551616)) b m n (k + 1) ((cs.getD k 0 * b + c) / 18446744073709551616) := by
  obtain ⟨i1, i2, i3, i4, i5, i6⟩ := I
  have b1 := i2.getD k
  have e := i3 k (Nat.le_refl _)
  obtain ⟨p1, p2⟩ := prod_bd b1 hb ⟨i5, i6⟩
  refine ⟨by rw [List.length_set]; exact i1, i2.set k ⟨by omega, by omega⟩, fun j hj => by rw [getD_set_other _ _ _ _ (by omega)]; exact i3 j (by omega), ?_, p1, p2⟩
  have hc := carry_step (v := (cs.getD k 0 * b + c) % 18446744073709551616) (c' := (cs.getD k 0 * b + c) / 18446744073709551616) (p := pw k) (s := cs.getD k 0 * b + c) (by omega)
  rw [num_set_take _ _ _ (by omega), num_take_succ, pw, ← e, Int.add_mul]
  rw [Int.add_mul, Int.mul_right_comm] at hc
  omega
theorem tinv_end {xs cs : List Int} {b m : Int} {n : Nat} {c : Int} (I : TInv xs cs b m n n c) (hn : n = usedN xs) :
    (cs.set n c).length = n + 1 ∧ Limbs (cs.set n c) ∧ num (cs.set n c) = num xs * b + m := by
  obtain ⟨i1, i2, i3, i4, i5, i6⟩ := I
  refine ⟨by rw [List.length_set]; exact i1, i2.set n ⟨i5, i6⟩, ?_⟩
  have e := num_set_take cs n c (by omega)
  rw [List.take_of_length_le (by rw [List.length_set]; omega)] at e
  rw [num_take_used xs (by omega)] at i4
  omega

set_option maxHeartbeats 1000000 in
theorem times_any (a : Option Addr) (la ca : Nat) (xs : List Int) (b m : Int) (w : World) (ha : Sl w a la xs) (h1 : la ≤ 20000000000000) (hca : la ≤ ca) (hb : Word b) (hm : Word m) :
    Calls Try.prog 79 #[.slice a la ca, .int .u64 b, .int .u64 m] w fun e w' =>
      ∃ g n c zs, e = .returned (.slice (some ⟨g, 0, none⟩) n c) ∧ w.heap.size ≤ g ∧ n ≤ c ∧ n ≤ usedN xs + 1 ∧ Sl w' (some ⟨g, 0, none⟩) n zs ∧ usedN zs = n ∧ num zs = num xs * b + m ∧ Below w.heap.size w w' := by
  have hux := usedN_le xs
  have hza := ha.1
  have hLx := ha.2.1
  have U := used_any a la ca xs w ha (by omega)
  have W := widened_any a la ca (usedN xs + 1) xs w ha h1 hca (by omega) (by omega)
  have I0 := tinv_start (b := b) hLx hm
  obtain ⟨n, hn⟩ : ∃ n, usedN xs = n := ⟨_, rfl⟩
  rw [hn] at U W I0 hux
  rw [hn]
  have HN : Hid (n = usedN xs) := hn.symm
  have en : ((n + 1 : Nat) : Int) = (n : Int) + 1 := by omega
  rw [en] at W
  have HI0 : Hid (TInv xs (xs.take n ++ List.replicate (n + 1 - n) 0) b m n 0 m) := I0
  clear hn I0 en
  go_enter Try.func79, Try.ntmps79
  go_wp2_with fail
  refine U.mono ?_
  rintro e w' ⟨rfl, rfl⟩
  go_wp2_with fail
  refine W.mono ?_
  rintro e w1 ⟨g, rfl, hg, hown, hbel⟩
  clear U W ha
  go_wp2_with fail
  go_loopw [9, 23] (fun cc i wr => ∃ (k : Nat) (c : Int) (cs : List Int), k ≤ n ∧ i = .int .i64 k ∧ cc = .int .u64 c ∧ Hid (TInv xs cs b m n k c) ∧ Hid (Own wr g cs) ∧ Below w'.heap.size w' wr) (fun _ i _ => n - (intOf i).toNat)
  case atStart => exact ⟨0, m, _, Nat.zero_le _, rfl, rfl, HI0, hown, hbel⟩
  case round =>
    obtain ⟨k, c, cs, hk, rfl, rfl, hI, ho, hbl⟩ := hrel
    by_cases hlt : k < n
    · have hcx := ho.out.cell k (by rw [hI.out.1]; omega)
      have hfx := ho.out.frozen k
      have hw1 := hI.out.2.1.getD k
      have hc0 := hI.out.2.2.2.2.1
      have hc1 := hI.out.2.2.2.2.2
      have hstep := tinv_step hb hI.out hlt
      obtain ⟨x, hx⟩ : ∃ x, cs.getD k 0 = x := ⟨_, rfl⟩
      rw [hx] at hcx hw1 hstep
      obtain ⟨p1, p2⟩ := prod_bd hw1 hb ⟨hc0, hc1⟩
      have M := mul_any x b hw1 hb wr
      obtain ⟨hh, hh1⟩ : ∃ h, x * b / 18446744073709551616 = h := ⟨_, rfl⟩
      obtain ⟨ll, ll1⟩ : ∃ l, x * b % 18446744073709551616 = l := ⟨_, rfl⟩
      have hxb : x * b = hh * 18446744073709551616 + ll := by omega
      rw [hh1, ll1] at M
      have hlw : Word ll := by rw [← ll1]; exact word_mod _
      have hlw' := hlw
      obtain ⟨l1, l2⟩ := hlw'
      have A := add_any ll c 0 hlw ⟨hc0, hc1⟩ ⟨by omega, by omega⟩ wr
      rw [Int.add_zero] at A
      have e1 : (x * b + c) % 18446744073709551616 = (ll + c) % 18446744073709551616 := by omega
      have e2 : (x * b + c) / 18446744073709551616 = hh + (ll + c) / 18446744073709551616 := by omega
      rw [e2] at p1 p2
      rw [e1, e2] at hstep
      have hh0 : 0 ≤ hh := by rw [← hh1]; exact Int.ediv_nonneg (Int.mul_nonneg hw1.1 hb.1) (by omega)
      have HS : Hid (TInv xs (cs.set k ((ll + c) % 18446744073709551616)) b m n (k + 1) (hh + (ll + c) / 18446744073709551616)) := hstep
      clear hstep hx hh1 ll1 hxb e1 e2
      go_wp2_with fail
      refine M.mono ?_
      rintro e w2 ⟨rfl, rfl⟩
      go_wp2_with fail
      refine A.mono ?_
      rintro e w2 ⟨rfl, rfl⟩
      go_wp2_with fail
      go_roundw
      case rel => exact ⟨k + 1, _, _, by omega, by go_num, rfl, HS, Own.set ho.out k _, hbl.setCell (by exact hg) _⟩
      case measure => simp [intOf]; omega
    · obtain rfl : k = n := by omega
      obtain ⟨t1, t2, t3⟩ := tinv_end hI.out HN.out
      have hfx := ho.out.frozen k
      have hcx := ho.out.cell k (by rw [hI.out.1]; omega)
      have ho2 := Own.set ho.out k c
      have hb2 := hbl.setCell (p := ⟨g, k, none⟩) (by exact hg) (.int .u64 c)
      have hsl := ho2.sl t2
      rw [t1] at hsl
      have C := cut_any (some ⟨g, 0, none⟩) (k + 1) (k + 1) (cs.set k c) _ hsl (by omega) (Nat.le_refl _)
      have hcu := usedN_le (cs.set k c)
      rw [t1] at hcu
      go_wp2_with fail
      refine C.mono ?_
      rintro e w2 ⟨rfl, rfl⟩
      go_wp2_with fail
      go_ret
      refine ⟨g, usedN (cs.set k c), k + 1, (cs.set k c).take (usedN (cs.set k c)), rfl, hg, by omega, by omega, hsl.take (by omega), usedN_take _ (Nat.le_refl _), ?_, hb2⟩
      rw [num_take_used _ (Nat.le_refl _)]
      exact t3
end Go.Proofs.Ytkfpblonjinfmaa
