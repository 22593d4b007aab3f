/-
  The document's answer: a list of limbs over a limb.
-/
import Derived.Test.YtkgbhiccjbnldaaRef1
import Derived.Test.YtkgbhiccjbnldaaRef6
namespace Go.Proofs.Ytkgbhiccjbnldaa
open Go.RowKit Go.Shelf

def OvInv (zs cs : List Int) (b : Int) (t : Nat) (r : Int) : Prop :=
  cs.length = zs.length ∧ Limbs cs ∧ num (zs.drop t) = num (cs.drop t) * b + r ∧ 0 ≤ r ∧ r < b
theorem ov_step {zs cs : List Int} {b : Int} {t : Nat} {r : Int} (hz : Limbs zs) (hb : b < 18446744073709551616) (I : OvInv zs cs b (t + 1) r) (h : t < zs.length) :
    OvInv zs (cs.set t ((r * 18446744073709551616 + zs.getD t 0) / b)) b t ((r * 18446744073709551616 + zs.getD t 0) % b) := by
  obtain ⟨i1, i2, i4, i5, i6⟩ := I
  have b1 := hz.getD t
  have hm := Int.emod_nonneg (r * 18446744073709551616 + zs.getD t 0) (b := b) (by omega)
  have hml := Int.emod_lt_of_pos (r * 18446744073709551616 + zs.getD t 0) (b := b) (by omega)
  have hd0 : 0 ≤ (r * 18446744073709551616 + zs.getD t 0) / b := Int.ediv_nonneg (by omega) (by omega)
  have hd1 : (r * 18446744073709551616 + zs.getD t 0) / b < 18446744073709551616 := Int.ediv_lt_of_lt_mul (by omega) (by omega)
  refine ⟨by rw [List.length_set]; exact i1, i2.set t ⟨hd0, hd1⟩, ?_, hm, hml⟩
  have hdm := Int.mul_ediv_add_emod (r * 18446744073709551616 + zs.getD t 0) b
  rw [num_set_drop _ _ _ (by omega), num_drop_at _ _ (by omega), i4, Int.add_mul, Int.mul_assoc]
  rw [Int.mul_comm b] at hdm
  omega

theorem rover_nought (a : Option Addr) (la ca : Nat) (w : World) :
    Calls Try.prog 34 #[.slice a la ca, .int .u64 0] w fun e w' => e = .returned (.tuple #[.slice none 0 0, .int .u64 0, .int .i64 4]) ∧ w' = w := by
  go_enter Try.func34, Try.ntmps34
  go_wp2_with fail
  go_ret3
  exact ⟨rfl, rfl⟩

set_option maxHeartbeats 1000000 in
theorem rover_ok (a : Option Addr) (la ca : Nat) (zs : List Int) (b : Int) (w : World) (ha : Sl w a la zs) (h1 : la ≤ 20000000000000) (hb : Word b) (hb0 : 0 < b) :
    Calls Try.prog 34 #[.slice a la ca, .int .u64 b] w fun e w' =>
      ∃ a' m c cs r, e = .returned (.tuple #[.slice a' m c, .int .u64 r, .int .i64 0]) ∧ m ≤ c ∧ m ≤ la ∧ Sl w' a' m cs ∧ usedN cs = m ∧ num zs = num cs * b + r ∧ 0 ≤ r ∧ r < b ∧ Below w.heap.size w w' := by
  have hz := ha.1
  have hL := ha.2.1
  have hmk := make_row la (by omega)
  have g0 : (b == 0) = false := by simp; omega
  have hb1 := hb.2
  have I0 : Hid (OvInv zs (List.replicate la 0) b la 0) := by
    refine ⟨by simp [hz], Limbs.zeros _, ?_, by omega, hb0⟩
    have e1 : zs.drop la = [] := List.drop_eq_nil_of_le (by omega)
    have e2 : (List.replicate la (0 : Int)).drop la = [] := List.drop_eq_nil_of_le (by simp)
    rw [e1, e2]; simp [num]
  have O0 : Hid (Own (w.alloc (.cells (row (List.replicate la 0)).toArray 26)) w.heap.size (List.replicate la 0)) := heap_alloc_new _ _
  have HSL : Hid (Sl w a la zs) := ha
  clear ha
  go_enter Try.func34, Try.ntmps34
  go_wp2_with fail
  clear hmk
  go_loopw [8, 9] (fun rr ii wr => ∃ (t : Nat) (r : Int) (cs : List Int), ii = .int .i64 ((t : Int) - 1) ∧ rr = .int .u64 r ∧ t ≤ la ∧ Hid (OvInv zs cs b t r) ∧ Hid (Own wr w.heap.size cs) ∧ Below w.heap.size w wr) (fun _ ii _ => (intOf ii + 1).toNat)
  case atStart => exact ⟨la, 0, _, rfl, rfl, Nat.le_refl _, I0, O0, (Below.refl _ _).alloc (Nat.le_refl _) _⟩
  case round =>
    obtain ⟨t, r, cs, rfl, rfl, ht, hI, hO, hbl⟩ := hrel
    by_cases h0 : t = 0
    · subst h0
      obtain ⟨i1, i2, i3, i4, i5⟩ := hI.out
      rw [List.drop_zero, List.drop_zero] at i3
      have hsl := hO.out.sl i2
      rw [i1, hz] at hsl
      have hu := usedN_le cs
      have hle : usedN cs ≤ la := by omega
      clear i1
      go_wp2_with fail
      refine (cutr_any (some ⟨w.heap.size, 0, none⟩) la la cs _ hsl (by omega) (Nat.le_refl _)).mono ?_
      rintro e w2 ⟨rfl, rfl⟩
      go_wp2_with fail
      go_ret3
      exact ⟨_, usedN cs, la, cs.take (usedN cs), r, rfl, hle, hle, hsl.take hle, usedN_take cs (Nat.le_refl _), by rw [num_take_used cs (Nat.le_refl _)]; exact i3, i4, i5, hbl⟩
    · obtain ⟨s, rfl⟩ : ∃ s, t = s + 1 := ⟨t - 1, by omega⟩
      have hs := HSL.out.below hbl (Nat.le_refl _)
      obtain ⟨ba, oa, rfl, hc⟩ := hs.2.2 (by omega)
      have hcx := hc s (by omega)
      have hxw := hL.getD s
      have hstep := ov_step hL hb1 hI.out (by omega)
      have hcy := hO.out.cell s (by rw [hI.out.1]; omega)
      have hfy := hO.out.frozen s
      have hr0 := hI.out.2.2.2.1
      have hr1 := hI.out.2.2.2.2
      obtain ⟨x, hx⟩ : ∃ x, zs.getD s 0 = x := ⟨_, rfl⟩
      rw [hx] at hcx hxw hstep
      have ST := step_any r x b ⟨hr0, by omega⟩ hxw hb hr1 wr
      obtain ⟨q2, hq2⟩ : ∃ z, (r * 18446744073709551616 + x) / b = z := ⟨_, rfl⟩
      obtain ⟨r2, hr2⟩ : ∃ z, (r * 18446744073709551616 + x) % b = z := ⟨_, rfl⟩
      rw [hq2, hr2] at hstep ST
      have HS : Hid (OvInv zs (cs.set s q2) b s r2) := hstep
      have hsl : (s : Int) < la := by omega
      rw [show (((s + 1 : Nat) : Int) - 1) = (s : Int) by omega]
      clear hstep hx hq2 hr2 hs hc h0
      go_wp2_with fail
      refine ST.mono ?_
      rintro e w2 ⟨rfl, hw⟩
      rw [hw]
      clear hw
      go_wp2_with fail
      go_roundw
      case rel => exact ⟨s, _, _, rfl, rfl, by omega, HS, Own.set hO.out s _, hbl.setCell (Nat.le_refl _) _⟩
      case measure => simp [intOf]
end Go.Proofs.Ytkgbhiccjbnldaa
