/-
  The document's answers: digits over one digit, digits times one digit.
-/
import Derived.Test.YtkfpblonjinfmaaNRef2
import Derived.Test.YtkfpblonjinfmaaOrderH
namespace Go.Proofs.Ytkfpblonjinfmaa
open Go.RowKit Go.Shelf

theorem Hnum_drop_at (zs : List Int) (t : Nat) (h : t < zs.length) : H.num (zs.drop t) = zs.getD t 0 + 4294967296 * H.num (zs.drop (t + 1)) := by
  rw [List.drop_eq_getElem_cons h, H.num, List.getD_eq_getElem?_getD, List.getElem?_eq_getElem h]; rfl
theorem Hnum_set_drop (zs : List Int) (t : Nat) (v : Int) (h : t < zs.length) : H.num ((zs.set t v).drop t) = v + 4294967296 * H.num (zs.drop (t + 1)) := by
  rw [Hnum_drop_at _ _ (by rw [List.length_set]; exact h), List.getD_eq_getElem?_getD, List.getElem?_set_self h, List.drop_set_of_lt (by omega)]; rfl
def RvInv (zs cs : List Int) (b : Int) (t : Nat) (r : Int) : Prop :=
  cs.length = zs.length ∧ H.Limbs cs ∧ H.num (zs.drop t) = H.num (cs.drop t) * b + r ∧ 0 ≤ r ∧ r < b
theorem rv_step {zs cs : List Int} {b : Int} {t : Nat} {r : Int} (hz : H.Limbs zs) (I : RvInv zs cs b (t + 1) r) (h : t < zs.length) :
    RvInv zs (cs.set t ((4294967296 * r + zs.getD t 0) / b)) b t ((4294967296 * r + zs.getD t 0) % b) := by
  obtain ⟨i1, i2, i4, i5, i6⟩ := I
  have b1 := hz.getD t
  have hm := Int.emod_nonneg (4294967296 * r + zs.getD t 0) (b := b) (by omega)
  have hml := Int.emod_lt_of_pos (4294967296 * r + zs.getD t 0) (b := b) (by omega)
  have hd0 : 0 ≤ (4294967296 * r + zs.getD t 0) / b := Int.ediv_nonneg (by omega) (by omega)
  have hd1 : (4294967296 * r + zs.getD t 0) / b < 4294967296 := Int.ediv_lt_of_lt_mul (by omega) (by omega)
  refine ⟨by rw [List.length_set]; exact i1, i2.set t ⟨hd0, hd1⟩, ?_, hm, hml⟩
  have hdm := Int.mul_ediv_add_emod (4294967296 * r + zs.getD t 0) b
  rw [Hnum_set_drop _ _ _ (by omega), Hnum_drop_at _ _ (by omega), i4, Int.add_mul, Int.mul_assoc]
  rw [Int.mul_comm b] at hdm
  omega
theorem rv_end {zs cs : List Int} {b r : Int} (I : RvInv zs cs b 0 r) : H.num cs = H.num zs / b := by
  obtain ⟨i1, i2, i4, i5, i6⟩ := I
  rw [List.drop_zero, List.drop_zero] at i4
  rw [i4, Int.add_comm, Int.add_mul_ediv_right _ _ (by omega), Int.ediv_eq_zero_of_lt i5 i6, Int.zero_add]

theorem rv_whole {zs cs : List Int} {b r : Int} (I : RvInv zs cs b 0 r) : H.num zs = H.num cs * b + r := by
  have := I.2.2.1
  rwa [List.drop_zero, List.drop_zero] at this

set_option maxHeartbeats 1000000 in
theorem rshort_any (a : Option Addr) (n ca : Nat) (D : List Int) (b : Int) (w : World) (ha : Sl w a n D) (LD : H.Limbs D) (h1 : n ≤ 16000000000000) (b0 : 0 < b) (b1 : b < 4294967296) :
    Calls Try.prog 66 #[.slice a n ca, .int .u64 b] w fun e w' =>
      ∃ a' m c ds r, e = .returned (.tuple #[.slice a' m c, .int .u64 r]) ∧ m ≤ c ∧ m ≤ n ∧ Sl w' a' m ds ∧ H.Limbs ds ∧ usedN ds = m ∧ H.num D = H.num ds * b + r ∧ 0 ≤ r ∧ r < b ∧ Below w.heap.size w w' := by
  have hmk := make_row n (by omega)
  have HLD : Hid (D.length = n) := ha.1
  have HTD : Hid (Sl w a n D) := ha
  have gb : (b == 0) = false := by simp; omega
  have I0 : Hid (RvInv D (List.replicate n 0) b n 0) := by
    refine ⟨by simp [HLD.out], H.Limbs.zeros _, ?_, by omega, b0⟩
    have e1 : D.drop n = [] := List.drop_eq_nil_of_le (by rw [HLD.out]; exact Nat.le_refl _)
    have e2 : (List.replicate n (0 : Int)).drop n = [] := List.drop_eq_nil_of_le (by simp)
    rw [e1, e2]; simp [H.num]
  have O0 : Hid (Own (w.alloc (.cells (row (List.replicate n 0)).toArray 64)) w.heap.size (List.replicate n 0)) := heap_alloc_new _ _
  clear ha
  go_enter Try.func66, Try.ntmps66
  go_wp2_with fail
  clear hmk
  have hB1 : Below w.heap.size w (w.alloc (.cells (row (List.replicate n 0)).toArray 64)) := (Below.refl _ _).alloc (Nat.le_refl _) _
  go_loopw [7, 8] (fun rr ii wr => ∃ (k : Nat) (r : Int) (cs : List Int), ii = .int .i64 ((k : Int) - 1) ∧ rr = .int .u64 r ∧ k ≤ n ∧ Hid (RvInv D cs b k r) ∧ Hid (Own wr w.heap.size cs) ∧ Below w.heap.size w wr) (fun _ ii _ => (intOf ii + 1).toNat)
  case atStart => exact ⟨n, 0, _, rfl, rfl, Nat.le_refl _, I0, O0, hB1⟩
  case round =>
    obtain ⟨k, r, cs, rfl, rfl, hk, hI, hO, hbl⟩ := hrel
    by_cases h0 : k = 0
    · subst h0
      have HE : Hid (H.num D = H.num cs * b + r) := rv_whole hI.out
      obtain ⟨i1, i2, i3, i4, i5⟩ := hI.out
      have hsl := hO.out.sl i2.up
      rw [i1, HLD.out] at hsl
      have hu := usedN_le cs
      have hle : usedN cs ≤ n := by have := HLD.out; omega
      clear i1 i3
      go_wp2_with fail
      refine (cutr_any (some ⟨w.heap.size, 0, none⟩) n n cs _ hsl (by omega) (Nat.le_refl _)).mono ?_
      rintro e w2 ⟨rfl, hw⟩
      rw [hw]
      clear hw
      have t2 := hsl.take hle
      go_wp2_with fail
      go_ret2
      exact ⟨_, usedN cs, n, cs.take (usedN cs), r, rfl, hle, hle, t2, i2.take _, usedN_take cs (Nat.le_refl _), by rw [H.num_take_used cs (Nat.le_refl _)]; exact HE.out, i4, i5, hbl⟩
    · obtain ⟨j, rfl⟩ : ∃ j, k = j + 1 := ⟨k - 1, by omega⟩
      have hs := HTD.out.below hbl (Nat.le_refl _)
      obtain ⟨ba, oa, rfl, hc⟩ := hs.2.2 (by omega)
      have hcx := hc j (by omega)
      have hxw := LD.getD j
      have hstep := rv_step LD hI.out (by rw [HLD.out]; omega)
      have hcy := hO.out.cell j (by rw [hI.out.1, HLD.out]; omega)
      have hfy := hO.out.frozen j
      have hr0 := hI.out.2.2.2.1
      have hr1 := hI.out.2.2.2.2
      obtain ⟨x, hx⟩ : ∃ x, D.getD j 0 = x := ⟨_, rfl⟩
      rw [hx] at hcx hxw hstep
      obtain ⟨x1, x2⟩ := hxw
      rw [Int.mul_comm] at hstep
      obtain ⟨y, hy⟩ : ∃ y, r * 4294967296 + x = y := ⟨_, rfl⟩
      rw [hy] at hstep
      have y1 : 0 ≤ y := by omega
      have y2 : y < 18446744073709551616 := by omega
      have r2 : r < 4294967296 := by omega
      have HS : Hid (RvInv D (cs.set j (y / b)) b j (y % b)) := hstep
      have jn : (j : Int) < n := by omega
      rw [show (((j + 1 : Nat) : Int) - 1) = (j : Int) by omega]
      clear hstep hx hs hc h0
      go_wp2_with fail
      go_roundw
      case rel => exact ⟨j, _, _, rfl, rfl, by omega, HS, Own.set hO.out j _, hbl.setCell (Nat.le_refl _) _⟩
      case measure => simp [intOf]

/-- What holds behind so many places of a product with one digit. -/
def TmInv (xs cs : List Int) (q : Int) (n i : Nat) (c : Int) : Prop :=
  cs.length = n ∧ H.Limbs cs ∧ H.num (cs.take i) + c * H.pw i = H.num (xs.take i) * q ∧ 0 ≤ c ∧ c < 4294967296
theorem tm_word {x q c : Int} (hx : 0 ≤ x ∧ x < 4294967296) (hq : 0 ≤ q ∧ q < 4294967296) (hc : 0 ≤ c ∧ c < 4294967296) : 0 ≤ x * q ∧ x * q < 18446744073709551616 ∧ x * q + c ≤ 18446744069414584320 := by
  have h0 : 0 ≤ x * q := Int.mul_nonneg hx.1 hq.1
  have h1 : x * q ≤ 4294967295 * 4294967295 := Int.mul_le_mul (by omega) (by omega) hq.1 (by omega)
  omega
theorem tm_step {xs cs : List Int} {q : Int} {n i : Nat} {c : Int} (hx : H.Limbs xs) (hq : 0 ≤ q ∧ q < 4294967296) (I : TmInv xs cs q n i c) (h : i < n) :
    TmInv xs (cs.set i ((xs.getD i 0 * q + c) % 4294967296)) q n (i + 1) ((xs.getD i 0 * q + c) / 4294967296) := by
  obtain ⟨i1, i2, i3, i4, i5⟩ := I
  have b1 := hx.getD i
  obtain ⟨p1, p2, p3⟩ := tm_word b1 hq ⟨i4, i5⟩
  refine ⟨by rw [List.length_set]; exact i1, i2.set i ⟨by omega, by omega⟩, ?_, by omega, by omega⟩
  rw [H.num_set_take _ _ _ (by omega), H.num_take_succ, H.pw]
  have hc := H.carry_step (v := (xs.getD i 0 * q + c) % 4294967296) (c' := (xs.getD i 0 * q + c) / 4294967296) (p := H.pw i) (s := xs.getD i 0 * q + c) (by omega)
  rw [Int.add_mul] at hc
  have e1 : (H.num (xs.take i) + xs.getD i 0 * H.pw i) * q = H.num (xs.take i) * q + xs.getD i 0 * q * H.pw i := by rw [Int.add_mul, Int.mul_right_comm]
  rw [e1]
  omega
/-- All of the product is there, if it has room. -/
theorem tm_end {xs cs : List Int} {q : Int} {n : Nat} {c : Int} (I : TmInv xs cs q n n c) (hf : H.num xs * q < H.pw n) (hlen : xs.length ≤ n) : H.num cs = H.num xs * q := by
  obtain ⟨i1, i2, i3, i4, i5⟩ := I
  rw [List.take_of_length_le (by omega), List.take_of_length_le hlen] at i3
  have h1 := H.num_nonneg i2
  have hp := H.pw_pos n
  rcases Int.lt_or_le 0 c with h | h
  · have : 1 * H.pw n ≤ c * H.pw n := Int.mul_le_mul_of_nonneg_right (by omega) (Int.le_of_lt hp)
    omega
  · have : c = 0 := by omega
    rw [this] at i3; omega

set_option maxHeartbeats 1000000 in
theorem rdtimes_any (a : Option Addr) (la ca : Nat) (xs : List Int) (q : Int) (n : Nat) (w : World) (ha : Sl w a la xs) (hx : H.Limbs xs) (h1 : n ≤ 16000000000000) (hq : 0 ≤ q ∧ q < 4294967296) (hlen : la ≤ n) (hf : H.num xs * q < H.pw n) :
    Calls Try.prog 82 #[.slice a la ca, .int .u64 q, .int .i64 n] w fun e w' =>
      ∃ ds, e = .returned (.slice (some ⟨w.heap.size, 0, none⟩) n n) ∧ Own w' w.heap.size ds ∧ H.Limbs ds ∧ ds.length = n ∧ H.num ds = H.num xs * q ∧ Below w.heap.size w w' := by
  have hmk := make_row n (by omega)
  have HSL : Hid (Sl w a la xs) := ha
  have hza := ha.1
  have I0 : Hid (TmInv xs (List.replicate n 0) q n 0 0) := ⟨by simp, H.Limbs.zeros _, by simp [H.num], by omega, by omega⟩
  have O0 : Hid (Own (w.alloc (.cells (row (List.replicate n 0)).toArray 64)) w.heap.size (List.replicate n 0)) := heap_alloc_new _ _
  have HF : Hid (H.num xs * q < H.pw n) := hf
  clear ha hf
  go_enter Try.func82, Try.ntmps82
  go_wp2_with fail
  clear hmk
  have hB1 : Below w.heap.size w (w.alloc (.cells (row (List.replicate n 0)).toArray 64)) := (Below.refl _ _).alloc (Nat.le_refl _) _
  go_loopw [8, 9] (fun cc ii wr => ∃ (i : Nat) (c : Int) (cs : List Int), ii = .int .i64 i ∧ cc = .int .u64 c ∧ i ≤ n ∧ Hid (TmInv xs cs q n i c) ∧ Hid (Own wr w.heap.size cs) ∧ Below w.heap.size w wr) (fun _ ii _ => n - (intOf ii).toNat)
  case atStart => exact ⟨0, 0, _, rfl, rfl, by omega, I0, O0, hB1⟩
  case round =>
    obtain ⟨i, c, cs, rfl, rfl, hi, hI, hO, hbl⟩ := hrel
    by_cases hlt : i < n
    · have hstep := tm_step hx hq hI.out hlt
      have D1 := digit_any a la ca xs i wr (HSL.out.below hbl (Nat.le_refl _)) (by omega)
      rw [Int.toNat_natCast] at D1
      have b1 := hx.getD i
      have hcy := hO.out.cell i (by rw [hI.out.1]; exact hlt)
      have hfy := hO.out.frozen i
      have hc0 := hI.out.2.2.2.1
      have hc1 := hI.out.2.2.2.2
      obtain ⟨p1, p2, p3⟩ := tm_word b1 hq ⟨hc0, hc1⟩
      obtain ⟨x, hxx⟩ : ∃ x, xs.getD i 0 = x := ⟨_, rfl⟩
      rw [hxx] at D1 hstep b1 p1 p2 p3
      obtain ⟨p, hp⟩ : ∃ p, x * q = p := ⟨_, rfl⟩
      rw [hp] at p1 p2 p3 hstep
      have m1 : IntKind.u64.wrap (x * q) = p := by rw [hp, IntKind.wrap_u64]; omega
      have HS : Hid (TmInv xs (cs.set i ((p + c) % 4294967296)) q n (i + 1) ((p + c) / 4294967296)) := hstep
      have iN : (i : Int) < n := by omega
      clear hstep hxx
      go_wp2_with fail
      refine D1.mono ?_
      rintro e w2 ⟨rfl, hw2⟩
      rw [hw2]
      clear hw2 D1
      go_wp2_with fail
      go_roundw
      case rel => exact ⟨i + 1, _, _, by go_num, rfl, by omega, HS, Own.set hO.out i _, hbl.setCell (Nat.le_refl _) _⟩
      case measure => simp [intOf]; omega
    · obtain rfl : i = n := by omega
      have HE : Hid (H.num cs = H.num xs * q) := tm_end hI.out HF.out (by omega)
      obtain ⟨i1, i2, -⟩ := hI.out
      have HL : Hid (cs.length = i) := i1
      clear i1
      go_wp2_with fail
      go_ret
      exact ⟨cs, rfl, hO.out, i2, HL.out, HE.out, hbl⟩
end Go.Proofs.Ytkfpblonjinfmaa
