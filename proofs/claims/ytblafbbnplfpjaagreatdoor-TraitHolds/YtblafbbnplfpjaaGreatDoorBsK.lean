import Derived.Test.YtblafbbnplfpjaaGreatDoorMgAl
import Derived.Test.YtblafbbnplfpjaaGreatDoorMgAd
namespace Go.Proofs.YtblafbbnplfpjaaGreatDoor
open Go.RowKit Go.Shelf

theorem Hnum_drop_at (zs : List Int) (t : Nat) (h : t < zs.length) : H.num (zs.drop t) = zs.getD t 0 + 4294967296 * H.num (zs.drop (t + 1)) := by
  rw [List.drop_eq_getElem_cons h, H.num, List.getD_eq_getElem?_getD, List.getElem?_eq_getElem h]; rfl
theorem Hnum_set_drop (zs : List Int) (t : Nat) (v : Int) (h : t < zs.length) : H.num ((zs.set t v).drop t) = v + 4294967296 * H.num (zs.drop (t + 1)) := by
  rw [Hnum_drop_at _ _ (by rw [List.length_set]; exact h), List.getD_eq_getElem?_getD, List.getElem?_set_self h, List.drop_set_of_lt (by omega)]; rfl
def RvInv (zs cs : List Int) (b : Int) (t : Nat) (r : Int) : Prop :=
  cs.length = zs.length ∧ H.Limbs cs ∧ H.num (zs.drop t) = H.num (cs.drop t) * b + r ∧ 0 ≤ r ∧ r < b
theorem rv_step {zs cs : List Int} {b : Int} {t : Nat} {r : Int} (hz : H.Limbs zs) (I : RvInv zs cs b (t + 1) r) (h : t < zs.length) :
    RvInv zs (cs.set t ((4294967296 * r + zs.getD t 0) / b)) b t ((4294967296 * r + zs.getD t 0) % b) := by
  obtain ⟨i1, i2, i4, i5, i6⟩ := I
  have b1 := hz.getD t
  have hm := Int.emod_nonneg (4294967296 * r + zs.getD t 0) (b := b) (by omega)
  have hml := Int.emod_lt_of_pos (4294967296 * r + zs.getD t 0) (b := b) (by omega)
  have hd0 : 0 ≤ (4294967296 * r + zs.getD t 0) / b := Int.ediv_nonneg (by omega) (by omega)
  have hd1 : (4294967296 * r + zs.getD t 0) / b < 4294967296 := Int.ediv_lt_of_lt_mul (by omega) (by omega)
  refine ⟨by rw [List.length_set]; exact i1, i2.set t ⟨hd0, hd1⟩, ?_, hm, hml⟩
  have hdm := Int.mul_ediv_add_emod (4294967296 * r + zs.getD t 0) b
  rw [Hnum_set_drop _ _ _ (by omega), Hnum_drop_at _ _ (by omega), i4, Int.add_mul, Int.mul_assoc]
  rw [Int.mul_comm b] at hdm
  omega
theorem rv_whole {zs cs : List Int} {b r : Int} (I : RvInv zs cs b 0 r) : H.num zs = H.num cs * b + r := by
  have := I.2.2.1
  rwa [List.drop_zero, List.drop_zero] at this

set_option maxHeartbeats 1000000 in
theorem rshort_any (a : Option Addr) (n ca : Nat) (D : List Int) (b : Int) (w : World) (ha : Sl w a n D) (LD : H.Limbs D) (h1 : n ≤ 16000000000000) (b0 : 0 < b) (b1 : b < 4294967296) :
    Calls Tryz.prog 145 #[.slice a n ca, .int .u64 b] w fun e w' =>
      ∃ a' m c ds r, e = .returned (.tuple #[.slice a' m c, .int .u64 r]) ∧ m ≤ c ∧ m ≤ n ∧ Sl w' a' m ds ∧ H.Limbs ds ∧ usedN ds = m ∧ H.num D = H.num ds * b + r ∧ 0 ≤ r ∧ r < b ∧ Below w.heap.size w w' := by
  have hmk := make_row n (by omega)
  have HLD : Hid (D.length = n) := ha.1
  have HTD : Hid (Sl w a n D) := ha
  have gb : (b == 0) = false := by simp; omega
  have I0 : Hid (RvInv D (List.replicate n 0) b n 0) := by
    refine ⟨by simp [HLD.out], H.Limbs.zeros _, ?_, by omega, b0⟩
    have e1 : D.drop n = [] := List.drop_eq_nil_of_le (by rw [HLD.out]; exact Nat.le_refl _)
    have e2 : (List.replicate n (0 : Int)).drop n = [] := List.drop_eq_nil_of_le (by simp)
    rw [e1, e2]; simp [H.num]
  have O0 : Hid (Own (w.alloc (.cells (row (List.replicate n 0)).toArray 124)) w.heap.size (List.replicate n 0)) := heap_alloc_new _ _
  clear ha
  go_enter Tryz.func145, Tryz.ntmps145
  go_wp2_with fail
  clear hmk
  have hB1 : Below w.heap.size w (w.alloc (.cells (row (List.replicate n 0)).toArray 124)) := (Below.refl _ _).alloc (Nat.le_refl _) _
  go_loopw [7, 8] (fun rr ii wr => ∃ (k : Nat) (r : Int) (cs : List Int), ii = .int .i64 ((k : Int) - 1) ∧ rr = .int .u64 r ∧ k ≤ n ∧ Hid (RvInv D cs b k r) ∧ Hid (Own wr w.heap.size cs) ∧ Below w.heap.size w wr) (fun _ ii _ => (intOf ii + 1).toNat)
  case atStart => exact ⟨n, 0, _, rfl, rfl, Nat.le_refl _, I0, O0, hB1⟩
  case round =>
    obtain ⟨k, r, cs, rfl, rfl, hk, hI, hO, hbl⟩ := hrel
    by_cases h0 : k = 0
    · subst h0
      have HE : Hid (H.num D = H.num cs * b + r) := rv_whole hI.out
      obtain ⟨i1, i2, i3, i4, i5⟩ := hI.out
      have hsl := hO.out.sl i2.up
      rw [i1, HLD.out] at hsl
      have hu := usedN_le cs
      have hle : usedN cs ≤ n := by have := HLD.out; omega
      clear i1 i3
      go_wp2_with fail
      refine (cutr_any (some ⟨w.heap.size, 0, none⟩) n n cs _ hsl (by omega) (Nat.le_refl _)).mono ?_
      rintro e w2 ⟨rfl, hw⟩
      rw [hw]
      clear hw
      have t2 := hsl.take hle
      go_wp2_with fail
      go_ret2
      exact ⟨_, usedN cs, n, cs.take (usedN cs), r, rfl, hle, hle, t2, i2.take _, usedN_take cs (Nat.le_refl _), by rw [H.num_take_used cs (Nat.le_refl _)]; exact HE.out, i4, i5, hbl⟩
    · obtain ⟨j, rfl⟩ : ∃ j, k = j + 1 := ⟨k - 1, by omega⟩
      have hs := HTD.out.below hbl (Nat.le_refl _)
      obtain ⟨ba, oa, rfl, hc⟩ := hs.2.2 (by omega)
      have hcx := hc j (by omega)
      have hxw := LD.getD j
      have hstep := rv_step LD hI.out (by rw [HLD.out]; omega)
      have hcy := hO.out.cell j (by rw [hI.out.1, HLD.out]; omega)
      have hfy := hO.out.frozen j
      have hr0 := hI.out.2.2.2.1
      have hr1 := hI.out.2.2.2.2
      obtain ⟨x, hx⟩ : ∃ x, D.getD j 0 = x := ⟨_, rfl⟩
      rw [hx] at hcx hxw hstep
      obtain ⟨x1, x2⟩ := hxw
      rw [Int.mul_comm] at hstep
      obtain ⟨y, hy⟩ : ∃ y, r * 4294967296 + x = y := ⟨_, rfl⟩
      rw [hy] at hstep
      have y1 : 0 ≤ y := by omega
      have y2 : y < 18446744073709551616 := by omega
      have r2 : r < 4294967296 := by omega
      have HS : Hid (RvInv D (cs.set j (y / b)) b j (y % b)) := hstep
      have jn : (j : Int) < n := by omega
      rw [show (((j + 1 : Nat) : Int) - 1) = (j : Int) by omega]
      clear hstep hx hs hc h0
      go_wp2_with fail
      go_roundw
      case rel => exact ⟨j, _, _, rfl, rfl, by omega, HS, Own.set hO.out j _, hbl.setCell (Nat.le_refl _) _⟩
      case measure => simp [intOf]

def TmInv (xs cs : List Int) (q : Int) (n i : Nat) (c : Int) : Prop :=
  cs.length = n ∧ H.Limbs cs ∧ H.num (cs.take i) + c * H.pw i = H.num (xs.take i) * q ∧ 0 ≤ c ∧ c < 4294967296
theorem tm_word {x q c : Int} (hx : 0 ≤ x ∧ x < 4294967296) (hq : 0 ≤ q ∧ q < 4294967296) (hc : 0 ≤ c ∧ c < 4294967296) : 0 ≤ x * q ∧ x * q < 18446744073709551616 ∧ x * q + c ≤ 18446744069414584320 := by
  have h0 : 0 ≤ x * q := Int.mul_nonneg hx.1 hq.1
  have h1 : x * q ≤ 4294967295 * 4294967295 := Int.mul_le_mul (by omega) (by omega) hq.1 (by omega)
  omega
theorem tm_step {xs cs : List Int} {q : Int} {n i : Nat} {c : Int} (hx : H.Limbs xs) (hq : 0 ≤ q ∧ q < 4294967296) (I : TmInv xs cs q n i c) (h : i < n) :
    TmInv xs (cs.set i ((xs.getD i 0 * q + c) % 4294967296)) q n (i + 1) ((xs.getD i 0 * q + c) / 4294967296) := by
  obtain ⟨i1, i2, i3, i4, i5⟩ := I
  have b1 := hx.getD i
  obtain ⟨p1, p2, p3⟩ := tm_word b1 hq ⟨i4, i5⟩
  refine ⟨by rw [List.length_set]; exact i1, i2.set i ⟨by omega, by omega⟩, ?_, by omega, by omega⟩
  rw [H.num_set_take _ _ _ (by omega), H.num_take_succ, H.pw]
  have hc := H.carry_step (v := (xs.getD i 0 * q + c) % 4294967296) (c' := (xs.getD i 0 * q + c) / 4294967296) (p := H.pw i) (s := xs.getD i 0 * q + c) (by omega)
  rw [Int.add_mul] at hc
  have e1 : (H.num (xs.take i) + xs.getD i 0 * H.pw i) * q = H.num (xs.take i) * q + xs.getD i 0 * q * H.pw i := by rw [Int.add_mul, Int.mul_right_comm]
  rw [e1]
  omega
theorem tm_end {xs cs : List Int} {q : Int} {n : Nat} {c : Int} (I : TmInv xs cs q n n c) (hf : H.num xs * q < H.pw n) (hlen : xs.length ≤ n) : H.num cs = H.num xs * q := by
  obtain ⟨i1, i2, i3, i4, i5⟩ := I
  rw [List.take_of_length_le (by omega), List.take_of_length_le hlen] at i3
  have h1 := H.num_nonneg i2
  have hp := H.pw_pos n
  rcases Int.lt_or_le 0 c with h | h
  · have : 1 * H.pw n ≤ c * H.pw n := Int.mul_le_mul_of_nonneg_right (by omega) (Int.le_of_lt hp)
    omega
  · have : c = 0 := by omega
    rw [this] at i3; omega

set_option maxHeartbeats 1000000 in
theorem rdtimes_any (a : Option Addr) (la ca : Nat) (xs : List Int) (q : Int) (n : Nat) (w : World) (ha : Sl w a la xs) (hx : H.Limbs xs) (h1 : n ≤ 16000000000000) (hq : 0 ≤ q ∧ q < 4294967296) (hlen : la ≤ n) (hf : H.num xs * q < H.pw n) :
    Calls Tryz.prog 169 #[.slice a la ca, .int .u64 q, .int .i64 n] w fun e w' =>
      ∃ ds, e = .returned (.slice (some ⟨w.heap.size, 0, none⟩) n n) ∧ Own w' w.heap.size ds ∧ H.Limbs ds ∧ ds.length = n ∧ H.num ds = H.num xs * q ∧ Below w.heap.size w w' := by
  have hmk := make_row n (by omega)
  have HSL : Hid (Sl w a la xs) := ha
  have hza := ha.1
  have I0 : Hid (TmInv xs (List.replicate n 0) q n 0 0) := ⟨by simp, H.Limbs.zeros _, by simp [H.num], by omega, by omega⟩
  have O0 : Hid (Own (w.alloc (.cells (row (List.replicate n 0)).toArray 124)) w.heap.size (List.replicate n 0)) := heap_alloc_new _ _
  have HF : Hid (H.num xs * q < H.pw n) := hf
  clear ha hf
  go_enter Tryz.func169, Tryz.ntmps169
  go_wp2_with fail
  clear hmk
  have hB1 : Below w.heap.size w (w.alloc (.cells (row (List.replicate n 0)).toArray 124)) := (Below.refl _ _).alloc (Nat.le_refl _) _
  go_loopw [8, 9] (fun cc ii wr => ∃ (i : Nat) (c : Int) (cs : List Int), ii = .int .i64 i ∧ cc = .int .u64 c ∧ i ≤ n ∧ Hid (TmInv xs cs q n i c) ∧ Hid (Own wr w.heap.size cs) ∧ Below w.heap.size w wr) (fun _ ii _ => n - (intOf ii).toNat)
  case atStart => exact ⟨0, 0, _, rfl, rfl, by omega, I0, O0, hB1⟩
  case round =>
    obtain ⟨i, c, cs, rfl, rfl, hi, hI, hO, hbl⟩ := hrel
    by_cases hlt : i < n
    · have hstep := tm_step hx hq hI.out hlt
      have D1 := digit_any a la ca xs i wr (HSL.out.below hbl (Nat.le_refl _)) (by omega)
      rw [Int.toNat_natCast] at D1
      have b1 := hx.getD i
      have hcy := hO.out.cell i (by rw [hI.out.1]; exact hlt)
      have hfy := hO.out.frozen i
      have hc0 := hI.out.2.2.2.1
      have hc1 := hI.out.2.2.2.2
      obtain ⟨p1, p2, p3⟩ := tm_word b1 hq ⟨hc0, hc1⟩
      obtain ⟨x, hxx⟩ : ∃ x, xs.getD i 0 = x := ⟨_, rfl⟩
      rw [hxx] at D1 hstep b1 p1 p2 p3
      obtain ⟨p, hp⟩ : ∃ p, x * q = p := ⟨_, rfl⟩
      rw [hp] at p1 p2 p3 hstep
      have m1 : IntKind.u64.wrap (x * q) = p := by rw [hp, IntKind.wrap_u64]; omega
      have HS : Hid (TmInv xs (cs.set i ((p + c) % 4294967296)) q n (i + 1) ((p + c) / 4294967296)) := hstep
      have iN : (i : Int) < n := by omega
      clear hstep hxx
      go_wp2_with fail
      refine D1.mono ?_
      rintro e w2 ⟨rfl, hw2⟩
      rw [hw2]
      clear hw2 D1
      go_wp2_with fail
      go_roundw
      case rel => exact ⟨i + 1, _, _, by go_num, rfl, by omega, HS, Own.set hO.out i _, hbl.setCell (Nat.le_refl _) _⟩
      case measure => simp [intOf]; omega
    · obtain rfl : i = n := by omega
      have HE : Hid (H.num cs = H.num xs * q) := tm_end hI.out HF.out (by omega)
      obtain ⟨i1, i2, -⟩ := hI.out
      have HL : Hid (cs.length = i) := i1
      clear i1
      go_wp2_with fail
      go_ret
      exact ⟨cs, rfl, hO.out, i2, HL.out, HE.out, hbl⟩
end Go.Proofs.YtblafbbnplfpjaaGreatDoor

namespace Go.Proofs.YtblafbbnplfpjaaGreatDoor
open Go.RowKit Go.Shelf

structure Near (g : Nat) (w w' : World) : Prop where
  bel : Below g w w'
  oth : ∀ k, k < w.heap.size → k ≠ g → w'.heap[k]? = w.heap[k]?
theorem Near.refl (g : Nat) (w : World) : Near g w w := ⟨Below.refl _ _, fun _ _ _ => rfl⟩
theorem Near.trans {g : Nat} {a b c : World} (h : Near g a b) (k : Near g b c) : Near g a c :=
  ⟨h.bel.trans k.bel, fun i hi hg => (k.oth i (Nat.lt_of_lt_of_le hi h.bel.size) hg).trans (h.oth i hi hg)⟩
theorem Near.of {g : Nat} {w w' : World} (b : Below w.heap.size w w') (hg : g ≤ w.heap.size) : Near g w w' := ⟨b.mono hg, fun k hk _ => b.block k hk⟩
theorem Near.set {g : Nat} {a w : World} (h : Near g a w) (i : Nat) (v : Value) : Near g a (w.setCell ⟨g, i, none⟩ v) :=
  ⟨h.bel.setCell (p := ⟨g, i, none⟩) (Nat.le_refl _) v, fun k hk hg => (Below.heap_setCell _ _ _ _ hg).trans (h.oth k hk hg)⟩
theorem Near.drewN {g : Nat} {a w : World} (h : Near g a w) (n : Nat) : Near g a (w.drewN n) := ⟨below_drewN h.bel n, h.oth⟩
theorem Own.near {g b : Nat} {w w' : World} {cs : List Int} (h : Own w b cs) (o : Near g w w') (hne : b ≠ g) : Own w' b cs := by
  have hlt : b < w.heap.size := by
    unfold Own at h
    rcases Nat.lt_or_ge b w.heap.size with h' | h'
    · exact h'
    · rw [Array.getElem?_eq_none h'] at h; cases h
  unfold Own at *
  rw [o.oth b hlt hne]; exact h
theorem Sx.near {g : Nat} {w w' : World} {a : Option Addr} {len : Nat} {zs : List Int} (h : Sx g w a len zs) (o : Near g w w') : Sx g w' a len zs := by
  have hlt := fun h0 p hp => h.1.lt h0 (p := p) hp
  obtain ⟨⟨h1, h2, h3⟩, h4⟩ := h
  refine ⟨⟨h1, h2, fun h0 => ?_⟩, h4⟩
  obtain ⟨b, off, rfl, hc⟩ := h3 h0
  refine ⟨b, off, rfl, fun i hi => ?_⟩
  rw [← hc i hi]
  exact World.cell?_of_block (w := w) (o.oth b (hlt h0 _ rfl) (h4 h0 _ rfl))

namespace H
theorem num_seg {us : List Int} (hL : Limbs us) {a n : Nat} (hlen : a + n + 1 ≤ us.length) (hN : num us < pw (a + n + 1)) : num us = num (us.take a) + num ((us.drop a).take (n + 1)) * pw a := by
  have e1 := num_take_drop us a (by omega)
  have e2 := num_take_drop (us.drop a) (n + 1) (by rw [List.length_drop]; omega)
  have h0 := num_nonneg (hL.take a)
  have h1 := num_nonneg ((hL.drop a).take (n + 1))
  have h2 := num_nonneg ((hL.drop a).drop (n + 1))
  have hp := pw_pos a
  have hq := pw_pos (n + 1)
  have e3 : pw (a + n + 1) = pw (n + 1) * pw a := by rw [show a + n + 1 = n + 1 + a by omega, pw_add]
  rcases Int.lt_or_le 0 (num ((us.drop a).drop (n + 1))) with h | h
  · exfalso
    have h3 : 1 * pw (n + 1) ≤ num ((us.drop a).drop (n + 1)) * pw (n + 1) := Int.mul_le_mul_of_nonneg_right (by omega) (Int.le_of_lt hq)
    have h4 : (num ((us.drop a).take (n + 1)) + num ((us.drop a).drop (n + 1)) * pw (n + 1)) * pw a ≥ pw (n + 1) * pw a := Int.mul_le_mul_of_nonneg_right (by omega) (Int.le_of_lt hp)
    rw [← e2] at h4
    omega
  · have h5 : num ((us.drop a).drop (n + 1)) = 0 := by omega
    rw [h5, Int.zero_mul, Int.add_zero] at e2
    rw [e1, e2]
end H
def LsInv (us ps ds : List Int) (a i : Nat) (c : Int) : Prop :=
  ds.length = us.length ∧ H.Limbs ds ∧ (∀ j, a + i ≤ j → ds.getD j 0 = us.getD j 0) ∧ H.num ds - c * H.pw (a + i) = H.num us - H.num (ps.take i) * H.pw a ∧ 0 ≤ c ∧ c ≤ 1
theorem ls_start {us ps : List Int} {a : Nat} (h : H.Limbs us) : LsInv us ps us a 0 0 := ⟨rfl, h, fun _ _ => rfl, by simp [H.num], by omega, by omega⟩
theorem ls_ring {N N0 T v x p c c' po pi : Int} (hd : v - 4294967296 * c' = x - p - c) (i4 : N - c * (po * pi) = N0 - T * po) : N + (v - x) * (po * pi) - c' * (4294967296 * (po * pi)) = N0 - (T + p * pi) * po := by grind
theorem ls_step {us ps ds : List Int} {a i : Nat} {c : Int} (hp : H.Limbs ps) (I : LsInv us ps ds a i c) (h : a + i < us.length) :
    LsInv us ps (ds.set (a + i) ((4294967296 + us.getD (a + i) 0 - ps.getD i 0 - c) % 4294967296)) a (i + 1) (1 - (4294967296 + us.getD (a + i) 0 - ps.getD i 0 - c) / 4294967296) := by
  obtain ⟨i1, i2, i3, i4, i5, i6⟩ := I
  have b1 := i2.getD (a + i); have b2 := hp.getD i
  rw [i3 (a + i) (Nat.le_refl _)] at b1
  refine ⟨by rw [List.length_set]; exact i1, i2.set _ ⟨by omega, by omega⟩, fun j hj => ?_, ?_, by omega, by omega⟩
  · rw [List.getD_eq_getElem?_getD, List.getElem?_set_ne (by omega), ← List.getD_eq_getElem?_getD]; exact i3 j (by omega)
  · rw [H.num_set _ _ _ (by omega), i3 (a + i) (Nat.le_refl _), H.num_take_succ, show a + (i + 1) = a + i + 1 by omega, H.pw]
    have e : H.pw (a + i) = H.pw a * H.pw i := H.pw_add a i
    rw [e] at i4 ⊢
    exact ls_ring (by omega) i4
theorem ls_end {us ps ds : List Int} {a n : Nat} {c : Int} (hL : H.Limbs us) (hN : H.num us < H.pw (a + n + 1)) (hps : ps.length = n + 1) (I : LsInv us ps ds a (n + 1) c) (hle : H.num ps * H.pw a ≤ H.num us) : H.num ds = H.num us - H.num ps * H.pw a := by
  obtain ⟨i1, i2, i3, i4, i5, i6⟩ := I
  rw [List.take_of_length_le (by omega), show a + (n + 1) = a + n + 1 by omega] at i4
  have : c = 0 ∨ c = 1 := by omega
  rcases this with rfl | rfl
  · simpa using i4
  · exfalso
    -- the digits above are as they were, and were noughts
    have hz : ∀ j, a + n + 1 ≤ j → ds.getD j 0 = 0 := by
      intro j hj
      rw [i3 j (by omega)]
      rcases Nat.lt_or_ge j (usedN us) with h | h
      · exfalso
        have h1 := H.num_ge_used hL (show 0 < usedN us by omega)
        have h2 := H.pw_mono (show a + n + 1 ≤ usedN us - 1 by omega)
        omega
      · exact usedN_beyond us j h
    have hu : usedN ds ≤ a + n + 1 := by
      rcases Nat.lt_or_ge (a + n + 1) (usedN ds) with h | h
      · have := usedN_top ds (by omega)
        exact absurd (hz _ (by omega)) this
      · exact h
    have h3 := H.num_lt_used i2
    have h4 := H.pw_mono hu
    rw [Int.one_mul] at i4
    omega
theorem seg_beyond {us ps : List Int} {a n : Nat} (hps : ps.length = n + 1) (j : Nat) (hj : n + 1 ≤ j) : ps.getD j 0 = ((us.drop a).take (n + 1)).getD j 0 := by
  rw [List.getD_eq_getElem?_getD, List.getElem?_eq_none (by omega), List.getD_eq_getElem?_getD, List.getElem?_eq_none (by rw [List.length_take]; omega)]
theorem seg_lt {us ps : List Int} {a n k : Nat} (hL : H.Limbs us) (hp : H.Limbs ps) (hps : ps.length = n + 1) (hk : k < n + 1) (h : ∀ j, k < j → j < n + 1 → ps.getD j 0 = us.getD (a + j) 0) (hlt : ps.getD k 0 < us.getD (a + k) 0) : H.num ps < H.num ((us.drop a).take (n + 1)) := by
  refine H.num_lt_at (t := k) hp ((hL.drop a).take _) (fun j hj => ?_) (by rw [getD_seg _ _ _ _ hk]; exact hlt)
  rcases Nat.lt_or_ge j (n + 1) with h' | h'
  · rw [getD_seg _ _ _ _ h']; exact h j hj h'
  · exact seg_beyond hps j h'
theorem seg_gt {us ps : List Int} {a n k : Nat} (hL : H.Limbs us) (hp : H.Limbs ps) (hps : ps.length = n + 1) (hk : k < n + 1) (h : ∀ j, k < j → j < n + 1 → ps.getD j 0 = us.getD (a + j) 0) (hlt : us.getD (a + k) 0 < ps.getD k 0) : H.num ((us.drop a).take (n + 1)) < H.num ps := by
  refine H.num_lt_at (t := k) ((hL.drop a).take _) hp (fun j hj => ?_) (by rw [getD_seg _ _ _ _ hk]; exact hlt)
  rcases Nat.lt_or_ge j (n + 1) with h' | h'
  · rw [getD_seg _ _ _ _ h']; exact (h j hj h').symm
  · exact (seg_beyond hps j h').symm
theorem seg_eq {us ps : List Int} {a n : Nat} (hps : ps.length = n + 1) (h : ∀ j, j < n + 1 → ps.getD j 0 = us.getD (a + j) 0) : H.num ps = H.num ((us.drop a).take (n + 1)) := by
  refine H.num_eq_of fun j => ?_
  rcases Nat.lt_or_ge j (n + 1) with h' | h'
  · rw [getD_seg _ _ _ _ h']; exact h j h'
  · exact seg_beyond hps j h'
theorem seg_le {us : List Int} {a n : Nat} {T : Int} (hL : H.Limbs us) (hlen : a + n + 1 ≤ us.length) (hN : H.num us < H.pw (a + n + 1)) (h : T ≤ H.num ((us.drop a).take (n + 1))) : T * H.pw a ≤ H.num us := by
  have e := H.num_seg hL hlen hN
  have h0 := H.num_nonneg (hL.take a)
  have h1 : T * H.pw a ≤ H.num ((us.drop a).take (n + 1)) * H.pw a := Int.mul_le_mul_of_nonneg_right h (Int.le_of_lt (H.pw_pos a))
  omega
theorem seg_above {us : List Int} {a n : Nat} {T : Int} (hL : H.Limbs us) (hlen : a + n + 1 ≤ us.length) (hN : H.num us < H.pw (a + n + 1)) (h : H.num ((us.drop a).take (n + 1)) < T) : H.num us < T * H.pw a := by
  have e := H.num_seg hL hlen hN
  have h0 := H.num_lt (hL.take a)
  rw [List.length_take, Nat.min_eq_left (by omega)] at h0
  have h1 : (H.num ((us.drop a).take (n + 1)) + 1) * H.pw a ≤ T * H.pw a := Int.mul_le_mul_of_nonneg_right (by omega) (Int.le_of_lt (H.pw_pos a))
  rw [Int.add_mul, Int.one_mul] at h1
  omega
theorem mul_digit {vs : List Int} {q : Int} {n : Nat} (hv : H.Limbs vs) (hl : vs.length = n) (hq : 0 ≤ q ∧ q < 4294967296) : H.num vs * q < H.pw (n + 1) := by
  have h0 := H.num_nonneg hv
  have h1 := H.num_lt hv
  rw [hl] at h1
  have hp := H.pw_pos n
  have h2 : H.num vs * q ≤ (H.pw n - 1) * 4294967295 := Int.mul_le_mul (by omega) (by omega) hq.1 (by omega)
  rw [H.pw]
  have e : (H.pw n - 1) * 4294967295 = H.pw n * 4294967295 - 4294967295 := by rw [Int.sub_mul, Int.one_mul]
  rw [e] at h2
  omega
end Go.Proofs.YtblafbbnplfpjaaGreatDoor

namespace Go.Proofs.YtblafbbnplfpjaaGreatDoor
open Go.RowKit Go.Shelf

theorem Own.far {w : World} {g b : Nat} {cs : List Int} (h : Own w b cs) (hne : b ≠ g) (i : Nat) (v : Value) : Own (w.setCell ⟨g, i, none⟩ v) b cs := by
  unfold Own at *
  rw [Below.heap_setCell _ _ _ _ hne]; exact h

set_option maxHeartbeats 2000000 in
theorem less_no (g m cu a : Nat) (us : List Int) (va : Option Addr) (n cv : Nat) (vs : List Int) (q : Int) (w : World) (ho : Own w g us) (hL : H.Limbs us) (hm : us.length = m) (hv : Sx g w va n vs) (hvL : H.Limbs vs) (hq : 0 ≤ q ∧ q < 4294967296) (hlen : a + n + 1 ≤ m) (hb : m ≤ 8000000000000) (hN : H.num us < H.pw (a + n + 1)) (hcase : H.num us < H.num vs * q * H.pw a) :
    Calls Tryz.prog 170 #[.slice (some ⟨g, 0, none⟩) m cu, .int .i64 a, .slice va n cv, .int .u64 q] w fun e w' => e = .returned (.bool false) ∧ Own w' g us ∧ Below w.heap.size w w' := by
  have hg : g < w.heap.size := by
    unfold Own at ho
    rcases Nat.lt_or_ge g w.heap.size with h' | h'
    · exact h'
    · rw [Array.getElem?_eq_none h'] at ho; cases ho
  have hvl := hv.1.1
  have TT := rdtimes_any va n cv vs q (n + 1) w hv.1 hvL (by omega) hq (by omega) (mul_digit hvL hvl hq)
  rw [show ((n + 1 : Nat) : Int) = (n : Int) + 1 by omega] at TT
  have HO : Hid (Own w g us) := ho
  have HN : Hid (H.num us < H.pw (a + n + 1)) := hN
  have HKS : Hid (H.num us < H.num vs * q * H.pw a) := hcase
  have HM : Hid (us.length = m) := hm
  have HVS : Hid (Sx g w va n vs) := hv
  have hlen2 : (a : Int) + n < m := by omega
  clear ho hN hcase hm hv
  go_enter Tryz.func170, Tryz.ntmps170
  go_wp2_with fail
  refine TT.mono ?_
  rintro e w1 ⟨ps, rfl, hop, hpL, hpl, hpn, b1⟩
  clear TT
  have HO1 : Hid (Own w1 g us) := (b1.block g hg).trans HO.out
  have HOP : Hid (Own w1 w.heap.size ps) := hop
  have HPN : Hid (H.num ps = H.num vs * q) := hpn
  have HPL : Hid (ps.length = n + 1) := hpl
  have hgp : g ≠ w.heap.size := by omega
  clear hpn hpl hop
  go_wp2_with fail
  go_loopw [10] (fun i wr => ∃ t : Nat, t ≤ n + 1 ∧ i = .int .i64 ((t : Int) - 1) ∧ Hid (∀ j, t ≤ j → j < n + 1 → ps.getD j 0 = us.getD (a + j) 0) ∧ ∃ d, wr = w1.drewN d) (fun i _ => (intOf i + 1).toNat)
  case atStart => exact ⟨n + 1, Nat.le_refl _, by rw [show (((n + 1 : Nat) : Int) - 1) = (n : Int) by omega], fun j h1 h2 => absurd h1 (by omega), 0, rfl⟩
  case round =>
    obtain ⟨t, ht, rfl, hI, d, rfl⟩ := hrel
    by_cases h0 : t = 0
    · subst h0
      have hseq := seg_eq (us := us) (a := a) HPL.out (fun j hj => hI.out j (by omega) hj)
      exfalso
      have h1 := seg_le hL (by rw [HM.out]; exact hlen) HN.out (Int.le_of_eq hseq)
      rw [HPN.out] at h1
      have h2 := HKS.out
      omega
    · obtain ⟨k, rfl⟩ : ∃ k, t = k + 1 := ⟨t - 1, by omega⟩
      have hcp := HOP.out.cell k (by rw [HPL.out]; omega)
      have hcx := HO1.out.cell (a + k) (by rw [HM.out]; omega)
      have m0 : IntKind.i64.wrap ((a : Int) + k) = a + k := by rw [IntKind.wrap_i64]; omega
      have m4 : ((a : Int) + k).toNat = a + k := by omega
      have m5 : (a : Int) + k < m := by omega
      have m6 : (k : Int) < n + 1 := by omega
      obtain ⟨p, hp⟩ : ∃ p, ps.getD k 0 = p := ⟨_, rfl⟩
      obtain ⟨x, hx⟩ : ∃ x, us.getD (a + k) 0 = x := ⟨_, rfl⟩
      rw [hp] at hcp
      rw [hx] at hcx
      have HP : Hid (ps.getD k 0 = p) := hp
      have HX : Hid (us.getD (a + k) 0 = x) := hx
      have HJ : Hid (∀ j, k < j → j < n + 1 → ps.getD j 0 = us.getD (a + j) 0) := fun j h1 h2 => hI.out j (by omega) h2
      rw [show (((k + 1 : Nat) : Int) - 1) = (k : Int) by omega]
      clear hp hx hI h0
      by_cases hlt : p < x
      · have hsl := seg_lt hL hpL HPL.out (show k < n + 1 by omega) HJ.out (by rw [HP.out, HX.out]; exact hlt)
        exfalso
        have h1 := seg_le hL (by rw [HM.out]; exact hlen) HN.out (Int.le_of_lt hsl)
        rw [HPN.out] at h1
        have h2 := HKS.out
        omega
      · by_cases hgt : x < p
        · have hsg := seg_gt hL hpL HPL.out (show k < n + 1 by omega) HJ.out (by rw [HP.out, HX.out]; exact hgt)
          clear hsg
          go_wp2_with fail
          go_quiet (fail)
          go_wp2_with fail
          go_quiet (fail)
          go_wp2_with fail
          go_ret
          exact ⟨rfl, HO1.out, below_drewN (below_drewN (below_drewN b1 _) _) _⟩
        · have HXY : Hid (p = x) := (by omega : p = x)
          go_wp2_with fail
          go_quiet (fail)
          go_wp2_with fail
          go_quiet (fail)
          go_wp2_with fail
          go_roundw
          case rel =>
            refine ⟨k, by omega, rfl, ?_, _, rfl⟩
            intro j h1 h2
            by_cases hj : j = k
            · rw [hj, HP.out, HX.out, HXY.out]
            · exact HJ.out j (by omega) h2
          case measure => simp [intOf]

set_option maxHeartbeats 2000000 in
theorem less_yes (g m cu a : Nat) (us : List Int) (va : Option Addr) (n cv : Nat) (vs : List Int) (q : Int) (w : World) (ho : Own w g us) (hL : H.Limbs us) (hm : us.length = m) (hv : Sx g w va n vs) (hvL : H.Limbs vs) (hq : 0 ≤ q ∧ q < 4294967296) (hlen : a + n + 1 ≤ m) (hb : m ≤ 8000000000000) (hN : H.num us < H.pw (a + n + 1)) (hcase : H.num vs * q * H.pw a ≤ H.num us) :
    Calls Tryz.prog 170 #[.slice (some ⟨g, 0, none⟩) m cu, .int .i64 a, .slice va n cv, .int .u64 q] w fun e w' => e = .returned (.bool true) ∧ ∃ ds, Own w' g ds ∧ H.Limbs ds ∧ ds.length = m ∧ H.num ds = H.num us - H.num vs * q * H.pw a ∧ Near g w w' := by
  have hg : g < w.heap.size := by
    unfold Own at ho
    rcases Nat.lt_or_ge g w.heap.size with h' | h'
    · exact h'
    · rw [Array.getElem?_eq_none h'] at ho; cases ho
  have hvl := hv.1.1
  have TT := rdtimes_any va n cv vs q (n + 1) w hv.1 hvL (by omega) hq (by omega) (mul_digit hvL hvl hq)
  rw [show ((n + 1 : Nat) : Int) = (n : Int) + 1 by omega] at TT
  have HO : Hid (Own w g us) := ho
  have HN : Hid (H.num us < H.pw (a + n + 1)) := hN
  have HKS : Hid (H.num vs * q * H.pw a ≤ H.num us) := hcase
  have HM : Hid (us.length = m) := hm
  have HVS : Hid (Sx g w va n vs) := hv
  have hlen2 : (a : Int) + n < m := by omega
  clear ho hN hcase hm hv
  go_enter Tryz.func170, Tryz.ntmps170
  go_wp2_with fail
  refine TT.mono ?_
  rintro e w1 ⟨ps, rfl, hop, hpL, hpl, hpn, b1⟩
  clear TT
  have HO1 : Hid (Own w1 g us) := (b1.block g hg).trans HO.out
  have HOP : Hid (Own w1 w.heap.size ps) := hop
  have HPN : Hid (H.num ps = H.num vs * q) := hpn
  have HPL : Hid (ps.length = n + 1) := hpl
  have hgp : g ≠ w.heap.size := by omega
  clear hpn hpl hop
  go_wp2_with fail
  go_loopw [10] (fun i wr => ∃ t : Nat, t ≤ n + 1 ∧ i = .int .i64 ((t : Int) - 1) ∧ Hid (∀ j, t ≤ j → j < n + 1 → ps.getD j 0 = us.getD (a + j) 0) ∧ ∃ d, wr = w1.drewN d) (fun i _ => (intOf i + 1).toNat)
  case atStart => exact ⟨n + 1, Nat.le_refl _, by rw [show (((n + 1 : Nat) : Int) - 1) = (n : Int) by omega], fun j h1 h2 => absurd h1 (by omega), 0, rfl⟩
  case round =>
    obtain ⟨t, ht, rfl, hI, d, rfl⟩ := hrel
    by_cases h0 : t = 0
    · subst h0
      have hseq := seg_eq (us := us) (a := a) HPL.out (fun j hj => hI.out j (by omega) hj)
      have HO2 : Hid (Own (w1.drewN d) g us) := HO1.out
      have HOP2 : Hid (Own (w1.drewN d) w.heap.size ps) := HOP.out
      have HNR : Hid (Near g w (w1.drewN d)) := (Near.of b1 (Nat.le_of_lt hg)).drewN d
      have HLE : Hid (H.num ps * H.pw a ≤ H.num us) := seg_le hL (by rw [HM.out]; exact hlen) HN.out (Int.le_of_eq hseq)
      clear hseq hI
      go_wp2_with fail
      generalize World.drewN w1 d = w2 at *
      go_loopw [11, 12] (fun cc ii wr => ∃ (i : Nat) (c : Int) (ds : List Int), ii = .int .i64 i ∧ cc = .int .u64 c ∧ i ≤ n + 1 ∧ Hid (LsInv us ps ds a i c) ∧ Hid (Own wr g ds) ∧ Hid (Own wr w.heap.size ps) ∧ Hid (Near g w wr)) (fun _ ii _ => n + 1 - (intOf ii).toNat)
      case atStart => exact ⟨0, 0, us, rfl, rfl, by omega, ls_start hL, HO2, HOP2, HNR⟩
      case round =>
        clear HO2 HOP2 HNR
        obtain ⟨i, c, ds, rfl, rfl, hi, hI, hO, hP, hR⟩ := hrel
        by_cases hin : i ≤ n
        · have hstep := ls_step hpL hI.out (by rw [HM.out]; omega)
          have hcx := hO.out.cell (a + i) (by rw [hI.out.1, HM.out]; omega)
          have hfx := hO.out.frozen (a + i)
          have hcp := hP.out.cell i (by rw [HPL.out]; omega)
          rw [hI.out.2.2.1 (a + i) (Nat.le_refl _)] at hcx
          have bx := hL.getD (a + i)
          have bp := hpL.getD i
          have hc0 := hI.out.2.2.2.2.1
          have hc1 := hI.out.2.2.2.2.2
          have n0 : IntKind.i64.wrap ((a : Int) + i) = a + i := by rw [IntKind.wrap_i64]; omega
          have n4 : ((a : Int) + i).toNat = a + i := by omega
          have n5 : (a : Int) + i < m := by omega
          have n6 : (i : Int) < n + 1 := by omega
          obtain ⟨y, hy⟩ : ∃ y, us.getD (a + i) 0 = y := ⟨_, rfl⟩
          obtain ⟨r, hr⟩ : ∃ r, ps.getD i 0 = r := ⟨_, rfl⟩
          rw [hy] at hcx bx hstep
          rw [hr] at hcp bp hstep
          obtain ⟨y1, y2⟩ := bx
          obtain ⟨r1, r2⟩ := bp
          obtain ⟨s, hs⟩ : ∃ s, 4294967296 + y - r - c = s := ⟨_, rfl⟩
          rw [hs] at hstep
          have s1 : 0 ≤ s := by omega
          have s2 : s < 8589934592 := by omega
          have ew1 : IntKind.u64.wrap (4294967296 + y) = 4294967296 + y := by rw [IntKind.wrap_u64]; omega
          have ew2 : IntKind.u64.wrap (4294967296 + y - r) = 4294967296 + y - r := by rw [IntKind.wrap_u64]; omega
          have ew3 : IntKind.u64.wrap (4294967296 + y - r - c) = s := by rw [hs, IntKind.wrap_u64]; omega
          have HS : Hid (LsInv us ps (ds.set (a + i) (s % 4294967296)) a (i + 1) (1 - s / 4294967296)) := hstep
          have HHS : Hid (4294967296 + y - r - c = s) := hs
          clear hstep hy hr hs
          go_wp2_with fail
          go_quiet (fail)
          clear ew1 ew2 ew3
          go_wp2_with fail
          go_roundw
          case rel => exact ⟨i + 1, _, _, by go_num, rfl, by omega, HS, Own.set (w := wr.drewN nq) hO.out (a + i) _, Own.far (w := wr.drewN nq) hP.out hgp.symm (a + i) _, Near.set (hR.out.drewN nq) (a + i) _⟩
          case measure => simp [intOf]; omega
        · obtain rfl : i = n + 1 := by omega
          have HE : Hid (H.num ds = H.num us - H.num vs * q * H.pw a) := by
            have := ls_end hL HN.out HPL.out hI.out HLE.out
            rw [HPN.out] at this; exact this
          obtain ⟨i1, i2, -⟩ := hI.out
          have HI1 : Hid (ds.length = us.length) := i1
          have q1 : ¬ (((n + 1 : Nat) : Int)) ≤ n := by omega
          clear i1
          go_wp2_with fail
          go_ret
          exact ⟨rfl, ds, hO.out, i2, by rw [HI1.out, HM.out], HE.out, hR.out⟩
    · obtain ⟨k, rfl⟩ : ∃ k, t = k + 1 := ⟨t - 1, by omega⟩
      have hcp := HOP.out.cell k (by rw [HPL.out]; omega)
      have hcx := HO1.out.cell (a + k) (by rw [HM.out]; omega)
      have m0 : IntKind.i64.wrap ((a : Int) + k) = a + k := by rw [IntKind.wrap_i64]; omega
      have m4 : ((a : Int) + k).toNat = a + k := by omega
      have m5 : (a : Int) + k < m := by omega
      have m6 : (k : Int) < n + 1 := by omega
      obtain ⟨p, hp⟩ : ∃ p, ps.getD k 0 = p := ⟨_, rfl⟩
      obtain ⟨x, hx⟩ : ∃ x, us.getD (a + k) 0 = x := ⟨_, rfl⟩
      rw [hp] at hcp
      rw [hx] at hcx
      have HP : Hid (ps.getD k 0 = p) := hp
      have HX : Hid (us.getD (a + k) 0 = x) := hx
      have HJ : Hid (∀ j, k < j → j < n + 1 → ps.getD j 0 = us.getD (a + j) 0) := fun j h1 h2 => hI.out j (by omega) h2
      rw [show (((k + 1 : Nat) : Int) - 1) = (k : Int) by omega]
      clear hp hx hI h0
      by_cases hlt : p < x
      · have hsl := seg_lt hL hpL HPL.out (show k < n + 1 by omega) HJ.out (by rw [HP.out, HX.out]; exact hlt)
        go_wp2_with fail
        go_quiet (fail)
        have HO2 : Hid (Own ((w1.drewN d).drewN nq) g us) := HO1.out
        have HOP2 : Hid (Own ((w1.drewN d).drewN nq) w.heap.size ps) := HOP.out
        have HNR : Hid (Near g w ((w1.drewN d).drewN nq)) := ((Near.of b1 (Nat.le_of_lt hg)).drewN d).drewN nq
        have HLE : Hid (H.num ps * H.pw a ≤ H.num us) := seg_le hL (by rw [HM.out]; exact hlen) HN.out (Int.le_of_lt hsl)
        clear hsl HJ HP HX hcp hcx m0 m4 m5 m6
        go_wp2_with fail
        generalize World.drewN (World.drewN w1 d) nq = w2 at *
        go_loopw [11, 12] (fun cc ii wr => ∃ (i : Nat) (c : Int) (ds : List Int), ii = .int .i64 i ∧ cc = .int .u64 c ∧ i ≤ n + 1 ∧ Hid (LsInv us ps ds a i c) ∧ Hid (Own wr g ds) ∧ Hid (Own wr w.heap.size ps) ∧ Hid (Near g w wr)) (fun _ ii _ => n + 1 - (intOf ii).toNat)
        case atStart => exact ⟨0, 0, us, rfl, rfl, by omega, ls_start hL, HO2, HOP2, HNR⟩
        case round =>
          clear HO2 HOP2 HNR
          obtain ⟨i, c, ds, rfl, rfl, hi, hI, hO, hP, hR⟩ := hrel
          by_cases hin : i ≤ n
          · have hstep := ls_step hpL hI.out (by rw [HM.out]; omega)
            have hcx := hO.out.cell (a + i) (by rw [hI.out.1, HM.out]; omega)
            have hfx := hO.out.frozen (a + i)
            have hcp := hP.out.cell i (by rw [HPL.out]; omega)
            rw [hI.out.2.2.1 (a + i) (Nat.le_refl _)] at hcx
            have bx := hL.getD (a + i)
            have bp := hpL.getD i
            have hc0 := hI.out.2.2.2.2.1
            have hc1 := hI.out.2.2.2.2.2
            have n0 : IntKind.i64.wrap ((a : Int) + i) = a + i := by rw [IntKind.wrap_i64]; omega
            have n4 : ((a : Int) + i).toNat = a + i := by omega
            have n5 : (a : Int) + i < m := by omega
            have n6 : (i : Int) < n + 1 := by omega
            obtain ⟨y, hy⟩ : ∃ y, us.getD (a + i) 0 = y := ⟨_, rfl⟩
            obtain ⟨r, hr⟩ : ∃ r, ps.getD i 0 = r := ⟨_, rfl⟩
            rw [hy] at hcx bx hstep
            rw [hr] at hcp bp hstep
            obtain ⟨y1, y2⟩ := bx
            obtain ⟨r1, r2⟩ := bp
            obtain ⟨s, hs⟩ : ∃ s, 4294967296 + y - r - c = s := ⟨_, rfl⟩
            rw [hs] at hstep
            have s1 : 0 ≤ s := by omega
            have s2 : s < 8589934592 := by omega
            have ew1 : IntKind.u64.wrap (4294967296 + y) = 4294967296 + y := by rw [IntKind.wrap_u64]; omega
            have ew2 : IntKind.u64.wrap (4294967296 + y - r) = 4294967296 + y - r := by rw [IntKind.wrap_u64]; omega
            have ew3 : IntKind.u64.wrap (4294967296 + y - r - c) = s := by rw [hs, IntKind.wrap_u64]; omega
            have HS : Hid (LsInv us ps (ds.set (a + i) (s % 4294967296)) a (i + 1) (1 - s / 4294967296)) := hstep
            have HHS : Hid (4294967296 + y - r - c = s) := hs
            clear hstep hy hr hs
            go_wp2_with fail
            go_quiet (fail)
            clear ew1 ew2 ew3
            go_wp2_with fail
            go_roundw
            case rel => exact ⟨i + 1, _, _, by go_num, rfl, by omega, HS, Own.set (w := wr.drewN nq) hO.out (a + i) _, Own.far (w := wr.drewN nq) hP.out hgp.symm (a + i) _, Near.set (hR.out.drewN nq) (a + i) _⟩
            case measure => simp [intOf]; omega
          · obtain rfl : i = n + 1 := by omega
            have HE : Hid (H.num ds = H.num us - H.num vs * q * H.pw a) := by
              have := ls_end hL HN.out HPL.out hI.out HLE.out
              rw [HPN.out] at this; exact this
            obtain ⟨i1, i2, -⟩ := hI.out
            have HI1 : Hid (ds.length = us.length) := i1
            have q1 : ¬ (((n + 1 : Nat) : Int)) ≤ n := by omega
            clear i1
            go_wp2_with fail
            go_ret
            exact ⟨rfl, ds, hO.out, i2, by rw [HI1.out, HM.out], HE.out, hR.out⟩
      · by_cases hgt : x < p
        · have hsg := seg_gt hL hpL HPL.out (show k < n + 1 by omega) HJ.out (by rw [HP.out, HX.out]; exact hgt)
          exfalso
          have h1 := seg_above hL (by rw [HM.out]; exact hlen) HN.out hsg
          rw [HPN.out] at h1
          have h2 := HKS.out
          omega
        · have HXY : Hid (p = x) := (by omega : p = x)
          go_wp2_with fail
          go_quiet (fail)
          go_wp2_with fail
          go_quiet (fail)
          go_wp2_with fail
          go_roundw
          case rel =>
            refine ⟨k, by omega, rfl, ?_, _, rfl⟩
            intro j h1 h2
            by_cases hj : j = k
            · rw [hj, HP.out, HX.out, HXY.out]
            · exact HJ.out j (by omega) h2
          case measure => simp [intOf]
end Go.Proofs.YtblafbbnplfpjaaGreatDoor

namespace Go.Proofs.YtblafbbnplfpjaaGreatDoor
open Go.RowKit Go.Shelf

theorem scale_facts {y s : Int} (h0 : 0 < y) (h1 : y < 4294967296) (hs : s = 4294967296 / (y + 1)) : 1 ≤ s ∧ s < 4294967296 ∧ s * (y + 1) ≤ 4294967296 := by
  have hm := Int.mul_ediv_add_emod 4294967296 (y + 1)
  have hr := Int.emod_nonneg 4294967296 (show y + 1 ≠ 0 by omega)
  have hl := Int.emod_lt_of_pos 4294967296 (show 0 < y + 1 by omega)
  rw [← hs] at hm
  have e : (y + 1) * s = s * (y + 1) := Int.mul_comm _ _
  have h2 : 1 ≤ s := by
    rcases Int.lt_or_le s 1 with h | h
    · have : s * (y + 1) ≤ 0 * (y + 1) := Int.mul_le_mul_of_nonneg_right (by omega) (by omega)
      omega
    · exact h
  have h3 : s * 2 ≤ s * (y + 1) := Int.mul_le_mul_of_nonneg_left (by omega) (by omega)
  exact ⟨h2, by omega, by omega⟩
theorem Htop (ys : List Int) (n : Nat) (h : ys.length = n + 1) : H.num ys = H.num (ys.take n) + ys.getD n 0 * H.pw n := by
  have := H.num_take_succ ys n
  rwa [List.take_of_length_le (by omega)] at this
theorem Htake_lt {cs : List Int} (h : H.Limbs cs) (n : Nat) : H.num (cs.take n) < H.pw n := by
  have h1 := H.num_lt (h.take n)
  have h2 := H.pw_mono (show (cs.take n).length ≤ n from List.length_take_le _ _)
  omega
theorem scaled_fits {ys : List Int} {n : Nat} {s : Int} (hy : H.Limbs ys) (hl : ys.length = n + 1) (hs0 : 1 ≤ s) (hs : s * (ys.getD n 0 + 1) ≤ 4294967296) : H.num ys * s < H.pw (n + 1) := by
  have e := Htop ys n hl
  have h1 := Htake_lt hy n
  have hp := H.pw_pos n
  have h2 : H.num ys < (ys.getD n 0 + 1) * H.pw n := by rw [Int.add_mul, Int.one_mul]; omega
  have h3 : H.num ys * s < (ys.getD n 0 + 1) * H.pw n * s := Int.mul_lt_mul_of_pos_right h2 (by omega)
  have h4 : (ys.getD n 0 + 1) * H.pw n * s = s * (ys.getD n 0 + 1) * H.pw n := by grind
  have h5 : s * (ys.getD n 0 + 1) * H.pw n ≤ 4294967296 * H.pw n := Int.mul_le_mul_of_nonneg_right hs (Int.le_of_lt hp)
  rw [H.pw]; omega
def LgInv (X V : Int) (us os : List Int) (l k t : Nat) : Prop :=
  us.length = l ∧ H.Limbs us ∧ os.length = k ∧ H.Limbs os ∧ H.num us + H.num (os.drop t) * H.pw t * V = X ∧ H.num us < V * H.pw t
theorem lg_start {xs ys us vs : List Int} {la n k : Nat} {s : Int} (hx : H.Limbs xs) (hy : H.Limbs ys) (hxl : xs.length = la) (hyu : usedN ys = n) (hn : 0 < n) (hk : k = la - n + 1) (hnl : n ≤ la) (hs0 : 1 ≤ s)
    (hu : H.num us = H.num xs * s) (hv : H.num vs = H.num ys * s) (hul : us.length = la + 1) (huL : H.Limbs us) : LgInv (H.num xs * s) (H.num vs) us (List.replicate k 0) (la + 1) k k := by
  have e2 : (List.replicate k (0 : Int)).drop k = [] := List.drop_eq_nil_of_le (by simp)
  refine ⟨hul, huL, by simp, H.Limbs.zeros _, by rw [e2]; simp [H.num, hu], ?_⟩
  have h1 := H.num_lt hx
  rw [hxl] at h1
  have h2 := H.num_ge_used hy (by omega)
  rw [hyu] at h2
  have e3 : H.pw la = H.pw (n - 1) * H.pw k := by rw [← H.pw_add]; congr 1; omega
  have hp := H.pw_pos k
  have h3 : H.pw (n - 1) * H.pw k ≤ H.num ys * H.pw k := Int.mul_le_mul_of_nonneg_right h2 (Int.le_of_lt hp)
  have h4 : H.num xs * s < H.num ys * H.pw k * s := Int.mul_lt_mul_of_pos_right (by omega) (by omega)
  rw [hu, hv]
  have e4 : H.num ys * s * H.pw k = H.num ys * H.pw k * s := Int.mul_right_comm _ _ _
  omega
theorem lg_digit {N V P : Int} (hN : 0 ≤ N) (hV : 0 < V) (hP : 0 < P) (hlt : N < V * (4294967296 * P)) :
    ∃ Q : Int, 0 ≤ Q ∧ Q < 4294967296 ∧ V * Q * P ≤ N ∧ N < V * (Q + 1) * P ∧ (∀ q : Int, V * q * P ≤ N → q ≤ Q) := by
  have hVP : 0 < V * P := Int.mul_pos hV hP
  have hm := Int.mul_ediv_add_emod N (V * P)
  have hr := Int.emod_nonneg N (show V * P ≠ 0 by omega)
  have hl := Int.emod_lt_of_pos N hVP
  have e1 : ∀ q : Int, V * q * P = V * P * q := fun q => by grind
  refine ⟨N / (V * P), Int.ediv_nonneg hN (Int.le_of_lt hVP), ?_, ?_, ?_, ?_⟩
  · apply Int.ediv_lt_of_lt_mul hVP
    have : 4294967296 * (V * P) = V * (4294967296 * P) := by grind
    omega
  · rw [e1]; omega
  · rw [e1, Int.mul_add, Int.mul_one]; omega
  · intro q hq
    rw [e1] at hq
    apply Int.le_ediv_of_mul_le hVP
    rw [Int.mul_comm]; exact hq
theorem lg_guess {us vs : List Int} {k n : Nat} {Q : Int} (hL : H.Limbs us) (hv : H.Limbs vs) (hvl : vs.length = n + 1) (hlen : k + n + 2 ≤ us.length) (hN : H.num us < H.pw (k + (n + 1) + 1)) (hQ0 : 0 ≤ Q) (hQ : H.num vs * Q * H.pw k ≤ H.num us) (htop : 0 < vs.getD n 0) :
    Q ≤ (us.getD (k + (n + 1)) 0 * 4294967296 + us.getD (k + (n + 1) - 1) 0) / vs.getD n 0 := by
  have e := H.num_seg (us := us) (a := k + n) (n := 1) hL (by omega) (by rw [show k + n + 1 + 1 = k + (n + 1) + 1 by omega]; exact hN)
  have h0 := Htake_lt hL (k + n)
  have e2 : H.num ((us.drop (k + n)).take (1 + 1)) = us.getD (k + (n + 1)) 0 * 4294967296 + us.getD (k + (n + 1) - 1) 0 := by
    have e3 := H.num_take_succ (us.drop (k + n)) 1
    have e4 := H.num_take_succ (us.drop (k + n)) 0
    rw [e3, e4, getD_drop, getD_drop]
    simp only [List.take_zero, H.num, H.pw]
    rw [show k + n + 0 = k + (n + 1) - 1 by omega, show k + n + 1 = k + (n + 1) by omega]
    omega
  rw [e2] at e
  obtain ⟨T, hT⟩ : ∃ T, us.getD (k + (n + 1)) 0 * 4294967296 + us.getD (k + (n + 1) - 1) 0 = T := ⟨_, rfl⟩
  rw [hT] at e ⊢
  have e5 := Htop vs n hvl
  have h5 := H.num_nonneg (hv.take n)
  have hpk := H.pw_pos k
  have hpn := H.pw_pos n
  have h6 : vs.getD n 0 * H.pw n * (Q * H.pw k) ≤ H.num vs * (Q * H.pw k) := Int.mul_le_mul_of_nonneg_right (by omega) (Int.mul_nonneg hQ0 (Int.le_of_lt hpk))
  have e6 : vs.getD n 0 * H.pw n * (Q * H.pw k) = Q * vs.getD n 0 * H.pw (k + n) := by rw [H.pw_add]; grind
  have e7 : H.num vs * (Q * H.pw k) = H.num vs * Q * H.pw k := by grind
  have h7 : Q * vs.getD n 0 * H.pw (k + n) < (T + 1) * H.pw (k + n) := by rw [Int.add_mul, Int.one_mul]; omega
  have h8 := Int.lt_of_mul_lt_mul_right h7 (Int.le_of_lt (H.pw_pos (k + n)))
  apply Int.le_ediv_of_mul_le htop
  omega
theorem lg_step {X V : Int} {us ds os : List Int} {l m k : Nat} {Q : Int} (I : LgInv X V us os l m (k + 1)) (hk : k < m) (hdl : ds.length = l) (hdL : H.Limbs ds) (hd : H.num ds = H.num us - V * Q * H.pw k) (hQ : 0 ≤ Q ∧ Q < 4294967296) (hlt : H.num us < V * (Q + 1) * H.pw k) :
    LgInv X V ds (os.set k Q) l m k := by
  obtain ⟨i1, i2, i3, i4, i5, i6⟩ := I
  refine ⟨hdl, hdL, by rw [List.length_set]; exact i3, i4.set k hQ, ?_, ?_⟩
  · rw [Hnum_set_drop _ _ _ (by omega), hd, ← i5, H.pw]
    grind
  · have : V * (Q + 1) * H.pw k = V * Q * H.pw k + V * H.pw k := by grind
    omega
theorem lg_end {x y s q r : Int} (hs : 1 ≤ s) (h1 : r + q * 1 * (y * s) = x * s) (h2 : r < y * s * 1) (h0 : 0 ≤ r) : x = q * y + r / s ∧ r / s < y ∧ 0 ≤ r / s ∧ r % s = 0 := by
  have e : r = (x - q * y) * s := by grind
  have e2 : r / s = x - q * y := by rw [e, Int.mul_ediv_cancel _ (by omega)]
  rw [e2]
  refine ⟨by omega, ?_, ?_, by rw [e]; exact Int.mul_emod_left _ _⟩
  · rw [e, Int.mul_one] at h2; exact Int.lt_of_mul_lt_mul_right h2 (by omega)
  · rcases Int.lt_or_le (x - q * y) 0 with h | h
    · have : (x - q * y) * s < 0 := Int.mul_neg_of_neg_of_pos h (by omega)
      omega
    · exact h
end Go.Proofs.YtblafbbnplfpjaaGreatDoor

namespace Go.Proofs.YtblafbbnplfpjaaGreatDoor
open Go.RowKit Go.Shelf
set_option linter.unusedVariables false

theorem Own.aft {w w' : World} {b : Nat} {cs : List Int} (h : Own w b cs) (hb : Below w.heap.size w w') : Own w' b cs := by
  have hlt : b < w.heap.size := by
    unfold Own at h
    rcases Nat.lt_or_ge b w.heap.size with h' | h'
    · exact h'
    · rw [Array.getElem?_eq_none h'] at h; cases h
  unfold Own at *
  rw [hb.block b hlt]; exact h
theorem Own.blt {w : World} {b : Nat} {cs : List Int} (h : Own w b cs) : b < w.heap.size := by
  unfold Own at h
  rcases Nat.lt_or_ge b w.heap.size with h' | h'
  · exact h'
  · rw [Array.getElem?_eq_none h'] at h; cases h
theorem Own.sx {w : World} {b g n : Nat} {cs : List Int} (h : Own w b cs) (hL : H.Limbs cs) (hl : cs.length = n) (hne : b ≠ g) : Sx g w (some ⟨b, 0, none⟩) n cs :=
  ⟨by rw [← hl]; exact h.sl hL.up, fun _ p hp => by cases hp; exact hne⟩

set_option maxHeartbeats 4000000 in
theorem rlongd_any (a b : Option Addr) (la ca n cb : Nat) (xs ys : List Int) (w : World) (ha : Sl w a la xs) (hb : Sl w b (n + 1) ys) (hx : H.Limbs xs) (hy : H.Limbs ys) (uy : usedN ys = n + 1) (hnl : n + 1 ≤ la) (h1 : la ≤ 4000000000000) :
    Calls Tryz.prog 146 #[.slice a la ca, .slice b (n + 1) cb] w fun e w' =>
      ∃ a1 m1 c1 qs a2 m2 c2 rs, e = .returned (.tuple #[.slice a1 m1 c1, .slice a2 m2 c2]) ∧ Sl w' a1 m1 qs ∧ H.Limbs qs ∧ m1 ≤ la ∧ Sl w' a2 m2 rs ∧ H.Limbs rs ∧ m2 ≤ la + 1 ∧ H.num xs = H.num qs * H.num ys + H.num rs ∧ 0 ≤ H.num rs ∧ H.num rs < H.num ys ∧ Below w.heap.size w w' := by
  have hza := ha.1; have hzb := hb.1
  have hyt := hy.getD n
  have hyt0 : ys.getD n 0 ≠ 0 := by have := usedN_top ys (by omega); rwa [uy, Nat.add_sub_cancel] at this
  obtain ⟨bb, ob, rfl, hcb⟩ := hb.2.2 (by omega)
  have hcy := hcb n (by omega)
  obtain ⟨y, hyy⟩ : ∃ y, ys.getD n 0 = y := ⟨_, rfl⟩
  rw [hyy] at hcy hyt hyt0
  obtain ⟨yt1, yt2⟩ := hyt
  have y0 : 0 < y := by omega
  obtain ⟨s, hs⟩ : ∃ s, 4294967296 / (y + 1) = s := ⟨_, rfl⟩
  obtain ⟨s1, s2, s3⟩ := scale_facts y0 yt2 hs.symm
  have gy : (y + 1 == 0) = false := by simp; omega
  have TX := rdtimes_any a la ca xs s (la + 1) w ha hx (by omega) ⟨by omega, s2⟩ (by omega) (mul_digit hx hza ⟨by omega, s2⟩)
  rw [show ((la + 1 : Nat) : Int) = (la : Int) + 1 by omega] at TX
  have HTY : Hid (∀ W, Below w.heap.size w W → Calls Tryz.prog 169 #[.slice (some ⟨bb, ob, none⟩) (n + 1) cb, .int .u64 s, .int .i64 ((n : Int) + 1)] W fun e w' => ∃ ds, e = .returned (.slice (some ⟨W.heap.size, 0, none⟩) (n + 1) (n + 1)) ∧ Own w' W.heap.size ds ∧ H.Limbs ds ∧ ds.length = n + 1 ∧ H.num ds = H.num ys * s ∧ Below W.heap.size W w') := by
    intro W B
    have T := rdtimes_any (some ⟨bb, ob, none⟩) (n + 1) cb ys s (n + 1) W (hb.below B (Nat.le_refl _)) hy (by omega) ⟨by omega, s2⟩ (Nat.le_refl _) (scaled_fits hy hzb s1 (by rw [hyy]; exact s3))
    rw [show ((n + 1 : Nat) : Int) = (n : Int) + 1 by omega] at T
    exact T
  have hmk := make_row (la - (n + 1) + 1) (by omega)
  have ek : ((la - (n + 1) + 1 : Nat) : Int) = (la : Int) - (n + 1) + 1 := by omega
  rw [ek] at hmk
  have HYN : Hid (H.pw n ≤ H.num ys) := by
    have := H.num_ge_used hy (by omega)
    rwa [uy, Nat.add_sub_cancel] at this
  have HST : Hid (∀ us vs, H.num us = H.num xs * s → H.num vs = H.num ys * s → us.length = la + 1 → H.Limbs us → LgInv (H.num xs * s) (H.num vs) us (List.replicate (la - (n + 1) + 1) 0) (la + 1) (la - (n + 1) + 1) (la - (n + 1) + 1)) :=
    fun us vs e1 e2 e3 e4 => lg_start hx hy hza uy (by omega) rfl hnl s1 e1 e2 e3 e4
  obtain ⟨K, hK⟩ : ∃ K, la - (n + 1) + 1 = K := ⟨_, rfl⟩
  have eK : (la : Int) - (n + 1) + 1 = K := by omega
  have eK2 : (la : Int) - (n + 1) = (K : Int) - 1 := by omega
  have hKla : K ≤ la := by omega
  have hKn : K + n = la := by omega
  rw [hK] at hmk HST
  rw [eK] at hmk
  have EYY : Hid (ys.getD n 0 = y) := hyy
  have nn : ((n : Int) + 1 - 1).toNat = n := by omega
  clear hK ek ha hb hcb hyy
  go_enter Tryz.func146, Tryz.ntmps146
  go_wp2_with fail
  refine TX.mono ?_
  rintro e w1 ⟨us0, rfl, hou, huL, hul, hun, b1⟩
  clear TX
  go_wp2_with fail
  refine (HTY.out w1 b1).mono ?_
  rintro e w2 ⟨vs, rfl, hov, hvL, hvl, hvn, b2⟩
  have LT1 := hou.blt
  have LT2 := hov.blt
  replace hou := hou.aft b2
  go_wp2_with fail
  clear hmk
  refine ent1 w2 _ _ (Q := fun W => Code.wp Tryz.prog _ _ _ W) ?_
  intro w3 b3 hs3 V3
  have O3 : Own w3 w2.heap.size (List.replicate K 0) := V3
  replace hou := hou.aft b3
  replace hov := hov.aft b3
  have HI0 : Hid (LgInv (H.num xs * s) (H.num vs) us0 (List.replicate K 0) (la + 1) K K) := HST.out us0 vs hun hvn hul huL
  have hV0 : H.pw n ≤ H.num vs := by
    rw [hvn]
    have h5 := HYN.out
    have h6 := H.pw_pos n
    have : H.num ys * 1 ≤ H.num ys * s := Int.mul_le_mul_of_nonneg_left s1 (by omega)
    omega
  have hvt : 0 < vs.getD n 0 := by
    have e1 := Htop vs n hvl
    have e2 := Htake_lt hvL n
    have e3 := hvL.getD n
    rcases Int.lt_or_le 0 (vs.getD n 0) with h | h
    · exact h
    · have : vs.getD n 0 = 0 := by omega
      rw [this] at e1; omega
  have HV0 : Hid (0 < H.num vs) := by show _ < _; have := H.pw_pos n; omega
  have HVP : Hid (H.num vs < H.pw (n + 1)) := by have := H.num_lt hvL; rwa [hvl] at this
  have HVN : Hid (H.num vs = H.num ys * s) := hvn
  have HVL : Hid (vs.length = n + 1) := hvl
  have hvb := hvL.getD n
  have BW : Hid (Below w.heap.size w w3) := step (step b1 b2) b3
  have HOU : Hid (Own w3 w.heap.size us0) := hou
  have HOV : Hid (Own w3 w1.heap.size vs) := hov
  have HOO : Hid (Own w3 w2.heap.size (List.replicate K 0)) := O3
  have ne1 : w1.heap.size ≠ w.heap.size := by omega
  have ne2 : w2.heap.size ≠ w.heap.size := by omega
  clear b1 b2 b3 hs3 V3 hou hov O3 hun hul huL hvn hvl hV0 HST HTY HYN
  go_loopw [10] (fun i wr => ∃ (t : Nat) (us os : List Int), i = .int .i64 ((t : Int) - 1) ∧ t ≤ K ∧ Hid (LgInv (H.num xs * s) (H.num vs) us os (la + 1) K t) ∧ Hid (Own wr w.heap.size us) ∧ Hid (Own wr w1.heap.size vs) ∧ Hid (Own wr w2.heap.size os) ∧ Hid (Below w.heap.size w wr)) (fun i _ => (intOf i + 1).toNat)
  case atStart => exact ⟨K, us0, _, rfl, Nat.le_refl _, HI0, HOU, HOV, HOO, BW⟩
  case round =>
    clear HI0 HOU HOV HOO BW
    obtain ⟨t, us, os, rfl, ht, hI, hU, hVV, hOO, hBW⟩ := hrel
    by_cases h0 : t = 0
    · subst h0
      obtain ⟨i1, i2, i3, i4, i5, i6⟩ := hI.out
      have hN0 := H.num_nonneg i2
      rw [HVN.out, List.drop_zero] at i5
      rw [HVN.out] at i6
      simp only [H.pw] at i5 i6
      obtain ⟨r1, r2, r3, r4⟩ := lg_end s1 i5 i6 hN0
      have hsu := hU.out.sl i2.up
      rw [i1] at hsu
      have hso := hOO.out.sl i4.up
      rw [i3] at hso
      have hu1 := usedN_le us
      have hu2 := usedN_le os
      have hu3 : usedN us ≤ la + 1 := by omega
      have hu4 : usedN os ≤ K := by omega
      have HR : Hid (H.num xs = H.num os * H.num ys + H.num us / s ∧ H.num us / s < H.num ys ∧ 0 ≤ H.num us / s) := ⟨r1, r2, r3⟩
      clear i1 i3 i5 i6 hN0 r1 r2 r3 r4 hI
      go_wp2_with fail
      refine (cutr_any (some ⟨w.heap.size, 0, none⟩) (la + 1) (la + 1) us _ hsu (by omega) (Nat.le_refl _)).mono ?_
      rintro e w5 ⟨rfl, hw⟩
      rw [hw]
      clear hw
      go_wp2_with fail
      refine (rshort_any (some ⟨w.heap.size, 0, none⟩) (usedN us) (la + 1) (us.take (usedN us)) s _ (hsu.take hu3) (i2.take _) (by omega) (by omega) s2).mono ?_
      rintro e w6 ⟨a6, m6, c6, d6, r6, rfl, k6, l6, t6, L6, u6, n6, p6, q6, b6⟩
      replace hso := hso.below b6 (Nat.le_refl _)
      have N6 : Hid (H.num d6 = H.num us / s) := by
        show _ = _
        rw [H.num_take_used us (Nat.le_refl _)] at n6
        rw [n6, Int.add_comm, Int.add_mul_ediv_right _ _ (by omega), Int.ediv_eq_zero_of_lt p6 q6, Int.zero_add]
      clear n6
      go_wp2_with fail
      refine (cutr_any (some ⟨w2.heap.size, 0, none⟩) K K os _ hso (by omega) (Nat.le_refl _)).mono ?_
      rintro e w7 ⟨rfl, hw⟩
      rw [hw]
      clear hw
      go_wp2_with fail
      go_ret2
      exact ⟨_, usedN os, K, os.take (usedN os), a6, m6, c6, d6, rfl, hso.take hu4, i4.take _, by omega, t6, L6, by omega, by rw [H.num_take_used os (Nat.le_refl _), N6.out]; exact HR.out.1, by rw [N6.out]; exact HR.out.2.2, by rw [N6.out]; exact HR.out.2.1, step hBW.out b6⟩
    · obtain ⟨k, rfl⟩ : ∃ k, t = k + 1 := ⟨t - 1, by omega⟩
      rw [show (((k + 1 : Nat) : Int) - 1) = (k : Int) by omega]
      have hI' := hI.out
      obtain ⟨i1, i2, i3, i4, i5, i6⟩ := hI'
      have hN0 := H.num_nonneg i2
      have hNP : H.num us < H.pw (k + (n + 1) + 1) := by
        have h5 := HVP.out
        have h6 := H.pw_pos (k + 1)
        have h7 : H.num vs * H.pw (k + 1) ≤ H.pw (n + 1) * H.pw (k + 1) := Int.mul_le_mul_of_nonneg_right (by omega) (by omega)
        rw [← H.pw_add, show n + 1 + (k + 1) = k + (n + 1) + 1 by omega] at h7
        omega
      obtain ⟨Q, Q0, Q1, Q2, Q3, Q4⟩ := lg_digit hN0 HV0.out (H.pw_pos k) (by rw [H.pw] at i6; exact i6)
      have hG := lg_guess i2 hvL HVL.out (show k + n + 2 ≤ us.length by omega) hNP Q0 Q2 hvt
      rw [show k + (n + 1) - 1 = k + n by omega] at hG
      have hc1 := hU.out.cell (k + (n + 1)) (by rw [i1]; omega)
      have hc0 := hU.out.cell (k + n) (by rw [i1]; omega)
      have bx1 := i2.getD (k + (n + 1))
      have bx0 := i2.getD (k + n)
      have hcv := hVV.out.cell n (by rw [HVL.out]; omega)
      obtain ⟨x1, hx1⟩ : ∃ x, us.getD (k + (n + 1)) 0 = x := ⟨_, rfl⟩
      obtain ⟨x0, hx0⟩ : ∃ x, us.getD (k + n) 0 = x := ⟨_, rfl⟩
      obtain ⟨vt, hvt'⟩ : ∃ v, vs.getD n 0 = v := ⟨_, rfl⟩
      rw [hx1] at hc1 bx1 hG
      rw [hx0] at hc0 bx0 hG
      rw [hvt'] at hcv hG
      have vt0 : 0 < vt := by rw [← hvt']; exact hvt
      have vt1 : vt < 4294967296 := by rw [← hvt']; exact hvb.2
      obtain ⟨T, hT⟩ : ∃ T, x1 * 4294967296 + x0 = T := ⟨_, rfl⟩
      rw [hT] at hG
      obtain ⟨f1, f2⟩ := bx1
      obtain ⟨f3, f4⟩ := bx0
      have T0 : 0 ≤ T := by omega
      have T1 : T < 18446744073709551616 := by omega
      have m0 : IntKind.i64.wrap ((k : Int) + (n + 1)) = k + (n + 1) := by rw [IntKind.wrap_i64]; omega
      have m1 : IntKind.i64.wrap ((k : Int) + (n + 1) - 1) = k + n := by rw [IntKind.wrap_i64]; omega
      have m1' : IntKind.i64.wrap ((k : Int) + n) = k + n := by rw [IntKind.wrap_i64]; omega
      have m2 : ((k : Int) + (n + 1)).toNat = k + (n + 1) := by omega
      have m3 : ((k : Int) + n).toNat = k + n := by omega
      have m4 : (k : Int) + (n + 1) < la + 1 := by omega
      have m5 : (k : Int) + n < la + 1 := by omega
      have m6 : 0 ≤ (k : Int) + n := by omega
      have w1' : IntKind.u64.wrap (x1 * 4294967296) = x1 * 4294967296 := by rw [IntKind.wrap_u64]; omega
      have w2' : IntKind.u64.wrap (x1 * 4294967296 + x0) = T := by rw [hT, IntKind.wrap_u64]; omega
      have gv : (vt == 0) = false := by simp; omega
      have HIV : Hid (LgInv (H.num xs * s) (H.num vs) us os (la + 1) K (k + 1)) := hI
      have HNP : Hid (H.num us < H.pw (k + (n + 1) + 1)) := hNP
      have HQ : Hid (H.num vs * Q * H.pw k ≤ H.num us ∧ H.num us < H.num vs * (Q + 1) * H.pw k ∧ (∀ q : Int, H.num vs * q * H.pw k ≤ H.num us → q ≤ Q)) := ⟨Q2, Q3, Q4⟩
      have HQ1 : Hid (0 ≤ Q ∧ Q < 4294967296) := ⟨Q0, Q1⟩
      have d0 : 0 ≤ T / vt := Int.ediv_nonneg T0 (by omega)
      have d1 : T / vt < 18446744073709551616 := by
        have := Int.ediv_le_self vt T0
        omega
      obtain ⟨D, hD⟩ : ∃ D, T / vt = D := ⟨_, rfl⟩
      rw [hD] at hG d0 d1
      obtain ⟨q0, hq0⟩ : ∃ q, min D 4294967295 = q := ⟨_, rfl⟩
      have HQ0 : Hid (Q ≤ q0 ∧ q0 < 4294967296) := by show _ ∧ _; omega
      have HU1 : Hid (us.length = la + 1) := i1
      have HOS : Hid (os.length = K) := i3
      clear i1 i3 i5 i6 hN0 hNP Q2 Q3 Q4 hx1 hx0 hI h0 Q0 Q1 hG
      go_wp2_with fail
      go_quiet (fail)
      clear w1' w2'
      have HU2 : Hid (Own (wr.drewN nq) w.heap.size us) := hU
      have HV2 : Hid (Own (wr.drewN nq) w1.heap.size vs) := hVV
      have HO2 : Hid (Own (wr.drewN nq) w2.heap.size os) := hOO
      have HB2 : Hid (Below w.heap.size w (wr.drewN nq)) := below_drewN hBW.out nq
      clear hU hVV hOO hBW hc1 hc0
      go_wp2_with fail
      generalize wr.drewN nq = w4 at *
      clear hcv hT hD
      go_loopw [12] (fun qq wx => ∃ q : Int, qq = .int .u64 q ∧ Hid (Q ≤ q ∧ q < 4294967296) ∧ Hid (Own wx w.heap.size us) ∧ Hid (Own wx w1.heap.size vs) ∧ Hid (Own wx w2.heap.size os) ∧ Hid (Below w.heap.size w wx)) (fun qq _ => (intOf qq).toNat)
      case atStart => exact ⟨q0, rfl, HQ0, HU2, HV2, HO2, HB2⟩
      case round =>
        clear HU2 HV2 HO2 HB2 HQ0 hq0
        obtain ⟨q, rfl, hqq, hU3, hV3, hO3, hB3⟩ := hrel
        have qq1 := hqq.out.1
        have qq2 := hqq.out.2
        have Q00 := HQ1.out.1
        by_cases hle : H.num vs * q * H.pw k ≤ H.num us
        · have hqe : q ≤ Q := HQ.out.2.2 q hle
          obtain rfl : q = Q := by omega
          have LY := less_yes w.heap.size (la + 1) (la + 1) k us (some ⟨w1.heap.size, 0, none⟩) (n + 1) (n + 1) vs q wr hU3.out i2 HU1.out (hV3.out.sx hvL HVL.out ne1) hvL ⟨by omega, by omega⟩ (by omega) (by omega) HNP.out hle
          have HLY : Hid (Calls Tryz.prog _ _ _ _) := LY
          clear hle LY hqe
          go_wp2_with fail
          refine HLY.out.mono ?_
          rintro e w5 ⟨rfl, ds, hD5, hdL, hdl, hdn, nr⟩
          have O5 := Own.near hO3.out nr ne2
          have V5 := Own.near hV3.out nr ne1
          have hco := O5.cell k (by rw [HOS.out]; omega)
          have hfo := O5.frozen k
          have HSTEP : Hid (LgInv (H.num xs * s) (H.num vs) ds (os.set k q) (la + 1) K k) := lg_step HIV.out (by omega) hdl hdL hdn ⟨by omega, by omega⟩ HQ.out.2.1
          have kK : (k : Int) < K := by omega
          have hB5 : Below w.heap.size w w5 := hB3.out.trans nr.bel
          have HD5 : Hid (Own w5 w.heap.size ds) := hD5
          clear hdl hdn nr HLY hU3 hV3 hO3 hB3 hD5
          go_wp2_with fail
          go_roundw
          case rel => exact ⟨k, ds, os.set k q, rfl, by omega, HSTEP, Own.far HD5.out ne2.symm k _, Own.far V5 (show w1.heap.size ≠ w2.heap.size by omega) k _, Own.set O5 k _, hB5.setCell (p := ⟨w2.heap.size, k, none⟩) (show w.heap.size ≤ w2.heap.size by omega) _⟩
          case measure => simp [intOf]
        · have hne : q ≠ Q := by
            rintro rfl
            exact hle HQ.out.1
          have LN := less_no w.heap.size (la + 1) (la + 1) k us (some ⟨w1.heap.size, 0, none⟩) (n + 1) (n + 1) vs q wr hU3.out i2 HU1.out (hV3.out.sx hvL HVL.out ne1) hvL ⟨by omega, by omega⟩ (by omega) (by omega) HNP.out (Int.not_le.1 hle)
          have HLN : Hid (Calls Tryz.prog _ _ _ _) := LN
          clear hle LN
          go_wp2_with fail
          refine HLN.out.mono ?_
          rintro e w5 ⟨rfl, hD5, b5⟩
          have V5 := hV3.out.aft b5
          have O5 := hO3.out.aft b5
          have B5 := step hB3.out b5
          have HQ5 : Hid (Q ≤ q - 1 ∧ q - 1 < 4294967296) := by show _ ∧ _; omega
          clear HLN hU3 hV3 hO3 hB3
          go_wp2_with fail
          go_roundw
          case rel => exact ⟨q - 1, rfl, HQ5, hD5, V5, O5, B5⟩
          case measure => simp [intOf]; omega
end Go.Proofs.YtblafbbnplfpjaaGreatDoor

namespace Go.Proofs.YtblafbbnplfpjaaGreatDoor
open Go.RowKit Go.Shelf
set_option linter.unusedVariables false

theorem rsmall_any (x : Int) (hx : Word x) (w : World) :
    Calls Tryz.prog 105 #[.int .u64 x] w fun e w' => LRes w w' e x 1 := by
  go_enter Tryz.func105, Tryz.ntmps105
  go_wp2_with fail
  refine ent1 w _ _ (Q := fun W => Calls Tryz.prog _ _ W _) ?_
  intro w0 B0 hs V0
  have s := sl_one w x hx
  have s1 : Sl w0 (some ⟨w.heap.size, 0, none⟩) 1 [x] := by
    refine ⟨rfl, s.2.1, fun _ => ⟨w.heap.size, 0, rfl, fun i hi => ?_⟩⟩
    obtain rfl : i = 0 := by omega
    exact V0.cell
  refine (rtrim_any (some ⟨w.heap.size, 0, none⟩) 1 1 [x] w0 s1 (fun h => by cases h) (by omega) (Nat.le_refl _)).mono ?_
  rintro e w2 ⟨a2, c2, rfl, s2, hc2, b2⟩
  have hu := usedN_le [x]
  simp at hu
  go_wp2_with fail
  go_ret
  exact ⟨a2, usedN [x], c2, [x].take (usedN [x]), rfl, hc2, hu, s2, usedN_take [x] (Nat.le_refl _), by rw [num_take_used [x] (Nat.le_refl _)]; simp [num], step B0 b2⟩

set_option maxHeartbeats 2000000 in
theorem rdivmod_any (a0 a1 : Option Addr) (l0 k0 l1 k1 : Nat) (z0 z1 : List Int) (w : World) (ha0 : Sl w a0 l0 z0) (hb0 : Sl w a1 l1 z1) (e0 : a0 = none → l0 = 0 ∧ k0 = 0) (c0 : l0 ≤ k0) (h1 : l0 ≤ 1000000000000) (h2 : l1 ≤ 1000000000000) (hz : num z1 ≠ 0) :
    Calls Tryz.prog 112 #[.slice a0 l0 k0, .slice a1 l1 k1] w fun e w' =>
      ∃ a1 m1 c1 qs a2 m2 c2 rs, e = .returned (.tuple #[.slice a1 m1 c1, .slice a2 m2 c2]) ∧ Sl w' a1 m1 qs ∧ usedN qs = m1 ∧ m1 ≤ c1 ∧ Sl w' a2 m2 rs ∧ usedN rs = m2 ∧ m2 ≤ c2 ∧ num z0 = num qs * num z1 + num rs ∧ 0 ≤ num rs ∧ num rs < num z1 ∧ m1 ≤ 2 * l0 ∧ m2 ≤ 2 * l0 + 1 ∧ Below w.heap.size w w' := by
  have HS0 : Hid (Sl w a0 l0 z0) := ha0
  go_enter Tryz.func112, Tryz.ntmps112
  go_wp2_with fail
  refine (digits_any a0 l0 k0 z0 w ha0 (by omega)).mono ?_
  rintro e wa ⟨a, la, ca, xs, rfl, -, hla, ha, hx, ux, nx, ba⟩
  go_wp2_with fail
  refine (digits_any a1 l1 k1 z1 wa (hb0.below ba (Nat.le_refl _)) (by omega)).mono ?_
  rintro e wb ⟨b, lb, cb, ys, rfl, -, hlb, hb, hy, uy, ny, bb⟩
  replace ha := ha.below bb (Nat.le_refl _)
  have HB : Hid (Below w.heap.size w wb) := step ba bb
  have HNX : Hid (H.num xs = num z0) := nx
  have HNY : Hid (H.num ys = num z1) := ny
  have hza := ha.1; have hzb := hb.1
  have hlb0 : lb ≠ 0 := by
    intro h
    have := (H.num_eq_zero hy).2 (by omega)
    rw [ny] at this; exact hz this
  have HUX : Hid (usedN xs = la) := ux
  have HUY : Hid (usedN ys = lb) := uy
  clear ba bb ha0 hb0 nx ny ux uy hz
  by_cases hlt : la < lb
  · have HLT : Hid (num z0 < num z1) := by
      show _ < _
      rw [← HNX.out, ← HNY.out]
      exact H.num_lt_len hx hy (by rw [HUX.out, HUY.out]; exact hlt)
    have hlt' : (la : Int) < lb := by omega
    go_wp2_with fail
    refine (rtrim_any a0 l0 k0 z0 wb (HS0.out.below HB.out (Nat.le_refl _)) e0 (by omega) c0).mono ?_
    rintro e w5 ⟨a5, c5, rfl, s5, hc5, b5⟩
    have hu := usedN_le z0
    have hl0 := HS0.out.1
    have hp := num_nonneg HS0.out.2.1
    go_wp2_with fail
    go_ret2
    exact ⟨none, 0, 0, [], a5, usedN z0, c5, z0.take (usedN z0), rfl, ⟨rfl, Limbs.nil, fun h => absurd h (by decide)⟩, rfl, Nat.le_refl _, s5, usedN_take z0 (Nat.le_refl _), hc5, by rw [num_take_used z0 (Nat.le_refl _)]; simp [num], by rw [num_take_used z0 (Nat.le_refl _)]; exact hp, by rw [num_take_used z0 (Nat.le_refl _)]; exact HLT.out, by omega, by omega, step HB.out b5⟩
  · have hlt' : ¬ (la : Int) < lb := by omega
    by_cases h1' : lb = 1
    · subst h1'
      obtain ⟨bb, ob, rfl, hcb⟩ := hb.2.2 (by omega)
      have hcy := hcb 0 (by omega)
      rw [Nat.add_zero] at hcy
      have hyb := hy.getD 0
      have hyt0 : ys.getD 0 0 ≠ 0 := by have := usedN_top ys (by rw [HUY.out]; omega); rwa [HUY.out] at this
      have hyn : H.num ys = ys.getD 0 0 := by
        have := Htop ys 0 hzb
        simpa [H.num, H.pw] using this
      obtain ⟨y, hyy⟩ : ∃ y, ys.getD 0 0 = y := ⟨_, rfl⟩
      rw [hyy] at hcy hyb hyt0 hyn
      have HYN : Hid (H.num ys = y) := hyn
      clear hyn hyy hcb
      go_wp2_with fail
      refine (rshort_any a la ca xs y wb ha hx (by omega) (by omega) hyb.2).mono ?_
      rintro e w5 ⟨a5, m5, c5, d5, r, rfl, k5, l5, s5, L5, u5, n5, r0, r1, b5⟩
      have N5 : Hid (H.num xs = H.num d5 * y + r) := n5
      clear n5
      go_wp2_with fail
      refine (limbsr_any a5 m5 c5 d5 w5 s5 L5 (by omega)).mono ?_
      rintro e w6 ⟨a6, m6, c6, z6, rfl, k6, l6, s6, u6, n6, b6⟩
      go_wp2_with fail
      refine (rsmall_any r ⟨r0, by omega⟩ w6).mono ?_
      rintro e w7 ⟨a7, m7, c7, z7, rfl, k7, l7, s7, u7, n7, b7⟩
      replace s6 := s6.below b7 (Nat.le_refl _)
      go_wp2_with fail
      go_ret2
      exact ⟨a6, m6, c6, z6, a7, m7, c7, z7, rfl, s6, u6, k6, s7, u7, k7, by rw [← HNX.out, ← HNY.out, HYN.out, N5.out, n6, n7], by omega, by rw [← HNY.out, HYN.out, n7]; exact r1, by omega, by omega, step (step (step HB.out b5) b6) b7⟩
    · obtain ⟨n, rfl⟩ : ∃ n, lb = n + 1 := ⟨lb - 1, by omega⟩
      have g1 : ((n : Int) + 1 == 1) = false := by simp; omega
      have LG := rlongd_any a b la ca n cb xs ys wb ha hb hx hy HUY.out (by omega) (by omega)
      have HLG : Hid (Calls Tryz.prog _ _ _ _) := LG
      clear LG
      go_wp2_with fail
      refine HLG.out.mono ?_
      rintro e w5 ⟨a5, m5, c5, d5, a6, m6, c6, d6, rfl, s5, L5, l5, s6, L6, l6, n5, r0, r1, b5⟩
      clear HLG
      go_wp2_with fail
      refine (limbsr_any a5 m5 c5 d5 w5 s5 L5 (by omega)).mono ?_
      rintro e w7 ⟨a7, m7, c7, z7, rfl, k7, l7, s7, u7, n7, b7⟩
      replace s6 := s6.below b7 (Nat.le_refl _)
      go_wp2_with fail
      refine (limbsr_any a6 m6 c6 d6 w7 s6 L6 (by omega)).mono ?_
      rintro e w8 ⟨a8, m8, c8, z8, rfl, k8, l8, s8, u8, n8, b8⟩
      replace s7 := s7.below b8 (Nat.le_refl _)
      go_wp2_with fail
      go_ret2
      exact ⟨a7, m7, c7, z7, a8, m8, c8, z8, rfl, s7, u7, k7, s8, u8, k8, by rw [← HNX.out, ← HNY.out, n7, n8]; exact n5, by rw [n8]; exact r0, by rw [n8, ← HNY.out]; exact r1, by omega, by omega, step (step (step HB.out b5) b7) b8⟩
end Go.Proofs.YtblafbbnplfpjaaGreatDoor
