/-
  apart: a list times a limb less another times a limb.
-/
import Derived.Test.YtckfgolijlggbaaAddT
import Derived.Test.YtckfgolijlggbaaLessT
import Derived.Test.YtckfgolijlggbaaHeld
namespace Go.Proofs.Ytckfgolijlggbaa
open Go.RowKit Go.Shelf

/-- What is still to be taken off stands from place i on. -/
def CInv (N : Int) (L i : Nat) (c : Int) (cs : List Int) : Prop := cs.length = L ∧ Limbs cs ∧ num cs - c * pw i = N ∧ 0 ≤ c ∧ c < 18446744073709551616
theorem ring_c {M c v y q p N : Int} (h : M - c * p = N) (h2 : v + 18446744073709551616 * q = y - c) : M + (v - y) * p - -q * (18446744073709551616 * p) = N := by grind
theorem cinv_in {N : Int} {L i : Nat} {c : Int} {cs : List Int} (I : CInv N L i c cs) (h0 : 0 ≤ N) (hc : 0 < c) : i < L := by
  obtain ⟨h1, h2, h3, h4, h5⟩ := I
  have h6 := num_lt h2
  rw [h1] at h6
  have h7 : 1 * pw i ≤ c * pw i := mul_le (Int.le_of_lt (pw_pos i)) (by omega)
  rcases Nat.lt_or_ge i L with h | h
  · exact h
  · have := pw_mono h; omega
theorem cinv_step {N : Int} {L i : Nat} {c : Int} {cs : List Int} (I : CInv N L i c cs) (h : i < L) :
    CInv N L (i + 1) (-((cs.getD i 0 - c) / 18446744073709551616)) (cs.set i ((cs.getD i 0 - c) % 18446744073709551616)) := by
  obtain ⟨h1, h2, h3, h4, h5⟩ := I
  have hb := h2.getD i
  have hs := num_set (cs := cs) (i := i) ((cs.getD i 0 - c) % 18446744073709551616) (by omega)
  have hpw : pw (i + 1) = 18446744073709551616 * pw i := rfl
  generalize cs.getD i 0 = y at *
  refine ⟨by rw [List.length_set]; exact h1, h2.set _ ⟨by omega, by omega⟩, ?_, by omega, by omega⟩
  rw [hs, hpw]
  exact ring_c h3 (by omega)
theorem cinv_end {N : Int} {L i : Nat} {cs : List Int} (I : CInv N L i 0 cs) : num cs = N := by
  have := I.2.2.1
  rw [Int.zero_mul] at this; omega

theorem apart_first {xs ds : List Int} {p c : Int} {lx L : Nat} (hx : xs.length = lx) (hl : lx < L) (B : BInv (List.replicate L 0) xs p 0 lx c ds) : (ds.set lx c).length = L ∧ Limbs (ds.set lx c) ∧ num (ds.set lx c) = num xs * p := by
  obtain ⟨b1, b2, b3, b4, b5, b6⟩ := B
  rw [List.length_replicate] at b1
  have z : ds.getD lx 0 = 0 := by
    rw [b3 lx (.inr (by omega)), List.getD_eq_getElem?_getD, List.getElem?_replicate]; split <;> rfl
  refine ⟨by rw [List.length_set]; exact b1, b2.set _ ⟨b5, b6⟩, ?_⟩
  rw [num_set c (by omega), z, Int.sub_zero]
  rw [num_zeros, List.take_of_length_le (by omega), Nat.zero_add] at b4
  simp only [pw, Int.mul_one] at b4
  omega
theorem apart_next {cs ys ds : List Int} {X q c N : Int} {ly L : Nat} (hy : ys.length = ly) (hl : cs.length = L) (hn : num cs = X) (hN : X - num ys * q = N) (R : RInv cs ys q 0 ly c ds) : CInv N L ly c ds := by
  obtain ⟨r1, r2, r3, r4, r5, r6⟩ := R
  rw [List.take_of_length_le (by omega), Nat.zero_add, hn] at r4
  simp only [pw, Int.mul_one] at r4
  exact ⟨by omega, r2, by omega, r5, r6⟩

set_option maxHeartbeats 4000000 in
theorem apart_any (x y : Option Addr) (lx kx ly ky : Nat) (xs ys : List Int) (p q : Int) (w : World) (hx : Sl w x lx xs) (hy : Sl w y ly ys) (h1 : lx ≤ 4096) (h2 : ly ≤ 4096) (hp : Word p) (hq : Word q) (N : Int) (hN : num xs * p - num ys * q = N) (h0 : 0 ≤ N)
    (hfit : ∀ cs, Limbs cs → num cs = N → usedN cs ≤ 4096) :
    Calls Try.prog 62 #[.slice x lx kx, .slice y ly ky, .int .u64 p, .int .u64 q] w fun e w' => ∃ a' l' c' zs, e = .returned (.agg #[.slice a' l' c']) ∧ Nt w' a' l' c' zs ∧ num zs = N ∧ Below w.heap.size w w' := by
  obtain ⟨L, hL⟩ : ∃ L, L = max lx ly + 1 := ⟨_, rfl⟩
  have hmk := make_row L (by omega)
  have en : max (lx : Int) (ly : Int) + 1 = (L : Int) := by omega
  have hlx : lx < L := by omega
  have hly : ly < L := by omega
  have hL2 : L ≤ 4097 := by omega
  have hzx := hx.1; have hzy := hy.1
  have HX : Hid (Sl w x lx xs) := hx
  have HY : Hid (Sl w y ly ys) := hy
  have HNN : Hid (num xs * p - num ys * q = N) := hN
  clear hx hy hN hL
  go_enter Try.func62, Try.ntmps62
  go_wp2_with fail
  refine ent2 w _ _ _ _ (Q := fun W => Calls Try.prog _ _ W _) ?_
  intro w0 B0 hs V0 V1
  have HO0 : Hid (Own w0 (w.heap.size + 1) (List.replicate L 0)) := V1
  have HXX : Hid (Sx (w.heap.size + 1) w0 x lx xs) := HX.out.apart B0 (by omega)
  have HYY : Hid (Sx (w.heap.size + 1) w0 y ly ys) := HY.out.apart B0 (by omega)
  have HV : Hid (Va w0 w.heap.size 27 #[.slice none 0 0]) := V0
  have HB : Hid (Below w.heap.size w w0) := B0
  clear V0 V1 B0 hmk HX HY hs
  refine (addTimes_any (w.heap.size + 1) 0 lx L kx (List.replicate L 0) xs x p w0 HO0.out (Limbs.zeros _) (by simp; omega) HXX.out (by omega) hp).mono ?_
  rintro e w1 ⟨cc1, ds1, rfl, ho1, hB1, hon1⟩
  obtain ⟨q1, q2, q3⟩ := apart_first hzx hlx hB1
  have hlen1 := hB1.1
  rw [List.length_replicate] at hlen1
  have hc1 := ho1.cell lx (by omega)
  have hf1 := ho1.frozen lx
  have HO1 : Hid (Own w1 (w.heap.size + 1) ds1) := ho1
  have HON1 : Hid (Only (w.heap.size + 1) w0 w1) := hon1
  have HQ1 : Hid ((ds1.set lx cc1).length = L) := q1
  have HQ2 : Hid (Limbs (ds1.set lx cc1)) := q2
  have HQ3 : Hid (num (ds1.set lx cc1) = num xs * p) := q3
  clear ho1 hon1 hB1 q1 q2 q3 hlen1 HO0
  go_wp2_with fail
  have HO2 : Hid (Own (w1.setCell ⟨w.heap.size + 1, lx, none⟩ (.int .u64 cc1)) (w.heap.size + 1) (ds1.set lx cc1)) := Own.set HO1.out lx cc1
  have HON2 : Hid (Only (w.heap.size + 1) w0 (w1.setCell ⟨w.heap.size + 1, lx, none⟩ (.int .u64 cc1))) := Only.set HON1.out lx _
  generalize w1.setCell ⟨w.heap.size + 1, lx, none⟩ (.int .u64 cc1) = w2 at *
  refine (lessTimes_any (w.heap.size + 1) 0 ly L ky (ds1.set lx cc1) ys y q w2 HO2.out HQ2.out (by rw [HQ1.out]; omega) (HYY.out.only HON2.out) (by omega) hq).mono ?_
  rintro e w3 ⟨cc3, ds3, rfl, ho3, hR3, hon3⟩
  have HC3 : Hid (CInv N L ly cc3 ds3) := apart_next hzy HQ1.out HQ3.out HNN.out hR3
  have HO3 : Hid (Own w3 (w.heap.size + 1) ds3) := ho3
  have HON3 : Hid (Only (w.heap.size + 1) w0 w3) := HON2.out.trans hon3
  clear ho3 hon3 hR3 HO1 HO2 HON1 HON2 hc1 hf1 HQ1 HQ2 HQ3
  go_wp2_with fail
  go_loopw [10, 11] (fun cc ii wr => ∃ (k : Nat) (c : Int) (cs : List Int), k ≤ L ∧ ii = .int .i64 k ∧ cc = .int .u64 c ∧ Hid (CInv N L k c cs) ∧ Hid (Own wr (w.heap.size + 1) cs) ∧ Hid (Only (w.heap.size + 1) w0 wr)) (fun _ ii _ => L - (intOf ii).toNat)
  case atStart => exact ⟨ly, cc3, ds3, by omega, rfl, rfl, HC3, HO3, HON3⟩
  case round =>
    clear HC3 HO3 HON3
    obtain ⟨k, c, cs, hk, rfl, rfl, hI, hO, hON⟩ := hrel
    have hcn := hI.out.2.2.2.1
    have hcw := hI.out.2.2.2.2
    by_cases hc : c = 0
    · subst hc
      have hnum := cinv_end hI.out
      have hlen := hI.out.1
      have hsl := hO.out.sl hI.out.2.1
      rw [hlen] at hsl
      have V4 := HV.out.only hON.out (by omega)
      have B4 := HB.out.trans (hON.out.below (show w.heap.size ≤ w.heap.size + 1 by omega))
      have hu := hfit cs hI.out.2.1 hnum
      go_wp2_with fail
      refine (made_ok _ L L cs wr hsl (by omega) (Nat.le_refl _) hu).mono ?_
      rintro e w5 ⟨rfl, hb5⟩
      have hnt := nt_made (hsl.below hb5 (Nat.le_refl _)) (Nat.le_refl _) hu
      replace V4 := V4.kept hb5
      replace B4 := step B4 hb5
      have c4 := V4.cell
      have f4 := V4.frozen 0
      have l4 := V4.lt
      go_wp2_with fail
      refine bodyPost_ret (results_c rfl rfl ((V4.set _).old _)) rfl ?_
      have B5 := B4.setCell (p := ⟨w.heap.size, 0, none⟩) (Nat.le_refl _) (.slice (some ⟨w.heap.size + 1, 0, none⟩) (usedN cs) L)
      exact ⟨_, _, _, _, rfl, (hnt.store V4 _).al _, (num_take_used cs (Nat.le_refl _)).trans hnum, B5.alloc (by rw [size_set]; omega) _⟩
    · have hlt := cinv_in hI.out h0 (by omega)
      have hlen := hI.out.1
      have hstep := cinv_step hI.out hlt
      have hw1 := hI.out.2.1.getD k
      have hcx := hO.out.cell k (by omega)
      have hfx := hO.out.frozen k
      obtain ⟨v, hv⟩ : ∃ v, cs.getD k 0 = v := ⟨_, rfl⟩
      rw [hv] at hstep hw1 hcx
      have A := sub_any v c 0 hw1 ⟨hcn, hcw⟩ ⟨by decide, by decide⟩ wr
      simp only [Int.sub_zero] at A
      have HS : Hid (CInv N L (k + 1) (-((v - c) / 18446744073709551616)) (cs.set k ((v - c) % 18446744073709551616))) := hstep
      have hcp : 0 < c := by omega
      clear hstep hv hc
      go_wp2_with fail
      refine A.mono ?_
      rintro e w4 ⟨rfl, rfl⟩
      go_wp2_with fail
      go_roundw
      case rel => exact ⟨k + 1, _, _, by omega, by go_num, rfl, HS, Own.set hO.out k _, Only.set hON.out k _⟩
      case measure => simp [intOf]; omega
end Go.Proofs.Ytckfgolijlggbaa
