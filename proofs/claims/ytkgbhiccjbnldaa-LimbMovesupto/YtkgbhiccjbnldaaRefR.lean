/-
  The document's answer: a list of limbs moved down by any number of binary digits.
-/
import Derived.Test.YtkgbhiccjbnldaaRefS
namespace Go.Proofs.Ytkgbhiccjbnldaa
open Go.RowKit Go.Shelf

theorem Hnum_drop_at (zs : List Int) (t : Nat) (h : t < zs.length) : H.num (zs.drop t) = zs.getD t 0 + 4294967296 * H.num (zs.drop (t + 1)) := by
  rw [List.drop_eq_getElem_cons h, H.num, List.getD_eq_getElem?_getD, List.getElem?_eq_getElem h]; rfl
theorem Hnum_set_drop (zs : List Int) (t : Nat) (v : Int) (h : t < zs.length) : H.num ((zs.set t v).drop t) = v + 4294967296 * H.num (zs.drop (t + 1)) := by
  rw [Hnum_drop_at _ _ (by rw [List.length_set]; exact h), List.getD_eq_getElem?_getD, List.getElem?_set_self h, List.drop_set_of_lt (by omega)]; rfl
def RvInv (zs cs : List Int) (b : Int) (t : Nat) (r : Int) : Prop :=
  cs.length = zs.length ∧ H.Limbs cs ∧ H.num (zs.drop t) = H.num (cs.drop t) * b + r ∧ 0 ≤ r ∧ r < b
theorem rv_step {zs cs : List Int} {b : Int} {t : Nat} {r : Int} (hz : H.Limbs zs) (I : RvInv zs cs b (t + 1) r) (h : t < zs.length) :
    RvInv zs (cs.set t ((4294967296 * r + zs.getD t 0) / b)) b t ((4294967296 * r + zs.getD t 0) % b) := by
  obtain ⟨i1, i2, i4, i5, i6⟩ := I
  have b1 := hz.getD t
  have hm := Int.emod_nonneg (4294967296 * r + zs.getD t 0) (b := b) (by omega)
  have hml := Int.emod_lt_of_pos (4294967296 * r + zs.getD t 0) (b := b) (by omega)
  have hd0 : 0 ≤ (4294967296 * r + zs.getD t 0) / b := Int.ediv_nonneg (by omega) (by omega)
  have hd1 : (4294967296 * r + zs.getD t 0) / b < 4294967296 := Int.ediv_lt_of_lt_mul (by omega) (by omega)
  refine ⟨by rw [List.length_set]; exact i1, i2.set t ⟨hd0, hd1⟩, ?_, hm, hml⟩
  have hdm := Int.mul_ediv_add_emod (4294967296 * r + zs.getD t 0) b
  rw [Hnum_set_drop _ _ _ (by omega), Hnum_drop_at _ _ (by omega), i4, Int.add_mul, Int.mul_assoc]
  rw [Int.mul_comm b] at hdm
  omega
theorem rv_end {zs cs : List Int} {b r : Int} (I : RvInv zs cs b 0 r) : H.num cs = H.num zs / b := by
  obtain ⟨i1, i2, i4, i5, i6⟩ := I
  rw [List.drop_zero, List.drop_zero] at i4
  rw [i4, Int.add_comm, Int.add_mul_ediv_right _ _ (by omega), Int.ediv_eq_zero_of_lt i5 i6, Int.zero_add]
theorem Hdown {ds : List Int} (hd : H.Limbs ds) {p : Nat} (hp : p ≤ ds.length) : H.num (ds.drop p) = H.num ds / H.pw p := by
  have e := H.num_take_drop ds p hp
  have h1 := H.num_lt (hd.take p); have h2 := H.num_nonneg (hd.take p)
  rw [List.length_take, Nat.min_eq_left (by omega)] at h1
  have h3 := H.pw_pos p
  rw [e, Int.add_mul_ediv_right _ _ (by omega), Int.ediv_eq_zero_of_lt h2 h1, Int.zero_add]
theorem right_num (N : Int) (p s t : Nat) (ht : t = 32 * p + s) : N / H.pw p / 2 ^ s = N / 2 ^ t := by
  rw [Hpw_eq, Int.ediv_ediv_of_nonneg (Int.le_of_lt (p2_pos _)), ← Int.pow_add, ht]
theorem rright_zero {ds : List Int} (hd : H.Limbs ds) {m t : Nat} (hl : ds.length = m) (h : m ≤ t / 32) : H.num ds / 2 ^ t = 0 := by
  have h1 := H.num_lt hd
  have h2 := H.pw_mono (show ds.length ≤ t / 32 by omega)
  rw [Hpw_eq (t / 32)] at h2
  have h3 := p2_mono (show 32 * (t / 32) ≤ t by omega)
  exact Int.ediv_eq_zero_of_lt (H.num_nonneg hd) (by omega)

set_option maxHeartbeats 1000000 in
theorem rright_val (a : Option Addr) (la ca : Nat) (xs : List Int) (t : Nat) (w : World) (ha : Sl w a la xs) (h1 : la ≤ 2000000000000) (htb : t ≤ 9223372036854775807) :
    Calls Try.prog 37 #[.slice a la ca, .int .i64 t] w fun e w' =>
      ∃ a' m c zs, e = .returned (.tuple #[.slice a' m c, .int .i64 0]) ∧ m ≤ c ∧ m ≤ 2 * la ∧ Sl w' a' m zs ∧ usedN zs = m ∧ num zs = num xs / 2 ^ t ∧ Below w.heap.size w w' := by
  obtain ⟨p, hp⟩ : ∃ p, t / 32 = p := ⟨_, rfl⟩
  obtain ⟨s, hs⟩ : ∃ s, t % 32 = s := ⟨_, rfl⟩
  have ep : (t : Int) / 32 = p := by omega
  have es : (t : Int) % 32 = s := by omega
  have HP : Hid (t / 32 = p) := hp
  have HT : Hid (t = 32 * p + s) := by show t = 32 * p + s; omega
  have hs31 : s ≤ 31 := by omega
  have m1 : min s 64 = s := by omega
  obtain ⟨pp1, pp2⟩ := p2_half hs31
  obtain ⟨PP, hPP⟩ : ∃ q : Int, (2 : Int) ^ s = q := ⟨_, rfl⟩
  have HPP : Hid ((2 : Int) ^ s = PP) := hPP
  rw [hPP] at pp1 pp2
  have hwr : IntKind.u64.wrap PP = PP := by rw [IntKind.wrap_u64]; omega
  clear hp hs
  go_enter Try.func37, Try.ntmps37
  go_wp2_with fail
  refine (digits_any a la ca xs _ ha (by omega)).mono ?_
  rintro e w1 ⟨a1, m, c, ds, rfl, k1, l1, t1, L1, u1, n1, b1⟩
  have N1 : Hid (H.num ds = num xs) := n1
  clear n1 u1 ha
  by_cases hge : m ≤ p
  · have HZ : Hid (num xs / 2 ^ t = 0) := by show _ = _; rw [← N1.out]; exact rright_zero L1 t1.1 (by rw [HP.out]; exact hge)
    have q1 : (m : Int) ≤ p := by omega
    clear hPP hwr
    go_wp2_with fail
    go_ret2
    exact ⟨none, 0, 0, [], rfl, Nat.le_refl _, by omega, ⟨rfl, Limbs.nil, fun h => absurd h (by decide)⟩, rfl, by rw [HZ.out]; rfl, b1⟩
  · obtain ⟨bb, oo, rfl, -⟩ := t1.2.2 (by omega)
    have td := t1.drop (p := p) (by omega)
    have hld : (ds.drop p).length = m - p := by rw [List.length_drop, t1.1]
    obtain ⟨D, hD⟩ : ∃ D, ds.drop p = D := ⟨_, rfl⟩
    have ND : Hid (H.num D = num xs / H.pw p) := by show _ = _; rw [← hD, ← N1.out]; exact Hdown L1 (by rw [t1.1]; omega)
    have LD : H.Limbs D := by rw [← hD]; exact L1.drop p
    rw [hD] at td hld
    have HLD : Hid (D.length = m - p) := hld
    have q1 : ¬ (m : Int) ≤ p := by omega
    have q2 : (p : Int) ≤ m := by omega
    have q3 : ¬ c = p := by omega
    have q4 : p ≤ m := by omega
    have hmk := make_row (m - p) (by omega)
    have ec : ((m - p : Nat) : Int) = (m : Int) - p := by omega
    obtain ⟨n, hn⟩ : ∃ n, m - p = n := ⟨_, rfl⟩
    have hnb : n ≤ 16000000000000 := by omega
    have hn0 : n ≤ 2 * la := by omega
    rw [hn] at td HLD hmk ec
    have I0 : Hid (RvInv D (List.replicate n 0) PP n 0) := by
      refine ⟨by simp [HLD.out], H.Limbs.zeros _, ?_, by omega, pp1⟩
      have e1 : D.drop n = [] := List.drop_eq_nil_of_le (by rw [HLD.out]; exact Nat.le_refl _)
      have e2 : (List.replicate n (0 : Int)).drop n = [] := List.drop_eq_nil_of_le (by simp)
      rw [e1, e2]; simp [H.num]
    have O0 : Hid (Own (w1.alloc (.cells (row (List.replicate n 0)).toArray 26)) w1.heap.size (List.replicate n 0)) := heap_alloc_new _ _
    have HTD : Hid (Sl w1 (some ⟨bb, oo + p, none⟩) n D) := td
    clear hD td hld t1 hge ec
    go_wp2_with fail
    clear hmk
    have hB1 : Below w1.heap.size w1 (w1.alloc (.cells (row (List.replicate n 0)).toArray 26)) := (Below.refl _ _).alloc (Nat.le_refl _) _
    go_loopw [8, 9] (fun rr ii wr => ∃ (k : Nat) (r : Int) (cs : List Int), ii = .int .i64 ((k : Int) - 1) ∧ rr = .int .u64 r ∧ k ≤ n ∧ Hid (RvInv D cs PP k r) ∧ Hid (Own wr w1.heap.size cs) ∧ Below w1.heap.size w1 wr) (fun _ ii _ => (intOf ii + 1).toNat)
    case atStart => exact ⟨n, 0, _, rfl, rfl, Nat.le_refl _, I0, O0, hB1⟩
    case round =>
      obtain ⟨k, r, cs, rfl, rfl, hk, hI, hO, hbl⟩ := hrel
      by_cases h0 : k = 0
      · subst h0
        have HE : Hid (H.num cs = H.num D / PP) := rv_end hI.out
        obtain ⟨i1, i2, i3, i4, i5⟩ := hI.out
        have hsl := hO.out.sl i2.up
        rw [i1, HLD.out] at hsl
        have hu := usedN_le cs
        have hle : usedN cs ≤ n := by have := HLD.out; omega
        clear i1 i3 hPP hwr
        go_wp2_with fail
        refine (cutr_any (some ⟨w1.heap.size, 0, none⟩) n n cs _ hsl (by omega) (Nat.le_refl _)).mono ?_
        rintro e w2 ⟨rfl, hw⟩
        rw [hw]
        clear hw
        have t2 := hsl.take hle
        have B2 := step b1 hbl
        go_wp2_with fail
        refine (limbsr_any (some ⟨w1.heap.size, 0, none⟩) (usedN cs) n (cs.take (usedN cs)) _ t2 (i2.take _) (by omega)).mono ?_
        rintro e w6 ⟨a6, m6, c6, d6, rfl, k6, l6, t6, u6, n6, b6⟩
        have N6 : Hid (num d6 = num xs / 2 ^ t) := by
          show _ = _
          rw [n6, H.num_take_used cs (Nat.le_refl _), HE.out, ND.out, ← right_num (num xs) p s t HT.out, HPP.out]
        clear n6
        go_wp2_with fail
        go_ret2
        exact ⟨a6, m6, c6, d6, rfl, k6, by omega, t6, u6, N6.out, step B2 b6⟩
      · obtain ⟨j, rfl⟩ : ∃ j, k = j + 1 := ⟨k - 1, by omega⟩
        have hs := HTD.out.below hbl (Nat.le_refl _)
        obtain ⟨ba, oa, e9, hc⟩ := hs.2.2 (by omega)
        cases e9
        have hcx := hc j (by omega)
        have hxw := LD.getD j
        have hstep := rv_step LD hI.out (by rw [HLD.out]; omega)
        have hcy := hO.out.cell j (by rw [hI.out.1, HLD.out]; omega)
        have hfy := hO.out.frozen j
        have hr0 := hI.out.2.2.2.1
        have hr1 := hI.out.2.2.2.2
        obtain ⟨x, hx⟩ : ∃ x, D.getD j 0 = x := ⟨_, rfl⟩
        rw [hx] at hcx hxw hstep
        obtain ⟨x1, x2⟩ := hxw
        obtain ⟨y, hy⟩ : ∃ y, 4294967296 * r + x = y := ⟨_, rfl⟩
        rw [hy] at hstep
        have y1 : 0 ≤ y := by omega
        have y2 : y < 18446744073709551616 := by omega
        have r2 : r < 4294967296 := by omega
        have HS : Hid (RvInv D (cs.set j (y / PP)) PP j (y % PP)) := hstep
        have jn : (j : Int) < n := by omega
        rw [show (((j + 1 : Nat) : Int) - 1) = (j : Int) by omega]
        clear hstep hx hs hc h0
        go_wp2_with fail
        go_roundw
        case rel => exact ⟨j, _, _, rfl, rfl, by omega, HS, Own.set hO.out j _, hbl.setCell (Nat.le_refl _) _⟩
        case measure => simp [intOf]
end Go.Proofs.Ytkgbhiccjbnldaa
