/-
  The document's answers: the difference of two lists of digits, which is the greater, the two words of a number below 2^128.
-/
import Derived.Test.YtkgbhiccjbnldaaRef3
import Derived.Test.YtkgbhiccjbnldaaOrderH
namespace Go.Proofs.Ytkgbhiccjbnldaa
open Go.RowKit Go.Shelf

def DfInv (xs ys cs : List Int) (k : Nat) (c : Int) : Prop :=
  cs.length = k ∧ H.Limbs cs ∧ H.num cs - c * H.pw k = H.num (xs.take k) - H.num (ys.take k) ∧ 0 ≤ c ∧ c ≤ 1
theorem borrow_stepH {v c' s p : Int} (h : v - 4294967296 * c' = s) : v * p - c' * (4294967296 * p) = s * p := by
  rw [← h, Int.sub_mul, Int.mul_comm 4294967296 c', Int.mul_assoc]
theorem df_step {xs ys cs : List Int} {k : Nat} {c : Int} (hx : H.Limbs xs) (hy : H.Limbs ys) (I : DfInv xs ys cs k c) :
    DfInv xs ys (cs ++ [(4294967296 + xs.getD k 0 - ys.getD k 0 - c) % 4294967296]) (k + 1) (1 - (4294967296 + xs.getD k 0 - ys.getD k 0 - c) / 4294967296) := by
  obtain ⟨i1, i2, i3, i4, i5⟩ := I
  have b1 := hx.getD k; have b2 := hy.getD k
  refine ⟨by simp; omega, i2.snoc ⟨by omega, by omega⟩, ?_, by omega, by omega⟩
  have hc := borrow_stepH (v := (4294967296 + xs.getD k 0 - ys.getD k 0 - c) % 4294967296) (c' := 1 - (4294967296 + xs.getD k 0 - ys.getD k 0 - c) / 4294967296) (p := H.pw k) (s := xs.getD k 0 - ys.getD k 0 - c) (by omega)
  rw [H.num_snoc, i1, H.num_take_succ, H.num_take_succ, H.pw]
  rw [Int.sub_mul (xs.getD k 0 - ys.getD k 0), Int.sub_mul (xs.getD k 0)] at hc
  omega
theorem df_end {xs ys cs : List Int} {n : Nat} {c : Int} (hx : H.Limbs xs) (hy : H.Limbs ys) (hn : xs.length = n) (I : DfInv xs ys cs n c) (h : H.num ys ≤ H.num xs) : H.num cs = H.num xs - H.num ys := by
  obtain ⟨i1, i2, i3, i4, i5⟩ := I
  have hu := usedN_le xs
  have hle : usedN ys ≤ usedN xs := by
    rcases Nat.lt_or_ge (usedN xs) (usedN ys) with h' | h'
    · have := H.num_lt_len hx hy h'; omega
    · exact h'
  rw [H.num_take_used xs (by omega), H.num_take_used ys (by omega)] at i3
  have h1 := H.num_lt i2
  rw [i1] at h1
  have : c = 0 ∨ c = 1 := by omega
  rcases this with rfl | rfl
  · simpa using i3
  · rw [Int.one_mul] at i3; omega

set_option maxHeartbeats 1000000 in
theorem difference_any (a b : Option Addr) (la ca lb cb : Nat) (xs ys : List Int) (w : World) (ha : Sl w a la xs) (hb : Sl w b lb ys) (hx : H.Limbs xs) (hy : H.Limbs ys) (h1 : la ≤ 17000000000000) (hle : H.num ys ≤ H.num xs) :
    Calls Try.prog 52 #[.slice a la ca, .slice b lb cb] w fun e w' => DRes w w' e (H.num xs - H.num ys) la := by
  have hza := ha.1
  have HLE : Hid (H.num ys ≤ H.num xs) := hle
  clear hle
  go_enter Try.func52, Try.ntmps52
  go_wp2_with fail
  go_loopw [5, 6, 7] (fun v cc i wr => ∃ (k : Nat) (c : Int) (cs : List Int), i = .int .i64 k ∧ cc = .int .u64 c ∧ k ≤ la ∧ Hid (DfInv xs ys cs k c) ∧ Hid (Gr wr w.heap.size v cs) ∧ Below w.heap.size w wr) (fun _ _ i _ => la - (intOf i).toNat)
  case atStart => exact ⟨0, 0, [], rfl, rfl, by omega, ⟨rfl, H.Limbs.nil, by simp [H.num], by omega, by omega⟩, Gr.nil _ _, Below.refl _ _⟩
  case round =>
    obtain ⟨k, c, cs, rfl, rfl, hk, hI, hG, hbl⟩ := hrel
    have hc0 := hI.out.2.2.2.1
    have hc1 := hI.out.2.2.2.2
    by_cases hlt : k < la
    · have hstep := df_step hx hy hI.out
      have hcl : cs.length ≤ k := by have := hI.out.1; omega
      have b1 := hx.getD k; have b2 := hy.getD k
      have D1 := digit_any a la ca xs k wr (ha.below hbl (Nat.le_refl _)) (by omega)
      have D2 := digit_any b lb cb ys k wr (hb.below hbl (Nat.le_refl _)) (by omega)
      rw [Int.toNat_natCast] at D1 D2
      obtain ⟨x, hxx⟩ : ∃ x, xs.getD k 0 = x := ⟨_, rfl⟩
      obtain ⟨y, hyy⟩ : ∃ y, ys.getD k 0 = y := ⟨_, rfl⟩
      rw [hxx] at D1 hstep b1
      rw [hyy] at D2 hstep b2
      obtain ⟨x1, x2⟩ := b1; obtain ⟨y1, y2⟩ := b2
      obtain ⟨t, ht⟩ : ∃ t, 4294967296 + x - y - c = t := ⟨_, rfl⟩
      rw [ht] at hstep
      have t1 : 0 ≤ t := by omega
      have t2 : t < 8589934592 := by omega
      have HS : Hid (DfInv xs ys (cs ++ [t % 4294967296]) (k + 1) (1 - t / 4294967296)) := hstep
      have hbs := hbl.size
      have HSZ : Hid (w.heap.size ≤ (wr.alloc (.cells (row [t % 4294967296]).toArray 26)).heap.size) := by show _ ≤ _; simp; omega
      clear hstep hxx hyy
      go_wp2_with fail
      refine D1.mono ?_
      rintro e w2 ⟨rfl, hw2⟩
      rw [hw2]
      clear hw2
      go_wp2_with fail
      refine D2.mono ?_
      rintro e w2 ⟨rfl, hw2⟩
      rw [hw2]
      clear hw2 D1 D2
      go_wp2_with (at_builtin; refine wpList_app rfl (.tmp 25) (.tmp 28) rfl w.heap.size u5 cs rfl (hG.out.alloc _) wr.heap.size 1 1 [t % 4294967296] rfl rfl (heap_alloc_new _ _) (by omega) HSZ.out ?_; intro v1 w1 hG1 hb1)
      have hb2 : Below w.heap.size w w1 := (hbl.alloc hbs _).trans hb1
      clear hb1
      go_wp2_with fail
      go_roundw
      case rel => exact ⟨k + 1, _, _, by go_num, rfl, by omega, HS, hG1, hb2⟩
      case measure => simp [intOf]; omega
    · obtain rfl : k = la := by omega
      have HE : Hid (H.num cs = H.num xs - H.num ys) := df_end hx hy hza hI.out HLE.out
      obtain ⟨i1, i2, i3, i4, i5⟩ := hI.out
      obtain ⟨aa, cap, hv, hcap, hsl⟩ := hG.out.sl i2.up
      have hu := usedN_le cs
      have hle : cs.length ≤ k := by omega
      rw [hv]
      clear hG hv i1 i3
      go_wp2_with fail
      refine (cutr_any aa cs.length cap cs _ hsl (by omega) hcap).mono ?_
      rintro e w2 ⟨rfl, rfl⟩
      go_wp2_with fail
      go_ret
      exact ⟨aa, usedN cs, cap, cs.take (usedN cs), rfl, by omega, by omega, hsl.take hu, i2.take _, usedN_take cs (Nat.le_refl _), by rw [H.num_take_used cs (Nat.le_refl _)]; exact HE.out, hbl⟩

set_option maxHeartbeats 1000000 in
theorem order_any (a b : Option Addr) (la ca lb cb : Nat) (xs ys : List Int) (w : World) (ha : Sl w a la xs) (hb : Sl w b lb ys) (hx : H.Limbs xs) (hy : H.Limbs ys) (h1 : la ≤ 17000000000000) (h2 : lb ≤ 17000000000000) (hca : la ≤ ca) (hcb : lb ≤ cb) :
    Calls Try.prog 51 #[.slice a la ca, .slice b lb cb] w fun e w' => e = .returned (.int .i64 (cmp3 (H.num xs) (H.num ys))) ∧ w' = w := by
  have hux := usedN_le xs; have huy := usedN_le ys
  have hza := ha.1; have hzb := hb.1
  have C1 := cutr_any a la ca xs w ha (by omega) hca
  have C2 := cutr_any b lb cb ys w hb (by omega) hcb
  have sa := ha.take (m := usedN xs) (by omega)
  have sb := hb.take (m := usedN ys) (by omega)
  obtain ⟨n, hn⟩ : ∃ n, n = max (usedN xs) (usedN ys) := ⟨_, rfl⟩
  have EN : Hid (max (usedN xs : Int) (usedN ys : Int) = (n : Int)) := by show _ = _; omega
  have hnb : n ≤ 17000000000000 := by omega
  have HNX : Hid (usedN xs ≤ n) := by show _ ≤ _; omega
  have HNY : Hid (usedN ys ≤ n) := by show _ ≤ _; omega
  obtain ⟨ux, hux'⟩ : ∃ u, usedN xs = u := ⟨_, rfl⟩
  obtain ⟨uy, huy'⟩ : ∃ u, usedN ys = u := ⟨_, rfl⟩
  rw [hux'] at C1 sa EN
  rw [huy'] at C2 sb EN
  have uxb : ux ≤ 17000000000000 := by omega
  have uyb : uy ≤ 17000000000000 := by omega
  have HUX : Hid (usedN xs = ux) := hux'
  have HUY : Hid (usedN ys = uy) := huy'
  clear hn hux' huy' hux huy
  go_enter Try.func51, Try.ntmps51
  go_wp2_with fail
  refine C1.mono ?_
  rintro e w2 ⟨rfl, hw2⟩
  rw [hw2]
  clear hw2
  go_wp2_with fail
  refine C2.mono ?_
  rintro e w2 ⟨rfl, hw2⟩
  rw [hw2]
  clear hw2 C1 C2
  go_wp2_with fail
  rw [EN.out]
  go_loop [6] (fun i => ∃ k : Nat, i = .int .i64 ((k : Int) - 1) ∧ k ≤ n ∧ Hid (∀ j, k ≤ j → xs.getD j 0 = ys.getD j 0)) (fun i => (intOf i + 1).toNat)
  case atStart => exact ⟨n, rfl, Nat.le_refl _, fun j hj => by rw [usedN_beyond xs j (by have := HNX.out; omega), usedN_beyond ys j (by have := HNY.out; omega)]⟩
  case round =>
    obtain ⟨k, rfl, hk, hI⟩ := hrel
    by_cases hlt : 0 < k
    · have D1 := digit_any a ux ca (xs.take ux) ((k : Int) - 1) w sa (by omega)
      have D2 := digit_any b uy cb (ys.take uy) ((k : Int) - 1) w sb (by omega)
      have ek : ((k : Int) - 1).toNat = k - 1 := by omega
      rw [ek, ← HUX.out, getD_used] at D1
      rw [ek, ← HUY.out, getD_used] at D2
      rw [HUX.out] at D1
      rw [HUY.out] at D2
      obtain ⟨x, hxx⟩ : ∃ x, xs.getD (k - 1) 0 = x := ⟨_, rfl⟩
      obtain ⟨y, hyy⟩ : ∃ y, ys.getD (k - 1) 0 = y := ⟨_, rfl⟩
      rw [hxx] at D1
      rw [hyy] at D2
      have HX : Hid (xs.getD (k - 1) 0 = x) := hxx
      have HY : Hid (ys.getD (k - 1) 0 = y) := hyy
      clear ek hxx hyy
      by_cases c1 : x < y
      · have E1 : Hid (cmp3 (H.num xs) (H.num ys) = -1) := cmp3_lt (H.num_lt_at (t := k - 1) hx hy (fun j hj => hI.out j (by omega)) (by rw [HX.out, HY.out]; exact c1))
        go_wp2_with fail
        refine D1.mono ?_
        rintro e w2 ⟨rfl, hw2⟩
        rw [hw2]
        clear hw2
        go_wp2_with fail
        refine D2.mono ?_
        rintro e w2 ⟨rfl, hw2⟩
        rw [hw2]
        clear hw2
        go_wp2_with fail
        go_ret
        exact ⟨ret_int E1.out.symm, rfl⟩
      · by_cases c2 : y < x
        · have E1 : Hid (cmp3 (H.num xs) (H.num ys) = 1) := cmp3_gt (H.num_lt_at (t := k - 1) hy hx (fun j hj => (hI.out j (by omega)).symm) (by rw [HX.out, HY.out]; exact c2))
          go_wp2_with fail
          refine D1.mono ?_
          rintro e w2 ⟨rfl, hw2⟩
          rw [hw2]
          clear hw2
          go_wp2_with fail
          refine D2.mono ?_
          rintro e w2 ⟨rfl, hw2⟩
          rw [hw2]
          clear hw2
          go_wp2_with fail
          refine D1.mono ?_
          rintro e w2 ⟨rfl, hw2⟩
          rw [hw2]
          clear hw2
          go_wp2_with fail
          refine D2.mono ?_
          rintro e w2 ⟨rfl, hw2⟩
          rw [hw2]
          clear hw2
          go_wp2_with fail
          go_ret
          exact ⟨ret_int E1.out.symm, rfl⟩
        · have HXY : Hid (x = y) := by show x = y; omega
          go_wp2_with fail
          refine D1.mono ?_
          rintro e w2 ⟨rfl, hw2⟩
          rw [hw2]
          clear hw2
          go_wp2_with fail
          refine D2.mono ?_
          rintro e w2 ⟨rfl, hw2⟩
          rw [hw2]
          clear hw2
          go_wp2_with fail
          refine D1.mono ?_
          rintro e w2 ⟨rfl, hw2⟩
          rw [hw2]
          clear hw2
          go_wp2_with fail
          refine D2.mono ?_
          rintro e w2 ⟨rfl, hw2⟩
          rw [hw2]
          clear hw2
          go_wp2_with fail
          go_round
          case rel =>
            refine ⟨k - 1, by rw [show ((k - 1 : Nat) : Int) = (k : Int) - 1 by omega], by omega, ?_⟩
            intro j hj
            by_cases hj' : j = k - 1
            · rw [hj', HX.out, HY.out, HXY.out]
            · exact hI.out j (by omega)
          case measure => simp [intOf]; omega
    · have E1 : Hid (cmp3 (H.num xs) (H.num ys) = 0) := cmp3_eq (H.num_eq_of fun j => hI.out j (by omega))
      obtain rfl : k = 0 := by omega
      go_wp2_with fail
      go_ret
      exact ⟨ret_int E1.out.symm, rfl⟩

theorem low_any (a : Option Addr) (la ca : Nat) (zs : List Int) (w : World) (h : Sl w a la zs) (hz : H.Limbs zs) :
    Calls Try.prog 48 #[.slice a la ca] w fun e w' => e = .returned (.int .u64 (H.num zs % 18446744073709551616)) ∧ w' = w := by
  have e1 : H.num zs % 18446744073709551616 = zs.getD 0 0 + 4294967296 * zs.getD 1 0 := by
    have := H.num_two zs
    have b1 := hz.getD 0; have b2 := hz.getD 1
    omega
  rw [e1]
  have b1 := hz.getD 0; have b2 := hz.getD 1
  have D1 := digit_any a la ca zs 0 w h (by omega)
  have D2 := digit_any a la ca zs 1 w h (by omega)
  rw [show (0 : Int).toNat = 0 from rfl] at D1
  rw [show (1 : Int).toNat = 1 from rfl] at D2
  generalize zs.getD 0 0 = x at *
  generalize zs.getD 1 0 = y at *
  obtain ⟨x1, x2⟩ := b1; obtain ⟨y1, y2⟩ := b2
  clear e1 h
  go_enter Try.func48, Try.ntmps48
  go_wp2_with fail
  refine D1.mono ?_
  rintro e w2 ⟨rfl, hw2⟩
  rw [hw2]
  clear hw2
  go_wp2_with fail
  refine D2.mono ?_
  rintro e w2 ⟨rfl, hw2⟩
  rw [hw2]
  clear hw2
  go_wp2_with fail
  go_ret
  exact ⟨rfl, rfl⟩
theorem high_any (a : Option Addr) (la ca : Nat) (zs : List Int) (w : World) (h : Sl w a la zs) (hz : H.Limbs zs) :
    Calls Try.prog 49 #[.slice a la ca] w fun e w' => e = .returned (.int .u64 (H.num zs / 18446744073709551616 % 18446744073709551616)) ∧ w' = w := by
  have b1 := hz.getD 2; have b2 := hz.getD 3
  have e1 : H.num zs / 18446744073709551616 % 18446744073709551616 = zs.getD 2 0 + 4294967296 * zs.getD 3 0 := by
    have h1 := H.num_two zs
    have h2 := H.num_two (zs.drop 2)
    have b3 := hz.getD 0; have b4 := hz.getD 1
    have g1 : (zs.drop 2).getD 0 0 = zs.getD 2 0 := by rw [List.getD_eq_getElem?_getD, List.getElem?_drop, ← List.getD_eq_getElem?_getD]
    have g2 : (zs.drop 2).getD 1 0 = zs.getD 3 0 := by rw [List.getD_eq_getElem?_getD, List.getElem?_drop, ← List.getD_eq_getElem?_getD]
    rw [g1, g2] at h2
    omega
  rw [e1]
  have D1 := digit_any a la ca zs 2 w h (by omega)
  have D2 := digit_any a la ca zs 3 w h (by omega)
  rw [show (2 : Int).toNat = 2 from rfl] at D1
  rw [show (3 : Int).toNat = 3 from rfl] at D2
  generalize zs.getD 2 0 = x at *
  generalize zs.getD 3 0 = y at *
  obtain ⟨x1, x2⟩ := b1; obtain ⟨y1, y2⟩ := b2
  clear e1 h
  go_enter Try.func49, Try.ntmps49
  go_wp2_with fail
  refine D1.mono ?_
  rintro e w2 ⟨rfl, hw2⟩
  rw [hw2]
  clear hw2
  go_wp2_with fail
  refine D2.mono ?_
  rintro e w2 ⟨rfl, hw2⟩
  rw [hw2]
  clear hw2
  go_wp2_with fail
  go_ret
  exact ⟨rfl, rfl⟩
end Go.Proofs.Ytkgbhiccjbnldaa
