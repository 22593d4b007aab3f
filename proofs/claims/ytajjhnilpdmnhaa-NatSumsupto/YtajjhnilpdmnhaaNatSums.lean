/-
  NatSums, second form: for any two lists of limbs, where what is read is of bulk at most 1048576, the statement's Go text returns true: Compare, Add and Sub answer as the document's own reckoning does.
-/
import Derived.Test.YtajjhnilpdmnhaaOrder
import Derived.Test.YtajjhnilpdmnhaaNumsH
import Derived.Test.YtajjhnilpdmnhaaNRef2
import Derived.Test.YtajjhnilpdmnhaaLaw3
import Derived.Test.YtajjhnilpdmnhaaFits
import Derived.Test.YtajjhnilpdmnhaaHeld3
import Derived.Test.YtajjhnilpdmnhaaRows
import Derived.ProofKit
import Derived.OpenShut
import Derived.ShutString
import Derived.ChangeOld
import Derived.SizedLaws
import Derived.JoinedCond
namespace Go.Proofs.Ytajjhnilpdmnhaa.H
theorem num_above {a b : List Int} {t : Nat} (h : ∀ j, t ≤ j → a.getD j 0 = b.getD j 0) : ∀ k, num (a.take (t + k)) - num (a.take t) = num (b.take (t + k)) - num (b.take t)
  | 0 => by simp only [Nat.add_zero]; omega
  | k + 1 => by
    have ih := num_above h k
    rw [← Nat.add_assoc, num_take_succ, num_take_succ, h (t + k) (by omega)]; omega
theorem num_above' {a b : List Int} {t : Nat} (h : ∀ j, t ≤ j → a.getD j 0 = b.getD j 0) : num a - num (a.take t) = num b - num (b.take t) := by
  have e := num_above h (a.length + b.length)
  have e1 : a.take (t + (a.length + b.length)) = a := List.take_of_length_le (by omega)
  have e2 : b.take (t + (a.length + b.length)) = b := List.take_of_length_le (by omega)
  rw [e1, e2] at e; exact e
/-- The highest limb in which they differ decides. -/
theorem num_lt_at {a b : List Int} {t : Nat} (ha : Limbs a) (hb : Limbs b) (h : ∀ j, t < j → a.getD j 0 = b.getD j 0) (hlt : a.getD t 0 < b.getD t 0) : num a < num b := by
  have e := num_above' (t := t + 1) (fun j hj => h j (by omega))
  rw [num_take_succ, num_take_succ] at e
  have h1 := num_lt (ha.take t); have h2 := num_nonneg (hb.take t)
  have h3 : num (a.take t) < pw t := by
    refine Int.lt_of_lt_of_le h1 (pw_mono ?_)
    rw [List.length_take]; omega
  have h4 : (a.getD t 0 + 1) * pw t ≤ b.getD t 0 * pw t := Int.mul_le_mul_of_nonneg_right (by omega) (by have := pw_pos t; omega)
  rw [Int.add_mul, Int.one_mul] at h4
  omega
theorem num_lt_len {a b : List Int} (ha : Limbs a) (hb : Limbs b) (h : usedN a < usedN b) : num a < num b := by
  have h1 := num_lt_used ha; have h2 := num_ge_used hb (by omega)
  have := pw_mono (show usedN a ≤ usedN b - 1 by omega); omega
theorem num_eq_of {a b : List Int} (h : ∀ j, a.getD j 0 = b.getD j 0) : num a = num b := by
  have e := num_above' (a := a) (b := b) (t := 0) (fun j _ => h j)
  simp [num] at e; omega
theorem num_set (zs : List Int) (j : Nat) (v : Int) (h : j < zs.length) : num (zs.set j v) = num zs + (v - zs.getD j 0) * pw j := by
  have e := num_above' (a := zs.set j v) (b := zs) (t := j + 1) (fun i hi => getD_set_other zs j i v (by omega))
  rw [num_set_take _ _ _ h, num_take_succ] at e
  rw [Int.sub_mul]
  omega
theorem num_two (zs : List Int) : num zs = zs.getD 0 0 + 4294967296 * zs.getD 1 0 + 18446744073709551616 * num (zs.drop 2) := by
  match zs with
  | [] => simp [num]
  | [x] => simp [num]
  | x :: y :: r => simp [num]; omega
end Go.Proofs.Ytajjhnilpdmnhaa.H
namespace Go.Proofs.Ytajjhnilpdmnhaa
open Go.RowKit Go.Shelf

def DfInv (xs ys cs : List Int) (k : Nat) (c : Int) : Prop :=
  cs.length = k ∧ H.Limbs cs ∧ H.num cs - c * H.pw k = H.num (xs.take k) - H.num (ys.take k) ∧ 0 ≤ c ∧ c ≤ 1
theorem borrow_stepH {v c' s p : Int} (h : v - 4294967296 * c' = s) : v * p - c' * (4294967296 * p) = s * p := by
  rw [← h, Int.sub_mul, Int.mul_comm 4294967296 c', Int.mul_assoc]
theorem df_step {xs ys cs : List Int} {k : Nat} {c : Int} (hx : H.Limbs xs) (hy : H.Limbs ys) (I : DfInv xs ys cs k c) :
    DfInv xs ys (cs ++ [(4294967296 + xs.getD k 0 - ys.getD k 0 - c) % 4294967296]) (k + 1) (1 - (4294967296 + xs.getD k 0 - ys.getD k 0 - c) / 4294967296) := by
  obtain ⟨i1, i2, i3, i4, i5⟩ := I
  have b1 := hx.getD k; have b2 := hy.getD k
  refine ⟨by simp; omega, i2.snoc ⟨by omega, by omega⟩, ?_, by omega, by omega⟩
  have hc := borrow_stepH (v := (4294967296 + xs.getD k 0 - ys.getD k 0 - c) % 4294967296) (c' := 1 - (4294967296 + xs.getD k 0 - ys.getD k 0 - c) / 4294967296) (p := H.pw k) (s := xs.getD k 0 - ys.getD k 0 - c) (by omega)
  rw [H.num_snoc, i1, H.num_take_succ, H.num_take_succ, H.pw]
  rw [Int.sub_mul (xs.getD k 0 - ys.getD k 0), Int.sub_mul (xs.getD k 0)] at hc
  omega
theorem df_end {xs ys cs : List Int} {n : Nat} {c : Int} (hx : H.Limbs xs) (hy : H.Limbs ys) (hn : xs.length = n) (I : DfInv xs ys cs n c) (h : H.num ys ≤ H.num xs) : H.num cs = H.num xs - H.num ys := by
  obtain ⟨i1, i2, i3, i4, i5⟩ := I
  have hu := usedN_le xs
  have hle : usedN ys ≤ usedN xs := by
    rcases Nat.lt_or_ge (usedN xs) (usedN ys) with h' | h'
    · have := H.num_lt_len hx hy h'; omega
    · exact h'
  rw [H.num_take_used xs (by omega), H.num_take_used ys (by omega)] at i3
  have h1 := H.num_lt i2
  rw [i1] at h1
  have : c = 0 ∨ c = 1 := by omega
  rcases this with rfl | rfl
  · simpa using i3
  · rw [Int.one_mul] at i3; omega


set_option maxHeartbeats 2000000 in
theorem rsub_any (a0 a1 : Option Addr) (l0 k0 l1 k1 : Nat) (z0 z1 : List Int) (w : World) (ha0 : Sl w a0 l0 z0) (hb0 : Sl w a1 l1 z1) (h1 : l0 ≤ 2000000000000) (h2 : l1 ≤ 2000000000000) (hle : num z1 ≤ num z0) :
    Calls Try.prog 30 #[.slice a0 l0 k0, .slice a1 l1 k1] w fun e w' => LRes w w' e (num z0 - num z1) (2 * l0 + 2 * l1 + 1) := by
  go_enter Try.func30, Try.ntmps30
  go_wp2_with fail
  refine (digits_any a0 l0 k0 z0 w ha0 (by omega)).mono ?_
  rintro e wa ⟨a, la, ca, xs, rfl, -, hla, ha, hx, ux, nx, ba⟩
  go_wp2_with fail
  refine (digits_any a1 l1 k1 z1 wa (hb0.below ba (Nat.le_refl _)) (by omega)).mono ?_
  rintro e wb ⟨b, lb, cb, ys, rfl, -, hlb, hb, hy, uy, ny, bb⟩
  replace ha := ha.below bb (Nat.le_refl _)
  have HB : Hid (Below w.heap.size w wb) := step ba bb
  have hza := ha.1; have hzb := hb.1
  have HNX : Hid (H.num xs = num z0) := nx
  have HNY : Hid (H.num ys = num z1) := ny
  have HLE : Hid (H.num ys ≤ H.num xs) := by show _ ≤ _; rw [nx, ny]; exact hle
  clear ba bb ha0 hb0 ux uy nx ny hle
  go_wp2_with fail
  go_loopw [7, 8, 9] (fun v cc i wr => ∃ (k : Nat) (c : Int) (cs : List Int), i = .int .i64 k ∧ cc = .int .u64 c ∧ k ≤ la ∧ Hid (DfInv xs ys cs k c) ∧ Hid (Gr wr wb.heap.size v cs) ∧ Below wb.heap.size wb wr) (fun _ _ i _ => la - (intOf i).toNat)
  case atStart => exact ⟨0, 0, [], rfl, rfl, by omega, ⟨rfl, H.Limbs.nil, by simp [H.num], by omega, by omega⟩, Gr.nil _ _, Below.refl _ _⟩
  case round =>
    obtain ⟨k, c, cs, rfl, rfl, hk, hI, hG, hbl⟩ := hrel
    have hc0 := hI.out.2.2.2.1
    have hc1 := hI.out.2.2.2.2
    by_cases hlt : k < la
    · have hstep := df_step hx hy hI.out
      have hcl : cs.length ≤ k := by have := hI.out.1; omega
      have b1 := hx.getD k; have b2 := hy.getD k
      have hs := ha.below hbl (Nat.le_refl _)
      obtain ⟨bl, off, rfl, hcell⟩ := hs.2.2 (by omega)
      have hcx := hcell k hlt
      have D2 : ∀ q, Calls Try.prog 54 #[.slice b lb cb, .int .i64 k] (wr.drewN q) fun e w' => e = .returned (.int .u64 (ys.getD k 0)) ∧ w' = wr.drewN q := fun q => digit_any b lb cb ys k (wr.drewN q) (hb.below (below_drewN hbl q) (Nat.le_refl _)) (by omega)
      obtain ⟨x, hxx⟩ : ∃ x, xs.getD k 0 = x := ⟨_, rfl⟩
      obtain ⟨y, hyy⟩ : ∃ y, ys.getD k 0 = y := ⟨_, rfl⟩
      rw [hxx] at hcx hstep b1
      rw [hyy] at hstep b2
      simp only [hyy] at D2
      have DQ : Hid (∀ q, Calls Try.prog 54 #[.slice b lb cb, .int .i64 k] (wr.drewN q) fun e w' => e = .returned (.int .u64 y) ∧ w' = wr.drewN q) := D2
      clear D2
      obtain ⟨x1, x2⟩ := b1; obtain ⟨y1, y2⟩ := b2
      obtain ⟨t, ht⟩ : ∃ t, 4294967296 + x - y - c = t := ⟨_, rfl⟩
      rw [ht] at hstep
      have t1 : 0 ≤ t := by omega
      have t2 : t < 8589934592 := by omega
      have HS : Hid (DfInv xs ys (cs ++ [t % 4294967296]) (k + 1) (1 - t / 4294967296)) := hstep
      have hbs := hbl.size
      have HSZ : Hid (wb.heap.size ≤ (wr.alloc (.cells (row [t % 4294967296]).toArray 23)).heap.size) := by show _ ≤ _; simp; omega
      clear hstep hxx hyy hs hcell
      have ew1 : IntKind.u64.wrap (4294967296 + x) = 4294967296 + x := by rw [IntKind.wrap_u64]; omega
      have ew2 : IntKind.u64.wrap (4294967296 + x - y) = 4294967296 + x - y := by rw [IntKind.wrap_u64]; omega
      have ew3 : IntKind.u64.wrap (4294967296 + x - y - c) = t := by rw [ht, IntKind.wrap_u64]; omega
      have HT : Hid (4294967296 + x - y - c = t) := ht
      clear ht
      go_wp2_with fail
      go_quiet ((go_at_call 54; refine (DQ.out _).mono ?_; rintro e w2 ⟨rfl, rfl⟩; exact ⟨rfl, _, rfl⟩))
      go_wp2_with (at_builtin; refine wpList_app rfl (.tmp 32) (.tmp 35) rfl wb.heap.size u7 cs rfl (hG.out.alloc _) wr.heap.size 1 1 [t % 4294967296] rfl rfl (heap_alloc_new _ _) (by omega) HSZ.out ?_; intro v1 w1 hG1 hb1)
      have hb2 : Below wb.heap.size wb w1 := ((below_drewN hbl nq).alloc hbs _).trans hb1
      clear hb1
      go_wp2_with fail
      go_roundw
      case rel => exact ⟨k + 1, _, _, by go_num, rfl, by omega, HS, hG1, hb2⟩
      case measure => simp [intOf]; omega
    · obtain rfl : k = la := by omega
      have HE : Hid (H.num cs = H.num xs - H.num ys) := df_end hx hy hza hI.out HLE.out
      obtain ⟨i1, i2, i3, i4, i5⟩ := hI.out
      obtain ⟨aa, cap, hv, hcap, hsl⟩ := hG.out.sl i2.up
      have hu := usedN_le cs
      have hle : cs.length ≤ k := by omega
      rw [hv]
      clear hG hv i1 i3
      go_wp2_with fail
      refine (limbsr_any aa cs.length cap cs _ hsl i2 (by omega)).mono ?_
      rintro e w4 ⟨a4, m4, c4, z4, rfl, k4, k5, s4, u4, n4, b4⟩
      go_wp2_with fail
      go_ret
      exact ⟨a4, m4, c4, z4, rfl, k4, by omega, s4, u4, by rw [n4, HE.out, HNX.out, HNY.out], step (step HB.out hbl) b4⟩
end Go.Proofs.Ytajjhnilpdmnhaa
namespace Go.Proofs.Ytajjhnilpdmnhaa
open Go.RowKit Go.Shelf

set_option maxHeartbeats 2000000 in
theorem rcompare_any (a b : Option Addr) (la ca lb cb : Nat) (xs ys : List Int) (w : World) (ha : Sl w a la xs) (hb : Sl w b lb ys) (na : a = none → la = 0 ∧ ca = 0) (nb : b = none → lb = 0 ∧ cb = 0) (h1 : la ≤ 17592186044416) (h2 : lb ≤ 17592186044416) (hca : la ≤ ca) (hcb : lb ≤ cb) :
    Calls Try.prog 26 #[.slice a la ca, .slice b lb cb] w fun e w' => e = .returned (.int .i64 (cmp3 (num xs) (num ys))) ∧ Below w.heap.size w w' := by
  have hux := usedN_le xs; have huy := usedN_le ys
  have hza := ha.1; have hzb := hb.1
  have hLx := ha.2.1; have hLy := hb.2.1
  have TA := rtrim_any a la ca xs w ha na h1 hca
  have TB := fun W h => rtrim_any b lb cb ys W h nb h2 hcb
  obtain ⟨n, hn⟩ : ∃ n, usedN xs = n := ⟨_, rfl⟩
  obtain ⟨m, hm⟩ : ∃ m, usedN ys = m := ⟨_, rfl⟩
  have HXS : Hid (num (xs.take n) = num xs) := by rw [← hn]; exact num_take_used xs (Nat.le_refl _)
  have HYS : Hid (num (ys.take m) = num ys) := by rw [← hm]; exact num_take_used ys (Nat.le_refl _)
  have HUX : Hid (usedN (xs.take n) = n) := by rw [← hn]; exact usedN_take xs (Nat.le_refl _)
  have HUY : Hid (usedN (ys.take m) = m) := by rw [← hm]; exact usedN_take ys (Nat.le_refl _)
  have hLX := hLx.take n
  have hLY := hLy.take m
  rw [hn] at TA
  simp only [hm] at TB
  have hnl : n ≤ 17592186044416 := by omega
  have hml : m ≤ 17592186044416 := by omega
  rw [← HXS.out, ← HYS.out]
  obtain ⟨X, hX⟩ : ∃ X, xs.take n = X := ⟨_, rfl⟩
  obtain ⟨Y, hY⟩ : ∃ Y, ys.take m = Y := ⟨_, rfl⟩
  rw [hX] at TA HUX hLX ⊢
  rw [hY] at HUY hLY ⊢
  simp only [hY] at TB
  have HTB : Hid (∀ W, Sl W b lb ys → Calls Try.prog 16 #[.slice b lb cb] W fun e w' => ∃ a' c', e = .returned (.slice a' m c') ∧ Sl w' a' m Y ∧ m ≤ c' ∧ Below W.heap.size W w') := TB
  have HB : Hid (Sl w b lb ys) := hb
  clear TB hb ha na nb hX hY HXS HYS hn hm hux huy hza hzb hLx hLy hca hcb h1 h2
  go_enter Try.func26, Try.ntmps26
  go_wp2_with fail
  refine TA.mono ?_
  rintro e wa ⟨a1, c1, rfl, sa, hc1, ba⟩
  clear TA
  go_wp2_with fail
  refine (HTB.out wa (HB.out.below ba (Nat.le_refl _))).mono ?_
  rintro e wb ⟨b1, d1, rfl, sb, hd1, bb⟩
  replace sa := sa.below bb (Nat.le_refl _)
  have B0 := step ba bb
  have HBB : Hid (Below w.heap.size w wb) := B0
  clear ba bb B0 HTB HB
  have hzX := sa.1; have hzY := sb.1
  by_cases hne : n = m
  · subst hne
    have g1 : ((n : Int) != n) = false := by simp
    go_wp2_with fail
    go_loopw [7] (fun i wr => ∃ t : Nat, t ≤ n ∧ i = .int .i64 ((t : Int) - 1) ∧ Hid (∀ j, t ≤ j → X.getD j 0 = Y.getD j 0) ∧ ∃ q, wr = wb.drewN q) (fun i _ => (intOf i + 1).toNat)
    case atStart =>
      refine ⟨n, Nat.le_refl _, rfl, fun j hj => ?_, 0, rfl⟩
      rw [List.getD_eq_getElem?_getD, List.getD_eq_getElem?_getD, List.getElem?_eq_none (by omega), List.getElem?_eq_none (by omega)]
    case round =>
      obtain ⟨t, ht, rfl, hI, q, rfl⟩ := hrel
      by_cases hlt : 0 < t
      · obtain ⟨ba, oa, rfl, hca⟩ := sa.2.2 (by omega)
        obtain ⟨bb, ob, rfl, hcb⟩ := sb.2.2 (by omega)
        have hcx := hca (t - 1) (by omega)
        have hcy := hcb (t - 1) (by omega)
        have ex : ((t : Int) - 1).toNat = t - 1 := by omega
        have ht1 : 1 ≤ (t : Int) := by omega
        obtain ⟨x, hx⟩ : ∃ x, X.getD (t - 1) 0 = x := ⟨_, rfl⟩
        obtain ⟨y, hy⟩ : ∃ y, Y.getD (t - 1) 0 = y := ⟨_, rfl⟩
        rw [hx] at hcx
        rw [hy] at hcy
        have HX : Hid (X.getD (t - 1) 0 = x) := hx
        have HY : Hid (Y.getD (t - 1) 0 = y) := hy
        have HJ : Hid (∀ j, t - 1 < j → X.getD j 0 = Y.getD j 0) := fun j hj => hI.out j (by omega)
        clear hx hy hca hcb sa sb hI
        by_cases hxy : x < y
        · have e1 : cmp3 (num X) (num Y) = -1 := cmp3_lt (num_lt_at hLX hLY HJ.out (by rw [HX.out, HY.out]; omega))
          have E1 : Hid (cmp3 (num X) (num Y) = -1) := e1
          clear e1
          go_wp2_with fail
          go_quiet (fail)
          go_wp2_with fail
          go_ret
          exact ⟨ret_int E1.out.symm, below_drewN (below_drewN HBB.out _) _⟩
        · by_cases hyx : y < x
          · have e1 : cmp3 (num X) (num Y) = 1 := cmp3_gt (num_lt_at hLY hLX (fun j hj => (HJ.out j hj).symm) (by rw [HX.out, HY.out]; exact hyx))
            have E1 : Hid (cmp3 (num X) (num Y) = 1) := e1
            clear e1
            go_wp2_with fail
            go_quiet (fail)
            go_wp2_with fail
            go_quiet (fail)
            go_wp2_with fail
            go_ret
            exact ⟨ret_int E1.out.symm, below_drewN (below_drewN (below_drewN HBB.out _) _) _⟩
          · have HXY : Hid (x = y) := (by omega : x = y)
            go_wp2_with fail
            go_quiet (fail)
            go_wp2_with fail
            go_quiet (fail)
            go_wp2_with fail
            go_roundw
            case rel =>
              refine ⟨t - 1, by omega, by rw [show ((t - 1 : Nat) : Int) - 1 = (t : Int) - 1 - 1 by omega], ?_, _, rfl⟩
              intro j hj
              by_cases hjt : j = t - 1
              · rw [hjt, HX.out, HY.out, HXY.out]
              · exact HJ.out j (by omega)
            case measure => simp [intOf]; omega
      · obtain rfl : t = 0 := by omega
        have e1 : cmp3 (num X) (num Y) = 0 := cmp3_eq (num_eq_of fun j => hI.out j (by omega))
        have E1 : Hid (cmp3 (num X) (num Y) = 0) := e1
        clear e1
        go_wp2_with fail
        go_ret
        exact ⟨ret_int E1.out.symm, below_drewN HBB.out _⟩
  · have g1 : ((n : Int) != m) = true := by simp; omega
    by_cases hgt : m < n
    · have e1 : cmp3 (num X) (num Y) = 1 := cmp3_gt (num_lt_len hLY hLX (by rw [HUX.out, HUY.out]; exact hgt))
      have E1 : Hid (cmp3 (num X) (num Y) = 1) := e1
      clear e1
      go_wp2_with fail
      go_ret
      exact ⟨ret_int E1.out.symm, HBB.out⟩
    · have e1 : cmp3 (num X) (num Y) = -1 := cmp3_lt (num_lt_len hLX hLY (by rw [HUX.out, HUY.out]; omega))
      have E1 : Hid (cmp3 (num X) (num Y) = -1) := e1
      clear e1
      have hlt : n < m := by omega
      go_wp2_with fail
      go_ret
      exact ⟨ret_int E1.out.symm, HBB.out⟩
end Go.Proofs.Ytajjhnilpdmnhaa
namespace Go.Proofs.Ytajjhnilpdmnhaa
open Go.RowKit Go.Shelf

theorem is_nil (ca cb : Nat) (a b : Option Addr) (w : World) :
    Calls Try.prog 13 #[.agg #[.slice a 0 ca], .slice b 0 cb] w fun e w' => e = .returned (.bool true) ∧ Below w.heap.size w w' :=
  is_true a b 0 ca cb [] w ⟨⟨rfl, Limbs.nil, fun h => absurd h (by decide)⟩, rfl, by omega, by omega⟩ ⟨rfl, Limbs.nil, fun h => absurd h (by decide)⟩
/-- What the document answers is the very list of the number. -/
theorem Nt.same {w w' : World} {a b : Option Addr} {l c m : Nat} {zs ds : List Int} (h : Nt w a l c zs) (s : Sl w' b m ds) (u : usedN ds = m) (e : num ds = num zs) : m = l ∧ ds = zs := by
  obtain ⟨e1, e2⟩ := one_list s.2.1 h.limbs s.1 u e
  have hz := h.1.1
  rw [h.2.1] at e1 e2
  rw [List.take_of_length_le (by omega)] at e2
  exact ⟨e1, e2⟩
theorem is_ok (a b : Option Addr) (la ca m cb : Nat) (zs ds : List Int) (w : World) (h : Nt w a la ca zs) (s : Sl w b m ds) (u : usedN ds = m) (e : num ds = num zs) :
    Calls Try.prog 13 #[.agg #[.slice a la ca], .slice b m cb] w fun e w' => e = .returned (.bool true) ∧ Below w.heap.size w w' := by
  obtain ⟨rfl, rfl⟩ := h.same s u e
  exact is_true a b m ca cb ds w h s
theorem agrees_ok (a b : Option Addr) (la ca m cb : Nat) (zs ds : List Int) (w : World) (h : Nt w a la ca zs) (s : Sl w b m ds) (u : usedN ds = m) (e : num ds = num zs) :
    Calls Try.prog 28 #[.agg #[.slice a la ca], .int .i64 0, .slice b m cb] w fun e w' => e = .returned (.bool true) ∧ Below w.heap.size w w' := by
  obtain ⟨rfl, rfl⟩ := h.same s u e
  have l1 := h.2
  have B0 : Below w.heap.size w w := Below.refl _ _
  go_enter Try.func28, Try.ntmps28
  go_wp2_with fail
  refine ent1 w _ _ (Q := fun W => Calls Try.prog _ _ W _) ?_
  intro x1 hb hs V0
  replace B0 := step B0 hb
  replace h := Nt.after hb h
  replace s := s.below hb (Nat.le_refl _)
  clear hb hs
  refine (rlong_no b m cb ds x1 s (by omega) (by omega)).mono ?_
  rintro e x2 ⟨rfl, hb⟩
  replace B0 := step B0 hb
  replace h := Nt.after hb h
  replace s := s.below hb (Nat.le_refl _)
  replace V0 := Va.after hb V0
  clear hb
  have c0 := V0.cell
  go_wp2_with fail
  refine (is_true a b m ca cb ds x2 h s).mono ?_
  rintro e x3 ⟨rfl, hb⟩
  go_wp2_with fail
  go_ret
  exact ⟨rfl, step B0 hb⟩
theorem agrees_long (b : Option Addr) (ca m cb : Nat) (ds : List Int) (w : World) (s : Sl w b m ds) (hm : m ≤ 40000000000000) (u : 4096 < usedN ds) :
    Calls Try.prog 28 #[.agg #[.slice none 0 ca], .int .i64 3, .slice b m cb] w fun e w' => e = .returned (.bool true) ∧ Below w.heap.size w w' := by
  have B0 : Below w.heap.size w w := Below.refl _ _
  go_enter Try.func28, Try.ntmps28
  go_wp2_with fail
  refine ent1 w _ _ (Q := fun W => Calls Try.prog _ _ W _) ?_
  intro x1 hb hs V0
  replace B0 := step B0 hb
  replace s := s.below hb (Nat.le_refl _)
  clear hb hs
  refine (rlong_yes b m cb ds x1 s hm u).mono ?_
  rintro e x2 ⟨rfl, hb⟩
  replace B0 := step B0 hb
  replace V0 := Va.after hb V0
  clear hb
  have c0 := V0.cell
  go_wp2_with fail
  refine (is_nil ca 0 none none x2).mono ?_
  rintro e x3 ⟨rfl, hb⟩
  go_wp2_with fail
  go_ret
  exact ⟨rfl, step B0 hb⟩
/-- A list whose number is long has more limbs than there may be. -/
theorem long_used {ds : List Int} {N : Int} (h : Limbs ds) (e0 : num ds = N) (e1 : Hid (pw 4096 ≤ N)) : 4096 < usedN ds := by
  have e : pw 4096 ≤ num ds := by rw [e0]; exact e1.out
  rcases Nat.lt_or_ge 4096 (usedN ds) with h' | h'
  · exact h'
  · have := lt_of_used h h'; omega
/-- Four variables that hold numbers. -/
def P4 (w : World) (b1 b2 b3 b4 : Nat) (a1 a2 a3 a4 : Option Addr) (l1 l2 l3 l4 c1 c2 c3 c4 : Nat) (z1 z2 z3 z4 : List Int) (W : World) : Prop :=
  HV w b1 a1 l1 c1 z1 W ∧ HV w b2 a2 l2 c2 z2 W ∧ HV w b3 a3 l3 c3 z3 W ∧ HV w b4 a4 l4 c4 z4 W
section
variable {w : World} {b1 b2 b3 b4 : Nat} {a1 a2 a3 a4 : Option Addr} {l1 l2 l3 l4 c1 c2 c3 c4 : Nat} {z1 z2 z3 z4 : List Int} {W W' : World}
theorem HV.after (hb : Below W.heap.size W W') (h : HV w b1 a1 l1 c1 z1 W) : HV w b1 a1 l1 c1 z1 W' := ⟨Va.after hb h.1, Nt.after hb h.2.1, step h.2.2 hb⟩
theorem HV.drw (h : HV w b1 a1 l1 c1 z1 W) : HV w b1 a1 l1 c1 z1 W.drew := ⟨h.1, h.2.1, h.2.2.drew⟩
theorem P4.s (h : P4 w b1 b2 b3 b4 a1 a2 a3 a4 l1 l2 l3 l4 c1 c2 c3 c4 z1 z2 z3 z4 W) :
    W.cell? ⟨b1, 0, none⟩ = some (.slice a1 l1 c1) ∧ W.cell? ⟨b2, 0, none⟩ = some (.slice a2 l2 c2) ∧ W.cell? ⟨b3, 0, none⟩ = some (.slice a3 l3 c3) ∧ Hid (P4 w b1 b2 b3 b4 a1 a2 a3 a4 l1 l2 l3 l4 c1 c2 c3 c4 z1 z2 z3 z4 W) :=
  ⟨h.1.1.cell, h.2.1.1.cell, h.2.2.1.1.cell, h⟩
theorem P4.after (hb : Below W.heap.size W W') (h : P4 w b1 b2 b3 b4 a1 a2 a3 a4 l1 l2 l3 l4 c1 c2 c3 c4 z1 z2 z3 z4 W) : P4 w b1 b2 b3 b4 a1 a2 a3 a4 l1 l2 l3 l4 c1 c2 c3 c4 z1 z2 z3 z4 W' :=
  ⟨h.1.after hb, h.2.1.after hb, h.2.2.1.after hb, h.2.2.2.after hb⟩
theorem P4.drw (h : P4 w b1 b2 b3 b4 a1 a2 a3 a4 l1 l2 l3 l4 c1 c2 c3 c4 z1 z2 z3 z4 W) : P4 w b1 b2 b3 b4 a1 a2 a3 a4 l1 l2 l3 l4 c1 c2 c3 c4 z1 z2 z3 z4 W.drew :=
  ⟨h.1.drw, h.2.1.drw, h.2.2.1.drw, h.2.2.2.drw⟩
theorem P4.call (hb : Below W.heap.size W W') (h : W.cell? ⟨b1, 0, none⟩ = some (.slice a1 l1 c1) ∧ W.cell? ⟨b2, 0, none⟩ = some (.slice a2 l2 c2) ∧ W.cell? ⟨b3, 0, none⟩ = some (.slice a3 l3 c3) ∧ Hid (P4 w b1 b2 b3 b4 a1 a2 a3 a4 l1 l2 l3 l4 c1 c2 c3 c4 z1 z2 z3 z4 W)) :
    W'.cell? ⟨b1, 0, none⟩ = some (.slice a1 l1 c1) ∧ W'.cell? ⟨b2, 0, none⟩ = some (.slice a2 l2 c2) ∧ W'.cell? ⟨b3, 0, none⟩ = some (.slice a3 l3 c3) ∧ Hid (P4 w b1 b2 b3 b4 a1 a2 a3 a4 l1 l2 l3 l4 c1 c2 c3 c4 z1 z2 z3 z4 W') := P4.s (P4.after hb h.2.2.2)
theorem P4.get (h : W.cell? ⟨b1, 0, none⟩ = some (.slice a1 l1 c1) ∧ W.cell? ⟨b2, 0, none⟩ = some (.slice a2 l2 c2) ∧ W.cell? ⟨b3, 0, none⟩ = some (.slice a3 l3 c3) ∧ Hid (P4 w b1 b2 b3 b4 a1 a2 a3 a4 l1 l2 l3 l4 c1 c2 c3 c4 z1 z2 z3 z4 W)) : P4 w b1 b2 b3 b4 a1 a2 a3 a4 l1 l2 l3 l4 c1 c2 c3 c4 z1 z2 z3 z4 W := h.2.2.2
theorem HV.get (h : W.cell? ⟨b1, 0, none⟩ = some (.slice a1 l1 c1) ∧ Hid (HV w b1 a1 l1 c1 z1 W)) : HV w b1 a1 l1 c1 z1 W := h.2
end
end Go.Proofs.Ytajjhnilpdmnhaa
namespace Go.Proofs.Ytajjhnilpdmnhaa.natSums
open Go.RowKit Go.Shelf
set_option linter.unusedVariables false

set_option maxRecDepth 20000 in
set_option maxHeartbeats 4000000 in
theorem walk_a (a0 : Option Addr) (len0 cap0 : Nat) (z0 : List Int) (a1 : Option Addr) (len1 cap1 : Nat) (z1 : List Int) (w : World) (s0 : Sl w a0 len0 z0) (c0 : len0 ≤ cap0) (r0 : cap0 ≤ 1048576) (e0 : a0 = none → len0 = 0 ∧ cap0 = 0) (s1 : Sl w a1 len1 z1) (c1 : len1 ≤ cap1) (r1 : cap1 ≤ 1048576) (e1 : a1 = none → len1 = 0 ∧ cap1 = 0) (hu : 4096 < usedN z0 ∨ 4096 < usedN z1) :
    Calls Try.prog 4 #[.slice a0 len0 cap0, .slice a1 len1 cap1] w fun e w' => e = .returned (.bool true) ∧ Below w.heap.size w w' := by
  have B0 : Below w.heap.size w w := Below.refl _ _
  go_enter Try.func4, Try.ntmps4
  go_wp2_with fail
  refine (nawake_any w).mono ?_
  rintro e x1 ⟨rfl, hb⟩
  replace s0 := s0.below hb (Nat.le_refl _)
  replace s1 := s1.below hb (Nat.le_refl _)
  replace B0 := step B0 hb
  clear hb
  go_wp2_with fail
  refine (long_yes a0 a1 len0 cap0 len1 cap1 z0 z1 x1 s0 s1 (by omega) (by omega) hu).mono ?_
  rintro e x2 ⟨rfl, hb⟩
  replace s0 := s0.below hb (Nat.le_refl _)
  replace s1 := s1.below hb (Nat.le_refl _)
  replace B0 := step B0 hb
  clear hb
  go_wp2_with fail
  go_ret
  exact ⟨rfl, B0⟩

set_option maxRecDepth 20000 in
set_option maxHeartbeats 4000000 in
theorem walk_fb (a0 : Option Addr) (len0 cap0 : Nat) (z0 : List Int) (a1 : Option Addr) (len1 cap1 : Nat) (z1 : List Int) (w : World) (s0 : Sl w a0 len0 z0) (c0 : len0 ≤ cap0) (r0 : cap0 ≤ 1048576) (e0 : a0 = none → len0 = 0 ∧ cap0 = 0) (s1 : Sl w a1 len1 z1) (c1 : len1 ≤ cap1) (r1 : cap1 ≤ 1048576) (e1 : a1 = none → len1 = 0 ∧ cap1 = 0) (u0 : usedN z0 ≤ 4096) (u1 : usedN z1 ≤ 4096) (hfit : Hid (num z0 + num z1 < pw 4096)) (hsub : Hid (num z0 < num z1)) :
    Calls Try.prog 4 #[.slice a0 len0 cap0, .slice a1 len1 cap1] w fun e w' => e = .returned (.bool true) ∧ Below w.heap.size w w' := by
  have B0 : Below w.heap.size w w := Below.refl _ _
  go_enter Try.func4, Try.ntmps4
  go_wp2_with fail
  have HS0 : Hid (Sl w a0 len0 z0) := s0
  have HS1 : Hid (Sl w a1 len1 z1) := s1
  refine (nawake_any w).mono ?_
  rintro e x1 ⟨rfl, hb⟩
  replace s0 := s0.below hb (Nat.le_refl _)
  replace s1 := s1.below hb (Nat.le_refl _)
  replace B0 := step B0 hb
  clear hb
  go_wp2_with fail
  refine (long_no a0 a1 len0 cap0 len1 cap1 z0 z1 x1 s0 s1 (by omega) (by omega) u0 u1).mono ?_
  rintro e x2 ⟨rfl, hb⟩
  replace s0 := s0.below hb (Nat.le_refl _)
  replace s1 := s1.below hb (Nat.le_refl _)
  replace B0 := step B0 hb
  clear hb
  go_wp2_with fail
  refine (oflaw_ok a0 len0 cap0 z0 x2 s0 e0 (by omega) c0 u0).mono ?_
  rintro e x3 ⟨ax, lx, kx, zx, rfl, hx, nx, hb⟩
  replace s0 := s0.below hb (Nat.le_refl _)
  replace s1 := s1.below hb (Nat.le_refl _)
  replace B0 := step B0 hb
  clear hb
  go_wp2_with fail
  refine ent1 x3 _ _ (Q := fun W => Calls Try.prog _ _ W _) ?_
  intro x4 hb hs_x4 Vx
  replace hx := Nt.after hb hx
  replace s0 := s0.below hb (Nat.le_refl _)
  replace s1 := s1.below hb (Nat.le_refl _)
  replace B0 := step B0 hb
  clear hb hs_x4
  refine (oflaw_ok a1 len1 cap1 z1 x4 s1 e1 (by omega) c1 u1).mono ?_
  rintro e x5 ⟨ay, ly, ky, zy, rfl, hy, ny, hb⟩
  replace Vx := Va.after hb Vx
  replace hx := Nt.after hb hx
  replace s0 := s0.below hb (Nat.le_refl _)
  replace s1 := s1.below hb (Nat.le_refl _)
  replace B0 := step B0 hb
  clear hb
  have c_Vx := Vx.cell
  have f_Vx := Vx.frozen 0
  have l_Vx := Vx.lt
  have m_Vx := Nat.le_of_lt l_Vx
  go_wp2_with fail
  refine ent1 x5 _ _ (Q := fun W => Calls Try.prog _ _ W _) ?_
  intro x6 hb hs_x6 Vy
  replace Vx := Va.after hb Vx
  replace hx := Nt.after hb hx
  replace hy := Nt.after hb hy
  replace s0 := s0.below hb (Nat.le_refl _)
  replace s1 := s1.below hb (Nat.le_refl _)
  replace B0 := step B0 hb
  clear hb hs_x6
  refine (nadd_ok ax ay lx kx ly ky zx zy x6 hx hy (by rw [nx, ny]; exact hfit.out)).mono ?_
  rintro e x7 ⟨as1, ls, ks, zs, rfl, hs, ns, hb⟩
  replace Vx := Va.after hb Vx
  replace Vy := Va.after hb Vy
  replace hx := Nt.after hb hx
  replace hy := Nt.after hb hy
  replace s0 := s0.below hb (Nat.le_refl _)
  replace s1 := s1.below hb (Nat.le_refl _)
  replace B0 := step B0 hb
  clear hb
  rw [nx, ny] at ns
  have HNS : Hid (num zs = num z0 + num z1) := ns
  clear ns
  clear c_Vx f_Vx l_Vx m_Vx
  have c_Vx := Vx.cell
  have f_Vx := Vx.frozen 0
  have l_Vx := Vx.lt
  have m_Vx := Nat.le_of_lt l_Vx
  have c_Vy := Vy.cell
  have f_Vy := Vy.frozen 0
  have l_Vy := Vy.lt
  have m_Vy := Nat.le_of_lt l_Vy
  go_wp2_with fail
  refine ent1 x7 _ _ (Q := fun W => Calls Try.prog _ _ W _) ?_
  intro x8 hb hs_x8 Vs
  replace Vx := Va.after hb Vx
  replace Vy := Va.after hb Vy
  replace hx := Nt.after hb hx
  replace hy := Nt.after hb hy
  replace hs := Nt.after hb hs
  replace s0 := s0.below hb (Nat.le_refl _)
  replace s1 := s1.below hb (Nat.le_refl _)
  replace B0 := step B0 hb
  clear hb hs_x8
  refine (nsub_below ax ay lx kx ly ky zx zy x8 hx hy (by rw [nx, ny]; exact hsub.out)).mono ?_
  rintro e x9 ⟨rfl, hb⟩
  replace Vx := Va.after hb Vx
  replace Vy := Va.after hb Vy
  replace Vs := Va.after hb Vs
  replace hx := Nt.after hb hx
  replace hy := Nt.after hb hy
  replace hs := Nt.after hb hs
  replace s0 := s0.below hb (Nat.le_refl _)
  replace s1 := s1.below hb (Nat.le_refl _)
  replace B0 := step B0 hb
  clear hb
  clear c_Vx f_Vx l_Vx m_Vx c_Vy f_Vy l_Vy m_Vy
  have c_Vx := Vx.cell
  have f_Vx := Vx.frozen 0
  have l_Vx := Vx.lt
  have m_Vx := Nat.le_of_lt l_Vx
  have c_Vy := Vy.cell
  have f_Vy := Vy.frozen 0
  have l_Vy := Vy.lt
  have m_Vy := Nat.le_of_lt l_Vy
  have c_Vs := Vs.cell
  have f_Vs := Vs.frozen 0
  have l_Vs := Vs.lt
  have m_Vs := Nat.le_of_lt l_Vs
  go_wp2_with fail
  refine ent1 x9 _ _ (Q := fun W => Calls Try.prog _ _ W _) ?_
  intro x10 hb hs_x10 Vd
  replace Vx := Va.after hb Vx
  replace Vy := Va.after hb Vy
  replace Vs := Va.after hb Vs
  replace hx := Nt.after hb hx
  replace hy := Nt.after hb hy
  replace hs := Nt.after hb hs
  replace s0 := s0.below hb (Nat.le_refl _)
  replace s1 := s1.below hb (Nat.le_refl _)
  replace B0 := step B0 hb
  clear hb hs_x10
  have hd : Nt x10 none 0 0 [] := Nt.nil _
  refine (rcompare_any a0 a1 len0 cap0 len1 cap1 z0 z1 x10 s0 s1 e0 e1 (by omega) (by omega) c0 c1).mono ?_
  rintro e x11 ⟨rfl, hb⟩
  replace Vx := Va.after hb Vx
  replace Vy := Va.after hb Vy
  replace Vs := Va.after hb Vs
  replace Vd := Va.after hb Vd
  replace hx := Nt.after hb hx
  replace hy := Nt.after hb hy
  replace hs := Nt.after hb hs
  replace hd := Nt.after hb hd
  replace s0 := s0.below hb (Nat.le_refl _)
  replace s1 := s1.below hb (Nat.le_refl _)
  replace B0 := step B0 hb
  clear hb
  obtain ⟨C, hC⟩ : ∃ C, cmp3 (num z0) (num z1) = C := ⟨_, rfl⟩
  have HC : Hid (cmp3 (num zx) (num zy) = C) := by rw [nx, ny]; exact hC
  have hneg : C < 0 := by rw [← hC, cmp3_neg_iff]; exact hsub.out
  rw [hC]
  have gC : (C != C) = false := by simp
  clear hC nx ny s0 s1
  clear c_Vx f_Vx l_Vx m_Vx c_Vy f_Vy l_Vy m_Vy c_Vs f_Vs l_Vs m_Vs
  have c_Vx := Vx.cell
  have f_Vx := Vx.frozen 0
  have l_Vx := Vx.lt
  have m_Vx := Nat.le_of_lt l_Vx
  have c_Vy := Vy.cell
  have f_Vy := Vy.frozen 0
  have l_Vy := Vy.lt
  have m_Vy := Nat.le_of_lt l_Vy
  have c_Vs := Vs.cell
  have f_Vs := Vs.frozen 0
  have l_Vs := Vs.lt
  have m_Vs := Nat.le_of_lt l_Vs
  have c_Vd := Vd.cell
  have f_Vd := Vd.frozen 0
  have l_Vd := Vd.lt
  have m_Vd := Nat.le_of_lt l_Vd
  go_wp2_with fail
  have hP : P4 w x3.heap.size x5.heap.size x7.heap.size x9.heap.size ax ay as1 none lx ly ls 0 kx ky ks 0 zx zy zs [] x11 := ⟨⟨Vx, hx, B0⟩, ⟨Vy, hy, B0⟩, ⟨Vs, hs, B0⟩, ⟨Vd, hd, B0⟩⟩
  have hI := P4.s hP
  have hI0 := P4.s (P4.drw hP)
  go_cut [65] (fun s65 W => s65 = .bool false ∧ Hid (P4 w x3.heap.size x5.heap.size x7.heap.size x9.heap.size ax ay as1 none lx ly ls 0 kx ky ks 0 zx zy zs [] W))
  case first =>
    go_region_held3 (fun W => W.cell? ⟨x3.heap.size, 0, none⟩ = some (.slice ax lx kx) ∧ W.cell? ⟨x5.heap.size, 0, none⟩ = some (.slice ay ly ky) ∧ W.cell? ⟨x7.heap.size, 0, none⟩ = some (.slice as1 ls ks) ∧ Hid (P4 w x3.heap.size x5.heap.size x7.heap.size x9.heap.size ax ay as1 none lx ly ls 0 kx ky ks 0 zx zy zs [] W))
      (first | with_reducible assumption)
      (first
        | (go_at_call 27; refine (ncompare_any ax ay lx kx ly ky zx zy _ (P4.get (w := w) (b1 := x3.heap.size) (b2 := x5.heap.size) (b3 := x7.heap.size) (b4 := x9.heap.size) (a1 := ax) (a2 := ay) (a3 := as1) (a4 := none) (l1 := lx) (l2 := ly) (l3 := ls) (l4 := 0) (c1 := kx) (c2 := ky) (c3 := ks) (c4 := 0) (z1 := zx) (z2 := zy) (z3 := zs) (z4 := []) (by with_reducible assumption)).1.2.1 (P4.get (w := w) (b1 := x3.heap.size) (b2 := x5.heap.size) (b3 := x7.heap.size) (b4 := x9.heap.size) (a1 := ax) (a2 := ay) (a3 := as1) (a4 := none) (l1 := lx) (l2 := ly) (l3 := ls) (l4 := 0) (c1 := kx) (c2 := ky) (c3 := ks) (c4 := 0) (z1 := zx) (z2 := zy) (z3 := zs) (z4 := []) (by with_reducible assumption)).2.1.2.1).mono ?_; rintro e y1 ⟨rfl, b1⟩; rw [HC.out]; have hY1 := P4.call (w := w) (b1 := x3.heap.size) (b2 := x5.heap.size) (b3 := x7.heap.size) (b4 := x9.heap.size) (a1 := ax) (a2 := ay) (a3 := as1) (a4 := none) (l1 := lx) (l2 := ly) (l3 := ls) (l4 := 0) (c1 := kx) (c2 := ky) (c3 := ks) (c4 := 0) (z1 := zx) (z2 := zy) (z3 := zs) (z4 := []) b1 (by with_reducible assumption))
        | (go_at_call 29; refine (radd_any a0 a1 len0 cap0 len1 cap1 z0 z1 _ (HS0.out.below (P4.get (w := w) (b1 := x3.heap.size) (b2 := x5.heap.size) (b3 := x7.heap.size) (b4 := x9.heap.size) (a1 := ax) (a2 := ay) (a3 := as1) (a4 := none) (l1 := lx) (l2 := ly) (l3 := ls) (l4 := 0) (c1 := kx) (c2 := ky) (c3 := ks) (c4 := 0) (z1 := zx) (z2 := zy) (z3 := zs) (z4 := []) (by with_reducible assumption)).1.2.2 (Nat.le_refl _)) (HS1.out.below (P4.get (w := w) (b1 := x3.heap.size) (b2 := x5.heap.size) (b3 := x7.heap.size) (b4 := x9.heap.size) (a1 := ax) (a2 := ay) (a3 := as1) (a4 := none) (l1 := lx) (l2 := ly) (l3 := ls) (l4 := 0) (c1 := kx) (c2 := ky) (c3 := ks) (c4 := 0) (z1 := zx) (z2 := zy) (z3 := zs) (z4 := []) (by with_reducible assumption)).1.2.2 (Nat.le_refl _)) (by omega) (by omega)).mono ?_; rintro e y2 ⟨a4, m4, c4, z4, rfl, k4, k5, s4, u4, n4, b2⟩; have hY2 := P4.call (w := w) (b1 := x3.heap.size) (b2 := x5.heap.size) (b3 := x7.heap.size) (b4 := x9.heap.size) (a1 := ax) (a2 := ay) (a3 := as1) (a4 := none) (l1 := lx) (l2 := ly) (l3 := ls) (l4 := 0) (c1 := kx) (c2 := ky) (c3 := ks) (c4 := 0) (z1 := zx) (z2 := zy) (z3 := zs) (z4 := []) b2 (by with_reducible assumption))
        | (go_at_call 28; refine (agrees_ok as1 a4 ls ks m4 c4 zs z4 _ (P4.get (w := w) (b1 := x3.heap.size) (b2 := x5.heap.size) (b3 := x7.heap.size) (b4 := x9.heap.size) (a1 := ax) (a2 := ay) (a3 := as1) (a4 := none) (l1 := lx) (l2 := ly) (l3 := ls) (l4 := 0) (c1 := kx) (c2 := ky) (c3 := ks) (c4 := 0) (z1 := zx) (z2 := zy) (z3 := zs) (z4 := []) (by with_reducible assumption)).2.2.1.2.1 (by first | exact s4 | exact s4.below b4 (Nat.le_refl _)) u4 (by rw [n4, HNS.out])).mono ?_; rintro e y3 ⟨rfl, b3⟩; have hY3 := P4.call (w := w) (b1 := x3.heap.size) (b2 := x5.heap.size) (b3 := x7.heap.size) (b4 := x9.heap.size) (a1 := ax) (a2 := ay) (a3 := as1) (a4 := none) (l1 := lx) (l2 := ly) (l3 := ls) (l4 := 0) (c1 := kx) (c2 := ky) (c3 := ks) (c4 := 0) (z1 := zx) (z2 := zy) (z3 := zs) (z4 := []) b3 (by with_reducible assumption)))
    all_goals
      go_wp2_with fail
      go_meet
      exact ⟨rfl, And.right (And.right (And.right (by with_reducible assumption)))⟩
  case rest =>
    obtain ⟨rfl, hH⟩ := hcut
    clear Vx Vy Vs Vd hx hy hs hd B0 hP hI hI0 c_Vx f_Vx l_Vx m_Vx c_Vy f_Vy l_Vy m_Vy c_Vs f_Vs l_Vs m_Vs c_Vd f_Vd l_Vd m_Vd
    obtain ⟨-, -, -, Vd, hd, B0⟩ := hH
    have c_Vd := Vd.cell
    have f_Vd := Vd.frozen 0
    have l_Vd := Vd.lt
    have m_Vd := Nat.le_of_lt l_Vd
    clear gC HC
    set_option maxRecDepth 100000 in go_wp2_with fail
    refine (is_nil 0 0 none none wc).mono ?_
    rintro e x21 ⟨rfl, hb⟩
    replace Vd := Va.after hb Vd
    replace hd := Nt.after hb hd
    replace B0 := step B0 hb
    clear hb
    clear c_Vd f_Vd l_Vd m_Vd
    have c_Vd := Vd.cell
    have f_Vd := Vd.frozen 0
    have l_Vd := Vd.lt
    have m_Vd := Nat.le_of_lt l_Vd
    go_wp2_with fail
    go_ret
    exact ⟨rfl, B0⟩

set_option maxRecDepth 20000 in
set_option maxHeartbeats 4000000 in
theorem walk_fs (a0 : Option Addr) (len0 cap0 : Nat) (z0 : List Int) (a1 : Option Addr) (len1 cap1 : Nat) (z1 : List Int) (w : World) (s0 : Sl w a0 len0 z0) (c0 : len0 ≤ cap0) (r0 : cap0 ≤ 1048576) (e0 : a0 = none → len0 = 0 ∧ cap0 = 0) (s1 : Sl w a1 len1 z1) (c1 : len1 ≤ cap1) (r1 : cap1 ≤ 1048576) (e1 : a1 = none → len1 = 0 ∧ cap1 = 0) (u0 : usedN z0 ≤ 4096) (u1 : usedN z1 ≤ 4096) (hfit : Hid (num z0 + num z1 < pw 4096)) (hsub : Hid (num z1 ≤ num z0)) :
    Calls Try.prog 4 #[.slice a0 len0 cap0, .slice a1 len1 cap1] w fun e w' => e = .returned (.bool true) ∧ Below w.heap.size w w' := by
  have B0 : Below w.heap.size w w := Below.refl _ _
  go_enter Try.func4, Try.ntmps4
  go_wp2_with fail
  have HS0 : Hid (Sl w a0 len0 z0) := s0
  have HS1 : Hid (Sl w a1 len1 z1) := s1
  refine (nawake_any w).mono ?_
  rintro e x1 ⟨rfl, hb⟩
  replace s0 := s0.below hb (Nat.le_refl _)
  replace s1 := s1.below hb (Nat.le_refl _)
  replace B0 := step B0 hb
  clear hb
  go_wp2_with fail
  refine (long_no a0 a1 len0 cap0 len1 cap1 z0 z1 x1 s0 s1 (by omega) (by omega) u0 u1).mono ?_
  rintro e x2 ⟨rfl, hb⟩
  replace s0 := s0.below hb (Nat.le_refl _)
  replace s1 := s1.below hb (Nat.le_refl _)
  replace B0 := step B0 hb
  clear hb
  go_wp2_with fail
  refine (oflaw_ok a0 len0 cap0 z0 x2 s0 e0 (by omega) c0 u0).mono ?_
  rintro e x3 ⟨ax, lx, kx, zx, rfl, hx, nx, hb⟩
  replace s0 := s0.below hb (Nat.le_refl _)
  replace s1 := s1.below hb (Nat.le_refl _)
  replace B0 := step B0 hb
  clear hb
  go_wp2_with fail
  refine ent1 x3 _ _ (Q := fun W => Calls Try.prog _ _ W _) ?_
  intro x4 hb hs_x4 Vx
  replace hx := Nt.after hb hx
  replace s0 := s0.below hb (Nat.le_refl _)
  replace s1 := s1.below hb (Nat.le_refl _)
  replace B0 := step B0 hb
  clear hb hs_x4
  refine (oflaw_ok a1 len1 cap1 z1 x4 s1 e1 (by omega) c1 u1).mono ?_
  rintro e x5 ⟨ay, ly, ky, zy, rfl, hy, ny, hb⟩
  replace Vx := Va.after hb Vx
  replace hx := Nt.after hb hx
  replace s0 := s0.below hb (Nat.le_refl _)
  replace s1 := s1.below hb (Nat.le_refl _)
  replace B0 := step B0 hb
  clear hb
  have c_Vx := Vx.cell
  have f_Vx := Vx.frozen 0
  have l_Vx := Vx.lt
  have m_Vx := Nat.le_of_lt l_Vx
  go_wp2_with fail
  refine ent1 x5 _ _ (Q := fun W => Calls Try.prog _ _ W _) ?_
  intro x6 hb hs_x6 Vy
  replace Vx := Va.after hb Vx
  replace hx := Nt.after hb hx
  replace hy := Nt.after hb hy
  replace s0 := s0.below hb (Nat.le_refl _)
  replace s1 := s1.below hb (Nat.le_refl _)
  replace B0 := step B0 hb
  clear hb hs_x6
  refine (nadd_ok ax ay lx kx ly ky zx zy x6 hx hy (by rw [nx, ny]; exact hfit.out)).mono ?_
  rintro e x7 ⟨as1, ls, ks, zs, rfl, hs, ns, hb⟩
  replace Vx := Va.after hb Vx
  replace Vy := Va.after hb Vy
  replace hx := Nt.after hb hx
  replace hy := Nt.after hb hy
  replace s0 := s0.below hb (Nat.le_refl _)
  replace s1 := s1.below hb (Nat.le_refl _)
  replace B0 := step B0 hb
  clear hb
  rw [nx, ny] at ns
  have HNS : Hid (num zs = num z0 + num z1) := ns
  clear ns
  clear c_Vx f_Vx l_Vx m_Vx
  have c_Vx := Vx.cell
  have f_Vx := Vx.frozen 0
  have l_Vx := Vx.lt
  have m_Vx := Nat.le_of_lt l_Vx
  have c_Vy := Vy.cell
  have f_Vy := Vy.frozen 0
  have l_Vy := Vy.lt
  have m_Vy := Nat.le_of_lt l_Vy
  go_wp2_with fail
  refine ent1 x7 _ _ (Q := fun W => Calls Try.prog _ _ W _) ?_
  intro x8 hb hs_x8 Vs
  replace Vx := Va.after hb Vx
  replace Vy := Va.after hb Vy
  replace hx := Nt.after hb hx
  replace hy := Nt.after hb hy
  replace hs := Nt.after hb hs
  replace s0 := s0.below hb (Nat.le_refl _)
  replace s1 := s1.below hb (Nat.le_refl _)
  replace B0 := step B0 hb
  clear hb hs_x8
  refine (nsub_ok ax ay lx kx ly ky zx zy x8 hx hy (by rw [nx, ny]; exact hsub.out)).mono ?_
  rintro e x9 ⟨ad, ld, kd, zd, rfl, hd, nd, hb⟩
  replace Vx := Va.after hb Vx
  replace Vy := Va.after hb Vy
  replace Vs := Va.after hb Vs
  replace hx := Nt.after hb hx
  replace hy := Nt.after hb hy
  replace hs := Nt.after hb hs
  replace s0 := s0.below hb (Nat.le_refl _)
  replace s1 := s1.below hb (Nat.le_refl _)
  replace B0 := step B0 hb
  clear hb
  rw [nx, ny] at nd
  have HND : Hid (num zd = num z0 - num z1) := nd
  clear nd
  clear c_Vx f_Vx l_Vx m_Vx c_Vy f_Vy l_Vy m_Vy
  have c_Vx := Vx.cell
  have f_Vx := Vx.frozen 0
  have l_Vx := Vx.lt
  have m_Vx := Nat.le_of_lt l_Vx
  have c_Vy := Vy.cell
  have f_Vy := Vy.frozen 0
  have l_Vy := Vy.lt
  have m_Vy := Nat.le_of_lt l_Vy
  have c_Vs := Vs.cell
  have f_Vs := Vs.frozen 0
  have l_Vs := Vs.lt
  have m_Vs := Nat.le_of_lt l_Vs
  go_wp2_with fail
  refine ent1 x9 _ _ (Q := fun W => Calls Try.prog _ _ W _) ?_
  intro x10 hb hs_x10 Vd
  replace Vx := Va.after hb Vx
  replace Vy := Va.after hb Vy
  replace Vs := Va.after hb Vs
  replace hx := Nt.after hb hx
  replace hy := Nt.after hb hy
  replace hs := Nt.after hb hs
  replace hd := Nt.after hb hd
  replace s0 := s0.below hb (Nat.le_refl _)
  replace s1 := s1.below hb (Nat.le_refl _)
  replace B0 := step B0 hb
  clear hb hs_x10
  refine (rcompare_any a0 a1 len0 cap0 len1 cap1 z0 z1 x10 s0 s1 e0 e1 (by omega) (by omega) c0 c1).mono ?_
  rintro e x11 ⟨rfl, hb⟩
  replace Vx := Va.after hb Vx
  replace Vy := Va.after hb Vy
  replace Vs := Va.after hb Vs
  replace Vd := Va.after hb Vd
  replace hx := Nt.after hb hx
  replace hy := Nt.after hb hy
  replace hs := Nt.after hb hs
  replace hd := Nt.after hb hd
  replace s0 := s0.below hb (Nat.le_refl _)
  replace s1 := s1.below hb (Nat.le_refl _)
  replace B0 := step B0 hb
  clear hb
  obtain ⟨C, hC⟩ : ∃ C, cmp3 (num z0) (num z1) = C := ⟨_, rfl⟩
  have HC : Hid (cmp3 (num zx) (num zy) = C) := by rw [nx, ny]; exact hC
  have hneg : ¬ C < 0 := by rw [← hC, cmp3_neg_iff]; exact Int.not_lt.2 hsub.out
  rw [hC]
  have gC : (C != C) = false := by simp
  clear hC nx ny s0 s1
  clear c_Vx f_Vx l_Vx m_Vx c_Vy f_Vy l_Vy m_Vy c_Vs f_Vs l_Vs m_Vs
  have c_Vx := Vx.cell
  have f_Vx := Vx.frozen 0
  have l_Vx := Vx.lt
  have m_Vx := Nat.le_of_lt l_Vx
  have c_Vy := Vy.cell
  have f_Vy := Vy.frozen 0
  have l_Vy := Vy.lt
  have m_Vy := Nat.le_of_lt l_Vy
  have c_Vs := Vs.cell
  have f_Vs := Vs.frozen 0
  have l_Vs := Vs.lt
  have m_Vs := Nat.le_of_lt l_Vs
  have c_Vd := Vd.cell
  have f_Vd := Vd.frozen 0
  have l_Vd := Vd.lt
  have m_Vd := Nat.le_of_lt l_Vd
  go_wp2_with fail
  have hP : P4 w x3.heap.size x5.heap.size x7.heap.size x9.heap.size ax ay as1 ad lx ly ls ld kx ky ks kd zx zy zs zd x11 := ⟨⟨Vx, hx, B0⟩, ⟨Vy, hy, B0⟩, ⟨Vs, hs, B0⟩, ⟨Vd, hd, B0⟩⟩
  have hI := P4.s hP
  have hI0 := P4.s (P4.drw hP)
  go_cut [65] (fun s65 W => s65 = .bool false ∧ Hid (P4 w x3.heap.size x5.heap.size x7.heap.size x9.heap.size ax ay as1 ad lx ly ls ld kx ky ks kd zx zy zs zd W))
  case first =>
    go_region_held3 (fun W => W.cell? ⟨x3.heap.size, 0, none⟩ = some (.slice ax lx kx) ∧ W.cell? ⟨x5.heap.size, 0, none⟩ = some (.slice ay ly ky) ∧ W.cell? ⟨x7.heap.size, 0, none⟩ = some (.slice as1 ls ks) ∧ Hid (P4 w x3.heap.size x5.heap.size x7.heap.size x9.heap.size ax ay as1 ad lx ly ls ld kx ky ks kd zx zy zs zd W))
      (first | with_reducible assumption)
      (first
        | (go_at_call 27; refine (ncompare_any ax ay lx kx ly ky zx zy _ (P4.get (w := w) (b1 := x3.heap.size) (b2 := x5.heap.size) (b3 := x7.heap.size) (b4 := x9.heap.size) (a1 := ax) (a2 := ay) (a3 := as1) (a4 := ad) (l1 := lx) (l2 := ly) (l3 := ls) (l4 := ld) (c1 := kx) (c2 := ky) (c3 := ks) (c4 := kd) (z1 := zx) (z2 := zy) (z3 := zs) (z4 := zd) (by with_reducible assumption)).1.2.1 (P4.get (w := w) (b1 := x3.heap.size) (b2 := x5.heap.size) (b3 := x7.heap.size) (b4 := x9.heap.size) (a1 := ax) (a2 := ay) (a3 := as1) (a4 := ad) (l1 := lx) (l2 := ly) (l3 := ls) (l4 := ld) (c1 := kx) (c2 := ky) (c3 := ks) (c4 := kd) (z1 := zx) (z2 := zy) (z3 := zs) (z4 := zd) (by with_reducible assumption)).2.1.2.1).mono ?_; rintro e y1 ⟨rfl, b1⟩; rw [HC.out]; have hY1 := P4.call (w := w) (b1 := x3.heap.size) (b2 := x5.heap.size) (b3 := x7.heap.size) (b4 := x9.heap.size) (a1 := ax) (a2 := ay) (a3 := as1) (a4 := ad) (l1 := lx) (l2 := ly) (l3 := ls) (l4 := ld) (c1 := kx) (c2 := ky) (c3 := ks) (c4 := kd) (z1 := zx) (z2 := zy) (z3 := zs) (z4 := zd) b1 (by with_reducible assumption))
        | (go_at_call 29; refine (radd_any a0 a1 len0 cap0 len1 cap1 z0 z1 _ (HS0.out.below (P4.get (w := w) (b1 := x3.heap.size) (b2 := x5.heap.size) (b3 := x7.heap.size) (b4 := x9.heap.size) (a1 := ax) (a2 := ay) (a3 := as1) (a4 := ad) (l1 := lx) (l2 := ly) (l3 := ls) (l4 := ld) (c1 := kx) (c2 := ky) (c3 := ks) (c4 := kd) (z1 := zx) (z2 := zy) (z3 := zs) (z4 := zd) (by with_reducible assumption)).1.2.2 (Nat.le_refl _)) (HS1.out.below (P4.get (w := w) (b1 := x3.heap.size) (b2 := x5.heap.size) (b3 := x7.heap.size) (b4 := x9.heap.size) (a1 := ax) (a2 := ay) (a3 := as1) (a4 := ad) (l1 := lx) (l2 := ly) (l3 := ls) (l4 := ld) (c1 := kx) (c2 := ky) (c3 := ks) (c4 := kd) (z1 := zx) (z2 := zy) (z3 := zs) (z4 := zd) (by with_reducible assumption)).1.2.2 (Nat.le_refl _)) (by omega) (by omega)).mono ?_; rintro e y2 ⟨a4, m4, c4, z4, rfl, k4, k5, s4, u4, n4, b2⟩; have hY2 := P4.call (w := w) (b1 := x3.heap.size) (b2 := x5.heap.size) (b3 := x7.heap.size) (b4 := x9.heap.size) (a1 := ax) (a2 := ay) (a3 := as1) (a4 := ad) (l1 := lx) (l2 := ly) (l3 := ls) (l4 := ld) (c1 := kx) (c2 := ky) (c3 := ks) (c4 := kd) (z1 := zx) (z2 := zy) (z3 := zs) (z4 := zd) b2 (by with_reducible assumption))
        | (go_at_call 28; refine (agrees_ok as1 a4 ls ks m4 c4 zs z4 _ (P4.get (w := w) (b1 := x3.heap.size) (b2 := x5.heap.size) (b3 := x7.heap.size) (b4 := x9.heap.size) (a1 := ax) (a2 := ay) (a3 := as1) (a4 := ad) (l1 := lx) (l2 := ly) (l3 := ls) (l4 := ld) (c1 := kx) (c2 := ky) (c3 := ks) (c4 := kd) (z1 := zx) (z2 := zy) (z3 := zs) (z4 := zd) (by with_reducible assumption)).2.2.1.2.1 (by first | exact s4 | exact s4.below b4 (Nat.le_refl _)) u4 (by rw [n4, HNS.out])).mono ?_; rintro e y3 ⟨rfl, b3⟩; have hY3 := P4.call (w := w) (b1 := x3.heap.size) (b2 := x5.heap.size) (b3 := x7.heap.size) (b4 := x9.heap.size) (a1 := ax) (a2 := ay) (a3 := as1) (a4 := ad) (l1 := lx) (l2 := ly) (l3 := ls) (l4 := ld) (c1 := kx) (c2 := ky) (c3 := ks) (c4 := kd) (z1 := zx) (z2 := zy) (z3 := zs) (z4 := zd) b3 (by with_reducible assumption)))
    all_goals
      go_wp2_with fail
      go_meet
      exact ⟨rfl, And.right (And.right (And.right (by with_reducible assumption)))⟩
  case rest =>
    obtain ⟨rfl, hH⟩ := hcut
    clear Vx Vy Vs Vd hx hy hs hd B0 hP hI hI0 c_Vx f_Vx l_Vx m_Vx c_Vy f_Vy l_Vy m_Vy c_Vs f_Vs l_Vs m_Vs c_Vd f_Vd l_Vd m_Vd
    obtain ⟨-, -, -, Vd, hd, B0⟩ := hH
    have c_Vd := Vd.cell
    have f_Vd := Vd.frozen 0
    have l_Vd := Vd.lt
    have m_Vd := Nat.le_of_lt l_Vd
    clear gC HC
    set_option maxRecDepth 100000 in go_wp2_with fail
    have hI := HV.mk' Vd hd B0
    have hI0 := HV.drew Vd hd B0
    go_region_held3 (fun W => W.cell? ⟨x9.heap.size, 0, none⟩ = some (.slice ad ld kd) ∧ Hid (HV w x9.heap.size ad ld kd zd W))
      (first | with_reducible assumption)
      (first
        | (go_at_call 30; refine (rsub_any a0 a1 len0 cap0 len1 cap1 z0 z1 _ (HS0.out.below (And.right (And.right (HV.get (w := w) (b1 := x9.heap.size) (a1 := ad) (l1 := ld) (c1 := kd) (z1 := zd) (by with_reducible assumption)))) (Nat.le_refl _)) (HS1.out.below (And.right (And.right (HV.get (w := w) (b1 := x9.heap.size) (a1 := ad) (l1 := ld) (c1 := kd) (z1 := zd) (by with_reducible assumption)))) (Nat.le_refl _)) (by omega) (by omega) hsub.out).mono ?_; rintro e y4 ⟨a4, m4, c4, z4, rfl, k4, k5, s4, u4, n4, b2⟩; have hY4 := HV.call (w := w) (b := x9.heap.size) (a := ad) (l := ld) (c := kd) (zs := zd) b2 (by with_reducible assumption))
        | (go_at_call 13; refine (is_ok ad a4 ld kd m4 c4 zd z4 _ (HV.nt (w := w) (b := x9.heap.size) (a := ad) (l := ld) (c := kd) (zs := zd) (by with_reducible assumption)) s4 u4 (by rw [n4, HND.out])).mono ?_; rintro e y5 ⟨rfl, b3⟩; have hY5 := HV.call (w := w) (b := x9.heap.size) (a := ad) (l := ld) (c := kd) (zs := zd) b3 (by with_reducible assumption)))
    all_goals
      go_wp2_with fail
      go_ret
      exact ⟨rfl, And.right (And.right (HV.get (w := w) (b1 := x9.heap.size) (a1 := ad) (l1 := ld) (c1 := kd) (z1 := zd) (by with_reducible assumption)))⟩

set_option maxRecDepth 20000 in
set_option maxHeartbeats 4000000 in
theorem walk_lb (a0 : Option Addr) (len0 cap0 : Nat) (z0 : List Int) (a1 : Option Addr) (len1 cap1 : Nat) (z1 : List Int) (w : World) (s0 : Sl w a0 len0 z0) (c0 : len0 ≤ cap0) (r0 : cap0 ≤ 1048576) (e0 : a0 = none → len0 = 0 ∧ cap0 = 0) (s1 : Sl w a1 len1 z1) (c1 : len1 ≤ cap1) (r1 : cap1 ≤ 1048576) (e1 : a1 = none → len1 = 0 ∧ cap1 = 0) (u0 : usedN z0 ≤ 4096) (u1 : usedN z1 ≤ 4096) (hfit : Hid (pw 4096 ≤ num z0 + num z1)) (hsub : Hid (num z0 < num z1)) :
    Calls Try.prog 4 #[.slice a0 len0 cap0, .slice a1 len1 cap1] w fun e w' => e = .returned (.bool true) ∧ Below w.heap.size w w' := by
  have B0 : Below w.heap.size w w := Below.refl _ _
  go_enter Try.func4, Try.ntmps4
  go_wp2_with fail
  have HS0 : Hid (Sl w a0 len0 z0) := s0
  have HS1 : Hid (Sl w a1 len1 z1) := s1
  refine (nawake_any w).mono ?_
  rintro e x1 ⟨rfl, hb⟩
  replace s0 := s0.below hb (Nat.le_refl _)
  replace s1 := s1.below hb (Nat.le_refl _)
  replace B0 := step B0 hb
  clear hb
  go_wp2_with fail
  refine (long_no a0 a1 len0 cap0 len1 cap1 z0 z1 x1 s0 s1 (by omega) (by omega) u0 u1).mono ?_
  rintro e x2 ⟨rfl, hb⟩
  replace s0 := s0.below hb (Nat.le_refl _)
  replace s1 := s1.below hb (Nat.le_refl _)
  replace B0 := step B0 hb
  clear hb
  go_wp2_with fail
  refine (oflaw_ok a0 len0 cap0 z0 x2 s0 e0 (by omega) c0 u0).mono ?_
  rintro e x3 ⟨ax, lx, kx, zx, rfl, hx, nx, hb⟩
  replace s0 := s0.below hb (Nat.le_refl _)
  replace s1 := s1.below hb (Nat.le_refl _)
  replace B0 := step B0 hb
  clear hb
  go_wp2_with fail
  refine ent1 x3 _ _ (Q := fun W => Calls Try.prog _ _ W _) ?_
  intro x4 hb hs_x4 Vx
  replace hx := Nt.after hb hx
  replace s0 := s0.below hb (Nat.le_refl _)
  replace s1 := s1.below hb (Nat.le_refl _)
  replace B0 := step B0 hb
  clear hb hs_x4
  refine (oflaw_ok a1 len1 cap1 z1 x4 s1 e1 (by omega) c1 u1).mono ?_
  rintro e x5 ⟨ay, ly, ky, zy, rfl, hy, ny, hb⟩
  replace Vx := Va.after hb Vx
  replace hx := Nt.after hb hx
  replace s0 := s0.below hb (Nat.le_refl _)
  replace s1 := s1.below hb (Nat.le_refl _)
  replace B0 := step B0 hb
  clear hb
  have c_Vx := Vx.cell
  have f_Vx := Vx.frozen 0
  have l_Vx := Vx.lt
  have m_Vx := Nat.le_of_lt l_Vx
  go_wp2_with fail
  refine ent1 x5 _ _ (Q := fun W => Calls Try.prog _ _ W _) ?_
  intro x6 hb hs_x6 Vy
  replace Vx := Va.after hb Vx
  replace hx := Nt.after hb hx
  replace hy := Nt.after hb hy
  replace s0 := s0.below hb (Nat.le_refl _)
  replace s1 := s1.below hb (Nat.le_refl _)
  replace B0 := step B0 hb
  clear hb hs_x6
  refine (nadd_long ax ay lx kx ly ky zx zy x6 hx hy (by rw [nx, ny]; exact hfit.out)).mono ?_
  rintro e x7 ⟨rfl, hb⟩
  replace Vx := Va.after hb Vx
  replace Vy := Va.after hb Vy
  replace hx := Nt.after hb hx
  replace hy := Nt.after hb hy
  replace s0 := s0.below hb (Nat.le_refl _)
  replace s1 := s1.below hb (Nat.le_refl _)
  replace B0 := step B0 hb
  clear hb
  clear c_Vx f_Vx l_Vx m_Vx
  have c_Vx := Vx.cell
  have f_Vx := Vx.frozen 0
  have l_Vx := Vx.lt
  have m_Vx := Nat.le_of_lt l_Vx
  have c_Vy := Vy.cell
  have f_Vy := Vy.frozen 0
  have l_Vy := Vy.lt
  have m_Vy := Nat.le_of_lt l_Vy
  go_wp2_with fail
  refine ent1 x7 _ _ (Q := fun W => Calls Try.prog _ _ W _) ?_
  intro x8 hb hs_x8 Vs
  replace Vx := Va.after hb Vx
  replace Vy := Va.after hb Vy
  replace hx := Nt.after hb hx
  replace hy := Nt.after hb hy
  replace s0 := s0.below hb (Nat.le_refl _)
  replace s1 := s1.below hb (Nat.le_refl _)
  replace B0 := step B0 hb
  clear hb hs_x8
  have hs : Nt x8 none 0 0 [] := Nt.nil _
  refine (nsub_below ax ay lx kx ly ky zx zy x8 hx hy (by rw [nx, ny]; exact hsub.out)).mono ?_
  rintro e x9 ⟨rfl, hb⟩
  replace Vx := Va.after hb Vx
  replace Vy := Va.after hb Vy
  replace Vs := Va.after hb Vs
  replace hx := Nt.after hb hx
  replace hy := Nt.after hb hy
  replace hs := Nt.after hb hs
  replace s0 := s0.below hb (Nat.le_refl _)
  replace s1 := s1.below hb (Nat.le_refl _)
  replace B0 := step B0 hb
  clear hb
  clear c_Vx f_Vx l_Vx m_Vx c_Vy f_Vy l_Vy m_Vy
  have c_Vx := Vx.cell
  have f_Vx := Vx.frozen 0
  have l_Vx := Vx.lt
  have m_Vx := Nat.le_of_lt l_Vx
  have c_Vy := Vy.cell
  have f_Vy := Vy.frozen 0
  have l_Vy := Vy.lt
  have m_Vy := Nat.le_of_lt l_Vy
  have c_Vs := Vs.cell
  have f_Vs := Vs.frozen 0
  have l_Vs := Vs.lt
  have m_Vs := Nat.le_of_lt l_Vs
  go_wp2_with fail
  refine ent1 x9 _ _ (Q := fun W => Calls Try.prog _ _ W _) ?_
  intro x10 hb hs_x10 Vd
  replace Vx := Va.after hb Vx
  replace Vy := Va.after hb Vy
  replace Vs := Va.after hb Vs
  replace hx := Nt.after hb hx
  replace hy := Nt.after hb hy
  replace hs := Nt.after hb hs
  replace s0 := s0.below hb (Nat.le_refl _)
  replace s1 := s1.below hb (Nat.le_refl _)
  replace B0 := step B0 hb
  clear hb hs_x10
  have hd : Nt x10 none 0 0 [] := Nt.nil _
  refine (rcompare_any a0 a1 len0 cap0 len1 cap1 z0 z1 x10 s0 s1 e0 e1 (by omega) (by omega) c0 c1).mono ?_
  rintro e x11 ⟨rfl, hb⟩
  replace Vx := Va.after hb Vx
  replace Vy := Va.after hb Vy
  replace Vs := Va.after hb Vs
  replace Vd := Va.after hb Vd
  replace hx := Nt.after hb hx
  replace hy := Nt.after hb hy
  replace hs := Nt.after hb hs
  replace hd := Nt.after hb hd
  replace s0 := s0.below hb (Nat.le_refl _)
  replace s1 := s1.below hb (Nat.le_refl _)
  replace B0 := step B0 hb
  clear hb
  obtain ⟨C, hC⟩ : ∃ C, cmp3 (num z0) (num z1) = C := ⟨_, rfl⟩
  have HC : Hid (cmp3 (num zx) (num zy) = C) := by rw [nx, ny]; exact hC
  have hneg : C < 0 := by rw [← hC, cmp3_neg_iff]; exact hsub.out
  rw [hC]
  have gC : (C != C) = false := by simp
  clear hC nx ny s0 s1
  clear c_Vx f_Vx l_Vx m_Vx c_Vy f_Vy l_Vy m_Vy c_Vs f_Vs l_Vs m_Vs
  have c_Vx := Vx.cell
  have f_Vx := Vx.frozen 0
  have l_Vx := Vx.lt
  have m_Vx := Nat.le_of_lt l_Vx
  have c_Vy := Vy.cell
  have f_Vy := Vy.frozen 0
  have l_Vy := Vy.lt
  have m_Vy := Nat.le_of_lt l_Vy
  have c_Vs := Vs.cell
  have f_Vs := Vs.frozen 0
  have l_Vs := Vs.lt
  have m_Vs := Nat.le_of_lt l_Vs
  have c_Vd := Vd.cell
  have f_Vd := Vd.frozen 0
  have l_Vd := Vd.lt
  have m_Vd := Nat.le_of_lt l_Vd
  go_wp2_with fail
  have hP : P4 w x3.heap.size x5.heap.size x7.heap.size x9.heap.size ax ay none none lx ly 0 0 kx ky 0 0 zx zy [] [] x11 := ⟨⟨Vx, hx, B0⟩, ⟨Vy, hy, B0⟩, ⟨Vs, hs, B0⟩, ⟨Vd, hd, B0⟩⟩
  have hI := P4.s hP
  have hI0 := P4.s (P4.drw hP)
  go_cut [65] (fun s65 W => s65 = .bool false ∧ Hid (P4 w x3.heap.size x5.heap.size x7.heap.size x9.heap.size ax ay none none lx ly 0 0 kx ky 0 0 zx zy [] [] W))
  case first =>
    go_region_held3 (fun W => W.cell? ⟨x3.heap.size, 0, none⟩ = some (.slice ax lx kx) ∧ W.cell? ⟨x5.heap.size, 0, none⟩ = some (.slice ay ly ky) ∧ W.cell? ⟨x7.heap.size, 0, none⟩ = some (.slice none 0 0) ∧ Hid (P4 w x3.heap.size x5.heap.size x7.heap.size x9.heap.size ax ay none none lx ly 0 0 kx ky 0 0 zx zy [] [] W))
      (first | with_reducible assumption)
      (first
        | (go_at_call 27; refine (ncompare_any ax ay lx kx ly ky zx zy _ (P4.get (w := w) (b1 := x3.heap.size) (b2 := x5.heap.size) (b3 := x7.heap.size) (b4 := x9.heap.size) (a1 := ax) (a2 := ay) (a3 := none) (a4 := none) (l1 := lx) (l2 := ly) (l3 := 0) (l4 := 0) (c1 := kx) (c2 := ky) (c3 := 0) (c4 := 0) (z1 := zx) (z2 := zy) (z3 := []) (z4 := []) (by with_reducible assumption)).1.2.1 (P4.get (w := w) (b1 := x3.heap.size) (b2 := x5.heap.size) (b3 := x7.heap.size) (b4 := x9.heap.size) (a1 := ax) (a2 := ay) (a3 := none) (a4 := none) (l1 := lx) (l2 := ly) (l3 := 0) (l4 := 0) (c1 := kx) (c2 := ky) (c3 := 0) (c4 := 0) (z1 := zx) (z2 := zy) (z3 := []) (z4 := []) (by with_reducible assumption)).2.1.2.1).mono ?_; rintro e y1 ⟨rfl, b1⟩; rw [HC.out]; have hY1 := P4.call (w := w) (b1 := x3.heap.size) (b2 := x5.heap.size) (b3 := x7.heap.size) (b4 := x9.heap.size) (a1 := ax) (a2 := ay) (a3 := none) (a4 := none) (l1 := lx) (l2 := ly) (l3 := 0) (l4 := 0) (c1 := kx) (c2 := ky) (c3 := 0) (c4 := 0) (z1 := zx) (z2 := zy) (z3 := []) (z4 := []) b1 (by with_reducible assumption))
        | (go_at_call 29; refine (radd_any a0 a1 len0 cap0 len1 cap1 z0 z1 _ (HS0.out.below (P4.get (w := w) (b1 := x3.heap.size) (b2 := x5.heap.size) (b3 := x7.heap.size) (b4 := x9.heap.size) (a1 := ax) (a2 := ay) (a3 := none) (a4 := none) (l1 := lx) (l2 := ly) (l3 := 0) (l4 := 0) (c1 := kx) (c2 := ky) (c3 := 0) (c4 := 0) (z1 := zx) (z2 := zy) (z3 := []) (z4 := []) (by with_reducible assumption)).1.2.2 (Nat.le_refl _)) (HS1.out.below (P4.get (w := w) (b1 := x3.heap.size) (b2 := x5.heap.size) (b3 := x7.heap.size) (b4 := x9.heap.size) (a1 := ax) (a2 := ay) (a3 := none) (a4 := none) (l1 := lx) (l2 := ly) (l3 := 0) (l4 := 0) (c1 := kx) (c2 := ky) (c3 := 0) (c4 := 0) (z1 := zx) (z2 := zy) (z3 := []) (z4 := []) (by with_reducible assumption)).1.2.2 (Nat.le_refl _)) (by omega) (by omega)).mono ?_; rintro e y2 ⟨a4, m4, c4, z4, rfl, k4, k5, s4, u4, n4, b2⟩; have hY2 := P4.call (w := w) (b1 := x3.heap.size) (b2 := x5.heap.size) (b3 := x7.heap.size) (b4 := x9.heap.size) (a1 := ax) (a2 := ay) (a3 := none) (a4 := none) (l1 := lx) (l2 := ly) (l3 := 0) (l4 := 0) (c1 := kx) (c2 := ky) (c3 := 0) (c4 := 0) (z1 := zx) (z2 := zy) (z3 := []) (z4 := []) b2 (by with_reducible assumption))
        | (go_at_call 28; refine (agrees_long a4 0 m4 c4 z4 _ s4 (by omega) (long_used s4.2.1 n4 hfit)).mono ?_; rintro e y3 ⟨rfl, b3⟩; have hY3 := P4.call (w := w) (b1 := x3.heap.size) (b2 := x5.heap.size) (b3 := x7.heap.size) (b4 := x9.heap.size) (a1 := ax) (a2 := ay) (a3 := none) (a4 := none) (l1 := lx) (l2 := ly) (l3 := 0) (l4 := 0) (c1 := kx) (c2 := ky) (c3 := 0) (c4 := 0) (z1 := zx) (z2 := zy) (z3 := []) (z4 := []) b3 (by with_reducible assumption)))
    all_goals
      go_wp2_with fail
      go_meet
      exact ⟨rfl, And.right (And.right (And.right (by with_reducible assumption)))⟩
  case rest =>
    obtain ⟨rfl, hH⟩ := hcut
    clear Vx Vy Vs Vd hx hy hs hd B0 hP hI hI0 c_Vx f_Vx l_Vx m_Vx c_Vy f_Vy l_Vy m_Vy c_Vs f_Vs l_Vs m_Vs c_Vd f_Vd l_Vd m_Vd
    obtain ⟨-, -, -, Vd, hd, B0⟩ := hH
    have c_Vd := Vd.cell
    have f_Vd := Vd.frozen 0
    have l_Vd := Vd.lt
    have m_Vd := Nat.le_of_lt l_Vd
    clear gC HC
    set_option maxRecDepth 100000 in go_wp2_with fail
    refine (is_nil 0 0 none none wc).mono ?_
    rintro e x21 ⟨rfl, hb⟩
    replace Vd := Va.after hb Vd
    replace hd := Nt.after hb hd
    replace B0 := step B0 hb
    clear hb
    clear c_Vd f_Vd l_Vd m_Vd
    have c_Vd := Vd.cell
    have f_Vd := Vd.frozen 0
    have l_Vd := Vd.lt
    have m_Vd := Nat.le_of_lt l_Vd
    go_wp2_with fail
    go_ret
    exact ⟨rfl, B0⟩

set_option maxRecDepth 20000 in
set_option maxHeartbeats 4000000 in
theorem walk_ls (a0 : Option Addr) (len0 cap0 : Nat) (z0 : List Int) (a1 : Option Addr) (len1 cap1 : Nat) (z1 : List Int) (w : World) (s0 : Sl w a0 len0 z0) (c0 : len0 ≤ cap0) (r0 : cap0 ≤ 1048576) (e0 : a0 = none → len0 = 0 ∧ cap0 = 0) (s1 : Sl w a1 len1 z1) (c1 : len1 ≤ cap1) (r1 : cap1 ≤ 1048576) (e1 : a1 = none → len1 = 0 ∧ cap1 = 0) (u0 : usedN z0 ≤ 4096) (u1 : usedN z1 ≤ 4096) (hfit : Hid (pw 4096 ≤ num z0 + num z1)) (hsub : Hid (num z1 ≤ num z0)) :
    Calls Try.prog 4 #[.slice a0 len0 cap0, .slice a1 len1 cap1] w fun e w' => e = .returned (.bool true) ∧ Below w.heap.size w w' := by
  have B0 : Below w.heap.size w w := Below.refl _ _
  go_enter Try.func4, Try.ntmps4
  go_wp2_with fail
  have HS0 : Hid (Sl w a0 len0 z0) := s0
  have HS1 : Hid (Sl w a1 len1 z1) := s1
  refine (nawake_any w).mono ?_
  rintro e x1 ⟨rfl, hb⟩
  replace s0 := s0.below hb (Nat.le_refl _)
  replace s1 := s1.below hb (Nat.le_refl _)
  replace B0 := step B0 hb
  clear hb
  go_wp2_with fail
  refine (long_no a0 a1 len0 cap0 len1 cap1 z0 z1 x1 s0 s1 (by omega) (by omega) u0 u1).mono ?_
  rintro e x2 ⟨rfl, hb⟩
  replace s0 := s0.below hb (Nat.le_refl _)
  replace s1 := s1.below hb (Nat.le_refl _)
  replace B0 := step B0 hb
  clear hb
  go_wp2_with fail
  refine (oflaw_ok a0 len0 cap0 z0 x2 s0 e0 (by omega) c0 u0).mono ?_
  rintro e x3 ⟨ax, lx, kx, zx, rfl, hx, nx, hb⟩
  replace s0 := s0.below hb (Nat.le_refl _)
  replace s1 := s1.below hb (Nat.le_refl _)
  replace B0 := step B0 hb
  clear hb
  go_wp2_with fail
  refine ent1 x3 _ _ (Q := fun W => Calls Try.prog _ _ W _) ?_
  intro x4 hb hs_x4 Vx
  replace hx := Nt.after hb hx
  replace s0 := s0.below hb (Nat.le_refl _)
  replace s1 := s1.below hb (Nat.le_refl _)
  replace B0 := step B0 hb
  clear hb hs_x4
  refine (oflaw_ok a1 len1 cap1 z1 x4 s1 e1 (by omega) c1 u1).mono ?_
  rintro e x5 ⟨ay, ly, ky, zy, rfl, hy, ny, hb⟩
  replace Vx := Va.after hb Vx
  replace hx := Nt.after hb hx
  replace s0 := s0.below hb (Nat.le_refl _)
  replace s1 := s1.below hb (Nat.le_refl _)
  replace B0 := step B0 hb
  clear hb
  have c_Vx := Vx.cell
  have f_Vx := Vx.frozen 0
  have l_Vx := Vx.lt
  have m_Vx := Nat.le_of_lt l_Vx
  go_wp2_with fail
  refine ent1 x5 _ _ (Q := fun W => Calls Try.prog _ _ W _) ?_
  intro x6 hb hs_x6 Vy
  replace Vx := Va.after hb Vx
  replace hx := Nt.after hb hx
  replace hy := Nt.after hb hy
  replace s0 := s0.below hb (Nat.le_refl _)
  replace s1 := s1.below hb (Nat.le_refl _)
  replace B0 := step B0 hb
  clear hb hs_x6
  refine (nadd_long ax ay lx kx ly ky zx zy x6 hx hy (by rw [nx, ny]; exact hfit.out)).mono ?_
  rintro e x7 ⟨rfl, hb⟩
  replace Vx := Va.after hb Vx
  replace Vy := Va.after hb Vy
  replace hx := Nt.after hb hx
  replace hy := Nt.after hb hy
  replace s0 := s0.below hb (Nat.le_refl _)
  replace s1 := s1.below hb (Nat.le_refl _)
  replace B0 := step B0 hb
  clear hb
  clear c_Vx f_Vx l_Vx m_Vx
  have c_Vx := Vx.cell
  have f_Vx := Vx.frozen 0
  have l_Vx := Vx.lt
  have m_Vx := Nat.le_of_lt l_Vx
  have c_Vy := Vy.cell
  have f_Vy := Vy.frozen 0
  have l_Vy := Vy.lt
  have m_Vy := Nat.le_of_lt l_Vy
  go_wp2_with fail
  refine ent1 x7 _ _ (Q := fun W => Calls Try.prog _ _ W _) ?_
  intro x8 hb hs_x8 Vs
  replace Vx := Va.after hb Vx
  replace Vy := Va.after hb Vy
  replace hx := Nt.after hb hx
  replace hy := Nt.after hb hy
  replace s0 := s0.below hb (Nat.le_refl _)
  replace s1 := s1.below hb (Nat.le_refl _)
  replace B0 := step B0 hb
  clear hb hs_x8
  have hs : Nt x8 none 0 0 [] := Nt.nil _
  refine (nsub_ok ax ay lx kx ly ky zx zy x8 hx hy (by rw [nx, ny]; exact hsub.out)).mono ?_
  rintro e x9 ⟨ad, ld, kd, zd, rfl, hd, nd, hb⟩
  replace Vx := Va.after hb Vx
  replace Vy := Va.after hb Vy
  replace Vs := Va.after hb Vs
  replace hx := Nt.after hb hx
  replace hy := Nt.after hb hy
  replace hs := Nt.after hb hs
  replace s0 := s0.below hb (Nat.le_refl _)
  replace s1 := s1.below hb (Nat.le_refl _)
  replace B0 := step B0 hb
  clear hb
  rw [nx, ny] at nd
  have HND : Hid (num zd = num z0 - num z1) := nd
  clear nd
  clear c_Vx f_Vx l_Vx m_Vx c_Vy f_Vy l_Vy m_Vy
  have c_Vx := Vx.cell
  have f_Vx := Vx.frozen 0
  have l_Vx := Vx.lt
  have m_Vx := Nat.le_of_lt l_Vx
  have c_Vy := Vy.cell
  have f_Vy := Vy.frozen 0
  have l_Vy := Vy.lt
  have m_Vy := Nat.le_of_lt l_Vy
  have c_Vs := Vs.cell
  have f_Vs := Vs.frozen 0
  have l_Vs := Vs.lt
  have m_Vs := Nat.le_of_lt l_Vs
  go_wp2_with fail
  refine ent1 x9 _ _ (Q := fun W => Calls Try.prog _ _ W _) ?_
  intro x10 hb hs_x10 Vd
  replace Vx := Va.after hb Vx
  replace Vy := Va.after hb Vy
  replace Vs := Va.after hb Vs
  replace hx := Nt.after hb hx
  replace hy := Nt.after hb hy
  replace hs := Nt.after hb hs
  replace hd := Nt.after hb hd
  replace s0 := s0.below hb (Nat.le_refl _)
  replace s1 := s1.below hb (Nat.le_refl _)
  replace B0 := step B0 hb
  clear hb hs_x10
  refine (rcompare_any a0 a1 len0 cap0 len1 cap1 z0 z1 x10 s0 s1 e0 e1 (by omega) (by omega) c0 c1).mono ?_
  rintro e x11 ⟨rfl, hb⟩
  replace Vx := Va.after hb Vx
  replace Vy := Va.after hb Vy
  replace Vs := Va.after hb Vs
  replace Vd := Va.after hb Vd
  replace hx := Nt.after hb hx
  replace hy := Nt.after hb hy
  replace hs := Nt.after hb hs
  replace hd := Nt.after hb hd
  replace s0 := s0.below hb (Nat.le_refl _)
  replace s1 := s1.below hb (Nat.le_refl _)
  replace B0 := step B0 hb
  clear hb
  obtain ⟨C, hC⟩ : ∃ C, cmp3 (num z0) (num z1) = C := ⟨_, rfl⟩
  have HC : Hid (cmp3 (num zx) (num zy) = C) := by rw [nx, ny]; exact hC
  have hneg : ¬ C < 0 := by rw [← hC, cmp3_neg_iff]; exact Int.not_lt.2 hsub.out
  rw [hC]
  have gC : (C != C) = false := by simp
  clear hC nx ny s0 s1
  clear c_Vx f_Vx l_Vx m_Vx c_Vy f_Vy l_Vy m_Vy c_Vs f_Vs l_Vs m_Vs
  have c_Vx := Vx.cell
  have f_Vx := Vx.frozen 0
  have l_Vx := Vx.lt
  have m_Vx := Nat.le_of_lt l_Vx
  have c_Vy := Vy.cell
  have f_Vy := Vy.frozen 0
  have l_Vy := Vy.lt
  have m_Vy := Nat.le_of_lt l_Vy
  have c_Vs := Vs.cell
  have f_Vs := Vs.frozen 0
  have l_Vs := Vs.lt
  have m_Vs := Nat.le_of_lt l_Vs
  have c_Vd := Vd.cell
  have f_Vd := Vd.frozen 0
  have l_Vd := Vd.lt
  have m_Vd := Nat.le_of_lt l_Vd
  go_wp2_with fail
  have hP : P4 w x3.heap.size x5.heap.size x7.heap.size x9.heap.size ax ay none ad lx ly 0 ld kx ky 0 kd zx zy [] zd x11 := ⟨⟨Vx, hx, B0⟩, ⟨Vy, hy, B0⟩, ⟨Vs, hs, B0⟩, ⟨Vd, hd, B0⟩⟩
  have hI := P4.s hP
  have hI0 := P4.s (P4.drw hP)
  go_cut [65] (fun s65 W => s65 = .bool false ∧ Hid (P4 w x3.heap.size x5.heap.size x7.heap.size x9.heap.size ax ay none ad lx ly 0 ld kx ky 0 kd zx zy [] zd W))
  case first =>
    go_region_held3 (fun W => W.cell? ⟨x3.heap.size, 0, none⟩ = some (.slice ax lx kx) ∧ W.cell? ⟨x5.heap.size, 0, none⟩ = some (.slice ay ly ky) ∧ W.cell? ⟨x7.heap.size, 0, none⟩ = some (.slice none 0 0) ∧ Hid (P4 w x3.heap.size x5.heap.size x7.heap.size x9.heap.size ax ay none ad lx ly 0 ld kx ky 0 kd zx zy [] zd W))
      (first | with_reducible assumption)
      (first
        | (go_at_call 27; refine (ncompare_any ax ay lx kx ly ky zx zy _ (P4.get (w := w) (b1 := x3.heap.size) (b2 := x5.heap.size) (b3 := x7.heap.size) (b4 := x9.heap.size) (a1 := ax) (a2 := ay) (a3 := none) (a4 := ad) (l1 := lx) (l2 := ly) (l3 := 0) (l4 := ld) (c1 := kx) (c2 := ky) (c3 := 0) (c4 := kd) (z1 := zx) (z2 := zy) (z3 := []) (z4 := zd) (by with_reducible assumption)).1.2.1 (P4.get (w := w) (b1 := x3.heap.size) (b2 := x5.heap.size) (b3 := x7.heap.size) (b4 := x9.heap.size) (a1 := ax) (a2 := ay) (a3 := none) (a4 := ad) (l1 := lx) (l2 := ly) (l3 := 0) (l4 := ld) (c1 := kx) (c2 := ky) (c3 := 0) (c4 := kd) (z1 := zx) (z2 := zy) (z3 := []) (z4 := zd) (by with_reducible assumption)).2.1.2.1).mono ?_; rintro e y1 ⟨rfl, b1⟩; rw [HC.out]; have hY1 := P4.call (w := w) (b1 := x3.heap.size) (b2 := x5.heap.size) (b3 := x7.heap.size) (b4 := x9.heap.size) (a1 := ax) (a2 := ay) (a3 := none) (a4 := ad) (l1 := lx) (l2 := ly) (l3 := 0) (l4 := ld) (c1 := kx) (c2 := ky) (c3 := 0) (c4 := kd) (z1 := zx) (z2 := zy) (z3 := []) (z4 := zd) b1 (by with_reducible assumption))
        | (go_at_call 29; refine (radd_any a0 a1 len0 cap0 len1 cap1 z0 z1 _ (HS0.out.below (P4.get (w := w) (b1 := x3.heap.size) (b2 := x5.heap.size) (b3 := x7.heap.size) (b4 := x9.heap.size) (a1 := ax) (a2 := ay) (a3 := none) (a4 := ad) (l1 := lx) (l2 := ly) (l3 := 0) (l4 := ld) (c1 := kx) (c2 := ky) (c3 := 0) (c4 := kd) (z1 := zx) (z2 := zy) (z3 := []) (z4 := zd) (by with_reducible assumption)).1.2.2 (Nat.le_refl _)) (HS1.out.below (P4.get (w := w) (b1 := x3.heap.size) (b2 := x5.heap.size) (b3 := x7.heap.size) (b4 := x9.heap.size) (a1 := ax) (a2 := ay) (a3 := none) (a4 := ad) (l1 := lx) (l2 := ly) (l3 := 0) (l4 := ld) (c1 := kx) (c2 := ky) (c3 := 0) (c4 := kd) (z1 := zx) (z2 := zy) (z3 := []) (z4 := zd) (by with_reducible assumption)).1.2.2 (Nat.le_refl _)) (by omega) (by omega)).mono ?_; rintro e y2 ⟨a4, m4, c4, z4, rfl, k4, k5, s4, u4, n4, b2⟩; have hY2 := P4.call (w := w) (b1 := x3.heap.size) (b2 := x5.heap.size) (b3 := x7.heap.size) (b4 := x9.heap.size) (a1 := ax) (a2 := ay) (a3 := none) (a4 := ad) (l1 := lx) (l2 := ly) (l3 := 0) (l4 := ld) (c1 := kx) (c2 := ky) (c3 := 0) (c4 := kd) (z1 := zx) (z2 := zy) (z3 := []) (z4 := zd) b2 (by with_reducible assumption))
        | (go_at_call 28; refine (agrees_long a4 0 m4 c4 z4 _ s4 (by omega) (long_used s4.2.1 n4 hfit)).mono ?_; rintro e y3 ⟨rfl, b3⟩; have hY3 := P4.call (w := w) (b1 := x3.heap.size) (b2 := x5.heap.size) (b3 := x7.heap.size) (b4 := x9.heap.size) (a1 := ax) (a2 := ay) (a3 := none) (a4 := ad) (l1 := lx) (l2 := ly) (l3 := 0) (l4 := ld) (c1 := kx) (c2 := ky) (c3 := 0) (c4 := kd) (z1 := zx) (z2 := zy) (z3 := []) (z4 := zd) b3 (by with_reducible assumption)))
    all_goals
      go_wp2_with fail
      go_meet
      exact ⟨rfl, And.right (And.right (And.right (by with_reducible assumption)))⟩
  case rest =>
    obtain ⟨rfl, hH⟩ := hcut
    clear Vx Vy Vs Vd hx hy hs hd B0 hP hI hI0 c_Vx f_Vx l_Vx m_Vx c_Vy f_Vy l_Vy m_Vy c_Vs f_Vs l_Vs m_Vs c_Vd f_Vd l_Vd m_Vd
    obtain ⟨-, -, -, Vd, hd, B0⟩ := hH
    have c_Vd := Vd.cell
    have f_Vd := Vd.frozen 0
    have l_Vd := Vd.lt
    have m_Vd := Nat.le_of_lt l_Vd
    clear gC HC
    set_option maxRecDepth 100000 in go_wp2_with fail
    have hI := HV.mk' Vd hd B0
    have hI0 := HV.drew Vd hd B0
    go_region_held3 (fun W => W.cell? ⟨x9.heap.size, 0, none⟩ = some (.slice ad ld kd) ∧ Hid (HV w x9.heap.size ad ld kd zd W))
      (first | with_reducible assumption)
      (first
        | (go_at_call 30; refine (rsub_any a0 a1 len0 cap0 len1 cap1 z0 z1 _ (HS0.out.below (And.right (And.right (HV.get (w := w) (b1 := x9.heap.size) (a1 := ad) (l1 := ld) (c1 := kd) (z1 := zd) (by with_reducible assumption)))) (Nat.le_refl _)) (HS1.out.below (And.right (And.right (HV.get (w := w) (b1 := x9.heap.size) (a1 := ad) (l1 := ld) (c1 := kd) (z1 := zd) (by with_reducible assumption)))) (Nat.le_refl _)) (by omega) (by omega) hsub.out).mono ?_; rintro e y4 ⟨a4, m4, c4, z4, rfl, k4, k5, s4, u4, n4, b2⟩; have hY4 := HV.call (w := w) (b := x9.heap.size) (a := ad) (l := ld) (c := kd) (zs := zd) b2 (by with_reducible assumption))
        | (go_at_call 13; refine (is_ok ad a4 ld kd m4 c4 zd z4 _ (HV.nt (w := w) (b := x9.heap.size) (a := ad) (l := ld) (c := kd) (zs := zd) (by with_reducible assumption)) s4 u4 (by rw [n4, HND.out])).mono ?_; rintro e y5 ⟨rfl, b3⟩; have hY5 := HV.call (w := w) (b := x9.heap.size) (a := ad) (l := ld) (c := kd) (zs := zd) b3 (by with_reducible assumption)))
    all_goals
      go_wp2_with fail
      go_ret
      exact ⟨rfl, And.right (And.right (HV.get (w := w) (b1 := x9.heap.size) (a1 := ad) (l1 := ld) (c1 := kd) (z1 := zd) (by with_reducible assumption)))⟩

theorem walk (a0 : Option Addr) (len0 cap0 : Nat) (z0 : List Int) (a1 : Option Addr) (len1 cap1 : Nat) (z1 : List Int) (w : World) (s0 : Sl w a0 len0 z0) (c0 : len0 ≤ cap0) (r0 : cap0 ≤ 1048576) (e0 : a0 = none → len0 = 0 ∧ cap0 = 0) (s1 : Sl w a1 len1 z1) (c1 : len1 ≤ cap1) (r1 : cap1 ≤ 1048576) (e1 : a1 = none → len1 = 0 ∧ cap1 = 0) :
    Calls Try.prog 4 #[.slice a0 len0 cap0, .slice a1 len1 cap1] w fun e w' => e = .returned (.bool true) ∧ Below w.heap.size w w' := by
  by_cases hu : 4096 < usedN z0 ∨ 4096 < usedN z1
  · exact walk_a a0 len0 cap0 z0 a1 len1 cap1 z1 w s0 c0 r0 e0 s1 c1 r1 e1 hu
  · have u0 : usedN z0 ≤ 4096 := by omega
    have u1 : usedN z1 ≤ 4096 := by omega
    rcases Int.lt_or_le (num z0 + num z1) (pw 4096) with hf | hf
    · rcases Int.lt_or_le (num z0) (num z1) with hs | hs
      · exact walk_fb a0 len0 cap0 z0 a1 len1 cap1 z1 w s0 c0 r0 e0 s1 c1 r1 e1 u0 u1 hf hs
      · exact walk_fs a0 len0 cap0 z0 a1 len1 cap1 z1 w s0 c0 r0 e0 s1 c1 r1 e1 u0 u1 hf hs
    · rcases Int.lt_or_le (num z0) (num z1) with hs | hs
      · exact walk_lb a0 len0 cap0 z0 a1 len1 cap1 z1 w s0 c0 r0 e0 s1 c1 r1 e1 u0 u1 hf hs
      · exact walk_ls a0 len0 cap0 z0 a1 len1 cap1 z1 w s0 c0 r0 e0 s1 c1 r1 e1 u0 u1 hf hs
end Go.Proofs.Ytajjhnilpdmnhaa.natSums
namespace Go.Proofs.Ytajjhnilpdmnhaa
open Go.ChangeShapes

theorem bulk_lits {H : Type} : ∀ zs : List Int, Rows.uptoBulkAll (lits (H := H) .u64 zs) = zs.length
  | [] => rfl
  | z :: r => by
    have ih := bulk_lits (H := H) r
    simp only [lits, List.map_cons, Rows.uptoBulkAll, Rows.uptoBulk, List.length_cons] at ih ⊢
    omega
theorem bulk_row {H : Type} (zs : List Int) (n : Nat) : Rows.uptoBulk (DataW.slice (lits (H := H) .u64 (zs.take n)) (lits .u64 (zs.drop n))) = zs.length + 1 := by
  simp only [Rows.uptoBulk, bulk_lits, List.length_take, List.length_drop]
  omega
end Go.Proofs.Ytajjhnilpdmnhaa
namespace Go.Proofs.Ytajjhnilpdmnhaa.natSums
open Go.ChangeShapes Go.WideShapes Go.ChangeAt Go.RowKit
set_option linter.unusedVariables false

theorem own : ownKnob Try.prog.godebug = none := by kernel_rfl
theorem laidOut : laidOutB Try.prog = true := by kernel_rfl
theorem bytes8 : Try.prog.bytesOf 23 = 8 := by kernel_rfl

set_option maxRecDepth 100000 in
theorem contract (H : Type) (enc : TypeId × Value → H) (W : World) (base : Nat) (args : Array Value) (ds gs : List (DataW H)) (before : List MemPlace)
    (hval : ∀ (j : Nat) t v, Try.f4.params[j]? = some t → args[j]? = some v → Value.okWide Try.prog W .any base t v)
    (hW : DataW.Whole enc Try.prog Try.f4.params.toList Rows.natSumsSpec.vars false W args.toList ds gs before) (hk : Rows.uptoSmall H (ds ++ gs) = true) :
    Calls Try.prog 4 args W fun e W' => ∃ v, e = .returned v ∧ Rows.natSumsSpec.post enc Try.prog Try.f4 false true false false W args v W' := by
  have hW' := hW
  obtain ⟨p, q, hA0, hV, rfl, hfz, hnd⟩ := hW
  have hA : DataW.TrodAll enc Try.prog W 0 (fun _ => true) true Try.f4.params.toList args.toList ds p := hA0
  rw [Try.params4] at hA hval
  obtain ⟨v0, vs0, d0, ds0, p0, q0, hargs, rfl, rfl, h0, r0⟩ := trodAll_cons hA
  obtain ⟨v1, vs1, d1, ds1, p1, q1, rfl, rfl, rfl, h1, r1⟩ := trodAll_cons r0
  obtain ⟨rfl, rfl, rfl⟩ := trodAll_nil r1
  obtain rfl : args = #[v0, v1] := by cases args; simp_all
  obtain ⟨rfl, rfl⟩ := trodVars_none hV
  obtain ⟨a0, len0, cap0, rfl⟩ := okWide_slice Try.underlying22 (hval 0 22 v0 rfl rfl)
  have k0 := h0
  have lt0 : ∀ x ∈ p0, x.block < W.heap.size := by obtain ⟨m, hm⟩ := k0; exact DataW.trod_lt m _ _ _ hm
  obtain ⟨z0, s0, c0, b0, e0⟩ : ∃ zs, Sl W a0 len0 zs ∧ len0 ≤ cap0 ∧ cap0 ≤ 1048576 ∧ (a0 = Option.none → len0 = 0 ∧ cap0 = 0) := by
    obtain ⟨fuel, hf⟩ := h0
    rcases open_ints Try.underlying22 Try.underlying23 (by kernel_rfl) hf with ⟨hcs, _⟩ | ⟨x, l, c, zs, hcs, _, hl, hm, hz, hx, hcell, hwz⟩
    · simp [Value.cells] at hcs
      obtain ⟨rfl, rfl, rfl⟩ := hcs
      exact ⟨[], ⟨rfl, Limbs.nil, fun h => absurd h (by decide)⟩, Nat.le_refl _, by decide, fun _ => ⟨rfl, rfl⟩⟩
    · simp [Value.cells] at hcs
      obtain ⟨rfl, rfl, rfl⟩ := hcs
      have hz' : zs.length = cap0 := by simpa using hz
      have hd : d0 = DataW.slice (lits .u64 (zs.take len0)) (lits .u64 (zs.drop len0)) := congrArg Prod.fst hx
      have hb : Rows.uptoBulkAll [d0, d1] ≤ 1048576 := of_decide_eq_true hk
      simp only [Rows.uptoBulkAll] at hb
      rw [hd, bulk_row] at hb
      have hcap : cap0 ≤ 1048576 := by omega
      refine ⟨zs.take len0, ⟨by rw [List.length_take]; omega, fun z hz2 => word_of_wf (hwz z (List.mem_of_mem_take hz2)), fun h => ?_⟩, hl, hcap, fun h => by cases h⟩
      obtain ⟨bb, off, rfl, hc⟩ := ints_at hcell (by omega)
      refine ⟨bb, off, rfl, fun j hj => ?_⟩
      rw [hc j (by omega), List.getD_eq_getElem?_getD, List.getD_eq_getElem?_getD, List.getElem?_take_of_lt hj]
  obtain ⟨a1, len1, cap1, rfl⟩ := okWide_slice Try.underlying22 (hval 1 22 v1 rfl rfl)
  have k1 := h1
  have lt1 : ∀ x ∈ p1, x.block < W.heap.size := by obtain ⟨m, hm⟩ := k1; exact DataW.trod_lt m _ _ _ hm
  obtain ⟨z1, s1, c1, b1, e1⟩ : ∃ zs, Sl W a1 len1 zs ∧ len1 ≤ cap1 ∧ cap1 ≤ 1048576 ∧ (a1 = Option.none → len1 = 0 ∧ cap1 = 0) := by
    obtain ⟨fuel, hf⟩ := h1
    rcases open_ints Try.underlying22 Try.underlying23 (by kernel_rfl) hf with ⟨hcs, _⟩ | ⟨x, l, c, zs, hcs, _, hl, hm, hz, hx, hcell, hwz⟩
    · simp [Value.cells] at hcs
      obtain ⟨rfl, rfl, rfl⟩ := hcs
      exact ⟨[], ⟨rfl, Limbs.nil, fun h => absurd h (by decide)⟩, Nat.le_refl _, by decide, fun _ => ⟨rfl, rfl⟩⟩
    · simp [Value.cells] at hcs
      obtain ⟨rfl, rfl, rfl⟩ := hcs
      have hz' : zs.length = cap1 := by simpa using hz
      have hd : d1 = DataW.slice (lits .u64 (zs.take len1)) (lits .u64 (zs.drop len1)) := congrArg Prod.fst hx
      have hb : Rows.uptoBulkAll [d0, d1] ≤ 1048576 := of_decide_eq_true hk
      simp only [Rows.uptoBulkAll] at hb
      rw [hd, bulk_row] at hb
      have hcap : cap1 ≤ 1048576 := by omega
      refine ⟨zs.take len1, ⟨by rw [List.length_take]; omega, fun z hz2 => word_of_wf (hwz z (List.mem_of_mem_take hz2)), fun h => ?_⟩, hl, hcap, fun h => by cases h⟩
      obtain ⟨bb, off, rfl, hc⟩ := ints_at hcell (by omega)
      refine ⟨bb, off, rfl, fun j hj => ?_⟩
      rw [hc j (by omega), List.getD_eq_getElem?_getD, List.getD_eq_getElem?_getD, List.getElem?_take_of_lt hj]
  clear hA0
  refine (walk a0 len0 cap0 z0 a1 len1 cap1 z1 W s0 c0 b0 e0 s1 c1 b1 e1).mono fun e W' ⟨he, bel⟩ => ?_
  subst he
  exact ⟨_, rfl, _, _, _, [], _, [], hW', trodAll_mk1 (shut_bool Try.underlying4 _), (trodAll_cons_mk (Below.trod laidOut (by kernel_rfl) (of_decide_eq_true (by kernel_rfl)) k0 bel lt0) (trodAll_cons_mk (Below.trod laidOut (by kernel_rfl) (of_decide_eq_true (by kernel_rfl)) k1 bel lt1) trodAll_mk0)), rfl, bel.frame _, fun h => by cases h⟩

set_option maxRecDepth 100000 in
theorem lifted (os : Os) (started : os.Started) (H : Type) (enc : TypeId × Value → H) (F : Stop.Interp) :
    ReturnsInHanded {} Try.checked os 4 .any ((Rows.OpenSpec.upto Rows.natSumsSpec).pre6 enc Try.prog Try.f4 Rows.natSumsUptoRow.domain false) (((Rows.OpenSpec.upto Rows.natSumsSpec).at F).post enc Try.prog Try.f4 false true false false) := by
  refine returnsInHanded_of_cond (C := Try.checked) (s := Rows.OpenSpec.upto Rows.natSumsSpec) (k := Rows.uptoSmall) rfl own started (by kernel_rfl) Try.func4
    (OpenSpec.witness (enc := enc) (C := Try.checked) (s := Rows.OpenSpec.upto Rows.natSumsSpec) (k := Rows.uptoSmall) rfl false ⟨#[], #[.slice none 0 0, .slice none 0 0], []⟩ 8 (by kernel_rfl) (by kernel_rfl) (by kernel_rfl)
      (x := ([.nil, .nil], [], [])) (by kernel_rfl) rfl (by kernel_rfl)) ?_
  intro W base args ds gs before hval hW _ hk _
  exact contract H enc W base args ds gs before hval hW hk

theorem over : Rows.natSumsUptoRow.holds Try.pinned (Rows.OpenSpec.upto Rows.natSumsSpec) :=
  OpenClaim.holds_of_cond 4 Try.f4 rfl rfl rfl rfl rfl rfl rfl ⟨rfl, rfl, rfl, rfl, rfl⟩ rfl rfl rfl rfl rfl (by kernel_rfl) Try.func4 (by kernel_rfl)
    (of_decide_eq_true (by kernel_rfl)) (by unfold Func.isWrapper; first | (rw [if_pos (by decide +kernel)]; kernel_rfl) | (rw [if_neg (by decide +kernel)]; exact ⟨rfl, rfl⟩))
    (fun os started H enc _ F => lifted os started H enc F)
end Go.Proofs.Ytajjhnilpdmnhaa.natSums
namespace Go.Proofs.Ytajjhnilpdmnhaa
theorem natSumsUpto_holds : Rows.NatSumsUptoSaid := natSums.over
#print axioms natSumsUpto_holds
end Go.Proofs.Ytajjhnilpdmnhaa
