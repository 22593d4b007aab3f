/-
  The document's answers: the difference of two lists of limbs.
-/
import Derived.Test.YtegfklapgbggfaaGreatBsJ
namespace Go.Proofs.YtegfklapgbggfaaGreat
open Go.RowKit Go.Shelf

def DfInv (xs ys cs : List Int) (k : Nat) (c : Int) : Prop :=
  cs.length = k ∧ H.Limbs cs ∧ H.num cs - c * H.pw k = H.num (xs.take k) - H.num (ys.take k) ∧ 0 ≤ c ∧ c ≤ 1
theorem borrow_stepH {v c' s p : Int} (h : v - 4294967296 * c' = s) : v * p - c' * (4294967296 * p) = s * p := by
  rw [← h, Int.sub_mul, Int.mul_comm 4294967296 c', Int.mul_assoc]
theorem df_step {xs ys cs : List Int} {k : Nat} {c : Int} (hx : H.Limbs xs) (hy : H.Limbs ys) (I : DfInv xs ys cs k c) :
    DfInv xs ys (cs ++ [(4294967296 + xs.getD k 0 - ys.getD k 0 - c) % 4294967296]) (k + 1) (1 - (4294967296 + xs.getD k 0 - ys.getD k 0 - c) / 4294967296) := by
  obtain ⟨i1, i2, i3, i4, i5⟩ := I
  have b1 := hx.getD k; have b2 := hy.getD k
  refine ⟨by simp; omega, i2.snoc ⟨by omega, by omega⟩, ?_, by omega, by omega⟩
  have hc := borrow_stepH (v := (4294967296 + xs.getD k 0 - ys.getD k 0 - c) % 4294967296) (c' := 1 - (4294967296 + xs.getD k 0 - ys.getD k 0 - c) / 4294967296) (p := H.pw k) (s := xs.getD k 0 - ys.getD k 0 - c) (by omega)
  rw [H.num_snoc, i1, H.num_take_succ, H.num_take_succ, H.pw]
  rw [Int.sub_mul (xs.getD k 0 - ys.getD k 0), Int.sub_mul (xs.getD k 0)] at hc
  omega
theorem df_end {xs ys cs : List Int} {n : Nat} {c : Int} (hx : H.Limbs xs) (hy : H.Limbs ys) (hn : xs.length = n) (I : DfInv xs ys cs n c) (h : H.num ys ≤ H.num xs) : H.num cs = H.num xs - H.num ys := by
  obtain ⟨i1, i2, i3, i4, i5⟩ := I
  have hu := usedN_le xs
  have hle : usedN ys ≤ usedN xs := by
    rcases Nat.lt_or_ge (usedN xs) (usedN ys) with h' | h'
    · have := H.num_lt_len hx hy h'; omega
    · exact h'
  rw [H.num_take_used xs (by omega), H.num_take_used ys (by omega)] at i3
  have h1 := H.num_lt i2
  rw [i1] at h1
  have : c = 0 ∨ c = 1 := by omega
  rcases this with rfl | rfl
  · simpa using i3
  · rw [Int.one_mul] at i3; omega


set_option maxHeartbeats 2000000 in
theorem rsub_any (a0 a1 : Option Addr) (l0 k0 l1 k1 : Nat) (z0 z1 : List Int) (w : World) (ha0 : Sl w a0 l0 z0) (hb0 : Sl w a1 l1 z1) (h1 : l0 ≤ 2000000000000) (h2 : l1 ≤ 2000000000000) (hle : num z1 ≤ num z0) :
    Calls Tryz.prog 123 #[.slice a0 l0 k0, .slice a1 l1 k1] w fun e w' => LRes w w' e (num z0 - num z1) (2 * l0 + 2 * l1 + 1) := by
  go_enter Tryz.func123, Tryz.ntmps123
  go_wp2_with fail
  refine (digits_any a0 l0 k0 z0 w ha0 (by omega)).mono ?_
  rintro e wa ⟨a, la, ca, xs, rfl, -, hla, ha, hx, ux, nx, ba⟩
  go_wp2_with fail
  refine (digits_any a1 l1 k1 z1 wa (hb0.below ba (Nat.le_refl _)) (by omega)).mono ?_
  rintro e wb ⟨b, lb, cb, ys, rfl, -, hlb, hb, hy, uy, ny, bb⟩
  replace ha := ha.below bb (Nat.le_refl _)
  have HB : Hid (Below w.heap.size w wb) := step ba bb
  have hza := ha.1; have hzb := hb.1
  have HNX : Hid (H.num xs = num z0) := nx
  have HNY : Hid (H.num ys = num z1) := ny
  have HLE : Hid (H.num ys ≤ H.num xs) := by show _ ≤ _; rw [nx, ny]; exact hle
  clear ba bb ha0 hb0 ux uy nx ny hle
  go_wp2_with fail
  go_loopw [7, 8, 9] (fun v cc i wr => ∃ (k : Nat) (c : Int) (cs : List Int), i = .int .i64 k ∧ cc = .int .u64 c ∧ k ≤ la ∧ Hid (DfInv xs ys cs k c) ∧ Hid (Gr wr wb.heap.size v cs) ∧ Below wb.heap.size wb wr) (fun _ _ i _ => la - (intOf i).toNat)
  case atStart => exact ⟨0, 0, [], rfl, rfl, by omega, ⟨rfl, H.Limbs.nil, by simp [H.num], by omega, by omega⟩, Gr.nil _ _, Below.refl _ _⟩
  case round =>
    obtain ⟨k, c, cs, rfl, rfl, hk, hI, hG, hbl⟩ := hrel
    have hc0 := hI.out.2.2.2.1
    have hc1 := hI.out.2.2.2.2
    by_cases hlt : k < la
    · have hstep := df_step hx hy hI.out
      have hcl : cs.length ≤ k := by have := hI.out.1; omega
      have b1 := hx.getD k; have b2 := hy.getD k
      have hs := ha.below hbl (Nat.le_refl _)
      obtain ⟨bl, off, rfl, hcell⟩ := hs.2.2 (by omega)
      have hcx := hcell k hlt
      have D2 : ∀ q, Calls Tryz.prog 122 #[.slice b lb cb, .int .i64 k] (wr.drewN q) fun e w' => e = .returned (.int .u64 (ys.getD k 0)) ∧ w' = wr.drewN q := fun q => digit_any b lb cb ys k (wr.drewN q) (hb.below (below_drewN hbl q) (Nat.le_refl _)) (by omega)
      obtain ⟨x, hxx⟩ : ∃ x, xs.getD k 0 = x := ⟨_, rfl⟩
      obtain ⟨y, hyy⟩ : ∃ y, ys.getD k 0 = y := ⟨_, rfl⟩
      rw [hxx] at hcx hstep b1
      rw [hyy] at hstep b2
      simp only [hyy] at D2
      have DQ : Hid (∀ q, Calls Tryz.prog 122 #[.slice b lb cb, .int .i64 k] (wr.drewN q) fun e w' => e = .returned (.int .u64 y) ∧ w' = wr.drewN q) := D2
      clear D2
      obtain ⟨x1, x2⟩ := b1; obtain ⟨y1, y2⟩ := b2
      obtain ⟨t, ht⟩ : ∃ t, 4294967296 + x - y - c = t := ⟨_, rfl⟩
      rw [ht] at hstep
      have t1 : 0 ≤ t := by omega
      have t2 : t < 8589934592 := by omega
      have HS : Hid (DfInv xs ys (cs ++ [t % 4294967296]) (k + 1) (1 - t / 4294967296)) := hstep
      have hbs := hbl.size
      have HSZ : Hid (wb.heap.size ≤ (wr.alloc (.cells (row [t % 4294967296]).toArray 74)).heap.size) := by show _ ≤ _; simp; omega
      clear hstep hxx hyy hs hcell
      have ew1 : IntKind.u64.wrap (4294967296 + x) = 4294967296 + x := by rw [IntKind.wrap_u64]; omega
      have ew2 : IntKind.u64.wrap (4294967296 + x - y) = 4294967296 + x - y := by rw [IntKind.wrap_u64]; omega
      have ew3 : IntKind.u64.wrap (4294967296 + x - y - c) = t := by rw [ht, IntKind.wrap_u64]; omega
      have HT : Hid (4294967296 + x - y - c = t) := ht
      clear ht
      go_wp2_with fail
      go_quiet ((go_at_call 122; refine (DQ.out _).mono ?_; rintro e w2 ⟨rfl, rfl⟩; exact ⟨rfl, _, rfl⟩))
      go_wp2_with (at_builtin; refine wpList_app rfl (.tmp 32) (.tmp 35) rfl wb.heap.size u7 cs rfl (hG.out.alloc _) wr.heap.size 1 1 [t % 4294967296] rfl rfl (heap_alloc_new _ _) (by omega) HSZ.out ?_; intro v1 w1 hG1 hb1)
      have hb2 : Below wb.heap.size wb w1 := ((below_drewN hbl nq).alloc hbs _).trans hb1
      clear hb1
      go_wp2_with fail
      go_roundw
      case rel => exact ⟨k + 1, _, _, by go_num, rfl, by omega, HS, hG1, hb2⟩
      case measure => simp [intOf]; omega
    · obtain rfl : k = la := by omega
      have HE : Hid (H.num cs = H.num xs - H.num ys) := df_end hx hy hza hI.out HLE.out
      obtain ⟨i1, i2, i3, i4, i5⟩ := hI.out
      obtain ⟨aa, cap, hv, hcap, hsl⟩ := hG.out.sl i2.up
      have hu := usedN_le cs
      have hle : cs.length ≤ k := by omega
      rw [hv]
      clear hG hv i1 i3
      go_wp2_with fail
      refine (limbsr_any aa cs.length cap cs _ hsl i2 (by omega)).mono ?_
      rintro e w4 ⟨a4, m4, c4, z4, rfl, k4, k5, s4, u4, n4, b4⟩
      go_wp2_with fail
      go_ret
      exact ⟨a4, m4, c4, z4, rfl, k4, by omega, s4, u4, by rw [n4, HE.out, HNX.out, HNY.out], step (step HB.out hbl) b4⟩
end Go.Proofs.YtegfklapgbggfaaGreat
