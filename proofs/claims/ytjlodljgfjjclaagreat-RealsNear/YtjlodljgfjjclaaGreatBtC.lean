/-
  Put together of: NRef6, NRef14, NRef15, NRef3.
-/
import Derived.Test.YtjlodljgfjjclaaGreatBsJ
import Derived.Test.YtjlodljgfjjclaaGreatBsK
import Derived.Test.YtjlodljgfjjclaaGreatBsE
namespace Go.Proofs.YtjlodljgfjjclaaGreat
open Go.RowKit Go.Shelf

def RPrInv (xs ys cs : List Int) (n lb i : Nat) : Prop :=
  cs.length = n ∧ H.Limbs cs ∧ (∀ j, i + lb ≤ j → cs.getD j 0 = 0) ∧ H.num cs = H.num (xs.take i) * H.num ys
def InInv (ys cs : List Int) (n lb i k : Nat) (T x c : Int) : Prop :=
  cs.length = n ∧ H.Limbs cs ∧ (∀ j, i + lb ≤ j → cs.getD j 0 = 0) ∧ H.num cs + c * H.pw (i + k) = T + x * H.num (ys.take k) * H.pw i ∧ 0 ≤ c ∧ c < 4294967296

theorem in_start {xs ys cs : List Int} {n lb i : Nat} (x : Int) (I : RPrInv xs ys cs n lb i) : InInv ys cs n lb i 0 (H.num (xs.take i) * H.num ys) x 0 := by
  obtain ⟨i1, i2, i3, i4⟩ := I
  exact ⟨i1, i2, i3, by rw [i4]; simp [H.num], by omega, by omega⟩
theorem in_word {o x y c : Int} (ho : 0 ≤ o ∧ o < 4294967296) (hx : 0 ≤ x ∧ x < 4294967296) (hy : 0 ≤ y ∧ y < 4294967296) (hc : 0 ≤ c ∧ c < 4294967296) :
    0 ≤ x * y ∧ x * y ≤ 18446744065119617025 ∧ (o + x * y + c) / 4294967296 < 4294967296 := by
  have h1 : 0 ≤ x * y := Int.mul_nonneg hx.1 hy.1
  have h2 : x * y ≤ 4294967295 * y := Int.mul_le_mul_of_nonneg_right (by omega) hy.1
  generalize x * y = p at *
  omega
theorem in_step {ys cs : List Int} {n lb i k : Nat} {T x c : Int} (hx : 0 ≤ x ∧ x < 4294967296) (hy : H.Limbs ys) (hk : k < lb) (hn : i + lb ≤ n) (I : InInv ys cs n lb i k T x c) :
    InInv ys (cs.set (i + k) ((cs.getD (i + k) 0 + x * ys.getD k 0 + c) % 4294967296)) n lb i (k + 1) T x ((cs.getD (i + k) 0 + x * ys.getD k 0 + c) / 4294967296) := by
  obtain ⟨i1, i2, i3, i4, i5, i6⟩ := I
  have b1 := i2.getD (i + k); have b2 := hy.getD k
  obtain ⟨p1, p2, p3⟩ := in_word b1 hx b2 ⟨i5, i6⟩
  refine ⟨by rw [List.length_set]; exact i1, i2.set _ ⟨by omega, by omega⟩, fun j hj => by rw [getD_set_other _ _ _ _ (by omega)]; exact i3 j hj, ?_, by omega, p3⟩
  have hc := H.carry_step (v := (cs.getD (i + k) 0 + x * ys.getD k 0 + c) % 4294967296) (c' := (cs.getD (i + k) 0 + x * ys.getD k 0 + c) / 4294967296) (p := H.pw (i + k)) (s := cs.getD (i + k) 0 + x * ys.getD k 0 + c) (by omega)
  rw [Int.add_mul (cs.getD (i + k) 0 + x * ys.getD k 0), Int.add_mul (cs.getD (i + k) 0)] at hc
  rw [H.num_set _ _ _ (by omega), H.num_take_succ, ← Nat.add_assoc, H.pw, Int.sub_mul, Int.mul_add x, Int.add_mul (x * H.num (ys.take k))]
  have e : x * (ys.getD k 0 * H.pw k) * H.pw i = x * ys.getD k 0 * H.pw (i + k) := by
    rw [H.pw_add, Int.mul_comm (H.pw i), Int.mul_assoc, Int.mul_assoc, Int.mul_assoc]
  rw [e]
  omega
theorem in_end {xs ys cs : List Int} {n lb i : Nat} {c : Int} (hlb : ys.length = lb) (hn : i + lb < n) (I : InInv ys cs n lb i lb (H.num (xs.take i) * H.num ys) (xs.getD i 0) c) : RPrInv xs ys (cs.set (i + lb) c) n lb (i + 1) := by
  obtain ⟨i1, i2, i3, i4, i5, i6⟩ := I
  refine ⟨by rw [List.length_set]; exact i1, i2.set _ ⟨i5, i6⟩, fun j hj => by rw [getD_set_other _ _ _ _ (by omega)]; exact i3 j (by omega), ?_⟩
  have et : ys.take lb = ys := List.take_of_length_le (by omega)
  rw [et] at i4
  rw [H.num_set _ _ _ (by omega), i3 (i + lb) (Nat.le_refl _), Int.sub_zero, H.num_take_succ, Int.add_mul, Int.mul_right_comm (xs.getD i 0)]
  exact i4

set_option maxHeartbeats 2000000 in
theorem rproduct_any (a b : Option Addr) (la ca lb cb : Nat) (xs ys : List Int) (w : World) (ha : Sl w a la xs) (hb : Sl w b lb ys) (hx : H.Limbs xs) (hy : H.Limbs ys) (h1 : la ≤ 8000000000000) (h2 : lb ≤ 8000000000000) :
    Calls Tryz.prog 114 #[.slice a la ca, .slice b lb cb] w fun e w' => DRes w w' e (H.num xs * H.num ys) (la + lb) := by
  have hza := ha.1; have hzb := hb.1
  have hmk := make_row (la + lb) (by omega)
  rw [show ((la + lb : Nat) : Int) = (la : Int) + lb by omega] at hmk
  have I0 : Hid (RPrInv xs ys (List.replicate (la + lb) 0) (la + lb) lb 0) :=
    ⟨by simp, fun z hz => by rw [List.eq_of_mem_replicate hz]; decide, fun j _ => by rw [List.getD_eq_getElem?_getD, List.getElem?_replicate]; split <;> rfl, by rw [H.num_zeros]; simp [H.num]⟩
  have O0 : Hid (Own (w.alloc (.cells (row (List.replicate (la + lb) 0)).toArray 22)) w.heap.size (List.replicate (la + lb) 0)) := heap_alloc_new _ _
  go_enter Tryz.func114, Tryz.ntmps114
  go_wp2_with fail
  clear hmk
  go_loopw [6] (fun ii wr => ∃ (i : Nat) (cs : List Int), ii = .int .i64 i ∧ i ≤ la ∧ Hid (RPrInv xs ys cs (la + lb) lb i) ∧ Hid (Own wr w.heap.size cs) ∧ Below w.heap.size w wr) (fun ii _ => la - (intOf ii).toNat)
  case atStart => exact ⟨0, _, rfl, by omega, I0, O0, (Below.refl _ _).alloc (Nat.le_refl _) _⟩
  case round =>
    obtain ⟨i, cs, rfl, hi, hI, hO, hbl⟩ := hrel
    by_cases hlt : i < la
    · obtain ⟨x, hxx⟩ : ∃ x, xs.getD i 0 = x := ⟨_, rfl⟩
      have hxw := hx.getD i
      rw [hxx] at hxw
      have HXX : Hid (xs.getD i 0 = x) := hxx
      have IN0 : Hid (InInv ys cs (la + lb) lb i 0 (H.num (xs.take i) * H.num ys) x 0) := in_start x hI.out
      obtain ⟨ba, oa, rfl, hca⟩ := ha.2.2 (by omega)
      have hcax := hca i hlt
      rw [hxx] at hcax
      have hba : ba < w.heap.size := by
        rcases Nat.lt_or_ge ba w.heap.size with h' | h'
        · exact h'
        · simp [World.cell?, Array.getElem?_eq_none h'] at hcax
      obtain ⟨wo, hwo⟩ : ∃ wo : World, wo = wr := ⟨_, rfl⟩
      rw [← hwo] at hO hbl
      clear hxx hca
      go_wp2_with fail
      rw [← hwo]
      clear hwo
      go_loopw [7, 8] (fun cc kk wq => ∃ (k : Nat) (c : Int) (ds : List Int), kk = .int .i64 k ∧ cc = .int .u64 c ∧ k ≤ lb ∧ Hid (InInv ys ds (la + lb) lb i k (H.num (xs.take i) * H.num ys) x c) ∧ Hid (Own wq w.heap.size ds) ∧ Below w.heap.size w wq) (fun _ kk _ => lb - (intOf kk).toNat)
      case atStart => exact ⟨0, 0, cs, rfl, rfl, by omega, IN0, hO, hbl⟩
      case round =>
        obtain ⟨k, c, ds, rfl, rfl, hk, hJ, hP, hbq⟩ := hrel
        by_cases hkl : k < lb
        · obtain ⟨bb, ob, rfl, hcb⟩ := hb.2.2 (by omega)
          have hcbx := hcb k hkl
          have hbb : bb < w.heap.size := by
            rcases Nat.lt_or_ge bb w.heap.size with h' | h'
            · exact h'
            · simp [World.cell?, Array.getElem?_eq_none h'] at hcbx
          obtain ⟨y, hyy⟩ : ∃ y, ys.getD k 0 = y := ⟨_, rfl⟩
          have hyw := hy.getD k
          have hstep := in_step hxw hy hkl (by omega) hJ.out
          have hcx := hP.out.cell (i + k) (by rw [hJ.out.1]; omega)
          have hfx := hP.out.frozen (i + k)
          have how := hJ.out.2.1.getD (i + k)
          have hc0 := hJ.out.2.2.2.2.1
          have hc1 := hJ.out.2.2.2.2.2
          obtain ⟨o, hoo⟩ : ∃ o, ds.getD (i + k) 0 = o := ⟨_, rfl⟩
          rw [hyy] at hcbx hyw hstep
          rw [hoo] at hcx how hstep
          obtain ⟨p1, p2, p3⟩ := in_word how hxw hyw ⟨hc0, hc1⟩
          obtain ⟨p, hp⟩ : ∃ p, x * y = p := ⟨_, rfl⟩
          rw [hp] at p1 p2 p3 hstep
          obtain ⟨o1, o2⟩ := how
          have ca1 : wr.cell? ⟨ba, oa + i, none⟩ = some (.int .u64 x) := (hbq.cell (p := ⟨ba, oa + i, none⟩) hba).trans hcax
          have cb1 : wr.cell? ⟨bb, ob + k, none⟩ = some (.int .u64 y) := (hbq.cell (p := ⟨bb, ob + k, none⟩) hbb).trans hcbx
          obtain ⟨t, ht⟩ : ∃ t, o + p + c = t := ⟨_, rfl⟩
          rw [ht] at hstep p3
          have t0 : 0 ≤ t := by omega
          have t1 : t < 18446744073709551616 := by omega
          have m0 : IntKind.i64.wrap ((i : Int) + k) = i + k := by rw [IntKind.wrap_i64]; omega
          have m1 : IntKind.u64.wrap (x * y) = p := by rw [hp, IntKind.wrap_u64]; omega
          have m2 : IntKind.u64.wrap (p + o) = p + o := by rw [IntKind.wrap_u64]; omega
          have m3 : IntKind.u64.wrap (p + o + c) = t := by rw [IntKind.wrap_u64]; omega
          have m4 : ((i : Int) + k).toNat = i + k := by omega
          have m5 : (i : Int) + k < la + lb := by omega
          have HS : Hid (InInv ys (ds.set (i + k) (t % 4294967296)) (la + lb) lb i (k + 1) (H.num (xs.take i) * H.num ys) x (t / 4294967296)) := hstep
          clear hstep hyy hoo hp ht hcb hcbx hcax hyw p3
          go_wp2_with fail
          go_quiet (fail)
          clear m1 m2 m3
          go_wp2_with fail
          go_roundw
          case rel => exact ⟨k + 1, _, _, by go_num, rfl, by omega, HS, Own.set (w := wr.drewN nq) hP.out (i + k) _, (below_drewN hbq nq).setCell (Nat.le_refl _) _⟩
          case measure => simp [intOf]; omega
        · obtain rfl : k = lb := by omega
          have hJ' := hJ.out
          rw [← HXX.out] at hJ'
          have HE : Hid (RPrInv xs ys (ds.set (i + k) c) (la + k) k (i + 1)) := in_end hzb (by omega) hJ'
          have hcx := hP.out.cell (i + k) (by rw [hJ.out.1]; omega)
          have hfx := hP.out.frozen (i + k)
          have m4 : ((i : Int) + k).toNat = i + k := by omega
          have m5 : (i : Int) + k < la + k := by omega
          clear hJ' hcax
          go_wp2_with fail
          go_roundw
          case rel => exact ⟨i + 1, _, by go_num, by omega, HE, Own.set hP.out (i + k) _, hbq.setCell (Nat.le_refl _) _⟩
          case measure => simp [intOf]; omega
    · obtain rfl : i = la := by omega
      obtain ⟨i1, i2, i3, i4⟩ := hI.out
      have et : xs.take i = xs := List.take_of_length_le (by omega)
      rw [et] at i4
      have hsl := hO.out.sl i2.up
      rw [i1] at hsl
      have hu := usedN_le cs
      have hle : usedN cs ≤ i + lb := by omega
      clear i1 et
      go_wp2_with fail
      refine (cutr_any (some ⟨w.heap.size, 0, none⟩) (i + lb) (i + lb) cs _ hsl (by omega) (Nat.le_refl _)).mono ?_
      rintro e w2 ⟨rfl, rfl⟩
      go_wp2_with fail
      go_ret
      exact ⟨_, usedN cs, i + lb, cs.take (usedN cs), rfl, hle, hle, hsl.take hle, i2.take _, usedN_take cs (Nat.le_refl _), by rw [H.num_take_used cs (Nat.le_refl _)]; exact i4, hbl⟩

theorem rmul_any (a0 a1 : Option Addr) (l0 k0 l1 k1 : Nat) (z0 z1 : List Int) (w : World) (ha0 : Sl w a0 l0 z0) (hb0 : Sl w a1 l1 z1) (h1 : l0 ≤ 2000000000000) (h2 : l1 ≤ 2000000000000) :
    Calls Tryz.prog 84 #[.slice a0 l0 k0, .slice a1 l1 k1] w fun e w' => LRes w w' e (num z0 * num z1) (2 * l0 + 2 * l1) := by
  go_enter Tryz.func84, Tryz.ntmps84
  go_wp2_with fail
  refine (digits_any a0 l0 k0 z0 w ha0 (by omega)).mono ?_
  rintro e wa ⟨a, la, ca, xs, rfl, -, hla, ha, hx, ux, nx, ba⟩
  go_wp2_with fail
  refine (digits_any a1 l1 k1 z1 wa (hb0.below ba (Nat.le_refl _)) (by omega)).mono ?_
  rintro e wb ⟨b, lb, cb, ys, rfl, -, hlb, hb, hy, uy, ny, bb⟩
  replace ha := ha.below bb (Nat.le_refl _)
  have HB : Hid (Below w.heap.size w wb) := step ba bb
  go_wp2_with fail
  refine (rproduct_any a b la ca lb cb xs ys wb ha hb hx hy (by omega) (by omega)).mono ?_
  rintro e wd ⟨ad, md, cd, ds, rfl, -, hmd, sd, hd, ud, nd, bd⟩
  go_wp2_with fail
  refine (limbsr_any ad md cd ds wd sd hd (by omega)).mono ?_
  rintro e w4 ⟨a4, m4, c4, z4, rfl, k4, k5, s4, u4, n4, b4⟩
  go_wp2_with fail
  go_ret
  exact ⟨a4, m4, c4, z4, rfl, k4, by omega, s4, u4, by rw [n4, nd, nx, ny], step (step HB.out bd) b4⟩
end Go.Proofs.YtjlodljgfjjclaaGreat

namespace Go.Proofs.YtjlodljgfjjclaaGreat
open Go.RowKit Go.Shelf
set_option linter.unusedVariables false

def HvInv (d x : Int) (j : Nat) : Prop := x = d / 2 ^ j ∧ (0 < j → 2 ^ (j - 1) ≤ d)
theorem hv_step {d x : Int} {j : Nat} (hd : 0 ≤ d) (I : HvInv d x j) (hx : 0 < x) : HvInv d (x / 2) (j + 1) := by
  obtain ⟨i1, i2⟩ := I
  refine ⟨by rw [i1, Int.pow_succ, Int.ediv_ediv_of_nonneg (Int.le_of_lt (p2_pos _))], fun _ => ?_⟩
  rw [Nat.add_sub_cancel]
  rcases Int.lt_or_le d (2 ^ j) with h | h
  · rw [i1, Int.ediv_eq_zero_of_lt hd h] at hx; omega
  · exact h
theorem hv_end {d x : Int} {j : Nat} (hd : 0 < d) (I : HvInv d x j) (hx : x = 0) : 0 < j ∧ 2 ^ (j - 1) ≤ d ∧ d < 2 ^ j := by
  obtain ⟨i1, i2⟩ := I
  have h1 : d < 2 ^ j := by
    rcases Int.lt_or_le d (2 ^ j) with h | h
    · exact h
    · have := Int.le_ediv_of_mul_le (p2_pos j) (show 1 * 2 ^ j ≤ d by omega)
      omega
  have h0 : 0 < j := by
    rcases Nat.eq_zero_or_pos j with h | h
    · rw [h] at h1; simp at h1; omega
    · exact h
  exact ⟨h0, i2 h0, h1⟩

theorem top_bits {zs : List Int} (h : Limbs zs) {m j : Nat} (hl : zs.length = m + 1) (hu : usedN zs = m + 1) (h0 : 0 < j) (h1 : 2 ^ (j - 1) ≤ zs.getD m 0) (h2 : zs.getD m 0 < 2 ^ j) : bitsN zs = 64 * (m : Int) + j := by
  have e := num_take_succ zs m
  rw [List.take_of_length_le (by omega)] at e
  have t0 := num_nonneg (h.take m)
  have t1 := num_lt (h.take m)
  rw [List.length_take, Nat.min_eq_left (by omega)] at t1
  have hp := pw_pos m
  have b0 : (2 : Int) ^ (64 * m + (j - 1)) ≤ num zs := by
    rw [Int.pow_add, ← pw_eq, Int.mul_comm]
    have : 2 ^ (j - 1) * pw m ≤ zs.getD m 0 * pw m := Int.mul_le_mul_of_nonneg_right h1 (Int.le_of_lt hp)
    omega
  have b1 : num zs < 2 ^ (64 * m + (j - 1) + 1) := by
    rw [show 64 * m + (j - 1) + 1 = 64 * m + j by omega, Int.pow_add, ← pw_eq, Int.mul_comm]
    have : (zs.getD m 0 + 1) * pw m ≤ 2 ^ j * pw m := Int.mul_le_mul_of_nonneg_right (by omega) (Int.le_of_lt hp)
    rw [Int.add_mul, Int.one_mul] at this
    omega
  rw [bits_of h b0 b1]
  omega
theorem bits_same {a b : List Int} (ha : Limbs a) (hb : Limbs b) (e : num a = num b) : bitsN a = bitsN b := by
  rcases Nat.eq_zero_or_pos (usedN a) with h | h
  · rw [bits_nought h, bits_nought ((num_eq_zero hb).1 (by rw [← e]; exact (num_eq_zero ha).2 h))]
  · obtain ⟨k, e1, k1, k2⟩ := bits_spec ha h
    rw [e1, bits_of hb (k := k) (by rw [← e]; exact k1) (by rw [← e]; exact k2)]

set_option maxHeartbeats 1000000 in
theorem rbits_any (a : Option Addr) (la ca : Nat) (zs : List Int) (w : World) (h : Sl w a la zs) (hn : a = none → la = 0 ∧ ca = 0) (hl : la ≤ 17592186044416) (hc : la ≤ ca) :
    Calls Tryz.prog 127 #[.slice a la ca] w fun e w' => e = .returned (.int .i64 (bitsN zs)) ∧ Below w.heap.size w w' := by
  have hLz := h.2.1
  have hle := usedN_le zs
  have hz := h.1
  go_enter Tryz.func127, Tryz.ntmps127
  go_wp2_with fail
  refine (rtrim_any a la ca zs w h hn hl hc).mono ?_
  rintro e w1 ⟨a1, c1, rfl, s1, hc1, b1⟩
  obtain ⟨D, hD⟩ : ∃ D, zs.take (usedN zs) = D := ⟨_, rfl⟩
  have HBB : Hid (bitsN zs = bitsN D) := by rw [← hD]; exact bits_same hLz (hLz.take _) (num_take_used zs (Nat.le_refl _)).symm
  have HUD : Hid (usedN D = usedN zs) := by rw [← hD]; exact usedN_take zs (Nat.le_refl _)
  rw [hD] at s1
  obtain ⟨m1, hm1⟩ : ∃ m, usedN zs = m := ⟨_, rfl⟩
  rw [hm1] at s1 HUD hc1 hle
  rw [hm1]
  clear hD h
  by_cases h0 : m1 = 0
  · have e0 : Hid (bitsN zs = 0) := bits_nought (by rw [hm1]; exact h0)
    subst h0
    clear hm1
    go_wp2_with fail
    go_ret
    exact ⟨ret_int e0.out.symm, b1⟩
  · obtain ⟨m, rfl⟩ : ∃ m, m1 = m + 1 := ⟨m1 - 1, by omega⟩
    clear hm1
    obtain ⟨b, o, rfl, hc⟩ := s1.2.2 (by omega)
    have hcx := hc m (by omega)
    have hd0 := s1.2.1.getD m
    have hne := usedN_top D (by rw [HUD.out]; omega)
    rw [HUD.out, Nat.add_sub_cancel] at hne
    have g1 : ((m : Int) + 1 == 0) = false := by simp; omega
    have BD : Hid (∀ j : Nat, 0 < j → 2 ^ (j - 1) ≤ D.getD m 0 → D.getD m 0 < 2 ^ j → bitsN zs = 64 * (m : Int) + j) :=
      fun j j0 j1 j2 => by rw [HBB.out]; exact top_bits s1.2.1 s1.1 HUD.out j0 j1 j2
    obtain ⟨d, hd⟩ : ∃ d, D.getD m 0 = d := ⟨_, rfl⟩
    rw [hd] at hcx hd0 hne BD
    clear hd hc s1
    have hdp : 0 < d := by omega
    have hml : m ≤ 17592186044416 := by omega
    go_wp2_with fail
    go_loop [4, 5] (fun nn xx => ∃ (j : Nat) (x : Int), nn = .int .i64 (64 * (m : Int) + j) ∧ xx = .int .u64 x ∧ 0 ≤ x ∧ x < 18446744073709551616 ∧ j ≤ 70 ∧ Hid (HvInv d x j)) (fun _ xx => (intOf xx).toNat)
    case atStart => exact ⟨0, d, by simp, rfl, by omega, by omega, by omega, ⟨by simp, fun h => absurd h (by omega)⟩⟩
    case round =>
      obtain ⟨j, x, rfl, rfl, x1, x2, hj, hI⟩ := hrel
      by_cases hx : 0 < x
      · have hs : Hid (HvInv d (x / 2) (j + 1)) := hv_step (by omega) hI.out hx
        have hj2 : j + 1 ≤ 70 := by
          have := hs.out.2 (by omega)
          rcases Nat.lt_or_ge j 65 with h | h
          · omega
          · have h3 := p2_mono (show 65 ≤ j + 1 - 1 by omega)
            have h4 : (2 : Int) ^ 65 = 36893488147419103232 := by decide
            omega
        go_wp2_with fail
        go_round
        case rel => exact ⟨j + 1, x / 2, by rw [show 64 * (m : Int) + ((j + 1 : Nat) : Int) = 64 * (m : Int) + j + 1 by omega], rfl, by omega, by omega, hj2, hs⟩
        case measure => simp [intOf]; omega
      · obtain ⟨j0, j1, j2⟩ := hv_end hdp hI.out (by omega)
        have HE : Hid (bitsN zs = 64 * (m : Int) + j) := BD.out j j0 j1 j2
        clear j0 j1 j2
        go_wp2_with fail
        go_ret
        exact ⟨ret_int HE.out.symm, b1⟩

theorem num_one_at (p : Nat) (v : Int) : num ((List.replicate (p + 1) (0 : Int)).set p v) = v * pw p := by
  rw [num_set v (by simp), num_zeros]
  have : (List.replicate (p + 1) (0 : Int)).getD p 0 = 0 := by rw [List.getD_eq_getElem?_getD, List.getElem?_replicate]; split <;> rfl
  rw [this, Int.sub_zero, Int.zero_add]
theorem p2_word {i : Nat} (h : i ≤ 63) : (0 : Int) < 2 ^ i ∧ (2 : Int) ^ i ≤ 9223372036854775808 := by
  have := p2_mono h
  have h4 : (2 : Int) ^ 63 = 9223372036854775808 := by decide
  exact ⟨p2_pos i, by omega⟩

set_option maxHeartbeats 1000000 in
theorem power_any (n : Nat) (w : World) (hn : n ≤ 1000000000000) :
    Calls Tryz.prog 128 #[.int .i64 n] w fun e w' => ∃ p cs, e = .returned (.slice (some ⟨w.heap.size, 0, none⟩) p p) ∧ Own w' w.heap.size cs ∧ Limbs cs ∧ cs.length = p ∧ p ≤ n + 1 ∧ num cs = 2 ^ n ∧ Below w.heap.size w w' := by
  obtain ⟨p, hp⟩ : ∃ p, n / 64 = p := ⟨_, rfl⟩
  obtain ⟨r, hr⟩ : ∃ r, n % 64 = r := ⟨_, rfl⟩
  have ep : (n : Int) / 64 = p := by omega
  have er : (n : Int) % 64 = r := by omega
  have hr63 : r ≤ 63 := by omega
  have hnn : n = 64 * p + r := by omega
  have hpn : p ≤ n := by omega
  have hmk := make_row (p + 1) (by omega)
  rw [show ((p + 1 : Nat) : Int) = (p : Int) + 1 by omega] at hmk
  have HNN : Hid (n = 64 * p + r) := hnn
  have O0 : Own (w.alloc (.cells (row (List.replicate (p + 1) 0)).toArray 22)) w.heap.size (List.replicate (p + 1) 0) := heap_alloc_new _ _
  have cz := O0.cell p (by simp)
  have fz := O0.frozen p
  have HO0 : Hid (Own (w.alloc (.cells (row (List.replicate (p + 1) 0)).toArray 22)) w.heap.size (List.replicate (p + 1) 0)) := O0
  have hB1 : Below w.heap.size w (w.alloc (.cells (row (List.replicate (p + 1) 0)).toArray 22)) := (Below.refl _ _).alloc (Nat.le_refl _) _
  have pp1 : (p : Int) < p + 1 := by omega
  clear hp hr hnn O0
  go_enter Tryz.func128, Tryz.ntmps128
  go_wp2_with fail
  clear hmk
  have er1 : row ((List.replicate (p + 1) (0 : Int)).set p (2 ^ 0)) = (row (List.replicate (p + 1) 0)).set p (.int .u64 1) := by simp [row, List.map_set]
  have O1 : Hid (Own (w.alloc (.cells ((row (List.replicate (p + 1) 0)).set p (.int .u64 1)).toArray 22)) w.heap.size ((List.replicate (p + 1) 0).set p (2 ^ 0))) := by
    rw [← er1]; exact heap_alloc_new _ _
  have B1 : Below w.heap.size w (w.alloc (.cells ((row (List.replicate (p + 1) 0)).set p (.int .u64 1)).toArray 22)) := (Below.refl _ _).alloc (Nat.le_refl _) _
  clear er1
  go_loopw [4] (fun ii wr => ∃ i : Nat, ii = .int .i64 i ∧ i ≤ r ∧ Hid (Own wr w.heap.size ((List.replicate (p + 1) 0).set p (2 ^ i))) ∧ Hid (Below w.heap.size w wr)) (fun ii _ => r - (intOf ii).toNat)
  case atStart => exact ⟨0, rfl, by omega, O1, B1⟩
  case round =>
    clear O1 B1 cz fz hB1 HO0
    obtain ⟨i, rfl, hi, hO, hb⟩ := hrel
    by_cases hlt : i < r
    · have hc := hO.out.cell p (by simp)
      have hf := hO.out.frozen p
      have ev : ((List.replicate (p + 1) (0 : Int)).set p (2 ^ i)).getD p 0 = 2 ^ i := getD_set_self _ _ _ (by simp)
      rw [ev] at hc
      obtain ⟨v1, v2⟩ := p2_word (show i + 1 ≤ 63 by omega)
      have e2 : (2 : Int) ^ (i + 1) = 2 * 2 ^ i := by rw [Int.pow_succ, Int.mul_comm]
      rw [e2] at v1 v2
      have HO2 := fun v => Own.set hO.out p v
      simp only [List.set_set] at HO2
      have HO3 := HO2 (2 * 2 ^ i)
      rw [← e2] at HO3
      obtain ⟨v, hv⟩ : ∃ v : Int, 2 ^ i = v := ⟨_, rfl⟩
      rw [hv] at hc v1 v2 e2
      rw [e2] at HO3
      have HV : Hid (2 * v = 2 ^ (i + 1)) := by rw [← hv]; exact (by rw [Int.pow_succ, Int.mul_comm] : (2 : Int) * 2 ^ i = 2 ^ (i + 1))
      have iR : (i : Int) < r := by omega
      clear HO2 ev hv e2 HO3
      have HS := Own.set hO.out p (2 * v)
      simp only [List.set_set] at HS
      have HS2 : Hid (Own (wr.setCell ⟨w.heap.size, p, none⟩ (.int .u64 (2 * v))) w.heap.size ((List.replicate (p + 1) 0).set p (2 ^ (i + 1)))) := by rw [← HV.out]; exact HS
      clear HS
      go_wp2_with fail
      go_roundw
      case rel => exact ⟨i + 1, by go_num, by omega, HS2, hb.out.setCell (p := ⟨w.heap.size, p, none⟩) (Nat.le_refl _) _⟩
      case measure => simp [intOf]; omega
    · obtain rfl : i = r := by omega
      have iR : ¬ (i : Int) < i := by omega
      obtain ⟨v1, v2⟩ := p2_word hr63
      have HL : Hid (Limbs ((List.replicate (p + 1) (0 : Int)).set p (2 ^ i))) := (Limbs.zeros _).set p ⟨by omega, by omega⟩
      have HE : Hid (num ((List.replicate (p + 1) (0 : Int)).set p (2 ^ i)) = 2 ^ n) := by
        show _ = _
        rw [num_one_at, pw_eq, ← Int.pow_add, HNN.out, Nat.add_comm]
      go_wp2_with fail
      go_ret
      exact ⟨p + 1, rfl, _, hO.out, HL.out, by simp, by omega, HE.out, hb.out⟩
end Go.Proofs.YtjlodljgfjjclaaGreat

namespace Go.Proofs.YtjlodljgfjjclaaGreat
open Go.RowKit Go.Shelf
set_option linter.unusedVariables false

theorem bits_one {zs : List Int} (h : Limbs zs) (h0 : num zs ≠ 0) : 1 ≤ bitsN zs := by
  have u : 0 < usedN zs := by
    rcases Nat.eq_zero_or_pos (usedN zs) with h' | h'
    · exact absurd ((num_eq_zero h).2 h') h0
    · exact h'
  obtain ⟨k, e, -, -⟩ := bits_spec h u
  omega
end Go.Proofs.YtjlodljgfjjclaaGreat

namespace Go.Proofs.YtjlodljgfjjclaaGreat
open Go.RowKit Go.Shelf

def DfInv (xs ys cs : List Int) (k : Nat) (c : Int) : Prop :=
  cs.length = k ∧ H.Limbs cs ∧ H.num cs - c * H.pw k = H.num (xs.take k) - H.num (ys.take k) ∧ 0 ≤ c ∧ c ≤ 1
theorem borrow_stepH {v c' s p : Int} (h : v - 4294967296 * c' = s) : v * p - c' * (4294967296 * p) = s * p := by
  rw [← h, Int.sub_mul, Int.mul_comm 4294967296 c', Int.mul_assoc]
theorem df_step {xs ys cs : List Int} {k : Nat} {c : Int} (hx : H.Limbs xs) (hy : H.Limbs ys) (I : DfInv xs ys cs k c) :
    DfInv xs ys (cs ++ [(4294967296 + xs.getD k 0 - ys.getD k 0 - c) % 4294967296]) (k + 1) (1 - (4294967296 + xs.getD k 0 - ys.getD k 0 - c) / 4294967296) := by
  obtain ⟨i1, i2, i3, i4, i5⟩ := I
  have b1 := hx.getD k; have b2 := hy.getD k
  refine ⟨by simp; omega, i2.snoc ⟨by omega, by omega⟩, ?_, by omega, by omega⟩
  have hc := borrow_stepH (v := (4294967296 + xs.getD k 0 - ys.getD k 0 - c) % 4294967296) (c' := 1 - (4294967296 + xs.getD k 0 - ys.getD k 0 - c) / 4294967296) (p := H.pw k) (s := xs.getD k 0 - ys.getD k 0 - c) (by omega)
  rw [H.num_snoc, i1, H.num_take_succ, H.num_take_succ, H.pw]
  rw [Int.sub_mul (xs.getD k 0 - ys.getD k 0), Int.sub_mul (xs.getD k 0)] at hc
  omega
theorem df_end {xs ys cs : List Int} {n : Nat} {c : Int} (hx : H.Limbs xs) (hy : H.Limbs ys) (hn : xs.length = n) (I : DfInv xs ys cs n c) (h : H.num ys ≤ H.num xs) : H.num cs = H.num xs - H.num ys := by
  obtain ⟨i1, i2, i3, i4, i5⟩ := I
  have hu := usedN_le xs
  have hle : usedN ys ≤ usedN xs := by
    rcases Nat.lt_or_ge (usedN xs) (usedN ys) with h' | h'
    · have := H.num_lt_len hx hy h'; omega
    · exact h'
  rw [H.num_take_used xs (by omega), H.num_take_used ys (by omega)] at i3
  have h1 := H.num_lt i2
  rw [i1] at h1
  have : c = 0 ∨ c = 1 := by omega
  rcases this with rfl | rfl
  · simpa using i3
  · rw [Int.one_mul] at i3; omega


set_option maxHeartbeats 2000000 in
theorem rsub_any (a0 a1 : Option Addr) (l0 k0 l1 k1 : Nat) (z0 z1 : List Int) (w : World) (ha0 : Sl w a0 l0 z0) (hb0 : Sl w a1 l1 z1) (h1 : l0 ≤ 2000000000000) (h2 : l1 ≤ 2000000000000) (hle : num z1 ≤ num z0) :
    Calls Tryz.prog 126 #[.slice a0 l0 k0, .slice a1 l1 k1] w fun e w' => LRes w w' e (num z0 - num z1) (2 * l0 + 2 * l1 + 1) := by
  go_enter Tryz.func126, Tryz.ntmps126
  go_wp2_with fail
  refine (digits_any a0 l0 k0 z0 w ha0 (by omega)).mono ?_
  rintro e wa ⟨a, la, ca, xs, rfl, -, hla, ha, hx, ux, nx, ba⟩
  go_wp2_with fail
  refine (digits_any a1 l1 k1 z1 wa (hb0.below ba (Nat.le_refl _)) (by omega)).mono ?_
  rintro e wb ⟨b, lb, cb, ys, rfl, -, hlb, hb, hy, uy, ny, bb⟩
  replace ha := ha.below bb (Nat.le_refl _)
  have HB : Hid (Below w.heap.size w wb) := step ba bb
  have hza := ha.1; have hzb := hb.1
  have HNX : Hid (H.num xs = num z0) := nx
  have HNY : Hid (H.num ys = num z1) := ny
  have HLE : Hid (H.num ys ≤ H.num xs) := by show _ ≤ _; rw [nx, ny]; exact hle
  clear ba bb ha0 hb0 ux uy nx ny hle
  go_wp2_with fail
  go_loopw [7, 8, 9] (fun v cc i wr => ∃ (k : Nat) (c : Int) (cs : List Int), i = .int .i64 k ∧ cc = .int .u64 c ∧ k ≤ la ∧ Hid (DfInv xs ys cs k c) ∧ Hid (Gr wr wb.heap.size v cs) ∧ Below wb.heap.size wb wr) (fun _ _ i _ => la - (intOf i).toNat)
  case atStart => exact ⟨0, 0, [], rfl, rfl, by omega, ⟨rfl, H.Limbs.nil, by simp [H.num], by omega, by omega⟩, Gr.nil _ _, Below.refl _ _⟩
  case round =>
    obtain ⟨k, c, cs, rfl, rfl, hk, hI, hG, hbl⟩ := hrel
    have hc0 := hI.out.2.2.2.1
    have hc1 := hI.out.2.2.2.2
    by_cases hlt : k < la
    · have hstep := df_step hx hy hI.out
      have hcl : cs.length ≤ k := by have := hI.out.1; omega
      have b1 := hx.getD k; have b2 := hy.getD k
      have hs := ha.below hbl (Nat.le_refl _)
      obtain ⟨bl, off, rfl, hcell⟩ := hs.2.2 (by omega)
      have hcx := hcell k hlt
      have D2 : ∀ q, Calls Tryz.prog 118 #[.slice b lb cb, .int .i64 k] (wr.drewN q) fun e w' => e = .returned (.int .u64 (ys.getD k 0)) ∧ w' = wr.drewN q := fun q => digit_any b lb cb ys k (wr.drewN q) (hb.below (below_drewN hbl q) (Nat.le_refl _)) (by omega)
      obtain ⟨x, hxx⟩ : ∃ x, xs.getD k 0 = x := ⟨_, rfl⟩
      obtain ⟨y, hyy⟩ : ∃ y, ys.getD k 0 = y := ⟨_, rfl⟩
      rw [hxx] at hcx hstep b1
      rw [hyy] at hstep b2
      simp only [hyy] at D2
      have DQ : Hid (∀ q, Calls Tryz.prog 118 #[.slice b lb cb, .int .i64 k] (wr.drewN q) fun e w' => e = .returned (.int .u64 y) ∧ w' = wr.drewN q) := D2
      clear D2
      obtain ⟨x1, x2⟩ := b1; obtain ⟨y1, y2⟩ := b2
      obtain ⟨t, ht⟩ : ∃ t, 4294967296 + x - y - c = t := ⟨_, rfl⟩
      rw [ht] at hstep
      have t1 : 0 ≤ t := by omega
      have t2 : t < 8589934592 := by omega
      have HS : Hid (DfInv xs ys (cs ++ [t % 4294967296]) (k + 1) (1 - t / 4294967296)) := hstep
      have hbs := hbl.size
      have HSZ : Hid (wb.heap.size ≤ (wr.alloc (.cells (row [t % 4294967296]).toArray 22)).heap.size) := by show _ ≤ _; simp; omega
      clear hstep hxx hyy hs hcell
      have ew1 : IntKind.u64.wrap (4294967296 + x) = 4294967296 + x := by rw [IntKind.wrap_u64]; omega
      have ew2 : IntKind.u64.wrap (4294967296 + x - y) = 4294967296 + x - y := by rw [IntKind.wrap_u64]; omega
      have ew3 : IntKind.u64.wrap (4294967296 + x - y - c) = t := by rw [ht, IntKind.wrap_u64]; omega
      have HT : Hid (4294967296 + x - y - c = t) := ht
      clear ht
      go_wp2_with fail
      go_quiet ((go_at_call 118; refine (DQ.out _).mono ?_; rintro e w2 ⟨rfl, rfl⟩; exact ⟨rfl, _, rfl⟩))
      go_wp2_with (at_builtin; refine wpList_app rfl (.tmp 32) (.tmp 35) rfl wb.heap.size u7 cs rfl (hG.out.alloc _) wr.heap.size 1 1 [t % 4294967296] rfl rfl (heap_alloc_new _ _) (by omega) HSZ.out ?_; intro v1 w1 hG1 hb1)
      have hb2 : Below wb.heap.size wb w1 := ((below_drewN hbl nq).alloc hbs _).trans hb1
      clear hb1
      go_wp2_with fail
      go_roundw
      case rel => exact ⟨k + 1, _, _, by go_num, rfl, by omega, HS, hG1, hb2⟩
      case measure => simp [intOf]; omega
    · obtain rfl : k = la := by omega
      have HE : Hid (H.num cs = H.num xs - H.num ys) := df_end hx hy hza hI.out HLE.out
      obtain ⟨i1, i2, i3, i4, i5⟩ := hI.out
      obtain ⟨aa, cap, hv, hcap, hsl⟩ := hG.out.sl i2.up
      have hu := usedN_le cs
      have hle : cs.length ≤ k := by omega
      rw [hv]
      clear hG hv i1 i3
      go_wp2_with fail
      refine (limbsr_any aa cs.length cap cs _ hsl i2 (by omega)).mono ?_
      rintro e w4 ⟨a4, m4, c4, z4, rfl, k4, k5, s4, u4, n4, b4⟩
      go_wp2_with fail
      go_ret
      exact ⟨a4, m4, c4, z4, rfl, k4, by omega, s4, u4, by rw [n4, HE.out, HNX.out, HNY.out], step (step HB.out hbl) b4⟩
end Go.Proofs.YtjlodljgfjjclaaGreat
