/-
  The document's answers: digits to the base 2^32 as limbs; the sum of two lists of limbs.
-/
import Derived.Test.YtkfpblonjinfmaaLaw3
import Derived.Test.YtkfpblonjinfmaaNRef1
namespace Go.Proofs.Ytkfpblonjinfmaa
open Go.RowKit Go.Shelf

def LmInv (ds cs : List Int) (k : Nat) : Prop := cs.length = k ∧ Limbs cs ∧ num cs = H.num (ds.take (2 * k))
theorem lm_step {ds cs : List Int} {k : Nat} (h : H.Limbs ds) (I : LmInv ds cs k) : LmInv ds (cs ++ [ds.getD (2 * k) 0 + 4294967296 * ds.getD (2 * k + 1) 0]) (k + 1) := by
  obtain ⟨i1, i2, i3⟩ := I
  have b1 := h.getD (2 * k); have b2 := h.getD (2 * k + 1)
  refine ⟨by simp; omega, i2.append (fun z hz => by rw [List.mem_singleton.1 hz]; exact ⟨by omega, by omega⟩), ?_⟩
  rw [num_snoc, i1, i3, show 2 * (k + 1) = 2 * k + 1 + 1 by omega, H.num_take_succ, H.num_take_succ, H.pw, H.pw_two, Int.add_mul, Int.add_assoc, Int.mul_assoc, Int.mul_left_comm]

/-- A list of limbs is answered, trimmed, of that number. -/
def LRes (w w' : World) (e : Ending) (N : Int) (bound : Nat) : Prop :=
  ∃ a m c zs, e = .returned (.slice a m c) ∧ m ≤ c ∧ m ≤ bound ∧ Sl w' a m zs ∧ usedN zs = m ∧ num zs = N ∧ Below w.heap.size w w'

set_option maxHeartbeats 1000000 in
theorem limbsr_any (a : Option Addr) (m ca : Nat) (ds : List Int) (w : World) (h : Sl w a m ds) (hd : H.Limbs ds) (hl : m ≤ 17000000000000) :
    Calls Try.prog 57 #[.slice a m ca] w fun e w' => LRes w w' e (H.num ds) m := by
  have hz := h.1
  have HSL : Hid (Sl w a m ds) := h
  clear h
  go_enter Try.func57, Try.ntmps57
  go_wp2_with fail
  go_loopw [3, 4] (fun v i wr => ∃ (k : Nat) (cs : List Int), i = .int .i64 (2 * (k : Int)) ∧ 2 * k ≤ m + 1 ∧ Hid (LmInv ds cs k) ∧ Hid (Gr wr w.heap.size v cs) ∧ Below w.heap.size w wr) (fun _ i _ => m + 1 - (intOf i).toNat)
  case atStart => exact ⟨0, [], rfl, by omega, ⟨rfl, Limbs.nil, rfl⟩, Gr.nil _ _, Below.refl _ _⟩
  case round =>
    obtain ⟨k, cs, rfl, hk, hI, hG, hb⟩ := hrel
    by_cases hlt : 2 * k < m
    · have hs := HSL.out.below hb (Nat.le_refl _)
      obtain ⟨b, off, rfl, hcell⟩ := hs.2.2 (by omega)
      have hcx := hcell (2 * k) hlt
      have hstep := lm_step hd hI.out
      have b1 := hd.getD (2 * k); have b2 := hd.getD (2 * k + 1)
      have hcl : cs.length ≤ k := by have := hI.out.1; omega
      have hbs := hb.size
      have ek : (2 * (k : Int)).toNat = 2 * k := by omega
      have ek1 : (2 * (k : Int) + 1).toNat = 2 * k + 1 := by omega
      obtain ⟨x, hx⟩ : ∃ x, ds.getD (2 * k) 0 = x := ⟨_, rfl⟩
      obtain ⟨y, hy⟩ : ∃ y, ds.getD (2 * k + 1) 0 = y := ⟨_, rfl⟩
      rw [hx] at hcx hstep b1
      rw [hy] at hstep b2
      obtain ⟨x1, x2⟩ := b1; obtain ⟨y1, y2⟩ := b2
      by_cases hlt2 : 2 * k + 1 < m
      · have hcy := hcell (2 * k + 1) hlt2
        rw [hy] at hcy
        have HS : Hid (LmInv ds (cs ++ [x + 4294967296 * y]) (k + 1)) := hstep
        have HSZ : Hid (w.heap.size ≤ (wr.alloc (.cells (row [x + 4294967296 * y]).toArray 64)).heap.size) := by show _ ≤ _; simp; omega
        have q1 : (2 * (k : Int)) < m := by omega
        have q2 : (2 * (k : Int)) + 1 < m := by omega
        clear hs hcell hx hy hstep
        go_wp2_with (at_builtin; refine wpList_app rfl (.tmp 29) (.tmp 31) rfl w.heap.size u3 cs rfl (hG.out.alloc _) wr.heap.size 1 1 [x + 4294967296 * y] rfl rfl (heap_alloc_new _ _) (by omega) HSZ.out ?_; intro v1 w1 hG1 hb1)
        have hb2 : Below w.heap.size w w1 := (hb.alloc hbs _).trans hb1
        clear hb1
        go_wp2_with fail
        go_roundw
        case rel => exact ⟨k + 1, _, by rw [show 2 * ((k + 1 : Nat) : Int) = 2 * (k : Int) + 2 by omega], by omega, HS, hG1, hb2⟩
        case measure => simp [intOf]; omega
      · have hy0 : y = 0 := by rw [← hy, List.getD_eq_getElem?_getD, List.getElem?_eq_none (by omega)]; rfl
        rw [hy0, Int.mul_zero, Int.add_zero] at hstep
        have HS : Hid (LmInv ds (cs ++ [x]) (k + 1)) := hstep
        have HSZ : Hid (w.heap.size ≤ (wr.alloc (.cells (row [x]).toArray 64)).heap.size) := by show _ ≤ _; simp; omega
        have q1 : (2 * (k : Int)) < m := by omega
        have q2 : ¬ (2 * (k : Int)) + 1 < m := by omega
        clear hs hcell hx hy hstep hy0
        go_wp2_with (at_builtin; refine wpList_app rfl (.tmp 29) (.tmp 31) rfl w.heap.size u3 cs rfl (hG.out.alloc _) wr.heap.size 1 1 [x] rfl rfl (heap_alloc_new _ _) (by omega) HSZ.out ?_; intro v1 w1 hG1 hb1)
        have hb2 : Below w.heap.size w w1 := (hb.alloc hbs _).trans hb1
        clear hb1
        go_wp2_with fail
        go_roundw
        case rel => exact ⟨k + 1, _, by rw [show 2 * ((k + 1 : Nat) : Int) = 2 * (k : Int) + 2 by omega], by omega, HS, hG1, hb2⟩
        case measure => simp [intOf]; omega
    · obtain ⟨i1, i2, i3⟩ := hI.out
      have et : ds.take (2 * k) = ds := List.take_of_length_le (by omega)
      rw [et] at i3
      obtain ⟨aa, cap, gm, hv, hcap, hsl, -, hnil, -⟩ := hG.out.parts i2
      have hu := usedN_le cs
      have hle : cs.length ≤ m := by omega
      have q1 : ¬ (2 * (k : Int)) < m := by omega
      rw [hv]
      clear hG hv i1 et
      go_wp2_with fail
      refine (rtrim_any aa cs.length cap cs _ hsl hnil (by omega) hcap).mono ?_
      rintro e w2 ⟨a2, c2, rfl, s2, hc2, b2⟩
      go_wp2_with fail
      go_ret
      exact ⟨a2, usedN cs, c2, cs.take (usedN cs), rfl, hc2, by omega, s2, usedN_take cs (Nat.le_refl _), by rw [num_take_used cs (Nat.le_refl _)]; exact i3, step hb b2⟩

def SumInv (xs ys cs : List Int) (n k : Nat) (c : Int) : Prop :=
  cs.length = k ∧ H.Limbs cs ∧ H.num cs + c * H.pw k = H.num (xs.take k) + H.num (ys.take k) ∧ 0 ≤ c ∧ c ≤ 1 ∧ (k ≤ n ∨ (k = n + 1 ∧ c = 0))
theorem sum_step {xs ys cs : List Int} {n k : Nat} {c : Int} (hx : H.Limbs xs) (hy : H.Limbs ys) (hnx : xs.length ≤ n) (hny : ys.length ≤ n) (I : SumInv xs ys cs n k c) (h : k < xs.length ∨ k < ys.length ∨ 0 < c) :
    SumInv xs ys (cs ++ [(xs.getD k 0 + ys.getD k 0 + c) % 4294967296]) n (k + 1) ((xs.getD k 0 + ys.getD k 0 + c) / 4294967296) := by
  obtain ⟨i1, i2, i3, i4, i5, i6⟩ := I
  have b1 := hx.getD k; have b2 := hy.getD k
  have hkn : k ≤ n := by omega
  refine ⟨by simp; omega, i2.snoc ⟨by omega, by omega⟩, ?_, by omega, by omega, ?_⟩
  · have hc := H.carry_step (v := (xs.getD k 0 + ys.getD k 0 + c) % 4294967296) (c' := (xs.getD k 0 + ys.getD k 0 + c) / 4294967296) (p := H.pw k) (s := xs.getD k 0 + ys.getD k 0 + c) (by omega)
    rw [H.num_snoc, i1, H.num_take_succ, H.num_take_succ, H.pw]
    rw [Int.add_mul, Int.add_mul] at hc
    omega
  · by_cases hk : k < n
    · exact .inl (by omega)
    · right
      have e1 : xs.getD k 0 = 0 := by rw [List.getD_eq_getElem?_getD, List.getElem?_eq_none (by omega)]; rfl
      have e2 : ys.getD k 0 = 0 := by rw [List.getD_eq_getElem?_getD, List.getElem?_eq_none (by omega)]; rfl
      exact ⟨by omega, by omega⟩


set_option maxHeartbeats 2000000 in
theorem radd_any (a0 a1 : Option Addr) (l0 k0 l1 k1 : Nat) (z0 z1 : List Int) (w : World) (ha0 : Sl w a0 l0 z0) (hb0 : Sl w a1 l1 z1) (h1 : l0 ≤ 2000000000000) (h2 : l1 ≤ 2000000000000) :
    Calls Try.prog 40 #[.slice a0 l0 k0, .slice a1 l1 k1] w fun e w' => LRes w w' e (num z0 + num z1) (2 * l0 + 2 * l1 + 1) := by
  go_enter Try.func40, Try.ntmps40
  go_wp2_with fail
  refine (digits_any a0 l0 k0 z0 w ha0 (by omega)).mono ?_
  rintro e wa ⟨a, la, ca, xs, rfl, -, hla, ha, hx, ux, nx, ba⟩
  go_wp2_with fail
  refine (digits_any a1 l1 k1 z1 wa (hb0.below ba (Nat.le_refl _)) (by omega)).mono ?_
  rintro e wb ⟨b, lb, cb, ys, rfl, -, hlb, hb, hy, uy, ny, bb⟩
  replace ha := ha.below bb (Nat.le_refl _)
  have HB : Hid (Below w.heap.size w wb) := step ba bb
  have hza := ha.1; have hzb := hb.1
  have HNX : Hid (H.num xs = num z0) := nx
  have HNY : Hid (H.num ys = num z1) := ny
  obtain ⟨n, hn⟩ : ∃ n, n = max la lb := ⟨_, rfl⟩
  have hna : la ≤ n := by omega
  have hnb : lb ≤ n := by omega
  have hnn : n ≤ 2 * l0 + 2 * l1 := by omega
  clear hn ba bb ha0 hb0 ux uy nx ny
  go_wp2_with fail
  go_loopw [7, 8, 9] (fun v cc i wr => ∃ (k : Nat) (c : Int) (cs : List Int), i = .int .i64 k ∧ cc = .int .u64 c ∧ k ≤ n + 1 ∧ Hid (SumInv xs ys cs n k c) ∧ Hid (Gr wr wb.heap.size v cs) ∧ Below wb.heap.size wb wr) (fun _ cc i _ => 2 * (n + 1 - (intOf i).toNat) + (intOf cc).toNat)
  case atStart => exact ⟨0, 0, [], rfl, rfl, by omega, ⟨rfl, H.Limbs.nil, by simp [H.num], by omega, by omega, .inl (by omega)⟩, Gr.nil _ _, Below.refl _ _⟩
  case round =>
    obtain ⟨k, c, cs, rfl, rfl, hk, hI, hG, hbl⟩ := hrel
    have hc0 := hI.out.2.2.2.1
    have hc1 := hI.out.2.2.2.2.1
    by_cases hgo : k < la ∨ k < lb ∨ 0 < c
    · have hkn : k ≤ n := by have := hI.out.2.2.2.2.2; omega
      have hstep := sum_step hx hy (by omega) (by omega) hI.out (by omega)
      have hcl : cs.length ≤ k := by have := hI.out.1; omega
      have b1 := hx.getD k; have b2 := hy.getD k
      have D1 := digit_any a la ca xs k wr (ha.below hbl (Nat.le_refl _)) (by omega)
      have D2 := digit_any b lb cb ys k wr (hb.below hbl (Nat.le_refl _)) (by omega)
      rw [Int.toNat_natCast] at D1 D2
      obtain ⟨x, hxx⟩ : ∃ x, xs.getD k 0 = x := ⟨_, rfl⟩
      obtain ⟨y, hyy⟩ : ∃ y, ys.getD k 0 = y := ⟨_, rfl⟩
      rw [hxx] at D1 hstep b1
      rw [hyy] at D2 hstep b2
      obtain ⟨x1, x2⟩ := b1; obtain ⟨y1, y2⟩ := b2
      have HS : Hid (SumInv xs ys (cs ++ [(x + y + c) % 4294967296]) n (k + 1) ((x + y + c) / 4294967296)) := hstep
      have hbs := hbl.size
      have HSZ : Hid (wb.heap.size ≤ (wr.alloc (.cells (row [(x + y + c) % 4294967296]).toArray 64)).heap.size) := by show _ ≤ _; simp; omega
      have HM : Hid ((2 : Nat) * (n + 1 - (k + 1)) + ((x + y + c) / 4294967296).toNat < 2 * (n + 1 - k) + c.toNat) := by
        have h6 := hI.out.2.2.2.2.2
        have h7 := hstep.2.2.2.2.2
        have h8 := hstep.2.2.2.2.1
        show _ < _
        omega
      clear hstep hxx hyy
      have hcase : k < la ∨ (¬ k < la ∧ k < lb) ∨ (¬ k < la ∧ ¬ k < lb ∧ 0 < c) := by omega
      clear hgo
      rcases hcase with q1 | ⟨q1, q2⟩ | ⟨q1, q2, q3⟩
      all_goals
        go_wp2_with fail
        refine D1.mono ?_
        rintro e w2 ⟨rfl, hw2⟩
        rw [hw2]
        clear hw2
        go_wp2_with fail
        refine D2.mono ?_
        rintro e w2 ⟨rfl, hw2⟩
        rw [hw2]
        clear hw2 D1 D2
        go_wp2_with (at_builtin; refine wpList_app rfl (.tmp 40) (.tmp 43) rfl wb.heap.size u7 cs rfl (hG.out.alloc _) wr.heap.size 1 1 [(x + y + c) % 4294967296] rfl rfl (heap_alloc_new _ _) (by omega) HSZ.out ?_; intro v1 w1 hG1 hb1)
        have hb2 : Below wb.heap.size wb w1 := (hbl.alloc hbs _).trans hb1
        clear hb1
        go_wp2_with fail
        go_roundw
        case rel => exact ⟨k + 1, _, _, by go_num, rfl, by omega, HS, hG1, hb2⟩
        case measure => simpa [intOf] using HM.out
    · obtain ⟨i1, i2, i3, i4, i5, i6⟩ := hI.out
      have hc : c = 0 := by omega
      subst hc
      rw [List.take_of_length_le (by omega), List.take_of_length_le (by omega), Int.zero_mul, Int.add_zero] at i3
      obtain ⟨aa, cap, hv, hcap, hsl⟩ := hG.out.sl i2.up
      have hu := usedN_le cs
      have hle : cs.length ≤ n + 1 := by omega
      rw [hv]
      have q1 : ¬ k < la := by omega
      have q2 : ¬ k < lb := by omega
      clear hG hv i1 hgo
      go_wp2_with fail
      refine (limbsr_any aa cs.length cap cs _ hsl i2 (by omega)).mono ?_
      rintro e w4 ⟨a4, m4, c4, z4, rfl, k4, k5, s4, u4, n4, b4⟩
      go_wp2_with fail
      go_ret
      exact ⟨a4, m4, c4, z4, rfl, k4, by omega, s4, u4, by rw [n4, i3, HNX.out, HNY.out], step (step HB.out hbl) b4⟩
end Go.Proofs.Ytkfpblonjinfmaa
