/-
  The document's cut, halves and limbs of layer 3.
-/
import Derived.Test.YtebbblhafjaaiaaGreatDoorBsJ
namespace Go.Proofs.YtebbblhafjaaiaaGreatDoor
open Go.RowKit Go.Shelf

theorem gr_own {w : World} {B : Nat} {v : Value} {cs : List Int} (h : Gr w B v cs) : ∀ a cap, v = .slice a cs.length cap → ∀ x : Nat, x ≠ 0 → x = cs.length → ∃ g cur, a = some ⟨g, 0, none⟩ ∧ B ≤ g ∧ w.heap[g]? = some (.cells cur 94 (0, 0)) := by
  intro a cap hv x hx hxc
  obtain ⟨h1, h2 | ⟨g, cap2, cur, rfl, hB, hh, hc, hm, hs, ht⟩⟩ := h
  · omega
  · cases hv
    exact ⟨g, cur, rfl, hB, hh⟩
/-- A list of digits is answered, trimmed, of that number, in memory of its own. -/
def DRes3 (w w' : World) (e : Ending) (N : Int) (bound : Nat) : Prop :=
  ∃ a m c ds, e = .returned (.slice a m c) ∧ m ≤ c ∧ m ≤ bound ∧ Sl w' a m ds ∧ H.Limbs ds ∧ usedN ds = m ∧ H.num ds = N ∧ (m ≠ 0 → ∃ g cur, a = some ⟨g, 0, none⟩ ∧ w.heap.size ≤ g ∧ w'.heap[g]? = some (.cells cur 94 (0, 0))) ∧ Below w.heap.size w w'
set_option maxHeartbeats 400000 in
theorem cut3_any (a : Option Addr) (len cap : Nat) (zs : List Int) (w : World) (h : Sl w a len zs) (hl : len ≤ 40000000000000) (hcap : len ≤ cap) :
    Calls Tryz.prog 149 #[.slice a len cap] w fun e w' => e = .returned (.slice a (usedN zs) cap) ∧ w' = w := by
  obtain ⟨hz, hL, hc⟩ := h
  by_cases h0 : len = 0
  · subst h0
    have e0 : usedN zs = 0 := by have := usedN_le zs; omega
    rw [e0]
    cases a with
    | none =>
      go_enter Tryz.func149, Tryz.ntmps149
      go_wp2_with fail
      refine wp_loop_rounds 1 ?_
      rw [rounds_succ]
      go_wp2_with fail
      go_ret
      exact ⟨rfl, rfl⟩
    | some a =>
      go_enter Tryz.func149, Tryz.ntmps149
      go_wp2_with fail
      refine wp_loop_rounds 1 ?_
      rw [rounds_succ]
      go_wp2_with fail
      go_ret
      exact ⟨rfl, rfl⟩
  · obtain ⟨b, off, rfl, hcell⟩ := hc (by omega)
    go_enter Tryz.func149, Tryz.ntmps149
    go_wp2_with fail
    go_loop [3] (fun i => ∃ k : Nat, k ≤ len ∧ i = .int .i64 k ∧ Hid (∀ j, k ≤ j → j < len → zs.getD j 0 = 0)) (fun i => (intOf i).toNat)
    case atStart => exact ⟨len, Nat.le_refl _, rfl, fun j h1 h2 => absurd h1 (by omega)⟩
    case round =>
      obtain ⟨k, hk, rfl, hI⟩ := hrel
      by_cases hlt : 0 < k
      · have hcx := hcell (k - 1) (by omega)
        have ex : ((k : Int) - 1).toNat = k - 1 := by omega
        obtain ⟨x, hx⟩ : ∃ x, zs.getD (k - 1) 0 = x := ⟨_, rfl⟩
        rw [hx] at hcx
        have HX : Hid (zs.getD (k - 1) 0 = x) := hx
        clear hx
        by_cases hx0 : x = 0
        · have g1 : (x == 0) = true := by simp [hx0]
          have HX0 : Hid (x = 0) := hx0
          clear hx0
          go_wp2_with fail
          go_round
          case rel =>
            refine ⟨k - 1, by omega, by rw [show ((k - 1 : Nat) : Int) = (k : Int) - 1 by omega], ?_⟩
            intro j h1 h2
            by_cases hj : j = k - 1
            · rw [hj, HX.out, HX0.out]
            · exact hI.out j (by omega) h2
          case measure => simp [intOf]; omega
        · have g1 : (x == 0) = false := by simp [hx0]
          have hu : usedN zs = k := usedN_eq (by omega) (fun i h1 h2 => hI.out i h1 (by omega)) (.inr (by rw [HX.out]; exact hx0))
          have HU : Hid (usedN zs = k) := hu
          clear hu hx0
          go_wp2_with fail
          go_ret
          exact ⟨ret_sl HU.out.symm, rfl⟩
      · obtain rfl : k = 0 := by omega
        have hu : usedN zs = 0 := usedN_eq (by omega) (fun i h1 h2 => hI.out i (by omega) (by omega)) (.inl rfl)
        have HU : Hid (usedN zs = 0) := hu
        clear hu
        go_wp2_with fail
        go_ret
        exact ⟨ret_sl HU.out.symm, rfl⟩

set_option maxHeartbeats 1000000 in
theorem halves3 (a : Option Addr) (la ca : Nat) (zs : List Int) (w : World) (h : Sl w a la zs) (hl : la ≤ 8000000000000) :
    Calls Tryz.prog 147 #[.slice a la ca] w fun e w' => DRes3 w w' e (num zs) (2 * la) := by
  have hz := h.1
  have hL := h.2.1
  go_enter Tryz.func147, Tryz.ntmps147
  go_wp2_with fail
  go_loopw [3, 4] (fun v i wr => ∃ (k : Nat) (cs : List Int), k ≤ la ∧ i = .int .i64 k ∧ Hid (GInv zs cs k) ∧ Hid (Gr wr w.heap.size v cs) ∧ Below w.heap.size w wr) (fun _ i _ => la - (intOf i).toNat)
  case atStart => exact ⟨0, [], Nat.zero_le _, rfl, ⟨rfl, H.Limbs.nil, rfl⟩, Gr.nil _ _, Below.refl _ _⟩
  case round =>
    obtain ⟨k, cs, hk, rfl, hI, hG, hb⟩ := hrel
    by_cases hlt : k < la
    · have hs := h.below hb (Nat.le_refl _)
      obtain ⟨b, off, rfl, hcell⟩ := hs.2.2 (by omega)
      have hcx := hcell k hlt
      have hstep := ginv_step hL hI.out
      have hw := hL.getD k
      obtain ⟨x, hx⟩ : ∃ x, zs.getD k 0 = x := ⟨_, rfl⟩
      rw [hx] at hcx hstep hw
      obtain ⟨x1, x2⟩ := hw
      obtain ⟨d0, hd0⟩ : ∃ d, x % 4294967296 = d := ⟨_, rfl⟩
      obtain ⟨d1, hd1⟩ : ∃ d, x / 4294967296 = d := ⟨_, rfl⟩
      rw [hd0, hd1] at hstep
      have e1 : x.tmod 4294967296 = d0 := by rw [Int.tmod_eq_emod_of_nonneg x1, hd0]
      have e2 : IntKind.u64.wrap (x.tdiv 4294967296) = d1 := by rw [Int.tdiv_eq_ediv_of_nonneg x1, IntKind.wrap_u64]; omega
      have HS : Hid (GInv zs (cs ++ [d0, d1]) (k + 1)) := hstep
      have hcl : cs.length ≤ 2 * k := by have := hI.out.1; omega
      clear hs hcell hx hstep hd0 hd1
      go_wp2_with fail
      go_region_law (refine step_app rfl (.tmp 11) (.tmp 22) rfl w.heap.size u3 cs (by simp [Act.eval]) (by exact hG.out.alloc _) wr.heap.size 2 2 [d0, d1] (by simp [Act.eval]) rfl (by exact heap_alloc_new _ _) (by omega) (by have := hb.size; simp; omega) ?_; intro v1 w1 hG1 hb1)
      all_goals
        have hb2 : Below w.heap.size w w1 := ((hb.alloc hb.size _).drew).trans hb1
        have HG1 : Hid (Gr w1 w.heap.size v1 (cs ++ [d0, d1])) := hG1
        clear hG1 hb1
        go_wp2_with fail
        go_roundw
        case rel => exact ⟨k + 1, _, by omega, by go_num, HS, HG1, hb2⟩
        case measure => simp [intOf]; omega
    · obtain rfl : k = la := by omega
      obtain ⟨i1, i2, i3⟩ := hI.out
      rw [List.take_of_length_le (by omega)] at i3
      have hown := gr_own hG.out
      obtain ⟨aa, cap, hv, hcap, hsl⟩ := hG.out.sl i2.up
      have hu := usedN_le cs
      have hle : cs.length ≤ 2 * k := by omega
      rw [hv] at hown
      have HOWN : Hid (∀ x : Nat, x ≠ 0 → x = cs.length → ∃ g cur, aa = some ⟨g, 0, none⟩ ∧ w.heap.size ≤ g ∧ wr.heap[g]? = some (.cells cur 94 (0, 0))) := hown aa cap rfl
      rw [hv]
      clear hG hv i1 hown
      go_wp2_with fail
      refine (cut3_any aa cs.length cap cs _ hsl (by omega) hcap).mono ?_
      rintro e w2 ⟨rfl, rfl⟩
      go_wp2_with fail
      go_ret
      exact ⟨aa, usedN cs, cap, cs.take (usedN cs), rfl, by omega, by omega, hsl.take hu, i2.take _, usedN_take cs (Nat.le_refl _), by rw [H.num_take_used cs (Nat.le_refl _)]; exact i3, fun h0 => HOWN.out cs.length (by omega) rfl, hb⟩
set_option maxHeartbeats 1000000 in
theorem limbs3 (a : Option Addr) (m ca : Nat) (ds : List Int) (w : World) (h : Sl w a m ds) (hd : H.Limbs ds) (hl : m ≤ 17000000000000) :
    Calls Tryz.prog 201 #[.slice a m ca] w fun e w' => LRes w w' e (H.num ds) m := by
  have hz := h.1
  have HSL : Hid (Sl w a m ds) := h
  clear h
  go_enter Tryz.func201, Tryz.ntmps201
  go_wp2_with fail
  go_loopw [3, 4] (fun v i wr => ∃ (k : Nat) (cs : List Int), i = .int .i64 (2 * (k : Int)) ∧ 2 * k ≤ m + 1 ∧ Hid (LmInv ds cs k) ∧ Hid (Gr wr w.heap.size v cs) ∧ Below w.heap.size w wr) (fun _ i _ => m + 1 - (intOf i).toNat)
  case atStart => exact ⟨0, [], rfl, by omega, ⟨rfl, Limbs.nil, rfl⟩, Gr.nil _ _, Below.refl _ _⟩
  case round =>
    obtain ⟨k, cs, rfl, hk, hI, hG, hb⟩ := hrel
    by_cases hlt : 2 * k < m
    · have hs := HSL.out.below hb (Nat.le_refl _)
      obtain ⟨b, off, rfl, hcell⟩ := hs.2.2 (by omega)
      have hcx := hcell (2 * k) hlt
      have hstep := lm_step hd hI.out
      have b1 := hd.getD (2 * k); have b2 := hd.getD (2 * k + 1)
      have hcl : cs.length ≤ k := by have := hI.out.1; omega
      have hbs := hb.size
      have ek : (2 * (k : Int)).toNat = 2 * k := by omega
      have ek1 : (2 * (k : Int) + 1).toNat = 2 * k + 1 := by omega
      obtain ⟨x, hx⟩ : ∃ x, ds.getD (2 * k) 0 = x := ⟨_, rfl⟩
      obtain ⟨y, hy⟩ : ∃ y, ds.getD (2 * k + 1) 0 = y := ⟨_, rfl⟩
      rw [hx] at hcx hstep b1
      rw [hy] at hstep b2
      obtain ⟨x1, x2⟩ := b1; obtain ⟨y1, y2⟩ := b2
      by_cases hlt2 : 2 * k + 1 < m
      · have hcy := hcell (2 * k + 1) hlt2
        rw [hy] at hcy
        have HS : Hid (LmInv ds (cs ++ [x + 4294967296 * y]) (k + 1)) := hstep
        have HSZ : Hid (w.heap.size ≤ (wr.alloc (.cells (row [x + 4294967296 * y]).toArray 94)).heap.size) := by show _ ≤ _; simp; omega
        have q1 : (2 * (k : Int)) < m := by omega
        have q2 : (2 * (k : Int)) + 1 < m := by omega
        clear hs hcell hx hy hstep
        go_wp2_with (at_builtin; refine wpList_app rfl (.tmp 29) (.tmp 31) rfl w.heap.size u3 cs rfl (hG.out.alloc _) wr.heap.size 1 1 [x + 4294967296 * y] rfl rfl (heap_alloc_new _ _) (by omega) HSZ.out ?_; intro v1 w1 hG1 hb1)
        have hb2 : Below w.heap.size w w1 := (hb.alloc hbs _).trans hb1
        clear hb1
        go_wp2_with fail
        go_roundw
        case rel => exact ⟨k + 1, _, by rw [show 2 * ((k + 1 : Nat) : Int) = 2 * (k : Int) + 2 by omega], by omega, HS, hG1, hb2⟩
        case measure => simp [intOf]; omega
      · have hy0 : y = 0 := by rw [← hy, List.getD_eq_getElem?_getD, List.getElem?_eq_none (by omega)]; rfl
        rw [hy0, Int.mul_zero, Int.add_zero] at hstep
        have HS : Hid (LmInv ds (cs ++ [x]) (k + 1)) := hstep
        have HSZ : Hid (w.heap.size ≤ (wr.alloc (.cells (row [x]).toArray 94)).heap.size) := by show _ ≤ _; simp; omega
        have q1 : (2 * (k : Int)) < m := by omega
        have q2 : ¬ (2 * (k : Int)) + 1 < m := by omega
        clear hs hcell hx hy hstep hy0
        go_wp2_with (at_builtin; refine wpList_app rfl (.tmp 29) (.tmp 31) rfl w.heap.size u3 cs rfl (hG.out.alloc _) wr.heap.size 1 1 [x] rfl rfl (heap_alloc_new _ _) (by omega) HSZ.out ?_; intro v1 w1 hG1 hb1)
        have hb2 : Below w.heap.size w w1 := (hb.alloc hbs _).trans hb1
        clear hb1
        go_wp2_with fail
        go_roundw
        case rel => exact ⟨k + 1, _, by rw [show 2 * ((k + 1 : Nat) : Int) = 2 * (k : Int) + 2 by omega], by omega, HS, hG1, hb2⟩
        case measure => simp [intOf]; omega
    · obtain ⟨i1, i2, i3⟩ := hI.out
      have et : ds.take (2 * k) = ds := List.take_of_length_le (by omega)
      rw [et] at i3
      obtain ⟨aa, cap, gm, hv, hcap, hsl, -, hnil, -⟩ := hG.out.parts i2
      have hu := usedN_le cs
      have hle : cs.length ≤ m := by omega
      have q1 : ¬ (2 * (k : Int)) < m := by omega
      rw [hv]
      clear hG hv i1 et
      go_wp2_with fail
      refine (rtrim_any aa cs.length cap cs _ hsl hnil (by omega) hcap).mono ?_
      rintro e w2 ⟨a2, c2, rfl, s2, hc2, b2⟩
      go_wp2_with fail
      go_ret
      exact ⟨a2, usedN cs, c2, cs.take (usedN cs), rfl, hc2, by omega, s2, usedN_take cs (Nat.le_refl _), by rw [num_take_used cs (Nat.le_refl _)]; exact i3, step hb b2⟩

end Go.Proofs.YtebbblhafjaaiaaGreatDoor
