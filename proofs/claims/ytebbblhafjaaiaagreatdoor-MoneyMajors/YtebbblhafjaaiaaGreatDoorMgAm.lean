/-
  The document's cut, halves and limbs of layer 3.
-/
import Derived.Test.YtebbblhafjaaiaaGreatDoorMgAg
namespace Go.Proofs.YtebbblhafjaaiaaGreatDoor
open Go.RowKit Go.Shelf

theorem gr_own {w : World} {B : Nat} {v : Value} {cs : List Int} (h : Gr w B v cs) : ∀ a cap, v = .slice a cs.length cap → ∀ x : Nat, x ≠ 0 → x = cs.length → ∃ g cur, a = some ⟨g, 0, none⟩ ∧ B ≤ g ∧ w.heap[g]? = some (.cells cur 94 (0, 0)) := by
  intro a cap hv x hx hxc
  obtain ⟨h1, h2 | ⟨g, cap2, cur, rfl, hB, hh, hc, hm, hs, ht⟩⟩ := h
  · omega
  · cases hv
    exact ⟨g, cur, rfl, hB, hh⟩
/-- A list of digits is answered, trimmed, of that number, in memory of its own. -/
def DRes3 (w w' : World) (e : Ending) (N : Int) (bound : Nat) : Prop :=
  ∃ a m c ds, e = .returned (.slice a m c) ∧ m ≤ c ∧ m ≤ bound ∧ Sl w' a m ds ∧ H.Limbs ds ∧ usedN ds = m ∧ H.num ds = N ∧ (m ≠ 0 → ∃ g cur, a = some ⟨g, 0, none⟩ ∧ w.heap.size ≤ g ∧ w'.heap[g]? = some (.cells cur 94 (0, 0))) ∧ Below w.heap.size w w'
set_option maxHeartbeats 400000 in
theorem cut3_any (a : Option Addr) (len cap : Nat) (zs : List Int) (w : World) (h : Sl w a len zs) (hl : len ≤ 40000000000000) (hcap : len ≤ cap) :
    Calls Tryz.prog 149 #[.slice a len cap] w fun e w' => e = .returned (.slice a (usedN zs) cap) ∧ w' = w := by
  obtain ⟨hz, hL, hc⟩ := h
  by_cases h0 : len = 0
  · subst h0
    have e0 : usedN zs = 0 := by have := usedN_le zs; omega
    rw [e0]
    cases a with
    | none =>
      go_enter Tryz.func149, Tryz.ntmps149
      go_wp2_with fail
      refine wp_loop_rounds 1 ?_
      rw [rounds_succ]
      go_wp2_with fail
      go_ret
      exact ⟨rfl, rfl⟩
    | some a =>
      go_enter Tryz.func149, Tryz.ntmps149
      go_wp2_with fail
      refine wp_loop_rounds 1 ?_
      rw [rounds_succ]
      go_wp2_with fail
      go_ret
      exact ⟨rfl, rfl⟩
  · obtain ⟨b, off, rfl, hcell⟩ := hc (by omega)
    go_enter Tryz.func149, Tryz.ntmps149
    go_wp2_with fail
    go_loop [3] (fun i => ∃ k : Nat, k ≤ len ∧ i = .int .i64 k ∧ Hid (∀ j, k ≤ j → j < len → zs.getD j 0 = 0)) (fun i => (intOf i).toNat)
    case atStart => exact ⟨len, Nat.le_refl _, rfl, fun j h1 h2 => absurd h1 (by omega)⟩
    case round =>
      obtain ⟨k, hk, rfl, hI⟩ := hrel
      by_cases hlt : 0 < k
      · have hcx := hcell (k - 1) (by omega)
        have ex : ((k : Int) - 1).toNat = k - 1 := by omega
        obtain ⟨x, hx⟩ : ∃ x, zs.getD (k - 1) 0 = x := ⟨_, rfl⟩
        rw [hx] at hcx
        have HX : Hid (zs.getD (k - 1) 0 = x) := hx
        clear hx
        by_cases hx0 : x = 0
        · have g1 : (x == 0) = true := by simp [hx0]
          have HX0 : Hid (x = 0) := hx0
          clear hx0
          go_wp2_with fail
          go_round
          case rel =>
            refine ⟨k - 1, by omega, by rw [show ((k - 1 : Nat) : Int) = (k : Int) - 1 by omega], ?_⟩
            intro j h1 h2
            by_cases hj : j = k - 1
            · rw [hj, HX.out, HX0.out]
            · exact hI.out j (by omega) h2
          case measure => simp [intOf]; omega
        · have g1 : (x == 0) = false := by simp [hx0]
          have hu : usedN zs = k := usedN_eq (by omega) (fun i h1 h2 => hI.out i h1 (by omega)) (.inr (by rw [HX.out]; exact hx0))
          have HU : Hid (usedN zs = k) := hu
          clear hu hx0
          go_wp2_with fail
          go_ret
          exact ⟨ret_sl HU.out.symm, rfl⟩
      · obtain rfl : k = 0 := by omega
        have hu : usedN zs = 0 := usedN_eq (by omega) (fun i h1 h2 => hI.out i (by omega) (by omega)) (.inl rfl)
        have HU : Hid (usedN zs = 0) := hu
        clear hu
        go_wp2_with fail
        go_ret
        exact ⟨ret_sl HU.out.symm, rfl⟩

set_option maxHeartbeats 1000000 in
theorem halves3 (a : Option Addr) (la ca : Nat) (zs : List Int) (w : World) (h : Sl w a la zs) (hl : la ≤ 8000000000000) :
    Calls Tryz.prog 147 #[.slice a la ca] w fun e w' => DRes3 w w' e (num zs) (2 * la) := by
  have hz := h.1
  have hL := h.2.1
  go_enter Tryz.func147, Tryz.ntmps147
  go_wp2_with fail
  go_loopw [3, 4] (fun v i wr => ∃ (k : Nat) (cs : List Int), k ≤ la ∧ i = .int .i64 k ∧ Hid (GInv zs cs k) ∧ Hid (Gr wr w.heap.size v cs) ∧ Below w.heap.size w wr) (fun _ i _ => la - (intOf i).toNat)
  case atStart => exact ⟨0, [], Nat.zero_le _, rfl, ⟨rfl, H.Limbs.nil, rfl⟩, Gr.nil _ _, Below.refl _ _⟩
  case round =>
    obtain ⟨k, cs, hk, rfl, hI, hG, hb⟩ := hrel
    by_cases hlt : k < la
    · have hs := h.below hb (Nat.le_refl _)
      obtain ⟨b, off, rfl, hcell⟩ := hs.2.2 (by omega)
      have hcx := hcell k hlt
      have hstep := ginv_step hL hI.out
      have hw := hL.getD k
      obtain ⟨x, hx⟩ : ∃ x, zs.getD k 0 = x := ⟨_, rfl⟩
      rw [hx] at hcx hstep hw
      obtain ⟨x1, x2⟩ := hw
      obtain ⟨d0, hd0⟩ : ∃ d, x % 4294967296 = d := ⟨_, rfl⟩
      obtain ⟨d1, hd1⟩ : ∃ d, x / 4294967296 = d := ⟨_, rfl⟩
      rw [hd0, hd1] at hstep
      have e1 : x.tmod 4294967296 = d0 := by rw [Int.tmod_eq_emod_of_nonneg x1, hd0]
      have e2 : IntKind.u64.wrap (x.tdiv 4294967296) = d1 := by rw [Int.tdiv_eq_ediv_of_nonneg x1, IntKind.wrap_u64]; omega
      have HS : Hid (GInv zs (cs ++ [d0, d1]) (k + 1)) := hstep
      have hcl : cs.length ≤ 2 * k := by have := hI.out.1; omega
      clear hs hcell hx hstep hd0 hd1
      go_wp2_with fail
      go_region_law (refine step_app rfl (.tmp 11) (.tmp 22) rfl w.heap.size u3 cs (by simp [Act.eval]) (by exact hG.out.alloc _) wr.heap.size 2 2 [d0, d1] (by simp [Act.eval]) rfl (by exact heap_alloc_new _ _) (by omega) (by have := hb.size; simp; omega) ?_; intro v1 w1 hG1 hb1)
      all_goals
        have hb2 : Below w.heap.size w w1 := ((hb.alloc hb.size _).drew).trans hb1
        have HG1 : Hid (Gr w1 w.heap.size v1 (cs ++ [d0, d1])) := hG1
        clear hG1 hb1
        go_wp2_with fail
        go_roundw
        case rel => exact ⟨k + 1, _, by omega, by go_num, HS, HG1, hb2⟩
        case measure => simp [intOf]; omega
    · obtain rfl : k = la := by omega
      obtain ⟨i1, i2, i3⟩ := hI.out
      rw [List.take_of_length_le (by omega)] at i3
      have hown := gr_own hG.out
      obtain ⟨aa, cap, hv, hcap, hsl⟩ := hG.out.sl i2.up
      have hu := usedN_le cs
      have hle : cs.length ≤ 2 * k := by omega
      rw [hv] at hown
      have HOWN : Hid (∀ x : Nat, x ≠ 0 → x = cs.length → ∃ g cur, aa = some ⟨g, 0, none⟩ ∧ w.heap.size ≤ g ∧ wr.heap[g]? = some (.cells cur 94 (0, 0))) := hown aa cap rfl
      rw [hv]
      clear hG hv i1 hown
      go_wp2_with fail
      refine (cut3_any aa cs.length cap cs _ hsl (by omega) hcap).mono ?_
      rintro e w2 ⟨rfl, rfl⟩
      go_wp2_with fail
      go_ret
      exact ⟨aa, usedN cs, cap, cs.take (usedN cs), rfl, by omega, by omega, hsl.take hu, i2.take _, usedN_take cs (Nat.le_refl _), by rw [H.num_take_used cs (Nat.le_refl _)]; exact i3, fun h0 => HOWN.out cs.length (by omega) rfl, hb⟩
set_option maxHeartbeats 1000000 in
theorem limbs3 (a : Option Addr) (m ca : Nat) (ds : List Int) (w : World) (h : Sl w a m ds) (hd : H.Limbs ds) (hl : m ≤ 17000000000000) :
    Calls Tryz.prog 201 #[.slice a m ca] w fun e w' => LRes w w' e (H.num ds) m := by
  have hz := h.1
  have HSL : Hid (Sl w a m ds) := h
  clear h
  go_enter Tryz.func201, Tryz.ntmps201
  go_wp2_with fail
  go_loopw [3, 4] (fun v i wr => ∃ (k : Nat) (cs : List Int), i = .int .i64 (2 * (k : Int)) ∧ 2 * k ≤ m + 1 ∧ Hid (LmInv ds cs k) ∧ Hid (Gr wr w.heap.size v cs) ∧ Below w.heap.size w wr) (fun _ i _ => m + 1 - (intOf i).toNat)
  case atStart => exact ⟨0, [], rfl, by omega, ⟨rfl, Limbs.nil, rfl⟩, Gr.nil _ _, Below.refl _ _⟩
  case round =>
    obtain ⟨k, cs, rfl, hk, hI, hG, hb⟩ := hrel
    by_cases hlt : 2 * k < m
    · have hs := HSL.out.below hb (Nat.le_refl _)
      obtain ⟨b, off, rfl, hcell⟩ := hs.2.2 (by omega)
      have hcx := hcell (2 * k) hlt
      have hstep := lm_step hd hI.out
      have b1 := hd.getD (2 * k); have b2 := hd.getD (2 * k + 1)
      have hcl : cs.length ≤ k := by have := hI.out.1; omega
      have hbs := hb.size
      have ek : (2 * (k : Int)).toNat = 2 * k := by omega
      have ek1 : (2 * (k : Int) + 1).toNat = 2 * k + 1 := by omega
      obtain ⟨x, hx⟩ : ∃ x, ds.getD (2 * k) 0 = x := ⟨_, rfl⟩
      obtain ⟨y, hy⟩ : ∃ y, ds.getD (2 * k + 1) 0 = y := ⟨_, rfl⟩
      rw [hx] at hcx hstep b1
      rw [hy] at hstep b2
      obtain ⟨x1, x2⟩ := b1; obtain ⟨y1, y2⟩ := b2
      by_cases hlt2 : 2 * k + 1 < m
      · have hcy := hcell (2 * k + 1) hlt2
        rw [hy] at hcy
        have HS : Hid (LmInv ds (cs ++ [x + 4294967296 * y]) (k + 1)) := hstep
        have HSZ : Hid (w.heap.size ≤ (wr.alloc (.cells (row [x + 4294967296 * y]).toArray 94)).heap.size) := by show _ ≤ _; simp; omega
        have q1 : (2 * (k : Int)) < m := by omega
        have q2 : (2 * (k : Int)) + 1 < m := by omega
        clear hs hcell hx hy hstep
        go_wp2_with (at_builtin; refine wpList_app rfl (.tmp 29) (.tmp 31) rfl w.heap.size u3 cs rfl (hG.out.alloc _) wr.heap.size 1 1 [x + 4294967296 * y] rfl rfl (heap_alloc_new _ _) (by omega) HSZ.out ?_; intro v1 w1 hG1 hb1)
        have hb2 : Below w.heap.size w w1 := (hb.alloc hbs _).trans hb1
        clear hb1
        go_wp2_with fail
        go_roundw
        case rel => exact ⟨k + 1, _, by rw [show 2 * ((k + 1 : Nat) : Int) = 2 * (k : Int) + 2 by omega], by omega, HS, hG1, hb2⟩
        case measure => simp [intOf]; omega
      · have hy0 : y = 0 := by rw [← hy, List.getD_eq_getElem?_getD, List.getElem?_eq_none (by omega)]; rfl
        rw [hy0, Int.mul_zero, Int.add_zero] at hstep
        have HS : Hid (LmInv ds (cs ++ [x]) (k + 1)) := hstep
        have HSZ : Hid (w.heap.size ≤ (wr.alloc (.cells (row [x]).toArray 94)).heap.size) := by show _ ≤ _; simp; omega
        have q1 : (2 * (k : Int)) < m := by omega
        have q2 : ¬ (2 * (k : Int)) + 1 < m := by omega
        clear hs hcell hx hy hstep hy0
        go_wp2_with (at_builtin; refine wpList_app rfl (.tmp 29) (.tmp 31) rfl w.heap.size u3 cs rfl (hG.out.alloc _) wr.heap.size 1 1 [x] rfl rfl (heap_alloc_new _ _) (by omega) HSZ.out ?_; intro v1 w1 hG1 hb1)
        have hb2 : Below w.heap.size w w1 := (hb.alloc hbs _).trans hb1
        clear hb1
        go_wp2_with fail
        go_roundw
        case rel => exact ⟨k + 1, _, by rw [show 2 * ((k + 1 : Nat) : Int) = 2 * (k : Int) + 2 by omega], by omega, HS, hG1, hb2⟩
        case measure => simp [intOf]; omega
    · obtain ⟨i1, i2, i3⟩ := hI.out
      have et : ds.take (2 * k) = ds := List.take_of_length_le (by omega)
      rw [et] at i3
      obtain ⟨aa, cap, gm, hv, hcap, hsl, -, hnil, -⟩ := hG.out.parts i2
      have hu := usedN_le cs
      have hle : cs.length ≤ m := by omega
      have q1 : ¬ (2 * (k : Int)) < m := by omega
      rw [hv]
      clear hG hv i1 et
      go_wp2_with fail
      refine (rtrim_any aa cs.length cap cs _ hsl hnil (by omega) hcap).mono ?_
      rintro e w2 ⟨a2, c2, rfl, s2, hc2, b2⟩
      go_wp2_with fail
      go_ret
      exact ⟨a2, usedN cs, c2, cs.take (usedN cs), rfl, hc2, by omega, s2, usedN_take cs (Nat.le_refl _), by rw [num_take_used cs (Nat.le_refl _)]; exact i3, step hb b2⟩

end Go.Proofs.YtebbblhafjaaiaaGreatDoor
namespace Go.Proofs.YtebbblhafjaaiaaGreatDoor
open Go.RowKit Go.Shelf
set_option linter.unusedVariables false

set_option maxHeartbeats 2000000 in
theorem onto_one (g cap : Nat) (p : Int) (cur : Array Value) (w : World) (h1 : 1 ≤ p) (h2 : p < 4294967296) (hg : w.heap[g]? = some (.cells cur 94 (0, 0))) (h0 : w.cell? ⟨g, 0, none⟩ = some (.int .u64 1)) :
    Calls Tryz.prog 200 #[.slice (some ⟨g, 0, none⟩) 1 cap, .int .u64 p, .int .u64 0] w fun e w' => e = .returned (.slice (some ⟨g, 0, none⟩) 1 cap) ∧ w' = w.setCell ⟨g, 0, none⟩ (.int .u64 p) := by
  have w1 : IntKind.u64.wrap p = p := by rw [IntKind.wrap_u64]; omega
  have m1 : p.tmod 4294967296 = p := by rw [Int.tmod_eq_emod_of_nonneg (by omega)]; omega
  have d1 : p.tdiv 4294967296 = 0 := by rw [Int.tdiv_eq_ediv_of_nonneg (by omega)]; omega
  have fz : w.frozen? ⟨g, 0, none⟩ = false := by simp [World.frozen?, hg]
  have lt : g < w.heap.size := by
    rcases Nat.lt_or_ge g w.heap.size with h | h
    · exact h
    · rw [Array.getElem?_eq_none h] at hg; cases hg
  go_enter Tryz.func200, Tryz.ntmps200
  go_wp2_with fail
  refine wp_loop_rounds 2 ?_
  rw [rounds_succ]
  go_wp2_with fail
  rw [rounds_succ]
  go_wp2_with fail
  go_ret
  exact ⟨rfl, rfl⟩
theorem one_half : H.Limbs [1] := fun z hz => by rw [List.mem_singleton.1 hz]; exact ⟨by decide, by decide⟩
theorem half_of {q : Int} (h : 1 ≤ q ∧ q < 4294967296) : H.Limbs [q] := fun z hz => by rw [List.mem_singleton.1 hz]; exact ⟨by omega, by omega⟩
theorem pow9 {i : Nat} (h : i ≤ 9) : (1 : Int) ≤ 10 ^ i ∧ (10 : Int) ^ i ≤ 1000000000 := by
  match i, h with
  | 0, _ | 1, _ | 2, _ | 3, _ | 4, _ | 5, _ | 6, _ | 7, _ | 8, _ | 9, _ => decide
theorem one_digits {a : Option Addr} {m : Nat} {ds : List Int} {w : World} (hs : Sl w a m ds) (hL : H.Limbs ds) (hu : usedN ds = m) (hm : m ≤ 2 * 1) (hN : H.num ds = num [1]) : ds = [1] ∧ m = 1 := by
  have hl := hs.1
  have e1 : num [1] = 1 := by decide
  rw [e1] at hN
  match ds, hl, hL, hu, hN with
  | [], _, _, _, hN => simp [H.num] at hN
  | [x], hl, _, _, hN =>
    have : x = 1 := by simpa [H.num] using hN
    subst this
    exact ⟨rfl, by simpa using hl.symm⟩
  | [x, y], hl, hL, hu, hN =>
    have bx := hL.getD 0
    have by' := hL.getD 1
    simp only [List.getD_cons_zero, List.getD_cons_succ] at bx by'
    simp only [H.num] at hN
    have y0 : y = 0 := by omega
    subst y0
    have := usedN_eq (zs := [x, 0]) (u := 1) (by simp) (fun i h1 h2 => by
      have : i = 1 := by simp at h2; omega
      subst this; rfl) (by right; simp; omega)
    simp at hl
    omega
  | x :: y :: z :: t, hl, _, _, _ => simp at hl; omega
set_option maxHeartbeats 2000000 in
theorem scale_one (a : Addr) (ca k : Nat) (hk : k ≤ 9) (w : World) (h : Sl w (some a) 1 [1]) :
    Calls Tryz.prog 164 #[.slice (some a) 1 ca, .int .i64 k] w fun e w' => ∃ a' m c zs, e = .returned (.tuple #[.slice a' m c, .int .i64 0]) ∧ m ≤ c ∧ m ≤ 1 ∧ Sl w' a' m zs ∧ usedN zs = m ∧ num zs = 10 ^ k ∧ Below w.heap.size w w' := by
  have g0 : decide ((k : Int) < 0) = false := by rw [decide_eq_false_iff_not]; omega
  go_enter Tryz.func164, Tryz.ntmps164
  go_wp2_with fail
  refine (halves3 (some a) 1 ca [1] _ h (by omega)).mono ?_
  rintro e x1 ⟨a1, m1, c1_, ds, rfl, hc, hm, hs, hL, hu, hN, hO, hb⟩
  obtain ⟨rfl, rfl⟩ := one_digits hs hL hu hm hN
  obtain ⟨g, cur, rfl, hB, hg⟩ := hO (by decide)
  have h0 : x1.cell? ⟨g, 0, none⟩ = some (.int .u64 1) := by
    obtain ⟨b, o, e, hcell⟩ := hs.2.2 (by decide)
    cases e
    exact hcell 0 (by decide)
  have B1 : Below w.heap.size w x1 := hb
  clear hb
  by_cases k0 : k = 0
  · subst k0
    clear hO hN hu hL hm
    go_wp2_with fail
    refine wp_loop_rounds 1 ?_
    rw [rounds_succ]
    go_wp2_with fail
    refine (limbs3 (some ⟨g, 0, none⟩) 1 c1_ [1] _ hs one_half (by omega)).mono ?_
    rintro e x2 ⟨a2, m2, c2, zs, rfl, hc2, hm2, hs2, hu2, hn2, hb2⟩
    go_wp2_with fail
    go_ret2
    exact ⟨a2, m2, c2, zs, rfl, hc2, hm2, hs2, hu2, by rw [hn2]; decide, step B1 hb2⟩
  · have g1 : decide ((0 : Int) < (k : Int)) = true := by rw [decide_eq_true_iff]; omega
    have mn : min (k : Int) 9 = (k : Int) := by omega
    have HK : Hid (k ≤ 9) := hk
    clear hO hN hu hL hm
    go_wp2_with fail
    refine wp_loop_rounds 2 ?_
    rw [rounds_succ]
    go_wp2_with fail
    go_loop [8, 9] (fun sp si => ∃ (i : Nat) (q : Int), sp = .int .u64 q ∧ si = .int .i64 i ∧ i ≤ k ∧ Hid (q = 10 ^ i)) (fun _ si => k - (intOf si).toNat)
    case atStart => exact ⟨0, 1, rfl, rfl, by omega, by show _ = _; decide⟩
    case round =>
      obtain ⟨i, q, rfl, rfl, hi, HQ⟩ := hrel
      have hb9 := pow9 (i := i) (by have := HK.out; omega)
      rw [← HQ.out] at hb9
      obtain ⟨q1, q2⟩ := hb9
      by_cases hlt : i < k
      · have c1 : decide ((i : Int) < (k : Int)) = true := by rw [decide_eq_true_iff]; omega
        have wq : IntKind.u64.wrap (10 * q) = 10 * q := by rw [IntKind.wrap_u64]; omega
        go_wp2_with fail
        go_round
        case rel => exact ⟨i + 1, 10 * q, rfl, by go_num, by omega, by show _ = _; rw [HQ.out, Int.pow_succ]; omega⟩
        case measure => simp [intOf]; omega
      · obtain rfl : i = k := by omega
        have c1 : decide ((i : Int) < (i : Int)) = false := by rw [decide_eq_false_iff_not]; omega
        have ws : IntKind.i64.wrap ((i : Int) - (i : Int)) = 0 := by rw [Int.sub_self]; decide
        have HQ1 : Hid (1 ≤ q ∧ q < 4294967296) := ⟨q1, by omega⟩
        clear q1 q2
        go_wp2_with fail
        refine (onto_one g c1_ q cur x1 HQ1.out.1 HQ1.out.2 hg h0).mono ?_
        rintro e x2 ⟨rfl, hw⟩
        have B2 : Below w.heap.size w x2 := by rw [hw]; exact B1.setCell hB _
        have hs2 : Sl x2 (some ⟨g, 0, none⟩) 1 [q] := by
          refine ⟨rfl, fun z hz => ?_, fun _ => ⟨g, 0, rfl, fun j hj => ?_⟩⟩
          · rw [List.mem_singleton.1 hz]; have := HQ1.out; exact ⟨by omega, by omega⟩
          · obtain rfl : j = 0 := by omega
            rw [hw]
            exact World.cell?_setCell_same' x1 _ _ (by rw [h0]; rfl)
        clear hw
        go_wp2_with fail
        rw [rounds_succ]
        go_wp2_with fail
        refine (limbs3 (some ⟨g, 0, none⟩) 1 c1_ [q] _ hs2 (half_of HQ1.out) (by omega)).mono ?_
        rintro e x3 ⟨a2, m2, c2, zs, rfl, hc2, hm2, hs3, hu2, hn2, hb2⟩
        go_wp2_with fail
        go_ret2
        exact ⟨a2, m2, c2, zs, rfl, hc2, hm2, hs3, hu2, by rw [hn2, ← HQ.out]; simp [H.num], step B2 hb2⟩
theorem ten3 (k : Nat) (hk : k ≤ 9) (w : World) :
    Calls Tryz.prog 121 #[.int .i64 k] w fun e w' => ∃ a' m c zs, e = .returned (.tuple #[.slice a' m c, .int .i64 0]) ∧ m ≤ c ∧ m ≤ 1 ∧ Sl w' a' m zs ∧ usedN zs = m ∧ num zs = 10 ^ k ∧ Below w.heap.size w w' := by
  go_enter Tryz.func121, Tryz.ntmps121
  go_wp2_with fail
  have ho : Own (w.alloc (.cells #[.int .u64 1] 94)) w.heap.size [1] := heap_alloc_new w _
  have hs := ho.sl (fun z hz => by rw [List.mem_singleton.1 hz]; exact ⟨by decide, by decide⟩)
  have B1 : Below w.heap.size w (w.alloc (.cells #[.int .u64 1] 94)) := (Below.refl _ _).alloc (Nat.le_refl _) _
  refine (scale_one ⟨w.heap.size, 0, none⟩ 1 k hk _ hs).mono ?_
  rintro e x1 ⟨a2, m2, c2, zs, rfl, hc2, hm2, hs2, hu2, hn2, hb2⟩
  go_wp2_with fail
  go_ret2
  exact ⟨a2, m2, c2, zs, rfl, hc2, hm2, hs2, hu2, hn2, step B1 hb2⟩
end Go.Proofs.YtebbblhafjaaiaaGreatDoor
namespace Go.Proofs.YtebbblhafjaaiaaGreatDoor
open Go.RowKit Go.Shelf

def RPrInv (xs ys cs : List Int) (n lb i : Nat) : Prop :=
  cs.length = n ∧ H.Limbs cs ∧ (∀ j, i + lb ≤ j → cs.getD j 0 = 0) ∧ H.num cs = H.num (xs.take i) * H.num ys
def InInv (ys cs : List Int) (n lb i k : Nat) (T x c : Int) : Prop :=
  cs.length = n ∧ H.Limbs cs ∧ (∀ j, i + lb ≤ j → cs.getD j 0 = 0) ∧ H.num cs + c * H.pw (i + k) = T + x * H.num (ys.take k) * H.pw i ∧ 0 ≤ c ∧ c < 4294967296

theorem in_start {xs ys cs : List Int} {n lb i : Nat} (x : Int) (I : RPrInv xs ys cs n lb i) : InInv ys cs n lb i 0 (H.num (xs.take i) * H.num ys) x 0 := by
  obtain ⟨i1, i2, i3, i4⟩ := I
  exact ⟨i1, i2, i3, by rw [i4]; simp [H.num], by omega, by omega⟩
theorem in_word {o x y c : Int} (ho : 0 ≤ o ∧ o < 4294967296) (hx : 0 ≤ x ∧ x < 4294967296) (hy : 0 ≤ y ∧ y < 4294967296) (hc : 0 ≤ c ∧ c < 4294967296) :
    0 ≤ x * y ∧ x * y ≤ 18446744065119617025 ∧ (o + x * y + c) / 4294967296 < 4294967296 := by
  have h1 : 0 ≤ x * y := Int.mul_nonneg hx.1 hy.1
  have h2 : x * y ≤ 4294967295 * y := Int.mul_le_mul_of_nonneg_right (by omega) hy.1
  generalize x * y = p at *
  omega
theorem in_step {ys cs : List Int} {n lb i k : Nat} {T x c : Int} (hx : 0 ≤ x ∧ x < 4294967296) (hy : H.Limbs ys) (hk : k < lb) (hn : i + lb ≤ n) (I : InInv ys cs n lb i k T x c) :
    InInv ys (cs.set (i + k) ((cs.getD (i + k) 0 + x * ys.getD k 0 + c) % 4294967296)) n lb i (k + 1) T x ((cs.getD (i + k) 0 + x * ys.getD k 0 + c) / 4294967296) := by
  obtain ⟨i1, i2, i3, i4, i5, i6⟩ := I
  have b1 := i2.getD (i + k); have b2 := hy.getD k
  obtain ⟨p1, p2, p3⟩ := in_word b1 hx b2 ⟨i5, i6⟩
  refine ⟨by rw [List.length_set]; exact i1, i2.set _ ⟨by omega, by omega⟩, fun j hj => by rw [getD_set_other _ _ _ _ (by omega)]; exact i3 j hj, ?_, by omega, p3⟩
  have hc := H.carry_step (v := (cs.getD (i + k) 0 + x * ys.getD k 0 + c) % 4294967296) (c' := (cs.getD (i + k) 0 + x * ys.getD k 0 + c) / 4294967296) (p := H.pw (i + k)) (s := cs.getD (i + k) 0 + x * ys.getD k 0 + c) (by omega)
  rw [Int.add_mul (cs.getD (i + k) 0 + x * ys.getD k 0), Int.add_mul (cs.getD (i + k) 0)] at hc
  rw [H.num_set _ _ _ (by omega), H.num_take_succ, ← Nat.add_assoc, H.pw, Int.sub_mul, Int.mul_add x, Int.add_mul (x * H.num (ys.take k))]
  have e : x * (ys.getD k 0 * H.pw k) * H.pw i = x * ys.getD k 0 * H.pw (i + k) := by
    rw [H.pw_add, Int.mul_comm (H.pw i), Int.mul_assoc, Int.mul_assoc, Int.mul_assoc]
  rw [e]
  omega
theorem in_end {xs ys cs : List Int} {n lb i : Nat} {c : Int} (hlb : ys.length = lb) (hn : i + lb < n) (I : InInv ys cs n lb i lb (H.num (xs.take i) * H.num ys) (xs.getD i 0) c) : RPrInv xs ys (cs.set (i + lb) c) n lb (i + 1) := by
  obtain ⟨i1, i2, i3, i4, i5, i6⟩ := I
  refine ⟨by rw [List.length_set]; exact i1, i2.set _ ⟨i5, i6⟩, fun j hj => by rw [getD_set_other _ _ _ _ (by omega)]; exact i3 j (by omega), ?_⟩
  have et : ys.take lb = ys := List.take_of_length_le (by omega)
  rw [et] at i4
  rw [H.num_set _ _ _ (by omega), i3 (i + lb) (Nat.le_refl _), Int.sub_zero, H.num_take_succ, Int.add_mul, Int.mul_right_comm (xs.getD i 0)]
  exact i4

set_option maxHeartbeats 2000000 in
theorem rproduct_any (a b : Option Addr) (la ca lb cb : Nat) (xs ys : List Int) (w : World) (ha : Sl w a la xs) (hb : Sl w b lb ys) (hx : H.Limbs xs) (hy : H.Limbs ys) (h1 : la ≤ 8000000000000) (h2 : lb ≤ 8000000000000) :
    Calls Tryz.prog 120 #[.slice a la ca, .slice b lb cb] w fun e w' => DRes w w' e (H.num xs * H.num ys) (la + lb) := by
  have hza := ha.1; have hzb := hb.1
  have hmk := make_row (la + lb) (by omega)
  rw [show ((la + lb : Nat) : Int) = (la : Int) + lb by omega] at hmk
  have I0 : Hid (RPrInv xs ys (List.replicate (la + lb) 0) (la + lb) lb 0) :=
    ⟨by simp, fun z hz => by rw [List.eq_of_mem_replicate hz]; decide, fun j _ => by rw [List.getD_eq_getElem?_getD, List.getElem?_replicate]; split <;> rfl, by rw [H.num_zeros]; simp [H.num]⟩
  have O0 : Hid (Own (w.alloc (.cells (row (List.replicate (la + lb) 0)).toArray 94)) w.heap.size (List.replicate (la + lb) 0)) := heap_alloc_new _ _
  go_enter Tryz.func120, Tryz.ntmps120
  go_wp2_with fail
  clear hmk
  go_loopw [6] (fun ii wr => ∃ (i : Nat) (cs : List Int), ii = .int .i64 i ∧ i ≤ la ∧ Hid (RPrInv xs ys cs (la + lb) lb i) ∧ Hid (Own wr w.heap.size cs) ∧ Below w.heap.size w wr) (fun ii _ => la - (intOf ii).toNat)
  case atStart => exact ⟨0, _, rfl, by omega, I0, O0, (Below.refl _ _).alloc (Nat.le_refl _) _⟩
  case round =>
    obtain ⟨i, cs, rfl, hi, hI, hO, hbl⟩ := hrel
    by_cases hlt : i < la
    · obtain ⟨x, hxx⟩ : ∃ x, xs.getD i 0 = x := ⟨_, rfl⟩
      have hxw := hx.getD i
      rw [hxx] at hxw
      have HXX : Hid (xs.getD i 0 = x) := hxx
      have IN0 : Hid (InInv ys cs (la + lb) lb i 0 (H.num (xs.take i) * H.num ys) x 0) := in_start x hI.out
      obtain ⟨ba, oa, rfl, hca⟩ := ha.2.2 (by omega)
      have hcax := hca i hlt
      rw [hxx] at hcax
      have hba : ba < w.heap.size := by
        rcases Nat.lt_or_ge ba w.heap.size with h' | h'
        · exact h'
        · simp [World.cell?, Array.getElem?_eq_none h'] at hcax
      obtain ⟨wo, hwo⟩ : ∃ wo : World, wo = wr := ⟨_, rfl⟩
      rw [← hwo] at hO hbl
      clear hxx hca
      go_wp2_with fail
      rw [← hwo]
      clear hwo
      go_loopw [7, 8] (fun cc kk wq => ∃ (k : Nat) (c : Int) (ds : List Int), kk = .int .i64 k ∧ cc = .int .u64 c ∧ k ≤ lb ∧ Hid (InInv ys ds (la + lb) lb i k (H.num (xs.take i) * H.num ys) x c) ∧ Hid (Own wq w.heap.size ds) ∧ Below w.heap.size w wq) (fun _ kk _ => lb - (intOf kk).toNat)
      case atStart => exact ⟨0, 0, cs, rfl, rfl, by omega, IN0, hO, hbl⟩
      case round =>
        obtain ⟨k, c, ds, rfl, rfl, hk, hJ, hP, hbq⟩ := hrel
        by_cases hkl : k < lb
        · obtain ⟨bb, ob, rfl, hcb⟩ := hb.2.2 (by omega)
          have hcbx := hcb k hkl
          have hbb : bb < w.heap.size := by
            rcases Nat.lt_or_ge bb w.heap.size with h' | h'
            · exact h'
            · simp [World.cell?, Array.getElem?_eq_none h'] at hcbx
          obtain ⟨y, hyy⟩ : ∃ y, ys.getD k 0 = y := ⟨_, rfl⟩
          have hyw := hy.getD k
          have hstep := in_step hxw hy hkl (by omega) hJ.out
          have hcx := hP.out.cell (i + k) (by rw [hJ.out.1]; omega)
          have hfx := hP.out.frozen (i + k)
          have how := hJ.out.2.1.getD (i + k)
          have hc0 := hJ.out.2.2.2.2.1
          have hc1 := hJ.out.2.2.2.2.2
          obtain ⟨o, hoo⟩ : ∃ o, ds.getD (i + k) 0 = o := ⟨_, rfl⟩
          rw [hyy] at hcbx hyw hstep
          rw [hoo] at hcx how hstep
          obtain ⟨p1, p2, p3⟩ := in_word how hxw hyw ⟨hc0, hc1⟩
          obtain ⟨p, hp⟩ : ∃ p, x * y = p := ⟨_, rfl⟩
          rw [hp] at p1 p2 p3 hstep
          obtain ⟨o1, o2⟩ := how
          have ca1 : wr.cell? ⟨ba, oa + i, none⟩ = some (.int .u64 x) := (hbq.cell (p := ⟨ba, oa + i, none⟩) hba).trans hcax
          have cb1 : wr.cell? ⟨bb, ob + k, none⟩ = some (.int .u64 y) := (hbq.cell (p := ⟨bb, ob + k, none⟩) hbb).trans hcbx
          obtain ⟨t, ht⟩ : ∃ t, o + p + c = t := ⟨_, rfl⟩
          rw [ht] at hstep p3
          have t0 : 0 ≤ t := by omega
          have t1 : t < 18446744073709551616 := by omega
          have m0 : IntKind.i64.wrap ((i : Int) + k) = i + k := by rw [IntKind.wrap_i64]; omega
          have m1 : IntKind.u64.wrap (x * y) = p := by rw [hp, IntKind.wrap_u64]; omega
          have m2 : IntKind.u64.wrap (p + o) = p + o := by rw [IntKind.wrap_u64]; omega
          have m3 : IntKind.u64.wrap (p + o + c) = t := by rw [IntKind.wrap_u64]; omega
          have m4 : ((i : Int) + k).toNat = i + k := by omega
          have m5 : (i : Int) + k < la + lb := by omega
          have HS : Hid (InInv ys (ds.set (i + k) (t % 4294967296)) (la + lb) lb i (k + 1) (H.num (xs.take i) * H.num ys) x (t / 4294967296)) := hstep
          clear hstep hyy hoo hp ht hcb hcbx hcax hyw p3
          go_wp2_with fail
          go_quiet (fail)
          clear m1 m2 m3
          go_wp2_with fail
          go_roundw
          case rel => exact ⟨k + 1, _, _, by go_num, rfl, by omega, HS, Own.set (w := wr.drewN nq) hP.out (i + k) _, (below_drewN hbq nq).setCell (Nat.le_refl _) _⟩
          case measure => simp [intOf]; omega
        · obtain rfl : k = lb := by omega
          have hJ' := hJ.out
          rw [← HXX.out] at hJ'
          have HE : Hid (RPrInv xs ys (ds.set (i + k) c) (la + k) k (i + 1)) := in_end hzb (by omega) hJ'
          have hcx := hP.out.cell (i + k) (by rw [hJ.out.1]; omega)
          have hfx := hP.out.frozen (i + k)
          have m4 : ((i : Int) + k).toNat = i + k := by omega
          have m5 : (i : Int) + k < la + k := by omega
          clear hJ' hcax
          go_wp2_with fail
          go_roundw
          case rel => exact ⟨i + 1, _, by go_num, by omega, HE, Own.set hP.out (i + k) _, hbq.setCell (Nat.le_refl _) _⟩
          case measure => simp [intOf]; omega
    · obtain rfl : i = la := by omega
      obtain ⟨i1, i2, i3, i4⟩ := hI.out
      have et : xs.take i = xs := List.take_of_length_le (by omega)
      rw [et] at i4
      have hsl := hO.out.sl i2.up
      rw [i1] at hsl
      have hu := usedN_le cs
      have hle : usedN cs ≤ i + lb := by omega
      clear i1 et
      go_wp2_with fail
      refine (cutr_any (some ⟨w.heap.size, 0, none⟩) (i + lb) (i + lb) cs _ hsl (by omega) (Nat.le_refl _)).mono ?_
      rintro e w2 ⟨rfl, rfl⟩
      go_wp2_with fail
      go_ret
      exact ⟨_, usedN cs, i + lb, cs.take (usedN cs), rfl, hle, hle, hsl.take hle, i2.take _, usedN_take cs (Nat.le_refl _), by rw [H.num_take_used cs (Nat.le_refl _)]; exact i4, hbl⟩

theorem rmul_any (a0 a1 : Option Addr) (l0 k0 l1 k1 : Nat) (z0 z1 : List Int) (w : World) (ha0 : Sl w a0 l0 z0) (hb0 : Sl w a1 l1 z1) (h1 : l0 ≤ 2000000000000) (h2 : l1 ≤ 2000000000000) :
    Calls Tryz.prog 68 #[.slice a0 l0 k0, .slice a1 l1 k1] w fun e w' => LRes w w' e (num z0 * num z1) (2 * l0 + 2 * l1) := by
  go_enter Tryz.func68, Tryz.ntmps68
  go_wp2_with fail
  refine (digits_any a0 l0 k0 z0 w ha0 (by omega)).mono ?_
  rintro e wa ⟨a, la, ca, xs, rfl, -, hla, ha, hx, ux, nx, ba⟩
  go_wp2_with fail
  refine (digits_any a1 l1 k1 z1 wa (hb0.below ba (Nat.le_refl _)) (by omega)).mono ?_
  rintro e wb ⟨b, lb, cb, ys, rfl, -, hlb, hb, hy, uy, ny, bb⟩
  replace ha := ha.below bb (Nat.le_refl _)
  have HB : Hid (Below w.heap.size w wb) := step ba bb
  go_wp2_with fail
  refine (rproduct_any a b la ca lb cb xs ys wb ha hb hx hy (by omega) (by omega)).mono ?_
  rintro e wd ⟨ad, md, cd, ds, rfl, -, hmd, sd, hd, ud, nd, bd⟩
  go_wp2_with fail
  refine (limbsr_any ad md cd ds wd sd hd (by omega)).mono ?_
  rintro e w4 ⟨a4, m4, c4, z4, rfl, k4, k5, s4, u4, n4, b4⟩
  go_wp2_with fail
  go_ret
  exact ⟨a4, m4, c4, z4, rfl, k4, by omega, s4, u4, by rw [n4, nd, nx, ny], step (step HB.out bd) b4⟩
end Go.Proofs.YtebbblhafjaaiaaGreatDoor
