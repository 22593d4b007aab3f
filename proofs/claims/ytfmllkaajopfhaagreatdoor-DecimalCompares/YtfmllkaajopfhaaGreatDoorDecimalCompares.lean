/-
  For every two decimals DecimalCompares returns true; its arguments read as before. Conditions: the listed variables hold what the program's text lays.
-/
import Derived.Test.YtfmllkaajopfhaaGreatDoorBsJ
import Derived.Test.YtfmllkaajopfhaaGreatDoorRt4
import Derived.Test.YtfmllkaajopfhaaGreatDoorDec7
import Derived.Test.YtfmllkaajopfhaaGreatDoorBsL
import Derived.Test.YtfmllkaajopfhaaGreatDoorDec1
import Derived.Test.YtfmllkaajopfhaaGreatDoorDec4
import Derived.Test.YtfmllkaajopfhaaGreatDoorParseF
import Derived.Test.YtfmllkaajopfhaaGreatDoorWh8a
import Derived.Test.YtfmllkaajopfhaaGreatDoorShelf2
import Derived.Test.YtfmllkaajopfhaaGreatDoorDec3
import Derived.Test.YtfmllkaajopfhaaGreatDoorLaidP
import Derived.Test.YtfmllkaajopfhaaGreatDoorCards
import Derived.Test.YtfmllkaajopfhaaGreatDoorTie
import Derived.Lay
import Derived.LaidLaws
import Derived.MakeChecks
import Derived.SevenTiedAt
import Derived.WalkKit
import Derived.ProofKit
import Derived.OpenShut
import Derived.ShutString
import Derived.ChangeOld
import Derived.SizedLaws
import Derived.Lib.SmallJoins
namespace Go.Proofs.YtfmllkaajopfhaaGreatDoor
open Go.RowKit Go.Shelf

theorem gr_own {w : World} {B : Nat} {v : Value} {cs : List Int} (h : Gr w B v cs) : ∀ a cap, v = .slice a cs.length cap → ∀ x : Nat, x ≠ 0 → x = cs.length → ∃ g cur, a = some ⟨g, 0, none⟩ ∧ B ≤ g ∧ w.heap[g]? = some (.cells cur 36 (0, 0)) := by
  intro a cap hv x hx hxc
  obtain ⟨h1, h2 | ⟨g, cap2, cur, rfl, hB, hh, hc, hm, hs, ht⟩⟩ := h
  · omega
  · cases hv
    exact ⟨g, cur, rfl, hB, hh⟩
/-- A list of digits is answered, trimmed, of that number, in memory of its own. -/
def DRes3 (w w' : World) (e : Ending) (N : Int) (bound : Nat) : Prop :=
  ∃ a m c ds, e = .returned (.slice a m c) ∧ m ≤ c ∧ m ≤ bound ∧ Sl w' a m ds ∧ H.Limbs ds ∧ usedN ds = m ∧ H.num ds = N ∧ (m ≠ 0 → ∃ g cur, a = some ⟨g, 0, none⟩ ∧ w.heap.size ≤ g ∧ w'.heap[g]? = some (.cells cur 36 (0, 0))) ∧ Below w.heap.size w w'
set_option maxHeartbeats 400000 in
theorem cut3_any (a : Option Addr) (len cap : Nat) (zs : List Int) (w : World) (h : Sl w a len zs) (hl : len ≤ 40000000000000) (hcap : len ≤ cap) :
    Calls Tryz.prog 86 #[.slice a len cap] w fun e w' => e = .returned (.slice a (usedN zs) cap) ∧ w' = w := by
  obtain ⟨hz, hL, hc⟩ := h
  by_cases h0 : len = 0
  · subst h0
    have e0 : usedN zs = 0 := by have := usedN_le zs; omega
    rw [e0]
    cases a with
    | none =>
      go_enter Tryz.func86, Tryz.ntmps86
      go_wp2_with fail
      refine wp_loop_rounds 1 ?_
      rw [rounds_succ]
      go_wp2_with fail
      go_ret
      exact ⟨rfl, rfl⟩
    | some a =>
      go_enter Tryz.func86, Tryz.ntmps86
      go_wp2_with fail
      refine wp_loop_rounds 1 ?_
      rw [rounds_succ]
      go_wp2_with fail
      go_ret
      exact ⟨rfl, rfl⟩
  · obtain ⟨b, off, rfl, hcell⟩ := hc (by omega)
    go_enter Tryz.func86, Tryz.ntmps86
    go_wp2_with fail
    go_loop [3] (fun i => ∃ k : Nat, k ≤ len ∧ i = .int .i64 k ∧ Hid (∀ j, k ≤ j → j < len → zs.getD j 0 = 0)) (fun i => (intOf i).toNat)
    case atStart => exact ⟨len, Nat.le_refl _, rfl, fun j h1 h2 => absurd h1 (by omega)⟩
    case round =>
      obtain ⟨k, hk, rfl, hI⟩ := hrel
      by_cases hlt : 0 < k
      · have hcx := hcell (k - 1) (by omega)
        have ex : ((k : Int) - 1).toNat = k - 1 := by omega
        obtain ⟨x, hx⟩ : ∃ x, zs.getD (k - 1) 0 = x := ⟨_, rfl⟩
        rw [hx] at hcx
        have HX : Hid (zs.getD (k - 1) 0 = x) := hx
        clear hx
        by_cases hx0 : x = 0
        · have g1 : (x == 0) = true := by simp [hx0]
          have HX0 : Hid (x = 0) := hx0
          clear hx0
          go_wp2_with fail
          go_round
          case rel =>
            refine ⟨k - 1, by omega, by rw [show ((k - 1 : Nat) : Int) = (k : Int) - 1 by omega], ?_⟩
            intro j h1 h2
            by_cases hj : j = k - 1
            · rw [hj, HX.out, HX0.out]
            · exact hI.out j (by omega) h2
          case measure => simp [intOf]; omega
        · have g1 : (x == 0) = false := by simp [hx0]
          have hu : usedN zs = k := usedN_eq (by omega) (fun i h1 h2 => hI.out i h1 (by omega)) (.inr (by rw [HX.out]; exact hx0))
          have HU : Hid (usedN zs = k) := hu
          clear hu hx0
          go_wp2_with fail
          go_ret
          exact ⟨ret_sl HU.out.symm, rfl⟩
      · obtain rfl : k = 0 := by omega
        have hu : usedN zs = 0 := usedN_eq (by omega) (fun i h1 h2 => hI.out i (by omega) (by omega)) (.inl rfl)
        have HU : Hid (usedN zs = 0) := hu
        clear hu
        go_wp2_with fail
        go_ret
        exact ⟨ret_sl HU.out.symm, rfl⟩

set_option maxHeartbeats 1000000 in
theorem halves3 (a : Option Addr) (la ca : Nat) (zs : List Int) (w : World) (h : Sl w a la zs) (hl : la ≤ 8000000000000) :
    Calls Tryz.prog 58 #[.slice a la ca] w fun e w' => DRes3 w w' e (num zs) (2 * la) := by
  have hz := h.1
  have hL := h.2.1
  go_enter Tryz.func58, Tryz.ntmps58
  go_wp2_with fail
  go_loopw [3, 4] (fun v i wr => ∃ (k : Nat) (cs : List Int), k ≤ la ∧ i = .int .i64 k ∧ Hid (GInv zs cs k) ∧ Hid (Gr wr w.heap.size v cs) ∧ Below w.heap.size w wr) (fun _ i _ => la - (intOf i).toNat)
  case atStart => exact ⟨0, [], Nat.zero_le _, rfl, ⟨rfl, H.Limbs.nil, rfl⟩, Gr.nil _ _, Below.refl _ _⟩
  case round =>
    obtain ⟨k, cs, hk, rfl, hI, hG, hb⟩ := hrel
    by_cases hlt : k < la
    · have hs := h.below hb (Nat.le_refl _)
      obtain ⟨b, off, rfl, hcell⟩ := hs.2.2 (by omega)
      have hcx := hcell k hlt
      have hstep := ginv_step hL hI.out
      have hw := hL.getD k
      obtain ⟨x, hx⟩ : ∃ x, zs.getD k 0 = x := ⟨_, rfl⟩
      rw [hx] at hcx hstep hw
      obtain ⟨x1, x2⟩ := hw
      obtain ⟨d0, hd0⟩ : ∃ d, x % 4294967296 = d := ⟨_, rfl⟩
      obtain ⟨d1, hd1⟩ : ∃ d, x / 4294967296 = d := ⟨_, rfl⟩
      rw [hd0, hd1] at hstep
      have e1 : x.tmod 4294967296 = d0 := by rw [Int.tmod_eq_emod_of_nonneg x1, hd0]
      have e2 : IntKind.u64.wrap (x.tdiv 4294967296) = d1 := by rw [Int.tdiv_eq_ediv_of_nonneg x1, IntKind.wrap_u64]; omega
      have HS : Hid (GInv zs (cs ++ [d0, d1]) (k + 1)) := hstep
      have hcl : cs.length ≤ 2 * k := by have := hI.out.1; omega
      clear hs hcell hx hstep hd0 hd1
      go_wp2_with fail
      go_region_law (refine step_app rfl (.tmp 11) (.tmp 22) rfl w.heap.size u3 cs (by simp [Act.eval]) (by exact hG.out.alloc _) wr.heap.size 2 2 [d0, d1] (by simp [Act.eval]) rfl (by exact heap_alloc_new _ _) (by omega) (by have := hb.size; simp; omega) ?_; intro v1 w1 hG1 hb1)
      all_goals
        have hb2 : Below w.heap.size w w1 := ((hb.alloc hb.size _).drew).trans hb1
        have HG1 : Hid (Gr w1 w.heap.size v1 (cs ++ [d0, d1])) := hG1
        clear hG1 hb1
        go_wp2_with fail
        go_roundw
        case rel => exact ⟨k + 1, _, by omega, by go_num, HS, HG1, hb2⟩
        case measure => simp [intOf]; omega
    · obtain rfl : k = la := by omega
      obtain ⟨i1, i2, i3⟩ := hI.out
      rw [List.take_of_length_le (by omega)] at i3
      have hown := gr_own hG.out
      obtain ⟨aa, cap, hv, hcap, hsl⟩ := hG.out.sl i2.up
      have hu := usedN_le cs
      have hle : cs.length ≤ 2 * k := by omega
      rw [hv] at hown
      have HOWN : Hid (∀ x : Nat, x ≠ 0 → x = cs.length → ∃ g cur, aa = some ⟨g, 0, none⟩ ∧ w.heap.size ≤ g ∧ wr.heap[g]? = some (.cells cur 36 (0, 0))) := hown aa cap rfl
      rw [hv]
      clear hG hv i1 hown
      go_wp2_with fail
      refine (cut3_any aa cs.length cap cs _ hsl (by omega) hcap).mono ?_
      rintro e w2 ⟨rfl, rfl⟩
      go_wp2_with fail
      go_ret
      exact ⟨aa, usedN cs, cap, cs.take (usedN cs), rfl, by omega, by omega, hsl.take hu, i2.take _, usedN_take cs (Nat.le_refl _), by rw [H.num_take_used cs (Nat.le_refl _)]; exact i3, fun h0 => HOWN.out cs.length (by omega) rfl, hb⟩
set_option maxHeartbeats 1000000 in
theorem limbs3 (a : Option Addr) (m ca : Nat) (ds : List Int) (w : World) (h : Sl w a m ds) (hd : H.Limbs ds) (hl : m ≤ 17000000000000) :
    Calls Tryz.prog 60 #[.slice a m ca] w fun e w' => LRes w w' e (H.num ds) m := by
  have hz := h.1
  have HSL : Hid (Sl w a m ds) := h
  clear h
  go_enter Tryz.func60, Tryz.ntmps60
  go_wp2_with fail
  go_loopw [3, 4] (fun v i wr => ∃ (k : Nat) (cs : List Int), i = .int .i64 (2 * (k : Int)) ∧ 2 * k ≤ m + 1 ∧ Hid (LmInv ds cs k) ∧ Hid (Gr wr w.heap.size v cs) ∧ Below w.heap.size w wr) (fun _ i _ => m + 1 - (intOf i).toNat)
  case atStart => exact ⟨0, [], rfl, by omega, ⟨rfl, Limbs.nil, rfl⟩, Gr.nil _ _, Below.refl _ _⟩
  case round =>
    obtain ⟨k, cs, rfl, hk, hI, hG, hb⟩ := hrel
    by_cases hlt : 2 * k < m
    · have hs := HSL.out.below hb (Nat.le_refl _)
      obtain ⟨b, off, rfl, hcell⟩ := hs.2.2 (by omega)
      have hcx := hcell (2 * k) hlt
      have hstep := lm_step hd hI.out
      have b1 := hd.getD (2 * k); have b2 := hd.getD (2 * k + 1)
      have hcl : cs.length ≤ k := by have := hI.out.1; omega
      have hbs := hb.size
      have ek : (2 * (k : Int)).toNat = 2 * k := by omega
      have ek1 : (2 * (k : Int) + 1).toNat = 2 * k + 1 := by omega
      obtain ⟨x, hx⟩ : ∃ x, ds.getD (2 * k) 0 = x := ⟨_, rfl⟩
      obtain ⟨y, hy⟩ : ∃ y, ds.getD (2 * k + 1) 0 = y := ⟨_, rfl⟩
      rw [hx] at hcx hstep b1
      rw [hy] at hstep b2
      obtain ⟨x1, x2⟩ := b1; obtain ⟨y1, y2⟩ := b2
      by_cases hlt2 : 2 * k + 1 < m
      · have hcy := hcell (2 * k + 1) hlt2
        rw [hy] at hcy
        have HS : Hid (LmInv ds (cs ++ [x + 4294967296 * y]) (k + 1)) := hstep
        have HSZ : Hid (w.heap.size ≤ (wr.alloc (.cells (row [x + 4294967296 * y]).toArray 36)).heap.size) := by show _ ≤ _; simp; omega
        have q1 : (2 * (k : Int)) < m := by omega
        have q2 : (2 * (k : Int)) + 1 < m := by omega
        clear hs hcell hx hy hstep
        go_wp2_with (at_builtin; refine wpList_app rfl (.tmp 29) (.tmp 31) rfl w.heap.size u3 cs rfl (hG.out.alloc _) wr.heap.size 1 1 [x + 4294967296 * y] rfl rfl (heap_alloc_new _ _) (by omega) HSZ.out ?_; intro v1 w1 hG1 hb1)
        have hb2 : Below w.heap.size w w1 := (hb.alloc hbs _).trans hb1
        clear hb1
        go_wp2_with fail
        go_roundw
        case rel => exact ⟨k + 1, _, by rw [show 2 * ((k + 1 : Nat) : Int) = 2 * (k : Int) + 2 by omega], by omega, HS, hG1, hb2⟩
        case measure => simp [intOf]; omega
      · have hy0 : y = 0 := by rw [← hy, List.getD_eq_getElem?_getD, List.getElem?_eq_none (by omega)]; rfl
        rw [hy0, Int.mul_zero, Int.add_zero] at hstep
        have HS : Hid (LmInv ds (cs ++ [x]) (k + 1)) := hstep
        have HSZ : Hid (w.heap.size ≤ (wr.alloc (.cells (row [x]).toArray 36)).heap.size) := by show _ ≤ _; simp; omega
        have q1 : (2 * (k : Int)) < m := by omega
        have q2 : ¬ (2 * (k : Int)) + 1 < m := by omega
        clear hs hcell hx hy hstep hy0
        go_wp2_with (at_builtin; refine wpList_app rfl (.tmp 29) (.tmp 31) rfl w.heap.size u3 cs rfl (hG.out.alloc _) wr.heap.size 1 1 [x] rfl rfl (heap_alloc_new _ _) (by omega) HSZ.out ?_; intro v1 w1 hG1 hb1)
        have hb2 : Below w.heap.size w w1 := (hb.alloc hbs _).trans hb1
        clear hb1
        go_wp2_with fail
        go_roundw
        case rel => exact ⟨k + 1, _, by rw [show 2 * ((k + 1 : Nat) : Int) = 2 * (k : Int) + 2 by omega], by omega, HS, hG1, hb2⟩
        case measure => simp [intOf]; omega
    · obtain ⟨i1, i2, i3⟩ := hI.out
      have et : ds.take (2 * k) = ds := List.take_of_length_le (by omega)
      rw [et] at i3
      obtain ⟨aa, cap, gm, hv, hcap, hsl, -, hnil, -⟩ := hG.out.parts i2
      have hu := usedN_le cs
      have hle : cs.length ≤ m := by omega
      have q1 : ¬ (2 * (k : Int)) < m := by omega
      rw [hv]
      clear hG hv i1 et
      go_wp2_with fail
      refine (rtrim_any aa cs.length cap cs _ hsl hnil (by omega) hcap).mono ?_
      rintro e w2 ⟨a2, c2, rfl, s2, hc2, b2⟩
      go_wp2_with fail
      go_ret
      exact ⟨a2, usedN cs, c2, cs.take (usedN cs), rfl, hc2, by omega, s2, usedN_take cs (Nat.le_refl _), by rw [num_take_used cs (Nat.le_refl _)]; exact i3, step hb b2⟩

end Go.Proofs.YtfmllkaajopfhaaGreatDoor
namespace Go.Proofs.YtfmllkaajopfhaaGreatDoor
open Go.RowKit Go.Shelf
set_option linter.unusedVariables false

set_option maxHeartbeats 2000000 in
theorem onto_one (g cap : Nat) (p : Int) (cur : Array Value) (w : World) (h1 : 1 ≤ p) (h2 : p < 4294967296) (hg : w.heap[g]? = some (.cells cur 36 (0, 0))) (h0 : w.cell? ⟨g, 0, none⟩ = some (.int .u64 1)) :
    Calls Tryz.prog 59 #[.slice (some ⟨g, 0, none⟩) 1 cap, .int .u64 p, .int .u64 0] w fun e w' => e = .returned (.slice (some ⟨g, 0, none⟩) 1 cap) ∧ w' = w.setCell ⟨g, 0, none⟩ (.int .u64 p) := by
  have w1 : IntKind.u64.wrap p = p := by rw [IntKind.wrap_u64]; omega
  have m1 : p.tmod 4294967296 = p := by rw [Int.tmod_eq_emod_of_nonneg (by omega)]; omega
  have d1 : p.tdiv 4294967296 = 0 := by rw [Int.tdiv_eq_ediv_of_nonneg (by omega)]; omega
  have fz : w.frozen? ⟨g, 0, none⟩ = false := by simp [World.frozen?, hg]
  have lt : g < w.heap.size := by
    rcases Nat.lt_or_ge g w.heap.size with h | h
    · exact h
    · rw [Array.getElem?_eq_none h] at hg; cases hg
  go_enter Tryz.func59, Tryz.ntmps59
  go_wp2_with fail
  refine wp_loop_rounds 2 ?_
  rw [rounds_succ]
  go_wp2_with fail
  rw [rounds_succ]
  go_wp2_with fail
  go_ret
  exact ⟨rfl, rfl⟩
theorem one_half : H.Limbs [1] := fun z hz => by rw [List.mem_singleton.1 hz]; exact ⟨by decide, by decide⟩
theorem half_of {q : Int} (h : 1 ≤ q ∧ q < 4294967296) : H.Limbs [q] := fun z hz => by rw [List.mem_singleton.1 hz]; exact ⟨by omega, by omega⟩
theorem pow9 {i : Nat} (h : i ≤ 9) : (1 : Int) ≤ 10 ^ i ∧ (10 : Int) ^ i ≤ 1000000000 := by
  match i, h with
  | 0, _ | 1, _ | 2, _ | 3, _ | 4, _ | 5, _ | 6, _ | 7, _ | 8, _ | 9, _ => decide
theorem one_digits {a : Option Addr} {m : Nat} {ds : List Int} {w : World} (hs : Sl w a m ds) (hL : H.Limbs ds) (hu : usedN ds = m) (hm : m ≤ 2 * 1) (hN : H.num ds = num [1]) : ds = [1] ∧ m = 1 := by
  have hl := hs.1
  have e1 : num [1] = 1 := by decide
  rw [e1] at hN
  match ds, hl, hL, hu, hN with
  | [], _, _, _, hN => simp [H.num] at hN
  | [x], hl, _, _, hN =>
    have : x = 1 := by simpa [H.num] using hN
    subst this
    exact ⟨rfl, by simpa using hl.symm⟩
  | [x, y], hl, hL, hu, hN =>
    have bx := hL.getD 0
    have by' := hL.getD 1
    simp only [List.getD_cons_zero, List.getD_cons_succ] at bx by'
    simp only [H.num] at hN
    have y0 : y = 0 := by omega
    subst y0
    have := usedN_eq (zs := [x, 0]) (u := 1) (by simp) (fun i h1 h2 => by
      have : i = 1 := by simp at h2; omega
      subst this; rfl) (by right; simp; omega)
    simp at hl
    omega
  | x :: y :: z :: t, hl, _, _, _ => simp at hl; omega
set_option maxHeartbeats 2000000 in
theorem scale_one (a : Addr) (ca k : Nat) (hk : k ≤ 9) (w : World) (h : Sl w (some a) 1 [1]) :
    Calls Tryz.prog 38 #[.slice (some a) 1 ca, .int .i64 k] w fun e w' => ∃ a' m c zs, e = .returned (.tuple #[.slice a' m c, .int .i64 0]) ∧ m ≤ c ∧ m ≤ 1 ∧ Sl w' a' m zs ∧ usedN zs = m ∧ num zs = 10 ^ k ∧ Below w.heap.size w w' := by
  have g0 : decide ((k : Int) < 0) = false := by rw [decide_eq_false_iff_not]; omega
  go_enter Tryz.func38, Tryz.ntmps38
  go_wp2_with fail
  refine (halves3 (some a) 1 ca [1] _ h (by omega)).mono ?_
  rintro e x1 ⟨a1, m1, c1_, ds, rfl, hc, hm, hs, hL, hu, hN, hO, hb⟩
  obtain ⟨rfl, rfl⟩ := one_digits hs hL hu hm hN
  obtain ⟨g, cur, rfl, hB, hg⟩ := hO (by decide)
  have h0 : x1.cell? ⟨g, 0, none⟩ = some (.int .u64 1) := by
    obtain ⟨b, o, e, hcell⟩ := hs.2.2 (by decide)
    cases e
    exact hcell 0 (by decide)
  have B1 : Below w.heap.size w x1 := hb
  clear hb
  by_cases k0 : k = 0
  · subst k0
    clear hO hN hu hL hm
    go_wp2_with fail
    refine wp_loop_rounds 1 ?_
    rw [rounds_succ]
    go_wp2_with fail
    refine (limbs3 (some ⟨g, 0, none⟩) 1 c1_ [1] _ hs one_half (by omega)).mono ?_
    rintro e x2 ⟨a2, m2, c2, zs, rfl, hc2, hm2, hs2, hu2, hn2, hb2⟩
    go_wp2_with fail
    go_ret2
    exact ⟨a2, m2, c2, zs, rfl, hc2, hm2, hs2, hu2, by rw [hn2]; decide, step B1 hb2⟩
  · have g1 : decide ((0 : Int) < (k : Int)) = true := by rw [decide_eq_true_iff]; omega
    have mn : min (k : Int) 9 = (k : Int) := by omega
    have HK : Hid (k ≤ 9) := hk
    clear hO hN hu hL hm
    go_wp2_with fail
    refine wp_loop_rounds 2 ?_
    rw [rounds_succ]
    go_wp2_with fail
    go_loop [8, 9] (fun sp si => ∃ (i : Nat) (q : Int), sp = .int .u64 q ∧ si = .int .i64 i ∧ i ≤ k ∧ Hid (q = 10 ^ i)) (fun _ si => k - (intOf si).toNat)
    case atStart => exact ⟨0, 1, rfl, rfl, by omega, by show _ = _; decide⟩
    case round =>
      obtain ⟨i, q, rfl, rfl, hi, HQ⟩ := hrel
      have hb9 := pow9 (i := i) (by have := HK.out; omega)
      rw [← HQ.out] at hb9
      obtain ⟨q1, q2⟩ := hb9
      by_cases hlt : i < k
      · have c1 : decide ((i : Int) < (k : Int)) = true := by rw [decide_eq_true_iff]; omega
        have wq : IntKind.u64.wrap (10 * q) = 10 * q := by rw [IntKind.wrap_u64]; omega
        go_wp2_with fail
        go_round
        case rel => exact ⟨i + 1, 10 * q, rfl, by go_num, by omega, by show _ = _; rw [HQ.out, Int.pow_succ]; omega⟩
        case measure => simp [intOf]; omega
      · obtain rfl : i = k := by omega
        have c1 : decide ((i : Int) < (i : Int)) = false := by rw [decide_eq_false_iff_not]; omega
        have ws : IntKind.i64.wrap ((i : Int) - (i : Int)) = 0 := by rw [Int.sub_self]; decide
        have HQ1 : Hid (1 ≤ q ∧ q < 4294967296) := ⟨q1, by omega⟩
        clear q1 q2
        go_wp2_with fail
        refine (onto_one g c1_ q cur x1 HQ1.out.1 HQ1.out.2 hg h0).mono ?_
        rintro e x2 ⟨rfl, hw⟩
        have B2 : Below w.heap.size w x2 := by rw [hw]; exact B1.setCell hB _
        have hs2 : Sl x2 (some ⟨g, 0, none⟩) 1 [q] := by
          refine ⟨rfl, fun z hz => ?_, fun _ => ⟨g, 0, rfl, fun j hj => ?_⟩⟩
          · rw [List.mem_singleton.1 hz]; have := HQ1.out; exact ⟨by omega, by omega⟩
          · obtain rfl : j = 0 := by omega
            rw [hw]
            exact World.cell?_setCell_same' x1 _ _ (by rw [h0]; rfl)
        clear hw
        go_wp2_with fail
        rw [rounds_succ]
        go_wp2_with fail
        refine (limbs3 (some ⟨g, 0, none⟩) 1 c1_ [q] _ hs2 (half_of HQ1.out) (by omega)).mono ?_
        rintro e x3 ⟨a2, m2, c2, zs, rfl, hc2, hm2, hs3, hu2, hn2, hb2⟩
        go_wp2_with fail
        go_ret2
        exact ⟨a2, m2, c2, zs, rfl, hc2, hm2, hs3, hu2, by rw [hn2, ← HQ.out]; simp [H.num], step B2 hb2⟩
theorem ten3 (k : Nat) (hk : k ≤ 9) (w : World) :
    Calls Tryz.prog 23 #[.int .i64 k] w fun e w' => ∃ a' m c zs, e = .returned (.tuple #[.slice a' m c, .int .i64 0]) ∧ m ≤ c ∧ m ≤ 1 ∧ Sl w' a' m zs ∧ usedN zs = m ∧ num zs = 10 ^ k ∧ Below w.heap.size w w' := by
  go_enter Tryz.func23, Tryz.ntmps23
  go_wp2_with fail
  have ho : Own (w.alloc (.cells #[.int .u64 1] 36)) w.heap.size [1] := heap_alloc_new w _
  have hs := ho.sl (fun z hz => by rw [List.mem_singleton.1 hz]; exact ⟨by decide, by decide⟩)
  have B1 : Below w.heap.size w (w.alloc (.cells #[.int .u64 1] 36)) := (Below.refl _ _).alloc (Nat.le_refl _) _
  refine (scale_one ⟨w.heap.size, 0, none⟩ 1 k hk _ hs).mono ?_
  rintro e x1 ⟨a2, m2, c2, zs, rfl, hc2, hm2, hs2, hu2, hn2, hb2⟩
  go_wp2_with fail
  go_ret2
  exact ⟨a2, m2, c2, zs, rfl, hc2, hm2, hs2, hu2, hn2, step B1 hb2⟩
end Go.Proofs.YtfmllkaajopfhaaGreatDoor
namespace Go.Proofs.YtfmllkaajopfhaaGreatDoor
open Go.RowKit Go.Shelf
set_option linter.unusedVariables false

theorem cmp3_mul9 {x y k : Int} (h : 0 < k) : cmp3 (x * k) (y * k) = cmp3 x y := by
  rcases Int.lt_trichotomy x y with g | g | g
  · rw [cmp3_lt g, cmp3_lt (Int.mul_lt_mul_of_pos_right g h)]
  · rw [g, cmp3_eq rfl, cmp3_eq rfl]
  · rw [cmp3_gt g, cmp3_gt (Int.mul_lt_mul_of_pos_right g h)]
theorem mk_num9 {a : Int} {D : Nat} (hD : 0 < D) : (mkRat a D).num * D = a * (mkRat a D).den := by
  have h : mkRat a D = mkRat (mkRat a D).num (mkRat a D).den := (Rat.mkRat_self _).symm
  exact ((Rat.mkRat_eq_iff (Nat.ne_of_gt hD) (mkRat a D).den_nz).1 h).symm
theorem qcmp_mk9 {a b : Int} {D E : Nat} (hD : 0 < D) (hE : 0 < E) : qcmp (mkRat a D) (mkRat b E) = cmp3 (a * E) (b * D) := by
  have h1 := @mk_num9 a D hD
  have h2 := @mk_num9 b E hE
  have p1 := (mkRat a D).den_pos
  have p2 := (mkRat b E).den_pos
  unfold qcmp
  generalize (mkRat a D).num = n1 at *
  generalize (mkRat b E).num = n2 at *
  generalize (mkRat a D).den = d1 at *
  generalize (mkRat b E).den = d2 at *
  have c1 : n1 * (d2 : Int) * ((D : Int) * (E : Int)) = a * (E : Int) * ((d1 : Int) * (d2 : Int)) := by
    rw [show n1 * (d2 : Int) * ((D : Int) * (E : Int)) = (n1 * (D : Int)) * ((d2 : Int) * (E : Int)) by grind, h1]; grind
  have c2 : n2 * (d1 : Int) * ((D : Int) * (E : Int)) = b * (D : Int) * ((d1 : Int) * (d2 : Int)) := by
    rw [show n2 * (d1 : Int) * ((D : Int) * (E : Int)) = (n2 * (E : Int)) * ((d1 : Int) * (D : Int)) by grind, h2]; grind
  rw [← cmp3_mul9 (show (0 : Int) < (D : Int) * (E : Int) from Int.mul_pos (by omega) (by omega)), c1, c2, cmp3_mul9 (Int.mul_pos (by omega) (by omega))]
theorem ten_mk9 (U : Int) (P : Nat) : Rat.divInt U (10 ^ P) = mkRat U (10 ^ P) := by
  rw [show ((10 : Int) ^ P) = ((10 ^ P : Nat) : Int) by simp, Rat.divInt_ofNat]
/-- Below 0, 0, above. -/
def side9 (x : Int) : Int := if x < 0 then -1 else if 0 < x then 1 else 0
/-- The document's order of two decimals. -/
def dcw (U : Int) (P : Nat) (V : Int) (Q : Nat) : Int :=
  if side9 U = side9 V then (if U < 0 then -cmp3 ((U.natAbs : Int) * 10 ^ Q) ((V.natAbs : Int) * 10 ^ P) else cmp3 ((U.natAbs : Int) * 10 ^ Q) ((V.natAbs : Int) * 10 ^ P))
  else if side9 U < side9 V then -1 else 1
theorem qcmp_dcw (U V : Int) (P Q : Nat) : qcmp (Rat.divInt U (10 ^ P)) (Rat.divInt V (10 ^ Q)) = dcw U P V Q := by
  have tp : 0 < 10 ^ P := Nat.pow_pos (by decide)
  have tq : 0 < 10 ^ Q := Nat.pow_pos (by decide)
  rw [ten_mk9, ten_mk9, qcmp_mk9 tp tq]
  have ep : ((10 ^ P : Nat) : Int) = 10 ^ P := by simp
  have eq : ((10 ^ Q : Nat) : Int) = 10 ^ Q := by simp
  have ip : (0 : Int) < 10 ^ P := by rw [← ep]; omega
  have iq : (0 : Int) < 10 ^ Q := by rw [← eq]; omega
  rw [ep, eq]
  unfold dcw
  generalize (10 : Int) ^ P = A at *
  generalize (10 : Int) ^ Q = B at *
  clear ep eq tp tq
  rcases Int.lt_trichotomy U 0 with u | u | u <;> rcases Int.lt_trichotomy V 0 with v | v | v
  · have sU : side9 U = -1 := if_pos u
    have sV : side9 V = -1 := if_pos v
    have xU := Int.mul_neg_of_neg_of_pos u iq
    have xV := Int.mul_neg_of_neg_of_pos v ip
    rw [sU, sV]
    rw [if_pos rfl, if_pos u, Int.ofNat_natAbs_of_nonpos (by omega), Int.ofNat_natAbs_of_nonpos (by omega), ← cmp3_turn, Int.neg_mul, Int.neg_mul]
    rcases Int.lt_trichotomy (U * B) (V * A) with x | x | x
    · rw [cmp3_lt x, cmp3_lt (by omega)]
    · rw [cmp3_eq x, cmp3_eq (by omega)]
    · rw [cmp3_gt x, cmp3_gt (by omega)]
  · have sU : side9 U = -1 := if_pos u
    have sV : side9 V = 0 := by subst v; rfl
    have xU := Int.mul_neg_of_neg_of_pos u iq
    have xV : V * A = 0 := by rw [v, Int.zero_mul]
    rw [sU, sV]
    rw [if_neg (by decide), if_pos (by decide), cmp3_lt (by omega)]
  · have sU : side9 U = -1 := if_pos u
    have sV : side9 V = 1 := by unfold side9; rw [if_neg (by omega), if_pos v]
    have xU := Int.mul_neg_of_neg_of_pos u iq
    have xV := Int.mul_pos v ip
    rw [sU, sV]
    rw [if_neg (by decide), if_pos (by decide), cmp3_lt (by omega)]
  · have sU : side9 U = 0 := by subst u; rfl
    have sV : side9 V = -1 := if_pos v
    have xU : U * B = 0 := by rw [u, Int.zero_mul]
    have xV := Int.mul_neg_of_neg_of_pos v ip
    rw [sU, sV]
    rw [if_neg (by decide), if_neg (by decide), cmp3_gt (by omega)]
  · have sU : side9 U = 0 := by subst u; rfl
    have sV : side9 V = 0 := by subst v; rfl
    have xU : U * B = 0 := by rw [u, Int.zero_mul]
    have xV : V * A = 0 := by rw [v, Int.zero_mul]
    rw [sU, sV]
    subst u; subst v
    simp [cmp3]
  · have sU : side9 U = 0 := by subst u; rfl
    have sV : side9 V = 1 := by unfold side9; rw [if_neg (by omega), if_pos v]
    have xU : U * B = 0 := by rw [u, Int.zero_mul]
    have xV := Int.mul_pos v ip
    rw [sU, sV]
    rw [if_neg (by decide), if_pos (by decide), cmp3_lt (by omega)]
  · have sU : side9 U = 1 := by unfold side9; rw [if_neg (by omega), if_pos u]
    have sV : side9 V = -1 := if_pos v
    have xU := Int.mul_pos u iq
    have xV := Int.mul_neg_of_neg_of_pos v ip
    rw [sU, sV]
    rw [if_neg (by decide), if_neg (by decide), cmp3_gt (by omega)]
  · have sU : side9 U = 1 := by unfold side9; rw [if_neg (by omega), if_pos u]
    have sV : side9 V = 0 := by subst v; rfl
    have xU := Int.mul_pos u iq
    have xV : V * A = 0 := by rw [v, Int.zero_mul]
    rw [sU, sV]
    rw [if_neg (by decide), if_neg (by decide), cmp3_gt (by omega)]
  · have sU : side9 U = 1 := by unfold side9; rw [if_neg (by omega), if_pos u]
    have sV : side9 V = 1 := by unfold side9; rw [if_neg (by omega), if_pos v]
    have xU := Int.mul_pos u iq
    have xV := Int.mul_pos v ip
    rw [sU, sV]
    rw [if_pos rfl, if_neg (by omega), Int.natAbs_of_nonneg (by omega), Int.natAbs_of_nonneg (by omega)]
end Go.Proofs.YtfmllkaajopfhaaGreatDoor
namespace Go.Proofs.YtfmllkaajopfhaaGreatDoor
open Go.RowKit Go.Shelf

def RPrInv (xs ys cs : List Int) (n lb i : Nat) : Prop :=
  cs.length = n ∧ H.Limbs cs ∧ (∀ j, i + lb ≤ j → cs.getD j 0 = 0) ∧ H.num cs = H.num (xs.take i) * H.num ys
def InInv (ys cs : List Int) (n lb i k : Nat) (T x c : Int) : Prop :=
  cs.length = n ∧ H.Limbs cs ∧ (∀ j, i + lb ≤ j → cs.getD j 0 = 0) ∧ H.num cs + c * H.pw (i + k) = T + x * H.num (ys.take k) * H.pw i ∧ 0 ≤ c ∧ c < 4294967296

theorem in_start {xs ys cs : List Int} {n lb i : Nat} (x : Int) (I : RPrInv xs ys cs n lb i) : InInv ys cs n lb i 0 (H.num (xs.take i) * H.num ys) x 0 := by
  obtain ⟨i1, i2, i3, i4⟩ := I
  exact ⟨i1, i2, i3, by rw [i4]; simp [H.num], by omega, by omega⟩
theorem in_word {o x y c : Int} (ho : 0 ≤ o ∧ o < 4294967296) (hx : 0 ≤ x ∧ x < 4294967296) (hy : 0 ≤ y ∧ y < 4294967296) (hc : 0 ≤ c ∧ c < 4294967296) :
    0 ≤ x * y ∧ x * y ≤ 18446744065119617025 ∧ (o + x * y + c) / 4294967296 < 4294967296 := by
  have h1 : 0 ≤ x * y := Int.mul_nonneg hx.1 hy.1
  have h2 : x * y ≤ 4294967295 * y := Int.mul_le_mul_of_nonneg_right (by omega) hy.1
  generalize x * y = p at *
  omega
theorem in_step {ys cs : List Int} {n lb i k : Nat} {T x c : Int} (hx : 0 ≤ x ∧ x < 4294967296) (hy : H.Limbs ys) (hk : k < lb) (hn : i + lb ≤ n) (I : InInv ys cs n lb i k T x c) :
    InInv ys (cs.set (i + k) ((cs.getD (i + k) 0 + x * ys.getD k 0 + c) % 4294967296)) n lb i (k + 1) T x ((cs.getD (i + k) 0 + x * ys.getD k 0 + c) / 4294967296) := by
  obtain ⟨i1, i2, i3, i4, i5, i6⟩ := I
  have b1 := i2.getD (i + k); have b2 := hy.getD k
  obtain ⟨p1, p2, p3⟩ := in_word b1 hx b2 ⟨i5, i6⟩
  refine ⟨by rw [List.length_set]; exact i1, i2.set _ ⟨by omega, by omega⟩, fun j hj => by rw [getD_set_other _ _ _ _ (by omega)]; exact i3 j hj, ?_, by omega, p3⟩
  have hc := H.carry_step (v := (cs.getD (i + k) 0 + x * ys.getD k 0 + c) % 4294967296) (c' := (cs.getD (i + k) 0 + x * ys.getD k 0 + c) / 4294967296) (p := H.pw (i + k)) (s := cs.getD (i + k) 0 + x * ys.getD k 0 + c) (by omega)
  rw [Int.add_mul (cs.getD (i + k) 0 + x * ys.getD k 0), Int.add_mul (cs.getD (i + k) 0)] at hc
  rw [H.num_set _ _ _ (by omega), H.num_take_succ, ← Nat.add_assoc, H.pw, Int.sub_mul, Int.mul_add x, Int.add_mul (x * H.num (ys.take k))]
  have e : x * (ys.getD k 0 * H.pw k) * H.pw i = x * ys.getD k 0 * H.pw (i + k) := by
    rw [H.pw_add, Int.mul_comm (H.pw i), Int.mul_assoc, Int.mul_assoc, Int.mul_assoc]
  rw [e]
  omega
theorem in_end {xs ys cs : List Int} {n lb i : Nat} {c : Int} (hlb : ys.length = lb) (hn : i + lb < n) (I : InInv ys cs n lb i lb (H.num (xs.take i) * H.num ys) (xs.getD i 0) c) : RPrInv xs ys (cs.set (i + lb) c) n lb (i + 1) := by
  obtain ⟨i1, i2, i3, i4, i5, i6⟩ := I
  refine ⟨by rw [List.length_set]; exact i1, i2.set _ ⟨i5, i6⟩, fun j hj => by rw [getD_set_other _ _ _ _ (by omega)]; exact i3 j (by omega), ?_⟩
  have et : ys.take lb = ys := List.take_of_length_le (by omega)
  rw [et] at i4
  rw [H.num_set _ _ _ (by omega), i3 (i + lb) (Nat.le_refl _), Int.sub_zero, H.num_take_succ, Int.add_mul, Int.mul_right_comm (xs.getD i 0)]
  exact i4

set_option maxHeartbeats 2000000 in
theorem rproduct_any (a b : Option Addr) (la ca lb cb : Nat) (xs ys : List Int) (w : World) (ha : Sl w a la xs) (hb : Sl w b lb ys) (hx : H.Limbs xs) (hy : H.Limbs ys) (h1 : la ≤ 8000000000000) (h2 : lb ≤ 8000000000000) :
    Calls Tryz.prog 20 #[.slice a la ca, .slice b lb cb] w fun e w' => DRes w w' e (H.num xs * H.num ys) (la + lb) := by
  have hza := ha.1; have hzb := hb.1
  have hmk := make_row (la + lb) (by omega)
  rw [show ((la + lb : Nat) : Int) = (la : Int) + lb by omega] at hmk
  have I0 : Hid (RPrInv xs ys (List.replicate (la + lb) 0) (la + lb) lb 0) :=
    ⟨by simp, fun z hz => by rw [List.eq_of_mem_replicate hz]; decide, fun j _ => by rw [List.getD_eq_getElem?_getD, List.getElem?_replicate]; split <;> rfl, by rw [H.num_zeros]; simp [H.num]⟩
  have O0 : Hid (Own (w.alloc (.cells (row (List.replicate (la + lb) 0)).toArray 36)) w.heap.size (List.replicate (la + lb) 0)) := heap_alloc_new _ _
  go_enter Tryz.func20, Tryz.ntmps20
  go_wp2_with fail
  clear hmk
  go_loopw [6] (fun ii wr => ∃ (i : Nat) (cs : List Int), ii = .int .i64 i ∧ i ≤ la ∧ Hid (RPrInv xs ys cs (la + lb) lb i) ∧ Hid (Own wr w.heap.size cs) ∧ Below w.heap.size w wr) (fun ii _ => la - (intOf ii).toNat)
  case atStart => exact ⟨0, _, rfl, by omega, I0, O0, (Below.refl _ _).alloc (Nat.le_refl _) _⟩
  case round =>
    obtain ⟨i, cs, rfl, hi, hI, hO, hbl⟩ := hrel
    by_cases hlt : i < la
    · obtain ⟨x, hxx⟩ : ∃ x, xs.getD i 0 = x := ⟨_, rfl⟩
      have hxw := hx.getD i
      rw [hxx] at hxw
      have HXX : Hid (xs.getD i 0 = x) := hxx
      have IN0 : Hid (InInv ys cs (la + lb) lb i 0 (H.num (xs.take i) * H.num ys) x 0) := in_start x hI.out
      obtain ⟨ba, oa, rfl, hca⟩ := ha.2.2 (by omega)
      have hcax := hca i hlt
      rw [hxx] at hcax
      have hba : ba < w.heap.size := by
        rcases Nat.lt_or_ge ba w.heap.size with h' | h'
        · exact h'
        · simp [World.cell?, Array.getElem?_eq_none h'] at hcax
      obtain ⟨wo, hwo⟩ : ∃ wo : World, wo = wr := ⟨_, rfl⟩
      rw [← hwo] at hO hbl
      clear hxx hca
      go_wp2_with fail
      rw [← hwo]
      clear hwo
      go_loopw [7, 8] (fun cc kk wq => ∃ (k : Nat) (c : Int) (ds : List Int), kk = .int .i64 k ∧ cc = .int .u64 c ∧ k ≤ lb ∧ Hid (InInv ys ds (la + lb) lb i k (H.num (xs.take i) * H.num ys) x c) ∧ Hid (Own wq w.heap.size ds) ∧ Below w.heap.size w wq) (fun _ kk _ => lb - (intOf kk).toNat)
      case atStart => exact ⟨0, 0, cs, rfl, rfl, by omega, IN0, hO, hbl⟩
      case round =>
        obtain ⟨k, c, ds, rfl, rfl, hk, hJ, hP, hbq⟩ := hrel
        by_cases hkl : k < lb
        · obtain ⟨bb, ob, rfl, hcb⟩ := hb.2.2 (by omega)
          have hcbx := hcb k hkl
          have hbb : bb < w.heap.size := by
            rcases Nat.lt_or_ge bb w.heap.size with h' | h'
            · exact h'
            · simp [World.cell?, Array.getElem?_eq_none h'] at hcbx
          obtain ⟨y, hyy⟩ : ∃ y, ys.getD k 0 = y := ⟨_, rfl⟩
          have hyw := hy.getD k
          have hstep := in_step hxw hy hkl (by omega) hJ.out
          have hcx := hP.out.cell (i + k) (by rw [hJ.out.1]; omega)
          have hfx := hP.out.frozen (i + k)
          have how := hJ.out.2.1.getD (i + k)
          have hc0 := hJ.out.2.2.2.2.1
          have hc1 := hJ.out.2.2.2.2.2
          obtain ⟨o, hoo⟩ : ∃ o, ds.getD (i + k) 0 = o := ⟨_, rfl⟩
          rw [hyy] at hcbx hyw hstep
          rw [hoo] at hcx how hstep
          obtain ⟨p1, p2, p3⟩ := in_word how hxw hyw ⟨hc0, hc1⟩
          obtain ⟨p, hp⟩ : ∃ p, x * y = p := ⟨_, rfl⟩
          rw [hp] at p1 p2 p3 hstep
          obtain ⟨o1, o2⟩ := how
          have ca1 : wr.cell? ⟨ba, oa + i, none⟩ = some (.int .u64 x) := (hbq.cell (p := ⟨ba, oa + i, none⟩) hba).trans hcax
          have cb1 : wr.cell? ⟨bb, ob + k, none⟩ = some (.int .u64 y) := (hbq.cell (p := ⟨bb, ob + k, none⟩) hbb).trans hcbx
          obtain ⟨t, ht⟩ : ∃ t, o + p + c = t := ⟨_, rfl⟩
          rw [ht] at hstep p3
          have t0 : 0 ≤ t := by omega
          have t1 : t < 18446744073709551616 := by omega
          have m0 : IntKind.i64.wrap ((i : Int) + k) = i + k := by rw [IntKind.wrap_i64]; omega
          have m1 : IntKind.u64.wrap (x * y) = p := by rw [hp, IntKind.wrap_u64]; omega
          have m2 : IntKind.u64.wrap (p + o) = p + o := by rw [IntKind.wrap_u64]; omega
          have m3 : IntKind.u64.wrap (p + o + c) = t := by rw [IntKind.wrap_u64]; omega
          have m4 : ((i : Int) + k).toNat = i + k := by omega
          have m5 : (i : Int) + k < la + lb := by omega
          have HS : Hid (InInv ys (ds.set (i + k) (t % 4294967296)) (la + lb) lb i (k + 1) (H.num (xs.take i) * H.num ys) x (t / 4294967296)) := hstep
          clear hstep hyy hoo hp ht hcb hcbx hcax hyw p3
          go_wp2_with fail
          go_quiet (fail)
          clear m1 m2 m3
          go_wp2_with fail
          go_roundw
          case rel => exact ⟨k + 1, _, _, by go_num, rfl, by omega, HS, Own.set (w := wr.drewN nq) hP.out (i + k) _, (below_drewN hbq nq).setCell (Nat.le_refl _) _⟩
          case measure => simp [intOf]; omega
        · obtain rfl : k = lb := by omega
          have hJ' := hJ.out
          rw [← HXX.out] at hJ'
          have HE : Hid (RPrInv xs ys (ds.set (i + k) c) (la + k) k (i + 1)) := in_end hzb (by omega) hJ'
          have hcx := hP.out.cell (i + k) (by rw [hJ.out.1]; omega)
          have hfx := hP.out.frozen (i + k)
          have m4 : ((i : Int) + k).toNat = i + k := by omega
          have m5 : (i : Int) + k < la + k := by omega
          clear hJ' hcax
          go_wp2_with fail
          go_roundw
          case rel => exact ⟨i + 1, _, by go_num, by omega, HE, Own.set hP.out (i + k) _, hbq.setCell (Nat.le_refl _) _⟩
          case measure => simp [intOf]; omega
    · obtain rfl : i = la := by omega
      obtain ⟨i1, i2, i3, i4⟩ := hI.out
      have et : xs.take i = xs := List.take_of_length_le (by omega)
      rw [et] at i4
      have hsl := hO.out.sl i2.up
      rw [i1] at hsl
      have hu := usedN_le cs
      have hle : usedN cs ≤ i + lb := by omega
      clear i1 et
      go_wp2_with fail
      refine (cutr_any (some ⟨w.heap.size, 0, none⟩) (i + lb) (i + lb) cs _ hsl (by omega) (Nat.le_refl _)).mono ?_
      rintro e w2 ⟨rfl, rfl⟩
      go_wp2_with fail
      go_ret
      exact ⟨_, usedN cs, i + lb, cs.take (usedN cs), rfl, hle, hle, hsl.take hle, i2.take _, usedN_take cs (Nat.le_refl _), by rw [H.num_take_used cs (Nat.le_refl _)]; exact i4, hbl⟩

theorem rmul_any (a0 a1 : Option Addr) (l0 k0 l1 k1 : Nat) (z0 z1 : List Int) (w : World) (ha0 : Sl w a0 l0 z0) (hb0 : Sl w a1 l1 z1) (h1 : l0 ≤ 2000000000000) (h2 : l1 ≤ 2000000000000) :
    Calls Tryz.prog 9 #[.slice a0 l0 k0, .slice a1 l1 k1] w fun e w' => LRes w w' e (num z0 * num z1) (2 * l0 + 2 * l1) := by
  go_enter Tryz.func9, Tryz.ntmps9
  go_wp2_with fail
  refine (digits_any a0 l0 k0 z0 w ha0 (by omega)).mono ?_
  rintro e wa ⟨a, la, ca, xs, rfl, -, hla, ha, hx, ux, nx, ba⟩
  go_wp2_with fail
  refine (digits_any a1 l1 k1 z1 wa (hb0.below ba (Nat.le_refl _)) (by omega)).mono ?_
  rintro e wb ⟨b, lb, cb, ys, rfl, -, hlb, hb, hy, uy, ny, bb⟩
  replace ha := ha.below bb (Nat.le_refl _)
  have HB : Hid (Below w.heap.size w wb) := step ba bb
  go_wp2_with fail
  refine (rproduct_any a b la ca lb cb xs ys wb ha hb hx hy (by omega) (by omega)).mono ?_
  rintro e wd ⟨ad, md, cd, ds, rfl, -, hmd, sd, hd, ud, nd, bd⟩
  go_wp2_with fail
  refine (limbsr_any ad md cd ds wd sd hd (by omega)).mono ?_
  rintro e w4 ⟨a4, m4, c4, z4, rfl, k4, k5, s4, u4, n4, b4⟩
  go_wp2_with fail
  go_ret
  exact ⟨a4, m4, c4, z4, rfl, k4, by omega, s4, u4, by rw [n4, nd, nx, ny], step (step HB.out bd) b4⟩
end Go.Proofs.YtfmllkaajopfhaaGreatDoor
namespace Go.Proofs.YtfmllkaajopfhaaGreatDoor
open Go.RowKit Go.Shelf
set_option linter.unusedVariables false

theorem rside6 (x : Int) (w : World) : Calls Tryz.prog 8 #[.int .i64 x] w fun e w' => e = .returned (.int .i64 (side9 x)) ∧ w' = w := by
  unfold side9
  by_cases h1 : x < 0
  · rw [if_pos h1]
    go_enter Tryz.func8, Tryz.ntmps8
    go_wp2_with fail
    go_ret
    exact ⟨rfl, rfl⟩
  · rw [if_neg h1]
    by_cases h2 : 0 < x
    · rw [if_pos h2]
      go_enter Tryz.func8, Tryz.ntmps8
      go_wp2_with fail
      go_ret
      exact ⟨rfl, rfl⟩
    · rw [if_neg h2]
      go_enter Tryz.func8, Tryz.ntmps8
      go_wp2_with fail
      go_ret
      exact ⟨rfl, rfl⟩
theorem rsize6 (x : Int) (h1 : -9223372036854775808 ≤ x) (h2 : x ≤ 9223372036854775807) (w : World) : Calls Tryz.prog 11 #[.int .i64 x] w fun e w' => e = .returned (.int .u64 (x.natAbs : Int)) ∧ w' = w := by
  obtain ⟨y, hy⟩ : ∃ y, x.natAbs = y := ⟨_, rfl⟩
  rw [hy]
  by_cases g : x < 0
  · have g1 : decide (x < 0) = true := decide_eq_true g
    have e1 : IntKind.u64.wrap x = x + 18446744073709551616 := by rw [IntKind.wrap_u64]; omega
    have e2 : IntKind.u64.wrap (-(x + 18446744073709551616)) = (y : Int) := by rw [IntKind.wrap_u64]; omega
    clear hy h1 h2
    go_enter Tryz.func11, Tryz.ntmps11
    go_wp2_with fail
    go_ret
    exact ⟨rfl, rfl⟩
  · have g1 : decide (x < 0) = false := decide_eq_false g
    have e1 : IntKind.u64.wrap x = (y : Int) := by rw [IntKind.wrap_u64]; omega
    clear hy h1 h2
    go_enter Tryz.func11, Tryz.ntmps11
    go_wp2_with fail
    go_ret
    exact ⟨rfl, rfl⟩
theorem rten6 (k : Nat) (hk : k ≤ 9) (w : World) :
    Calls Tryz.prog 12 #[.int .i64 k] w fun e w' => ∃ a' m c zs, e = .returned (.slice a' m c) ∧ m ≤ c ∧ m ≤ 1 ∧ Sl w' a' m zs ∧ usedN zs = m ∧ num zs = 10 ^ k ∧ Below w.heap.size w w' := by
  go_enter Tryz.func12, Tryz.ntmps12
  go_wp2_with fail
  refine (ten3 k hk _).mono ?_
  rintro e x1 ⟨a2, m2, c2, zs, rfl, hc2, hm2, hs2, hu2, hn2, hb2⟩
  go_wp2_with fail
  go_ret
  exact ⟨a2, m2, c2, zs, rfl, hc2, hm2, hs2, hu2, hn2, hb2⟩
theorem rcheck6_ok (U P : Int) (h : CanI U P) (w : World) : Calls Tryz.prog 7 #[.agg #[.int .i64 U, .int .i64 P]] w fun e w' => e = .returned (.int .i64 0) ∧ Below w.heap.size w w' := by
  obtain ⟨h0, h9, h3⟩ := h
  have g1 : decide (P < 0) = false := decide_eq_false (by omega)
  have g2 : decide (9 < P) = false := decide_eq_false (by omega)
  by_cases hp : 0 < P
  ·
    obtain ⟨m, hm⟩ : ∃ m, U.tmod 10 = m := ⟨_, rfl⟩
    have hm0 : (m == 0) = false := by have := h3 hp; rw [hm] at this; simpa using this
    have g3 : decide (0 < P) = true := decide_eq_true hp
    go_enter Tryz.func7, Tryz.ntmps7
    go_wp2_with fail
    go_ret
    exact ⟨rfl, (Below.refl _ _).alloc (Nat.le_refl _) _⟩
  ·
    have g3 : decide (0 < P) = false := decide_eq_false hp
    go_enter Tryz.func7, Tryz.ntmps7
    go_wp2_with fail
    go_ret
    exact ⟨rfl, (Below.refl _ _).alloc (Nat.le_refl _) _⟩
theorem rcheck6_no (U P : Int) (h : ¬ CanI U P) (w : World) : Calls Tryz.prog 7 #[.agg #[.int .i64 U, .int .i64 P]] w fun e w' => e = .returned (.int .i64 60) ∧ Below w.heap.size w w' := by
  by_cases a1 : P < 0
  ·
    have g1 : decide (P < 0) = true := decide_eq_true a1
    go_enter Tryz.func7, Tryz.ntmps7
    go_wp2_with fail
    go_ret
    exact ⟨rfl, (Below.refl _ _).alloc (Nat.le_refl _) _⟩
  ·
    have g1 : decide (P < 0) = false := decide_eq_false a1
    by_cases a2 : 9 < P
    ·
      have g2 : decide (9 < P) = true := decide_eq_true a2
      go_enter Tryz.func7, Tryz.ntmps7
      go_wp2_with fail
      go_ret
      exact ⟨rfl, (Below.refl _ _).alloc (Nat.le_refl _) _⟩
    ·
      have g2 : decide (9 < P) = false := decide_eq_false a2
      have hp : 0 < P := by
        rcases Int.lt_or_le 0 P with h' | h'
        · exact h'
        · exact absurd ⟨by omega, by omega, fun hh => by omega⟩ h
      have hm : U.tmod 10 = 0 := by
        rcases Decidable.em (U.tmod 10 = 0) with h' | h'
        · exact h'
        · exact absurd ⟨by omega, by omega, fun _ => h'⟩ h
      have g3 : decide (0 < P) = true := decide_eq_true hp
      go_enter Tryz.func7, Tryz.ntmps7
      go_wp2_with fail
      go_ret
      exact ⟨rfl, (Below.refl _ _).alloc (Nat.le_refl _) _⟩
set_option maxHeartbeats 4000000 in
theorem dcmp_no (U P V Q : Int) (h1 : -9223372036854775808 ≤ U) (h2 : U ≤ 9223372036854775807) (hn : ¬ (CanI U P ∧ CanI V Q)) (w : World) (hT : Tn w) :
    Calls Tryz.prog 5 #[.agg #[.int .i64 U, .int .i64 P], .agg #[.int .i64 V, .int .i64 Q]] w fun e W' => e = .returned (.tuple #[.int .i64 0, .int .i64 60]) ∧ Below w.heap.size w W' := by
  have HT : Hid (Tn w) := hT
  clear hT
  by_cases hc : CanI U P
  ·
    have hd : ¬ CanI V Q := fun h => hn ⟨hc, h⟩
    obtain ⟨p, rfl⟩ := Int.eq_ofNat_of_zero_le hc.1
    have hcan := (canI_iff U p).1 hc
    clear hn hc
    have B0 : Below w.heap.size w w := Below.refl _ _
    go_enter Tryz.func5, Tryz.ntmps5
    go_wp2_with fail
    refine ent2 w _ _ _ _ (Q := fun W => Calls Tryz.prog _ _ W _) ?_
    intro x1 hb hs_x1 V0 V1
    replace B0 := step B0 hb
    clear hb hs_x1
    refine (rat_ok U p h1 h2 hcan _ (HT.out.to B0)).mono ?_
    rintro e x2 ⟨s, a, l, c, z, b, m, d, y, rfl, hx, hb⟩
    replace V0 := Va.after hb V0
    replace V1 := Va.after hb V1
    replace B0 := step B0 hb
    clear hb
    have c_V0 := V0.c0
    have f0_V0 := V0.frozen 0
    have d_V0 := V0.c1
    have f1_V0 := V0.frozen 1
    have l_V0 := V0.lt
    have m_V0 := Nat.le_of_lt l_V0
    have c_V1 := V1.c0
    have f0_V1 := V1.frozen 0
    have d_V1 := V1.c1
    have f1_V1 := V1.frozen 1
    have l_V1 := V1.lt
    have m_V1 := Nat.le_of_lt l_V1
    go_wp2_with fail
    refine ent1 x2 _ _ (Q := fun W => Calls Tryz.prog _ _ W _) ?_
    intro x3 hb hs_x3 X0
    replace V0 := Va.after hb V0
    replace V1 := Va.after hb V1
    replace hx := Rt.after hb hx
    replace B0 := step B0 hb
    clear hb hs_x3
    refine (rat_no V Q hd _).mono ?_
    rintro e x4 ⟨rfl, hb⟩
    replace V0 := Va.after hb V0
    replace V1 := Va.after hb V1
    replace X0 := Va.after hb X0
    replace hx := Rt.after hb hx
    replace B0 := step B0 hb
    clear hb
    clear c_V0 f0_V0 d_V0 f1_V0 l_V0 m_V0 c_V1 f0_V1 d_V1 f1_V1 l_V1 m_V1
    have c_X0 := X0.d0
    have f0_X0 := X0.frozen 0
    have d_X0 := X0.d1
    have f1_X0 := X0.frozen 1
    have e_X0 := X0.d2
    have f2_X0 := X0.frozen 2
    have l_X0 := X0.lt
    have m_X0 := Nat.le_of_lt l_X0
    go_wp2_with fail
    go_ret2
    exact ⟨rfl, by first | exact B0 | (exact B0.alloc (by have := B0.size; omega) _)⟩
  ·
    have B0 : Below w.heap.size w w := Below.refl _ _
    go_enter Tryz.func5, Tryz.ntmps5
    go_wp2_with fail
    refine ent2 w _ _ _ _ (Q := fun W => Calls Tryz.prog _ _ W _) ?_
    intro x1 hb hs_x1 V0 V1
    replace B0 := step B0 hb
    clear hb hs_x1
    refine (rat_no U P hc _).mono ?_
    rintro e x2 ⟨rfl, hb⟩
    replace V0 := Va.after hb V0
    replace V1 := Va.after hb V1
    replace B0 := step B0 hb
    clear hb
    have c_V0 := V0.c0
    have f0_V0 := V0.frozen 0
    have d_V0 := V0.c1
    have f1_V0 := V0.frozen 1
    have l_V0 := V0.lt
    have m_V0 := Nat.le_of_lt l_V0
    have c_V1 := V1.c0
    have f0_V1 := V1.frozen 0
    have d_V1 := V1.c1
    have f1_V1 := V1.frozen 1
    have l_V1 := V1.lt
    have m_V1 := Nat.le_of_lt l_V1
    go_wp2_with fail
    go_ret2
    exact ⟨rfl, by first | exact B0 | (exact B0.alloc (by have := B0.size; omega) _)⟩
set_option maxHeartbeats 4000000 in
theorem rcmp6_ok (U V : Int) (P Q : Nat) (h1 : -9223372036854775808 ≤ U) (h2 : U ≤ 9223372036854775807) (hc : Can U P) (g1 : -9223372036854775808 ≤ V) (g2 : V ≤ 9223372036854775807) (hd : Can V Q) (w : World) :
    Calls Tryz.prog 4 #[.agg #[.int .i64 U, .int .i64 P], .agg #[.int .i64 V, .int .i64 Q]] w fun e W' => e = .returned (.tuple #[.int .i64 (dcw U P V Q), .int .i64 0]) ∧ Below w.heap.size w W' := by
  have HC : Hid (CanI U P ∧ CanI V Q) := ⟨(canI_iff U P).2 hc, (canI_iff V Q).2 hd⟩
  have HPQ : Hid (P ≤ 9 ∧ Q ≤ 9) := ⟨hc.1, hd.1⟩
  have HB : Hid ((-9223372036854775808 ≤ U ∧ U ≤ 9223372036854775807) ∧ (-9223372036854775808 ≤ V ∧ V ≤ 9223372036854775807)) := ⟨⟨h1, h2⟩, g1, g2⟩
  clear hc hd h1 h2 g1 g2
  obtain ⟨su, hsu⟩ : ∃ su, side9 U = su := ⟨_, rfl⟩
  obtain ⟨sv, hsv⟩ : ∃ sv, side9 V = sv := ⟨_, rfl⟩
  obtain ⟨cc, hcc⟩ : ∃ cc, cmp3 ((U.natAbs : Int) * 10 ^ Q) ((V.natAbs : Int) * 10 ^ P) = cc := ⟨_, rfl⟩
  have hbd := cmp3_bd ((U.natAbs : Int) * 10 ^ Q) ((V.natAbs : Int) * 10 ^ P)
  rw [hcc] at hbd
  have HS : Hid (side9 U = su ∧ side9 V = sv) := ⟨hsu, hsv⟩
  have HCC : Hid (cmp3 ((U.natAbs : Int) * 10 ^ Q) ((V.natAbs : Int) * 10 ^ P) = cc) := hcc
  have hE : dcw U P V Q = if su = sv then (if U < 0 then -cc else cc) else if su < sv then -1 else 1 := by unfold dcw; rw [hsu, hsv, hcc]
  obtain ⟨dd, hdd⟩ : ∃ dd, dcw U P V Q = dd := ⟨_, rfl⟩
  rw [hdd] at hE
  rw [hdd]
  have HE : Hid (dd = if su = sv then (if U < 0 then -cc else cc) else if su < sv then -1 else 1) := hE
  have wn : IntKind.i64.wrap (-cc) = -cc := by rw [IntKind.wrap_i64]; omega
  clear hsu hsv hcc hbd hE hdd
  have B0 : Below w.heap.size w w := Below.refl _ _
  go_enter Tryz.func4, Tryz.ntmps4
  go_wp2_with fail
  refine ent2 w _ _ _ _ (Q := fun W => Calls Tryz.prog _ _ W _) ?_
  intro x1 hb hs_x1 V0 V1
  replace B0 := step B0 hb
  clear hb hs_x1
  refine (rcheck6_ok U P HC.out.1 _).mono ?_
  rintro e x2 ⟨rfl, hb⟩
  replace V0 := Va.after hb V0
  replace V1 := Va.after hb V1
  replace B0 := step B0 hb
  clear hb
  have c_V0 := V0.c0
  have f0_V0 := V0.frozen 0
  have d_V0 := V0.c1
  have f1_V0 := V0.frozen 1
  have l_V0 := V0.lt
  have m_V0 := Nat.le_of_lt l_V0
  have c_V1 := V1.c0
  have f0_V1 := V1.frozen 0
  have d_V1 := V1.c1
  have f1_V1 := V1.frozen 1
  have l_V1 := V1.lt
  have m_V1 := Nat.le_of_lt l_V1
  go_wp2_with fail
  refine (rcheck6_ok V Q HC.out.2 _).mono ?_
  rintro e x3 ⟨rfl, hb⟩
  replace V0 := Va.after hb V0
  replace V1 := Va.after hb V1
  replace B0 := step B0 hb
  clear hb
  clear c_V0 f0_V0 d_V0 f1_V0 l_V0 m_V0 c_V1 f0_V1 d_V1 f1_V1 l_V1 m_V1
  have c_V0 := V0.c0
  have f0_V0 := V0.frozen 0
  have d_V0 := V0.c1
  have f1_V0 := V0.frozen 1
  have l_V0 := V0.lt
  have m_V0 := Nat.le_of_lt l_V0
  have c_V1 := V1.c0
  have f0_V1 := V1.frozen 0
  have d_V1 := V1.c1
  have f1_V1 := V1.frozen 1
  have l_V1 := V1.lt
  have m_V1 := Nat.le_of_lt l_V1
  go_wp2_with fail
  by_cases hs : su = sv
  ·
    have q1 : (su == sv) = true := by rw [beq_iff_eq]; exact hs
    have q2 : (su != sv) = false := by rw [hs]; simp
    have HE2 : Hid (dd = if U < 0 then -cc else cc) := by show _ = _; rw [HE.out, if_pos hs]
    clear hs HE
    clear c_V0 f0_V0 d_V0 f1_V0 l_V0 m_V0 c_V1 f0_V1 d_V1 f1_V1 l_V1 m_V1
    refine wp_region_noPanic ?_
    replace V0 : Va x3.drew _ _ _ := V0
    replace V1 : Va x3.drew _ _ _ := V1
    replace B0 := Below.drew B0
    refine wp_region_held_drew (S := (fun W => W.cell? ⟨w.heap.size, 0, none⟩ = some (.int .i64 U) ∧ W.cell? ⟨w.heap.size, 1, none⟩ = some (.int .i64 P) ∧ W.cell? ⟨w.heap.size + 1, 0, none⟩ = some (.int .i64 V) ∧ W.cell? ⟨w.heap.size + 1, 1, none⟩ = some (.int .i64 Q))) (by kernel_rfl) ⟨V0.c0, V0.c1, V1.c0, V1.c1⟩ (fun hHeld => ?_)
    obtain ⟨x4, hxd⟩ : ∃ xd, xd = x3.drew := ⟨_, rfl⟩
    rw [← hxd] at V0 V1 B0 hHeld ⊢
    clear hxd
    refine wpAnyH_take (i := 0) (v := ?_) rfl (by kernel_rfl) (by kernel_rfl) (by kernel_rfl) (fun _ _ _ h => h) (Or.inl ⟨by rfl, ?_⟩) hHeld ?_
    rotate_left
    · (intro W hSw; (try dsimp only at hSw); go_simp; all_goals (with_reducible rfl))
    simp only [List.getElem_toArray, List.getElem_cons_zero, Act.put, List.setIfInBounds_toArray, List.set_cons_zero, List.set_cons_succ]
    refine wpAnyH_take (i := 1) (v := ?_) rfl (by kernel_rfl) (by kernel_rfl) (by kernel_rfl) (fun _ _ _ h => h) (Or.inl ⟨by rfl, ?_⟩) hHeld ?_
    rotate_left
    · (intro W hSw; (try dsimp only at hSw); go_simp; all_goals (with_reducible rfl))
    simp only [List.getElem_toArray, List.getElem_cons_zero, List.getElem_cons_succ, Act.put, List.setIfInBounds_toArray, List.set_cons_zero, List.set_cons_succ]
    refine wpAnyH_take (i := 3) (v := ?_) rfl (by kernel_rfl) (by kernel_rfl) (by kernel_rfl) (fun _ _ _ h => h) (Or.inl ⟨by rfl, ?_⟩) hHeld ?_
    rotate_left
    · (intro W hSw; (try dsimp only at hSw); go_simp; all_goals (with_reducible rfl))
    simp only [List.getElem_toArray, List.getElem_cons_zero, List.getElem_cons_succ, Act.put, List.setIfInBounds_toArray, List.set_cons_zero, List.set_cons_succ]
    refine wpAnyH_take (i := 4) (v := ?_) rfl (by kernel_rfl) (by kernel_rfl) (by kernel_rfl) (fun _ _ _ h => h) (Or.inl ⟨by rfl, ?_⟩) hHeld ?_
    rotate_left
    · (intro W hSw; (try dsimp only at hSw); go_simp; all_goals (with_reducible rfl))
    simp only [List.getElem_toArray, List.getElem_cons_zero, List.getElem_cons_succ, Act.put, List.setIfInBounds_toArray, List.set_cons_zero, List.set_cons_succ]
    refine wpAnyH_ready (rs := [2]) (by kernel_rfl) (by simp) ?_
    refine AllReadyH.cons rfl (fun K hK => ?_) AllReadyH.nil
    simp only [List.getElem_toArray, List.getElem_cons_zero, List.getElem_cons_succ]
    go_simp
    refine (rside6 U _).mono ?_
    rintro e xw ⟨rfl, hw⟩
    rw [hw]
    clear hw
    rw [HS.out.1]
    try go_wp2_with fail
    refine hK.out _ _ ⟨V0.c0, V0.c1, V1.c0, V1.c1⟩ (fun hHeld => ?_)
    clear hK K
    refine wpAnyH_ready (rs := [5]) (by kernel_rfl) (by simp) ?_
    refine AllReadyH.cons rfl (fun K hK => ?_) AllReadyH.nil
    simp only [List.getElem_toArray, List.getElem_cons_zero, List.getElem_cons_succ]
    go_simp
    refine (rside6 V _).mono ?_
    rintro e xw ⟨rfl, hw⟩
    rw [hw]
    clear hw
    rw [HS.out.2]
    try go_wp2_with fail
    refine hK.out _ _ ⟨V0.c0, V0.c1, V1.c0, V1.c1⟩ (fun hHeld => ?_)
    clear hK K
    refine wpAnyH_take (i := 6) (v := ?_) rfl (by kernel_rfl) (by kernel_rfl) (by kernel_rfl) (fun _ _ _ h => h) (Or.inl ⟨by rfl, ?_⟩) hHeld ?_
    rotate_left
    · (intro W hSw; (try dsimp only at hSw); go_simp; all_goals (with_reducible rfl))
    simp only [List.getElem_toArray, List.getElem_cons_zero, List.getElem_cons_succ, Act.put, List.setIfInBounds_toArray, List.set_cons_zero, List.set_cons_succ]
    refine wpAnyH_done (by kernel_rfl) ?_ _
    refine NoPanic.normal ?_
    clear hHeld
    have c_V0 := V0.c0
    have f0_V0 := V0.frozen 0
    have d_V0 := V0.c1
    have f1_V0 := V0.frozen 1
    have l_V0 := V0.lt
    have m_V0 := Nat.le_of_lt l_V0
    have c_V1 := V1.c0
    have f0_V1 := V1.frozen 0
    have d_V1 := V1.c1
    have f1_V1 := V1.frozen 1
    have l_V1 := V1.lt
    have m_V1 := Nat.le_of_lt l_V1
    go_wp2_with fail
    clear c_V0 f0_V0 d_V0 f1_V0 l_V0 m_V0 c_V1 f0_V1 d_V1 f1_V1 l_V1 m_V1
    refine wp_region_noPanic ?_
    replace V0 : Va x4.drew _ _ _ := V0
    replace V1 : Va x4.drew _ _ _ := V1
    replace B0 := Below.drew B0
    refine wp_region_held_drew (S := (fun W => W.cell? ⟨w.heap.size, 0, none⟩ = some (.int .i64 U) ∧ W.cell? ⟨w.heap.size, 1, none⟩ = some (.int .i64 P) ∧ W.cell? ⟨w.heap.size + 1, 0, none⟩ = some (.int .i64 V) ∧ W.cell? ⟨w.heap.size + 1, 1, none⟩ = some (.int .i64 Q))) (by kernel_rfl) ⟨V0.c0, V0.c1, V1.c0, V1.c1⟩ (fun hHeld => ?_)
    obtain ⟨x5, hxd⟩ : ∃ xd, xd = x4.drew := ⟨_, rfl⟩
    rw [← hxd] at V0 V1 B0 hHeld ⊢
    clear hxd
    refine wpAnyH_take (i := 0) (v := ?_) rfl (by kernel_rfl) (by kernel_rfl) (by kernel_rfl) (fun _ _ _ h => h) (Or.inl ⟨by rfl, ?_⟩) hHeld ?_
    rotate_left
    · (intro W hSw; (try dsimp only at hSw); go_simp; all_goals (with_reducible rfl))
    simp only [List.getElem_toArray, List.getElem_cons_zero, Act.put, List.setIfInBounds_toArray, List.set_cons_zero, List.set_cons_succ]
    refine wpAnyH_take (i := 1) (v := ?_) rfl (by kernel_rfl) (by kernel_rfl) (by kernel_rfl) (fun _ _ _ h => h) (Or.inl ⟨by rfl, ?_⟩) hHeld ?_
    rotate_left
    · (intro W hSw; (try dsimp only at hSw); go_simp; all_goals (with_reducible rfl))
    simp only [List.getElem_toArray, List.getElem_cons_zero, List.getElem_cons_succ, Act.put, List.setIfInBounds_toArray, List.set_cons_zero, List.set_cons_succ]
    refine wpAnyH_take (i := 4) (v := ?_) rfl (by kernel_rfl) (by kernel_rfl) (by kernel_rfl) (fun _ _ _ h => h) (Or.inl ⟨by rfl, ?_⟩) hHeld ?_
    rotate_left
    · (intro W hSw; (try dsimp only at hSw); go_simp; all_goals (with_reducible rfl))
    simp only [List.getElem_toArray, List.getElem_cons_zero, List.getElem_cons_succ, Act.put, List.setIfInBounds_toArray, List.set_cons_zero, List.set_cons_succ]
    refine wpAnyH_take (i := 5) (v := ?_) rfl (by kernel_rfl) (by kernel_rfl) (by kernel_rfl) (fun _ _ _ h => h) (Or.inl ⟨by rfl, ?_⟩) hHeld ?_
    rotate_left
    · (intro W hSw; (try dsimp only at hSw); go_simp; all_goals (with_reducible rfl))
    simp only [List.getElem_toArray, List.getElem_cons_zero, List.getElem_cons_succ, Act.put, List.setIfInBounds_toArray, List.set_cons_zero, List.set_cons_succ]
    refine wpAnyH_ready (rs := [2]) (by kernel_rfl) (by simp) ?_
    refine AllReadyH.cons rfl (fun K hK => ?_) AllReadyH.nil
    simp only [List.getElem_toArray, List.getElem_cons_zero, List.getElem_cons_succ]
    go_simp
    refine (rsize6 U HB.out.1.1 HB.out.1.2 _).mono ?_
    rintro e xw ⟨rfl, hw⟩
    rw [hw]
    clear hw
    try go_wp2_with fail
    refine hK.out _ _ ⟨V0.c0, V0.c1, V1.c0, V1.c1⟩ (fun hHeld => ?_)
    clear hK K
    refine wpAnyH_ready (rs := [3]) (by kernel_rfl) (by simp) ?_
    refine AllReadyH.cons rfl (fun K hK => ?_) AllReadyH.nil
    simp only [List.getElem_toArray, List.getElem_cons_zero, List.getElem_cons_succ]
    go_simp
    refine (rsmall_any (U.natAbs : Int) ⟨by omega, by have h5 := HB.out.1; omega⟩ _).mono ?_
    rintro e x6 ⟨a1, m1, c1, z1, rfl, hc1, hm1, h1, hu1, hn1, hb⟩
    replace V0 := Va.after hb V0
    replace V1 := Va.after hb V1
    replace B0 := step B0 hb
    clear hb
    try go_wp2_with fail
    refine hK.out _ _ ⟨V0.c0, V0.c1, V1.c0, V1.c1⟩ (fun hHeld => ?_)
    clear hK K
    refine wpAnyH_ready (rs := [6]) (by kernel_rfl) (by simp) ?_
    refine AllReadyH.cons rfl (fun K hK => ?_) AllReadyH.nil
    simp only [List.getElem_toArray, List.getElem_cons_zero, List.getElem_cons_succ]
    go_simp
    refine (rten6 Q HPQ.out.2 _).mono ?_
    rintro e x7 ⟨a2, m2, c2, z2, rfl, hc2, hm2, h2, hu2, hn2, hb⟩
    replace V0 := Va.after hb V0
    replace V1 := Va.after hb V1
    replace h1 := Sl.after hb h1
    replace B0 := step B0 hb
    clear hb
    try go_wp2_with fail
    refine hK.out _ _ ⟨V0.c0, V0.c1, V1.c0, V1.c1⟩ (fun hHeld => ?_)
    clear hK K
    refine wpAnyH_ready (rs := [7]) (by kernel_rfl) (by simp) ?_
    refine AllReadyH.cons rfl (fun K hK => ?_) AllReadyH.nil
    simp only [List.getElem_toArray, List.getElem_cons_zero, List.getElem_cons_succ]
    go_simp
    refine (rmul_any a1 a2 m1 c1 m2 c2 z1 z2 _ h1 h2 (by omega) (by omega)).mono ?_
    rintro e x8 ⟨ax, mx, cx, zx, rfl, hcx, hmx, hx, hux, hnx, hb⟩
    replace V0 := Va.after hb V0
    replace V1 := Va.after hb V1
    replace h1 := Sl.after hb h1
    replace h2 := Sl.after hb h2
    replace B0 := step B0 hb
    clear hb
    rw [hn1, hn2] at hnx
    have HNx : Hid (num zx = (U.natAbs : Int) * 10 ^ Q) := hnx
    have HMx : Hid (mx ≤ cx ∧ mx ≤ 100) := ⟨hcx, by omega⟩
    clear hn1 hn2 hnx hc1 hc2 hm1 hm2 hu1 hu2 hux hcx hmx
    try go_wp2_with fail
    refine hK.out _ _ ⟨V0.c0, V0.c1, V1.c0, V1.c1⟩ (fun hHeld => ?_)
    clear hK K
    refine wpAnyH_take (i := 8) (v := ?_) rfl (by kernel_rfl) (by kernel_rfl) (by kernel_rfl) (fun _ _ _ h => h) (Or.inl ⟨by rfl, ?_⟩) hHeld ?_
    rotate_left
    · (intro W hSw; (try dsimp only at hSw); go_simp; all_goals (with_reducible rfl))
    simp only [List.getElem_toArray, List.getElem_cons_zero, List.getElem_cons_succ, Act.put, List.setIfInBounds_toArray, List.set_cons_zero, List.set_cons_succ]
    refine wpAnyH_done (by kernel_rfl) ?_ _
    refine NoPanic.normal ?_
    clear hHeld
    clear h1 h2
    clear z1 z2
    have c_V0 := V0.c0
    have f0_V0 := V0.frozen 0
    have d_V0 := V0.c1
    have f1_V0 := V0.frozen 1
    have l_V0 := V0.lt
    have m_V0 := Nat.le_of_lt l_V0
    have c_V1 := V1.c0
    have f0_V1 := V1.frozen 0
    have d_V1 := V1.c1
    have f1_V1 := V1.frozen 1
    have l_V1 := V1.lt
    have m_V1 := Nat.le_of_lt l_V1
    go_wp2_with fail
    clear c_V0 f0_V0 d_V0 f1_V0 l_V0 m_V0 c_V1 f0_V1 d_V1 f1_V1 l_V1 m_V1
    refine wp_region_noPanic ?_
    replace V0 : Va x8.drew _ _ _ := V0
    replace V1 : Va x8.drew _ _ _ := V1
    replace hx := hx.drw
    replace B0 := Below.drew B0
    refine wp_region_held_drew (S := (fun W => W.cell? ⟨w.heap.size, 0, none⟩ = some (.int .i64 U) ∧ W.cell? ⟨w.heap.size, 1, none⟩ = some (.int .i64 P) ∧ W.cell? ⟨w.heap.size + 1, 0, none⟩ = some (.int .i64 V) ∧ W.cell? ⟨w.heap.size + 1, 1, none⟩ = some (.int .i64 Q))) (by kernel_rfl) ⟨V0.c0, V0.c1, V1.c0, V1.c1⟩ (fun hHeld => ?_)
    obtain ⟨x9, hxd⟩ : ∃ xd, xd = x8.drew := ⟨_, rfl⟩
    rw [← hxd] at V0 V1 hx B0 hHeld ⊢
    clear hxd
    refine wpAnyH_take (i := 0) (v := ?_) rfl (by kernel_rfl) (by kernel_rfl) (by kernel_rfl) (fun _ _ _ h => h) (Or.inl ⟨by rfl, ?_⟩) hHeld ?_
    rotate_left
    · (intro W hSw; (try dsimp only at hSw); go_simp; all_goals (with_reducible rfl))
    simp only [List.getElem_toArray, List.getElem_cons_zero, Act.put, List.setIfInBounds_toArray, List.set_cons_zero, List.set_cons_succ]
    refine wpAnyH_take (i := 1) (v := ?_) rfl (by kernel_rfl) (by kernel_rfl) (by kernel_rfl) (fun _ _ _ h => h) (Or.inl ⟨by rfl, ?_⟩) hHeld ?_
    rotate_left
    · (intro W hSw; (try dsimp only at hSw); go_simp; all_goals (with_reducible rfl))
    simp only [List.getElem_toArray, List.getElem_cons_zero, List.getElem_cons_succ, Act.put, List.setIfInBounds_toArray, List.set_cons_zero, List.set_cons_succ]
    refine wpAnyH_take (i := 4) (v := ?_) rfl (by kernel_rfl) (by kernel_rfl) (by kernel_rfl) (fun _ _ _ h => h) (Or.inl ⟨by rfl, ?_⟩) hHeld ?_
    rotate_left
    · (intro W hSw; (try dsimp only at hSw); go_simp; all_goals (with_reducible rfl))
    simp only [List.getElem_toArray, List.getElem_cons_zero, List.getElem_cons_succ, Act.put, List.setIfInBounds_toArray, List.set_cons_zero, List.set_cons_succ]
    refine wpAnyH_take (i := 5) (v := ?_) rfl (by kernel_rfl) (by kernel_rfl) (by kernel_rfl) (fun _ _ _ h => h) (Or.inl ⟨by rfl, ?_⟩) hHeld ?_
    rotate_left
    · (intro W hSw; (try dsimp only at hSw); go_simp; all_goals (with_reducible rfl))
    simp only [List.getElem_toArray, List.getElem_cons_zero, List.getElem_cons_succ, Act.put, List.setIfInBounds_toArray, List.set_cons_zero, List.set_cons_succ]
    refine wpAnyH_ready (rs := [2]) (by kernel_rfl) (by simp) ?_
    refine AllReadyH.cons rfl (fun K hK => ?_) AllReadyH.nil
    simp only [List.getElem_toArray, List.getElem_cons_zero, List.getElem_cons_succ]
    go_simp
    refine (rsize6 V HB.out.2.1 HB.out.2.2 _).mono ?_
    rintro e xw ⟨rfl, hw⟩
    rw [hw]
    clear hw
    try go_wp2_with fail
    refine hK.out _ _ ⟨V0.c0, V0.c1, V1.c0, V1.c1⟩ (fun hHeld => ?_)
    clear hK K
    refine wpAnyH_ready (rs := [3]) (by kernel_rfl) (by simp) ?_
    refine AllReadyH.cons rfl (fun K hK => ?_) AllReadyH.nil
    simp only [List.getElem_toArray, List.getElem_cons_zero, List.getElem_cons_succ]
    go_simp
    refine (rsmall_any (V.natAbs : Int) ⟨by omega, by have h5 := HB.out.2; omega⟩ _).mono ?_
    rintro e x10 ⟨a1, m1, c1, z1, rfl, hc1, hm1, h1, hu1, hn1, hb⟩
    replace V0 := Va.after hb V0
    replace V1 := Va.after hb V1
    replace hx := Sl.after hb hx
    replace B0 := step B0 hb
    clear hb
    try go_wp2_with fail
    refine hK.out _ _ ⟨V0.c0, V0.c1, V1.c0, V1.c1⟩ (fun hHeld => ?_)
    clear hK K
    refine wpAnyH_ready (rs := [6]) (by kernel_rfl) (by simp) ?_
    refine AllReadyH.cons rfl (fun K hK => ?_) AllReadyH.nil
    simp only [List.getElem_toArray, List.getElem_cons_zero, List.getElem_cons_succ]
    go_simp
    refine (rten6 P HPQ.out.1 _).mono ?_
    rintro e x11 ⟨a2, m2, c2, z2, rfl, hc2, hm2, h2, hu2, hn2, hb⟩
    replace V0 := Va.after hb V0
    replace V1 := Va.after hb V1
    replace hx := Sl.after hb hx
    replace h1 := Sl.after hb h1
    replace B0 := step B0 hb
    clear hb
    try go_wp2_with fail
    refine hK.out _ _ ⟨V0.c0, V0.c1, V1.c0, V1.c1⟩ (fun hHeld => ?_)
    clear hK K
    refine wpAnyH_ready (rs := [7]) (by kernel_rfl) (by simp) ?_
    refine AllReadyH.cons rfl (fun K hK => ?_) AllReadyH.nil
    simp only [List.getElem_toArray, List.getElem_cons_zero, List.getElem_cons_succ]
    go_simp
    refine (rmul_any a1 a2 m1 c1 m2 c2 z1 z2 _ h1 h2 (by omega) (by omega)).mono ?_
    rintro e x12 ⟨aw, mw, cw, zw, rfl, hcw, hmw, hw, huw, hnw, hb⟩
    replace V0 := Va.after hb V0
    replace V1 := Va.after hb V1
    replace hx := Sl.after hb hx
    replace h1 := Sl.after hb h1
    replace h2 := Sl.after hb h2
    replace B0 := step B0 hb
    clear hb
    rw [hn1, hn2] at hnw
    have HNw : Hid (num zw = (V.natAbs : Int) * 10 ^ P) := hnw
    have HMw : Hid (mw ≤ cw ∧ mw ≤ 100) := ⟨hcw, by omega⟩
    clear hn1 hn2 hnw hc1 hc2 hm1 hm2 hu1 hu2 huw hcw hmw
    try go_wp2_with fail
    refine hK.out _ _ ⟨V0.c0, V0.c1, V1.c0, V1.c1⟩ (fun hHeld => ?_)
    clear hK K
    refine wpAnyH_take (i := 8) (v := ?_) rfl (by kernel_rfl) (by kernel_rfl) (by kernel_rfl) (fun _ _ _ h => h) (Or.inl ⟨by rfl, ?_⟩) hHeld ?_
    rotate_left
    · (intro W hSw; (try dsimp only at hSw); go_simp; all_goals (with_reducible rfl))
    simp only [List.getElem_toArray, List.getElem_cons_zero, List.getElem_cons_succ, Act.put, List.setIfInBounds_toArray, List.set_cons_zero, List.set_cons_succ]
    refine wpAnyH_done (by kernel_rfl) ?_ _
    refine NoPanic.normal ?_
    clear hHeld
    clear h1 h2
    clear z1 z2
    have c_V0 := V0.c0
    have f0_V0 := V0.frozen 0
    have d_V0 := V0.c1
    have f1_V0 := V0.frozen 1
    have l_V0 := V0.lt
    have m_V0 := Nat.le_of_lt l_V0
    go_wp2_with fail
    refine (rcompare_n ax aw mx cx mw cw zx zw _ hx hw (by have h5 := HMx.out; omega) (by have h5 := HMw.out; omega) HMx.out.1 HMw.out.1).mono ?_
    rintro e x13 ⟨rfl, hb⟩
    replace V0 := Va.after hb V0
    replace V1 := Va.after hb V1
    replace hx := Sl.after hb hx
    replace hw := Sl.after hb hw
    replace B0 := step B0 hb
    clear hb
    rw [HNx.out, HNw.out, HCC.out]
    by_cases un : U < 0
    ·
      have g5 : decide (U < 0) = true := decide_eq_true un
      have HE3 : Hid (dd = -cc) := by show _ = _; rw [HE2.out, if_pos un]
      clear un
      clear c_V0 f0_V0 d_V0 f1_V0 l_V0 m_V0
      have c_V0 := V0.c0
      have f0_V0 := V0.frozen 0
      have d_V0 := V0.c1
      have f1_V0 := V0.frozen 1
      have l_V0 := V0.lt
      have m_V0 := Nat.le_of_lt l_V0
      go_wp2_with fail
      go_ret2
      exact ⟨by rw [HE3.out]; rfl, B0⟩
    ·
      have g5 : decide (U < 0) = false := decide_eq_false un
      have HE3 : Hid (dd = cc) := by show _ = _; rw [HE2.out, if_neg un]
      clear un
      clear c_V0 f0_V0 d_V0 f1_V0 l_V0 m_V0
      have c_V0 := V0.c0
      have f0_V0 := V0.frozen 0
      have d_V0 := V0.c1
      have f1_V0 := V0.frozen 1
      have l_V0 := V0.lt
      have m_V0 := Nat.le_of_lt l_V0
      go_wp2_with fail
      go_ret2
      exact ⟨by rw [HE3.out]; rfl, B0⟩
  ·
    have q1 : (su == sv) = false := by rw [beq_eq_false_iff_ne]; exact hs
    have q2 : (su != sv) = true := by rw [bne_iff_ne]; exact hs
    by_cases hl : su < sv
    ·
      have q3 : decide (su < sv) = true := decide_eq_true hl
      have HE3 : Hid (dd = -1) := by show _ = _; rw [HE.out, if_neg hs, if_pos hl]
      clear hs hl HE
      clear c_V0 f0_V0 d_V0 f1_V0 l_V0 m_V0 c_V1 f0_V1 d_V1 f1_V1 l_V1 m_V1
      refine wp_region_noPanic ?_
      replace V0 : Va x3.drew _ _ _ := V0
      replace V1 : Va x3.drew _ _ _ := V1
      replace B0 := Below.drew B0
      refine wp_region_held_drew (S := (fun W => W.cell? ⟨w.heap.size, 0, none⟩ = some (.int .i64 U) ∧ W.cell? ⟨w.heap.size, 1, none⟩ = some (.int .i64 P) ∧ W.cell? ⟨w.heap.size + 1, 0, none⟩ = some (.int .i64 V) ∧ W.cell? ⟨w.heap.size + 1, 1, none⟩ = some (.int .i64 Q))) (by kernel_rfl) ⟨V0.c0, V0.c1, V1.c0, V1.c1⟩ (fun hHeld => ?_)
      obtain ⟨x4, hxd⟩ : ∃ xd, xd = x3.drew := ⟨_, rfl⟩
      rw [← hxd] at V0 V1 B0 hHeld ⊢
      clear hxd
      refine wpAnyH_take (i := 0) (v := ?_) rfl (by kernel_rfl) (by kernel_rfl) (by kernel_rfl) (fun _ _ _ h => h) (Or.inl ⟨by rfl, ?_⟩) hHeld ?_
      rotate_left
      · (intro W hSw; (try dsimp only at hSw); go_simp; all_goals (with_reducible rfl))
      simp only [List.getElem_toArray, List.getElem_cons_zero, Act.put, List.setIfInBounds_toArray, List.set_cons_zero, List.set_cons_succ]
      refine wpAnyH_take (i := 1) (v := ?_) rfl (by kernel_rfl) (by kernel_rfl) (by kernel_rfl) (fun _ _ _ h => h) (Or.inl ⟨by rfl, ?_⟩) hHeld ?_
      rotate_left
      · (intro W hSw; (try dsimp only at hSw); go_simp; all_goals (with_reducible rfl))
      simp only [List.getElem_toArray, List.getElem_cons_zero, List.getElem_cons_succ, Act.put, List.setIfInBounds_toArray, List.set_cons_zero, List.set_cons_succ]
      refine wpAnyH_take (i := 3) (v := ?_) rfl (by kernel_rfl) (by kernel_rfl) (by kernel_rfl) (fun _ _ _ h => h) (Or.inl ⟨by rfl, ?_⟩) hHeld ?_
      rotate_left
      · (intro W hSw; (try dsimp only at hSw); go_simp; all_goals (with_reducible rfl))
      simp only [List.getElem_toArray, List.getElem_cons_zero, List.getElem_cons_succ, Act.put, List.setIfInBounds_toArray, List.set_cons_zero, List.set_cons_succ]
      refine wpAnyH_take (i := 4) (v := ?_) rfl (by kernel_rfl) (by kernel_rfl) (by kernel_rfl) (fun _ _ _ h => h) (Or.inl ⟨by rfl, ?_⟩) hHeld ?_
      rotate_left
      · (intro W hSw; (try dsimp only at hSw); go_simp; all_goals (with_reducible rfl))
      simp only [List.getElem_toArray, List.getElem_cons_zero, List.getElem_cons_succ, Act.put, List.setIfInBounds_toArray, List.set_cons_zero, List.set_cons_succ]
      refine wpAnyH_ready (rs := [2]) (by kernel_rfl) (by simp) ?_
      refine AllReadyH.cons rfl (fun K hK => ?_) AllReadyH.nil
      simp only [List.getElem_toArray, List.getElem_cons_zero, List.getElem_cons_succ]
      go_simp
      refine (rside6 U _).mono ?_
      rintro e xw ⟨rfl, hw⟩
      rw [hw]
      clear hw
      rw [HS.out.1]
      try go_wp2_with fail
      refine hK.out _ _ ⟨V0.c0, V0.c1, V1.c0, V1.c1⟩ (fun hHeld => ?_)
      clear hK K
      refine wpAnyH_ready (rs := [5]) (by kernel_rfl) (by simp) ?_
      refine AllReadyH.cons rfl (fun K hK => ?_) AllReadyH.nil
      simp only [List.getElem_toArray, List.getElem_cons_zero, List.getElem_cons_succ]
      go_simp
      refine (rside6 V _).mono ?_
      rintro e xw ⟨rfl, hw⟩
      rw [hw]
      clear hw
      rw [HS.out.2]
      try go_wp2_with fail
      refine hK.out _ _ ⟨V0.c0, V0.c1, V1.c0, V1.c1⟩ (fun hHeld => ?_)
      clear hK K
      refine wpAnyH_take (i := 6) (v := ?_) rfl (by kernel_rfl) (by kernel_rfl) (by kernel_rfl) (fun _ _ _ h => h) (Or.inl ⟨by rfl, ?_⟩) hHeld ?_
      rotate_left
      · (intro W hSw; (try dsimp only at hSw); go_simp; all_goals (with_reducible rfl))
      simp only [List.getElem_toArray, List.getElem_cons_zero, List.getElem_cons_succ, Act.put, List.setIfInBounds_toArray, List.set_cons_zero, List.set_cons_succ]
      refine wpAnyH_done (by kernel_rfl) ?_ _
      refine NoPanic.normal ?_
      clear hHeld
      have c_V0 := V0.c0
      have f0_V0 := V0.frozen 0
      have d_V0 := V0.c1
      have f1_V0 := V0.frozen 1
      have l_V0 := V0.lt
      have m_V0 := Nat.le_of_lt l_V0
      have c_V1 := V1.c0
      have f0_V1 := V1.frozen 0
      have d_V1 := V1.c1
      have f1_V1 := V1.frozen 1
      have l_V1 := V1.lt
      have m_V1 := Nat.le_of_lt l_V1
      go_wp2_with fail
      clear c_V0 f0_V0 d_V0 f1_V0 l_V0 m_V0 c_V1 f0_V1 d_V1 f1_V1 l_V1 m_V1
      refine wp_region_noPanic ?_
      replace V0 : Va x4.drew _ _ _ := V0
      replace V1 : Va x4.drew _ _ _ := V1
      replace B0 := Below.drew B0
      refine wp_region_held_drew (S := (fun W => W.cell? ⟨w.heap.size, 0, none⟩ = some (.int .i64 U) ∧ W.cell? ⟨w.heap.size, 1, none⟩ = some (.int .i64 P) ∧ W.cell? ⟨w.heap.size + 1, 0, none⟩ = some (.int .i64 V) ∧ W.cell? ⟨w.heap.size + 1, 1, none⟩ = some (.int .i64 Q))) (by kernel_rfl) ⟨V0.c0, V0.c1, V1.c0, V1.c1⟩ (fun hHeld => ?_)
      obtain ⟨x5, hxd⟩ : ∃ xd, xd = x4.drew := ⟨_, rfl⟩
      rw [← hxd] at V0 V1 B0 hHeld ⊢
      clear hxd
      refine wpAnyH_take (i := 0) (v := ?_) rfl (by kernel_rfl) (by kernel_rfl) (by kernel_rfl) (fun _ _ _ h => h) (Or.inl ⟨by rfl, ?_⟩) hHeld ?_
      rotate_left
      · (intro W hSw; (try dsimp only at hSw); go_simp; all_goals (with_reducible rfl))
      simp only [List.getElem_toArray, List.getElem_cons_zero, Act.put, List.setIfInBounds_toArray, List.set_cons_zero, List.set_cons_succ]
      refine wpAnyH_take (i := 1) (v := ?_) rfl (by kernel_rfl) (by kernel_rfl) (by kernel_rfl) (fun _ _ _ h => h) (Or.inl ⟨by rfl, ?_⟩) hHeld ?_
      rotate_left
      · (intro W hSw; (try dsimp only at hSw); go_simp; all_goals (with_reducible rfl))
      simp only [List.getElem_toArray, List.getElem_cons_zero, List.getElem_cons_succ, Act.put, List.setIfInBounds_toArray, List.set_cons_zero, List.set_cons_succ]
      refine wpAnyH_take (i := 3) (v := ?_) rfl (by kernel_rfl) (by kernel_rfl) (by kernel_rfl) (fun _ _ _ h => h) (Or.inl ⟨by rfl, ?_⟩) hHeld ?_
      rotate_left
      · (intro W hSw; (try dsimp only at hSw); go_simp; all_goals (with_reducible rfl))
      simp only [List.getElem_toArray, List.getElem_cons_zero, List.getElem_cons_succ, Act.put, List.setIfInBounds_toArray, List.set_cons_zero, List.set_cons_succ]
      refine wpAnyH_take (i := 4) (v := ?_) rfl (by kernel_rfl) (by kernel_rfl) (by kernel_rfl) (fun _ _ _ h => h) (Or.inl ⟨by rfl, ?_⟩) hHeld ?_
      rotate_left
      · (intro W hSw; (try dsimp only at hSw); go_simp; all_goals (with_reducible rfl))
      simp only [List.getElem_toArray, List.getElem_cons_zero, List.getElem_cons_succ, Act.put, List.setIfInBounds_toArray, List.set_cons_zero, List.set_cons_succ]
      refine wpAnyH_ready (rs := [2]) (by kernel_rfl) (by simp) ?_
      refine AllReadyH.cons rfl (fun K hK => ?_) AllReadyH.nil
      simp only [List.getElem_toArray, List.getElem_cons_zero, List.getElem_cons_succ]
      go_simp
      refine (rside6 U _).mono ?_
      rintro e xw ⟨rfl, hw⟩
      rw [hw]
      clear hw
      rw [HS.out.1]
      try go_wp2_with fail
      refine hK.out _ _ ⟨V0.c0, V0.c1, V1.c0, V1.c1⟩ (fun hHeld => ?_)
      clear hK K
      refine wpAnyH_ready (rs := [5]) (by kernel_rfl) (by simp) ?_
      refine AllReadyH.cons rfl (fun K hK => ?_) AllReadyH.nil
      simp only [List.getElem_toArray, List.getElem_cons_zero, List.getElem_cons_succ]
      go_simp
      refine (rside6 V _).mono ?_
      rintro e xw ⟨rfl, hw⟩
      rw [hw]
      clear hw
      rw [HS.out.2]
      try go_wp2_with fail
      refine hK.out _ _ ⟨V0.c0, V0.c1, V1.c0, V1.c1⟩ (fun hHeld => ?_)
      clear hK K
      refine wpAnyH_take (i := 6) (v := ?_) rfl (by kernel_rfl) (by kernel_rfl) (by kernel_rfl) (fun _ _ _ h => h) (Or.inl ⟨by rfl, ?_⟩) hHeld ?_
      rotate_left
      · (intro W hSw; (try dsimp only at hSw); go_simp; all_goals (with_reducible rfl))
      simp only [List.getElem_toArray, List.getElem_cons_zero, List.getElem_cons_succ, Act.put, List.setIfInBounds_toArray, List.set_cons_zero, List.set_cons_succ]
      refine wpAnyH_done (by kernel_rfl) ?_ _
      refine NoPanic.normal ?_
      clear hHeld
      go_wp2_with fail
      go_ret2
      exact ⟨by rw [HE3.out]; rfl, B0⟩
    ·
      have q3 : decide (su < sv) = false := decide_eq_false hl
      have HE3 : Hid (dd = 1) := by show _ = _; rw [HE.out, if_neg hs, if_neg hl]
      clear hs hl HE
      clear c_V0 f0_V0 d_V0 f1_V0 l_V0 m_V0 c_V1 f0_V1 d_V1 f1_V1 l_V1 m_V1
      refine wp_region_noPanic ?_
      replace V0 : Va x3.drew _ _ _ := V0
      replace V1 : Va x3.drew _ _ _ := V1
      replace B0 := Below.drew B0
      refine wp_region_held_drew (S := (fun W => W.cell? ⟨w.heap.size, 0, none⟩ = some (.int .i64 U) ∧ W.cell? ⟨w.heap.size, 1, none⟩ = some (.int .i64 P) ∧ W.cell? ⟨w.heap.size + 1, 0, none⟩ = some (.int .i64 V) ∧ W.cell? ⟨w.heap.size + 1, 1, none⟩ = some (.int .i64 Q))) (by kernel_rfl) ⟨V0.c0, V0.c1, V1.c0, V1.c1⟩ (fun hHeld => ?_)
      obtain ⟨x4, hxd⟩ : ∃ xd, xd = x3.drew := ⟨_, rfl⟩
      rw [← hxd] at V0 V1 B0 hHeld ⊢
      clear hxd
      refine wpAnyH_take (i := 0) (v := ?_) rfl (by kernel_rfl) (by kernel_rfl) (by kernel_rfl) (fun _ _ _ h => h) (Or.inl ⟨by rfl, ?_⟩) hHeld ?_
      rotate_left
      · (intro W hSw; (try dsimp only at hSw); go_simp; all_goals (with_reducible rfl))
      simp only [List.getElem_toArray, List.getElem_cons_zero, Act.put, List.setIfInBounds_toArray, List.set_cons_zero, List.set_cons_succ]
      refine wpAnyH_take (i := 1) (v := ?_) rfl (by kernel_rfl) (by kernel_rfl) (by kernel_rfl) (fun _ _ _ h => h) (Or.inl ⟨by rfl, ?_⟩) hHeld ?_
      rotate_left
      · (intro W hSw; (try dsimp only at hSw); go_simp; all_goals (with_reducible rfl))
      simp only [List.getElem_toArray, List.getElem_cons_zero, List.getElem_cons_succ, Act.put, List.setIfInBounds_toArray, List.set_cons_zero, List.set_cons_succ]
      refine wpAnyH_take (i := 3) (v := ?_) rfl (by kernel_rfl) (by kernel_rfl) (by kernel_rfl) (fun _ _ _ h => h) (Or.inl ⟨by rfl, ?_⟩) hHeld ?_
      rotate_left
      · (intro W hSw; (try dsimp only at hSw); go_simp; all_goals (with_reducible rfl))
      simp only [List.getElem_toArray, List.getElem_cons_zero, List.getElem_cons_succ, Act.put, List.setIfInBounds_toArray, List.set_cons_zero, List.set_cons_succ]
      refine wpAnyH_take (i := 4) (v := ?_) rfl (by kernel_rfl) (by kernel_rfl) (by kernel_rfl) (fun _ _ _ h => h) (Or.inl ⟨by rfl, ?_⟩) hHeld ?_
      rotate_left
      · (intro W hSw; (try dsimp only at hSw); go_simp; all_goals (with_reducible rfl))
      simp only [List.getElem_toArray, List.getElem_cons_zero, List.getElem_cons_succ, Act.put, List.setIfInBounds_toArray, List.set_cons_zero, List.set_cons_succ]
      refine wpAnyH_ready (rs := [2]) (by kernel_rfl) (by simp) ?_
      refine AllReadyH.cons rfl (fun K hK => ?_) AllReadyH.nil
      simp only [List.getElem_toArray, List.getElem_cons_zero, List.getElem_cons_succ]
      go_simp
      refine (rside6 U _).mono ?_
      rintro e xw ⟨rfl, hw⟩
      rw [hw]
      clear hw
      rw [HS.out.1]
      try go_wp2_with fail
      refine hK.out _ _ ⟨V0.c0, V0.c1, V1.c0, V1.c1⟩ (fun hHeld => ?_)
      clear hK K
      refine wpAnyH_ready (rs := [5]) (by kernel_rfl) (by simp) ?_
      refine AllReadyH.cons rfl (fun K hK => ?_) AllReadyH.nil
      simp only [List.getElem_toArray, List.getElem_cons_zero, List.getElem_cons_succ]
      go_simp
      refine (rside6 V _).mono ?_
      rintro e xw ⟨rfl, hw⟩
      rw [hw]
      clear hw
      rw [HS.out.2]
      try go_wp2_with fail
      refine hK.out _ _ ⟨V0.c0, V0.c1, V1.c0, V1.c1⟩ (fun hHeld => ?_)
      clear hK K
      refine wpAnyH_take (i := 6) (v := ?_) rfl (by kernel_rfl) (by kernel_rfl) (by kernel_rfl) (fun _ _ _ h => h) (Or.inl ⟨by rfl, ?_⟩) hHeld ?_
      rotate_left
      · (intro W hSw; (try dsimp only at hSw); go_simp; all_goals (with_reducible rfl))
      simp only [List.getElem_toArray, List.getElem_cons_zero, List.getElem_cons_succ, Act.put, List.setIfInBounds_toArray, List.set_cons_zero, List.set_cons_succ]
      refine wpAnyH_done (by kernel_rfl) ?_ _
      refine NoPanic.normal ?_
      clear hHeld
      have c_V0 := V0.c0
      have f0_V0 := V0.frozen 0
      have d_V0 := V0.c1
      have f1_V0 := V0.frozen 1
      have l_V0 := V0.lt
      have m_V0 := Nat.le_of_lt l_V0
      have c_V1 := V1.c0
      have f0_V1 := V1.frozen 0
      have d_V1 := V1.c1
      have f1_V1 := V1.frozen 1
      have l_V1 := V1.lt
      have m_V1 := Nat.le_of_lt l_V1
      go_wp2_with fail
      clear c_V0 f0_V0 d_V0 f1_V0 l_V0 m_V0 c_V1 f0_V1 d_V1 f1_V1 l_V1 m_V1
      refine wp_region_noPanic ?_
      replace V0 : Va x4.drew _ _ _ := V0
      replace V1 : Va x4.drew _ _ _ := V1
      replace B0 := Below.drew B0
      refine wp_region_held_drew (S := (fun W => W.cell? ⟨w.heap.size, 0, none⟩ = some (.int .i64 U) ∧ W.cell? ⟨w.heap.size, 1, none⟩ = some (.int .i64 P) ∧ W.cell? ⟨w.heap.size + 1, 0, none⟩ = some (.int .i64 V) ∧ W.cell? ⟨w.heap.size + 1, 1, none⟩ = some (.int .i64 Q))) (by kernel_rfl) ⟨V0.c0, V0.c1, V1.c0, V1.c1⟩ (fun hHeld => ?_)
      obtain ⟨x5, hxd⟩ : ∃ xd, xd = x4.drew := ⟨_, rfl⟩
      rw [← hxd] at V0 V1 B0 hHeld ⊢
      clear hxd
      refine wpAnyH_take (i := 0) (v := ?_) rfl (by kernel_rfl) (by kernel_rfl) (by kernel_rfl) (fun _ _ _ h => h) (Or.inl ⟨by rfl, ?_⟩) hHeld ?_
      rotate_left
      · (intro W hSw; (try dsimp only at hSw); go_simp; all_goals (with_reducible rfl))
      simp only [List.getElem_toArray, List.getElem_cons_zero, Act.put, List.setIfInBounds_toArray, List.set_cons_zero, List.set_cons_succ]
      refine wpAnyH_take (i := 1) (v := ?_) rfl (by kernel_rfl) (by kernel_rfl) (by kernel_rfl) (fun _ _ _ h => h) (Or.inl ⟨by rfl, ?_⟩) hHeld ?_
      rotate_left
      · (intro W hSw; (try dsimp only at hSw); go_simp; all_goals (with_reducible rfl))
      simp only [List.getElem_toArray, List.getElem_cons_zero, List.getElem_cons_succ, Act.put, List.setIfInBounds_toArray, List.set_cons_zero, List.set_cons_succ]
      refine wpAnyH_take (i := 3) (v := ?_) rfl (by kernel_rfl) (by kernel_rfl) (by kernel_rfl) (fun _ _ _ h => h) (Or.inl ⟨by rfl, ?_⟩) hHeld ?_
      rotate_left
      · (intro W hSw; (try dsimp only at hSw); go_simp; all_goals (with_reducible rfl))
      simp only [List.getElem_toArray, List.getElem_cons_zero, List.getElem_cons_succ, Act.put, List.setIfInBounds_toArray, List.set_cons_zero, List.set_cons_succ]
      refine wpAnyH_take (i := 4) (v := ?_) rfl (by kernel_rfl) (by kernel_rfl) (by kernel_rfl) (fun _ _ _ h => h) (Or.inl ⟨by rfl, ?_⟩) hHeld ?_
      rotate_left
      · (intro W hSw; (try dsimp only at hSw); go_simp; all_goals (with_reducible rfl))
      simp only [List.getElem_toArray, List.getElem_cons_zero, List.getElem_cons_succ, Act.put, List.setIfInBounds_toArray, List.set_cons_zero, List.set_cons_succ]
      refine wpAnyH_ready (rs := [2]) (by kernel_rfl) (by simp) ?_
      refine AllReadyH.cons rfl (fun K hK => ?_) AllReadyH.nil
      simp only [List.getElem_toArray, List.getElem_cons_zero, List.getElem_cons_succ]
      go_simp
      refine (rside6 U _).mono ?_
      rintro e xw ⟨rfl, hw⟩
      rw [hw]
      clear hw
      rw [HS.out.1]
      try go_wp2_with fail
      refine hK.out _ _ ⟨V0.c0, V0.c1, V1.c0, V1.c1⟩ (fun hHeld => ?_)
      clear hK K
      refine wpAnyH_ready (rs := [5]) (by kernel_rfl) (by simp) ?_
      refine AllReadyH.cons rfl (fun K hK => ?_) AllReadyH.nil
      simp only [List.getElem_toArray, List.getElem_cons_zero, List.getElem_cons_succ]
      go_simp
      refine (rside6 V _).mono ?_
      rintro e xw ⟨rfl, hw⟩
      rw [hw]
      clear hw
      rw [HS.out.2]
      try go_wp2_with fail
      refine hK.out _ _ ⟨V0.c0, V0.c1, V1.c0, V1.c1⟩ (fun hHeld => ?_)
      clear hK K
      refine wpAnyH_take (i := 6) (v := ?_) rfl (by kernel_rfl) (by kernel_rfl) (by kernel_rfl) (fun _ _ _ h => h) (Or.inl ⟨by rfl, ?_⟩) hHeld ?_
      rotate_left
      · (intro W hSw; (try dsimp only at hSw); go_simp; all_goals (with_reducible rfl))
      simp only [List.getElem_toArray, List.getElem_cons_zero, List.getElem_cons_succ, Act.put, List.setIfInBounds_toArray, List.set_cons_zero, List.set_cons_succ]
      refine wpAnyH_done (by kernel_rfl) ?_ _
      refine NoPanic.normal ?_
      clear hHeld
      go_wp2_with fail
      go_ret2
      exact ⟨by rw [HE3.out]; rfl, B0⟩
set_option maxHeartbeats 4000000 in
theorem rcmp6_no (U P V Q : Int) (hn : ¬ (CanI U P ∧ CanI V Q)) (w : World) :
    Calls Tryz.prog 4 #[.agg #[.int .i64 U, .int .i64 P], .agg #[.int .i64 V, .int .i64 Q]] w fun e W' => e = .returned (.tuple #[.int .i64 0, .int .i64 60]) ∧ Below w.heap.size w W' := by
  by_cases hc : CanI U P
  ·
    have hd : ¬ CanI V Q := fun h => hn ⟨hc, h⟩
    have B0 : Below w.heap.size w w := Below.refl _ _
    go_enter Tryz.func4, Tryz.ntmps4
    go_wp2_with fail
    refine ent2 w _ _ _ _ (Q := fun W => Calls Tryz.prog _ _ W _) ?_
    intro x1 hb hs_x1 V0 V1
    replace B0 := step B0 hb
    clear hb hs_x1
    refine (rcheck6_ok U P hc _).mono ?_
    rintro e x2 ⟨rfl, hb⟩
    replace V0 := Va.after hb V0
    replace V1 := Va.after hb V1
    replace B0 := step B0 hb
    clear hb
    have c_V0 := V0.c0
    have f0_V0 := V0.frozen 0
    have d_V0 := V0.c1
    have f1_V0 := V0.frozen 1
    have l_V0 := V0.lt
    have m_V0 := Nat.le_of_lt l_V0
    have c_V1 := V1.c0
    have f0_V1 := V1.frozen 0
    have d_V1 := V1.c1
    have f1_V1 := V1.frozen 1
    have l_V1 := V1.lt
    have m_V1 := Nat.le_of_lt l_V1
    go_wp2_with fail
    refine (rcheck6_no V Q hd _).mono ?_
    rintro e x3 ⟨rfl, hb⟩
    replace V0 := Va.after hb V0
    replace V1 := Va.after hb V1
    replace B0 := step B0 hb
    clear hb
    clear c_V0 f0_V0 d_V0 f1_V0 l_V0 m_V0 c_V1 f0_V1 d_V1 f1_V1 l_V1 m_V1
    have c_V0 := V0.c0
    have f0_V0 := V0.frozen 0
    have d_V0 := V0.c1
    have f1_V0 := V0.frozen 1
    have l_V0 := V0.lt
    have m_V0 := Nat.le_of_lt l_V0
    have c_V1 := V1.c0
    have f0_V1 := V1.frozen 0
    have d_V1 := V1.c1
    have f1_V1 := V1.frozen 1
    have l_V1 := V1.lt
    have m_V1 := Nat.le_of_lt l_V1
    go_wp2_with fail
    go_ret2
    exact ⟨rfl, B0⟩
  ·
    have B0 : Below w.heap.size w w := Below.refl _ _
    go_enter Tryz.func4, Tryz.ntmps4
    go_wp2_with fail
    refine ent2 w _ _ _ _ (Q := fun W => Calls Tryz.prog _ _ W _) ?_
    intro x1 hb hs_x1 V0 V1
    replace B0 := step B0 hb
    clear hb hs_x1
    refine (rcheck6_no U P hc _).mono ?_
    rintro e x2 ⟨rfl, hb⟩
    replace V0 := Va.after hb V0
    replace V1 := Va.after hb V1
    replace B0 := step B0 hb
    clear hb
    have c_V0 := V0.c0
    have f0_V0 := V0.frozen 0
    have d_V0 := V0.c1
    have f1_V0 := V0.frozen 1
    have l_V0 := V0.lt
    have m_V0 := Nat.le_of_lt l_V0
    have c_V1 := V1.c0
    have f0_V1 := V1.frozen 0
    have d_V1 := V1.c1
    have f1_V1 := V1.frozen 1
    have l_V1 := V1.lt
    have m_V1 := Nat.le_of_lt l_V1
    go_wp2_with fail
    go_ret2
    exact ⟨rfl, B0⟩
end Go.Proofs.YtfmllkaajopfhaaGreatDoor
namespace Go.Proofs.YtfmllkaajopfhaaGreatDoor
open Go.RowKit Go.Shelf
set_option linter.unusedVariables false

theorem iv_sgn (s : Bool) (zs : List Int) (n : Nat) (h : num zs = n) : iv s zs = sgn s n := by cases s <;> simp [iv, sgn, h]
theorem worthL_over {neg : Bool} {a b : List UInt8} (h : b.length > 9 ∨ a.length > 19) : worthL neg a b = (0, 0, 5) := by unfold worthL; rw [if_pos h]
theorem worthL_in {neg : Bool} {a b : List UInt8} (h1 : b.length ≤ 9) (h2 : a.length ≤ 19) (hf : fits (sgn neg (tv 10 (a ++ b))) = true) : worthL neg a b = (sgn neg (tv 10 (a ++ b)), b.length, 0) := by unfold worthL; rw [if_neg (by omega), if_pos hf]
theorem worthL_out {neg : Bool} {a b : List UInt8} (h1 : b.length ≤ 9) (h2 : a.length ≤ 19) (hf : fits (sgn neg (tv 10 (a ++ b))) = false) : worthL neg a b = (0, 0, 5) := by unfold worthL; rw [if_neg (by omega), if_neg (by rw [hf]; simp)]
theorem tv_nought (b : Nat) (l : List UInt8) : tv b (48 :: l) = tv b l := by rw [tv_cons, wv_nought]; omega
theorem fits_iff (x : Int) : fits x = true ↔ -9223372036854775808 ≤ x ∧ x ≤ 9223372036854775807 := by simp [fits]
set_option maxHeartbeats 4000000 in
theorem worth_dec (neg : Bool) (a b : List UInt8) (ha : Dig 10 a) (hb : Dig 10 b) (hla : a.length ≤ 140737488355328) (hlb : b.length ≤ 140737488355328) (w : World) :
    Calls Tryz.prog 30 #[.bool neg, .string ⟨a.toArray⟩, .string ⟨b.toArray⟩] w fun e W' => e = .returned (.tuple #[.agg #[.int .i64 (worthL neg a b).1, .int .i64 (worthL neg a b).2.1], .int .i64 (worthL neg a b).2.2]) ∧ Below w.heap.size w W' := by
  by_cases hb9 : b.length ≤ 9
  · by_cases ha19 : a.length ≤ 19
    · have HD : Hid (Dig 10 (48 :: (a ++ b))) := fun c hc => by
        rcases List.mem_cons.1 hc with h | h
        · rw [h, wv_nought]; omega
        · exact (ha.append hb) c h
      clear ha hb
      obtain ⟨V, hV⟩ : ∃ V : Nat, tv 10 (a ++ b) = V := ⟨_, rfl⟩
      have HV : Hid (tv 10 (48 :: (a ++ b)) = V) := by show _ = _; rw [tv_nought]; exact hV
      have hpc := parse_few ⟨(48 :: (a ++ b)).toArray⟩ (by rw [bsize]; simp) (by rw [bsize]; simp; omega) HD.out
      rw [show (ByteArray.mk (48 :: (a ++ b)).toArray).data.toList = 48 :: (a ++ b) from rfl, HV.out] at hpc
      have c1 := cat [48] a
      have c2 := cat (48 :: a) b
      have hnb : ¬ (9 : Int) < (b.length : Int) := by omega
      have hna : ¬ (19 : Int) < (a.length : Int) := by omega
      by_cases hf : fits (sgn neg V) = true
      · rw [worthL_in hb9 ha19 (by rw [hV]; exact hf), hV]
        have hf2 := (fits_iff _).1 hf
        have HF : Hid (-9223372036854775808 ≤ sgn neg V ∧ sgn neg V ≤ 9223372036854775807) := hf2
        clear hf hf2 hV HD
        have B0 : Below w.heap.size w w := Below.refl _ _
        go_enter Tryz.func30, Tryz.ntmps30
        go_wp2_with fail
        refine ent1 w _ _ (Q := fun W => Calls Tryz.prog _ _ W _) ?_
        intro x1 hb hs_x1 V0
        replace B0 := step B0 hb
        clear hb hs_x1
        refine (hpc _).mono ?_
        rintro e x2 ⟨p, l, c, zs, rfl, hN, hn, hb⟩
        replace V0 := Va.after hb V0
        replace B0 := step B0 hb
        clear hb
        have c_V0 := V0.c0
        have f0_V0 := V0.frozen 0
        have d_V0 := V0.c1
        have f1_V0 := V0.frozen 1
        have l_V0 := V0.lt
        have m_V0 := Nat.le_of_lt l_V0
        go_wp2_with fail
        refine ent1 x2 _ _ (Q := fun W => Calls Tryz.prog _ _ W _) ?_
        intro x3 hb hs_x3 V1
        replace V0 := Va.after hb V0
        replace hN := Nt.after hb hN
        replace B0 := step B0 hb
        clear hb hs_x3
        refine (wnew_any neg p l c zs _ hN).mono ?_
        rintro e x4 ⟨s', rfl, hI, hiv, hb⟩
        replace V0 := Va.after hb V0
        replace V1 := Va.after hb V1
        replace hN := Nt.after hb hN
        replace B0 := step B0 hb
        clear hb
        have HIV : Hid (iv s' zs = sgn neg V) := by show _ = _; rw [hiv]; exact iv_sgn neg zs V hn
        clear hiv
        clear c_V0 f0_V0 d_V0 f1_V0 l_V0 m_V0
        have c_V0 := V0.c0
        have f0_V0 := V0.frozen 0
        have d_V0 := V0.c1
        have f1_V0 := V0.frozen 1
        have l_V0 := V0.lt
        have m_V0 := Nat.le_of_lt l_V0
        go_wp2_with fail
        have hw := wint64_in s' p l c zs x4 hI (by rw [HIV.out]; exact HF.out.1) (by rw [HIV.out]; exact HF.out.2)
        rw [HIV.out] at hw
        refine (hw).mono ?_
        rintro e x5 ⟨rfl, hb⟩
        replace V0 := Va.after hb V0
        replace V1 := Va.after hb V1
        replace hN := Nt.after hb hN
        replace hI := It.after hb hI
        replace B0 := step B0 hb
        clear hb
        clear c_V0 f0_V0 d_V0 f1_V0 l_V0 m_V0
        have c_V0 := V0.c0
        have f0_V0 := V0.frozen 0
        have d_V0 := V0.c1
        have f1_V0 := V0.frozen 1
        have l_V0 := V0.lt
        have m_V0 := Nat.le_of_lt l_V0
        go_wp2_with fail
        refine bodyPost_ret (results_dt rfl rfl (V0.set2 _ _)) rfl ?_
        exact ⟨rfl, below_2 B0 (Nat.le_refl _) _ _⟩
      · have hf' : fits (sgn neg V) = false := by simpa using hf
        rw [worthL_out hb9 ha19 (by rw [hV]; exact hf')]
        have HF : Hid (sgn neg V < -9223372036854775808 ∨ 9223372036854775807 < sgn neg V) := by
          show _ ∨ _
          rcases Int.lt_or_le (sgn neg V) (-9223372036854775808) with h | h
          · exact .inl h
          · rcases Int.lt_or_le 9223372036854775807 (sgn neg V) with h' | h'
            · exact .inr h'
            · exact absurd ((fits_iff _).2 ⟨h, h'⟩) hf
        clear hf hf' hV HD
        have B0 : Below w.heap.size w w := Below.refl _ _
        go_enter Tryz.func30, Tryz.ntmps30
        go_wp2_with fail
        refine ent1 w _ _ (Q := fun W => Calls Tryz.prog _ _ W _) ?_
        intro x1 hb hs_x1 V0
        replace B0 := step B0 hb
        clear hb hs_x1
        refine (hpc _).mono ?_
        rintro e x2 ⟨p, l, c, zs, rfl, hN, hn, hb⟩
        replace V0 := Va.after hb V0
        replace B0 := step B0 hb
        clear hb
        have c_V0 := V0.c0
        have f0_V0 := V0.frozen 0
        have d_V0 := V0.c1
        have f1_V0 := V0.frozen 1
        have l_V0 := V0.lt
        have m_V0 := Nat.le_of_lt l_V0
        go_wp2_with fail
        refine ent1 x2 _ _ (Q := fun W => Calls Tryz.prog _ _ W _) ?_
        intro x3 hb hs_x3 V1
        replace V0 := Va.after hb V0
        replace hN := Nt.after hb hN
        replace B0 := step B0 hb
        clear hb hs_x3
        refine (wnew_any neg p l c zs _ hN).mono ?_
        rintro e x4 ⟨s', rfl, hI, hiv, hb⟩
        replace V0 := Va.after hb V0
        replace V1 := Va.after hb V1
        replace hN := Nt.after hb hN
        replace B0 := step B0 hb
        clear hb
        have HIV : Hid (iv s' zs = sgn neg V) := by show _ = _; rw [hiv]; exact iv_sgn neg zs V hn
        clear hiv
        clear c_V0 f0_V0 d_V0 f1_V0 l_V0 m_V0
        have c_V0 := V0.c0
        have f0_V0 := V0.frozen 0
        have d_V0 := V0.c1
        have f1_V0 := V0.frozen 1
        have l_V0 := V0.lt
        have m_V0 := Nat.le_of_lt l_V0
        go_wp2_with fail
        have hw := wint64_out s' p l c zs x4 hI (by rw [HIV.out]; exact HF.out)
        refine (hw).mono ?_
        rintro e x5 ⟨rfl, hb⟩
        replace V0 := Va.after hb V0
        replace V1 := Va.after hb V1
        replace hN := Nt.after hb hN
        replace hI := It.after hb hI
        replace B0 := step B0 hb
        clear hb
        clear c_V0 f0_V0 d_V0 f1_V0 l_V0 m_V0
        have c_V0 := V0.c0
        have f0_V0 := V0.frozen 0
        have d_V0 := V0.c1
        have f1_V0 := V0.frozen 1
        have l_V0 := V0.lt
        have m_V0 := Nat.le_of_lt l_V0
        go_wp2_with fail
        refine bodyPost_ret (results_dt rfl rfl (V0.set2 _ _)) rfl ?_
        exact ⟨rfl, below_2 B0 (Nat.le_refl _) _ _⟩
    · rw [worthL_over (Or.inr (by omega))]
      have hnb : ¬ (9 : Int) < (b.length : Int) := by omega
      have hna : (19 : Int) < (a.length : Int) := by omega
      go_enter Tryz.func30, Tryz.ntmps30
      go_wp2_with fail
      refine bodyPost_ret (results_dt rfl rfl (Va.new w _ _)) rfl ?_
      exact ⟨rfl, (Below.refl _ _).alloc (Nat.le_refl _) _⟩
  · rw [worthL_over (Or.inl (by omega))]
    have hnb : (9 : Int) < (b.length : Int) := by omega
    go_enter Tryz.func30, Tryz.ntmps30
    go_wp2_with fail
    refine bodyPost_ret (results_dt rfl rfl (Va.new w _ _)) rfl ?_
    exact ⟨rfl, (Below.refl _ _).alloc (Nat.le_refl _) _⟩
end Go.Proofs.YtfmllkaajopfhaaGreatDoor
namespace Go.Proofs.YtfmllkaajopfhaaGreatDoor
open Go.RowKit Go.Shelf
set_option linter.unusedVariables false

theorem take_len (p : UInt8 → Bool) (l : List UInt8) : (l.takeWhile p).length ≤ l.length ∧ (l.dropWhile p).length ≤ l.length := by
  have h := congrArg List.length (take_drop_while p l)
  rw [List.length_append] at h
  omega
theorem partsL_dig (l : List UInt8) : Dig 10 (partsL l).1 ∧ Dig 10 (partsL l).2.1 ∧ (partsL l).1.length ≤ l.length ∧ (partsL l).2.1.length ≤ l.length ∧ (partsL l).2.2.1 ≤ l.length := by
  have h1 := take_len isD l
  have h2 := take_len isD ((l.dropWhile isD).drop 1)
  have h3 : ((l.dropWhile isD).drop 1).length ≤ l.length := by simp; omega
  unfold partsL
  split
  · exact ⟨dig_take _, Dig.nil _, h1.1, Nat.zero_le _, h1.1⟩
  · split
    · exact ⟨dig_take _, dig_take _, h1.1, by show (((l.dropWhile isD).drop 1).takeWhile isD).length ≤ _; omega, by show l.length - _ ≤ _; omega⟩
    · exact ⟨Dig.nil _, Dig.nil _, Nat.zero_le _, Nat.zero_le _, h1.1⟩
theorem results_dtt {fn : Func} {i j k b : Nat} {v u : Value} {tmps : Array Value} {w : World} (h : fn.results = #[.cell i 23, .tmp j, .tmp k]) (hi : tmps.getD i undef = .pointer (some ⟨b, 0, none⟩)) (hv : Va w b 23 #[v, u]) :
    (results fn tmps).run Tryz.prog w = .ok (.tuple #[.agg #[v, u], tmps.getD j undef, tmps.getD k undef]) w := by
  have c := hv.c0; have d := hv.c1
  rw [Array.getD_eq_getD_getElem?] at hi
  simp [results, h, hi, c, d, go_sem]
theorem cut_minus (l : List UInt8) (w : World) : Calls Tryz.prog 28 #[.string ⟨l.toArray⟩, .string ⟨#[45]⟩] w fun e w' => e = .returned (.tuple #[.string ⟨(if decide (l.head? = some 45) then l.drop 1 else l).toArray⟩, .bool (decide (l.head? = some 45))]) ∧ w' = w := by
  have h := Tryz.strings_CutPrefix ⟨l.toArray⟩ ⟨#[45]⟩ w
  have e1 : Go.Lib.hasPrefix (ByteArray.mk l.toArray).data.toList (ByteArray.mk #[45]).data.toList = decide (l.head? = some 45) := by
    show List.isPrefixOf [45] l = _
    cases l with
    | nil => rfl
    | cons c l =>
      simp only [List.isPrefixOf, Bool.and_true, List.head?_cons]
      by_cases hc : c = 45
      · subst hc; rfl
      · have h1 : ((45 : UInt8) == c) = false := by simpa using Ne.symm hc
        rw [h1]; symm; simpa using hc
  have e2 : Go.Lib.trimPrefix (ByteArray.mk l.toArray).data.toList (ByteArray.mk #[45]).data.toList = if decide (l.head? = some 45) then l.drop 1 else l := by
    unfold Go.Lib.trimPrefix; rw [e1]; rfl
  rw [e1, e2] at h
  exact h
theorem trim_0a (l : List UInt8) (w : World) : Calls Tryz.prog 31 #[.string ⟨l.toArray⟩, .string ⟨#[48]⟩] w fun e w' => e = .returned (.string ⟨(trimA l).toArray⟩) ∧ w' = w := Tryz.strings_TrimLeft_one ⟨l.toArray⟩ 48 (by decide) w
theorem trim_0b (l : List UInt8) (h : l.length ≤ 140737488355328) (w : World) : Calls Tryz.prog 32 #[.string ⟨l.toArray⟩, .string ⟨#[48]⟩] w fun e w' => e = .returned (.string ⟨(trimB l).toArray⟩) ∧ w' = w := Tryz.strings_TrimRight_one ⟨l.toArray⟩ 48 (by decide) w (by rw [bsize]; omega)
set_option maxHeartbeats 4000000 in
theorem parse_dec (l : List UInt8) (hl : l.length ≤ 140737488355328) (w : World) :
    Calls Tryz.prog 16 #[.string ⟨l.toArray⟩] w fun e W' => e = .returned (.tuple #[.agg #[.int .i64 (readL l).1, .int .i64 (readL l).2.1], .int .i64 (readL l).2.2.1, .int .i64 (readL l).2.2.2]) ∧ Below w.heap.size w W' := by
  have hcut := cut_minus l
  obtain ⟨neg, hneg⟩ : ∃ neg, decide (l.head? = some 45) = neg := ⟨_, rfl⟩
  obtain ⟨bare, hbare⟩ : ∃ bare, (if neg then l.drop 1 else l) = bare := ⟨_, rfl⟩
  rw [hneg, hbare] at hcut
  have hbl : bare.length ≤ l.length := by rw [← hbare]; split <;> simp
  have hrd : readL l = if (partsL bare).2.2.2 then ((worthL neg (trimA (partsL bare).1) (trimB (partsL bare).2.1)).1, (worthL neg (trimA (partsL bare).1) (trimB (partsL bare).2.1)).2.1, 0, (worthL neg (trimA (partsL bare).1) (trimB (partsL bare).2.1)).2.2)
      else (0, 0, l.length - bare.length + (partsL bare).2.2.1, 60) := by
    unfold readL; simp only [hneg, hbare]
  have hpa := parts_any bare (by omega)
  obtain ⟨hd1, hd2, hl1, hl2, hl3⟩ := partsL_dig bare
  obtain ⟨⟨a, b, at', ok⟩, hp⟩ : ∃ p, partsL bare = p := ⟨_, rfl⟩
  rw [hp] at hrd hpa hd1 hd2 hl1 hl2 hl3
  simp only at hrd hpa hd1 hd2 hl1 hl2 hl3
  rw [hrd]
  clear hrd hp hneg hbare
  cases ok with
  | false =>
    obtain ⟨q, hq⟩ : ∃ q : Nat, l.length - bare.length + at' = q := ⟨_, rfl⟩
    have hqi : (l.length : Int) - bare.length + at' = q := by omega
    simp only [Bool.false_eq_true, if_false, hq]
    clear hq
    have B0 : Below w.heap.size w w := Below.refl _ _
    go_enter Tryz.func16, Tryz.ntmps16
    go_wp2_with fail
    refine ent1 w _ _ (Q := fun W => Calls Tryz.prog _ _ W _) ?_
    intro x1 hb hs_x1 V0
    replace B0 := step B0 hb
    clear hb hs_x1
    refine (hcut _).mono ?_
    rintro e w' ⟨rfl, rfl⟩
    have c_V0 := V0.c0
    have f0_V0 := V0.frozen 0
    have d_V0 := V0.c1
    have f1_V0 := V0.frozen 1
    have l_V0 := V0.lt
    have m_V0 := Nat.le_of_lt l_V0
    go_wp2_with fail
    refine (hpa _).mono ?_
    rintro e x2 ⟨rfl, hb⟩
    replace V0 := Va.after hb V0
    replace B0 := step B0 hb
    clear hb
    clear c_V0 f0_V0 d_V0 f1_V0 l_V0 m_V0
    have c_V0 := V0.c0
    have f0_V0 := V0.frozen 0
    have d_V0 := V0.c1
    have f1_V0 := V0.frozen 1
    have l_V0 := V0.lt
    have m_V0 := Nat.le_of_lt l_V0
    go_wp2_with fail
    refine bodyPost_ret (results_dtt rfl rfl (V0.set2 _ _)) rfl ?_
    exact ⟨rfl, below_2 B0 (Nat.le_refl _) _ _⟩
  | true =>
    have hwo := worth_dec neg (trimA a) (trimB b) (trimA_dig hd1) (trimB_dig hd2) (by have := trimA_len a; omega) (by have := trimB_len b; omega)
    have htb := trim_0b b (by omega)
    obtain ⟨⟨U, P, er⟩, hw⟩ : ∃ p, worthL neg (trimA a) (trimB b) = p := ⟨_, rfl⟩
    rw [hw] at hwo
    simp only [if_true, hw]
    simp only at hwo
    clear hw
    have B0 : Below w.heap.size w w := Below.refl _ _
    go_enter Tryz.func16, Tryz.ntmps16
    go_wp2_with fail
    refine ent1 w _ _ (Q := fun W => Calls Tryz.prog _ _ W _) ?_
    intro x1 hb hs_x1 V0
    replace B0 := step B0 hb
    clear hb hs_x1
    refine (hcut _).mono ?_
    rintro e w' ⟨rfl, rfl⟩
    have c_V0 := V0.c0
    have f0_V0 := V0.frozen 0
    have d_V0 := V0.c1
    have f1_V0 := V0.frozen 1
    have l_V0 := V0.lt
    have m_V0 := Nat.le_of_lt l_V0
    go_wp2_with fail
    refine (hpa _).mono ?_
    rintro e x2 ⟨rfl, hb⟩
    replace V0 := Va.after hb V0
    replace B0 := step B0 hb
    clear hb
    clear c_V0 f0_V0 d_V0 f1_V0 l_V0 m_V0
    have c_V0 := V0.c0
    have f0_V0 := V0.frozen 0
    have d_V0 := V0.c1
    have f1_V0 := V0.frozen 1
    have l_V0 := V0.lt
    have m_V0 := Nat.le_of_lt l_V0
    go_wp2_with fail
    refine (trim_0a a _).mono ?_
    rintro e w2 ⟨rfl, rfl⟩
    clear c_V0 f0_V0 d_V0 f1_V0 l_V0 m_V0
    have c_V0 := V0.c0
    have f0_V0 := V0.frozen 0
    have d_V0 := V0.c1
    have f1_V0 := V0.frozen 1
    have l_V0 := V0.lt
    have m_V0 := Nat.le_of_lt l_V0
    go_wp2_with fail
    refine (htb _).mono ?_
    rintro e w3 ⟨rfl, rfl⟩
    clear c_V0 f0_V0 d_V0 f1_V0 l_V0 m_V0
    have c_V0 := V0.c0
    have f0_V0 := V0.frozen 0
    have d_V0 := V0.c1
    have f1_V0 := V0.frozen 1
    have l_V0 := V0.lt
    have m_V0 := Nat.le_of_lt l_V0
    go_wp2_with fail
    refine (hwo _).mono ?_
    rintro e x3 ⟨rfl, hb⟩
    replace V0 := Va.after hb V0
    replace B0 := step B0 hb
    clear hb
    clear c_V0 f0_V0 d_V0 f1_V0 l_V0 m_V0
    have c_V0 := V0.c0
    have f0_V0 := V0.frozen 0
    have d_V0 := V0.c1
    have f1_V0 := V0.frozen 1
    have l_V0 := V0.lt
    have m_V0 := Nat.le_of_lt l_V0
    have p0_V0 := (V0.old (.cells #[.int .i64 U, .int .i64 P] 23)).c0
    have q0_V0 := (V0.old (.cells #[.int .i64 U, .int .i64 P] 23)).frozen 0
    have p1_V0 := (V0.old (.cells #[.int .i64 U, .int .i64 P] 23)).c1
    have q1_V0 := (V0.old (.cells #[.int .i64 U, .int .i64 P] 23)).frozen 1
    go_wp2_with fail
    have B1 := below_2 B0 (Nat.le_refl _) (.int .i64 U) (.int .i64 P)
    refine bodyPost_ret (results_dtt rfl rfl ((V0.set2 _ _).old _)) rfl ?_
    exact ⟨rfl, B1.alloc B1.size _⟩
end Go.Proofs.YtfmllkaajopfhaaGreatDoor
namespace Go.Proofs.YtfmllkaajopfhaaGreatDoor
open Go.RowKit Go.Shelf
set_option linter.unusedVariables false

theorem aw1 : readL [45, 50, 46, 53, 48] = (-25, 1, 0, 0) := by decide
theorem aw2 : readL [53, 46, 120] = (0, 0, 2, 60) := by decide
theorem aw3 : dtx (-5) 2 = [45, 48, 46, 48, 53] := by
  unfold dtx
  rw [show Int.natAbs (-5) = 5 from rfl, Go.Lib.decDigits_one (by omega)]
  decide
set_option maxHeartbeats 4000000 in
theorem awake6 (w : World) (hT : Pt w) : Calls Tryz.prog 6 #[] w fun e W' => e = .returned (.bool true) ∧ Below w.heap.size w W' := by
  have p1 := parse_dec [45, 50, 46, 53, 48] (by decide)
  rw [aw1] at p1
  have p2 := parse_dec [53, 46, 120] (by decide)
  rw [aw2] at p2
  have HT : Hid (Pt w) := hT
  clear hT
  have B0 : Below w.heap.size w w := Below.refl _ _
  go_enter Tryz.func6, Tryz.ntmps6
  go_wp2_with fail
  refine (p1 _).mono ?_
  rintro e x1 ⟨rfl, hb⟩
  replace B0 := step B0 hb
  clear hb
  go_wp2_with fail
  refine ent1 x1 _ _ (Q := fun W => Calls Tryz.prog _ _ W _) ?_
  intro x2 hb hs_x2 V0
  replace B0 := step B0 hb
  clear hb hs_x2
  have t1 := dtext_ok (-5) 2 (by omega) (by omega) ⟨by omega, fun _ => by decide⟩ x2 (HT.out.to B0)
  rw [aw3] at t1
  refine (t1).mono ?_
  rintro e x3 ⟨rfl, hb⟩
  replace V0 := Va.after hb V0
  replace B0 := step B0 hb
  clear hb
  have c_V0 := V0.c0
  have f0_V0 := V0.frozen 0
  have d_V0 := V0.c1
  have f1_V0 := V0.frozen 1
  have l_V0 := V0.lt
  have m_V0 := Nat.le_of_lt l_V0
  go_wp2_with fail
  refine (p2 _).mono ?_
  rintro e x4 ⟨rfl, hb⟩
  replace V0 := Va.after hb V0
  replace B0 := step B0 hb
  clear hb
  clear c_V0 f0_V0 d_V0 f1_V0 l_V0 m_V0
  have c_V0 := V0.c0
  have f0_V0 := V0.frozen 0
  have d_V0 := V0.c1
  have f1_V0 := V0.frozen 1
  have l_V0 := V0.lt
  have m_V0 := Nat.le_of_lt l_V0
  go_wp2_with fail
  refine ent1 x4 _ _ (Q := fun W => Calls Tryz.prog _ _ W _) ?_
  intro x5 hb hs_x5 V1
  replace V0 := Va.after hb V0
  replace B0 := step B0 hb
  clear hb hs_x5
  refine (check_no 20 1 (fun h => h.2.2 (by omega) rfl) _).mono ?_
  rintro e x6 ⟨rfl, hb⟩
  replace V0 := Va.after hb V0
  replace V1 := Va.after hb V1
  replace B0 := step B0 hb
  clear hb
  clear c_V0 f0_V0 d_V0 f1_V0 l_V0 m_V0
  go_wp2_with fail
  go_ret
  exact ⟨rfl, B0⟩
end Go.Proofs.YtfmllkaajopfhaaGreatDoor
namespace Go.Proofs.YtfmllkaajopfhaaGreatDoor
open Go.RowKit Go.Shelf
set_option linter.unusedVariables false

set_option maxHeartbeats 4000000 in
set_option maxRecDepth 8000 in
theorem dcompares_walk (U P V Q : Int) (w : World) (h1 : -9223372036854775808 ≤ U) (h2 : U ≤ 9223372036854775807) (g1 : -9223372036854775808 ≤ V) (g2 : V ≤ 9223372036854775807) (hP : Pt w) (hT : Tn w) :
    Calls Tryz.prog 3 #[.agg #[.int .i64 U, .int .i64 P], .agg #[.int .i64 V, .int .i64 Q]] w fun e w' => e = .returned (.bool true) ∧ Below w.heap.size w w' := by
  have HP : Hid (Pt w) := hP
  have HT : Hid (Tn w) := hT
  clear hP hT
  by_cases hc : CanI U P ∧ CanI V Q
  ·
    obtain ⟨p, rfl⟩ := Int.eq_ofNat_of_zero_le hc.1.1
    obtain ⟨q, rfl⟩ := Int.eq_ofNat_of_zero_le hc.2.1
    have c1 := (canI_iff U p).1 hc.1
    have c2 := (canI_iff V q).1 hc.2
    obtain ⟨dd, hdd⟩ : ∃ dd, dcw U p V q = dd := ⟨_, rfl⟩
    have HD : Hid (dcw U p V q = dd) := hdd
    have bb : (dd == dd) = true := beq_self_eq_true dd
    have HB : Hid ((-9223372036854775808 ≤ U ∧ U ≤ 9223372036854775807) ∧ (-9223372036854775808 ≤ V ∧ V ≤ 9223372036854775807)) := ⟨⟨h1, h2⟩, g1, g2⟩
    have HCC : Hid (Can U p ∧ Can V q) := ⟨c1, c2⟩
    clear hdd hc c1 c2 h1 h2 g1 g2
    have B0 : Below w.heap.size w w := Below.refl _ _
    go_enter Tryz.func3, Tryz.ntmps3
    go_wp2_with fail
    refine ent2 w _ _ _ _ (Q := fun W => Calls Tryz.prog _ _ W _) ?_
    intro x1 hb hs_x1 V0 V1
    replace B0 := step B0 hb
    clear hb hs_x1
    refine (rcmp6_ok U V p q HB.out.1.1 HB.out.1.2 HCC.out.1 HB.out.2.1 HB.out.2.2 HCC.out.2 _).mono ?_
    rintro e x2 ⟨rfl, hb⟩
    replace V0 := Va.after hb V0
    replace V1 := Va.after hb V1
    replace B0 := step B0 hb
    clear hb
    rw [HD.out]
    have c_V0 := V0.c0
    have f0_V0 := V0.frozen 0
    have d_V0 := V0.c1
    have f1_V0 := V0.frozen 1
    have l_V0 := V0.lt
    have m_V0 := Nat.le_of_lt l_V0
    have c_V1 := V1.c0
    have f0_V1 := V1.frozen 0
    have d_V1 := V1.c1
    have f1_V1 := V1.frozen 1
    have l_V1 := V1.lt
    have m_V1 := Nat.le_of_lt l_V1
    go_wp2_with fail
    refine (dcmp_ok U V p q HB.out.1.1 HB.out.1.2 HCC.out.1 HB.out.2.1 HB.out.2.2 HCC.out.2 _ (HT.out.to B0)).mono ?_
    rintro e x3 ⟨rfl, hb⟩
    replace V0 := Va.after hb V0
    replace V1 := Va.after hb V1
    replace B0 := step B0 hb
    clear hb
    rw [qcmp_dcw, HD.out]
    clear c_V0 f0_V0 d_V0 f1_V0 l_V0 m_V0 c_V1 f0_V1 d_V1 f1_V1 l_V1 m_V1
    go_wp2_with fail
    refine (awake6 _ (HP.out.to B0)).mono ?_
    rintro e x4 ⟨rfl, hb⟩
    replace V0 := Va.after hb V0
    replace V1 := Va.after hb V1
    replace B0 := step B0 hb
    clear hb
    go_wp2_with fail
    go_ret
    exact ⟨rfl, B0⟩
  ·
    have HB : Hid (-9223372036854775808 ≤ U ∧ U ≤ 9223372036854775807) := ⟨h1, h2⟩
    clear h1 h2 g1 g2
    have B0 : Below w.heap.size w w := Below.refl _ _
    go_enter Tryz.func3, Tryz.ntmps3
    go_wp2_with fail
    refine ent2 w _ _ _ _ (Q := fun W => Calls Tryz.prog _ _ W _) ?_
    intro x1 hb hs_x1 V0 V1
    replace B0 := step B0 hb
    clear hb hs_x1
    refine (rcmp6_no U P V Q hc _).mono ?_
    rintro e x2 ⟨rfl, hb⟩
    replace V0 := Va.after hb V0
    replace V1 := Va.after hb V1
    replace B0 := step B0 hb
    clear hb
    have c_V0 := V0.c0
    have f0_V0 := V0.frozen 0
    have d_V0 := V0.c1
    have f1_V0 := V0.frozen 1
    have l_V0 := V0.lt
    have m_V0 := Nat.le_of_lt l_V0
    have c_V1 := V1.c0
    have f0_V1 := V1.frozen 0
    have d_V1 := V1.c1
    have f1_V1 := V1.frozen 1
    have l_V1 := V1.lt
    have m_V1 := Nat.le_of_lt l_V1
    go_wp2_with fail
    refine (dcmp_no U P V Q HB.out.1 HB.out.2 hc _ (HT.out.to B0)).mono ?_
    rintro e x3 ⟨rfl, hb⟩
    replace V0 := Va.after hb V0
    replace V1 := Va.after hb V1
    replace B0 := step B0 hb
    clear hb
    clear c_V0 f0_V0 d_V0 f1_V0 l_V0 m_V0 c_V1 f0_V1 d_V1 f1_V1 l_V1 m_V1
    go_wp2_with fail
    refine (awake6 _ (HP.out.to B0)).mono ?_
    rintro e x4 ⟨rfl, hb⟩
    replace V0 := Va.after hb V0
    replace V1 := Va.after hb V1
    replace B0 := step B0 hb
    clear hb
    go_wp2_with fail
    go_ret
    exact ⟨rfl, B0⟩
end Go.Proofs.YtfmllkaajopfhaaGreatDoor
namespace Go.Proofs.YtfmllkaajopfhaaGreatDoor
open Go.RowKit Go.Shelf
set_option linter.unusedVariables false

theorem gTens : Tryz.prog.globalNamed "tollbook/decimal.tens" = some 0 := by kernel_rfl
theorem gTensT : (Tryz.prog.globals[0]?).map (·.type) = some 58 := by kernel_rfl
theorem cTens : Tryz.prog.cellsOf 58 = 10 := by kernel_rfl
theorem cI64 : Tryz.prog.cellsOf 2 = 1 := by kernel_rfl
theorem tnOf {W : World} {rest : List (String × DataW Unit)} (h : laidMet Tryz.prog (("tollbook/decimal.tens", Rows.laid_tollbook_decimal_tens) :: rest) W) : Tn W :=
  Go.Lib.tabIs_of_head (zs := [1, 10, 100, 1000, 10000, 100000, 1000000, 10000000, 100000000, 1000000000]) gTens gTensT Tryz.underlying58 Tryz.underlying2 cI64 cTens h
end Go.Proofs.YtfmllkaajopfhaaGreatDoor
namespace Go.Proofs.YtfmllkaajopfhaaGreatDoor
set_option linter.unusedVariables false
theorem wf64 {a : Int} (w : (Lit.int .i64 a).wf = true) : -9223372036854775808 ≤ a ∧ a ≤ 9223372036854775807 := by simp [Lit.wf, IntKind.min, IntKind.max, IntKind.signed, IntKind.bits] at w; omega
theorem decimalCompares_walk0 (a0 q0 a1 q1 : Int) (W : World) (wa0 : (Lit.int .i64 a0).wf = true) (wq0 : (Lit.int .i64 q0).wf = true) (wa1 : (Lit.int .i64 a1).wf = true) (wq1 : (Lit.int .i64 q1).wf = true) (hP : Pt W) (hT : Tn W) :
    Calls Tryz.prog 3 #[.agg #[.int .i64 a0, .int .i64 q0], .agg #[.int .i64 a1, .int .i64 q1]] W fun e W' => e = .returned (.bool true) ∧ Go.RowKit.Below W.heap.size W W' :=
  dcompares_walk a0 q0 a1 q1 W (wf64 wa0).1 (wf64 wa0).2 (wf64 wa1).1 (wf64 wa1).2 hP hT
end Go.Proofs.YtfmllkaajopfhaaGreatDoor
namespace Go.Proofs.YtfmllkaajopfhaaGreatDoor.decimalCompares
open Go.ChangeShapes Go.WideShapes Go.ChangeAt Go.RowKit
set_option linter.unusedVariables false

theorem own : ownKnob Tryz.prog.godebug = none := by kernel_rfl
theorem laidOut : laidOutB Tryz.prog = true := by kernel_rfl
theorem bytes8 : Tryz.prog.bytesOf 36 = 8 := by kernel_rfl

set_option maxRecDepth 100000 in
theorem contract (H : Type) (enc : TypeId × Value → H) (W : World) (base : Nat) (args : Array Value) (ds gs : List (DataW H)) (before : List MemPlace)
    (hval : ∀ (j : Nat) t v, Tryz.f3.params[j]? = some t → args[j]? = some v → Value.okWide Tryz.prog W .any base t v)
    (hW : DataW.Whole enc Tryz.prog Tryz.f3.params.toList Rows.decimalComparesSpec.vars false W args.toList ds gs before) (hsz : (DataW.weightsEach Tryz.prog (Tryz.f3.params.toList ++ Rows.decimalComparesSpec.plain.varTypes Tryz.prog) (ds ++ gs)).all (· ≤ reachBytes) = true) (hL0 : laidMetH Tryz.prog Rows.decimalComparesRow.laid W) :
    Calls Tryz.prog 3 args W fun e W' => ∃ v, e = .returned v ∧ Rows.decimalComparesSpec.post enc Tryz.prog Tryz.f3 false true false false W args v W' := by
  rw [MakeChecks.laidMetH_plain _ _ _ (by kernel_rfl)] at hL0
  have tb0 := by first | exact ptOf hL0 | exact ptOf hL0.tail | exact ptOf hL0.tail.tail | exact ptOf hL0.tail.tail.tail | exact ptOf hL0.tail.tail.tail.tail | exact ptOf hL0.tail.tail.tail.tail.tail | exact ptOf hL0.tail.tail.tail.tail.tail.tail | exact ptOf hL0.tail.tail.tail.tail.tail.tail.tail
  have tb1 := by first | exact tnOf hL0 | exact tnOf hL0.tail | exact tnOf hL0.tail.tail | exact tnOf hL0.tail.tail.tail | exact tnOf hL0.tail.tail.tail.tail | exact tnOf hL0.tail.tail.tail.tail.tail | exact tnOf hL0.tail.tail.tail.tail.tail.tail | exact tnOf hL0.tail.tail.tail.tail.tail.tail.tail
  have hW' := hW
  obtain ⟨p, q, hA0, hV, rfl, hfz, hnd⟩ := hW
  have hA : DataW.TrodAll enc Tryz.prog W 0 (fun _ => true) true Tryz.f3.params.toList args.toList ds p := hA0
  rw [Tryz.params3] at hA hval hsz
  obtain ⟨v0, vs0, d0, ds0, p0, q0, hargs, rfl, rfl, h0, r0⟩ := trodAll_cons hA
  obtain ⟨v1, vs1, d1, ds1, p1, q1, rfl, rfl, rfl, h1, r1⟩ := trodAll_cons r0
  obtain ⟨rfl, rfl, rfl⟩ := trodAll_nil r1
  obtain rfl : args = #[v0, v1] := by cases args; simp_all
  obtain ⟨rfl, rfl⟩ := trodVars_none hV
  have k0 := h0
  have lt0 : ∀ x ∈ p0, x.block < W.heap.size := by obtain ⟨m, hm⟩ := k0; exact DataW.trod_lt m _ _ _ hm
  obtain ⟨u0, x0, y00, y01, m0, rfl, rfl, rfl, hy00, hy01⟩ := Go.Joins.open_agg2 Tryz.underlying23 (by kernel_rfl) (by kernel_rfl) (hval 0 23 v0 rfl rfl) h0
  obtain ⟨a0, ha0, hd0, wa0⟩ := DataW.trod_int Tryz.underlying2 hy00
  obtain ⟨q0, hq0, he0, wq0⟩ := DataW.trod_int Tryz.underlying3 hy01
  obtain rfl : u0 = .int .i64 a0 := by simpa using ha0
  obtain rfl : x0 = .int .i64 q0 := by simpa using hq0
  have k1 := h1
  have lt1 : ∀ x ∈ p1, x.block < W.heap.size := by obtain ⟨m, hm⟩ := k1; exact DataW.trod_lt m _ _ _ hm
  obtain ⟨u1, x1, y10, y11, m1, rfl, rfl, rfl, hy10, hy11⟩ := Go.Joins.open_agg2 Tryz.underlying23 (by kernel_rfl) (by kernel_rfl) (hval 1 23 v1 rfl rfl) h1
  obtain ⟨a1, ha1, hd1, wa1⟩ := DataW.trod_int Tryz.underlying2 hy10
  obtain ⟨q1, hq1, he1, wq1⟩ := DataW.trod_int Tryz.underlying3 hy11
  obtain rfl : u1 = .int .i64 a1 := by simpa using ha1
  obtain rfl : x1 = .int .i64 q1 := by simpa using hq1
  clear hA0
  refine (decimalCompares_walk0 a0 q0 a1 q1 W wa0 wq0 wa1 wq1 tb0 tb1).mono fun e W' ⟨he, bel⟩ => ?_
  subst he
  exact ⟨_, rfl, _, _, _, [], _, [], hW', trodAll_mk1 (shut_bool Tryz.underlying4 _), (trodAll_cons_mk (Below.trod laidOut (by kernel_rfl) (of_decide_eq_true (by kernel_rfl)) k0 bel lt0) (trodAll_cons_mk (Below.trod laidOut (by kernel_rfl) (of_decide_eq_true (by kernel_rfl)) k1 bel lt1) trodAll_mk0)), rfl, bel.frame _, fun h => by cases h⟩

set_option maxRecDepth 100000 in
theorem lifted (os : Os) (started : os.Started) (H : Type) (enc : TypeId × Value → H) :
    ReturnsInHanded {} Tryz.checked os 3 .any (fun w args => (Rows.decimalComparesSpec.pre enc Tryz.prog Tryz.f3 [] false w args ∧ laidMetH Tryz.prog Rows.decimalComparesRow.laid w) ∧ sizedMet enc Tryz.prog Tryz.f3 (OpenSpec.ofChange Rows.decimalComparesSpec) false w args)
      (Rows.decimalComparesSpec.post enc Tryz.prog Tryz.f3 false true false false) := by
  refine returnsInHanded_of_change_and (C := Tryz.checked) (X := fun w _ => laidMetH Tryz.prog Rows.decimalComparesRow.laid w) (fun _ _ _ hh h => h.of_heap hh) own started (by kernel_rfl) Tryz.func3
    (ChangeSpec.witness_shaped (enc := enc) (C := Tryz.checked) (os := os) (X := fun w _ => laidMetH Tryz.prog Rows.decimalComparesRow.laid w) false (World.laidAll Tryz.prog os Rows.decimalComparesRow.laid) #[.agg #[.int .i64 0, .int .i64 0], .agg #[.int .i64 0, .int .i64 0]] 8 (World.laidAll_os _ _ _)
      (World.shaped_of_ZipB (by kernel_rfl) (by kernel_rfl)) (by kernel_rfl) (by kernel_rfl) (by kernel_rfl)
      (by rw [MakeChecks.laidMetH_plain _ _ _ (by kernel_rfl)]; exact laidMet_laidAll _ (by kernel_rfl) (by kernel_rfl))) ?_
  intro W base args ds gs before hval0 hW _ hsz0 hL _
  exact contract H enc W base args ds gs before hval0 hW hsz0 hL

theorem over : Rows.decimalComparesRow.holds Tryz.pinned (OpenSpec.ofChange Rows.decimalComparesSpec) :=
  OpenClaim.holds_of_wide 3 Tryz.f3 rfl rfl rfl rfl rfl rfl rfl ⟨rfl, rfl, rfl, rfl, rfl⟩ rfl rfl rfl rfl rfl (by kernel_rfl) Tryz.func3 (by kernel_rfl)
    (of_decide_eq_true (by kernel_rfl)) (by unfold Func.isWrapper; first | (rw [if_pos (by decide +kernel)]; kernel_rfl) | (rw [if_neg (by decide +kernel)]; exact ⟨rfl, rfl⟩))
    (fun os started H enc _ => lifted os started H enc)
end Go.Proofs.YtfmllkaajopfhaaGreatDoor.decimalCompares
namespace Go.Proofs.YtfmllkaajopfhaaGreatDoor
theorem decimalCompares_plain (f : FuncId) (fn : Func) (hf : Tryz.pinned.checked.prog.funcNamed "tollbook/tollbooklaw06.DecimalCompares" = some f) (hfn : Tryz.pinned.checked.prog.funcs[f]? = some fn) :
    false = Tryz.pinned.checked.prog.looks [] ∧ ∀ (j : Nat) t, fn.params[j]? = some t → Tryz.pinned.checked.prog.wantsStandIn t = false := by
  obtain rfl : f = 3 := Option.some.inj ((show Tryz.prog.funcNamed "tollbook/tollbooklaw06.DecimalCompares" = some 3 by kernel_rfl).symm.trans hf) |>.symm
  obtain rfl : fn = Tryz.f3 := (Option.some.inj (Tryz.func3.symm.trans hfn)).symm
  refine ⟨by kernel_rfl, fun j t ht => ?_⟩
  rw [Tryz.params3] at ht
  have hm : t ∈ [23] := by have := Array.mem_of_getElem? ht; simp at this; simp; omega
  have hall : ([23].all fun u => !Tryz.prog.wantsStandIn u) = true := by kernel_rfl
  exact (show Tryz.prog.wantsStandIn t = false by simpa using List.all_eq_true.1 hall t hm)
theorem decimalComparesCard_holds : Rows.DecimalComparesCardSaid :=
  Claim7.holds_tied_plain_at .later [] _ _ _ _ decimalCompares.over (fun _ h => by cases h) (by kernel_rfl) (fun _ h => by cases h) decimalCompares_row_tie rfl ⟨rfl, rfl⟩ (by kernel_rfl) rfl decimalCompares_plain (by kernel_rfl)
#print axioms decimalComparesCard_holds
end Go.Proofs.YtfmllkaajopfhaaGreatDoor
