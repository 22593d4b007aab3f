/-
  For every ratio that is said DecimalOfs returns true; what is handed in reads as before. Conditions: the listed variables hold what the program's text lays.
-/
import Derived.Test.YtebbblhafjaaiaaGreatDoorBsI
import Derived.Test.YtebbblhafjaaiaaGreatDoorBsJ
import Derived.Test.YtebbblhafjaaiaaGreatDoorRt4
import Derived.Test.YtebbblhafjaaiaaGreatDoorDec7
import Derived.Test.YtebbblhafjaaiaaGreatDoorBsL
import Derived.Test.YtebbblhafjaaiaaGreatDoorDec9
import Derived.Test.YtebbblhafjaaiaaGreatDoorDp1
import Derived.Test.YtebbblhafjaaiaaGreatDoorDp2
import Derived.Test.YtebbblhafjaaiaaGreatDoorTxP
import Derived.Test.YtebbblhafjaaiaaGreatDoorShelf
import Derived.Test.YtebbblhafjaaiaaGreatDoorBsF
import Derived.Shelf.Strconv.Itoa4
import Derived.Lib.AppendIntMem
import Derived.Test.YtebbblhafjaaiaaGreatDoorJoinFew
import Derived.Test.YtebbblhafjaaiaaGreatDoorBsH
import Derived.Test.YtebbblhafjaaiaaGreatDoorBsM
import Derived.Shelf.Strings.BuilderK
import Derived.Shelf.Strings.Builder2
import Derived.Shelf.Strings.Repeat
import Derived.Test.YtebbblhafjaaiaaGreatDoorReads2
import Derived.Test.YtebbblhafjaaiaaGreatDoorDec1
import Derived.Test.YtebbblhafjaaiaaGreatDoorDecT
import Derived.Test.YtebbblhafjaaiaaGreatDoorStrP
import Derived.Deep.QuietTactic
import Derived.BigQuiet
import Derived.Test.YtebbblhafjaaiaaGreatDoorDec6
import Derived.Test.YtebbblhafjaaiaaGreatDoorRt3
import Derived.Test.YtebbblhafjaaiaaGreatDoorRows
import Derived.Lib.LaidTab
import Derived.Stop.LaidErr
import Derived.Test.YtebbblhafjaaiaaGreatDoorCards
import Derived.Test.YtebbblhafjaaiaaGreatDoorTie
import Derived.Lay
import Derived.LaidLaws
import Derived.MakeChecks
import Derived.SevenTiedAt
import Derived.WalkKit
import Derived.ProofKit
import Derived.OpenShut
import Derived.ShutString
import Derived.ChangeOld
import Derived.SizedLaws
import Derived.Lib.SmallJoins
namespace Go.Proofs.YtebbblhafjaaiaaGreatDoor
open Go.RowKit Go.Shelf
set_option linter.unusedVariables false

theorem copyl_any (a : Option Addr) (la ca : Nat) (zs : List Int) (w : World) (h : Sl w a la zs) (hn : a = none → la = 0 ∧ ca = 0) (hl : la ≤ 17592186044416) :
    Calls Tryz.prog 66 #[.slice a la ca] w fun e w' => ∃ a' c', e = .returned (.slice a' la c') ∧ Sl w' a' la zs ∧ la ≤ c' ∧ (a' = none → la = 0 ∧ c' = 0) ∧ Below w.heap.size w w' := by
  have hL := h.2.1
  have hz := h.1
  cases a with
  | none =>
    obtain ⟨rfl, rfl⟩ := hn rfl
    have hz : zs = [] := List.eq_nil_of_length_eq_zero h.1
    subst hz
    go_enter Tryz.func66, Tryz.ntmps66
    go_wp2_with fail
    go_ret
    exact ⟨_, _, rfl, h, fun _ => rfl, Below.refl _ _⟩
  | some ad =>
    have HSL : Hid (Sl w (some ad) la zs) := h
    have HLL : Hid (Limbs zs ∧ zs.length = la) := ⟨hL, hz⟩
    clear h hn hL hz
    go_enter Tryz.func66, Tryz.ntmps66
    go_wp2_with (at_builtin; refine wpList_app_some rfl (.tmp 4) (.tmp 5) rfl w.heap.size _ [] rfl (Gr.nil _ _) ad la ca zs rfl HSL.out (by simpa using hl) (Nat.le_refl _) ?_; intro v1 w1 hG hb)
    go_ret
    obtain ⟨a1, c1, gm, e1, h1, h2, -, h3, -⟩ := Gr.parts (by simpa using hG.out) HLL.out.1
    rw [HLL.out.2] at e1 h1 h2 h3
    subst e1
    exact ⟨a1, c1, rfl, h2, h1, h3, hb⟩
end Go.Proofs.YtebbblhafjaaiaaGreatDoor
namespace Go.Proofs.YtebbblhafjaaiaaGreatDoor
open Go.RowKit Go.Shelf

theorem gr_own {w : World} {B : Nat} {v : Value} {cs : List Int} (h : Gr w B v cs) : ∀ a cap, v = .slice a cs.length cap → ∀ x : Nat, x ≠ 0 → x = cs.length → ∃ g cur, a = some ⟨g, 0, none⟩ ∧ B ≤ g ∧ w.heap[g]? = some (.cells cur 94 (0, 0)) := by
  intro a cap hv x hx hxc
  obtain ⟨h1, h2 | ⟨g, cap2, cur, rfl, hB, hh, hc, hm, hs, ht⟩⟩ := h
  · omega
  · cases hv
    exact ⟨g, cur, rfl, hB, hh⟩
/-- A list of digits is answered, trimmed, of that number, in memory of its own. -/
def DRes3 (w w' : World) (e : Ending) (N : Int) (bound : Nat) : Prop :=
  ∃ a m c ds, e = .returned (.slice a m c) ∧ m ≤ c ∧ m ≤ bound ∧ Sl w' a m ds ∧ H.Limbs ds ∧ usedN ds = m ∧ H.num ds = N ∧ (m ≠ 0 → ∃ g cur, a = some ⟨g, 0, none⟩ ∧ w.heap.size ≤ g ∧ w'.heap[g]? = some (.cells cur 94 (0, 0))) ∧ Below w.heap.size w w'
set_option maxHeartbeats 400000 in
theorem cut3_any (a : Option Addr) (len cap : Nat) (zs : List Int) (w : World) (h : Sl w a len zs) (hl : len ≤ 40000000000000) (hcap : len ≤ cap) :
    Calls Tryz.prog 149 #[.slice a len cap] w fun e w' => e = .returned (.slice a (usedN zs) cap) ∧ w' = w := by
  obtain ⟨hz, hL, hc⟩ := h
  by_cases h0 : len = 0
  · subst h0
    have e0 : usedN zs = 0 := by have := usedN_le zs; omega
    rw [e0]
    cases a with
    | none =>
      go_enter Tryz.func149, Tryz.ntmps149
      go_wp2_with fail
      refine wp_loop_rounds 1 ?_
      rw [rounds_succ]
      go_wp2_with fail
      go_ret
      exact ⟨rfl, rfl⟩
    | some a =>
      go_enter Tryz.func149, Tryz.ntmps149
      go_wp2_with fail
      refine wp_loop_rounds 1 ?_
      rw [rounds_succ]
      go_wp2_with fail
      go_ret
      exact ⟨rfl, rfl⟩
  · obtain ⟨b, off, rfl, hcell⟩ := hc (by omega)
    go_enter Tryz.func149, Tryz.ntmps149
    go_wp2_with fail
    go_loop [3] (fun i => ∃ k : Nat, k ≤ len ∧ i = .int .i64 k ∧ Hid (∀ j, k ≤ j → j < len → zs.getD j 0 = 0)) (fun i => (intOf i).toNat)
    case atStart => exact ⟨len, Nat.le_refl _, rfl, fun j h1 h2 => absurd h1 (by omega)⟩
    case round =>
      obtain ⟨k, hk, rfl, hI⟩ := hrel
      by_cases hlt : 0 < k
      · have hcx := hcell (k - 1) (by omega)
        have ex : ((k : Int) - 1).toNat = k - 1 := by omega
        obtain ⟨x, hx⟩ : ∃ x, zs.getD (k - 1) 0 = x := ⟨_, rfl⟩
        rw [hx] at hcx
        have HX : Hid (zs.getD (k - 1) 0 = x) := hx
        clear hx
        by_cases hx0 : x = 0
        · have g1 : (x == 0) = true := by simp [hx0]
          have HX0 : Hid (x = 0) := hx0
          clear hx0
          go_wp2_with fail
          go_round
          case rel =>
            refine ⟨k - 1, by omega, by rw [show ((k - 1 : Nat) : Int) = (k : Int) - 1 by omega], ?_⟩
            intro j h1 h2
            by_cases hj : j = k - 1
            · rw [hj, HX.out, HX0.out]
            · exact hI.out j (by omega) h2
          case measure => simp [intOf]; omega
        · have g1 : (x == 0) = false := by simp [hx0]
          have hu : usedN zs = k := usedN_eq (by omega) (fun i h1 h2 => hI.out i h1 (by omega)) (.inr (by rw [HX.out]; exact hx0))
          have HU : Hid (usedN zs = k) := hu
          clear hu hx0
          go_wp2_with fail
          go_ret
          exact ⟨ret_sl HU.out.symm, rfl⟩
      · obtain rfl : k = 0 := by omega
        have hu : usedN zs = 0 := usedN_eq (by omega) (fun i h1 h2 => hI.out i (by omega) (by omega)) (.inl rfl)
        have HU : Hid (usedN zs = 0) := hu
        clear hu
        go_wp2_with fail
        go_ret
        exact ⟨ret_sl HU.out.symm, rfl⟩

set_option maxHeartbeats 1000000 in
theorem halves3 (a : Option Addr) (la ca : Nat) (zs : List Int) (w : World) (h : Sl w a la zs) (hl : la ≤ 8000000000000) :
    Calls Tryz.prog 147 #[.slice a la ca] w fun e w' => DRes3 w w' e (num zs) (2 * la) := by
  have hz := h.1
  have hL := h.2.1
  go_enter Tryz.func147, Tryz.ntmps147
  go_wp2_with fail
  go_loopw [3, 4] (fun v i wr => ∃ (k : Nat) (cs : List Int), k ≤ la ∧ i = .int .i64 k ∧ Hid (GInv zs cs k) ∧ Hid (Gr wr w.heap.size v cs) ∧ Below w.heap.size w wr) (fun _ i _ => la - (intOf i).toNat)
  case atStart => exact ⟨0, [], Nat.zero_le _, rfl, ⟨rfl, H.Limbs.nil, rfl⟩, Gr.nil _ _, Below.refl _ _⟩
  case round =>
    obtain ⟨k, cs, hk, rfl, hI, hG, hb⟩ := hrel
    by_cases hlt : k < la
    · have hs := h.below hb (Nat.le_refl _)
      obtain ⟨b, off, rfl, hcell⟩ := hs.2.2 (by omega)
      have hcx := hcell k hlt
      have hstep := ginv_step hL hI.out
      have hw := hL.getD k
      obtain ⟨x, hx⟩ : ∃ x, zs.getD k 0 = x := ⟨_, rfl⟩
      rw [hx] at hcx hstep hw
      obtain ⟨x1, x2⟩ := hw
      obtain ⟨d0, hd0⟩ : ∃ d, x % 4294967296 = d := ⟨_, rfl⟩
      obtain ⟨d1, hd1⟩ : ∃ d, x / 4294967296 = d := ⟨_, rfl⟩
      rw [hd0, hd1] at hstep
      have e1 : x.tmod 4294967296 = d0 := by rw [Int.tmod_eq_emod_of_nonneg x1, hd0]
      have e2 : IntKind.u64.wrap (x.tdiv 4294967296) = d1 := by rw [Int.tdiv_eq_ediv_of_nonneg x1, IntKind.wrap_u64]; omega
      have HS : Hid (GInv zs (cs ++ [d0, d1]) (k + 1)) := hstep
      have hcl : cs.length ≤ 2 * k := by have := hI.out.1; omega
      clear hs hcell hx hstep hd0 hd1
      go_wp2_with fail
      go_region_law (refine step_app rfl (.tmp 11) (.tmp 22) rfl w.heap.size u3 cs (by simp [Act.eval]) (by exact hG.out.alloc _) wr.heap.size 2 2 [d0, d1] (by simp [Act.eval]) rfl (by exact heap_alloc_new _ _) (by omega) (by have := hb.size; simp; omega) ?_; intro v1 w1 hG1 hb1)
      all_goals
        have hb2 : Below w.heap.size w w1 := ((hb.alloc hb.size _).drew).trans hb1
        have HG1 : Hid (Gr w1 w.heap.size v1 (cs ++ [d0, d1])) := hG1
        clear hG1 hb1
        go_wp2_with fail
        go_roundw
        case rel => exact ⟨k + 1, _, by omega, by go_num, HS, HG1, hb2⟩
        case measure => simp [intOf]; omega
    · obtain rfl : k = la := by omega
      obtain ⟨i1, i2, i3⟩ := hI.out
      rw [List.take_of_length_le (by omega)] at i3
      have hown := gr_own hG.out
      obtain ⟨aa, cap, hv, hcap, hsl⟩ := hG.out.sl i2.up
      have hu := usedN_le cs
      have hle : cs.length ≤ 2 * k := by omega
      rw [hv] at hown
      have HOWN : Hid (∀ x : Nat, x ≠ 0 → x = cs.length → ∃ g cur, aa = some ⟨g, 0, none⟩ ∧ w.heap.size ≤ g ∧ wr.heap[g]? = some (.cells cur 94 (0, 0))) := hown aa cap rfl
      rw [hv]
      clear hG hv i1 hown
      go_wp2_with fail
      refine (cut3_any aa cs.length cap cs _ hsl (by omega) hcap).mono ?_
      rintro e w2 ⟨rfl, rfl⟩
      go_wp2_with fail
      go_ret
      exact ⟨aa, usedN cs, cap, cs.take (usedN cs), rfl, by omega, by omega, hsl.take hu, i2.take _, usedN_take cs (Nat.le_refl _), by rw [H.num_take_used cs (Nat.le_refl _)]; exact i3, fun h0 => HOWN.out cs.length (by omega) rfl, hb⟩
set_option maxHeartbeats 1000000 in
theorem limbs3 (a : Option Addr) (m ca : Nat) (ds : List Int) (w : World) (h : Sl w a m ds) (hd : H.Limbs ds) (hl : m ≤ 17000000000000) :
    Calls Tryz.prog 201 #[.slice a m ca] w fun e w' => LRes w w' e (H.num ds) m := by
  have hz := h.1
  have HSL : Hid (Sl w a m ds) := h
  clear h
  go_enter Tryz.func201, Tryz.ntmps201
  go_wp2_with fail
  go_loopw [3, 4] (fun v i wr => ∃ (k : Nat) (cs : List Int), i = .int .i64 (2 * (k : Int)) ∧ 2 * k ≤ m + 1 ∧ Hid (LmInv ds cs k) ∧ Hid (Gr wr w.heap.size v cs) ∧ Below w.heap.size w wr) (fun _ i _ => m + 1 - (intOf i).toNat)
  case atStart => exact ⟨0, [], rfl, by omega, ⟨rfl, Limbs.nil, rfl⟩, Gr.nil _ _, Below.refl _ _⟩
  case round =>
    obtain ⟨k, cs, rfl, hk, hI, hG, hb⟩ := hrel
    by_cases hlt : 2 * k < m
    · have hs := HSL.out.below hb (Nat.le_refl _)
      obtain ⟨b, off, rfl, hcell⟩ := hs.2.2 (by omega)
      have hcx := hcell (2 * k) hlt
      have hstep := lm_step hd hI.out
      have b1 := hd.getD (2 * k); have b2 := hd.getD (2 * k + 1)
      have hcl : cs.length ≤ k := by have := hI.out.1; omega
      have hbs := hb.size
      have ek : (2 * (k : Int)).toNat = 2 * k := by omega
      have ek1 : (2 * (k : Int) + 1).toNat = 2 * k + 1 := by omega
      obtain ⟨x, hx⟩ : ∃ x, ds.getD (2 * k) 0 = x := ⟨_, rfl⟩
      obtain ⟨y, hy⟩ : ∃ y, ds.getD (2 * k + 1) 0 = y := ⟨_, rfl⟩
      rw [hx] at hcx hstep b1
      rw [hy] at hstep b2
      obtain ⟨x1, x2⟩ := b1; obtain ⟨y1, y2⟩ := b2
      by_cases hlt2 : 2 * k + 1 < m
      · have hcy := hcell (2 * k + 1) hlt2
        rw [hy] at hcy
        have HS : Hid (LmInv ds (cs ++ [x + 4294967296 * y]) (k + 1)) := hstep
        have HSZ : Hid (w.heap.size ≤ (wr.alloc (.cells (row [x + 4294967296 * y]).toArray 94)).heap.size) := by show _ ≤ _; simp; omega
        have q1 : (2 * (k : Int)) < m := by omega
        have q2 : (2 * (k : Int)) + 1 < m := by omega
        clear hs hcell hx hy hstep
        go_wp2_with (at_builtin; refine wpList_app rfl (.tmp 29) (.tmp 31) rfl w.heap.size u3 cs rfl (hG.out.alloc _) wr.heap.size 1 1 [x + 4294967296 * y] rfl rfl (heap_alloc_new _ _) (by omega) HSZ.out ?_; intro v1 w1 hG1 hb1)
        have hb2 : Below w.heap.size w w1 := (hb.alloc hbs _).trans hb1
        clear hb1
        go_wp2_with fail
        go_roundw
        case rel => exact ⟨k + 1, _, by rw [show 2 * ((k + 1 : Nat) : Int) = 2 * (k : Int) + 2 by omega], by omega, HS, hG1, hb2⟩
        case measure => simp [intOf]; omega
      · have hy0 : y = 0 := by rw [← hy, List.getD_eq_getElem?_getD, List.getElem?_eq_none (by omega)]; rfl
        rw [hy0, Int.mul_zero, Int.add_zero] at hstep
        have HS : Hid (LmInv ds (cs ++ [x]) (k + 1)) := hstep
        have HSZ : Hid (w.heap.size ≤ (wr.alloc (.cells (row [x]).toArray 94)).heap.size) := by show _ ≤ _; simp; omega
        have q1 : (2 * (k : Int)) < m := by omega
        have q2 : ¬ (2 * (k : Int)) + 1 < m := by omega
        clear hs hcell hx hy hstep hy0
        go_wp2_with (at_builtin; refine wpList_app rfl (.tmp 29) (.tmp 31) rfl w.heap.size u3 cs rfl (hG.out.alloc _) wr.heap.size 1 1 [x] rfl rfl (heap_alloc_new _ _) (by omega) HSZ.out ?_; intro v1 w1 hG1 hb1)
        have hb2 : Below w.heap.size w w1 := (hb.alloc hbs _).trans hb1
        clear hb1
        go_wp2_with fail
        go_roundw
        case rel => exact ⟨k + 1, _, by rw [show 2 * ((k + 1 : Nat) : Int) = 2 * (k : Int) + 2 by omega], by omega, HS, hG1, hb2⟩
        case measure => simp [intOf]; omega
    · obtain ⟨i1, i2, i3⟩ := hI.out
      have et : ds.take (2 * k) = ds := List.take_of_length_le (by omega)
      rw [et] at i3
      obtain ⟨aa, cap, gm, hv, hcap, hsl, -, hnil, -⟩ := hG.out.parts i2
      have hu := usedN_le cs
      have hle : cs.length ≤ m := by omega
      have q1 : ¬ (2 * (k : Int)) < m := by omega
      rw [hv]
      clear hG hv i1 et
      go_wp2_with fail
      refine (rtrim_any aa cs.length cap cs _ hsl hnil (by omega) hcap).mono ?_
      rintro e w2 ⟨a2, c2, rfl, s2, hc2, b2⟩
      go_wp2_with fail
      go_ret
      exact ⟨a2, usedN cs, c2, cs.take (usedN cs), rfl, hc2, by omega, s2, usedN_take cs (Nat.le_refl _), by rw [num_take_used cs (Nat.le_refl _)]; exact i3, step hb b2⟩

end Go.Proofs.YtebbblhafjaaiaaGreatDoor
namespace Go.Proofs.YtebbblhafjaaiaaGreatDoor
open Go.RowKit Go.Shelf
set_option linter.unusedVariables false

set_option maxHeartbeats 2000000 in
theorem onto_one (g cap : Nat) (p : Int) (cur : Array Value) (w : World) (h1 : 1 ≤ p) (h2 : p < 4294967296) (hg : w.heap[g]? = some (.cells cur 94 (0, 0))) (h0 : w.cell? ⟨g, 0, none⟩ = some (.int .u64 1)) :
    Calls Tryz.prog 200 #[.slice (some ⟨g, 0, none⟩) 1 cap, .int .u64 p, .int .u64 0] w fun e w' => e = .returned (.slice (some ⟨g, 0, none⟩) 1 cap) ∧ w' = w.setCell ⟨g, 0, none⟩ (.int .u64 p) := by
  have w1 : IntKind.u64.wrap p = p := by rw [IntKind.wrap_u64]; omega
  have m1 : p.tmod 4294967296 = p := by rw [Int.tmod_eq_emod_of_nonneg (by omega)]; omega
  have d1 : p.tdiv 4294967296 = 0 := by rw [Int.tdiv_eq_ediv_of_nonneg (by omega)]; omega
  have fz : w.frozen? ⟨g, 0, none⟩ = false := by simp [World.frozen?, hg]
  have lt : g < w.heap.size := by
    rcases Nat.lt_or_ge g w.heap.size with h | h
    · exact h
    · rw [Array.getElem?_eq_none h] at hg; cases hg
  go_enter Tryz.func200, Tryz.ntmps200
  go_wp2_with fail
  refine wp_loop_rounds 2 ?_
  rw [rounds_succ]
  go_wp2_with fail
  rw [rounds_succ]
  go_wp2_with fail
  go_ret
  exact ⟨rfl, rfl⟩
theorem one_half : H.Limbs [1] := fun z hz => by rw [List.mem_singleton.1 hz]; exact ⟨by decide, by decide⟩
theorem half_of {q : Int} (h : 1 ≤ q ∧ q < 4294967296) : H.Limbs [q] := fun z hz => by rw [List.mem_singleton.1 hz]; exact ⟨by omega, by omega⟩
theorem pow9 {i : Nat} (h : i ≤ 9) : (1 : Int) ≤ 10 ^ i ∧ (10 : Int) ^ i ≤ 1000000000 := by
  match i, h with
  | 0, _ | 1, _ | 2, _ | 3, _ | 4, _ | 5, _ | 6, _ | 7, _ | 8, _ | 9, _ => decide
theorem one_digits {a : Option Addr} {m : Nat} {ds : List Int} {w : World} (hs : Sl w a m ds) (hL : H.Limbs ds) (hu : usedN ds = m) (hm : m ≤ 2 * 1) (hN : H.num ds = num [1]) : ds = [1] ∧ m = 1 := by
  have hl := hs.1
  have e1 : num [1] = 1 := by decide
  rw [e1] at hN
  match ds, hl, hL, hu, hN with
  | [], _, _, _, hN => simp [H.num] at hN
  | [x], hl, _, _, hN =>
    have : x = 1 := by simpa [H.num] using hN
    subst this
    exact ⟨rfl, by simpa using hl.symm⟩
  | [x, y], hl, hL, hu, hN =>
    have bx := hL.getD 0
    have by' := hL.getD 1
    simp only [List.getD_cons_zero, List.getD_cons_succ] at bx by'
    simp only [H.num] at hN
    have y0 : y = 0 := by omega
    subst y0
    have := usedN_eq (zs := [x, 0]) (u := 1) (by simp) (fun i h1 h2 => by
      have : i = 1 := by simp at h2; omega
      subst this; rfl) (by right; simp; omega)
    simp at hl
    omega
  | x :: y :: z :: t, hl, _, _, _ => simp at hl; omega
set_option maxHeartbeats 2000000 in
theorem scale_one (a : Addr) (ca k : Nat) (hk : k ≤ 9) (w : World) (h : Sl w (some a) 1 [1]) :
    Calls Tryz.prog 164 #[.slice (some a) 1 ca, .int .i64 k] w fun e w' => ∃ a' m c zs, e = .returned (.tuple #[.slice a' m c, .int .i64 0]) ∧ m ≤ c ∧ m ≤ 1 ∧ Sl w' a' m zs ∧ usedN zs = m ∧ num zs = 10 ^ k ∧ Below w.heap.size w w' := by
  have g0 : decide ((k : Int) < 0) = false := by rw [decide_eq_false_iff_not]; omega
  go_enter Tryz.func164, Tryz.ntmps164
  go_wp2_with fail
  refine (halves3 (some a) 1 ca [1] _ h (by omega)).mono ?_
  rintro e x1 ⟨a1, m1, c1_, ds, rfl, hc, hm, hs, hL, hu, hN, hO, hb⟩
  obtain ⟨rfl, rfl⟩ := one_digits hs hL hu hm hN
  obtain ⟨g, cur, rfl, hB, hg⟩ := hO (by decide)
  have h0 : x1.cell? ⟨g, 0, none⟩ = some (.int .u64 1) := by
    obtain ⟨b, o, e, hcell⟩ := hs.2.2 (by decide)
    cases e
    exact hcell 0 (by decide)
  have B1 : Below w.heap.size w x1 := hb
  clear hb
  by_cases k0 : k = 0
  · subst k0
    clear hO hN hu hL hm
    go_wp2_with fail
    refine wp_loop_rounds 1 ?_
    rw [rounds_succ]
    go_wp2_with fail
    refine (limbs3 (some ⟨g, 0, none⟩) 1 c1_ [1] _ hs one_half (by omega)).mono ?_
    rintro e x2 ⟨a2, m2, c2, zs, rfl, hc2, hm2, hs2, hu2, hn2, hb2⟩
    go_wp2_with fail
    go_ret2
    exact ⟨a2, m2, c2, zs, rfl, hc2, hm2, hs2, hu2, by rw [hn2]; decide, step B1 hb2⟩
  · have g1 : decide ((0 : Int) < (k : Int)) = true := by rw [decide_eq_true_iff]; omega
    have mn : min (k : Int) 9 = (k : Int) := by omega
    have HK : Hid (k ≤ 9) := hk
    clear hO hN hu hL hm
    go_wp2_with fail
    refine wp_loop_rounds 2 ?_
    rw [rounds_succ]
    go_wp2_with fail
    go_loop [8, 9] (fun sp si => ∃ (i : Nat) (q : Int), sp = .int .u64 q ∧ si = .int .i64 i ∧ i ≤ k ∧ Hid (q = 10 ^ i)) (fun _ si => k - (intOf si).toNat)
    case atStart => exact ⟨0, 1, rfl, rfl, by omega, by show _ = _; decide⟩
    case round =>
      obtain ⟨i, q, rfl, rfl, hi, HQ⟩ := hrel
      have hb9 := pow9 (i := i) (by have := HK.out; omega)
      rw [← HQ.out] at hb9
      obtain ⟨q1, q2⟩ := hb9
      by_cases hlt : i < k
      · have c1 : decide ((i : Int) < (k : Int)) = true := by rw [decide_eq_true_iff]; omega
        have wq : IntKind.u64.wrap (10 * q) = 10 * q := by rw [IntKind.wrap_u64]; omega
        go_wp2_with fail
        go_round
        case rel => exact ⟨i + 1, 10 * q, rfl, by go_num, by omega, by show _ = _; rw [HQ.out, Int.pow_succ]; omega⟩
        case measure => simp [intOf]; omega
      · obtain rfl : i = k := by omega
        have c1 : decide ((i : Int) < (i : Int)) = false := by rw [decide_eq_false_iff_not]; omega
        have ws : IntKind.i64.wrap ((i : Int) - (i : Int)) = 0 := by rw [Int.sub_self]; decide
        have HQ1 : Hid (1 ≤ q ∧ q < 4294967296) := ⟨q1, by omega⟩
        clear q1 q2
        go_wp2_with fail
        refine (onto_one g c1_ q cur x1 HQ1.out.1 HQ1.out.2 hg h0).mono ?_
        rintro e x2 ⟨rfl, hw⟩
        have B2 : Below w.heap.size w x2 := by rw [hw]; exact B1.setCell hB _
        have hs2 : Sl x2 (some ⟨g, 0, none⟩) 1 [q] := by
          refine ⟨rfl, fun z hz => ?_, fun _ => ⟨g, 0, rfl, fun j hj => ?_⟩⟩
          · rw [List.mem_singleton.1 hz]; have := HQ1.out; exact ⟨by omega, by omega⟩
          · obtain rfl : j = 0 := by omega
            rw [hw]
            exact World.cell?_setCell_same' x1 _ _ (by rw [h0]; rfl)
        clear hw
        go_wp2_with fail
        rw [rounds_succ]
        go_wp2_with fail
        refine (limbs3 (some ⟨g, 0, none⟩) 1 c1_ [q] _ hs2 (half_of HQ1.out) (by omega)).mono ?_
        rintro e x3 ⟨a2, m2, c2, zs, rfl, hc2, hm2, hs3, hu2, hn2, hb2⟩
        go_wp2_with fail
        go_ret2
        exact ⟨a2, m2, c2, zs, rfl, hc2, hm2, hs3, hu2, by rw [hn2, ← HQ.out]; simp [H.num], step B2 hb2⟩
theorem ten3 (k : Nat) (hk : k ≤ 9) (w : World) :
    Calls Tryz.prog 121 #[.int .i64 k] w fun e w' => ∃ a' m c zs, e = .returned (.tuple #[.slice a' m c, .int .i64 0]) ∧ m ≤ c ∧ m ≤ 1 ∧ Sl w' a' m zs ∧ usedN zs = m ∧ num zs = 10 ^ k ∧ Below w.heap.size w w' := by
  go_enter Tryz.func121, Tryz.ntmps121
  go_wp2_with fail
  have ho : Own (w.alloc (.cells #[.int .u64 1] 94)) w.heap.size [1] := heap_alloc_new w _
  have hs := ho.sl (fun z hz => by rw [List.mem_singleton.1 hz]; exact ⟨by decide, by decide⟩)
  have B1 : Below w.heap.size w (w.alloc (.cells #[.int .u64 1] 94)) := (Below.refl _ _).alloc (Nat.le_refl _) _
  refine (scale_one ⟨w.heap.size, 0, none⟩ 1 k hk _ hs).mono ?_
  rintro e x1 ⟨a2, m2, c2, zs, rfl, hc2, hm2, hs2, hu2, hn2, hb2⟩
  go_wp2_with fail
  go_ret2
  exact ⟨a2, m2, c2, zs, rfl, hc2, hm2, hs2, hu2, hn2, step B1 hb2⟩
end Go.Proofs.YtebbblhafjaaiaaGreatDoor
namespace Go.Proofs.YtebbblhafjaaiaaGreatDoor
open Go.RowKit Go.Shelf
set_option linter.unusedVariables false

theorem cmp3_mul9 {x y k : Int} (h : 0 < k) : cmp3 (x * k) (y * k) = cmp3 x y := by
  rcases Int.lt_trichotomy x y with g | g | g
  · rw [cmp3_lt g, cmp3_lt (Int.mul_lt_mul_of_pos_right g h)]
  · rw [g, cmp3_eq rfl, cmp3_eq rfl]
  · rw [cmp3_gt g, cmp3_gt (Int.mul_lt_mul_of_pos_right g h)]
theorem mk_num9 {a : Int} {D : Nat} (hD : 0 < D) : (mkRat a D).num * D = a * (mkRat a D).den := by
  have h : mkRat a D = mkRat (mkRat a D).num (mkRat a D).den := (Rat.mkRat_self _).symm
  exact ((Rat.mkRat_eq_iff (Nat.ne_of_gt hD) (mkRat a D).den_nz).1 h).symm
theorem qcmp_mk9 {a b : Int} {D E : Nat} (hD : 0 < D) (hE : 0 < E) : qcmp (mkRat a D) (mkRat b E) = cmp3 (a * E) (b * D) := by
  have h1 := @mk_num9 a D hD
  have h2 := @mk_num9 b E hE
  have p1 := (mkRat a D).den_pos
  have p2 := (mkRat b E).den_pos
  unfold qcmp
  generalize (mkRat a D).num = n1 at *
  generalize (mkRat b E).num = n2 at *
  generalize (mkRat a D).den = d1 at *
  generalize (mkRat b E).den = d2 at *
  have c1 : n1 * (d2 : Int) * ((D : Int) * (E : Int)) = a * (E : Int) * ((d1 : Int) * (d2 : Int)) := by
    rw [show n1 * (d2 : Int) * ((D : Int) * (E : Int)) = (n1 * (D : Int)) * ((d2 : Int) * (E : Int)) by grind, h1]; grind
  have c2 : n2 * (d1 : Int) * ((D : Int) * (E : Int)) = b * (D : Int) * ((d1 : Int) * (d2 : Int)) := by
    rw [show n2 * (d1 : Int) * ((D : Int) * (E : Int)) = (n2 * (E : Int)) * ((d1 : Int) * (D : Int)) by grind, h2]; grind
  rw [← cmp3_mul9 (show (0 : Int) < (D : Int) * (E : Int) from Int.mul_pos (by omega) (by omega)), c1, c2, cmp3_mul9 (Int.mul_pos (by omega) (by omega))]
theorem ten_mk9 (U : Int) (P : Nat) : Rat.divInt U (10 ^ P) = mkRat U (10 ^ P) := by
  rw [show ((10 : Int) ^ P) = ((10 ^ P : Nat) : Int) by simp, Rat.divInt_ofNat]
/-- Below 0, 0, above. -/
def side9 (x : Int) : Int := if x < 0 then -1 else if 0 < x then 1 else 0
/-- The document's order of two decimals. -/
def dcw (U : Int) (P : Nat) (V : Int) (Q : Nat) : Int :=
  if side9 U = side9 V then (if U < 0 then -cmp3 ((U.natAbs : Int) * 10 ^ Q) ((V.natAbs : Int) * 10 ^ P) else cmp3 ((U.natAbs : Int) * 10 ^ Q) ((V.natAbs : Int) * 10 ^ P))
  else if side9 U < side9 V then -1 else 1
theorem qcmp_dcw (U V : Int) (P Q : Nat) : qcmp (Rat.divInt U (10 ^ P)) (Rat.divInt V (10 ^ Q)) = dcw U P V Q := by
  have tp : 0 < 10 ^ P := Nat.pow_pos (by decide)
  have tq : 0 < 10 ^ Q := Nat.pow_pos (by decide)
  rw [ten_mk9, ten_mk9, qcmp_mk9 tp tq]
  have ep : ((10 ^ P : Nat) : Int) = 10 ^ P := by simp
  have eq : ((10 ^ Q : Nat) : Int) = 10 ^ Q := by simp
  have ip : (0 : Int) < 10 ^ P := by rw [← ep]; omega
  have iq : (0 : Int) < 10 ^ Q := by rw [← eq]; omega
  rw [ep, eq]
  unfold dcw
  generalize (10 : Int) ^ P = A at *
  generalize (10 : Int) ^ Q = B at *
  clear ep eq tp tq
  rcases Int.lt_trichotomy U 0 with u | u | u <;> rcases Int.lt_trichotomy V 0 with v | v | v
  · have sU : side9 U = -1 := if_pos u
    have sV : side9 V = -1 := if_pos v
    have xU := Int.mul_neg_of_neg_of_pos u iq
    have xV := Int.mul_neg_of_neg_of_pos v ip
    rw [sU, sV]
    rw [if_pos rfl, if_pos u, Int.ofNat_natAbs_of_nonpos (by omega), Int.ofNat_natAbs_of_nonpos (by omega), ← cmp3_turn, Int.neg_mul, Int.neg_mul]
    rcases Int.lt_trichotomy (U * B) (V * A) with x | x | x
    · rw [cmp3_lt x, cmp3_lt (by omega)]
    · rw [cmp3_eq x, cmp3_eq (by omega)]
    · rw [cmp3_gt x, cmp3_gt (by omega)]
  · have sU : side9 U = -1 := if_pos u
    have sV : side9 V = 0 := by subst v; rfl
    have xU := Int.mul_neg_of_neg_of_pos u iq
    have xV : V * A = 0 := by rw [v, Int.zero_mul]
    rw [sU, sV]
    rw [if_neg (by decide), if_pos (by decide), cmp3_lt (by omega)]
  · have sU : side9 U = -1 := if_pos u
    have sV : side9 V = 1 := by unfold side9; rw [if_neg (by omega), if_pos v]
    have xU := Int.mul_neg_of_neg_of_pos u iq
    have xV := Int.mul_pos v ip
    rw [sU, sV]
    rw [if_neg (by decide), if_pos (by decide), cmp3_lt (by omega)]
  · have sU : side9 U = 0 := by subst u; rfl
    have sV : side9 V = -1 := if_pos v
    have xU : U * B = 0 := by rw [u, Int.zero_mul]
    have xV := Int.mul_neg_of_neg_of_pos v ip
    rw [sU, sV]
    rw [if_neg (by decide), if_neg (by decide), cmp3_gt (by omega)]
  · have sU : side9 U = 0 := by subst u; rfl
    have sV : side9 V = 0 := by subst v; rfl
    have xU : U * B = 0 := by rw [u, Int.zero_mul]
    have xV : V * A = 0 := by rw [v, Int.zero_mul]
    rw [sU, sV]
    subst u; subst v
    simp [cmp3]
  · have sU : side9 U = 0 := by subst u; rfl
    have sV : side9 V = 1 := by unfold side9; rw [if_neg (by omega), if_pos v]
    have xU : U * B = 0 := by rw [u, Int.zero_mul]
    have xV := Int.mul_pos v ip
    rw [sU, sV]
    rw [if_neg (by decide), if_pos (by decide), cmp3_lt (by omega)]
  · have sU : side9 U = 1 := by unfold side9; rw [if_neg (by omega), if_pos u]
    have sV : side9 V = -1 := if_pos v
    have xU := Int.mul_pos u iq
    have xV := Int.mul_neg_of_neg_of_pos v ip
    rw [sU, sV]
    rw [if_neg (by decide), if_neg (by decide), cmp3_gt (by omega)]
  · have sU : side9 U = 1 := by unfold side9; rw [if_neg (by omega), if_pos u]
    have sV : side9 V = 0 := by subst v; rfl
    have xU := Int.mul_pos u iq
    have xV : V * A = 0 := by rw [v, Int.zero_mul]
    rw [sU, sV]
    rw [if_neg (by decide), if_neg (by decide), cmp3_gt (by omega)]
  · have sU : side9 U = 1 := by unfold side9; rw [if_neg (by omega), if_pos u]
    have sV : side9 V = 1 := by unfold side9; rw [if_neg (by omega), if_pos v]
    have xU := Int.mul_pos u iq
    have xV := Int.mul_pos v ip
    rw [sU, sV]
    rw [if_pos rfl, if_neg (by omega), Int.natAbs_of_nonneg (by omega), Int.natAbs_of_nonneg (by omega)]
end Go.Proofs.YtebbblhafjaaiaaGreatDoor
namespace Go.Proofs.YtebbblhafjaaiaaGreatDoor
open Go.RowKit Go.Shelf

def RPrInv (xs ys cs : List Int) (n lb i : Nat) : Prop :=
  cs.length = n ∧ H.Limbs cs ∧ (∀ j, i + lb ≤ j → cs.getD j 0 = 0) ∧ H.num cs = H.num (xs.take i) * H.num ys
def InInv (ys cs : List Int) (n lb i k : Nat) (T x c : Int) : Prop :=
  cs.length = n ∧ H.Limbs cs ∧ (∀ j, i + lb ≤ j → cs.getD j 0 = 0) ∧ H.num cs + c * H.pw (i + k) = T + x * H.num (ys.take k) * H.pw i ∧ 0 ≤ c ∧ c < 4294967296

theorem in_start {xs ys cs : List Int} {n lb i : Nat} (x : Int) (I : RPrInv xs ys cs n lb i) : InInv ys cs n lb i 0 (H.num (xs.take i) * H.num ys) x 0 := by
  obtain ⟨i1, i2, i3, i4⟩ := I
  exact ⟨i1, i2, i3, by rw [i4]; simp [H.num], by omega, by omega⟩
theorem in_word {o x y c : Int} (ho : 0 ≤ o ∧ o < 4294967296) (hx : 0 ≤ x ∧ x < 4294967296) (hy : 0 ≤ y ∧ y < 4294967296) (hc : 0 ≤ c ∧ c < 4294967296) :
    0 ≤ x * y ∧ x * y ≤ 18446744065119617025 ∧ (o + x * y + c) / 4294967296 < 4294967296 := by
  have h1 : 0 ≤ x * y := Int.mul_nonneg hx.1 hy.1
  have h2 : x * y ≤ 4294967295 * y := Int.mul_le_mul_of_nonneg_right (by omega) hy.1
  generalize x * y = p at *
  omega
theorem in_step {ys cs : List Int} {n lb i k : Nat} {T x c : Int} (hx : 0 ≤ x ∧ x < 4294967296) (hy : H.Limbs ys) (hk : k < lb) (hn : i + lb ≤ n) (I : InInv ys cs n lb i k T x c) :
    InInv ys (cs.set (i + k) ((cs.getD (i + k) 0 + x * ys.getD k 0 + c) % 4294967296)) n lb i (k + 1) T x ((cs.getD (i + k) 0 + x * ys.getD k 0 + c) / 4294967296) := by
  obtain ⟨i1, i2, i3, i4, i5, i6⟩ := I
  have b1 := i2.getD (i + k); have b2 := hy.getD k
  obtain ⟨p1, p2, p3⟩ := in_word b1 hx b2 ⟨i5, i6⟩
  refine ⟨by rw [List.length_set]; exact i1, i2.set _ ⟨by omega, by omega⟩, fun j hj => by rw [getD_set_other _ _ _ _ (by omega)]; exact i3 j hj, ?_, by omega, p3⟩
  have hc := H.carry_step (v := (cs.getD (i + k) 0 + x * ys.getD k 0 + c) % 4294967296) (c' := (cs.getD (i + k) 0 + x * ys.getD k 0 + c) / 4294967296) (p := H.pw (i + k)) (s := cs.getD (i + k) 0 + x * ys.getD k 0 + c) (by omega)
  rw [Int.add_mul (cs.getD (i + k) 0 + x * ys.getD k 0), Int.add_mul (cs.getD (i + k) 0)] at hc
  rw [H.num_set _ _ _ (by omega), H.num_take_succ, ← Nat.add_assoc, H.pw, Int.sub_mul, Int.mul_add x, Int.add_mul (x * H.num (ys.take k))]
  have e : x * (ys.getD k 0 * H.pw k) * H.pw i = x * ys.getD k 0 * H.pw (i + k) := by
    rw [H.pw_add, Int.mul_comm (H.pw i), Int.mul_assoc, Int.mul_assoc, Int.mul_assoc]
  rw [e]
  omega
theorem in_end {xs ys cs : List Int} {n lb i : Nat} {c : Int} (hlb : ys.length = lb) (hn : i + lb < n) (I : InInv ys cs n lb i lb (H.num (xs.take i) * H.num ys) (xs.getD i 0) c) : RPrInv xs ys (cs.set (i + lb) c) n lb (i + 1) := by
  obtain ⟨i1, i2, i3, i4, i5, i6⟩ := I
  refine ⟨by rw [List.length_set]; exact i1, i2.set _ ⟨i5, i6⟩, fun j hj => by rw [getD_set_other _ _ _ _ (by omega)]; exact i3 j (by omega), ?_⟩
  have et : ys.take lb = ys := List.take_of_length_le (by omega)
  rw [et] at i4
  rw [H.num_set _ _ _ (by omega), i3 (i + lb) (Nat.le_refl _), Int.sub_zero, H.num_take_succ, Int.add_mul, Int.mul_right_comm (xs.getD i 0)]
  exact i4

set_option maxHeartbeats 2000000 in
theorem rproduct_any (a b : Option Addr) (la ca lb cb : Nat) (xs ys : List Int) (w : World) (ha : Sl w a la xs) (hb : Sl w b lb ys) (hx : H.Limbs xs) (hy : H.Limbs ys) (h1 : la ≤ 8000000000000) (h2 : lb ≤ 8000000000000) :
    Calls Tryz.prog 120 #[.slice a la ca, .slice b lb cb] w fun e w' => DRes w w' e (H.num xs * H.num ys) (la + lb) := by
  have hza := ha.1; have hzb := hb.1
  have hmk := make_row (la + lb) (by omega)
  rw [show ((la + lb : Nat) : Int) = (la : Int) + lb by omega] at hmk
  have I0 : Hid (RPrInv xs ys (List.replicate (la + lb) 0) (la + lb) lb 0) :=
    ⟨by simp, fun z hz => by rw [List.eq_of_mem_replicate hz]; decide, fun j _ => by rw [List.getD_eq_getElem?_getD, List.getElem?_replicate]; split <;> rfl, by rw [H.num_zeros]; simp [H.num]⟩
  have O0 : Hid (Own (w.alloc (.cells (row (List.replicate (la + lb) 0)).toArray 94)) w.heap.size (List.replicate (la + lb) 0)) := heap_alloc_new _ _
  go_enter Tryz.func120, Tryz.ntmps120
  go_wp2_with fail
  clear hmk
  go_loopw [6] (fun ii wr => ∃ (i : Nat) (cs : List Int), ii = .int .i64 i ∧ i ≤ la ∧ Hid (RPrInv xs ys cs (la + lb) lb i) ∧ Hid (Own wr w.heap.size cs) ∧ Below w.heap.size w wr) (fun ii _ => la - (intOf ii).toNat)
  case atStart => exact ⟨0, _, rfl, by omega, I0, O0, (Below.refl _ _).alloc (Nat.le_refl _) _⟩
  case round =>
    obtain ⟨i, cs, rfl, hi, hI, hO, hbl⟩ := hrel
    by_cases hlt : i < la
    · obtain ⟨x, hxx⟩ : ∃ x, xs.getD i 0 = x := ⟨_, rfl⟩
      have hxw := hx.getD i
      rw [hxx] at hxw
      have HXX : Hid (xs.getD i 0 = x) := hxx
      have IN0 : Hid (InInv ys cs (la + lb) lb i 0 (H.num (xs.take i) * H.num ys) x 0) := in_start x hI.out
      obtain ⟨ba, oa, rfl, hca⟩ := ha.2.2 (by omega)
      have hcax := hca i hlt
      rw [hxx] at hcax
      have hba : ba < w.heap.size := by
        rcases Nat.lt_or_ge ba w.heap.size with h' | h'
        · exact h'
        · simp [World.cell?, Array.getElem?_eq_none h'] at hcax
      obtain ⟨wo, hwo⟩ : ∃ wo : World, wo = wr := ⟨_, rfl⟩
      rw [← hwo] at hO hbl
      clear hxx hca
      go_wp2_with fail
      rw [← hwo]
      clear hwo
      go_loopw [7, 8] (fun cc kk wq => ∃ (k : Nat) (c : Int) (ds : List Int), kk = .int .i64 k ∧ cc = .int .u64 c ∧ k ≤ lb ∧ Hid (InInv ys ds (la + lb) lb i k (H.num (xs.take i) * H.num ys) x c) ∧ Hid (Own wq w.heap.size ds) ∧ Below w.heap.size w wq) (fun _ kk _ => lb - (intOf kk).toNat)
      case atStart => exact ⟨0, 0, cs, rfl, rfl, by omega, IN0, hO, hbl⟩
      case round =>
        obtain ⟨k, c, ds, rfl, rfl, hk, hJ, hP, hbq⟩ := hrel
        by_cases hkl : k < lb
        · obtain ⟨bb, ob, rfl, hcb⟩ := hb.2.2 (by omega)
          have hcbx := hcb k hkl
          have hbb : bb < w.heap.size := by
            rcases Nat.lt_or_ge bb w.heap.size with h' | h'
            · exact h'
            · simp [World.cell?, Array.getElem?_eq_none h'] at hcbx
          obtain ⟨y, hyy⟩ : ∃ y, ys.getD k 0 = y := ⟨_, rfl⟩
          have hyw := hy.getD k
          have hstep := in_step hxw hy hkl (by omega) hJ.out
          have hcx := hP.out.cell (i + k) (by rw [hJ.out.1]; omega)
          have hfx := hP.out.frozen (i + k)
          have how := hJ.out.2.1.getD (i + k)
          have hc0 := hJ.out.2.2.2.2.1
          have hc1 := hJ.out.2.2.2.2.2
          obtain ⟨o, hoo⟩ : ∃ o, ds.getD (i + k) 0 = o := ⟨_, rfl⟩
          rw [hyy] at hcbx hyw hstep
          rw [hoo] at hcx how hstep
          obtain ⟨p1, p2, p3⟩ := in_word how hxw hyw ⟨hc0, hc1⟩
          obtain ⟨p, hp⟩ : ∃ p, x * y = p := ⟨_, rfl⟩
          rw [hp] at p1 p2 p3 hstep
          obtain ⟨o1, o2⟩ := how
          have ca1 : wr.cell? ⟨ba, oa + i, none⟩ = some (.int .u64 x) := (hbq.cell (p := ⟨ba, oa + i, none⟩) hba).trans hcax
          have cb1 : wr.cell? ⟨bb, ob + k, none⟩ = some (.int .u64 y) := (hbq.cell (p := ⟨bb, ob + k, none⟩) hbb).trans hcbx
          obtain ⟨t, ht⟩ : ∃ t, o + p + c = t := ⟨_, rfl⟩
          rw [ht] at hstep p3
          have t0 : 0 ≤ t := by omega
          have t1 : t < 18446744073709551616 := by omega
          have m0 : IntKind.i64.wrap ((i : Int) + k) = i + k := by rw [IntKind.wrap_i64]; omega
          have m1 : IntKind.u64.wrap (x * y) = p := by rw [hp, IntKind.wrap_u64]; omega
          have m2 : IntKind.u64.wrap (p + o) = p + o := by rw [IntKind.wrap_u64]; omega
          have m3 : IntKind.u64.wrap (p + o + c) = t := by rw [IntKind.wrap_u64]; omega
          have m4 : ((i : Int) + k).toNat = i + k := by omega
          have m5 : (i : Int) + k < la + lb := by omega
          have HS : Hid (InInv ys (ds.set (i + k) (t % 4294967296)) (la + lb) lb i (k + 1) (H.num (xs.take i) * H.num ys) x (t / 4294967296)) := hstep
          clear hstep hyy hoo hp ht hcb hcbx hcax hyw p3
          go_wp2_with fail
          go_quiet (fail)
          clear m1 m2 m3
          go_wp2_with fail
          go_roundw
          case rel => exact ⟨k + 1, _, _, by go_num, rfl, by omega, HS, Own.set (w := wr.drewN nq) hP.out (i + k) _, (below_drewN hbq nq).setCell (Nat.le_refl _) _⟩
          case measure => simp [intOf]; omega
        · obtain rfl : k = lb := by omega
          have hJ' := hJ.out
          rw [← HXX.out] at hJ'
          have HE : Hid (RPrInv xs ys (ds.set (i + k) c) (la + k) k (i + 1)) := in_end hzb (by omega) hJ'
          have hcx := hP.out.cell (i + k) (by rw [hJ.out.1]; omega)
          have hfx := hP.out.frozen (i + k)
          have m4 : ((i : Int) + k).toNat = i + k := by omega
          have m5 : (i : Int) + k < la + k := by omega
          clear hJ' hcax
          go_wp2_with fail
          go_roundw
          case rel => exact ⟨i + 1, _, by go_num, by omega, HE, Own.set hP.out (i + k) _, hbq.setCell (Nat.le_refl _) _⟩
          case measure => simp [intOf]; omega
    · obtain rfl : i = la := by omega
      obtain ⟨i1, i2, i3, i4⟩ := hI.out
      have et : xs.take i = xs := List.take_of_length_le (by omega)
      rw [et] at i4
      have hsl := hO.out.sl i2.up
      rw [i1] at hsl
      have hu := usedN_le cs
      have hle : usedN cs ≤ i + lb := by omega
      clear i1 et
      go_wp2_with fail
      refine (cutr_any (some ⟨w.heap.size, 0, none⟩) (i + lb) (i + lb) cs _ hsl (by omega) (Nat.le_refl _)).mono ?_
      rintro e w2 ⟨rfl, rfl⟩
      go_wp2_with fail
      go_ret
      exact ⟨_, usedN cs, i + lb, cs.take (usedN cs), rfl, hle, hle, hsl.take hle, i2.take _, usedN_take cs (Nat.le_refl _), by rw [H.num_take_used cs (Nat.le_refl _)]; exact i4, hbl⟩

theorem rmul_any (a0 a1 : Option Addr) (l0 k0 l1 k1 : Nat) (z0 z1 : List Int) (w : World) (ha0 : Sl w a0 l0 z0) (hb0 : Sl w a1 l1 z1) (h1 : l0 ≤ 2000000000000) (h2 : l1 ≤ 2000000000000) :
    Calls Tryz.prog 68 #[.slice a0 l0 k0, .slice a1 l1 k1] w fun e w' => LRes w w' e (num z0 * num z1) (2 * l0 + 2 * l1) := by
  go_enter Tryz.func68, Tryz.ntmps68
  go_wp2_with fail
  refine (digits_any a0 l0 k0 z0 w ha0 (by omega)).mono ?_
  rintro e wa ⟨a, la, ca, xs, rfl, -, hla, ha, hx, ux, nx, ba⟩
  go_wp2_with fail
  refine (digits_any a1 l1 k1 z1 wa (hb0.below ba (Nat.le_refl _)) (by omega)).mono ?_
  rintro e wb ⟨b, lb, cb, ys, rfl, -, hlb, hb, hy, uy, ny, bb⟩
  replace ha := ha.below bb (Nat.le_refl _)
  have HB : Hid (Below w.heap.size w wb) := step ba bb
  go_wp2_with fail
  refine (rproduct_any a b la ca lb cb xs ys wb ha hb hx hy (by omega) (by omega)).mono ?_
  rintro e wd ⟨ad, md, cd, ds, rfl, -, hmd, sd, hd, ud, nd, bd⟩
  go_wp2_with fail
  refine (limbsr_any ad md cd ds wd sd hd (by omega)).mono ?_
  rintro e w4 ⟨a4, m4, c4, z4, rfl, k4, k5, s4, u4, n4, b4⟩
  go_wp2_with fail
  go_ret
  exact ⟨a4, m4, c4, z4, rfl, k4, by omega, s4, u4, by rw [n4, nd, nx, ny], step (step HB.out bd) b4⟩
end Go.Proofs.YtebbblhafjaaiaaGreatDoor
namespace Go.Proofs.YtebbblhafjaaiaaGreatDoor
open Go.RowKit Go.Shelf
set_option linter.unusedVariables false

theorem rsize6 (x : Int) (h1 : -9223372036854775808 ≤ x) (h2 : x ≤ 9223372036854775807) (w : World) : Calls Tryz.prog 48 #[.int .i64 x] w fun e w' => e = .returned (.int .u64 (x.natAbs : Int)) ∧ w' = w := by
  obtain ⟨y, hy⟩ : ∃ y, x.natAbs = y := ⟨_, rfl⟩
  rw [hy]
  by_cases g : x < 0
  · have g1 : decide (x < 0) = true := decide_eq_true g
    have e1 : IntKind.u64.wrap x = x + 18446744073709551616 := by rw [IntKind.wrap_u64]; omega
    have e2 : IntKind.u64.wrap (-(x + 18446744073709551616)) = (y : Int) := by rw [IntKind.wrap_u64]; omega
    clear hy h1 h2
    go_enter Tryz.func48, Tryz.ntmps48
    go_wp2_with fail
    go_ret
    exact ⟨rfl, rfl⟩
  · have g1 : decide (x < 0) = false := decide_eq_false g
    have e1 : IntKind.u64.wrap x = (y : Int) := by rw [IntKind.wrap_u64]; omega
    clear hy h1 h2
    go_enter Tryz.func48, Tryz.ntmps48
    go_wp2_with fail
    go_ret
    exact ⟨rfl, rfl⟩
theorem rten6 (k : Nat) (hk : k ≤ 9) (w : World) :
    Calls Tryz.prog 69 #[.int .i64 k] w fun e w' => ∃ a' m c zs, e = .returned (.slice a' m c) ∧ m ≤ c ∧ m ≤ 1 ∧ Sl w' a' m zs ∧ usedN zs = m ∧ num zs = 10 ^ k ∧ Below w.heap.size w w' := by
  go_enter Tryz.func69, Tryz.ntmps69
  go_wp2_with fail
  refine (ten3 k hk _).mono ?_
  rintro e x1 ⟨a2, m2, c2, zs, rfl, hc2, hm2, hs2, hu2, hn2, hb2⟩
  go_wp2_with fail
  go_ret
  exact ⟨a2, m2, c2, zs, rfl, hc2, hm2, hs2, hu2, hn2, hb2⟩
theorem rcheck6_ok (U P : Int) (h : CanI U P) (w : World) : Calls Tryz.prog 12 #[.agg #[.int .i64 U, .int .i64 P]] w fun e w' => e = .returned (.int .i64 0) ∧ Below w.heap.size w w' := by
  obtain ⟨h0, h9, h3⟩ := h
  have g1 : decide (P < 0) = false := decide_eq_false (by omega)
  have g2 : decide (9 < P) = false := decide_eq_false (by omega)
  by_cases hp : 0 < P
  ·
    obtain ⟨m, hm⟩ : ∃ m, U.tmod 10 = m := ⟨_, rfl⟩
    have hm0 : (m == 0) = false := by have := h3 hp; rw [hm] at this; simpa using this
    have g3 : decide (0 < P) = true := decide_eq_true hp
    go_enter Tryz.func12, Tryz.ntmps12
    go_wp2_with fail
    go_ret
    exact ⟨rfl, (Below.refl _ _).alloc (Nat.le_refl _) _⟩
  ·
    have g3 : decide (0 < P) = false := decide_eq_false hp
    go_enter Tryz.func12, Tryz.ntmps12
    go_wp2_with fail
    go_ret
    exact ⟨rfl, (Below.refl _ _).alloc (Nat.le_refl _) _⟩
theorem rcheck6_no (U P : Int) (h : ¬ CanI U P) (w : World) : Calls Tryz.prog 12 #[.agg #[.int .i64 U, .int .i64 P]] w fun e w' => e = .returned (.int .i64 60) ∧ Below w.heap.size w w' := by
  by_cases a1 : P < 0
  ·
    have g1 : decide (P < 0) = true := decide_eq_true a1
    go_enter Tryz.func12, Tryz.ntmps12
    go_wp2_with fail
    go_ret
    exact ⟨rfl, (Below.refl _ _).alloc (Nat.le_refl _) _⟩
  ·
    have g1 : decide (P < 0) = false := decide_eq_false a1
    by_cases a2 : 9 < P
    ·
      have g2 : decide (9 < P) = true := decide_eq_true a2
      go_enter Tryz.func12, Tryz.ntmps12
      go_wp2_with fail
      go_ret
      exact ⟨rfl, (Below.refl _ _).alloc (Nat.le_refl _) _⟩
    ·
      have g2 : decide (9 < P) = false := decide_eq_false a2
      have hp : 0 < P := by
        rcases Int.lt_or_le 0 P with h' | h'
        · exact h'
        · exact absurd ⟨by omega, by omega, fun hh => by omega⟩ h
      have hm : U.tmod 10 = 0 := by
        rcases Decidable.em (U.tmod 10 = 0) with h' | h'
        · exact h'
        · exact absurd ⟨by omega, by omega, fun _ => h'⟩ h
      have g3 : decide (0 < P) = true := decide_eq_true hp
      go_enter Tryz.func12, Tryz.ntmps12
      go_wp2_with fail
      go_ret
      exact ⟨rfl, (Below.refl _ _).alloc (Nat.le_refl _) _⟩
end Go.Proofs.YtebbblhafjaaiaaGreatDoor
namespace Go.Proofs.YtebbblhafjaaiaaGreatDoor
open Go.RowKit Go.Shelf
set_option linter.unusedVariables false
/-- What ratio answers. -/
def RaR (neg : Bool) (un ud : Nat) (e : Ending) (w' : World) : Prop :=
  (¬ (un ≤ 1024 ∧ ud ≤ 1024 ∧ 0 < ud) ∧ e = .returned (.tuple #[.agg #[.bool false, .slice none 0 0, .slice none 0 0], .agg #[.bool false, .slice none 0 0, .slice none 0 0], .bool false])) ∨
  ((un ≤ 1024 ∧ ud ≤ 1024 ∧ 0 < ud) ∧ ∃ s a l c zs b m d ds v an ln cn xs ad ld cd ys, e = .returned (.tuple #[.agg #[.bool s, .slice a l c, .slice b m d], .agg #[.bool neg, .slice an ln cn, .slice ad ld cd], .bool true]) ∧ Rt w' s a l c zs b m d ds v ∧ Sl w' an ln xs ∧ Sl w' ad ld ys ∧ ln ≤ cn ∧ ld ≤ cd ∧ ln ≤ un ∧ ld ≤ ud ∧ num ys ≠ 0 ∧ v = Rat.divInt (iv neg xs) (num ys))
theorem results_rrt {fn : Func} {i j k b b2 : Nat} {x y z x2 y2 z2 : Value} {tmps : Array Value} {w : World} (h : fn.results = #[.cell i 45, .cell j 37, .tmp k]) (hi : tmps.getD i undef = .pointer (some ⟨b, 0, none⟩)) (hj : tmps.getD j undef = .pointer (some ⟨b2, 0, none⟩)) (hv : Va w b 45 #[x, y, z]) (hv2 : Va w b2 37 #[x2, y2, z2]) :
    (results fn tmps).run Tryz.prog w = .ok (.tuple #[.agg #[x, y, z], .agg #[x2, y2, z2], tmps.getD k undef]) w := by
  have c := hv.d0; have d := hv.d1; have e := hv.d2
  have c2 := hv2.d0; have d2 := hv2.d1; have e2 := hv2.d2
  rw [Array.getD_eq_getD_getElem?] at hi hj
  simp [results, h, hi, hj, c, d, e, c2, d2, e2, go_sem]
theorem two_set {w : World} {b b2 : Nat} {t t2 : TypeId} {x y z x2 y2 z2 : Value} (V2 : Va w b t #[x, y, z]) (V3 : Va w b2 t2 #[x2, y2, z2]) (hne : b ≠ b2) (x' y' z' x3 y3 z3 : Value) :
    Va ((((((w.setCell ⟨b, 0, none⟩ x').setCell ⟨b, 1, none⟩ y').setCell ⟨b, 2, none⟩ z').setCell ⟨b2, 0, none⟩ x3).setCell ⟨b2, 1, none⟩ y3).setCell ⟨b2, 2, none⟩ z3) b t #[x', y', z'] ∧
    Va ((((((w.setCell ⟨b, 0, none⟩ x').setCell ⟨b, 1, none⟩ y').setCell ⟨b, 2, none⟩ z').setCell ⟨b2, 0, none⟩ x3).setCell ⟨b2, 1, none⟩ y3).setCell ⟨b2, 2, none⟩ z3) b2 t2 #[x3, y3, z3] := by
  refine sto3 V2 x' y' z' (Q := fun W => Va (((W.setCell ⟨b2, 0, none⟩ x3).setCell ⟨b2, 1, none⟩ y3).setCell ⟨b2, 2, none⟩ z3) b t #[x', y', z'] ∧ Va (((W.setCell ⟨b2, 0, none⟩ x3).setCell ⟨b2, 1, none⟩ y3).setCell ⟨b2, 2, none⟩ z3) b2 t2 #[x3, y3, z3]) ?_
  intro W V' oth far
  have V3' := oth _ _ _ (Ne.symm hne) V3
  refine sto3 V3' x3 y3 z3 (Q := fun W => Va W b t #[x', y', z'] ∧ Va W b2 t2 #[x3, y3, z3]) ?_
  intro W2 V'' oth2 far2
  exact ⟨oth2 _ _ _ hne V', V''⟩

theorem Sl.fr6 {w w' : World} {a : Option Addr} {n : Nat} {zs : List Int} (h : Sl w a n zs) (hk : 0 < n → ∀ p, a = some p → w'.heap[p.block]? = w.heap[p.block]?) : Sl w' a n zs := by
  obtain ⟨h1, h2, h3⟩ := h
  refine ⟨h1, h2, fun h0 => ?_⟩
  obtain ⟨b, off, rfl, hc⟩ := h3 h0
  refine ⟨b, off, rfl, fun i hi => ?_⟩
  rw [← hc i hi]
  exact World.cell?_of_block (w := w) (hk h0 ⟨b, off, none⟩ rfl)
set_option maxHeartbeats 1000000 in
theorem rtrim_new6 (a : Option Addr) (len cap : Nat) (zs : List Int) (w : World) (h : Sl w a len zs) (hn : a = none → len = 0 ∧ cap = 0) (hl : len ≤ 17592186044416) (hcap : len ≤ cap) :
    Calls Tryz.prog 24 #[.slice a len cap] w fun e w' => ∃ a' c', e = .returned (.slice a' (usedN zs) c') ∧ Sl w' a' (usedN zs) (zs.take (usedN zs)) ∧ usedN zs ≤ c' ∧ (a' = none → usedN zs = 0 ∧ c' = 0) ∧ (0 < usedN zs → ∀ p, a' = some p → w.heap.size ≤ p.block) ∧ Below w.heap.size w w' := by
  have HSL : Hid (Sl w a len zs) := h
  obtain ⟨hz, hL, hc⟩ := h
  by_cases h0 : len = 0
  · subst h0
    have e0 : usedN zs = 0 := by have := usedN_le zs; omega
    rw [e0]
    cases a with
    | none =>
      obtain ⟨-, rfl⟩ := hn rfl
      go_enter Tryz.func24, Tryz.ntmps24
      go_wp2_with fail
      refine wp_loop_rounds 1 ?_
      rw [rounds_succ]
      go_wp2_with fail
      go_ret
      exact ⟨none, 0, rfl, ⟨rfl, Limbs.nil, fun h => absurd h (by decide)⟩, Nat.le_refl _, (fun _ => ⟨trivial, rfl⟩), (fun h => absurd h (by decide)), Below.refl _ _⟩
    | some ad =>
      have hsl : Sl w (some ad) 0 [] := ⟨rfl, Limbs.nil, fun h => absurd h (by decide)⟩
      go_enter Tryz.func24, Tryz.ntmps24
      go_wp2_with fail
      refine wp_loop_rounds 1 ?_
      rw [rounds_succ]
      go_wp2_with (at_builtin; refine wpList_app_some rfl (.tmp 19) (.tmp 22) rfl w.heap.size _ [] rfl (Gr.nil _ _) ad 0 cap [] rfl hsl (by simp) (Nat.le_refl _) ?_; intro v1 w1 hG hb)
      go_ret
      obtain ⟨a1, c1, gm, e1, hc1, hs1, hgm, hn1, hb1⟩ := Gr.parts (by simpa using hG.out) Limbs.nil
      exact ⟨a1, c1, congrArg _ e1, hs1, hc1, (fun h => ⟨trivial, (hn1 h).2⟩), (fun h => absurd h (by decide)), hb⟩
  · obtain ⟨b, off, rfl, hcell⟩ := hc (by omega)
    go_enter Tryz.func24, Tryz.ntmps24
    go_wp2_with fail
    go_loop [3] (fun i => ∃ k : Nat, k ≤ len ∧ i = .int .i64 k ∧ Hid (∀ j, k ≤ j → j < len → zs.getD j 0 = 0)) (fun i => (intOf i).toNat)
    case atStart => exact ⟨len, Nat.le_refl _, rfl, fun j h1 h2 => absurd h1 (by omega)⟩
    case round =>
      obtain ⟨k, hk, rfl, hI⟩ := hrel
      by_cases hlt : 0 < k
      · have hcx := hcell (k - 1) (by omega)
        have ex : ((k : Int) - 1).toNat = k - 1 := by omega
        obtain ⟨x, hx⟩ : ∃ x, zs.getD (k - 1) 0 = x := ⟨_, rfl⟩
        rw [hx] at hcx
        have HX : Hid (zs.getD (k - 1) 0 = x) := hx
        clear hx
        by_cases hx0 : x = 0
        · have g1 : (x == 0) = true := by simp [hx0]
          have HX0 : Hid (x = 0) := hx0
          clear hx0
          go_wp2_with fail
          go_round
          case rel =>
            refine ⟨k - 1, by omega, by rw [show ((k - 1 : Nat) : Int) = (k : Int) - 1 by omega], ?_⟩
            intro j h1 h2
            by_cases hj : j = k - 1
            · rw [hj, HX.out, HX0.out]
            · exact hI.out j (by omega) h2
          case measure => simp [intOf]; omega
        · have g1 : (x == 0) = false := by simp [hx0]
          have hu : usedN zs = k := usedN_eq (by omega) (fun i h1 h2 => hI.out i h1 (by omega)) (.inr (by rw [HX.out]; exact hx0))
          have HU : Hid (usedN zs = k) := hu
          clear hu hx0
          have hsl := HSL.out.take (m := k) (by omega)
          go_wp2_with (at_builtin; refine wpList_app_some rfl (.tmp 19) (.tmp 22) rfl w.heap.size _ [] rfl (Gr.nil _ _) ⟨b, off, none⟩ k cap (zs.take k) rfl hsl (by simp <;> omega) (Nat.le_refl _) ?_; intro v1 w1 hG hb)
          go_ret
          obtain ⟨a1, c1, gm, e1, hc1, hs1, hgm, hn1, hb1⟩ := Gr.parts (by simpa using hG.out) (hL.take k)
          rw [List.length_take, Nat.min_eq_left (by omega)] at e1 hc1 hs1 hn1 hb1
          exact ⟨a1, c1, by rw [HU.out]; exact congrArg _ e1, by rw [HU.out]; exact hs1, by rw [HU.out]; exact hc1, by rw [HU.out]; exact hn1, by rw [HU.out]; exact (fun h p hp => by rw [(hb1 h).1] at hp; cases hp; exact hgm), hb⟩
      · obtain rfl : k = 0 := by omega
        have hu : usedN zs = 0 := usedN_eq (by omega) (fun i h1 h2 => hI.out i (by omega) (by omega)) (.inl rfl)
        have HU : Hid (usedN zs = 0) := hu
        clear hu
        have hsl := HSL.out.take (m := 0) (by omega)
        go_wp2_with (at_builtin; refine wpList_app_some rfl (.tmp 19) (.tmp 22) rfl w.heap.size _ [] rfl (Gr.nil _ _) ⟨b, off, none⟩ 0 cap (zs.take 0) rfl hsl (by simp <;> omega) (Nat.le_refl _) ?_; intro v1 w1 hG hb)
        go_ret
        obtain ⟨a1, c1, gm, e1, hc1, hs1, hgm, hn1, hb1⟩ := Gr.parts (by simpa using hG.out) (hL.take 0)
        rw [List.length_take, Nat.min_eq_left (by omega)] at e1 hc1 hs1 hn1 hb1
        exact ⟨a1, c1, by rw [HU.out]; exact congrArg _ e1, by rw [HU.out]; exact hs1, by rw [HU.out]; exact hc1, by rw [HU.out]; exact hn1, by rw [HU.out]; exact (fun h p hp => by rw [(hb1 h).1] at hp; cases hp; exact hgm), hb⟩
theorem step_app_sl {ops : Array Oper} {o : Oper} {a : Act} {w : World} {K : Act → World → Prop} {Q : Exit → Act → World → Prop} {E : Prop} (hgd : o.guard = none) (s x : Operand)
    (ho : o.op = .call { callee := .builtin .append, args := #[s, x], argTypes := #[35, 35] })
    (B : Nat) (v : Value) (cs : List Int) (hs : a.eval s = v) (hg : Gr w B v cs) (b off m c : Nat) (news : List Int) (hx : a.eval x = .slice (some ⟨b, off, none⟩) m c) (hn : Sl w (some ⟨b, off, none⟩) m news)
    (hb : cs.length + m ≤ 17592186044416) (hB : B ≤ w.heap.size)
    (h : ∀ v' w', Gr w' B v' (cs ++ news) → w.grownBy w' v.ownBlock → K (a.put o.dst v') w') : if Region.wanted o (yielded ops a.tmps) = true then Oper.wp Tryz.prog o a w K Q else E := by
  have hw : Region.wanted o (yielded ops a.tmps) = true := by simp [Region.wanted, hgd]
  rw [if_pos hw]
  obtain ⟨i0, hi, hz0, hz1, hz2⟩ := info_parts info8
  refine wp_append_own w s x _ ho B 94 i0 (.int .u64 0) 1 8 Tryz.underlying35 hi hz0 hz1 hz2 rfl (by decide) v cs.length (row cs) hs hg ⟨b, off, none⟩ m c (row news) hx (by rw [row_length, hn.1, Nat.mul_one]) ?_ (row_one _) (by unfold maxLen; omega) (by omega) hB ?_
  · intro j u hu
    have e : news.take m = news := List.take_of_length_le (by rw [hn.1]; exact Nat.le_refl _)
    rw [← e] at hu
    exact src_row hn (Nat.le_refl _) j u hu
  · intro v' w' h2 h3 _
    refine h v' w' ?_ h3
    show Gr w' B v' (cs ++ news)
    unfold Gr
    rw [List.length_append, hn.1, row_append]
    exact h2
theorem Sl.grw {w w' : World} {a : Option Addr} {n g : Nat} {zs : List Int} (h : Sl w a n zs) (hg : w.grownBy w' (some g)) (hne : 0 < n → ∀ p, a = some p → p.block ≠ g) : Sl w' a n zs :=
  Sl.fr6 h (fun h0 p hp => hg.block p.block (h.lt h0 hp) (fun e => hne h0 p hp (Option.some.inj e)))
theorem Va.grw {w w' : World} {g b : Nat} {t : TypeId} {cs : Array Value} (h : Va w b t cs) (hg : w.grownBy w' (some g)) (hne : b ≠ g) : Va w' b t cs := by
  unfold Va at *
  rw [hg.block b (by rcases Nat.lt_or_ge b w.heap.size with h' | h'; exact h'; rw [Array.getElem?_eq_none h'] at h; cases h) (fun e => hne (Option.some.inj e))]
  exact h
theorem grw_to {w w' : World} {g B : Nat} (h : w.grownBy w' (some g)) (hB : B ≤ g) (hs : B ≤ w.heap.size) : Below B w w' := ⟨h.os, h.tape, h.output, h.size, fun k hk => h.block k (by omega) (fun e => by cases e; omega)⟩
theorem gr_single {w : World} {g B : Nat} {x : Int} (V : Va w g 94 #[.int .u64 x]) (hB : B ≤ g) : Gr w B (.slice (some ⟨g, 0, none⟩) 1 1) [x] :=
  ⟨rfl, .inr ⟨g, 1, #[.int .u64 x], rfl, hB, V, Nat.le_refl _, by decide, rfl, rfl⟩⟩
theorem copyl6 (a : Option Addr) (la ca : Nat) (zs : List Int) (w : World) (h : Sl w a la zs) (hl : la ≤ 17592186044416) :
    Calls Tryz.prog 66 #[.slice a la ca] w fun e w' => ∃ a' c', e = .returned (.slice a' la c') ∧ Sl w' a' la zs ∧ la ≤ c' ∧ Below w.heap.size w w' := by
  have hL := h.2.1
  have hz := h.1
  cases a with
  | none =>
    obtain rfl : la = 0 := by
      rcases Nat.eq_zero_or_pos la with h0 | h0
      · exact h0
      · obtain ⟨bb, off, e, -⟩ := h.2.2 h0; cases e
    have hz : zs = [] := List.eq_nil_of_length_eq_zero h.1
    subst hz
    go_enter Tryz.func66, Tryz.ntmps66
    go_wp2_with fail
    go_ret
    exact ⟨_, _, rfl, h, Nat.zero_le _, Below.refl _ _⟩
  | some ad =>
    have HSL : Hid (Sl w (some ad) la zs) := h
    have HLL : Hid (Limbs zs ∧ zs.length = la) := ⟨hL, hz⟩
    clear h hL hz
    go_enter Tryz.func66, Tryz.ntmps66
    go_wp2_with (at_builtin; refine wpList_app_some rfl (.tmp 4) (.tmp 5) rfl w.heap.size _ [] rfl (Gr.nil _ _) ad la ca zs rfl HSL.out (by simpa using hl) (Nat.le_refl _) ?_; intro v1 w1 hG hb)
    go_ret
    have hG2 : Gr w1 w.heap.size v1 zs := by simpa using hG.out
    obtain ⟨a1, c1, e1, h1, h2⟩ := hG2.sl HLL.out.1
    rw [HLL.out.2] at e1 h1 h2
    subst e1
    exact ⟨a1, c1, rfl, h2, h1, hb⟩
theorem short_div {xs ys : List Int} (hx : Limbs xs) (hy : Limbs ys) (l1 : xs.length ≤ 1024) (l2 : ys.length ≤ 1024) (neg : Bool) (h0 : num ys ≠ 0) : Short (Rat.divInt (iv neg xs) (num ys)) := by
  have b1 : num xs < pw 1024 := Int.lt_of_lt_of_le (num_lt hx) (pw_mono l1)
  have b2 : num ys < pw 1024 := Int.lt_of_lt_of_le (num_lt hy) (pw_mono l2)
  have n1 := num_nonneg hx
  have n2 := num_nonneg hy
  have e1 : ((iv neg xs).natAbs : Int) = num xs := by unfold iv; cases neg <;> simp <;> omega
  generalize iv neg xs = x at *
  generalize num ys = y at *
  unfold Short
  rw [Rat.num_divInt, Rat.den_divInt, if_neg h0]
  have g1 : ((y.sign * x) / (y.gcd x : Nat)).natAbs ≤ x.natAbs := by
    have hd : ((y.gcd x : Nat) : Int) ∣ y.sign * x := Int.dvd_mul_of_dvd_right (Int.gcd_dvd_right ..)
    rw [Int.natAbs_ediv_of_dvd hd, Int.natAbs_mul, Int.natAbs_sign_of_ne_zero h0, Nat.one_mul]
    exact Nat.div_le_self _ _
  have g2 := Nat.div_le_self y.natAbs (y.gcd x)
  exact ⟨Int.lt_of_le_of_lt (by omega) b1, Int.lt_of_le_of_lt (by omega) b2⟩
theorem ra_fit {x y x' y' : Int} {er : Int} {v : Rat} (h : RA (Rat.divInt x y) er v) (hx : x = x') (hy : y = y') (hs : Short (Rat.divInt x' y')) : er = 0 ∧ v = Rat.divInt x' y' := by
  subst hx hy
  rcases h with ⟨-, h1, h2⟩ | ⟨h1, -⟩
  · exact ⟨h1, h2⟩
  · exact absurd hs h1
theorem iv_num {s : Bool} {xs ys : List Int} (h : num xs = num ys) : iv s xs = iv s ys := by unfold iv; rw [h]
theorem va_other {w : World} {b c : Nat} {t t' : TypeId} {cs cs' : Array Value} (h : Va w b t cs) (e : c = b) (ht : t' ≠ t) : ¬ Va w c t' cs' := by
  intro h'
  subst e
  unfold Va at h h'
  rw [h] at h'
  simp at h'
  exact ht h'.2.symm
theorem one_more {zd : List Int} (h : Limbs zd) : num ([1] ++ zd.take 60) ≠ 0 ∧ Limbs ([1] ++ zd.take 60) := by
  have hL : Limbs (zd.take 60) := fun z hz => h z (List.mem_of_mem_take hz)
  refine ⟨?_, fun z hz => ?_⟩
  · have := num_nonneg hL
    simp only [List.singleton_append, num]
    omega
  · rcases List.mem_append.1 hz with h' | h'
    · rw [List.mem_singleton.1 h']; exact ⟨by decide, by decide⟩
    · exact hL z h'
set_option maxHeartbeats 1000000 in
set_option maxRecDepth 8000 in
theorem ratio6 (neg : Bool) (a0 a1 : Option Addr) (l0 k0 l1 k1 : Nat) (z0 z1 : List Int) (w : World) (h0 : Sl w a0 l0 z0) (h1 : Sl w a1 l1 z1) (c0 : l0 ≤ k0) (c1 : l1 ≤ k1) (t0 : l0 ≤ 17592186044416) (t1 : l1 ≤ 17592186044416) :
    Calls Tryz.prog 23 #[.agg #[.bool neg, .slice a0 l0 k0, .slice a1 l1 k1]] w fun e w' => RaR neg (usedN z0) (usedN z1) e w' ∧ Below w.heap.size w w' := by
  obtain ⟨ln, hln⟩ : ∃ ln, usedN z0 = ln := ⟨_, rfl⟩
  obtain ⟨ld, hld⟩ : ∃ ld, usedN z1 = ld := ⟨_, rfl⟩
  rw [hln, hld]
  have HL : Hid (usedN z0 = ln ∧ usedN z1 = ld) := ⟨hln, hld⟩
  clear hln hld
  have B0 : Below w.heap.size w w := Below.refl _ _
  go_enter Tryz.func23, Tryz.ntmps23
  go_wp2_with fail
  refine ent3 w _ _ _ _ _ _ (Q := fun W => Code.wp Tryz.prog _ _ _ W) ?_
  intro x1 hb hs_x1 V1 V2 V3
  replace h0 := Sl.after hb h0
  replace h1 := Sl.after hb h1
  replace B0 := step B0 hb
  clear hb hs_x1
  refine wp_region_noPanic ?_
  replace V1 : Va x1.drew _ _ _ := V1
  replace V2 : Va x1.drew _ _ _ := V2
  replace V3 : Va x1.drew _ _ _ := V3
  replace B0 := Below.drew B0
  refine wp_region_held_drew (S := (fun W => W.cell? ⟨w.heap.size, 0, none⟩ = some (.bool neg) ∧ W.cell? ⟨w.heap.size, 1, none⟩ = some (.slice a0 l0 k0) ∧ W.cell? ⟨w.heap.size, 2, none⟩ = some (.slice a1 l1 k1))) (by kernel_rfl) ⟨V1.d0, V1.d1, V1.d2⟩ (fun hHeld => ?_)
  obtain ⟨x2, hxd⟩ : ∃ xd, xd = x1.drew := ⟨_, rfl⟩
  rw [← hxd] at V1 V2 V3 B0 hHeld ⊢
  replace h0 : Sl x2 a0 l0 z0 := by rw [hxd]; exact h0
  replace h1 : Sl x2 a1 l1 z1 := by rw [hxd]; exact h1
  clear hxd
  refine wpAnyH_take (i := 0) (v := ?_) rfl (by kernel_rfl) (by kernel_rfl) (by kernel_rfl) (fun _ _ _ h => h) (Or.inl ⟨by rfl, ?_⟩) hHeld ?_
  rotate_left
  · (intro W hSw; (try dsimp only at hSw); go_simp; all_goals (with_reducible rfl))
  simp only [List.getElem_toArray, List.getElem_cons_zero, Act.put, List.setIfInBounds_toArray, List.set_cons_zero, List.set_cons_succ]
  refine wpAnyH_take (i := 1) (v := ?_) rfl (by kernel_rfl) (by kernel_rfl) (by kernel_rfl) (fun _ _ _ h => h) (Or.inl ⟨by rfl, ?_⟩) hHeld ?_
  rotate_left
  · (intro W hSw; (try dsimp only at hSw); go_simp; all_goals (with_reducible rfl))
  simp only [List.getElem_toArray, List.getElem_cons_zero, List.getElem_cons_succ, Act.put, List.setIfInBounds_toArray, List.set_cons_zero, List.set_cons_succ]
  refine wpAnyH_take (i := 3) (v := ?_) rfl (by kernel_rfl) (by kernel_rfl) (by kernel_rfl) (fun _ _ _ h => h) (Or.inl ⟨by rfl, ?_⟩) hHeld ?_
  rotate_left
  · (intro W hSw; (try dsimp only at hSw); go_simp; all_goals (with_reducible rfl))
  simp only [List.getElem_toArray, List.getElem_cons_zero, List.getElem_cons_succ, Act.put, List.setIfInBounds_toArray, List.set_cons_zero, List.set_cons_succ]
  refine wpAnyH_take (i := 4) (v := ?_) rfl (by kernel_rfl) (by kernel_rfl) (by kernel_rfl) (fun _ _ _ h => h) (Or.inl ⟨by rfl, ?_⟩) hHeld ?_
  rotate_left
  · (intro W hSw; (try dsimp only at hSw); go_simp; all_goals (with_reducible rfl))
  simp only [List.getElem_toArray, List.getElem_cons_zero, List.getElem_cons_succ, Act.put, List.setIfInBounds_toArray, List.set_cons_zero, List.set_cons_succ]
  refine wpAnyH_ready (rs := [2]) (by kernel_rfl) (by simp) ?_
  refine AllReadyH.cons rfl (fun K hK => ?_) AllReadyH.nil
  simp only [List.getElem_toArray, List.getElem_cons_zero, List.getElem_cons_succ]
  go_simp
  refine (rtrim_m a0 l0 k0 z0 _ h0 t0 c0).mono ?_
  rintro e x3 ⟨a2, c2, rfl, h2, hc2, hb⟩
  replace V1 := Va.after hb V1
  replace V2 := Va.after hb V2
  replace V3 := Va.after hb V3
  replace B0 := step B0 hb
  replace h1 := Sl.after hb h1
  clear hb h0
  try go_wp2_with fail
  refine hK.out _ _ ⟨V1.d0, V1.d1, V1.d2⟩ (fun hHeld => ?_)
  clear hK K
  refine wpAnyH_ready (rs := [5]) (by kernel_rfl) (by simp) ?_
  refine AllReadyH.cons rfl (fun K hK => ?_) AllReadyH.nil
  simp only [List.getElem_toArray, List.getElem_cons_zero, List.getElem_cons_succ]
  go_simp
  refine (rtrim_m a1 l1 k1 z1 _ h1 t1 c1).mono ?_
  rintro e x4 ⟨a3, c3, rfl, h3, hc3, hb⟩
  replace V1 := Va.after hb V1
  replace V2 := Va.after hb V2
  replace V3 := Va.after hb V3
  replace B0 := step B0 hb
  replace h2 := Sl.after hb h2
  clear hb h1
  try go_wp2_with fail
  refine hK.out _ _ ⟨V1.d0, V1.d1, V1.d2⟩ (fun hHeld => ?_)
  clear hK K
  refine wpAnyH_take (i := 6) (v := ?_) rfl (by kernel_rfl) (by kernel_rfl) (by kernel_rfl) (fun _ _ _ h => h) (Or.inl ⟨by rfl, ?_⟩) hHeld ?_
  rotate_left
  · (intro W hSw; (try dsimp only at hSw); go_simp; all_goals (with_reducible rfl))
  simp only [List.getElem_toArray, List.getElem_cons_zero, List.getElem_cons_succ, Act.put, List.setIfInBounds_toArray, List.set_cons_zero, List.set_cons_succ]
  refine wpAnyH_take (i := 7) (v := ?_) rfl (by kernel_rfl) (by kernel_rfl) (by kernel_rfl) (fun _ _ _ h => h) (Or.inl ⟨by rfl, ?_⟩) hHeld ?_
  rotate_left
  · (intro W hSw; (try dsimp only at hSw); go_simp; all_goals (with_reducible rfl))
  simp only [List.getElem_toArray, List.getElem_cons_zero, List.getElem_cons_succ, Act.put, List.setIfInBounds_toArray, List.set_cons_zero, List.set_cons_succ]
  refine wpAnyH_done (by kernel_rfl) ?_ _
  refine NoPanic.normal ?_
  clear hHeld
  have u2 := usedN_take z0 (Nat.le_refl (usedN z0))
  have u3 := usedN_take z1 (Nat.le_refl (usedN z1))
  obtain ⟨zn, hzn⟩ : ∃ zn, z0.take (usedN z0) = zn := ⟨_, rfl⟩
  obtain ⟨zd, hzd⟩ : ∃ zd, z1.take (usedN z1) = zd := ⟨_, rfl⟩
  rw [hzn] at h2 u2
  rw [hzd] at h3 u3
  rw [HL.out.1] at h2 hc2 u2 ⊢
  rw [HL.out.2] at h3 hc3 u3 ⊢
  clear hzn hzd t0 t1 c0 c1
  have HA2 : Hid (Sl x4 a2 ln zn ∧ usedN zn = ln) := ⟨h2, u2⟩
  have HA3 : Hid (Sl x4 a3 ld zd ∧ usedN zd = ld) := ⟨h3, u3⟩
  clear h2 h3 u2 u3 HL
  by_cases g1 : 1024 < ln
  · have g1i : (1024 : Int) < ln := by omega
    have g1n : decide (1024 < ln) = true := decide_eq_true g1
    have c_V2 := V2.d0
    have f0_V2 := V2.frozen 0
    have d_V2 := V2.d1
    have f1_V2 := V2.frozen 1
    have e_V2 := V2.d2
    have f2_V2 := V2.frozen 2
    have l_V2 := V2.lt
    have m_V2 := Nat.le_of_lt l_V2
    have c_V3 := V3.d0
    have f0_V3 := V3.frozen 0
    have d_V3 := V3.d1
    have f1_V3 := V3.frozen 1
    have e_V3 := V3.d2
    have f2_V3 := V3.frozen 2
    have l_V3 := V3.lt
    have m_V3 := Nat.le_of_lt l_V3
    go_wp2_with fail
    have T2 := two_set V2 V3 (by omega) (.bool false) (.slice none 0 0) (.slice none 0 0) (.bool false) (.slice none 0 0) (.slice none 0 0)
    refine bodyPost_ret (results_rrt rfl rfl rfl T2.1 T2.2) rfl ?_
    exact ⟨.inl ⟨by omega, rfl⟩, belo3 (belo3 B0 (Nat.le_succ _) _ _ _) (by omega) _ _ _⟩
  have g1i : ¬ (1024 : Int) < ln := by omega
  have g1n : decide (1024 < ln) = false := decide_eq_false g1
  by_cases g2 : 1024 < ld
  · have g2i : (1024 : Int) < ld := by omega
    have g2n : decide (1024 < ld) = true := decide_eq_true g2
    have c_V2 := V2.d0
    have f0_V2 := V2.frozen 0
    have d_V2 := V2.d1
    have f1_V2 := V2.frozen 1
    have e_V2 := V2.d2
    have f2_V2 := V2.frozen 2
    have l_V2 := V2.lt
    have m_V2 := Nat.le_of_lt l_V2
    have c_V3 := V3.d0
    have f0_V3 := V3.frozen 0
    have d_V3 := V3.d1
    have f1_V3 := V3.frozen 1
    have e_V3 := V3.d2
    have f2_V3 := V3.frozen 2
    have l_V3 := V3.lt
    have m_V3 := Nat.le_of_lt l_V3
    go_wp2_with fail
    have T2 := two_set V2 V3 (by omega) (.bool false) (.slice none 0 0) (.slice none 0 0) (.bool false) (.slice none 0 0) (.slice none 0 0)
    refine bodyPost_ret (results_rrt rfl rfl rfl T2.1 T2.2) rfl ?_
    exact ⟨.inl ⟨by omega, rfl⟩, belo3 (belo3 B0 (Nat.le_succ _) _ _ _) (by omega) _ _ _⟩
  have g2i : ¬ (1024 : Int) < ld := by omega
  have g2n : decide (1024 < ld) = false := decide_eq_false g2
  by_cases g3 : ld = 0
  · subst g3
    have c_V2 := V2.d0
    have f0_V2 := V2.frozen 0
    have d_V2 := V2.d1
    have f1_V2 := V2.frozen 1
    have e_V2 := V2.d2
    have f2_V2 := V2.frozen 2
    have l_V2 := V2.lt
    have m_V2 := Nat.le_of_lt l_V2
    have c_V3 := V3.d0
    have f0_V3 := V3.frozen 0
    have d_V3 := V3.d1
    have f1_V3 := V3.frozen 1
    have e_V3 := V3.d2
    have f2_V3 := V3.frozen 2
    have l_V3 := V3.lt
    have m_V3 := Nat.le_of_lt l_V3
    go_wp2_with fail
    have T2 := two_set V2 V3 (by omega) (.bool false) (.slice none 0 0) (.slice none 0 0) (.bool false) (.slice none 0 0) (.slice none 0 0)
    refine bodyPost_ret (results_rrt rfl rfl rfl T2.1 T2.2) rfl ?_
    exact ⟨.inl ⟨by omega, rfl⟩, belo3 (belo3 B0 (Nat.le_succ _) _ _ _) (by omega) _ _ _⟩
  have g3i : ¬ (ld : Int) = 0 := by omega
  have g3b : ((ld : Int) == 0) = false := by simp; omega
  have HOK : Hid (ln ≤ 1024 ∧ ld ≤ 1024 ∧ 0 < ld) := ⟨by omega, by omega, by omega⟩
  have hnz : num zd ≠ 0 := by rw [Ne, num_eq_zero HA3.out.1.2.1, HA3.out.2]; exact g3
  have HNZ : Hid (num zd ≠ 0) := hnz
  clear hnz
  obtain ⟨F, hF⟩ : ∃ F, (decide (60 < ln) && decide (60 < ld)) = F := ⟨_, rfl⟩
  have HF : Hid ((decide (60 < ln) && decide (60 < ld)) = F) := hF
  clear hF
  go_upto_region 4 with fail
  go_cut [41] (fun s41 wx => s41 = .bool F ∧ wx = x4)
  case first =>
    by_cases g4 : 60 < ln
    · have g4i : (60 : Int) < ln := by omega
      have g4n : decide (60 < ln) = true := decide_eq_true g4
      by_cases g5 : 60 < ld
      · have g5i : (60 : Int) < ld := by omega
        have g5n : decide (60 < ld) = true := decide_eq_true g5
        obtain rfl : F = true := by rw [← HF.out, g4n, g5n]; rfl
        go_wp2_with fail
        go_meet
        exact ⟨rfl, rfl⟩
      · have g5i : ¬ (60 : Int) < ld := by omega
        have g5n : decide (60 < ld) = false := decide_eq_false g5
        obtain rfl : F = false := by rw [← HF.out, g4n, g5n]; rfl
        go_wp2_with fail
        go_meet
        exact ⟨rfl, rfl⟩
    · have g4i : ¬ (60 : Int) < ln := by omega
      have g4n : decide (60 < ln) = false := decide_eq_false g4
      obtain rfl : F = false := by rw [← HF.out, g4n]; rfl
      go_wp2_with fail
      go_meet
      exact ⟨rfl, rfl⟩
  case rest =>
    obtain ⟨rfl, hwx⟩ := hcut
    rw [hwx]
    clear hwx
    go_upto_if 41 with fail
    go_cut [5, 6] (fun s5 s6 wx => ∃ (an ad : Option Addr) (nl nc dl dc : Nat) (xs ys : List Int), s5 = .slice an nl nc ∧ s6 = .slice ad dl dc ∧ Hid (Sl wx an nl xs ∧ Sl wx ad dl ys) ∧ Hid ((nl ≤ nc ∧ dl ≤ dc) ∧ (nl ≤ ln ∧ dl ≤ ld) ∧ num ys ≠ 0) ∧ Hid (Va wx w.heap.size 58 #[.bool neg, .slice a0 l0 k0, .slice a1 l1 k1]) ∧ Hid (Va wx (w.heap.size + 1) 45 #[.bool false, .slice none 0 0, .slice none 0 0]) ∧ Hid (Va wx (w.heap.size + 1 + 1) 37 #[.bool false, .slice none 0 0, .slice none 0 0]) ∧ Hid (Below w.heap.size w wx))
    case first =>
      cases F
      ·
        go_wp2_with fail
        go_meet
        exact ⟨_, _, _, _, _, _, zn, zd, rfl, rfl, ⟨HA2.out.1, HA3.out.1⟩, ⟨⟨hc2, hc3⟩, ⟨Nat.le_refl _, Nat.le_refl _⟩, HNZ.out⟩, V1, V2, V3, B0⟩
      · have g45 : 60 < ln ∧ 60 < ld := by have := HF.out; simpa using this
        obtain ⟨g4, g5⟩ := g45
        obtain ⟨h2, u2⟩ := HA2.out
        obtain ⟨h3, u3⟩ := HA3.out
        have hzl : zd.length = ld := h3.1
        obtain ⟨b2, o2, e2, -⟩ := h2.2.2 (by omega)
        obtain ⟨b3, o3, e3, -⟩ := h3.2.2 (by omega)
        subst e2
        subst e3
        replace h2 := Sl.take h2 (show 60 ≤ ln by omega)
        replace h3 := Sl.take h3 (show 60 ≤ ld by omega)
        have hom := one_more HA3.out.1.2.1
        have HOM : Hid (num ([1] ++ zd.take 60) ≠ 0 ∧ Limbs ([1] ++ zd.take 60)) := hom
        clear HA2 HA3 u2 u3 hom
        have q2 : (60 : Int) ≤ c2 := by omega
        have q3 : (60 : Int) ≤ c3 := by omega
        go_wp2_with fail
        refine wp_region_noPanic ?_
        replace V1 : Va x4.drew _ _ _ := V1
        replace V2 : Va x4.drew _ _ _ := V2
        replace V3 : Va x4.drew _ _ _ := V3
        replace B0 := Below.drew B0
        refine wp_region_held_drew (S := (fun _ => True)) (by kernel_rfl) trivial (fun hHeld => ?_)
        obtain ⟨x5, hxd⟩ : ∃ xd, xd = x4.drew := ⟨_, rfl⟩
        rw [← hxd] at V1 V2 V3 B0 ⊢
        replace h2 : Sl x5 (some ⟨b2, o2, none⟩) 60 (zn.take 60) := by rw [hxd]; exact h2
        replace h3 : Sl x5 (some ⟨b3, o3, none⟩) 60 (zd.take 60) := by rw [hxd]; exact h3
        clear hxd
        refine wpAnyH_take (i := 0) (v := ?_) rfl (by kernel_rfl) (by kernel_rfl) (by kernel_rfl) (fun _ _ _ h => h) (Or.inl ⟨by rfl, ?_⟩) hHeld ?_
        rotate_left
        · (intro W hSw; (try dsimp only at hSw); go_simp; all_goals (with_reducible rfl))
        simp only [List.getElem_toArray, List.getElem_cons_zero, Act.put, List.setIfInBounds_toArray, List.set_cons_zero, List.set_cons_succ]
        refine wpAnyH_take (i := 1) (v := ?_) rfl (by kernel_rfl) (by kernel_rfl) (by kernel_rfl) (fun _ _ _ h => h) (Or.inl ⟨by rfl, ?_⟩) hHeld ?_
        rotate_left
        · (intro W hSw; (try dsimp only at hSw); go_simp; all_goals (with_reducible rfl))
        simp only [List.getElem_toArray, List.getElem_cons_zero, List.getElem_cons_succ, Act.put, List.setIfInBounds_toArray, List.set_cons_zero, List.set_cons_succ]
        refine wpAnyH_take (i := 4) (v := ?_) rfl (by kernel_rfl) (by kernel_rfl) (by kernel_rfl) (fun _ _ _ h => h) (Or.inl ⟨by rfl, ?_⟩) hHeld ?_
        rotate_left
        · (intro W hSw; (try dsimp only at hSw); go_simp; all_goals (with_reducible rfl))
        simp only [List.getElem_toArray, List.getElem_cons_zero, List.getElem_cons_succ, Act.put, List.setIfInBounds_toArray, List.set_cons_zero, List.set_cons_succ]
        refine wpAnyH_take (i := 5) (v := ?_) rfl (by kernel_rfl) (by kernel_rfl) (by kernel_rfl) (fun _ _ _ h => h) (Or.inl ⟨by rfl, ?_⟩) hHeld ?_
        rotate_left
        · (intro W hSw; (try dsimp only at hSw); go_simp; all_goals (with_reducible rfl))
        simp only [List.getElem_toArray, List.getElem_cons_zero, List.getElem_cons_succ, Act.put, List.setIfInBounds_toArray, List.set_cons_zero, List.set_cons_succ]
        refine wpAnyH_ready (rs := [2, 3]) (by kernel_rfl) (by simp) ?_
        refine AllReadyH.cons rfl (fun K hK => ?_) (AllReadyH.cons rfl (fun K hK => ?_) AllReadyH.nil)
        ·
          simp only [List.getElem_toArray, List.getElem_cons_zero, List.getElem_cons_succ]
          go_simp
          refine (rtrim_new6 (some ⟨b2, o2, none⟩) 60 c2 (zn.take 60) _ h2 (fun h => by cases h) (by omega) (by omega)).mono ?_
          rintro e x6 ⟨a6, c6, rfl, h6, hc6, -, hn6, hb⟩
          replace V1 := Va.after hb V1
          replace V2 := Va.after hb V2
          replace V3 := Va.after hb V3
          replace B0 := step B0 hb
          replace h3 := Sl.after hb h3
          clear hb h2
          try go_wp2_with fail
          refine hK.out _ _ trivial (fun hHeld => ?_)
          clear hK K
          refine wpAnyH_ready (rs := [3]) (by kernel_rfl) (by simp) ?_
          refine AllReadyH.cons rfl (fun K hK => ?_) AllReadyH.nil
          simp only [List.getElem_toArray, List.getElem_cons_zero, List.getElem_cons_succ]
          go_simp
          have h6o := h6
          have hgB := V3.lt
          refine ent1 x6 _ _ (Q := fun V => K _ V) ?_
          intro x7 hb hs7 VG
          have hs8 : x6.heap.size < x7.heap.size := by omega
          clear hs7
          replace V1 := Va.after hb V1
          replace V2 := Va.after hb V2
          replace V3 := Va.after hb V3
          replace B0 := step B0 hb
          replace h3 := Sl.after hb h3
          replace h6 := Sl.after hb h6
          clear hb
          refine hK.out _ _ trivial (fun hHeld => ?_)
          clear hK K
          have h6n : ∀ p, 0 < usedN (zn.take 60) → a6 = some p → p.block ≠ x6.heap.size := fun p h0 hp => by have := h6o.lt h0 hp; omega
          refine wpAnyH_ready (rs := [6]) (by kernel_rfl) (by simp) ?_
          refine AllReadyH.cons rfl (fun K hK => ?_) AllReadyH.nil
          simp only [List.getElem_toArray, List.getElem_cons_zero, List.getElem_cons_succ]
          refine step_app_sl (o := { dst := some 48, op := .call { callee := .builtin .append, args := #[.tmp 45, .tmp 47], argTypes := #[35, 35] }, type := 35, pos := "law.go:36", after := #[{ on := 3, ground := .data }, { on := 5, ground := .data }, { on := 2, ground := .chain }], guard := none }) rfl (.tmp 45) (.tmp 47) rfl (w.heap.size + 1 + 1 + 1) (.slice (some ⟨x6.heap.size, 0, none⟩) 1 1) [1] rfl (gr_single VG (by omega)) b3 o3 60 c3 (zd.take 60) rfl h3 (by simp) (by have := VG.lt; omega) ?_
          intro v8 x8 hG8 hg8
          replace hg8 : x7.grownBy x8 (some x6.heap.size) := hg8
          replace V1 := V1.grw hg8 (by omega)
          replace V2 := V2.grw hg8 (by omega)
          replace V3 := V3.grw hg8 (by omega)
          replace h6 := h6.grw hg8 (fun h0 p hp => h6n p h0 hp)
          replace B0 := B0.trans (grw_to hg8 (by omega) B0.size)
          obtain ⟨a8, c8, rfl, hc8, h8⟩ := hG8.sl HOM.out.2
          clear hg8 hG8 h3 VG h6n
          have h61 : ([1] ++ zd.take 60).length = 61 := by rw [List.length_append, List.length_take]; have := g5; have := hzl; simp; omega
          rw [h61] at hc8 h8
          rw [h61]
          simp only [Act.put, List.setIfInBounds_toArray, List.set_cons_zero, List.set_cons_succ]
          refine hK.out _ _ trivial (fun hHeld => ?_)
          clear hK K
          refine wpAnyH_ready (rs := [7]) (by kernel_rfl) (by simp) ?_
          refine AllReadyH.cons rfl (fun K hK => ?_) AllReadyH.nil
          simp only [List.getElem_toArray, List.getElem_cons_zero, List.getElem_cons_succ]
          go_simp
          refine (rtrim_m a8 61 c8 ([1] ++ zd.take 60) _ h8 (by omega) hc8).mono ?_
          rintro e x9 ⟨a9, c9, rfl, h9, hc9, hb⟩
          replace V1 := Va.after hb V1
          replace V2 := Va.after hb V2
          replace V3 := Va.after hb V3
          replace B0 := step B0 hb
          replace h6 := Sl.after hb h6
          clear hb h8
          try go_wp2_with fail
          refine hK.out _ _ trivial (fun hHeld => ?_)
          clear hK K
          refine wpAnyH_take (i := 8) (v := ?_) rfl (by kernel_rfl) (by kernel_rfl) (by kernel_rfl) (fun _ _ _ h => h) (Or.inl ⟨by rfl, ?_⟩) hHeld ?_
          rotate_left
          · (intro W hSw; (try dsimp only at hSw); go_simp; all_goals (with_reducible rfl))
          simp only [List.getElem_toArray, List.getElem_cons_zero, List.getElem_cons_succ, Act.put, List.setIfInBounds_toArray, List.set_cons_zero, List.set_cons_succ]
          refine wpAnyH_take (i := 9) (v := ?_) rfl (by kernel_rfl) (by kernel_rfl) (by kernel_rfl) (fun _ _ _ h => h) (Or.inl ⟨by rfl, ?_⟩) hHeld ?_
          rotate_left
          · (intro W hSw; (try dsimp only at hSw); go_simp; all_goals (with_reducible rfl))
          simp only [List.getElem_toArray, List.getElem_cons_zero, List.getElem_cons_succ, Act.put, List.setIfInBounds_toArray, List.set_cons_zero, List.set_cons_succ]
          refine wpAnyH_done (by kernel_rfl) ?_ _
          refine NoPanic.normal ?_
          clear hHeld
          have q6 : usedN (zn.take 60) ≤ 60 := Nat.le_trans (usedN_le _) (by rw [List.length_take]; omega)
          have q9 : usedN ([1] ++ zd.take 60) ≤ 61 := Nat.le_trans (usedN_le _) (by omega)
          have n9 : num (([1] ++ zd.take 60).take (usedN ([1] ++ zd.take 60))) ≠ 0 := by rw [num_take_used _ (Nat.le_refl _)]; exact HOM.out.1
          try go_wp2_with fail
          go_meet
          exact ⟨_, _, _, _, _, _, _, _, rfl, rfl, ⟨h6, h9⟩, ⟨⟨hc6, hc9⟩, ⟨Nat.le_trans q6 (by omega), Nat.le_trans q9 (by omega)⟩, n9⟩, V1, V2, V3, B0⟩
        ·
          simp only [List.getElem_toArray, List.getElem_cons_zero, List.getElem_cons_succ]
          go_simp
          have hgB := V3.lt
          refine ent1 x5 _ _ (Q := fun V => K _ V) ?_
          intro x7 hb hs7 VG
          have hs8 : x5.heap.size < x7.heap.size := by omega
          clear hs7
          replace V1 := Va.after hb V1
          replace V2 := Va.after hb V2
          replace V3 := Va.after hb V3
          replace B0 := step B0 hb
          replace h3 := Sl.after hb h3
          replace h2 := Sl.after hb h2
          clear hb
          refine hK.out _ _ trivial (fun hHeld => ?_)
          clear hK K
          refine wpAnyH_ready (rs := [2]) (by kernel_rfl) (by simp) ?_
          refine AllReadyH.cons rfl (fun K hK => ?_) AllReadyH.nil
          simp only [List.getElem_toArray, List.getElem_cons_zero, List.getElem_cons_succ]
          go_simp
          refine (rtrim_new6 (some ⟨b2, o2, none⟩) 60 c2 (zn.take 60) _ h2 (fun h => by cases h) (by omega) (by omega)).mono ?_
          rintro e x6 ⟨a6, c6, rfl, h6, hc6, -, hn6, hb⟩
          replace V1 := Va.after hb V1
          replace V2 := Va.after hb V2
          replace V3 := Va.after hb V3
          replace B0 := step B0 hb
          replace h3 := Sl.after hb h3
          replace VG := Va.after hb VG
          clear hb h2
          try go_wp2_with fail
          refine hK.out _ _ trivial (fun hHeld => ?_)
          clear hK K
          have h6n : ∀ p, 0 < usedN (zn.take 60) → a6 = some p → p.block ≠ x5.heap.size := fun p h0 hp => by have := hn6 h0 p hp; omega
          refine wpAnyH_ready (rs := [6]) (by kernel_rfl) (by simp) ?_
          refine AllReadyH.cons rfl (fun K hK => ?_) AllReadyH.nil
          simp only [List.getElem_toArray, List.getElem_cons_zero, List.getElem_cons_succ]
          refine step_app_sl (o := { dst := some 48, op := .call { callee := .builtin .append, args := #[.tmp 45, .tmp 47], argTypes := #[35, 35] }, type := 35, pos := "law.go:36", after := #[{ on := 3, ground := .data }, { on := 5, ground := .data }, { on := 2, ground := .chain }], guard := none }) rfl (.tmp 45) (.tmp 47) rfl (w.heap.size + 1 + 1 + 1) (.slice (some ⟨x5.heap.size, 0, none⟩) 1 1) [1] rfl (gr_single VG (by omega)) b3 o3 60 c3 (zd.take 60) rfl h3 (by simp) (by have := VG.lt; omega) ?_
          intro v8 x8 hG8 hg8
          replace hg8 : x6.grownBy x8 (some x5.heap.size) := hg8
          replace V1 := V1.grw hg8 (by omega)
          replace V2 := V2.grw hg8 (by omega)
          replace V3 := V3.grw hg8 (by omega)
          replace h6 := h6.grw hg8 (fun h0 p hp => h6n p h0 hp)
          replace B0 := B0.trans (grw_to hg8 (by omega) B0.size)
          obtain ⟨a8, c8, rfl, hc8, h8⟩ := hG8.sl HOM.out.2
          clear hg8 hG8 h3 VG h6n
          have h61 : ([1] ++ zd.take 60).length = 61 := by rw [List.length_append, List.length_take]; have := g5; have := hzl; simp; omega
          rw [h61] at hc8 h8
          rw [h61]
          simp only [Act.put, List.setIfInBounds_toArray, List.set_cons_zero, List.set_cons_succ]
          refine hK.out _ _ trivial (fun hHeld => ?_)
          clear hK K
          refine wpAnyH_ready (rs := [7]) (by kernel_rfl) (by simp) ?_
          refine AllReadyH.cons rfl (fun K hK => ?_) AllReadyH.nil
          simp only [List.getElem_toArray, List.getElem_cons_zero, List.getElem_cons_succ]
          go_simp
          refine (rtrim_m a8 61 c8 ([1] ++ zd.take 60) _ h8 (by omega) hc8).mono ?_
          rintro e x9 ⟨a9, c9, rfl, h9, hc9, hb⟩
          replace V1 := Va.after hb V1
          replace V2 := Va.after hb V2
          replace V3 := Va.after hb V3
          replace B0 := step B0 hb
          replace h6 := Sl.after hb h6
          clear hb h8
          try go_wp2_with fail
          refine hK.out _ _ trivial (fun hHeld => ?_)
          clear hK K
          refine wpAnyH_take (i := 8) (v := ?_) rfl (by kernel_rfl) (by kernel_rfl) (by kernel_rfl) (fun _ _ _ h => h) (Or.inl ⟨by rfl, ?_⟩) hHeld ?_
          rotate_left
          · (intro W hSw; (try dsimp only at hSw); go_simp; all_goals (with_reducible rfl))
          simp only [List.getElem_toArray, List.getElem_cons_zero, List.getElem_cons_succ, Act.put, List.setIfInBounds_toArray, List.set_cons_zero, List.set_cons_succ]
          refine wpAnyH_take (i := 9) (v := ?_) rfl (by kernel_rfl) (by kernel_rfl) (by kernel_rfl) (fun _ _ _ h => h) (Or.inl ⟨by rfl, ?_⟩) hHeld ?_
          rotate_left
          · (intro W hSw; (try dsimp only at hSw); go_simp; all_goals (with_reducible rfl))
          simp only [List.getElem_toArray, List.getElem_cons_zero, List.getElem_cons_succ, Act.put, List.setIfInBounds_toArray, List.set_cons_zero, List.set_cons_succ]
          refine wpAnyH_done (by kernel_rfl) ?_ _
          refine NoPanic.normal ?_
          clear hHeld
          have q6 : usedN (zn.take 60) ≤ 60 := Nat.le_trans (usedN_le _) (by rw [List.length_take]; omega)
          have q9 : usedN ([1] ++ zd.take 60) ≤ 61 := Nat.le_trans (usedN_le _) (by omega)
          have n9 : num (([1] ++ zd.take 60).take (usedN ([1] ++ zd.take 60))) ≠ 0 := by rw [num_take_used _ (Nat.le_refl _)]; exact HOM.out.1
          try go_wp2_with fail
          go_meet
          exact ⟨_, _, _, _, _, _, _, _, rfl, rfl, ⟨h6, h9⟩, ⟨⟨hc6, hc9⟩, ⟨Nat.le_trans q6 (by omega), Nat.le_trans q9 (by omega)⟩, n9⟩, V1, V2, V3, B0⟩
    case rest =>
      clear V1 V2 V3 B0 HA2 HA3 HNZ HF hc2 hc3 g1 g2 g3 g1i g1n g2i g2n g3i g3b
      obtain ⟨an, ad, nl, nc, dl, dc, xs, ys, rfl, rfl, HS, HN, HV1, HV2, HV3, HB⟩ := hcut
      have V1 := HV1.out
      have V2 := HV2.out
      have V3 := HV3.out
      have B0 := HB.out
      obtain ⟨hx, hy⟩ := HS.out
      obtain ⟨⟨hxc, hyc⟩, ⟨hx1, hy1⟩, hy0⟩ := HN.out
      obtain ⟨ok1, ok2, ok3⟩ := HOK.out
      have HY0 : Hid (num ys ≠ 0) := hy0
      clear HV1 HV2 HV3 HB HS HN hy0
      go_wp2_with fail
      obtain ⟨az, haz⟩ : ∃ az, a1 = az := ⟨_, rfl⟩
      rw [haz] at V1
      clear haz
      refine (copyl6 an nl nc xs _ hx (by omega)).mono ?_
      rintro e y1 ⟨a1, c1, rfl, h1, hc1, hb⟩
      replace V1 := Va.after hb V1
      replace V2 := Va.after hb V2
      replace V3 := Va.after hb V3
      replace B0 := step B0 hb
      replace hx := Sl.after hb hx
      replace hy := Sl.after hb hy
      clear hb
      go_wp2_with fail
      refine (of_ok a1 nl c1 xs _ h1 (by omega) hc1 (Nat.le_trans (usedN_le _) (by rw [h1.1]; omega))).mono ?_
      rintro e y2 ⟨g2, l2, k2, z2, rfl, -, n2, e2, hb⟩
      replace V1 := Va.after hb V1
      replace V2 := Va.after hb V2
      replace V3 := Va.after hb V3
      replace B0 := step B0 hb
      replace hx := Sl.after hb hx
      replace hy := Sl.after hb hy
      clear hb h1
      go_wp2_with fail
      refine ent1 y2 _ _ (Q := fun W => Calls Tryz.prog _ _ W _) ?_
      intro y3 hb hs3 W1
      replace V1 := Va.after hb V1
      replace V2 := Va.after hb V2
      replace V3 := Va.after hb V3
      replace B0 := step B0 hb
      replace hx := Sl.after hb hx
      replace hy := Sl.after hb hy
      replace n2 := Nt.after hb n2
      clear hb hs3
      refine (copyl6 ad dl dc ys _ hy (by omega)).mono ?_
      rintro e y4 ⟨a3, c3, rfl, h3, hc3, hb⟩
      replace V1 := Va.after hb V1
      replace V2 := Va.after hb V2
      replace V3 := Va.after hb V3
      replace B0 := step B0 hb
      replace hx := Sl.after hb hx
      replace hy := Sl.after hb hy
      replace W1 := Va.after hb W1
      replace n2 := Nt.after hb n2
      clear hb
      go_wp2_with fail
      refine (of_ok a3 dl c3 ys _ h3 (by omega) hc3 (Nat.le_trans (usedN_le _) (by rw [h3.1]; omega))).mono ?_
      rintro e y5 ⟨g4, l4, k4, z4, rfl, -, n4, e4, hb⟩
      replace V1 := Va.after hb V1
      replace V2 := Va.after hb V2
      replace V3 := Va.after hb V3
      replace B0 := step B0 hb
      replace hx := Sl.after hb hx
      replace hy := Sl.after hb hy
      replace W1 := Va.after hb W1
      replace n2 := Nt.after hb n2
      clear hb h3
      go_wp2_with fail
      refine ent1 y5 _ _ (Q := fun W => Code.wp Tryz.prog _ _ _ W) ?_
      intro y6 hb hs6 W2
      replace V1 := Va.after hb V1
      replace V2 := Va.after hb V2
      replace V3 := Va.after hb V3
      replace B0 := step B0 hb
      replace hx := Sl.after hb hx
      replace hy := Sl.after hb hy
      replace W1 := Va.after hb W1
      replace n2 := Nt.after hb n2
      replace n4 := Nt.after hb n4
      clear hb hs6
      have HE : Hid (num z2 = num xs ∧ num z4 = num ys) := ⟨e2, e4⟩
      have HSH : Hid (Short (Rat.divInt (iv neg xs) (num ys))) := short_div hx.2.1 hy.2.1 (by rw [hx.1]; omega) (by rw [hy.1]; omega) neg HY0.out
      clear e2 e4
      go_upto_region 8 with fail
      go_cut [11, 12] (fun s11 s12 wx => ∃ (g : Nat) (s : Bool) (a : Option Addr) (l c : Nat) (zs : List Int) (b : Option Addr) (m d : Nat) (ds : List Int), s11 = .pointer (some ⟨g, 0, none⟩) ∧ s12 = .int .i64 0 ∧ w.heap.size + 3 ≤ g ∧ Hid (Va wx g 45 #[.bool s, .slice a l c, .slice b m d]) ∧ Hid (Rt wx s a l c zs b m d ds (Rat.divInt (iv neg xs) (num ys))) ∧ Hid (Sl wx an nl xs ∧ Sl wx ad dl ys) ∧ Hid (Va wx w.heap.size 58 #[.bool neg, .slice a0 l0 k0, .slice az l1 k1]) ∧ Hid (Va wx (w.heap.size + 1) 45 #[.bool false, .slice none 0 0, .slice none 0 0]) ∧ Hid (Va wx (w.heap.size + 1 + 1) 37 #[.bool false, .slice none 0 0, .slice none 0 0]) ∧ Hid (Below w.heap.size w wx))
      case first =>
        have hgB := V3.lt
        refine wp_region_noPanic ?_
        replace V1 : Va y6.drew _ _ _ := V1
        replace V2 : Va y6.drew _ _ _ := V2
        replace V3 : Va y6.drew _ _ _ := V3
        replace W1 : Va y6.drew _ _ _ := W1
        replace W2 : Va y6.drew _ _ _ := W2
        replace B0 := Below.drew B0
        refine wp_region_held_drew (S := (fun W => W.cell? ⟨w.heap.size, 0, none⟩ = some (.bool neg) ∧ W.cell? ⟨y2.heap.size, 0, none⟩ = some (.slice (some ⟨g2, 0, none⟩) l2 k2) ∧ W.cell? ⟨y5.heap.size, 0, none⟩ = some (.slice (some ⟨g4, 0, none⟩) l4 k4))) (by kernel_rfl) ⟨V1.d0, W1.cell, W2.cell⟩ (fun hHeld => ?_)
        obtain ⟨y7, hxd⟩ : ∃ xd, xd = y6.drew := ⟨_, rfl⟩
        rw [← hxd] at V1 V2 V3 W1 W2 B0 hHeld ⊢
        replace hx : Sl y7 an nl xs := by rw [hxd]; exact hx
        replace hy : Sl y7 ad dl ys := by rw [hxd]; exact hy
        replace n2 : Nt y7 (some ⟨g2, 0, none⟩) l2 k2 z2 := by rw [hxd]; exact n2
        replace n4 : Nt y7 (some ⟨g4, 0, none⟩) l4 k4 z4 := by rw [hxd]; exact n4
        replace hgB : w.heap.size + 1 + 1 < y7.heap.size := by rw [hxd]; exact hgB
        clear hxd
        refine wpAnyH_take (i := 0) (v := ?_) rfl (by kernel_rfl) (by kernel_rfl) (by kernel_rfl) (fun _ _ _ h => h) (Or.inl ⟨by rfl, ?_⟩) hHeld ?_
        rotate_left
        · (intro W hSw; (try dsimp only at hSw); go_simp; all_goals (with_reducible rfl))
        simp only [List.getElem_toArray, List.getElem_cons_zero, Act.put, List.setIfInBounds_toArray, List.set_cons_zero, List.set_cons_succ]
        refine wpAnyH_take (i := 1) (v := ?_) rfl (by kernel_rfl) (by kernel_rfl) (by kernel_rfl) (fun _ _ _ h => h) (Or.inl ⟨by rfl, ?_⟩) hHeld ?_
        rotate_left
        · (intro W hSw; (try dsimp only at hSw); go_simp; all_goals (with_reducible rfl))
        simp only [List.getElem_toArray, List.getElem_cons_zero, List.getElem_cons_succ, Act.put, List.setIfInBounds_toArray, List.set_cons_zero, List.set_cons_succ]
        refine wpAnyH_take (i := 2) (v := ?_) rfl (by kernel_rfl) (by kernel_rfl) (by kernel_rfl) (fun _ _ _ h => h) (Or.inl ⟨by rfl, ?_⟩) hHeld ?_
        rotate_left
        · (intro W hSw; (try dsimp only at hSw); go_simp; all_goals (with_reducible rfl))
        simp only [List.getElem_toArray, List.getElem_cons_zero, List.getElem_cons_succ, Act.put, List.setIfInBounds_toArray, List.set_cons_zero, List.set_cons_succ]
        refine wpAnyH_take (i := 4) (v := ?_) rfl (by kernel_rfl) (by kernel_rfl) (by kernel_rfl) (fun _ _ _ h => h) (Or.inl ⟨by rfl, ?_⟩) hHeld ?_
        rotate_left
        · (intro W hSw; (try dsimp only at hSw); go_simp; all_goals (with_reducible rfl))
        simp only [List.getElem_toArray, List.getElem_cons_zero, List.getElem_cons_succ, Act.put, List.setIfInBounds_toArray, List.set_cons_zero, List.set_cons_succ]
        refine wpAnyH_ready (rs := [3, 10]) (by kernel_rfl) (by simp) ?_
        refine AllReadyH.cons rfl (fun K hK => ?_) (AllReadyH.cons rfl (fun K hK => ?_) AllReadyH.nil)
        ·
          simp only [List.getElem_toArray, List.getElem_cons_zero, List.getElem_cons_succ]
          go_simp
          refine (wnew_any neg (some ⟨g2, 0, none⟩) l2 k2 z2 _ n2).mono ?_
          rintro e y8 ⟨s3, rfl, i3, j3, hb⟩
          replace V1 := Va.after hb V1
          replace V2 := Va.after hb V2
          replace V3 := Va.after hb V3
          replace W1 := Va.after hb W1
          replace W2 := Va.after hb W2
          replace n2 := Nt.after hb n2
          replace n4 := Nt.after hb n4
          replace hx := Sl.after hb hx
          replace hy := Sl.after hb hy
          replace B0 := step B0 hb
          replace hgB := Nat.lt_of_lt_of_le hgB hb.size
          clear hb
          try go_wp2_with fail
          refine hK.out _ _ ⟨V1.d0, W1.cell, W2.cell⟩ (fun hHeld => ?_)
          clear hK K
          refine wpAnyH_ready (rs := [5, 10]) (by kernel_rfl) (by simp) ?_
          refine AllReadyH.cons rfl (fun K hK => ?_) (AllReadyH.cons rfl (fun K hK => ?_) AllReadyH.nil)
          ·
            simp only [List.getElem_toArray, List.getElem_cons_zero, List.getElem_cons_succ]
            go_simp
            refine (wnew_any false (some ⟨g4, 0, none⟩) l4 k4 z4 _ n4).mono ?_
            rintro e y9 ⟨s5, rfl, i5, j5, hb⟩
            replace V1 := Va.after hb V1
            replace V2 := Va.after hb V2
            replace V3 := Va.after hb V3
            replace W1 := Va.after hb W1
            replace W2 := Va.after hb W2
            replace n4 := Nt.after hb n4
            replace hx := Sl.after hb hx
            replace hy := Sl.after hb hy
            replace i3 := It.after hb i3
            replace B0 := step B0 hb
            replace hgB := Nat.lt_of_lt_of_le hgB hb.size
            clear hb
            try go_wp2_with fail
            refine hK.out _ _ ⟨V1.d0, W1.cell, W2.cell⟩ (fun hHeld => ?_)
            clear hK K
            refine wpAnyH_ready (rs := [6, 10]) (by kernel_rfl) (by simp) ?_
            refine AllReadyH.cons rfl (fun K hK => ?_) (AllReadyH.cons rfl (fun K hK => ?_) AllReadyH.nil)
            ·
              simp only [List.getElem_toArray, List.getElem_cons_zero, List.getElem_cons_succ]
              go_simp
              refine (qnew_ok s3 s5 (some ⟨g2, 0, none⟩) (some ⟨g4, 0, none⟩) l2 k2 l4 k4 z2 z4 _ i3 i5 (by rw [j5]; show num z4 ≠ 0; rw [HE.out.2]; exact HY0.out)).mono ?_
              rintro e y10 ⟨er, s', a', l', c', zs', b', m', d', ds', v', rfl, hr, HRA, hb⟩
              replace V1 := Va.after hb V1
              replace V2 := Va.after hb V2
              replace V3 := Va.after hb V3
              replace W1 := Va.after hb W1
              replace W2 := Va.after hb W2
              replace hx := Sl.after hb hx
              replace hy := Sl.after hb hy
              replace i3 := It.after hb i3
              replace i5 := It.after hb i5
              replace B0 := step B0 hb
              replace hgB := Nat.lt_of_lt_of_le hgB hb.size
              clear hb
              obtain ⟨rfl, rfl⟩ : er = 0 ∧ v' = Rat.divInt (iv neg xs) (num ys) := ra_fit HRA.out (by rw [j3, iv_num HE.out.1]) (by rw [j5]; show num z4 = _; exact HE.out.2) HSH.out
              clear HRA i3 i5 j3 j5
              try go_wp2_with fail
              refine hK.out _ _ ⟨V1.d0, W1.cell, W2.cell⟩ (fun hHeld => ?_)
              clear hK K
              refine wpAnyH_take (i := 7) (v := ?_) rfl (by kernel_rfl) (by kernel_rfl) (by kernel_rfl) (fun _ _ _ h => h) (Or.inl ⟨by rfl, ?_⟩) hHeld ?_
              rotate_left
              · (intro W hSw; (try dsimp only at hSw); go_simp; all_goals (with_reducible rfl))
              simp only [List.getElem_toArray, List.getElem_cons_zero, List.getElem_cons_succ, Act.put, List.setIfInBounds_toArray, List.set_cons_zero, List.set_cons_succ]
              refine wpAnyH_take (i := 8) (v := ?_) rfl (by kernel_rfl) (by kernel_rfl) (by kernel_rfl) (fun _ _ _ h => h) (Or.inl ⟨by rfl, ?_⟩) hHeld ?_
              rotate_left
              · (intro W hSw; (try dsimp only at hSw); go_simp; all_goals (with_reducible rfl))
              simp only [List.getElem_toArray, List.getElem_cons_zero, List.getElem_cons_succ, Act.put, List.setIfInBounds_toArray, List.set_cons_zero, List.set_cons_succ]
              refine wpAnyH_take (i := 9) (v := ?_) rfl (by kernel_rfl) (by kernel_rfl) (by kernel_rfl) (fun _ _ _ h => h) (Or.inl ⟨by rfl, ?_⟩) hHeld ?_
              rotate_left
              · (intro W hSw; (try dsimp only at hSw); go_simp; all_goals (with_reducible rfl))
              simp only [List.getElem_toArray, List.getElem_cons_zero, List.getElem_cons_succ, Act.put, List.setIfInBounds_toArray, List.set_cons_zero, List.set_cons_succ]
              refine wpAnyH_ready (rs := [10]) (by kernel_rfl) (by simp) ?_
              refine AllReadyH.cons rfl (fun K hK => ?_) AllReadyH.nil
              simp only [List.getElem_toArray, List.getElem_cons_zero, List.getElem_cons_succ]
              go_simp
              refine ent1 y10 _ _ (Q := fun V => K _ V) ?_
              intro y11 hb hsz VG
              clear hsz
              have hgg : w.heap.size + 3 ≤ y10.heap.size := by omega
              replace V1 := Va.after hb V1
              replace V2 := Va.after hb V2
              replace V3 := Va.after hb V3
              replace W1 := Va.after hb W1
              replace W2 := Va.after hb W2
              replace hx := Sl.after hb hx
              replace hy := Sl.after hb hy
              replace hr := Rt.after hb hr
              replace B0 := step B0 hb
              replace hgB := Nat.lt_of_lt_of_le hgB hb.size
              clear hb
              refine hK.out _ _ ⟨V1.d0, W1.cell, W2.cell⟩ (fun hHeld => ?_)
              clear hK K
              have c_VG := VG.d0
              have f0_VG := VG.frozen 0
              have d_VG := VG.d1
              have f1_VG := VG.frozen 1
              have e_VG := VG.d2
              have f2_VG := VG.frozen 2
              have l_VG := VG.lt
              have m_VG := Nat.le_of_lt l_VG
              refine wpAnyH_ready (rs := [11]) (by kernel_rfl) (by simp) ?_
              refine AllReadyH.cons rfl (fun K hK => ?_) AllReadyH.nil
              simp only [List.getElem_toArray, List.getElem_cons_zero, List.getElem_cons_succ]
              go_simp
              clear c_VG f0_VG d_VG f1_VG e_VG f2_VG l_VG m_VG
              refine sto3 VG (.bool s') (.slice a' l' c') (.slice b' m' d') (Q := fun W => K _ W) ?_
              intro yz V' oth far
              replace V1 := oth _ _ _ (by omega) V1
              replace V2 := oth _ _ _ (by omega) V2
              replace V3 := oth _ _ _ (by omega) V3
              have q1 := W1.lt
              replace hr := hr.far VG (noInt3 _ _ _ _ _ _ _) far.1
              replace hx := Sl.far hx VG (noInt3 _ _ _ _ _ _ _) far.1
              replace hy := Sl.far hy VG (noInt3 _ _ _ _ _ _ _) far.1
              replace W1 := oth _ _ _ (fun h => absurd W1 (va_other VG h (by decide))) W1
              replace W2 := oth _ _ _ (fun h => absurd W2 (va_other VG h (by decide))) W2
              replace B0 := far.2 _ _ (by omega) B0
              replace VG := V'
              clear oth far V' q1
              refine hK.out _ _ ⟨V1.d0, W1.cell, W2.cell⟩ (fun hHeld => ?_)
              clear hK K
              refine wpAnyH_take (i := 12) (v := ?_) rfl (by kernel_rfl) (by kernel_rfl) (by kernel_rfl) (fun _ _ _ h => h) (Or.inl ⟨by rfl, ?_⟩) hHeld ?_
              rotate_left
              · (intro W hSw; (try dsimp only at hSw); go_simp; all_goals (with_reducible rfl))
              simp only [List.getElem_toArray, List.getElem_cons_zero, List.getElem_cons_succ, Act.put, List.setIfInBounds_toArray, List.set_cons_zero, List.set_cons_succ]
              refine wpAnyH_done (by kernel_rfl) ?_ _
              refine NoPanic.normal ?_
              clear hHeld
              try go_wp2_with fail
              go_meet
              exact ⟨_, s', a', l', c', zs', b', m', d', ds', rfl, rfl, hgg, VG, hr, ⟨hx, hy⟩, V1, V2, V3, B0⟩
            ·
              simp only [List.getElem_toArray, List.getElem_cons_zero, List.getElem_cons_succ]
              go_simp
              refine ent1 y9 _ _ (Q := fun V => K _ V) ?_
              intro y12 hb hsz VG
              clear hsz
              have hgg : w.heap.size + 3 ≤ y9.heap.size := by omega
              replace V1 := Va.after hb V1
              replace V2 := Va.after hb V2
              replace V3 := Va.after hb V3
              replace W1 := Va.after hb W1
              replace W2 := Va.after hb W2
              replace hx := Sl.after hb hx
              replace hy := Sl.after hb hy
              replace i3 := It.after hb i3
              replace i5 := It.after hb i5
              replace B0 := step B0 hb
              replace hgB := Nat.lt_of_lt_of_le hgB hb.size
              clear hb
              refine hK.out _ _ ⟨V1.d0, W1.cell, W2.cell⟩ (fun hHeld => ?_)
              clear hK K
              refine wpAnyH_ready (rs := [6]) (by kernel_rfl) (by simp) ?_
              refine AllReadyH.cons rfl (fun K hK => ?_) AllReadyH.nil
              simp only [List.getElem_toArray, List.getElem_cons_zero, List.getElem_cons_succ]
              go_simp
              refine (qnew_ok s3 s5 (some ⟨g2, 0, none⟩) (some ⟨g4, 0, none⟩) l2 k2 l4 k4 z2 z4 _ i3 i5 (by rw [j5]; show num z4 ≠ 0; rw [HE.out.2]; exact HY0.out)).mono ?_
              rintro e y13 ⟨er, s', a', l', c', zs', b', m', d', ds', v', rfl, hr, HRA, hb⟩
              replace V1 := Va.after hb V1
              replace V2 := Va.after hb V2
              replace V3 := Va.after hb V3
              replace W1 := Va.after hb W1
              replace W2 := Va.after hb W2
              replace hx := Sl.after hb hx
              replace hy := Sl.after hb hy
              replace i3 := It.after hb i3
              replace i5 := It.after hb i5
              replace VG := Va.after hb VG
              replace B0 := step B0 hb
              replace hgB := Nat.lt_of_lt_of_le hgB hb.size
              clear hb
              obtain ⟨rfl, rfl⟩ : er = 0 ∧ v' = Rat.divInt (iv neg xs) (num ys) := ra_fit HRA.out (by rw [j3, iv_num HE.out.1]) (by rw [j5]; show num z4 = _; exact HE.out.2) HSH.out
              clear HRA i3 i5 j3 j5
              try go_wp2_with fail
              refine hK.out _ _ ⟨V1.d0, W1.cell, W2.cell⟩ (fun hHeld => ?_)
              clear hK K
              refine wpAnyH_take (i := 7) (v := ?_) rfl (by kernel_rfl) (by kernel_rfl) (by kernel_rfl) (fun _ _ _ h => h) (Or.inl ⟨by rfl, ?_⟩) hHeld ?_
              rotate_left
              · (intro W hSw; (try dsimp only at hSw); go_simp; all_goals (with_reducible rfl))
              simp only [List.getElem_toArray, List.getElem_cons_zero, List.getElem_cons_succ, Act.put, List.setIfInBounds_toArray, List.set_cons_zero, List.set_cons_succ]
              refine wpAnyH_take (i := 8) (v := ?_) rfl (by kernel_rfl) (by kernel_rfl) (by kernel_rfl) (fun _ _ _ h => h) (Or.inl ⟨by rfl, ?_⟩) hHeld ?_
              rotate_left
              · (intro W hSw; (try dsimp only at hSw); go_simp; all_goals (with_reducible rfl))
              simp only [List.getElem_toArray, List.getElem_cons_zero, List.getElem_cons_succ, Act.put, List.setIfInBounds_toArray, List.set_cons_zero, List.set_cons_succ]
              refine wpAnyH_take (i := 9) (v := ?_) rfl (by kernel_rfl) (by kernel_rfl) (by kernel_rfl) (fun _ _ _ h => h) (Or.inl ⟨by rfl, ?_⟩) hHeld ?_
              rotate_left
              · (intro W hSw; (try dsimp only at hSw); go_simp; all_goals (with_reducible rfl))
              simp only [List.getElem_toArray, List.getElem_cons_zero, List.getElem_cons_succ, Act.put, List.setIfInBounds_toArray, List.set_cons_zero, List.set_cons_succ]
              have c_VG := VG.d0
              have f0_VG := VG.frozen 0
              have d_VG := VG.d1
              have f1_VG := VG.frozen 1
              have e_VG := VG.d2
              have f2_VG := VG.frozen 2
              have l_VG := VG.lt
              have m_VG := Nat.le_of_lt l_VG
              refine wpAnyH_ready (rs := [11]) (by kernel_rfl) (by simp) ?_
              refine AllReadyH.cons rfl (fun K hK => ?_) AllReadyH.nil
              simp only [List.getElem_toArray, List.getElem_cons_zero, List.getElem_cons_succ]
              go_simp
              clear c_VG f0_VG d_VG f1_VG e_VG f2_VG l_VG m_VG
              refine sto3 VG (.bool s') (.slice a' l' c') (.slice b' m' d') (Q := fun W => K _ W) ?_
              intro yz V' oth far
              replace V1 := oth _ _ _ (by omega) V1
              replace V2 := oth _ _ _ (by omega) V2
              replace V3 := oth _ _ _ (by omega) V3
              have q1 := W1.lt
              replace hr := hr.far VG (noInt3 _ _ _ _ _ _ _) far.1
              replace hx := Sl.far hx VG (noInt3 _ _ _ _ _ _ _) far.1
              replace hy := Sl.far hy VG (noInt3 _ _ _ _ _ _ _) far.1
              replace W1 := oth _ _ _ (fun h => absurd W1 (va_other VG h (by decide))) W1
              replace W2 := oth _ _ _ (fun h => absurd W2 (va_other VG h (by decide))) W2
              replace B0 := far.2 _ _ (by omega) B0
              replace VG := V'
              clear oth far V' q1
              refine hK.out _ _ ⟨V1.d0, W1.cell, W2.cell⟩ (fun hHeld => ?_)
              clear hK K
              refine wpAnyH_take (i := 12) (v := ?_) rfl (by kernel_rfl) (by kernel_rfl) (by kernel_rfl) (fun _ _ _ h => h) (Or.inl ⟨by rfl, ?_⟩) hHeld ?_
              rotate_left
              · (intro W hSw; (try dsimp only at hSw); go_simp; all_goals (with_reducible rfl))
              simp only [List.getElem_toArray, List.getElem_cons_zero, List.getElem_cons_succ, Act.put, List.setIfInBounds_toArray, List.set_cons_zero, List.set_cons_succ]
              refine wpAnyH_done (by kernel_rfl) ?_ _
              refine NoPanic.normal ?_
              clear hHeld
              try go_wp2_with fail
              go_meet
              exact ⟨_, s', a', l', c', zs', b', m', d', ds', rfl, rfl, hgg, VG, hr, ⟨hx, hy⟩, V1, V2, V3, B0⟩
          ·
            simp only [List.getElem_toArray, List.getElem_cons_zero, List.getElem_cons_succ]
            go_simp
            refine ent1 y8 _ _ (Q := fun V => K _ V) ?_
            intro y14 hb hsz VG
            clear hsz
            have hgg : w.heap.size + 3 ≤ y8.heap.size := by omega
            replace V1 := Va.after hb V1
            replace V2 := Va.after hb V2
            replace V3 := Va.after hb V3
            replace W1 := Va.after hb W1
            replace W2 := Va.after hb W2
            replace n4 := Nt.after hb n4
            replace hx := Sl.after hb hx
            replace hy := Sl.after hb hy
            replace i3 := It.after hb i3
            replace B0 := step B0 hb
            replace hgB := Nat.lt_of_lt_of_le hgB hb.size
            clear hb
            refine hK.out _ _ ⟨V1.d0, W1.cell, W2.cell⟩ (fun hHeld => ?_)
            clear hK K
            refine wpAnyH_ready (rs := [5]) (by kernel_rfl) (by simp) ?_
            refine AllReadyH.cons rfl (fun K hK => ?_) AllReadyH.nil
            simp only [List.getElem_toArray, List.getElem_cons_zero, List.getElem_cons_succ]
            go_simp
            refine (wnew_any false (some ⟨g4, 0, none⟩) l4 k4 z4 _ n4).mono ?_
            rintro e y15 ⟨s5, rfl, i5, j5, hb⟩
            replace V1 := Va.after hb V1
            replace V2 := Va.after hb V2
            replace V3 := Va.after hb V3
            replace W1 := Va.after hb W1
            replace W2 := Va.after hb W2
            replace n4 := Nt.after hb n4
            replace hx := Sl.after hb hx
            replace hy := Sl.after hb hy
            replace i3 := It.after hb i3
            replace VG := Va.after hb VG
            replace B0 := step B0 hb
            replace hgB := Nat.lt_of_lt_of_le hgB hb.size
            clear hb
            try go_wp2_with fail
            refine hK.out _ _ ⟨V1.d0, W1.cell, W2.cell⟩ (fun hHeld => ?_)
            clear hK K
            refine wpAnyH_ready (rs := [6]) (by kernel_rfl) (by simp) ?_
            refine AllReadyH.cons rfl (fun K hK => ?_) AllReadyH.nil
            simp only [List.getElem_toArray, List.getElem_cons_zero, List.getElem_cons_succ]
            go_simp
            refine (qnew_ok s3 s5 (some ⟨g2, 0, none⟩) (some ⟨g4, 0, none⟩) l2 k2 l4 k4 z2 z4 _ i3 i5 (by rw [j5]; show num z4 ≠ 0; rw [HE.out.2]; exact HY0.out)).mono ?_
            rintro e y16 ⟨er, s', a', l', c', zs', b', m', d', ds', v', rfl, hr, HRA, hb⟩
            replace V1 := Va.after hb V1
            replace V2 := Va.after hb V2
            replace V3 := Va.after hb V3
            replace W1 := Va.after hb W1
            replace W2 := Va.after hb W2
            replace hx := Sl.after hb hx
            replace hy := Sl.after hb hy
            replace i3 := It.after hb i3
            replace VG := Va.after hb VG
            replace i5 := It.after hb i5
            replace B0 := step B0 hb
            replace hgB := Nat.lt_of_lt_of_le hgB hb.size
            clear hb
            obtain ⟨rfl, rfl⟩ : er = 0 ∧ v' = Rat.divInt (iv neg xs) (num ys) := ra_fit HRA.out (by rw [j3, iv_num HE.out.1]) (by rw [j5]; show num z4 = _; exact HE.out.2) HSH.out
            clear HRA i3 i5 j3 j5
            try go_wp2_with fail
            refine hK.out _ _ ⟨V1.d0, W1.cell, W2.cell⟩ (fun hHeld => ?_)
            clear hK K
            refine wpAnyH_take (i := 7) (v := ?_) rfl (by kernel_rfl) (by kernel_rfl) (by kernel_rfl) (fun _ _ _ h => h) (Or.inl ⟨by rfl, ?_⟩) hHeld ?_
            rotate_left
            · (intro W hSw; (try dsimp only at hSw); go_simp; all_goals (with_reducible rfl))
            simp only [List.getElem_toArray, List.getElem_cons_zero, List.getElem_cons_succ, Act.put, List.setIfInBounds_toArray, List.set_cons_zero, List.set_cons_succ]
            refine wpAnyH_take (i := 8) (v := ?_) rfl (by kernel_rfl) (by kernel_rfl) (by kernel_rfl) (fun _ _ _ h => h) (Or.inl ⟨by rfl, ?_⟩) hHeld ?_
            rotate_left
            · (intro W hSw; (try dsimp only at hSw); go_simp; all_goals (with_reducible rfl))
            simp only [List.getElem_toArray, List.getElem_cons_zero, List.getElem_cons_succ, Act.put, List.setIfInBounds_toArray, List.set_cons_zero, List.set_cons_succ]
            refine wpAnyH_take (i := 9) (v := ?_) rfl (by kernel_rfl) (by kernel_rfl) (by kernel_rfl) (fun _ _ _ h => h) (Or.inl ⟨by rfl, ?_⟩) hHeld ?_
            rotate_left
            · (intro W hSw; (try dsimp only at hSw); go_simp; all_goals (with_reducible rfl))
            simp only [List.getElem_toArray, List.getElem_cons_zero, List.getElem_cons_succ, Act.put, List.setIfInBounds_toArray, List.set_cons_zero, List.set_cons_succ]
            have c_VG := VG.d0
            have f0_VG := VG.frozen 0
            have d_VG := VG.d1
            have f1_VG := VG.frozen 1
            have e_VG := VG.d2
            have f2_VG := VG.frozen 2
            have l_VG := VG.lt
            have m_VG := Nat.le_of_lt l_VG
            refine wpAnyH_ready (rs := [11]) (by kernel_rfl) (by simp) ?_
            refine AllReadyH.cons rfl (fun K hK => ?_) AllReadyH.nil
            simp only [List.getElem_toArray, List.getElem_cons_zero, List.getElem_cons_succ]
            go_simp
            clear c_VG f0_VG d_VG f1_VG e_VG f2_VG l_VG m_VG
            refine sto3 VG (.bool s') (.slice a' l' c') (.slice b' m' d') (Q := fun W => K _ W) ?_
            intro yz V' oth far
            replace V1 := oth _ _ _ (by omega) V1
            replace V2 := oth _ _ _ (by omega) V2
            replace V3 := oth _ _ _ (by omega) V3
            have q1 := W1.lt
            replace hr := hr.far VG (noInt3 _ _ _ _ _ _ _) far.1
            replace hx := Sl.far hx VG (noInt3 _ _ _ _ _ _ _) far.1
            replace hy := Sl.far hy VG (noInt3 _ _ _ _ _ _ _) far.1
            replace W1 := oth _ _ _ (fun h => absurd W1 (va_other VG h (by decide))) W1
            replace W2 := oth _ _ _ (fun h => absurd W2 (va_other VG h (by decide))) W2
            replace B0 := far.2 _ _ (by omega) B0
            replace VG := V'
            clear oth far V' q1
            refine hK.out _ _ ⟨V1.d0, W1.cell, W2.cell⟩ (fun hHeld => ?_)
            clear hK K
            refine wpAnyH_take (i := 12) (v := ?_) rfl (by kernel_rfl) (by kernel_rfl) (by kernel_rfl) (fun _ _ _ h => h) (Or.inl ⟨by rfl, ?_⟩) hHeld ?_
            rotate_left
            · (intro W hSw; (try dsimp only at hSw); go_simp; all_goals (with_reducible rfl))
            simp only [List.getElem_toArray, List.getElem_cons_zero, List.getElem_cons_succ, Act.put, List.setIfInBounds_toArray, List.set_cons_zero, List.set_cons_succ]
            refine wpAnyH_done (by kernel_rfl) ?_ _
            refine NoPanic.normal ?_
            clear hHeld
            try go_wp2_with fail
            go_meet
            exact ⟨_, s', a', l', c', zs', b', m', d', ds', rfl, rfl, hgg, VG, hr, ⟨hx, hy⟩, V1, V2, V3, B0⟩
        ·
          simp only [List.getElem_toArray, List.getElem_cons_zero, List.getElem_cons_succ]
          go_simp
          refine ent1 y7 _ _ (Q := fun V => K _ V) ?_
          intro y17 hb hsz VG
          clear hsz
          have hgg : w.heap.size + 3 ≤ y7.heap.size := by omega
          replace V1 := Va.after hb V1
          replace V2 := Va.after hb V2
          replace V3 := Va.after hb V3
          replace W1 := Va.after hb W1
          replace W2 := Va.after hb W2
          replace n2 := Nt.after hb n2
          replace n4 := Nt.after hb n4
          replace hx := Sl.after hb hx
          replace hy := Sl.after hb hy
          replace B0 := step B0 hb
          replace hgB := Nat.lt_of_lt_of_le hgB hb.size
          clear hb
          refine hK.out _ _ ⟨V1.d0, W1.cell, W2.cell⟩ (fun hHeld => ?_)
          clear hK K
          refine wpAnyH_ready (rs := [3]) (by kernel_rfl) (by simp) ?_
          refine AllReadyH.cons rfl (fun K hK => ?_) AllReadyH.nil
          simp only [List.getElem_toArray, List.getElem_cons_zero, List.getElem_cons_succ]
          go_simp
          refine (wnew_any neg (some ⟨g2, 0, none⟩) l2 k2 z2 _ n2).mono ?_
          rintro e y18 ⟨s3, rfl, i3, j3, hb⟩
          replace V1 := Va.after hb V1
          replace V2 := Va.after hb V2
          replace V3 := Va.after hb V3
          replace W1 := Va.after hb W1
          replace W2 := Va.after hb W2
          replace n2 := Nt.after hb n2
          replace n4 := Nt.after hb n4
          replace hx := Sl.after hb hx
          replace hy := Sl.after hb hy
          replace VG := Va.after hb VG
          replace B0 := step B0 hb
          replace hgB := Nat.lt_of_lt_of_le hgB hb.size
          clear hb
          try go_wp2_with fail
          refine hK.out _ _ ⟨V1.d0, W1.cell, W2.cell⟩ (fun hHeld => ?_)
          clear hK K
          refine wpAnyH_ready (rs := [5]) (by kernel_rfl) (by simp) ?_
          refine AllReadyH.cons rfl (fun K hK => ?_) AllReadyH.nil
          simp only [List.getElem_toArray, List.getElem_cons_zero, List.getElem_cons_succ]
          go_simp
          refine (wnew_any false (some ⟨g4, 0, none⟩) l4 k4 z4 _ n4).mono ?_
          rintro e y19 ⟨s5, rfl, i5, j5, hb⟩
          replace V1 := Va.after hb V1
          replace V2 := Va.after hb V2
          replace V3 := Va.after hb V3
          replace W1 := Va.after hb W1
          replace W2 := Va.after hb W2
          replace n4 := Nt.after hb n4
          replace hx := Sl.after hb hx
          replace hy := Sl.after hb hy
          replace VG := Va.after hb VG
          replace i3 := It.after hb i3
          replace B0 := step B0 hb
          replace hgB := Nat.lt_of_lt_of_le hgB hb.size
          clear hb
          try go_wp2_with fail
          refine hK.out _ _ ⟨V1.d0, W1.cell, W2.cell⟩ (fun hHeld => ?_)
          clear hK K
          refine wpAnyH_ready (rs := [6]) (by kernel_rfl) (by simp) ?_
          refine AllReadyH.cons rfl (fun K hK => ?_) AllReadyH.nil
          simp only [List.getElem_toArray, List.getElem_cons_zero, List.getElem_cons_succ]
          go_simp
          refine (qnew_ok s3 s5 (some ⟨g2, 0, none⟩) (some ⟨g4, 0, none⟩) l2 k2 l4 k4 z2 z4 _ i3 i5 (by rw [j5]; show num z4 ≠ 0; rw [HE.out.2]; exact HY0.out)).mono ?_
          rintro e y20 ⟨er, s', a', l', c', zs', b', m', d', ds', v', rfl, hr, HRA, hb⟩
          replace V1 := Va.after hb V1
          replace V2 := Va.after hb V2
          replace V3 := Va.after hb V3
          replace W1 := Va.after hb W1
          replace W2 := Va.after hb W2
          replace hx := Sl.after hb hx
          replace hy := Sl.after hb hy
          replace VG := Va.after hb VG
          replace i3 := It.after hb i3
          replace i5 := It.after hb i5
          replace B0 := step B0 hb
          replace hgB := Nat.lt_of_lt_of_le hgB hb.size
          clear hb
          obtain ⟨rfl, rfl⟩ : er = 0 ∧ v' = Rat.divInt (iv neg xs) (num ys) := ra_fit HRA.out (by rw [j3, iv_num HE.out.1]) (by rw [j5]; show num z4 = _; exact HE.out.2) HSH.out
          clear HRA i3 i5 j3 j5
          try go_wp2_with fail
          refine hK.out _ _ ⟨V1.d0, W1.cell, W2.cell⟩ (fun hHeld => ?_)
          clear hK K
          refine wpAnyH_take (i := 7) (v := ?_) rfl (by kernel_rfl) (by kernel_rfl) (by kernel_rfl) (fun _ _ _ h => h) (Or.inl ⟨by rfl, ?_⟩) hHeld ?_
          rotate_left
          · (intro W hSw; (try dsimp only at hSw); go_simp; all_goals (with_reducible rfl))
          simp only [List.getElem_toArray, List.getElem_cons_zero, List.getElem_cons_succ, Act.put, List.setIfInBounds_toArray, List.set_cons_zero, List.set_cons_succ]
          refine wpAnyH_take (i := 8) (v := ?_) rfl (by kernel_rfl) (by kernel_rfl) (by kernel_rfl) (fun _ _ _ h => h) (Or.inl ⟨by rfl, ?_⟩) hHeld ?_
          rotate_left
          · (intro W hSw; (try dsimp only at hSw); go_simp; all_goals (with_reducible rfl))
          simp only [List.getElem_toArray, List.getElem_cons_zero, List.getElem_cons_succ, Act.put, List.setIfInBounds_toArray, List.set_cons_zero, List.set_cons_succ]
          refine wpAnyH_take (i := 9) (v := ?_) rfl (by kernel_rfl) (by kernel_rfl) (by kernel_rfl) (fun _ _ _ h => h) (Or.inl ⟨by rfl, ?_⟩) hHeld ?_
          rotate_left
          · (intro W hSw; (try dsimp only at hSw); go_simp; all_goals (with_reducible rfl))
          simp only [List.getElem_toArray, List.getElem_cons_zero, List.getElem_cons_succ, Act.put, List.setIfInBounds_toArray, List.set_cons_zero, List.set_cons_succ]
          have c_VG := VG.d0
          have f0_VG := VG.frozen 0
          have d_VG := VG.d1
          have f1_VG := VG.frozen 1
          have e_VG := VG.d2
          have f2_VG := VG.frozen 2
          have l_VG := VG.lt
          have m_VG := Nat.le_of_lt l_VG
          refine wpAnyH_ready (rs := [11]) (by kernel_rfl) (by simp) ?_
          refine AllReadyH.cons rfl (fun K hK => ?_) AllReadyH.nil
          simp only [List.getElem_toArray, List.getElem_cons_zero, List.getElem_cons_succ]
          go_simp
          clear c_VG f0_VG d_VG f1_VG e_VG f2_VG l_VG m_VG
          refine sto3 VG (.bool s') (.slice a' l' c') (.slice b' m' d') (Q := fun W => K _ W) ?_
          intro yz V' oth far
          replace V1 := oth _ _ _ (by omega) V1
          replace V2 := oth _ _ _ (by omega) V2
          replace V3 := oth _ _ _ (by omega) V3
          have q1 := W1.lt
          replace hr := hr.far VG (noInt3 _ _ _ _ _ _ _) far.1
          replace hx := Sl.far hx VG (noInt3 _ _ _ _ _ _ _) far.1
          replace hy := Sl.far hy VG (noInt3 _ _ _ _ _ _ _) far.1
          replace W1 := oth _ _ _ (fun h => absurd W1 (va_other VG h (by decide))) W1
          replace W2 := oth _ _ _ (fun h => absurd W2 (va_other VG h (by decide))) W2
          replace B0 := far.2 _ _ (by omega) B0
          replace VG := V'
          clear oth far V' q1
          refine hK.out _ _ ⟨V1.d0, W1.cell, W2.cell⟩ (fun hHeld => ?_)
          clear hK K
          refine wpAnyH_take (i := 12) (v := ?_) rfl (by kernel_rfl) (by kernel_rfl) (by kernel_rfl) (fun _ _ _ h => h) (Or.inl ⟨by rfl, ?_⟩) hHeld ?_
          rotate_left
          · (intro W hSw; (try dsimp only at hSw); go_simp; all_goals (with_reducible rfl))
          simp only [List.getElem_toArray, List.getElem_cons_zero, List.getElem_cons_succ, Act.put, List.setIfInBounds_toArray, List.set_cons_zero, List.set_cons_succ]
          refine wpAnyH_done (by kernel_rfl) ?_ _
          refine NoPanic.normal ?_
          clear hHeld
          try go_wp2_with fail
          go_meet
          exact ⟨_, s', a', l', c', zs', b', m', d', ds', rfl, rfl, hgg, VG, hr, ⟨hx, hy⟩, V1, V2, V3, B0⟩
      case rest =>
        clear V1 V2 V3 B0 hx hy n2 n4 W1 W2
        obtain ⟨g, s, a, l, c, zs, b, m, d, ds, rfl, rfl, hg3, HVG, HR, HS, HV1, HV2, HV3, HB⟩ := hcut
        have V1 := HV1.out
        have V2 := HV2.out
        have V3 := HV3.out
        have VG := HVG.out
        have hr := HR.out
        have B0 := HB.out
        obtain ⟨hx, hy⟩ := HS.out
        clear HV1 HV2 HV3 HB HS HVG HR
        go_wp2_with fail
        refine wp_region_noPanic ?_
        replace V1 : Va wc.drew _ _ _ := V1
        replace V2 : Va wc.drew _ _ _ := V2
        replace V3 : Va wc.drew _ _ _ := V3
        replace VG : Va wc.drew _ _ _ := VG
        replace B0 := Below.drew B0
        refine wp_region_held_drew (S := (fun W => W.cell? ⟨w.heap.size, 0, none⟩ = some (.bool neg) ∧ (W.cell? ⟨g, 0, none⟩ = some (.bool s) ∧ W.cell? ⟨g, 1, none⟩ = some (.slice a l c) ∧ W.cell? ⟨g, 2, none⟩ = some (.slice b m d)))) (by kernel_rfl) ⟨V1.d0, VG.d0, VG.d1, VG.d2⟩ (fun hHeld => ?_)
        obtain ⟨y7, hxd⟩ : ∃ xd, xd = wc.drew := ⟨_, rfl⟩
        rw [← hxd] at V1 V2 V3 VG B0 hHeld ⊢
        replace hx : Sl y7 an nl xs := by rw [hxd]; exact hx
        replace hy : Sl y7 ad dl ys := by rw [hxd]; exact hy
        replace hr : Rt y7 s a l c zs b m d ds (Rat.divInt (iv neg xs) (num ys)) := by rw [hxd]; exact hr
        clear hxd
        refine wpAnyH_take (i := 0) (v := ?_) rfl (by kernel_rfl) (by kernel_rfl) (by kernel_rfl) (fun _ _ _ h => h) (Or.inl ⟨by rfl, ?_⟩) hHeld ?_
        rotate_left
        · (intro W hSw; (try dsimp only at hSw); go_simp; all_goals (with_reducible rfl))
        simp only [List.getElem_toArray, List.getElem_cons_zero, Act.put, List.setIfInBounds_toArray, List.set_cons_zero, List.set_cons_succ]
        refine wpAnyH_take (i := 1) (v := ?_) rfl (by kernel_rfl) (by kernel_rfl) (by kernel_rfl) (fun _ _ _ h => h) (Or.inl ⟨by rfl, ?_⟩) hHeld ?_
        rotate_left
        · (intro W hSw; (try dsimp only at hSw); go_simp; all_goals (with_reducible rfl))
        simp only [List.getElem_toArray, List.getElem_cons_zero, List.getElem_cons_succ, Act.put, List.setIfInBounds_toArray, List.set_cons_zero, List.set_cons_succ]
        refine wpAnyH_take (i := 2) (v := ?_) rfl (by kernel_rfl) (by kernel_rfl) (by kernel_rfl) (fun _ _ _ h => h) (Or.inl ⟨by rfl, ?_⟩) hHeld ?_
        rotate_left
        · (intro W hSw; (try dsimp only at hSw); go_simp; all_goals (with_reducible rfl))
        simp only [List.getElem_toArray, List.getElem_cons_zero, List.getElem_cons_succ, Act.put, List.setIfInBounds_toArray, List.set_cons_zero, List.set_cons_succ]
        refine wpAnyH_take (i := 3) (v := ?_) rfl (by kernel_rfl) (by kernel_rfl) (by kernel_rfl) (fun _ _ _ h => h) (Or.inl ⟨by rfl, ?_⟩) hHeld ?_
        rotate_left
        · (intro W hSw; (try dsimp only at hSw); go_simp; all_goals (with_reducible rfl))
        simp only [List.getElem_toArray, List.getElem_cons_zero, List.getElem_cons_succ, Act.put, List.setIfInBounds_toArray, List.set_cons_zero, List.set_cons_succ]
        refine wpAnyH_take (i := 4) (v := ?_) rfl (by kernel_rfl) (by kernel_rfl) (by kernel_rfl) (fun _ _ _ h => h) (Or.inl ⟨by rfl, ?_⟩) hHeld ?_
        rotate_left
        · (intro W hSw; (try dsimp only at hSw); go_simp; all_goals (with_reducible rfl))
        simp only [List.getElem_toArray, List.getElem_cons_zero, List.getElem_cons_succ, Act.put, List.setIfInBounds_toArray, List.set_cons_zero, List.set_cons_succ]
        refine wpAnyH_take (i := 5) (v := ?_) rfl (by kernel_rfl) (by kernel_rfl) (by kernel_rfl) (fun _ _ _ h => h) (Or.inl ⟨by rfl, ?_⟩) hHeld ?_
        rotate_left
        · (intro W hSw; (try dsimp only at hSw); go_simp; all_goals (with_reducible rfl))
        simp only [List.getElem_toArray, List.getElem_cons_zero, List.getElem_cons_succ, Act.put, List.setIfInBounds_toArray, List.set_cons_zero, List.set_cons_succ]
        refine wpAnyH_take (i := 6) (v := ?_) rfl (by kernel_rfl) (by kernel_rfl) (by kernel_rfl) (fun _ _ _ h => h) (Or.inl ⟨by rfl, ?_⟩) hHeld ?_
        rotate_left
        · (intro W hSw; (try dsimp only at hSw); go_simp; all_goals (with_reducible rfl))
        simp only [List.getElem_toArray, List.getElem_cons_zero, List.getElem_cons_succ, Act.put, List.setIfInBounds_toArray, List.set_cons_zero, List.set_cons_succ]
        refine wpAnyH_take (i := 7) (v := ?_) rfl (by kernel_rfl) (by kernel_rfl) (by kernel_rfl) (fun _ _ _ h => h) (Or.inl ⟨by rfl, ?_⟩) hHeld ?_
        rotate_left
        · (intro W hSw; (try dsimp only at hSw); go_simp; all_goals (with_reducible rfl))
        simp only [List.getElem_toArray, List.getElem_cons_zero, List.getElem_cons_succ, Act.put, List.setIfInBounds_toArray, List.set_cons_zero, List.set_cons_succ]
        refine wpAnyH_take (i := 8) (v := ?_) rfl (by kernel_rfl) (by kernel_rfl) (by kernel_rfl) (fun _ _ _ h => h) (Or.inl ⟨by rfl, ?_⟩) hHeld ?_
        rotate_left
        · (intro W hSw; (try dsimp only at hSw); go_simp; all_goals (with_reducible rfl))
        simp only [List.getElem_toArray, List.getElem_cons_zero, List.getElem_cons_succ, Act.put, List.setIfInBounds_toArray, List.set_cons_zero, List.set_cons_succ]
        refine wpAnyH_take (i := 9) (v := ?_) rfl (by kernel_rfl) (by kernel_rfl) (by kernel_rfl) (fun _ _ _ h => h) (Or.inl ⟨by rfl, ?_⟩) hHeld ?_
        rotate_left
        · (intro W hSw; (try dsimp only at hSw); go_simp; all_goals (with_reducible rfl))
        simp only [List.getElem_toArray, List.getElem_cons_zero, List.getElem_cons_succ, Act.put, List.setIfInBounds_toArray, List.set_cons_zero, List.set_cons_succ]
        refine wpAnyH_take (i := 10) (v := ?_) rfl (by kernel_rfl) (by kernel_rfl) (by kernel_rfl) (fun _ _ _ h => h) (Or.inl ⟨by rfl, ?_⟩) hHeld ?_
        rotate_left
        · (intro W hSw; (try dsimp only at hSw); go_simp; all_goals (with_reducible rfl))
        simp only [List.getElem_toArray, List.getElem_cons_zero, List.getElem_cons_succ, Act.put, List.setIfInBounds_toArray, List.set_cons_zero, List.set_cons_succ]
        refine wpAnyH_take (i := 11) (v := ?_) rfl (by kernel_rfl) (by kernel_rfl) (by kernel_rfl) (fun _ _ _ h => h) (Or.inl ⟨by rfl, ?_⟩) hHeld ?_
        rotate_left
        · (intro W hSw; (try dsimp only at hSw); go_simp; all_goals (with_reducible rfl))
        simp only [List.getElem_toArray, List.getElem_cons_zero, List.getElem_cons_succ, Act.put, List.setIfInBounds_toArray, List.set_cons_zero, List.set_cons_succ]
        refine wpAnyH_take (i := 12) (v := ?_) rfl (by kernel_rfl) (by kernel_rfl) (by kernel_rfl) (fun _ _ _ h => h) (Or.inl ⟨by rfl, ?_⟩) hHeld ?_
        rotate_left
        · (intro W hSw; (try dsimp only at hSw); go_simp; all_goals (with_reducible rfl))
        simp only [List.getElem_toArray, List.getElem_cons_zero, List.getElem_cons_succ, Act.put, List.setIfInBounds_toArray, List.set_cons_zero, List.set_cons_succ]
        refine wpAnyH_take (i := 13) (v := ?_) rfl (by kernel_rfl) (by kernel_rfl) (by kernel_rfl) (fun _ _ _ h => h) (Or.inl ⟨by rfl, ?_⟩) hHeld ?_
        rotate_left
        · (intro W hSw; (try dsimp only at hSw); go_simp; all_goals (with_reducible rfl))
        simp only [List.getElem_toArray, List.getElem_cons_zero, List.getElem_cons_succ, Act.put, List.setIfInBounds_toArray, List.set_cons_zero, List.set_cons_succ]
        refine wpAnyH_take (i := 14) (v := ?_) rfl (by kernel_rfl) (by kernel_rfl) (by kernel_rfl) (fun _ _ _ h => h) (Or.inl ⟨by rfl, ?_⟩) hHeld ?_
        rotate_left
        · (intro W hSw; (try dsimp only at hSw); go_simp; all_goals (with_reducible rfl))
        simp only [List.getElem_toArray, List.getElem_cons_zero, List.getElem_cons_succ, Act.put, List.setIfInBounds_toArray, List.set_cons_zero, List.set_cons_succ]
        refine wpAnyH_take (i := 15) (v := ?_) rfl (by kernel_rfl) (by kernel_rfl) (by kernel_rfl) (fun _ _ _ h => h) (Or.inl ⟨by rfl, ?_⟩) hHeld ?_
        rotate_left
        · (intro W hSw; (try dsimp only at hSw); go_simp; all_goals (with_reducible rfl))
        simp only [List.getElem_toArray, List.getElem_cons_zero, List.getElem_cons_succ, Act.put, List.setIfInBounds_toArray, List.set_cons_zero, List.set_cons_succ]
        have c_V := V2.d0
        have f0_V := V2.frozen 0
        have d_V := V2.d1
        have f1_V := V2.frozen 1
        have e_V := V2.d2
        have f2_V := V2.frozen 2
        have l_V := V2.lt
        have m_V := Nat.le_of_lt l_V
        refine wpAnyH_ready (rs := [16]) (by kernel_rfl) (by simp) ?_
        refine AllReadyH.cons rfl (fun K hK => ?_) AllReadyH.nil
        simp only [List.getElem_toArray, List.getElem_cons_zero, List.getElem_cons_succ]
        go_simp
        clear c_V f0_V d_V f1_V e_V f2_V l_V m_V
        refine sto3 V2 (.bool s) (.slice a l c) (.slice b m d) (Q := fun W => K _ W) ?_
        intro yz16 V' oth far
        replace V1 := oth _ _ _ (by omega) V1
        replace V3 := oth _ _ _ (by omega) V3
        replace VG := oth _ _ _ (by omega) VG
        replace hr := hr.far V2 (noInt3 _ _ _ _ _ _ _) far.1
        replace hx := Sl.far hx V2 (noInt3 _ _ _ _ _ _ _) far.1
        replace hy := Sl.far hy V2 (noInt3 _ _ _ _ _ _ _) far.1
        replace B0 := far.2 _ _ (by omega) B0
        replace V2 := V'
        clear oth far V'
        refine hK.out _ _ ⟨V1.d0, VG.d0, VG.d1, VG.d2⟩ (fun hHeld => ?_)
        clear hK K
        have c_V := V3.d0
        have f0_V := V3.frozen 0
        have d_V := V3.d1
        have f1_V := V3.frozen 1
        have e_V := V3.d2
        have f2_V := V3.frozen 2
        have l_V := V3.lt
        have m_V := Nat.le_of_lt l_V
        refine wpAnyH_ready (rs := [17]) (by kernel_rfl) (by simp) ?_
        refine AllReadyH.cons rfl (fun K hK => ?_) AllReadyH.nil
        simp only [List.getElem_toArray, List.getElem_cons_zero, List.getElem_cons_succ]
        go_simp
        clear c_V f0_V d_V f1_V e_V f2_V l_V m_V
        refine sto3 V3 (.bool neg) (.slice an nl nc) (.slice ad dl dc) (Q := fun W => K _ W) ?_
        intro yz17 V' oth far
        replace V1 := oth _ _ _ (by omega) V1
        replace V2 := oth _ _ _ (by omega) V2
        replace VG := oth _ _ _ (by omega) VG
        replace hr := hr.far V3 (noInt3 _ _ _ _ _ _ _) far.1
        replace hx := Sl.far hx V3 (noInt3 _ _ _ _ _ _ _) far.1
        replace hy := Sl.far hy V3 (noInt3 _ _ _ _ _ _ _) far.1
        replace B0 := far.2 _ _ (by omega) B0
        replace V3 := V'
        clear oth far V'
        refine hK.out _ _ ⟨V1.d0, VG.d0, VG.d1, VG.d2⟩ (fun hHeld => ?_)
        clear hK K
        refine wpAnyH_take (i := 18) (v := ?_) rfl (by kernel_rfl) (by kernel_rfl) (by kernel_rfl) (fun _ _ _ h => h) (Or.inl ⟨by rfl, ?_⟩) hHeld ?_
        rotate_left
        · (intro W hSw; (try dsimp only at hSw); go_simp; all_goals (with_reducible rfl))
        simp only [List.getElem_toArray, List.getElem_cons_zero, List.getElem_cons_succ, Act.put, List.setIfInBounds_toArray, List.set_cons_zero, List.set_cons_succ]
        refine wpAnyH_done (by kernel_rfl) ?_ _
        refine NoPanic.normal ?_
        clear hHeld
        try go_wp2_with fail
        refine bodyPost_ret (results_rrt rfl rfl rfl V2 V3) rfl ?_
        exact ⟨.inr ⟨⟨ok1, ok2, ok3⟩, s, a, l, c, zs, b, m, d, ds, _, an, nl, nc, xs, ad, dl, dc, ys, rfl, hr, hx, hy, hxc, hyc, hx1, hy1, HY0.out, rfl⟩, B0⟩
end Go.Proofs.YtebbblhafjaaiaaGreatDoor
namespace Go.Proofs.YtebbblhafjaaiaaGreatDoor
set_option linter.unusedVariables false
theorem ratio_cross {z D : Int} (hD : 0 < D) : z * ((Rat.divInt z D).den : Int) = (Rat.divInt z D).num * D := by
  have h1 : Rat.divInt (Rat.divInt z D).num ((Rat.divInt z D).den : Int) = Rat.divInt z D := Rat.num_divInt_den _
  have h2 := (Rat.divInt_eq_divInt_iff (n₁ := (Rat.divInt z D).num) (d₁ := ((Rat.divInt z D).den : Int)) (n₂ := z) (d₂ := D) (by have := (Rat.divInt z D).den_nz; omega) (by omega)).1 h1
  exact h2.symm
theorem ratio_nat {N : Nat} {D : Nat} {v : Rat} {z : Int} (hD : 0 < D) (hz : z.natAbs = N) (hv : v = Rat.divInt z (D : Int)) : N * v.den = v.num.natAbs * D := by
  have h := ratio_cross (z := z) (D := (D : Int)) (by omega)
  rw [← hv] at h
  have h2 := congrArg Int.natAbs h
  rw [Int.natAbs_mul, Int.natAbs_mul, hz] at h2
  simpa using h2
theorem of_iff {N D p : Nat} {v : Rat} {z : Int} (hD : 0 < D) (hz : z.natAbs = N) (hv : v = Rat.divInt z (D : Int)) : (N * 10 ^ p) % D = 0 ↔ 10 ^ p % v.den = 0 := by
  have hx := ratio_nat hD hz hv
  have hd : 0 < v.den := Nat.pos_of_ne_zero v.den_nz
  constructor
  · intro h
    obtain ⟨k, hk⟩ := Nat.dvd_of_mod_eq_zero h
    have h1 : D * (v.num.natAbs * 10 ^ p) = D * (k * v.den) := by
      calc D * (v.num.natAbs * 10 ^ p) = (v.num.natAbs * D) * 10 ^ p := by rw [← Nat.mul_assoc, Nat.mul_comm D]
        _ = (N * v.den) * 10 ^ p := by rw [hx]
        _ = (N * 10 ^ p) * v.den := by rw [Nat.mul_assoc, Nat.mul_comm v.den, Nat.mul_assoc]
        _ = (D * k) * v.den := by rw [hk]
        _ = D * (k * v.den) := by rw [Nat.mul_assoc]
    have h2 := Nat.eq_of_mul_eq_mul_left hD h1
    have h3 : v.den ∣ v.num.natAbs * 10 ^ p := ⟨k, by rw [h2, Nat.mul_comm]⟩
    exact Nat.mod_eq_zero_of_dvd ((Nat.Coprime.dvd_of_dvd_mul_left v.reduced.symm h3))
  · intro h
    obtain ⟨j, hj⟩ := Nat.dvd_of_mod_eq_zero h
    refine Nat.mod_eq_zero_of_dvd ⟨v.num.natAbs * j, ?_⟩
    rw [hj, ← Nat.mul_assoc, hx, Nat.mul_comm v.num.natAbs D, Nat.mul_assoc]
theorem of_quot {N D p : Nat} {v : Rat} {z : Int} (hD : 0 < D) (hz : z.natAbs = N) (hv : v = Rat.divInt z (D : Int)) (h : 10 ^ p % v.den = 0) : (N * 10 ^ p) / D = v.num.natAbs * (10 ^ p / v.den) := by
  have hx := ratio_nat hD hz hv
  obtain ⟨j, hj⟩ := Nat.dvd_of_mod_eq_zero h
  have hd : 0 < v.den := Nat.pos_of_ne_zero v.den_nz
  have e1 : N * 10 ^ p = D * (v.num.natAbs * j) := by rw [hj, ← Nat.mul_assoc, hx, Nat.mul_comm v.num.natAbs D, Nat.mul_assoc]
  rw [e1, Nat.mul_div_cancel_left _ hD, hj, Nat.mul_div_cancel_left _ hd]
theorem of_sign {D : Nat} {v : Rat} {z : Int} {neg : Bool} {N : Nat} (hD : 0 < D) (hz : z = sgn neg N) (hv : v = Rat.divInt z (D : Int)) : v.num = sgn neg v.num.natAbs := by
  have h := ratio_cross (z := z) (D := (D : Int)) (by omega)
  rw [← hv] at h
  have hd : 0 < v.den := Nat.pos_of_ne_zero v.den_nz
  unfold sgn at hz ⊢
  cases neg
  · simp only [Bool.false_eq_true, if_false] at hz ⊢
    have h1 : 0 ≤ v.num * (D : Int) := by rw [← h, hz]; exact Int.mul_nonneg (by omega) (by omega)
    have h2 : 0 ≤ v.num := by
      rcases Int.lt_or_le v.num 0 with h' | h'
      · exfalso; have := Int.mul_neg_of_neg_of_pos h' (show (0 : Int) < D by omega); omega
      · exact h'
    omega
  · simp only [if_true] at hz ⊢
    have h1 : v.num * (D : Int) ≤ 0 := by
      rw [← h, hz, Int.neg_mul]
      have := Int.mul_nonneg (show (0 : Int) ≤ N by omega) (show (0 : Int) ≤ v.den by omega)
      omega
    have h2 : v.num ≤ 0 := by
      rcases Int.lt_or_le 0 v.num with h' | h'
      · exfalso; have := Int.mul_pos h' (show (0 : Int) < D by omega); omega
      · exact h'
    omega
end Go.Proofs.YtebbblhafjaaiaaGreatDoor
namespace Go.Proofs.YtebbblhafjaaiaaGreatDoor
open Go.RowKit Go.Shelf
set_option linter.unusedVariables false
theorem runits6_any (a : Option Addr) (m c : Nat) (zs : List Int) (n : Nat) (neg : Bool) (w : World) (hs : Sl w a m zs) (hc : m ≤ c) (hu : usedN zs = m) (hn : num zs = (n : Int)) :
    Calls Tryz.prog 60 #[.slice a m c, .bool neg] w fun e w' => e = .returned (.tuple #[.int .i64 (if fits (sgn neg n) then sgn neg n else 0), .bool (fits (sgn neg n))]) ∧ w' = w := by
  rcases Nat.lt_or_ge 1 m with h | h
  · have h1 := num_ge_used hs.2.1 (show 0 < usedN zs by omega)
    have h2 : pw 1 ≤ pw (usedN zs - 1) := pw_mono (by omega)
    have h3 : pw 1 = 18446744073709551616 := by decide
    have hf : fits (sgn neg n) = false := by unfold fits sgn; cases neg <;> simp <;> omega
    rw [hf]
    exact runits6_two a m c h neg w
  · exact runits6 a m c zs n neg w hs hc h hn
theorem frp_fits6 (x : Int) (k : Nat) : frp x k = if fits x then (x, k, 0) else (0, 0, 5) := by
  unfold frp fits
  by_cases h : -9223372036854775808 ≤ x ∧ x ≤ 9223372036854775807 <;> simp [h]
set_option maxHeartbeats 4000000 in
set_option maxRecDepth 8000 in
theorem rof6 (neg : Bool) (a b : Option Addr) (l c m d : Nat) (xs ys : List Int) (v : Rat) (w : World) (ha : Sl w a l xs) (hb : Sl w b m ys) (hc : l ≤ c) (hd : m ≤ d) (hl : l ≤ 1000000) (hm : m ≤ 1000000) (h0 : num ys ≠ 0) (hv : v = Rat.divInt (iv neg xs) (num ys)) :
    Calls Tryz.prog 25 #[.agg #[.bool neg, .slice a l c, .slice b m d]] w fun e W' => e = .returned (.tuple #[.agg #[.int .i64 (ofR v).1, .int .i64 (ofR v).2.1], .int .i64 (ofR v).2.2]) ∧ Below w.heap.size w W' := by
  have p0 := num_nonneg ha.2.1
  have p1 := num_nonneg hb.2.1
  obtain ⟨N, hN⟩ := Int.eq_ofNat_of_zero_le p0
  obtain ⟨D, hD⟩ := Int.eq_ofNat_of_zero_le p1
  have hz : iv neg xs = sgn neg N := by unfold iv sgn; rw [hN]
  have hzn : (iv neg xs).natAbs = N := by rw [hz]; unfold sgn; cases neg <;> simp
  have hDp : 0 < D := by omega
  rw [hD] at hv
  have HI : Hid (∀ p, (N * 10 ^ p) % D = 0 ↔ 10 ^ p % v.den = 0) := fun p => of_iff hDp hzn hv
  have HQ : Hid (∀ p, 10 ^ p % v.den = 0 → sgn neg ((N * 10 ^ p) / D) = v.num * ((10 ^ p / v.den : Nat) : Int)) := fun p hp => by
    rw [of_quot hDp hzn hv hp]
    have := of_sign hDp hz hv
    generalize 10 ^ p / v.den = j at *
    generalize v.num.natAbs = k at *
    rw [this]
    unfold sgn
    cases neg <;> simp [Int.neg_mul]
  obtain ⟨R, hR⟩ : ∃ R, ofR v = R := ⟨_, rfl⟩
  have HS : Hid (∀ k, k < 10 → 10 ^ k % v.den = 0 → (∀ p, p < k → 10 ^ p % v.den ≠ 0) → R = frp (v.num * ((10 ^ k / v.den : Nat) : Int)) k) := fun k h1 h2 h3 => by rw [← hR]; exact ofR_some h1 h2 h3
  have HZ : Hid ((∀ p, p < 10 → 10 ^ p % v.den ≠ 0) → R = (0, 0, 61)) := fun h => by rw [← hR]; exact ofR_none h
  have HNN : Hid (num xs = (N : Int) ∧ num ys = (D : Int) ∧ 0 < D) := ⟨hN, hD, hDp⟩
  have HA : Hid (Sl w a l xs ∧ Sl w b m ys) := ⟨ha, hb⟩
  rw [hR]
  clear ha hb p0 p1 hN hD hz hzn hDp hR h0 hv
  have B0 : Below w.heap.size w w := Below.refl _ _
  have Z0 : Hid (∀ p, p < 0 → 10 ^ p % v.den ≠ 0) := fun p h => absurd h (by omega)
  go_enter Tryz.func25, Tryz.ntmps25
  go_wp2_with fail
  refine ent2 w _ _ _ _ (Q := fun W => Code.wp Tryz.prog _ _ _ W) ?_
  intro x1 hb hs_x1 V1 V0
  replace B0 := step B0 hb
  clear hb hs_x1
  have HV1 : Hid (Va x1 w.heap.size 37 #[.bool neg, .slice a l c, .slice b m d]) := V1
  have HV0 : Hid (Va x1 (w.heap.size + 1) 23 #[.int .i64 0, .int .i64 0]) := V0
  have HB0 : Hid (Below w.heap.size w x1) := B0
  clear V1 V0 B0
  go_loopw [4] (fun pv W => ∃ p : Nat, pv = .int .i64 p ∧ p ≤ 10 ∧ Hid (∀ q, q < p → 10 ^ q % v.den ≠ 0) ∧ Hid (Va W w.heap.size 37 #[.bool neg, .slice a l c, .slice b m d]) ∧ Hid (Va W (w.heap.size + 1) 23 #[.int .i64 0, .int .i64 0]) ∧ Hid (Below w.heap.size w W)) (fun pv _ => (10 - intOf pv).toNat)
  case atStart => exact ⟨0, rfl, by omega, Z0, HV1, HV0, HB0⟩
  case round =>
    obtain ⟨p, rfl, hp, HP, HW1, HW0, HB⟩ := hrel
    clear HV1 HV0 HB0 Z0
    by_cases hlt : p < 10
    · have hpi : (p : Int) ≤ 9 := by omega
      have hpn : decide (p ≤ 9) = true := by simp; omega
      have V1 := HW1.out
      have V0 := HW0.out
      have B0 := HB.out
      have ha := HA.out.1.below B0 (Nat.le_refl _)
      have hb := HA.out.2.below B0 (Nat.le_refl _)
      clear HW1 HW0 HB
      have c_V1 := V1.d0
      have f0_V1 := V1.frozen 0
      have d_V1 := V1.d1
      have f1_V1 := V1.frozen 1
      have e_V1 := V1.d2
      have f2_V1 := V1.frozen 2
      have l_V1 := V1.lt
      have m_V1 := Nat.le_of_lt l_V1
      go_wp2_with fail
      clear c_V1 f0_V1 d_V1 f1_V1 e_V1 f2_V1 l_V1 m_V1
      refine wp_region_noPanic ?_
      replace V0 : Va wr.drew _ _ _ := V0
      replace V1 : Va wr.drew _ _ _ := V1
      replace B0 := Below.drew B0
      refine wp_region_held_drew (S := (fun W => W.cell? ⟨w.heap.size, 0, none⟩ = some (.bool neg) ∧ W.cell? ⟨w.heap.size, 1, none⟩ = some (.slice a l c) ∧ W.cell? ⟨w.heap.size, 2, none⟩ = some (.slice b m d))) (by kernel_rfl) ⟨V1.d0, V1.d1, V1.d2⟩ (fun hHeld => ?_)
      obtain ⟨x2, hxd⟩ : ∃ xd, xd = wr.drew := ⟨_, rfl⟩
      rw [← hxd] at V0 V1 B0 hHeld ⊢
      replace ha : Sl x2 a l xs := by rw [hxd]; exact ha
      replace hb : Sl x2 b m ys := by rw [hxd]; exact hb
      clear hxd
      refine wpAnyH_take (i := 0) (v := ?_) rfl (by kernel_rfl) (by kernel_rfl) (by kernel_rfl) (fun _ _ _ h => h) (Or.inl ⟨by rfl, ?_⟩) hHeld ?_
      rotate_left
      · (intro W hSw; (try dsimp only at hSw); go_simp; all_goals (with_reducible rfl))
      simp only [List.getElem_toArray, List.getElem_cons_zero, Act.put, List.setIfInBounds_toArray, List.set_cons_zero, List.set_cons_succ]
      refine wpAnyH_take (i := 1) (v := ?_) rfl (by kernel_rfl) (by kernel_rfl) (by kernel_rfl) (fun _ _ _ h => h) (Or.inl ⟨by rfl, ?_⟩) hHeld ?_
      rotate_left
      · (intro W hSw; (try dsimp only at hSw); go_simp; all_goals (with_reducible rfl))
      simp only [List.getElem_toArray, List.getElem_cons_zero, List.getElem_cons_succ, Act.put, List.setIfInBounds_toArray, List.set_cons_zero, List.set_cons_succ]
      refine wpAnyH_take (i := 2) (v := ?_) rfl (by kernel_rfl) (by kernel_rfl) (by kernel_rfl) (fun _ _ _ h => h) (Or.inl ⟨by rfl, ?_⟩) hHeld ?_
      rotate_left
      · (intro W hSw; (try dsimp only at hSw); go_simp; all_goals (with_reducible rfl))
      simp only [List.getElem_toArray, List.getElem_cons_zero, List.getElem_cons_succ, Act.put, List.setIfInBounds_toArray, List.set_cons_zero, List.set_cons_succ]
      refine wpAnyH_take (i := 5) (v := ?_) rfl (by kernel_rfl) (by kernel_rfl) (by kernel_rfl) (fun _ _ _ h => h) (Or.inl ⟨by rfl, ?_⟩) hHeld ?_
      rotate_left
      · (intro W hSw; (try dsimp only at hSw); go_simp; all_goals (with_reducible rfl))
      simp only [List.getElem_toArray, List.getElem_cons_zero, List.getElem_cons_succ, Act.put, List.setIfInBounds_toArray, List.set_cons_zero, List.set_cons_succ]
      refine wpAnyH_take (i := 6) (v := ?_) rfl (by kernel_rfl) (by kernel_rfl) (by kernel_rfl) (fun _ _ _ h => h) (Or.inl ⟨by rfl, ?_⟩) hHeld ?_
      rotate_left
      · (intro W hSw; (try dsimp only at hSw); go_simp; all_goals (with_reducible rfl))
      simp only [List.getElem_toArray, List.getElem_cons_zero, List.getElem_cons_succ, Act.put, List.setIfInBounds_toArray, List.set_cons_zero, List.set_cons_succ]
      refine wpAnyH_ready (rs := [3]) (by kernel_rfl) (by simp) ?_
      refine AllReadyH.cons rfl (fun K hK => ?_) AllReadyH.nil
      simp only [List.getElem_toArray, List.getElem_cons_zero, List.getElem_cons_succ]
      go_simp
      refine (rten6 p (by omega) _).mono ?_
      rintro e x3 ⟨a2, m2, c2, z2, rfl, hc2, hm2, h2, hu2, hn2, hB⟩
      replace V0 := Va.after hB V0
      replace V1 := Va.after hB V1
      replace B0 := step B0 hB
      replace ha := Sl.after hB ha
      replace hb := Sl.after hB hb
      clear hB
      try go_wp2_with fail
      refine hK.out _ _ ⟨V1.d0, V1.d1, V1.d2⟩ (fun hHeld => ?_)
      clear hK K
      refine wpAnyH_ready (rs := [4]) (by kernel_rfl) (by simp) ?_
      refine AllReadyH.cons rfl (fun K hK => ?_) AllReadyH.nil
      simp only [List.getElem_toArray, List.getElem_cons_zero, List.getElem_cons_succ]
      go_simp
      refine (rmul_any a a2 l c m2 c2 xs z2 _ ha h2 (by omega) (by omega)).mono ?_
      rintro e x4 ⟨a3, m3, c3, z3, rfl, hc3, hm3, h3, hu3, hn3, hB⟩
      replace V0 := Va.after hB V0
      replace V1 := Va.after hB V1
      replace B0 := step B0 hB
      replace ha := Sl.after hB ha
      replace hb := Sl.after hB hb
      clear hB
      rw [HNN.out.1, hn2] at hn3
      clear h2 hn2 hu2
      try go_wp2_with fail
      refine hK.out _ _ ⟨V1.d0, V1.d1, V1.d2⟩ (fun hHeld => ?_)
      clear hK K
      refine wpAnyH_ready (rs := [7]) (by kernel_rfl) (by simp) ?_
      refine AllReadyH.cons rfl (fun K hK => ?_) AllReadyH.nil
      simp only [List.getElem_toArray, List.getElem_cons_zero, List.getElem_cons_succ]
      go_simp
      refine (rdivmod_n a3 b m3 c3 m d z3 ys _ h3 hb hc3 (by omega) (by omega) (by rw [HNN.out.2.1]; have := HNN.out.2.2; omega)).mono ?_
      rintro e x5 ⟨aq, mq, cq, qs, ar, mr, cr, rs, rfl, hq, uq, hcq, hr, ur, hcr, e1, r0, r1, lq, lr, hB⟩
      replace V0 := Va.after hB V0
      replace V1 := Va.after hB V1
      replace B0 := step B0 hB
      replace ha := Sl.after hB ha
      replace hb := Sl.after hB hb
      clear hB h3
      rw [hn3, HNN.out.2.1] at e1
      rw [HNN.out.2.1] at r1
      clear hn3 hu3
      try go_wp2_with fail
      refine hK.out _ _ ⟨V1.d0, V1.d1, V1.d2⟩ (fun hHeld => ?_)
      clear hK K
      refine wpAnyH_take (i := 8) (v := ?_) rfl (by kernel_rfl) (by kernel_rfl) (by kernel_rfl) (fun _ _ _ h => h) (Or.inl ⟨by rfl, ?_⟩) hHeld ?_
      rotate_left
      · (intro W hSw; (try dsimp only at hSw); go_simp; all_goals (with_reducible rfl))
      simp only [List.getElem_toArray, List.getElem_cons_zero, List.getElem_cons_succ, Act.put, List.setIfInBounds_toArray, List.set_cons_zero, List.set_cons_succ]
      refine wpAnyH_take (i := 9) (v := ?_) rfl (by kernel_rfl) (by kernel_rfl) (by kernel_rfl) (fun _ _ _ h => h) (Or.inl ⟨by rfl, ?_⟩) hHeld ?_
      rotate_left
      · (intro W hSw; (try dsimp only at hSw); go_simp; all_goals (with_reducible rfl))
      simp only [List.getElem_toArray, List.getElem_cons_zero, List.getElem_cons_succ, Act.put, List.setIfInBounds_toArray, List.set_cons_zero, List.set_cons_succ]
      refine wpAnyH_take (i := 11) (v := ?_) rfl (by kernel_rfl) (by kernel_rfl) (by kernel_rfl) (fun _ _ _ h => h) (Or.inl ⟨by rfl, ?_⟩) hHeld ?_
      rotate_left
      · (intro W hSw; (try dsimp only at hSw); go_simp; all_goals (with_reducible rfl))
      simp only [List.getElem_toArray, List.getElem_cons_zero, List.getElem_cons_succ, Act.put, List.setIfInBounds_toArray, List.set_cons_zero, List.set_cons_succ]
      refine wpAnyH_take (i := 10) (v := ?_) rfl (by kernel_rfl) (by kernel_rfl) (by kernel_rfl) (fun _ _ _ h => h) (Or.inl ⟨by rfl, ?_⟩) hHeld ?_
      rotate_left
      · (intro W hSw; (try dsimp only at hSw); go_simp; all_goals (with_reducible rfl))
      simp only [List.getElem_toArray, List.getElem_cons_zero, List.getElem_cons_succ, Act.put, List.setIfInBounds_toArray, List.set_cons_zero, List.set_cons_succ]
      refine wpAnyH_take (i := 12) (v := ?_) rfl (by kernel_rfl) (by kernel_rfl) (by kernel_rfl) (fun _ _ _ h => h) (Or.inl ⟨by rfl, ?_⟩) hHeld ?_
      rotate_left
      · (intro W hSw; (try dsimp only at hSw); go_simp; all_goals (with_reducible rfl))
      simp only [List.getElem_toArray, List.getElem_cons_zero, List.getElem_cons_succ, Act.put, List.setIfInBounds_toArray, List.set_cons_zero, List.set_cons_succ]
      refine wpAnyH_done (by kernel_rfl) ?_ _
      refine NoPanic.normal ?_
      clear hHeld
      have hqz := num_nonneg hq.2.1
      obtain ⟨n, hn⟩ := Int.eq_ofNat_of_zero_le hqz
      obtain ⟨t, ht⟩ := Int.eq_ofNat_of_zero_le r0
      rw [hn, ht] at e1
      rw [ht] at r1
      have e2 : N * 10 ^ p = n * D + t := by exact_mod_cast e1
      have r2 : t < D := by omega
      have hmod : (N * 10 ^ p) % D = t := by rw [e2, Nat.add_comm, Nat.add_mul_mod_self_right, Nat.mod_eq_of_lt r2]
      have hdiv : (N * 10 ^ p) / D = n := by rw [e2, Nat.add_comm, Nat.add_mul_div_right _ _ (by omega), Nat.div_eq_of_lt r2]; omega
      have hrz : num rs = 0 ↔ mr = 0 := by rw [num_eq_zero hr.2.1, ur]
      have hun := runits6_any aq mq cq qs n neg x5 hq hcq uq hn
      have HI2 := HI.out p
      rw [hmod] at HI2
      have HQ2 := HQ.out p
      rw [hdiv] at HQ2
      clear e1 e2 r0 r1 r2 hmod hdiv hqz hn hq hr ur uq ha hb
      by_cases hmr : mr = 0
      · subst hmr
        have ht0 : t = 0 := by have := hrz.2 rfl; omega
        have hp0 := HI2.1 ht0
        have HRR : Hid (R = if fits (sgn neg n) then (sgn neg n, p, 0) else (0, 0, 5)) := by show R = _; rw [HS.out p hlt hp0 HP.out, ← HQ2 hp0, frp_fits6]
        obtain ⟨F, hF⟩ : ∃ F, fits (sgn neg n) = F := ⟨_, rfl⟩
        rw [hF] at hun HRR
        clear hF hrz ht ht0 hp0 HI2 HQ2 HP
        have c_V1 := V1.d0
        have f0_V1 := V1.frozen 0
        have d_V1 := V1.d1
        have f1_V1 := V1.frozen 1
        have e_V1 := V1.d2
        have f2_V1 := V1.frozen 2
        have l_V1 := V1.lt
        have m_V1 := Nat.le_of_lt l_V1
        go_wp2_with fail
        refine hun.mono ?_
        rintro e2 w3 ⟨rfl, hw3⟩
        rw [hw3]
        clear hw3 hun
        clear c_V1 f0_V1 d_V1 f1_V1 e_V1 f2_V1 l_V1 m_V1
        have c_V0 := V0.c0
        have f0_V0 := V0.frozen 0
        have d_V0 := V0.c1
        have f1_V0 := V0.frozen 1
        have l_V0 := V0.lt
        have m_V0 := Nat.le_of_lt l_V0
        cases F
        · have hR5 : R = (0, 0, 5) := by rw [HRR.out]; rfl
          subst hR5
          clear HRR HS HZ
          go_wp2_with fail
          refine bodyPost_ret (results_dt rfl rfl (V0.set2 _ _)) rfl ?_
          exact ⟨rfl, below_2 B0 (Nat.le_succ _) _ _⟩
        · have hR5 : R = (sgn neg n, p, 0) := by rw [HRR.out]; rfl
          subst hR5
          clear HRR HS HZ
          go_wp2_with fail
          refine bodyPost_ret (results_dt rfl rfl (V0.set2 _ _)) rfl ?_
          exact ⟨rfl, below_2 B0 (Nat.le_succ _) _ _⟩
      · have hm0 : 0 < mr := Nat.pos_of_ne_zero hmr
        have hm0i : (0 : Int) < mr := by omega
        have hne : 10 ^ p % v.den ≠ 0 := fun h => hmr (hrz.1 (by rw [ht]; have := HI2.2 h; omega))
        have HP2 : Hid (∀ q, q < p + 1 → 10 ^ q % v.den ≠ 0) := fun q hq2 => by
          rcases Nat.lt_or_ge q p with h | h
          · exact HP.out q h
          · obtain rfl : q = p := by omega
            exact hne
        have HV1 : Hid (Va x5 w.heap.size 37 #[.bool neg, .slice a l c, .slice b m d]) := V1
        have HV0 : Hid (Va x5 (w.heap.size + 1) 23 #[.int .i64 0, .int .i64 0]) := V0
        have HB5 : Hid (Below w.heap.size w x5) := B0
        clear hun HI2 HQ2 hrz ht hne HP V1 V0 B0
        go_wp2_with fail
        go_roundw
        case rel => exact ⟨p + 1, by go_num, by omega, HP2, HV1, HV0, HB5⟩
        case measure => simp [intOf]; omega
    · have hpi : ¬ (p : Int) ≤ 9 := by omega
      have hpn : decide (p ≤ 9) = false := by simp; omega
      obtain rfl : p = 10 := by omega
      have hR5 := HZ.out HP.out
      subst hR5
      have V0 := HW0.out
      have B0 := HB.out
      clear HW1 HW0 HB HS HZ HP
      have c_V0 := V0.c0
      have f0_V0 := V0.frozen 0
      have d_V0 := V0.c1
      have f1_V0 := V0.frozen 1
      have l_V0 := V0.lt
      have m_V0 := Nat.le_of_lt l_V0
      go_wp2_with fail
      refine bodyPost_ret (results_dt rfl rfl (V0.set2 _ _)) rfl ?_
      exact ⟨rfl, below_2 B0 (Nat.le_succ _) _ _⟩
end Go.Proofs.YtebbblhafjaaiaaGreatDoor
namespace Go.Proofs.YtebbblhafjaaiaaGreatDoor
open Go.RowKit Go.Shelf Go.Sort
set_option linter.unusedVariables false

theorem wv_ten {d : Nat} (h : d < 10) : wv (UInt8.ofNat (48 + d)) = d := by
  have e : (UInt8.ofNat (48 + d)).toNat = 48 + d := by simp; omega
  unfold wv
  rw [e, if_pos (by omega)]
  omega
theorem dec_tx (u : Nat) : Tx 10 (Go.Lib.decDigits u) u := by
  induction u using Nat.strongRecOn with
  | ind u ih =>
    rw [Go.Lib.decDigits]
    by_cases h : u < 10
    · rw [dif_pos h]
      refine ⟨by simp, fun c hc => ?_, by rw [tv_cons, wv_ten h]; simp [tv], fun _ => rfl⟩
      obtain rfl : c = UInt8.ofNat (48 + u) := by simpa using hc
      rw [wv_ten h]; exact h
    · rw [dif_neg h]
      have h1 := ih (u / 10) (by omega)
      have hd : u % 10 < 10 := Nat.mod_lt _ (by omega)
      have h2 := h1.more (m := [UInt8.ofNat (48 + u % 10)]) (by omega) (fun c hc => by
        obtain rfl : c = UInt8.ofNat (48 + u % 10) := by simpa using hc
        rw [wv_ten hd]; exact hd)
      have e : u / 10 * 10 ^ [UInt8.ofNat (48 + u % 10)].length + tv 10 [UInt8.ofNat (48 + u % 10)] = u := by
        rw [tv_cons, wv_ten hd]
        simp [tv]
        omega
      rw [e] at h2
      exact h2

/-- The table of the powers of ten of strconv. -/
def Pt (w : World) : Prop := Go.Lib.TabIs Tryz.prog w "internal/strconv.uint64pow10" .u64 Go.Lib.pow10Tab
theorem Pt.to {w w' : World} (h : Pt w) (hb : Below w.heap.size w w') : Pt w' := Go.Lib.tabBelow_of_tabIs h w' hb

set_option maxHeartbeats 4000000 in
set_option maxRecDepth 100000 in
theorem ifmt10 (u : Nat) (hu64 : u < 18446744073709551616) (w : World) (hT : Pt w) :
    Calls Tryz.prog 193 #[.int .u64 u, .int .i64 10] w fun e w' => e = .returned (.string ⟨(Go.Lib.decDigits u).toArray⟩) ∧ Below w.heap.size w w' := by
  by_cases hs : u < 100
  · go_enter Tryz.func193, Tryz.ntmps193
    go_wp2_with (go_at_call 218; refine (Tryz.internal_strconv_small u hs _).mono ?_; rintro e w' ⟨rfl, rfl⟩)
    go_ret
    exact ⟨rfl, Below.refl _ _⟩
  · have hu1 : 1 ≤ u := by omega
    have hnd20 : Go.Lib.nDigits u ≤ 20 := by have := Go.Lib.numDigits_eq u hu1 hu64; split at this <;> omega
    have hal : Tryz.prog.arrayLen 253 = 24 := by simp [Program.arrayLen, Tryz.underlying253]
    have hsl : ∀ W, (Instr.sliceAt 253 (.pointer (some ⟨w.heap.size, 0, none⟩)) none (some (.int .i64 (Go.Lib.nDigits u : Int))) none).run Tryz.prog W = .ok (.slice (some ⟨w.heap.size, 0, none⟩) (Go.Lib.nDigits u) 24) W := fun W => by
      rw [run_sliceAt_array_h W 253 ⟨w.heap.size, 0, none⟩ (by simp [Program.arrayLen, Program.elem, Tryz.underlying253]) .i64 (Go.Lib.nDigits u : Int) (by omega) (by rw [hal]; omega)]
      go_simp
    have hH0 := Go.Lib.holds_zero0 w 253 (Go.Lib.nDigits u) (by omega)
    have hfmt := Tryz.internal_strconv_formatBase10 w.heap.size 0 24 u (Array.replicate (Go.Lib.nDigits u) 0) (w.alloc (.cells Go.Lib.zeros24 253)) hH0 (by rw [Array.size_replicate]; exact Go.Lib.lt_pow_nDigits u) hu64 (by rw [Array.size_replicate]; omega)
    rw [Array.size_replicate] at hfmt
    have HH0 := Go.Lib.hid hH0
    have iu : (100 : Int) ≤ (u : Int) := by omega
    clear hH0 hal
    go_enter Tryz.func193, Tryz.ntmps193
    go_wp2_with (go_at_call 219; refine (Tryz.internal_strconv_numDigits u hu1 hu64 _ (Go.Lib.tabIs_alloc hT _)).mono ?_; rintro e w' ⟨rfl, rfl⟩)
    go_at_call 220
    refine hfmt.mono ?_
    rintro e w' ⟨rfl, k, v', dk, rfl, hF⟩
    have hcv : (convert 152 9 (.slice (some ⟨w.heap.size, 0, none⟩) (Go.Lib.nDigits u) 24)).run Tryz.prog ((putRow (fun (b : UInt8) => Value.int .u8 (b.toNat : Int)) (w.alloc (.cells Go.Lib.zeros24 253)) w.heap.size 0 dk).drewN k) = .ok (.string ⟨(Go.Lib.decDigits u).toArray⟩) ((putRow (fun (b : UInt8) => Value.int .u8 (b.toNat : Int)) (w.alloc (.cells Go.Lib.zeros24 253)) w.heap.size 0 dk).drewN k) := by
      have h := run_convert_bytes_back (P := Tryz.prog) ((putRow (fun (b : UInt8) => Value.int .u8 (b.toNat : Int)) (w.alloc (.cells Go.Lib.zeros24 253)) w.heap.size 0 dk).drewN k) 152 9 5 ⟨w.heap.size, 0, none⟩ 24 (Go.Lib.decDigits u) Tryz.underlying152 Tryz.underlying5 Tryz.underlying9 (fun j hj => by
        rw [Go.Lib.row_is_numeral hF j hj, Go.Lib.add_plain, World.cell?_drewN]
        exact cell?_putRow (fun (b : UInt8) => Value.int .u8 (b.toNat : Int)) _ w.heap.size 0 _ dk HH0.out (by rw [hF.size, Array.size_replicate]) j (by rw [hF.size]; rw [Go.Lib.decDigits_length] at hj; exact hj))
      rw [Go.Lib.decDigits_length] at h
      exact h
    go_wp2_with fail
    go_ret
    refine ⟨rfl, ?_⟩
    obtain ⟨os, eo⟩ := Go.Lib.fin_at w (.cells Go.Lib.zeros24 253) dk k 0
    rw [eo]
    exact Go.Lib.below_grow _ w (Nat.le_refl _) k os
theorem fmt10 (u : Nat) (hu64 : u < 18446744073709551616) (w : World) (hT : Pt w) :
    Calls Tryz.prog 152 #[.int .u64 u, .int .i64 10] w fun e w' => e = .returned (.string ⟨(Go.Lib.decDigits u).toArray⟩) ∧ Below w.heap.size w w' := by
  go_enter Tryz.func152, Tryz.ntmps152
  go_wp2_with (go_at_call 193; refine (ifmt10 u hu64 _ hT).mono ?_; rintro e w' ⟨rfl, hb⟩)
  go_ret
  exact ⟨rfl, hb⟩
end Go.Proofs.YtebbblhafjaaiaaGreatDoor
namespace Go.Proofs.YtebbblhafjaaiaaGreatDoor
open Go.RowKit Go.Shelf
set_option linter.unusedVariables false

/-- Pieces of a number, the lowest first. -/
def AP (W : World) (g off len : Nat) (D : Nat → Dg) (V By : Int) : Prop :=
  1 ≤ len ∧ len ≤ 1000000 ∧ g < W.heap.size ∧ (∀ j, j < len → W.cell? ⟨g, off + j, none⟩ = some (dv (D j))) ∧ (∀ j, Nt W (D j).1 (D j).2.1 (D j).2.2.1 (D j).2.2.2) ∧ (∀ j, num (D j).2.2.2 < By) ∧ dsum By D (down len len) = V ∧ (1 < len → num (D (len - 1)).2.2.2 ≠ 0)
theorem AP.after {W W' : World} (hb : Below W.heap.size W W') {g off len : Nat} {D : Nat → Dg} {V By : Int} (h : AP W g off len D V By) : AP W' g off len D V By :=
  ⟨h.1, h.2.1, Nat.lt_of_lt_of_le h.2.2.1 hb.size, fun j hj => (hb.cell (p := ⟨g, off + j, none⟩) h.2.2.1).trans (h.2.2.2.1 j hj), fun j => Nt.after hb (h.2.2.2.2.1 j), h.2.2.2.2.2⟩
/-- A builder stays one where memory is only made. -/
theorem bld_after {T e : TypeId} {B b : Nat} {bs : List Value} {W W' : World} (hb : Below W.heap.size W W') (h : Go.Lib.IsBuilderF T e B b bs W) : Go.Lib.IsBuilderF T e B b bs W' := by
  have one : ∀ p, Go.Lib.BuilderAtF T e B b p bs W → Go.Lib.BuilderAtF T e B b p bs W' := fun p h => by
    obtain ⟨h1, v, h2, h3, h4⟩ := h
    have hg : W.grownBy W' none := ⟨hb.os, hb.tape, hb.output, hb.size, fun k hk _ => hb.block k hk⟩
    exact ⟨h1, v, (hb.block b (Array.getElem?_eq_some_iff.1 h2).1).trans h2, h3.kept hg (by cases h : v.ownBlock <;> simp), h4⟩
  exact h.elim (fun x => .inl (one _ x)) (fun x => .inr (one _ x))
theorem wstr (B b : Nat) (l : List UInt8) (t : List UInt8) (w : World) (h : Go.Lib.IsBuilderF 183 5 B b (Go.Lib.byteCells l) w) (hlen : l.length + t.length ≤ 140737488355328) (hBw : B ≤ w.heap.size) :
    Calls Tryz.prog 139 #[.pointer (some ⟨b, 0, none⟩), .string ⟨t.toArray⟩] w fun e w' => (∃ v, e = .returned v) ∧ Go.Lib.IsBuilderF 183 5 B b (Go.Lib.byteCells (l ++ t)) w' ∧ Below B w w' := by
  refine (Any.Builder_WriteString_k { Tryz.lays105 with } Tryz.Builder_Extra_105 B b (Go.Lib.byteCells l) ⟨t.toArray⟩ w h (by simp [Go.Lib.byteCells]; exact hlen) hBw).mono ?_
  rintro e w' ⟨rfl, h1, h2, -⟩
  refine ⟨⟨_, rfl⟩, ?_, h2⟩
  rw [Go.Lib.byteCells_append]
  exact .inr h1
theorem repeat_noughts (n : Nat) : Go.Lib.repeatL [48] n = List.replicate n 48 := by
  induction n with
  | zero => simp [Go.Lib.repeatL]
  | succ n ih => simp_all [Go.Lib.repeatL, List.replicate_succ]
theorem zrep (n : Nat) (hn : n ≤ 1000000) (w : World) : Calls Tryz.prog 104 #[.string ⟨#[48]⟩, .int .i64 n] w fun e w' => e = .returned (.string ⟨(List.replicate n (48 : UInt8)).toArray⟩) ∧ Below w.heap.size w w' := by
  have := Tryz.strings_Repeat ⟨#[48]⟩ n w (by omega) (by show 1 * n ≤ _; omega)
  rw [show (ByteArray.mk #[48]).data.toList = [48] from rfl, repeat_noughts] at this
  exact this
/-- What stands between two rounds. -/
def TxI (bn sz len k : Nat) (D : Nat → Dg) (By : Int) (acc : List UInt8) : Prop := k ≤ len ∧ acc.length ≤ k * sz ∧ (k = 0 → acc = []) ∧ (0 < k → ∃ V : Nat, dsum By D (down len k) = V ∧ Tx bn acc V ∧ (1 < len → V ≠ 0))
theorem down_one (len : Nat) : down len 1 = [len - 1] := by simp [down]
theorem txI_on {w : World} {bn sz len k u : Nat} {D : Nat → Dg} {By : Int} {acc l : List UInt8} (h : TxI bn sz len k D By acc) (hk : k < len) (hb2 : 2 ≤ bn) (hBy : By = ((bn ^ sz : Nat) : Int)) (hu : num (D (len - 1 - k)).2.2.2 = u) (hl : Tx bn l u) (hlen : l.length ≤ sz) (hnn : ∀ j, 0 ≤ num (D j).2.2.2) (htop : 1 < len → num (D (len - 1)).2.2.2 ≠ 0) :
    TxI bn sz len (k + 1) D By (if k = 0 then l else acc ++ (List.replicate (sz - l.length) 48 ++ l)) := by
  obtain ⟨h1, h2, h3, h4⟩ := h
  have hB1 : 1 ≤ By := by rw [hBy]; have : 0 < bn ^ sz := Nat.pow_pos (by omega); omega
  by_cases h0 : k = 0
  · subst h0
    rw [if_pos rfl]
    refine ⟨by omega, by omega, fun h => by omega, fun _ => ⟨u, ?_, hl, fun hl1 e => ?_⟩⟩
    · rw [down_one]; simp only [dsum, List.foldl_cons, List.foldl_nil]; rw [show len - 1 = len - 1 - 0 by omega, hu]; omega
    · have := htop hl1
      rw [show len - 1 = len - 1 - 0 by omega, hu] at this
      omega
  · rw [if_neg h0]
    obtain ⟨V, hV, ht, hne⟩ := h4 (by omega)
    have hlm : (List.replicate (sz - l.length) (48 : UInt8) ++ l).length = sz := by simp; omega
    have hm := ht.more (m := List.replicate (sz - l.length) 48 ++ l) (hne (by omega)) ((dig_noughts hb2 _).append hl.dig)
    rw [hlm, tv_ahead, hl.val] at hm
    refine ⟨by omega, ?_, fun h => by omega, fun _ => ⟨V * bn ^ sz + u, ?_, hm, fun hl1 e => ?_⟩⟩
    · rw [List.length_append, hlm, Nat.add_mul]; omega
    · rw [down_succ, dsum_snoc, hV, hu, hBy]; simp
    · have hp : 0 < bn ^ sz := Nat.pow_pos (by omega)
      have : 0 < V * bn ^ sz := Nat.mul_pos (by have := hne hl1; omega) hp
      omega

set_option maxHeartbeats 8000000 in
set_option maxRecDepth 20000 in
theorem text_of (T : World → Prop) (hTo : ∀ W W', Below W.heap.size W W' → T W → T W') (bn sz : Nat) (By : Int) (hb2 : 2 ≤ bn) (hb36 : bn ≤ 36) (hs1 : 1 ≤ sz) (hs63 : sz ≤ 63) (hBy : By = ((bn ^ sz : Nat) : Int)) (hBw : Word By) (hB0 : By ≠ 0)
    (hgp : ∀ w, Calls Tryz.prog 79 #[.int .i64 bn] w fun e w' => e = .returned (.tuple #[.int .u64 By, .int .i64 sz]) ∧ w' = w)
    (hF : ∀ (u : Nat) (w : World), u < 18446744073709551616 → T w → Calls Tryz.prog 152 #[.int .u64 u, .int .i64 bn] w fun e w' => ∃ l, e = .returned (.string ⟨List.toArray l⟩) ∧ Tx bn l u ∧ Below w.heap.size w w')
    (a : Option Addr) (l c : Nat) (xs : List Int) (w : World) (h0 : Nt w a l c xs) (hT : T w)
    (hA : ∀ W a2 l2 c2, Below w.heap.size w W → Nt W a2 l2 c2 [By] → Nt W a l c xs → Calls Tryz.prog 150 #[.agg #[.slice a l c], .agg #[.slice a2 l2 c2]] W fun e W' => ∃ g off len cap D, e = .returned (.slice (some ⟨g, off, none⟩) len cap) ∧ len ≤ cap ∧ Hid (AP W' g off len D (num xs) By) ∧ Below W.heap.size W W') :
    Calls Tryz.prog 103 #[.agg #[.slice a l c], .int .i64 bn] w fun e W' => ∃ t, e = .returned (.tuple #[.string ⟨List.toArray t⟩, .int .i64 0]) ∧ Tx bn t (num xs).toNat ∧ Below w.heap.size w W' := by
  have HTo : Hid (∀ W W', Below W.heap.size W W' → T W → T W') := hTo
  clear hTo
  have HBY : Hid (By = ((bn ^ sz : Nat) : Int)) := hBy
  have HF : Hid _ := hF
  have HA : Hid _ := hA
  clear hBy hF hA
  have B0 : Below w.heap.size w w := Below.refl _ _
  go_enter Tryz.func103, Tryz.ntmps103
  go_wp2_with fail
  refine ent1 w _ _ (Q := fun W => Calls Tryz.prog _ _ W _) ?_
  intro x1 hb hs_x1 V0
  replace h0 := Nt.after hb h0
  replace B0 := step B0 hb
  clear hb hs_x1
  refine (isBase_any bn (by omega) (by omega) _).mono ?_
  rintro e w' ⟨rfl, rfl⟩
  go_wp2_with fail
  refine (hgp _).mono ?_
  rintro e w' ⟨rfl, rfl⟩
  clear hgp
  go_wp2_with fail
  refine wp_region_noPanic ?_
  replace V0 : Va w'.drew _ _ _ := V0
  replace h0 := h0.drw
  replace B0 := Below.drew B0
  refine wp_region_held_drew (S := (fun W => W.cell? ⟨w.heap.size, 0, none⟩ = some (.slice a l c))) (by kernel_rfl) V0.cell (fun hHeld => ?_)
  obtain ⟨x2, hxd⟩ : ∃ xd, xd = w'.drew := ⟨_, rfl⟩
  rw [← hxd] at V0 h0 B0 hHeld ⊢
  clear hxd
  refine wpAnyH_take (i := 0) (v := ?_) rfl (by kernel_rfl) (by kernel_rfl) (by kernel_rfl) (fun _ _ _ h => h) (Or.inl ⟨by rfl, ?_⟩) hHeld ?_
  rotate_left
  · (intro W hSw; (try dsimp only at hSw); go_simp; all_goals (with_reducible rfl))
  simp only [List.getElem_toArray, List.getElem_cons_zero, Act.put, List.setIfInBounds_toArray, List.set_cons_zero, List.set_cons_succ]
  refine wpAnyH_take (i := 1) (v := ?_) rfl (by kernel_rfl) (by kernel_rfl) (by kernel_rfl) (fun _ _ _ h => h) (Or.inl ⟨by rfl, ?_⟩) hHeld ?_
  rotate_left
  · (intro W hSw; (try dsimp only at hSw); go_simp; all_goals (with_reducible rfl))
  simp only [List.getElem_toArray, List.getElem_cons_zero, List.getElem_cons_succ, Act.put, List.setIfInBounds_toArray, List.set_cons_zero, List.set_cons_succ]
  refine wpAnyH_ready (rs := [2]) (by kernel_rfl) (by simp) ?_
  refine AllReadyH.cons rfl (fun K hK => ?_) AllReadyH.nil
  simp only [List.getElem_toArray, List.getElem_cons_zero, List.getElem_cons_succ]
  go_simp
  refine (small_pos By hBw hB0 _).mono ?_
  rintro e x3 ⟨rfl, hS, hb⟩
  replace V0 := Va.after hb V0
  replace h0 := Nt.after hb h0
  replace B0 := step B0 hb
  clear hb
  try go_wp2_with fail
  refine hK.out _ _ V0.cell (fun hHeld => ?_)
  clear hK K
  refine wpAnyH_ready (rs := [3]) (by kernel_rfl) (by simp) ?_
  refine AllReadyH.cons rfl (fun K hK => ?_) AllReadyH.nil
  simp only [List.getElem_toArray, List.getElem_cons_zero, List.getElem_cons_succ]
  go_simp
  refine (HA.out _ _ _ _ B0 hS h0).mono ?_
  rintro e x4 ⟨g, off, len, cap, D, rfl, hcap, hAP', hb⟩
  replace V0 := Va.after hb V0
  replace h0 := Nt.after hb h0
  replace hS := Nt.after hb hS
  replace B0 := step B0 hb
  clear hb
  have hAP := hAP'.out
  clear hAP' HA
  try go_wp2_with fail
  refine hK.out _ _ V0.cell (fun hHeld => ?_)
  clear hK K
  refine wpAnyH_take (i := 4) (v := ?_) rfl (by kernel_rfl) (by kernel_rfl) (by kernel_rfl) (fun _ _ _ h => h) (Or.inl ⟨by rfl, ?_⟩) hHeld ?_
  rotate_left
  · (intro W hSw; (try dsimp only at hSw); go_simp; all_goals (with_reducible rfl))
  simp only [List.getElem_toArray, List.getElem_cons_zero, List.getElem_cons_succ, Act.put, List.setIfInBounds_toArray, List.set_cons_zero, List.set_cons_succ]
  refine wpAnyH_done (by kernel_rfl) ?_ _
  refine NoPanic.normal ?_
  clear hHeld
  have HAP : Hid (AP x4 g off len D (num xs) By) := hAP
  have hlen1 : 1 ≤ len := HAP.out.1
  have hlen2 : len ≤ 1000000 := HAP.out.2.1
  have HPt : Hid (T x4) := HTo.out _ _ B0 hT
  have HB0 : Hid (Below w.heap.size w x4) := B0
  obtain ⟨M, hM⟩ : ∃ M : Nat, wrap64 ((len : Int) * sz) = M := ⟨len * sz, by
    have : len * sz ≤ 1000000 * 63 := Nat.mul_le_mul hlen2 hs63
    have e : (len : Int) * sz = ((len * sz : Nat) : Int) := by simp
    unfold wrap64; omega⟩
  have HM : Hid (M ≤ 100000000) := by
    have : len * sz ≤ 1000000 * 63 := Nat.mul_le_mul hlen2 hs63
    have e : (len : Int) * sz = ((len * sz : Nat) : Int) := by simp
    have e2 : (M : Int) = len * sz := by rw [← hM]; unfold wrap64; omega
    show M ≤ _
    omega
  clear hAP B0 h0 hS V0 hT
  go_wp2_with fail
  refine (Tryz.Builder_Grow_fresh x4.heap.size x4.heap.size M _ (Nat.le_refl _) (Va.new _ _ _) (by simp) (by have := HM.out; omega)).mono ?_
  rintro e y0 ⟨rfl, hbl, hb⟩
  have HBl : Hid (Go.Lib.IsBuilderF 183 5 x4.heap.size x4.heap.size (Go.Lib.byteCells []) y0) := .inr (Go.Lib.BuilderAtF.of hbl)
  have HBX : Hid (Below x4.heap.size x4 y0) := ((Below.refl _ _).alloc (Nat.le_refl _) _).trans hb
  clear hbl hb hM
  go_wp2_with fail
  go_loopw [10] (fun i wr => ∃ (k : Nat) (acc : List UInt8), i = .int .i64 ((len : Int) - 1 - k) ∧ k ≤ len ∧ Hid (TxI bn sz len k D By acc) ∧ Hid (Go.Lib.IsBuilderF 183 5 x4.heap.size x4.heap.size (Go.Lib.byteCells acc) wr) ∧ Hid (Below x4.heap.size x4 wr)) (fun i _ => ((intOf i) + 1).toNat)
  case atStart => exact ⟨0, [], by go_num, by omega, ⟨by omega, by simp, fun _ => rfl, fun h => absurd h (by omega)⟩, HBl.out, HBX.out⟩
  case round =>
    obtain ⟨k, acc, rfl, hkl, HI, HL, HW⟩ := hrel
    by_cases hk : k < len
    · obtain ⟨q, hq⟩ : ∃ q, q = len - 1 - k := ⟨_, rfl⟩
      have eq : (len : Int) - 1 - k = q := by omega
      rw [eq]
      have HQ : Hid (q = len - 1 - k) := hq
      have hql : q < len := by omega
      have hq0 : (0 : Int) ≤ q := by omega
      have HA2 := HAP.out.after HW.out
      have hcq := HA2.2.2.2.1 q hql
      have hNq := HA2.2.2.2.2.1 q
      have hUq := HA2.2.2.2.2.2.1 q
      have HNN : Hid (∀ j, 0 ≤ num (D j).2.2.2) := fun j => (HA2.2.2.2.2.1 j).nonneg
      have HTP : Hid (1 < len → num (D (len - 1)).2.2.2 ≠ 0) := HA2.2.2.2.2.2.2.2
      obtain ⟨u, hu⟩ : ∃ u : Nat, num (D q).2.2.2 = u := ⟨(num (D q).2.2.2).toNat, by have := HNN.out q; omega⟩
      have HU : Hid (num (D (len - 1 - k)).2.2.2 = u) := by rw [← hq]; exact hu
      have HUB : Hid (u < bn ^ sz) := by rw [hu, HBY.out] at hUq; show u < bn ^ sz; omega
      have hu64 : u < 18446744073709551616 := by rw [hu] at hUq; have := hBw.2; omega
      obtain ⟨dq, hdq⟩ : ∃ d, D q = d := ⟨_, rfl⟩
      obtain ⟨aq, lq, cq, zq⟩ := dq
      rw [hdq] at hcq hNq hu
      simp only [dv] at hcq hNq hu
      have hUc : Calls Tryz.prog 70 #[.agg #[.slice aq lq cq]] wr fun e w' => e = .returned (.tuple #[.int .u64 (u : Int), .bool true]) ∧ Below wr.heap.size wr w' := by
        have := uint64_small aq lq cq zq wr hNq (by rw [hu]; omega)
        rw [hu] at this
        exact this
      have hgw : g < wr.heap.size := HA2.2.2.1
      clear hq eq hdq hu hUq HA2 hNq
      go_wp2_with fail
      refine hUc.mono ?_
      rintro e y1 ⟨rfl, hb1⟩
      have HL1 : Hid (Go.Lib.IsBuilderF 183 5 x4.heap.size x4.heap.size (Go.Lib.byteCells acc) y1) := bld_after hb1 HL.out
      have HW1 : Hid (Below x4.heap.size x4 y1) := step HW.out hb1
      clear hb1 hUc hcq hgw
      go_wp2_with fail
      refine (HF.out u y1 hu64 (HTo.out _ _ HW1.out HPt.out)).mono ?_
      rintro e y2 ⟨t, rfl, htx, hB2⟩
      have HL2 : Hid (Go.Lib.IsBuilderF 183 5 x4.heap.size x4.heap.size (Go.Lib.byteCells acc) y2) := bld_after hB2 HL1.out
      have HW2 : Hid (Below x4.heap.size x4 y2) := step HW1.out hB2
      have HTX : Hid (Tx bn t u) := htx
      have htl : t.length ≤ sz := htx.le hb2 HUB.out hs1
      clear hB2 HL1 HW1 htx
      have hLen : Calls Tryz.prog 153 #[.pointer (some ⟨x4.heap.size, 0, none⟩)] y2 fun e w' => e = .returned (.int .i64 (acc.length : Int)) ∧ w' = y2 := by
        have := Tryz.Builder_Len_f x4.heap.size x4.heap.size _ y2 HL2.out
        rw [Go.Lib.byteCells_length] at this
        exact this
      have HX4 : Hid (x4.heap.size ≤ y2.heap.size) := HW2.out.size
      have HAL : Hid (acc.length ≤ 63000000) := by
        have h1 := HI.out.2.1
        have h2 : k * sz ≤ 1000000 * 63 := Nat.mul_le_mul (by omega) hs63
        show acc.length ≤ _
        omega
      by_cases hk0 : k = 0
      · have HA0 : Hid (acc = []) := HI.out.2.2.1 hk0
        have hal : ¬ (0 : Int) < (acc.length : Int) := by rw [HA0.out]; simp
        have HK0 : Hid (k = 0) := hk0
        clear hk0
        go_wp2_with fail
        refine hLen.mono ?_
        rintro e w' ⟨rfl, rfl⟩
        go_wp2_with fail
        refine (wstr x4.heap.size x4.heap.size acc t w' HL2.out (by have := HAL.out; omega) HX4.out).mono ?_
        rintro e y3 ⟨⟨v, rfl⟩, hL3, hb3⟩
        have HL3 : Hid (Go.Lib.IsBuilderF 183 5 x4.heap.size x4.heap.size (Go.Lib.byteCells t) y3) := by rw [HA0.out] at hL3; exact hL3
        have HW3 : Hid (Below x4.heap.size x4 y3) := HW2.out.trans hb3
        clear hL3 hb3 hLen
        go_wp2_with fail
        go_roundw
        case rel =>
          have hI := txI_on (w := w') HI.out hk hb2 HBY.out HU.out HTX.out htl HNN.out HTP.out
          rw [if_pos HK0.out] at hI
          exact ⟨k + 1, t, by have := HQ.out; congr 1; omega, by omega, hI, HL3.out, HW3.out⟩
        case measure => simp [intOf]
      · have hal : (0 : Int) < (acc.length : Int) := by
          obtain ⟨V, -, ht, -⟩ := HI.out.2.2.2 (by omega)
          have := ht.pos
          omega
        obtain ⟨Z, hZ⟩ : ∃ Z : Nat, (sz : Int) - t.length = Z := ⟨sz - t.length, by omega⟩
        have HZ : Hid (Z = sz - t.length) := by show Z = _; omega
        have HZ6 : Hid (Z ≤ 63) := by show Z ≤ _; omega
        go_wp2_with fail
        refine hLen.mono ?_
        rintro e w' ⟨rfl, rfl⟩
        go_wp2_with fail
        refine (zrep Z (by have := HZ6.out; omega) w').mono ?_
        rintro e y3 ⟨rfl, hb3⟩
        have HL3 : Hid (Go.Lib.IsBuilderF 183 5 x4.heap.size x4.heap.size (Go.Lib.byteCells acc) y3) := bld_after hb3 HL2.out
        have HW3 : Hid (Below x4.heap.size x4 y3) := step HW2.out hb3
        clear hb3 hLen
        go_wp2_with fail
        refine (wstr x4.heap.size x4.heap.size acc (List.replicate Z 48) y3 HL3.out (by have := HAL.out; have := HZ6.out; simp; omega) HW3.out.size).mono ?_
        rintro e y4 ⟨⟨v, rfl⟩, hL4, hb4⟩
        have HL4 : Hid (Go.Lib.IsBuilderF 183 5 x4.heap.size x4.heap.size (Go.Lib.byteCells (acc ++ List.replicate Z 48)) y4) := hL4
        have HW4 : Hid (Below x4.heap.size x4 y4) := HW3.out.trans hb4
        clear hL4 hb4
        go_wp2_with fail
        refine (wstr x4.heap.size x4.heap.size (acc ++ List.replicate Z 48) t y4 HL4.out (by have := HAL.out; have := HZ6.out; simp; omega) HW4.out.size).mono ?_
        rintro e y5 ⟨⟨v2, rfl⟩, hL5, hb5⟩
        have HL5 : Hid (Go.Lib.IsBuilderF 183 5 x4.heap.size x4.heap.size (Go.Lib.byteCells (acc ++ (List.replicate (sz - t.length) 48 ++ t))) y5) := by rw [← HZ.out, ← List.append_assoc]; exact hL5
        have HW5 : Hid (Below x4.heap.size x4 y5) := HW4.out.trans hb5
        clear hL5 hb5 hZ
        go_wp2_with fail
        go_roundw
        case rel =>
          have hI := txI_on (w := y5) HI.out hk hb2 HBY.out HU.out HTX.out htl HNN.out HTP.out
          rw [if_neg hk0] at hI
          exact ⟨k + 1, _, by have := HQ.out; congr 1; omega, by omega, hI, HL5.out, HW5.out⟩
        case measure => simp [intOf]
    · have hkl2 : k = len := by omega
      subst hkl2
      have HX : Hid (x4.heap.size ≤ wr.heap.size) := HW.out.size
      have hneg : ¬ (0 : Int) ≤ (k : Int) - 1 - k := by omega
      clear hk
      go_wp2_with fail
      refine (Tryz.Builder_String_any_k x4.heap.size x4.heap.size acc wr HL.out HX.out).mono ?_
      rintro e y1 ⟨rfl, -, hb1, -⟩
      go_wp2_with fail
      go_ret2
      obtain ⟨V, hV, ht, -⟩ := HI.out.2.2.2 (by omega)
      have hE := HAP.out.2.2.2.2.2.2.1
      rw [hV] at hE
      refine ⟨acc, rfl, ?_, step HB0.out (HW.out.trans hb1)⟩
      rw [← hE]
      exact ht
end Go.Proofs.YtebbblhafjaaiaaGreatDoor
namespace Go.Proofs.YtebbblhafjaaiaaGreatDoor
open Go.RowKit Go.Shelf
set_option linter.unusedVariables false

def oneD (d : Dg) : Nat → Dg
  | 0 => d
  | _ + 1 => d0
set_option maxHeartbeats 2000000 in
theorem apart_one (a b : Option Addr) (la ca lb cb : Nat) (xs ys : List Int) (w : World) (ha : Nt w a la ca xs) (hb : Nt w b lb cb ys) (hlt : num xs < num ys) :
    Calls Tryz.prog 150 #[.agg #[.slice a la ca], .agg #[.slice b lb cb]] w fun e W' => ∃ g off len cap D, e = .returned (.slice (some ⟨g, off, none⟩) len cap) ∧ len ≤ cap ∧ Hid (AP W' g off len D (num xs) (num ys)) ∧ Below w.heap.size w W' := by
  go_enter Tryz.func150, Tryz.ntmps150
  go_wp2_with fail
  refine ent2 w _ _ _ _ (Q := fun W => Calls Tryz.prog _ _ W _) ?_
  intro w0 B0 hs V0 V1
  have e1 : cmp3 (num xs) (num ys) = -1 := by unfold cmp3; rw [if_pos hlt]
  refine (ncompare_any a b la ca lb cb xs ys w0 (Nt.after B0 ha) (Nt.after B0 hb)).mono ?_
  rintro e w1 ⟨rfl, hb1⟩
  rw [e1]
  replace V0 := Va.after hb1 V0
  replace B0 := step B0 hb1
  have c0 := V0.cell
  have l0 := V0.lt
  go_wp2_with fail
  go_ret
  have B1 := B0.alloc B0.size (.cells #[.slice a la ca] 41)
  refine ⟨w1.heap.size, 0, 1, 1, oneD (a, la, ca, xs), rfl, Nat.le_refl _, ?_, B1⟩
  have hN := Nt.after B1 ha
  refine ⟨Nat.le_refl _, by omega, by simp, fun j hj => ?_, fun j => ?_, fun j => ?_, ?_, fun h => absurd h (by omega)⟩
  · obtain rfl : j = 0 := by omega
    exact (Va.new w1 _ _).cell
  · match j with
    | 0 => exact hN
    | _ + 1 => exact Nt.nil _
  · match j with
    | 0 => exact hlt
    | _ + 1 =>
      have := ha.nonneg
      show num [] < _
      simp [num]; omega
  · rw [down_one]; simp [dsum, oneD]
theorem text_small (a : Option Addr) (l c : Nat) (xs : List Int) (w : World) (h : Nt w a l c xs) (hlt : num xs < 10000000000000000000) (hT : Pt w) :
    Calls Tryz.prog 103 #[.agg #[.slice a l c], .int .i64 10] w fun e W' => ∃ t, e = .returned (.tuple #[.string ⟨List.toArray t⟩, .int .i64 0]) ∧ Tx 10 t (num xs).toNat ∧ Below w.heap.size w W' := by
  refine text_of Pt (fun W W' hb h => h.to hb) 10 19 10000000000000000000 (by omega) (by omega) (by omega) (by omega) (by decide) ⟨by omega, by omega⟩ (by omega) greatPower_ten
    (fun u w hu hp => (fmt10 u hu w hp).mono fun e w' h => ⟨_, h.1, dec_tx u, h.2⟩) a l c xs w h hT (fun W a2 l2 c2 hb h2 hx => ?_)
  have := apart_one a a2 l c l2 c2 xs [10000000000000000000] W hx h2 (by simpa [num] using hlt)
  have e : num [(10000000000000000000 : Int)] = 10000000000000000000 := by simp [num]
  rw [e] at this
  exact this
end Go.Proofs.YtebbblhafjaaiaaGreatDoor
namespace Go.Proofs.YtebbblhafjaaiaaGreatDoor
open Go.RowKit Go.Shelf
set_option linter.unusedVariables false

theorem below_dN {B : Nat} {a w : World} (h : Below B a w) (n : Nat) : Below B a (w.drewN n) := below_drewN h n
set_option maxHeartbeats 4000000 in
theorem written_a (neg : Bool) (P : Nat) (hP : P ≤ 4096) (a : Option Addr) (l c : Nat) (w : World) (t : List UInt8) (hl : t.length ≤ 1000000) (hl1 : 0 < t.length)
    (hX : ∀ W, Below w.heap.size w W → Calls Tryz.prog 103 #[.agg #[.slice a l c], .int .i64 10] W fun e W' => e = .returned (.tuple #[.string ⟨List.toArray t⟩, .int .i64 0]) ∧ Below W.heap.size W W') :
    Calls Tryz.prog 50 #[.bool neg, .agg #[.slice a l c], .int .i64 P] w fun e W' => e = .returned (.string ⟨(textL neg P t).toArray⟩) ∧ Below w.heap.size w W' := by
  have HX : Hid _ := hX
  clear hX
  go_enter Tryz.func50, Tryz.ntmps50
  go_wp2_with fail
  refine ent1 w _ _ (Q := fun W => Calls Tryz.prog _ _ W _) ?_
  intro w0 B0 hs V0
  refine (HX.out w0 B0).mono ?_
  rintro e w1 ⟨rfl, hb1⟩
  replace B0 := step B0 hb1
  clear hb1 V0 hs HX
  have hct := cat
  by_cases hz : (0 : Int) < (P : Int) + 1 - t.length
  · obtain ⟨Z, hZ⟩ : ∃ Z : Nat, (P : Int) + 1 - t.length = Z := ⟨P + 1 - t.length, by omega⟩
    have HZ : Hid (Z = P + 1 - t.length) := by show Z = _; omega
    have hz6 : Z ≤ 5000 := by omega
    have hzp : (0 : Int) < Z := by omega
    have HPD : Hid (padL P t = List.replicate Z 48 ++ t) := by show padL P t = _; unfold padL; rw [HZ.out]
    have hL : Hid ((List.replicate Z (48 : UInt8) ++ t).length = P + 1) := by have := HZ.out; show _ = _; simp; omega
    have hL2 : (List.replicate Z (48 : UInt8) ++ t).length ≤ 1000000 := by rw [hL.out]; omega
    have c0 := cat (List.replicate Z 48) t
    clear hz
    go_wp2_with fail
    refine (zrep Z (by omega) _).mono ?_
    rintro e w2 ⟨rfl, hb2⟩
    replace B0 := step B0 hb2
    clear hb2 hZ hzp
    generalize hTT : List.replicate Z (48 : UInt8) ++ t = T at *
    by_cases hp : 0 < P
    · have hpi : (0 : Int) < P := by omega
      have hlT : P < (T).length := by have := hL.out; omega
      have s1 := slice_hi (T) (((T).length : Int) - P) ((T).length - P) (by omega) (by omega)
      have s2 := slice_lo (T) (((T).length : Int) - P) ((T).length - P) (by omega) (by omega)
      have c1 := cat ((T).take ((T).length - P)) [46]
      have c2 := cat ((T).take ((T).length - P) ++ [46]) ((T).drop ((T).length - P))
      have c3 := cat [45] ((T).take ((T).length - P) ++ [46] ++ (T).drop ((T).length - P))
      have HE : Hid (ptL P (T) = (T).take ((T).length - P) ++ 46 :: (T).drop ((T).length - P)) := by show ptL P _ = _; unfold ptL; rw [if_neg (by omega)]
      cases neg
      · go_wp2_with fail
        go_quiet (fail)
        go_wp2_with fail
        go_ret
        refine ⟨?_, below_dN B0 _⟩
        have e : textL false P t = ((T).take ((T).length - P) ++ 46 :: (T).drop ((T).length - P)) := by unfold textL sgL; rw [HPD.out, HE.out]; rfl
        rw [e]
        rfl
      · go_wp2_with fail
        go_quiet (fail)
        go_wp2_with fail
        go_ret
        refine ⟨?_, below_dN B0 _⟩
        have e : textL true P t = 45 :: ((T).take ((T).length - P) ++ 46 :: (T).drop ((T).length - P)) := by unfold textL sgL; rw [HPD.out, HE.out]; rfl
        rw [e]
        rfl
    · have hpi : ¬ (0 : Int) < P := by omega
      have HP0 : Hid (P = 0) := by show P = 0; omega
      have c3 := cat [45] (T)
      cases neg
      · go_wp2_with fail
        go_ret
        refine ⟨?_, B0⟩
        have e : textL false P t = (T) := by unfold textL sgL; rw [HPD.out]; unfold ptL; rw [if_pos HP0.out]; rfl
        rw [e]
        rfl
      · go_wp2_with fail
        go_ret
        refine ⟨?_, B0⟩
        have e : textL true P t = 45 :: (T) := by unfold textL sgL; rw [HPD.out]; unfold ptL; rw [if_pos HP0.out]; rfl
        rw [e]
        rfl
  · have HPD : Hid (padL P t = t) := by show padL P t = _; unfold padL; rw [show P + 1 - t.length = 0 by omega]; rfl
    have hL : Hid (P + 1 ≤ t.length) := by show P + 1 ≤ _; omega
    by_cases hp : 0 < P
    · have hpi : (0 : Int) < P := by omega
      have hlT : P < (t).length := by have := hL.out; omega
      have s1 := slice_hi (t) (((t).length : Int) - P) ((t).length - P) (by omega) (by omega)
      have s2 := slice_lo (t) (((t).length : Int) - P) ((t).length - P) (by omega) (by omega)
      have c1 := cat ((t).take ((t).length - P)) [46]
      have c2 := cat ((t).take ((t).length - P) ++ [46]) ((t).drop ((t).length - P))
      have c3 := cat [45] ((t).take ((t).length - P) ++ [46] ++ (t).drop ((t).length - P))
      have HE : Hid (ptL P (t) = (t).take ((t).length - P) ++ 46 :: (t).drop ((t).length - P)) := by show ptL P _ = _; unfold ptL; rw [if_neg (by omega)]
      cases neg
      · go_wp2_with fail
        go_quiet (fail)
        go_wp2_with fail
        go_ret
        refine ⟨?_, below_dN B0 _⟩
        have e : textL false P t = ((t).take ((t).length - P) ++ 46 :: (t).drop ((t).length - P)) := by unfold textL sgL; rw [HPD.out, HE.out]; rfl
        rw [e]
        rfl
      · go_wp2_with fail
        go_quiet (fail)
        go_wp2_with fail
        go_ret
        refine ⟨?_, below_dN B0 _⟩
        have e : textL true P t = 45 :: ((t).take ((t).length - P) ++ 46 :: (t).drop ((t).length - P)) := by unfold textL sgL; rw [HPD.out, HE.out]; rfl
        rw [e]
        rfl
    · have hpi : ¬ (0 : Int) < P := by omega
      have HP0 : Hid (P = 0) := by show P = 0; omega
      have c3 := cat [45] (t)
      cases neg
      · go_wp2_with fail
        go_ret
        refine ⟨?_, B0⟩
        have e : textL false P t = (t) := by unfold textL sgL; rw [HPD.out]; unfold ptL; rw [if_pos HP0.out]; rfl
        rw [e]
        rfl
      · go_wp2_with fail
        go_ret
        refine ⟨?_, B0⟩
        have e : textL true P t = 45 :: (t) := by unfold textL sgL; rw [HPD.out]; unfold ptL; rw [if_pos HP0.out]; rfl
        rw [e]
        rfl
end Go.Proofs.YtebbblhafjaaiaaGreatDoor
namespace Go.Proofs.YtebbblhafjaaiaaGreatDoor
open Go.RowKit Go.Shelf
set_option linter.unusedVariables false

theorem text_dec (a : Option Addr) (l c : Nat) (xs : List Int) (w : World) (h : Nt w a l c xs) (hlt : num xs < 10000000000000000000) (hT : Pt w) :
    Calls Tryz.prog 103 #[.agg #[.slice a l c], .int .i64 10] w fun e W' => e = .returned (.tuple #[.string ⟨(Go.Lib.decDigits (num xs).toNat).toArray⟩, .int .i64 0]) ∧ Below w.heap.size w W' := by
  refine (text_small a l c xs w h hlt hT).mono ?_
  rintro e W' ⟨t, rfl, ht, hb⟩
  rw [ht.unique (by omega) (by omega) (dec_tx _)]
  exact ⟨rfl, hb⟩
theorem dec_len {n : Nat} (h : n < 10 ^ 19) : 0 < (Go.Lib.decDigits n).length ∧ (Go.Lib.decDigits n).length ≤ 19 := ⟨(dec_tx n).pos, (dec_tx n).le (by omega) h (by omega)⟩
/-- The text of a decimal that may be. -/
def dtx (U : Int) (P : Nat) : List UInt8 := textL (decide (U < 0)) P (Go.Lib.decDigits U.natAbs)
set_option maxHeartbeats 4000000 in
theorem dtext_ok (U : Int) (P : Nat) (h1 : -9223372036854775808 ≤ U) (h2 : U ≤ 9223372036854775807) (hc : Can U P) (w : World) (hT : Pt w) :
    Calls Tryz.prog 14 #[.agg #[.int .i64 U, .int .i64 P]] w fun e W' => e = .returned (.tuple #[.string ⟨(dtx U P).toArray⟩, .int .i64 0]) ∧ Below w.heap.size w W' := by
  have HC : Hid (CanI U P) := (canI_iff U P).2 hc
  have hP := hc.1
  clear hc
  have B0 : Below w.heap.size w w := Below.refl _ _
  go_enter Tryz.func14, Tryz.ntmps14
  go_wp2_with fail
  refine ent1 w _ _ (Q := fun W => Calls Tryz.prog _ _ W _) ?_
  intro x1 hb hs_x1 V0
  replace B0 := step B0 hb
  clear hb hs_x1
  refine (check_ok U P HC.out _).mono ?_
  rintro e x2 ⟨rfl, hb⟩
  replace V0 := Va.after hb V0
  replace B0 := step B0 hb
  clear hb
  have c_V0 := V0.c0
  have f0_V0 := V0.frozen 0
  have d_V0 := V0.c1
  have f1_V0 := V0.frozen 1
  have l_V0 := V0.lt
  have m_V0 := Nat.le_of_lt l_V0
  go_wp2_with fail
  clear c_V0 f0_V0 d_V0 f1_V0 l_V0 m_V0
  refine wp_region_noPanic ?_
  replace V0 : Va x2.drew _ _ _ := V0
  replace B0 := Below.drew B0
  refine wp_region_held_drew (S := (fun W => W.cell? ⟨w.heap.size, 0, none⟩ = some (.int .i64 U) ∧ W.cell? ⟨w.heap.size, 1, none⟩ = some (.int .i64 P))) (by kernel_rfl) ⟨V0.c0, V0.c1⟩ (fun hHeld => ?_)
  obtain ⟨x3, hxd⟩ : ∃ xd, xd = x2.drew := ⟨_, rfl⟩
  rw [← hxd] at V0 B0 hHeld ⊢
  clear hxd
  refine wpAnyH_take (i := 0) (v := ?_) rfl (by kernel_rfl) (by kernel_rfl) (by kernel_rfl) (fun _ _ _ h => h) (Or.inl ⟨by rfl, ?_⟩) hHeld ?_
  rotate_left
  · (intro W hSw; (try dsimp only at hSw); go_simp; all_goals (with_reducible rfl))
  simp only [List.getElem_toArray, List.getElem_cons_zero, Act.put, List.setIfInBounds_toArray, List.set_cons_zero, List.set_cons_succ]
  refine wpAnyH_take (i := 1) (v := ?_) rfl (by kernel_rfl) (by kernel_rfl) (by kernel_rfl) (fun _ _ _ h => h) (Or.inl ⟨by rfl, ?_⟩) hHeld ?_
  rotate_left
  · (intro W hSw; (try dsimp only at hSw); go_simp; all_goals (with_reducible rfl))
  simp only [List.getElem_toArray, List.getElem_cons_zero, List.getElem_cons_succ, Act.put, List.setIfInBounds_toArray, List.set_cons_zero, List.set_cons_succ]
  refine wpAnyH_take (i := 2) (v := ?_) rfl (by kernel_rfl) (by kernel_rfl) (by kernel_rfl) (fun _ _ _ h => h) (Or.inl ⟨by rfl, ?_⟩) hHeld ?_
  rotate_left
  · (intro W hSw; (try dsimp only at hSw); go_simp; all_goals (with_reducible rfl))
  simp only [List.getElem_toArray, List.getElem_cons_zero, List.getElem_cons_succ, Act.put, List.setIfInBounds_toArray, List.set_cons_zero, List.set_cons_succ]
  refine wpAnyH_take (i := 3) (v := ?_) rfl (by kernel_rfl) (by kernel_rfl) (by kernel_rfl) (fun _ _ _ h => h) (Or.inl ⟨by rfl, ?_⟩) hHeld ?_
  rotate_left
  · (intro W hSw; (try dsimp only at hSw); go_simp; all_goals (with_reducible rfl))
  simp only [List.getElem_toArray, List.getElem_cons_zero, List.getElem_cons_succ, Act.put, List.setIfInBounds_toArray, List.set_cons_zero, List.set_cons_succ]
  refine wpAnyH_take (i := 4) (v := ?_) rfl (by kernel_rfl) (by kernel_rfl) (by kernel_rfl) (fun _ _ _ h => h) (Or.inl ⟨by rfl, ?_⟩) hHeld ?_
  rotate_left
  · (intro W hSw; (try dsimp only at hSw); go_simp; all_goals (with_reducible rfl))
  simp only [List.getElem_toArray, List.getElem_cons_zero, List.getElem_cons_succ, Act.put, List.setIfInBounds_toArray, List.set_cons_zero, List.set_cons_succ]
  refine wpAnyH_take (i := 7) (v := ?_) rfl (by kernel_rfl) (by kernel_rfl) (by kernel_rfl) (fun _ _ _ h => h) (Or.inl ⟨by rfl, ?_⟩) hHeld ?_
  rotate_left
  · (intro W hSw; (try dsimp only at hSw); go_simp; all_goals (with_reducible rfl))
  simp only [List.getElem_toArray, List.getElem_cons_zero, List.getElem_cons_succ, Act.put, List.setIfInBounds_toArray, List.set_cons_zero, List.set_cons_succ]
  refine wpAnyH_take (i := 8) (v := ?_) rfl (by kernel_rfl) (by kernel_rfl) (by kernel_rfl) (fun _ _ _ h => h) (Or.inl ⟨by rfl, ?_⟩) hHeld ?_
  rotate_left
  · (intro W hSw; (try dsimp only at hSw); go_simp; all_goals (with_reducible rfl))
  simp only [List.getElem_toArray, List.getElem_cons_zero, List.getElem_cons_succ, Act.put, List.setIfInBounds_toArray, List.set_cons_zero, List.set_cons_succ]
  refine wpAnyH_ready (rs := [5]) (by kernel_rfl) (by simp) ?_
  refine AllReadyH.cons rfl (fun K hK => ?_) AllReadyH.nil
  simp only [List.getElem_toArray, List.getElem_cons_zero, List.getElem_cons_succ]
  go_simp
  refine (wsmall_any U h1 h2 _).mono ?_
  rintro e x4 ⟨s, a, l, c, zs, rfl, hI, hv, hb⟩
  replace V0 := Va.after hb V0
  replace B0 := step B0 hb
  clear hb
  try go_wp2_with fail
  refine hK.out _ _ ⟨V0.c0, V0.c1⟩ (fun hHeld => ?_)
  clear hK K
  refine wpAnyH_ready (rs := [6]) (by kernel_rfl) (by simp) ?_
  refine AllReadyH.cons rfl (fun K hK => ?_) AllReadyH.nil
  simp only [List.getElem_toArray, List.getElem_cons_zero, List.getElem_cons_succ]
  go_simp
  refine (wabs_any s a l c _).mono ?_
  rintro e x5 ⟨rfl, hb⟩
  replace V0 := Va.after hb V0
  replace hI := It.after hb hI
  replace B0 := step B0 hb
  clear hb
  try go_wp2_with fail
  refine hK.out _ _ ⟨V0.c0, V0.c1⟩ (fun hHeld => ?_)
  clear hK K
  have HV : Hid (num zs = U.natAbs) := by have := hI.abs; rw [hv] at this; exact this
  refine wpAnyH_ready (rs := [9]) (by kernel_rfl) (by simp) ?_
  refine AllReadyH.cons rfl (fun K hK => ?_) AllReadyH.nil
  simp only [List.getElem_toArray, List.getElem_cons_zero, List.getElem_cons_succ]
  go_simp
  refine (written_a (decide (U < 0)) P (by omega) a l c _ (Go.Lib.decDigits U.natAbs) (by have := (dec_len (n := U.natAbs) (by omega)).2; omega) (dec_len (n := U.natAbs) (by omega)).1 (fun W hb => by have := text_dec a l c zs W (Nt.after hb hI.1) (by rw [HV.out]; omega) (hT.to (step B0 hb)); rw [show (num zs).toNat = U.natAbs by rw [HV.out]; rfl] at this; exact this)).mono ?_
  rintro e x6 ⟨rfl, hb⟩
  replace V0 := Va.after hb V0
  replace hI := It.after hb hI
  replace B0 := step B0 hb
  clear hb
  try go_wp2_with fail
  refine hK.out _ _ ⟨V0.c0, V0.c1⟩ (fun hHeld => ?_)
  clear hK K
  refine wpAnyH_take (i := 10) (v := ?_) rfl (by kernel_rfl) (by kernel_rfl) (by kernel_rfl) (fun _ _ _ h => h) (Or.inl ⟨by rfl, ?_⟩) hHeld ?_
  rotate_left
  · (intro W hSw; (try dsimp only at hSw); go_simp; all_goals (with_reducible rfl))
  simp only [List.getElem_toArray, List.getElem_cons_zero, List.getElem_cons_succ, Act.put, List.setIfInBounds_toArray, List.set_cons_zero, List.set_cons_succ]
  refine wpAnyH_take (i := 11) (v := ?_) rfl (by kernel_rfl) (by kernel_rfl) (by kernel_rfl) (fun _ _ _ h => h) (Or.inl ⟨by rfl, ?_⟩) hHeld ?_
  rotate_left
  · (intro W hSw; (try dsimp only at hSw); go_simp; all_goals (with_reducible rfl))
  simp only [List.getElem_toArray, List.getElem_cons_zero, List.getElem_cons_succ, Act.put, List.setIfInBounds_toArray, List.set_cons_zero, List.set_cons_succ]
  refine wpAnyH_done (by kernel_rfl) ?_ _
  refine NoPanic.normal ?_
  clear hHeld
  go_wp2_with fail
  go_ret2
  exact ⟨rfl, B0⟩
end Go.Proofs.YtebbblhafjaaiaaGreatDoor
namespace Go.Proofs.YtebbblhafjaaiaaGreatDoor
open Go.RowKit Go.Shelf
set_option linter.unusedVariables false

theorem aw1 : readL [45, 50, 46, 53, 48] = (-25, 1, 0, 0) := by decide
theorem aw2 : readL [53, 46, 120] = (0, 0, 2, 60) := by decide
theorem aw3 : dtx (-5) 2 = [45, 48, 46, 48, 53] := by
  unfold dtx
  rw [show Int.natAbs (-5) = 5 from rfl, Go.Lib.decDigits_one (by omega)]
  decide
set_option maxHeartbeats 4000000 in
theorem awake6 (w : World) (hT : Pt w) : Calls Tryz.prog 17 #[] w fun e W' => e = .returned (.bool true) ∧ Below w.heap.size w W' := by
  have p1 := parse_dec [45, 50, 46, 53, 48] (by decide)
  rw [aw1] at p1
  have p2 := parse_dec [53, 46, 120] (by decide)
  rw [aw2] at p2
  have HT : Hid (Pt w) := hT
  clear hT
  have B0 : Below w.heap.size w w := Below.refl _ _
  go_enter Tryz.func17, Tryz.ntmps17
  go_wp2_with fail
  refine (p1 _).mono ?_
  rintro e x1 ⟨rfl, hb⟩
  replace B0 := step B0 hb
  clear hb
  go_wp2_with fail
  refine ent1 x1 _ _ (Q := fun W => Calls Tryz.prog _ _ W _) ?_
  intro x2 hb hs_x2 V0
  replace B0 := step B0 hb
  clear hb hs_x2
  have t1 := dtext_ok (-5) 2 (by omega) (by omega) ⟨by omega, fun _ => by decide⟩ x2 (HT.out.to B0)
  rw [aw3] at t1
  refine (t1).mono ?_
  rintro e x3 ⟨rfl, hb⟩
  replace V0 := Va.after hb V0
  replace B0 := step B0 hb
  clear hb
  have c_V0 := V0.c0
  have f0_V0 := V0.frozen 0
  have d_V0 := V0.c1
  have f1_V0 := V0.frozen 1
  have l_V0 := V0.lt
  have m_V0 := Nat.le_of_lt l_V0
  go_wp2_with fail
  refine (p2 _).mono ?_
  rintro e x4 ⟨rfl, hb⟩
  replace V0 := Va.after hb V0
  replace B0 := step B0 hb
  clear hb
  clear c_V0 f0_V0 d_V0 f1_V0 l_V0 m_V0
  have c_V0 := V0.c0
  have f0_V0 := V0.frozen 0
  have d_V0 := V0.c1
  have f1_V0 := V0.frozen 1
  have l_V0 := V0.lt
  have m_V0 := Nat.le_of_lt l_V0
  go_wp2_with fail
  refine ent1 x4 _ _ (Q := fun W => Calls Tryz.prog _ _ W _) ?_
  intro x5 hb hs_x5 V1
  replace V0 := Va.after hb V0
  replace B0 := step B0 hb
  clear hb hs_x5
  refine (check_no 20 1 (fun h => h.2.2 (by omega) rfl) _).mono ?_
  rintro e x6 ⟨rfl, hb⟩
  replace V0 := Va.after hb V0
  replace V1 := Va.after hb V1
  replace B0 := step B0 hb
  clear hb
  clear c_V0 f0_V0 d_V0 f1_V0 l_V0 m_V0
  go_wp2_with fail
  go_ret
  exact ⟨rfl, B0⟩
end Go.Proofs.YtebbblhafjaaiaaGreatDoor
namespace Go.Proofs.YtebbblhafjaaiaaGreatDoor
open Go.RowKit Go.Shelf
set_option linter.unusedVariables false

/-- A normal ratio of the document's: its lists can be read and are trimmed. -/
def Rr (w : World) (s : Bool) (a : Option Addr) (l c : Nat) (zs : List Int) (b : Option Addr) (m d : Nat) (ys : List Int) (v : Rat) : Prop :=
  Sl w a l zs ∧ Sl w b m ys ∧ usedN zs = l ∧ usedN ys = m ∧ (l ≤ c ∧ m ≤ d) ∧ iv s zs = v.num ∧ num ys = v.den ∧ (s = true → num zs ≠ 0)
theorem Rr.after {w w' : World} (hb : Below w.heap.size w w') {s : Bool} {a : Option Addr} {l c : Nat} {zs : List Int} {b : Option Addr} {m d : Nat} {ys : List Int} {v : Rat} (h : Rr w s a l c zs b m d ys v) : Rr w' s a l c zs b m d ys v := ⟨h.1.below hb (Nat.le_refl _), h.2.1.below hb (Nat.le_refl _), h.2.2⟩
theorem Rr.drw {w : World} {s : Bool} {a : Option Addr} {l c : Nat} {zs : List Int} {b : Option Addr} {m d : Nat} {ys : List Int} {v : Rat} (h : Rr w s a l c zs b m d ys v) : Rr w.drew s a l c zs b m d ys v := h
theorem Rr.far {w : World} {s : Bool} {a : Option Addr} {l c : Nat} {zs : List Int} {b : Option Addr} {m d : Nat} {ys : List Int} {v : Rat} (h : Rr w s a l c zs b m d ys v) {b' : Nat} {t : TypeId} {cs : Array Value} (V : Va w b' t cs) (hn : NoInt cs) {w' : World} (k : ∀ c, c ≠ b' → w'.heap[c]? = w.heap[c]?) : Rr w' s a l c zs b m d ys v := ⟨h.1.far V hn k, h.2.1.far V hn k, h.2.2⟩
theorem div_exact {x g q r : Int} (e : x = q * g + r) (r0 : 0 ≤ r) (hr : r < g) (hd : g ∣ x) : q * g = x := by
  obtain ⟨k, hk⟩ := hd
  have e2 : r = g * (k - q) := by rw [Int.mul_sub, ← hk, e, Int.mul_comm g]; omega
  rcases Int.lt_or_le (k - q) 1 with h1 | h1
  · have := Int.mul_le_mul_of_nonneg_left (show k - q ≤ 0 by omega) (show 0 ≤ g by omega); rw [Int.mul_zero] at this; omega
  · have := Int.mul_le_mul_of_nonneg_left h1 (show 0 ≤ g by omega); rw [Int.mul_one] at this; omega
/-- What the document's Make comes to. -/
theorem make_parts {n : Bool} {z0 z1 zg qs rs : List Int} (h0 : 0 ≤ num z0) (h1 : 0 < num z1) (hg : num zg = (Int.gcd (num z0) (num z1) : Nat)) (q0 : 0 ≤ num qs) (r0 : 0 ≤ num rs)
    (e1 : num qs * num zg = num z0) (e2 : num rs * num zg = num z1) : iv (n && decide (num qs ≠ 0)) qs = (Rat.divInt (iv n z0) (num z1)).num ∧ num rs = (Rat.divInt (iv n z0) (num z1)).den := by
  have hA : num z0 = ((iv n z0).natAbs : Int) := by cases n <;> simp only [iv_t, iv_f] <;> omega
  have hB : num z1 = ((num z1).natAbs : Int) := by omega
  have hq : (num qs = 0) ↔ (num z0 = 0) := by
    constructor
    · intro h; rw [h, Int.zero_mul] at e1; exact e1.symm
    · intro h
      rw [h] at e1
      rcases Int.mul_eq_zero.1 e1 with h' | h'
      · exact h'
      · rw [h', Int.mul_zero] at e2; omega
  have hr : num rs ≠ 0 := by intro h; rw [h, Int.zero_mul] at e2; omega
  obtain ⟨p1, p2⟩ := new_parts (X := iv n z0) (Y := num z1) (X' := iv n z0) (by omega) (by rw [if_neg (by omega)]) hA hB hg e1 e2 q0 r0 (b := n && decide (num qs ≠ 0)) (by
    cases n
    · rw [iv_f]; simp; exact h0
    · rw [iv_t]
      by_cases h : num qs = 0
      · rw [hq.1 h]; simp [h]
      · have hz : ¬ num z0 = 0 := fun h' => h (hq.2 h')
        rw [Int.sign_eq_neg_one_of_neg (by omega)]; simp [h])
  refine ⟨p1, ?_⟩
  rw [← p2]; unfold dn; rw [if_neg hr]

theorem small_div {x y : Int} (hy : y ≠ 0) {z0 z1 : List Int} (e0 : num z0 = (x.natAbs : Int)) (e1 : num z1 = (y.natAbs : Int)) : Rat.divInt (iv (!(decide (x < 0) == decide (y < 0))) z0) (num z1) = Rat.divInt x y := by
  rcases Int.lt_or_le y 0 with h | h
  · have e2 : num z1 = -y := by omega
    rw [e2, ← Rat.neg_divInt_neg x y]
    congr 1
    rcases Int.lt_or_le x 0 with h' | h'
    · simp [h, h', iv_f]; omega
    · have : ¬ x < 0 := by omega
      simp [h, this, iv_t]; omega
  · have e2 : num z1 = y := by omega
    have h2 : ¬ y < 0 := by omega
    rw [e2]
    congr 1
    rcases Int.lt_or_le x 0 with h' | h'
    · simp [h2, h', iv_t]; omega
    · have : ¬ x < 0 := by omega
      simp [h2, this, iv_f]; omega
end Go.Proofs.YtebbblhafjaaiaaGreatDoor
namespace Go.Proofs.YtebbblhafjaaiaaGreatDoor
open Go.RowKit Go.Shelf
set_option linter.unusedVariables false

set_option maxHeartbeats 1000000 in
theorem sameq_any (a b : Option Addr) (la ca cb : Nat) (xs : List Int) (w : World) (ha : Sl w a la xs) (hb : Sl w b la xs) (h1 : la ≤ 40000000000000) :
    Calls Tryz.prog 55 #[.slice a la ca, .slice b la cb] w fun e w' => e = .returned (.bool true) ∧ ∃ n, w' = w.drewN n := by
  have hza := ha.1
  have g1 : ((la : Int) != la) = false := by simp
  by_cases h0 : la = 0
  · subst h0
    clear ha hb
    go_enter Tryz.func55, Tryz.ntmps55
    go_wp2_with fail
    refine wp_loop_rounds 1 ?_
    rw [rounds_succ]
    go_wp2_with fail
    go_ret
    exact ⟨rfl, 0, rfl⟩
  · obtain ⟨ba, oa, rfl, hca⟩ := ha.2.2 (by omega)
    obtain ⟨bb, ob, rfl, hcb⟩ := hb.2.2 (by omega)
    clear ha hb
    go_enter Tryz.func55, Tryz.ntmps55
    go_wp2_with fail
    go_loopw [5] (fun i wr => ∃ k : Nat, k ≤ la ∧ i = .int .i64 k ∧ ∃ q, wr = w.drewN q) (fun i _ => la - (intOf i).toNat)
    case atStart => exact ⟨0, Nat.zero_le _, rfl, 0, rfl⟩
    case round =>
      obtain ⟨k, hk, rfl, q, rfl⟩ := hrel
      by_cases hlt : k < la
      · have hcx := hca k (by omega)
        have hcy := hcb k (by omega)
        obtain ⟨x, hx⟩ : ∃ x, xs.getD k 0 = x := ⟨_, rfl⟩
        rw [hx] at hcx hcy
        clear hx
        have g2 : (x != x) = false := by simp
        go_wp2_with fail
        go_quiet (fail)
        go_wp2_with fail
        go_roundw
        case rel => exact ⟨k + 1, by omega, by go_num, q + nq, rfl⟩
        case measure => simp [intOf]; omega
      · go_wp2_with fail
        go_ret
        exact ⟨rfl, q, rfl⟩


theorem sameq_b (a b : Option Addr) (la ca cb : Nat) (xs : List Int) (w : World) (ha : Sl w a la xs) (hb : Sl w b la xs) (h1 : la ≤ 40000000000000) :
    Calls Tryz.prog 55 #[.slice a la ca, .slice b la cb] w fun e w' => e = .returned (.bool true) ∧ Below w.heap.size w w' := by
  refine (sameq_any a b la ca cb xs w ha hb h1).mono ?_
  rintro e w' ⟨rfl, n, rfl⟩
  exact ⟨rfl, below_drewN (Below.refl _ _) n⟩

set_option maxHeartbeats 4000000 in
theorem rsame5 (s : Bool) (a1 a2 b1 b2 : Option Addr) (l m c1 c2 d1 d2 : Nat) (xs ys : List Int) (w : World) (h1 : Sl w a1 l xs) (h2 : Sl w a2 l xs) (h3 : Sl w b1 m ys) (h4 : Sl w b2 m ys) (hl : l ≤ 40000000000000) (hm : m ≤ 40000000000000) :
    Calls Tryz.prog 19 #[.agg #[.bool s, .slice a1 l c1, .slice b1 m d1], .agg #[.bool s, .slice a2 l c2, .slice b2 m d2]] w fun e w' => e = .returned (.bool true) ∧ Below w.heap.size w w' := by
  have hss : (s == s) = true := by simp
  have B0 : Below w.heap.size w w := Below.refl _ _
  go_enter Tryz.func19, Tryz.ntmps19
  go_wp2_with fail
  refine ent2 w _ _ _ _ (Q := fun W => Calls Tryz.prog _ _ W _) ?_
  intro x1 hb hs_x1 V0 V1
  replace h1 := Sl.after hb h1
  replace h2 := Sl.after hb h2
  replace h3 := Sl.after hb h3
  replace h4 := Sl.after hb h4
  replace B0 := step B0 hb
  clear hb hs_x1
  refine (sameq_b a1 a2 l c1 c2 xs x1 h1 h2 hl).mono ?_
  rintro e x2 ⟨rfl, hb⟩
  replace V0 := Va.after hb V0
  replace V1 := Va.after hb V1
  replace h1 := Sl.after hb h1
  replace h2 := Sl.after hb h2
  replace h3 := Sl.after hb h3
  replace h4 := Sl.after hb h4
  replace B0 := step B0 hb
  clear hb
  have c_V0 := V0.d0
  have f0_V0 := V0.frozen 0
  have d_V0 := V0.d1
  have f1_V0 := V0.frozen 1
  have e_V0 := V0.d2
  have f2_V0 := V0.frozen 2
  have l_V0 := V0.lt
  have m_V0 := Nat.le_of_lt l_V0
  have c_V1 := V1.d0
  have f0_V1 := V1.frozen 0
  have d_V1 := V1.d1
  have f1_V1 := V1.frozen 1
  have e_V1 := V1.d2
  have f2_V1 := V1.frozen 2
  have l_V1 := V1.lt
  have m_V1 := Nat.le_of_lt l_V1
  go_wp2_with fail
  refine (sameq_b b1 b2 m d1 d2 ys x2 h3 h4 hm).mono ?_
  rintro e x3 ⟨rfl, hb⟩
  replace V0 := Va.after hb V0
  replace V1 := Va.after hb V1
  replace h1 := Sl.after hb h1
  replace h2 := Sl.after hb h2
  replace h3 := Sl.after hb h3
  replace h4 := Sl.after hb h4
  replace B0 := step B0 hb
  clear hb
  clear c_V0 f0_V0 d_V0 f1_V0 e_V0 f2_V0 l_V0 m_V0 c_V1 f0_V1 d_V1 f1_V1 e_V1 f2_V1 l_V1 m_V1
  have c_V0 := V0.d0
  have f0_V0 := V0.frozen 0
  have d_V0 := V0.d1
  have f1_V0 := V0.frozen 1
  have e_V0 := V0.d2
  have f2_V0 := V0.frozen 2
  have l_V0 := V0.lt
  have m_V0 := Nat.le_of_lt l_V0
  have c_V1 := V1.d0
  have f0_V1 := V1.frozen 0
  have d_V1 := V1.d1
  have f1_V1 := V1.frozen 1
  have e_V1 := V1.d2
  have f2_V1 := V1.frozen 2
  have l_V1 := V1.lt
  have m_V1 := Nat.le_of_lt l_V1
  go_wp2_with fail
  go_ret
  exact ⟨rfl, B0⟩
theorem trim_one {xs ys : List Int} (hx : Limbs xs) (hy : Limbs ys) (ux : usedN xs = xs.length) (uy : usedN ys = ys.length) (e : num xs = num ys) : xs = ys := by
  obtain ⟨e1, e2⟩ := one_list hx hy rfl ux e
  rw [uy, List.take_of_length_le (Nat.le_refl _)] at e2
  exact e2
/-- What Plain tells of a number is the document's ratio of it. -/
theorem rt_rr {w w' : World} {s : Bool} {a : Option Addr} {l c : Nat} {zs : List Int} {b : Option Addr} {m d : Nat} {ds : List Int} {v : Rat} {s2 : Bool} {a2 : Option Addr} {l2 c2 : Nat} {xs : List Int} {b2 : Option Addr} {m2 d2 : Nat} {es : List Int}
    (h : Rt w s a l c zs b m d ds v) (g : Rr w' s2 a2 l2 c2 xs b2 m2 d2 es v) {ys : List Int} (hy : Limbs ys ∧ usedN ys = ys.length ∧ num ys = v.den) : s2 = s ∧ l2 = l ∧ xs = zs ∧ m2 = ys.length ∧ es = ys := by
  have e1 : s = decide (v.num < 0) := by rw [← h.2.2.1]; exact h.1.sign
  have g0 : 0 ≤ num xs := num_nonneg g.1.2.1
  have e2 : s2 = decide (v.num < 0) := by
    rw [← g.2.2.2.2.2.1]
    cases s2
    · rw [iv_f]; symm; simp; omega
    · have := g.2.2.2.2.2.2.2 rfl; rw [iv_t]; symm; simp; omega
  have es' : s2 = s := by rw [e1, e2]
  subst es'
  have en : num xs = num zs := by
    have q1 := h.2.2.1
    have q2 := g.2.2.2.2.2.1
    cases s2 <;> simp only [iv_t, iv_f] at q1 q2 <;> omega
  have z1 := h.1.1.1.1
  have z2 := g.1.1
  have z3 := g.2.1.1
  have x1 := trim_one g.1.2.1 h.1.1.limbs (by rw [g.2.2.1, z2]) (by rw [h.1.1.2.1, z1]) en
  have x2 := trim_one g.2.1.2.1 hy.1 (by rw [g.2.2.2.1, z3]) hy.2.1 (by rw [g.2.2.2.2.2.2.1, hy.2.2])
  exact ⟨rfl, by rw [← z2, ← z1, x1], x1, by rw [← z3, x2], x2⟩
theorem Ow.sl {w : World} {g : Nat} {cs : List Int} (h : Ow w g cs) (hL : Limbs cs) {n : Nat} (hn : cs.length = n) : Sl w (some ⟨g, 0, none⟩) n cs := by subst hn; exact Own.sl h hL
theorem len_4096 {zs : List Int} {w : World} {a : Option Addr} {l c : Nat} (h : Nt w a l c zs) : l ≤ 4096 := h.2.2.2
theorem den_4096 {ys : List Int} {v : Rat} (hv : Short v) (hy : Limbs ys ∧ usedN ys = ys.length ∧ num ys = v.den) : ys.length ≤ 1024 := by
  have := used_of_lt hy.1 (n := 1024) (by rw [hy.2.2]; exact hv.2)
  omega
end Go.Proofs.YtebbblhafjaaiaaGreatDoor
namespace Go.Proofs.YtebbblhafjaaiaaGreatDoor
open Go.RowKit Go.Shelf
set_option linter.unusedVariables false
/-- Two plain forms of one number. -/
theorem same_two (s : Bool) (l : Nat) (zs : List Int) (v : Rat) (g h g2 h2 : Nat) (ys ys2 : List Int) (w : World) (hl : l ≤ 4096) (hz : zs.length = l) (hL : Limbs zs) (hv : Short v) (hg : Ow w g zs) (hh : Ow w h ys) (hg2 : Ow w g2 zs) (hh2 : Ow w h2 ys2) (hy : Limbs ys ∧ usedN ys = ys.length ∧ num ys = v.den) (hy2 : Limbs ys2 ∧ usedN ys2 = ys2.length ∧ num ys2 = v.den) :
    Calls Tryz.prog 19 #[.agg #[.bool s, .slice (some ⟨g, 0, none⟩) l l, .slice (some ⟨h, 0, none⟩) ys.length ys.length], .agg #[.bool s, .slice (some ⟨g2, 0, none⟩) l l, .slice (some ⟨h2, 0, none⟩) ys2.length ys2.length]] w fun e w' => e = .returned (.bool true) ∧ Below w.heap.size w w' := by
  have hm := den_4096 hv hy
  obtain rfl := trim_one hy.1 hy2.1 hy.2.1 hy2.2.1 (by rw [hy.2.2, hy2.2.2])
  exact rsame5 s (some ⟨g, 0, none⟩) (some ⟨g2, 0, none⟩) (some ⟨h, 0, none⟩) (some ⟨h2, 0, none⟩) l ys.length l l ys.length ys.length zs ys w (hg.sl hL hz) (hg2.sl hL hz) (hh.sl hy.1 rfl) (hh2.sl hy.1 rfl) (by omega) (by omega)
set_option maxHeartbeats 4000000 in
set_option maxRecDepth 8000 in
theorem dofs_walk (neg : Bool) (a0 a1 : Option Addr) (l0 k0 l1 k1 : Nat) (z0 z1 : List Int) (w : World) (h0 : Sl w a0 l0 z0) (h1 : Sl w a1 l1 z1) (c0 : l0 ≤ k0) (c1 : l1 ≤ k1) (t0 : l0 ≤ 17592186044416) (t1 : l1 ≤ 17592186044416) (hP : Pt w) (hT : Tn w) :
    Calls Tryz.prog 5 #[.agg #[.bool neg, .slice a0 l0 k0, .slice a1 l1 k1]] w fun e w' => e = .returned (.bool true) ∧ Below w.heap.size w w' := by
  have HP : Hid (Pt w) := hP
  have HT : Hid (Tn w) := hT
  clear hP hT
  have B0 : Below w.heap.size w w := Below.refl _ _
  go_enter Tryz.func5, Tryz.ntmps5
  go_wp2_with fail
  refine ent1 w _ _ (Q := fun W => Calls Tryz.prog _ _ W _) ?_
  intro x1 hb hs_x1 V1
  replace h0 := Sl.after hb h0
  replace h1 := Sl.after hb h1
  replace B0 := step B0 hb
  clear hb hs_x1
  refine (ratio6 neg a0 a1 l0 k0 l1 k1 z0 z1 _ h0 h1 c0 c1 t0 t1).mono ?_
  rintro e x2 ⟨hR, hb⟩
  replace V1 := Va.after hb V1
  replace h0 := Sl.after hb h0
  replace h1 := Sl.after hb h1
  replace B0 := step B0 hb
  clear hb
  rcases hR with ⟨hno, rfl⟩ | ⟨hok, s, a, l, c, zs, b, m, d, ds, v, an, ln, cn, xs, ad, ld, cd, ys, rfl, hr, hx, hy, hxc, hyc, hx1, hy1, hy0, hv⟩
  · obtain ⟨un, hun⟩ : ∃ un, usedN z0 = un := ⟨_, rfl⟩
    obtain ⟨ud, hud⟩ : ∃ ud, usedN z1 = ud := ⟨_, rfl⟩
    rw [hun, hud] at hno
    have HU : Hid (usedN z0 = un ∧ usedN z1 = ud) := ⟨hun, hud⟩
    clear hun hud
    have c_V1 := V1.d0
    have f0_V1 := V1.frozen 0
    have d_V1 := V1.d1
    have f1_V1 := V1.frozen 1
    have e_V1 := V1.d2
    have f2_V1 := V1.frozen 2
    have l_V1 := V1.lt
    have m_V1 := Nat.le_of_lt l_V1
    go_wp2_with fail
    refine ent2 x2 _ _ _ _ (Q := fun W => Calls Tryz.prog _ _ W _) ?_
    intro x3 hb hs3 VA VB
    replace V1 := Va.after hb V1
    replace h0 := Sl.after hb h0
    replace h1 := Sl.after hb h1
    replace B0 := step B0 hb
    clear hb hs3 VA VB
    clear c_V1 f0_V1 d_V1 f1_V1 e_V1 f2_V1 l_V1 m_V1
    have tr := rtrim_m a1 l1 k1 z1 x3 h1 t1 c1
    rw [HU.out.2] at tr
    refine tr.mono ?_
    rintro e x4 ⟨a5, c5, rfl, -, -, hb⟩
    replace V1 := Va.after hb V1
    replace h0 := Sl.after hb h0
    replace h1 := Sl.after hb h1
    replace B0 := step B0 hb
    clear hb tr
    by_cases g0 : ud = 0
    · subst g0
      have c_V1 := V1.d0
      have f0_V1 := V1.frozen 0
      have d_V1 := V1.d1
      have f1_V1 := V1.frozen 1
      have e_V1 := V1.d2
      have f2_V1 := V1.frozen 2
      have l_V1 := V1.lt
      have m_V1 := Nat.le_of_lt l_V1
      go_wp2_with fail
      go_ret
      exact ⟨rfl, B0⟩
    have g0i : ¬ (ud : Int) = 0 := by omega
    have g0b : ((ud : Int) == 0) = false := by simp; omega
    have c_V1 := V1.d0
    have f0_V1 := V1.frozen 0
    have d_V1 := V1.d1
    have f1_V1 := V1.frozen 1
    have e_V1 := V1.d2
    have f2_V1 := V1.frozen 2
    have l_V1 := V1.lt
    have m_V1 := Nat.le_of_lt l_V1
    go_wp2_with fail
    clear c_V1 f0_V1 d_V1 f1_V1 e_V1 f2_V1 l_V1 m_V1
    have tr := rtrim_m a0 l0 k0 z0 x4 h0 t0 c0
    rw [HU.out.1] at tr
    refine tr.mono ?_
    rintro e x5 ⟨a5, c5, rfl, -, -, hb⟩
    replace V1 := Va.after hb V1
    replace h0 := Sl.after hb h0
    replace h1 := Sl.after hb h1
    replace B0 := step B0 hb
    clear hb tr
    by_cases g1 : 1024 < un
    · have g1i : (1024 : Int) < un := by omega
      have g1n : decide (1024 < un) = true := decide_eq_true g1
      have c_V1 := V1.d0
      have f0_V1 := V1.frozen 0
      have d_V1 := V1.d1
      have f1_V1 := V1.frozen 1
      have e_V1 := V1.d2
      have f2_V1 := V1.frozen 2
      have l_V1 := V1.lt
      have m_V1 := Nat.le_of_lt l_V1
      go_wp2_with fail
      go_ret
      exact ⟨rfl, B0⟩
    have g1i : ¬ (1024 : Int) < un := by omega
    have g1n : decide (1024 < un) = false := decide_eq_false g1
    have c_V1 := V1.d0
    have f0_V1 := V1.frozen 0
    have d_V1 := V1.d1
    have f1_V1 := V1.frozen 1
    have e_V1 := V1.d2
    have f2_V1 := V1.frozen 2
    have l_V1 := V1.lt
    have m_V1 := Nat.le_of_lt l_V1
    go_wp2_with fail
    clear c_V1 f0_V1 d_V1 f1_V1 e_V1 f2_V1 l_V1 m_V1
    have tr := rtrim_m a1 l1 k1 z1 x5 h1 t1 c1
    rw [HU.out.2] at tr
    refine tr.mono ?_
    rintro e x6 ⟨a5, c5, rfl, -, -, hb⟩
    replace V1 := Va.after hb V1
    replace h0 := Sl.after hb h0
    replace h1 := Sl.after hb h1
    replace B0 := step B0 hb
    clear hb tr
    have g2 : 1024 < ud := by omega
    have g2i : (1024 : Int) < ud := by omega
    have g2n : decide (1024 < ud) = true := decide_eq_true g2
    go_wp2_with fail
    go_ret
    exact ⟨rfl, B0⟩
  · clear h0 h1 V1
    have HV : Hid (v = Rat.divInt (iv neg xs) (num ys) ∧ num ys ≠ 0) := ⟨hv, hy0⟩
    have HXY : Hid (ln ≤ 1024 ∧ ld ≤ 1024) := ⟨by omega, by omega⟩
    obtain ⟨D1, D2, E, hD⟩ : ∃ D1 D2 E : Int, ofR v = (D1, D2.toNat, E) ∧ 0 ≤ D2 := ⟨(ofR v).1, ((ofR v).2.1 : Int), (ofR v).2.2, by simp, by omega⟩
    have HR1 : Hid (∀ W, Rt W s a l c zs b m d ds v → Tn W → Calls Tryz.prog 26 #[.agg #[.bool s, .slice a l c, .slice b m d]] W fun e W' => e = .returned (.tuple #[.agg #[.int .i64 D1, .int .i64 D2], .int .i64 E]) ∧ Below W.heap.size W W') := fun W h1 h2 => by have := of_dec s a l c zs b m d ds v W h1 h2; rw [hD.1] at this; simpa [Int.toNat_of_nonneg hD.2] using this
    have HR2 : Hid (∀ W, Sl W an ln xs → Sl W ad ld ys → Calls Tryz.prog 25 #[.agg #[.bool neg, .slice an ln cn, .slice ad ld cd]] W fun e W' => e = .returned (.tuple #[.agg #[.int .i64 D1, .int .i64 D2], .int .i64 E]) ∧ Below W.heap.size W W') := fun W h1 h2 => by have := rof6 neg an ad ln cn ld cd xs ys v W h1 h2 hxc hyc (by omega) (by omega) hy0 hv; rw [hD.1] at this; simpa [Int.toNat_of_nonneg hD.2] using this
    clear hv hy0 hok hD hx1 hy1 hxc hyc
    have b1 : (D1 == D1) = true := beq_self_eq_true _
    have b2 : (D2 == D2) = true := beq_self_eq_true _
    have b3 : (E == E) = true := beq_self_eq_true _
    go_wp2_with fail
    refine ent2 x2 _ _ _ _ (Q := fun W => Calls Tryz.prog _ _ W _) ?_
    intro x3 hb hs3 VR VP
    replace hr := Rt.after hb hr
    replace hx := Sl.after hb hx
    replace hy := Sl.after hb hy
    replace B0 := step B0 hb
    clear hb hs3
    refine (HR2.out _ hx hy).mono ?_
    rintro e x4 ⟨rfl, hb⟩
    replace VR := Va.after hb VR
    replace hr := Rt.after hb hr
    replace B0 := step B0 hb
    clear hb hx hy VP HR2
    have c_VR := VR.d0
    have f0_VR := VR.frozen 0
    have d_VR := VR.d1
    have f1_VR := VR.frozen 1
    have e_VR := VR.d2
    have f2_VR := VR.frozen 2
    have l_VR := VR.lt
    have m_VR := Nat.le_of_lt l_VR
    go_wp2_with fail
    clear c_VR f0_VR d_VR f1_VR e_VR f2_VR l_VR m_VR
    refine ent1 x4 _ _ (Q := fun W => Calls Tryz.prog _ _ W _) ?_
    intro x5 hb hs5 VW
    replace VR := Va.after hb VR
    replace hr := Rt.after hb hr
    replace B0 := step B0 hb
    clear hb hs5
    refine (qplain_any s a l c zs b m d ds v _ hr).mono ?_
    rintro e x6 ⟨g1, q1, y1, rfl, hg1, hq1, -, hy1, hb⟩
    replace VR := Va.after hb VR
    replace VW := Va.after hb VW
    replace hr := Rt.after hb hr
    replace B0 := step B0 hb
    clear hb
    have c_VR := VR.d0
    have f0_VR := VR.frozen 0
    have d_VR := VR.d1
    have f1_VR := VR.frozen 1
    have e_VR := VR.d2
    have f2_VR := VR.frozen 2
    have l_VR := VR.lt
    have m_VR := Nat.le_of_lt l_VR
    go_wp2_with fail
    clear c_VR f0_VR d_VR f1_VR e_VR f2_VR l_VR m_VR
    refine ent1 x6 _ _ (Q := fun W => Calls Tryz.prog _ _ W _) ?_
    intro x7 hb hs7 VS
    replace VR := Va.after hb VR
    replace VW := Va.after hb VW
    replace hr := Rt.after hb hr
    replace hg1 := Ow.after hb hg1
    replace hq1 := Ow.after hb hq1
    replace B0 := step B0 hb
    clear hb hs7
    refine (HR1.out _ hr (HT.out.to B0)).mono ?_
    rintro e x8 ⟨rfl, hb⟩
    replace VR := Va.after hb VR
    replace VW := Va.after hb VW
    replace VS := Va.after hb VS
    replace hr := Rt.after hb hr
    replace hg1 := Ow.after hb hg1
    replace hq1 := Ow.after hb hq1
    replace B0 := step B0 hb
    clear hb HR1
    go_wp2_with fail
    refine ent1 x8 _ _ (Q := fun W => Code.wp Tryz.prog _ _ _ W) ?_
    intro x9 hb hs9 VD
    replace VR := Va.after hb VR
    replace VW := Va.after hb VW
    replace VS := Va.after hb VS
    replace hr := Rt.after hb hr
    replace hg1 := Ow.after hb hg1
    replace hq1 := Ow.after hb hq1
    replace B0 := step B0 hb
    clear hb hs9
    refine wp_region_noPanic ?_
    replace VR : Va x9.drew _ _ _ := VR
    replace VW : Va x9.drew _ _ _ := VW
    replace VS : Va x9.drew _ _ _ := VS
    replace VD : Va x9.drew _ _ _ := VD
    replace B0 := Below.drew B0
    refine wp_region_held_drew (S := (fun W => (W.cell? ⟨x4.heap.size, 0, none⟩ = some (.int .i64 D1) ∧ W.cell? ⟨x4.heap.size, 1, none⟩ = some (.int .i64 D2)) ∧ (W.cell? ⟨x8.heap.size, 0, none⟩ = some (.int .i64 D1) ∧ W.cell? ⟨x8.heap.size, 1, none⟩ = some (.int .i64 D2)) ∧ (W.cell? ⟨x2.heap.size, 0, none⟩ = some (.bool s) ∧ W.cell? ⟨x2.heap.size, 1, none⟩ = some (.slice a l c) ∧ W.cell? ⟨x2.heap.size, 2, none⟩ = some (.slice b m d)) ∧ (W.cell? ⟨x6.heap.size, 0, none⟩ = some (.bool s) ∧ W.cell? ⟨x6.heap.size, 1, none⟩ = some (.slice (some ⟨g1, 0, none⟩) l l) ∧ W.cell? ⟨x6.heap.size, 2, none⟩ = some (.slice (some ⟨q1, 0, none⟩) y1.length y1.length)))) (by kernel_rfl) ⟨⟨VW.c0, VW.c1⟩, ⟨VD.c0, VD.c1⟩, ⟨VR.d0, VR.d1, VR.d2⟩, ⟨VS.d0, VS.d1, VS.d2⟩⟩ (fun hHeld => ?_)
    obtain ⟨x10, hxd⟩ : ∃ xd, xd = x9.drew := ⟨_, rfl⟩
    rw [← hxd] at VR VW VS VD B0 hHeld ⊢
    replace hr : Rt x10 s a l c zs b m d ds v := by rw [hxd]; exact hr
    replace hg1 : Ow x10 g1 zs := by rw [hxd]; exact hg1
    replace hq1 : Ow x10 q1 y1 := by rw [hxd]; exact hq1
    clear hxd
    refine wpAnyH_take (i := 0) (v := ?_) rfl (by kernel_rfl) (by kernel_rfl) (by kernel_rfl) (fun _ _ _ h => h) (Or.inl ⟨by rfl, ?_⟩) hHeld ?_
    rotate_left
    · (intro W hSw; (try dsimp only at hSw); go_simp; all_goals (with_reducible rfl))
    simp only [List.getElem_toArray, List.getElem_cons_zero, Act.put, List.setIfInBounds_toArray, List.set_cons_zero, List.set_cons_succ]
    refine wpAnyH_take (i := 1) (v := ?_) rfl (by kernel_rfl) (by kernel_rfl) (by kernel_rfl) (fun _ _ _ h => h) (Or.inl ⟨by rfl, ?_⟩) hHeld ?_
    rotate_left
    · (intro W hSw; (try dsimp only at hSw); go_simp; all_goals (with_reducible rfl))
    simp only [List.getElem_toArray, List.getElem_cons_zero, List.getElem_cons_succ, Act.put, List.setIfInBounds_toArray, List.set_cons_zero, List.set_cons_succ]
    refine wpAnyH_take (i := 2) (v := ?_) rfl (by kernel_rfl) (by kernel_rfl) (by kernel_rfl) (fun _ _ _ h => h) (Or.inl ⟨by rfl, ?_⟩) hHeld ?_
    rotate_left
    · (intro W hSw; (try dsimp only at hSw); go_simp; all_goals (with_reducible rfl))
    simp only [List.getElem_toArray, List.getElem_cons_zero, List.getElem_cons_succ, Act.put, List.setIfInBounds_toArray, List.set_cons_zero, List.set_cons_succ]
    refine wpAnyH_take (i := 3) (v := ?_) rfl (by kernel_rfl) (by kernel_rfl) (by kernel_rfl) (fun _ _ _ h => h) (Or.inl ⟨by rfl, ?_⟩) hHeld ?_
    rotate_left
    · (intro W hSw; (try dsimp only at hSw); go_simp; all_goals (with_reducible rfl))
    simp only [List.getElem_toArray, List.getElem_cons_zero, List.getElem_cons_succ, Act.put, List.setIfInBounds_toArray, List.set_cons_zero, List.set_cons_succ]
    refine wpAnyH_take (i := 4) (v := ?_) rfl (by kernel_rfl) (by kernel_rfl) (by kernel_rfl) (fun _ _ _ h => h) (Or.inl ⟨by rfl, ?_⟩) hHeld ?_
    rotate_left
    · (intro W hSw; (try dsimp only at hSw); go_simp; all_goals (with_reducible rfl))
    simp only [List.getElem_toArray, List.getElem_cons_zero, List.getElem_cons_succ, Act.put, List.setIfInBounds_toArray, List.set_cons_zero, List.set_cons_succ]
    refine wpAnyH_take (i := 5) (v := ?_) rfl (by kernel_rfl) (by kernel_rfl) (by kernel_rfl) (fun _ _ _ h => h) (Or.inl ⟨by rfl, ?_⟩) hHeld ?_
    rotate_left
    · (intro W hSw; (try dsimp only at hSw); go_simp; all_goals (with_reducible rfl))
    simp only [List.getElem_toArray, List.getElem_cons_zero, List.getElem_cons_succ, Act.put, List.setIfInBounds_toArray, List.set_cons_zero, List.set_cons_succ]
    refine wpAnyH_take (i := 6) (v := ?_) rfl (by kernel_rfl) (by kernel_rfl) (by kernel_rfl) (fun _ _ _ h => h) (Or.inl ⟨by rfl, ?_⟩) hHeld ?_
    rotate_left
    · (intro W hSw; (try dsimp only at hSw); go_simp; all_goals (with_reducible rfl))
    simp only [List.getElem_toArray, List.getElem_cons_zero, List.getElem_cons_succ, Act.put, List.setIfInBounds_toArray, List.set_cons_zero, List.set_cons_succ]
    refine wpAnyH_take (i := 7) (v := ?_) rfl (by kernel_rfl) (by kernel_rfl) (by kernel_rfl) (fun _ _ _ h => h) (Or.inl ⟨by rfl, ?_⟩) hHeld ?_
    rotate_left
    · (intro W hSw; (try dsimp only at hSw); go_simp; all_goals (with_reducible rfl))
    simp only [List.getElem_toArray, List.getElem_cons_zero, List.getElem_cons_succ, Act.put, List.setIfInBounds_toArray, List.set_cons_zero, List.set_cons_succ]
    refine wpAnyH_take (i := 8) (v := ?_) rfl (by kernel_rfl) (by kernel_rfl) (by kernel_rfl) (fun _ _ _ h => h) (Or.inl ⟨by rfl, ?_⟩) hHeld ?_
    rotate_left
    · (intro W hSw; (try dsimp only at hSw); go_simp; all_goals (with_reducible rfl))
    simp only [List.getElem_toArray, List.getElem_cons_zero, List.getElem_cons_succ, Act.put, List.setIfInBounds_toArray, List.set_cons_zero, List.set_cons_succ]
    refine wpAnyH_take (i := 9) (v := ?_) rfl (by kernel_rfl) (by kernel_rfl) (by kernel_rfl) (fun _ _ _ h => h) (Or.inl ⟨by rfl, ?_⟩) hHeld ?_
    rotate_left
    · (intro W hSw; (try dsimp only at hSw); go_simp; all_goals (with_reducible rfl))
    simp only [List.getElem_toArray, List.getElem_cons_zero, List.getElem_cons_succ, Act.put, List.setIfInBounds_toArray, List.set_cons_zero, List.set_cons_succ]
    refine wpAnyH_take (i := 11) (v := ?_) rfl (by kernel_rfl) (by kernel_rfl) (by kernel_rfl) (fun _ _ _ h => h) (Or.inl ⟨by rfl, ?_⟩) hHeld ?_
    rotate_left
    · (intro W hSw; (try dsimp only at hSw); go_simp; all_goals (with_reducible rfl))
    simp only [List.getElem_toArray, List.getElem_cons_zero, List.getElem_cons_succ, Act.put, List.setIfInBounds_toArray, List.set_cons_zero, List.set_cons_succ]
    refine wpAnyH_ready (rs := [10]) (by kernel_rfl) (by simp) ?_
    refine AllReadyH.cons rfl (fun K hK => ?_) AllReadyH.nil
    simp only [List.getElem_toArray, List.getElem_cons_zero, List.getElem_cons_succ]
    go_simp
    refine (qplain_any s a l c zs b m d ds v _ hr).mono ?_
    rintro e x11 ⟨g2, q2, y2, rfl, hg2, hq2, -, hy2, hb⟩
    replace VR := Va.after hb VR
    replace VW := Va.after hb VW
    replace VS := Va.after hb VS
    replace VD := Va.after hb VD
    replace B0 := step B0 hb
    replace hr := Rt.after hb hr
    replace hg1 := Ow.after hb hg1
    replace hq1 := Ow.after hb hq1
    clear hb
    try go_wp2_with fail
    refine hK.out _ _ ⟨⟨VW.c0, VW.c1⟩, ⟨VD.c0, VD.c1⟩, ⟨VR.d0, VR.d1, VR.d2⟩, ⟨VS.d0, VS.d1, VS.d2⟩⟩ (fun hHeld => ?_)
    clear hK K
    refine wpAnyH_ready (rs := [12]) (by kernel_rfl) (by simp) ?_
    refine AllReadyH.cons rfl (fun K hK => ?_) AllReadyH.nil
    simp only [List.getElem_toArray, List.getElem_cons_zero, List.getElem_cons_succ]
    go_simp
    refine (same_two s l zs v g2 q2 g1 q1 y2 y1 _ (len_4096 hr.1.1) hr.1.1.1.1 hr.1.1.limbs hr.2.2.2.2 hg2 hq2 hg1 hq1 hy2.out hy1.out).mono ?_
    rintro e x12 ⟨rfl, hb⟩
    replace VR := Va.after hb VR
    replace VW := Va.after hb VW
    replace VS := Va.after hb VS
    replace VD := Va.after hb VD
    replace B0 := step B0 hb
    clear hb
    try go_wp2_with fail
    refine hK.out _ _ ⟨⟨VW.c0, VW.c1⟩, ⟨VD.c0, VD.c1⟩, ⟨VR.d0, VR.d1, VR.d2⟩, ⟨VS.d0, VS.d1, VS.d2⟩⟩ (fun hHeld => ?_)
    clear hK K
    refine wpAnyH_take (i := 13) (v := ?_) rfl (by kernel_rfl) (by kernel_rfl) (by kernel_rfl) (fun _ _ _ h => h) (Or.inl ⟨by rfl, ?_⟩) hHeld ?_
    rotate_left
    · (intro W hSw; (try dsimp only at hSw); go_simp; all_goals (with_reducible rfl))
    simp only [List.getElem_toArray, List.getElem_cons_zero, List.getElem_cons_succ, Act.put, List.setIfInBounds_toArray, List.set_cons_zero, List.set_cons_succ]
    refine wpAnyH_take (i := 14) (v := ?_) rfl (by kernel_rfl) (by kernel_rfl) (by kernel_rfl) (fun _ _ _ h => h) (Or.inl ⟨by rfl, ?_⟩) hHeld ?_
    rotate_left
    · (intro W hSw; (try dsimp only at hSw); go_simp; all_goals (with_reducible rfl))
    simp only [List.getElem_toArray, List.getElem_cons_zero, List.getElem_cons_succ, Act.put, List.setIfInBounds_toArray, List.set_cons_zero, List.set_cons_succ]
    refine wpAnyH_ready (rs := [15]) (by kernel_rfl) (by simp) ?_
    refine AllReadyH.cons rfl (fun K hK => ?_) AllReadyH.nil
    simp only [List.getElem_toArray, List.getElem_cons_zero, List.getElem_cons_succ]
    go_simp
    refine (awake6 _ (HP.out.to B0)).mono ?_
    rintro e x13 ⟨rfl, hb⟩
    replace VR := Va.after hb VR
    replace VW := Va.after hb VW
    replace VS := Va.after hb VS
    replace VD := Va.after hb VD
    replace B0 := step B0 hb
    clear hb
    try go_wp2_with fail
    refine hK.out _ _ ⟨⟨VW.c0, VW.c1⟩, ⟨VD.c0, VD.c1⟩, ⟨VR.d0, VR.d1, VR.d2⟩, ⟨VS.d0, VS.d1, VS.d2⟩⟩ (fun hHeld => ?_)
    clear hK K
    refine wpAnyH_take (i := 16) (v := ?_) rfl (by kernel_rfl) (by kernel_rfl) (by kernel_rfl) (fun _ _ _ h => h) (Or.inl ⟨by rfl, ?_⟩) hHeld ?_
    rotate_left
    · (intro W hSw; (try dsimp only at hSw); go_simp; all_goals (with_reducible rfl))
    simp only [List.getElem_toArray, List.getElem_cons_zero, List.getElem_cons_succ, Act.put, List.setIfInBounds_toArray, List.set_cons_zero, List.set_cons_succ]
    refine wpAnyH_take (i := 17) (v := ?_) rfl (by kernel_rfl) (by kernel_rfl) (by kernel_rfl) (fun _ _ _ h => h) (Or.inl ⟨by rfl, ?_⟩) hHeld ?_
    rotate_left
    · (intro W hSw; (try dsimp only at hSw); go_simp; all_goals (with_reducible rfl))
    simp only [List.getElem_toArray, List.getElem_cons_zero, List.getElem_cons_succ, Act.put, List.setIfInBounds_toArray, List.set_cons_zero, List.set_cons_succ]
    refine wpAnyH_done (by kernel_rfl) ?_ _
    refine NoPanic.normal ?_
    clear hHeld
    go_wp2_with fail
    go_ret
    exact ⟨rfl, B0⟩
end Go.Proofs.YtebbblhafjaaiaaGreatDoor
namespace Go.Proofs.YtebbblhafjaaiaaGreatDoor
open Go.RowKit Go.Shelf
set_option linter.unusedVariables false

theorem gPow : Tryz.prog.globalNamed "internal/strconv.uint64pow10" = some 7 := by kernel_rfl
theorem gPowT : (Tryz.prog.globals[7]?).map (·.type) = some 267 := by kernel_rfl
theorem cPow : Tryz.prog.cellsOf 267 = 20 := by kernel_rfl
theorem cU64 : Tryz.prog.cellsOf 94 = 1 := by kernel_rfl
theorem ptOf {W : World} {rest : List (String × DataW Unit)} (h : laidMet Tryz.prog (("internal/strconv.uint64pow10", Rows.laid_internal_strconv_uint64pow10) :: rest) W) : Pt W :=
  Go.Lib.tabIs_of_head (zs := Go.Lib.pow10Tab) gPow gPowT Tryz.underlying267 Tryz.underlying94 cU64 cPow h
end Go.Proofs.YtebbblhafjaaiaaGreatDoor
namespace Go.Proofs.YtebbblhafjaaiaaGreatDoor
open Go.RowKit Go.Shelf
set_option linter.unusedVariables false

theorem gTens : Tryz.prog.globalNamed "tollbook/decimal.tens" = some 0 := by kernel_rfl
theorem gTensT : (Tryz.prog.globals[0]?).map (·.type) = some 101 := by kernel_rfl
theorem cTens : Tryz.prog.cellsOf 101 = 10 := by kernel_rfl
theorem cI64 : Tryz.prog.cellsOf 2 = 1 := by kernel_rfl
theorem tnOf {W : World} {rest : List (String × DataW Unit)} (h : laidMet Tryz.prog (("tollbook/decimal.tens", Rows.laid_tollbook_decimal_tens) :: rest) W) : Tn W :=
  Go.Lib.tabIs_of_head (zs := [1, 10, 100, 1000, 10000, 100000, 1000000, 10000000, 100000000, 1000000000]) gTens gTensT Tryz.underlying101 Tryz.underlying2 cI64 cTens h
end Go.Proofs.YtebbblhafjaaiaaGreatDoor
namespace Go.Proofs.YtebbblhafjaaiaaGreatDoor
set_option linter.unusedVariables false
theorem decimalOfs_walk0 (n0 : Bool) (a0 : Option Addr) (len0 cap0 : Nat) (z0 : List Int) (ab0 : Option Addr) (lenb0 capb0 : Nat) (zb0 : List Int) (W : World) (s0 : Sl W a0 len0 z0) (sb0 : Sl W ab0 lenb0 zb0) (c0 : len0 ≤ cap0) (cb0 : lenb0 ≤ capb0) (b0 : cap0 ≤ 17592186043904) (bb0 : capb0 ≤ 17592186043904) (hP : Pt W) (hT : Tn W) :
    Calls Tryz.prog 5 #[.agg #[.bool n0, .slice a0 len0 cap0, .slice ab0 lenb0 capb0]] W fun e W' => e = .returned (.bool true) ∧ Go.RowKit.Below W.heap.size W W' :=
  dofs_walk n0 a0 ab0 len0 cap0 lenb0 capb0 z0 zb0 W s0 sb0 c0 cb0 (by omega) (by omega) hP hT
end Go.Proofs.YtebbblhafjaaiaaGreatDoor
namespace Go.Proofs.YtebbblhafjaaiaaGreatDoor.decimalOfs
open Go.ChangeShapes Go.WideShapes Go.ChangeAt Go.RowKit
set_option linter.unusedVariables false

theorem own : ownKnob Tryz.prog.godebug = none := by kernel_rfl
theorem laidOut : laidOutB Tryz.prog = true := by kernel_rfl
theorem bytes8 : Tryz.prog.bytesOf 94 = 8 := by kernel_rfl

set_option maxRecDepth 100000 in
theorem contract (H : Type) (enc : TypeId × Value → H) (W : World) (base : Nat) (args : Array Value) (ds gs : List (DataW H)) (before : List MemPlace)
    (hval : ∀ (j : Nat) t v, Tryz.f5.params[j]? = some t → args[j]? = some v → Value.okWide Tryz.prog W .any base t v)
    (hW : DataW.Whole enc Tryz.prog Tryz.f5.params.toList Rows.decimalOfsSpec.vars false W args.toList ds gs before) (hsz : (DataW.weightsEach Tryz.prog (Tryz.f5.params.toList ++ Rows.decimalOfsSpec.plain.varTypes Tryz.prog) (ds ++ gs)).all (· ≤ reachBytes) = true) (hL0 : laidMetH Tryz.prog Rows.decimalOfsRow.laid W) :
    Calls Tryz.prog 5 args W fun e W' => ∃ v, e = .returned v ∧ Rows.decimalOfsSpec.post enc Tryz.prog Tryz.f5 false true false false W args v W' := by
  rw [MakeChecks.laidMetH_plain _ _ _ (by kernel_rfl)] at hL0
  have tb0 := by first | exact ptOf hL0 | exact ptOf hL0.tail | exact ptOf hL0.tail.tail | exact ptOf hL0.tail.tail.tail | exact ptOf hL0.tail.tail.tail.tail | exact ptOf hL0.tail.tail.tail.tail.tail | exact ptOf hL0.tail.tail.tail.tail.tail.tail | exact ptOf hL0.tail.tail.tail.tail.tail.tail.tail
  have tb1 := by first | exact tnOf hL0 | exact tnOf hL0.tail | exact tnOf hL0.tail.tail | exact tnOf hL0.tail.tail.tail | exact tnOf hL0.tail.tail.tail.tail | exact tnOf hL0.tail.tail.tail.tail.tail | exact tnOf hL0.tail.tail.tail.tail.tail.tail | exact tnOf hL0.tail.tail.tail.tail.tail.tail.tail
  have hW' := hW
  obtain ⟨p, q, hA0, hV, rfl, hfz, hnd⟩ := hW
  have hA : DataW.TrodAll enc Tryz.prog W 0 (fun _ => true) true Tryz.f5.params.toList args.toList ds p := hA0
  rw [Tryz.params5] at hA hval hsz
  obtain ⟨v0, vs0, d0, ds0, p0, q0, hargs, rfl, rfl, h0, r0⟩ := trodAll_cons hA
  obtain ⟨rfl, rfl, rfl⟩ := trodAll_nil r0
  obtain rfl : args = #[v0] := by cases args; simp_all
  obtain ⟨rfl, rfl⟩ := trodVars_none hV
  have k0 := h0
  have lt0 : ∀ x ∈ p0, x.block < W.heap.size := by obtain ⟨m, hm⟩ := k0; exact DataW.trod_lt m _ _ _ hm
  obtain ⟨u0, x0, t0, y00, y01, y02, m0, rfl, rfl, rfl, hy00, hy01, hy02⟩ := Go.Joins.open_agg3 Tryz.underlying58 (by kernel_rfl) (by kernel_rfl) (hval 0 58 v0 rfl rfl) h0
  obtain ⟨n0, hn0, -⟩ := DataW.trod_bool Tryz.underlying4 hy00
  obtain rfl : u0 = .bool n0 := by simpa using hn0
  obtain ⟨a0, len0, cap0, z0, hv0, s0, c0, e0, b0⟩ : ∃ a len cap zs, x0 = .slice a len cap ∧ Sl W a len zs ∧ len ≤ cap ∧ (a = Option.none → len = 0 ∧ cap = 0) ∧ cap ≤ 17592186043904 := by
    rcases open_ints Tryz.underlying35 Tryz.underlying94 (by kernel_rfl) hy01 with ⟨hcs, _⟩ | ⟨x, l, c, zs, hcs, _, hl, hm, hz, hx, hcell, hwz⟩
    · exact ⟨Option.none, 0, 0, [], by simpa using hcs, ⟨rfl, Limbs.nil, fun h => absurd h (by decide)⟩, Nat.le_refl _, fun _ => ⟨rfl, rfl⟩, by decide⟩
    · have hz' : zs.length = c := by simpa using hz
      have hd : y01.1 = DataW.slice (lits .u64 (zs.take l)) (lits .u64 (zs.drop l)) := congrArg Prod.fst hx
      have hw1 : ((lits (H := H) .u64 (zs.take l)).length + (lits (H := H) .u64 (zs.drop l)).length) * Tryz.prog.bytesOf 94 ∈ DataW.weightsEach Tryz.prog [4, 35, 35] [y00.1, y01.1, y02.1] :=
        DataW.weights_mem_each (j := 1) (t := 35) (d := y01.1) rfl rfl _ (by rw [hd]; simp [DataW.weights, Tryz.underlying35])
      have hw2 : ((lits (H := H) .u64 (zs.take l)).length + (lits (H := H) .u64 (zs.drop l)).length) * Tryz.prog.bytesOf 94 ∈ DataW.weights Tryz.prog 58 (DataW.agg [y00.1, y01.1, y02.1]) := by
        simp only [DataW.weights, Tryz.underlying58]
        exact hw1
      have hs := List.all_eq_true.1 hsz _ (DataW.weights_mem_each (j := 0) (t := 58) (d := DataW.agg [y00.1, y01.1, y02.1]) rfl rfl _ hw2)
      rw [bytes8] at hs
      have hcap : c ≤ 17592186043904 := by
        simp only [lits, List.length_map, List.length_take, List.length_drop, reachBytes, decide_eq_true_eq] at hs
        omega
      refine ⟨some x, l, c, zs.take l, by simpa using hcs, ⟨by rw [List.length_take]; omega, fun z hz2 => word_of_wf (hwz z (List.mem_of_mem_take hz2)), fun h => ?_⟩, hl, (fun h => by cases h), hcap⟩
      obtain ⟨bb, off, rfl, hc⟩ := ints_at hcell (by omega)
      refine ⟨bb, off, rfl, fun j hj => ?_⟩
      rw [hc j (by omega), List.getD_eq_getElem?_getD, List.getD_eq_getElem?_getD, List.getElem?_take_of_lt hj]
  subst hv0
  obtain ⟨ab0, lenb0, capb0, zb0, hvb0, sb0, cb0, eb0, bb0⟩ : ∃ a len cap zs, t0 = .slice a len cap ∧ Sl W a len zs ∧ len ≤ cap ∧ (a = Option.none → len = 0 ∧ cap = 0) ∧ cap ≤ 17592186043904 := by
    rcases open_ints Tryz.underlying35 Tryz.underlying94 (by kernel_rfl) hy02 with ⟨hcs, _⟩ | ⟨x, l, c, zs, hcs, _, hl, hm, hz, hx, hcell, hwz⟩
    · exact ⟨Option.none, 0, 0, [], by simpa using hcs, ⟨rfl, Limbs.nil, fun h => absurd h (by decide)⟩, Nat.le_refl _, fun _ => ⟨rfl, rfl⟩, by decide⟩
    · have hz' : zs.length = c := by simpa using hz
      have hd : y02.1 = DataW.slice (lits .u64 (zs.take l)) (lits .u64 (zs.drop l)) := congrArg Prod.fst hx
      have hw1 : ((lits (H := H) .u64 (zs.take l)).length + (lits (H := H) .u64 (zs.drop l)).length) * Tryz.prog.bytesOf 94 ∈ DataW.weightsEach Tryz.prog [4, 35, 35] [y00.1, y01.1, y02.1] :=
        DataW.weights_mem_each (j := 2) (t := 35) (d := y02.1) rfl rfl _ (by rw [hd]; simp [DataW.weights, Tryz.underlying35])
      have hw2 : ((lits (H := H) .u64 (zs.take l)).length + (lits (H := H) .u64 (zs.drop l)).length) * Tryz.prog.bytesOf 94 ∈ DataW.weights Tryz.prog 58 (DataW.agg [y00.1, y01.1, y02.1]) := by
        simp only [DataW.weights, Tryz.underlying58]
        exact hw1
      have hs := List.all_eq_true.1 hsz _ (DataW.weights_mem_each (j := 0) (t := 58) (d := DataW.agg [y00.1, y01.1, y02.1]) rfl rfl _ hw2)
      rw [bytes8] at hs
      have hcap : c ≤ 17592186043904 := by
        simp only [lits, List.length_map, List.length_take, List.length_drop, reachBytes, decide_eq_true_eq] at hs
        omega
      refine ⟨some x, l, c, zs.take l, by simpa using hcs, ⟨by rw [List.length_take]; omega, fun z hz2 => word_of_wf (hwz z (List.mem_of_mem_take hz2)), fun h => ?_⟩, hl, (fun h => by cases h), hcap⟩
      obtain ⟨bb, off, rfl, hc⟩ := ints_at hcell (by omega)
      refine ⟨bb, off, rfl, fun j hj => ?_⟩
      rw [hc j (by omega), List.getD_eq_getElem?_getD, List.getD_eq_getElem?_getD, List.getElem?_take_of_lt hj]
  subst hvb0
  clear hn0
  clear hA0
  refine (decimalOfs_walk0 n0 a0 len0 cap0 z0 ab0 lenb0 capb0 zb0 W s0 sb0 c0 cb0 b0 bb0 tb0 tb1).mono fun e W' ⟨he, bel⟩ => ?_
  subst he
  exact ⟨_, rfl, _, _, _, [], _, [], hW', trodAll_mk1 (shut_bool Tryz.underlying4 _), (trodAll_cons_mk (Below.trod laidOut (by kernel_rfl) (of_decide_eq_true (by kernel_rfl)) k0 bel lt0) trodAll_mk0), rfl, bel.frame _, fun h => by cases h⟩

set_option maxRecDepth 100000 in
theorem lifted (os : Os) (started : os.Started) (H : Type) (enc : TypeId × Value → H) :
    ReturnsInHanded {} Tryz.checked os 5 .any (fun w args => (Rows.decimalOfsSpec.pre enc Tryz.prog Tryz.f5 [] false w args ∧ laidMetH Tryz.prog Rows.decimalOfsRow.laid w) ∧ sizedMet enc Tryz.prog Tryz.f5 (OpenSpec.ofChange Rows.decimalOfsSpec) false w args)
      (Rows.decimalOfsSpec.post enc Tryz.prog Tryz.f5 false true false false) := by
  refine returnsInHanded_of_change_and (C := Tryz.checked) (X := fun w _ => laidMetH Tryz.prog Rows.decimalOfsRow.laid w) (fun _ _ _ hh h => h.of_heap hh) own started (by kernel_rfl) Tryz.func5
    (ChangeSpec.witness_shaped (enc := enc) (C := Tryz.checked) (os := os) (X := fun w _ => laidMetH Tryz.prog Rows.decimalOfsRow.laid w) false (World.laidAll Tryz.prog os Rows.decimalOfsRow.laid) #[.agg #[.bool false, .slice none 0 0, .slice none 0 0]] 8 (World.laidAll_os _ _ _)
      (World.shaped_of_ZipB (by kernel_rfl) (by kernel_rfl)) (by kernel_rfl) (by kernel_rfl) (by kernel_rfl)
      (by rw [MakeChecks.laidMetH_plain _ _ _ (by kernel_rfl)]; exact laidMet_laidAll _ (by kernel_rfl) (by kernel_rfl))) ?_
  intro W base args ds gs before hval0 hW _ hsz0 hL _
  exact contract H enc W base args ds gs before hval0 hW hsz0 hL

theorem over : Rows.decimalOfsRow.holds Tryz.pinned (OpenSpec.ofChange Rows.decimalOfsSpec) :=
  OpenClaim.holds_of_wide 5 Tryz.f5 rfl rfl rfl rfl rfl rfl rfl ⟨rfl, rfl, rfl, rfl, rfl⟩ rfl rfl rfl rfl rfl (by kernel_rfl) Tryz.func5 (by kernel_rfl)
    (of_decide_eq_true (by kernel_rfl)) (by unfold Func.isWrapper; first | (rw [if_pos (by decide +kernel)]; kernel_rfl) | (rw [if_neg (by decide +kernel)]; exact ⟨rfl, rfl⟩))
    (fun os started H enc _ => lifted os started H enc)
end Go.Proofs.YtebbblhafjaaiaaGreatDoor.decimalOfs
namespace Go.Proofs.YtebbblhafjaaiaaGreatDoor
theorem decimalOfs_plain (f : FuncId) (fn : Func) (hf : Tryz.pinned.checked.prog.funcNamed "tollbook/tollbooklaw06.DecimalOfs" = some f) (hfn : Tryz.pinned.checked.prog.funcs[f]? = some fn) :
    false = Tryz.pinned.checked.prog.looks [] ∧ ∀ (j : Nat) t, fn.params[j]? = some t → Tryz.pinned.checked.prog.wantsStandIn t = false := by
  obtain rfl : f = 5 := Option.some.inj ((show Tryz.prog.funcNamed "tollbook/tollbooklaw06.DecimalOfs" = some 5 by kernel_rfl).symm.trans hf) |>.symm
  obtain rfl : fn = Tryz.f5 := (Option.some.inj (Tryz.func5.symm.trans hfn)).symm
  refine ⟨by kernel_rfl, fun j t ht => ?_⟩
  rw [Tryz.params5] at ht
  have hm : t ∈ [58] := by have := Array.mem_of_getElem? ht; simp at this; simp; omega
  have hall : ([58].all fun u => !Tryz.prog.wantsStandIn u) = true := by kernel_rfl
  exact (show Tryz.prog.wantsStandIn t = false by simpa using List.all_eq_true.1 hall t hm)
theorem decimalOfsCard_holds : Rows.DecimalOfsCardSaid :=
  Claim7.holds_tied_plain_at .later [] _ _ _ _ decimalOfs.over (fun _ h => by cases h) (by kernel_rfl) (fun _ h => by cases h) decimalOfs_row_tie rfl ⟨rfl, rfl⟩ (by kernel_rfl) rfl decimalOfs_plain (by kernel_rfl)
#print axioms decimalOfsCard_holds
end Go.Proofs.YtebbblhafjaaiaaGreatDoor
