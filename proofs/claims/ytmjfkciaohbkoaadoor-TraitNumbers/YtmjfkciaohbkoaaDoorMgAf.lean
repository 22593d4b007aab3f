/-
  tokens: the kept words, Word.
-/
import Derived.Test.YtmjfkciaohbkoaaDoorMgAe
import Derived.Maps.OwnSet
import Derived.Test.YtmjfkciaohbkoaaDoorMgAd
import Derived.Test.YtmjfkciaohbkoaaDoorMgAa
import Derived.Test.YtmjfkciaohbkoaaDoorBsL
import Derived.Test.YtmjfkciaohbkoaaDoorMgAh
namespace Go.Proofs.YtmjfkciaohbkoaaDoor
open Go.RowKit Go.Shelf Go.Maps
set_option linter.unusedVariables false
set_option maxRecDepth 20000

/-- The kept words. -/
def kwL : List (List UInt8) := [[99, 117, 114, 114, 101, 110, 99, 121], [112, 108, 97, 99, 101], [116, 97, 120], [114, 97, 116, 101], [101, 120, 101, 109, 112, 116], [108, 101, 97, 115, 116], [105, 110], [109, 111, 110, 101, 121], [114, 111, 117, 110, 100], [108, 105, 110, 101], [105, 110, 118, 111, 105, 99, 101], [111, 110], [105, 110, 115, 116, 101, 97, 100], [102, 111, 114], [102, 114, 111, 109], [116, 111], [119, 104, 101, 110], [111, 114], [97, 110, 100], [110, 111, 116], [98, 117, 121, 101, 114], [97, 109, 111, 117, 110, 116], [113, 117, 97, 110, 116, 105, 116, 121], [97, 98, 111, 118, 101], [102, 108, 111, 111, 114], [99, 101, 105, 108], [117, 112], [100, 111, 119, 110], [101, 118, 101, 110]]
theorem lawS : Keyed Tryd.prog 9 := string_keyed Tryd.underlying9
theorem zeroU (w : World) : (zeroValue 60).run Tryd.prog w = .ok (.agg #[]) w := by kernel_rfl
abbrev OwS (w : World) (b n : Nat) (D : DataW Unit) : Prop := w.ownsMap Tryd.prog 9 (unitElem (H := Unit)) b n D
theorem put_word {w : World} {b n : Nat} {D : DataW Unit} (h : OwS w b n D) (l : List UInt8) (hl : l.length ≤ 100) (hn : n < 1000) : ∃ w', (Instr.mapUpdate 62 (.map (some b)) (sv l) (.agg #[])).run Tryd.prog w = .ok () w' ∧ OwS w' b (n + 1) (D.put (.string l) (.agg [])) ∧ w.grownBy w' (some b) := by
  have hk : keyOf Tryd.prog 9 (sv l) = some (.string l) := by
    have := WideMaps.keyOf_string_mk (P := Tryd.prog) Tryd.underlying9 (s := ⟨l.toArray⟩) (by rw [bsize]; unfold maxLen; omega)
    simpa using this
  exact h.update lawS Tryd.underlying62 (by unfold maxLen; omega) hk unitElem_mk
set_option maxHeartbeats 2000000 in
set_option maxRecDepth 10000 in
theorem keptWords_any (w : World) : Calls Tryd.prog 27 #[] w fun e w' => e = .returned (.map (some w.heap.size)) ∧ OwS w' w.heap.size 29 (setOf (.agg []) (kwL.map Lit.string)) ∧ Below w.heap.size w w' := by
  have hmm := @run_makeMap Tryd.prog
  have o0 : OwS (w.alloc (.map #[] 0)) w.heap.size 0 (.map []) := World.ownsMap_made w _ _ _
  have b0 : Below w.heap.size w (w.alloc (.map #[] 0)) := (Below.refl _ _).alloc (Nat.le_refl _) _
  obtain ⟨w1, r1, o1, g1⟩ := put_word o0 [99, 117, 114, 114, 101, 110, 99, 121] (by decide) (by omega)
  have b1 : Below w.heap.size w w1 := b0.grown g1 b0.size (fun k hk => by cases hk; exact Nat.le_refl _)
  clear o0 b0 g1
  obtain ⟨w2, r2, o2, g2⟩ := put_word o1 [112, 108, 97, 99, 101] (by decide) (by omega)
  have b2 : Below w.heap.size w w2 := b1.grown g2 b1.size (fun k hk => by cases hk; exact Nat.le_refl _)
  clear o1 b1 g2
  obtain ⟨w3, r3, o3, g3⟩ := put_word o2 [116, 97, 120] (by decide) (by omega)
  have b3 : Below w.heap.size w w3 := b2.grown g3 b2.size (fun k hk => by cases hk; exact Nat.le_refl _)
  clear o2 b2 g3
  obtain ⟨w4, r4, o4, g4⟩ := put_word o3 [114, 97, 116, 101] (by decide) (by omega)
  have b4 : Below w.heap.size w w4 := b3.grown g4 b3.size (fun k hk => by cases hk; exact Nat.le_refl _)
  clear o3 b3 g4
  obtain ⟨w5, r5, o5, g5⟩ := put_word o4 [101, 120, 101, 109, 112, 116] (by decide) (by omega)
  have b5 : Below w.heap.size w w5 := b4.grown g5 b4.size (fun k hk => by cases hk; exact Nat.le_refl _)
  clear o4 b4 g5
  obtain ⟨w6, r6, o6, g6⟩ := put_word o5 [108, 101, 97, 115, 116] (by decide) (by omega)
  have b6 : Below w.heap.size w w6 := b5.grown g6 b5.size (fun k hk => by cases hk; exact Nat.le_refl _)
  clear o5 b5 g6
  obtain ⟨w7, r7, o7, g7⟩ := put_word o6 [105, 110] (by decide) (by omega)
  have b7 : Below w.heap.size w w7 := b6.grown g7 b6.size (fun k hk => by cases hk; exact Nat.le_refl _)
  clear o6 b6 g7
  obtain ⟨w8, r8, o8, g8⟩ := put_word o7 [109, 111, 110, 101, 121] (by decide) (by omega)
  have b8 : Below w.heap.size w w8 := b7.grown g8 b7.size (fun k hk => by cases hk; exact Nat.le_refl _)
  clear o7 b7 g8
  obtain ⟨w9, r9, o9, g9⟩ := put_word o8 [114, 111, 117, 110, 100] (by decide) (by omega)
  have b9 : Below w.heap.size w w9 := b8.grown g9 b8.size (fun k hk => by cases hk; exact Nat.le_refl _)
  clear o8 b8 g9
  obtain ⟨w10, r10, o10, g10⟩ := put_word o9 [108, 105, 110, 101] (by decide) (by omega)
  have b10 : Below w.heap.size w w10 := b9.grown g10 b9.size (fun k hk => by cases hk; exact Nat.le_refl _)
  clear o9 b9 g10
  obtain ⟨w11, r11, o11, g11⟩ := put_word o10 [105, 110, 118, 111, 105, 99, 101] (by decide) (by omega)
  have b11 : Below w.heap.size w w11 := b10.grown g11 b10.size (fun k hk => by cases hk; exact Nat.le_refl _)
  clear o10 b10 g11
  obtain ⟨w12, r12, o12, g12⟩ := put_word o11 [111, 110] (by decide) (by omega)
  have b12 : Below w.heap.size w w12 := b11.grown g12 b11.size (fun k hk => by cases hk; exact Nat.le_refl _)
  clear o11 b11 g12
  obtain ⟨w13, r13, o13, g13⟩ := put_word o12 [105, 110, 115, 116, 101, 97, 100] (by decide) (by omega)
  have b13 : Below w.heap.size w w13 := b12.grown g13 b12.size (fun k hk => by cases hk; exact Nat.le_refl _)
  clear o12 b12 g13
  obtain ⟨w14, r14, o14, g14⟩ := put_word o13 [102, 111, 114] (by decide) (by omega)
  have b14 : Below w.heap.size w w14 := b13.grown g14 b13.size (fun k hk => by cases hk; exact Nat.le_refl _)
  clear o13 b13 g14
  obtain ⟨w15, r15, o15, g15⟩ := put_word o14 [102, 114, 111, 109] (by decide) (by omega)
  have b15 : Below w.heap.size w w15 := b14.grown g15 b14.size (fun k hk => by cases hk; exact Nat.le_refl _)
  clear o14 b14 g15
  obtain ⟨w16, r16, o16, g16⟩ := put_word o15 [116, 111] (by decide) (by omega)
  have b16 : Below w.heap.size w w16 := b15.grown g16 b15.size (fun k hk => by cases hk; exact Nat.le_refl _)
  clear o15 b15 g16
  obtain ⟨w17, r17, o17, g17⟩ := put_word o16 [119, 104, 101, 110] (by decide) (by omega)
  have b17 : Below w.heap.size w w17 := b16.grown g17 b16.size (fun k hk => by cases hk; exact Nat.le_refl _)
  clear o16 b16 g17
  obtain ⟨w18, r18, o18, g18⟩ := put_word o17 [111, 114] (by decide) (by omega)
  have b18 : Below w.heap.size w w18 := b17.grown g18 b17.size (fun k hk => by cases hk; exact Nat.le_refl _)
  clear o17 b17 g18
  obtain ⟨w19, r19, o19, g19⟩ := put_word o18 [97, 110, 100] (by decide) (by omega)
  have b19 : Below w.heap.size w w19 := b18.grown g19 b18.size (fun k hk => by cases hk; exact Nat.le_refl _)
  clear o18 b18 g19
  obtain ⟨w20, r20, o20, g20⟩ := put_word o19 [110, 111, 116] (by decide) (by omega)
  have b20 : Below w.heap.size w w20 := b19.grown g20 b19.size (fun k hk => by cases hk; exact Nat.le_refl _)
  clear o19 b19 g20
  obtain ⟨w21, r21, o21, g21⟩ := put_word o20 [98, 117, 121, 101, 114] (by decide) (by omega)
  have b21 : Below w.heap.size w w21 := b20.grown g21 b20.size (fun k hk => by cases hk; exact Nat.le_refl _)
  clear o20 b20 g21
  obtain ⟨w22, r22, o22, g22⟩ := put_word o21 [97, 109, 111, 117, 110, 116] (by decide) (by omega)
  have b22 : Below w.heap.size w w22 := b21.grown g22 b21.size (fun k hk => by cases hk; exact Nat.le_refl _)
  clear o21 b21 g22
  obtain ⟨w23, r23, o23, g23⟩ := put_word o22 [113, 117, 97, 110, 116, 105, 116, 121] (by decide) (by omega)
  have b23 : Below w.heap.size w w23 := b22.grown g23 b22.size (fun k hk => by cases hk; exact Nat.le_refl _)
  clear o22 b22 g23
  obtain ⟨w24, r24, o24, g24⟩ := put_word o23 [97, 98, 111, 118, 101] (by decide) (by omega)
  have b24 : Below w.heap.size w w24 := b23.grown g24 b23.size (fun k hk => by cases hk; exact Nat.le_refl _)
  clear o23 b23 g24
  obtain ⟨w25, r25, o25, g25⟩ := put_word o24 [102, 108, 111, 111, 114] (by decide) (by omega)
  have b25 : Below w.heap.size w w25 := b24.grown g25 b24.size (fun k hk => by cases hk; exact Nat.le_refl _)
  clear o24 b24 g25
  obtain ⟨w26, r26, o26, g26⟩ := put_word o25 [99, 101, 105, 108] (by decide) (by omega)
  have b26 : Below w.heap.size w w26 := b25.grown g26 b25.size (fun k hk => by cases hk; exact Nat.le_refl _)
  clear o25 b25 g26
  obtain ⟨w27, r27, o27, g27⟩ := put_word o26 [117, 112] (by decide) (by omega)
  have b27 : Below w.heap.size w w27 := b26.grown g27 b26.size (fun k hk => by cases hk; exact Nat.le_refl _)
  clear o26 b26 g27
  obtain ⟨w28, r28, o28, g28⟩ := put_word o27 [100, 111, 119, 110] (by decide) (by omega)
  have b28 : Below w.heap.size w w28 := b27.grown g28 b27.size (fun k hk => by cases hk; exact Nat.le_refl _)
  clear o27 b27 g28
  obtain ⟨w29, r29, o29, g29⟩ := put_word o28 [101, 118, 101, 110] (by decide) (by omega)
  have b29 : Below w.heap.size w w29 := b28.grown g29 b28.size (fun k hk => by cases hk; exact Nat.le_refl _)
  clear o28 b28 g29
  have HO : Hid (OwS w29 w.heap.size 29 (setOf (.agg []) (kwL.map Lit.string))) := o29
  have HB : Hid (Below w.heap.size w w29) := b29
  clear o29 b29
  go_enter Tryd.func27, Tryd.ntmps27
  go_wp2_with fail
  go_ret
  exact ⟨rfl, HO.out, HB.out⟩
/-- Word, of bytes. -/
def wdB (s : List UInt8) : Bool := decide (s ≠ []) && decide (s.length ≤ 24) && decide (pt s = s.length) && !(kwL.any (fun x => x == s))
theorem has_kept (s : List UInt8) : Maps.has (setOf (H := Unit) (.agg []) (kwL.map Lit.string)) (.string s) = kwL.any (fun x => x == s) := by
  rw [has_setOf _ _ _ (by intro x hx; obtain ⟨y, -, rfl⟩ := List.mem_map.1 hx; trivial), List.any_map]
  congr 1
set_option maxHeartbeats 1000000 in
theorem word_B (s : List UInt8) (w : World) : Calls Tryd.prog 17 #[sv s] w fun e w' => e = .returned (.bool (wdB s)) ∧ Below w.heap.size w w' := by
  cases hs0 : s with
  | nil =>
    go_enter Tryd.func17, Tryd.ntmps17
    go_wp2_with fail
    go_ret
    exact ⟨rfl, Below.refl _ _⟩
  | cons c t =>
    rw [← hs0]
    have hne : s ≠ [] := by rw [hs0]; simp
    have n1 : (s == []) = false := by simpa using hne
    have n2 : ([] == s) = false := by simpa using hne
    clear hs0
    rcases Nat.lt_or_ge 24 s.length with h24 | h24
    · have HE : Hid (wdB s = false) := by show _ = _; unfold wdB; simp; intro h; omega
      have hi : (24 : Int) < s.length := by omega
      clear h24 hne
      go_enter Tryd.func17, Tryd.ntmps17
      go_wp2_with fail
      go_ret
      exact ⟨by rw [HE.out]; rfl, Below.refl _ _⟩
    · have hi : (s.length : Int) ≤ 24 := by omega
      have hp := fun W => part_any s W (by omega)
      have hpl := pt_le s
      have HW : Hid (wdB s = (decide (pt s = s.length) && !(kwL.any (fun x => x == s)))) := by show _ = _; unfold wdB; simp [hne, h24]
      generalize pt s = q at *
      by_cases hq : q = s.length
      · subst hq
        have HE : Hid (wdB s = !(kwL.any (fun x => x == s))) := by show _ = _; rw [HW.out]; simp
        have hkey : keyOf Tryd.prog 9 (sv s) = some (.string s) := by
          have := WideMaps.keyOf_string_mk (P := Tryd.prog) Tryd.underlying9 (s := ⟨s.toArray⟩) (by rw [bsize]; unfold maxLen; omega)
          simpa using this
        clear HW h24 hpl hne
        go_enter Tryd.func17, Tryd.ntmps17
        go_wp2_with fail
        refine (hp _).mono ?_
        rintro e w' ⟨rfl, hw'⟩
        rw [hw']; clear hw' w' hp
        go_wp2_with fail
        refine (keptWords_any w).mono ?_
        rintro e w1 ⟨rfl, ho, hb⟩
        have HO : Hid (OwS w1 w.heap.size 29 (setOf (.agg []) (kwL.map Lit.string))) := ho
        have HB : Hid (Below w.heap.size w w1) := hb
        clear ho hb
        go_wp2_with (at_lookup; refine wpList_lookup_own_unit _ rfl _ _ 62 rfl 9 60 lawS Tryd.underlying62 (zeroU _) w.heap.size 29 _ rfl HO.out _ _ rfl hkey ?_; rw [has_kept])
        go_ret
        exact ⟨by rw [HE.out]; rfl, HB.out.alloc HB.out.size _⟩
      · have HE : Hid (wdB s = false) := by show _ = _; rw [HW.out]; simp [hq]
        have hqi : (q : Int) < s.length := by omega
        clear HW hq h24 hne
        go_enter Tryd.func17, Tryd.ntmps17
        go_wp2_with fail
        refine (hp _).mono ?_
        rintro e w' ⟨rfl, hw'⟩
        rw [hw']; clear hw' w' hp
        go_wp2_with fail
        go_ret
        exact ⟨by rw [HE.out]; rfl, Below.refl _ _⟩
end Go.Proofs.YtmjfkciaohbkoaaDoor
namespace Go.Proofs.YtmjfkciaohbkoaaDoor
set_option linter.unusedVariables false
/-- A decimal with as few places as may be. -/
def mkd : Int → Nat → Int × Nat
  | U, 0 => (U, 0)
  | U, P + 1 => if U.tmod 10 = 0 then mkd (U.tdiv 10) P else (U, P + 1)
/-- It may be. -/
def Can (U : Int) (P : Nat) : Prop := P ≤ 9 ∧ (0 < P → U.natAbs % 10 ≠ 0)
theorem tmod_iff (U : Int) : U.tmod 10 = 0 ↔ U.natAbs % 10 = 0 := by rw [← Int.dvd_iff_tmod_eq_zero]; omega
theorem tdiv_ten {U : Int} (h : U.tmod 10 = 0) : U = 10 * U.tdiv 10 := by have := Int.mul_tdiv_add_tmod U 10; omega
theorem mkd_can : ∀ (P : Nat) (U : Int), P ≤ 9 → Can (mkd U P).1 (mkd U P).2
  | 0, U, _ => ⟨by simp [mkd], fun h => by simp [mkd] at h⟩
  | P + 1, U, h => by
    unfold mkd
    by_cases h0 : U.tmod 10 = 0
    · rw [if_pos h0]; exact mkd_can P _ (by omega)
    · rw [if_neg h0]; exact ⟨h, fun _ => by show U.natAbs % 10 ≠ 0; rw [Ne, ← tmod_iff]; exact h0⟩
theorem mkd_id {U : Int} {P : Nat} (h : Can U P) : mkd U P = (U, P) := by
  cases P with
  | zero => rfl
  | succ P => unfold mkd; rw [if_neg (by rw [tmod_iff]; exact h.2 (by omega))]
theorem mkd_bound : ∀ (P : Nat) (U : Int), -9223372036854775808 ≤ U → U ≤ 9223372036854775807 → -9223372036854775808 ≤ (mkd U P).1 ∧ (mkd U P).1 ≤ 9223372036854775807
  | 0, U, h1, h2 => ⟨h1, h2⟩
  | P + 1, U, h1, h2 => by
    unfold mkd
    by_cases h0 : U.tmod 10 = 0
    · have := tdiv_ten h0; rw [if_pos h0]; exact mkd_bound P _ (by omega) (by omega)
    · rw [if_neg h0]; exact ⟨h1, h2⟩
theorem mkd_val : ∀ (P : Nat) (U : Int), Rat.divInt (mkd U P).1 (10 ^ (mkd U P).2) = Rat.divInt U (10 ^ P)
  | 0, U => rfl
  | P + 1, U => by
    unfold mkd
    by_cases h0 : U.tmod 10 = 0
    · rw [if_pos h0, mkd_val P]
      refine (Rat.divInt_eq_divInt_iff (ten_ne _) (ten_ne _)).2 ?_
      have e := tdiv_ten h0
      rw [Int.pow_succ]
      generalize U.tdiv 10 = q at e
      rw [e]
      grind
    · rw [if_neg h0]
/-- Decimals that may be are one if their worths are. -/
theorem can_inj {U V : Int} {P Q : Nat} (h : Can U P) (k : Can V Q) (e : Rat.divInt U (10 ^ P) = Rat.divInt V (10 ^ Q)) : U = V ∧ P = Q := by
  obtain ⟨t, ht⟩ := den_dvd_ten (v := Rat.divInt U (10 ^ P)) rfl
  obtain ⟨s, hs⟩ := den_dvd_ten (v := Rat.divInt U (10 ^ P)) e
  rcases Nat.le_total P Q with hl | hl
  · have a1 := few (v := Rat.divInt U (10 ^ P)) e k.2 hl ht
    have a2 := few (v := Rat.divInt U (10 ^ P)) rfl h.2 (Nat.le_refl P) ht
    exact ⟨a2.2.symm.trans a1.2, a1.1⟩
  · have a1 := few (v := Rat.divInt U (10 ^ P)) rfl h.2 hl hs
    have a2 := few (v := Rat.divInt U (10 ^ P)) e k.2 (Nat.le_refl Q) hs
    exact ⟨a1.2.symm.trans a2.2, a1.1.symm⟩
end Go.Proofs.YtmjfkciaohbkoaaDoor
namespace Go.Proofs.YtmjfkciaohbkoaaDoor
open Go.RowKit Go.Shelf
set_option linter.unusedVariables false

theorem isPlaces_yes (P : Int) (h0 : 0 ≤ P) (h9 : P ≤ 9) (w : World) : Calls Tryd.prog 35 #[.int .i64 P] w fun e w' => e = .returned (.bool true) ∧ w' = w := by
  go_enter Tryd.func35, Tryd.ntmps35
  go_wp2_with fail
  go_ret
  exact ⟨rfl, rfl⟩
theorem isPlaces_no (P : Int) (h : ¬ (0 ≤ P ∧ P ≤ 9)) (w : World) : Calls Tryd.prog 35 #[.int .i64 P] w fun e w' => e = .returned (.bool false) ∧ w' = w := by
  by_cases h0 : 0 ≤ P
  · have h9 : ¬ P ≤ 9 := fun h9 => h ⟨h0, h9⟩
    go_enter Tryd.func35, Tryd.ntmps35
    go_wp2_with fail
    go_ret
    exact ⟨rfl, rfl⟩
  · go_enter Tryd.func35, Tryd.ntmps35
    go_wp2_with fail
    go_ret
    exact ⟨rfl, rfl⟩
/-- A decimal that may be, its places being any int. -/
def CanI (U P : Int) : Prop := 0 ≤ P ∧ P ≤ 9 ∧ (0 < P → U.tmod 10 ≠ 0)
theorem canI_iff (U : Int) (P : Nat) : CanI U P ↔ Can U P := by
  unfold CanI Can
  constructor
  · rintro ⟨h1, h2, h3⟩
    exact ⟨by omega, fun h => by have := h3 (by omega); rwa [Ne, tmod_iff] at this⟩
  · rintro ⟨h1, h2⟩
    exact ⟨by omega, by omega, fun h => by rw [Ne, tmod_iff]; exact h2 (by omega)⟩
set_option maxHeartbeats 1000000 in
theorem check_ok (U P : Int) (h : CanI U P) (w : World) : Calls Tryd.prog 28 #[.agg #[.int .i64 U, .int .i64 P]] w fun e w' => e = .returned (.int .i64 0) ∧ Below w.heap.size w w' := by
  obtain ⟨h0, h9, h3⟩ := h
  by_cases hp : 0 < P
  · obtain ⟨m, hm⟩ : ∃ m, U.tmod 10 = m := ⟨_, rfl⟩
    have hm0 : (m == 0) = false := by have := h3 hp; rw [hm] at this; simpa using this
    go_enter Tryd.func28, Tryd.ntmps28
    go_wp2_with (go_at_call 35; refine (isPlaces_yes P h0 h9 _).mono ?_; rintro e w' ⟨rfl, rfl⟩)
    go_ret
    exact ⟨rfl, (Below.refl _ _).alloc (Nat.le_refl _) _⟩
  · go_enter Tryd.func28, Tryd.ntmps28
    go_wp2_with (go_at_call 35; refine (isPlaces_yes P h0 h9 _).mono ?_; rintro e w' ⟨rfl, rfl⟩)
    go_ret
    exact ⟨rfl, (Below.refl _ _).alloc (Nat.le_refl _) _⟩
set_option maxHeartbeats 1000000 in
theorem check_no (U P : Int) (h : ¬ CanI U P) (w : World) : Calls Tryd.prog 28 #[.agg #[.int .i64 U, .int .i64 P]] w fun e w' => e = .returned (.int .i64 60) ∧ Below w.heap.size w w' := by
  by_cases h1 : 0 ≤ P ∧ P ≤ 9
  · have hp : 0 < P := by
      rcases Int.lt_or_le 0 P with h' | h'
      · exact h'
      · exact absurd ⟨h1.1, h1.2, fun hh => by omega⟩ h
    have hm : U.tmod 10 = 0 := by
      rcases Decidable.em (U.tmod 10 = 0) with h' | h'
      · exact h'
      · exact absurd ⟨h1.1, h1.2, fun _ => h'⟩ h
    go_enter Tryd.func28, Tryd.ntmps28
    go_wp2_with (go_at_call 35; refine (isPlaces_yes P h1.1 h1.2 _).mono ?_; rintro e w' ⟨rfl, rfl⟩)
    go_ret
    exact ⟨rfl, (Below.refl _ _).alloc (Nat.le_refl _) _⟩
  · go_enter Tryd.func28, Tryd.ntmps28
    go_wp2_with (go_at_call 35; refine (isPlaces_no P h1 _).mono ?_; rintro e w' ⟨rfl, rfl⟩)
    go_ret
    exact ⟨rfl, (Below.refl _ _).alloc (Nat.le_refl _) _⟩
theorem results_dt {fn : Func} {i j b : Nat} {v u : Value} {tmps : Array Value} {w : World} (h : fn.results = #[.cell i 30, .tmp j]) (hi : tmps.getD i undef = .pointer (some ⟨b, 0, none⟩)) (hv : Va w b 30 #[v, u]) :
    (results fn tmps).run Tryd.prog w = .ok (.tuple #[.agg #[v, u], tmps.getD j undef]) w := by
  have c := hv.c0; have d := hv.c1
  rw [Array.getD_eq_getD_getElem?] at hi
  simp [results, h, hi, c, d, go_sem]
end Go.Proofs.YtmjfkciaohbkoaaDoor
namespace Go.Proofs.YtmjfkciaohbkoaaDoor
open Go.RowKit Go.Shelf
set_option linter.unusedVariables false

/-- A node's cells. -/
def encN (n : Nd) : List Value := [.int .i64 n.kd, .int .i64 n.ks, sv n.nm, .int .i64 n.op, .int .i64 n.un, .int .i64 n.pl]
/-- A node as a value. -/
abbrev nv (n : Nd) : Value := .agg #[.int .i64 n.kd, .int .i64 n.ks, sv n.nm, .int .i64 n.op, .int .i64 n.un, .int .i64 n.pl]
theorem infoN : (Tryd.prog.info? 32).map (fun i => (i.zero, i.size, i.bytes)) = some (some (.agg #[.int .i64 0, .int .i64 0, .string ⟨#[]⟩, .int .i64 0, .int .i64 0, .int .i64 0]), 6, 56) := by kernel_rfl
def elN : El Nd where
  enc := encN
  dft := nd0
  te := 32
  tl := 24
  z := .agg #[.int .i64 0, .int .i64 0, .string ⟨#[]⟩, .int .i64 0, .int .i64 0, .int .i64 0]
  s := 6
  by8 := 56
  len := fun _ => rfl
  one := fun x v hv => by
    simp [encN] at hv
    rcases hv with rfl | rfl | rfl | rfl | rfl | rfl <;> rfl
  pos := by decide
  und := Tryd.underlying24
  inf := infoN
  zs := rfl
  bt := by decide
/-- A node of 64 bits. -/
def N64 (n : Nd) : Prop := ∀ x ∈ [n.kd, n.ks, n.op, n.un, n.pl], -9223372036854775808 ≤ x ∧ x ≤ 9223372036854775807

/-- What isOp answers. -/
def opB (op : Int) : Bool := decide (1 ≤ op ∧ op ≤ 4)
theorem isOp_any (op : Int) (w : World) : Calls Tryd.prog 18 #[.int .i64 op] w fun e w' => e = .returned (.bool (opB op)) ∧ w' = w := by
  by_cases h1 : 1 ≤ op
  · by_cases h2 : op ≤ 4
    · have HE : Hid (opB op = true) := by show _ = _; simp [opB, h1, h2]
      go_enter Tryd.func18, Tryd.ntmps18
      go_wp2_with fail
      go_ret
      exact ⟨by rw [HE.out]; rfl, rfl⟩
    · have HE : Hid (opB op = false) := by show _ = _; simp [opB, h1, h2]
      go_enter Tryd.func18, Tryd.ntmps18
      go_wp2_with fail
      go_ret
      exact ⟨by rw [HE.out]; rfl, rfl⟩
  · have HE : Hid (opB op = false) := by show _ = _; simp [opB, h1]
    go_enter Tryd.func18, Tryd.ntmps18
    go_wp2_with fail
    go_ret
    exact ⟨by rw [HE.out]; rfl, rfl⟩
theorem isValue_yes (U P : Int) (hc : CanI U P) (hu : 0 ≤ U) (w : World) : Calls Tryd.prog 19 #[.agg #[.int .i64 U, .int .i64 P]] w fun e w' => e = .returned (.bool true) ∧ Below w.heap.size w w' := by
  have HC : Hid (CanI U P) := hc
  clear hc
  have B0 : Below w.heap.size w w := Below.refl _ _
  go_enter Tryd.func19, Tryd.ntmps19
  go_wp2_with fail
  refine ent1 w _ _ (Q := fun W => Calls Tryd.prog _ _ W _) ?_
  intro x1 hb hs V0
  replace B0 := step B0 hb
  clear hb hs
  refine (check_ok U P HC.out _).mono ?_
  rintro e x2 ⟨rfl, hb⟩
  replace V0 := Va.after hb V0
  replace B0 := step B0 hb
  clear hb
  have c0 := V0.c0
  have c1 := V0.c1
  go_wp2_with fail
  go_ret
  exact ⟨rfl, B0⟩
theorem isValue_no (U P : Int) (h : ¬ (CanI U P ∧ 0 ≤ U)) (w : World) : Calls Tryd.prog 19 #[.agg #[.int .i64 U, .int .i64 P]] w fun e w' => e = .returned (.bool false) ∧ Below w.heap.size w w' := by
  have B0 : Below w.heap.size w w := Below.refl _ _
  by_cases hc : CanI U P
  · have hu : decide (0 ≤ U) = false := decide_eq_false (fun x => h ⟨hc, x⟩)
    have HC : Hid (CanI U P) := hc
    clear hc h
    go_enter Tryd.func19, Tryd.ntmps19
    go_wp2_with fail
    refine ent1 w _ _ (Q := fun W => Calls Tryd.prog _ _ W _) ?_
    intro x1 hb hs V0
    replace B0 := step B0 hb
    clear hb hs
    refine (check_ok U P HC.out _).mono ?_
    rintro e x2 ⟨rfl, hb⟩
    replace V0 := Va.after hb V0
    replace B0 := step B0 hb
    clear hb
    have c0 := V0.c0
    have c1 := V0.c1
    go_wp2_with fail
    go_ret
    exact ⟨rfl, B0⟩
  · have HC : Hid (¬ CanI U P) := hc
    clear hc h
    go_enter Tryd.func19, Tryd.ntmps19
    go_wp2_with fail
    refine ent1 w _ _ (Q := fun W => Calls Tryd.prog _ _ W _) ?_
    intro x1 hb hs V0
    replace B0 := step B0 hb
    clear hb hs
    refine (check_no U P HC.out _).mono ?_
    rintro e x2 ⟨rfl, hb⟩
    replace V0 := Va.after hb V0
    replace B0 := step B0 hb
    clear hb
    have c0 := V0.c0
    have c1 := V0.c1
    go_wp2_with fail
    go_ret
    exact ⟨rfl, B0⟩
end Go.Proofs.YtmjfkciaohbkoaaDoor
namespace Go.Proofs.YtmjfkciaohbkoaaDoor
open Go.RowKit Go.Shelf
set_option linter.unusedVariables false

/-- A node's cells as an array. -/
abbrev cn (n : Nd) : Array Value := #[.int .i64 n.kd, .int .i64 n.ks, sv n.nm, .int .i64 n.op, .int .i64 n.un, .int .i64 n.pl]
theorem Va.set6 {w : World} {b : Nat} {t : TypeId} {x0 x1 x2 x3 x4 x5 : Value} (h : Va w b t #[x0, x1, x2, x3, x4, x5]) (y0 y1 y2 y3 y4 y5 : Value) :
    Va ((((((w.setCell ⟨b, 0, none⟩ y0).setCell ⟨b, 1, none⟩ y1).setCell ⟨b, 2, none⟩ y2).setCell ⟨b, 3, none⟩ y3).setCell ⟨b, 4, none⟩ y4).setCell ⟨b, 5, none⟩ y5) b t #[y0, y1, y2, y3, y4, y5] := by
  unfold Va at *
  simp only [World.setCell]
  rw [Array.getElem?_modify, if_pos rfl, Array.getElem?_modify, if_pos rfl, Array.getElem?_modify, if_pos rfl, Array.getElem?_modify, if_pos rfl, Array.getElem?_modify, if_pos rfl, Array.getElem?_modify, if_pos rfl, h]
  simp
theorem fa6 (w : World) (b : Nat) (y0 y1 y2 y3 y4 y5 : Value) : ∀ c, c ≠ b → ((((((w.setCell ⟨b, 0, none⟩ y0).setCell ⟨b, 1, none⟩ y1).setCell ⟨b, 2, none⟩ y2).setCell ⟨b, 3, none⟩ y3).setCell ⟨b, 4, none⟩ y4).setCell ⟨b, 5, none⟩ y5).heap[c]? = w.heap[c]? := fun c hc =>
  (Below.heap_setCell _ ⟨b, 5, none⟩ _ _ hc).trans ((Below.heap_setCell _ ⟨b, 4, none⟩ _ _ hc).trans ((Below.heap_setCell _ ⟨b, 3, none⟩ _ _ hc).trans ((Below.heap_setCell _ ⟨b, 2, none⟩ _ _ hc).trans ((Below.heap_setCell _ ⟨b, 1, none⟩ _ _ hc).trans (Below.heap_setCell _ ⟨b, 0, none⟩ _ _ hc)))))
theorem below_6 {B : Nat} {a w : World} (h : Below B a w) {c : Nat} (hc : B ≤ c) (y0 y1 y2 y3 y4 y5 : Value) : Below B a ((((((w.setCell ⟨c, 0, none⟩ y0).setCell ⟨c, 1, none⟩ y1).setCell ⟨c, 2, none⟩ y2).setCell ⟨c, 3, none⟩ y3).setCell ⟨c, 4, none⟩ y4).setCell ⟨c, 5, none⟩ y5) :=
  (((belo3 h hc y0 y1 y2).setCell (p := ⟨c, 3, none⟩) hc y3).setCell (p := ⟨c, 4, none⟩) hc y4).setCell (p := ⟨c, 5, none⟩) hc y5
/-- A new variable that holds a node. -/
theorem entN (w : World) (t : TypeId) (z0 z1 z2 z3 z4 z5 y0 y1 y2 y3 y4 y5 : Value) {Q : World → Prop}
    (h : ∀ V, Below w.heap.size w V → V.heap.size = w.heap.size + 1 → Va V w.heap.size t #[y0, y1, y2, y3, y4, y5] → Q V) :
    Q (((((((w.alloc (.cells #[z0, z1, z2, z3, z4, z5] t)).setCell ⟨w.heap.size, 0, none⟩ y0).setCell ⟨w.heap.size, 1, none⟩ y1).setCell ⟨w.heap.size, 2, none⟩ y2).setCell ⟨w.heap.size, 3, none⟩ y3).setCell ⟨w.heap.size, 4, none⟩ y4).setCell ⟨w.heap.size, 5, none⟩ y5) :=
  h _ (below_6 ((Below.refl _ _).alloc (Nat.le_refl _) _) (Nat.le_refl _) _ _ _ _ _ _) (by simp [World.setCell]) ((Va.new w t _).set6 _ _ _ _ _ _)
theorem Va.n0 {w : World} {b : Nat} {t : TypeId} {x0 x1 x2 x3 x4 x5 : Value} (h : Va w b t #[x0, x1, x2, x3, x4, x5]) : w.cell? ⟨b, 0, none⟩ = some x0 := by rw [h.cellAt 0]; rfl
theorem Va.n1 {w : World} {b : Nat} {t : TypeId} {x0 x1 x2 x3 x4 x5 : Value} (h : Va w b t #[x0, x1, x2, x3, x4, x5]) : w.cell? ⟨b, 1, none⟩ = some x1 := by rw [h.cellAt 1]; rfl
theorem Va.n2 {w : World} {b : Nat} {t : TypeId} {x0 x1 x2 x3 x4 x5 : Value} (h : Va w b t #[x0, x1, x2, x3, x4, x5]) : w.cell? ⟨b, 2, none⟩ = some x2 := by rw [h.cellAt 2]; rfl
theorem Va.n3 {w : World} {b : Nat} {t : TypeId} {x0 x1 x2 x3 x4 x5 : Value} (h : Va w b t #[x0, x1, x2, x3, x4, x5]) : w.cell? ⟨b, 3, none⟩ = some x3 := by rw [h.cellAt 3]; rfl
theorem Va.n4 {w : World} {b : Nat} {t : TypeId} {x0 x1 x2 x3 x4 x5 : Value} (h : Va w b t #[x0, x1, x2, x3, x4, x5]) : w.cell? ⟨b, 4, none⟩ = some x4 := by rw [h.cellAt 4]; rfl
theorem Va.n5 {w : World} {b : Nat} {t : TypeId} {x0 x1 x2 x3 x4 x5 : Value} (h : Va w b t #[x0, x1, x2, x3, x4, x5]) : w.cell? ⟨b, 5, none⟩ = some x5 := by rw [h.cellAt 5]; rfl
/-- The frame of a call that writes one variable: all other blocks are as they were. -/
theorem Va.gr {w w' : World} {g b : Nat} {t : TypeId} {cs : Array Value} (h : Va w b t cs) (hg : w.grownBy w' (some g)) (hne : b ≠ g) : Va w' b t cs := by
  unfold Va at *; rw [hg.block b (Va.lt h) (fun e => hne (by cases e; rfl))]; exact h
theorem gr_below {a w w' : World} {g : Nat} (h : a.grownBy w (some g)) (hb : Below w.heap.size w w') : a.grownBy w' (some g) := ⟨hb.os.trans h.os, hb.tape.trans h.tape, hb.output.trans h.output, Nat.le_trans h.size hb.size, fun k hk hne => (hb.block k (Nat.lt_of_lt_of_le hk h.size)).trans (h.block k hk hne)⟩
theorem gr_of_below {w w' : World} {g : Nat} (hb : Below w.heap.size w w') : w.grownBy w' (some g) := ⟨hb.os, hb.tape, hb.output, hb.size, fun k hk _ => hb.block k hk⟩
theorem gr_trans {a w w' : World} {g : Nat} (h : a.grownBy w (some g)) (k : w.grownBy w' (some g)) : a.grownBy w' (some g) := ⟨k.os.trans h.os, k.tape.trans h.tape, k.output.trans h.output, Nat.le_trans h.size k.size, fun i hi hne => (k.block i (Nat.lt_of_lt_of_le hi h.size) hne).trans (h.block i hi hne)⟩
theorem gr_set {a w : World} {g : Nat} (h : a.grownBy w (some g)) (i : Nat) (v : Value) : a.grownBy (w.setCell ⟨g, i, none⟩ v) (some g) := ⟨h.os, h.tape, h.output, by simpa [World.setCell] using h.size, fun k hk hne => (heap_setCell_other w ⟨g, i, none⟩ k v (fun e => hne (by rw [e]))).trans (h.block k hk hne)⟩
theorem gr_refl (w : World) (g : Nat) : w.grownBy w (some g) := ⟨rfl, rfl, rfl, Nat.le_refl _, fun _ _ _ => rfl⟩
theorem gr_to {w w' : World} {g B : Nat} (h : w.grownBy w' (some g)) (hB : B ≤ g) (hs : B ≤ w.heap.size) : Below B w w' := ⟨h.os, h.tape, h.output, h.size, fun k hk => h.block k (by omega) (fun e => by cases e; omega)⟩
/-- A variable's only cell is put anew. -/
theorem st1 {W : World} {b : Nat} {t : TypeId} {x : Value} (h : Va W b t #[x]) (x' : Value) {Q : World → Prop}
    (k : ∀ V, Va V b t #[x'] → W.grownBy V (some b) → V.heap.size = W.heap.size → Q V) : Q (W.setCell ⟨b, 0, none⟩ x') :=
  k _ (h.set x') (gr_set (gr_refl W b) 0 x') (by simp [World.setCell])
end Go.Proofs.YtmjfkciaohbkoaaDoor
namespace Go.Proofs.YtmjfkciaohbkoaaDoor
open Go.RowKit Go.Shelf

theorem gcd_zero {x y : Int} (hx : 0 ≤ x) (h : y = 0) : ((Int.gcd x y : Nat) : Int) = x := by
  subst h
  rw [Int.gcd_zero_right]; omega

end Go.Proofs.YtmjfkciaohbkoaaDoor

namespace Go.Proofs.YtmjfkciaohbkoaaDoor
open Go.RowKit Go.Shelf

/-- So many binary digits are cut off: what is left of the greater one fills a limb. -/
theorem later_bits {w : World} {a b : Option Addr} {la ca lb cb : Nat} {xs ys : List Int} (ha : Nt w a la ca xs) (hb : Nt w b lb cb ys) (hle : num ys ≤ num xs) (hl : 1 < lb) :
    ∃ k d : Nat, bitsN xs = (k : Int) + 1 ∧ (k : Int) + 1 - 64 = d ∧ d ≤ 262144 ∧ num xs / 2 ^ d < 18446744073709551616 ∧ num ys / 2 ^ d ≤ num xs / 2 ^ d := by
  have h1 := num_ge_used hb.limbs (by rw [hb.2.1]; omega)
  rw [hb.2.1] at h1
  have h2 := pw_mono (show 1 ≤ lb - 1 by omega)
  have h3 : pw 1 = 18446744073709551616 := by decide
  have ux : 0 < usedN xs := by
    rcases Nat.eq_zero_or_pos (usedN xs) with h | h
    · have := (num_eq_zero ha.limbs).2 h; omega
    · exact h
  obtain ⟨k, ek, k1, k2⟩ := bits_spec ha.limbs ux
  have hk : 64 ≤ k := by
    rcases Nat.lt_or_ge k 64 with h | h
    · have h5 := p2_mono (show k + 1 ≤ 64 by omega)
      have h6 : (2 : Int) ^ 64 = 18446744073709551616 := by decide
      omega
    · exact h
  have hbl := bits_limbs ha.limbs
  have hla := ha.2
  refine ⟨k, k + 1 - 64, ek, by omega, by omega, ?_, ?_⟩
  · apply Int.ediv_lt_of_lt_mul (p2_pos _)
    have h6 : (2 : Int) ^ (k + 1) = 18446744073709551616 * 2 ^ (k + 1 - 64) := by
      have h7 : (2 : Int) ^ 64 = 18446744073709551616 := by decide
      rw [← h7, ← Int.pow_add]
      congr 1; omega
    omega
  · exact Int.ediv_le_ediv (p2_pos _) hle

/-- The long numbers behind the sure members. -/
theorem later_sure {A B : Int} {d : Nat} {u0 v0 u1 v1 : Int} {o : Bool} (S : Sure (A / 2 ^ d) (B / 2 ^ d) u0 v0 u1 v1 o) (hv : v0 ≠ 0) :
    ∃ p q : Int, sg (!o) * (u0 * A - v0 * B) = p ∧ sg o * (u1 * A - v1 * B) = q ∧ 0 ≤ q ∧ q < p ∧ p ≤ B ∧ Int.gcd p q = Int.gcd A B := by
  have hP := p2_pos d
  have e1 := Int.mul_ediv_add_emod A (2 ^ d)
  have e2 := Int.mul_ediv_add_emod B (2 ^ d)
  obtain ⟨r1, r2, r3, r4, r5⟩ := S.later hv (A := A) (B := B) (P := 2 ^ d) (A1 := A % 2 ^ d) (B1 := B % 2 ^ d) (by rw [Int.mul_comm (A / 2 ^ d)]; exact e1.symm) (by rw [Int.mul_comm (B / 2 ^ d)]; exact e2.symm) hP
    (Int.emod_nonneg _ (Int.ne_of_gt hP)) (Int.emod_lt_of_pos _ hP) (Int.emod_nonneg _ (Int.ne_of_gt hP)) (Int.emod_lt_of_pos _ hP) rfl rfl
  refine ⟨_, _, by rw [sg_not, Int.neg_mul], rfl, r1, r2, r3, ?_⟩
  exact (sure_gcd rfl rfl r4 r5).symm

section
variable {w : World} {a : Option Addr} {la ca : Nat} {b : Option Addr} {lb cb : Nat} {W W' : World}
end
/-- Old cells and marks behind a call. -/
theorem bcell {W w1 : World} (hb : Below W.heap.size W w1) : (∀ b o, b < W.heap.size → w1.cell? ⟨b, o, none⟩ = W.cell? ⟨b, o, none⟩) ∧ (∀ b o, b < W.heap.size → w1.frozen? ⟨b, o, none⟩ = W.frozen? ⟨b, o, none⟩) :=
  ⟨fun b o h => hb.cell (p := ⟨b, o, none⟩) h, fun b o h => hb.frozen (p := ⟨b, o, none⟩) h⟩
end Go.Proofs.YtmjfkciaohbkoaaDoor

namespace Go.Proofs.YtmjfkciaohbkoaaDoor
open Go.RowKit Go.Shelf
set_option linter.unusedVariables false

/-- A member of the row that lies in a variable. -/
def Mb (W : World) (b : Nat) (u v : Int) (o : Bool) : Prop := W.cell? ⟨b, 0, none⟩ = some (.int .u64 u) ∧ W.cell? ⟨b, 1, none⟩ = some (.int .u64 v) ∧ W.cell? ⟨b, 2, none⟩ = some (.bool o)
theorem Mb.lt {W : World} {b : Nat} {u v : Int} {o : Bool} (h : Mb W b u v o) : b < W.heap.size := Rd.lt (v := .int .u64 u) h.1
theorem Mb.after {W W' : World} (hb : Below W.heap.size W W') {b : Nat} {u v : Int} {o : Bool} (h : Mb W b u v o) : Mb W' b u v o := by
  have hl := h.lt
  obtain ⟨q, -⟩ := bcell hb
  exact ⟨by rw [q b 0 hl]; exact h.1, by rw [q b 1 hl]; exact h.2.1, by rw [q b 2 hl]; exact h.2.2⟩

theorem cell_put {W : World} {b o : Nat} {v : Value} (h : (W.cell? ⟨b, o, none⟩).isSome = true) : (W.setCell ⟨b, o, none⟩ v).cell? ⟨b, o, none⟩ = some v := by
  simp only [World.cell?, World.setCell, Array.getElem?_modify] at *
  cases hh : W.heap[b]? with
  | none => rw [hh] at h; simp at h
  | some x =>
    rw [hh] at h
    cases x <;> simp at h ⊢
    rw [Array.getElem?_setIfInBounds]
    simp [h]
theorem st3 {W : World} {b : Nat} {t : TypeId} {x y z : Value} (h : Va W b t #[x, y, z]) (x' y' z' : Value) {Q : World → Prop}
    (k : ∀ V, Va V b t #[x', y', z'] → (∀ c t cs, c ≠ b → Va W c t cs → Va V c t cs) → (∀ B v, B ≤ b → Below B v W → Below B v V) → Q V) : Q (((W.setCell ⟨b, 0, none⟩ x').setCell ⟨b, 1, none⟩ y').setCell ⟨b, 2, none⟩ z') :=
  k _ (h.set3 x' y' z') (fun c t cs hc hv => hv.other3 hc x' y' z') (fun B v hB hb => below_3 hb hB x' y' z')
theorem E8.st {w W : World} {a : Option Addr} {la ca : Nat} {b : Option Addr} {lb cb : Nat} {b7 b8 : Nat} {u0 v0 : Int} {p : Bool} {u1 v1 : Int} {o : Bool} (h : W.cell? ⟨w.heap.size, 0, none⟩ = some (.slice a la ca) ∧ W.cell? ⟨w.heap.size + 1, 0, none⟩ = some (.slice b lb cb) ∧ W.cell? ⟨b7, 0, none⟩ = some (.int .u64 u0) ∧ W.cell? ⟨b7, 1, none⟩ = some (.int .u64 v0) ∧ W.cell? ⟨b7, 2, none⟩ = some (.bool p) ∧ W.cell? ⟨b8, 0, none⟩ = some (.int .u64 u1) ∧ W.cell? ⟨b8, 1, none⟩ = some (.int .u64 v1) ∧ W.cell? ⟨b8, 2, none⟩ = some (.bool o)) {d : Nat} {v : Value} (h0 : w.heap.size + 2 ≤ d) (h7 : d < b7) (h8 : d < b8) : (W.setCell ⟨d, 0, none⟩ v).cell? ⟨w.heap.size, 0, none⟩ = some (.slice a la ca) ∧ (W.setCell ⟨d, 0, none⟩ v).cell? ⟨w.heap.size + 1, 0, none⟩ = some (.slice b lb cb) ∧ (W.setCell ⟨d, 0, none⟩ v).cell? ⟨b7, 0, none⟩ = some (.int .u64 u0) ∧ (W.setCell ⟨d, 0, none⟩ v).cell? ⟨b7, 1, none⟩ = some (.int .u64 v0) ∧ (W.setCell ⟨d, 0, none⟩ v).cell? ⟨b7, 2, none⟩ = some (.bool p) ∧ (W.setCell ⟨d, 0, none⟩ v).cell? ⟨b8, 0, none⟩ = some (.int .u64 u1) ∧ (W.setCell ⟨d, 0, none⟩ v).cell? ⟨b8, 1, none⟩ = some (.int .u64 v1) ∧ (W.setCell ⟨d, 0, none⟩ v).cell? ⟨b8, 2, none⟩ = some (.bool o) := by
  obtain ⟨r1, r2, r3, r4, r5, r6, r7, r8⟩ := h
  refine ⟨?_, ?_, ?_, ?_, ?_, ?_, ?_, ?_⟩ <;> (rw [cell_stc _ _ _ _ _ (by omega)]; assumption)
end Go.Proofs.YtmjfkciaohbkoaaDoor

namespace Go.Proofs.YtmjfkciaohbkoaaDoor
open Go.RowKit Go.Shelf

end Go.Proofs.YtmjfkciaohbkoaaDoor
