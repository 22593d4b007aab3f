/-
  tokens: the kept words, Word.
-/
import Derived.Test.YtblafbbnplfpjaaGreatDoorTu1
import Derived.Maps.OwnSet
namespace Go.Proofs.YtblafbbnplfpjaaGreatDoor
open Go.RowKit Go.Shelf Go.Maps
set_option linter.unusedVariables false
set_option maxRecDepth 20000

/-- The kept words. -/
def kwL : List (List UInt8) := [[99, 117, 114, 114, 101, 110, 99, 121], [112, 108, 97, 99, 101], [116, 97, 120], [114, 97, 116, 101], [101, 120, 101, 109, 112, 116], [108, 101, 97, 115, 116], [105, 110], [109, 111, 110, 101, 121], [114, 111, 117, 110, 100], [108, 105, 110, 101], [105, 110, 118, 111, 105, 99, 101], [111, 110], [105, 110, 115, 116, 101, 97, 100], [102, 111, 114], [102, 114, 111, 109], [116, 111], [119, 104, 101, 110], [111, 114], [97, 110, 100], [110, 111, 116], [98, 117, 121, 101, 114], [97, 109, 111, 117, 110, 116], [113, 117, 97, 110, 116, 105, 116, 121], [97, 98, 111, 118, 101], [102, 108, 111, 111, 114], [99, 101, 105, 108], [117, 112], [100, 111, 119, 110], [101, 118, 101, 110]]
theorem lawS : Keyed Tryz.prog 9 := string_keyed Tryz.underlying9
theorem zeroU (w : World) : (zeroValue 110).run Tryz.prog w = .ok (.agg #[]) w := by kernel_rfl
abbrev OwS (w : World) (b n : Nat) (D : DataW Unit) : Prop := w.ownsMap Tryz.prog 9 (unitElem (H := Unit)) b n D
theorem put_word {w : World} {b n : Nat} {D : DataW Unit} (h : OwS w b n D) (l : List UInt8) (hl : l.length ≤ 100) (hn : n < 1000) : ∃ w', (Instr.mapUpdate 112 (.map (some b)) (sv l) (.agg #[])).run Tryz.prog w = .ok () w' ∧ OwS w' b (n + 1) (D.put (.string l) (.agg [])) ∧ w.grownBy w' (some b) := by
  have hk : keyOf Tryz.prog 9 (sv l) = some (.string l) := by
    have := WideMaps.keyOf_string_mk (P := Tryz.prog) Tryz.underlying9 (s := ⟨l.toArray⟩) (by rw [bsize]; unfold maxLen; omega)
    simpa using this
  exact h.update lawS Tryz.underlying112 (by unfold maxLen; omega) hk unitElem_mk
set_option maxHeartbeats 2000000 in
set_option maxRecDepth 10000 in
theorem keptWords_any (w : World) : Calls Tryz.prog 73 #[] w fun e w' => e = .returned (.map (some w.heap.size)) ∧ OwS w' w.heap.size 29 (setOf (.agg []) (kwL.map Lit.string)) ∧ Below w.heap.size w w' := by
  have hmm := @run_makeMap Tryz.prog
  have o0 : OwS (w.alloc (.map #[] 0)) w.heap.size 0 (.map []) := World.ownsMap_made w _ _ _
  have b0 : Below w.heap.size w (w.alloc (.map #[] 0)) := (Below.refl _ _).alloc (Nat.le_refl _) _
  obtain ⟨w1, r1, o1, g1⟩ := put_word o0 [99, 117, 114, 114, 101, 110, 99, 121] (by decide) (by omega)
  have b1 : Below w.heap.size w w1 := b0.grown g1 b0.size (fun k hk => by cases hk; exact Nat.le_refl _)
  clear o0 b0 g1
  obtain ⟨w2, r2, o2, g2⟩ := put_word o1 [112, 108, 97, 99, 101] (by decide) (by omega)
  have b2 : Below w.heap.size w w2 := b1.grown g2 b1.size (fun k hk => by cases hk; exact Nat.le_refl _)
  clear o1 b1 g2
  obtain ⟨w3, r3, o3, g3⟩ := put_word o2 [116, 97, 120] (by decide) (by omega)
  have b3 : Below w.heap.size w w3 := b2.grown g3 b2.size (fun k hk => by cases hk; exact Nat.le_refl _)
  clear o2 b2 g3
  obtain ⟨w4, r4, o4, g4⟩ := put_word o3 [114, 97, 116, 101] (by decide) (by omega)
  have b4 : Below w.heap.size w w4 := b3.grown g4 b3.size (fun k hk => by cases hk; exact Nat.le_refl _)
  clear o3 b3 g4
  obtain ⟨w5, r5, o5, g5⟩ := put_word o4 [101, 120, 101, 109, 112, 116] (by decide) (by omega)
  have b5 : Below w.heap.size w w5 := b4.grown g5 b4.size (fun k hk => by cases hk; exact Nat.le_refl _)
  clear o4 b4 g5
  obtain ⟨w6, r6, o6, g6⟩ := put_word o5 [108, 101, 97, 115, 116] (by decide) (by omega)
  have b6 : Below w.heap.size w w6 := b5.grown g6 b5.size (fun k hk => by cases hk; exact Nat.le_refl _)
  clear o5 b5 g6
  obtain ⟨w7, r7, o7, g7⟩ := put_word o6 [105, 110] (by decide) (by omega)
  have b7 : Below w.heap.size w w7 := b6.grown g7 b6.size (fun k hk => by cases hk; exact Nat.le_refl _)
  clear o6 b6 g7
  obtain ⟨w8, r8, o8, g8⟩ := put_word o7 [109, 111, 110, 101, 121] (by decide) (by omega)
  have b8 : Below w.heap.size w w8 := b7.grown g8 b7.size (fun k hk => by cases hk; exact Nat.le_refl _)
  clear o7 b7 g8
  obtain ⟨w9, r9, o9, g9⟩ := put_word o8 [114, 111, 117, 110, 100] (by decide) (by omega)
  have b9 : Below w.heap.size w w9 := b8.grown g9 b8.size (fun k hk => by cases hk; exact Nat.le_refl _)
  clear o8 b8 g9
  obtain ⟨w10, r10, o10, g10⟩ := put_word o9 [108, 105, 110, 101] (by decide) (by omega)
  have b10 : Below w.heap.size w w10 := b9.grown g10 b9.size (fun k hk => by cases hk; exact Nat.le_refl _)
  clear o9 b9 g10
  obtain ⟨w11, r11, o11, g11⟩ := put_word o10 [105, 110, 118, 111, 105, 99, 101] (by decide) (by omega)
  have b11 : Below w.heap.size w w11 := b10.grown g11 b10.size (fun k hk => by cases hk; exact Nat.le_refl _)
  clear o10 b10 g11
  obtain ⟨w12, r12, o12, g12⟩ := put_word o11 [111, 110] (by decide) (by omega)
  have b12 : Below w.heap.size w w12 := b11.grown g12 b11.size (fun k hk => by cases hk; exact Nat.le_refl _)
  clear o11 b11 g12
  obtain ⟨w13, r13, o13, g13⟩ := put_word o12 [105, 110, 115, 116, 101, 97, 100] (by decide) (by omega)
  have b13 : Below w.heap.size w w13 := b12.grown g13 b12.size (fun k hk => by cases hk; exact Nat.le_refl _)
  clear o12 b12 g13
  obtain ⟨w14, r14, o14, g14⟩ := put_word o13 [102, 111, 114] (by decide) (by omega)
  have b14 : Below w.heap.size w w14 := b13.grown g14 b13.size (fun k hk => by cases hk; exact Nat.le_refl _)
  clear o13 b13 g14
  obtain ⟨w15, r15, o15, g15⟩ := put_word o14 [102, 114, 111, 109] (by decide) (by omega)
  have b15 : Below w.heap.size w w15 := b14.grown g15 b14.size (fun k hk => by cases hk; exact Nat.le_refl _)
  clear o14 b14 g15
  obtain ⟨w16, r16, o16, g16⟩ := put_word o15 [116, 111] (by decide) (by omega)
  have b16 : Below w.heap.size w w16 := b15.grown g16 b15.size (fun k hk => by cases hk; exact Nat.le_refl _)
  clear o15 b15 g16
  obtain ⟨w17, r17, o17, g17⟩ := put_word o16 [119, 104, 101, 110] (by decide) (by omega)
  have b17 : Below w.heap.size w w17 := b16.grown g17 b16.size (fun k hk => by cases hk; exact Nat.le_refl _)
  clear o16 b16 g17
  obtain ⟨w18, r18, o18, g18⟩ := put_word o17 [111, 114] (by decide) (by omega)
  have b18 : Below w.heap.size w w18 := b17.grown g18 b17.size (fun k hk => by cases hk; exact Nat.le_refl _)
  clear o17 b17 g18
  obtain ⟨w19, r19, o19, g19⟩ := put_word o18 [97, 110, 100] (by decide) (by omega)
  have b19 : Below w.heap.size w w19 := b18.grown g19 b18.size (fun k hk => by cases hk; exact Nat.le_refl _)
  clear o18 b18 g19
  obtain ⟨w20, r20, o20, g20⟩ := put_word o19 [110, 111, 116] (by decide) (by omega)
  have b20 : Below w.heap.size w w20 := b19.grown g20 b19.size (fun k hk => by cases hk; exact Nat.le_refl _)
  clear o19 b19 g20
  obtain ⟨w21, r21, o21, g21⟩ := put_word o20 [98, 117, 121, 101, 114] (by decide) (by omega)
  have b21 : Below w.heap.size w w21 := b20.grown g21 b20.size (fun k hk => by cases hk; exact Nat.le_refl _)
  clear o20 b20 g21
  obtain ⟨w22, r22, o22, g22⟩ := put_word o21 [97, 109, 111, 117, 110, 116] (by decide) (by omega)
  have b22 : Below w.heap.size w w22 := b21.grown g22 b21.size (fun k hk => by cases hk; exact Nat.le_refl _)
  clear o21 b21 g22
  obtain ⟨w23, r23, o23, g23⟩ := put_word o22 [113, 117, 97, 110, 116, 105, 116, 121] (by decide) (by omega)
  have b23 : Below w.heap.size w w23 := b22.grown g23 b22.size (fun k hk => by cases hk; exact Nat.le_refl _)
  clear o22 b22 g23
  obtain ⟨w24, r24, o24, g24⟩ := put_word o23 [97, 98, 111, 118, 101] (by decide) (by omega)
  have b24 : Below w.heap.size w w24 := b23.grown g24 b23.size (fun k hk => by cases hk; exact Nat.le_refl _)
  clear o23 b23 g24
  obtain ⟨w25, r25, o25, g25⟩ := put_word o24 [102, 108, 111, 111, 114] (by decide) (by omega)
  have b25 : Below w.heap.size w w25 := b24.grown g25 b24.size (fun k hk => by cases hk; exact Nat.le_refl _)
  clear o24 b24 g25
  obtain ⟨w26, r26, o26, g26⟩ := put_word o25 [99, 101, 105, 108] (by decide) (by omega)
  have b26 : Below w.heap.size w w26 := b25.grown g26 b25.size (fun k hk => by cases hk; exact Nat.le_refl _)
  clear o25 b25 g26
  obtain ⟨w27, r27, o27, g27⟩ := put_word o26 [117, 112] (by decide) (by omega)
  have b27 : Below w.heap.size w w27 := b26.grown g27 b26.size (fun k hk => by cases hk; exact Nat.le_refl _)
  clear o26 b26 g27
  obtain ⟨w28, r28, o28, g28⟩ := put_word o27 [100, 111, 119, 110] (by decide) (by omega)
  have b28 : Below w.heap.size w w28 := b27.grown g28 b27.size (fun k hk => by cases hk; exact Nat.le_refl _)
  clear o27 b27 g28
  obtain ⟨w29, r29, o29, g29⟩ := put_word o28 [101, 118, 101, 110] (by decide) (by omega)
  have b29 : Below w.heap.size w w29 := b28.grown g29 b28.size (fun k hk => by cases hk; exact Nat.le_refl _)
  clear o28 b28 g29
  have HO : Hid (OwS w29 w.heap.size 29 (setOf (.agg []) (kwL.map Lit.string))) := o29
  have HB : Hid (Below w.heap.size w w29) := b29
  clear o29 b29
  go_enter Tryz.func73, Tryz.ntmps73
  go_wp2_with fail
  go_ret
  exact ⟨rfl, HO.out, HB.out⟩
/-- Word, of bytes. -/
def wdB (s : List UInt8) : Bool := decide (s ≠ []) && decide (s.length ≤ 24) && decide (pt s = s.length) && !(kwL.any (fun x => x == s))
theorem has_kept (s : List UInt8) : Maps.has (setOf (H := Unit) (.agg []) (kwL.map Lit.string)) (.string s) = kwL.any (fun x => x == s) := by
  rw [has_setOf _ _ _ (by intro x hx; obtain ⟨y, -, rfl⟩ := List.mem_map.1 hx; trivial), List.any_map]
  congr 1
set_option maxHeartbeats 1000000 in
theorem word_B (s : List UInt8) (w : World) : Calls Tryz.prog 48 #[sv s] w fun e w' => e = .returned (.bool (wdB s)) ∧ Below w.heap.size w w' := by
  cases hs0 : s with
  | nil =>
    go_enter Tryz.func48, Tryz.ntmps48
    go_wp2_with fail
    go_ret
    exact ⟨rfl, Below.refl _ _⟩
  | cons c t =>
    rw [← hs0]
    have hne : s ≠ [] := by rw [hs0]; simp
    have n1 : (s == []) = false := by simpa using hne
    have n2 : ([] == s) = false := by simpa using hne
    clear hs0
    rcases Nat.lt_or_ge 24 s.length with h24 | h24
    · have HE : Hid (wdB s = false) := by show _ = _; unfold wdB; simp; intro h; omega
      have hi : (24 : Int) < s.length := by omega
      clear h24 hne
      go_enter Tryz.func48, Tryz.ntmps48
      go_wp2_with fail
      go_ret
      exact ⟨by rw [HE.out]; rfl, Below.refl _ _⟩
    · have hi : (s.length : Int) ≤ 24 := by omega
      have hp := fun W => part_any s W (by omega)
      have hpl := pt_le s
      have HW : Hid (wdB s = (decide (pt s = s.length) && !(kwL.any (fun x => x == s)))) := by show _ = _; unfold wdB; simp [hne, h24]
      generalize pt s = q at *
      by_cases hq : q = s.length
      · subst hq
        have HE : Hid (wdB s = !(kwL.any (fun x => x == s))) := by show _ = _; rw [HW.out]; simp
        have hkey : keyOf Tryz.prog 9 (sv s) = some (.string s) := by
          have := WideMaps.keyOf_string_mk (P := Tryz.prog) Tryz.underlying9 (s := ⟨s.toArray⟩) (by rw [bsize]; unfold maxLen; omega)
          simpa using this
        clear HW h24 hpl hne
        go_enter Tryz.func48, Tryz.ntmps48
        go_wp2_with fail
        refine (hp _).mono ?_
        rintro e w' ⟨rfl, hw'⟩
        rw [hw']; clear hw' w' hp
        go_wp2_with fail
        refine (keptWords_any w).mono ?_
        rintro e w1 ⟨rfl, ho, hb⟩
        have HO : Hid (OwS w1 w.heap.size 29 (setOf (.agg []) (kwL.map Lit.string))) := ho
        have HB : Hid (Below w.heap.size w w1) := hb
        clear ho hb
        go_wp2_with (at_lookup; refine wpList_lookup_own_unit _ rfl _ _ 112 rfl 9 110 lawS Tryz.underlying112 (zeroU _) w.heap.size 29 _ rfl HO.out _ _ rfl hkey ?_; rw [has_kept])
        go_ret
        exact ⟨by rw [HE.out]; rfl, HB.out.alloc HB.out.size _⟩
      · have HE : Hid (wdB s = false) := by show _ = _; rw [HW.out]; simp [hq]
        have hqi : (q : Int) < s.length := by omega
        clear HW hq h24 hne
        go_enter Tryz.func48, Tryz.ntmps48
        go_wp2_with fail
        refine (hp _).mono ?_
        rintro e w' ⟨rfl, hw'⟩
        rw [hw']; clear hw' w' hp
        go_wp2_with fail
        go_ret
        exact ⟨by rw [HE.out]; rfl, Below.refl _ _⟩
end Go.Proofs.YtblafbbnplfpjaaGreatDoor
