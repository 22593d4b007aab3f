/-
  tokens: the kept words, Word.
-/
import Derived.Test.YtblafbbnplfpjaaGreatDoorMgAg
import Derived.Maps.OwnSet
import Derived.Test.YtblafbbnplfpjaaGreatDoorMgAa
import Derived.Test.YtblafbbnplfpjaaGreatDoorMgAf
import Derived.Test.YtblafbbnplfpjaaGreatDoorMgAe
namespace Go.Proofs.YtblafbbnplfpjaaGreatDoor
open Go.RowKit Go.Shelf Go.Maps
set_option linter.unusedVariables false
set_option maxRecDepth 20000

/-- The kept words. -/
def kwL : List (List UInt8) := [[99, 117, 114, 114, 101, 110, 99, 121], [112, 108, 97, 99, 101], [116, 97, 120], [114, 97, 116, 101], [101, 120, 101, 109, 112, 116], [108, 101, 97, 115, 116], [105, 110], [109, 111, 110, 101, 121], [114, 111, 117, 110, 100], [108, 105, 110, 101], [105, 110, 118, 111, 105, 99, 101], [111, 110], [105, 110, 115, 116, 101, 97, 100], [102, 111, 114], [102, 114, 111, 109], [116, 111], [119, 104, 101, 110], [111, 114], [97, 110, 100], [110, 111, 116], [98, 117, 121, 101, 114], [97, 109, 111, 117, 110, 116], [113, 117, 97, 110, 116, 105, 116, 121], [97, 98, 111, 118, 101], [102, 108, 111, 111, 114], [99, 101, 105, 108], [117, 112], [100, 111, 119, 110], [101, 118, 101, 110]]
theorem lawS : Keyed Tryz.prog 9 := string_keyed Tryz.underlying9
theorem zeroU (w : World) : (zeroValue 110).run Tryz.prog w = .ok (.agg #[]) w := by kernel_rfl
abbrev OwS (w : World) (b n : Nat) (D : DataW Unit) : Prop := w.ownsMap Tryz.prog 9 (unitElem (H := Unit)) b n D
theorem put_word {w : World} {b n : Nat} {D : DataW Unit} (h : OwS w b n D) (l : List UInt8) (hl : l.length ≤ 100) (hn : n < 1000) : ∃ w', (Instr.mapUpdate 112 (.map (some b)) (sv l) (.agg #[])).run Tryz.prog w = .ok () w' ∧ OwS w' b (n + 1) (D.put (.string l) (.agg [])) ∧ w.grownBy w' (some b) := by
  have hk : keyOf Tryz.prog 9 (sv l) = some (.string l) := by
    have := WideMaps.keyOf_string_mk (P := Tryz.prog) Tryz.underlying9 (s := ⟨l.toArray⟩) (by rw [bsize]; unfold maxLen; omega)
    simpa using this
  exact h.update lawS Tryz.underlying112 (by unfold maxLen; omega) hk unitElem_mk
set_option maxHeartbeats 2000000 in
set_option maxRecDepth 10000 in
theorem keptWords_any (w : World) : Calls Tryz.prog 73 #[] w fun e w' => e = .returned (.map (some w.heap.size)) ∧ OwS w' w.heap.size 29 (setOf (.agg []) (kwL.map Lit.string)) ∧ Below w.heap.size w w' := by
  have hmm := @run_makeMap Tryz.prog
  have o0 : OwS (w.alloc (.map #[] 0)) w.heap.size 0 (.map []) := World.ownsMap_made w _ _ _
  have b0 : Below w.heap.size w (w.alloc (.map #[] 0)) := (Below.refl _ _).alloc (Nat.le_refl _) _
  obtain ⟨w1, r1, o1, g1⟩ := put_word o0 [99, 117, 114, 114, 101, 110, 99, 121] (by decide) (by omega)
  have b1 : Below w.heap.size w w1 := b0.grown g1 b0.size (fun k hk => by cases hk; exact Nat.le_refl _)
  clear o0 b0 g1
  obtain ⟨w2, r2, o2, g2⟩ := put_word o1 [112, 108, 97, 99, 101] (by decide) (by omega)
  have b2 : Below w.heap.size w w2 := b1.grown g2 b1.size (fun k hk => by cases hk; exact Nat.le_refl _)
  clear o1 b1 g2
  obtain ⟨w3, r3, o3, g3⟩ := put_word o2 [116, 97, 120] (by decide) (by omega)
  have b3 : Below w.heap.size w w3 := b2.grown g3 b2.size (fun k hk => by cases hk; exact Nat.le_refl _)
  clear o2 b2 g3
  obtain ⟨w4, r4, o4, g4⟩ := put_word o3 [114, 97, 116, 101] (by decide) (by omega)
  have b4 : Below w.heap.size w w4 := b3.grown g4 b3.size (fun k hk => by cases hk; exact Nat.le_refl _)
  clear o3 b3 g4
  obtain ⟨w5, r5, o5, g5⟩ := put_word o4 [101, 120, 101, 109, 112, 116] (by decide) (by omega)
  have b5 : Below w.heap.size w w5 := b4.grown g5 b4.size (fun k hk => by cases hk; exact Nat.le_refl _)
  clear o4 b4 g5
  obtain ⟨w6, r6, o6, g6⟩ := put_word o5 [108, 101, 97, 115, 116] (by decide) (by omega)
  have b6 : Below w.heap.size w w6 := b5.grown g6 b5.size (fun k hk => by cases hk; exact Nat.le_refl _)
  clear o5 b5 g6
  obtain ⟨w7, r7, o7, g7⟩ := put_word o6 [105, 110] (by decide) (by omega)
  have b7 : Below w.heap.size w w7 := b6.grown g7 b6.size (fun k hk => by cases hk; exact Nat.le_refl _)
  clear o6 b6 g7
  obtain ⟨w8, r8, o8, g8⟩ := put_word o7 [109, 111, 110, 101, 121] (by decide) (by omega)
  have b8 : Below w.heap.size w w8 := b7.grown g8 b7.size (fun k hk => by cases hk; exact Nat.le_refl _)
  clear o7 b7 g8
  obtain ⟨w9, r9, o9, g9⟩ := put_word o8 [114, 111, 117, 110, 100] (by decide) (by omega)
  have b9 : Below w.heap.size w w9 := b8.grown g9 b8.size (fun k hk => by cases hk; exact Nat.le_refl _)
  clear o8 b8 g9
  obtain ⟨w10, r10, o10, g10⟩ := put_word o9 [108, 105, 110, 101] (by decide) (by omega)
  have b10 : Below w.heap.size w w10 := b9.grown g10 b9.size (fun k hk => by cases hk; exact Nat.le_refl _)
  clear o9 b9 g10
  obtain ⟨w11, r11, o11, g11⟩ := put_word o10 [105, 110, 118, 111, 105, 99, 101] (by decide) (by omega)
  have b11 : Below w.heap.size w w11 := b10.grown g11 b10.size (fun k hk => by cases hk; exact Nat.le_refl _)
  clear o10 b10 g11
  obtain ⟨w12, r12, o12, g12⟩ := put_word o11 [111, 110] (by decide) (by omega)
  have b12 : Below w.heap.size w w12 := b11.grown g12 b11.size (fun k hk => by cases hk; exact Nat.le_refl _)
  clear o11 b11 g12
  obtain ⟨w13, r13, o13, g13⟩ := put_word o12 [105, 110, 115, 116, 101, 97, 100] (by decide) (by omega)
  have b13 : Below w.heap.size w w13 := b12.grown g13 b12.size (fun k hk => by cases hk; exact Nat.le_refl _)
  clear o12 b12 g13
  obtain ⟨w14, r14, o14, g14⟩ := put_word o13 [102, 111, 114] (by decide) (by omega)
  have b14 : Below w.heap.size w w14 := b13.grown g14 b13.size (fun k hk => by cases hk; exact Nat.le_refl _)
  clear o13 b13 g14
  obtain ⟨w15, r15, o15, g15⟩ := put_word o14 [102, 114, 111, 109] (by decide) (by omega)
  have b15 : Below w.heap.size w w15 := b14.grown g15 b14.size (fun k hk => by cases hk; exact Nat.le_refl _)
  clear o14 b14 g15
  obtain ⟨w16, r16, o16, g16⟩ := put_word o15 [116, 111] (by decide) (by omega)
  have b16 : Below w.heap.size w w16 := b15.grown g16 b15.size (fun k hk => by cases hk; exact Nat.le_refl _)
  clear o15 b15 g16
  obtain ⟨w17, r17, o17, g17⟩ := put_word o16 [119, 104, 101, 110] (by decide) (by omega)
  have b17 : Below w.heap.size w w17 := b16.grown g17 b16.size (fun k hk => by cases hk; exact Nat.le_refl _)
  clear o16 b16 g17
  obtain ⟨w18, r18, o18, g18⟩ := put_word o17 [111, 114] (by decide) (by omega)
  have b18 : Below w.heap.size w w18 := b17.grown g18 b17.size (fun k hk => by cases hk; exact Nat.le_refl _)
  clear o17 b17 g18
  obtain ⟨w19, r19, o19, g19⟩ := put_word o18 [97, 110, 100] (by decide) (by omega)
  have b19 : Below w.heap.size w w19 := b18.grown g19 b18.size (fun k hk => by cases hk; exact Nat.le_refl _)
  clear o18 b18 g19
  obtain ⟨w20, r20, o20, g20⟩ := put_word o19 [110, 111, 116] (by decide) (by omega)
  have b20 : Below w.heap.size w w20 := b19.grown g20 b19.size (fun k hk => by cases hk; exact Nat.le_refl _)
  clear o19 b19 g20
  obtain ⟨w21, r21, o21, g21⟩ := put_word o20 [98, 117, 121, 101, 114] (by decide) (by omega)
  have b21 : Below w.heap.size w w21 := b20.grown g21 b20.size (fun k hk => by cases hk; exact Nat.le_refl _)
  clear o20 b20 g21
  obtain ⟨w22, r22, o22, g22⟩ := put_word o21 [97, 109, 111, 117, 110, 116] (by decide) (by omega)
  have b22 : Below w.heap.size w w22 := b21.grown g22 b21.size (fun k hk => by cases hk; exact Nat.le_refl _)
  clear o21 b21 g22
  obtain ⟨w23, r23, o23, g23⟩ := put_word o22 [113, 117, 97, 110, 116, 105, 116, 121] (by decide) (by omega)
  have b23 : Below w.heap.size w w23 := b22.grown g23 b22.size (fun k hk => by cases hk; exact Nat.le_refl _)
  clear o22 b22 g23
  obtain ⟨w24, r24, o24, g24⟩ := put_word o23 [97, 98, 111, 118, 101] (by decide) (by omega)
  have b24 : Below w.heap.size w w24 := b23.grown g24 b23.size (fun k hk => by cases hk; exact Nat.le_refl _)
  clear o23 b23 g24
  obtain ⟨w25, r25, o25, g25⟩ := put_word o24 [102, 108, 111, 111, 114] (by decide) (by omega)
  have b25 : Below w.heap.size w w25 := b24.grown g25 b24.size (fun k hk => by cases hk; exact Nat.le_refl _)
  clear o24 b24 g25
  obtain ⟨w26, r26, o26, g26⟩ := put_word o25 [99, 101, 105, 108] (by decide) (by omega)
  have b26 : Below w.heap.size w w26 := b25.grown g26 b25.size (fun k hk => by cases hk; exact Nat.le_refl _)
  clear o25 b25 g26
  obtain ⟨w27, r27, o27, g27⟩ := put_word o26 [117, 112] (by decide) (by omega)
  have b27 : Below w.heap.size w w27 := b26.grown g27 b26.size (fun k hk => by cases hk; exact Nat.le_refl _)
  clear o26 b26 g27
  obtain ⟨w28, r28, o28, g28⟩ := put_word o27 [100, 111, 119, 110] (by decide) (by omega)
  have b28 : Below w.heap.size w w28 := b27.grown g28 b27.size (fun k hk => by cases hk; exact Nat.le_refl _)
  clear o27 b27 g28
  obtain ⟨w29, r29, o29, g29⟩ := put_word o28 [101, 118, 101, 110] (by decide) (by omega)
  have b29 : Below w.heap.size w w29 := b28.grown g29 b28.size (fun k hk => by cases hk; exact Nat.le_refl _)
  clear o28 b28 g29
  have HO : Hid (OwS w29 w.heap.size 29 (setOf (.agg []) (kwL.map Lit.string))) := o29
  have HB : Hid (Below w.heap.size w w29) := b29
  clear o29 b29
  go_enter Tryz.func73, Tryz.ntmps73
  go_wp2_with fail
  go_ret
  exact ⟨rfl, HO.out, HB.out⟩
/-- Word, of bytes. -/
def wdB (s : List UInt8) : Bool := decide (s ≠ []) && decide (s.length ≤ 24) && decide (pt s = s.length) && !(kwL.any (fun x => x == s))
theorem has_kept (s : List UInt8) : Maps.has (setOf (H := Unit) (.agg []) (kwL.map Lit.string)) (.string s) = kwL.any (fun x => x == s) := by
  rw [has_setOf _ _ _ (by intro x hx; obtain ⟨y, -, rfl⟩ := List.mem_map.1 hx; trivial), List.any_map]
  congr 1
set_option maxHeartbeats 1000000 in
theorem word_B (s : List UInt8) (w : World) : Calls Tryz.prog 48 #[sv s] w fun e w' => e = .returned (.bool (wdB s)) ∧ Below w.heap.size w w' := by
  cases hs0 : s with
  | nil =>
    go_enter Tryz.func48, Tryz.ntmps48
    go_wp2_with fail
    go_ret
    exact ⟨rfl, Below.refl _ _⟩
  | cons c t =>
    rw [← hs0]
    have hne : s ≠ [] := by rw [hs0]; simp
    have n1 : (s == []) = false := by simpa using hne
    have n2 : ([] == s) = false := by simpa using hne
    clear hs0
    rcases Nat.lt_or_ge 24 s.length with h24 | h24
    · have HE : Hid (wdB s = false) := by show _ = _; unfold wdB; simp; intro h; omega
      have hi : (24 : Int) < s.length := by omega
      clear h24 hne
      go_enter Tryz.func48, Tryz.ntmps48
      go_wp2_with fail
      go_ret
      exact ⟨by rw [HE.out]; rfl, Below.refl _ _⟩
    · have hi : (s.length : Int) ≤ 24 := by omega
      have hp := fun W => part_any s W (by omega)
      have hpl := pt_le s
      have HW : Hid (wdB s = (decide (pt s = s.length) && !(kwL.any (fun x => x == s)))) := by show _ = _; unfold wdB; simp [hne, h24]
      generalize pt s = q at *
      by_cases hq : q = s.length
      · subst hq
        have HE : Hid (wdB s = !(kwL.any (fun x => x == s))) := by show _ = _; rw [HW.out]; simp
        have hkey : keyOf Tryz.prog 9 (sv s) = some (.string s) := by
          have := WideMaps.keyOf_string_mk (P := Tryz.prog) Tryz.underlying9 (s := ⟨s.toArray⟩) (by rw [bsize]; unfold maxLen; omega)
          simpa using this
        clear HW h24 hpl hne
        go_enter Tryz.func48, Tryz.ntmps48
        go_wp2_with fail
        refine (hp _).mono ?_
        rintro e w' ⟨rfl, hw'⟩
        rw [hw']; clear hw' w' hp
        go_wp2_with fail
        refine (keptWords_any w).mono ?_
        rintro e w1 ⟨rfl, ho, hb⟩
        have HO : Hid (OwS w1 w.heap.size 29 (setOf (.agg []) (kwL.map Lit.string))) := ho
        have HB : Hid (Below w.heap.size w w1) := hb
        clear ho hb
        go_wp2_with (at_lookup; refine wpList_lookup_own_unit _ rfl _ _ 112 rfl 9 110 lawS Tryz.underlying112 (zeroU _) w.heap.size 29 _ rfl HO.out _ _ rfl hkey ?_; rw [has_kept])
        go_ret
        exact ⟨by rw [HE.out]; rfl, HB.out.alloc HB.out.size _⟩
      · have HE : Hid (wdB s = false) := by show _ = _; rw [HW.out]; simp [hq]
        have hqi : (q : Int) < s.length := by omega
        clear HW hq h24 hne
        go_enter Tryz.func48, Tryz.ntmps48
        go_wp2_with fail
        refine (hp _).mono ?_
        rintro e w' ⟨rfl, hw'⟩
        rw [hw']; clear hw' w' hp
        go_wp2_with fail
        go_ret
        exact ⟨by rw [HE.out]; rfl, Below.refl _ _⟩
end Go.Proofs.YtblafbbnplfpjaaGreatDoor
namespace Go.Proofs.YtblafbbnplfpjaaGreatDoor
open Go.RowKit Go.Shelf
set_option linter.unusedVariables false

/-- A node's cells. -/
def encN (n : Nd) : List Value := [.int .i64 n.kd, .int .i64 n.ks, sv n.nm, .int .i64 n.op, .int .i64 n.un, .int .i64 n.pl]
/-- A node as a value. -/
abbrev nv (n : Nd) : Value := .agg #[.int .i64 n.kd, .int .i64 n.ks, sv n.nm, .int .i64 n.op, .int .i64 n.un, .int .i64 n.pl]
theorem infoN : (Tryz.prog.info? 48).map (fun i => (i.zero, i.size, i.bytes)) = some (some (.agg #[.int .i64 0, .int .i64 0, .string ⟨#[]⟩, .int .i64 0, .int .i64 0, .int .i64 0]), 6, 56) := by kernel_rfl
def elN : El Nd where
  enc := encN
  dft := nd0
  te := 48
  tl := 22
  z := .agg #[.int .i64 0, .int .i64 0, .string ⟨#[]⟩, .int .i64 0, .int .i64 0, .int .i64 0]
  s := 6
  by8 := 56
  len := fun _ => rfl
  one := fun x v hv => by
    simp [encN] at hv
    rcases hv with rfl | rfl | rfl | rfl | rfl | rfl <;> rfl
  pos := by decide
  und := Tryz.underlying22
  inf := infoN
  zs := rfl
  bt := by decide
/-- A node of 64 bits. -/
def N64 (n : Nd) : Prop := ∀ x ∈ [n.kd, n.ks, n.op, n.un, n.pl], -9223372036854775808 ≤ x ∧ x ≤ 9223372036854775807

/-- What isOp answers. -/
def opB (op : Int) : Bool := decide (1 ≤ op ∧ op ≤ 4)
theorem isOp_any (op : Int) (w : World) : Calls Tryz.prog 49 #[.int .i64 op] w fun e w' => e = .returned (.bool (opB op)) ∧ w' = w := by
  by_cases h1 : 1 ≤ op
  · by_cases h2 : op ≤ 4
    · have HE : Hid (opB op = true) := by show _ = _; simp [opB, h1, h2]
      go_enter Tryz.func49, Tryz.ntmps49
      go_wp2_with fail
      go_ret
      exact ⟨by rw [HE.out]; rfl, rfl⟩
    · have HE : Hid (opB op = false) := by show _ = _; simp [opB, h1, h2]
      go_enter Tryz.func49, Tryz.ntmps49
      go_wp2_with fail
      go_ret
      exact ⟨by rw [HE.out]; rfl, rfl⟩
  · have HE : Hid (opB op = false) := by show _ = _; simp [opB, h1]
    go_enter Tryz.func49, Tryz.ntmps49
    go_wp2_with fail
    go_ret
    exact ⟨by rw [HE.out]; rfl, rfl⟩
theorem isValue_yes (U P : Int) (hc : CanI U P) (hu : 0 ≤ U) (w : World) : Calls Tryz.prog 50 #[.agg #[.int .i64 U, .int .i64 P]] w fun e w' => e = .returned (.bool true) ∧ Below w.heap.size w w' := by
  have HC : Hid (CanI U P) := hc
  clear hc
  have B0 : Below w.heap.size w w := Below.refl _ _
  go_enter Tryz.func50, Tryz.ntmps50
  go_wp2_with fail
  refine ent1 w _ _ (Q := fun W => Calls Tryz.prog _ _ W _) ?_
  intro x1 hb hs V0
  replace B0 := step B0 hb
  clear hb hs
  refine (check_ok U P HC.out _).mono ?_
  rintro e x2 ⟨rfl, hb⟩
  replace V0 := Va.after hb V0
  replace B0 := step B0 hb
  clear hb
  have c0 := V0.c0
  have c1 := V0.c1
  go_wp2_with fail
  go_ret
  exact ⟨rfl, B0⟩
theorem isValue_no (U P : Int) (h : ¬ (CanI U P ∧ 0 ≤ U)) (w : World) : Calls Tryz.prog 50 #[.agg #[.int .i64 U, .int .i64 P]] w fun e w' => e = .returned (.bool false) ∧ Below w.heap.size w w' := by
  have B0 : Below w.heap.size w w := Below.refl _ _
  by_cases hc : CanI U P
  · have hu : decide (0 ≤ U) = false := decide_eq_false (fun x => h ⟨hc, x⟩)
    have HC : Hid (CanI U P) := hc
    clear hc h
    go_enter Tryz.func50, Tryz.ntmps50
    go_wp2_with fail
    refine ent1 w _ _ (Q := fun W => Calls Tryz.prog _ _ W _) ?_
    intro x1 hb hs V0
    replace B0 := step B0 hb
    clear hb hs
    refine (check_ok U P HC.out _).mono ?_
    rintro e x2 ⟨rfl, hb⟩
    replace V0 := Va.after hb V0
    replace B0 := step B0 hb
    clear hb
    have c0 := V0.c0
    have c1 := V0.c1
    go_wp2_with fail
    go_ret
    exact ⟨rfl, B0⟩
  · have HC : Hid (¬ CanI U P) := hc
    clear hc h
    go_enter Tryz.func50, Tryz.ntmps50
    go_wp2_with fail
    refine ent1 w _ _ (Q := fun W => Calls Tryz.prog _ _ W _) ?_
    intro x1 hb hs V0
    replace B0 := step B0 hb
    clear hb hs
    refine (check_no U P HC.out _).mono ?_
    rintro e x2 ⟨rfl, hb⟩
    replace V0 := Va.after hb V0
    replace B0 := step B0 hb
    clear hb
    have c0 := V0.c0
    have c1 := V0.c1
    go_wp2_with fail
    go_ret
    exact ⟨rfl, B0⟩
end Go.Proofs.YtblafbbnplfpjaaGreatDoor
namespace Go.Proofs.YtblafbbnplfpjaaGreatDoor
open Go.RowKit Go.Shelf
set_option linter.unusedVariables false

/-- A node's cells as an array. -/
abbrev cn (n : Nd) : Array Value := #[.int .i64 n.kd, .int .i64 n.ks, sv n.nm, .int .i64 n.op, .int .i64 n.un, .int .i64 n.pl]
theorem Va.set6 {w : World} {b : Nat} {t : TypeId} {x0 x1 x2 x3 x4 x5 : Value} (h : Va w b t #[x0, x1, x2, x3, x4, x5]) (y0 y1 y2 y3 y4 y5 : Value) :
    Va ((((((w.setCell ⟨b, 0, none⟩ y0).setCell ⟨b, 1, none⟩ y1).setCell ⟨b, 2, none⟩ y2).setCell ⟨b, 3, none⟩ y3).setCell ⟨b, 4, none⟩ y4).setCell ⟨b, 5, none⟩ y5) b t #[y0, y1, y2, y3, y4, y5] := by
  unfold Va at *
  simp only [World.setCell]
  rw [Array.getElem?_modify, if_pos rfl, Array.getElem?_modify, if_pos rfl, Array.getElem?_modify, if_pos rfl, Array.getElem?_modify, if_pos rfl, Array.getElem?_modify, if_pos rfl, Array.getElem?_modify, if_pos rfl, h]
  simp
theorem below_6 {B : Nat} {a w : World} (h : Below B a w) {c : Nat} (hc : B ≤ c) (y0 y1 y2 y3 y4 y5 : Value) : Below B a ((((((w.setCell ⟨c, 0, none⟩ y0).setCell ⟨c, 1, none⟩ y1).setCell ⟨c, 2, none⟩ y2).setCell ⟨c, 3, none⟩ y3).setCell ⟨c, 4, none⟩ y4).setCell ⟨c, 5, none⟩ y5) :=
  (((belo3 h hc y0 y1 y2).setCell (p := ⟨c, 3, none⟩) hc y3).setCell (p := ⟨c, 4, none⟩) hc y4).setCell (p := ⟨c, 5, none⟩) hc y5
theorem Va.n0 {w : World} {b : Nat} {t : TypeId} {x0 x1 x2 x3 x4 x5 : Value} (h : Va w b t #[x0, x1, x2, x3, x4, x5]) : w.cell? ⟨b, 0, none⟩ = some x0 := by rw [h.cellAt 0]; rfl
theorem Va.n1 {w : World} {b : Nat} {t : TypeId} {x0 x1 x2 x3 x4 x5 : Value} (h : Va w b t #[x0, x1, x2, x3, x4, x5]) : w.cell? ⟨b, 1, none⟩ = some x1 := by rw [h.cellAt 1]; rfl
theorem Va.n2 {w : World} {b : Nat} {t : TypeId} {x0 x1 x2 x3 x4 x5 : Value} (h : Va w b t #[x0, x1, x2, x3, x4, x5]) : w.cell? ⟨b, 2, none⟩ = some x2 := by rw [h.cellAt 2]; rfl
theorem Va.n3 {w : World} {b : Nat} {t : TypeId} {x0 x1 x2 x3 x4 x5 : Value} (h : Va w b t #[x0, x1, x2, x3, x4, x5]) : w.cell? ⟨b, 3, none⟩ = some x3 := by rw [h.cellAt 3]; rfl
theorem Va.n4 {w : World} {b : Nat} {t : TypeId} {x0 x1 x2 x3 x4 x5 : Value} (h : Va w b t #[x0, x1, x2, x3, x4, x5]) : w.cell? ⟨b, 4, none⟩ = some x4 := by rw [h.cellAt 4]; rfl
theorem Va.n5 {w : World} {b : Nat} {t : TypeId} {x0 x1 x2 x3 x4 x5 : Value} (h : Va w b t #[x0, x1, x2, x3, x4, x5]) : w.cell? ⟨b, 5, none⟩ = some x5 := by rw [h.cellAt 5]; rfl
/-- The frame of a call that writes one variable: all other blocks are as they were. -/
theorem Va.gr {w w' : World} {g b : Nat} {t : TypeId} {cs : Array Value} (h : Va w b t cs) (hg : w.grownBy w' (some g)) (hne : b ≠ g) : Va w' b t cs := by
  unfold Va at *; rw [hg.block b (Va.lt h) (fun e => hne (by cases e; rfl))]; exact h
theorem gr_below {a w w' : World} {g : Nat} (h : a.grownBy w (some g)) (hb : Below w.heap.size w w') : a.grownBy w' (some g) := ⟨hb.os.trans h.os, hb.tape.trans h.tape, hb.output.trans h.output, Nat.le_trans h.size hb.size, fun k hk hne => (hb.block k (Nat.lt_of_lt_of_le hk h.size)).trans (h.block k hk hne)⟩
theorem gr_of_below {w w' : World} {g : Nat} (hb : Below w.heap.size w w') : w.grownBy w' (some g) := ⟨hb.os, hb.tape, hb.output, hb.size, fun k hk _ => hb.block k hk⟩
theorem gr_trans {a w w' : World} {g : Nat} (h : a.grownBy w (some g)) (k : w.grownBy w' (some g)) : a.grownBy w' (some g) := ⟨k.os.trans h.os, k.tape.trans h.tape, k.output.trans h.output, Nat.le_trans h.size k.size, fun i hi hne => (k.block i (Nat.lt_of_lt_of_le hi h.size) hne).trans (h.block i hi hne)⟩
theorem gr_set {a w : World} {g : Nat} (h : a.grownBy w (some g)) (i : Nat) (v : Value) : a.grownBy (w.setCell ⟨g, i, none⟩ v) (some g) := ⟨h.os, h.tape, h.output, by simpa [World.setCell] using h.size, fun k hk hne => (heap_setCell_other w ⟨g, i, none⟩ k v (fun e => hne (by rw [e]))).trans (h.block k hk hne)⟩
theorem gr_refl (w : World) (g : Nat) : w.grownBy w (some g) := ⟨rfl, rfl, rfl, Nat.le_refl _, fun _ _ _ => rfl⟩
theorem gr_to {w w' : World} {g B : Nat} (h : w.grownBy w' (some g)) (hB : B ≤ g) (hs : B ≤ w.heap.size) : Below B w w' := ⟨h.os, h.tape, h.output, h.size, fun k hk => h.block k (by omega) (fun e => by cases e; omega)⟩
/-- A variable's only cell is put anew. -/
theorem st1 {W : World} {b : Nat} {t : TypeId} {x : Value} (h : Va W b t #[x]) (x' : Value) {Q : World → Prop}
    (k : ∀ V, Va V b t #[x'] → W.grownBy V (some b) → V.heap.size = W.heap.size → Q V) : Q (W.setCell ⟨b, 0, none⟩ x') :=
  k _ (h.set x') (gr_set (gr_refl W b) 0 x') (by simp [World.setCell])
end Go.Proofs.YtblafbbnplfpjaaGreatDoor
namespace Go.Proofs.YtblafbbnplfpjaaGreatDoor
open Go.RowKit Go.Shelf
set_option linter.unusedVariables false

/-- What mayBe answers. -/
noncomputable def mB (n : Nd) : Bool := open Classical in decide (NdOk wdB n)
theorem mB_yes {n : Nd} (h : NdOk wdB n) : mB n = true := by simp [mB, h]
theorem mB_no {n : Nd} (h : ¬ NdOk wdB n) : mB n = false := by simp [mB, h]
theorem mB_iff (n : Nd) : mB n = true ↔ NdOk wdB n := by simp [mB]
theorem no6c {k ks op un pl : Int} {nm : List UInt8} (hk : k = 6 ∨ k = 7) (h : ¬ (CanI un pl ∧ 0 ≤ un)) : ¬ NdOk wdB ⟨k, ks, nm, op, un, pl⟩ := by
  rintro (⟨h', -⟩ | ⟨h', -⟩ | ⟨h', -⟩ | ⟨-, -, -, -, -, h0, h1⟩)
  · dsimp only at h'; omega
  · dsimp only at h'; omega
  · dsimp only at h'; omega
  · exact h ⟨h1, h0⟩
theorem no6o {k ks op un pl : Int} {nm : List UInt8} (hk : k = 6 ∨ k = 7) (h : ¬ (1 ≤ op ∧ op ≤ 4)) : ¬ NdOk wdB ⟨k, ks, nm, op, un, pl⟩ := by
  rintro (⟨h', -⟩ | ⟨h', -⟩ | ⟨h', -⟩ | ⟨-, -, -, h0, h1, -⟩)
  · dsimp only at h'; omega
  · dsimp only at h'; omega
  · dsimp only at h'; omega
  · exact h ⟨h0, h1⟩
set_option maxHeartbeats 2000000 in
theorem mayBe_any (n : Nd) (w : World) : Calls Tryz.prog 26 #[nv n] w fun e w' => e = .returned (.bool (mB n)) ∧ Below w.heap.size w w' := by
  obtain ⟨kd, ks, nm, op, un, pl⟩ := n
  dsimp only [nv]
  by_cases k1 : kd = 1
  · subst k1
    go_enter Tryz.func26, Tryz.ntmps26
    go_wp2_with fail
    all_goals (go_ret; refine ⟨?_, (Below.refl _ _).alloc (Nat.le_refl _) _⟩; simp [mB, NdOk, *])
  by_cases k2 : kd = 2
  · subst k2
    go_enter Tryz.func26, Tryz.ntmps26
    go_wp2_with fail
    all_goals (go_ret; refine ⟨?_, (Below.refl _ _).alloc (Nat.le_refl _) _⟩; simp [mB, NdOk, *])
  by_cases k3 : kd = 3
  · subst k3
    go_enter Tryz.func26, Tryz.ntmps26
    go_wp2_with fail
    all_goals (go_ret; refine ⟨?_, (Below.refl _ _).alloc (Nat.le_refl _) _⟩; simp [mB, NdOk, *])
  by_cases k4 : kd = 4
  · subst k4
    go_enter Tryz.func26, Tryz.ntmps26
    go_wp2_with (go_at_call 48; refine (word_B nm _).mono ?_; rintro e w2 ⟨rfl, hb⟩; have HB : Hid (Below w.heap.size w w2) := step ((Below.refl _ _).alloc (Nat.le_refl _) _) hb; clear hb)
    all_goals (go_ret; refine ⟨?_, by first | exact HB.out | exact (Below.refl _ _).alloc (Nat.le_refl _) _⟩; simp [mB, NdOk, *])
  by_cases k5 : kd = 5
  · subst k5
    go_enter Tryz.func26, Tryz.ntmps26
    go_wp2_with (go_at_call 48; refine (word_B nm _).mono ?_; rintro e w2 ⟨rfl, hb⟩; have HB : Hid (Below w.heap.size w w2) := step ((Below.refl _ _).alloc (Nat.le_refl _) _) hb; clear hb)
    all_goals (go_ret; refine ⟨?_, by first | exact HB.out | exact (Below.refl _ _).alloc (Nat.le_refl _) _⟩; simp [mB, NdOk, *])
  by_cases k6 : kd = 6
  · subst k6
    go_enter Tryz.func26, Tryz.ntmps26
    by_cases ho : 1 ≤ op ∧ op ≤ 4
    · have HO : opB op = true := by simp [opB, ho]
      by_cases hc : CanI un pl ∧ 0 ≤ un
      · have HC : Hid (CanI un pl ∧ 0 ≤ un) := hc
        clear hc
        go_wp2_with first | (go_at_call 49; refine (isOp_any op _).mono ?_; rw [HO]; rintro e w2 ⟨rfl, rfl⟩) | (go_at_call 50; refine (isValue_yes un pl HC.out.1 HC.out.2 _).mono ?_; rintro e w2 ⟨rfl, hb⟩; have HB : Hid (Below w.heap.size w w2) := step ((Below.refl _ _).alloc (Nat.le_refl _) _) hb; clear hb)
        all_goals (go_ret; refine ⟨?_, by first | exact HB.out | exact (Below.refl _ _).alloc (Nat.le_refl _) _⟩)
        all_goals have hc := HC.out
        all_goals first | (have hh : NdOk wdB ⟨6, ks, nm, op, un, pl⟩ := .inr (.inr (.inr ⟨by simp, by assumption, by assumption, ho.1, ho.2, hc.2, hc.1⟩)); rw [mB_yes hh]; rfl) | (have hh : ¬ NdOk wdB ⟨6, ks, nm, op, un, pl⟩ := (by simp [NdOk, *]); rw [mB_no hh]; rfl)
      · have HC : Hid (¬ (CanI un pl ∧ 0 ≤ un)) := hc
        clear hc
        go_wp2_with first | (go_at_call 49; refine (isOp_any op _).mono ?_; rw [HO]; rintro e w2 ⟨rfl, rfl⟩) | (go_at_call 50; refine (isValue_no un pl HC.out _).mono ?_; rintro e w2 ⟨rfl, hb⟩; have HB : Hid (Below w.heap.size w w2) := step ((Below.refl _ _).alloc (Nat.le_refl _) _) hb; clear hb)
        all_goals (go_ret; refine ⟨?_, by first | exact HB.out | exact (Below.refl _ _).alloc (Nat.le_refl _) _⟩)
        all_goals (rw [mB_no (no6c (by decide) HC.out)]; rfl)
    · have HO : opB op = false := by simp only [opB, ho]; rfl
      go_wp2_with (go_at_call 49; refine (isOp_any op _).mono ?_; rw [HO]; rintro e w2 ⟨rfl, rfl⟩)
      all_goals (go_ret; refine ⟨?_, (Below.refl _ _).alloc (Nat.le_refl _) _⟩)
      all_goals (rw [mB_no (no6o (by decide) ho)]; rfl)
  by_cases k7 : kd = 7
  · subst k7
    go_enter Tryz.func26, Tryz.ntmps26
    by_cases ho : 1 ≤ op ∧ op ≤ 4
    · have HO : opB op = true := by simp [opB, ho]
      by_cases hc : CanI un pl ∧ 0 ≤ un
      · have HC : Hid (CanI un pl ∧ 0 ≤ un) := hc
        clear hc
        go_wp2_with first | (go_at_call 49; refine (isOp_any op _).mono ?_; rw [HO]; rintro e w2 ⟨rfl, rfl⟩) | (go_at_call 50; refine (isValue_yes un pl HC.out.1 HC.out.2 _).mono ?_; rintro e w2 ⟨rfl, hb⟩; have HB : Hid (Below w.heap.size w w2) := step ((Below.refl _ _).alloc (Nat.le_refl _) _) hb; clear hb)
        all_goals (go_ret; refine ⟨?_, by first | exact HB.out | exact (Below.refl _ _).alloc (Nat.le_refl _) _⟩)
        all_goals have hc := HC.out
        all_goals first | (have hh : NdOk wdB ⟨7, ks, nm, op, un, pl⟩ := .inr (.inr (.inr ⟨by simp, by assumption, by assumption, ho.1, ho.2, hc.2, hc.1⟩)); rw [mB_yes hh]; rfl) | (have hh : ¬ NdOk wdB ⟨7, ks, nm, op, un, pl⟩ := (by simp [NdOk, *]); rw [mB_no hh]; rfl)
      · have HC : Hid (¬ (CanI un pl ∧ 0 ≤ un)) := hc
        clear hc
        go_wp2_with first | (go_at_call 49; refine (isOp_any op _).mono ?_; rw [HO]; rintro e w2 ⟨rfl, rfl⟩) | (go_at_call 50; refine (isValue_no un pl HC.out _).mono ?_; rintro e w2 ⟨rfl, hb⟩; have HB : Hid (Below w.heap.size w w2) := step ((Below.refl _ _).alloc (Nat.le_refl _) _) hb; clear hb)
        all_goals (go_ret; refine ⟨?_, by first | exact HB.out | exact (Below.refl _ _).alloc (Nat.le_refl _) _⟩)
        all_goals (rw [mB_no (no6c (by decide) HC.out)]; rfl)
    · have HO : opB op = false := by simp only [opB, ho]; rfl
      go_wp2_with (go_at_call 49; refine (isOp_any op _).mono ?_; rw [HO]; rintro e w2 ⟨rfl, rfl⟩)
      all_goals (go_ret; refine ⟨?_, (Below.refl _ _).alloc (Nat.le_refl _) _⟩)
      all_goals (rw [mB_no (no6o (by decide) ho)]; rfl)
  go_enter Tryz.func26, Tryz.ntmps26
  go_wp2_with fail
  go_ret
  refine ⟨?_, (Below.refl _ _).alloc (Nat.le_refl _) _⟩
  have hh : ¬ NdOk wdB ⟨kd, ks, nm, op, un, pl⟩ := by
    rintro (⟨h, -⟩ | ⟨h, -⟩ | ⟨h, -⟩ | ⟨h, -⟩) <;> dsimp only at h <;> omega
  rw [mB_no hh]; rfl
end Go.Proofs.YtblafbbnplfpjaaGreatDoor
namespace Go.Proofs.YtblafbbnplfpjaaGreatDoor
open Go.RowKit Go.Shelf
set_option linter.unusedVariables false

theorem iv_mul {s t : Bool} {xs ys zs : List Int} (e : num zs = num xs * num ys) : iv (s != t) zs = iv s xs * iv t ys := by
  cases s <;> cases t <;> simp [iv, e, Int.neg_mul, Int.mul_neg]
theorem abs_mul {s t : Bool} {xs ys : List Int} (h1 : 0 ≤ num xs) (h2 : 0 ≤ num ys) : ((iv s xs * iv t ys).natAbs : Int) = num xs * num ys := by
  have h3 := Int.mul_nonneg h1 h2
  cases s <;> cases t <;> simp only [iv_t, iv_f, Int.neg_mul, Int.mul_neg, Int.neg_neg] <;> omega

theorem wmul_ok (s t : Bool) (a b : Option Addr) (la ca lb cb : Nat) (xs ys : List Int) (w : World) (hx : It w s a la ca xs) (hy : It w t b lb cb ys) (hfit : Hid (((iv s xs * iv t ys).natAbs : Int) < pw 4096)) :
    Calls Tryz.prog 100 #[.agg #[.bool s, .slice a la ca], .agg #[.bool t, .slice b lb cb]] w fun e w' => ∃ s' a' l' c' zs, e = .returned (.tuple #[.agg #[.bool s', .slice a' l' c'], .int .i64 0]) ∧ It w' s' a' l' c' zs ∧ iv s' zs = iv s xs * iv t ys ∧ Below w.heap.size w w' := by
  have C : Hid (∀ W, Nt W a la ca xs → Nt W b lb cb ys → Calls Tryz.prog 140 #[.agg #[.slice a la ca], .agg #[.slice b lb cb]] W fun e w' => ∃ a' l' c' zs, e = .returned (.tuple #[.agg #[.slice a' l' c'], .int .i64 0]) ∧ Nt w' a' l' c' zs ∧ num zs = num xs * num ys ∧ Below W.heap.size W w') := fun W h1 h2 => nmul_ok a b la ca lb cb xs ys W h1 h2 (by have := hfit.out; rw [abs_mul hx.1.nonneg hy.1.nonneg] at this; exact this)
  clear hfit
  have B0 : Below w.heap.size w w := Below.refl _ _
  go_enter Tryz.func100, Tryz.ntmps100
  go_wp2_with fail
  refine ent3 w _ _ _ _ _ _ (Q := fun W => Calls Tryz.prog _ _ W _) ?_
  intro x1 hb hs_x1 V0 V1 V2
  replace hx := It.after hb hx
  replace hy := It.after hb hy
  replace B0 := step B0 hb
  clear hb hs_x1
  refine (C.out x1 hx.1 hy.1).mono ?_
  rintro e x2 ⟨a', l', c', zs, rfl, h', e', hb⟩
  replace V0 := Va.after hb V0
  replace V1 := Va.after hb V1
  replace V2 := Va.after hb V2
  replace hx := It.after hb hx
  replace hy := It.after hb hy
  replace B0 := step B0 hb
  clear hb
  have c_V0 := V0.c0
  have d_V0 := V0.c1
  have f_V0 := V0.frozen 0
  have g_V0 := V0.frozen 1
  have l_V0 := V0.lt
  have m_V0 := Nat.le_of_lt l_V0
  have c_V1 := V1.c0
  have d_V1 := V1.c1
  have f_V1 := V1.frozen 0
  have g_V1 := V1.frozen 1
  have l_V1 := V1.lt
  have m_V1 := Nat.le_of_lt l_V1
  have c_V2 := V2.c0
  have d_V2 := V2.c1
  have f_V2 := V2.frozen 0
  have g_V2 := V2.frozen 1
  have l_V2 := V2.lt
  have m_V2 := Nat.le_of_lt l_V2
  go_wp2_with fail
  refine ent1 x2 _ _ (Q := fun W => Calls Tryz.prog _ _ W _) ?_
  intro x3 hb hs_x3 V3
  replace V0 := Va.after hb V0
  replace V1 := Va.after hb V1
  replace V2 := Va.after hb V2
  replace h' := Nt.after hb h'
  replace hx := It.after hb hx
  replace hy := It.after hb hy
  replace B0 := step B0 hb
  clear hb hs_x3
  refine (wnew_any _ a' l' c' zs x3 h').mono ?_
  rintro e x4 ⟨s', rfl, h2, e2, hb⟩
  replace V0 := Va.after hb V0
  replace V1 := Va.after hb V1
  replace V2 := Va.after hb V2
  replace V3 := Va.after hb V3
  replace h' := Nt.after hb h'
  replace hx := It.after hb hx
  replace hy := It.after hb hy
  replace B0 := step B0 hb
  clear hb
  clear c_V0 d_V0 f_V0 g_V0 l_V0 m_V0 c_V1 d_V1 f_V1 g_V1 l_V1 m_V1 c_V2 d_V2 f_V2 g_V2 l_V2 m_V2
  have c_V2 := V2.c0
  have d_V2 := V2.c1
  have f_V2 := V2.frozen 0
  have g_V2 := V2.frozen 1
  have l_V2 := V2.lt
  have m_V2 := Nat.le_of_lt l_V2
  go_wp2_with fail
  refine bodyPost_ret (results_wt rfl rfl (V2.set2 _ _)) rfl ?_
  refine ⟨s', a', l', c', zs, rfl, h2.far V2 (noInt2 _ _ _ _) (far2 _ _ _ _), ?_, below_2 B0 (by omega) _ _⟩
  rw [e2]
  exact iv_mul e'

end Go.Proofs.YtblafbbnplfpjaaGreatDoor
