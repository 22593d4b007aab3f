import Derived.Test.YtblafbbnplfpjaaGreatDoorMgAf
import Derived.Test.YtblafbbnplfpjaaGreatDoorMgAa
import Derived.Test.YtblafbbnplfpjaaGreatDoorMgAg
import Derived.Test.YtblafbbnplfpjaaGreatDoorMgAe
namespace Go.Proofs.YtblafbbnplfpjaaGreatDoor
set_option linter.unusedVariables false
def mkd : Int → Nat → Int × Nat
  | U, 0 => (U, 0)
  | U, P + 1 => if U.tmod 10 = 0 then mkd (U.tdiv 10) P else (U, P + 1)
def Can (U : Int) (P : Nat) : Prop := P ≤ 9 ∧ (0 < P → U.natAbs % 10 ≠ 0)
theorem tmod_iff (U : Int) : U.tmod 10 = 0 ↔ U.natAbs % 10 = 0 := by rw [← Int.dvd_iff_tmod_eq_zero]; omega
theorem tdiv_ten {U : Int} (h : U.tmod 10 = 0) : U = 10 * U.tdiv 10 := by have := Int.mul_tdiv_add_tmod U 10; omega
theorem mkd_can : ∀ (P : Nat) (U : Int), P ≤ 9 → Can (mkd U P).1 (mkd U P).2
  | 0, U, _ => ⟨by simp [mkd], fun h => by simp [mkd] at h⟩
  | P + 1, U, h => by
    unfold mkd
    by_cases h0 : U.tmod 10 = 0
    · rw [if_pos h0]; exact mkd_can P _ (by omega)
    · rw [if_neg h0]; exact ⟨h, fun _ => by show U.natAbs % 10 ≠ 0; rw [Ne, ← tmod_iff]; exact h0⟩
theorem mkd_bound : ∀ (P : Nat) (U : Int), -9223372036854775808 ≤ U → U ≤ 9223372036854775807 → -9223372036854775808 ≤ (mkd U P).1 ∧ (mkd U P).1 ≤ 9223372036854775807
  | 0, U, h1, h2 => ⟨h1, h2⟩
  | P + 1, U, h1, h2 => by
    unfold mkd
    by_cases h0 : U.tmod 10 = 0
    · have := tdiv_ten h0; rw [if_pos h0]; exact mkd_bound P _ (by omega) (by omega)
    · rw [if_neg h0]; exact ⟨h1, h2⟩
theorem mkd_val : ∀ (P : Nat) (U : Int), Rat.divInt (mkd U P).1 (10 ^ (mkd U P).2) = Rat.divInt U (10 ^ P)
  | 0, U => rfl
  | P + 1, U => by
    unfold mkd
    by_cases h0 : U.tmod 10 = 0
    · rw [if_pos h0, mkd_val P]
      refine (Rat.divInt_eq_divInt_iff (ten_ne _) (ten_ne _)).2 ?_
      have e := tdiv_ten h0
      rw [Int.pow_succ]
      generalize U.tdiv 10 = q at e
      rw [e]
      grind
    · rw [if_neg h0]
end Go.Proofs.YtblafbbnplfpjaaGreatDoor
namespace Go.Proofs.YtblafbbnplfpjaaGreatDoor
open Go.RowKit Go.Shelf
set_option linter.unusedVariables false

theorem isPlaces_yes (P : Int) (h0 : 0 ≤ P) (h9 : P ≤ 9) (w : World) : Calls Tryz.prog 79 #[.int .i64 P] w fun e w' => e = .returned (.bool true) ∧ w' = w := by
  go_enter Tryz.func79, Tryz.ntmps79
  go_wp2_with fail
  go_ret
  exact ⟨rfl, rfl⟩
theorem isPlaces_no (P : Int) (h : ¬ (0 ≤ P ∧ P ≤ 9)) (w : World) : Calls Tryz.prog 79 #[.int .i64 P] w fun e w' => e = .returned (.bool false) ∧ w' = w := by
  by_cases h0 : 0 ≤ P
  · have h9 : ¬ P ≤ 9 := fun h9 => h ⟨h0, h9⟩
    go_enter Tryz.func79, Tryz.ntmps79
    go_wp2_with fail
    go_ret
    exact ⟨rfl, rfl⟩
  · go_enter Tryz.func79, Tryz.ntmps79
    go_wp2_with fail
    go_ret
    exact ⟨rfl, rfl⟩
def CanI (U P : Int) : Prop := 0 ≤ P ∧ P ≤ 9 ∧ (0 < P → U.tmod 10 ≠ 0)
theorem canI_iff (U : Int) (P : Nat) : CanI U P ↔ Can U P := by
  unfold CanI Can
  constructor
  · rintro ⟨h1, h2, h3⟩
    exact ⟨by omega, fun h => by have := h3 (by omega); rwa [Ne, tmod_iff] at this⟩
  · rintro ⟨h1, h2⟩
    exact ⟨by omega, by omega, fun h => by rw [Ne, tmod_iff]; exact h2 (by omega)⟩
set_option maxHeartbeats 1000000 in
theorem check_ok (U P : Int) (h : CanI U P) (w : World) : Calls Tryz.prog 74 #[.agg #[.int .i64 U, .int .i64 P]] w fun e w' => e = .returned (.int .i64 0) ∧ Below w.heap.size w w' := by
  obtain ⟨h0, h9, h3⟩ := h
  by_cases hp : 0 < P
  · obtain ⟨m, hm⟩ : ∃ m, U.tmod 10 = m := ⟨_, rfl⟩
    have hm0 : (m == 0) = false := by have := h3 hp; rw [hm] at this; simpa using this
    go_enter Tryz.func74, Tryz.ntmps74
    go_wp2_with (go_at_call 79; refine (isPlaces_yes P h0 h9 _).mono ?_; rintro e w' ⟨rfl, rfl⟩)
    go_ret
    exact ⟨rfl, (Below.refl _ _).alloc (Nat.le_refl _) _⟩
  · go_enter Tryz.func74, Tryz.ntmps74
    go_wp2_with (go_at_call 79; refine (isPlaces_yes P h0 h9 _).mono ?_; rintro e w' ⟨rfl, rfl⟩)
    go_ret
    exact ⟨rfl, (Below.refl _ _).alloc (Nat.le_refl _) _⟩
set_option maxHeartbeats 1000000 in
theorem check_no (U P : Int) (h : ¬ CanI U P) (w : World) : Calls Tryz.prog 74 #[.agg #[.int .i64 U, .int .i64 P]] w fun e w' => e = .returned (.int .i64 60) ∧ Below w.heap.size w w' := by
  by_cases h1 : 0 ≤ P ∧ P ≤ 9
  · have hp : 0 < P := by
      rcases Int.lt_or_le 0 P with h' | h'
      · exact h'
      · exact absurd ⟨h1.1, h1.2, fun hh => by omega⟩ h
    have hm : U.tmod 10 = 0 := by
      rcases Decidable.em (U.tmod 10 = 0) with h' | h'
      · exact h'
      · exact absurd ⟨h1.1, h1.2, fun _ => h'⟩ h
    go_enter Tryz.func74, Tryz.ntmps74
    go_wp2_with (go_at_call 79; refine (isPlaces_yes P h1.1 h1.2 _).mono ?_; rintro e w' ⟨rfl, rfl⟩)
    go_ret
    exact ⟨rfl, (Below.refl _ _).alloc (Nat.le_refl _) _⟩
  · go_enter Tryz.func74, Tryz.ntmps74
    go_wp2_with (go_at_call 79; refine (isPlaces_no P h1 _).mono ?_; rintro e w' ⟨rfl, rfl⟩)
    go_ret
    exact ⟨rfl, (Below.refl _ _).alloc (Nat.le_refl _) _⟩
theorem results_dt {fn : Func} {i j b : Nat} {v u : Value} {tmps : Array Value} {w : World} (h : fn.results = #[.cell i 46, .tmp j]) (hi : tmps.getD i undef = .pointer (some ⟨b, 0, none⟩)) (hv : Va w b 46 #[v, u]) :
    (results fn tmps).run Tryz.prog w = .ok (.tuple #[.agg #[v, u], tmps.getD j undef]) w := by
  have c := hv.c0; have d := hv.c1
  rw [Array.getD_eq_getD_getElem?] at hi
  simp [results, h, hi, c, d, go_sem]
set_option maxHeartbeats 2000000 in
theorem make_ok (U : Int) (P : Nat) (hP : P ≤ 9) (h1 : -9223372036854775808 ≤ U) (h2 : U ≤ 9223372036854775807) (w : World) :
    Calls Tryz.prog 56 #[.int .i64 U, .int .i64 P] w fun e w' => e = .returned (.tuple #[.agg #[.int .i64 (mkd U P).1, .int .i64 (mkd U P).2], .int .i64 0]) ∧ Below w.heap.size w w' := by
  go_enter Tryz.func56, Tryz.ntmps56
  go_wp2_with (go_at_call 79; refine (isPlaces_yes P (by omega) (by omega) _).mono ?_; rintro e w' ⟨rfl, rfl⟩)
  go_loop [0, 1] (fun x p => ∃ (V : Int) (q : Nat), x = .int .i64 V ∧ p = .int .i64 q ∧ q ≤ 9 ∧ -9223372036854775808 ≤ V ∧ V ≤ 9223372036854775807 ∧ Hid (mkd V q = mkd U P)) (fun _ p => (intOf p).toNat)
  case atStart => exact ⟨U, P, rfl, rfl, hP, h1, h2, rfl⟩
  case round =>
    obtain ⟨V, q, rfl, rfl, hq, hV1, hV2, HM⟩ := hrel
    have FIN : Hid (mkd V q = (V, q) → (mkd U P).1 = V ∧ (mkd U P).2 = q) := fun e => ⟨by rw [← HM.out, e], by rw [← HM.out, e]⟩
    cases q with
    | zero =>
      have hq0 : ¬ (0 : Int) < ((0 : Nat) : Int) := by omega
      go_wp2_with fail
      refine bodyPost_ret (results_dt rfl rfl (Va.new w _ _)) rfl ?_
      obtain ⟨g2, g3⟩ := FIN.out rfl
      rw [g2, g3]
      exact ⟨rfl, (Below.refl _ _).alloc (Nat.le_refl _) _⟩
    | succ p =>
      have hq0 : (0 : Int) < ((p + 1 : Nat) : Int) := by omega
      by_cases hm : V.tmod 10 = 0
      · have hb := tdiv_ten hm
        obtain ⟨Y, hY⟩ : ∃ Y, V.tdiv 10 = Y := ⟨_, rfl⟩
        have HE : Hid (mkd Y p = mkd U P) := by
          have h' := HM.out
          have e : mkd V (p + 1) = if V.tmod 10 = 0 then mkd (V.tdiv 10) p else (V, p + 1) := rfl
          rw [e, if_pos hm, hY] at h'
          exact h'
        rw [hY] at hb
        have y1 : -9223372036854775808 ≤ Y := by omega
        have y2 : Y ≤ 9223372036854775807 := by omega
        have eY : IntKind.i64.wrap Y = Y := by rw [IntKind.wrap_i64]; omega
        clear hb FIN
        go_wp2_with fail
        go_round
        case rel => exact ⟨Y, p, rfl, by go_num, by omega, y1, y2, HE⟩
        case measure => simp [intOf]
      · obtain ⟨m, hm'⟩ : ∃ m, V.tmod 10 = m := ⟨_, rfl⟩
        have hm0 : (m == 0) = false := by rw [hm'] at hm; simpa using hm
        have HN : Hid (mkd V (p + 1) = (V, p + 1)) := by show mkd V (p + 1) = _; unfold mkd; rw [if_neg hm]
        clear hm
        go_wp2_with fail
        refine bodyPost_ret (results_dt rfl rfl (Va.new w _ _)) rfl ?_
        obtain ⟨g2, g3⟩ := FIN.out HN.out
        rw [g2, g3]
        exact ⟨rfl, (Below.refl _ _).alloc (Nat.le_refl _) _⟩
end Go.Proofs.YtblafbbnplfpjaaGreatDoor
namespace Go.Proofs.YtblafbbnplfpjaaGreatDoor
open Go.RowKit Go.Shelf
set_option linter.unusedVariables false

def encN (n : Nd) : List Value := [.int .i64 n.kd, .int .i64 n.ks, sv n.nm, .int .i64 n.op, .int .i64 n.un, .int .i64 n.pl]
abbrev nv (n : Nd) : Value := .agg #[.int .i64 n.kd, .int .i64 n.ks, sv n.nm, .int .i64 n.op, .int .i64 n.un, .int .i64 n.pl]
theorem infoN : (Tryz.prog.info? 48).map (fun i => (i.zero, i.size, i.bytes)) = some (some (.agg #[.int .i64 0, .int .i64 0, .string ⟨#[]⟩, .int .i64 0, .int .i64 0, .int .i64 0]), 6, 56) := by kernel_rfl
def elN : El Nd where
  enc := encN
  dft := nd0
  te := 48
  tl := 22
  z := .agg #[.int .i64 0, .int .i64 0, .string ⟨#[]⟩, .int .i64 0, .int .i64 0, .int .i64 0]
  s := 6
  by8 := 56
  len := fun _ => rfl
  one := fun x v hv => by
    simp [encN] at hv
    rcases hv with rfl | rfl | rfl | rfl | rfl | rfl <;> rfl
  pos := by decide
  und := Tryz.underlying22
  inf := infoN
  zs := rfl
  bt := by decide
def N64 (n : Nd) : Prop := ∀ x ∈ [n.kd, n.ks, n.op, n.un, n.pl], -9223372036854775808 ≤ x ∧ x ≤ 9223372036854775807

def opB (op : Int) : Bool := decide (1 ≤ op ∧ op ≤ 4)
theorem isOp_any (op : Int) (w : World) : Calls Tryz.prog 49 #[.int .i64 op] w fun e w' => e = .returned (.bool (opB op)) ∧ w' = w := by
  by_cases h1 : 1 ≤ op
  · by_cases h2 : op ≤ 4
    · have HE : Hid (opB op = true) := by show _ = _; simp [opB, h1, h2]
      go_enter Tryz.func49, Tryz.ntmps49
      go_wp2_with fail
      go_ret
      exact ⟨by rw [HE.out]; rfl, rfl⟩
    · have HE : Hid (opB op = false) := by show _ = _; simp [opB, h1, h2]
      go_enter Tryz.func49, Tryz.ntmps49
      go_wp2_with fail
      go_ret
      exact ⟨by rw [HE.out]; rfl, rfl⟩
  · have HE : Hid (opB op = false) := by show _ = _; simp [opB, h1]
    go_enter Tryz.func49, Tryz.ntmps49
    go_wp2_with fail
    go_ret
    exact ⟨by rw [HE.out]; rfl, rfl⟩
theorem isValue_yes (U P : Int) (hc : CanI U P) (hu : 0 ≤ U) (w : World) : Calls Tryz.prog 50 #[.agg #[.int .i64 U, .int .i64 P]] w fun e w' => e = .returned (.bool true) ∧ Below w.heap.size w w' := by
  have HC : Hid (CanI U P) := hc
  clear hc
  have B0 : Below w.heap.size w w := Below.refl _ _
  go_enter Tryz.func50, Tryz.ntmps50
  go_wp2_with fail
  refine ent1 w _ _ (Q := fun W => Calls Tryz.prog _ _ W _) ?_
  intro x1 hb hs V0
  replace B0 := step B0 hb
  clear hb hs
  refine (check_ok U P HC.out _).mono ?_
  rintro e x2 ⟨rfl, hb⟩
  replace V0 := V0.a hb
  replace B0 := step B0 hb
  clear hb
  have c0 := V0.c0
  have c1 := V0.c1
  go_wp2_with fail
  go_ret
  exact ⟨rfl, B0⟩
theorem isValue_no (U P : Int) (h : ¬ (CanI U P ∧ 0 ≤ U)) (w : World) : Calls Tryz.prog 50 #[.agg #[.int .i64 U, .int .i64 P]] w fun e w' => e = .returned (.bool false) ∧ Below w.heap.size w w' := by
  have B0 : Below w.heap.size w w := Below.refl _ _
  by_cases hc : CanI U P
  · have hu : decide (0 ≤ U) = false := decide_eq_false (fun x => h ⟨hc, x⟩)
    have HC : Hid (CanI U P) := hc
    clear hc h
    go_enter Tryz.func50, Tryz.ntmps50
    go_wp2_with fail
    refine ent1 w _ _ (Q := fun W => Calls Tryz.prog _ _ W _) ?_
    intro x1 hb hs V0
    replace B0 := step B0 hb
    clear hb hs
    refine (check_ok U P HC.out _).mono ?_
    rintro e x2 ⟨rfl, hb⟩
    replace V0 := V0.a hb
    replace B0 := step B0 hb
    clear hb
    have c0 := V0.c0
    have c1 := V0.c1
    go_wp2_with fail
    go_ret
    exact ⟨rfl, B0⟩
  · have HC : Hid (¬ CanI U P) := hc
    clear hc h
    go_enter Tryz.func50, Tryz.ntmps50
    go_wp2_with fail
    refine ent1 w _ _ (Q := fun W => Calls Tryz.prog _ _ W _) ?_
    intro x1 hb hs V0
    replace B0 := step B0 hb
    clear hb hs
    refine (check_no U P HC.out _).mono ?_
    rintro e x2 ⟨rfl, hb⟩
    replace V0 := V0.a hb
    replace B0 := step B0 hb
    clear hb
    have c0 := V0.c0
    have c1 := V0.c1
    go_wp2_with fail
    go_ret
    exact ⟨rfl, B0⟩
end Go.Proofs.YtblafbbnplfpjaaGreatDoor
namespace Go.Proofs.YtblafbbnplfpjaaGreatDoor
open Go.RowKit Go.Shelf
set_option linter.unusedVariables false

abbrev cn (n : Nd) : Array Value := #[.int .i64 n.kd, .int .i64 n.ks, sv n.nm, .int .i64 n.op, .int .i64 n.un, .int .i64 n.pl]
theorem Va.set6 {w : World} {b : Nat} {t : TypeId} {x0 x1 x2 x3 x4 x5 : Value} (h : Va w b t #[x0, x1, x2, x3, x4, x5]) (y0 y1 y2 y3 y4 y5 : Value) :
    Va ((((((w.setCell ⟨b, 0, none⟩ y0).setCell ⟨b, 1, none⟩ y1).setCell ⟨b, 2, none⟩ y2).setCell ⟨b, 3, none⟩ y3).setCell ⟨b, 4, none⟩ y4).setCell ⟨b, 5, none⟩ y5) b t #[y0, y1, y2, y3, y4, y5] := by
  unfold Va at *
  simp only [World.setCell]
  rw [Array.getElem?_modify, if_pos rfl, Array.getElem?_modify, if_pos rfl, Array.getElem?_modify, if_pos rfl, Array.getElem?_modify, if_pos rfl, Array.getElem?_modify, if_pos rfl, Array.getElem?_modify, if_pos rfl, h]
  simp
theorem below_6 {B : Nat} {a w : World} (h : Below B a w) {c : Nat} (hc : B ≤ c) (y0 y1 y2 y3 y4 y5 : Value) : Below B a ((((((w.setCell ⟨c, 0, none⟩ y0).setCell ⟨c, 1, none⟩ y1).setCell ⟨c, 2, none⟩ y2).setCell ⟨c, 3, none⟩ y3).setCell ⟨c, 4, none⟩ y4).setCell ⟨c, 5, none⟩ y5) :=
  (((belo3 h hc y0 y1 y2).setCell (p := ⟨c, 3, none⟩) hc y3).setCell (p := ⟨c, 4, none⟩) hc y4).setCell (p := ⟨c, 5, none⟩) hc y5
theorem Va.n0 {w : World} {b : Nat} {t : TypeId} {x0 x1 x2 x3 x4 x5 : Value} (h : Va w b t #[x0, x1, x2, x3, x4, x5]) : w.cell? ⟨b, 0, none⟩ = some x0 := by rw [h.cellAt 0]; rfl
theorem Va.n1 {w : World} {b : Nat} {t : TypeId} {x0 x1 x2 x3 x4 x5 : Value} (h : Va w b t #[x0, x1, x2, x3, x4, x5]) : w.cell? ⟨b, 1, none⟩ = some x1 := by rw [h.cellAt 1]; rfl
theorem Va.n2 {w : World} {b : Nat} {t : TypeId} {x0 x1 x2 x3 x4 x5 : Value} (h : Va w b t #[x0, x1, x2, x3, x4, x5]) : w.cell? ⟨b, 2, none⟩ = some x2 := by rw [h.cellAt 2]; rfl
theorem Va.n3 {w : World} {b : Nat} {t : TypeId} {x0 x1 x2 x3 x4 x5 : Value} (h : Va w b t #[x0, x1, x2, x3, x4, x5]) : w.cell? ⟨b, 3, none⟩ = some x3 := by rw [h.cellAt 3]; rfl
theorem Va.n4 {w : World} {b : Nat} {t : TypeId} {x0 x1 x2 x3 x4 x5 : Value} (h : Va w b t #[x0, x1, x2, x3, x4, x5]) : w.cell? ⟨b, 4, none⟩ = some x4 := by rw [h.cellAt 4]; rfl
theorem Va.n5 {w : World} {b : Nat} {t : TypeId} {x0 x1 x2 x3 x4 x5 : Value} (h : Va w b t #[x0, x1, x2, x3, x4, x5]) : w.cell? ⟨b, 5, none⟩ = some x5 := by rw [h.cellAt 5]; rfl
theorem Va.gr {w w' : World} {g b : Nat} {t : TypeId} {cs : Array Value} (h : Va w b t cs) (hg : w.grownBy w' (some g)) (hne : b ≠ g) : Va w' b t cs := by
  unfold Va at *; rw [hg.block b (Va.lt h) (fun e => hne (by cases e; rfl))]; exact h
theorem gr_below {a w w' : World} {g : Nat} (h : a.grownBy w (some g)) (hb : Below w.heap.size w w') : a.grownBy w' (some g) := ⟨hb.os.trans h.os, hb.tape.trans h.tape, hb.output.trans h.output, Nat.le_trans h.size hb.size, fun k hk hne => (hb.block k (Nat.lt_of_lt_of_le hk h.size)).trans (h.block k hk hne)⟩
theorem gr_of_below {w w' : World} {g : Nat} (hb : Below w.heap.size w w') : w.grownBy w' (some g) := ⟨hb.os, hb.tape, hb.output, hb.size, fun k hk _ => hb.block k hk⟩
theorem gr_trans {a w w' : World} {g : Nat} (h : a.grownBy w (some g)) (k : w.grownBy w' (some g)) : a.grownBy w' (some g) := ⟨k.os.trans h.os, k.tape.trans h.tape, k.output.trans h.output, Nat.le_trans h.size k.size, fun i hi hne => (k.block i (Nat.lt_of_lt_of_le hi h.size) hne).trans (h.block i hi hne)⟩
theorem gr_set {a w : World} {g : Nat} (h : a.grownBy w (some g)) (i : Nat) (v : Value) : a.grownBy (w.setCell ⟨g, i, none⟩ v) (some g) := ⟨h.os, h.tape, h.output, by simpa [World.setCell] using h.size, fun k hk hne => (heap_setCell_other w ⟨g, i, none⟩ k v (fun e => hne (by rw [e]))).trans (h.block k hk hne)⟩
theorem gr_refl (w : World) (g : Nat) : w.grownBy w (some g) := ⟨rfl, rfl, rfl, Nat.le_refl _, fun _ _ _ => rfl⟩
theorem gr_to {w w' : World} {g B : Nat} (h : w.grownBy w' (some g)) (hB : B ≤ g) (hs : B ≤ w.heap.size) : Below B w w' := ⟨h.os, h.tape, h.output, h.size, fun k hk => h.block k (by omega) (fun e => by cases e; omega)⟩
theorem st1 {W : World} {b : Nat} {t : TypeId} {x : Value} (h : Va W b t #[x]) (x' : Value) {Q : World → Prop}
    (k : ∀ V, Va V b t #[x'] → W.grownBy V (some b) → V.heap.size = W.heap.size → Q V) : Q (W.setCell ⟨b, 0, none⟩ x') :=
  k _ (h.set x') (gr_set (gr_refl W b) 0 x') (by simp [World.setCell])
end Go.Proofs.YtblafbbnplfpjaaGreatDoor
namespace Go.Proofs.YtblafbbnplfpjaaGreatDoor
open Go.RowKit Go.Shelf
set_option linter.unusedVariables false

noncomputable def mB (n : Nd) : Bool := open Classical in decide (NdOk wdB n)
theorem mB_yes {n : Nd} (h : NdOk wdB n) : mB n = true := by simp [mB, h]
theorem mB_no {n : Nd} (h : ¬ NdOk wdB n) : mB n = false := by simp [mB, h]
theorem mB_iff (n : Nd) : mB n = true ↔ NdOk wdB n := by simp [mB]
theorem no6c {k ks op un pl : Int} {nm : List UInt8} (hk : k = 6 ∨ k = 7) (h : ¬ (CanI un pl ∧ 0 ≤ un)) : ¬ NdOk wdB ⟨k, ks, nm, op, un, pl⟩ := by
  rintro (⟨h', -⟩ | ⟨h', -⟩ | ⟨h', -⟩ | ⟨-, -, -, -, -, h0, h1⟩)
  · dsimp only at h'; omega
  · dsimp only at h'; omega
  · dsimp only at h'; omega
  · exact h ⟨h1, h0⟩
theorem no6o {k ks op un pl : Int} {nm : List UInt8} (hk : k = 6 ∨ k = 7) (h : ¬ (1 ≤ op ∧ op ≤ 4)) : ¬ NdOk wdB ⟨k, ks, nm, op, un, pl⟩ := by
  rintro (⟨h', -⟩ | ⟨h', -⟩ | ⟨h', -⟩ | ⟨-, -, -, h0, h1, -⟩)
  · dsimp only at h'; omega
  · dsimp only at h'; omega
  · dsimp only at h'; omega
  · exact h ⟨h0, h1⟩
set_option maxHeartbeats 2000000 in
theorem mayBe_any (n : Nd) (w : World) : Calls Tryz.prog 26 #[nv n] w fun e w' => e = .returned (.bool (mB n)) ∧ Below w.heap.size w w' := by
  obtain ⟨kd, ks, nm, op, un, pl⟩ := n
  dsimp only [nv]
  by_cases k1 : kd = 1
  · subst k1
    go_enter Tryz.func26, Tryz.ntmps26
    go_wp2_with fail
    all_goals (go_ret; refine ⟨?_, (Below.refl _ _).alloc (Nat.le_refl _) _⟩; simp [mB, NdOk, *])
  by_cases k2 : kd = 2
  · subst k2
    go_enter Tryz.func26, Tryz.ntmps26
    go_wp2_with fail
    all_goals (go_ret; refine ⟨?_, (Below.refl _ _).alloc (Nat.le_refl _) _⟩; simp [mB, NdOk, *])
  by_cases k3 : kd = 3
  · subst k3
    go_enter Tryz.func26, Tryz.ntmps26
    go_wp2_with fail
    all_goals (go_ret; refine ⟨?_, (Below.refl _ _).alloc (Nat.le_refl _) _⟩; simp [mB, NdOk, *])
  by_cases k4 : kd = 4
  · subst k4
    go_enter Tryz.func26, Tryz.ntmps26
    go_wp2_with (go_at_call 48; refine (word_B nm _).mono ?_; rintro e w2 ⟨rfl, hb⟩; have HB : Hid (Below w.heap.size w w2) := step ((Below.refl _ _).alloc (Nat.le_refl _) _) hb; clear hb)
    all_goals (go_ret; refine ⟨?_, by first | exact HB.out | exact (Below.refl _ _).alloc (Nat.le_refl _) _⟩; simp [mB, NdOk, *])
  by_cases k5 : kd = 5
  · subst k5
    go_enter Tryz.func26, Tryz.ntmps26
    go_wp2_with (go_at_call 48; refine (word_B nm _).mono ?_; rintro e w2 ⟨rfl, hb⟩; have HB : Hid (Below w.heap.size w w2) := step ((Below.refl _ _).alloc (Nat.le_refl _) _) hb; clear hb)
    all_goals (go_ret; refine ⟨?_, by first | exact HB.out | exact (Below.refl _ _).alloc (Nat.le_refl _) _⟩; simp [mB, NdOk, *])
  by_cases k6 : kd = 6
  · subst k6
    go_enter Tryz.func26, Tryz.ntmps26
    by_cases ho : 1 ≤ op ∧ op ≤ 4
    · have HO : opB op = true := by simp [opB, ho]
      by_cases hc : CanI un pl ∧ 0 ≤ un
      · have HC : Hid (CanI un pl ∧ 0 ≤ un) := hc
        clear hc
        go_wp2_with first | (go_at_call 49; refine (isOp_any op _).mono ?_; rw [HO]; rintro e w2 ⟨rfl, rfl⟩) | (go_at_call 50; refine (isValue_yes un pl HC.out.1 HC.out.2 _).mono ?_; rintro e w2 ⟨rfl, hb⟩; have HB : Hid (Below w.heap.size w w2) := step ((Below.refl _ _).alloc (Nat.le_refl _) _) hb; clear hb)
        all_goals (go_ret; refine ⟨?_, by first | exact HB.out | exact (Below.refl _ _).alloc (Nat.le_refl _) _⟩)
        all_goals have hc := HC.out
        all_goals first | (have hh : NdOk wdB ⟨6, ks, nm, op, un, pl⟩ := .inr (.inr (.inr ⟨by simp, by assumption, by assumption, ho.1, ho.2, hc.2, hc.1⟩)); rw [mB_yes hh]; rfl) | (have hh : ¬ NdOk wdB ⟨6, ks, nm, op, un, pl⟩ := (by simp [NdOk, *]); rw [mB_no hh]; rfl)
      · have HC : Hid (¬ (CanI un pl ∧ 0 ≤ un)) := hc
        clear hc
        go_wp2_with first | (go_at_call 49; refine (isOp_any op _).mono ?_; rw [HO]; rintro e w2 ⟨rfl, rfl⟩) | (go_at_call 50; refine (isValue_no un pl HC.out _).mono ?_; rintro e w2 ⟨rfl, hb⟩; have HB : Hid (Below w.heap.size w w2) := step ((Below.refl _ _).alloc (Nat.le_refl _) _) hb; clear hb)
        all_goals (go_ret; refine ⟨?_, by first | exact HB.out | exact (Below.refl _ _).alloc (Nat.le_refl _) _⟩)
        all_goals (rw [mB_no (no6c (by decide) HC.out)]; rfl)
    · have HO : opB op = false := by simp only [opB, ho]; rfl
      go_wp2_with (go_at_call 49; refine (isOp_any op _).mono ?_; rw [HO]; rintro e w2 ⟨rfl, rfl⟩)
      all_goals (go_ret; refine ⟨?_, (Below.refl _ _).alloc (Nat.le_refl _) _⟩)
      all_goals (rw [mB_no (no6o (by decide) ho)]; rfl)
  by_cases k7 : kd = 7
  · subst k7
    go_enter Tryz.func26, Tryz.ntmps26
    by_cases ho : 1 ≤ op ∧ op ≤ 4
    · have HO : opB op = true := by simp [opB, ho]
      by_cases hc : CanI un pl ∧ 0 ≤ un
      · have HC : Hid (CanI un pl ∧ 0 ≤ un) := hc
        clear hc
        go_wp2_with first | (go_at_call 49; refine (isOp_any op _).mono ?_; rw [HO]; rintro e w2 ⟨rfl, rfl⟩) | (go_at_call 50; refine (isValue_yes un pl HC.out.1 HC.out.2 _).mono ?_; rintro e w2 ⟨rfl, hb⟩; have HB : Hid (Below w.heap.size w w2) := step ((Below.refl _ _).alloc (Nat.le_refl _) _) hb; clear hb)
        all_goals (go_ret; refine ⟨?_, by first | exact HB.out | exact (Below.refl _ _).alloc (Nat.le_refl _) _⟩)
        all_goals have hc := HC.out
        all_goals first | (have hh : NdOk wdB ⟨7, ks, nm, op, un, pl⟩ := .inr (.inr (.inr ⟨by simp, by assumption, by assumption, ho.1, ho.2, hc.2, hc.1⟩)); rw [mB_yes hh]; rfl) | (have hh : ¬ NdOk wdB ⟨7, ks, nm, op, un, pl⟩ := (by simp [NdOk, *]); rw [mB_no hh]; rfl)
      · have HC : Hid (¬ (CanI un pl ∧ 0 ≤ un)) := hc
        clear hc
        go_wp2_with first | (go_at_call 49; refine (isOp_any op _).mono ?_; rw [HO]; rintro e w2 ⟨rfl, rfl⟩) | (go_at_call 50; refine (isValue_no un pl HC.out _).mono ?_; rintro e w2 ⟨rfl, hb⟩; have HB : Hid (Below w.heap.size w w2) := step ((Below.refl _ _).alloc (Nat.le_refl _) _) hb; clear hb)
        all_goals (go_ret; refine ⟨?_, by first | exact HB.out | exact (Below.refl _ _).alloc (Nat.le_refl _) _⟩)
        all_goals (rw [mB_no (no6c (by decide) HC.out)]; rfl)
    · have HO : opB op = false := by simp only [opB, ho]; rfl
      go_wp2_with (go_at_call 49; refine (isOp_any op _).mono ?_; rw [HO]; rintro e w2 ⟨rfl, rfl⟩)
      all_goals (go_ret; refine ⟨?_, (Below.refl _ _).alloc (Nat.le_refl _) _⟩)
      all_goals (rw [mB_no (no6o (by decide) ho)]; rfl)
  go_enter Tryz.func26, Tryz.ntmps26
  go_wp2_with fail
  go_ret
  refine ⟨?_, (Below.refl _ _).alloc (Nat.le_refl _) _⟩
  have hh : ¬ NdOk wdB ⟨kd, ks, nm, op, un, pl⟩ := by
    rintro (⟨h, -⟩ | ⟨h, -⟩ | ⟨h, -⟩ | ⟨h, -⟩) <;> dsimp only at h <;> omega
  rw [mB_no hh]; rfl
end Go.Proofs.YtblafbbnplfpjaaGreatDoor
namespace Go.Proofs.YtblafbbnplfpjaaGreatDoor
open Go.RowKit Go.Shelf
set_option linter.unusedVariables false

theorem iv_mul {s t : Bool} {xs ys zs : List Int} (e : num zs = num xs * num ys) : iv (s != t) zs = iv s xs * iv t ys := by
  cases s <;> cases t <;> simp [iv, e, Int.neg_mul, Int.mul_neg]
theorem abs_mul {s t : Bool} {xs ys : List Int} (h1 : 0 ≤ num xs) (h2 : 0 ≤ num ys) : ((iv s xs * iv t ys).natAbs : Int) = num xs * num ys := by
  have h3 := Int.mul_nonneg h1 h2
  cases s <;> cases t <;> simp only [iv_t, iv_f, Int.neg_mul, Int.mul_neg, Int.neg_neg] <;> omega

theorem wmul_ok (s t : Bool) (a b : Option Addr) (la ca lb cb : Nat) (xs ys : List Int) (w : World) (hx : It w s a la ca xs) (hy : It w t b lb cb ys) (hfit : Hid (((iv s xs * iv t ys).natAbs : Int) < pw 4096)) :
    Calls Tryz.prog 100 #[.agg #[.bool s, .slice a la ca], .agg #[.bool t, .slice b lb cb]] w fun e w' => ∃ s' a' l' c' zs, e = .returned (.tuple #[.agg #[.bool s', .slice a' l' c'], .int .i64 0]) ∧ It w' s' a' l' c' zs ∧ iv s' zs = iv s xs * iv t ys ∧ Below w.heap.size w w' := by
  have C : Hid (∀ W, Nt W a la ca xs → Nt W b lb cb ys → Calls Tryz.prog 140 #[.agg #[.slice a la ca], .agg #[.slice b lb cb]] W fun e w' => ∃ a' l' c' zs, e = .returned (.tuple #[.agg #[.slice a' l' c'], .int .i64 0]) ∧ Nt w' a' l' c' zs ∧ num zs = num xs * num ys ∧ Below W.heap.size W w') := fun W h1 h2 => nmul_ok a b la ca lb cb xs ys W h1 h2 (by have := hfit.out; rw [abs_mul hx.1.nonneg hy.1.nonneg] at this; exact this)
  clear hfit
  have B0 : Below w.heap.size w w := Below.refl _ _
  go_enter Tryz.func100, Tryz.ntmps100
  go_wp2_with fail
  refine ent3 w _ _ _ _ _ _ (Q := fun W => Calls Tryz.prog _ _ W _) ?_
  intro x1 hb hs_x1 V0 V1 V2
  replace hx := It.after hb hx
  replace hy := It.after hb hy
  replace B0 := step B0 hb
  clear hb hs_x1
  refine (C.out x1 hx.1 hy.1).mono ?_
  rintro e x2 ⟨a', l', c', zs, rfl, h', e', hb⟩
  replace V0 := V0.a hb
  replace V1 := V1.a hb
  replace V2 := V2.a hb
  replace hx := It.after hb hx
  replace hy := It.after hb hy
  replace B0 := step B0 hb
  clear hb
  have c_V0 := V0.c0
  have d_V0 := V0.c1
  have f_V0 := V0.frozen 0
  have g_V0 := V0.frozen 1
  have l_V0 := V0.lt
  have m_V0 := Nat.le_of_lt l_V0
  have c_V1 := V1.c0
  have d_V1 := V1.c1
  have f_V1 := V1.frozen 0
  have g_V1 := V1.frozen 1
  have l_V1 := V1.lt
  have m_V1 := Nat.le_of_lt l_V1
  have c_V2 := V2.c0
  have d_V2 := V2.c1
  have f_V2 := V2.frozen 0
  have g_V2 := V2.frozen 1
  have l_V2 := V2.lt
  have m_V2 := Nat.le_of_lt l_V2
  go_wp2_with fail
  refine ent1 x2 _ _ (Q := fun W => Calls Tryz.prog _ _ W _) ?_
  intro x3 hb hs_x3 V3
  replace V0 := V0.a hb
  replace V1 := V1.a hb
  replace V2 := V2.a hb
  replace h' := Nt.after hb h'
  replace hx := It.after hb hx
  replace hy := It.after hb hy
  replace B0 := step B0 hb
  clear hb hs_x3
  refine (wnew_any _ a' l' c' zs x3 h').mono ?_
  rintro e x4 ⟨s', rfl, h2, e2, hb⟩
  replace V0 := V0.a hb
  replace V1 := V1.a hb
  replace V2 := V2.a hb
  replace V3 := V3.a hb
  replace h' := Nt.after hb h'
  replace hx := It.after hb hx
  replace hy := It.after hb hy
  replace B0 := step B0 hb
  clear hb
  clear c_V0 d_V0 f_V0 g_V0 l_V0 m_V0 c_V1 d_V1 f_V1 g_V1 l_V1 m_V1 c_V2 d_V2 f_V2 g_V2 l_V2 m_V2
  have c_V2 := V2.c0
  have d_V2 := V2.c1
  have f_V2 := V2.frozen 0
  have g_V2 := V2.frozen 1
  have l_V2 := V2.lt
  have m_V2 := Nat.le_of_lt l_V2
  go_wp2_with fail
  refine bodyPost_ret (results_wt rfl rfl (V2.set2 _ _)) rfl ?_
  refine ⟨s', a', l', c', zs, rfl, h2.far V2 (noInt2 _ _ _ _) (far2 _ _ _ _), ?_, below_2 B0 (by omega) _ _⟩
  rw [e2]
  exact iv_mul e'

end Go.Proofs.YtblafbbnplfpjaaGreatDoor
