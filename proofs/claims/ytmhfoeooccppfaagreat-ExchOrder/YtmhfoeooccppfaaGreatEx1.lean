/-
  exchange: a pair's quotes in memory; isTable, isDay, check, cmp.Compare of days, againstDate.
-/
import Derived.Test.YtmhfoeooccppfaaGreatExT
import Derived.Test.YtmhfoeooccppfaaGreatTu3
import Derived.Test.YtmhfoeooccppfaaGreatGel
import Derived.Test.YtmhfoeooccppfaaGreatBrB
import Derived.Maps.OwnRows
import Derived.LaidEqlPtr
import Derived.Maps.RangeWalk
namespace Go.Proofs.YtmhfoeooccppfaaGreat
open Go.RowKit Go.Shelf
set_option linter.unusedVariables false
set_option maxRecDepth 20000

theorem infoQ : (Tryz.prog.info? 76).map (fun i => (i.zero, i.size, i.bytes)) = some (some (.agg #[.int .i64 0, .float .f64 0]), 2, 16) := by kernel_rfl
/-- A pair's quotes: days and rates. -/
def elQ : El (Int × Nat) where
  enc x := [.int .i64 x.1, .float .f64 x.2]
  dft := (0, 0)
  te := 76
  tl := 72
  z := .agg #[.int .i64 0, .float .f64 0]
  s := 2
  by8 := 16
  len := fun _ => rfl
  one := fun x v hv => by
    simp at hv
    rcases hv with rfl | rfl <;> rfl
  pos := by decide
  und := Tryz.underlying72
  inf := infoQ
  zs := rfl
  bt := by decide
/-- A quote that is handed in, as a value. -/
abbrev qv (q : Qe) : Value := .agg #[sv q.fr, sv q.to, .int .i64 q.day, .float .f64 q.rate]
theorem cdF_eq' (s : List UInt8) : cdF s = cdF' s := rfl
/-- Is the day? -/
def dyB (d : Int) : Bool := decide (0 ≤ d ∧ d ≤ 3652058)
theorem isDay_any (d : Int) (w : World) : Calls Tryz.prog 33 #[.int .i64 d] w fun e w' => e = .returned (.bool (dyB d)) ∧ w' = w := by
  by_cases h1 : 0 ≤ d
  · by_cases h2 : d ≤ 3652058
    · have HE : Hid (dyB d = true) := by show _ = _; simp [dyB, h1, h2]
      go_enter Tryz.func33, Tryz.ntmps33
      go_wp2_with fail
      go_ret
      exact ⟨by rw [HE.out]; rfl, rfl⟩
    · have HE : Hid (dyB d = false) := by show _ = _; simp [dyB, h1, h2]
      go_enter Tryz.func33, Tryz.ntmps33
      go_wp2_with fail
      go_ret
      exact ⟨by rw [HE.out]; rfl, rfl⟩
  · have HE : Hid (dyB d = false) := by show _ = _; simp [dyB, h1]
    go_enter Tryz.func33, Tryz.ntmps33
    go_wp2_with fail
    go_ret
    exact ⟨by rw [HE.out]; rfl, rfl⟩
/-- A table's own cells. -/
abbrev Tb0 (w : World) (b m : Nat) (n : Int) : Prop := Va w b 32 #[.pointer (some ⟨b, 0, none⟩), .map (some m), .int .i64 n]
theorem Va.at0 {w : World} {b : Nat} {t : TypeId} {x y z : Value} (h : Va w b t #[x, y, z]) : w.cell? ⟨b, 0, none⟩ = some x := by rw [h.cellAt 0]; rfl
theorem Va.at1 {w : World} {b : Nat} {t : TypeId} {x y z : Value} (h : Va w b t #[x, y, z]) : w.cell? ⟨b, 1, none⟩ = some y := by rw [h.cellAt 1]; rfl
theorem Va.at2 {w : World} {b : Nat} {t : TypeId} {x y z : Value} (h : Va w b t #[x, y, z]) : w.cell? ⟨b, 2, none⟩ = some z := by rw [h.cellAt 2]; rfl
theorem und_tab : Tryz.prog.underlying 22 = some (.pointer 32) := by kernel_rfl
theorem eq_tab (a : Addr) (w : World) : (binOp .eql 22 (.pointer (some a)) (.pointer (some a))).run Tryz.prog w = .ok (.bool true) w := by
  have hj : (Tryz.prog.info? 32).isSome = true := by kernel_rfl
  obtain ⟨j, hj⟩ := Option.isSome_iff_exists.1 hj
  exact run_eql_ptr_same w a und_tab hj
theorem ne_tab (a : Addr) (w : World) : (binOp .eql 22 (.pointer none) (.pointer (some a))).run Tryz.prog w = .ok (.bool false) w := by
  have h : ∀ d : Nat, (Op.equalIn (d + 1) 22 (.pointer none) (.pointer (some a))).run Tryz.prog w = .ok false w := fun d => by
    simp [Op.equalIn, run_underlying und_tab]
  simp only [binOp]
  simp [Op.equal, Op.maxDepth, h 9999]
theorem isTable_yes (b m : Nat) (n : Int) (w : World) (h : Tb0 w b m n) : Calls Tryz.prog 30 #[.pointer (some ⟨b, 0, none⟩)] w fun e w' => e = .returned (.bool true) ∧ w' = w := by
  have c0 := h.at0
  have e0 := eq_tab
  have e1 := ne_tab
  clear h
  go_enter Tryz.func30, Tryz.ntmps30
  go_wp2_with fail
  go_ret
  exact ⟨by simp, rfl⟩
theorem isTable_nil (w : World) : Calls Tryz.prog 30 #[.pointer none] w fun e w' => e = .returned (.bool false) ∧ w' = w := by
  go_enter Tryz.func30, Tryz.ntmps30
  go_wp2_with fail
  go_ret
  exact ⟨by simp, rfl⟩
theorem isTable_no (b : Nat) (x y : Value) (w : World) (h : Va w b 32 #[.pointer none, x, y]) : Calls Tryz.prog 30 #[.pointer (some ⟨b, 0, none⟩)] w fun e w' => e = .returned (.bool false) ∧ w' = w := by
  have c0 := h.at0
  have e0 := eq_tab
  have e1 := ne_tab
  clear h
  go_enter Tryz.func30, Tryz.ntmps30
  go_wp2_with fail
  go_ret
  exact ⟨by simp, rfl⟩
theorem inf_one (x : Nat) (h : x < 18446744073709551616) (w : World) : Calls Tryz.prog 57 #[.float .f64 x, .int .i64 1] w fun e w' => e = .returned (.bool (FloatKind.f64.format.order x 9218868437227405311 == some .gt)) ∧ w' = w := by
  go_enter Tryz.func57, Tryz.ntmps57
  go_wp2_with fail
  go_ret
  exact ⟨rfl, rfl⟩
/-- What the four comparisons of a rate say. -/
theorem rate_cmp {x : Nat} (h : x < 18446744073709551616) :
    (FloatKind.f64.format.order x 0 == some .gt) = decide (0 < x ∧ x ≤ 9218868437227405312) ∧
    (0 < x ∧ x ≤ 9218868437227405312 → (FloatKind.f64.format.order x 9218868437227405311 == some .gt) = decide (x = 9218868437227405312) ∧
      (FloatKind.f64.format.order x 4517110426252607488 == some .lt) = decide (x < 4517110426252607488) ∧
      (FloatKind.f64.format.order x 4697254411347427328 == some .gt) = decide (4697254411347427328 < x)) := by
  have pos : ∀ y : Nat, y < 9223372036854775808 → fz y = (fi y : Int) := fun y hy => by unfold fz; rw [if_pos hy]
  constructor
  · by_cases g : x % 9223372036854775808 ≤ 9218868437227405312
    · rw [float_gt ⟨g, h⟩ ⟨by decide, by decide⟩, decide_eq_decide, pos 0 (by decide), fi_zero]
      by_cases hs : x < 9223372036854775808
      · rw [pos x hs]
        have := @fi_lt_iff 0 x
        rw [fi_zero] at this
        omega
      · unfold fz
        rw [if_neg hs]
        omega
    · rw [float_nan .gt h (by decide) (.inl (by omega))]
      symm; rw [decide_eq_false_iff_not]; omega
  · rintro ⟨h0, h1⟩
    have hF : Fr x := ⟨by omega, h⟩
    refine ⟨?_, ?_, ?_⟩
    · rw [float_gt hF ⟨by decide, by decide⟩, decide_eq_decide, pos x (by omega), pos 9218868437227405311 (by decide)]
      have := @fi_lt_iff 9218868437227405311 x
      omega
    · rw [float_lt hF ⟨by decide, by decide⟩, decide_eq_decide, pos x (by omega), pos 4517110426252607488 (by decide)]
      have := @fi_lt_iff x 4517110426252607488
      omega
    · rw [float_gt hF ⟨by decide, by decide⟩, decide_eq_decide, pos x (by omega), pos 4697254411347427328 (by decide)]
      have := @fi_lt_iff 4697254411347427328 x
      omega
theorem cmpDay (x y : Int) (w : World) : Calls Tryz.prog 59 #[.int .i64 x, .int .i64 y] w fun e w' => e = .returned (.int .i64 (Lib.compareInt x y)) ∧ w' = w := by
  have hn : ∀ z W, Calls Tryz.prog 92 #[.int .i64 z] W fun e w' => e = .returned (.bool false) ∧ w' = W := by
    intro z W
    go_enter Tryz.func92, Tryz.ntmps92
    go_wp2_with fail
    go_ret
    exact ⟨by simp, rfl⟩
  rcases Int.lt_trichotomy x y with h | h | h
  · have HE : Hid (Lib.compareInt x y = -1) := by show _ = _; simp [Lib.compareInt, h]
    go_enter Tryz.func59, Tryz.ntmps59
    go_wp2_with (go_at_call 92; refine (hn _ _).mono ?_; rintro e w' ⟨rfl, rfl⟩)
    go_ret
    exact ⟨by rw [HE.out]; rfl, rfl⟩
  · subst h
    have HE : Hid (Lib.compareInt x x = 0) := by show _ = _; simp [Lib.compareInt]
    go_enter Tryz.func59, Tryz.ntmps59
    go_wp2_with (go_at_call 92; refine (hn _ _).mono ?_; rintro e w' ⟨rfl, rfl⟩)
    go_ret
    exact ⟨by rw [HE.out]; rfl, rfl⟩
  · have HE : Hid (Lib.compareInt x y = 1) := by show _ = _; simp [Lib.compareInt, h, show ¬ x < y by omega]
    have h2 : ¬ x < y := by omega
    go_enter Tryz.func59, Tryz.ntmps59
    go_wp2_with (go_at_call 92; refine (hn _ _).mono ?_; rintro e w' ⟨rfl, rfl⟩)
    go_ret
    exact ⟨by rw [HE.out]; rfl, rfl⟩
theorem against_any (x : Int) (r : Nat) (d : Int) (w : World) : Calls Tryz.prog 28 #[.agg #[.int .i64 x, .float .f64 r], .int .i64 d] w fun e w' => e = .returned (.int .i64 (Lib.compareInt x d)) ∧ Below w.heap.size w w' := by
  have hc := cmpDay x d
  go_enter Tryz.func28, Tryz.ntmps28
  go_wp2_with (go_at_call 59; refine (hc _).mono ?_; rintro e w' ⟨rfl, rfl⟩)
  go_ret
  exact ⟨rfl, (Below.refl _ _).alloc (Nat.le_refl _) _⟩
end Go.Proofs.YtmhfoeooccppfaaGreat
