/-
  Nodes in memory; a node by itself: isOp, isValue, mayBe.
-/
import Derived.Test.YtblafbbnplfpjaaGreatDoorFoQ
import Derived.Test.YtblafbbnplfpjaaGreatDoorGel
import Derived.Test.YtblafbbnplfpjaaGreatDoorTu9
import Derived.Test.YtblafbbnplfpjaaGreatDoorDec1
namespace Go.Proofs.YtblafbbnplfpjaaGreatDoor
open Go.RowKit Go.Shelf
set_option linter.unusedVariables false

/-- A node's cells. -/
def encN (n : Nd) : List Value := [.int .i64 n.kd, .int .i64 n.ks, sv n.nm, .int .i64 n.op, .int .i64 n.un, .int .i64 n.pl]
/-- A node as a value. -/
abbrev nv (n : Nd) : Value := .agg #[.int .i64 n.kd, .int .i64 n.ks, sv n.nm, .int .i64 n.op, .int .i64 n.un, .int .i64 n.pl]
theorem infoN : (Tryz.prog.info? 48).map (fun i => (i.zero, i.size, i.bytes)) = some (some (.agg #[.int .i64 0, .int .i64 0, .string ⟨#[]⟩, .int .i64 0, .int .i64 0, .int .i64 0]), 6, 56) := by kernel_rfl
def elN : El Nd where
  enc := encN
  dft := nd0
  te := 48
  tl := 22
  z := .agg #[.int .i64 0, .int .i64 0, .string ⟨#[]⟩, .int .i64 0, .int .i64 0, .int .i64 0]
  s := 6
  by8 := 56
  len := fun _ => rfl
  one := fun x v hv => by
    simp [encN] at hv
    rcases hv with rfl | rfl | rfl | rfl | rfl | rfl <;> rfl
  pos := by decide
  und := Tryz.underlying22
  inf := infoN
  zs := rfl
  bt := by decide
/-- A node of 64 bits. -/
def N64 (n : Nd) : Prop := ∀ x ∈ [n.kd, n.ks, n.op, n.un, n.pl], -9223372036854775808 ≤ x ∧ x ≤ 9223372036854775807

/-- What isOp answers. -/
def opB (op : Int) : Bool := decide (1 ≤ op ∧ op ≤ 4)
theorem isOp_any (op : Int) (w : World) : Calls Tryz.prog 49 #[.int .i64 op] w fun e w' => e = .returned (.bool (opB op)) ∧ w' = w := by
  by_cases h1 : 1 ≤ op
  · by_cases h2 : op ≤ 4
    · have HE : Hid (opB op = true) := by show _ = _; simp [opB, h1, h2]
      go_enter Tryz.func49, Tryz.ntmps49
      go_wp2_with fail
      go_ret
      exact ⟨by rw [HE.out]; rfl, rfl⟩
    · have HE : Hid (opB op = false) := by show _ = _; simp [opB, h1, h2]
      go_enter Tryz.func49, Tryz.ntmps49
      go_wp2_with fail
      go_ret
      exact ⟨by rw [HE.out]; rfl, rfl⟩
  · have HE : Hid (opB op = false) := by show _ = _; simp [opB, h1]
    go_enter Tryz.func49, Tryz.ntmps49
    go_wp2_with fail
    go_ret
    exact ⟨by rw [HE.out]; rfl, rfl⟩
theorem isValue_yes (U P : Int) (hc : CanI U P) (hu : 0 ≤ U) (w : World) : Calls Tryz.prog 50 #[.agg #[.int .i64 U, .int .i64 P]] w fun e w' => e = .returned (.bool true) ∧ Below w.heap.size w w' := by
  have HC : Hid (CanI U P) := hc
  clear hc
  have B0 : Below w.heap.size w w := Below.refl _ _
  go_enter Tryz.func50, Tryz.ntmps50
  go_wp2_with fail
  refine ent1 w _ _ (Q := fun W => Calls Tryz.prog _ _ W _) ?_
  intro x1 hb hs V0
  replace B0 := step B0 hb
  clear hb hs
  refine (check_ok U P HC.out _).mono ?_
  rintro e x2 ⟨rfl, hb⟩
  replace V0 := Va.after hb V0
  replace B0 := step B0 hb
  clear hb
  have c0 := V0.c0
  have c1 := V0.c1
  go_wp2_with fail
  go_ret
  exact ⟨rfl, B0⟩
theorem isValue_no (U P : Int) (h : ¬ (CanI U P ∧ 0 ≤ U)) (w : World) : Calls Tryz.prog 50 #[.agg #[.int .i64 U, .int .i64 P]] w fun e w' => e = .returned (.bool false) ∧ Below w.heap.size w w' := by
  have B0 : Below w.heap.size w w := Below.refl _ _
  by_cases hc : CanI U P
  · have hu : decide (0 ≤ U) = false := decide_eq_false (fun x => h ⟨hc, x⟩)
    have HC : Hid (CanI U P) := hc
    clear hc h
    go_enter Tryz.func50, Tryz.ntmps50
    go_wp2_with fail
    refine ent1 w _ _ (Q := fun W => Calls Tryz.prog _ _ W _) ?_
    intro x1 hb hs V0
    replace B0 := step B0 hb
    clear hb hs
    refine (check_ok U P HC.out _).mono ?_
    rintro e x2 ⟨rfl, hb⟩
    replace V0 := Va.after hb V0
    replace B0 := step B0 hb
    clear hb
    have c0 := V0.c0
    have c1 := V0.c1
    go_wp2_with fail
    go_ret
    exact ⟨rfl, B0⟩
  · have HC : Hid (¬ CanI U P) := hc
    clear hc h
    go_enter Tryz.func50, Tryz.ntmps50
    go_wp2_with fail
    refine ent1 w _ _ (Q := fun W => Calls Tryz.prog _ _ W _) ?_
    intro x1 hb hs V0
    replace B0 := step B0 hb
    clear hb hs
    refine (check_no U P HC.out _).mono ?_
    rintro e x2 ⟨rfl, hb⟩
    replace V0 := Va.after hb V0
    replace B0 := step B0 hb
    clear hb
    have c0 := V0.c0
    have c1 := V0.c1
    go_wp2_with fail
    go_ret
    exact ⟨rfl, B0⟩
end Go.Proofs.YtblafbbnplfpjaaGreatDoor
