/-
  juris: lists of ints and of bools in memory; isPlace, list, Len, check; the first false of a list of bools.
-/
import Derived.Test.YtonhooaboieapaaJuV
namespace Go.Proofs.Ytonhooaboieapaa
open Go.RowKit Go.Shelf
set_option linter.unusedVariables false
variable {α : Type}

theorem infoI : (Try.prog.info? 3).map (fun i => (i.zero, i.size, i.bytes)) = some (some (.int .i64 0), 1, 8) := by kernel_rfl
/-- Ints. -/
def elI : El Int where
  enc := fun x => [.int .i64 x]
  dft := 0
  te := 3
  tl := 23
  z := .int .i64 0
  s := 1
  by8 := 8
  len := fun _ => rfl
  one := fun x v hv => by simp at hv; subst hv; rfl
  pos := by decide
  und := Try.underlying23
  inf := infoI
  zs := rfl
  bt := by decide
/-- A list of ints that can be read. -/
def Li (w : World) (a : Option Addr) (len : Nat) (ps : List Int) : Prop :=
  ps.length = len ∧ (0 < len → ∃ b off, a = some ⟨b, off, none⟩ ∧ ∀ i, i < len → w.cell? ⟨b, off + i, none⟩ = some (.int .i64 (ps.getD i (-1))))
theorem rowI (ps : List Int) : rowE elI ps = ps.map (Value.int .i64) := by
  induction ps with
  | nil => rfl
  | cons p ps ih => rw [rowE_cons, ih]; rfl
theorem Le.li {w : World} {a : Option Addr} {len : Nat} {ps : List Int} (h : Le elI w a len ps) : Li w a len ps := by
  refine ⟨h.1, fun h0 => ?_⟩
  obtain ⟨b, off, e, hc⟩ := h.2 h0
  refine ⟨b, off, e, fun i hi => hc i _ ?_⟩
  have hl := h.1
  rw [rowI, List.getElem?_map, List.getD_eq_getElem?_getD, List.getElem?_eq_getElem (by omega)]; rfl
theorem Li.le {w : World} {a : Option Addr} {len : Nat} {ps : List Int} (h : Li w a len ps) : Le elI w a len ps := by
  refine ⟨h.1, fun h0 => ?_⟩
  obtain ⟨b, off, e, hc⟩ := h.2 h0
  refine ⟨b, off, e, fun i u hu => ?_⟩
  have hl := h.1
  have hi : i < len := by
    rcases Nat.lt_or_ge i (rowE elI ps).length with h' | h'
    · rw [rowI, List.length_map] at h'; omega
    · rw [List.getElem?_eq_none h'] at hu; cases hu
  rw [hc i hi]
  rw [rowI, List.getElem?_map, List.getElem?_eq_getElem (by omega)] at hu
  rw [List.getD_eq_getElem?_getD, List.getElem?_eq_getElem (by omega)]
  exact hu
theorem Li.low {w : World} {a : Option Addr} {len : Nat} {ps : List Int} (h : Li w a len ps) : lowA w.heap.size a len := h.le.low
theorem Li.below {n₀ : Nat} {w w' : World} {a : Option Addr} {len : Nat} {ps : List Int} (h : Li w a len ps) (hb : Below n₀ w w') (hl : lowA n₀ a len) : Li w' a len ps := (h.le.below hb hl).li
theorem Li.after {w w' : World} {a : Option Addr} {len : Nat} {ps : List Int} (hb : Below w.heap.size w w') (h : Li w a len ps) : Li w' a len ps := h.below hb h.low
theorem Li.nil (w : World) (a : Option Addr) : Li w a 0 [] := ⟨rfl, fun h => absurd h (Nat.lt_irrefl _)⟩
theorem Li.at {w : World} {a : Option Addr} {len : Nat} {ps : List Int} (h : Li w a len ps) {i : Nat} (hi : i < len) : ∃ b off, a = some ⟨b, off, none⟩ ∧ w.cell? ⟨b, off + i, none⟩ = some (.int .i64 (ps.getD i (-1))) := by
  obtain ⟨b, off, e, hc⟩ := h.2 (by omega)
  exact ⟨b, off, e, hc i hi⟩
/-- A whole block of values. -/
def Ow (t : TypeId) (f : α → Value) (w : World) (g : Nat) (xs : List α) : Prop := Va w g t (xs.map f).toArray
theorem Ow.cell {t : TypeId} {f : α → Value} {w : World} {g : Nat} {xs : List α} (h : Ow t f w g xs) (i : Nat) (d : α) (hi : i < xs.length) : w.cell? ⟨g, i, none⟩ = some (f (xs.getD i d)) := by
  rw [Va.cellAt h i]
  simp [List.getD_eq_getElem?_getD, hi]
theorem Ow.frozen {t : TypeId} {f : α → Value} {w : World} {g : Nat} {xs : List α} (h : Ow t f w g xs) (i : Nat) : w.frozen? ⟨g, i, none⟩ = false := Va.frozen h i
theorem Ow.set {t : TypeId} {f : α → Value} {w : World} {g : Nat} {xs : List α} (h : Ow t f w g xs) (i : Nat) (x : α) (v : Value) (hv : v = f x) : Ow t f (w.setCell ⟨g, i, none⟩ v) g (xs.set i x) := by
  subst hv
  unfold Ow Va at *
  simp only [World.setCell]
  rw [Array.getElem?_modify, if_pos rfl, h]
  simp [List.map_set]
theorem Ow.other {t : TypeId} {f : α → Value} {w : World} {g : Nat} {xs : List α} (h : Ow t f w g xs) {p : Addr} (hp : g ≠ p.block) (v : Value) : Ow t f (w.setCell p v) g xs := Va.other h hp v
theorem Ow.after {t : TypeId} {f : α → Value} {w w' : World} {g : Nat} {xs : List α} (hb : Below w.heap.size w w') (h : Ow t f w g xs) : Ow t f w' g xs := Va.after hb h
set_option maxRecDepth 20000 in
theorem make_int (n : Nat) (hn : n ≤ 30000000000000) (w : World) : (Instr.makeSlice 23 (.int .i64 (n : Int)) (.int .i64 (n : Int))).run Try.prog w =
    .ok (.slice (some ⟨w.heap.size, 0, none⟩) n n) (w.alloc (.cells ((List.replicate n (0 : Int)).map (Value.int .i64)).toArray 3)) := by
  have h := run_make_row' (P := Try.prog) 23 3 (.int .i64 0) 8 Try.underlying23 (by kernel_rfl) rfl .i64 .i64 n (by omega) (by omega) w
  rw [h]
  congr 3
  apply Array.ext'
  rw [toList_madeCells_one]
  simp
set_option maxRecDepth 20000 in
theorem make_bool (n : Nat) (hn : n ≤ 30000000000000) (w : World) : (Instr.makeSlice 36 (.int .i64 (n : Int)) (.int .i64 (n : Int))).run Try.prog w =
    .ok (.slice (some ⟨w.heap.size, 0, none⟩) n n) (w.alloc (.cells ((List.replicate n false).map Value.bool).toArray 4)) := by
  have h := run_make_row' (P := Try.prog) 36 4 (.bool false) 1 Try.underlying36 (by kernel_rfl) rfl .i64 .i64 n (by omega) (by omega) w
  rw [h]
  congr 3
  apply Array.ext'
  rw [toList_madeCells_one]
  simp
/-- Is a number a place? -/
def plB (n : Nat) (i : Int) : Bool := decide (0 ≤ i ∧ i < n)
/-- What check answers. -/
def ckI (m : Bool) (n : Nat) (i : Int) : Int := if m then (if plB n i then 0 else 151) else 1
/-- The first of a list of bools that is false, or -1. -/
def ixB (bs : List Bool) (r : Int) : Prop := (r = -1 ∧ ∀ i, i < bs.length → bs.getD i true = true) ∨ ∃ i : Nat, i < bs.length ∧ r = i ∧ bs.getD i true = false ∧ ∀ k, k < i → bs.getD k true = true
end Go.Proofs.Ytonhooaboieapaa
