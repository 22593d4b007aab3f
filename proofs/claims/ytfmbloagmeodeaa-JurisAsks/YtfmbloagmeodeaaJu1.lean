/-
  juris: lists of ints and of bools in memory; isPlace, list, Len, check; the first false of a list of bools.
-/
import Derived.Test.YtfmbloagmeodeaaJuV
namespace Go.Proofs.Ytfmbloagmeodeaa
open Go.RowKit Go.Shelf
set_option linter.unusedVariables false
variable {α : Type}

theorem infoI : (Try.prog.info? 3).map (fun i => (i.zero, i.size, i.bytes)) = some (some (.int .i64 0), 1, 8) := by kernel_rfl
/-- Ints. -/
def elI : El Int where
  enc := fun x => [.int .i64 x]
  dft := 0
  te := 3
  tl := 22
  z := .int .i64 0
  s := 1
  by8 := 8
  len := fun _ => rfl
  one := fun x v hv => by simp at hv; subst hv; rfl
  pos := by decide
  und := Try.underlying22
  inf := infoI
  zs := rfl
  bt := by decide
/-- A list of ints that can be read. -/
def Li (w : World) (a : Option Addr) (len : Nat) (ps : List Int) : Prop :=
  ps.length = len ∧ (0 < len → ∃ b off, a = some ⟨b, off, none⟩ ∧ ∀ i, i < len → w.cell? ⟨b, off + i, none⟩ = some (.int .i64 (ps.getD i (-1))))
theorem rowI (ps : List Int) : rowE elI ps = ps.map (Value.int .i64) := by
  induction ps with
  | nil => rfl
  | cons p ps ih => rw [rowE_cons, ih]; rfl
theorem Le.li {w : World} {a : Option Addr} {len : Nat} {ps : List Int} (h : Le elI w a len ps) : Li w a len ps := by
  refine ⟨h.1, fun h0 => ?_⟩
  obtain ⟨b, off, e, hc⟩ := h.2 h0
  refine ⟨b, off, e, fun i hi => hc i _ ?_⟩
  have hl := h.1
  rw [rowI, List.getElem?_map, List.getD_eq_getElem?_getD, List.getElem?_eq_getElem (by omega)]; rfl
theorem Li.le {w : World} {a : Option Addr} {len : Nat} {ps : List Int} (h : Li w a len ps) : Le elI w a len ps := by
  refine ⟨h.1, fun h0 => ?_⟩
  obtain ⟨b, off, e, hc⟩ := h.2 h0
  refine ⟨b, off, e, fun i u hu => ?_⟩
  have hl := h.1
  have hi : i < len := by
    rcases Nat.lt_or_ge i (rowE elI ps).length with h' | h'
    · rw [rowI, List.length_map] at h'; omega
    · rw [List.getElem?_eq_none h'] at hu; cases hu
  rw [hc i hi]
  rw [rowI, List.getElem?_map, List.getElem?_eq_getElem (by omega)] at hu
  rw [List.getD_eq_getElem?_getD, List.getElem?_eq_getElem (by omega)]
  exact hu
theorem Li.low {w : World} {a : Option Addr} {len : Nat} {ps : List Int} (h : Li w a len ps) : lowA w.heap.size a len := h.le.low
theorem Li.below {n₀ : Nat} {w w' : World} {a : Option Addr} {len : Nat} {ps : List Int} (h : Li w a len ps) (hb : Below n₀ w w') (hl : lowA n₀ a len) : Li w' a len ps := (h.le.below hb hl).li
theorem Li.after {w w' : World} {a : Option Addr} {len : Nat} {ps : List Int} (hb : Below w.heap.size w w') (h : Li w a len ps) : Li w' a len ps := h.below hb h.low
theorem Li.nil (w : World) (a : Option Addr) : Li w a 0 [] := ⟨rfl, fun h => absurd h (Nat.lt_irrefl _)⟩
theorem Li.at {w : World} {a : Option Addr} {len : Nat} {ps : List Int} (h : Li w a len ps) {i : Nat} (hi : i < len) : ∃ b off, a = some ⟨b, off, none⟩ ∧ w.cell? ⟨b, off + i, none⟩ = some (.int .i64 (ps.getD i (-1))) := by
  obtain ⟨b, off, e, hc⟩ := h.2 (by omega)
  exact ⟨b, off, e, hc i hi⟩
/-- A whole block of values. -/
def Ow (t : TypeId) (f : α → Value) (w : World) (g : Nat) (xs : List α) : Prop := Va w g t (xs.map f).toArray
theorem Ow.cell {t : TypeId} {f : α → Value} {w : World} {g : Nat} {xs : List α} (h : Ow t f w g xs) (i : Nat) (d : α) (hi : i < xs.length) : w.cell? ⟨g, i, none⟩ = some (f (xs.getD i d)) := by
  rw [Va.cellAt h i]
  simp [List.getD_eq_getElem?_getD, hi]
theorem Ow.frozen {t : TypeId} {f : α → Value} {w : World} {g : Nat} {xs : List α} (h : Ow t f w g xs) (i : Nat) : w.frozen? ⟨g, i, none⟩ = false := Va.frozen h i
theorem Ow.set {t : TypeId} {f : α → Value} {w : World} {g : Nat} {xs : List α} (h : Ow t f w g xs) (i : Nat) (x : α) (v : Value) (hv : v = f x) : Ow t f (w.setCell ⟨g, i, none⟩ v) g (xs.set i x) := by
  subst hv
  unfold Ow Va at *
  simp only [World.setCell]
  rw [Array.getElem?_modify, if_pos rfl, h]
  simp [List.map_set]
theorem Ow.other {t : TypeId} {f : α → Value} {w : World} {g : Nat} {xs : List α} (h : Ow t f w g xs) {p : Addr} (hp : g ≠ p.block) (v : Value) : Ow t f (w.setCell p v) g xs := Va.other h hp v
theorem Ow.after {t : TypeId} {f : α → Value} {w w' : World} {g : Nat} {xs : List α} (hb : Below w.heap.size w w') (h : Ow t f w g xs) : Ow t f w' g xs := Va.after hb h
set_option maxRecDepth 20000 in
theorem make_int (n : Nat) (hn : n ≤ 30000000000000) (w : World) : (Instr.makeSlice 22 (.int .i64 (n : Int)) (.int .i64 (n : Int))).run Try.prog w =
    .ok (.slice (some ⟨w.heap.size, 0, none⟩) n n) (w.alloc (.cells ((List.replicate n (0 : Int)).map (Value.int .i64)).toArray 3)) := by
  have h := run_make_row' (P := Try.prog) 22 3 (.int .i64 0) 8 Try.underlying22 (by kernel_rfl) rfl .i64 .i64 n (by omega) (by omega) w
  rw [h]
  congr 3
  apply Array.ext'
  rw [toList_madeCells_one]
  simp
set_option maxRecDepth 20000 in
theorem make_bool (n : Nat) (hn : n ≤ 30000000000000) (w : World) : (Instr.makeSlice 67 (.int .i64 (n : Int)) (.int .i64 (n : Int))).run Try.prog w =
    .ok (.slice (some ⟨w.heap.size, 0, none⟩) n n) (w.alloc (.cells ((List.replicate n false).map Value.bool).toArray 4)) := by
  have h := run_make_row' (P := Try.prog) 67 4 (.bool false) 1 Try.underlying67 (by kernel_rfl) rfl .i64 .i64 n (by omega) (by omega) w
  rw [h]
  congr 3
  apply Array.ext'
  rw [toList_madeCells_one]
  simp
/-- Is a number a place? -/
def plB (n : Nat) (i : Int) : Bool := decide (0 ≤ i ∧ i < n)
theorem isPlace_any (a : Option Addr) (len cap : Nat) (i : Int) (w : World) : Calls Try.prog 43 #[.slice a len cap, .int .i64 i] w fun e w' => e = .returned (.bool (plB len i)) ∧ w' = w := by
  unfold plB
  by_cases h0 : 0 ≤ i
  · by_cases h1 : i < (len : Int)
    · rw [decide_eq_true ⟨h0, h1⟩]
      go_enter Try.func43, Try.ntmps43
      go_wp2_with fail
      go_ret
      exact ⟨rfl, rfl⟩
    · rw [decide_eq_false (fun h => h1 h.2)]
      go_enter Try.func43, Try.ntmps43
      go_wp2_with fail
      go_ret
      exact ⟨rfl, rfl⟩
  · rw [decide_eq_false (fun h => h0 h.1)]
    go_enter Try.func43, Try.ntmps43
    go_wp2_with fail
    go_ret
    exact ⟨rfl, rfl⟩
/-- A tree, or none: the list that it has, and whether New made it. -/
inductive Tv (w : World) : Option Addr → Option Addr → Nat → Nat → List Int → Bool → Prop
  | nil : Tv w none none 0 0 [] false
  | some (p : Nat) (a : Option Addr) (cap : Nat) (ps : List Int) (m : Bool) (V : Va w p 50 #[.slice a ps.length cap, .bool m]) (L : Li w a ps.length ps) : Tv w (some ⟨p, 0, none⟩) a ps.length cap ps m
theorem Tv.after {w w' : World} (hb : Below w.heap.size w w') {q a : Option Addr} {len cap : Nat} {ps : List Int} {m : Bool} (h : Tv w q a len cap ps m) : Tv w' q a len cap ps m := by
  cases h with
  | nil => exact .nil
  | some p _ _ _ _ V L => exact .some p a cap ps m (V.after hb) (L.after hb)
theorem Tv.li {w : World} {q a : Option Addr} {len cap : Nat} {ps : List Int} {m : Bool} (h : Tv w q a len cap ps m) : Li w a len ps := by
  cases h with
  | nil => exact Li.nil _ _
  | some p _ _ _ _ V L => exact L
theorem list_any {w : World} {q a : Option Addr} {len cap : Nat} {ps : List Int} {m : Bool} (h : Tv w q a len cap ps m) : Calls Try.prog 33 #[.pointer q] w fun e w' => e = .returned (.slice a len cap) ∧ w' = w := by
  cases h with
  | nil =>
    go_enter Try.func33, Try.ntmps33
    go_wp2_with fail
    go_ret
    exact ⟨rfl, rfl⟩
  | some p _ _ _ _ V L =>
    have c0 := V.c0
    generalize ps.length = len at *
    go_enter Try.func33, Try.ntmps33
    go_wp2_with fail
    go_ret
    exact ⟨rfl, rfl⟩
theorem len_any {w : World} {q a : Option Addr} {len cap : Nat} {ps : List Int} {m : Bool} (h : Tv w q a len cap ps m) : Calls Try.prog 10 #[.pointer q] w fun e w' => e = .returned (.int .i64 len) ∧ w' = w := by
  have h1 := list_any h
  clear h
  go_enter Try.func10, Try.ntmps10
  go_wp2_with fail
  refine h1.mono ?_
  rintro e w1 ⟨rfl, hw1⟩
  rw [hw1]
  clear hw1 w1
  go_wp2_with fail
  go_ret
  exact ⟨rfl, rfl⟩
/-- What check answers. -/
def ckI (m : Bool) (n : Nat) (i : Int) : Int := if m then (if plB n i then 0 else 151) else 1
theorem check_any {w : World} {q a : Option Addr} {len cap : Nat} {ps : List Int} {m : Bool} (h : Tv w q a len cap ps m) (i : Int) : Calls Try.prog 38 #[.pointer q, .int .i64 i] w fun e w' => e = .returned (.int .i64 (ckI m len i)) ∧ w' = w := by
  unfold ckI
  cases h with
  | nil =>
    go_enter Try.func38, Try.ntmps38
    go_wp2_with fail
    go_ret
    exact ⟨rfl, rfl⟩
  | some p _ _ _ _ V L =>
    have c0 := V.c0
    have c1 := V.c1
    have h1 := isPlace_any a ps.length cap i w
    clear L V
    generalize ps.length = len at *
    cases m with
    | false =>
      go_enter Try.func38, Try.ntmps38
      go_wp2_with fail
      go_ret
      exact ⟨rfl, rfl⟩
    | true =>
      simp only [if_true]
      cases hp : plB len i with
      | true =>
        rw [hp] at h1
        clear hp
        go_enter Try.func38, Try.ntmps38
        go_wp2_with (go_at_call 43; refine h1.mono ?_; rintro e w1 ⟨rfl, rfl⟩)
        go_ret
        exact ⟨rfl, rfl⟩
      | false =>
        rw [hp] at h1
        clear hp
        go_enter Try.func38, Try.ntmps38
        go_wp2_with (go_at_call 43; refine h1.mono ?_; rintro e w1 ⟨rfl, rfl⟩)
        go_ret
        exact ⟨rfl, rfl⟩
/-- The first of a list of bools that is false, or -1. -/
def ixB (bs : List Bool) (r : Int) : Prop := (r = -1 ∧ ∀ i, i < bs.length → bs.getD i true = true) ∨ ∃ i : Nat, i < bs.length ∧ r = i ∧ bs.getD i true = false ∧ ∀ k, k < i → bs.getD k true = true
theorem index_any (g : Nat) (bs : List Bool) (hl : bs.length ≤ 1000000) (w : World) (h : Ow 4 Value.bool w g bs) : Calls Try.prog 51 #[.slice (some ⟨g, 0, none⟩) bs.length bs.length, .bool false] w fun e w' => (∃ r : Int, e = .returned (.int .i64 r) ∧ ixB bs r) ∧ w' = w := by
  have HO : Hid (Ow 4 Value.bool w g bs) := h
  clear h
  go_enter Try.func51, Try.ntmps51
  go_wp2_with fail
  go_loopw [5, 8] (fun _ j wr => ∃ k : Nat, j = .int .i64 k ∧ k ≤ bs.length ∧ Hid (∀ i, i < k → bs.getD i true = true) ∧ wr = w) (fun _ j _ => (bs.length - (intOf j).toNat : Nat))
  case atStart => exact ⟨0, rfl, Nat.zero_le _, fun i hi => absurd hi (Nat.not_lt_zero _), rfl⟩
  case round =>
    obtain ⟨k, rfl, hk, HA, rfl⟩ := hrel
    rcases Nat.lt_or_ge k bs.length with hlt | hge
    · have hc := HO.out.cell k true hlt
      have hki : (k : Int) < bs.length := by omega
      cases hb : bs.getD k true with
      | true =>
        rw [hb] at hc
        have HB : Hid (bs.getD k true = true) := hb
        clear hb
        go_wp2_with fail
        go_roundw
        case rel => exact ⟨k + 1, rfl, by omega, fun i hi => by
          by_cases e : i = k
          · subst e; exact HB.out
          · exact HA.out i (by omega), by trivial⟩
        case measure => simp [intOf]; omega
      | false =>
        rw [hb] at hc
        have HB : Hid (bs.getD k true = false) := hb
        clear hb
        go_wp2_with fail
        go_ret
        exact ⟨⟨k, rfl, .inr ⟨k, hlt, rfl, HB.out, HA.out⟩⟩, rfl⟩
    · obtain rfl : k = bs.length := by omega
      clear hge hk
      go_wp2_with fail
      go_ret
      exact ⟨⟨-1, rfl, .inl ⟨rfl, HA.out⟩⟩, rfl⟩
end Go.Proofs.Ytfmbloagmeodeaa
