/-
  money.Check; what a variable of several cells is behind a store.
-/
import Derived.Test.YtigimdcaakfckaaGreatDoorStrP
import Derived.Test.YtigimdcaakfckaaGreatDoorMyQ
import Derived.Test.YtigimdcaakfckaaGreatDoorShelf
import Derived.Test.YtigimdcaakfckaaGreatDoorBsM
import Derived.Test.YtigimdcaakfckaaGreatDoorTextS
import Derived.Test.YtigimdcaakfckaaGreatDoorWh8a
import Derived.Shelf.Strings.SlTrimAscii
import Derived.Deep.QuietTactic
import Derived.BigQuiet
namespace Go.Proofs.YtigimdcaakfckaaGreatDoor
open Go.RowKit Go.Shelf
set_option linter.unusedVariables false

def isCap (c : UInt8) : Bool := decide (65 ≤ c.toNat ∧ c.toNat ≤ 90)
def capL : List UInt8 := [65, 66, 67, 68, 69, 70, 71, 72, 73, 74, 75, 76, 77, 78, 79, 80, 81, 82, 83, 84, 85, 86, 87, 88, 89, 90]
set_option maxRecDepth 20000 in
theorem cap_contains (c : UInt8) : capL.contains c = isCap c := by
  have h : ∀ n : Fin 256, capL.contains (UInt8.ofNat n.1) = isCap (UInt8.ofNat n.1) := by decide
  have := h ⟨c.toNat, c.toNat_lt⟩
  simpa using this
theorem trimC (l : List UInt8) (w : World) : Calls Tryz.prog 53 #[.string ⟨l.toArray⟩, .string ⟨#[65, 66, 67, 68, 69, 70, 71, 72, 73, 74, 75, 76, 77, 78, 79, 80, 81, 82, 83, 84, 85, 86, 87, 88, 89, 90]⟩] w fun e w' => e = .returned (.string ⟨(l.dropWhile isCap).toArray⟩) ∧ Below w.heap.size w w' := by
  have h := Any.strings_TrimLeft_laid Tryz.lays161 (by kernel_rfl) ⟨l.toArray⟩ ⟨#[65, 66, 67, 68, 69, 70, 71, 72, 73, 74, 75, 76, 77, 78, 79, 80, 81, 82, 83, 84, 85, 86, 87, 88, 89, 90]⟩ w (by decide) (ascii_of_all (by decide))
  have e : Go.Lib.trimLeftS (ByteArray.mk l.toArray).data.toList (ByteArray.mk #[65, 66, 67, 68, 69, 70, 71, 72, 73, 74, 75, 76, 77, 78, 79, 80, 81, 82, 83, 84, 85, 86, 87, 88, 89, 90]).data.toList = l.dropWhile isCap := by
    show l.dropWhile (capL.contains ·) = _
    congr 1
    funext c
    exact cap_contains c
  rw [e] at h
  exact h
/-- A currency that may be. -/
def Cur (nm : List UInt8) (D : Int) : Prop := nm.length = 3 ∧ nm.dropWhile isCap = [] ∧ 0 ≤ D ∧ D ≤ 4
theorem check9_ok (nm : List UInt8) (D : Int) (h : Cur nm D) (w : World) : Calls Tryz.prog 26 #[.agg #[.string ⟨nm.toArray⟩, .int .i64 D]] w fun e w' => e = .returned (.int .i64 0) ∧ Below w.heap.size w w' := by
  obtain ⟨h1, h2, h3, h4⟩ := h
  have ht := trimC nm
  rw [h2] at ht
  have h1' : (nm.length : Int) = 3 := by omega
  go_enter Tryz.func26, Tryz.ntmps26
  go_wp2_with fail
  refine ent1 w _ _ (Q := fun W => Calls Tryz.prog _ _ W _) ?_
  intro w0 B0 hs V0
  refine (ht _).mono ?_
  rintro e w1 ⟨rfl, hb1⟩
  replace B0 := step B0 hb1
  replace V0 := Va.after hb1 V0
  have c1 : w1.cell? ⟨w.heap.size, 1, none⟩ = some (.int .i64 D) := V0.cellAt 1
  clear hb1
  go_wp2_with fail
  go_ret
  exact ⟨rfl, B0⟩
set_option maxHeartbeats 1000000 in
theorem check9_no (nm : List UInt8) (D : Int) (h : ¬ Cur nm D) (w : World) : Calls Tryz.prog 26 #[.agg #[.string ⟨nm.toArray⟩, .int .i64 D]] w fun e w' => e = .returned (.int .i64 90) ∧ Below w.heap.size w w' := by
  by_cases h1 : nm.length = 3
  · have h1' : (nm.length : Int) = 3 := by omega
    have ht := trimC nm
    by_cases h2 : nm.dropWhile isCap = []
    · rw [h2] at ht
      have h34 : ¬ (0 ≤ D ∧ D ≤ 4) := fun hh => h ⟨h1, h2, hh⟩
      by_cases h3 : 0 ≤ D
      · have h4 : ¬ D ≤ 4 := fun hh => h34 ⟨h3, hh⟩
        go_enter Tryz.func26, Tryz.ntmps26
        go_wp2_with fail
        refine ent1 w _ _ (Q := fun W => Calls Tryz.prog _ _ W _) ?_
        intro w0 B0 hs V0
        refine (ht _).mono ?_
        rintro e w1 ⟨rfl, hb1⟩
        replace B0 := step B0 hb1
        replace V0 := Va.after hb1 V0
        have c1 : w1.cell? ⟨w.heap.size, 1, none⟩ = some (.int .i64 D) := V0.cellAt 1
        clear hb1
        go_wp2_with fail
        go_ret
        exact ⟨rfl, B0⟩
      · go_enter Tryz.func26, Tryz.ntmps26
        go_wp2_with fail
        refine ent1 w _ _ (Q := fun W => Calls Tryz.prog _ _ W _) ?_
        intro w0 B0 hs V0
        refine (ht _).mono ?_
        rintro e w1 ⟨rfl, hb1⟩
        replace B0 := step B0 hb1
        replace V0 := Va.after hb1 V0
        have c1 : w1.cell? ⟨w.heap.size, 1, none⟩ = some (.int .i64 D) := V0.cellAt 1
        clear hb1
        go_wp2_with fail
        go_ret
        exact ⟨rfl, B0⟩
    · obtain ⟨r, hr⟩ : ∃ r, nm.dropWhile isCap = r := ⟨_, rfl⟩
      rw [hr] at ht h2
      have he2 : (ByteArray.mk r.toArray).toList.isEmpty = false := by rw [Go.Lib.toList_data]; simpa using h2
      have he : r.isEmpty = false := by simpa using h2
      clear hr
      go_enter Tryz.func26, Tryz.ntmps26
      go_wp2_with fail
      refine ent1 w _ _ (Q := fun W => Calls Tryz.prog _ _ W _) ?_
      intro w0 B0 hs V0
      refine (ht _).mono ?_
      rintro e w1 ⟨rfl, hb1⟩
      replace B0 := step B0 hb1
      replace V0 := Va.after hb1 V0
      have c1 : w1.cell? ⟨w.heap.size, 1, none⟩ = some (.int .i64 D) := V0.cellAt 1
      clear hb1
      go_wp2_with fail
      go_ret
      exact ⟨rfl, B0⟩
  · have h1' : ¬ (nm.length : Int) = 3 := by omega
    have h1b : ((nm.length : Int) == 3) = false := by simpa using h1'
    go_enter Tryz.func26, Tryz.ntmps26
    go_wp2_with fail
    go_ret
    exact ⟨rfl, (Below.refl _ _).alloc (Nat.le_refl _) _⟩
end Go.Proofs.YtigimdcaakfckaaGreatDoor
