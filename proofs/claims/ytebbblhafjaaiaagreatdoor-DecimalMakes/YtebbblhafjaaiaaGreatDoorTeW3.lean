/-
  The document's letter, Text, Digits and Sum.
-/
import Derived.Test.YtebbblhafjaaiaaGreatDoorTeP3
import Derived.Test.YtebbblhafjaaiaaGreatDoorWoB
import Derived.Test.YtebbblhafjaaiaaGreatDoorGrU
import Derived.Test.YtebbblhafjaaiaaGreatDoorBsK
import Derived.Test.YtebbblhafjaaiaaGreatDoorBsL
import Derived.Test.YtebbblhafjaaiaaGreatDoorOnW
namespace Go.Proofs.YtebbblhafjaaiaaGreatDoor
open Go.RowKit Go.Shelf
set_option linter.unusedVariables false

/-- What Text answers: THE text. -/
def TxR (b : Nat) (N : Int) (w : World) (e : Ending) (w' : World) : Prop := ∃ t, e = .returned (.tuple #[.string ⟨t.toArray⟩, .int .i64 0]) ∧ Tx b t N.toNat ∧ Below w.heap.size w w'
/-- What Digits answers: the length of THE text. -/
def DiR (b : Nat) (N : Int) (w : World) (e : Ending) (w' : World) : Prop := ∃ t : List UInt8, e = .returned (.tuple #[.int .i64 (t.length : Int), .int .i64 0]) ∧ Tx b t N.toNat ∧ Below w.heap.size w w'
theorem rsmall_nil (x : Int) (hx : Word x) (w : World) :
    Calls Tryz.prog 47 #[.int .u64 x] w fun e w' => ∃ a m c zs, e = .returned (.slice a m c) ∧ m ≤ c ∧ m ≤ 1 ∧ Sl w' a m zs ∧ num zs = x ∧ (a = none → m = 0 ∧ c = 0) ∧ Below w.heap.size w w' := by
  have hm1 : usedN [x] ≤ 1 := usedN_le [x]
  have HA : Hid (Below w.heap.size w (w.alloc (.cells #[.int .u64 x] 94))) := (Below.refl _ _).alloc (Nat.le_refl _) _
  have hL : Limbs [x] := fun z hz => by rw [List.mem_singleton.1 hz]; exact hx
  have tr := rtrim_nil (some ⟨w.heap.size, 0, none⟩) 1 1 [x] (w.alloc (.cells #[.int .u64 x] 94)) (Own.sl (cs := [x]) (heap_alloc_new _ _) hL) (fun h => by cases h) (by omega) (by omega)
  have HN : Hid (num ([x].take (usedN [x])) = x) := by show _ = _; rw [num_take_used _ (Nat.le_refl _)]; simp [num]
  generalize [x].take (usedN [x]) = zs at *
  generalize usedN [x] = m at *
  go_enter Tryz.func47, Tryz.ntmps47
  go_wp2_with fail
  go_at_call 24
  refine tr.mono ?_
  rintro e w2 ⟨a', c', rfl, hs, hc, hn, hb⟩
  have HB : Hid (Below w.heap.size w w2) := step HA.out hb
  clear tr hb HA
  go_wp2_with fail
  go_ret
  exact ⟨a', m, c', zs, rfl, hc, hm1, hs, HN.out, hn, HB.out⟩
/-- What Sum answers: the sum of the digits of THE text. -/
def SuR (b : Nat) (N : Int) (w : World) (e : Ending) (w' : World) : Prop := ∃ (t : List UInt8) (a : Option Addr) (m c : Nat) (zs : List Int), e = .returned (.tuple #[.slice a m c, .int .i64 0]) ∧ Tx b t N.toNat ∧ m ≤ c ∧ m ≤ 1 ∧ Sl w' a m zs ∧ num zs = sumI (txI t) ∧ (a = none → m = 0 ∧ c = 0) ∧ Below w.heap.size w w'
end Go.Proofs.YtebbblhafjaaiaaGreatDoor
