/-
  Lists of ints that are handed in.
-/
import Derived.Test.YtonhooaboieapaaJu1
import Derived.ProofKit
import Derived.OpenShut
import Derived.ChangeOld
import Derived.SizedLaws
import Derived.Lib.SmallJoins
namespace Go.Proofs.Ytonhooaboieapaa
open Go.ChangeShapes Go.WideShapes Go.ChangeAt Go.RowKit
set_option linter.unusedVariables false

/-- A number of 64 bits. -/
def b64 (x : Int) : Prop := -9223372036854775808 ≤ x ∧ x ≤ 9223372036854775807
theorem b64_of_wf {x : Int} (h : (Lit.int .i64 x).wf = true) : b64 x := by
  simp [Lit.wf, IntKind.min, IntKind.max, IntKind.signed, IntKind.bits] at h
  exact ⟨by omega, by omega⟩
theorem open_days {H : Type} {enc : TypeId × Value → H} {W : World} {t e : TypeId} (ht : Try.prog.underlying t = some (.slice e)) (he : Try.prog.underlying e = some (.int .i64)) (hc : Try.prog.cellsOf e = 1) (hby : Try.prog.bytesOf e = 8) {a : Option Addr} {len cap : Nat} {d : DataW H} {p : List MemPlace} (h : DataW.Trod enc Try.prog W 0 (fun _ => true) true t (.slice a len cap) d p)
    (hs : ∀ elems spare, d = .slice elems spare → (elems.length + spare.length) * Try.prog.bytesOf e ≤ reachBytes) :
    ∃ zs : List Int, Li W a len zs ∧ len ≤ cap ∧ cap ≤ 17592186043904 ∧ (a = none → len = 0 ∧ cap = 0) ∧ ∀ z ∈ zs, b64 z := by
  obtain ⟨fuel, hf⟩ := h
  rcases open_ints ht he hc hf with ⟨hcs, _⟩ | ⟨x, l, c, zs, hcs, _, hl, hm, hz, hx, hcell, hwz⟩
  · simp [Value.cells] at hcs
    obtain ⟨rfl, rfl, rfl⟩ := hcs
    exact ⟨[], Li.nil _ _, Nat.le_refl _, by decide, fun _ => ⟨rfl, rfl⟩, fun q hq => by simp at hq⟩
  · simp [Value.cells] at hcs
    obtain ⟨rfl, rfl, rfl⟩ := hcs
    have hz' : zs.length = cap := by simpa using hz
    have hb := hs _ _ (congrArg Prod.fst hx)
    rw [hby] at hb
    simp only [lits, List.length_map, List.length_take, List.length_drop, reachBytes] at hb
    refine ⟨zs.take len, ⟨by rw [List.length_take]; omega, fun h => ?_⟩, hl, by omega, (fun h => by cases h), fun z hz2 => b64_of_wf (hwz z (List.mem_of_mem_take hz2))⟩
    obtain ⟨bb, off, rfl, hc⟩ := ints_at hcell (by omega)
    refine ⟨bb, off, rfl, fun j hj => ?_⟩
    rw [hc j (by omega), List.getD_eq_getElem?_getD, List.getD_eq_getElem?_getD, List.getElem?_take_of_lt hj, List.getElem?_eq_getElem (by omega)]; rfl
end Go.Proofs.Ytonhooaboieapaa
