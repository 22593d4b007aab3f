/-
  Lists of arcs that are handed in.
-/
import Derived.Test.YtonhooaboieapaaJuF
import Derived.Test.YtonhooaboieapaaOd1
import Derived.ProofKit
import Derived.OpenShut
import Derived.ChangeOld
import Derived.SizedLaws
import Derived.Deep.SlicePairs
import Derived.Lib.SmallJoins
namespace Go.Proofs.Ytonhooaboieapaa
open Go.ChangeShapes Go.WideShapes Go.ChangeAt Go.RowKit
set_option linter.unusedVariables false

theorem bytesAr : Try.prog.bytesOf 38 = 16 := by kernel_rfl
theorem add_litA (b off i : Nat) : (⟨b, off, none⟩ : Addr).add i = ⟨b, off + i, none⟩ := Go.WideShapes.add_plain _ _ _
theorem open_arcs {H : Type} {enc : TypeId × Value → H} {W : World} {a : Option Addr} {len cap : Nat} {d : DataW H} {p : List MemPlace} (h : DataW.Trod enc Try.prog W 0 (fun _ => true) true 22 (.slice a len cap) d p)
    (hs : ∀ elems spare, d = .slice elems spare → (elems.length + spare.length) * Try.prog.bytesOf 38 ≤ reachBytes) :
    ∃ zs : List Pr, La W a len zs ∧ len ≤ cap ∧ cap ≤ 8796093021952 ∧ (a = none → len = 0 ∧ cap = 0) ∧ ∀ q ∈ zs, b64 q.1 ∧ b64 q.2 := by
  obtain ⟨fuel, hf⟩ := h
  rcases Go.Deep.open_slice_pairs Try.underlying22 Try.underlying38 (by kernel_rfl) rfl rfl (by kernel_rfl) (by kernel_rfl) hf with ⟨hcs, _⟩ | ⟨ad, l, c, m, n, V0, V1, D0, D1, P0, P1, hcs, _, hl, hm, hmm, hx, hcell⟩
  · simp [Value.cells] at hcs
    obtain ⟨rfl, rfl, rfl⟩ := hcs
    exact ⟨[], Le.nil _ _, Nat.le_refl _, by decide, fun _ => ⟨rfl, rfl⟩, fun q hq => by simp at hq⟩
  · simp [Value.cells] at hcs
    obtain ⟨rfl, rfl, rfl⟩ := hcs
    simp at hmm
    subst hmm
    have hb := hs _ _ (congrArg Prod.fst hx)
    rw [bytesAr] at hb
    simp only [List.length_map, List.length_range, reachBytes] at hb
    have hV : ∀ i, i < m → ∃ q : Pr, V0 i = .int .i64 q.1 ∧ V1 i = .int .i64 q.2 ∧ b64 q.1 ∧ b64 q.2 := by
      intro i hi
      obtain ⟨-, -, h0, h1⟩ := hcell i hi
      obtain ⟨x, hx0, -, wx⟩ := DataW.trod_int Try.underlying3 h0
      obtain ⟨y, hy0, -, wy⟩ := DataW.trod_int Try.underlying3 h1
      exact ⟨(x, y), by simpa using hx0, by simpa using hy0, b64_of_wf wx, b64_of_wf wy⟩
    obtain ⟨Q, hQ⟩ := Go.Deep.choose_lt hV
    refine ⟨(List.range len).map Q, ⟨by simp, fun h0 => ?_⟩, hl, by omega, (fun h => by cases h), fun q hq => ?_⟩
    · obtain ⟨b, off, spot⟩ := ad
      have hspot : spot = none := by simpa [Addr.add] using World.cell?_spot (hcell 0 (by omega)).1
      subst hspot
      refine ⟨b, off, rfl, fun i u hu => ?_⟩
      have hil : i < (rowE elA ((List.range len).map Q)).length := (List.getElem?_eq_some_iff.1 hu).1
      rw [rowE_length] at hil
      simp only [List.length_map, List.length_range] at hil
      have hil2 : i < len * 2 := hil
      obtain ⟨k, j, rfl, hj⟩ : ∃ k j, i = k * 2 + j ∧ j < 2 := ⟨i / 2, i % 2, by omega, by omega⟩
      have hk : k < len := by omega
      have e9 := rowE_get elA j hj ((List.range len).map Q) k (by simpa using hk)
      have hu2 : (elA.enc (((List.range len).map Q).getD k elA.dft))[j]? = some u := by rw [← e9]; exact hu
      have e : ((List.range len).map Q).getD k elA.dft = Q k := by simp [hk]
      rw [e] at hu2
      obtain ⟨c0, c1, -, -⟩ := hcell k (by omega)
      rw [add_litA] at c0 c1
      rcases (show j = 0 ∨ j = 1 by omega) with rfl | rfl
      · have e1 : Value.int .i64 (Q k).1 = u := by simpa [elA] using hu2
        rw [← e1, ← (hQ k (by omega)).1]
        exact c0
      · have e1 : Value.int .i64 (Q k).2 = u := by simpa [elA] using hu2
        rw [← e1, ← (hQ k (by omega)).2.1, ← Nat.add_assoc]
        exact c1
    · simp only [List.mem_map, List.mem_range] at hq
      obtain ⟨i, hi, rfl⟩ := hq
      exact (hQ i (by omega)).2.2
end Go.Proofs.Ytonhooaboieapaa
