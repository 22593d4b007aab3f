/-
  Lists that are handed in: spans, days, numbers.
-/
import Derived.Test.YtiabjlaganmloaaSpV
import Derived.ProofKit
import Derived.OpenShut
import Derived.ChangeOld
import Derived.SizedLaws
import Derived.Deep.SlicePairs
import Derived.Lib.SmallJoins
namespace Go.Proofs.Ytiabjlaganmloaa
open Go.ChangeShapes Go.WideShapes Go.ChangeAt Go.RowKit
set_option linter.unusedVariables false

/-- A number of 64 bits. -/
def b64 (x : Int) : Prop := -9223372036854775808 ≤ x ∧ x ≤ 9223372036854775807
theorem b64_of_wf {x : Int} (h : (Lit.int .i64 x).wf = true) : b64 x := by
  simp [Lit.wf, IntKind.min, IntKind.max, IntKind.signed, IntKind.bits] at h
  exact ⟨by omega, by omega⟩
theorem bytesS : Try.prog.bytesOf 24 = 16 := by kernel_rfl
theorem add_lit' (b off i : Nat) : (⟨b, off, none⟩ : Addr).add i = ⟨b, off + i, none⟩ := Go.WideShapes.add_plain _ _ _
theorem open_spans {H : Type} {enc : TypeId × Value → H} {W : World} {a : Option Addr} {len cap : Nat} {d : DataW H} {p : List MemPlace} (h : DataW.Trod enc Try.prog W 0 (fun _ => true) true 31 (.slice a len cap) d p)
    (hs : ∀ elems spare, d = .slice elems spare → (elems.length + spare.length) * Try.prog.bytesOf 24 ≤ reachBytes) :
    ∃ zs : List Pr, Ls W a len zs ∧ len ≤ cap ∧ cap ≤ 8796093021952 ∧ (a = none → len = 0 ∧ cap = 0) ∧ ∀ q ∈ zs, b64 q.1 ∧ b64 q.2 := by
  obtain ⟨fuel, hf⟩ := h
  rcases Go.Deep.open_slice_pairs Try.underlying31 Try.underlying24 (by kernel_rfl) rfl rfl (by kernel_rfl) (by kernel_rfl) hf with ⟨hcs, _⟩ | ⟨ad, l, c, m, n, V0, V1, D0, D1, P0, P1, hcs, _, hl, hm, hmm, hx, hcell⟩
  · simp [Value.cells] at hcs
    obtain ⟨rfl, rfl, rfl⟩ := hcs
    exact ⟨[], Ls.nil _ _, Nat.le_refl _, by decide, fun _ => ⟨rfl, rfl⟩, fun q hq => by simp at hq⟩
  · simp [Value.cells] at hcs
    obtain ⟨rfl, rfl, rfl⟩ := hcs
    simp at hmm
    subst hmm
    have hb := hs _ _ (congrArg Prod.fst hx)
    rw [bytesS] at hb
    simp only [List.length_map, List.length_range, reachBytes] at hb
    have hV : ∀ i, i < m → ∃ q : Pr, V0 i = .int .i64 q.1 ∧ V1 i = .int .i64 q.2 ∧ b64 q.1 ∧ b64 q.2 := by
      intro i hi
      obtain ⟨-, -, h0, h1⟩ := hcell i hi
      obtain ⟨x, hx0, -, wx⟩ := DataW.trod_int Try.underlying22 h0
      obtain ⟨y, hy0, -, wy⟩ := DataW.trod_int Try.underlying22 h1
      exact ⟨(x, y), by simpa using hx0, by simpa using hy0, b64_of_wf wx, b64_of_wf wy⟩
    obtain ⟨Q, hQ⟩ := Go.Deep.choose_lt hV
    refine ⟨(List.range len).map Q, ⟨by simp, fun h0 => ?_⟩, hl, by omega, (fun h => by cases h), fun q hq => ?_⟩
    · obtain ⟨b, off, spot⟩ := ad
      have hspot : spot = none := by simpa [Addr.add] using World.cell?_spot (hcell 0 (by omega)).1
      subst hspot
      refine ⟨b, off, rfl, fun i hi => ?_⟩
      obtain ⟨c0, c1, -, -⟩ := hcell i (by omega)
      rw [add_lit'] at c0 c1
      have e : ((List.range len).map Q).getD i (0, 0) = Q i := by simp [hi]
      rw [e, ← (hQ i (by omega)).1, ← (hQ i (by omega)).2.1, c0, Nat.add_assoc, c1]
      exact ⟨rfl, rfl⟩
    · simp only [List.mem_map, List.mem_range] at hq
      obtain ⟨i, hi, rfl⟩ := hq
      exact (hQ i (by omega)).2.2
/-- A list of numbers (days, ints) that can be read. -/
def Ld (w : World) (a : Option Addr) (len : Nat) (zs : List Int) : Prop :=
  zs.length = len ∧ (0 < len → ∃ b off, a = some ⟨b, off, none⟩ ∧ ∀ i, i < len → w.cell? ⟨b, off + i, none⟩ = some (.int .i64 (zs.getD i 0)))
theorem Ld.after {w w' : World} {a : Option Addr} {len : Nat} {zs : List Int} (hb : Below w.heap.size w w') (h : Ld w a len zs) : Ld w' a len zs := by
  refine ⟨h.1, fun h0 => ?_⟩
  obtain ⟨b, off, e, hc⟩ := h.2 h0
  exact ⟨b, off, e, fun i hi => (hb.cell (p := ⟨b, _, none⟩) (cell_lt (hc i hi))).trans (hc i hi)⟩
theorem Ld.nil (w : World) (a : Option Addr) : Ld w a 0 [] := ⟨rfl, fun h => absurd h (Nat.lt_irrefl _)⟩
theorem open_days {H : Type} {enc : TypeId × Value → H} {W : World} {t e : TypeId} (ht : Try.prog.underlying t = some (.slice e)) (he : Try.prog.underlying e = some (.int .i64)) (hc : Try.prog.cellsOf e = 1) (hby : Try.prog.bytesOf e = 8) {a : Option Addr} {len cap : Nat} {d : DataW H} {p : List MemPlace} (h : DataW.Trod enc Try.prog W 0 (fun _ => true) true t (.slice a len cap) d p)
    (hs : ∀ elems spare, d = .slice elems spare → (elems.length + spare.length) * Try.prog.bytesOf e ≤ reachBytes) :
    ∃ zs : List Int, Ld W a len zs ∧ len ≤ cap ∧ cap ≤ 17592186043904 ∧ (a = none → len = 0 ∧ cap = 0) ∧ ∀ z ∈ zs, b64 z := by
  obtain ⟨fuel, hf⟩ := h
  rcases open_ints ht he hc hf with ⟨hcs, _⟩ | ⟨x, l, c, zs, hcs, _, hl, hm, hz, hx, hcell, hwz⟩
  · simp [Value.cells] at hcs
    obtain ⟨rfl, rfl, rfl⟩ := hcs
    exact ⟨[], Ld.nil _ _, Nat.le_refl _, by decide, fun _ => ⟨rfl, rfl⟩, fun q hq => by simp at hq⟩
  · simp [Value.cells] at hcs
    obtain ⟨rfl, rfl, rfl⟩ := hcs
    have hz' : zs.length = cap := by simpa using hz
    have hb := hs _ _ (congrArg Prod.fst hx)
    rw [hby] at hb
    simp only [lits, List.length_map, List.length_take, List.length_drop, reachBytes] at hb
    refine ⟨zs.take len, ⟨by rw [List.length_take]; omega, fun h => ?_⟩, hl, by omega, (fun h => by cases h), fun z hz2 => b64_of_wf (hwz z (List.mem_of_mem_take hz2))⟩
    obtain ⟨bb, off, rfl, hc⟩ := ints_at hcell (by omega)
    refine ⟨bb, off, rfl, fun j hj => ?_⟩
    rw [hc j (by omega), List.getD_eq_getElem?_getD, List.getD_eq_getElem?_getD, List.getElem?_take_of_lt hj]
end Go.Proofs.Ytiabjlaganmloaa
