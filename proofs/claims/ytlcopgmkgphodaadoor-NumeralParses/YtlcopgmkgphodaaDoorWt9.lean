/-
  The document's piece, over and Worths of layer 3, at base ten, for numbers below 2 ^ 64.
-/
import Derived.Test.YtlcopgmkgphodaaDoorT3a
import Derived.Test.YtlcopgmkgphodaaDoorBsK
namespace Go.Proofs.YtlcopgmkgphodaaDoor
open Go.RowKit Go.Shelf
set_option linter.unusedVariables false

/-- Digits at the head of a row of the call's own. -/
def Wb (w : World) (g m : Nat) (ds : List Int) : Prop := ds.length = m ∧ ∃ cur : Array Value, w.heap[g]? = some (.cells cur 34 (0, 0)) ∧ ∀ i, i < m → cur[i]? = some (.int .u64 (ds.getD i 0))
theorem Wb.cell {w : World} {g m : Nat} {ds : List Int} (h : Wb w g m ds) (i : Nat) (hi : i < m) : w.cell? ⟨g, i, none⟩ = some (.int .u64 (ds.getD i 0)) := by
  obtain ⟨-, cur, h1, h2⟩ := h
  simp only [World.cell?, h1]
  simpa using h2 i hi
theorem Wb.frozen {w : World} {g m : Nat} {ds : List Int} (h : Wb w g m ds) (i : Nat) : w.frozen? ⟨g, i, none⟩ = false := by
  obtain ⟨-, cur, h1, h2⟩ := h
  simp [World.frozen?, h1]
theorem Wb.lt {w : World} {g m : Nat} {ds : List Int} (h : Wb w g m ds) : g < w.heap.size := by
  obtain ⟨-, cur, h1, h2⟩ := h
  rcases Nat.lt_or_ge g w.heap.size with h' | h'
  · exact h'
  · rw [Array.getElem?_eq_none h'] at h1; cases h1
theorem Wb.set {w : World} {g m : Nat} {ds : List Int} (h : Wb w g m ds) (i : Nat) (hi : i < m) (v : Int) : Wb (w.setCell ⟨g, i, none⟩ (.int .u64 v)) g m (ds.set i v) := by
  obtain ⟨h0, cur, h1, h2⟩ := h
  have hc : i < cur.size := by
    rcases Nat.lt_or_ge i cur.size with h' | h'
    · exact h'
    · have := h2 i hi; rw [Array.getElem?_eq_none h'] at this; cases this
  refine ⟨by rw [List.length_set]; exact h0, cur.setIfInBounds i (.int .u64 v), ?_, fun j hj => ?_⟩
  · simp only [World.setCell]
    rw [Array.getElem?_modify, if_pos rfl, h1]
    simp
  · rw [List.getD_eq_getElem?_getD]
    by_cases e : i = j
    · subst e
      rw [Array.getElem?_setIfInBounds_self_of_lt hc, List.getElem?_set_self (by omega)]; rfl
    · rw [Array.getElem?_setIfInBounds_ne e, List.getElem?_set_ne e, ← List.getD_eq_getElem?_getD]; exact h2 j hj
theorem Wb.sl {w : World} {g m : Nat} {ds : List Int} (h : Wb w g m ds) (hL : Limbs ds) : Sl w (some ⟨g, 0, none⟩) m ds :=
  ⟨h.1, hL, fun _ => ⟨g, 0, rfl, fun i hi => by rw [Nat.zero_add]; exact h.cell i hi⟩⟩
theorem Wb.take {w : World} {g m : Nat} {ds : List Int} (h : Wb w g m ds) {n : Nat} (hn : n ≤ m) : Wb w g n (ds.take n) := by
  obtain ⟨h0, cur, h1, h2⟩ := h
  refine ⟨by rw [List.length_take]; omega, cur, h1, fun i hi => ?_⟩
  rw [h2 i (by omega), List.getD_eq_getElem?_getD, List.getD_eq_getElem?_getD, List.getElem?_take_of_lt hi]
theorem Wb.below {B : Nat} {w w' : World} {g m : Nat} {ds : List Int} (h : Wb w g m ds) (b : Below B w w') (hg : g < B) : Wb w' g m ds := by
  obtain ⟨h0, cur, h1, h2⟩ := h
  exact ⟨h0, cur, by rw [b.block g hg]; exact h1, h2⟩
theorem wb_of {w : World} {g m : Nat} {ds : List Int} {cur : Array Value} (h : Sl w (some ⟨g, 0, none⟩) m ds) (hh : w.heap[g]? = some (.cells cur 34 (0, 0))) : Wb w g m ds := by
  refine ⟨h.1, cur, hh, fun i hi => ?_⟩
  obtain ⟨b, off, e, hc⟩ := h.2.2 (by omega)
  cases e
  have := hc i hi
  simp only [World.cell?, hh, Nat.zero_add] at this
  simpa using this
theorem gr_only {g : Nat} {w w' : World} {B : Nat} {v : Value} {cs : List Int} (h : Gr w B v cs) (o : Only g w w') (hg : g < B) : Gr w' B v cs := by
  obtain ⟨h1, h2 | ⟨k, cap, cur, e, hB, hh, hc, hm, hs, ht⟩⟩ := h
  · exact ⟨h1, .inl h2⟩
  · exact ⟨h1, .inr ⟨k, cap, cur, e, hB, by rw [o.oth k (by omega)]; exact hh, hc, hm, hs, ht⟩⟩
end Go.Proofs.YtlcopgmkgphodaaDoor
