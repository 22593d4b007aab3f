/-
  Whether a number has these limbs; the number of a list.
-/
import Derived.Test.YtopmbfiepheepaaLaw2
namespace Go.Proofs.Ytopmbfiepheepaa
open Go.RowKit Go.Shelf

theorem Nt.only {g : Nat} {w w' : World} {a : Option Addr} {len cap : Nat} {zs : List Int} (h : Nt w a len cap zs) (o : Only g w w') (hne : 0 < len → ∀ p, a = some p → p.block ≠ g) : Nt w' a len cap zs := ⟨(Sx.only ⟨h.1, hne⟩ o).1, h.2⟩

/-- A block of so many cells at least. -/
def Blk (w : World) (g n : Nat) : Prop := ∃ cur t, w.heap[g]? = some (.cells cur t (0, 0)) ∧ n ≤ cur.size
theorem Blk.lt {w : World} {g n : Nat} (h : Blk w g n) : g < w.heap.size := by
  obtain ⟨cur, t, h, -⟩ := h
  rcases Nat.lt_or_ge g w.heap.size with h' | h'
  · exact h'
  · rw [Array.getElem?_eq_none h'] at h; cases h
theorem Blk.cell {w : World} {g n : Nat} (h : Blk w g n) {k : Nat} (hk : k < n) : ∃ x, w.cell? ⟨g, k, none⟩ = some x := by
  obtain ⟨cur, t, h, hn⟩ := h
  refine ⟨cur[k]'(by omega), ?_⟩
  simp only [World.cell?, h]
  exact Array.getElem?_eq_getElem (by omega)
theorem Blk.frozen {w : World} {g n : Nat} (h : Blk w g n) (k : Nat) : w.frozen? ⟨g, k, none⟩ = false := by
  obtain ⟨cur, t, h, -⟩ := h
  simp [World.frozen?, h]
theorem Blk.set {w : World} {g n : Nat} (h : Blk w g n) (k : Nat) (v : Value) : Blk (w.setCell ⟨g, k, none⟩ v) g n := by
  obtain ⟨cur, t, h, hn⟩ := h
  refine ⟨cur.setIfInBounds k v, t, ?_, by simpa using hn⟩
  simp only [World.setCell]
  rw [Array.getElem?_modify, if_pos rfl, h]
  rfl
theorem Blk.kept {w w' : World} {g n : Nat} (h : Blk w g n) (hb : Below w.heap.size w w') : Blk w' g n := by
  have hl := h.lt
  obtain ⟨cur, t, h, hn⟩ := h
  exact ⟨cur, t, by rw [hb.block g hl]; exact h, hn⟩
theorem Blk.only {w w' : World} {g b n : Nat} (h : Blk w b n) (o : Only g w w') (hne : b ≠ g) : Blk w' b n := by
  obtain ⟨cur, t, h, hn⟩ := h
  exact ⟨cur, t, by rw [o.oth b hne]; exact h, hn⟩
theorem Gr.parts {w : World} {B : Nat} {v : Value} {cs : List Int} (h : Gr w B v cs) (hL : Limbs cs) :
    ∃ a c gm, v = .slice a cs.length c ∧ cs.length ≤ c ∧ Sl w a cs.length cs ∧ B ≤ gm ∧ (a = none → cs.length = 0 ∧ c = 0) ∧ (0 < cs.length → a = some ⟨gm, 0, none⟩ ∧ Blk w gm cs.length) := by
  obtain ⟨a, c, e, hc, hs⟩ := h.sl hL
  obtain ⟨h1, h2 | ⟨g, cap, cur, e2, hBg, hh, hc2, hm, hsz, ht⟩⟩ := h
  · obtain ⟨e2, h0⟩ := h2
    rw [e2] at e
    obtain ⟨ea, -, ec⟩ := Value.slice.inj e
    rw [← ea] at hs
    exact ⟨none, 0, B, e2.trans (by rw [h0]), by omega, hs, Nat.le_refl _, fun _ => ⟨h0, rfl⟩, fun h => by omega⟩
  · rw [e2] at e
    obtain ⟨ea, -, ec⟩ := Value.slice.inj e
    rw [← ea] at hs
    exact ⟨_, _, g, e2, hc2, hs, hBg, (fun h => by cases h), fun _ => ⟨rfl, cur, 23, hh, by omega⟩⟩

end Go.Proofs.Ytopmbfiepheepaa
