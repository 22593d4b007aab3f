/-
  Variables that lie in memory, a block each: what is known of them behind their making, a store, a call.
-/
import Derived.Test.YtopmbfiepheepaaLists
namespace Go.Proofs.Ytopmbfiepheepaa
open Go.RowKit Go.Shelf

/-- A variable of the program: one block. -/
def Va (w : World) (b : Nat) (t : TypeId) (cs : Array Value) : Prop := w.heap[b]? = some (.cells cs t (0, 0))
theorem Va.lt {w : World} {b : Nat} {t : TypeId} {cs : Array Value} (h : Va w b t cs) : b < w.heap.size := by
  unfold Va at h
  rcases Nat.lt_or_ge b w.heap.size with h' | h'
  · exact h'
  · rw [Array.getElem?_eq_none h'] at h; cases h
theorem Va.cell {w : World} {b : Nat} {t : TypeId} {v : Value} (h : Va w b t #[v]) : w.cell? ⟨b, 0, none⟩ = some v := by
  unfold Va at h; simp [World.cell?, h]
theorem Va.cellAt {w : World} {b : Nat} {t : TypeId} {cs : Array Value} (h : Va w b t cs) (i : Nat) : w.cell? ⟨b, i, none⟩ = cs[i]? := by
  unfold Va at h; simp [World.cell?, h]
theorem Va.frozen {w : World} {b : Nat} {t : TypeId} {cs : Array Value} (h : Va w b t cs) (i : Nat) : w.frozen? ⟨b, i, none⟩ = false := by
  unfold Va at h; simp [World.frozen?, h]
theorem Va.below {B : Nat} {w w' : World} {b : Nat} {t : TypeId} {cs : Array Value} (h : Va w b t cs) (hb : Below B w w') (hB : b < B) : Va w' b t cs := by
  unfold Va at *; rw [hb.block b hB]; exact h
theorem Va.kept {w w' : World} {b : Nat} {t : TypeId} {cs : Array Value} (h : Va w b t cs) (hb : Below w.heap.size w w') : Va w' b t cs := h.below hb h.lt
theorem Va.after {w w' : World} (hb : Below w.heap.size w w') {b : Nat} {t : TypeId} {cs : Array Value} (h : Va w b t cs) : Va w' b t cs := h.below hb h.lt
theorem Va.new (w : World) (t : TypeId) (cs : Array Value) : Va (w.alloc (.cells cs t)) w.heap.size t cs := heap_alloc_new w _
theorem Va.old {w : World} {b : Nat} {t : TypeId} {cs : Array Value} (h : Va w b t cs) (o : Obj) : Va (w.alloc o) b t cs := by
  unfold Va at *
  rw [Below.heap_alloc _ _ _ (Va.lt h)]; exact h
theorem Va.set {w : World} {b : Nat} {t : TypeId} {v : Value} (h : Va w b t #[v]) (v' : Value) : Va (w.setCell ⟨b, 0, none⟩ v') b t #[v'] := by
  unfold Va at *
  simp only [World.setCell]
  rw [Array.getElem?_modify, if_pos rfl, h]
  simp
theorem Va.other {w : World} {b : Nat} {t : TypeId} {cs : Array Value} (h : Va w b t cs) {p : Addr} (hp : b ≠ p.block) (v' : Value) : Va (w.setCell p v') b t cs := by
  unfold Va at *
  rw [Below.heap_setCell _ _ _ _ hp]; exact h
theorem size_set (w : World) (p : Addr) (v : Value) : (w.setCell p v).heap.size = w.heap.size := by simp [World.setCell]

/-- A store into a variable of one cell, all told. -/
theorem set_var {w : World} {b : Nat} {t : TypeId} {v : Value} (h : Va w b t #[v]) (v' : Value) {Q : World → Prop}
    (k : ∀ w', Below b w w' → w'.heap.size = w.heap.size → Va w' b t #[v'] → (∀ c, c ≠ b → w'.heap[c]? = w.heap[c]?) → Q w') : Q (w.setCell ⟨b, 0, none⟩ v') :=
  k _ ((Below.refl b w).setCell (p := ⟨b, 0, none⟩) (Nat.le_refl _) _) (size_set _ _ _) (h.set v') (fun _ hc => Below.heap_setCell _ _ _ _ hc)
theorem Va.stay {w w' : World} {b b' : Nat} {t : TypeId} {cs : Array Value} (h : Va w b t cs) (hk : ∀ c, c ≠ b' → w'.heap[c]? = w.heap[c]?) (hne : b ≠ b') : Va w' b t cs := by
  unfold Va at *; rw [hk b hne]; exact h

theorem ent1 (w : World) (t0 : TypeId) (c0 : Array Value) {Q : World → Prop}
    (h : ∀ w0, Below w.heap.size w w0 → w0.heap.size = w.heap.size + 1 → Va w0 (w.heap.size) t0 c0 → Q w0) : Q (w.alloc (.cells c0 t0)) := by
  refine h _ ((Below.refl _ _).alloc (Nat.le_refl _) _) (by simp) ?_
  · have := Va.new w t0 c0
    exact this
theorem ent2 (w : World) (t0 : TypeId) (c0 : Array Value) (t1 : TypeId) (c1 : Array Value) {Q : World → Prop}
    (h : ∀ w0, Below w.heap.size w w0 → w0.heap.size = w.heap.size + 2 → Va w0 (w.heap.size) t0 c0 → Va w0 (w.heap.size + 1) t1 c1 → Q w0) : Q ((w.alloc (.cells c0 t0)).alloc (.cells c1 t1)) := by
  refine h _ (((Below.refl _ _).alloc (Nat.le_refl _) _).alloc (by simp) _) (by simp) ?_ ?_
  · have := Va.new w t0 c0
    exact (Va.old this _)
  · have := Va.new (w.alloc (.cells c0 t0)) t1 c1
    simp only [World.alloc, Array.size_push] at this
    exact this
theorem ent3 (w : World) (t0 : TypeId) (c0 : Array Value) (t1 : TypeId) (c1 : Array Value) (t2 : TypeId) (c2 : Array Value) {Q : World → Prop}
    (h : ∀ w0, Below w.heap.size w w0 → w0.heap.size = w.heap.size + 3 → Va w0 (w.heap.size) t0 c0 → Va w0 (w.heap.size + 1) t1 c1 → Va w0 (w.heap.size + 1 + 1) t2 c2 → Q w0) : Q (((w.alloc (.cells c0 t0)).alloc (.cells c1 t1)).alloc (.cells c2 t2)) := by
  refine h _ ((((Below.refl _ _).alloc (Nat.le_refl _) _).alloc (by simp) _).alloc (by simp; omega) _) (by simp) ?_ ?_ ?_
  · have := Va.new w t0 c0
    exact (Va.old (Va.old this _) _)
  · have := Va.new (w.alloc (.cells c0 t0)) t1 c1
    simp only [World.alloc, Array.size_push] at this
    exact (Va.old this _)
  · have := Va.new ((w.alloc (.cells c0 t0)).alloc (.cells c1 t1)) t2 c2
    simp only [World.alloc, Array.size_push] at this
    exact this
theorem ent4 (w : World) (t0 : TypeId) (c0 : Array Value) (t1 : TypeId) (c1 : Array Value) (t2 : TypeId) (c2 : Array Value) (t3 : TypeId) (c3 : Array Value) {Q : World → Prop}
    (h : ∀ w0, Below w.heap.size w w0 → w0.heap.size = w.heap.size + 4 → Va w0 (w.heap.size) t0 c0 → Va w0 (w.heap.size + 1) t1 c1 → Va w0 (w.heap.size + 1 + 1) t2 c2 → Va w0 (w.heap.size + 1 + 1 + 1) t3 c3 → Q w0) : Q ((((w.alloc (.cells c0 t0)).alloc (.cells c1 t1)).alloc (.cells c2 t2)).alloc (.cells c3 t3)) := by
  refine h _ (((((Below.refl _ _).alloc (Nat.le_refl _) _).alloc (by simp) _).alloc (by simp; omega) _).alloc (by simp; omega) _) (by simp) ?_ ?_ ?_ ?_
  · have := Va.new w t0 c0
    exact (Va.old (Va.old (Va.old this _) _) _)
  · have := Va.new (w.alloc (.cells c0 t0)) t1 c1
    simp only [World.alloc, Array.size_push] at this
    exact (Va.old (Va.old this _) _)
  · have := Va.new ((w.alloc (.cells c0 t0)).alloc (.cells c1 t1)) t2 c2
    simp only [World.alloc, Array.size_push] at this
    exact (Va.old this _)
  · have := Va.new (((w.alloc (.cells c0 t0)).alloc (.cells c1 t1)).alloc (.cells c2 t2)) t3 c3
    simp only [World.alloc, Array.size_push] at this
    exact this
theorem ent5 (w : World) (t0 : TypeId) (c0 : Array Value) (t1 : TypeId) (c1 : Array Value) (t2 : TypeId) (c2 : Array Value) (t3 : TypeId) (c3 : Array Value) (t4 : TypeId) (c4 : Array Value) {Q : World → Prop}
    (h : ∀ w0, Below w.heap.size w w0 → w0.heap.size = w.heap.size + 5 → Va w0 (w.heap.size) t0 c0 → Va w0 (w.heap.size + 1) t1 c1 → Va w0 (w.heap.size + 1 + 1) t2 c2 → Va w0 (w.heap.size + 1 + 1 + 1) t3 c3 → Va w0 (w.heap.size + 1 + 1 + 1 + 1) t4 c4 → Q w0) : Q (((((w.alloc (.cells c0 t0)).alloc (.cells c1 t1)).alloc (.cells c2 t2)).alloc (.cells c3 t3)).alloc (.cells c4 t4)) := by
  refine h _ ((((((Below.refl _ _).alloc (Nat.le_refl _) _).alloc (by simp) _).alloc (by simp; omega) _).alloc (by simp; omega) _).alloc (by simp; omega) _) (by simp) ?_ ?_ ?_ ?_ ?_
  · have := Va.new w t0 c0
    exact (Va.old (Va.old (Va.old (Va.old this _) _) _) _)
  · have := Va.new (w.alloc (.cells c0 t0)) t1 c1
    simp only [World.alloc, Array.size_push] at this
    exact (Va.old (Va.old (Va.old this _) _) _)
  · have := Va.new ((w.alloc (.cells c0 t0)).alloc (.cells c1 t1)) t2 c2
    simp only [World.alloc, Array.size_push] at this
    exact (Va.old (Va.old this _) _)
  · have := Va.new (((w.alloc (.cells c0 t0)).alloc (.cells c1 t1)).alloc (.cells c2 t2)) t3 c3
    simp only [World.alloc, Array.size_push] at this
    exact (Va.old this _)
  · have := Va.new ((((w.alloc (.cells c0 t0)).alloc (.cells c1 t1)).alloc (.cells c2 t2)).alloc (.cells c3 t3)) t4 c4
    simp only [World.alloc, Array.size_push] at this
    exact this
theorem ent6 (w : World) (t0 : TypeId) (c0 : Array Value) (t1 : TypeId) (c1 : Array Value) (t2 : TypeId) (c2 : Array Value) (t3 : TypeId) (c3 : Array Value) (t4 : TypeId) (c4 : Array Value) (t5 : TypeId) (c5 : Array Value) {Q : World → Prop}
    (h : ∀ w0, Below w.heap.size w w0 → w0.heap.size = w.heap.size + 6 → Va w0 (w.heap.size) t0 c0 → Va w0 (w.heap.size + 1) t1 c1 → Va w0 (w.heap.size + 1 + 1) t2 c2 → Va w0 (w.heap.size + 1 + 1 + 1) t3 c3 → Va w0 (w.heap.size + 1 + 1 + 1 + 1) t4 c4 → Va w0 (w.heap.size + 1 + 1 + 1 + 1 + 1) t5 c5 → Q w0) : Q ((((((w.alloc (.cells c0 t0)).alloc (.cells c1 t1)).alloc (.cells c2 t2)).alloc (.cells c3 t3)).alloc (.cells c4 t4)).alloc (.cells c5 t5)) := by
  refine h _ (((((((Below.refl _ _).alloc (Nat.le_refl _) _).alloc (by simp) _).alloc (by simp; omega) _).alloc (by simp; omega) _).alloc (by simp; omega) _).alloc (by simp; omega) _) (by simp) ?_ ?_ ?_ ?_ ?_ ?_
  · have := Va.new w t0 c0
    exact (Va.old (Va.old (Va.old (Va.old (Va.old this _) _) _) _) _)
  · have := Va.new (w.alloc (.cells c0 t0)) t1 c1
    simp only [World.alloc, Array.size_push] at this
    exact (Va.old (Va.old (Va.old (Va.old this _) _) _) _)
  · have := Va.new ((w.alloc (.cells c0 t0)).alloc (.cells c1 t1)) t2 c2
    simp only [World.alloc, Array.size_push] at this
    exact (Va.old (Va.old (Va.old this _) _) _)
  · have := Va.new (((w.alloc (.cells c0 t0)).alloc (.cells c1 t1)).alloc (.cells c2 t2)) t3 c3
    simp only [World.alloc, Array.size_push] at this
    exact (Va.old (Va.old this _) _)
  · have := Va.new ((((w.alloc (.cells c0 t0)).alloc (.cells c1 t1)).alloc (.cells c2 t2)).alloc (.cells c3 t3)) t4 c4
    simp only [World.alloc, Array.size_push] at this
    exact (Va.old this _)
  · have := Va.new (((((w.alloc (.cells c0 t0)).alloc (.cells c1 t1)).alloc (.cells c2 t2)).alloc (.cells c3 t3)).alloc (.cells c4 t4)) t5 c5
    simp only [World.alloc, Array.size_push] at this
    exact this
theorem ent7 (w : World) (t0 : TypeId) (c0 : Array Value) (t1 : TypeId) (c1 : Array Value) (t2 : TypeId) (c2 : Array Value) (t3 : TypeId) (c3 : Array Value) (t4 : TypeId) (c4 : Array Value) (t5 : TypeId) (c5 : Array Value) (t6 : TypeId) (c6 : Array Value) {Q : World → Prop}
    (h : ∀ w0, Below w.heap.size w w0 → w0.heap.size = w.heap.size + 7 → Va w0 (w.heap.size) t0 c0 → Va w0 (w.heap.size + 1) t1 c1 → Va w0 (w.heap.size + 1 + 1) t2 c2 → Va w0 (w.heap.size + 1 + 1 + 1) t3 c3 → Va w0 (w.heap.size + 1 + 1 + 1 + 1) t4 c4 → Va w0 (w.heap.size + 1 + 1 + 1 + 1 + 1) t5 c5 → Va w0 (w.heap.size + 1 + 1 + 1 + 1 + 1 + 1) t6 c6 → Q w0) : Q (((((((w.alloc (.cells c0 t0)).alloc (.cells c1 t1)).alloc (.cells c2 t2)).alloc (.cells c3 t3)).alloc (.cells c4 t4)).alloc (.cells c5 t5)).alloc (.cells c6 t6)) := by
  refine h _ ((((((((Below.refl _ _).alloc (Nat.le_refl _) _).alloc (by simp) _).alloc (by simp; omega) _).alloc (by simp; omega) _).alloc (by simp; omega) _).alloc (by simp; omega) _).alloc (by simp; omega) _) (by simp) ?_ ?_ ?_ ?_ ?_ ?_ ?_
  · have := Va.new w t0 c0
    exact (Va.old (Va.old (Va.old (Va.old (Va.old (Va.old this _) _) _) _) _) _)
  · have := Va.new (w.alloc (.cells c0 t0)) t1 c1
    simp only [World.alloc, Array.size_push] at this
    exact (Va.old (Va.old (Va.old (Va.old (Va.old this _) _) _) _) _)
  · have := Va.new ((w.alloc (.cells c0 t0)).alloc (.cells c1 t1)) t2 c2
    simp only [World.alloc, Array.size_push] at this
    exact (Va.old (Va.old (Va.old (Va.old this _) _) _) _)
  · have := Va.new (((w.alloc (.cells c0 t0)).alloc (.cells c1 t1)).alloc (.cells c2 t2)) t3 c3
    simp only [World.alloc, Array.size_push] at this
    exact (Va.old (Va.old (Va.old this _) _) _)
  · have := Va.new ((((w.alloc (.cells c0 t0)).alloc (.cells c1 t1)).alloc (.cells c2 t2)).alloc (.cells c3 t3)) t4 c4
    simp only [World.alloc, Array.size_push] at this
    exact (Va.old (Va.old this _) _)
  · have := Va.new (((((w.alloc (.cells c0 t0)).alloc (.cells c1 t1)).alloc (.cells c2 t2)).alloc (.cells c3 t3)).alloc (.cells c4 t4)) t5 c5
    simp only [World.alloc, Array.size_push] at this
    exact (Va.old this _)
  · have := Va.new ((((((w.alloc (.cells c0 t0)).alloc (.cells c1 t1)).alloc (.cells c2 t2)).alloc (.cells c3 t3)).alloc (.cells c4 t4)).alloc (.cells c5 t5)) t6 c6
    simp only [World.alloc, Array.size_push] at this
    exact this
end Go.Proofs.Ytopmbfiepheepaa
