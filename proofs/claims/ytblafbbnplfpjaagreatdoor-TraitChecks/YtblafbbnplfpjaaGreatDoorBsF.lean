/-
  Put together of: Rowp, Vars, Vres.
-/
import Derived.Test.YtblafbbnplfpjaaGreatDoorBsC
import Derived.Test.YtblafbbnplfpjaaGreatDoorBsA
import Derived.Test.YtblafbbnplfpjaaGreatDoorLists
namespace Go.Proofs.YtblafbbnplfpjaaGreatDoor

theorem num_take_congr {a b : List Int} : ∀ (k : Nat), (∀ j, j < k → a.getD j 0 = b.getD j 0) → num (a.take k) = num (b.take k)
  | 0, _ => by simp
  | k + 1, h => by rw [num_take_succ, num_take_succ, h k (by omega), num_take_congr k (fun j hj => h j (by omega))]
theorem num_set {cs : List Int} {i : Nat} (v : Int) (h : i < cs.length) : num (cs.set i v) = num cs + (v - cs.getD i 0) * pw i := by
  have e := num_above' (a := cs.set i v) (b := cs) (t := i + 1) (fun j hj => getD_set_other _ _ _ _ (by omega))
  rw [num_set_take _ _ _ h, num_take_succ] at e
  grind
theorem getD_set_self (zs : List Int) (i : Nat) (v : Int) (h : i < zs.length) : (zs.set i v).getD i 0 = v := by
  rw [List.getD_eq_getElem?_getD, List.getElem?_set_self h]; rfl
theorem getD_drop (zs : List Int) (k j : Nat) : (zs.drop k).getD j 0 = zs.getD (k + j) 0 := by
  rw [List.getD_eq_getElem?_getD, List.getElem?_drop, ← List.getD_eq_getElem?_getD]
theorem getD_seg (zs : List Int) (k n j : Nat) (h : j < n) : ((zs.drop k).take n).getD j 0 = zs.getD (k + j) 0 := by
  rw [getD_take_lt _ _ _ h, getD_drop]
theorem num_drop_congr {a b : List Int} (k : Nat) (h : ∀ j, k ≤ j → a.getD j 0 = b.getD j 0) : num (a.drop k) = num (b.drop k) :=
  num_eq_of fun j => by rw [getD_drop, getD_drop]; exact h _ (by omega)
theorem seg_length (cs : List Int) (off n : Nat) (h : off + n ≤ cs.length) : ((cs.drop off).take n).length = n := by
  rw [List.length_take, List.length_drop]; omega
/-- A row is what lies below a piece, the piece, and what lies beyond. -/
theorem num_parts (cs : List Int) (off n : Nat) (h : off + n ≤ cs.length) : num cs = num (cs.take off) + num ((cs.drop off).take n) * pw off + num (cs.drop (off + n)) * pw (off + n) := by
  have h1 := num_take_drop cs off (by omega)
  have h2 := num_take_drop (cs.drop off) n (by rw [List.length_drop]; omega)
  rw [List.drop_drop] at h2
  rw [h1, h2, pw_add]
  grind
/-- Where a piece alone has changed, by how much the row has. -/
theorem num_piece {cs ds : List Int} {off n : Nat} (hl : cs.length = ds.length) (h : off + n ≤ cs.length) (hout : ∀ j, j < off ∨ off + n ≤ j → cs.getD j 0 = ds.getD j 0) :
    num cs - num ds = (num ((cs.drop off).take n) - num ((ds.drop off).take n)) * pw off := by
  have h1 := num_parts cs off n h
  have h2 := num_parts ds off n (by omega)
  rw [num_take_congr off (fun j hj => hout j (.inl hj)), num_drop_congr (off + n) (fun j hj => hout j (.inr hj))] at h1
  grind
theorem mul_cancel {a b p : Int} (hp : 0 < p) (h : a * p = b * p) : a = b := Int.eq_of_mul_eq_mul_right (by omega) h
theorem lt_cancel {a b p : Int} (hp : 0 < p) (h : a * p < b * p) : a < b := Int.lt_of_mul_lt_mul_right h (by omega)
theorem le_cancel {a b p : Int} (hp : 0 < p) (h : a * p ≤ b * p) : a ≤ b := Int.le_of_mul_le_mul_right h hp
theorem mul_le {a b p : Int} (hp : 0 ≤ p) (h : a ≤ b) : a * p ≤ b * p := Int.mul_le_mul_of_nonneg_right h hp
theorem num_top (cs : List Int) (n : Nat) (h : cs.length = n + 1) : num cs = num (cs.take n) + cs.getD n 0 * pw n := by
  have := num_take_succ cs n
  rw [List.take_of_length_le (by omega)] at this; exact this
theorem num_take_lt {cs : List Int} (h : Limbs cs) (n : Nat) : num (cs.take n) < pw n := by
  refine Int.lt_of_lt_of_le (num_lt (h.take n)) (pw_mono ?_)
  rw [List.length_take]; omega
theorem num_take_nonneg {cs : List Int} (h : Limbs cs) (n : Nat) : 0 ≤ num (cs.take n) := num_nonneg (h.take n)
end Go.Proofs.YtblafbbnplfpjaaGreatDoor

namespace Go.Proofs.YtblafbbnplfpjaaGreatDoor
open Go.RowKit Go.Shelf

/-- A variable of the program: one block. -/
def Va (w : World) (b : Nat) (t : TypeId) (cs : Array Value) : Prop := w.heap[b]? = some (.cells cs t (0, 0))
theorem Va.lt {w : World} {b : Nat} {t : TypeId} {cs : Array Value} (h : Va w b t cs) : b < w.heap.size := by
  unfold Va at h
  rcases Nat.lt_or_ge b w.heap.size with h' | h'
  · exact h'
  · rw [Array.getElem?_eq_none h'] at h; cases h
theorem Va.cell {w : World} {b : Nat} {t : TypeId} {v : Value} (h : Va w b t #[v]) : w.cell? ⟨b, 0, none⟩ = some v := by
  unfold Va at h; simp [World.cell?, h]
theorem Va.cellAt {w : World} {b : Nat} {t : TypeId} {cs : Array Value} (h : Va w b t cs) (i : Nat) : w.cell? ⟨b, i, none⟩ = cs[i]? := by
  unfold Va at h; simp [World.cell?, h]
theorem Va.frozen {w : World} {b : Nat} {t : TypeId} {cs : Array Value} (h : Va w b t cs) (i : Nat) : w.frozen? ⟨b, i, none⟩ = false := by
  unfold Va at h; simp [World.frozen?, h]
theorem Va.below {B : Nat} {w w' : World} {b : Nat} {t : TypeId} {cs : Array Value} (h : Va w b t cs) (hb : Below B w w') (hB : b < B) : Va w' b t cs := by
  unfold Va at *; rw [hb.block b hB]; exact h
theorem Va.kept {w w' : World} {b : Nat} {t : TypeId} {cs : Array Value} (h : Va w b t cs) (hb : Below w.heap.size w w') : Va w' b t cs := h.below hb h.lt
theorem Va.after {w w' : World} (hb : Below w.heap.size w w') {b : Nat} {t : TypeId} {cs : Array Value} (h : Va w b t cs) : Va w' b t cs := h.below hb h.lt
theorem Va.new (w : World) (t : TypeId) (cs : Array Value) : Va (w.alloc (.cells cs t)) w.heap.size t cs := heap_alloc_new w _
theorem Va.old {w : World} {b : Nat} {t : TypeId} {cs : Array Value} (h : Va w b t cs) (o : Obj) : Va (w.alloc o) b t cs := by
  unfold Va at *
  rw [Below.heap_alloc _ _ _ (Va.lt h)]; exact h
theorem Va.set {w : World} {b : Nat} {t : TypeId} {v : Value} (h : Va w b t #[v]) (v' : Value) : Va (w.setCell ⟨b, 0, none⟩ v') b t #[v'] := by
  unfold Va at *
  simp only [World.setCell]
  rw [Array.getElem?_modify, if_pos rfl, h]
  simp
theorem Va.other {w : World} {b : Nat} {t : TypeId} {cs : Array Value} (h : Va w b t cs) {p : Addr} (hp : b ≠ p.block) (v' : Value) : Va (w.setCell p v') b t cs := by
  unfold Va at *
  rw [Below.heap_setCell _ _ _ _ hp]; exact h
theorem size_set (w : World) (p : Addr) (v : Value) : (w.setCell p v).heap.size = w.heap.size := by simp [World.setCell]

/-- A store into a variable of one cell, all told. -/
theorem set_var {w : World} {b : Nat} {t : TypeId} {v : Value} (h : Va w b t #[v]) (v' : Value) {Q : World → Prop}
    (k : ∀ w', Below b w w' → w'.heap.size = w.heap.size → Va w' b t #[v'] → (∀ c, c ≠ b → w'.heap[c]? = w.heap[c]?) → Q w') : Q (w.setCell ⟨b, 0, none⟩ v') :=
  k _ ((Below.refl b w).setCell (p := ⟨b, 0, none⟩) (Nat.le_refl _) _) (size_set _ _ _) (h.set v') (fun _ hc => Below.heap_setCell _ _ _ _ hc)
theorem Va.stay {w w' : World} {b b' : Nat} {t : TypeId} {cs : Array Value} (h : Va w b t cs) (hk : ∀ c, c ≠ b' → w'.heap[c]? = w.heap[c]?) (hne : b ≠ b') : Va w' b t cs := by
  unfold Va at *; rw [hk b hne]; exact h

theorem ent1 (w : World) (t0 : TypeId) (c0 : Array Value) {Q : World → Prop}
    (h : ∀ w0, Below w.heap.size w w0 → w0.heap.size = w.heap.size + 1 → Va w0 (w.heap.size) t0 c0 → Q w0) : Q (w.alloc (.cells c0 t0)) := by
  refine h _ ((Below.refl _ _).alloc (Nat.le_refl _) _) (by simp) ?_
  · have := Va.new w t0 c0
    exact this
theorem ent2 (w : World) (t0 : TypeId) (c0 : Array Value) (t1 : TypeId) (c1 : Array Value) {Q : World → Prop}
    (h : ∀ w0, Below w.heap.size w w0 → w0.heap.size = w.heap.size + 2 → Va w0 (w.heap.size) t0 c0 → Va w0 (w.heap.size + 1) t1 c1 → Q w0) : Q ((w.alloc (.cells c0 t0)).alloc (.cells c1 t1)) := by
  refine h _ (((Below.refl _ _).alloc (Nat.le_refl _) _).alloc (by simp) _) (by simp) ?_ ?_
  · have := Va.new w t0 c0
    exact (Va.old this _)
  · have := Va.new (w.alloc (.cells c0 t0)) t1 c1
    simp only [World.alloc, Array.size_push] at this
    exact this
theorem ent3 (w : World) (t0 : TypeId) (c0 : Array Value) (t1 : TypeId) (c1 : Array Value) (t2 : TypeId) (c2 : Array Value) {Q : World → Prop}
    (h : ∀ w0, Below w.heap.size w w0 → w0.heap.size = w.heap.size + 3 → Va w0 (w.heap.size) t0 c0 → Va w0 (w.heap.size + 1) t1 c1 → Va w0 (w.heap.size + 1 + 1) t2 c2 → Q w0) : Q (((w.alloc (.cells c0 t0)).alloc (.cells c1 t1)).alloc (.cells c2 t2)) := by
  refine h _ ((((Below.refl _ _).alloc (Nat.le_refl _) _).alloc (by simp) _).alloc (by simp; omega) _) (by simp) ?_ ?_ ?_
  · have := Va.new w t0 c0
    exact (Va.old (Va.old this _) _)
  · have := Va.new (w.alloc (.cells c0 t0)) t1 c1
    simp only [World.alloc, Array.size_push] at this
    exact (Va.old this _)
  · have := Va.new ((w.alloc (.cells c0 t0)).alloc (.cells c1 t1)) t2 c2
    simp only [World.alloc, Array.size_push] at this
    exact this
theorem ent4 (w : World) (t0 : TypeId) (c0 : Array Value) (t1 : TypeId) (c1 : Array Value) (t2 : TypeId) (c2 : Array Value) (t3 : TypeId) (c3 : Array Value) {Q : World → Prop}
    (h : ∀ w0, Below w.heap.size w w0 → w0.heap.size = w.heap.size + 4 → Va w0 (w.heap.size) t0 c0 → Va w0 (w.heap.size + 1) t1 c1 → Va w0 (w.heap.size + 1 + 1) t2 c2 → Va w0 (w.heap.size + 1 + 1 + 1) t3 c3 → Q w0) : Q ((((w.alloc (.cells c0 t0)).alloc (.cells c1 t1)).alloc (.cells c2 t2)).alloc (.cells c3 t3)) := by
  refine h _ (((((Below.refl _ _).alloc (Nat.le_refl _) _).alloc (by simp) _).alloc (by simp; omega) _).alloc (by simp; omega) _) (by simp) ?_ ?_ ?_ ?_
  · have := Va.new w t0 c0
    exact (Va.old (Va.old (Va.old this _) _) _)
  · have := Va.new (w.alloc (.cells c0 t0)) t1 c1
    simp only [World.alloc, Array.size_push] at this
    exact (Va.old (Va.old this _) _)
  · have := Va.new ((w.alloc (.cells c0 t0)).alloc (.cells c1 t1)) t2 c2
    simp only [World.alloc, Array.size_push] at this
    exact (Va.old this _)
  · have := Va.new (((w.alloc (.cells c0 t0)).alloc (.cells c1 t1)).alloc (.cells c2 t2)) t3 c3
    simp only [World.alloc, Array.size_push] at this
    exact this
theorem ent5 (w : World) (t0 : TypeId) (c0 : Array Value) (t1 : TypeId) (c1 : Array Value) (t2 : TypeId) (c2 : Array Value) (t3 : TypeId) (c3 : Array Value) (t4 : TypeId) (c4 : Array Value) {Q : World → Prop}
    (h : ∀ w0, Below w.heap.size w w0 → w0.heap.size = w.heap.size + 5 → Va w0 (w.heap.size) t0 c0 → Va w0 (w.heap.size + 1) t1 c1 → Va w0 (w.heap.size + 1 + 1) t2 c2 → Va w0 (w.heap.size + 1 + 1 + 1) t3 c3 → Va w0 (w.heap.size + 1 + 1 + 1 + 1) t4 c4 → Q w0) : Q (((((w.alloc (.cells c0 t0)).alloc (.cells c1 t1)).alloc (.cells c2 t2)).alloc (.cells c3 t3)).alloc (.cells c4 t4)) := by
  refine h _ ((((((Below.refl _ _).alloc (Nat.le_refl _) _).alloc (by simp) _).alloc (by simp; omega) _).alloc (by simp; omega) _).alloc (by simp; omega) _) (by simp) ?_ ?_ ?_ ?_ ?_
  · have := Va.new w t0 c0
    exact (Va.old (Va.old (Va.old (Va.old this _) _) _) _)
  · have := Va.new (w.alloc (.cells c0 t0)) t1 c1
    simp only [World.alloc, Array.size_push] at this
    exact (Va.old (Va.old (Va.old this _) _) _)
  · have := Va.new ((w.alloc (.cells c0 t0)).alloc (.cells c1 t1)) t2 c2
    simp only [World.alloc, Array.size_push] at this
    exact (Va.old (Va.old this _) _)
  · have := Va.new (((w.alloc (.cells c0 t0)).alloc (.cells c1 t1)).alloc (.cells c2 t2)) t3 c3
    simp only [World.alloc, Array.size_push] at this
    exact (Va.old this _)
  · have := Va.new ((((w.alloc (.cells c0 t0)).alloc (.cells c1 t1)).alloc (.cells c2 t2)).alloc (.cells c3 t3)) t4 c4
    simp only [World.alloc, Array.size_push] at this
    exact this
theorem ent6 (w : World) (t0 : TypeId) (c0 : Array Value) (t1 : TypeId) (c1 : Array Value) (t2 : TypeId) (c2 : Array Value) (t3 : TypeId) (c3 : Array Value) (t4 : TypeId) (c4 : Array Value) (t5 : TypeId) (c5 : Array Value) {Q : World → Prop}
    (h : ∀ w0, Below w.heap.size w w0 → w0.heap.size = w.heap.size + 6 → Va w0 (w.heap.size) t0 c0 → Va w0 (w.heap.size + 1) t1 c1 → Va w0 (w.heap.size + 1 + 1) t2 c2 → Va w0 (w.heap.size + 1 + 1 + 1) t3 c3 → Va w0 (w.heap.size + 1 + 1 + 1 + 1) t4 c4 → Va w0 (w.heap.size + 1 + 1 + 1 + 1 + 1) t5 c5 → Q w0) : Q ((((((w.alloc (.cells c0 t0)).alloc (.cells c1 t1)).alloc (.cells c2 t2)).alloc (.cells c3 t3)).alloc (.cells c4 t4)).alloc (.cells c5 t5)) := by
  refine h _ (((((((Below.refl _ _).alloc (Nat.le_refl _) _).alloc (by simp) _).alloc (by simp; omega) _).alloc (by simp; omega) _).alloc (by simp; omega) _).alloc (by simp; omega) _) (by simp) ?_ ?_ ?_ ?_ ?_ ?_
  · have := Va.new w t0 c0
    exact (Va.old (Va.old (Va.old (Va.old (Va.old this _) _) _) _) _)
  · have := Va.new (w.alloc (.cells c0 t0)) t1 c1
    simp only [World.alloc, Array.size_push] at this
    exact (Va.old (Va.old (Va.old (Va.old this _) _) _) _)
  · have := Va.new ((w.alloc (.cells c0 t0)).alloc (.cells c1 t1)) t2 c2
    simp only [World.alloc, Array.size_push] at this
    exact (Va.old (Va.old (Va.old this _) _) _)
  · have := Va.new (((w.alloc (.cells c0 t0)).alloc (.cells c1 t1)).alloc (.cells c2 t2)) t3 c3
    simp only [World.alloc, Array.size_push] at this
    exact (Va.old (Va.old this _) _)
  · have := Va.new ((((w.alloc (.cells c0 t0)).alloc (.cells c1 t1)).alloc (.cells c2 t2)).alloc (.cells c3 t3)) t4 c4
    simp only [World.alloc, Array.size_push] at this
    exact (Va.old this _)
  · have := Va.new (((((w.alloc (.cells c0 t0)).alloc (.cells c1 t1)).alloc (.cells c2 t2)).alloc (.cells c3 t3)).alloc (.cells c4 t4)) t5 c5
    simp only [World.alloc, Array.size_push] at this
    exact this
theorem ent7 (w : World) (t0 : TypeId) (c0 : Array Value) (t1 : TypeId) (c1 : Array Value) (t2 : TypeId) (c2 : Array Value) (t3 : TypeId) (c3 : Array Value) (t4 : TypeId) (c4 : Array Value) (t5 : TypeId) (c5 : Array Value) (t6 : TypeId) (c6 : Array Value) {Q : World → Prop}
    (h : ∀ w0, Below w.heap.size w w0 → w0.heap.size = w.heap.size + 7 → Va w0 (w.heap.size) t0 c0 → Va w0 (w.heap.size + 1) t1 c1 → Va w0 (w.heap.size + 1 + 1) t2 c2 → Va w0 (w.heap.size + 1 + 1 + 1) t3 c3 → Va w0 (w.heap.size + 1 + 1 + 1 + 1) t4 c4 → Va w0 (w.heap.size + 1 + 1 + 1 + 1 + 1) t5 c5 → Va w0 (w.heap.size + 1 + 1 + 1 + 1 + 1 + 1) t6 c6 → Q w0) : Q (((((((w.alloc (.cells c0 t0)).alloc (.cells c1 t1)).alloc (.cells c2 t2)).alloc (.cells c3 t3)).alloc (.cells c4 t4)).alloc (.cells c5 t5)).alloc (.cells c6 t6)) := by
  refine h _ ((((((((Below.refl _ _).alloc (Nat.le_refl _) _).alloc (by simp) _).alloc (by simp; omega) _).alloc (by simp; omega) _).alloc (by simp; omega) _).alloc (by simp; omega) _).alloc (by simp; omega) _) (by simp) ?_ ?_ ?_ ?_ ?_ ?_ ?_
  · have := Va.new w t0 c0
    exact (Va.old (Va.old (Va.old (Va.old (Va.old (Va.old this _) _) _) _) _) _)
  · have := Va.new (w.alloc (.cells c0 t0)) t1 c1
    simp only [World.alloc, Array.size_push] at this
    exact (Va.old (Va.old (Va.old (Va.old (Va.old this _) _) _) _) _)
  · have := Va.new ((w.alloc (.cells c0 t0)).alloc (.cells c1 t1)) t2 c2
    simp only [World.alloc, Array.size_push] at this
    exact (Va.old (Va.old (Va.old (Va.old this _) _) _) _)
  · have := Va.new (((w.alloc (.cells c0 t0)).alloc (.cells c1 t1)).alloc (.cells c2 t2)) t3 c3
    simp only [World.alloc, Array.size_push] at this
    exact (Va.old (Va.old (Va.old this _) _) _)
  · have := Va.new ((((w.alloc (.cells c0 t0)).alloc (.cells c1 t1)).alloc (.cells c2 t2)).alloc (.cells c3 t3)) t4 c4
    simp only [World.alloc, Array.size_push] at this
    exact (Va.old (Va.old this _) _)
  · have := Va.new (((((w.alloc (.cells c0 t0)).alloc (.cells c1 t1)).alloc (.cells c2 t2)).alloc (.cells c3 t3)).alloc (.cells c4 t4)) t5 c5
    simp only [World.alloc, Array.size_push] at this
    exact (Va.old this _)
  · have := Va.new ((((((w.alloc (.cells c0 t0)).alloc (.cells c1 t1)).alloc (.cells c2 t2)).alloc (.cells c3 t3)).alloc (.cells c4 t4)).alloc (.cells c5 t5)) t6 c6
    simp only [World.alloc, Array.size_push] at this
    exact this
end Go.Proofs.YtblafbbnplfpjaaGreatDoor

namespace Go.Proofs.YtblafbbnplfpjaaGreatDoor
open Go.RowKit Go.Shelf

theorem results_c {fn : Func} {i b : Nat} {v : Value} {tmps : Array Value} {w : World} (h : fn.results = #[.cell i 62]) (hi : tmps.getD i undef = .pointer (some ⟨b, 0, none⟩)) (hv : Va w b 62 #[v]) :
    (results fn tmps).run Tryz.prog w = .ok (.agg #[v]) w := by
  have c := hv.cell
  rw [Array.getD_eq_getD_getElem?] at hi
  simp [results, h, hi, c, go_sem]
theorem results_ct {fn : Func} {i j b : Nat} {v : Value} {tmps : Array Value} {w : World} (h : fn.results = #[.cell i 62, .tmp j]) (hi : tmps.getD i undef = .pointer (some ⟨b, 0, none⟩)) (hv : Va w b 62 #[v]) :
    (results fn tmps).run Tryz.prog w = .ok (.tuple #[.agg #[v], tmps.getD j undef]) w := by
  have c := hv.cell
  rw [Array.getD_eq_getD_getElem?] at hi
  simp [results, h, hi, c, go_sem]
theorem results_cct {fn : Func} {i j k b c : Nat} {v u : Value} {tmps : Array Value} {w : World} (h : fn.results = #[.cell i 62, .cell j 62, .tmp k]) (hi : tmps.getD i undef = .pointer (some ⟨b, 0, none⟩)) (hv : Va w b 62 #[v])
    (hj : tmps.getD j undef = .pointer (some ⟨c, 0, none⟩)) (hu : Va w c 62 #[u]) :
    (results fn tmps).run Tryz.prog w = .ok (.tuple #[.agg #[v], .agg #[u], tmps.getD k undef]) w := by
  have c := hv.cell; have d := hu.cell
  rw [Array.getD_eq_getD_getElem?] at hi hj
  simp [results, h, hi, hj, c, d, go_sem]
theorem results_cc {fn : Func} {i j b c : Nat} {v u : Value} {tmps : Array Value} {w : World} (h : fn.results = #[.cell i 62, .cell j 62]) (hi : tmps.getD i undef = .pointer (some ⟨b, 0, none⟩)) (hv : Va w b 62 #[v])
    (hj : tmps.getD j undef = .pointer (some ⟨c, 0, none⟩)) (hu : Va w c 62 #[u]) :
    (results fn tmps).run Tryz.prog w = .ok (.tuple #[.agg #[v], .agg #[u]]) w := by
  have c := hv.cell; have d := hu.cell
  rw [Array.getD_eq_getD_getElem?] at hi hj
  simp [results, h, hi, hj, c, d, go_sem]
end Go.Proofs.YtblafbbnplfpjaaGreatDoor
