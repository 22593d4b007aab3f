/-
  Variables in memory, lists of tokens that grow in memory of the call's own.
-/
import Derived.Test.YtiedpclomplnmaaTcP
import Derived.Test.YtiedpclomplnmaaShelf
import Derived.Test.YtiedpclomplnmaaProg
import Derived.WalkKit
import Derived.WalkSpells
import Derived.Below
import Derived.BigQuiet
import Derived.BigRegion
import Derived.Deep.QuietTactic
import Derived.Deep.DeepCutAuto
import Derived.Deep.CutBlock
import Derived.Deep.OwnRows
import Derived.Deep.RegionLaw
import Derived.Deep.RegionHeld3
import Derived.Deep.AppendLies
import Derived.Laws.OwnMore
import Derived.Laws.MakeOwn
import Derived.Maps.AppendAt
import Derived.Maps.OwnIn
import Derived.WalkSmall
import Derived.Shelf.Abstract
import Derived.Lib.Strings
import Derived.Lib.SmallJoins
namespace Go.Proofs.Ytiedpclomplnmaa
open Go.RowKit Go.Shelf
set_option linter.unusedVariables false

theorem step {w wk w' : World} (B : Below w.heap.size w wk) (hb : Below wk.heap.size wk w') : Below w.heap.size w w' := B.trans (hb.mono B.size)
/-- A variable of the program: one block. -/
def Va (w : World) (b : Nat) (t : TypeId) (cs : Array Value) : Prop := w.heap[b]? = some (.cells cs t (0, 0))
theorem Va.lt {w : World} {b : Nat} {t : TypeId} {cs : Array Value} (h : Va w b t cs) : b < w.heap.size := (Array.getElem?_eq_some_iff.1 h).1
theorem Va.cellAt {w : World} {b : Nat} {t : TypeId} {cs : Array Value} (h : Va w b t cs) (i : Nat) : w.cell? ⟨b, i, none⟩ = cs[i]? := by
  unfold Va at h; simp [World.cell?, h]
theorem Va.cell {w : World} {b : Nat} {t : TypeId} {v : Value} (h : Va w b t #[v]) : w.cell? ⟨b, 0, none⟩ = some v := by rw [h.cellAt 0]; rfl
theorem Va.c0 {w : World} {b : Nat} {t : TypeId} {x y : Value} (h : Va w b t #[x, y]) : w.cell? ⟨b, 0, none⟩ = some x := by rw [h.cellAt 0]; rfl
theorem Va.c1 {w : World} {b : Nat} {t : TypeId} {x y : Value} (h : Va w b t #[x, y]) : w.cell? ⟨b, 1, none⟩ = some y := by rw [h.cellAt 1]; rfl
theorem Va.frozen {w : World} {b : Nat} {t : TypeId} {cs : Array Value} (h : Va w b t cs) (i : Nat) : w.frozen? ⟨b, i, none⟩ = false := by
  unfold Va at h; simp [World.frozen?, h]
theorem Va.below {B : Nat} {w w' : World} {b : Nat} {t : TypeId} {cs : Array Value} (h : Va w b t cs) (hb : Below B w w') (hB : b < B) : Va w' b t cs := by
  unfold Va at *; rw [hb.block b hB]; exact h
theorem Va.after {w w' : World} (hb : Below w.heap.size w w') {b : Nat} {t : TypeId} {cs : Array Value} (h : Va w b t cs) : Va w' b t cs := h.below hb h.lt
theorem Va.new (w : World) (t : TypeId) (cs : Array Value) : Va (w.alloc (.cells cs t)) w.heap.size t cs := heap_alloc_new w _
theorem Va.old {w : World} {b : Nat} {t : TypeId} {cs : Array Value} (h : Va w b t cs) (o : Obj) : Va (w.alloc o) b t cs := by
  unfold Va at *
  rw [Below.heap_alloc _ _ _ (Va.lt h)]; exact h
theorem Va.set {w : World} {b : Nat} {t : TypeId} {v : Value} (h : Va w b t #[v]) (v' : Value) : Va (w.setCell ⟨b, 0, none⟩ v') b t #[v'] := by
  unfold Va at *
  simp only [World.setCell]
  rw [Array.getElem?_modify, if_pos rfl, h]
  simp
theorem Va.set0 {w : World} {b : Nat} {t : TypeId} {x y : Value} (h : Va w b t #[x, y]) (x' : Value) : Va (w.setCell ⟨b, 0, none⟩ x') b t #[x', y] := by
  unfold Va at *
  simp only [World.setCell]
  rw [Array.getElem?_modify, if_pos rfl, h]
  simp
theorem Va.set2 {w : World} {b : Nat} {t : TypeId} {x y : Value} (h : Va w b t #[x, y]) (x' y' : Value) : Va ((w.setCell ⟨b, 0, none⟩ x').setCell ⟨b, 1, none⟩ y') b t #[x', y'] := by
  unfold Va at *
  simp only [World.setCell]
  rw [Array.getElem?_modify, if_pos rfl, Array.getElem?_modify, if_pos rfl, h]
  simp
theorem Va.other {w : World} {b : Nat} {t : TypeId} {cs : Array Value} (h : Va w b t cs) {p : Addr} (hp : b ≠ p.block) (v' : Value) : Va (w.setCell p v') b t cs := by
  unfold Va at *
  rw [← h]
  exact heap_setCell_other w p b v' (fun e => hp e)
theorem Va.other2 {w : World} {b c : Nat} {t : TypeId} {cs : Array Value} (h : Va w b t cs) (hne : b ≠ c) (x' y' : Value) : Va ((w.setCell ⟨c, 0, none⟩ x').setCell ⟨c, 1, none⟩ y') b t cs :=
  (h.other (p := ⟨c, 0, none⟩) hne x').other (p := ⟨c, 1, none⟩) hne y'
theorem below_2 {B : Nat} {a w : World} (h : Below B a w) {c : Nat} (hc : B ≤ c) (x y : Value) : Below B a ((w.setCell ⟨c, 0, none⟩ x).setCell ⟨c, 1, none⟩ y) :=
  (h.setCell (p := ⟨c, 0, none⟩) hc x).setCell (p := ⟨c, 1, none⟩) hc y
theorem ent1 (w : World) (t0 : TypeId) (c0 : Array Value) {Q : World → Prop}
    (h : ∀ w0, Below w.heap.size w w0 → w0.heap.size = w.heap.size + 1 → Va w0 (w.heap.size) t0 c0 → Q w0) : Q (w.alloc (.cells c0 t0)) :=
  h _ ((Below.refl _ _).alloc (Nat.le_refl _) _) (by simp) (Va.new w t0 c0)
theorem ent2 (w : World) (t0 : TypeId) (c0 : Array Value) (t1 : TypeId) (c1 : Array Value) {Q : World → Prop}
    (h : ∀ w0, Below w.heap.size w w0 → w0.heap.size = w.heap.size + 2 → Va w0 (w.heap.size) t0 c0 → Va w0 (w.heap.size + 1) t1 c1 → Q w0) : Q ((w.alloc (.cells c0 t0)).alloc (.cells c1 t1)) :=
  h _ (((Below.refl _ _).alloc (Nat.le_refl _) _).alloc (by simp) _) (by simp) ((Va.new w t0 c0).old _) (by have := Va.new (w.alloc (.cells c0 t0)) t1 c1; rwa [World.size_alloc] at this)
theorem ent3 (w : World) (t0 : TypeId) (c0 : Array Value) (t1 : TypeId) (c1 : Array Value) (t2 : TypeId) (c2 : Array Value) {Q : World → Prop}
    (h : ∀ w0, Below w.heap.size w w0 → w0.heap.size = w.heap.size + 3 → Va w0 (w.heap.size) t0 c0 → Va w0 (w.heap.size + 1) t1 c1 → Va w0 (w.heap.size + 1 + 1) t2 c2 → Q w0) : Q (((w.alloc (.cells c0 t0)).alloc (.cells c1 t1)).alloc (.cells c2 t2)) :=
  h _ ((((Below.refl _ _).alloc (Nat.le_refl _) _).alloc (by simp) _).alloc (by simp; omega) _) (by simp) (((Va.new w t0 c0).old _).old _) (by have := Va.new (w.alloc (.cells c0 t0)) t1 c1; rw [World.size_alloc] at this; exact this.old _) (by have := Va.new ((w.alloc (.cells c0 t0)).alloc (.cells c1 t1)) t2 c2; rwa [World.size_alloc, World.size_alloc] at this)

theorem cell_lt {w : World} {b i : Nat} {v : Value} (h : w.cell? ⟨b, i, none⟩ = some v) : b < w.heap.size := by
  rcases Nat.lt_or_ge b w.heap.size with h' | h'
  · exact h'
  · simp [World.cell?, Array.getElem?_eq_none h'] at h
theorem Va.set3 {w : World} {b : Nat} {t : TypeId} {x y z : Value} (h : Va w b t #[x, y, z]) (x' y' z' : Value) : Va (((w.setCell ⟨b, 0, none⟩ x').setCell ⟨b, 1, none⟩ y').setCell ⟨b, 2, none⟩ z') b t #[x', y', z'] := by
  unfold Va at *
  simp only [World.setCell]
  rw [Array.getElem?_modify, if_pos rfl, Array.getElem?_modify, if_pos rfl, Array.getElem?_modify, if_pos rfl, h]
  simp
/-- A text. -/
abbrev sv (l : List UInt8) : Value := .string ⟨l.toArray⟩
def tk0 : Tk := ⟨0, [], 0, 0⟩
/-- A token's cells. -/
def cellsT (t : Tk) : List Value := [.int .i64 t.kd, sv t.tx, .int .i64 t.ln, .int .i64 t.co]
/-- Tokens as memory holds them. -/
def rowT (ts : List Tk) : List Value := ts.flatMap cellsT
theorem rowT_length (ts : List Tk) : (rowT ts).length = ts.length * 4 := by
  induction ts with
  | nil => rfl
  | cons p ps ih => simp only [rowT, List.flatMap_cons, List.length_append, cellsT, List.length_cons, List.length_nil] at *; omega
theorem rowT_append (a b : List Tk) : rowT (a ++ b) = rowT a ++ rowT b := by simp [rowT]
theorem rowT_one (ps : List Tk) : ∀ v ∈ rowT ps, v.oneCell' = true := by
  intro v hv
  simp only [rowT, List.mem_flatMap] at hv
  obtain ⟨x, -, hx⟩ := hv
  simp [cellsT] at hx
  rcases hx with rfl | rfl | rfl | rfl <;> rfl
theorem rowT_get (j : Nat) (hj : j < 4) : ∀ (ps : List Tk) (i : Nat), i < ps.length → (rowT ps)[i * 4 + j]? = (cellsT (ps.getD i tk0))[j]?
  | [], i, h => by simp at h
  | p :: ps, 0, _ => by
    show (cellsT p ++ rowT ps)[0 * 4 + j]? = _
    rw [Nat.zero_mul, Nat.zero_add, List.getElem?_append_left (by simpa [cellsT] using hj)]; rfl
  | p :: ps, i + 1, h => by
    have := rowT_get j hj ps i (by simpa using h)
    show (cellsT p ++ rowT ps)[(i + 1) * 4 + j]? = _
    rw [List.getElem?_append_right (by simp [cellsT]; omega), show (i + 1) * 4 + j - (cellsT p).length = i * 4 + j by simp [cellsT]; omega, this]
    simp
/-- A list of tokens that grows in memory of the call's own. -/
def Gt (w : World) (B : Nat) (v : Value) (ps : List Tk) : Prop := w.ownsRow B 37 4 v ps.length (rowT ps)
theorem Gt.nil (w : World) (B : Nat) : Gt w B (.slice none 0 0) [] := ⟨rfl, .inl ⟨rfl, rfl⟩⟩
theorem Gt.block {w : World} {B : Nat} {v : Value} {ps : List Tk} (h : Gt w B v ps) : ∀ k, v.ownBlock = some k → B ≤ k := fun k hk => (World.ownsRow.lt h k hk).1
theorem Gt.lt {w : World} {B : Nat} {v : Value} {ps : List Tk} (h : Gt w B v ps) : ∀ k, v.ownBlock = some k → k < w.heap.size := fun k hk => (World.ownsRow.lt h k hk).2
theorem Gt.le {w : World} {B B' : Nat} {v : Value} {ps : List Tk} (h : Gt w B v ps) (hb : B' ≤ B) : Gt w B' v ps := ⟨h.1, by
  rcases h.2 with h | ⟨g, cap, cur, e, hB, r⟩
  · exact .inl h
  · exact .inr ⟨g, cap, cur, e, Nat.le_trans hb hB, r⟩⟩
theorem Gt.shape {w : World} {B : Nat} {v : Value} {ps : List Tk} (h : Gt w B v ps) : ∃ a cap, v = .slice a ps.length cap ∧ ps.length ≤ cap ∧ cap ≤ maxLen ∧ ((a = none ∧ ps = [] ∧ cap = 0) ∨ ∃ g, a = some ⟨g, 0, none⟩) := by
  obtain ⟨h1, h2 | ⟨g, cap, cur, rfl, hB, hh, hc, hm, hs, ht⟩⟩ := h
  · obtain ⟨rfl, h0⟩ := h2
    exact ⟨none, 0, by rw [h0], by omega, Nat.zero_le _, .inl ⟨rfl, List.length_eq_zero_iff.1 h0, rfl⟩⟩
  · exact ⟨_, cap, rfl, hc, hm, .inr ⟨g, rfl⟩⟩
theorem Gt.cells {w : World} {B g n cap : Nat} {ps : List Tk} (h : Gt w B (.slice (some ⟨g, 0, none⟩) n cap) ps) (i : Nat) (hi : i < ps.length) (j : Nat) (hj : j < 4) : w.cell? ⟨g, i * 4 + j, none⟩ = (cellsT (ps.getD i tk0))[j]? ∧ w.frozen? ⟨g, i * 4 + j, none⟩ = false := by
  obtain ⟨h1, h2 | ⟨g', cap', cur, e, hB, hh, hc, hm, hs, ht⟩⟩ := h
  · cases h2.1
  · cases e
    have e0 := rowT_get j hj ps i hi
    rw [← ht, List.getElem?_take_of_lt (by omega)] at e0
    refine ⟨?_, by simp [World.frozen?, hh]⟩
    simp only [World.cell?, hh]; simpa using e0
theorem Gt.kept {w w' : World} {B : Nat} {v : Value} {ps : List Tk} (h : Gt w B v ps) (hk : ∀ k, v.ownBlock = some k → w'.heap[k]? = w.heap[k]?) : Gt w' B v ps := by
  obtain ⟨h1, h2 | ⟨g, cap, cur, e, hB, hh, r⟩⟩ := h
  · exact ⟨h1, .inl h2⟩
  · exact ⟨h1, .inr ⟨g, cap, cur, e, hB, by rw [hk g (by rw [e]; rfl)]; exact hh, r⟩⟩
theorem Gt.after {w w' : World} {B : Nat} {v : Value} {ps : List Tk} (hb : Below w.heap.size w w') (h : Gt w B v ps) : Gt w' B v ps := h.kept (fun k hk => hb.block k (h.lt k hk))
theorem Gt.al {w : World} {B : Nat} {v : Value} {ps : List Tk} (h : Gt w B v ps) (o : Obj) : Gt (w.alloc o) B v ps := h.after ((Below.refl _ _).alloc (Nat.le_refl _) _)
theorem infoT : (Try.prog.info? 37).map (fun i => (i.zero, i.size, i.bytes)) = some (some (.agg #[.int .i64 0, .string ⟨#[]⟩, .int .i64 0, .int .i64 0]), 4, 40) := by kernel_rfl
/-- append of one token: all blocks but the list's own stay; the new list lies where the old one lay, or in a new block. -/
theorem run_appT (w : World) (ty : TypeId) (B : Nat) (v : Value) (ps : List Tk) (hg : Gt w B v ps) (g c : Nat) (t : Tk) (h0 : w.cell? ⟨g, 0, none⟩ = some (.int .i64 t.kd)) (h1 : w.cell? ⟨g, 1, none⟩ = some (sv t.tx)) (h2 : w.cell? ⟨g, 2, none⟩ = some (.int .i64 t.ln)) (h3 : w.cell? ⟨g, 3, none⟩ = some (.int .i64 t.co)) (hb : ps.length + 1 ≤ 3518437208883) (hB : B ≤ w.heap.size) :
    ∃ v' w', (Builtin.append_ #[26, 26] ty #[v, .slice (some ⟨g, 0, none⟩) 1 c]).run Try.prog w = .ok v' w' ∧ Gt w' B v' (ps ++ [t]) ∧ w.grownBy w' v.ownBlock ∧ (v'.ownBlock = v.ownBlock ∨ v'.ownBlock = some w.heap.size) := by
  obtain ⟨i0, hi, hz0, hz1, hz2⟩ := info_parts infoT
  obtain ⟨v', w', hr, k2, k3, -, k5⟩ := run_append_own_at (P := Try.prog) (w := w) B 26 ty 37 i0 (.agg #[.int .i64 0, .string ⟨#[]⟩, .int .i64 0, .int .i64 0]) 4 40 Try.underlying26 hi hz0 hz1 hz2 rfl (by decide) v ps.length (rowT ps) hg ⟨g, 0, none⟩ 1 c (rowT [t]) rfl (fun j u hu => by
    match j, hu with
    | 0, hu => cases hu; exact h0
    | 1, hu => cases hu; exact h1
    | 2, hu => cases hu; exact h2
    | 3, hu => cases hu; exact h3
    | j + 4, hu => simp [rowT, cellsT] at hu) (rowT_one _) (by unfold maxLen; omega) (by omega) hB
  refine ⟨v', w', hr, ?_, k3, k5⟩
  show World.ownsRow _ _ _ _ _ _ _
  rw [List.length_append, rowT_append]
  exact k2
theorem wpList_appT {ops : Array Oper} {rest : List Oper} {o : Oper} {a : Act} {w : World} {Q : Exit → Act → World → Prop} (hgd : o.guard = none) (s x : Operand)
    (ho : o.op = .call { callee := .builtin .append, args := #[s, x], argTypes := #[26, 26] })
    (B : Nat) (v : Value) (ps : List Tk) (hs : a.eval s = v) (hg : Gt w B v ps) (b c : Nat) (t : Tk) (hx : a.eval x = .slice (some ⟨b, 0, none⟩) 1 c) (h0 : w.cell? ⟨b, 0, none⟩ = some (.int .i64 t.kd)) (h1 : w.cell? ⟨b, 1, none⟩ = some (sv t.tx)) (h2 : w.cell? ⟨b, 2, none⟩ = some (.int .i64 t.ln)) (h3 : w.cell? ⟨b, 3, none⟩ = some (.int .i64 t.co))
    (hb : ps.length + 1 ≤ 3518437208883) (hB : B ≤ w.heap.size)
    (h : ∀ v' w', Gt w' B v' (ps ++ [t]) → w.grownBy w' v.ownBlock → (v'.ownBlock = v.ownBlock ∨ v'.ownBlock = some w.heap.size) → wpList Try.prog ops Q rest (a.put o.dst v') w') : wpList Try.prog ops Q (o :: rest) a w := by
  refine wpList_plain hgd fun K hK => ?_
  obtain ⟨v', w', hr, k2, k3, k5⟩ := run_appT w o.type B v ps hg b c t h0 h1 h2 h3 hb hB
  unfold Oper.wp execOp
  simp only [ho, resolve, invoke, builtin, Sem.run_bind, Sem.run_pure, Result.andThen_ok, List.map_toArray, List.map_cons, List.map_nil, hs, hx, hr]
  exact hK _ _ (h v' w' k2 k3 k5)
theorem appT_below {w1 W w2 wr : World} {B : Nat} {v : Value} {ps : List Tk} (h : W.grownBy w2 v.ownBlock) (hg : Gt wr B v ps) (hle : B ≤ W.heap.size) (hb : RowKit.Below B w1 W) : RowKit.Below B w1 w2 := hb.trans ((RowKit.Below.refl B W).grown h hle hg.block)
theorem bsize (l : List UInt8) : (ByteArray.mk l.toArray).size = l.length := by rw [Go.Lib.size_eq]
theorem catS (a b : List UInt8) : (⟨a.toArray⟩ ++ ⟨b.toArray⟩ : ByteArray) = ⟨(a ++ b).toArray⟩ := by
  apply ByteArray.ext
  simp
theorem slice_hi (l : List UInt8) (h : Int) (n : Nat) (e : h = n) (hn : n ≤ l.length) (W : World) : (Instr.sliceAt 9 (.string ⟨l.toArray⟩) none (some (.int .i64 h)) none).run Try.prog W = .ok (.string ⟨(l.take n).toArray⟩) W := by
  subst e
  have hb := bsize l
  have h1 : (n : Int) ≤ ((ByteArray.mk l.toArray).size : Int) := by omega
  rw [run_sliceAt_string _ _ _ _ _ _ Try.underlying9]
  simp [Instr.slice, run_underlying Try.underlying9, Instr.sliceBounds, run_sliceBound, h1, Go.Lib.extract_eq]
theorem slice_lo (l : List UInt8) (h : Int) (n : Nat) (e : h = n) (hn : n ≤ l.length) (W : World) : (Instr.sliceAt 9 (.string ⟨l.toArray⟩) (some (.int .i64 h)) none none).run Try.prog W = .ok (.string ⟨(l.drop n).toArray⟩) W := by
  subst e
  have hb := bsize l
  have h1 : (n : Int) ≤ ((ByteArray.mk l.toArray).size : Int) := by omega
  rw [run_sliceAt_string _ _ _ _ _ _ Try.underlying9]
  simp [Instr.slice, run_underlying Try.underlying9, Instr.sliceBounds, run_sliceBound, h1, Go.Lib.extract_eq]
  rw [hb, List.take_of_length_le (by simp)]
theorem slice_mid (l : List UInt8) (g h : Int) (a n : Nat) (e1 : g = a) (e : h = n) (ha : a ≤ n) (hn : n ≤ l.length) (W : World) : (Instr.sliceAt 9 (.string ⟨l.toArray⟩) (some (.int .i64 g)) (some (.int .i64 h)) none).run Try.prog W = .ok (.string ⟨((l.drop a).take (n - a)).toArray⟩) W := by
  subst e e1
  have hb := bsize l
  have h1 : (n : Int) ≤ ((ByteArray.mk l.toArray).size : Int) := by omega
  have h2 : (a : Int) ≤ (n : Int) := by omega
  rw [run_sliceAt_string _ _ _ _ _ _ Try.underlying9]
  simp [Instr.slice, run_underlying Try.underlying9, Instr.sliceBounds, run_sliceBound, h1, h2, Go.Lib.extract_eq]
end Go.Proofs.Ytiedpclomplnmaa
