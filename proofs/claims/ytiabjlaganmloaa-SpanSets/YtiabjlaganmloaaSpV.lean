/-
  Variables in memory, lists of spans that are read, lists of spans that grow in memory of the call's own, sets of days.
-/
import Derived.Test.YtiabjlaganmloaaSpP
import Derived.WalkKit
import Derived.WalkSpells
import Derived.Below
import Derived.BigQuiet
import Derived.BigRegion
import Derived.Deep.QuietTactic
import Derived.Deep.DeepCutAuto
import Derived.Deep.CutBlock
import Derived.Deep.OwnRows
import Derived.Deep.RegionLaw
import Derived.Deep.AppendLies
import Derived.Laws.OwnMore
import Derived.Laws.MakeOwn
import Derived.Maps.AppendAt
import Derived.Maps.OwnIn
import Derived.WalkSmall
import Derived.RangeFuncNested
import Derived.RangeFuncBound
import Derived.RangeFuncCalls
import Derived.RangeFuncLeaves
import Derived.Shelf.Abstract
import Derived.Shelf.RegionOpen
import Derived.OwnWalkIn
import Derived.TacticsInMore
import Derived.LoopNIn
import Derived.LoopIn
import Derived.BigRegionIn
namespace Go.Proofs.Ytiabjlaganmloaa
open Go.RowKit Go.Shelf
set_option linter.unusedVariables false

theorem step {w wk w' : World} (B : Below w.heap.size w wk) (hb : Below wk.heap.size wk w') : Below w.heap.size w w' := B.trans (hb.mono B.size)
/-- A variable of the program: one block. -/
def Va (w : World) (b : Nat) (t : TypeId) (cs : Array Value) : Prop := w.heap[b]? = some (.cells cs t (0, 0))
theorem Va.lt {w : World} {b : Nat} {t : TypeId} {cs : Array Value} (h : Va w b t cs) : b < w.heap.size := (Array.getElem?_eq_some_iff.1 h).1
theorem Va.cellAt {w : World} {b : Nat} {t : TypeId} {cs : Array Value} (h : Va w b t cs) (i : Nat) : w.cell? ⟨b, i, none⟩ = cs[i]? := by
  unfold Va at h; simp [World.cell?, h]
theorem Va.cell {w : World} {b : Nat} {t : TypeId} {v : Value} (h : Va w b t #[v]) : w.cell? ⟨b, 0, none⟩ = some v := by rw [h.cellAt 0]; rfl
theorem Va.c0 {w : World} {b : Nat} {t : TypeId} {x y : Value} (h : Va w b t #[x, y]) : w.cell? ⟨b, 0, none⟩ = some x := by rw [h.cellAt 0]; rfl
theorem Va.c1 {w : World} {b : Nat} {t : TypeId} {x y : Value} (h : Va w b t #[x, y]) : w.cell? ⟨b, 1, none⟩ = some y := by rw [h.cellAt 1]; rfl
theorem Va.frozen {w : World} {b : Nat} {t : TypeId} {cs : Array Value} (h : Va w b t cs) (i : Nat) : w.frozen? ⟨b, i, none⟩ = false := by
  unfold Va at h; simp [World.frozen?, h]
theorem Va.below {B : Nat} {w w' : World} {b : Nat} {t : TypeId} {cs : Array Value} (h : Va w b t cs) (hb : Below B w w') (hB : b < B) : Va w' b t cs := by
  unfold Va at *; rw [hb.block b hB]; exact h
theorem Va.after {w w' : World} (hb : Below w.heap.size w w') {b : Nat} {t : TypeId} {cs : Array Value} (h : Va w b t cs) : Va w' b t cs := h.below hb h.lt
theorem Va.new (w : World) (t : TypeId) (cs : Array Value) : Va (w.alloc (.cells cs t)) w.heap.size t cs := heap_alloc_new w _
theorem Va.old {w : World} {b : Nat} {t : TypeId} {cs : Array Value} (h : Va w b t cs) (o : Obj) : Va (w.alloc o) b t cs := by
  unfold Va at *
  rw [Below.heap_alloc _ _ _ (Va.lt h)]; exact h
theorem Va.set {w : World} {b : Nat} {t : TypeId} {v : Value} (h : Va w b t #[v]) (v' : Value) : Va (w.setCell ⟨b, 0, none⟩ v') b t #[v'] := by
  unfold Va at *
  simp only [World.setCell]
  rw [Array.getElem?_modify, if_pos rfl, h]
  simp
theorem Va.set0 {w : World} {b : Nat} {t : TypeId} {x y : Value} (h : Va w b t #[x, y]) (x' : Value) : Va (w.setCell ⟨b, 0, none⟩ x') b t #[x', y] := by
  unfold Va at *
  simp only [World.setCell]
  rw [Array.getElem?_modify, if_pos rfl, h]
  simp
theorem Va.set2 {w : World} {b : Nat} {t : TypeId} {x y : Value} (h : Va w b t #[x, y]) (x' y' : Value) : Va ((w.setCell ⟨b, 0, none⟩ x').setCell ⟨b, 1, none⟩ y') b t #[x', y'] := by
  unfold Va at *
  simp only [World.setCell]
  rw [Array.getElem?_modify, if_pos rfl, Array.getElem?_modify, if_pos rfl, h]
  simp
theorem Va.other {w : World} {b : Nat} {t : TypeId} {cs : Array Value} (h : Va w b t cs) {p : Addr} (hp : b ≠ p.block) (v' : Value) : Va (w.setCell p v') b t cs := by
  unfold Va at *
  rw [← h]
  exact heap_setCell_other w p b v' (fun e => hp e)
theorem Va.other2 {w : World} {b c : Nat} {t : TypeId} {cs : Array Value} (h : Va w b t cs) (hne : b ≠ c) (x' y' : Value) : Va ((w.setCell ⟨c, 0, none⟩ x').setCell ⟨c, 1, none⟩ y') b t cs :=
  (h.other (p := ⟨c, 0, none⟩) hne x').other (p := ⟨c, 1, none⟩) hne y'
theorem below_2 {B : Nat} {a w : World} (h : Below B a w) {c : Nat} (hc : B ≤ c) (x y : Value) : Below B a ((w.setCell ⟨c, 0, none⟩ x).setCell ⟨c, 1, none⟩ y) :=
  (h.setCell (p := ⟨c, 0, none⟩) hc x).setCell (p := ⟨c, 1, none⟩) hc y
theorem ent1 (w : World) (t0 : TypeId) (c0 : Array Value) {Q : World → Prop}
    (h : ∀ w0, Below w.heap.size w w0 → w0.heap.size = w.heap.size + 1 → Va w0 (w.heap.size) t0 c0 → Q w0) : Q (w.alloc (.cells c0 t0)) :=
  h _ ((Below.refl _ _).alloc (Nat.le_refl _) _) (by simp) (Va.new w t0 c0)
theorem ent2 (w : World) (t0 : TypeId) (c0 : Array Value) (t1 : TypeId) (c1 : Array Value) {Q : World → Prop}
    (h : ∀ w0, Below w.heap.size w w0 → w0.heap.size = w.heap.size + 2 → Va w0 (w.heap.size) t0 c0 → Va w0 (w.heap.size + 1) t1 c1 → Q w0) : Q ((w.alloc (.cells c0 t0)).alloc (.cells c1 t1)) :=
  h _ (((Below.refl _ _).alloc (Nat.le_refl _) _).alloc (by simp) _) (by simp) ((Va.new w t0 c0).old _) (by have := Va.new (w.alloc (.cells c0 t0)) t1 c1; rwa [World.size_alloc] at this)
theorem ent3 (w : World) (t0 : TypeId) (c0 : Array Value) (t1 : TypeId) (c1 : Array Value) (t2 : TypeId) (c2 : Array Value) {Q : World → Prop}
    (h : ∀ w0, Below w.heap.size w w0 → w0.heap.size = w.heap.size + 3 → Va w0 (w.heap.size) t0 c0 → Va w0 (w.heap.size + 1) t1 c1 → Va w0 (w.heap.size + 1 + 1) t2 c2 → Q w0) : Q (((w.alloc (.cells c0 t0)).alloc (.cells c1 t1)).alloc (.cells c2 t2)) :=
  h _ ((((Below.refl _ _).alloc (Nat.le_refl _) _).alloc (by simp) _).alloc (by simp; omega) _) (by simp) (((Va.new w t0 c0).old _).old _) (by have := Va.new (w.alloc (.cells c0 t0)) t1 c1; rw [World.size_alloc] at this; exact this.old _) (by have := Va.new ((w.alloc (.cells c0 t0)).alloc (.cells c1 t1)) t2 c2; rwa [World.size_alloc, World.size_alloc] at this)

/-- A list of spans that can be read: of an empty one nothing is known but that. -/
def Ls (w : World) (a : Option Addr) (len : Nat) (ps : List Pr) : Prop :=
  ps.length = len ∧ (0 < len → ∃ b off, a = some ⟨b, off, none⟩ ∧ ∀ i, i < len → w.cell? ⟨b, off + i * 2, none⟩ = some (.int .i64 (ps.getD i (0, 0)).1) ∧ w.cell? ⟨b, off + i * 2 + 1, none⟩ = some (.int .i64 (ps.getD i (0, 0)).2))
theorem Ls.nil (w : World) (a : Option Addr) : Ls w a 0 [] := ⟨rfl, fun h => absurd h (Nat.lt_irrefl _)⟩
theorem cell_lt {w : World} {b i : Nat} {v : Value} (h : w.cell? ⟨b, i, none⟩ = some v) : b < w.heap.size := by
  rcases Nat.lt_or_ge b w.heap.size with h' | h'
  · exact h'
  · simp [World.cell?, Array.getElem?_eq_none h'] at h
/-- The list's block lies below a number. -/
def lowA (n₀ : Nat) (a : Option Addr) (len : Nat) : Prop := 0 < len → ∀ b off, a = some ⟨b, off, none⟩ → b < n₀
theorem Ls.low {w : World} {a : Option Addr} {len : Nat} {ps : List Pr} (h : Ls w a len ps) : lowA w.heap.size a len := by
  intro h0 b off e
  obtain ⟨b', off', e', hc⟩ := h.2 h0
  rw [e] at e'; cases e'
  exact cell_lt (hc 0 h0).1
theorem lowA.mono {n n' : Nat} {a : Option Addr} {len : Nat} (h : lowA n a len) (hn : n ≤ n') : lowA n' a len := fun h0 b off e => Nat.lt_of_lt_of_le (h h0 b off e) hn
theorem Ls.below {n₀ : Nat} {w w' : World} {a : Option Addr} {len : Nat} {ps : List Pr} (h : Ls w a len ps) (hb : Below n₀ w w') (hl : lowA n₀ a len) : Ls w' a len ps := by
  refine ⟨h.1, fun h0 => ?_⟩
  obtain ⟨b, off, e, hc⟩ := h.2 h0
  have hlt := hl h0 b off e
  exact ⟨b, off, e, fun i hi => ⟨(hb.cell (p := ⟨b, _, none⟩) hlt).trans (hc i hi).1, (hb.cell (p := ⟨b, _, none⟩) hlt).trans (hc i hi).2⟩⟩
theorem Ls.after {w w' : World} {a : Option Addr} {len : Nat} {ps : List Pr} (hb : Below w.heap.size w w') (h : Ls w a len ps) : Ls w' a len ps := h.below hb h.low

/-- Spans as memory holds them. -/
def rowS (ps : List Pr) : List Value := ps.flatMap (fun p => [.int .i64 p.1, .int .i64 p.2])
theorem rowS_length (ps : List Pr) : (rowS ps).length = ps.length * 2 := by
  induction ps with
  | nil => rfl
  | cons p ps ih => simp only [rowS, List.flatMap_cons, List.length_append, List.length_cons, List.length_nil] at *; omega
theorem rowS_append (a b : List Pr) : rowS (a ++ b) = rowS a ++ rowS b := by simp [rowS]
theorem rowS_one (ps : List Pr) : ∀ v ∈ rowS ps, v.oneCell' = true := by
  intro v hv
  simp only [rowS, List.mem_flatMap] at hv
  obtain ⟨x, -, hx⟩ := hv
  simp at hx
  rcases hx with rfl | rfl <;> rfl
theorem rowS_get0 : ∀ (ps : List Pr) (i : Nat), i < ps.length → (rowS ps)[i * 2]? = some (.int .i64 (ps.getD i (0, 0)).1)
  | [], i, h => by simp at h
  | p :: ps, 0, _ => rfl
  | p :: ps, i + 1, h => by
    have := rowS_get0 ps i (by simpa using h)
    rw [show (i + 1) * 2 = i * 2 + 1 + 1 by omega]
    simpa [rowS] using this
theorem rowS_get1 : ∀ (ps : List Pr) (i : Nat), i < ps.length → (rowS ps)[i * 2 + 1]? = some (.int .i64 (ps.getD i (0, 0)).2)
  | [], i, h => by simp at h
  | p :: ps, 0, _ => rfl
  | p :: ps, i + 1, h => by
    have := rowS_get1 ps i (by simpa using h)
    rw [show (i + 1) * 2 + 1 = i * 2 + 1 + 1 + 1 by omega]
    simpa [rowS] using this
/-- A list of spans that grows in memory of the call's own. -/
def Gs (w : World) (B : Nat) (v : Value) (ps : List Pr) : Prop := w.ownsRow B 24 2 v ps.length (rowS ps)
theorem Gs.nil (w : World) (B : Nat) : Gs w B (.slice none 0 0) [] := ⟨rfl, .inl ⟨rfl, rfl⟩⟩
theorem Gs.block {w : World} {B : Nat} {v : Value} {ps : List Pr} (h : Gs w B v ps) : ∀ k, v.ownBlock = some k → B ≤ k := fun k hk => (World.ownsRow.lt h k hk).1
theorem Gs.lt {w : World} {B : Nat} {v : Value} {ps : List Pr} (h : Gs w B v ps) : ∀ k, v.ownBlock = some k → k < w.heap.size := fun k hk => (World.ownsRow.lt h k hk).2
theorem Gs.le {w : World} {B B' : Nat} {v : Value} {ps : List Pr} (h : Gs w B v ps) (hb : B' ≤ B) : Gs w B' v ps := ⟨h.1, by
  rcases h.2 with h | ⟨g, cap, cur, e, hB, r⟩
  · exact .inl h
  · exact .inr ⟨g, cap, cur, e, Nat.le_trans hb hB, r⟩⟩
theorem Gs.shape {w : World} {B : Nat} {v : Value} {ps : List Pr} (h : Gs w B v ps) : ∃ a cap, v = .slice a ps.length cap ∧ ps.length ≤ cap ∧ cap ≤ maxLen ∧ ((a = none ∧ ps = [] ∧ cap = 0) ∨ ∃ g, a = some ⟨g, 0, none⟩) := by
  obtain ⟨h1, h2 | ⟨g, cap, cur, rfl, hB, hh, hc, hm, hs, ht⟩⟩ := h
  · obtain ⟨rfl, h0⟩ := h2
    exact ⟨none, 0, by rw [h0], by omega, Nat.zero_le _, .inl ⟨rfl, List.length_eq_zero_iff.1 h0, rfl⟩⟩
  · exact ⟨_, cap, rfl, hc, hm, .inr ⟨g, rfl⟩⟩
theorem Gs.cells {w : World} {B g n cap : Nat} {ps : List Pr} (h : Gs w B (.slice (some ⟨g, 0, none⟩) n cap) ps) (i : Nat) (hi : i < ps.length) : w.cell? ⟨g, i * 2, none⟩ = some (.int .i64 (ps.getD i (0, 0)).1) ∧ w.cell? ⟨g, i * 2 + 1, none⟩ = some (.int .i64 (ps.getD i (0, 0)).2) ∧ w.frozen? ⟨g, i * 2, none⟩ = false ∧ w.frozen? ⟨g, i * 2 + 1, none⟩ = false := by
  obtain ⟨h1, h2 | ⟨g', cap', cur, e, hB, hh, hc, hm, hs, ht⟩⟩ := h
  · cases h2.1
  · cases e
    have e0 := rowS_get0 ps i hi
    have e1 := rowS_get1 ps i hi
    rw [← ht, List.getElem?_take_of_lt (by omega)] at e0 e1
    refine ⟨?_, ?_, by simp [World.frozen?, hh], by simp [World.frozen?, hh]⟩
    · simp only [World.cell?, hh]; simpa using e0
    · simp only [World.cell?, hh]; simpa using e1
theorem Gs.ls {w : World} {B : Nat} {a : Option Addr} {n cap : Nat} {ps : List Pr} (h : Gs w B (.slice a n cap) ps) : Ls w a n ps := by
  obtain ⟨a', cap', e, hc, hm, hs⟩ := h.shape
  cases e
  refine ⟨rfl, fun h0 => ?_⟩
  rcases hs with ⟨-, h0', -⟩ | ⟨g, rfl⟩
  · rw [h0'] at h0; simp at h0
  · exact ⟨g, 0, rfl, fun i hi => by rw [Nat.zero_add]; exact ⟨(h.cells i hi).1, (h.cells i hi).2.1⟩⟩
theorem Gs.kept {w w' : World} {B : Nat} {v : Value} {ps : List Pr} (h : Gs w B v ps) (hk : ∀ k, v.ownBlock = some k → w'.heap[k]? = w.heap[k]?) : Gs w' B v ps := by
  obtain ⟨h1, h2 | ⟨g, cap, cur, e, hB, hh, r⟩⟩ := h
  · exact ⟨h1, .inl h2⟩
  · exact ⟨h1, .inr ⟨g, cap, cur, e, hB, by rw [hk g (by rw [e]; rfl)]; exact hh, r⟩⟩
theorem Gs.after {w w' : World} {B : Nat} {v : Value} {ps : List Pr} (hb : Below w.heap.size w w') (h : Gs w B v ps) : Gs w' B v ps := h.kept (fun k hk => hb.block k (h.lt k hk))
theorem Gs.al {w : World} {B : Nat} {v : Value} {ps : List Pr} (h : Gs w B v ps) (o : Obj) : Gs (w.alloc o) B v ps := h.after ((Below.refl _ _).alloc (Nat.le_refl _) _)
theorem Gs.far {w : World} {B : Nat} {v : Value} {ps : List Pr} (h : Gs w B v ps) {p : Addr} (hp : v.ownBlock ≠ some p.block) (u : Value) : Gs (w.setCell p u) B v ps := h.kept (fun k hk => heap_setCell_other w p k u (fun e => hp (by rw [hk, e])))
/-- The end of a span in the list is put anew. -/
theorem rowS_set1 : ∀ (ps : List Pr) (i : Nat) (u : Int), i < ps.length → (rowS ps).set (i * 2 + 1) (.int .i64 u) = rowS (ps.set i ((ps.getD i (0, 0)).1, u))
  | [], i, u, h => by simp at h
  | p :: ps, 0, u, _ => rfl
  | p :: ps, i + 1, u, h => by
    have := rowS_set1 ps i u (by simpa using h)
    rw [show (i + 1) * 2 + 1 = i * 2 + 1 + 1 + 1 by omega]
    simpa [rowS] using this
theorem Gs.put1 {w : World} {B g n cap : Nat} {ps : List Pr} (h : Gs w B (.slice (some ⟨g, 0, none⟩) n cap) ps) (i : Nat) (hi : i < ps.length) (u : Int) : Gs (w.setCell ⟨g, i * 2 + 1, none⟩ (.int .i64 u)) B (.slice (some ⟨g, 0, none⟩) n cap) (ps.set i ((ps.getD i (0, 0)).1, u)) := by
  obtain ⟨a', cap', e, -, -, -⟩ := h.shape
  cases e
  have := (World.ownsRow.stored (w := w) h (i * 2 + 1) (.int .i64 u)).1
  rw [rowS_set1 ps i u hi] at this
  show World.ownsRow _ _ _ _ _ _ _
  rw [List.length_set]
  exact this
theorem infoS : (Try.prog.info? 24).map (fun i => (i.zero, i.size, i.bytes)) = some (some (.agg #[.int .i64 0, .int .i64 0]), 2, 16) := by kernel_rfl
/-- append of one span: all blocks but the list's own stay; the new list lies where the old one lay, or in a new block. -/
theorem run_appS (w : World) (ty : TypeId) (B : Nat) (v : Value) (ps : List Pr) (hg : Gs w B v ps) (g c : Nat) (x y : Int) (h0 : w.cell? ⟨g, 0, none⟩ = some (.int .i64 x)) (h1 : w.cell? ⟨g, 1, none⟩ = some (.int .i64 y)) (hb : ps.length + 1 ≤ 8796093022208) (hB : B ≤ w.heap.size) :
    ∃ v' w', (Builtin.append_ #[31, 31] ty #[v, .slice (some ⟨g, 0, none⟩) 1 c]).run Try.prog w = .ok v' w' ∧ Gs w' B v' (ps ++ [(x, y)]) ∧ w.grownBy w' v.ownBlock ∧ (v'.ownBlock = v.ownBlock ∨ v'.ownBlock = some w.heap.size) := by
  obtain ⟨i0, hi, hz0, hz1, hz2⟩ := info_parts infoS
  obtain ⟨v', w', hr, h2, h3, -, h5⟩ := run_append_own_at (P := Try.prog) (w := w) B 31 ty 24 i0 (.agg #[.int .i64 0, .int .i64 0]) 2 16 Try.underlying31 hi hz0 hz1 hz2 rfl (by decide) v ps.length (rowS ps) hg ⟨g, 0, none⟩ 1 c (rowS [(x, y)]) rfl (fun j u hu => by
    match j, hu with
    | 0, hu => cases hu; exact h0
    | 1, hu => cases hu; exact h1
    | j + 2, hu => simp [rowS] at hu) (rowS_one _) (by unfold maxLen; omega) (by omega) hB
  refine ⟨v', w', hr, ?_, h3, h5⟩
  show World.ownsRow _ _ _ _ _ _ _
  rw [List.length_append, rowS_append]
  exact h2
theorem wpList_appS {ops : Array Oper} {rest : List Oper} {o : Oper} {a : Act} {w : World} {Q : Exit → Act → World → Prop} (hgd : o.guard = none) (s x : Operand)
    (ho : o.op = .call { callee := .builtin .append, args := #[s, x], argTypes := #[31, 31] })
    (B : Nat) (v : Value) (ps : List Pr) (hs : a.eval s = v) (hg : Gs w B v ps) (b c : Nat) (x0 x1 : Int) (hx : a.eval x = .slice (some ⟨b, 0, none⟩) 1 c) (h0 : w.cell? ⟨b, 0, none⟩ = some (.int .i64 x0)) (h1 : w.cell? ⟨b, 1, none⟩ = some (.int .i64 x1))
    (hb : ps.length + 1 ≤ 8796093022208) (hB : B ≤ w.heap.size)
    (h : ∀ v' w', Gs w' B v' (ps ++ [(x0, x1)]) → w.grownBy w' v.ownBlock → (v'.ownBlock = v.ownBlock ∨ v'.ownBlock = some w.heap.size) → wpList Try.prog ops Q rest (a.put o.dst v') w') : wpList Try.prog ops Q (o :: rest) a w := by
  refine wpList_plain hgd fun K hK => ?_
  obtain ⟨v', w', hr, h2, h3, h5⟩ := run_appS w o.type B v ps hg b c x0 x1 h0 h1 hb hB
  unfold Oper.wp execOp
  simp only [ho, resolve, invoke, builtin, Sem.run_bind, Sem.run_pure, Result.andThen_ok, List.map_toArray, List.map_cons, List.map_nil, hs, hx, hr]
  exact hK _ _ (h v' w' h2 h3 h5)
theorem wpListIn_appS {F : Fence} {n : Nat} {ops : Array Oper} {rest : List Oper} {o : Oper} {a : Act} {w : World} {Q : Exit → Act → World → Prop} (hgd : o.guard = none) (s x : Operand)
    (ho : o.op = .call { callee := .builtin .append, args := #[s, x], argTypes := #[31, 31] })
    (B : Nat) (v : Value) (ps : List Pr) (hs : a.eval s = v) (hg : Gs w B v ps) (b c : Nat) (x0 x1 : Int) (hx : a.eval x = .slice (some ⟨b, 0, none⟩) 1 c) (h0 : w.cell? ⟨b, 0, none⟩ = some (.int .i64 x0)) (h1 : w.cell? ⟨b, 1, none⟩ = some (.int .i64 x1))
    (hb : ps.length + 1 ≤ 8796093022208) (hB : B ≤ w.heap.size)
    (h : ∀ v' w', Gs w' B v' (ps ++ [(x0, x1)]) → w.grownBy w' v.ownBlock → (v'.ownBlock = v.ownBlock ∨ v'.ownBlock = some w.heap.size) → wpListIn F n Try.prog ops Q rest (a.put o.dst v') w') : wpListIn F n Try.prog ops Q (o :: rest) a w := by
  obtain ⟨i0, hi, hz0, hz1, hz2⟩ := info_parts infoS
  refine wpListIn_append_own_at (w := w) hgd s x _ ho B 24 i0 (.agg #[.int .i64 0, .int .i64 0]) 2 16 Try.underlying31 hi hz0 hz1 hz2 rfl (by decide) v ps.length (rowS ps) hs hg ⟨b, 0, none⟩ 1 c (rowS [(x0, x1)]) hx rfl (fun j u hu => by
    match j, hu with
    | 0, hu => cases hu; exact h0
    | 1, hu => cases hu; exact h1
    | j + 2, hu => simp [rowS] at hu) (rowS_one _) (by unfold maxLen; omega) (by omega) hB ?_
  intro v' w' h2 h3 _ h5
  refine h v' w' ?_ h3 h5
  show World.ownsRow _ _ _ _ _ _ _
  rw [List.length_append, rowS_append]
  exact h2
/-- A set that is there: a block of two, the list, the mark. -/
def St (w : World) (p : Nat) (ps : List Pr) : Prop := Few ps ∧ ps.length ≤ 4096 ∧ ∃ a cap, Va w p 94 #[.slice a ps.length cap, .bool true] ∧ ps.length ≤ cap ∧ Ls w a ps.length ps ∧ (a = none → cap = 0)
theorem St.after {w w' : World} {p : Nat} {ps : List Pr} (hb : Below w.heap.size w w') (h : St w p ps) : St w' p ps := by
  obtain ⟨h1, h2, a, cap, h3, h4, h5, h6⟩ := h
  exact ⟨h1, h2, a, cap, h3.after hb, h4, h5.after hb, h6⟩
theorem St.lt {w : World} {p : Nat} {ps : List Pr} (h : St w p ps) : p < w.heap.size := by
  obtain ⟨h1, h2, a, cap, h3, _⟩ := h
  exact h3.lt
end Go.Proofs.Ytiabjlaganmloaa
