/-
  Lists of days that grow; what the sets of SpanAlgebra come to, in numbers.
-/
import Derived.Test.YtiabjlaganmloaaSpL
import Derived.Test.YtiabjlaganmloaaMi
import Derived.Deep.RegionHeldLaw
namespace Go.Proofs.Ytiabjlaganmloaa
open Go.RowKit Go.Shelf
set_option linter.unusedVariables false

def rowD (zs : List Int) : List Value := zs.map (fun z => .int .i64 z)
theorem rowD_one (zs : List Int) : ∀ v ∈ rowD zs, v.oneCell' = true := by
  intro v hv
  simp only [rowD, List.mem_map] at hv
  obtain ⟨x, -, rfl⟩ := hv
  rfl
theorem rowD_append (a b : List Int) : rowD (a ++ b) = rowD a ++ rowD b := by simp [rowD]
/-- A list of days that grows in memory of the call's own. -/
def Gd (w : World) (B : Nat) (v : Value) (zs : List Int) : Prop := w.ownsRow B 22 1 v zs.length (rowD zs)
theorem Gd.block {w : World} {B : Nat} {v : Value} {zs : List Int} (h : Gd w B v zs) : ∀ k, v.ownBlock = some k → B ≤ k := fun k hk => (World.ownsRow.lt h k hk).1
theorem Gd.lt {w : World} {B : Nat} {v : Value} {zs : List Int} (h : Gd w B v zs) : ∀ k, v.ownBlock = some k → k < w.heap.size := fun k hk => (World.ownsRow.lt h k hk).2
theorem Gd.kept {w w' : World} {B : Nat} {v : Value} {zs : List Int} (h : Gd w B v zs) (hk : ∀ k, v.ownBlock = some k → w'.heap[k]? = w.heap[k]?) : Gd w' B v zs := by
  obtain ⟨h1, h2 | ⟨g, cap, cur, e, hB, hh, r⟩⟩ := h
  · exact ⟨h1, .inl h2⟩
  · exact ⟨h1, .inr ⟨g, cap, cur, e, hB, by rw [hk g (by rw [e]; rfl)]; exact hh, r⟩⟩
theorem Gd.after {w w' : World} {B : Nat} {v : Value} {zs : List Int} (hb : Below w.heap.size w w') (h : Gd w B v zs) : Gd w' B v zs := h.kept (fun k hk => hb.block k (h.lt k hk))
theorem Gd.al {w : World} {B : Nat} {v : Value} {zs : List Int} (h : Gd w B v zs) (o : Obj) : Gd (w.alloc o) B v zs := h.after ((Below.refl _ _).alloc (Nat.le_refl _) _)
theorem Gd.new4 (w : World) (B : Nat) (hB : B ≤ w.heap.size) (a b c d : Int) : Gd (w.alloc (.cells #[.int .i64 a, .int .i64 b, .int .i64 c, .int .i64 d] 22)) B (.slice (some ⟨w.heap.size, 0, none⟩) 4 4) [a, b, c, d] :=
  ⟨rfl, .inr ⟨w.heap.size, 4, _, rfl, hB, heap_alloc_new w _, Nat.le_refl 4, by decide, rfl, rfl⟩⟩
theorem Gd.shape {w : World} {B : Nat} {v : Value} {zs : List Int} (h : Gd w B v zs) : ∃ a cap, v = .slice a zs.length cap ∧ zs.length ≤ cap ∧ cap ≤ maxLen := by
  obtain ⟨h1, h2 | ⟨g, cap, cur, rfl, hB, hh, hc, hm, hs, ht⟩⟩ := h
  · obtain ⟨rfl, h0⟩ := h2
    exact ⟨none, 0, by rw [h0], by omega, Nat.zero_le _⟩
  · exact ⟨_, cap, rfl, hc, hm⟩
theorem Gd.ld {w : World} {B : Nat} {a : Option Addr} {n cap : Nat} {zs : List Int} (h : Gd w B (.slice a n cap) zs) : Ld w a n zs := by
  obtain ⟨a', cap', e, -, -⟩ := h.shape
  cases e
  refine ⟨rfl, fun h0 => ?_⟩
  obtain ⟨h1, h2 | ⟨g, cap', cur, e, hB, hh, hc, hm, hs, ht⟩⟩ := h
  · obtain ⟨h2, h3⟩ := h2; rw [h3] at h0; exact absurd h0 (Nat.lt_irrefl _)
  · cases e
    refine ⟨g, 0, rfl, fun i hi => ?_⟩
    have e0 : (rowD zs)[i]? = some (.int .i64 (zs.getD i 0)) := by
      unfold rowD
      rw [List.getElem?_map, List.getElem?_eq_getElem hi, List.getD_eq_getElem?_getD, List.getElem?_eq_getElem hi]; rfl
    rw [← ht, List.getElem?_take_of_lt (by omega)] at e0
    simp only [World.cell?, hh, Nat.zero_add]
    simpa using e0
theorem Ld.cells {w : World} {ad : Addr} {n : Nat} {zs : List Int} (h : Ld w (some ad) n zs) : ∀ j u, (rowD zs)[j]? = some u → w.cell? (ad.add j) = some u := by
  intro j u hj
  have hj' : j < zs.length := by
    rcases Nat.lt_or_ge j (rowD zs).length with h' | h'
    · simpa [rowD] using h'
    · rw [List.getElem?_eq_none h'] at hj; cases hj
  obtain ⟨b, off, e, hc⟩ := h.2 (by have := h.1; omega)
  cases e
  rw [Addr.add_lit]
  rw [hc j (by have := h.1; omega)]
  unfold rowD at hj
  rw [List.getElem?_map, List.getElem?_eq_getElem hj'] at hj
  rw [List.getD_eq_getElem?_getD, List.getElem?_eq_getElem hj']
  exact hj
theorem ld_new4 (w : World) (a b c d : Int) : Ld (w.alloc (.cells #[.int .i64 a, .int .i64 b, .int .i64 c, .int .i64 d] 22)) (some ⟨w.heap.size, 0, none⟩) 4 [a, b, c, d] := (Gd.new4 w 0 (Nat.zero_le _) a b c d).ld
theorem infoD : (Try.prog.info? 22).map (fun i => (i.zero, i.size, i.bytes)) = some (some (.int .i64 0), 1, 8) := by kernel_rfl
theorem wpList_appD {ops : Array Oper} {rest : List Oper} {o : Oper} {a : Act} {w : World} {Q : Exit → Act → World → Prop} (hgd : o.guard = none) (s x : Operand)
    (ho : o.op = .call { callee := .builtin .append, args := #[s, x], argTypes := #[32, 32] })
    (B : Nat) (v : Value) (ps : List Int) (hs : a.eval s = v) (hg : Gd w B v ps) (ad : Addr) (m c : Nat) (qs : List Int) (hx : a.eval x = .slice (some ad) m c) (hq : Ld w (some ad) m qs)
    (hb : ps.length + m ≤ 8796093022208) (hB : B ≤ w.heap.size)
    (h : ∀ v' w', Gd w' B v' (ps ++ qs) → w.grownBy w' v.ownBlock → wpList Try.prog ops Q rest (a.put o.dst v') w') : wpList Try.prog ops Q (o :: rest) a w := by
  obtain ⟨i0, hi, hz0, hz1, hz2⟩ := info_parts infoD
  refine wpList_append_own w hgd s x _ ho B 22 i0 (.int .i64 0) 1 8 Try.underlying32 hi hz0 hz1 hz2 rfl (by decide) v ps.length (rowD ps) hs hg ad m c (rowD qs) hx (by have := hq.1; simp [rowD]; omega) hq.cells (rowD_one _) (by unfold maxLen; omega) (by omega) hB ?_
  intro v' w' h2 h3 _
  refine h v' w' ?_ h3
  show World.ownsRow _ _ _ _ _ _ _
  rw [List.length_append, rowD_append, hq.1]
  exact h2
theorem step_appD {ops : Array Oper} {o : Oper} {a : Act} {w : World} {K : Act → World → Prop} {Q : Exit → Act → World → Prop} {E : Prop} (hgd : o.guard = none) (s x : Operand)
    (ho : o.op = .call { callee := .builtin .append, args := #[s, x], argTypes := #[32, 32] })
    (B : Nat) (v : Value) (ps : List Int) (hs : a.eval s = v) (hg : Gd w B v ps) (ad : Addr) (m c : Nat) (qs : List Int) (hx : a.eval x = .slice (some ad) m c) (hq : Ld w (some ad) m qs)
    (hb : ps.length + m ≤ 8796093022208) (hB : B ≤ w.heap.size)
    (h : ∀ v' w', Gd w' B v' (ps ++ qs) → w.grownBy w' v.ownBlock → K (a.put o.dst v') w') : if Region.wanted o (yielded ops a.tmps) = true then Oper.wp Try.prog o a w K Q else E := by
  have hw : Region.wanted o (yielded ops a.tmps) = true := by simp [Region.wanted, hgd]
  rw [if_pos hw]
  obtain ⟨i0, hi, hz0, hz1, hz2⟩ := info_parts infoD
  refine wp_append_own w s x _ ho B 22 i0 (.int .i64 0) 1 8 Try.underlying32 hi hz0 hz1 hz2 rfl (by decide) v ps.length (rowD ps) hs hg ad m c (rowD qs) hx (by have := hq.1; simp [rowD]; omega) hq.cells (rowD_one _) (by unfold maxLen; omega) (by omega) hB ?_
  intro v' w' h2 h3 _
  refine h v' w' ?_ h3
  show World.ownsRow _ _ _ _ _ _ _
  rw [List.length_append, rowD_append, hq.1]
  exact h2
theorem run_append_nilD (w : World) (ty : TypeId) (g n cap : Nat) (hn : n ≤ cap) : (Builtin.append_ #[32, 32] ty #[.slice (some ⟨g, 0, none⟩) n cap, .slice none 0 0]).run Try.prog w = .ok (.slice (some ⟨g, 0, none⟩) n cap) w := by
  obtain ⟨i0, hi, hz0, hz1, hz2⟩ := info_parts infoD
  simp [Builtin.append_, run_underlying Try.underlying32, sizeOf, typeInfo, hi, Builtin.lenOf, hn, Builtin.firstCells, storeCells]
theorem wpList_appDn {ops : Array Oper} {rest : List Oper} {o : Oper} {a : Act} {w : World} {Q : Exit → Act → World → Prop} (hgd : o.guard = none) (s x : Operand)
    (ho : o.op = .call { callee := .builtin .append, args := #[s, x], argTypes := #[32, 32] })
    (B g : Nat) (ps : List Int) (hs : a.eval s = .slice (some ⟨g, 0, none⟩) 4 4) (hg : Gd w B (.slice (some ⟨g, 0, none⟩) 4 4) ps) (y : Option Addr) (m c : Nat) (qs : List Int) (hx : a.eval x = .slice y m c) (hy : y = none → m = 0 ∧ c = 0) (hq : Ld w y m qs)
    (hb : ps.length + m ≤ 8796093022208) (hB : B ≤ w.heap.size)
    (h : ∀ v' w', Gd w' B v' (ps ++ qs) → w.grownBy w' (some g) → wpList Try.prog ops Q rest (a.put o.dst v') w') : wpList Try.prog ops Q (o :: rest) a w := by
  cases y with
  | some ad => exact wpList_appD hgd s x ho B _ ps hs hg ad m c qs hx hq hb hB h
  | none =>
    obtain ⟨rfl, rfl⟩ := hy rfl
    have hq0 : qs = [] := List.length_eq_zero_iff.1 hq.1
    subst hq0
    refine wpList_plain hgd fun K hK => ?_
    have hr := run_append_nilD w o.type g 4 4 (Nat.le_refl _)
    unfold Oper.wp execOp
    simp only [ho, resolve, invoke, builtin, Sem.run_bind, Sem.run_pure, Result.andThen_ok, List.map_toArray, List.map_cons, List.map_nil, hs, hx, hr]
    exact hK _ _ (h _ w (by rw [List.append_nil]; exact hg) ⟨rfl, rfl, rfl, Nat.le_refl _, fun _ _ _ => rfl⟩)
theorem dys_id {s t u c m n : List Pr} (hs : Few s) (ht : Few t) (hu : Few u) (hc : Few c) (hm : Few m) (hn : Few n) (eu : ∀ d, inS u d ↔ inS s d ∨ inS t d) (ec : ∀ d, inS c d ↔ inS s d ∧ inS t d) (em : ∀ d, inS m d ↔ inS s d ∧ ¬ inS t d) (en : ∀ d, inS n d ↔ inS t d ∧ ¬ inS s d) :
    dys u + dys c = dys s + dys t ∧ dys m + dys c + dys n = dys u := by
  rw [dys_cnt hs, dys_cnt ht, dys_cnt hu, dys_cnt hc, dys_cnt hm, dys_cnt hn]
  have e1 := cnt_or (f := inS s) (g := inS t) 3652059
  have e2 := cnt_parts (f := inS s) (g := inS t) 3652059
  rw [cnt_congr _ (fun d _ _ => eu d), cnt_congr _ (fun d _ _ => ec d), cnt_congr _ (fun d _ _ => em d), cnt_congr _ (fun d _ _ => en d)]
  exact ⟨e1, e2⟩
theorem SetR.is {cs : List Pr} {e : Ending} {w : World} (h : SetR cs e w) (hl : cs.length ≤ 4096) : ∃ p, e = .returned (.tuple #[.pointer (some ⟨p, 0, none⟩), .int .i64 0]) ∧ St w p cs := by
  rcases h with ⟨-, p, e, hs⟩ | ⟨h1, -⟩
  · exact ⟨p, e, hs⟩
  · omega
/-- A list of spans as a value, and whether a day is in it. -/
inductive InC (Y : World) (d : Int) : Value → Bool → Prop
  | mk (a : Option Addr) (n cap : Nat) (l : List Pr) (bv : Bool) (h : Ls Y a n l) (hn : n ≤ 9000000000000) (hb : inB l d = bv) : InC Y d (.slice a n cap) bv
/-- A set as a value, and whether a day is in it. -/
inductive HsC (Y : World) (d : Int) : Value → Bool → Prop
  | mk (p : Nat) (l : List Pr) (bv : Bool) (h : St Y p l) (hb : inB l d = bv) : HsC Y d (.pointer (some ⟨p, 0, none⟩)) bv
theorem below_drew (X : World) : Below X.heap.size X X.drew := ⟨rfl, rfl, rfl, Nat.le_refl _, fun _ _ => rfl⟩
theorem s3_keep {Y X y : World} {b i : Nat} {d : Int} (h : X.cell? ⟨b, i, none⟩ = some (.int .i64 d) ∧ Hid (Below Y.heap.size Y X)) (hb : Below X.heap.size X y) : y.cell? ⟨b, i, none⟩ = some (.int .i64 d) ∧ Hid (Below Y.heap.size Y y) :=
  ⟨(hb.cell (p := ⟨b, i, none⟩) (cell_lt h.1)).trans h.1, step h.2 hb⟩
theorem has_c {Y : World} {d : Int} {b i : Nat} (v : Value) (bv : Bool) (X : World) (h : HsC Y d v bv) (hS : X.cell? ⟨b, i, none⟩ = some (.int .i64 d) ∧ Hid (Below Y.heap.size Y X)) :
    Calls Try.prog 20 #[v, .int .i64 d] X fun e y => e = .returned (.bool bv) ∧ y.cell? ⟨b, i, none⟩ = some (.int .i64 d) ∧ Hid (Below Y.heap.size Y y) := by
  obtain ⟨p, l, bv, h, hb⟩ := h
  refine (has_any p l d X (h.after hS.2)).mono ?_
  rintro e y ⟨rfl, hby⟩
  exact ⟨by rw [hb], s3_keep hS hby⟩
/-- A set as a value, and how many days it has. -/
inductive DyC (Y : World) : Value → Int → Prop
  | mk (p : Nat) (l : List Pr) (dd : Int) (h : St Y p l) (hb : dys l = dd) : DyC Y (.pointer (some ⟨p, 0, none⟩)) dd
theorem s4_keep {Y X y : World} {b i : Nat} {v : Value} (h : X.cell? ⟨b, i, none⟩ = some v ∧ Hid (Below Y.heap.size Y X)) (hb : Below X.heap.size X y) : y.cell? ⟨b, i, none⟩ = some v ∧ Hid (Below Y.heap.size Y y) :=
  ⟨(hb.cell (p := ⟨b, i, none⟩) (cell_lt h.1)).trans h.1, step h.2 hb⟩
theorem days_c {Y : World} {b i : Nat} {v : Value} (u : Value) (dd : Int) (X : World) (h : DyC Y u dd) (hS : X.cell? ⟨b, i, none⟩ = some v ∧ Hid (Below Y.heap.size Y X)) :
    Calls Try.prog 50 #[u] X fun e y => e = .returned (.int .i64 dd) ∧ y.cell? ⟨b, i, none⟩ = some v ∧ Hid (Below Y.heap.size Y y) := by
  obtain ⟨p, l, dd, h, hb⟩ := h
  refine (days_any p l X (h.after hS.2)).mono ?_
  rintro e y ⟨rfl, hby⟩
  exact ⟨by rw [hb], s4_keep hS hby⟩
end Go.Proofs.Ytiabjlaganmloaa
