/-
  order: blocks that are told by functions; rows of nodes of each node, growing and read.
-/
import Derived.Test.YtonhooaboieapaaJu1
import Derived.Test.YtonhooaboieapaaJuH
import Derived.Test.YtonhooaboieapaaOrT
namespace Go.Proofs.Ytonhooaboieapaa
open Go.RowKit Go.Shelf
set_option linter.unusedVariables false
set_option linter.unusedSimpArgs false

def ints (l : List Nat) : List Int := l.map (fun x : Nat => (x : Int))
theorem ints_snoc (l : List Nat) (x : Nat) : ints (l ++ [x]) = ints l ++ [(x : Int)] := by simp [ints]
theorem ints_length (l : List Nat) : (ints l).length = l.length := by simp [ints]
theorem ints_getD {l : List Nat} {i : Nat} (h : i < l.length) (d : Int) : (ints l).getD i d = ((l.getD i 0 : Nat) : Int) := by
  simp [ints, List.getD_eq_getElem?_getD, h]
theorem ints_take (l : List Nat) (k : Nat) : (ints l).take k = ints (l.take k) := by simp [ints, List.map_take]
/-- A block of cells, told by a function. -/
def Fv (t : TypeId) (n : Nat) (w : World) (g : Nat) (f : Nat → Value) : Prop := Va w g t ((List.range n).map f).toArray
theorem Fv.lt {t : TypeId} {n : Nat} {w : World} {g : Nat} {f : Nat → Value} (h : Fv t n w g f) : g < w.heap.size := Va.lt h
theorem Fv.cell {t : TypeId} {n : Nat} {w : World} {g : Nat} {f : Nat → Value} (h : Fv t n w g f) {i : Nat} (hi : i < n) : w.cell? ⟨g, i, none⟩ = some (f i) := by
  rw [Va.cellAt h i]
  simp [hi]
theorem Fv.frozen {t : TypeId} {n : Nat} {w : World} {g : Nat} {f : Nat → Value} (h : Fv t n w g f) (i : Nat) : w.frozen? ⟨g, i, none⟩ = false := Va.frozen h i
theorem Fv.congr {t : TypeId} {n : Nat} {w : World} {g : Nat} {f f' : Nat → Value} (h : Fv t n w g f) (e : ∀ i, i < n → f' i = f i) : Fv t n w g f' := by
  unfold Fv at *
  rw [show (List.range n).map f' = (List.range n).map f from List.map_congr_left (fun i hi => e i (List.mem_range.1 hi))]
  exact h
theorem map_upf (f : Nat → Value) (n i : Nat) (v : Value) : ((List.range n).map f).set i v = (List.range n).map (upf f i v) := by
  apply List.ext_getElem?
  intro k
  rw [List.getElem?_set, List.getElem?_map, List.getElem?_map, List.length_map, List.length_range]
  by_cases hk : k < n
  · rw [List.getElem?_range hk]
    by_cases e : i = k
    · rw [if_pos e, if_pos (by omega), Option.map_some, e, upf_self]
    · rw [if_neg e, Option.map_some, Option.map_some, upf_ne _ _ (fun h => e h.symm)]
  · rw [show (List.range n)[k]? = none from List.getElem?_eq_none (by rw [List.length_range]; omega)]
    by_cases e : i = k
    · rw [if_pos e, if_neg (by omega)]; rfl
    · rw [if_neg e]; rfl
theorem Fv.set {t : TypeId} {n : Nat} {w : World} {g : Nat} {f : Nat → Value} (h : Fv t n w g f) (i : Nat) (v : Value) : Fv t n (w.setCell ⟨g, i, none⟩ v) g (upf f i v) := by
  unfold Fv Va at *
  simp only [World.setCell]
  rw [Array.getElem?_modify, if_pos rfl, h, ← map_upf]
  simp
theorem Fv.other {t : TypeId} {n : Nat} {w : World} {g : Nat} {f : Nat → Value} (h : Fv t n w g f) {p : Addr} (hp : g ≠ p.block) (v : Value) : Fv t n (w.setCell p v) g f := Va.other h hp v
theorem Fv.after {t : TypeId} {n : Nat} {w w' : World} {g : Nat} {f : Nat → Value} (hb : Below w.heap.size w w') (h : Fv t n w g f) : Fv t n w' g f := Va.after hb h
theorem Fv.kept {t : TypeId} {n : Nat} {w w' : World} {g : Nat} {f : Nat → Value} (h : Fv t n w g f) (hk : w'.heap[g]? = w.heap[g]?) : Fv t n w' g f := by unfold Fv Va at *; rw [hk]; exact h
/-- Numbers. -/
def iv (x : Nat) : Value := .int .i64 (x : Int)
def Fn (n : Nat) (w : World) (g : Nat) (f : Nat → Nat) : Prop := Fv 3 n w g (fun i => iv (f i))
def Fb (n : Nat) (w : World) (g : Nat) (f : Nat → Bool) : Prop := Fv 4 n w g (fun i => .bool (f i))
theorem Fn.cell {n : Nat} {w : World} {g : Nat} {f : Nat → Nat} (h : Fn n w g f) {i : Nat} (hi : i < n) : w.cell? ⟨g, i, none⟩ = some (.int .i64 (f i : Int)) := Fv.cell h hi
theorem Fb.cell {n : Nat} {w : World} {g : Nat} {f : Nat → Bool} (h : Fb n w g f) {i : Nat} (hi : i < n) : w.cell? ⟨g, i, none⟩ = some (.bool (f i)) := Fv.cell h hi
theorem Fn.set {n : Nat} {w : World} {g : Nat} {f : Nat → Nat} (h : Fn n w g f) (i x : Nat) : Fn n (w.setCell ⟨g, i, none⟩ (.int .i64 (x : Int))) g (upf f i x) :=
  (Fv.set h i _).congr (fun k _ => by unfold upf; by_cases e : k = i <;> simp [e, iv])
theorem Fb.set {n : Nat} {w : World} {g : Nat} {f : Nat → Bool} (h : Fb n w g f) (i : Nat) (x : Bool) : Fb n (w.setCell ⟨g, i, none⟩ (.bool x)) g (upf f i x) :=
  (Fv.set h i _).congr (fun k _ => by unfold upf; by_cases e : k = i <;> simp [e])
theorem Fn.make {n : Nat} {w : World} {g : Nat} (h : Va w g 3 ((List.replicate n (0 : Int)).map (Value.int .i64)).toArray) : Fn n w g (fun _ => 0) := by
  unfold Fn Fv
  have e : (List.range n).map (fun i => iv 0) = (List.replicate n (0 : Int)).map (Value.int .i64) := by
    apply List.ext_getElem? ; intro k; by_cases hk : k < n <;> simp [hk, iv]
  rw [e]
  exact h
theorem Fb.make {n : Nat} {w : World} {g : Nat} (h : Va w g 4 ((List.replicate n false).map Value.bool).toArray) : Fb n w g (fun _ => false) := by
  unfold Fb Fv
  have e : (List.range n).map (fun i => Value.bool false) = (List.replicate n false).map Value.bool := by
    apply List.ext_getElem? ; intro k; by_cases hk : k < n <;> simp [hk]
  rw [e]
  exact h
set_option maxRecDepth 20000 in
theorem make_rows (n : Nat) (hn : n ≤ 1000000000000) (w : World) : (Instr.makeSlice 45 (.int .i64 (n : Int)) (.int .i64 (n : Int))).run Try.prog w =
    .ok (.slice (some ⟨w.heap.size, 0, none⟩) n n) (w.alloc (.cells ((List.replicate n (Value.slice none 0 0)).toArray) 23)) := by
  have h := run_make_row' (P := Try.prog) 45 23 (.slice none 0 0) 24 Try.underlying45 (by kernel_rfl) rfl .i64 .i64 n (by omega) (by omega) w
  rw [h]
  congr 3
  apply Array.ext'
  rw [toList_madeCells_one]
theorem Va.drw {w : World} {b : Nat} {t : TypeId} {cs : Array Value} (h : Va w b t cs) : Va w.drew b t cs := h
/-- Of each node its row, as it grows in memory of the call's own: each apart from the others. -/
structure Dg (n : Nat) (w wr : World) (f : Nat → Value) (N : Nat → List Nat) : Prop where
  blk : Fv 23 n wr w.heap.size f
  kids : ∀ p, p < n → Ge elI wr (w.heap.size + 1) (f p) (ints (N p))
  apart : ∀ p q b, p < n → q < n → p ≠ q → (f p).ownBlock = some b → (f q).ownBlock ≠ some b
  below : Below w.heap.size w wr
theorem Dg.start {n : Nat} {w w0 : World} (hV : Va w0 w.heap.size 23 (List.replicate n (Value.slice none 0 0)).toArray) (hB : Below w.heap.size w w0) : Dg n w w0 (fun _ => .slice none 0 0) (fun _ => []) := by
  refine ⟨?_, fun p hp => Ge.nil _ _, fun p q b hp hq _ h => (by cases h), hB⟩
  unfold Fv
  have e : (List.range n).map (fun _ => Value.slice none 0 0) = List.replicate n (Value.slice none 0 0) := by
    apply List.ext_getElem? ; intro k; by_cases hk : k < n <;> simp [hk]
  rw [e]
  exact hV
theorem Dg.size {n : Nat} {w wr : World} {f : Nat → Value} {N : Nat → List Nat} (h : Dg n w wr f N) : w.heap.size + 1 ≤ wr.heap.size := h.blk.lt
theorem Dg.after {n : Nat} {w wr w' : World} {f : Nat → Value} {N : Nat → List Nat} (h : Dg n w wr f N) (hb : Below wr.heap.size wr w') : Dg n w w' f N :=
  ⟨h.blk.after hb, fun p hp => (h.kids p hp).after hb, h.apart, h.below.trans (hb.mono (by have := h.size; omega))⟩
theorem Dg.congr {n : Nat} {w wr : World} {f : Nat → Value} {N N' : Nat → List Nat} (h : Dg n w wr f N) (e : ∀ p, p < n → N' p = N p) : Dg n w wr f N' :=
  ⟨h.blk, fun p hp => by rw [e p hp]; exact h.kids p hp, h.apart, h.below⟩
/-- A row grows. -/
theorem Dg.add {n x : Nat} {w wr w1 : World} {f : Nat → Value} {N : Nat → List Nat} {v' : Value} {l : List Nat} (h : Dg n w wr f N) (hx : x < n) (hg : wr.grownBy w1 (f x).ownBlock) (h1 : Ge elI w1 (w.heap.size + 1) v' (ints l)) (ho : v'.ownBlock = (f x).ownBlock ∨ v'.ownBlock = some wr.heap.size) : Dg n w (w1.setCell ⟨w.heap.size, x, none⟩ v') (upf f x v') (upf N x l) := by
  have hs := h.size
  have hK : ∀ {v : Value} {l : List Int}, Ge elI w1 (w.heap.size + 1) v l → Ge elI (w1.setCell ⟨w.heap.size, x, none⟩ v') (w.heap.size + 1) v l := fun hG => hG.far (p := ⟨w.heap.size, x, none⟩) (fun e => by have := hG.block _ e; simp at this; omega) _
  have hnew : ∀ {b : Nat}, v'.ownBlock = some b → (f x).ownBlock = some b ∨ b = wr.heap.size := fun hb => by
    rcases ho with e | e
    · left; rw [← e]; exact hb
    · right; rw [e] at hb; have := Option.some.inj hb; omega
  have hblk : Fv 23 n w1 w.heap.size f := h.blk.kept (hg.block _ (by omega) (fun e => by have := (h.kids x hx).block _ e.symm; omega))
  refine ⟨hblk.set x v', fun p hp => ?_, fun p q b hp hq hne hb => ?_, ?_⟩
  · by_cases e : p = x
    · rw [e, upf_self, upf_self]; exact hK h1
    · rw [upf_ne _ _ e, upf_ne _ _ e]
      exact hK ((h.kids p hp).kept (fun b hb => hg.block b ((h.kids p hp).lt b hb) (fun e' => h.apart x p b hx hp (fun e2 => e e2.symm) e'.symm hb)))
  · by_cases e1 : p = x
    · rw [e1, upf_self] at hb
      have e2 : q ≠ x := fun e2 => hne (e1.trans e2.symm)
      rw [upf_ne _ _ e2]
      rcases hnew hb with h2 | h2
      · exact h.apart x q b hx hq (fun e3 => e2 e3.symm) h2
      · intro hq2
        have := (h.kids q hq).lt b hq2
        omega
    · rw [upf_ne _ _ e1] at hb
      by_cases e2 : q = x
      · rw [e2, upf_self]
        intro hq2
        rcases hnew hq2 with h2 | h2
        · exact h.apart p x b hp hx e1 hb h2
        · have := (h.kids p hp).lt b hb
          omega
      · rw [upf_ne _ _ e2]; exact h.apart p q b hp hq hne hb
  · exact (h.below.trans ((Below.refl _ _).grown hg (by omega) (fun b hb => by have := (h.kids x hx).block b hb; omega))).setCell (p := ⟨w.heap.size, x, none⟩) (by simp) _
theorem Dg.al {n : Nat} {w wr : World} {f : Nat → Value} {N : Nat → List Nat} (h : Dg n w wr f N) (o : Obj) : Dg n w (wr.alloc o) f N := h.after ((Below.refl _ _).alloc (Nat.le_refl _) _)
theorem Dg.drw {n : Nat} {w wr : World} {f : Nat → Value} {N : Nat → List Nat} (h : Dg n w wr f N) (k : Nat) : Dg n w (wr.drewN k) f N := h.after (below_drewN (Below.refl _ _) _)
/-- A row in hand: where its block lies, and that it stays while another grows. -/
theorem Dg.row {n x : Nat} {w wr : World} {f : Nat → Value} {N : Nat → List Nat} (h : Dg n w wr f N) (hx : x < n) : ∃ a c, f x = .slice a (ints (N x)).length c ∧ wr.cell? ⟨w.heap.size, x, none⟩ = some (.slice a (ints (N x)).length c) ∧ Ge elI wr (w.heap.size + 1) (.slice a (ints (N x)).length c) (ints (N x)) ∧
    ∀ w1 : World, wr.grownBy w1 (Value.slice a (ints (N x)).length c).ownBlock → w1.cell? ⟨w.heap.size, x, none⟩ = some (.slice a (ints (N x)).length c) ∧ w1.frozen? ⟨w.heap.size, x, none⟩ = false := by
  obtain ⟨a, c, e, -, -, -⟩ := (h.kids x hx).shape
  have hk := h.kids x hx
  rw [e] at hk
  have hs := h.size
  refine ⟨a, c, e, by rw [h.blk.cell hx, e], hk, fun w1 hg => ?_⟩
  have hblk : Fv 23 n w1 w.heap.size f := h.blk.kept (hg.block _ (by omega) (fun e => by have := hk.block _ e.symm; omega))
  exact ⟨by rw [hblk.cell hx, e], hblk.frozen x⟩
theorem step_appE {α : Type} (E : El α) {ops : Array Oper} {o : Oper} {a : Act} {w : World} {K : Act → World → Prop} {Q : Exit → Act → World → Prop} {E' : Prop} (hgd : o.guard = none) (s x : Operand) (t : TypeId)
    (ho : o.op = .call { callee := .builtin .append, args := #[s, x], argTypes := #[t, t] }) (ht : t = E.tl)
    (B : Nat) (v : Value) (xs : List α) (hs : a.eval s = v) (hg : Ge E w B v xs) (b off m c : Nat) (ys : List α) (hx : a.eval x = .slice (some ⟨b, off, none⟩) m c) (hy : Le E w (some ⟨b, off, none⟩) m ys)
    (hb : xs.length + m ≤ 1000000000000) (hB : B ≤ w.heap.size)
    (h : ∀ v' w', Ge E w' B v' (xs ++ ys) → w.grownBy w' v.ownBlock → (v'.ownBlock = v.ownBlock ∨ v'.ownBlock = some w.heap.size) → K (a.put o.dst v') w') : if Region.wanted o (yielded ops a.tmps) = true then Oper.wp Try.prog o a w K Q else E' := by
  subst ht
  have hw : Region.wanted o (yielded ops a.tmps) = true := by simp [Region.wanted, hgd]
  rw [if_pos hw]
  obtain ⟨v', w', hr, k2, k3, k5⟩ := run_appE w o.type B v xs hg b off m c ys hy hb hB
  unfold Oper.wp execOp
  simp only [ho, resolve, invoke, builtin, Sem.run_bind, Sem.run_pure, Result.andThen_ok, List.map_toArray, List.map_cons, List.map_nil, hs, hx, hr]
  exact h v' w' k2 k3 k5
/-- Of each node its row, to be read. -/
def Rw (n : Nat) (w : World) (b : Nat) (N : Nat → List Nat) : Prop := ∃ f : Nat → Value, Fv 23 n w b f ∧ ∀ p, p < n → ∃ a c, f p = .slice a (N p).length c ∧ Li w a (N p).length (ints (N p))
theorem Rw.lt {n : Nat} {w : World} {b : Nat} {N : Nat → List Nat} (h : Rw n w b N) : b < w.heap.size := by
  obtain ⟨f, h1, -⟩ := h
  exact h1.lt
theorem Rw.after {n : Nat} {w w' : World} {b : Nat} {N : Nat → List Nat} (hb : Below w.heap.size w w') (h : Rw n w b N) : Rw n w' b N := by
  obtain ⟨f, h1, h2⟩ := h
  refine ⟨f, h1.after hb, fun p hp => ?_⟩
  obtain ⟨a, c, e, hL⟩ := h2 p hp
  exact ⟨a, c, e, hL.after hb⟩
theorem Rw.cell {n : Nat} {w : World} {b : Nat} {N : Nat → List Nat} (h : Rw n w b N) {p : Nat} (hp : p < n) : ∃ a c, w.cell? ⟨b, p, none⟩ = some (.slice a (N p).length c) ∧ Li w a (N p).length (ints (N p)) := by
  obtain ⟨f, h1, h2⟩ := h
  obtain ⟨a, c, e, hL⟩ := h2 p hp
  exact ⟨a, c, by rw [h1.cell hp, e], hL⟩
theorem Dg.rows {n : Nat} {w wr : World} {f : Nat → Value} {N : Nat → List Nat} (h : Dg n w wr f N) : Rw n wr w.heap.size N := by
  refine ⟨f, h.blk, fun p hp => ?_⟩
  have hk := h.kids p hp
  obtain ⟨a, c, e, -, -, -⟩ := hk.shape
  rw [e, ints_length] at hk
  rw [e, ints_length]
  exact ⟨a, c, rfl, hk.toLe.li⟩
/-- A node of a row. -/
theorem Li.node {w : World} {a : Option Addr} {l : List Nat} (h : Li w a l.length (ints l)) {i : Nat} (hi : i < l.length) : ∃ b off, a = some ⟨b, off, none⟩ ∧ w.cell? ⟨b, off + i, none⟩ = some (.int .i64 ((l.getD i 0 : Nat) : Int)) := by
  obtain ⟨b, off, e, hc⟩ := h.at hi
  exact ⟨b, off, e, by rw [hc, ints_getD hi]⟩
end Go.Proofs.Ytonhooaboieapaa
