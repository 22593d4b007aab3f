/-
  Variables in memory, lists of tokens that grow in memory of the call's own.
-/
import Derived.Test.YtmjfkciaohbkoaaDoorMgAb
import Derived.Test.YtmjfkciaohbkoaaDoorMgAd
import Derived.Test.YtmjfkciaohbkoaaDoorShelf
import Derived.Test.YtmjfkciaohbkoaaDoorProg
import Derived.WalkKit
import Derived.WalkSpells
import Derived.Below
import Derived.BigQuiet
import Derived.BigRegion
import Derived.Deep.QuietTactic
import Derived.Deep.DeepCutAuto
import Derived.Deep.CutBlock
import Derived.Deep.OwnRows
import Derived.Deep.RegionLaw
import Derived.Deep.RegionHeld3
import Derived.Deep.AppendLies
import Derived.Laws.OwnMore
import Derived.Laws.MakeOwn
import Derived.Maps.AppendAt
import Derived.Maps.OwnIn
import Derived.WalkSmall
import Derived.Shelf.Abstract
import Derived.Lib.Strings
import Derived.Lib.SmallJoins
import Derived.Test.YtmjfkciaohbkoaaDoorBsA
namespace Go.Proofs.YtmjfkciaohbkoaaDoor
open Go.RowKit Go.Shelf
set_option linter.unusedVariables false

theorem Va.set0 {w : World} {b : Nat} {t : TypeId} {x y : Value} (h : Va w b t #[x, y]) (x' : Value) : Va (w.setCell ⟨b, 0, none⟩ x') b t #[x', y] := by
  unfold Va at *
  simp only [World.setCell]
  rw [Array.getElem?_modify, if_pos rfl, h]
  simp
theorem cell_lt {w : World} {b i : Nat} {v : Value} (h : w.cell? ⟨b, i, none⟩ = some v) : b < w.heap.size := by
  rcases Nat.lt_or_ge b w.heap.size with h' | h'
  · exact h'
  · simp [World.cell?, Array.getElem?_eq_none h'] at h
/-- A text. -/
abbrev sv (l : List UInt8) : Value := .string ⟨l.toArray⟩
theorem catS (a b : List UInt8) : (⟨a.toArray⟩ ++ ⟨b.toArray⟩ : ByteArray) = ⟨(a ++ b).toArray⟩ := by
  apply ByteArray.ext
  simp
theorem slice_mid (l : List UInt8) (g h : Int) (a n : Nat) (e1 : g = a) (e : h = n) (ha : a ≤ n) (hn : n ≤ l.length) (W : World) : (Instr.sliceAt 9 (.string ⟨l.toArray⟩) (some (.int .i64 g)) (some (.int .i64 h)) none).run Tryd.prog W = .ok (.string ⟨((l.drop a).take (n - a)).toArray⟩) W := by
  subst e e1
  have hb := bsize l
  have h1 : (n : Int) ≤ ((ByteArray.mk l.toArray).size : Int) := by omega
  have h2 : (a : Int) ≤ (n : Int) := by omega
  rw [run_sliceAt_string _ _ _ _ _ _ Tryd.underlying9]
  simp [Instr.slice, run_underlying Tryd.underlying9, Instr.sliceBounds, run_sliceBound, h1, h2, Go.Lib.extract_eq]
end Go.Proofs.YtmjfkciaohbkoaaDoor
namespace Go.Proofs.YtmjfkciaohbkoaaDoor
open Go.RowKit Go.Shelf
set_option linter.unusedVariables false

/-- How an element lies in memory, and the program's types of it and of its lists. -/
structure El (α : Type) where
  enc : α → List Value
  dft : α
  te : TypeId
  tl : TypeId
  z : Value
  s : Nat
  by8 : Nat
  len : ∀ x, (enc x).length = s
  one : ∀ x, ∀ v ∈ enc x, v.oneCell' = true
  pos : 0 < s
  und : Tryd.prog.underlying tl = some (.slice te)
  inf : (Tryd.prog.info? te).map (fun i => (i.zero, i.size, i.bytes)) = some (some z, s, by8)
  zs : z.cells.size = s
  bt : by8 ≤ 64
variable {α : Type} (E : El α)
def rowE (xs : List α) : List Value := xs.flatMap E.enc
theorem rowE_cons (x : α) (xs : List α) : rowE E (x :: xs) = E.enc x ++ rowE E xs := rfl
theorem rowE_length (xs : List α) : (rowE E xs).length = xs.length * E.s := by
  induction xs with
  | nil => simp [rowE]
  | cons x xs ih => rw [rowE_cons, List.length_append, E.len, ih, List.length_cons, Nat.add_mul]; omega
theorem rowE_append (a b : List α) : rowE E (a ++ b) = rowE E a ++ rowE E b := by simp [rowE]
theorem rowE_one (xs : List α) : ∀ v ∈ rowE E xs, v.oneCell' = true := by
  intro v hv
  simp only [rowE, List.mem_flatMap] at hv
  obtain ⟨x, -, hx⟩ := hv
  exact E.one x v hx
theorem rowE_get (j : Nat) (hj : j < E.s) : ∀ (xs : List α) (i : Nat), i < xs.length → (rowE E xs)[i * E.s + j]? = (E.enc (xs.getD i E.dft))[j]?
  | [], i, h => by simp at h
  | x :: xs, 0, _ => by
    rw [rowE_cons, Nat.zero_mul, Nat.zero_add, List.getElem?_append_left (by rw [E.len]; exact hj)]; rfl
  | x :: xs, i + 1, h => by
    have := rowE_get j hj xs i (by simpa using h)
    rw [rowE_cons, List.getElem?_append_right (by rw [E.len, Nat.add_mul]; omega), E.len, show (i + 1) * E.s + j - E.s = i * E.s + j by rw [Nat.add_mul]; omega, this]
    simp
/-- A list that can be read: of an empty one nothing is known but that. -/
def Le (w : World) (a : Option Addr) (len : Nat) (xs : List α) : Prop :=
  xs.length = len ∧ (0 < len → ∃ b off, a = some ⟨b, off, none⟩ ∧ ∀ i u, (rowE E xs)[i]? = some u → w.cell? ⟨b, off + i, none⟩ = some u)
variable {E}
theorem Le.nil (w : World) (a : Option Addr) : Le E w a 0 [] := ⟨rfl, fun h => absurd h (Nat.lt_irrefl _)⟩
theorem Le.at {w : World} {b off len : Nat} {xs : List α} (h : Le E w (some ⟨b, off, none⟩) len xs) (i : Nat) (hi : i < len) (j : Nat) (u : Value) (hj : (E.enc (xs.getD i E.dft))[j]? = some u) : w.cell? ⟨b, off + (i * E.s + j), none⟩ = some u := by
  obtain ⟨b', off', e, hc⟩ := h.2 (by omega)
  cases e
  refine hc _ u ?_
  have hl := h.1
  have hj' : j < E.s := by
    rcases Nat.lt_or_ge j E.s with h' | h'
    · exact h'
    · rw [List.getElem?_eq_none (by rw [E.len]; exact h')] at hj; cases hj
  rw [rowE_get E j hj' xs i (by omega), hj]
theorem Le.ex {w : World} {a : Option Addr} {len : Nat} {xs : List α} (h : Le E w a len xs) (h0 : 0 < len) : ∃ b off, a = some ⟨b, off, none⟩ := by
  obtain ⟨b, off, e, -⟩ := h.2 h0
  exact ⟨b, off, e⟩
theorem Le.lt {w : World} {b off len : Nat} {xs : List α} (h : Le E w (some ⟨b, off, none⟩) len xs) (h0 : 0 < len) : b < w.heap.size := by
  obtain ⟨b', off', e, hc⟩ := h.2 h0
  cases e
  have hl := rowE_length E xs
  have h1 := h.1
  have hp := E.pos
  have : 0 < (rowE E xs).length := by rw [hl, h1]; exact Nat.mul_pos h0 hp
  exact cell_lt (hc 0 _ (List.getElem?_eq_getElem this))
/-- The same list in another world, where its block is as it was. -/
theorem Le.kept {w w' : World} {a : Option Addr} {len : Nat} {xs : List α} (h : Le E w a len xs) (hk : 0 < len → ∀ b off, a = some ⟨b, off, none⟩ → b < w.heap.size → w'.heap[b]? = w.heap[b]?) : Le E w' a len xs := by
  refine ⟨h.1, fun h0 => ?_⟩
  obtain ⟨b, off, e, hc⟩ := h.2 h0
  refine ⟨b, off, e, fun i u hu => ?_⟩
  have c := hc i u hu
  have hb := hk h0 b off e (by subst e; exact h.lt h0)
  simp only [World.cell?] at c ⊢
  rw [hb]; exact c
theorem Le.after {w w' : World} {a : Option Addr} {len : Nat} {xs : List α} (hb : Below w.heap.size w w') (h : Le E w a len xs) : Le E w' a len xs := h.kept (fun _ b _ _ hlt => hb.block b hlt)
theorem Le.grown {w w' : World} {g : Nat} {a : Option Addr} {len : Nat} {xs : List α} (h : Le E w a len xs) (hg : w.grownBy w' (.some g)) (hne : 0 < len → ∀ b off, a = some ⟨b, off, none⟩ → b ≠ g) : Le E w' a len xs :=
  h.kept (fun h0 b off e hlt => hg.block b hlt (fun x => hne h0 b off e (by cases x; rfl)))
theorem Le.tail {w : World} {b off len : Nat} {x : α} {xs : List α} (h : Le E w (.some ⟨b, off, none⟩) (len + 1) (x :: xs)) : Le E w (.some ⟨b, off + E.s, none⟩) len xs := by
  refine ⟨by have := h.1; simpa using this, fun h0 => ⟨b, off + E.s, rfl, fun i u hu => ?_⟩⟩
  obtain ⟨b', off', e, hc⟩ := h.2 (by omega)
  cases e
  have := hc (E.s + i) u (by rw [rowE_cons, List.getElem?_append_right (by rw [E.len]; omega), E.len, show E.s + i - E.s = i by omega]; exact hu)
  rw [← this, Nat.add_assoc]
variable (E)
/-- A list that grows in memory of the call's own. -/
def Ge (w : World) (B : Nat) (v : Value) (xs : List α) : Prop := w.ownsRow B E.te E.s v xs.length (rowE E xs)
variable {E}
theorem Ge.nil (w : World) (B : Nat) : Ge E w B (.slice none 0 0) [] := ⟨by simp [rowE], .inl ⟨rfl, rfl⟩⟩
theorem Ge.block {w : World} {B : Nat} {v : Value} {xs : List α} (h : Ge E w B v xs) : ∀ k, v.ownBlock = some k → B ≤ k := fun k hk => (World.ownsRow.lt h k hk).1
theorem Ge.lt {w : World} {B : Nat} {v : Value} {xs : List α} (h : Ge E w B v xs) : ∀ k, v.ownBlock = some k → k < w.heap.size := fun k hk => (World.ownsRow.lt h k hk).2
theorem Ge.le {w : World} {B B' : Nat} {v : Value} {xs : List α} (h : Ge E w B v xs) (hb : B' ≤ B) : Ge E w B' v xs := ⟨h.1, by
  rcases h.2 with h | ⟨g, cap, cur, e, hB, r⟩
  · exact .inl h
  · exact .inr ⟨g, cap, cur, e, Nat.le_trans hb hB, r⟩⟩
theorem Ge.shape {w : World} {B : Nat} {v : Value} {xs : List α} (h : Ge E w B v xs) : ∃ a cap, v = .slice a xs.length cap ∧ xs.length ≤ cap ∧ cap ≤ maxLen ∧ ((a = none ∧ xs = [] ∧ cap = 0) ∨ ∃ g, a = some ⟨g, 0, none⟩) := by
  obtain ⟨h1, h2 | ⟨g, cap, cur, rfl, hB, hh, hc, hm, hs, ht⟩⟩ := h
  · obtain ⟨rfl, h0⟩ := h2
    exact ⟨none, 0, by rw [h0], by omega, Nat.zero_le _, .inl ⟨rfl, List.length_eq_zero_iff.1 h0, rfl⟩⟩
  · exact ⟨_, cap, rfl, hc, hm, .inr ⟨g, rfl⟩⟩
theorem Ge.toLe {w : World} {B : Nat} {a : Option Addr} {n cap : Nat} {xs : List α} (h : Ge E w B (.slice a n cap) xs) : Le E w a n xs := by
  obtain ⟨a', cap', e, -, -, -⟩ := h.shape
  cases e
  refine ⟨rfl, fun h0 => ?_⟩
  obtain ⟨h1, h2 | ⟨g, cap', cur, e, hB, hh, hc, hm, hs, ht⟩⟩ := h
  · obtain ⟨-, h3⟩ := h2; rw [h3] at h0; exact absurd h0 (Nat.lt_irrefl _)
  · cases e
    refine ⟨g, 0, rfl, fun i u hu => ?_⟩
    have hi : i < xs.length * E.s := by
      rcases Nat.lt_or_ge i (rowE E xs).length with h' | h'
      · rwa [rowE_length] at h'
      · rw [List.getElem?_eq_none h'] at hu; cases hu
    rw [← ht, List.getElem?_take_of_lt hi] at hu
    simp only [World.cell?, hh, Nat.zero_add]
    simpa using hu
theorem Ge.frozen {w : World} {B g n cap : Nat} {xs : List α} (h : Ge E w B (.slice (.some ⟨g, 0, none⟩) n cap) xs) (i : Nat) : w.frozen? ⟨g, i, none⟩ = false := by
  obtain ⟨h1, h2 | ⟨g', cap', cur, e, hB, hh, hc, hm, hs, ht⟩⟩ := h
  · cases h2.1
  · cases e; simp [World.frozen?, hh]
theorem Ge.kept {w w' : World} {B : Nat} {v : Value} {xs : List α} (h : Ge E w B v xs) (hk : ∀ k, v.ownBlock = some k → w'.heap[k]? = w.heap[k]?) : Ge E w' B v xs := by
  obtain ⟨h1, h2 | ⟨g, cap, cur, e, hB, hh, r⟩⟩ := h
  · exact ⟨h1, .inl h2⟩
  · exact ⟨h1, .inr ⟨g, cap, cur, e, hB, by rw [hk g (by rw [e]; rfl)]; exact hh, r⟩⟩
theorem Ge.after {w w' : World} {B : Nat} {v : Value} {xs : List α} (hb : Below w.heap.size w w') (h : Ge E w B v xs) : Ge E w' B v xs := h.kept (fun k hk => hb.block k (h.lt k hk))
theorem Ge.grown {w w' : World} {B g : Nat} {v : Value} {xs : List α} (h : Ge E w B v xs) (hg : w.grownBy w' (some g)) (hne : v.ownBlock ≠ some g) : Ge E w' B v xs := h.kept (fun k hk => hg.block k (h.lt k hk) (fun e => hne (by rw [hk]; exact e)))
theorem Ge.al {w : World} {B : Nat} {v : Value} {xs : List α} (h : Ge E w B v xs) (o : Obj) : Ge E (w.alloc o) B v xs := h.after ((Below.refl _ _).alloc (Nat.le_refl _) _)
theorem Ge.far {w : World} {B : Nat} {v : Value} {xs : List α} (h : Ge E w B v xs) {p : Addr} (hp : v.ownBlock ≠ some p.block) (u : Value) : Ge E (w.setCell p u) B v xs := h.kept (fun k hk => heap_setCell_other w p k u (fun e => hp (by rw [hk, e])))
theorem rowE_set (j : Nat) (hj : j < E.s) (u : Value) (x' : α) : ∀ (xs : List α) (i : Nat), i < xs.length → E.enc x' = (E.enc (xs.getD i E.dft)).set j u → (rowE E xs).set (i * E.s + j) u = rowE E (xs.set i x')
  | [], i, h, _ => by simp at h
  | x :: xs, 0, _, he => by
    rw [rowE_cons, Nat.zero_mul, Nat.zero_add, List.set_append_left _ _ (by rw [E.len]; exact hj)]
    simp only [List.set_cons_zero, rowE_cons, he]; rfl
  | x :: xs, i + 1, h, he => by
    have := rowE_set j hj u x' xs i (by simpa using h) (by simpa using he)
    rw [rowE_cons, List.set_append_right _ _ (by rw [E.len, Nat.add_mul]; omega), E.len, show (i + 1) * E.s + j - E.s = i * E.s + j by rw [Nat.add_mul]; omega, this]
    simp [rowE_cons]
/-- A cell of an element is put anew. -/
theorem Ge.put {w : World} {B g n cap : Nat} {xs : List α} (h : Ge E w B (.slice (.some ⟨g, 0, none⟩) n cap) xs) (i : Nat) (hi : i < xs.length) (j : Nat) (hj : j < E.s) (u : Value) (x' : α) (he : E.enc x' = (E.enc (xs.getD i E.dft)).set j u) :
    Ge E (w.setCell ⟨g, i * E.s + j, none⟩ u) B (.slice (.some ⟨g, 0, none⟩) n cap) (xs.set i x') := by
  obtain ⟨a', cap', e, -, -, -⟩ := h.shape
  cases e
  have := (World.ownsRow.stored (w := w) h (i * E.s + j) u).1
  rw [rowE_set j hj u x' xs i hi he] at this
  show World.ownsRow _ _ _ _ _ _ _
  rw [List.length_set]
  exact this
theorem Le.news {w : World} {b off m : Nat} {ys : List α} (h : Le E w (.some ⟨b, off, none⟩) m ys) : ∀ j u, (rowE E ys)[j]? = some u → w.cell? ((⟨b, off, none⟩ : Addr).add j) = some u := by
  intro j u hj
  have h0 : 0 < m := by
    rw [← h.1]
    rcases ys with _ | ⟨y, ys⟩
    · simp [rowE] at hj
    · simp
  obtain ⟨b', off', e, hc⟩ := h.2 h0
  cases e
  rw [Addr.add_lit]
  exact hc j u hj
/-- append of a list that can be read: all blocks but the list's own stay; the new list lies where the old one lay, or in a new block. -/
theorem run_appE (w : World) (ty : TypeId) (B : Nat) (v : Value) (xs : List α) (hg : Ge E w B v xs) (b off m c : Nat) (ys : List α) (hy : Le E w (.some ⟨b, off, none⟩) m ys) (hb : xs.length + m ≤ 1000000000000) (hB : B ≤ w.heap.size) :
    ∃ v' w', (Builtin.append_ #[E.tl, E.tl] ty #[v, .slice (.some ⟨b, off, none⟩) m c]).run Tryd.prog w = .ok v' w' ∧ Ge E w' B v' (xs ++ ys) ∧ w.grownBy w' v.ownBlock ∧ (v'.ownBlock = v.ownBlock ∨ v'.ownBlock = some w.heap.size) := by
  obtain ⟨i0, hi, hz0, hz1, hz2⟩ := info_parts E.inf
  have hbt := E.bt
  obtain ⟨v', w', hr, k2, k3, -, k5⟩ := run_append_own_at (P := Tryd.prog) (w := w) B E.tl ty E.te i0 E.z E.s E.by8 E.und hi hz0 hz1 hz2 E.zs E.pos v xs.length (rowE E xs) hg ⟨b, off, none⟩ m c (rowE E ys) (by rw [rowE_length, hy.1]) hy.news (rowE_one E _) (by unfold maxLen; omega) (by
      have : (xs.length + m) * E.by8 ≤ 1000000000000 * 64 := Nat.mul_le_mul hb hbt
      omega) hB
  refine ⟨v', w', hr, ?_, k3, k5⟩
  show World.ownsRow _ _ _ _ _ _ _
  rw [List.length_append, rowE_append, hy.1]
  exact k2
theorem wpList_appE {ops : Array Oper} {rest : List Oper} {o : Oper} {a : Act} {w : World} {Q : Exit → Act → World → Prop} (hgd : o.guard = none) (s x : Operand) (t : TypeId)
    (ho : o.op = .call { callee := .builtin .append, args := #[s, x], argTypes := #[t, t] }) (E : El α) (ht : t = E.tl)
    (B : Nat) (v : Value) (xs : List α) (hs : a.eval s = v) (hg : Ge E w B v xs) (b off m c : Nat) (ys : List α) (hx : a.eval x = .slice (.some ⟨b, off, none⟩) m c) (hy : Le E w (.some ⟨b, off, none⟩) m ys)
    (hb : xs.length + m ≤ 1000000000000) (hB : B ≤ w.heap.size)
    (h : ∀ v' w', Ge E w' B v' (xs ++ ys) → w.grownBy w' v.ownBlock → (v'.ownBlock = v.ownBlock ∨ v'.ownBlock = some w.heap.size) → wpList Tryd.prog ops Q rest (a.put o.dst v') w') : wpList Tryd.prog ops Q (o :: rest) a w := by
  subst ht
  refine wpList_plain hgd fun K hK => ?_
  obtain ⟨v', w', hr, k2, k3, k5⟩ := run_appE w o.type B v xs hg b off m c ys hy hb hB
  unfold Oper.wp execOp
  simp only [ho, resolve, invoke, builtin, Sem.run_bind, Sem.run_pure, Result.andThen_ok, List.map_toArray, List.map_cons, List.map_nil, hs, hx, hr]
  exact hK _ _ (h v' w' k2 k3 k5)
/-- One element in a block of its own, as a list. -/
theorem Le.one {w : World} {b : Nat} {t : TypeId} {x : α} {cs : Array Value} (h : Va w b t cs) (hc : cs.toList = E.enc x) : Le E w (.some ⟨b, 0, none⟩) 1 [x] := by
  refine ⟨rfl, fun _ => ⟨b, 0, rfl, fun i u hu => ?_⟩⟩
  rw [Nat.zero_add, h.cellAt i, ← Array.getElem?_toList, hc]
  simpa [rowE] using hu
/-- Elements in a block of their own, as a list that grows. -/
theorem Ge.of {w : World} {B b n : Nat} {cs : Array Value} {xs : List α} (h : Va w b E.te cs) (hB : B ≤ b) (hl : xs.length = n) (hc : cs.toList = rowE E xs) (hm : n ≤ maxLen) : Ge E w B (.slice (.some ⟨b, 0, none⟩) n n) xs := by
  subst hl
  refine ⟨rowE_length E xs, .inr ⟨b, xs.length, cs, rfl, hB, h, Nat.le_refl _, hm, ?_, ?_⟩⟩
  · rw [← Array.length_toList, hc, rowE_length]
  · rw [hc, List.take_of_length_le (by rw [rowE_length]; exact Nat.le_refl _)]
theorem appE_below {w1 W w2 wr : World} {B : Nat} {v : Value} {xs : List α} (h : W.grownBy w2 v.ownBlock) (hg : Ge E wr B v xs) (hle : B ≤ W.heap.size) (hb : RowKit.Below B w1 W) : RowKit.Below B w1 w2 := hb.trans ((RowKit.Below.refl B W).grown h hle hg.block)
end Go.Proofs.YtmjfkciaohbkoaaDoor
namespace Go.Proofs.YtmjfkciaohbkoaaDoor
open Go.RowKit Go.Shelf
set_option linter.unusedVariables false
set_option maxRecDepth 20000

theorem u8_cases (c : UInt8) (n : Nat) : ((c.toNat : Int) < n ∧ c.toNat < n ∧ decide ((c.toNat : Int) < n) = true) ∨ (¬ (c.toNat : Int) < n) := by
  by_cases h : c.toNat < n
  · left; exact ⟨by omega, h, by simp; omega⟩
  · right; omega
theorem isSmall_any (c : UInt8) (w : World) : Calls Tryd.prog 32 #[.int .u8 c.toNat] w fun e w' => e = .returned (.bool (sm c)) ∧ w' = w := by
  have hs : sm c = (decide ((97 : Int) ≤ c.toNat) && decide ((c.toNat : Int) ≤ 122)) := by
    unfold sm; rw [Bool.eq_iff_iff]; simp; omega
  have HS : Hid (sm c = (decide ((97 : Int) ≤ c.toNat) && decide ((c.toNat : Int) ≤ 122))) := hs
  clear hs
  by_cases h1 : (97 : Int) ≤ c.toNat
  · by_cases h2 : (c.toNat : Int) ≤ 122
    · go_enter Tryd.func32, Tryd.ntmps32
      go_wp2_with fail
      go_ret
      exact ⟨by rw [HS.out]; simp [h1, h2], rfl⟩
    · go_enter Tryd.func32, Tryd.ntmps32
      go_wp2_with fail
      go_ret
      exact ⟨by rw [HS.out]; simp [h1, h2], rfl⟩
  · go_enter Tryd.func32, Tryd.ntmps32
    go_wp2_with fail
    go_ret
    exact ⟨by rw [HS.out]; simp; omega, rfl⟩
theorem isDigit_any (c : UInt8) (w : World) : Calls Tryd.prog 40 #[.int .u8 c.toNat] w fun e w' => e = .returned (.bool (dg c)) ∧ w' = w := by
  have hs : dg c = (decide ((48 : Int) ≤ c.toNat) && decide ((c.toNat : Int) ≤ 57)) := by
    unfold dg; rw [Bool.eq_iff_iff]; simp; omega
  have HS : Hid (dg c = (decide ((48 : Int) ≤ c.toNat) && decide ((c.toNat : Int) ≤ 57))) := hs
  clear hs
  by_cases h1 : (48 : Int) ≤ c.toNat
  · by_cases h2 : (c.toNat : Int) ≤ 57
    · go_enter Tryd.func40, Tryd.ntmps40
      go_wp2_with fail
      go_ret
      exact ⟨by rw [HS.out]; simp [h1, h2], rfl⟩
    · go_enter Tryd.func40, Tryd.ntmps40
      go_wp2_with fail
      go_ret
      exact ⟨by rw [HS.out]; simp [h1, h2], rfl⟩
  · go_enter Tryd.func40, Tryd.ntmps40
    go_wp2_with fail
    go_ret
    exact ⟨by rw [HS.out]; simp; omega, rfl⟩
theorem u8_eq (c : UInt8) (n : Nat) (hn : n < 256) : ((c.toNat : Int) = n) ↔ c = UInt8.ofNat n := by
  constructor
  · intro h
    have : c.toNat = n := by omega
    rw [← this]; simp
  · rintro rfl
    have : (UInt8.ofNat n).toNat = n := by simp [UInt8.toNat_ofNat']; omega
    omega
theorem isInPart_any (c : UInt8) (w : World) : Calls Tryd.prog 34 #[.int .u8 c.toNat] w fun e w' => e = .returned (.bool (ip c)) ∧ w' = w := by
  have c1 := fun W => isSmall_any c W
  have c2 := fun W => isDigit_any c W
  have he := u8_eq c 95 (by omega)
  have HS : Hid (ip c = (sm c || dg c || c == 95)) := rfl
  cases h1 : sm c
  · cases h2 : dg c
    · rw [h1] at c1; rw [h2] at c2
      by_cases h3 : (c.toNat : Int) = 95
      · have HE : Hid (ip c = true) := by
          have : c = 95 := he.1 h3
          show _ = _
          rw [HS.out]; simp [this]
        clear HS h1 h2 he
        have hb : ((c.toNat : Int) == 95) = true := by simpa using h3
        clear h3
        go_enter Tryd.func34, Tryd.ntmps34
        go_wp2_with (first | (go_at_call 32; refine (c1 _).mono ?_; rintro e w' ⟨rfl, rfl⟩) | (go_at_call 40; refine (c2 _).mono ?_; rintro e w' ⟨rfl, rfl⟩))
        go_ret
        exact ⟨by rw [HE.out]; rfl, rfl⟩
      · have HE : Hid (ip c = false) := by
          have : ¬ c = 95 := fun h => h3 (he.2 h)
          show _ = _
          rw [HS.out]; simp [this, h1, h2]
        clear HS h1 h2 he
        have hb : ((c.toNat : Int) == 95) = false := by simpa using h3
        clear h3
        go_enter Tryd.func34, Tryd.ntmps34
        go_wp2_with (first | (go_at_call 32; refine (c1 _).mono ?_; rintro e w' ⟨rfl, rfl⟩) | (go_at_call 40; refine (c2 _).mono ?_; rintro e w' ⟨rfl, rfl⟩))
        go_ret
        exact ⟨by rw [HE.out]; rfl, rfl⟩
    · have HE : Hid (ip c = true) := by show _ = _; rw [HS.out]; simp [h2]
      rw [h1] at c1; rw [h2] at c2
      clear HS h1 h2 he
      go_enter Tryd.func34, Tryd.ntmps34
      go_wp2_with (first | (go_at_call 32; refine (c1 _).mono ?_; rintro e w' ⟨rfl, rfl⟩) | (go_at_call 40; refine (c2 _).mono ?_; rintro e w' ⟨rfl, rfl⟩))
      go_ret
      exact ⟨by rw [HE.out]; rfl, rfl⟩
  · have HE : Hid (ip c = true) := by show _ = _; rw [HS.out]; simp [h1]
    rw [h1] at c1
    clear HS h1 he c2
    go_enter Tryd.func34, Tryd.ntmps34
    go_wp2_with (go_at_call 32; refine (c1 _).mono ?_; rintro e w' ⟨rfl, rfl⟩)
    go_ret
    exact ⟨by rw [HE.out]; rfl, rfl⟩
theorem byte_at (s : List UInt8) (k : Nat) (h : k < s.length) : ∃ c, s[k]? = some c ∧ s.drop k = c :: s.drop (k + 1) := ⟨s[k], List.getElem?_eq_getElem h, List.drop_eq_getElem_cons h⟩
theorem str_at (s : List UInt8) (k : Nat) (c : UInt8) (h : s[k]? = some c) : ∀ hh, (ByteArray.mk s.toArray)[k]'hh = c := by
  intro hh
  obtain ⟨hk, e⟩ := List.getElem?_eq_some_iff.1 h
  exact e
/-- run: how many bytes at the beginning are of a kind. -/
theorem run_any (k : Nat) (he : ∀ args w, (callFunc k args).run Tryd.prog w = .ok (.enter k args) w) (p : UInt8 → Bool) (hk : ∀ (c : UInt8) (W : World), Calls Tryd.prog k #[.int .u8 c.toNat] W fun e w' => e = .returned (.bool (p c)) ∧ w' = W) (s : List UInt8) (w : World) (hl : s.length ≤ 140737488355328) :
    Calls Tryd.prog 33 #[sv s, .func (.func k) #[] #[]] w fun e w' => e = .returned (.int .i64 (rn p s)) ∧ w' = w := by
  have HE0 : Hid (∀ args w, (callFunc k args).run Tryd.prog w = .ok (.enter k args) w) := he
  clear he
  go_enter Tryd.func33, Tryd.ntmps33
  go_wp2_with fail
  go_loopw [5] (fun i wr => ∃ n : Nat, i = .int .i64 n ∧ n ≤ s.length ∧ Hid (n + rn p (s.drop n) = rn p s) ∧ wr = w) (fun i _ => (s.length - (intOf i).toNat : Nat))
  case atStart => exact ⟨0, rfl, Nat.zero_le _, by show _ = _; simp, rfl⟩
  case round =>
    obtain ⟨n, rfl, hn, HN, hw⟩ := hrel
    subst hw
    rcases Nat.lt_or_ge n s.length with hlt | hge
    · obtain ⟨c, hc, hcd⟩ := byte_at s n hlt
      have hat := str_at s n c hc
      have hi : (n : Int) < s.length := by omega
      have hkc := hk c
      clear hk hc
      cases hp : p c
      · have HE : Hid ((n : Int) = rn p s) := by
          have := HN.out
          rw [hcd, rn, hp] at this
          show _ = _
          simp at this
          omega
        rw [hp] at hkc
        clear hcd hp HN
        go_wp2_with fail
        rw [HE0.out, Oper.upon_enter]
        refine (hkc _).mono ?_
        rintro e w' ⟨rfl, hw'⟩
        rw [hw']; clear hw' w'
        go_wp2_with fail
        go_ret
        exact ⟨by rw [← HE.out]; rfl, rfl⟩
      · have HE : Hid ((n + 1) + rn p (s.drop (n + 1)) = rn p s) := by
          have := HN.out
          rw [hcd, rn, hp] at this
          show _ = _
          simp at this
          omega
        rw [hp] at hkc
        clear hcd hp HN
        go_wp2_with fail
        rw [HE0.out, Oper.upon_enter]
        refine (hkc _).mono ?_
        rintro e w' ⟨rfl, hw'⟩
        rw [hw']; clear hw' w'
        go_wp2_with fail
        go_roundw
        case rel => exact ⟨n + 1, rfl, by omega, HE.out, trivial⟩
        case measure => simp [intOf]; omega
    · obtain rfl : n = s.length := by omega
      have HE : Hid (rn p s = s.length) := by
        have := HN.out
        rw [List.drop_length] at this
        show _ = _
        simp [rn] at this
        omega
      clear HN hge
      go_wp2_with fail
      go_ret
      exact ⟨by rw [HE.out]; rfl, rfl⟩
theorem runI (s : List UInt8) (w : World) (hl : s.length ≤ 140737488355328) : Calls Tryd.prog 33 #[sv s, .func (.func 34) #[] #[]] w fun e w' => e = .returned (.int .i64 (rn ip s)) ∧ w' = w :=
  run_any _ (enters_of Tryd.func34 (by kernel_rfl) rfl) ip isInPart_any s w hl
theorem runD (s : List UInt8) (w : World) (hl : s.length ≤ 140737488355328) : Calls Tryd.prog 33 #[sv s, .func (.func 40) #[] #[]] w fun e w' => e = .returned (.int .i64 (rn dg s)) ∧ w' = w :=
  run_any _ (enters_of Tryd.func40 (by kernel_rfl) rfl) dg isDigit_any s w hl
/-- partLength. -/
theorem part_any (s : List UInt8) (w : World) (hl : s.length ≤ 140737488355328) :
    Calls Tryd.prog 26 #[sv s] w fun e w' => e = .returned (.int .i64 (pt s)) ∧ w' = w := by
  cases s with
  | nil =>
    go_enter Tryd.func26, Tryd.ntmps26
    go_wp2_with fail
    go_ret
    exact ⟨rfl, rfl⟩
  | cons c t =>
    have c1 := fun W => isSmall_any c W
    have c2 := fun W => runI (c :: t) W hl
    have HP : Hid (pt (c :: t) = if sm c then rn ip (c :: t) else 0) := rfl
    have hat := str_at (c :: t) 0 c rfl
    have hne : (c :: t == []) = false := rfl
    have hne2 : ([] == c :: t) = false := rfl
    have hi : (0 : Int) < (c :: t).length := by simp
    generalize hs : c :: t = s at *
    clear hs
    cases hp : sm c
    · rw [hp] at c1
      have HE : Hid (pt s = 0) := by show _ = _; rw [HP.out, hp]; rfl
      clear HP hp
      go_enter Tryd.func26, Tryd.ntmps26
      go_wp2_with (go_at_call 32; refine (c1 _).mono ?_; rintro e w' ⟨rfl, rfl⟩)
      go_ret
      exact ⟨by rw [HE.out]; rfl, rfl⟩
    · rw [hp] at c1
      have HE : Hid (pt s = rn ip s) := by show _ = _; rw [HP.out, hp]; rfl
      clear HP hp
      go_enter Tryd.func26, Tryd.ntmps26
      go_wp2_with (first | (go_at_call 32; refine (c1 _).mono ?_; rintro e w' ⟨rfl, rfl⟩) | (go_at_call 33; refine (c2 _).mono ?_; rintro e w' ⟨rfl, rfl⟩))
      go_ret
      exact ⟨by rw [HE.out]; rfl, rfl⟩
end Go.Proofs.YtmjfkciaohbkoaaDoor
namespace Go.Proofs.YtmjfkciaohbkoaaDoor
set_option linter.unusedVariables false
/-- What a byte is worth as a digit; 36: it is none. -/
def wv (c : UInt8) : Nat := if 48 ≤ c.toNat ∧ c.toNat ≤ 57 then c.toNat - 48 else if 97 ≤ c.toNat ∧ c.toNat ≤ 122 then c.toNat - 87 else 36
theorem wv_inj {c d : UInt8} (hc : wv c < 36) (h : wv c = wv d) : c = d := by
  have : c.toNat = d.toNat := by
    unfold wv at hc h
    repeat' split at hc
    all_goals (repeat' split at h)
    all_goals omega
  exact UInt8.toNat_inj.1 this
theorem wv_nought : wv 48 = 0 := by decide
theorem wv_zero {c : UInt8} (h : wv c = 0) : c = 48 := wv_inj (d := 48) (by omega) (by rw [h]; rfl)
/-- What digits say, to the base b. -/
def tv (b : Nat) (l : List UInt8) : Nat := l.foldl (fun s c => s * b + wv c) 0
theorem tv_nil (b : Nat) : tv b [] = 0 := rfl
theorem tv_snoc (b : Nat) (l : List UInt8) (c : UInt8) : tv b (l ++ [c]) = tv b l * b + wv c := by simp [tv]
theorem tv_fold (b : Nat) (m : List UInt8) : ∀ s, m.foldl (fun s c => s * b + wv c) s = s * b ^ m.length + tv b m := by
  induction m with
  | nil => intro s; simp [tv]
  | cons c m ih =>
    intro s
    have e : tv b (c :: m) = (0 * b + wv c) * b ^ m.length + tv b m := ih _
    rw [List.foldl_cons, ih, e, List.length_cons, Nat.pow_succ]
    grind
theorem tv_append (b : Nat) (l m : List UInt8) : tv b (l ++ m) = tv b l * b ^ m.length + tv b m := by
  rw [tv, List.foldl_append, tv_fold]; rfl
theorem tv_cons (b : Nat) (c : UInt8) (m : List UInt8) : tv b (c :: m) = wv c * b ^ m.length + tv b m := by
  rw [tv, List.foldl_cons, tv_fold]; simp
/-- All of them are digits to the base b. -/
def Dig (b : Nat) (l : List UInt8) : Prop := ∀ c ∈ l, wv c < b
theorem Dig.nil (b : Nat) : Dig b [] := fun c h => by simp at h
theorem Dig.cons {b : Nat} {c : UInt8} {l : List UInt8} (h : Dig b (c :: l)) : wv c < b ∧ Dig b l := ⟨h c (by simp), fun d hd => h d (by simp [hd])⟩
theorem Dig.append {b : Nat} {l m : List UInt8} (h : Dig b l) (k : Dig b m) : Dig b (l ++ m) := fun c hc => by
  rcases List.mem_append.1 hc with h' | h'
  · exact h c h'
  · exact k c h'
theorem tv_lt {b : Nat} : ∀ {l : List UInt8}, Dig b l → tv b l < b ^ l.length
  | [], _ => by simp [tv]
  | c :: l, h => by
    have h1 := h.cons.1
    have h2 := tv_lt h.cons.2
    rw [tv_cons, List.length_cons, Nat.pow_succ]
    have : (wv c + 1) * b ^ l.length ≤ b * b ^ l.length := Nat.mul_le_mul_right _ h1
    grind
/-- The text of a number: its digits, with no nought ahead. -/
structure Tx (b : Nat) (l : List UInt8) (v : Nat) : Prop where
  ne : l ≠ []
  dig : Dig b l
  val : tv b l = v
  nz : l.head? = some 48 → l.length = 1
theorem tv_len_inj {b : Nat} (hb : 2 ≤ b) (h36 : b ≤ 36) : ∀ {l m : List UInt8}, Dig b l → Dig b m → l.length = m.length → tv b l = tv b m → l = m
  | [], [], _, _, _, _ => rfl
  | [], _ :: _, _, _, h, _ => by simp at h
  | _ :: _, [], _, _, h, _ => by simp at h
  | c :: l, d :: m, hl, hm, h, e => by
    have h' : l.length = m.length := by simpa using h
    have l1 := tv_lt hl.cons.2
    have l2 := tv_lt hm.cons.2
    rw [tv_cons, tv_cons, h'] at e
    rw [h'] at l1
    have hp : 0 < b ^ m.length := Nat.pow_pos (by omega)
    have e1 : wv c = wv d := by
      have a1 : (wv c * b ^ m.length + tv b l) / b ^ m.length = wv c := by
        rw [Nat.mul_comm, Nat.mul_add_div hp, Nat.div_eq_of_lt l1, Nat.add_zero]
      have a2 : (wv d * b ^ m.length + tv b m) / b ^ m.length = wv d := by
        rw [Nat.mul_comm, Nat.mul_add_div hp, Nat.div_eq_of_lt l2, Nat.add_zero]
      rw [← a1, e, a2]
    rw [e1] at e
    have e2 : tv b l = tv b m := by omega
    have h1 := hl.cons.1
    rw [wv_inj (by omega) e1, tv_len_inj hb h36 hl.cons.2 hm.cons.2 h' e2]
theorem Tx.low {b : Nat} {l : List UInt8} {v : Nat} (h : Tx b l v) (h2 : 2 ≤ l.length) : b ^ (l.length - 1) ≤ v := by
  obtain ⟨ne, dig, val, nz⟩ := h
  match l, ne with
  | c :: l, _ =>
    have hc : wv c ≠ 0 := fun h0 => by
      have := nz (by rw [wv_zero h0]; rfl)
      omega
    rw [← val, tv_cons, List.length_cons, Nat.add_sub_cancel]
    have : 1 * b ^ l.length ≤ wv c * b ^ l.length := Nat.mul_le_mul_right _ (by omega)
    omega
theorem Tx.lt {b : Nat} {l : List UInt8} {v : Nat} (h : Tx b l v) : v < b ^ l.length := h.val ▸ tv_lt h.dig
theorem Tx.pos {b : Nat} {l : List UInt8} {v : Nat} (h : Tx b l v) : 0 < l.length := List.length_pos_iff.2 h.ne
theorem Tx.le {b : Nat} (hb : 2 ≤ b) {l : List UInt8} {v k : Nat} (h : Tx b l v) (hv : v < b ^ k) (hk : 1 ≤ k) : l.length ≤ k := by
  rcases Nat.lt_or_ge k l.length with h' | h'
  · have := h.low (by omega)
    have := Nat.pow_le_pow_right (show 0 < b by omega) (show k ≤ l.length - 1 by omega)
    omega
  · exact h'
theorem Tx.length_eq {b : Nat} (hb : 2 ≤ b) {l m : List UInt8} {v : Nat} (h : Tx b l v) (k : Tx b m v) : l.length = m.length := by
  have := h.le hb k.lt k.pos
  have := k.le hb h.lt h.pos
  omega
theorem Tx.unique {b : Nat} (hb : 2 ≤ b) (h36 : b ≤ 36) {l m : List UInt8} {v : Nat} (h : Tx b l v) (k : Tx b m v) : l = m :=
  tv_len_inj hb h36 h.dig k.dig (h.length_eq hb k) (h.val.trans k.val.symm)
theorem dig_noughts {b : Nat} (hb : 2 ≤ b) (n : Nat) : Dig b (List.replicate n 48) := fun c hc => by
  rw [(List.mem_replicate.1 hc).2, wv_nought]; omega
theorem tv_noughts (b n : Nat) : tv b (List.replicate n 48) = 0 := by
  induction n with
  | zero => rfl
  | succ n ih => rw [List.replicate_succ, tv_cons, ih, wv_nought]; omega
theorem tv_ahead (b n : Nat) (l : List UInt8) : tv b (List.replicate n 48 ++ l) = tv b l := by rw [tv_append, tv_noughts]; omega
theorem tv_behind (b n : Nat) (l : List UInt8) : tv b (l ++ List.replicate n 48) = tv b l * b ^ n := by rw [tv_append, tv_noughts]; simp
/-- More digits behind a number that is not 0. -/
theorem Tx.more {b : Nat} {l m : List UInt8} {v : Nat} (h : Tx b l v) (hv : v ≠ 0) (hm : Dig b m) : Tx b (l ++ m) (v * b ^ m.length + tv b m) := by
  refine ⟨by simp [h.ne], h.dig.append hm, by rw [tv_append, h.val], fun e => ?_⟩
  exfalso
  match l, h with
  | [], h => exact h.ne rfl
  | c :: l, h =>
    have h1 := h.nz (by simpa using e)
    have hl : l = [] := by simpa using h1
    subst hl
    have : c = 48 := by simpa using e
    subst this
    exact hv (by rw [← h.val, tv_cons, wv_nought]; simp [tv])
theorem Tx.zero {b : Nat} (hb : 2 ≤ b) : Tx b [48] 0 := ⟨by simp, fun c hc => by simp at hc; subst hc; rw [wv_nought]; omega, by rw [tv_cons, wv_nought]; simp [tv], fun _ => rfl⟩
theorem Tx.head_zero {b : Nat} {l : List UInt8} {v : Nat} (h : Tx b l v) (hz : v = 0) : l = [48] := by
  subst hz
  match l, h.ne with
  | c :: l, _ =>
    rcases Nat.lt_or_ge 1 (c :: l).length with h2 | h2
    · have := h.low (by omega)
      have hb : 0 < b := by have := h.dig.cons.1; omega
      have := Nat.pow_pos (n := (c :: l).length - 1) hb
      omega
    · have hl : l = [] := List.eq_nil_of_length_eq_zero (by simp at h2; simpa using h2)
      subst hl
      have := h.val
      rw [tv_cons] at this
      rw [wv_zero (c := c) (by simpa [tv] using this)]
end Go.Proofs.YtmjfkciaohbkoaaDoor
namespace Go.Proofs.YtmjfkciaohbkoaaDoor
set_option linter.unusedVariables false
theorem ten_ne (P : Nat) : (10 : Int) ^ P ≠ 0 := Int.ne_of_gt (Int.pow_pos (by omega))
theorem cross {U : Int} {P : Nat} {v : Rat} (hv : v = Rat.divInt U (10 ^ P)) : v.num * 10 ^ P = U * v.den := by
  have h := Rat.num_divInt_den v
  rw [hv] at h
  have := (Rat.divInt_eq_divInt_iff (by have := (Rat.divInt U (10 ^ P)).den_nz; omega) (ten_ne P)).1 h
  rw [← hv] at this
  exact this
theorem den_dvd_ten {U : Int} {P : Nat} {v : Rat} (hv : v = Rat.divInt U (10 ^ P)) : v.den ∣ 10 ^ P := by
  have e : v.den = ((10 : Int) ^ P).natAbs / ((10 : Int) ^ P).gcd U := by rw [hv, Rat.den_divInt, if_neg (ten_ne P)]
  have e2 : ((10 : Int) ^ P).natAbs = 10 ^ P := by rw [Int.natAbs_pow]; rfl
  have hd : ((10 : Int) ^ P).gcd U ∣ ((10 : Int) ^ P).natAbs := Nat.gcd_dvd_left _ _
  rw [e2] at e hd
  rw [e]
  exact Nat.div_dvd_of_dvd hd
/-- The fewest places at which a number of 10^-P parts is whole. -/
theorem few {U : Int} {P : Nat} {v : Rat} (hv : v = Rat.divInt U (10 ^ P)) (hc : 0 < P → U.natAbs % 10 ≠ 0) {p t : Nat} (hp : p ≤ P) (h : 10 ^ p = v.den * t) : p = P ∧ v.num * t = U := by
  have hx := cross hv
  have hd : (v.den : Int) ≠ 0 := by have := v.den_nz; omega
  obtain ⟨d, rfl⟩ : ∃ d, P = p + d := ⟨P - p, by omega⟩
  have h' : ((10 : Int)) ^ p = v.den * t := by exact_mod_cast h
  have e : U = v.num * t * 10 ^ d := by
    rw [Int.pow_add, h'] at hx
    have h3 : U * v.den = (v.num * t * 10 ^ d) * v.den := by rw [← hx]; grind
    exact Int.eq_of_mul_eq_mul_right hd h3
  rcases Nat.eq_zero_or_pos d with h0 | h0
  · subst h0
    exact ⟨rfl, by rw [e]; simp⟩
  · exfalso
    obtain ⟨f, rfl⟩ : ∃ f, d = f + 1 := ⟨d - 1, by omega⟩
    have h10 : (10 : Int) ∣ U := ⟨v.num * t * 10 ^ f, by rw [e, Int.pow_succ]; grind⟩
    exact hc (by omega) (by omega)
end Go.Proofs.YtmjfkciaohbkoaaDoor
