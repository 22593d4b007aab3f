/-
  Variables in memory, lists of tokens that grow in memory of the call's own.
-/
import Derived.Test.YtblafbbnplfpjaaGreatDoorMgAa
import Derived.Test.YtblafbbnplfpjaaGreatDoorMgAf
import Derived.Test.YtblafbbnplfpjaaGreatDoorShelf
import Derived.Test.YtblafbbnplfpjaaGreatDoorProg
import Derived.WalkKit
import Derived.WalkSpells
import Derived.Below
import Derived.BigQuiet
import Derived.BigRegion
import Derived.Deep.QuietTactic
import Derived.Deep.DeepCutAuto
import Derived.Deep.CutBlock
import Derived.Deep.OwnRows
import Derived.Deep.RegionLaw
import Derived.Deep.RegionHeld3
import Derived.Deep.AppendLies
import Derived.Laws.OwnMore
import Derived.Laws.MakeOwn
import Derived.Maps.AppendAt
import Derived.Maps.OwnIn
import Derived.WalkSmall
import Derived.Shelf.Abstract
import Derived.Lib.Strings
import Derived.Lib.SmallJoins
import Derived.Test.YtblafbbnplfpjaaGreatDoorMgAb
namespace Go.Proofs.YtblafbbnplfpjaaGreatDoor
open Go.RowKit Go.Shelf
set_option linter.unusedVariables false

theorem cell_lt {w : World} {b i : Nat} {v : Value} (h : w.cell? ⟨b, i, none⟩ = some v) : b < w.heap.size := by
  rcases Nat.lt_or_ge b w.heap.size with h' | h'
  · exact h'
  · simp [World.cell?, Array.getElem?_eq_none h'] at h
/-- A text. -/
abbrev sv (l : List UInt8) : Value := .string ⟨l.toArray⟩
end Go.Proofs.YtblafbbnplfpjaaGreatDoor
namespace Go.Proofs.YtblafbbnplfpjaaGreatDoor
open Go.RowKit Go.Shelf
set_option linter.unusedVariables false

/-- How an element lies in memory, and the program's types of it and of its lists. -/
structure El (α : Type) where
  enc : α → List Value
  dft : α
  te : TypeId
  tl : TypeId
  z : Value
  s : Nat
  by8 : Nat
  len : ∀ x, (enc x).length = s
  one : ∀ x, ∀ v ∈ enc x, v.oneCell' = true
  pos : 0 < s
  und : Tryz.prog.underlying tl = some (.slice te)
  inf : (Tryz.prog.info? te).map (fun i => (i.zero, i.size, i.bytes)) = some (some z, s, by8)
  zs : z.cells.size = s
  bt : by8 ≤ 112
variable {α : Type} (E : El α)
def rowE (xs : List α) : List Value := xs.flatMap E.enc
theorem rowE_cons (x : α) (xs : List α) : rowE E (x :: xs) = E.enc x ++ rowE E xs := rfl
theorem rowE_length (xs : List α) : (rowE E xs).length = xs.length * E.s := by
  induction xs with
  | nil => simp [rowE]
  | cons x xs ih => rw [rowE_cons, List.length_append, E.len, ih, List.length_cons, Nat.add_mul]; omega
theorem rowE_append (a b : List α) : rowE E (a ++ b) = rowE E a ++ rowE E b := by simp [rowE]
theorem rowE_one (xs : List α) : ∀ v ∈ rowE E xs, v.oneCell' = true := by
  intro v hv
  simp only [rowE, List.mem_flatMap] at hv
  obtain ⟨x, -, hx⟩ := hv
  exact E.one x v hx
theorem rowE_get (j : Nat) (hj : j < E.s) : ∀ (xs : List α) (i : Nat), i < xs.length → (rowE E xs)[i * E.s + j]? = (E.enc (xs.getD i E.dft))[j]?
  | [], i, h => by simp at h
  | x :: xs, 0, _ => by
    rw [rowE_cons, Nat.zero_mul, Nat.zero_add, List.getElem?_append_left (by rw [E.len]; exact hj)]; rfl
  | x :: xs, i + 1, h => by
    have := rowE_get j hj xs i (by simpa using h)
    rw [rowE_cons, List.getElem?_append_right (by rw [E.len, Nat.add_mul]; omega), E.len, show (i + 1) * E.s + j - E.s = i * E.s + j by rw [Nat.add_mul]; omega, this]
    simp
/-- A list that can be read: of an empty one nothing is known but that. -/
def Le (w : World) (a : Option Addr) (len : Nat) (xs : List α) : Prop :=
  xs.length = len ∧ (0 < len → ∃ b off, a = some ⟨b, off, none⟩ ∧ ∀ i u, (rowE E xs)[i]? = some u → w.cell? ⟨b, off + i, none⟩ = some u)
variable {E}
theorem Le.nil (w : World) (a : Option Addr) : Le E w a 0 [] := ⟨rfl, fun h => absurd h (Nat.lt_irrefl _)⟩
theorem Le.at {w : World} {b off len : Nat} {xs : List α} (h : Le E w (some ⟨b, off, none⟩) len xs) (i : Nat) (hi : i < len) (j : Nat) (u : Value) (hj : (E.enc (xs.getD i E.dft))[j]? = some u) : w.cell? ⟨b, off + (i * E.s + j), none⟩ = some u := by
  obtain ⟨b', off', e, hc⟩ := h.2 (by omega)
  cases e
  refine hc _ u ?_
  have hl := h.1
  have hj' : j < E.s := by
    rcases Nat.lt_or_ge j E.s with h' | h'
    · exact h'
    · rw [List.getElem?_eq_none (by rw [E.len]; exact h')] at hj; cases hj
  rw [rowE_get E j hj' xs i (by omega), hj]
theorem Le.ex {w : World} {a : Option Addr} {len : Nat} {xs : List α} (h : Le E w a len xs) (h0 : 0 < len) : ∃ b off, a = some ⟨b, off, none⟩ := by
  obtain ⟨b, off, e, -⟩ := h.2 h0
  exact ⟨b, off, e⟩
theorem Le.lt {w : World} {b off len : Nat} {xs : List α} (h : Le E w (some ⟨b, off, none⟩) len xs) (h0 : 0 < len) : b < w.heap.size := by
  obtain ⟨b', off', e, hc⟩ := h.2 h0
  cases e
  have hl := rowE_length E xs
  have h1 := h.1
  have hp := E.pos
  have : 0 < (rowE E xs).length := by rw [hl, h1]; exact Nat.mul_pos h0 hp
  exact cell_lt (hc 0 _ (List.getElem?_eq_getElem this))
/-- The same list in another world, where its block is as it was. -/
theorem Le.kept {w w' : World} {a : Option Addr} {len : Nat} {xs : List α} (h : Le E w a len xs) (hk : 0 < len → ∀ b off, a = some ⟨b, off, none⟩ → b < w.heap.size → w'.heap[b]? = w.heap[b]?) : Le E w' a len xs := by
  refine ⟨h.1, fun h0 => ?_⟩
  obtain ⟨b, off, e, hc⟩ := h.2 h0
  refine ⟨b, off, e, fun i u hu => ?_⟩
  have c := hc i u hu
  have hb := hk h0 b off e (by subst e; exact h.lt h0)
  simp only [World.cell?] at c ⊢
  rw [hb]; exact c
theorem Le.after {w w' : World} {a : Option Addr} {len : Nat} {xs : List α} (hb : Below w.heap.size w w') (h : Le E w a len xs) : Le E w' a len xs := h.kept (fun _ b _ _ hlt => hb.block b hlt)
theorem Le.grown {w w' : World} {g : Nat} {a : Option Addr} {len : Nat} {xs : List α} (h : Le E w a len xs) (hg : w.grownBy w' (.some g)) (hne : 0 < len → ∀ b off, a = some ⟨b, off, none⟩ → b ≠ g) : Le E w' a len xs :=
  h.kept (fun h0 b off e hlt => hg.block b hlt (fun x => hne h0 b off e (by cases x; rfl)))
theorem Le.tail {w : World} {b off len : Nat} {x : α} {xs : List α} (h : Le E w (.some ⟨b, off, none⟩) (len + 1) (x :: xs)) : Le E w (.some ⟨b, off + E.s, none⟩) len xs := by
  refine ⟨by have := h.1; simpa using this, fun h0 => ⟨b, off + E.s, rfl, fun i u hu => ?_⟩⟩
  obtain ⟨b', off', e, hc⟩ := h.2 (by omega)
  cases e
  have := hc (E.s + i) u (by rw [rowE_cons, List.getElem?_append_right (by rw [E.len]; omega), E.len, show E.s + i - E.s = i by omega]; exact hu)
  rw [← this, Nat.add_assoc]
variable (E)
/-- A list that grows in memory of the call's own. -/
def Ge (w : World) (B : Nat) (v : Value) (xs : List α) : Prop := w.ownsRow B E.te E.s v xs.length (rowE E xs)
variable {E}
theorem Ge.nil (w : World) (B : Nat) : Ge E w B (.slice none 0 0) [] := ⟨by simp [rowE], .inl ⟨rfl, rfl⟩⟩
theorem Ge.block {w : World} {B : Nat} {v : Value} {xs : List α} (h : Ge E w B v xs) : ∀ k, v.ownBlock = some k → B ≤ k := fun k hk => (World.ownsRow.lt h k hk).1
theorem Ge.lt {w : World} {B : Nat} {v : Value} {xs : List α} (h : Ge E w B v xs) : ∀ k, v.ownBlock = some k → k < w.heap.size := fun k hk => (World.ownsRow.lt h k hk).2
theorem Ge.le {w : World} {B B' : Nat} {v : Value} {xs : List α} (h : Ge E w B v xs) (hb : B' ≤ B) : Ge E w B' v xs := ⟨h.1, by
  rcases h.2 with h | ⟨g, cap, cur, e, hB, r⟩
  · exact .inl h
  · exact .inr ⟨g, cap, cur, e, Nat.le_trans hb hB, r⟩⟩
theorem Ge.shape {w : World} {B : Nat} {v : Value} {xs : List α} (h : Ge E w B v xs) : ∃ a cap, v = .slice a xs.length cap ∧ xs.length ≤ cap ∧ cap ≤ maxLen ∧ ((a = none ∧ xs = [] ∧ cap = 0) ∨ ∃ g, a = some ⟨g, 0, none⟩) := by
  obtain ⟨h1, h2 | ⟨g, cap, cur, rfl, hB, hh, hc, hm, hs, ht⟩⟩ := h
  · obtain ⟨rfl, h0⟩ := h2
    exact ⟨none, 0, by rw [h0], by omega, Nat.zero_le _, .inl ⟨rfl, List.length_eq_zero_iff.1 h0, rfl⟩⟩
  · exact ⟨_, cap, rfl, hc, hm, .inr ⟨g, rfl⟩⟩
theorem Ge.toLe {w : World} {B : Nat} {a : Option Addr} {n cap : Nat} {xs : List α} (h : Ge E w B (.slice a n cap) xs) : Le E w a n xs := by
  obtain ⟨a', cap', e, -, -, -⟩ := h.shape
  cases e
  refine ⟨rfl, fun h0 => ?_⟩
  obtain ⟨h1, h2 | ⟨g, cap', cur, e, hB, hh, hc, hm, hs, ht⟩⟩ := h
  · obtain ⟨-, h3⟩ := h2; rw [h3] at h0; exact absurd h0 (Nat.lt_irrefl _)
  · cases e
    refine ⟨g, 0, rfl, fun i u hu => ?_⟩
    have hi : i < xs.length * E.s := by
      rcases Nat.lt_or_ge i (rowE E xs).length with h' | h'
      · rwa [rowE_length] at h'
      · rw [List.getElem?_eq_none h'] at hu; cases hu
    rw [← ht, List.getElem?_take_of_lt hi] at hu
    simp only [World.cell?, hh, Nat.zero_add]
    simpa using hu
theorem Ge.frozen {w : World} {B g n cap : Nat} {xs : List α} (h : Ge E w B (.slice (.some ⟨g, 0, none⟩) n cap) xs) (i : Nat) : w.frozen? ⟨g, i, none⟩ = false := by
  obtain ⟨h1, h2 | ⟨g', cap', cur, e, hB, hh, hc, hm, hs, ht⟩⟩ := h
  · cases h2.1
  · cases e; simp [World.frozen?, hh]
theorem Ge.kept {w w' : World} {B : Nat} {v : Value} {xs : List α} (h : Ge E w B v xs) (hk : ∀ k, v.ownBlock = some k → w'.heap[k]? = w.heap[k]?) : Ge E w' B v xs := by
  obtain ⟨h1, h2 | ⟨g, cap, cur, e, hB, hh, r⟩⟩ := h
  · exact ⟨h1, .inl h2⟩
  · exact ⟨h1, .inr ⟨g, cap, cur, e, hB, by rw [hk g (by rw [e]; rfl)]; exact hh, r⟩⟩
theorem Ge.after {w w' : World} {B : Nat} {v : Value} {xs : List α} (hb : Below w.heap.size w w') (h : Ge E w B v xs) : Ge E w' B v xs := h.kept (fun k hk => hb.block k (h.lt k hk))
theorem Ge.grown {w w' : World} {B g : Nat} {v : Value} {xs : List α} (h : Ge E w B v xs) (hg : w.grownBy w' (some g)) (hne : v.ownBlock ≠ some g) : Ge E w' B v xs := h.kept (fun k hk => hg.block k (h.lt k hk) (fun e => hne (by rw [hk]; exact e)))
theorem Ge.al {w : World} {B : Nat} {v : Value} {xs : List α} (h : Ge E w B v xs) (o : Obj) : Ge E (w.alloc o) B v xs := h.after ((Below.refl _ _).alloc (Nat.le_refl _) _)
theorem Ge.far {w : World} {B : Nat} {v : Value} {xs : List α} (h : Ge E w B v xs) {p : Addr} (hp : v.ownBlock ≠ some p.block) (u : Value) : Ge E (w.setCell p u) B v xs := h.kept (fun k hk => heap_setCell_other w p k u (fun e => hp (by rw [hk, e])))
theorem rowE_set (j : Nat) (hj : j < E.s) (u : Value) (x' : α) : ∀ (xs : List α) (i : Nat), i < xs.length → E.enc x' = (E.enc (xs.getD i E.dft)).set j u → (rowE E xs).set (i * E.s + j) u = rowE E (xs.set i x')
  | [], i, h, _ => by simp at h
  | x :: xs, 0, _, he => by
    rw [rowE_cons, Nat.zero_mul, Nat.zero_add, List.set_append_left _ _ (by rw [E.len]; exact hj)]
    simp only [List.set_cons_zero, rowE_cons, he]; rfl
  | x :: xs, i + 1, h, he => by
    have := rowE_set j hj u x' xs i (by simpa using h) (by simpa using he)
    rw [rowE_cons, List.set_append_right _ _ (by rw [E.len, Nat.add_mul]; omega), E.len, show (i + 1) * E.s + j - E.s = i * E.s + j by rw [Nat.add_mul]; omega, this]
    simp [rowE_cons]
/-- A cell of an element is put anew. -/
theorem Ge.put {w : World} {B g n cap : Nat} {xs : List α} (h : Ge E w B (.slice (.some ⟨g, 0, none⟩) n cap) xs) (i : Nat) (hi : i < xs.length) (j : Nat) (hj : j < E.s) (u : Value) (x' : α) (he : E.enc x' = (E.enc (xs.getD i E.dft)).set j u) :
    Ge E (w.setCell ⟨g, i * E.s + j, none⟩ u) B (.slice (.some ⟨g, 0, none⟩) n cap) (xs.set i x') := by
  obtain ⟨a', cap', e, -, -, -⟩ := h.shape
  cases e
  have := (World.ownsRow.stored (w := w) h (i * E.s + j) u).1
  rw [rowE_set j hj u x' xs i hi he] at this
  show World.ownsRow _ _ _ _ _ _ _
  rw [List.length_set]
  exact this
theorem Le.news {w : World} {b off m : Nat} {ys : List α} (h : Le E w (.some ⟨b, off, none⟩) m ys) : ∀ j u, (rowE E ys)[j]? = some u → w.cell? ((⟨b, off, none⟩ : Addr).add j) = some u := by
  intro j u hj
  have h0 : 0 < m := by
    rw [← h.1]
    rcases ys with _ | ⟨y, ys⟩
    · simp [rowE] at hj
    · simp
  obtain ⟨b', off', e, hc⟩ := h.2 h0
  cases e
  rw [Addr.add_lit]
  exact hc j u hj
/-- append of a list that can be read: all blocks but the list's own stay; the new list lies where the old one lay, or in a new block. -/
theorem run_appE (w : World) (ty : TypeId) (B : Nat) (v : Value) (xs : List α) (hg : Ge E w B v xs) (b off m c : Nat) (ys : List α) (hy : Le E w (.some ⟨b, off, none⟩) m ys) (hb : xs.length + m ≤ 1000000000000) (hB : B ≤ w.heap.size) :
    ∃ v' w', (Builtin.append_ #[E.tl, E.tl] ty #[v, .slice (.some ⟨b, off, none⟩) m c]).run Tryz.prog w = .ok v' w' ∧ Ge E w' B v' (xs ++ ys) ∧ w.grownBy w' v.ownBlock ∧ (v'.ownBlock = v.ownBlock ∨ v'.ownBlock = some w.heap.size) := by
  obtain ⟨i0, hi, hz0, hz1, hz2⟩ := info_parts E.inf
  have hbt := E.bt
  obtain ⟨v', w', hr, k2, k3, -, k5⟩ := run_append_own_at (P := Tryz.prog) (w := w) B E.tl ty E.te i0 E.z E.s E.by8 E.und hi hz0 hz1 hz2 E.zs E.pos v xs.length (rowE E xs) hg ⟨b, off, none⟩ m c (rowE E ys) (by rw [rowE_length, hy.1]) hy.news (rowE_one E _) (by unfold maxLen; omega) (by
      have : (xs.length + m) * E.by8 ≤ 1000000000000 * 112 := Nat.mul_le_mul hb hbt
      omega) hB
  refine ⟨v', w', hr, ?_, k3, k5⟩
  show World.ownsRow _ _ _ _ _ _ _
  rw [List.length_append, rowE_append, hy.1]
  exact k2
theorem wpList_appE {ops : Array Oper} {rest : List Oper} {o : Oper} {a : Act} {w : World} {Q : Exit → Act → World → Prop} (hgd : o.guard = none) (s x : Operand) (t : TypeId)
    (ho : o.op = .call { callee := .builtin .append, args := #[s, x], argTypes := #[t, t] }) (E : El α) (ht : t = E.tl)
    (B : Nat) (v : Value) (xs : List α) (hs : a.eval s = v) (hg : Ge E w B v xs) (b off m c : Nat) (ys : List α) (hx : a.eval x = .slice (.some ⟨b, off, none⟩) m c) (hy : Le E w (.some ⟨b, off, none⟩) m ys)
    (hb : xs.length + m ≤ 1000000000000) (hB : B ≤ w.heap.size)
    (h : ∀ v' w', Ge E w' B v' (xs ++ ys) → w.grownBy w' v.ownBlock → (v'.ownBlock = v.ownBlock ∨ v'.ownBlock = some w.heap.size) → wpList Tryz.prog ops Q rest (a.put o.dst v') w') : wpList Tryz.prog ops Q (o :: rest) a w := by
  subst ht
  refine wpList_plain hgd fun K hK => ?_
  obtain ⟨v', w', hr, k2, k3, k5⟩ := run_appE w o.type B v xs hg b off m c ys hy hb hB
  unfold Oper.wp execOp
  simp only [ho, resolve, invoke, builtin, Sem.run_bind, Sem.run_pure, Result.andThen_ok, List.map_toArray, List.map_cons, List.map_nil, hs, hx, hr]
  exact hK _ _ (h v' w' k2 k3 k5)
/-- One element in a block of its own, as a list. -/
theorem Le.one {w : World} {b : Nat} {t : TypeId} {x : α} {cs : Array Value} (h : Va w b t cs) (hc : cs.toList = E.enc x) : Le E w (.some ⟨b, 0, none⟩) 1 [x] := by
  refine ⟨rfl, fun _ => ⟨b, 0, rfl, fun i u hu => ?_⟩⟩
  rw [Nat.zero_add, h.cellAt i, ← Array.getElem?_toList, hc]
  simpa [rowE] using hu
/-- Elements in a block of their own, as a list that grows. -/
theorem Ge.of {w : World} {B b n : Nat} {cs : Array Value} {xs : List α} (h : Va w b E.te cs) (hB : B ≤ b) (hl : xs.length = n) (hc : cs.toList = rowE E xs) (hm : n ≤ maxLen) : Ge E w B (.slice (.some ⟨b, 0, none⟩) n n) xs := by
  subst hl
  refine ⟨rowE_length E xs, .inr ⟨b, xs.length, cs, rfl, hB, h, Nat.le_refl _, hm, ?_, ?_⟩⟩
  · rw [← Array.length_toList, hc, rowE_length]
  · rw [hc, List.take_of_length_le (by rw [rowE_length]; exact Nat.le_refl _)]
theorem appE_below {w1 W w2 wr : World} {B : Nat} {v : Value} {xs : List α} (h : W.grownBy w2 v.ownBlock) (hg : Ge E wr B v xs) (hle : B ≤ W.heap.size) (hb : RowKit.Below B w1 W) : RowKit.Below B w1 w2 := hb.trans ((RowKit.Below.refl B W).grown h hle hg.block)
end Go.Proofs.YtblafbbnplfpjaaGreatDoor
namespace Go.Proofs.YtblafbbnplfpjaaGreatDoor
open Go.RowKit Go.Shelf
set_option linter.unusedVariables false
set_option maxRecDepth 20000

theorem isSmall_any (c : UInt8) (w : World) : Calls Tryz.prog 90 #[.int .u8 c.toNat] w fun e w' => e = .returned (.bool (sm c)) ∧ w' = w := by
  have hs : sm c = (decide ((97 : Int) ≤ c.toNat) && decide ((c.toNat : Int) ≤ 122)) := by
    unfold sm; rw [Bool.eq_iff_iff]; simp; omega
  have HS : Hid (sm c = (decide ((97 : Int) ≤ c.toNat) && decide ((c.toNat : Int) ≤ 122))) := hs
  clear hs
  by_cases h1 : (97 : Int) ≤ c.toNat
  · by_cases h2 : (c.toNat : Int) ≤ 122
    · go_enter Tryz.func90, Tryz.ntmps90
      go_wp2_with fail
      go_ret
      exact ⟨by rw [HS.out]; simp [h1, h2], rfl⟩
    · go_enter Tryz.func90, Tryz.ntmps90
      go_wp2_with fail
      go_ret
      exact ⟨by rw [HS.out]; simp [h1, h2], rfl⟩
  · go_enter Tryz.func90, Tryz.ntmps90
    go_wp2_with fail
    go_ret
    exact ⟨by rw [HS.out]; simp; omega, rfl⟩
theorem isDigit_any (c : UInt8) (w : World) : Calls Tryz.prog 127 #[.int .u8 c.toNat] w fun e w' => e = .returned (.bool (dg c)) ∧ w' = w := by
  have hs : dg c = (decide ((48 : Int) ≤ c.toNat) && decide ((c.toNat : Int) ≤ 57)) := by
    unfold dg; rw [Bool.eq_iff_iff]; simp; omega
  have HS : Hid (dg c = (decide ((48 : Int) ≤ c.toNat) && decide ((c.toNat : Int) ≤ 57))) := hs
  clear hs
  by_cases h1 : (48 : Int) ≤ c.toNat
  · by_cases h2 : (c.toNat : Int) ≤ 57
    · go_enter Tryz.func127, Tryz.ntmps127
      go_wp2_with fail
      go_ret
      exact ⟨by rw [HS.out]; simp [h1, h2], rfl⟩
    · go_enter Tryz.func127, Tryz.ntmps127
      go_wp2_with fail
      go_ret
      exact ⟨by rw [HS.out]; simp [h1, h2], rfl⟩
  · go_enter Tryz.func127, Tryz.ntmps127
    go_wp2_with fail
    go_ret
    exact ⟨by rw [HS.out]; simp; omega, rfl⟩
theorem u8_eq (c : UInt8) (n : Nat) (hn : n < 256) : ((c.toNat : Int) = n) ↔ c = UInt8.ofNat n := by
  constructor
  · intro h
    have : c.toNat = n := by omega
    rw [← this]; simp
  · rintro rfl
    have : (UInt8.ofNat n).toNat = n := by simp [UInt8.toNat_ofNat']; omega
    omega
theorem isInPart_any (c : UInt8) (w : World) : Calls Tryz.prog 92 #[.int .u8 c.toNat] w fun e w' => e = .returned (.bool (ip c)) ∧ w' = w := by
  have c1 := fun W => isSmall_any c W
  have c2 := fun W => isDigit_any c W
  have he := u8_eq c 95 (by omega)
  have HS : Hid (ip c = (sm c || dg c || c == 95)) := rfl
  cases h1 : sm c
  · cases h2 : dg c
    · rw [h1] at c1; rw [h2] at c2
      by_cases h3 : (c.toNat : Int) = 95
      · have HE : Hid (ip c = true) := by
          have : c = 95 := he.1 h3
          show _ = _
          rw [HS.out]; simp [this]
        clear HS h1 h2 he
        have hb : ((c.toNat : Int) == 95) = true := by simpa using h3
        clear h3
        go_enter Tryz.func92, Tryz.ntmps92
        go_wp2_with (first | (go_at_call 90; refine (c1 _).mono ?_; rintro e w' ⟨rfl, rfl⟩) | (go_at_call 127; refine (c2 _).mono ?_; rintro e w' ⟨rfl, rfl⟩))
        go_ret
        exact ⟨by rw [HE.out]; rfl, rfl⟩
      · have HE : Hid (ip c = false) := by
          have : ¬ c = 95 := fun h => h3 (he.2 h)
          show _ = _
          rw [HS.out]; simp [this, h1, h2]
        clear HS h1 h2 he
        have hb : ((c.toNat : Int) == 95) = false := by simpa using h3
        clear h3
        go_enter Tryz.func92, Tryz.ntmps92
        go_wp2_with (first | (go_at_call 90; refine (c1 _).mono ?_; rintro e w' ⟨rfl, rfl⟩) | (go_at_call 127; refine (c2 _).mono ?_; rintro e w' ⟨rfl, rfl⟩))
        go_ret
        exact ⟨by rw [HE.out]; rfl, rfl⟩
    · have HE : Hid (ip c = true) := by show _ = _; rw [HS.out]; simp [h2]
      rw [h1] at c1; rw [h2] at c2
      clear HS h1 h2 he
      go_enter Tryz.func92, Tryz.ntmps92
      go_wp2_with (first | (go_at_call 90; refine (c1 _).mono ?_; rintro e w' ⟨rfl, rfl⟩) | (go_at_call 127; refine (c2 _).mono ?_; rintro e w' ⟨rfl, rfl⟩))
      go_ret
      exact ⟨by rw [HE.out]; rfl, rfl⟩
  · have HE : Hid (ip c = true) := by show _ = _; rw [HS.out]; simp [h1]
    rw [h1] at c1
    clear HS h1 he c2
    go_enter Tryz.func92, Tryz.ntmps92
    go_wp2_with (go_at_call 90; refine (c1 _).mono ?_; rintro e w' ⟨rfl, rfl⟩)
    go_ret
    exact ⟨by rw [HE.out]; rfl, rfl⟩
theorem byte_at (s : List UInt8) (k : Nat) (h : k < s.length) : ∃ c, s[k]? = some c ∧ s.drop k = c :: s.drop (k + 1) := ⟨s[k], List.getElem?_eq_getElem h, List.drop_eq_getElem_cons h⟩
theorem str_at (s : List UInt8) (k : Nat) (c : UInt8) (h : s[k]? = some c) : ∀ hh, (ByteArray.mk s.toArray)[k]'hh = c := by
  intro hh
  obtain ⟨hk, e⟩ := List.getElem?_eq_some_iff.1 h
  exact e
/-- run: how many bytes at the beginning are of a kind. -/
theorem run_any (k : Nat) (he : ∀ args w, (callFunc k args).run Tryz.prog w = .ok (.enter k args) w) (p : UInt8 → Bool) (hk : ∀ (c : UInt8) (W : World), Calls Tryz.prog k #[.int .u8 c.toNat] W fun e w' => e = .returned (.bool (p c)) ∧ w' = W) (s : List UInt8) (w : World) (hl : s.length ≤ 140737488355328) :
    Calls Tryz.prog 91 #[sv s, .func (.func k) #[] #[]] w fun e w' => e = .returned (.int .i64 (rn p s)) ∧ w' = w := by
  have HE0 : Hid (∀ args w, (callFunc k args).run Tryz.prog w = .ok (.enter k args) w) := he
  clear he
  go_enter Tryz.func91, Tryz.ntmps91
  go_wp2_with fail
  go_loopw [5] (fun i wr => ∃ n : Nat, i = .int .i64 n ∧ n ≤ s.length ∧ Hid (n + rn p (s.drop n) = rn p s) ∧ wr = w) (fun i _ => (s.length - (intOf i).toNat : Nat))
  case atStart => exact ⟨0, rfl, Nat.zero_le _, by show _ = _; simp, rfl⟩
  case round =>
    obtain ⟨n, rfl, hn, HN, hw⟩ := hrel
    subst hw
    rcases Nat.lt_or_ge n s.length with hlt | hge
    · obtain ⟨c, hc, hcd⟩ := byte_at s n hlt
      have hat := str_at s n c hc
      have hi : (n : Int) < s.length := by omega
      have hkc := hk c
      clear hk hc
      cases hp : p c
      · have HE : Hid ((n : Int) = rn p s) := by
          have := HN.out
          rw [hcd, rn, hp] at this
          show _ = _
          simp at this
          omega
        rw [hp] at hkc
        clear hcd hp HN
        go_wp2_with fail
        rw [HE0.out, Oper.upon_enter]
        refine (hkc _).mono ?_
        rintro e w' ⟨rfl, hw'⟩
        rw [hw']; clear hw' w'
        go_wp2_with fail
        go_ret
        exact ⟨by rw [← HE.out]; rfl, rfl⟩
      · have HE : Hid ((n + 1) + rn p (s.drop (n + 1)) = rn p s) := by
          have := HN.out
          rw [hcd, rn, hp] at this
          show _ = _
          simp at this
          omega
        rw [hp] at hkc
        clear hcd hp HN
        go_wp2_with fail
        rw [HE0.out, Oper.upon_enter]
        refine (hkc _).mono ?_
        rintro e w' ⟨rfl, hw'⟩
        rw [hw']; clear hw' w'
        go_wp2_with fail
        go_roundw
        case rel => exact ⟨n + 1, rfl, by omega, HE.out, trivial⟩
        case measure => simp [intOf]; omega
    · obtain rfl : n = s.length := by omega
      have HE : Hid (rn p s = s.length) := by
        have := HN.out
        rw [List.drop_length] at this
        show _ = _
        simp [rn] at this
        omega
      clear HN hge
      go_wp2_with fail
      go_ret
      exact ⟨by rw [HE.out]; rfl, rfl⟩
theorem runI (s : List UInt8) (w : World) (hl : s.length ≤ 140737488355328) : Calls Tryz.prog 91 #[sv s, .func (.func 92) #[] #[]] w fun e w' => e = .returned (.int .i64 (rn ip s)) ∧ w' = w :=
  run_any _ (enters_of Tryz.func92 (by kernel_rfl) rfl) ip isInPart_any s w hl
/-- partLength. -/
theorem part_any (s : List UInt8) (w : World) (hl : s.length ≤ 140737488355328) :
    Calls Tryz.prog 72 #[sv s] w fun e w' => e = .returned (.int .i64 (pt s)) ∧ w' = w := by
  cases s with
  | nil =>
    go_enter Tryz.func72, Tryz.ntmps72
    go_wp2_with fail
    go_ret
    exact ⟨rfl, rfl⟩
  | cons c t =>
    have c1 := fun W => isSmall_any c W
    have c2 := fun W => runI (c :: t) W hl
    have HP : Hid (pt (c :: t) = if sm c then rn ip (c :: t) else 0) := rfl
    have hat := str_at (c :: t) 0 c rfl
    have hne : (c :: t == []) = false := rfl
    have hne2 : ([] == c :: t) = false := rfl
    have hi : (0 : Int) < (c :: t).length := by simp
    generalize hs : c :: t = s at *
    clear hs
    cases hp : sm c
    · rw [hp] at c1
      have HE : Hid (pt s = 0) := by show _ = _; rw [HP.out, hp]; rfl
      clear HP hp
      go_enter Tryz.func72, Tryz.ntmps72
      go_wp2_with (go_at_call 90; refine (c1 _).mono ?_; rintro e w' ⟨rfl, rfl⟩)
      go_ret
      exact ⟨by rw [HE.out]; rfl, rfl⟩
    · rw [hp] at c1
      have HE : Hid (pt s = rn ip s) := by show _ = _; rw [HP.out, hp]; rfl
      clear HP hp
      go_enter Tryz.func72, Tryz.ntmps72
      go_wp2_with (first | (go_at_call 90; refine (c1 _).mono ?_; rintro e w' ⟨rfl, rfl⟩) | (go_at_call 91; refine (c2 _).mono ?_; rintro e w' ⟨rfl, rfl⟩))
      go_ret
      exact ⟨by rw [HE.out]; rfl, rfl⟩
end Go.Proofs.YtblafbbnplfpjaaGreatDoor
namespace Go.Proofs.YtblafbbnplfpjaaGreatDoor
set_option linter.unusedVariables false
/-- A decimal with as few places as may be. -/
def mkd : Int → Nat → Int × Nat
  | U, 0 => (U, 0)
  | U, P + 1 => if U.tmod 10 = 0 then mkd (U.tdiv 10) P else (U, P + 1)
/-- It may be. -/
def Can (U : Int) (P : Nat) : Prop := P ≤ 9 ∧ (0 < P → U.natAbs % 10 ≠ 0)
theorem tmod_iff (U : Int) : U.tmod 10 = 0 ↔ U.natAbs % 10 = 0 := by rw [← Int.dvd_iff_tmod_eq_zero]; omega
theorem tdiv_ten {U : Int} (h : U.tmod 10 = 0) : U = 10 * U.tdiv 10 := by have := Int.mul_tdiv_add_tmod U 10; omega
theorem mkd_can : ∀ (P : Nat) (U : Int), P ≤ 9 → Can (mkd U P).1 (mkd U P).2
  | 0, U, _ => ⟨by simp [mkd], fun h => by simp [mkd] at h⟩
  | P + 1, U, h => by
    unfold mkd
    by_cases h0 : U.tmod 10 = 0
    · rw [if_pos h0]; exact mkd_can P _ (by omega)
    · rw [if_neg h0]; exact ⟨h, fun _ => by show U.natAbs % 10 ≠ 0; rw [Ne, ← tmod_iff]; exact h0⟩
theorem mkd_bound : ∀ (P : Nat) (U : Int), -9223372036854775808 ≤ U → U ≤ 9223372036854775807 → -9223372036854775808 ≤ (mkd U P).1 ∧ (mkd U P).1 ≤ 9223372036854775807
  | 0, U, h1, h2 => ⟨h1, h2⟩
  | P + 1, U, h1, h2 => by
    unfold mkd
    by_cases h0 : U.tmod 10 = 0
    · have := tdiv_ten h0; rw [if_pos h0]; exact mkd_bound P _ (by omega) (by omega)
    · rw [if_neg h0]; exact ⟨h1, h2⟩
theorem mkd_val : ∀ (P : Nat) (U : Int), Rat.divInt (mkd U P).1 (10 ^ (mkd U P).2) = Rat.divInt U (10 ^ P)
  | 0, U => rfl
  | P + 1, U => by
    unfold mkd
    by_cases h0 : U.tmod 10 = 0
    · rw [if_pos h0, mkd_val P]
      refine (Rat.divInt_eq_divInt_iff (ten_ne _) (ten_ne _)).2 ?_
      have e := tdiv_ten h0
      rw [Int.pow_succ]
      generalize U.tdiv 10 = q at e
      rw [e]
      grind
    · rw [if_neg h0]
end Go.Proofs.YtblafbbnplfpjaaGreatDoor
namespace Go.Proofs.YtblafbbnplfpjaaGreatDoor
open Go.RowKit Go.Shelf
set_option linter.unusedVariables false

theorem isPlaces_yes (P : Int) (h0 : 0 ≤ P) (h9 : P ≤ 9) (w : World) : Calls Tryz.prog 79 #[.int .i64 P] w fun e w' => e = .returned (.bool true) ∧ w' = w := by
  go_enter Tryz.func79, Tryz.ntmps79
  go_wp2_with fail
  go_ret
  exact ⟨rfl, rfl⟩
theorem isPlaces_no (P : Int) (h : ¬ (0 ≤ P ∧ P ≤ 9)) (w : World) : Calls Tryz.prog 79 #[.int .i64 P] w fun e w' => e = .returned (.bool false) ∧ w' = w := by
  by_cases h0 : 0 ≤ P
  · have h9 : ¬ P ≤ 9 := fun h9 => h ⟨h0, h9⟩
    go_enter Tryz.func79, Tryz.ntmps79
    go_wp2_with fail
    go_ret
    exact ⟨rfl, rfl⟩
  · go_enter Tryz.func79, Tryz.ntmps79
    go_wp2_with fail
    go_ret
    exact ⟨rfl, rfl⟩
/-- A decimal that may be, its places being any int. -/
def CanI (U P : Int) : Prop := 0 ≤ P ∧ P ≤ 9 ∧ (0 < P → U.tmod 10 ≠ 0)
theorem canI_iff (U : Int) (P : Nat) : CanI U P ↔ Can U P := by
  unfold CanI Can
  constructor
  · rintro ⟨h1, h2, h3⟩
    exact ⟨by omega, fun h => by have := h3 (by omega); rwa [Ne, tmod_iff] at this⟩
  · rintro ⟨h1, h2⟩
    exact ⟨by omega, by omega, fun h => by rw [Ne, tmod_iff]; exact h2 (by omega)⟩
set_option maxHeartbeats 1000000 in
theorem check_ok (U P : Int) (h : CanI U P) (w : World) : Calls Tryz.prog 74 #[.agg #[.int .i64 U, .int .i64 P]] w fun e w' => e = .returned (.int .i64 0) ∧ Below w.heap.size w w' := by
  obtain ⟨h0, h9, h3⟩ := h
  by_cases hp : 0 < P
  · obtain ⟨m, hm⟩ : ∃ m, U.tmod 10 = m := ⟨_, rfl⟩
    have hm0 : (m == 0) = false := by have := h3 hp; rw [hm] at this; simpa using this
    go_enter Tryz.func74, Tryz.ntmps74
    go_wp2_with (go_at_call 79; refine (isPlaces_yes P h0 h9 _).mono ?_; rintro e w' ⟨rfl, rfl⟩)
    go_ret
    exact ⟨rfl, (Below.refl _ _).alloc (Nat.le_refl _) _⟩
  · go_enter Tryz.func74, Tryz.ntmps74
    go_wp2_with (go_at_call 79; refine (isPlaces_yes P h0 h9 _).mono ?_; rintro e w' ⟨rfl, rfl⟩)
    go_ret
    exact ⟨rfl, (Below.refl _ _).alloc (Nat.le_refl _) _⟩
set_option maxHeartbeats 1000000 in
theorem check_no (U P : Int) (h : ¬ CanI U P) (w : World) : Calls Tryz.prog 74 #[.agg #[.int .i64 U, .int .i64 P]] w fun e w' => e = .returned (.int .i64 60) ∧ Below w.heap.size w w' := by
  by_cases h1 : 0 ≤ P ∧ P ≤ 9
  · have hp : 0 < P := by
      rcases Int.lt_or_le 0 P with h' | h'
      · exact h'
      · exact absurd ⟨h1.1, h1.2, fun hh => by omega⟩ h
    have hm : U.tmod 10 = 0 := by
      rcases Decidable.em (U.tmod 10 = 0) with h' | h'
      · exact h'
      · exact absurd ⟨h1.1, h1.2, fun _ => h'⟩ h
    go_enter Tryz.func74, Tryz.ntmps74
    go_wp2_with (go_at_call 79; refine (isPlaces_yes P h1.1 h1.2 _).mono ?_; rintro e w' ⟨rfl, rfl⟩)
    go_ret
    exact ⟨rfl, (Below.refl _ _).alloc (Nat.le_refl _) _⟩
  · go_enter Tryz.func74, Tryz.ntmps74
    go_wp2_with (go_at_call 79; refine (isPlaces_no P h1 _).mono ?_; rintro e w' ⟨rfl, rfl⟩)
    go_ret
    exact ⟨rfl, (Below.refl _ _).alloc (Nat.le_refl _) _⟩
theorem results_dt {fn : Func} {i j b : Nat} {v u : Value} {tmps : Array Value} {w : World} (h : fn.results = #[.cell i 46, .tmp j]) (hi : tmps.getD i undef = .pointer (some ⟨b, 0, none⟩)) (hv : Va w b 46 #[v, u]) :
    (results fn tmps).run Tryz.prog w = .ok (.tuple #[.agg #[v, u], tmps.getD j undef]) w := by
  have c := hv.c0; have d := hv.c1
  rw [Array.getD_eq_getD_getElem?] at hi
  simp [results, h, hi, c, d, go_sem]
set_option maxHeartbeats 2000000 in
theorem make_ok (U : Int) (P : Nat) (hP : P ≤ 9) (h1 : -9223372036854775808 ≤ U) (h2 : U ≤ 9223372036854775807) (w : World) :
    Calls Tryz.prog 56 #[.int .i64 U, .int .i64 P] w fun e w' => e = .returned (.tuple #[.agg #[.int .i64 (mkd U P).1, .int .i64 (mkd U P).2], .int .i64 0]) ∧ Below w.heap.size w w' := by
  go_enter Tryz.func56, Tryz.ntmps56
  go_wp2_with (go_at_call 79; refine (isPlaces_yes P (by omega) (by omega) _).mono ?_; rintro e w' ⟨rfl, rfl⟩)
  go_loop [0, 1] (fun x p => ∃ (V : Int) (q : Nat), x = .int .i64 V ∧ p = .int .i64 q ∧ q ≤ 9 ∧ -9223372036854775808 ≤ V ∧ V ≤ 9223372036854775807 ∧ Hid (mkd V q = mkd U P)) (fun _ p => (intOf p).toNat)
  case atStart => exact ⟨U, P, rfl, rfl, hP, h1, h2, rfl⟩
  case round =>
    obtain ⟨V, q, rfl, rfl, hq, hV1, hV2, HM⟩ := hrel
    have FIN : Hid (mkd V q = (V, q) → (mkd U P).1 = V ∧ (mkd U P).2 = q) := fun e => ⟨by rw [← HM.out, e], by rw [← HM.out, e]⟩
    cases q with
    | zero =>
      have hq0 : ¬ (0 : Int) < ((0 : Nat) : Int) := by omega
      go_wp2_with fail
      refine bodyPost_ret (results_dt rfl rfl (Va.new w _ _)) rfl ?_
      obtain ⟨g2, g3⟩ := FIN.out rfl
      rw [g2, g3]
      exact ⟨rfl, (Below.refl _ _).alloc (Nat.le_refl _) _⟩
    | succ p =>
      have hq0 : (0 : Int) < ((p + 1 : Nat) : Int) := by omega
      by_cases hm : V.tmod 10 = 0
      · have hb := tdiv_ten hm
        obtain ⟨Y, hY⟩ : ∃ Y, V.tdiv 10 = Y := ⟨_, rfl⟩
        have HE : Hid (mkd Y p = mkd U P) := by
          have h' := HM.out
          have e : mkd V (p + 1) = if V.tmod 10 = 0 then mkd (V.tdiv 10) p else (V, p + 1) := rfl
          rw [e, if_pos hm, hY] at h'
          exact h'
        rw [hY] at hb
        have y1 : -9223372036854775808 ≤ Y := by omega
        have y2 : Y ≤ 9223372036854775807 := by omega
        have eY : IntKind.i64.wrap Y = Y := by rw [IntKind.wrap_i64]; omega
        clear hb FIN
        go_wp2_with fail
        go_round
        case rel => exact ⟨Y, p, rfl, by go_num, by omega, y1, y2, HE⟩
        case measure => simp [intOf]
      · obtain ⟨m, hm'⟩ : ∃ m, V.tmod 10 = m := ⟨_, rfl⟩
        have hm0 : (m == 0) = false := by rw [hm'] at hm; simpa using hm
        have HN : Hid (mkd V (p + 1) = (V, p + 1)) := by show mkd V (p + 1) = _; unfold mkd; rw [if_neg hm]
        clear hm
        go_wp2_with fail
        refine bodyPost_ret (results_dt rfl rfl (Va.new w _ _)) rfl ?_
        obtain ⟨g2, g3⟩ := FIN.out HN.out
        rw [g2, g3]
        exact ⟨rfl, (Below.refl _ _).alloc (Nat.le_refl _) _⟩
end Go.Proofs.YtblafbbnplfpjaaGreatDoor
