/-
  Lists in memory of elements of whatever kind: such that are read, such that grow in memory of the call's own.
-/
import Derived.Test.YtblafbbnplfpjaaGreatDoorTuV
namespace Go.Proofs.YtblafbbnplfpjaaGreatDoor
open Go.RowKit Go.Shelf
set_option linter.unusedVariables false

/-- How an element lies in memory, and the program's types of it and of its lists. -/
structure El (α : Type) where
  enc : α → List Value
  dft : α
  te : TypeId
  tl : TypeId
  z : Value
  s : Nat
  by8 : Nat
  len : ∀ x, (enc x).length = s
  one : ∀ x, ∀ v ∈ enc x, v.oneCell' = true
  pos : 0 < s
  und : Tryz.prog.underlying tl = some (.slice te)
  inf : (Tryz.prog.info? te).map (fun i => (i.zero, i.size, i.bytes)) = some (some z, s, by8)
  zs : z.cells.size = s
  bt : by8 ≤ 112
variable {α : Type} (E : El α)
def rowE (xs : List α) : List Value := xs.flatMap E.enc
theorem rowE_cons (x : α) (xs : List α) : rowE E (x :: xs) = E.enc x ++ rowE E xs := rfl
theorem rowE_length (xs : List α) : (rowE E xs).length = xs.length * E.s := by
  induction xs with
  | nil => simp [rowE]
  | cons x xs ih => rw [rowE_cons, List.length_append, E.len, ih, List.length_cons, Nat.add_mul]; omega
theorem rowE_append (a b : List α) : rowE E (a ++ b) = rowE E a ++ rowE E b := by simp [rowE]
theorem rowE_one (xs : List α) : ∀ v ∈ rowE E xs, v.oneCell' = true := by
  intro v hv
  simp only [rowE, List.mem_flatMap] at hv
  obtain ⟨x, -, hx⟩ := hv
  exact E.one x v hx
theorem rowE_get (j : Nat) (hj : j < E.s) : ∀ (xs : List α) (i : Nat), i < xs.length → (rowE E xs)[i * E.s + j]? = (E.enc (xs.getD i E.dft))[j]?
  | [], i, h => by simp at h
  | x :: xs, 0, _ => by
    rw [rowE_cons, Nat.zero_mul, Nat.zero_add, List.getElem?_append_left (by rw [E.len]; exact hj)]; rfl
  | x :: xs, i + 1, h => by
    have := rowE_get j hj xs i (by simpa using h)
    rw [rowE_cons, List.getElem?_append_right (by rw [E.len, Nat.add_mul]; omega), E.len, show (i + 1) * E.s + j - E.s = i * E.s + j by rw [Nat.add_mul]; omega, this]
    simp
/-- A list that can be read: of an empty one nothing is known but that. -/
def Le (w : World) (a : Option Addr) (len : Nat) (xs : List α) : Prop :=
  xs.length = len ∧ (0 < len → ∃ b off, a = some ⟨b, off, none⟩ ∧ ∀ i u, (rowE E xs)[i]? = some u → w.cell? ⟨b, off + i, none⟩ = some u)
variable {E}
theorem Le.nil (w : World) (a : Option Addr) : Le E w a 0 [] := ⟨rfl, fun h => absurd h (Nat.lt_irrefl _)⟩
theorem Le.at {w : World} {b off len : Nat} {xs : List α} (h : Le E w (some ⟨b, off, none⟩) len xs) (i : Nat) (hi : i < len) (j : Nat) (u : Value) (hj : (E.enc (xs.getD i E.dft))[j]? = some u) : w.cell? ⟨b, off + (i * E.s + j), none⟩ = some u := by
  obtain ⟨b', off', e, hc⟩ := h.2 (by omega)
  cases e
  refine hc _ u ?_
  have hl := h.1
  have hj' : j < E.s := by
    rcases Nat.lt_or_ge j E.s with h' | h'
    · exact h'
    · rw [List.getElem?_eq_none (by rw [E.len]; exact h')] at hj; cases hj
  rw [rowE_get E j hj' xs i (by omega), hj]
theorem Le.ex {w : World} {a : Option Addr} {len : Nat} {xs : List α} (h : Le E w a len xs) (h0 : 0 < len) : ∃ b off, a = some ⟨b, off, none⟩ := by
  obtain ⟨b, off, e, -⟩ := h.2 h0
  exact ⟨b, off, e⟩
theorem Le.lt {w : World} {b off len : Nat} {xs : List α} (h : Le E w (some ⟨b, off, none⟩) len xs) (h0 : 0 < len) : b < w.heap.size := by
  obtain ⟨b', off', e, hc⟩ := h.2 h0
  cases e
  have hl := rowE_length E xs
  have h1 := h.1
  have hp := E.pos
  have : 0 < (rowE E xs).length := by rw [hl, h1]; exact Nat.mul_pos h0 hp
  exact cell_lt (hc 0 _ (List.getElem?_eq_getElem this))
/-- The same list in another world, where its block is as it was. -/
theorem Le.kept {w w' : World} {a : Option Addr} {len : Nat} {xs : List α} (h : Le E w a len xs) (hk : 0 < len → ∀ b off, a = some ⟨b, off, none⟩ → b < w.heap.size → w'.heap[b]? = w.heap[b]?) : Le E w' a len xs := by
  refine ⟨h.1, fun h0 => ?_⟩
  obtain ⟨b, off, e, hc⟩ := h.2 h0
  refine ⟨b, off, e, fun i u hu => ?_⟩
  have c := hc i u hu
  have hb := hk h0 b off e (by subst e; exact h.lt h0)
  simp only [World.cell?] at c ⊢
  rw [hb]; exact c
theorem Le.after {w w' : World} {a : Option Addr} {len : Nat} {xs : List α} (hb : Below w.heap.size w w') (h : Le E w a len xs) : Le E w' a len xs := h.kept (fun _ b _ _ hlt => hb.block b hlt)
theorem Le.grown {w w' : World} {g : Nat} {a : Option Addr} {len : Nat} {xs : List α} (h : Le E w a len xs) (hg : w.grownBy w' (.some g)) (hne : 0 < len → ∀ b off, a = some ⟨b, off, none⟩ → b ≠ g) : Le E w' a len xs :=
  h.kept (fun h0 b off e hlt => hg.block b hlt (fun x => hne h0 b off e (by cases x; rfl)))
theorem Le.tail {w : World} {b off len : Nat} {x : α} {xs : List α} (h : Le E w (.some ⟨b, off, none⟩) (len + 1) (x :: xs)) : Le E w (.some ⟨b, off + E.s, none⟩) len xs := by
  refine ⟨by have := h.1; simpa using this, fun h0 => ⟨b, off + E.s, rfl, fun i u hu => ?_⟩⟩
  obtain ⟨b', off', e, hc⟩ := h.2 (by omega)
  cases e
  have := hc (E.s + i) u (by rw [rowE_cons, List.getElem?_append_right (by rw [E.len]; omega), E.len, show E.s + i - E.s = i by omega]; exact hu)
  rw [← this, Nat.add_assoc]
variable (E)
/-- A list that grows in memory of the call's own. -/
def Ge (w : World) (B : Nat) (v : Value) (xs : List α) : Prop := w.ownsRow B E.te E.s v xs.length (rowE E xs)
variable {E}
theorem Ge.nil (w : World) (B : Nat) : Ge E w B (.slice none 0 0) [] := ⟨by simp [rowE], .inl ⟨rfl, rfl⟩⟩
theorem Ge.block {w : World} {B : Nat} {v : Value} {xs : List α} (h : Ge E w B v xs) : ∀ k, v.ownBlock = some k → B ≤ k := fun k hk => (World.ownsRow.lt h k hk).1
theorem Ge.lt {w : World} {B : Nat} {v : Value} {xs : List α} (h : Ge E w B v xs) : ∀ k, v.ownBlock = some k → k < w.heap.size := fun k hk => (World.ownsRow.lt h k hk).2
theorem Ge.le {w : World} {B B' : Nat} {v : Value} {xs : List α} (h : Ge E w B v xs) (hb : B' ≤ B) : Ge E w B' v xs := ⟨h.1, by
  rcases h.2 with h | ⟨g, cap, cur, e, hB, r⟩
  · exact .inl h
  · exact .inr ⟨g, cap, cur, e, Nat.le_trans hb hB, r⟩⟩
theorem Ge.shape {w : World} {B : Nat} {v : Value} {xs : List α} (h : Ge E w B v xs) : ∃ a cap, v = .slice a xs.length cap ∧ xs.length ≤ cap ∧ cap ≤ maxLen ∧ ((a = none ∧ xs = [] ∧ cap = 0) ∨ ∃ g, a = some ⟨g, 0, none⟩) := by
  obtain ⟨h1, h2 | ⟨g, cap, cur, rfl, hB, hh, hc, hm, hs, ht⟩⟩ := h
  · obtain ⟨rfl, h0⟩ := h2
    exact ⟨none, 0, by rw [h0], by omega, Nat.zero_le _, .inl ⟨rfl, List.length_eq_zero_iff.1 h0, rfl⟩⟩
  · exact ⟨_, cap, rfl, hc, hm, .inr ⟨g, rfl⟩⟩
theorem Ge.toLe {w : World} {B : Nat} {a : Option Addr} {n cap : Nat} {xs : List α} (h : Ge E w B (.slice a n cap) xs) : Le E w a n xs := by
  obtain ⟨a', cap', e, -, -, -⟩ := h.shape
  cases e
  refine ⟨rfl, fun h0 => ?_⟩
  obtain ⟨h1, h2 | ⟨g, cap', cur, e, hB, hh, hc, hm, hs, ht⟩⟩ := h
  · obtain ⟨-, h3⟩ := h2; rw [h3] at h0; exact absurd h0 (Nat.lt_irrefl _)
  · cases e
    refine ⟨g, 0, rfl, fun i u hu => ?_⟩
    have hi : i < xs.length * E.s := by
      rcases Nat.lt_or_ge i (rowE E xs).length with h' | h'
      · rwa [rowE_length] at h'
      · rw [List.getElem?_eq_none h'] at hu; cases hu
    rw [← ht, List.getElem?_take_of_lt hi] at hu
    simp only [World.cell?, hh, Nat.zero_add]
    simpa using hu
theorem Ge.frozen {w : World} {B g n cap : Nat} {xs : List α} (h : Ge E w B (.slice (.some ⟨g, 0, none⟩) n cap) xs) (i : Nat) : w.frozen? ⟨g, i, none⟩ = false := by
  obtain ⟨h1, h2 | ⟨g', cap', cur, e, hB, hh, hc, hm, hs, ht⟩⟩ := h
  · cases h2.1
  · cases e; simp [World.frozen?, hh]
theorem Ge.kept {w w' : World} {B : Nat} {v : Value} {xs : List α} (h : Ge E w B v xs) (hk : ∀ k, v.ownBlock = some k → w'.heap[k]? = w.heap[k]?) : Ge E w' B v xs := by
  obtain ⟨h1, h2 | ⟨g, cap, cur, e, hB, hh, r⟩⟩ := h
  · exact ⟨h1, .inl h2⟩
  · exact ⟨h1, .inr ⟨g, cap, cur, e, hB, by rw [hk g (by rw [e]; rfl)]; exact hh, r⟩⟩
theorem Ge.after {w w' : World} {B : Nat} {v : Value} {xs : List α} (hb : Below w.heap.size w w') (h : Ge E w B v xs) : Ge E w' B v xs := h.kept (fun k hk => hb.block k (h.lt k hk))
theorem Ge.grown {w w' : World} {B g : Nat} {v : Value} {xs : List α} (h : Ge E w B v xs) (hg : w.grownBy w' (some g)) (hne : v.ownBlock ≠ some g) : Ge E w' B v xs := h.kept (fun k hk => hg.block k (h.lt k hk) (fun e => hne (by rw [hk]; exact e)))
theorem Ge.al {w : World} {B : Nat} {v : Value} {xs : List α} (h : Ge E w B v xs) (o : Obj) : Ge E (w.alloc o) B v xs := h.after ((Below.refl _ _).alloc (Nat.le_refl _) _)
theorem Ge.far {w : World} {B : Nat} {v : Value} {xs : List α} (h : Ge E w B v xs) {p : Addr} (hp : v.ownBlock ≠ some p.block) (u : Value) : Ge E (w.setCell p u) B v xs := h.kept (fun k hk => heap_setCell_other w p k u (fun e => hp (by rw [hk, e])))
theorem rowE_set (j : Nat) (hj : j < E.s) (u : Value) (x' : α) : ∀ (xs : List α) (i : Nat), i < xs.length → E.enc x' = (E.enc (xs.getD i E.dft)).set j u → (rowE E xs).set (i * E.s + j) u = rowE E (xs.set i x')
  | [], i, h, _ => by simp at h
  | x :: xs, 0, _, he => by
    rw [rowE_cons, Nat.zero_mul, Nat.zero_add, List.set_append_left _ _ (by rw [E.len]; exact hj)]
    simp only [List.set_cons_zero, rowE_cons, he]; rfl
  | x :: xs, i + 1, h, he => by
    have := rowE_set j hj u x' xs i (by simpa using h) (by simpa using he)
    rw [rowE_cons, List.set_append_right _ _ (by rw [E.len, Nat.add_mul]; omega), E.len, show (i + 1) * E.s + j - E.s = i * E.s + j by rw [Nat.add_mul]; omega, this]
    simp [rowE_cons]
/-- A cell of an element is put anew. -/
theorem Ge.put {w : World} {B g n cap : Nat} {xs : List α} (h : Ge E w B (.slice (.some ⟨g, 0, none⟩) n cap) xs) (i : Nat) (hi : i < xs.length) (j : Nat) (hj : j < E.s) (u : Value) (x' : α) (he : E.enc x' = (E.enc (xs.getD i E.dft)).set j u) :
    Ge E (w.setCell ⟨g, i * E.s + j, none⟩ u) B (.slice (.some ⟨g, 0, none⟩) n cap) (xs.set i x') := by
  obtain ⟨a', cap', e, -, -, -⟩ := h.shape
  cases e
  have := (World.ownsRow.stored (w := w) h (i * E.s + j) u).1
  rw [rowE_set j hj u x' xs i hi he] at this
  show World.ownsRow _ _ _ _ _ _ _
  rw [List.length_set]
  exact this
theorem Le.news {w : World} {b off m : Nat} {ys : List α} (h : Le E w (.some ⟨b, off, none⟩) m ys) : ∀ j u, (rowE E ys)[j]? = some u → w.cell? ((⟨b, off, none⟩ : Addr).add j) = some u := by
  intro j u hj
  have h0 : 0 < m := by
    rw [← h.1]
    rcases ys with _ | ⟨y, ys⟩
    · simp [rowE] at hj
    · simp
  obtain ⟨b', off', e, hc⟩ := h.2 h0
  cases e
  rw [Addr.add_lit]
  exact hc j u hj
/-- append of a list that can be read: all blocks but the list's own stay; the new list lies where the old one lay, or in a new block. -/
theorem run_appE (w : World) (ty : TypeId) (B : Nat) (v : Value) (xs : List α) (hg : Ge E w B v xs) (b off m c : Nat) (ys : List α) (hy : Le E w (.some ⟨b, off, none⟩) m ys) (hb : xs.length + m ≤ 1000000000000) (hB : B ≤ w.heap.size) :
    ∃ v' w', (Builtin.append_ #[E.tl, E.tl] ty #[v, .slice (.some ⟨b, off, none⟩) m c]).run Tryz.prog w = .ok v' w' ∧ Ge E w' B v' (xs ++ ys) ∧ w.grownBy w' v.ownBlock ∧ (v'.ownBlock = v.ownBlock ∨ v'.ownBlock = some w.heap.size) := by
  obtain ⟨i0, hi, hz0, hz1, hz2⟩ := info_parts E.inf
  have hbt := E.bt
  obtain ⟨v', w', hr, k2, k3, -, k5⟩ := run_append_own_at (P := Tryz.prog) (w := w) B E.tl ty E.te i0 E.z E.s E.by8 E.und hi hz0 hz1 hz2 E.zs E.pos v xs.length (rowE E xs) hg ⟨b, off, none⟩ m c (rowE E ys) (by rw [rowE_length, hy.1]) hy.news (rowE_one E _) (by unfold maxLen; omega) (by
      have : (xs.length + m) * E.by8 ≤ 1000000000000 * 112 := Nat.mul_le_mul hb hbt
      omega) hB
  refine ⟨v', w', hr, ?_, k3, k5⟩
  show World.ownsRow _ _ _ _ _ _ _
  rw [List.length_append, rowE_append, hy.1]
  exact k2
theorem wpList_appE {ops : Array Oper} {rest : List Oper} {o : Oper} {a : Act} {w : World} {Q : Exit → Act → World → Prop} (hgd : o.guard = none) (s x : Operand) (t : TypeId)
    (ho : o.op = .call { callee := .builtin .append, args := #[s, x], argTypes := #[t, t] }) (E : El α) (ht : t = E.tl)
    (B : Nat) (v : Value) (xs : List α) (hs : a.eval s = v) (hg : Ge E w B v xs) (b off m c : Nat) (ys : List α) (hx : a.eval x = .slice (.some ⟨b, off, none⟩) m c) (hy : Le E w (.some ⟨b, off, none⟩) m ys)
    (hb : xs.length + m ≤ 1000000000000) (hB : B ≤ w.heap.size)
    (h : ∀ v' w', Ge E w' B v' (xs ++ ys) → w.grownBy w' v.ownBlock → (v'.ownBlock = v.ownBlock ∨ v'.ownBlock = some w.heap.size) → wpList Tryz.prog ops Q rest (a.put o.dst v') w') : wpList Tryz.prog ops Q (o :: rest) a w := by
  subst ht
  refine wpList_plain hgd fun K hK => ?_
  obtain ⟨v', w', hr, k2, k3, k5⟩ := run_appE w o.type B v xs hg b off m c ys hy hb hB
  unfold Oper.wp execOp
  simp only [ho, resolve, invoke, builtin, Sem.run_bind, Sem.run_pure, Result.andThen_ok, List.map_toArray, List.map_cons, List.map_nil, hs, hx, hr]
  exact hK _ _ (h v' w' k2 k3 k5)
/-- One element in a block of its own, as a list. -/
theorem Le.one {w : World} {b : Nat} {t : TypeId} {x : α} {cs : Array Value} (h : Va w b t cs) (hc : cs.toList = E.enc x) : Le E w (.some ⟨b, 0, none⟩) 1 [x] := by
  refine ⟨rfl, fun _ => ⟨b, 0, rfl, fun i u hu => ?_⟩⟩
  rw [Nat.zero_add, h.cellAt i, ← Array.getElem?_toList, hc]
  simpa [rowE] using hu
/-- Elements in a block of their own, as a list that grows. -/
theorem Ge.of {w : World} {B b n : Nat} {cs : Array Value} {xs : List α} (h : Va w b E.te cs) (hB : B ≤ b) (hl : xs.length = n) (hc : cs.toList = rowE E xs) (hm : n ≤ maxLen) : Ge E w B (.slice (.some ⟨b, 0, none⟩) n n) xs := by
  subst hl
  refine ⟨rowE_length E xs, .inr ⟨b, xs.length, cs, rfl, hB, h, Nat.le_refl _, hm, ?_, ?_⟩⟩
  · rw [← Array.length_toList, hc, rowE_length]
  · rw [hc, List.take_of_length_le (by rw [rowE_length]; exact Nat.le_refl _)]
theorem appE_below {w1 W w2 wr : World} {B : Nat} {v : Value} {xs : List α} (h : W.grownBy w2 v.ownBlock) (hg : Ge E wr B v xs) (hle : B ≤ W.heap.size) (hb : RowKit.Below B w1 W) : RowKit.Below B w1 w2 := hb.trans ((RowKit.Below.refl B W).grown h hle hg.block)
end Go.Proofs.YtblafbbnplfpjaaGreatDoor
