import Derived.Test.YtngichjgfppnpaaGreatDoorMgAe
import Derived.Deep.AppendLies
import Derived.Laws.OwnMore
import Derived.Laws.MakeOwn
import Derived.Maps.AppendAt
import Derived.Maps.OwnIn
import Derived.Lib.SmallJoins
import Derived.Test.YtngichjgfppnpaaGreatDoorMgAd
import Derived.Test.YtngichjgfppnpaaGreatDoorBsH
import Derived.Deep.RegionWith
namespace Go.Proofs.YtngichjgfppnpaaGreatDoor
open Go.RowKit Go.Shelf
set_option linter.unusedVariables false

theorem cell_lt {w : World} {b i : Nat} {v : Value} (h : w.cell? ⟨b, i, none⟩ = some v) : b < w.heap.size := by
  rcases Nat.lt_or_ge b w.heap.size with h' | h'
  · exact h'
  · simp [World.cell?, Array.getElem?_eq_none h'] at h
structure El (α : Type) where
  enc : α → List Value
  dft : α
  te : TypeId
  tl : TypeId
  z : Value
  s : Nat
  by8 : Nat
  len : ∀ x, (enc x).length = s
  one : ∀ x, ∀ v ∈ enc x, v.oneCell' = true
  pos : 0 < s
  und : Tryz.prog.underlying tl = some (.slice te)
  inf : (Tryz.prog.info? te).map (fun i => (i.zero, i.size, i.bytes)) = some (some z, s, by8)
  zs : z.cells.size = s
  bt : by8 ≤ 112
variable {α : Type} (E : El α)
def rowE (xs : List α) : List Value := xs.flatMap E.enc
theorem rowE_cons (x : α) (xs : List α) : rowE E (x :: xs) = E.enc x ++ rowE E xs := rfl
theorem rowE_length (xs : List α) : (rowE E xs).length = xs.length * E.s := by
  induction xs with
  | nil => simp [rowE]
  | cons x xs ih => rw [rowE_cons, List.length_append, E.len, ih, List.length_cons, Nat.add_mul]; omega
theorem rowE_append (a b : List α) : rowE E (a ++ b) = rowE E a ++ rowE E b := by simp [rowE]
theorem rowE_one (xs : List α) : ∀ v ∈ rowE E xs, v.oneCell' = true := by
  intro v hv
  simp only [rowE, List.mem_flatMap] at hv
  obtain ⟨x, -, hx⟩ := hv
  exact E.one x v hx
theorem rowE_get (j : Nat) (hj : j < E.s) : ∀ (xs : List α) (i : Nat), i < xs.length → (rowE E xs)[i * E.s + j]? = (E.enc (xs.getD i E.dft))[j]?
  | [], i, h => by simp at h
  | x :: xs, 0, _ => by
    rw [rowE_cons, Nat.zero_mul, Nat.zero_add, List.getElem?_append_left (by rw [E.len]; exact hj)]; rfl
  | x :: xs, i + 1, h => by
    have := rowE_get j hj xs i (by simpa using h)
    rw [rowE_cons, List.getElem?_append_right (by rw [E.len, Nat.add_mul]; omega), E.len, show (i + 1) * E.s + j - E.s = i * E.s + j by rw [Nat.add_mul]; omega, this]
    simp
def Le (w : World) (a : Option Addr) (len : Nat) (xs : List α) : Prop :=
  xs.length = len ∧ (0 < len → ∃ b off, a = some ⟨b, off, none⟩ ∧ ∀ i u, (rowE E xs)[i]? = some u → w.cell? ⟨b, off + i, none⟩ = some u)
variable {E}
theorem Le.nil (w : World) (a : Option Addr) : Le E w a 0 [] := ⟨rfl, fun h => absurd h (Nat.lt_irrefl _)⟩
theorem Le.at {w : World} {b off len : Nat} {xs : List α} (h : Le E w (some ⟨b, off, none⟩) len xs) (i : Nat) (hi : i < len) (j : Nat) (u : Value) (hj : (E.enc (xs.getD i E.dft))[j]? = some u) : w.cell? ⟨b, off + (i * E.s + j), none⟩ = some u := by
  obtain ⟨b', off', e, hc⟩ := h.2 (by omega)
  cases e
  refine hc _ u ?_
  have hl := h.1
  have hj' : j < E.s := by
    rcases Nat.lt_or_ge j E.s with h' | h'
    · exact h'
    · rw [List.getElem?_eq_none (by rw [E.len]; exact h')] at hj; cases hj
  rw [rowE_get E j hj' xs i (by omega), hj]
theorem Le.ex {w : World} {a : Option Addr} {len : Nat} {xs : List α} (h : Le E w a len xs) (h0 : 0 < len) : ∃ b off, a = some ⟨b, off, none⟩ := by
  obtain ⟨b, off, e, -⟩ := h.2 h0
  exact ⟨b, off, e⟩
theorem Le.lt {w : World} {b off len : Nat} {xs : List α} (h : Le E w (some ⟨b, off, none⟩) len xs) (h0 : 0 < len) : b < w.heap.size := by
  obtain ⟨b', off', e, hc⟩ := h.2 h0
  cases e
  have hl := rowE_length E xs
  have h1 := h.1
  have hp := E.pos
  have : 0 < (rowE E xs).length := by rw [hl, h1]; exact Nat.mul_pos h0 hp
  exact cell_lt (hc 0 _ (List.getElem?_eq_getElem this))
theorem Le.kept {w w' : World} {a : Option Addr} {len : Nat} {xs : List α} (h : Le E w a len xs) (hk : 0 < len → ∀ b off, a = some ⟨b, off, none⟩ → b < w.heap.size → w'.heap[b]? = w.heap[b]?) : Le E w' a len xs := by
  refine ⟨h.1, fun h0 => ?_⟩
  obtain ⟨b, off, e, hc⟩ := h.2 h0
  refine ⟨b, off, e, fun i u hu => ?_⟩
  have c := hc i u hu
  have hb := hk h0 b off e (by subst e; exact h.lt h0)
  simp only [World.cell?] at c ⊢
  rw [hb]; exact c
theorem Le.after {w w' : World} {a : Option Addr} {len : Nat} {xs : List α} (hb : Below w.heap.size w w') (h : Le E w a len xs) : Le E w' a len xs := h.kept (fun _ b _ _ hlt => hb.block b hlt)
theorem Le.grown {w w' : World} {g : Nat} {a : Option Addr} {len : Nat} {xs : List α} (h : Le E w a len xs) (hg : w.grownBy w' (.some g)) (hne : 0 < len → ∀ b off, a = some ⟨b, off, none⟩ → b ≠ g) : Le E w' a len xs :=
  h.kept (fun h0 b off e hlt => hg.block b hlt (fun x => hne h0 b off e (by cases x; rfl)))
theorem Le.tail {w : World} {b off len : Nat} {x : α} {xs : List α} (h : Le E w (.some ⟨b, off, none⟩) (len + 1) (x :: xs)) : Le E w (.some ⟨b, off + E.s, none⟩) len xs := by
  refine ⟨by have := h.1; simpa using this, fun h0 => ⟨b, off + E.s, rfl, fun i u hu => ?_⟩⟩
  obtain ⟨b', off', e, hc⟩ := h.2 (by omega)
  cases e
  have := hc (E.s + i) u (by rw [rowE_cons, List.getElem?_append_right (by rw [E.len]; omega), E.len, show E.s + i - E.s = i by omega]; exact hu)
  rw [← this, Nat.add_assoc]
variable (E)
def Ge (w : World) (B : Nat) (v : Value) (xs : List α) : Prop := w.ownsRow B E.te E.s v xs.length (rowE E xs)
variable {E}
theorem Ge.nil (w : World) (B : Nat) : Ge E w B (.slice none 0 0) [] := ⟨by simp [rowE], .inl ⟨rfl, rfl⟩⟩
theorem Ge.block {w : World} {B : Nat} {v : Value} {xs : List α} (h : Ge E w B v xs) : ∀ k, v.ownBlock = some k → B ≤ k := fun k hk => (World.ownsRow.lt h k hk).1
theorem Ge.lt {w : World} {B : Nat} {v : Value} {xs : List α} (h : Ge E w B v xs) : ∀ k, v.ownBlock = some k → k < w.heap.size := fun k hk => (World.ownsRow.lt h k hk).2
theorem Ge.le {w : World} {B B' : Nat} {v : Value} {xs : List α} (h : Ge E w B v xs) (hb : B' ≤ B) : Ge E w B' v xs := ⟨h.1, by
  rcases h.2 with h | ⟨g, cap, cur, e, hB, r⟩
  · exact .inl h
  · exact .inr ⟨g, cap, cur, e, Nat.le_trans hb hB, r⟩⟩
theorem Ge.shape {w : World} {B : Nat} {v : Value} {xs : List α} (h : Ge E w B v xs) : ∃ a cap, v = .slice a xs.length cap ∧ xs.length ≤ cap ∧ cap ≤ maxLen ∧ ((a = none ∧ xs = [] ∧ cap = 0) ∨ ∃ g, a = some ⟨g, 0, none⟩) := by
  obtain ⟨h1, h2 | ⟨g, cap, cur, rfl, hB, hh, hc, hm, hs, ht⟩⟩ := h
  · obtain ⟨rfl, h0⟩ := h2
    exact ⟨none, 0, by rw [h0], by omega, Nat.zero_le _, .inl ⟨rfl, List.length_eq_zero_iff.1 h0, rfl⟩⟩
  · exact ⟨_, cap, rfl, hc, hm, .inr ⟨g, rfl⟩⟩
theorem Ge.toLe {w : World} {B : Nat} {a : Option Addr} {n cap : Nat} {xs : List α} (h : Ge E w B (.slice a n cap) xs) : Le E w a n xs := by
  obtain ⟨a', cap', e, -, -, -⟩ := h.shape
  cases e
  refine ⟨rfl, fun h0 => ?_⟩
  obtain ⟨h1, h2 | ⟨g, cap', cur, e, hB, hh, hc, hm, hs, ht⟩⟩ := h
  · obtain ⟨-, h3⟩ := h2; rw [h3] at h0; exact absurd h0 (Nat.lt_irrefl _)
  · cases e
    refine ⟨g, 0, rfl, fun i u hu => ?_⟩
    have hi : i < xs.length * E.s := by
      rcases Nat.lt_or_ge i (rowE E xs).length with h' | h'
      · rwa [rowE_length] at h'
      · rw [List.getElem?_eq_none h'] at hu; cases hu
    rw [← ht, List.getElem?_take_of_lt hi] at hu
    simp only [World.cell?, hh, Nat.zero_add]
    simpa using hu
theorem Ge.frozen {w : World} {B g n cap : Nat} {xs : List α} (h : Ge E w B (.slice (.some ⟨g, 0, none⟩) n cap) xs) (i : Nat) : w.frozen? ⟨g, i, none⟩ = false := by
  obtain ⟨h1, h2 | ⟨g', cap', cur, e, hB, hh, hc, hm, hs, ht⟩⟩ := h
  · cases h2.1
  · cases e; simp [World.frozen?, hh]
theorem Ge.kept {w w' : World} {B : Nat} {v : Value} {xs : List α} (h : Ge E w B v xs) (hk : ∀ k, v.ownBlock = some k → w'.heap[k]? = w.heap[k]?) : Ge E w' B v xs := by
  obtain ⟨h1, h2 | ⟨g, cap, cur, e, hB, hh, r⟩⟩ := h
  · exact ⟨h1, .inl h2⟩
  · exact ⟨h1, .inr ⟨g, cap, cur, e, hB, by rw [hk g (by rw [e]; rfl)]; exact hh, r⟩⟩
theorem Ge.after {w w' : World} {B : Nat} {v : Value} {xs : List α} (hb : Below w.heap.size w w') (h : Ge E w B v xs) : Ge E w' B v xs := h.kept (fun k hk => hb.block k (h.lt k hk))
theorem Ge.grown {w w' : World} {B g : Nat} {v : Value} {xs : List α} (h : Ge E w B v xs) (hg : w.grownBy w' (some g)) (hne : v.ownBlock ≠ some g) : Ge E w' B v xs := h.kept (fun k hk => hg.block k (h.lt k hk) (fun e => hne (by rw [hk]; exact e)))
theorem Ge.al {w : World} {B : Nat} {v : Value} {xs : List α} (h : Ge E w B v xs) (o : Obj) : Ge E (w.alloc o) B v xs := h.after ((Below.refl _ _).alloc (Nat.le_refl _) _)
theorem Ge.far {w : World} {B : Nat} {v : Value} {xs : List α} (h : Ge E w B v xs) {p : Addr} (hp : v.ownBlock ≠ some p.block) (u : Value) : Ge E (w.setCell p u) B v xs := h.kept (fun k hk => heap_setCell_other w p k u (fun e => hp (by rw [hk, e])))
theorem rowE_set (j : Nat) (hj : j < E.s) (u : Value) (x' : α) : ∀ (xs : List α) (i : Nat), i < xs.length → E.enc x' = (E.enc (xs.getD i E.dft)).set j u → (rowE E xs).set (i * E.s + j) u = rowE E (xs.set i x')
  | [], i, h, _ => by simp at h
  | x :: xs, 0, _, he => by
    rw [rowE_cons, Nat.zero_mul, Nat.zero_add, List.set_append_left _ _ (by rw [E.len]; exact hj)]
    simp only [List.set_cons_zero, rowE_cons, he]; rfl
  | x :: xs, i + 1, h, he => by
    have := rowE_set j hj u x' xs i (by simpa using h) (by simpa using he)
    rw [rowE_cons, List.set_append_right _ _ (by rw [E.len, Nat.add_mul]; omega), E.len, show (i + 1) * E.s + j - E.s = i * E.s + j by rw [Nat.add_mul]; omega, this]
    simp [rowE_cons]
theorem Ge.put {w : World} {B g n cap : Nat} {xs : List α} (h : Ge E w B (.slice (.some ⟨g, 0, none⟩) n cap) xs) (i : Nat) (hi : i < xs.length) (j : Nat) (hj : j < E.s) (u : Value) (x' : α) (he : E.enc x' = (E.enc (xs.getD i E.dft)).set j u) :
    Ge E (w.setCell ⟨g, i * E.s + j, none⟩ u) B (.slice (.some ⟨g, 0, none⟩) n cap) (xs.set i x') := by
  obtain ⟨a', cap', e, -, -, -⟩ := h.shape
  cases e
  have := (World.ownsRow.stored (w := w) h (i * E.s + j) u).1
  rw [rowE_set j hj u x' xs i hi he] at this
  show World.ownsRow _ _ _ _ _ _ _
  rw [List.length_set]
  exact this
theorem Le.news {w : World} {b off m : Nat} {ys : List α} (h : Le E w (.some ⟨b, off, none⟩) m ys) : ∀ j u, (rowE E ys)[j]? = some u → w.cell? ((⟨b, off, none⟩ : Addr).add j) = some u := by
  intro j u hj
  have h0 : 0 < m := by
    rw [← h.1]
    rcases ys with _ | ⟨y, ys⟩
    · simp [rowE] at hj
    · simp
  obtain ⟨b', off', e, hc⟩ := h.2 h0
  cases e
  rw [Addr.add_lit]
  exact hc j u hj
theorem run_appE (w : World) (ty : TypeId) (B : Nat) (v : Value) (xs : List α) (hg : Ge E w B v xs) (b off m c : Nat) (ys : List α) (hy : Le E w (.some ⟨b, off, none⟩) m ys) (hb : xs.length + m ≤ 1256584717458) (hB : B ≤ w.heap.size) :
    ∃ v' w', (Builtin.append_ #[E.tl, E.tl] ty #[v, .slice (.some ⟨b, off, none⟩) m c]).run Tryz.prog w = .ok v' w' ∧ Ge E w' B v' (xs ++ ys) ∧ w.grownBy w' v.ownBlock ∧ (v'.ownBlock = v.ownBlock ∨ v'.ownBlock = some w.heap.size) := by
  obtain ⟨i0, hi, hz0, hz1, hz2⟩ := info_parts E.inf
  have hbt := E.bt
  obtain ⟨v', w', hr, k2, k3, -, k5⟩ := run_append_own_at (P := Tryz.prog) (w := w) B E.tl ty E.te i0 E.z E.s E.by8 E.und hi hz0 hz1 hz2 E.zs E.pos v xs.length (rowE E xs) hg ⟨b, off, none⟩ m c (rowE E ys) (by rw [rowE_length, hy.1]) hy.news (rowE_one E _) (by unfold maxLen; omega) (by
      have : (xs.length + m) * E.by8 ≤ 1256584717458 * 112 := Nat.mul_le_mul hb hbt
      omega) hB
  refine ⟨v', w', hr, ?_, k3, k5⟩
  show World.ownsRow _ _ _ _ _ _ _
  rw [List.length_append, rowE_append, hy.1]
  exact k2
theorem Le.one {w : World} {b : Nat} {t : TypeId} {x : α} {cs : Array Value} (h : Va w b t cs) (hc : cs.toList = E.enc x) : Le E w (.some ⟨b, 0, none⟩) 1 [x] := by
  refine ⟨rfl, fun _ => ⟨b, 0, rfl, fun i u hu => ?_⟩⟩
  rw [Nat.zero_add, h.cellAt i, ← Array.getElem?_toList, hc]
  simpa [rowE] using hu
theorem Ge.of {w : World} {B b n : Nat} {cs : Array Value} {xs : List α} (h : Va w b E.te cs) (hB : B ≤ b) (hl : xs.length = n) (hc : cs.toList = rowE E xs) (hm : n ≤ maxLen) : Ge E w B (.slice (.some ⟨b, 0, none⟩) n n) xs := by
  subst hl
  refine ⟨rowE_length E xs, .inr ⟨b, xs.length, cs, rfl, hB, h, Nat.le_refl _, hm, ?_, ?_⟩⟩
  · rw [← Array.length_toList, hc, rowE_length]
  · rw [hc, List.take_of_length_le (by rw [rowE_length]; exact Nat.le_refl _)]
end Go.Proofs.YtngichjgfppnpaaGreatDoor
namespace Go.Proofs.YtngichjgfppnpaaGreatDoor

def BInv (cs0 ls : List Int) (b : Int) (off k : Nat) (c : Int) (cs : List Int) : Prop :=
  cs.length = cs0.length ∧ Limbs cs ∧ (∀ j, j < off ∨ off + k ≤ j → cs.getD j 0 = cs0.getD j 0) ∧ num cs + c * pw (off + k) = num cs0 + num (ls.take k) * b * pw off ∧ 0 ≤ c ∧ c < 18446744073709551616
def RInv (cs0 ls : List Int) (b : Int) (off k : Nat) (c : Int) (cs : List Int) : Prop :=
  cs.length = cs0.length ∧ Limbs cs ∧ (∀ j, j < off ∨ off + k ≤ j → cs.getD j 0 = cs0.getD j 0) ∧ num cs - c * pw (off + k) = num cs0 - num (ls.take k) * b * pw off ∧ 0 ≤ c ∧ c < 18446744073709551616
theorem binv_start {cs ls : List Int} {b : Int} {off : Nat} (h : Limbs cs) : BInv cs ls b off 0 0 cs := ⟨rfl, h, fun _ _ => rfl, by simp [num], by decide, by decide⟩
theorem rinv_start {cs ls : List Int} {b : Int} {off : Nat} (h : Limbs cs) : RInv cs ls b off 0 0 cs := ⟨rfl, h, fun _ _ => rfl, by simp [num], by decide, by decide⟩
theorem mul_word {x b : Int} (hx : 0 ≤ x ∧ x < 18446744073709551616) (hb : 0 ≤ b ∧ b < 18446744073709551616) : 0 ≤ x * b ∧ x * b ≤ 18446744073709551615 * 18446744073709551615 :=
  ⟨Int.mul_nonneg hx.1 hb.1, Int.mul_le_mul (by omega) (by omega) hb.1 (by decide)⟩
theorem ring_add {N N0 T v y c q x b po pk p : Int} (hd : v + 18446744073709551616 * q = x * b + y + c) (i4 : N + c * p = N0 + T * b * po) (hp : p = po * pk) :
    N + (v - y) * p + q * (18446744073709551616 * p) = N0 + (T + x * pk) * b * po := by grind
theorem ring_sub {N N0 T v y c q x b po pk p : Int} (hd : v + 18446744073709551616 * q = y - x * b - c) (i4 : N - c * p = N0 - T * b * po) (hp : p = po * pk) :
    N + (v - y) * p - -q * (18446744073709551616 * p) = N0 - (T + x * pk) * b * po := by grind
theorem binv_step {cs0 ls cs : List Int} {b : Int} {off k : Nat} {c : Int} (hl : Limbs ls) (hb : 0 ≤ b ∧ b < 18446744073709551616) (I : BInv cs0 ls b off k c cs) (h : off + k < cs0.length) :
    BInv cs0 ls b off (k + 1) ((ls.getD k 0 * b + cs.getD (off + k) 0 + c) / 18446744073709551616) (cs.set (off + k) ((ls.getD k 0 * b + cs.getD (off + k) 0 + c) % 18446744073709551616)) := by
  obtain ⟨i1, i2, i3, i4, i5, i6⟩ := I
  have b1 := i2.getD (off + k); have b2 := hl.getD k
  obtain ⟨p1, p2⟩ := mul_word b2 hb
  have hs := num_set (cs := cs) (i := off + k) ((ls.getD k 0 * b + cs.getD (off + k) 0 + c) % 18446744073709551616) (by omega)
  have ht := num_take_succ ls k
  have hpw : pw (off + (k + 1)) = 18446744073709551616 * pw (off + k) := rfl
  have hpa := pw_add off k
  generalize ls.getD k 0 = x at *
  generalize cs.getD (off + k) 0 = y at *
  have hd : (x * b + y + c) % 18446744073709551616 + 18446744073709551616 * ((x * b + y + c) / 18446744073709551616) = x * b + y + c := by omega
  refine ⟨by rw [List.length_set]; exact i1, i2.set _ ⟨by omega, by omega⟩, fun j hj => by rw [getD_set_other _ _ _ _ (by omega)]; exact i3 j (by omega), ?_, by omega, by omega⟩
  rw [hs, hpw, ht]
  exact ring_add hd i4 hpa
theorem rinv_step {cs0 ls cs : List Int} {b : Int} {off k : Nat} {c : Int} (hl : Limbs ls) (hb : 0 ≤ b ∧ b < 18446744073709551616) (I : RInv cs0 ls b off k c cs) (h : off + k < cs0.length) :
    RInv cs0 ls b off (k + 1) (-((cs.getD (off + k) 0 - ls.getD k 0 * b - c) / 18446744073709551616)) (cs.set (off + k) ((cs.getD (off + k) 0 - ls.getD k 0 * b - c) % 18446744073709551616)) := by
  obtain ⟨i1, i2, i3, i4, i5, i6⟩ := I
  have b1 := i2.getD (off + k); have b2 := hl.getD k
  obtain ⟨p1, p2⟩ := mul_word b2 hb
  have hs := num_set (cs := cs) (i := off + k) ((cs.getD (off + k) 0 - ls.getD k 0 * b - c) % 18446744073709551616) (by omega)
  have ht := num_take_succ ls k
  have hpw : pw (off + (k + 1)) = 18446744073709551616 * pw (off + k) := rfl
  have hpa := pw_add off k
  generalize ls.getD k 0 = x at *
  generalize cs.getD (off + k) 0 = y at *
  have hd : (y - x * b - c) % 18446744073709551616 + 18446744073709551616 * ((y - x * b - c) / 18446744073709551616) = y - x * b - c := by omega
  refine ⟨by rw [List.length_set]; exact i1, i2.set _ ⟨by omega, by omega⟩, fun j hj => by rw [getD_set_other _ _ _ _ (by omega)]; exact i3 j (by omega), ?_, by omega, by omega⟩
  rw [hs, hpw, ht]
  exact ring_sub hd i4 hpa
end Go.Proofs.YtngichjgfppnpaaGreatDoor

namespace Go.Proofs.YtngichjgfppnpaaGreatDoor
open Go.RowKit Go.Shelf

set_option maxHeartbeats 1000000 in
theorem addTimes_any (g off n cr cl : Nat) (cs0 ls : List Int) (l : Option Addr) (b : Int) (w : World) (ho : Own w g cs0) (hL : Limbs cs0) (hf : off + n ≤ cs0.length) (hl : Sx g w l n ls) (hn : n ≤ 40000000000000) (hb : Word b) :
    Calls Tryz.prog 124 #[.slice (some ⟨g, off, none⟩) n cr, .slice l n cl, .int .u64 b] w fun e w' =>
      ∃ c ds, e = .returned (.int .u64 c) ∧ Own w' g ds ∧ BInv cs0 ls b off n c ds ∧ Only g w w' := by
  have HI0 : Hid (BInv cs0 ls b off 0 0 cs0) := binv_start hL
  have HO0 : Hid (Own w g cs0) := ho
  have HSX : Hid (Sx g w l n ls) := hl
  have hLl := hl.1.2.1
  have HLL : Hid (Limbs ls) := hLl
  clear ho hl hLl
  go_enter Tryz.func124, Tryz.ntmps124
  go_wp2_with fail
  go_loopw [7, 16] (fun cc i wr => ∃ (k : Nat) (c : Int) (cs : List Int), k ≤ n ∧ i = .int .i64 k ∧ cc = .int .u64 c ∧ Hid (BInv cs0 ls b off k c cs) ∧ Hid (Own wr g cs) ∧ Hid (Only g w wr)) (fun _ i _ => n - (intOf i).toNat)
  case atStart => exact ⟨0, 0, _, Nat.zero_le _, rfl, rfl, HI0, HO0, Only.refl _ _⟩
  case round =>
    obtain ⟨k, c, cs, hk, rfl, rfl, hI, ho, hbl⟩ := hrel
    by_cases hlt : k < n
    · have hlen := hI.out.1
      have hcx := ho.out.cell (off + k) (by omega)
      have hfx := ho.out.frozen (off + k)
      obtain ⟨⟨hz, -, hs3⟩, -⟩ := HSX.out.only hbl.out
      obtain ⟨lb, lo, rfl, hcl⟩ := hs3 (by omega)
      have hcy := hcl k hlt
      have hw1 := hI.out.2.1.getD (off + k)
      have hw2 := HLL.out.getD k
      have hc0 := hI.out.2.2.2.2.1
      have hc1 := hI.out.2.2.2.2.2
      have hstep := binv_step HLL.out hb hI.out (show off + k < cs0.length by omega)
      obtain ⟨x, hx⟩ : ∃ x, ls.getD k 0 = x := ⟨_, rfl⟩
      obtain ⟨y, hy⟩ : ∃ y, cs.getD (off + k) 0 = y := ⟨_, rfl⟩
      rw [hx] at hcy hw2
      rw [hy] at hcx hw1
      rw [hx, hy] at hstep
      have M := mul_any x b hw2 hb wr
      obtain ⟨hh, hh1⟩ : ∃ h, x * b / 18446744073709551616 = h := ⟨_, rfl⟩
      obtain ⟨ll, ll1⟩ : ∃ l, x * b % 18446744073709551616 = l := ⟨_, rfl⟩
      have hxb : x * b = hh * 18446744073709551616 + ll := by omega
      rw [hh1, ll1] at M
      have hlw : Word ll := by rw [← ll1]; exact word_mod _
      have hlw' := hlw
      obtain ⟨l1, l2⟩ := hlw'
      have A := add_any ll y c hlw hw1 ⟨hc0, hc1⟩ wr
      have q1 : (x * b + y + c) % 18446744073709551616 = (ll + y + c) % 18446744073709551616 := by rw [hxb]; omega
      have q2 : (x * b + y + c) / 18446744073709551616 = hh + (ll + y + c) / 18446744073709551616 := by rw [hxb]; omega
      rw [q1, q2] at hstep
      have p1 := hstep.2.2.2.2.1
      have p2 := hstep.2.2.2.2.2
      have hh0 : 0 ≤ hh := by rw [← hh1]; exact Int.ediv_nonneg (Int.mul_nonneg hw2.1 hb.1) (by omega)
      obtain ⟨V, hV⟩ : ∃ V, (ll + y + c) % 18446744073709551616 = V := ⟨_, rfl⟩
      obtain ⟨E, hE⟩ : ∃ E, (ll + y + c) / 18446744073709551616 = E := ⟨_, rfl⟩
      rw [hV, hE] at A
      rw [hV] at hstep
      have hcc : hh + (ll + y + c) / 18446744073709551616 = hh + E := by omega
      rw [hcc] at hstep p1 p2
      have he0 : 0 ≤ E := by omega
      have HS : Hid (BInv cs0 ls b off (k + 1) (hh + E) (cs.set (off + k) V)) := hstep
      clear hstep hx hy hh1 ll1 hxb q1 q2 hV hE hcc hcl hs3 hz
      go_wp2_with fail
      refine M.mono ?_
      rintro e w2 ⟨rfl, rfl⟩
      go_wp2_with fail
      refine A.mono ?_
      rintro e w2 ⟨rfl, rfl⟩
      go_wp2_with fail
      go_roundw
      case rel => exact ⟨k + 1, _, _, by omega, by go_num, rfl, HS, Own.set ho.out (off + k) _, Only.set hbl.out (off + k) _⟩
      case measure => simp [intOf]; omega
    · obtain rfl : k = n := by omega
      go_wp2_with fail
      go_ret
      exact ⟨c, cs, rfl, ho.out, hI.out, hbl.out⟩
end Go.Proofs.YtngichjgfppnpaaGreatDoor

namespace Go.Proofs.YtngichjgfppnpaaGreatDoor
open Go.RowKit Go.Shelf

def PrInv (xs ys : List Int) (la lb i : Nat) (cs : List Int) : Prop :=
  cs.length = la + lb ∧ Limbs cs ∧ (∀ j, i + la ≤ j → cs.getD j 0 = 0) ∧ num cs = num xs * num (ys.take i)
theorem prinv_start {xs ys : List Int} {la lb : Nat} : PrInv xs ys la lb 0 (List.replicate (la + lb) 0) :=
  ⟨by simp, Limbs.zeros _, fun j _ => by rw [List.getD_eq_getElem?_getD, List.getElem?_replicate]; split <;> rfl, by rw [num_zeros]; simp [num]⟩
theorem prinv_step {xs ys cs ds : List Int} {la lb i : Nat} {c : Int} (hx : xs.length = la) (I : PrInv xs ys la lb i cs) (h : i < lb) (B : BInv cs xs (ys.getD i 0) i la c ds) : PrInv xs ys la lb (i + 1) (ds.set (i + la) c) := by
  obtain ⟨i1, i2, i3, i4⟩ := I
  obtain ⟨b1, b2, b3, b4, b5, b6⟩ := B
  have z : ds.getD (i + la) 0 = 0 := by rw [b3 _ (.inr (Nat.le_refl _))]; exact i3 _ (Nat.le_refl _)
  refine ⟨by rw [List.length_set]; omega, b2.set _ ⟨b5, b6⟩, fun j hj => ?_, ?_⟩
  · rw [getD_set_other _ _ _ _ (by omega), b3 j (.inr (by omega))]; exact i3 j (by omega)
  · rw [num_set c (by omega), z, num_take_succ]
    rw [List.take_of_length_le (by omega), i4] at b4
    rw [Int.sub_zero, b4]
    grind

set_option maxHeartbeats 1000000 in
theorem product_any (a b : Option Addr) (la ca lb cb : Nat) (xs ys : List Int) (w : World) (ha : Sl w a la xs) (hb : Sl w b lb ys) (h1 : la ≤ 10000000000000) (h2 : lb ≤ 10000000000000) :
    Calls Tryz.prog 106 #[.slice a la ca, .slice b lb cb] w fun e w' =>
      ∃ g cs, e = .returned (.slice (some ⟨g, 0, none⟩) (la + lb) (la + lb)) ∧ w.heap.size ≤ g ∧ Own w' g cs ∧ cs.length = la + lb ∧ Limbs cs ∧ num cs = num xs * num ys ∧ Below w.heap.size w w' := by
  have hmk := make_row (la + lb) (by omega)
  have en : ((la + lb : Nat) : Int) = (la : Int) + lb := by omega
  rw [en] at hmk
  have hza := ha.1
  have hzb := hb.1
  have HLB : Hid (Limbs ys) := hb.2.1
  have HA : Hid (Sl w a la xs) := ha
  have HB : Hid (Sl w b lb ys) := hb
  clear ha hb en
  go_enter Tryz.func106, Tryz.ntmps106
  go_wp2_with fail
  have B1 : Below w.heap.size w (w.alloc (Obj.cells (row (List.replicate (la + lb) 0)).toArray 89)) := (Below.refl _ _).alloc (Nat.le_refl _) _
  have XA : Hid (Sx w.heap.size (w.alloc (Obj.cells (row (List.replicate (la + lb) 0)).toArray 89)) a la xs) := HA.out.apart B1 (Nat.le_refl _)
  have XB : Hid (Sx w.heap.size (w.alloc (Obj.cells (row (List.replicate (la + lb) 0)).toArray 89)) b lb ys) := HB.out.apart B1 (Nat.le_refl _)
  have O1 : Hid (Own (w.alloc (Obj.cells (row (List.replicate (la + lb) 0)).toArray 89)) w.heap.size (List.replicate (la + lb) 0)) := heap_alloc_new w _
  generalize (w.alloc (Obj.cells (row (List.replicate (la + lb) 0)).toArray 89)) = w1 at *
  clear hmk HA HB
  go_loopw [16] (fun ii wr => ∃ (k : Nat) (cs : List Int), k ≤ lb ∧ ii = .int .i64 k ∧ Hid (PrInv xs ys la lb k cs) ∧ Hid (Own wr w.heap.size cs) ∧ Hid (Only w.heap.size w1 wr)) (fun ii _ => lb - (intOf ii).toNat)
  case atStart => exact ⟨0, _, Nat.zero_le _, rfl, prinv_start, O1, Only.refl _ _⟩
  case round =>
    obtain ⟨k, cs, hk, rfl, hI, ho, hbl⟩ := hrel
    by_cases hlt : k < lb
    · have hlen := hI.out.1
      obtain ⟨⟨-, -, hs3⟩, -⟩ := XB.out.only hbl.out
      obtain ⟨bb, bo, rfl, hcl⟩ := hs3 (by omega)
      have hcy := hcl k hlt
      have hw2 := HLB.out.getD k
      have HY : Hid (ys.getD k 0 = ys.getD k 0) := rfl
      have A := addTimes_any w.heap.size k la (la + lb - k) ca cs xs a (ys.getD k 0) wr ho.out hI.out.2.1 (by omega) (XA.out.only hbl.out) (by omega) hw2
      have ST := fun c ds => prinv_step (c := c) (ds := ds) hza hI.out hlt
      obtain ⟨y, hy⟩ : ∃ y, ys.getD k 0 = y := ⟨_, rfl⟩
      rw [hy] at hcy hw2 A
      simp only [hy] at ST
      clear hy HY hcl hs3
      have e2 : ((k : Int) + la).toNat = k + la := by omega
      have e3 : ((k : Int) + la).toNat - k = la := by omega
      go_wp2_with fail
      refine A.mono ?_
      rintro e w2 ⟨c, ds, rfl, ho2, hB, hon⟩
      have HI2 : Hid (PrInv xs ys la lb (k + 1) (ds.set (k + la) c)) := ST c ds hB
      have HO2 : Hid (Own w2 w.heap.size ds) := ho2
      have hcx := ho2.cell (k + la) (by rw [hB.1, hlen]; omega)
      have hfx := ho2.frozen (k + la)
      have HON : Hid (Only w.heap.size w1 w2) := hbl.out.trans hon
      clear A ST ho2 hB hon hI ho hbl
      go_wp2_with fail
      go_roundw
      case rel => exact ⟨k + 1, _, by omega, by go_num, HI2, Own.set HO2.out (k + la) _, Only.set HON.out (k + la) _⟩
      case measure => simp [intOf]; omega
    · obtain rfl : k = lb := by omega
      go_wp2_with fail
      go_ret
      refine ⟨_, cs, rfl, Nat.le_refl _, ho.out, hI.out.1, hI.out.2.1, ?_, B1.trans (hbl.out.below (Nat.le_refl _))⟩
      have := hI.out.2.2.2
      rw [List.take_of_length_le (by omega)] at this
      exact this

theorem long_by_bits {xs ys : List Int} (hx : Limbs xs) (hy : Limbs ys) (h : 262145 < bitsN xs + bitsN ys) (h1 : bitsN xs ≤ 262144) (h2 : bitsN ys ≤ 262144) : (2 : Int) ^ 262144 ≤ num xs * num ys := by
  have ux : 0 < usedN xs := by
    rcases Nat.eq_zero_or_pos (usedN xs) with h' | h'
    · have := bits_nought h'; omega
    · exact h'
  have uy : 0 < usedN ys := by
    rcases Nat.eq_zero_or_pos (usedN ys) with h' | h'
    · have := bits_nought h'; omega
    · exact h'
  obtain ⟨i, e1, i1, i2⟩ := bits_spec hx ux
  obtain ⟨j, e2, j1, j2⟩ := bits_spec hy uy
  have h3 : (2 : Int) ^ i * 2 ^ j ≤ num xs * num ys := Int.mul_le_mul i1 j1 (Int.le_of_lt (p2_pos _)) (num_nonneg hx)
  rw [← Int.pow_add] at h3
  exact Int.le_trans (p2_mono (by omega)) h3
theorem pw_4096 : pw 4096 = 2 ^ 262144 := by rw [pw_eq]

set_option maxRecDepth 20000 in
set_option maxHeartbeats 2000000 in
theorem nmul_ok (a b : Option Addr) (la ca lb cb : Nat) (xs ys : List Int) (w : World) (ha : Nt w a la ca xs) (hb : Nt w b lb cb ys) (hfit : num xs * num ys < pw 4096) :
    Calls Tryz.prog 80 #[.agg #[.slice a la ca], .agg #[.slice b lb cb]] w fun e w' => ∃ a' l' c' zs, e = .returned (.tuple #[.agg #[.slice a' l' c'], .int .i64 0]) ∧ Nt w' a' l' c' zs ∧ num zs = num xs * num ys ∧ Below w.heap.size w w' := by
  have l1 := ha.2; have l2 := hb.2
  have bx := bits_limbs ha.limbs; have byy := bits_limbs hb.limbs
  have hsum : bitsN xs + bitsN ys ≤ 262145 := by
    rcases Int.lt_or_le 262145 (bitsN xs + bitsN ys) with h | h
    · have := long_by_bits ha.limbs hb.limbs h (by omega) (by omega)
      rw [← pw_4096] at this; omega
    · exact h
  have A := fun W h => nbits_any a la ca xs W h
  have B := fun W h => nbits_any b lb cb ys W h
  have b0 := bx.1; have b1 := byy.1
  obtain ⟨p, hp⟩ : ∃ p, bitsN xs = p := ⟨_, rfl⟩
  obtain ⟨q, hq⟩ : ∃ q, bitsN ys = q := ⟨_, rfl⟩
  simp only [hp] at A
  simp only [hq] at B
  rw [hp, hq] at hsum
  rw [hp] at b0
  rw [hq] at b1
  have ew : IntKind.i64.wrap (p + q) = p + q := by rw [IntKind.wrap_i64]; omega
  have HF : ∀ cs, Limbs cs → num cs = num xs * num ys → usedN cs ≤ 4096 := fun cs h e => used_of_lt h (by rw [e]; exact hfit)
  clear hp hq bx byy hfit
  go_enter Tryz.func80, Tryz.ntmps80
  go_wp2_with fail
  refine ent3 w _ _ _ _ _ _ (Q := fun W => Code.wp Tryz.prog _ _ _ W) ?_
  intro w0 B0 hs V0 V1 V2
  replace ha := ha.below B0 (Nat.le_refl _)
  replace hb := hb.below B0 (Nat.le_refl _)
  have c0 := V0.cell
  have c1 := V1.cell
  go_region_with (first
    | (go_at_call 101; refine (A w0.drew ha).mono ?_; rintro e wa ⟨rfl, ba0⟩; have ba : Below w0.heap.size w0 wa := ⟨ba0.os, ba0.tape, ba0.output, ba0.size, ba0.block⟩; clear ba0; have B0a := step B0 ba; have V0a := Va.after ba V0; have V1a := Va.after ba V1; have V2a := Va.after ba V2; have c1a := V1a.cell; have haa := Nt.after ba ha; have hba := Nt.after ba hb)
    | (go_at_call 101; refine (B _ hba).mono ?_; rintro e wb ⟨rfl, bb0⟩; have bb : Below wa.heap.size wa wb := ⟨bb0.os, bb0.tape, bb0.output, bb0.size, bb0.block⟩; clear bb0; have B0b := step B0a bb; have V0b := Va.after bb V0a; have V1b := Va.after bb V1a; have V2b := Va.after bb V2a; have hab := Nt.after bb haa; have hbb := Nt.after bb hba))
  all_goals
    clear A B ba bb V0 V1 V2 V0a V1a V2a c0 c1 c1a ha hb haa hba B0 B0a
    have c0 := V0b.cell
    have c1 := V1b.cell
    have g1 : decide ((262145 : Int) < p + q) = false := by simp; omega
    clear hsum
    simp only [g1]
    go_wp2_with fail
    refine (product_any a b la ca lb cb xs ys wb hab.1 hbb.1 (by omega) (by omega)).mono ?_
    rintro e w3 ⟨g, cs, rfl, hg, ho, hlen, hL, hn, hb3⟩
    have hsl := ho.sl hL
    rw [hlen] at hsl
    have hm : usedN cs ≤ 4096 := HF cs hL hn
    replace V2b := V2b.kept hb3
    replace B0b := step B0b hb3
    go_wp2_with fail
    refine (made_ok _ (la + lb) (la + lb) cs w3 hsl (by omega) (Nat.le_refl _) hm).mono ?_
    rintro e w4 ⟨rfl, hb4⟩
    have hnt := nt_made (hsl.below hb4 (Nat.le_refl _)) (Nat.le_refl _) hm
    replace V2b := V2b.kept hb4
    replace B0b := step B0b hb4
    have c2 := V2b.cell
    have f2 := V2b.frozen 0
    go_wp2_with fail
    have B1 := B0b.setCell (p := ⟨w.heap.size + 1 + 1, 0, none⟩) (by show _ ≤ w.heap.size + 1 + 1; omega)
    refine bodyPost_ret (results_ct rfl rfl (V2b.set _)) rfl ?_
    exact ⟨_, _, _, _, rfl, hnt.store V2b _, (num_take_used cs (Nat.le_refl _)).trans hn, B1 _⟩
end Go.Proofs.YtngichjgfppnpaaGreatDoor
