import Derived.Test.YtblafbbnplfpjaaGreatDoorMgAf
import Derived.Maps.OwnSet
namespace Go.Proofs.YtblafbbnplfpjaaGreatDoor
open Go.RowKit Go.Shelf
set_option linter.unusedVariables false

structure El (α : Type) where
  enc : α → List Value
  dft : α
  te : TypeId
  tl : TypeId
  z : Value
  s : Nat
  by8 : Nat
  len : ∀ x, (enc x).length = s
  one : ∀ x, ∀ v ∈ enc x, v.oneCell' = true
  pos : 0 < s
  und : Tryz.prog.underlying tl = some (.slice te)
  inf : (Tryz.prog.info? te).map (fun i => (i.zero, i.size, i.bytes)) = some (some z, s, by8)
  zs : z.cells.size = s
  bt : by8 ≤ 112
variable {α : Type} (E : El α)
def rowE (xs : List α) : List Value := xs.flatMap E.enc
theorem rowE_cons (x : α) (xs : List α) : rowE E (x :: xs) = E.enc x ++ rowE E xs := rfl
theorem rowE_length (xs : List α) : (rowE E xs).length = xs.length * E.s := by
  induction xs with
  | nil => simp [rowE]
  | cons x xs ih => rw [rowE_cons, List.length_append, E.len, ih, List.length_cons, Nat.add_mul]; omega
theorem rowE_append (a b : List α) : rowE E (a ++ b) = rowE E a ++ rowE E b := by simp [rowE]
theorem rowE_one (xs : List α) : ∀ v ∈ rowE E xs, v.oneCell' = true := by
  intro v hv
  simp only [rowE, List.mem_flatMap] at hv
  obtain ⟨x, -, hx⟩ := hv
  exact E.one x v hx
theorem rowE_get (j : Nat) (hj : j < E.s) : ∀ (xs : List α) (i : Nat), i < xs.length → (rowE E xs)[i * E.s + j]? = (E.enc (xs.getD i E.dft))[j]?
  | [], i, h => by simp at h
  | x :: xs, 0, _ => by
    rw [rowE_cons, Nat.zero_mul, Nat.zero_add, List.getElem?_append_left (by rw [E.len]; exact hj)]; rfl
  | x :: xs, i + 1, h => by
    have := rowE_get j hj xs i (by simpa using h)
    rw [rowE_cons, List.getElem?_append_right (by rw [E.len, Nat.add_mul]; omega), E.len, show (i + 1) * E.s + j - E.s = i * E.s + j by rw [Nat.add_mul]; omega, this]
    simp
def Le (w : World) (a : Option Addr) (len : Nat) (xs : List α) : Prop :=
  xs.length = len ∧ (0 < len → ∃ b off, a = some ⟨b, off, none⟩ ∧ ∀ i u, (rowE E xs)[i]? = some u → w.cell? ⟨b, off + i, none⟩ = some u)
variable {E}
theorem Le.nil (w : World) (a : Option Addr) : Le E w a 0 [] := ⟨rfl, fun h => absurd h (Nat.lt_irrefl _)⟩
theorem Le.at {w : World} {b off len : Nat} {xs : List α} (h : Le E w (some ⟨b, off, none⟩) len xs) (i : Nat) (hi : i < len) (j : Nat) (u : Value) (hj : (E.enc (xs.getD i E.dft))[j]? = some u) : w.cell? ⟨b, off + (i * E.s + j), none⟩ = some u := by
  obtain ⟨b', off', e, hc⟩ := h.2 (by omega)
  cases e
  refine hc _ u ?_
  have hl := h.1
  have hj' : j < E.s := by
    rcases Nat.lt_or_ge j E.s with h' | h'
    · exact h'
    · rw [List.getElem?_eq_none (by rw [E.len]; exact h')] at hj; cases hj
  rw [rowE_get E j hj' xs i (by omega), hj]
theorem Le.ex {w : World} {a : Option Addr} {len : Nat} {xs : List α} (h : Le E w a len xs) (h0 : 0 < len) : ∃ b off, a = some ⟨b, off, none⟩ := by
  obtain ⟨b, off, e, -⟩ := h.2 h0
  exact ⟨b, off, e⟩
theorem Le.lt {w : World} {b off len : Nat} {xs : List α} (h : Le E w (some ⟨b, off, none⟩) len xs) (h0 : 0 < len) : b < w.heap.size := by
  obtain ⟨b', off', e, hc⟩ := h.2 h0
  cases e
  have hl := rowE_length E xs
  have h1 := h.1
  have hp := E.pos
  have : 0 < (rowE E xs).length := by rw [hl, h1]; exact Nat.mul_pos h0 hp
  exact cell_lt (hc 0 _ (List.getElem?_eq_getElem this))
theorem Le.kept {w w' : World} {a : Option Addr} {len : Nat} {xs : List α} (h : Le E w a len xs) (hk : 0 < len → ∀ b off, a = some ⟨b, off, none⟩ → b < w.heap.size → w'.heap[b]? = w.heap[b]?) : Le E w' a len xs := by
  refine ⟨h.1, fun h0 => ?_⟩
  obtain ⟨b, off, e, hc⟩ := h.2 h0
  refine ⟨b, off, e, fun i u hu => ?_⟩
  have c := hc i u hu
  have hb := hk h0 b off e (by subst e; exact h.lt h0)
  simp only [World.cell?] at c ⊢
  rw [hb]; exact c
theorem Le.after {w w' : World} {a : Option Addr} {len : Nat} {xs : List α} (hb : Below w.heap.size w w') (h : Le E w a len xs) : Le E w' a len xs := h.kept (fun _ b _ _ hlt => hb.block b hlt)
theorem Le.grown {w w' : World} {g : Nat} {a : Option Addr} {len : Nat} {xs : List α} (h : Le E w a len xs) (hg : w.grownBy w' (.some g)) (hne : 0 < len → ∀ b off, a = some ⟨b, off, none⟩ → b ≠ g) : Le E w' a len xs :=
  h.kept (fun h0 b off e hlt => hg.block b hlt (fun x => hne h0 b off e (by cases x; rfl)))
theorem Le.tail {w : World} {b off len : Nat} {x : α} {xs : List α} (h : Le E w (.some ⟨b, off, none⟩) (len + 1) (x :: xs)) : Le E w (.some ⟨b, off + E.s, none⟩) len xs := by
  refine ⟨by have := h.1; simpa using this, fun h0 => ⟨b, off + E.s, rfl, fun i u hu => ?_⟩⟩
  obtain ⟨b', off', e, hc⟩ := h.2 (by omega)
  cases e
  have := hc (E.s + i) u (by rw [rowE_cons, List.getElem?_append_right (by rw [E.len]; omega), E.len, show E.s + i - E.s = i by omega]; exact hu)
  rw [← this, Nat.add_assoc]
variable (E)
def Ge (w : World) (B : Nat) (v : Value) (xs : List α) : Prop := w.ownsRow B E.te E.s v xs.length (rowE E xs)
variable {E}
theorem Ge.nil (w : World) (B : Nat) : Ge E w B (.slice none 0 0) [] := ⟨by simp [rowE], .inl ⟨rfl, rfl⟩⟩
theorem Ge.block {w : World} {B : Nat} {v : Value} {xs : List α} (h : Ge E w B v xs) : ∀ k, v.ownBlock = some k → B ≤ k := fun k hk => (World.ownsRow.lt h k hk).1
theorem Ge.lt {w : World} {B : Nat} {v : Value} {xs : List α} (h : Ge E w B v xs) : ∀ k, v.ownBlock = some k → k < w.heap.size := fun k hk => (World.ownsRow.lt h k hk).2
theorem Ge.le {w : World} {B B' : Nat} {v : Value} {xs : List α} (h : Ge E w B v xs) (hb : B' ≤ B) : Ge E w B' v xs := ⟨h.1, by
  rcases h.2 with h | ⟨g, cap, cur, e, hB, r⟩
  · exact .inl h
  · exact .inr ⟨g, cap, cur, e, Nat.le_trans hb hB, r⟩⟩
theorem Ge.shape {w : World} {B : Nat} {v : Value} {xs : List α} (h : Ge E w B v xs) : ∃ a cap, v = .slice a xs.length cap ∧ xs.length ≤ cap ∧ cap ≤ maxLen ∧ ((a = none ∧ xs = [] ∧ cap = 0) ∨ ∃ g, a = some ⟨g, 0, none⟩) := by
  obtain ⟨h1, h2 | ⟨g, cap, cur, rfl, hB, hh, hc, hm, hs, ht⟩⟩ := h
  · obtain ⟨rfl, h0⟩ := h2
    exact ⟨none, 0, by rw [h0], by omega, Nat.zero_le _, .inl ⟨rfl, List.length_eq_zero_iff.1 h0, rfl⟩⟩
  · exact ⟨_, cap, rfl, hc, hm, .inr ⟨g, rfl⟩⟩
theorem Ge.toLe {w : World} {B : Nat} {a : Option Addr} {n cap : Nat} {xs : List α} (h : Ge E w B (.slice a n cap) xs) : Le E w a n xs := by
  obtain ⟨a', cap', e, -, -, -⟩ := h.shape
  cases e
  refine ⟨rfl, fun h0 => ?_⟩
  obtain ⟨h1, h2 | ⟨g, cap', cur, e, hB, hh, hc, hm, hs, ht⟩⟩ := h
  · obtain ⟨-, h3⟩ := h2; rw [h3] at h0; exact absurd h0 (Nat.lt_irrefl _)
  · cases e
    refine ⟨g, 0, rfl, fun i u hu => ?_⟩
    have hi : i < xs.length * E.s := by
      rcases Nat.lt_or_ge i (rowE E xs).length with h' | h'
      · rwa [rowE_length] at h'
      · rw [List.getElem?_eq_none h'] at hu; cases hu
    rw [← ht, List.getElem?_take_of_lt hi] at hu
    simp only [World.cell?, hh, Nat.zero_add]
    simpa using hu
theorem Ge.frozen {w : World} {B g n cap : Nat} {xs : List α} (h : Ge E w B (.slice (.some ⟨g, 0, none⟩) n cap) xs) (i : Nat) : w.frozen? ⟨g, i, none⟩ = false := by
  obtain ⟨h1, h2 | ⟨g', cap', cur, e, hB, hh, hc, hm, hs, ht⟩⟩ := h
  · cases h2.1
  · cases e; simp [World.frozen?, hh]
theorem Ge.kept {w w' : World} {B : Nat} {v : Value} {xs : List α} (h : Ge E w B v xs) (hk : ∀ k, v.ownBlock = some k → w'.heap[k]? = w.heap[k]?) : Ge E w' B v xs := by
  obtain ⟨h1, h2 | ⟨g, cap, cur, e, hB, hh, r⟩⟩ := h
  · exact ⟨h1, .inl h2⟩
  · exact ⟨h1, .inr ⟨g, cap, cur, e, hB, by rw [hk g (by rw [e]; rfl)]; exact hh, r⟩⟩
theorem Ge.after {w w' : World} {B : Nat} {v : Value} {xs : List α} (hb : Below w.heap.size w w') (h : Ge E w B v xs) : Ge E w' B v xs := h.kept (fun k hk => hb.block k (h.lt k hk))
theorem Ge.grown {w w' : World} {B g : Nat} {v : Value} {xs : List α} (h : Ge E w B v xs) (hg : w.grownBy w' (some g)) (hne : v.ownBlock ≠ some g) : Ge E w' B v xs := h.kept (fun k hk => hg.block k (h.lt k hk) (fun e => hne (by rw [hk]; exact e)))
theorem Ge.al {w : World} {B : Nat} {v : Value} {xs : List α} (h : Ge E w B v xs) (o : Obj) : Ge E (w.alloc o) B v xs := h.after ((Below.refl _ _).alloc (Nat.le_refl _) _)
theorem Ge.far {w : World} {B : Nat} {v : Value} {xs : List α} (h : Ge E w B v xs) {p : Addr} (hp : v.ownBlock ≠ some p.block) (u : Value) : Ge E (w.setCell p u) B v xs := h.kept (fun k hk => heap_setCell_other w p k u (fun e => hp (by rw [hk, e])))
theorem rowE_set (j : Nat) (hj : j < E.s) (u : Value) (x' : α) : ∀ (xs : List α) (i : Nat), i < xs.length → E.enc x' = (E.enc (xs.getD i E.dft)).set j u → (rowE E xs).set (i * E.s + j) u = rowE E (xs.set i x')
  | [], i, h, _ => by simp at h
  | x :: xs, 0, _, he => by
    rw [rowE_cons, Nat.zero_mul, Nat.zero_add, List.set_append_left _ _ (by rw [E.len]; exact hj)]
    simp only [List.set_cons_zero, rowE_cons, he]; rfl
  | x :: xs, i + 1, h, he => by
    have := rowE_set j hj u x' xs i (by simpa using h) (by simpa using he)
    rw [rowE_cons, List.set_append_right _ _ (by rw [E.len, Nat.add_mul]; omega), E.len, show (i + 1) * E.s + j - E.s = i * E.s + j by rw [Nat.add_mul]; omega, this]
    simp [rowE_cons]
theorem Ge.put {w : World} {B g n cap : Nat} {xs : List α} (h : Ge E w B (.slice (.some ⟨g, 0, none⟩) n cap) xs) (i : Nat) (hi : i < xs.length) (j : Nat) (hj : j < E.s) (u : Value) (x' : α) (he : E.enc x' = (E.enc (xs.getD i E.dft)).set j u) :
    Ge E (w.setCell ⟨g, i * E.s + j, none⟩ u) B (.slice (.some ⟨g, 0, none⟩) n cap) (xs.set i x') := by
  obtain ⟨a', cap', e, -, -, -⟩ := h.shape
  cases e
  have := (World.ownsRow.stored (w := w) h (i * E.s + j) u).1
  rw [rowE_set j hj u x' xs i hi he] at this
  show World.ownsRow _ _ _ _ _ _ _
  rw [List.length_set]
  exact this
theorem Le.news {w : World} {b off m : Nat} {ys : List α} (h : Le E w (.some ⟨b, off, none⟩) m ys) : ∀ j u, (rowE E ys)[j]? = some u → w.cell? ((⟨b, off, none⟩ : Addr).add j) = some u := by
  intro j u hj
  have h0 : 0 < m := by
    rw [← h.1]
    rcases ys with _ | ⟨y, ys⟩
    · simp [rowE] at hj
    · simp
  obtain ⟨b', off', e, hc⟩ := h.2 h0
  cases e
  rw [Addr.add_lit]
  exact hc j u hj
theorem run_appE (w : World) (ty : TypeId) (B : Nat) (v : Value) (xs : List α) (hg : Ge E w B v xs) (b off m c : Nat) (ys : List α) (hy : Le E w (.some ⟨b, off, none⟩) m ys) (hb : xs.length + m ≤ 1000000000000) (hB : B ≤ w.heap.size) :
    ∃ v' w', (Builtin.append_ #[E.tl, E.tl] ty #[v, .slice (.some ⟨b, off, none⟩) m c]).run Tryz.prog w = .ok v' w' ∧ Ge E w' B v' (xs ++ ys) ∧ w.grownBy w' v.ownBlock ∧ (v'.ownBlock = v.ownBlock ∨ v'.ownBlock = some w.heap.size) := by
  obtain ⟨i0, hi, hz0, hz1, hz2⟩ := info_parts E.inf
  have hbt := E.bt
  obtain ⟨v', w', hr, k2, k3, -, k5⟩ := run_append_own_at (P := Tryz.prog) (w := w) B E.tl ty E.te i0 E.z E.s E.by8 E.und hi hz0 hz1 hz2 E.zs E.pos v xs.length (rowE E xs) hg ⟨b, off, none⟩ m c (rowE E ys) (by rw [rowE_length, hy.1]) hy.news (rowE_one E _) (by unfold maxLen; omega) (by
      have : (xs.length + m) * E.by8 ≤ 1000000000000 * 112 := Nat.mul_le_mul hb hbt
      omega) hB
  refine ⟨v', w', hr, ?_, k3, k5⟩
  show World.ownsRow _ _ _ _ _ _ _
  rw [List.length_append, rowE_append, hy.1]
  exact k2
theorem wpList_appE {ops : Array Oper} {rest : List Oper} {o : Oper} {a : Act} {w : World} {Q : Exit → Act → World → Prop} (hgd : o.guard = none) (s x : Operand) (t : TypeId)
    (ho : o.op = .call { callee := .builtin .append, args := #[s, x], argTypes := #[t, t] }) (E : El α) (ht : t = E.tl)
    (B : Nat) (v : Value) (xs : List α) (hs : a.eval s = v) (hg : Ge E w B v xs) (b off m c : Nat) (ys : List α) (hx : a.eval x = .slice (.some ⟨b, off, none⟩) m c) (hy : Le E w (.some ⟨b, off, none⟩) m ys)
    (hb : xs.length + m ≤ 1000000000000) (hB : B ≤ w.heap.size)
    (h : ∀ v' w', Ge E w' B v' (xs ++ ys) → w.grownBy w' v.ownBlock → (v'.ownBlock = v.ownBlock ∨ v'.ownBlock = some w.heap.size) → wpList Tryz.prog ops Q rest (a.put o.dst v') w') : wpList Tryz.prog ops Q (o :: rest) a w := by
  subst ht
  refine wpList_plain hgd fun K hK => ?_
  obtain ⟨v', w', hr, k2, k3, k5⟩ := run_appE w o.type B v xs hg b off m c ys hy hb hB
  unfold Oper.wp execOp
  simp only [ho, resolve, invoke, builtin, Sem.run_bind, Sem.run_pure, Result.andThen_ok, List.map_toArray, List.map_cons, List.map_nil, hs, hx, hr]
  exact hK _ _ (h v' w' k2 k3 k5)
theorem Le.one {w : World} {b : Nat} {t : TypeId} {x : α} {cs : Array Value} (h : Va w b t cs) (hc : cs.toList = E.enc x) : Le E w (.some ⟨b, 0, none⟩) 1 [x] := by
  refine ⟨rfl, fun _ => ⟨b, 0, rfl, fun i u hu => ?_⟩⟩
  rw [Nat.zero_add, h.cellAt i, ← Array.getElem?_toList, hc]
  simpa [rowE] using hu
theorem Ge.of {w : World} {B b n : Nat} {cs : Array Value} {xs : List α} (h : Va w b E.te cs) (hB : B ≤ b) (hl : xs.length = n) (hc : cs.toList = rowE E xs) (hm : n ≤ maxLen) : Ge E w B (.slice (.some ⟨b, 0, none⟩) n n) xs := by
  subst hl
  refine ⟨rowE_length E xs, .inr ⟨b, xs.length, cs, rfl, hB, h, Nat.le_refl _, hm, ?_, ?_⟩⟩
  · rw [← Array.length_toList, hc, rowE_length]
  · rw [hc, List.take_of_length_le (by rw [rowE_length]; exact Nat.le_refl _)]
theorem appE_below {w1 W w2 wr : World} {B : Nat} {v : Value} {xs : List α} (h : W.grownBy w2 v.ownBlock) (hg : Ge E wr B v xs) (hle : B ≤ W.heap.size) (hb : RowKit.Below B w1 W) : RowKit.Below B w1 w2 := hb.trans ((RowKit.Below.refl B W).grown h hle hg.block)
end Go.Proofs.YtblafbbnplfpjaaGreatDoor
namespace Go.Proofs.YtblafbbnplfpjaaGreatDoor
open Go.RowKit Go.Shelf
set_option linter.unusedVariables false
set_option maxRecDepth 20000

theorem isSmall_any (c : UInt8) (w : World) : Calls Tryz.prog 90 #[.int .u8 c.toNat] w fun e w' => e = .returned (.bool (sm c)) ∧ w' = w := by
  have hs : sm c = (decide ((97 : Int) ≤ c.toNat) && decide ((c.toNat : Int) ≤ 122)) := by
    unfold sm; rw [Bool.eq_iff_iff]; simp; omega
  have HS : Hid (sm c = (decide ((97 : Int) ≤ c.toNat) && decide ((c.toNat : Int) ≤ 122))) := hs
  clear hs
  by_cases h1 : (97 : Int) ≤ c.toNat
  · by_cases h2 : (c.toNat : Int) ≤ 122
    · go_enter Tryz.func90, Tryz.ntmps90
      go_wp2_with fail
      go_ret
      exact ⟨by rw [HS.out]; simp [h1, h2], rfl⟩
    · go_enter Tryz.func90, Tryz.ntmps90
      go_wp2_with fail
      go_ret
      exact ⟨by rw [HS.out]; simp [h1, h2], rfl⟩
  · go_enter Tryz.func90, Tryz.ntmps90
    go_wp2_with fail
    go_ret
    exact ⟨by rw [HS.out]; simp; omega, rfl⟩
theorem isDigit_any (c : UInt8) (w : World) : Calls Tryz.prog 127 #[.int .u8 c.toNat] w fun e w' => e = .returned (.bool (dg c)) ∧ w' = w := by
  have hs : dg c = (decide ((48 : Int) ≤ c.toNat) && decide ((c.toNat : Int) ≤ 57)) := by
    unfold dg; rw [Bool.eq_iff_iff]; simp; omega
  have HS : Hid (dg c = (decide ((48 : Int) ≤ c.toNat) && decide ((c.toNat : Int) ≤ 57))) := hs
  clear hs
  by_cases h1 : (48 : Int) ≤ c.toNat
  · by_cases h2 : (c.toNat : Int) ≤ 57
    · go_enter Tryz.func127, Tryz.ntmps127
      go_wp2_with fail
      go_ret
      exact ⟨by rw [HS.out]; simp [h1, h2], rfl⟩
    · go_enter Tryz.func127, Tryz.ntmps127
      go_wp2_with fail
      go_ret
      exact ⟨by rw [HS.out]; simp [h1, h2], rfl⟩
  · go_enter Tryz.func127, Tryz.ntmps127
    go_wp2_with fail
    go_ret
    exact ⟨by rw [HS.out]; simp; omega, rfl⟩
theorem u8_eq (c : UInt8) (n : Nat) (hn : n < 256) : ((c.toNat : Int) = n) ↔ c = UInt8.ofNat n := by
  constructor
  · intro h
    have : c.toNat = n := by omega
    rw [← this]; simp
  · rintro rfl
    have : (UInt8.ofNat n).toNat = n := by simp [UInt8.toNat_ofNat']; omega
    omega
theorem isInPart_any (c : UInt8) (w : World) : Calls Tryz.prog 92 #[.int .u8 c.toNat] w fun e w' => e = .returned (.bool (ip c)) ∧ w' = w := by
  have c1 := fun W => isSmall_any c W
  have c2 := fun W => isDigit_any c W
  have he := u8_eq c 95 (by omega)
  have HS : Hid (ip c = (sm c || dg c || c == 95)) := rfl
  cases h1 : sm c
  · cases h2 : dg c
    · rw [h1] at c1; rw [h2] at c2
      by_cases h3 : (c.toNat : Int) = 95
      · have HE : Hid (ip c = true) := by
          have : c = 95 := he.1 h3
          show _ = _
          rw [HS.out]; simp [this]
        clear HS h1 h2 he
        have hb : ((c.toNat : Int) == 95) = true := by simpa using h3
        clear h3
        go_enter Tryz.func92, Tryz.ntmps92
        go_wp2_with (first | (go_at_call 90; refine (c1 _).mono ?_; rintro e w' ⟨rfl, rfl⟩) | (go_at_call 127; refine (c2 _).mono ?_; rintro e w' ⟨rfl, rfl⟩))
        go_ret
        exact ⟨by rw [HE.out]; rfl, rfl⟩
      · have HE : Hid (ip c = false) := by
          have : ¬ c = 95 := fun h => h3 (he.2 h)
          show _ = _
          rw [HS.out]; simp [this, h1, h2]
        clear HS h1 h2 he
        have hb : ((c.toNat : Int) == 95) = false := by simpa using h3
        clear h3
        go_enter Tryz.func92, Tryz.ntmps92
        go_wp2_with (first | (go_at_call 90; refine (c1 _).mono ?_; rintro e w' ⟨rfl, rfl⟩) | (go_at_call 127; refine (c2 _).mono ?_; rintro e w' ⟨rfl, rfl⟩))
        go_ret
        exact ⟨by rw [HE.out]; rfl, rfl⟩
    · have HE : Hid (ip c = true) := by show _ = _; rw [HS.out]; simp [h2]
      rw [h1] at c1; rw [h2] at c2
      clear HS h1 h2 he
      go_enter Tryz.func92, Tryz.ntmps92
      go_wp2_with (first | (go_at_call 90; refine (c1 _).mono ?_; rintro e w' ⟨rfl, rfl⟩) | (go_at_call 127; refine (c2 _).mono ?_; rintro e w' ⟨rfl, rfl⟩))
      go_ret
      exact ⟨by rw [HE.out]; rfl, rfl⟩
  · have HE : Hid (ip c = true) := by show _ = _; rw [HS.out]; simp [h1]
    rw [h1] at c1
    clear HS h1 he c2
    go_enter Tryz.func92, Tryz.ntmps92
    go_wp2_with (go_at_call 90; refine (c1 _).mono ?_; rintro e w' ⟨rfl, rfl⟩)
    go_ret
    exact ⟨by rw [HE.out]; rfl, rfl⟩
theorem byte_at (s : List UInt8) (k : Nat) (h : k < s.length) : ∃ c, s[k]? = some c ∧ s.drop k = c :: s.drop (k + 1) := ⟨s[k], List.getElem?_eq_getElem h, List.drop_eq_getElem_cons h⟩
theorem str_at (s : List UInt8) (k : Nat) (c : UInt8) (h : s[k]? = some c) : ∀ hh, (ByteArray.mk s.toArray)[k]'hh = c := by
  intro hh
  obtain ⟨hk, e⟩ := List.getElem?_eq_some_iff.1 h
  exact e
theorem run_any (k : Nat) (he : ∀ args w, (callFunc k args).run Tryz.prog w = .ok (.enter k args) w) (p : UInt8 → Bool) (hk : ∀ (c : UInt8) (W : World), Calls Tryz.prog k #[.int .u8 c.toNat] W fun e w' => e = .returned (.bool (p c)) ∧ w' = W) (s : List UInt8) (w : World) (hl : s.length ≤ 140737488355328) :
    Calls Tryz.prog 91 #[sv s, .func (.func k) #[] #[]] w fun e w' => e = .returned (.int .i64 (rn p s)) ∧ w' = w := by
  have HE0 : Hid (∀ args w, (callFunc k args).run Tryz.prog w = .ok (.enter k args) w) := he
  clear he
  go_enter Tryz.func91, Tryz.ntmps91
  go_wp2_with fail
  go_loopw [5] (fun i wr => ∃ n : Nat, i = .int .i64 n ∧ n ≤ s.length ∧ Hid (n + rn p (s.drop n) = rn p s) ∧ wr = w) (fun i _ => (s.length - (intOf i).toNat : Nat))
  case atStart => exact ⟨0, rfl, Nat.zero_le _, by show _ = _; simp, rfl⟩
  case round =>
    obtain ⟨n, rfl, hn, HN, hw⟩ := hrel
    subst hw
    rcases Nat.lt_or_ge n s.length with hlt | hge
    · obtain ⟨c, hc, hcd⟩ := byte_at s n hlt
      have hat := str_at s n c hc
      have hi : (n : Int) < s.length := by omega
      have hkc := hk c
      clear hk hc
      cases hp : p c
      · have HE : Hid ((n : Int) = rn p s) := by
          have := HN.out
          rw [hcd, rn, hp] at this
          show _ = _
          simp at this
          omega
        rw [hp] at hkc
        clear hcd hp HN
        go_wp2_with fail
        rw [HE0.out, Oper.upon_enter]
        refine (hkc _).mono ?_
        rintro e w' ⟨rfl, hw'⟩
        rw [hw']; clear hw' w'
        go_wp2_with fail
        go_ret
        exact ⟨by rw [← HE.out]; rfl, rfl⟩
      · have HE : Hid ((n + 1) + rn p (s.drop (n + 1)) = rn p s) := by
          have := HN.out
          rw [hcd, rn, hp] at this
          show _ = _
          simp at this
          omega
        rw [hp] at hkc
        clear hcd hp HN
        go_wp2_with fail
        rw [HE0.out, Oper.upon_enter]
        refine (hkc _).mono ?_
        rintro e w' ⟨rfl, hw'⟩
        rw [hw']; clear hw' w'
        go_wp2_with fail
        go_roundw
        case rel => exact ⟨n + 1, rfl, by omega, HE.out, trivial⟩
        case measure => simp [intOf]; omega
    · obtain rfl : n = s.length := by omega
      have HE : Hid (rn p s = s.length) := by
        have := HN.out
        rw [List.drop_length] at this
        show _ = _
        simp [rn] at this
        omega
      clear HN hge
      go_wp2_with fail
      go_ret
      exact ⟨by rw [HE.out]; rfl, rfl⟩
theorem runI (s : List UInt8) (w : World) (hl : s.length ≤ 140737488355328) : Calls Tryz.prog 91 #[sv s, .func (.func 92) #[] #[]] w fun e w' => e = .returned (.int .i64 (rn ip s)) ∧ w' = w :=
  run_any _ (enters_of Tryz.func92 (by kernel_rfl) rfl) ip isInPart_any s w hl
theorem part_any (s : List UInt8) (w : World) (hl : s.length ≤ 140737488355328) :
    Calls Tryz.prog 72 #[sv s] w fun e w' => e = .returned (.int .i64 (pt s)) ∧ w' = w := by
  cases s with
  | nil =>
    go_enter Tryz.func72, Tryz.ntmps72
    go_wp2_with fail
    go_ret
    exact ⟨rfl, rfl⟩
  | cons c t =>
    have c1 := fun W => isSmall_any c W
    have c2 := fun W => runI (c :: t) W hl
    have HP : Hid (pt (c :: t) = if sm c then rn ip (c :: t) else 0) := rfl
    have hat := str_at (c :: t) 0 c rfl
    have hne : (c :: t == []) = false := rfl
    have hne2 : ([] == c :: t) = false := rfl
    have hi : (0 : Int) < (c :: t).length := by simp
    generalize hs : c :: t = s at *
    clear hs
    cases hp : sm c
    · rw [hp] at c1
      have HE : Hid (pt s = 0) := by show _ = _; rw [HP.out, hp]; rfl
      clear HP hp
      go_enter Tryz.func72, Tryz.ntmps72
      go_wp2_with (go_at_call 90; refine (c1 _).mono ?_; rintro e w' ⟨rfl, rfl⟩)
      go_ret
      exact ⟨by rw [HE.out]; rfl, rfl⟩
    · rw [hp] at c1
      have HE : Hid (pt s = rn ip s) := by show _ = _; rw [HP.out, hp]; rfl
      clear HP hp
      go_enter Tryz.func72, Tryz.ntmps72
      go_wp2_with (first | (go_at_call 90; refine (c1 _).mono ?_; rintro e w' ⟨rfl, rfl⟩) | (go_at_call 91; refine (c2 _).mono ?_; rintro e w' ⟨rfl, rfl⟩))
      go_ret
      exact ⟨by rw [HE.out]; rfl, rfl⟩
end Go.Proofs.YtblafbbnplfpjaaGreatDoor
namespace Go.Proofs.YtblafbbnplfpjaaGreatDoor
open Go.RowKit Go.Shelf Go.Maps
set_option linter.unusedVariables false
set_option maxRecDepth 20000

def kwL : List (List UInt8) := [[99, 117, 114, 114, 101, 110, 99, 121], [112, 108, 97, 99, 101], [116, 97, 120], [114, 97, 116, 101], [101, 120, 101, 109, 112, 116], [108, 101, 97, 115, 116], [105, 110], [109, 111, 110, 101, 121], [114, 111, 117, 110, 100], [108, 105, 110, 101], [105, 110, 118, 111, 105, 99, 101], [111, 110], [105, 110, 115, 116, 101, 97, 100], [102, 111, 114], [102, 114, 111, 109], [116, 111], [119, 104, 101, 110], [111, 114], [97, 110, 100], [110, 111, 116], [98, 117, 121, 101, 114], [97, 109, 111, 117, 110, 116], [113, 117, 97, 110, 116, 105, 116, 121], [97, 98, 111, 118, 101], [102, 108, 111, 111, 114], [99, 101, 105, 108], [117, 112], [100, 111, 119, 110], [101, 118, 101, 110]]
theorem lawS : Keyed Tryz.prog 9 := string_keyed Tryz.underlying9
theorem zeroU (w : World) : (zeroValue 110).run Tryz.prog w = .ok (.agg #[]) w := by kernel_rfl
abbrev OwS (w : World) (b n : Nat) (D : DataW Unit) : Prop := w.ownsMap Tryz.prog 9 (unitElem (H := Unit)) b n D
theorem put_word {w : World} {b n : Nat} {D : DataW Unit} (h : OwS w b n D) (l : List UInt8) (hl : l.length ≤ 100) (hn : n < 1000) : ∃ w', (Instr.mapUpdate 112 (.map (some b)) (sv l) (.agg #[])).run Tryz.prog w = .ok () w' ∧ OwS w' b (n + 1) (D.put (.string l) (.agg [])) ∧ w.grownBy w' (some b) := by
  have hk : keyOf Tryz.prog 9 (sv l) = some (.string l) := by
    have := WideMaps.keyOf_string_mk (P := Tryz.prog) Tryz.underlying9 (s := ⟨l.toArray⟩) (by rw [bsize]; unfold maxLen; omega)
    simpa using this
  exact h.update lawS Tryz.underlying112 (by unfold maxLen; omega) hk unitElem_mk
set_option maxHeartbeats 2000000 in
set_option maxRecDepth 10000 in
theorem keptWords_any (w : World) : Calls Tryz.prog 73 #[] w fun e w' => e = .returned (.map (some w.heap.size)) ∧ OwS w' w.heap.size 29 (setOf (.agg []) (kwL.map Lit.string)) ∧ Below w.heap.size w w' := by
  have hmm := @run_makeMap Tryz.prog
  have o0 : OwS (w.alloc (.map #[] 0)) w.heap.size 0 (.map []) := World.ownsMap_made w _ _ _
  have b0 : Below w.heap.size w (w.alloc (.map #[] 0)) := (Below.refl _ _).alloc (Nat.le_refl _) _
  obtain ⟨w1, r1, o1, g1⟩ := put_word o0 [99, 117, 114, 114, 101, 110, 99, 121] (by decide) (by omega)
  have b1 : Below w.heap.size w w1 := b0.grown g1 b0.size (fun k hk => by cases hk; exact Nat.le_refl _)
  clear o0 b0 g1
  obtain ⟨w2, r2, o2, g2⟩ := put_word o1 [112, 108, 97, 99, 101] (by decide) (by omega)
  have b2 : Below w.heap.size w w2 := b1.grown g2 b1.size (fun k hk => by cases hk; exact Nat.le_refl _)
  clear o1 b1 g2
  obtain ⟨w3, r3, o3, g3⟩ := put_word o2 [116, 97, 120] (by decide) (by omega)
  have b3 : Below w.heap.size w w3 := b2.grown g3 b2.size (fun k hk => by cases hk; exact Nat.le_refl _)
  clear o2 b2 g3
  obtain ⟨w4, r4, o4, g4⟩ := put_word o3 [114, 97, 116, 101] (by decide) (by omega)
  have b4 : Below w.heap.size w w4 := b3.grown g4 b3.size (fun k hk => by cases hk; exact Nat.le_refl _)
  clear o3 b3 g4
  obtain ⟨w5, r5, o5, g5⟩ := put_word o4 [101, 120, 101, 109, 112, 116] (by decide) (by omega)
  have b5 : Below w.heap.size w w5 := b4.grown g5 b4.size (fun k hk => by cases hk; exact Nat.le_refl _)
  clear o4 b4 g5
  obtain ⟨w6, r6, o6, g6⟩ := put_word o5 [108, 101, 97, 115, 116] (by decide) (by omega)
  have b6 : Below w.heap.size w w6 := b5.grown g6 b5.size (fun k hk => by cases hk; exact Nat.le_refl _)
  clear o5 b5 g6
  obtain ⟨w7, r7, o7, g7⟩ := put_word o6 [105, 110] (by decide) (by omega)
  have b7 : Below w.heap.size w w7 := b6.grown g7 b6.size (fun k hk => by cases hk; exact Nat.le_refl _)
  clear o6 b6 g7
  obtain ⟨w8, r8, o8, g8⟩ := put_word o7 [109, 111, 110, 101, 121] (by decide) (by omega)
  have b8 : Below w.heap.size w w8 := b7.grown g8 b7.size (fun k hk => by cases hk; exact Nat.le_refl _)
  clear o7 b7 g8
  obtain ⟨w9, r9, o9, g9⟩ := put_word o8 [114, 111, 117, 110, 100] (by decide) (by omega)
  have b9 : Below w.heap.size w w9 := b8.grown g9 b8.size (fun k hk => by cases hk; exact Nat.le_refl _)
  clear o8 b8 g9
  obtain ⟨w10, r10, o10, g10⟩ := put_word o9 [108, 105, 110, 101] (by decide) (by omega)
  have b10 : Below w.heap.size w w10 := b9.grown g10 b9.size (fun k hk => by cases hk; exact Nat.le_refl _)
  clear o9 b9 g10
  obtain ⟨w11, r11, o11, g11⟩ := put_word o10 [105, 110, 118, 111, 105, 99, 101] (by decide) (by omega)
  have b11 : Below w.heap.size w w11 := b10.grown g11 b10.size (fun k hk => by cases hk; exact Nat.le_refl _)
  clear o10 b10 g11
  obtain ⟨w12, r12, o12, g12⟩ := put_word o11 [111, 110] (by decide) (by omega)
  have b12 : Below w.heap.size w w12 := b11.grown g12 b11.size (fun k hk => by cases hk; exact Nat.le_refl _)
  clear o11 b11 g12
  obtain ⟨w13, r13, o13, g13⟩ := put_word o12 [105, 110, 115, 116, 101, 97, 100] (by decide) (by omega)
  have b13 : Below w.heap.size w w13 := b12.grown g13 b12.size (fun k hk => by cases hk; exact Nat.le_refl _)
  clear o12 b12 g13
  obtain ⟨w14, r14, o14, g14⟩ := put_word o13 [102, 111, 114] (by decide) (by omega)
  have b14 : Below w.heap.size w w14 := b13.grown g14 b13.size (fun k hk => by cases hk; exact Nat.le_refl _)
  clear o13 b13 g14
  obtain ⟨w15, r15, o15, g15⟩ := put_word o14 [102, 114, 111, 109] (by decide) (by omega)
  have b15 : Below w.heap.size w w15 := b14.grown g15 b14.size (fun k hk => by cases hk; exact Nat.le_refl _)
  clear o14 b14 g15
  obtain ⟨w16, r16, o16, g16⟩ := put_word o15 [116, 111] (by decide) (by omega)
  have b16 : Below w.heap.size w w16 := b15.grown g16 b15.size (fun k hk => by cases hk; exact Nat.le_refl _)
  clear o15 b15 g16
  obtain ⟨w17, r17, o17, g17⟩ := put_word o16 [119, 104, 101, 110] (by decide) (by omega)
  have b17 : Below w.heap.size w w17 := b16.grown g17 b16.size (fun k hk => by cases hk; exact Nat.le_refl _)
  clear o16 b16 g17
  obtain ⟨w18, r18, o18, g18⟩ := put_word o17 [111, 114] (by decide) (by omega)
  have b18 : Below w.heap.size w w18 := b17.grown g18 b17.size (fun k hk => by cases hk; exact Nat.le_refl _)
  clear o17 b17 g18
  obtain ⟨w19, r19, o19, g19⟩ := put_word o18 [97, 110, 100] (by decide) (by omega)
  have b19 : Below w.heap.size w w19 := b18.grown g19 b18.size (fun k hk => by cases hk; exact Nat.le_refl _)
  clear o18 b18 g19
  obtain ⟨w20, r20, o20, g20⟩ := put_word o19 [110, 111, 116] (by decide) (by omega)
  have b20 : Below w.heap.size w w20 := b19.grown g20 b19.size (fun k hk => by cases hk; exact Nat.le_refl _)
  clear o19 b19 g20
  obtain ⟨w21, r21, o21, g21⟩ := put_word o20 [98, 117, 121, 101, 114] (by decide) (by omega)
  have b21 : Below w.heap.size w w21 := b20.grown g21 b20.size (fun k hk => by cases hk; exact Nat.le_refl _)
  clear o20 b20 g21
  obtain ⟨w22, r22, o22, g22⟩ := put_word o21 [97, 109, 111, 117, 110, 116] (by decide) (by omega)
  have b22 : Below w.heap.size w w22 := b21.grown g22 b21.size (fun k hk => by cases hk; exact Nat.le_refl _)
  clear o21 b21 g22
  obtain ⟨w23, r23, o23, g23⟩ := put_word o22 [113, 117, 97, 110, 116, 105, 116, 121] (by decide) (by omega)
  have b23 : Below w.heap.size w w23 := b22.grown g23 b22.size (fun k hk => by cases hk; exact Nat.le_refl _)
  clear o22 b22 g23
  obtain ⟨w24, r24, o24, g24⟩ := put_word o23 [97, 98, 111, 118, 101] (by decide) (by omega)
  have b24 : Below w.heap.size w w24 := b23.grown g24 b23.size (fun k hk => by cases hk; exact Nat.le_refl _)
  clear o23 b23 g24
  obtain ⟨w25, r25, o25, g25⟩ := put_word o24 [102, 108, 111, 111, 114] (by decide) (by omega)
  have b25 : Below w.heap.size w w25 := b24.grown g25 b24.size (fun k hk => by cases hk; exact Nat.le_refl _)
  clear o24 b24 g25
  obtain ⟨w26, r26, o26, g26⟩ := put_word o25 [99, 101, 105, 108] (by decide) (by omega)
  have b26 : Below w.heap.size w w26 := b25.grown g26 b25.size (fun k hk => by cases hk; exact Nat.le_refl _)
  clear o25 b25 g26
  obtain ⟨w27, r27, o27, g27⟩ := put_word o26 [117, 112] (by decide) (by omega)
  have b27 : Below w.heap.size w w27 := b26.grown g27 b26.size (fun k hk => by cases hk; exact Nat.le_refl _)
  clear o26 b26 g27
  obtain ⟨w28, r28, o28, g28⟩ := put_word o27 [100, 111, 119, 110] (by decide) (by omega)
  have b28 : Below w.heap.size w w28 := b27.grown g28 b27.size (fun k hk => by cases hk; exact Nat.le_refl _)
  clear o27 b27 g28
  obtain ⟨w29, r29, o29, g29⟩ := put_word o28 [101, 118, 101, 110] (by decide) (by omega)
  have b29 : Below w.heap.size w w29 := b28.grown g29 b28.size (fun k hk => by cases hk; exact Nat.le_refl _)
  clear o28 b28 g29
  have HO : Hid (OwS w29 w.heap.size 29 (setOf (.agg []) (kwL.map Lit.string))) := o29
  have HB : Hid (Below w.heap.size w w29) := b29
  clear o29 b29
  go_enter Tryz.func73, Tryz.ntmps73
  go_wp2_with fail
  go_ret
  exact ⟨rfl, HO.out, HB.out⟩
def wdB (s : List UInt8) : Bool := decide (s ≠ []) && decide (s.length ≤ 24) && decide (pt s = s.length) && !(kwL.any (fun x => x == s))
theorem has_kept (s : List UInt8) : Maps.has (setOf (H := Unit) (.agg []) (kwL.map Lit.string)) (.string s) = kwL.any (fun x => x == s) := by
  rw [has_setOf _ _ _ (by intro x hx; obtain ⟨y, -, rfl⟩ := List.mem_map.1 hx; trivial), List.any_map]
  congr 1
set_option maxHeartbeats 1000000 in
theorem word_B (s : List UInt8) (w : World) : Calls Tryz.prog 48 #[sv s] w fun e w' => e = .returned (.bool (wdB s)) ∧ Below w.heap.size w w' := by
  cases hs0 : s with
  | nil =>
    go_enter Tryz.func48, Tryz.ntmps48
    go_wp2_with fail
    go_ret
    exact ⟨rfl, Below.refl _ _⟩
  | cons c t =>
    rw [← hs0]
    have hne : s ≠ [] := by rw [hs0]; simp
    have n1 : (s == []) = false := by simpa using hne
    have n2 : ([] == s) = false := by simpa using hne
    clear hs0
    rcases Nat.lt_or_ge 24 s.length with h24 | h24
    · have HE : Hid (wdB s = false) := by show _ = _; unfold wdB; simp; intro h; omega
      have hi : (24 : Int) < s.length := by omega
      clear h24 hne
      go_enter Tryz.func48, Tryz.ntmps48
      go_wp2_with fail
      go_ret
      exact ⟨by rw [HE.out]; rfl, Below.refl _ _⟩
    · have hi : (s.length : Int) ≤ 24 := by omega
      have hp := fun W => part_any s W (by omega)
      have hpl := pt_le s
      have HW : Hid (wdB s = (decide (pt s = s.length) && !(kwL.any (fun x => x == s)))) := by show _ = _; unfold wdB; simp [hne, h24]
      generalize pt s = q at *
      by_cases hq : q = s.length
      · subst hq
        have HE : Hid (wdB s = !(kwL.any (fun x => x == s))) := by show _ = _; rw [HW.out]; simp
        have hkey : keyOf Tryz.prog 9 (sv s) = some (.string s) := by
          have := WideMaps.keyOf_string_mk (P := Tryz.prog) Tryz.underlying9 (s := ⟨s.toArray⟩) (by rw [bsize]; unfold maxLen; omega)
          simpa using this
        clear HW h24 hpl hne
        go_enter Tryz.func48, Tryz.ntmps48
        go_wp2_with fail
        refine (hp _).mono ?_
        rintro e w' ⟨rfl, hw'⟩
        rw [hw']; clear hw' w' hp
        go_wp2_with fail
        refine (keptWords_any w).mono ?_
        rintro e w1 ⟨rfl, ho, hb⟩
        have HO : Hid (OwS w1 w.heap.size 29 (setOf (.agg []) (kwL.map Lit.string))) := ho
        have HB : Hid (Below w.heap.size w w1) := hb
        clear ho hb
        go_wp2_with (at_lookup; refine wpList_lookup_own_unit _ rfl _ _ 112 rfl 9 110 lawS Tryz.underlying112 (zeroU _) w.heap.size 29 _ rfl HO.out _ _ rfl hkey ?_; rw [has_kept])
        go_ret
        exact ⟨by rw [HE.out]; rfl, HB.out.alloc HB.out.size _⟩
      · have HE : Hid (wdB s = false) := by show _ = _; rw [HW.out]; simp [hq]
        have hqi : (q : Int) < s.length := by omega
        clear HW hq h24 hne
        go_enter Tryz.func48, Tryz.ntmps48
        go_wp2_with fail
        refine (hp _).mono ?_
        rintro e w' ⟨rfl, hw'⟩
        rw [hw']; clear hw' w' hp
        go_wp2_with fail
        go_ret
        exact ⟨by rw [HE.out]; rfl, Below.refl _ _⟩
end Go.Proofs.YtblafbbnplfpjaaGreatDoor
