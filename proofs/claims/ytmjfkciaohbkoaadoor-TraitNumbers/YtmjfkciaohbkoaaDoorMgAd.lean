/-
  Put together of: Plus, Less, Over.
-/
import Derived.Test.YtmjfkciaohbkoaaDoorMgAa
import Derived.Test.YtmjfkciaohbkoaaDoorBsA
import Derived.Deep.RegionWith
import Derived.Test.YtmjfkciaohbkoaaDoorMgAb
import Derived.Test.YtmjfkciaohbkoaaDoorMgAc
import Derived.Deep.RegionHeld3
import Derived.Lib.Strings
namespace Go.Proofs.YtmjfkciaohbkoaaDoor
open Go.RowKit Go.Shelf

/-- What holds of the row behind k places. -/
def PInv (xs ys cs : List Int) (n k : Nat) (c : Int) : Prop :=
  cs.length = n ∧ Limbs cs ∧ (∀ j, k ≤ j → cs.getD j 0 = (xs.take (usedN xs)).getD j 0) ∧ num (cs.take k) + c * pw k = num (xs.take k) + num (ys.take k) ∧ 0 ≤ c ∧ c ≤ 1

theorem pinv_start {xs ys : List Int} {n : Nat} (hx : Limbs xs) (h : usedN xs ≤ n) : PInv xs ys (xs.take (usedN xs) ++ List.replicate (n - usedN xs) 0) n 0 0 :=
  ⟨wide_length xs n h, wide_limbs hx n, fun j _ => (wide_getD xs n j).trans (getD_used xs j).symm, by simp [num], by omega, by omega⟩
theorem pinv_step {xs ys cs : List Int} {n k : Nat} {c : Int} (hy : Limbs ys) (I : PInv xs ys cs n k c) (h : k < n) :
    PInv xs ys (cs.set k ((cs.getD k 0 + ys.getD k 0 + c) % 18446744073709551616)) n (k + 1) ((cs.getD k 0 + ys.getD k 0 + c) / 18446744073709551616) := by
  obtain ⟨i1, i2, i3, i4, i5, i6⟩ := I
  have b1 := i2.getD k; have b2 := hy.getD k
  have e := i3 k (Nat.le_refl _)
  rw [getD_used] at e
  refine ⟨by rw [List.length_set]; exact i1, i2.set k ⟨by omega, by omega⟩, fun j hj => by rw [getD_set_other _ _ _ _ (by omega)]; exact i3 j (by omega), ?_, by omega, by omega⟩
  have hc := carry_step (v := (cs.getD k 0 + ys.getD k 0 + c) % 18446744073709551616) (c' := (cs.getD k 0 + ys.getD k 0 + c) / 18446744073709551616) (p := pw k) (s := cs.getD k 0 + ys.getD k 0 + c) (by omega)
  rw [num_set_take _ _ _ (by omega), num_take_succ, num_take_succ, pw, ← e]
  rw [Int.add_mul, Int.add_mul] at hc
  omega
theorem pinv_end {xs ys cs : List Int} {n : Nat} {c : Int} (hx : Limbs xs) (hy : Limbs ys) (I : PInv xs ys cs n n c) (h : n = max (usedN xs) (usedN ys) + 1) : num cs = num xs + num ys := by
  obtain ⟨i1, i2, i3, i4, i5, i6⟩ := I
  rw [num_take_used xs (by omega), num_take_used ys (by omega), List.take_of_length_le (by omega)] at i4
  have h1 := num_lt_used hx; have h2 := num_lt_used hy
  have h3 := pw_mono (show usedN xs ≤ n - 1 by omega); have h4 := pw_mono (show usedN ys ≤ n - 1 by omega)
  have h5 : pw n = 18446744073709551616 * pw (n - 1) := by
    obtain ⟨m, rfl⟩ : ∃ m, n = m + 1 := ⟨n - 1, by omega⟩
    rfl
  have h6 := pw_pos (n - 1)
  have h7 := num_nonneg i2
  have : c = 0 ∨ c = 1 := by omega
  rcases this with rfl | rfl
  · simpa using i4
  · rw [Int.one_mul] at i4; omega

end Go.Proofs.YtmjfkciaohbkoaaDoor

namespace Go.Proofs.YtmjfkciaohbkoaaDoor
open Go.RowKit Go.Shelf

/-- What holds of the row behind k places. -/
def LInv (xs ys cs : List Int) (n k : Nat) (c : Int) : Prop :=
  cs.length = n ∧ Limbs cs ∧ (∀ j, k ≤ j → cs.getD j 0 = (xs.take (usedN xs)).getD j 0) ∧ num (cs.take k) - c * pw k = num (xs.take k) - num (ys.take k) ∧ 0 ≤ c ∧ c ≤ 1

theorem linv_start {xs ys : List Int} (hx : Limbs xs) : LInv xs ys (xs.take (usedN xs)) (usedN xs) 0 0 :=
  ⟨by have := usedN_le xs; rw [List.length_take]; omega, hx.take _, fun j _ => rfl, by simp [num], by omega, by omega⟩
theorem borrow_step {v c' s p : Int} (h : v - 18446744073709551616 * c' = s) : v * p - c' * (18446744073709551616 * p) = s * p := by
  rw [← h, Int.sub_mul, Int.mul_comm 18446744073709551616 c', Int.mul_assoc]
theorem linv_step {xs ys cs : List Int} {n k : Nat} {c : Int} (hy : Limbs ys) (I : LInv xs ys cs n k c) (h : k < n) :
    LInv xs ys (cs.set k ((cs.getD k 0 - ys.getD k 0 - c) % 18446744073709551616)) n (k + 1) (-((cs.getD k 0 - ys.getD k 0 - c) / 18446744073709551616)) := by
  obtain ⟨i1, i2, i3, i4, i5, i6⟩ := I
  have b1 := i2.getD k; have b2 := hy.getD k
  have e := i3 k (Nat.le_refl _)
  rw [getD_used] at e
  refine ⟨by rw [List.length_set]; exact i1, i2.set k ⟨by omega, by omega⟩, fun j hj => by rw [getD_set_other _ _ _ _ (by omega)]; exact i3 j (by omega), ?_, by omega, by omega⟩
  have hc := borrow_step (v := (cs.getD k 0 - ys.getD k 0 - c) % 18446744073709551616) (c' := -((cs.getD k 0 - ys.getD k 0 - c) / 18446744073709551616)) (p := pw k) (s := cs.getD k 0 - ys.getD k 0 - c) (by omega)
  rw [num_set_take _ _ _ (by omega), num_take_succ, num_take_succ, pw, ← e]
  rw [Int.sub_mul, Int.sub_mul] at hc
  omega
theorem linv_end {xs ys cs : List Int} {n : Nat} {c : Int} (hx : Limbs xs) (hy : Limbs ys) (I : LInv xs ys cs n n c) (hn : n = usedN xs) (h : num ys ≤ num xs) : num cs = num xs - num ys := by
  obtain ⟨i1, i2, i3, i4, i5, i6⟩ := I
  have hle : usedN ys ≤ usedN xs := by
    rcases Nat.lt_or_ge (usedN xs) (usedN ys) with h' | h'
    · have := num_lt_len hx hy h'; omega
    · exact h'
  rw [num_take_used xs (by omega), num_take_used ys (by omega), List.take_of_length_le (by omega)] at i4
  have h1 := num_lt i2
  rw [i1] at h1
  have : c = 0 ∨ c = 1 := by omega
  rcases this with rfl | rfl
  · simpa using i4
  · rw [Int.one_mul] at i4; omega

end Go.Proofs.YtmjfkciaohbkoaaDoor

namespace Go.Proofs.YtmjfkciaohbkoaaDoor
open Go.RowKit Go.Shelf

/-- What holds where the places from t on are divided. -/
def OInv (xs cs : List Int) (b : Int) (n t : Nat) (r : Int) : Prop :=
  cs.length = n ∧ Limbs cs ∧ (∀ j, j < t → cs.getD j 0 = (xs.take (usedN xs)).getD j 0) ∧ num ((xs.take (usedN xs)).drop t) = num (cs.drop t) * b + r ∧ 0 ≤ r ∧ r < b

theorem oinv_start {xs : List Int} {b : Int} (hx : Limbs xs) (hb : 0 < b) : OInv xs (xs.take (usedN xs)) b (usedN xs) (usedN xs) 0 := by
  have hu := usedN_le xs
  have hl : (xs.take (usedN xs)).length = usedN xs := by rw [List.length_take]; omega
  refine ⟨hl, hx.take _, fun j _ => rfl, ?_, by omega, hb⟩
  have e : (xs.take (usedN xs)).drop (usedN xs) = [] := List.drop_eq_nil_of_le (by omega)
  rw [e]; simp [num]
theorem oinv_step {xs cs : List Int} {b : Int} {n t : Nat} {r : Int} (hn : n = usedN xs) (hb : b < 18446744073709551616) (I : OInv xs cs b n (t + 1) r) (h : t < n) :
    OInv xs (cs.set t ((r * 18446744073709551616 + cs.getD t 0) / b)) b n t ((r * 18446744073709551616 + cs.getD t 0) % b) := by
  obtain ⟨i1, i2, i3, i4, i5, i6⟩ := I
  have hu := usedN_le xs
  have hl : (xs.take (usedN xs)).length = n := by rw [List.length_take]; omega
  have b1 := i2.getD t
  have e := i3 t (by omega)
  have hm := Int.emod_nonneg (r * 18446744073709551616 + cs.getD t 0) (b := b) (by omega)
  have hml := Int.emod_lt_of_pos (r * 18446744073709551616 + cs.getD t 0) (b := b) (by omega)
  have hd0 : 0 ≤ (r * 18446744073709551616 + cs.getD t 0) / b := Int.ediv_nonneg (by omega) (by omega)
  have hd1 : (r * 18446744073709551616 + cs.getD t 0) / b < 18446744073709551616 := Int.ediv_lt_of_lt_mul (by omega) (by omega)
  refine ⟨by rw [List.length_set]; exact i1, i2.set t ⟨hd0, hd1⟩, fun j hj => by rw [getD_set_other _ _ _ _ (by omega)]; exact i3 j (by omega), ?_, hm, hml⟩
  have hdm := Int.mul_ediv_add_emod (r * 18446744073709551616 + cs.getD t 0) b
  rw [num_set_drop _ _ _ (by omega), num_drop_at _ _ (by omega), i4, ← e, Int.add_mul, Int.mul_assoc]
  rw [Int.mul_comm b] at hdm
  omega
theorem oinv_end {xs cs : List Int} {b : Int} {n : Nat} {r : Int} (I : OInv xs cs b n 0 r) : num xs = num cs * b + r := by
  have := I.2.2.2.1
  rw [List.drop_zero, List.drop_zero, num_take_used xs (Nat.le_refl _)] at this; exact this

end Go.Proofs.YtmjfkciaohbkoaaDoor
namespace Go.Proofs.YtmjfkciaohbkoaaDoor
open Go.RowKit Go.Shelf

/-- A number that can be read: trimmed, not long. -/
def Nt (w : World) (a : Option Addr) (len cap : Nat) (zs : List Int) : Prop := Sl w a len zs ∧ usedN zs = len ∧ len ≤ cap ∧ len ≤ 4096
theorem Nt.below {w w' : World} {a : Option Addr} {len cap : Nat} {zs : List Int} {B : Nat} (h : Nt w a len cap zs) (b : Below B w w') (hB : w.heap.size ≤ B) : Nt w' a len cap zs := ⟨h.1.below b hB, h.2⟩
theorem Nt.after {w w' : World} (b : Below w.heap.size w w') {a : Option Addr} {len cap : Nat} {zs : List Int} (h : Nt w a len cap zs) : Nt w' a len cap zs := h.below b (Nat.le_refl _)
theorem Nt.limbs {w : World} {a : Option Addr} {len cap : Nat} {zs : List Int} (h : Nt w a len cap zs) : Limbs zs := h.1.2.1
theorem Nt.nil (w : World) : Nt w none 0 0 [] := ⟨⟨rfl, Limbs.nil, fun h => absurd h (by decide)⟩, rfl, Nat.le_refl _, by omega⟩

/-- A list of limbs is no variable: a store there leaves it. -/
theorem Sl.store {w : World} {a : Option Addr} {len : Nat} {zs : List Int} (h : Sl w a len zs) {b : Nat} {t : TypeId} {x : Option Addr} {y z : Nat} (V : Va w b t #[.slice x y z]) (v : Value) : Sl (w.setCell ⟨b, 0, none⟩ v) a len zs := by
  obtain ⟨h1, h2, h3⟩ := h
  refine ⟨h1, h2, fun h0 => ?_⟩
  obtain ⟨bb, off, rfl, hc⟩ := h3 h0
  refine ⟨bb, off, rfl, fun i hi => ?_⟩
  have hne : bb ≠ b := by
    rintro rfl
    have e := hc 0 h0
    rw [V.cellAt] at e
    rcases Nat.eq_zero_or_pos (off + 0) with h' | h'
    · rw [h'] at e; simp at e
    · rw [Array.getElem?_eq_none (by simp; omega)] at e; cases e
  rw [← hc i hi]
  exact World.cell?_of_block (w := w) (Below.heap_setCell _ _ _ _ hne)
theorem Nt.store {w : World} {a : Option Addr} {len cap : Nat} {zs : List Int} (h : Nt w a len cap zs) {b : Nat} {t : TypeId} {x : Option Addr} {y z : Nat} (V : Va w b t #[.slice x y z]) (v : Value) : Nt (w.setCell ⟨b, 0, none⟩ v) a len cap zs := ⟨h.1.store V v, h.2⟩

/-- How many limbs so many binary digits take. -/
theorem bits_limbs {zs : List Int} (h : Limbs zs) : 0 ≤ bitsN zs ∧ (bitsN zs + 64 - 1) / 64 = usedN zs ∧ bitsN zs ≤ 64 * usedN zs := by
  rcases Nat.eq_zero_or_pos (usedN zs) with h0 | h0
  · have : bitsN zs = 0 := bits_nought h0
    rw [this, h0]; decide
  · have ht := usedN_top zs h0
    have hw := h.getD (usedN zs - 1)
    obtain ⟨p1, p2⟩ := bitLen_spec 64 (zs.getD (usedN zs - 1) 0).toNat (by omega) (by omega)
    have h1 : Lib.bitLen (zs.getD (usedN zs - 1) 0).toNat ≤ 64 := Lib.bitLen_le _ 64 (by omega) (by omega)
    have h2 : Lib.bitLen (zs.getD (usedN zs - 1) 0).toNat ≠ 0 := by
      intro e
      rw [e] at p1
      omega
    simp only [bitsN, if_neg (show usedN zs ≠ 0 by omega)]
    omega

/-- made, told by the number. -/
theorem nt_made {w : World} {a : Option Addr} {len cap : Nat} {zs : List Int} (h : Sl w a len zs) (hc : len ≤ cap) (hu : usedN zs ≤ 4096) : Nt w a (usedN zs) cap (zs.take (usedN zs)) := by
  have hul := usedN_le zs
  have hz := h.1
  exact ⟨h.take (by omega), usedN_take zs (Nat.le_refl _), by omega, hu⟩
theorem used_of_lt {zs : List Int} (h : Limbs zs) {n : Nat} (hlt : num zs < pw n) : usedN zs ≤ n := by
  rcases Nat.lt_or_ge n (usedN zs) with h' | h'
  · have := num_ge_used h (by omega); have := pw_mono (show n ≤ usedN zs - 1 by omega); omega
  · exact h'
theorem lt_of_used {zs : List Int} (h : Limbs zs) {n : Nat} (hu : usedN zs ≤ n) : num zs < pw n := Int.lt_of_lt_of_le (num_lt_used h) (pw_mono hu)
theorem Nt.lt {w : World} {a : Option Addr} {len cap : Nat} {zs : List Int} (h : Nt w a len cap zs) : num zs < pw 4096 := lt_of_used h.limbs (by have := h.2; omega)
theorem Nt.nonneg {w : World} {a : Option Addr} {len cap : Nat} {zs : List Int} (h : Nt w a len cap zs) : 0 ≤ num zs := num_nonneg h.limbs
theorem Nt.zero {w : World} {a : Option Addr} {len cap : Nat} {zs : List Int} (h : Nt w a len cap zs) : ((len : Int) == 0) = decide (num zs = 0) := by
  have e := num_eq_zero h.limbs
  rw [h.2.1] at e
  rw [Bool.eq_iff_iff]; simp; omega
/-- One list a number. -/
theorem Nt.one {w w' : World} {a a' : Option Addr} {len len' cap cap' : Nat} {zs zs' : List Int} (h : Nt w a len cap zs) (h' : Nt w' a' len' cap' zs') (e : num zs = num zs') : len = len' ∧ zs = zs' := by
  obtain ⟨e1, e2⟩ := one_list h.limbs h'.limbs h.1.1 h.2.1 e
  have hz := h'.1.1
  rw [h'.2.1] at e1 e2
  rw [List.take_of_length_le (by omega)] at e2
  exact ⟨e1, e2⟩

end Go.Proofs.YtmjfkciaohbkoaaDoor

namespace Go.Proofs.YtmjfkciaohbkoaaDoor
open Go.RowKit Go.Shelf

/-- Block g alone may have turned. -/
structure Only (g : Nat) (w w' : World) : Prop where
  bel : Below g w w'
  oth : ∀ k, k ≠ g → w'.heap[k]? = w.heap[k]?
theorem Only.refl (g : Nat) (w : World) : Only g w w := ⟨Below.refl _ _, fun _ _ => rfl⟩
theorem Only.trans {g : Nat} {a b c : World} (h : Only g a b) (k : Only g b c) : Only g a c := ⟨h.bel.trans k.bel, fun i hi => (k.oth i hi).trans (h.oth i hi)⟩
theorem Only.drew {g : Nat} {a w : World} (h : Only g a w) : Only g a w.drew := ⟨h.bel.drew, h.oth⟩
theorem Only.drewN {g : Nat} {a w : World} (h : Only g a w) (n : Nat) : Only g a (w.drewN n) := ⟨below_drewN h.bel n, h.oth⟩
theorem Only.set {g : Nat} {a w : World} (h : Only g a w) (i : Nat) (v : Value) : Only g a (w.setCell ⟨g, i, none⟩ v) :=
  ⟨h.bel.setCell (p := ⟨g, i, none⟩) (Nat.le_refl _) v, fun k hk => (Below.heap_setCell _ _ _ _ hk).trans (h.oth k hk)⟩
theorem Only.below {g B : Nat} {a w : World} (h : Only g a w) (hB : B ≤ g) : Below B a w := h.bel.mono hB
theorem Va.only {g : Nat} {w w' : World} {b : Nat} {t : TypeId} {cs : Array Value} (h : Va w b t cs) (o : Only g w w') (hne : b ≠ g) : Va w' b t cs := by
  unfold Va at *; rw [o.oth b hne]; exact h

/-- A list that does not lie in block g. -/
def Sx (g : Nat) (w : World) (a : Option Addr) (len : Nat) (zs : List Int) : Prop := Sl w a len zs ∧ (0 < len → ∀ p, a = some p → p.block ≠ g)
theorem Sx.only {g : Nat} {w w' : World} {a : Option Addr} {len : Nat} {zs : List Int} (h : Sx g w a len zs) (o : Only g w w') : Sx g w' a len zs := by
  obtain ⟨⟨h1, h2, h3⟩, h4⟩ := h
  refine ⟨⟨h1, h2, fun h0 => ?_⟩, h4⟩
  obtain ⟨b, off, rfl, hc⟩ := h3 h0
  refine ⟨b, off, rfl, fun i hi => ?_⟩
  rw [← hc i hi]
  exact World.cell?_of_block (w := w) (o.oth b (h4 h0 _ rfl))
theorem Sl.lt {w : World} {a : Option Addr} {len : Nat} {zs : List Int} (h : Sl w a len zs) (h0 : 0 < len) {p : Addr} (hp : a = some p) : p.block < w.heap.size := by
  obtain ⟨b, off, rfl, hc⟩ := h.2.2 h0
  cases hp
  have hh := hc 0 h0
  rcases Nat.lt_or_ge b w.heap.size with h' | h'
  · exact h'
  · simp [World.cell?, Array.getElem?_eq_none h'] at hh
theorem Sl.apart {w w' : World} {a : Option Addr} {len : Nat} {zs : List Int} {g : Nat} (h : Sl w a len zs) (b : Below w.heap.size w w') (hg : w.heap.size ≤ g) : Sx g w' a len zs :=
  ⟨h.below b (Nat.le_refl _), fun h0 p hp => by have := h.lt h0 hp; omega⟩
end Go.Proofs.YtmjfkciaohbkoaaDoor

namespace Go.Proofs.YtmjfkciaohbkoaaDoor
open Go.RowKit Go.Shelf

end Go.Proofs.YtmjfkciaohbkoaaDoor
namespace Go.Proofs.YtmjfkciaohbkoaaDoor
open Go.RowKit Go.Shelf

end Go.Proofs.YtmjfkciaohbkoaaDoor

namespace Go.Proofs.YtmjfkciaohbkoaaDoor
open Go.RowKit Go.Shelf

theorem Nt.only {g : Nat} {w w' : World} {a : Option Addr} {len cap : Nat} {zs : List Int} (h : Nt w a len cap zs) (o : Only g w w') (hne : 0 < len → ∀ p, a = some p → p.block ≠ g) : Nt w' a len cap zs := ⟨(Sx.only ⟨h.1, hne⟩ o).1, h.2⟩

/-- A block of so many cells at least. -/
def Blk (w : World) (g n : Nat) : Prop := ∃ cur t, w.heap[g]? = some (.cells cur t (0, 0)) ∧ n ≤ cur.size
theorem Blk.lt {w : World} {g n : Nat} (h : Blk w g n) : g < w.heap.size := by
  obtain ⟨cur, t, h, -⟩ := h
  rcases Nat.lt_or_ge g w.heap.size with h' | h'
  · exact h'
  · rw [Array.getElem?_eq_none h'] at h; cases h
theorem Blk.cell {w : World} {g n : Nat} (h : Blk w g n) {k : Nat} (hk : k < n) : ∃ x, w.cell? ⟨g, k, none⟩ = some x := by
  obtain ⟨cur, t, h, hn⟩ := h
  refine ⟨cur[k]'(by omega), ?_⟩
  simp only [World.cell?, h]
  exact Array.getElem?_eq_getElem (by omega)
theorem Blk.frozen {w : World} {g n : Nat} (h : Blk w g n) (k : Nat) : w.frozen? ⟨g, k, none⟩ = false := by
  obtain ⟨cur, t, h, -⟩ := h
  simp [World.frozen?, h]
theorem Blk.set {w : World} {g n : Nat} (h : Blk w g n) (k : Nat) (v : Value) : Blk (w.setCell ⟨g, k, none⟩ v) g n := by
  obtain ⟨cur, t, h, hn⟩ := h
  refine ⟨cur.setIfInBounds k v, t, ?_, by simpa using hn⟩
  simp only [World.setCell]
  rw [Array.getElem?_modify, if_pos rfl, h]
  rfl
theorem Blk.kept {w w' : World} {g n : Nat} (h : Blk w g n) (hb : Below w.heap.size w w') : Blk w' g n := by
  have hl := h.lt
  obtain ⟨cur, t, h, hn⟩ := h
  exact ⟨cur, t, by rw [hb.block g hl]; exact h, hn⟩
theorem Blk.only {w w' : World} {g b n : Nat} (h : Blk w b n) (o : Only g w w') (hne : b ≠ g) : Blk w' b n := by
  obtain ⟨cur, t, h, hn⟩ := h
  exact ⟨cur, t, by rw [o.oth b hne]; exact h, hn⟩
end Go.Proofs.YtmjfkciaohbkoaaDoor

namespace Go.Proofs.YtmjfkciaohbkoaaDoor
open Go.RowKit Go.Shelf

theorem Nt.al {w : World} {a : Option Addr} {l c : Nat} {zs : List Int} (h : Nt w a l c zs) (o : Obj) : Nt (w.alloc o) a l c zs := Nt.after ((Below.refl _ _).alloc (Nat.le_refl _) o) h
theorem Nt.st {w : World} {a : Option Addr} {l c : Nat} {zs : List Int} (h : Nt w a l c zs) {b : Nat} {t : TypeId} {x : Option Addr} {y z : Nat} (V : Va w b t #[.slice x y z]) (v : Value) : Nt (w.setCell ⟨b, 0, none⟩ v) a l c zs := h.store V v
/-- A variable that is only read. -/
def Rd (w : World) (b : Nat) (v : Value) : Prop := w.cell? ⟨b, 0, none⟩ = some v
theorem Rd.lt {w : World} {b : Nat} {v : Value} (h : Rd w b v) : b < w.heap.size := by
  unfold Rd at h
  rcases Nat.lt_or_ge b w.heap.size with h' | h'
  · exact h'
  · simp [World.cell?, Array.getElem?_eq_none h'] at h
theorem Rd.after {w w' : World} (hb : Below w.heap.size w w') {b : Nat} {v : Value} (h : Rd w b v) : Rd w' b v := by
  have hl := h.lt
  unfold Rd at *
  rw [hb.cell (p := ⟨b, 0, none⟩) hl]; exact h
theorem Va.rd {w : World} {b : Nat} {t : TypeId} {v : Value} (h : Va w b t #[v]) : Rd w b v := h.cell
theorem cell_stc (w : World) (b c o : Nat) (v : Value) (h : ¬ (c = b ∧ o = 0)) : (w.setCell ⟨b, 0, none⟩ v).cell? ⟨c, o, none⟩ = w.cell? ⟨c, o, none⟩ := by
  by_cases hc : c = b
  · subst hc
    have ho : o ≠ 0 := fun e => h ⟨rfl, e⟩
    simp only [World.setCell, World.cell?, Array.getElem?_modify]
    cases hh : w.heap[c]? with
    | none => simp
    | some x =>
      cases x <;> simp
      rw [Array.getElem?_setIfInBounds]
      simp [ho.symm]
  · exact World.cell?_of_block (w := w) (Below.heap_setCell _ _ _ _ hc)
theorem Nt.stc {w : World} {a : Option Addr} {l c : Nat} {zs : List Int} (h : Nt w a l c zs) {b : Nat} {x : Option Addr} {y z : Nat} (V : w.cell? ⟨b, 0, none⟩ = some (.slice x y z)) (v : Value) : Nt (w.setCell ⟨b, 0, none⟩ v) a l c zs := by
  obtain ⟨⟨h1, h2, h3⟩, h4⟩ := h
  refine ⟨⟨h1, h2, fun h0 => ?_⟩, h4⟩
  obtain ⟨bb, off, rfl, hc⟩ := h3 h0
  refine ⟨bb, off, rfl, fun i hi => ?_⟩
  rw [cell_stc _ _ _ _ _ ?_]
  · exact hc i hi
  · rintro ⟨rfl, e⟩
    have := hc i hi
    rw [e, V] at this
    cases this
end Go.Proofs.YtmjfkciaohbkoaaDoor

namespace Go.Proofs.YtmjfkciaohbkoaaDoor
open Go.RowKit Go.Shelf
end Go.Proofs.YtmjfkciaohbkoaaDoor

namespace Go.Proofs.YtmjfkciaohbkoaaDoor
open Go.RowKit Go.Shelf

end Go.Proofs.YtmjfkciaohbkoaaDoor
namespace Go.Proofs.YtmjfkciaohbkoaaDoor
open Go.RowKit Go.Shelf
set_option linter.unusedVariables false

theorem Va.c0 {w : World} {b : Nat} {t : TypeId} {x y : Value} (h : Va w b t #[x, y]) : w.cell? ⟨b, 0, none⟩ = some x := by rw [h.cellAt 0]; rfl
theorem Va.c1 {w : World} {b : Nat} {t : TypeId} {x y : Value} (h : Va w b t #[x, y]) : w.cell? ⟨b, 1, none⟩ = some y := by rw [h.cellAt 1]; rfl
theorem Va.set2 {w : World} {b : Nat} {t : TypeId} {x y : Value} (h : Va w b t #[x, y]) (x' y' : Value) : Va ((w.setCell ⟨b, 0, none⟩ x').setCell ⟨b, 1, none⟩ y') b t #[x', y'] := by
  unfold Va at *
  simp only [World.setCell]
  rw [Array.getElem?_modify, if_pos rfl, Array.getElem?_modify, if_pos rfl, h]
  simp
theorem Va.other2 {w : World} {b c : Nat} {t : TypeId} {cs : Array Value} (h : Va w b t cs) (hne : b ≠ c) (x' y' : Value) : Va ((w.setCell ⟨c, 0, none⟩ x').setCell ⟨c, 1, none⟩ y') b t cs :=
  (h.other (p := ⟨c, 0, none⟩) hne x').other (p := ⟨c, 1, none⟩) hne y'
theorem below_2 {B : Nat} {a w : World} (h : Below B a w) {c : Nat} (hc : B ≤ c) (x y : Value) : Below B a ((w.setCell ⟨c, 0, none⟩ x).setCell ⟨c, 1, none⟩ y) :=
  (h.setCell (p := ⟨c, 0, none⟩) hc x).setCell (p := ⟨c, 1, none⟩) hc y

/-- No cell of a variable is a limb. -/
def NoInt (cs : Array Value) : Prop := ∀ (i : Nat) (z : Int), cs[i]? ≠ some (.int .u64 z)
theorem noInt2 (s : Bool) (a : Option Addr) (l c : Nat) : NoInt #[.bool s, .slice a l c] := by
  intro i z h
  rcases i with _ | _ | i <;> simp at h
theorem noInt1 (a : Option Addr) (l c : Nat) : NoInt #[.slice a l c] := by
  intro i z h
  rcases i with _ | i <;> simp at h
theorem Sl.far {w : World} {a : Option Addr} {len : Nat} {zs : List Int} (h : Sl w a len zs) {b : Nat} {t : TypeId} {cs : Array Value} (V : Va w b t cs) (hn : NoInt cs) {w' : World} (k : ∀ c, c ≠ b → w'.heap[c]? = w.heap[c]?) : Sl w' a len zs := by
  obtain ⟨h1, h2, h3⟩ := h
  refine ⟨h1, h2, fun h0 => ?_⟩
  obtain ⟨bb, off, rfl, hc⟩ := h3 h0
  refine ⟨bb, off, rfl, fun i hi => ?_⟩
  have hne : bb ≠ b := by
    rintro rfl
    have e := hc 0 h0
    rw [V.cellAt] at e
    exact hn _ _ e
  rw [← hc i hi]
  exact World.cell?_of_block (w := w) (k bb hne)
theorem Nt.far {w : World} {a : Option Addr} {len cap : Nat} {zs : List Int} (h : Nt w a len cap zs) {b : Nat} {t : TypeId} {cs : Array Value} (V : Va w b t cs) (hn : NoInt cs) {w' : World} (k : ∀ c, c ≠ b → w'.heap[c]? = w.heap[c]?) : Nt w' a len cap zs := ⟨h.1.far V hn k, h.2⟩
theorem far2 (w : World) (b : Nat) (x y : Value) : ∀ c, c ≠ b → ((w.setCell ⟨b, 0, none⟩ x).setCell ⟨b, 1, none⟩ y).heap[c]? = w.heap[c]? := fun c hc => (Below.heap_setCell _ ⟨b, 1, none⟩ _ _ hc).trans (Below.heap_setCell _ ⟨b, 0, none⟩ _ _ hc)

/-- A store of two cells, all told. -/
theorem st2 {W : World} {b : Nat} {t : TypeId} {x y : Value} (h : Va W b t #[x, y]) (x' y' : Value) {Q : World → Prop}
    (k : ∀ V, Va V b t #[x', y'] → (∀ c t cs, c ≠ b → Va W c t cs → Va V c t cs) → ((∀ c, c ≠ b → V.heap[c]? = W.heap[c]?) ∧ (∀ B v, B ≤ b → Below B v W → Below B v V)) → Q V) : Q ((W.setCell ⟨b, 0, none⟩ x').setCell ⟨b, 1, none⟩ y') :=
  k _ (h.set2 x' y') (fun c t cs hc hv => hv.other2 hc x' y') ⟨far2 W b x' y', fun B v hB hb => below_2 hb hB x' y'⟩

/-- A whole number that can be read: 0 has no sign. -/
def It (w : World) (s : Bool) (a : Option Addr) (l c : Nat) (zs : List Int) : Prop := Nt w a l c zs ∧ (s = true → num zs ≠ 0)
/-- What it is. -/
def iv (s : Bool) (zs : List Int) : Int := if s then - num zs else num zs
theorem It.after {w w' : World} (b : Below w.heap.size w w') {s : Bool} {a : Option Addr} {l c : Nat} {zs : List Int} (h : It w s a l c zs) : It w' s a l c zs := ⟨Nt.after b h.1, h.2⟩
theorem It.far {w : World} {s : Bool} {a : Option Addr} {l c : Nat} {zs : List Int} (h : It w s a l c zs) {b : Nat} {t : TypeId} {cs : Array Value} (V : Va w b t cs) (hn : NoInt cs) {w' : World} (k : ∀ c, c ≠ b → w'.heap[c]? = w.heap[c]?) : It w' s a l c zs := ⟨h.1.far V hn k, h.2⟩
theorem It.nil (w : World) : It w false none 0 0 [] := ⟨Nt.nil w, fun h => by cases h⟩
theorem iv_nil : iv false [] = 0 := rfl
theorem iv_t (zs : List Int) : iv true zs = - num zs := rfl
theorem iv_f (zs : List Int) : iv false zs = num zs := rfl
/-- The sign is told by what it is. -/
theorem It.sign {w : World} {s : Bool} {a : Option Addr} {l c : Nat} {zs : List Int} (h : It w s a l c zs) : s = decide (iv s zs < 0) := by
  have h0 := h.1.nonneg
  cases s
  · rw [iv_f]; symm; simpa using h0
  · have := h.2 rfl
    rw [iv_t]; symm; simp; omega
theorem It.abs {w : World} {s : Bool} {a : Option Addr} {l c : Nat} {zs : List Int} (h : It w s a l c zs) : num zs = (iv s zs).natAbs := by
  have h0 := h.1.nonneg
  cases s
  · rw [iv_f]; omega
  · rw [iv_t]; omega
theorem It.lt {w : World} {s : Bool} {a : Option Addr} {l c : Nat} {zs : List Int} (h : It w s a l c zs) : (iv s zs).natAbs < pw 4096 := by rw [← h.abs]; exact h.1.lt
end Go.Proofs.YtmjfkciaohbkoaaDoor

namespace Go.Proofs.YtmjfkciaohbkoaaDoor
open Go.RowKit Go.Shelf
set_option linter.unusedVariables false

theorem Va.d0 {w : World} {b : Nat} {t : TypeId} {x y z : Value} (h : Va w b t #[x, y, z]) : w.cell? ⟨b, 0, none⟩ = some x := by rw [h.cellAt 0]; rfl
theorem Va.d1 {w : World} {b : Nat} {t : TypeId} {x y z : Value} (h : Va w b t #[x, y, z]) : w.cell? ⟨b, 1, none⟩ = some y := by rw [h.cellAt 1]; rfl
theorem Va.d2 {w : World} {b : Nat} {t : TypeId} {x y z : Value} (h : Va w b t #[x, y, z]) : w.cell? ⟨b, 2, none⟩ = some z := by rw [h.cellAt 2]; rfl
theorem Va.set3 {w : World} {b : Nat} {t : TypeId} {x y z : Value} (h : Va w b t #[x, y, z]) (x' y' z' : Value) : Va (((w.setCell ⟨b, 0, none⟩ x').setCell ⟨b, 1, none⟩ y').setCell ⟨b, 2, none⟩ z') b t #[x', y', z'] := by
  unfold Va at *
  simp only [World.setCell]
  rw [Array.getElem?_modify, if_pos rfl, Array.getElem?_modify, if_pos rfl, Array.getElem?_modify, if_pos rfl, h]
  simp
theorem fa3 (w : World) (b : Nat) (x y z : Value) : ∀ c, c ≠ b → (((w.setCell ⟨b, 0, none⟩ x).setCell ⟨b, 1, none⟩ y).setCell ⟨b, 2, none⟩ z).heap[c]? = w.heap[c]? := fun c hc => (Below.heap_setCell _ ⟨b, 2, none⟩ _ _ hc).trans (far2 w b x y c hc)
theorem fa1 (w : World) (b : Nat) (x : Value) : ∀ c, c ≠ b → (w.setCell ⟨b, 0, none⟩ x).heap[c]? = w.heap[c]? := fun c hc => Below.heap_setCell _ ⟨b, 0, none⟩ _ _ hc
theorem noInt3 (s : Bool) (a : Option Addr) (l c : Nat) (a' : Option Addr) (l' c' : Nat) : NoInt #[.bool s, .slice a l c, .slice a' l' c'] := by
  intro i z h
  rcases i with _ | _ | _ | i <;> simp at h
theorem belo3 {B : Nat} {a w : World} (h : Below B a w) {c : Nat} (hc : B ≤ c) (x y z : Value) : Below B a (((w.setCell ⟨c, 0, none⟩ x).setCell ⟨c, 1, none⟩ y).setCell ⟨c, 2, none⟩ z) :=
  (below_2 h hc x y).setCell (p := ⟨c, 2, none⟩) hc z
theorem sto3 {W : World} {b : Nat} {t : TypeId} {x y z : Value} (h : Va W b t #[x, y, z]) (x' y' z' : Value) {Q : World → Prop}
    (k : ∀ V, Va V b t #[x', y', z'] → (∀ c t cs, c ≠ b → Va W c t cs → Va V c t cs) → ((∀ c, c ≠ b → V.heap[c]? = W.heap[c]?) ∧ (∀ B v, B ≤ b → Below B v W → Below B v V)) → Q V) : Q (((W.setCell ⟨b, 0, none⟩ x').setCell ⟨b, 1, none⟩ y').setCell ⟨b, 2, none⟩ z') :=
  k _ (h.set3 x' y' z') (fun c t cs hc hv => hv.stay (fa3 W b x' y' z') hc) ⟨fa3 W b x' y' z', fun B v hB hb => belo3 hb hB x' y' z'⟩
theorem sto1 {W : World} {b : Nat} {t : TypeId} {x : Value} (h : Va W b t #[x]) (x' : Value) {Q : World → Prop}
    (k : ∀ V, Va V b t #[x'] → (∀ c t cs, c ≠ b → Va W c t cs → Va V c t cs) → ((∀ c, c ≠ b → V.heap[c]? = W.heap[c]?) ∧ (∀ B v, B ≤ b → Below B v W → Below B v V)) → Q V) : Q (W.setCell ⟨b, 0, none⟩ x') :=
  k _ (h.set x') (fun c t cs hc hv => hv.stay (fa1 W b x') hc) ⟨fa1 W b x', fun B v hB hb => hb.setCell (p := ⟨b, 0, none⟩) hB x'⟩

theorem Nt.drw {w : World} {a : Option Addr} {l c : Nat} {zs : List Int} (h : Nt w a l c zs) : Nt w.drew a l c zs := h
theorem It.drw {w : World} {s : Bool} {a : Option Addr} {l c : Nat} {zs : List Int} (h : It w s a l c zs) : It w.drew s a l c zs := h
theorem Sl.drw {w : World} {a : Option Addr} {l : Nat} {zs : List Int} (h : Sl w a l zs) : Sl w.drew a l zs := h
theorem Sl.after {w w' : World} (b : Below w.heap.size w w') {a : Option Addr} {l : Nat} {zs : List Int} (h : Sl w a l zs) : Sl w' a l zs := h.below b (Nat.le_refl _)

/-- At most 1024 limbs in either part. -/
def Short (v : Rat) : Prop := (v.num.natAbs : Int) < pw 1024 ∧ (v.den : Int) < pw 1024
/-- A denominator: 0 stands for 1. -/
def dn (ds : List Int) : Int := if num ds = 0 then 1 else num ds
/-- A rational number that can be read. -/
def Rt (w : World) (s : Bool) (a : Option Addr) (l c : Nat) (zs : List Int) (b : Option Addr) (m d : Nat) (ds : List Int) (v : Rat) : Prop := It w s a l c zs ∧ Nt w b m d ds ∧ iv s zs = v.num ∧ dn ds = v.den ∧ Short v
theorem Rt.after {w w' : World} (hb : Below w.heap.size w w') {s : Bool} {a : Option Addr} {l c : Nat} {zs : List Int} {b : Option Addr} {m d : Nat} {ds : List Int} {v : Rat} (h : Rt w s a l c zs b m d ds v) : Rt w' s a l c zs b m d ds v := ⟨It.after hb h.1, Nt.after hb h.2.1, h.2.2⟩
theorem Rt.drw {w : World} {s : Bool} {a : Option Addr} {l c : Nat} {zs : List Int} {b : Option Addr} {m d : Nat} {ds : List Int} {v : Rat} (h : Rt w s a l c zs b m d ds v) : Rt w.drew s a l c zs b m d ds v := h
theorem Rt.far {w : World} {s : Bool} {a : Option Addr} {l c : Nat} {zs : List Int} {b : Option Addr} {m d : Nat} {ds : List Int} {v : Rat} (h : Rt w s a l c zs b m d ds v) {b' : Nat} {t : TypeId} {cs : Array Value} (V : Va w b' t cs) (hn : NoInt cs) {w' : World} (k : ∀ c, c ≠ b' → w'.heap[c]? = w.heap[c]?) : Rt w' s a l c zs b m d ds v := ⟨h.1.far V hn k, h.2.1.far V hn k, h.2.2⟩
theorem one_lt_pw {n : Nat} (h : 1 ≤ n) : 1 < pw n := Int.lt_of_lt_of_le (by decide : (1 : Int) < pw 1) (pw_mono h)
theorem Rt.nil (w : World) : Rt w false none 0 0 [] none 0 0 [] 0 := ⟨It.nil w, Nt.nil w, rfl, rfl, Int.lt_trans (by decide) (one_lt_pw (by omega)), one_lt_pw (by omega)⟩
/-- What is answered where a number may be too long. -/
def RA (v : Rat) (er : Int) (v' : Rat) : Prop := (Short v ∧ er = 0 ∧ v' = v) ∨ (¬ Short v ∧ er = 3 ∧ v' = 0)
end Go.Proofs.YtmjfkciaohbkoaaDoor

namespace Go.Proofs.YtmjfkciaohbkoaaDoor
set_option linter.unusedVariables false

theorem rat_of_coprime {N : Int} {D : Nat} (hD : D ≠ 0) {p : Int} {q : Nat} (hq : q ≠ 0) (c : p.natAbs.gcd q = 1) (e : p * D = N * q) : (mkRat N D).num = p ∧ (mkRat N D).den = q := by
  have h : mkRat N D = ⟨p, q, hq, c⟩ := by
    rw [Rat.mk_eq_mkRat, Rat.mkRat_eq_iff hD hq]; omega
  rw [h]; exact ⟨rfl, rfl⟩
/-- A sum is brought down by what both denominators have in common alone. -/
theorem rat_add_low (a b : Rat) {g ad bd : Nat} (hg : g = a.den.gcd b.den) (had : ad * g = a.den) (hbd : bd * g = b.den) :
    (a + b).num = (Rat.divInt (a.num * bd + b.num * ad) g).num ∧ (a + b).den = ad * bd * (Rat.divInt (a.num * bd + b.num * ad) g).den := by
  have g0 : 0 < g := by rw [hg]; exact Nat.gcd_pos_of_pos_left _ a.den_pos
  have e1 : ad = a.den / g := by rw [← had, Nat.mul_div_cancel _ g0]
  have e2 : bd = b.den / g := by rw [← hbd, Nat.mul_div_cancel _ g0]
  have aux := Rat.add.aux a b hg e1 e2
  simp only at aux
  generalize hS : a.num * (bd : Int) + b.num * (ad : Int) = S at *
  have ead : ad ≠ 0 := by intro h; rw [h] at had; have := a.den_pos; omega
  have ebd : bd ≠ 0 := by intro h; rw [h] at hbd; have := b.den_pos; omega
  have hs : a + b = mkRat S (ad * b.den) := by
    rw [Rat.add_def', ← Rat.mkRat_mul_right (n := S) (d := ad * b.den) (a := g) (by omega)]
    congr 1
    · rw [← hS, ← had, ← hbd]; grind
    · rw [← had]; grind
  have hl : Rat.divInt S (g : Int) = mkRat S g := Rat.divInt_ofNat S g
  have eg : (ad * b.den).gcd S.natAbs = g.gcd S.natAbs := by rw [Nat.gcd_comm, ← aux, Nat.gcd_comm]
  have n1 : ad * b.den ≠ 0 := Nat.mul_ne_zero ead (Nat.ne_of_gt b.den_pos)
  rw [hs, hl, Rat.num_mkRat, Rat.den_mkRat, Rat.num_mkRat, Rat.den_mkRat, if_neg n1, if_neg n1, if_neg (by omega), if_neg (by omega), eg]
  refine ⟨rfl, ?_⟩
  rw [← hbd, ← Nat.mul_assoc, Nat.mul_div_assoc _ (Nat.gcd_dvd_left _ _)]
theorem rat_mul_low (a b : Rat) : (a * b).num = (Rat.divInt a.num b.den).num * (Rat.divInt b.num a.den).num ∧ (a * b).den = (Rat.divInt a.num b.den).den * (Rat.divInt b.num a.den).den := by
  have hb := b.den_nz
  have ha := a.den_nz
  have e1 : Rat.divInt a.num b.den = mkRat a.num b.den := Rat.divInt_ofNat _ _
  have e2 : Rat.divInt b.num a.den = mkRat b.num a.den := Rat.divInt_ofNat _ _
  rw [e1, e2, Rat.num_mkRat, Rat.den_mkRat, Rat.num_mkRat, Rat.den_mkRat, if_neg ha, if_neg ha, if_neg hb, if_neg hb, Nat.gcd_comm b.den, Nat.gcd_comm a.den]
  show (Rat.mul a b).num = _ ∧ (Rat.mul a b).den = _
  unfold Rat.mul
  refine ⟨?_, ?_⟩
  · show _ = _; rfl
  · show _ = _; exact Nat.mul_comm _ _
theorem rat_new (n d : Int) (hd : d ≠ 0) {g : Nat} (hg : g = Nat.gcd n.natAbs d.natAbs) {q r : Nat} (hq : q * g = n.natAbs) (hr : r * g = d.natAbs) :
    (Rat.divInt n d).num = (if d.sign * n < 0 then -(q : Int) else q) ∧ (Rat.divInt n d).den = r := by
  have g0 : 0 < g := by rw [hg]; exact Nat.gcd_pos_of_pos_right _ (by omega)
  rw [Rat.num_divInt, Rat.den_divInt, if_neg hd]
  have eg : d.gcd n = g := by rw [hg, Nat.gcd_comm]; rfl
  rw [eg]
  refine ⟨?_, by rw [← hr, Nat.mul_div_cancel _ g0]⟩
  have hn : ((d.sign * n).natAbs) = q * g := by rw [Int.natAbs_mul, Int.natAbs_sign_of_ne_zero hd, Nat.one_mul, hq]
  generalize d.sign * n = m at *
  by_cases h : m < 0
  · rw [if_pos h]
    have : m = (-(q : Int)) * g := by rw [Int.neg_mul, ← Int.natCast_mul, ← hn]; omega
    rw [this, Int.mul_ediv_cancel _ (by omega)]
  · rw [if_neg h]
    have : m = (q : Int) * g := by rw [← Int.natCast_mul, ← hn]; omega
    rw [this, Int.mul_ediv_cancel _ (by omega)]
end Go.Proofs.YtmjfkciaohbkoaaDoor

namespace Go.Proofs.YtmjfkciaohbkoaaDoor
open Go.RowKit Go.Shelf
set_option linter.unusedVariables false

theorem cmp3_neg (x y : Int) : cmp3 (-x) (-y) = cmp3 y x := by unfold cmp3; grind
end Go.Proofs.YtmjfkciaohbkoaaDoor
namespace Go.Proofs.YtmjfkciaohbkoaaDoor
open Go.RowKit Go.Shelf
set_option linter.unusedVariables false

theorem cat (a b : List UInt8) : (⟨a.toArray⟩ ++ ⟨b.toArray⟩ : ByteArray) = ⟨(a ++ b).toArray⟩ := by
  apply ByteArray.ext
  simp
theorem bsize (l : List UInt8) : (ByteArray.mk l.toArray).size = l.length := by rw [Go.Lib.size_eq]
theorem slice_hi (l : List UInt8) (h : Int) (n : Nat) (e : h = n) (hn : n ≤ l.length) (W : World) : (Instr.sliceAt 9 (.string ⟨l.toArray⟩) none (some (.int .i64 h)) none).run Tryd.prog W = .ok (.string ⟨(l.take n).toArray⟩) W := by
  subst e
  have hb := bsize l
  have h1 : (n : Int) ≤ ((ByteArray.mk l.toArray).size : Int) := by omega
  rw [run_sliceAt_string _ _ _ _ _ _ Tryd.underlying9]
  simp [Instr.slice, run_underlying Tryd.underlying9, Instr.sliceBounds, run_sliceBound, h1, Go.Lib.extract_eq]
theorem slice_lo (l : List UInt8) (h : Int) (n : Nat) (e : h = n) (hn : n ≤ l.length) (W : World) : (Instr.sliceAt 9 (.string ⟨l.toArray⟩) (some (.int .i64 h)) none none).run Tryd.prog W = .ok (.string ⟨(l.drop n).toArray⟩) W := by
  subst e
  have hb := bsize l
  have h1 : (n : Int) ≤ ((ByteArray.mk l.toArray).size : Int) := by omega
  rw [run_sliceAt_string _ _ _ _ _ _ Tryd.underlying9]
  simp [Instr.slice, run_underlying Tryd.underlying9, Instr.sliceBounds, run_sliceBound, h1, Go.Lib.extract_eq]
  rw [hb, List.take_of_length_le (by simp)]
end Go.Proofs.YtmjfkciaohbkoaaDoor
