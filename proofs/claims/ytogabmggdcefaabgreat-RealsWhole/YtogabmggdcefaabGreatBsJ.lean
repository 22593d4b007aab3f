/-
  Put together of: NumsH, NRef1, NRef2, OrderH.
-/
import Derived.Test.YtogabmggdcefaabGreatBsA
import Derived.Test.YtogabmggdcefaabGreatBsI
import Derived.Test.YtogabmggdcefaabGreatBsC
namespace Go.Proofs.YtogabmggdcefaabGreat.H
/-- The number that a list of digits to the base 2^32 says. -/
def num : List Int → Int
  | [] => 0
  | z :: r => z + 4294967296 * num r
/-- A power of 2^32. -/
def pw : Nat → Int
  | 0 => 1
  | n + 1 => 4294967296 * pw n
/-- Each is a digit to the base 2^32. -/
def Limbs (zs : List Int) : Prop := ∀ z ∈ zs, 0 ≤ z ∧ z < 4294967296
theorem pw_pos : ∀ n, 0 < pw n
  | 0 => by decide
  | n + 1 => by have := pw_pos n; simp only [pw]; omega
theorem pw_add : ∀ m n, pw (m + n) = pw m * pw n
  | 0, n => by simp [pw]
  | m + 1, n => by rw [Nat.add_right_comm, pw, pw, pw_add m n, Int.mul_assoc]
theorem pw_mono {m n : Nat} (h : m ≤ n) : pw m ≤ pw n := by
  obtain ⟨k, rfl⟩ := Nat.exists_eq_add_of_le h
  rw [pw_add]
  have h1 := pw_pos m; have h2 := pw_pos k
  have : pw m * 1 ≤ pw m * pw k := Int.mul_le_mul_of_nonneg_left (by omega) (by omega)
  omega
theorem Limbs.tail {z : Int} {r : List Int} (h : Limbs (z :: r)) : Limbs r := fun x hx => h x (List.mem_cons_of_mem _ hx)
theorem Limbs.head {z : Int} {r : List Int} (h : Limbs (z :: r)) : 0 ≤ z ∧ z < 4294967296 := h z (List.mem_cons_self ..)
theorem Limbs.getD {zs : List Int} (h : Limbs zs) (i : Nat) : 0 ≤ zs.getD i 0 ∧ zs.getD i 0 < 4294967296 := by
  rw [List.getD_eq_getElem?_getD]
  rcases Nat.lt_or_ge i zs.length with hi | hi
  · rw [List.getElem?_eq_getElem hi]; exact h _ (List.getElem_mem hi)
  · rw [List.getElem?_eq_none hi]; decide
theorem Limbs.take {zs : List Int} (h : Limbs zs) (n : Nat) : Limbs (zs.take n) := fun x hx => h x (List.mem_of_mem_take hx)
theorem Limbs.drop {zs : List Int} (h : Limbs zs) (n : Nat) : Limbs (zs.drop n) := fun x hx => h x (List.mem_of_mem_drop hx)
theorem Limbs.append {a b : List Int} (h : Limbs a) (k : Limbs b) : Limbs (a ++ b) := fun x hx => by
  rcases List.mem_append.1 hx with h' | h'
  · exact h x h'
  · exact k x h'
theorem Limbs.set {zs : List Int} (h : Limbs zs) (i : Nat) {v : Int} (hv : 0 ≤ v ∧ v < 4294967296) : Limbs (zs.set i v) := fun x hx => by
  rcases List.mem_or_eq_of_mem_set hx with h' | h'
  · exact h x h'
  · rw [h']; exact hv
theorem Limbs.zeros (n : Nat) : Limbs (List.replicate n 0) := fun x hx => by
  rw [List.eq_of_mem_replicate hx]; decide
theorem Limbs.nil : Limbs [] := fun _ hx => by cases hx
theorem num_nonneg : ∀ {zs : List Int}, Limbs zs → 0 ≤ num zs
  | [], _ => by decide
  | z :: r, h => by
    have h1 := num_nonneg h.tail; have h2 := h.head
    simp only [num]; omega
theorem num_lt : ∀ {zs : List Int}, Limbs zs → num zs < pw zs.length
  | [], _ => by decide
  | z :: r, h => by
    have h1 := num_lt h.tail; have h2 := h.head
    simp only [num, List.length_cons, pw]; omega
theorem num_append : ∀ (a b : List Int), num (a ++ b) = num a + num b * pw a.length
  | [], b => by simp [num, pw]
  | z :: r, b => by
    simp only [List.cons_append, num, List.length_cons, pw, num_append r b]
    rw [Int.mul_add, Int.mul_left_comm (num b), Int.add_assoc]
theorem num_zeros (n : Nat) : num (List.replicate n 0) = 0 := by
  induction n with
  | zero => rfl
  | succ n ih => simp only [List.replicate_succ, num, ih]; decide
theorem num_snoc (a : List Int) (z : Int) : num (a ++ [z]) = num a + z * pw a.length := by
  rw [num_append]; simp [num]
theorem num_take_succ (zs : List Int) (k : Nat) : num (zs.take (k + 1)) = num (zs.take k) + zs.getD k 0 * pw k := by
  rcases Nat.lt_or_ge k zs.length with h | h
  · rw [List.take_succ_eq_append_getElem h, num_snoc, List.length_take, Nat.min_eq_left (by omega), List.getD_eq_getElem?_getD, List.getElem?_eq_getElem h]; rfl
  · rw [List.take_of_length_le (by omega), List.take_of_length_le h, List.getD_eq_getElem?_getD, List.getElem?_eq_none h]; simp
theorem num_take_drop (zs : List Int) (k : Nat) (h : k ≤ zs.length) : num zs = num (zs.take k) + num (zs.drop k) * pw k := by
  have := num_append (zs.take k) (zs.drop k)
  rw [List.take_append_drop, List.length_take, Nat.min_eq_left h] at this; exact this
theorem num_take_of_zeros {zs : List Int} {u : Nat} (h : ∀ i, u ≤ i → zs.getD i 0 = 0) : ∀ k, num (zs.take (u + k)) = num (zs.take u)
  | 0 => rfl
  | k + 1 => by rw [← Nat.add_assoc, num_take_succ, h (u + k) (by omega), num_take_of_zeros h k]; simp
theorem num_take_used (zs : List Int) {n : Nat} (h : usedN zs ≤ n) : num (zs.take n) = num zs := by
  have e := num_take_of_zeros (zs := zs) (u := usedN zs) (usedN_beyond zs)
  have a := e (n - usedN zs); have b := e (zs.length - usedN zs)
  have c := usedN_le zs
  rw [Nat.add_sub_cancel' h] at a
  rw [Nat.add_sub_cancel' c, List.take_of_length_le (Nat.le_refl _)] at b
  rw [a, b]
theorem num_lt_used {zs : List Int} (h : Limbs zs) : num zs < pw (usedN zs) := by
  have := num_lt (h.take (usedN zs))
  rw [num_take_used zs (Nat.le_refl _), List.length_take, Nat.min_eq_left (usedN_le zs)] at this; exact this
theorem num_ge_used {zs : List Int} (h : Limbs zs) (hu : 0 < usedN zs) : pw (usedN zs - 1) ≤ num zs := by
  have e := num_take_succ zs (usedN zs - 1)
  rw [Nat.sub_add_cancel hu, num_take_used zs (Nat.le_refl _)] at e
  have h1 := num_nonneg (h.take (usedN zs - 1))
  have h2 := usedN_top zs hu
  have h3 := h.getD (usedN zs - 1)
  have h4 := pw_pos (usedN zs - 1)
  have : 1 * pw (usedN zs - 1) ≤ zs.getD (usedN zs - 1) 0 * pw (usedN zs - 1) := Int.mul_le_mul_of_nonneg_right (by omega) (by omega)
  omega
theorem num_eq_zero {zs : List Int} (h : Limbs zs) : num zs = 0 ↔ usedN zs = 0 := by
  constructor
  · intro e
    rcases Nat.eq_zero_or_pos (usedN zs) with h0 | h0
    · exact h0
    · have := num_ge_used h h0; have := pw_pos (usedN zs - 1); omega
  · intro e
    rw [← num_take_used zs (Nat.le_refl _), e]; rfl
/-- One list a number. -/
theorem num_inj : ∀ {a b : List Int}, Limbs a → Limbs b → a.length = b.length → num a = num b → a = b
  | [], [], _, _, _, _ => rfl
  | [], _ :: _, _, _, h, _ => by simp at h
  | _ :: _, [], _, _, h, _ => by simp at h
  | x :: r, y :: s, ha, hb, h, e => by
    simp only [num] at e
    have h1 := ha.head; have h2 := hb.head
    have : x = y := by omega
    subst this
    rw [num_inj ha.tail hb.tail (by simpa using h) (by omega)]
theorem used_of_num {a b : List Int} (ha : Limbs a) (hb : Limbs b) (e : num a = num b) : usedN a = usedN b := by
  rcases Nat.lt_trichotomy (usedN a) (usedN b) with h | h | h
  · have h1 := num_lt_used ha; have h2 := num_ge_used hb (by omega)
    have := pw_mono (show usedN a ≤ usedN b - 1 by omega); omega
  · exact h
  · have h1 := num_lt_used hb; have h2 := num_ge_used ha (by omega)
    have := pw_mono (show usedN b ≤ usedN a - 1 by omega); omega
theorem trim_eq {a b : List Int} (ha : Limbs a) (hb : Limbs b) (e : num a = num b) : a.take (usedN a) = b.take (usedN b) := by
  have h := used_of_num ha hb e
  refine num_inj (ha.take _) (hb.take _) ?_ ?_
  · have := usedN_le a; have := usedN_le b
    rw [List.length_take, List.length_take]; omega
  · rw [num_take_used a (Nat.le_refl _), num_take_used b (Nat.le_refl _), e]
theorem num_set_take (zs : List Int) (i : Nat) (v : Int) (h : i < zs.length) : num ((zs.set i v).take (i + 1)) = num (zs.take i) + v * pw i := by
  rw [num_take_succ, List.take_set_of_le (Nat.le_refl _), List.getD_eq_getElem?_getD, List.getElem?_set_self h]; rfl
theorem carry_step {v c' s p : Int} (h : v + 4294967296 * c' = s) : v * p + c' * (4294967296 * p) = s * p := by
  rw [← h, Int.add_mul, Int.mul_comm 4294967296 c', Int.mul_assoc]
theorem Limbs.up {zs : List Int} (h : Limbs zs) : Go.Proofs.YtogabmggdcefaabGreat.Limbs zs := fun z hz => ⟨(h z hz).1, by have := (h z hz).2; omega⟩
end Go.Proofs.YtogabmggdcefaabGreat.H

namespace Go.Proofs.YtogabmggdcefaabGreat
open Go.RowKit Go.Shelf

theorem Gr.alloc {w : World} {B : Nat} {v : Value} {cs : List Int} (h : Gr w B v cs) (o : Obj) : Gr (w.alloc o) B v cs := World.ownsRow.alloc h o
theorem Gr.drew {w : World} {B : Nat} {v : Value} {cs : List Int} (h : Gr w B v cs) : Gr w.drew B v cs := h
end Go.Proofs.YtogabmggdcefaabGreat

namespace Go.Proofs.YtogabmggdcefaabGreat
open Go.RowKit Go.Shelf

end Go.Proofs.YtogabmggdcefaabGreat

namespace Go.Proofs.YtogabmggdcefaabGreat.H
theorem num_above {a b : List Int} {t : Nat} (h : ∀ j, t ≤ j → a.getD j 0 = b.getD j 0) : ∀ k, num (a.take (t + k)) - num (a.take t) = num (b.take (t + k)) - num (b.take t)
  | 0 => by simp only [Nat.add_zero]; omega
  | k + 1 => by
    have ih := num_above h k
    rw [← Nat.add_assoc, num_take_succ, num_take_succ, h (t + k) (by omega)]; omega
theorem num_above' {a b : List Int} {t : Nat} (h : ∀ j, t ≤ j → a.getD j 0 = b.getD j 0) : num a - num (a.take t) = num b - num (b.take t) := by
  have e := num_above h (a.length + b.length)
  have e1 : a.take (t + (a.length + b.length)) = a := List.take_of_length_le (by omega)
  have e2 : b.take (t + (a.length + b.length)) = b := List.take_of_length_le (by omega)
  rw [e1, e2] at e; exact e
/-- The highest limb in which they differ decides. -/
theorem num_lt_at {a b : List Int} {t : Nat} (ha : Limbs a) (hb : Limbs b) (h : ∀ j, t < j → a.getD j 0 = b.getD j 0) (hlt : a.getD t 0 < b.getD t 0) : num a < num b := by
  have e := num_above' (t := t + 1) (fun j hj => h j (by omega))
  rw [num_take_succ, num_take_succ] at e
  have h1 := num_lt (ha.take t); have h2 := num_nonneg (hb.take t)
  have h3 : num (a.take t) < pw t := by
    refine Int.lt_of_lt_of_le h1 (pw_mono ?_)
    rw [List.length_take]; omega
  have h4 : (a.getD t 0 + 1) * pw t ≤ b.getD t 0 * pw t := Int.mul_le_mul_of_nonneg_right (by omega) (by have := pw_pos t; omega)
  rw [Int.add_mul, Int.one_mul] at h4
  omega
theorem num_lt_len {a b : List Int} (ha : Limbs a) (hb : Limbs b) (h : usedN a < usedN b) : num a < num b := by
  have h1 := num_lt_used ha; have h2 := num_ge_used hb (by omega)
  have := pw_mono (show usedN a ≤ usedN b - 1 by omega); omega
theorem num_eq_of {a b : List Int} (h : ∀ j, a.getD j 0 = b.getD j 0) : num a = num b := by
  have e := num_above' (a := a) (b := b) (t := 0) (fun j _ => h j)
  simp [num] at e; omega
theorem num_set (zs : List Int) (j : Nat) (v : Int) (h : j < zs.length) : num (zs.set j v) = num zs + (v - zs.getD j 0) * pw j := by
  have e := num_above' (a := zs.set j v) (b := zs) (t := j + 1) (fun i hi => getD_set_other zs j i v (by omega))
  rw [num_set_take _ _ _ h, num_take_succ] at e
  rw [Int.sub_mul]
  omega
end Go.Proofs.YtogabmggdcefaabGreat.H
