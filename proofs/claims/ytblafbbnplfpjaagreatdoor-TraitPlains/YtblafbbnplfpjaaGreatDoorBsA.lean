/-
  Put together of: Nums, Wide, Words.
-/
import Init.Omega
import Derived.Test.YtblafbbnplfpjaaGreatDoorRows
import Derived.Test.YtblafbbnplfpjaaGreatDoorShelf
import Derived.WalkKit
import Derived.WalkSpells
import Derived.Laws.Externs
import Derived.Shelf.Spec.BitsCarry
namespace Go.Proofs.YtblafbbnplfpjaaGreatDoor

/-- The number that a list of words says. -/
def num : List Int → Int
  | [] => 0
  | z :: r => z + 18446744073709551616 * num r

/-- A power of 2^64. -/
def pw : Nat → Int
  | 0 => 1
  | n + 1 => 18446744073709551616 * pw n

/-- Each is a word. -/
def Limbs (zs : List Int) : Prop := ∀ z ∈ zs, 0 ≤ z ∧ z < 18446744073709551616

/-- How many words are left without the noughts at the end. -/
def usedN : List Int → Nat
  | [] => 0
  | z :: r => if usedN r = 0 then (if z = 0 then 0 else 1) else usedN r + 1

theorem pw_pos : ∀ n, 0 < pw n
  | 0 => by decide
  | n + 1 => by have := pw_pos n; simp only [pw]; omega
theorem pw_add : ∀ m n, pw (m + n) = pw m * pw n
  | 0, n => by simp [pw]
  | m + 1, n => by rw [Nat.add_right_comm, pw, pw, pw_add m n, Int.mul_assoc]
theorem pw_mono {m n : Nat} (h : m ≤ n) : pw m ≤ pw n := by
  obtain ⟨k, rfl⟩ := Nat.exists_eq_add_of_le h
  rw [pw_add]
  have h1 := pw_pos m; have h2 := pw_pos k
  have : pw m * 1 ≤ pw m * pw k := Int.mul_le_mul_of_nonneg_left (by omega) (by omega)
  omega

theorem Limbs.tail {z : Int} {r : List Int} (h : Limbs (z :: r)) : Limbs r := fun x hx => h x (List.mem_cons_of_mem _ hx)
theorem Limbs.head {z : Int} {r : List Int} (h : Limbs (z :: r)) : 0 ≤ z ∧ z < 18446744073709551616 := h z (List.mem_cons_self ..)
theorem Limbs.getD {zs : List Int} (h : Limbs zs) (i : Nat) : 0 ≤ zs.getD i 0 ∧ zs.getD i 0 < 18446744073709551616 := by
  rw [List.getD_eq_getElem?_getD]
  rcases Nat.lt_or_ge i zs.length with hi | hi
  · rw [List.getElem?_eq_getElem hi]; exact h _ (List.getElem_mem hi)
  · rw [List.getElem?_eq_none hi]; decide
theorem Limbs.take {zs : List Int} (h : Limbs zs) (n : Nat) : Limbs (zs.take n) := fun x hx => h x (List.mem_of_mem_take hx)
theorem Limbs.drop {zs : List Int} (h : Limbs zs) (n : Nat) : Limbs (zs.drop n) := fun x hx => h x (List.mem_of_mem_drop hx)
theorem Limbs.append {a b : List Int} (h : Limbs a) (k : Limbs b) : Limbs (a ++ b) := fun x hx => by
  rcases List.mem_append.1 hx with h' | h'
  · exact h x h'
  · exact k x h'
theorem Limbs.set {zs : List Int} (h : Limbs zs) (i : Nat) {v : Int} (hv : 0 ≤ v ∧ v < 18446744073709551616) : Limbs (zs.set i v) := fun x hx => by
  rcases List.mem_or_eq_of_mem_set hx with h' | h'
  · exact h x h'
  · rw [h']; exact hv
theorem Limbs.zeros (n : Nat) : Limbs (List.replicate n 0) := fun x hx => by
  rw [List.eq_of_mem_replicate hx]; decide
theorem Limbs.nil : Limbs [] := fun _ hx => by cases hx

theorem num_nonneg : ∀ {zs : List Int}, Limbs zs → 0 ≤ num zs
  | [], _ => by decide
  | z :: r, h => by
    have h1 := num_nonneg h.tail; have h2 := h.head
    simp only [num]; omega
theorem num_lt : ∀ {zs : List Int}, Limbs zs → num zs < pw zs.length
  | [], _ => by decide
  | z :: r, h => by
    have h1 := num_lt h.tail; have h2 := h.head
    simp only [num, List.length_cons, pw]; omega

theorem num_append : ∀ (a b : List Int), num (a ++ b) = num a + num b * pw a.length
  | [], b => by simp [num, pw]
  | z :: r, b => by
    simp only [List.cons_append, num, List.length_cons, pw, num_append r b]
    rw [Int.mul_add, Int.mul_left_comm (num b), Int.add_assoc]
theorem num_zeros (n : Nat) : num (List.replicate n 0) = 0 := by
  induction n with
  | zero => rfl
  | succ n ih => simp only [List.replicate_succ, num, ih]; decide
theorem num_snoc (a : List Int) (z : Int) : num (a ++ [z]) = num a + z * pw a.length := by
  rw [num_append]; simp [num]
theorem num_take_succ (zs : List Int) (k : Nat) : num (zs.take (k + 1)) = num (zs.take k) + zs.getD k 0 * pw k := by
  rcases Nat.lt_or_ge k zs.length with h | h
  · rw [List.take_succ_eq_append_getElem h, num_snoc, List.length_take, Nat.min_eq_left (by omega), List.getD_eq_getElem?_getD, List.getElem?_eq_getElem h]; rfl
  · rw [List.take_of_length_le (by omega), List.take_of_length_le h, List.getD_eq_getElem?_getD, List.getElem?_eq_none h]; simp
theorem num_take_drop (zs : List Int) (k : Nat) (h : k ≤ zs.length) : num zs = num (zs.take k) + num (zs.drop k) * pw k := by
  have := num_append (zs.take k) (zs.drop k)
  rw [List.take_append_drop, List.length_take, Nat.min_eq_left h] at this; exact this

theorem usedN_le : ∀ zs : List Int, usedN zs ≤ zs.length
  | [] => Nat.le_refl _
  | z :: r => by have := usedN_le r; simp only [usedN, List.length_cons]; split <;> (try split) <;> omega
theorem usedN_beyond : ∀ (zs : List Int) (i : Nat), usedN zs ≤ i → zs.getD i 0 = 0
  | [], i, _ => by simp
  | z :: r, i, h => by
    have ih := usedN_beyond r
    simp only [usedN] at h
    cases i with
    | zero => split at h <;> (try split at h) <;> simp_all
    | succ i =>
      simp only [List.getD_cons_succ]
      apply ih
      split at h <;> (try split at h) <;> omega
theorem usedN_top : ∀ (zs : List Int), 0 < usedN zs → zs.getD (usedN zs - 1) 0 ≠ 0
  | [], h => by simp [usedN] at h
  | z :: r, h => by
    have ih := usedN_top r
    simp only [usedN] at h ⊢
    by_cases h0 : usedN r = 0
    · by_cases hz : z = 0
      · simp [h0, hz] at h
      · simp [h0, hz]
    · rw [if_neg h0]
      have : usedN r + 1 - 1 = (usedN r - 1) + 1 := by omega
      rw [this, List.getD_cons_succ]
      exact ih (by omega)
/-- What it is known by. -/
theorem usedN_eq {zs : List Int} {u : Nat} (_hu : u ≤ zs.length) (h1 : ∀ i, u ≤ i → i < zs.length → zs.getD i 0 = 0) (h2 : u = 0 ∨ zs.getD (u - 1) 0 ≠ 0) : usedN zs = u := by
  have a := usedN_beyond zs; have b := usedN_top zs; have c := usedN_le zs
  rcases Nat.lt_trichotomy (usedN zs) u with h | h | h
  · rcases h2 with h2 | h2
    · omega
    · exact absurd (a (u - 1) (by omega)) h2
  · exact h
  · exact absurd (h1 (usedN zs - 1) (by omega) (by omega)) (b (by omega))

theorem num_take_of_zeros {zs : List Int} {u : Nat} (h : ∀ i, u ≤ i → zs.getD i 0 = 0) : ∀ k, num (zs.take (u + k)) = num (zs.take u)
  | 0 => rfl
  | k + 1 => by rw [← Nat.add_assoc, num_take_succ, h (u + k) (by omega), num_take_of_zeros h k]; simp
theorem num_take_used (zs : List Int) {n : Nat} (h : usedN zs ≤ n) : num (zs.take n) = num zs := by
  have e := num_take_of_zeros (zs := zs) (u := usedN zs) (usedN_beyond zs)
  have a := e (n - usedN zs); have b := e (zs.length - usedN zs)
  have c := usedN_le zs
  rw [Nat.add_sub_cancel' h] at a
  rw [Nat.add_sub_cancel' c, List.take_of_length_le (Nat.le_refl _)] at b
  rw [a, b]
theorem num_lt_used {zs : List Int} (h : Limbs zs) : num zs < pw (usedN zs) := by
  have := num_lt (h.take (usedN zs))
  rw [num_take_used zs (Nat.le_refl _), List.length_take, Nat.min_eq_left (usedN_le zs)] at this; exact this
theorem num_ge_used {zs : List Int} (h : Limbs zs) (hu : 0 < usedN zs) : pw (usedN zs - 1) ≤ num zs := by
  have e := num_take_succ zs (usedN zs - 1)
  rw [Nat.sub_add_cancel hu, num_take_used zs (Nat.le_refl _)] at e
  have h1 := num_nonneg (h.take (usedN zs - 1))
  have h2 := usedN_top zs hu
  have h3 := h.getD (usedN zs - 1)
  have h4 := pw_pos (usedN zs - 1)
  have : 1 * pw (usedN zs - 1) ≤ zs.getD (usedN zs - 1) 0 * pw (usedN zs - 1) := Int.mul_le_mul_of_nonneg_right (by omega) (by omega)
  omega
theorem num_eq_zero {zs : List Int} (h : Limbs zs) : num zs = 0 ↔ usedN zs = 0 := by
  constructor
  · intro e
    rcases Nat.eq_zero_or_pos (usedN zs) with h0 | h0
    · exact h0
    · have := num_ge_used h h0; have := pw_pos (usedN zs - 1); omega
  · intro e
    rw [← num_take_used zs (Nat.le_refl _), e]; rfl

theorem usedN_take (zs : List Int) {n : Nat} (h : usedN zs ≤ n) : usedN (zs.take n) = usedN zs := by
  have c := usedN_le zs
  refine usedN_eq (by rw [List.length_take]; omega) (fun i h1 h2 => ?_) ?_
  · rw [List.length_take] at h2
    rw [List.getD_eq_getElem?_getD, List.getElem?_take_of_lt (by omega), ← List.getD_eq_getElem?_getD]; exact usedN_beyond zs i h1
  · rcases Nat.eq_zero_or_pos (usedN zs) with h0 | h0
    · exact .inl h0
    · right
      rw [List.getD_eq_getElem?_getD, List.getElem?_take_of_lt (by omega), ← List.getD_eq_getElem?_getD]; exact usedN_top zs h0

/-- One list a number. -/
theorem num_inj : ∀ {a b : List Int}, Limbs a → Limbs b → a.length = b.length → num a = num b → a = b
  | [], [], _, _, _, _ => rfl
  | [], _ :: _, _, _, h, _ => by simp at h
  | _ :: _, [], _, _, h, _ => by simp at h
  | x :: r, y :: s, ha, hb, h, e => by
    simp only [num] at e
    have h1 := ha.head; have h2 := hb.head
    have : x = y := by omega
    subst this
    rw [num_inj ha.tail hb.tail (by simpa using h) (by omega)]
theorem used_of_num {a b : List Int} (ha : Limbs a) (hb : Limbs b) (e : num a = num b) : usedN a = usedN b := by
  rcases Nat.lt_trichotomy (usedN a) (usedN b) with h | h | h
  · have h1 := num_lt_used ha; have h2 := num_ge_used hb (by omega)
    have := pw_mono (show usedN a ≤ usedN b - 1 by omega); omega
  · exact h
  · have h1 := num_lt_used hb; have h2 := num_ge_used ha (by omega)
    have := pw_mono (show usedN b ≤ usedN a - 1 by omega); omega
theorem trim_eq {a b : List Int} (ha : Limbs a) (hb : Limbs b) (e : num a = num b) : a.take (usedN a) = b.take (usedN b) := by
  have h := used_of_num ha hb e
  refine num_inj (ha.take _) (hb.take _) ?_ ?_
  · have := usedN_le a; have := usedN_le b
    rw [List.length_take, List.length_take]; omega
  · rw [num_take_used a (Nat.le_refl _), num_take_used b (Nat.le_refl _), e]

theorem getD_set_other (zs : List Int) (i j : Nat) (v : Int) (h : i ≠ j) : (zs.set i v).getD j 0 = zs.getD j 0 := by
  rw [List.getD_eq_getElem?_getD, List.getElem?_set_ne h, ← List.getD_eq_getElem?_getD]
theorem num_set_take (zs : List Int) (i : Nat) (v : Int) (h : i < zs.length) : num ((zs.set i v).take (i + 1)) = num (zs.take i) + v * pw i := by
  rw [num_take_succ, List.take_set_of_le (Nat.le_refl _), List.getD_eq_getElem?_getD, List.getElem?_set_self h]; rfl
theorem carry_step {v c' s p : Int} (h : v + 18446744073709551616 * c' = s) : v * p + c' * (18446744073709551616 * p) = s * p := by
  rw [← h, Int.add_mul, Int.mul_comm 18446744073709551616 c', Int.mul_assoc]
end Go.Proofs.YtblafbbnplfpjaaGreatDoor

namespace Go.Proofs.YtblafbbnplfpjaaGreatDoor
theorem getD_used (xs : List Int) (j : Nat) : (xs.take (usedN xs)).getD j 0 = xs.getD j 0 := by
  rcases Nat.lt_or_ge j (usedN xs) with h | h
  · rw [List.getD_eq_getElem?_getD, List.getElem?_take_of_lt h, ← List.getD_eq_getElem?_getD]
  · rw [usedN_beyond xs j h, List.getD_eq_getElem?_getD, List.getElem?_eq_none (by rw [List.length_take]; omega)]; rfl
theorem wide_length (xs : List Int) (n : Nat) (h : usedN xs ≤ n) : (xs.take (usedN xs) ++ List.replicate (n - usedN xs) 0).length = n := by
  have := usedN_le xs
  rw [List.length_append, List.length_take, List.length_replicate]; omega
theorem wide_getD (xs : List Int) (n j : Nat) : (xs.take (usedN xs) ++ List.replicate (n - usedN xs) 0).getD j 0 = xs.getD j 0 := by
  have hu := usedN_le xs
  rw [← getD_used xs, List.getD_eq_getElem?_getD, List.getD_eq_getElem?_getD]
  rcases Nat.lt_or_ge j (xs.take (usedN xs)).length with h | h
  · rw [List.getElem?_append_left h]
  · rw [List.getElem?_append_right h, List.getElem?_eq_none h, List.getElem?_replicate]; split <;> rfl
theorem wide_limbs {xs : List Int} (h : Limbs xs) (n : Nat) : Limbs (xs.take (usedN xs) ++ List.replicate (n - usedN xs) 0) := (h.take _).append (Limbs.zeros _)
theorem getD_take_lt (zs : List Int) (k j : Nat) (h : j < k) : (zs.take k).getD j 0 = zs.getD j 0 := by
  rw [List.getD_eq_getElem?_getD, List.getElem?_take_of_lt h, ← List.getD_eq_getElem?_getD]
theorem num_drop_at (zs : List Int) (t : Nat) (h : t < zs.length) : num (zs.drop t) = zs.getD t 0 + 18446744073709551616 * num (zs.drop (t + 1)) := by
  rw [List.drop_eq_getElem_cons h, num, List.getD_eq_getElem?_getD, List.getElem?_eq_getElem h]; rfl
theorem num_set_drop (zs : List Int) (t : Nat) (v : Int) (h : t < zs.length) : num ((zs.set t v).drop t) = v + 18446744073709551616 * num (zs.drop (t + 1)) := by
  rw [num_drop_at _ _ (by rw [List.length_set]; exact h), List.getD_eq_getElem?_getD, List.getElem?_set_self h, List.drop_set_of_lt (by omega)]; rfl
end Go.Proofs.YtblafbbnplfpjaaGreatDoor

namespace Go.Proofs.YtblafbbnplfpjaaGreatDoor
open Go.RowKit Go.Shelf

/-- A word: what a uint64 may hold. -/
def Word (x : Int) : Prop := 0 ≤ x ∧ x < 18446744073709551616
theorem word_mod (x : Int) : Word (x % 18446744073709551616) := ⟨by omega, by omega⟩

theorem add64_0 (x y : Int) (hx : 0 ≤ x) (hy : 0 ≤ y) (w : World) : (callFunc 211 #[.int .u64 x, .int .u64 y, .int .u64 0]).run Tryz.prog w =
    .ok (.value (.tuple #[.int .u64 ((x + y) % 18446744073709551616), .int .u64 ((x + y) / 18446744073709551616)])) w := by
  obtain ⟨x, rfl⟩ := Int.eq_ofNat_of_zero_le hx
  obtain ⟨y, rfl⟩ := Int.eq_ofNat_of_zero_le hy
  rw [run_callFunc_extern Tryz.func211 (by kernel_rfl) (by kernel_rfl) (by kernel_rfl) (e := add64Entry) (by kernel_rfl), run_add64 _ _ _ hx hy (by decide) (by decide)]
  simp only [Result.andThen]
  congr 5 <;> omega

/-- What is borrowed, under a name. -/
def bor (x y : Int) : Int := if x < y then 1 else 0
theorem bor_01 (x y : Int) : 0 ≤ bor x y ∧ bor x y ≤ 1 := by unfold bor; split <;> omega

theorem sub64_0 (x y : Int) (hx : 0 ≤ x) (hy : 0 ≤ y) (hy' : y < 18446744073709551616) (w : World) : (callFunc 212 #[.int .u64 x, .int .u64 y, .int .u64 0]).run Tryz.prog w =
    .ok (.value (.tuple #[.int .u64 ((x - y) % 18446744073709551616), .int .u64 (bor x y)])) w := by
  obtain ⟨x, rfl⟩ := Int.eq_ofNat_of_zero_le hx
  obtain ⟨y, rfl⟩ := Int.eq_ofNat_of_zero_le hy
  have e1 : (((x + 18446744073709551616 - y - 0) % 18446744073709551616 : Nat) : Int) = ((x : Int) - y) % 18446744073709551616 := by omega
  have e2 : ((if x < y + 0 then 1 else 0 : Nat) : Int) = bor (x : Int) y := by unfold bor; split <;> split <;> omega
  rw [← e1, ← e2]
  rw [run_callFunc_extern Tryz.func212 (by kernel_rfl) (by kernel_rfl) (by kernel_rfl) (e := sub64Entry) (by kernel_rfl)]
  have h := run_sub64 (P := Tryz.prog) x y 0 (by omega) w
  simp only [Int.cast_ofNat_Int] at h
  rw [h]
  rfl

theorem ret_two {k l : IntKind} {a b c d : Int} (h : a = c) (h' : b = d) : Ending.returned (.tuple #[.int k a, .int l b]) = .returned (.tuple #[.int k c, .int l d]) := by rw [h, h']

theorem add_any (a b c : Int) (ha : Word a) (hb : Word b) (hc : Word c) (w : World) :
    Calls Tryz.prog 203 #[.int .u64 a, .int .u64 b, .int .u64 c] w fun e w' =>
      e = .returned (.tuple #[.int .u64 ((a + b + c) % 18446744073709551616), .int .u64 ((a + b + c) / 18446744073709551616)]) ∧ w' = w := by
  obtain ⟨a1, a2⟩ := ha; obtain ⟨b1, b2⟩ := hb; obtain ⟨c1, c2⟩ := hc
  have k0 : 0 ≤ (a + b) % 18446744073709551616 := by omega
  go_enter Tryz.func203, Tryz.ntmps203
  go_wp2_with (first | simp only [add64_0 a b a1 b1] | simp only [add64_0 _ c k0 c1])
  go_ret2
  have e2 : (a + b) / 18446744073709551616 + ((a + b) % 18446744073709551616 + c) / 18446744073709551616 = (a + b + c) / 18446744073709551616 := by omega
  exact ⟨ret_two rfl e2, rfl⟩

theorem sub_any (a b c : Int) (ha : Word a) (hb : Word b) (hc : Word c) (w : World) :
    Calls Tryz.prog 206 #[.int .u64 a, .int .u64 b, .int .u64 c] w fun e w' =>
      e = .returned (.tuple #[.int .u64 ((a - b - c) % 18446744073709551616), .int .u64 (-((a - b - c) / 18446744073709551616))]) ∧ w' = w := by
  obtain ⟨a1, a2⟩ := ha; obtain ⟨b1, b2⟩ := hb; obtain ⟨c1, c2⟩ := hc
  have k0 : 0 ≤ (a - b) % 18446744073709551616 := by omega
  obtain ⟨j0, j1⟩ := bor_01 a b
  obtain ⟨l0, l1⟩ := bor_01 ((a - b) % 18446744073709551616) c
  go_enter Tryz.func206, Tryz.ntmps206
  go_wp2_with (first | simp only [sub64_0 a b a1 b1 b2] | simp only [sub64_0 _ c k0 c1 c2])
  go_ret2
  have e1 : ((a - b) % 18446744073709551616 - c) % 18446744073709551616 = (a - b - c) % 18446744073709551616 := by omega
  have e2 : bor a b + bor ((a - b) % 18446744073709551616) c = -((a - b - c) / 18446744073709551616) := by
    unfold bor; split <;> split <;> omega
  first
    | exact ⟨ret_two rfl e2, rfl⟩
    | exact ⟨ret_two e1 e2, rfl⟩

theorem mul64_any (a b : Int) (ha : Word a) (hb : Word b) (w : World) : Calls Tryz.prog 210 #[.int .u64 a, .int .u64 b] w fun e w' =>
      e = .returned (.tuple #[.int .u64 (a * b / 18446744073709551616), .int .u64 (a * b % 18446744073709551616)]) ∧ w' = w := by
  obtain ⟨a1, a2⟩ := ha; obtain ⟨b1, b2⟩ := hb
  obtain ⟨a, rfl⟩ := Int.eq_ofNat_of_zero_le a1
  obtain ⟨b, rfl⟩ := Int.eq_ofNat_of_zero_le b1
  have h := Tryz.bits_Mul64 a b (by omega) (by omega) w
  simpa using h

theorem mul_any (a b : Int) (ha : Word a) (hb : Word b) (w : World) :
    Calls Tryz.prog 202 #[.int .u64 a, .int .u64 b] w fun e w' =>
      e = .returned (.tuple #[.int .u64 (a * b / 18446744073709551616), .int .u64 (a * b % 18446744073709551616)]) ∧ w' = w := by
  go_enter Tryz.func202, Tryz.ntmps202
  go_wp2_with fail
  refine (mul64_any a b ha hb _).mono ?_
  rintro e w' ⟨rfl, rfl⟩
  go_wp2_with fail
  go_ret2
  exact ⟨rfl, rfl⟩
end Go.Proofs.YtblafbbnplfpjaaGreatDoor
