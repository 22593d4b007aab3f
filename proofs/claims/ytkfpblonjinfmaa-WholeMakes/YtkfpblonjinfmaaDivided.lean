/-
  divided: long division by two limbs or more.
-/
import Derived.Test.YtkfpblonjinfmaaTakeOff
import Derived.Test.YtkfpblonjinfmaaTimes
import Derived.Lib.SliceRun
import Derived.BigFrame
namespace Go.Proofs.Ytkfpblonjinfmaa
open Go.RowKit Go.Shelf

/-- A row with noughts from a place on, so many. -/
def wiped : Nat → Nat → List Int → List Int
  | 0, _, cs => cs
  | k + 1, o, cs => wiped k (o + 1) (cs.set o 0)
theorem wiped_length : ∀ (k o : Nat) (cs : List Int), (wiped k o cs).length = cs.length
  | 0, _, _ => rfl
  | k + 1, o, cs => by rw [wiped, wiped_length, List.length_set]
theorem wiped_limbs : ∀ (k o : Nat) {cs : List Int}, Limbs cs → Limbs (wiped k o cs)
  | 0, _, _, h => h
  | k + 1, o, _, h => wiped_limbs k (o + 1) (h.set o ⟨by decide, by decide⟩)
theorem wiped_low : ∀ (k o : Nat) (cs : List Int) (j : Nat), j < o → (wiped k o cs).getD j 0 = cs.getD j 0
  | 0, _, _, _, _ => rfl
  | k + 1, o, cs, j, h => by rw [wiped, wiped_low k (o + 1) _ j (by omega), getD_set_other _ _ _ _ (by omega)]
theorem wiped_high : ∀ (k o : Nat) (cs : List Int) (j : Nat), o ≤ j → j < o + k → j < cs.length → (wiped k o cs).getD j 0 = 0
  | 0, o, cs, j, h1, h2, _ => absurd h2 (by omega)
  | k + 1, o, cs, j, h1, h2, h3 => by
    rw [wiped]
    by_cases h : j = o
    · subst h
      rw [wiped_low k (j + 1) _ j (by omega), getD_set_self _ _ _ h3]
    · exact wiped_high k (o + 1) _ j (by omega) (by omega) (by rw [List.length_set]; exact h3)
theorem num_wiped {cs : List Int} {n k : Nat} (h : n + k = cs.length) : num (wiped k n cs) = num (cs.take n) := by
  have hl := wiped_length k n cs
  have e := num_take_of_zeros (zs := wiped k n cs) (u := n) (fun i hi => by
    rcases Nat.lt_or_ge i cs.length with h' | h'
    · exact wiped_high k n cs i hi (by omega) h'
    · rw [List.getD_eq_getElem?_getD, List.getElem?_eq_none (by omega)]; rfl) k
  rw [h, ← hl, List.take_of_length_le (Nat.le_refl _)] at e
  rw [e]
  exact num_take_congr n (fun j hj => wiped_low k n cs j hj)
theorem Own.wipe {g : Nat} : ∀ (k o : Nat) {w : World} {cs : List Int}, Own w g cs → Own (w.setCells g o (List.replicate k (.int .u64 0))) g (wiped k o cs)
  | 0, _, _, _, h => h
  | k + 1, o, _, _, h => Own.wipe k (o + 1) (h.set o 0)
theorem Only.wipe {g : Nat} {a : World} : ∀ (k o : Nat) {w : World}, Only g a w → Only g a (w.setCells g o (List.replicate k (.int .u64 0)))
  | 0, _, _, h => h
  | k + 1, o, _, h => Only.wipe k (o + 1) (h.set o _)
theorem zero_u64 (w : World) : (zeroValue 64).run Try.prog w = .ok (.int .u64 0) w := by kernel_rfl
theorem run_wipe {w : World} {g : Nat} {cs : List Int} (h : Own w g cs) (o n c : Nat) (hn : 0 < n) (hf : o + n ≤ cs.length) (ty : TypeId) :
    (Builtin.clear_ #[22] ty #[.slice (some ⟨g, o, none⟩) n c]).run Try.prog w = .ok (.tuple #[]) (w.setCells g o (List.replicate n (.int .u64 0))) :=
  Lib.run_clear_slice w 22 64 ty (.int .u64 0) Try.underlying22 zero_u64 rfl rfl g o n c hn (fun j hj => by rw [h.cell (o + j) (by omega)]; rfl) (fun j _ => h.frozen (o + j))

/-- The shift that lifts the divisor's highest bit. -/
theorem shift_facts {ys : List Int} (hy : Limbs ys) {n : Nat} (hu : usedN ys = n) : 0 ≤ 64 * (n : Int) - bitsN ys ∧ 64 * (n : Int) - bitsN ys ≤ 63 := by
  obtain ⟨q0, q1, q2⟩ := bits_limbs hy
  rw [hu] at q1 q2
  omega
theorem lifted_used {ys zs : List Int} (hy : Limbs ys) (hz : Limbs zs) {n s : Nat} (hu : usedN ys = n) (hn : 0 < n) (hs : (s : Int) = 64 * (n : Int) - bitsN ys) (e : num zs = num ys * 2 ^ s) : usedN zs = n := by
  have hb := bits_moved hy hz (by omega) e
  obtain ⟨q0, q1, q2⟩ := bits_limbs hz
  omega
theorem kinv_start {xs ys zs : List Int} {la n s : Nat} (hx : Limbs xs) (hy : Limbs ys) (hz : Limbs zs) (hlx : xs.length = la) (hu : usedN ys = n) (hn : 0 < n) (hnl : n ≤ la) (hm : zs.length ≤ la + 1) (e : num zs = num xs * 2 ^ s) :
    KInv (num xs * 2 ^ s) (num ys * 2 ^ s) n la (la + 1) (zs ++ List.replicate (la + 1 - zs.length) 0) := by
  have hl : (zs ++ List.replicate (la + 1 - zs.length) 0).length = la + 1 := by rw [List.length_append, List.length_replicate]; omega
  have hnum : num (zs ++ List.replicate (la + 1 - zs.length) 0) = num xs * 2 ^ s := by rw [num_append, num_zeros]; omega
  refine ⟨hl, hz.append (Limbs.zeros _), ?_, ?_⟩
  · rw [List.take_of_length_le (by omega), List.drop_of_length_le (by omega), hnum]; simp [num]
  · rw [List.take_of_length_le (by omega), hnum]
    have h1 := num_lt hx
    have h2 := num_ge_used hy (by omega)
    rw [hu] at h2
    rw [hlx] at h1
    have h3 : pw la = pw (n - 1) * pw (la + 1 - n) := by rw [← pw_add]; congr 1; omega
    have h4 : pw (n - 1) * pw (la + 1 - n) ≤ num ys * pw (la + 1 - n) := mul_le (Int.le_of_lt (pw_pos _)) h2
    have h5 : num xs * 2 ^ s < num ys * pw (la + 1 - n) * 2 ^ s := Int.mul_lt_mul_of_pos_right (by omega) (p2_pos s)
    have h6 : num ys * 2 ^ s * pw (la + 1 - n) = num ys * pw (la + 1 - n) * 2 ^ s := Int.mul_right_comm _ _ _
    omega
/-- What comes out, without the shift. -/
theorem unshift {x y q r P : Int} (hP : 0 < P) (h1 : r + q * (y * P) = x * P) (h2 : r < y * P) (h0 : 0 ≤ r) : x = q * y + r / P ∧ r / P < y ∧ 0 ≤ r / P := by
  have e : r = (x - q * y) * P := by grind
  have e2 : r / P = x - q * y := by rw [e, Int.mul_ediv_cancel _ (by omega)]
  rw [e2]
  refine ⟨by omega, ?_, ?_⟩
  · rw [e] at h2; exact lt_cancel hP h2
  · rw [e] at h0
    have : 0 * P ≤ (x - q * y) * P := by omega
    exact le_cancel hP this
end Go.Proofs.Ytkfpblonjinfmaa
