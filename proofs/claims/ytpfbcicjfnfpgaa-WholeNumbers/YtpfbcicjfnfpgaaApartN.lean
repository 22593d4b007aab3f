/-
  numeral.apart of any number.
-/
import Derived.Test.YtpfbcicjfnfpgaaTextS
import Derived.Test.YtpfbcicjfnfpgaaRowX
import Derived.Test.YtpfbcicjfnfpgaaBsO
import Derived.Test.YtpfbcicjfnfpgaaBsN
namespace Go.Proofs.Ytpfbcicjfnfpgaa
open Go.RowKit Go.Shelf
set_option linter.unusedVariables false

/-- What digits say, the lowest first. -/
def pv (B : Int) (D : Nat → Int) : Nat → Int
  | 0 => 0
  | n + 1 => pv B D n + D n * B ^ n
theorem fold_from (B : Int) (D : Nat → Dg) : ∀ (l : List Nat) (s : Int), l.foldl (fun s i => s * B + num (D i).2.2.2) s = s * B ^ l.length + dsum B D l := by
  intro l
  induction l with
  | nil => intro s; simp [dsum]
  | cons x l ih =>
    intro s
    have e : dsum B D (x :: l) = (0 * B + num (D x).2.2.2) * B ^ l.length + dsum B D l := ih _
    rw [List.foldl_cons, ih, e, List.length_cons, Int.pow_succ]
    grind
theorem down_top (n : Nat) : down (n + 1) (n + 1) = n :: down n n := by
  unfold down
  rw [List.range_succ_eq_map, List.map_cons, List.map_map]
  congr 1
  apply List.map_congr_left
  intro j hj
  show n + 1 - 1 - (j + 1) = n - 1 - j
  omega
theorem dsum_pv (B : Int) (D : Nat → Dg) : ∀ n, dsum B D (down n n) = pv B (fun j => num (D j).2.2.2) n
  | 0 => by simp [dsum, down, pv]
  | n + 1 => by
    have e : dsum B D (down (n + 1) (n + 1)) = (0 * B + num (D n).2.2.2) * B ^ (down n n).length + dsum B D (down n n) := by
      rw [down_top]; exact fold_from B D (down n n) _
    rw [e, dsum_pv B D n, down_length]
    simp only [pv]
    grind
theorem pv_pair {B : Int} {D E : Nat → Int} : ∀ n, (∀ j, j < n → D j = E (2 * j) + E (2 * j + 1) * B) → pv B E (2 * n) = pv (B * B) D n
  | 0, _ => rfl
  | n + 1, h => by
    have ih := pv_pair n (fun j hj => h j (by omega))
    have e2 : 2 * (n + 1) = 2 * n + 1 + 1 := by omega
    have e3 : (B * B) ^ n = B ^ (2 * n) := by rw [Int.mul_pow, show 2 * n = n + n by omega, Int.pow_add]
    rw [e2]
    simp only [pv]
    rw [ih, h n (by omega), e3, Int.pow_succ]
    grind
theorem pv_nonneg {B : Int} (hB : 0 ≤ B) {D : Nat → Int} (hD : ∀ j, 0 ≤ D j) : ∀ n, 0 ≤ pv B D n
  | 0 => Int.le_refl _
  | n + 1 => by
    have h1 := pv_nonneg hB hD n
    have h2 := Int.mul_nonneg (hD n) (Int.pow_nonneg (m := n) hB)
    simp only [pv]; omega
theorem pv_low {B : Int} (hB : 0 ≤ B) {D : Nat → Int} (hD : ∀ j, 0 ≤ D j) {n : Nat} (h : 1 ≤ D n) : B ^ n ≤ pv B D (n + 1) := by
  have h1 := pv_nonneg hB hD n
  have h2 : 1 * B ^ n ≤ D n * B ^ n := Int.mul_le_mul_of_nonneg_right h (Int.pow_nonneg (m := n) hB)
  simp only [pv]; omega
theorem len_bound {B V : Int} (hB : 2 ≤ B) {n : Nat} (h : B ^ n ≤ V) (hV : V < pw 4096) : n < 262144 := by
  rcases Nat.lt_or_ge n 262144 with h' | h'
  · exact h'
  · exfalso
    have h1 := two_le_pow hB n
    have h2 : (2 : Int) ^ 262144 ≤ 2 ^ n := by
      obtain ⟨k, rfl⟩ := Nat.exists_eq_add_of_le h'
      rw [Int.pow_add]
      have h3 : (1 : Int) ≤ 2 ^ k := Int.add_one_le_of_lt (Int.pow_pos (show (0 : Int) < 2 by omega))
      have h4 : (0 : Int) ≤ 2 ^ 262144 := Int.pow_nonneg (by omega)
      have h5 : (2 : Int) ^ 262144 * 1 ≤ 2 ^ 262144 * 2 ^ k := Int.mul_le_mul_of_nonneg_left h3 h4
      generalize (2 : Int) ^ 262144 = X at *
      omega
    rw [pw_eq, show 64 * 4096 = 262144 from rfl] at hV
    generalize (2 : Int) ^ 262144 = X at *
    omega

/-- What stands behind k pairs. -/
def ApI (len k : Nat) (D : Nat → Dg) (By : Int) (ds : List Dg) : Prop := ds.length = 2 * k ∧ ∀ j, j < k → ∀ x y, ds[2 * j]? = some x → ds[2 * j + 1]? = some y → num (D j).2.2.2 = num y.2.2.2 * By + num x.2.2.2 ∧ 0 ≤ num x.2.2.2 ∧ num x.2.2.2 < By ∧ 0 ≤ num y.2.2.2
theorem apI_on {len k : Nat} {D : Nat → Dg} {By : Int} {ds : List Dg} (h : ApI len k D By ds) {x y : Dg} (e : num (D k).2.2.2 = num y.2.2.2 * By + num x.2.2.2) (h1 : 0 ≤ num x.2.2.2) (h2 : num x.2.2.2 < By) (h3 : 0 ≤ num y.2.2.2) : ApI len (k + 1) D By (ds ++ [x, y]) := by
  obtain ⟨hl, hv⟩ := h
  refine ⟨by rw [List.length_append, hl]; rfl, fun j hj a b ha hb => ?_⟩
  rcases Nat.lt_or_ge j k with hjk | hjk
  · rw [List.getElem?_append_left (by omega)] at ha hb
    exact hv j hjk a b ha hb
  · obtain rfl : j = k := by omega
    rw [List.getElem?_append_right (by omega), hl, Nat.sub_self] at ha
    rw [List.getElem?_append_right (by omega), hl, show 2 * j + 1 - 2 * j = 1 by omega] at hb
    cases ha
    cases hb
    exact ⟨e, h1, h2, h3⟩
/-- The digits of all pairs, as a function. -/
def lD (ds : List Dg) (j : Nat) : Dg := ds.getD j d0
theorem lD_some {ds : List Dg} {j : Nat} (h : j < ds.length) : ds[j]? = some (lD ds j) := by
  unfold lD; rw [List.getD_eq_getElem?_getD, List.getElem?_eq_getElem h]; rfl
theorem lD_mem {ds : List Dg} {P : Dg → Prop} (h : ∀ d ∈ ds, P d) (h0 : P d0) (j : Nat) : P (lD ds j) := by
  unfold lD; rw [List.getD_eq_getElem?_getD]
  cases hj : ds[j]? with
  | none => exact h0
  | some d => exact h d (List.mem_of_getElem? hj)
theorem ap_done {W : World} {g len : Nat} {D : Nat → Dg} {V By : Int} {ds : List Dg} (hB : 2 ≤ By) (hI : ApI len len D By ds) (h1 : 1 ≤ len) (hV : V < pw 4096) (hD : dsum (By * By) D (down len len) = V) (hDb : ∀ j, j < len → num (D j).2.2.2 < By * By) (htop : 1 < len → num (D (len - 1)).2.2.2 ≠ 0) (hge : len = 1 → By ≤ V)
    (hN : ∀ d ∈ ds, Nt W d.1 d.2.1 d.2.2.1 d.2.2.2) (hg : g < W.heap.size) (hc : ∀ j x, ds[j]? = some x → W.cell? ⟨g, j, none⟩ = some (dv x)) :
    AP W g 0 (if num (lD ds (2 * len - 1)).2.2.2 = 0 then 2 * len - 1 else 2 * len) (lD ds) V By := by
  obtain ⟨hl, hv⟩ := hI
  have hNj : ∀ j, Nt W (lD ds j).1 (lD ds j).2.1 (lD ds j).2.2.1 (lD ds j).2.2.2 := lD_mem (P := fun d => Nt W d.1 d.2.1 d.2.2.1 d.2.2.2) hN (Nt.nil _)
  have hnn : ∀ j, 0 ≤ num (lD ds j).2.2.2 := fun j => (hNj j).nonneg
  have hpair : ∀ j, j < len → num (D j).2.2.2 = num (lD ds (2 * j + 1)).2.2.2 * By + num (lD ds (2 * j)).2.2.2 ∧ num (lD ds (2 * j)).2.2.2 < By := fun j hj => by
    have h := hv j hj _ _ (lD_some (by omega)) (lD_some (by omega))
    exact ⟨h.1, h.2.2.1⟩
  have hlt : ∀ j, num (lD ds j).2.2.2 < By := fun j => by
    by_cases hj : j < 2 * len
    · rcases Nat.mod_two_eq_zero_or_one j with hm | hm
      · have := (hpair (j / 2) (by omega)).2
        rwa [show 2 * (j / 2) = j by omega] at this
      · have hp := hpair (j / 2) (by omega)
        have hb := hDb (j / 2) (by omega)
        rw [show 2 * (j / 2) + 1 = j by omega] at hp
        have h0 := hnn (2 * (j / 2))
        rcases Int.lt_or_le (num (lD ds j).2.2.2) By with h | h
        · exact h
        · have := Int.mul_le_mul_of_nonneg_right h (show 0 ≤ By by omega)
          omega
    · have e : lD ds j = d0 := by unfold lD; rw [List.getD_eq_getElem?_getD, List.getElem?_eq_none (by omega)]; rfl
      rw [e]; show num [] < _; simp [num]; omega
  have hval : pv By (fun j => num (lD ds j).2.2.2) (2 * len) = V := by
    rw [pv_pair (D := fun j => num (D j).2.2.2) len (fun j hj => by have := (hpair j hj).1; omega), ← dsum_pv]
    exact hD
  by_cases hz : num (lD ds (2 * len - 1)).2.2.2 = 0
  · rw [if_pos hz]
    have hl1 : 1 < len := by
      rcases Nat.lt_or_ge 1 len with h | h
      · exact h
      · exfalso
        obtain rfl : len = 1 := by omega
        have hp := hpair 0 (by omega)
        have e0 : dsum (By * By) D (down 1 1) = num (D 0).2.2.2 := by rw [dsum_pv]; simp [pv]
        rw [e0] at hD
        rw [show 2 * 1 - 1 = 2 * 0 + 1 from rfl] at hz
        rw [hz] at hp
        have := hge rfl
        omega
    have hv2 : pv By (fun j => num (lD ds j).2.2.2) (2 * len - 1) = V := by
      have e : 2 * len = (2 * len - 1) + 1 := by omega
      rw [e] at hval
      simp only [pv] at hval
      rw [hz, Int.zero_mul] at hval
      omega
    have ht : num (lD ds (2 * len - 2)).2.2.2 ≠ 0 := by
      have hp := (hpair (len - 1) (by omega)).1
      rw [show 2 * (len - 1) + 1 = 2 * len - 1 by omega, hz, show 2 * (len - 1) = 2 * len - 2 by omega] at hp
      have := htop hl1
      omega
    have hb : 2 * len - 2 < 262144 := by
      refine len_bound hB ?_ hV
      have := pv_low (B := By) (by omega) hnn (n := 2 * len - 2) (by have := hnn (2 * len - 2); omega)
      rwa [show 2 * len - 2 + 1 = 2 * len - 1 by omega, hv2] at this
    refine ⟨by omega, by omega, hg, fun j hj => ?_, hNj, hlt, by rw [dsum_pv]; exact hv2, fun _ => by rw [show 2 * len - 1 - 1 = 2 * len - 2 by omega]; exact ht⟩
    rw [Nat.zero_add]; exact hc j _ (lD_some (by omega))
  · rw [if_neg hz]
    have hb : 2 * len - 1 < 262144 := by
      refine len_bound hB ?_ hV
      have := pv_low (B := By) (by omega) hnn (n := 2 * len - 1) (by have := hnn (2 * len - 1); omega)
      rwa [show 2 * len - 1 + 1 = 2 * len by omega, hval] at this
    refine ⟨by omega, by omega, hg, fun j hj => ?_, hNj, hlt, by rw [dsum_pv]; exact hval, fun _ => hz⟩
    rw [Nat.zero_add]; exact hc j _ (lD_some (by omega))
end Go.Proofs.Ytpfbcicjfnfpgaa
