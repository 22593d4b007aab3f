/-
  Digits in tens, the lowest first.
-/
import Derived.Test.YtigimdcaakfckaaGreatDoorBsA
namespace Go.Proofs.YtigimdcaakfckaaGreatDoor
set_option linter.unusedVariables false

/-- What digits are worth, the lowest first. -/
def lv : List Int → Int
  | [] => 0
  | z :: t => z + 10 * lv t
def pt : Nat → Int
  | 0 => 1
  | n + 1 => 10 * pt n
theorem pt_pos : ∀ n, 1 ≤ pt n
  | 0 => Int.le_refl _
  | n + 1 => by have := pt_pos n; simp only [pt]; omega
theorem lv_app (x : Int) : ∀ os : List Int, lv (os ++ [x]) = lv os + pt os.length * x
  | [] => by simp [lv, pt]
  | z :: t => by
    have ih := lv_app x t
    rw [List.cons_append]
    simp only [lv, pt, List.length_cons, ih, Int.mul_add, Int.mul_assoc]
    omega
def D10 (os : List Int) : Prop := ∀ z ∈ os, 0 ≤ z ∧ z < 10
theorem D10.app {os : List Int} (h : D10 os) {x : Int} (hx : 0 ≤ x ∧ x < 10) : D10 (os ++ [x]) := by
  intro z hz
  rcases List.mem_append.1 hz with h1 | h1
  · exact h z h1
  · rw [List.mem_singleton.1 h1]; exact hx
theorem lv_nonneg : ∀ {os : List Int}, D10 os → 0 ≤ lv os
  | [], _ => Int.le_refl _
  | z :: t, h => by
    have h1 := h z (by simp)
    have h2 := lv_nonneg (os := t) (fun y hy => h y (by simp [hy]))
    simp only [lv]; omega
/-- The highest digit is not 0. -/
def Tp9 (os : List Int) : Prop := os ≠ [] ∧ os.getD (os.length - 1) 0 ≠ 0
theorem top_app {os : List Int} {x : Int} (hx : x ≠ 0) : Tp9 (os ++ [x]) := by
  refine ⟨by simp, ?_⟩
  rw [List.length_append, List.getD_eq_getElem?_getD]
  simp only [List.length_singleton, Nat.add_sub_cancel]
  rw [List.getElem?_append_right (Nat.le_refl _), Nat.sub_self]
  exact hx
/-- Behind k digits of a piece: what is told, what is left of the piece, what is left of the number. -/
structure In9 (N D : Int) (l0 k : Nat) (os : List Int) (r : Int) : Prop where
  kl : k ≤ 9
  len : os.length = l0 + k
  dig : D10 os
  val : lv os + pt os.length * (r + pt (9 - k) * D) = N
  r0 : 0 ≤ r
  r1 : r < pt (9 - k)
  top : D = 0 → r = 0 → Tp9 os
theorem In9.step {N D : Int} {l0 k : Nat} {os : List Int} {r : Int} (h : In9 N D l0 k os r) (hD : 0 ≤ D) (hk : k < 9) (hc : 0 < D ∨ 0 < r) : In9 N D l0 (k + 1) (os ++ [r % 10]) (r / 10) := by
  obtain ⟨h1, h2, h3, h4, h5, h6, h7⟩ := h
  have e : 9 - k = (9 - (k + 1)) + 1 := by omega
  rw [e] at h4 h6
  simp only [pt] at h4 h6
  refine ⟨by omega, by rw [List.length_append, h2]; rfl, h3.app (by omega), ?_, by omega, by omega, fun d0 r0 => top_app ?_⟩
  · rw [lv_app, ← h4, List.length_append]
    have er : r = 10 * (r / 10) + r % 10 := by omega
    have : pt (os.length + [r % 10].length) = 10 * pt os.length := rfl
    rw [this]
    generalize pt os.length = A
    generalize pt (9 - (k + 1)) = q
    generalize r / 10 = s at *
    generalize r % 10 = x at *
    subst er
    simp only [Int.mul_add, Int.mul_assoc, Int.mul_left_comm 10]
    omega
  · omega
/-- Between two pieces. -/
structure Ou9 (N D : Int) (os : List Int) : Prop where
  dig : D10 os
  val : lv os + pt os.length * D = N
  top : D = 0 → os = [] ∨ Tp9 os
  len : D ≠ 0 → os.length = 0 ∨ os.length = 9 ∨ os.length = 18
  le : os.length ≤ 27
theorem Ou9.start (N : Int) : Ou9 N N [] := ⟨fun z hz => (by cases hz), by simp [lv, pt], fun _ => .inl rfl, fun _ => .inl rfl, by simp⟩
theorem Ou9.piece {N D C r : Int} {os : List Int} (h : Ou9 N D os) (hD : 0 < D) (e : D = C * 1000000000 + r) (r0 : 0 ≤ r) (r1 : r < 1000000000) : In9 N C os.length 0 os r := by
  have p9 : pt (9 - 0) = 1000000000 := by decide
  refine ⟨by omega, rfl, h.dig, ?_, r0, by rw [p9]; exact r1, fun h1 h2 => by omega⟩
  rw [← h.val, p9, e]
  congr 2
  omega
theorem In9.leave {N C r : Int} {l0 k : Nat} {os : List Int} (h : In9 N C l0 k os r) (hN : N < 18446744073709551616) (hC : 0 ≤ C) (hl : l0 = 0 ∨ l0 = 9 ∨ l0 = 18) (he : k = 9 ∨ (C = 0 ∧ r = 0)) : Ou9 N C os := by
  obtain ⟨h1, h2, h3, h4, h5, h6, h7⟩ := h
  have hr : r = 0 := by
    rcases he with rfl | ⟨-, h⟩
    · have : pt (9 - 9) = 1 := by decide
      omega
    · exact h
  subst hr
  have hv : lv os + pt os.length * C = N := by
    rcases he with rfl | ⟨rfl, -⟩
    · have : pt (9 - 9) = 1 := by decide
      rw [this] at h4
      simpa using h4
    · simpa using h4
  refine ⟨h3, hv, fun h => .inr (h7 h rfl), fun hc => ?_, by omega⟩
  rcases he with rfl | ⟨rfl, -⟩
  · by_cases h27 : os.length = 27
    · rw [h27] at hv
      have p27 : pt 27 = 1000000000000000000000000000 := by decide
      have := lv_nonneg h3
      rw [p27] at hv
      omega
    · omega
  · exact absurd rfl hc
theorem D10.getD {os : List Int} (h : D10 os) (k : Nat) : 0 ≤ os.getD k 0 ∧ os.getD k 0 < 10 := by
  rw [List.getD_eq_getElem?_getD]
  by_cases hk : k < os.length
  · rw [List.getElem?_eq_getElem hk]; exact h _ (List.getElem_mem hk)
  · rw [List.getElem?_eq_none (by omega)]; exact ⟨by decide, by decide⟩
end Go.Proofs.YtigimdcaakfckaaGreatDoor
