/-
  The digits of a number at any base, so many at a time (the document's Worths), in numbers.
-/
import Derived.Test.YtpfbcicjfnfpgaaDoorOfP
namespace Go.Proofs.YtpfbcicjfnfpgaaDoor
set_option linter.unusedVariables false

/-- What digits come to, the lowest first. -/
def lvB (b : Int) : List Int → Int
  | [] => 0
  | z :: t => z + b * lvB b t
theorem lvB_app (b x : Int) : ∀ os : List Int, lvB b (os ++ [x]) = lvB b os + b ^ os.length * x
  | [] => by simp [lvB]
  | z :: t => by
    rw [List.cons_append]
    simp only [lvB, List.length_cons]
    rw [lvB_app b x t, Int.pow_succ]
    grind
theorem lvB_rev (b : Int) : ∀ os : List Int, tvI b os.reverse = lvB b os
  | [] => rfl
  | z :: t => by
    rw [List.reverse_cons, tvI_snoc, lvB_rev b t]
    simp only [lvB]
    grind
theorem DgI.app {b : Int} {os : List Int} (h : DgI b os) {x : Int} (hx : 0 ≤ x ∧ x < b) : DgI b (os ++ [x]) := fun z hz => by
  rcases List.mem_append.1 hz with h' | h'
  · exact h z h'
  · rw [List.mem_singleton.1 h']; exact hx
/-- The highest is not 0. -/
def TpB (os : List Int) : Prop := os ≠ [] ∧ os.getD (os.length - 1) 0 ≠ 0
theorem tpB_app {os : List Int} {x : Int} (hx : x ≠ 0) : TpB (os ++ [x]) := by
  refine ⟨by simp, ?_⟩
  rw [List.length_append, List.length_singleton, Nat.add_sub_cancel, List.getD_eq_getElem?_getD, List.getElem?_append_right (Nat.le_refl _), Nat.sub_self]
  simpa using hx
structure InB (b N C : Int) (sz l0 k : Nat) (os : List Int) (r : Int) : Prop where
  dig : DgI b os
  val : N = lvB b os + b ^ os.length * (r + C * b ^ (sz - k))
  len : os.length = l0 + k
  kl : k ≤ sz
  r0 : 0 ≤ r
  r1 : r < b ^ (sz - k)
  top : 0 < k → C = 0 → r = 0 → TpB os
theorem InB.step {b N C : Int} {sz l0 k : Nat} {os : List Int} {r : Int} (h : InB b N C sz l0 k os r) (hb : 2 ≤ b) (hC : 0 ≤ C) (hk : k < sz) (hc : 0 < C ∨ 0 < r) : InB b N C sz l0 (k + 1) (os ++ [r % b]) (r / b) := by
  obtain ⟨h1, h2, h3, h4, h5, h6, h7⟩ := h
  have hm0 := Int.emod_nonneg r (b := b) (by omega)
  have hm1 := Int.emod_lt_of_pos r (b := b) (by omega)
  have hdm := Int.mul_ediv_add_emod r b
  obtain ⟨t, ht⟩ : ∃ t, sz - k = t + 1 := ⟨sz - k - 1, by omega⟩
  have ht2 : sz - (k + 1) = t := by omega
  rw [ht, Int.pow_succ] at h2 h6
  refine ⟨h1.app ⟨hm0, hm1⟩, ?_, by rw [List.length_append, List.length_singleton]; omega, by omega, Int.ediv_nonneg h5 (by omega), ?_, fun _ c0 r0 => ?_⟩
  · rw [ht2, lvB_app, List.length_append, List.length_singleton, Int.pow_succ, h2]
    generalize b ^ os.length = X
    generalize b ^ t = Y
    generalize hq : r / b = q at *
    generalize hs : r % b = s at *
    rw [← hdm]
    grind
  · rw [ht2]
    exact Int.ediv_lt_of_lt_mul (by omega) h6
  · refine tpB_app ?_
    have hrp : 0 < r := by omega
    rw [r0] at hdm
    omega
structure OuB (b N D : Int) (os : List Int) : Prop where
  dig : DgI b os
  val : N = lvB b os + b ^ os.length * D
  top : D = 0 → os = [] ∨ TpB os
theorem OuB.start (b N : Int) : OuB b N N [] := ⟨fun z hz => (by cases hz), by simp [lvB], fun _ => .inl rfl⟩
theorem OuB.piece {b N D C r : Int} {sz : Nat} {os : List Int} (h : OuB b N D os) (e : D = C * b ^ sz + r) (r0 : 0 ≤ r) (r1 : r < b ^ sz) : InB b N C sz os.length 0 os r :=
  ⟨h.dig, by rw [h.val, e, Nat.sub_zero]; grind, by omega, by omega, r0, by rw [Nat.sub_zero]; exact r1, fun h => by omega⟩
theorem InB.leave {b N C r : Int} {sz l0 k : Nat} {os : List Int} (h : InB b N C sz l0 k os r) (hk : 0 < k) (he : k = sz ∨ (C = 0 ∧ r = 0)) : OuB b N C os := by
  obtain ⟨h1, h2, h3, h4, h5, h6, h7⟩ := h
  rcases he with rfl | ⟨rfl, rfl⟩
  · rw [Nat.sub_self, Int.pow_zero] at h2 h6
    have r0 : r = 0 := by omega
    subst r0
    exact ⟨h1, by rw [h2]; grind, fun c0 => .inr (h7 hk c0 rfl)⟩
  · exact ⟨h1, by rw [h2]; grind, fun _ => .inr (h7 hk rfl rfl)⟩
theorem lvB_nonneg {b : Int} (hb : 1 ≤ b) {os : List Int} (h : DgI b os) : 0 ≤ lvB b os := by
  rw [← lvB_rev]; exact tvI_pos hb (fun z hz => h z (List.mem_reverse.1 hz))
theorem OuB.le {b N D : Int} {os : List Int} (h : OuB b N D os) (hb : 1 ≤ b) (hD : 0 < D) : b ^ os.length ≤ N := by
  have h1 := lvB_nonneg hb h.dig
  have h2 := ipow_pos hb os.length
  have h3 : b ^ os.length * 1 ≤ b ^ os.length * D := Int.mul_le_mul_of_nonneg_left (by omega) (by omega)
  rw [h.val]
  omega
end Go.Proofs.YtpfbcicjfnfpgaaDoor
