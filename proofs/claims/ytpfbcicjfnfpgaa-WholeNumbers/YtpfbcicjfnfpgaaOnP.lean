/-
  Digits to the base 2^32 times a number below 2^32, and one more, in numbers (the document's onto); a row whose highest digit is not 0.
-/
import Derived.Test.YtpfbcicjfnfpgaaBsJ
namespace Go.Proofs.Ytpfbcicjfnfpgaa
set_option linter.unusedVariables false

/-- k digits are done: what is carried. -/
structure OnI (ds cs : List Int) (p q : Int) (k : Nat) (c : Int) : Prop where
  len : cs.length = ds.length
  lim : H.Limbs cs
  val : H.num (cs.take k) + c * H.pw k = H.num (ds.take k) * p + q
  rst : ∀ j, k ≤ j → cs.getD j 0 = ds.getD j 0
  c0 : 0 ≤ c
  c1 : c < 4294967296
theorem OnI.start {ds : List Int} (h : H.Limbs ds) {p q : Int} (q0 : 0 ≤ q) (q1 : q < 4294967296) : OnI ds ds p q 0 q :=
  ⟨rfl, h, by simp [H.num, H.pw], fun _ _ => rfl, q0, q1⟩
theorem mul32_bd {a b : Int} (a0 : 0 ≤ a) (a1 : a < 4294967296) (b0 : 0 ≤ b) (b1 : b < 4294967296) : 0 ≤ a * b ∧ a * b ≤ 18446744065119617025 := by
  constructor
  · exact Int.mul_nonneg a0 b0
  · have h1 : a * b ≤ 4294967295 * b := Int.mul_le_mul_of_nonneg_right (by omega) b0
    omega
theorem OnI.step {ds cs : List Int} {p q c : Int} {k : Nat} (h : OnI ds cs p q k c) (hk : k < ds.length) (p0 : 0 ≤ p) (p1 : p < 4294967296) :
    OnI ds (cs.set k ((ds.getD k 0 * p + c) % 4294967296)) p q (k + 1) ((ds.getD k 0 * p + c) / 4294967296) := by
  obtain ⟨h1, h2, h3, h4, h5, h6⟩ := h
  have hd : 0 ≤ ds.getD k 0 ∧ ds.getD k 0 < 4294967296 := by rw [← h4 k (Nat.le_refl _)]; exact h2.getD k
  have hm := mul32_bd hd.1 hd.2 p0 p1
  generalize hs : ds.getD k 0 * p + c = s at *
  have s0 : 0 ≤ s := by omega
  have s1 : s ≤ 18446744069414584320 := by omega
  refine ⟨by rw [List.length_set]; exact h1, h2.set k ⟨by omega, by omega⟩, ?_, fun j hj => ?_, by omega, by omega⟩
  · rw [H.num_set_take cs k _ (by omega), H.num_take_succ ds k, H.pw]
    have e : s % 4294967296 + 4294967296 * (s / 4294967296) = s := by omega
    have e2 := H.carry_step (p := H.pw k) e
    have e3 : ds.getD k 0 * H.pw k * p = (s - c) * H.pw k := by rw [← hs]; grind
    grind
  · rw [← h4 j (by omega), List.getD_eq_getElem?_getD, List.getD_eq_getElem?_getD, List.getElem?_set_ne (by omega)]
/-- A row with no nought at its end. -/
def Tzr (ds : List Int) : Prop := ds ≠ [] → ds.getD (ds.length - 1) 0 ≠ 0
theorem Tzr.nil : Tzr [] := fun h => absurd rfl h
theorem tzr_used {ds : List Int} (hL : H.Limbs ds) (h : Tzr ds) : usedN ds = ds.length := by
  rcases Nat.eq_zero_or_pos ds.length with h0 | h0
  · have := usedN_le ds; omega
  · refine usedN_eq (Nat.le_refl _) (fun i h1 h2 => by omega) (Or.inr ?_)
    exact h (fun e => by rw [e] at h0; simp at h0)
/-- What onto leaves: the row, or the row and what is carried. -/
theorem OnI.end_ {ds cs : List Int} {p q c : Int} (h : OnI ds cs p q ds.length c) (hz : Tzr ds) (hL : H.Limbs ds) (p1 : 1 ≤ p) (q0 : 0 ≤ q) :
    H.num (if 0 < c then cs ++ [c] else cs) = H.num ds * p + q ∧ H.Limbs (if 0 < c then cs ++ [c] else cs) ∧ Tzr (if 0 < c then cs ++ [c] else cs) := by
  obtain ⟨h1, h2, h3, h4, h5, h6⟩ := h
  rw [List.take_of_length_le (by omega), List.take_of_length_le (Nat.le_refl _)] at h3
  by_cases hc : 0 < c
  · rw [if_pos hc]
    refine ⟨by rw [H.num_snoc, h1]; exact h3, h2.snoc ⟨h5, h6⟩, fun _ => ?_⟩
    rw [List.length_append, List.length_singleton, Nat.add_sub_cancel, List.getD_eq_getElem?_getD, List.getElem?_append_right (Nat.le_refl _), Nat.sub_self]
    simp; omega
  · rw [if_neg hc]
    have c0 : c = 0 := by omega
    subst c0
    rw [Int.zero_mul, Int.add_zero] at h3
    refine ⟨h3, h2, fun hne => ?_⟩
    have hds : ds ≠ [] := fun e => hne (List.length_eq_zero_iff.1 (by rw [h1, e]; rfl))
    have hp := List.length_pos_iff.2 hds
    -- the value is at least that of ds, so the row is as long as ds
    have hu := tzr_used hL hz
    have hge := H.num_ge_used hL (by rw [hu]; exact hp)
    have hnn := H.num_nonneg hL
    have hle : H.num ds ≤ H.num ds * p := by
      have := Int.mul_le_mul_of_nonneg_left p1 hnn
      omega
    have hlt := H.num_lt_used h2
    have hul := usedN_le cs
    have hueq : usedN cs = cs.length := by
      rcases Nat.lt_or_ge (usedN cs) cs.length with h' | h'
      · have := H.pw_mono (m := usedN cs) (n := usedN ds - 1) (by omega)
        omega
      · omega
    have ht := usedN_top cs
    rw [hueq] at ht
    exact ht (by omega)
theorem long32_iff {ds : List Int} (hL : H.Limbs ds) (hz : Tzr ds) : 8192 < ds.length ↔ pw 4096 ≤ H.num ds := by
  have hu := tzr_used hL hz
  have e := H.pw_two 4096
  constructor
  · intro h
    have h1 := H.num_ge_used hL (by omega)
    have h2 := H.pw_mono (m := 2 * 4096) (n := usedN ds - 1) (by omega)
    omega
  · intro h
    rcases Nat.lt_or_ge 8192 ds.length with h' | h'
    · exact h'
    · have h1 := H.num_lt hL
      have h2 := H.pw_mono (m := ds.length) (n := 2 * 4096) (by omega)
      omega
end Go.Proofs.Ytpfbcicjfnfpgaa
