/-
  The document's Text of whole numbers, in numbers: nine digits at a time, noughts at the end, the text. Plain Lean.
-/
import Derived.Test.YtpfbcicjfnfpgaaDoorTwP
import Derived.Test.YtpfbcicjfnfpgaaDoorTeP3
namespace Go.Proofs.YtpfbcicjfnfpgaaDoor
set_option linter.unusedVariables false
/-- k of nine digits of a rest are written; C is what is left beyond it. -/
structure Ni (N C : Int) (k : Nat) (os : List Int) (r : Int) : Prop where
  dig : DgI 10 os
  val : N = lvB 10 os + 10 ^ os.length * (r + C * 10 ^ (9 - k))
  kl : k ≤ 9
  r0 : 0 ≤ r
  r1 : r < 10 ^ (9 - k)
/-- Between two rounds. -/
structure No (N D : Int) (os : List Int) : Prop where
  dig : DgI 10 os
  val : N = lvB 10 os + 10 ^ os.length * D
theorem No.start (N : Int) : No N N [] := ⟨(fun z hz => (by cases hz)), by simp [lvB]⟩
theorem No.into {N D C r : Int} {os : List Int} (h : No N D os) (e : D = C * 1000000000 + r) (r0 : 0 ≤ r) (r1 : r < 1000000000) : Ni N C 0 os r := by
  refine ⟨h.dig, ?_, by omega, r0, by simpa using r1⟩
  rw [h.val, e]
  have : (10 : Int) ^ (9 - 0) = 1000000000 := by decide
  rw [this, Int.add_comm r]
theorem Ni.step {N C r : Int} {k : Nat} {os : List Int} (h : Ni N C k os r) (hk : k < 9) : Ni N C (k + 1) (os ++ [r % 10]) (r / 10) := by
  obtain ⟨h1, h2, h3, h4, h5⟩ := h
  obtain ⟨t, ht⟩ : ∃ t, 9 - k = t + 1 := ⟨9 - k - 1, by omega⟩
  have ht2 : 9 - (k + 1) = t := by omega
  rw [ht, Int.pow_succ] at h2 h5
  refine ⟨h1.app ⟨by omega, by omega⟩, ?_, by omega, by omega, ?_⟩
  · rw [ht2, lvB_app, List.length_append, List.length_singleton, Int.pow_succ, h2]
    have hdm : r = 10 * (r / 10) + r % 10 := by omega
    generalize hq : r / 10 = q at *
    generalize hs : r % 10 = s at *
    generalize (10 : Int) ^ os.length = X
    generalize (10 : Int) ^ t = Y
    subst hdm
    grind
  · rw [ht2]
    exact Int.ediv_lt_of_lt_mul (by omega) h5
theorem Ni.rb {N C r : Int} {k : Nat} {os : List Int} (h : Ni N C k os r) : r < 1000000000 := by
  have h1 := h.r1
  have h2 : (10 : Int) ^ (9 - k) ≤ 10 ^ 9 := by
    have : 10 ^ (9 - k) ≤ 10 ^ 9 := Nat.pow_le_pow_right (by omega) (by omega)
    exact_mod_cast this
  have h3 : (10 : Int) ^ 9 = 1000000000 := by decide
  omega
theorem Ni.leave {N C r : Int} {os : List Int} (h : Ni N C 9 os r) : No N C os := by
  have h0 := h.r0
  have h1 : r < 1 := by simpa using h.r1
  have hr : r = 0 := by omega
  refine ⟨h.dig, ?_⟩
  rw [h.val, hr]
  simp
theorem lvB_cut (b : Int) : ∀ (n : Nat) (os : List Int), lvB b os = lvB b (os.take n) + b ^ (min n os.length) * lvB b (os.drop n)
  | 0, os => by simp [lvB]
  | n + 1, [] => by simp [lvB]
  | n + 1, z :: t => by
    simp only [List.take_succ_cons, List.drop_succ_cons, lvB, List.length_cons]
    rw [lvB_cut b n t, show min (n + 1) (t.length + 1) = min n t.length + 1 by omega, Int.pow_succ]
    generalize b ^ min n t.length = X
    grind
theorem lvB_zeros (b : Int) : ∀ {os : List Int}, (∀ z ∈ os, z = 0) → lvB b os = 0
  | [], _ => rfl
  | z :: t, h => by
    rw [lvB, h z (List.mem_cons_self ..), lvB_zeros b (fun y hy => h y (List.mem_cons_of_mem _ hy))]
    simp
/-- The noughts at the end are left out: the text. -/
theorem cut_tx {N : Int} {os : List Int} {n : Nat} (hd : DgI 10 os) (hv : lvB 10 os = N) (h1 : 1 ≤ n) (hn : n ≤ os.length) (hz : ∀ j, n ≤ j → j < os.length → os.getD j 0 = 0) (ht : n = 1 ∨ os.getD (n - 1) 0 ≠ 0) : Tx 10 (tB3 (os.take n)) N.toNat := by
  have hd2 := hd.take n
  have hl : (os.take n).length = n := by rw [List.length_take]; omega
  have hz2 : lvB 10 (os.drop n) = 0 := lvB_zeros 10 fun z hm => by
    obtain ⟨j, hj, rfl⟩ := List.getElem_of_mem hm
    rw [List.length_drop] at hj
    have := hz (n + j) (by omega) (by omega)
    rw [List.getD_eq_getElem?_getD, List.getElem?_eq_getElem (by omega)] at this
    rw [List.getElem_drop]
    exact this
  have hv2 : lvB 10 (os.take n) = N := by rw [← hv, lvB_cut 10 n os, hz2]; simp
  have hne : os.take n ≠ [] := fun e => by rw [e] at hl; simp at hl; omega
  refine tB3_tx (b := 10) (by omega) (by omega) hd2 hne hv2 ?_
  have hg : (os.take n).getD (n - 1) 0 = os.getD (n - 1) 0 := by
    rw [List.getD_eq_getElem?_getD, List.getD_eq_getElem?_getD, List.getElem?_take_of_lt (by omega)]
  by_cases h0 : os.getD (n - 1) 0 = 0
  · rcases ht with h | h
    · left
      subst h
      match os, hn, h0 with
      | x :: t, _, h0 => simp at h0; simp [h0]
    · exact absurd h0 h
  · right
    exact ⟨hne, by rw [hl, hg]; exact h0⟩
theorem ltr_ten {x : Int} (h : 0 ≤ x ∧ x < 10) : ((ltr x).toNat : Int) = 48 + x := by rw [ltr_val h.1 (by omega), if_pos h.2]
/-- How many digits there can be. -/
theorem No.len {N D : Int} {os : List Int} (h : No N D os) (hD : 0 < D) : (10 : Int) ^ os.length ≤ N := by
  have h1 : 0 ≤ lvB 10 os := by
    have := lvB_rev 10 os
    rw [← this]
    exact tvI_pos (by omega) (fun z hz => h.dig z (List.mem_reverse.1 hz))
  have h2 : (0 : Int) < 10 ^ os.length := Int.pow_pos (by omega)
  have h3 : (10 : Int) ^ os.length * 1 ≤ 10 ^ os.length * D := Int.mul_le_mul_of_nonneg_left (by omega) (by omega)
  rw [h.val]
  omega
theorem ten_len {m n : Nat} {N : Int} (hlt : N < 2 ^ m) (h : (10 : Int) ^ n ≤ N) : n ≤ m := by
  rcases Nat.lt_or_ge m n with h' | h'
  · exfalso
    have h1 : 2 ^ m ≤ 10 ^ n := Nat.le_trans (Nat.pow_le_pow_right (by omega) (Nat.le_of_lt h')) (Nat.pow_le_pow_left (by omega) n)
    have h2 : (2 : Int) ^ m ≤ (10 : Int) ^ n := by exact_mod_cast h1
    omega
  · exact h'
end Go.Proofs.YtpfbcicjfnfpgaaDoor
