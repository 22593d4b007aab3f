/-
  Digits gathered into pieces. Plain Lean.
-/
import Derived.Test.YtpfbcicjfnfpgaaTxP
namespace Go.Proofs.Ytpfbcicjfnfpgaa
set_option linter.unusedVariables false
theorem mod_pred {m sz : Nat} (h : 1 ≤ m) (hs : 2 ≤ sz) : (m % sz = 0 ∧ (m - 1) % sz = sz - 1) ∨ (1 ≤ m % sz ∧ (m - 1) % sz = m % sz - 1) := by
  have e := Nat.div_add_mod m sz
  have hl := Nat.mod_lt m (show 0 < sz by omega)
  rcases Nat.eq_zero_or_pos (m % sz) with h0 | h0
  · left
    refine ⟨h0, ?_⟩
    have hq : 1 ≤ m / sz := by
      rcases Nat.eq_zero_or_pos (m / sz) with h1 | h1
      · rw [h0, h1] at e; simp at e; omega
      · exact h1
    obtain ⟨q, hq⟩ : ∃ q, m / sz = q + 1 := ⟨m / sz - 1, by omega⟩
    rw [h0, hq, Nat.mul_succ] at e
    have e2 : m - 1 = sz * q + (sz - 1) := by omega
    rw [e2, Nat.mul_add_mod, Nat.mod_eq_of_lt (by omega)]
  · right
    refine ⟨h0, ?_⟩
    have e2 : m - 1 = sz * (m / sz) + (m % sz - 1) := by omega
    rw [e2, Nat.mul_add_mod, Nat.mod_eq_of_lt (by omega)]
/-- Between two rounds of read: V is what the digits read so far say, P what the pieces say, pc the piece begun, cnt how many pieces there are, m how many bytes stand behind. -/
def RI (b sz n m pc cnt P V : Nat) : Prop := ∃ j, V = P * b ^ j + pc ∧ pc < b ^ j ∧ j ≤ (sz - m % sz) % sz ∧ (cnt ≠ 0 → j = (sz - m % sz) % sz ∧ (cnt - 1) * sz + 1 + j + m ≤ n) ∧ (cnt = 0 → P = 0)
theorem RI.start (b sz n : Nat) : RI b sz n n 0 0 0 0 := ⟨0, by simp, by simp, Nat.zero_le _, fun h => absurd rfl h, fun _ => rfl⟩
theorem j_on {m sz : Nat} (h : 1 ≤ m) (hs : 2 ≤ sz) (hp : 0 < (m - 1) % sz) : (sz - (m - 1) % sz) % sz = (sz - m % sz) % sz + 1 ∧ (sz - m % sz) % sz + 1 < sz := by
  have hl := Nat.mod_lt m (show 0 < sz by omega)
  rcases mod_pred h hs with ⟨h1, h2⟩ | ⟨h1, h2⟩
  · rw [h1, h2, Nat.sub_zero, Nat.mod_self, Nat.mod_eq_of_lt (by omega)]; omega
  · rw [h2] at hp ⊢
    rw [Nat.mod_eq_of_lt (by omega), Nat.mod_eq_of_lt (a := sz - m % sz) (by omega)]; omega
theorem j_end {m sz : Nat} (h : 1 ≤ m) (hs : 2 ≤ sz) (hp : (m - 1) % sz = 0) : (sz - m % sz) % sz + 1 = sz ∧ (sz - (m - 1) % sz) % sz = 0 := by
  have hl := Nat.mod_lt m (show 0 < sz by omega)
  rcases mod_pred h hs with ⟨h1, h2⟩ | ⟨h1, h2⟩
  · omega
  · rw [hp, Nat.sub_zero, Nat.mod_self, Nat.mod_eq_of_lt (by omega)]; omega
theorem digit_lt {pc b j x : Nat} (h : pc < b ^ j) (hx : x < b) : pc * b + x < b ^ (j + 1) := by
  have : (pc + 1) * b ≤ b ^ j * b := Nat.mul_le_mul_right _ h
  rw [Nat.pow_succ]; grind
/-- One digit more within a piece. -/
theorem RI.on {b sz n m pc cnt P V x : Nat} (h : RI b sz n m pc cnt P V) (hb : 2 ≤ b) (hm : 1 ≤ m) (hs : 2 ≤ sz) (hx : x < b) (hp : 0 < (m - 1) % sz) : RI b sz n (m - 1) (pc * b + x) cnt P (V * b + x) ∧ pc * b + x < b ^ sz := by
  obtain ⟨j, h1, h2, h3, h4, h5⟩ := h
  have hj := j_on hm hs hp
  have hd := digit_lt h2 hx
  refine ⟨⟨j + 1, by rw [h1, Nat.pow_succ]; grind, hd, by omega, fun hc => ?_, h5⟩, Nat.lt_of_lt_of_le hd (Nat.pow_le_pow_right (by omega) (by omega))⟩
  have := h4 hc
  exact ⟨by omega, by omega⟩
/-- The last digit of a piece. -/
theorem RI.piece {b sz n m pc cnt P V x : Nat} (h : RI b sz n m pc cnt P V) (hb : 2 ≤ b) (hm : 1 ≤ m) (hn : m ≤ n) (hs : 2 ≤ sz) (hx : x < b) (hp : (m - 1) % sz = 0) :
    RI b sz n (m - 1) 0 (cnt + 1) (P * b ^ sz + (pc * b + x)) (V * b + x) ∧ pc * b + x < b ^ sz ∧ (cnt = 0 → pc * b + x = 0 → RI b sz n (m - 1) 0 0 0 (V * b + x)) := by
  obtain ⟨j, h1, h2, h3, h4, h5⟩ := h
  have hj := j_end hm hs hp
  have hd := digit_lt h2 hx
  have hV : V * b + x = P * b ^ sz + (pc * b + x) := by
    by_cases hc : cnt = 0
    · rw [h1, h5 hc]; simp
    · have e : j + 1 = sz := by have := (h4 hc).1; omega
      rw [h1, ← e, Nat.pow_succ]; grind
  refine ⟨⟨0, by rw [hV]; simp, by simp, Nat.zero_le _, fun _ => ⟨by omega, ?_⟩, fun h => absurd h (by omega)⟩, Nat.lt_of_lt_of_le hd (Nat.pow_le_pow_right (by omega) (by omega)), fun hc h0 => ⟨0, ?_, by simp, Nat.zero_le _, fun h => absurd rfl h, fun _ => rfl⟩⟩
  · by_cases hc : cnt = 0
    · subst hc; simp; omega
    · have h6 := h4 hc
      obtain ⟨c, rfl⟩ : ∃ c, cnt = c + 1 := ⟨cnt - 1, by omega⟩
      simp only [Nat.add_sub_cancel] at h6 ⊢
      rw [Nat.add_mul, Nat.one_mul]
      omega
  · rw [hV, h5 hc, h0]; simp
theorem RI.last {b sz n pc cnt P V : Nat} (h : RI b sz n 0 pc cnt P V) : V = P ∧ pc = 0 ∧ (cnt ≠ 0 → (cnt - 1) * sz + 1 ≤ n) := by
  obtain ⟨j, h1, h2, h3, h4, h5⟩ := h
  rw [Nat.zero_mod, Nat.sub_zero, Nat.mod_self] at h3
  obtain rfl : j = 0 := by omega
  simp at h2
  subst h2
  exact ⟨by rw [h1]; simp, rfl, fun hc => by have := (h4 hc).2; omega⟩
end Go.Proofs.Ytpfbcicjfnfpgaa
