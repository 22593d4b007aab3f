/-
  reals.placeOf: where a number's distance from 0 lies among the floats.
-/
import Derived.Test.YtmhfoeooccppfaaGreatRe4
import Derived.Test.YtmhfoeooccppfaaGreatRt4
import Derived.Test.YtmhfoeooccppfaaGreatAl
namespace Go.Proofs.YtmhfoeooccppfaaGreat
open Go.RowKit Go.Shelf
set_option linter.unusedVariables false

theorem run_store_float (a : Addr) (b : Nat) (m : Mode) (w : World) : (store a (.float .f64 b) m).run Tryz.prog w = match w.cell? a with
      | some _ => if w.frozen? a then .halt (.unsupported (.unsafePointer "a write to bytes that a string shares")) w else .ok () (w.setCell a (.float .f64 b))
      | none => match w.farStore Tryz.prog a (.float .f64 b) (m == .atomic) with
        | .ok (w', _) => .ok () w'
        | .error h => .halt h w := run_store _ _ _ _ _ rfl
theorem noIntP (x : Nat) (p : Int) : NoInt #[.float .f64 x, .int .i64 p] := by
  intro i z h
  rcases i with _ | _ | i <;> simp at h
theorem pow2_lt {m n : Nat} (h : 2 ^ m < 2 ^ n) : m < n := (Nat.pow_lt_pow_iff_right (by decide : 1 < 2)).1 h
theorem pst_nat {r d : Nat} : ∃ p : Nat, pst (r : Int) (d : Int) = p ∧ ((p = 0 ∧ r = 0) ∨ (p = 1 ∧ r ≠ 0 ∧ 2 * r < d) ∨ (p = 2 ∧ 2 * r = d) ∨ (p = 3 ∧ d < 2 * r) ∨ (p = 0 ∧ r = 0)) := by
  unfold pst
  by_cases h0 : r = 0
  · exact ⟨0, by rw [if_pos (by omega)]; rfl, .inl ⟨rfl, h0⟩⟩
  · rw [if_neg (by omega)]
    by_cases h1 : 2 * r < d
    · exact ⟨1, by rw [if_pos (by omega)]; rfl, .inr (.inl ⟨rfl, h0, h1⟩)⟩
    · rw [if_neg (by omega)]
      by_cases h2 : 2 * r = d
      · exact ⟨2, by rw [if_pos (by omega)]; rfl, .inr (.inr (.inl ⟨rfl, h2⟩))⟩
      · exact ⟨3, by rw [if_neg (by omega)]; rfl, .inr (.inr (.inr (.inl ⟨rfl, by omega⟩)))⟩
theorem tw_nat {N D : Nat} {t : Int} (h : Tw N D t) (hN : 0 < N) : D * 2 ^ t.toNat ≤ N * 2 ^ (-t).toNat ∧ N * 2 ^ (-t).toNat < 2 * (D * 2 ^ t.toNat) := by
  obtain ⟨a, b⟩ := h.2.2.2 (by omega)
  rw [← pow_cast, ← pow_cast, ← Int.natCast_mul, ← Int.natCast_mul] at a b
  exact ⟨by exact_mod_cast a, by exact_mod_cast b⟩
/-- Where a number lies, out of the quotient. -/
theorem place_num {v : Rat} {N D : Nat} (hN : N = v.num.natAbs) (hD : D = v.den) (N0 : 0 < N) {t : Int} (ht : Tw N D t) (t1 : t ≤ 1023) {e u1 u2 : Nat} (he : (e : Int) = max (t - 52) (-1074) + 1074) (h1 : (u1 : Int) = max (-((e : Int) - 1074)) 0) (h2 : (u2 : Int) = max ((e : Int) - 1074) 0)
    {n r : Nat} (hq : N * 2 ^ u1 = n * (D * 2 ^ u2) + r) (hr : r < D * 2 ^ u2) :
    n < 9007199254740992 ∧ (e = 0 ∨ 4503599627370496 ≤ n) ∧ e ≤ 2045 ∧ ∀ p : Nat, pst (r : Int) ((D * 2 ^ u2 : Nat) : Int) = p → Pv v (e * 4503599627370496 + n) p := by
  have D0 : 0 < D := by rw [hD]; exact v.den_pos
  obtain ⟨a1, a2⟩ := tw_nat ht N0
  have e2 : e ≤ 2045 := by omega
  obtain ⟨A, hA⟩ : ∃ A, (-t).toNat = A := ⟨_, rfl⟩
  obtain ⟨B, hB⟩ : ∃ B, t.toNat = B := ⟨_, rfl⟩
  rw [hA, hB] at a1 a2
  have n1 : n < 9007199254740992 := by
    rcases Nat.lt_or_ge n 9007199254740992 with g | g
    · exact g
    · have b1 : 2 ^ 53 * (D * 2 ^ u2) ≤ N * 2 ^ u1 := by
        have := Nat.mul_le_mul_right (D * 2 ^ u2) (show 2 ^ 53 ≤ n from g)
        omega
      have b2 := Nat.mul_le_mul_right (2 ^ A) b1
      have b3 := Nat.mul_lt_mul_of_pos_right a2 (two_pos u1)
      have e3 : 2 ^ 53 * (D * 2 ^ u2) * 2 ^ A = D * 2 ^ (53 + u2 + A) := by
        rw [Nat.pow_add, Nat.pow_add]
        generalize (2 : Nat) ^ 53 = x
        generalize (2 : Nat) ^ u2 = y
        generalize (2 : Nat) ^ A = z
        rw [← Nat.mul_assoc, Nat.mul_comm x D, Nat.mul_assoc D x y, Nat.mul_assoc D]
      have e4 : N * 2 ^ u1 * 2 ^ A = N * 2 ^ A * 2 ^ u1 := by rw [Nat.mul_assoc, Nat.mul_comm (2 ^ u1), ← Nat.mul_assoc]
      have e5 : 2 * (D * 2 ^ B) * 2 ^ u1 = D * 2 ^ (1 + B + u1) := by
        rw [Nat.pow_add, Nat.pow_add, Nat.pow_one]
        generalize (2 : Nat) ^ B = y
        generalize (2 : Nat) ^ u1 = z
        rw [← Nat.mul_assoc 2 D y, Nat.mul_comm 2 D, Nat.mul_assoc D 2 y, Nat.mul_assoc D]
      rw [e3, e4] at b2
      rw [e5] at b3
      have b4 : D * 2 ^ (53 + u2 + A) < D * 2 ^ (1 + B + u1) := by omega
      have := pow2_lt (Nat.lt_of_mul_lt_mul_left b4)
      omega
  have n2 : e = 0 ∨ 4503599627370496 ≤ n := by
    by_cases e0 : e = 0
    · exact .inl e0
    right
    rcases Nat.lt_or_ge n 4503599627370496 with g | g
    · have b1 : N * 2 ^ u1 < 2 ^ 52 * (D * 2 ^ u2) := by
        have := Nat.mul_le_mul_right (D * 2 ^ u2) (show n + 1 ≤ 2 ^ 52 from g)
        rw [Nat.add_mul] at this
        omega
      have b2 := Nat.mul_lt_mul_of_pos_right b1 (two_pos A)
      have b3 := Nat.mul_le_mul_right (2 ^ u1) a1
      have e3 : 2 ^ 52 * (D * 2 ^ u2) * 2 ^ A = D * 2 ^ (52 + u2 + A) := by
        rw [Nat.pow_add, Nat.pow_add]
        generalize (2 : Nat) ^ 52 = x
        generalize (2 : Nat) ^ u2 = y
        generalize (2 : Nat) ^ A = z
        rw [← Nat.mul_assoc, Nat.mul_comm x D, Nat.mul_assoc D x y, Nat.mul_assoc D]
      have e4 : N * 2 ^ u1 * 2 ^ A = N * 2 ^ A * 2 ^ u1 := by rw [Nat.mul_assoc, Nat.mul_comm (2 ^ u1), ← Nat.mul_assoc]
      have e5 : D * 2 ^ B * 2 ^ u1 = D * 2 ^ (B + u1) := by rw [Nat.pow_add, Nat.mul_assoc]
      rw [e3, e4] at b2
      rw [e5] at b3
      have b4 : D * 2 ^ (B + u1) < D * 2 ^ (52 + u2 + A) := by omega
      have := pow2_lt (Nat.lt_of_mul_lt_mul_left b4)
      omega
    · exact g
  refine ⟨n1, n2, e2, fun p hp => ?_⟩
  have hd : 0 < D * 2 ^ u2 := Nat.mul_pos D0 (two_pos u2)
  have c1 : D * 2 ^ e = D * 2 ^ u2 * 2 ^ (1074 - u1) := by
    rw [Nat.mul_assoc, ← Nat.pow_add]; congr 2; omega
  have c2 : N * K8 = (n * (D * 2 ^ u2) + r) * 2 ^ (1074 - u1) := by
    have := pow_shift N (a := 0) (u := u1) (b := 1074 - u1) (c := 1074) (by omega)
    rw [← K8_eq, Nat.pow_zero, Nat.mul_one] at this
    rw [this, hq]
  obtain ⟨p0, p1, p2, p3⟩ := pl_of hd n2 n1 e2 c1 c2 hr
  unfold Pv
  rw [← hN, ← hD]
  obtain ⟨p', hp', hcase⟩ := @pst_nat r (D * 2 ^ u2)
  obtain rfl : p = p' := by have := hp.symm.trans hp'; exact_mod_cast this
  rcases hcase with ⟨rfl, h⟩ | ⟨rfl, h, h'⟩ | ⟨rfl, h⟩ | ⟨rfl, h⟩ | ⟨rfl, h⟩
  · exact p0 h
  · exact p1 h h'
  · exact p2 h
  · exact p3 h
  · exact p0 h
theorem pow_join (D : Nat) {a b c : Nat} (h : a = b + c) : 2 ^ a * D = D * 2 ^ b * 2 ^ c := by
  rw [h, Nat.mul_comm, Nat.mul_assoc, ← Nat.pow_add]
theorem place_far {v : Rat} {N D : Nat} (hN : N = v.num.natAbs) (hD : D = v.den) {t : Int} (ht : Tw N D t) (t1 : 1023 < t) : Pv v 9218868437227405311 3 := by
  have N0 : 0 < N := by
    rcases Nat.eq_zero_or_pos N with g | g
    · have := ht.2.2.1 (by omega); omega
    · exact g
  obtain ⟨a1, -⟩ := tw_nat ht N0
  have hA : (-t).toNat = 0 := by omega
  rw [hA, Nat.pow_zero, Nat.mul_one] at a1
  unfold Pv
  rw [← hN, ← hD]
  refine pl_far (by rw [hD]; exact v.den_pos) ?_
  have b1 : D * 2 ^ 1024 ≤ N := by
    have := Nat.mul_le_mul_left D (Nat.pow_le_pow_right (show 0 < 2 by decide) (show 1024 ≤ t.toNat by omega))
    omega
  have b2 := Nat.mul_le_mul_right (2 ^ 1074) b1
  rw [← K8_eq] at b2
  have e := pow_join D (a := 2098) (b := 1024) (c := 1074) rfl
  rw [← K8_eq] at e
  rw [e]; exact b2
theorem place_zero {v : Rat} (h : v.num = 0) : Pv v 0 0 := by
  unfold Pv
  rw [h]
  exact ⟨by decide, .inl ⟨rfl, by rw [fi_zero, Nat.zero_mul]; rw [Int.natAbs_zero, Nat.zero_mul]⟩⟩

/-- The rung of the least float that is not below. -/
def upk (k p : Nat) : Nat := if p = 0 then k else k + 1
end Go.Proofs.YtmhfoeooccppfaaGreat
