/-
  The order of texts of numbers.
-/
import Derived.Test.YtjpghkpdgiiababDoorNBackW
namespace Go.Proofs.YtjpghkpdgiiababDoor
open Go.RowKit Go.Shelf
set_option linter.unusedVariables false

theorem string_gtr (t : TypeId) (a b : ByteArray) : binOp .gtr t (.string a) (.string b) = pure (.bool !(Op.bytesLess a.toList b.toList || a.toList == b.toList)) := by simp [binOp, Op.stringOp]
theorem wv_lt {c d : UInt8} (hc : wv c < 36) (hd : wv d < 36) : c < d ↔ wv c < wv d := by
  rw [UInt8.lt_iff_toNat_lt]
  unfold wv at *
  repeat' split at hc
  all_goals (repeat' split at hd)
  all_goals (repeat' split)
  all_goals omega
theorem less_tv {b : Nat} (h36 : b ≤ 36) : ∀ {s t : List UInt8}, Dig b s → Dig b t → s.length = t.length → Op.bytesLess s t = decide (tv b s < tv b t)
  | [], [], _, _, _ => by simp [Op.bytesLess]
  | c :: s, d :: t, hs, ht, hl => by
    have hl' : s.length = t.length := by simpa using hl
    have ih := less_tv h36 hs.cons.2 ht.cons.2 hl'
    have hc := hs.cons.1
    have hd := ht.cons.1
    have ls := tv_lt hs.cons.2
    have lt := tv_lt ht.cons.2
    rw [hl'] at ls
    rw [Op.bytesLess, ih, tv_cons, tv_cons, hl']
    generalize b ^ t.length = P at *
    rcases Nat.lt_trichotomy (wv c) (wv d) with h | h | h
    · have h1 : c < d := (wv_lt (by omega) (by omega)).2 h
      have h2 : (wv c + 1) * P ≤ wv d * P := Nat.mul_le_mul_right _ h
      rw [Nat.add_mul] at h2
      rw [decide_eq_true h1, decide_eq_true (show wv c * P + tv b s < wv d * P + tv b t by omega)]; rfl
    · have h1 : c = d := wv_inj (by omega) h
      subst h1
      have h2 : ¬ c < c := by simp
      rw [decide_eq_false h2]
      simp
    · have h1 : ¬ c < d := fun k => by have := (wv_lt (by omega) (by omega)).1 k; omega
      have h3 : (c == d) = false := beq_false_of_ne (fun e => by rw [e] at h; omega)
      have h2 : (wv d + 1) * P ≤ wv c * P := Nat.mul_le_mul_right _ h
      rw [Nat.add_mul] at h2
      rw [decide_eq_false h1, h3, decide_eq_false (show ¬ wv c * P + tv b s < wv d * P + tv b t by omega)]; rfl
/-- How two texts stand is how their numbers stand. -/
theorem tx_order {b : Nat} (h2 : 2 ≤ b) (h36 : b ≤ 36) {s t : List UInt8} {x y : Nat} (hs : Tx b s x) (ht : Tx b t y) :
    (s.length < t.length → x < y) ∧ (t.length < s.length → y < x) ∧ (s.length = t.length → Op.bytesLess s t = decide (x < y)) ∧ (s = t ↔ x = y) := by
  have len : ∀ {s t : List UInt8} {x y : Nat}, Tx b s x → Tx b t y → s.length < t.length → x < y := fun {s t x y} hs ht h => by
    have h1 := hs.lt
    have h3 := ht.low (by have := hs.pos; omega)
    have h4 : b ^ s.length ≤ b ^ (t.length - 1) := Nat.pow_le_pow_right (by omega) (by omega)
    omega
  refine ⟨len hs ht, len ht hs, fun e => ?_, fun e => ?_, fun e => ?_⟩
  · rw [less_tv h36 hs.dig ht.dig e, hs.val, ht.val]
  · rw [← hs.val, ← ht.val, e]
  · subst e; exact hs.unique h2 h36 ht
end Go.Proofs.YtjpghkpdgiiababDoor
