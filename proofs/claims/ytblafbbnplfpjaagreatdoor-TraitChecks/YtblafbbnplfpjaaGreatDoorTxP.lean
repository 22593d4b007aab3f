/-
  What digits say to a base; the text of a number. Plain Lean.
-/
import Derived.Test.YtblafbbnplfpjaaGreatDoorBsA
namespace Go.Proofs.YtblafbbnplfpjaaGreatDoor
set_option linter.unusedVariables false
/-- What a byte is worth as a digit; 36: it is none. -/
def wv (c : UInt8) : Nat := if 48 ≤ c.toNat ∧ c.toNat ≤ 57 then c.toNat - 48 else if 97 ≤ c.toNat ∧ c.toNat ≤ 122 then c.toNat - 87 else 36
theorem wv_inj {c d : UInt8} (hc : wv c < 36) (h : wv c = wv d) : c = d := by
  have : c.toNat = d.toNat := by
    unfold wv at hc h
    repeat' split at hc
    all_goals (repeat' split at h)
    all_goals omega
  exact UInt8.toNat_inj.1 this
theorem wv_nought : wv 48 = 0 := by decide
theorem wv_zero {c : UInt8} (h : wv c = 0) : c = 48 := wv_inj (d := 48) (by omega) (by rw [h]; rfl)
/-- What digits say, to the base b. -/
def tv (b : Nat) (l : List UInt8) : Nat := l.foldl (fun s c => s * b + wv c) 0
theorem tv_nil (b : Nat) : tv b [] = 0 := rfl
theorem tv_snoc (b : Nat) (l : List UInt8) (c : UInt8) : tv b (l ++ [c]) = tv b l * b + wv c := by simp [tv]
theorem tv_fold (b : Nat) (m : List UInt8) : ∀ s, m.foldl (fun s c => s * b + wv c) s = s * b ^ m.length + tv b m := by
  induction m with
  | nil => intro s; simp [tv]
  | cons c m ih =>
    intro s
    have e : tv b (c :: m) = (0 * b + wv c) * b ^ m.length + tv b m := ih _
    rw [List.foldl_cons, ih, e, List.length_cons, Nat.pow_succ]
    grind
theorem tv_append (b : Nat) (l m : List UInt8) : tv b (l ++ m) = tv b l * b ^ m.length + tv b m := by
  rw [tv, List.foldl_append, tv_fold]; rfl
theorem tv_cons (b : Nat) (c : UInt8) (m : List UInt8) : tv b (c :: m) = wv c * b ^ m.length + tv b m := by
  rw [tv, List.foldl_cons, tv_fold]; simp
/-- All of them are digits to the base b. -/
def Dig (b : Nat) (l : List UInt8) : Prop := ∀ c ∈ l, wv c < b
theorem Dig.nil (b : Nat) : Dig b [] := fun c h => by simp at h
theorem Dig.cons {b : Nat} {c : UInt8} {l : List UInt8} (h : Dig b (c :: l)) : wv c < b ∧ Dig b l := ⟨h c (by simp), fun d hd => h d (by simp [hd])⟩
theorem Dig.append {b : Nat} {l m : List UInt8} (h : Dig b l) (k : Dig b m) : Dig b (l ++ m) := fun c hc => by
  rcases List.mem_append.1 hc with h' | h'
  · exact h c h'
  · exact k c h'
theorem tv_lt {b : Nat} : ∀ {l : List UInt8}, Dig b l → tv b l < b ^ l.length
  | [], _ => by simp [tv]
  | c :: l, h => by
    have h1 := h.cons.1
    have h2 := tv_lt h.cons.2
    rw [tv_cons, List.length_cons, Nat.pow_succ]
    have : (wv c + 1) * b ^ l.length ≤ b * b ^ l.length := Nat.mul_le_mul_right _ h1
    grind
/-- The text of a number: its digits, with no nought ahead. -/
structure Tx (b : Nat) (l : List UInt8) (v : Nat) : Prop where
  ne : l ≠ []
  dig : Dig b l
  val : tv b l = v
  nz : l.head? = some 48 → l.length = 1
theorem tv_len_inj {b : Nat} (hb : 2 ≤ b) (h36 : b ≤ 36) : ∀ {l m : List UInt8}, Dig b l → Dig b m → l.length = m.length → tv b l = tv b m → l = m
  | [], [], _, _, _, _ => rfl
  | [], _ :: _, _, _, h, _ => by simp at h
  | _ :: _, [], _, _, h, _ => by simp at h
  | c :: l, d :: m, hl, hm, h, e => by
    have h' : l.length = m.length := by simpa using h
    have l1 := tv_lt hl.cons.2
    have l2 := tv_lt hm.cons.2
    rw [tv_cons, tv_cons, h'] at e
    rw [h'] at l1
    have hp : 0 < b ^ m.length := Nat.pow_pos (by omega)
    have e1 : wv c = wv d := by
      have a1 : (wv c * b ^ m.length + tv b l) / b ^ m.length = wv c := by
        rw [Nat.mul_comm, Nat.mul_add_div hp, Nat.div_eq_of_lt l1, Nat.add_zero]
      have a2 : (wv d * b ^ m.length + tv b m) / b ^ m.length = wv d := by
        rw [Nat.mul_comm, Nat.mul_add_div hp, Nat.div_eq_of_lt l2, Nat.add_zero]
      rw [← a1, e, a2]
    rw [e1] at e
    have e2 : tv b l = tv b m := by omega
    have h1 := hl.cons.1
    rw [wv_inj (by omega) e1, tv_len_inj hb h36 hl.cons.2 hm.cons.2 h' e2]
theorem Tx.low {b : Nat} {l : List UInt8} {v : Nat} (h : Tx b l v) (h2 : 2 ≤ l.length) : b ^ (l.length - 1) ≤ v := by
  obtain ⟨ne, dig, val, nz⟩ := h
  match l, ne with
  | c :: l, _ =>
    have hc : wv c ≠ 0 := fun h0 => by
      have := nz (by rw [wv_zero h0]; rfl)
      omega
    rw [← val, tv_cons, List.length_cons, Nat.add_sub_cancel]
    have : 1 * b ^ l.length ≤ wv c * b ^ l.length := Nat.mul_le_mul_right _ (by omega)
    omega
theorem Tx.lt {b : Nat} {l : List UInt8} {v : Nat} (h : Tx b l v) : v < b ^ l.length := h.val ▸ tv_lt h.dig
theorem Tx.pos {b : Nat} {l : List UInt8} {v : Nat} (h : Tx b l v) : 0 < l.length := List.length_pos_iff.2 h.ne
theorem Tx.le {b : Nat} (hb : 2 ≤ b) {l : List UInt8} {v k : Nat} (h : Tx b l v) (hv : v < b ^ k) (hk : 1 ≤ k) : l.length ≤ k := by
  rcases Nat.lt_or_ge k l.length with h' | h'
  · have := h.low (by omega)
    have := Nat.pow_le_pow_right (show 0 < b by omega) (show k ≤ l.length - 1 by omega)
    omega
  · exact h'
theorem Tx.length_eq {b : Nat} (hb : 2 ≤ b) {l m : List UInt8} {v : Nat} (h : Tx b l v) (k : Tx b m v) : l.length = m.length := by
  have := h.le hb k.lt k.pos
  have := k.le hb h.lt h.pos
  omega
theorem Tx.unique {b : Nat} (hb : 2 ≤ b) (h36 : b ≤ 36) {l m : List UInt8} {v : Nat} (h : Tx b l v) (k : Tx b m v) : l = m :=
  tv_len_inj hb h36 h.dig k.dig (h.length_eq hb k) (h.val.trans k.val.symm)
theorem dig_noughts {b : Nat} (hb : 2 ≤ b) (n : Nat) : Dig b (List.replicate n 48) := fun c hc => by
  rw [(List.mem_replicate.1 hc).2, wv_nought]; omega
theorem tv_noughts (b n : Nat) : tv b (List.replicate n 48) = 0 := by
  induction n with
  | zero => rfl
  | succ n ih => rw [List.replicate_succ, tv_cons, ih, wv_nought]; omega
theorem tv_ahead (b n : Nat) (l : List UInt8) : tv b (List.replicate n 48 ++ l) = tv b l := by rw [tv_append, tv_noughts]; omega
theorem tv_behind (b n : Nat) (l : List UInt8) : tv b (l ++ List.replicate n 48) = tv b l * b ^ n := by rw [tv_append, tv_noughts]; simp
/-- More digits behind a number that is not 0. -/
theorem Tx.more {b : Nat} {l m : List UInt8} {v : Nat} (h : Tx b l v) (hv : v ≠ 0) (hm : Dig b m) : Tx b (l ++ m) (v * b ^ m.length + tv b m) := by
  refine ⟨by simp [h.ne], h.dig.append hm, by rw [tv_append, h.val], fun e => ?_⟩
  exfalso
  match l, h with
  | [], h => exact h.ne rfl
  | c :: l, h =>
    have h1 := h.nz (by simpa using e)
    have hl : l = [] := by simpa using h1
    subst hl
    have : c = 48 := by simpa using e
    subst this
    exact hv (by rw [← h.val, tv_cons, wv_nought]; simp [tv])
theorem Tx.zero {b : Nat} (hb : 2 ≤ b) : Tx b [48] 0 := ⟨by simp, fun c hc => by simp at hc; subst hc; rw [wv_nought]; omega, by rw [tv_cons, wv_nought]; simp [tv], fun _ => rfl⟩
theorem Tx.head_zero {b : Nat} {l : List UInt8} {v : Nat} (h : Tx b l v) (hz : v = 0) : l = [48] := by
  subst hz
  match l, h.ne with
  | c :: l, _ =>
    rcases Nat.lt_or_ge 1 (c :: l).length with h2 | h2
    · have := h.low (by omega)
      have hb : 0 < b := by have := h.dig.cons.1; omega
      have := Nat.pow_pos (n := (c :: l).length - 1) hb
      omega
    · have hl : l = [] := List.eq_nil_of_length_eq_zero (by simp at h2; simpa using h2)
      subst hl
      have := h.val
      rw [tv_cons] at this
      rw [wv_zero (c := c) (by simpa [tv] using this)]
end Go.Proofs.YtblafbbnplfpjaaGreatDoor
