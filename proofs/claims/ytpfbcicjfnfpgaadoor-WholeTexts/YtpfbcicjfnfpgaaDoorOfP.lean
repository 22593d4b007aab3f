/-
  What digits come to, the highest first, as whole numbers (the document's Of), and that it is what a text comes to.
-/
import Derived.Test.YtpfbcicjfnfpgaaDoorTxP
namespace Go.Proofs.YtpfbcicjfnfpgaaDoor
set_option linter.unusedVariables false

def tvI (b : Int) (l : List Int) : Int := l.foldl (fun s z => s * b + z) 0
theorem tvI_nil (b : Int) : tvI b [] = 0 := rfl
theorem tvI_snoc (b : Int) (l : List Int) (z : Int) : tvI b (l ++ [z]) = tvI b l * b + z := by simp [tvI]
theorem tvI_fold (b : Int) (m : List Int) : ∀ s, m.foldl (fun s z => s * b + z) s = s * b ^ m.length + tvI b m := by
  induction m with
  | nil => intro s; simp [tvI]
  | cons z m ih =>
    intro s
    have e : tvI b (z :: m) = m.foldl (fun s z => s * b + z) (0 * b + z) := rfl
    rw [List.foldl_cons, ih, e, ih, List.length_cons, Int.pow_succ]
    grind
theorem tvI_append (b : Int) (l m : List Int) : tvI b (l ++ m) = tvI b l * b ^ m.length + tvI b m := by
  have : tvI b (l ++ m) = m.foldl (fun s z => s * b + z) (tvI b l) := by unfold tvI; rw [List.foldl_append]
  rw [this, tvI_fold]
/-- Each is a digit to that base. -/
def DgI (b : Int) (l : List Int) : Prop := ∀ z ∈ l, 0 ≤ z ∧ z < b
theorem DgI.take {b : Int} {l : List Int} (h : DgI b l) (n : Nat) : DgI b (l.take n) := fun z hz => h z (List.mem_of_mem_take hz)
theorem DgI.drop {b : Int} {l : List Int} (h : DgI b l) (n : Nat) : DgI b (l.drop n) := fun z hz => h z (List.mem_of_mem_drop hz)
theorem DgI.getD {b : Int} {l : List Int} (h : DgI b l) {i : Nat} (hi : i < l.length) : 0 ≤ l.getD i 0 ∧ l.getD i 0 < b := by
  rw [List.getD_eq_getElem?_getD, List.getElem?_eq_getElem hi]; exact h _ (List.getElem_mem hi)
theorem tvI_nonneg {b : Int} (hb : 1 ≤ b) : ∀ {l : List Int}, DgI b l → ∀ s, 0 ≤ s → 0 ≤ l.foldl (fun s z => s * b + z) s
  | [], _, s, hs => hs
  | z :: l, h, s, hs => by
    rw [List.foldl_cons]
    have hz := h z (by simp)
    exact tvI_nonneg hb (fun x hx => h x (by simp [hx])) _ (by have := Int.mul_nonneg hs (show 0 ≤ b by omega); omega)
theorem tvI_pos {b : Int} (hb : 1 ≤ b) {l : List Int} (h : DgI b l) : 0 ≤ tvI b l := tvI_nonneg hb h 0 (by omega)
theorem ipow_pos {b : Int} (hb : 1 ≤ b) : ∀ n : Nat, 1 ≤ b ^ n
  | 0 => by simp
  | n + 1 => by
    have h1 := ipow_pos hb n
    rw [Int.pow_succ]
    have h2 : b ^ n * 1 ≤ b ^ n * b := Int.mul_le_mul_of_nonneg_left hb (by omega)
    omega
theorem tvI_mono {b : Int} (hb : 1 ≤ b) {l : List Int} (h : DgI b l) (k : Nat) : tvI b (l.take k) ≤ tvI b l := by
  have e : tvI b l = tvI b (l.take k) * b ^ (l.drop k).length + tvI b (l.drop k) := by rw [← tvI_append, List.take_append_drop]
  have h1 := tvI_pos hb (h.take k)
  have h2 := tvI_pos hb (h.drop k)
  have h3 := ipow_pos hb (l.drop k).length
  have h4 : tvI b (l.take k) * 1 ≤ tvI b (l.take k) * b ^ (l.drop k).length := Int.mul_le_mul_of_nonneg_left h3 h1
  omega
/-- One more digit. -/
theorem take_snocI (l : List Int) (k : Nat) (h : k < l.length) : l.take (k + 1) = l.take k ++ [l.getD k 0] := by
  rw [List.take_succ_eq_append_getElem h, List.getD_eq_getElem?_getD, List.getElem?_eq_getElem h]; rfl
theorem drop_take_snoc (l : List Int) (k j : Nat) (h : k + j < l.length) : (l.drop k).take (j + 1) = (l.drop k).take j ++ [l.getD (k + j) 0] := by
  rw [take_snocI _ _ (by rw [List.length_drop]; omega)]
  congr 2
  rw [List.getD_eq_getElem?_getD, List.getD_eq_getElem?_getD, List.getElem?_drop]
theorem take_more (l : List Int) (k j : Nat) : l.take (k + j) = l.take k ++ (l.drop k).take j := by rw [List.take_add]
/-- Digits are below the power. -/
theorem tvI_lt {b : Int} (hb : 1 ≤ b) {l : List Int} (h : DgI b l) : tvI b l < b ^ l.length := by
  induction l with
  | nil => simp [tvI]
  | cons z l ih =>
    have hz := h z (by simp)
    have ih' := ih (fun x hx => h x (by simp [hx]))
    have e : tvI b (z :: l) = z * b ^ l.length + tvI b l := by
      have := tvI_append b [z] l
      rw [List.singleton_append] at this
      rw [this]; simp [tvI]
    have hp := ipow_pos hb l.length
    rw [e, List.length_cons, Int.pow_succ, Int.mul_comm (b ^ l.length) b]
    have h1 : z * b ^ l.length ≤ (b - 1) * b ^ l.length := Int.mul_le_mul_of_nonneg_right (by omega) (by omega)
    have h2 : (b - 1) * b ^ l.length = b * b ^ l.length - b ^ l.length := by grind
    omega
/-- A text's digits. -/
def txI (s : List UInt8) : List Int := s.map (fun c => (wv c : Int))
theorem txI_val (b : Nat) : ∀ s : List UInt8, tvI b (txI s) = (tv b s : Int) := by
  intro s
  unfold tvI txI tv
  rw [List.foldl_map]
  have : ∀ (l : List UInt8) (n : Nat), l.foldl (fun (x : Int) c => x * b + (wv c : Int)) (n : Int) = ((l.foldl (fun s c => s * b + wv c) n : Nat) : Int) := by
    intro l
    induction l with
    | nil => intro n; rfl
    | cons c l ih =>
      intro n
      rw [List.foldl_cons, List.foldl_cons, ← ih]
      congr 1
  exact this s 0
theorem txI_dig {b : Nat} {s : List UInt8} (h : Dig b s) : DgI b (txI s) := by
  intro z hz
  unfold txI at hz
  obtain ⟨c, hc, rfl⟩ := List.mem_map.1 hz
  have := h c hc
  exact ⟨by omega, by omega⟩
theorem txI_len (s : List UInt8) : (txI s).length = s.length := by simp [txI]
end Go.Proofs.YtpfbcicjfnfpgaaDoor
