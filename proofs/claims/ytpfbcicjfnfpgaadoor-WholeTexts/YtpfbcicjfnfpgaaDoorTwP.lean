/-
  The document's Text of whole numbers, in numbers: halves, divided by a billion. Plain Lean.
-/
import Derived.Test.YtpfbcicjfnfpgaaDoorBsA
namespace Go.Proofs.YtpfbcicjfnfpgaaDoor
set_option linter.unusedVariables false
/-- What halves come to, the highest first. -/
def be (l : List Int) : Int := l.foldl (fun a x => a * 4294967296 + x) 0
theorem be_snoc (l : List Int) (x : Int) : be (l ++ [x]) = be l * 4294967296 + x := by simp [be]
/-- All are halves. -/
def Hf (l : List Int) : Prop := ∀ z ∈ l, 0 ≤ z ∧ z < 4294967296
theorem Hf.snoc {l : List Int} (h : Hf l) {x : Int} (hx : 0 ≤ x ∧ x < 4294967296) : Hf (l ++ [x]) := fun z hz => by
  rcases List.mem_append.1 hz with h' | h'
  · exact h z h'
  · rw [List.mem_singleton.1 h']; exact hx
theorem Hf.getD {l : List Int} (h : Hf l) (k : Nat) : 0 ≤ l.getD k 0 ∧ l.getD k 0 < 4294967296 := by
  rw [List.getD_eq_getElem?_getD]
  rcases Nat.lt_or_ge k l.length with hk | hk
  · rw [List.getElem?_eq_getElem hk]; exact h _ (List.getElem_mem hk)
  · rw [List.getElem?_eq_none hk]; decide
theorem Hf.set {l : List Int} (h : Hf l) (k : Nat) {x : Int} (hx : 0 ≤ x ∧ x < 4294967296) : Hf (l.set k x) := fun z hz => by
  rcases List.mem_or_eq_of_mem_set hz with h' | h'
  · exact h z h'
  · rw [h']; exact hx
/-- The halves of limbs, the highest first. -/
def hs : List Int → List Int
  | [] => []
  | z :: t => hs t ++ [z / 4294967296] ++ [z % 4294967296]
theorem hs_len : ∀ zs : List Int, (hs zs).length = 2 * zs.length
  | [] => rfl
  | z :: t => by simp [hs, hs_len t]; omega
theorem hs_hf : ∀ {zs : List Int}, Limbs zs → Hf (hs zs)
  | [], _ => fun z hz => by cases hz
  | z :: t, h => by
    have hz := h z (List.mem_cons_self ..)
    exact ((hs_hf (fun y hy => h y (List.mem_cons_of_mem _ hy))).snoc ⟨by omega, by omega⟩).snoc ⟨by omega, by omega⟩
theorem hs_be : ∀ zs : List Int, be (hs zs) = num zs
  | [] => rfl
  | z :: t => by
    simp only [hs, be_snoc, hs_be t, num]
    omega
theorem hs_drop {zs : List Int} {k : Nat} (h : k < zs.length) : hs (zs.drop k) = hs (zs.drop (k + 1)) ++ [zs.getD k 0 / 4294967296] ++ [zs.getD k 0 % 4294967296] := by
  rw [List.drop_eq_getElem_cons h, List.getD_eq_getElem?_getD, List.getElem?_eq_getElem h]
  rfl
theorem be_nonneg {l : List Int} (h : Hf l) : 0 ≤ be l := by
  have : ∀ (m : List Int) (a : Int), 0 ≤ a → (∀ z ∈ m, 0 ≤ z) → 0 ≤ m.foldl (fun a x => a * 4294967296 + x) a := by
    intro m
    induction m with
    | nil => intro a ha _; exact ha
    | cons x t ih =>
      intro a ha hm
      have hx := hm x (List.mem_cons_self ..)
      exact ih _ (show 0 ≤ a * 4294967296 + x by omega) (fun z hz => hm z (List.mem_cons_of_mem _ hz))
  exact this l 0 (Int.le_refl _) (fun z hz => (h z hz).1)
theorem be_zeros {l : List Int} (h : ∀ z ∈ l, z = 0) : be l = 0 := by
  have : ∀ m : List Int, (∀ z ∈ m, z = 0) → m.foldl (fun a x => a * 4294967296 + x) 0 = 0 := by
    intro m
    induction m with
    | nil => intro _; rfl
    | cons x t ih =>
      intro hm
      rw [List.foldl_cons, hm x (List.mem_cons_self ..)]
      exact ih (fun z hz => hm z (List.mem_cons_of_mem _ hz))
  exact this l h
theorem be_app (l m : List Int) : be (l ++ m) = be l * 4294967296 ^ m.length + be m := by
  have : ∀ (m : List Int) (a : Int), m.foldl (fun a x => a * 4294967296 + x) a = a * 4294967296 ^ m.length + m.foldl (fun a x => a * 4294967296 + x) 0 := by
    intro m
    induction m with
    | nil => intro a; simp
    | cons x t ih =>
      intro a
      rw [List.foldl_cons, List.foldl_cons, ih (a * 4294967296 + x), ih (0 * 4294967296 + x), List.length_cons, Int.pow_succ]
      generalize t.foldl _ 0 = F
      generalize (4294967296 : Int) ^ t.length = X
      grind
  unfold be
  rw [List.foldl_append, this]
theorem be_pos {l : List Int} (h : Hf l) {k : Nat} (hk : k < l.length) (hn : l.getD k 0 ≠ 0) : 0 < be l := by
  have e : l = l.take k ++ ([l.getD k 0] ++ l.drop (k + 1)) := by
    conv => lhs; rw [← List.take_append_drop k l, List.drop_eq_getElem_cons hk]
    rw [List.getD_eq_getElem?_getD, List.getElem?_eq_getElem hk]
    rfl
  have h1 : Hf (l.take k) := fun z hz => h z (List.mem_of_mem_take hz)
  have h2 : Hf (l.drop (k + 1)) := fun z hz => h z (List.mem_of_mem_drop hz)
  have b1 := be_nonneg h1
  have b2 := be_nonneg h2
  have hx := h.getD k
  rw [e, be_app, be_app]
  have p1 : (0 : Int) < 4294967296 ^ (l.drop (k + 1)).length := Int.pow_pos (by omega)
  have p2 : (0 : Int) < 4294967296 ^ ([l.getD k 0] ++ l.drop (k + 1)).length := Int.pow_pos (by omega)
  have e1 : be [l.getD k 0] = l.getD k 0 := by simp [be]
  rw [e1]
  have m1 := Int.mul_pos (show 0 < l.getD k 0 by omega) p1
  have m2 := Int.mul_nonneg b1 (Int.le_of_lt p2)
  omega
/-- A division by a billion on the way: k halves are divided. -/
structure Dv (c0 cs : List Int) (k : Nat) (r : Int) : Prop where
  len : cs.length = c0.length
  drop : cs.drop k = c0.drop k
  hf : Hf cs
  val : be (c0.take k) = be (cs.take k) * 1000000000 + r
  r0 : 0 ≤ r
  r1 : r < 1000000000
theorem Dv.start {c0 : List Int} {k : Nat} (h : Hf c0) (hz : ∀ j, j < k → c0.getD j 0 = 0) (hk : k ≤ c0.length) : Dv c0 c0 k 0 := by
  have e : ∀ z ∈ c0.take k, z = 0 := fun z hm => by
    obtain ⟨j, hj, rfl⟩ := List.getElem_of_mem hm
    rw [List.length_take] at hj
    have := hz j (by omega)
    rw [List.getD_eq_getElem?_getD, List.getElem?_eq_getElem (by omega)] at this
    rw [List.getElem_take]
    exact this
  exact ⟨rfl, rfl, h, by rw [be_zeros e]; rfl, by omega, by omega⟩
theorem take_succ_getD {l : List Int} {k : Nat} (h : k < l.length) : l.take (k + 1) = l.take k ++ [l.getD k 0] := by
  rw [List.take_succ_eq_append_getElem h, List.getD_eq_getElem?_getD, List.getElem?_eq_getElem h]
  rfl
theorem Dv.at {c0 cs : List Int} {k : Nat} {r : Int} (h : Dv c0 cs k r) (hk : k < c0.length) : cs.getD k 0 = c0.getD k 0 := by
  have e := congrArg (fun l => l.getD 0 0) h.drop
  simp only [List.getD_eq_getElem?_getD, List.getElem?_drop, Nat.add_zero] at e
  rw [List.getD_eq_getElem?_getD, List.getD_eq_getElem?_getD]
  exact e
theorem Dv.step {c0 cs : List Int} {k : Nat} {r : Int} (h : Dv c0 cs k r) (hk : k < c0.length) : Dv c0 (cs.set k ((r * 4294967296 + cs.getD k 0) / 1000000000)) (k + 1) ((r * 4294967296 + cs.getD k 0) % 1000000000) := by
  have hat := h.at hk
  have hx := h.hf.getD k
  have hr0 := h.r0
  have hr1 := h.r1
  have hl := h.len
  refine ⟨by rw [List.length_set, hl], ?_, h.hf.set k ⟨by omega, by omega⟩, ?_, by omega, by omega⟩
  · rw [List.drop_set_of_lt (by omega)]
    have e := congrArg (fun l => l.drop 1) h.drop
    simpa only [List.drop_drop, Nat.add_comm 1 k] using e
  · rw [take_succ_getD hk, be_snoc, h.val]
    have e1 : (cs.set k ((r * 4294967296 + cs.getD k 0) / 1000000000)).take (k + 1) = cs.take k ++ [(r * 4294967296 + cs.getD k 0) / 1000000000] := by
      rw [take_succ_getD (by rw [List.length_set]; omega), List.take_set_of_le (Nat.le_refl _)]
      congr 2
      rw [List.getD_eq_getElem?_getD, List.getElem?_set_self (by omega)]
      rfl
    rw [e1, be_snoc, ← hat]
    generalize be (cs.take k) = Q
    generalize cs.getD k 0 = x at *
    omega
theorem Dv.done {c0 cs : List Int} {r : Int} (h : Dv c0 cs c0.length r) : be c0 = be cs * 1000000000 + r := by
  have := h.val
  rwa [List.take_length, List.take_of_length_le (by rw [h.len]; exact Nat.le_refl _)] at this
end Go.Proofs.YtpfbcicjfnfpgaaDoor
