/-
  Nodes put in order: how many of those that each needs are not there yet; the heap of those that may come next. Plain Lean.
-/
import Derived.Test.YtonhooaboieapaaOrT
import Derived.Test.YtonhooaboieapaaJuH
namespace Go.Proofs.Ytonhooaboieapaa
set_option linter.unusedVariables false
variable {N : Nat → List Nat} {n : Nat}
theorem getD_mem0 {l : List Int} {k : Nat} (h : k < l.length) : l.getD k 0 ∈ l := by
  rw [List.getD_eq_getElem?_getD, List.getElem?_eq_getElem h]; exact List.getElem_mem _
theorem few_nat {l : List Nat} (h1 : l.Nodup) (h2 : ∀ x ∈ l, x < n) : l.length ≤ n := by
  rcases Nat.lt_or_ge n l.length with h | h
  · exfalso
    have hm : ∀ j, j < l.length → l[j]? = some (l.getD j 0) := fun j hj => by rw [List.getD_eq_getElem?_getD, List.getElem?_eq_getElem hj]; rfl
    obtain ⟨a, b, hab, hb, e⟩ := php n (fun j => l.getD j 0) (fun j hj => h2 _ (List.mem_of_getElem? (hm j (by omega))))
    have ha := hm a (by omega)
    have hb' := hm b (by omega)
    have e' : l.getD a 0 = l.getD b 0 := e
    rw [e'] at ha
    obtain ⟨h3, h4⟩ := List.getElem?_eq_some_iff.1 ha
    obtain ⟨h5, h6⟩ := List.getElem?_eq_some_iff.1 hb'
    exact (List.pairwise_iff_getElem.1 h1 a b h3 h5 hab) (h4.trans h6.symm)
  · exact h
theorem few_int {l : List Int} (h1 : ∀ v, l.count v ≤ 1) (h2 : ∀ v ∈ l, 0 ≤ v ∧ v.toNat < n) : l.length ≤ n := by
  have hnd : (l.map Int.toNat).Nodup := by
    have h3 : l.Nodup := List.nodup_iff_count.2 h1
    rw [List.Nodup, List.pairwise_map]
    exact h3.imp_of_mem (fun {a b} ha hb hab e => hab (by have := (h2 a ha).1; have := (h2 b hb).1; omega))
  have := few_nat (n := n) hnd (fun x hx => by
    obtain ⟨v, hv, rfl⟩ := List.mem_map.1 hx
    exact (h2 v hv).2)
  simpa using this
/-- How many of those that a node needs are not there. -/
def wts (N : Nat → List Nat) (out : List Nat) (p : Nat) : Nat := (N p).countP (fun y => !out.contains y)
theorem wts_nil (p : Nat) : wts N [] p = (N p).length := by
  unfold wts
  rw [List.countP_eq_length]
  intro y _; simp
theorem wts_zero {out : List Nat} {p : Nat} : wts N out p = 0 ↔ ∀ y, y ∈ N p → y ∈ out := by
  unfold wts
  rw [List.countP_eq_zero]
  simp
theorem wts_snoc {out : List Nat} {x : Nat} (hx : x ∉ out) (p : Nat) : wts N out p = wts N (out ++ [x]) p + (N p).count x := by
  unfold wts
  induction N p with
  | nil => rfl
  | cons y l ih =>
    rw [List.countP_cons, List.countP_cons, List.count_cons, ih]
    by_cases e : y = x
    · subst e; simp [hx]; omega
    · simp [e]; omega
theorem avn_iff {out : List Nat} {x : Nat} : AvN (Rn N) n out x ↔ x < n ∧ x ∉ out ∧ wts N out x = 0 := by
  unfold AvN
  rw [wts_zero]
/-- The heap has just those that are not there and miss nothing. -/
def HpS (n : Nat) (out : List Nat) (miss : Nat → Nat) (l : List Int) : Prop := ∀ y : Int, l.count y = if 0 ≤ y ∧ y.toNat < n ∧ y.toNat ∉ out ∧ miss y.toNat = 0 then 1 else 0
theorem HpS.few {out : List Nat} {miss : Nat → Nat} {l : List Int} (h : HpS n out miss l) : l.length ≤ n := by
  refine few_int (fun v => by rw [h v]; split <;> omega) (fun v hv => ?_)
  have := List.count_pos_iff.2 hv
  rw [h v] at this
  split at this
  · rename_i h1; exact ⟨h1.1, h1.2.1⟩
  · omega
theorem HpS.top {out : List Nat} {miss : Nat → Nat} {l : List Int} (h : HpS n out miss l) (hp : Hp l l.length) (h0 : 0 < l.length) : ∃ x : Nat, l.getD 0 0 = x ∧ x < n ∧ x ∉ out ∧ miss x = 0 ∧ ∀ z, z < n → z ∉ out → miss z = 0 → x ≤ z := by
  have hm := List.count_pos_iff.2 (getD_mem0 h0)
  rw [h] at hm
  split at hm
  · rename_i h1
    refine ⟨(l.getD 0 0).toNat, by omega, h1.2.1, h1.2.2.1, h1.2.2.2, fun z hz ho hzm => ?_⟩
    have h3 : 0 < l.count (z : Int) := by
      rw [h, if_pos ⟨by omega, by simpa using hz, by simpa using ho, by simpa using hzm⟩]; omega
    obtain ⟨k, hk⟩ := List.mem_iff_getElem?.1 (List.count_pos_iff.1 h3)
    have hkl : k < l.length := by
      rcases Nat.lt_or_ge k l.length with h' | h'
      · exact h'
      · rw [List.getElem?_eq_none h'] at hk; cases hk
    have := hp.least k hkl
    rw [show l.getD k 0 = (z : Int) by rw [List.getD_eq_getElem?_getD, hk]; rfl] at this
    omega
  · omega
/-- The least is taken off. -/
theorem HpS.pop {out : List Nat} {miss : Nat → Nat} {l l' : List Int} {x : Nat} (h : HpS n out miss l) (hx : x < n) (hxo : x ∉ out) (hxm : miss x = 0) (hc : ∀ y, l'.count y + (if (x : Int) = y then 1 else 0) = l.count y) : HpS n (out ++ [x]) miss l' := by
  intro y
  have h1 := hc y
  rw [h y] at h1
  by_cases e : (x : Int) = y
  · subst e
    rw [if_pos rfl, if_pos ⟨by omega, by simpa using hx, by simpa using hxo, by simpa using hxm⟩] at h1
    rw [if_neg (by simp)]; omega
  · rw [if_neg e] at h1
    have e2 : 0 ≤ y → ¬ y.toNat = x := fun h0 h' => e (by omega)
    by_cases h0 : 0 ≤ y
    · have := e2 h0
      simp only [List.mem_append, List.mem_singleton, this, or_false]
      omega
    · rw [if_neg (fun h => h0 h.1)] at h1
      rw [if_neg (fun h => h0 h.1)]; omega
/-- One of those that need it misses one less. -/
theorem HpS.less {out : List Nat} {miss : Nat → Nat} {l l' : List Int} {p m : Nat} (h : HpS n out miss l) (hp : p < n) (hpo : p ∉ out) (hm : miss p = m + 1) (hc : ∀ y, l'.count y = l.count y + (if m = 0 ∧ (p : Int) = y then 1 else 0)) : HpS n out (upf miss p m) l' := by
  intro y
  have h1 := hc y
  rw [h y] at h1
  rw [h1]
  by_cases h0 : 0 ≤ y
  · by_cases e : y.toNat = p
    · have e2 : (p : Int) = y := by omega
      rw [e, upf_self, if_neg (fun h => by omega)]
      by_cases hm0 : m = 0
      · rw [if_pos ⟨hm0, e2⟩, if_pos ⟨h0, hp, hpo, hm0⟩]
      · rw [if_neg (fun h => hm0 h.1), if_neg (fun h => hm0 h.2.2.2)]
    · rw [upf_ne _ _ e, if_neg (c := m = 0 ∧ (p : Int) = y) (fun h => e (by omega))]; omega
  · rw [if_neg (c := m = 0 ∧ (p : Int) = y) (fun h => h0 (by omega)), if_neg (fun h => h0 h.1), if_neg (fun h => h0 h.1)]
/-- Who needs the node that is told just now is not there. -/
theorem So.need {out : List Nat} (h : So (Rn N) n out) {x p : Nat} (hx : AvN (Rn N) n out x) (hp : x ∈ N p) : p ∉ out ++ [x] := by
  intro hm
  rcases List.mem_append.1 hm with h1 | h1
  · obtain ⟨i, hi⟩ := List.mem_iff_getElem?.1 h1
    obtain ⟨j, h2, h3⟩ := h.ahead hi (show Rn N p x from hp)
    exact hx.2.1 (List.mem_of_getElem? h3)
  · simp at h1
    subst h1
    exact hx.2.1 (hx.2.2 p hp)
theorem So.nodup {out : List Nat} (h : So (Rn N) n out) : out.Nodup := by
  rw [List.Nodup, List.pairwise_iff_getElem]
  intro i j hi hj hij e
  have := h.apart (List.getElem?_eq_getElem hi) (by rw [List.getElem?_eq_getElem hj, e])
  omega
theorem So.few {out : List Nat} (h : So (Rn N) n out) : out.length ≤ n := few_nat h.nodup (fun x hx => h.lt hx)
/-- All are told, or there is a ring. -/
theorem So.either {out : List Nat} (hN : ∀ x y, y ∈ N x → x < n ∧ y < n) (h : So (Rn N) n out) (hno : ∀ x, ¬ AvN (Rn N) n out x) : (out.length = n ∧ ∀ x, ¬ RgN (Rn N) x) ∨ (out.length < n ∧ ∃ y, y < n ∧ RgN (Rn N) y) := by
  have hf := h.few
  rcases Nat.lt_or_ge out.length n with hlt | hge
  · right
    refine ⟨hlt, ?_⟩
    have : ∃ x, x < n ∧ x ∉ out := by
      refine Classical.byContradiction (fun hc => ?_)
      have hall : ∀ x, x < n → x ∈ out := fun x hx => Classical.byContradiction (fun hxo => hc ⟨x, hx, hxo⟩)
      have hsub : (List.range n).Subset out := fun x hx => hall x (List.mem_range.1 hx)
      obtain ⟨a, b, hab, hb, e⟩ := php out.length (fun x => out.idxOf x) (fun j hj => List.idxOf_lt_length_iff.2 (hall j (by omega)))
      have g1 := List.getElem_idxOf (List.idxOf_lt_length_iff.2 (hall a (by omega)))
      have g2 := List.getElem_idxOf (List.idxOf_lt_length_iff.2 (hall b (by omega)))
      have e' : out.idxOf a = out.idxOf b := e
      have : a = b := g1.symm.trans ((by congr 1 : out[out.idxOf a]'(List.idxOf_lt_length_iff.2 (hall a (by omega))) = out[out.idxOf b]'(List.idxOf_lt_length_iff.2 (hall b (by omega)))).trans g2)
      omega
    obtain ⟨x, hx, hxo⟩ := this
    exact ring_there hN hno hx hxo
  · left
    refine ⟨by omega, fun x hr => ?_⟩
    have hxn : x < n := by obtain ⟨j, z, h1, h2⟩ := hr; exact (hN x z h1).1
    have hxo : x ∈ out := by
      refine Classical.byContradiction (fun hxo => ?_)
      have := few_nat (n := n) (l := out ++ [x]) (by
        rw [List.nodup_append]
        exact ⟨h.nodup, by simp, fun a ha b hb => by simp at hb; subst hb; exact fun e => hxo (by rw [← e]; exact ha)⟩) (fun y hy => by
          rcases List.mem_append.1 hy with h1 | h1
          · exact h.lt h1
          · simp at h1; rw [h1]; exact hxn)
      simp at this
      omega
    exact h.noring hxo hr
end Go.Proofs.Ytonhooaboieapaa
