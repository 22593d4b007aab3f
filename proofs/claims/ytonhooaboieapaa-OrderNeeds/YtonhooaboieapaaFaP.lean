/-
  A search in breadth, level by level: how far each is at least from one.
-/
import Derived.Test.YtonhooaboieapaaOrS
import Derived.Test.YtonhooaboieapaaOrT
namespace Go.Proofs.Ytonhooaboieapaa
set_option linter.unusedVariables false
set_option linter.unusedSimpArgs false

/-- At the start of level d: who is nearer than d, and who is just d - 1 away. -/
structure Lv (N : Nat → List Nat) (n a d : Nat) (now M : List Nat) (fv : Nat → Nat) : Prop where
  d1 : 1 ≤ d
  mark : ∀ x, fv x ≠ 0 → x < n ∧ fv x < d ∧ Ds (Rn N) (fv x) x a
  has : ∀ x j, Ds (Rn N) j x a → j < d → fv x = j
  nowi : ∀ x, x ∈ now ↔ if d = 1 then x = a else Ds (Rn N) (d - 1) x a
  nowl : ∀ x ∈ now, x < n
  nd : M.Nodup
  all : ∀ x, x ∈ M ↔ fv x ≠ 0
  few : d ≤ M.length + 2
  more : now ≠ [] → d ≤ M.length + 1
theorem Lv.start {N : Nat → List Nat} {n a : Nat} (ha : a < n) : Lv N n a 1 [a] [] (fun _ => 0) where
  d1 := Nat.le_refl _
  mark := fun x h => absurd rfl h
  has := fun x j h hj => absurd h.1 (by omega)
  nowi := fun x => by simp
  nowl := fun x hx => by simp at hx; omega
  nd := List.nodup_nil
  all := fun x => by simp
  few := by simp
  more := fun _ => by simp
theorem Lv.small {N : Nat → List Nat} {n a d : Nat} {now M : List Nat} {fv : Nat → Nat} (h : Lv N n a d now M fv) : d ≤ n + 2 := by
  have h1 : M.length ≤ n := few_nat h.nd (fun x hx => (h.mark x ((h.all x).1 hx)).1)
  have := h.few
  omega
/-- Within a level: nx is found, of the i first of now all, of the next one the k first. -/
structure Lw (N T : Nat → List Nat) (n a d : Nat) (now M : List Nat) (i k : Nat) (nx : List Nat) (fv : Nat → Nat) : Prop where
  d1 : 1 ≤ d
  mark : ∀ x, fv x ≠ 0 → x < n ∧ ((fv x < d ∧ Ds (Rn N) (fv x) x a) ∨ (fv x = d ∧ x ∈ nx))
  new : ∀ x ∈ nx, fv x = d ∧ x < n ∧ Ds (Rn N) d x a
  has : ∀ x j, Ds (Rn N) j x a → j < d → fv x = j
  nowi : ∀ x, x ∈ now ↔ if d = 1 then x = a else Ds (Rn N) (d - 1) x a
  nowl : ∀ x ∈ now, x < n
  nd : (M ++ nx).Nodup
  all : ∀ x, x ∈ M ++ nx ↔ fv x ≠ 0
  more : d ≤ M.length + 1
  done : ∀ j y, j < i → now[j]? = some y → ∀ x ∈ T y, fv x ≠ 0
  here : ∀ y, now[i]? = some y → ∀ j x, j < k → (T y)[j]? = some x → fv x ≠ 0
theorem Lv.in {N T : Nat → List Nat} {n a d : Nat} {now M : List Nat} {fv : Nat → Nat} (h : Lv N n a d now M fv) (h0 : now ≠ []) : Lw N T n a d now M 0 0 [] fv where
  d1 := h.d1
  mark := fun x hx => ⟨(h.mark x hx).1, .inl (h.mark x hx).2⟩
  new := fun x hx => by simp at hx
  has := h.has
  nowi := h.nowi
  nowl := h.nowl
  nd := by simpa using h.nd
  all := fun x => by simpa using h.all x
  more := h.more h0
  done := fun j y hj => absurd hj (by omega)
  here := fun y _ j x hj => absurd hj (by omega)
theorem Lw.row {N T : Nat → List Nat} {n a d : Nat} {now M : List Nat} {i k : Nat} {nx : List Nat} {fv : Nat → Nat} (h : Lw N T n a d now M i k nx fv) {y : Nat} (hy : now[i]? = some y) (hk : k = (T y).length) : Lw N T n a d now M (i + 1) 0 nx fv :=
  { h with
    done := fun j z hj hz x hx => by
      by_cases e : j < i
      · exact h.done j z e hz x hx
      · obtain rfl : j = i := by omega
        rw [hy] at hz; cases hz
        obtain ⟨t, ht⟩ := List.mem_iff_getElem?.1 hx
        exact h.here y hy t x (by rw [hk]; exact (List.getElem?_eq_some_iff.1 ht).1) ht
    here := fun z _ j x hj => absurd hj (by omega) }
theorem Lw.old {N T : Nat → List Nat} {n a d : Nat} {now M : List Nat} {i k : Nat} {nx : List Nat} {fv : Nat → Nat} (h : Lw N T n a d now M i k nx fv) {y x : Nat} (hy : now[i]? = some y) (hx : (T y)[k]? = some x) (hf : fv x ≠ 0) : Lw N T n a d now M i (k + 1) nx fv :=
  { h with
    here := fun z hz j u hj hu => by
      by_cases e : j < k
      · exact h.here z hz j u e hu
      · obtain rfl : j = k := by omega
        rw [hy] at hz; cases hz
        rw [hx] at hu; cases hu
        exact hf }
theorem Lw.put {N T : Nat → List Nat} {n a d : Nat} {now M : List Nat} {i k : Nat} {nx : List Nat} {fv : Nat → Nat} (h : Lw N T n a d now M i k nx fv) (hT : ∀ x p, p ∈ T x → p < n ∧ x ∈ N p) {y x : Nat} (hy : now[i]? = some y) (hx : (T y)[k]? = some x) (hf : fv x = 0) : Lw N T n a d now M i (k + 1) (nx ++ [x]) (upf fv x d) := by
  have hxT := hT y x (List.mem_of_getElem? hx)
  have hyn := (h.nowi y).1 (List.mem_of_getElem? hy)
  have d1 := h.d1
  have hd : Ds (Rn N) d x a := by
    have hw : Wk (Rn N) d x a := by
      by_cases e : d = 1
      · rw [if_pos e] at hyn
        subst hyn
        rw [e]
        exact Wk.one hxT.2
      · rw [if_neg e] at hyn
        obtain ⟨c, rfl⟩ : ∃ c, d = c + 1 := ⟨d - 1, by omega⟩
        exact ⟨y, hxT.2, hyn.2.1⟩
    refine ⟨by omega, hw, fun j hj hwj => ?_⟩
    obtain ⟨m, hm, hds⟩ := ds_there hj hwj
    rcases Nat.lt_or_ge m d with hlt | hge
    · have := h.has x m hds hlt
      have := hds.1
      omega
    · omega
  have hup : ∀ z, upf fv x d z ≠ 0 ↔ z = x ∨ fv z ≠ 0 := fun z => by
    by_cases e : z = x
    · rw [e, upf_self]; simp; omega
    · rw [upf_ne _ _ e]; simp [e]
  refine { h with mark := fun z hz => ?_, new := fun z hz => ?_, has := fun z j hz hj => ?_, nd := ?_, all := fun z => ?_, done := fun j z hj hz u hu => (hup u).2 (.inr (h.done j z hj hz u hu)), here := fun z hz j u hj hu => ?_ }
  · by_cases e : z = x
    · subst e
      exact ⟨hxT.1, .inr ⟨upf_self _ _ _, by simp⟩⟩
    · rw [upf_ne _ _ e] at hz ⊢
      obtain ⟨h1, h2⟩ := h.mark z hz
      refine ⟨h1, ?_⟩
      rcases h2 with h2 | ⟨h2, h3⟩
      · exact .inl h2
      · exact .inr ⟨h2, List.mem_append_left _ h3⟩
  · rcases List.mem_append.1 hz with h1 | h1
    · have e : z ≠ x := fun e => by
        have := (h.new z h1).1
        rw [e, hf] at this
        omega
      rw [upf_ne _ _ e]
      exact h.new z h1
    · simp at h1
      subst h1
      exact ⟨upf_self _ _ _, hxT.1, hd⟩
  · have e : z ≠ x := fun e => by
      subst e
      have := hz.unique hd
      omega
    rw [upf_ne _ _ e]
    exact h.has z j hz hj
  · rw [← List.append_assoc, List.nodup_append]
    refine ⟨h.nd, by simp, fun u hu v hv => ?_⟩
    simp at hv
    subst hv
    exact fun e => (h.all u).1 hu (by rw [e]; exact hf)
  · rw [← List.append_assoc, List.mem_append, h.all z, hup z]
    simp [or_comm]
  · by_cases e : j < k
    · exact (hup u).2 (.inr (h.here z hz j u e hu))
    · obtain rfl : j = k := by omega
      rw [hy] at hz; cases hz
      rw [hx] at hu; cases hu
      exact (hup _).2 (.inl rfl)
theorem Lw.out {N T : Nat → List Nat} {n a d : Nat} {now M : List Nat} {nx : List Nat} {fv : Nat → Nat} (h : Lw N T n a d now M now.length 0 nx fv) (hN : ∀ x y, y ∈ N x → x < n ∧ x ∈ T y) : Lv N n a (d + 1) nx (M ++ nx) fv := by
  have d1 := h.d1
  have hin : ∀ x, Ds (Rn N) d x a → x ∈ nx := fun x hx => by
    have hz : ∃ z, z ∈ now ∧ z ∈ N x := by
      by_cases e : d = 1
      · subst e
        obtain ⟨z, h1, h2⟩ := hx.2.1
        have h2' : z = a := h2
        exact ⟨z, by rw [h.nowi z, if_pos rfl]; exact h2', h1⟩
      · obtain ⟨c, rfl⟩ : ∃ c, d = c + 1 := ⟨d - 1, by omega⟩
        obtain ⟨z, h1, h2⟩ := hx.next (by omega)
        exact ⟨z, by rw [h.nowi z, if_neg e]; exact h2, h1⟩
    obtain ⟨z, h1, h2⟩ := hz
    obtain ⟨j, hj⟩ := List.mem_iff_getElem?.1 h1
    have hf := h.done j z (List.getElem?_eq_some_iff.1 hj).1 hj x (hN x z h2).2
    rcases (h.mark x hf).2 with ⟨h3, h4⟩ | ⟨-, h3⟩
    · have := h4.unique hx
      omega
    · exact h3
  refine ⟨by omega, fun x hx => ?_, fun x j hx hj => ?_, fun x => ?_, fun x hx => (h.new x hx).2.1, h.nd, h.all, ?_, fun hne => ?_⟩
  · obtain ⟨h1, h2⟩ := h.mark x hx
    rcases h2 with ⟨h2, h3⟩ | ⟨h2, h3⟩
    · exact ⟨h1, by omega, h3⟩
    · exact ⟨h1, by omega, by rw [h2]; exact (h.new x h3).2.2⟩
  · by_cases e : j < d
    · exact h.has x j hx e
    · obtain rfl : j = d := by omega
      exact (h.new x (hin x hx)).1
  · rw [if_neg (by omega), Nat.add_sub_cancel]
    exact ⟨fun hx => (h.new x hx).2.2, hin x⟩
  · have := h.more
    rw [List.length_append]; omega
  · have := h.more
    have : 0 < nx.length := List.length_pos_iff.2 hne
    rw [List.length_append]; omega
/-- What is told at the end: how far at least, 0: no way leads there. -/
def Fr (N : Nat → List Nat) (n a : Nat) (fv : Nat → Nat) : Prop := (∀ x, fv x ≠ 0 → x < n ∧ Ds (Rn N) (fv x) x a) ∧ (∀ x j, Ds (Rn N) j x a → fv x = j) ∧ ∀ x, fv x ≤ n + 1
theorem Lv.end {N : Nat → List Nat} {n a d : Nat} {M : List Nat} {fv : Nat → Nat} (h : Lv N n a d [] M fv) : Fr N n a fv := by
  have hno : ∀ x, ¬ (if d = 1 then x = a else Ds (Rn N) (d - 1) x a) := fun x hx => by have := (h.nowi x).2 hx; simp at this
  have hd : d ≠ 1 := fun e => hno a (by rw [if_pos e])
  have d1 := h.d1
  have key : ∀ j x, ¬ Ds (Rn N) (d - 1 + j) x a := by
    intro j
    induction j with
    | zero => intro x hx; exact hno x (by rw [if_neg hd]; exact hx)
    | succ j ih =>
      intro x hx
      obtain ⟨z, -, h2⟩ := Ds.next (j := d - 1 + j) hx (by omega)
      exact ih z h2
  refine ⟨fun x hx => ⟨(h.mark x hx).1, (h.mark x hx).2.2⟩, fun x j hx => ?_, fun x => ?_⟩
  · refine h.has x j hx ?_
    rcases Nat.lt_or_ge j d with h1 | h1
    · exact h1
    · exact absurd (by rw [show d - 1 + (j - (d - 1)) = j by omega]; exact hx) (key (j - (d - 1)) x)
  · have h1 := h.small
    by_cases e : fv x = 0
    · omega
    · have := (h.mark x e).2.1
      omega
end Go.Proofs.Ytonhooaboieapaa
