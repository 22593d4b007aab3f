/-
  tokens: lines of a text; what is refused is refused alike, whatever stands behind its line.
-/
import Derived.Test.YtiedpclomplnmaaTcQ
namespace Go.Proofs.Ytiedpclomplnmaa
set_option linter.unusedVariables false

/-- Where lines begin, but the first. -/
def st : Nat → List UInt8 → List Nat
  | _, [] => []
  | k, c :: t => if c = 10 then (k + 1) :: st (k + 1) t else st (k + 1) t
theorem st_add : ∀ (s : List UInt8) (a k : Nat), st (a + k) s = (st k s).map (a + ·)
  | [], a, k => rfl
  | c :: t, a, k => by
    have := st_add t a (k + 1)
    simp only [st]
    split
    · rw [List.map_cons, ← this]; simp [Nat.add_assoc]
    · rw [← this, Nat.add_assoc]
theorem st_none : ∀ (s : List UInt8) (k : Nat), (∀ c ∈ s, c ≠ 10) → st k s = []
  | [], _, _ => rfl
  | c :: t, k, h => by
    rw [st, if_neg (h c (List.mem_cons_self ..))]
    exact st_none t _ (fun x hx => h x (List.mem_cons_of_mem _ hx))
theorem st_line : ∀ (x y : List UInt8) (k : Nat), (∀ c ∈ x, c ≠ 10) → st k (x ++ 10 :: y) = (k + x.length + 1) :: st (k + x.length + 1) y
  | [], y, k, _ => by simp [st]
  | c :: t, y, k, h => by
    rw [List.cons_append, st, if_neg (h c (List.mem_cons_self ..)), st_line t y (k + 1) (fun x hx => h x (List.mem_cons_of_mem _ hx))]
    simp only [List.length_cons]
    rw [show k + 1 + t.length + 1 = k + (t.length + 1) + 1 by omega]
theorem st_pos : ∀ (s : List UInt8) (k p : Nat), p ∈ st k s → k + 1 ≤ p ∧ p ≤ k + s.length
  | [], _, _, h => by cases h
  | c :: t, k, p, h => by
    rw [st] at h
    simp only [List.length_cons]
    split at h
    · rcases List.mem_cons.1 h with rfl | h
      · omega
      · have := st_pos t (k + 1) p h; omega
    · have := st_pos t (k + 1) p h; omega
theorem st_len : ∀ (s : List UInt8) (k : Nat), (st k s).length ≤ s.length
  | [], _ => Nat.le_refl _
  | c :: t, k => by
    have := st_len t (k + 1)
    rw [st]
    split <;> simp only [List.length_cons] <;> omega
/-- The end of a line. -/
def eol (d : Nat) (s : List UInt8) : Nat := match (st 0 s)[d]? with
  | some p => p - 1
  | none => s.length
/-- A text's first line. -/
theorem line1 (s : List UInt8) : (∀ c ∈ s, c ≠ 10) ∨ ∃ x y, s = x ++ 10 :: y ∧ ∀ c ∈ x, c ≠ 10 := by
  induction s with
  | nil => left; intro c hc; cases hc
  | cons b t ih =>
    by_cases hb : b = 10
    · right; subst hb; exact ⟨[], t, rfl, fun c hc => by cases hc⟩
    · rcases ih with h | ⟨x, y, rfl, h⟩
      · left; intro c hc
        rcases List.mem_cons.1 hc with rfl | hc
        · exact hb
        · exact h c hc
      · right
        refine ⟨b :: x, y, rfl, ?_⟩
        intro c hc
        rcases List.mem_cons.1 hc with rfl | hc
        · exact hb
        · exact h c hc
theorem eol_one {s : List UInt8} (d : Nat) (h : ∀ c ∈ s, c ≠ 10) : eol d s = s.length := by
  unfold eol; rw [st_none s 0 h]; rfl
theorem eol_zero {x y : List UInt8} (h : ∀ c ∈ x, c ≠ 10) : eol 0 (x ++ 10 :: y) = x.length := by
  unfold eol; rw [st_line x y 0 h]; simp
theorem eol_succ {x y : List UInt8} (d : Nat) (h : ∀ c ∈ x, c ≠ 10) : eol (d + 1) (x ++ 10 :: y) = x.length + 1 + eol d y := by
  unfold eol
  rw [st_line x y 0 h, show 0 + x.length + 1 = (x.length + 1) + 0 by omega, st_add y (x.length + 1) 0]
  simp only [List.getElem?_cons_succ, List.getElem?_map]
  cases e : (st 0 y)[d]? with
  | none => simp; omega
  | some p =>
    have := st_pos y 0 p (List.mem_of_getElem? e)
    simp; omega
theorem rm_nlq : ∀ (r : List UInt8) (s : List UInt8), (∀ c ∈ r, c ≠ 10) → rm (r ++ 10 :: s) = r.length
  | [], s, _ => by simp [rm, rn]
  | c :: r, s, h => by
    have := rm_nlq r s (fun c hc => h c (List.mem_cons_of_mem _ hc))
    unfold rm at this ⊢
    rw [List.cons_append, rn, this]
    simp [h c (List.mem_cons_self ..)]
theorem bad_sep {b : UInt8} (hb : Dead b) (x m : List UInt8) (hx : x ≠ []) : bad (x ++ b :: m) = bad x := by
  unfold bad
  rw [lx_sep hb m x hx, List.drop_append_of_le_length (lx_le x)]
  cases e : x.drop (lx x).2 with
  | nil => rw [List.nil_append, gs_dead hb]; rfl
  | cons c t => rfl
/-- A line is cut by itself. -/
theorem line_cut : ∀ (f : Nat) (x : List UInt8) (l c : Nat), x.length ≤ f → (∀ c ∈ x, c ≠ 10) →
    (∃ c', cu x l c = .no l c' ∧ ∀ m, cu (x ++ 10 :: m) l c = .no l c') ∨ (∃ ts c', cu x l c = .ok (ts ++ [⟨0, [], l, c'⟩]) ∧ ∀ m, cu (x ++ 10 :: m) l c = Cr.pre ts (cu m (l + 1) 1)) := by
  intro f
  induction f with
  | zero =>
    intro x l c h hx
    obtain rfl : x = [] := List.length_eq_zero_iff.1 (by omega)
    right
    refine ⟨[], c, rfl, fun m => ?_⟩
    rw [List.nil_append, cu_cons, if_pos rfl, Cr.pre_nil]
  | succ f ih =>
    intro x l c h hx
    cases x with
    | nil =>
      right
      refine ⟨[], c, rfl, fun m => ?_⟩
      rw [List.nil_append, cu_cons, if_pos rfl, Cr.pre_nil]
    | cons b t =>
      simp only [List.length_cons] at h
      have n10 : ¬ b = 10 := hx b (List.mem_cons_self ..)
      have ht : ∀ c ∈ t, c ≠ 10 := fun x hx' => hx x (List.mem_cons_of_mem _ hx')
      by_cases h2 : b = 32 ∨ b = 9 ∨ b = 13
      · rcases ih t l (c + 1) (by omega) ht with ⟨c', e1, e2⟩ | ⟨ts, c', e1, e2⟩
        · left
          refine ⟨c', by rw [cu_cons, if_neg n10, if_pos h2]; exact e1, fun m => ?_⟩
          rw [List.cons_append, cu_cons, if_neg n10, if_pos h2]; exact e2 m
        · right
          refine ⟨ts, c', by rw [cu_cons, if_neg n10, if_pos h2]; exact e1, fun m => ?_⟩
          rw [List.cons_append, cu_cons, if_neg n10, if_pos h2]; exact e2 m
      · by_cases h3 : b = 35
        · right
          have e0 : rm t = t.length := by
            have := rm_nlq t [] ht
            have h1 := rn_sep (fun c => c != 10) 10 (by rfl) [] t
            unfold rm at this ⊢
            rw [h1] at this; exact this
          refine ⟨[], c + 1 + t.length, ?_, fun m => ?_⟩
          · rw [cu_cons, if_neg n10, if_neg h2, if_pos h3, e0, List.drop_length, cu_nil]; rfl
          · rw [List.cons_append, cu_cons, if_neg n10, if_neg h2, if_pos h3, rm_nlq t m ht, List.drop_append_of_le_length (Nat.le_refl _), List.drop_length, List.nil_append, cu_cons, if_pos rfl, Cr.pre_nil]
        · have hb := fun m => bad_sep dead10 (b :: t) m (by simp)
          have hl := fun m => lx_sep dead10 m (b :: t) (by simp)
          by_cases h4 : bad (b :: t) = true
          · left
            refine ⟨c, by rw [cu_cons, if_neg n10, if_neg h2, if_neg h3, if_pos h4], fun m => ?_⟩
            have hbm := hb m
            rw [List.cons_append] at hbm ⊢
            rw [cu_cons, if_neg n10, if_neg h2, if_neg h3, if_pos (by rw [hbm]; exact h4)]
          · have hpos := bad_pos h4
            have hle := lx_le (b :: t)
            have hcons : cu (b :: t) l c = Cr.pre [⟨(lx (b :: t)).1, (b :: t).take (lx (b :: t)).2, l, c⟩] (cu ((b :: t).drop (lx (b :: t)).2) l (c + (lx (b :: t)).2)) := by
              rw [cu_cons, if_neg n10, if_neg h2, if_neg h3, if_neg h4]
            have hconm : ∀ m, cu ((b :: t) ++ 10 :: m) l c = Cr.pre [⟨(lx (b :: t)).1, (b :: t).take (lx (b :: t)).2, l, c⟩] (cu ((b :: t).drop (lx (b :: t)).2 ++ 10 :: m) l (c + (lx (b :: t)).2)) := by
              intro m
              have hbm := hb m
              have hlm := hl m
              have d1 : ((b :: t) ++ 10 :: m).drop (lx (b :: t)).2 = (b :: t).drop (lx (b :: t)).2 ++ 10 :: m := List.drop_append_of_le_length hle
              have d2 : ((b :: t) ++ 10 :: m).take (lx (b :: t)).2 = (b :: t).take (lx (b :: t)).2 := List.take_append_of_le_length hle
              rw [List.cons_append] at hbm hlm d1 d2 ⊢
              rw [cu_cons, if_neg n10, if_neg h2, if_neg h3, if_neg (by rw [hbm]; exact h4), hlm, d1, d2]
            rcases ih ((b :: t).drop (lx (b :: t)).2) l (c + (lx (b :: t)).2) (by simp only [List.length_drop, List.length_cons] at hle ⊢; omega) (fun x hx' => hx x (List.mem_of_mem_drop hx')) with ⟨c', e1, e2⟩ | ⟨ts, c', e1, e2⟩
            · left
              exact ⟨c', by rw [hcons, e1]; rfl, fun m => by rw [hconm m, e2 m]; rfl⟩
            · right
              exact ⟨_ :: ts, c', by rw [hcons, e1]; rfl, fun m => by rw [hconm m, e2 m, Cr.pre_pre]; rfl⟩
/-- P12.3, of bytes: what is refused is refused alike. -/
theorem refused : ∀ (f : Nat) (s : List UInt8) (l L C : Nat), s.length ≤ f → cu s l 1 = .no L C → l ≤ L ∧ L - l ≤ (st 0 s).length ∧ ∀ m, cu (s.take (eol (L - l) s) ++ 10 :: m) l 1 = .no L C := by
  intro f
  induction f with
  | zero =>
    intro s l L C h e
    obtain rfl : s = [] := List.length_eq_zero_iff.1 (by omega)
    rw [cu_nil] at e; cases e
  | succ f ih =>
    intro s l L C h e
    rcases line1 s with hx | ⟨x, y, rfl, hx⟩
    · rcases line_cut _ s l 1 (Nat.le_refl _) hx with ⟨c', e1, e2⟩ | ⟨ts, c', e1, e2⟩
      · rw [e1] at e; cases e
        refine ⟨Nat.le_refl _, by omega, fun m => ?_⟩
        rw [eol_one _ hx, List.take_length]; exact e2 m
      · rw [e1] at e; cases e
    · simp only [List.length_append, List.length_cons] at h
      rcases line_cut _ x l 1 (Nat.le_refl _) hx with ⟨c', e1, e2⟩ | ⟨ts, c', e1, e2⟩
      · rw [e2 y] at e; cases e
        refine ⟨Nat.le_refl _, by omega, fun m => ?_⟩
        rw [Nat.sub_self, eol_zero hx, List.take_left]; exact e2 m
      · rw [e2 y] at e
        have e' : cu y (l + 1) 1 = .no L C := by
          cases hr : cu y (l + 1) 1 with
          | ok us => rw [hr] at e; cases e
          | no a b => rw [hr] at e; exact e
        obtain ⟨h1, h2, h3⟩ := ih y (l + 1) L C (by omega) e'
        obtain ⟨d, hd⟩ : ∃ d, L - l = d + 1 := ⟨L - l - 1, by omega⟩
        have hd' : L - (l + 1) = d := by omega
        rw [hd'] at h2 h3
        refine ⟨by omega, ?_, fun m => ?_⟩
        · rw [hd, st_line x y 0 hx, show 0 + x.length + 1 = (x.length + 1) + 0 by omega, st_add]; simp; exact h2
        · rw [hd, eol_succ d hx]
          have : (x ++ 10 :: y).take (x.length + 1 + eol d y) = x ++ 10 :: y.take (eol d y) := by
            rw [show x.length + 1 + eol d y = x.length + (1 + eol d y) by omega, List.take_length_add_append, Nat.add_comm 1, List.take_succ_cons]
          rw [this, List.append_assoc, List.cons_append, e2, h3 m]; rfl
end Go.Proofs.Ytiedpclomplnmaa
