/-
  What the document reads of a decimal's text is what the text says. Plain Lean.
-/
import Derived.Test.YtebbblhafjaaiaaGreatDoorDecT
namespace Go.Proofs.YtebbblhafjaaiaaGreatDoor
set_option linter.unusedVariables false
theorem drop_take_while : ∀ r : List UInt8, r.drop (r.takeWhile isD).length = r.dropWhile isD
  | [] => rfl
  | c :: r => by
    rw [List.takeWhile_cons, List.dropWhile_cons]
    cases isD c
    · rfl
    · exact drop_take_while r
theorem getD_at (s : List UInt8) {p : Nat} (h : p < s.length) : s.getD p 0 = s[p] := by rw [List.getD_eq_getElem?_getD, List.getElem?_eq_getElem h]; rfl
/-- The place behind the digits that stand from a place on. -/
def bhL (s : List UInt8) (p : Nat) : Nat := p + ((s.drop p).takeWhile isD).length
theorem bhL_le (s : List UInt8) {p : Nat} (h : p ≤ s.length) : p ≤ bhL s p ∧ bhL s p ≤ s.length := by
  have := congrArg List.length (take_drop_while isD (s.drop p))
  rw [List.length_append, List.length_drop] at this
  unfold bhL; omega
theorem bhL_step (s : List UInt8) {p : Nat} (h : p < s.length) (hd : isD (s.getD p 0) = true) : bhL s (p + 1) = bhL s p := by
  unfold bhL
  rw [getD_at s h] at hd
  rw [List.drop_eq_getElem_cons h, List.takeWhile_cons, if_pos hd, List.length_cons]; omega
theorem bhL_stop (s : List UInt8) {p : Nat} (h : p < s.length) (hd : isD (s.getD p 0) = false) : bhL s p = p := by
  unfold bhL
  rw [getD_at s h] at hd
  rw [List.drop_eq_getElem_cons h, List.takeWhile_cons, if_neg (by simpa using hd)]; rfl
theorem bhL_end (s : List UInt8) {p : Nat} (h : s.length ≤ p) : bhL s p = p := by
  unfold bhL; rw [List.drop_eq_nil_iff.2 h]; rfl
/-- The byte behind the digits is none. -/
theorem bhL_not (s : List UInt8) {p : Nat} (hp : p ≤ s.length) (h : bhL s p < s.length) : isD (s.getD (bhL s p) 0) = false := by
  obtain ⟨n, hn⟩ : ∃ n, s.length - p = n := ⟨_, rfl⟩
  induction n generalizing p with
  | zero => have := bhL_le s hp; omega
  | succ n ih =>
    cases hd : isD (s.getD p 0)
    · rw [bhL_stop s (by omega) hd]; exact hd
    · rw [← bhL_step s (by omega) hd] at h ⊢
      exact ih (by omega) h (by omega)
/-- Where a text's digits begin. -/
def ahL (s : List UInt8) : Nat := if s.head? = some 45 then 1 else 0
theorem ahL_le (s : List UInt8) : ahL s ≤ s.length := by
  unfold ahL; cases s with
  | nil => simp
  | cons c s => split <;> simp
/-- The place at which a text can't be a decimal's, or -1; the place of its point, or its length. -/
def shL (s : List UInt8) : Int × Nat :=
  let p := bhL s (ahL s)
  if p = ahL s ∨ (p < s.length ∧ s.getD p 0 ≠ 46) then (p, 0)
  else if p = s.length then (-1, p)
  else if bhL s (p + 1) = p + 1 ∨ bhL s (p + 1) < s.length then (bhL s (p + 1), 0)
  else (-1, p)
theorem bare_drop (s : List UInt8) : (if decide (s.head? = some 45) then s.drop 1 else s) = s.drop (ahL s) := by
  unfold ahL; by_cases h : s.head? = some 45 <;> simp [h]
/-- A text is wrong at the same place. -/
theorem readL_wrong (s : List UInt8) {k : Nat} (h : (shL s).1 = (k : Int)) : readL s = (0, 0, k, 60) := by
  have hl := ahL_le s
  unfold readL
  simp only [bare_drop]
  obtain ⟨r, hr⟩ : ∃ r, s.drop (ahL s) = r := ⟨_, rfl⟩
  have hrl : r.length = s.length - ahL s := by rw [← hr, List.length_drop]
  have hbp : bhL s (ahL s) = ahL s + (r.takeWhile isD).length := by unfold bhL; rw [hr]
  have htd := congrArg List.length (take_drop_while isD r)
  rw [List.length_append] at htd
  have hdr : s.drop (bhL s (ahL s)) = r.dropWhile isD := by
    rw [hbp, ← List.drop_drop, hr]
    exact drop_take_while r
  have hgd : ∀ c, (r.dropWhile isD).head? = some c → s.getD (bhL s (ahL s)) 0 = c := by
    intro c hc
    rw [← hdr, List.head?_drop] at hc
    rw [List.getD_eq_getElem?_getD, hc]; rfl
  rw [hr]
  unfold shL at h
  simp only [] at h
  unfold partsL
  by_cases h0 : (r.takeWhile isD).length = 0
  · rw [if_pos (Or.inl (by omega))] at h
    rw [if_pos (Or.inl h0), h0]
    simp only [Nat.lt_irrefl, decide_false, Bool.false_eq_true, if_false]
    have : k = ahL s := by omega
    subst this
    congr 3; omega
  · cases hdw : r.dropWhile isD with
    | nil =>
      rw [hdw] at htd
      simp only [List.length_nil, Nat.add_zero] at htd
      rw [if_neg (by omega), if_pos (by omega)] at h
      simp at h
    | cons c t =>
      have hg := hgd c (by rw [hdw]; rfl)
      rw [hdw, List.length_cons] at htd
      by_cases hc : c = 46
      · subst hc
        rw [if_neg (by rw [hg]; simp; omega), if_neg (by omega)] at h
        have n1 : ¬ ((r.takeWhile isD).length = 0 ∨ 46 :: t = []) := by rintro (e | e); exact h0 e; cases e
        have n2 : (46 :: t).head? = some 46 := rfl
        rw [if_neg n1, if_pos n2]
        have hdt : s.drop (bhL s (ahL s) + 1) = t := by
          rw [← List.drop_drop, hdr, hdw]; rfl
        have hb2 : bhL s (bhL s (ahL s) + 1) = bhL s (ahL s) + 1 + (t.takeWhile isD).length := by unfold bhL; rw [show s.drop (ahL s + (List.takeWhile isD (List.drop (ahL s) s)).length + 1) = t from hdt]
        have htt := congrArg List.length (take_drop_while isD t)
        rw [List.length_append] at htt
        simp only [List.drop_succ_cons, List.drop_zero]
        split at h
        · next hh =>
          have hok : (decide (0 < (List.takeWhile isD t).length) && (List.dropWhile isD t).isEmpty) = false := by
            rw [Bool.and_eq_false_iff]
            rcases hh with hh | hh
            · left; simp only [decide_eq_false_iff_not]; omega
            · right
              cases hdt2 : List.dropWhile isD t with
              | nil => rw [hdt2] at htt; simp at htt; omega
              | cons d u => rfl
          rw [hok]
          simp only [Bool.false_eq_true, if_false]
          have : k = bhL s (bhL s (ahL s) + 1) := by omega
          congr 3; omega
        · simp at h
      · rw [if_pos (by right; rw [hg]; exact ⟨by omega, hc⟩)] at h
        have n1 : ¬ ((r.takeWhile isD).length = 0 ∨ c :: t = []) := by rintro (e | e); exact h0 e; cases e
        have n2 : ¬ (c :: t).head? = some 46 := by simpa using hc
        rw [if_neg n1, if_neg n2]
        simp only [Bool.false_eq_true, if_false]
        congr 3; omega
/-- The digits of a text, one behind the other, as a number. -/
def dvL (l : List UInt8) : Nat := tv 10 (l.filter isD)
theorem dvL_app (l m : List UInt8) : dvL (l ++ m) = dvL l * 10 ^ (m.filter isD).length + dvL m := by unfold dvL; rw [List.filter_append, tv_append]
theorem dvL_mono (l m : List UInt8) : dvL l ≤ dvL (l ++ m) := by
  rw [dvL_app]
  have h1 : 1 ≤ 10 ^ (m.filter isD).length := Nat.one_le_pow _ _ (by omega)
  have := Nat.mul_le_mul_left (dvL l) h1
  omega
theorem dvL_digs {l : List UInt8} (h : Dig 10 l) : l.filter isD = l := List.filter_eq_self.2 (fun c hc => by simpa [isD] using h c hc)
theorem dvL_step (s : List UInt8) {k : Nat} (h : k < s.length) : dvL (s.take (k + 1)) = if isD (s.getD k 0) then dvL (s.take k) * 10 + wv (s.getD k 0) else dvL (s.take k) := by
  have e : s.getD k 0 = s[k] := by rw [List.getD_eq_getElem?_getD, List.getElem?_eq_getElem h]; rfl
  rw [List.take_succ_eq_append_getElem h, e]
  unfold dvL
  rw [List.filter_append]
  cases hd : isD s[k]
  · simp [hd]
  · simp only [List.filter_cons, hd, if_true, List.filter_nil]
    rw [tv_snoc]
/-- A text that may be: its parts. -/
theorem shape_ok (s : List UInt8) {p : Nat} (h : shL s = (-1, p)) : ∃ a b, Dig 10 a ∧ Dig 10 b ∧ a ≠ [] ∧ p = ahL s + a.length ∧
    ((p = s.length ∧ b = [] ∧ s.drop (ahL s) = a) ∨ (p + 1 < s.length ∧ b ≠ [] ∧ s.drop (ahL s) = a ++ 46 :: b)) := by
  have hl := ahL_le s
  obtain ⟨r, hr⟩ : ∃ r, s.drop (ahL s) = r := ⟨_, rfl⟩
  have hrl : r.length = s.length - ahL s := by rw [← hr, List.length_drop]
  have hbp : bhL s (ahL s) = ahL s + (r.takeWhile isD).length := by unfold bhL; rw [hr]
  have htd0 := take_drop_while isD r
  have htd := congrArg List.length htd0
  rw [List.length_append] at htd
  have hdr : s.drop (bhL s (ahL s)) = r.dropWhile isD := by
    rw [hbp, ← List.drop_drop, hr]
    exact drop_take_while r
  unfold shL at h
  simp only [] at h
  split at h
  · next hh => exfalso; have := congrArg Prod.fst h; simp only [] at this; omega
  · next hh =>
    have ha0 : r.takeWhile isD ≠ [] := fun e => hh (Or.inl (by rw [hbp, e]; rfl))
    split at h
    · next he =>
      have hp : p = bhL s (ahL s) := (congrArg Prod.snd h).symm
      refine ⟨r.takeWhile isD, [], dig_take _, Dig.nil _, ha0, by omega, Or.inl ⟨by omega, rfl, ?_⟩⟩
      have : (r.dropWhile isD).length = 0 := by omega
      rw [List.length_eq_zero_iff.1 this, List.append_nil] at htd0
      exact hr.trans htd0.symm
    · next he =>
      split at h
      · next hh2 => exfalso; have := congrArg Prod.fst h; simp only [] at this; omega
      · next hh2 =>
        have hp : p = bhL s (ahL s) := (congrArg Prod.snd h).symm
        have hle := bhL_le s hl
        have hlt : bhL s (ahL s) < s.length := by omega
        have hg : s.getD (bhL s (ahL s)) 0 = 46 := by
          rcases Decidable.em (s.getD (bhL s (ahL s)) 0 = 46) with h' | h'
          · exact h'
          · exact absurd (Or.inr ⟨hlt, h'⟩) hh
        rw [List.getD_eq_getElem?_getD, List.getElem?_eq_getElem hlt] at hg
        have hdw : r.dropWhile isD = 46 :: s.drop (bhL s (ahL s) + 1) := by
          rw [← hdr, List.drop_eq_getElem_cons hlt]
          exact congrArg (· :: _) hg
        have hle2 := bhL_le s (p := bhL s (ahL s) + 1) (by omega)
        have e2 : bhL s (bhL s (ahL s) + 1) = s.length := by omega
        obtain ⟨t, ht⟩ : ∃ t, s.drop (bhL s (ahL s) + 1) = t := ⟨_, rfl⟩
        have htl : t.length = s.length - (bhL s (ahL s) + 1) := by rw [← ht, List.length_drop]
        have htt0 := take_drop_while isD t
        have htt := congrArg List.length htt0
        rw [List.length_append] at htt
        have hb2 : bhL s (bhL s (ahL s) + 1) = bhL s (ahL s) + 1 + (t.takeWhile isD).length := by
          show _ + ((s.drop _).takeWhile isD).length = _
          rw [ht]
        have ht0 : (t.dropWhile isD).length = 0 := by omega
        rw [List.length_eq_zero_iff.1 ht0, List.append_nil] at htt0
        refine ⟨r.takeWhile isD, t, dig_take _, htt0 ▸ dig_take t, ha0, by omega, Or.inr ⟨by omega, ?_, ?_⟩⟩
        · intro e
          rw [e] at htl
          simp at htl; omega
        · exact hr.trans (htd0.symm.trans (by rw [hdw, ht]))
/-- What the document answers of a text that may be: the digits up to the last that is no nought behind the point. -/
def endL (s : List UInt8) (p e : Nat) : Prop := (p = s.length ∧ e = s.length) ∨ (p + 1 ≤ e ∧ e ≤ s.length ∧ (p + 1 < e → s.getD (e - 1) 0 ≠ 48) ∧ (∀ j, e ≤ j → j < s.length → s.getD j 0 = 48))
theorem all_noughts (l : List UInt8) (h : ∀ j, j < l.length → l.getD j 0 = 48) : l = List.replicate l.length 48 := by
  refine List.eq_replicate_iff.2 ⟨rfl, fun c hc => ?_⟩
  obtain ⟨j, hj, rfl⟩ := List.getElem_of_mem hc
  rw [← getD_at l hj]; exact h j hj
theorem sign_part (s : List UInt8) : s.take (ahL s) ++ s.drop (ahL s) = s ∧ (s.take (ahL s)).filter isD = [] := by
  refine ⟨List.take_append_drop _ _, ?_⟩
  unfold ahL
  cases s with
  | nil => simp
  | cons c s =>
    by_cases h : c = 45
    · subst h; simp; decide
    · simp [h]
theorem take_split (x y : List UInt8) {e : Nat} (h : x.length ≤ e) : (x ++ y).take e = x ++ y.take (e - x.length) := by
  rw [List.take_append, List.take_of_length_le h]
theorem readL_right (s : List UInt8) {p e : Nat} (h : shL s = (-1, p)) (he : endL s p e) :
    readL s = if 9223372036854775808 < dvL (s.take e) ∨ fits (sgn (decide (s.head? = some 45)) (dvL (s.take e))) = false ∨ 9 < e - p - 1 then (0, 0, 0, 5) else (sgn (decide (s.head? = some 45)) (dvL (s.take e)), e - p - 1, 0, 0) := by
  obtain ⟨a, b, ha, hb, ha0, hp, hcase⟩ := shape_ok s h
  have hsp := sign_part s
  obtain ⟨neg, hneg⟩ : ∃ neg, decide (s.head? = some 45) = neg := ⟨_, rfl⟩
  have hl := ahL_le s
  -- the parts that are read
  have key : ∃ n, readL s = ((worthL neg (trimA a) (trimB b)).1, (worthL neg (trimA a) (trimB b)).2.1, 0, (worthL neg (trimA a) (trimB b)).2.2) ∧ b = trimB b ++ List.replicate n 48 ∧ e - p - 1 = (trimB b).length ∧ dvL (s.take e) = tv 10 (a ++ trimB b) := by
    rcases hcase with ⟨h1, rfl, h2⟩ | ⟨h1, hb0, h2⟩
    · refine ⟨0, ?_, rfl, ?_, ?_⟩
      · unfold readL
        have hbd := bare_drop s
        rw [hneg, h2] at hbd
        simp only [hneg, hbd, partsL_whole ha ha0, if_true]
      · rcases he with ⟨_, h3⟩ | ⟨h3, h4, _, _⟩
        · show _ = 0; omega
        · omega
      · have : e = s.length := by rcases he with ⟨_, h3⟩ | ⟨h3, h4, _, _⟩ <;> omega
        rw [this, List.take_length, show trimB [] = [] from rfl, List.append_nil]
        conv => lhs; rw [← hsp.1]
        unfold dvL
        rw [List.filter_append, hsp.2, List.nil_append, h2, dvL_digs ha]
    · have hlen := congrArg List.length h2
      rw [List.length_drop, List.length_append, List.length_cons] at hlen
      rcases he with ⟨h3, _⟩ | ⟨h3, h4, h5, h6⟩
      · omega
      · obtain ⟨j, hj⟩ : ∃ j, e = p + 1 + j := ⟨e - p - 1, by omega⟩
        have hjb : j ≤ b.length := by omega
        have hat : ∀ i, i < b.length → s.getD (p + 1 + i) 0 = b.getD i 0 := by
          intro i hi
          have e1 : (s.drop (ahL s)).getD (a.length + 1 + i) 0 = s.getD (p + 1 + i) 0 := by
            rw [List.getD_eq_getElem?_getD, List.getElem?_drop, ← List.getD_eq_getElem?_getD]; congr 1; omega
          rw [← e1, h2, List.getD_eq_getElem?_getD, List.getElem?_append_right (by omega), show a.length + 1 + i - a.length = i + 1 from by omega, List.getElem?_cons_succ, ← List.getD_eq_getElem?_getD]
        have htb : b.take j = trimB b := by
          have hd : b.drop j = List.replicate (b.drop j).length 48 := all_noughts _ (fun i hi => by
            rw [List.length_drop] at hi
            rw [List.getD_eq_getElem?_getD, List.getElem?_drop, ← List.getD_eq_getElem?_getD, ← hat (j + i) (by omega)]
            have := h6 (p + 1 + (j + i)) (by omega) (by omega)
            exact this)
          have e1 : trimB b = trimB (b.take j) := by
            conv => lhs; rw [← List.take_append_drop j b, hd, trimB_noughts]
          rw [e1]
          symm
          apply trimB_id
          intro hlast
          by_cases j0 : j = 0
          · subst j0; simp at hlast
          · have e3 : (b.take j).getLast? = some (b.getD (j - 1) 0) := by
              rw [List.getLast?_eq_getElem?, List.length_take, Nat.min_eq_left hjb, List.getElem?_take_of_lt (by omega), List.getElem?_eq_getElem (by omega), getD_at b (by omega)]
            rw [e3] at hlast
            have := h5 (by omega)
            rw [show e - 1 = p + 1 + (j - 1) from by omega, hat (j - 1) (by omega)] at this
            exact this (Option.some.inj hlast)
        obtain ⟨n, hn, _⟩ := trimB_spec b
        refine ⟨n, ?_, hn, ?_, ?_⟩
        · unfold readL
          have hbd := bare_drop s
          rw [hneg, h2] at hbd
          simp only [hneg, hbd, partsL_point ha ha0 hb hb0, if_true]
        · rw [← htb, List.length_take]; omega
        · have e4 : s.take e = s.take (ahL s) ++ (a ++ 46 :: b.take j) := by
            have q1 := take_split (s.take (ahL s)) (s.drop (ahL s)) (e := e) (by rw [List.length_take]; omega)
            rw [hsp.1, List.length_take, Nat.min_eq_left hl, h2] at q1
            rw [q1, take_split a _ (by omega), show e - ahL s - a.length = j + 1 from by omega, List.take_succ_cons]
          rw [e4]
          unfold dvL
          rw [List.filter_append, hsp.2, List.nil_append, List.filter_append, dvL_digs ha, List.filter_cons, if_neg (by decide), dvL_digs (htb ▸ trimB_dig hb), htb]
  obtain ⟨n, hrd, hbn, hpl, hdv⟩ := key
  rw [hrd, hpl, hdv, hneg]
  have hta : tv 10 (trimA a ++ trimB b) = tv 10 (a ++ trimB b) := by rw [tv_append, tv_append, tv_trimA]
  unfold worthL
  rw [hta]
  obtain ⟨V, hV⟩ : ∃ V, tv 10 (a ++ trimB b) = V := ⟨_, rfl⟩
  rw [hV]
  have big : (trimA a).length > 19 → 9223372036854775808 < V := by
    intro h19
    rw [← hV, ← hta, tv_append]
    obtain ⟨_, _, hh⟩ := trimA_spec a
    have hd := trimA_dig ha
    match hta2 : trimA a with
    | [] => rw [hta2] at h19; simp at h19
    | c :: t =>
      rw [hta2] at hh hd h19
      have hc0 : wv c ≠ 0 := fun e => hh (by rw [wv_zero e]; rfl)
      rw [tv_cons]
      have h1 : 10 ^ 19 ≤ 10 ^ t.length := Nat.pow_le_pow_right (by omega) (by simp at h19; omega)
      have h2 : 10 ^ t.length ≤ wv c * 10 ^ t.length := Nat.le_mul_of_pos_left _ (by omega)
      have h3 : 1 ≤ 10 ^ (trimB b).length := Nat.one_le_pow _ _ (by omega)
      have h4 := Nat.le_mul_of_pos_right (wv c * 10 ^ t.length + tv 10 t) h3
      have : (9223372036854775808 : Nat) < 10 ^ 19 := by decide
      omega
  have ovf : 9223372036854775808 < V → fits (sgn neg V) = false := by
    intro hv
    unfold fits sgn
    cases neg <;> simp <;> omega
  by_cases g1 : (trimB b).length > 9
  · rw [if_pos (Or.inr (Or.inr g1)), if_pos (Or.inl g1)]
  · by_cases g2 : (trimA a).length > 19
    · rw [if_pos (Or.inl (big g2)), if_pos (Or.inr g2)]
    · rw [if_neg (by omega : ¬ ((trimB b).length > 9 ∨ (trimA a).length > 19))]
      cases hf : fits (sgn neg V)
      · rw [if_pos (Or.inr (Or.inl rfl))]; rfl
      · have hno : ¬ (9223372036854775808 < V ∨ true = false ∨ 9 < (trimB b).length) := by
          rintro (h | h | h)
          · rw [ovf h] at hf; cases hf
          · cases h
          · exact g1 h
        rw [if_neg hno, if_pos rfl]
end Go.Proofs.YtebbblhafjaaiaaGreatDoor
