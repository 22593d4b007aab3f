/-
  The text of a decimal, and what it says when it is read. Plain Lean.
-/
import Derived.Test.YtebbblhafjaaiaaGreatDoorDecP
namespace Go.Proofs.YtebbblhafjaaiaaGreatDoor
set_option linter.unusedVariables false
/-- Noughts ahead, so that there is one digit more than places. -/
def padL (P : Nat) (t : List UInt8) : List UInt8 := List.replicate (P + 1 - t.length) 48 ++ t
/-- Digits with a point so many places ahead of the end. -/
def ptL (P : Nat) (t : List UInt8) : List UInt8 := if P = 0 then t else t.take (t.length - P) ++ 46 :: t.drop (t.length - P)
def sgL (neg : Bool) (t : List UInt8) : List UInt8 := if neg then 45 :: t else t
/-- A decimal's text, its digits being t. -/
def textL (neg : Bool) (P : Nat) (t : List UInt8) : List UInt8 := sgL neg (ptL P (padL P t))
theorem padL_len (P : Nat) (t : List UInt8) : (padL P t).length = max (P + 1) t.length := by unfold padL; simp; omega
theorem padL_dig {P : Nat} {t : List UInt8} (h : Dig 10 t) : Dig 10 (padL P t) := (dig_noughts (by omega) _).append h
theorem padL_tv (P : Nat) (t : List UInt8) : tv 10 (padL P t) = tv 10 t := tv_ahead _ _ _
theorem sgn_abs (U : Int) : sgn (decide (U < 0)) U.natAbs = U := by unfold sgn; by_cases h : U < 0 <;> simp [h] <;> omega
theorem fits_of {U : Int} (h1 : -9223372036854775808 ≤ U) (h2 : U ≤ 9223372036854775807) : fits U = true := by simp [fits, h1, h2]
theorem last_dig {t : List UInt8} (h : Dig 10 t) (h0 : t ≠ []) (hm : tv 10 t % 10 ≠ 0) : t.getLast? ≠ some 48 := by
  intro e
  obtain ⟨s, rfl⟩ : ∃ s, t = s ++ [48] := List.getLast?_eq_some_iff.1 e
  rw [tv_snoc, wv_nought] at hm
  omega
theorem head_dig_sign {a : List UInt8} (h : Dig 10 a) (h0 : a ≠ []) (r : List UInt8) : (a ++ r).head? ≠ some 45 := by
  match a, h0 with
  | c :: a, _ =>
    intro e
    have : c = 45 := by simpa using e
    subst this
    exact absurd h.cons.1 (by decide)
theorem readL_signed (neg : Bool) {bare : List UInt8} (hh : bare.head? ≠ some 45) {a b : List UInt8} {n : Nat} (hp : partsL bare = (a, b, n, true)) :
    readL (sgL neg bare) = ((worthL neg (trimA a) (trimB b)).1, (worthL neg (trimA a) (trimB b)).2.1, 0, (worthL neg (trimA a) (trimB b)).2.2) := by
  cases neg
  · have h1 : decide (bare.head? = some 45) = false := by simpa using hh
    simp only [readL, sgL, Bool.false_eq_true, if_false, h1, hp, if_true]
  · have h1 : decide ((45 :: bare).head? = some (45 : UInt8)) = true := by simp
    simp only [readL, sgL, if_true, h1, List.drop_succ_cons, List.drop_zero, hp]
/-- A decimal's text, with noughts ahead of its digits and at the end of its places, says that decimal. -/
theorem back_read {U : Int} {P : Nat} {t : List UInt8} (h1 : -9223372036854775808 ≤ U) (h2 : U ≤ 9223372036854775807) (hP : P ≤ 9) (hc : 0 < P → U.natAbs % 10 ≠ 0) (ht : Tx 10 t U.natAbs) (k j : Nat) :
    readL (sgL (decide (U < 0)) (List.replicate k 48 ++ ptL P (padL P t) ++ (if P = 0 then [] else List.replicate j 48))) = (U, P, 0, 0) := by
  have hlen : t.length ≤ 19 := ht.le (by omega) (k := 19) (by have : U.natAbs ≤ 9223372036854775808 := by omega
                                                              exact Nat.lt_of_le_of_lt this (by decide)) (by omega)
  have hpos := ht.pos
  have hp : Dig 10 (padL P t) := padL_dig ht.dig
  have hl := padL_len P t
  have hv : tv 10 (padL P t) = U.natAbs := (padL_tv P t).trans ht.val
  generalize padL P t = p at hp hl hv ⊢
  by_cases h0 : P = 0
  · subst h0
    have hpl : p.length = t.length := by omega
    have hp0 : p ≠ [] := List.length_pos_iff.1 (by omega)
    have ha : Dig 10 (List.replicate k 48 ++ p) := (dig_noughts (by omega) _).append hp
    have ha0 : List.replicate k 48 ++ p ≠ [] := by simp [hp0]
    have e1 : ptL 0 p = p := rfl
    rw [e1, if_pos rfl, List.append_nil]
    have hh := head_dig_sign ha ha0 []
    rw [List.append_nil] at hh
    rw [readL_signed _ hh (partsL_whole ha ha0), trimA_noughts]
    have eb : trimB [] = [] := rfl
    have el := trimA_len p
    have ew : worthL (decide (U < 0)) (trimA p) [] = (U, 0, 0) := by
      unfold worthL
      rw [if_neg (by simp; omega), List.append_nil, tv_trimA, hv, sgn_abs, if_pos (fits_of h1 h2)]; rfl
    rw [eb, ew]
  · have hA : Dig 10 (p.take (p.length - P)) := fun c hc => hp c (List.mem_of_mem_take hc)
    have hB : Dig 10 (p.drop (p.length - P)) := fun c hc => hp c (List.mem_of_mem_drop hc)
    have lA : (p.take (p.length - P)).length = p.length - P := by simp
    have lB : (p.drop (p.length - P)).length = P := by simp; omega
    have hAB : p.take (p.length - P) ++ p.drop (p.length - P) = p := List.take_append_drop _ _
    have eP : ptL P p = p.take (p.length - P) ++ 46 :: p.drop (p.length - P) := by unfold ptL; rw [if_neg h0]
    rw [eP, if_neg h0]
    have hlast : (p.drop (p.length - P)).getLast? ≠ some 48 := by
      have hm : tv 10 p % 10 ≠ 0 := by rw [hv]; exact hc (by omega)
      have hne : p.drop (p.length - P) ≠ [] := List.length_pos_iff.1 (by omega)
      have := last_dig hp (List.length_pos_iff.1 (by omega)) hm
      rw [← hAB, List.getLast?_append] at this
      obtain ⟨x, hx⟩ : ∃ x, (p.drop (p.length - P)).getLast? = some x := ⟨_, List.getLast?_eq_some_getLast hne⟩
      rw [hx] at this ⊢
      simpa using this
    rw [← hAB, tv_append, lB] at hv
    generalize p.take (p.length - P) = A at hA lA hv ⊢
    generalize p.drop (p.length - P) = B at hB lB hv hlast ⊢
    have ha : Dig 10 (List.replicate k 48 ++ A) := (dig_noughts (by omega) _).append hA
    have ha0 : List.replicate k 48 ++ A ≠ [] := List.length_pos_iff.1 (by simp; omega)
    have hb : Dig 10 (B ++ List.replicate j 48) := hB.append (dig_noughts (by omega) _)
    have hb0 : B ++ List.replicate j 48 ≠ [] := List.length_pos_iff.1 (by simp; omega)
    have e2 : List.replicate k 48 ++ (A ++ 46 :: B) ++ List.replicate j 48 = (List.replicate k 48 ++ A) ++ 46 :: (B ++ List.replicate j 48) := by simp
    rw [e2, readL_signed _ (head_dig_sign ha ha0 _) (partsL_point ha ha0 hb hb0), trimA_noughts, trimB_noughts, trimB_id hlast]
    have el := trimA_len A
    have ew : worthL (decide (U < 0)) (trimA A) B = (U, P, 0) := by
      unfold worthL
      rw [if_neg (by simp; omega), tv_append, tv_trimA, lB, hv, sgn_abs, if_pos (fits_of h1 h2)]
    rw [ew]
end Go.Proofs.YtebbblhafjaaiaaGreatDoor
