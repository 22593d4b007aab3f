/-
  The order of two decimals, in numbers: the document's way and the ratios'.
-/
import Derived.Test.YtebbblhafjaaiaaGreatDoorRt4
namespace Go.Proofs.YtebbblhafjaaiaaGreatDoor
open Go.RowKit Go.Shelf
set_option linter.unusedVariables false

theorem cmp3_mul9 {x y k : Int} (h : 0 < k) : cmp3 (x * k) (y * k) = cmp3 x y := by
  rcases Int.lt_trichotomy x y with g | g | g
  · rw [cmp3_lt g, cmp3_lt (Int.mul_lt_mul_of_pos_right g h)]
  · rw [g, cmp3_eq rfl, cmp3_eq rfl]
  · rw [cmp3_gt g, cmp3_gt (Int.mul_lt_mul_of_pos_right g h)]
theorem mk_num9 {a : Int} {D : Nat} (hD : 0 < D) : (mkRat a D).num * D = a * (mkRat a D).den := by
  have h : mkRat a D = mkRat (mkRat a D).num (mkRat a D).den := (Rat.mkRat_self _).symm
  exact ((Rat.mkRat_eq_iff (Nat.ne_of_gt hD) (mkRat a D).den_nz).1 h).symm
theorem qcmp_mk9 {a b : Int} {D E : Nat} (hD : 0 < D) (hE : 0 < E) : qcmp (mkRat a D) (mkRat b E) = cmp3 (a * E) (b * D) := by
  have h1 := @mk_num9 a D hD
  have h2 := @mk_num9 b E hE
  have p1 := (mkRat a D).den_pos
  have p2 := (mkRat b E).den_pos
  unfold qcmp
  generalize (mkRat a D).num = n1 at *
  generalize (mkRat b E).num = n2 at *
  generalize (mkRat a D).den = d1 at *
  generalize (mkRat b E).den = d2 at *
  have c1 : n1 * (d2 : Int) * ((D : Int) * (E : Int)) = a * (E : Int) * ((d1 : Int) * (d2 : Int)) := by
    rw [show n1 * (d2 : Int) * ((D : Int) * (E : Int)) = (n1 * (D : Int)) * ((d2 : Int) * (E : Int)) by grind, h1]; grind
  have c2 : n2 * (d1 : Int) * ((D : Int) * (E : Int)) = b * (D : Int) * ((d1 : Int) * (d2 : Int)) := by
    rw [show n2 * (d1 : Int) * ((D : Int) * (E : Int)) = (n2 * (E : Int)) * ((d1 : Int) * (D : Int)) by grind, h2]; grind
  rw [← cmp3_mul9 (show (0 : Int) < (D : Int) * (E : Int) from Int.mul_pos (by omega) (by omega)), c1, c2, cmp3_mul9 (Int.mul_pos (by omega) (by omega))]
theorem ten_mk9 (U : Int) (P : Nat) : Rat.divInt U (10 ^ P) = mkRat U (10 ^ P) := by
  rw [show ((10 : Int) ^ P) = ((10 ^ P : Nat) : Int) by simp, Rat.divInt_ofNat]
/-- Below 0, 0, above. -/
def side9 (x : Int) : Int := if x < 0 then -1 else if 0 < x then 1 else 0
/-- The document's order of two decimals. -/
def dcw (U : Int) (P : Nat) (V : Int) (Q : Nat) : Int :=
  if side9 U = side9 V then (if U < 0 then -cmp3 ((U.natAbs : Int) * 10 ^ Q) ((V.natAbs : Int) * 10 ^ P) else cmp3 ((U.natAbs : Int) * 10 ^ Q) ((V.natAbs : Int) * 10 ^ P))
  else if side9 U < side9 V then -1 else 1
theorem qcmp_dcw (U V : Int) (P Q : Nat) : qcmp (Rat.divInt U (10 ^ P)) (Rat.divInt V (10 ^ Q)) = dcw U P V Q := by
  have tp : 0 < 10 ^ P := Nat.pow_pos (by decide)
  have tq : 0 < 10 ^ Q := Nat.pow_pos (by decide)
  rw [ten_mk9, ten_mk9, qcmp_mk9 tp tq]
  have ep : ((10 ^ P : Nat) : Int) = 10 ^ P := by simp
  have eq : ((10 ^ Q : Nat) : Int) = 10 ^ Q := by simp
  have ip : (0 : Int) < 10 ^ P := by rw [← ep]; omega
  have iq : (0 : Int) < 10 ^ Q := by rw [← eq]; omega
  rw [ep, eq]
  unfold dcw
  generalize (10 : Int) ^ P = A at *
  generalize (10 : Int) ^ Q = B at *
  clear ep eq tp tq
  rcases Int.lt_trichotomy U 0 with u | u | u <;> rcases Int.lt_trichotomy V 0 with v | v | v
  · have sU : side9 U = -1 := if_pos u
    have sV : side9 V = -1 := if_pos v
    have xU := Int.mul_neg_of_neg_of_pos u iq
    have xV := Int.mul_neg_of_neg_of_pos v ip
    rw [sU, sV]
    rw [if_pos rfl, if_pos u, Int.ofNat_natAbs_of_nonpos (by omega), Int.ofNat_natAbs_of_nonpos (by omega), ← cmp3_turn, Int.neg_mul, Int.neg_mul]
    rcases Int.lt_trichotomy (U * B) (V * A) with x | x | x
    · rw [cmp3_lt x, cmp3_lt (by omega)]
    · rw [cmp3_eq x, cmp3_eq (by omega)]
    · rw [cmp3_gt x, cmp3_gt (by omega)]
  · have sU : side9 U = -1 := if_pos u
    have sV : side9 V = 0 := by subst v; rfl
    have xU := Int.mul_neg_of_neg_of_pos u iq
    have xV : V * A = 0 := by rw [v, Int.zero_mul]
    rw [sU, sV]
    rw [if_neg (by decide), if_pos (by decide), cmp3_lt (by omega)]
  · have sU : side9 U = -1 := if_pos u
    have sV : side9 V = 1 := by unfold side9; rw [if_neg (by omega), if_pos v]
    have xU := Int.mul_neg_of_neg_of_pos u iq
    have xV := Int.mul_pos v ip
    rw [sU, sV]
    rw [if_neg (by decide), if_pos (by decide), cmp3_lt (by omega)]
  · have sU : side9 U = 0 := by subst u; rfl
    have sV : side9 V = -1 := if_pos v
    have xU : U * B = 0 := by rw [u, Int.zero_mul]
    have xV := Int.mul_neg_of_neg_of_pos v ip
    rw [sU, sV]
    rw [if_neg (by decide), if_neg (by decide), cmp3_gt (by omega)]
  · have sU : side9 U = 0 := by subst u; rfl
    have sV : side9 V = 0 := by subst v; rfl
    have xU : U * B = 0 := by rw [u, Int.zero_mul]
    have xV : V * A = 0 := by rw [v, Int.zero_mul]
    rw [sU, sV]
    subst u; subst v
    simp [cmp3]
  · have sU : side9 U = 0 := by subst u; rfl
    have sV : side9 V = 1 := by unfold side9; rw [if_neg (by omega), if_pos v]
    have xU : U * B = 0 := by rw [u, Int.zero_mul]
    have xV := Int.mul_pos v ip
    rw [sU, sV]
    rw [if_neg (by decide), if_pos (by decide), cmp3_lt (by omega)]
  · have sU : side9 U = 1 := by unfold side9; rw [if_neg (by omega), if_pos u]
    have sV : side9 V = -1 := if_pos v
    have xU := Int.mul_pos u iq
    have xV := Int.mul_neg_of_neg_of_pos v ip
    rw [sU, sV]
    rw [if_neg (by decide), if_neg (by decide), cmp3_gt (by omega)]
  · have sU : side9 U = 1 := by unfold side9; rw [if_neg (by omega), if_pos u]
    have sV : side9 V = 0 := by subst v; rfl
    have xU := Int.mul_pos u iq
    have xV : V * A = 0 := by rw [v, Int.zero_mul]
    rw [sU, sV]
    rw [if_neg (by decide), if_neg (by decide), cmp3_gt (by omega)]
  · have sU : side9 U = 1 := by unfold side9; rw [if_neg (by omega), if_pos u]
    have sV : side9 V = 1 := by unfold side9; rw [if_neg (by omega), if_pos v]
    have xU := Int.mul_pos u iq
    have xV := Int.mul_pos v ip
    rw [sU, sV]
    rw [if_pos rfl, if_neg (by omega), Int.natAbs_of_nonneg (by omega), Int.natAbs_of_nonneg (by omega)]
end Go.Proofs.YtebbblhafjaaiaaGreatDoor
