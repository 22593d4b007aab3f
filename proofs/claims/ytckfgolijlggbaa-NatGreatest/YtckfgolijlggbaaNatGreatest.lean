/-
  NatGreatest of the document, for every three lists: the greatest number that divides both does, each number that divides both divides it, and what both are multiplied with it is multiplied with. No conditions.
-/
import Derived.Test.YtckfgolijlggbaaAwake2
import Derived.Test.YtckfgolijlggbaaLater
import Derived.Test.YtckfgolijlggbaaRows
import Derived.ProofKit
import Derived.OpenShut
import Derived.ShutString
import Derived.ChangeOld
import Derived.SizedLaws
namespace Go.Proofs.Ytckfgolijlggbaa
open Go.RowKit Go.Shelf

theorem long_no (a b : Option Addr) (la ca lb cb : Nat) (xs ys : List Int) (w : World) (ha : Sl w a la xs) (hb : Sl w b lb ys) (h1 : la ≤ 40000000000000) (h2 : lb ≤ 40000000000000) (u1 : usedN xs ≤ 4096) (u2 : usedN ys ≤ 4096) :
    Calls Try.prog 7 #[.slice a la ca, .slice b lb cb] w fun e w' => e = .returned (.bool false) ∧ Below w.heap.size w w' := by
  have A := rlong_any a la ca xs w ha h1
  have B := rlong_any b lb cb ys w hb h2
  have e1 : decide ((4096 : Int) < usedN xs) = false := by simp; omega
  have e2 : decide ((4096 : Int) < usedN ys) = false := by simp; omega
  rw [e1] at A
  rw [e2] at B
  clear e1 e2
  go_enter Try.func7, Try.ntmps7
  go_wp2_with fail
  refine A.mono ?_
  rintro e w1 ⟨rfl, rfl⟩
  go_wp2_with fail
  refine B.mono ?_
  rintro e w1 ⟨rfl, rfl⟩
  go_wp2_with fail
  go_ret
  exact ⟨rfl, Below.refl _ _⟩
theorem long_yes (a b : Option Addr) (la ca lb cb : Nat) (xs ys : List Int) (w : World) (ha : Sl w a la xs) (hb : Sl w b lb ys) (h1 : la ≤ 40000000000000) (h2 : lb ≤ 40000000000000) (u : 4096 < usedN xs ∨ 4096 < usedN ys) :
    Calls Try.prog 7 #[.slice a la ca, .slice b lb cb] w fun e w' => e = .returned (.bool true) ∧ Below w.heap.size w w' := by
  have A := rlong_any a la ca xs w ha h1
  have B := rlong_any b lb cb ys w hb h2
  by_cases u1 : 4096 < usedN xs
  · have e1 : decide ((4096 : Int) < usedN xs) = true := by simp; omega
    rw [e1] at A
    clear e1
    go_enter Try.func7, Try.ntmps7
    go_wp2_with fail
    refine A.mono ?_
    rintro e w1 ⟨rfl, rfl⟩
    go_wp2_with fail
    go_ret
    exact ⟨rfl, Below.refl _ _⟩
  · have e1 : decide ((4096 : Int) < usedN xs) = false := by simp; omega
    have e2 : decide ((4096 : Int) < usedN ys) = true := by simp; omega
    rw [e1] at A
    rw [e2] at B
    clear e1 e2
    go_enter Try.func7, Try.ntmps7
    go_wp2_with fail
    refine A.mono ?_
    rintro e w1 ⟨rfl, rfl⟩
    go_wp2_with fail
    refine B.mono ?_
    rintro e w1 ⟨rfl, rfl⟩
    go_wp2_with fail
    go_ret
    exact ⟨rfl, Below.refl _ _⟩
end Go.Proofs.Ytckfgolijlggbaa
namespace Go.Proofs.Ytckfgolijlggbaa
open Go.RowKit Go.Shelf

theorem fits_mul {x y : Int} {i j : Nat} (x0 : 0 ≤ x) (hx : x < pw i) (hy : y < pw j) : x * y < pw (i + j) := by
  rw [pw_add]
  have h1 : x * y ≤ x * pw j := Int.mul_le_mul_of_nonneg_left (by omega) x0
  have h2 : x * pw j < pw i * pw j := Int.mul_lt_mul_of_pos_right hx (pw_pos j)
  omega
theorem fits_add {x y : Int} {i : Nat} (hx : x < pw i) (hy : y < pw i) : x + y < pw (i + 1) := by
  have := pw_pos i
  show _ < 18446744073709551616 * pw i
  omega
theorem fits_to {x : Int} {i j : Nat} (hx : x < pw i) (h : i ≤ j) : x < pw j := Int.lt_of_lt_of_le hx (pw_mono h)
theorem fits_len {w : World} {a : Option Addr} {len n : Nat} {zs : List Int} (s : Sl w a len zs) (h : len ≤ n) : num zs < pw n := by
  have := num_lt s.2.1
  rw [s.1] at this
  exact fits_to this h
theorem rlong_no (a : Option Addr) (len cap : Nat) (zs : List Int) (w : World) (h : Sl w a len zs) (hl : len ≤ 40000000000000) (hu : usedN zs ≤ 4096) :
    Calls Try.prog 8 #[.slice a len cap] w fun e w' => e = .returned (.bool false) ∧ Below w.heap.size w w' := by
  have e1 : decide ((4096 : Int) < usedN zs) = false := by simp; omega
  refine (rlong_any a len cap zs w h hl).mono ?_
  rintro e w' ⟨rfl, rfl⟩
  rw [e1]
  exact ⟨rfl, Below.refl _ _⟩
theorem rlong_yes (a : Option Addr) (len cap : Nat) (zs : List Int) (w : World) (h : Sl w a len zs) (hl : len ≤ 40000000000000) (hu : 4096 < usedN zs) :
    Calls Try.prog 8 #[.slice a len cap] w fun e w' => e = .returned (.bool true) ∧ Below w.heap.size w w' := by
  have e1 : decide ((4096 : Int) < usedN zs) = true := by simp; omega
  refine (rlong_any a len cap zs w h hl).mono ?_
  rintro e w' ⟨rfl, rfl⟩
  rw [e1]
  exact ⟨rfl, Below.refl _ _⟩
end Go.Proofs.Ytckfgolijlggbaa
namespace Go.Proofs.Ytckfgolijlggbaa
open Go.RowKit Go.Shelf

theorem later_ok (M : Int) : LaterOk M := fun a la ca xs b lb cb ys W ha hb hle _ hl => later_cut a la ca xs b lb cb ys W ha hb hle hl
theorem ngcd_any (a b : Option Addr) (la ca lb cb : Nat) (xs ys : List Int) (w : World) (ha : Nt w a la ca xs) (hb : Nt w b lb cb ys) :
    Calls Try.prog 10 #[.agg #[.slice a la ca], .agg #[.slice b lb cb]] w fun e w' => ∃ a' l' c' zs, e = .returned (.agg #[.slice a' l' c']) ∧ Nt w' a' l' c' zs ∧ num zs = (Int.gcd (num xs) (num ys) : Nat) ∧ Below w.heap.size w w' :=
  ngcd_of (max (num xs) (num ys)) (later_ok _) a b la ca lb cb xs ys w ha hb (by omega) (by omega)

/-- Does a number divide another? -/
def dvB (x y : Int) : Bool := decide (x ∣ y)
theorem dvB_zero (y : Int) : dvB 0 y = decide (y = 0) := by
  unfold dvB; rw [Bool.eq_iff_iff]; simp
theorem dvB_of {x y q r : Int} (h : y = q * x + r) (h0 : 0 ≤ r) (h1 : r < x) : dvB x y = decide (r = 0) := by
  unfold dvB; rw [Bool.eq_iff_iff]; simp only [decide_eq_true_eq]
  constructor
  · intro hd
    have e : y % x = r := by
      rw [h, Int.add_comm, Int.add_mul_emod_self_right]
      exact Int.emod_eq_of_lt h0 h1
    rw [← e]; exact Int.emod_eq_zero_of_dvd hd
  · intro e; rw [e, Int.add_zero] at h; rw [h]; exact Int.dvd_mul_left q x

theorem divides_any (a b : Option Addr) (la ca lb cb : Nat) (xs ys : List Int) (w : World) (ha : Nt w a la ca xs) (hb : Nt w b lb cb ys) :
    Calls Try.prog 11 #[.agg #[.slice a la ca], .agg #[.slice b lb cb]] w fun e w' => e = .returned (.bool (dvB (num xs) (num ys))) ∧ Below w.heap.size w w' := by
  have B0 : Below w.heap.size w w := Below.refl _ _
  by_cases h0 : num xs = 0
  · have HV0 : Hid (dvB (num xs) (num ys) = decide (num ys = 0)) := by rw [h0]; exact dvB_zero _
    have gz : ((la : Int) == 0) = true := by rw [ha.zero]; simpa using h0
    have HZ : Hid (((lb : Int) == 0) = decide (num ys = 0)) := hb.zero
    rw [HV0.out]
    clear HV0 h0
    go_enter Try.func11, Try.ntmps11
    go_wp2_with fail
    refine ent2 w _ _ _ _ (Q := fun W => Calls Try.prog _ _ W _) ?_
    intro x1 hb1 hs V0 V1
    replace B0 := step B0 hb1
    refine (isZero_any a la ca x1).mono ?_
    rintro e x2 ⟨rfl, hb2⟩
    replace B0 := step B0 hb2
    replace V1 := Va.after hb2 V1
    rw [gz]
    have c1 := V1.cell
    clear hb1 hb2 hs
    go_wp2_with fail
    refine (isZero_any b lb cb x2).mono ?_
    rintro e x3 ⟨rfl, hb3⟩
    rw [HZ.out]
    go_wp2_with fail
    go_ret
    exact ⟨rfl, step B0 hb3⟩
  · have gz : ((la : Int) == 0) = false := by rw [ha.zero]; simpa using h0
    go_enter Try.func11, Try.ntmps11
    go_wp2_with fail
    refine ent2 w _ _ _ _ (Q := fun W => Calls Try.prog _ _ W _) ?_
    intro x1 hb1 hs V0 V1
    replace B0 := step B0 hb1
    replace ha := Nt.after hb1 ha
    replace hb := Nt.after hb1 hb
    refine (isZero_any a la ca x1).mono ?_
    rintro e x2 ⟨rfl, hb2⟩
    replace B0 := step B0 hb2
    replace V0 := Va.after hb2 V0
    replace V1 := Va.after hb2 V1
    replace ha := Nt.after hb2 ha
    replace hb := Nt.after hb2 hb
    rw [gz]
    have c0 := V0.cell
    have c1 := V1.cell
    clear hb1 hb2 hs
    go_wp2_with fail
    refine (ndiv_ok b a lb cb la ca ys xs x2 hb ha h0).mono ?_
    rintro e x3 ⟨aq, lq, kq, ar, lr, kr, zq, zr, rfl, hq, hr, e1, e2, hb3⟩
    have HD : Hid (dvB (num xs) (num ys) = decide (num zr = 0)) := dvB_of e1 hr.nonneg e2
    have HZ : Hid (((lr : Int) == 0) = decide (num zr = 0)) := hr.zero
    replace B0 := step B0 hb3
    clear hb3 V0 V1 c0 c1 e1 e2 ha hb hq
    go_wp2_with fail
    refine ent2 x3 _ _ _ _ (Q := fun W => Calls Try.prog _ _ W _) ?_
    intro x4 hb4 hs4 V2 V3
    replace B0 := step B0 hb4
    refine (isZero_any ar lr kr x4).mono ?_
    rintro e x5 ⟨rfl, hb5⟩
    rw [HZ.out]
    go_wp2_with fail
    go_ret
    exact ⟨by rw [HD.out]; rfl, step B0 hb5⟩

/-- Four variables that hold numbers. -/
def Q4 (w : World) (b1 b2 b3 b4 : Nat) (a1 a2 a3 a4 : Option Addr) (l1 l2 l3 l4 c1 c2 c3 c4 : Nat) (z1 z2 z3 z4 : List Int) (W : World) : Prop :=
  HV w b1 a1 l1 c1 z1 W ∧ HV w b2 a2 l2 c2 z2 W ∧ HV w b3 a3 l3 c3 z3 W ∧ HV w b4 a4 l4 c4 z4 W
section
variable {w : World} {b1 b2 b3 b4 : Nat} {a1 a2 a3 a4 : Option Addr} {l1 l2 l3 l4 c1 c2 c3 c4 : Nat} {z1 z2 z3 z4 : List Int} {W W' : World}
theorem HV.aft (hb : Below W.heap.size W W') (h : HV w b1 a1 l1 c1 z1 W) : HV w b1 a1 l1 c1 z1 W' := ⟨Va.after hb h.1, Nt.after hb h.2.1, step h.2.2 hb⟩
theorem HV.drw' (h : HV w b1 a1 l1 c1 z1 W) : HV w b1 a1 l1 c1 z1 W.drew := ⟨h.1, h.2.1, h.2.2.drew⟩
theorem Q4.s (h : Q4 w b1 b2 b3 b4 a1 a2 a3 a4 l1 l2 l3 l4 c1 c2 c3 c4 z1 z2 z3 z4 W) :
    W.cell? ⟨b1, 0, none⟩ = some (.slice a1 l1 c1) ∧ W.cell? ⟨b2, 0, none⟩ = some (.slice a2 l2 c2) ∧ W.cell? ⟨b3, 0, none⟩ = some (.slice a3 l3 c3) ∧ W.cell? ⟨b4, 0, none⟩ = some (.slice a4 l4 c4) :=
  ⟨h.1.1.cell, h.2.1.1.cell, h.2.2.1.1.cell, h.2.2.2.1.cell⟩
theorem Q4.after (hb : Below W.heap.size W W') (h : Q4 w b1 b2 b3 b4 a1 a2 a3 a4 l1 l2 l3 l4 c1 c2 c3 c4 z1 z2 z3 z4 W) : Q4 w b1 b2 b3 b4 a1 a2 a3 a4 l1 l2 l3 l4 c1 c2 c3 c4 z1 z2 z3 z4 W' :=
  ⟨h.1.aft hb, h.2.1.aft hb, h.2.2.1.aft hb, h.2.2.2.aft hb⟩
theorem Q4.drw (h : Q4 w b1 b2 b3 b4 a1 a2 a3 a4 l1 l2 l3 l4 c1 c2 c3 c4 z1 z2 z3 z4 W) : Q4 w b1 b2 b3 b4 a1 a2 a3 a4 l1 l2 l3 l4 c1 c2 c3 c4 z1 z2 z3 z4 W.drew :=
  ⟨h.1.drw', h.2.1.drw', h.2.2.1.drw', h.2.2.2.drw'⟩
end
end Go.Proofs.Ytckfgolijlggbaa
namespace Go.Proofs.Ytckfgolijlggbaa.natGreatest
open Go.RowKit Go.Shelf
set_option linter.unusedVariables false
theorem fit3 {x y : Int} {l m : Nat} (x0 : 0 ≤ x) (hx : x < pw l) (hy : y < pw m) (h : l + m ≤ 4096) : x * y < pw 4096 := fits_to (fits_mul x0 hx hy) h
theorem gcd_lt {x y : Int} {l m : Nat} (x0 : 0 ≤ x) (y0 : 0 ≤ y) (hx : x < pw l) (hy : y < pw m) : ((Int.gcd x y : Nat) : Int) < pw (l + m) := by
  have h1 := pw_mono (show l ≤ l + m by omega)
  have h2 := pw_mono (show m ≤ l + m by omega)
  by_cases h : x = 0
  · subst h
    rw [Int.gcd_zero_left]; omega
  · have h3 := Int.le_of_dvd (show 0 < x by omega) (Int.gcd_dvd_left x y)
    omega
theorem gcd_times {x y z : Int} (z0 : 0 ≤ z) : ((Int.gcd (x * z) (y * z) : Nat) : Int) = (Int.gcd x y : Nat) * z := by
  rw [Int.gcd_mul_right, Int.natCast_mul]
  congr 1; omega
theorem dvB_gcd_l (x y : Int) : dvB (Int.gcd x y : Nat) x = true := by unfold dvB; exact decide_eq_true (Int.gcd_dvd_left x y)
theorem dvB_gcd_r (x y : Int) : dvB (Int.gcd x y : Nat) y = true := by unfold dvB; exact decide_eq_true (Int.gcd_dvd_right x y)
theorem dvB_both {x y z : Int} (h1 : dvB z x = true) (h2 : dvB z y = true) : dvB z (Int.gcd x y : Nat) = true := by
  unfold dvB at *; exact decide_eq_true (Int.dvd_coe_gcd (of_decide_eq_true h1) (of_decide_eq_true h2))

set_option maxRecDepth 20000 in
set_option maxHeartbeats 8000000 in
theorem walk_a (a0 : Option Addr) (len0 cap0 : Nat) (z0 : List Int) (a1 : Option Addr) (len1 cap1 : Nat) (z1 : List Int) (a2 : Option Addr) (len2 cap2 : Nat) (z2 : List Int) (w : World) (s0 : Sl w a0 len0 z0) (c0 : len0 ≤ cap0) (r0 : cap0 ≤ 17592186043904) (s1 : Sl w a1 len1 z1) (c1 : len1 ≤ cap1) (r1 : cap1 ≤ 17592186043904) (s2 : Sl w a2 len2 z2) (c2 : len2 ≤ cap2) (r2 : cap2 ≤ 17592186043904) (hu : 4096 < usedN z0 ∨ 4096 < usedN z1) :
    Calls Try.prog 3 #[.slice a0 len0 cap0, .slice a1 len1 cap1, .slice a2 len2 cap2] w fun e w' => e = .returned (.bool true) ∧ Below w.heap.size w w' := by
  have B0 : Below w.heap.size w w := Below.refl _ _
  go_enter Try.func3, Try.ntmps3
  go_wp2_with fail
  refine (nawake_any w).mono ?_
  rintro e x1 ⟨rfl, hb⟩
  replace s0 := s0.below hb (Nat.le_refl _)
  replace s1 := s1.below hb (Nat.le_refl _)
  replace s2 := s2.below hb (Nat.le_refl _)
  replace B0 := step B0 hb
  clear hb
  go_wp2_with fail
  refine (long_yes a0 a1 len0 cap0 len1 cap1 z0 z1 x1 s0 s1 (by omega) (by omega) hu).mono ?_
  rintro e x2 ⟨rfl, hb⟩
  replace s0 := s0.below hb (Nat.le_refl _)
  replace s1 := s1.below hb (Nat.le_refl _)
  replace s2 := s2.below hb (Nat.le_refl _)
  replace B0 := step B0 hb
  clear hb
  go_wp2_with fail
  go_ret
  exact ⟨rfl, B0⟩

set_option maxRecDepth 20000 in
set_option maxHeartbeats 8000000 in
theorem walk_b (a0 : Option Addr) (len0 cap0 : Nat) (z0 : List Int) (a1 : Option Addr) (len1 cap1 : Nat) (z1 : List Int) (a2 : Option Addr) (len2 cap2 : Nat) (z2 : List Int) (w : World) (s0 : Sl w a0 len0 z0) (c0 : len0 ≤ cap0) (r0 : cap0 ≤ 17592186043904) (s1 : Sl w a1 len1 z1) (c1 : len1 ≤ cap1) (r1 : cap1 ≤ 17592186043904) (s2 : Sl w a2 len2 z2) (c2 : len2 ≤ cap2) (r2 : cap2 ≤ 17592186043904) (u0 : usedN z0 ≤ 4096) (u1 : usedN z1 ≤ 4096) (u2 : 4096 < usedN z2) :
    Calls Try.prog 3 #[.slice a0 len0 cap0, .slice a1 len1 cap1, .slice a2 len2 cap2] w fun e w' => e = .returned (.bool true) ∧ Below w.heap.size w w' := by
  have B0 : Below w.heap.size w w := Below.refl _ _
  go_enter Try.func3, Try.ntmps3
  go_wp2_with fail
  refine (nawake_any w).mono ?_
  rintro e x1 ⟨rfl, hb⟩
  replace s0 := s0.below hb (Nat.le_refl _)
  replace s1 := s1.below hb (Nat.le_refl _)
  replace s2 := s2.below hb (Nat.le_refl _)
  replace B0 := step B0 hb
  clear hb
  go_wp2_with fail
  refine (long_no a0 a1 len0 cap0 len1 cap1 z0 z1 x1 s0 s1 (by omega) (by omega) u0 u1).mono ?_
  rintro e x2 ⟨rfl, hb⟩
  replace s0 := s0.below hb (Nat.le_refl _)
  replace s1 := s1.below hb (Nat.le_refl _)
  replace s2 := s2.below hb (Nat.le_refl _)
  replace B0 := step B0 hb
  clear hb
  go_wp2_with fail
  refine (rlong_yes a2 len2 cap2 z2 x2 s2 (by omega) u2).mono ?_
  rintro e x3 ⟨rfl, hb⟩
  replace s0 := s0.below hb (Nat.le_refl _)
  replace s1 := s1.below hb (Nat.le_refl _)
  replace s2 := s2.below hb (Nat.le_refl _)
  replace B0 := step B0 hb
  clear hb
  go_wp2_with fail
  go_ret
  exact ⟨rfl, B0⟩

set_option maxRecDepth 20000 in
set_option maxHeartbeats 8000000 in
theorem walk_c (a0 : Option Addr) (len0 cap0 : Nat) (z0 : List Int) (a1 : Option Addr) (len1 cap1 : Nat) (z1 : List Int) (a2 : Option Addr) (len2 cap2 : Nat) (z2 : List Int) (w : World) (s0 : Sl w a0 len0 z0) (c0 : len0 ≤ cap0) (r0 : cap0 ≤ 17592186043904) (s1 : Sl w a1 len1 z1) (c1 : len1 ≤ cap1) (r1 : cap1 ≤ 17592186043904) (s2 : Sl w a2 len2 z2) (c2 : len2 ≤ cap2) (r2 : cap2 ≤ 17592186043904) (u0 : usedN z0 ≤ 4096) (u1 : usedN z1 ≤ 4096) (u2 : usedN z2 ≤ 4096) (hl : 1000 < len0 + len1 + len2) :
    Calls Try.prog 3 #[.slice a0 len0 cap0, .slice a1 len1 cap1, .slice a2 len2 cap2] w fun e w' => e = .returned (.bool true) ∧ Below w.heap.size w w' := by
  have B0 : Below w.heap.size w w := Below.refl _ _
  go_enter Try.func3, Try.ntmps3
  go_wp2_with fail
  refine (nawake_any w).mono ?_
  rintro e x1 ⟨rfl, hb⟩
  replace s0 := s0.below hb (Nat.le_refl _)
  replace s1 := s1.below hb (Nat.le_refl _)
  replace s2 := s2.below hb (Nat.le_refl _)
  replace B0 := step B0 hb
  clear hb
  go_wp2_with fail
  refine (long_no a0 a1 len0 cap0 len1 cap1 z0 z1 x1 s0 s1 (by omega) (by omega) u0 u1).mono ?_
  rintro e x2 ⟨rfl, hb⟩
  replace s0 := s0.below hb (Nat.le_refl _)
  replace s1 := s1.below hb (Nat.le_refl _)
  replace s2 := s2.below hb (Nat.le_refl _)
  replace B0 := step B0 hb
  clear hb
  go_wp2_with fail
  refine (rlong_no a2 len2 cap2 z2 x2 s2 (by omega) u2).mono ?_
  rintro e x3 ⟨rfl, hb⟩
  replace s0 := s0.below hb (Nat.le_refl _)
  replace s1 := s1.below hb (Nat.le_refl _)
  replace s2 := s2.below hb (Nat.le_refl _)
  replace B0 := step B0 hb
  clear hb
  go_wp2_with fail
  go_ret
  exact ⟨rfl, B0⟩

set_option maxRecDepth 20000 in
set_option maxHeartbeats 8000000 in
theorem walk_f (a0 : Option Addr) (len0 cap0 : Nat) (z0 : List Int) (a1 : Option Addr) (len1 cap1 : Nat) (z1 : List Int) (a2 : Option Addr) (len2 cap2 : Nat) (z2 : List Int) (w : World) (s0 : Sl w a0 len0 z0) (c0 : len0 ≤ cap0) (r0 : cap0 ≤ 17592186043904) (e0 : a0 = none → len0 = 0 ∧ cap0 = 0) (s1 : Sl w a1 len1 z1) (c1 : len1 ≤ cap1) (r1 : cap1 ≤ 17592186043904) (e1 : a1 = none → len1 = 0 ∧ cap1 = 0) (s2 : Sl w a2 len2 z2) (c2 : len2 ≤ cap2) (r2 : cap2 ≤ 17592186043904) (e2 : a2 = none → len2 = 0 ∧ cap2 = 0) (u0 : usedN z0 ≤ 4096) (u1 : usedN z1 ≤ 4096) (u2 : usedN z2 ≤ 4096) (hl : len0 + len1 + len2 ≤ 1000) (hd1 : dvB (num z2) (num z0) = false) (hd2 : 0 = num z1 - num z1 + num z2 - num z2) :
    Calls Try.prog 3 #[.slice a0 len0 cap0, .slice a1 len1 cap1, .slice a2 len2 cap2] w fun e w' => e = .returned (.bool true) ∧ Below w.heap.size w w' := by
  have B0 : Below w.heap.size w w := Below.refl _ _
  go_enter Try.func3, Try.ntmps3
  go_wp2_with fail
  refine (nawake_any w).mono ?_
  rintro e x1 ⟨rfl, hb⟩
  replace s0 := s0.below hb (Nat.le_refl _)
  replace s1 := s1.below hb (Nat.le_refl _)
  replace s2 := s2.below hb (Nat.le_refl _)
  replace B0 := step B0 hb
  clear hb
  go_wp2_with fail
  refine (long_no a0 a1 len0 cap0 len1 cap1 z0 z1 x1 s0 s1 (by omega) (by omega) u0 u1).mono ?_
  rintro e x2 ⟨rfl, hb⟩
  replace s0 := s0.below hb (Nat.le_refl _)
  replace s1 := s1.below hb (Nat.le_refl _)
  replace s2 := s2.below hb (Nat.le_refl _)
  replace B0 := step B0 hb
  clear hb
  go_wp2_with fail
  refine (rlong_no a2 len2 cap2 z2 x2 s2 (by omega) u2).mono ?_
  rintro e x3 ⟨rfl, hb⟩
  replace s0 := s0.below hb (Nat.le_refl _)
  replace s1 := s1.below hb (Nat.le_refl _)
  replace s2 := s2.below hb (Nat.le_refl _)
  replace B0 := step B0 hb
  clear hb
  go_wp2_with fail
  refine (oflaw_ok a0 len0 cap0 z0 x3 s0 e0 (by omega) c0 u0).mono ?_
  rintro e x4 ⟨ax, lx, kx, zx, rfl, hx, nx, hb⟩
  replace s0 := s0.below hb (Nat.le_refl _)
  replace s1 := s1.below hb (Nat.le_refl _)
  replace s2 := s2.below hb (Nat.le_refl _)
  replace B0 := step B0 hb
  clear hb
  go_wp2_with fail
  refine ent1 x4 _ _ (Q := fun W => Calls Try.prog _ _ W _) ?_
  intro x5 hb hs_x5 Vx
  replace hx := Nt.after hb hx
  replace s0 := s0.below hb (Nat.le_refl _)
  replace s1 := s1.below hb (Nat.le_refl _)
  replace s2 := s2.below hb (Nat.le_refl _)
  replace B0 := step B0 hb
  clear hb hs_x5
  refine (oflaw_ok a1 len1 cap1 z1 x5 s1 e1 (by omega) c1 u1).mono ?_
  rintro e x6 ⟨ay, ly, ky, zy, rfl, hy, ny, hb⟩
  replace Vx := Va.after hb Vx
  replace hx := Nt.after hb hx
  replace s0 := s0.below hb (Nat.le_refl _)
  replace s1 := s1.below hb (Nat.le_refl _)
  replace s2 := s2.below hb (Nat.le_refl _)
  replace B0 := step B0 hb
  clear hb
  have c_Vx := Vx.cell
  have f_Vx := Vx.frozen 0
  have l_Vx := Vx.lt
  have m_Vx := Nat.le_of_lt l_Vx
  go_wp2_with fail
  refine ent1 x6 _ _ (Q := fun W => Calls Try.prog _ _ W _) ?_
  intro x7 hb hs_x7 Vy
  replace Vx := Va.after hb Vx
  replace hx := Nt.after hb hx
  replace hy := Nt.after hb hy
  replace s0 := s0.below hb (Nat.le_refl _)
  replace s1 := s1.below hb (Nat.le_refl _)
  replace s2 := s2.below hb (Nat.le_refl _)
  replace B0 := step B0 hb
  clear hb hs_x7
  refine (oflaw_ok a2 len2 cap2 z2 x7 s2 e2 (by omega) c2 u2).mono ?_
  rintro e x8 ⟨az, lz, kz, zz, rfl, hz, nz, hb⟩
  replace Vx := Va.after hb Vx
  replace Vy := Va.after hb Vy
  replace hx := Nt.after hb hx
  replace hy := Nt.after hb hy
  replace s0 := s0.below hb (Nat.le_refl _)
  replace s1 := s1.below hb (Nat.le_refl _)
  replace s2 := s2.below hb (Nat.le_refl _)
  replace B0 := step B0 hb
  clear hb
  clear c_Vx f_Vx l_Vx m_Vx
  have c_Vx := Vx.cell
  have f_Vx := Vx.frozen 0
  have l_Vx := Vx.lt
  have m_Vx := Nat.le_of_lt l_Vx
  have c_Vy := Vy.cell
  have f_Vy := Vy.frozen 0
  have l_Vy := Vy.lt
  have m_Vy := Nat.le_of_lt l_Vy
  go_wp2_with fail
  refine ent1 x8 _ _ (Q := fun W => Calls Try.prog _ _ W _) ?_
  intro x9 hb hs_x9 Vz
  replace Vx := Va.after hb Vx
  replace Vy := Va.after hb Vy
  replace hx := Nt.after hb hx
  replace hy := Nt.after hb hy
  replace hz := Nt.after hb hz
  replace s0 := s0.below hb (Nat.le_refl _)
  replace s1 := s1.below hb (Nat.le_refl _)
  replace s2 := s2.below hb (Nat.le_refl _)
  replace B0 := step B0 hb
  clear hb hs_x9
  have fx := fits_len (n := len0) s0 (Nat.le_refl _)
  have fy := fits_len (n := len1) s1 (Nat.le_refl _)
  have fz := fits_len (n := len2) s2 (Nat.le_refl _)
  have x0 := hx.nonneg
  have y0 := hy.nonneg
  have q0 := hz.nonneg
  rw [← nx] at fx hd1
  rw [← ny] at fy
  rw [← nz] at fz hd1
  rw [← ny, ← nz] at hd2
  have HFX : Hid (num zx * num zz < pw 4096) := fit3 x0 fx fz (by omega)
  have HFY : Hid (num zy * num zz < pw 4096) := fit3 y0 fy fz (by omega)
  have HFG : Hid (((Int.gcd (num zx) (num zy) : Nat) : Int) * num zz < pw 4096) := fit3 (by omega) (gcd_lt x0 y0 fx fy) fz (by omega)
  have HQ0 : Hid (0 ≤ num zz) := q0
  have D1 : Hid (dvB (num zz) (num zx) = false) := hd1
  skip
  clear fx fy fz x0 y0 q0 hd1 hd2 nx ny nz s0 s1 s2 e0 e1 e2
  refine (ngcd_any ax ay lx kx ly ky zx zy x9 hx hy).mono ?_
  rintro e x10 ⟨ag, lg, kg, zg, rfl, hg, ng, hb⟩
  replace Vx := Va.after hb Vx
  replace Vy := Va.after hb Vy
  replace Vz := Va.after hb Vz
  replace hx := Nt.after hb hx
  replace hy := Nt.after hb hy
  replace hz := Nt.after hb hz
  replace B0 := step B0 hb
  clear hb
  have HNG : Hid (num zg = (Int.gcd (num zx) (num zy) : Nat)) := ng
  clear ng
  clear c_Vx f_Vx l_Vx m_Vx c_Vy f_Vy l_Vy m_Vy
  have c_Vx := Vx.cell
  have f_Vx := Vx.frozen 0
  have l_Vx := Vx.lt
  have m_Vx := Nat.le_of_lt l_Vx
  have c_Vy := Vy.cell
  have f_Vy := Vy.frozen 0
  have l_Vy := Vy.lt
  have m_Vy := Nat.le_of_lt l_Vy
  have c_Vz := Vz.cell
  have f_Vz := Vz.frozen 0
  have l_Vz := Vz.lt
  have m_Vz := Nat.le_of_lt l_Vz
  go_wp2_with fail
  refine ent1 x10 _ _ (Q := fun W => Code.wp Try.prog _ _ _ W) ?_
  intro x11 hb hs_x11 Vg
  replace Vx := Va.after hb Vx
  replace Vy := Va.after hb Vy
  replace Vz := Va.after hb Vz
  replace hx := Nt.after hb hx
  replace hy := Nt.after hb hy
  replace hz := Nt.after hb hz
  replace hg := Nt.after hb hg
  replace B0 := step B0 hb
  clear hb hs_x11
  have hQ : Q4 w x10.heap.size x4.heap.size x6.heap.size x8.heap.size ag ax ay az lg lx ly lz kg kx ky kz zg zx zy zz x11 := ⟨⟨Vg, hg, B0⟩, ⟨Vx, hx, B0⟩, ⟨Vy, hy, B0⟩, ⟨Vz, hz, B0⟩⟩
  have hQ0 := hQ.drw
  clear Vg Vx Vy Vz hg hx hy hz B0 c_Vx f_Vx l_Vx m_Vx c_Vy f_Vy l_Vy m_Vy c_Vz f_Vz l_Vz m_Vz
  clear hQ
  go_cut [95] (fun s95 W => s95 = .bool false ∧ Hid (Q4 w x10.heap.size x4.heap.size x6.heap.size x8.heap.size ag ax ay az lg lx ly lz kg kx ky kz zg zx zy zz W))
  case first =>
    refine wp_region_noPanic ?_
    refine wp_region_held_drew (S := (fun W => W.cell? ⟨x10.heap.size, 0, none⟩ = some (.slice ag lg kg) ∧ W.cell? ⟨x4.heap.size, 0, none⟩ = some (.slice ax lx kx) ∧ W.cell? ⟨x6.heap.size, 0, none⟩ = some (.slice ay ly ky) ∧ W.cell? ⟨x8.heap.size, 0, none⟩ = some (.slice az lz kz))) (by kernel_rfl) hQ0.s (fun hHeld => ?_)
    refine wpAnyH_take (i := 0) (v := ?_) rfl (by kernel_rfl) (by kernel_rfl) (by kernel_rfl) (fun _ _ _ h => h) (Or.inl ⟨by rfl, ?_⟩) hHeld ?_
    rotate_left
    · (intro W hSw; (try dsimp only at hSw); go_simp; all_goals (with_reducible rfl))
    simp only [List.getElem_toArray, List.getElem_cons_zero, Act.put, List.setIfInBounds_toArray, List.set_cons_zero, List.set_cons_succ]
    refine wpAnyH_take (i := 1) (v := ?_) rfl (by kernel_rfl) (by kernel_rfl) (by kernel_rfl) (fun _ _ _ h => h) (Or.inl ⟨by rfl, ?_⟩) hHeld ?_
    rotate_left
    · (intro W hSw; (try dsimp only at hSw); go_simp; all_goals (with_reducible rfl))
    simp only [List.getElem_toArray, List.getElem_cons_zero, List.getElem_cons_succ, Act.put, List.setIfInBounds_toArray, List.set_cons_zero, List.set_cons_succ]
    refine wpAnyH_take (i := 2) (v := ?_) rfl (by kernel_rfl) (by kernel_rfl) (by kernel_rfl) (fun _ _ _ h => h) (Or.inl ⟨by rfl, ?_⟩) hHeld ?_
    rotate_left
    · (intro W hSw; (try dsimp only at hSw); go_simp; all_goals (with_reducible rfl))
    simp only [List.getElem_toArray, List.getElem_cons_zero, List.getElem_cons_succ, Act.put, List.setIfInBounds_toArray, List.set_cons_zero, List.set_cons_succ]
    refine wpAnyH_take (i := 3) (v := ?_) rfl (by kernel_rfl) (by kernel_rfl) (by kernel_rfl) (fun _ _ _ h => h) (Or.inl ⟨by rfl, ?_⟩) hHeld ?_
    rotate_left
    · (intro W hSw; (try dsimp only at hSw); go_simp; all_goals (with_reducible rfl))
    simp only [List.getElem_toArray, List.getElem_cons_zero, List.getElem_cons_succ, Act.put, List.setIfInBounds_toArray, List.set_cons_zero, List.set_cons_succ]
    refine wpAnyH_take (i := 4) (v := ?_) rfl (by kernel_rfl) (by kernel_rfl) (by kernel_rfl) (fun _ _ _ h => h) (Or.inl ⟨by rfl, ?_⟩) hHeld ?_
    rotate_left
    · (intro W hSw; (try dsimp only at hSw); go_simp; all_goals (with_reducible rfl))
    simp only [List.getElem_toArray, List.getElem_cons_zero, List.getElem_cons_succ, Act.put, List.setIfInBounds_toArray, List.set_cons_zero, List.set_cons_succ]
    refine wpAnyH_ready (rs := [5]) (by kernel_rfl) (by simp) ?_
    refine AllReadyH.cons rfl (fun K hK => ?_) AllReadyH.nil
    simp only [List.getElem_toArray, List.getElem_cons_zero, List.getElem_cons_succ]
    go_simp
    refine (divides_any ag ax lg kg lx kx zg zx _ hQ0.1.2.1 hQ0.2.1.2.1).mono ?_
    rintro e y1 ⟨rfl, b1⟩
    rw [show dvB (num zg) (num zx) = true by rw [HNG.out]; exact dvB_gcd_l _ _]
    have hQ1 := Q4.after b1 hQ0
    try go_wp2_with fail
    refine hK.out _ _ hQ1.s (fun hHeld => ?_)
    clear hK K
    refine wpAnyH_take (i := 6) (v := ?_) rfl (by kernel_rfl) (by kernel_rfl) (by kernel_rfl) (fun _ _ _ h => h) (Or.inl ⟨by rfl, ?_⟩) hHeld ?_
    rotate_left
    · (intro W hSw; (try dsimp only at hSw); go_simp; all_goals (with_reducible rfl))
    simp only [List.getElem_toArray, List.getElem_cons_zero, List.getElem_cons_succ, Act.put, List.setIfInBounds_toArray, List.set_cons_zero, List.set_cons_succ]
    refine wpAnyH_take (i := 7) (v := ?_) rfl (by kernel_rfl) (by kernel_rfl) (by kernel_rfl) (fun _ _ _ h => h) (Or.inl ⟨by rfl, ?_⟩) hHeld ?_
    rotate_left
    · (intro W hSw; (try dsimp only at hSw); go_simp; all_goals (with_reducible rfl))
    simp only [List.getElem_toArray, List.getElem_cons_zero, List.getElem_cons_succ, Act.put, List.setIfInBounds_toArray, List.set_cons_zero, List.set_cons_succ]
    refine wpAnyH_take (i := 8) (v := ?_) rfl (by kernel_rfl) (by kernel_rfl) (by kernel_rfl) (fun _ _ _ h => h) (Or.inl ⟨by rfl, ?_⟩) hHeld ?_
    rotate_left
    · (intro W hSw; (try dsimp only at hSw); go_simp; all_goals (with_reducible rfl))
    simp only [List.getElem_toArray, List.getElem_cons_zero, List.getElem_cons_succ, Act.put, List.setIfInBounds_toArray, List.set_cons_zero, List.set_cons_succ]
    refine wpAnyH_take (i := 9) (v := ?_) rfl (by kernel_rfl) (by kernel_rfl) (by kernel_rfl) (fun _ _ _ h => h) (Or.inl ⟨by rfl, ?_⟩) hHeld ?_
    rotate_left
    · (intro W hSw; (try dsimp only at hSw); go_simp; all_goals (with_reducible rfl))
    simp only [List.getElem_toArray, List.getElem_cons_zero, List.getElem_cons_succ, Act.put, List.setIfInBounds_toArray, List.set_cons_zero, List.set_cons_succ]
    refine wpAnyH_take (i := 10) (v := ?_) rfl (by kernel_rfl) (by kernel_rfl) (by kernel_rfl) (fun _ _ _ h => h) (Or.inl ⟨by rfl, ?_⟩) hHeld ?_
    rotate_left
    · (intro W hSw; (try dsimp only at hSw); go_simp; all_goals (with_reducible rfl))
    simp only [List.getElem_toArray, List.getElem_cons_zero, List.getElem_cons_succ, Act.put, List.setIfInBounds_toArray, List.set_cons_zero, List.set_cons_succ]
    refine wpAnyH_ready (rs := [11]) (by kernel_rfl) (by simp) ?_
    refine AllReadyH.cons rfl (fun K hK => ?_) AllReadyH.nil
    simp only [List.getElem_toArray, List.getElem_cons_zero, List.getElem_cons_succ]
    go_simp
    refine (divides_any ag ay lg kg ly ky zg zy _ hQ1.1.2.1 hQ1.2.2.1.2.1).mono ?_
    rintro e y2 ⟨rfl, b2⟩
    rw [show dvB (num zg) (num zy) = true by rw [HNG.out]; exact dvB_gcd_r _ _]
    have hQ2 := Q4.after b2 hQ1
    try go_wp2_with fail
    refine hK.out _ _ hQ2.s (fun hHeld => ?_)
    clear hK K
    refine wpAnyH_take (i := 12) (v := ?_) rfl (by kernel_rfl) (by kernel_rfl) (by kernel_rfl) (fun _ _ _ h => h) (Or.inl ⟨by rfl, ?_⟩) hHeld ?_
    rotate_left
    · (intro W hSw; (try dsimp only at hSw); go_simp; all_goals (with_reducible rfl))
    simp only [List.getElem_toArray, List.getElem_cons_zero, List.getElem_cons_succ, Act.put, List.setIfInBounds_toArray, List.set_cons_zero, List.set_cons_succ]
    refine wpAnyH_take (i := 13) (v := ?_) rfl (by kernel_rfl) (by kernel_rfl) (by kernel_rfl) (fun _ _ _ h => h) (Or.inl ⟨by rfl, ?_⟩) hHeld ?_
    rotate_left
    · (intro W hSw; (try dsimp only at hSw); go_simp; all_goals (with_reducible rfl))
    simp only [List.getElem_toArray, List.getElem_cons_zero, List.getElem_cons_succ, Act.put, List.setIfInBounds_toArray, List.set_cons_zero, List.set_cons_succ]
    refine wpAnyH_take (i := 14) (v := ?_) rfl (by kernel_rfl) (by kernel_rfl) (by kernel_rfl) (fun _ _ _ h => h) (Or.inl ⟨by rfl, ?_⟩) hHeld ?_
    rotate_left
    · (intro W hSw; (try dsimp only at hSw); go_simp; all_goals (with_reducible rfl))
    simp only [List.getElem_toArray, List.getElem_cons_zero, List.getElem_cons_succ, Act.put, List.setIfInBounds_toArray, List.set_cons_zero, List.set_cons_succ]
    refine wpAnyH_take (i := 15) (v := ?_) rfl (by kernel_rfl) (by kernel_rfl) (by kernel_rfl) (fun _ _ _ h => h) (Or.inl ⟨by rfl, ?_⟩) hHeld ?_
    rotate_left
    · (intro W hSw; (try dsimp only at hSw); go_simp; all_goals (with_reducible rfl))
    simp only [List.getElem_toArray, List.getElem_cons_zero, List.getElem_cons_succ, Act.put, List.setIfInBounds_toArray, List.set_cons_zero, List.set_cons_succ]
    refine wpAnyH_take (i := 16) (v := ?_) rfl (by kernel_rfl) (by kernel_rfl) (by kernel_rfl) (fun _ _ _ h => h) (Or.inl ⟨by rfl, ?_⟩) hHeld ?_
    rotate_left
    · (intro W hSw; (try dsimp only at hSw); go_simp; all_goals (with_reducible rfl))
    simp only [List.getElem_toArray, List.getElem_cons_zero, List.getElem_cons_succ, Act.put, List.setIfInBounds_toArray, List.set_cons_zero, List.set_cons_succ]
    refine wpAnyH_take (i := 17) (v := ?_) rfl (by kernel_rfl) (by kernel_rfl) (by kernel_rfl) (fun _ _ _ h => h) (Or.inl ⟨by rfl, ?_⟩) hHeld ?_
    rotate_left
    · (intro W hSw; (try dsimp only at hSw); go_simp; all_goals (with_reducible rfl))
    simp only [List.getElem_toArray, List.getElem_cons_zero, List.getElem_cons_succ, Act.put, List.setIfInBounds_toArray, List.set_cons_zero, List.set_cons_succ]
    refine wpAnyH_ready (rs := [18]) (by kernel_rfl) (by simp) ?_
    refine AllReadyH.cons rfl (fun K hK => ?_) AllReadyH.nil
    simp only [List.getElem_toArray, List.getElem_cons_zero, List.getElem_cons_succ]
    go_simp
    refine (ngcd_any ay ax ly ky lx kx zy zx _ hQ2.2.2.1.2.1 hQ2.2.1.2.1).mono ?_
    rintro e y3 ⟨ah, lh, kh, zh, rfl, hh, nh, b3⟩
    have hQ3 := Q4.after b3 hQ2
    try go_wp2_with fail
    refine hK.out _ _ hQ3.s (fun hHeld => ?_)
    clear hK K
    refine wpAnyH_ready (rs := [19]) (by kernel_rfl) (by simp) ?_
    refine AllReadyH.cons rfl (fun K hK => ?_) AllReadyH.nil
    simp only [List.getElem_toArray, List.getElem_cons_zero, List.getElem_cons_succ]
    go_simp
    refine (ncompare_any ag ah lg kg lh kh zg zh _ hQ3.1.2.1 hh).mono ?_
    rintro e y4 ⟨rfl, b4⟩
    rw [cmp3_eq (show num zg = num zh by rw [HNG.out, nh, Int.gcd_comm])]
    have hQ4 := Q4.after b4 hQ3
    try go_wp2_with fail
    refine hK.out _ _ hQ4.s (fun hHeld => ?_)
    clear hK K
    refine wpAnyH_take (i := 20) (v := ?_) rfl (by kernel_rfl) (by kernel_rfl) (by kernel_rfl) (fun _ _ _ h => h) (Or.inl ⟨by rfl, ?_⟩) hHeld ?_
    rotate_left
    · (intro W hSw; (try dsimp only at hSw); go_simp; all_goals (with_reducible rfl))
    simp only [List.getElem_toArray, List.getElem_cons_zero, List.getElem_cons_succ, Act.put, List.setIfInBounds_toArray, List.set_cons_zero, List.set_cons_succ]
    refine wpAnyH_take (i := 21) (v := ?_) rfl (by kernel_rfl) (by kernel_rfl) (by kernel_rfl) (fun _ _ _ h => h) (Or.inl ⟨by rfl, ?_⟩) hHeld ?_
    rotate_left
    · (intro W hSw; (try dsimp only at hSw); go_simp; all_goals (with_reducible rfl))
    simp only [List.getElem_toArray, List.getElem_cons_zero, List.getElem_cons_succ, Act.put, List.setIfInBounds_toArray, List.set_cons_zero, List.set_cons_succ]
    refine wpAnyH_take (i := 22) (v := ?_) rfl (by kernel_rfl) (by kernel_rfl) (by kernel_rfl) (fun _ _ _ h => h) (Or.inl ⟨by rfl, ?_⟩) hHeld ?_
    rotate_left
    · (intro W hSw; (try dsimp only at hSw); go_simp; all_goals (with_reducible rfl))
    simp only [List.getElem_toArray, List.getElem_cons_zero, List.getElem_cons_succ, Act.put, List.setIfInBounds_toArray, List.set_cons_zero, List.set_cons_succ]
    refine wpAnyH_take (i := 23) (v := ?_) rfl (by kernel_rfl) (by kernel_rfl) (by kernel_rfl) (fun _ _ _ h => h) (Or.inl ⟨by rfl, ?_⟩) hHeld ?_
    rotate_left
    · (intro W hSw; (try dsimp only at hSw); go_simp; all_goals (with_reducible rfl))
    simp only [List.getElem_toArray, List.getElem_cons_zero, List.getElem_cons_succ, Act.put, List.setIfInBounds_toArray, List.set_cons_zero, List.set_cons_succ]
    refine wpAnyH_take (i := 24) (v := ?_) rfl (by kernel_rfl) (by kernel_rfl) (by kernel_rfl) (fun _ _ _ h => h) (Or.inl ⟨by rfl, ?_⟩) hHeld ?_
    rotate_left
    · (intro W hSw; (try dsimp only at hSw); go_simp; all_goals (with_reducible rfl))
    simp only [List.getElem_toArray, List.getElem_cons_zero, List.getElem_cons_succ, Act.put, List.setIfInBounds_toArray, List.set_cons_zero, List.set_cons_succ]
    refine wpAnyH_ready (rs := [25]) (by kernel_rfl) (by simp) ?_
    refine AllReadyH.cons rfl (fun K hK => ?_) AllReadyH.nil
    simp only [List.getElem_toArray, List.getElem_cons_zero, List.getElem_cons_succ]
    go_simp
    refine (divides_any az ax lz kz lx kx zz zx _ hQ4.2.2.2.2.1 hQ4.2.1.2.1).mono ?_
    rintro e y5 ⟨rfl, b5⟩
    rw [D1.out]
    have hQ5 := Q4.after b5 hQ4
    try go_wp2_with fail
    refine hK.out _ _ hQ5.s (fun hHeld => ?_)
    clear hK K
    refine wpAnyH_take (i := 26) (v := ?_) rfl (by kernel_rfl) (by kernel_rfl) (by kernel_rfl) (fun _ _ _ h => h) (Or.inl ⟨by rfl, ?_⟩) hHeld ?_
    rotate_left
    · (intro W hSw; (try dsimp only at hSw); go_simp; all_goals (with_reducible rfl))
    simp only [List.getElem_toArray, List.getElem_cons_zero, List.getElem_cons_succ, Act.put, List.setIfInBounds_toArray, List.set_cons_zero, List.set_cons_succ]
    refine wpAnyH_take (i := 27) (v := undef) rfl (by kernel_rfl) (by kernel_rfl) (by kernel_rfl) (fun _ _ _ h => h) (Or.inr ⟨by rfl, rfl⟩) hHeld ?_
    simp only [List.getElem_toArray, List.getElem_cons_zero, List.getElem_cons_succ, Act.put, List.setIfInBounds_toArray, List.set_cons_zero, List.set_cons_succ]
    refine wpAnyH_take (i := 28) (v := undef) rfl (by kernel_rfl) (by kernel_rfl) (by kernel_rfl) (fun _ _ _ h => h) (Or.inr ⟨by rfl, rfl⟩) hHeld ?_
    simp only [List.getElem_toArray, List.getElem_cons_zero, List.getElem_cons_succ, Act.put, List.setIfInBounds_toArray, List.set_cons_zero, List.set_cons_succ]
    refine wpAnyH_take (i := 29) (v := undef) rfl (by kernel_rfl) (by kernel_rfl) (by kernel_rfl) (fun _ _ _ h => h) (Or.inr ⟨by rfl, rfl⟩) hHeld ?_
    simp only [List.getElem_toArray, List.getElem_cons_zero, List.getElem_cons_succ, Act.put, List.setIfInBounds_toArray, List.set_cons_zero, List.set_cons_succ]
    refine wpAnyH_take (i := 30) (v := ?_) rfl (by kernel_rfl) (by kernel_rfl) (by kernel_rfl) (fun _ _ _ h => h) (Or.inl ⟨by rfl, ?_⟩) hHeld ?_
    rotate_left
    · (intro W hSw; (try dsimp only at hSw); go_simp; all_goals (with_reducible rfl))
    simp only [List.getElem_toArray, List.getElem_cons_zero, List.getElem_cons_succ, Act.put, List.setIfInBounds_toArray, List.set_cons_zero, List.set_cons_succ]
    refine wpAnyH_take (i := 31) (v := ?_) rfl (by kernel_rfl) (by kernel_rfl) (by kernel_rfl) (fun _ _ _ h => h) (Or.inl ⟨by rfl, ?_⟩) hHeld ?_
    rotate_left
    · (intro W hSw; (try dsimp only at hSw); go_simp; all_goals (with_reducible rfl))
    simp only [List.getElem_toArray, List.getElem_cons_zero, List.getElem_cons_succ, Act.put, List.setIfInBounds_toArray, List.set_cons_zero, List.set_cons_succ]
    refine wpAnyH_take (i := 32) (v := undef) rfl (by kernel_rfl) (by kernel_rfl) (by kernel_rfl) (fun _ _ _ h => h) (Or.inr ⟨by rfl, rfl⟩) hHeld ?_
    simp only [List.getElem_toArray, List.getElem_cons_zero, List.getElem_cons_succ, Act.put, List.setIfInBounds_toArray, List.set_cons_zero, List.set_cons_succ]
    refine wpAnyH_take (i := 33) (v := undef) rfl (by kernel_rfl) (by kernel_rfl) (by kernel_rfl) (fun _ _ _ h => h) (Or.inr ⟨by rfl, rfl⟩) hHeld ?_
    simp only [List.getElem_toArray, List.getElem_cons_zero, List.getElem_cons_succ, Act.put, List.setIfInBounds_toArray, List.set_cons_zero, List.set_cons_succ]
    refine wpAnyH_take (i := 34) (v := undef) rfl (by kernel_rfl) (by kernel_rfl) (by kernel_rfl) (fun _ _ _ h => h) (Or.inr ⟨by rfl, rfl⟩) hHeld ?_
    simp only [List.getElem_toArray, List.getElem_cons_zero, List.getElem_cons_succ, Act.put, List.setIfInBounds_toArray, List.set_cons_zero, List.set_cons_succ]
    refine wpAnyH_take (i := 35) (v := undef) rfl (by kernel_rfl) (by kernel_rfl) (by kernel_rfl) (fun _ _ _ h => h) (Or.inr ⟨by rfl, rfl⟩) hHeld ?_
    simp only [List.getElem_toArray, List.getElem_cons_zero, List.getElem_cons_succ, Act.put, List.setIfInBounds_toArray, List.set_cons_zero, List.set_cons_succ]
    refine wpAnyH_take (i := 36) (v := ?_) rfl (by kernel_rfl) (by kernel_rfl) (by kernel_rfl) (fun _ _ _ h => h) (Or.inl ⟨by rfl, ?_⟩) hHeld ?_
    rotate_left
    · (intro W hSw; (try dsimp only at hSw); go_simp; all_goals (with_reducible rfl))
    simp only [List.getElem_toArray, List.getElem_cons_zero, List.getElem_cons_succ, Act.put, List.setIfInBounds_toArray, List.set_cons_zero, List.set_cons_succ]
    refine wpAnyH_take (i := 37) (v := ?_) rfl (by kernel_rfl) (by kernel_rfl) (by kernel_rfl) (fun _ _ _ h => h) (Or.inl ⟨by rfl, ?_⟩) hHeld ?_
    rotate_left
    · (intro W hSw; (try dsimp only at hSw); go_simp; all_goals (with_reducible rfl))
    simp only [List.getElem_toArray, List.getElem_cons_zero, List.getElem_cons_succ, Act.put, List.setIfInBounds_toArray, List.set_cons_zero, List.set_cons_succ]
    refine wpAnyH_done (by kernel_rfl) ?_ _
    refine NoPanic.normal ?_
    go_wp2_with fail
    go_meet
    exact ⟨rfl, hQ5⟩
  case rest =>
    obtain ⟨rfl, hH⟩ := hcut
    clear hQ0
    obtain ⟨⟨Vg, hg, B0⟩, ⟨Vx, hx, -⟩, ⟨Vy, hy, -⟩, ⟨Vz, hz, -⟩⟩ := hH
    have c_Vg := Vg.cell
    have f_Vg := Vg.frozen 0
    have l_Vg := Vg.lt
    have m_Vg := Nat.le_of_lt l_Vg
    have c_Vx := Vx.cell
    have f_Vx := Vx.frozen 0
    have l_Vx := Vx.lt
    have m_Vx := Nat.le_of_lt l_Vx
    have c_Vy := Vy.cell
    have f_Vy := Vy.frozen 0
    have l_Vy := Vy.lt
    have m_Vy := Nat.le_of_lt l_Vy
    have c_Vz := Vz.cell
    have f_Vz := Vz.frozen 0
    have l_Vz := Vz.lt
    have m_Vz := Nat.le_of_lt l_Vz
    go_wp2_with fail
    refine (nmul_ok ax az lx kx lz kz zx zz wc hx hz HFX.out).mono ?_
    rintro e x21 ⟨ap, lp, kp, zp, rfl, hp, np, hb⟩
    replace Vg := Va.after hb Vg
    replace Vx := Va.after hb Vx
    replace Vy := Va.after hb Vy
    replace Vz := Va.after hb Vz
    replace hg := Nt.after hb hg
    replace hx := Nt.after hb hx
    replace hy := Nt.after hb hy
    replace hz := Nt.after hb hz
    replace B0 := step B0 hb
    clear hb
    have HNP : Hid (num zp = num zx * num zz) := np
    clear np
    clear c_Vg f_Vg l_Vg m_Vg c_Vx f_Vx l_Vx m_Vx c_Vy f_Vy l_Vy m_Vy c_Vz f_Vz l_Vz m_Vz
    have c_Vg := Vg.cell
    have f_Vg := Vg.frozen 0
    have l_Vg := Vg.lt
    have m_Vg := Nat.le_of_lt l_Vg
    have c_Vx := Vx.cell
    have f_Vx := Vx.frozen 0
    have l_Vx := Vx.lt
    have m_Vx := Nat.le_of_lt l_Vx
    have c_Vy := Vy.cell
    have f_Vy := Vy.frozen 0
    have l_Vy := Vy.lt
    have m_Vy := Nat.le_of_lt l_Vy
    have c_Vz := Vz.cell
    have f_Vz := Vz.frozen 0
    have l_Vz := Vz.lt
    have m_Vz := Nat.le_of_lt l_Vz
    go_wp2_with fail
    refine ent1 x21 _ _ (Q := fun W => Calls Try.prog _ _ W _) ?_
    intro x22 hb hs_x22 Vp
    replace Vg := Va.after hb Vg
    replace Vx := Va.after hb Vx
    replace Vy := Va.after hb Vy
    replace Vz := Va.after hb Vz
    replace hg := Nt.after hb hg
    replace hx := Nt.after hb hx
    replace hy := Nt.after hb hy
    replace hz := Nt.after hb hz
    replace hp := Nt.after hb hp
    replace B0 := step B0 hb
    clear hb hs_x22
    refine (nmul_ok ay az ly ky lz kz zy zz x22 hy hz HFY.out).mono ?_
    rintro e x23 ⟨aq, lq, kq, zq, rfl, hq, nq, hb⟩
    replace Vg := Va.after hb Vg
    replace Vx := Va.after hb Vx
    replace Vy := Va.after hb Vy
    replace Vz := Va.after hb Vz
    replace Vp := Va.after hb Vp
    replace hg := Nt.after hb hg
    replace hx := Nt.after hb hx
    replace hy := Nt.after hb hy
    replace hz := Nt.after hb hz
    replace hp := Nt.after hb hp
    replace B0 := step B0 hb
    clear hb
    have HNQ : Hid (num zq = num zy * num zz) := nq
    clear nq
    clear c_Vg f_Vg l_Vg m_Vg c_Vx f_Vx l_Vx m_Vx c_Vy f_Vy l_Vy m_Vy c_Vz f_Vz l_Vz m_Vz
    have c_Vg := Vg.cell
    have f_Vg := Vg.frozen 0
    have l_Vg := Vg.lt
    have m_Vg := Nat.le_of_lt l_Vg
    have c_Vx := Vx.cell
    have f_Vx := Vx.frozen 0
    have l_Vx := Vx.lt
    have m_Vx := Nat.le_of_lt l_Vx
    have c_Vy := Vy.cell
    have f_Vy := Vy.frozen 0
    have l_Vy := Vy.lt
    have m_Vy := Nat.le_of_lt l_Vy
    have c_Vz := Vz.cell
    have f_Vz := Vz.frozen 0
    have l_Vz := Vz.lt
    have m_Vz := Nat.le_of_lt l_Vz
    have c_Vp := Vp.cell
    have f_Vp := Vp.frozen 0
    have l_Vp := Vp.lt
    have m_Vp := Nat.le_of_lt l_Vp
    go_wp2_with fail
    refine ent1 x23 _ _ (Q := fun W => Calls Try.prog _ _ W _) ?_
    intro x24 hb hs_x24 Vq
    replace Vg := Va.after hb Vg
    replace Vx := Va.after hb Vx
    replace Vy := Va.after hb Vy
    replace Vz := Va.after hb Vz
    replace Vp := Va.after hb Vp
    replace hg := Nt.after hb hg
    replace hx := Nt.after hb hx
    replace hy := Nt.after hb hy
    replace hz := Nt.after hb hz
    replace hp := Nt.after hb hp
    replace hq := Nt.after hb hq
    replace B0 := step B0 hb
    clear hb hs_x24
    refine (nmul_ok ag az lg kg lz kz zg zz x24 hg hz (by rw [HNG.out]; exact HFG.out)).mono ?_
    rintro e x25 ⟨at1, lt, kt, zt, rfl, ht, nt, hb⟩
    replace Vg := Va.after hb Vg
    replace Vx := Va.after hb Vx
    replace Vy := Va.after hb Vy
    replace Vz := Va.after hb Vz
    replace Vp := Va.after hb Vp
    replace Vq := Va.after hb Vq
    replace hg := Nt.after hb hg
    replace hx := Nt.after hb hx
    replace hy := Nt.after hb hy
    replace hz := Nt.after hb hz
    replace hp := Nt.after hb hp
    replace hq := Nt.after hb hq
    replace B0 := step B0 hb
    clear hb
    have HNT : Hid (num zt = num zg * num zz) := nt
    clear nt
    clear c_Vg f_Vg l_Vg m_Vg c_Vx f_Vx l_Vx m_Vx c_Vy f_Vy l_Vy m_Vy c_Vz f_Vz l_Vz m_Vz c_Vp f_Vp l_Vp m_Vp
    have c_Vg := Vg.cell
    have f_Vg := Vg.frozen 0
    have l_Vg := Vg.lt
    have m_Vg := Nat.le_of_lt l_Vg
    have c_Vx := Vx.cell
    have f_Vx := Vx.frozen 0
    have l_Vx := Vx.lt
    have m_Vx := Nat.le_of_lt l_Vx
    have c_Vy := Vy.cell
    have f_Vy := Vy.frozen 0
    have l_Vy := Vy.lt
    have m_Vy := Nat.le_of_lt l_Vy
    have c_Vz := Vz.cell
    have f_Vz := Vz.frozen 0
    have l_Vz := Vz.lt
    have m_Vz := Nat.le_of_lt l_Vz
    have c_Vp := Vp.cell
    have f_Vp := Vp.frozen 0
    have l_Vp := Vp.lt
    have m_Vp := Nat.le_of_lt l_Vp
    have c_Vq := Vq.cell
    have f_Vq := Vq.frozen 0
    have l_Vq := Vq.lt
    have m_Vq := Nat.le_of_lt l_Vq
    go_wp2_with fail
    refine ent1 x25 _ _ (Q := fun W => Code.wp Try.prog _ _ _ W) ?_
    intro x26 hb hs_x26 Vt
    replace Vg := Va.after hb Vg
    replace Vx := Va.after hb Vx
    replace Vy := Va.after hb Vy
    replace Vz := Va.after hb Vz
    replace Vp := Va.after hb Vp
    replace Vq := Va.after hb Vq
    replace hg := Nt.after hb hg
    replace hx := Nt.after hb hx
    replace hy := Nt.after hb hy
    replace hz := Nt.after hb hz
    replace hp := Nt.after hb hp
    replace hq := Nt.after hb hq
    replace ht := Nt.after hb ht
    replace B0 := step B0 hb
    clear hb hs_x26
    have hT : (x26.cell? ⟨x21.heap.size, 0, none⟩ = some (.slice ap lp kp) ∧ Hid (HV w x21.heap.size ap lp kp zp x26)) ∧ (x26.cell? ⟨x23.heap.size, 0, none⟩ = some (.slice aq lq kq) ∧ Hid (HV w x23.heap.size aq lq kq zq x26)) ∧ (x26.cell? ⟨x25.heap.size, 0, none⟩ = some (.slice at1 lt kt) ∧ Hid (HV w x25.heap.size at1 lt kt zt x26)) := ⟨HV.mk' Vp hp B0, HV.mk' Vq hq B0, HV.mk' Vt ht B0⟩
    have hT0 : (x26.drew.cell? ⟨x21.heap.size, 0, none⟩ = some (.slice ap lp kp) ∧ Hid (HV w x21.heap.size ap lp kp zp x26.drew)) ∧ (x26.drew.cell? ⟨x23.heap.size, 0, none⟩ = some (.slice aq lq kq) ∧ Hid (HV w x23.heap.size aq lq kq zq x26.drew)) ∧ (x26.drew.cell? ⟨x25.heap.size, 0, none⟩ = some (.slice at1 lt kt) ∧ Hid (HV w x25.heap.size at1 lt kt zt x26.drew)) := ⟨HV.dr hT.1, HV.dr hT.2.1, HV.dr hT.2.2⟩
    clear Vg Vx Vy Vz hg hx hy hz Vp Vq Vt hp hq ht B0 hT c_Vg f_Vg l_Vg m_Vg c_Vx f_Vx l_Vx m_Vx c_Vy f_Vy l_Vy m_Vy c_Vz f_Vz l_Vz m_Vz c_Vp f_Vp l_Vp m_Vp c_Vq f_Vq l_Vq m_Vq
    refine wp_region_noPanic ?_
    refine wp_region_held_drew (S := (fun W => W.cell? ⟨x21.heap.size, 0, none⟩ = some (.slice ap lp kp) ∧ W.cell? ⟨x23.heap.size, 0, none⟩ = some (.slice aq lq kq) ∧ W.cell? ⟨x25.heap.size, 0, none⟩ = some (.slice at1 lt kt))) (by kernel_rfl) ⟨hT0.1.1, hT0.2.1.1, hT0.2.2.1⟩ (fun hHeld => ?_)
    refine wpAnyH_take (i := 0) (v := ?_) rfl (by kernel_rfl) (by kernel_rfl) (by kernel_rfl) (fun _ _ _ h => h) (Or.inl ⟨by rfl, ?_⟩) hHeld ?_
    rotate_left
    · (intro W hSw; (try dsimp only at hSw); go_simp; all_goals (with_reducible rfl))
    simp only [List.getElem_toArray, List.getElem_cons_zero, Act.put, List.setIfInBounds_toArray, List.set_cons_zero, List.set_cons_succ]
    refine wpAnyH_take (i := 1) (v := ?_) rfl (by kernel_rfl) (by kernel_rfl) (by kernel_rfl) (fun _ _ _ h => h) (Or.inl ⟨by rfl, ?_⟩) hHeld ?_
    rotate_left
    · (intro W hSw; (try dsimp only at hSw); go_simp; all_goals (with_reducible rfl))
    simp only [List.getElem_toArray, List.getElem_cons_zero, List.getElem_cons_succ, Act.put, List.setIfInBounds_toArray, List.set_cons_zero, List.set_cons_succ]
    refine wpAnyH_take (i := 2) (v := ?_) rfl (by kernel_rfl) (by kernel_rfl) (by kernel_rfl) (fun _ _ _ h => h) (Or.inl ⟨by rfl, ?_⟩) hHeld ?_
    rotate_left
    · (intro W hSw; (try dsimp only at hSw); go_simp; all_goals (with_reducible rfl))
    simp only [List.getElem_toArray, List.getElem_cons_zero, List.getElem_cons_succ, Act.put, List.setIfInBounds_toArray, List.set_cons_zero, List.set_cons_succ]
    refine wpAnyH_take (i := 3) (v := ?_) rfl (by kernel_rfl) (by kernel_rfl) (by kernel_rfl) (fun _ _ _ h => h) (Or.inl ⟨by rfl, ?_⟩) hHeld ?_
    rotate_left
    · (intro W hSw; (try dsimp only at hSw); go_simp; all_goals (with_reducible rfl))
    simp only [List.getElem_toArray, List.getElem_cons_zero, List.getElem_cons_succ, Act.put, List.setIfInBounds_toArray, List.set_cons_zero, List.set_cons_succ]
    refine wpAnyH_take (i := 4) (v := ?_) rfl (by kernel_rfl) (by kernel_rfl) (by kernel_rfl) (fun _ _ _ h => h) (Or.inl ⟨by rfl, ?_⟩) hHeld ?_
    rotate_left
    · (intro W hSw; (try dsimp only at hSw); go_simp; all_goals (with_reducible rfl))
    simp only [List.getElem_toArray, List.getElem_cons_zero, List.getElem_cons_succ, Act.put, List.setIfInBounds_toArray, List.set_cons_zero, List.set_cons_succ]
    refine wpAnyH_take (i := 5) (v := ?_) rfl (by kernel_rfl) (by kernel_rfl) (by kernel_rfl) (fun _ _ _ h => h) (Or.inl ⟨by rfl, ?_⟩) hHeld ?_
    rotate_left
    · (intro W hSw; (try dsimp only at hSw); go_simp; all_goals (with_reducible rfl))
    simp only [List.getElem_toArray, List.getElem_cons_zero, List.getElem_cons_succ, Act.put, List.setIfInBounds_toArray, List.set_cons_zero, List.set_cons_succ]
    refine wpAnyH_take (i := 6) (v := ?_) rfl (by kernel_rfl) (by kernel_rfl) (by kernel_rfl) (fun _ _ _ h => h) (Or.inl ⟨by rfl, ?_⟩) hHeld ?_
    rotate_left
    · (intro W hSw; (try dsimp only at hSw); go_simp; all_goals (with_reducible rfl))
    simp only [List.getElem_toArray, List.getElem_cons_zero, List.getElem_cons_succ, Act.put, List.setIfInBounds_toArray, List.set_cons_zero, List.set_cons_succ]
    refine wpAnyH_take (i := 7) (v := ?_) rfl (by kernel_rfl) (by kernel_rfl) (by kernel_rfl) (fun _ _ _ h => h) (Or.inl ⟨by rfl, ?_⟩) hHeld ?_
    rotate_left
    · (intro W hSw; (try dsimp only at hSw); go_simp; all_goals (with_reducible rfl))
    simp only [List.getElem_toArray, List.getElem_cons_zero, List.getElem_cons_succ, Act.put, List.setIfInBounds_toArray, List.set_cons_zero, List.set_cons_succ]
    refine wpAnyH_take (i := 8) (v := ?_) rfl (by kernel_rfl) (by kernel_rfl) (by kernel_rfl) (fun _ _ _ h => h) (Or.inl ⟨by rfl, ?_⟩) hHeld ?_
    rotate_left
    · (intro W hSw; (try dsimp only at hSw); go_simp; all_goals (with_reducible rfl))
    simp only [List.getElem_toArray, List.getElem_cons_zero, List.getElem_cons_succ, Act.put, List.setIfInBounds_toArray, List.set_cons_zero, List.set_cons_succ]
    refine wpAnyH_take (i := 9) (v := ?_) rfl (by kernel_rfl) (by kernel_rfl) (by kernel_rfl) (fun _ _ _ h => h) (Or.inl ⟨by rfl, ?_⟩) hHeld ?_
    rotate_left
    · (intro W hSw; (try dsimp only at hSw); go_simp; all_goals (with_reducible rfl))
    simp only [List.getElem_toArray, List.getElem_cons_zero, List.getElem_cons_succ, Act.put, List.setIfInBounds_toArray, List.set_cons_zero, List.set_cons_succ]
    refine wpAnyH_take (i := 10) (v := ?_) rfl (by kernel_rfl) (by kernel_rfl) (by kernel_rfl) (fun _ _ _ h => h) (Or.inl ⟨by rfl, ?_⟩) hHeld ?_
    rotate_left
    · (intro W hSw; (try dsimp only at hSw); go_simp; all_goals (with_reducible rfl))
    simp only [List.getElem_toArray, List.getElem_cons_zero, List.getElem_cons_succ, Act.put, List.setIfInBounds_toArray, List.set_cons_zero, List.set_cons_succ]
    refine wpAnyH_take (i := 11) (v := ?_) rfl (by kernel_rfl) (by kernel_rfl) (by kernel_rfl) (fun _ _ _ h => h) (Or.inl ⟨by rfl, ?_⟩) hHeld ?_
    rotate_left
    · (intro W hSw; (try dsimp only at hSw); go_simp; all_goals (with_reducible rfl))
    simp only [List.getElem_toArray, List.getElem_cons_zero, List.getElem_cons_succ, Act.put, List.setIfInBounds_toArray, List.set_cons_zero, List.set_cons_succ]
    refine wpAnyH_take (i := 12) (v := ?_) rfl (by kernel_rfl) (by kernel_rfl) (by kernel_rfl) (fun _ _ _ h => h) (Or.inl ⟨by rfl, ?_⟩) hHeld ?_
    rotate_left
    · (intro W hSw; (try dsimp only at hSw); go_simp; all_goals (with_reducible rfl))
    simp only [List.getElem_toArray, List.getElem_cons_zero, List.getElem_cons_succ, Act.put, List.setIfInBounds_toArray, List.set_cons_zero, List.set_cons_succ]
    refine wpAnyH_take (i := 14) (v := ?_) rfl (by kernel_rfl) (by kernel_rfl) (by kernel_rfl) (fun _ _ _ h => h) (Or.inl ⟨by rfl, ?_⟩) hHeld ?_
    rotate_left
    · (intro W hSw; (try dsimp only at hSw); go_simp; all_goals (with_reducible rfl))
    simp only [List.getElem_toArray, List.getElem_cons_zero, List.getElem_cons_succ, Act.put, List.setIfInBounds_toArray, List.set_cons_zero, List.set_cons_succ]
    refine wpAnyH_ready (rs := [13]) (by kernel_rfl) (by simp) ?_
    refine AllReadyH.cons rfl (fun K hK => ?_) AllReadyH.nil
    simp only [List.getElem_toArray, List.getElem_cons_zero, List.getElem_cons_succ]
    go_simp
    refine (ngcd_any ap aq lp kp lq kq zp zq _ (H3.n1 hT0) (H3.n2 hT0)).mono ?_
    rintro e y1 ⟨au, lu, ku, zu, rfl, hu, nu, b1⟩
    have hT1 := H3.call b1 hT0
    try go_wp2_with fail
    refine hK.out _ _ ⟨hT1.1.1, hT1.2.1.1, hT1.2.2.1⟩ (fun hHeld => ?_)
    clear hK K
    refine wpAnyH_ready (rs := [15]) (by kernel_rfl) (by simp) ?_
    refine AllReadyH.cons rfl (fun K hK => ?_) AllReadyH.nil
    simp only [List.getElem_toArray, List.getElem_cons_zero, List.getElem_cons_succ]
    go_simp
    refine (ncompare_any au at1 lu ku lt kt zu zt _ hu (H3.n3 hT1)).mono ?_
    rintro e y2 ⟨rfl, b2⟩
    rw [cmp3_eq (show num zu = num zt by rw [nu, HNP.out, HNQ.out, HNT.out, HNG.out]; exact gcd_times HQ0.out)]
    have hT2 := H3.call b2 hT1
    try go_wp2_with fail
    refine hK.out _ _ ⟨hT2.1.1, hT2.2.1.1, hT2.2.2.1⟩ (fun hHeld => ?_)
    clear hK K
    refine wpAnyH_take (i := 16) (v := ?_) rfl (by kernel_rfl) (by kernel_rfl) (by kernel_rfl) (fun _ _ _ h => h) (Or.inl ⟨by rfl, ?_⟩) hHeld ?_
    rotate_left
    · (intro W hSw; (try dsimp only at hSw); go_simp; all_goals (with_reducible rfl))
    simp only [List.getElem_toArray, List.getElem_cons_zero, List.getElem_cons_succ, Act.put, List.setIfInBounds_toArray, List.set_cons_zero, List.set_cons_succ]
    refine wpAnyH_take (i := 17) (v := ?_) rfl (by kernel_rfl) (by kernel_rfl) (by kernel_rfl) (fun _ _ _ h => h) (Or.inl ⟨by rfl, ?_⟩) hHeld ?_
    rotate_left
    · (intro W hSw; (try dsimp only at hSw); go_simp; all_goals (with_reducible rfl))
    simp only [List.getElem_toArray, List.getElem_cons_zero, List.getElem_cons_succ, Act.put, List.setIfInBounds_toArray, List.set_cons_zero, List.set_cons_succ]
    refine wpAnyH_take (i := 18) (v := ?_) rfl (by kernel_rfl) (by kernel_rfl) (by kernel_rfl) (fun _ _ _ h => h) (Or.inl ⟨by rfl, ?_⟩) hHeld ?_
    rotate_left
    · (intro W hSw; (try dsimp only at hSw); go_simp; all_goals (with_reducible rfl))
    simp only [List.getElem_toArray, List.getElem_cons_zero, List.getElem_cons_succ, Act.put, List.setIfInBounds_toArray, List.set_cons_zero, List.set_cons_succ]
    refine wpAnyH_done (by kernel_rfl) ?_ _
    refine NoPanic.normal ?_
    go_wp2_with fail
    go_ret
    exact ⟨rfl, hT2.1.2.out.2.2⟩

set_option maxRecDepth 20000 in
set_option maxHeartbeats 8000000 in
theorem walk_tf (a0 : Option Addr) (len0 cap0 : Nat) (z0 : List Int) (a1 : Option Addr) (len1 cap1 : Nat) (z1 : List Int) (a2 : Option Addr) (len2 cap2 : Nat) (z2 : List Int) (w : World) (s0 : Sl w a0 len0 z0) (c0 : len0 ≤ cap0) (r0 : cap0 ≤ 17592186043904) (e0 : a0 = none → len0 = 0 ∧ cap0 = 0) (s1 : Sl w a1 len1 z1) (c1 : len1 ≤ cap1) (r1 : cap1 ≤ 17592186043904) (e1 : a1 = none → len1 = 0 ∧ cap1 = 0) (s2 : Sl w a2 len2 z2) (c2 : len2 ≤ cap2) (r2 : cap2 ≤ 17592186043904) (e2 : a2 = none → len2 = 0 ∧ cap2 = 0) (u0 : usedN z0 ≤ 4096) (u1 : usedN z1 ≤ 4096) (u2 : usedN z2 ≤ 4096) (hl : len0 + len1 + len2 ≤ 1000) (hd1 : dvB (num z2) (num z0) = true) (hd2 : dvB (num z2) (num z1) = false) :
    Calls Try.prog 3 #[.slice a0 len0 cap0, .slice a1 len1 cap1, .slice a2 len2 cap2] w fun e w' => e = .returned (.bool true) ∧ Below w.heap.size w w' := by
  have B0 : Below w.heap.size w w := Below.refl _ _
  go_enter Try.func3, Try.ntmps3
  go_wp2_with fail
  refine (nawake_any w).mono ?_
  rintro e x1 ⟨rfl, hb⟩
  replace s0 := s0.below hb (Nat.le_refl _)
  replace s1 := s1.below hb (Nat.le_refl _)
  replace s2 := s2.below hb (Nat.le_refl _)
  replace B0 := step B0 hb
  clear hb
  go_wp2_with fail
  refine (long_no a0 a1 len0 cap0 len1 cap1 z0 z1 x1 s0 s1 (by omega) (by omega) u0 u1).mono ?_
  rintro e x2 ⟨rfl, hb⟩
  replace s0 := s0.below hb (Nat.le_refl _)
  replace s1 := s1.below hb (Nat.le_refl _)
  replace s2 := s2.below hb (Nat.le_refl _)
  replace B0 := step B0 hb
  clear hb
  go_wp2_with fail
  refine (rlong_no a2 len2 cap2 z2 x2 s2 (by omega) u2).mono ?_
  rintro e x3 ⟨rfl, hb⟩
  replace s0 := s0.below hb (Nat.le_refl _)
  replace s1 := s1.below hb (Nat.le_refl _)
  replace s2 := s2.below hb (Nat.le_refl _)
  replace B0 := step B0 hb
  clear hb
  go_wp2_with fail
  refine (oflaw_ok a0 len0 cap0 z0 x3 s0 e0 (by omega) c0 u0).mono ?_
  rintro e x4 ⟨ax, lx, kx, zx, rfl, hx, nx, hb⟩
  replace s0 := s0.below hb (Nat.le_refl _)
  replace s1 := s1.below hb (Nat.le_refl _)
  replace s2 := s2.below hb (Nat.le_refl _)
  replace B0 := step B0 hb
  clear hb
  go_wp2_with fail
  refine ent1 x4 _ _ (Q := fun W => Calls Try.prog _ _ W _) ?_
  intro x5 hb hs_x5 Vx
  replace hx := Nt.after hb hx
  replace s0 := s0.below hb (Nat.le_refl _)
  replace s1 := s1.below hb (Nat.le_refl _)
  replace s2 := s2.below hb (Nat.le_refl _)
  replace B0 := step B0 hb
  clear hb hs_x5
  refine (oflaw_ok a1 len1 cap1 z1 x5 s1 e1 (by omega) c1 u1).mono ?_
  rintro e x6 ⟨ay, ly, ky, zy, rfl, hy, ny, hb⟩
  replace Vx := Va.after hb Vx
  replace hx := Nt.after hb hx
  replace s0 := s0.below hb (Nat.le_refl _)
  replace s1 := s1.below hb (Nat.le_refl _)
  replace s2 := s2.below hb (Nat.le_refl _)
  replace B0 := step B0 hb
  clear hb
  have c_Vx := Vx.cell
  have f_Vx := Vx.frozen 0
  have l_Vx := Vx.lt
  have m_Vx := Nat.le_of_lt l_Vx
  go_wp2_with fail
  refine ent1 x6 _ _ (Q := fun W => Calls Try.prog _ _ W _) ?_
  intro x7 hb hs_x7 Vy
  replace Vx := Va.after hb Vx
  replace hx := Nt.after hb hx
  replace hy := Nt.after hb hy
  replace s0 := s0.below hb (Nat.le_refl _)
  replace s1 := s1.below hb (Nat.le_refl _)
  replace s2 := s2.below hb (Nat.le_refl _)
  replace B0 := step B0 hb
  clear hb hs_x7
  refine (oflaw_ok a2 len2 cap2 z2 x7 s2 e2 (by omega) c2 u2).mono ?_
  rintro e x8 ⟨az, lz, kz, zz, rfl, hz, nz, hb⟩
  replace Vx := Va.after hb Vx
  replace Vy := Va.after hb Vy
  replace hx := Nt.after hb hx
  replace hy := Nt.after hb hy
  replace s0 := s0.below hb (Nat.le_refl _)
  replace s1 := s1.below hb (Nat.le_refl _)
  replace s2 := s2.below hb (Nat.le_refl _)
  replace B0 := step B0 hb
  clear hb
  clear c_Vx f_Vx l_Vx m_Vx
  have c_Vx := Vx.cell
  have f_Vx := Vx.frozen 0
  have l_Vx := Vx.lt
  have m_Vx := Nat.le_of_lt l_Vx
  have c_Vy := Vy.cell
  have f_Vy := Vy.frozen 0
  have l_Vy := Vy.lt
  have m_Vy := Nat.le_of_lt l_Vy
  go_wp2_with fail
  refine ent1 x8 _ _ (Q := fun W => Calls Try.prog _ _ W _) ?_
  intro x9 hb hs_x9 Vz
  replace Vx := Va.after hb Vx
  replace Vy := Va.after hb Vy
  replace hx := Nt.after hb hx
  replace hy := Nt.after hb hy
  replace hz := Nt.after hb hz
  replace s0 := s0.below hb (Nat.le_refl _)
  replace s1 := s1.below hb (Nat.le_refl _)
  replace s2 := s2.below hb (Nat.le_refl _)
  replace B0 := step B0 hb
  clear hb hs_x9
  have fx := fits_len (n := len0) s0 (Nat.le_refl _)
  have fy := fits_len (n := len1) s1 (Nat.le_refl _)
  have fz := fits_len (n := len2) s2 (Nat.le_refl _)
  have x0 := hx.nonneg
  have y0 := hy.nonneg
  have q0 := hz.nonneg
  rw [← nx] at fx hd1
  rw [← ny] at fy
  rw [← nz] at fz hd1
  rw [← ny, ← nz] at hd2
  have HFX : Hid (num zx * num zz < pw 4096) := fit3 x0 fx fz (by omega)
  have HFY : Hid (num zy * num zz < pw 4096) := fit3 y0 fy fz (by omega)
  have HFG : Hid (((Int.gcd (num zx) (num zy) : Nat) : Int) * num zz < pw 4096) := fit3 (by omega) (gcd_lt x0 y0 fx fy) fz (by omega)
  have HQ0 : Hid (0 ≤ num zz) := q0
  have D1 : Hid (dvB (num zz) (num zx) = true) := hd1
  have D2 : Hid (dvB (num zz) (num zy) = false) := hd2
  clear fx fy fz x0 y0 q0 hd1 hd2 nx ny nz s0 s1 s2 e0 e1 e2
  refine (ngcd_any ax ay lx kx ly ky zx zy x9 hx hy).mono ?_
  rintro e x10 ⟨ag, lg, kg, zg, rfl, hg, ng, hb⟩
  replace Vx := Va.after hb Vx
  replace Vy := Va.after hb Vy
  replace Vz := Va.after hb Vz
  replace hx := Nt.after hb hx
  replace hy := Nt.after hb hy
  replace hz := Nt.after hb hz
  replace B0 := step B0 hb
  clear hb
  have HNG : Hid (num zg = (Int.gcd (num zx) (num zy) : Nat)) := ng
  clear ng
  clear c_Vx f_Vx l_Vx m_Vx c_Vy f_Vy l_Vy m_Vy
  have c_Vx := Vx.cell
  have f_Vx := Vx.frozen 0
  have l_Vx := Vx.lt
  have m_Vx := Nat.le_of_lt l_Vx
  have c_Vy := Vy.cell
  have f_Vy := Vy.frozen 0
  have l_Vy := Vy.lt
  have m_Vy := Nat.le_of_lt l_Vy
  have c_Vz := Vz.cell
  have f_Vz := Vz.frozen 0
  have l_Vz := Vz.lt
  have m_Vz := Nat.le_of_lt l_Vz
  go_wp2_with fail
  refine ent1 x10 _ _ (Q := fun W => Code.wp Try.prog _ _ _ W) ?_
  intro x11 hb hs_x11 Vg
  replace Vx := Va.after hb Vx
  replace Vy := Va.after hb Vy
  replace Vz := Va.after hb Vz
  replace hx := Nt.after hb hx
  replace hy := Nt.after hb hy
  replace hz := Nt.after hb hz
  replace hg := Nt.after hb hg
  replace B0 := step B0 hb
  clear hb hs_x11
  have hQ : Q4 w x10.heap.size x4.heap.size x6.heap.size x8.heap.size ag ax ay az lg lx ly lz kg kx ky kz zg zx zy zz x11 := ⟨⟨Vg, hg, B0⟩, ⟨Vx, hx, B0⟩, ⟨Vy, hy, B0⟩, ⟨Vz, hz, B0⟩⟩
  have hQ0 := hQ.drw
  clear Vg Vx Vy Vz hg hx hy hz B0 c_Vx f_Vx l_Vx m_Vx c_Vy f_Vy l_Vy m_Vy c_Vz f_Vz l_Vz m_Vz
  clear hQ
  go_cut [95] (fun s95 W => s95 = .bool false ∧ Hid (Q4 w x10.heap.size x4.heap.size x6.heap.size x8.heap.size ag ax ay az lg lx ly lz kg kx ky kz zg zx zy zz W))
  case first =>
    refine wp_region_noPanic ?_
    refine wp_region_held_drew (S := (fun W => W.cell? ⟨x10.heap.size, 0, none⟩ = some (.slice ag lg kg) ∧ W.cell? ⟨x4.heap.size, 0, none⟩ = some (.slice ax lx kx) ∧ W.cell? ⟨x6.heap.size, 0, none⟩ = some (.slice ay ly ky) ∧ W.cell? ⟨x8.heap.size, 0, none⟩ = some (.slice az lz kz))) (by kernel_rfl) hQ0.s (fun hHeld => ?_)
    refine wpAnyH_take (i := 0) (v := ?_) rfl (by kernel_rfl) (by kernel_rfl) (by kernel_rfl) (fun _ _ _ h => h) (Or.inl ⟨by rfl, ?_⟩) hHeld ?_
    rotate_left
    · (intro W hSw; (try dsimp only at hSw); go_simp; all_goals (with_reducible rfl))
    simp only [List.getElem_toArray, List.getElem_cons_zero, Act.put, List.setIfInBounds_toArray, List.set_cons_zero, List.set_cons_succ]
    refine wpAnyH_take (i := 1) (v := ?_) rfl (by kernel_rfl) (by kernel_rfl) (by kernel_rfl) (fun _ _ _ h => h) (Or.inl ⟨by rfl, ?_⟩) hHeld ?_
    rotate_left
    · (intro W hSw; (try dsimp only at hSw); go_simp; all_goals (with_reducible rfl))
    simp only [List.getElem_toArray, List.getElem_cons_zero, List.getElem_cons_succ, Act.put, List.setIfInBounds_toArray, List.set_cons_zero, List.set_cons_succ]
    refine wpAnyH_take (i := 2) (v := ?_) rfl (by kernel_rfl) (by kernel_rfl) (by kernel_rfl) (fun _ _ _ h => h) (Or.inl ⟨by rfl, ?_⟩) hHeld ?_
    rotate_left
    · (intro W hSw; (try dsimp only at hSw); go_simp; all_goals (with_reducible rfl))
    simp only [List.getElem_toArray, List.getElem_cons_zero, List.getElem_cons_succ, Act.put, List.setIfInBounds_toArray, List.set_cons_zero, List.set_cons_succ]
    refine wpAnyH_take (i := 3) (v := ?_) rfl (by kernel_rfl) (by kernel_rfl) (by kernel_rfl) (fun _ _ _ h => h) (Or.inl ⟨by rfl, ?_⟩) hHeld ?_
    rotate_left
    · (intro W hSw; (try dsimp only at hSw); go_simp; all_goals (with_reducible rfl))
    simp only [List.getElem_toArray, List.getElem_cons_zero, List.getElem_cons_succ, Act.put, List.setIfInBounds_toArray, List.set_cons_zero, List.set_cons_succ]
    refine wpAnyH_take (i := 4) (v := ?_) rfl (by kernel_rfl) (by kernel_rfl) (by kernel_rfl) (fun _ _ _ h => h) (Or.inl ⟨by rfl, ?_⟩) hHeld ?_
    rotate_left
    · (intro W hSw; (try dsimp only at hSw); go_simp; all_goals (with_reducible rfl))
    simp only [List.getElem_toArray, List.getElem_cons_zero, List.getElem_cons_succ, Act.put, List.setIfInBounds_toArray, List.set_cons_zero, List.set_cons_succ]
    refine wpAnyH_ready (rs := [5]) (by kernel_rfl) (by simp) ?_
    refine AllReadyH.cons rfl (fun K hK => ?_) AllReadyH.nil
    simp only [List.getElem_toArray, List.getElem_cons_zero, List.getElem_cons_succ]
    go_simp
    refine (divides_any ag ax lg kg lx kx zg zx _ hQ0.1.2.1 hQ0.2.1.2.1).mono ?_
    rintro e y1 ⟨rfl, b1⟩
    rw [show dvB (num zg) (num zx) = true by rw [HNG.out]; exact dvB_gcd_l _ _]
    have hQ1 := Q4.after b1 hQ0
    try go_wp2_with fail
    refine hK.out _ _ hQ1.s (fun hHeld => ?_)
    clear hK K
    refine wpAnyH_take (i := 6) (v := ?_) rfl (by kernel_rfl) (by kernel_rfl) (by kernel_rfl) (fun _ _ _ h => h) (Or.inl ⟨by rfl, ?_⟩) hHeld ?_
    rotate_left
    · (intro W hSw; (try dsimp only at hSw); go_simp; all_goals (with_reducible rfl))
    simp only [List.getElem_toArray, List.getElem_cons_zero, List.getElem_cons_succ, Act.put, List.setIfInBounds_toArray, List.set_cons_zero, List.set_cons_succ]
    refine wpAnyH_take (i := 7) (v := ?_) rfl (by kernel_rfl) (by kernel_rfl) (by kernel_rfl) (fun _ _ _ h => h) (Or.inl ⟨by rfl, ?_⟩) hHeld ?_
    rotate_left
    · (intro W hSw; (try dsimp only at hSw); go_simp; all_goals (with_reducible rfl))
    simp only [List.getElem_toArray, List.getElem_cons_zero, List.getElem_cons_succ, Act.put, List.setIfInBounds_toArray, List.set_cons_zero, List.set_cons_succ]
    refine wpAnyH_take (i := 8) (v := ?_) rfl (by kernel_rfl) (by kernel_rfl) (by kernel_rfl) (fun _ _ _ h => h) (Or.inl ⟨by rfl, ?_⟩) hHeld ?_
    rotate_left
    · (intro W hSw; (try dsimp only at hSw); go_simp; all_goals (with_reducible rfl))
    simp only [List.getElem_toArray, List.getElem_cons_zero, List.getElem_cons_succ, Act.put, List.setIfInBounds_toArray, List.set_cons_zero, List.set_cons_succ]
    refine wpAnyH_take (i := 9) (v := ?_) rfl (by kernel_rfl) (by kernel_rfl) (by kernel_rfl) (fun _ _ _ h => h) (Or.inl ⟨by rfl, ?_⟩) hHeld ?_
    rotate_left
    · (intro W hSw; (try dsimp only at hSw); go_simp; all_goals (with_reducible rfl))
    simp only [List.getElem_toArray, List.getElem_cons_zero, List.getElem_cons_succ, Act.put, List.setIfInBounds_toArray, List.set_cons_zero, List.set_cons_succ]
    refine wpAnyH_take (i := 10) (v := ?_) rfl (by kernel_rfl) (by kernel_rfl) (by kernel_rfl) (fun _ _ _ h => h) (Or.inl ⟨by rfl, ?_⟩) hHeld ?_
    rotate_left
    · (intro W hSw; (try dsimp only at hSw); go_simp; all_goals (with_reducible rfl))
    simp only [List.getElem_toArray, List.getElem_cons_zero, List.getElem_cons_succ, Act.put, List.setIfInBounds_toArray, List.set_cons_zero, List.set_cons_succ]
    refine wpAnyH_ready (rs := [11]) (by kernel_rfl) (by simp) ?_
    refine AllReadyH.cons rfl (fun K hK => ?_) AllReadyH.nil
    simp only [List.getElem_toArray, List.getElem_cons_zero, List.getElem_cons_succ]
    go_simp
    refine (divides_any ag ay lg kg ly ky zg zy _ hQ1.1.2.1 hQ1.2.2.1.2.1).mono ?_
    rintro e y2 ⟨rfl, b2⟩
    rw [show dvB (num zg) (num zy) = true by rw [HNG.out]; exact dvB_gcd_r _ _]
    have hQ2 := Q4.after b2 hQ1
    try go_wp2_with fail
    refine hK.out _ _ hQ2.s (fun hHeld => ?_)
    clear hK K
    refine wpAnyH_take (i := 12) (v := ?_) rfl (by kernel_rfl) (by kernel_rfl) (by kernel_rfl) (fun _ _ _ h => h) (Or.inl ⟨by rfl, ?_⟩) hHeld ?_
    rotate_left
    · (intro W hSw; (try dsimp only at hSw); go_simp; all_goals (with_reducible rfl))
    simp only [List.getElem_toArray, List.getElem_cons_zero, List.getElem_cons_succ, Act.put, List.setIfInBounds_toArray, List.set_cons_zero, List.set_cons_succ]
    refine wpAnyH_take (i := 13) (v := ?_) rfl (by kernel_rfl) (by kernel_rfl) (by kernel_rfl) (fun _ _ _ h => h) (Or.inl ⟨by rfl, ?_⟩) hHeld ?_
    rotate_left
    · (intro W hSw; (try dsimp only at hSw); go_simp; all_goals (with_reducible rfl))
    simp only [List.getElem_toArray, List.getElem_cons_zero, List.getElem_cons_succ, Act.put, List.setIfInBounds_toArray, List.set_cons_zero, List.set_cons_succ]
    refine wpAnyH_take (i := 14) (v := ?_) rfl (by kernel_rfl) (by kernel_rfl) (by kernel_rfl) (fun _ _ _ h => h) (Or.inl ⟨by rfl, ?_⟩) hHeld ?_
    rotate_left
    · (intro W hSw; (try dsimp only at hSw); go_simp; all_goals (with_reducible rfl))
    simp only [List.getElem_toArray, List.getElem_cons_zero, List.getElem_cons_succ, Act.put, List.setIfInBounds_toArray, List.set_cons_zero, List.set_cons_succ]
    refine wpAnyH_take (i := 15) (v := ?_) rfl (by kernel_rfl) (by kernel_rfl) (by kernel_rfl) (fun _ _ _ h => h) (Or.inl ⟨by rfl, ?_⟩) hHeld ?_
    rotate_left
    · (intro W hSw; (try dsimp only at hSw); go_simp; all_goals (with_reducible rfl))
    simp only [List.getElem_toArray, List.getElem_cons_zero, List.getElem_cons_succ, Act.put, List.setIfInBounds_toArray, List.set_cons_zero, List.set_cons_succ]
    refine wpAnyH_take (i := 16) (v := ?_) rfl (by kernel_rfl) (by kernel_rfl) (by kernel_rfl) (fun _ _ _ h => h) (Or.inl ⟨by rfl, ?_⟩) hHeld ?_
    rotate_left
    · (intro W hSw; (try dsimp only at hSw); go_simp; all_goals (with_reducible rfl))
    simp only [List.getElem_toArray, List.getElem_cons_zero, List.getElem_cons_succ, Act.put, List.setIfInBounds_toArray, List.set_cons_zero, List.set_cons_succ]
    refine wpAnyH_take (i := 17) (v := ?_) rfl (by kernel_rfl) (by kernel_rfl) (by kernel_rfl) (fun _ _ _ h => h) (Or.inl ⟨by rfl, ?_⟩) hHeld ?_
    rotate_left
    · (intro W hSw; (try dsimp only at hSw); go_simp; all_goals (with_reducible rfl))
    simp only [List.getElem_toArray, List.getElem_cons_zero, List.getElem_cons_succ, Act.put, List.setIfInBounds_toArray, List.set_cons_zero, List.set_cons_succ]
    refine wpAnyH_ready (rs := [18]) (by kernel_rfl) (by simp) ?_
    refine AllReadyH.cons rfl (fun K hK => ?_) AllReadyH.nil
    simp only [List.getElem_toArray, List.getElem_cons_zero, List.getElem_cons_succ]
    go_simp
    refine (ngcd_any ay ax ly ky lx kx zy zx _ hQ2.2.2.1.2.1 hQ2.2.1.2.1).mono ?_
    rintro e y3 ⟨ah, lh, kh, zh, rfl, hh, nh, b3⟩
    have hQ3 := Q4.after b3 hQ2
    try go_wp2_with fail
    refine hK.out _ _ hQ3.s (fun hHeld => ?_)
    clear hK K
    refine wpAnyH_ready (rs := [19]) (by kernel_rfl) (by simp) ?_
    refine AllReadyH.cons rfl (fun K hK => ?_) AllReadyH.nil
    simp only [List.getElem_toArray, List.getElem_cons_zero, List.getElem_cons_succ]
    go_simp
    refine (ncompare_any ag ah lg kg lh kh zg zh _ hQ3.1.2.1 hh).mono ?_
    rintro e y4 ⟨rfl, b4⟩
    rw [cmp3_eq (show num zg = num zh by rw [HNG.out, nh, Int.gcd_comm])]
    have hQ4 := Q4.after b4 hQ3
    try go_wp2_with fail
    refine hK.out _ _ hQ4.s (fun hHeld => ?_)
    clear hK K
    refine wpAnyH_take (i := 20) (v := ?_) rfl (by kernel_rfl) (by kernel_rfl) (by kernel_rfl) (fun _ _ _ h => h) (Or.inl ⟨by rfl, ?_⟩) hHeld ?_
    rotate_left
    · (intro W hSw; (try dsimp only at hSw); go_simp; all_goals (with_reducible rfl))
    simp only [List.getElem_toArray, List.getElem_cons_zero, List.getElem_cons_succ, Act.put, List.setIfInBounds_toArray, List.set_cons_zero, List.set_cons_succ]
    refine wpAnyH_take (i := 21) (v := ?_) rfl (by kernel_rfl) (by kernel_rfl) (by kernel_rfl) (fun _ _ _ h => h) (Or.inl ⟨by rfl, ?_⟩) hHeld ?_
    rotate_left
    · (intro W hSw; (try dsimp only at hSw); go_simp; all_goals (with_reducible rfl))
    simp only [List.getElem_toArray, List.getElem_cons_zero, List.getElem_cons_succ, Act.put, List.setIfInBounds_toArray, List.set_cons_zero, List.set_cons_succ]
    refine wpAnyH_take (i := 22) (v := ?_) rfl (by kernel_rfl) (by kernel_rfl) (by kernel_rfl) (fun _ _ _ h => h) (Or.inl ⟨by rfl, ?_⟩) hHeld ?_
    rotate_left
    · (intro W hSw; (try dsimp only at hSw); go_simp; all_goals (with_reducible rfl))
    simp only [List.getElem_toArray, List.getElem_cons_zero, List.getElem_cons_succ, Act.put, List.setIfInBounds_toArray, List.set_cons_zero, List.set_cons_succ]
    refine wpAnyH_take (i := 23) (v := ?_) rfl (by kernel_rfl) (by kernel_rfl) (by kernel_rfl) (fun _ _ _ h => h) (Or.inl ⟨by rfl, ?_⟩) hHeld ?_
    rotate_left
    · (intro W hSw; (try dsimp only at hSw); go_simp; all_goals (with_reducible rfl))
    simp only [List.getElem_toArray, List.getElem_cons_zero, List.getElem_cons_succ, Act.put, List.setIfInBounds_toArray, List.set_cons_zero, List.set_cons_succ]
    refine wpAnyH_take (i := 24) (v := ?_) rfl (by kernel_rfl) (by kernel_rfl) (by kernel_rfl) (fun _ _ _ h => h) (Or.inl ⟨by rfl, ?_⟩) hHeld ?_
    rotate_left
    · (intro W hSw; (try dsimp only at hSw); go_simp; all_goals (with_reducible rfl))
    simp only [List.getElem_toArray, List.getElem_cons_zero, List.getElem_cons_succ, Act.put, List.setIfInBounds_toArray, List.set_cons_zero, List.set_cons_succ]
    refine wpAnyH_ready (rs := [25]) (by kernel_rfl) (by simp) ?_
    refine AllReadyH.cons rfl (fun K hK => ?_) AllReadyH.nil
    simp only [List.getElem_toArray, List.getElem_cons_zero, List.getElem_cons_succ]
    go_simp
    refine (divides_any az ax lz kz lx kx zz zx _ hQ4.2.2.2.2.1 hQ4.2.1.2.1).mono ?_
    rintro e y5 ⟨rfl, b5⟩
    rw [D1.out]
    have hQ5 := Q4.after b5 hQ4
    try go_wp2_with fail
    refine hK.out _ _ hQ5.s (fun hHeld => ?_)
    clear hK K
    refine wpAnyH_take (i := 26) (v := ?_) rfl (by kernel_rfl) (by kernel_rfl) (by kernel_rfl) (fun _ _ _ h => h) (Or.inl ⟨by rfl, ?_⟩) hHeld ?_
    rotate_left
    · (intro W hSw; (try dsimp only at hSw); go_simp; all_goals (with_reducible rfl))
    simp only [List.getElem_toArray, List.getElem_cons_zero, List.getElem_cons_succ, Act.put, List.setIfInBounds_toArray, List.set_cons_zero, List.set_cons_succ]
    refine wpAnyH_take (i := 27) (v := ?_) rfl (by kernel_rfl) (by kernel_rfl) (by kernel_rfl) (fun _ _ _ h => h) (Or.inl ⟨by rfl, ?_⟩) hHeld ?_
    rotate_left
    · (intro W hSw; (try dsimp only at hSw); go_simp; all_goals (with_reducible rfl))
    simp only [List.getElem_toArray, List.getElem_cons_zero, List.getElem_cons_succ, Act.put, List.setIfInBounds_toArray, List.set_cons_zero, List.set_cons_succ]
    refine wpAnyH_take (i := 28) (v := ?_) rfl (by kernel_rfl) (by kernel_rfl) (by kernel_rfl) (fun _ _ _ h => h) (Or.inl ⟨by rfl, ?_⟩) hHeld ?_
    rotate_left
    · (intro W hSw; (try dsimp only at hSw); go_simp; all_goals (with_reducible rfl))
    simp only [List.getElem_toArray, List.getElem_cons_zero, List.getElem_cons_succ, Act.put, List.setIfInBounds_toArray, List.set_cons_zero, List.set_cons_succ]
    refine wpAnyH_ready (rs := [29]) (by kernel_rfl) (by simp) ?_
    refine AllReadyH.cons rfl (fun K hK => ?_) AllReadyH.nil
    simp only [List.getElem_toArray, List.getElem_cons_zero, List.getElem_cons_succ]
    go_simp
    refine (divides_any az ay lz kz ly ky zz zy _ hQ5.2.2.2.2.1 hQ5.2.2.1.2.1).mono ?_
    rintro e y6 ⟨rfl, b6⟩
    rw [D2.out]
    have hQ6 := Q4.after b6 hQ5
    try go_wp2_with fail
    refine hK.out _ _ hQ6.s (fun hHeld => ?_)
    clear hK K
    refine wpAnyH_take (i := 30) (v := ?_) rfl (by kernel_rfl) (by kernel_rfl) (by kernel_rfl) (fun _ _ _ h => h) (Or.inl ⟨by rfl, ?_⟩) hHeld ?_
    rotate_left
    · (intro W hSw; (try dsimp only at hSw); go_simp; all_goals (with_reducible rfl))
    simp only [List.getElem_toArray, List.getElem_cons_zero, List.getElem_cons_succ, Act.put, List.setIfInBounds_toArray, List.set_cons_zero, List.set_cons_succ]
    refine wpAnyH_take (i := 31) (v := ?_) rfl (by kernel_rfl) (by kernel_rfl) (by kernel_rfl) (fun _ _ _ h => h) (Or.inl ⟨by rfl, ?_⟩) hHeld ?_
    rotate_left
    · (intro W hSw; (try dsimp only at hSw); go_simp; all_goals (with_reducible rfl))
    simp only [List.getElem_toArray, List.getElem_cons_zero, List.getElem_cons_succ, Act.put, List.setIfInBounds_toArray, List.set_cons_zero, List.set_cons_succ]
    refine wpAnyH_take (i := 32) (v := undef) rfl (by kernel_rfl) (by kernel_rfl) (by kernel_rfl) (fun _ _ _ h => h) (Or.inr ⟨by rfl, rfl⟩) hHeld ?_
    simp only [List.getElem_toArray, List.getElem_cons_zero, List.getElem_cons_succ, Act.put, List.setIfInBounds_toArray, List.set_cons_zero, List.set_cons_succ]
    refine wpAnyH_take (i := 33) (v := undef) rfl (by kernel_rfl) (by kernel_rfl) (by kernel_rfl) (fun _ _ _ h => h) (Or.inr ⟨by rfl, rfl⟩) hHeld ?_
    simp only [List.getElem_toArray, List.getElem_cons_zero, List.getElem_cons_succ, Act.put, List.setIfInBounds_toArray, List.set_cons_zero, List.set_cons_succ]
    refine wpAnyH_take (i := 34) (v := undef) rfl (by kernel_rfl) (by kernel_rfl) (by kernel_rfl) (fun _ _ _ h => h) (Or.inr ⟨by rfl, rfl⟩) hHeld ?_
    simp only [List.getElem_toArray, List.getElem_cons_zero, List.getElem_cons_succ, Act.put, List.setIfInBounds_toArray, List.set_cons_zero, List.set_cons_succ]
    refine wpAnyH_take (i := 35) (v := undef) rfl (by kernel_rfl) (by kernel_rfl) (by kernel_rfl) (fun _ _ _ h => h) (Or.inr ⟨by rfl, rfl⟩) hHeld ?_
    simp only [List.getElem_toArray, List.getElem_cons_zero, List.getElem_cons_succ, Act.put, List.setIfInBounds_toArray, List.set_cons_zero, List.set_cons_succ]
    refine wpAnyH_take (i := 36) (v := ?_) rfl (by kernel_rfl) (by kernel_rfl) (by kernel_rfl) (fun _ _ _ h => h) (Or.inl ⟨by rfl, ?_⟩) hHeld ?_
    rotate_left
    · (intro W hSw; (try dsimp only at hSw); go_simp; all_goals (with_reducible rfl))
    simp only [List.getElem_toArray, List.getElem_cons_zero, List.getElem_cons_succ, Act.put, List.setIfInBounds_toArray, List.set_cons_zero, List.set_cons_succ]
    refine wpAnyH_take (i := 37) (v := ?_) rfl (by kernel_rfl) (by kernel_rfl) (by kernel_rfl) (fun _ _ _ h => h) (Or.inl ⟨by rfl, ?_⟩) hHeld ?_
    rotate_left
    · (intro W hSw; (try dsimp only at hSw); go_simp; all_goals (with_reducible rfl))
    simp only [List.getElem_toArray, List.getElem_cons_zero, List.getElem_cons_succ, Act.put, List.setIfInBounds_toArray, List.set_cons_zero, List.set_cons_succ]
    refine wpAnyH_done (by kernel_rfl) ?_ _
    refine NoPanic.normal ?_
    go_wp2_with fail
    go_meet
    exact ⟨rfl, hQ6⟩
  case rest =>
    obtain ⟨rfl, hH⟩ := hcut
    clear hQ0
    obtain ⟨⟨Vg, hg, B0⟩, ⟨Vx, hx, -⟩, ⟨Vy, hy, -⟩, ⟨Vz, hz, -⟩⟩ := hH
    have c_Vg := Vg.cell
    have f_Vg := Vg.frozen 0
    have l_Vg := Vg.lt
    have m_Vg := Nat.le_of_lt l_Vg
    have c_Vx := Vx.cell
    have f_Vx := Vx.frozen 0
    have l_Vx := Vx.lt
    have m_Vx := Nat.le_of_lt l_Vx
    have c_Vy := Vy.cell
    have f_Vy := Vy.frozen 0
    have l_Vy := Vy.lt
    have m_Vy := Nat.le_of_lt l_Vy
    have c_Vz := Vz.cell
    have f_Vz := Vz.frozen 0
    have l_Vz := Vz.lt
    have m_Vz := Nat.le_of_lt l_Vz
    go_wp2_with fail
    refine (nmul_ok ax az lx kx lz kz zx zz wc hx hz HFX.out).mono ?_
    rintro e x21 ⟨ap, lp, kp, zp, rfl, hp, np, hb⟩
    replace Vg := Va.after hb Vg
    replace Vx := Va.after hb Vx
    replace Vy := Va.after hb Vy
    replace Vz := Va.after hb Vz
    replace hg := Nt.after hb hg
    replace hx := Nt.after hb hx
    replace hy := Nt.after hb hy
    replace hz := Nt.after hb hz
    replace B0 := step B0 hb
    clear hb
    have HNP : Hid (num zp = num zx * num zz) := np
    clear np
    clear c_Vg f_Vg l_Vg m_Vg c_Vx f_Vx l_Vx m_Vx c_Vy f_Vy l_Vy m_Vy c_Vz f_Vz l_Vz m_Vz
    have c_Vg := Vg.cell
    have f_Vg := Vg.frozen 0
    have l_Vg := Vg.lt
    have m_Vg := Nat.le_of_lt l_Vg
    have c_Vx := Vx.cell
    have f_Vx := Vx.frozen 0
    have l_Vx := Vx.lt
    have m_Vx := Nat.le_of_lt l_Vx
    have c_Vy := Vy.cell
    have f_Vy := Vy.frozen 0
    have l_Vy := Vy.lt
    have m_Vy := Nat.le_of_lt l_Vy
    have c_Vz := Vz.cell
    have f_Vz := Vz.frozen 0
    have l_Vz := Vz.lt
    have m_Vz := Nat.le_of_lt l_Vz
    go_wp2_with fail
    refine ent1 x21 _ _ (Q := fun W => Calls Try.prog _ _ W _) ?_
    intro x22 hb hs_x22 Vp
    replace Vg := Va.after hb Vg
    replace Vx := Va.after hb Vx
    replace Vy := Va.after hb Vy
    replace Vz := Va.after hb Vz
    replace hg := Nt.after hb hg
    replace hx := Nt.after hb hx
    replace hy := Nt.after hb hy
    replace hz := Nt.after hb hz
    replace hp := Nt.after hb hp
    replace B0 := step B0 hb
    clear hb hs_x22
    refine (nmul_ok ay az ly ky lz kz zy zz x22 hy hz HFY.out).mono ?_
    rintro e x23 ⟨aq, lq, kq, zq, rfl, hq, nq, hb⟩
    replace Vg := Va.after hb Vg
    replace Vx := Va.after hb Vx
    replace Vy := Va.after hb Vy
    replace Vz := Va.after hb Vz
    replace Vp := Va.after hb Vp
    replace hg := Nt.after hb hg
    replace hx := Nt.after hb hx
    replace hy := Nt.after hb hy
    replace hz := Nt.after hb hz
    replace hp := Nt.after hb hp
    replace B0 := step B0 hb
    clear hb
    have HNQ : Hid (num zq = num zy * num zz) := nq
    clear nq
    clear c_Vg f_Vg l_Vg m_Vg c_Vx f_Vx l_Vx m_Vx c_Vy f_Vy l_Vy m_Vy c_Vz f_Vz l_Vz m_Vz
    have c_Vg := Vg.cell
    have f_Vg := Vg.frozen 0
    have l_Vg := Vg.lt
    have m_Vg := Nat.le_of_lt l_Vg
    have c_Vx := Vx.cell
    have f_Vx := Vx.frozen 0
    have l_Vx := Vx.lt
    have m_Vx := Nat.le_of_lt l_Vx
    have c_Vy := Vy.cell
    have f_Vy := Vy.frozen 0
    have l_Vy := Vy.lt
    have m_Vy := Nat.le_of_lt l_Vy
    have c_Vz := Vz.cell
    have f_Vz := Vz.frozen 0
    have l_Vz := Vz.lt
    have m_Vz := Nat.le_of_lt l_Vz
    have c_Vp := Vp.cell
    have f_Vp := Vp.frozen 0
    have l_Vp := Vp.lt
    have m_Vp := Nat.le_of_lt l_Vp
    go_wp2_with fail
    refine ent1 x23 _ _ (Q := fun W => Calls Try.prog _ _ W _) ?_
    intro x24 hb hs_x24 Vq
    replace Vg := Va.after hb Vg
    replace Vx := Va.after hb Vx
    replace Vy := Va.after hb Vy
    replace Vz := Va.after hb Vz
    replace Vp := Va.after hb Vp
    replace hg := Nt.after hb hg
    replace hx := Nt.after hb hx
    replace hy := Nt.after hb hy
    replace hz := Nt.after hb hz
    replace hp := Nt.after hb hp
    replace hq := Nt.after hb hq
    replace B0 := step B0 hb
    clear hb hs_x24
    refine (nmul_ok ag az lg kg lz kz zg zz x24 hg hz (by rw [HNG.out]; exact HFG.out)).mono ?_
    rintro e x25 ⟨at1, lt, kt, zt, rfl, ht, nt, hb⟩
    replace Vg := Va.after hb Vg
    replace Vx := Va.after hb Vx
    replace Vy := Va.after hb Vy
    replace Vz := Va.after hb Vz
    replace Vp := Va.after hb Vp
    replace Vq := Va.after hb Vq
    replace hg := Nt.after hb hg
    replace hx := Nt.after hb hx
    replace hy := Nt.after hb hy
    replace hz := Nt.after hb hz
    replace hp := Nt.after hb hp
    replace hq := Nt.after hb hq
    replace B0 := step B0 hb
    clear hb
    have HNT : Hid (num zt = num zg * num zz) := nt
    clear nt
    clear c_Vg f_Vg l_Vg m_Vg c_Vx f_Vx l_Vx m_Vx c_Vy f_Vy l_Vy m_Vy c_Vz f_Vz l_Vz m_Vz c_Vp f_Vp l_Vp m_Vp
    have c_Vg := Vg.cell
    have f_Vg := Vg.frozen 0
    have l_Vg := Vg.lt
    have m_Vg := Nat.le_of_lt l_Vg
    have c_Vx := Vx.cell
    have f_Vx := Vx.frozen 0
    have l_Vx := Vx.lt
    have m_Vx := Nat.le_of_lt l_Vx
    have c_Vy := Vy.cell
    have f_Vy := Vy.frozen 0
    have l_Vy := Vy.lt
    have m_Vy := Nat.le_of_lt l_Vy
    have c_Vz := Vz.cell
    have f_Vz := Vz.frozen 0
    have l_Vz := Vz.lt
    have m_Vz := Nat.le_of_lt l_Vz
    have c_Vp := Vp.cell
    have f_Vp := Vp.frozen 0
    have l_Vp := Vp.lt
    have m_Vp := Nat.le_of_lt l_Vp
    have c_Vq := Vq.cell
    have f_Vq := Vq.frozen 0
    have l_Vq := Vq.lt
    have m_Vq := Nat.le_of_lt l_Vq
    go_wp2_with fail
    refine ent1 x25 _ _ (Q := fun W => Code.wp Try.prog _ _ _ W) ?_
    intro x26 hb hs_x26 Vt
    replace Vg := Va.after hb Vg
    replace Vx := Va.after hb Vx
    replace Vy := Va.after hb Vy
    replace Vz := Va.after hb Vz
    replace Vp := Va.after hb Vp
    replace Vq := Va.after hb Vq
    replace hg := Nt.after hb hg
    replace hx := Nt.after hb hx
    replace hy := Nt.after hb hy
    replace hz := Nt.after hb hz
    replace hp := Nt.after hb hp
    replace hq := Nt.after hb hq
    replace ht := Nt.after hb ht
    replace B0 := step B0 hb
    clear hb hs_x26
    have hT : (x26.cell? ⟨x21.heap.size, 0, none⟩ = some (.slice ap lp kp) ∧ Hid (HV w x21.heap.size ap lp kp zp x26)) ∧ (x26.cell? ⟨x23.heap.size, 0, none⟩ = some (.slice aq lq kq) ∧ Hid (HV w x23.heap.size aq lq kq zq x26)) ∧ (x26.cell? ⟨x25.heap.size, 0, none⟩ = some (.slice at1 lt kt) ∧ Hid (HV w x25.heap.size at1 lt kt zt x26)) := ⟨HV.mk' Vp hp B0, HV.mk' Vq hq B0, HV.mk' Vt ht B0⟩
    have hT0 : (x26.drew.cell? ⟨x21.heap.size, 0, none⟩ = some (.slice ap lp kp) ∧ Hid (HV w x21.heap.size ap lp kp zp x26.drew)) ∧ (x26.drew.cell? ⟨x23.heap.size, 0, none⟩ = some (.slice aq lq kq) ∧ Hid (HV w x23.heap.size aq lq kq zq x26.drew)) ∧ (x26.drew.cell? ⟨x25.heap.size, 0, none⟩ = some (.slice at1 lt kt) ∧ Hid (HV w x25.heap.size at1 lt kt zt x26.drew)) := ⟨HV.dr hT.1, HV.dr hT.2.1, HV.dr hT.2.2⟩
    clear Vg Vx Vy Vz hg hx hy hz Vp Vq Vt hp hq ht B0 hT c_Vg f_Vg l_Vg m_Vg c_Vx f_Vx l_Vx m_Vx c_Vy f_Vy l_Vy m_Vy c_Vz f_Vz l_Vz m_Vz c_Vp f_Vp l_Vp m_Vp c_Vq f_Vq l_Vq m_Vq
    refine wp_region_noPanic ?_
    refine wp_region_held_drew (S := (fun W => W.cell? ⟨x21.heap.size, 0, none⟩ = some (.slice ap lp kp) ∧ W.cell? ⟨x23.heap.size, 0, none⟩ = some (.slice aq lq kq) ∧ W.cell? ⟨x25.heap.size, 0, none⟩ = some (.slice at1 lt kt))) (by kernel_rfl) ⟨hT0.1.1, hT0.2.1.1, hT0.2.2.1⟩ (fun hHeld => ?_)
    refine wpAnyH_take (i := 0) (v := ?_) rfl (by kernel_rfl) (by kernel_rfl) (by kernel_rfl) (fun _ _ _ h => h) (Or.inl ⟨by rfl, ?_⟩) hHeld ?_
    rotate_left
    · (intro W hSw; (try dsimp only at hSw); go_simp; all_goals (with_reducible rfl))
    simp only [List.getElem_toArray, List.getElem_cons_zero, Act.put, List.setIfInBounds_toArray, List.set_cons_zero, List.set_cons_succ]
    refine wpAnyH_take (i := 1) (v := ?_) rfl (by kernel_rfl) (by kernel_rfl) (by kernel_rfl) (fun _ _ _ h => h) (Or.inl ⟨by rfl, ?_⟩) hHeld ?_
    rotate_left
    · (intro W hSw; (try dsimp only at hSw); go_simp; all_goals (with_reducible rfl))
    simp only [List.getElem_toArray, List.getElem_cons_zero, List.getElem_cons_succ, Act.put, List.setIfInBounds_toArray, List.set_cons_zero, List.set_cons_succ]
    refine wpAnyH_take (i := 2) (v := ?_) rfl (by kernel_rfl) (by kernel_rfl) (by kernel_rfl) (fun _ _ _ h => h) (Or.inl ⟨by rfl, ?_⟩) hHeld ?_
    rotate_left
    · (intro W hSw; (try dsimp only at hSw); go_simp; all_goals (with_reducible rfl))
    simp only [List.getElem_toArray, List.getElem_cons_zero, List.getElem_cons_succ, Act.put, List.setIfInBounds_toArray, List.set_cons_zero, List.set_cons_succ]
    refine wpAnyH_take (i := 3) (v := ?_) rfl (by kernel_rfl) (by kernel_rfl) (by kernel_rfl) (fun _ _ _ h => h) (Or.inl ⟨by rfl, ?_⟩) hHeld ?_
    rotate_left
    · (intro W hSw; (try dsimp only at hSw); go_simp; all_goals (with_reducible rfl))
    simp only [List.getElem_toArray, List.getElem_cons_zero, List.getElem_cons_succ, Act.put, List.setIfInBounds_toArray, List.set_cons_zero, List.set_cons_succ]
    refine wpAnyH_take (i := 4) (v := ?_) rfl (by kernel_rfl) (by kernel_rfl) (by kernel_rfl) (fun _ _ _ h => h) (Or.inl ⟨by rfl, ?_⟩) hHeld ?_
    rotate_left
    · (intro W hSw; (try dsimp only at hSw); go_simp; all_goals (with_reducible rfl))
    simp only [List.getElem_toArray, List.getElem_cons_zero, List.getElem_cons_succ, Act.put, List.setIfInBounds_toArray, List.set_cons_zero, List.set_cons_succ]
    refine wpAnyH_take (i := 5) (v := ?_) rfl (by kernel_rfl) (by kernel_rfl) (by kernel_rfl) (fun _ _ _ h => h) (Or.inl ⟨by rfl, ?_⟩) hHeld ?_
    rotate_left
    · (intro W hSw; (try dsimp only at hSw); go_simp; all_goals (with_reducible rfl))
    simp only [List.getElem_toArray, List.getElem_cons_zero, List.getElem_cons_succ, Act.put, List.setIfInBounds_toArray, List.set_cons_zero, List.set_cons_succ]
    refine wpAnyH_take (i := 6) (v := ?_) rfl (by kernel_rfl) (by kernel_rfl) (by kernel_rfl) (fun _ _ _ h => h) (Or.inl ⟨by rfl, ?_⟩) hHeld ?_
    rotate_left
    · (intro W hSw; (try dsimp only at hSw); go_simp; all_goals (with_reducible rfl))
    simp only [List.getElem_toArray, List.getElem_cons_zero, List.getElem_cons_succ, Act.put, List.setIfInBounds_toArray, List.set_cons_zero, List.set_cons_succ]
    refine wpAnyH_take (i := 7) (v := ?_) rfl (by kernel_rfl) (by kernel_rfl) (by kernel_rfl) (fun _ _ _ h => h) (Or.inl ⟨by rfl, ?_⟩) hHeld ?_
    rotate_left
    · (intro W hSw; (try dsimp only at hSw); go_simp; all_goals (with_reducible rfl))
    simp only [List.getElem_toArray, List.getElem_cons_zero, List.getElem_cons_succ, Act.put, List.setIfInBounds_toArray, List.set_cons_zero, List.set_cons_succ]
    refine wpAnyH_take (i := 8) (v := ?_) rfl (by kernel_rfl) (by kernel_rfl) (by kernel_rfl) (fun _ _ _ h => h) (Or.inl ⟨by rfl, ?_⟩) hHeld ?_
    rotate_left
    · (intro W hSw; (try dsimp only at hSw); go_simp; all_goals (with_reducible rfl))
    simp only [List.getElem_toArray, List.getElem_cons_zero, List.getElem_cons_succ, Act.put, List.setIfInBounds_toArray, List.set_cons_zero, List.set_cons_succ]
    refine wpAnyH_take (i := 9) (v := ?_) rfl (by kernel_rfl) (by kernel_rfl) (by kernel_rfl) (fun _ _ _ h => h) (Or.inl ⟨by rfl, ?_⟩) hHeld ?_
    rotate_left
    · (intro W hSw; (try dsimp only at hSw); go_simp; all_goals (with_reducible rfl))
    simp only [List.getElem_toArray, List.getElem_cons_zero, List.getElem_cons_succ, Act.put, List.setIfInBounds_toArray, List.set_cons_zero, List.set_cons_succ]
    refine wpAnyH_take (i := 10) (v := ?_) rfl (by kernel_rfl) (by kernel_rfl) (by kernel_rfl) (fun _ _ _ h => h) (Or.inl ⟨by rfl, ?_⟩) hHeld ?_
    rotate_left
    · (intro W hSw; (try dsimp only at hSw); go_simp; all_goals (with_reducible rfl))
    simp only [List.getElem_toArray, List.getElem_cons_zero, List.getElem_cons_succ, Act.put, List.setIfInBounds_toArray, List.set_cons_zero, List.set_cons_succ]
    refine wpAnyH_take (i := 11) (v := ?_) rfl (by kernel_rfl) (by kernel_rfl) (by kernel_rfl) (fun _ _ _ h => h) (Or.inl ⟨by rfl, ?_⟩) hHeld ?_
    rotate_left
    · (intro W hSw; (try dsimp only at hSw); go_simp; all_goals (with_reducible rfl))
    simp only [List.getElem_toArray, List.getElem_cons_zero, List.getElem_cons_succ, Act.put, List.setIfInBounds_toArray, List.set_cons_zero, List.set_cons_succ]
    refine wpAnyH_take (i := 12) (v := ?_) rfl (by kernel_rfl) (by kernel_rfl) (by kernel_rfl) (fun _ _ _ h => h) (Or.inl ⟨by rfl, ?_⟩) hHeld ?_
    rotate_left
    · (intro W hSw; (try dsimp only at hSw); go_simp; all_goals (with_reducible rfl))
    simp only [List.getElem_toArray, List.getElem_cons_zero, List.getElem_cons_succ, Act.put, List.setIfInBounds_toArray, List.set_cons_zero, List.set_cons_succ]
    refine wpAnyH_take (i := 14) (v := ?_) rfl (by kernel_rfl) (by kernel_rfl) (by kernel_rfl) (fun _ _ _ h => h) (Or.inl ⟨by rfl, ?_⟩) hHeld ?_
    rotate_left
    · (intro W hSw; (try dsimp only at hSw); go_simp; all_goals (with_reducible rfl))
    simp only [List.getElem_toArray, List.getElem_cons_zero, List.getElem_cons_succ, Act.put, List.setIfInBounds_toArray, List.set_cons_zero, List.set_cons_succ]
    refine wpAnyH_ready (rs := [13]) (by kernel_rfl) (by simp) ?_
    refine AllReadyH.cons rfl (fun K hK => ?_) AllReadyH.nil
    simp only [List.getElem_toArray, List.getElem_cons_zero, List.getElem_cons_succ]
    go_simp
    refine (ngcd_any ap aq lp kp lq kq zp zq _ (H3.n1 hT0) (H3.n2 hT0)).mono ?_
    rintro e y1 ⟨au, lu, ku, zu, rfl, hu, nu, b1⟩
    have hT1 := H3.call b1 hT0
    try go_wp2_with fail
    refine hK.out _ _ ⟨hT1.1.1, hT1.2.1.1, hT1.2.2.1⟩ (fun hHeld => ?_)
    clear hK K
    refine wpAnyH_ready (rs := [15]) (by kernel_rfl) (by simp) ?_
    refine AllReadyH.cons rfl (fun K hK => ?_) AllReadyH.nil
    simp only [List.getElem_toArray, List.getElem_cons_zero, List.getElem_cons_succ]
    go_simp
    refine (ncompare_any au at1 lu ku lt kt zu zt _ hu (H3.n3 hT1)).mono ?_
    rintro e y2 ⟨rfl, b2⟩
    rw [cmp3_eq (show num zu = num zt by rw [nu, HNP.out, HNQ.out, HNT.out, HNG.out]; exact gcd_times HQ0.out)]
    have hT2 := H3.call b2 hT1
    try go_wp2_with fail
    refine hK.out _ _ ⟨hT2.1.1, hT2.2.1.1, hT2.2.2.1⟩ (fun hHeld => ?_)
    clear hK K
    refine wpAnyH_take (i := 16) (v := ?_) rfl (by kernel_rfl) (by kernel_rfl) (by kernel_rfl) (fun _ _ _ h => h) (Or.inl ⟨by rfl, ?_⟩) hHeld ?_
    rotate_left
    · (intro W hSw; (try dsimp only at hSw); go_simp; all_goals (with_reducible rfl))
    simp only [List.getElem_toArray, List.getElem_cons_zero, List.getElem_cons_succ, Act.put, List.setIfInBounds_toArray, List.set_cons_zero, List.set_cons_succ]
    refine wpAnyH_take (i := 17) (v := ?_) rfl (by kernel_rfl) (by kernel_rfl) (by kernel_rfl) (fun _ _ _ h => h) (Or.inl ⟨by rfl, ?_⟩) hHeld ?_
    rotate_left
    · (intro W hSw; (try dsimp only at hSw); go_simp; all_goals (with_reducible rfl))
    simp only [List.getElem_toArray, List.getElem_cons_zero, List.getElem_cons_succ, Act.put, List.setIfInBounds_toArray, List.set_cons_zero, List.set_cons_succ]
    refine wpAnyH_take (i := 18) (v := ?_) rfl (by kernel_rfl) (by kernel_rfl) (by kernel_rfl) (fun _ _ _ h => h) (Or.inl ⟨by rfl, ?_⟩) hHeld ?_
    rotate_left
    · (intro W hSw; (try dsimp only at hSw); go_simp; all_goals (with_reducible rfl))
    simp only [List.getElem_toArray, List.getElem_cons_zero, List.getElem_cons_succ, Act.put, List.setIfInBounds_toArray, List.set_cons_zero, List.set_cons_succ]
    refine wpAnyH_done (by kernel_rfl) ?_ _
    refine NoPanic.normal ?_
    go_wp2_with fail
    go_ret
    exact ⟨rfl, hT2.1.2.out.2.2⟩

set_option maxRecDepth 20000 in
set_option maxHeartbeats 8000000 in
theorem walk_tt (a0 : Option Addr) (len0 cap0 : Nat) (z0 : List Int) (a1 : Option Addr) (len1 cap1 : Nat) (z1 : List Int) (a2 : Option Addr) (len2 cap2 : Nat) (z2 : List Int) (w : World) (s0 : Sl w a0 len0 z0) (c0 : len0 ≤ cap0) (r0 : cap0 ≤ 17592186043904) (e0 : a0 = none → len0 = 0 ∧ cap0 = 0) (s1 : Sl w a1 len1 z1) (c1 : len1 ≤ cap1) (r1 : cap1 ≤ 17592186043904) (e1 : a1 = none → len1 = 0 ∧ cap1 = 0) (s2 : Sl w a2 len2 z2) (c2 : len2 ≤ cap2) (r2 : cap2 ≤ 17592186043904) (e2 : a2 = none → len2 = 0 ∧ cap2 = 0) (u0 : usedN z0 ≤ 4096) (u1 : usedN z1 ≤ 4096) (u2 : usedN z2 ≤ 4096) (hl : len0 + len1 + len2 ≤ 1000) (hd1 : dvB (num z2) (num z0) = true) (hd2 : dvB (num z2) (num z1) = true) :
    Calls Try.prog 3 #[.slice a0 len0 cap0, .slice a1 len1 cap1, .slice a2 len2 cap2] w fun e w' => e = .returned (.bool true) ∧ Below w.heap.size w w' := by
  have B0 : Below w.heap.size w w := Below.refl _ _
  go_enter Try.func3, Try.ntmps3
  go_wp2_with fail
  refine (nawake_any w).mono ?_
  rintro e x1 ⟨rfl, hb⟩
  replace s0 := s0.below hb (Nat.le_refl _)
  replace s1 := s1.below hb (Nat.le_refl _)
  replace s2 := s2.below hb (Nat.le_refl _)
  replace B0 := step B0 hb
  clear hb
  go_wp2_with fail
  refine (long_no a0 a1 len0 cap0 len1 cap1 z0 z1 x1 s0 s1 (by omega) (by omega) u0 u1).mono ?_
  rintro e x2 ⟨rfl, hb⟩
  replace s0 := s0.below hb (Nat.le_refl _)
  replace s1 := s1.below hb (Nat.le_refl _)
  replace s2 := s2.below hb (Nat.le_refl _)
  replace B0 := step B0 hb
  clear hb
  go_wp2_with fail
  refine (rlong_no a2 len2 cap2 z2 x2 s2 (by omega) u2).mono ?_
  rintro e x3 ⟨rfl, hb⟩
  replace s0 := s0.below hb (Nat.le_refl _)
  replace s1 := s1.below hb (Nat.le_refl _)
  replace s2 := s2.below hb (Nat.le_refl _)
  replace B0 := step B0 hb
  clear hb
  go_wp2_with fail
  refine (oflaw_ok a0 len0 cap0 z0 x3 s0 e0 (by omega) c0 u0).mono ?_
  rintro e x4 ⟨ax, lx, kx, zx, rfl, hx, nx, hb⟩
  replace s0 := s0.below hb (Nat.le_refl _)
  replace s1 := s1.below hb (Nat.le_refl _)
  replace s2 := s2.below hb (Nat.le_refl _)
  replace B0 := step B0 hb
  clear hb
  go_wp2_with fail
  refine ent1 x4 _ _ (Q := fun W => Calls Try.prog _ _ W _) ?_
  intro x5 hb hs_x5 Vx
  replace hx := Nt.after hb hx
  replace s0 := s0.below hb (Nat.le_refl _)
  replace s1 := s1.below hb (Nat.le_refl _)
  replace s2 := s2.below hb (Nat.le_refl _)
  replace B0 := step B0 hb
  clear hb hs_x5
  refine (oflaw_ok a1 len1 cap1 z1 x5 s1 e1 (by omega) c1 u1).mono ?_
  rintro e x6 ⟨ay, ly, ky, zy, rfl, hy, ny, hb⟩
  replace Vx := Va.after hb Vx
  replace hx := Nt.after hb hx
  replace s0 := s0.below hb (Nat.le_refl _)
  replace s1 := s1.below hb (Nat.le_refl _)
  replace s2 := s2.below hb (Nat.le_refl _)
  replace B0 := step B0 hb
  clear hb
  have c_Vx := Vx.cell
  have f_Vx := Vx.frozen 0
  have l_Vx := Vx.lt
  have m_Vx := Nat.le_of_lt l_Vx
  go_wp2_with fail
  refine ent1 x6 _ _ (Q := fun W => Calls Try.prog _ _ W _) ?_
  intro x7 hb hs_x7 Vy
  replace Vx := Va.after hb Vx
  replace hx := Nt.after hb hx
  replace hy := Nt.after hb hy
  replace s0 := s0.below hb (Nat.le_refl _)
  replace s1 := s1.below hb (Nat.le_refl _)
  replace s2 := s2.below hb (Nat.le_refl _)
  replace B0 := step B0 hb
  clear hb hs_x7
  refine (oflaw_ok a2 len2 cap2 z2 x7 s2 e2 (by omega) c2 u2).mono ?_
  rintro e x8 ⟨az, lz, kz, zz, rfl, hz, nz, hb⟩
  replace Vx := Va.after hb Vx
  replace Vy := Va.after hb Vy
  replace hx := Nt.after hb hx
  replace hy := Nt.after hb hy
  replace s0 := s0.below hb (Nat.le_refl _)
  replace s1 := s1.below hb (Nat.le_refl _)
  replace s2 := s2.below hb (Nat.le_refl _)
  replace B0 := step B0 hb
  clear hb
  clear c_Vx f_Vx l_Vx m_Vx
  have c_Vx := Vx.cell
  have f_Vx := Vx.frozen 0
  have l_Vx := Vx.lt
  have m_Vx := Nat.le_of_lt l_Vx
  have c_Vy := Vy.cell
  have f_Vy := Vy.frozen 0
  have l_Vy := Vy.lt
  have m_Vy := Nat.le_of_lt l_Vy
  go_wp2_with fail
  refine ent1 x8 _ _ (Q := fun W => Calls Try.prog _ _ W _) ?_
  intro x9 hb hs_x9 Vz
  replace Vx := Va.after hb Vx
  replace Vy := Va.after hb Vy
  replace hx := Nt.after hb hx
  replace hy := Nt.after hb hy
  replace hz := Nt.after hb hz
  replace s0 := s0.below hb (Nat.le_refl _)
  replace s1 := s1.below hb (Nat.le_refl _)
  replace s2 := s2.below hb (Nat.le_refl _)
  replace B0 := step B0 hb
  clear hb hs_x9
  have fx := fits_len (n := len0) s0 (Nat.le_refl _)
  have fy := fits_len (n := len1) s1 (Nat.le_refl _)
  have fz := fits_len (n := len2) s2 (Nat.le_refl _)
  have x0 := hx.nonneg
  have y0 := hy.nonneg
  have q0 := hz.nonneg
  rw [← nx] at fx hd1
  rw [← ny] at fy
  rw [← nz] at fz hd1
  rw [← ny, ← nz] at hd2
  have HFX : Hid (num zx * num zz < pw 4096) := fit3 x0 fx fz (by omega)
  have HFY : Hid (num zy * num zz < pw 4096) := fit3 y0 fy fz (by omega)
  have HFG : Hid (((Int.gcd (num zx) (num zy) : Nat) : Int) * num zz < pw 4096) := fit3 (by omega) (gcd_lt x0 y0 fx fy) fz (by omega)
  have HQ0 : Hid (0 ≤ num zz) := q0
  have D1 : Hid (dvB (num zz) (num zx) = true) := hd1
  have D2 : Hid (dvB (num zz) (num zy) = true) := hd2
  clear fx fy fz x0 y0 q0 hd1 hd2 nx ny nz s0 s1 s2 e0 e1 e2
  refine (ngcd_any ax ay lx kx ly ky zx zy x9 hx hy).mono ?_
  rintro e x10 ⟨ag, lg, kg, zg, rfl, hg, ng, hb⟩
  replace Vx := Va.after hb Vx
  replace Vy := Va.after hb Vy
  replace Vz := Va.after hb Vz
  replace hx := Nt.after hb hx
  replace hy := Nt.after hb hy
  replace hz := Nt.after hb hz
  replace B0 := step B0 hb
  clear hb
  have HNG : Hid (num zg = (Int.gcd (num zx) (num zy) : Nat)) := ng
  clear ng
  clear c_Vx f_Vx l_Vx m_Vx c_Vy f_Vy l_Vy m_Vy
  have c_Vx := Vx.cell
  have f_Vx := Vx.frozen 0
  have l_Vx := Vx.lt
  have m_Vx := Nat.le_of_lt l_Vx
  have c_Vy := Vy.cell
  have f_Vy := Vy.frozen 0
  have l_Vy := Vy.lt
  have m_Vy := Nat.le_of_lt l_Vy
  have c_Vz := Vz.cell
  have f_Vz := Vz.frozen 0
  have l_Vz := Vz.lt
  have m_Vz := Nat.le_of_lt l_Vz
  go_wp2_with fail
  refine ent1 x10 _ _ (Q := fun W => Code.wp Try.prog _ _ _ W) ?_
  intro x11 hb hs_x11 Vg
  replace Vx := Va.after hb Vx
  replace Vy := Va.after hb Vy
  replace Vz := Va.after hb Vz
  replace hx := Nt.after hb hx
  replace hy := Nt.after hb hy
  replace hz := Nt.after hb hz
  replace hg := Nt.after hb hg
  replace B0 := step B0 hb
  clear hb hs_x11
  have hQ : Q4 w x10.heap.size x4.heap.size x6.heap.size x8.heap.size ag ax ay az lg lx ly lz kg kx ky kz zg zx zy zz x11 := ⟨⟨Vg, hg, B0⟩, ⟨Vx, hx, B0⟩, ⟨Vy, hy, B0⟩, ⟨Vz, hz, B0⟩⟩
  have hQ0 := hQ.drw
  clear Vg Vx Vy Vz hg hx hy hz B0 c_Vx f_Vx l_Vx m_Vx c_Vy f_Vy l_Vy m_Vy c_Vz f_Vz l_Vz m_Vz
  clear hQ
  go_cut [95] (fun s95 W => s95 = .bool false ∧ Hid (Q4 w x10.heap.size x4.heap.size x6.heap.size x8.heap.size ag ax ay az lg lx ly lz kg kx ky kz zg zx zy zz W))
  case first =>
    refine wp_region_noPanic ?_
    refine wp_region_held_drew (S := (fun W => W.cell? ⟨x10.heap.size, 0, none⟩ = some (.slice ag lg kg) ∧ W.cell? ⟨x4.heap.size, 0, none⟩ = some (.slice ax lx kx) ∧ W.cell? ⟨x6.heap.size, 0, none⟩ = some (.slice ay ly ky) ∧ W.cell? ⟨x8.heap.size, 0, none⟩ = some (.slice az lz kz))) (by kernel_rfl) hQ0.s (fun hHeld => ?_)
    refine wpAnyH_take (i := 0) (v := ?_) rfl (by kernel_rfl) (by kernel_rfl) (by kernel_rfl) (fun _ _ _ h => h) (Or.inl ⟨by rfl, ?_⟩) hHeld ?_
    rotate_left
    · (intro W hSw; (try dsimp only at hSw); go_simp; all_goals (with_reducible rfl))
    simp only [List.getElem_toArray, List.getElem_cons_zero, Act.put, List.setIfInBounds_toArray, List.set_cons_zero, List.set_cons_succ]
    refine wpAnyH_take (i := 1) (v := ?_) rfl (by kernel_rfl) (by kernel_rfl) (by kernel_rfl) (fun _ _ _ h => h) (Or.inl ⟨by rfl, ?_⟩) hHeld ?_
    rotate_left
    · (intro W hSw; (try dsimp only at hSw); go_simp; all_goals (with_reducible rfl))
    simp only [List.getElem_toArray, List.getElem_cons_zero, List.getElem_cons_succ, Act.put, List.setIfInBounds_toArray, List.set_cons_zero, List.set_cons_succ]
    refine wpAnyH_take (i := 2) (v := ?_) rfl (by kernel_rfl) (by kernel_rfl) (by kernel_rfl) (fun _ _ _ h => h) (Or.inl ⟨by rfl, ?_⟩) hHeld ?_
    rotate_left
    · (intro W hSw; (try dsimp only at hSw); go_simp; all_goals (with_reducible rfl))
    simp only [List.getElem_toArray, List.getElem_cons_zero, List.getElem_cons_succ, Act.put, List.setIfInBounds_toArray, List.set_cons_zero, List.set_cons_succ]
    refine wpAnyH_take (i := 3) (v := ?_) rfl (by kernel_rfl) (by kernel_rfl) (by kernel_rfl) (fun _ _ _ h => h) (Or.inl ⟨by rfl, ?_⟩) hHeld ?_
    rotate_left
    · (intro W hSw; (try dsimp only at hSw); go_simp; all_goals (with_reducible rfl))
    simp only [List.getElem_toArray, List.getElem_cons_zero, List.getElem_cons_succ, Act.put, List.setIfInBounds_toArray, List.set_cons_zero, List.set_cons_succ]
    refine wpAnyH_take (i := 4) (v := ?_) rfl (by kernel_rfl) (by kernel_rfl) (by kernel_rfl) (fun _ _ _ h => h) (Or.inl ⟨by rfl, ?_⟩) hHeld ?_
    rotate_left
    · (intro W hSw; (try dsimp only at hSw); go_simp; all_goals (with_reducible rfl))
    simp only [List.getElem_toArray, List.getElem_cons_zero, List.getElem_cons_succ, Act.put, List.setIfInBounds_toArray, List.set_cons_zero, List.set_cons_succ]
    refine wpAnyH_ready (rs := [5]) (by kernel_rfl) (by simp) ?_
    refine AllReadyH.cons rfl (fun K hK => ?_) AllReadyH.nil
    simp only [List.getElem_toArray, List.getElem_cons_zero, List.getElem_cons_succ]
    go_simp
    refine (divides_any ag ax lg kg lx kx zg zx _ hQ0.1.2.1 hQ0.2.1.2.1).mono ?_
    rintro e y1 ⟨rfl, b1⟩
    rw [show dvB (num zg) (num zx) = true by rw [HNG.out]; exact dvB_gcd_l _ _]
    have hQ1 := Q4.after b1 hQ0
    try go_wp2_with fail
    refine hK.out _ _ hQ1.s (fun hHeld => ?_)
    clear hK K
    refine wpAnyH_take (i := 6) (v := ?_) rfl (by kernel_rfl) (by kernel_rfl) (by kernel_rfl) (fun _ _ _ h => h) (Or.inl ⟨by rfl, ?_⟩) hHeld ?_
    rotate_left
    · (intro W hSw; (try dsimp only at hSw); go_simp; all_goals (with_reducible rfl))
    simp only [List.getElem_toArray, List.getElem_cons_zero, List.getElem_cons_succ, Act.put, List.setIfInBounds_toArray, List.set_cons_zero, List.set_cons_succ]
    refine wpAnyH_take (i := 7) (v := ?_) rfl (by kernel_rfl) (by kernel_rfl) (by kernel_rfl) (fun _ _ _ h => h) (Or.inl ⟨by rfl, ?_⟩) hHeld ?_
    rotate_left
    · (intro W hSw; (try dsimp only at hSw); go_simp; all_goals (with_reducible rfl))
    simp only [List.getElem_toArray, List.getElem_cons_zero, List.getElem_cons_succ, Act.put, List.setIfInBounds_toArray, List.set_cons_zero, List.set_cons_succ]
    refine wpAnyH_take (i := 8) (v := ?_) rfl (by kernel_rfl) (by kernel_rfl) (by kernel_rfl) (fun _ _ _ h => h) (Or.inl ⟨by rfl, ?_⟩) hHeld ?_
    rotate_left
    · (intro W hSw; (try dsimp only at hSw); go_simp; all_goals (with_reducible rfl))
    simp only [List.getElem_toArray, List.getElem_cons_zero, List.getElem_cons_succ, Act.put, List.setIfInBounds_toArray, List.set_cons_zero, List.set_cons_succ]
    refine wpAnyH_take (i := 9) (v := ?_) rfl (by kernel_rfl) (by kernel_rfl) (by kernel_rfl) (fun _ _ _ h => h) (Or.inl ⟨by rfl, ?_⟩) hHeld ?_
    rotate_left
    · (intro W hSw; (try dsimp only at hSw); go_simp; all_goals (with_reducible rfl))
    simp only [List.getElem_toArray, List.getElem_cons_zero, List.getElem_cons_succ, Act.put, List.setIfInBounds_toArray, List.set_cons_zero, List.set_cons_succ]
    refine wpAnyH_take (i := 10) (v := ?_) rfl (by kernel_rfl) (by kernel_rfl) (by kernel_rfl) (fun _ _ _ h => h) (Or.inl ⟨by rfl, ?_⟩) hHeld ?_
    rotate_left
    · (intro W hSw; (try dsimp only at hSw); go_simp; all_goals (with_reducible rfl))
    simp only [List.getElem_toArray, List.getElem_cons_zero, List.getElem_cons_succ, Act.put, List.setIfInBounds_toArray, List.set_cons_zero, List.set_cons_succ]
    refine wpAnyH_ready (rs := [11]) (by kernel_rfl) (by simp) ?_
    refine AllReadyH.cons rfl (fun K hK => ?_) AllReadyH.nil
    simp only [List.getElem_toArray, List.getElem_cons_zero, List.getElem_cons_succ]
    go_simp
    refine (divides_any ag ay lg kg ly ky zg zy _ hQ1.1.2.1 hQ1.2.2.1.2.1).mono ?_
    rintro e y2 ⟨rfl, b2⟩
    rw [show dvB (num zg) (num zy) = true by rw [HNG.out]; exact dvB_gcd_r _ _]
    have hQ2 := Q4.after b2 hQ1
    try go_wp2_with fail
    refine hK.out _ _ hQ2.s (fun hHeld => ?_)
    clear hK K
    refine wpAnyH_take (i := 12) (v := ?_) rfl (by kernel_rfl) (by kernel_rfl) (by kernel_rfl) (fun _ _ _ h => h) (Or.inl ⟨by rfl, ?_⟩) hHeld ?_
    rotate_left
    · (intro W hSw; (try dsimp only at hSw); go_simp; all_goals (with_reducible rfl))
    simp only [List.getElem_toArray, List.getElem_cons_zero, List.getElem_cons_succ, Act.put, List.setIfInBounds_toArray, List.set_cons_zero, List.set_cons_succ]
    refine wpAnyH_take (i := 13) (v := ?_) rfl (by kernel_rfl) (by kernel_rfl) (by kernel_rfl) (fun _ _ _ h => h) (Or.inl ⟨by rfl, ?_⟩) hHeld ?_
    rotate_left
    · (intro W hSw; (try dsimp only at hSw); go_simp; all_goals (with_reducible rfl))
    simp only [List.getElem_toArray, List.getElem_cons_zero, List.getElem_cons_succ, Act.put, List.setIfInBounds_toArray, List.set_cons_zero, List.set_cons_succ]
    refine wpAnyH_take (i := 14) (v := ?_) rfl (by kernel_rfl) (by kernel_rfl) (by kernel_rfl) (fun _ _ _ h => h) (Or.inl ⟨by rfl, ?_⟩) hHeld ?_
    rotate_left
    · (intro W hSw; (try dsimp only at hSw); go_simp; all_goals (with_reducible rfl))
    simp only [List.getElem_toArray, List.getElem_cons_zero, List.getElem_cons_succ, Act.put, List.setIfInBounds_toArray, List.set_cons_zero, List.set_cons_succ]
    refine wpAnyH_take (i := 15) (v := ?_) rfl (by kernel_rfl) (by kernel_rfl) (by kernel_rfl) (fun _ _ _ h => h) (Or.inl ⟨by rfl, ?_⟩) hHeld ?_
    rotate_left
    · (intro W hSw; (try dsimp only at hSw); go_simp; all_goals (with_reducible rfl))
    simp only [List.getElem_toArray, List.getElem_cons_zero, List.getElem_cons_succ, Act.put, List.setIfInBounds_toArray, List.set_cons_zero, List.set_cons_succ]
    refine wpAnyH_take (i := 16) (v := ?_) rfl (by kernel_rfl) (by kernel_rfl) (by kernel_rfl) (fun _ _ _ h => h) (Or.inl ⟨by rfl, ?_⟩) hHeld ?_
    rotate_left
    · (intro W hSw; (try dsimp only at hSw); go_simp; all_goals (with_reducible rfl))
    simp only [List.getElem_toArray, List.getElem_cons_zero, List.getElem_cons_succ, Act.put, List.setIfInBounds_toArray, List.set_cons_zero, List.set_cons_succ]
    refine wpAnyH_take (i := 17) (v := ?_) rfl (by kernel_rfl) (by kernel_rfl) (by kernel_rfl) (fun _ _ _ h => h) (Or.inl ⟨by rfl, ?_⟩) hHeld ?_
    rotate_left
    · (intro W hSw; (try dsimp only at hSw); go_simp; all_goals (with_reducible rfl))
    simp only [List.getElem_toArray, List.getElem_cons_zero, List.getElem_cons_succ, Act.put, List.setIfInBounds_toArray, List.set_cons_zero, List.set_cons_succ]
    refine wpAnyH_ready (rs := [18]) (by kernel_rfl) (by simp) ?_
    refine AllReadyH.cons rfl (fun K hK => ?_) AllReadyH.nil
    simp only [List.getElem_toArray, List.getElem_cons_zero, List.getElem_cons_succ]
    go_simp
    refine (ngcd_any ay ax ly ky lx kx zy zx _ hQ2.2.2.1.2.1 hQ2.2.1.2.1).mono ?_
    rintro e y3 ⟨ah, lh, kh, zh, rfl, hh, nh, b3⟩
    have hQ3 := Q4.after b3 hQ2
    try go_wp2_with fail
    refine hK.out _ _ hQ3.s (fun hHeld => ?_)
    clear hK K
    refine wpAnyH_ready (rs := [19]) (by kernel_rfl) (by simp) ?_
    refine AllReadyH.cons rfl (fun K hK => ?_) AllReadyH.nil
    simp only [List.getElem_toArray, List.getElem_cons_zero, List.getElem_cons_succ]
    go_simp
    refine (ncompare_any ag ah lg kg lh kh zg zh _ hQ3.1.2.1 hh).mono ?_
    rintro e y4 ⟨rfl, b4⟩
    rw [cmp3_eq (show num zg = num zh by rw [HNG.out, nh, Int.gcd_comm])]
    have hQ4 := Q4.after b4 hQ3
    try go_wp2_with fail
    refine hK.out _ _ hQ4.s (fun hHeld => ?_)
    clear hK K
    refine wpAnyH_take (i := 20) (v := ?_) rfl (by kernel_rfl) (by kernel_rfl) (by kernel_rfl) (fun _ _ _ h => h) (Or.inl ⟨by rfl, ?_⟩) hHeld ?_
    rotate_left
    · (intro W hSw; (try dsimp only at hSw); go_simp; all_goals (with_reducible rfl))
    simp only [List.getElem_toArray, List.getElem_cons_zero, List.getElem_cons_succ, Act.put, List.setIfInBounds_toArray, List.set_cons_zero, List.set_cons_succ]
    refine wpAnyH_take (i := 21) (v := ?_) rfl (by kernel_rfl) (by kernel_rfl) (by kernel_rfl) (fun _ _ _ h => h) (Or.inl ⟨by rfl, ?_⟩) hHeld ?_
    rotate_left
    · (intro W hSw; (try dsimp only at hSw); go_simp; all_goals (with_reducible rfl))
    simp only [List.getElem_toArray, List.getElem_cons_zero, List.getElem_cons_succ, Act.put, List.setIfInBounds_toArray, List.set_cons_zero, List.set_cons_succ]
    refine wpAnyH_take (i := 22) (v := ?_) rfl (by kernel_rfl) (by kernel_rfl) (by kernel_rfl) (fun _ _ _ h => h) (Or.inl ⟨by rfl, ?_⟩) hHeld ?_
    rotate_left
    · (intro W hSw; (try dsimp only at hSw); go_simp; all_goals (with_reducible rfl))
    simp only [List.getElem_toArray, List.getElem_cons_zero, List.getElem_cons_succ, Act.put, List.setIfInBounds_toArray, List.set_cons_zero, List.set_cons_succ]
    refine wpAnyH_take (i := 23) (v := ?_) rfl (by kernel_rfl) (by kernel_rfl) (by kernel_rfl) (fun _ _ _ h => h) (Or.inl ⟨by rfl, ?_⟩) hHeld ?_
    rotate_left
    · (intro W hSw; (try dsimp only at hSw); go_simp; all_goals (with_reducible rfl))
    simp only [List.getElem_toArray, List.getElem_cons_zero, List.getElem_cons_succ, Act.put, List.setIfInBounds_toArray, List.set_cons_zero, List.set_cons_succ]
    refine wpAnyH_take (i := 24) (v := ?_) rfl (by kernel_rfl) (by kernel_rfl) (by kernel_rfl) (fun _ _ _ h => h) (Or.inl ⟨by rfl, ?_⟩) hHeld ?_
    rotate_left
    · (intro W hSw; (try dsimp only at hSw); go_simp; all_goals (with_reducible rfl))
    simp only [List.getElem_toArray, List.getElem_cons_zero, List.getElem_cons_succ, Act.put, List.setIfInBounds_toArray, List.set_cons_zero, List.set_cons_succ]
    refine wpAnyH_ready (rs := [25]) (by kernel_rfl) (by simp) ?_
    refine AllReadyH.cons rfl (fun K hK => ?_) AllReadyH.nil
    simp only [List.getElem_toArray, List.getElem_cons_zero, List.getElem_cons_succ]
    go_simp
    refine (divides_any az ax lz kz lx kx zz zx _ hQ4.2.2.2.2.1 hQ4.2.1.2.1).mono ?_
    rintro e y5 ⟨rfl, b5⟩
    rw [D1.out]
    have hQ5 := Q4.after b5 hQ4
    try go_wp2_with fail
    refine hK.out _ _ hQ5.s (fun hHeld => ?_)
    clear hK K
    refine wpAnyH_take (i := 26) (v := ?_) rfl (by kernel_rfl) (by kernel_rfl) (by kernel_rfl) (fun _ _ _ h => h) (Or.inl ⟨by rfl, ?_⟩) hHeld ?_
    rotate_left
    · (intro W hSw; (try dsimp only at hSw); go_simp; all_goals (with_reducible rfl))
    simp only [List.getElem_toArray, List.getElem_cons_zero, List.getElem_cons_succ, Act.put, List.setIfInBounds_toArray, List.set_cons_zero, List.set_cons_succ]
    refine wpAnyH_take (i := 27) (v := ?_) rfl (by kernel_rfl) (by kernel_rfl) (by kernel_rfl) (fun _ _ _ h => h) (Or.inl ⟨by rfl, ?_⟩) hHeld ?_
    rotate_left
    · (intro W hSw; (try dsimp only at hSw); go_simp; all_goals (with_reducible rfl))
    simp only [List.getElem_toArray, List.getElem_cons_zero, List.getElem_cons_succ, Act.put, List.setIfInBounds_toArray, List.set_cons_zero, List.set_cons_succ]
    refine wpAnyH_take (i := 28) (v := ?_) rfl (by kernel_rfl) (by kernel_rfl) (by kernel_rfl) (fun _ _ _ h => h) (Or.inl ⟨by rfl, ?_⟩) hHeld ?_
    rotate_left
    · (intro W hSw; (try dsimp only at hSw); go_simp; all_goals (with_reducible rfl))
    simp only [List.getElem_toArray, List.getElem_cons_zero, List.getElem_cons_succ, Act.put, List.setIfInBounds_toArray, List.set_cons_zero, List.set_cons_succ]
    refine wpAnyH_ready (rs := [29]) (by kernel_rfl) (by simp) ?_
    refine AllReadyH.cons rfl (fun K hK => ?_) AllReadyH.nil
    simp only [List.getElem_toArray, List.getElem_cons_zero, List.getElem_cons_succ]
    go_simp
    refine (divides_any az ay lz kz ly ky zz zy _ hQ5.2.2.2.2.1 hQ5.2.2.1.2.1).mono ?_
    rintro e y6 ⟨rfl, b6⟩
    rw [D2.out]
    have hQ6 := Q4.after b6 hQ5
    try go_wp2_with fail
    refine hK.out _ _ hQ6.s (fun hHeld => ?_)
    clear hK K
    refine wpAnyH_take (i := 30) (v := ?_) rfl (by kernel_rfl) (by kernel_rfl) (by kernel_rfl) (fun _ _ _ h => h) (Or.inl ⟨by rfl, ?_⟩) hHeld ?_
    rotate_left
    · (intro W hSw; (try dsimp only at hSw); go_simp; all_goals (with_reducible rfl))
    simp only [List.getElem_toArray, List.getElem_cons_zero, List.getElem_cons_succ, Act.put, List.setIfInBounds_toArray, List.set_cons_zero, List.set_cons_succ]
    refine wpAnyH_take (i := 31) (v := ?_) rfl (by kernel_rfl) (by kernel_rfl) (by kernel_rfl) (fun _ _ _ h => h) (Or.inl ⟨by rfl, ?_⟩) hHeld ?_
    rotate_left
    · (intro W hSw; (try dsimp only at hSw); go_simp; all_goals (with_reducible rfl))
    simp only [List.getElem_toArray, List.getElem_cons_zero, List.getElem_cons_succ, Act.put, List.setIfInBounds_toArray, List.set_cons_zero, List.set_cons_succ]
    refine wpAnyH_take (i := 32) (v := ?_) rfl (by kernel_rfl) (by kernel_rfl) (by kernel_rfl) (fun _ _ _ h => h) (Or.inl ⟨by rfl, ?_⟩) hHeld ?_
    rotate_left
    · (intro W hSw; (try dsimp only at hSw); go_simp; all_goals (with_reducible rfl))
    simp only [List.getElem_toArray, List.getElem_cons_zero, List.getElem_cons_succ, Act.put, List.setIfInBounds_toArray, List.set_cons_zero, List.set_cons_succ]
    refine wpAnyH_take (i := 33) (v := ?_) rfl (by kernel_rfl) (by kernel_rfl) (by kernel_rfl) (fun _ _ _ h => h) (Or.inl ⟨by rfl, ?_⟩) hHeld ?_
    rotate_left
    · (intro W hSw; (try dsimp only at hSw); go_simp; all_goals (with_reducible rfl))
    simp only [List.getElem_toArray, List.getElem_cons_zero, List.getElem_cons_succ, Act.put, List.setIfInBounds_toArray, List.set_cons_zero, List.set_cons_succ]
    refine wpAnyH_ready (rs := [34]) (by kernel_rfl) (by simp) ?_
    refine AllReadyH.cons rfl (fun K hK => ?_) AllReadyH.nil
    simp only [List.getElem_toArray, List.getElem_cons_zero, List.getElem_cons_succ]
    go_simp
    refine (divides_any az ag lz kz lg kg zz zg _ hQ6.2.2.2.2.1 hQ6.1.2.1).mono ?_
    rintro e y7 ⟨rfl, b7⟩
    rw [show dvB (num zz) (num zg) = true by rw [HNG.out]; exact dvB_both D1.out D2.out]
    have hQ7 := Q4.after b7 hQ6
    try go_wp2_with fail
    refine hK.out _ _ hQ7.s (fun hHeld => ?_)
    clear hK K
    refine wpAnyH_take (i := 35) (v := ?_) rfl (by kernel_rfl) (by kernel_rfl) (by kernel_rfl) (fun _ _ _ h => h) (Or.inl ⟨by rfl, ?_⟩) hHeld ?_
    rotate_left
    · (intro W hSw; (try dsimp only at hSw); go_simp; all_goals (with_reducible rfl))
    simp only [List.getElem_toArray, List.getElem_cons_zero, List.getElem_cons_succ, Act.put, List.setIfInBounds_toArray, List.set_cons_zero, List.set_cons_succ]
    refine wpAnyH_take (i := 36) (v := ?_) rfl (by kernel_rfl) (by kernel_rfl) (by kernel_rfl) (fun _ _ _ h => h) (Or.inl ⟨by rfl, ?_⟩) hHeld ?_
    rotate_left
    · (intro W hSw; (try dsimp only at hSw); go_simp; all_goals (with_reducible rfl))
    simp only [List.getElem_toArray, List.getElem_cons_zero, List.getElem_cons_succ, Act.put, List.setIfInBounds_toArray, List.set_cons_zero, List.set_cons_succ]
    refine wpAnyH_take (i := 37) (v := ?_) rfl (by kernel_rfl) (by kernel_rfl) (by kernel_rfl) (fun _ _ _ h => h) (Or.inl ⟨by rfl, ?_⟩) hHeld ?_
    rotate_left
    · (intro W hSw; (try dsimp only at hSw); go_simp; all_goals (with_reducible rfl))
    simp only [List.getElem_toArray, List.getElem_cons_zero, List.getElem_cons_succ, Act.put, List.setIfInBounds_toArray, List.set_cons_zero, List.set_cons_succ]
    refine wpAnyH_done (by kernel_rfl) ?_ _
    refine NoPanic.normal ?_
    go_wp2_with fail
    go_meet
    exact ⟨rfl, hQ7⟩
  case rest =>
    obtain ⟨rfl, hH⟩ := hcut
    clear hQ0
    obtain ⟨⟨Vg, hg, B0⟩, ⟨Vx, hx, -⟩, ⟨Vy, hy, -⟩, ⟨Vz, hz, -⟩⟩ := hH
    have c_Vg := Vg.cell
    have f_Vg := Vg.frozen 0
    have l_Vg := Vg.lt
    have m_Vg := Nat.le_of_lt l_Vg
    have c_Vx := Vx.cell
    have f_Vx := Vx.frozen 0
    have l_Vx := Vx.lt
    have m_Vx := Nat.le_of_lt l_Vx
    have c_Vy := Vy.cell
    have f_Vy := Vy.frozen 0
    have l_Vy := Vy.lt
    have m_Vy := Nat.le_of_lt l_Vy
    have c_Vz := Vz.cell
    have f_Vz := Vz.frozen 0
    have l_Vz := Vz.lt
    have m_Vz := Nat.le_of_lt l_Vz
    go_wp2_with fail
    refine (nmul_ok ax az lx kx lz kz zx zz wc hx hz HFX.out).mono ?_
    rintro e x21 ⟨ap, lp, kp, zp, rfl, hp, np, hb⟩
    replace Vg := Va.after hb Vg
    replace Vx := Va.after hb Vx
    replace Vy := Va.after hb Vy
    replace Vz := Va.after hb Vz
    replace hg := Nt.after hb hg
    replace hx := Nt.after hb hx
    replace hy := Nt.after hb hy
    replace hz := Nt.after hb hz
    replace B0 := step B0 hb
    clear hb
    have HNP : Hid (num zp = num zx * num zz) := np
    clear np
    clear c_Vg f_Vg l_Vg m_Vg c_Vx f_Vx l_Vx m_Vx c_Vy f_Vy l_Vy m_Vy c_Vz f_Vz l_Vz m_Vz
    have c_Vg := Vg.cell
    have f_Vg := Vg.frozen 0
    have l_Vg := Vg.lt
    have m_Vg := Nat.le_of_lt l_Vg
    have c_Vx := Vx.cell
    have f_Vx := Vx.frozen 0
    have l_Vx := Vx.lt
    have m_Vx := Nat.le_of_lt l_Vx
    have c_Vy := Vy.cell
    have f_Vy := Vy.frozen 0
    have l_Vy := Vy.lt
    have m_Vy := Nat.le_of_lt l_Vy
    have c_Vz := Vz.cell
    have f_Vz := Vz.frozen 0
    have l_Vz := Vz.lt
    have m_Vz := Nat.le_of_lt l_Vz
    go_wp2_with fail
    refine ent1 x21 _ _ (Q := fun W => Calls Try.prog _ _ W _) ?_
    intro x22 hb hs_x22 Vp
    replace Vg := Va.after hb Vg
    replace Vx := Va.after hb Vx
    replace Vy := Va.after hb Vy
    replace Vz := Va.after hb Vz
    replace hg := Nt.after hb hg
    replace hx := Nt.after hb hx
    replace hy := Nt.after hb hy
    replace hz := Nt.after hb hz
    replace hp := Nt.after hb hp
    replace B0 := step B0 hb
    clear hb hs_x22
    refine (nmul_ok ay az ly ky lz kz zy zz x22 hy hz HFY.out).mono ?_
    rintro e x23 ⟨aq, lq, kq, zq, rfl, hq, nq, hb⟩
    replace Vg := Va.after hb Vg
    replace Vx := Va.after hb Vx
    replace Vy := Va.after hb Vy
    replace Vz := Va.after hb Vz
    replace Vp := Va.after hb Vp
    replace hg := Nt.after hb hg
    replace hx := Nt.after hb hx
    replace hy := Nt.after hb hy
    replace hz := Nt.after hb hz
    replace hp := Nt.after hb hp
    replace B0 := step B0 hb
    clear hb
    have HNQ : Hid (num zq = num zy * num zz) := nq
    clear nq
    clear c_Vg f_Vg l_Vg m_Vg c_Vx f_Vx l_Vx m_Vx c_Vy f_Vy l_Vy m_Vy c_Vz f_Vz l_Vz m_Vz
    have c_Vg := Vg.cell
    have f_Vg := Vg.frozen 0
    have l_Vg := Vg.lt
    have m_Vg := Nat.le_of_lt l_Vg
    have c_Vx := Vx.cell
    have f_Vx := Vx.frozen 0
    have l_Vx := Vx.lt
    have m_Vx := Nat.le_of_lt l_Vx
    have c_Vy := Vy.cell
    have f_Vy := Vy.frozen 0
    have l_Vy := Vy.lt
    have m_Vy := Nat.le_of_lt l_Vy
    have c_Vz := Vz.cell
    have f_Vz := Vz.frozen 0
    have l_Vz := Vz.lt
    have m_Vz := Nat.le_of_lt l_Vz
    have c_Vp := Vp.cell
    have f_Vp := Vp.frozen 0
    have l_Vp := Vp.lt
    have m_Vp := Nat.le_of_lt l_Vp
    go_wp2_with fail
    refine ent1 x23 _ _ (Q := fun W => Calls Try.prog _ _ W _) ?_
    intro x24 hb hs_x24 Vq
    replace Vg := Va.after hb Vg
    replace Vx := Va.after hb Vx
    replace Vy := Va.after hb Vy
    replace Vz := Va.after hb Vz
    replace Vp := Va.after hb Vp
    replace hg := Nt.after hb hg
    replace hx := Nt.after hb hx
    replace hy := Nt.after hb hy
    replace hz := Nt.after hb hz
    replace hp := Nt.after hb hp
    replace hq := Nt.after hb hq
    replace B0 := step B0 hb
    clear hb hs_x24
    refine (nmul_ok ag az lg kg lz kz zg zz x24 hg hz (by rw [HNG.out]; exact HFG.out)).mono ?_
    rintro e x25 ⟨at1, lt, kt, zt, rfl, ht, nt, hb⟩
    replace Vg := Va.after hb Vg
    replace Vx := Va.after hb Vx
    replace Vy := Va.after hb Vy
    replace Vz := Va.after hb Vz
    replace Vp := Va.after hb Vp
    replace Vq := Va.after hb Vq
    replace hg := Nt.after hb hg
    replace hx := Nt.after hb hx
    replace hy := Nt.after hb hy
    replace hz := Nt.after hb hz
    replace hp := Nt.after hb hp
    replace hq := Nt.after hb hq
    replace B0 := step B0 hb
    clear hb
    have HNT : Hid (num zt = num zg * num zz) := nt
    clear nt
    clear c_Vg f_Vg l_Vg m_Vg c_Vx f_Vx l_Vx m_Vx c_Vy f_Vy l_Vy m_Vy c_Vz f_Vz l_Vz m_Vz c_Vp f_Vp l_Vp m_Vp
    have c_Vg := Vg.cell
    have f_Vg := Vg.frozen 0
    have l_Vg := Vg.lt
    have m_Vg := Nat.le_of_lt l_Vg
    have c_Vx := Vx.cell
    have f_Vx := Vx.frozen 0
    have l_Vx := Vx.lt
    have m_Vx := Nat.le_of_lt l_Vx
    have c_Vy := Vy.cell
    have f_Vy := Vy.frozen 0
    have l_Vy := Vy.lt
    have m_Vy := Nat.le_of_lt l_Vy
    have c_Vz := Vz.cell
    have f_Vz := Vz.frozen 0
    have l_Vz := Vz.lt
    have m_Vz := Nat.le_of_lt l_Vz
    have c_Vp := Vp.cell
    have f_Vp := Vp.frozen 0
    have l_Vp := Vp.lt
    have m_Vp := Nat.le_of_lt l_Vp
    have c_Vq := Vq.cell
    have f_Vq := Vq.frozen 0
    have l_Vq := Vq.lt
    have m_Vq := Nat.le_of_lt l_Vq
    go_wp2_with fail
    refine ent1 x25 _ _ (Q := fun W => Code.wp Try.prog _ _ _ W) ?_
    intro x26 hb hs_x26 Vt
    replace Vg := Va.after hb Vg
    replace Vx := Va.after hb Vx
    replace Vy := Va.after hb Vy
    replace Vz := Va.after hb Vz
    replace Vp := Va.after hb Vp
    replace Vq := Va.after hb Vq
    replace hg := Nt.after hb hg
    replace hx := Nt.after hb hx
    replace hy := Nt.after hb hy
    replace hz := Nt.after hb hz
    replace hp := Nt.after hb hp
    replace hq := Nt.after hb hq
    replace ht := Nt.after hb ht
    replace B0 := step B0 hb
    clear hb hs_x26
    have hT : (x26.cell? ⟨x21.heap.size, 0, none⟩ = some (.slice ap lp kp) ∧ Hid (HV w x21.heap.size ap lp kp zp x26)) ∧ (x26.cell? ⟨x23.heap.size, 0, none⟩ = some (.slice aq lq kq) ∧ Hid (HV w x23.heap.size aq lq kq zq x26)) ∧ (x26.cell? ⟨x25.heap.size, 0, none⟩ = some (.slice at1 lt kt) ∧ Hid (HV w x25.heap.size at1 lt kt zt x26)) := ⟨HV.mk' Vp hp B0, HV.mk' Vq hq B0, HV.mk' Vt ht B0⟩
    have hT0 : (x26.drew.cell? ⟨x21.heap.size, 0, none⟩ = some (.slice ap lp kp) ∧ Hid (HV w x21.heap.size ap lp kp zp x26.drew)) ∧ (x26.drew.cell? ⟨x23.heap.size, 0, none⟩ = some (.slice aq lq kq) ∧ Hid (HV w x23.heap.size aq lq kq zq x26.drew)) ∧ (x26.drew.cell? ⟨x25.heap.size, 0, none⟩ = some (.slice at1 lt kt) ∧ Hid (HV w x25.heap.size at1 lt kt zt x26.drew)) := ⟨HV.dr hT.1, HV.dr hT.2.1, HV.dr hT.2.2⟩
    clear Vg Vx Vy Vz hg hx hy hz Vp Vq Vt hp hq ht B0 hT c_Vg f_Vg l_Vg m_Vg c_Vx f_Vx l_Vx m_Vx c_Vy f_Vy l_Vy m_Vy c_Vz f_Vz l_Vz m_Vz c_Vp f_Vp l_Vp m_Vp c_Vq f_Vq l_Vq m_Vq
    refine wp_region_noPanic ?_
    refine wp_region_held_drew (S := (fun W => W.cell? ⟨x21.heap.size, 0, none⟩ = some (.slice ap lp kp) ∧ W.cell? ⟨x23.heap.size, 0, none⟩ = some (.slice aq lq kq) ∧ W.cell? ⟨x25.heap.size, 0, none⟩ = some (.slice at1 lt kt))) (by kernel_rfl) ⟨hT0.1.1, hT0.2.1.1, hT0.2.2.1⟩ (fun hHeld => ?_)
    refine wpAnyH_take (i := 0) (v := ?_) rfl (by kernel_rfl) (by kernel_rfl) (by kernel_rfl) (fun _ _ _ h => h) (Or.inl ⟨by rfl, ?_⟩) hHeld ?_
    rotate_left
    · (intro W hSw; (try dsimp only at hSw); go_simp; all_goals (with_reducible rfl))
    simp only [List.getElem_toArray, List.getElem_cons_zero, Act.put, List.setIfInBounds_toArray, List.set_cons_zero, List.set_cons_succ]
    refine wpAnyH_take (i := 1) (v := ?_) rfl (by kernel_rfl) (by kernel_rfl) (by kernel_rfl) (fun _ _ _ h => h) (Or.inl ⟨by rfl, ?_⟩) hHeld ?_
    rotate_left
    · (intro W hSw; (try dsimp only at hSw); go_simp; all_goals (with_reducible rfl))
    simp only [List.getElem_toArray, List.getElem_cons_zero, List.getElem_cons_succ, Act.put, List.setIfInBounds_toArray, List.set_cons_zero, List.set_cons_succ]
    refine wpAnyH_take (i := 2) (v := ?_) rfl (by kernel_rfl) (by kernel_rfl) (by kernel_rfl) (fun _ _ _ h => h) (Or.inl ⟨by rfl, ?_⟩) hHeld ?_
    rotate_left
    · (intro W hSw; (try dsimp only at hSw); go_simp; all_goals (with_reducible rfl))
    simp only [List.getElem_toArray, List.getElem_cons_zero, List.getElem_cons_succ, Act.put, List.setIfInBounds_toArray, List.set_cons_zero, List.set_cons_succ]
    refine wpAnyH_take (i := 3) (v := ?_) rfl (by kernel_rfl) (by kernel_rfl) (by kernel_rfl) (fun _ _ _ h => h) (Or.inl ⟨by rfl, ?_⟩) hHeld ?_
    rotate_left
    · (intro W hSw; (try dsimp only at hSw); go_simp; all_goals (with_reducible rfl))
    simp only [List.getElem_toArray, List.getElem_cons_zero, List.getElem_cons_succ, Act.put, List.setIfInBounds_toArray, List.set_cons_zero, List.set_cons_succ]
    refine wpAnyH_take (i := 4) (v := ?_) rfl (by kernel_rfl) (by kernel_rfl) (by kernel_rfl) (fun _ _ _ h => h) (Or.inl ⟨by rfl, ?_⟩) hHeld ?_
    rotate_left
    · (intro W hSw; (try dsimp only at hSw); go_simp; all_goals (with_reducible rfl))
    simp only [List.getElem_toArray, List.getElem_cons_zero, List.getElem_cons_succ, Act.put, List.setIfInBounds_toArray, List.set_cons_zero, List.set_cons_succ]
    refine wpAnyH_take (i := 5) (v := ?_) rfl (by kernel_rfl) (by kernel_rfl) (by kernel_rfl) (fun _ _ _ h => h) (Or.inl ⟨by rfl, ?_⟩) hHeld ?_
    rotate_left
    · (intro W hSw; (try dsimp only at hSw); go_simp; all_goals (with_reducible rfl))
    simp only [List.getElem_toArray, List.getElem_cons_zero, List.getElem_cons_succ, Act.put, List.setIfInBounds_toArray, List.set_cons_zero, List.set_cons_succ]
    refine wpAnyH_take (i := 6) (v := ?_) rfl (by kernel_rfl) (by kernel_rfl) (by kernel_rfl) (fun _ _ _ h => h) (Or.inl ⟨by rfl, ?_⟩) hHeld ?_
    rotate_left
    · (intro W hSw; (try dsimp only at hSw); go_simp; all_goals (with_reducible rfl))
    simp only [List.getElem_toArray, List.getElem_cons_zero, List.getElem_cons_succ, Act.put, List.setIfInBounds_toArray, List.set_cons_zero, List.set_cons_succ]
    refine wpAnyH_take (i := 7) (v := ?_) rfl (by kernel_rfl) (by kernel_rfl) (by kernel_rfl) (fun _ _ _ h => h) (Or.inl ⟨by rfl, ?_⟩) hHeld ?_
    rotate_left
    · (intro W hSw; (try dsimp only at hSw); go_simp; all_goals (with_reducible rfl))
    simp only [List.getElem_toArray, List.getElem_cons_zero, List.getElem_cons_succ, Act.put, List.setIfInBounds_toArray, List.set_cons_zero, List.set_cons_succ]
    refine wpAnyH_take (i := 8) (v := ?_) rfl (by kernel_rfl) (by kernel_rfl) (by kernel_rfl) (fun _ _ _ h => h) (Or.inl ⟨by rfl, ?_⟩) hHeld ?_
    rotate_left
    · (intro W hSw; (try dsimp only at hSw); go_simp; all_goals (with_reducible rfl))
    simp only [List.getElem_toArray, List.getElem_cons_zero, List.getElem_cons_succ, Act.put, List.setIfInBounds_toArray, List.set_cons_zero, List.set_cons_succ]
    refine wpAnyH_take (i := 9) (v := ?_) rfl (by kernel_rfl) (by kernel_rfl) (by kernel_rfl) (fun _ _ _ h => h) (Or.inl ⟨by rfl, ?_⟩) hHeld ?_
    rotate_left
    · (intro W hSw; (try dsimp only at hSw); go_simp; all_goals (with_reducible rfl))
    simp only [List.getElem_toArray, List.getElem_cons_zero, List.getElem_cons_succ, Act.put, List.setIfInBounds_toArray, List.set_cons_zero, List.set_cons_succ]
    refine wpAnyH_take (i := 10) (v := ?_) rfl (by kernel_rfl) (by kernel_rfl) (by kernel_rfl) (fun _ _ _ h => h) (Or.inl ⟨by rfl, ?_⟩) hHeld ?_
    rotate_left
    · (intro W hSw; (try dsimp only at hSw); go_simp; all_goals (with_reducible rfl))
    simp only [List.getElem_toArray, List.getElem_cons_zero, List.getElem_cons_succ, Act.put, List.setIfInBounds_toArray, List.set_cons_zero, List.set_cons_succ]
    refine wpAnyH_take (i := 11) (v := ?_) rfl (by kernel_rfl) (by kernel_rfl) (by kernel_rfl) (fun _ _ _ h => h) (Or.inl ⟨by rfl, ?_⟩) hHeld ?_
    rotate_left
    · (intro W hSw; (try dsimp only at hSw); go_simp; all_goals (with_reducible rfl))
    simp only [List.getElem_toArray, List.getElem_cons_zero, List.getElem_cons_succ, Act.put, List.setIfInBounds_toArray, List.set_cons_zero, List.set_cons_succ]
    refine wpAnyH_take (i := 12) (v := ?_) rfl (by kernel_rfl) (by kernel_rfl) (by kernel_rfl) (fun _ _ _ h => h) (Or.inl ⟨by rfl, ?_⟩) hHeld ?_
    rotate_left
    · (intro W hSw; (try dsimp only at hSw); go_simp; all_goals (with_reducible rfl))
    simp only [List.getElem_toArray, List.getElem_cons_zero, List.getElem_cons_succ, Act.put, List.setIfInBounds_toArray, List.set_cons_zero, List.set_cons_succ]
    refine wpAnyH_take (i := 14) (v := ?_) rfl (by kernel_rfl) (by kernel_rfl) (by kernel_rfl) (fun _ _ _ h => h) (Or.inl ⟨by rfl, ?_⟩) hHeld ?_
    rotate_left
    · (intro W hSw; (try dsimp only at hSw); go_simp; all_goals (with_reducible rfl))
    simp only [List.getElem_toArray, List.getElem_cons_zero, List.getElem_cons_succ, Act.put, List.setIfInBounds_toArray, List.set_cons_zero, List.set_cons_succ]
    refine wpAnyH_ready (rs := [13]) (by kernel_rfl) (by simp) ?_
    refine AllReadyH.cons rfl (fun K hK => ?_) AllReadyH.nil
    simp only [List.getElem_toArray, List.getElem_cons_zero, List.getElem_cons_succ]
    go_simp
    refine (ngcd_any ap aq lp kp lq kq zp zq _ (H3.n1 hT0) (H3.n2 hT0)).mono ?_
    rintro e y1 ⟨au, lu, ku, zu, rfl, hu, nu, b1⟩
    have hT1 := H3.call b1 hT0
    try go_wp2_with fail
    refine hK.out _ _ ⟨hT1.1.1, hT1.2.1.1, hT1.2.2.1⟩ (fun hHeld => ?_)
    clear hK K
    refine wpAnyH_ready (rs := [15]) (by kernel_rfl) (by simp) ?_
    refine AllReadyH.cons rfl (fun K hK => ?_) AllReadyH.nil
    simp only [List.getElem_toArray, List.getElem_cons_zero, List.getElem_cons_succ]
    go_simp
    refine (ncompare_any au at1 lu ku lt kt zu zt _ hu (H3.n3 hT1)).mono ?_
    rintro e y2 ⟨rfl, b2⟩
    rw [cmp3_eq (show num zu = num zt by rw [nu, HNP.out, HNQ.out, HNT.out, HNG.out]; exact gcd_times HQ0.out)]
    have hT2 := H3.call b2 hT1
    try go_wp2_with fail
    refine hK.out _ _ ⟨hT2.1.1, hT2.2.1.1, hT2.2.2.1⟩ (fun hHeld => ?_)
    clear hK K
    refine wpAnyH_take (i := 16) (v := ?_) rfl (by kernel_rfl) (by kernel_rfl) (by kernel_rfl) (fun _ _ _ h => h) (Or.inl ⟨by rfl, ?_⟩) hHeld ?_
    rotate_left
    · (intro W hSw; (try dsimp only at hSw); go_simp; all_goals (with_reducible rfl))
    simp only [List.getElem_toArray, List.getElem_cons_zero, List.getElem_cons_succ, Act.put, List.setIfInBounds_toArray, List.set_cons_zero, List.set_cons_succ]
    refine wpAnyH_take (i := 17) (v := ?_) rfl (by kernel_rfl) (by kernel_rfl) (by kernel_rfl) (fun _ _ _ h => h) (Or.inl ⟨by rfl, ?_⟩) hHeld ?_
    rotate_left
    · (intro W hSw; (try dsimp only at hSw); go_simp; all_goals (with_reducible rfl))
    simp only [List.getElem_toArray, List.getElem_cons_zero, List.getElem_cons_succ, Act.put, List.setIfInBounds_toArray, List.set_cons_zero, List.set_cons_succ]
    refine wpAnyH_take (i := 18) (v := ?_) rfl (by kernel_rfl) (by kernel_rfl) (by kernel_rfl) (fun _ _ _ h => h) (Or.inl ⟨by rfl, ?_⟩) hHeld ?_
    rotate_left
    · (intro W hSw; (try dsimp only at hSw); go_simp; all_goals (with_reducible rfl))
    simp only [List.getElem_toArray, List.getElem_cons_zero, List.getElem_cons_succ, Act.put, List.setIfInBounds_toArray, List.set_cons_zero, List.set_cons_succ]
    refine wpAnyH_done (by kernel_rfl) ?_ _
    refine NoPanic.normal ?_
    go_wp2_with fail
    go_ret
    exact ⟨rfl, hT2.1.2.out.2.2⟩

theorem walk (a0 : Option Addr) (len0 cap0 : Nat) (z0 : List Int) (a1 : Option Addr) (len1 cap1 : Nat) (z1 : List Int) (a2 : Option Addr) (len2 cap2 : Nat) (z2 : List Int) (w : World) (s0 : Sl w a0 len0 z0) (c0 : len0 ≤ cap0) (r0 : cap0 ≤ 17592186043904) (e0 : a0 = none → len0 = 0 ∧ cap0 = 0) (s1 : Sl w a1 len1 z1) (c1 : len1 ≤ cap1) (r1 : cap1 ≤ 17592186043904) (e1 : a1 = none → len1 = 0 ∧ cap1 = 0) (s2 : Sl w a2 len2 z2) (c2 : len2 ≤ cap2) (r2 : cap2 ≤ 17592186043904) (e2 : a2 = none → len2 = 0 ∧ cap2 = 0) :
    Calls Try.prog 3 #[.slice a0 len0 cap0, .slice a1 len1 cap1, .slice a2 len2 cap2] w fun e w' => e = .returned (.bool true) ∧ Below w.heap.size w w' := by
  by_cases h1 : 4096 < usedN z0 ∨ 4096 < usedN z1
  · exact walk_a a0 len0 cap0 z0 a1 len1 cap1 z1 a2 len2 cap2 z2 w s0 c0 r0 s1 c1 r1 s2 c2 r2 h1
  · by_cases h2 : 4096 < usedN z2
    · exact walk_b a0 len0 cap0 z0 a1 len1 cap1 z1 a2 len2 cap2 z2 w s0 c0 r0 s1 c1 r1 s2 c2 r2 (by omega) (by omega) h2
    · by_cases h3 : 1000 < len0 + len1 + len2
      · exact walk_c a0 len0 cap0 z0 a1 len1 cap1 z1 a2 len2 cap2 z2 w s0 c0 r0 s1 c1 r1 s2 c2 r2 (by omega) (by omega) (by omega) h3
      · cases d1 : dvB (num z2) (num z0)
        · exact walk_f a0 len0 cap0 z0 a1 len1 cap1 z1 a2 len2 cap2 z2 w s0 c0 r0 e0 s1 c1 r1 e1 s2 c2 r2 e2 (by omega) (by omega) (by omega) (by omega) d1 (by omega)
        · cases d2 : dvB (num z2) (num z1)
          · exact walk_tf a0 len0 cap0 z0 a1 len1 cap1 z1 a2 len2 cap2 z2 w s0 c0 r0 e0 s1 c1 r1 e1 s2 c2 r2 e2 (by omega) (by omega) (by omega) (by omega) d1 d2
          · exact walk_tt a0 len0 cap0 z0 a1 len1 cap1 z1 a2 len2 cap2 z2 w s0 c0 r0 e0 s1 c1 r1 e1 s2 c2 r2 e2 (by omega) (by omega) (by omega) (by omega) d1 d2
end Go.Proofs.Ytckfgolijlggbaa.natGreatest
namespace Go.Proofs.Ytckfgolijlggbaa.natGreatest
open Go.ChangeShapes Go.WideShapes Go.ChangeAt Go.RowKit
set_option linter.unusedVariables false

theorem own : ownKnob Try.prog.godebug = none := by kernel_rfl
theorem laidOut : laidOutB Try.prog = true := by kernel_rfl
theorem bytes8 : Try.prog.bytesOf 46 = 8 := by kernel_rfl

set_option maxRecDepth 100000 in
theorem contract (H : Type) (enc : TypeId × Value → H) (W : World) (base : Nat) (args : Array Value) (ds gs : List (DataW H)) (before : List MemPlace)
    (hval : ∀ (j : Nat) t v, Try.f3.params[j]? = some t → args[j]? = some v → Value.okWide Try.prog W .any base t v)
    (hW : DataW.Whole enc Try.prog Try.f3.params.toList Rows.natGreatestSpec.vars false W args.toList ds gs before) (hsz : (DataW.weightsEach Try.prog (Try.f3.params.toList ++ Rows.natGreatestSpec.plain.varTypes Try.prog) (ds ++ gs)).all (· ≤ reachBytes) = true) :
    Calls Try.prog 3 args W fun e W' => ∃ v, e = .returned v ∧ Rows.natGreatestSpec.post enc Try.prog Try.f3 false true false false W args v W' := by
  have hW' := hW
  obtain ⟨p, q, hA0, hV, rfl, hfz, hnd⟩ := hW
  have hA : DataW.TrodAll enc Try.prog W 0 (fun _ => true) true Try.f3.params.toList args.toList ds p := hA0
  rw [Try.params3] at hA hval hsz
  obtain ⟨v0, vs0, d0, ds0, p0, q0, hargs, rfl, rfl, h0, r0⟩ := trodAll_cons hA
  obtain ⟨v1, vs1, d1, ds1, p1, q1, rfl, rfl, rfl, h1, r1⟩ := trodAll_cons r0
  obtain ⟨v2, vs2, d2, ds2, p2, q2, rfl, rfl, rfl, h2, r2⟩ := trodAll_cons r1
  obtain ⟨rfl, rfl, rfl⟩ := trodAll_nil r2
  obtain rfl : args = #[v0, v1, v2] := by cases args; simp_all
  obtain ⟨rfl, rfl⟩ := trodVars_none hV
  obtain ⟨a0, len0, cap0, rfl⟩ := okWide_slice Try.underlying22 (hval 0 22 v0 rfl rfl)
  have k0 := h0
  have lt0 : ∀ x ∈ p0, x.block < W.heap.size := by obtain ⟨m, hm⟩ := k0; exact DataW.trod_lt m _ _ _ hm
  obtain ⟨z0, s0, c0, b0, e0⟩ : ∃ zs, Sl W a0 len0 zs ∧ len0 ≤ cap0 ∧ cap0 ≤ 17592186043904 ∧ (a0 = Option.none → len0 = 0 ∧ cap0 = 0) := by
    obtain ⟨fuel, hf⟩ := h0
    rcases open_ints Try.underlying22 Try.underlying46 (by kernel_rfl) hf with ⟨hcs, _⟩ | ⟨x, l, c, zs, hcs, _, hl, hm, hz, hx, hcell, hwz⟩
    · simp [Value.cells] at hcs
      obtain ⟨rfl, rfl, rfl⟩ := hcs
      exact ⟨[], ⟨rfl, Limbs.nil, fun h => absurd h (by decide)⟩, Nat.le_refl _, by decide, fun _ => ⟨rfl, rfl⟩⟩
    · simp [Value.cells] at hcs
      obtain ⟨rfl, rfl, rfl⟩ := hcs
      have hz' : zs.length = cap0 := by simpa using hz
      have hd : d0 = DataW.slice (lits .u64 (zs.take len0)) (lits .u64 (zs.drop len0)) := congrArg Prod.fst hx
      have hs := sized_slice hsz (j := 0) (t := 22) (e := 46) rfl (by rw [hd]; rfl) Try.underlying22
      rw [bytes8] at hs
      have hcap : cap0 ≤ 17592186043904 := by
        simp only [lits, List.length_map, List.length_take, List.length_drop, reachBytes] at hs
        omega
      refine ⟨zs.take len0, ⟨by rw [List.length_take]; omega, fun z hz2 => word_of_wf (hwz z (List.mem_of_mem_take hz2)), fun h => ?_⟩, hl, hcap, fun h => by cases h⟩
      obtain ⟨bb, off, rfl, hc⟩ := ints_at hcell (by omega)
      refine ⟨bb, off, rfl, fun j hj => ?_⟩
      rw [hc j (by omega), List.getD_eq_getElem?_getD, List.getD_eq_getElem?_getD, List.getElem?_take_of_lt hj]
  obtain ⟨a1, len1, cap1, rfl⟩ := okWide_slice Try.underlying22 (hval 1 22 v1 rfl rfl)
  have k1 := h1
  have lt1 : ∀ x ∈ p1, x.block < W.heap.size := by obtain ⟨m, hm⟩ := k1; exact DataW.trod_lt m _ _ _ hm
  obtain ⟨z1, s1, c1, b1, e1⟩ : ∃ zs, Sl W a1 len1 zs ∧ len1 ≤ cap1 ∧ cap1 ≤ 17592186043904 ∧ (a1 = Option.none → len1 = 0 ∧ cap1 = 0) := by
    obtain ⟨fuel, hf⟩ := h1
    rcases open_ints Try.underlying22 Try.underlying46 (by kernel_rfl) hf with ⟨hcs, _⟩ | ⟨x, l, c, zs, hcs, _, hl, hm, hz, hx, hcell, hwz⟩
    · simp [Value.cells] at hcs
      obtain ⟨rfl, rfl, rfl⟩ := hcs
      exact ⟨[], ⟨rfl, Limbs.nil, fun h => absurd h (by decide)⟩, Nat.le_refl _, by decide, fun _ => ⟨rfl, rfl⟩⟩
    · simp [Value.cells] at hcs
      obtain ⟨rfl, rfl, rfl⟩ := hcs
      have hz' : zs.length = cap1 := by simpa using hz
      have hd : d1 = DataW.slice (lits .u64 (zs.take len1)) (lits .u64 (zs.drop len1)) := congrArg Prod.fst hx
      have hs := sized_slice hsz (j := 1) (t := 22) (e := 46) rfl (by rw [hd]; rfl) Try.underlying22
      rw [bytes8] at hs
      have hcap : cap1 ≤ 17592186043904 := by
        simp only [lits, List.length_map, List.length_take, List.length_drop, reachBytes] at hs
        omega
      refine ⟨zs.take len1, ⟨by rw [List.length_take]; omega, fun z hz2 => word_of_wf (hwz z (List.mem_of_mem_take hz2)), fun h => ?_⟩, hl, hcap, fun h => by cases h⟩
      obtain ⟨bb, off, rfl, hc⟩ := ints_at hcell (by omega)
      refine ⟨bb, off, rfl, fun j hj => ?_⟩
      rw [hc j (by omega), List.getD_eq_getElem?_getD, List.getD_eq_getElem?_getD, List.getElem?_take_of_lt hj]
  obtain ⟨a2, len2, cap2, rfl⟩ := okWide_slice Try.underlying22 (hval 2 22 v2 rfl rfl)
  have k2 := h2
  have lt2 : ∀ x ∈ p2, x.block < W.heap.size := by obtain ⟨m, hm⟩ := k2; exact DataW.trod_lt m _ _ _ hm
  obtain ⟨z2, s2, c2, b2, e2⟩ : ∃ zs, Sl W a2 len2 zs ∧ len2 ≤ cap2 ∧ cap2 ≤ 17592186043904 ∧ (a2 = Option.none → len2 = 0 ∧ cap2 = 0) := by
    obtain ⟨fuel, hf⟩ := h2
    rcases open_ints Try.underlying22 Try.underlying46 (by kernel_rfl) hf with ⟨hcs, _⟩ | ⟨x, l, c, zs, hcs, _, hl, hm, hz, hx, hcell, hwz⟩
    · simp [Value.cells] at hcs
      obtain ⟨rfl, rfl, rfl⟩ := hcs
      exact ⟨[], ⟨rfl, Limbs.nil, fun h => absurd h (by decide)⟩, Nat.le_refl _, by decide, fun _ => ⟨rfl, rfl⟩⟩
    · simp [Value.cells] at hcs
      obtain ⟨rfl, rfl, rfl⟩ := hcs
      have hz' : zs.length = cap2 := by simpa using hz
      have hd : d2 = DataW.slice (lits .u64 (zs.take len2)) (lits .u64 (zs.drop len2)) := congrArg Prod.fst hx
      have hs := sized_slice hsz (j := 2) (t := 22) (e := 46) rfl (by rw [hd]; rfl) Try.underlying22
      rw [bytes8] at hs
      have hcap : cap2 ≤ 17592186043904 := by
        simp only [lits, List.length_map, List.length_take, List.length_drop, reachBytes] at hs
        omega
      refine ⟨zs.take len2, ⟨by rw [List.length_take]; omega, fun z hz2 => word_of_wf (hwz z (List.mem_of_mem_take hz2)), fun h => ?_⟩, hl, hcap, fun h => by cases h⟩
      obtain ⟨bb, off, rfl, hc⟩ := ints_at hcell (by omega)
      refine ⟨bb, off, rfl, fun j hj => ?_⟩
      rw [hc j (by omega), List.getD_eq_getElem?_getD, List.getD_eq_getElem?_getD, List.getElem?_take_of_lt hj]
  clear hA0
  refine (walk a0 len0 cap0 z0 a1 len1 cap1 z1 a2 len2 cap2 z2 W s0 c0 b0 e0 s1 c1 b1 e1 s2 c2 b2 e2).mono fun e W' ⟨he, bel⟩ => ?_
  subst he
  exact ⟨_, rfl, _, _, _, [], _, [], hW', trodAll_mk1 (shut_bool Try.underlying4 _), (trodAll_cons_mk (Below.trod laidOut (by kernel_rfl) (of_decide_eq_true (by kernel_rfl)) k0 bel lt0) (trodAll_cons_mk (Below.trod laidOut (by kernel_rfl) (of_decide_eq_true (by kernel_rfl)) k1 bel lt1) (trodAll_cons_mk (Below.trod laidOut (by kernel_rfl) (of_decide_eq_true (by kernel_rfl)) k2 bel lt2) trodAll_mk0))), rfl, bel.frame _, fun h => by cases h⟩

set_option maxRecDepth 100000 in
theorem lifted (os : Os) (started : os.Started) (H : Type) (enc : TypeId × Value → H) :
    ReturnsInHanded {} Try.checked os 3 .any (Rows.natGreatestSpec.pre6 enc Try.prog Try.f3 Rows.natGreatestRow.domain false) (Rows.natGreatestSpec.post enc Try.prog Try.f3 false true false false) := by
  refine returnsInHanded_of_change_sized (C := Try.checked) own started (by kernel_rfl) Try.func3
    (ChangeSpec.witness6 (enc := enc) (C := Try.checked) false ⟨#[], #[.slice none 0 0, .slice none 0 0, .slice none 0 0], []⟩ 8 (by kernel_rfl) (by kernel_rfl) (by kernel_rfl) (by kernel_rfl)) ?_
  intro W base args ds gs before hval0 hW _ hsz0 _
  exact contract H enc W base args ds gs before hval0 hW hsz0

theorem over : Rows.natGreatestRow.holds Try.pinned (OpenSpec.ofChange Rows.natGreatestSpec) :=
  OpenClaim.holds_of_wide 3 Try.f3 rfl rfl rfl rfl rfl rfl rfl ⟨rfl, rfl, rfl, rfl, rfl⟩ rfl rfl rfl rfl rfl (by kernel_rfl) Try.func3 (by kernel_rfl)
    (of_decide_eq_true (by kernel_rfl)) (by unfold Func.isWrapper; first | (rw [if_pos (by decide +kernel)]; kernel_rfl) | (rw [if_neg (by decide +kernel)]; exact ⟨rfl, rfl⟩))
    (fun os started H enc _ => lifted os started H enc)
end Go.Proofs.Ytckfgolijlggbaa.natGreatest
namespace Go.Proofs.Ytckfgolijlggbaa
theorem natGreatest_holds : Rows.NatGreatestSaid := natGreatest.over
#print axioms natGreatest_holds
end Go.Proofs.Ytckfgolijlggbaa
