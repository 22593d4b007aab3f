/-
  NatMakes of the document, for every list of limbs, every word and every count of noughts: Of, Small, Uint64, Bits and IsZero answer as the document's own reckoning does, and what is handed in stays. No conditions.
-/
import Derived.Test.YtajjhnilpdmnhaaAwake2
import Derived.Test.YtajjhnilpdmnhaaNRef2
import Derived.Test.YtajjhnilpdmnhaaHeld3
import Derived.Test.YtajjhnilpdmnhaaOrder
import Derived.Test.YtajjhnilpdmnhaaNumsH
import Derived.Test.YtajjhnilpdmnhaaRowp
import Derived.Test.YtajjhnilpdmnhaaUni
import Derived.Test.YtajjhnilpdmnhaaUni2
import Derived.Test.YtajjhnilpdmnhaaRows
import Derived.ProofKit
import Derived.OpenShut
import Derived.ShutString
import Derived.ChangeOld
import Derived.SizedLaws
namespace Go.Proofs.Ytajjhnilpdmnhaa
open Go.RowKit Go.Shelf

theorem long_no (a b : Option Addr) (la ca lb cb : Nat) (xs ys : List Int) (w : World) (ha : Sl w a la xs) (hb : Sl w b lb ys) (h1 : la ≤ 40000000000000) (h2 : lb ≤ 40000000000000) (u1 : usedN xs ≤ 4096) (u2 : usedN ys ≤ 4096) :
    Calls Try.prog 22 #[.slice a la ca, .slice b lb cb] w fun e w' => e = .returned (.bool false) ∧ Below w.heap.size w w' := by
  have A := rlong_any a la ca xs w ha h1
  have B := rlong_any b lb cb ys w hb h2
  have e1 : decide ((4096 : Int) < usedN xs) = false := by simp; omega
  have e2 : decide ((4096 : Int) < usedN ys) = false := by simp; omega
  rw [e1] at A
  rw [e2] at B
  clear e1 e2
  go_enter Try.func22, Try.ntmps22
  go_wp2_with fail
  refine A.mono ?_
  rintro e w1 ⟨rfl, rfl⟩
  go_wp2_with fail
  refine B.mono ?_
  rintro e w1 ⟨rfl, rfl⟩
  go_wp2_with fail
  go_ret
  exact ⟨rfl, Below.refl _ _⟩
theorem long_yes (a b : Option Addr) (la ca lb cb : Nat) (xs ys : List Int) (w : World) (ha : Sl w a la xs) (hb : Sl w b lb ys) (h1 : la ≤ 40000000000000) (h2 : lb ≤ 40000000000000) (u : 4096 < usedN xs ∨ 4096 < usedN ys) :
    Calls Try.prog 22 #[.slice a la ca, .slice b lb cb] w fun e w' => e = .returned (.bool true) ∧ Below w.heap.size w w' := by
  have A := rlong_any a la ca xs w ha h1
  have B := rlong_any b lb cb ys w hb h2
  by_cases u1 : 4096 < usedN xs
  · have e1 : decide ((4096 : Int) < usedN xs) = true := by simp; omega
    rw [e1] at A
    clear e1
    go_enter Try.func22, Try.ntmps22
    go_wp2_with fail
    refine A.mono ?_
    rintro e w1 ⟨rfl, rfl⟩
    go_wp2_with fail
    go_ret
    exact ⟨rfl, Below.refl _ _⟩
  · have e1 : decide ((4096 : Int) < usedN xs) = false := by simp; omega
    have e2 : decide ((4096 : Int) < usedN ys) = true := by simp; omega
    rw [e1] at A
    rw [e2] at B
    clear e1 e2
    go_enter Try.func22, Try.ntmps22
    go_wp2_with fail
    refine A.mono ?_
    rintro e w1 ⟨rfl, rfl⟩
    go_wp2_with fail
    refine B.mono ?_
    rintro e w1 ⟨rfl, rfl⟩
    go_wp2_with fail
    go_ret
    exact ⟨rfl, Below.refl _ _⟩
end Go.Proofs.Ytajjhnilpdmnhaa
namespace Go.Proofs.Ytajjhnilpdmnhaa
open Go.RowKit Go.Shelf

theorem fits_mul {x y : Int} {i j : Nat} (x0 : 0 ≤ x) (hx : x < pw i) (hy : y < pw j) : x * y < pw (i + j) := by
  rw [pw_add]
  have h1 : x * y ≤ x * pw j := Int.mul_le_mul_of_nonneg_left (by omega) x0
  have h2 : x * pw j < pw i * pw j := Int.mul_lt_mul_of_pos_right hx (pw_pos j)
  omega
theorem fits_add {x y : Int} {i : Nat} (hx : x < pw i) (hy : y < pw i) : x + y < pw (i + 1) := by
  have := pw_pos i
  show _ < 18446744073709551616 * pw i
  omega
theorem fits_to {x : Int} {i j : Nat} (hx : x < pw i) (h : i ≤ j) : x < pw j := Int.lt_of_lt_of_le hx (pw_mono h)
theorem fits_len {w : World} {a : Option Addr} {len n : Nat} {zs : List Int} (s : Sl w a len zs) (h : len ≤ n) : num zs < pw n := by
  have := num_lt s.2.1
  rw [s.1] at this
  exact fits_to this h
theorem rlong_no (a : Option Addr) (len cap : Nat) (zs : List Int) (w : World) (h : Sl w a len zs) (hl : len ≤ 40000000000000) (hu : usedN zs ≤ 4096) :
    Calls Try.prog 17 #[.slice a len cap] w fun e w' => e = .returned (.bool false) ∧ Below w.heap.size w w' := by
  have e1 : decide ((4096 : Int) < usedN zs) = false := by simp; omega
  refine (rlong_any a len cap zs w h hl).mono ?_
  rintro e w' ⟨rfl, rfl⟩
  rw [e1]
  exact ⟨rfl, Below.refl _ _⟩
theorem rlong_yes (a : Option Addr) (len cap : Nat) (zs : List Int) (w : World) (h : Sl w a len zs) (hl : len ≤ 40000000000000) (hu : 4096 < usedN zs) :
    Calls Try.prog 17 #[.slice a len cap] w fun e w' => e = .returned (.bool true) ∧ Below w.heap.size w w' := by
  have e1 : decide ((4096 : Int) < usedN zs) = true := by simp; omega
  refine (rlong_any a len cap zs w h hl).mono ?_
  rintro e w' ⟨rfl, rfl⟩
  rw [e1]
  exact ⟨rfl, Below.refl _ _⟩
end Go.Proofs.Ytajjhnilpdmnhaa
namespace Go.Proofs.Ytajjhnilpdmnhaa
open Go.RowKit Go.Shelf

theorem is_nil (ca cb : Nat) (a b : Option Addr) (w : World) :
    Calls Try.prog 13 #[.agg #[.slice a 0 ca], .slice b 0 cb] w fun e w' => e = .returned (.bool true) ∧ Below w.heap.size w w' :=
  is_true a b 0 ca cb [] w ⟨⟨rfl, Limbs.nil, fun h => absurd h (by decide)⟩, rfl, by omega, by omega⟩ ⟨rfl, Limbs.nil, fun h => absurd h (by decide)⟩
/-- What the document answers is the very list of the number. -/
theorem Nt.same {w w' : World} {a b : Option Addr} {l c m : Nat} {zs ds : List Int} (h : Nt w a l c zs) (s : Sl w' b m ds) (u : usedN ds = m) (e : num ds = num zs) : m = l ∧ ds = zs := by
  obtain ⟨e1, e2⟩ := one_list s.2.1 h.limbs s.1 u e
  have hz := h.1.1
  rw [h.2.1] at e1 e2
  rw [List.take_of_length_le (by omega)] at e2
  exact ⟨e1, e2⟩
theorem is_ok (a b : Option Addr) (la ca m cb : Nat) (zs ds : List Int) (w : World) (h : Nt w a la ca zs) (s : Sl w b m ds) (u : usedN ds = m) (e : num ds = num zs) :
    Calls Try.prog 13 #[.agg #[.slice a la ca], .slice b m cb] w fun e w' => e = .returned (.bool true) ∧ Below w.heap.size w w' := by
  obtain ⟨rfl, rfl⟩ := h.same s u e
  exact is_true a b m ca cb ds w h s
theorem agrees_ok (a b : Option Addr) (la ca m cb : Nat) (zs ds : List Int) (w : World) (h : Nt w a la ca zs) (s : Sl w b m ds) (u : usedN ds = m) (e : num ds = num zs) :
    Calls Try.prog 28 #[.agg #[.slice a la ca], .int .i64 0, .slice b m cb] w fun e w' => e = .returned (.bool true) ∧ Below w.heap.size w w' := by
  obtain ⟨rfl, rfl⟩ := h.same s u e
  have l1 := h.2
  have B0 : Below w.heap.size w w := Below.refl _ _
  go_enter Try.func28, Try.ntmps28
  go_wp2_with fail
  refine ent1 w _ _ (Q := fun W => Calls Try.prog _ _ W _) ?_
  intro x1 hb hs V0
  replace B0 := step B0 hb
  replace h := Nt.after hb h
  replace s := s.below hb (Nat.le_refl _)
  clear hb hs
  refine (rlong_no b m cb ds x1 s (by omega) (by omega)).mono ?_
  rintro e x2 ⟨rfl, hb⟩
  replace B0 := step B0 hb
  replace h := Nt.after hb h
  replace s := s.below hb (Nat.le_refl _)
  replace V0 := Va.after hb V0
  clear hb
  have c0 := V0.cell
  go_wp2_with fail
  refine (is_true a b m ca cb ds x2 h s).mono ?_
  rintro e x3 ⟨rfl, hb⟩
  go_wp2_with fail
  go_ret
  exact ⟨rfl, step B0 hb⟩
theorem agrees_long (b : Option Addr) (ca m cb : Nat) (ds : List Int) (w : World) (s : Sl w b m ds) (hm : m ≤ 40000000000000) (u : 4096 < usedN ds) :
    Calls Try.prog 28 #[.agg #[.slice none 0 ca], .int .i64 3, .slice b m cb] w fun e w' => e = .returned (.bool true) ∧ Below w.heap.size w w' := by
  have B0 : Below w.heap.size w w := Below.refl _ _
  go_enter Try.func28, Try.ntmps28
  go_wp2_with fail
  refine ent1 w _ _ (Q := fun W => Calls Try.prog _ _ W _) ?_
  intro x1 hb hs V0
  replace B0 := step B0 hb
  replace s := s.below hb (Nat.le_refl _)
  clear hb hs
  refine (rlong_yes b m cb ds x1 s hm u).mono ?_
  rintro e x2 ⟨rfl, hb⟩
  replace B0 := step B0 hb
  replace V0 := Va.after hb V0
  clear hb
  have c0 := V0.cell
  go_wp2_with fail
  refine (is_nil ca 0 none none x2).mono ?_
  rintro e x3 ⟨rfl, hb⟩
  go_wp2_with fail
  go_ret
  exact ⟨rfl, step B0 hb⟩
/-- A list whose number is long has more limbs than there may be. -/
theorem long_used {ds : List Int} {N : Int} (h : Limbs ds) (e0 : num ds = N) (e1 : Hid (pw 4096 ≤ N)) : 4096 < usedN ds := by
  have e : pw 4096 ≤ num ds := by rw [e0]; exact e1.out
  rcases Nat.lt_or_ge 4096 (usedN ds) with h' | h'
  · exact h'
  · have := lt_of_used h h'; omega
/-- Four variables that hold numbers. -/
def P4 (w : World) (b1 b2 b3 b4 : Nat) (a1 a2 a3 a4 : Option Addr) (l1 l2 l3 l4 c1 c2 c3 c4 : Nat) (z1 z2 z3 z4 : List Int) (W : World) : Prop :=
  HV w b1 a1 l1 c1 z1 W ∧ HV w b2 a2 l2 c2 z2 W ∧ HV w b3 a3 l3 c3 z3 W ∧ HV w b4 a4 l4 c4 z4 W
section
variable {w : World} {b1 b2 b3 b4 : Nat} {a1 a2 a3 a4 : Option Addr} {l1 l2 l3 l4 c1 c2 c3 c4 : Nat} {z1 z2 z3 z4 : List Int} {W W' : World}
theorem HV.after (hb : Below W.heap.size W W') (h : HV w b1 a1 l1 c1 z1 W) : HV w b1 a1 l1 c1 z1 W' := ⟨Va.after hb h.1, Nt.after hb h.2.1, step h.2.2 hb⟩
theorem HV.drw (h : HV w b1 a1 l1 c1 z1 W) : HV w b1 a1 l1 c1 z1 W.drew := ⟨h.1, h.2.1, h.2.2.drew⟩
theorem P4.s (h : P4 w b1 b2 b3 b4 a1 a2 a3 a4 l1 l2 l3 l4 c1 c2 c3 c4 z1 z2 z3 z4 W) :
    W.cell? ⟨b1, 0, none⟩ = some (.slice a1 l1 c1) ∧ W.cell? ⟨b2, 0, none⟩ = some (.slice a2 l2 c2) ∧ W.cell? ⟨b3, 0, none⟩ = some (.slice a3 l3 c3) ∧ Hid (P4 w b1 b2 b3 b4 a1 a2 a3 a4 l1 l2 l3 l4 c1 c2 c3 c4 z1 z2 z3 z4 W) :=
  ⟨h.1.1.cell, h.2.1.1.cell, h.2.2.1.1.cell, h⟩
theorem P4.after (hb : Below W.heap.size W W') (h : P4 w b1 b2 b3 b4 a1 a2 a3 a4 l1 l2 l3 l4 c1 c2 c3 c4 z1 z2 z3 z4 W) : P4 w b1 b2 b3 b4 a1 a2 a3 a4 l1 l2 l3 l4 c1 c2 c3 c4 z1 z2 z3 z4 W' :=
  ⟨h.1.after hb, h.2.1.after hb, h.2.2.1.after hb, h.2.2.2.after hb⟩
theorem P4.drw (h : P4 w b1 b2 b3 b4 a1 a2 a3 a4 l1 l2 l3 l4 c1 c2 c3 c4 z1 z2 z3 z4 W) : P4 w b1 b2 b3 b4 a1 a2 a3 a4 l1 l2 l3 l4 c1 c2 c3 c4 z1 z2 z3 z4 W.drew :=
  ⟨h.1.drw, h.2.1.drw, h.2.2.1.drw, h.2.2.2.drw⟩
theorem P4.call (hb : Below W.heap.size W W') (h : W.cell? ⟨b1, 0, none⟩ = some (.slice a1 l1 c1) ∧ W.cell? ⟨b2, 0, none⟩ = some (.slice a2 l2 c2) ∧ W.cell? ⟨b3, 0, none⟩ = some (.slice a3 l3 c3) ∧ Hid (P4 w b1 b2 b3 b4 a1 a2 a3 a4 l1 l2 l3 l4 c1 c2 c3 c4 z1 z2 z3 z4 W)) :
    W'.cell? ⟨b1, 0, none⟩ = some (.slice a1 l1 c1) ∧ W'.cell? ⟨b2, 0, none⟩ = some (.slice a2 l2 c2) ∧ W'.cell? ⟨b3, 0, none⟩ = some (.slice a3 l3 c3) ∧ Hid (P4 w b1 b2 b3 b4 a1 a2 a3 a4 l1 l2 l3 l4 c1 c2 c3 c4 z1 z2 z3 z4 W') := P4.s (P4.after hb h.2.2.2)
theorem P4.get (h : W.cell? ⟨b1, 0, none⟩ = some (.slice a1 l1 c1) ∧ W.cell? ⟨b2, 0, none⟩ = some (.slice a2 l2 c2) ∧ W.cell? ⟨b3, 0, none⟩ = some (.slice a3 l3 c3) ∧ Hid (P4 w b1 b2 b3 b4 a1 a2 a3 a4 l1 l2 l3 l4 c1 c2 c3 c4 z1 z2 z3 z4 W)) : P4 w b1 b2 b3 b4 a1 a2 a3 a4 l1 l2 l3 l4 c1 c2 c3 c4 z1 z2 z3 z4 W := h.2.2.2
theorem HV.get (h : W.cell? ⟨b1, 0, none⟩ = some (.slice a1 l1 c1) ∧ Hid (HV w b1 a1 l1 c1 z1 W)) : HV w b1 a1 l1 c1 z1 W := h.2
end
end Go.Proofs.Ytajjhnilpdmnhaa
namespace Go.Proofs.Ytajjhnilpdmnhaa.H
theorem num_above {a b : List Int} {t : Nat} (h : ∀ j, t ≤ j → a.getD j 0 = b.getD j 0) : ∀ k, num (a.take (t + k)) - num (a.take t) = num (b.take (t + k)) - num (b.take t)
  | 0 => by simp only [Nat.add_zero]; omega
  | k + 1 => by
    have ih := num_above h k
    rw [← Nat.add_assoc, num_take_succ, num_take_succ, h (t + k) (by omega)]; omega
theorem num_above' {a b : List Int} {t : Nat} (h : ∀ j, t ≤ j → a.getD j 0 = b.getD j 0) : num a - num (a.take t) = num b - num (b.take t) := by
  have e := num_above h (a.length + b.length)
  have e1 : a.take (t + (a.length + b.length)) = a := List.take_of_length_le (by omega)
  have e2 : b.take (t + (a.length + b.length)) = b := List.take_of_length_le (by omega)
  rw [e1, e2] at e; exact e
/-- The highest limb in which they differ decides. -/
theorem num_lt_at {a b : List Int} {t : Nat} (ha : Limbs a) (hb : Limbs b) (h : ∀ j, t < j → a.getD j 0 = b.getD j 0) (hlt : a.getD t 0 < b.getD t 0) : num a < num b := by
  have e := num_above' (t := t + 1) (fun j hj => h j (by omega))
  rw [num_take_succ, num_take_succ] at e
  have h1 := num_lt (ha.take t); have h2 := num_nonneg (hb.take t)
  have h3 : num (a.take t) < pw t := by
    refine Int.lt_of_lt_of_le h1 (pw_mono ?_)
    rw [List.length_take]; omega
  have h4 : (a.getD t 0 + 1) * pw t ≤ b.getD t 0 * pw t := Int.mul_le_mul_of_nonneg_right (by omega) (by have := pw_pos t; omega)
  rw [Int.add_mul, Int.one_mul] at h4
  omega
theorem num_lt_len {a b : List Int} (ha : Limbs a) (hb : Limbs b) (h : usedN a < usedN b) : num a < num b := by
  have h1 := num_lt_used ha; have h2 := num_ge_used hb (by omega)
  have := pw_mono (show usedN a ≤ usedN b - 1 by omega); omega
theorem num_eq_of {a b : List Int} (h : ∀ j, a.getD j 0 = b.getD j 0) : num a = num b := by
  have e := num_above' (a := a) (b := b) (t := 0) (fun j _ => h j)
  simp [num] at e; omega
theorem num_set (zs : List Int) (j : Nat) (v : Int) (h : j < zs.length) : num (zs.set j v) = num zs + (v - zs.getD j 0) * pw j := by
  have e := num_above' (a := zs.set j v) (b := zs) (t := j + 1) (fun i hi => getD_set_other zs j i v (by omega))
  rw [num_set_take _ _ _ h, num_take_succ] at e
  rw [Int.sub_mul]
  omega
theorem num_two (zs : List Int) : num zs = zs.getD 0 0 + 4294967296 * zs.getD 1 0 + 18446744073709551616 * num (zs.drop 2) := by
  match zs with
  | [] => simp [num]
  | [x] => simp [num]
  | x :: y :: r => simp [num]; omega
end Go.Proofs.Ytajjhnilpdmnhaa.H
namespace Go.Proofs.Ytajjhnilpdmnhaa
open Go.RowKit Go.Shelf

def RPrInv (xs ys cs : List Int) (n lb i : Nat) : Prop :=
  cs.length = n ∧ H.Limbs cs ∧ (∀ j, i + lb ≤ j → cs.getD j 0 = 0) ∧ H.num cs = H.num (xs.take i) * H.num ys
def InInv (ys cs : List Int) (n lb i k : Nat) (T x c : Int) : Prop :=
  cs.length = n ∧ H.Limbs cs ∧ (∀ j, i + lb ≤ j → cs.getD j 0 = 0) ∧ H.num cs + c * H.pw (i + k) = T + x * H.num (ys.take k) * H.pw i ∧ 0 ≤ c ∧ c < 4294967296

theorem in_start {xs ys cs : List Int} {n lb i : Nat} (x : Int) (I : RPrInv xs ys cs n lb i) : InInv ys cs n lb i 0 (H.num (xs.take i) * H.num ys) x 0 := by
  obtain ⟨i1, i2, i3, i4⟩ := I
  exact ⟨i1, i2, i3, by rw [i4]; simp [H.num], by omega, by omega⟩
theorem in_word {o x y c : Int} (ho : 0 ≤ o ∧ o < 4294967296) (hx : 0 ≤ x ∧ x < 4294967296) (hy : 0 ≤ y ∧ y < 4294967296) (hc : 0 ≤ c ∧ c < 4294967296) :
    0 ≤ x * y ∧ x * y ≤ 18446744065119617025 ∧ (o + x * y + c) / 4294967296 < 4294967296 := by
  have h1 : 0 ≤ x * y := Int.mul_nonneg hx.1 hy.1
  have h2 : x * y ≤ 4294967295 * y := Int.mul_le_mul_of_nonneg_right (by omega) hy.1
  generalize x * y = p at *
  omega
theorem in_step {ys cs : List Int} {n lb i k : Nat} {T x c : Int} (hx : 0 ≤ x ∧ x < 4294967296) (hy : H.Limbs ys) (hk : k < lb) (hn : i + lb ≤ n) (I : InInv ys cs n lb i k T x c) :
    InInv ys (cs.set (i + k) ((cs.getD (i + k) 0 + x * ys.getD k 0 + c) % 4294967296)) n lb i (k + 1) T x ((cs.getD (i + k) 0 + x * ys.getD k 0 + c) / 4294967296) := by
  obtain ⟨i1, i2, i3, i4, i5, i6⟩ := I
  have b1 := i2.getD (i + k); have b2 := hy.getD k
  obtain ⟨p1, p2, p3⟩ := in_word b1 hx b2 ⟨i5, i6⟩
  refine ⟨by rw [List.length_set]; exact i1, i2.set _ ⟨by omega, by omega⟩, fun j hj => by rw [getD_set_other _ _ _ _ (by omega)]; exact i3 j hj, ?_, by omega, p3⟩
  have hc := H.carry_step (v := (cs.getD (i + k) 0 + x * ys.getD k 0 + c) % 4294967296) (c' := (cs.getD (i + k) 0 + x * ys.getD k 0 + c) / 4294967296) (p := H.pw (i + k)) (s := cs.getD (i + k) 0 + x * ys.getD k 0 + c) (by omega)
  rw [Int.add_mul (cs.getD (i + k) 0 + x * ys.getD k 0), Int.add_mul (cs.getD (i + k) 0)] at hc
  rw [H.num_set _ _ _ (by omega), H.num_take_succ, ← Nat.add_assoc, H.pw, Int.sub_mul, Int.mul_add x, Int.add_mul (x * H.num (ys.take k))]
  have e : x * (ys.getD k 0 * H.pw k) * H.pw i = x * ys.getD k 0 * H.pw (i + k) := by
    rw [H.pw_add, Int.mul_comm (H.pw i), Int.mul_assoc, Int.mul_assoc, Int.mul_assoc]
  rw [e]
  omega
theorem in_end {xs ys cs : List Int} {n lb i : Nat} {c : Int} (hlb : ys.length = lb) (hn : i + lb < n) (I : InInv ys cs n lb i lb (H.num (xs.take i) * H.num ys) (xs.getD i 0) c) : RPrInv xs ys (cs.set (i + lb) c) n lb (i + 1) := by
  obtain ⟨i1, i2, i3, i4, i5, i6⟩ := I
  refine ⟨by rw [List.length_set]; exact i1, i2.set _ ⟨i5, i6⟩, fun j hj => by rw [getD_set_other _ _ _ _ (by omega)]; exact i3 j (by omega), ?_⟩
  have et : ys.take lb = ys := List.take_of_length_le (by omega)
  rw [et] at i4
  rw [H.num_set _ _ _ (by omega), i3 (i + lb) (Nat.le_refl _), Int.sub_zero, H.num_take_succ, Int.add_mul, Int.mul_right_comm (xs.getD i 0)]
  exact i4

set_option maxHeartbeats 2000000 in
theorem rproduct_any (a b : Option Addr) (la ca lb cb : Nat) (xs ys : List Int) (w : World) (ha : Sl w a la xs) (hb : Sl w b lb ys) (hx : H.Limbs xs) (hy : H.Limbs ys) (h1 : la ≤ 8000000000000) (h2 : lb ≤ 8000000000000) :
    Calls Try.prog 59 #[.slice a la ca, .slice b lb cb] w fun e w' => DRes w w' e (H.num xs * H.num ys) (la + lb) := by
  have hza := ha.1; have hzb := hb.1
  have hmk := make_row (la + lb) (by omega)
  rw [show ((la + lb : Nat) : Int) = (la : Int) + lb by omega] at hmk
  have I0 : Hid (RPrInv xs ys (List.replicate (la + lb) 0) (la + lb) lb 0) :=
    ⟨by simp, fun z hz => by rw [List.eq_of_mem_replicate hz]; decide, fun j _ => by rw [List.getD_eq_getElem?_getD, List.getElem?_replicate]; split <;> rfl, by rw [H.num_zeros]; simp [H.num]⟩
  have O0 : Hid (Own (w.alloc (.cells (row (List.replicate (la + lb) 0)).toArray 23)) w.heap.size (List.replicate (la + lb) 0)) := heap_alloc_new _ _
  go_enter Try.func59, Try.ntmps59
  go_wp2_with fail
  clear hmk
  go_loopw [6] (fun ii wr => ∃ (i : Nat) (cs : List Int), ii = .int .i64 i ∧ i ≤ la ∧ Hid (RPrInv xs ys cs (la + lb) lb i) ∧ Hid (Own wr w.heap.size cs) ∧ Below w.heap.size w wr) (fun ii _ => la - (intOf ii).toNat)
  case atStart => exact ⟨0, _, rfl, by omega, I0, O0, (Below.refl _ _).alloc (Nat.le_refl _) _⟩
  case round =>
    obtain ⟨i, cs, rfl, hi, hI, hO, hbl⟩ := hrel
    by_cases hlt : i < la
    · obtain ⟨x, hxx⟩ : ∃ x, xs.getD i 0 = x := ⟨_, rfl⟩
      have hxw := hx.getD i
      rw [hxx] at hxw
      have HXX : Hid (xs.getD i 0 = x) := hxx
      have IN0 : Hid (InInv ys cs (la + lb) lb i 0 (H.num (xs.take i) * H.num ys) x 0) := in_start x hI.out
      obtain ⟨ba, oa, rfl, hca⟩ := ha.2.2 (by omega)
      have hcax := hca i hlt
      rw [hxx] at hcax
      have hba : ba < w.heap.size := by
        rcases Nat.lt_or_ge ba w.heap.size with h' | h'
        · exact h'
        · simp [World.cell?, Array.getElem?_eq_none h'] at hcax
      obtain ⟨wo, hwo⟩ : ∃ wo : World, wo = wr := ⟨_, rfl⟩
      rw [← hwo] at hO hbl
      clear hxx hca
      go_wp2_with fail
      rw [← hwo]
      clear hwo
      go_loopw [7, 8] (fun cc kk wq => ∃ (k : Nat) (c : Int) (ds : List Int), kk = .int .i64 k ∧ cc = .int .u64 c ∧ k ≤ lb ∧ Hid (InInv ys ds (la + lb) lb i k (H.num (xs.take i) * H.num ys) x c) ∧ Hid (Own wq w.heap.size ds) ∧ Below w.heap.size w wq) (fun _ kk _ => lb - (intOf kk).toNat)
      case atStart => exact ⟨0, 0, cs, rfl, rfl, by omega, IN0, hO, hbl⟩
      case round =>
        obtain ⟨k, c, ds, rfl, rfl, hk, hJ, hP, hbq⟩ := hrel
        by_cases hkl : k < lb
        · obtain ⟨bb, ob, rfl, hcb⟩ := hb.2.2 (by omega)
          have hcbx := hcb k hkl
          have hbb : bb < w.heap.size := by
            rcases Nat.lt_or_ge bb w.heap.size with h' | h'
            · exact h'
            · simp [World.cell?, Array.getElem?_eq_none h'] at hcbx
          obtain ⟨y, hyy⟩ : ∃ y, ys.getD k 0 = y := ⟨_, rfl⟩
          have hyw := hy.getD k
          have hstep := in_step hxw hy hkl (by omega) hJ.out
          have hcx := hP.out.cell (i + k) (by rw [hJ.out.1]; omega)
          have hfx := hP.out.frozen (i + k)
          have how := hJ.out.2.1.getD (i + k)
          have hc0 := hJ.out.2.2.2.2.1
          have hc1 := hJ.out.2.2.2.2.2
          obtain ⟨o, hoo⟩ : ∃ o, ds.getD (i + k) 0 = o := ⟨_, rfl⟩
          rw [hyy] at hcbx hyw hstep
          rw [hoo] at hcx how hstep
          obtain ⟨p1, p2, p3⟩ := in_word how hxw hyw ⟨hc0, hc1⟩
          obtain ⟨p, hp⟩ : ∃ p, x * y = p := ⟨_, rfl⟩
          rw [hp] at p1 p2 p3 hstep
          obtain ⟨o1, o2⟩ := how
          have ca1 : wr.cell? ⟨ba, oa + i, none⟩ = some (.int .u64 x) := (hbq.cell (p := ⟨ba, oa + i, none⟩) hba).trans hcax
          have cb1 : wr.cell? ⟨bb, ob + k, none⟩ = some (.int .u64 y) := (hbq.cell (p := ⟨bb, ob + k, none⟩) hbb).trans hcbx
          obtain ⟨t, ht⟩ : ∃ t, o + p + c = t := ⟨_, rfl⟩
          rw [ht] at hstep p3
          have t0 : 0 ≤ t := by omega
          have t1 : t < 18446744073709551616 := by omega
          have m0 : IntKind.i64.wrap ((i : Int) + k) = i + k := by rw [IntKind.wrap_i64]; omega
          have m1 : IntKind.u64.wrap (x * y) = p := by rw [hp, IntKind.wrap_u64]; omega
          have m2 : IntKind.u64.wrap (p + o) = p + o := by rw [IntKind.wrap_u64]; omega
          have m3 : IntKind.u64.wrap (p + o + c) = t := by rw [IntKind.wrap_u64]; omega
          have m4 : ((i : Int) + k).toNat = i + k := by omega
          have m5 : (i : Int) + k < la + lb := by omega
          have HS : Hid (InInv ys (ds.set (i + k) (t % 4294967296)) (la + lb) lb i (k + 1) (H.num (xs.take i) * H.num ys) x (t / 4294967296)) := hstep
          clear hstep hyy hoo hp ht hcb hcbx hcax hyw p3
          go_wp2_with fail
          go_quiet (fail)
          clear m1 m2 m3
          go_wp2_with fail
          go_roundw
          case rel => exact ⟨k + 1, _, _, by go_num, rfl, by omega, HS, Own.set (w := wr.drewN nq) hP.out (i + k) _, (below_drewN hbq nq).setCell (Nat.le_refl _) _⟩
          case measure => simp [intOf]; omega
        · obtain rfl : k = lb := by omega
          have hJ' := hJ.out
          rw [← HXX.out] at hJ'
          have HE : Hid (RPrInv xs ys (ds.set (i + k) c) (la + k) k (i + 1)) := in_end hzb (by omega) hJ'
          have hcx := hP.out.cell (i + k) (by rw [hJ.out.1]; omega)
          have hfx := hP.out.frozen (i + k)
          have m4 : ((i : Int) + k).toNat = i + k := by omega
          have m5 : (i : Int) + k < la + k := by omega
          clear hJ' hcax
          go_wp2_with fail
          go_roundw
          case rel => exact ⟨i + 1, _, by go_num, by omega, HE, Own.set hP.out (i + k) _, hbq.setCell (Nat.le_refl _) _⟩
          case measure => simp [intOf]; omega
    · obtain rfl : i = la := by omega
      obtain ⟨i1, i2, i3, i4⟩ := hI.out
      have et : xs.take i = xs := List.take_of_length_le (by omega)
      rw [et] at i4
      have hsl := hO.out.sl i2.up
      rw [i1] at hsl
      have hu := usedN_le cs
      have hle : usedN cs ≤ i + lb := by omega
      clear i1 et
      go_wp2_with fail
      refine (cutr_any (some ⟨w.heap.size, 0, none⟩) (i + lb) (i + lb) cs _ hsl (by omega) (Nat.le_refl _)).mono ?_
      rintro e w2 ⟨rfl, rfl⟩
      go_wp2_with fail
      go_ret
      exact ⟨_, usedN cs, i + lb, cs.take (usedN cs), rfl, hle, hle, hsl.take hle, i2.take _, usedN_take cs (Nat.le_refl _), by rw [H.num_take_used cs (Nat.le_refl _)]; exact i4, hbl⟩

theorem rmul_any (a0 a1 : Option Addr) (l0 k0 l1 k1 : Nat) (z0 z1 : List Int) (w : World) (ha0 : Sl w a0 l0 z0) (hb0 : Sl w a1 l1 z1) (h1 : l0 ≤ 2000000000000) (h2 : l1 ≤ 2000000000000) :
    Calls Try.prog 33 #[.slice a0 l0 k0, .slice a1 l1 k1] w fun e w' => LRes w w' e (num z0 * num z1) (2 * l0 + 2 * l1) := by
  go_enter Try.func33, Try.ntmps33
  go_wp2_with fail
  refine (digits_any a0 l0 k0 z0 w ha0 (by omega)).mono ?_
  rintro e wa ⟨a, la, ca, xs, rfl, -, hla, ha, hx, ux, nx, ba⟩
  go_wp2_with fail
  refine (digits_any a1 l1 k1 z1 wa (hb0.below ba (Nat.le_refl _)) (by omega)).mono ?_
  rintro e wb ⟨b, lb, cb, ys, rfl, -, hlb, hb, hy, uy, ny, bb⟩
  replace ha := ha.below bb (Nat.le_refl _)
  have HB : Hid (Below w.heap.size w wb) := step ba bb
  go_wp2_with fail
  refine (rproduct_any a b la ca lb cb xs ys wb ha hb hx hy (by omega) (by omega)).mono ?_
  rintro e wd ⟨ad, md, cd, ds, rfl, -, hmd, sd, hd, ud, nd, bd⟩
  go_wp2_with fail
  refine (limbsr_any ad md cd ds wd sd hd (by omega)).mono ?_
  rintro e w4 ⟨a4, m4, c4, z4, rfl, k4, k5, s4, u4, n4, b4⟩
  go_wp2_with fail
  go_ret
  exact ⟨a4, m4, c4, z4, rfl, k4, by omega, s4, u4, by rw [n4, nd, nx, ny], step (step HB.out bd) b4⟩
end Go.Proofs.Ytajjhnilpdmnhaa
namespace Go.Proofs.Ytajjhnilpdmnhaa
open Go.RowKit Go.Shelf

theorem Hnum_drop_at (zs : List Int) (t : Nat) (h : t < zs.length) : H.num (zs.drop t) = zs.getD t 0 + 4294967296 * H.num (zs.drop (t + 1)) := by
  rw [List.drop_eq_getElem_cons h, H.num, List.getD_eq_getElem?_getD, List.getElem?_eq_getElem h]; rfl
theorem Hnum_set_drop (zs : List Int) (t : Nat) (v : Int) (h : t < zs.length) : H.num ((zs.set t v).drop t) = v + 4294967296 * H.num (zs.drop (t + 1)) := by
  rw [Hnum_drop_at _ _ (by rw [List.length_set]; exact h), List.getD_eq_getElem?_getD, List.getElem?_set_self h, List.drop_set_of_lt (by omega)]; rfl
def RvInv (zs cs : List Int) (b : Int) (t : Nat) (r : Int) : Prop :=
  cs.length = zs.length ∧ H.Limbs cs ∧ H.num (zs.drop t) = H.num (cs.drop t) * b + r ∧ 0 ≤ r ∧ r < b
theorem rv_step {zs cs : List Int} {b : Int} {t : Nat} {r : Int} (hz : H.Limbs zs) (I : RvInv zs cs b (t + 1) r) (h : t < zs.length) :
    RvInv zs (cs.set t ((4294967296 * r + zs.getD t 0) / b)) b t ((4294967296 * r + zs.getD t 0) % b) := by
  obtain ⟨i1, i2, i4, i5, i6⟩ := I
  have b1 := hz.getD t
  have hm := Int.emod_nonneg (4294967296 * r + zs.getD t 0) (b := b) (by omega)
  have hml := Int.emod_lt_of_pos (4294967296 * r + zs.getD t 0) (b := b) (by omega)
  have hd0 : 0 ≤ (4294967296 * r + zs.getD t 0) / b := Int.ediv_nonneg (by omega) (by omega)
  have hd1 : (4294967296 * r + zs.getD t 0) / b < 4294967296 := Int.ediv_lt_of_lt_mul (by omega) (by omega)
  refine ⟨by rw [List.length_set]; exact i1, i2.set t ⟨hd0, hd1⟩, ?_, hm, hml⟩
  have hdm := Int.mul_ediv_add_emod (4294967296 * r + zs.getD t 0) b
  rw [Hnum_set_drop _ _ _ (by omega), Hnum_drop_at _ _ (by omega), i4, Int.add_mul, Int.mul_assoc]
  rw [Int.mul_comm b] at hdm
  omega
theorem rv_end {zs cs : List Int} {b r : Int} (I : RvInv zs cs b 0 r) : H.num cs = H.num zs / b := by
  obtain ⟨i1, i2, i4, i5, i6⟩ := I
  rw [List.drop_zero, List.drop_zero] at i4
  rw [i4, Int.add_comm, Int.add_mul_ediv_right _ _ (by omega), Int.ediv_eq_zero_of_lt i5 i6, Int.zero_add]

theorem rv_whole {zs cs : List Int} {b r : Int} (I : RvInv zs cs b 0 r) : H.num zs = H.num cs * b + r := by
  have := I.2.2.1
  rwa [List.drop_zero, List.drop_zero] at this

set_option maxHeartbeats 1000000 in
theorem rshort_any (a : Option Addr) (n ca : Nat) (D : List Int) (b : Int) (w : World) (ha : Sl w a n D) (LD : H.Limbs D) (h1 : n ≤ 16000000000000) (b0 : 0 < b) (b1 : b < 4294967296) :
    Calls Try.prog 60 #[.slice a n ca, .int .u64 b] w fun e w' =>
      ∃ a' m c ds r, e = .returned (.tuple #[.slice a' m c, .int .u64 r]) ∧ m ≤ c ∧ m ≤ n ∧ Sl w' a' m ds ∧ H.Limbs ds ∧ usedN ds = m ∧ H.num D = H.num ds * b + r ∧ 0 ≤ r ∧ r < b ∧ Below w.heap.size w w' := by
  have hmk := make_row n (by omega)
  have HLD : Hid (D.length = n) := ha.1
  have HTD : Hid (Sl w a n D) := ha
  have gb : (b == 0) = false := by simp; omega
  have I0 : Hid (RvInv D (List.replicate n 0) b n 0) := by
    refine ⟨by simp [HLD.out], H.Limbs.zeros _, ?_, by omega, b0⟩
    have e1 : D.drop n = [] := List.drop_eq_nil_of_le (by rw [HLD.out]; exact Nat.le_refl _)
    have e2 : (List.replicate n (0 : Int)).drop n = [] := List.drop_eq_nil_of_le (by simp)
    rw [e1, e2]; simp [H.num]
  have O0 : Hid (Own (w.alloc (.cells (row (List.replicate n 0)).toArray 23)) w.heap.size (List.replicate n 0)) := heap_alloc_new _ _
  clear ha
  go_enter Try.func60, Try.ntmps60
  go_wp2_with fail
  clear hmk
  have hB1 : Below w.heap.size w (w.alloc (.cells (row (List.replicate n 0)).toArray 23)) := (Below.refl _ _).alloc (Nat.le_refl _) _
  go_loopw [7, 8] (fun rr ii wr => ∃ (k : Nat) (r : Int) (cs : List Int), ii = .int .i64 ((k : Int) - 1) ∧ rr = .int .u64 r ∧ k ≤ n ∧ Hid (RvInv D cs b k r) ∧ Hid (Own wr w.heap.size cs) ∧ Below w.heap.size w wr) (fun _ ii _ => (intOf ii + 1).toNat)
  case atStart => exact ⟨n, 0, _, rfl, rfl, Nat.le_refl _, I0, O0, hB1⟩
  case round =>
    obtain ⟨k, r, cs, rfl, rfl, hk, hI, hO, hbl⟩ := hrel
    by_cases h0 : k = 0
    · subst h0
      have HE : Hid (H.num D = H.num cs * b + r) := rv_whole hI.out
      obtain ⟨i1, i2, i3, i4, i5⟩ := hI.out
      have hsl := hO.out.sl i2.up
      rw [i1, HLD.out] at hsl
      have hu := usedN_le cs
      have hle : usedN cs ≤ n := by have := HLD.out; omega
      clear i1 i3
      go_wp2_with fail
      refine (cutr_any (some ⟨w.heap.size, 0, none⟩) n n cs _ hsl (by omega) (Nat.le_refl _)).mono ?_
      rintro e w2 ⟨rfl, hw⟩
      rw [hw]
      clear hw
      have t2 := hsl.take hle
      go_wp2_with fail
      go_ret2
      exact ⟨_, usedN cs, n, cs.take (usedN cs), r, rfl, hle, hle, t2, i2.take _, usedN_take cs (Nat.le_refl _), by rw [H.num_take_used cs (Nat.le_refl _)]; exact HE.out, i4, i5, hbl⟩
    · obtain ⟨j, rfl⟩ : ∃ j, k = j + 1 := ⟨k - 1, by omega⟩
      have hs := HTD.out.below hbl (Nat.le_refl _)
      obtain ⟨ba, oa, rfl, hc⟩ := hs.2.2 (by omega)
      have hcx := hc j (by omega)
      have hxw := LD.getD j
      have hstep := rv_step LD hI.out (by rw [HLD.out]; omega)
      have hcy := hO.out.cell j (by rw [hI.out.1, HLD.out]; omega)
      have hfy := hO.out.frozen j
      have hr0 := hI.out.2.2.2.1
      have hr1 := hI.out.2.2.2.2
      obtain ⟨x, hx⟩ : ∃ x, D.getD j 0 = x := ⟨_, rfl⟩
      rw [hx] at hcx hxw hstep
      obtain ⟨x1, x2⟩ := hxw
      rw [Int.mul_comm] at hstep
      obtain ⟨y, hy⟩ : ∃ y, r * 4294967296 + x = y := ⟨_, rfl⟩
      rw [hy] at hstep
      have y1 : 0 ≤ y := by omega
      have y2 : y < 18446744073709551616 := by omega
      have r2 : r < 4294967296 := by omega
      have HS : Hid (RvInv D (cs.set j (y / b)) b j (y % b)) := hstep
      have jn : (j : Int) < n := by omega
      rw [show (((j + 1 : Nat) : Int) - 1) = (j : Int) by omega]
      clear hstep hx hs hc h0
      go_wp2_with fail
      go_roundw
      case rel => exact ⟨j, _, _, rfl, rfl, by omega, HS, Own.set hO.out j _, hbl.setCell (Nat.le_refl _) _⟩
      case measure => simp [intOf]

/-- What holds behind so many places of a product with one digit. -/
def TmInv (xs cs : List Int) (q : Int) (n i : Nat) (c : Int) : Prop :=
  cs.length = n ∧ H.Limbs cs ∧ H.num (cs.take i) + c * H.pw i = H.num (xs.take i) * q ∧ 0 ≤ c ∧ c < 4294967296
theorem tm_word {x q c : Int} (hx : 0 ≤ x ∧ x < 4294967296) (hq : 0 ≤ q ∧ q < 4294967296) (hc : 0 ≤ c ∧ c < 4294967296) : 0 ≤ x * q ∧ x * q < 18446744073709551616 ∧ x * q + c ≤ 18446744069414584320 := by
  have h0 : 0 ≤ x * q := Int.mul_nonneg hx.1 hq.1
  have h1 : x * q ≤ 4294967295 * 4294967295 := Int.mul_le_mul (by omega) (by omega) hq.1 (by omega)
  omega
theorem tm_step {xs cs : List Int} {q : Int} {n i : Nat} {c : Int} (hx : H.Limbs xs) (hq : 0 ≤ q ∧ q < 4294967296) (I : TmInv xs cs q n i c) (h : i < n) :
    TmInv xs (cs.set i ((xs.getD i 0 * q + c) % 4294967296)) q n (i + 1) ((xs.getD i 0 * q + c) / 4294967296) := by
  obtain ⟨i1, i2, i3, i4, i5⟩ := I
  have b1 := hx.getD i
  obtain ⟨p1, p2, p3⟩ := tm_word b1 hq ⟨i4, i5⟩
  refine ⟨by rw [List.length_set]; exact i1, i2.set i ⟨by omega, by omega⟩, ?_, by omega, by omega⟩
  rw [H.num_set_take _ _ _ (by omega), H.num_take_succ, H.pw]
  have hc := H.carry_step (v := (xs.getD i 0 * q + c) % 4294967296) (c' := (xs.getD i 0 * q + c) / 4294967296) (p := H.pw i) (s := xs.getD i 0 * q + c) (by omega)
  rw [Int.add_mul] at hc
  have e1 : (H.num (xs.take i) + xs.getD i 0 * H.pw i) * q = H.num (xs.take i) * q + xs.getD i 0 * q * H.pw i := by rw [Int.add_mul, Int.mul_right_comm]
  rw [e1]
  omega
/-- All of the product is there, if it has room. -/
theorem tm_end {xs cs : List Int} {q : Int} {n : Nat} {c : Int} (I : TmInv xs cs q n n c) (hf : H.num xs * q < H.pw n) (hlen : xs.length ≤ n) : H.num cs = H.num xs * q := by
  obtain ⟨i1, i2, i3, i4, i5⟩ := I
  rw [List.take_of_length_le (by omega), List.take_of_length_le hlen] at i3
  have h1 := H.num_nonneg i2
  have hp := H.pw_pos n
  rcases Int.lt_or_le 0 c with h | h
  · have : 1 * H.pw n ≤ c * H.pw n := Int.mul_le_mul_of_nonneg_right (by omega) (Int.le_of_lt hp)
    omega
  · have : c = 0 := by omega
    rw [this] at i3; omega

set_option maxHeartbeats 1000000 in
theorem rdtimes_any (a : Option Addr) (la ca : Nat) (xs : List Int) (q : Int) (n : Nat) (w : World) (ha : Sl w a la xs) (hx : H.Limbs xs) (h1 : n ≤ 16000000000000) (hq : 0 ≤ q ∧ q < 4294967296) (hlen : la ≤ n) (hf : H.num xs * q < H.pw n) :
    Calls Try.prog 80 #[.slice a la ca, .int .u64 q, .int .i64 n] w fun e w' =>
      ∃ ds, e = .returned (.slice (some ⟨w.heap.size, 0, none⟩) n n) ∧ Own w' w.heap.size ds ∧ H.Limbs ds ∧ ds.length = n ∧ H.num ds = H.num xs * q ∧ Below w.heap.size w w' := by
  have hmk := make_row n (by omega)
  have HSL : Hid (Sl w a la xs) := ha
  have hza := ha.1
  have I0 : Hid (TmInv xs (List.replicate n 0) q n 0 0) := ⟨by simp, H.Limbs.zeros _, by simp [H.num], by omega, by omega⟩
  have O0 : Hid (Own (w.alloc (.cells (row (List.replicate n 0)).toArray 23)) w.heap.size (List.replicate n 0)) := heap_alloc_new _ _
  have HF : Hid (H.num xs * q < H.pw n) := hf
  clear ha hf
  go_enter Try.func80, Try.ntmps80
  go_wp2_with fail
  clear hmk
  have hB1 : Below w.heap.size w (w.alloc (.cells (row (List.replicate n 0)).toArray 23)) := (Below.refl _ _).alloc (Nat.le_refl _) _
  go_loopw [8, 9] (fun cc ii wr => ∃ (i : Nat) (c : Int) (cs : List Int), ii = .int .i64 i ∧ cc = .int .u64 c ∧ i ≤ n ∧ Hid (TmInv xs cs q n i c) ∧ Hid (Own wr w.heap.size cs) ∧ Below w.heap.size w wr) (fun _ ii _ => n - (intOf ii).toNat)
  case atStart => exact ⟨0, 0, _, rfl, rfl, by omega, I0, O0, hB1⟩
  case round =>
    obtain ⟨i, c, cs, rfl, rfl, hi, hI, hO, hbl⟩ := hrel
    by_cases hlt : i < n
    · have hstep := tm_step hx hq hI.out hlt
      have D1 := digit_any a la ca xs i wr (HSL.out.below hbl (Nat.le_refl _)) (by omega)
      rw [Int.toNat_natCast] at D1
      have b1 := hx.getD i
      have hcy := hO.out.cell i (by rw [hI.out.1]; exact hlt)
      have hfy := hO.out.frozen i
      have hc0 := hI.out.2.2.2.1
      have hc1 := hI.out.2.2.2.2
      obtain ⟨p1, p2, p3⟩ := tm_word b1 hq ⟨hc0, hc1⟩
      obtain ⟨x, hxx⟩ : ∃ x, xs.getD i 0 = x := ⟨_, rfl⟩
      rw [hxx] at D1 hstep b1 p1 p2 p3
      obtain ⟨p, hp⟩ : ∃ p, x * q = p := ⟨_, rfl⟩
      rw [hp] at p1 p2 p3 hstep
      have m1 : IntKind.u64.wrap (x * q) = p := by rw [hp, IntKind.wrap_u64]; omega
      have HS : Hid (TmInv xs (cs.set i ((p + c) % 4294967296)) q n (i + 1) ((p + c) / 4294967296)) := hstep
      have iN : (i : Int) < n := by omega
      clear hstep hxx
      go_wp2_with fail
      refine D1.mono ?_
      rintro e w2 ⟨rfl, hw2⟩
      rw [hw2]
      clear hw2 D1
      go_wp2_with fail
      go_roundw
      case rel => exact ⟨i + 1, _, _, by go_num, rfl, by omega, HS, Own.set hO.out i _, hbl.setCell (Nat.le_refl _) _⟩
      case measure => simp [intOf]; omega
    · obtain rfl : i = n := by omega
      have HE : Hid (H.num cs = H.num xs * q) := tm_end hI.out HF.out (by omega)
      obtain ⟨i1, i2, -⟩ := hI.out
      have HL : Hid (cs.length = i) := i1
      clear i1
      go_wp2_with fail
      go_ret
      exact ⟨cs, rfl, hO.out, i2, HL.out, HE.out, hbl⟩
end Go.Proofs.Ytajjhnilpdmnhaa
namespace Go.Proofs.Ytajjhnilpdmnhaa
open Go.RowKit Go.Shelf

/-- Block g alone of the old ones may have turned. -/
structure Near (g : Nat) (w w' : World) : Prop where
  bel : Below g w w'
  oth : ∀ k, k < w.heap.size → k ≠ g → w'.heap[k]? = w.heap[k]?
theorem Near.refl (g : Nat) (w : World) : Near g w w := ⟨Below.refl _ _, fun _ _ _ => rfl⟩
theorem Near.trans {g : Nat} {a b c : World} (h : Near g a b) (k : Near g b c) : Near g a c :=
  ⟨h.bel.trans k.bel, fun i hi hg => (k.oth i (Nat.lt_of_lt_of_le hi h.bel.size) hg).trans (h.oth i hi hg)⟩
theorem Near.of {g : Nat} {w w' : World} (b : Below w.heap.size w w') (hg : g ≤ w.heap.size) : Near g w w' := ⟨b.mono hg, fun k hk _ => b.block k hk⟩
theorem Near.set {g : Nat} {a w : World} (h : Near g a w) (i : Nat) (v : Value) : Near g a (w.setCell ⟨g, i, none⟩ v) :=
  ⟨h.bel.setCell (p := ⟨g, i, none⟩) (Nat.le_refl _) v, fun k hk hg => (Below.heap_setCell _ _ _ _ hg).trans (h.oth k hk hg)⟩
theorem Near.drewN {g : Nat} {a w : World} (h : Near g a w) (n : Nat) : Near g a (w.drewN n) := ⟨below_drewN h.bel n, h.oth⟩
theorem Own.near {g b : Nat} {w w' : World} {cs : List Int} (h : Own w b cs) (o : Near g w w') (hne : b ≠ g) : Own w' b cs := by
  have hlt : b < w.heap.size := by
    unfold Own at h
    rcases Nat.lt_or_ge b w.heap.size with h' | h'
    · exact h'
    · rw [Array.getElem?_eq_none h'] at h; cases h
  unfold Own at *
  rw [o.oth b hlt hne]; exact h
theorem Sx.near {g : Nat} {w w' : World} {a : Option Addr} {len : Nat} {zs : List Int} (h : Sx g w a len zs) (o : Near g w w') : Sx g w' a len zs := by
  have hlt := fun h0 p hp => h.1.lt h0 (p := p) hp
  obtain ⟨⟨h1, h2, h3⟩, h4⟩ := h
  refine ⟨⟨h1, h2, fun h0 => ?_⟩, h4⟩
  obtain ⟨b, off, rfl, hc⟩ := h3 h0
  refine ⟨b, off, rfl, fun i hi => ?_⟩
  rw [← hc i hi]
  exact World.cell?_of_block (w := w) (o.oth b (hlt h0 _ rfl) (h4 h0 _ rfl))

namespace H
/-- A number that is short enough: its lower digits, and a piece above. -/
theorem num_seg {us : List Int} (hL : Limbs us) {a n : Nat} (hlen : a + n + 1 ≤ us.length) (hN : num us < pw (a + n + 1)) : num us = num (us.take a) + num ((us.drop a).take (n + 1)) * pw a := by
  have e1 := num_take_drop us a (by omega)
  have e2 := num_take_drop (us.drop a) (n + 1) (by rw [List.length_drop]; omega)
  have h0 := num_nonneg (hL.take a)
  have h1 := num_nonneg ((hL.drop a).take (n + 1))
  have h2 := num_nonneg ((hL.drop a).drop (n + 1))
  have hp := pw_pos a
  have hq := pw_pos (n + 1)
  have e3 : pw (a + n + 1) = pw (n + 1) * pw a := by rw [show a + n + 1 = n + 1 + a by omega, pw_add]
  rcases Int.lt_or_le 0 (num ((us.drop a).drop (n + 1))) with h | h
  · exfalso
    have h3 : 1 * pw (n + 1) ≤ num ((us.drop a).drop (n + 1)) * pw (n + 1) := Int.mul_le_mul_of_nonneg_right (by omega) (Int.le_of_lt hq)
    have h4 : (num ((us.drop a).take (n + 1)) + num ((us.drop a).drop (n + 1)) * pw (n + 1)) * pw a ≥ pw (n + 1) * pw a := Int.mul_le_mul_of_nonneg_right (by omega) (Int.le_of_lt hp)
    rw [← e2] at h4
    omega
  · have h5 : num ((us.drop a).drop (n + 1)) = 0 := by omega
    rw [h5, Int.zero_mul, Int.add_zero] at e2
    rw [e1, e2]
end H
/-- What holds behind so many places that were taken off. -/
def LsInv (us ps ds : List Int) (a i : Nat) (c : Int) : Prop :=
  ds.length = us.length ∧ H.Limbs ds ∧ (∀ j, a + i ≤ j → ds.getD j 0 = us.getD j 0) ∧ H.num ds - c * H.pw (a + i) = H.num us - H.num (ps.take i) * H.pw a ∧ 0 ≤ c ∧ c ≤ 1
theorem ls_start {us ps : List Int} {a : Nat} (h : H.Limbs us) : LsInv us ps us a 0 0 := ⟨rfl, h, fun _ _ => rfl, by simp [H.num], by omega, by omega⟩
theorem ls_ring {N N0 T v x p c c' po pi : Int} (hd : v - 4294967296 * c' = x - p - c) (i4 : N - c * (po * pi) = N0 - T * po) : N + (v - x) * (po * pi) - c' * (4294967296 * (po * pi)) = N0 - (T + p * pi) * po := by grind
theorem ls_step {us ps ds : List Int} {a i : Nat} {c : Int} (hp : H.Limbs ps) (I : LsInv us ps ds a i c) (h : a + i < us.length) :
    LsInv us ps (ds.set (a + i) ((4294967296 + us.getD (a + i) 0 - ps.getD i 0 - c) % 4294967296)) a (i + 1) (1 - (4294967296 + us.getD (a + i) 0 - ps.getD i 0 - c) / 4294967296) := by
  obtain ⟨i1, i2, i3, i4, i5, i6⟩ := I
  have b1 := i2.getD (a + i); have b2 := hp.getD i
  rw [i3 (a + i) (Nat.le_refl _)] at b1
  refine ⟨by rw [List.length_set]; exact i1, i2.set _ ⟨by omega, by omega⟩, fun j hj => ?_, ?_, by omega, by omega⟩
  · rw [List.getD_eq_getElem?_getD, List.getElem?_set_ne (by omega), ← List.getD_eq_getElem?_getD]; exact i3 j (by omega)
  · rw [H.num_set _ _ _ (by omega), i3 (a + i) (Nat.le_refl _), H.num_take_succ, show a + (i + 1) = a + i + 1 by omega, H.pw]
    have e : H.pw (a + i) = H.pw a * H.pw i := H.pw_add a i
    rw [e] at i4 ⊢
    exact ls_ring (by omega) i4
theorem ls_end {us ps ds : List Int} {a n : Nat} {c : Int} (hL : H.Limbs us) (hN : H.num us < H.pw (a + n + 1)) (hps : ps.length = n + 1) (I : LsInv us ps ds a (n + 1) c) (hle : H.num ps * H.pw a ≤ H.num us) : H.num ds = H.num us - H.num ps * H.pw a := by
  obtain ⟨i1, i2, i3, i4, i5, i6⟩ := I
  rw [List.take_of_length_le (by omega), show a + (n + 1) = a + n + 1 by omega] at i4
  have : c = 0 ∨ c = 1 := by omega
  rcases this with rfl | rfl
  · simpa using i4
  · exfalso
    -- the digits above are as they were, and were noughts
    have hz : ∀ j, a + n + 1 ≤ j → ds.getD j 0 = 0 := by
      intro j hj
      rw [i3 j (by omega)]
      rcases Nat.lt_or_ge j (usedN us) with h | h
      · exfalso
        have h1 := H.num_ge_used hL (show 0 < usedN us by omega)
        have h2 := H.pw_mono (show a + n + 1 ≤ usedN us - 1 by omega)
        omega
      · exact usedN_beyond us j h
    have hu : usedN ds ≤ a + n + 1 := by
      rcases Nat.lt_or_ge (a + n + 1) (usedN ds) with h | h
      · have := usedN_top ds (by omega)
        exact absurd (hz _ (by omega)) this
      · exact h
    have h3 := H.num_lt_used i2
    have h4 := H.pw_mono hu
    rw [Int.one_mul] at i4
    omega
/-- The highest digit in which a row and the piece above it differ decides. -/
theorem seg_beyond {us ps : List Int} {a n : Nat} (hps : ps.length = n + 1) (j : Nat) (hj : n + 1 ≤ j) : ps.getD j 0 = ((us.drop a).take (n + 1)).getD j 0 := by
  rw [List.getD_eq_getElem?_getD, List.getElem?_eq_none (by omega), List.getD_eq_getElem?_getD, List.getElem?_eq_none (by rw [List.length_take]; omega)]
theorem seg_lt {us ps : List Int} {a n k : Nat} (hL : H.Limbs us) (hp : H.Limbs ps) (hps : ps.length = n + 1) (hk : k < n + 1) (h : ∀ j, k < j → j < n + 1 → ps.getD j 0 = us.getD (a + j) 0) (hlt : ps.getD k 0 < us.getD (a + k) 0) : H.num ps < H.num ((us.drop a).take (n + 1)) := by
  refine H.num_lt_at (t := k) hp ((hL.drop a).take _) (fun j hj => ?_) (by rw [getD_seg _ _ _ _ hk]; exact hlt)
  rcases Nat.lt_or_ge j (n + 1) with h' | h'
  · rw [getD_seg _ _ _ _ h']; exact h j hj h'
  · exact seg_beyond hps j h'
theorem seg_gt {us ps : List Int} {a n k : Nat} (hL : H.Limbs us) (hp : H.Limbs ps) (hps : ps.length = n + 1) (hk : k < n + 1) (h : ∀ j, k < j → j < n + 1 → ps.getD j 0 = us.getD (a + j) 0) (hlt : us.getD (a + k) 0 < ps.getD k 0) : H.num ((us.drop a).take (n + 1)) < H.num ps := by
  refine H.num_lt_at (t := k) ((hL.drop a).take _) hp (fun j hj => ?_) (by rw [getD_seg _ _ _ _ hk]; exact hlt)
  rcases Nat.lt_or_ge j (n + 1) with h' | h'
  · rw [getD_seg _ _ _ _ h']; exact (h j hj h').symm
  · exact (seg_beyond hps j h').symm
theorem seg_eq {us ps : List Int} {a n : Nat} (hps : ps.length = n + 1) (h : ∀ j, j < n + 1 → ps.getD j 0 = us.getD (a + j) 0) : H.num ps = H.num ((us.drop a).take (n + 1)) := by
  refine H.num_eq_of fun j => ?_
  rcases Nat.lt_or_ge j (n + 1) with h' | h'
  · rw [getD_seg _ _ _ _ h']; exact h j h'
  · exact seg_beyond hps j h'
theorem seg_le {us : List Int} {a n : Nat} {T : Int} (hL : H.Limbs us) (hlen : a + n + 1 ≤ us.length) (hN : H.num us < H.pw (a + n + 1)) (h : T ≤ H.num ((us.drop a).take (n + 1))) : T * H.pw a ≤ H.num us := by
  have e := H.num_seg hL hlen hN
  have h0 := H.num_nonneg (hL.take a)
  have h1 : T * H.pw a ≤ H.num ((us.drop a).take (n + 1)) * H.pw a := Int.mul_le_mul_of_nonneg_right h (Int.le_of_lt (H.pw_pos a))
  omega
theorem seg_above {us : List Int} {a n : Nat} {T : Int} (hL : H.Limbs us) (hlen : a + n + 1 ≤ us.length) (hN : H.num us < H.pw (a + n + 1)) (h : H.num ((us.drop a).take (n + 1)) < T) : H.num us < T * H.pw a := by
  have e := H.num_seg hL hlen hN
  have h0 := H.num_lt (hL.take a)
  rw [List.length_take, Nat.min_eq_left (by omega)] at h0
  have h1 : (H.num ((us.drop a).take (n + 1)) + 1) * H.pw a ≤ T * H.pw a := Int.mul_le_mul_of_nonneg_right (by omega) (Int.le_of_lt (H.pw_pos a))
  rw [Int.add_mul, Int.one_mul] at h1
  omega
theorem mul_digit {vs : List Int} {q : Int} {n : Nat} (hv : H.Limbs vs) (hl : vs.length = n) (hq : 0 ≤ q ∧ q < 4294967296) : H.num vs * q < H.pw (n + 1) := by
  have h0 := H.num_nonneg hv
  have h1 := H.num_lt hv
  rw [hl] at h1
  have hp := H.pw_pos n
  have h2 : H.num vs * q ≤ (H.pw n - 1) * 4294967295 := Int.mul_le_mul (by omega) (by omega) hq.1 (by omega)
  rw [H.pw]
  have e : (H.pw n - 1) * 4294967295 = H.pw n * 4294967295 - 4294967295 := by rw [Int.sub_mul, Int.one_mul]
  rw [e] at h2
  omega
end Go.Proofs.Ytajjhnilpdmnhaa
namespace Go.Proofs.Ytajjhnilpdmnhaa
open Go.RowKit Go.Shelf

theorem Own.far {w : World} {g b : Nat} {cs : List Int} (h : Own w b cs) (hne : b ≠ g) (i : Nat) (v : Value) : Own (w.setCell ⟨g, i, none⟩ v) b cs := by
  unfold Own at *
  rw [Below.heap_setCell _ _ _ _ hne]; exact h

set_option maxHeartbeats 2000000 in
theorem less_no (g m cu a : Nat) (us : List Int) (va : Option Addr) (n cv : Nat) (vs : List Int) (q : Int) (w : World) (ho : Own w g us) (hL : H.Limbs us) (hm : us.length = m) (hv : Sx g w va n vs) (hvL : H.Limbs vs) (hq : 0 ≤ q ∧ q < 4294967296) (hlen : a + n + 1 ≤ m) (hb : m ≤ 8000000000000) (hN : H.num us < H.pw (a + n + 1)) (hcase : H.num us < H.num vs * q * H.pw a) :
    Calls Try.prog 81 #[.slice (some ⟨g, 0, none⟩) m cu, .int .i64 a, .slice va n cv, .int .u64 q] w fun e w' => e = .returned (.bool false) ∧ Own w' g us ∧ Below w.heap.size w w' := by
  have hg : g < w.heap.size := by
    unfold Own at ho
    rcases Nat.lt_or_ge g w.heap.size with h' | h'
    · exact h'
    · rw [Array.getElem?_eq_none h'] at ho; cases ho
  have hvl := hv.1.1
  have TT := rdtimes_any va n cv vs q (n + 1) w hv.1 hvL (by omega) hq (by omega) (mul_digit hvL hvl hq)
  rw [show ((n + 1 : Nat) : Int) = (n : Int) + 1 by omega] at TT
  have HO : Hid (Own w g us) := ho
  have HN : Hid (H.num us < H.pw (a + n + 1)) := hN
  have HKS : Hid (H.num us < H.num vs * q * H.pw a) := hcase
  have HM : Hid (us.length = m) := hm
  have HVS : Hid (Sx g w va n vs) := hv
  have hlen2 : (a : Int) + n < m := by omega
  clear ho hN hcase hm hv
  go_enter Try.func81, Try.ntmps81
  go_wp2_with fail
  refine TT.mono ?_
  rintro e w1 ⟨ps, rfl, hop, hpL, hpl, hpn, b1⟩
  clear TT
  have HO1 : Hid (Own w1 g us) := (b1.block g hg).trans HO.out
  have HOP : Hid (Own w1 w.heap.size ps) := hop
  have HPN : Hid (H.num ps = H.num vs * q) := hpn
  have HPL : Hid (ps.length = n + 1) := hpl
  have hgp : g ≠ w.heap.size := by omega
  clear hpn hpl hop
  go_wp2_with fail
  go_loopw [10] (fun i wr => ∃ t : Nat, t ≤ n + 1 ∧ i = .int .i64 ((t : Int) - 1) ∧ Hid (∀ j, t ≤ j → j < n + 1 → ps.getD j 0 = us.getD (a + j) 0) ∧ ∃ d, wr = w1.drewN d) (fun i _ => (intOf i + 1).toNat)
  case atStart => exact ⟨n + 1, Nat.le_refl _, by rw [show (((n + 1 : Nat) : Int) - 1) = (n : Int) by omega], fun j h1 h2 => absurd h1 (by omega), 0, rfl⟩
  case round =>
    obtain ⟨t, ht, rfl, hI, d, rfl⟩ := hrel
    by_cases h0 : t = 0
    · subst h0
      have hseq := seg_eq (us := us) (a := a) HPL.out (fun j hj => hI.out j (by omega) hj)
      exfalso
      have h1 := seg_le hL (by rw [HM.out]; exact hlen) HN.out (Int.le_of_eq hseq)
      rw [HPN.out] at h1
      have h2 := HKS.out
      omega
    · obtain ⟨k, rfl⟩ : ∃ k, t = k + 1 := ⟨t - 1, by omega⟩
      have hcp := HOP.out.cell k (by rw [HPL.out]; omega)
      have hcx := HO1.out.cell (a + k) (by rw [HM.out]; omega)
      have m0 : IntKind.i64.wrap ((a : Int) + k) = a + k := by rw [IntKind.wrap_i64]; omega
      have m4 : ((a : Int) + k).toNat = a + k := by omega
      have m5 : (a : Int) + k < m := by omega
      have m6 : (k : Int) < n + 1 := by omega
      obtain ⟨p, hp⟩ : ∃ p, ps.getD k 0 = p := ⟨_, rfl⟩
      obtain ⟨x, hx⟩ : ∃ x, us.getD (a + k) 0 = x := ⟨_, rfl⟩
      rw [hp] at hcp
      rw [hx] at hcx
      have HP : Hid (ps.getD k 0 = p) := hp
      have HX : Hid (us.getD (a + k) 0 = x) := hx
      have HJ : Hid (∀ j, k < j → j < n + 1 → ps.getD j 0 = us.getD (a + j) 0) := fun j h1 h2 => hI.out j (by omega) h2
      rw [show (((k + 1 : Nat) : Int) - 1) = (k : Int) by omega]
      clear hp hx hI h0
      by_cases hlt : p < x
      · have hsl := seg_lt hL hpL HPL.out (show k < n + 1 by omega) HJ.out (by rw [HP.out, HX.out]; exact hlt)
        exfalso
        have h1 := seg_le hL (by rw [HM.out]; exact hlen) HN.out (Int.le_of_lt hsl)
        rw [HPN.out] at h1
        have h2 := HKS.out
        omega
      · by_cases hgt : x < p
        · have hsg := seg_gt hL hpL HPL.out (show k < n + 1 by omega) HJ.out (by rw [HP.out, HX.out]; exact hgt)
          clear hsg
          go_wp2_with fail
          go_quiet (fail)
          go_wp2_with fail
          go_quiet (fail)
          go_wp2_with fail
          go_ret
          exact ⟨rfl, HO1.out, below_drewN (below_drewN (below_drewN b1 _) _) _⟩
        · have HXY : Hid (p = x) := (by omega : p = x)
          go_wp2_with fail
          go_quiet (fail)
          go_wp2_with fail
          go_quiet (fail)
          go_wp2_with fail
          go_roundw
          case rel =>
            refine ⟨k, by omega, rfl, ?_, _, rfl⟩
            intro j h1 h2
            by_cases hj : j = k
            · rw [hj, HP.out, HX.out, HXY.out]
            · exact HJ.out j (by omega) h2
          case measure => simp [intOf]

set_option maxHeartbeats 2000000 in
theorem less_yes (g m cu a : Nat) (us : List Int) (va : Option Addr) (n cv : Nat) (vs : List Int) (q : Int) (w : World) (ho : Own w g us) (hL : H.Limbs us) (hm : us.length = m) (hv : Sx g w va n vs) (hvL : H.Limbs vs) (hq : 0 ≤ q ∧ q < 4294967296) (hlen : a + n + 1 ≤ m) (hb : m ≤ 8000000000000) (hN : H.num us < H.pw (a + n + 1)) (hcase : H.num vs * q * H.pw a ≤ H.num us) :
    Calls Try.prog 81 #[.slice (some ⟨g, 0, none⟩) m cu, .int .i64 a, .slice va n cv, .int .u64 q] w fun e w' => e = .returned (.bool true) ∧ ∃ ds, Own w' g ds ∧ H.Limbs ds ∧ ds.length = m ∧ H.num ds = H.num us - H.num vs * q * H.pw a ∧ Near g w w' := by
  have hg : g < w.heap.size := by
    unfold Own at ho
    rcases Nat.lt_or_ge g w.heap.size with h' | h'
    · exact h'
    · rw [Array.getElem?_eq_none h'] at ho; cases ho
  have hvl := hv.1.1
  have TT := rdtimes_any va n cv vs q (n + 1) w hv.1 hvL (by omega) hq (by omega) (mul_digit hvL hvl hq)
  rw [show ((n + 1 : Nat) : Int) = (n : Int) + 1 by omega] at TT
  have HO : Hid (Own w g us) := ho
  have HN : Hid (H.num us < H.pw (a + n + 1)) := hN
  have HKS : Hid (H.num vs * q * H.pw a ≤ H.num us) := hcase
  have HM : Hid (us.length = m) := hm
  have HVS : Hid (Sx g w va n vs) := hv
  have hlen2 : (a : Int) + n < m := by omega
  clear ho hN hcase hm hv
  go_enter Try.func81, Try.ntmps81
  go_wp2_with fail
  refine TT.mono ?_
  rintro e w1 ⟨ps, rfl, hop, hpL, hpl, hpn, b1⟩
  clear TT
  have HO1 : Hid (Own w1 g us) := (b1.block g hg).trans HO.out
  have HOP : Hid (Own w1 w.heap.size ps) := hop
  have HPN : Hid (H.num ps = H.num vs * q) := hpn
  have HPL : Hid (ps.length = n + 1) := hpl
  have hgp : g ≠ w.heap.size := by omega
  clear hpn hpl hop
  go_wp2_with fail
  go_loopw [10] (fun i wr => ∃ t : Nat, t ≤ n + 1 ∧ i = .int .i64 ((t : Int) - 1) ∧ Hid (∀ j, t ≤ j → j < n + 1 → ps.getD j 0 = us.getD (a + j) 0) ∧ ∃ d, wr = w1.drewN d) (fun i _ => (intOf i + 1).toNat)
  case atStart => exact ⟨n + 1, Nat.le_refl _, by rw [show (((n + 1 : Nat) : Int) - 1) = (n : Int) by omega], fun j h1 h2 => absurd h1 (by omega), 0, rfl⟩
  case round =>
    obtain ⟨t, ht, rfl, hI, d, rfl⟩ := hrel
    by_cases h0 : t = 0
    · subst h0
      have hseq := seg_eq (us := us) (a := a) HPL.out (fun j hj => hI.out j (by omega) hj)
      have HO2 : Hid (Own (w1.drewN d) g us) := HO1.out
      have HOP2 : Hid (Own (w1.drewN d) w.heap.size ps) := HOP.out
      have HNR : Hid (Near g w (w1.drewN d)) := (Near.of b1 (Nat.le_of_lt hg)).drewN d
      have HLE : Hid (H.num ps * H.pw a ≤ H.num us) := seg_le hL (by rw [HM.out]; exact hlen) HN.out (Int.le_of_eq hseq)
      clear hseq hI
      go_wp2_with fail
      generalize World.drewN w1 d = w2 at *
      go_loopw [11, 12] (fun cc ii wr => ∃ (i : Nat) (c : Int) (ds : List Int), ii = .int .i64 i ∧ cc = .int .u64 c ∧ i ≤ n + 1 ∧ Hid (LsInv us ps ds a i c) ∧ Hid (Own wr g ds) ∧ Hid (Own wr w.heap.size ps) ∧ Hid (Near g w wr)) (fun _ ii _ => n + 1 - (intOf ii).toNat)
      case atStart => exact ⟨0, 0, us, rfl, rfl, by omega, ls_start hL, HO2, HOP2, HNR⟩
      case round =>
        clear HO2 HOP2 HNR
        obtain ⟨i, c, ds, rfl, rfl, hi, hI, hO, hP, hR⟩ := hrel
        by_cases hin : i ≤ n
        · have hstep := ls_step hpL hI.out (by rw [HM.out]; omega)
          have hcx := hO.out.cell (a + i) (by rw [hI.out.1, HM.out]; omega)
          have hfx := hO.out.frozen (a + i)
          have hcp := hP.out.cell i (by rw [HPL.out]; omega)
          rw [hI.out.2.2.1 (a + i) (Nat.le_refl _)] at hcx
          have bx := hL.getD (a + i)
          have bp := hpL.getD i
          have hc0 := hI.out.2.2.2.2.1
          have hc1 := hI.out.2.2.2.2.2
          have n0 : IntKind.i64.wrap ((a : Int) + i) = a + i := by rw [IntKind.wrap_i64]; omega
          have n4 : ((a : Int) + i).toNat = a + i := by omega
          have n5 : (a : Int) + i < m := by omega
          have n6 : (i : Int) < n + 1 := by omega
          obtain ⟨y, hy⟩ : ∃ y, us.getD (a + i) 0 = y := ⟨_, rfl⟩
          obtain ⟨r, hr⟩ : ∃ r, ps.getD i 0 = r := ⟨_, rfl⟩
          rw [hy] at hcx bx hstep
          rw [hr] at hcp bp hstep
          obtain ⟨y1, y2⟩ := bx
          obtain ⟨r1, r2⟩ := bp
          obtain ⟨s, hs⟩ : ∃ s, 4294967296 + y - r - c = s := ⟨_, rfl⟩
          rw [hs] at hstep
          have s1 : 0 ≤ s := by omega
          have s2 : s < 8589934592 := by omega
          have ew1 : IntKind.u64.wrap (4294967296 + y) = 4294967296 + y := by rw [IntKind.wrap_u64]; omega
          have ew2 : IntKind.u64.wrap (4294967296 + y - r) = 4294967296 + y - r := by rw [IntKind.wrap_u64]; omega
          have ew3 : IntKind.u64.wrap (4294967296 + y - r - c) = s := by rw [hs, IntKind.wrap_u64]; omega
          have HS : Hid (LsInv us ps (ds.set (a + i) (s % 4294967296)) a (i + 1) (1 - s / 4294967296)) := hstep
          have HHS : Hid (4294967296 + y - r - c = s) := hs
          clear hstep hy hr hs
          go_wp2_with fail
          go_quiet (fail)
          clear ew1 ew2 ew3
          go_wp2_with fail
          go_roundw
          case rel => exact ⟨i + 1, _, _, by go_num, rfl, by omega, HS, Own.set (w := wr.drewN nq) hO.out (a + i) _, Own.far (w := wr.drewN nq) hP.out hgp.symm (a + i) _, Near.set (hR.out.drewN nq) (a + i) _⟩
          case measure => simp [intOf]; omega
        · obtain rfl : i = n + 1 := by omega
          have HE : Hid (H.num ds = H.num us - H.num vs * q * H.pw a) := by
            have := ls_end hL HN.out HPL.out hI.out HLE.out
            rw [HPN.out] at this; exact this
          obtain ⟨i1, i2, -⟩ := hI.out
          have HI1 : Hid (ds.length = us.length) := i1
          have q1 : ¬ (((n + 1 : Nat) : Int)) ≤ n := by omega
          clear i1
          go_wp2_with fail
          go_ret
          exact ⟨rfl, ds, hO.out, i2, by rw [HI1.out, HM.out], HE.out, hR.out⟩
    · obtain ⟨k, rfl⟩ : ∃ k, t = k + 1 := ⟨t - 1, by omega⟩
      have hcp := HOP.out.cell k (by rw [HPL.out]; omega)
      have hcx := HO1.out.cell (a + k) (by rw [HM.out]; omega)
      have m0 : IntKind.i64.wrap ((a : Int) + k) = a + k := by rw [IntKind.wrap_i64]; omega
      have m4 : ((a : Int) + k).toNat = a + k := by omega
      have m5 : (a : Int) + k < m := by omega
      have m6 : (k : Int) < n + 1 := by omega
      obtain ⟨p, hp⟩ : ∃ p, ps.getD k 0 = p := ⟨_, rfl⟩
      obtain ⟨x, hx⟩ : ∃ x, us.getD (a + k) 0 = x := ⟨_, rfl⟩
      rw [hp] at hcp
      rw [hx] at hcx
      have HP : Hid (ps.getD k 0 = p) := hp
      have HX : Hid (us.getD (a + k) 0 = x) := hx
      have HJ : Hid (∀ j, k < j → j < n + 1 → ps.getD j 0 = us.getD (a + j) 0) := fun j h1 h2 => hI.out j (by omega) h2
      rw [show (((k + 1 : Nat) : Int) - 1) = (k : Int) by omega]
      clear hp hx hI h0
      by_cases hlt : p < x
      · have hsl := seg_lt hL hpL HPL.out (show k < n + 1 by omega) HJ.out (by rw [HP.out, HX.out]; exact hlt)
        go_wp2_with fail
        go_quiet (fail)
        have HO2 : Hid (Own ((w1.drewN d).drewN nq) g us) := HO1.out
        have HOP2 : Hid (Own ((w1.drewN d).drewN nq) w.heap.size ps) := HOP.out
        have HNR : Hid (Near g w ((w1.drewN d).drewN nq)) := ((Near.of b1 (Nat.le_of_lt hg)).drewN d).drewN nq
        have HLE : Hid (H.num ps * H.pw a ≤ H.num us) := seg_le hL (by rw [HM.out]; exact hlen) HN.out (Int.le_of_lt hsl)
        clear hsl HJ HP HX hcp hcx m0 m4 m5 m6
        go_wp2_with fail
        generalize World.drewN (World.drewN w1 d) nq = w2 at *
        go_loopw [11, 12] (fun cc ii wr => ∃ (i : Nat) (c : Int) (ds : List Int), ii = .int .i64 i ∧ cc = .int .u64 c ∧ i ≤ n + 1 ∧ Hid (LsInv us ps ds a i c) ∧ Hid (Own wr g ds) ∧ Hid (Own wr w.heap.size ps) ∧ Hid (Near g w wr)) (fun _ ii _ => n + 1 - (intOf ii).toNat)
        case atStart => exact ⟨0, 0, us, rfl, rfl, by omega, ls_start hL, HO2, HOP2, HNR⟩
        case round =>
          clear HO2 HOP2 HNR
          obtain ⟨i, c, ds, rfl, rfl, hi, hI, hO, hP, hR⟩ := hrel
          by_cases hin : i ≤ n
          · have hstep := ls_step hpL hI.out (by rw [HM.out]; omega)
            have hcx := hO.out.cell (a + i) (by rw [hI.out.1, HM.out]; omega)
            have hfx := hO.out.frozen (a + i)
            have hcp := hP.out.cell i (by rw [HPL.out]; omega)
            rw [hI.out.2.2.1 (a + i) (Nat.le_refl _)] at hcx
            have bx := hL.getD (a + i)
            have bp := hpL.getD i
            have hc0 := hI.out.2.2.2.2.1
            have hc1 := hI.out.2.2.2.2.2
            have n0 : IntKind.i64.wrap ((a : Int) + i) = a + i := by rw [IntKind.wrap_i64]; omega
            have n4 : ((a : Int) + i).toNat = a + i := by omega
            have n5 : (a : Int) + i < m := by omega
            have n6 : (i : Int) < n + 1 := by omega
            obtain ⟨y, hy⟩ : ∃ y, us.getD (a + i) 0 = y := ⟨_, rfl⟩
            obtain ⟨r, hr⟩ : ∃ r, ps.getD i 0 = r := ⟨_, rfl⟩
            rw [hy] at hcx bx hstep
            rw [hr] at hcp bp hstep
            obtain ⟨y1, y2⟩ := bx
            obtain ⟨r1, r2⟩ := bp
            obtain ⟨s, hs⟩ : ∃ s, 4294967296 + y - r - c = s := ⟨_, rfl⟩
            rw [hs] at hstep
            have s1 : 0 ≤ s := by omega
            have s2 : s < 8589934592 := by omega
            have ew1 : IntKind.u64.wrap (4294967296 + y) = 4294967296 + y := by rw [IntKind.wrap_u64]; omega
            have ew2 : IntKind.u64.wrap (4294967296 + y - r) = 4294967296 + y - r := by rw [IntKind.wrap_u64]; omega
            have ew3 : IntKind.u64.wrap (4294967296 + y - r - c) = s := by rw [hs, IntKind.wrap_u64]; omega
            have HS : Hid (LsInv us ps (ds.set (a + i) (s % 4294967296)) a (i + 1) (1 - s / 4294967296)) := hstep
            have HHS : Hid (4294967296 + y - r - c = s) := hs
            clear hstep hy hr hs
            go_wp2_with fail
            go_quiet (fail)
            clear ew1 ew2 ew3
            go_wp2_with fail
            go_roundw
            case rel => exact ⟨i + 1, _, _, by go_num, rfl, by omega, HS, Own.set (w := wr.drewN nq) hO.out (a + i) _, Own.far (w := wr.drewN nq) hP.out hgp.symm (a + i) _, Near.set (hR.out.drewN nq) (a + i) _⟩
            case measure => simp [intOf]; omega
          · obtain rfl : i = n + 1 := by omega
            have HE : Hid (H.num ds = H.num us - H.num vs * q * H.pw a) := by
              have := ls_end hL HN.out HPL.out hI.out HLE.out
              rw [HPN.out] at this; exact this
            obtain ⟨i1, i2, -⟩ := hI.out
            have HI1 : Hid (ds.length = us.length) := i1
            have q1 : ¬ (((n + 1 : Nat) : Int)) ≤ n := by omega
            clear i1
            go_wp2_with fail
            go_ret
            exact ⟨rfl, ds, hO.out, i2, by rw [HI1.out, HM.out], HE.out, hR.out⟩
      · by_cases hgt : x < p
        · have hsg := seg_gt hL hpL HPL.out (show k < n + 1 by omega) HJ.out (by rw [HP.out, HX.out]; exact hgt)
          exfalso
          have h1 := seg_above hL (by rw [HM.out]; exact hlen) HN.out hsg
          rw [HPN.out] at h1
          have h2 := HKS.out
          omega
        · have HXY : Hid (p = x) := (by omega : p = x)
          go_wp2_with fail
          go_quiet (fail)
          go_wp2_with fail
          go_quiet (fail)
          go_wp2_with fail
          go_roundw
          case rel =>
            refine ⟨k, by omega, rfl, ?_, _, rfl⟩
            intro j h1 h2
            by_cases hj : j = k
            · rw [hj, HP.out, HX.out, HXY.out]
            · exact HJ.out j (by omega) h2
          case measure => simp [intOf]
end Go.Proofs.Ytajjhnilpdmnhaa
namespace Go.Proofs.Ytajjhnilpdmnhaa
open Go.RowKit Go.Shelf

/-- The factor by which both are made greater. -/
theorem scale_facts {y s : Int} (h0 : 0 < y) (h1 : y < 4294967296) (hs : s = 4294967296 / (y + 1)) : 1 ≤ s ∧ s < 4294967296 ∧ s * (y + 1) ≤ 4294967296 := by
  have hm := Int.mul_ediv_add_emod 4294967296 (y + 1)
  have hr := Int.emod_nonneg 4294967296 (show y + 1 ≠ 0 by omega)
  have hl := Int.emod_lt_of_pos 4294967296 (show 0 < y + 1 by omega)
  rw [← hs] at hm
  have e : (y + 1) * s = s * (y + 1) := Int.mul_comm _ _
  have h2 : 1 ≤ s := by
    rcases Int.lt_or_le s 1 with h | h
    · have : s * (y + 1) ≤ 0 * (y + 1) := Int.mul_le_mul_of_nonneg_right (by omega) (by omega)
      omega
    · exact h
  have h3 : s * 2 ≤ s * (y + 1) := Int.mul_le_mul_of_nonneg_left (by omega) (by omega)
  exact ⟨h2, by omega, by omega⟩
theorem Htop (ys : List Int) (n : Nat) (h : ys.length = n + 1) : H.num ys = H.num (ys.take n) + ys.getD n 0 * H.pw n := by
  have := H.num_take_succ ys n
  rwa [List.take_of_length_le (by omega)] at this
theorem Htake_lt {cs : List Int} (h : H.Limbs cs) (n : Nat) : H.num (cs.take n) < H.pw n := by
  have h1 := H.num_lt (h.take n)
  have h2 := H.pw_mono (show (cs.take n).length ≤ n from List.length_take_le _ _)
  omega
theorem scaled_fits {ys : List Int} {n : Nat} {s : Int} (hy : H.Limbs ys) (hl : ys.length = n + 1) (hs0 : 1 ≤ s) (hs : s * (ys.getD n 0 + 1) ≤ 4294967296) : H.num ys * s < H.pw (n + 1) := by
  have e := Htop ys n hl
  have h1 := Htake_lt hy n
  have hp := H.pw_pos n
  have h2 : H.num ys < (ys.getD n 0 + 1) * H.pw n := by rw [Int.add_mul, Int.one_mul]; omega
  have h3 : H.num ys * s < (ys.getD n 0 + 1) * H.pw n * s := Int.mul_lt_mul_of_pos_right h2 (by omega)
  have h4 : (ys.getD n 0 + 1) * H.pw n * s = s * (ys.getD n 0 + 1) * H.pw n := by grind
  have h5 : s * (ys.getD n 0 + 1) * H.pw n ≤ 4294967296 * H.pw n := Int.mul_le_mul_of_nonneg_right hs (Int.le_of_lt hp)
  rw [H.pw]; omega
/-- What holds ahead of the place t - 1. -/
def LgInv (X V : Int) (us os : List Int) (l k t : Nat) : Prop :=
  us.length = l ∧ H.Limbs us ∧ os.length = k ∧ H.Limbs os ∧ H.num us + H.num (os.drop t) * H.pw t * V = X ∧ H.num us < V * H.pw t
theorem lg_start {xs ys us vs : List Int} {la n k : Nat} {s : Int} (hx : H.Limbs xs) (hy : H.Limbs ys) (hxl : xs.length = la) (hyu : usedN ys = n) (hn : 0 < n) (hk : k = la - n + 1) (hnl : n ≤ la) (hs0 : 1 ≤ s)
    (hu : H.num us = H.num xs * s) (hv : H.num vs = H.num ys * s) (hul : us.length = la + 1) (huL : H.Limbs us) : LgInv (H.num xs * s) (H.num vs) us (List.replicate k 0) (la + 1) k k := by
  have e2 : (List.replicate k (0 : Int)).drop k = [] := List.drop_eq_nil_of_le (by simp)
  refine ⟨hul, huL, by simp, H.Limbs.zeros _, by rw [e2]; simp [H.num, hu], ?_⟩
  have h1 := H.num_lt hx
  rw [hxl] at h1
  have h2 := H.num_ge_used hy (by omega)
  rw [hyu] at h2
  have e3 : H.pw la = H.pw (n - 1) * H.pw k := by rw [← H.pw_add]; congr 1; omega
  have hp := H.pw_pos k
  have h3 : H.pw (n - 1) * H.pw k ≤ H.num ys * H.pw k := Int.mul_le_mul_of_nonneg_right h2 (Int.le_of_lt hp)
  have h4 : H.num xs * s < H.num ys * H.pw k * s := Int.mul_lt_mul_of_pos_right (by omega) (by omega)
  rw [hu, hv]
  have e4 : H.num ys * s * H.pw k = H.num ys * H.pw k * s := Int.mul_right_comm _ _ _
  omega
/-- The place's digit, and that it is not above the guess. -/
theorem lg_digit {N V P : Int} (hN : 0 ≤ N) (hV : 0 < V) (hP : 0 < P) (hlt : N < V * (4294967296 * P)) :
    ∃ Q : Int, 0 ≤ Q ∧ Q < 4294967296 ∧ V * Q * P ≤ N ∧ N < V * (Q + 1) * P ∧ (∀ q : Int, V * q * P ≤ N → q ≤ Q) := by
  have hVP : 0 < V * P := Int.mul_pos hV hP
  have hm := Int.mul_ediv_add_emod N (V * P)
  have hr := Int.emod_nonneg N (show V * P ≠ 0 by omega)
  have hl := Int.emod_lt_of_pos N hVP
  have e1 : ∀ q : Int, V * q * P = V * P * q := fun q => by grind
  refine ⟨N / (V * P), Int.ediv_nonneg hN (Int.le_of_lt hVP), ?_, ?_, ?_, ?_⟩
  · apply Int.ediv_lt_of_lt_mul hVP
    have : 4294967296 * (V * P) = V * (4294967296 * P) := by grind
    omega
  · rw [e1]; omega
  · rw [e1, Int.mul_add, Int.mul_one]; omega
  · intro q hq
    rw [e1] at hq
    apply Int.le_ediv_of_mul_le hVP
    rw [Int.mul_comm]; exact hq
theorem lg_guess {us vs : List Int} {k n : Nat} {Q : Int} (hL : H.Limbs us) (hv : H.Limbs vs) (hvl : vs.length = n + 1) (hlen : k + n + 2 ≤ us.length) (hN : H.num us < H.pw (k + (n + 1) + 1)) (hQ0 : 0 ≤ Q) (hQ : H.num vs * Q * H.pw k ≤ H.num us) (htop : 0 < vs.getD n 0) :
    Q ≤ (us.getD (k + (n + 1)) 0 * 4294967296 + us.getD (k + (n + 1) - 1) 0) / vs.getD n 0 := by
  have e := H.num_seg (us := us) (a := k + n) (n := 1) hL (by omega) (by rw [show k + n + 1 + 1 = k + (n + 1) + 1 by omega]; exact hN)
  have h0 := Htake_lt hL (k + n)
  have e2 : H.num ((us.drop (k + n)).take (1 + 1)) = us.getD (k + (n + 1)) 0 * 4294967296 + us.getD (k + (n + 1) - 1) 0 := by
    have e3 := H.num_take_succ (us.drop (k + n)) 1
    have e4 := H.num_take_succ (us.drop (k + n)) 0
    rw [e3, e4, getD_drop, getD_drop]
    simp only [List.take_zero, H.num, H.pw]
    rw [show k + n + 0 = k + (n + 1) - 1 by omega, show k + n + 1 = k + (n + 1) by omega]
    omega
  rw [e2] at e
  obtain ⟨T, hT⟩ : ∃ T, us.getD (k + (n + 1)) 0 * 4294967296 + us.getD (k + (n + 1) - 1) 0 = T := ⟨_, rfl⟩
  rw [hT] at e ⊢
  have e5 := Htop vs n hvl
  have h5 := H.num_nonneg (hv.take n)
  have hpk := H.pw_pos k
  have hpn := H.pw_pos n
  have h6 : vs.getD n 0 * H.pw n * (Q * H.pw k) ≤ H.num vs * (Q * H.pw k) := Int.mul_le_mul_of_nonneg_right (by omega) (Int.mul_nonneg hQ0 (Int.le_of_lt hpk))
  have e6 : vs.getD n 0 * H.pw n * (Q * H.pw k) = Q * vs.getD n 0 * H.pw (k + n) := by rw [H.pw_add]; grind
  have e7 : H.num vs * (Q * H.pw k) = H.num vs * Q * H.pw k := by grind
  have h7 : Q * vs.getD n 0 * H.pw (k + n) < (T + 1) * H.pw (k + n) := by rw [Int.add_mul, Int.one_mul]; omega
  have h8 := Int.lt_of_mul_lt_mul_right h7 (Int.le_of_lt (H.pw_pos (k + n)))
  apply Int.le_ediv_of_mul_le htop
  omega
theorem lg_step {X V : Int} {us ds os : List Int} {l m k : Nat} {Q : Int} (I : LgInv X V us os l m (k + 1)) (hk : k < m) (hdl : ds.length = l) (hdL : H.Limbs ds) (hd : H.num ds = H.num us - V * Q * H.pw k) (hQ : 0 ≤ Q ∧ Q < 4294967296) (hlt : H.num us < V * (Q + 1) * H.pw k) :
    LgInv X V ds (os.set k Q) l m k := by
  obtain ⟨i1, i2, i3, i4, i5, i6⟩ := I
  refine ⟨hdl, hdL, by rw [List.length_set]; exact i3, i4.set k hQ, ?_, ?_⟩
  · rw [Hnum_set_drop _ _ _ (by omega), hd, ← i5, H.pw]
    grind
  · have : V * (Q + 1) * H.pw k = V * Q * H.pw k + V * H.pw k := by grind
    omega
theorem lg_end {x y s q r : Int} (hs : 1 ≤ s) (h1 : r + q * 1 * (y * s) = x * s) (h2 : r < y * s * 1) (h0 : 0 ≤ r) : x = q * y + r / s ∧ r / s < y ∧ 0 ≤ r / s ∧ r % s = 0 := by
  have e : r = (x - q * y) * s := by grind
  have e2 : r / s = x - q * y := by rw [e, Int.mul_ediv_cancel _ (by omega)]
  rw [e2]
  refine ⟨by omega, ?_, ?_, by rw [e]; exact Int.mul_emod_left _ _⟩
  · rw [e, Int.mul_one] at h2; exact Int.lt_of_mul_lt_mul_right h2 (by omega)
  · rcases Int.lt_or_le (x - q * y) 0 with h | h
    · have : (x - q * y) * s < 0 := Int.mul_neg_of_neg_of_pos h (by omega)
      omega
    · exact h
end Go.Proofs.Ytajjhnilpdmnhaa
namespace Go.Proofs.Ytajjhnilpdmnhaa
open Go.RowKit Go.Shelf
set_option linter.unusedVariables false

theorem Own.aft {w w' : World} {b : Nat} {cs : List Int} (h : Own w b cs) (hb : Below w.heap.size w w') : Own w' b cs := by
  have hlt : b < w.heap.size := by
    unfold Own at h
    rcases Nat.lt_or_ge b w.heap.size with h' | h'
    · exact h'
    · rw [Array.getElem?_eq_none h'] at h; cases h
  unfold Own at *
  rw [hb.block b hlt]; exact h
theorem Own.blt {w : World} {b : Nat} {cs : List Int} (h : Own w b cs) : b < w.heap.size := by
  unfold Own at h
  rcases Nat.lt_or_ge b w.heap.size with h' | h'
  · exact h'
  · rw [Array.getElem?_eq_none h'] at h; cases h
theorem Own.sx {w : World} {b g n : Nat} {cs : List Int} (h : Own w b cs) (hL : H.Limbs cs) (hl : cs.length = n) (hne : b ≠ g) : Sx g w (some ⟨b, 0, none⟩) n cs :=
  ⟨by rw [← hl]; exact h.sl hL.up, fun _ p hp => by cases hp; exact hne⟩

set_option maxHeartbeats 4000000 in
theorem rlongd_any (a b : Option Addr) (la ca n cb : Nat) (xs ys : List Int) (w : World) (ha : Sl w a la xs) (hb : Sl w b (n + 1) ys) (hx : H.Limbs xs) (hy : H.Limbs ys) (uy : usedN ys = n + 1) (hnl : n + 1 ≤ la) (h1 : la ≤ 4000000000000) :
    Calls Try.prog 61 #[.slice a la ca, .slice b (n + 1) cb] w fun e w' =>
      ∃ a1 m1 c1 qs a2 m2 c2 rs, e = .returned (.tuple #[.slice a1 m1 c1, .slice a2 m2 c2]) ∧ Sl w' a1 m1 qs ∧ H.Limbs qs ∧ m1 ≤ la ∧ Sl w' a2 m2 rs ∧ H.Limbs rs ∧ m2 ≤ la + 1 ∧ H.num xs = H.num qs * H.num ys + H.num rs ∧ 0 ≤ H.num rs ∧ H.num rs < H.num ys ∧ Below w.heap.size w w' := by
  have hza := ha.1; have hzb := hb.1
  have hyt := hy.getD n
  have hyt0 : ys.getD n 0 ≠ 0 := by have := usedN_top ys (by omega); rwa [uy, Nat.add_sub_cancel] at this
  obtain ⟨bb, ob, rfl, hcb⟩ := hb.2.2 (by omega)
  have hcy := hcb n (by omega)
  obtain ⟨y, hyy⟩ : ∃ y, ys.getD n 0 = y := ⟨_, rfl⟩
  rw [hyy] at hcy hyt hyt0
  obtain ⟨yt1, yt2⟩ := hyt
  have y0 : 0 < y := by omega
  obtain ⟨s, hs⟩ : ∃ s, 4294967296 / (y + 1) = s := ⟨_, rfl⟩
  obtain ⟨s1, s2, s3⟩ := scale_facts y0 yt2 hs.symm
  have gy : (y + 1 == 0) = false := by simp; omega
  have TX := rdtimes_any a la ca xs s (la + 1) w ha hx (by omega) ⟨by omega, s2⟩ (by omega) (mul_digit hx hza ⟨by omega, s2⟩)
  rw [show ((la + 1 : Nat) : Int) = (la : Int) + 1 by omega] at TX
  have HTY : Hid (∀ W, Below w.heap.size w W → Calls Try.prog 80 #[.slice (some ⟨bb, ob, none⟩) (n + 1) cb, .int .u64 s, .int .i64 ((n : Int) + 1)] W fun e w' => ∃ ds, e = .returned (.slice (some ⟨W.heap.size, 0, none⟩) (n + 1) (n + 1)) ∧ Own w' W.heap.size ds ∧ H.Limbs ds ∧ ds.length = n + 1 ∧ H.num ds = H.num ys * s ∧ Below W.heap.size W w') := by
    intro W B
    have T := rdtimes_any (some ⟨bb, ob, none⟩) (n + 1) cb ys s (n + 1) W (hb.below B (Nat.le_refl _)) hy (by omega) ⟨by omega, s2⟩ (Nat.le_refl _) (scaled_fits hy hzb s1 (by rw [hyy]; exact s3))
    rw [show ((n + 1 : Nat) : Int) = (n : Int) + 1 by omega] at T
    exact T
  have hmk := make_row (la - (n + 1) + 1) (by omega)
  have ek : ((la - (n + 1) + 1 : Nat) : Int) = (la : Int) - (n + 1) + 1 := by omega
  rw [ek] at hmk
  have HYN : Hid (H.pw n ≤ H.num ys) := by
    have := H.num_ge_used hy (by omega)
    rwa [uy, Nat.add_sub_cancel] at this
  have HST : Hid (∀ us vs, H.num us = H.num xs * s → H.num vs = H.num ys * s → us.length = la + 1 → H.Limbs us → LgInv (H.num xs * s) (H.num vs) us (List.replicate (la - (n + 1) + 1) 0) (la + 1) (la - (n + 1) + 1) (la - (n + 1) + 1)) :=
    fun us vs e1 e2 e3 e4 => lg_start hx hy hza uy (by omega) rfl hnl s1 e1 e2 e3 e4
  obtain ⟨K, hK⟩ : ∃ K, la - (n + 1) + 1 = K := ⟨_, rfl⟩
  have eK : (la : Int) - (n + 1) + 1 = K := by omega
  have eK2 : (la : Int) - (n + 1) = (K : Int) - 1 := by omega
  have hKla : K ≤ la := by omega
  have hKn : K + n = la := by omega
  rw [hK] at hmk HST
  rw [eK] at hmk
  have EYY : Hid (ys.getD n 0 = y) := hyy
  have nn : ((n : Int) + 1 - 1).toNat = n := by omega
  clear hK ek ha hb hcb hyy
  go_enter Try.func61, Try.ntmps61
  go_wp2_with fail
  refine TX.mono ?_
  rintro e w1 ⟨us0, rfl, hou, huL, hul, hun, b1⟩
  clear TX
  go_wp2_with fail
  refine (HTY.out w1 b1).mono ?_
  rintro e w2 ⟨vs, rfl, hov, hvL, hvl, hvn, b2⟩
  have LT1 := hou.blt
  have LT2 := hov.blt
  replace hou := hou.aft b2
  go_wp2_with fail
  clear hmk
  refine ent1 w2 _ _ (Q := fun W => Code.wp Try.prog _ _ _ W) ?_
  intro w3 b3 hs3 V3
  have O3 : Own w3 w2.heap.size (List.replicate K 0) := V3
  replace hou := hou.aft b3
  replace hov := hov.aft b3
  have HI0 : Hid (LgInv (H.num xs * s) (H.num vs) us0 (List.replicate K 0) (la + 1) K K) := HST.out us0 vs hun hvn hul huL
  have hV0 : H.pw n ≤ H.num vs := by
    rw [hvn]
    have h5 := HYN.out
    have h6 := H.pw_pos n
    have : H.num ys * 1 ≤ H.num ys * s := Int.mul_le_mul_of_nonneg_left s1 (by omega)
    omega
  have hvt : 0 < vs.getD n 0 := by
    have e1 := Htop vs n hvl
    have e2 := Htake_lt hvL n
    have e3 := hvL.getD n
    rcases Int.lt_or_le 0 (vs.getD n 0) with h | h
    · exact h
    · have : vs.getD n 0 = 0 := by omega
      rw [this] at e1; omega
  have HV0 : Hid (0 < H.num vs) := by show _ < _; have := H.pw_pos n; omega
  have HVP : Hid (H.num vs < H.pw (n + 1)) := by have := H.num_lt hvL; rwa [hvl] at this
  have HVN : Hid (H.num vs = H.num ys * s) := hvn
  have HVL : Hid (vs.length = n + 1) := hvl
  have hvb := hvL.getD n
  have BW : Hid (Below w.heap.size w w3) := step (step b1 b2) b3
  have HOU : Hid (Own w3 w.heap.size us0) := hou
  have HOV : Hid (Own w3 w1.heap.size vs) := hov
  have HOO : Hid (Own w3 w2.heap.size (List.replicate K 0)) := O3
  have ne1 : w1.heap.size ≠ w.heap.size := by omega
  have ne2 : w2.heap.size ≠ w.heap.size := by omega
  clear b1 b2 b3 hs3 V3 hou hov O3 hun hul huL hvn hvl hV0 HST HTY HYN
  go_loopw [10] (fun i wr => ∃ (t : Nat) (us os : List Int), i = .int .i64 ((t : Int) - 1) ∧ t ≤ K ∧ Hid (LgInv (H.num xs * s) (H.num vs) us os (la + 1) K t) ∧ Hid (Own wr w.heap.size us) ∧ Hid (Own wr w1.heap.size vs) ∧ Hid (Own wr w2.heap.size os) ∧ Hid (Below w.heap.size w wr)) (fun i _ => (intOf i + 1).toNat)
  case atStart => exact ⟨K, us0, _, rfl, Nat.le_refl _, HI0, HOU, HOV, HOO, BW⟩
  case round =>
    clear HI0 HOU HOV HOO BW
    obtain ⟨t, us, os, rfl, ht, hI, hU, hVV, hOO, hBW⟩ := hrel
    by_cases h0 : t = 0
    · subst h0
      obtain ⟨i1, i2, i3, i4, i5, i6⟩ := hI.out
      have hN0 := H.num_nonneg i2
      rw [HVN.out, List.drop_zero] at i5
      rw [HVN.out] at i6
      simp only [H.pw] at i5 i6
      obtain ⟨r1, r2, r3, r4⟩ := lg_end s1 i5 i6 hN0
      have hsu := hU.out.sl i2.up
      rw [i1] at hsu
      have hso := hOO.out.sl i4.up
      rw [i3] at hso
      have hu1 := usedN_le us
      have hu2 := usedN_le os
      have hu3 : usedN us ≤ la + 1 := by omega
      have hu4 : usedN os ≤ K := by omega
      have HR : Hid (H.num xs = H.num os * H.num ys + H.num us / s ∧ H.num us / s < H.num ys ∧ 0 ≤ H.num us / s) := ⟨r1, r2, r3⟩
      clear i1 i3 i5 i6 hN0 r1 r2 r3 r4 hI
      go_wp2_with fail
      refine (cutr_any (some ⟨w.heap.size, 0, none⟩) (la + 1) (la + 1) us _ hsu (by omega) (Nat.le_refl _)).mono ?_
      rintro e w5 ⟨rfl, hw⟩
      rw [hw]
      clear hw
      go_wp2_with fail
      refine (rshort_any (some ⟨w.heap.size, 0, none⟩) (usedN us) (la + 1) (us.take (usedN us)) s _ (hsu.take hu3) (i2.take _) (by omega) (by omega) s2).mono ?_
      rintro e w6 ⟨a6, m6, c6, d6, r6, rfl, k6, l6, t6, L6, u6, n6, p6, q6, b6⟩
      replace hso := hso.below b6 (Nat.le_refl _)
      have N6 : Hid (H.num d6 = H.num us / s) := by
        show _ = _
        rw [H.num_take_used us (Nat.le_refl _)] at n6
        rw [n6, Int.add_comm, Int.add_mul_ediv_right _ _ (by omega), Int.ediv_eq_zero_of_lt p6 q6, Int.zero_add]
      clear n6
      go_wp2_with fail
      refine (cutr_any (some ⟨w2.heap.size, 0, none⟩) K K os _ hso (by omega) (Nat.le_refl _)).mono ?_
      rintro e w7 ⟨rfl, hw⟩
      rw [hw]
      clear hw
      go_wp2_with fail
      go_ret2
      exact ⟨_, usedN os, K, os.take (usedN os), a6, m6, c6, d6, rfl, hso.take hu4, i4.take _, by omega, t6, L6, by omega, by rw [H.num_take_used os (Nat.le_refl _), N6.out]; exact HR.out.1, by rw [N6.out]; exact HR.out.2.2, by rw [N6.out]; exact HR.out.2.1, step hBW.out b6⟩
    · obtain ⟨k, rfl⟩ : ∃ k, t = k + 1 := ⟨t - 1, by omega⟩
      rw [show (((k + 1 : Nat) : Int) - 1) = (k : Int) by omega]
      have hI' := hI.out
      obtain ⟨i1, i2, i3, i4, i5, i6⟩ := hI'
      have hN0 := H.num_nonneg i2
      have hNP : H.num us < H.pw (k + (n + 1) + 1) := by
        have h5 := HVP.out
        have h6 := H.pw_pos (k + 1)
        have h7 : H.num vs * H.pw (k + 1) ≤ H.pw (n + 1) * H.pw (k + 1) := Int.mul_le_mul_of_nonneg_right (by omega) (by omega)
        rw [← H.pw_add, show n + 1 + (k + 1) = k + (n + 1) + 1 by omega] at h7
        omega
      obtain ⟨Q, Q0, Q1, Q2, Q3, Q4⟩ := lg_digit hN0 HV0.out (H.pw_pos k) (by rw [H.pw] at i6; exact i6)
      have hG := lg_guess i2 hvL HVL.out (show k + n + 2 ≤ us.length by omega) hNP Q0 Q2 hvt
      rw [show k + (n + 1) - 1 = k + n by omega] at hG
      have hc1 := hU.out.cell (k + (n + 1)) (by rw [i1]; omega)
      have hc0 := hU.out.cell (k + n) (by rw [i1]; omega)
      have bx1 := i2.getD (k + (n + 1))
      have bx0 := i2.getD (k + n)
      have hcv := hVV.out.cell n (by rw [HVL.out]; omega)
      obtain ⟨x1, hx1⟩ : ∃ x, us.getD (k + (n + 1)) 0 = x := ⟨_, rfl⟩
      obtain ⟨x0, hx0⟩ : ∃ x, us.getD (k + n) 0 = x := ⟨_, rfl⟩
      obtain ⟨vt, hvt'⟩ : ∃ v, vs.getD n 0 = v := ⟨_, rfl⟩
      rw [hx1] at hc1 bx1 hG
      rw [hx0] at hc0 bx0 hG
      rw [hvt'] at hcv hG
      have vt0 : 0 < vt := by rw [← hvt']; exact hvt
      have vt1 : vt < 4294967296 := by rw [← hvt']; exact hvb.2
      obtain ⟨T, hT⟩ : ∃ T, x1 * 4294967296 + x0 = T := ⟨_, rfl⟩
      rw [hT] at hG
      obtain ⟨f1, f2⟩ := bx1
      obtain ⟨f3, f4⟩ := bx0
      have T0 : 0 ≤ T := by omega
      have T1 : T < 18446744073709551616 := by omega
      have m0 : IntKind.i64.wrap ((k : Int) + (n + 1)) = k + (n + 1) := by rw [IntKind.wrap_i64]; omega
      have m1 : IntKind.i64.wrap ((k : Int) + (n + 1) - 1) = k + n := by rw [IntKind.wrap_i64]; omega
      have m1' : IntKind.i64.wrap ((k : Int) + n) = k + n := by rw [IntKind.wrap_i64]; omega
      have m2 : ((k : Int) + (n + 1)).toNat = k + (n + 1) := by omega
      have m3 : ((k : Int) + n).toNat = k + n := by omega
      have m4 : (k : Int) + (n + 1) < la + 1 := by omega
      have m5 : (k : Int) + n < la + 1 := by omega
      have m6 : 0 ≤ (k : Int) + n := by omega
      have w1' : IntKind.u64.wrap (x1 * 4294967296) = x1 * 4294967296 := by rw [IntKind.wrap_u64]; omega
      have w2' : IntKind.u64.wrap (x1 * 4294967296 + x0) = T := by rw [hT, IntKind.wrap_u64]; omega
      have gv : (vt == 0) = false := by simp; omega
      have HIV : Hid (LgInv (H.num xs * s) (H.num vs) us os (la + 1) K (k + 1)) := hI
      have HNP : Hid (H.num us < H.pw (k + (n + 1) + 1)) := hNP
      have HQ : Hid (H.num vs * Q * H.pw k ≤ H.num us ∧ H.num us < H.num vs * (Q + 1) * H.pw k ∧ (∀ q : Int, H.num vs * q * H.pw k ≤ H.num us → q ≤ Q)) := ⟨Q2, Q3, Q4⟩
      have HQ1 : Hid (0 ≤ Q ∧ Q < 4294967296) := ⟨Q0, Q1⟩
      have d0 : 0 ≤ T / vt := Int.ediv_nonneg T0 (by omega)
      have d1 : T / vt < 18446744073709551616 := by
        have := Int.ediv_le_self vt T0
        omega
      obtain ⟨D, hD⟩ : ∃ D, T / vt = D := ⟨_, rfl⟩
      rw [hD] at hG d0 d1
      obtain ⟨q0, hq0⟩ : ∃ q, min D 4294967295 = q := ⟨_, rfl⟩
      have HQ0 : Hid (Q ≤ q0 ∧ q0 < 4294967296) := by show _ ∧ _; omega
      have HU1 : Hid (us.length = la + 1) := i1
      have HOS : Hid (os.length = K) := i3
      clear i1 i3 i5 i6 hN0 hNP Q2 Q3 Q4 hx1 hx0 hI h0 Q0 Q1 hG
      go_wp2_with fail
      go_quiet (fail)
      clear w1' w2'
      have HU2 : Hid (Own (wr.drewN nq) w.heap.size us) := hU
      have HV2 : Hid (Own (wr.drewN nq) w1.heap.size vs) := hVV
      have HO2 : Hid (Own (wr.drewN nq) w2.heap.size os) := hOO
      have HB2 : Hid (Below w.heap.size w (wr.drewN nq)) := below_drewN hBW.out nq
      clear hU hVV hOO hBW hc1 hc0
      go_wp2_with fail
      generalize wr.drewN nq = w4 at *
      clear hcv hT hD
      go_loopw [12] (fun qq wx => ∃ q : Int, qq = .int .u64 q ∧ Hid (Q ≤ q ∧ q < 4294967296) ∧ Hid (Own wx w.heap.size us) ∧ Hid (Own wx w1.heap.size vs) ∧ Hid (Own wx w2.heap.size os) ∧ Hid (Below w.heap.size w wx)) (fun qq _ => (intOf qq).toNat)
      case atStart => exact ⟨q0, rfl, HQ0, HU2, HV2, HO2, HB2⟩
      case round =>
        clear HU2 HV2 HO2 HB2 HQ0 hq0
        obtain ⟨q, rfl, hqq, hU3, hV3, hO3, hB3⟩ := hrel
        have qq1 := hqq.out.1
        have qq2 := hqq.out.2
        have Q00 := HQ1.out.1
        by_cases hle : H.num vs * q * H.pw k ≤ H.num us
        · have hqe : q ≤ Q := HQ.out.2.2 q hle
          obtain rfl : q = Q := by omega
          have LY := less_yes w.heap.size (la + 1) (la + 1) k us (some ⟨w1.heap.size, 0, none⟩) (n + 1) (n + 1) vs q wr hU3.out i2 HU1.out (hV3.out.sx hvL HVL.out ne1) hvL ⟨by omega, by omega⟩ (by omega) (by omega) HNP.out hle
          have HLY : Hid (Calls Try.prog _ _ _ _) := LY
          clear hle LY hqe
          go_wp2_with fail
          refine HLY.out.mono ?_
          rintro e w5 ⟨rfl, ds, hD5, hdL, hdl, hdn, nr⟩
          have O5 := Own.near hO3.out nr ne2
          have V5 := Own.near hV3.out nr ne1
          have hco := O5.cell k (by rw [HOS.out]; omega)
          have hfo := O5.frozen k
          have HSTEP : Hid (LgInv (H.num xs * s) (H.num vs) ds (os.set k q) (la + 1) K k) := lg_step HIV.out (by omega) hdl hdL hdn ⟨by omega, by omega⟩ HQ.out.2.1
          have kK : (k : Int) < K := by omega
          have hB5 : Below w.heap.size w w5 := hB3.out.trans nr.bel
          have HD5 : Hid (Own w5 w.heap.size ds) := hD5
          clear hdl hdn nr HLY hU3 hV3 hO3 hB3 hD5
          go_wp2_with fail
          go_roundw
          case rel => exact ⟨k, ds, os.set k q, rfl, by omega, HSTEP, Own.far HD5.out ne2.symm k _, Own.far V5 (show w1.heap.size ≠ w2.heap.size by omega) k _, Own.set O5 k _, hB5.setCell (p := ⟨w2.heap.size, k, none⟩) (show w.heap.size ≤ w2.heap.size by omega) _⟩
          case measure => simp [intOf]
        · have hne : q ≠ Q := by
            rintro rfl
            exact hle HQ.out.1
          have LN := less_no w.heap.size (la + 1) (la + 1) k us (some ⟨w1.heap.size, 0, none⟩) (n + 1) (n + 1) vs q wr hU3.out i2 HU1.out (hV3.out.sx hvL HVL.out ne1) hvL ⟨by omega, by omega⟩ (by omega) (by omega) HNP.out (Int.not_le.1 hle)
          have HLN : Hid (Calls Try.prog _ _ _ _) := LN
          clear hle LN
          go_wp2_with fail
          refine HLN.out.mono ?_
          rintro e w5 ⟨rfl, hD5, b5⟩
          have V5 := hV3.out.aft b5
          have O5 := hO3.out.aft b5
          have B5 := step hB3.out b5
          have HQ5 : Hid (Q ≤ q - 1 ∧ q - 1 < 4294967296) := by show _ ∧ _; omega
          clear HLN hU3 hV3 hO3 hB3
          go_wp2_with fail
          go_roundw
          case rel => exact ⟨q - 1, rfl, HQ5, hD5, V5, O5, B5⟩
          case measure => simp [intOf]; omega
end Go.Proofs.Ytajjhnilpdmnhaa
namespace Go.Proofs.Ytajjhnilpdmnhaa
open Go.RowKit Go.Shelf
set_option linter.unusedVariables false

/-- A small number: one limb, or none. -/
theorem rsmall_any (x : Int) (hx : Word x) (w : World) :
    Calls Try.prog 15 #[.int .u64 x] w fun e w' => LRes w w' e x 1 := by
  go_enter Try.func15, Try.ntmps15
  go_wp2_with fail
  refine ent1 w _ _ (Q := fun W => Calls Try.prog _ _ W _) ?_
  intro w0 B0 hs V0
  have s := sl_one w x hx
  have s1 : Sl w0 (some ⟨w.heap.size, 0, none⟩) 1 [x] := by
    refine ⟨rfl, s.2.1, fun _ => ⟨w.heap.size, 0, rfl, fun i hi => ?_⟩⟩
    obtain rfl : i = 0 := by omega
    exact V0.cell
  refine (rtrim_any (some ⟨w.heap.size, 0, none⟩) 1 1 [x] w0 s1 (fun h => by cases h) (by omega) (Nat.le_refl _)).mono ?_
  rintro e w2 ⟨a2, c2, rfl, s2, hc2, b2⟩
  have hu := usedN_le [x]
  simp at hu
  go_wp2_with fail
  go_ret
  exact ⟨a2, usedN [x], c2, [x].take (usedN [x]), rfl, hc2, hu, s2, usedN_take [x] (Nat.le_refl _), by rw [num_take_used [x] (Nat.le_refl _)]; simp [num], step B0 b2⟩

set_option maxHeartbeats 2000000 in
theorem rdivmod_any (a0 a1 : Option Addr) (l0 k0 l1 k1 : Nat) (z0 z1 : List Int) (w : World) (ha0 : Sl w a0 l0 z0) (hb0 : Sl w a1 l1 z1) (e0 : a0 = none → l0 = 0 ∧ k0 = 0) (c0 : l0 ≤ k0) (h1 : l0 ≤ 1000000000000) (h2 : l1 ≤ 1000000000000) (hz : num z1 ≠ 0) :
    Calls Try.prog 35 #[.slice a0 l0 k0, .slice a1 l1 k1] w fun e w' =>
      ∃ a1 m1 c1 qs a2 m2 c2 rs, e = .returned (.tuple #[.slice a1 m1 c1, .slice a2 m2 c2]) ∧ Sl w' a1 m1 qs ∧ usedN qs = m1 ∧ m1 ≤ c1 ∧ Sl w' a2 m2 rs ∧ usedN rs = m2 ∧ m2 ≤ c2 ∧ num z0 = num qs * num z1 + num rs ∧ 0 ≤ num rs ∧ num rs < num z1 ∧ m1 ≤ 2 * l0 ∧ m2 ≤ 2 * l0 + 1 ∧ Below w.heap.size w w' := by
  have HS0 : Hid (Sl w a0 l0 z0) := ha0
  go_enter Try.func35, Try.ntmps35
  go_wp2_with fail
  refine (digits_any a0 l0 k0 z0 w ha0 (by omega)).mono ?_
  rintro e wa ⟨a, la, ca, xs, rfl, -, hla, ha, hx, ux, nx, ba⟩
  go_wp2_with fail
  refine (digits_any a1 l1 k1 z1 wa (hb0.below ba (Nat.le_refl _)) (by omega)).mono ?_
  rintro e wb ⟨b, lb, cb, ys, rfl, -, hlb, hb, hy, uy, ny, bb⟩
  replace ha := ha.below bb (Nat.le_refl _)
  have HB : Hid (Below w.heap.size w wb) := step ba bb
  have HNX : Hid (H.num xs = num z0) := nx
  have HNY : Hid (H.num ys = num z1) := ny
  have hza := ha.1; have hzb := hb.1
  have hlb0 : lb ≠ 0 := by
    intro h
    have := (H.num_eq_zero hy).2 (by omega)
    rw [ny] at this; exact hz this
  have HUX : Hid (usedN xs = la) := ux
  have HUY : Hid (usedN ys = lb) := uy
  clear ba bb ha0 hb0 nx ny ux uy hz
  by_cases hlt : la < lb
  · have HLT : Hid (num z0 < num z1) := by
      show _ < _
      rw [← HNX.out, ← HNY.out]
      exact H.num_lt_len hx hy (by rw [HUX.out, HUY.out]; exact hlt)
    have hlt' : (la : Int) < lb := by omega
    go_wp2_with fail
    refine (rtrim_any a0 l0 k0 z0 wb (HS0.out.below HB.out (Nat.le_refl _)) e0 (by omega) c0).mono ?_
    rintro e w5 ⟨a5, c5, rfl, s5, hc5, b5⟩
    have hu := usedN_le z0
    have hl0 := HS0.out.1
    have hp := num_nonneg HS0.out.2.1
    go_wp2_with fail
    go_ret2
    exact ⟨none, 0, 0, [], a5, usedN z0, c5, z0.take (usedN z0), rfl, ⟨rfl, Limbs.nil, fun h => absurd h (by decide)⟩, rfl, Nat.le_refl _, s5, usedN_take z0 (Nat.le_refl _), hc5, by rw [num_take_used z0 (Nat.le_refl _)]; simp [num], by rw [num_take_used z0 (Nat.le_refl _)]; exact hp, by rw [num_take_used z0 (Nat.le_refl _)]; exact HLT.out, by omega, by omega, step HB.out b5⟩
  · have hlt' : ¬ (la : Int) < lb := by omega
    by_cases h1' : lb = 1
    · subst h1'
      obtain ⟨bb, ob, rfl, hcb⟩ := hb.2.2 (by omega)
      have hcy := hcb 0 (by omega)
      rw [Nat.add_zero] at hcy
      have hyb := hy.getD 0
      have hyt0 : ys.getD 0 0 ≠ 0 := by have := usedN_top ys (by rw [HUY.out]; omega); rwa [HUY.out] at this
      have hyn : H.num ys = ys.getD 0 0 := by
        have := Htop ys 0 hzb
        simpa [H.num, H.pw] using this
      obtain ⟨y, hyy⟩ : ∃ y, ys.getD 0 0 = y := ⟨_, rfl⟩
      rw [hyy] at hcy hyb hyt0 hyn
      have HYN : Hid (H.num ys = y) := hyn
      clear hyn hyy hcb
      go_wp2_with fail
      refine (rshort_any a la ca xs y wb ha hx (by omega) (by omega) hyb.2).mono ?_
      rintro e w5 ⟨a5, m5, c5, d5, r, rfl, k5, l5, s5, L5, u5, n5, r0, r1, b5⟩
      have N5 : Hid (H.num xs = H.num d5 * y + r) := n5
      clear n5
      go_wp2_with fail
      refine (limbsr_any a5 m5 c5 d5 w5 s5 L5 (by omega)).mono ?_
      rintro e w6 ⟨a6, m6, c6, z6, rfl, k6, l6, s6, u6, n6, b6⟩
      go_wp2_with fail
      refine (rsmall_any r ⟨r0, by omega⟩ w6).mono ?_
      rintro e w7 ⟨a7, m7, c7, z7, rfl, k7, l7, s7, u7, n7, b7⟩
      replace s6 := s6.below b7 (Nat.le_refl _)
      go_wp2_with fail
      go_ret2
      exact ⟨a6, m6, c6, z6, a7, m7, c7, z7, rfl, s6, u6, k6, s7, u7, k7, by rw [← HNX.out, ← HNY.out, HYN.out, N5.out, n6, n7], by omega, by rw [← HNY.out, HYN.out, n7]; exact r1, by omega, by omega, step (step (step HB.out b5) b6) b7⟩
    · obtain ⟨n, rfl⟩ : ∃ n, lb = n + 1 := ⟨lb - 1, by omega⟩
      have g1 : ((n : Int) + 1 == 1) = false := by simp; omega
      have LG := rlongd_any a b la ca n cb xs ys wb ha hb hx hy HUY.out (by omega) (by omega)
      have HLG : Hid (Calls Try.prog _ _ _ _) := LG
      clear LG
      go_wp2_with fail
      refine HLG.out.mono ?_
      rintro e w5 ⟨a5, m5, c5, d5, a6, m6, c6, d6, rfl, s5, L5, l5, s6, L6, l6, n5, r0, r1, b5⟩
      clear HLG
      go_wp2_with fail
      refine (limbsr_any a5 m5 c5 d5 w5 s5 L5 (by omega)).mono ?_
      rintro e w7 ⟨a7, m7, c7, z7, rfl, k7, l7, s7, u7, n7, b7⟩
      replace s6 := s6.below b7 (Nat.le_refl _)
      go_wp2_with fail
      refine (limbsr_any a6 m6 c6 d6 w7 s6 L6 (by omega)).mono ?_
      rintro e w8 ⟨a8, m8, c8, z8, rfl, k8, l8, s8, u8, n8, b8⟩
      replace s7 := s7.below b8 (Nat.le_refl _)
      go_wp2_with fail
      go_ret2
      exact ⟨a7, m7, c7, z7, a8, m8, c8, z8, rfl, s7, u7, k7, s8, u8, k8, by rw [← HNX.out, ← HNY.out, n7, n8]; exact n5, by rw [n8]; exact r0, by rw [n8, ← HNY.out]; exact r1, by omega, by omega, step (step (step HB.out b5) b7) b8⟩
end Go.Proofs.Ytajjhnilpdmnhaa
namespace Go.Proofs.Ytajjhnilpdmnhaa
open Go.RowKit Go.Shelf
set_option linter.unusedVariables false

def HvInv (d x : Int) (j : Nat) : Prop := x = d / 2 ^ j ∧ (0 < j → 2 ^ (j - 1) ≤ d)
theorem hv_step {d x : Int} {j : Nat} (hd : 0 ≤ d) (I : HvInv d x j) (hx : 0 < x) : HvInv d (x / 2) (j + 1) := by
  obtain ⟨i1, i2⟩ := I
  refine ⟨by rw [i1, Int.pow_succ, Int.ediv_ediv_of_nonneg (Int.le_of_lt (p2_pos _))], fun _ => ?_⟩
  rw [Nat.add_sub_cancel]
  rcases Int.lt_or_le d (2 ^ j) with h | h
  · rw [i1, Int.ediv_eq_zero_of_lt hd h] at hx; omega
  · exact h
theorem hv_end {d x : Int} {j : Nat} (hd : 0 < d) (I : HvInv d x j) (hx : x = 0) : 0 < j ∧ 2 ^ (j - 1) ≤ d ∧ d < 2 ^ j := by
  obtain ⟨i1, i2⟩ := I
  have h1 : d < 2 ^ j := by
    rcases Int.lt_or_le d (2 ^ j) with h | h
    · exact h
    · have := Int.le_ediv_of_mul_le (p2_pos j) (show 1 * 2 ^ j ≤ d by omega)
      omega
  have h0 : 0 < j := by
    rcases Nat.eq_zero_or_pos j with h | h
    · rw [h] at h1; simp at h1; omega
    · exact h
  exact ⟨h0, i2 h0, h1⟩

theorem top_bits {zs : List Int} (h : Limbs zs) {m j : Nat} (hl : zs.length = m + 1) (hu : usedN zs = m + 1) (h0 : 0 < j) (h1 : 2 ^ (j - 1) ≤ zs.getD m 0) (h2 : zs.getD m 0 < 2 ^ j) : bitsN zs = 64 * (m : Int) + j := by
  have e := num_take_succ zs m
  rw [List.take_of_length_le (by omega)] at e
  have t0 := num_nonneg (h.take m)
  have t1 := num_lt (h.take m)
  rw [List.length_take, Nat.min_eq_left (by omega)] at t1
  have hp := pw_pos m
  have b0 : (2 : Int) ^ (64 * m + (j - 1)) ≤ num zs := by
    rw [Int.pow_add, ← pw_eq, Int.mul_comm]
    have : 2 ^ (j - 1) * pw m ≤ zs.getD m 0 * pw m := Int.mul_le_mul_of_nonneg_right h1 (Int.le_of_lt hp)
    omega
  have b1 : num zs < 2 ^ (64 * m + (j - 1) + 1) := by
    rw [show 64 * m + (j - 1) + 1 = 64 * m + j by omega, Int.pow_add, ← pw_eq, Int.mul_comm]
    have : (zs.getD m 0 + 1) * pw m ≤ 2 ^ j * pw m := Int.mul_le_mul_of_nonneg_right (by omega) (Int.le_of_lt hp)
    rw [Int.add_mul, Int.one_mul] at this
    omega
  rw [bits_of h b0 b1]
  omega
theorem bits_same {a b : List Int} (ha : Limbs a) (hb : Limbs b) (e : num a = num b) : bitsN a = bitsN b := by
  rcases Nat.eq_zero_or_pos (usedN a) with h | h
  · rw [bits_nought h, bits_nought ((num_eq_zero hb).1 (by rw [← e]; exact (num_eq_zero ha).2 h))]
  · obtain ⟨k, e1, k1, k2⟩ := bits_spec ha h
    rw [e1, bits_of hb (k := k) (by rw [← e]; exact k1) (by rw [← e]; exact k2)]

set_option maxHeartbeats 1000000 in
theorem rbits_any (a : Option Addr) (la ca : Nat) (zs : List Int) (w : World) (h : Sl w a la zs) (hn : a = none → la = 0 ∧ ca = 0) (hl : la ≤ 17592186044416) (hc : la ≤ ca) :
    Calls Try.prog 20 #[.slice a la ca] w fun e w' => e = .returned (.int .i64 (bitsN zs)) ∧ Below w.heap.size w w' := by
  have hLz := h.2.1
  have hle := usedN_le zs
  have hz := h.1
  go_enter Try.func20, Try.ntmps20
  go_wp2_with fail
  refine (rtrim_any a la ca zs w h hn hl hc).mono ?_
  rintro e w1 ⟨a1, c1, rfl, s1, hc1, b1⟩
  obtain ⟨D, hD⟩ : ∃ D, zs.take (usedN zs) = D := ⟨_, rfl⟩
  have HBB : Hid (bitsN zs = bitsN D) := by rw [← hD]; exact bits_same hLz (hLz.take _) (num_take_used zs (Nat.le_refl _)).symm
  have HUD : Hid (usedN D = usedN zs) := by rw [← hD]; exact usedN_take zs (Nat.le_refl _)
  rw [hD] at s1
  obtain ⟨m1, hm1⟩ : ∃ m, usedN zs = m := ⟨_, rfl⟩
  rw [hm1] at s1 HUD hc1 hle
  rw [hm1]
  clear hD h
  by_cases h0 : m1 = 0
  · have e0 : Hid (bitsN zs = 0) := bits_nought (by rw [hm1]; exact h0)
    subst h0
    clear hm1
    go_wp2_with fail
    go_ret
    exact ⟨ret_int e0.out.symm, b1⟩
  · obtain ⟨m, rfl⟩ : ∃ m, m1 = m + 1 := ⟨m1 - 1, by omega⟩
    clear hm1
    obtain ⟨b, o, rfl, hc⟩ := s1.2.2 (by omega)
    have hcx := hc m (by omega)
    have hd0 := s1.2.1.getD m
    have hne := usedN_top D (by rw [HUD.out]; omega)
    rw [HUD.out, Nat.add_sub_cancel] at hne
    have g1 : ((m : Int) + 1 == 0) = false := by simp; omega
    have BD : Hid (∀ j : Nat, 0 < j → 2 ^ (j - 1) ≤ D.getD m 0 → D.getD m 0 < 2 ^ j → bitsN zs = 64 * (m : Int) + j) :=
      fun j j0 j1 j2 => by rw [HBB.out]; exact top_bits s1.2.1 s1.1 HUD.out j0 j1 j2
    obtain ⟨d, hd⟩ : ∃ d, D.getD m 0 = d := ⟨_, rfl⟩
    rw [hd] at hcx hd0 hne BD
    clear hd hc s1
    have hdp : 0 < d := by omega
    have hml : m ≤ 17592186044416 := by omega
    go_wp2_with fail
    go_loop [4, 5] (fun nn xx => ∃ (j : Nat) (x : Int), nn = .int .i64 (64 * (m : Int) + j) ∧ xx = .int .u64 x ∧ 0 ≤ x ∧ x < 18446744073709551616 ∧ j ≤ 70 ∧ Hid (HvInv d x j)) (fun _ xx => (intOf xx).toNat)
    case atStart => exact ⟨0, d, by simp, rfl, by omega, by omega, by omega, ⟨by simp, fun h => absurd h (by omega)⟩⟩
    case round =>
      obtain ⟨j, x, rfl, rfl, x1, x2, hj, hI⟩ := hrel
      by_cases hx : 0 < x
      · have hs : Hid (HvInv d (x / 2) (j + 1)) := hv_step (by omega) hI.out hx
        have hj2 : j + 1 ≤ 70 := by
          have := hs.out.2 (by omega)
          rcases Nat.lt_or_ge j 65 with h | h
          · omega
          · have h3 := p2_mono (show 65 ≤ j + 1 - 1 by omega)
            have h4 : (2 : Int) ^ 65 = 36893488147419103232 := by decide
            omega
        go_wp2_with fail
        go_round
        case rel => exact ⟨j + 1, x / 2, by rw [show 64 * (m : Int) + ((j + 1 : Nat) : Int) = 64 * (m : Int) + j + 1 by omega], rfl, by omega, by omega, hj2, hs⟩
        case measure => simp [intOf]; omega
      · obtain ⟨j0, j1, j2⟩ := hv_end hdp hI.out (by omega)
        have HE : Hid (bitsN zs = 64 * (m : Int) + j) := BD.out j j0 j1 j2
        clear j0 j1 j2
        go_wp2_with fail
        go_ret
        exact ⟨ret_int HE.out.symm, b1⟩

theorem num_one_at (p : Nat) (v : Int) : num ((List.replicate (p + 1) (0 : Int)).set p v) = v * pw p := by
  rw [num_set v (by simp), num_zeros]
  have : (List.replicate (p + 1) (0 : Int)).getD p 0 = 0 := by rw [List.getD_eq_getElem?_getD, List.getElem?_replicate]; split <;> rfl
  rw [this, Int.sub_zero, Int.zero_add]
theorem p2_word {i : Nat} (h : i ≤ 63) : (0 : Int) < 2 ^ i ∧ (2 : Int) ^ i ≤ 9223372036854775808 := by
  have := p2_mono h
  have h4 : (2 : Int) ^ 63 = 9223372036854775808 := by decide
  exact ⟨p2_pos i, by omega⟩

set_option maxHeartbeats 1000000 in
theorem power_any (n : Nat) (w : World) (hn : n ≤ 1000000000000) :
    Calls Try.prog 64 #[.int .i64 n] w fun e w' => ∃ p cs, e = .returned (.slice (some ⟨w.heap.size, 0, none⟩) p p) ∧ Own w' w.heap.size cs ∧ Limbs cs ∧ cs.length = p ∧ p ≤ n + 1 ∧ num cs = 2 ^ n ∧ Below w.heap.size w w' := by
  obtain ⟨p, hp⟩ : ∃ p, n / 64 = p := ⟨_, rfl⟩
  obtain ⟨r, hr⟩ : ∃ r, n % 64 = r := ⟨_, rfl⟩
  have ep : (n : Int) / 64 = p := by omega
  have er : (n : Int) % 64 = r := by omega
  have hr63 : r ≤ 63 := by omega
  have hnn : n = 64 * p + r := by omega
  have hpn : p ≤ n := by omega
  have hmk := make_row (p + 1) (by omega)
  rw [show ((p + 1 : Nat) : Int) = (p : Int) + 1 by omega] at hmk
  have HNN : Hid (n = 64 * p + r) := hnn
  have O0 : Own (w.alloc (.cells (row (List.replicate (p + 1) 0)).toArray 23)) w.heap.size (List.replicate (p + 1) 0) := heap_alloc_new _ _
  have cz := O0.cell p (by simp)
  have fz := O0.frozen p
  have HO0 : Hid (Own (w.alloc (.cells (row (List.replicate (p + 1) 0)).toArray 23)) w.heap.size (List.replicate (p + 1) 0)) := O0
  have hB1 : Below w.heap.size w (w.alloc (.cells (row (List.replicate (p + 1) 0)).toArray 23)) := (Below.refl _ _).alloc (Nat.le_refl _) _
  have pp1 : (p : Int) < p + 1 := by omega
  clear hp hr hnn O0
  go_enter Try.func64, Try.ntmps64
  go_wp2_with fail
  clear hmk
  have er1 : row ((List.replicate (p + 1) (0 : Int)).set p (2 ^ 0)) = (row (List.replicate (p + 1) 0)).set p (.int .u64 1) := by simp [row, List.map_set]
  have O1 : Hid (Own (w.alloc (.cells ((row (List.replicate (p + 1) 0)).set p (.int .u64 1)).toArray 23)) w.heap.size ((List.replicate (p + 1) 0).set p (2 ^ 0))) := by
    rw [← er1]; exact heap_alloc_new _ _
  have B1 : Below w.heap.size w (w.alloc (.cells ((row (List.replicate (p + 1) 0)).set p (.int .u64 1)).toArray 23)) := (Below.refl _ _).alloc (Nat.le_refl _) _
  clear er1
  go_loopw [4] (fun ii wr => ∃ i : Nat, ii = .int .i64 i ∧ i ≤ r ∧ Hid (Own wr w.heap.size ((List.replicate (p + 1) 0).set p (2 ^ i))) ∧ Hid (Below w.heap.size w wr)) (fun ii _ => r - (intOf ii).toNat)
  case atStart => exact ⟨0, rfl, by omega, O1, B1⟩
  case round =>
    clear O1 B1 cz fz hB1 HO0
    obtain ⟨i, rfl, hi, hO, hb⟩ := hrel
    by_cases hlt : i < r
    · have hc := hO.out.cell p (by simp)
      have hf := hO.out.frozen p
      have ev : ((List.replicate (p + 1) (0 : Int)).set p (2 ^ i)).getD p 0 = 2 ^ i := getD_set_self _ _ _ (by simp)
      rw [ev] at hc
      obtain ⟨v1, v2⟩ := p2_word (show i + 1 ≤ 63 by omega)
      have e2 : (2 : Int) ^ (i + 1) = 2 * 2 ^ i := by rw [Int.pow_succ, Int.mul_comm]
      rw [e2] at v1 v2
      have HO2 := fun v => Own.set hO.out p v
      simp only [List.set_set] at HO2
      have HO3 := HO2 (2 * 2 ^ i)
      rw [← e2] at HO3
      obtain ⟨v, hv⟩ : ∃ v : Int, 2 ^ i = v := ⟨_, rfl⟩
      rw [hv] at hc v1 v2 e2
      rw [e2] at HO3
      have HV : Hid (2 * v = 2 ^ (i + 1)) := by rw [← hv]; exact (by rw [Int.pow_succ, Int.mul_comm] : (2 : Int) * 2 ^ i = 2 ^ (i + 1))
      have iR : (i : Int) < r := by omega
      clear HO2 ev hv e2 HO3
      have HS := Own.set hO.out p (2 * v)
      simp only [List.set_set] at HS
      have HS2 : Hid (Own (wr.setCell ⟨w.heap.size, p, none⟩ (.int .u64 (2 * v))) w.heap.size ((List.replicate (p + 1) 0).set p (2 ^ (i + 1)))) := by rw [← HV.out]; exact HS
      clear HS
      go_wp2_with fail
      go_roundw
      case rel => exact ⟨i + 1, by go_num, by omega, HS2, hb.out.setCell (p := ⟨w.heap.size, p, none⟩) (Nat.le_refl _) _⟩
      case measure => simp [intOf]; omega
    · obtain rfl : i = r := by omega
      have iR : ¬ (i : Int) < i := by omega
      obtain ⟨v1, v2⟩ := p2_word hr63
      have HL : Hid (Limbs ((List.replicate (p + 1) (0 : Int)).set p (2 ^ i))) := (Limbs.zeros _).set p ⟨by omega, by omega⟩
      have HE : Hid (num ((List.replicate (p + 1) (0 : Int)).set p (2 ^ i)) = 2 ^ n) := by
        show _ = _
        rw [num_one_at, pw_eq, ← Int.pow_add, HNN.out, Nat.add_comm]
      go_wp2_with fail
      go_ret
      exact ⟨p + 1, rfl, _, hO.out, HL.out, by simp, by omega, HE.out, hb.out⟩
end Go.Proofs.Ytajjhnilpdmnhaa
namespace Go.Proofs.Ytajjhnilpdmnhaa
open Go.RowKit Go.Shelf
set_option linter.unusedVariables false

theorem Gr.aft {w w' : World} {B : Nat} {v : Value} {cs : List Int} (h : Gr w B v cs) (hb : Below w.heap.size w w') : Gr w' B v cs := by
  obtain ⟨h1, h2 | ⟨g, cap, cur, e, hB, hh, hc, hm, hs, ht⟩⟩ := h
  · exact ⟨h1, .inl h2⟩
  · refine ⟨h1, .inr ⟨g, cap, cur, e, hB, ?_, hc, hm, hs, ht⟩⟩
    have hlt : g < w.heap.size := by
      rcases Nat.lt_or_ge g w.heap.size with h' | h'
      · exact h'
      · rw [Array.getElem?_eq_none h'] at hh; cases hh
    rw [hb.block g hlt]; exact hh
/-- A list in a block that stayed. -/
theorem Sl.far {w w' : World} {a : Option Addr} {n : Nat} {zs : List Int} (h : Sl w a n zs) (hk : 0 < n → ∀ p, a = some p → w'.heap[p.block]? = w.heap[p.block]?) : Sl w' a n zs := by
  obtain ⟨h1, h2, h3⟩ := h
  refine ⟨h1, h2, fun h0 => ?_⟩
  obtain ⟨b, off, rfl, hc⟩ := h3 h0
  refine ⟨b, off, rfl, fun i hi => ?_⟩
  rw [← hc i hi]
  exact World.cell?_of_block (w := w) (hk h0 ⟨b, off, none⟩ rfl)
/-- append, at a plain statement; all blocks but the list's own stay. -/
theorem wpList_appf {ops : Array Oper} {rest : List Oper} {o : Oper} {a : Act} {w : World} {Q : Exit → Act → World → Prop} (hgd : o.guard = none) (s x : Operand)
    (ho : o.op = .call { callee := .builtin .append, args := #[s, x], argTypes := #[22, 22] })
    (B : Nat) (v : Value) (cs : List Int) (hs : a.eval s = v) (hg : Gr w B v cs) (b off m c : Nat) (news : List Int) (hx : a.eval x = .slice (some ⟨b, off, none⟩) m c) (hn : Sl w (some ⟨b, off, none⟩) m news)
    (hb : cs.length + m ≤ 17592186044416) (hB : B ≤ w.heap.size)
    (h : ∀ v' w', Hid (Gr w' B v' (cs ++ news)) → Below B w w' → Hid (∀ k, k < w.heap.size → some k ≠ v.ownBlock → w'.heap[k]? = w.heap[k]?) → wpList Try.prog ops Q rest (a.put o.dst v') w') : wpList Try.prog ops Q (o :: rest) a w := by
  obtain ⟨i0, hi, hz0, hz1, hz2⟩ := info_parts info8
  refine wpList_append_own w hgd s x _ ho B 23 i0 (.int .u64 0) 1 8 Try.underlying22 hi hz0 hz1 hz2 rfl (by decide) v cs.length (row cs) hs hg ⟨b, off, none⟩ m c (row news) hx (by rw [row_length, hn.1, Nat.mul_one]) ?_ (row_one _) (by unfold maxLen; omega) (by omega) hB ?_
  · intro j u hu
    have e : news.take m = news := List.take_of_length_le (by rw [hn.1]; exact Nat.le_refl _)
    rw [← e] at hu
    exact src_row hn (Nat.le_refl _) j u hu
  · intro v' w' h2 h3 _
    refine h v' w' ?_ ((Below.refl B w).grown h3 hB hg.block) (fun k hk hne => h3.block k hk hne)
    show Gr w' B v' (cs ++ news)
    unfold Gr
    rw [List.length_append, hn.1, row_append]
    exact h2

set_option maxHeartbeats 400000 in
theorem rtrim_new (a : Option Addr) (len cap : Nat) (zs : List Int) (w : World) (h : Sl w a len zs) (hn : a = none → len = 0 ∧ cap = 0) (hl : len ≤ 17592186044416) (hcap : len ≤ cap) :
    Calls Try.prog 16 #[.slice a len cap] w fun e w' => ∃ a' c', e = .returned (.slice a' (usedN zs) c') ∧ Sl w' a' (usedN zs) (zs.take (usedN zs)) ∧ usedN zs ≤ c' ∧ (a' = none → usedN zs = 0 ∧ c' = 0) ∧ (0 < usedN zs → ∀ p, a' = some p → w.heap.size ≤ p.block) ∧ Below w.heap.size w w' := by
  have HSL : Hid (Sl w a len zs) := h
  obtain ⟨hz, hL, hc⟩ := h
  by_cases h0 : len = 0
  · subst h0
    have e0 : usedN zs = 0 := by have := usedN_le zs; omega
    rw [e0]
    cases a with
    | none =>
      obtain ⟨-, rfl⟩ := hn rfl
      go_enter Try.func16, Try.ntmps16
      go_wp2_with fail
      refine wp_loop_rounds 1 ?_
      rw [rounds_succ]
      go_wp2_with fail
      go_ret
      exact ⟨none, 0, rfl, ⟨rfl, Limbs.nil, fun h => absurd h (by decide)⟩, Nat.le_refl _, (fun _ => ⟨trivial, rfl⟩), (fun h => absurd h (by decide)), Below.refl _ _⟩
    | some ad =>
      have hsl : Sl w (some ad) 0 [] := ⟨rfl, Limbs.nil, fun h => absurd h (by decide)⟩
      go_enter Try.func16, Try.ntmps16
      go_wp2_with fail
      refine wp_loop_rounds 1 ?_
      rw [rounds_succ]
      go_wp2_with (at_builtin; refine wpList_app_some rfl (.tmp 19) (.tmp 22) rfl w.heap.size _ [] rfl (Gr.nil _ _) ad 0 cap [] rfl hsl (by simp) (Nat.le_refl _) ?_; intro v1 w1 hG hb)
      go_ret
      obtain ⟨a1, c1, gm, e1, hc1, hs1, hgm, hn1, hb1⟩ := Gr.parts (by simpa using hG.out) Limbs.nil
      exact ⟨a1, c1, congrArg _ e1, hs1, hc1, (fun h => ⟨trivial, (hn1 h).2⟩), (fun h => absurd h (by decide)), hb⟩
  · obtain ⟨b, off, rfl, hcell⟩ := hc (by omega)
    go_enter Try.func16, Try.ntmps16
    go_wp2_with fail
    go_loop [3] (fun i => ∃ k : Nat, k ≤ len ∧ i = .int .i64 k ∧ Hid (∀ j, k ≤ j → j < len → zs.getD j 0 = 0)) (fun i => (intOf i).toNat)
    case atStart => exact ⟨len, Nat.le_refl _, rfl, fun j h1 h2 => absurd h1 (by omega)⟩
    case round =>
      obtain ⟨k, hk, rfl, hI⟩ := hrel
      by_cases hlt : 0 < k
      · have hcx := hcell (k - 1) (by omega)
        have ex : ((k : Int) - 1).toNat = k - 1 := by omega
        obtain ⟨x, hx⟩ : ∃ x, zs.getD (k - 1) 0 = x := ⟨_, rfl⟩
        rw [hx] at hcx
        have HX : Hid (zs.getD (k - 1) 0 = x) := hx
        clear hx
        by_cases hx0 : x = 0
        · have g1 : (x == 0) = true := by simp [hx0]
          have HX0 : Hid (x = 0) := hx0
          clear hx0
          go_wp2_with fail
          go_round
          case rel =>
            refine ⟨k - 1, by omega, by rw [show ((k - 1 : Nat) : Int) = (k : Int) - 1 by omega], ?_⟩
            intro j h1 h2
            by_cases hj : j = k - 1
            · rw [hj, HX.out, HX0.out]
            · exact hI.out j (by omega) h2
          case measure => simp [intOf]; omega
        · have g1 : (x == 0) = false := by simp [hx0]
          have hu : usedN zs = k := usedN_eq (by omega) (fun i h1 h2 => hI.out i h1 (by omega)) (.inr (by rw [HX.out]; exact hx0))
          have HU : Hid (usedN zs = k) := hu
          clear hu hx0
          have hsl := HSL.out.take (m := k) (by omega)
          go_wp2_with (at_builtin; refine wpList_app_some rfl (.tmp 19) (.tmp 22) rfl w.heap.size _ [] rfl (Gr.nil _ _) ⟨b, off, none⟩ k cap (zs.take k) rfl hsl (by simp <;> omega) (Nat.le_refl _) ?_; intro v1 w1 hG hb)
          go_ret
          obtain ⟨a1, c1, gm, e1, hc1, hs1, hgm, hn1, hb1⟩ := Gr.parts (by simpa using hG.out) (hL.take k)
          rw [List.length_take, Nat.min_eq_left (by omega)] at e1 hc1 hs1 hn1 hb1
          exact ⟨a1, c1, by rw [HU.out]; exact congrArg _ e1, by rw [HU.out]; exact hs1, by rw [HU.out]; exact hc1, by rw [HU.out]; exact hn1, by rw [HU.out]; exact (fun h p hp => by rw [(hb1 h).1] at hp; cases hp; exact hgm), hb⟩
      · obtain rfl : k = 0 := by omega
        have hu : usedN zs = 0 := usedN_eq (by omega) (fun i h1 h2 => hI.out i (by omega) (by omega)) (.inl rfl)
        have HU : Hid (usedN zs = 0) := hu
        clear hu
        have hsl := HSL.out.take (m := 0) (by omega)
        go_wp2_with (at_builtin; refine wpList_app_some rfl (.tmp 19) (.tmp 22) rfl w.heap.size _ [] rfl (Gr.nil _ _) ⟨b, off, none⟩ 0 cap (zs.take 0) rfl hsl (by simp <;> omega) (Nat.le_refl _) ?_; intro v1 w1 hG hb)
        go_ret
        obtain ⟨a1, c1, gm, e1, hc1, hs1, hgm, hn1, hb1⟩ := Gr.parts (by simpa using hG.out) (hL.take 0)
        rw [List.length_take, Nat.min_eq_left (by omega)] at e1 hc1 hs1 hn1 hb1
        exact ⟨a1, c1, by rw [HU.out]; exact congrArg _ e1, by rw [HU.out]; exact hs1, by rw [HU.out]; exact hc1, by rw [HU.out]; exact hn1, by rw [HU.out]; exact (fun h p hp => by rw [(hb1 h).1] at hp; cases hp; exact hgm), hb⟩

theorem num_noughts (zs : List Int) (k : Nat) : num (zs ++ List.replicate k 0) = num zs := by rw [num_append, num_zeros]; omega
theorem limbs_567 : Limbs [5, 6, 7] := limbs_lit _ (by decide)
end Go.Proofs.Ytajjhnilpdmnhaa
namespace Go.Proofs.Ytajjhnilpdmnhaa.natMakes
open Go.RowKit Go.Shelf
set_option linter.unusedVariables false

set_option maxRecDepth 40000 in
set_option maxHeartbeats 4000000 in
theorem walk_k (a0 : Option Addr) (len0 cap0 : Nat) (z0 : List Int) (xx t : Int) (w : World) (s0 : Sl w a0 len0 z0) (c0 : len0 ≤ cap0) (r0 : cap0 ≤ 17592186043904) (e0 : a0 = none → len0 = 0 ∧ cap0 = 0) (hx : Word xx) (ht : (Lit.int .i64 t).wf = true) (u0 : usedN z0 ≤ 4096) :
    Calls Try.prog 3 #[.slice a0 len0 cap0, .int .u64 xx, .int .i64 t] w fun e w' => e = .returned (.bool true) ∧ Below w.heap.size w w' := by
  go_enter Try.func3, Try.ntmps3
  go_wp2_with fail
  refine (nawake_any w).mono ?_
  rintro e x1 ⟨rfl, b1⟩
  replace s0 := s0.below b1 (Nat.le_refl _)
  go_wp2_with fail
  refine (copied_any a0 len0 cap0 z0 x1 s0 e0 (by omega)).mono ?_
  rintro e x2 ⟨v, rfl, hG0, b2⟩
  have HS0 : Hid (Sl x1 a0 len0 z0) := s0
  have HB1 : Hid (Below w.heap.size w x1) := b1
  have hz0 := s0.1
  have L0 := s0.2.1
  clear s0 b1
  go_wp2_with fail
  go_loopw [7, 8] (fun mv ii wr => ∃ (k : Nat), ii = .int .i64 k ∧ k ≤ 100 ∧ Hid (Gr wr x1.heap.size mv (z0 ++ List.replicate k 0)) ∧ Hid (Below x1.heap.size x1 wr)) (fun _ ii _ => 100 - (intOf ii).toNat)
  case atStart => exact ⟨0, rfl, by omega, by rw [List.replicate_zero, List.append_nil]; exact hG0, b2⟩
  case round =>
    clear hG0 b2
    obtain ⟨k, rfl, hk, hG, hB⟩ := hrel
    have hsz := hB.out.size
    by_cases hgo : (k : Int) < t ∧ k < 100
    · obtain ⟨g1, g2⟩ := hgo
      have g2' : (k : Int) < 100 := by omega
      have HSZ : Hid (x1.heap.size ≤ (wr.alloc (.cells (row [0]).toArray 23)).heap.size) := by show _ ≤ _; simp; omega
      have hcl : (z0 ++ List.replicate k 0).length + 1 ≤ 17592186044416 := by simp; omega
      go_wp2_with (at_builtin; refine wpList_app rfl (.tmp 30) (.tmp 31) rfl x1.heap.size u7 (z0 ++ List.replicate k 0) rfl (hG.out.alloc _) wr.heap.size 1 1 [0] rfl rfl (heap_alloc_new _ _) hcl HSZ.out ?_; intro v1 w1 hG1 hb1)
      have hb2 : Below x1.heap.size x1 w1 := (hB.out.alloc hsz _).trans hb1
      have HG2 : Hid (Gr w1 x1.heap.size v1 (z0 ++ List.replicate (k + 1) 0)) := by
        have h5 := hG1.out
        rw [List.append_assoc, ← List.replicate_succ'] at h5
        exact h5
      clear hG1 hb1
      go_wp2_with fail
      go_roundw
      case rel => exact ⟨k + 1, by go_num, by omega, HG2, hb2⟩
      case measure => simp [intOf]; omega
    · have LC : Limbs (z0 ++ List.replicate k 0) := L0.append (Limbs.zeros _)
      have hN : (z0 ++ List.replicate k 0).length = len0 + k := by simp; omega
      have HNC : Hid (num (z0 ++ List.replicate k 0) = num z0) := num_noughts z0 k
      obtain ⟨cs, hcs⟩ : ∃ cs, z0 ++ List.replicate k 0 = cs := ⟨_, rfl⟩
      obtain ⟨N, hNN⟩ : ∃ N, len0 + k = N := ⟨_, rfl⟩
      rw [hcs] at hG LC hN HNC
      rw [hNN] at hN
      have HUC : Hid (usedN cs = usedN z0) := used_of_num LC L0 HNC.out
      obtain ⟨am, cm, gm, hv, hcm, sm, hgm, hnm, hblk⟩ := hG.out.parts LC
      rw [hN] at hv hcm sm hnm hblk
      have hNb : N ≤ 17592186044004 := by omega
      have hcase : ¬ (k : Int) < t ∨ ((k : Int) < t ∧ ¬ (k : Int) < 100) := by omega
      rw [hv] at hG ⊢
      have HGM : Hid (Gr wr x1.heap.size (.slice am N cm) cs) := hG
      have HOB : Hid (0 < N → am = some ⟨gm, 0, none⟩ ∧ gm < wr.heap.size) := fun h0 => ⟨(hblk h0).1, (hblk h0).2.lt⟩
      have HCL : Hid (cs.length = N) := hN
      clear hG hv hcs hblk hgo hNN hN
      rcases hcase with q | ⟨q, q'⟩
      all_goals
        go_wp2_with fail
        refine (copied_any am N cm cs wr sm hnm (by omega)).mono ?_
        rintro e y1 ⟨v2, rfl, hG2, b1⟩
        obtain ⟨aa, ca, ga, hv2, hca, sa, hga, hna, hblka⟩ := hG2.parts LC
        rw [HCL.out] at hv2 hca sa hna hblka
        rw [hv2]
        have HG1 : Hid (Gr y1 x1.heap.size (.slice am N cm) cs) := HGM.out.aft b1
        have hsz1 := b1.size
        have HSZ : Hid (x1.heap.size ≤ (y1.alloc (.cells (row [5, 6, 7]).toArray 23)).heap.size) := by show _ ≤ _; simp; omega
        have HSN : Hid (Sl (y1.alloc (.cells (row [5, 6, 7]).toArray 23)) (some ⟨y1.heap.size, 0, none⟩) 3 [5, 6, 7]) := sl_lit y1 [5, 6, 7] limbs_567
        have HB2 : Hid (Below x1.heap.size x1 y1) := hB.out.trans (b1.mono hsz)
        have HAB : Hid (0 < N → aa = some ⟨ga, 0, none⟩ ∧ ga < y1.heap.size ∧ wr.heap.size ≤ ga) := fun h0 => ⟨(hblka h0).1, (hblka h0).2.lt, hga⟩
        have hcl3 : cs.length + 3 ≤ 17592186044416 := by rw [HCL.out]; omega
        have LC3 : Limbs (cs ++ [5, 6, 7]) := LC.append limbs_567
        have H3 : Hid ((cs ++ [5, 6, 7]).length = N + 3) := by show _ = _; rw [List.length_append, HCL.out]; rfl
        have HTK : Hid ((cs ++ [5, 6, 7]).take N = cs) := List.take_left' HCL.out
        have HDR : Hid ((cs ++ [5, 6, 7]).drop N = [5, 6, 7]) := List.drop_left' HCL.out
        have HSA : Hid (Sl y1 aa N cs) := sa
        clear hG2 hv2 hblka HGM b1 sm hnm hcm sa hna
        go_wp2_with (at_builtin; refine wpList_appf rfl (.tmp 35) (.tmp 36) rfl x1.heap.size (.slice am N cm) cs rfl (HG1.out.alloc _) y1.heap.size 0 3 3 [5, 6, 7] rfl HSN.out hcl3 HSZ.out ?_; intro v3 y2 hG3 hb3 hfar; obtain ⟨ag, cg, gg, hv3, hcg, sg, hgg, hng, hblkg⟩ := hG3.out.parts LC3; rw [H3.out] at hv3 hcg sg hblkg; obtain ⟨rfl, hbk⟩ := hblkg (by omega); subst hv3; have q3 : (N : Int) ≤ cg := (by omega); have q4 : (N : Int) ≤ N + 3 := (by omega); have HBK : Hid (Blk y2 gg (N + 3)) := hbk; have HSG : Hid (Sl y2 (some ⟨gg, 0, none⟩) (N + 3) (cs ++ [5, 6, 7])) := sg; clear hblkg hng hG3 hbk sg)
        have HS2 : Hid (Sl y2 (some ⟨gg, 0, none⟩) N cs) := by
          have h5 := HSG.out.take (m := N) (by omega)
          rw [HTK.out] at h5; exact h5
        have HA2 : Hid (Sl y2 aa N cs) := by
          have h5 : Sl (y1.alloc (.cells (row [5, 6, 7]).toArray 23)) aa N cs := HSA.out.below ((Below.refl _ _).alloc (Nat.le_refl _) _) (Nat.le_refl _)
          refine h5.far (fun h0 p hp => ?_)
          obtain ⟨e1, e2, e3⟩ := HAB.out h0
          rw [e1] at hp
          cases hp
          obtain ⟨e4, e5⟩ := HOB.out h0
          refine hfar.out ga (by simp; omega) ?_
          rw [e4]
          intro e6
          have e7 : ga = gm := by simpa [Value.ownBlock] using e6
          omega
        have HB3 : Hid (Below x1.heap.size x1 y2) := (HB2.out.alloc (by omega) _).trans hb3
        clear hfar hb3 HSA HG1 HSN HSZ HAB HOB HB2
        refine (of_ok (some ⟨gg, 0, none⟩) N cg cs y2 HS2.out (by omega) (by omega) (by rw [HUC.out]; exact u0)).mono ?_
        rintro e y3 ⟨g2, l2, k2, zs2, rfl, hg2, h2, hn2, b3⟩
        have sg3 := HSG.out.below b3 (Nat.le_refl _)
        have sa3 := HA2.out.below b3 (Nat.le_refl _)
        have bk3 := HBK.out.kept b3
        have hgg2 : gg < y2.heap.size := HBK.out.lt
        have hy3 := b3.size
        have HB4 : Hid (Below x1.heap.size x1 y3) := HB3.out.trans (b3.mono HB3.out.size)
        clear HS2 HSG HA2 HBK HB3 b3
        go_wp2_with fail
        refine ent1 y3 _ _ (Q := fun W => Calls Try.prog _ _ W _) ?_
        intro y4 b4 hs4 Vn
        replace sg3 := sg3.below b4 (Nat.le_refl _)
        replace sa3 := sa3.below b4 (Nat.le_refl _)
        replace bk3 := bk3.kept b4
        replace h2 := Nt.after b4 h2
        have HB5 : Hid (Below x1.heap.size x1 y4) := HB4.out.trans (b4.mono HB4.out.size)
        have sh3 : Sl y4 (some ⟨gg, 0, none⟩) N cs := by
          have h5 := sg3.take (m := N) (by omega)
          rw [HTK.out] at h5; exact h5
        clear b4 HB4
        refine (same_b (some ⟨gg, 0, none⟩) aa N cg ca cs y4 sh3 sa3 (by omega)).mono ?_
        rintro e y5 ⟨rfl, b5⟩
        replace sg3 := sg3.below b5 (Nat.le_refl _)
        replace bk3 := bk3.kept b5
        replace h2 := Nt.after b5 h2
        replace Vn := Va.after b5 Vn
        have HB6 : Hid (Below x1.heap.size x1 y5) := HB5.out.trans (b5.mono HB5.out.size)
        clear b5 HB5 sh3 sa3
        go_wp2_with fail
        refine ent1 y5 _ _ (Q := fun W => Calls Try.prog _ _ W _) ?_
        intro y6 b6 hs6 V6
        replace sg3 := sg3.below b6 (Nat.le_refl _)
        replace bk3 := bk3.kept b6
        replace h2 := Nt.after b6 h2
        replace Vn := Va.after b6 Vn
        have HB7 : Hid (Below x1.heap.size x1 y6) := HB6.out.trans (b6.mono HB6.out.size)
        have st5 : Sl y6 (some ⟨gg, N, none⟩) 3 [5, 6, 7] := by
          have h5 := sg3.drop (p := N) (by omega)
          rw [HDR.out, Nat.zero_add, Nat.add_sub_cancel_left] at h5; exact h5
        have sn5 : Sl y6 (some ⟨y5.heap.size, 0, none⟩) 3 [5, 6, 7] := Own.sl (show Own y6 y5.heap.size [5, 6, 7] from V6) limbs_567
        clear b6 hs6 V6 sg3 HB6
        refine (same_b (some ⟨gg, N, none⟩) (some ⟨y5.heap.size, 0, none⟩) 3 (cg - N) 3 [5, 6, 7] y6 st5 sn5 (by omega)).mono ?_
        rintro e y7 ⟨rfl, b7⟩
        replace bk3 := bk3.kept b7
        replace h2 := Nt.after b7 h2
        replace Vn := Va.after b7 Vn
        have HB8 : Hid (Below x1.heap.size x1 y7) := HB7.out.trans (b7.mono HB7.out.size)
        clear b7 HB7 st5 sn5
        go_wp2_with fail
        refine (small_any xx hx y7).mono ?_
        rintro e y8 ⟨as1, ls, ks, zs1, rfl, hs1, ns1, b8⟩
        go_wp2_with fail
        refine (rsmall_any xx hx y8).mono ?_
        rintro e y9 ⟨a9, m9, c9, z9, rfl, k9, l9, s9, u9, n9, b9⟩
        replace hs1 := Nt.after b9 hs1
        go_wp2_with fail
        refine (is_ok as1 a9 ls ks m9 c9 zs1 z9 y9 hs1 s9 u9 (by rw [n9, ns1])).mono ?_
        rintro e y10 ⟨rfl, b10⟩
        replace bk3 := ((bk3.kept b8).kept b9).kept b10
        replace h2 := Nt.after b10 (Nt.after b9 (Nt.after b8 h2))
        replace Vn := Va.after b10 (Va.after b9 (Va.after b8 Vn))
        have HB9 : Hid (Below x1.heap.size x1 y10) := by
          have q5 := HB8.out.trans (b8.mono HB8.out.size)
          have q6 := q5.trans (b9.mono q5.size)
          exact q6.trans (b10.mono q6.size)
        clear b8 b9 b10 HB8 hs1 ns1 s9 u9 n9 k9 l9
        go_wp2_with fail
        refine (rtrim_new a0 len0 cap0 z0 y10 (HS0.out.below HB9.out (Nat.le_refl _)) e0 (by omega) c0).mono ?_
        rintro e y11 ⟨at1, ct, rfl, st1, hct, hnt, hnew, b11⟩
        have hg10 := bk3.lt
        have g2lt : 0 < l2 → g2 < y10.heap.size := fun h0 => h2.1.lt h0 (p := ⟨g2, 0, none⟩) rfl
        replace bk3 := bk3.kept b11
        replace h2 := Nt.after b11 h2
        replace Vn := Va.after b11 Vn
        have HBA : Hid (Below x1.heap.size x1 y11) := HB9.out.trans (b11.mono HB9.out.size)
        have hut := usedN_take z0 (Nat.le_refl _)
        have hnt2 := num_take_used z0 (Nat.le_refl _)
        obtain ⟨W, hW⟩ : ∃ W, z0.take (usedN z0) = W := ⟨_, rfl⟩
        obtain ⟨m, hm⟩ : ∃ m, usedN z0 = m := ⟨_, rfl⟩
        rw [hm] at hct hnt hnew hut u0 hW HUC
        rw [hm, hW] at st1
        rw [hm, hW] at hnt2
        rw [hW] at hut
        rw [hm]
        have HUW : Hid (usedN W = m) := hut
        have HNW : Hid (num W = num z0) := hnt2
        clear b11 HB9 hW hut hnt2 hm
        go_wp2_with fail
        refine (rlong_no at1 m ct W y11 st1 (by omega) (by rw [HUW.out]; exact u0)).mono ?_
        rintro e y12 ⟨rfl, b12⟩
        replace st1 := st1.below b12 (Nat.le_refl _)
        replace bk3 := bk3.kept b12
        replace h2 := Nt.after b12 h2
        replace Vn := Va.after b12 Vn
        have HBB : Hid (Below x1.heap.size x1 y12) := HBA.out.trans (b12.mono HBA.out.size)
        have hne1 : y3.heap.size ≠ gg := by omega
        have HST : Hid (Sx gg y12 at1 m W) := ⟨st1, fun h0 p hp => by have := hnew h0 p hp; omega⟩
        have HNT : Hid (Nt y12 (some ⟨g2, 0, none⟩) l2 k2 zs2) := h2
        have HVN : Hid (Va y12 y3.heap.size 27 #[.slice (some ⟨g2, 0, none⟩) l2 k2]) := Vn
        have HBK : Hid (Blk y12 gg (N + 3)) := bk3
        have HN2 : Hid (num zs2 = num z0) := by show _ = _; rw [hn2, HNC.out]
        have hgx : x1.heap.size ≤ gg := hgg
        have hg2g : g2 ≠ gg := by omega
        clear b12 HBA st1 bk3 h2 Vn hn2 hnew hg10 g2lt
        go_wp2_with fail
        have HNIL : Hid (at1 = none → m = 0 ∧ ct = 0) := hnt
        clear hnt
        go_loopw [14] (fun ii wr => ∃ (j : Nat), j ≤ N + 3 ∧ ii = .int .i64 j ∧ Hid (Blk wr gg (N + 3)) ∧ Hid (Only gg y12 wr)) (fun ii _ => N + 3 - (intOf ii).toNat)
        case atStart => exact ⟨0, Nat.zero_le _, rfl, HBK, Only.refl _ _⟩
        case round =>
          obtain ⟨j, hj, rfl, hK, hON⟩ := hrel
          by_cases hlt : j < N + 3
          · obtain ⟨x, hcx⟩ := hK.out.cell hlt
            have hfx := hK.out.frozen j
            have jl : (j : Int) < N + 3 := by omega
            go_wp2_with fail
            go_roundw
            case rel => exact ⟨j + 1, by omega, by go_num, Blk.set hK.out j _, Only.set hON.out j _⟩
            case measure => simp [intOf]; omega
          · have jl : ¬ (j : Int) < N + 3 := by omega
            have hA := HNT.out.only hON.out (fun h0 p hp => by cases hp; exact hg2g)
            have hS := (HST.out.only hON.out).1
            have T := HVN.out.only hON.out hne1
            have HBC : Below w.heap.size w wr := HB1.out.trans ((HBB.out.trans (hON.out.below hgx)).mono HB1.out.size)
            obtain ⟨e5, e6⟩ := hA.same hS HUW.out (by rw [HNW.out, HN2.out])
            subst e5 e6
            obtain ⟨bb, hbb⟩ : ∃ b, bitsN W = b := ⟨_, rfl⟩
            have HBW : Hid (bitsN W = bb) := hbb
            have W0 := hA.nonneg
            have cT := T.cell
            clear hbb hK hON hlt HNT HST HVN HBB HBK
            by_cases hbig : num W < 18446744073709551616
            · have m1 : m ≤ 1 := by have h5 := used_of_lt hA.limbs (n := 1) (by simpa [pw] using hbig); rw [HUW.out] at h5; exact h5
              have m2 : (m : Int) < 2 := by omega
              have m3 : ¬ (1 : Int) < m := by omega
              have HY : Hid (num W < 18446744073709551616 ∧ 0 ≤ num W) := ⟨hbig, W0⟩
              obtain ⟨y, hy⟩ : ∃ y, num W = y := ⟨_, rfl⟩
              have U := uint64_small (some ⟨g2, 0, none⟩) m k2 W wr hA hbig
              rw [hy] at U HY
              have HYW : Hid (num W = y) := hy
              clear hbig hy W0
              go_wp2_with fail
              refine U.mono ?_
              rintro e v1 ⟨rfl, q1⟩
              replace hA := Nt.after q1 hA
              replace hS := hS.below q1 (Nat.le_refl _)
              replace T := Va.after q1 T
              replace HBC := step HBC q1
              clear q1 U cT
              go_wp2_with fail
              refine (rsmall_any y ⟨HY.out.2, HY.out.1⟩ v1).mono ?_
              rintro e v2 ⟨a5, m5, c5, z5, rfl, k5, l5, s5, u5, n5, q2⟩
              obtain ⟨e7, e8⟩ := hA.same s5 u5 (by rw [n5, HYW.out])
              subst e7 e8
              replace hA := Nt.after q2 hA
              replace hS := hS.below q2 (Nat.le_refl _)
              replace T := Va.after q2 T
              replace HBC := step HBC q2
              clear q2 n5 l5
              go_wp2_with fail
              refine (same_b a5 at1 m5 c5 ct z5 v2 s5 hS (by omega)).mono ?_
              rintro e v3 ⟨rfl, q3'⟩
              replace hA := Nt.after q3' hA
              replace hS := hS.below q3' (Nat.le_refl _)
              replace T := Va.after q3' T
              replace HBC := step HBC q3'
              clear q3' s5
              have cT := T.cell
              go_wp2_with fail
              refine (is_ok (some ⟨g2, 0, none⟩) at1 m5 k2 m5 ct z5 z5 v3 hA hS HUW.out rfl).mono ?_
              rintro e t1 ⟨rfl, d1⟩
              replace hA := Nt.after d1 hA
              replace hS := hS.below d1 (Nat.le_refl _)
              replace T := Va.after d1 T
              replace HBC := step HBC d1
              clear cT
              have cT := T.cell
              clear d1
              go_wp2_with fail
              refine (nbits_any (some ⟨g2, 0, none⟩) m5 k2 z5 t1 hA).mono ?_
              rintro e t2 ⟨rfl, d2⟩
              rw [HBW.out]
              replace hA := Nt.after d2 hA
              replace hS := hS.below d2 (Nat.le_refl _)
              replace T := Va.after d2 T
              replace HBC := step HBC d2
              clear cT
              have cT := T.cell
              clear d2
              go_wp2_with fail
              refine (rbits_any at1 m5 ct z5 t2 hS HNIL.out (by omega) hct).mono ?_
              rintro e t3 ⟨rfl, d3⟩
              rw [HBW.out]
              replace hA := Nt.after d3 hA
              replace T := Va.after d3 T
              replace HBC := step HBC d3
              clear cT
              have cT := T.cell
              clear d3
              go_wp2_with fail
              refine (isZero_any (some ⟨g2, 0, none⟩) m5 k2 t3).mono ?_
              rintro e t4 ⟨rfl, d4⟩
              replace HBC := step HBC d4
              go_wp2_with fail
              go_ret
              exact ⟨rfl, HBC⟩
            · have m1 : 2 ≤ m := by
                rcases Nat.lt_or_ge m 2 with h' | h'
                · exfalso
                  have h5 := lt_of_used hA.limbs (n := 1) (by rw [HUW.out]; omega)
                  have h6 : pw 1 = 18446744073709551616 := by decide
                  omega
                · exact h'
              have m2 : ¬ (m : Int) < 2 := by omega
              have m3 : (1 : Int) < m := by omega
              have U := uint64_great (some ⟨g2, 0, none⟩) m k2 W wr hA (by omega)
              clear hbig W0
              go_wp2_with fail
              refine U.mono ?_
              rintro e v1 ⟨rfl, q1⟩
              replace hA := Nt.after q1 hA
              replace hS := hS.below q1 (Nat.le_refl _)
              replace T := Va.after q1 T
              replace HBC := step HBC q1
              clear q1 U cT
              have cT := T.cell
              go_wp2_with fail
              refine (is_ok (some ⟨g2, 0, none⟩) at1 m k2 m ct W W v1 hA hS HUW.out rfl).mono ?_
              rintro e t1 ⟨rfl, d1⟩
              replace hA := Nt.after d1 hA
              replace hS := hS.below d1 (Nat.le_refl _)
              replace T := Va.after d1 T
              replace HBC := step HBC d1
              clear cT
              have cT := T.cell
              clear d1
              go_wp2_with fail
              refine (nbits_any (some ⟨g2, 0, none⟩) m k2 W t1 hA).mono ?_
              rintro e t2 ⟨rfl, d2⟩
              rw [HBW.out]
              replace hA := Nt.after d2 hA
              replace hS := hS.below d2 (Nat.le_refl _)
              replace T := Va.after d2 T
              replace HBC := step HBC d2
              clear cT
              have cT := T.cell
              clear d2
              go_wp2_with fail
              refine (rbits_any at1 m ct W t2 hS HNIL.out (by omega) hct).mono ?_
              rintro e t3 ⟨rfl, d3⟩
              rw [HBW.out]
              replace hA := Nt.after d3 hA
              replace T := Va.after d3 T
              replace HBC := step HBC d3
              clear cT
              have cT := T.cell
              clear d3
              go_wp2_with fail
              refine (isZero_any (some ⟨g2, 0, none⟩) m k2 t3).mono ?_
              rintro e t4 ⟨rfl, d4⟩
              replace HBC := step HBC d4
              go_wp2_with fail
              go_ret
              exact ⟨rfl, HBC⟩
end Go.Proofs.Ytajjhnilpdmnhaa.natMakes
namespace Go.Proofs.Ytajjhnilpdmnhaa.natMakes
open Go.RowKit Go.Shelf
set_option linter.unusedVariables false

set_option maxRecDepth 40000 in
set_option maxHeartbeats 4000000 in
theorem walk_l (a0 : Option Addr) (len0 cap0 : Nat) (z0 : List Int) (xx t : Int) (w : World) (s0 : Sl w a0 len0 z0) (c0 : len0 ≤ cap0) (r0 : cap0 ≤ 17592186043904) (e0 : a0 = none → len0 = 0 ∧ cap0 = 0) (hx : Word xx) (ht : (Lit.int .i64 t).wf = true) (u0 : 4096 < usedN z0) :
    Calls Try.prog 3 #[.slice a0 len0 cap0, .int .u64 xx, .int .i64 t] w fun e w' => e = .returned (.bool true) ∧ Below w.heap.size w w' := by
  go_enter Try.func3, Try.ntmps3
  go_wp2_with fail
  refine (nawake_any w).mono ?_
  rintro e x1 ⟨rfl, b1⟩
  replace s0 := s0.below b1 (Nat.le_refl _)
  go_wp2_with fail
  refine (copied_any a0 len0 cap0 z0 x1 s0 e0 (by omega)).mono ?_
  rintro e x2 ⟨v, rfl, hG0, b2⟩
  have HS0 : Hid (Sl x1 a0 len0 z0) := s0
  have HB1 : Hid (Below w.heap.size w x1) := b1
  have hz0 := s0.1
  have L0 := s0.2.1
  clear s0 b1
  go_wp2_with fail
  go_loopw [7, 8] (fun mv ii wr => ∃ (k : Nat), ii = .int .i64 k ∧ k ≤ 100 ∧ Hid (Gr wr x1.heap.size mv (z0 ++ List.replicate k 0)) ∧ Hid (Below x1.heap.size x1 wr)) (fun _ ii _ => 100 - (intOf ii).toNat)
  case atStart => exact ⟨0, rfl, by omega, by rw [List.replicate_zero, List.append_nil]; exact hG0, b2⟩
  case round =>
    clear hG0 b2
    obtain ⟨k, rfl, hk, hG, hB⟩ := hrel
    have hsz := hB.out.size
    by_cases hgo : (k : Int) < t ∧ k < 100
    · obtain ⟨g1, g2⟩ := hgo
      have g2' : (k : Int) < 100 := by omega
      have HSZ : Hid (x1.heap.size ≤ (wr.alloc (.cells (row [0]).toArray 23)).heap.size) := by show _ ≤ _; simp; omega
      have hcl : (z0 ++ List.replicate k 0).length + 1 ≤ 17592186044416 := by simp; omega
      go_wp2_with (at_builtin; refine wpList_app rfl (.tmp 30) (.tmp 31) rfl x1.heap.size u7 (z0 ++ List.replicate k 0) rfl (hG.out.alloc _) wr.heap.size 1 1 [0] rfl rfl (heap_alloc_new _ _) hcl HSZ.out ?_; intro v1 w1 hG1 hb1)
      have hb2 : Below x1.heap.size x1 w1 := (hB.out.alloc hsz _).trans hb1
      have HG2 : Hid (Gr w1 x1.heap.size v1 (z0 ++ List.replicate (k + 1) 0)) := by
        have h5 := hG1.out
        rw [List.append_assoc, ← List.replicate_succ'] at h5
        exact h5
      clear hG1 hb1
      go_wp2_with fail
      go_roundw
      case rel => exact ⟨k + 1, by go_num, by omega, HG2, hb2⟩
      case measure => simp [intOf]; omega
    · have LC : Limbs (z0 ++ List.replicate k 0) := L0.append (Limbs.zeros _)
      have hN : (z0 ++ List.replicate k 0).length = len0 + k := by simp; omega
      have HNC : Hid (num (z0 ++ List.replicate k 0) = num z0) := num_noughts z0 k
      obtain ⟨cs, hcs⟩ : ∃ cs, z0 ++ List.replicate k 0 = cs := ⟨_, rfl⟩
      obtain ⟨N, hNN⟩ : ∃ N, len0 + k = N := ⟨_, rfl⟩
      rw [hcs] at hG LC hN HNC
      rw [hNN] at hN
      have HUC : Hid (usedN cs = usedN z0) := used_of_num LC L0 HNC.out
      obtain ⟨am, cm, gm, hv, hcm, sm, hgm, hnm, hblk⟩ := hG.out.parts LC
      rw [hN] at hv hcm sm hnm hblk
      have hNb : N ≤ 17592186044004 := by omega
      have hcase : ¬ (k : Int) < t ∨ ((k : Int) < t ∧ ¬ (k : Int) < 100) := by omega
      rw [hv] at hG ⊢
      have HGM : Hid (Gr wr x1.heap.size (.slice am N cm) cs) := hG
      have HOB : Hid (0 < N → am = some ⟨gm, 0, none⟩ ∧ gm < wr.heap.size) := fun h0 => ⟨(hblk h0).1, (hblk h0).2.lt⟩
      have HCL : Hid (cs.length = N) := hN
      clear hG hv hcs hblk hgo hNN hN
      rcases hcase with q | ⟨q, q'⟩
      all_goals
        go_wp2_with fail
        refine (copied_any am N cm cs wr sm hnm (by omega)).mono ?_
        rintro e y1 ⟨v2, rfl, hG2, b1⟩
        obtain ⟨aa, ca, ga, hv2, hca, sa, hga, hna, hblka⟩ := hG2.parts LC
        rw [HCL.out] at hv2 hca sa hna hblka
        rw [hv2]
        have HG1 : Hid (Gr y1 x1.heap.size (.slice am N cm) cs) := HGM.out.aft b1
        have hsz1 := b1.size
        have HSZ : Hid (x1.heap.size ≤ (y1.alloc (.cells (row [5, 6, 7]).toArray 23)).heap.size) := by show _ ≤ _; simp; omega
        have HSN : Hid (Sl (y1.alloc (.cells (row [5, 6, 7]).toArray 23)) (some ⟨y1.heap.size, 0, none⟩) 3 [5, 6, 7]) := sl_lit y1 [5, 6, 7] limbs_567
        have HB2 : Hid (Below x1.heap.size x1 y1) := hB.out.trans (b1.mono hsz)
        have HAB : Hid (0 < N → aa = some ⟨ga, 0, none⟩ ∧ ga < y1.heap.size ∧ wr.heap.size ≤ ga) := fun h0 => ⟨(hblka h0).1, (hblka h0).2.lt, hga⟩
        have hcl3 : cs.length + 3 ≤ 17592186044416 := by rw [HCL.out]; omega
        have LC3 : Limbs (cs ++ [5, 6, 7]) := LC.append limbs_567
        have H3 : Hid ((cs ++ [5, 6, 7]).length = N + 3) := by show _ = _; rw [List.length_append, HCL.out]; rfl
        have HTK : Hid ((cs ++ [5, 6, 7]).take N = cs) := List.take_left' HCL.out
        have HDR : Hid ((cs ++ [5, 6, 7]).drop N = [5, 6, 7]) := List.drop_left' HCL.out
        have HSA : Hid (Sl y1 aa N cs) := sa
        clear hG2 hv2 hblka HGM b1 sm hnm hcm sa hna
        go_wp2_with (at_builtin; refine wpList_appf rfl (.tmp 35) (.tmp 36) rfl x1.heap.size (.slice am N cm) cs rfl (HG1.out.alloc _) y1.heap.size 0 3 3 [5, 6, 7] rfl HSN.out hcl3 HSZ.out ?_; intro v3 y2 hG3 hb3 hfar; obtain ⟨ag, cg, gg, hv3, hcg, sg, hgg, hng, hblkg⟩ := hG3.out.parts LC3; rw [H3.out] at hv3 hcg sg hblkg; obtain ⟨rfl, hbk⟩ := hblkg (by omega); subst hv3; have q3 : (N : Int) ≤ cg := (by omega); have q4 : (N : Int) ≤ N + 3 := (by omega); have HBK : Hid (Blk y2 gg (N + 3)) := hbk; have HSG : Hid (Sl y2 (some ⟨gg, 0, none⟩) (N + 3) (cs ++ [5, 6, 7])) := sg; clear hblkg hng hG3 hbk sg)
        have HS2 : Hid (Sl y2 (some ⟨gg, 0, none⟩) N cs) := by
          have h5 := HSG.out.take (m := N) (by omega)
          rw [HTK.out] at h5; exact h5
        have HA2 : Hid (Sl y2 aa N cs) := by
          have h5 : Sl (y1.alloc (.cells (row [5, 6, 7]).toArray 23)) aa N cs := HSA.out.below ((Below.refl _ _).alloc (Nat.le_refl _) _) (Nat.le_refl _)
          refine h5.far (fun h0 p hp => ?_)
          obtain ⟨e1, e2, e3⟩ := HAB.out h0
          rw [e1] at hp
          cases hp
          obtain ⟨e4, e5⟩ := HOB.out h0
          refine hfar.out ga (by simp; omega) ?_
          rw [e4]
          intro e6
          have e7 : ga = gm := by simpa [Value.ownBlock] using e6
          omega
        have HB3 : Hid (Below x1.heap.size x1 y2) := (HB2.out.alloc (by omega) _).trans hb3
        clear hfar hb3 HSA HG1 HSN HSZ HAB HOB HB2
        refine (of_long (some ⟨gg, 0, none⟩) N cg cs y2 HS2.out (by omega) (by omega) (by rw [HUC.out]; exact u0)).mono ?_
        rintro e y3 ⟨rfl, b3⟩
        have sg3 := HSG.out.below b3 (Nat.le_refl _)
        have sa3 := HA2.out.below b3 (Nat.le_refl _)
        have hy3 := b3.size
        have HB4 : Hid (Below x1.heap.size x1 y3) := HB3.out.trans (b3.mono HB3.out.size)
        clear HS2 HSG HA2 HBK HB3 b3
        go_wp2_with fail
        refine ent1 y3 _ _ (Q := fun W => Calls Try.prog _ _ W _) ?_
        intro y4 b4 hs4 Vn
        replace sg3 := sg3.below b4 (Nat.le_refl _)
        replace sa3 := sa3.below b4 (Nat.le_refl _)
        have HB5 : Hid (Below x1.heap.size x1 y4) := HB4.out.trans (b4.mono HB4.out.size)
        have sh3 : Sl y4 (some ⟨gg, 0, none⟩) N cs := by
          have h5 := sg3.take (m := N) (by omega)
          rw [HTK.out] at h5; exact h5
        clear b4 HB4
        refine (same_b (some ⟨gg, 0, none⟩) aa N cg ca cs y4 sh3 sa3 (by omega)).mono ?_
        rintro e y5 ⟨rfl, b5⟩
        replace sg3 := sg3.below b5 (Nat.le_refl _)
        replace Vn := Va.after b5 Vn
        have HB6 : Hid (Below x1.heap.size x1 y5) := HB5.out.trans (b5.mono HB5.out.size)
        clear b5 HB5 sh3 sa3
        go_wp2_with fail
        refine ent1 y5 _ _ (Q := fun W => Calls Try.prog _ _ W _) ?_
        intro y6 b6 hs6 V6
        replace sg3 := sg3.below b6 (Nat.le_refl _)
        replace Vn := Va.after b6 Vn
        have HB7 : Hid (Below x1.heap.size x1 y6) := HB6.out.trans (b6.mono HB6.out.size)
        have st5 : Sl y6 (some ⟨gg, N, none⟩) 3 [5, 6, 7] := by
          have h5 := sg3.drop (p := N) (by omega)
          rw [HDR.out, Nat.zero_add, Nat.add_sub_cancel_left] at h5; exact h5
        have sn5 : Sl y6 (some ⟨y5.heap.size, 0, none⟩) 3 [5, 6, 7] := Own.sl (show Own y6 y5.heap.size [5, 6, 7] from V6) limbs_567
        clear b6 hs6 V6 sg3 HB6
        refine (same_b (some ⟨gg, N, none⟩) (some ⟨y5.heap.size, 0, none⟩) 3 (cg - N) 3 [5, 6, 7] y6 st5 sn5 (by omega)).mono ?_
        rintro e y7 ⟨rfl, b7⟩
        replace Vn := Va.after b7 Vn
        have HB8 : Hid (Below x1.heap.size x1 y7) := HB7.out.trans (b7.mono HB7.out.size)
        clear b7 HB7 st5 sn5
        go_wp2_with fail
        refine (small_any xx hx y7).mono ?_
        rintro e y8 ⟨as1, ls, ks, zs1, rfl, hs1, ns1, b8⟩
        go_wp2_with fail
        refine (rsmall_any xx hx y8).mono ?_
        rintro e y9 ⟨a9, m9, c9, z9, rfl, k9, l9, s9, u9, n9, b9⟩
        replace hs1 := Nt.after b9 hs1
        go_wp2_with fail
        refine (is_ok as1 a9 ls ks m9 c9 zs1 z9 y9 hs1 s9 u9 (by rw [n9, ns1])).mono ?_
        rintro e y10 ⟨rfl, b10⟩
        replace Vn := Va.after b10 (Va.after b9 (Va.after b8 Vn))
        have HB9 : Hid (Below x1.heap.size x1 y10) := by
          have q5 := HB8.out.trans (b8.mono HB8.out.size)
          have q6 := q5.trans (b9.mono q5.size)
          exact q6.trans (b10.mono q6.size)
        clear b8 b9 b10 HB8 hs1 ns1 s9 u9 n9 k9 l9
        go_wp2_with fail
        refine (rtrim_new a0 len0 cap0 z0 y10 (HS0.out.below HB9.out (Nat.le_refl _)) e0 (by omega) c0).mono ?_
        rintro e y11 ⟨at1, ct, rfl, st1, hct, hnt, hnew, b11⟩
        replace Vn := Va.after b11 Vn
        have HBA : Hid (Below x1.heap.size x1 y11) := HB9.out.trans (b11.mono HB9.out.size)
        have hut := usedN_take z0 (Nat.le_refl _)
        have hnt2 := num_take_used z0 (Nat.le_refl _)
        have hum := usedN_le z0
        obtain ⟨W, hW⟩ : ∃ W, z0.take (usedN z0) = W := ⟨_, rfl⟩
        obtain ⟨m, hm⟩ : ∃ m, usedN z0 = m := ⟨_, rfl⟩
        rw [hm] at hct hnt hnew hut u0 hW HUC hum
        rw [hm, hW] at st1
        rw [hm, hW] at hnt2
        rw [hW] at hut
        rw [hm]
        have HUW : Hid (usedN W = m) := hut
        have HNW : Hid (num W = num z0) := hnt2
        clear b11 HB9 hW hut hnt2 hm
        go_wp2_with fail
        refine (rlong_yes at1 m ct W y11 st1 (by omega) (by rw [HUW.out]; exact u0)).mono ?_
        rintro e y12 ⟨rfl, b12⟩
        replace Vn := Va.after b12 Vn
        have HBB : Hid (Below x1.heap.size x1 y12) := HBA.out.trans (b12.mono HBA.out.size)
        have cT := Vn.cell
        clear b12 HBA st1
        go_wp2_with fail
        refine (is_nil 0 0 none none y12).mono ?_
        rintro e y13 ⟨rfl, b13⟩
        have HBC : Below w.heap.size w y13 := HB1.out.trans ((HBB.out.trans (b13.mono HBB.out.size)).mono HB1.out.size)
        go_wp2_with fail
        go_ret
        exact ⟨rfl, HBC⟩
theorem walk (a0 : Option Addr) (len0 cap0 : Nat) (z0 : List Int) (xx t : Int) (w : World) (s0 : Sl w a0 len0 z0) (c0 : len0 ≤ cap0) (r0 : cap0 ≤ 17592186043904) (e0 : a0 = none → len0 = 0 ∧ cap0 = 0) (hx : Word xx) (ht : (Lit.int .i64 t).wf = true) :
    Calls Try.prog 3 #[.slice a0 len0 cap0, .int .u64 xx, .int .i64 t] w fun e w' => e = .returned (.bool true) ∧ Below w.heap.size w w' := by
  rcases Nat.lt_or_ge 4096 (usedN z0) with h | h
  · exact walk_l a0 len0 cap0 z0 xx t w s0 c0 r0 e0 hx ht h
  · exact walk_k a0 len0 cap0 z0 xx t w s0 c0 r0 e0 hx ht h
end Go.Proofs.Ytajjhnilpdmnhaa.natMakes
namespace Go.Proofs.Ytajjhnilpdmnhaa.natMakes
open Go.ChangeShapes Go.WideShapes Go.ChangeAt Go.RowKit
set_option linter.unusedVariables false

theorem own : ownKnob Try.prog.godebug = none := by kernel_rfl
theorem laidOut : laidOutB Try.prog = true := by kernel_rfl
theorem bytes8 : Try.prog.bytesOf 23 = 8 := by kernel_rfl

set_option maxRecDepth 100000 in
theorem contract (H : Type) (enc : TypeId × Value → H) (W : World) (base : Nat) (args : Array Value) (ds gs : List (DataW H)) (before : List MemPlace)
    (hval : ∀ (j : Nat) t v, Try.f3.params[j]? = some t → args[j]? = some v → Value.okWide Try.prog W .any base t v)
    (hW : DataW.Whole enc Try.prog Try.f3.params.toList Rows.natMakesSpec.vars false W args.toList ds gs before) (hsz : (DataW.weightsEach Try.prog (Try.f3.params.toList ++ Rows.natMakesSpec.plain.varTypes Try.prog) (ds ++ gs)).all (· ≤ reachBytes) = true) :
    Calls Try.prog 3 args W fun e W' => ∃ v, e = .returned v ∧ Rows.natMakesSpec.post enc Try.prog Try.f3 false true false false W args v W' := by
  have hW' := hW
  obtain ⟨p, q, hA0, hV, rfl, hfz, hnd⟩ := hW
  have hA : DataW.TrodAll enc Try.prog W 0 (fun _ => true) true Try.f3.params.toList args.toList ds p := hA0
  rw [Try.params3] at hA hval hsz
  obtain ⟨v0, vs0, d0, ds0, p0, q0, hargs, rfl, rfl, h0, r0⟩ := trodAll_cons hA
  obtain ⟨v1, vs1, d1, ds1, p1, q1, rfl, rfl, rfl, h1, r1⟩ := trodAll_cons r0
  obtain ⟨v2, vs2, d2, ds2, p2, q2, rfl, rfl, rfl, h2, r2⟩ := trodAll_cons r1
  obtain ⟨rfl, rfl, rfl⟩ := trodAll_nil r2
  obtain rfl : args = #[v0, v1, v2] := by cases args; simp_all
  obtain ⟨rfl, rfl⟩ := trodVars_none hV
  obtain ⟨a0, len0, cap0, rfl⟩ := okWide_slice Try.underlying22 (hval 0 22 v0 rfl rfl)
  have k0 := h0
  have lt0 : ∀ x ∈ p0, x.block < W.heap.size := by obtain ⟨m, hm⟩ := k0; exact DataW.trod_lt m _ _ _ hm
  obtain ⟨z0, s0, c0, b0, e0⟩ : ∃ zs, Sl W a0 len0 zs ∧ len0 ≤ cap0 ∧ cap0 ≤ 17592186043904 ∧ (a0 = Option.none → len0 = 0 ∧ cap0 = 0) := by
    obtain ⟨fuel, hf⟩ := h0
    rcases open_ints Try.underlying22 Try.underlying23 (by kernel_rfl) hf with ⟨hcs, _⟩ | ⟨x, l, c, zs, hcs, _, hl, hm, hz, hx, hcell, hwz⟩
    · simp [Value.cells] at hcs
      obtain ⟨rfl, rfl, rfl⟩ := hcs
      exact ⟨[], ⟨rfl, Limbs.nil, fun h => absurd h (by decide)⟩, Nat.le_refl _, by decide, fun _ => ⟨rfl, rfl⟩⟩
    · simp [Value.cells] at hcs
      obtain ⟨rfl, rfl, rfl⟩ := hcs
      have hz' : zs.length = cap0 := by simpa using hz
      have hd : d0 = DataW.slice (lits .u64 (zs.take len0)) (lits .u64 (zs.drop len0)) := congrArg Prod.fst hx
      have hs := sized_slice hsz (j := 0) (t := 22) (e := 23) rfl (by rw [hd]; rfl) Try.underlying22
      rw [bytes8] at hs
      have hcap : cap0 ≤ 17592186043904 := by
        simp only [lits, List.length_map, List.length_take, List.length_drop, reachBytes] at hs
        omega
      refine ⟨zs.take len0, ⟨by rw [List.length_take]; omega, fun z hz2 => word_of_wf (hwz z (List.mem_of_mem_take hz2)), fun h => ?_⟩, hl, hcap, fun h => by cases h⟩
      obtain ⟨bb, off, rfl, hc⟩ := ints_at hcell (by omega)
      refine ⟨bb, off, rfl, fun j hj => ?_⟩
      rw [hc j (by omega), List.getD_eq_getElem?_getD, List.getD_eq_getElem?_getD, List.getElem?_take_of_lt hj]
  obtain ⟨a1, rfl, rfl, rfl, w1⟩ := open_int Try.underlying23 (hval 1 23 v1 rfl rfl) h1
  obtain ⟨a2, rfl, rfl, rfl, w2⟩ := open_int Try.underlying3 (hval 2 3 v2 rfl rfl) h2
  clear hA0
  refine (walk a0 len0 cap0 z0 a1 a2 W s0 c0 b0 e0 (word_of_wf w1) w2).mono fun e W' ⟨he, bel⟩ => ?_
  subst he
  exact ⟨_, rfl, _, _, _, [], _, [], hW', trodAll_mk1 (shut_bool Try.underlying4 _), (trodAll_cons_mk (Below.trod laidOut (by kernel_rfl) (of_decide_eq_true (by kernel_rfl)) k0 bel lt0) (trodAll_cons_mk (shut_int Try.underlying23 w1) (trodAll_cons_mk (shut_int Try.underlying3 w2) trodAll_mk0))), rfl, bel.frame _, fun h => by cases h⟩

set_option maxRecDepth 100000 in
theorem lifted (os : Os) (started : os.Started) (H : Type) (enc : TypeId × Value → H) :
    ReturnsInHanded {} Try.checked os 3 .any (Rows.natMakesSpec.pre6 enc Try.prog Try.f3 Rows.natMakesRow.domain false) (Rows.natMakesSpec.post enc Try.prog Try.f3 false true false false) := by
  refine returnsInHanded_of_change_sized (C := Try.checked) own started (by kernel_rfl) Try.func3
    (ChangeSpec.witness6 (enc := enc) (C := Try.checked) false ⟨#[], #[.slice none 0 0, .int .u64 0, .int .i64 0], []⟩ 8 (by kernel_rfl) (by kernel_rfl) (by kernel_rfl) (by kernel_rfl)) ?_
  intro W base args ds gs before hval0 hW _ hsz0 _
  exact contract H enc W base args ds gs before hval0 hW hsz0

theorem over : Rows.natMakesRow.holds Try.pinned (OpenSpec.ofChange Rows.natMakesSpec) :=
  OpenClaim.holds_of_wide 3 Try.f3 rfl rfl rfl rfl rfl rfl rfl ⟨rfl, rfl, rfl, rfl, rfl⟩ rfl rfl rfl rfl rfl (by kernel_rfl) Try.func3 (by kernel_rfl)
    (of_decide_eq_true (by kernel_rfl)) (by unfold Func.isWrapper; first | (rw [if_pos (by decide +kernel)]; kernel_rfl) | (rw [if_neg (by decide +kernel)]; exact ⟨rfl, rfl⟩))
    (fun os started H enc _ => lifted os started H enc)
end Go.Proofs.Ytajjhnilpdmnhaa.natMakes
namespace Go.Proofs.Ytajjhnilpdmnhaa
theorem natMakes_holds : Rows.NatMakesSaid := natMakes.over
#print axioms natMakes_holds
end Go.Proofs.Ytajjhnilpdmnhaa
