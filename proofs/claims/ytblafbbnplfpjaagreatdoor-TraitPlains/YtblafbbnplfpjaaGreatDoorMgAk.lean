/-
  Put together of: NRef7, NRef8, NRef9, NRef10, NRef11, NRef12.
-/
import Derived.Test.YtblafbbnplfpjaaGreatDoorMgAj
import Derived.Test.YtblafbbnplfpjaaGreatDoorMgAd
import Derived.Test.YtblafbbnplfpjaaGreatDoorMgAb
import Derived.Test.YtblafbbnplfpjaaGreatDoorMgAe
namespace Go.Proofs.YtblafbbnplfpjaaGreatDoor
open Go.RowKit Go.Shelf

end Go.Proofs.YtblafbbnplfpjaaGreatDoor

namespace Go.Proofs.YtblafbbnplfpjaaGreatDoor
open Go.RowKit Go.Shelf

/-- Block g alone of the old ones may have turned. -/
structure Near (g : Nat) (w w' : World) : Prop where
  bel : Below g w w'
  oth : ∀ k, k < w.heap.size → k ≠ g → w'.heap[k]? = w.heap[k]?
theorem Near.refl (g : Nat) (w : World) : Near g w w := ⟨Below.refl _ _, fun _ _ _ => rfl⟩
theorem Near.trans {g : Nat} {a b c : World} (h : Near g a b) (k : Near g b c) : Near g a c :=
  ⟨h.bel.trans k.bel, fun i hi hg => (k.oth i (Nat.lt_of_lt_of_le hi h.bel.size) hg).trans (h.oth i hi hg)⟩
theorem Near.of {g : Nat} {w w' : World} (b : Below w.heap.size w w') (hg : g ≤ w.heap.size) : Near g w w' := ⟨b.mono hg, fun k hk _ => b.block k hk⟩
theorem Near.set {g : Nat} {a w : World} (h : Near g a w) (i : Nat) (v : Value) : Near g a (w.setCell ⟨g, i, none⟩ v) :=
  ⟨h.bel.setCell (p := ⟨g, i, none⟩) (Nat.le_refl _) v, fun k hk hg => (Below.heap_setCell _ _ _ _ hg).trans (h.oth k hk hg)⟩
theorem Near.drewN {g : Nat} {a w : World} (h : Near g a w) (n : Nat) : Near g a (w.drewN n) := ⟨below_drewN h.bel n, h.oth⟩
namespace H
end H
end Go.Proofs.YtblafbbnplfpjaaGreatDoor

namespace Go.Proofs.YtblafbbnplfpjaaGreatDoor
open Go.RowKit Go.Shelf

theorem Own.far {w : World} {g b : Nat} {cs : List Int} (h : Own w b cs) (hne : b ≠ g) (i : Nat) (v : Value) : Own (w.setCell ⟨g, i, none⟩ v) b cs := by
  unfold Own at *
  rw [Below.heap_setCell _ _ _ _ hne]; exact h

end Go.Proofs.YtblafbbnplfpjaaGreatDoor

namespace Go.Proofs.YtblafbbnplfpjaaGreatDoor
open Go.RowKit Go.Shelf

end Go.Proofs.YtblafbbnplfpjaaGreatDoor

namespace Go.Proofs.YtblafbbnplfpjaaGreatDoor
open Go.RowKit Go.Shelf
set_option linter.unusedVariables false

theorem Own.sx {w : World} {b g n : Nat} {cs : List Int} (h : Own w b cs) (hL : H.Limbs cs) (hl : cs.length = n) (hne : b ≠ g) : Sx g w (some ⟨b, 0, none⟩) n cs :=
  ⟨by rw [← hl]; exact h.sl hL.up, fun _ p hp => by cases hp; exact hne⟩

end Go.Proofs.YtblafbbnplfpjaaGreatDoor

namespace Go.Proofs.YtblafbbnplfpjaaGreatDoor
open Go.RowKit Go.Shelf
set_option linter.unusedVariables false

end Go.Proofs.YtblafbbnplfpjaaGreatDoor
namespace Go.Proofs.YtblafbbnplfpjaaGreatDoor
open Go.RowKit Go.Shelf

def readNum (w : World) (b : Nat) : Nat → Nat → Int
  | _, 0 => 0
  | o, n + 1 => (match w.cell? ⟨b, o, none⟩ with | some (.int _ z) => z | _ => 0) + 18446744073709551616 * readNum w b (o + 1) n
def varNum (w : World) (b : Nat) : Nat :=
  match w.cell? ⟨b, 0, none⟩ with
  | some (.slice (some p) len _) => (readNum w p.block p.off len).toNat
  | _ => 0
theorem readNum_eq (w : World) (b : Nat) : ∀ (zs : List Int) (o : Nat), (∀ i, i < zs.length → w.cell? ⟨b, o + i, none⟩ = some (.int .u64 (zs.getD i 0))) → readNum w b o zs.length = num zs
  | [], _, _ => rfl
  | z :: r, o, h => by
    have h0 := h 0 (by simp)
    have hr := readNum_eq w b r (o + 1) (fun i hi => by
      have := h (i + 1) (by simpa using hi)
      rw [show o + 1 + i = o + (i + 1) by omega, this]; simp)
    simp only [Nat.add_zero, List.getD_cons_zero] at h0
    simp only [List.length_cons, readNum, h0, hr, num]
theorem varNum_eq {w : World} {v : Nat} {t : TypeId} {a : Option Addr} {len cap : Nat} {zs : List Int} (V : Va w v t #[.slice a len cap]) (h : Nt w a len cap zs) : varNum w v = (num zs).toNat := by
  have hz := h.1.1
  unfold varNum
  rw [V.cell]
  cases a with
  | none =>
    simp only
    rcases Nat.eq_zero_or_pos len with h0 | h0
    · have : zs = [] := List.eq_nil_of_length_eq_zero (by omega)
      rw [this]; rfl
    · obtain ⟨b, off, e, -⟩ := h.1.2.2 h0
      cases e
  | some p =>
    simp only
    rcases Nat.eq_zero_or_pos len with h0 | h0
    · have : zs = [] := List.eq_nil_of_length_eq_zero (by omega)
      rw [this, h0]; rfl
    · obtain ⟨b, off, e, hc⟩ := h.1.2.2 h0
      cases e
      have := readNum_eq w b zs off (fun i hi => hc i (by omega))
      rw [hz] at this
      rw [this]
end Go.Proofs.YtblafbbnplfpjaaGreatDoor

namespace Go.Proofs.YtblafbbnplfpjaaGreatDoor

/-- A side: 1, or -1 where it is odd. -/
def sg (o : Bool) : Int := if o then -1 else 1
theorem sg_not (o : Bool) : sg (!o) = -sg o := by cases o <;> rfl

/-- Two neighbours of Euclid's row of the highest bits, the second and the third that are kept; o: whether the second is odd. -/
structure EInv (x0 y0 x y u1 v1 u2 v2 : Int) (o : Bool) : Prop where
  ex : x = sg o * (u1 * x0 - v1 * y0)
  ey : y = -(sg o * (u2 * x0 - v2 * y0))
  det : u1 * v2 - u2 * v1 = sg o
  y0 : 0 ≤ y
  yx : y ≤ x
  nu1 : 0 ≤ u1
  nv1 : 0 ≤ v1
  nu2 : 0 ≤ u2
  pv2 : 1 ≤ v2
  uv2 : u2 ≤ v2
  top : v2 * x + v1 * y = x0
  way : (u1 = 1 ∧ v1 = 0 ∧ u2 = 0 ∧ v2 = 1) ∨ (u1 ≤ v1 ∧ 1 ≤ u2 ∧ 1 ≤ v1)

theorem EInv.start {x0 y0 : Int} (h0 : 0 ≤ y0) (h1 : y0 ≤ x0) : EInv x0 y0 x0 y0 1 0 0 1 false :=
  ⟨by simp [sg], by simp [sg], by simp [sg], h0, h1, by omega, by omega, by omega, by omega, by omega, by omega, .inl ⟨rfl, rfl, rfl, rfl⟩⟩
theorem EInv.step {x0 y0 x y u1 v1 u2 v2 : Int} {o : Bool} (I : EInv x0 y0 x y u1 v1 u2 v2 o) (hy : 1 ≤ y) :
    EInv x0 y0 y (x % y) u2 v2 (u1 + x / y * u2) (v1 + x / y * v2) (!o) := by
  obtain ⟨ex, ey, det, h0, yx, nu1, nv1, nu2, pv2, uv2, top, way⟩ := I
  have hm := Int.mul_ediv_add_emod x y
  have hr0 := Int.emod_nonneg x (show y ≠ 0 by omega)
  have hr1 := Int.emod_lt_of_pos x (show 0 < y by omega)
  have hq : 1 ≤ x / y := by
    rcases Int.lt_or_le (x / y) 1 with h | h
    · have : y * (x / y) ≤ y * 0 := Int.mul_le_mul_of_nonneg_left (by omega) h0
      omega
    · exact h
  generalize x / y = q at *
  generalize x % y = r at *
  have a1 : 0 ≤ q * u2 := Int.mul_nonneg (by omega) nu2
  have a2 : 1 * 1 ≤ q * v2 := Int.mul_le_mul hq pv2 (by decide) (by omega)
  have a3 : q * u2 ≤ q * v2 := Int.mul_le_mul_of_nonneg_left uv2 (by omega)
  have a4 : 1 * u2 ≤ q * u2 := Int.mul_le_mul_of_nonneg_right hq nu2
  refine ⟨?_, ?_, ?_, hr0, by omega, nu2, by omega, by omega, by omega, ?_, ?_, ?_⟩
  · rw [sg_not]; grind
  · rw [sg_not]; grind
  · rw [sg_not]; grind
  · rcases way with ⟨rfl, rfl, rfl, rfl⟩ | ⟨w1, w2, w3⟩
    · omega
    · omega
  · grind
  · rcases way with ⟨rfl, rfl, rfl, rfl⟩ | ⟨w1, w2, w3⟩
    · right; exact ⟨by omega, by omega, by omega⟩
    · right; exact ⟨by omega, by omega, by omega⟩
/-- Nothing runs over. -/
theorem EInv.fits {x0 y0 x y u1 v1 u2 v2 : Int} {o : Bool} (I : EInv x0 y0 x y u1 v1 u2 v2 o) (hy : 1 ≤ y) : v1 + v2 ≤ x0 ∧ v1 + x / y * v2 ≤ x0 := by
  obtain ⟨ex, ey, det, h0, yx, nu1, nv1, nu2, pv2, uv2, top, way⟩ := I
  have a1 : v2 * 1 ≤ v2 * x := Int.mul_le_mul_of_nonneg_left (by omega) (by omega)
  have a2 : v1 * 1 ≤ v1 * y := Int.mul_le_mul_of_nonneg_left hy nv1
  have hm := Int.mul_ediv_add_emod x y
  have hr0 := Int.emod_nonneg x (show y ≠ 0 by omega)
  have a3 : v2 * (y * (x / y)) ≤ v2 * x := Int.mul_le_mul_of_nonneg_left (by omega) (by omega)
  have hq : 0 ≤ x / y := Int.ediv_nonneg (by omega) h0
  have a4 : 1 * (x / y * v2) ≤ y * (x / y * v2) := Int.mul_le_mul_of_nonneg_right hy (Int.mul_nonneg hq (by omega))
  have a5 : y * (x / y * v2) = v2 * (y * (x / y)) := by grind
  exact ⟨by omega, by omega⟩

/-- The last two that are sure. -/
structure Sure (x0 y0 u0 v0 u1 v1 : Int) (o : Bool) : Prop where
  det : u0 * v1 - u1 * v0 = -sg o
  n0 : 0 ≤ u0
  m0 : 0 ≤ v0
  n1 : 0 ≤ u1
  m1 : 1 ≤ v1
  uv1 : u1 ≤ v1
  way : v0 = 0 ∨ (u0 ≤ v0 ∧ 1 ≤ u1)
  low : v1 ≤ sg o * (u1 * x0 - v1 * y0)
  gap : v0 + v1 ≤ -(sg o * (u0 * x0 - v0 * y0)) - sg o * (u1 * x0 - v1 * y0)

theorem EInv.sure {x0 y0 x y u1 v1 u2 v2 : Int} {o : Bool} (I : EInv x0 y0 x y u1 v1 u2 v2 o) (h1 : v2 ≤ y) (h2 : v1 + v2 ≤ x - y) : Sure x0 y0 u1 v1 u2 v2 (!o) := by
  obtain ⟨ex, ey, det, h0, yx, nu1, nv1, nu2, pv2, uv2, top, way⟩ := I
  refine ⟨by rw [sg_not]; omega, nu1, nv1, nu2, pv2, uv2, ?_, ?_, ?_⟩
  · rcases way with ⟨rfl, rfl, rfl, rfl⟩ | ⟨w1, w2, w3⟩
    · exact .inl rfl
    · exact .inr ⟨w1, w2⟩
  · rw [sg_not]; grind
  · rw [sg_not]; grind

/-- The long numbers at the sure members: neighbours of Euclid's row, later than both. -/
theorem Sure.later {x0 y0 u0 v0 u1 v1 : Int} {o : Bool} (S : Sure x0 y0 u0 v0 u1 v1 o) (hv : v0 ≠ 0) {A B P A1 B1 : Int} (hA : A = x0 * P + A1) (hB : B = y0 * P + B1) (hP : 0 < P) (a0 : 0 ≤ A1) (a1 : A1 < P) (b0 : 0 ≤ B1) (b1 : B1 < P)
    {a b : Int} (ea : a = -(sg o * (u0 * A - v0 * B))) (eb : b = sg o * (u1 * A - v1 * B)) :
    0 ≤ b ∧ b < a ∧ a ≤ B ∧ A = v1 * a + v0 * b ∧ B = u1 * a + u0 * b := by
  obtain ⟨det, n0, m0, n1, m1, uv1, way, low, gap⟩ := S
  obtain ⟨uv0, pu1⟩ : u0 ≤ v0 ∧ 1 ≤ u1 := by rcases way with h | h; exact absurd h hv; exact h
  have p1 : 0 ≤ u1 * A1 := Int.mul_nonneg n1 a0
  have p2 : 0 ≤ v1 * B1 := Int.mul_nonneg (by omega) b0
  have p3 : u1 * A1 ≤ v1 * (P - 1) := Int.le_trans (Int.mul_le_mul_of_nonneg_right uv1 a0) (Int.mul_le_mul_of_nonneg_left (by omega) (by omega))
  have p4 : v1 * B1 ≤ v1 * (P - 1) := Int.mul_le_mul_of_nonneg_left (by omega) (by omega)
  have q1 : 0 ≤ u0 * A1 := Int.mul_nonneg n0 a0
  have q2 : 0 ≤ v0 * B1 := Int.mul_nonneg m0 b0
  have q3 : u0 * A1 ≤ v0 * (P - 1) := Int.le_trans (Int.mul_le_mul_of_nonneg_right uv0 a0) (Int.mul_le_mul_of_nonneg_left (by omega) m0)
  have q4 : v0 * B1 ≤ v0 * (P - 1) := Int.mul_le_mul_of_nonneg_left (by omega) m0
  have lowP : v1 * P ≤ sg o * (u1 * x0 - v1 * y0) * P := Int.mul_le_mul_of_nonneg_right low (by omega)
  have gapP : (v0 + v1) * P ≤ (-(sg o * (u0 * x0 - v0 * y0)) - sg o * (u1 * x0 - v1 * y0)) * P := Int.mul_le_mul_of_nonneg_right gap (by omega)
  have hb0 : 0 ≤ b := by
    have e1 : b = sg o * (u1 * x0 - v1 * y0) * P + sg o * (u1 * A1 - v1 * B1) := by rw [eb, hA, hB]; grind
    have e2 : -(v1 * (P - 1)) ≤ sg o * (u1 * A1 - v1 * B1) := by
      cases o
      · simp only [sg, Bool.false_eq_true, if_false]; omega
      · simp only [sg, if_true]; omega
    have e3 : v1 * (P - 1) = v1 * P - v1 := by grind
    omega
  have hab : b < a := by
    have e1 : a - b = (-(sg o * (u0 * x0 - v0 * y0)) - sg o * (u1 * x0 - v1 * y0)) * P + (-(sg o * (u0 * A1 - v0 * B1)) - sg o * (u1 * A1 - v1 * B1)) := by rw [ea, eb, hA, hB]; grind
    have e2 : -((v0 + v1) * (P - 1)) ≤ -(sg o * (u0 * A1 - v0 * B1)) - sg o * (u1 * A1 - v1 * B1) := by
      have : (v0 + v1) * (P - 1) = v0 * (P - 1) + v1 * (P - 1) := by grind
      cases o
      · simp only [sg, Bool.false_eq_true, if_false]; omega
      · simp only [sg, if_true]; omega
    have e3 : (v0 + v1) * (P - 1) = (v0 + v1) * P - (v0 + v1) := by grind
    omega
  have hss : sg o * sg o = 1 := by cases o <;> rfl
  have eA : A = v1 * a + v0 * b := by
    have : v1 * a + v0 * b = -(sg o) * (u0 * v1 - u1 * v0) * A := by rw [ea, eb]; grind
    rw [this, det]; grind
  have eB : B = u1 * a + u0 * b := by
    have : u1 * a + u0 * b = -(sg o) * (u0 * v1 - u1 * v0) * B := by rw [ea, eb]; grind
    rw [this, det]; grind
  refine ⟨hb0, hab, ?_, eA, eB⟩
  have r1 : 1 * a ≤ u1 * a := Int.mul_le_mul_of_nonneg_right pu1 (by omega)
  have r2 : 0 ≤ u0 * b := Int.mul_nonneg n0 hb0
  omega

theorem gcd_two {A B a b p q r s t u v z : Int} (hA : A = p * a + q * b) (hB : B = r * a + s * b) (ha : a = t * A + u * B) (hb : b = v * A + z * B) : Int.gcd A B = Int.gcd a b := by
  apply Nat.dvd_antisymm
  · have h1 := Int.gcd_dvd_left A B; have h2 := Int.gcd_dvd_right A B
    apply Int.ofNat_dvd.1
    apply Int.dvd_coe_gcd
    · rw [ha]; exact Int.dvd_add (Int.dvd_mul_of_dvd_right h1) (Int.dvd_mul_of_dvd_right h2)
    · rw [hb]; exact Int.dvd_add (Int.dvd_mul_of_dvd_right h1) (Int.dvd_mul_of_dvd_right h2)
  · have h1 := Int.gcd_dvd_left a b; have h2 := Int.gcd_dvd_right a b
    apply Int.ofNat_dvd.1
    apply Int.dvd_coe_gcd
    · rw [hA]; exact Int.dvd_add (Int.dvd_mul_of_dvd_right h1) (Int.dvd_mul_of_dvd_right h2)
    · rw [hB]; exact Int.dvd_add (Int.dvd_mul_of_dvd_right h1) (Int.dvd_mul_of_dvd_right h2)
theorem gcd_mod (A B : Int) : Int.gcd A B = Int.gcd B (A % B) := by
  have h := Int.mul_ediv_add_emod A B
  exact gcd_two (p := A / B) (q := 1) (r := 1) (s := 0) (t := 0) (u := 1) (v := 1) (z := -(A / B)) (by grind) (by grind) (by grind) (by grind)
theorem sure_gcd {u0 v0 u1 v1 : Int} {o : Bool} {A B a b : Int} (ea : a = -(sg o * (u0 * A - v0 * B))) (eb : b = sg o * (u1 * A - v1 * B)) (eA : A = v1 * a + v0 * b) (eB : B = u1 * a + u0 * b) : Int.gcd A B = Int.gcd a b :=
  gcd_two eA eB (t := -(sg o * u0)) (u := sg o * v0) (v := sg o * u1) (z := -(sg o * v1)) (by rw [ea]; grind) (by rw [eb]; grind)
end Go.Proofs.YtblafbbnplfpjaaGreatDoor

namespace Go.Proofs.YtblafbbnplfpjaaGreatDoor
open Go.RowKit Go.Shelf

end Go.Proofs.YtblafbbnplfpjaaGreatDoor

namespace Go.Proofs.YtblafbbnplfpjaaGreatDoor
open Go.RowKit Go.Shelf

end Go.Proofs.YtblafbbnplfpjaaGreatDoor

namespace Go.Proofs.YtblafbbnplfpjaaGreatDoor
open Go.RowKit Go.Shelf
set_option linter.unusedVariables false

end Go.Proofs.YtblafbbnplfpjaaGreatDoor
