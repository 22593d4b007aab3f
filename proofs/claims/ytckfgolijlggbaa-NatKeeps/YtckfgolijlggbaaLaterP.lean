/-
  What 'later' goes by: the highest bits of two long numbers, and what becomes of the numbers; plain arithmetic, and the variables that are held.
-/
import Derived.Test.YtckfgolijlggbaaFore2
import Derived.Test.YtckfgolijlggbaaGcd
import Derived.Test.YtckfgolijlggbaaHeld3
namespace Go.Proofs.Ytckfgolijlggbaa
open Go.RowKit Go.Shelf

/-- So many binary digits are cut off: what is left of the greater one fills a limb. -/
theorem later_bits {w : World} {a b : Option Addr} {la ca lb cb : Nat} {xs ys : List Int} (ha : Nt w a la ca xs) (hb : Nt w b lb cb ys) (hle : num ys ≤ num xs) (hl : 1 < lb) :
    ∃ k d : Nat, bitsN xs = (k : Int) + 1 ∧ (k : Int) + 1 - 64 = d ∧ d ≤ 262144 ∧ num xs / 2 ^ d < 18446744073709551616 ∧ num ys / 2 ^ d ≤ num xs / 2 ^ d := by
  have h1 := num_ge_used hb.limbs (by rw [hb.2.1]; omega)
  rw [hb.2.1] at h1
  have h2 := pw_mono (show 1 ≤ lb - 1 by omega)
  have h3 : pw 1 = 18446744073709551616 := by decide
  have ux : 0 < usedN xs := by
    rcases Nat.eq_zero_or_pos (usedN xs) with h | h
    · have := (num_eq_zero ha.limbs).2 h; omega
    · exact h
  obtain ⟨k, ek, k1, k2⟩ := bits_spec ha.limbs ux
  have hk : 64 ≤ k := by
    rcases Nat.lt_or_ge k 64 with h | h
    · have h5 := p2_mono (show k + 1 ≤ 64 by omega)
      have h6 : (2 : Int) ^ 64 = 18446744073709551616 := by decide
      omega
    · exact h
  have hbl := bits_limbs ha.limbs
  have hla := ha.2
  refine ⟨k, k + 1 - 64, ek, by omega, by omega, ?_, ?_⟩
  · apply Int.ediv_lt_of_lt_mul (p2_pos _)
    have h6 : (2 : Int) ^ (k + 1) = 18446744073709551616 * 2 ^ (k + 1 - 64) := by
      have h7 : (2 : Int) ^ 64 = 18446744073709551616 := by decide
      rw [← h7, ← Int.pow_add]
      congr 1; omega
    omega
  · exact Int.ediv_le_ediv (p2_pos _) hle

/-- The long numbers behind the sure members. -/
theorem later_sure {A B : Int} {d : Nat} {u0 v0 u1 v1 : Int} {o : Bool} (S : Sure (A / 2 ^ d) (B / 2 ^ d) u0 v0 u1 v1 o) (hv : v0 ≠ 0) :
    ∃ p q : Int, sg (!o) * (u0 * A - v0 * B) = p ∧ sg o * (u1 * A - v1 * B) = q ∧ 0 ≤ q ∧ q < p ∧ p ≤ B ∧ Int.gcd p q = Int.gcd A B := by
  have hP := p2_pos d
  have e1 := Int.mul_ediv_add_emod A (2 ^ d)
  have e2 := Int.mul_ediv_add_emod B (2 ^ d)
  obtain ⟨r1, r2, r3, r4, r5⟩ := S.later hv (A := A) (B := B) (P := 2 ^ d) (A1 := A % 2 ^ d) (B1 := B % 2 ^ d) (by rw [Int.mul_comm (A / 2 ^ d)]; exact e1.symm) (by rw [Int.mul_comm (B / 2 ^ d)]; exact e2.symm) hP
    (Int.emod_nonneg _ (Int.ne_of_gt hP)) (Int.emod_lt_of_pos _ hP) (Int.emod_nonneg _ (Int.ne_of_gt hP)) (Int.emod_lt_of_pos _ hP) rfl rfl
  refine ⟨_, _, by rw [sg_not, Int.neg_mul], rfl, r1, r2, r3, ?_⟩
  exact (sure_gcd rfl rfl r4 r5).symm

/-- The four variables of 'later'; nothing old has turned. -/
def LV (w : World) (a : Option Addr) (la ca : Nat) (b : Option Addr) (lb cb : Nat) (W : World) : Prop :=
  Va W w.heap.size 27 #[.slice a la ca] ∧ Va W (w.heap.size + 1) 27 #[.slice b lb cb] ∧ Va W (w.heap.size + 1 + 1) 27 #[.slice none 0 0] ∧ Va W (w.heap.size + 1 + 1 + 1) 27 #[.slice none 0 0] ∧ Below w.heap.size w W
section
variable {w : World} {a : Option Addr} {la ca : Nat} {b : Option Addr} {lb cb : Nat} {W W' : World}
theorem LV.s (h : LV w a la ca b lb cb W) : W.cell? ⟨w.heap.size, 0, none⟩ = some (.slice a la ca) ∧ W.cell? ⟨w.heap.size + 1, 0, none⟩ = some (.slice b lb cb) ∧ Hid (LV w a la ca b lb cb W) := ⟨h.1.cell, h.2.1.cell, h⟩
theorem LV.call (hb : Below W.heap.size W W') (h : W.cell? ⟨w.heap.size, 0, none⟩ = some (.slice a la ca) ∧ W.cell? ⟨w.heap.size + 1, 0, none⟩ = some (.slice b lb cb) ∧ Hid (LV w a la ca b lb cb W)) :
    W'.cell? ⟨w.heap.size, 0, none⟩ = some (.slice a la ca) ∧ W'.cell? ⟨w.heap.size + 1, 0, none⟩ = some (.slice b lb cb) ∧ Hid (LV w a la ca b lb cb W') := by
  obtain ⟨-, -, h1, h2, h3, h4, h5⟩ := h
  exact LV.s ⟨Va.after hb h1, Va.after hb h2, Va.after hb h3, Va.after hb h4, step h5 hb⟩
theorem LV.alloc (h : W.cell? ⟨w.heap.size, 0, none⟩ = some (.slice a la ca) ∧ W.cell? ⟨w.heap.size + 1, 0, none⟩ = some (.slice b lb cb) ∧ Hid (LV w a la ca b lb cb W)) (o : Obj) :
    (W.alloc o).cell? ⟨w.heap.size, 0, none⟩ = some (.slice a la ca) ∧ (W.alloc o).cell? ⟨w.heap.size + 1, 0, none⟩ = some (.slice b lb cb) ∧ Hid (LV w a la ca b lb cb (W.alloc o)) := by
  obtain ⟨-, -, h1, h2, h3, h4, h5⟩ := h
  exact LV.s ⟨h1.old o, h2.old o, h3.old o, h4.old o, h5.alloc h5.size o⟩
theorem LV.dr (h : W.cell? ⟨w.heap.size, 0, none⟩ = some (.slice a la ca) ∧ W.cell? ⟨w.heap.size + 1, 0, none⟩ = some (.slice b lb cb) ∧ Hid (LV w a la ca b lb cb W)) :
    W.drew.cell? ⟨w.heap.size, 0, none⟩ = some (.slice a la ca) ∧ W.drew.cell? ⟨w.heap.size + 1, 0, none⟩ = some (.slice b lb cb) ∧ Hid (LV w a la ca b lb cb W.drew) := by
  obtain ⟨-, -, h1, h2, h3, h4, h5⟩ := h
  exact LV.s ⟨h1, h2, h3, h4, h5.drew⟩
theorem LV.stc {d k : Nat} (h : W.cell? ⟨w.heap.size, 0, none⟩ = some (.slice a la ca) ∧ W.cell? ⟨w.heap.size + 1, 0, none⟩ = some (.slice b lb cb) ∧ Hid (LV w a la ca b lb cb W)) (hd : w.heap.size + 4 ≤ d) (v : Value) :
    (W.setCell ⟨d, k, none⟩ v).cell? ⟨w.heap.size, 0, none⟩ = some (.slice a la ca) ∧ (W.setCell ⟨d, k, none⟩ v).cell? ⟨w.heap.size + 1, 0, none⟩ = some (.slice b lb cb) ∧ Hid (LV w a la ca b lb cb (W.setCell ⟨d, k, none⟩ v)) := by
  obtain ⟨-, -, h1, h2, h3, h4, h5⟩ := h
  exact LV.s ⟨h1.other (p := ⟨d, k, none⟩) (show w.heap.size ≠ d by omega) v, h2.other (p := ⟨d, k, none⟩) (show w.heap.size + 1 ≠ d by omega) v, h3.other (p := ⟨d, k, none⟩) (show w.heap.size + 1 + 1 ≠ d by omega) v, h4.other (p := ⟨d, k, none⟩) (show w.heap.size + 1 + 1 + 1 ≠ d by omega) v, h5.setCell (p := ⟨d, k, none⟩) (show w.heap.size ≤ d by omega) v⟩
theorem LV.size (h : W.cell? ⟨w.heap.size, 0, none⟩ = some (.slice a la ca) ∧ W.cell? ⟨w.heap.size + 1, 0, none⟩ = some (.slice b lb cb) ∧ Hid (LV w a la ca b lb cb W)) : w.heap.size + 4 ≤ W.heap.size := by
  have := h.2.2.2.2.2.1.lt; omega
theorem LV.bel (h : W.cell? ⟨w.heap.size, 0, none⟩ = some (.slice a la ca) ∧ W.cell? ⟨w.heap.size + 1, 0, none⟩ = some (.slice b lb cb) ∧ Hid (LV w a la ca b lb cb W)) : Below w.heap.size w W := h.2.2.2.2.2.2
end
/-- Old cells and marks behind a call. -/
theorem bcell {W w1 : World} (hb : Below W.heap.size W w1) : (∀ b o, b < W.heap.size → w1.cell? ⟨b, o, none⟩ = W.cell? ⟨b, o, none⟩) ∧ (∀ b o, b < W.heap.size → w1.frozen? ⟨b, o, none⟩ = W.frozen? ⟨b, o, none⟩) :=
  ⟨fun b o h => hb.cell (p := ⟨b, o, none⟩) h, fun b o h => hb.frozen (p := ⟨b, o, none⟩) h⟩
end Go.Proofs.Ytckfgolijlggbaa
