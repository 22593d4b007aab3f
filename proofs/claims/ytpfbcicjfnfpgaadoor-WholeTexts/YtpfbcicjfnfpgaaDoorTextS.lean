/-
  numeral.Text to the base 10 of a number below 10^19: one piece.
-/
import Derived.Test.YtpfbcicjfnfpgaaDoorTextW
import Derived.Test.YtpfbcicjfnfpgaaDoorReads2
namespace Go.Proofs.YtpfbcicjfnfpgaaDoor
open Go.RowKit Go.Shelf
set_option linter.unusedVariables false

def oneD (d : Dg) : Nat → Dg
  | 0 => d
  | _ + 1 => d0
set_option maxHeartbeats 2000000 in
theorem apart_one (a b : Option Addr) (la ca lb cb : Nat) (xs ys : List Int) (w : World) (ha : Nt w a la ca xs) (hb : Nt w b lb cb ys) (hlt : num xs < num ys) :
    Calls Tryd.prog 18 #[.agg #[.slice a la ca], .agg #[.slice b lb cb]] w fun e W' => ∃ g off len cap D, e = .returned (.slice (some ⟨g, off, none⟩) len cap) ∧ len ≤ cap ∧ Hid (AP W' g off len D (num xs) (num ys)) ∧ Below w.heap.size w W' := by
  go_enter Tryd.func18, Tryd.ntmps18
  go_wp2_with fail
  refine ent2 w _ _ _ _ (Q := fun W => Calls Tryd.prog _ _ W _) ?_
  intro w0 B0 hs V0 V1
  have e1 : cmp3 (num xs) (num ys) = -1 := by unfold cmp3; rw [if_pos hlt]
  refine (ncompare_any a b la ca lb cb xs ys w0 (Nt.after B0 ha) (Nt.after B0 hb)).mono ?_
  rintro e w1 ⟨rfl, hb1⟩
  rw [e1]
  replace V0 := Va.after hb1 V0
  replace B0 := step B0 hb1
  have c0 := V0.cell
  have l0 := V0.lt
  go_wp2_with fail
  go_ret
  have B1 := B0.alloc B0.size (.cells #[.slice a la ca] 26)
  refine ⟨w1.heap.size, 0, 1, 1, oneD (a, la, ca, xs), rfl, Nat.le_refl _, ?_, B1⟩
  have hN := Nt.after B1 ha
  refine ⟨Nat.le_refl _, by omega, by simp, fun j hj => ?_, fun j => ?_, fun j => ?_, ?_, fun h => absurd h (by omega)⟩
  · obtain rfl : j = 0 := by omega
    exact (Va.new w1 _ _).cell
  · match j with
    | 0 => exact hN
    | _ + 1 => exact Nt.nil _
  · match j with
    | 0 => exact hlt
    | _ + 1 =>
      have := ha.nonneg
      show num [] < _
      simp [num]; omega
  · rw [down_one]; simp [dsum, oneD]
theorem text_small (a : Option Addr) (l c : Nat) (xs : List Int) (w : World) (h : Nt w a l c xs) (hlt : num xs < 10000000000000000000) (hT : Pt w) :
    Calls Tryd.prog 11 #[.agg #[.slice a l c], .int .i64 10] w fun e W' => ∃ t, e = .returned (.tuple #[.string ⟨List.toArray t⟩, .int .i64 0]) ∧ Tx 10 t (num xs).toNat ∧ Below w.heap.size w W' := by
  refine text_of Pt (fun W W' hb h => h.to hb) 10 19 10000000000000000000 (by omega) (by omega) (by omega) (by omega) (by decide) ⟨by omega, by omega⟩ (by omega) greatPower_ten
    (fun u w hu hp => (fmt10 u hu w hp).mono fun e w' h => ⟨_, h.1, dec_tx u, h.2⟩) a l c xs w h hT (fun W a2 l2 c2 hb h2 hx => ?_)
  have := apart_one a a2 l c l2 c2 xs [10000000000000000000] W hx h2 (by simpa [num] using hlt)
  have e : num [(10000000000000000000 : Int)] = 10000000000000000000 := by simp [num]
  rw [e] at this
  exact this
end Go.Proofs.YtpfbcicjfnfpgaaDoor
