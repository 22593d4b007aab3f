/-
  A number read off memory, for a loop's measure.
-/
import Derived.Test.YtckfgolijlggbaaVals
namespace Go.Proofs.Ytckfgolijlggbaa
open Go.RowKit Go.Shelf

def readNum (w : World) (b : Nat) : Nat → Nat → Int
  | _, 0 => 0
  | o, n + 1 => (match w.cell? ⟨b, o, none⟩ with | some (.int _ z) => z | _ => 0) + 18446744073709551616 * readNum w b (o + 1) n
def varNum (w : World) (b : Nat) : Nat :=
  match w.cell? ⟨b, 0, none⟩ with
  | some (.slice (some p) len _) => (readNum w p.block p.off len).toNat
  | _ => 0
theorem readNum_eq (w : World) (b : Nat) : ∀ (zs : List Int) (o : Nat), (∀ i, i < zs.length → w.cell? ⟨b, o + i, none⟩ = some (.int .u64 (zs.getD i 0))) → readNum w b o zs.length = num zs
  | [], _, _ => rfl
  | z :: r, o, h => by
    have h0 := h 0 (by simp)
    have hr := readNum_eq w b r (o + 1) (fun i hi => by
      have := h (i + 1) (by simpa using hi)
      rw [show o + 1 + i = o + (i + 1) by omega, this]; simp)
    simp only [Nat.add_zero, List.getD_cons_zero] at h0
    simp only [List.length_cons, readNum, h0, hr, num]
theorem varNum_eq {w : World} {v : Nat} {t : TypeId} {a : Option Addr} {len cap : Nat} {zs : List Int} (V : Va w v t #[.slice a len cap]) (h : Nt w a len cap zs) : varNum w v = (num zs).toNat := by
  have hz := h.1.1
  unfold varNum
  rw [V.cell]
  cases a with
  | none =>
    simp only
    rcases Nat.eq_zero_or_pos len with h0 | h0
    · have : zs = [] := List.eq_nil_of_length_eq_zero (by omega)
      rw [this]; rfl
    · obtain ⟨b, off, e, -⟩ := h.1.2.2 h0
      cases e
  | some p =>
    simp only
    rcases Nat.eq_zero_or_pos len with h0 | h0
    · have : zs = [] := List.eq_nil_of_length_eq_zero (by omega)
      rw [this, h0]; rfl
    · obtain ⟨b, off, e, hc⟩ := h.1.2.2 h0
      cases e
      have := readNum_eq w b zs off (fun i hi => hc i (by omega))
      rw [hz] at this
      rw [this]
end Go.Proofs.Ytckfgolijlggbaa
