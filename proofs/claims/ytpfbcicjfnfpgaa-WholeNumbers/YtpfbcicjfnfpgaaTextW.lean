/-
  numeral.Text, given what FormatUint answers and the pieces that apart answers.
-/
import Derived.Test.YtpfbcicjfnfpgaaFmt10
import Derived.Test.YtpfbcicjfnfpgaaJoinFew
import Derived.Test.YtpfbcicjfnfpgaaBsH
import Derived.Test.YtpfbcicjfnfpgaaBsM
import Derived.Shelf.Strings.BuilderK
import Derived.Shelf.Strings.Builder2
import Derived.Shelf.Strings.Repeat
namespace Go.Proofs.Ytpfbcicjfnfpgaa
open Go.RowKit Go.Shelf
set_option linter.unusedVariables false

/-- Pieces of a number, the lowest first. -/
def AP (W : World) (g off len : Nat) (D : Nat → Dg) (V By : Int) : Prop :=
  1 ≤ len ∧ len ≤ 1000000 ∧ g < W.heap.size ∧ (∀ j, j < len → W.cell? ⟨g, off + j, none⟩ = some (dv (D j))) ∧ (∀ j, Nt W (D j).1 (D j).2.1 (D j).2.2.1 (D j).2.2.2) ∧ (∀ j, num (D j).2.2.2 < By) ∧ dsum By D (down len len) = V ∧ (1 < len → num (D (len - 1)).2.2.2 ≠ 0)
theorem AP.after {W W' : World} (hb : Below W.heap.size W W') {g off len : Nat} {D : Nat → Dg} {V By : Int} (h : AP W g off len D V By) : AP W' g off len D V By :=
  ⟨h.1, h.2.1, Nat.lt_of_lt_of_le h.2.2.1 hb.size, fun j hj => (hb.cell (p := ⟨g, off + j, none⟩) h.2.2.1).trans (h.2.2.2.1 j hj), fun j => Nt.after hb (h.2.2.2.2.1 j), h.2.2.2.2.2⟩
/-- A builder stays one where memory is only made. -/
theorem bld_after {T e : TypeId} {B b : Nat} {bs : List Value} {W W' : World} (hb : Below W.heap.size W W') (h : Go.Lib.IsBuilderF T e B b bs W) : Go.Lib.IsBuilderF T e B b bs W' := by
  have one : ∀ p, Go.Lib.BuilderAtF T e B b p bs W → Go.Lib.BuilderAtF T e B b p bs W' := fun p h => by
    obtain ⟨h1, v, h2, h3, h4⟩ := h
    have hg : W.grownBy W' none := ⟨hb.os, hb.tape, hb.output, hb.size, fun k hk _ => hb.block k hk⟩
    exact ⟨h1, v, (hb.block b (Array.getElem?_eq_some_iff.1 h2).1).trans h2, h3.kept hg (by cases h : v.ownBlock <;> simp), h4⟩
  exact h.elim (fun x => .inl (one _ x)) (fun x => .inr (one _ x))
theorem wstr (B b : Nat) (l : List UInt8) (t : List UInt8) (w : World) (h : Go.Lib.IsBuilderF 74 5 B b (Go.Lib.byteCells l) w) (hlen : l.length + t.length ≤ 140737488355328) (hBw : B ≤ w.heap.size) :
    Calls Try.prog 33 #[.pointer (some ⟨b, 0, none⟩), .string ⟨t.toArray⟩] w fun e w' => (∃ v, e = .returned v) ∧ Go.Lib.IsBuilderF 74 5 B b (Go.Lib.byteCells (l ++ t)) w' ∧ Below B w w' := by
  refine (Any.Builder_WriteString_k { Try.lays105 with } Try.Builder_Extra_105 B b (Go.Lib.byteCells l) ⟨t.toArray⟩ w h (by simp [Go.Lib.byteCells]; exact hlen) hBw).mono ?_
  rintro e w' ⟨rfl, h1, h2, -⟩
  refine ⟨⟨_, rfl⟩, ?_, h2⟩
  rw [Go.Lib.byteCells_append]
  exact .inr h1
theorem repeat_noughts (n : Nat) : Go.Lib.repeatL [48] n = List.replicate n 48 := by
  induction n with
  | zero => simp [Go.Lib.repeatL]
  | succ n ih => simp_all [Go.Lib.repeatL, List.replicate_succ]
theorem zrep (n : Nat) (hn : n ≤ 1000000) (w : World) : Calls Try.prog 12 #[.string ⟨#[48]⟩, .int .i64 n] w fun e w' => e = .returned (.string ⟨(List.replicate n (48 : UInt8)).toArray⟩) ∧ Below w.heap.size w w' := by
  have := Try.strings_Repeat ⟨#[48]⟩ n w (by omega) (by show 1 * n ≤ _; omega)
  rw [show (ByteArray.mk #[48]).data.toList = [48] from rfl, repeat_noughts] at this
  exact this
/-- What stands between two rounds. -/
def TxI (bn sz len k : Nat) (D : Nat → Dg) (By : Int) (acc : List UInt8) : Prop := k ≤ len ∧ acc.length ≤ k * sz ∧ (k = 0 → acc = []) ∧ (0 < k → ∃ V : Nat, dsum By D (down len k) = V ∧ Tx bn acc V ∧ (1 < len → V ≠ 0))
theorem down_one (len : Nat) : down len 1 = [len - 1] := by simp [down]
theorem txI_on {w : World} {bn sz len k u : Nat} {D : Nat → Dg} {By : Int} {acc l : List UInt8} (h : TxI bn sz len k D By acc) (hk : k < len) (hb2 : 2 ≤ bn) (hBy : By = ((bn ^ sz : Nat) : Int)) (hu : num (D (len - 1 - k)).2.2.2 = u) (hl : Tx bn l u) (hlen : l.length ≤ sz) (hnn : ∀ j, 0 ≤ num (D j).2.2.2) (htop : 1 < len → num (D (len - 1)).2.2.2 ≠ 0) :
    TxI bn sz len (k + 1) D By (if k = 0 then l else acc ++ (List.replicate (sz - l.length) 48 ++ l)) := by
  obtain ⟨h1, h2, h3, h4⟩ := h
  have hB1 : 1 ≤ By := by rw [hBy]; have : 0 < bn ^ sz := Nat.pow_pos (by omega); omega
  by_cases h0 : k = 0
  · subst h0
    rw [if_pos rfl]
    refine ⟨by omega, by omega, fun h => by omega, fun _ => ⟨u, ?_, hl, fun hl1 e => ?_⟩⟩
    · rw [down_one]; simp only [dsum, List.foldl_cons, List.foldl_nil]; rw [show len - 1 = len - 1 - 0 by omega, hu]; omega
    · have := htop hl1
      rw [show len - 1 = len - 1 - 0 by omega, hu] at this
      omega
  · rw [if_neg h0]
    obtain ⟨V, hV, ht, hne⟩ := h4 (by omega)
    have hlm : (List.replicate (sz - l.length) (48 : UInt8) ++ l).length = sz := by simp; omega
    have hm := ht.more (m := List.replicate (sz - l.length) 48 ++ l) (hne (by omega)) ((dig_noughts hb2 _).append hl.dig)
    rw [hlm, tv_ahead, hl.val] at hm
    refine ⟨by omega, ?_, fun h => by omega, fun _ => ⟨V * bn ^ sz + u, ?_, hm, fun hl1 e => ?_⟩⟩
    · rw [List.length_append, hlm, Nat.add_mul]; omega
    · rw [down_succ, dsum_snoc, hV, hu, hBy]; simp
    · have hp : 0 < bn ^ sz := Nat.pow_pos (by omega)
      have : 0 < V * bn ^ sz := Nat.mul_pos (by have := hne hl1; omega) hp
      omega

end Go.Proofs.Ytpfbcicjfnfpgaa
