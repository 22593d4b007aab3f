/-
  whole.Text of any number.
-/
import Derived.Test.YtpfbcicjfnfpgaaDoorApartW
import Derived.Test.YtpfbcicjfnfpgaaDoorBsM
import Derived.Test.YtpfbcicjfnfpgaaDoorStrP
namespace Go.Proofs.YtpfbcicjfnfpgaaDoor
open Go.RowKit Go.Shelf
set_option linter.unusedVariables false

/-- A sign ahead of a text. -/
def sg (s : Bool) : List UInt8 := if s then [45] else []
theorem ten_big (n : Nat) : (2 : Int) ^ n ≤ ((10 ^ n : Nat) : Int) := by
  have := two_le_pow (b := 10) (by omega) n
  simpa using this
theorem tx_len {zs : List Int} {t : List UInt8} (ht : Tx 10 t (num zs).toNat) (h0 : 0 ≤ num zs) (hlt : num zs < pw 4096) : t.length ≤ 262144 := by
  refine ht.le (by omega) (k := 262144) ?_ (by omega)
  have h1 := ten_big 262144
  rw [pw_eq, show 64 * 4096 = 262144 from rfl] at hlt
  generalize (2 : Int) ^ 262144 = X at *
  generalize (10 : Nat) ^ 262144 = Y at *
  omega
set_option maxHeartbeats 4000000 in
theorem wtext_any (s : Bool) (a : Option Addr) (l c : Nat) (zs : List Int) (w : World) (h : It w s a l c zs) (hT : Pt w) :
    Calls Tryd.prog 5 #[.agg #[.bool s, .slice a l c]] w fun e W' => ∃ t, e = .returned (.string ⟨(sg s ++ t).toArray⟩) ∧ Tx 10 t (num zs).toNat ∧ Below w.heap.size w W' := by
  go_enter Tryd.func5, Tryd.ntmps5
  have hc : ∀ t : List UInt8, (⟨#[45]⟩ ++ ⟨t.toArray⟩ : ByteArray) = ⟨(45 :: t).toArray⟩ := fun t => cat [45] t
  go_wp2_with fail
  refine ent1 w _ _ (Q := fun W => Calls Tryd.prog _ _ W _) ?_
  intro w0 B0 hs V0
  refine (text_ten a l c zs w0 (Nt.after B0 h.1) (hT.to B0)).mono ?_
  rintro e w1 ⟨t, rfl, ht, hb1⟩
  replace V0 := Va.after hb1 V0
  replace B0 := step B0 hb1
  have c0 := V0.c0
  have c1 := V0.c1
  have l0 := V0.lt
  cases s
  · go_wp2_with fail
    go_ret
    exact ⟨t, rfl, ht, B0⟩
  · have hc1 := hc t
    have hbz : (ByteArray.mk t.toArray).size = t.length := bsize t
    have htl := tx_len ht h.1.nonneg h.1.lt
    go_wp2_with fail
    go_ret
    exact ⟨t, rfl, ht, B0⟩
end Go.Proofs.YtpfbcicjfnfpgaaDoor
