/-
  strconv.FormatUint at base 10: the text of any word.
-/
import Derived.Test.YtpfbcicjfnfpgaaTxP
import Derived.Test.YtpfbcicjfnfpgaaShelf
import Derived.Test.YtpfbcicjfnfpgaaBsF
import Derived.Shelf.Strconv.Itoa4
import Derived.Lib.AppendIntMem
namespace Go.Proofs.Ytpfbcicjfnfpgaa
open Go.RowKit Go.Shelf Go.Sort
set_option linter.unusedVariables false

theorem wv_ten {d : Nat} (h : d < 10) : wv (UInt8.ofNat (48 + d)) = d := by
  have e : (UInt8.ofNat (48 + d)).toNat = 48 + d := by simp; omega
  unfold wv
  rw [e, if_pos (by omega)]
  omega
theorem dec_tx (u : Nat) : Tx 10 (Go.Lib.decDigits u) u := by
  induction u using Nat.strongRecOn with
  | ind u ih =>
    rw [Go.Lib.decDigits]
    by_cases h : u < 10
    · rw [dif_pos h]
      refine ⟨by simp, fun c hc => ?_, by rw [tv_cons, wv_ten h]; simp [tv], fun _ => rfl⟩
      obtain rfl : c = UInt8.ofNat (48 + u) := by simpa using hc
      rw [wv_ten h]; exact h
    · rw [dif_neg h]
      have h1 := ih (u / 10) (by omega)
      have hd : u % 10 < 10 := Nat.mod_lt _ (by omega)
      have h2 := h1.more (m := [UInt8.ofNat (48 + u % 10)]) (by omega) (fun c hc => by
        obtain rfl : c = UInt8.ofNat (48 + u % 10) := by simpa using hc
        rw [wv_ten hd]; exact hd)
      have e : u / 10 * 10 ^ [UInt8.ofNat (48 + u % 10)].length + tv 10 [UInt8.ofNat (48 + u % 10)] = u := by
        rw [tv_cons, wv_ten hd]
        simp [tv]
        omega
      rw [e] at h2
      exact h2

/-- The table of the powers of ten of strconv. -/
def Pt (w : World) : Prop := Go.Lib.TabIs Try.prog w "internal/strconv.uint64pow10" .u64 Go.Lib.pow10Tab
theorem Pt.to {w w' : World} (h : Pt w) (hb : Below w.heap.size w w') : Pt w' := Go.Lib.tabBelow_of_tabIs h w' hb

end Go.Proofs.Ytpfbcicjfnfpgaa
