/-
  What Parse of whole numbers answers, as a function of the sign, the bytes behind it and the length. Plain Lean.
-/
import Derived.Test.YtpfbcicjfnfpgaaTxP
import Derived.Test.YtpfbcicjfnfpgaaBsA
namespace Go.Proofs.Ytpfbcicjfnfpgaa
set_option linter.unusedVariables false
def pRes (ng : Bool) (d : List UInt8) (n : Nat) : Int × Int × Int :=
  if 262144 < d.length then (0, 0, 3) else if d = [] then (0, n, 31) else
  match d.findIdx? (fun c => !decide (wv c < 10)) with
  | some k => (0, (n : Int) - d.length + k, 31)
  | none => if ng = true ∧ tv 10 d = 0 then (0, 0, 31) else if (tv 10 d : Int) < pw 4096 then ((if ng then -(tv 10 d : Int) else tv 10 d), 0, 0) else (0, 0, 3)
theorem pRes_long {ng : Bool} {d : List UInt8} {n : Nat} (h : 262144 < d.length) : pRes ng d n = (0, 0, 3) := by unfold pRes; rw [if_pos h]
theorem pRes_nil (ng : Bool) (n : Nat) : pRes ng [] n = ((0 : Int), (n : Int), (31 : Int)) := by unfold pRes; rw [if_neg (by simp), if_pos rfl]
theorem pRes_bad {ng : Bool} {d : List UInt8} {n k : Nat} (hl : d.length ≤ 262144) (hk : k < d.length) (hd : Dig 10 (d.take k)) (hb : ¬ wv d[k] < 10) : pRes ng d n = (0, (n : Int) - d.length + k, 31) := by
  have hf : d.findIdx? (fun c => !decide (wv c < 10)) = some k := by
    rw [List.findIdx?_eq_some_iff_getElem]
    refine ⟨hk, by simpa using hb, fun j hj => ?_⟩
    have := hd (d[j]) (by rw [List.mem_take_iff_getElem]; exact ⟨j, by omega, rfl⟩)
    simpa using this
  unfold pRes
  rw [if_neg (by omega), if_neg (fun e => by rw [e] at hk; simp at hk), hf]
theorem pRes_good {ng : Bool} {d : List UInt8} {n : Nat} (hl : d.length ≤ 262144) (hne : d ≠ []) (hd : Dig 10 d) : pRes ng d n = if ng = true ∧ tv 10 d = 0 then (0, 0, 31) else if (tv 10 d : Int) < pw 4096 then ((if ng then -(tv 10 d : Int) else tv 10 d), 0, 0) else (0, 0, 3) := by
  have hf : d.findIdx? (fun c => !decide (wv c < 10)) = none := by
    rw [List.findIdx?_eq_none_iff]
    intro c hc
    have := hd c hc
    simpa using this
  unfold pRes
  rw [if_neg (by omega), if_neg hne, hf]
end Go.Proofs.Ytpfbcicjfnfpgaa
