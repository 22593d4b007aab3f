/-
  strconv.FormatUint at base 10: the text of any word.
-/
import Derived.Test.YtpfbcicjfnfpgaaDoorTxP
import Derived.Test.YtpfbcicjfnfpgaaDoorShelf
import Derived.Test.YtpfbcicjfnfpgaaDoorBsF
import Derived.Shelf.Strconv.Itoa4
import Derived.Lib.AppendIntMem
namespace Go.Proofs.YtpfbcicjfnfpgaaDoor
open Go.RowKit Go.Shelf Go.Sort
set_option linter.unusedVariables false

theorem wv_ten {d : Nat} (h : d < 10) : wv (UInt8.ofNat (48 + d)) = d := by
  have e : (UInt8.ofNat (48 + d)).toNat = 48 + d := by simp; omega
  unfold wv
  rw [e, if_pos (by omega)]
  omega
theorem dec_tx (u : Nat) : Tx 10 (Go.Lib.decDigits u) u := by
  induction u using Nat.strongRecOn with
  | ind u ih =>
    rw [Go.Lib.decDigits]
    by_cases h : u < 10
    · rw [dif_pos h]
      refine ⟨by simp, fun c hc => ?_, by rw [tv_cons, wv_ten h]; simp [tv], fun _ => rfl⟩
      obtain rfl : c = UInt8.ofNat (48 + u) := by simpa using hc
      rw [wv_ten h]; exact h
    · rw [dif_neg h]
      have h1 := ih (u / 10) (by omega)
      have hd : u % 10 < 10 := Nat.mod_lt _ (by omega)
      have h2 := h1.more (m := [UInt8.ofNat (48 + u % 10)]) (by omega) (fun c hc => by
        obtain rfl : c = UInt8.ofNat (48 + u % 10) := by simpa using hc
        rw [wv_ten hd]; exact hd)
      have e : u / 10 * 10 ^ [UInt8.ofNat (48 + u % 10)].length + tv 10 [UInt8.ofNat (48 + u % 10)] = u := by
        rw [tv_cons, wv_ten hd]
        simp [tv]
        omega
      rw [e] at h2
      exact h2

/-- The table of the powers of ten of strconv. -/
def Pt (w : World) : Prop := Go.Lib.TabIs Tryd.prog w "internal/strconv.uint64pow10" .u64 Go.Lib.pow10Tab
theorem Pt.to {w w' : World} (h : Pt w) (hb : Below w.heap.size w w') : Pt w' := Go.Lib.tabBelow_of_tabIs h w' hb

set_option maxHeartbeats 4000000 in
set_option maxRecDepth 100000 in
theorem ifmt10 (u : Nat) (hu64 : u < 18446744073709551616) (w : World) (hT : Pt w) :
    Calls Tryd.prog 35 #[.int .u64 u, .int .i64 10] w fun e w' => e = .returned (.string ⟨(Go.Lib.decDigits u).toArray⟩) ∧ Below w.heap.size w w' := by
  by_cases hs : u < 100
  · go_enter Tryd.func35, Tryd.ntmps35
    go_wp2_with (go_at_call 46; refine (Tryd.internal_strconv_small u hs _).mono ?_; rintro e w' ⟨rfl, rfl⟩)
    go_ret
    exact ⟨rfl, Below.refl _ _⟩
  · have hu1 : 1 ≤ u := by omega
    have hnd20 : Go.Lib.nDigits u ≤ 20 := by have := Go.Lib.numDigits_eq u hu1 hu64; split at this <;> omega
    have hal : Tryd.prog.arrayLen 88 = 24 := by simp [Program.arrayLen, Tryd.underlying88]
    have hsl : ∀ W, (Instr.sliceAt 88 (.pointer (some ⟨w.heap.size, 0, none⟩)) none (some (.int .i64 (Go.Lib.nDigits u : Int))) none).run Tryd.prog W = .ok (.slice (some ⟨w.heap.size, 0, none⟩) (Go.Lib.nDigits u) 24) W := fun W => by
      rw [run_sliceAt_array_h W 88 ⟨w.heap.size, 0, none⟩ (by simp [Program.arrayLen, Program.elem, Tryd.underlying88]) .i64 (Go.Lib.nDigits u : Int) (by omega) (by rw [hal]; omega)]
      go_simp
    have hH0 := Go.Lib.holds_zero0 w 88 (Go.Lib.nDigits u) (by omega)
    have hfmt := Tryd.internal_strconv_formatBase10 w.heap.size 0 24 u (Array.replicate (Go.Lib.nDigits u) 0) (w.alloc (.cells Go.Lib.zeros24 88)) hH0 (by rw [Array.size_replicate]; exact Go.Lib.lt_pow_nDigits u) hu64 (by rw [Array.size_replicate]; omega)
    rw [Array.size_replicate] at hfmt
    have HH0 := Go.Lib.hid hH0
    have iu : (100 : Int) ≤ (u : Int) := by omega
    clear hH0 hal
    go_enter Tryd.func35, Tryd.ntmps35
    go_wp2_with (go_at_call 47; refine (Tryd.internal_strconv_numDigits u hu1 hu64 _ (Go.Lib.tabIs_alloc hT _)).mono ?_; rintro e w' ⟨rfl, rfl⟩)
    go_at_call 48
    refine hfmt.mono ?_
    rintro e w' ⟨rfl, k, v', dk, rfl, hF⟩
    have hcv : (convert 45 9 (.slice (some ⟨w.heap.size, 0, none⟩) (Go.Lib.nDigits u) 24)).run Tryd.prog ((putRow (fun (b : UInt8) => Value.int .u8 (b.toNat : Int)) (w.alloc (.cells Go.Lib.zeros24 88)) w.heap.size 0 dk).drewN k) = .ok (.string ⟨(Go.Lib.decDigits u).toArray⟩) ((putRow (fun (b : UInt8) => Value.int .u8 (b.toNat : Int)) (w.alloc (.cells Go.Lib.zeros24 88)) w.heap.size 0 dk).drewN k) := by
      have h := run_convert_bytes_back (P := Tryd.prog) ((putRow (fun (b : UInt8) => Value.int .u8 (b.toNat : Int)) (w.alloc (.cells Go.Lib.zeros24 88)) w.heap.size 0 dk).drewN k) 45 9 5 ⟨w.heap.size, 0, none⟩ 24 (Go.Lib.decDigits u) Tryd.underlying45 Tryd.underlying5 Tryd.underlying9 (fun j hj => by
        rw [Go.Lib.row_is_numeral hF j hj, Go.Lib.add_plain, World.cell?_drewN]
        exact cell?_putRow (fun (b : UInt8) => Value.int .u8 (b.toNat : Int)) _ w.heap.size 0 _ dk HH0.out (by rw [hF.size, Array.size_replicate]) j (by rw [hF.size]; rw [Go.Lib.decDigits_length] at hj; exact hj))
      rw [Go.Lib.decDigits_length] at h
      exact h
    go_wp2_with fail
    go_ret
    refine ⟨rfl, ?_⟩
    obtain ⟨os, eo⟩ := Go.Lib.fin_at w (.cells Go.Lib.zeros24 88) dk k 0
    rw [eo]
    exact Go.Lib.below_grow _ w (Nat.le_refl _) k os
theorem fmt10 (u : Nat) (hu64 : u < 18446744073709551616) (w : World) (hT : Pt w) :
    Calls Tryd.prog 22 #[.int .u64 u, .int .i64 10] w fun e w' => e = .returned (.string ⟨(Go.Lib.decDigits u).toArray⟩) ∧ Below w.heap.size w w' := by
  go_enter Tryd.func22, Tryd.ntmps22
  go_wp2_with (go_at_call 35; refine (ifmt10 u hu64 _ hT).mono ?_; rintro e w' ⟨rfl, hb⟩)
  go_ret
  exact ⟨rfl, hb⟩
end Go.Proofs.YtpfbcicjfnfpgaaDoor
