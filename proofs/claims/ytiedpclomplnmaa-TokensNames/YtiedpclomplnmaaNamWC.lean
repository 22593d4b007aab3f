/-
  tokens: the walk of TokensNames.
-/
import Derived.Test.YtiedpclomplnmaaTcW
import Derived.Test.YtiedpclomplnmaaTc6
namespace Go.Proofs.Ytiedpclomplnmaa
open Go.RowKit Go.Shelf
set_option linter.unusedVariables false

theorem kw_facts : ∀ x ∈ kwL, wdB x = false ∧ wdB (x ++ [122]) = true ∧ x.length ≤ 20 := by decide +kernel
theorem kw_at (k : Nat) (h : k < 29) : wdB (kwL.getD k []) = false ∧ wdB (kwL.getD k [] ++ [122]) = true ∧ (kwL.getD k []).length ≤ 20 := by
  have h' : k < kwL.length := h
  refine kw_facts _ ?_
  rw [List.getD_eq_getElem?_getD, List.getElem?_eq_getElem h']
  exact List.getElem_mem h'
set_option maxHeartbeats 2000000 in
set_option maxRecDepth 20000 in
theorem nam_walk (s : List UInt8) (w : World) : Calls Try.prog 3 #[sv s] w fun e w' => e = .returned (.bool true) ∧ Below w.heap.size w w' := by
  go_enter Try.func3, Try.ntmps3
  go_wp2_with fail
  refine (lkept_any w).mono ?_
  rintro e w1 ⟨rfl, V1, hb1⟩
  have HV : Hid (Va w1 w.heap.size 9 kwC) := V1
  have HB1 : Hid (Below w.heap.size w w1) := hb1
  clear V1 hb1
  go_wp2_with fail
  go_loopw [4] (fun i wr => ∃ k : Nat, i = .int .i64 k ∧ k ≤ 29 ∧ Hid (Va wr w.heap.size 9 kwC) ∧ Hid (Below w.heap.size w wr)) (fun i _ => (29 - (intOf i).toNat : Nat))
  case atStart => exact ⟨0, rfl, Nat.zero_le _, HV.out, HB1.out⟩
  case round =>
    clear HV HB1
    obtain ⟨k, rfl, hk, HV, HB⟩ := hrel
    rcases Nat.lt_or_ge k 29 with hlt | hge
    · have hki : (k : Int) < 29 := by omega
      obtain ⟨f1, f2, f3⟩ := kw_at k hlt
      have c0 : wr.cell? ⟨w.heap.size, k, none⟩ = some (sv (kwL.getD k [])) := by rw [HV.out.cellAt k, kwC_at k hlt]
      have hKV : ∀ W, Va W w.heap.size 9 kwC → W.cell? ⟨w.heap.size, k, none⟩ = some (sv (kwL.getD k [])) := fun W h => by rw [h.cellAt k, kwC_at k hlt]
      have HKV : Hid (∀ W, Va W w.heap.size 9 kwC → W.cell? ⟨w.heap.size, k, none⟩ = some (sv (kwL.getD k []))) := hKV
      clear hKV
      generalize kwL.getD k [] = X at *
      have k1 := catS X [122]
      have w1' := fun W => word_B X W
      have w2' := fun W => word_B (X ++ [122]) W
      rw [f1] at w1'; rw [f2] at w2'
      have hxl : (X ++ [122]).length ≤ 30 := by simp; omega
      clear f1 f2
      generalize X ++ [122] = Y at *
      go_wp2_with fail
      refine (w1' _).mono ?_
      rintro e w2 ⟨rfl, hb2⟩
      have V2 := HV.out.after hb2
      have HV2 : Hid (Va w2 w.heap.size 9 kwC) := V2
      have c2 := HKV.out w2 V2
      have HB2 : Hid (Below w.heap.size w w2) := step HB.out hb2
      clear hb2 V2 c0 HV HB w1'
      go_wp2_with fail
      refine (w2' _).mono ?_
      rintro e w3 ⟨rfl, hb3⟩
      have HV3 : Hid (Va w3 w.heap.size 9 kwC) := HV2.out.after hb3
      have HB3 : Hid (Below w.heap.size w w3) := step HB2.out hb3
      clear hb3 c2 HV2 HB2 w2'
      go_wp2_with fail
      go_roundw
      case rel => exact ⟨k + 1, rfl, by omega, HV3.out, HB3.out⟩
      case measure => simp [intOf]; omega
    · obtain rfl : k = 29 := by omega
      clear hge
      have q1 := fun W => word_B s W
      have q2 := fun W => rWord_any s W
      have q3 := fun W => code_any s W
      have q4 := fun W => rCode_any s W
      generalize wdB s = A at *
      generalize cdF s = B at *
      have eA : (A == A) = true := by simp
      have eB : (B == B) = true := by simp
      go_wp2_with fail
      refine (q1 _).mono ?_
      rintro e w2 ⟨rfl, hb2⟩
      have HB2 : Hid (Below w.heap.size w w2) := step HB.out hb2
      clear hb2 HB HV
      go_wp2_with fail
      refine (q2 _).mono ?_
      rintro e w3 ⟨rfl, hb3⟩
      have HB3 : Hid (Below w.heap.size w w3) := step HB2.out hb3
      clear hb3 HB2
      go_wp2_with fail
      refine (q3 _).mono ?_
      rintro e w' ⟨rfl, hw'⟩
      rw [hw']; clear hw' w'
      go_wp2_with fail
      refine (q4 _).mono ?_
      rintro e w' ⟨rfl, hw'⟩
      rw [hw']; clear hw' w'
      go_wp2_with fail
      refine (awake_any _).mono ?_
      rintro e w4 ⟨rfl, hb4⟩
      have HB4 : Hid (Below w.heap.size w w4) := step HB3.out hb4
      clear hb4 HB3
      go_wp2_with fail
      go_ret
      exact ⟨rfl, HB4.out⟩
theorem sv_of (s : ByteArray) : Value.string s = sv s.data.toList := by simp [sv]
theorem nam_w (s : ByteArray) (w : World) (hs : s.data.toList.length ≤ 140737488351232) : Calls Try.prog 3 #[.string s] w fun e w' => e = .returned (.bool true) ∧ Below w.heap.size w w' := by
  rw [sv_of]; exact nam_walk s.data.toList w
end Go.Proofs.Ytiedpclomplnmaa
