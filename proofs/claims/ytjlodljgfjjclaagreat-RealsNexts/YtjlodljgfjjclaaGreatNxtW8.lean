/-
  The walk of RealsNexts: each call by its contract.
-/
import Derived.Test.YtjlodljgfjjclaaGreatBtF
namespace Go.Proofs.YtjlodljgfjjclaaGreat
open Go.RowKit Go.Shelf
set_option linter.unusedVariables false

set_option maxHeartbeats 4000000 in
theorem nexts_walk (a : Int) (w : World) (ha : Word a) :
    Calls Tryz.prog 6 #[.int .u64 a] w fun e w' => e = .returned (.bool true) ∧ Below w.heap.size w w' := by
  obtain ⟨x, rfl⟩ := Int.eq_ofNat_of_zero_le ha.1
  have hx : x < 18446744073709551616 := by have := ha.2; omega
  have HX : Hid (x < 18446744073709551616) := hx
  clear ha
  have ff := ffrom x
  have B0 : Below w.heap.size w w := Below.refl _ _
  by_cases hn : 9218868437227405312 < x % 9223372036854775808
  ·
    have HN : Hid (9218868437227405312 < x % 9223372036854775808) := hn
    clear hn hx
    go_enter Tryz.func6, Tryz.ntmps6
    go_wp2_with fail
    refine (next8_nan x HX.out HN.out true w).mono ?_
    rintro e x1 ⟨rfl, hb⟩
    replace B0 := step B0 hb
    clear hb
    go_wp2_with fail
    refine (next8_nan x HX.out HN.out false x1).mono ?_
    rintro e x2 ⟨rfl, hb⟩
    replace B0 := step B0 hb
    clear hb
    go_wp2_with fail
    refine (rnext_nan x true HX.out HN.out x2).mono ?_
    rintro e x3 ⟨rfl, hb⟩
    replace B0 := step B0 hb
    clear hb
    go_wp2_with fail
    refine (rnext_nan x false HX.out HN.out x3).mono ?_
    rintro e x4 ⟨rfl, hb⟩
    replace B0 := step B0 hb
    clear hb
    go_wp2_with fail
    refine (awake8 x4).mono ?_
    rintro e x5 ⟨rfl, hb⟩
    replace B0 := step B0 hb
    clear hb
    go_wp2_with fail
    refine (one_same 0 _).mono ?_
    rintro e x6 ⟨rfl, hw⟩
    rw [hw]
    clear hw
    go_wp2_with fail
    refine (one_same 0 _).mono ?_
    rintro e x7 ⟨rfl, hw⟩
    rw [hw]
    clear hw
    go_wp2_with fail
    go_ret
    exact ⟨rfl, B0⟩
  ·
    have HF : Hid (Fr x) := ⟨by omega, hx⟩
    obtain ⟨U, hU⟩ : ∃ U, nx x true = U := ⟨_, rfl⟩
    obtain ⟨D, hD⟩ : ∃ D, nx x false = D := ⟨_, rfl⟩
    have HU : Hid (nx x true = U ∧ nx x false = D) := ⟨hU, hD⟩
    clear hn hx hU hD
    go_enter Tryz.func6, Tryz.ntmps6
    go_wp2_with fail
    refine (next8 x HF.out true w).mono ?_
    rintro e x1 ⟨rfl, hb⟩
    replace B0 := step B0 hb
    clear hb
    rw [HU.out.1]
    go_wp2_with fail
    refine (next8 x HF.out false x1).mono ?_
    rintro e x2 ⟨rfl, hb⟩
    replace B0 := step B0 hb
    clear hb
    rw [HU.out.2]
    go_wp2_with fail
    refine (rnext_up x HF.out x2).mono ?_
    rintro e x3 ⟨rfl, hb⟩
    replace B0 := step B0 hb
    clear hb
    rw [HU.out.1]
    go_wp2_with fail
    refine (rnext_down x HF.out x3).mono ?_
    rintro e x4 ⟨rfl, hb⟩
    replace B0 := step B0 hb
    clear hb
    rw [HU.out.2]
    go_wp2_with fail
    refine (awake8 x4).mono ?_
    rintro e x5 ⟨rfl, hb⟩
    replace B0 := step B0 hb
    clear hb
    go_wp2_with fail
    refine (one_same U _).mono ?_
    rintro e x6 ⟨rfl, hw⟩
    rw [hw]
    clear hw
    go_wp2_with fail
    refine (one_same D _).mono ?_
    rintro e x7 ⟨rfl, hw⟩
    rw [hw]
    clear hw
    go_wp2_with fail
    go_ret
    exact ⟨rfl, B0⟩
end Go.Proofs.YtjlodljgfjjclaaGreat
