/-
  joined of few digits; the greatest power of ten that a word holds.
-/
import Derived.Test.YtpfbcicjfnfpgaaDoorSmallP
namespace Go.Proofs.YtpfbcicjfnfpgaaDoor
open Go.RowKit Go.Shelf
set_option linter.unusedVariables false

theorem far1 (w : World) (b : Nat) (v : Value) : ∀ c, c ≠ b → (w.setCell ⟨b, 0, none⟩ v).heap[c]? = w.heap[c]? := fun c hc => Below.heap_setCell _ ⟨b, 0, none⟩ _ _ hc
theorem p19 : ∀ s : Fin 64, (10 : Nat) ^ s.1 < 18446744073709551616 → 18446744073709551616 ≤ (10 : Nat) ^ s.1 * 10 → s.1 = 19 := by decide
theorem results_ctt {fn : Func} {i j k b : Nat} {v : Value} {tmps : Array Value} {w : World} (h : fn.results = #[.cell i 26, .tmp j, .tmp k]) (hi : tmps.getD i undef = .pointer (some ⟨b, 0, none⟩)) (hv : Va w b 26 #[v]) :
    (results fn tmps).run Tryd.prog w = .ok (.tuple #[.agg #[v], tmps.getD j undef, tmps.getD k undef]) w := by
  have c := hv.cell
  rw [Array.getD_eq_getD_getElem?] at hi
  simp [results, h, hi, c, go_sem]
theorem greatPower_ten (w : World) : Calls Tryd.prog 17 #[.int .i64 10] w fun e w' => e = .returned (.tuple #[.int .u64 10000000000000000000, .int .i64 19]) ∧ w' = w := by
  refine (greatPower_any 10 (by omega) (by omega) w).mono ?_
  rintro e w' ⟨s, rfl, hs, rfl⟩
  obtain ⟨h1, h2, h3, h4⟩ := hs.out
  have e1 : (10 : Int) ^ s = ((10 ^ s : Nat) : Int) := by rw [Int.natCast_pow]; rfl
  have e2 : s = 19 := p19 ⟨s, by omega⟩ (by rw [e1] at h3; show 10 ^ s < _; omega) (by rw [e1] at h4; show _ ≤ 10 ^ s * 10; omega)
  subst e2
  exact ⟨rfl, rfl⟩

end Go.Proofs.YtpfbcicjfnfpgaaDoor
