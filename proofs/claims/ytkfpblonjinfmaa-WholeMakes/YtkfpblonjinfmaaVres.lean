/-
  Results that lie in variables.
-/
import Derived.Test.YtkfpblonjinfmaaVars
namespace Go.Proofs.Ytkfpblonjinfmaa
open Go.RowKit Go.Shelf

theorem results_c {fn : Func} {i b : Nat} {v : Value} {tmps : Array Value} {w : World} (h : fn.results = #[.cell i 26]) (hi : tmps.getD i undef = .pointer (some ⟨b, 0, none⟩)) (hv : Va w b 26 #[v]) :
    (results fn tmps).run Try.prog w = .ok (.agg #[v]) w := by
  have c := hv.cell
  rw [Array.getD_eq_getD_getElem?] at hi
  simp [results, h, hi, c, go_sem]
theorem results_ct {fn : Func} {i j b : Nat} {v : Value} {tmps : Array Value} {w : World} (h : fn.results = #[.cell i 26, .tmp j]) (hi : tmps.getD i undef = .pointer (some ⟨b, 0, none⟩)) (hv : Va w b 26 #[v]) :
    (results fn tmps).run Try.prog w = .ok (.tuple #[.agg #[v], tmps.getD j undef]) w := by
  have c := hv.cell
  rw [Array.getD_eq_getD_getElem?] at hi
  simp [results, h, hi, c, go_sem]
theorem results_cct {fn : Func} {i j k b c : Nat} {v u : Value} {tmps : Array Value} {w : World} (h : fn.results = #[.cell i 26, .cell j 26, .tmp k]) (hi : tmps.getD i undef = .pointer (some ⟨b, 0, none⟩)) (hv : Va w b 26 #[v])
    (hj : tmps.getD j undef = .pointer (some ⟨c, 0, none⟩)) (hu : Va w c 26 #[u]) :
    (results fn tmps).run Try.prog w = .ok (.tuple #[.agg #[v], .agg #[u], tmps.getD k undef]) w := by
  have c := hv.cell; have d := hu.cell
  rw [Array.getD_eq_getD_getElem?] at hi hj
  simp [results, h, hi, hj, c, d, go_sem]
theorem results_cc {fn : Func} {i j b c : Nat} {v u : Value} {tmps : Array Value} {w : World} (h : fn.results = #[.cell i 26, .cell j 26]) (hi : tmps.getD i undef = .pointer (some ⟨b, 0, none⟩)) (hv : Va w b 26 #[v])
    (hj : tmps.getD j undef = .pointer (some ⟨c, 0, none⟩)) (hu : Va w c 26 #[u]) :
    (results fn tmps).run Try.prog w = .ok (.tuple #[.agg #[v], .agg #[u]]) w := by
  have c := hv.cell; have d := hu.cell
  rw [Array.getD_eq_getD_getElem?] at hi hj
  simp [results, h, hi, hj, c, d, go_sem]
end Go.Proofs.Ytkfpblonjinfmaa
