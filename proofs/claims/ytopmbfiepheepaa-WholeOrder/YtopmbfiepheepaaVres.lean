/-
  Results that lie in variables.
-/
import Derived.Test.YtopmbfiepheepaaVars
namespace Go.Proofs.Ytopmbfiepheepaa
open Go.RowKit Go.Shelf

theorem results_c {fn : Func} {i b : Nat} {v : Value} {tmps : Array Value} {w : World} (h : fn.results = #[.cell i 25]) (hi : tmps.getD i undef = .pointer (some ⟨b, 0, none⟩)) (hv : Va w b 25 #[v]) :
    (results fn tmps).run Try.prog w = .ok (.agg #[v]) w := by
  have c := hv.cell
  rw [Array.getD_eq_getD_getElem?] at hi
  simp [results, h, hi, c, go_sem]
theorem results_ct {fn : Func} {i j b : Nat} {v : Value} {tmps : Array Value} {w : World} (h : fn.results = #[.cell i 25, .tmp j]) (hi : tmps.getD i undef = .pointer (some ⟨b, 0, none⟩)) (hv : Va w b 25 #[v]) :
    (results fn tmps).run Try.prog w = .ok (.tuple #[.agg #[v], tmps.getD j undef]) w := by
  have c := hv.cell
  rw [Array.getD_eq_getD_getElem?] at hi
  simp [results, h, hi, c, go_sem]
theorem results_cct {fn : Func} {i j k b c : Nat} {v u : Value} {tmps : Array Value} {w : World} (h : fn.results = #[.cell i 25, .cell j 25, .tmp k]) (hi : tmps.getD i undef = .pointer (some ⟨b, 0, none⟩)) (hv : Va w b 25 #[v])
    (hj : tmps.getD j undef = .pointer (some ⟨c, 0, none⟩)) (hu : Va w c 25 #[u]) :
    (results fn tmps).run Try.prog w = .ok (.tuple #[.agg #[v], .agg #[u], tmps.getD k undef]) w := by
  have c := hv.cell; have d := hu.cell
  rw [Array.getD_eq_getD_getElem?] at hi hj
  simp [results, h, hi, hj, c, d, go_sem]
theorem results_cc {fn : Func} {i j b c : Nat} {v u : Value} {tmps : Array Value} {w : World} (h : fn.results = #[.cell i 25, .cell j 25]) (hi : tmps.getD i undef = .pointer (some ⟨b, 0, none⟩)) (hv : Va w b 25 #[v])
    (hj : tmps.getD j undef = .pointer (some ⟨c, 0, none⟩)) (hu : Va w c 25 #[u]) :
    (results fn tmps).run Try.prog w = .ok (.tuple #[.agg #[v], .agg #[u]]) w := by
  have c := hv.cell; have d := hu.cell
  rw [Array.getD_eq_getD_getElem?] at hi hj
  simp [results, h, hi, hj, c, d, go_sem]
end Go.Proofs.Ytopmbfiepheepaa
