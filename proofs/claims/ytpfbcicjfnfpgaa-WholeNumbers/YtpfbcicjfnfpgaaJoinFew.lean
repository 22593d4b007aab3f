/-
  joined of few digits; the greatest power of ten that a word holds.
-/
import Derived.Test.YtpfbcicjfnfpgaaSmallP
namespace Go.Proofs.Ytpfbcicjfnfpgaa
open Go.RowKit Go.Shelf
set_option linter.unusedVariables false

theorem far1 (w : World) (b : Nat) (v : Value) : ∀ c, c ≠ b → (w.setCell ⟨b, 0, none⟩ v).heap[c]? = w.heap[c]? := fun c hc => Below.heap_setCell _ ⟨b, 0, none⟩ _ _ hc
set_option maxHeartbeats 4000000 in
set_option maxRecDepth 20000 in
theorem joined_few (b off len cap : Nat) (D : Nat → Dg) (ab : Option Addr) (lb cb : Nat) (ys : List Int) (w : World) (hlen : len ≤ 2) (hbw : b < w.heap.size) (hc : ∀ j, j < len → w.cell? ⟨b, off + j, none⟩ = some (dv (D j))) (hD : ∀ j, Nt w (D j).1 (D j).2.1 (D j).2.2.1 (D j).2.2.2) (hy : Nt w ab lb cb ys) (hB : 1 ≤ num ys) :
    Calls Try.prog 54 #[.slice (some ⟨b, off, none⟩) len cap, .agg #[.slice ab lb cb]] w fun e W' => ∃ er a l c zs, e = .returned (.tuple #[.agg #[.slice a l c], .int .i64 er]) ∧ Nt W' a l c zs ∧ Hid (AdR (dsum (num ys) D (down len len)) er a l c zs) ∧ Below w.heap.size w W' := by
  have hl2 : ¬ (2 : Int) < len := by omega
  go_enter Try.func54, Try.ntmps54
  go_wp2_with fail
  refine wp_loop_rounds 1 ?_
  rw [rounds_succ]
  go_wp2_with fail
  refine ent3 w _ _ _ _ _ _ (Q := fun W => Calls Try.prog _ _ W _) ?_
  intro w0 B0 hs V0 V1 V2
  refine (callsIn_wide.1 (added_in b off len cap D ab lb cb ys w0 (by omega) (by omega) (fun j hj => (B0.cell (p := ⟨b, off + j, none⟩) hbw).trans (hc j hj)) (fun j => Nt.after B0 (hD j)) (Nt.after B0 hy) hB)).mono ?_
  rintro e w1 ⟨er, a, l, c, zs, rfl, h1, hA, hb1⟩
  replace V1 := Va.after hb1 V1
  replace V2 := Va.after hb1 V2
  replace B0 := step B0 hb1
  have c1 := V1.cell
  have f1 := V1.frozen 0
  have c2 := V2.cell
  have f2 := V2.frozen 0
  have u1 := (V1.set (.slice a l c)).other (p := ⟨w.heap.size + 1 + 1, 0, none⟩) (show w.heap.size + 1 ≠ w.heap.size + 1 + 1 by omega) (.int .i64 er)
  have u2 := (V2.other (p := ⟨w.heap.size + 1, 0, none⟩) (show w.heap.size + 1 + 1 ≠ w.heap.size + 1 by omega) (.slice a l c)).set (.int .i64 er)
  have n1 := (h1.far V1 (noInt1 _ _ _) (far1 _ _ (.slice a l c))).far (V2.other (p := ⟨w.heap.size + 1, 0, none⟩) (show w.heap.size + 1 + 1 ≠ w.heap.size + 1 by omega) (.slice a l c)) noIntE (far1 _ _ (.int .i64 er))
  have b1 := (B0.setCell (p := ⟨w.heap.size + 1, 0, none⟩) (show w.heap.size ≤ w.heap.size + 1 by omega) (.slice a l c)).setCell (p := ⟨w.heap.size + 1 + 1, 0, none⟩) (show w.heap.size ≤ w.heap.size + 1 + 1 by omega) (.int .i64 er)
  have H1 : Hid _ := u1
  have H2 : Hid _ := u2
  have H3 : Hid _ := n1
  have H4 : Hid _ := b1
  clear u1 u2 n1 b1 V0 hb1 h1
  go_wp2_with fail
  refine bodyPost_ret (results_ne rfl rfl H1.out rfl H2.out) rfl ?_
  exact ⟨er, a, l, c, zs, rfl, H3.out, hA, H4.out⟩

theorem p19 : ∀ s : Fin 64, (10 : Nat) ^ s.1 < 18446744073709551616 → 18446744073709551616 ≤ (10 : Nat) ^ s.1 * 10 → s.1 = 19 := by decide
theorem results_ctt {fn : Func} {i j k b : Nat} {v : Value} {tmps : Array Value} {w : World} (h : fn.results = #[.cell i 25, .tmp j, .tmp k]) (hi : tmps.getD i undef = .pointer (some ⟨b, 0, none⟩)) (hv : Va w b 25 #[v]) :
    (results fn tmps).run Try.prog w = .ok (.tuple #[.agg #[v], tmps.getD j undef, tmps.getD k undef]) w := by
  have c := hv.cell
  rw [Array.getD_eq_getD_getElem?] at hi
  simp [results, h, hi, c, go_sem]
theorem greatPower_ten (w : World) : Calls Try.prog 52 #[.int .i64 10] w fun e w' => e = .returned (.tuple #[.int .u64 10000000000000000000, .int .i64 19]) ∧ w' = w := by
  refine (greatPower_any 10 (by omega) (by omega) w).mono ?_
  rintro e w' ⟨s, rfl, hs, rfl⟩
  obtain ⟨h1, h2, h3, h4⟩ := hs.out
  have e1 : (10 : Int) ^ s = ((10 ^ s : Nat) : Int) := by rw [Int.natCast_pow]; rfl
  have e2 : s = 19 := p19 ⟨s, by omega⟩ (by rw [e1] at h3; show 10 ^ s < _; omega) (by rw [e1] at h4; show _ ≤ 10 ^ s * 10; omega)
  subst e2
  exact ⟨rfl, rfl⟩

end Go.Proofs.Ytpfbcicjfnfpgaa
