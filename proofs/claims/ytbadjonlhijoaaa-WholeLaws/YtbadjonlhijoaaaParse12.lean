/-
  joined of few digits; Parse of the text 12 to the base 10.
-/
import Derived.Test.YtbadjonlhijoaaaRead12
namespace Go.Proofs.Ytbadjonlhijoaaa
open Go.RowKit Go.Shelf
set_option linter.unusedVariables false

theorem far1 (w : World) (b : Nat) (v : Value) : ∀ c, c ≠ b → (w.setCell ⟨b, 0, none⟩ v).heap[c]? = w.heap[c]? := fun c hc => Below.heap_setCell _ ⟨b, 0, none⟩ _ _ hc
set_option maxHeartbeats 4000000 in
set_option maxRecDepth 20000 in
theorem joined_few (b off len cap : Nat) (D : Nat → Dg) (ab : Option Addr) (lb cb : Nat) (ys : List Int) (w : World) (hlen : len ≤ 2) (hbw : b < w.heap.size) (hc : ∀ j, j < len → w.cell? ⟨b, off + j, none⟩ = some (dv (D j))) (hD : ∀ j, Nt w (D j).1 (D j).2.1 (D j).2.2.1 (D j).2.2.2) (hy : Nt w ab lb cb ys) (hB : 1 ≤ num ys) :
    Calls Try.prog 51 #[.slice (some ⟨b, off, none⟩) len cap, .agg #[.slice ab lb cb]] w fun e W' => ∃ er a l c zs, e = .returned (.tuple #[.agg #[.slice a l c], .int .i64 er]) ∧ Nt W' a l c zs ∧ Hid (AdR (dsum (num ys) D (down len len)) er a l c zs) ∧ Below w.heap.size w W' := by
  have hl2 : ¬ (2 : Int) < len := by omega
  go_enter Try.func51, Try.ntmps51
  go_wp2_with fail
  refine wp_loop_rounds 1 ?_
  rw [rounds_succ]
  go_wp2_with fail
  refine ent3 w _ _ _ _ _ _ (Q := fun W => Calls Try.prog _ _ W _) ?_
  intro w0 B0 hs V0 V1 V2
  refine (callsIn_wide.1 (added_in b off len cap D ab lb cb ys w0 (by omega) (by omega) (fun j hj => (B0.cell (p := ⟨b, off + j, none⟩) hbw).trans (hc j hj)) (fun j => Nt.after B0 (hD j)) (Nt.after B0 hy) hB)).mono ?_
  rintro e w1 ⟨er, a, l, c, zs, rfl, h1, hA, hb1⟩
  replace V1 := Va.after hb1 V1
  replace V2 := Va.after hb1 V2
  replace B0 := step B0 hb1
  have c1 := V1.cell
  have f1 := V1.frozen 0
  have c2 := V2.cell
  have f2 := V2.frozen 0
  have u1 := (V1.set (.slice a l c)).other (p := ⟨w.heap.size + 1 + 1, 0, none⟩) (show w.heap.size + 1 ≠ w.heap.size + 1 + 1 by omega) (.int .i64 er)
  have u2 := (V2.other (p := ⟨w.heap.size + 1, 0, none⟩) (show w.heap.size + 1 + 1 ≠ w.heap.size + 1 by omega) (.slice a l c)).set (.int .i64 er)
  have n1 := (h1.far V1 (noInt1 _ _ _) (far1 _ _ (.slice a l c))).far (V2.other (p := ⟨w.heap.size + 1, 0, none⟩) (show w.heap.size + 1 + 1 ≠ w.heap.size + 1 by omega) (.slice a l c)) noIntE (far1 _ _ (.int .i64 er))
  have b1 := (B0.setCell (p := ⟨w.heap.size + 1, 0, none⟩) (show w.heap.size ≤ w.heap.size + 1 by omega) (.slice a l c)).setCell (p := ⟨w.heap.size + 1 + 1, 0, none⟩) (show w.heap.size ≤ w.heap.size + 1 + 1 by omega) (.int .i64 er)
  have H1 : Hid _ := u1
  have H2 : Hid _ := u2
  have H3 : Hid _ := n1
  have H4 : Hid _ := b1
  clear u1 u2 n1 b1 V0 hb1 h1
  go_wp2_with fail
  refine bodyPost_ret (results_ne rfl rfl H1.out rfl H2.out) rfl ?_
  exact ⟨er, a, l, c, zs, rfl, H3.out, hA, H4.out⟩

theorem p19 : ∀ s : Fin 64, (10 : Nat) ^ s.1 < 18446744073709551616 → 18446744073709551616 ≤ (10 : Nat) ^ s.1 * 10 → s.1 = 19 := by decide
theorem results_ctt {fn : Func} {i j k b : Nat} {v : Value} {tmps : Array Value} {w : World} (h : fn.results = #[.cell i 25, .tmp j, .tmp k]) (hi : tmps.getD i undef = .pointer (some ⟨b, 0, none⟩)) (hv : Va w b 25 #[v]) :
    (results fn tmps).run Try.prog w = .ok (.tuple #[.agg #[v], tmps.getD j undef, tmps.getD k undef]) w := by
  have c := hv.cell
  rw [Array.getD_eq_getD_getElem?] at hi
  simp [results, h, hi, c, go_sem]
theorem greatPower_ten (w : World) : Calls Try.prog 49 #[.int .i64 10] w fun e w' => e = .returned (.tuple #[.int .u64 10000000000000000000, .int .i64 19]) ∧ w' = w := by
  refine (greatPower_any 10 (by omega) (by omega) w).mono ?_
  rintro e w' ⟨s, rfl, hs, rfl⟩
  obtain ⟨h1, h2, h3, h4⟩ := hs.out
  have e1 : (10 : Int) ^ s = ((10 ^ s : Nat) : Int) := by rw [Int.natCast_pow]; rfl
  have e2 : s = 19 := p19 ⟨s, by omega⟩ (by rw [e1] at h3; show 10 ^ s < _; omega) (by rw [e1] at h4; show _ ≤ 10 ^ s * 10; omega)
  subst e2
  exact ⟨rfl, rfl⟩

set_option maxHeartbeats 4000000 in
set_option maxRecDepth 20000 in
theorem parse12 (w : World) :
    Calls Try.prog 30 #[.string ⟨#[49, 50]⟩, .int .i64 10] w fun e W' => ∃ a l c zs, e = .returned (.tuple #[.agg #[.slice a l c], .int .i64 0, .int .i64 0]) ∧ Nt W' a l c zs ∧ num zs = 12 ∧ Below w.heap.size w W' := by
  go_enter Try.func30, Try.ntmps30
  go_wp2_with fail
  refine ent1 w _ _ (Q := fun W => Calls Try.prog _ _ W _) ?_
  intro w0 B0 hs V0
  refine (isBase_any 10 (by omega) (by omega) w0).mono ?_
  rintro e w' ⟨rfl, rfl⟩
  go_wp2_with fail
  refine (greatPower_ten _).mono ?_
  rintro e w' ⟨rfl, rfl⟩
  go_wp2_with fail
  refine (read12 _).mono ?_
  rintro e w1 ⟨g, cap, p, m, k, zs, rfl, hg, hcell, hN, hn, hb1⟩
  replace V0 := Va.after hb1 V0
  replace B0 := step B0 hb1
  go_wp2_with fail
  refine (small_pos 10000000000000000000 ⟨by omega, by omega⟩ (by omega) _).mono ?_
  rintro e w2 ⟨rfl, h2, hb2⟩
  have hN2 := Nt.after hb2 hN
  have hc2 := (hb2.cell (p := ⟨g, 0, none⟩) hg).trans hcell
  have hg2 : g < w2.heap.size := Nat.lt_of_lt_of_le hg hb2.size
  replace V0 := Va.after hb2 V0
  replace B0 := step B0 hb2
  go_wp2_with fail
  refine (joined_few g 0 1 cap (fun _ => (p, m, k, zs)) _ _ _ [10000000000000000000] w2 (by omega) hg2 (fun j hj => by (obtain rfl : j = 0 := (by omega)); exact hc2) (fun _ => hN2) h2 (by simp [num])).mono ?_
  rintro e w3 ⟨er, a, l, c, ws, rfl, h3, hA, hb3⟩
  have hv : dsum (num [10000000000000000000]) (fun _ => ((p, m, k, zs) : Dg)) (down 1 1) = 12 := by
    show 0 * _ + num zs = 12
    omega
  have hlt := hN2.lt
  rw [hn] at hlt
  have hR : er = 0 ∧ num ws = 12 := by
    rcases hA.out with ⟨h, h', -⟩ | ⟨-, -, -, -, -, h⟩
    · exact ⟨h, h'.trans hv⟩
    · rw [hv] at h; generalize pw 4096 = P at *; omega
  obtain ⟨rfl, hw⟩ := hR
  replace V0 := Va.after hb3 V0
  replace B0 := step B0 hb3
  clear hA hv hlt hN2 hN hc2 hcell h2
  have c0 := V0.cell
  have f0 := V0.frozen 0
  have l0 := V0.lt
  have m0 := Nat.le_of_lt l0
  go_wp2_with fail
  have B1 := B0.setCell (p := ⟨w.heap.size, 0, none⟩) (Nat.le_refl _) (.slice a l c)
  refine bodyPost_ret (results_ctt rfl rfl ((V0.set _).old _)) rfl ?_
  exact ⟨a, l, c, ws, rfl, (h3.store V0 _).al' _, hw, B1.alloc B1.size _⟩
end Go.Proofs.Ytbadjonlhijoaaa
