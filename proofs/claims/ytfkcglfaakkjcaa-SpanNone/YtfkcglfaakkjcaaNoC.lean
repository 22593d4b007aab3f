/-
  rows of a line with no entries; New of no entries.
-/
import Derived.Test.YtfkcglfaakkjcaaNoB
namespace Go.Proofs.Ytfkcglfaakkjcaa
open Go.RowKit Go.Shelf
set_option linter.unusedVariables false
attribute [local go_sem] Oper.semAt_some

theorem results_nf {fn : Func} {i j b : Nat} {x y : Value} {tmps : Array Value} {w : World} (h : fn.results = #[.tmp i, .cell j 53]) (hj : tmps.getD j undef = .pointer (some ⟨b, 0, none⟩)) (hv : Va w b 53 #[x, y]) :
    (results fn tmps).run Try.prog w = .ok (.tuple #[tmps.getD i undef, .agg #[x, y]]) w := by
  have c := hv.c0; have d := hv.c1
  rw [Array.getD_eq_getD_getElem?] at hj
  simp [results, h, hj, c, d, go_sem]
theorem new_no (w : World) : Calls Try.prog 29 #[.slice none 0 0] w fun e w' => ∃ p, e = .returned (.tuple #[.pointer (some ⟨p, 0, none⟩), .agg #[.int .i64 0, .int .i64 0]]) ∧ Va w' p 97 #[.slice none 0 0] ∧ Below w.heap.size w w' := by
  go_enter Try.func29, Try.ntmps29
  go_wp2_with fail
  refine wp_loop_rounds 1 ?_
  rw [rounds_succ]
  go_wp2_with fail
  refine wp_loop_rounds 1 ?_
  rw [rounds_succ]
  go_wp2_with fail
  refine wp_loop_rounds 1 ?_
  rw [rounds_succ]
  go_wp2_with fail
  refine ent4 w _ _ _ _ _ _ _ _ (Q := fun W => bodyPost _ _ _ _ _ W) ?_
  intro W0 hB0 hsz V0 V1 V2 V3
  exact bodyPost_ret (results_nf rfl rfl V1) rfl ⟨_, rfl, V3, hB0⟩
/-- What stands: no round has been. -/
def RwI (w : World) (pre : List Nat) (W : World) : Prop := pre = [] ∧ Va W (w.heap.size + 1) 61 #[.slice none 0 0] ∧ Va W (w.heap.size + 1 + 1) 4 #[.bool false] ∧ Va W (w.heap.size + 1 + 1 + 1) 3 #[.int .i64 0] ∧ Below w.heap.size w W
theorem rwI_own (w : World) (n : Nat) (hn : w.heap.size ≤ n) : OwnFrom n (RwI w) := by
  intro s W W' row hs hg hr
  obtain ⟨h0, h1, h2, h3, h5⟩ := hs
  exact ⟨h0, h1.own hg (fun r e => (hr r e).2), h2.own hg (fun r e => (hr r e).2), h3.own hg (fun r e => (hr r e).2), belowOwn hn hg (fun r e => (hr r e).1) h5 h5.size⟩
set_option maxRecDepth 100000 in
set_option maxHeartbeats 2000000 in
theorem rows_no (B : Nat) (w : World) (V : Va w B 49 #[.slice none 0 0]) :
    CallsIn Fence.wide 5 Try.prog 34 #[itl B, .slice none 0 0, .slice none 0 0] w fun e w' => e = .returned (.bool true) ∧ Below w.heap.size w w' := by
  have en := eql_itl
  refine callsIn_of_wp_marks Try.func34 rfl trivial ?_ rfl
  unfold itl
  simp only [Try.ntmps34, List.size_toArray, List.length_cons, List.length_nil, Nat.reduceAdd, Nat.reduceSub, Array.replicate_succ, Array.replicate_zero, List.push_toArray, List.append_toArray, List.nil_append, List.cons_append]
  gi_wp2
  refine ent4 w _ _ _ _ _ _ _ _ (Q := fun W => Code.wpIn Fence.wide 5 Try.prog _ _ _ W) ?_
  intro W0 hB0 hsz V0 V1 V2 V3
  refine wpIn_rangeFunc_ownH rfl (show 1 ≤ 5 by omega) (gf := 63) (lb := #[.pointer (some ⟨B, 0, none⟩)]) rfl trivial (enters_of Try.func63 (by kernel_rfl) rfl)
    (all1_no (5 - 1) (by omega) B w.heap.size W0 (V.after hB0).lt (V.after hB0)) belowK_t (belowK_b (by omega)) (Below.refl _ _) (fun _ => rfl)
    (RwI w) (fun _ _ _ => False) (rwI_own w _ (by omega)) (fun _ _ _ _ _ hs _ _ => hs) ⟨rfl, V1, V2, V3, hB0⟩
    (fun x a' W => True)
    (fun x a' _ X Y row hs hg hr => trivial)
    ?assign ?body ?done ?stop
  case assign =>
    rintro l pre x W K hI hK
    gi_wp2
    refine hK _ _ ((KeepsOthers.alloc _ _).from _) ((Below.refl _ W).alloc hI.2.2.2.2.size _) ?_ trivial
    exact rwI_own w W.heap.size hI.2.2.2.2.size _ _ _ none hI (World.grownBy_alloc W _ none) (fun r e => by cases e)
  case body =>
    rintro l pre x a' W hl hr hI hS hlt
    exact absurd hlt (Nat.not_lt_zero _)
  case stop =>
    rintro D c pre W hD hS h hK
    exact h.elim
  case done =>
    rintro D ys W hD rfl ⟨-, h1, h2, h3, hB1⟩ hK
    have q1 := h1.cell
    have q2 := h2.cell
    have f2 := h2.frozen 0
    have q3 := h3.cell
    gi_wp2
    have HK3 : (W.setCell ⟨w.heap.size + 1 + 1, 0, none⟩ (.bool true)).heap[D]? = some (.deferred (some [])) := (heap_setCell_other W ⟨w.heap.size + 1 + 1, 0, none⟩ D _ (show D ≠ w.heap.size + 1 + 1 by omega)).trans hK
    refine ⟨by simp, .inl ⟨_, _, rfl, run_takeDeferred HK3, ?_⟩⟩
    refine ⟨_, results_cb rfl rfl (putV (h2.set _) HK3 rfl), rfl, ?_⟩
    have hb4 : Below w.heap.size w (W.setCell ⟨w.heap.size + 1 + 1, 0, none⟩ (.bool true)) := hB1.setCell (p := ⟨w.heap.size + 1 + 1, 0, none⟩) (show w.heap.size ≤ w.heap.size + 1 + 1 by omega) _
    exact hb4.trans (belowK_b (w := w) (Nat.le_refl _) _ D _ _ (by omega) HK3 rfl rfl)
end Go.Proofs.Ytfkcglfaakkjcaa
