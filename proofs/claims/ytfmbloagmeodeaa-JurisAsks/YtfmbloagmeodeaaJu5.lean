/-
  juris: Within, Deep, Parent.
-/
import Derived.Test.YtfmbloagmeodeaaJu4
namespace Go.Proofs.Ytfmbloagmeodeaa
open Go.RowKit Go.Shelf
set_option linter.unusedVariables false
attribute [local go_sem] Oper.semAt_some

/-- What Within answers. -/
def wnB (ps : List Int) (i over : Int) : Bool := decide (∃ x ∈ pthZ ps i, (x : Int) = over)
theorem mem_vals {ps : List Int} {l : List (Pc ps)} {x : Pc ps} (h : x ∈ l) : x.1 ∈ vals l := List.mem_map.2 ⟨x, h, rfl⟩
theorem vals_mem {ps : List Int} {l : List (Pc ps)} {y : Nat} (h : y ∈ vals l) : ∃ x ∈ l, x.1 = y := by
  obtain ⟨x, h1, h2⟩ := List.mem_map.1 h
  exact ⟨x, h1, h2⟩
/-- What stands between two rounds of Within. -/
def WiI (w : World) (over : Int) {ps : List Int} (pre : List (Pc ps)) (W : World) : Prop := (Va W w.heap.size 3 #[.int .i64 over] ∧ Va W (w.heap.size + 1) 4 #[.bool false]) ∧ Below w.heap.size w W ∧ w.heap.size + 4 ≤ W.heap.size ∧ ∀ x ∈ pre, (x.1 : Int) ≠ over
def WiX (w : World) (over : Int) {ps : List Int} (c : Code) (pre : List (Pc ps)) (W : World) : Prop := c = .ret ∧ Va W (w.heap.size + 1) 4 #[.bool true] ∧ Below w.heap.size w W ∧ w.heap.size + 4 ≤ W.heap.size ∧ ∃ x ∈ pre, (x.1 : Int) = over
theorem wiI_own (w : World) (over : Int) (ps : List Int) (n : Nat) (hn : w.heap.size ≤ n) : OwnFrom n (WiI w over (ps := ps)) := by
  intro s W W' row hs hg hr
  obtain ⟨⟨h1, h2⟩, h3, h4, h5⟩ := hs
  exact ⟨⟨h1.own hg (fun r e => (hr r e).2), h2.own hg (fun r e => (hr r e).2)⟩, belowOwn hn hg (fun r e => (hr r e).1) h3 (by omega), Nat.le_trans h4 hg.size, h5⟩
theorem wiX_own (w : World) (over : Int) (ps : List Int) (n : Nat) (hn : w.heap.size ≤ n) (c : Code) : OwnFrom n (WiX w over (ps := ps) c) := by
  intro s W W' row hs hg hr
  obtain ⟨h0, h1, h3, h4, h5⟩ := hs
  exact ⟨h0, h1.own hg (fun r e => (hr r e).2), belowOwn hn hg (fun r e => (hr r e).1) h3 (by omega), Nat.le_trans h4 hg.size, h5⟩
theorem results_b {fn : Func} {j b : Nat} {t : TypeId} {x : Bool} {tmps : Array Value} {w : World} (h : fn.results = #[.cell j 4]) (hj : tmps.getD j undef = .pointer (some ⟨b, 0, none⟩)) (hv : w.cell? ⟨b, 0, none⟩ = some (.bool x)) :
    (results fn tmps).run Try.prog w = .ok (.bool x) w := by
  rw [Array.getD_eq_getD_getElem?] at hj
  simp [results, h, hj, hv, go_sem]
set_option maxRecDepth 100000 in
set_option maxHeartbeats 4000000 in
theorem within_any {w : World} {q a : Option Addr} {cap : Nat} {ps : List Int} {m : Bool} (h : Tv w q a ps.length cap ps m) (hT : Tre ps) (hl : ps.length ≤ 1000000) (i over : Int) :
    Calls Try.prog 22 #[.pointer q, .int .i64 i, .int .i64 over] w fun e w' => e = .returned (.bool (wnB ps i over)) ∧ Below w.heap.size w w' := by
  have HT : Hid (Tv w q a ps.length cap ps m) := h
  have hP := ptc_any hT i
  have HP : Hid (Ptc ps (stZ ps.length i) (pthZ ps i)) := hP
  have hlow := h.li.low
  clear h hP
  refine (callsIn_wide (n := 5)).1 ?_
  refine callsIn_of_wp_marks Try.func22 rfl trivial ?_ rfl
  simp only [Try.ntmps22, List.size_toArray, List.length_cons, List.length_nil, Nat.reduceAdd, Nat.reduceSub, Array.replicate_succ, Array.replicate_zero, List.push_toArray, List.append_toArray, List.nil_append, List.cons_append]
  gi_wp2_with (refine ⟨trivial, ?_⟩; gi_at_call 39; refine ent2 w _ _ _ _ (Q := fun W => CallsIn _ _ _ _ _ W _) ?_; intro W0 hB0 hs0 V0 V1; refine (callsIn_wide.2 (path_any (HT.out.after hB0) i)).mono ?_; rintro e W1 ⟨rfl, Vi, Vp, hB1, hs1⟩; rw [hs0] at Vi Vp hs1; unfold itp)
  have hBw : Below w.heap.size w W1 := step hB0 hB1
  have hLi := (HT.out.after hBw).li
  refine wpIn_rangeFunc_ownH rfl (show 1 ≤ 5 by omega) (gf := 48) (lb := #[.pointer (some ⟨w.heap.size + 2, 0, none⟩), .pointer (some ⟨w.heap.size + 2 + 1, 0, none⟩)]) rfl trivial (enters_of Try.func48 (by kernel_rfl) rfl)
    (path_stops Fence.wide (5 - 1) trivial rfl (by omega) (w.heap.size + 2) (w.heap.size + 2 + 1) w.heap.size a cap ps _ _ HP.out hl W1 hlow (by omega) Vi Vp hLi) kp2_t (kp2_b (by omega) (by omega)) (Below.refl _ _) (fun _ => rfl)
    (WiI w over) (WiX w over) (wiI_own w over ps _ (by omega)) (wiX_own w over ps _ (by omega)) ⟨⟨V0.after hB1, V1.after hB1⟩, hBw, by omega, fun x hx => by cases hx⟩
    (fun x a' W => a' = { tmps := #[.pointer q, .int .i64 i, .int .i64 over, undef, undef, .pointer (some ⟨w.heap.size, 0, none⟩), .pointer (some ⟨w.heap.size + 1, 0, none⟩), .int .i64 (x.1 : Int), .pointer q, .int .i64 i, .func (.func 48) #[] #[.pointer (some ⟨w.heap.size + 2, 0, none⟩), .pointer (some ⟨w.heap.size + 2 + 1, 0, none⟩)], .int .i64 (x.1 : Int), undef, undef, undef], defers := [] })
    (fun _ _ _ _ _ _ hs _ _ => hs)
    ?assign ?body ?done ?stop
  case assign =>
    rintro l pre x W K hI hK
    gi_wp2
    exact hK _ _ (KeepsFrom.refl _ _) (Kp2.refl _ _ _) hI rfl
  case body =>
    rintro l pre x a' W hl' ⟨r, hr⟩ ⟨⟨h1, h2⟩, h3, h4, h5⟩ rfl hlt
    have c0 := h1.cell
    have c1 := h2.cell
    have f1 := h2.frozen 0
    clear hl' hr hlt
    gi_wp2
    · rename_i hxy
      have e : (x.1 : Int) = over := eq_of_beq hxy
      exact ⟨(KeepsOthers.setCell _ _ _).from _, rfl, h2.set _, h3.setCell (p := ⟨w.heap.size + 1, 0, none⟩) (by simp) _, by simpa using h4, x, List.mem_append.2 (.inr (by simp)), e⟩
    · rename_i hxy
      refine ⟨KeepsFrom.refl _ _, Kp2.refl _ _ _, ⟨h1, h2⟩, h3, h4, fun z hz => ?_⟩
      rcases List.mem_append.1 hz with hz | hz
      · exact h5 z hz
      · simp at hz; subst hz
        intro e
        simp [e] at hxy
  case done =>
    rintro D ys W hD hys ⟨⟨h1, h2⟩, h3, h4, h5⟩ hK
    have c1 := h2.cell
    have f1 := h2.frozen 0
    gi_wp2
    have hK' := (KeepsOthers.setCell W ⟨w.heap.size + 1, 0, none⟩ (.bool false)).same D _ hK rfl
    refine ⟨by simp, .inl ⟨_, _, rfl, run_takeDeferred hK', ?_⟩⟩
    have hc5 := cell_kept (h2.set (.bool false)).cell (grownBy_putObj' _ D (.deferred none)) (fun r e => by cases e; exact ⟨_, hK', rfl⟩)
    refine ⟨.bool false, ?_, ?_, (h3.setCell (p := ⟨w.heap.size + 1, 0, none⟩) (by simp) _).trans (belowK_b (w := w) (Nat.le_refl _) _ D _ _ (by omega) hK' rfl rfl)⟩
    · simp [results, Try.f22, go_sem, hc5]
    · unfold wnB
      rw [decide_eq_false]
      rintro ⟨x, hx, e⟩
      rw [← hys] at hx
      obtain ⟨z, hz, rfl⟩ := vals_mem hx
      exact h5 z hz e
  case stop =>
    rintro D c pre W hD hpre ⟨rfl, h2, h3, h4, x, hx, e⟩ hK
    gi_wp2
    refine ⟨by simp, .inl ⟨_, _, rfl, run_takeDeferred hK, ?_⟩⟩
    have hc5 := cell_kept h2.cell (grownBy_putObj' _ D (.deferred none)) (fun r e => by cases e; exact ⟨_, hK, rfl⟩)
    refine ⟨.bool true, ?_, ?_, h3.trans (belowK_b (w := w) (Nat.le_refl _) W D _ _ (by omega) hK rfl rfl)⟩
    · simp [results, Try.f22, go_sem, hc5]
    · unfold wnB
      rw [decide_eq_true]
      exact ⟨x.1, hpre.subset (mem_vals hx), e⟩
end Go.Proofs.Ytfmbloagmeodeaa
