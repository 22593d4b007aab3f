/-
  juris: Meet.
-/
import Derived.Test.YtfmbloagmeodeaaJu6
namespace Go.Proofs.Ytfmbloagmeodeaa
open Go.RowKit Go.Shelf
set_option linter.unusedVariables false
attribute [local go_sem] Oper.semAt_some

/-- Which places have come. -/
def ofL (l : List Nat) : Nat → Bool := fun k => decide (k ∈ l)
theorem ofL_snoc (l : List Nat) (x : Nat) : upd (ofL l) x = ofL (l ++ [x]) := by
  funext k
  unfold upd ofL
  by_cases h : k = x
  · simp [h]
  · simp [h]
/-- The variables of Meet. -/
def MeV (w : World) (n : Nat) (l : List Nat) (m : Int) (ok : Bool) (W : World) : Prop :=
  Va W w.heap.size 3 #[.int .i64 m] ∧ Va W (w.heap.size + 1) 4 #[.bool ok] ∧ Ow 4 Value.bool W (w.heap.size + 2) (bR (ofL l) n) ∧ Va W (w.heap.size + 2 + 1) 67 #[.slice (some ⟨w.heap.size + 2, 0, none⟩) n n] ∧ Below w.heap.size w W ∧ w.heap.size + 6 ≤ W.heap.size
theorem MeV.own {w : World} {n : Nat} {l : List Nat} {m : Int} {ok : Bool} {W W' : World} {k : Nat} {row : Option Nat} (hs : MeV w n l m ok W) (hn : w.heap.size ≤ k) (hg : W.grownBy W' row) (hr : ∀ r, row = some r → k ≤ r ∧ ∃ o : Obj, W.heap[r]? = some o ∧ o.isCells = false) : MeV w n l m ok W' := by
  obtain ⟨h1, h2, h3, h4, h5, h6⟩ := hs
  exact ⟨h1.own hg (fun r e => (hr r e).2), h2.own hg (fun r e => (hr r e).2), Va.own hg (fun r e => (hr r e).2) h3, h4.own hg (fun r e => (hr r e).2), belowOwn hn hg (fun r e => (hr r e).1) h5 (by omega), Nat.le_trans h6 hg.size⟩
/-- What Meet answers: the first of the one's path that is on the other's. -/
def MeR (P Q : List Nat) (m : Int) (ok : Bool) : Prop := (ok = false ∧ m = 0 ∧ ∀ x ∈ Q, x ∉ P) ∨ (ok = true ∧ ∃ (pre : List Nat) (x : Nat), m = x ∧ (pre ++ [x]) <+: Q ∧ x ∈ P ∧ ∀ y ∈ pre, y ∉ P)
theorem results_ib {fn : Func} {i j b c : Nat} {x y : Value} {tmps : Array Value} {w : World} (h : fn.results = #[.cell i 3, .cell j 4]) (hi : tmps.getD i undef = .pointer (some ⟨b, 0, none⟩)) (hj : tmps.getD j undef = .pointer (some ⟨c, 0, none⟩)) (hx : w.cell? ⟨b, 0, none⟩ = some x) (hy : w.cell? ⟨c, 0, none⟩ = some y) :
    (results fn tmps).run Try.prog w = .ok (.tuple #[x, y]) w := by
  rw [Array.getD_eq_getD_getElem?] at hi hj
  simp [results, h, hi, hj, hx, hy, go_sem]
set_option maxRecDepth 100000 in
set_option maxHeartbeats 4000000 in
theorem meet_any {w : World} {q a : Option Addr} {cap : Nat} {ps : List Int} {m : Bool} (h : Tv w q a ps.length cap ps m) (hT : Tre ps) (hl : ps.length ≤ 1000000) (i k : Int) :
    Calls Try.prog 21 #[.pointer q, .int .i64 i, .int .i64 k] w fun e w' => (∃ mm ok, e = .returned (.tuple #[.int .i64 mm, .bool ok]) ∧ MeR (pthZ ps i) (pthZ ps k) mm ok) ∧ Below w.heap.size w w' := by
  have HT : Hid (Tv w q a ps.length cap ps m) := h
  have HP : Hid (Ptc ps (stZ ps.length i) (pthZ ps i)) := ptc_any hT i
  have HQ : Hid (Ptc ps (stZ ps.length k) (pthZ ps k)) := ptc_any hT k
  have hlow := h.li.low
  have hm := make_bool ps.length (by omega)
  clear h
  refine (callsIn_wide (n := 5)).1 ?_
  refine callsIn_of_wp_marks Try.func21 rfl trivial ?_ rfl
  simp only [Try.ntmps21, List.size_toArray, List.length_cons, List.length_nil, Nat.reduceAdd, Nat.reduceSub, Array.replicate_succ, Array.replicate_zero, List.push_toArray, List.append_toArray, List.nil_append, List.cons_append]
  gi_wp2_with (first
    | (refine ⟨trivial, ?_⟩; gi_at_call 10; refine ent2 w _ _ _ _ (Q := fun W => CallsIn _ _ _ _ _ W _) ?_; intro W0 hB0 hs0 V0 V1; refine (callsIn_wide.2 (len_any (HT.out.after hB0))).mono ?_; rintro e w1 ⟨rfl, hw⟩; rw [hw]; clear hw w1)
    | (refine ⟨trivial, ?_⟩; gi_at_call 39; refine ent2 W0 _ _ _ _ (Q := fun W => CallsIn _ _ _ _ _ W _) ?_; intro W1 hB1 hs1 V2 V3; have hBa := step hB0 hB1; refine (callsIn_wide.2 (path_any (HT.out.after hBa) i)).mono ?_; rintro e W2 ⟨rfl, Vi, Vp, hB2, hs2⟩; rw [hs1, hs0] at Vi Vp hs2; rw [hs0] at V2 V3; unfold itp))
  have hBw : Below w.heap.size w W2 := step hBa hB2
  have hLi := (HT.out.after hBw).li
  have hM0 : MeV w ps.length [] 0 false W2 := ⟨(V0.after hB1).after hB2, (V1.after hB1).after hB2, by
    show Va _ _ _ _
    rw [show bR (ofL []) ps.length = List.replicate ps.length false from by rw [mr_zero]; rfl]
    simpa using V2.after hB2, V3.after hB2, hBw, by omega⟩
  clear V0 V1 V2 V3 hm
  refine wpIn_rangeFunc_ownH rfl (show 1 ≤ 5 by omega) (gf := 48) (lb := #[.pointer (some ⟨w.heap.size + 2 + 2, 0, none⟩), .pointer (some ⟨w.heap.size + 2 + 2 + 1, 0, none⟩)]) rfl trivial (enters_of Try.func48 (by kernel_rfl) rfl)
    (path_stops Fence.wide (5 - 1) trivial rfl (by omega) (w.heap.size + 2 + 2) (w.heap.size + 2 + 2 + 1) w.heap.size a cap ps _ _ HP.out hl W2 hlow (by omega) Vi Vp hLi) kp2_t (kp2_b (by omega) (by omega)) (Below.refl _ _) (fun _ => rfl)
    (fun pre W => MeV w ps.length (vals pre) 0 false W) (fun _ _ _ => False) (fun s W W' row hs hg hr => MeV.own hs (by omega) hg hr) (fun _ _ _ _ _ hs _ _ => hs) hM0
    (fun x a' W => a' = { tmps := #[.pointer q, .int .i64 i, .int .i64 k, undef, undef, undef, .pointer (some ⟨w.heap.size, 0, none⟩), .pointer (some ⟨w.heap.size + 1, 0, none⟩), .pointer (some ⟨w.heap.size + 2 + 1, 0, none⟩), .int .i64 (x.1 : Int), undef, .pointer q, .int .i64 (ps.length : Int), .slice (some ⟨w.heap.size + 2, 0, none⟩) ps.length ps.length, .pointer q, .int .i64 i, .func (.func 48) #[] #[.pointer (some ⟨w.heap.size + 2 + 2, 0, none⟩), .pointer (some ⟨w.heap.size + 2 + 2 + 1, 0, none⟩)], .int .i64 (x.1 : Int), undef, undef, undef, undef, undef, undef, undef, undef, undef, undef, undef, undef], defers := [] })
    (fun _ _ _ _ _ _ hs _ _ => hs)
    ?assign ?body ?done ?stop
  case assign =>
    rintro l pre x W K hI hK
    gi_wp2
    exact hK _ _ (KeepsFrom.refl _ _) (Kp2.refl _ _ _) hI (by simp)
  case body =>
    rintro l pre x a' W hl' ⟨r, hr⟩ ⟨h1, h2, h3, h4, h5, h6⟩ rfl hlt
    have c3 := h4.cell
    have c2 := h3.cell x.1 true (by simp [bR, x.2])
    have f2 := h3.frozen x.1
    have hxi : (x.1 : Int) < ps.length := by have := x.2; omega
    clear hl' hr hlt
    gi_wp2
    refine ⟨(KeepsOthers.setCell _ _ _).from _, Kp2.set W (p := ⟨w.heap.size + 2, x.1, none⟩) (by simp) (by simp <;> omega) _, h1.other (p := ⟨w.heap.size + 2, x.1, none⟩) (by simp) _, h2.other (p := ⟨w.heap.size + 2, x.1, none⟩) (by simp) _, ?_, h4.other (p := ⟨w.heap.size + 2, x.1, none⟩) (by simp) _, h5.setCell (p := ⟨w.heap.size + 2, x.1, none⟩) (by simp) _, by simpa using h6⟩
    have h9 := h3.set x.1 true _ rfl
    rw [bR_set, ofL_snoc] at h9
    rw [vals_snoc]
    exact h9
  case stop =>
    rintro D c pre W hD hpre h hK
    exact h.elim
  case done =>
    rintro D1 ys W hD1 hys hM hK1
    rw [hys] at hM
    have hBx := hM.2.2.2.2.1
    have hszx := hM.2.2.2.2.2
    have hD1l : D1 < W.heap.size := (Array.getElem?_eq_some_iff.1 hK1).1
    clear hM0 Vi Vp hLi hBw hB2 hBa hB1 hB0
    gi_wp2_with (refine ⟨trivial, ?_⟩; gi_at_call 39; refine (callsIn_wide.2 (path_any (HT.out.after hBx) k)).mono ?_; rintro e W3 ⟨rfl, Vi, Vp, hB3, hs3⟩; unfold itp)
    have hBw : Below w.heap.size w W3 := step hBx hB3
    have hLi := (HT.out.after hBw).li
    have hM3 : MeV w ps.length (pthZ ps i) 0 false W3 := by
      obtain ⟨h1, h2, h3, h4, h5, h6⟩ := hM
      exact ⟨h1.after hB3, h2.after hB3, h3.after hB3, h4.after hB3, hBw, by omega⟩
    have hK3 : W3.heap[D1]? = some (.deferred (some [])) := (hB3.block D1 hD1l).trans hK1
    clear hM hK1
    refine wpIn_rangeFunc_ownH rfl (show 1 ≤ 5 by omega) (gf := 48) (lb := #[.pointer (some ⟨W.heap.size, 0, none⟩), .pointer (some ⟨W.heap.size + 1, 0, none⟩)]) rfl trivial (enters_of Try.func48 (by kernel_rfl) rfl)
      (path_stops Fence.wide (5 - 1) trivial rfl (by omega) W.heap.size (W.heap.size + 1) w.heap.size a cap ps _ _ HQ.out hl W3 hlow (by omega) Vi Vp hLi) kp2_t (kp2_b (by omega) (by omega)) (Below.refl _ _) (fun _ => rfl)
      (fun pre W' => MeV w ps.length (pthZ ps i) 0 false W' ∧ W'.heap[D1]? = some (.deferred (some [])) ∧ ∀ x ∈ vals pre, x ∉ pthZ ps i)
      (fun c pre W' => c = .ret ∧ W'.heap[D1]? = some (.deferred (some [])) ∧ ∃ (pre' : List Nat) (x : Nat), MeV w ps.length (pthZ ps i) x true W' ∧ vals pre = pre' ++ [x] ∧ x ∈ pthZ ps i ∧ ∀ y ∈ pre', y ∉ pthZ ps i)
      (fun s X X' row hs hg hr => ⟨MeV.own hs.1 (by omega) hg hr, (hg.block D1 (Array.getElem?_eq_some_iff.1 hs.2.1).1 (fun e => by have := (hr D1 e.symm).1; omega)).trans hs.2.1, hs.2.2⟩)
      (fun c s X X' row hs hg hr => by
        obtain ⟨h1, h2, pre', x, h3, h4⟩ := hs
        exact ⟨h1, (hg.block D1 (Array.getElem?_eq_some_iff.1 h2).1 (fun e => by have := (hr D1 e.symm).1; omega)).trans h2, pre', x, MeV.own h3 (by omega) hg hr, h4⟩)
      ⟨hM3, hK3, fun x hx => by cases hx⟩
      (fun x a' W' => a' = { tmps := #[.pointer q, .int .i64 i, .int .i64 k, undef, undef, undef, .pointer (some ⟨w.heap.size, 0, none⟩), .pointer (some ⟨w.heap.size + 1, 0, none⟩), .pointer (some ⟨w.heap.size + 2 + 1, 0, none⟩), undef, .int .i64 (x.1 : Int), .pointer q, .int .i64 (ps.length : Int), .slice (some ⟨w.heap.size + 2, 0, none⟩) ps.length ps.length, .pointer q, .int .i64 i, .func (.func 48) #[] #[.pointer (some ⟨w.heap.size + 2 + 2, 0, none⟩), .pointer (some ⟨w.heap.size + 2 + 2 + 1, 0, none⟩)], undef, undef, undef, undef, .pointer q, .int .i64 k, .func (.func 48) #[] #[.pointer (some ⟨W.heap.size, 0, none⟩), .pointer (some ⟨W.heap.size + 1, 0, none⟩)], .int .i64 (x.1 : Int), undef, undef, undef, undef, undef], defers := [] })
      (fun _ _ _ _ _ _ hs _ _ => hs)
      ?assign2 ?body2 ?done2 ?stop2
    case assign2 =>
      rintro l pre x W' K hI hK
      gi_wp2
      exact hK _ _ (KeepsFrom.refl _ _) (Kp2.refl _ _ _) hI (by simp)
    case body2 =>
      rintro l pre x a' W' hl' ⟨r, hr⟩ ⟨⟨h1, h2, h3, h4, h5, h6⟩, hK, hno⟩ rfl hlt
      have c0 := h1.cell
      have f0 := h1.frozen 0
      have c1 := h2.cell
      have f1 := h2.frozen 0
      have c3 := h4.cell
      have c2 := h3.cell x.1 true (by simp [bR, x.2])
      rw [show (bR (ofL (pthZ ps i)) ps.length).getD x.1 true = ofL (pthZ ps i) x.1 from mr_get _ _ x.2] at c2
      have hxi : (x.1 : Int) < ps.length := by have := x.2; omega
      clear hl' hr hlt
      have hD1w : D1 ≠ w.heap.size ∧ D1 ≠ w.heap.size + 1 := by omega
      cases ho : ofL (pthZ ps i) x.1 with
      | true =>
        rw [ho] at c2
        have hin : x.1 ∈ pthZ ps i := by simpa [ofL] using ho
        clear ho
        gi_wp2
        refine ⟨((KeepsOthers.setCell _ _ _).trans (KeepsOthers.setCell _ _ _)).from _, rfl, ?_, vals pre, x.1, ⟨(h1.set _).other (p := ⟨w.heap.size + 1, 0, none⟩) (by simp) _, (h2.other (p := ⟨w.heap.size, 0, none⟩) (by simp) _).set _, (h3.other (p := ⟨w.heap.size, 0, none⟩) (by simp) _).other (p := ⟨w.heap.size + 1, 0, none⟩) (by simp) _, (h4.other (p := ⟨w.heap.size, 0, none⟩) (by simp <;> omega) _).other (p := ⟨w.heap.size + 1, 0, none⟩) (by simp) _, (h5.setCell (p := ⟨w.heap.size, 0, none⟩) (by simp) _).setCell (p := ⟨w.heap.size + 1, 0, none⟩) (by simp) _, by simpa using h6⟩, vals_snoc _ _, hin, hno⟩
        rw [heap_setCell_other _ _ _ _ hD1w.2, heap_setCell_other _ _ _ _ hD1w.1]
        exact hK
      | false =>
        rw [ho] at c2
        have hout : x.1 ∉ pthZ ps i := by simpa [ofL] using ho
        clear ho
        gi_wp2
        refine ⟨KeepsFrom.refl _ _, Kp2.refl _ _ _, ⟨h1, h2, h3, h4, h5, h6⟩, hK, fun z hz => ?_⟩
        rw [vals_snoc] at hz
        rcases List.mem_append.1 hz with hz | hz
        · exact hno z hz
        · simp at hz; subst hz; exact hout
    case done2 =>
      rintro D2 zs W' hD2 hzs ⟨⟨h1, h2, h3, h4, h5, h6⟩, hK, hno⟩ hK2
      rw [hzs] at hno
      have c0 := h1.cell
      have f0 := h1.frozen 0
      have c1 := h2.cell
      have f1 := h2.frozen 0
      gi_wp2
      have e2 : ∀ D, D ≠ w.heap.size → D ≠ w.heap.size + 1 → ((W'.setCell ⟨w.heap.size, 0, none⟩ (.int .i64 0)).setCell ⟨w.heap.size + 1, 0, none⟩ (.bool false)).heap[D]? = W'.heap[D]? := fun D a b => by
        rw [heap_setCell_other _ _ _ _ b, heap_setCell_other _ _ _ _ a]
      have hK2' := (e2 D2 (by omega) (by omega)).trans hK2
      have hK1' := (e2 D1 (by omega) (by omega)).trans hK
      have g1 := (h1.set (.int .i64 0)).other (p := ⟨w.heap.size + 1, 0, none⟩) (by simp) (.bool false)
      have g2 := (h2.other (p := ⟨w.heap.size, 0, none⟩) (by simp) (.int .i64 0)).set (.bool false)
      have g5 := (h5.setCell (p := ⟨w.heap.size, 0, none⟩) (by simp) (.int .i64 0)).setCell (p := ⟨w.heap.size + 1, 0, none⟩) (by simp) (.bool false)
      clear e2 c0 f0 c1 f1
      generalize (W'.setCell ⟨w.heap.size, 0, none⟩ (.int .i64 0)).setCell ⟨w.heap.size + 1, 0, none⟩ (.bool false) = W5 at *
      refine ⟨by simp, .inl ⟨_, _, rfl, run_takeDeferred hK2', ?_⟩⟩
      have hK1b : (W5.putObj D2 (.deferred none)).heap[D1]? = some (.deferred (some [])) := (World.putObj_heap_other (by omega)).trans hK1'
      refine ⟨by simp, .inl ⟨_, _, rfl, run_takeDeferred hK1b, ?_⟩⟩
      have k1 := (g1.own (grownBy_putObj' _ D2 (.deferred none)) (fun r e => by cases e; exact ⟨_, hK2', rfl⟩)).own (grownBy_putObj' _ D1 (.deferred none)) (fun r e => by cases e; exact ⟨_, hK1b, rfl⟩)
      have k2 := (g2.own (grownBy_putObj' _ D2 (.deferred none)) (fun r e => by cases e; exact ⟨_, hK2', rfl⟩)).own (grownBy_putObj' _ D1 (.deferred none)) (fun r e => by cases e; exact ⟨_, hK1b, rfl⟩)
      refine ⟨_, results_ib rfl rfl rfl k1.cell k2.cell, ⟨0, false, rfl, .inl ⟨rfl, rfl, hno⟩⟩, (g5.trans (belowK_b (w := w) (Nat.le_refl _) _ D2 _ _ (by omega) hK2' rfl rfl)).trans (belowK_b (w := w) (Nat.le_refl _) _ D1 _ _ (by omega) hK1b rfl rfl)⟩
    case stop2 =>
      rintro D2 c pre W' hD2 hpre ⟨rfl, hK, pre', x, ⟨h1, h2, h3, h4, h5, h6⟩, hv, hin, hno⟩ hK2
      rw [hv] at hpre
      gi_wp2
      refine ⟨by simp, .inl ⟨_, _, rfl, run_takeDeferred hK2, ?_⟩⟩
      have hK1b : (W'.putObj D2 (.deferred none)).heap[D1]? = some (.deferred (some [])) := (World.putObj_heap_other (by omega)).trans hK
      refine ⟨by simp, .inl ⟨_, _, rfl, run_takeDeferred hK1b, ?_⟩⟩
      have k1 := (h1.own (grownBy_putObj' _ D2 (.deferred none)) (fun r e => by cases e; exact ⟨_, hK2, rfl⟩)).own (grownBy_putObj' _ D1 (.deferred none)) (fun r e => by cases e; exact ⟨_, hK1b, rfl⟩)
      have k2 := (h2.own (grownBy_putObj' _ D2 (.deferred none)) (fun r e => by cases e; exact ⟨_, hK2, rfl⟩)).own (grownBy_putObj' _ D1 (.deferred none)) (fun r e => by cases e; exact ⟨_, hK1b, rfl⟩)
      refine ⟨_, results_ib rfl rfl rfl k1.cell k2.cell, ⟨x, true, rfl, .inr ⟨rfl, pre', x, rfl, hpre, hin, hno⟩⟩, (h5.trans (belowK_b (w := w) (Nat.le_refl _) _ D2 _ _ (by omega) hK2 rfl rfl)).trans (belowK_b (w := w) (Nat.le_refl _) _ D1 _ _ (by omega) hK1b rfl rfl)⟩
end Go.Proofs.Ytfmbloagmeodeaa
