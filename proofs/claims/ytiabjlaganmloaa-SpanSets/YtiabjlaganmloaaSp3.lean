/-
  What an iterator tells, gathered (told); how many days a set has.
-/
import Derived.Test.YtiabjlaganmloaaSp2
import Derived.Laws.StructEq
namespace Go.Proofs.Ytiabjlaganmloaa
open Go.RowKit Go.Shelf
set_option linter.unusedVariables false
attribute [local go_sem] Oper.semAt_some

theorem eqIn_itv (w : World) (d f : Nat) (cb : Array Value) : Sem.run Try.prog (Op.equalIn (d + 1) 102 (.func (.func f) #[] cb) .nilFunc) w = .ok false w := by
  simp [Op.equalIn, run_underlying Try.underlying102]
/-- An iterator that is there is not nil. -/
theorem eql_itv (w : World) (f : Nat) (cb : Array Value) : Sem.run Try.prog (binOp .eql 102 (.func (.func f) #[] cb) .nilFunc) w = .ok (.bool false) w := by
  simp only [binOp]
  simp [Op.equal, Op.maxDepth, eqIn_itv w 9999]
/-- Are two spans one? -/
def sp2 (x0 x1 y0 y1 : Int) : Bool := decide (x0 = y0 ∧ x1 = y1)
theorem sp2_true {x0 x1 y0 y1 : Int} (h : (x0, x1) = (y0, y1)) : sp2 x0 x1 y0 y1 = true := by cases h; simp [sp2]
theorem sp2_false {x0 x1 y0 y1 : Int} (h : (x0, x1) ≠ (y0, y1)) : sp2 x0 x1 y0 y1 = false := by
  simp only [sp2, decide_eq_false_iff_not]
  rintro ⟨rfl, rfl⟩
  exact h rfl
/-- Two spans held one against the other. -/
theorem eqS (x0 x1 y0 y1 : Int) (w : World) : Sem.run Try.prog (binOp .eql 24 (.agg #[.int .i64 x0, .int .i64 x1]) (.agg #[.int .i64 y0, .int .i64 y1])) w = .ok (.bool (sp2 x0 x1 y0 y1)) w := by
  have u3 := Try.underlying22
  have a3 := Try.isAgg22
  have z3 := Try.sizeOf22
  have hS : Try.prog.underlying 24 = some (.struct (Try.prog.fieldsOf 24)) := by kernel_rfl
  have hp : Try.prog.stoodInHeld 24 = false := by kernel_rfl
  rw [run_eql_struct, show (10000 : Nat) = 9999 + 1 from rfl, run_equalIn_agg w 9999 24 _ _ hS hp]
  simp only [Program.fieldsOf, Try.underlying24]
  go_simp
  by_cases h1 : x0 = y0 <;> by_cases h2 : x1 = y1 <;> simp [h1, h2, sp2]
theorem neS (x0 x1 y0 y1 : Int) (w : World) : Sem.run Try.prog (binOp .neq 24 (.agg #[.int .i64 x0, .int .i64 x1]) (.agg #[.int .i64 y0, .int .i64 y1])) w = .ok (.bool (!sp2 x0 x1 y0 y1)) w := by
  have u3 := Try.underlying22
  have a3 := Try.isAgg22
  have z3 := Try.sizeOf22
  have hS : Try.prog.underlying 24 = some (.struct (Try.prog.fieldsOf 24)) := by kernel_rfl
  have hp : Try.prog.stoodInHeld 24 = false := by kernel_rfl
  rw [run_neq_struct, show (10000 : Nat) = 9999 + 1 from rfl, run_equalIn_agg w 9999 24 _ _ hS hp]
  simp only [Program.fieldsOf, Try.underlying24]
  go_simp
  by_cases h1 : x0 = y0 <;> by_cases h2 : x1 = y1 <;> simp [h1, h2, sp2]
/-- Blocks of cells stay, where one that is none is turned. -/
theorem grown_cells {W W' : World} {row : Option Nat} (hg : W.grownBy W' row) (hr : ∀ r, row = some r → ∃ o : Obj, W.heap[r]? = some o ∧ o.isCells = false) {k : Nat} {cs : Array Value} {t : TypeId} {f : Nat × Nat} (h : W.heap[k]? = some (.cells cs t f)) : W'.heap[k]? = W.heap[k]? :=
  hg.block k (Array.getElem?_eq_some_iff.1 h).1 (fun e => by
    obtain ⟨o, ho, hc⟩ := hr k e.symm
    rw [h] at ho; cases ho; cases hc)
theorem Va.own {W W' : World} {row : Option Nat} (hg : W.grownBy W' row) (hr : ∀ r, row = some r → ∃ o : Obj, W.heap[r]? = some o ∧ o.isCells = false) {b : Nat} {t : TypeId} {cs : Array Value} (h : Va W b t cs) : Va W' b t cs := (grown_cells hg hr h).trans h
theorem Gs.own {W W' : World} {row : Option Nat} (hg : W.grownBy W' row) (hr : ∀ r, row = some r → ∃ o : Obj, W.heap[r]? = some o ∧ o.isCells = false) {B : Nat} {v : Value} {ps : List Pr} (h : Gs W B v ps) : Gs W' B v ps := by
  obtain ⟨h1, h2 | ⟨g, cap, cur, e, hB, hh, r⟩⟩ := h
  · exact ⟨h1, .inl h2⟩
  · exact ⟨h1, .inr ⟨g, cap, cur, e, hB, (grown_cells hg hr hh).trans hh, r⟩⟩
theorem belowOwn {n₀ n : Nat} {w W W' : World} {row : Option Nat} (hn : n₀ ≤ n) (hg : W.grownBy W' row) (hr : ∀ r, row = some r → n ≤ r) (h : Below n₀ w W) (hs : n₀ ≤ W.heap.size) : Below n₀ w W' :=
  h.trans ⟨hg.os, hg.tape, hg.output, hg.size, fun k hk => hg.block k (by omega) (fun e => by have := hr k e.symm; omega)⟩
/-- The spans at some places. -/
def at_ (ps : List Pr) (pre : List Nat) : List Pr := pre.map (fun j => ps.getD j (0, 0))
theorem at_snoc (ps : List Pr) (pre : List Nat) (x : Nat) : at_ ps (pre ++ [x]) = at_ ps pre ++ [ps.getD x (0, 0)] := by simp [at_]
theorem at_range (ps : List Pr) : at_ ps (List.range ps.length) = ps := by
  apply List.ext_getElem
  · simp [at_]
  · intro i h1 h2
    simp [at_, h2]
theorem at_length (ps : List Pr) (pre : List Nat) : (at_ ps pre).length = pre.length := by simp [at_]
theorem keeps_below {W W' : World} (h : Below W.heap.size W W') : KeepsOthers W W' := ⟨h.size, fun k o hk _ => (h.block k (Array.getElem?_eq_some_iff.1 hk).1).trans hk⟩

/-- What stands between two rounds. -/
def TdI (w : World) (ps : List Pr) (pre : List Nat) (W : World) : Prop := (∃ v, Va W w.heap.size 31 #[v] ∧ Gs W w.heap.size v (at_ ps pre)) ∧ Below w.heap.size w W ∧ w.heap.size + 1 ≤ W.heap.size
theorem tdI_own (w : World) (ps : List Pr) (n : Nat) (hn : w.heap.size ≤ n) : OwnFrom n (TdI w ps) := by
  intro s W W' row hs hg hr
  obtain ⟨⟨v, h1, h2⟩, h3, h4⟩ := hs
  exact ⟨⟨v, h1.own hg (fun r e => (hr r e).2), h2.own hg (fun r e => (hr r e).2)⟩, belowOwn hn hg (fun r e => (hr r e).1) h3 (by omega), Nat.le_trans h4 hg.size⟩
/-- A variable that holds a list lies elsewhere than the list's own row. -/
theorem told_kept {W w1 : World} {B : Nat} {v : Value} {ps : List Pr} {o : Obj} (hgr : (W.alloc o).grownBy w1 v.ownBlock) (hg : Gs W B v ps) {b : Nat} {u : Value} (h : Va (W.alloc o) b 31 #[u]) : Va w1 b 31 #[u] := by
  refine (hgr.block b h.lt (fun e => ?_)).trans h
  obtain ⟨h1, h2 | ⟨g, cap, cur, e2, hB, hh, r⟩⟩ := hg.al o
  · rw [h2.1] at e; cases e
  · rw [e2] at e; cases e
    unfold Va at h
    rw [hh] at h; cases h

/-- A span is put to a list that a variable holds: what stays, and what there is behind it. -/
theorem app_go {W w1 : World} {B b n m cv c2 N n₀ : Nat} {av a2 : Option Addr} {qs qs' : List Pr} {o : Obj} (hv : Va W b 31 #[.slice av n cv]) (hg : Gs W B (.slice av n cv) qs) (hgr : (W.alloc o).grownBy w1 (Value.slice av n cv).ownBlock) (hg1 : Gs w1 B (.slice a2 m c2) qs') (h1 : n₀ ≤ B) (h2 : n₀ ≤ b) (h3 : n₀ ≤ W.heap.size) :
    KeepsFrom N W (w1.setCell ⟨b, 0, none⟩ (.slice a2 m c2)) ∧ Below n₀ W (w1.setCell ⟨b, 0, none⟩ (.slice a2 m c2)) ∧ Va (w1.setCell ⟨b, 0, none⟩ (.slice a2 m c2)) b 31 #[.slice a2 m c2] ∧ Gs (w1.setCell ⟨b, 0, none⟩ (.slice a2 m c2)) B (.slice a2 m c2) qs' := by
  have k1 := told_kept hgr hg (hv.old o)
  refine ⟨?_, ?_, k1.set _, hg1.far (fun e => ?_) _⟩
  · refine KeepsOthers.from ?_ _
    refine (KeepsOthers.alloc W o).trans (KeepsOthers.trans ⟨hgr.size, fun k u hk hc => ?_⟩ (KeepsOthers.setCell _ _ _))
    refine (hgr.block k (Array.getElem?_eq_some_iff.1 hk).1 (fun e => ?_)).trans hk
    obtain ⟨-, h2 | ⟨g, cap, cur, e2, hB, hh, r⟩⟩ := hg.al o
    · rw [h2.1] at e; cases e
    · rw [e2] at e; cases e
      rw [hh] at hk; cases hk; cases hc
  · exact (((Below.refl n₀ W).alloc h3 o).trans ((Below.refl n₀ _).grown hgr (by simp; omega) (fun k hk => Nat.le_trans h1 (hg.block k hk)))).setCell (p := ⟨b, 0, none⟩) h2 _
  · obtain ⟨-, h2 | ⟨g, cap, cur, e2, hB, hh, r⟩⟩ := hg1
    · rw [h2.1] at e; cases e
    · rw [e2] at e; cases e
      unfold Va at k1
      rw [hh] at k1; cases k1

set_option maxRecDepth 100000 in
set_option maxHeartbeats 4000000 in
theorem told_any (Bs : Nat) (a : Option Addr) (len cap : Nat) (ps : List Pr) (hlen : len ≤ 1000000) (w : World) (hBs : Va w Bs 31 #[.slice a len cap]) (hc : Ls w a len ps) :
    CallsIn Fence.wide 5 Try.prog 48 #[itv Bs] w fun e w' => ∃ v, e = .returned (.tuple #[v, .bool true]) ∧ Gs w' w.heap.size v ps ∧ Below w.heap.size w w' := by
  have en := eql_itv
  refine callsIn_of_wp_marks Try.func48 rfl trivial ?_ rfl
  unfold itv
  simp only [Try.ntmps48, List.size_toArray, List.length_cons, List.length_nil, Nat.reduceAdd, Nat.reduceSub, Array.replicate_succ, Array.replicate_zero, List.push_toArray, List.append_toArray, List.nil_append, List.cons_append]
  gi_wp2
  refine ent1 w _ _ (Q := fun W => Code.wpIn Fence.wide 5 Try.prog _ _ _ W) ?_
  intro W0 hB0 hsz V0
  have hlow := hc.low
  refine wpIn_rangeFunc_ownH rfl (show 1 ≤ 5 by omega) (gf := 83) (lb := #[.pointer (some ⟨Bs, 0, none⟩)]) rfl trivial (enters_of Try.func83 (by kernel_rfl) rfl)
    (values_stops Fence.wide (5 - 1) trivial rfl (by omega) Bs w.heap.size a len cap ps hlen W0 (by have := hBs.lt; omega) (by omega) hlow (hBs.after hB0) (hc.after hB0)) belowK_t (belowK_b (by omega)) (Below.refl _ _) (fun _ => rfl)
    (TdI w ps) (fun _ _ _ => False) (tdI_own w ps _ (by omega)) (fun _ _ _ _ _ hs _ _ => hs) ⟨⟨_, V0, Gs.nil _ _⟩, hB0, by omega⟩
    (fun x a' W => ∃ Bx, Va W Bx 24 #[.int .i64 (ps.getD x (0, 0)).1, .int .i64 (ps.getD x (0, 0)).2] ∧ a' = { tmps := #[.func (.func 83) #[] #[.pointer (some ⟨Bs, 0, none⟩)], undef, .slice none 0 0, .bool false, .pointer (some ⟨w.heap.size, 0, none⟩), .pointer (some ⟨Bx, 0, none⟩), .func (.func 83) #[] #[.pointer (some ⟨Bs, 0, none⟩)], .bool false, .func (.func 83) #[] #[.pointer (some ⟨Bs, 0, none⟩)], .agg #[.int .i64 (ps.getD x (0, 0)).1, .int .i64 (ps.getD x (0, 0)).2], undef, undef, undef, undef, undef], defers := [] })
    (fun x a' _ X Y row hs hg hr => by obtain ⟨Bx, h2, h3⟩ := hs; exact ⟨Bx, h2.own hg (fun r e => (hr r e).2), h3⟩)
    ?assign ?body ?done ?stop
  case assign =>
    rintro l pre x W K hI hK
    unfold sv
    generalize (ps.getD x (0, 0)).1 = x0 at *
    generalize (ps.getD x (0, 0)).2 = x1 at *
    gi_wp2
    refine hK _ _ ((KeepsOthers.alloc _ _).from _) ((Below.refl _ W).alloc (by have := hI.2.2; omega) _) ?_ ?_
    · exact tdI_own w ps w.heap.size (Nat.le_refl _) _ _ _ none hI (World.grownBy_alloc W _ none) (fun r e => by cases e)
    · exact ⟨W.heap.size, Va.new W _ _, rfl⟩
  case body =>
    rintro l pre x a' W hl ⟨r, hr⟩ ⟨⟨v, hv, hg⟩, hB1, hs1⟩ ⟨Bx, bX, rfl⟩ hlt
    have HG : Hid (Gs W w.heap.size v (at_ ps pre)) := hg
    have HE : Hid (at_ ps (pre ++ [x]) = at_ ps pre ++ [((ps.getD x (0, 0)).1, (ps.getD x (0, 0)).2)]) := at_snoc ps pre x
    have HP : Hid ((at_ ps pre).length + 1 ≤ 8796093022208) := by show _ ≤ _; rw [at_length]; omega
    generalize (ps.getD x (0, 0)).1 = x0 at *
    generalize (ps.getD x (0, 0)).2 = x1 at *
    have q0 := hv.cell
    have c0 := bX.c0
    have c1 := bX.c1
    obtain ⟨av, cv, rfl, -, -, -⟩ := hg.shape
    clear hlt hr hl hg
    gi_wp2_with (gi_at_builtin; refine wpListIn_appS rfl _ _ rfl w.heap.size _ (at_ ps pre) rfl (HG.out.al _) W.heap.size 1 x0 x1 rfl (Va.new W _ _).c0 (Va.new W _ _).c1 HP.out (by simp; omega) ?_; intro v' w1 hg1 hgr1 hob; obtain ⟨a2, c2, rfl, -, -, -⟩ := hg1.shape; have k1 : Va w1 w.heap.size 31 #[.slice av (at_ ps pre).length cv] := told_kept hgr1 HG.out (hv.old _); have q1 := k1.cell; have f1 := k1.frozen 0; clear q0 c0 c1)
    have hn1 : (at_ ps pre).length + 1 = (at_ ps pre ++ [(x0, x1)]).length := by simp
    rw [hn1]
    obtain ⟨r1, r2, r3, r4⟩ := app_go (N := W0.heap.size) (n₀ := w.heap.size) hv HG.out hgr1 hg1 (Nat.le_refl _) (Nat.le_refl _) (by omega)
    exact ⟨r1, r2, ⟨_, r3, by rw [HE.out]; exact r4⟩, hB1.trans r2, Nat.le_trans hs1 r2.size⟩
  case done =>
    rintro D ys W hD rfl ⟨⟨v, hv, hg⟩, hB1, hs1⟩ hK
    have HG : Hid (Gs W w.heap.size v (at_ ps (List.range len))) := hg
    obtain ⟨av, cv, rfl, -, -, -⟩ := hg.shape
    have q0 := hv.cell
    clear hg
    gi_wp2
    refine ⟨by simp, .inl ⟨_, _, rfl, run_takeDeferred hK, ?_⟩⟩
    have HG2 := HG.out
    have HL : at_ ps (List.range len) = ps := by rw [← hc.1]; exact at_range ps
    rw [HL] at HG2
    rw [HL]
    refine ⟨_, results_tmp2 rfl _ _ _, _, rfl, ?_, ?_⟩
    · exact HG2.own (grownBy_putObj' _ D (.deferred none)) (fun r e => by cases e; exact ⟨_, hK, rfl⟩)
    · exact hB1.trans (belowK_b (w := w) (Nat.le_refl _) W D _ _ (by omega) hK rfl rfl)
  case stop =>
    rintro D c pre W hD hS h hK
    exact h.elim
end Go.Proofs.Ytiabjlaganmloaa
