/-
  span.Union: the days that one of two sets has.
-/
import Derived.Test.YtiabjlaganmloaaSp7
namespace Go.Proofs.Ytiabjlaganmloaa
open Go.RowKit Go.Shelf
set_option linter.unusedVariables false
attribute [local go_sem] Oper.semAt_some

def mks (ms : List Nat) : List Deferred := ms.map fun m => { target := .collected m, args := #[] }
def MK (b : Nat) (ms : List Nat) (W : World) : Prop := ms.Nodup ∧ ∀ m ∈ ms, b ≤ m ∧ W.heap[m]? = some (.deferred (some []))
theorem leaves_marks {F : Fence} {n : Nat} {P : Program} {fn : Func} {tmps : Array Value} {R : Ending → World → Prop} {b : Nat} (I : World → Prop) (hI : ∀ W m, I W → b ≤ m → W.heap[m]? = some (.deferred (some [])) → I (W.putObj m (.deferred none)))
    (hend : ∀ W, I W → ∃ v, (results fn tmps).run P W = .ok v W ∧ R (.returned v) W) : ∀ (ms : List Nat) (W : World), MK b ms W → I W → LeavesInM F n P fn tmps R (mks ms) .returning W
  | [], W, _, h => hend W h
  | m :: ms, W, hm, h => by
    obtain ⟨hnd, hh⟩ := hm
    have h1 := hh m (by simp)
    rw [List.nodup_cons] at hnd
    refine ⟨by simp, .inl ⟨m, _, rfl, run_takeDeferred h1.2, leaves_marks I hI hend ms _ ⟨hnd.2, fun m' hm' => ?_⟩ (hI W m h h1.1 h1.2)⟩⟩
    have h2 := hh m' (by simp [hm'])
    refine ⟨h2.1, ?_⟩
    have hne : m' ≠ m := fun e => hnd.1 (e ▸ hm')
    rw [← h2.2]
    simp [World.putObj, Ne.symm hne]
theorem MK.nil (b : Nat) (W : World) : MK b [] W := ⟨List.nodup_nil, fun m h => by simp at h⟩
theorem MK.after {b : Nat} {ms : List Nat} {W W' : World} (h : MK b ms W) (hb : Below W.heap.size W W') : MK b ms W' := ⟨h.1, fun m hm => ⟨(h.2 m hm).1, (hb.block m (Array.getElem?_eq_some_iff.1 (h.2 m hm).2).1).trans (h.2 m hm).2⟩⟩
theorem MK.keep {b : Nat} {ms : List Nat} {W W' : World} (h : MK b ms W) (hk : ∀ m ∈ ms, W'.heap[m]? = W.heap[m]?) : MK b ms W' := ⟨h.1, fun m hm => ⟨(h.2 m hm).1, (hk m hm).trans (h.2 m hm).2⟩⟩
theorem MK.cons {b D : Nat} {ms : List Nat} {W : World} (h : MK b ms W) (hD : b ≤ D) (hK : W.heap[D]? = some (.deferred (some []))) (hn : ∀ m ∈ ms, m < D) : MK b (D :: ms) W :=
  ⟨List.nodup_cons.2 ⟨fun hm => Nat.lt_irrefl _ (hn D hm), h.1⟩, fun m hm => by rcases List.mem_cons.1 hm with rfl | hm; exact ⟨hD, hK⟩; exact h.2 m hm⟩
theorem MK.own {b n : Nat} {ms : List Nat} {W W' : World} {row : Option Nat} (h : MK b ms W) (hg : W.grownBy W' row) (hr : ∀ r, row = some r → n ≤ r) (hn : ∀ m ∈ ms, m < n) : MK b ms W' :=
  ⟨h.1, fun m hm => ⟨(h.2 m hm).1, (hg.block m (Array.getElem?_eq_some_iff.1 (h.2 m hm).2).1 (fun e => by have := hr m e.symm; have := hn m hm; omega)).trans (h.2 m hm).2⟩⟩
theorem Ls.own {W W' : World} {row : Option Nat} (hg : W.grownBy W' row) (hr : ∀ r, row = some r → ∃ o : Obj, W.heap[r]? = some o ∧ o.isCells = false) {a : Option Addr} {len : Nat} {ps : List Pr} (h : Ls W a len ps) : Ls W' a len ps := by
  refine ⟨h.1, fun h0 => ?_⟩
  obtain ⟨b, off, e, hc⟩ := h.2 h0
  exact ⟨b, off, e, fun i hi => ⟨cell_kept (hc i hi).1 hg hr, cell_kept (hc i hi).2 hg hr⟩⟩
theorem St.own {W W' : World} {row : Option Nat} (hg : W.grownBy W' row) (hr : ∀ r, row = some r → ∃ o : Obj, W.heap[r]? = some o ∧ o.isCells = false) {p : Nat} {ps : List Pr} (h : St W p ps) : St W' p ps := by
  obtain ⟨h1, h2, a, cap, h3, h4, h5, h6⟩ := h
  exact ⟨h1, h2, a, cap, h3.own hg hr, h4, h5.own hg hr, h6⟩
/-- The end of a function that answers a set, its marks taken. -/
theorem set_end {fn : Func} {tmps : Array Value} {w W : World} {cs : List Pr} {n : Nat} {e : Ending} {vp ve : Value} {P0 : List Pr → Prop} {i j : Nat} (hfn : fn.results = #[.tmp i, .tmp j]) (hi : tmps.getD i undef = vp) (hj : tmps.getD j undef = ve) (he : e = .returned (.tuple #[vp, ve])) (hr : SetR cs e W) (hf : Hid (Few cs ∧ P0 cs)) (hB : Below w.heap.size w W) (ms : List Nat) (hm : MK w.heap.size ms W) :
    LeavesInM Fence.wide n Try.prog fn tmps (fun e w' => ∃ cs, Hid (Few cs ∧ P0 cs) ∧ SetR cs e w' ∧ Below w.heap.size w w') (mks ms) .returning W := by
  subst he hi hj
  refine leaves_marks (b := w.heap.size) (fun W => SetR cs (.returned (.tuple #[tmps.getD i undef, tmps.getD j undef])) W ∧ Below w.heap.size w W) (fun W m ⟨h1, h2⟩ hb hk => ⟨?_, h2.trans (belowK_b (w := w) (Nat.le_refl _) W m _ _ hb hk rfl rfl)⟩) (fun W ⟨h1, h2⟩ => ⟨_, results_tmp2 hfn _ _ _, cs, hf, h1, h2⟩) ms W hm ⟨hr, hB⟩
  rcases h1 with ⟨hl, p, e, hs⟩ | h1
  · exact .inl ⟨hl, p, e, hs.own (grownBy_putObj' W m (.deferred none)) (fun r e => by cases e; exact ⟨_, hk, rfl⟩)⟩
  · exact .inr h1
/-- What stands between two rounds: the list has all that came before, and the spans at some places. -/
def UnI (w : World) (pq : Array Value) (old ps : List Pr) (ms : List Nat) (pre : List Nat) (W : World) : Prop := (∃ v, Va W w.heap.size 31 #[v] ∧ Gs W w.heap.size v (old ++ at_ ps pre)) ∧ Va W (w.heap.size + 1) 34 pq ∧ MK w.heap.size ms W ∧ Below w.heap.size w W
theorem unI_own (w : World) (pq : Array Value) (old ps : List Pr) (ms : List Nat) (n : Nat) (hn : w.heap.size ≤ n) (hm : ∀ m ∈ ms, m < n) : OwnFrom n (UnI w pq old ps ms) := by
  intro s W W' row hs hg hr
  obtain ⟨⟨v, h1, h2⟩, h3, h4, h5⟩ := hs
  exact ⟨⟨v, h1.own hg (fun r e => (hr r e).2), h2.own hg (fun r e => (hr r e).2)⟩, h3.own hg (fun r e => (hr r e).2), h4.own hg (fun r e => (hr r e).1) hm, belowOwn hn hg (fun r e => (hr r e).1) h5 h5.size⟩

theorem app_same {W w1 : World} {B b k : Nat} {v u : Value} {qs : List Pr} {o ob : Obj} (hg : Gs W B v qs) (hgr : (W.alloc o).grownBy w1 v.ownBlock) (h : W.heap[k]? = some ob) (hne : ∀ cs f, ob ≠ .cells cs 24 f) (hkb : k ≠ b) : (w1.setCell ⟨b, 0, none⟩ u).heap[k]? = some ob := by
  have hk : k < W.heap.size := (Array.getElem?_eq_some_iff.1 h).1
  refine (heap_setCell_other w1 ⟨b, 0, none⟩ k u hkb).trans ((hgr.block k (by simp; omega) (fun e => ?_)).trans ((Below.heap_alloc W o k hk).trans h))
  obtain ⟨-, h2 | ⟨g, cap, cur, e2, hB, hh, r⟩⟩ := hg
  · rw [h2.1] at e; cases e
  · rw [e2] at e; cases e
    rw [hh] at h; cases h
    exact hne _ _ rfl
theorem un_row {W : World} {B k : Nat} {v : Value} {qs : List Pr} {o : List Deferred} (hg : Gs W B v qs) (h : W.heap[k]? = some (.deferred (some o))) : v.ownBlock ≠ some k := fun e => by
  obtain ⟨-, h2 | ⟨g, cap, cur, e2, hB, hh, r⟩⟩ := hg
  · rw [h2.1] at e; cases e
  · rw [e2] at e; cases e
    rw [hh] at h; cases h
theorem un_keep {W w1 : World} {B b b1 : Nat} {t : TypeId} {v u : Value} {qs : List Pr} {o : Obj} {pq : Array Value} {ms : List Nat} (hg : Gs W B v qs) (hgr : (W.alloc o).grownBy w1 v.ownBlock) (hv1 : Va W b1 t pq) (ht : t ≠ 24) (hne : b1 ≠ b) (hv : Va W b 31 #[v]) (hmk : MK B ms W) :
    Va (w1.setCell ⟨b, 0, none⟩ u) b1 t pq ∧ MK B ms (w1.setCell ⟨b, 0, none⟩ u) :=
  ⟨app_same hg hgr hv1 (fun cs f e => by cases e; exact ht rfl) hne, hmk.1, fun m hm => ⟨(hmk.2 m hm).1, app_same hg hgr (hmk.2 m hm).2 (fun cs f e => by cases e) (fun e => by
    have h1 := (hmk.2 m hm).2
    rw [e, show W.heap[b]? = _ from hv] at h1; cases h1)⟩⟩
set_option maxRecDepth 100000 in
set_option maxHeartbeats 2000000 in
theorem union_in (p q : Nat) (xs ys : List Pr) (w : World) (ha : St w p xs) (hb : St w q ys) :
    CallsIn Fence.wide 5 Try.prog 23 #[.pointer (some ⟨p, 0, none⟩), .pointer (some ⟨q, 0, none⟩)] w fun e w' => ∃ cs, Hid (Few cs ∧ (fun cs => ∀ d, inS cs d ↔ inS xs d ∨ inS ys d) cs) ∧ SetR cs e w' ∧ Below w.heap.size w w' := by
  obtain ⟨fa, la, aa, ca, Va', hca, La, -⟩ := ha
  obtain ⟨fb, lb, ab, cb, Vb', hcb, Lb, -⟩ := hb
  have ta := there_any p _ true w Va'
  have tb := there_any q _ true w Vb'
  refine callsIn_of_wp_marks Try.func23 rfl trivial ?_ rfl
  simp only [Try.ntmps23, List.size_toArray, List.length_cons, List.length_nil, Nat.reduceAdd, Nat.reduceSub, Array.replicate_succ, Array.replicate_zero, List.push_toArray, List.append_toArray, List.nil_append, List.cons_append]
  rw [wpIn_wide]
  go_wp2_with fail
  refine ta.mono ?_
  rintro e w1 ⟨rfl, hw1⟩
  rw [hw1]
  clear hw1 w1
  go_wp2_with fail
  refine tb.mono ?_
  rintro e w1 ⟨rfl, hw1⟩
  rw [hw1]
  clear hw1 w1 ta tb
  go_wp2_with fail
  refine ent2 w _ _ _ _ (Q := fun W => Code.wp Try.prog _ _ _ W) ?_
  intro W0 hB0 hsz V0 V1
  have hS0 : UnI w #[.pointer (some ⟨p, 0, none⟩), .pointer (some ⟨q, 0, none⟩)] [] [] [] [] W0 := ⟨⟨_, V0, Gs.nil _ _⟩, V1, MK.nil _ _, hB0⟩
  have hz0 : w.heap.size + 1 < W0.heap.size := by omega
  have HF : Hid (Few xs ∧ Few ys) := ⟨fa, fb⟩
  clear V0 V1 hsz hB0
  refine wp_loop_rounds 3 ?_
  rw [rounds_succ]
  obtain ⟨⟨v0, v00, g0⟩, v01, m0, b0⟩ := hS0
  have c0 := v01.c0
  have l0 := La.after b0
  have sp0 := spans_any p aa xs.length ca true W0 (Va'.after b0)
  unfold itv at sp0
  go_wp2_with (go_at_call 47; refine sp0.mono ?_; rintro e w' ⟨rfl, rfl⟩)
  clear sp0 c0
  refine ent1 W0 _ _ (Q := fun W => Code.wp Try.prog _ _ _ W) ?_
  intro X0 hX0 hx0 W0V
  have hS0x : UnI w #[.pointer (some ⟨p, 0, none⟩), .pointer (some ⟨q, 0, none⟩)] [] xs [] [] X0 := ⟨⟨v0, v00.after hX0, by simpa [at_] using g0.after hX0⟩, v01.after hX0, m0.after hX0, step b0 hX0⟩
  have hm0x : ∀ m ∈ [], m < X0.heap.size := fun m hm => (Array.getElem?_eq_some_iff.1 (hS0x.2.2.1.2 m hm).2).1
  have hbx0 : w.heap.size ≤ X0.heap.size := hS0x.2.2.2.size
  have lx0 := l0.after hX0
  have lw0 := La.low
  clear v00 g0 v01 m0 b0 l0
  rw [← wpIn_wide (n := 5)]
  refine wpIn_rangeFunc_ownH rfl (show 1 ≤ 5 by omega) (gf := 83) (lb := #[.pointer (some ⟨W0.heap.size, 0, none⟩)]) rfl trivial (enters_of Try.func83 (by kernel_rfl) rfl)
    (values_stops Fence.wide (5 - 1) trivial rfl (by omega) W0.heap.size w.heap.size aa xs.length ca xs (by omega) X0 W0V.lt hbx0 lw0 W0V lx0) belowK_t (belowK_b hbx0) (Below.refl _ _) (fun _ => rfl)
    (UnI w #[.pointer (some ⟨p, 0, none⟩), .pointer (some ⟨q, 0, none⟩)] [] xs []) (fun _ _ _ => False) (unI_own w _ _ _ _ _ hbx0 hm0x) (fun _ _ _ _ _ hs _ _ => hs) hS0x
    (fun x a' W => ∃ Bx, Va W Bx 24 #[.int .i64 (xs.getD x (0, 0)).1, .int .i64 (xs.getD x (0, 0)).2] ∧ a' = { tmps := #[.pointer (some ⟨p, 0, none⟩), .pointer (some ⟨q, 0, none⟩), undef, undef, .pointer none, .int .i64 0, .pointer (some ⟨w.heap.size, 0, none⟩), undef, .pointer (some ⟨p, 0, none⟩), .pointer (some ⟨Bx, 0, none⟩), .pointer (some ⟨p, 0, none⟩), .bool true, .bool false, .bool false, .pointer (some ⟨q, 0, none⟩), .bool true, .bool false, .bool false, .pointer (some ⟨p, 0, none⟩), .pointer (some ⟨q, 0, none⟩), .slice (some ⟨w.heap.size + 1, 0, none⟩) 2 2, .int .i64 2, .int .i64 0, .bool true, .pointer (some ⟨w.heap.size + 1, 0, none⟩), .pointer (some ⟨p, 0, none⟩), .pointer (some ⟨p, 0, none⟩), .func (.func 83) #[] #[.pointer (some ⟨W0.heap.size, 0, none⟩)], .agg #[.int .i64 (xs.getD x (0, 0)).1, .int .i64 (xs.getD x (0, 0)).2], undef, undef, undef, undef, undef, undef, undef, undef, undef, undef], defers := [] })
    (fun x a' _ X Y row hs hg hr => by obtain ⟨Bx, h2, h3⟩ := hs; exact ⟨Bx, h2.own hg (fun r e => (hr r e).2), h3⟩)
    ?assign0 ?body0 ?done0 ?stop0
  case assign0 =>
    rintro l pre x W K hI hK
    unfold sv
    generalize (xs.getD x (0, 0)).1 = x0 at *
    generalize (xs.getD x (0, 0)).2 = x1 at *
    gi_wp2
    refine hK _ _ ((KeepsOthers.alloc _ _).from _) ((Below.refl _ W).alloc hI.2.2.2.size _) ?_ ?_
    · exact unI_own w _ _ _ _ W.heap.size hI.2.2.2.size (fun m hm => (Array.getElem?_eq_some_iff.1 (hI.2.2.1.2 m hm).2).1) _ _ _ none hI (World.grownBy_alloc W _ none) (fun r e => by cases e)
    · exact ⟨W.heap.size, Va.new W _ _, rfl⟩
  case body0 =>
    rintro l pre x a' W hl ⟨rr, hr⟩ ⟨⟨v, hv, hg⟩, hv1, hmk, hB1⟩ ⟨Bx, bX, rfl⟩ hlt
    have HG : Hid (Gs W w.heap.size v ([] ++ at_ xs pre)) := hg
    have HE : Hid ([] ++ at_ xs (pre ++ [x]) = ([] ++ at_ xs pre) ++ [((xs.getD x (0, 0)).1, (xs.getD x (0, 0)).2)]) := by show _ = _; rw [at_snoc, List.append_assoc]
    have HP : Hid (([] ++ at_ xs pre).length + 1 ≤ 8796093022208) := by show _ ≤ _; rw [List.length_append, at_length]; simp; omega
    generalize (xs.getD x (0, 0)).1 = x0 at *
    generalize (xs.getD x (0, 0)).2 = x1 at *
    generalize hq : [] ++ at_ xs pre = qs at *
    have q0 := hv.cell
    have c0 := bX.c0
    have c1 := bX.c1
    obtain ⟨av, cv, rfl, -, -, -⟩ := hg.shape
    have hws := hB1.size
    clear hlt hr hl hg hq
    gi_wp2_with (gi_at_builtin; refine wpListIn_appS rfl _ _ rfl w.heap.size _ qs rfl (HG.out.al _) W.heap.size 1 x0 x1 rfl (Va.new W _ _).c0 (Va.new W _ _).c1 HP.out (by simp; omega) ?_; intro v' w1 hg1 hgr1 hob; obtain ⟨a2, c2, rfl, -, -, -⟩ := hg1.shape; have k1 : Va w1 w.heap.size 31 #[.slice av qs.length cv] := told_kept hgr1 HG.out (hv.old _); have q1 := k1.cell; have f1 := k1.frozen 0; clear q0 c0 c1)
    have hn1 : qs.length + 1 = (qs ++ [(x0, x1)]).length := by simp
    rw [hn1]
    obtain ⟨r1, r2, r3, r4⟩ := app_go (N := X0.heap.size) (n₀ := w.heap.size) hv HG.out hgr1 hg1 (Nat.le_refl _) (Nat.le_refl _) hws
    obtain ⟨s1, s2⟩ := un_keep (u := .slice a2 (qs ++ [(x0, x1)]).length c2) HG.out hgr1 hv1 (by decide) (show w.heap.size + 1 ≠ w.heap.size by omega) hv hmk
    exact ⟨r1, r2, ⟨_, r3, by rw [HE.out]; exact r4⟩, s1, s2, hB1.trans r2⟩
  case stop0 =>
    rintro D c pre W hD hS h hK
    exact h.elim
  case done0 =>
  rintro D0 zs0 Y0 hD0 rfl hI0 hK0
  have e0 : at_ xs (List.range xs.length) = xs := at_range xs
  obtain ⟨⟨y0, k01, k02⟩, k03, k04, k05⟩ := hI0
  rw [e0] at k02
  have hS1 : UnI w #[.pointer (some ⟨p, 0, none⟩), .pointer (some ⟨q, 0, none⟩)] xs [] (D0 :: []) [] Y0 := ⟨⟨y0, k01, by simpa [at_] using k02⟩, k03, k04.cons (by omega) hK0 (fun m hm => Nat.lt_of_lt_of_le (hm0x m hm) hD0), k05⟩
  clear k01 k02 k03 k04 k05 hK0 hm0x lx0 W0V hS0x e0
  dsimp only
  go_wp2_with fail
  rw [rounds_succ]
  obtain ⟨⟨v1, v10, g1⟩, v11, m1, b1⟩ := hS1
  have c1 := v11.c1
  have l1 := Lb.after b1
  have sp1 := spans_any q ab ys.length cb true Y0 (Vb'.after b1)
  unfold itv at sp1
  go_wp2_with (go_at_call 47; refine sp1.mono ?_; rintro e w' ⟨rfl, rfl⟩)
  clear sp1 c1
  refine ent1 Y0 _ _ (Q := fun W => Code.wp Try.prog _ _ _ W) ?_
  intro X1 hX1 hx1 W1V
  have hS1x : UnI w #[.pointer (some ⟨p, 0, none⟩), .pointer (some ⟨q, 0, none⟩)] xs ys [D0] [] X1 := ⟨⟨v1, v10.after hX1, by simpa [at_] using g1.after hX1⟩, v11.after hX1, m1.after hX1, step b1 hX1⟩
  have hm1x : ∀ m ∈ [D0], m < X1.heap.size := fun m hm => (Array.getElem?_eq_some_iff.1 (hS1x.2.2.1.2 m hm).2).1
  have hbx1 : w.heap.size ≤ X1.heap.size := hS1x.2.2.2.size
  have lx1 := l1.after hX1
  have lw1 := Lb.low
  clear v10 g1 v11 m1 b1 l1
  rw [← wpIn_wide (n := 5)]
  refine wpIn_rangeFunc_ownH rfl (show 1 ≤ 5 by omega) (gf := 83) (lb := #[.pointer (some ⟨Y0.heap.size, 0, none⟩)]) rfl trivial (enters_of Try.func83 (by kernel_rfl) rfl)
    (values_stops Fence.wide (5 - 1) trivial rfl (by omega) Y0.heap.size w.heap.size ab ys.length cb ys (by omega) X1 W1V.lt hbx1 lw1 W1V lx1) belowK_t (belowK_b hbx1) (Below.refl _ _) (fun _ => rfl)
    (UnI w #[.pointer (some ⟨p, 0, none⟩), .pointer (some ⟨q, 0, none⟩)] xs ys [D0]) (fun _ _ _ => False) (unI_own w _ _ _ _ _ hbx1 hm1x) (fun _ _ _ _ _ hs _ _ => hs) hS1x
    (fun x a' W => ∃ Bx, Va W Bx 24 #[.int .i64 (ys.getD x (0, 0)).1, .int .i64 (ys.getD x (0, 0)).2] ∧ a' = { tmps := #[.pointer (some ⟨p, 0, none⟩), .pointer (some ⟨q, 0, none⟩), undef, undef, .pointer none, .int .i64 0, .pointer (some ⟨w.heap.size, 0, none⟩), undef, .pointer (some ⟨q, 0, none⟩), .pointer (some ⟨Bx, 0, none⟩), .pointer (some ⟨p, 0, none⟩), .bool true, .bool false, .bool false, .pointer (some ⟨q, 0, none⟩), .bool true, .bool false, .bool false, .pointer (some ⟨p, 0, none⟩), .pointer (some ⟨q, 0, none⟩), .slice (some ⟨w.heap.size + 1, 0, none⟩) 2 2, .int .i64 2, .int .i64 1, .bool true, .pointer (some ⟨w.heap.size + 1, 1, none⟩), .pointer (some ⟨q, 0, none⟩), .pointer (some ⟨q, 0, none⟩), .func (.func 83) #[] #[.pointer (some ⟨Y0.heap.size, 0, none⟩)], .agg #[.int .i64 (ys.getD x (0, 0)).1, .int .i64 (ys.getD x (0, 0)).2], undef, undef, undef, undef, .int .i64 1, undef, undef, undef, undef, undef], defers := [] })
    (fun x a' _ X Y row hs hg hr => by obtain ⟨Bx, h2, h3⟩ := hs; exact ⟨Bx, h2.own hg (fun r e => (hr r e).2), h3⟩)
    ?assign1 ?body1 ?done1 ?stop1
  case assign1 =>
    rintro l pre x W K hI hK
    unfold sv
    generalize (ys.getD x (0, 0)).1 = x0 at *
    generalize (ys.getD x (0, 0)).2 = x1 at *
    gi_wp2
    refine hK _ _ ((KeepsOthers.alloc _ _).from _) ((Below.refl _ W).alloc hI.2.2.2.size _) ?_ ?_
    · exact unI_own w _ _ _ _ W.heap.size hI.2.2.2.size (fun m hm => (Array.getElem?_eq_some_iff.1 (hI.2.2.1.2 m hm).2).1) _ _ _ none hI (World.grownBy_alloc W _ none) (fun r e => by cases e)
    · exact ⟨W.heap.size, Va.new W _ _, rfl⟩
  case body1 =>
    rintro l pre x a' W hl ⟨rr, hr⟩ ⟨⟨v, hv, hg⟩, hv1, hmk, hB1⟩ ⟨Bx, bX, rfl⟩ hlt
    have HG : Hid (Gs W w.heap.size v (xs ++ at_ ys pre)) := hg
    have HE : Hid (xs ++ at_ ys (pre ++ [x]) = (xs ++ at_ ys pre) ++ [((ys.getD x (0, 0)).1, (ys.getD x (0, 0)).2)]) := by show _ = _; rw [at_snoc, List.append_assoc]
    have HP : Hid ((xs ++ at_ ys pre).length + 1 ≤ 8796093022208) := by show _ ≤ _; rw [List.length_append, at_length]; simp; omega
    generalize (ys.getD x (0, 0)).1 = x0 at *
    generalize (ys.getD x (0, 0)).2 = x1 at *
    generalize hq : xs ++ at_ ys pre = qs at *
    have q0 := hv.cell
    have c0 := bX.c0
    have c1 := bX.c1
    obtain ⟨av, cv, rfl, -, -, -⟩ := hg.shape
    have hws := hB1.size
    clear hlt hr hl hg hq
    gi_wp2_with (gi_at_builtin; refine wpListIn_appS rfl _ _ rfl w.heap.size _ qs rfl (HG.out.al _) W.heap.size 1 x0 x1 rfl (Va.new W _ _).c0 (Va.new W _ _).c1 HP.out (by simp; omega) ?_; intro v' w1 hg1 hgr1 hob; obtain ⟨a2, c2, rfl, -, -, -⟩ := hg1.shape; have k1 : Va w1 w.heap.size 31 #[.slice av qs.length cv] := told_kept hgr1 HG.out (hv.old _); have q1 := k1.cell; have f1 := k1.frozen 0; clear q0 c0 c1)
    have hn1 : qs.length + 1 = (qs ++ [(x0, x1)]).length := by simp
    rw [hn1]
    obtain ⟨r1, r2, r3, r4⟩ := app_go (N := X1.heap.size) (n₀ := w.heap.size) hv HG.out hgr1 hg1 (Nat.le_refl _) (Nat.le_refl _) hws
    obtain ⟨s1, s2⟩ := un_keep (u := .slice a2 (qs ++ [(x0, x1)]).length c2) HG.out hgr1 hv1 (by decide) (show w.heap.size + 1 ≠ w.heap.size by omega) hv hmk
    exact ⟨r1, r2, ⟨_, r3, by rw [HE.out]; exact r4⟩, s1, s2, hB1.trans r2⟩
  case stop1 =>
    rintro D c pre W hD hS h hK
    exact h.elim
  case done1 =>
  rintro D1 zs1 Y1 hD1 rfl hI1 hK1
  have e1 : at_ ys (List.range ys.length) = ys := at_range ys
  obtain ⟨⟨y1, k11, k12⟩, k13, k14, k15⟩ := hI1
  rw [e1] at k12
  have hS2 : UnI w #[.pointer (some ⟨p, 0, none⟩), .pointer (some ⟨q, 0, none⟩)] (xs ++ ys) [] (D1 :: [D0]) [] Y1 := ⟨⟨y1, k11, by simpa [at_] using k12⟩, k13, k14.cons (by omega) hK1 (fun m hm => Nat.lt_of_lt_of_le (hm1x m hm) hD1), k15⟩
  clear k11 k12 k13 k14 k15 hK1 hm1x lx1 W1V hS1x e1
  dsimp only
  go_wp2_with fail
  rw [rounds_succ]
  obtain ⟨⟨v2, v20, g2⟩, v21, m2, b2⟩ := hS2
  have q2 := v20.cell
  have G2 : Gs Y1 w.heap.size v2 (xs ++ ys) := by simpa [at_] using g2
  obtain ⟨qs, hqs⟩ : ∃ qs, qs = xs ++ ys := ⟨_, rfl⟩
  rw [← hqs] at G2
  have HQS : Hid (qs = xs ++ ys) := hqs
  have hql : qs.length ≤ 8192 := by rw [hqs, List.length_append]; omega
  clear hqs
  have HF2 := fewest_any w.heap.size v2 qs Y1 G2 (fun r hr => by
    rw [HQS.out] at hr
    rcases List.mem_append.1 hr with hr | hr
    · exact HF.out.1.1 r hr
    · exact HF.out.2.1 r hr) (by omega) b2.size
  obtain ⟨a2, c2, rfl, -, -, -⟩ := G2.shape
  clear g2
  go_wp2_with (go_at_call 45; refine HF2.mono ?_; rintro e w3 ⟨v3, cs, rfl, hg3, hfw, hb3, hk3⟩)
  have hl3 : cs.length ≤ 8192 := by have := hfw.out.2.2; omega
  have hso := setOf_any w.heap.size v3 cs w3 hg3 hfw.out.1 (by omega)
  have hB3 : Below w.heap.size w w3 := b2.trans (hb3 w.heap.size (Nat.le_refl _))
  obtain ⟨a3, c3, rfl, -, -, -⟩ := hg3.shape
  refine hso.mono ?_
  rintro e w4 ⟨hr, hb4⟩
  have hm4 : MK w.heap.size [D1, D0] w4 := MK.after (m2.keep (fun m hm => hk3 m (Array.getElem?_eq_some_iff.1 (m2.2 m hm).2).1 (un_row G2 (m2.2 m hm).2))) hb4
  have HX : Hid (Few cs ∧ (fun cs => ∀ d, inS cs d ↔ inS xs d ∨ inS ys d) cs) := ⟨hfw.out.1, fun d => by rw [hfw.out.2.1 d, HQS.out]; exact inS_append⟩
  have hB4 : Below w.heap.size w w4 := step hB3 hb4
  obtain ⟨vp, ve, he⟩ : ∃ vp ve, e = .returned (.tuple #[vp, ve]) := by
    rcases hr with ⟨-, p4, e4, -⟩ | ⟨-, e4⟩
    · exact ⟨_, _, e4⟩
    · exact ⟨_, _, e4⟩
  have HR : Hid (SetR cs e w4) := hr
  subst he
  clear hr hso HF2 hfw hb3 hb4 hB3
  go_wp2_with fail
  trace_state
  exact set_end (ms := [D1, D0]) rfl rfl rfl rfl HR.out HX hB4 hm4
end Go.Proofs.Ytiabjlaganmloaa
