/-
  span.Cut: the days that two sets have both.
-/
import Derived.Test.YtiabjlaganmloaaWi
namespace Go.Proofs.Ytiabjlaganmloaa
open Go.RowKit Go.Shelf
set_option linter.unusedVariables false
attribute [local go_sem] Oper.semAt_some

/-- All pieces of some spans. -/
noncomputable def flt (f : Pr → List Pr) (l : List Pr) : List Pr := l.flatMap f
theorem flt_snoc (f : Pr → List Pr) (l : List Pr) (p : Pr) : flt f (l ++ [p]) = flt f l ++ f p := by simp [flt]
/-- What stands between two rounds. -/
def CuI (w : World) (q : Nat) (f : Pr → List Pr) (xs : List Pr) (pre : List Nat) (W : World) : Prop := (∃ v, Va W (w.heap.size + 1) 31 #[v] ∧ Gs W w.heap.size v (flt f (at_ xs pre))) ∧ Va W w.heap.size 34 #[.pointer (some ⟨q, 0, none⟩)] ∧ Below w.heap.size w W
theorem cuI_own (w : World) (q : Nat) (f : Pr → List Pr) (xs : List Pr) (n : Nat) (hn : w.heap.size ≤ n) : OwnFrom n (CuI w q f xs) := by
  intro s W W' row hs hg hr
  obtain ⟨⟨v, h1, h2⟩, h3, h5⟩ := hs
  exact ⟨⟨v, h1.own hg (fun r e => (hr r e).2), h2.own hg (fun r e => (hr r e).2)⟩, h3.own hg (fun r e => (hr r e).2), belowOwn hn hg (fun r e => (hr r e).1) h5 h5.size⟩
/-- What stands between two rounds of the inner loop, from the outer round's world U on; K: where the iterator's span lies. -/
def CvI (w U : World) (q N K : Nat) (old ps : List Pr) (pre : List Nat) (W : World) : Prop := (∃ v, Va W (w.heap.size + 1) 31 #[v] ∧ Gs W w.heap.size v (old ++ at_ ps pre) ∧ v.ownBlock ≠ some K) ∧ Va W w.heap.size 34 #[.pointer (some ⟨q, 0, none⟩)] ∧ Below w.heap.size w W ∧ (Below w.heap.size U W ∧ KeepsFrom N U W) ∧ K < W.heap.size
theorem cvI_own (w U : World) (q N K : Nat) (old ps : List Pr) (n : Nat) (hn : w.heap.size ≤ n) (hu : U.heap.size ≤ n) : OwnFrom n (CvI w U q N K old ps) := by
  intro s W W' row hs hg hr
  obtain ⟨⟨v, h1, h2, h2'⟩, h3, h5, ⟨h6, h7⟩, h8⟩ := hs
  exact ⟨⟨v, h1.own hg (fun r e => (hr r e).2), h2.own hg (fun r e => (hr r e).2), h2'⟩, h3.own hg (fun r e => (hr r e).2), belowOwn hn hg (fun r e => (hr r e).1) h5 h5.size, ⟨belowOwn hn hg (fun r e => (hr r e).1) h6 h5.size, ownFrom_keepsFrom (β := Unit) (B := N) hu () W W' row h7 hg hr⟩, Nat.lt_of_lt_of_le h8 hg.size⟩
/-- A variable of a span elsewhere than the list stays where a span is put to the list. -/
theorem app_sp {W w1 : World} {B b k : Nat} {v u : Value} {qs : List Pr} {o : Obj} {cs : Array Value} {t : TypeId} (hgr : (W.alloc o).grownBy w1 v.ownBlock) (h : Va W k t cs) (hne : v.ownBlock ≠ some k) (hkb : k ≠ b) : Va (w1.setCell ⟨b, 0, none⟩ u) k t cs := by
  have hk := h.lt
  exact (heap_setCell_other w1 ⟨b, 0, none⟩ k u hkb).trans ((hgr.block k (by simp; omega) (fun e => hne e.symm)).trans ((Below.heap_alloc W o k hk).trans h))

set_option maxRecDepth 100000 in
set_option maxHeartbeats 2000000 in
theorem cut_in (p q : Nat) (xs ys : List Pr) (w : World) (ha : St w p xs) (hb : St w q ys) :
    CallsIn Fence.wide 9 Try.prog 24 #[.pointer (some ⟨p, 0, none⟩), .pointer (some ⟨q, 0, none⟩)] w fun e w' => ∃ cs, Hid (Few cs ∧ (fun cs => ∀ d, inS cs d ↔ inS xs d ∧ inS ys d) cs) ∧ SetR cs e w' ∧ Below w.heap.size w w' := by
  obtain ⟨fa, la, aa, ca, Va', hca, La, -⟩ := ha
  obtain ⟨fb, lb, ab, cb, Vb', hcb, Lb, hnb⟩ := hb
  have ta := fun W hB => there_any p _ true W (Va'.after (w' := W) hB)
  have tb := fun W hB => there_any q _ true W (Vb'.after (w' := W) hB)
  refine callsIn_of_wp_marks Try.func24 rfl trivial ?_ rfl
  simp only [Try.ntmps24, List.size_toArray, List.length_cons, List.length_nil, Nat.reduceAdd, Nat.reduceSub, Array.replicate_succ, Array.replicate_zero, List.push_toArray, List.append_toArray, List.nil_append, List.cons_append]
  rw [wpIn_wide]
  go_wp2_with fail
  refine (ta _ ((Below.refl _ _).alloc (Nat.le_refl _) _)).mono ?_
  rintro e w1 ⟨rfl, hw1⟩
  rw [hw1]
  clear hw1 w1
  go_wp2_with fail
  refine (tb _ ((Below.refl _ _).alloc (Nat.le_refl _) _)).mono ?_
  rintro e w1 ⟨rfl, hw1⟩
  rw [hw1]
  clear hw1 w1 ta tb
  have sp := spans_any p aa xs.length ca true ((w.alloc (.cells #[.pointer (some ⟨q, 0, none⟩)] 34)).alloc (.cells #[.slice none 0 0] 31)) ((Va'.old _).old _)
  unfold itv at sp
  simp only [World.size_alloc] at sp
  go_wp2_with (go_at_call 47; refine sp.mono ?_; rintro e w' ⟨rfl, rfl⟩)
  clear sp
  refine ent3 w _ _ _ _ _ _ (Q := fun W => Code.wp Try.prog _ _ _ W) ?_
  intro W0 hB0 hsz V0 V1 V2
  have lw := La.low
  have hwy : ∀ x : Pr, (wth x ys).length ≤ 4096 := fun x => Nat.le_trans (wth_length x ys) lb
  rw [← wpIn_wide (n := 9)]
  refine wpIn_rangeFunc_ownH rfl (show 1 ≤ 9 by omega) (gf := 83) (lb := #[.pointer (some ⟨w.heap.size + 1 + 1, 0, none⟩)]) rfl trivial (enters_of Try.func83 (by kernel_rfl) rfl)
    (values_stops Fence.wide (9 - 1) trivial rfl (by omega) (w.heap.size + 1 + 1) w.heap.size aa xs.length ca xs (by omega) W0 V2.lt (by omega) lw V2 (La.after hB0)) belowK_t (belowK_b (by omega)) (Below.refl _ _) (fun _ => rfl)
    (CuI w q (wth · ys) xs) (fun _ _ _ => False) (cuI_own w q _ xs _ (by omega)) (fun _ _ _ _ _ hs _ _ => hs) ⟨⟨_, V1, by simpa [flt, at_] using Gs.nil W0 w.heap.size⟩, V0, hB0⟩
    (fun x a' W => ∃ Bx, w.heap.size + 1 < Bx ∧ Va W Bx 24 #[.int .i64 (xs.getD x (0, 0)).1, .int .i64 (xs.getD x (0, 0)).2] ∧ a' = { tmps := #[.pointer (some ⟨p, 0, none⟩), .pointer (some ⟨q, 0, none⟩), undef, .pointer (some ⟨w.heap.size, 0, none⟩), .pointer none, .int .i64 0, .pointer (some ⟨w.heap.size + 1, 0, none⟩), .pointer (some ⟨Bx, 0, none⟩), undef, .pointer (some ⟨p, 0, none⟩), .bool true, .bool false, .bool false, .pointer (some ⟨q, 0, none⟩), .bool true, .bool false, .bool false, .pointer (some ⟨p, 0, none⟩), .func (.func 83) #[] #[.pointer (some ⟨w.heap.size + 1 + 1, 0, none⟩)], .agg #[.int .i64 (xs.getD x (0, 0)).1, .int .i64 (xs.getD x (0, 0)).2], undef, undef, undef, undef, undef, undef, undef, undef, undef, undef, undef, undef], defers := [] })
    (fun x a' _ X Y row hs hg hr => by obtain ⟨Bx, h1, h2, h3⟩ := hs; exact ⟨Bx, h1, h2.own hg (fun r e => (hr r e).2), h3⟩)
    ?assign ?body ?done ?stop
  case assign =>
    rintro l pre x W K hI hK
    unfold sv
    generalize (xs.getD x (0, 0)).1 = x0 at *
    generalize (xs.getD x (0, 0)).2 = x1 at *
    have hlt := hI.1
    gi_wp2
    refine hK _ _ ((KeepsOthers.alloc _ _).from _) ((Below.refl _ W).alloc hI.2.2.size _) ?_ ?_
    · exact cuI_own w q _ _ W.heap.size hI.2.2.size _ _ _ none hI (World.grownBy_alloc W _ none) (fun r e => by cases e)
    · exact ⟨W.heap.size, by obtain ⟨⟨v, hv, -⟩, -⟩ := hI; exact hv.lt, Va.new W _ _, rfl⟩
  case stop =>
    rintro D c pre W hD hS h hK
    exact h.elim
  case body =>
    rintro l pre x a' W hl ⟨r, hr⟩ ⟨⟨v, hv, hg⟩, hv1, hB1⟩ ⟨Bx, hBx, bX, rfl⟩ hlt
    have HE : Hid (flt (wth · ys) (at_ xs (pre ++ [x])) = flt (wth · ys) (at_ xs pre) ++ wth ((xs.getD x (0, 0)).1, (xs.getD x (0, 0)).2) ys) := by show _ = _; rw [at_snoc, flt_snoc]
    have HLEN : Hid ((flt (wth · ys) (at_ xs pre)).length ≤ 4096 * 4096) := by
      have h1 : ∀ l : List Pr, (flt (wth · ys) l).length ≤ 4096 * l.length := by
        intro l
        induction l with
        | nil => simp [flt]
        | cons p l ih => have := hwy p; simp only [flt, List.flatMap_cons, List.length_append, List.length_cons] at *; omega
      have := h1 (at_ xs pre)
      rw [at_length] at this
      show _ ≤ _
      omega
    generalize (xs.getD x (0, 0)).1 = x0 at *
    generalize (xs.getD x (0, 0)).2 = x1 at *
    generalize flt (wth · ys) (at_ xs pre) = old at *
    have q0 := hv1.cell
    have c0 := bX.c0
    have c1 := bX.c1
    have wi := within_any q x0 x1 W
    have hws := hB1.size
    gi_wp2_with (refine ⟨trivial, ?_⟩; gi_at_call 55; refine (CallsIn.inRound l (callsIn_wide.2 wi)).mono ?_; rintro e w' ⟨rfl, rfl⟩)
    clear wi q0 c0 c1
    have hwl := hwy (x0, x1)
    refine ent2 W _ _ _ _ (Q := fun X => Code.wpIn (Fence.wide.inRound l) _ Try.prog _ _ _ X) ?_
    intro X hX hxs U0 U1
    have HG : Hid (Gs W w.heap.size v old) := hg
    have hrX : X.heap[l]? = some (.loop r) := (hX.block l (Array.getElem?_eq_some_iff.1 hr).1).trans hr
    have hBX := step hB1 hX
    refine wpIn_rangeFunc_ownN (l₀ := l) (r₀ := r) rfl hrX (by omega) (gf := 77) (lb := #[.pointer (some ⟨W.heap.size, 0, none⟩), .pointer (some ⟨W.heap.size + 1, 0, none⟩)]) rfl trivial (enters_of Try.func77 (by kernel_rfl) rfl)
      ((within_stops _ (by omega) W.heap.size (W.heap.size + 1) w.heap.size q x0 x1 ys X (by omega) Vb'.lt U0 U1 ab cb (Vb'.after hBX) (Lb.after hBX) fb (by omega) hcb hnb Lb.low).inRound l) kw_t (kw_b (by omega)) (Below.refl _ _) (fun _ => rfl)
      (CvI w W q W0.heap.size (W.heap.size + 1) old (wth (x0, x1) ys)) (fun _ _ _ => False) (cvI_own w W q _ _ old _ _ (by omega) (by omega)) (fun _ _ _ _ _ hs _ _ => hs)
      ⟨⟨v, hv.after hX, by simpa [at_] using hg.after hX, fun e => by have := hg.lt _ e; omega⟩, hv1.after hX, hBX, ⟨hX.mono (by omega), (keeps_below hX).from _⟩, U1.lt⟩
      (fun j a' Y => ∃ By, w.heap.size + 1 < By ∧ Va Y By 24 #[.int .i64 ((wth (x0, x1) ys).getD j (0, 0)).1, .int .i64 ((wth (x0, x1) ys).getD j (0, 0)).2] ∧ a' = { tmps := #[.pointer (some ⟨p, 0, none⟩), .pointer (some ⟨q, 0, none⟩), undef, .pointer (some ⟨w.heap.size, 0, none⟩), .pointer none, .int .i64 0, .pointer (some ⟨w.heap.size + 1, 0, none⟩), .pointer (some ⟨Bx, 0, none⟩), .pointer (some ⟨By, 0, none⟩), .pointer (some ⟨p, 0, none⟩), .bool true, .bool false, .bool false, .pointer (some ⟨q, 0, none⟩), .bool true, .bool false, .bool false, .pointer (some ⟨p, 0, none⟩), .func (.func 83) #[] #[.pointer (some ⟨w.heap.size + 1 + 1, 0, none⟩)], .agg #[.int .i64 x0, .int .i64 x1], .pointer (some ⟨q, 0, none⟩), .agg #[.int .i64 x0, .int .i64 x1], .func (.func 77) #[] #[.pointer (some ⟨W.heap.size, 0, none⟩), .pointer (some ⟨W.heap.size + 1, 0, none⟩)], .agg #[.int .i64 ((wth (x0, x1) ys).getD j (0, 0)).1, .int .i64 ((wth (x0, x1) ys).getD j (0, 0)).2], undef, undef, undef, undef, undef, undef, undef, undef], defers := [] })
      (fun j a' _ X Y row hs hg hr => by obtain ⟨Bx, h1, h2, h3⟩ := hs; exact ⟨Bx, h1, h2.own hg (fun r e => (hr r e).2), h3⟩)
      ?assign2 ?body2 ?done2 ?stop2
    case assign2 =>
      rintro l2 pre2 j Y K hI hK
      unfold sv
      generalize ((wth (x0, x1) ys).getD j (0, 0)).1 = z0 at *
      generalize ((wth (x0, x1) ys).getD j (0, 0)).2 = z1 at *
      have hlt2 : w.heap.size + 1 < Y.heap.size := by obtain ⟨⟨v, hv, -⟩, -⟩ := hI; exact hv.lt
      gi_wp2
      refine hK _ _ ((KeepsOthers.alloc _ _).from _) (kw_below hI.2.2.1.size ((Below.refl _ Y).alloc (Nat.le_refl _) _)) ?_ ?_
      · exact cvI_own w W q _ _ old _ Y.heap.size hI.2.2.1.size hI.2.2.2.1.1.size _ _ _ none hI (World.grownBy_alloc Y _ none) (fun r e => by cases e)
      · exact ⟨Y.heap.size, hlt2, Va.new Y _ _, rfl⟩
    case stop2 =>
      rintro c pre2 Y hS h
      exact h.elim
    case body2 =>
      rintro l2 pre2 j a' Y hl2 ⟨r2, hr2⟩ ⟨⟨v2, hv2, hg2, hne2⟩, hv12, hB2, ⟨hBU, hKU⟩, hK2⟩ ⟨By, hBy, bY, rfl⟩ hlt2
      have HG2 : Hid (Gs Y w.heap.size v2 (old ++ at_ (wth (x0, x1) ys) pre2)) := hg2
      have HE2 : Hid (old ++ at_ (wth (x0, x1) ys) (pre2 ++ [j]) = (old ++ at_ (wth (x0, x1) ys) pre2) ++ [(((wth (x0, x1) ys).getD j (0, 0)).1, ((wth (x0, x1) ys).getD j (0, 0)).2)]) := by show _ = _; rw [at_snoc, List.append_assoc]
      have HP2 : Hid ((old ++ at_ (wth (x0, x1) ys) pre2).length + 1 ≤ 8796093022208) := by have := HLEN.out; show _ ≤ _; rw [List.length_append, at_length]; omega
      generalize ((wth (x0, x1) ys).getD j (0, 0)).1 = z0 at *
      generalize ((wth (x0, x1) ys).getD j (0, 0)).2 = z1 at *
      generalize hq : old ++ at_ (wth (x0, x1) ys) pre2 = qs at *
      have q0 := hv2.cell
      have c0 := bY.c0
      have c1 := bY.c1
      obtain ⟨av, cv, rfl, -, -, -⟩ := hg2.shape
      have hws2 := hB2.size
      have hwW : w.heap.size + 1 < W.heap.size := hv.lt
      have HNE : Hid ((Value.slice av qs.length cv).ownBlock ≠ some (W.heap.size + 1)) := hne2
      clear hlt2 hr2 hl2 hg2 hq hlt hr hrX hne2
      gi_wp2_with (gi_at_builtin; refine wpListIn_appS rfl _ _ rfl w.heap.size _ qs rfl (HG2.out.al _) Y.heap.size 1 z0 z1 rfl (Va.new Y _ _).c0 (Va.new Y _ _).c1 HP2.out (by simp; omega) ?_; intro v' w1 hg1 hgr1 hob; obtain ⟨a2, c2, rfl, -, -, -⟩ := hg1.shape; have k1 : Va w1 (w.heap.size + 1) 31 #[.slice av qs.length cv] := told_kept hgr1 HG2.out (hv2.old _); have q1 := k1.cell; have f1 := k1.frozen 0; clear q0 c0 c1)
      have hn1 : qs.length + 1 = (qs ++ [(z0, z1)]).length := by simp
      rw [hn1]
      obtain ⟨r1, -, -, -⟩ := app_go (N := X.heap.size) (n₀ := w.heap.size) hv2 HG2.out hgr1 hg1 (Nat.le_refl _) (by omega) hws2
      obtain ⟨r1', r2, r3, r4⟩ := app_go (N := W0.heap.size) (n₀ := w.heap.size) hv2 HG2.out hgr1 hg1 (Nat.le_refl _) (by omega) hws2
      have s1 := app_same (u := .slice a2 (qs ++ [(z0, z1)]).length c2) (b := w.heap.size + 1) HG2.out hgr1 hv12 (fun cs f e => by cases e) (show w.heap.size ≠ w.heap.size + 1 by omega)
      refine ⟨r1, ⟨r2, fun cs hcs => app_sp (B := 0) (qs := []) hgr1 hcs HNE.out (by omega)⟩, ⟨_, r3, by rw [HE2.out]; exact r4, fun e => ?_⟩, s1, hB2.trans r2, ⟨hBU.trans r2, hKU.trans r1'⟩, Nat.lt_of_lt_of_le hK2 r1.1⟩
      rcases hob with h | h
      · exact HNE.out (h ▸ e)
      · rw [h] at e
        simp only [World.size_alloc, Option.some.injEq] at e
        omega
    case done2 =>
      rintro zs Y rfl ⟨⟨v2, hv2, hg2, -⟩, hv12, hB2, ⟨hBU, hKU⟩, -⟩
      rw [at_range] at hg2
      gi_wp2
      exact ⟨hKU, hBU, ⟨v2, hv2, by rw [HE.out]; exact hg2⟩, hv12, hB2⟩
  case done =>
    rintro D zs Y hD rfl ⟨⟨v2, v20, g2⟩, v21, b2⟩ hK
    rw [at_range] at g2
    have hm2 : MK w.heap.size [D] Y := (MK.nil _ _).cons (by omega) hK (fun m hm => by simp at hm)
    have HC : Hid (Few (flt (wth · ys) xs) ∧ (fun cs => ∀ d, inS cs d ↔ inS xs d ∧ inS ys d) (flt (wth · ys) xs)) := cut_spec fa fb
    have hl3 : (flt (wth · ys) xs).length ≤ 4096 * 4096 := by
      have h1 : ∀ l : List Pr, (flt (wth · ys) l).length ≤ 4096 * l.length := by
        intro l
        induction l with
        | nil => simp [flt]
        | cons p l ih => have := hwy p; simp only [flt, List.flatMap_cons, List.length_append, List.length_cons] at *; omega
      have := h1 xs
      omega
    generalize flt (wth · ys) xs = cs at *
    have q2 := v20.cell
    have hso := setOf_any w.heap.size v2 cs Y g2 HC.out.1 (by omega)
    obtain ⟨a3, c3, rfl, -, -, -⟩ := g2.shape
    dsimp only
    go_wp2_with fail
    refine hso.mono ?_
    rintro e w4 ⟨hr, hb4⟩
    have hm4 : MK w.heap.size [D] w4 := hm2.after hb4
    have hB4 : Below w.heap.size w w4 := step b2 hb4
    obtain ⟨vp, ve, he⟩ : ∃ vp ve, e = .returned (.tuple #[vp, ve]) := by
      rcases hr with ⟨-, p4, e4, -⟩ | ⟨-, e4⟩
      · exact ⟨_, _, e4⟩
      · exact ⟨_, _, e4⟩
    have HR : Hid (SetR cs e w4) := hr
    subst he
    clear hr hso hb4
    go_wp2_with fail
    trace_state
    exact set_end (ms := [D]) rfl rfl rfl rfl HR.out HC hB4 hm4
end Go.Proofs.Ytiabjlaganmloaa
