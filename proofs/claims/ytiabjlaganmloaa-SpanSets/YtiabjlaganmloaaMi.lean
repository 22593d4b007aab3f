/-
  span.Minus: the days that the one set has and the other has not.
-/
import Derived.Test.YtiabjlaganmloaaCu
namespace Go.Proofs.Ytiabjlaganmloaa
open Go.RowKit Go.Shelf
set_option linter.unusedVariables false
attribute [local go_sem] Oper.semAt_some

theorem holE_length : ∀ (c : Int) (hs : List Pr), (holE c hs).length ≤ hs.length
  | _, [] => by simp [holE]
  | c, h :: t => by
    have := holE_length h.2 t
    simp only [holE, List.length_append, List.length_cons]
    have : (hol c h).length ≤ 1 := by unfold hol; split <;> simp
    omega
theorem mns_length (lo hi : Int) (hs : List Pr) : (mns lo hi hs).length ≤ hs.length + 1 := by
  have := holE_length lo hs
  have h2 : (las (curE lo hs) hi).length ≤ 1 := by unfold las; split <;> simp
  unfold mns
  rw [List.length_append]
  omega
/-- What stands between two rounds of the inner loop, from the outer round's world U on; K: where the iterator's span lies, Bx: where the outer round's span lies. -/
def MvI (w U : World) (q N K Bx : Nat) (x0 x1 : Int) (old ps : List Pr) (pre : List Nat) (W : World) : Prop := (∃ v, Va W (w.heap.size + 1) 31 #[v] ∧ Gs W w.heap.size v (old ++ holE x0 (at_ ps pre)) ∧ v.ownBlock ≠ some K ∧ v.ownBlock ≠ some Bx) ∧ Va W w.heap.size 34 #[.pointer (some ⟨q, 0, none⟩)] ∧ Below w.heap.size w W ∧ (Below w.heap.size U W ∧ KeepsFrom N U W) ∧ K < W.heap.size ∧ Va W Bx 24 #[.int .i64 (curE x0 (at_ ps pre)), .int .i64 x1]
theorem mvI_own (w U : World) (q N K Bx : Nat) (x0 x1 : Int) (old ps : List Pr) (n : Nat) (hn : w.heap.size ≤ n) (hu : U.heap.size ≤ n) : OwnFrom n (MvI w U q N K Bx x0 x1 old ps) := by
  intro s W W' row hs hg hr
  obtain ⟨⟨v, h1, h2, h2', h2''⟩, h3, h5, ⟨h6, h7⟩, h8, h9⟩ := hs
  exact ⟨⟨v, h1.own hg (fun r e => (hr r e).2), h2.own hg (fun r e => (hr r e).2), h2', h2''⟩, h3.own hg (fun r e => (hr r e).2), belowOwn hn hg (fun r e => (hr r e).1) h5 h5.size, ⟨belowOwn hn hg (fun r e => (hr r e).1) h6 h5.size, ownFrom_keepsFrom (β := Unit) (B := N) hu () W W' row h7 hg hr⟩, Nat.lt_of_lt_of_le h8 hg.size, h9.own hg (fun r e => (hr r e).2)⟩
/-- The outer round's span is put anew. -/
theorem min_put {w U W : World} {q N K Bx : Nat} {x1 c c' : Int} {a : Option Addr} {n cap : Nat} {qs : List Pr} (hv : Va W (w.heap.size + 1) 31 #[.slice a n cap]) (hg : Gs W w.heap.size (.slice a n cap) qs) (hne : (Value.slice a n cap).ownBlock ≠ some Bx) (hb : w.heap.size + 1 < Bx) (hx : Va W Bx 24 #[.int .i64 c, .int .i64 x1]) :
    Va (W.setCell ⟨Bx, 0, none⟩ (.int .i64 c')) (w.heap.size + 1) 31 #[.slice a n cap] ∧ Gs (W.setCell ⟨Bx, 0, none⟩ (.int .i64 c')) w.heap.size (.slice a n cap) qs ∧ Va (W.setCell ⟨Bx, 0, none⟩ (.int .i64 c')) Bx 24 #[.int .i64 c', .int .i64 x1] ∧ KeepsFrom N W (W.setCell ⟨Bx, 0, none⟩ (.int .i64 c')) ∧ Below w.heap.size W (W.setCell ⟨Bx, 0, none⟩ (.int .i64 c')) :=
  ⟨hv.other (p := ⟨Bx, 0, none⟩) (show w.heap.size + 1 ≠ Bx by omega) _, hg.far (p := ⟨Bx, 0, none⟩) hne _, hx.set0 _, (KeepsOthers.setCell _ _ _).from _, (Below.refl _ W).setCell (p := ⟨Bx, 0, none⟩) (show w.heap.size ≤ Bx by omega) _⟩

set_option maxRecDepth 100000 in
set_option maxHeartbeats 2000000 in
theorem minus_in (p q : Nat) (xs ys : List Pr) (w : World) (ha : St w p xs) (hb : St w q ys) :
    CallsIn Fence.wide 9 Try.prog 25 #[.pointer (some ⟨p, 0, none⟩), .pointer (some ⟨q, 0, none⟩)] w fun e w' => ∃ cs, Hid (Few cs ∧ (fun cs => ∀ d, inS cs d ↔ inS xs d ∧ ¬ inS ys d) cs) ∧ SetR cs e w' ∧ Below w.heap.size w w' := by
  obtain ⟨fa, la, aa, ca, Va', hca, La, -⟩ := ha
  obtain ⟨fb, lb, ab, cb, Vb', hcb, Lb, hnb⟩ := hb
  have ta := fun W hB => there_any p _ true W (Va'.after (w' := W) hB)
  have tb := fun W hB => there_any q _ true W (Vb'.after (w' := W) hB)
  refine callsIn_of_wp_marks Try.func25 rfl trivial ?_ rfl
  simp only [Try.ntmps25, List.size_toArray, List.length_cons, List.length_nil, Nat.reduceAdd, Nat.reduceSub, Array.replicate_succ, Array.replicate_zero, List.push_toArray, List.append_toArray, List.nil_append, List.cons_append]
  rw [wpIn_wide]
  go_wp2_with fail
  refine (ta _ ((Below.refl _ _).alloc (Nat.le_refl _) _)).mono ?_
  rintro e w1 ⟨rfl, hw1⟩
  rw [hw1]
  clear hw1 w1
  go_wp2_with fail
  refine (tb _ ((Below.refl _ _).alloc (Nat.le_refl _) _)).mono ?_
  rintro e w1 ⟨rfl, hw1⟩
  rw [hw1]
  clear hw1 w1 ta tb
  have sp := spans_any p aa xs.length ca true ((w.alloc (.cells #[.pointer (some ⟨q, 0, none⟩)] 34)).alloc (.cells #[.slice none 0 0] 31)) ((Va'.old _).old _)
  unfold itv at sp
  simp only [World.size_alloc] at sp
  go_wp2_with (go_at_call 47; refine sp.mono ?_; rintro e w' ⟨rfl, rfl⟩)
  clear sp
  refine ent3 w _ _ _ _ _ _ (Q := fun W => Code.wp Try.prog _ _ _ W) ?_
  intro W0 hB0 hsz V0 V1 V2
  have lw := La.low
  have hwz : ∀ x : Pr, (wth x ys).length ≤ 4096 := fun x => Nat.le_trans (wth_length x ys) lb
  have hwy : ∀ x : Pr, (mns x.1 x.2 (wth x ys)).length ≤ 4097 := fun x => by have := mns_length x.1 x.2 (wth x ys); have := hwz x; omega
  rw [← wpIn_wide (n := 9)]
  refine wpIn_rangeFunc_ownH rfl (show 1 ≤ 9 by omega) (gf := 83) (lb := #[.pointer (some ⟨w.heap.size + 1 + 1, 0, none⟩)]) rfl trivial (enters_of Try.func83 (by kernel_rfl) rfl)
    (values_stops Fence.wide (9 - 1) trivial rfl (by omega) (w.heap.size + 1 + 1) w.heap.size aa xs.length ca xs (by omega) W0 V2.lt (by omega) lw V2 (La.after hB0)) belowK_t (belowK_b (by omega)) (Below.refl _ _) (fun _ => rfl)
    (CuI w q (fun x => mns x.1 x.2 (wth x ys)) xs) (fun _ _ _ => False) (cuI_own w q _ xs _ (by omega)) (fun _ _ _ _ _ hs _ _ => hs) ⟨⟨_, V1, by simpa [flt, at_] using Gs.nil W0 w.heap.size⟩, V0, hB0⟩
    (fun x a' W => ∃ Bx, (w.heap.size + 1 < Bx ∧ ∃ v, Va W (w.heap.size + 1) 31 #[v] ∧ v.ownBlock ≠ some Bx) ∧ Va W Bx 24 #[.int .i64 (xs.getD x (0, 0)).1, .int .i64 (xs.getD x (0, 0)).2] ∧ a' = { tmps := #[.pointer (some ⟨p, 0, none⟩), .pointer (some ⟨q, 0, none⟩), undef, .pointer (some ⟨w.heap.size, 0, none⟩), .pointer none, .int .i64 0, .pointer (some ⟨w.heap.size + 1, 0, none⟩), .pointer (some ⟨Bx, 0, none⟩), undef, .pointer (some ⟨p, 0, none⟩), .bool true, .bool false, .bool false, .pointer (some ⟨q, 0, none⟩), .bool true, .bool false, .bool false, .pointer (some ⟨p, 0, none⟩), .func (.func 83) #[] #[.pointer (some ⟨w.heap.size + 1 + 1, 0, none⟩)], .agg #[.int .i64 (xs.getD x (0, 0)).1, .int .i64 (xs.getD x (0, 0)).2], undef, undef, undef, undef, undef, undef, undef, undef, undef, undef, undef, undef, undef, undef, undef, undef, undef, undef, undef, undef, undef, undef, undef, undef, undef, undef, undef, undef, undef, undef, undef, undef, undef], defers := [] })
    (fun x a' _ X Y row hs hg hr => by obtain ⟨Bx, ⟨h1, v, h4, h5⟩, h2, h3⟩ := hs; exact ⟨Bx, ⟨h1, v, h4.own hg (fun r e => (hr r e).2), h5⟩, h2.own hg (fun r e => (hr r e).2), h3⟩)
    ?assign ?body ?done ?stop
  case assign =>
    rintro l pre x W K hI hK
    unfold sv
    generalize (xs.getD x (0, 0)).1 = x0 at *
    generalize (xs.getD x (0, 0)).2 = x1 at *
    have hlt := hI.1
    gi_wp2
    refine hK _ _ ((KeepsOthers.alloc _ _).from _) ((Below.refl _ W).alloc hI.2.2.size _) ?_ ?_
    · exact cuI_own w q _ _ W.heap.size hI.2.2.size _ _ _ none hI (World.grownBy_alloc W _ none) (fun r e => by cases e)
    · obtain ⟨⟨v, hv, hg⟩, -⟩ := hI; exact ⟨W.heap.size, ⟨hv.lt, v, hv.old _, fun e => Nat.lt_irrefl _ (hg.lt _ e)⟩, Va.new W _ _, rfl⟩
  case stop =>
    rintro D c pre W hD hS h hK
    exact h.elim
  case body =>
    rintro l pre x a' W hl ⟨r, hr⟩ ⟨⟨v, hv, hg⟩, hv1, hB1⟩ ⟨Bx, ⟨hBx, vb, hvb, hbne⟩, bX, rfl⟩ hlt
    have hvv : v = vb := by have h1 := hv.cell; rw [hvb.cell] at h1; cases h1; rfl
    subst hvv
    have hBxW : Bx < W.heap.size := bX.lt
    have HE : Hid (flt (fun x => mns x.1 x.2 (wth x ys)) (at_ xs (pre ++ [x])) = flt (fun x => mns x.1 x.2 (wth x ys)) (at_ xs pre) ++ mns (xs.getD x (0, 0)).1 (xs.getD x (0, 0)).2 (wth ((xs.getD x (0, 0)).1, (xs.getD x (0, 0)).2) ys)) := by show _ = _; rw [at_snoc, flt_snoc]
    have HLEN : Hid ((flt (fun x => mns x.1 x.2 (wth x ys)) (at_ xs pre)).length ≤ 4097 * 4096) := by
      have h1 : ∀ l : List Pr, (flt (fun x => mns x.1 x.2 (wth x ys)) l).length ≤ 4097 * l.length := by
        intro l
        induction l with
        | nil => simp [flt]
        | cons p l ih => have := hwy p; simp only [flt, List.flatMap_cons, List.length_append, List.length_cons] at *; omega
      have := h1 (at_ xs pre)
      rw [at_length] at this
      show _ ≤ _
      omega
    generalize (xs.getD x (0, 0)).1 = x0 at *
    generalize (xs.getD x (0, 0)).2 = x1 at *
    generalize flt (fun x => mns x.1 x.2 (wth x ys)) (at_ xs pre) = old at *
    have q0 := hv1.cell
    have c0 := bX.c0
    have c1 := bX.c1
    have wi := within_any q x0 x1 W
    have hws := hB1.size
    gi_wp2_with (refine ⟨trivial, ?_⟩; gi_at_call 55; refine (CallsIn.inRound l (callsIn_wide.2 wi)).mono ?_; rintro e w' ⟨rfl, rfl⟩)
    clear wi q0 c0 c1
    have hwl := hwz (x0, x1)
    refine ent2 W _ _ _ _ (Q := fun X => Code.wpIn (Fence.wide.inRound l) _ Try.prog _ _ _ X) ?_
    intro X hX hxs U0 U1
    have HG : Hid (Gs W w.heap.size v old) := hg
    have hrX : X.heap[l]? = some (.loop r) := (hX.block l (Array.getElem?_eq_some_iff.1 hr).1).trans hr
    have hBX := step hB1 hX
    refine wpIn_rangeFunc_ownN (l₀ := l) (r₀ := r) rfl hrX (by omega) (gf := 77) (lb := #[.pointer (some ⟨W.heap.size, 0, none⟩), .pointer (some ⟨W.heap.size + 1, 0, none⟩)]) rfl trivial (enters_of Try.func77 (by kernel_rfl) rfl)
      ((within_stops _ (by omega) W.heap.size (W.heap.size + 1) w.heap.size q x0 x1 ys X (by omega) Vb'.lt U0 U1 ab cb (Vb'.after hBX) (Lb.after hBX) fb (by omega) hcb hnb Lb.low).inRound l) kw_t (kw_b (by omega)) (Below.refl _ _) (fun _ => rfl)
      (MvI w W q W0.heap.size (W.heap.size + 1) Bx x0 x1 old (wth (x0, x1) ys)) (fun _ _ _ => False) (mvI_own w W q _ _ Bx x0 x1 old _ _ (by omega) (by omega)) (fun _ _ _ _ _ hs _ _ => hs)
      ⟨⟨v, hv.after hX, by simpa [at_, holE] using hg.after hX, fun e => (by have := hg.lt _ e; omega), hbne⟩, hv1.after hX, hBX, ⟨hX.mono (by omega), (keeps_below hX).from _⟩, U1.lt, by simpa [at_, curE] using bX.after hX⟩
      (fun j a' Y => ∃ By, (w.heap.size + 1 < By ∧ ∃ v, Va Y (w.heap.size + 1) 31 #[v] ∧ v.ownBlock ≠ some By ∧ Bx ≠ By) ∧ Va Y By 24 #[.int .i64 ((wth (x0, x1) ys).getD j (0, 0)).1, .int .i64 ((wth (x0, x1) ys).getD j (0, 0)).2] ∧ a' = { tmps := #[.pointer (some ⟨p, 0, none⟩), .pointer (some ⟨q, 0, none⟩), undef, .pointer (some ⟨w.heap.size, 0, none⟩), .pointer none, .int .i64 0, .pointer (some ⟨w.heap.size + 1, 0, none⟩), .pointer (some ⟨Bx, 0, none⟩), .pointer (some ⟨By, 0, none⟩), .pointer (some ⟨p, 0, none⟩), .bool true, .bool false, .bool false, .pointer (some ⟨q, 0, none⟩), .bool true, .bool false, .bool false, .pointer (some ⟨p, 0, none⟩), .func (.func 83) #[] #[.pointer (some ⟨w.heap.size + 1 + 1, 0, none⟩)], .agg #[.int .i64 x0, .int .i64 x1], .pointer (some ⟨q, 0, none⟩), .agg #[.int .i64 x0, .int .i64 x1], .func (.func 77) #[] #[.pointer (some ⟨W.heap.size, 0, none⟩), .pointer (some ⟨W.heap.size + 1, 0, none⟩)], .agg #[.int .i64 ((wth (x0, x1) ys).getD j (0, 0)).1, .int .i64 ((wth (x0, x1) ys).getD j (0, 0)).2], undef, undef, undef, undef, undef, undef, undef, undef, undef, undef, undef, undef, undef, undef, undef, undef, undef, undef, undef, undef, undef, undef, undef, undef, undef, undef, undef, undef, undef], defers := [] })
      (fun j a' _ X Y row hs hg hr => by obtain ⟨Bx, ⟨h1, v, h4, h5⟩, h2, h3⟩ := hs; exact ⟨Bx, ⟨h1, v, h4.own hg (fun r e => (hr r e).2), h5⟩, h2.own hg (fun r e => (hr r e).2), h3⟩)
      ?assign2 ?body2 ?done2 ?stop2
    case assign2 =>
      rintro l2 pre2 j Y K hI hK
      unfold sv
      generalize ((wth (x0, x1) ys).getD j (0, 0)).1 = z0 at *
      generalize ((wth (x0, x1) ys).getD j (0, 0)).2 = z1 at *
      have hlt2 : w.heap.size + 1 < Y.heap.size := by obtain ⟨⟨v, hv, -⟩, -⟩ := hI; exact hv.lt
      gi_wp2
      refine hK _ _ ((KeepsOthers.alloc _ _).from _) (kw_below hI.2.2.1.size ((Below.refl _ Y).alloc (Nat.le_refl _) _)) ?_ ?_
      · exact mvI_own w W q _ _ Bx x0 x1 old _ Y.heap.size hI.2.2.1.size hI.2.2.2.1.1.size _ _ _ none hI (World.grownBy_alloc Y _ none) (fun r e => by cases e)
      · obtain ⟨⟨v, hv, hg, -⟩, -, -, -, -, hbx⟩ := hI; exact ⟨Y.heap.size, ⟨hlt2, v, hv.old _, fun e => Nat.lt_irrefl _ (hg.lt _ e), Nat.ne_of_lt hbx.lt⟩, Va.new Y _ _, rfl⟩
    case stop2 =>
      rintro c pre2 Y hS h
      exact h.elim
    case body2 =>
      rintro l2 pre2 j a' Y hl2 ⟨r2, hr2⟩ ⟨⟨v2, hv2, hg2, hne2, hne3⟩, hv12, hB2, ⟨hBU, hKU⟩, hK2, bX2⟩ ⟨By, ⟨hBy, vb2, hvb2, hbne2, hxy⟩, bY, rfl⟩ hlt2
      have hvv : v2 = vb2 := by have h1 := hv2.cell; rw [hvb2.cell] at h1; cases h1; rfl
      subst hvv
      have HG2 : Hid (Gs Y w.heap.size v2 (old ++ holE x0 (at_ (wth (x0, x1) ys) pre2))) := hg2
      have HE2 : Hid (old ++ holE x0 (at_ (wth (x0, x1) ys) (pre2 ++ [j])) = (old ++ holE x0 (at_ (wth (x0, x1) ys) pre2)) ++ hol (curE x0 (at_ (wth (x0, x1) ys) pre2)) (((wth (x0, x1) ys).getD j (0, 0)).1, ((wth (x0, x1) ys).getD j (0, 0)).2)) := by show _ = _; rw [at_snoc, holE_snoc, List.append_assoc]
      have HC2 : Hid (curE x0 (at_ (wth (x0, x1) ys) (pre2 ++ [j])) = ((wth (x0, x1) ys).getD j (0, 0)).2) := by show _ = _; rw [at_snoc, curE_snoc]
      have HP2 : Hid ((old ++ holE x0 (at_ (wth (x0, x1) ys) pre2)).length + 1 ≤ 8796093022208) := by have := HLEN.out; have := holE_length x0 (at_ (wth (x0, x1) ys) pre2); rw [at_length] at this; show _ ≤ _; rw [List.length_append]; omega
      generalize ((wth (x0, x1) ys).getD j (0, 0)).1 = z0 at *
      generalize ((wth (x0, x1) ys).getD j (0, 0)).2 = z1 at *
      generalize hq : old ++ holE x0 (at_ (wth (x0, x1) ys) pre2) = qs at *
      generalize curE x0 (at_ (wth (x0, x1) ys) pre2) = cur at *
      have q0 := hv2.cell
      have c0 := bY.c0
      have c1 := bY.c1
      have d0 := bX2.c0
      have f0 := bX2.frozen 0
      obtain ⟨av, cv, rfl, -, -, -⟩ := hg2.shape
      have hws2 := hB2.size
      have hwW : w.heap.size + 1 < W.heap.size := hv.lt
      have HNE : Hid ((Value.slice av qs.length cv).ownBlock ≠ some (W.heap.size + 1)) := hne2
      have HNX : Hid ((Value.slice av qs.length cv).ownBlock ≠ some Bx) := hne3
      have HNY : Hid ((Value.slice av qs.length cv).ownBlock ≠ some By) := hbne2
      clear hlt2 hr2 hl2 hg2 hq hlt hr hrX hne2 hne3 hbne2 hvb2 hbne hvb
      by_cases hcz : cur < z0
      · gi_wp2_with (gi_at_builtin; refine wpListIn_appS rfl _ _ rfl w.heap.size _ qs rfl (HG2.out.al _) Y.heap.size 1 cur z0 rfl (Va.new Y _ _).c0 (Va.new Y _ _).c1 HP2.out (by simp; omega) ?_; intro v' w1 hg1 hgr1 hob; obtain ⟨a2, c2, rfl, -, -, -⟩ := hg1.shape; have k1 : Va w1 (w.heap.size + 1) 31 #[.slice av qs.length cv] := told_kept hgr1 HG2.out (hv2.old _); have q1 := k1.cell; have f1 := k1.frozen 0; have sx := fun u => app_sp (B := 0) (qs := []) (u := u) (b := w.heap.size + 1) hgr1 bX2 HNX.out (by omega); have sy := fun u => app_sp (B := 0) (qs := []) (u := u) (b := w.heap.size + 1) hgr1 bY HNY.out (by omega); have c1 := fun u => (sy u).c1; clear q0 c0 d0; have d0 := fun u => (sx u).c0; have f0 := fun u => (sx u).frozen 0)
        have hn1 : qs.length + 1 = (qs ++ [(cur, z0)]).length := by simp
        rw [hn1]
        obtain ⟨-, r2, r3, r4⟩ := app_go (N := W0.heap.size) (n₀ := w.heap.size) hv2 HG2.out hgr1 hg1 (Nat.le_refl _) (by omega) hws2
        obtain ⟨r1, -, -, -⟩ := app_go (N := X.heap.size) (n₀ := w.heap.size) hv2 HG2.out hgr1 hg1 (Nat.le_refl _) (by omega) hws2
        obtain ⟨r1', -, -, -⟩ := app_go (N := W0.heap.size) (n₀ := w.heap.size) hv2 HG2.out hgr1 hg1 (Nat.le_refl _) (by omega) hws2
        have s1 := app_same (u := .slice a2 (qs ++ [(cur, z0)]).length c2) (b := w.heap.size + 1) HG2.out hgr1 hv12 (fun cs f e => by cases e) (show w.heap.size ≠ w.heap.size + 1 by omega)
        have hbY : Bx < Y.heap.size := bX2.lt
        have hob1 : (Value.slice a2 (qs ++ [(cur, z0)]).length c2).ownBlock ≠ some (W.heap.size + 1) := fun e => by
          rcases hob with h | h
          · exact HNE.out (h ▸ e)
          · rw [h] at e
            simp only [World.size_alloc, Option.some.injEq] at e
            omega
        have hob2 : (Value.slice a2 (qs ++ [(cur, z0)]).length c2).ownBlock ≠ some Bx := fun e => by
          rcases hob with h | h
          · exact HNX.out (h ▸ e)
          · rw [h] at e
            simp only [World.size_alloc, Option.some.injEq] at e
            omega
        obtain ⟨t1, t2, t3, t4, t5⟩ := min_put (w := w) (U := w) (q := 0) (K := 0) (N := X.heap.size) (c' := z1) r3 r4 hob2 hBx (sx _)
        obtain ⟨-, -, -, t4', -⟩ := min_put (w := w) (U := w) (q := 0) (K := 0) (N := W0.heap.size) (c' := z1) r3 r4 hob2 hBx (sx _)
        refine ⟨r1.trans t4, ⟨r2.trans t5, fun cs hcs => (app_sp (B := 0) (qs := []) (b := w.heap.size + 1) hgr1 hcs HNE.out (by omega)).other (p := ⟨Bx, 0, none⟩) (show W.heap.size + 1 ≠ Bx by omega) _⟩, ⟨_, t1, ?_, hob1, hob2⟩, Va.other (p := ⟨Bx, 0, none⟩) s1 (show w.heap.size ≠ Bx by omega) _, hB2.trans (r2.trans t5), ⟨hBU.trans (r2.trans t5), (hKU.trans r1').trans t4'⟩, Nat.lt_of_lt_of_le hK2 (r1.trans t4).1, ?_⟩
        · rw [HE2.out]
          unfold hol
          rw [if_pos hcz]
          exact t2
        · rw [HC2.out]; exact t3
      · have HCZ : Hid (¬ cur < z0) := hcz
        gi_wp2
        obtain ⟨t1, t2, t3, t4, t5⟩ := min_put (w := w) (U := w) (q := 0) (K := 0) (N := X.heap.size) (c' := z1) hv2 HG2.out HNX.out hBx bX2
        obtain ⟨-, -, -, t4', -⟩ := min_put (w := w) (U := w) (q := 0) (K := 0) (N := W0.heap.size) (c' := z1) hv2 HG2.out HNX.out hBx bX2
        refine ⟨hxs ▸ t4, ⟨t5, fun cs hcs => hcs.other (p := ⟨Bx, 0, none⟩) (show W.heap.size + 1 ≠ Bx by omega) _⟩, ⟨_, t1, ?_, HNE.out, HNX.out⟩, Va.other (p := ⟨Bx, 0, none⟩) hv12 (show w.heap.size ≠ Bx by omega) _, hB2.trans t5, ⟨hBU.trans t5, hsz ▸ (hKU.trans t4')⟩, Nat.lt_of_lt_of_le hK2 t4.1, ?_⟩
        · rw [HE2.out]
          unfold hol
          rw [if_neg (Int.not_lt.2 HCZ.out), List.append_nil]
          exact t2
        · rw [HC2.out]; exact t3
    case done2 =>
      rintro zs Y rfl ⟨⟨v2, hv2, hg2, -, hne3⟩, hv12, hB2, ⟨hBU, hKU⟩, -, bX2⟩
      rw [at_range] at hg2 bX2
      have HE3 : Hid (old ++ mns x0 x1 (wth (x0, x1) ys) = (old ++ holE x0 (wth (x0, x1) ys)) ++ las (curE x0 (wth (x0, x1) ys)) x1) := by show _ = _; rw [mns, List.append_assoc]
      have HP2 : Hid ((old ++ holE x0 (wth (x0, x1) ys)).length + 1 ≤ 8796093022208) := by have := HLEN.out; have := holE_length x0 (wth (x0, x1) ys); show _ ≤ _; rw [List.length_append]; omega
      have HG2 : Hid (Gs Y w.heap.size v2 (old ++ holE x0 (wth (x0, x1) ys))) := hg2
      generalize hq : old ++ holE x0 (wth (x0, x1) ys) = qs at *
      generalize curE x0 (wth (x0, x1) ys) = cur at *
      have q0 := hv2.cell
      have d0 := bX2.c0
      have d1 := bX2.c1
      obtain ⟨av, cv, rfl, -, -, -⟩ := hg2.shape
      have hws2 := hB2.size
      clear hg2 hq hlt hr hrX hbne hvb hne3
      by_cases hcz : cur < x1
      · gi_wp2_with (gi_at_builtin; refine wpListIn_appS rfl _ _ rfl w.heap.size _ qs rfl (HG2.out.al _) Y.heap.size 1 cur x1 rfl (Va.new Y _ _).c0 (Va.new Y _ _).c1 HP2.out (by simp; omega) ?_; intro v' w1 hg1 hgr1 hob; obtain ⟨a2, c2, rfl, -, -, -⟩ := hg1.shape; have k1 : Va w1 (w.heap.size + 1) 31 #[.slice av qs.length cv] := told_kept hgr1 HG2.out (hv2.old _); have q1 := k1.cell; have f1 := k1.frozen 0; clear q0 d0 d1)
        have hn1 : qs.length + 1 = (qs ++ [(cur, x1)]).length := by simp
        rw [hn1]
        obtain ⟨r1, r2, r3, r4⟩ := app_go (N := W0.heap.size) (n₀ := w.heap.size) hv2 HG2.out hgr1 hg1 (Nat.le_refl _) (by omega) hws2
        have s1 := app_same (u := .slice a2 (qs ++ [(cur, x1)]).length c2) (b := w.heap.size + 1) HG2.out hgr1 hv12 (fun cs f e => by cases e) (show w.heap.size ≠ w.heap.size + 1 by omega)
        refine ⟨hKU.trans r1, hBU.trans r2, ⟨_, r3, ?_⟩, s1, hB2.trans r2⟩
        rw [HE.out, HE3.out]
        unfold las
        rw [if_pos hcz]
        exact r4
      · have HCZ : Hid (¬ cur < x1) := hcz
        gi_wp2
        refine ⟨hsz ▸ hKU, hBU, ⟨_, hv2, ?_⟩, hv12, hB2⟩
        rw [HE.out, HE3.out]
        unfold las
        rw [if_neg (Int.not_lt.2 HCZ.out), List.append_nil]
        exact HG2.out
  case done =>
    rintro D zs Y hD rfl ⟨⟨v2, v20, g2⟩, v21, b2⟩ hK
    rw [at_range] at g2
    have hm2 : MK w.heap.size [D] Y := (MK.nil _ _).cons (by omega) hK (fun m hm => by simp at hm)
    have HC : Hid (Few (flt (fun x => mns x.1 x.2 (wth x ys)) xs) ∧ (fun cs => ∀ d, inS cs d ↔ inS xs d ∧ ¬ inS ys d) (flt (fun x => mns x.1 x.2 (wth x ys)) xs)) := minus_spec fa fb
    have hl3 : (flt (fun x => mns x.1 x.2 (wth x ys)) xs).length ≤ 4097 * 4096 := by
      have h1 : ∀ l : List Pr, (flt (fun x => mns x.1 x.2 (wth x ys)) l).length ≤ 4097 * l.length := by
        intro l
        induction l with
        | nil => simp [flt]
        | cons p l ih => have := hwy p; simp only [flt, List.flatMap_cons, List.length_append, List.length_cons] at *; omega
      have := h1 xs
      omega
    generalize flt (fun x => mns x.1 x.2 (wth x ys)) xs = cs at *
    have q2 := v20.cell
    have hso := setOf_any w.heap.size v2 cs Y g2 HC.out.1 (by omega)
    obtain ⟨a3, c3, rfl, -, -, -⟩ := g2.shape
    dsimp only
    go_wp2_with fail
    refine hso.mono ?_
    rintro e w4 ⟨hr, hb4⟩
    have hm4 : MK w.heap.size [D] w4 := hm2.after hb4
    have hB4 : Below w.heap.size w w4 := step b2 hb4
    obtain ⟨vp, ve, he⟩ : ∃ vp ve, e = .returned (.tuple #[vp, ve]) := by
      rcases hr with ⟨-, p4, e4, -⟩ | ⟨-, e4⟩
      · exact ⟨_, _, e4⟩
      · exact ⟨_, _, e4⟩
    have HR : Hid (SetR cs e w4) := hr
    subst he
    clear hr hso hb4
    go_wp2_with fail
    exact set_end (ms := [D]) rfl rfl rfl rfl HR.out HC hB4 hm4
end Go.Proofs.Ytiabjlaganmloaa
