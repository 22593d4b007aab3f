/-
  juris: what the statements gather of a path; lists of ints held one against the other, copied.
-/
import Derived.Test.YtfmbloagmeodeaaJu7
namespace Go.Proofs.Ytfmbloagmeodeaa
open Go.RowKit Go.Shelf
set_option linter.unusedVariables false
attribute [local go_sem] Oper.semAt_some

theorem eqIn_itp (w : World) (d f : Nat) (cb : Array Value) : Sem.run Try.prog (Op.equalIn (d + 1) 71 (.func (.func f) #[] cb) .nilFunc) w = .ok false w := by
  simp [Op.equalIn, run_underlying Try.underlying71]
theorem eql_itp (w : World) (f : Nat) (cb : Array Value) : Sem.run Try.prog (binOp .eql 71 (.func (.func f) #[] cb) .nilFunc) w = .ok (.bool false) w := by
  simp only [binOp]
  simp [Op.equal, Op.maxDepth, eqIn_itp w 9999]
/-- Places as ints. -/
def ints (l : List Nat) : List Int := l.map (fun x : Nat => (x : Int))
theorem ints_snoc (l : List Nat) (x : Nat) : ints (l ++ [x]) = ints l ++ [(x : Int)] := by simp [ints]
theorem ints_length (l : List Nat) : (ints l).length = l.length := by simp [ints]
/-- What stands between two rounds. -/
def PaI (w : World) (most : Int) (a : Option Addr) (n cap : Nat) (l : List Nat) (W : World) : Prop :=
  Va W w.heap.size 3 #[.int .i64 most] ∧ Va W (w.heap.size + 2 + 1) 22 #[.slice a n cap] ∧ (∃ v, Va W (w.heap.size + 1) 22 #[v] ∧ Ge elI W (w.heap.size + 4) v (ints l)) ∧ Below w.heap.size w W ∧ w.heap.size + 4 ≤ W.heap.size
theorem PaI.own {w : World} {most : Int} {a : Option Addr} {n cap : Nat} {l : List Nat} {W W' : World} {k : Nat} {row : Option Nat} (hs : PaI w most a n cap l W) (hn : w.heap.size ≤ k) (hg : W.grownBy W' row) (hr : ∀ r, row = some r → k ≤ r ∧ ∃ o : Obj, W.heap[r]? = some o ∧ o.isCells = false) : PaI w most a n cap l W' := by
  obtain ⟨h1, h2, ⟨v, h3, h4⟩, h5, h6⟩ := hs
  exact ⟨h1.own hg (fun r e => (hr r e).2), h2.own hg (fun r e => (hr r e).2), ⟨v, h3.own hg (fun r e => (hr r e).2), h4.own hg (fun r e => (hr r e).2)⟩, belowOwn hn hg (fun r e => (hr r e).1) h5 (by omega), Nat.le_trans h6 hg.size⟩
/-- A number is put to a list that a variable holds: what stays. -/
theorem app_go {W w1 : World} {B b : Nat} {v v' : Value} {qs qs' : List Int} {o : Obj} (hv : Va W b 22 #[v]) (hb : b < B) (hB : B ≤ W.heap.size) (hg : Ge elI W B v qs) (hgr : (W.alloc o).grownBy w1 v.ownBlock) (hg1 : Ge elI w1 B v' qs') :
    KeepsOthers W (w1.setCell ⟨b, 0, none⟩ v') ∧ Va (w1.setCell ⟨b, 0, none⟩ v') b 22 #[v'] ∧ Ge elI (w1.setCell ⟨b, 0, none⟩ v') B v' qs' ∧ (∀ c, c < B → c ≠ b → (w1.setCell ⟨b, 0, none⟩ v').heap[c]? = W.heap[c]?) ∧ W.heap.size ≤ (w1.setCell ⟨b, 0, none⟩ v').heap.size ∧ (∀ n₀, n₀ ≤ b → Below n₀ W (w1.setCell ⟨b, 0, none⟩ v')) := by
  have hkeep : ∀ c, c < B → w1.heap[c]? = W.heap[c]? := fun c hc => by
    rw [hgr.block c (by simp; omega) (fun e => by have := hg.block c e.symm; omega)]
    exact Below.heap_alloc _ _ _ (by omega)
  have hs1 : W.heap.size ≤ w1.heap.size := by have := hgr.size; simp at this; omega
  refine ⟨?_, Va.set ((hkeep b hb).trans hv) v', hg1.far (fun e => ?_) _, fun c hc hne => ?_, by simpa using hs1, fun n₀ hn => ?_⟩
  · refine (KeepsOthers.alloc W o).trans (KeepsOthers.trans ⟨hgr.size, fun k u hk hc => ?_⟩ (KeepsOthers.setCell _ _ _))
    refine (hgr.block k (Array.getElem?_eq_some_iff.1 hk).1 (fun e => ?_)).trans hk
    obtain ⟨-, h2 | ⟨g, cap, cur, e2, hB, hh, r⟩⟩ := hg.al o
    · rw [h2.1] at e; cases e
    · rw [e2] at e; cases e
      rw [hh] at hk; cases hk; cases hc
  · have := hg1.block _ e; simp at this; omega
  · rw [heap_setCell_other _ _ _ _ hne]
    exact hkeep c hc
  · exact (((Below.refl n₀ W).alloc (by omega) o).trans ((Below.refl n₀ _).grown hgr (by simp; omega) (fun k hk => by have := hg.block k hk; omega))).setCell (p := ⟨b, 0, none⟩) hn _
set_option maxRecDepth 100000 in
set_option maxHeartbeats 4000000 in
theorem lpath_any {w : World} {q a : Option Addr} {cap : Nat} {ps : List Int} {m : Bool} (h : Tv w q a ps.length cap ps m) (hT : Tre ps) (hl : ps.length ≤ 1000000) (i most : Int) (hm : 1 ≤ most) :
    Calls Try.prog 24 #[.pointer q, .int .i64 i, .int .i64 most] w fun e w' => (∃ v, e = .returned v ∧ Ge elI w' w.heap.size v (ints ((pthZ ps i).take most.toNat))) ∧ Below w.heap.size w w' := by
  have HT : Hid (Tv w q a ps.length cap ps m) := h
  have HP : Hid (Ptc ps (stZ ps.length i) (pthZ ps i)) := ptc_any hT i
  have hlow := h.li.low
  have hpl := pthZ_len hT i
  have en := eql_itp
  have hm1 : ¬ most < 1 := by omega
  clear h
  refine (callsIn_wide (n := 5)).1 ?_
  refine callsIn_of_wp_marks Try.func24 rfl trivial ?_ rfl
  simp only [Try.ntmps24, List.size_toArray, List.length_cons, List.length_nil, Nat.reduceAdd, Nat.reduceSub, Array.replicate_succ, Array.replicate_zero, List.push_toArray, List.append_toArray, List.nil_append, List.cons_append]
  gi_wp2_with (refine ⟨trivial, ?_⟩; gi_at_call 39; refine ent2 w _ _ _ _ (Q := fun W => CallsIn _ _ _ _ _ W _) ?_; intro W0 hB0 hs0 V0 V1; refine (callsIn_wide.2 (path_any (HT.out.after hB0) i)).mono ?_; rintro e W1 ⟨rfl, Vi, Vp, hB1, hs1⟩; rw [hs0] at Vi Vp hs1; unfold itp; have c0 := (V0.after hB1).cell)
  have hBw : Below w.heap.size w W1 := step hB0 hB1
  have hLi := (HT.out.after hBw).li
  have hI0 : PaI w most a ps.length cap [] W1 := ⟨V0.after hB1, Vp, ⟨_, V1.after hB1, Ge.nil _ _⟩, hBw, by omega⟩
  clear c0
  refine wpIn_rangeFunc_ownH rfl (show 1 ≤ 5 by omega) (gf := 48) (lb := #[.pointer (some ⟨w.heap.size + 2, 0, none⟩), .pointer (some ⟨w.heap.size + 2 + 1, 0, none⟩)]) rfl trivial (enters_of Try.func48 (by kernel_rfl) rfl)
    (path_stops Fence.wide (5 - 1) trivial rfl (by omega) (w.heap.size + 2) (w.heap.size + 2 + 1) w.heap.size a cap ps _ _ HP.out hl W1 hlow (by omega) Vi Vp hLi) kp2_t (kp2_b (by omega) (by omega)) (Below.refl _ _) (fun _ => rfl)
    (fun pre W => PaI w most a ps.length cap (vals pre) W ∧ (pre.length : Int) < most)
    (fun c pre W => c = .exit 0 ∧ PaI w most a ps.length cap (vals pre) W ∧ (pre.length : Int) = most)
    (fun s W W' row hs hg hr => ⟨hs.1.own (by omega) hg hr, hs.2⟩)
    (fun c s W W' row hs hg hr => ⟨hs.1, hs.2.1.own (by omega) hg hr, hs.2.2⟩) ⟨hI0, by simp; omega⟩
    (fun x a' W => a' = { tmps := #[.pointer q, .int .i64 i, .int .i64 most, undef, undef, .pointer (some ⟨w.heap.size, 0, none⟩), .slice none 0 0, .pointer (some ⟨w.heap.size + 1, 0, none⟩), .func (.func 48) #[] #[.pointer (some ⟨w.heap.size + 2, 0, none⟩), .pointer (some ⟨w.heap.size + 2 + 1, 0, none⟩)], .int .i64 (x.1 : Int), .pointer q, .int .i64 i, .func (.func 48) #[] #[.pointer (some ⟨w.heap.size + 2, 0, none⟩), .pointer (some ⟨w.heap.size + 2 + 1, 0, none⟩)], .func (.func 48) #[] #[.pointer (some ⟨w.heap.size + 2, 0, none⟩), .pointer (some ⟨w.heap.size + 2 + 1, 0, none⟩)], .bool false, .bool false, .int .i64 most, .bool false, .bool false, .func (.func 48) #[] #[.pointer (some ⟨w.heap.size + 2, 0, none⟩), .pointer (some ⟨w.heap.size + 2 + 1, 0, none⟩)], .int .i64 (x.1 : Int), undef, undef, undef, undef, undef, undef, undef, undef, undef], defers := [] })
    (fun _ _ _ _ _ _ hs _ _ => hs)
    ?assign ?body ?done ?stop
  case assign =>
    rintro l pre x W K hI hK
    gi_wp2
    exact hK _ _ (KeepsFrom.refl _ _) (Kp2.refl _ _ _) hI (by simp; omega)
  case body =>
    rintro l pre x a' W hl' ⟨r, hr⟩ ⟨⟨h1, h2, ⟨v, h3, h4⟩, h5, h6⟩, h7⟩ rfl hlt
    have c0 := h1.cell
    have c1 := h3.cell
    have HG : Hid (Ge elI W (w.heap.size + 4) v (ints (vals pre))) := h4
    have HS : Hid (ints (vals (pre ++ [x])) = ints (vals pre) ++ [(x.1 : Int)]) := by show _ = _; rw [vals_snoc, ints_snoc]
    have HL : Hid ((ints (vals pre)).length = pre.length) := by show _ = _; rw [ints_length, vals_length]
    have HP : Hid ((ints (vals pre)).length + 1 ≤ 1000000000000) := by show _ ≤ _; rw [HL.out]; omega
    obtain ⟨av, cv, rfl, -, -, -⟩ := h4.shape
    clear hl' hr hlt h4
    have hw1 : ∀ w1 : World, (W.alloc (.cells #[.int .i64 (x.1 : Int)] 3)).grownBy w1 (Value.slice av (ints (vals pre)).length cv).ownBlock → ∀ c, c < w.heap.size + 4 → w1.heap[c]? = W.heap[c]? := fun w1 hgr c hc => by
      rw [hgr.block c (by simp; omega) (fun e => by have := HG.out.block c e.symm; omega)]
      exact Below.heap_alloc _ _ _ (by omega)
    have HW1 : Hid _ := hw1
    clear hw1
    generalize ints (vals pre) = L at *
    gi_wp2_with (gi_at_builtin; refine wpListIn_appE rfl _ _ _ rfl elI rfl (w.heap.size + 4) _ L rfl (HG.out.al _) W.heap.size 0 1 1 [(x.1 : Int)] rfl (Le.one (Va.new W _ _) rfl) HP.out (by simp; omega) ?_; intro v' w1 hg1 hgr1 hob; obtain ⟨a2, c2, rfl, -, -, -⟩ := hg1.shape; have q1 := (show Va w1 (w.heap.size + 1) 22 _ from (HW1.out w1 hgr1 _ (by omega)).trans h3).cell; have g1 := (show Va w1 (w.heap.size + 1) 22 _ from (HW1.out w1 hgr1 _ (by omega)).trans h3).frozen 0; have q0 := (show Va w1 w.heap.size 3 _ from (HW1.out w1 hgr1 _ (by omega)).trans h1).cell; have HG1 : Hid (Ge elI w1 (w.heap.size + 4) (.slice a2 (L ++ [(x.1 : Int)]).length c2) (L ++ [(x.1 : Int)])) := hg1; clear c0 c1 hob hg1)
    all_goals
      rename_i hq
      have hn1 : L.length + 1 = (L ++ [(x.1 : Int)]).length := by simp
      rw [hn1]
      obtain ⟨r1, r2, r3, r4, r5, r6⟩ := app_go h3 (by omega) (by omega) HG.out hgr1 HG1.out
      have hL := HL.out
      have hPa : PaI w most a ps.length cap (vals (pre ++ [x])) (w1.setCell ⟨w.heap.size + 1, 0, none⟩ (.slice a2 (L ++ [(x.1 : Int)]).length c2)) :=
        ⟨(r4 _ (by omega) (by omega)).trans h1, (r4 _ (by omega) (by omega)).trans h2, ⟨_, r2, by rw [HS.out]; exact r3⟩, h5.trans (r6 _ (by omega)), Nat.le_trans h6 r5⟩
    · have hq' : (L.length : Int) + 1 = most := by simpa using hq
      exact ⟨r1.from _, rfl, hPa, by simp; omega⟩
    · have hq' : ¬ (L.length : Int) + 1 = most := by simpa using hq
      exact ⟨r1.from _, ⟨r6 _ (by omega), r4 _ (by omega) (by omega)⟩, hPa, by simp; omega⟩
  case done =>
    rintro D ys W hD hys ⟨⟨h1, h2, ⟨v, h3, h4⟩, h5, h6⟩, h7⟩ hK
    have HG : Hid (Ge elI W (w.heap.size + 4) v (ints (vals ys))) := h4
    obtain ⟨av, cv, rfl, -, -, -⟩ := h4.shape
    have c1 := h3.cell
    clear h4
    gi_wp2
    refine ⟨by simp, .inl ⟨_, _, rfl, run_takeDeferred hK, ?_⟩⟩
    refine ⟨_, results_tmp rfl _ _ _, ⟨_, rfl, ?_⟩, h5.trans (belowK_b (w := w) (Nat.le_refl _) _ D _ _ (by omega) hK rfl rfl)⟩
    have h9 := (HG.out.own (grownBy_putObj' _ D (.deferred none)) (fun r e => by cases e; exact ⟨_, hK, rfl⟩)).le (show w.heap.size ≤ w.heap.size + 4 by omega)
    have hys' : vals ys = pthZ ps i := hys
    rw [List.take_of_length_le (by rw [← hys', vals_length]; omega), ← hys']
    exact h9
  case stop =>
    rintro D c pre W hD hpre ⟨rfl, ⟨h1, h2, ⟨v, h3, h4⟩, h5, h6⟩, h7⟩ hK
    have HG : Hid (Ge elI W (w.heap.size + 4) v (ints (vals pre))) := h4
    obtain ⟨av, cv, rfl, -, -, -⟩ := h4.shape
    have c1 := h3.cell
    clear h4
    gi_wp2
    refine ⟨by simp, .inl ⟨_, _, rfl, run_takeDeferred hK, ?_⟩⟩
    refine ⟨_, results_tmp rfl _ _ _, ⟨_, rfl, ?_⟩, h5.trans (belowK_b (w := w) (Nat.le_refl _) _ D _ _ (by omega) hK rfl rfl)⟩
    have h9 := (HG.out.own (grownBy_putObj' _ D (.deferred none)) (fun r e => by cases e; exact ⟨_, hK, rfl⟩)).le (show w.heap.size ≤ w.heap.size + 4 by omega)
    have e : (pthZ ps i).take most.toNat = vals pre := by
      have h10 := List.prefix_iff_eq_take.1 hpre
      rw [h10, vals_length]
      congr 1
      omega
    rw [e]
    exact h9
end Go.Proofs.Ytfmbloagmeodeaa
