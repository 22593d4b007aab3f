/-
  ExchOrder (P16.2, P16.5): quotes of unlike keys may be put in any order (of one key the last one counts); what a table tells, put to a new one, makes the same table. For every list of quotes (the first 2000 are put), any two texts and any day.
-/
import Derived.Test.YtmhfoeooccppfaaGreatExC
import Derived.Shelf.SlIter.Collect
import Derived.Laws.MakeOwn
import Derived.Test.YtmhfoeooccppfaaGreatExB
import Derived.Test.YtmhfoeooccppfaaGreatRt4
import Derived.ProofKit
import Derived.OpenShut
import Derived.ShutString
import Derived.ChangeOld
import Derived.SizedLaws
import Derived.Deep.Slices
import Derived.Test.YtmhfoeooccppfaaGreatRows
namespace Go.Proofs.YtmhfoeooccppfaaGreat
open Go.RowKit Go.Maps Go.Sort Go.Shelf
set_option linter.unusedVariables false
set_option maxRecDepth 100000

/-- What has been told of a map's pairs. -/
def CollP (D0 : DataW Value) (left : Lit → Bool) (ks : List Pa) : Prop :=
  ks.Nodup ∧ (∀ k ∈ ks, ∃ kl, keyOf Tryz.prog 71 (pv k) = some kl ∧ left kl = false ∧ Maps.has D0 kl = true) ∧
    ∀ kl, Maps.has D0 kl = true → left kl = false → ∃ k ∈ ks, keyOf Tryz.prog 71 (pv k) = some kl
theorem CollP.start (D0 : DataW Value) : CollP D0 (Maps.has D0) [] := ⟨List.nodup_nil, (fun k hk => by cases hk), (fun kl (h1 : Maps.has D0 kl = true) (h2 : Maps.has D0 kl = false) => by rw [h1] at h2; cases h2)⟩
theorem CollP.step {D0 : DataW Value} {left : Lit → Bool} {ks : List Pa} (h : CollP D0 left ks) {k : Pa} {kl : Lit} (hk : keyOf Tryz.prog 71 (pv k) = some kl) (hl : left kl = true) (hh : Maps.has D0 kl = true) : CollP D0 (fun z => left z && !z.sameKey kl) (ks ++ [k]) := by
  obtain ⟨h1, h2, h3⟩ := h
  have hkey := lawP.key hk
  refine ⟨?_, fun k' hk' => ?_, fun kl' g1 g2 => ?_⟩
  · rw [List.nodup_append]
    refine ⟨h1, by simp, fun a ha b hb => ?_⟩
    rw [List.mem_singleton] at hb
    subst hb
    rintro rfl
    obtain ⟨kl', e1, e2, -⟩ := h2 a ha
    rw [hk] at e1
    cases e1
    rw [hl] at e2
    cases e2
  · rcases List.mem_append.1 hk' with hk' | hk'
    · obtain ⟨kl', e1, e2, e3⟩ := h2 k' hk'
      exact ⟨kl', e1, by simp [e2], e3⟩
    · rw [List.mem_singleton] at hk'
      subst hk'
      exact ⟨kl, hk, by simp [WideAt.sameKey_self hkey], hh⟩
  · rcases Bool.and_eq_false_iff.1 g2 with g2 | g2
    · obtain ⟨k', e1, e2⟩ := h3 kl' g1 g2
      exact ⟨k', List.mem_append_left _ e1, e2⟩
    · have : kl'.sameKey kl = true := by simpa using g2
      have e := WideAt.sameKey_eq this
      subst e
      exact ⟨k, by simp, hk⟩
set_option maxHeartbeats 2000000 in
theorem keysP_in (F : Fence) (n : Nat) (h10 : F.fn 71) (hro : F.round = none) (hn : 1 ≤ n) (l Bm b nn : Nat) (D0 : DataW Value) (J : List Pa → World → Prop)
    (hY : ∀ pre x W, J pre W → pre.length < Maps.size D0 → YieldAt F (n - 1) Tryz.prog l #[.agg #[sv x.1, sv x.2]] W fun e W' => e = .returned (.bool true) ∧ J (pre ++ [x]) W' ∧ KeepsWalks W W')
    (W : World) (hJ : AbidesFrom W.heap.size J) (hm : W.cell? ⟨Bm, 0, none⟩ = some (.map (some b))) (hown : W.ownsMap Tryz.prog 71 hdR b nn D0) (h0 : J [] W) :
    CallsIn F n Tryz.prog 71 #[.func (.yield l) #[] #[], .pointer (some ⟨Bm, 0, none⟩)] W fun e W' => (∃ v, e = .returned v) ∧ ∃ ks : List Pa, CollP D0 (fun _ => false) ks ∧ J ks W' := by
  refine callsIn_of_wp Tryz.func71 rfl h10 ?_ hro
  simp only [Tryz.ntmps71, List.size_toArray, List.length_cons, List.length_nil, Nat.reduceAdd, Nat.reduceSub, Array.replicate_succ, Array.replicate_zero, List.push_toArray, List.append_toArray, List.nil_append, List.cons_append]
  gi_wp2_with (first
    | (gi_at_range; refine wpListIn_range_own _ rfl _ 30 rfl 71 72 lawP Tryz.underlying30 hdR b nn _ rfl hown ?_; intro w0 hrg0 hg0 hs0)
    | gi_in)
  go_frame
  gi_loopw [3] (fun _ wr => ∃ (left : Lit → Bool) (cnt : Nat) (ss : List Pa), wr.ranges Tryz.prog 71 hdR b W.heap.size nn D0 left cnt ∧ ss.length + cnt ≤ Maps.size D0 ∧ CollP D0 left ss ∧ J ss wr ∧ W.heap.size < wr.heap.size)
    (fun _ wr => wr.rangeLeft b W.heap.size)
  case atStart =>
    exact ⟨_, _, [], hrg0, by simp, CollP.start D0, hJ [] W w0 none h0 hg0 (fun r e => by cases e), by omega⟩
  case round =>
    obtain ⟨left, cnt, ss, hrg, hcs, hC, hJs, hsz⟩ := hrel
    gi_wp2_with (first
      | (gi_at_next; refine wpListIn_next_ranges _ rfl _ rfl 71 lawP hdR pv id (fun key kl hk => keyP_inv hk) (fun v _ _ => ⟨v, rfl⟩) b W.heap.size nn _ _ _ rfl hrg ?_ ?_)
      | gi_in)
    · intro hc0 hl0
      have HL : Hid (∀ kl, left kl = false) := hl0
      clear hc0 hl0
      gi_wp2
      go_end0
      refine ⟨⟨_, rfl⟩, ss, ?_, hJs⟩
      have : left = fun _ => false := funext HL.out
      rw [← this]
      exact hC
    · intro x1 x2 c kl yd yp w2 cnt2 hkey hlk hv hat hrg2 hlt hg2 hs2 hen
      have hJ2 : J ss w2 := hJ ss wr w2 (some W.heap.size) hJs hg2 (fun r e => by cases e; exact ⟨Nat.le_refl _, hrg.iter_walk⟩)
      have hJ3 : J ss (w2.alloc (.cells #[sv x1, sv x2] 71)) := hJ ss w2 _ none hJ2 (World.grownBy_alloc _ _ _) (fun r e => by cases e)
      obtain ⟨fn, tmps, assign, body, hy, hR⟩ := hY ss (x1, x2) (w2.alloc (.cells #[sv x1, sv x2] 71)) hJ3 (by omega)
      have HS2 : Hid (W.heap.size < w2.heap.size) := by show _ < _; omega
      have hC2 := hC.step hkey hlk (Maps.has_true_of_atKey hat)
      have HC2 : Hid (CollP D0 (fun z => left z && !z.sameKey kl) (ss ++ [(x1, x2)])) := hC2
      have HRG : Hid (w2.ranges Tryz.prog 71 hdR b W.heap.size nn D0 (fun z => left z && !z.sameKey kl) cnt2) := hrg2
      have HLT : Hid (cnt2 < cnt ∧ ss.length + cnt ≤ Maps.size D0) := ⟨hlt, hcs⟩
      have HRG0 : Hid (wr.ranges Tryz.prog 71 hdR b W.heap.size nn D0 left cnt) := hrg
      clear hs2 hC2 hkey hlk hv hat hrg2 hlt hg2 hJ2 hJ3 hrg hC hJs hcs
      gi_wp2
      refine hR.mono ?_
      rintro e W3 ⟨rfl, hJ4, hk3⟩
      have HJ4 : Hid (J (ss ++ [(x1, x2)]) W3) := hJ4
      have HK3 : Hid (KeepsWalks (w2.alloc (.cells #[sv x1, sv x2] 71)) W3) := hk3
      clear hJ4 hk3
      gi_wp2
      have hrg3 := (HRG.out.of_walks (KeepsWalks.alloc _ _)).of_walks HK3.out
      go_roundw
      case rel => exact ⟨_, cnt2, ss ++ [(x1, x2)], hrg3, by have := HLT.out; simp; omega, HC2.out, HJ4.out, by have := HK3.out.size; have := HS2.out; simp at *; omega⟩
      case measure => rw [hrg3.left_eq, HRG0.out.left_eq]; exact HLT.out.1
theorem keysP_any (mb : Option Nat) (w : World) : Calls Tryz.prog 38 #[.map mb] w fun e w' => e = .returned (.func (.func 71) #[] #[.pointer (some ⟨w.heap.size, 0, none⟩)]) ∧ w' = w.alloc (.cells #[.map mb] 30) := by
  go_enter Tryz.func38, Tryz.ntmps38
  go_wp2_with fail
  go_ret
  exact ⟨rfl, rfl⟩
end Go.Proofs.YtmhfoeooccppfaaGreat
namespace Go.Proofs.YtmhfoeooccppfaaGreat
open Go.RowKit Go.Maps Go.Sort Go.Shelf
set_option linter.unusedVariables false
set_option maxRecDepth 100000

def apAssignP : Code := (Code.region 2 #[{ dst := some 5, op := Op.alloc 71, type := 0, pos := "iter.go:51", after := #[], guard := none }, { dst := none, op := Op.store 71 (Operand.tmp 5) (Operand.tmp 7), type := 0, pos := "iter.go:51", after := #[{ on := 0, ground := Ground.data }, { on := 0, ground := Ground.phase }], guard := none }] false)
def apBodyP : Code := (Code.block 1 (Code.region 3 #[{ dst := some 8, op := Op.load 85 (Operand.tmp 2), type := 85, pos := "iter.go:52", after := #[], guard := none }, { dst := some 9, op := Op.load 71 (Operand.tmp 5), type := 71, pos := "iter.go:52", after := #[], guard := none }, { dst := some 10, op := Op.buildSlice 85 1 #[(0, Operand.tmp 9)], type := 85, pos := "iter.go:52", after := #[{ on := 1, ground := Ground.data }], guard := none }, { dst := some 11, op := Op.call { callee := Callee.builtin Builtin.append, args := #[Operand.tmp 8, Operand.tmp 10], argTypes := #[85, 85] }, type := 85, pos := "iter.go:52", after := #[{ on := 0, ground := Ground.data }, { on := 2, ground := Ground.data }], guard := none }, { dst := none, op := Op.store 85 (Operand.tmp 2) (Operand.tmp 11), type := 0, pos := "iter.go:52", after := #[{ on := 3, ground := Ground.data }, { on := 3, ground := Ground.chain }, { on := 0, ground := Ground.phase }, { on := 1, ground := Ground.phase }, { on := 2, ground := Ground.phase }, { on := 3, ground := Ground.phase }], guard := none }] false))
/-- The loop's record. -/
def apRecP (fn : FuncId) (sq : Value) (Bs D : Nat) (st : LoopState) (pend : Option Code) : Loop :=
  { state := st, pending := pend, fn, tmps := #[.slice none 0 0, sq, .pointer (some ⟨Bs, 0, none⟩), undef, .slice none 0 0, undef, sq, undef, undef, undef, undef, undef, undef], params := #[7], assign := apAssignP, body := apBodyP, defers := D }
/-- Between two rounds. -/
structure ApAtP (w0 : World) (fn : FuncId) (sq : Value) (Bs l D : Nat) (ss : List Pa) (W : World) : Prop where
  box : ∃ v, W.heap[Bs]? = some (.cells #[v] 85 (0, 0)) ∧ Ge elP W w0.heap.size v ss
  L : W.heap[l]? = some (.loop (apRecP fn sq Bs D .ready none))
  K : W.heap[D]? = some (.deferred (some []))
  below : Below w0.heap.size w0 W
theorem apP_abides (w0 : World) (fn : FuncId) (sq : Value) (Bs l D B : Nat) (hB : w0.heap.size ≤ B) : AbidesFrom B (ApAtP w0 fn sq Bs l D) := fun s W W' row h hg hrow => by
  have hrow' : ∀ r, row = some r → ∃ o : Obj, W.heap[r]? = some o ∧ o.isWalk = true := fun r e => (hrow r e).2
  obtain ⟨v, hv, hr⟩ := h.box
  exact ⟨⟨v, (grownBy_keeps hg hrow' hv rfl).trans hv, ownsRow_abides_a hr hg hrow'⟩, (grownBy_keeps hg hrow' h.L rfl).trans h.L, (grownBy_keeps hg hrow' h.K rfl).trans h.K,
    h.below.grown hg h.below.size (fun k e => Nat.le_trans hB (hrow k e).1)⟩
theorem cell_two_new (w : World) (x y : Value) (t : TypeId) : ∀ j u, [x, y][j]? = some u → (w.alloc (.cells #[x, y] t)).cell? ((⟨w.heap.size, 0, none⟩ : Addr).add j) = some u := by
  intro j u hj
  match j, hj with
  | 0, hj => simp at hj; subst hj; simp [Addr.add]
  | 1, hj => simp at hj; subst hj; simp [Addr.add]
set_option maxHeartbeats 4000000 in
theorem apP_yield (F : Fence) (m : Nat) (w0 : World) (fn : FuncId) (hfn : F.fn fn) (sq : Value) (Bs l D : Nat) (hBl : Bs ≠ l) (hDl : D ≠ l) (hDB : D ≠ Bs) (h0B : w0.heap.size ≤ Bs) (h0l : w0.heap.size ≤ l)
    (N : Nat) (hN : N ≤ 1000000) (ss : List Pa) (x : Pa) (W : World) (h : ApAtP w0 fn sq Bs l D ss W) (hlen : ss.length < N) :
    YieldAt F m Tryz.prog l #[.agg #[sv x.1, sv x.2]] W fun e W' => e = .returned (.bool true) ∧ ApAtP w0 fn sq Bs l D (ss ++ [x]) W' ∧ KeepsWalks W W' := by
  obtain ⟨x1, x2⟩ := x
  have hne : 85 ≠ 71 := by decide
  obtain ⟨i0, hi, hz0, hz1, hz2⟩ := info_parts infoP
  obtain ⟨v, hv, hrow⟩ := h.box
  refine ⟨fn, #[.slice none 0 0, sq, .pointer (some ⟨Bs, 0, none⟩), undef, .slice none 0 0, undef, sq, .agg #[sv x1, sv x2], undef, undef, undef, undef, undef], apAssignP, apBodyP, by simpa [apRecP] using run_yield (P := Tryz.prog) (args := #[.agg #[sv x1, sv x2]]) h.L rfl, roundIn_of_wpIn hfn ?_⟩
  obtain ⟨W1, hW1⟩ : ∃ W1, W.alloc (.cells #[sv x1, sv x2] 71) = W1 := ⟨_, rfl⟩
  have hs1 : W1.heap.size = W.heap.size + 1 := by rw [← hW1]; simp
  have hn1 : W1.heap[W.heap.size]? = some (.cells #[sv x1, sv x2] 71 (0, 0)) := by rw [← hW1]; exact World.alloc_heap_new W _
  have ho1 : ∀ k, k < W.heap.size → W1.heap[k]? = W.heap[k]? := fun k hk => by rw [← hW1]; exact Below.heap_alloc _ _ k hk
  have hl : l < W.heap.size := (Array.getElem?_eq_some_iff.1 h.L).1
  have hBl1 : Bs < W.heap.size := (Array.getElem?_eq_some_iff.1 hv).1
  have hDl1 : D < W.heap.size := (Array.getElem?_eq_some_iff.1 h.K).1
  have hL1 : W1.heap[l]? = some (.loop (apRecP fn sq Bs D .ready none)) := (ho1 l hl).trans h.L
  have hv1 : W1.heap[Bs]? = some (.cells #[v] 85 (0, 0)) := (ho1 Bs hBl1).trans hv
  have hK1 : W1.heap[D]? = some (.deferred (some [])) := (ho1 D hDl1).trans h.K
  have hrow1 : Ge elP W1 w0.heap.size v ss := by rw [← hW1]; exact Ge.al hrow _
  have hb1 : Below w0.heap.size w0 W1 := by rw [← hW1]; exact h.below.alloc h.below.size _
  have hk1 : KeepsWalks W W1 := by rw [← hW1]; exact KeepsWalks.alloc _ _
  have hbr := run_beginRound (P := Tryz.prog) hL1 rfl
  obtain ⟨W3, hW3⟩ : ∃ W3, W1.putObj l (.loop { apRecP fn sq Bs D .ready none with state := .busy }) = W3 := ⟨_, rfl⟩
  rw [hW3] at hbr
  have hg2 : W1.grownBy W3 (some l) := by rw [← hW3]; exact grownBy_putObj_a _ _ _
  have hs3 : W3.heap.size = W1.heap.size := by rw [← hW3]; simp
  have hk3a : KeepsWalks W W3 := by rw [← hW3]; exact hk1.trans (KeepsWalks.putObj _ hL1 rfl)
  have hv3a : W3.heap[Bs]? = some (.cells #[v] 85 (0, 0)) := by rw [← hW3]; exact (World.putObj_heap_other hBl).trans hv1
  have hK3a : W3.heap[D]? = some (.deferred (some [])) := by rw [← hW3]; exact (World.putObj_heap_other hDl).trans hK1
  have hL3a : W3.heap[l]? = some (.loop { apRecP fn sq Bs D .ready none with state := .busy }) := by rw [← hW3]; exact World.putObj_heap_same (by omega)
  have hn3 : W3.heap[W.heap.size]? = some (.cells #[sv x1, sv x2] 71 (0, 0)) := by rw [← hW3]; exact (World.putObj_heap_other (by omega)).trans hn1
  have hrow3 : Ge elP W3 w0.heap.size v ss := World.ownsRow.kept hrow1 hg2 (ownsRow_ne_a hrow1 hL1 (fun cur e => by cases e))
  have hb3a : Below w0.heap.size w0 W3 := hb1.grown hg2 hb1.size (fun k e => by cases e; exact h0l)
  have hBlt : Bs < W3.heap.size := by omega
  have hl2 : l < W3.heap.size := by omega
  have hDlt : D < W3.heap.size := by omega
  obtain ⟨hc2, hf2⟩ := cell_of_box_a hv3a
  have hx0 : W3.cell? ⟨W.heap.size, 0, none⟩ = some (sv x1) := by simp [World.cell?, hn3]
  have hx1 : W3.cell? ⟨W.heap.size, 1, none⟩ = some (sv x2) := by simp [World.cell?, hn3]
  have ne_of : ∀ {j : Nat} {o : Obj}, W3.heap[j]? = some o → (∀ cur, o ≠ .cells cur 71 (0, 0)) → some j ≠ v.ownBlock := fun hj hno => by
    rcases ownsRow_ne_a hrow3 hj hno with e | e
    · rw [e]; simp
    · exact fun e' => e e'.symm
  have HW1 : Hid (W.alloc (.cells #[sv x1, sv x2] 71) = W1) := hW1
  have HS3 : Hid (W3.heap.size = W.heap.size + 1) := by show _ = _; omega
  clear hW1 hW3 hs1 hs3
  unfold apAssignP
  gi_wp2_with gi_round_op_a
  simp only [HW1.out]
  refine ⟨_, hbr, ?_⟩
  unfold apBodyP
  gi_wp2_with (first
    | (gi_at_builtin; refine wpListIn_append_own _ rfl _ _ 85 rfl w0.heap.size 71 i0 (.agg #[.string ⟨#[]⟩, .string ⟨#[]⟩]) 2 32 Tryz.underlying85 hi hz0 hz1 hz2 rfl (by decide) _ _ _ rfl (hrow3.al _) ⟨W3.heap.size, 0, none⟩ 1 1 [sv x1, sv x2] rfl rfl (cell_two_new _ _ _ _) (by simp [Value.oneCell']) (by unfold maxLen; omega) (by omega) (by have := hb3a.size; simp; omega) ?_; intro v' w3 hown' hg3 hnil3
       have hv3 : w3.heap[Bs]? = some (.cells #[v] 85 (0, 0)) := (hg3.block Bs (by simp; omega) (ne_of hv3a (fun cur e => by first | cases e | exact hne (Obj.cells.inj e).2.1))).trans ((Below.heap_alloc _ _ Bs (by omega)).trans hv3a)
       obtain ⟨hc3, hf3⟩ := cell_of_box_a hv3
       obtain ⟨g', cap', cur', rfl, hbase', hgb', hr1, hr2, hr3, hr4⟩ : ∃ g' cap' cur', v' = .slice (some ⟨g', 0, none⟩) (ss.length + 1) cap' ∧ w0.heap.size ≤ g' ∧ w3.heap[g']? = some (.cells cur' 71 (0, 0)) ∧ ss.length + 1 ≤ cap' ∧ cap' ≤ maxLen ∧ cur'.size = cap' * 2 ∧ cur'.toList.take ((ss.length + 1) * 2) = rowE elP ss ++ [sv x1, sv x2] := by
         rcases hown'.2 with ⟨_, h0⟩ | h'
         · exact absurd h0 (by omega)
         · exact h'
       go_frame)
    | gi_round_op_a)
  have hg3' : (W3.alloc (.cells #[sv x1, sv x2] 71)).grownBy w3 v.ownBlock := hg3
  have hL3 : w3.heap[l]? = some (.loop { apRecP fn sq Bs D .ready none with state := .busy }) := (hg3'.block l (by simp; omega) (ne_of hL3a (fun cur e => by cases e))).trans ((Below.heap_alloc _ _ l (by omega)).trans hL3a)
  have hK3 : w3.heap[D]? = some (.deferred (some [])) := (hg3'.block D (by simp; omega) (ne_of hK3a (fun cur e => by cases e))).trans ((Below.heap_alloc _ _ D (by omega)).trans hK3a)
  obtain ⟨w4, hw4⟩ : ∃ w4, w3.setCell ⟨Bs, 0, none⟩ (.slice (some ⟨g', 0, none⟩) (ss.length + 1) cap') = w4 := ⟨_, rfl⟩
  rw [hw4]
  have hg4 : w3.grownBy w4 (some Bs) := by rw [← hw4]; exact grownBy_setCell0_a _ _ _
  have hv4 : w4.heap[Bs]? = some (.cells #[.slice (some ⟨g', 0, none⟩) (ss.length + 1) cap'] 85 (0, 0)) := by rw [← hw4]; exact heap_setCell_box_a _ hv3
  have hL4 : w4.heap[l]? = some (.loop { apRecP fn sq Bs D .ready none with state := .busy }) := (hg4.block l (Array.getElem?_eq_some_iff.1 hL3).1 (fun e => hBl (by cases e; rfl))).trans hL3
  have hK4 : w4.heap[D]? = some (.deferred (some [])) := (hg4.block D (Array.getElem?_eq_some_iff.1 hK3).1 (fun e => hDB (by cases e; rfl))).trans hK3
  have hrow4 := hown'.kept hg4 (ownsRow_ne_a hown' hv3 (fun cur e => by first | cases e | exact hne (Obj.cells.inj e).2.1))
  have hl4 : l < w4.heap.size := (Array.getElem?_eq_some_iff.1 hL4).1
  have hb3 : Below w0.heap.size w0 w3 := (hb3a.alloc hb3a.size _).grown hg3' (by have := hb3a.size; simp; omega) (fun k e => (World.ownsRow.lt hrow3 k e).1)
  have hb4 : Below w0.heap.size w0 w4 := hb3.grown hg4 hb3.size (fun k e => by cases e; exact h0B)
  have hk4 : KeepsWalks W w4 := ((hk3a.trans (KeepsWalks.alloc _ _)).trans (KeepsWalks.of_grownBy hg3' (ownsRow_not_walk_a (hrow3.al _)))).trans (by rw [← hw4]; exact KeepsWalks.setCell _ _ _)
  clear hw4
  refine ⟨_, _, run_endRound none hL4, rfl, ⟨⟨_, (World.putObj_heap_other hBl).trans hv4, ?_⟩, World.putObj_heap_same hl4, (World.putObj_heap_other hDl).trans hK4, hb4.grown (grownBy_putObj_a _ _ _) hb4.size (fun k e => by cases e; exact h0l)⟩, hk4.trans (KeepsWalks.putObj _ hL4 rfl)⟩
  have := hrow4.kept (grownBy_putObj_a w4 l (.loop { { apRecP fn sq Bs D .ready none with state := .busy } with state := if (none : Option Code).isNone then .ready else .done, pending := none })) (ownsRow_ne_a hrow4 hL4 (fun cur e => by cases e))
  show World.ownsRow _ _ _ _ _ _ _
  rw [rowE_append, List.length_append]
  exact this
set_option maxHeartbeats 2000000 in
theorem appendP_in (F : Fence) (n : Nat) (h11 : F.fn 96) (hFg : F.fn 71) (hro : F.round = none) (hn : 2 ≤ n) (Bm b nn : Nat) (D0 : DataW Value) (w : World) (hBm : Bm < w.heap.size) (hm : w.cell? ⟨Bm, 0, none⟩ = some (.map (some b))) (hown : w.ownsMap Tryz.prog 71 hdR b nn D0) (hN : Maps.size D0 ≤ 1000000) :
    CallsIn F n Tryz.prog 96 #[.slice none 0 0, .func (.func 71) #[] #[.pointer (some ⟨Bm, 0, none⟩)]] w fun e w' => ∃ (v : Value) (ks : List Pa), e = .returned v ∧ CollP D0 (fun _ => false) ks ∧ Ge elP w' w.heap.size v ks ∧ Below w.heap.size w w' := by
  have h1 : 1 ≤ n := by omega
  have eg : ∀ args w, (callFunc 71 args).run Tryz.prog w = .ok (.enter 71 args) w := enters_of Tryz.func71 (by kernel_rfl) rfl
  refine callsIn_of_wp_marks Tryz.func96 rfl h11 ?_ hro
  simp only [Tryz.ntmps96, List.size_toArray, List.length_cons, List.length_nil, Nat.reduceAdd, Nat.reduceSub, Array.replicate_succ, Array.replicate_zero, List.push_toArray, List.append_toArray, List.nil_append, List.cons_append]
  gi_wp2
  refine wpIn_rangeFunc ?_
  intro fn hfn
  rw [hro]
  obtain ⟨W0, hW0⟩ : ∃ W0, w.alloc (.cells #[.slice none 0 0] 85) = W0 := ⟨_, rfl⟩
  have hs0 : W0.heap.size = w.heap.size + 1 := by rw [← hW0]; simp
  have hv0 : W0.heap[w.heap.size]? = some (.cells #[.slice none 0 0] 85 (0, 0)) := by rw [← hW0]; exact World.alloc_heap_new w _
  have hb0 : Below w.heap.size w W0 := by rw [← hW0]; exact (Below.refl _ w).alloc (Nat.le_refl _) _
  rw [hW0]
  obtain ⟨W1, hW1⟩ : ∃ W1, (W0.alloc (.deferred (some []))).alloc (.loop (apRecP fn (.func (.func 71) #[] #[.pointer (some ⟨Bm, 0, none⟩)]) w.heap.size W0.heap.size .ready none)) = W1 := ⟨_, rfl⟩
  have hold : ∀ k, k < W0.heap.size → W1.heap[k]? = W0.heap[k]? := fun k hk => by
    rw [← hW1]; exact (Below.heap_alloc _ _ k (by simp; omega)).trans (Below.heap_alloc _ _ k hk)
  have hb1 : Below w.heap.size w W1 := by rw [← hW1]; exact (hb0.alloc hb0.size _).alloc (by have := hb0.size; simp; omega) _
  have hs1 : W1.heap.size = W0.heap.size + 2 := by rw [← hW1]; simp
  have hM : ApAtP w fn (.func (.func 71) #[] #[.pointer (some ⟨Bm, 0, none⟩)]) w.heap.size (W0.heap.size + 1) W0.heap.size [] W1 :=
    ⟨⟨_, (hold w.heap.size (by omega)).trans hv0, Ge.nil _ _⟩,
     by rw [← hW1]; have := World.alloc_heap_new (W0.alloc (.deferred (some []))) (.loop (apRecP fn (.func (.func 71) #[] #[.pointer (some ⟨Bm, 0, none⟩)]) w.heap.size W0.heap.size .ready none)); rwa [World.size_alloc] at this,
     by rw [← hW1]; exact (Below.heap_alloc _ _ _ (by simp)).trans (World.alloc_heap_new W0 _), hb1⟩
  have hm1 : W1.cell? ⟨Bm, 0, none⟩ = some (.map (some b)) := by
    rw [← hm]; simp only [World.cell?]; rw [hb1.block Bm hBm]
  have hown1 : W1.ownsMap Tryz.prog 71 hdR b nn D0 := by
    obtain ⟨es, clock, hb, r⟩ := hown
    exact ⟨es, clock, (hb1.block b (Array.getElem?_eq_some_iff.1 hb).1).trans hb, r⟩
  refine ⟨W0.heap.size + 1, [{ target := .collected W0.heap.size, args := #[] }], W1, { target := .fn (.func 71) #[.pointer (some ⟨Bm, 0, none⟩)], args := #[.func (.yield (W0.heap.size + 1)) #[] #[]] }, W1, 71,
    #[.func (.yield (W0.heap.size + 1)) #[] #[]] ++ #[.pointer (some ⟨Bm, 0, none⟩)], W1, ?_, ?_, ?_, ?_, fun _ => h1, ?_⟩
  · rw [← hW1]; exact run_enterLoop_outer _ _ _ _ _
  · simp [resolve, go_sem]
  · intro f' hf'; simp [Target.leads] at hf'; subst hf'; exact hFg
  · simp [invoke, go_sem, eg]
  · refine (keysP_in F (n - 1) hFg hro (by omega) (W0.heap.size + 1) Bm b nn D0 (ApAtP w fn (.func (.func 71) #[] #[.pointer (some ⟨Bm, 0, none⟩)]) w.heap.size (W0.heap.size + 1) W0.heap.size)
      (fun pre x W hJ hl => apP_yield F (n - 1 - 1) w fn hfn _ w.heap.size (W0.heap.size + 1) W0.heap.size (by omega) (by omega) (by omega) (Nat.le_refl _) (by omega) (Maps.size D0) hN pre x W hJ hl) W1 (apP_abides _ _ _ _ _ _ _ hb1.size) hm1 hown1 hM).mono ?_
    rintro e W2 ⟨⟨v0, rfl⟩, ks, hS, h2⟩
    obtain ⟨v, hv, hrow⟩ := h2.box
    have hend := run_endLoop (P := Tryz.prog) h2.L (by simp [apRecP])
    obtain ⟨W3, hW3⟩ : ∃ W3, W2.putObj (W0.heap.size + 1) (.loop { apRecP fn (.func (.func 71) #[] #[.pointer (some ⟨Bm, 0, none⟩)]) w.heap.size W0.heap.size .ready none with state := .exhausted }) = W3 := ⟨_, rfl⟩
    rw [hW3] at hend
    have hg3 : W2.grownBy W3 (some (W0.heap.size + 1)) := by rw [← hW3]; exact grownBy_putObj_a _ _ _
    have hv3 : W3.heap[w.heap.size]? = some (.cells #[v] 85 (0, 0)) := by rw [← hW3]; exact (World.putObj_heap_other (by omega)).trans hv
    have hK3 : W3.heap[W0.heap.size]? = some (.deferred (some [])) := by rw [← hW3]; exact (World.putObj_heap_other (by omega)).trans h2.K
    have hrow3 : Ge elP W3 w.heap.size v ks := World.ownsRow.kept hrow hg3 (ownsRow_ne_a hrow h2.L (fun cur e => by cases e))
    have hb3 : Below w.heap.size w W3 := h2.below.grown hg3 h2.below.size (fun k e => by cases e; omega)
    obtain ⟨hc3, hf3⟩ := cell_of_box_a hv3
    clear hW3
    refine ⟨none, W3, hend, ?_⟩
    gi_wp2
    rw [← hs0]
    refine ⟨by simp, .inl ⟨_, _, rfl, run_takeDeferred hK3, ?_⟩⟩
    exact ⟨_, results_tmp rfl _ _ _, v, ks, rfl, hS, World.ownsRow.kept hrow3 (grownBy_putObj_a _ _ _) (ownsRow_ne_a hrow3 hK3 (fun cur e => by cases e)), hb3.grown (grownBy_putObj_a _ _ _) hb3.size (fun k e => by cases e; omega)⟩
open Classical in
theorem inj_len {α β : Type} (f : α → β) : ∀ (l : List α) (m : List β), l.Nodup → (∀ x ∈ l, ∀ y ∈ l, f x = f y → x = y) → (∀ x ∈ l, f x ∈ m) → l.length ≤ m.length
  | [], m, _, _, _ => Nat.zero_le _
  | x :: l, m, hn, hi, hm => by
    obtain ⟨h1, h2⟩ := List.nodup_cons.1 hn
    have hx := hm x (by simp)
    have ih := inj_len f l (m.erase (f x)) h2 (fun a ha b hb => hi a (by simp [ha]) b (by simp [hb])) (fun y hy => (List.mem_erase_of_ne (fun e => by
      have := hi y (by simp [hy]) x (by simp) e
      subst this
      exact h1 hy)).2 (hm y (by simp [hy])))
    rw [List.length_erase_of_mem hx] at ih
    have : 0 < m.length := List.length_pos_of_mem hx
    simp only [List.length_cons]
    omega
theorem collP_len {w : World} {b n : Nat} {D0 : DataW Value} {left : Lit → Bool} {ks : List Pa} (hown : w.ownsMap Tryz.prog 71 hdR b n D0) (h : CollP D0 left ks) : ks.length ≤ Maps.size D0 := by
  obtain ⟨es, rfl⟩ := hown.isMap
  rw [Maps.size_eq, show es.length = (es.map Prod.fst).length by simp]
  refine inj_len (fun k => (keyOf Tryz.prog 71 (pv k)).getD (.bool false)) ks _ h.1 (fun x hx y hy e => ?_) (fun x hx => ?_)
  · obtain ⟨kx, e1, -⟩ := h.2.1 x hx
    obtain ⟨ky, e2, -⟩ := h.2.1 y hy
    simp only [e1, e2, Option.getD_some] at e
    have := lawP.inj e1 (e ▸ e2)
    simp only [Value.agg.injEq, Array.mk.injEq, List.cons.injEq, Value.string.injEq, ByteArray.mk.injEq] at this
    obtain ⟨h1, h2, -⟩ := this
    exact Prod.ext h1 h2
  · obtain ⟨kx, e1, -, e3⟩ := h.2.1 x hx
    simp only [e1, Option.getD_some]
    rw [Maps.has_eq, List.any_eq_true] at e3
    obtain ⟨p, hp, hs⟩ := e3
    rw [← WideAt.sameKey_eq hs]
    exact List.mem_map.2 ⟨p, hp, rfl⟩
set_option maxHeartbeats 1000000 in
theorem collectP_any (Bm b nn : Nat) (D0 : DataW Value) (w : World) (hBm : Bm < w.heap.size) (hm : w.cell? ⟨Bm, 0, none⟩ = some (.map (some b))) (hown : w.ownsMap Tryz.prog 71 hdR b nn D0) (hN : Maps.size D0 ≤ 1000000) :
    Calls Tryz.prog 69 #[.func (.func 71) #[] #[.pointer (some ⟨Bm, 0, none⟩)]] w fun e w' => ∃ (v : Value) (ks : List Pa), e = .returned v ∧ CollP D0 (fun _ => false) ks ∧ Ge elP w' w.heap.size v ks ∧ Below w.heap.size w w' := by
  refine (callsIn_wide (n := 6)).1 ?_
  have hfA : Fence.wide.fn 96 := trivial
  have hfK : Fence.wide.fn 71 := trivial
  have e11 : ∀ args w, (callFunc 96 args).run Tryz.prog w = .ok (.enter 96 args) w := enters_of Tryz.func96 (by kernel_rfl) rfl
  refine callsIn_of_wp Tryz.func69 rfl trivial ?_ rfl
  simp only [Tryz.ntmps69, List.size_toArray, List.length_cons, List.length_nil, Nat.reduceAdd, Nat.reduceSub, Array.replicate_succ, Array.replicate_zero, List.push_toArray, List.append_toArray, List.nil_append, List.cons_append]
  gi_wp2_with (gi_at_call 96; refine (appendP_in Fence.wide 5 trivial trivial rfl (by omega) Bm b nn D0 _ hBm hm hown hN).mono ?_; rintro e w' ⟨v, ks, rfl, hS, hrow, hb⟩)
  go_ret
  exact ⟨v, ks, rfl, hS, hrow, hb⟩
set_option maxHeartbeats 1000000 in
/-- A sort of no pair. -/
theorem sort_none_p (a : Option Addr) (cap : Nat) (fv : Value) (w : World) :
    Calls Tryz.prog 70 #[.slice a 0 cap, fv] w fun e w' => e = .returned (.tuple #[]) ∧ w' = w := by
  have hi : ∀ W, Calls Tryz.prog 118 #[.slice a 0 cap, .int .i64 0, .int .i64 0, fv] W fun e w' => e = .returned (.tuple #[]) ∧ w' = W := by
    intro W
    go_enter Tryz.func118, Tryz.ntmps118
    go_wp2_with fail
    refine wp_loop_rounds 1 ?_
    rw [rounds_succ]
    go_wp2_with fail
    go_end0
    exact ⟨rfl, rfl⟩
  have hp : ∀ W l, Calls Tryz.prog 97 #[.slice a 0 cap, .int .i64 0, .int .i64 0, .int .i64 l, fv] W fun e w' => e = .returned (.tuple #[]) ∧ w' = W := by
    intro W l
    go_enter Tryz.func97, Tryz.ntmps97
    go_wp2_with fail
    refine wp_loop_rounds 1 ?_
    rw [rounds_succ]
    go_wp2_with (go_at_call 118; refine (hi _).mono ?_; rintro e w' ⟨rfl, rfl⟩)
    refine bodyPost_ret (results_none rfl _ _ _) rfl ?_
    exact ⟨rfl, rfl⟩
  have hb := fun W => Tryz.bits_Len 0 W (by omega) (by omega)
  go_enter Tryz.func70, Tryz.ntmps70
  go_wp2_with (first
    | (go_at_call 98; refine (hb _).mono ?_; rintro e w' ⟨rfl, rfl⟩)
    | (go_at_call 97; refine (hp _ _).mono ?_; rintro e w' ⟨rfl, rfl⟩))
  go_end0
  exact ⟨rfl, rfl⟩
/-- A sort of pairs. -/
theorem sort_p (B : Nat) (a : Option Addr) (n cap : Nat) (ps : List Pa) (w : World) (h : Ge elP w B (.slice a n cap) ps) (hl : ps.length ≤ 1000000) (hnd : ps.Nodup) (hB : B ≤ w.heap.size) :
    Calls Tryz.prog 70 #[.slice a n cap, .func (.func 39) #[] #[]] w fun e w' => e = .returned (.tuple #[]) ∧ ∃ qs : List Pa, qs.Perm ps ∧ qs.Pairwise PlE ∧ Le elP w' a n qs ∧ Below B w w' := by
  obtain ⟨a', cap', e, -, -, hs⟩ := h.shape
  cases e
  rcases hs with ⟨rfl, rfl, rfl⟩ | ⟨g, rfl⟩
  · refine (sort_none_p none 0 _ w).mono ?_
    rintro e w' ⟨rfl, rfl⟩
    exact ⟨rfl, [], List.Perm.nil, List.Pairwise.nil, Le.nil _ _, Below.refl _ _⟩
  · have eg : ∀ args w, (callFunc 39 args).run Tryz.prog w = .ok (.enter 39 args) w := enters_of Tryz.func39 (by kernel_rfl) rfl
    have hcon := AnyQ.slices_SortFunc Tryz.sortP 2 Tryz.isAgg71 Tryz.sizeOf71 encP (fun _ => rfl) (fun x v hv => by simp at hv; rcases hv with rfl | rfl <;> rfl) cfP swoP 39 #[] g 0 cap ps.toArray w eg (cmpLaysP g 0 _ w) h.holdsP (h.lt g rfl) (by simp; omega)
    change Calls Tryz.prog 70 _ _ _ at hcon
    rw [show ps.toArray.size = ps.length by simp] at hcon
    refine hcon.mono ?_
    rintro e w' ⟨rfl, d', m, os, hp, hso, rfl⟩
    have hsz : d'.size = ps.length := by simpa using hp.1
    have hw := sort_world_p (m := m) (os := os) h hsz
    have hperm : d'.toList.Perm ps := by
      have h3 : d'.toList.Perm (List.take d'.size ps) := by simpa [← hsz] using hp.2.2
      rwa [hsz, List.take_length] at h3
    refine ⟨rfl, d'.toList, hperm, ?_, hw.1, hw.2 B (h.block g rfl)⟩
    rw [List.pairwise_iff_getElem]
    intro i j hi hj hij
    have := hso i j (Nat.zero_le _) hij (by simp at hj; omega)
    have hi' : i < d'.size := by simpa using hi
    have hj' : j < d'.size := by simpa using hj
    rw [ltP_false, getElem!_pos d' j hj', getElem!_pos d' i hi'] at this
    simp only [Array.getElem_toList]
    rcases ple_tri (d'[i]'hi') (d'[j]'hj') with h1 | h1 | h1
    · exact h1
    · exfalso
      have hnd2 : d'.toList.Nodup := hperm.nodup_iff.2 hnd
      have := List.pairwise_iff_getElem.1 hnd2 i j hi hj hij
      simp only [Array.getElem_toList] at this
      exact this h1
    · exact absurd h1 this
/-- A table's pairs in order. -/
theorem sortedP_any (Bm b nn : Nat) (D0 : DataW Value) (w : World) (hBm : Bm < w.heap.size) (hm : w.cell? ⟨Bm, 0, none⟩ = some (.map (some b))) (hown : w.ownsMap Tryz.prog 71 hdR b nn D0) (hN : Maps.size D0 ≤ 1000000) :
    Calls Tryz.prog 37 #[.func (.func 71) #[] #[.pointer (some ⟨Bm, 0, none⟩)], .func (.func 39) #[] #[]] w fun e w' => ∃ (a : Option Addr) (n cap : Nat) (ks : List Pa), e = .returned (.slice a n cap) ∧ CollP D0 (fun _ => false) ks ∧ ks.Pairwise PlE ∧ Le elP w' a n ks ∧ (∀ b off, a = some ⟨b, off, none⟩ → w.heap.size ≤ b) ∧ Below w.heap.size w w' := by
  go_enter Tryz.func37, Tryz.ntmps37
  go_wp2_with fail
  refine (collectP_any Bm b nn D0 w hBm hm hown hN).mono ?_
  rintro e w1 ⟨v, ks, rfl, hS, hrow, hb⟩
  obtain ⟨a, cap, rfl, -, -, -⟩ := hrow.shape
  have HS : Hid (CollP D0 (fun _ => false) ks) := hS
  have HG : Hid (Ge elP w1 w.heap.size (.slice a ks.length cap) ks) := hrow
  have HB : Hid (Below w.heap.size w w1) := hb
  have hlen : ks.length ≤ 1000000 := Nat.le_trans (collP_len hown hS) hN
  clear hS hrow hb
  have hsp := sort_p w.heap.size a ks.length cap ks w1 HG.out hlen HS.out.1 HB.out.size
  go_wp2_with fail
  refine hsp.mono ?_
  rintro e w2 ⟨rfl, qs, q1, q2, q3, q4⟩
  have HQ : Hid (qs.Perm ks ∧ qs.Pairwise PlE ∧ Le elP w2 a ks.length qs ∧ Below w.heap.size w1 w2) := ⟨q1, q2, q3, q4⟩
  clear q1 q2 q3 q4 hsp
  go_wp2_with fail
  go_ret
  obtain ⟨q1, q2, q3, q4⟩ := HQ.out
  have hS := HS.out
  exact ⟨a, ks.length, cap, qs, rfl, ⟨q1.nodup_iff.2 hS.1, fun k hk => hS.2.1 k (q1.mem_iff.1 hk), fun kl h1 h2 => by
    obtain ⟨k, hk, e⟩ := hS.2.2 kl h1 h2
    exact ⟨k, q1.mem_iff.2 hk, e⟩⟩, q2, q3, fun b off e => Ge.block HG.out b (by rw [e]; rfl), HB.out.trans q4⟩
end Go.Proofs.YtmhfoeooccppfaaGreat
namespace Go.Proofs.YtmhfoeooccppfaaGreat
open Go.RowKit Go.Shelf
set_option linter.unusedVariables false
set_option maxRecDepth 20000

theorem infoO : (Tryz.prog.info? 29).map (fun i => (i.zero, i.size, i.bytes)) = some (some (.agg #[.string ⟨#[]⟩, .string ⟨#[]⟩, .int .i64 0, .float .f64 0]), 4, 48) := by kernel_rfl
/-- Quotes in memory. -/
def elO : El Qe where
  enc q := [sv q.fr, sv q.to, .int .i64 q.day, .float .f64 q.rate]
  dft := ⟨[], [], 0, 0⟩
  te := 29
  tl := 42
  z := .agg #[.string ⟨#[]⟩, .string ⟨#[]⟩, .int .i64 0, .float .f64 0]
  s := 4
  by8 := 48
  len := fun _ => rfl
  one := fun x v hv => by
    simp at hv
    rcases hv with rfl | rfl | rfl | rfl <;> rfl
  pos := by decide
  und := Tryz.underlying42
  inf := infoO
  zs := rfl
  bt := by decide
theorem Ge.kindO {w : World} {B g : Nat} {v : Value} {xs : List Qe} (h : Ge elO w B v xs) (hg : v.ownBlock = some g) : ∃ cur, w.heap[g]? = some (.cells cur 29 (0, 0)) := by
  obtain ⟨h1, h2 | ⟨g', cap, cur, e, hB, hh, r⟩⟩ := h
  · rw [h2.1] at hg; cases hg
  · rw [e] at hg
    cases hg
    exact ⟨cur, hh⟩
theorem Va.gO {w w' : World} {b : Nat} {t : TypeId} {cs : Array Value} (h : Va w b t cs) {v : Value} {xs : List Qe} {B : Nat} (hG : Ge elO w B v xs) (hg : w.grownBy w' v.ownBlock) (ht : t ≠ 29) : Va w' b t cs := by
  refine h.keep (hg.block b h.lt (fun e => ?_))
  obtain ⟨cur, hc⟩ := hG.kindO e.symm
  unfold Va at h
  rw [h] at hc
  cases hc
  exact ht rfl
/-- Where the list lies: in the block that was made for it, or behind. -/
def VB (g B1 : Nat) (v : Value) : Prop := ∀ k, v.ownBlock = some k → k = g ∨ B1 ≤ k
theorem VB.next {g B1 n : Nat} {v v' : Value} (h : VB g B1 v) (hl : v'.ownBlock = v.ownBlock ∨ v'.ownBlock = some n) (hn : B1 ≤ n) : VB g B1 v' := fun k hk => by
  rcases hl with e | e
  · exact h k (by rw [← e]; exact hk)
  · rw [e] at hk; cases hk; exact Or.inr hn
/-- A list that lies between is left alone. -/
theorem Le.vb {α : Type} {E : El α} {w w' : World} {a : Option Addr} {n : Nat} {xs : List α} (h : Le E w a n xs) {v : Value} {g B1 : Nat} (hg : w.grownBy w' v.ownBlock) (hv : VB g B1 v) (ha : 0 < n → ∀ b off, a = some ⟨b, off, none⟩ → g < b ∧ b < B1) : Le E w' a n xs :=
  h.kept (fun h0 b off e hlt => hg.block b hlt (fun x => by
    have := ha h0 b off e
    rcases hv b x.symm with h' | h' <;> omega))
theorem ofP_len (T : List Qe) (k : Pa) : (ofP T k).length = (sel k.1 k.2 T).length := by simp [ofP]
theorem ofP_get {T : List Qe} {k : Pa} {i : Nat} {y : Int} {r : Nat} (h : (sel k.1 k.2 T)[i]? = some (y, r)) : (ofP T k).take (i + 1) = (ofP T k).take i ++ [⟨k.1, k.2, y, r⟩] := by
  refine take_at ?_
  unfold ofP
  rw [List.getElem?_map, h]
  rfl
theorem flat_step {T : List Qe} {ks : List Pa} {j : Nat} {k : Pa} (h : ks[j]? = some k) : (ks.take (j + 1)).flatMap (ofP T) = (ks.take j).flatMap (ofP T) ++ ofP T k := by
  rw [take_at h, List.flatMap_append]
  simp
theorem getPa (xs : List Pa) (i : Nat) (hi : i < xs.length) : xs[i]? = some (xs.getD i ([], [])) := by
  rw [List.getD_eq_getElem?_getD, List.getElem?_eq_getElem hi]; rfl
/-- The pairs that are told are short, and all quotes are of them. -/
theorem Tb.pairs {w : World} {S : Nat → Prop} {b m n : Nat} {D : DataW Value} {T : List Qe} (h : Tb w S b m n D T) (hT : Tok T) {ks : List Pa} (hc : CollP D (fun _ => false) ks) (hp : ks.Pairwise PlE) : (∀ k ∈ ks, Sho k) ∧ ks.flatMap (ofP T) = T := by
  refine ⟨fun k hk => ?_, all_ofP hT.srt hp (fun q hq => ?_)⟩
  · obtain ⟨kl, e1, -, e2⟩ := hc.2.1 k hk
    obtain ⟨k', s1, s2, -⟩ := h.keys kl e2
    have e3 := keyP k' s1
    rw [← s2] at e3
    have := lawP.inj e1 e3
    simp only [Value.agg.injEq, Array.mk.injEq, List.cons.injEq, Value.string.injEq, ByteArray.mk.injEq] at this
    obtain ⟨h1, h2, -⟩ := this
    have : k = k' := Prod.ext h1 h2
    rw [this]; exact s1
  · have hok := hT.ok q hq
    have hs : Sho (q.fr, q.to) := ⟨code_len hok.1, code_len hok.2.1⟩
    have hhas : Maps.has D (klP (q.fr, q.to)) = true := by
      cases hh : Maps.has D (klP (q.fr, q.to)) with
      | true => rfl
      | false =>
        obtain ⟨v, v1, v2, -⟩ := h.row _ hs
        unfold AtP at v1
        rw [Maps.atKey_of_not_has hh] at v1
        have e : v = nilS := by cases v1; rfl
        rw [e] at v2
        obtain ⟨a, cap, e2, -, -, -⟩ := v2.shape
        have e3 : (sel q.fr q.to T).length = 0 := by
          have := congrArg (fun v => match v with | Value.slice _ l _ => l | _ => 0) e2
          simpa using this.symm
        have hm : (q.day, q.rate) ∈ sel q.fr q.to T := mem_sel.2 hq
        rw [List.length_eq_zero_iff.1 e3] at hm
        cases hm
    obtain ⟨k, hk, e⟩ := hc.2.2 _ hhas rfl
    have := lawP.inj e (keyP (q.fr, q.to) hs)
    simp only [Value.agg.injEq, Array.mk.injEq, List.cons.injEq, Value.string.injEq, ByteArray.mk.injEq] at this
    obtain ⟨h1, h2, -⟩ := this
    have : k = (q.fr, q.to) := Prod.ext h1 h2
    rw [← this]; exact hk
theorem new2 (w : World) (t1 t2 : TypeId) (c1 c2 : Array Value) : Va ((w.alloc (.cells c1 t1)).alloc (.cells c2 t2)) (w.heap.size + 1) t2 c2 := by
  have := Va.new (w.alloc (.cells c1 t1)) t2 c2
  rw [World.size_alloc] at this
  exact this
def lenOf' : Value → Nat | .slice _ l _ => l | _ => 0
set_option maxHeartbeats 8000000 in
theorem quotes_any (S : Nat → Prop) (b : Nat) (T : List Qe) (w : World) (h : TbR w S b T) (hT : Tok T) :
    Calls Tryz.prog 12 #[.pointer (some ⟨b, 0, none⟩)] w fun e w' => ∃ v, e = .returned v ∧ Ge elO w' w.heap.size v T ∧ Below w.heap.size w w' := by
  obtain ⟨m, n, D, HTb⟩ := h
  have B0 : Below w.heap.size w w := Below.refl _ _
  obtain ⟨i0, hi, hz0, hz1, hz2⟩ := info_parts infoO
  obtain ⟨w1, hmk, hown, hgr⟩ := run_make_own (P := Tryz.prog) w w.heap.size 42 29 i0 (.agg #[.string ⟨#[]⟩, .string ⟨#[]⟩, .int .i64 0, .float .f64 0]) 4 Tryz.underlying42 hi hz0 hz1 .i64 .i64 T.length (by rw [hz2]; have := hT.len; omega) (by have := hT.len; unfold maxLen; omega) (Nat.le_refl _)
  have HOW : Hid (Ge elO w1 w.heap.size (.slice (some ⟨w.heap.size, 0, none⟩) 0 T.length) []) := hown
  have hbm : Below w.heap.size w w1 := (Below.refl _ w).grown hgr (Nat.le_refl _) (fun k e => by cases e)
  have HS1 : Hid (w.heap.size < w1.heap.size) := Ge.lt HOW.out _ rfl
  clear hi hz0 hz1 hz2 hown hgr
  have HB1 : Hid (Below w.heap.size w w1) := hbm
  clear hbm
  have c_b1 := HTb.cells.at1
  have c_b2 := HTb.cells.at2
  have d_b1 := (HTb.after HB1.out).cells.at1
  go_enter Tryz.func12, Tryz.ntmps12
  go_wp2_with fail
  refine (isTable_yes b m _ w HTb.cells).mono ?_
  rintro e wz ⟨rfl, hw⟩
  rw [hw]
  clear hw wz
  go_wp2_with fail
  refine (keysP_any (some m) w1).mono ?_
  rintro e wz ⟨rfl, hw⟩
  rw [hw]
  clear hw wz
  go_wp2_with fail
  refine ent1 w1 _ _ (Q := fun W => Calls Tryz.prog _ _ W _) ?_
  intro w2 hb hs2 VK
  have HGE2 : Hid (Ge elO w2 w.heap.size (.slice (some ⟨w.heap.size, 0, none⟩) 0 T.length) []) := HOW.out.after hb
  have BB2 := step HB1.out hb
  have hsz : Maps.size D ≤ 1000000 := by have h1 := HTb.own.size_le; have h2 := HTb.le; have h3 := hT.len; omega
  have hso := sortedP_any w1.heap.size m n D w2 VK.lt VK.cell (HTb.after BB2).own hsz
  refine hso.mono ?_
  rintro e w3 ⟨a, nK, capK, ks, rfl, hS, hP, hL, hA, hb3⟩
  clear hso
  obtain ⟨p1, p2⟩ := HTb.pairs hT hS hP
  have HSH : Hid (∀ k ∈ ks, Sho k) := p1
  have HFL : Hid (ks.flatMap (ofP T) = T) := p2
  have HLP : Hid (Le elP w3 a nK ks) := hL
  have HNK : Hid (ks.length = nK) := hL.1
  have HLA : Hid (0 < nK → ∀ b off, a = some ⟨b, off, none⟩ → w.heap.size < b ∧ b < w3.heap.size) := fun h0 b off e => by
    have h1 := hA b off e
    have h2 := HS1.out
    have h3 := hb.size
    subst e
    exact ⟨by omega, hL.lt h0⟩
  have HG3 : Hid (Ge elO w3 w.heap.size (.slice (some ⟨w.heap.size, 0, none⟩) 0 T.length) []) := HGE2.out.after hb3
  have HB3 : Hid (Below w.heap.size w w3) := step BB2 hb3
  have hnk : nK ≤ 1000000 := by have := HNK.out; have := collP_len HTb.own hS; omega
  clear hS hP hL hA hb3 hb hs2 VK HGE2 BB2 p1 p2 HOW HS1 c_b1 c_b2 d_b1 hmk HB1 B0
  go_wp2_with fail
  go_loopw [3, 5, 7, 23] (fun v _ _ j wr => ∃ k : Nat, j = .int .i64 k ∧ k ≤ nK ∧ Hid (Ge elO wr w.heap.size v ((ks.take k).flatMap (ofP T))) ∧ Hid (VB w.heap.size w3.heap.size v) ∧ Hid (Le elP wr a nK ks) ∧ Hid (Below w.heap.size w wr) ∧ Hid (w3.heap.size ≤ wr.heap.size)) (fun _ _ _ j _ => (nK - (intOf j).toNat : Nat))
  case atStart => exact ⟨0, rfl, Nat.zero_le _, HG3.out, fun k hk => by cases hk; exact Or.inl rfl, HLP.out, HB3.out, Nat.le_refl _⟩
  case round =>
    obtain ⟨k, rfl, hkn, HG, HV, HL, HB, HZ⟩ := hrel
    clear HG3 HLP HB3
    by_cases hk : k < nK
    ·
      obtain ⟨pb0, po0, rfl⟩ := HL.out.ex (by omega)
      have hkk := getPa ks k (by rw [HNK.out]; exact hk)
      have c0 : wr.cell? ⟨pb0, po0 + k * 2, none⟩ = some (sv (ks.getD k ([], [])).1) := by have := HL.out.at k hk 0 _ rfl; simpa [elP] using this
      have c1 : wr.cell? ⟨pb0, po0 + k * 2 + 1, none⟩ = some (sv (ks.getD k ([], [])).2) := by have := HL.out.at k hk 1 _ rfl; simpa [elP, Nat.add_assoc] using this
      have hsho := HSH.out (ks.getD k ([], [])) (List.mem_of_getElem? hkk)
      generalize ks.getD k ([], []) = kp at *
      obtain ⟨f, t⟩ := kp
      simp only at c0 c1
      have HKK : Hid (ks[k]? = some (f, t)) := hkk
      have HSO : Hid (Sho (f, t)) := hsho
      clear hkk hsho
      go_upto_region 7 with fail
      refine ent1 wr _ _ (Q := fun W => Code.wp Tryz.prog _ _ _ W) ?_
      intro x1 hb hs1 V1
      clear c0 c1
      have BB := step HB.out hb
      have HTd : Tb x1.drew S b m n D T := (HTb.after BB).after ((Below.refl _ _).drew)
      obtain ⟨v0, hlook, -, hGe, -⟩ := HTb.look HSO.out
      obtain ⟨xs, hxs⟩ : ∃ xs, sel f t T = xs := ⟨_, rfl⟩
      have HXS : Hid (sel f t T = xs) := hxs
      obtain ⟨la, lc, rfl, -, -, -⟩ := hGe.shape
      rw [hxs] at hGe hlook
      have hln : xs.length ≤ 4096 := by rw [← hxs]; exact Nat.le_trans (sel_len _ _ _) hT.len
      clear hxs
      obtain ⟨ln, hlq⟩ : ∃ ln, xs.length = ln := ⟨_, rfl⟩
      have HXN : Hid (xs.length = ln) := hlq
      rw [hlq] at hln hGe hlook
      clear hlq
      have HGL : Hid (Ge elQ w 0 (.slice la ln lc) xs) := hGe
      have hlk := hlook x1.drew (BB.drew)
      clear hGe hlook
      have HX : Hid (Ge elO x1 w.heap.size u3 ((ks.take k).flatMap (ofP T)) ∧ Le elP x1 (some ⟨pb0, po0, none⟩) nK ks ∧ Below w.heap.size w x1 ∧ w3.heap.size ≤ x1.heap.size) := ⟨HG.out.after hb, HL.out.after hb, BB, by have := HZ.out; have := hb.size; omega⟩
      clear hb hs1 HG HL HB HZ
      have B0 : Below x1.heap.size x1 x1 := Below.refl _ _
      have hdr := (Below.refl x1.heap.size x1).drew
      have HXd : Hid (Ge elO x1.drew w.heap.size u3 ((ks.take k).flatMap (ofP T)) ∧ Le elP x1.drew (some ⟨pb0, po0, none⟩) nK ks ∧ Below w.heap.size w x1.drew ∧ w3.heap.size ≤ x1.drew.heap.size) := ⟨HX.out.1.after hdr, HX.out.2.1.after hdr, step HX.out.2.2.1 hdr, HX.out.2.2.2⟩
      clear hdr HX
      refine wp_region_noPanic ?_
      replace V1 : Va x1.drew _ _ _ := V1
      replace B0 := Below.drew B0
      refine wp_region_held_drew (S := (fun W => W.cell? ⟨b, 1, none⟩ = some (.map (some m)) ∧ (W.cell? ⟨wr.heap.size, 0, none⟩ = some (sv f) ∧ W.cell? ⟨wr.heap.size, 1, none⟩ = some (sv t)) ∧ (Instr.lookup 30 (.map (some m)) (pv (f, t)) false).run Tryz.prog W = .ok (.slice la ln lc) W)) (by kernel_rfl) ⟨HTd.cells.at1, ⟨by rw [V1.cellAt 0]; rfl, by rw [V1.cellAt 1]; rfl⟩, hlk⟩ (fun hHeld => ?_)
      obtain ⟨x2, hxd⟩ : ∃ xd, xd = x1.drew := ⟨_, rfl⟩
      rw [← hxd] at V1 B0 hHeld ⊢
      have HX2 : Hid (Ge elO x2 w.heap.size u3 ((ks.take k).flatMap (ofP T)) ∧ Le elP x2 (some ⟨pb0, po0, none⟩) nK ks ∧ Below w.heap.size w x2 ∧ w3.heap.size ≤ x2.heap.size) := by rw [hxd]; exact HXd.out
      clear hxd HTd hlk HXd B0
      refine wpAnyH_take (i := 0) (v := ?_) rfl (by kernel_rfl) (by kernel_rfl) (by kernel_rfl) (fun _ _ _ h => h) (Or.inl ⟨by rfl, ?_⟩) hHeld ?_
      rotate_left
      · (intro W hSw; (try dsimp only at hSw); go_simp; all_goals (with_reducible rfl))
      simp only [List.getElem_toArray, List.getElem_cons_zero, Act.put, List.setIfInBounds_toArray, List.set_cons_zero, List.set_cons_succ]
      refine wpAnyH_take (i := 1) (v := ?_) rfl (by kernel_rfl) (by kernel_rfl) (by kernel_rfl) (fun _ _ _ h => h) (Or.inl ⟨by rfl, ?_⟩) hHeld ?_
      rotate_left
      · (intro W hSw; (try dsimp only at hSw); go_simp; all_goals (with_reducible rfl))
      simp only [List.getElem_toArray, List.getElem_cons_zero, List.getElem_cons_succ, Act.put, List.setIfInBounds_toArray, List.set_cons_zero, List.set_cons_succ]
      refine wpAnyH_take (i := 2) (v := ?_) rfl (by kernel_rfl) (by kernel_rfl) (by kernel_rfl) (fun _ _ _ h => h) (Or.inl ⟨by rfl, ?_⟩) hHeld ?_
      rotate_left
      · (intro W hSw; (try dsimp only at hSw); go_simp; all_goals (with_reducible rfl))
      simp only [List.getElem_toArray, List.getElem_cons_zero, List.getElem_cons_succ, Act.put, List.setIfInBounds_toArray, List.set_cons_zero, List.set_cons_succ]
      refine wpAnyH_take (i := 3) (v := ?_) rfl (by kernel_rfl) (by kernel_rfl) (by kernel_rfl) (fun _ _ _ h => h) (Or.inl ⟨by rfl, ?_⟩) hHeld ?_
      rotate_left
      · (intro W hSw; (try dsimp only at hSw); go_simp; all_goals (with_reducible rfl))
      simp only [List.getElem_toArray, List.getElem_cons_zero, List.getElem_cons_succ, Act.put, List.setIfInBounds_toArray, List.set_cons_zero, List.set_cons_succ]
      refine wpAnyH_take (i := 4) (v := ?_) rfl (by kernel_rfl) (by kernel_rfl) (by kernel_rfl) (fun _ _ _ h => h) (Or.inl ⟨by rfl, ?_⟩) hHeld ?_
      rotate_left
      · (intro W hSw; (try dsimp only at hSw); go_simp; all_goals (with_reducible rfl))
      simp only [List.getElem_toArray, List.getElem_cons_zero, List.getElem_cons_succ, Act.put, List.setIfInBounds_toArray, List.set_cons_zero, List.set_cons_succ]
      refine wpAnyH_take (i := 5) (v := ?_) rfl (by kernel_rfl) (by kernel_rfl) (by kernel_rfl) (fun _ _ _ h => h) (Or.inl ⟨by rfl, ?_⟩) hHeld ?_
      rotate_left
      · (intro W hSw; (try dsimp only at hSw); go_simp; all_goals (with_reducible rfl))
      simp only [List.getElem_toArray, List.getElem_cons_zero, List.getElem_cons_succ, Act.put, List.setIfInBounds_toArray, List.set_cons_zero, List.set_cons_succ]
      refine wpAnyH_take (i := 6) (v := ?_) rfl (by kernel_rfl) (by kernel_rfl) (by kernel_rfl) (fun _ _ _ h => h) (Or.inl ⟨by rfl, ?_⟩) hHeld ?_
      rotate_left
      · (intro W hSw; (try dsimp only at hSw); go_simp; all_goals (with_reducible rfl))
      simp only [List.getElem_toArray, List.getElem_cons_zero, List.getElem_cons_succ, Act.put, List.setIfInBounds_toArray, List.set_cons_zero, List.set_cons_succ]
      refine wpAnyH_take (i := 7) (v := ?_) rfl (by kernel_rfl) (by kernel_rfl) (by kernel_rfl) (fun _ _ _ h => h) (Or.inl ⟨by rfl, ?_⟩) hHeld ?_
      rotate_left
      · (intro W hSw; (try dsimp only at hSw); go_simp; all_goals (with_reducible rfl))
      simp only [List.getElem_toArray, List.getElem_cons_zero, List.getElem_cons_succ, Act.put, List.setIfInBounds_toArray, List.set_cons_zero, List.set_cons_succ]
      refine wpAnyH_done (by kernel_rfl) ?_ _
      refine NoPanic.normal ?_
      clear hHeld
      go_wp2_with fail
      obtain ⟨pbk, hpbk⟩ : ∃ pbk, wr.heap.size = pbk := ⟨_, rfl⟩
      rw [hpbk] at V1 ⊢
      clear hpbk
      obtain ⟨hG2, hL2, hB2, hZ2⟩ := HX2.out
      have HG2 : Hid (Ge elO x2 w.heap.size u3 ((ks.take k).flatMap (ofP T))) := hG2
      have HL2 : Hid (Le elP x2 (some ⟨pb0, po0, none⟩) nK ks) := hL2
      have HB2 : Hid (Below w.heap.size w x2) := hB2
      have HZ2 : Hid (w3.heap.size ≤ x2.heap.size) := hZ2
      have HV1 : Hid (Va x2 pbk 71 #[sv f, sv t]) := V1
      clear hG2 hL2 hB2 hZ2 HX2 V1
      go_loopw [3, 7, 34] (fun v _ j wq => ∃ i : Nat, j = .int .i64 i ∧ i ≤ ln ∧ Hid (Ge elO wq w.heap.size v ((ks.take k).flatMap (ofP T) ++ (ofP T (f, t)).take i)) ∧ Hid (VB w.heap.size w3.heap.size v) ∧ Hid (Le elP wq (some ⟨pb0, po0, none⟩) nK ks) ∧ Hid (Va wq pbk 71 #[sv f, sv t]) ∧ Hid (Below w.heap.size w wq) ∧ Hid (w3.heap.size ≤ wq.heap.size)) (fun _ _ j _ => (ln - (intOf j).toNat : Nat))
      case atStart => exact ⟨0, rfl, Nat.zero_le _, by rw [List.take_zero, List.append_nil]; exact HG2.out, HV, HL2.out, HV1.out, HB2.out, HZ2.out⟩
      case round =>
        obtain ⟨i, rfl, hin, HG, HVQ, HL, HVP, HB, HZ⟩ := hrel
        clear HG2 HL2 HB2 HZ2 HV1
        by_cases hi : i < ln
        ·
          obtain ⟨lg, rfl⟩ : ∃ lg, la = some ⟨lg, 0, none⟩ := by
            obtain ⟨a9, c9, e9, -, -, h9⟩ := HGL.out.shape
            cases e9
            rcases h9 with ⟨-, e, -⟩ | h
            · rw [e] at hi; exact absurd hi (Nat.not_lt_zero _)
            · exact h
          have hLq : Le elQ wr (some ⟨lg, 0, none⟩) ln xs := (HGL.out.after HB.out).toLe
          have hxi := getQ xs i (by rw [HXN.out]; exact hi)
          have c0 : wr.cell? ⟨lg, i * 2, none⟩ = some (.int .i64 (xs.getD i (0, 0)).1) := by have := hLq.at i hi 0 _ rfl; simpa [elQ] using this
          have c1 : wr.cell? ⟨lg, i * 2 + 1, none⟩ = some (.float .f64 (xs.getD i (0, 0)).2) := by have := hLq.at i hi 1 _ rfl; simpa [elQ] using this
          generalize xs.getD i (0, 0) = xi at *
          obtain ⟨y, r⟩ := xi
          simp only at c0 c1
          have HOP : Hid ((ofP T (f, t)).take (i + 1) = (ofP T (f, t)).take i ++ [⟨f, t, y, r⟩]) := ofP_get (k := (f, t)) (by show (sel f t T)[i]? = _; rw [HXS.out]; exact hxi)
          have p0 : wr.cell? ⟨pbk, 0, none⟩ = some (sv f) := by rw [HVP.out.cellAt 0]; rfl
          have p1 : wr.cell? ⟨pbk, 1, none⟩ = some (sv t) := by rw [HVP.out.cellAt 1]; rfl
          clear hLq hxi
          have hVB : wr.heap.size + 1 < 1000000000000000 ∨ True := Or.inr trivial
          have hwl : w.heap.size ≤ wr.heap.size := HB.out.size
          obtain ⟨dn, hdn⟩ : ∃ dn, (ks.take k).flatMap (ofP T) ++ (ofP T (f, t)).take i = dn := ⟨_, rfl⟩
          have HDN : Hid ((ks.take k).flatMap (ofP T) ++ (ofP T (f, t)).take i = dn) := hdn
          rw [hdn] at HG
          have hdl : dn.length ≤ 1000000000 := by
            rw [← hdn]
            have h1 : ((ks.take k).flatMap (ofP T)).length ≤ T.length := by
              have h2 := HFL.out
              rw [← List.take_append_drop k ks, List.flatMap_append] at h2
              have h3 := congrArg List.length h2
              rw [List.length_append] at h3
              omega
            have h2 : ((ofP T (f, t)).take i).length ≤ T.length := by
              rw [List.length_take, ofP_len]
              exact Nat.le_trans (Nat.min_le_right _ _) (sel_len _ _ _)
            have h3 := hT.len
            rw [List.length_append]
            omega
          clear hdn hVB
          have sf := run_store_flt
          have lp := HVP.out.lt
          have ll := cell_lt c0
          go_wp2_with (at_builtin; refine wpList_appE rfl _ _ _ rfl elO rfl w.heap.size _ dn rfl ((HG.out.al _).al _) (wr.heap.size + 1) 0 1 1 [⟨f, t, y, r⟩] rfl (Le.one (new2 wr _ _ _ _) rfl) (by simp; omega) (by simp; omega) ?_; intro v' w5 hg5 hgr5 hl5; have HG5 : Hid (Ge elO w5 w.heap.size v' (dn ++ [⟨f, t, y, r⟩])) := hg5; have HR5 : Hid (((wr.alloc (.cells #[.int .i64 y, .float .f64 r] 76)).alloc (.cells #[sv f, sv t, .int .i64 y, .float .f64 r] 29)).grownBy w5 (Value.ownBlock u3)) := hgr5; have HL5 : Hid (v'.ownBlock = Value.ownBlock u3 ∨ v'.ownBlock = some ((wr.alloc (.cells #[.int .i64 y, .float .f64 r] 76)).alloc (.cells #[sv f, sv t, .int .i64 y, .float .f64 r] 29)).heap.size) := hl5; clear hg5 hgr5 hl5)
          go_roundw
          case measure => simp [intOf]; omega
          case rel =>
            have hb2 : Below wr.heap.size wr ((wr.alloc (.cells #[.int .i64 y, .float .f64 r] 76)).alloc (.cells #[sv f, sv t, .int .i64 y, .float .f64 r] 29)) := ((Below.refl _ _).alloc (Nat.le_refl _) _).alloc (by simp) _
            have hg2 : Ge elO ((wr.alloc (.cells #[.int .i64 y, .float .f64 r] 76)).alloc (.cells #[sv f, sv t, .int .i64 y, .float .f64 r] 29)) w.heap.size u3 dn := HG.out.after hb2
            refine ⟨i + 1, rfl, by omega, ?_, HVQ.out.next HL5.out (by have := HZ.out; simp; omega), (Le.after hb2 HL.out).vb HR5.out HVQ.out (fun h0 b off e => HLA.out h0 b off e), (Va.after hb2 HVP.out).gO hg2 HR5.out (by decide), (HB.out.trans (hb2.mono hwl)).grown HR5.out (by simp; omega) (fun k hk => hg2.block k hk), by show _ ≤ _; have h1 := HZ.out; have h2 := HR5.out.size; simp at h2; omega⟩
            rw [HOP.out, ← List.append_assoc, HDN.out]
            exact HG5.out
        ·
          obtain rfl : i = ln := by omega
          go_wp2_with fail
          go_roundw
          case measure => simp [intOf]; omega
          case rel =>
            refine ⟨k + 1, rfl, by omega, ?_, HVQ.out, HL.out, HB.out, HZ.out⟩
            rw [flat_step HKK.out]
            have hG := HG.out
            have e : (ofP T (f, t)).take i = ofP T (f, t) := List.take_of_length_le (by rw [ofP_len]; show (sel f t T).length ≤ i; rw [HXS.out, HXN.out]; exact Nat.le_refl _)
            rw [e] at hG
            exact hG
    ·
      obtain rfl : k = nK := by omega
      go_wp2_with fail
      go_ret
      refine ⟨_, rfl, ?_, HB.out⟩
      have hG := HG.out
      rw [List.take_of_length_le (by rw [HNK.out]; exact Nat.le_refl _), HFL.out] at hG
      exact hG
end Go.Proofs.YtmhfoeooccppfaaGreat
namespace Go.Proofs.YtmhfoeooccppfaaGreat
open Go.RowKit Go.Shelf
set_option linter.unusedVariables false
set_option maxRecDepth 20000

theorem infoE : (Tryz.prog.info? 24).map (fun i => (i.zero, i.size, i.bytes)) = some (some (.int .i64 0), 1, 8) := by kernel_rfl
/-- Errors in memory. -/
def elE : El Int where
  enc x := [.int .i64 x]
  dft := 0
  te := 24
  tl := 59
  z := .int .i64 0
  s := 1
  by8 := 8
  len := fun _ => rfl
  one := fun x v hv => by
    simp at hv
    rw [hv]; rfl
  pos := by decide
  und := Tryz.underlying59
  inf := infoE
  zs := rfl
  bt := by decide
/-- Quotes put one behind the other: what each answers, and the table in the end. -/
inductive Puts (T : List Qe) : List Qe → List Int → List Qe → Prop
  | nil : Puts T [] [] T
  | snoc {l : List Qe} {es : List Int} {T1 T2 : List Qe} {q : Qe} {e : Int} (h : Puts T l es T1) (g : PuR T1 q e T2) : Puts T (l ++ [q]) (es ++ [e]) T2
theorem Puts.tok {T l : List Qe} {es : List Int} {T' : List Qe} (h : Puts T l es T') (hT : Tok T) : Tok T' := by
  induction h with
  | nil => exact hT
  | snoc h g ih => exact ih.put g
theorem PuR.len {T : List Qe} {q : Qe} {e : Int} {S : List Qe} (h : PuR T q e S) (hT : Tok T) : S.length ≤ T.length + 1 := by
  have hsp := tput_spec q hT.srt
  cases h with
  | bad _ => omega
  | full _ _ _ => omega
  | set h hh => rw [hsp.2.2.1 hh]; omega
  | more h hn hl => rw [hsp.2.2.2 (fun p hp hs => hn ⟨p, hp, hs⟩)]; omega
theorem Puts.len {T l : List Qe} {es : List Int} {T' : List Qe} (h : Puts T l es T') (hT : Tok T) : T'.length ≤ T.length + l.length := by
  induction h with
  | nil => simp
  | snoc h g ih =>
    have := g.len (h.tok hT)
    rw [List.length_append]
    simp
    omega
theorem Puts.lens {T l : List Qe} {es : List Int} {T' : List Qe} (h : Puts T l es T') : es.length = l.length := by
  induction h with
  | nil => rfl
  | snoc h g ih => simp [ih]
theorem getO (xs : List Qe) (i : Nat) (hi : i < xs.length) : xs[i]? = some (xs.getD i ⟨[], [], 0, 0⟩) := by
  rw [List.getD_eq_getElem?_getD, List.getElem?_eq_getElem hi]; rfl
/-- A table in new memory, behind which a list grows. -/
structure Plx (w wr : World) (b : Nat) (T : List Qe) (v : Value) (es : List Int) : Prop where
  ex : ∃ S, TbR wr S b T ∧ (∀ k, S k → w.heap.size ≤ k) ∧ ∀ g, v.ownBlock = some g → ¬ S g
  ge : Ge elE wr w.heap.size v es
  bl : Below w.heap.size w wr
theorem Plx.put {w wr w' : World} {b : Nat} {T T' : List Qe} {v : Value} {es : List Int} (h : Plx w wr b T v es) {S S' : Nat → Prop} (h1 : TbR wr S b T) (h2 : ∀ k, S k → w.heap.size ≤ k) (h3 : ∀ g, v.ownBlock = some g → ¬ S g) (t : TbR w' S' b T') (c : Ch wr w' S S') : Plx w w' b T' v es := by
  refine ⟨⟨S', t, c.from h.bl.size h2, fun g hg hs => ?_⟩, h.ge.kept (fun g hg => c.out g (h.ge.lt g hg) (h3 g hg)), h.bl.trans (c.below h.bl.size h2)⟩
  rcases c.sub g hs with h' | h'
  · exact h3 g hg h'
  · have := h.ge.lt g hg; omega
theorem Plx.after {w wr w' : World} {b : Nat} {T : List Qe} {v : Value} {es : List Int} (hb : Below wr.heap.size wr w') (h : Plx w wr b T v es) : Plx w w' b T v es := by
  obtain ⟨S, h1, h2, h3⟩ := h.ex
  exact ⟨⟨S, h1.after hb, h2, h3⟩, h.ge.after hb, step h.bl hb⟩
theorem Plx.app {w wr w' : World} {b : Nat} {T : List Qe} {v v' : Value} {es es' : List Int} (h : Plx w wr b T v es) (g : Ge elE w' w.heap.size v' es') (hg : wr.grownBy w' v.ownBlock) (hl : v'.ownBlock = v.ownBlock ∨ v'.ownBlock = some wr.heap.size) : Plx w w' b T v' es' := by
  obtain ⟨S, ⟨m, n, D, h1⟩, h2, h3⟩ := h.ex
  refine ⟨⟨S, ⟨m, n, D, h1.kept hg.size (fun k hk => hg.block k (h1.lt k hk) (fun e => h3 k e.symm hk))⟩, h2, fun k hk hs => ?_⟩, g, h.bl.grown hg h.bl.size (fun k hk => h.ge.block k hk)⟩
  rcases hl with e | e
  · exact h3 k (by rw [← e]; exact hk) hs
  · rw [e] at hk; cases hk; exact absurd (h1.lt _ hs) (Nat.lt_irrefl _)
set_option maxHeartbeats 8000000 in
theorem lput_any (a : Option Addr) (n c : Nat) (l : List Qe) (w : World) (hL : Le elO w a n l) (hR : ∀ q ∈ l, q.rate < 18446744073709551616) (hnn : n ≤ 9223372036854775807) :
    Calls Tryz.prog 19 #[.slice a n c] w fun e w' => ∃ (b : Nat) (T : List Qe) (v : Value) (es : List Int), e = .returned (.tuple #[.pointer (some ⟨b, 0, none⟩), v]) ∧ Plx w w' b T v es ∧ Puts [] (l.take 2000) es T := by
  have HL : Hid (Le elO w a n l) := hL
  have HLN : Hid (l.length = n) := hL.1
  have HR : Hid (∀ q ∈ l, q.rate < 18446744073709551616) := hR
  clear hL hR
  go_enter Tryz.func19, Tryz.ntmps19
  go_wp2_with fail
  refine (new_any w).mono ?_
  rintro e w1 ⟨b, S0, rfl, ht, hb, hs⟩
  have HP : Hid (Plx w w1 b [] (.slice none 0 0) []) := ⟨⟨S0, ht, hs, fun g hg => by cases hg⟩, Ge.nil _ _, hb⟩
  clear ht hb hs
  go_wp2_with fail
  go_loopw [5, 6] (fun v j wr => ∃ (k : Nat) (T : List Qe) (es : List Int), j = .int .i64 k ∧ k ≤ n ∧ k ≤ 2000 ∧ Hid (Plx w wr b T v es) ∧ Hid (Puts [] (l.take k) es T)) (fun _ j _ => (n - (intOf j).toNat : Nat))
  case atStart => exact ⟨0, [], [], rfl, Nat.zero_le _, Nat.zero_le _, HP.out, .nil⟩
  case round =>
    obtain ⟨k, T, es, rfl, hkn, hk2, HQ, HU⟩ := hrel
    clear HP
    by_cases hk : k < n ∧ k < 2000
    ·
      obtain ⟨hka, hkb⟩ := hk
      obtain ⟨lb, lo, rfl⟩ := HL.out.ex (by omega)
      have hLr : Le elO wr (some ⟨lb, lo, none⟩) n l := HL.out.after HQ.out.bl
      have hqk := getO l k (by rw [HLN.out]; exact hka)
      have c0 : wr.cell? ⟨lb, lo + k * 4, none⟩ = some (sv (l.getD k ⟨[], [], 0, 0⟩).fr) := by have := hLr.at k hka 0 _ rfl; simpa [elO, Nat.add_assoc] using this
      have c1 : wr.cell? ⟨lb, lo + k * 4 + 1, none⟩ = some (sv (l.getD k ⟨[], [], 0, 0⟩).to) := by have := hLr.at k hka 1 _ rfl; simpa [elO, Nat.add_assoc] using this
      have c2 : wr.cell? ⟨lb, lo + k * 4 + 2, none⟩ = some (.int .i64 (l.getD k ⟨[], [], 0, 0⟩).day) := by have := hLr.at k hka 2 _ rfl; simpa [elO, Nat.add_assoc] using this
      have c3 : wr.cell? ⟨lb, lo + k * 4 + 3, none⟩ = some (.float .f64 (l.getD k ⟨[], [], 0, 0⟩).rate) := by have := hLr.at k hka 3 _ rfl; simpa [elO, Nat.add_assoc] using this
      have hrate := HR.out _ (List.mem_of_getElem? hqk)
      have HTK : Hid (l.take (k + 1) = l.take k ++ [l.getD k ⟨[], [], 0, 0⟩]) := take_at hqk
      generalize l.getD k ⟨[], [], 0, 0⟩ = q at *
      obtain ⟨f, t, d, r⟩ := q
      simp only at c0 c1 c2 c3 hrate
      clear hqk hLr
      obtain ⟨S, s1, s2, s3⟩ := HQ.out.ex
      have hT := HU.out.tok Tok.nil
      have hput := put_any f t d r hrate S b T wr s1 hT
      have HS : Hid (TbR wr S b T ∧ (∀ k, S k → w.heap.size ≤ k) ∧ ∀ g, Value.ownBlock u5 = some g → ¬ S g) := ⟨s1, s2, s3⟩
      clear s1 s2 s3 hT
      go_wp2_with fail
      refine hput.mono ?_
      rintro e w2 ⟨E, T', S', rfl, hp, ht, hc, -⟩
      clear hput c0 c1 c2 c3
      have HQ2 : Hid (Plx w w2 b T' u5 es) := HQ.out.put HS.out.1 HS.out.2.1 HS.out.2.2 ht hc
      have HU2 : Hid (Puts [] (l.take (k + 1)) (es ++ [E]) T') := by show Puts _ _ _ _; rw [HTK.out]; exact .snoc HU.out hp
      have hel : es.length ≤ 2000 := by rw [HU.out.lens, List.length_take]; omega
      clear hp ht hc HS HQ HU HTK
      have hb1 : ∀ o, Below w2.heap.size w2 (w2.alloc o) := fun o => (Below.refl _ _).alloc (Nat.le_refl _) _
      have HBA : Hid (∀ o, Below w2.heap.size w2 (w2.alloc o)) := hb1
      have hww : w.heap.size ≤ w2.heap.size := HQ2.out.bl.size
      clear hb1
      go_wp2_with (at_builtin; refine wpList_appE rfl _ _ _ rfl elE rfl w.heap.size _ es rfl (HQ2.out.ge.al _) w2.heap.size 0 1 1 [E] rfl (Le.one (Va.new w2 _ _) rfl) (by simp; omega) (by simp; omega) ?_; intro v' w5 hg5 hgr5 hl5; have HG5 : Hid (Ge elE w5 w.heap.size v' (es ++ [E])) := hg5; have HR5 : Hid ((w2.alloc (.cells #[.int .i64 E] 24)).grownBy w5 (Value.ownBlock u5)) := hgr5; have HL5 : Hid (v'.ownBlock = Value.ownBlock u5 ∨ v'.ownBlock = some (w2.alloc (.cells #[.int .i64 E] 24)).heap.size) := hl5; clear hg5 hgr5 hl5)
      go_roundw
      case measure => simp [intOf]; omega
      case rel =>
        exact ⟨k + 1, T', _, rfl, by omega, by omega, (HQ2.out.after (HBA.out _)).app HG5.out HR5.out HL5.out, HU2.out⟩
    ·
      have hx : ¬ (k : Int) < (n : Int) ∨ ¬ (k : Int) < 2000 := by omega
      have HTK : Hid (l.take k = l.take 2000) := by
        show _ = _
        rcases Nat.lt_or_ge k n with h | h
        · rw [show k = 2000 by omega]
        · rw [List.take_of_length_le (by rw [HLN.out]; omega), List.take_of_length_le (by rw [HLN.out]; omega)]
      have HU2 : Hid (Puts [] (l.take 2000) es T) := by show Puts _ _ _ _; rw [← HTK.out]; exact HU.out
      rcases Nat.lt_or_ge k n with h | h
      ·
        obtain rfl : k = 2000 := by omega
        clear hk hx
        go_wp2_with fail
        go_ret2
        first | exact ⟨b, T, _, rfl, es, HQ.out, HU2.out⟩ | exact ⟨b, T, _, es, rfl, HQ.out, HU2.out⟩
      ·
        obtain rfl : k = n := by omega
        clear hk hx
        go_wp2_with fail
        go_ret2
        first | exact ⟨b, T, _, rfl, es, HQ.out, HU2.out⟩ | exact ⟨b, T, _, es, rfl, HQ.out, HU2.out⟩
end Go.Proofs.YtmhfoeooccppfaaGreat
namespace Go.Proofs.YtmhfoeooccppfaaGreat
open Go.RowKit Go.Shelf
set_option linter.unusedVariables false

theorem Sz.inv {n : Nat} {v : Rat} (h : Sz n v) : Sz n v⁻¹ := by
  unfold Sz at *
  rw [Rat.num_inv, Rat.den_inv]
  refine ⟨?_, ?_⟩
  · refine Int.lt_of_le_of_lt ?_ h.2
    rw [Int.natAbs_mul]
    have : v.num.sign.natAbs ≤ 1 := by
      rcases Int.lt_trichotomy v.num 0 with h | h | h
      · rw [Int.sign_eq_neg_one_of_neg h]; decide
      · rw [h]; decide
      · rw [Int.sign_eq_one_of_pos h]; decide
    have h2 : v.num.sign.natAbs * v.den ≤ 1 * v.den := Nat.mul_le_mul_right _ this
    have h3 : ((v.den : Int)).natAbs = v.den := by omega
    rw [h3]
    omega
  · have hd : 0 < v.den := Nat.pos_of_ne_zero v.den_nz
    split
    · have := h.2; omega
    · exact h.1
theorem inv_pos {v : Rat} (h : 0 < v.num) : 0 < (v⁻¹).num := by
  rw [Rat.num_inv, Int.sign_eq_one_of_pos h]
  have := v.den_nz
  omega
theorem uq_tok {T : List Qe} (h : Tok T) : Uq T ∧ T.Nodup := by
  refine ⟨uq_of_sorted sl_ordr h.srt, h.srt.imp ?_⟩
  intro a b hab e
  subst e
  exact Qlt.irr sl_ordr _ hab
/-- What is told, case by case. -/
structure RtS (T : List Qe) (f t : List UInt8) (d E : Int) (v : Rat) : Prop where
  cur : ¬ (cdF' f = true ∧ cdF' t = true) → E = 90 ∧ v = 0
  date : cdF' f = true ∧ cdF' t = true → ¬ (0 ≤ d ∧ d ≤ 3652058) → E = 100 ∧ v = 0
  one : cdF' f = true ∧ cdF' t = true → 0 ≤ d ∧ d ≤ 3652058 → f = t → E = 0 ∧ v = 1
  two : cdF' f = true ∧ cdF' t = true → 0 ≤ d ∧ d ≤ 3652058 → f ≠ t → (∃ q, Bst T f t d q ∧ E = 0 ∧ (q.fr = f → v = fv q.rate) ∧ (q.fr ≠ f → v = (fv q.rate)⁻¹)) ∨ (Non T f t d ∧ E = 160 ∧ v = 0)
theorem RtR.spec {T : List Qe} {f t : List UInt8} {d E : Int} {v : Rat} (h : RtR T f t d E v) : RtS T f t d E v := by
  cases h with
  | cur h => exact ⟨fun _ => ⟨rfl, rfl⟩, fun g => by rcases h with h | h <;> simp_all, fun g => by rcases h with h | h <;> simp_all, fun g => by rcases h with h | h <;> simp_all⟩
  | date h1 h2 h3 => exact ⟨fun g => absurd ⟨h1, h2⟩ g, fun _ _ => ⟨rfl, rfl⟩, fun _ g => absurd g h3, fun _ g => absurd g h3⟩
  | one h1 h2 h3 h4 => exact ⟨fun g => absurd ⟨h1, h2⟩ g, fun _ g => absurd h3 g, fun _ _ _ => ⟨rfl, rfl⟩, fun _ _ g => absurd h4 g⟩
  | forth h1 h2 h3 h4 q h5 h6 => exact ⟨fun g => absurd ⟨h1, h2⟩ g, fun _ g => absurd h3 g, fun _ _ g => absurd g h4, fun _ _ _ => Or.inl ⟨q, h5, rfl, fun _ => rfl, fun g => absurd h6 g⟩⟩
  | back h1 h2 h3 h4 q h5 h6 => exact ⟨fun g => absurd ⟨h1, h2⟩ g, fun _ g => absurd h3 g, fun _ _ g => absurd g h4, fun _ _ _ => Or.inl ⟨q, h5, rfl, fun g => absurd g h6, fun _ => rfl⟩⟩
  | none h1 h2 h3 h4 h5 => exact ⟨fun g => absurd ⟨h1, h2⟩ g, fun _ g => absurd h3 g, fun _ _ g => absurd g h4, fun _ _ _ => Or.inr ⟨h5, rfl, rfl⟩⟩
theorem RtS.unique {T : List Qe} (hT : Tok T) {f t : List UInt8} {d E E' : Int} {v v' : Rat} (h : RtS T f t d E v) (g : RtS T f t d E' v') : E = E' ∧ v = v' := by
  by_cases h1 : cdF' f = true ∧ cdF' t = true
  · by_cases h2 : 0 ≤ d ∧ d ≤ 3652058
    · by_cases h3 : f = t
      · have a := h.one h1 h2 h3; have b := g.one h1 h2 h3
        exact ⟨a.1.trans b.1.symm, a.2.trans b.2.symm⟩
      · rcases h.two h1 h2 h3 with ⟨q, q1, q2, q3, q4⟩ | ⟨q1, q2, q3⟩ <;> rcases g.two h1 h2 h3 with ⟨p, p1, p2, p3, p4⟩ | ⟨p1, p2, p3⟩
        · have := Bst.unique (uq_tok hT).1 h3 q1 p1
          subst this
          refine ⟨q2.trans p2.symm, ?_⟩
          by_cases hq : q.fr = f
          · rw [q3 hq, p3 hq]
          · rw [q4 hq, p4 hq]
        · exact absurd p1 q1.there
        · exact absurd q1 p1.there
        · exact ⟨q2.trans p2.symm, q3.trans p3.symm⟩
    · have a := h.date h1 h2; have b := g.date h1 h2
      exact ⟨a.1.trans b.1.symm, a.2.trans b.2.symm⟩
  · have a := h.cur h1; have b := g.cur h1
    exact ⟨a.1.trans b.1.symm, a.2.trans b.2.symm⟩
/-- Where there is a rate there is one back; else both are nought. -/
theorem RtS.back {T : List Qe} {f t : List UInt8} {d E E' : Int} {v v' : Rat} (h : RtS T f t d E v) (g : RtS T t f d E' v') : E = E' ∧ (E ≠ 0 → v = 0 ∧ v' = 0) := by
  by_cases h1 : cdF' f = true ∧ cdF' t = true
  · by_cases h2 : 0 ≤ d ∧ d ≤ 3652058
    · by_cases h3 : f = t
      · have a := h.one h1 h2 h3; have b := g.one h1.symm h2 h3.symm
        exact ⟨a.1.trans b.1.symm, fun hn => absurd a.1 hn⟩
      · rcases h.two h1 h2 h3 with ⟨q, q1, q2, q3, q4⟩ | ⟨q1, q2, q3⟩ <;> rcases g.two h1.symm h2 (fun e => h3 e.symm) with ⟨p, p1, p2, p3, p4⟩ | ⟨p1, p2, p3⟩
        · exact ⟨q2.trans p2.symm, fun hn => absurd q2 hn⟩
        · exact absurd (none_back p1) q1.there
        · exact absurd (none_back q1) p1.there
        · exact ⟨q2.trans p2.symm, fun _ => ⟨q3, p3⟩⟩
    · have a := h.date h1 h2; have b := g.date h1.symm h2
      exact ⟨a.1.trans b.1.symm, fun _ => ⟨a.2, b.2⟩⟩
  · have a := h.cur h1; have b := g.cur (fun e => h1 e.symm)
    exact ⟨a.1.trans b.1.symm, fun _ => ⟨a.2, b.2⟩⟩
theorem RtS.self {T : List Qe} {f : List UInt8} {d : Int} {v : Rat} (h : RtS T f f d 0 v) : v = 1 := by
  by_cases h1 : cdF' f = true ∧ cdF' f = true
  · by_cases h2 : 0 ≤ d ∧ d ≤ 3652058
    · exact (h.one h1 h2 rfl).2
    · exact absurd (h.date h1 h2).1 (by decide)
  · exact absurd (h.cur h1).1 (by decide)
/-- What stands where a rate is told between two currencies. -/
theorem RtS.at {T : List Qe} {f t : List UInt8} {d : Int} {v : Rat} (h : RtS T f t d 0 v) (hft : f ≠ t) : (cdF' f = true ∧ cdF' t = true) ∧ (0 ≤ d ∧ d ≤ 3652058) ∧ ∃ q, Bst T f t d q ∧ (q.fr = f → v = fv q.rate) ∧ (q.fr ≠ f → v = (fv q.rate)⁻¹) := by
  by_cases h1 : cdF' f = true ∧ cdF' t = true
  · by_cases h2 : 0 ≤ d ∧ d ≤ 3652058
    · rcases h.two h1 h2 hft with ⟨q, q1, q2, q3, q4⟩ | ⟨q1, q2, q3⟩
      · exact ⟨h1, h2, q, q1, q3, q4⟩
      · cases q2
    · exact absurd (h.date h1 h2).1 (by decide)
  · exact absurd (h.cur h1).1 (by decide)
/-- There and back. -/
theorem turn_all {T : List Qe} (hT : Tok T) {f t : List UInt8} {d n : Int} {v v' : Rat} {lw : List Qe} (h : RtS T f t d 0 v) (g : RtS T t f d 0 v') (hft : f ≠ t) (hw : Nw f t d T n lw) :
    0 ≤ n ∧ n ≤ d ∧ 0 < v.num ∧ 0 < v'.num ∧ Short (v * v') ∧ (∀ E v3, RtS T f t n E v3 → E = 0 ∧ v3 = v) ∧ (lw.length = 2 ∨ v * v' = 1) := by
  obtain ⟨h1, h2, q, q1, q3, q4⟩ := h.at hft
  obtain ⟨-, -, p, p1, p3, p4⟩ := g.at (fun e => hft e.symm)
  have h0 : ∀ x ∈ T, 0 ≤ x.day := fun x hx => (hT.ok x hx).2.2.2.1
  obtain ⟨e1, -⟩ := hw.day h0 q1
  have oq := (hT.ok q q1.mem).2.2.2.2.2
  have op := (hT.ok p p1.mem).2.2.2.2.2
  have hqd := h0 q q1.mem
  have hqd2 := q1.day
  have key : ∀ {r : Nat} (o : Rok r), Sz 33 (fv r) ∧ Sz 33 (fv r)⁻¹ ∧ 0 < (fv r).num ∧ 0 < ((fv r)⁻¹).num ∧ fv r ≠ 0 := fun o => ⟨sz_fv (rok_fin o).1 (rok_fin o).2, (sz_fv (rok_fin o).1 (rok_fin o).2).inv, fv_pos o, inv_pos (fv_pos o), fv_ne o⟩
  have kq := key oq
  have kp := key op
  have sv1 : Sz 33 v ∧ 0 < v.num := by
    by_cases e : q.fr = f
    · rw [q3 e]; exact ⟨kq.1, kq.2.2.1⟩
    · rw [q4 e]; exact ⟨kq.2.1, kq.2.2.2.1⟩
  have sv2 : Sz 33 v' ∧ 0 < v'.num := by
    by_cases e : p.fr = t
    · rw [p3 e]; exact ⟨kp.1, kp.2.2.1⟩
    · rw [p4 e]; exact ⟨kp.2.1, kp.2.2.2.1⟩
  refine ⟨by omega, by omega, sv1.2, sv2.2, (sv1.1.mul sv2.1).short (by omega), fun E v3 hr => ?_, ?_⟩
  · have hb := q1.then (e := n) (by omega) (by omega)
    rcases hr.two h1 ⟨by omega, by omega⟩ hft with ⟨x, x1, x2, x3, x4⟩ | ⟨x1, -, -⟩
    · have := Bst.unique (uq_tok hT).1 hft x1 hb
      subst this
      refine ⟨x2, ?_⟩
      by_cases e : x.fr = f
      · rw [x3 e, q3 e]
      · rw [x4 e, q4 e]
    · exact absurd x1 hb.there
  · rcases hw.ways (uq_tok hT).1 (uq_tok hT).2 hft h0 q1 p1 with e | e
    · exact Or.inl e
    · subst e
      right
      rcases q1.on with ⟨a, b⟩ | ⟨a, b⟩
      · have hne : q.fr ≠ t := fun e => hft (a.symm.trans e)
        rw [q3 a, p4 hne, Rat.mul_inv_cancel _ kq.2.2.2.2]
      · have hne : q.fr ≠ f := fun e => hft (e.symm.trans a)
        rw [q4 hne, p3 a, Rat.inv_mul_cancel _ kq.2.2.2.2]
end Go.Proofs.YtmhfoeooccppfaaGreat
namespace Go.Proofs.YtmhfoeooccppfaaGreat
set_option linter.unusedVariables false

/-- The table that quotes make. -/
noncomputable def tabL (T : List Qe) : List Qe → List Qe
  | [] => T
  | q :: r => tabL (if ckE q = 0 then tput q T else T) r
theorem tabL_app (T l r : List Qe) : tabL T (l ++ r) = tabL (tabL T l) r := by
  induction l generalizing T with
  | nil => rfl
  | cons q l ih => exact ih _
theorem Puts.tab {l : List Qe} {es : List Int} {T : List Qe} (h : Puts [] l es T) (hl : l.length ≤ 4096) : T = tabL [] l ∧ es = l.map ckE := by
  induction h with
  | nil => exact ⟨rfl, rfl⟩
  | @snoc l es T1 T2 q e h g ih =>
    rw [List.length_append] at hl
    simp at hl
    obtain ⟨i1, i2⟩ := ih (by omega)
    have hlen := h.len Tok.nil
    simp at hlen
    rw [tabL_app, ← i1, i2, List.map_append]
    cases g with
    | bad h0 => simp [tabL, h0]
    | full h0 hn hl => omega
    | set h0 hh => simp [tabL, h0]
    | more h0 hn hl => simp [tabL, h0]
theorem tabL_srt : ∀ (l : List Qe) {T : List Qe}, Srt T → Srt (tabL T l)
  | [], T, h => h
  | q :: r, T, h => by
    unfold tabL
    split
    · exact tabL_srt r (tput_spec q h).1
    · exact tabL_srt r h
open Classical in
/-- The last of each key, of those that may be: the last one first. -/
noncomputable def LO : List Qe → List Qe
  | [] => []
  | q :: r => if ckE q = 0 ∧ ∀ p ∈ r, ckE p = 0 → ¬ Qt.Same p q then LO r ++ [q] else LO r
theorem LO_yes {q : Qe} {r : List Qe} (h : ckE q = 0 ∧ ∀ p ∈ r, ckE p = 0 → ¬ Qt.Same p q) : LO (q :: r) = LO r ++ [q] := by
  conv => lhs; unfold LO
  rw [if_pos h]
theorem LO_no {q : Qe} {r : List Qe} (h : ¬ (ckE q = 0 ∧ ∀ p ∈ r, ckE p = 0 → ¬ Qt.Same p q)) : LO (q :: r) = LO r := by
  conv => lhs; unfold LO
  rw [if_neg h]
theorem LO_ok : ∀ (l : List Qe) {p : Qe}, p ∈ LO l → ckE p = 0 ∧ p ∈ l
  | [], p, h => by unfold LO at h; simp at h
  | q :: r, p, h => by
    by_cases hc : ckE q = 0 ∧ ∀ p ∈ r, ckE p = 0 → ¬ Qt.Same p q
    · rw [LO_yes hc] at h
      rcases List.mem_append.1 h with h | h
      · have := LO_ok r h
        exact ⟨this.1, List.mem_cons_of_mem _ this.2⟩
      · rw [List.mem_singleton.1 h]
        exact ⟨hc.1, by simp⟩
    · rw [LO_no hc] at h
      have := LO_ok r h
      exact ⟨this.1, List.mem_cons_of_mem _ this.2⟩
theorem LO_len : ∀ l : List Qe, (LO l).length ≤ l.length
  | [] => by unfold LO; simp
  | q :: r => by
    have := LO_len r
    by_cases hc : ckE q = 0 ∧ ∀ p ∈ r, ckE p = 0 → ¬ Qt.Same p q
    · rw [LO_yes hc]; simp; omega
    · rw [LO_no hc]; simp; omega
theorem LO_dist : ∀ l : List Qe, (LO l).Pairwise (fun a b => ¬ Qt.Same a b)
  | [] => by unfold LO; exact List.Pairwise.nil
  | q :: r => by
    by_cases hc : ckE q = 0 ∧ ∀ p ∈ r, ckE p = 0 → ¬ Qt.Same p q
    · rw [LO_yes hc]
      refine List.pairwise_append.2 ⟨LO_dist r, List.pairwise_singleton _ _, fun a ha b hb => ?_⟩
      rw [List.mem_singleton.1 hb]
      have := LO_ok r ha
      exact hc.2 a this.2 this.1
    · rw [LO_no hc]; exact LO_dist r
theorem LO_self : ∀ {l : List Qe}, l.Pairwise (fun a b => ¬ Qt.Same a b) → (∀ p ∈ l, ckE p = 0) → ∀ p, p ∈ LO l ↔ p ∈ l
  | [], _, _, p => by unfold LO; simp
  | q :: r, h, hk, p => by
    obtain ⟨h1, h2⟩ := List.pairwise_cons.1 h
    rw [LO_yes ⟨hk q (by simp), fun p hp _ hs => h1 p hp hs.symm⟩, List.mem_append, LO_self h2 (fun p hp => hk p (List.mem_cons_of_mem _ hp)) p]
    simp [or_comm]
theorem tabL_mem : ∀ (l : List Qe) {T : List Qe}, Srt T → ∀ p, p ∈ tabL T l ↔ p ∈ LO l ∨ (p ∈ T ∧ ∀ q ∈ l, ckE q = 0 → ¬ Qt.Same p q)
  | [], T, h, p => by unfold LO tabL; simp
  | q :: r, T, h, p => by
    unfold tabL
    by_cases h0 : ckE q = 0
    · rw [if_pos h0, tabL_mem r (tput_spec q h).1 p, (tput_spec q h).2.1 p]
      by_cases hc : ∀ p ∈ r, ckE p = 0 → ¬ Qt.Same p q
      · rw [LO_yes ⟨h0, hc⟩, List.mem_append, List.mem_singleton]
        constructor
        · rintro (h' | ⟨rfl | ⟨h1, h2⟩, h3⟩)
          · exact Or.inl (Or.inl h')
          · exact Or.inl (Or.inr rfl)
          · refine Or.inr ⟨h1, fun x hx hk => ?_⟩
            rcases List.mem_cons.1 hx with rfl | hx
            · exact h2
            · exact h3 x hx hk
        · rintro ((h' | rfl) | ⟨h1, h2⟩)
          · exact Or.inl h'
          · exact Or.inr ⟨Or.inl rfl, fun x hx hk hs => hc x hx hk hs.symm⟩
          · exact Or.inr ⟨Or.inr ⟨h1, h2 q (by simp) h0⟩, fun x hx => h2 x (List.mem_cons_of_mem _ hx)⟩
      · rw [LO_no (fun e => hc e.2)]
        have hex : ∃ x ∈ r, ckE x = 0 ∧ Qt.Same x q := by
          apply Classical.byContradiction
          intro hn
          exact hc (fun x hx hk hs => hn ⟨x, hx, hk, hs⟩)
        obtain ⟨x, hx, hk, hs⟩ := hex
        constructor
        · rintro (h' | ⟨rfl | ⟨h1, h2⟩, h3⟩)
          · exact Or.inl h'
          · exact absurd hs.symm (h3 x hx hk)
          · refine Or.inr ⟨h1, fun y hy hky => ?_⟩
            rcases List.mem_cons.1 hy with rfl | hy
            · exact h2
            · exact h3 y hy hky
        · rintro (h' | ⟨h1, h2⟩)
          · exact Or.inl h'
          · exact Or.inr ⟨Or.inr ⟨h1, h2 q (by simp) h0⟩, fun y hy => h2 y (List.mem_cons_of_mem _ hy)⟩
    · rw [if_neg h0, tabL_mem r h p, LO_no (fun e => h0 e.1)]
      constructor
      · rintro (h' | ⟨h1, h2⟩)
        · exact Or.inl h'
        · refine Or.inr ⟨h1, fun y hy hky => ?_⟩
          rcases List.mem_cons.1 hy with rfl | hy
          · exact absurd hky h0
          · exact h2 y hy hky
      · rintro (h' | ⟨h1, h2⟩)
        · exact Or.inl h'
        · exact Or.inr ⟨h1, fun y hy => h2 y (List.mem_cons_of_mem _ hy)⟩
theorem tab_mem (l : List Qe) (p : Qe) : p ∈ tabL [] l ↔ p ∈ LO l := by
  rw [tabL_mem l List.Pairwise.nil p]; simp
/-- The last quotes of each key make the same table. -/
theorem tab_last (l : List Qe) : tabL [] (LO l) = tabL [] l :=
  quotes_unique sl_ordr (tabL_srt _ List.Pairwise.nil) (tabL_srt _ List.Pairwise.nil) (fun p => by
    rw [tab_mem, tab_mem, LO_self (LO_dist l) (fun p hp => (LO_ok l hp).1) p])
/-- What a table tells makes the same table. -/
theorem tab_back {T : List Qe} (hT : Tok T) (hk : ∀ p ∈ T, ckE p = 0) : tabL [] T = T :=
  quotes_unique sl_ordr (tabL_srt _ List.Pairwise.nil) hT.srt (fun p => by
    rw [tab_mem, LO_self (hT.srt.imp (fun h => Qlt.not_same sl_ordr h)) hk p])
theorem tab_ok (l : List Qe) : ∀ p ∈ tabL [] l, ckE p = 0 := fun p hp => (LO_ok l ((tab_mem l p).1 hp)).1
theorem has_tab : ∀ (l : List Qe) {T : List Qe}, Srt T → ∀ q, Has (tabL T l) q ↔ Has T q ∨ ∃ p ∈ l, ckE p = 0 ∧ Qt.Same p q
  | [], T, h, q => by simp [tabL]
  | x :: r, T, h, q => by
    unfold tabL
    by_cases h0 : ckE x = 0
    · rw [if_pos h0, has_tab r (tput_spec x h).1 q]
      have key : Has (tput x T) q ↔ Has T q ∨ Qt.Same x q := by
        constructor
        · rintro ⟨p, hp, hs⟩
          rcases ((tput_spec x h).2.1 p).1 hp with rfl | ⟨hp, -⟩
          · exact Or.inr hs
          · exact Or.inl ⟨p, hp, hs⟩
        · rintro (⟨p, hp, hs⟩ | hs)
          · by_cases hpx : Qt.Same p x
            · exact ⟨x, ((tput_spec x h).2.1 x).2 (Or.inl rfl), hpx.symm.trans hs⟩
            · exact ⟨p, ((tput_spec x h).2.1 p).2 (Or.inr ⟨hp, hpx⟩), hs⟩
          · exact ⟨x, ((tput_spec x h).2.1 x).2 (Or.inl rfl), hs⟩
      rw [key]
      constructor
      · rintro ((h' | h') | ⟨p, hp, h'⟩)
        · exact Or.inl h'
        · exact Or.inr ⟨x, by simp, h0, h'⟩
        · exact Or.inr ⟨p, List.mem_cons_of_mem _ hp, h'⟩
      · rintro (h' | ⟨p, hp, h1, h2⟩)
        · exact Or.inl (Or.inl h')
        · rcases List.mem_cons.1 hp with rfl | hp
          · exact Or.inl (Or.inr h2)
          · exact Or.inr ⟨p, hp, h1, h2⟩
    · rw [if_neg h0, has_tab r h q]
      constructor
      · rintro (h' | ⟨p, hp, h'⟩)
        · exact Or.inl h'
        · exact Or.inr ⟨p, List.mem_cons_of_mem _ hp, h'⟩
      · rintro (h' | ⟨p, hp, h1, h2⟩)
        · exact Or.inl h'
        · rcases List.mem_cons.1 hp with rfl | hp
          · exact absurd h1 h0
          · exact Or.inr ⟨p, hp, h1, h2⟩
/-- What stands between two rounds of the probe: behind the quotes s, from the last one. -/
structure Prb (s : List Qe) (es : List Int) (P Ls : List Qe) : Prop where
  puts : Puts [] s.reverse es P
  last : Ls = LO s
theorem Prb.nil : Prb [] [] [] [] := ⟨.nil, by unfold LO; rfl⟩
theorem Prb.tok {s : List Qe} {es : List Int} {P Ls : List Qe} (h : Prb s es P Ls) : Tok P := h.puts.tok Tok.nil
theorem Prb.len {s : List Qe} {es : List Int} {P Ls : List Qe} (h : Prb s es P Ls) : P.length ≤ s.length := by
  have := h.puts.len Tok.nil
  simpa using this
/-- One round: a quote that answers OK and makes the table longer is kept, another is not. -/
theorem Prb.step {s : List Qe} {es : List Int} {P Ls : List Qe} (h : Prb s es P Ls) (hs : s.length < 4096) {q : Qe} {E : Int} {P' : List Qe} (g : PuR P q E P') :
    Prb (q :: s) (es ++ [E]) P' (if E = 0 ∧ P.length < P'.length then Ls ++ [q] else Ls) := by
  have hp : Puts [] (q :: s).reverse (es ++ [E]) P' := by rw [List.reverse_cons]; exact .snoc h.puts g
  refine ⟨hp, ?_⟩
  have hlen := h.len
  have htab := (h.puts.tab (by simp; omega)).1
  have hhas : Has P q ↔ ∃ p ∈ s, ckE p = 0 ∧ Qt.Same p q := by
    rw [htab, has_tab _ List.Pairwise.nil q]
    simp [Has]
  have hsp := tput_spec q h.tok.srt
  cases g with
  | bad h0 => rw [if_neg (fun e => h0 e.1), LO_no (fun e => h0 e.1)]; exact h.last
  | full h0 hn hl => omega
  | set h0 hh =>
    obtain ⟨p, hp1, hp2, hp3⟩ := hhas.1 hh
    rw [if_neg (fun e => by have := hsp.2.2.1 hh; omega), LO_no (fun e => e.2 p hp1 hp2 hp3)]
    exact h.last
  | more h0 hn hl =>
    have := hsp.2.2.2 (fun p hp hs => hn ⟨p, hp, hs⟩)
    rw [if_pos ⟨rfl, by omega⟩, LO_yes ⟨h0, fun p hp hk hs => hn (hhas.2 ⟨p, hp, hk, hs⟩)⟩, h.last]
end Go.Proofs.YtmhfoeooccppfaaGreat
namespace Go.Proofs.YtmhfoeooccppfaaGreat
open Go.RowKit Go.Shelf
set_option linter.unusedVariables false
set_option maxRecDepth 20000

theorem cellB {w w' : World} (hb : Below w.heap.size w w') {b : Nat} {i : Nat} {v : Value} (h : w.cell? ⟨b, i, none⟩ = some v) : w'.cell? ⟨b, i, none⟩ = some v := by
  have hl := cell_lt h
  simp only [World.cell?, hb.block b hl] at h ⊢
  exact h
theorem sameFl (x : Nat) (h : Rok x) (w : World) : Calls Tryz.prog 81 #[.float .f64 x, .float .f64 x] w fun e w' => e = .returned (.bool true) ∧ w' = w := by
  have hx := rok_fin h
  have he : (FloatKind.f64.format.order x x == some .eq) = true := by rw [float_eq ⟨by omega, hx.1⟩ ⟨by omega, hx.1⟩]; simp
  clear h hx
  go_enter Tryz.func81, Tryz.ntmps81
  go_wp2_with fail
  go_ret
  exact ⟨by simp, rfl⟩
theorem sameQ (f t : List UInt8) (d : Int) (x : Nat) (h : Rok x) (w : World) : Calls Tryz.prog 45 #[.agg #[sv f, sv t, .int .i64 d, .float .f64 x], .agg #[sv f, sv t, .int .i64 d, .float .f64 x]] w fun e w' => e = .returned (.bool true) ∧ Below w.heap.size w w' := by
  have hs := sameFl x h
  clear h
  go_enter Tryz.func45, Tryz.ntmps45
  go_wp2_with (go_at_call 81; refine (hs _).mono ?_; rintro e w' ⟨rfl, rfl⟩)
  go_ret
  exact ⟨by simp, ((Below.refl _ _).alloc (Nat.le_refl _) _).alloc (by simp) _⟩
set_option maxHeartbeats 4000000 in
theorem sameQs (T : List Qe) (hT : ∀ q ∈ T, Rok q.rate) (n : Nat) (hn : T.length = n) (hl : n ≤ 1000000000000) (a1 : Option Addr) (c1 : Nat) (a2 : Option Addr) (c2 : Nat) (w : World) (h1 : Le elO w a1 n T) (h2 : Le elO w a2 n T) :
    Calls Tryz.prog 16 #[.slice a1 n c1, .slice a2 n c2] w fun e w' => e = .returned (.bool true) ∧ Below w.heap.size w w' := by
  have H1 : Hid (Le elO w a1 n T) := h1
  have H2 : Hid (Le elO w a2 n T) := h2
  have HN : Hid (T.length = n) := hn
  have HT : Hid (∀ q ∈ T, Rok q.rate) := hT
  clear h1 h2 hn hT
  go_enter Tryz.func16, Tryz.ntmps16
  go_wp2_with fail
  go_loopw [5] (fun j wr => ∃ i : Nat, j = .int .i64 i ∧ i ≤ n ∧ Hid (Below w.heap.size w wr)) (fun j _ => (n - (intOf j).toNat : Nat))
  case atStart => exact ⟨0, rfl, Nat.zero_le _, Below.refl _ _⟩
  case round =>
    obtain ⟨i, rfl, hi, HB⟩ := hrel
    rcases Nat.lt_or_ge i n with hlt | hge
    · have hii : (i : Int) < n := by omega
      obtain ⟨b1, o1, rfl⟩ := H1.out.ex (by omega)
      obtain ⟨b2, o2, rfl⟩ := H2.out.ex (by omega)
      have hL1 : Le elO wr (some ⟨b1, o1, none⟩) n T := H1.out.after HB.out
      have hL2 : Le elO wr (some ⟨b2, o2, none⟩) n T := H2.out.after HB.out
      have hqk := getO T i (by rw [HN.out]; exact hlt)
      have hq := HT.out _ (List.mem_of_getElem? hqk)
      have k0 : wr.cell? ⟨b1, o1 + i * 4, none⟩ = some (sv (T.getD i ⟨[], [], 0, 0⟩).fr) := by have := hL1.at i hlt 0 _ rfl; simpa [elO, Nat.add_assoc] using this
      have k1 : wr.cell? ⟨b1, o1 + i * 4 + 1, none⟩ = some (sv (T.getD i ⟨[], [], 0, 0⟩).to) := by have := hL1.at i hlt 1 _ rfl; simpa [elO, Nat.add_assoc] using this
      have k2 : wr.cell? ⟨b1, o1 + i * 4 + 2, none⟩ = some (.int .i64 (T.getD i ⟨[], [], 0, 0⟩).day) := by have := hL1.at i hlt 2 _ rfl; simpa [elO, Nat.add_assoc] using this
      have k3 : wr.cell? ⟨b1, o1 + i * 4 + 3, none⟩ = some (.float .f64 (T.getD i ⟨[], [], 0, 0⟩).rate) := by have := hL1.at i hlt 3 _ rfl; simpa [elO, Nat.add_assoc] using this
      have g0 : wr.cell? ⟨b2, o2 + i * 4, none⟩ = some (sv (T.getD i ⟨[], [], 0, 0⟩).fr) := by have := hL2.at i hlt 0 _ rfl; simpa [elO, Nat.add_assoc] using this
      have g1 : wr.cell? ⟨b2, o2 + i * 4 + 1, none⟩ = some (sv (T.getD i ⟨[], [], 0, 0⟩).to) := by have := hL2.at i hlt 1 _ rfl; simpa [elO, Nat.add_assoc] using this
      have g2 : wr.cell? ⟨b2, o2 + i * 4 + 2, none⟩ = some (.int .i64 (T.getD i ⟨[], [], 0, 0⟩).day) := by have := hL2.at i hlt 2 _ rfl; simpa [elO, Nat.add_assoc] using this
      have g3 : wr.cell? ⟨b2, o2 + i * 4 + 3, none⟩ = some (.float .f64 (T.getD i ⟨[], [], 0, 0⟩).rate) := by have := hL2.at i hlt 3 _ rfl; simpa [elO, Nat.add_assoc] using this
      generalize T.getD i ⟨[], [], 0, 0⟩ = q at *
      obtain ⟨f, t, d, x⟩ := q
      simp only at k0 k1 k2 k3 g0 g1 g2 g3 hq
      have HQ : Hid (Rok x) := hq
      clear hqk hL1 hL2 hq
      have hBd : wr.drew.heap.size = wr.heap.size := (congrArg Array.size (rfl : wr.drew.heap = wr.heap))
      have B0 : Below w.heap.size w wr := HB.out
      clear HB
      go_upto_region 6 with fail
      refine wp_region_noPanic ?_
      replace B0 := Below.drew B0
      refine wp_region_held_drew (S := (fun W => (W.cell? ⟨b1, o1 + i * 4, none⟩ = some (sv f) ∧ W.cell? ⟨b1, o1 + i * 4 + 1, none⟩ = some (sv t) ∧ W.cell? ⟨b1, o1 + i * 4 + 2, none⟩ = some (.int .i64 d) ∧ W.cell? ⟨b1, o1 + i * 4 + 3, none⟩ = some (.float .f64 x)) ∧ (W.cell? ⟨b2, o2 + i * 4, none⟩ = some (sv f) ∧ W.cell? ⟨b2, o2 + i * 4 + 1, none⟩ = some (sv t) ∧ W.cell? ⟨b2, o2 + i * 4 + 2, none⟩ = some (.int .i64 d) ∧ W.cell? ⟨b2, o2 + i * 4 + 3, none⟩ = some (.float .f64 x)))) (by kernel_rfl) ⟨⟨k0, k1, k2, k3⟩, ⟨g0, g1, g2, g3⟩⟩ (fun hHeld => ?_)
      obtain ⟨x1, hxd⟩ : ∃ xd, xd = wr.drew := ⟨_, rfl⟩
      rw [← hxd] at  B0 hHeld ⊢
      replace k0 : x1.cell? ⟨b1, o1 + i * 4, none⟩ = some (sv f) := by rw [hxd]; exact k0
      replace k1 : x1.cell? ⟨b1, o1 + i * 4 + 1, none⟩ = some (sv t) := by rw [hxd]; exact k1
      replace k2 : x1.cell? ⟨b1, o1 + i * 4 + 2, none⟩ = some (.int .i64 d) := by rw [hxd]; exact k2
      replace k3 : x1.cell? ⟨b1, o1 + i * 4 + 3, none⟩ = some (.float .f64 x) := by rw [hxd]; exact k3
      replace g0 : x1.cell? ⟨b2, o2 + i * 4, none⟩ = some (sv f) := by rw [hxd]; exact g0
      replace g1 : x1.cell? ⟨b2, o2 + i * 4 + 1, none⟩ = some (sv t) := by rw [hxd]; exact g1
      replace g2 : x1.cell? ⟨b2, o2 + i * 4 + 2, none⟩ = some (.int .i64 d) := by rw [hxd]; exact g2
      replace g3 : x1.cell? ⟨b2, o2 + i * 4 + 3, none⟩ = some (.float .f64 x) := by rw [hxd]; exact g3
      clear hxd
      refine wpAnyH_take (i := 0) (v := ?_) rfl (by kernel_rfl) (by kernel_rfl) (by kernel_rfl) (fun _ _ _ h => h) (Or.inl ⟨by rfl, ?_⟩) hHeld ?_
      rotate_left
      · (intro W hSw; (try dsimp only at hSw); go_simp; all_goals (with_reducible rfl))
      simp only [List.getElem_toArray, List.getElem_cons_zero, Act.put, List.setIfInBounds_toArray, List.set_cons_zero, List.set_cons_succ]
      refine wpAnyH_take (i := 1) (v := ?_) rfl (by kernel_rfl) (by kernel_rfl) (by kernel_rfl) (fun _ _ _ h => h) (Or.inl ⟨by rfl, ?_⟩) hHeld ?_
      rotate_left
      · (intro W hSw; (try dsimp only at hSw); go_simp; all_goals (with_reducible rfl))
      simp only [List.getElem_toArray, List.getElem_cons_zero, List.getElem_cons_succ, Act.put, List.setIfInBounds_toArray, List.set_cons_zero, List.set_cons_succ]
      refine wpAnyH_take (i := 2) (v := ?_) rfl (by kernel_rfl) (by kernel_rfl) (by kernel_rfl) (fun _ _ _ h => h) (Or.inl ⟨by rfl, ?_⟩) hHeld ?_
      rotate_left
      · (intro W hSw; (try dsimp only at hSw); go_simp; all_goals (with_reducible rfl))
      simp only [List.getElem_toArray, List.getElem_cons_zero, List.getElem_cons_succ, Act.put, List.setIfInBounds_toArray, List.set_cons_zero, List.set_cons_succ]
      refine wpAnyH_take (i := 3) (v := ?_) rfl (by kernel_rfl) (by kernel_rfl) (by kernel_rfl) (fun _ _ _ h => h) (Or.inl ⟨by rfl, ?_⟩) hHeld ?_
      rotate_left
      · (intro W hSw; (try dsimp only at hSw); go_simp; all_goals (with_reducible rfl))
      simp only [List.getElem_toArray, List.getElem_cons_zero, List.getElem_cons_succ, Act.put, List.setIfInBounds_toArray, List.set_cons_zero, List.set_cons_succ]
      refine wpAnyH_take (i := 4) (v := ?_) rfl (by kernel_rfl) (by kernel_rfl) (by kernel_rfl) (fun _ _ _ h => h) (Or.inl ⟨by rfl, ?_⟩) hHeld ?_
      rotate_left
      · (intro W hSw; (try dsimp only at hSw); go_simp; all_goals (with_reducible rfl))
      simp only [List.getElem_toArray, List.getElem_cons_zero, List.getElem_cons_succ, Act.put, List.setIfInBounds_toArray, List.set_cons_zero, List.set_cons_succ]
      refine wpAnyH_take (i := 5) (v := ?_) rfl (by kernel_rfl) (by kernel_rfl) (by kernel_rfl) (fun _ _ _ h => h) (Or.inl ⟨by rfl, ?_⟩) hHeld ?_
      rotate_left
      · (intro W hSw; (try dsimp only at hSw); go_simp; all_goals (with_reducible rfl))
      simp only [List.getElem_toArray, List.getElem_cons_zero, List.getElem_cons_succ, Act.put, List.setIfInBounds_toArray, List.set_cons_zero, List.set_cons_succ]
      refine wpAnyH_take (i := 6) (v := ?_) rfl (by kernel_rfl) (by kernel_rfl) (by kernel_rfl) (fun _ _ _ h => h) (Or.inl ⟨by rfl, ?_⟩) hHeld ?_
      rotate_left
      · (intro W hSw; (try dsimp only at hSw); go_simp; all_goals (with_reducible rfl))
      simp only [List.getElem_toArray, List.getElem_cons_zero, List.getElem_cons_succ, Act.put, List.setIfInBounds_toArray, List.set_cons_zero, List.set_cons_succ]
      refine wpAnyH_take (i := 7) (v := ?_) rfl (by kernel_rfl) (by kernel_rfl) (by kernel_rfl) (fun _ _ _ h => h) (Or.inl ⟨by rfl, ?_⟩) hHeld ?_
      rotate_left
      · (intro W hSw; (try dsimp only at hSw); go_simp; all_goals (with_reducible rfl))
      simp only [List.getElem_toArray, List.getElem_cons_zero, List.getElem_cons_succ, Act.put, List.setIfInBounds_toArray, List.set_cons_zero, List.set_cons_succ]
      refine wpAnyH_ready (rs := [8]) (by kernel_rfl) (by simp) ?_
      refine AllReadyH.cons rfl (fun K hK => ?_) AllReadyH.nil
      simp only [List.getElem_toArray, List.getElem_cons_zero, List.getElem_cons_succ]
      go_simp
      refine (sameQ f t d x HQ.out _).mono ?_
      rintro e x2 ⟨rfl, hb⟩
      replace B0 := step B0 hb
      replace k0 := cellB hb k0
      replace k1 := cellB hb k1
      replace k2 := cellB hb k2
      replace k3 := cellB hb k3
      replace g0 := cellB hb g0
      replace g1 := cellB hb g1
      replace g2 := cellB hb g2
      replace g3 := cellB hb g3
      clear hb
      try go_wp2_with fail
      refine hK.out _ _ ⟨⟨k0, k1, k2, k3⟩, ⟨g0, g1, g2, g3⟩⟩ (fun hHeld => ?_)
      clear hK K
      refine wpAnyH_take (i := 9) (v := ?_) rfl (by kernel_rfl) (by kernel_rfl) (by kernel_rfl) (fun _ _ _ h => h) (Or.inl ⟨by rfl, ?_⟩) hHeld ?_
      rotate_left
      · (intro W hSw; (try dsimp only at hSw); go_simp; all_goals (with_reducible rfl))
      simp only [List.getElem_toArray, List.getElem_cons_zero, List.getElem_cons_succ, Act.put, List.setIfInBounds_toArray, List.set_cons_zero, List.set_cons_succ]
      refine wpAnyH_done (by kernel_rfl) ?_ _
      refine NoPanic.normal ?_
      clear hHeld
      have HB2 : Hid (Below w.heap.size w x2) := B0
      clear k0 k1 k2 k3 g0 g1 g2 g3 B0
      go_wp2_with fail
      go_roundw
      case rel => exact ⟨i + 1, rfl, by omega, HB2.out⟩
      case measure => simp [intOf]; omega
    · obtain rfl : i = n := by omega
      clear hge hi
      go_wp2_with fail
      go_ret
      exact ⟨rfl, HB.out⟩
set_option maxHeartbeats 4000000 in
theorem xsame_any (f t : List UInt8) (d : Int) (T : List Qe) (hT : Tok T) (S1 S2 : Nat → Prop) (b1 b2 : Nat) (w : World) (h1 : TbR w S1 b1 T) (h2 : TbR w S2 b2 T) :
    Calls Tryz.prog 24 #[.pointer (some ⟨b1, 0, none⟩), .pointer (some ⟨b2, 0, none⟩), sv f, sv t, .int .i64 d] w fun e w' => e = .returned (.bool true) ∧ Below w.heap.size w w' := by
  have B0 : Below w.heap.size w w := Below.refl _ _
  go_enter Tryz.func24, Tryz.ntmps24
  go_wp2_with fail
  refine (rate_any f t d S1 b1 T w h1 hT).mono ?_
  rintro e w5 ⟨E1, v1, sx, ax, lx, cx, zx, bx, mx, dx, yx, rfl, hrx, hR1, hb⟩
  replace h2 := h2.after hb
  replace B0 := step B0 hb
  clear hb h1
  go_wp2_with fail
  refine ent1 w5 _ _ (Q := fun W => Calls Tryz.prog _ _ W _) ?_
  intro w6 hb hs V2
  replace h2 := TbR.after hb h2
  replace hrx := Rt.after hb hrx
  replace B0 := step B0 hb
  clear hb hs
  refine (rate_any f t d S2 b2 T w6 h2 hT).mono ?_
  rintro e w7 ⟨E2, v2, sy, ay, ly, cy, zy, by_, my, dy, yy, rfl, hry, hR2, hb⟩
  obtain ⟨rfl, rfl⟩ := hR1.spec.unique hT hR2.spec
  replace hrx := Rt.after hb hrx
  replace V2 := Va.after hb V2
  replace B0 := step B0 hb
  clear hb hR2 hR1 h2
  go_upto_region 3 with fail
  refine ent1 w7 _ _ (Q := fun W => Code.wp Tryz.prog _ _ _ W) ?_
  intro w8 hb hs V3
  replace hrx := Rt.after hb hrx
  replace hry := Rt.after hb hry
  replace V2 := Va.after hb V2
  replace B0 := step B0 hb
  clear hb hs
  have q1 := qcompare_any sx ax lx cx zx bx mx dx yx v1 sy ay ly cy zy by_ my dy yy v1 w8 hrx hry
  rw [qcmp_eq] at q1
  have c_V2 := V2.d0
  have d_V2 := V2.d1
  have e_V2 := V2.d2
  have c_V3 := V3.d0
  have d_V3 := V3.d1
  have e_V3 := V3.d2
  go_wp2_with fail
  refine q1.mono ?_
  rintro e w9 ⟨rfl, hb⟩
  replace B0 := step B0 hb
  clear c_V2 d_V2 e_V2 c_V3 d_V3 e_V3
  clear hb q1
  go_wp2_with fail
  go_ret
  exact ⟨rfl, B0⟩
end Go.Proofs.YtmhfoeooccppfaaGreat
namespace Go.Proofs.YtmhfoeooccppfaaGreat
open Go.RowKit Go.Shelf
set_option linter.unusedVariables false
set_option maxRecDepth 20000

theorem Le.take {w : World} {a : Option Addr} {n : Nat} {xs : List Qe} (h : Le elO w a n xs) (k : Nat) (hk : k ≤ n) : Le elO w a k (xs.take k) := by
  obtain ⟨h1, h2⟩ := h
  refine ⟨by rw [List.length_take]; omega, fun h0 => ?_⟩
  obtain ⟨b, off, e, hc⟩ := h2 (by omega)
  refine ⟨b, off, e, fun i u hu => hc i u ?_⟩
  have hlen : (rowE elO (xs.take k)).length = k * 4 := by rw [rowE_length, List.length_take, Nat.min_eq_left (by omega)]; rfl
  have hi : i < k * 4 := by
    rcases Nat.lt_or_ge i (rowE elO (xs.take k)).length with h' | h'
    · omega
    · rw [List.getElem?_eq_none h'] at hu; cases hu
  have g1 := rowE_get elO (i % 4) (Nat.mod_lt _ (by decide)) (xs.take k) (i / 4) (by rw [List.length_take]; omega)
  have g2 := rowE_get elO (i % 4) (Nat.mod_lt _ (by decide)) xs (i / 4) (by omega)
  rw [show i / 4 * elO.s + i % 4 = i by show i / 4 * 4 + i % 4 = i; omega] at g1 g2
  rw [g2, ← hu, g1]
  congr 2
  simp [List.getD_eq_getElem?_getD, show i / 4 < k by omega]
/-- A table in new memory, beside which a list grows. -/
structure Plg {α : Type} (E : El α) (w wr : World) (b : Nat) (T : List Qe) (v : Value) (es : List α) : Prop where
  ex : ∃ S, TbR wr S b T ∧ (∀ k, S k → w.heap.size ≤ k) ∧ ∀ g, v.ownBlock = some g → ¬ S g
  ge : Ge E wr w.heap.size v es
  bl : Below w.heap.size w wr
theorem Plg.put {α : Type} {E : El α} {w wr w' : World} {b : Nat} {T T' : List Qe} {v : Value} {es : List α} (h : Plg E w wr b T v es) {S S' : Nat → Prop} (h1 : TbR wr S b T) (h2 : ∀ k, S k → w.heap.size ≤ k) (h3 : ∀ g, v.ownBlock = some g → ¬ S g) (t : TbR w' S' b T') (c : Ch wr w' S S') : Plg E w w' b T' v es := by
  refine ⟨⟨S', t, c.from h.bl.size h2, fun g hg hs => ?_⟩, h.ge.kept (fun g hg => c.out g (h.ge.lt g hg) (h3 g hg)), h.bl.trans (c.below h.bl.size h2)⟩
  rcases c.sub g hs with h' | h'
  · exact h3 g hg h'
  · have := h.ge.lt g hg; omega
theorem Plg.after {α : Type} {E : El α} {w wr w' : World} {b : Nat} {T : List Qe} {v : Value} {es : List α} (hb : Below wr.heap.size wr w') (h : Plg E w wr b T v es) : Plg E w w' b T v es := by
  obtain ⟨S, h1, h2, h3⟩ := h.ex
  exact ⟨⟨S, h1.after hb, h2, h3⟩, h.ge.after hb, step h.bl hb⟩
theorem Plg.app {α : Type} {E : El α} {w wr w' : World} {b : Nat} {T : List Qe} {v v' : Value} {es es' : List α} (h : Plg E w wr b T v es) (g : Ge E w' w.heap.size v' es') (hg : wr.grownBy w' v.ownBlock) (hl : v'.ownBlock = v.ownBlock ∨ v'.ownBlock = some wr.heap.size) : Plg E w w' b T v' es' := by
  obtain ⟨S, ⟨m, n, D, h1⟩, h2, h3⟩ := h.ex
  refine ⟨⟨S, ⟨m, n, D, h1.kept hg.size (fun k hk => hg.block k (h1.lt k hk) (fun e => h3 k e.symm hk))⟩, h2, fun k hk hs => ?_⟩, g, h.bl.grown hg h.bl.size (fun k hk => h.ge.block k hk)⟩
  rcases hl with e | e
  · exact h3 k (by rw [← e]; exact hk) hs
  · rw [e] at hk; cases hk; exact absurd (h1.lt _ hs) (Nat.lt_irrefl _)
theorem ck_eur : cdF' [69, 85, 82] = true := by decide +kernel
set_option maxHeartbeats 32000000 in
theorem order_walk (a : Option Addr) (n c : Nat) (l : List Qe) (f t : List UInt8) (d : Int) (w : World) (hL : Le elO w a n l) (hR : ∀ q ∈ l, q.rate < 18446744073709551616) (hnc : n ≤ c) (hnn : c ≤ 9223372036854775807) :
    Calls Tryz.prog 6 #[.slice a n c, sv f, sv t, .int .i64 d] w fun e w' => e = .returned (.bool true) ∧ Below w.heap.size w w' := by
  rcases Nat.lt_or_ge 2000 n with hn | hn
  · have hgt : (2000 : Int) < (n : Int) := by omega
    have hcc : (2000 : Int) ≤ (c : Int) := by omega
    have hcc2 : 2000 ≤ c := by omega
    obtain ⟨b0, o0, rfl⟩ := hL.ex (by omega)
    go_enter Tryz.func6, Tryz.ntmps6
    go_upto_region 3 with fail
    clear hgt hcc hcc2
    obtain ⟨m, hm⟩ : ∃ m : Nat, 2000 = m := ⟨_, rfl⟩
    obtain ⟨l2, hl2⟩ : ∃ l2, l.take 2000 = l2 := ⟨_, rfl⟩
    have hlm : Le elO w (some ⟨b0, o0, none⟩) 2000 l2 := by rw [← hl2]; exact hL.take 2000 (by omega)
    have HR : Hid (∀ q ∈ l2, q.rate < 18446744073709551616) := fun q hq => hR q (by rw [← hl2] at hq; exact List.mem_of_mem_take hq)
    clear hR hL
    rw [hm] at hlm
    have hmm : m ≤ 2000 := by omega
    rw [hm]
    clear hm hl2
    have HL : Hid (Le elO w (some ⟨b0, o0, none⟩) m l2) := hlm
    have HLN : Hid (l2.length = m) := hlm.1
    clear hlm hn
    go_wp2_with fail
    refine (new_any w).mono ?_
    rintro e w1 ⟨b, S0, rfl, ht, hb, hs⟩
    have HP : Hid (Plg elO w w1 b [] (.slice none 0 0) []) := ⟨⟨S0, ht, hs, fun g hg => by cases hg⟩, Ge.nil _ _, hb⟩
    clear ht hb hs
    have hPR0 : Prb (l2.drop m) [] [] [] := by rw [List.drop_of_length_le (by rw [HLN.out]; exact Nat.le_refl _)]; exact .nil
    have HPR0 : Hid (Prb (l2.drop m) [] [] []) := hPR0
    clear hPR0
    go_wp2_with fail
    go_loopw [9, 11, 12] (fun v j x wr => ∃ (i : Int) (k : Nat) (P : List Qe) (es : List Int) (Ls : List Qe), j = .int .i64 i ∧ i = k - 1 ∧ k ≤ m ∧ Hid (Plg elO w wr b P v Ls) ∧ Hid (Prb (l2.drop k) es P Ls) ∧ Hid (Ls.length ≤ 60)) (fun _ j _ _ => ((intOf j) + 1).toNat)
    case atStart => exact ⟨_, m, [], [], [], rfl, rfl, Nat.le_refl _, HP.out, HPR0.out, by show _ ≤ _; simp⟩
    case round =>
      obtain ⟨i, k, P, es, Ls, rfl, hi, hkn, HQ, HU, HLL⟩ := hrel
      clear HP HPR0
      have hll : Ls.length ≤ 60 := HLL.out
      rcases Nat.eq_zero_or_pos k with h0 | h0
      · subst h0
        obtain rfl : i = -1 := by omega
        clear hi hkn
        obtain ⟨a9, c9, rfl, -, -, -⟩ := HQ.out.ge.shape
        have HLO : Hid (Ls = LO l2) := by have h := HU.out.last; rw [List.drop_zero] at h; exact h
        have B0 := HQ.out.bl
        have HLe9 : Hid (Le elO wr a9 Ls.length Ls) := HQ.out.ge.toLe
        have HR9 : Hid (∀ q ∈ Ls, q.rate < 18446744073709551616) := fun q hq => HR.out q (LO_ok l2 (by rw [← HLO.out]; exact hq)).2
        clear HQ HU HLL
        go_wp2_with fail
        refine (lput_any (some ⟨b0, o0, none⟩) m c l2 wr (HL.out.after B0) HR.out (by omega)).mono ?_
        rintro e w1 ⟨b1, T1, v1, es1, rfl, hp, hu⟩
        rw [List.take_of_length_le (by rw [HLN.out]; exact hmm)] at hu
        obtain ⟨S1, s1, -, -⟩ := hp.ex
        have HT1 : Hid (T1 = tabL [] l2) := (hu.tab (by rw [HLN.out]; omega)).1
        have HK1 : Hid (Tok T1) := hu.tok Tok.nil
        have htl : T1.length ≤ 2000 := by have h := hu.len Tok.nil; rw [HLN.out] at h; simp only [List.length_nil] at h; omega
        replace HLe9 : Hid (Le elO w1 a9 Ls.length Ls) := HLe9.out.after hp.bl
        replace B0 := step B0 hp.bl
        clear hp hu
        go_wp2_with fail
        refine (lput_any a9 Ls.length c9 Ls w1 HLe9.out HR9.out (by omega)).mono ?_
        rintro e w2 ⟨b2, T2, v2, es2, rfl, hp, hu⟩
        rw [List.take_of_length_le (by omega)] at hu
        obtain ⟨S2, s2, -, -⟩ := hp.ex
        obtain ⟨ht2, he2⟩ := hu.tab (by omega)
        obtain rfl : T2 = T1 := by rw [ht2, HT1.out, HLO.out, tab_last]
        have HES : Hid (∀ x ∈ es2, x = 0) := fun x hx => by
          rw [he2, HLO.out] at hx
          obtain ⟨p, hp, rfl⟩ := List.mem_map.1 hx
          exact (LO_ok l2 hp).1
        have hge := hp.ge
        obtain ⟨a2, c2, rfl, -, -, -⟩ := hge.shape
        have HE2 : Hid (Le elE w2 a2 es2.length es2) := hge.toLe
        have hel : es2.length ≤ 60 := by rw [hu.lens]; exact hll
        replace s1 := s1.after hp.bl
        replace B0 := step B0 hp.bl
        clear hp hu hge ht2 he2 HLe9 HR9
        go_wp2_with fail
        refine (quotes_any S1 b1 T2 w2 s1 HK1.out).mono ?_
        rintro e w3 ⟨vq, rfl, hg, hb⟩
        obtain ⟨aq, cq, rfl, -, -, -⟩ := hg.shape
        have HLQ : Hid (Le elO w3 aq T2.length T2) := hg.toLe
        replace s1 := s1.after hb
        replace s2 := s2.after hb
        replace HE2 : Hid (Le elE w3 a2 es2.length es2) := HE2.out.after hb
        replace B0 := step B0 hb
        clear hg hb
        have HRT : Hid (∀ q ∈ T2, Rok q.rate) := fun q hq => (HK1.out.ok q hq).2.2.2.2.2
        try go_wp2_with fail
        refine (lput_any aq T2.length cq T2 w3 HLQ.out (fun q hq => (rok_fin (HRT.out q hq)).1) (by omega)).mono ?_
        rintro e w4 ⟨b3, T3, v3, es3, rfl, hp, hu⟩
        rw [List.take_of_length_le htl] at hu
        obtain ⟨S3, s3, -, -⟩ := hp.ex
        obtain rfl : T3 = T2 := by rw [(hu.tab (by omega)).1]; exact tab_back HK1.out (by rw [HT1.out]; exact tab_ok l2)
        replace s1 := s1.after hp.bl
        replace s2 := s2.after hp.bl
        replace HE2 : Hid (Le elE w4 a2 es2.length es2) := HE2.out.after hp.bl
        replace B0 := step B0 hp.bl
        clear hp hu HLQ HT1 HLO
        have HS : Hid (TbR w4 S1 b1 T3 ∧ TbR w4 S2 b2 T3 ∧ TbR w4 S3 b3 T3) := ⟨s1, s2, s3⟩
        have HB : Hid (Below w.heap.size w w4) := B0
        clear s1 s2 s3 B0
        go_wp2_with fail
        go_loopw [19] (fun j wy => ∃ k : Nat, j = .int .i64 k ∧ k ≤ es2.length ∧ wy = w4) (fun j _ => (es2.length - (intOf j).toNat : Nat))
        case atStart => exact ⟨0, rfl, Nat.zero_le _, by simp⟩
        case round =>
          obtain ⟨k, rfl, hk, rfl⟩ := hrel
          rcases Nat.lt_or_ge k es2.length with hlt | hge
          · have hlti : (k : Int) < (es2.length : Int) := by omega
            obtain ⟨g, lo2, rfl⟩ := HE2.out.ex (by omega)
            have hz : es2.getD k 0 = 0 := HES.out _ (by rw [List.getD_eq_getElem?_getD, List.getElem?_eq_getElem hlt]; exact List.getElem_mem _)
            have c0 := HE2.out.at k hlt 0 _ rfl
            simp only [elE] at c0
            rw [hz] at c0
            simp only [Nat.mul_one, Nat.add_zero] at c0
            go_wp2_with fail
            go_roundw
            case measure => simp [intOf]; omega
            case rel => exact ⟨k + 1, rfl, by omega, by simp⟩
          · obtain rfl : k = es2.length := by omega
            clear hk hge HE2 HES
            have s1 := HS.out.1
            have s2 := HS.out.2.1
            have s3 := HS.out.2.2
            have B0 := HB.out
            clear HS HB
            go_wp2_with fail
            refine (rate_any [69, 85, 82] [69, 85, 82] 0 S1 b1 T3 _ s1 HK1.out).mono ?_
            rintro e w6 ⟨E1, v1, sx, ax, lx, cx, zx, bx, mx, dx, yx, rfl, hrx, hR1, hb⟩
            obtain ⟨rfl, rfl⟩ := hR1.spec.one ⟨ck_eur, ck_eur⟩ ⟨by decide, by decide⟩ rfl
            replace s1 := s1.after hb
            replace s2 := s2.after hb
            replace s3 := s3.after hb
            replace B0 := step B0 hb
            clear hb hrx hR1
            go_upto_region 24 with fail
            refine ent1 w6 _ _ (Q := fun W => Code.wp Tryz.prog _ _ _ W) ?_
            intro w7 hb hs V1
            replace s1 := TbR.after hb s1
            replace s2 := TbR.after hb s2
            replace s3 := TbR.after hb s3
            replace B0 := step B0 hb
            clear hb hs V1
            go_wp2_with fail
            refine (quotes_any S1 b1 T3 w7 s1 HK1.out).mono ?_
            rintro e w8 ⟨vq, rfl, hg, hb⟩
            obtain ⟨aq1, cq1, rfl, -, -, -⟩ := hg.shape
            have hq1 : Le elO w8 aq1 T3.length T3 := hg.toLe
            replace s1 := s1.after hb
            replace s2 := s2.after hb
            replace s3 := s3.after hb
            replace B0 := step B0 hb
            clear hg hb
            try go_wp2_with fail
            refine (quotes_any S2 b2 T3 w8 s2 HK1.out).mono ?_
            rintro e w9 ⟨vq, rfl, hg, hb⟩
            obtain ⟨aq2, cq2, rfl, -, -, -⟩ := hg.shape
            have hq2 : Le elO w9 aq2 T3.length T3 := hg.toLe
            replace hq1 := hq1.after hb
            replace s1 := s1.after hb
            replace s2 := s2.after hb
            replace s3 := s3.after hb
            replace B0 := step B0 hb
            clear hg hb
            try go_wp2_with fail
            refine (sameQs T3 HRT.out T3.length rfl (by omega) aq1 cq1 aq2 cq2 w9 hq1 hq2).mono ?_
            rintro e w10 ⟨rfl, hb⟩
            replace s1 := s1.after hb
            replace s2 := s2.after hb
            replace s3 := s3.after hb
            replace B0 := step B0 hb
            clear hb hq1 hq2
            try go_wp2_with fail
            refine (quotes_any S1 b1 T3 w10 s1 HK1.out).mono ?_
            rintro e w11 ⟨vq, rfl, hg, hb⟩
            obtain ⟨aq3, cq3, rfl, -, -, -⟩ := hg.shape
            have hq3 : Le elO w11 aq3 T3.length T3 := hg.toLe
            replace s1 := s1.after hb
            replace s2 := s2.after hb
            replace s3 := s3.after hb
            replace B0 := step B0 hb
            clear hg hb
            try go_wp2_with fail
            refine (quotes_any S3 b3 T3 w11 s3 HK1.out).mono ?_
            rintro e w12 ⟨vq, rfl, hg, hb⟩
            obtain ⟨aq4, cq4, rfl, -, -, -⟩ := hg.shape
            have hq4 : Le elO w12 aq4 T3.length T3 := hg.toLe
            replace hq3 := hq3.after hb
            replace s1 := s1.after hb
            replace s2 := s2.after hb
            replace s3 := s3.after hb
            replace B0 := step B0 hb
            clear hg hb
            try go_wp2_with fail
            refine (sameQs T3 HRT.out T3.length rfl (by omega) aq3 cq3 aq4 cq4 w12 hq3 hq4).mono ?_
            rintro e w13 ⟨rfl, hb⟩
            replace s1 := s1.after hb
            replace s2 := s2.after hb
            replace s3 := s3.after hb
            replace B0 := step B0 hb
            clear hb hq3 hq4
            try go_wp2_with fail
            refine (xsame_any f t d T3 HK1.out S1 S2 b1 b2 w13 s1 s2).mono ?_
            rintro e w14 ⟨rfl, hb⟩
            replace s1 := s1.after hb
            replace s2 := s2.after hb
            replace s3 := s3.after hb
            replace B0 := step B0 hb
            clear hb
            try go_wp2_with fail
            refine (xsame_any f t d T3 HK1.out S1 S3 b1 b3 w14 s1 s3).mono ?_
            rintro e w15 ⟨rfl, hb⟩
            replace s1 := s1.after hb
            replace s2 := s2.after hb
            replace s3 := s3.after hb
            replace B0 := step B0 hb
            clear hb
            try go_wp2_with fail
            go_ret
            exact ⟨rfl, B0⟩
      · obtain ⟨k, rfl⟩ : ∃ j, k = j + 1 := ⟨k - 1, by omega⟩
        obtain rfl : i = (k : Int) := by omega
        clear hi h0
        have hka : k < m := by omega
        obtain ⟨lb, lo, hAe⟩ := HL.out.ex (by omega)
        cases hAe
        have hLr : Le elO wr (some ⟨b0, o0, none⟩) m l2 := HL.out.after HQ.out.bl
        have hqk := getO l2 k (by rw [HLN.out]; exact hka)
        have c0 : wr.cell? ⟨b0, o0 + k * 4, none⟩ = some (sv (l2.getD k ⟨[], [], 0, 0⟩).fr) := by have := hLr.at k hka 0 _ rfl; simpa [elO, Nat.add_assoc] using this
        have c1 : wr.cell? ⟨b0, o0 + k * 4 + 1, none⟩ = some (sv (l2.getD k ⟨[], [], 0, 0⟩).to) := by have := hLr.at k hka 1 _ rfl; simpa [elO, Nat.add_assoc] using this
        have c2 : wr.cell? ⟨b0, o0 + k * 4 + 2, none⟩ = some (.int .i64 (l2.getD k ⟨[], [], 0, 0⟩).day) := by have := hLr.at k hka 2 _ rfl; simpa [elO, Nat.add_assoc] using this
        have c3 : wr.cell? ⟨b0, o0 + k * 4 + 3, none⟩ = some (.float .f64 (l2.getD k ⟨[], [], 0, 0⟩).rate) := by have := hLr.at k hka 3 _ rfl; simpa [elO, Nat.add_assoc] using this
        have hrate := HR.out _ (List.mem_of_getElem? hqk)
        have HTK : Hid (l2.drop k = l2.getD k ⟨[], [], 0, 0⟩ :: l2.drop (k + 1)) := drop_at hqk
        generalize hqe : l2.getD k ⟨[], [], 0, 0⟩ = q at *
        obtain ⟨qf, qt, qd, qr⟩ := q
        have HQK : Hid (l2.getD k ⟨[], [], 0, 0⟩ = ⟨qf, qt, qd, qr⟩) := hqe
        clear hqe
        simp only at c0 c1 c2 c3 hrate
        clear hqk hLr
        obtain ⟨S, s1, s2, s3⟩ := HQ.out.ex
        have HTP : Hid (Tok P) := HU.out.tok
        have HDL : Hid ((l2.drop (k + 1)).length < 4096) := by show _ < _; rw [List.length_drop, HLN.out]; omega
        go_wp2_with fail
        refine (quotes_any S b P wr s1 HTP.out).mono ?_
        rintro e x1 ⟨va, rfl, hg, hb⟩
        obtain ⟨aq, capq, rfl, -, -, -⟩ := hg.shape
        have HQ1 : Hid (Plg elO w x1 b P u9 Ls) := HQ.out.after hb
        replace c0 := cellB hb c0
        replace c1 := cellB hb c1
        replace c2 := cellB hb c2
        replace c3 := cellB hb c3
        replace s1 := s1.after hb
        have hput := put_any qf qt qd qr hrate S b P x1 s1 HTP.out
        have HS : Hid (TbR x1 S b P ∧ (∀ k, S k → w.heap.size ≤ k) ∧ ∀ g, Value.ownBlock u9 = some g → ¬ S g) := ⟨s1, s2, s3⟩
        clear s1 s2 s3 hg hb HQ
        obtain ⟨pl, hpl⟩ : ∃ pl, P.length = pl := ⟨_, rfl⟩
        have HPL : Hid (P.length = pl) := hpl
        rw [hpl]
        clear hpl
        go_wp2_with fail
        refine hput.mono ?_
        rintro e x2 ⟨E, P', S', rfl, hp, ht, hc, -⟩
        clear hput
        have HQ2 : Hid (Plg elO w x2 b P' u9 Ls) := HQ1.out.put HS.out.1 HS.out.2.1 HS.out.2.2 ht hc
        have HU2 : Hid (Prb (l2.drop k) (es ++ [E]) P' (if E = 0 ∧ P.length < P'.length then Ls ++ [⟨qf, qt, qd, qr⟩] else Ls)) := by show Prb _ _ _ _; rw [HTK.out]; exact HU.out.step HDL.out hp
        have HTP2 : Hid (Tok P') := HTP.out.put hp
        rw [HPL.out] at HU2
        clear c0 c1 c2 c3 HS HQ1 hp ht hc HU HTP HTK HPL
        by_cases hE : E = 0
        · subst hE
          have HU3 : Hid (Prb (l2.drop k) (es ++ [0]) P' (if pl < P'.length then Ls ++ [⟨qf, qt, qd, qr⟩] else Ls)) := by show Prb _ _ _ _; have h := HU2.out; simpa using h
          clear HU2
          obtain ⟨S2, s1, -, -⟩ := HQ2.out.ex
          go_wp2_with fail
          refine (quotes_any S2 b P' x2 s1 HTP2.out).mono ?_
          rintro e x3 ⟨va, rfl, hg, hb⟩
          obtain ⟨aq2, capq2, rfl, -, -, -⟩ := hg.shape
          have HQ3 : Hid (Plg elO w x3 b P' u9 Ls) := HQ2.out.after hb
          clear s1 hg hb HQ2
          by_cases hlt : pl < P'.length
          · have hlti : (pl : Int) < (P'.length : Int) := by omega
            rw [if_pos hlt] at HU3
            have hLr3 : Le elO x3 (some ⟨b0, o0, none⟩) m l2 := HL.out.after HQ3.out.bl
            have c0 : x3.cell? ⟨b0, o0 + k * 4, none⟩ = some (sv qf) := by have h := hLr3.at k hka 0 _ rfl; have e := HQK.out; simp only [elO] at h; rw [e] at h; simpa [Nat.add_assoc] using h
            have c1 : x3.cell? ⟨b0, o0 + k * 4 + 1, none⟩ = some (sv qt) := by have h := hLr3.at k hka 1 _ rfl; have e := HQK.out; simp only [elO] at h; rw [e] at h; simpa [Nat.add_assoc] using h
            have c2 : x3.cell? ⟨b0, o0 + k * 4 + 2, none⟩ = some (.int .i64 qd) := by have h := hLr3.at k hka 2 _ rfl; have e := HQK.out; simp only [elO] at h; rw [e] at h; simpa [Nat.add_assoc] using h
            have c3 : x3.cell? ⟨b0, o0 + k * 4 + 3, none⟩ = some (.float .f64 qr) := by have h := hLr3.at k hka 3 _ rfl; have e := HQK.out; simp only [elO] at h; rw [e] at h; simpa [Nat.add_assoc] using h
            clear hLr3 HQK
            have hww : w.heap.size ≤ x3.heap.size := HQ3.out.bl.size
            obtain ⟨L5, hL5⟩ : ∃ L5, Ls ++ [⟨qf, qt, qd, qr⟩] = L5 := ⟨_, rfl⟩
            have HL5q : Hid (Ls ++ [⟨qf, qt, qd, qr⟩] = L5) := hL5
            rw [hL5] at HU3
            have hl5 : L5.length ≤ 61 := by rw [← hL5, List.length_append]; simp; omega
            clear hL5
            by_cases h60 : 60 < L5.length
            · have h60i : (60 : Int) < (L5.length : Int) := by omega
              go_wp2_with (at_builtin; go_loud (refine wpList_appE rfl _ _ _ rfl elO rfl w.heap.size _ Ls rfl (HQ3.out.ge.al _) x3.heap.size 0 1 1 [⟨qf, qt, qd, qr⟩] rfl (Le.one (Va.new x3 _ _) rfl) (by first | (simp; done) | (simp; omega) | omega) (by first | (simp; done) | (simp; omega) | omega) ?_; intro v' w5 hg5 hgr5 hl5v; have HG5 : Hid (Ge elO w5 w.heap.size v' L5) := (by show Ge _ _ _ _ _; rw [← HL5q.out]; exact hg5); have HR5 : Hid ((x3.alloc (.cells #[sv qf, sv qt, .int .i64 qd, .float .f64 qr] 29)).grownBy w5 (Value.ownBlock u9)) := hgr5; have HL5 : Hid (v'.ownBlock = Value.ownBlock u9 ∨ v'.ownBlock = some (x3.alloc (.cells #[sv qf, sv qt, .int .i64 qd, .float .f64 qr] 29)).heap.size) := hl5v; clear hg5 hgr5 hl5v; have HQ5 : Hid (Plg elO w w5 b P' v' L5) := (HQ3.out.after ((Below.refl _ _).alloc (Nat.le_refl _) _)).app HG5.out HR5.out HL5.out; clear HR5 HL5; obtain ⟨a5, c5, rfl, -, -, -⟩ := HG5.out.shape; clear HG5))
              go_ret
              exact ⟨rfl, HQ5.out.bl⟩
            · have h60i : ¬ (60 : Int) < (L5.length : Int) := by omega
              go_wp2_with (at_builtin; go_loud (refine wpList_appE rfl _ _ _ rfl elO rfl w.heap.size _ Ls rfl (HQ3.out.ge.al _) x3.heap.size 0 1 1 [⟨qf, qt, qd, qr⟩] rfl (Le.one (Va.new x3 _ _) rfl) (by first | (simp; done) | (simp; omega) | omega) (by first | (simp; done) | (simp; omega) | omega) ?_; intro v' w5 hg5 hgr5 hl5v; have HG5 : Hid (Ge elO w5 w.heap.size v' L5) := (by show Ge _ _ _ _ _; rw [← HL5q.out]; exact hg5); have HR5 : Hid ((x3.alloc (.cells #[sv qf, sv qt, .int .i64 qd, .float .f64 qr] 29)).grownBy w5 (Value.ownBlock u9)) := hgr5; have HL5 : Hid (v'.ownBlock = Value.ownBlock u9 ∨ v'.ownBlock = some (x3.alloc (.cells #[sv qf, sv qt, .int .i64 qd, .float .f64 qr] 29)).heap.size) := hl5v; clear hg5 hgr5 hl5v; have HQ5 : Hid (Plg elO w w5 b P' v' L5) := (HQ3.out.after ((Below.refl _ _).alloc (Nat.le_refl _) _)).app HG5.out HR5.out HL5.out; clear HR5 HL5; obtain ⟨a5, c5, rfl, -, -, -⟩ := HG5.out.shape; clear HG5))
              go_roundw
              case measure => simp [intOf] <;> omega
              case rel => exact ⟨_, k, _, _, L5, rfl, rfl, by omega, HQ5.out, HU3.out, Nat.le_of_not_lt h60⟩
          · have hlti : ¬ (pl : Int) < (P'.length : Int) := by omega
            rw [if_neg hlt] at HU3
            obtain ⟨a9, c9, rfl, -, -, -⟩ := HQ3.out.ge.shape
            have h60i : ¬ (60 : Int) < (Ls.length : Int) := by omega
            go_wp2_with fail
            go_roundw
            case measure => simp [intOf] <;> omega
            case rel => exact ⟨_, k, _, _, Ls, rfl, rfl, by omega, HQ3.out, HU3.out, hll⟩
        · have hEb : (E == 0) = false := by simpa using hE
          rw [if_neg (fun e => hE e.1)] at HU2
          obtain ⟨a9, c9, rfl, -, -, -⟩ := HQ2.out.ge.shape
          have h60i : ¬ (60 : Int) < (Ls.length : Int) := by omega
          go_wp2_with fail
          go_roundw
          case measure => simp [intOf] <;> omega
          case rel => exact ⟨_, k, _, _, Ls, rfl, rfl, by omega, HQ2.out, HU2.out, hll⟩
  · have hle : ¬ (2000 : Int) < (n : Int) := by omega
    have HL : Hid (Le elO w a n l) := hL
    have HLN : Hid (l.length = n) := hL.1
    have HR : Hid (∀ q ∈ l, q.rate < 18446744073709551616) := hR
    have hmm : n ≤ 2000 := hn
    clear hL hR
    go_enter Tryz.func6, Tryz.ntmps6
    go_upto_region 3 with fail
    go_wp2_with fail
    refine (new_any w).mono ?_
    rintro e w1 ⟨b, S0, rfl, ht, hb, hs⟩
    have HP : Hid (Plg elO w w1 b [] (.slice none 0 0) []) := ⟨⟨S0, ht, hs, fun g hg => by cases hg⟩, Ge.nil _ _, hb⟩
    clear ht hb hs
    have hPR0 : Prb (l.drop n) [] [] [] := by rw [List.drop_of_length_le (by rw [HLN.out]; exact Nat.le_refl _)]; exact .nil
    have HPR0 : Hid (Prb (l.drop n) [] [] []) := hPR0
    clear hPR0
    go_wp2_with fail
    go_loopw [9, 11, 12] (fun v j x wr => ∃ (i : Int) (k : Nat) (P : List Qe) (es : List Int) (Ls : List Qe), j = .int .i64 i ∧ i = k - 1 ∧ k ≤ n ∧ Hid (Plg elO w wr b P v Ls) ∧ Hid (Prb (l.drop k) es P Ls) ∧ Hid (Ls.length ≤ 60)) (fun _ j _ _ => ((intOf j) + 1).toNat)
    case atStart => exact ⟨_, n, [], [], [], rfl, rfl, Nat.le_refl _, HP.out, HPR0.out, by show _ ≤ _; simp⟩
    case round =>
      obtain ⟨i, k, P, es, Ls, rfl, hi, hkn, HQ, HU, HLL⟩ := hrel
      clear HP HPR0
      have hll : Ls.length ≤ 60 := HLL.out
      rcases Nat.eq_zero_or_pos k with h0 | h0
      · subst h0
        obtain rfl : i = -1 := by omega
        clear hi hkn
        obtain ⟨a9, c9, rfl, -, -, -⟩ := HQ.out.ge.shape
        have HLO : Hid (Ls = LO l) := by have h := HU.out.last; rw [List.drop_zero] at h; exact h
        have B0 := HQ.out.bl
        have HLe9 : Hid (Le elO wr a9 Ls.length Ls) := HQ.out.ge.toLe
        have HR9 : Hid (∀ q ∈ Ls, q.rate < 18446744073709551616) := fun q hq => HR.out q (LO_ok l (by rw [← HLO.out]; exact hq)).2
        clear HQ HU HLL
        go_wp2_with fail
        refine (lput_any a n c l wr (HL.out.after B0) HR.out (by omega)).mono ?_
        rintro e w1 ⟨b1, T1, v1, es1, rfl, hp, hu⟩
        rw [List.take_of_length_le (by rw [HLN.out]; exact hmm)] at hu
        obtain ⟨S1, s1, -, -⟩ := hp.ex
        have HT1 : Hid (T1 = tabL [] l) := (hu.tab (by rw [HLN.out]; omega)).1
        have HK1 : Hid (Tok T1) := hu.tok Tok.nil
        have htl : T1.length ≤ 2000 := by have h := hu.len Tok.nil; rw [HLN.out] at h; simp only [List.length_nil] at h; omega
        replace HLe9 : Hid (Le elO w1 a9 Ls.length Ls) := HLe9.out.after hp.bl
        replace B0 := step B0 hp.bl
        clear hp hu
        go_wp2_with fail
        refine (lput_any a9 Ls.length c9 Ls w1 HLe9.out HR9.out (by omega)).mono ?_
        rintro e w2 ⟨b2, T2, v2, es2, rfl, hp, hu⟩
        rw [List.take_of_length_le (by omega)] at hu
        obtain ⟨S2, s2, -, -⟩ := hp.ex
        obtain ⟨ht2, he2⟩ := hu.tab (by omega)
        obtain rfl : T2 = T1 := by rw [ht2, HT1.out, HLO.out, tab_last]
        have HES : Hid (∀ x ∈ es2, x = 0) := fun x hx => by
          rw [he2, HLO.out] at hx
          obtain ⟨p, hp, rfl⟩ := List.mem_map.1 hx
          exact (LO_ok l hp).1
        have hge := hp.ge
        obtain ⟨a2, c2, rfl, -, -, -⟩ := hge.shape
        have HE2 : Hid (Le elE w2 a2 es2.length es2) := hge.toLe
        have hel : es2.length ≤ 60 := by rw [hu.lens]; exact hll
        replace s1 := s1.after hp.bl
        replace B0 := step B0 hp.bl
        clear hp hu hge ht2 he2 HLe9 HR9
        go_wp2_with fail
        refine (quotes_any S1 b1 T2 w2 s1 HK1.out).mono ?_
        rintro e w3 ⟨vq, rfl, hg, hb⟩
        obtain ⟨aq, cq, rfl, -, -, -⟩ := hg.shape
        have HLQ : Hid (Le elO w3 aq T2.length T2) := hg.toLe
        replace s1 := s1.after hb
        replace s2 := s2.after hb
        replace HE2 : Hid (Le elE w3 a2 es2.length es2) := HE2.out.after hb
        replace B0 := step B0 hb
        clear hg hb
        have HRT : Hid (∀ q ∈ T2, Rok q.rate) := fun q hq => (HK1.out.ok q hq).2.2.2.2.2
        try go_wp2_with fail
        refine (lput_any aq T2.length cq T2 w3 HLQ.out (fun q hq => (rok_fin (HRT.out q hq)).1) (by omega)).mono ?_
        rintro e w4 ⟨b3, T3, v3, es3, rfl, hp, hu⟩
        rw [List.take_of_length_le htl] at hu
        obtain ⟨S3, s3, -, -⟩ := hp.ex
        obtain rfl : T3 = T2 := by rw [(hu.tab (by omega)).1]; exact tab_back HK1.out (by rw [HT1.out]; exact tab_ok l)
        replace s1 := s1.after hp.bl
        replace s2 := s2.after hp.bl
        replace HE2 : Hid (Le elE w4 a2 es2.length es2) := HE2.out.after hp.bl
        replace B0 := step B0 hp.bl
        clear hp hu HLQ HT1 HLO
        have HS : Hid (TbR w4 S1 b1 T3 ∧ TbR w4 S2 b2 T3 ∧ TbR w4 S3 b3 T3) := ⟨s1, s2, s3⟩
        have HB : Hid (Below w.heap.size w w4) := B0
        clear s1 s2 s3 B0
        go_wp2_with fail
        go_loopw [19] (fun j wy => ∃ k : Nat, j = .int .i64 k ∧ k ≤ es2.length ∧ wy = w4) (fun j _ => (es2.length - (intOf j).toNat : Nat))
        case atStart => exact ⟨0, rfl, Nat.zero_le _, by simp⟩
        case round =>
          obtain ⟨k, rfl, hk, rfl⟩ := hrel
          rcases Nat.lt_or_ge k es2.length with hlt | hge
          · have hlti : (k : Int) < (es2.length : Int) := by omega
            obtain ⟨g, lo2, rfl⟩ := HE2.out.ex (by omega)
            have hz : es2.getD k 0 = 0 := HES.out _ (by rw [List.getD_eq_getElem?_getD, List.getElem?_eq_getElem hlt]; exact List.getElem_mem _)
            have c0 := HE2.out.at k hlt 0 _ rfl
            simp only [elE] at c0
            rw [hz] at c0
            simp only [Nat.mul_one, Nat.add_zero] at c0
            go_wp2_with fail
            go_roundw
            case measure => simp [intOf]; omega
            case rel => exact ⟨k + 1, rfl, by omega, by simp⟩
          · obtain rfl : k = es2.length := by omega
            clear hk hge HE2 HES
            have s1 := HS.out.1
            have s2 := HS.out.2.1
            have s3 := HS.out.2.2
            have B0 := HB.out
            clear HS HB
            go_wp2_with fail
            refine (rate_any [69, 85, 82] [69, 85, 82] 0 S1 b1 T3 _ s1 HK1.out).mono ?_
            rintro e w6 ⟨E1, v1, sx, ax, lx, cx, zx, bx, mx, dx, yx, rfl, hrx, hR1, hb⟩
            obtain ⟨rfl, rfl⟩ := hR1.spec.one ⟨ck_eur, ck_eur⟩ ⟨by decide, by decide⟩ rfl
            replace s1 := s1.after hb
            replace s2 := s2.after hb
            replace s3 := s3.after hb
            replace B0 := step B0 hb
            clear hb hrx hR1
            go_upto_region 24 with fail
            refine ent1 w6 _ _ (Q := fun W => Code.wp Tryz.prog _ _ _ W) ?_
            intro w7 hb hs V1
            replace s1 := TbR.after hb s1
            replace s2 := TbR.after hb s2
            replace s3 := TbR.after hb s3
            replace B0 := step B0 hb
            clear hb hs V1
            go_wp2_with fail
            refine (quotes_any S1 b1 T3 w7 s1 HK1.out).mono ?_
            rintro e w8 ⟨vq, rfl, hg, hb⟩
            obtain ⟨aq1, cq1, rfl, -, -, -⟩ := hg.shape
            have hq1 : Le elO w8 aq1 T3.length T3 := hg.toLe
            replace s1 := s1.after hb
            replace s2 := s2.after hb
            replace s3 := s3.after hb
            replace B0 := step B0 hb
            clear hg hb
            try go_wp2_with fail
            refine (quotes_any S2 b2 T3 w8 s2 HK1.out).mono ?_
            rintro e w9 ⟨vq, rfl, hg, hb⟩
            obtain ⟨aq2, cq2, rfl, -, -, -⟩ := hg.shape
            have hq2 : Le elO w9 aq2 T3.length T3 := hg.toLe
            replace hq1 := hq1.after hb
            replace s1 := s1.after hb
            replace s2 := s2.after hb
            replace s3 := s3.after hb
            replace B0 := step B0 hb
            clear hg hb
            try go_wp2_with fail
            refine (sameQs T3 HRT.out T3.length rfl (by omega) aq1 cq1 aq2 cq2 w9 hq1 hq2).mono ?_
            rintro e w10 ⟨rfl, hb⟩
            replace s1 := s1.after hb
            replace s2 := s2.after hb
            replace s3 := s3.after hb
            replace B0 := step B0 hb
            clear hb hq1 hq2
            try go_wp2_with fail
            refine (quotes_any S1 b1 T3 w10 s1 HK1.out).mono ?_
            rintro e w11 ⟨vq, rfl, hg, hb⟩
            obtain ⟨aq3, cq3, rfl, -, -, -⟩ := hg.shape
            have hq3 : Le elO w11 aq3 T3.length T3 := hg.toLe
            replace s1 := s1.after hb
            replace s2 := s2.after hb
            replace s3 := s3.after hb
            replace B0 := step B0 hb
            clear hg hb
            try go_wp2_with fail
            refine (quotes_any S3 b3 T3 w11 s3 HK1.out).mono ?_
            rintro e w12 ⟨vq, rfl, hg, hb⟩
            obtain ⟨aq4, cq4, rfl, -, -, -⟩ := hg.shape
            have hq4 : Le elO w12 aq4 T3.length T3 := hg.toLe
            replace hq3 := hq3.after hb
            replace s1 := s1.after hb
            replace s2 := s2.after hb
            replace s3 := s3.after hb
            replace B0 := step B0 hb
            clear hg hb
            try go_wp2_with fail
            refine (sameQs T3 HRT.out T3.length rfl (by omega) aq3 cq3 aq4 cq4 w12 hq3 hq4).mono ?_
            rintro e w13 ⟨rfl, hb⟩
            replace s1 := s1.after hb
            replace s2 := s2.after hb
            replace s3 := s3.after hb
            replace B0 := step B0 hb
            clear hb hq3 hq4
            try go_wp2_with fail
            refine (xsame_any f t d T3 HK1.out S1 S2 b1 b2 w13 s1 s2).mono ?_
            rintro e w14 ⟨rfl, hb⟩
            replace s1 := s1.after hb
            replace s2 := s2.after hb
            replace s3 := s3.after hb
            replace B0 := step B0 hb
            clear hb
            try go_wp2_with fail
            refine (xsame_any f t d T3 HK1.out S1 S3 b1 b3 w14 s1 s3).mono ?_
            rintro e w15 ⟨rfl, hb⟩
            replace s1 := s1.after hb
            replace s2 := s2.after hb
            replace s3 := s3.after hb
            replace B0 := step B0 hb
            clear hb
            try go_wp2_with fail
            go_ret
            exact ⟨rfl, B0⟩
      · obtain ⟨k, rfl⟩ : ∃ j, k = j + 1 := ⟨k - 1, by omega⟩
        obtain rfl : i = (k : Int) := by omega
        clear hi h0
        have hka : k < n := by omega
        obtain ⟨lb, lo, hAe⟩ := HL.out.ex (by omega)
        subst hAe
        have hLr : Le elO wr (some ⟨lb, lo, none⟩) n l := HL.out.after HQ.out.bl
        have hqk := getO l k (by rw [HLN.out]; exact hka)
        have c0 : wr.cell? ⟨lb, lo + k * 4, none⟩ = some (sv (l.getD k ⟨[], [], 0, 0⟩).fr) := by have := hLr.at k hka 0 _ rfl; simpa [elO, Nat.add_assoc] using this
        have c1 : wr.cell? ⟨lb, lo + k * 4 + 1, none⟩ = some (sv (l.getD k ⟨[], [], 0, 0⟩).to) := by have := hLr.at k hka 1 _ rfl; simpa [elO, Nat.add_assoc] using this
        have c2 : wr.cell? ⟨lb, lo + k * 4 + 2, none⟩ = some (.int .i64 (l.getD k ⟨[], [], 0, 0⟩).day) := by have := hLr.at k hka 2 _ rfl; simpa [elO, Nat.add_assoc] using this
        have c3 : wr.cell? ⟨lb, lo + k * 4 + 3, none⟩ = some (.float .f64 (l.getD k ⟨[], [], 0, 0⟩).rate) := by have := hLr.at k hka 3 _ rfl; simpa [elO, Nat.add_assoc] using this
        have hrate := HR.out _ (List.mem_of_getElem? hqk)
        have HTK : Hid (l.drop k = l.getD k ⟨[], [], 0, 0⟩ :: l.drop (k + 1)) := drop_at hqk
        generalize hqe : l.getD k ⟨[], [], 0, 0⟩ = q at *
        obtain ⟨qf, qt, qd, qr⟩ := q
        have HQK : Hid (l.getD k ⟨[], [], 0, 0⟩ = ⟨qf, qt, qd, qr⟩) := hqe
        clear hqe
        simp only at c0 c1 c2 c3 hrate
        clear hqk hLr
        obtain ⟨S, s1, s2, s3⟩ := HQ.out.ex
        have HTP : Hid (Tok P) := HU.out.tok
        have HDL : Hid ((l.drop (k + 1)).length < 4096) := by show _ < _; rw [List.length_drop, HLN.out]; omega
        go_wp2_with fail
        refine (quotes_any S b P wr s1 HTP.out).mono ?_
        rintro e x1 ⟨va, rfl, hg, hb⟩
        obtain ⟨aq, capq, rfl, -, -, -⟩ := hg.shape
        have HQ1 : Hid (Plg elO w x1 b P u9 Ls) := HQ.out.after hb
        replace c0 := cellB hb c0
        replace c1 := cellB hb c1
        replace c2 := cellB hb c2
        replace c3 := cellB hb c3
        replace s1 := s1.after hb
        have hput := put_any qf qt qd qr hrate S b P x1 s1 HTP.out
        have HS : Hid (TbR x1 S b P ∧ (∀ k, S k → w.heap.size ≤ k) ∧ ∀ g, Value.ownBlock u9 = some g → ¬ S g) := ⟨s1, s2, s3⟩
        clear s1 s2 s3 hg hb HQ
        obtain ⟨pl, hpl⟩ : ∃ pl, P.length = pl := ⟨_, rfl⟩
        have HPL : Hid (P.length = pl) := hpl
        rw [hpl]
        clear hpl
        go_wp2_with fail
        refine hput.mono ?_
        rintro e x2 ⟨E, P', S', rfl, hp, ht, hc, -⟩
        clear hput
        have HQ2 : Hid (Plg elO w x2 b P' u9 Ls) := HQ1.out.put HS.out.1 HS.out.2.1 HS.out.2.2 ht hc
        have HU2 : Hid (Prb (l.drop k) (es ++ [E]) P' (if E = 0 ∧ P.length < P'.length then Ls ++ [⟨qf, qt, qd, qr⟩] else Ls)) := by show Prb _ _ _ _; rw [HTK.out]; exact HU.out.step HDL.out hp
        have HTP2 : Hid (Tok P') := HTP.out.put hp
        rw [HPL.out] at HU2
        clear c0 c1 c2 c3 HS HQ1 hp ht hc HU HTP HTK HPL
        by_cases hE : E = 0
        · subst hE
          have HU3 : Hid (Prb (l.drop k) (es ++ [0]) P' (if pl < P'.length then Ls ++ [⟨qf, qt, qd, qr⟩] else Ls)) := by show Prb _ _ _ _; have h := HU2.out; simpa using h
          clear HU2
          obtain ⟨S2, s1, -, -⟩ := HQ2.out.ex
          go_wp2_with fail
          refine (quotes_any S2 b P' x2 s1 HTP2.out).mono ?_
          rintro e x3 ⟨va, rfl, hg, hb⟩
          obtain ⟨aq2, capq2, rfl, -, -, -⟩ := hg.shape
          have HQ3 : Hid (Plg elO w x3 b P' u9 Ls) := HQ2.out.after hb
          clear s1 hg hb HQ2
          by_cases hlt : pl < P'.length
          · have hlti : (pl : Int) < (P'.length : Int) := by omega
            rw [if_pos hlt] at HU3
            have hLr3 : Le elO x3 (some ⟨lb, lo, none⟩) n l := HL.out.after HQ3.out.bl
            have c0 : x3.cell? ⟨lb, lo + k * 4, none⟩ = some (sv qf) := by have h := hLr3.at k hka 0 _ rfl; have e := HQK.out; simp only [elO] at h; rw [e] at h; simpa [Nat.add_assoc] using h
            have c1 : x3.cell? ⟨lb, lo + k * 4 + 1, none⟩ = some (sv qt) := by have h := hLr3.at k hka 1 _ rfl; have e := HQK.out; simp only [elO] at h; rw [e] at h; simpa [Nat.add_assoc] using h
            have c2 : x3.cell? ⟨lb, lo + k * 4 + 2, none⟩ = some (.int .i64 qd) := by have h := hLr3.at k hka 2 _ rfl; have e := HQK.out; simp only [elO] at h; rw [e] at h; simpa [Nat.add_assoc] using h
            have c3 : x3.cell? ⟨lb, lo + k * 4 + 3, none⟩ = some (.float .f64 qr) := by have h := hLr3.at k hka 3 _ rfl; have e := HQK.out; simp only [elO] at h; rw [e] at h; simpa [Nat.add_assoc] using h
            clear hLr3 HQK
            have hww : w.heap.size ≤ x3.heap.size := HQ3.out.bl.size
            obtain ⟨L5, hL5⟩ : ∃ L5, Ls ++ [⟨qf, qt, qd, qr⟩] = L5 := ⟨_, rfl⟩
            have HL5q : Hid (Ls ++ [⟨qf, qt, qd, qr⟩] = L5) := hL5
            rw [hL5] at HU3
            have hl5 : L5.length ≤ 61 := by rw [← hL5, List.length_append]; simp; omega
            clear hL5
            by_cases h60 : 60 < L5.length
            · have h60i : (60 : Int) < (L5.length : Int) := by omega
              go_wp2_with (at_builtin; go_loud (refine wpList_appE rfl _ _ _ rfl elO rfl w.heap.size _ Ls rfl (HQ3.out.ge.al _) x3.heap.size 0 1 1 [⟨qf, qt, qd, qr⟩] rfl (Le.one (Va.new x3 _ _) rfl) (by first | (simp; done) | (simp; omega) | omega) (by first | (simp; done) | (simp; omega) | omega) ?_; intro v' w5 hg5 hgr5 hl5v; have HG5 : Hid (Ge elO w5 w.heap.size v' L5) := (by show Ge _ _ _ _ _; rw [← HL5q.out]; exact hg5); have HR5 : Hid ((x3.alloc (.cells #[sv qf, sv qt, .int .i64 qd, .float .f64 qr] 29)).grownBy w5 (Value.ownBlock u9)) := hgr5; have HL5 : Hid (v'.ownBlock = Value.ownBlock u9 ∨ v'.ownBlock = some (x3.alloc (.cells #[sv qf, sv qt, .int .i64 qd, .float .f64 qr] 29)).heap.size) := hl5v; clear hg5 hgr5 hl5v; have HQ5 : Hid (Plg elO w w5 b P' v' L5) := (HQ3.out.after ((Below.refl _ _).alloc (Nat.le_refl _) _)).app HG5.out HR5.out HL5.out; clear HR5 HL5; obtain ⟨a5, c5, rfl, -, -, -⟩ := HG5.out.shape; clear HG5))
              go_ret
              exact ⟨rfl, HQ5.out.bl⟩
            · have h60i : ¬ (60 : Int) < (L5.length : Int) := by omega
              go_wp2_with (at_builtin; go_loud (refine wpList_appE rfl _ _ _ rfl elO rfl w.heap.size _ Ls rfl (HQ3.out.ge.al _) x3.heap.size 0 1 1 [⟨qf, qt, qd, qr⟩] rfl (Le.one (Va.new x3 _ _) rfl) (by first | (simp; done) | (simp; omega) | omega) (by first | (simp; done) | (simp; omega) | omega) ?_; intro v' w5 hg5 hgr5 hl5v; have HG5 : Hid (Ge elO w5 w.heap.size v' L5) := (by show Ge _ _ _ _ _; rw [← HL5q.out]; exact hg5); have HR5 : Hid ((x3.alloc (.cells #[sv qf, sv qt, .int .i64 qd, .float .f64 qr] 29)).grownBy w5 (Value.ownBlock u9)) := hgr5; have HL5 : Hid (v'.ownBlock = Value.ownBlock u9 ∨ v'.ownBlock = some (x3.alloc (.cells #[sv qf, sv qt, .int .i64 qd, .float .f64 qr] 29)).heap.size) := hl5v; clear hg5 hgr5 hl5v; have HQ5 : Hid (Plg elO w w5 b P' v' L5) := (HQ3.out.after ((Below.refl _ _).alloc (Nat.le_refl _) _)).app HG5.out HR5.out HL5.out; clear HR5 HL5; obtain ⟨a5, c5, rfl, -, -, -⟩ := HG5.out.shape; clear HG5))
              go_roundw
              case measure => simp [intOf] <;> omega
              case rel => exact ⟨_, k, _, _, L5, rfl, rfl, by omega, HQ5.out, HU3.out, Nat.le_of_not_lt h60⟩
          · have hlti : ¬ (pl : Int) < (P'.length : Int) := by omega
            rw [if_neg hlt] at HU3
            obtain ⟨a9, c9, rfl, -, -, -⟩ := HQ3.out.ge.shape
            have h60i : ¬ (60 : Int) < (Ls.length : Int) := by omega
            go_wp2_with fail
            go_roundw
            case measure => simp [intOf] <;> omega
            case rel => exact ⟨_, k, _, _, Ls, rfl, rfl, by omega, HQ3.out, HU3.out, hll⟩
        · have hEb : (E == 0) = false := by simpa using hE
          rw [if_neg (fun e => hE e.1)] at HU2
          obtain ⟨a9, c9, rfl, -, -, -⟩ := HQ2.out.ge.shape
          have h60i : ¬ (60 : Int) < (Ls.length : Int) := by omega
          go_wp2_with fail
          go_roundw
          case measure => simp [intOf] <;> omega
          case rel => exact ⟨_, k, _, _, Ls, rfl, rfl, by omega, HQ2.out, HU2.out, hll⟩
end Go.Proofs.YtmhfoeooccppfaaGreat
namespace Go.Proofs.YtmhfoeooccppfaaGreat
open Go.ChangeShapes Go.WideShapes Go.ChangeAt Go.RowKit
set_option linter.unusedVariables false

theorem list4o {α : Type} {l : List α} (h : l.length = 4) : ∃ a b c d, l = [a, b, c, d] := by
  match l, h with
  | [a, b, c, d], _ => exact ⟨a, b, c, d, rfl⟩
instance inhQo : Inhabited Qe := ⟨⟨[], [], 0, 0⟩⟩
theorem cQuoteO : Tryz.prog.cellsOf 29 = 4 := by kernel_rfl
theorem sv_ofo (s : ByteArray) : Value.string s = sv s.data.toList := by simp [sv]
section
variable {H : Type} {enc : TypeId × Value → H} {W : World} {sp : Nat → Bool} {hd : Bool}
theorem trod_floato {n : Nat} {t : TypeId} {v : Value} {y : DataW H × List MemPlace} (ht : Tryz.prog.underlying t = some (.float .f64)) (h : DataW.trod enc Tryz.prog W 0 sp hd n t [v] = some y) : ∃ b, v = .float .f64 b ∧ b < 18446744073709551616 := by
  cases n with
  | zero => simp [DataW.trod] at h
  | succ n =>
    simp only [DataW.trod, ht] at h
    cases v with
    | float k b =>
      simp at h
      obtain ⟨⟨rfl, hw⟩, -⟩ := h
      refine ⟨b, rfl, ?_⟩
      exact of_decide_eq_true hw
    | _ => simp at h
theorem quote_openo {n : Nat} {cs : List Value} {y : DataW H × List MemPlace} (h2 : DataW.trod enc Tryz.prog W 0 sp hd n 29 cs = some y) : ∃ q : Qe, cs = elO.enc q ∧ q.rate < 18446744073709551616 := by
  obtain ⟨xs, k, _, _, hl, hxl, hf⟩ := DataW.trod_struct Tryz.underlying29 h2
  obtain ⟨v0, v1, v2, v3, rfl⟩ := list4o (hl.trans cQuoteO)
  obtain ⟨y0, y1, y2, y3, rfl⟩ := list4o hxl
  have g0 := hf 0 _ rfl
  have g1 := hf 1 _ rfl
  have g2 := hf 2 _ rfl
  have g3 := hf 3 _ rfl
  have e1 : Tryz.prog.cellsOf 9 = 1 := by kernel_rfl
  have e2 : Tryz.prog.cellsOf 26 = 1 := by kernel_rfl
  have e3 : Tryz.prog.cellsOf 27 = 1 := by kernel_rfl
  simp [e1, e2, e3] at g0 g1 g2 g3
  obtain ⟨f, h0, -, -⟩ := DataW.trod_string Tryz.underlying9 g0
  obtain ⟨t, h1, -, -⟩ := DataW.trod_string Tryz.underlying9 g1
  obtain ⟨d, h2d, -, w2⟩ := DataW.trod_int Tryz.underlying26 g2
  obtain ⟨r, h3, w3⟩ := trod_floato Tryz.underlying27 g3
  simp at h0 h1 h2d
  subst h0 h1 h2d h3
  exact ⟨⟨f.data.toList, t.data.toList, d, r⟩, by simp [elO, sv], w3⟩
theorem open_quoteso {a : Option Addr} {len cap : Nat} {d : DataW H} {p : List MemPlace} (h : DataW.Trod enc Tryz.prog W 0 sp hd 42 (.slice a len cap) d p) :
    ∃ ns : List Qe, Le elO W a len ns ∧ (∀ q ∈ ns, q.rate < 18446744073709551616) ∧ len ≤ cap ∧ cap ≤ 9223372036854775807 := by
  obtain ⟨fuel, hf⟩ := h
  rcases Go.Deep.open_slice Tryz.underlying42 hf with ⟨hcs, _⟩ | ⟨ad, l, c, m, n, D, Pl, hcs, _, hl, hcm, hmm, _, hx⟩
  · simp [Value.cells] at hcs
    obtain ⟨rfl, rfl, rfl⟩ := hcs
    exact ⟨[], Le.nil _ _, (fun n hn => by simp at hn), by decide, by decide⟩
  · simp [Value.cells] at hcs
    obtain ⟨rfl, rfl, rfl⟩ := hcs
    have hlm : len ≤ m := by rw [hmm]; split <;> omega
    have each : ∀ i, i < len → ∃ nd : Qe, (∀ j u, (elO.enc nd)[j]? = some u → W.cell? ((ad.add (i * 4)).add j) = some u) ∧ nd.rate < 18446744073709551616 := by
      intro i hi
      obtain ⟨cs', h1, h2⟩ := hx i (by omega)
      rw [cQuoteO] at h1
      obtain ⟨nd, rfl, h6⟩ := quote_openo h2
      obtain ⟨_, hlen, hcell⟩ := World.cells?_some h1
      refine ⟨nd, fun j u hj => ?_, h6⟩
      have hj6 : j < 4 := by
        rcases Nat.lt_or_ge j 4 with h' | h'
        · exact h'
        · rw [List.getElem?_eq_none (by exact h')] at hj; cases hj
      have := hcell j hj6
      rw [this, hj]
    obtain ⟨Q, hQ⟩ := Go.Deep.choose_lt each
    refine ⟨(List.range len).map Q, ⟨by simp, fun h0 => ?_⟩, fun n hn => ?_, hl, by unfold maxLen at hcm; omega⟩
    · obtain ⟨b, off, spot⟩ := ad
      have hspot : spot = none := by
        have := (hQ 0 h0).1 0 _ rfl
        simpa [Addr.add] using World.cell?_spot this
      subst hspot
      refine ⟨b, off, rfl, fun i u hu => ?_⟩
      have hlen : (rowE elO ((List.range len).map Q)).length = len * 4 := by rw [rowE_length]; simp; rfl
      have hi : i < len * 4 := by
        rcases Nat.lt_or_ge i (rowE elO ((List.range len).map Q)).length with h' | h'
        · omega
        · rw [List.getElem?_eq_none h'] at hu; cases hu
      have hq := rowE_get elO (i % 4) (Nat.mod_lt _ (by decide)) ((List.range len).map Q) (i / 4) (by simp; omega)
      rw [show i / 4 * elO.s + i % 4 = i by show i / 4 * 4 + i % 4 = i; omega, hu] at hq
      have hg : ((List.range len).map Q).getD (i / 4) elO.dft = Q (i / 4) := by simp [show i / 4 < len by omega]
      rw [hg] at hq
      have := (hQ (i / 4) (by omega)).1 (i % 4) u hq.symm
      rw [Go.WideShapes.add_plain, Go.WideShapes.add_plain] at this
      rw [← this]
      congr 2
      omega
    · simp only [List.mem_map, List.mem_range] at hn
      obtain ⟨i, hi, rfl⟩ := hn
      exact (hQ i hi).2
end
theorem order_walk0 (a : Option Addr) (n c : Nat) (l : List Qe) (f t : ByteArray) (d : Int) (w : World) (hL : Le elO w a n l) (hR : ∀ q ∈ l, q.rate < 18446744073709551616) (hnn : n ≤ c ∧ c ≤ 9223372036854775807) (_ : f.data.toList.length ≤ 140737488351232) (_ : t.data.toList.length ≤ 140737488351232) (_ : (Lit.int .i64 d).wf = true) :
    Calls Tryz.prog 6 #[.slice a n c, .string f, .string t, .int .i64 d] w fun e w' => e = .returned (.bool true) ∧ Below w.heap.size w w' := by
  rw [sv_ofo f, sv_ofo t]
  exact order_walk a n c l f.data.toList t.data.toList d w hL hR hnn.1 hnn.2
end Go.Proofs.YtmhfoeooccppfaaGreat
namespace Go.Proofs.YtmhfoeooccppfaaGreat.exchOrder
open Go.ChangeShapes Go.WideShapes Go.ChangeAt Go.RowKit
set_option linter.unusedVariables false

theorem own : ownKnob Tryz.prog.godebug = none := by kernel_rfl
theorem laidOut : laidOutB Tryz.prog = true := by kernel_rfl


set_option maxRecDepth 100000 in
theorem contract (H : Type) (enc : TypeId × Value → H) (W : World) (base : Nat) (args : Array Value) (ds gs : List (DataW H)) (before : List MemPlace)
    (hval : ∀ (j : Nat) t v, Tryz.f6.params[j]? = some t → args[j]? = some v → Value.okWide Tryz.prog W .any base t v)
    (hW : DataW.Whole enc Tryz.prog Tryz.f6.params.toList Rows.exchOrderSpec.vars false W args.toList ds gs before) (hsz : (DataW.weightsEach Tryz.prog (Tryz.f6.params.toList ++ Rows.exchOrderSpec.plain.varTypes Tryz.prog) (ds ++ gs)).all (· ≤ reachBytes) = true) :
    Calls Tryz.prog 6 args W fun e W' => ∃ v, e = .returned v ∧ Rows.exchOrderSpec.post enc Tryz.prog Tryz.f6 false true false false W args v W' := by
  have hW' := hW
  obtain ⟨p, q, hA0, hV, rfl, hfz, hnd⟩ := hW
  have hA : DataW.TrodAll enc Tryz.prog W 0 (fun _ => true) true Tryz.f6.params.toList args.toList ds p := hA0
  rw [Tryz.params6] at hA hval hsz
  obtain ⟨v0, vs0, d0, ds0, p0, q0, hargs, rfl, rfl, h0, r0⟩ := trodAll_cons hA
  obtain ⟨v1, vs1, d1, ds1, p1, q1, rfl, rfl, rfl, h1, r1⟩ := trodAll_cons r0
  obtain ⟨v2, vs2, d2, ds2, p2, q2, rfl, rfl, rfl, h2, r2⟩ := trodAll_cons r1
  obtain ⟨v3, vs3, d3, ds3, p3, q3, rfl, rfl, rfl, h3, r3⟩ := trodAll_cons r2
  obtain ⟨rfl, rfl, rfl⟩ := trodAll_nil r3
  obtain rfl : args = #[v0, v1, v2, v3] := by cases args; simp_all
  obtain ⟨rfl, rfl⟩ := trodVars_none hV
  obtain ⟨a0, len0, cap0, rfl⟩ := okWide_slice Tryz.underlying42 (hval 0 42 v0 rfl rfl)
  have k0 := h0
  have lt0 : ∀ x ∈ p0, x.block < W.heap.size := by obtain ⟨m, hm⟩ := k0; exact DataW.trod_lt m _ _ _ hm
  obtain ⟨z0, s0, c0, b0⟩ := open_quoteso h0
  obtain ⟨s1, rfl, rfl, rfl, hs1⟩ := Go.ChangeMaps.open_string Tryz.underlying9 (hval 1 9 v1 rfl rfl) h1
  have b1 : s1.data.toList.length ≤ 140737488351232 := by have := sized_string hsz (j := 1) (t := 9) rfl rfl; simpa [reachBytes] using this
  obtain ⟨s2, rfl, rfl, rfl, hs2⟩ := Go.ChangeMaps.open_string Tryz.underlying9 (hval 2 9 v2 rfl rfl) h2
  have b2 : s2.data.toList.length ≤ 140737488351232 := by have := sized_string hsz (j := 2) (t := 9) rfl rfl; simpa [reachBytes] using this
  obtain ⟨a3, rfl, rfl, rfl, w3⟩ := open_int Tryz.underlying26 (hval 3 26 v3 rfl rfl) h3
  clear hA0
  refine (order_walk0 a0 len0 cap0 z0 s1 s2 a3 W s0 c0 b0 b1 b2 w3).mono fun e W' ⟨he, bel⟩ => ?_
  subst he
  exact ⟨_, rfl, _, _, _, [], _, [], hW', trodAll_mk1 (shut_bool Tryz.underlying4 _), (trodAll_cons_mk (Below.trod laidOut (by kernel_rfl) (of_decide_eq_true (by kernel_rfl)) k0 bel lt0) (trodAll_cons_mk (Go.ChangeMaps.shut_string Tryz.underlying9 hs1) (trodAll_cons_mk (Go.ChangeMaps.shut_string Tryz.underlying9 hs2) (trodAll_cons_mk (shut_int Tryz.underlying26 w3) trodAll_mk0)))), rfl, bel.frame _, fun h => by cases h⟩

set_option maxRecDepth 100000 in
theorem lifted (os : Os) (started : os.Started) (H : Type) (enc : TypeId × Value → H) :
    ReturnsInHanded {} Tryz.checked os 6 .any (Rows.exchOrderSpec.pre6 enc Tryz.prog Tryz.f6 Rows.exchOrderRow.domain false) (Rows.exchOrderSpec.post enc Tryz.prog Tryz.f6 false true false false) := by
  refine returnsInHanded_of_change_sized (C := Tryz.checked) own started (by kernel_rfl) Tryz.func6
    (ChangeSpec.witness6 (enc := enc) (C := Tryz.checked) false ⟨#[], #[.slice none 0 0, .string ⟨#[]⟩, .string ⟨#[]⟩, .int .i64 0], []⟩ 8 (by kernel_rfl) (by kernel_rfl) (by kernel_rfl) (by kernel_rfl)) ?_
  intro W base args ds gs before hval0 hW _ hsz0 _
  exact contract H enc W base args ds gs before hval0 hW hsz0

theorem over : Rows.exchOrderRow.holds Tryz.pinned (OpenSpec.ofChange Rows.exchOrderSpec) :=
  OpenClaim.holds_of_wide 6 Tryz.f6 rfl rfl rfl rfl rfl rfl rfl ⟨rfl, rfl, rfl, rfl, rfl⟩ rfl rfl rfl rfl rfl (by kernel_rfl) Tryz.func6 (by kernel_rfl)
    (of_decide_eq_true (by kernel_rfl)) (by unfold Func.isWrapper; first | (rw [if_pos (by decide +kernel)]; kernel_rfl) | (rw [if_neg (by decide +kernel)]; exact ⟨rfl, rfl⟩))
    (fun os started H enc _ => lifted os started H enc)
end Go.Proofs.YtmhfoeooccppfaaGreat.exchOrder
namespace Go.Proofs.YtmhfoeooccppfaaGreat
theorem exchOrder_holds : Rows.ExchOrderSaid := exchOrder.over
#print axioms exchOrder_holds
end Go.Proofs.YtmhfoeooccppfaaGreat
