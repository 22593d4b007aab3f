/-
  The statements' 'is': has a set these spans?
-/
import Derived.Test.YtiabjlaganmloaaSp7
import Derived.Sort.QuietIn
import Derived.Deep.RegionHeld3
namespace Go.Proofs.Ytiabjlaganmloaa
open Go.RowKit Go.Shelf
set_option linter.unusedVariables false
attribute [local go_sem] Oper.semAt_some

set_option maxHeartbeats 1000000 in
/-- The document's Days. -/
theorem rdays_any (a : Option Addr) (len cap : Nat) (ps : List Pr) (w : World) (h : Ls w a len ps) (hd : Dn ps) (hl : len ≤ 1000000) :
    Calls Try.prog 51 #[.slice a len cap] w fun e w' => e = .returned (.int .i64 (dys ps)) ∧ Below w.heap.size w w' := by
  have HL : Hid (Ls w a len ps) := h
  clear h
  go_enter Try.func51, Try.ntmps51
  go_wp2_with fail
  go_loopw [3, 4] (fun n i wr => ∃ k q : Nat, k ≤ len ∧ i = .int .i64 (k : Int) ∧ n = .int .i64 (dys (ps.take k)) ∧ wr = w.drewN q) (fun _ i _ => len - (intOf i).toNat)
  case atStart => exact ⟨0, 0, Nat.zero_le _, rfl, by simp [dys], rfl⟩
  case round =>
    obtain ⟨k, q, hk, rfl, rfl, rfl⟩ := hrel
    by_cases hlt : k < len
    · have hkz : (k : Int) < len := by omega
      obtain ⟨b, off, rfl, hc⟩ := HL.out.2 (by omega)
      have c0 := (hc k hlt).1
      have c1 := (hc k hlt).2
      have b1 := dn_at hd k
      have b2 := dys_dn (ps := ps.take k) (fun p hp => hd p (List.mem_of_mem_take hp))
      rw [List.length_take] at b2
      have HE : Hid (dys (ps.take (k + 1)) = dys (ps.take k) + ((ps.getD k (0, 0)).2 - (ps.getD k (0, 0)).1)) := by
        show _ = _
        rw [List.take_succ_eq_append_getElem (by have := HL.out.1; omega), dys_snoc, List.getD_eq_getElem?_getD, List.getElem?_eq_getElem (by have := HL.out.1; omega)]
        rfl
      generalize (ps.getD k (0, 0)).1 = x0 at *
      generalize (ps.getD k (0, 0)).2 = x1 at *
      generalize dys (ps.take k) = n at *
      have w1 : IntKind.i64.wrap (x1 - x0) = x1 - x0 := by rw [IntKind.wrap_i64]; omega
      have w2 : IntKind.i64.wrap (n + (x1 - x0)) = n + (x1 - x0) := by rw [IntKind.wrap_i64]; omega
      clear hc b1 b2
      go_wp2_with fail
      go_quiet (fail)
      go_wp2_with fail
      go_roundw
      case rel => exact ⟨k + 1, q + nq, by omega, by go_num, by rw [HE.out], rfl⟩
      case measure => simp [intOf]; omega
    · have hkz : ¬ (k : Int) < len := by omega
      have e1 : ps.take k = ps := List.take_of_length_le (by have := HL.out.1; omega)
      rw [e1]
      go_wp2_with fail
      go_ret
      exact ⟨rfl, below_drewN (Below.refl _ _) _⟩
theorem ent4 (w : World) (t0 : TypeId) (c0 : Array Value) (t1 : TypeId) (c1 : Array Value) (t2 : TypeId) (c2 : Array Value) (t3 : TypeId) (c3 : Array Value) {Q : World → Prop}
    (h : ∀ w0, Below w.heap.size w w0 → w0.heap.size = w.heap.size + 4 → Va w0 (w.heap.size) t0 c0 → Va w0 (w.heap.size + 1) t1 c1 → Va w0 (w.heap.size + 1 + 1) t2 c2 → Va w0 (w.heap.size + 1 + 1 + 1) t3 c3 → Q w0) : Q ((((w.alloc (.cells c0 t0)).alloc (.cells c1 t1)).alloc (.cells c2 t2)).alloc (.cells c3 t3)) :=
  ent3 w t0 c0 t1 c1 t2 c2 (Q := fun W => Q (W.alloc (.cells c3 t3))) (fun W hb hs v0 v1 v2 => h _ (hb.alloc (by omega) _) (by simp [hs]) (v0.old _) (v1.old _) (v2.old _) (by have := Va.new W t3 c3; rwa [show W.heap.size = w.heap.size + 1 + 1 + 1 by omega] at this))
/-- The four variables. -/
def IsV (w : World) (vb va : Value) (n : Int) (W : World) : Prop := Va W w.heap.size 31 #[vb] ∧ Va W (w.heap.size + 1) 4 #[.bool false] ∧ Va W (w.heap.size + 1 + 1) 31 #[va] ∧ Va W (w.heap.size + 1 + 1 + 1) 3 #[.int .i64 n] ∧ Below w.heap.size w W ∧ w.heap.size + 4 ≤ W.heap.size
theorem isV_own {w : World} {vb va : Value} {k : Int} {n : Nat} (hn : w.heap.size ≤ n) {W W' : World} {row : Option Nat} (hs : IsV w vb va k W) (hg : W.grownBy W' row) (hr : ∀ r, row = some r → n ≤ r ∧ ∃ o : Obj, W.heap[r]? = some o ∧ o.isCells = false) : IsV w vb va k W' := by
  obtain ⟨h1, h2, h3, h4, h5, h6⟩ := hs
  exact ⟨h1.own hg (fun r e => (hr r e).2), h2.own hg (fun r e => (hr r e).2), h3.own hg (fun r e => (hr r e).2), h4.own hg (fun r e => (hr r e).2), belowOwn hn hg (fun r e => (hr r e).1) h5 (by omega), Nat.le_trans h6 hg.size⟩
def IsX (w : World) (vb va : Value) (ps : List Pr) (c : Code) (pre : List Nat) (W : World) : Prop := ∃ x, pre = [x] ∧ ((c = .exit 0 ∧ IsV w vb va 1 W) ∨ (c = .ret ∧ ps.getD x (0, 0) ≠ ps.getD 0 (0, 0)))
theorem results_cb {fn : Func} {i b : Nat} {v : Value} {tmps : Array Value} {w : World} (h : fn.results = #[.cell i 4]) (hi : tmps.getD i undef = .pointer (some ⟨b, 0, none⟩)) (hv : Va w b 4 #[v]) :
    (results fn tmps).run Try.prog w = .ok v w := by
  have c := hv.cell
  rw [Array.getD_eq_getD_getElem?] at hi
  simp [results, h, hi, c, go_sem]
theorem putV {W : World} {b D : Nat} {t : TypeId} {cs : Array Value} {o : Obj} (h : Va W b t cs) (hK : W.heap[D]? = some o) (ho : o.isCells = false) {o' : Obj} : Va (W.putObj D o') b t cs :=
  h.own (grownBy_putObj' W D o') (fun r e => by cases e; exact ⟨_, hK, ho⟩)
/-- What a variable of truth holds. -/
def rb (ws : Nat) (X : World) : Bool := match X.cell? ⟨ws + 1, 0, none⟩ with | some (.bool b) => b | _ => false
def Vb (ws : Nat) (X : World) : Prop := ∃ v, Va X (ws + 1) 4 #[v]
/-- All blocks but one stay. -/
structure But (c : Nat) (w w' : World) : Prop where
  os : w'.os = w.os
  tape : w'.tape = w.tape
  output : w'.output = w.output
  size : w.heap.size ≤ w'.heap.size
  block : ∀ k, k < w.heap.size → k ≠ c → w'.heap[k]? = w.heap[k]?
theorem But.below {c n : Nat} {w w' : World} (h : But c w w') (hn : n ≤ c) (hs : n ≤ w.heap.size) : Below n w w' := ⟨h.os, h.tape, h.output, h.size, fun k hk => h.block k (by omega) (by omega)⟩
theorem But.step {c : Nat} {w x y : World} (h : But c w x) (hb : Below x.heap.size x y) : But c w y := ⟨hb.os.trans h.os, hb.tape.trans h.tape, hb.output.trans h.output, Nat.le_trans h.size hb.size, fun k hk hc => (hb.block k (Nat.lt_of_lt_of_le hk h.size)).trans (h.block k hk hc)⟩
theorem But.set {c : Nat} {w x : World} (h : But c w x) (v : Value) : But c w (x.setCell ⟨c, 0, none⟩ v) := ⟨h.os, h.tape, h.output, by simpa using h.size, fun k hk hc => (heap_setCell_other x ⟨c, 0, none⟩ k v hc).trans (h.block k hk hc)⟩
theorem But.ls {c : Nat} {w x : World} (h : But c w x) {a : Option Addr} {len : Nat} {ps : List Pr} (hl : Ls w a len ps) (hc : 0 < len → ∀ b off, a = some ⟨b, off, none⟩ → b ≠ c) : Ls x a len ps := by
  refine ⟨hl.1, fun h0 => ?_⟩
  obtain ⟨b, off, e, hcc⟩ := hl.2 h0
  have hne := hc h0 b off e
  have he : ∀ i v, w.cell? ⟨b, i, none⟩ = some v → x.cell? ⟨b, i, none⟩ = some v := fun i v hv => by
    have hbk := h.block b (cell_lt hv) hne
    simp only [World.cell?, hbk] at hv ⊢
    exact hv
  exact ⟨b, off, e, fun i hi => ⟨he _ _ (hcc i hi).1, he _ _ (hcc i hi).2⟩⟩
/-- What holds through the last statement. -/
theorem isS_keep {ws : Nat} {n : Int} {vb : Value} {W2 X y : World} (h : X.cell? ⟨ws + 1 + 1 + 1, 0, none⟩ = some (.int .i64 n) ∧ X.cell? ⟨ws, 0, none⟩ = some vb ∧ X.cell? ⟨ws + 1, 0, none⟩ = some (.bool (rb ws X)) ∧ X.frozen? ⟨ws + 1, 0, none⟩ = false ∧ Hid (But (ws + 1) W2 X ∧ Vb ws X)) (hb : Below X.heap.size X y) : y.cell? ⟨ws + 1 + 1 + 1, 0, none⟩ = some (.int .i64 n) ∧ y.cell? ⟨ws, 0, none⟩ = some vb ∧ y.cell? ⟨ws + 1, 0, none⟩ = some (.bool (rb ws y)) ∧ y.frozen? ⟨ws + 1, 0, none⟩ = false ∧ Hid (But (ws + 1) W2 y ∧ Vb ws y) := by
  obtain ⟨h1, h2, h3, h4, h5⟩ := h
  have e3 := (hb.cell (p := ⟨ws + 1, 0, none⟩) (cell_lt h3)).trans h3
  exact ⟨(hb.cell (p := ⟨ws + 1 + 1 + 1, 0, none⟩) (cell_lt h1)).trans h1, (hb.cell (p := ⟨ws, 0, none⟩) (cell_lt h2)).trans h2, by unfold rb; rw [e3], (frozen_after hb (cell_lt h3)).trans h4, h5.out.1.step hb, by obtain ⟨v, hv⟩ := h5.out.2; exact ⟨v, hv.after hb⟩⟩
theorem isS_set {ws : Nat} {n : Int} {vb : Value} {W2 X : World} (h : X.cell? ⟨ws + 1 + 1 + 1, 0, none⟩ = some (.int .i64 n) ∧ X.cell? ⟨ws, 0, none⟩ = some vb ∧ X.cell? ⟨ws + 1, 0, none⟩ = some (.bool (rb ws X)) ∧ X.frozen? ⟨ws + 1, 0, none⟩ = false ∧ Hid (But (ws + 1) W2 X ∧ Vb ws X)) : (X.setCell ⟨ws + 1, 0, none⟩ (.bool true)).cell? ⟨ws + 1 + 1 + 1, 0, none⟩ = some (.int .i64 n) ∧ (X.setCell ⟨ws + 1, 0, none⟩ (.bool true)).cell? ⟨ws, 0, none⟩ = some vb ∧ (X.setCell ⟨ws + 1, 0, none⟩ (.bool true)).cell? ⟨ws + 1, 0, none⟩ = some (.bool (rb ws (X.setCell ⟨ws + 1, 0, none⟩ (.bool true)))) ∧ (X.setCell ⟨ws + 1, 0, none⟩ (.bool true)).frozen? ⟨ws + 1, 0, none⟩ = false ∧ Hid (But (ws + 1) W2 (X.setCell ⟨ws + 1, 0, none⟩ (.bool true)) ∧ Vb ws (X.setCell ⟨ws + 1, 0, none⟩ (.bool true))) := by
  obtain ⟨h1, h2, h3, h4, h5⟩ := h
  have e3 : (X.setCell ⟨ws + 1, 0, none⟩ (.bool true)).cell? ⟨ws + 1, 0, none⟩ = some (.bool true) := World.cell?_setCell_same' _ _ _ (by rw [h3]; rfl)
  refine ⟨?_, ?_, by unfold rb; rw [e3], by rw [World.frozen?_setCell]; exact h4, h5.out.1.set _, by obtain ⟨v, hv⟩ := h5.out.2; exact ⟨_, hv.set _⟩⟩
  · have := heap_setCell_other X ⟨ws + 1, 0, none⟩ (ws + 1 + 1 + 1) (.bool true) (by show ws + 1 + 1 + 1 ≠ ws + 1; omega)
    simp only [World.cell?] at h1 ⊢
    rw [this]; exact h1
  · have := heap_setCell_other X ⟨ws + 1, 0, none⟩ ws (.bool true) (by show ws ≠ ws + 1; omega)
    simp only [World.cell?] at h2 ⊢
    rw [this]; exact h2
theorem isS_b {ws : Nat} {n : Int} {vb : Value} {W2 X : World} (h : X.cell? ⟨ws + 1 + 1 + 1, 0, none⟩ = some (.int .i64 n) ∧ X.cell? ⟨ws, 0, none⟩ = some vb ∧ X.cell? ⟨ws + 1, 0, none⟩ = some (.bool (rb ws X)) ∧ X.frozen? ⟨ws + 1, 0, none⟩ = false ∧ Hid (But (ws + 1) W2 X ∧ Vb ws X)) : But (ws + 1) W2 X := h.2.2.2.2.out.1
set_option maxRecDepth 100000 in
set_option maxHeartbeats 4000000 in
theorem is_gen (s : Value) (a b : Option Addr) (len cap cb : Nat) (ps : List Pr) (hlen : len ≤ 1000000) (hd : Dn ps) (w : World) (hc : Ls w a len ps) (hb : Ls w b len ps)
    (hSp : ∀ W, Below w.heap.size w W → Calls Try.prog 47 #[s] W fun e w' => e = .returned (itv W.heap.size) ∧ w' = W.alloc (.cells #[.slice a len cap] 31))
    (hDy : ∀ W, Below w.heap.size w W → Calls Try.prog 50 #[s] W fun e w' => e = .returned (.int .i64 (dys ps)) ∧ Below W.heap.size W w') :
    CallsIn Fence.wide 5 Try.prog 19 #[s, .slice b len cb] w fun e w' => e = .returned (.bool true) ∧ Below w.heap.size w w' := by
  have en := eql_itv
  refine callsIn_of_wp_marks Try.func19 rfl trivial ?_ rfl
  unfold itv at hSp
  have hSp2 := hSp ((w.alloc (.cells #[.slice b len cb] 31)).alloc (.cells #[.bool false] 4)) (((Below.refl _ _).alloc (Nat.le_refl _) _).alloc (by simp) _)
  simp only [World.size_alloc] at hSp2
  have HDy : Hid _ := hDy
  clear hSp hDy
  simp only [Try.ntmps19, List.size_toArray, List.length_cons, List.length_nil, Nat.reduceAdd, Nat.reduceSub, Array.replicate_succ, Array.replicate_zero, List.push_toArray, List.append_toArray, List.nil_append, List.cons_append]
  gi_wp2_with (refine ⟨trivial, ?_⟩; gi_at_call 47; refine (callsIn_wide.2 hSp2).mono ?_; rintro e w' ⟨rfl, rfl⟩)
  clear hSp2
  refine ent4 w _ _ _ _ _ _ _ _ (Q := fun W => Code.wpIn Fence.wide 5 Try.prog _ _ _ W) ?_
  intro W0 hB0 hsz V0 V1 V2 V3
  have hlow := hc.low
  have ns := neS
  have hmx : Try.prog.follows .mixedOrders = true := by kernel_rfl
  rename_i K0 hK0
  have rest : ∀ (D : Nat) (W : World) (n : Int), n = min (len : Int) 1 → IsV w (.slice b len cb) (.slice a len cap) n W → W.heap[D]? = some (.deferred (some [])) → w.heap.size + 4 ≤ D → K0 { tmps := #[s, .slice b len cb, undef, .pointer (some ⟨w.heap.size, 0, none⟩), .pointer (some ⟨w.heap.size + 1, 0, none⟩), .func (.func 83) #[] #[.pointer (some ⟨w.heap.size + 1 + 1, 0, none⟩)], .pointer (some ⟨w.heap.size + 1 + 1 + 1, 0, none⟩), undef, undef, undef, s, .func (.func 83) #[] #[.pointer (some ⟨w.heap.size + 1 + 1, 0, none⟩)], .func (.func 83) #[] #[.pointer (some ⟨w.heap.size + 1 + 1, 0, none⟩)], .bool false, .func (.func 83) #[] #[.pointer (some ⟨w.heap.size + 1 + 1, 0, none⟩)], undef, undef, undef, undef, undef, undef, undef, undef, undef, undef, undef, undef, undef, undef, undef, undef, undef, undef, undef, undef, undef, undef, undef, undef, undef, undef, undef, undef, undef, undef, undef, undef, undef, undef, undef, undef, undef, undef], defers := [{ target := .collected D, args := #[] }] } W := by
    intro D W n hn hV hK hD
    apply hK0
    rw [wpIn_wide]
    obtain ⟨v0, v1, v2, v3, hB1, hs1⟩ := hV
    have td := told_st (w.heap.size + 1 + 1) a len cap ps hlen W v2 (hc.after hB1)
    unfold itv at td
    clear hK0
    go_wp2_with (go_at_call 48; refine td.mono ?_; rintro e W2 ⟨v, rfl, hg, hb2⟩)
    have hpl := hc.1
    obtain ⟨av, cv, rfl, -, -, -⟩ := hg.shape
    have HGL : Hid (Ls W2 av len ps) := by have := hg.ls; rw [hpl] at this; exact this
    have HBL : Hid (Ls W2 b len ps) := (hb.after hB1).after hb2
    have HBW : Hid (Below w.heap.size w W2) := step hB1 hb2
    have HW2 : Hid (w.heap.size ≤ W2.heap.size) := (step hB1 hb2).size
    have HNB : Hid (0 < len → ∀ bb off, b = some ⟨bb, off, none⟩ → bb ≠ w.heap.size + 1) := fun h0 bb off e => by have := hb.low h0 bb off e; omega
    have HNA : Hid (0 < len → ∀ bb off, av = some ⟨bb, off, none⟩ → bb ≠ w.heap.size + 1) := fun h0 bb off e => by have := hg.block bb (by rw [e]; rfl); omega
    have HK2 : Hid (W2.heap[D]? = some (.deferred (some []))) := (hb2.block D (Array.getElem?_eq_some_iff.1 hK).1).trans hK
    have u0 := (v0.after hb2).cell
    have u1 := (v1.after hb2).cell
    have f1 := (v1.after hb2).frozen 0
    have u3 := (v3.after hb2).cell
    have HV1 : Hid (Va W2 (w.heap.size + 1) 4 #[.bool false]) := v1.after hb2
    have hS0 : W2.drew.cell? ⟨w.heap.size + 1 + 1 + 1, 0, none⟩ = some (.int .i64 n) ∧ W2.drew.cell? ⟨w.heap.size, 0, none⟩ = some (.slice b len cb) ∧ W2.drew.cell? ⟨w.heap.size + 1, 0, none⟩ = some (.bool (rb w.heap.size W2.drew)) ∧ W2.drew.frozen? ⟨w.heap.size + 1, 0, none⟩ = false ∧ Hid (But (w.heap.size + 1) W2 W2.drew ∧ Vb w.heap.size W2.drew) := ⟨u3, u0, by unfold rb; rw [show W2.drew.cell? ⟨w.heap.size + 1, 0, none⟩ = some (.bool false) from u1], f1, ⟨rfl, rfl, rfl, Nat.le_refl _, fun _ _ _ => rfl⟩, _, HV1.out⟩
    have en1 : (n == min (len : Int) 1) = true := by simp [hn]
    have HHc := HDy
    rw [hpl]
    clear hg hb2 hB1 v0 v1 v2 v3 td hK u0 u1 f1 u3 hn
    go_region_held3 (fun X => X.cell? ⟨w.heap.size + 1 + 1 + 1, 0, none⟩ = some (.int .i64 n) ∧ X.cell? ⟨w.heap.size, 0, none⟩ = some (.slice b len cb) ∧ X.cell? ⟨w.heap.size + 1, 0, none⟩ = some (.bool (rb w.heap.size X)) ∧ X.frozen? ⟨w.heap.size + 1, 0, none⟩ = false ∧ Hid (But (w.heap.size + 1) W2 X ∧ Vb w.heap.size X))
      (first | assumption | exact isS_set (by assumption))
      (first
        | (go_at_call 49; refine (same_any av b len len cv cb ps ps _ ((isS_b (ws := w.heap.size) (n := n) (vb := .slice b len cb) (W2 := W2) (by assumption)).ls HGL.out HNA.out) ((isS_b (ws := w.heap.size) (n := n) (vb := .slice b len cb) (W2 := W2) (by assumption)).ls HBL.out HNB.out) (by omega)).mono ?_; rintro e y ⟨rfl, hby⟩; have hSy := isS_keep (ws := w.heap.size) (n := n) (vb := .slice b len cb) (W2 := W2) (by assumption) hby; rw [decide_eq_true (rfl : ps = ps)])
        | (go_at_call 50; refine (HDy.out _ (HBW.out.trans ((isS_b (ws := w.heap.size) (n := n) (vb := .slice b len cb) (W2 := W2) (by assumption)).below (by omega) HW2.out))).mono ?_; rintro e y ⟨rfl, hby⟩; have hSy := isS_keep (ws := w.heap.size) (n := n) (vb := .slice b len cb) (W2 := W2) (by assumption) hby)
        | (go_at_call 51; refine (rdays_any b len cb ps _ ((isS_b (ws := w.heap.size) (n := n) (vb := .slice b len cb) (W2 := W2) (by assumption)).ls HBL.out HNB.out) hd hlen).mono ?_; rintro e y ⟨rfl, hby⟩; have hSy := isS_keep (ws := w.heap.size) (n := n) (vb := .slice b len cb) (W2 := W2) (by assumption) hby))
    have hBu := isS_b (ws := w.heap.size) (n := n) (vb := .slice b len cb) (W2 := W2) hSy
    obtain ⟨vy, hVy⟩ := hSy.2.2.2.2.out.2
    have HK3 : (y.setCell ⟨w.heap.size + 1, 0, none⟩ (.bool true)).heap[D]? = some (.deferred (some [])) := (heap_setCell_other y ⟨w.heap.size + 1, 0, none⟩ D _ (show D ≠ w.heap.size + 1 by omega)).trans ((hBu.block D (Array.getElem?_eq_some_iff.1 HK2.out).1 (show D ≠ w.heap.size + 1 by omega)).trans HK2.out)
    clear hSy
    go_wp2_with fail
    refine ⟨by simp, .inl ⟨_, _, rfl, run_takeDeferred HK3, ?_⟩⟩
    refine ⟨_, results_cb rfl rfl (putV (hVy.set _) HK3 rfl), rfl, ?_⟩
    have hb4 : Below w.heap.size w (y.setCell ⟨w.heap.size + 1, 0, none⟩ (.bool true)) := (HBW.out.trans (hBu.below (by omega) HW2.out)).setCell (p := ⟨w.heap.size + 1, 0, none⟩) (show w.heap.size ≤ w.heap.size + 1 by omega) _
    exact hb4.trans (belowK_b (w := w) (Nat.le_refl _) _ D _ _ (by omega) HK3 rfl rfl)
  refine wpIn_rangeFunc_ownH rfl (show 1 ≤ 5 by omega) (gf := 83) (lb := #[.pointer (some ⟨w.heap.size + 1 + 1, 0, none⟩)]) rfl trivial (enters_of Try.func83 (by kernel_rfl) rfl)
    (values_stops Fence.wide (5 - 1) trivial rfl (by omega) (w.heap.size + 1 + 1) w.heap.size a len cap ps hlen W0 V2.lt (by omega) hlow V2 (hc.after hB0)) belowK_t (belowK_b (by omega)) (Below.refl _ _) (fun _ => rfl)
    (fun pre W => pre = [] ∧ IsV w (.slice b len cb) (.slice a len cap) 0 W) (IsX w (.slice b len cb) (.slice a len cap) ps)
    (fun s W W' row hs hg hr => ⟨hs.1, isV_own (by omega) hs.2 hg hr⟩) (fun c s W W' row hs hg hr => by
      obtain ⟨x, h1, h2⟩ := hs
      refine ⟨x, h1, ?_⟩
      rcases h2 with ⟨h2, h3⟩ | h2
      · exact .inl ⟨h2, isV_own (by omega) h3 hg hr⟩
      · exact .inr h2) ⟨rfl, V0, V1, V2, V3, hB0, by omega⟩
    (fun x a' W => ∃ Bx, w.heap.size + 1 + 1 + 1 < Bx ∧ Va W Bx 24 #[.int .i64 (ps.getD x (0, 0)).1, .int .i64 (ps.getD x (0, 0)).2] ∧ a' = { tmps := #[s, .slice b len cb, undef, .pointer (some ⟨w.heap.size, 0, none⟩), .pointer (some ⟨w.heap.size + 1, 0, none⟩), .func (.func 83) #[] #[.pointer (some ⟨w.heap.size + 1 + 1, 0, none⟩)], .pointer (some ⟨w.heap.size + 1 + 1 + 1, 0, none⟩), .pointer (some ⟨Bx, 0, none⟩), undef, undef, s, .func (.func 83) #[] #[.pointer (some ⟨w.heap.size + 1 + 1, 0, none⟩)], .func (.func 83) #[] #[.pointer (some ⟨w.heap.size + 1 + 1, 0, none⟩)], .bool false, .func (.func 83) #[] #[.pointer (some ⟨w.heap.size + 1 + 1, 0, none⟩)], .agg #[.int .i64 (ps.getD x (0, 0)).1, .int .i64 (ps.getD x (0, 0)).2], undef, undef, undef, undef, undef, undef, undef, undef, undef, undef, undef, undef, undef, undef, undef, undef, undef, undef, undef, undef, undef, undef, undef, undef, undef, undef, undef, undef, undef, undef, undef, undef, undef, undef, undef, undef, undef], defers := [] })
    (fun x a' _ X Y row hs hg hr => by obtain ⟨Bx, h1, h2, h3⟩ := hs; exact ⟨Bx, h1, h2.own hg (fun r e => (hr r e).2), h3⟩)
    ?assign ?body ?done ?stop
  case assign =>
    rintro l pre x W K hI hK
    have hs6 := hI.2.2.2.2.2.2
    unfold sv
    generalize (ps.getD x (0, 0)).1 = x0 at *
    generalize (ps.getD x (0, 0)).2 = x1 at *
    gi_wp2
    refine hK _ _ ((KeepsOthers.alloc _ _).from _) ((Below.refl _ W).alloc (by omega) _) ?_ ?_
    · exact ⟨hI.1, isV_own (Nat.le_refl _) hI.2 (World.grownBy_alloc W _ none) (fun r e => by cases e)⟩
    · exact ⟨W.heap.size, by omega, Va.new W _ _, rfl⟩
  case body =>
    rintro l pre x a' W hl ⟨r, hr⟩ ⟨rfl, v0, v1, v2, v3, hB1, hs1⟩ ⟨Bx, hBx, bX, rfl⟩ hlt
    have hl0 : 0 < len := by simpa using hlt
    obtain ⟨b2, off, rfl, hcb⟩ := (hb.after hB1).2 hl0
    have d0 := (hcb 0 hl0).1
    have d1 := (hcb 0 hl0).2
    simp only [Nat.zero_mul, Nat.add_zero] at d0 d1
    have q0 := v0.cell
    have q1 := v1.cell
    have f1 := v1.frozen 0
    have q3 := v3.cell
    have f3 := v3.frozen 0
    have c0 := bX.c0
    have c1 := bX.c1
    have hl1 : ¬ ((len : Int) = 0) := by omega
    have hl2 : (0 : Int) < len := by omega
    have HV : Hid (IsV w (.slice (some ⟨b2, off, none⟩) len cb) (.slice a len cap) 0 W) := ⟨v0, v1, v2, v3, hB1, hs1⟩
    clear hr hl hlt hcb
    by_cases he : ps.getD x (0, 0) = ps.getD 0 (0, 0)
    · have es : sp2 (ps.getD x (0, 0)).1 (ps.getD x (0, 0)).2 (ps.getD 0 (0, 0)).1 (ps.getD 0 (0, 0)).2 = true := sp2_true he
      clear he
      generalize (ps.getD x (0, 0)).1 = x0 at *
      generalize (ps.getD x (0, 0)).2 = x1 at *
      generalize (ps.getD 0 (0, 0)).1 = y0 at *
      generalize (ps.getD 0 (0, 0)).2 = y1 at *
      have hb1 : Below w.heap.size W (W.setCell ⟨w.heap.size + 1 + 1 + 1, 0, none⟩ (.int .i64 1)) := (Below.refl _ _).setCell (p := ⟨w.heap.size + 1 + 1 + 1, 0, none⟩) (show w.heap.size ≤ w.heap.size + 1 + 1 + 1 by omega) _
      have hb2 : Below w.heap.size w (W.setCell ⟨w.heap.size + 1 + 1 + 1, 0, none⟩ (.int .i64 1)) := hB1.trans hb1
      have HI : Hid (IsV w (.slice (some ⟨b2, off, none⟩) len cb) (.slice a len cap) 1 (W.setCell ⟨w.heap.size + 1 + 1 + 1, 0, none⟩ (.int .i64 1)).drew) := ⟨v0.other (p := ⟨w.heap.size + 1 + 1 + 1, 0, none⟩) (by show w.heap.size ≠ w.heap.size + 1 + 1 + 1; omega) _, v1.other (p := ⟨w.heap.size + 1 + 1 + 1, 0, none⟩) (by show w.heap.size + 1 ≠ w.heap.size + 1 + 1 + 1; omega) _, v2.other (p := ⟨w.heap.size + 1 + 1 + 1, 0, none⟩) (by show w.heap.size + 1 + 1 ≠ w.heap.size + 1 + 1 + 1; omega) _, v3.set _, ⟨hb2.os, hb2.tape, hb2.output, hb2.size, hb2.block⟩, Nat.le_trans hs1 hb1.size⟩
      gi_wp2
      gi_region_o
      all_goals gi_wp2
      all_goals exact ⟨((KeepsOthers.setCell _ _ _).trans (KeepsOthers.drew _)).from _, x, rfl, .inl ⟨rfl, HI.out⟩⟩
    · have es : sp2 (ps.getD x (0, 0)).1 (ps.getD x (0, 0)).2 (ps.getD 0 (0, 0)).1 (ps.getD 0 (0, 0)).2 = false := sp2_false he
      have HE : Hid _ := he
      clear he
      generalize (ps.getD x (0, 0)).1 = x0 at *
      generalize (ps.getD x (0, 0)).2 = x1 at *
      generalize (ps.getD 0 (0, 0)).1 = y0 at *
      generalize (ps.getD 0 (0, 0)).2 = y1 at *
      gi_wp2
      gi_region_o
      all_goals gi_wp2
      all_goals exact ⟨((KeepsOthers.setCell _ _ _).trans (KeepsOthers.drew _)).from _, x, rfl, .inr ⟨rfl, HE.out⟩⟩
  case done =>
    rintro D ys W hD rfl ⟨he, hV⟩ hK
    have h0 : len = 0 := by simpa using congrArg List.length he
    exact rest D W 0 (by omega) hV hK (by omega)
  case stop =>
    rintro D c pre W hD ⟨k, hk, rfl⟩ ⟨x, hx, hX⟩ hK
    have hk1 : k = 1 := by simpa using congrArg List.length hx
    subst hk1
    rcases hX with ⟨rfl, hV⟩ | ⟨-, hne⟩
    · have := rest D W 1 (by omega) hV hK (by omega)
      gi_wp2
      exact this
    · exfalso
      simp at hx
      rw [← hx] at hne
      exact hne rfl
end Go.Proofs.Ytiabjlaganmloaa
