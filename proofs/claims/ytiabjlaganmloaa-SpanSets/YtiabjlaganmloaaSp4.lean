/-
  How many days a set has; two lists of spans held one against the other; the document's Days.
-/
import Derived.Test.YtiabjlaganmloaaSp3
namespace Go.Proofs.Ytiabjlaganmloaa
open Go.RowKit Go.Shelf
set_option linter.unusedVariables false
attribute [local go_sem] Oper.semAt_some

/-- What stands between two rounds. -/
def DyI (w : World) (ps : List Pr) (pre : List Nat) (W : World) : Prop := Va W w.heap.size 3 #[.int .i64 (dys (at_ ps pre))] ∧ Below w.heap.size w W ∧ w.heap.size + 1 ≤ W.heap.size
theorem dyI_own (w : World) (ps : List Pr) (n : Nat) (hn : w.heap.size ≤ n) : OwnFrom n (DyI w ps) := by
  intro s W W' row hs hg hr
  obtain ⟨h1, h3, h4⟩ := hs
  exact ⟨h1.own hg (fun r e => (hr r e).2), belowOwn hn hg (fun r e => (hr r e).1) h3 (by omega), Nat.le_trans h4 hg.size⟩
/-- Spans whose numbers are days. -/
def Dn (ps : List Pr) : Prop := ∀ p ∈ ps, 0 ≤ p.1 ∧ p.1 ≤ p.2 ∧ p.2 ≤ 3652059
theorem Few.dn {ps : List Pr} (h : Few ps) : Dn ps := fun p hp => by have := h.1 p hp; unfold May at this; omega
theorem dn_at {ps : List Pr} (h : Dn ps) (x : Nat) : 0 ≤ (ps.getD x (0, 0)).1 ∧ (ps.getD x (0, 0)).1 ≤ (ps.getD x (0, 0)).2 ∧ (ps.getD x (0, 0)).2 ≤ 3652059 := by
  rw [List.getD_eq_getElem?_getD]
  cases hx : ps[x]? with
  | none => simp
  | some p => exact h p (List.mem_of_getElem? hx)
theorem dys_dn {ps : List Pr} (h : Dn ps) : 0 ≤ dys ps ∧ dys ps ≤ 3652059 * ps.length := by
  induction ps with
  | nil => simp [dys]
  | cons p l ih =>
    rw [dys_cons, List.length_cons]
    have h1 := h p (List.mem_cons_self ..)
    have h2 := ih (fun q hq => h q (List.mem_cons_of_mem _ hq))
    omega
theorem dn_pre {ps : List Pr} (h : Dn ps) (pre : List Nat) : Dn (at_ ps pre) := by
  intro p hp
  simp only [at_, List.mem_map] at hp
  obtain ⟨x, -, rfl⟩ := hp
  exact dn_at h x

set_option maxRecDepth 100000 in
set_option maxHeartbeats 4000000 in
theorem days_list (p : Nat) (a : Option Addr) (len cap : Nat) (m : Bool) (ps : List Pr) (hlen : len ≤ 1000000) (hf : Dn ps) (w : World) (V : Va w p 94 #[.slice a len cap, .bool m]) (hc : Ls w a len ps) :
    CallsIn Fence.wide 5 Try.prog 50 #[.pointer (some ⟨p, 0, none⟩)] w fun e w' => e = .returned (.int .i64 (dys ps)) ∧ Below w.heap.size w w' := by
  refine callsIn_of_wp_marks Try.func50 rfl trivial ?_ rfl
  simp only [Try.ntmps50, List.size_toArray, List.length_cons, List.length_nil, Nat.reduceAdd, Nat.reduceSub, Array.replicate_succ, Array.replicate_zero, List.push_toArray, List.append_toArray, List.nil_append, List.cons_append]
  have hsp := spans_any p a len cap m (w.alloc (.cells #[.int .i64 0] 3)) (V.old _)
  unfold itv at hsp
  gi_wp2_with (refine ⟨trivial, ?_⟩; gi_at_call 47; refine (callsIn_wide.2 hsp).mono ?_; rintro e w' ⟨rfl, rfl⟩)
  clear hsp
  refine ent2 w _ _ _ _ (Q := fun W => Code.wpIn Fence.wide 5 Try.prog _ _ _ W) ?_
  intro W0 hB0 hsz V0 V1
  have hlow := hc.low
  refine wpIn_rangeFunc_ownH rfl (show 1 ≤ 5 by omega) (gf := 83) (lb := #[.pointer (some ⟨w.heap.size + 1, 0, none⟩)]) rfl trivial (enters_of Try.func83 (by kernel_rfl) rfl)
    (values_stops Fence.wide (5 - 1) trivial rfl (by omega) (w.heap.size + 1) w.heap.size a len cap ps hlen W0 V1.lt (by omega) hlow V1 (hc.after hB0)) belowK_t (belowK_b (by omega)) (Below.refl _ _) (fun _ => rfl)
    (DyI w ps) (fun _ _ _ => False) (dyI_own w ps _ (by omega)) (fun _ _ _ _ _ hs _ _ => hs) ⟨V0, hB0, by omega⟩
    (fun x a' W => ∃ Bx, Bx ≠ w.heap.size ∧ Va W Bx 24 #[.int .i64 (ps.getD x (0, 0)).1, .int .i64 (ps.getD x (0, 0)).2] ∧ a' = { tmps := #[.pointer (some ⟨p, 0, none⟩), undef, .int .i64 0, .pointer (some ⟨w.heap.size, 0, none⟩), .pointer (some ⟨Bx, 0, none⟩), .pointer (some ⟨p, 0, none⟩), .func (.func 83) #[] #[.pointer (some ⟨w.heap.size + 1, 0, none⟩)], .agg #[.int .i64 (ps.getD x (0, 0)).1, .int .i64 (ps.getD x (0, 0)).2], undef, undef, undef, undef, undef, undef, undef, undef], defers := [] })
    (fun x a' _ X Y row hs hg hr => by obtain ⟨Bx, h1, h2, h3⟩ := hs; exact ⟨Bx, h1, h2.own hg (fun r e => (hr r e).2), h3⟩)
    ?assign ?body ?done ?stop
  case assign =>
    rintro l pre x W K hI hK
    unfold sv
    generalize (ps.getD x (0, 0)).1 = x0 at *
    generalize (ps.getD x (0, 0)).2 = x1 at *
    gi_wp2
    refine hK _ _ ((KeepsOthers.alloc _ _).from _) ((Below.refl _ W).alloc (by have := hI.2.2; omega) _) ?_ ?_
    · exact dyI_own w ps w.heap.size (Nat.le_refl _) _ _ _ none hI (World.grownBy_alloc W _ none) (fun r e => by cases e)
    · exact ⟨W.heap.size, by have := hI.2.2; omega, Va.new W _ _, rfl⟩
  case body =>
    rintro l pre x a' W hl ⟨r, hr⟩ ⟨hv, hB1, hs1⟩ ⟨Bx, hne, bX, rfl⟩ hlt
    have HE : Hid (dys (at_ ps (pre ++ [x])) = dys (at_ ps pre) + ((ps.getD x (0, 0)).2 - (ps.getD x (0, 0)).1)) := by show _ = _; rw [at_snoc, dys_snoc]
    have b1 := dn_at hf x
    have b2 := dys_dn (dn_pre hf pre)
    rw [at_length] at b2
    generalize (ps.getD x (0, 0)).1 = x0 at *
    generalize (ps.getD x (0, 0)).2 = x1 at *
    generalize dys (at_ ps pre) = n at *
    have q0 := hv.cell
    have f0 := hv.frozen 0
    have c0 := bX.c0
    have c1 := bX.c1
    have w1 : IntKind.i64.wrap (x1 - x0) = x1 - x0 := by rw [IntKind.wrap_i64]; omega
    have w2 : IntKind.i64.wrap (n + (x1 - x0)) = n + (x1 - x0) := by rw [IntKind.wrap_i64]; omega
    clear hlt hr hl b1 b2
    gi_wp2
    have hb : Below w.heap.size W (W.setCell ⟨w.heap.size, 0, none⟩ (.int .i64 (n + (x1 - x0)))) := (Below.refl _ _).setCell (p := ⟨w.heap.size, 0, none⟩) (Nat.le_refl _) _
    exact ⟨(KeepsOthers.setCell _ _ _).from _, hb, by rw [HE.out]; exact hv.set _, hB1.trans hb, Nat.le_trans hs1 hb.size⟩
  case done =>
    rintro D ys W hD rfl ⟨hv, hB1, hs1⟩ hK
    have q0 := hv.cell
    have HL : at_ ps (List.range len) = ps := by rw [← hc.1]; exact at_range ps
    rw [HL] at q0
    gi_wp2
    refine ⟨by simp, .inl ⟨_, _, rfl, run_takeDeferred hK, ?_⟩⟩
    exact ⟨_, results_tmp rfl _ _ _, rfl, hB1.trans (belowK_b (w := w) (Nat.le_refl _) W D _ _ (by omega) hK rfl rfl)⟩
  case stop =>
    rintro D c pre W hD hS h hK
    exact h.elim
theorem days_any (p : Nat) (ps : List Pr) (w : World) (h : St w p ps) :
    Calls Try.prog 50 #[.pointer (some ⟨p, 0, none⟩)] w fun e w' => e = .returned (.int .i64 (dys ps)) ∧ Below w.heap.size w w' := by
  obtain ⟨h1, h2, a, cap, h3, h4, h5, h6⟩ := h
  exact callsIn_wide.1 (days_list p a ps.length cap true ps (by omega) h1.dn w h3 h5)
theorem told_st (Bs : Nat) (a : Option Addr) (len cap : Nat) (ps : List Pr) (hlen : len ≤ 1000000) (w : World) (hBs : Va w Bs 31 #[.slice a len cap]) (hc : Ls w a len ps) :
    Calls Try.prog 48 #[itv Bs] w fun e w' => ∃ v, e = .returned (.tuple #[v, .bool true]) ∧ Gs w' w.heap.size v ps ∧ Below w.heap.size w w' := callsIn_wide.1 (told_any Bs a len cap ps hlen w hBs hc)

set_option maxHeartbeats 1000000 in
theorem same_any (a b : Option Addr) (la lb ca cb : Nat) (ps qs : List Pr) (w : World) (h : Ls w a la ps) (k : Ls w b lb qs) (hl : la ≤ 4000000000000) :
    Calls Try.prog 49 #[.slice a la ca, .slice b lb cb] w fun e w' => e = .returned (.bool (decide (ps = qs))) ∧ Below w.heap.size w w' := by
  by_cases hne : la = lb
  · subst hne
    have ns := neS
    go_enter Try.func49, Try.ntmps49
    go_wp2_with fail
    go_loopw [5] (fun i wr => ∃ k q : Nat, k ≤ la ∧ i = .int .i64 (k : Int) ∧ wr = w.drewN q ∧ Hid (∀ j, j < k → ps.getD j (0, 0) = qs.getD j (0, 0))) (fun i _ => la - (intOf i).toNat)
    case atStart => exact ⟨0, 0, Nat.zero_le _, rfl, rfl, fun j hj => absurd hj (Nat.not_lt_zero _)⟩
    case round =>
      obtain ⟨k', q, hk, rfl, rfl, hI⟩ := hrel
      by_cases hlt : k' < la
      · have hlz : (k' : Int) < la := by omega
        obtain ⟨b1, o1, rfl, hc1⟩ := h.2 (by omega)
        obtain ⟨b2, o2, rfl, hc2⟩ := k.2 (by omega)
        have c0 := (hc1 k' hlt).1
        have c1 := (hc1 k' hlt).2
        have d0 := (hc2 k' hlt).1
        have d1 := (hc2 k' hlt).2
        by_cases he : ps.getD k' (0, 0) = qs.getD k' (0, 0)
        · have es : sp2 (ps.getD k' (0, 0)).1 (ps.getD k' (0, 0)).2 (qs.getD k' (0, 0)).1 (qs.getD k' (0, 0)).2 = true := sp2_true he
          have HH : Hid (∀ j, j < k' + 1 → ps.getD j (0, 0) = qs.getD j (0, 0)) := fun j hj => by
            by_cases h' : j = k'
            · rw [h']; exact he
            · exact hI.out j (by omega)
          clear he hc1 hc2 hI
          generalize (ps.getD k' (0, 0)).1 = x0 at *
          generalize (ps.getD k' (0, 0)).2 = x1 at *
          generalize (qs.getD k' (0, 0)).1 = y0 at *
          generalize (qs.getD k' (0, 0)).2 = y1 at *
          go_wp2_with fail
          go_quiet (fail)
          go_wp2_with fail
          go_roundw
          case rel => exact ⟨k' + 1, q + nq, by omega, by go_num, rfl, HH⟩
          case measure => simp [intOf]; omega
        · have es : sp2 (ps.getD k' (0, 0)).1 (ps.getD k' (0, 0)).2 (qs.getD k' (0, 0)).1 (qs.getD k' (0, 0)).2 = false := sp2_false he
          have e0 : decide (ps = qs) = false := decide_eq_false (fun e => he (by rw [e]))
          have HE : Hid (decide (ps = qs) = false) := e0
          clear he hc1 hc2 hI e0
          generalize (ps.getD k' (0, 0)).1 = x0 at *
          generalize (ps.getD k' (0, 0)).2 = x1 at *
          generalize (qs.getD k' (0, 0)).1 = y0 at *
          generalize (qs.getD k' (0, 0)).2 = y1 at *
          go_wp2_with fail
          go_quiet (fail)
          go_wp2_with fail
          go_ret
          exact ⟨by rw [HE.out]; rfl, below_drewN (below_drewN (Below.refl _ _) _) _⟩
      · have hlz : ¬ (k' : Int) < la := by omega
        have e0 : decide (ps = qs) = true := decide_eq_true (List.ext_getElem (by rw [h.1, k.1]) (fun i h1 h2 => by
          have := hI.out i (by have := h.1; omega)
          simpa [List.getD_eq_getElem?_getD, h1, h2] using this))
        have HE : Hid (decide (ps = qs) = true) := e0
        clear e0 hI
        go_wp2_with fail
        go_ret
        exact ⟨by rw [HE.out]; rfl, below_drewN (Below.refl _ _) _⟩
  · have e0 : decide (ps = qs) = false := by
      refine decide_eq_false (fun e => hne ?_)
      rw [← h.1, ← k.1, e]
    rw [e0]
    have hne' : ((la : Int) != lb) = true := by simp; omega
    go_enter Try.func49, Try.ntmps49
    go_wp2_with fail
    go_ret
    exact ⟨rfl, Below.refl _ _⟩
end Go.Proofs.Ytiabjlaganmloaa
