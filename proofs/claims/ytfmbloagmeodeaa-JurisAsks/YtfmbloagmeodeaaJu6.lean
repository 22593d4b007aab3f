/-
  juris: Deep, Meet.
-/
import Derived.Test.YtfmbloagmeodeaaJu5
namespace Go.Proofs.Ytfmbloagmeodeaa
open Go.RowKit Go.Shelf
set_option linter.unusedVariables false
attribute [local go_sem] Oper.semAt_some

theorem deep_no {w : World} {q a : Option Addr} {len cap : Nat} {ps : List Int} {m : Bool} (h : Tv w q a len cap ps m) (i : Int) (hc : ckI m len i ≠ 0) :
    Calls Try.prog 18 #[.pointer q, .int .i64 i] w fun e w' => e = .returned (.tuple #[.int .i64 0, .int .i64 (ckI m len i)]) ∧ w' = w := by
  have h1 := check_any h i
  clear h
  generalize ckI m len i = c at *
  go_enter Try.func18, Try.ntmps18
  go_wp2_with (go_at_call 38; refine h1.mono ?_; rintro e w1 ⟨rfl, rfl⟩)
  go_ret2
  exact ⟨rfl, rfl⟩
theorem parent_no {w : World} {q a : Option Addr} {len cap : Nat} {ps : List Int} {m : Bool} (h : Tv w q a len cap ps m) (i : Int) (hc : ckI m len i ≠ 0) :
    Calls Try.prog 17 #[.pointer q, .int .i64 i] w fun e w' => e = .returned (.tuple #[.int .i64 0, .int .i64 (ckI m len i)]) ∧ w' = w := by
  have h1 := check_any h i
  clear h
  generalize ckI m len i = c at *
  go_enter Try.func17, Try.ntmps17
  go_wp2_with (go_at_call 38; refine h1.mono ?_; rintro e w1 ⟨rfl, rfl⟩)
  go_ret2
  exact ⟨rfl, rfl⟩
theorem ck_ok {n i : Nat} (hi : i < n) : ckI true n i = 0 := by
  have : plB n i = true := by simp [plB]; omega
  simp [ckI, this]
theorem Tv.parts {w : World} {q a : Option Addr} {len cap : Nat} {ps : List Int} (h : Tv w q a len cap ps true) : ∃ p, q = Option.some ⟨p, 0, none⟩ ∧ Va w p 50 #[.slice a len cap, .bool true] ∧ Li w a len ps := by
  cases h with
  | some p _ _ _ _ V L => exact ⟨p, rfl, V, L⟩
theorem parent_ok {w : World} {q a : Option Addr} {cap : Nat} {ps : List Int} (h : Tv w q a ps.length cap ps true) (i : Nat) (hi : i < ps.length) :
    Calls Try.prog 17 #[.pointer q, .int .i64 (i : Int)] w fun e w' => e = .returned (.tuple #[.int .i64 (ps.getD i (-1)), .int .i64 0]) ∧ w' = w := by
  have h1 := check_any h i
  rw [ck_ok hi] at h1
  obtain ⟨p, rfl, V, L⟩ := h.parts
  obtain ⟨b, off, rfl, hc⟩ := L.at hi
  have c0 := V.c0
  have hii : (i : Int) < ps.length := by omega
  clear V L h
  generalize ps.getD i (-1) = x at *
  generalize ps.length = len at *
  go_enter Try.func17, Try.ntmps17
  go_wp2_with (go_at_call 38; refine h1.mono ?_; rintro e w1 ⟨rfl, hw⟩; rw [hw]; clear hw w1)
  go_ret2
  exact ⟨rfl, rfl⟩
/-- What stands between two rounds of Deep. -/
def DeI (w : World) {ps : List Int} (pre : List (Pc ps)) (W : World) : Prop := Va W w.heap.size 3 #[.int .i64 ((pre.length : Int) - 1)] ∧ Below w.heap.size w W ∧ w.heap.size + 3 ≤ W.heap.size
theorem deI_own (w : World) (ps : List Int) (n : Nat) (hn : w.heap.size ≤ n) : OwnFrom n (DeI w (ps := ps)) := by
  intro s W W' row hs hg hr
  obtain ⟨h1, h3, h4⟩ := hs
  exact ⟨h1.own hg (fun r e => (hr r e).2), belowOwn hn hg (fun r e => (hr r e).1) h3 (by omega), Nat.le_trans h4 hg.size⟩
theorem pthZ_len {ps : List Int} (hT : Tre ps) (i : Int) : (pthZ ps i).length ≤ ps.length := by
  unfold pthZ
  split
  · next h =>
    have h' : 0 ≤ i ∧ i < ps.length := by simpa [plB] using h
    obtain ⟨d, hd, hD⟩ := hT.dee (i := i.toNat) (by omega)
    rw [pth_len hD (by omega)]; omega
  · simp
set_option maxRecDepth 100000 in
set_option maxHeartbeats 4000000 in
theorem deep_ok {w : World} {q a : Option Addr} {cap : Nat} {ps : List Int} (h : Tv w q a ps.length cap ps true) (hT : Tre ps) (hl : ps.length ≤ 1000000) (i : Nat) (hi : i < ps.length) :
    Calls Try.prog 18 #[.pointer q, .int .i64 (i : Int)] w fun e w' => e = .returned (.tuple #[.int .i64 (((pthZ ps i).length : Int) - 1), .int .i64 0]) ∧ Below w.heap.size w w' := by
  have h1 := check_any h i
  rw [ck_ok hi] at h1
  have HT : Hid (Tv w q a ps.length cap ps true) := h
  have hP := ptc_any hT i
  have HP : Hid (Ptc ps (stZ ps.length i) (pthZ ps i)) := hP
  have hlow := h.li.low
  have hpl := pthZ_len hT i
  clear h hP
  refine (callsIn_wide (n := 5)).1 ?_
  refine callsIn_of_wp_marks Try.func18 rfl trivial ?_ rfl
  simp only [Try.ntmps18, List.size_toArray, List.length_cons, List.length_nil, Nat.reduceAdd, Nat.reduceSub, Array.replicate_succ, Array.replicate_zero, List.push_toArray, List.append_toArray, List.nil_append, List.cons_append]
  gi_wp2_with (first
    | (refine ⟨trivial, ?_⟩; gi_at_call 38; refine (callsIn_wide.2 h1).mono ?_; rintro e w1 ⟨rfl, hw⟩; rw [hw]; clear hw w1)
    | (refine ⟨trivial, ?_⟩; gi_at_call 39; refine ent1 w _ _ (Q := fun W => CallsIn _ _ _ _ _ W _) ?_; intro W0 hB0 hs0 V0; refine (callsIn_wide.2 (path_any (HT.out.after hB0) i)).mono ?_; rintro e W1 ⟨rfl, Vi, Vp, hB1, hs1⟩; rw [hs0] at Vi Vp hs1; unfold itp))
  have hBw : Below w.heap.size w W1 := step hB0 hB1
  have hLi := (HT.out.after hBw).li
  refine wpIn_rangeFunc_ownH rfl (show 1 ≤ 5 by omega) (gf := 48) (lb := #[.pointer (some ⟨w.heap.size + 1, 0, none⟩), .pointer (some ⟨w.heap.size + 1 + 1, 0, none⟩)]) rfl trivial (enters_of Try.func48 (by kernel_rfl) rfl)
    (path_stops Fence.wide (5 - 1) trivial rfl (by omega) (w.heap.size + 1) (w.heap.size + 1 + 1) w.heap.size a cap ps _ _ HP.out hl W1 hlow (by omega) Vi Vp hLi) kp2_t (kp2_b (by omega) (by omega)) (Below.refl _ _) (fun _ => rfl)
    (DeI w) (fun _ _ _ => False) (deI_own w ps _ (by omega)) (fun _ _ _ _ _ hs _ _ => hs) ⟨V0.after hB1, hBw, by omega⟩
    (fun x a' W => a' = { tmps := #[.pointer q, .int .i64 (i : Int), undef, undef, .int .i64 0, .int .i64 0, .int .i64 0, .pointer (some ⟨w.heap.size, 0, none⟩), .pointer q, .int .i64 (i : Int), .int .i64 0, .int .i64 0, .bool false, undef, .pointer q, .int .i64 (i : Int), .func (.func 48) #[] #[.pointer (some ⟨w.heap.size + 1, 0, none⟩), .pointer (some ⟨w.heap.size + 1 + 1, 0, none⟩)], .int .i64 (x.1 : Int), undef, undef, undef], defers := [] })
    (fun _ _ _ _ _ _ hs _ _ => hs)
    ?assign ?body ?done ?stop
  case assign =>
    rintro l pre x W K hI hK
    gi_wp2
    exact hK _ _ (KeepsFrom.refl _ _) (Kp2.refl _ _ _) hI (by simp)
  case body =>
    rintro l pre x a' W hl' ⟨r, hr⟩ ⟨h1, h3, h4⟩ rfl hlt
    have c0 := h1.cell
    have f0 := h1.frozen 0
    clear hl' hr
    gi_wp2
    refine ⟨(KeepsOthers.setCell _ _ _).from _, Kp2.set W (p := ⟨w.heap.size, 0, none⟩) (Nat.le_refl _) (by simp; omega) _, ?_, h3.setCell (p := ⟨w.heap.size, 0, none⟩) (Nat.le_refl _) _, by simpa using h4⟩
    have h9 := h1.set (.int .i64 (pre.length : Int))
    have e : (((pre ++ [x]).length : Int) - 1) = (pre.length : Int) := by simp
    rw [e]
    exact h9
  case done =>
    rintro D ys W hD hys ⟨h1, h3, h4⟩ hK
    have c1 := h1.cell
    have he : (ys.length : Int) = (pthZ ps i).length := by rw [← hys, vals_length]
    gi_wp2
    refine ⟨by simp, .inl ⟨_, _, rfl, run_takeDeferred hK, ?_⟩⟩
    refine ⟨_, results_tmp2 rfl _ _ _, ?_, h3.trans (belowK_b (w := w) (Nat.le_refl _) _ D _ _ (by omega) hK rfl rfl)⟩
    rw [← he]; rfl
  case stop =>
    rintro D c pre W hD hpre h hK
    exact h.elim
end Go.Proofs.Ytfmbloagmeodeaa
