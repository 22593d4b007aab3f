/-
  Sets that are not there: nil, and one that no call made.
-/
import Derived.Test.YtfkcglfaakkjcaaSpL
namespace Go.Proofs.Ytfkcglfaakkjcaa
open Go.RowKit Go.Shelf
set_option linter.unusedVariables false
attribute [local go_sem] Oper.semAt_some

set_option maxRecDepth 100000 in
set_option maxHeartbeats 4000000 in
theorem days_nilI (a : Option Addr) (len cap : Nat) (ps : List Pr) (hlen : len ≤ 1000000) (hf : Dn ps) (w : World) (hc : Ls w a len ps) (ha : a = none ∧ len = 0 ∧ cap = 0) :
    CallsIn Fence.wide 5 Try.prog 50 #[.pointer none] w fun e w' => e = .returned (.int .i64 (dys ps)) ∧ Below w.heap.size w w' := by
  refine callsIn_of_wp_marks Try.func50 rfl trivial ?_ rfl
  simp only [Try.ntmps50, List.size_toArray, List.length_cons, List.length_nil, Nat.reduceAdd, Nat.reduceSub, Array.replicate_succ, Array.replicate_zero, List.push_toArray, List.append_toArray, List.nil_append, List.cons_append]
  have hsp : Calls Try.prog 47 #[.pointer none] (w.alloc (.cells #[.int .i64 0] 3)) fun e w' => e = .returned (itv (w.alloc (.cells #[.int .i64 0] 3)).heap.size) ∧ w' = (w.alloc (.cells #[.int .i64 0] 3)).alloc (.cells #[.slice a len cap] 31) := by
    obtain ⟨rfl, rfl, rfl⟩ := ha
    exact spans_nil _
  clear ha
  unfold itv at hsp
  gi_wp2_with (refine ⟨trivial, ?_⟩; gi_at_call 47; refine (callsIn_wide.2 hsp).mono ?_; rintro e w' ⟨rfl, rfl⟩)
  clear hsp
  refine ent2 w _ _ _ _ (Q := fun W => Code.wpIn Fence.wide 5 Try.prog _ _ _ W) ?_
  intro W0 hB0 hsz V0 V1
  have hlow := hc.low
  refine wpIn_rangeFunc_ownH rfl (show 1 ≤ 5 by omega) (gf := 83) (lb := #[.pointer (some ⟨w.heap.size + 1, 0, none⟩)]) rfl trivial (enters_of Try.func83 (by kernel_rfl) rfl)
    (values_stops Fence.wide (5 - 1) trivial rfl (by omega) (w.heap.size + 1) w.heap.size a len cap ps hlen W0 V1.lt (by omega) hlow V1 (hc.after hB0)) belowK_t (belowK_b (by omega)) (Below.refl _ _) (fun _ => rfl)
    (DyI w ps) (fun _ _ _ => False) (dyI_own w ps _ (by omega)) (fun _ _ _ _ _ hs _ _ => hs) ⟨V0, hB0, by omega⟩
    (fun x a' W => ∃ Bx, Bx ≠ w.heap.size ∧ Va W Bx 24 #[.int .i64 (ps.getD x (0, 0)).1, .int .i64 (ps.getD x (0, 0)).2] ∧ a' = { tmps := #[.pointer none, undef, .int .i64 0, .pointer (some ⟨w.heap.size, 0, none⟩), .pointer (some ⟨Bx, 0, none⟩), .pointer none, .func (.func 83) #[] #[.pointer (some ⟨w.heap.size + 1, 0, none⟩)], .agg #[.int .i64 (ps.getD x (0, 0)).1, .int .i64 (ps.getD x (0, 0)).2], undef, undef, undef, undef, undef, undef, undef, undef], defers := [] })
    (fun x a' _ X Y row hs hg hr => by obtain ⟨Bx, h1, h2, h3⟩ := hs; exact ⟨Bx, h1, h2.own hg (fun r e => (hr r e).2), h3⟩)
    ?assign ?body ?done ?stop
  case assign =>
    rintro l pre x W K hI hK
    unfold sv
    generalize (ps.getD x (0, 0)).1 = x0 at *
    generalize (ps.getD x (0, 0)).2 = x1 at *
    gi_wp2
    refine hK _ _ ((KeepsOthers.alloc _ _).from _) ((Below.refl _ W).alloc (by have := hI.2.2; omega) _) ?_ ?_
    · exact dyI_own w ps w.heap.size (Nat.le_refl _) _ _ _ none hI (World.grownBy_alloc W _ none) (fun r e => by cases e)
    · exact ⟨W.heap.size, by have := hI.2.2; omega, Va.new W _ _, rfl⟩
  case body =>
    rintro l pre x a' W hl ⟨r, hr⟩ ⟨hv, hB1, hs1⟩ ⟨Bx, hne, bX, rfl⟩ hlt
    have HE : Hid (dys (at_ ps (pre ++ [x])) = dys (at_ ps pre) + ((ps.getD x (0, 0)).2 - (ps.getD x (0, 0)).1)) := by show _ = _; rw [at_snoc, dys_snoc]
    have b1 := dn_at hf x
    have b2 := dys_dn (dn_pre hf pre)
    rw [at_length] at b2
    generalize (ps.getD x (0, 0)).1 = x0 at *
    generalize (ps.getD x (0, 0)).2 = x1 at *
    generalize dys (at_ ps pre) = n at *
    have q0 := hv.cell
    have f0 := hv.frozen 0
    have c0 := bX.c0
    have c1 := bX.c1
    have w1 : IntKind.i64.wrap (x1 - x0) = x1 - x0 := by rw [IntKind.wrap_i64]; omega
    have w2 : IntKind.i64.wrap (n + (x1 - x0)) = n + (x1 - x0) := by rw [IntKind.wrap_i64]; omega
    clear hlt hr hl b1 b2
    gi_wp2
    have hb : Below w.heap.size W (W.setCell ⟨w.heap.size, 0, none⟩ (.int .i64 (n + (x1 - x0)))) := (Below.refl _ _).setCell (p := ⟨w.heap.size, 0, none⟩) (Nat.le_refl _) _
    exact ⟨(KeepsOthers.setCell _ _ _).from _, hb, by rw [HE.out]; exact hv.set _, hB1.trans hb, Nat.le_trans hs1 hb.size⟩
  case done =>
    rintro D ys W hD rfl ⟨hv, hB1, hs1⟩ hK
    have q0 := hv.cell
    have HL : at_ ps (List.range len) = ps := by rw [← hc.1]; exact at_range ps
    rw [HL] at q0
    gi_wp2
    refine ⟨by simp, .inl ⟨_, _, rfl, run_takeDeferred hK, ?_⟩⟩
    exact ⟨_, results_tmp rfl _ _ _, rfl, hB1.trans (belowK_b (w := w) (Nat.le_refl _) W D _ _ (by omega) hK rfl rfl)⟩
  case stop =>
    rintro D c pre W hD hS h hK
    exact h.elim
theorem dn_nil : Dn [] := Few.nil.dn
theorem days_nil (w : World) : Calls Try.prog 50 #[.pointer none] w fun e w' => e = .returned (.int .i64 (dys [])) ∧ Below w.heap.size w w' := callsIn_wide.1 (days_nilI none 0 0 [] (by omega) dn_nil w (Ls.nil w none) ⟨rfl, rfl, rfl⟩)
set_option maxHeartbeats 1000000 in
theorem has_nil (d : Int) (w : World) :
    Calls Try.prog 20 #[.pointer none, .int .i64 d] w fun e w' => e = .returned (.bool (false)) ∧ Below w.heap.size w w' := by
  have h1 := list_nil w
  have h2 := reaching_any none 0 0 [] d w Few.nil (Ls.nil w none) (by omega)
  go_enter Try.func20, Try.ntmps20
  go_wp2_with (go_at_call 52; refine h1.mono ?_; rintro e w' ⟨rfl, rfl⟩)
  go_at_call 53
  refine h2.mono ?_
  rintro e w2 ⟨k, rfl, hk, hb⟩
  have hle := hk.out.1
  obtain rfl : k = 0 := by simpa using hle
  clear h1 h2 hk hle
  go_wp2_with fail
  go_ret
  exact ⟨rfl, hb⟩
theorem is_nil (w : World) : Calls Try.prog 19 #[.pointer none, .slice none 0 0] w fun e w' => e = .returned (.bool true) ∧ Below w.heap.size w w' :=
  callsIn_wide.1 (is_gen (.pointer none) none none 0 0 0 [] (by omega) dn_nil w (Ls.nil w none) (Ls.nil w none) (fun W _ => spans_nil W) (fun W _ => days_nil W))
theorem is_zero (p : Nat) (w : World) (V : Va w p 94 #[.slice none 0 0, .bool false]) : Calls Try.prog 19 #[.pointer (some ⟨p, 0, none⟩), .slice none 0 0] w fun e w' => e = .returned (.bool true) ∧ Below w.heap.size w w' :=
  callsIn_wide.1 (is_gen (.pointer (some ⟨p, 0, none⟩)) none none 0 0 0 [] (by omega) dn_nil w (Ls.nil w none) (Ls.nil w none) (fun W hB => spans_any p none 0 0 false W (V.after hB)) (fun W hB => callsIn_wide.1 (days_list p none 0 0 false [] (by omega) dn_nil W (V.after hB) (Ls.nil W none))))
theorem has_zero (p : Nat) (d : Int) (w : World) (V : Va w p 94 #[.slice none 0 0, .bool false]) : Calls Try.prog 20 #[.pointer (some ⟨p, 0, none⟩), .int .i64 d] w fun e w' => e = .returned (.bool false) ∧ Below w.heap.size w w' := by
  have := has_list p none 0 0 false [] d w Few.nil V (Ls.nil w none) (by omega)
  rwa [inB_false (inS_nil d)] at this
/-- A set that is not there. -/
inductive No (w : World) : Value → Prop
  | nil : No w (.pointer none)
  | zero (p : Nat) (V : Va w p 94 #[.slice none 0 0, .bool false]) : No w (.pointer (some ⟨p, 0, none⟩))
theorem No.after {w w' : World} {v : Value} (h : No w v) (hb : Below w.heap.size w w') : No w' v := by
  cases h with
  | nil => exact .nil
  | zero p V => exact .zero p (V.after hb)
theorem there_no {w : World} {v : Value} (h : No w v) : Calls Try.prog 54 #[v] w fun e w' => e = .returned (.bool false) ∧ w' = w := by
  cases h with
  | nil => exact there_nil w
  | zero p V => exact there_any p _ false w V
theorem is_no {w : World} {v : Value} (h : No w v) : Calls Try.prog 19 #[v, .slice none 0 0] w fun e w' => e = .returned (.bool true) ∧ Below w.heap.size w w' := by
  cases h with
  | nil => exact is_nil w
  | zero p V => exact is_zero p w V
theorem has_no {w : World} {v : Value} (d : Int) (h : No w v) : Calls Try.prog 20 #[v, .int .i64 d] w fun e w' => e = .returned (.bool false) ∧ Below w.heap.size w w' := by
  cases h with
  | nil => exact has_nil d w
  | zero p V => exact has_zero p d w V
theorem union_no {w : World} {q : Option Addr} {u : Value} (h : No w (.pointer q)) : Calls Try.prog 23 #[.pointer q, u] w fun e w' => e = .returned (.tuple #[.pointer none, .int .i64 1]) ∧ Below w.heap.size w w' := by
  have t := there_no h
  go_enter Try.func23, Try.ntmps23
  go_wp2_with fail
  refine t.mono ?_
  rintro e w1 ⟨rfl, hw1⟩
  rw [hw1]
  clear hw1 w1
  go_wp2_with fail
  go_ret2
  exact ⟨rfl, Below.refl _ _⟩
theorem cut_no {w : World} {q : Option Addr} (p : Nat) (l : Value) (V : Va w p 94 #[l, .bool true]) (h : No w (.pointer q)) : Calls Try.prog 24 #[.pointer (some ⟨p, 0, none⟩), .pointer q] w fun e w' => e = .returned (.tuple #[.pointer none, .int .i64 1]) ∧ Below w.heap.size w w' := by
  have hb : Below w.heap.size w (w.alloc (.cells #[.pointer q] 34)) := (Below.refl _ _).alloc (Nat.le_refl _) _
  have t := there_any p l true _ (V.after hb)
  have t2 := there_no (h.after hb)
  go_enter Try.func24, Try.ntmps24
  go_wp2_with fail
  refine t.mono ?_
  rintro e w1 ⟨rfl, hw1⟩
  rw [hw1]
  clear hw1 w1
  go_wp2_with fail
  refine t2.mono ?_
  rintro e w1 ⟨rfl, hw1⟩
  rw [hw1]
  clear hw1 w1
  go_wp2_with fail
  go_ret2
  exact ⟨rfl, hb⟩
theorem minus_no {w : World} {q r : Option Addr} (h : No w (.pointer q)) : Calls Try.prog 25 #[.pointer q, .pointer r] w fun e w' => e = .returned (.tuple #[.pointer none, .int .i64 1]) ∧ Below w.heap.size w w' := by
  have hb : Below w.heap.size w (w.alloc (.cells #[.pointer r] 34)) := (Below.refl _ _).alloc (Nat.le_refl _) _
  have t := there_no (h.after hb)
  go_enter Try.func25, Try.ntmps25
  go_wp2_with fail
  refine t.mono ?_
  rintro e w1 ⟨rfl, hw1⟩
  rw [hw1]
  clear hw1 w1
  go_wp2_with fail
  go_ret2
  exact ⟨rfl, hb⟩
end Go.Proofs.Ytfkcglfaakkjcaa
