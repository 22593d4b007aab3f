/-
  slices.Values over a list of spans; the spans of a set as an iterator; what an iterator tells, gathered; how many days a set has.
-/
import Derived.Test.YtiabjlaganmloaaSp1
namespace Go.Proofs.Ytiabjlaganmloaa
open Go.RowKit Go.Shelf
set_option linter.unusedVariables false
attribute [local go_sem] Oper.semAt_some

/-- The span at a place, as a value. -/
def sv (ps : List Pr) (j : Nat) : Value := .agg #[.int .i64 (ps.getD j (0, 0)).1, .int .i64 (ps.getD j (0, 0)).2]

set_option maxRecDepth 100000 in
set_option maxHeartbeats 2000000 in
theorem values1_in (F : Fence) (n : Nat) (hf : F.fn 83) (hro : F.round = none) (hn : 1 ≤ n) (l Bs n₀ : Nat) (a : Option Addr) (len cap : Nat) (ps : List Pr) (hlen : len ≤ 1000000) (hlow : lowA n₀ a len) (J Jx : List Nat → World → Prop)
    (hJa : ∀ s W (o : Obj), J s W → J s (W.alloc o))
    (hY : ∀ pre (x : Nat) W, J pre W → pre.length < len → YieldAt F (n - 1) Try.prog l #[sv ps x] W fun e W' =>
      (e = .returned (.bool true) ∧ J (pre ++ [x]) W' ∧ Below n₀ W W') ∨ (e = .returned (.bool false) ∧ Jx (pre ++ [x]) W'))
    (W : World) (hn₀ : n₀ ≤ W.heap.size) (hBs : W.cell? ⟨Bs, 0, none⟩ = some (.slice a len cap)) (hc : Ls W a len ps) (h0 : J [] W) :
    CallsIn F n Try.prog 83 #[.func (.yield l) #[] #[], .pointer (some ⟨Bs, 0, none⟩)] W fun e W' => (∃ v, e = .returned v) ∧
      ((∃ ys, ys = List.range len ∧ J ys W') ∨ (∃ pre, (∃ k, k ≤ len ∧ pre = List.range k) ∧ Jx pre W')) := by
  refine callsIn_of_wp Try.func83 rfl hf ?_ hro
  simp only [Try.ntmps83, List.size_toArray, List.length_cons, List.length_nil, Nat.reduceAdd, Nat.reduceSub, Array.replicate_succ, Array.replicate_zero, List.push_toArray, List.append_toArray, List.nil_append, List.cons_append]
  gi_wp2
  gi_loopw [7] (fun i wr => ∃ k : Nat, k ≤ len ∧ i = .int .i64 (k : Int) ∧ J (List.range k) wr ∧ Below n₀ W wr)
    (fun i _ => len - (intOf i).toNat)
  case atStart => exact ⟨0, Nat.zero_le _, by go_num, by simpa using h0, Below.refl _ _⟩
  case round =>
    obtain ⟨k, hk, rfl, hJs, hnx⟩ := hrel
    by_cases hlt : k < len
    · have hcx := hc.below hnx hlow
      obtain ⟨b, off, rfl, hcell⟩ := hcx.2 (by omega)
      have c0 := (hcell k hlt).1
      have c1 := (hcell k hlt).2
      have hkl : (k : Int) < len := by omega
      obtain ⟨fn, tmps, assign, body, hy, hR⟩ := hY _ k _ (hJa _ wr (.cells #[.int .i64 (ps.getD k (0, 0)).1, .int .i64 (ps.getD k (0, 0)).2] 24) hJs) (by rw [List.length_range]; exact hlt)
      have HB : Hid (Below n₀ W wr) := hnx
      have hs0 : n₀ ≤ wr.heap.size := Nat.le_trans hn₀ hnx.size
      clear hcell hcx hc hJs hlt hnx hlow
      unfold sv at hy
      generalize (ps.getD k (0, 0)).1 = x0 at *
      generalize (ps.getD k (0, 0)).2 = x1 at *
      gi_wp2
      refine hR.mono ?_
      rintro e W3 (⟨rfl, hJ3, hk3⟩ | ⟨rfl, hJx3⟩)
      · gi_wp2
        go_roundw
        case rel => exact ⟨k + 1, by omega, by go_num, by rw [List.range_succ]; exact hJ3, HB.out.trans (((Below.refl _ wr).alloc hs0 _).trans hk3)⟩
        case measure => simp [intOf]; omega
      · gi_wp2
        refine bodyPost_ret (results_none rfl _ _ _) rfl ?_
        exact ⟨⟨_, rfl⟩, .inr ⟨_, ⟨k + 1, by omega, by rw [List.range_succ]⟩, hJx3⟩⟩
    · have hkl : ¬ (k : Int) < len := by omega
      obtain rfl : k = len := by omega
      gi_wp2
      go_end0
      exact ⟨⟨_, rfl⟩, .inl hJs⟩

set_option maxHeartbeats 1000000 in
theorem values_in (F : Fence) (n : Nat) (hf : F.fn 75) (hro : F.round = none) (a : Option Addr) (len cap : Nat) (w : World) :
    CallsIn F n Try.prog 75 #[.slice a len cap] w fun e w' => e = .returned (.func (.func 83) #[] #[.pointer (some ⟨w.heap.size, 0, none⟩)]) ∧ w' = w.alloc (.cells #[.slice a len cap] 31) := by
  refine callsIn_of_wp Try.func75 rfl hf ?_ hro
  simp only [Try.ntmps75, List.size_toArray, List.length_cons, List.length_nil, Nat.reduceAdd, Nat.reduceSub, Array.replicate_succ, Array.replicate_zero, List.push_toArray, List.append_toArray, List.nil_append, List.cons_append]
  gi_wp2
  go_ret
  exact ⟨rfl, rfl⟩
/-- An iterator over the spans of a list. -/
def itv (Bs : Nat) : Value := .func (.func 83) #[] #[.pointer (some ⟨Bs, 0, none⟩)]
/-- slices.Values hands back a value that gives the spans, one behind the other. -/
theorem values_stops (F : Fence) (n : Nat) (hf : F.fn 83) (hro : F.round = none) (hn : 1 ≤ n) (Bs n₀ : Nat) (a : Option Addr) (len cap : Nat) (ps : List Pr) (hlen : len ≤ 1000000) (w : World) (hBl : Bs < w.heap.size) (hn₀ : n₀ ≤ w.heap.size) (hlow : lowA n₀ a len)
    (hBs : Va w Bs 31 #[.slice a len cap]) (hc : Ls w a len ps) :
    SeqStopsK F n Try.prog 83 #[.pointer (some ⟨Bs, 0, none⟩)] (fun x : Nat => #[sv ps x]) (Below n₀) (fun ys => ys = List.range len) (fun pre => ∃ k, k ≤ len ∧ pre = List.range k) len w := fun l J Jx W hW hJ _ hY h0 =>
  values1_in F n hf hro hn l Bs n₀ a len cap ps hlen hlow J Jx (fun s W o h => hJ s W _ none h (World.grownBy_alloc W _ none) (fun r e => by cases e)) (fun pre x W h hp => hY pre x W h hp) W (Nat.le_trans hn₀ hW.size) (hBs.below hW hBl).cell (hc.after hW) h0
/-- The spans of a set as an iterator. -/
theorem spans_any (p : Nat) (a : Option Addr) (len cap : Nat) (m : Bool) (w : World) (V : Va w p 94 #[.slice a len cap, .bool m]) :
    Calls Try.prog 47 #[.pointer (some ⟨p, 0, none⟩)] w fun e w' => e = .returned (itv w.heap.size) ∧ w' = w.alloc (.cells #[.slice a len cap] 31) := by
  have h1 := list_any p a len cap m w V
  have h2 := callsIn_wide.1 (values_in Fence.wide 3 trivial rfl a len cap w)
  unfold itv
  go_enter Try.func47, Try.ntmps47
  go_wp2_with (first
    | (go_at_call 52; refine h1.mono ?_; rintro e w' ⟨rfl, rfl⟩)
    | (go_at_call 75; refine h2.mono ?_; rintro e w' ⟨rfl, rfl⟩))
  go_ret
  exact ⟨rfl, rfl⟩
theorem spans_nil (w : World) :
    Calls Try.prog 47 #[.pointer none] w fun e w' => e = .returned (itv w.heap.size) ∧ w' = w.alloc (.cells #[.slice none 0 0] 31) := by
  have h1 := list_nil w
  have h2 := callsIn_wide.1 (values_in Fence.wide 3 trivial rfl none 0 0 w)
  unfold itv
  go_enter Try.func47, Try.ntmps47
  go_wp2_with (first
    | (go_at_call 52; refine h1.mono ?_; rintro e w' ⟨rfl, rfl⟩)
    | (go_at_call 75; refine h2.mono ?_; rintro e w' ⟨rfl, rfl⟩))
  go_ret
  exact ⟨rfl, rfl⟩
end Go.Proofs.Ytiabjlaganmloaa
