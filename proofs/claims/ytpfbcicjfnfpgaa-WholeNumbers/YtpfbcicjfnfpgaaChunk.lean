/-
  slices.Chunk by twos over a list of numbers: the pieces of two, the last of one or two.
-/
import Derived.Test.YtpfbcicjfnfpgaaBackw
import Derived.BigRegionIn
namespace Go.Proofs.Ytpfbcicjfnfpgaa
open Go.RowKit Go.Shelf
set_option linter.unusedVariables false
attribute [local go_sem] Oper.semAt_some

/-- How many stand in piece j. -/
def cl (len j : Nat) : Nat := min 2 (len - 2 * j)
/-- What a round keeps. -/
def Kc (n₀ Bs Bn : Nat) (W W' : World) : Prop := Below n₀ W W' ∧ (∀ v, Boxed W Bs 98 v → Boxed W' Bs 98 v) ∧ ∀ v, Boxed W Bn 3 v → Boxed W' Bn 3 v
theorem Kc.refl (n₀ Bs Bn : Nat) (W : World) : Kc n₀ Bs Bn W W := ⟨Below.refl _ _, fun _ h => h, fun _ h => h⟩
theorem kc_t {n₀ Bs Bn : Nat} {A B C : World} (h : Kc n₀ Bs Bn A B) (k : Kc n₀ Bs Bn B C) : Kc n₀ Bs Bn A C := ⟨h.1.trans k.1, fun v x => k.2.1 v (h.2.1 v x), fun v x => k.2.2 v (h.2.2 v x)⟩
theorem kc_b {n₀ Bs Bn : Nat} {w : World} (hn : n₀ ≤ w.heap.size) (W : World) (l : Nat) (o o' : Obj) (hl : w.heap.size ≤ l) (h : W.heap[l]? = some o) (hc : o.isCells = false) (hw : o.isWalk = false) : Kc n₀ Bs Bn W (W.putObj l o') := by
  have one : ∀ {B : Nat} {t : TypeId} {v : Value}, Boxed W B t v → Boxed (W.putObj l o') B t v := fun {B t v} x => x.kept (grownBy_putObj' W l o') (fun e => by
    have e' : B = l := by simpa using e
    rw [← e', show W.heap[B]? = _ from x] at h
    cases h
    cases hc)
  exact ⟨belowK_b hn W l o o' hl h hc hw, fun v x => one x, fun v x => one x⟩

set_option maxRecDepth 100000 in
set_option maxHeartbeats 4000000 in
theorem chunk1_in (F : Fence) (n : Nat) (hf : F.fn 89) (hro : F.round = none) (hn : 1 ≤ n) (l Bs Bn n₀ b off len cap : Nat) (hlen : len ≤ 1000000) (hcap : len ≤ cap) (J Jx : List Nat → World → Prop) (hJd : ∀ s W, J s W → J s W.drew)
    (hY : ∀ pre (x : Nat) W, J pre W → pre.length < (len + 1) / 2 → x = pre.length → YieldAt F (n - 1) Try.prog l #[.slice (some ⟨b, off + 2 * x, none⟩) (cl len x) (cl len x)] W fun e W' =>
      (e = .returned (.bool true) ∧ J (pre ++ [x]) W' ∧ Kc n₀ Bs Bn W W') ∨ (e = .returned (.bool false) ∧ Jx (pre ++ [x]) W'))
    (W : World) (hBs : Boxed W Bs 98 (.slice (some ⟨b, off, none⟩) len cap)) (hBn : Boxed W Bn 3 (.int .i64 2)) (h0 : J [] W) :
    CallsIn F n Try.prog 89 #[.func (.yield l) #[] #[], .pointer (some ⟨Bs, 0, none⟩), .pointer (some ⟨Bn, 0, none⟩)] W fun e W' => (∃ v, e = .returned v) ∧
      ((∃ ys, ys = List.range ((len + 1) / 2) ∧ J ys W') ∨ (∃ pre, (∃ k, k ≤ (len + 1) / 2 ∧ pre = List.range k) ∧ Jx pre W')) := by
  refine callsIn_of_wp Try.func89 rfl hf ?_ hro
  simp only [Try.ntmps89, List.size_toArray, List.length_cons, List.length_nil, Nat.reduceAdd, Nat.reduceSub, Array.replicate_succ, Array.replicate_zero, List.push_toArray, List.append_toArray, List.nil_append, List.cons_append]
  gi_wp2
  gi_loopw [4] (fun i wr => ∃ m k : Nat, m = 2 * k ∧ k ≤ (len + 1) / 2 ∧ i = .int .i64 (m : Int) ∧ J (List.range k) wr ∧ Kc n₀ Bs Bn W wr)
    (fun i _ => len + 2 - (intOf i).toNat)
  case atStart => exact ⟨0, 0, rfl, Nat.zero_le _, by go_num, by simpa using h0, Kc.refl _ _ _ _⟩
  case round =>
    obtain ⟨m, k, hm, hk, rfl, hJs, hnx⟩ := hrel
    have hBw := (hnx.2.1 _ hBs).cell
    have hNw := (hnx.2.2 _ hBn).cell
    by_cases hlt : m < len
    · obtain ⟨c, hc⟩ : ∃ c, cl len k = c := ⟨_, rfl⟩
      have hc2 : c = 2 ∨ c = 1 := by unfold cl at hc; omega
      have hc3 : m + c ≤ len := by unfold cl at hc; omega
      have hc4 : min (2 : Int) ((len - m : Nat) : Int) = c := by unfold cl at hc; omega
      have hc5 : ((m : Int) + c).toNat - m = c := by omega
      have hc6 : ¬ cap = m := by omega
      have hc7 : c ≤ 2 := by omega
      obtain ⟨fn, tmps, assign, body, hy, hR⟩ := hY _ k wr.drew (hJd _ _ hJs) (by rw [List.length_range]; omega) (by rw [List.length_range])
      have HM : Hid (m = 2 * k) := hm
      rw [← hm, hc] at hy
      have HX : Hid _ := hnx
      have hmb : m ≤ 1000000 := by omega
      have hmn : m ≤ len := by omega
      have hml : (m : Int) < len := by omega
      clear hm hJs hc hnx hlt
      gi_wp2
      gi_region
      all_goals gi_wp2
      all_goals (refine hR.mono ?_)
      all_goals (rintro e W3 (⟨rfl, hJ3, hk3⟩ | ⟨rfl, hJx3⟩))
      all_goals first
        | (have hk4 : Kc n₀ Bs Bn wr W3 := ⟨⟨hk3.1.os, hk3.1.tape, hk3.1.output, hk3.1.size, hk3.1.block⟩, hk3.2.1, hk3.2.2⟩
           have hBw3 := (hk4.2.1 _ (HX.out.2.1 _ hBs)).cell
           have hNw3 := (hk4.2.2 _ (HX.out.2.2 _ hBn)).cell
           gi_wp2
           go_roundw
           case rel => exact ⟨m + 2, k + 1, by have := HM.out; omega, by have := HM.out; omega, by go_num, by rw [List.range_succ]; exact hJ3, kc_t HX.out hk4⟩
           case measure => simp [intOf]; omega)
        | (gi_wp2
           refine bodyPost_ret (results_none rfl _ _ _) rfl ?_
           exact ⟨⟨_, rfl⟩, .inr ⟨_, ⟨k + 1, by have := HM.out; omega, by rw [List.range_succ]⟩, hJx3⟩⟩)
    · have hml : ¬ (m : Int) < len := by omega
      gi_wp2
      go_end0
      exact ⟨⟨_, rfl⟩, .inl (by rw [show (len + 1) / 2 = k by omega]; exact hJs)⟩

set_option maxHeartbeats 1000000 in
theorem chunk_in (F : Fence) (n : Nat) (hf : F.fn 75) (hro : F.round = none) (a : Option Addr) (len cap : Nat) (w : World) :
    CallsIn F n Try.prog 75 #[.slice a len cap, .int .i64 2] w fun e w' => e = .returned (.func (.func 89) #[] #[.pointer (some ⟨w.heap.size, 0, none⟩), .pointer (some ⟨w.heap.size + 1, 0, none⟩)]) ∧ w' = (w.alloc (.cells #[.slice a len cap] 98)).alloc (.cells #[.int .i64 2] 3) := by
  refine callsIn_of_wp Try.func75 rfl hf ?_ hro
  simp only [Try.ntmps75, List.size_toArray, List.length_cons, List.length_nil, Nat.reduceAdd, Nat.reduceSub, Array.replicate_succ, Array.replicate_zero, List.push_toArray, List.append_toArray, List.nil_append, List.cons_append]
  gi_wp2
  go_ret
  exact ⟨rfl, rfl⟩

/-- slices.Chunk hands back a value that gives the pieces of two. -/
theorem chunk_stops (F : Fence) (n : Nat) (hf : F.fn 89) (hro : F.round = none) (hn : 1 ≤ n) (Bs Bn n₀ b off len cap : Nat) (hlen : len ≤ 1000000) (hcap : len ≤ cap) (w : World) (hBl : Bs < w.heap.size) (hNl : Bn < w.heap.size)
    (hBs : Boxed w Bs 98 (.slice (some ⟨b, off, none⟩) len cap)) (hBn : Boxed w Bn 3 (.int .i64 2)) :
    SeqStopsK F n Try.prog 89 #[.pointer (some ⟨Bs, 0, none⟩), .pointer (some ⟨Bn, 0, none⟩)] (fun x : Nat => #[Value.slice (some ⟨b, off + 2 * x, none⟩) (cl len x) (cl len x)]) (Kc n₀ Bs Bn) (fun ys => ys = List.range ((len + 1) / 2)) (fun pre => ∃ k, k ≤ (len + 1) / 2 ∧ pre = List.range k) ((len + 1) / 2) w := fun l J Jx W hW hJ _ hY h0 =>
  chunk1_in F n hf hro hn l Bs Bn n₀ b off len cap hlen hcap J Jx (fun s W h => hJ s W _ none h ⟨rfl, rfl, rfl, Nat.le_refl _, fun _ _ _ => rfl⟩ (fun r e => by cases e)) (fun pre x W h hp _ => hY pre x W h hp) W ((hW.block Bs hBl).trans hBs) ((hW.block Bn hNl).trans hBn) h0
end Go.Proofs.Ytpfbcicjfnfpgaa
