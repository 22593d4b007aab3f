/-
  Lines of time that have no entries: nil, one that no call made, New of no entries.
-/
import Derived.Test.YtfkcglfaakkjcaaNoA
namespace Go.Proofs.Ytfkcglfaakkjcaa
open Go.RowKit Go.Shelf
set_option linter.unusedVariables false
attribute [local go_sem] Oper.semAt_some

/-- A line with no entries. -/
inductive NoL (w : World) : Option Addr → Prop
  | nil : NoL w none
  | zero (p : Nat) (V : Va w p 97 #[.slice none 0 0]) : NoL w (some ⟨p, 0, none⟩)
theorem NoL.after {w w' : World} {q : Option Addr} (h : NoL w q) (hb : Below w.heap.size w w') : NoL w' q := by
  cases h with
  | nil => exact .nil
  | zero p V => exact .zero p (V.after hb)
theorem llist_no {w : World} {q : Option Addr} (h : NoL w q) : Calls Try.prog 62 #[.pointer q] w fun e w' => e = .returned (.slice none 0 0) ∧ w' = w := by
  cases h with
  | nil =>
    go_enter Try.func62, Try.ntmps62
    go_wp2_with fail
    go_ret
    exact ⟨rfl, rfl⟩
  | zero p V =>
    have c0 := V.cell
    go_enter Try.func62, Try.ntmps62
    go_wp2_with fail
    go_ret
    exact ⟨rfl, rfl⟩
theorem llen_no {w : World} {q : Option Addr} (h : NoL w q) : Calls Try.prog 33 #[.pointer q] w fun e w' => e = .returned (.int .i64 0) ∧ w' = w := by
  have h1 := llist_no h
  go_enter Try.func33, Try.ntmps33
  go_wp2_with fail
  refine h1.mono ?_
  rintro e w1 ⟨rfl, hw1⟩
  rw [hw1]
  clear hw1 w1
  go_wp2_with fail
  go_ret
  exact ⟨rfl, rfl⟩
/-- The iterator over a line's entries. -/
def itl (B : Nat) : Value := .func (.func 63) #[] #[.pointer (some ⟨B, 0, none⟩)]
theorem lall_no {w : World} {q : Option Addr} (h : NoL w q) : Calls Try.prog 35 #[.pointer q] w fun e w' => e = .returned (itl w.heap.size) ∧ w' = w.alloc (.cells #[.slice none 0 0] 49) := by
  have h1 := llist_no h
  unfold itl
  go_enter Try.func35, Try.ntmps35
  go_wp2_with fail
  refine h1.mono ?_
  rintro e w1 ⟨rfl, hw1⟩
  rw [hw1]
  clear hw1 w1
  go_wp2_with fail
  go_ret
  exact ⟨rfl, rfl⟩
theorem lat_no (d : Int) {w : World} {q : Option Addr} (h : NoL w q) : Calls Try.prog 37 #[.pointer q, .int .i64 d] w fun e w' => e = .returned (.tuple #[.int .i64 0, .bool false]) ∧ Below w.heap.size w w' := by
  have hb : Below w.heap.size w (w.alloc (.cells #[.int .i64 d] 22)) := (Below.refl _ _).alloc (Nat.le_refl _) _
  have h1 := llist_no (h.after hb)
  have eg : ∀ args w, (callFunc 64 args).run Try.prog w = .ok (.enter 64 args) w := enters_of Try.func64 (by kernel_rfl) rfl
  have hS : ∀ cb W0, Calls Try.prog 59 #[.int .i64 0, .func (.func 64) #[] cb] W0 fun e w' => e = .returned (.int .i64 0) ∧ Below W0.heap.size W0 w' := by
    intro cb W0
    have hS := Any.sort_Search Try.searchL 64 cb 0 (fun i => true) W0 eg (by omega) (fun m os i hi => absurd hi (Nat.not_lt_zero _)) (fun x y h4 h5 h6 => absurd h5 (Nat.not_lt_zero _))
    change Calls Try.prog 59 _ _ _ at hS
    refine hS.mono ?_
    rintro e w' ⟨rfl, q, os, rfl⟩
    exact ⟨rfl, grown_below W0 q os⟩
  clear eg
  have HS : Hid _ := hS
  clear hS
  go_enter Try.func37, Try.ntmps37
  go_wp2_with fail
  refine h1.mono ?_
  rintro e w1 ⟨rfl, hw1⟩
  rw [hw1]
  clear hw1 w1 h1
  go_wp2_with (go_at_call 59; refine ent2 w _ _ _ _ (Q := fun W => Calls _ _ _ W _) ?_; intro W0 hB0 hsz V0 V1; refine (HS.out _ W0).mono ?_; rintro e w2 ⟨rfl, hb2⟩; have q1 := (V1.after hb2).cell; have hb3 : Below w.heap.size w w2 := step hB0 hb2; clear hB0 hb2 V0 V1)
  go_quiet (fail)
  go_wp2_with fail
  go_ret2
  exact ⟨rfl, below_drewN hb3 _⟩
theorem eqIn_itl (w : World) (d f : Nat) (cb : Array Value) : Sem.run Try.prog (Op.equalIn (d + 1) 66 (.func (.func f) #[] cb) .nilFunc) w = .ok false w := by
  simp [Op.equalIn, run_underlying Try.underlying66]
theorem eql_itl (w : World) (f : Nat) (cb : Array Value) : Sem.run Try.prog (binOp .eql 66 (.func (.func f) #[] cb) .nilFunc) w = .ok (.bool false) w := by
  simp only [binOp]
  simp [Op.equal, Op.maxDepth, eqIn_itl w 9999]
theorem all1_no (n : Nat) (hn : 1 ≤ n) (B n₀ : Nat) (w : World) (hBl : B < w.heap.size) (hV : Va w B 49 #[.slice none 0 0]) :
    SeqStopsK Fence.wide n Try.prog 63 #[.pointer (some ⟨B, 0, none⟩)] (fun x : Nat => #[.agg #[.int .i64 0, .int .i64 0], .int .i64 0]) (Below n₀) (fun ys => ys = []) (fun pre => pre = []) 0 w := fun l J Jx W hW hJ _ hY h0 => by
  have q0 := (hV.below hW hBl).cell
  refine callsIn_of_wp Try.func63 rfl trivial ?_ rfl
  simp only [Try.ntmps63, List.size_toArray, List.length_cons, List.length_nil, Nat.reduceAdd, Nat.reduceSub, Array.replicate_succ, Array.replicate_zero, List.push_toArray, List.append_toArray, List.nil_append, List.cons_append]
  clear hY hV hJ
  rw [wpIn_wide]
  go_wp2_with fail
  refine wp_loop_rounds 1 ?_
  rw [rounds_succ]
  go_wp2_with fail
  go_end0
  exact ⟨⟨_, rfl⟩, .inl ⟨_, rfl, h0⟩⟩
end Go.Proofs.Ytfkcglfaakkjcaa
