/-
  A list of numbers that grows by append.
-/
import Derived.Test.YtpfbcicjfnfpgaaBase
import Derived.Test.YtpfbcicjfnfpgaaGrow
import Derived.Laws.MakeOwn
namespace Go.Proofs.Ytpfbcicjfnfpgaa
open Go.RowKit Go.Shelf
set_option linter.unusedVariables false

/-- A list of numbers that grows in memory of the call's own. -/
def Grn (w : World) (B : Nat) (v : Value) (ss : List Value) : Prop := w.ownsRow B 25 1 v ss.length ss
theorem Grn.nil (w : World) (B : Nat) : Grn w B (.slice none 0 0) [] := ⟨rfl, .inl ⟨rfl, rfl⟩⟩
theorem Grn.block {w : World} {B : Nat} {v : Value} {ss : List Value} (h : Grn w B v ss) : ∀ k, v.ownBlock = some k → B ≤ k := by
  obtain ⟨h1, h2 | ⟨g, cap, cur, rfl, hB, hh, hc, hm, hs, ht⟩⟩ := h
  · obtain ⟨rfl, h0⟩ := h2
    intro k hk; cases hk
  · intro k hk; cases hk; exact hB
theorem Grn.after {w w' : World} {B : Nat} {v : Value} {ss : List Value} (hb : Below w.heap.size w w') (h : Grn w B v ss) : Grn w' B v ss := by
  obtain ⟨h1, h2 | ⟨g, cap, cur, e, hB, hh, hc, hm, hs, ht⟩⟩ := h
  · exact ⟨h1, .inl h2⟩
  · refine ⟨h1, .inr ⟨g, cap, cur, e, hB, ?_, hc, hm, hs, ht⟩⟩
    have hlt : g < w.heap.size := by
      rcases Nat.lt_or_ge g w.heap.size with h' | h'
      · exact h'
      · rw [Array.getElem?_eq_none h'] at hh; cases hh
    rw [hb.block g hlt]; exact hh
theorem infoN : (Try.prog.info? 25).map (fun i => (i.zero, i.size, i.bytes)) = some (some (.agg #[.slice none 0 0]), 1, 24) := by kernel_rfl
/-- append of one number to a list of numbers; all blocks but its own stay. -/
theorem wpList_appn {ops : Array Oper} {rest : List Oper} {o : Oper} {a : Act} {w : World} {Q : Exit → Act → World → Prop} (hgd : o.guard = none) (s x : Operand)
    (ho : o.op = .call { callee := .builtin .append, args := #[s, x], argTypes := #[98, 98] })
    (B : Nat) (v : Value) (ss : List Value) (hs : a.eval s = v) (hg : Grn w B v ss) (b c : Nat) (p : Option Addr) (m k : Nat) (hx : a.eval x = .slice (some ⟨b, 0, none⟩) 1 c) (hn : w.cell? ⟨b, 0, none⟩ = some (.slice p m k))
    (hb : ss.length + 1 ≤ 1000000) (hB : B ≤ w.heap.size)
    (h : ∀ v' w', Hid (Grn w' B v' (ss ++ [.slice p m k])) → Below B w w' → Hid (∀ k, k < w.heap.size → some k ≠ v.ownBlock → w'.heap[k]? = w.heap[k]?) → wpList Try.prog ops Q rest (a.put o.dst v') w') : wpList Try.prog ops Q (o :: rest) a w := by
  obtain ⟨i0, hi, hz0, hz1, hz2⟩ := info_parts infoN
  refine wpList_append_own w hgd s x _ ho B 25 i0 (.agg #[.slice none 0 0]) 1 24 Try.underlying98 hi hz0 hz1 hz2 rfl (by decide) v ss.length ss hs hg ⟨b, 0, none⟩ 1 c [.slice p m k] hx (by simp) ?_ ?_ (by unfold maxLen; omega) (by omega) hB ?_
  · intro j u hu
    cases j with
    | zero => simp at hu; subst hu; exact hn
    | succ j => simp at hu
  · intro v hv
    simp at hv; subst hv; rfl
  · intro v' w' h2 h3 _
    refine h v' w' ?_ ((Below.refl B w).grown h3 hB hg.block) (fun k hk hne => h3.block k hk hne)
    show Grn w' B v' (ss ++ [.slice p m k])
    unfold Grn
    rw [List.length_append]
    exact h2

theorem Grn.lies {w : World} {B : Nat} {v : Value} {ss : List Value} (h : Grn w B v ss) (h0 : 0 < ss.length) : ∃ g cap, v = .slice (some ⟨g, 0, none⟩) ss.length cap ∧ ss.length ≤ cap ∧ g < w.heap.size ∧ ∀ i x, ss[i]? = some x → w.cell? ⟨g, i, none⟩ = some x := by
  obtain ⟨h1, h2 | ⟨g, cap, cur, rfl, hB, hh, hc, hm, hs, ht⟩⟩ := h
  · obtain ⟨rfl, h0'⟩ := h2
    omega
  · refine ⟨g, cap, rfl, hc, (Array.getElem?_eq_some_iff.1 hh).1, fun i x hx => ?_⟩
    have hi : i < ss.length := by
      rcases Nat.lt_or_ge i ss.length with h' | h'
      · exact h'
      · rw [List.getElem?_eq_none h'] at hx; cases hx
    rw [← ht, Nat.mul_one, List.getElem?_take_of_lt hi] at hx
    simp only [World.cell?, hh]
    simpa using hx
end Go.Proofs.Ytpfbcicjfnfpgaa
