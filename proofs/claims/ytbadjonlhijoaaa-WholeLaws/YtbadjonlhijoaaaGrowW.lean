/-
  A list of whole numbers that grows by append: two cells each.
-/
import Derived.Test.YtbadjonlhijoaaaOrdP
import Derived.Test.YtbadjonlhijoaaaGrow
namespace Go.Proofs.Ytbadjonlhijoaaa
open Go.RowKit Go.Shelf
set_option linter.unusedVariables false

abbrev W4 := Bool × Option Addr × Nat × Nat
def flat (ps : List W4) : List Value := ps.flatMap (fun p => [.bool p.1, .slice p.2.1 p.2.2.1 p.2.2.2])
theorem flat_snoc (ps : List W4) (p : W4) : flat (ps ++ [p]) = flat ps ++ [.bool p.1, .slice p.2.1 p.2.2.1 p.2.2.2] := by simp [flat]
theorem flat_length (ps : List W4) : (flat ps).length = ps.length * 2 := by
  induction ps with
  | nil => rfl
  | cons p ps ih => simp only [flat, List.flatMap_cons, List.length_append, List.length_cons, List.length_nil] at *; omega
/-- A list of whole numbers in memory of the call's own. -/
def Grw (w : World) (B : Nat) (v : Value) (ps : List W4) : Prop := w.ownsRow B 27 2 v ps.length (flat ps)
theorem Grw.nil (w : World) (B : Nat) : Grw w B (.slice none 0 0) [] := ⟨rfl, .inl ⟨rfl, rfl⟩⟩
theorem Grw.block {w : World} {B : Nat} {v : Value} {ss : List W4} (h : Grw w B v ss) : ∀ k, v.ownBlock = some k → B ≤ k := by
  obtain ⟨h1, h2 | ⟨g, cap, cur, rfl, hB, hh, hc, hm, hs, ht⟩⟩ := h
  · obtain ⟨rfl, h0⟩ := h2
    intro k hk; cases hk
  · intro k hk; cases hk; exact hB
theorem Grw.after {w w' : World} {B : Nat} {v : Value} {ss : List W4} (hb : Below w.heap.size w w') (h : Grw w B v ss) : Grw w' B v ss := by
  obtain ⟨h1, h2 | ⟨g, cap, cur, e, hB, hh, hc, hm, hs, ht⟩⟩ := h
  · exact ⟨h1, .inl h2⟩
  · refine ⟨h1, .inr ⟨g, cap, cur, e, hB, ?_, hc, hm, hs, ht⟩⟩
    rw [hb.block g (Array.getElem?_eq_some_iff.1 hh).1]; exact hh
theorem infoW : (Try.prog.info? 27).map (fun i => (i.zero, i.size, i.bytes)) = some (some (.agg #[.bool false, .slice none 0 0]), 2, 32) := by kernel_rfl
/-- append of one whole number; all blocks but the list's own stay. -/
theorem wpList_appw {ops : Array Oper} {rest : List Oper} {o : Oper} {a : Act} {w : World} {Q : Exit → Act → World → Prop} (hgd : o.guard = none) (s x : Operand)
    (ho : o.op = .call { callee := .builtin .append, args := #[s, x], argTypes := #[47, 47] })
    (B : Nat) (v : Value) (ps : List W4) (hs : a.eval s = v) (hg : Grw w B v ps) (b c : Nat) (q : Bool) (p : Option Addr) (m k : Nat) (hx : a.eval x = .slice (some ⟨b, 0, none⟩) 1 c) (hn : w.cell? ⟨b, 0, none⟩ = some (.bool q)) (hn2 : w.cell? ⟨b, 1, none⟩ = some (.slice p m k))
    (hb : ps.length + 1 ≤ 1000000) (hB : B ≤ w.heap.size)
    (h : ∀ v' w', Hid (Grw w' B v' (ps ++ [(q, p, m, k)])) → Below B w w' → Hid (∀ k, k < w.heap.size → some k ≠ v.ownBlock → w'.heap[k]? = w.heap[k]?) → wpList Try.prog ops Q rest (a.put o.dst v') w') : wpList Try.prog ops Q (o :: rest) a w := by
  obtain ⟨i0, hi, hz0, hz1, hz2⟩ := info_parts infoW
  refine wpList_append_own w hgd s x _ ho B 27 i0 (.agg #[.bool false, .slice none 0 0]) 2 32 Try.underlying47 hi hz0 hz1 hz2 rfl (by decide) v ps.length (flat ps) hs hg ⟨b, 0, none⟩ 1 c [.bool q, .slice p m k] hx (by simp) ?_ ?_ (by unfold maxLen; omega) (by omega) hB ?_
  · intro j u hu
    rcases j with _ | _ | j
    · simp at hu; subst hu; exact hn
    · simp at hu; subst hu; exact hn2
    · simp at hu
  · intro v hv
    simp at hv
    rcases hv with rfl | rfl <;> rfl
  · intro v' w' h2 h3 _
    refine h v' w' ?_ ((Below.refl B w).grown h3 hB hg.block) (fun k hk hne => h3.block k hk hne)
    show Grw w' B v' (ps ++ [(q, p, m, k)])
    unfold Grw
    rw [List.length_append, flat_snoc]
    exact h2
theorem Grw.lies {w : World} {B : Nat} {v : Value} {ps : List W4} (h : Grw w B v ps) (h0 : 0 < ps.length) : ∃ g cap, v = .slice (some ⟨g, 0, none⟩) ps.length cap ∧ ps.length ≤ cap ∧ B ≤ g ∧ g < w.heap.size ∧ ∀ i x, (flat ps)[i]? = some x → w.cell? ⟨g, i, none⟩ = some x := by
  obtain ⟨h1, h2 | ⟨g, cap, cur, rfl, hB, hh, hc, hm, hs, ht⟩⟩ := h
  · obtain ⟨rfl, h0'⟩ := h2
    omega
  · refine ⟨g, cap, rfl, hc, hB, (Array.getElem?_eq_some_iff.1 hh).1, fun i x hx => ?_⟩
    have hi : i < ps.length * 2 := by
      rcases Nat.lt_or_ge i (ps.length * 2) with h' | h'
      · exact h'
      · rw [List.getElem?_eq_none (by rw [flat_length]; exact h')] at hx; cases hx
    rw [← ht, List.getElem?_take_of_lt hi] at hx
    simp only [World.cell?, hh]
    simpa using hx
end Go.Proofs.Ytbadjonlhijoaaa
