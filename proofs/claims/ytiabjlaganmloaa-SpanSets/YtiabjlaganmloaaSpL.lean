/-
  What the statements without the document share: small, in, fewest, CopySpans.
-/
import Derived.Test.YtiabjlaganmloaaSp9
import Derived.Test.YtiabjlaganmloaaSpF
namespace Go.Proofs.Ytiabjlaganmloaa
open Go.RowKit Go.Shelf
set_option linter.unusedVariables false

/-- Few spans, each of which may be. -/
def Sml (ps : List Pr) : Prop := ps.length ≤ 500 ∧ ∀ p ∈ ps, May p
noncomputable def smB (ps : List Pr) : Bool := @decide (Sml ps) (Classical.propDecidable _)
theorem smB_true {ps : List Pr} (h : Sml ps) : smB ps = true := @decide_eq_true _ (Classical.propDecidable _) h
theorem smB_false {ps : List Pr} (h : ¬ Sml ps) : smB ps = false := @decide_eq_false _ (Classical.propDecidable _) h
theorem getD_mem {ps : List Pr} {k : Nat} (h : k < ps.length) : ps.getD k (0, 0) ∈ ps := by
  rw [List.getD_eq_getElem?_getD, List.getElem?_eq_getElem h]
  exact List.getElem_mem _
/-- append of a list that is read elsewhere. -/
theorem wpList_appL {ops : Array Oper} {rest : List Oper} {o : Oper} {a : Act} {w : World} {Q : Exit → Act → World → Prop} (hgd : o.guard = none) (s x : Operand)
    (ho : o.op = .call { callee := .builtin .append, args := #[s, x], argTypes := #[31, 31] })
    (B : Nat) (v : Value) (ps : List Pr) (hs : a.eval s = v) (hg : Gs w B v ps) (ad : Addr) (m c : Nat) (qs : List Pr) (hx : a.eval x = .slice (some ad) m c) (hq : Ls w (some ad) m qs)
    (hb : ps.length + m ≤ 8796093022208) (hB : B ≤ w.heap.size)
    (h : ∀ v' w', Gs w' B v' (ps ++ qs) → w.grownBy w' v.ownBlock → wpList Try.prog ops Q rest (a.put o.dst v') w') : wpList Try.prog ops Q (o :: rest) a w := by
  obtain ⟨i0, hi, hz0, hz1, hz2⟩ := info_parts infoS
  refine wpList_append_own w hgd s x _ ho B 24 i0 (.agg #[.int .i64 0, .int .i64 0]) 2 16 Try.underlying31 hi hz0 hz1 hz2 rfl (by decide) v ps.length (rowS ps) hs hg ad m c (rowS qs) hx (by rw [rowS_length, hq.1]) (fun j u hj => ?_) (rowS_one _) (by unfold maxLen; omega) (by omega) hB ?_
  · have hj' : j < qs.length * 2 := by
      rcases Nat.lt_or_ge j (rowS qs).length with h' | h'
      · rwa [rowS_length] at h'
      · rw [List.getElem?_eq_none h'] at hj; cases hj
    obtain ⟨b, off, e, hc⟩ := hq.2 (by have := hq.1; omega)
    cases e
    rw [Addr.add_lit]
    rcases Nat.mod_two_eq_zero_or_one j with e | e
    · have c0 := (hc (j / 2) (by have := hq.1; omega)).1
      have r0 := rowS_get0 qs (j / 2) (by omega)
      rw [show (j / 2) * 2 = j by omega] at c0 r0
      rw [hj] at r0; cases r0; exact c0
    · have c0 := (hc (j / 2) (by have := hq.1; omega)).2
      have r0 := rowS_get1 qs (j / 2) (by omega)
      rw [show (j / 2) * 2 + 1 = j by omega] at r0
      rw [show off + (j / 2) * 2 + 1 = off + j by omega] at c0
      rw [hj] at r0; cases r0; exact c0
  · intro v' w' h2 h3 _
    refine h v' w' ?_ h3
    show World.ownsRow _ _ _ _ _ _ _
    rw [List.length_append, rowS_append, hq.1]
    exact h2
set_option maxHeartbeats 1000000 in
theorem copy_any (a : Option Addr) (len cap : Nat) (ps : List Pr) (w : World) (h : Ls w a len ps) (hn : a = none → len = 0 ∧ cap = 0) (hl : len ≤ 8796093022208) :
    Calls Try.prog 22 #[.slice a len cap] w fun e w' => ∃ v, e = .returned v ∧ Gs w' w.heap.size v ps ∧ Below w.heap.size w w' := by
  cases a with
  | none =>
    obtain ⟨rfl, rfl⟩ := hn rfl
    have hp : ps = [] := List.length_eq_zero_iff.1 h.1
    subst hp
    go_enter Try.func22, Try.ntmps22
    go_wp2_with fail
    go_ret
    exact ⟨_, rfl, Gs.nil _ _, Below.refl _ _⟩
  | some ad =>
    have HL : Hid (Ls w (some ad) len ps) := h
    clear h hn
    go_enter Try.func22, Try.ntmps22
    go_wp2_with (at_builtin; refine wpList_appL rfl _ _ rfl w.heap.size _ [] rfl (Gs.nil _ _) ad len cap ps rfl HL.out (by simpa using hl) (Nat.le_refl _) ?_; intro v1 w1 hg hgr; obtain ⟨a2, c2, rfl, -, -, -⟩ := hg.shape)
    go_ret
    exact ⟨_, rfl, by simpa using hg, (Below.refl _ _).grown hgr (Nat.le_refl _) (fun k hk => by cases hk)⟩
end Go.Proofs.Ytiabjlaganmloaa
