/-
  span.Check, Meet; a set's list, whether it is there, a set made of a list.
-/
import Derived.Test.YtiabjlaganmloaaSpV
namespace Go.Proofs.Ytiabjlaganmloaa
open Go.RowKit Go.Shelf
set_option linter.unusedVariables false

/-- What Check answers. -/
noncomputable def chk (p : Pr) : Int := open Classical in if May p then 0 else 110
theorem chk_ok {p : Pr} (h : May p) : chk p = 0 := if_pos h
theorem chk_no {p : Pr} (h : ¬ May p) : chk p = 110 := if_neg h
set_option maxHeartbeats 1000000 in
theorem check_any (x y : Int) (w : World) :
    Calls Try.prog 12 #[.agg #[.int .i64 x, .int .i64 y]] w fun e w' => e = .returned (.int .i64 (chk (x, y))) ∧ w' = w.alloc (.cells #[.int .i64 x, .int .i64 y] 24) := by
  by_cases h : May (x, y)
  · rw [chk_ok h]
    unfold May at h
    dsimp only at h
    have h1 : ¬ (x < 0) := by omega
    have h2 : ¬ (y ≤ x) := by omega
    have h3 : ¬ (3652059 < y) := by omega
    clear h
    go_enter Try.func12, Try.ntmps12
    go_wp2_with fail
    go_ret
    exact ⟨rfl, rfl⟩
  · rw [chk_no h]
    by_cases h1 : x < 0
    · go_enter Try.func12, Try.ntmps12
      go_wp2_with fail
      go_ret
      exact ⟨rfl, rfl⟩
    · by_cases h2 : y ≤ x
      · go_enter Try.func12, Try.ntmps12
        go_wp2_with fail
        go_ret
        exact ⟨rfl, rfl⟩
      · have h3 : 3652059 < y := by unfold May at h; dsimp only at h; omega
        clear h
        go_enter Try.func12, Try.ntmps12
        go_wp2_with fail
        go_ret
        exact ⟨rfl, rfl⟩
theorem results_mt {fn : Func} {i j b : Nat} {x y : Value} {tmps : Array Value} {w : World} (h : fn.results = #[.cell i 24, .tmp j]) (hi : tmps.getD i undef = .pointer (some ⟨b, 0, none⟩)) (hv : Va w b 24 #[x, y]) :
    (results fn tmps).run Try.prog w = .ok (.tuple #[.agg #[x, y], tmps.getD j undef]) w := by
  have c := hv.c0; have d := hv.c1
  rw [Array.getD_eq_getD_getElem?] at hi
  simp [results, h, hi, c, d, go_sem]
/-- What two spans have in common. -/
def mt (p q : Pr) : Pr := (max p.1 q.1, min p.2 q.2)
theorem list_any (p : Nat) (a : Option Addr) (len cap : Nat) (m : Bool) (w : World) (V : Va w p 94 #[.slice a len cap, .bool m]) :
    Calls Try.prog 52 #[.pointer (some ⟨p, 0, none⟩)] w fun e w' => e = .returned (.slice a len cap) ∧ w' = w := by
  have c0 := V.c0
  go_enter Try.func52, Try.ntmps52
  go_wp2_with fail
  go_ret
  exact ⟨rfl, rfl⟩
theorem list_nil (w : World) :
    Calls Try.prog 52 #[.pointer none] w fun e w' => e = .returned (.slice none 0 0) ∧ w' = w := by
  go_enter Try.func52, Try.ntmps52
  go_wp2_with fail
  go_ret
  exact ⟨rfl, rfl⟩
theorem there_any (p : Nat) (l : Value) (m : Bool) (w : World) (V : Va w p 94 #[l, .bool m]) :
    Calls Try.prog 54 #[.pointer (some ⟨p, 0, none⟩)] w fun e w' => e = .returned (.bool m) ∧ w' = w := by
  have c1 := V.c1
  go_enter Try.func54, Try.ntmps54
  go_wp2_with fail
  go_ret
  exact ⟨rfl, rfl⟩
theorem there_nil (w : World) :
    Calls Try.prog 54 #[.pointer none] w fun e w' => e = .returned (.bool false) ∧ w' = w := by
  go_enter Try.func54, Try.ntmps54
  go_wp2_with fail
  go_ret
  exact ⟨rfl, rfl⟩
/-- What a call that makes a set answers: the set, or that it is too long. -/
def SetR (ps : List Pr) (e : Ending) (w' : World) : Prop := (ps.length ≤ 4096 ∧ ∃ p, e = .returned (.tuple #[.pointer (some ⟨p, 0, none⟩), .int .i64 0]) ∧ St w' p ps) ∨ (4096 < ps.length ∧ e = .returned (.tuple #[.pointer none, .int .i64 3]))
theorem setOf_any (B : Nat) (v : Value) (ps : List Pr) (w : World) (hg : Gs w B v ps) (hf : Few ps) (hl : ps.length ≤ 8796093022208) :
    Calls Try.prog 44 #[v] w fun e w' => SetR ps e w' ∧ Below w.heap.size w w' := by
  obtain ⟨a, cap, rfl, hc, hm, hs⟩ := hg.shape
  by_cases h : ps.length ≤ 4096
  · have h1 : ¬ ((4096 : Int) < ps.length) := by omega
    have HL : Hid (Ls w a ps.length ps) := hg.ls
    have HA : Hid (a = none → cap = 0) := fun e => by
      rcases hs with ⟨-, -, h⟩ | ⟨g, h⟩
      · exact h
      · rw [e] at h; cases h
    clear hs hg
    go_enter Try.func44, Try.ntmps44
    go_wp2_with fail
    go_ret2
    refine ⟨.inl ⟨h, _, rfl, hf, h, a, cap, Va.new w _ _, hc, HL.out.after ((Below.refl _ _).alloc (Nat.le_refl _) _), HA.out⟩, (Below.refl _ _).alloc (Nat.le_refl _) _⟩
  · have h1 : (4096 : Int) < ps.length := by omega
    clear hs hg
    go_enter Try.func44, Try.ntmps44
    go_wp2_with fail
    go_ret2
    exact ⟨.inr ⟨by omega, rfl⟩, Below.refl _ _⟩
end Go.Proofs.Ytiabjlaganmloaa
