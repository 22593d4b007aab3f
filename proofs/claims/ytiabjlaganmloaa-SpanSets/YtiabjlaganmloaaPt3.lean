/-
  The document's Of and Long, the statements' agrees.
-/
import Derived.Test.YtiabjlaganmloaaPt2
import Derived.Test.YtiabjlaganmloaaChkW
namespace Go.Proofs.Ytiabjlaganmloaa
open Go.RowKit Go.Shelf
set_option linter.unusedVariables false
set_option linter.unusedSimpArgs false

/-- A list that the document's Of takes. -/
def Tks (ps : List Pr) : Prop := ps.length ≤ 4096 ∧ ∀ p ∈ ps, May p
set_option maxHeartbeats 2000000 in
theorem rof_no (a : Option Addr) (len cap : Nat) (ps : List Pr) (w : World) (h : Ls w a len ps) (hl : len ≤ 9000000000000) (hn : ¬ Tks ps) :
    Calls Try.prog 16 #[.slice a len cap] w fun e w' => ∃ x : Int, x ≠ 0 ∧ e = .returned (.tuple #[.slice none 0 0, .int .i64 x]) ∧ Below w.heap.size w w' := by
  obtain rfl := h.1
  have HL : Hid (Ls w a ps.length ps) := h
  clear h
  by_cases h5 : 4096 < ps.length
  · have h5z : (4096 : Int) < ps.length := by omega
    go_enter Try.func16, Try.ntmps16
    go_wp2_with fail
    go_ret2
    exact ⟨3, by omega, rfl, Below.refl _ _⟩
  · have h5z : ¬ (4096 : Int) < ps.length := by omega
    have HNM : Hid (¬ ∀ j, j < ps.length → May (ps.getD j (0, 0))) := fun hall => hn ⟨by omega, fun p hp => by
      obtain ⟨i, hi, rfl⟩ := List.mem_iff_getElem.1 hp
      have := hall i hi
      rwa [List.getD_eq_getElem?_getD, List.getElem?_eq_getElem hi] at this⟩
    clear hn
    go_enter Try.func16, Try.ntmps16
    go_wp2_with fail
    go_loopw [4] (fun i wr => ∃ k : Nat, k ≤ ps.length ∧ i = .int .i64 (k : Int) ∧ Below w.heap.size w wr ∧ Hid (∀ j, j < k → May (ps.getD j (0, 0)))) (fun i _ => ps.length - (intOf i).toNat)
    case atStart => exact ⟨0, Nat.zero_le _, rfl, Below.refl _ _, fun j hj => absurd hj (Nat.not_lt_zero _)⟩
    case round =>
      obtain ⟨k, hk, rfl, hB, hI⟩ := hrel
      have hs := hB.size
      by_cases hlt : k < ps.length
      · have hkz : (k : Int) < ps.length := by omega
        obtain ⟨b, off, rfl, hc⟩ := (HL.out.after hB).2 (by omega)
        have c0 := (hc k hlt).1
        have c1 := (hc k hlt).2
        have hck := fun W => rmay_any (ps.getD k (0, 0)).1 (ps.getD k (0, 0)).2 W
        by_cases hm : May (ps.getD k (0, 0))
        · rw [show mayB ((ps.getD k (0, 0)).1, (ps.getD k (0, 0)).2) = true from mayB_true hm] at hck
          have HI : Hid (∀ j, j < k + 1 → May (ps.getD j (0, 0))) := fun j hj => by
            by_cases h' : j = k
            · rw [h']; exact hm
            · exact hI.out j (by omega)
          clear hc hI hm
          generalize (ps.getD k (0, 0)).1 = x0 at *
          generalize (ps.getD k (0, 0)).2 = x1 at *
          go_wp2_with (go_at_call 42; refine (hck _).mono ?_; rintro e w' ⟨rfl, rfl⟩)
          exact ⟨⟨k + 1, by omega, by go_num, hB.alloc hs _, HI⟩, by simp [intOf]; omega⟩
        · rw [show mayB ((ps.getD k (0, 0)).1, (ps.getD k (0, 0)).2) = false from mayB_false hm] at hck
          clear hc hI hm
          generalize (ps.getD k (0, 0)).1 = x0 at *
          generalize (ps.getD k (0, 0)).2 = x1 at *
          go_wp2_with (go_at_call 42; refine (hck _).mono ?_; rintro e w' ⟨rfl, rfl⟩)
          go_ret2
          exact ⟨110, by omega, rfl, hB.alloc hs _⟩
      · exact absurd (fun j hj => hI.out j (by omega)) HNM.out
set_option maxHeartbeats 2000000 in
theorem rof_ok (a : Option Addr) (len cap : Nat) (ps : List Pr) (w : World) (h : Ls w a len ps) (ht : Tks ps) :
    Calls Try.prog 16 #[.slice a len cap] w fun e w' => ∃ v out, e = .returned (.tuple #[v, .int .i64 0]) ∧ Gs w' w.heap.size v out ∧ Hid (Few out ∧ ∀ d, inS out d ↔ inS ps d) ∧ Below w.heap.size w w' := by
  obtain rfl := h.1
  have HL : Hid (Ls w a ps.length ps) := h
  have HT : Hid (Tks ps) := ht
  have h5z : ¬ (4096 : Int) < ps.length := by have := ht.1; omega
  have hl5 : ps.length ≤ 4096 := ht.1
  clear h ht
  go_enter Try.func16, Try.ntmps16
  go_wp2_with fail
  go_loopw [4] (fun i wr => ∃ k : Nat, k ≤ ps.length ∧ i = .int .i64 (k : Int) ∧ Below w.heap.size w wr) (fun i _ => ps.length - (intOf i).toNat)
  case atStart => exact ⟨0, Nat.zero_le _, rfl, Below.refl _ _⟩
  case round =>
    obtain ⟨k, hk, rfl, hB⟩ := hrel
    have hs := hB.size
    by_cases hlt : k < ps.length
    · have hkz : (k : Int) < ps.length := by omega
      obtain ⟨b, off, rfl, hc⟩ := (HL.out.after hB).2 (by omega)
      have c0 := (hc k hlt).1
      have c1 := (hc k hlt).2
      have hck := fun W => rmay_any (ps.getD k (0, 0)).1 (ps.getD k (0, 0)).2 W
      have hm : May (ps.getD k (0, 0)) := HT.out.2 _ (getD_mem hlt)
      rw [show mayB ((ps.getD k (0, 0)).1, (ps.getD k (0, 0)).2) = true from mayB_true hm] at hck
      clear hc hm
      generalize (ps.getD k (0, 0)).1 = x0 at *
      generalize (ps.getD k (0, 0)).2 = x1 at *
      go_wp2_with (go_at_call 42; refine (hck _).mono ?_; rintro e w' ⟨rfl, rfl⟩)
      exact ⟨⟨k + 1, by omega, by go_num, hB.alloc hs _⟩, by simp [intOf]; omega⟩
    · have hkz : ¬ (k : Int) < ps.length := by omega
      have hp := put_any 1 (.inl rfl) a ps.length cap ps none 0 0 [] wr (HL.out.after hB) (Ls.nil _ _) (by omega) (by omega) HT.out.2 (fun p hp => by simp at hp)
      go_wp2_with fail
      refine hp.mono ?_
      rintro e w1 ⟨v, out, rfl, hg, hf, hb⟩
      go_wp2_with fail
      go_ret2
      exact ⟨_, out, rfl, Gs.le hg hB.size, ⟨hf.out.1, fun d => (hf.out.2 d).trans (by unfold wP; simp [inS_nil])⟩, step hB hb⟩
theorem rlong_any (a : Option Addr) (len cap : Nat) (w : World) (hl : len ≤ 9000000000000) : Calls Try.prog 56 #[.slice a len cap] w fun e w' => e = .returned (.bool (decide (4096 < len))) ∧ w' = w := by
  by_cases h : 4096 < len
  · have hi : (4096 : Int) < len := by omega
    rw [decide_eq_true h]
    go_enter Try.func56, Try.ntmps56
    go_wp2_with fail
    go_ret
    exact ⟨rfl, rfl⟩
  · have hi : ¬ (4096 : Int) < len := by omega
    rw [decide_eq_false h]
    go_enter Try.func56, Try.ntmps56
    go_wp2_with fail
    go_ret
    exact ⟨rfl, rfl⟩
/-- A set and the document's list that it is, or too many spans. -/
theorem agrees_any (cs : List Pr) (sv ev : Value) (b : Option Addr) (cb : Nat) (w : World) (h : SetR cs (.returned (.tuple #[sv, ev])) w) (hb : Ls w b cs.length cs) (hl : cs.length ≤ 1000000) :
    Calls Try.prog 26 #[sv, ev, .slice b cs.length cb] w fun e w' => e = .returned (.bool true) ∧ Below w.heap.size w w' := by
  have rl := rlong_any b cs.length cb w (by omega)
  rcases h with ⟨h1, p, e, hs⟩ | ⟨h1, e⟩
  · injection e with e; injection e with e
    have e1 : sv = .pointer (some ⟨p, 0, none⟩) := by have := congrArg (fun a => a[0]?) e; simpa using this
    have e2 : ev = .int .i64 0 := by have := congrArg (fun a => a[1]?) e; simpa using this
    subst e1 e2
    rw [decide_eq_false (by omega)] at rl
    have ik := is_ok p b cb cs w hs hb
    clear e
    go_enter Try.func26, Try.ntmps26
    go_wp2_with fail
    refine rl.mono ?_
    rintro e w' ⟨rfl, hw'⟩
    rw [hw']; clear hw' w'
    go_wp2_with fail
    refine ik.mono ?_
    rintro e w1 ⟨rfl, hb1⟩
    go_wp2_with fail
    go_ret
    exact ⟨rfl, hb1⟩
  · injection e with e; injection e with e
    have e1 : sv = .pointer none := by have := congrArg (fun a => a[0]?) e; simpa using this
    have e2 : ev = .int .i64 3 := by have := congrArg (fun a => a[1]?) e; simpa using this
    subst e1 e2
    rw [decide_eq_true h1] at rl
    clear e
    go_enter Try.func26, Try.ntmps26
    go_wp2_with fail
    refine rl.mono ?_
    rintro e w' ⟨rfl, hw'⟩
    rw [hw']; clear hw' w'
    go_wp2_with fail
    go_ret
    exact ⟨rfl, Below.refl _ _⟩
end Go.Proofs.Ytiabjlaganmloaa
