/-
  span.Of: the set of all days of a list of spans.
-/
import Derived.Test.YtiabjlaganmloaaSp6
namespace Go.Proofs.Ytiabjlaganmloaa
open Go.RowKit Go.Shelf
set_option linter.unusedVariables false

theorem fix2 {w : World} {ps cs : List Pr} {e : Ending} (h : SetR cs e w) (hl : cs.length ≤ 4096) : ∃ p, e = .returned (.tuple #[.pointer (some ⟨p, 0, none⟩), .int .i64 0]) ∧ St w p cs := by
  rcases h with ⟨-, h⟩ | ⟨h, -⟩
  · exact h
  · omega
set_option maxHeartbeats 2000000 in
/-- Spans that may be, few of them: the set of their days. -/
theorem of_ok (a : Option Addr) (len cap : Nat) (ps : List Pr) (w : World) (h : Ls w a len ps) (hm : ∀ p ∈ ps, May p) (hl : len ≤ 4096) :
    Calls Try.prog 15 #[.slice a len cap] w fun e w' => ∃ p cs, e = .returned (.tuple #[.pointer (some ⟨p, 0, none⟩), .int .i64 0]) ∧ St w' p cs ∧ Hid (∀ d, inS cs d ↔ inS ps d) ∧ Below w.heap.size w w' := by
  have HM : Hid (∀ p ∈ ps, May p) := hm
  have HL : Hid (Ls w a len ps) := h
  have hlz : ¬ ((4096 : Int) < len) := by omega
  clear hm h
  go_enter Try.func15, Try.ntmps15
  go_wp2_with fail
  go_loopw [12] (fun i wr => ∃ k : Nat, k ≤ len ∧ i = .int .i64 (k : Int) ∧ Below w.heap.size w wr) (fun i _ => len - (intOf i).toNat)
  case atStart => exact ⟨0, Nat.zero_le _, rfl, Below.refl _ _⟩
  case round =>
    obtain ⟨k, hk, rfl, hB⟩ := hrel
    by_cases hlt : k < len
    · have hkz : (k : Int) < len := by omega
      obtain ⟨b, off, rfl, hc⟩ := (HL.out.after hB).2 (by omega)
      have c0 := (hc k hlt).1
      have c1 := (hc k hlt).2
      have hck := fun W => check_any (ps.getD k (0, 0)).1 (ps.getD k (0, 0)).2 W
      rw [show chk ((ps.getD k (0, 0)).1, (ps.getD k (0, 0)).2) = 0 from chk_ok (HM.out _ (by
        rw [List.getD_eq_getElem?_getD, List.getElem?_eq_getElem (by have := HL.out.1; omega)]
        exact List.getElem_mem _))] at hck
      generalize (ps.getD k (0, 0)).1 = x0 at *
      generalize (ps.getD k (0, 0)).2 = x1 at *
      have hs := hB.size
      clear hc
      go_wp2_with (go_at_call 12; refine (hck _).mono ?_; rintro e w' ⟨rfl, rfl⟩)
      exact ⟨⟨k + 1, by omega, by go_num, (hB.alloc hs _).alloc (by simp; omega) _⟩, by simp [intOf]; omega⟩
    · have hkz : ¬ (k : Int) < len := by omega
      have hcl := clone_any a len cap ps wr (HL.out.after hB) (by omega)
      go_wp2_with (go_at_call 46; refine hcl.mono ?_; rintro e w2 ⟨v, rfl, hg, hb2⟩)
      have hpl : ps.length ≤ 4096 := by have := HL.out.1; omega
      refine (fewest_any wr.heap.size v ps w2 hg HM.out (by omega) hb2.size).mono ?_
      rintro e w3 ⟨v3, cs, rfl, hg3, hfw, hb3, -⟩
      have hcs : cs.length ≤ 4096 := Nat.le_trans hfw.out.2.2 hpl
      have HB : Hid (Below w.heap.size w w3) := (hB.trans (hb2.mono hB.size)).trans (hb3 w.heap.size hB.size)
      have HF : Hid (∀ d, inS cs d ↔ inS ps d) := hfw.out.2.1
      have hso := setOf_any wr.heap.size v3 cs w3 hg3 hfw.out.1 (by omega)
      obtain ⟨av, cv, rfl, -, -, -⟩ := hg3.shape
      clear hg hg3 hb2 hb3 hcl hfw
      go_wp2_with fail
      refine hso.mono ?_
      rintro e w4 ⟨hr, hb4⟩
      obtain ⟨p, rfl, hst⟩ := fix2 (ps := ps) hr hcs
      go_wp2_with fail
      go_ret2
      exact ⟨p, cs, rfl, hst, HF, step HB.out hb4⟩
end Go.Proofs.Ytiabjlaganmloaa
