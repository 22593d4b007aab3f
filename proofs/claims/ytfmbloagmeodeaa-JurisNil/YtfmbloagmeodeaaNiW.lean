/-
  The walk of JurisNil.
-/
import Derived.Test.YtfmbloagmeodeaaJuA
import Derived.Test.YtfmbloagmeodeaaJuS
import Derived.Test.YtfmbloagmeodeaaJuL
namespace Go.Proofs.Ytfmbloagmeodeaa
open Go.RowKit Go.Shelf
set_option linter.unusedVariables false

theorem pthZ_no (i : Int) : pthZ [] i = [] := by
  unfold pthZ
  rw [if_neg]
  simp [plB] <;> omega
theorem neq_itp (w : World) (f : Nat) (cb : Array Value) : Sem.run Try.prog (binOp .neq 71 (.func (.func f) #[] cb) .nilFunc) w = .ok (.bool true) w := by
  simp only [binOp]
  simp [Op.equal, Op.maxDepth, eqIn_itp w 9999]
theorem ck_nil (n : Nat) (i : Int) : ckI false n i = 1 := rfl
set_option maxHeartbeats 8000000 in
theorem none_any {w : World} {q a : Option Addr} {cap : Nat} (h : Tv w q a 0 cap [] false) (i k : Int) :
    Calls Try.prog 26 #[.pointer q, .int .i64 i, .int .i64 k] w fun e w' => e = .returned (.bool true) ∧ Below w.heap.size w w' := by
  have hPa := parent_no h i (by rw [ck_nil]; decide)
  have hDe := deep_no h i (by rw [ck_nil]; decide)
  have hUn := under_no h i (by rw [ck_nil]; decide)
  rw [ck_nil] at hPa hDe hUn
  have nq := neq_itp
  have HT : Hid (Tv w q a 0 cap [] false) := h
  have hMe : ∀ i k, Calls Try.prog 21 #[.pointer q, .int .i64 i, .int .i64 k] w fun e w' => e = .returned (.tuple #[.int .i64 0, .bool false]) ∧ Below w.heap.size w w' := fun i k => by
    refine (meet_any (ps := []) h tre_nil (by simp) i k).mono ?_
    rintro e w' ⟨⟨mm, ok, rfl, hm⟩, hb⟩
    rw [pthZ_no, pthZ_no] at hm
    rcases hm with ⟨rfl, rfl, -⟩ | ⟨-, pre, x, -, h2, -⟩
    · exact ⟨rfl, hb⟩
    · have := h2.length_le; simp at this
  have HMe : Hid _ := hMe
  have HWi : Hid (∀ (W : World) (i k : Int), Tv W q a 0 cap [] false → Calls Try.prog 22 #[.pointer q, .int .i64 i, .int .i64 k] W fun e w' => e = .returned (.bool false) ∧ Below W.heap.size W w') := fun W i k hW => by
    have := within_any (ps := []) hW tre_nil (by simp) i k
    rw [show wnB [] i k = false from decide_eq_false (fun ⟨x, hx, _⟩ => by rw [pthZ_no] at hx; cases hx)] at this
    exact this
  have HPh : Hid (∀ (W : World), Tv W q a 0 cap [] false → Calls Try.prog 24 #[.pointer q, .int .i64 i, .int .i64 9] W fun e w' => (∃ a' c', e = .returned (.slice a' 0 c')) ∧ Below W.heap.size W w') := fun W hW => by
    refine (lpath_any (ps := []) hW tre_nil (by simp) i 9 (by decide)).mono ?_
    rintro e w' ⟨⟨v, rfl, hG⟩, hb⟩
    obtain ⟨a', c', rfl, -⟩ := hG.sl
    rw [pthZ_no]
    exact ⟨⟨a', c', rfl⟩, hb⟩
  have HOr : Hid (∀ (W : World), Tv W q a 0 cap [] false → Calls Try.prog 12 #[.pointer q] W fun e w' => (∃ a' c', e = .returned (.slice a' 0 c')) ∧ Below W.heap.size W w') := fun W hW => by
    refine (order_any (ps := []) hW tre_nil (by simp)).mono ?_
    rintro e w' ⟨⟨lst, out, rfl, -, hl, hG⟩, hb⟩
    obtain ⟨a', c', rfl, -⟩ := hG.sl
    have : out = [] := List.length_eq_zero_iff.1 hl
    subst this
    exact ⟨⟨a', c', rfl⟩, hb⟩
  clear hMe h
  go_enter Try.func26, Try.ntmps26
  go_wp2_with (first
    | (go_at_call 17; refine hPa.mono ?_; rintro e w1 ⟨rfl, hw⟩; rw [hw]; clear hw w1 hPa)
    | (go_at_call 18; refine hDe.mono ?_; rintro e w1 ⟨rfl, hw⟩; rw [hw]; clear hw w1 hDe)
    | (go_at_call 19; refine hUn.mono ?_; rintro e w1 ⟨rfl, hw⟩; rw [hw]; clear hw w1 hUn)
    | (go_at_call 21; refine (HMe.out i k).mono ?_; rintro e w2 ⟨rfl, hb2⟩; replace HT : Hid (Tv w2 q a 0 cap [] false) := HT.out.after hb2; have HB : Hid (Below w.heap.size w w2) := hb2; clear hb2 HMe)
    | (go_at_call 10; refine (len_any HT.out).mono ?_; rintro e w1 ⟨rfl, hw⟩; rw [hw]; clear hw w1)
    | (go_at_call 39; refine (path_any HT.out i).mono ?_; rintro e w3 ⟨rfl, -, -, hb3, -⟩; unfold itp; replace HT : Hid (Tv w3 q a 0 cap [] false) := HT.out.after hb3; replace HB : Hid (Below w.heap.size w w3) := step HB.out hb3; clear hb3)
    | (go_at_call 24; refine (HPh.out _ HT.out).mono ?_; rintro e w4 ⟨⟨a4, c4, rfl⟩, hb4⟩; replace HT : Hid (Tv w4 q a 0 cap [] false) := HT.out.after hb4; replace HB : Hid (Below w.heap.size w w4) := step HB.out hb4; clear hb4 HPh)
    | (go_at_call 22; refine (HWi.out _ _ _ HT.out).mono ?_; rintro e w5 ⟨rfl, hb5⟩; replace HT : Hid (Tv w5 q a 0 cap [] false) := HT.out.after hb5; replace HB : Hid (Below w.heap.size w w5) := step HB.out hb5; clear hb5)
    | (go_at_call 12; refine (HOr.out _ HT.out).mono ?_; rintro e w6 ⟨⟨a6, c6, rfl⟩, hb6⟩; replace HB : Hid (Below w.heap.size w w6) := step HB.out hb6; clear hb6))
  go_ret
  exact ⟨rfl, HB.out⟩
set_option maxHeartbeats 4000000 in
theorem nil_walk (i k : Int) (w : World) (hi : (Lit.int .i64 i).wf = true) (hk : (Lit.int .i64 k).wf = true) :
    Calls Try.prog 5 #[.int .i64 i, .int .i64 k] w fun e w' => e = .returned (.bool true) ∧ Below w.heap.size w w' := by
  have h1 := none_any (w := w) .nil i k
  have HA : Hid (∀ W, Calls Try.prog 9 #[] W fun e w' => e = .returned (.bool true) ∧ Below W.heap.size W w') := fun W => awake15 W
  clear hi hk
  go_enter Try.func5, Try.ntmps5
  go_wp2_with (first
    | (go_at_call 26; refine h1.mono ?_; rintro e w1 ⟨rfl, hb1⟩; have HB1 : Hid (Below w.heap.size w w1) := hb1; clear hb1 h1)
    | (go_at_call 26; refine ent1 w1 _ _ (Q := fun W => Calls _ _ _ W _) ?_; intro W2 hB2 hs2 V2; refine (none_any (Tv.some _ none 0 [] false V2 (Li.nil _ _)) i k).mono ?_; rintro e w3 ⟨rfl, hb3⟩; have HB3 : Hid (Below w.heap.size w w3) := step (step HB1.out hB2) hb3; clear hb3 hB2 hs2 V2)
    | (go_at_call 9; refine (HA.out _).mono ?_; rintro e w4 ⟨rfl, hb4⟩; have HB4 : Hid (Below w.heap.size w w4) := step HB3.out hb4; clear hb4))
  go_ret
  exact ⟨rfl, HB4.out⟩
end Go.Proofs.Ytfmbloagmeodeaa
