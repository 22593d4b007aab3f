/-
  The document's check, and what it says of a node.
-/
import Derived.Test.YtonhooaboieapaaOd2
namespace Go.Proofs.Ytonhooaboieapaa
open Go.RowKit Go.Shelf
set_option linter.unusedVariables false
set_option linter.unusedSimpArgs false

theorem rnode_any (n x : Int) (w : World) : Calls Try.prog 27 #[.int .i64 n, .int .i64 x] w fun e w' => e = .returned (.bool (ndB n x)) ∧ w' = w := by
  unfold ndB
  by_cases h0 : 0 ≤ x
  · by_cases h1 : x < n
    · rw [decide_eq_true ⟨h0, h1⟩]
      go_enter Try.func27, Try.ntmps27
      go_wp2_with fail
      go_ret
      exact ⟨rfl, rfl⟩
    · rw [decide_eq_false (fun h => h1 h.2)]
      go_enter Try.func27, Try.ntmps27
      go_wp2_with fail
      go_ret
      exact ⟨rfl, rfl⟩
  · rw [decide_eq_false (fun h => h0 h.1)]
    go_enter Try.func27, Try.ntmps27
    go_wp2_with fail
    go_ret
    exact ⟨rfl, rfl⟩
set_option maxHeartbeats 4000000 in
theorem rcheck_any (n : Int) (a : Option Addr) (len cap : Nat) (xs : List Pr) (w : World) (h : La w a len xs) :
    Calls Try.prog 26 #[.int .i64 n, .slice a len cap] w fun e w' => e = .returned (.int .i64 (ckE n xs)) ∧ w' = w := by
  have hl := h.1
  have HL : Hid (La w a len xs) := h
  have HN : Hid (∀ x W, Calls Try.prog 27 #[.int .i64 n, .int .i64 x] W fun e w' => e = .returned (.bool (ndB n x)) ∧ w' = W) := fun x W => rnode_any n x W
  clear h
  by_cases h0 : n < 0
  · have HE : Hid (ckE n xs = 2) := if_pos (.inl h0)
    go_enter Try.func26, Try.ntmps26
    go_wp2_with fail
    go_ret
    exact ⟨by rw [HE.out]; rfl, rfl⟩
  by_cases h1 : 4096 < n
  · have HE : Hid (ckE n xs = 2) := if_pos (.inr h1)
    go_enter Try.func26, Try.ntmps26
    go_wp2_with fail
    go_ret
    exact ⟨by rw [HE.out]; rfl, rfl⟩
  by_cases h2 : 65536 < len
  · have h2i : (65536 : Int) < len := by omega
    have HE : Hid (ckE n xs = 3) := by
      show ckE n xs = 3
      unfold ckE
      rw [if_neg (by omega), if_pos (by omega)]
    go_enter Try.func26, Try.ntmps26
    go_wp2_with fail
    go_ret
    exact ⟨by rw [HE.out]; rfl, rfl⟩
  have h2i : ¬ (65536 : Int) < len := by omega
  have h0d : decide (n < 0) = false := decide_eq_false h0
  have HE : Hid (ckE n xs = if xs.all (okA n) then 0 else 170) := by
    show ckE n xs = _
    unfold ckE
    rw [if_neg (by omega), if_neg (by omega)]
  have HLn : Hid (xs.length = len) := hl
  have hl6 : len ≤ 65536 := by omega
  clear hl
  go_enter Try.func26, Try.ntmps26
  go_wp2_with fail
  go_loopw [5] (fun j wr => ∃ k : Nat, j = .int .i64 k ∧ k ≤ len ∧ Hid ((xs.take k).all (okA n) = true) ∧ wr = w) (fun j _ => (len - (intOf j).toNat : Nat))
  case atStart => exact ⟨0, rfl, Nat.zero_le _, rfl, rfl⟩
  case round =>
    obtain ⟨k, rfl, hk, HA, rfl⟩ := hrel
    rcases Nat.lt_or_ge k len with hlt | hge
    · have hki : (k : Int) < len := by omega
      obtain ⟨b, off, rfl, c0, c1⟩ := HL.out.arc hlt
      have HT : Hid (xs.take (k + 1) = xs.take k ++ [xs.getD k (0, 0)]) := take_snoc _ (by rw [HLn.out]; exact hlt)
      have HM : Hid (xs.getD k (0, 0) ∈ xs) := by
        show _ ∈ xs
        rw [List.getD_eq_getElem?_getD, List.getElem?_eq_getElem (by rw [HLn.out]; exact hlt)]; exact List.getElem_mem _
      have HO : Hid (okA n (xs.getD k (0, 0)) = (ndB n (xs.getD k (0, 0)).1 && ndB n (xs.getD k (0, 0)).2)) := rfl
      generalize xs.getD k (0, 0) = p at *
      obtain ⟨x, y⟩ := p
      simp only at c0 c1
      by_cases e1 : ndB n x = true
      · by_cases e2 : ndB n y = true
        · go_wp2_with (go_at_call 27; refine (HN.out _ _).mono ?_; rintro e w3 ⟨rfl, hw3⟩; rw [hw3]; clear hw3 w3)
          go_roundw
          case rel => exact ⟨k + 1, rfl, by omega, by
            show (xs.take (k + 1)).all _ = true
            rw [HT.out, List.all_append, HA.out, List.all_cons, List.all_nil, HO.out]; simp [e1, e2], trivial⟩
          case measure => simp [intOf]; omega
        · have e2' : ndB n y = false := by simpa using e2
          clear e2
          go_wp2_with (go_at_call 27; refine (HN.out _ _).mono ?_; rintro e w3 ⟨rfl, hw3⟩; rw [hw3]; clear hw3 w3)
          go_ret
          refine ⟨?_, rfl⟩
          rw [HE.out, if_neg]
          · rfl
          · intro hall
            have := List.all_eq_true.1 hall _ HM.out
            rw [HO.out] at this; simp [e2'] at this
      · have e1' : ndB n x = false := by simpa using e1
        clear e1
        go_wp2_with (go_at_call 27; refine (HN.out _ _).mono ?_; rintro e w3 ⟨rfl, hw3⟩; rw [hw3]; clear hw3 w3)
        go_ret
        refine ⟨?_, rfl⟩
        rw [HE.out, if_neg]
        · rfl
        · intro hall
          have := List.all_eq_true.1 hall _ HM.out
          rw [HO.out] at this; simp [e1'] at this
    · obtain rfl : k = len := by omega
      clear hge hk
      go_wp2_with fail
      go_ret
      refine ⟨?_, rfl⟩
      rw [HE.out, if_pos]
      · rfl
      have := HA.out
      rwa [List.take_of_length_le (by rw [HLn.out]; exact Nat.le_refl _)] at this
end Go.Proofs.Ytonhooaboieapaa
