/-
  slices.Reverse of a list of numbers; a digit's worth; Small in memory of its own.
-/
import Derived.Test.YtpfbcicjfnfpgaaGrowN
import Derived.Test.YtpfbcicjfnfpgaaBsI
import Derived.Test.YtpfbcicjfnfpgaaReadP
import Derived.BigRegion
namespace Go.Proofs.Ytpfbcicjfnfpgaa
open Go.RowKit Go.Shelf
set_option linter.unusedVariables false

/-- A row of slices in one block: so many cells, each told by c. -/
def Rsl (w : World) (g n : Nat) (c : Nat → Value) : Prop := Blk w g n ∧ ∀ i, i < n → w.cell? ⟨g, i, none⟩ = some (c i)
theorem cell_set_ne (w : World) (g i j : Nat) (v : Value) (h : j ≠ i) : (w.setCell ⟨g, i, none⟩ v).cell? ⟨g, j, none⟩ = w.cell? ⟨g, j, none⟩ := by
  simp only [World.setCell, World.cell?, Array.getElem?_modify, if_true]
  cases hh : w.heap[g]? with
  | none => rfl
  | some o => cases o <;> simp [Ne.symm h]
theorem cell_set_eq {w : World} {g n i : Nat} (hb : Blk w g n) (hi : i < n) (v : Value) : (w.setCell ⟨g, i, none⟩ v).cell? ⟨g, i, none⟩ = some v := by
  obtain ⟨cur, t, h, hn⟩ := hb
  simp only [World.setCell, World.cell?, Array.getElem?_modify, if_true, h]
  simp [Array.getElem?_setIfInBounds]; omega
/-- The row's cells when k have been exchanged with the last k. -/
def half (n k : Nat) (c : Nat → Value) (m : Nat) : Value := if m < k ∨ n - k ≤ m then c (n - 1 - m) else c m
theorem Rsl.swap {w : World} {g n k : Nat} {c : Nat → Value} (h : Rsl w g n (half n k c)) (hk : k < n - 1 - k) :
    Rsl ((w.setCell ⟨g, k, none⟩ (c (n - 1 - k))).setCell ⟨g, n - 1 - k, none⟩ (c k)) g n (half n (k + 1) c) := by
  refine ⟨(h.1.set _ _).set _ _, fun i hi => ?_⟩
  by_cases h1 : i = n - 1 - k
  · subst h1
    rw [cell_set_eq (h.1.set _ _) (by omega)]
    unfold half
    rw [if_pos (by omega), show n - 1 - (n - 1 - k) = k by omega]
  · rw [cell_set_ne _ _ _ _ _ h1]
    by_cases h2 : i = k
    · subst h2
      rw [cell_set_eq h.1 (by omega)]
      unfold half
      rw [if_pos (by omega)]
    · rw [cell_set_ne _ _ _ _ _ h2, h.2 i hi]
      unfold half
      by_cases h3 : i < k ∨ n - k ≤ i
      · rw [if_pos h3, if_pos (by omega)]
      · rw [if_neg h3, if_neg (by omega)]
set_option maxHeartbeats 4000000 in
theorem reverse_any (g n cap : Nat) (A : Nat → Option Addr) (L C : Nat → Nat) (w : World) (hn : n ≤ 1000000) (hcap : n ≤ cap) (h : Rsl w g n (fun i => .slice (A i) (L i) (C i))) :
    Calls Try.prog 74 #[.slice (some ⟨g, 0, none⟩) n cap] w fun e w' => (∃ v, e = .returned v) ∧ Rsl w' g n (fun i => .slice (A (n - 1 - i)) (L (n - 1 - i)) (C (n - 1 - i))) ∧ Only g w w' := by
  go_enter Try.func74, Try.ntmps74
  go_wp2_with fail
  go_loopw [2, 3] (fun i j wr => ∃ k : Nat, i = .int .i64 k ∧ j = .int .i64 ((n : Int) - 1 - k) ∧ Hid (2 * k ≤ n + 1) ∧ Hid (Rsl wr g n (half n k (fun i => .slice (A i) (L i) (C i)))) ∧ Hid (Only g w wr)) (fun i _ _ => n - (intOf i).toNat)
  case atStart => exact ⟨0, rfl, by go_num, by show 2 * 0 ≤ n + 1; omega, ⟨h.1, fun i hi => by rw [h.2 i hi]; unfold half; rw [if_neg (by omega)]⟩, Only.refl _ _⟩
  case round =>
    obtain ⟨k, rfl, rfl, HK, HR, HO⟩ := hrel
    by_cases hlt : k < n - 1 - k
    · have c1 := HR.out.2 k (by omega)
      have c2 := HR.out.2 (n - 1 - k) (by omega)
      have e1 : half n k (fun i => Value.slice (A i) (L i) (C i)) k = .slice (A k) (L k) (C k) := by unfold half; rw [if_neg (by omega)]
      have e2 : half n k (fun i => Value.slice (A i) (L i) (C i)) (n - 1 - k) = .slice (A (n - 1 - k)) (L (n - 1 - k)) (C (n - 1 - k)) := by unfold half; rw [if_neg (by omega)]
      rw [e1] at c1; rw [e2] at c2
      clear e1 e2
      have f1 := HR.out.1.frozen k
      have f2 := HR.out.1.frozen (n - 1 - k)
      obtain ⟨q, hq⟩ : ∃ q, q = n - 1 - k := ⟨_, rfl⟩
      have eq : (n : Int) - 1 - k = q := by omega
      rw [eq]
      rw [← hq] at c2 f2
      have HQ : Hid (q = n - 1 - k) := hq
      have hkn : k < n := by omega
      have hqn : q < n := by omega
      have hkq : (k : Int) < q := by omega
      clear hq eq hlt
      have e3 : IntKind.i64.wrap ((q : Int) - 1) = (q : Int) - 1 := by rw [IntKind.wrap_i64]; omega
      go_wp2_with fail
      go_region
      go_wp2_with fail
      go_roundw
      case rel =>
        have hR2 : Rsl ((wr.setCell ⟨g, k, none⟩ (.slice (A q) (L q) (C q))).setCell ⟨g, q, none⟩ (.slice (A k) (L k) (C k))) g n (half n (k + 1) (fun i => .slice (A i) (L i) (C i))) := by
          have := HR.out.swap (c := fun i => .slice (A i) (L i) (C i)) (k := k) (by have := HQ.out; omega)
          rw [← HQ.out] at this
          exact this
        exact ⟨k + 1, by go_num, by first | go_num | (have := HQ.out; congr 1; omega), by show 2 * (k + 1) ≤ n + 1; have := HQ.out; have := HK.out; omega, hR2, ((HO.out.set k _).set q _).drew⟩
      case measure => simp [intOf]; omega
    · have hnl : ¬ ((k : Int) < (n : Int) - 1 - k) := by omega
      go_wp2_with fail
      go_end0
      refine ⟨⟨_, rfl⟩, ⟨HR.out.1, fun i hi => ?_⟩, HO.out⟩
      rw [HR.out.2 i hi]
      unfold half
      have := HK.out
      by_cases h3 : i < k ∨ n - k ≤ i
      · rw [if_pos h3]
      · rw [if_neg h3]
        have e : n - 1 - i = i := by omega
        show some (Value.slice (A i) (L i) (C i)) = some (.slice (A (n - 1 - i)) (L (n - 1 - i)) (C (n - 1 - i)))
        rw [e]
end Go.Proofs.Ytpfbcicjfnfpgaa
