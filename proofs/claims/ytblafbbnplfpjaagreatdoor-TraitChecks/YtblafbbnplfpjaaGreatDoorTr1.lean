/-
  traits: mayBe.
-/
import Derived.Test.YtblafbbnplfpjaaGreatDoorTr0
namespace Go.Proofs.YtblafbbnplfpjaaGreatDoor
open Go.RowKit Go.Shelf
set_option linter.unusedVariables false

/-- What mayBe answers. -/
noncomputable def mB (n : Nd) : Bool := open Classical in decide (NdOk wdB n)
theorem mB_yes {n : Nd} (h : NdOk wdB n) : mB n = true := by simp [mB, h]
theorem mB_no {n : Nd} (h : ¬ NdOk wdB n) : mB n = false := by simp [mB, h]
theorem mB_iff (n : Nd) : mB n = true ↔ NdOk wdB n := by simp [mB]
theorem no6c {k ks op un pl : Int} {nm : List UInt8} (hk : k = 6 ∨ k = 7) (h : ¬ (CanI un pl ∧ 0 ≤ un)) : ¬ NdOk wdB ⟨k, ks, nm, op, un, pl⟩ := by
  rintro (⟨h', -⟩ | ⟨h', -⟩ | ⟨h', -⟩ | ⟨-, -, -, -, -, h0, h1⟩)
  · dsimp only at h'; omega
  · dsimp only at h'; omega
  · dsimp only at h'; omega
  · exact h ⟨h1, h0⟩
theorem no6o {k ks op un pl : Int} {nm : List UInt8} (hk : k = 6 ∨ k = 7) (h : ¬ (1 ≤ op ∧ op ≤ 4)) : ¬ NdOk wdB ⟨k, ks, nm, op, un, pl⟩ := by
  rintro (⟨h', -⟩ | ⟨h', -⟩ | ⟨h', -⟩ | ⟨-, -, -, h0, h1, -⟩)
  · dsimp only at h'; omega
  · dsimp only at h'; omega
  · dsimp only at h'; omega
  · exact h ⟨h0, h1⟩
set_option maxHeartbeats 2000000 in
theorem mayBe_any (n : Nd) (w : World) : Calls Tryz.prog 26 #[nv n] w fun e w' => e = .returned (.bool (mB n)) ∧ Below w.heap.size w w' := by
  obtain ⟨kd, ks, nm, op, un, pl⟩ := n
  dsimp only [nv]
  by_cases k1 : kd = 1
  · subst k1
    go_enter Tryz.func26, Tryz.ntmps26
    go_wp2_with fail
    all_goals (go_ret; refine ⟨?_, (Below.refl _ _).alloc (Nat.le_refl _) _⟩; simp [mB, NdOk, *])
  by_cases k2 : kd = 2
  · subst k2
    go_enter Tryz.func26, Tryz.ntmps26
    go_wp2_with fail
    all_goals (go_ret; refine ⟨?_, (Below.refl _ _).alloc (Nat.le_refl _) _⟩; simp [mB, NdOk, *])
  by_cases k3 : kd = 3
  · subst k3
    go_enter Tryz.func26, Tryz.ntmps26
    go_wp2_with fail
    all_goals (go_ret; refine ⟨?_, (Below.refl _ _).alloc (Nat.le_refl _) _⟩; simp [mB, NdOk, *])
  by_cases k4 : kd = 4
  · subst k4
    go_enter Tryz.func26, Tryz.ntmps26
    go_wp2_with (go_at_call 48; refine (word_B nm _).mono ?_; rintro e w2 ⟨rfl, hb⟩; have HB : Hid (Below w.heap.size w w2) := step ((Below.refl _ _).alloc (Nat.le_refl _) _) hb; clear hb)
    all_goals (go_ret; refine ⟨?_, by first | exact HB.out | exact (Below.refl _ _).alloc (Nat.le_refl _) _⟩; simp [mB, NdOk, *])
  by_cases k5 : kd = 5
  · subst k5
    go_enter Tryz.func26, Tryz.ntmps26
    go_wp2_with (go_at_call 48; refine (word_B nm _).mono ?_; rintro e w2 ⟨rfl, hb⟩; have HB : Hid (Below w.heap.size w w2) := step ((Below.refl _ _).alloc (Nat.le_refl _) _) hb; clear hb)
    all_goals (go_ret; refine ⟨?_, by first | exact HB.out | exact (Below.refl _ _).alloc (Nat.le_refl _) _⟩; simp [mB, NdOk, *])
  by_cases k6 : kd = 6
  · subst k6
    go_enter Tryz.func26, Tryz.ntmps26
    by_cases ho : 1 ≤ op ∧ op ≤ 4
    · have HO : opB op = true := by simp [opB, ho]
      by_cases hc : CanI un pl ∧ 0 ≤ un
      · have HC : Hid (CanI un pl ∧ 0 ≤ un) := hc
        clear hc
        go_wp2_with first | (go_at_call 49; refine (isOp_any op _).mono ?_; rw [HO]; rintro e w2 ⟨rfl, rfl⟩) | (go_at_call 50; refine (isValue_yes un pl HC.out.1 HC.out.2 _).mono ?_; rintro e w2 ⟨rfl, hb⟩; have HB : Hid (Below w.heap.size w w2) := step ((Below.refl _ _).alloc (Nat.le_refl _) _) hb; clear hb)
        all_goals (go_ret; refine ⟨?_, by first | exact HB.out | exact (Below.refl _ _).alloc (Nat.le_refl _) _⟩)
        all_goals have hc := HC.out
        all_goals first | (have hh : NdOk wdB ⟨6, ks, nm, op, un, pl⟩ := .inr (.inr (.inr ⟨by simp, by assumption, by assumption, ho.1, ho.2, hc.2, hc.1⟩)); rw [mB_yes hh]; rfl) | (have hh : ¬ NdOk wdB ⟨6, ks, nm, op, un, pl⟩ := (by simp [NdOk, *]); rw [mB_no hh]; rfl)
      · have HC : Hid (¬ (CanI un pl ∧ 0 ≤ un)) := hc
        clear hc
        go_wp2_with first | (go_at_call 49; refine (isOp_any op _).mono ?_; rw [HO]; rintro e w2 ⟨rfl, rfl⟩) | (go_at_call 50; refine (isValue_no un pl HC.out _).mono ?_; rintro e w2 ⟨rfl, hb⟩; have HB : Hid (Below w.heap.size w w2) := step ((Below.refl _ _).alloc (Nat.le_refl _) _) hb; clear hb)
        all_goals (go_ret; refine ⟨?_, by first | exact HB.out | exact (Below.refl _ _).alloc (Nat.le_refl _) _⟩)
        all_goals (rw [mB_no (no6c (by decide) HC.out)]; rfl)
    · have HO : opB op = false := by simp only [opB, ho]; rfl
      go_wp2_with (go_at_call 49; refine (isOp_any op _).mono ?_; rw [HO]; rintro e w2 ⟨rfl, rfl⟩)
      all_goals (go_ret; refine ⟨?_, (Below.refl _ _).alloc (Nat.le_refl _) _⟩)
      all_goals (rw [mB_no (no6o (by decide) ho)]; rfl)
  by_cases k7 : kd = 7
  · subst k7
    go_enter Tryz.func26, Tryz.ntmps26
    by_cases ho : 1 ≤ op ∧ op ≤ 4
    · have HO : opB op = true := by simp [opB, ho]
      by_cases hc : CanI un pl ∧ 0 ≤ un
      · have HC : Hid (CanI un pl ∧ 0 ≤ un) := hc
        clear hc
        go_wp2_with first | (go_at_call 49; refine (isOp_any op _).mono ?_; rw [HO]; rintro e w2 ⟨rfl, rfl⟩) | (go_at_call 50; refine (isValue_yes un pl HC.out.1 HC.out.2 _).mono ?_; rintro e w2 ⟨rfl, hb⟩; have HB : Hid (Below w.heap.size w w2) := step ((Below.refl _ _).alloc (Nat.le_refl _) _) hb; clear hb)
        all_goals (go_ret; refine ⟨?_, by first | exact HB.out | exact (Below.refl _ _).alloc (Nat.le_refl _) _⟩)
        all_goals have hc := HC.out
        all_goals first | (have hh : NdOk wdB ⟨7, ks, nm, op, un, pl⟩ := .inr (.inr (.inr ⟨by simp, by assumption, by assumption, ho.1, ho.2, hc.2, hc.1⟩)); rw [mB_yes hh]; rfl) | (have hh : ¬ NdOk wdB ⟨7, ks, nm, op, un, pl⟩ := (by simp [NdOk, *]); rw [mB_no hh]; rfl)
      · have HC : Hid (¬ (CanI un pl ∧ 0 ≤ un)) := hc
        clear hc
        go_wp2_with first | (go_at_call 49; refine (isOp_any op _).mono ?_; rw [HO]; rintro e w2 ⟨rfl, rfl⟩) | (go_at_call 50; refine (isValue_no un pl HC.out _).mono ?_; rintro e w2 ⟨rfl, hb⟩; have HB : Hid (Below w.heap.size w w2) := step ((Below.refl _ _).alloc (Nat.le_refl _) _) hb; clear hb)
        all_goals (go_ret; refine ⟨?_, by first | exact HB.out | exact (Below.refl _ _).alloc (Nat.le_refl _) _⟩)
        all_goals (rw [mB_no (no6c (by decide) HC.out)]; rfl)
    · have HO : opB op = false := by simp only [opB, ho]; rfl
      go_wp2_with (go_at_call 49; refine (isOp_any op _).mono ?_; rw [HO]; rintro e w2 ⟨rfl, rfl⟩)
      all_goals (go_ret; refine ⟨?_, (Below.refl _ _).alloc (Nat.le_refl _) _⟩)
      all_goals (rw [mB_no (no6o (by decide) ho)]; rfl)
  go_enter Tryz.func26, Tryz.ntmps26
  go_wp2_with fail
  go_ret
  refine ⟨?_, (Below.refl _ _).alloc (Nat.le_refl _) _⟩
  have hh : ¬ NdOk wdB ⟨kd, ks, nm, op, un, pl⟩ := by
    rintro (⟨h, -⟩ | ⟨h, -⟩ | ⟨h, -⟩ | ⟨h, -⟩) <;> dsimp only at h <;> omega
  rw [mB_no hh]; rfl
end Go.Proofs.YtblafbbnplfpjaaGreatDoor
