/-
  The document's reader of amounts: Check, power, most, sign, digit, text.
-/
import Derived.Test.YtigimdcaakfckaaGreatDoorMy3
namespace Go.Proofs.YtigimdcaakfckaaGreatDoor
open Go.RowKit Go.Shelf
set_option linter.unusedVariables false

theorem rpower9 (n : Nat) (hn : n ≤ 4) (w : World) : Calls Tryz.prog 114 #[.int .i64 n] w fun e w' => e = .returned (.int .u64 ((10 ^ n : Nat) : Int)) ∧ w' = w := by
  obtain rfl | rfl | rfl | rfl | rfl : n = 0 ∨ n = 1 ∨ n = 2 ∨ n = 3 ∨ n = 4 := by omega
  · go_enter Tryz.func114, Tryz.ntmps114
    go_wp2_with fail
    refine wp_loop_rounds 1 ?_
    rw [rounds_succ]
    go_wp2_with fail
    go_ret
    exact ⟨rfl, rfl⟩
  · go_enter Tryz.func114, Tryz.ntmps114
    go_wp2_with fail
    refine wp_loop_rounds 2 ?_
    rw [rounds_succ]
    go_wp2_with fail
    rw [rounds_succ]
    go_wp2_with fail
    go_ret
    exact ⟨rfl, rfl⟩
  · go_enter Tryz.func114, Tryz.ntmps114
    go_wp2_with fail
    refine wp_loop_rounds 3 ?_
    rw [rounds_succ]
    go_wp2_with fail
    rw [rounds_succ]
    go_wp2_with fail
    rw [rounds_succ]
    go_wp2_with fail
    go_ret
    exact ⟨rfl, rfl⟩
  · go_enter Tryz.func114, Tryz.ntmps114
    go_wp2_with fail
    refine wp_loop_rounds 4 ?_
    rw [rounds_succ]
    go_wp2_with fail
    rw [rounds_succ]
    go_wp2_with fail
    rw [rounds_succ]
    go_wp2_with fail
    rw [rounds_succ]
    go_wp2_with fail
    go_ret
    exact ⟨rfl, rfl⟩
  · go_enter Tryz.func114, Tryz.ntmps114
    go_wp2_with fail
    refine wp_loop_rounds 5 ?_
    rw [rounds_succ]
    go_wp2_with fail
    rw [rounds_succ]
    go_wp2_with fail
    rw [rounds_succ]
    go_wp2_with fail
    rw [rounds_succ]
    go_wp2_with fail
    rw [rounds_succ]
    go_wp2_with fail
    go_ret
    exact ⟨rfl, rfl⟩
theorem rmost9 (p far : Int) (neg wr : Bool) (w : World) : Calls Tryz.prog 113 #[.agg #[.int .i64 p, .int .u64 far, .bool neg, .bool wr]] w fun e w' => e = .returned (.int .u64 (mostU neg : Int)) ∧ Below w.heap.size w w' := by
  cases neg
  · go_enter Tryz.func113, Tryz.ntmps113
    go_wp2_with fail
    go_ret
    exact ⟨rfl, (Below.refl _ _).alloc (Nat.le_refl _) _⟩
  · go_enter Tryz.func113, Tryz.ntmps113
    go_wp2_with fail
    go_ret
    exact ⟨rfl, (Below.refl _ _).alloc (Nat.le_refl _) _⟩
theorem drop_nil {p : UInt8 → Bool} : ∀ {l : List UInt8}, l.dropWhile p = [] → ∀ c ∈ l, p c = true
  | [], _, c, hc => by cases hc
  | x :: l, h, c, hc => by
    rw [List.dropWhile_cons] at h
    split at h
    next hx =>
      rcases List.mem_cons.1 hc with rfl | h'
      · exact hx
      · exact drop_nil h c h'
    next => cases h
set_option maxHeartbeats 2000000 in
theorem rcheck9_ok (nm : List UInt8) (D : Int) (h : Cur nm D) (w : World) : Calls Tryz.prog 27 #[.agg #[.string ⟨nm.toArray⟩, .int .i64 D]] w fun e w' => e = .returned (.int .i64 0) ∧ Below w.heap.size w w' := by
  obtain ⟨h1, h2, h3, h4⟩ := h
  obtain ⟨x, y, z, rfl⟩ : ∃ x y z, nm = [x, y, z] := by
    match nm, h1 with
    | [x, y, z], _ => exact ⟨x, y, z, rfl⟩
  have hc : ∀ c ∈ [x, y, z], 65 ≤ c.toNat ∧ c.toNat ≤ 90 := by
    intro c hc
    have := drop_nil h2 c hc
    simpa [isCap] using this
  have hx := hc x (by simp)
  have hy := hc y (by simp)
  have hz := hc z (by simp)
  have gx : (ByteArray.mk #[x, y, z])[0]'(show 0 < 3 by decide) = x := rfl
  have gy : (ByteArray.mk #[x, y, z])[1]'(show 1 < 3 by decide) = y := rfl
  have gz : (ByteArray.mk #[x, y, z])[2]'(show 2 < 3 by decide) = z := rfl
  have x1 : ¬ ((x.toNat : Int) < 65) := by omega
  have x2 : ¬ ((90 : Int) < x.toNat) := by omega
  have y1 : ¬ ((y.toNat : Int) < 65) := by omega
  have y2 : ¬ ((90 : Int) < y.toNat) := by omega
  have z1 : ¬ ((z.toNat : Int) < 65) := by omega
  have z2 : ¬ ((90 : Int) < z.toNat) := by omega
  clear hc h2 h1 hx hy hz
  go_enter Tryz.func27, Tryz.ntmps27
  go_wp2_with fail
  refine wp_loop_rounds 4 ?_
  rw [rounds_succ]
  go_wp2_with fail
  rw [rounds_succ]
  go_wp2_with fail
  rw [rounds_succ]
  go_wp2_with fail
  rw [rounds_succ]
  go_wp2_with fail
  go_ret
  exact ⟨rfl, (Below.refl _ _).alloc (Nat.le_refl _) _⟩
set_option maxHeartbeats 4000000 in
theorem rcheck9_no (nm : List UInt8) (D : Int) (h : ¬ Cur nm D) (w : World) : Calls Tryz.prog 27 #[.agg #[.string ⟨nm.toArray⟩, .int .i64 D]] w fun e w' => e = .returned (.int .i64 90) ∧ Below w.heap.size w w' := by
  by_cases h1 : nm.length = 3
  · have h1' : (nm.length : Int) = 3 := by omega
    by_cases h34 : 0 ≤ D ∧ D ≤ 4
    · have h2 : ¬ nm.dropWhile isCap = [] := fun h2 => h ⟨h1, h2, h34⟩
      obtain ⟨x, y, z, rfl⟩ : ∃ x y z, nm = [x, y, z] := by
        match nm, h1 with
        | [x, y, z], _ => exact ⟨x, y, z, rfl⟩
      obtain ⟨h3, h4⟩ := h34
      have gx : (ByteArray.mk #[x, y, z])[0]'(show 0 < 3 by decide) = x := rfl
      have gy : (ByteArray.mk #[x, y, z])[1]'(show 1 < 3 by decide) = y := rfl
      have gz : (ByteArray.mk #[x, y, z])[2]'(show 2 < 3 by decide) = z := rfl
      by_cases hx : 65 ≤ x.toNat ∧ x.toNat ≤ 90
      · have x1 : ¬ ((x.toNat : Int) < 65) := by omega
        have x2 : ¬ ((90 : Int) < x.toNat) := by omega
        by_cases hy : 65 ≤ y.toNat ∧ y.toNat ≤ 90
        · have y1 : ¬ ((y.toNat : Int) < 65) := by omega
          have y2 : ¬ ((90 : Int) < y.toNat) := by omega
          have hz : ¬ (65 ≤ z.toNat ∧ z.toNat ≤ 90) := fun hz => h2 (by simp [List.dropWhile, isCap, hx, hy, hz])
          clear h2 h hx hy
          rcases (by omega : z.toNat < 65 ∨ 90 < z.toNat) with hz1 | hz1
          · have z1 : (z.toNat : Int) < 65 := by omega
            go_enter Tryz.func27, Tryz.ntmps27
            go_wp2_with fail
            refine wp_loop_rounds 3 ?_
            rw [rounds_succ]
            go_wp2_with fail
            rw [rounds_succ]
            go_wp2_with fail
            rw [rounds_succ]
            go_wp2_with fail
            go_ret
            exact ⟨rfl, (Below.refl _ _).alloc (Nat.le_refl _) _⟩
          · have z1 : ¬ (z.toNat : Int) < 65 := by omega
            have z2 : (90 : Int) < z.toNat := by omega
            go_enter Tryz.func27, Tryz.ntmps27
            go_wp2_with fail
            refine wp_loop_rounds 3 ?_
            rw [rounds_succ]
            go_wp2_with fail
            rw [rounds_succ]
            go_wp2_with fail
            rw [rounds_succ]
            go_wp2_with fail
            go_ret
            exact ⟨rfl, (Below.refl _ _).alloc (Nat.le_refl _) _⟩
        · clear h2 h hx
          rcases (by omega : y.toNat < 65 ∨ 90 < y.toNat) with hz1 | hz1
          · have z1 : (y.toNat : Int) < 65 := by omega
            go_enter Tryz.func27, Tryz.ntmps27
            go_wp2_with fail
            refine wp_loop_rounds 2 ?_
            rw [rounds_succ]
            go_wp2_with fail
            rw [rounds_succ]
            go_wp2_with fail
            go_ret
            exact ⟨rfl, (Below.refl _ _).alloc (Nat.le_refl _) _⟩
          · have z1 : ¬ (y.toNat : Int) < 65 := by omega
            have z2 : (90 : Int) < y.toNat := by omega
            go_enter Tryz.func27, Tryz.ntmps27
            go_wp2_with fail
            refine wp_loop_rounds 2 ?_
            rw [rounds_succ]
            go_wp2_with fail
            rw [rounds_succ]
            go_wp2_with fail
            go_ret
            exact ⟨rfl, (Below.refl _ _).alloc (Nat.le_refl _) _⟩
      · clear h2 h
        rcases (by omega : x.toNat < 65 ∨ 90 < x.toNat) with hz1 | hz1
        · have z1 : (x.toNat : Int) < 65 := by omega
          go_enter Tryz.func27, Tryz.ntmps27
          go_wp2_with fail
          refine wp_loop_rounds 1 ?_
          rw [rounds_succ]
          go_wp2_with fail
          go_ret
          exact ⟨rfl, (Below.refl _ _).alloc (Nat.le_refl _) _⟩
        · have z1 : ¬ (x.toNat : Int) < 65 := by omega
          have z2 : (90 : Int) < x.toNat := by omega
          go_enter Tryz.func27, Tryz.ntmps27
          go_wp2_with fail
          refine wp_loop_rounds 1 ?_
          rw [rounds_succ]
          go_wp2_with fail
          go_ret
          exact ⟨rfl, (Below.refl _ _).alloc (Nat.le_refl _) _⟩
    · have hb : (!(decide (D < 0)) && !(decide (4 < D))) = false := by simp; omega
      by_cases h3 : D < 0
      · go_enter Tryz.func27, Tryz.ntmps27
        go_wp2_with fail
        go_ret
        exact ⟨rfl, (Below.refl _ _).alloc (Nat.le_refl _) _⟩
      · have h4 : 4 < D := by omega
        go_enter Tryz.func27, Tryz.ntmps27
        go_wp2_with fail
        go_ret
        exact ⟨rfl, (Below.refl _ _).alloc (Nat.le_refl _) _⟩
  · have h1' : ¬ (nm.length : Int) = 3 := by omega
    have h1b : ((nm.length : Int) == 3) = false := by simpa using h1'
    go_enter Tryz.func27, Tryz.ntmps27
    go_wp2_with fail
    go_ret
    exact ⟨rfl, (Below.refl _ _).alloc (Nat.le_refl _) _⟩
end Go.Proofs.YtigimdcaakfckaaGreatDoor
