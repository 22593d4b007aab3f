/-
  The document's powers of ten, up to the ninth.
-/
import Derived.Test.YtebbblhafjaaiaaGreatDoorT3a
namespace Go.Proofs.YtebbblhafjaaiaaGreatDoor
open Go.RowKit Go.Shelf
set_option linter.unusedVariables false

set_option maxHeartbeats 2000000 in
theorem onto_one (g cap : Nat) (p : Int) (cur : Array Value) (w : World) (h1 : 1 ≤ p) (h2 : p < 4294967296) (hg : w.heap[g]? = some (.cells cur 94 (0, 0))) (h0 : w.cell? ⟨g, 0, none⟩ = some (.int .u64 1)) :
    Calls Tryz.prog 200 #[.slice (some ⟨g, 0, none⟩) 1 cap, .int .u64 p, .int .u64 0] w fun e w' => e = .returned (.slice (some ⟨g, 0, none⟩) 1 cap) ∧ w' = w.setCell ⟨g, 0, none⟩ (.int .u64 p) := by
  have w1 : IntKind.u64.wrap p = p := by rw [IntKind.wrap_u64]; omega
  have m1 : p.tmod 4294967296 = p := by rw [Int.tmod_eq_emod_of_nonneg (by omega)]; omega
  have d1 : p.tdiv 4294967296 = 0 := by rw [Int.tdiv_eq_ediv_of_nonneg (by omega)]; omega
  have fz : w.frozen? ⟨g, 0, none⟩ = false := by simp [World.frozen?, hg]
  have lt : g < w.heap.size := by
    rcases Nat.lt_or_ge g w.heap.size with h | h
    · exact h
    · rw [Array.getElem?_eq_none h] at hg; cases hg
  go_enter Tryz.func200, Tryz.ntmps200
  go_wp2_with fail
  refine wp_loop_rounds 2 ?_
  rw [rounds_succ]
  go_wp2_with fail
  rw [rounds_succ]
  go_wp2_with fail
  go_ret
  exact ⟨rfl, rfl⟩
theorem one_half : H.Limbs [1] := fun z hz => by rw [List.mem_singleton.1 hz]; exact ⟨by decide, by decide⟩
theorem half_of {q : Int} (h : 1 ≤ q ∧ q < 4294967296) : H.Limbs [q] := fun z hz => by rw [List.mem_singleton.1 hz]; exact ⟨by omega, by omega⟩
theorem pow9 {i : Nat} (h : i ≤ 9) : (1 : Int) ≤ 10 ^ i ∧ (10 : Int) ^ i ≤ 1000000000 := by
  match i, h with
  | 0, _ | 1, _ | 2, _ | 3, _ | 4, _ | 5, _ | 6, _ | 7, _ | 8, _ | 9, _ => decide
theorem one_digits {a : Option Addr} {m : Nat} {ds : List Int} {w : World} (hs : Sl w a m ds) (hL : H.Limbs ds) (hu : usedN ds = m) (hm : m ≤ 2 * 1) (hN : H.num ds = num [1]) : ds = [1] ∧ m = 1 := by
  have hl := hs.1
  have e1 : num [1] = 1 := by decide
  rw [e1] at hN
  match ds, hl, hL, hu, hN with
  | [], _, _, _, hN => simp [H.num] at hN
  | [x], hl, _, _, hN =>
    have : x = 1 := by simpa [H.num] using hN
    subst this
    exact ⟨rfl, by simpa using hl.symm⟩
  | [x, y], hl, hL, hu, hN =>
    have bx := hL.getD 0
    have by' := hL.getD 1
    simp only [List.getD_cons_zero, List.getD_cons_succ] at bx by'
    simp only [H.num] at hN
    have y0 : y = 0 := by omega
    subst y0
    have := usedN_eq (zs := [x, 0]) (u := 1) (by simp) (fun i h1 h2 => by
      have : i = 1 := by simp at h2; omega
      subst this; rfl) (by right; simp; omega)
    simp at hl
    omega
  | x :: y :: z :: t, hl, _, _, _ => simp at hl; omega
set_option maxHeartbeats 2000000 in
theorem scale_one (a : Addr) (ca k : Nat) (hk : k ≤ 9) (w : World) (h : Sl w (some a) 1 [1]) :
    Calls Tryz.prog 164 #[.slice (some a) 1 ca, .int .i64 k] w fun e w' => ∃ a' m c zs, e = .returned (.tuple #[.slice a' m c, .int .i64 0]) ∧ m ≤ c ∧ m ≤ 1 ∧ Sl w' a' m zs ∧ usedN zs = m ∧ num zs = 10 ^ k ∧ Below w.heap.size w w' := by
  have g0 : decide ((k : Int) < 0) = false := by rw [decide_eq_false_iff_not]; omega
  go_enter Tryz.func164, Tryz.ntmps164
  go_wp2_with fail
  refine (halves3 (some a) 1 ca [1] _ h (by omega)).mono ?_
  rintro e x1 ⟨a1, m1, c1_, ds, rfl, hc, hm, hs, hL, hu, hN, hO, hb⟩
  obtain ⟨rfl, rfl⟩ := one_digits hs hL hu hm hN
  obtain ⟨g, cur, rfl, hB, hg⟩ := hO (by decide)
  have h0 : x1.cell? ⟨g, 0, none⟩ = some (.int .u64 1) := by
    obtain ⟨b, o, e, hcell⟩ := hs.2.2 (by decide)
    cases e
    exact hcell 0 (by decide)
  have B1 : Below w.heap.size w x1 := hb
  clear hb
  by_cases k0 : k = 0
  · subst k0
    clear hO hN hu hL hm
    go_wp2_with fail
    refine wp_loop_rounds 1 ?_
    rw [rounds_succ]
    go_wp2_with fail
    refine (limbs3 (some ⟨g, 0, none⟩) 1 c1_ [1] _ hs one_half (by omega)).mono ?_
    rintro e x2 ⟨a2, m2, c2, zs, rfl, hc2, hm2, hs2, hu2, hn2, hb2⟩
    go_wp2_with fail
    go_ret2
    exact ⟨a2, m2, c2, zs, rfl, hc2, hm2, hs2, hu2, by rw [hn2]; decide, step B1 hb2⟩
  · have g1 : decide ((0 : Int) < (k : Int)) = true := by rw [decide_eq_true_iff]; omega
    have mn : min (k : Int) 9 = (k : Int) := by omega
    have HK : Hid (k ≤ 9) := hk
    clear hO hN hu hL hm
    go_wp2_with fail
    refine wp_loop_rounds 2 ?_
    rw [rounds_succ]
    go_wp2_with fail
    go_loop [8, 9] (fun sp si => ∃ (i : Nat) (q : Int), sp = .int .u64 q ∧ si = .int .i64 i ∧ i ≤ k ∧ Hid (q = 10 ^ i)) (fun _ si => k - (intOf si).toNat)
    case atStart => exact ⟨0, 1, rfl, rfl, by omega, by show _ = _; decide⟩
    case round =>
      obtain ⟨i, q, rfl, rfl, hi, HQ⟩ := hrel
      have hb9 := pow9 (i := i) (by have := HK.out; omega)
      rw [← HQ.out] at hb9
      obtain ⟨q1, q2⟩ := hb9
      by_cases hlt : i < k
      · have c1 : decide ((i : Int) < (k : Int)) = true := by rw [decide_eq_true_iff]; omega
        have wq : IntKind.u64.wrap (10 * q) = 10 * q := by rw [IntKind.wrap_u64]; omega
        go_wp2_with fail
        go_round
        case rel => exact ⟨i + 1, 10 * q, rfl, by go_num, by omega, by show _ = _; rw [HQ.out, Int.pow_succ]; omega⟩
        case measure => simp [intOf]; omega
      · obtain rfl : i = k := by omega
        have c1 : decide ((i : Int) < (i : Int)) = false := by rw [decide_eq_false_iff_not]; omega
        have ws : IntKind.i64.wrap ((i : Int) - (i : Int)) = 0 := by rw [Int.sub_self]; decide
        have HQ1 : Hid (1 ≤ q ∧ q < 4294967296) := ⟨q1, by omega⟩
        clear q1 q2
        go_wp2_with fail
        refine (onto_one g c1_ q cur x1 HQ1.out.1 HQ1.out.2 hg h0).mono ?_
        rintro e x2 ⟨rfl, hw⟩
        have B2 : Below w.heap.size w x2 := by rw [hw]; exact B1.setCell hB _
        have hs2 : Sl x2 (some ⟨g, 0, none⟩) 1 [q] := by
          refine ⟨rfl, fun z hz => ?_, fun _ => ⟨g, 0, rfl, fun j hj => ?_⟩⟩
          · rw [List.mem_singleton.1 hz]; have := HQ1.out; exact ⟨by omega, by omega⟩
          · obtain rfl : j = 0 := by omega
            rw [hw]
            exact World.cell?_setCell_same' x1 _ _ (by rw [h0]; rfl)
        clear hw
        go_wp2_with fail
        rw [rounds_succ]
        go_wp2_with fail
        refine (limbs3 (some ⟨g, 0, none⟩) 1 c1_ [q] _ hs2 (half_of HQ1.out) (by omega)).mono ?_
        rintro e x3 ⟨a2, m2, c2, zs, rfl, hc2, hm2, hs3, hu2, hn2, hb2⟩
        go_wp2_with fail
        go_ret2
        exact ⟨a2, m2, c2, zs, rfl, hc2, hm2, hs3, hu2, by rw [hn2, ← HQ.out]; simp [H.num], step B2 hb2⟩
theorem ten3 (k : Nat) (hk : k ≤ 9) (w : World) :
    Calls Tryz.prog 121 #[.int .i64 k] w fun e w' => ∃ a' m c zs, e = .returned (.tuple #[.slice a' m c, .int .i64 0]) ∧ m ≤ c ∧ m ≤ 1 ∧ Sl w' a' m zs ∧ usedN zs = m ∧ num zs = 10 ^ k ∧ Below w.heap.size w w' := by
  go_enter Tryz.func121, Tryz.ntmps121
  go_wp2_with fail
  have ho : Own (w.alloc (.cells #[.int .u64 1] 94)) w.heap.size [1] := heap_alloc_new w _
  have hs := ho.sl (fun z hz => by rw [List.mem_singleton.1 hz]; exact ⟨by decide, by decide⟩)
  have B1 : Below w.heap.size w (w.alloc (.cells #[.int .u64 1] 94)) := (Below.refl _ _).alloc (Nat.le_refl _) _
  refine (scale_one ⟨w.heap.size, 0, none⟩ 1 k hk _ hs).mono ?_
  rintro e x1 ⟨a2, m2, c2, zs, rfl, hc2, hm2, hs2, hu2, hn2, hb2⟩
  go_wp2_with fail
  go_ret2
  exact ⟨a2, m2, c2, zs, rfl, hc2, hm2, hs2, hu2, hn2, step B1 hb2⟩
end Go.Proofs.YtebbblhafjaaiaaGreatDoor
