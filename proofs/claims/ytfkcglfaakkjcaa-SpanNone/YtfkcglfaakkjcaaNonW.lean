/-
  The walk of SpanNone.
-/
import Derived.Test.YtfkcglfaakkjcaaNoC
import Derived.Deep.RegionHeld3
namespace Go.Proofs.Ytfkcglfaakkjcaa
open Go.RowKit Go.Shelf
set_option linter.unusedVariables false

theorem below_dr (X : World) : Below X.heap.size X X.drew := ⟨rfl, rfl, rfl, Nat.le_refl _, fun _ _ => rfl⟩
theorem s5_keep {Y X y : World} {b i : Nat} {v : Value} (h : X.cell? ⟨b, i, none⟩ = some v ∧ Hid (Below Y.heap.size Y X)) (hb : Below X.heap.size X y) : y.cell? ⟨b, i, none⟩ = some v ∧ Hid (Below Y.heap.size Y y) :=
  ⟨(hb.cell (p := ⟨b, i, none⟩) (cell_lt h.1)).trans h.1, step h.2 hb⟩
set_option maxRecDepth 20000 in
set_option maxHeartbeats 8000000 in
theorem none_walk (w : World) : Calls Try.prog 8 #[] w fun e w' => e = .returned (.bool true) ∧ Below w.heap.size w w' := by
  go_enter Try.func8, Try.ntmps8
  go_wp2_with fail
  refine (of_ok none 0 0 [] w (Ls.nil w none) (fun p h => by simp at h) (by omega)).mono ?_
  rintro e w1 ⟨p, cs, rfl, st1, he, hb1⟩
  obtain rfl : cs = [] := few_unique st1.1 Few.nil (fun d => he.out d)
  have HS1 : Hid (St w1 p []) := st1
  have HB1 : Hid (Below w.heap.size w w1) := hb1
  clear st1 he hb1
  go_wp2_with fail
  refine (awake_any w1).mono ?_
  rintro e w2 ⟨rfl, hb2⟩
  have HS2 : Hid (St w2 p []) := HS1.out.after hb2
  have HB2 : Hid (Below w.heap.size w w2) := step HB1.out hb2
  clear hb2 HS1 HB1
  go_wp2_with fail
  refine (is_ok p none 0 [] w2 HS2.out (Ls.nil w2 none)).mono ?_
  rintro e w3 ⟨rfl, hb3⟩
  have HS3 : Hid (St w3 p []) := HS2.out.after hb3
  have HB3 : Hid (Below w.heap.size w w3) := step HB2.out hb3
  clear hb3 HS2 HB2
  go_wp2_with fail
  refine ent2 w3 _ _ _ _ (Q := fun W => Code.wp Try.prog _ _ _ W) ?_
  intro X hX hsX VX0 VX1
  have HP : Hid (∀ i : Nat, i < 2 → ∃ q, X.cell? ⟨w3.heap.size + 1, i, none⟩ = some (.pointer q) ∧ No X (.pointer q)) := fun i hi => by
    match i, hi with
    | 0, _ => exact ⟨none, VX1.cellAt 0, .nil⟩
    | 1, _ => exact ⟨_, VX1.cellAt 1, .zero _ VX0⟩
    | k + 2, h => exact absurd h (by omega)
  have HSX : Hid (St X p []) := HS3.out.after hX
  have HBX : Hid (Below w.heap.size w X) := step HB3.out hX
  clear HS3 HB3 hX VX0 VX1 hsX
  generalize w3.heap.size + 1 = L at HP ⊢
  go_loopw [5] (fun k wr => ∃ (i : Nat), i ≤ 2 ∧ k = .int .i64 (i : Int) ∧ Below X.heap.size X wr) (fun k _ => 2 - (intOf k).toNat)
  case atStart => exact ⟨0, Nat.zero_le _, by go_num, Below.refl _ _⟩
  case round =>
    obtain ⟨i, hi, rfl, hB⟩ := hrel
    rcases Nat.lt_or_ge i 2 with hlt | hge
    · obtain ⟨q, hcq, hno⟩ := HP.out i hlt
      have c0 := (hB.cell (cell_lt hcq)).trans hcq
      have n0 := hno.after hB
      have hjl : (i : Int) < 2 := by omega
      have hj0 : ¬ ((i : Int) < 0) := by omega
      have H0 : Hid (Below X.heap.size X wr) := hB
      clear hcq hno
      go_wp2_with fail
      refine (is_no n0).mono ?_
      rintro e y1 ⟨rfl, hb⟩
      have c1' := (hb.cell (cell_lt c0)).trans c0
      have n1 := n0.after hb
      have H1 : Hid (Below X.heap.size X y1) := step H0.out hb
      clear hb c0 n0 
      go_wp2_with fail
      refine (has_no 0 n1).mono ?_
      rintro e y2 ⟨rfl, hb⟩
      have c2' := (hb.cell (cell_lt c1')).trans c1'
      have n2 := n1.after hb
      have H2 : Hid (Below X.heap.size X y2) := step H1.out hb
      clear hb c1' n1 H1
      go_wp2_with fail
      refine (has_no (-1) n2).mono ?_
      rintro e y3 ⟨rfl, hb⟩
      have c3' := (hb.cell (cell_lt c2')).trans c2'
      have n3 := n2.after hb
      have H3 : Hid (Below X.heap.size X y3) := step H2.out hb
      clear hb c2' n2 H2
      go_wp2_with fail
      refine (union_no n3).mono ?_
      rintro e y4 ⟨rfl, hb⟩
      have c4' := (hb.cell (cell_lt c3')).trans c3'
      have n4 := n3.after hb
      have H4 : Hid (Below X.heap.size X y4) := step H3.out hb
      clear hb c3' n3 H3
      go_wp2_with fail
      obtain ⟨-, -, a4, c4, v4, -, -, -⟩ := HSX.out.after H4.out
      refine (cut_no p _ v4 n4).mono ?_
      rintro e y5 ⟨rfl, hb⟩
      have c5' := (hb.cell (cell_lt c4')).trans c4'
      have n5 := n4.after hb
      have H5 : Hid (Below X.heap.size X y5) := step H4.out hb
      clear hb c4' n4 H4
      go_wp2_with fail
      have hS0 : y5.drew.cell? ⟨L, i, none⟩ = some (.pointer q) ∧ Hid (Below y5.heap.size y5 y5.drew) := ⟨c5', below_dr y5⟩
      have HMN : Hid (∀ Z, Z.cell? ⟨L, i, none⟩ = some (.pointer q) ∧ Hid (Below y5.heap.size y5 Z) → Calls Try.prog 25 #[.pointer q, .pointer q] Z fun e y => e = .returned (.tuple #[.pointer none, .int .i64 1]) ∧ y.cell? ⟨L, i, none⟩ = some (.pointer q) ∧ Hid (Below y5.heap.size y5 y)) := fun Z hZ => (minus_no (n5.after hZ.2.out)).mono (fun e y ⟨h1, h2⟩ => ⟨h1, s5_keep hZ h2⟩)
      go_region_held3 (fun Z => Z.cell? ⟨L, i, none⟩ = some (.pointer q) ∧ Hid (Below y5.heap.size y5 Z))
        (first | assumption)
        ((go_at_call 25; refine (HMN.out _ (by assumption)).mono ?_; rintro e y6 ⟨rfl, hS6⟩))
      have H6 : Hid (Below X.heap.size X y6) := step H5.out hS6.2.out
      clear hS6 hS0 HMN
      go_wp2_with fail
      exact ⟨⟨i + 1, by omega, by go_num, H6.out⟩, by simp [intOf] <;> omega⟩
    · have hkz : ¬ (i : Int) < 2 := by omega
      obtain rfl : i = 2 := by omega
      clear hge hi HP HSX
      go_wp2_with fail
      have HBW : Hid (Below w.heap.size w wr) := step HBX.out hB
      clear HBX hB
      refine ent2 wr _ _ _ _ (Q := fun W => Code.wp Try.prog _ _ _ W) ?_
      intro X2 hX hsX VX0 VX1
      have HP : Hid (∀ i : Nat, i < 2 → ∃ q, X2.cell? ⟨wr.heap.size + 1, i, none⟩ = some (.pointer q) ∧ NoL X2 q) := fun i hi => by
        match i, hi with
        | 0, _ => exact ⟨none, VX1.cellAt 0, .nil⟩
        | 1, _ => exact ⟨_, VX1.cellAt 1, .zero _ VX0⟩
        | k + 2, h => exact absurd h (by omega)
      have HBY : Hid (Below w.heap.size w X2) := step HBW.out hX
      clear HBW hX VX0 VX1 hsX
      generalize wr.heap.size + 1 = L2 at HP ⊢
      go_loopw [14] (fun k wr => ∃ (i : Nat), i ≤ 2 ∧ k = .int .i64 (i : Int) ∧ Below X2.heap.size X2 wr) (fun k _ => 2 - (intOf k).toNat)
      case atStart => exact ⟨0, Nat.zero_le _, by go_num, Below.refl _ _⟩
      case round =>
        obtain ⟨i, hi, rfl, hB⟩ := hrel
        rcases Nat.lt_or_ge i 2 with hlt | hge
        · obtain ⟨q, hcq, hno⟩ := HP.out i hlt
          have c0 := (hB.cell (cell_lt hcq)).trans hcq
          have n0 := hno.after hB
          have hjl : (i : Int) < 2 := by omega
          have hj0 : ¬ ((i : Int) < 0) := by omega
          have H0 : Hid (Below X2.heap.size X2 wr) := hB
          clear hcq hno
          go_wp2_with fail
          refine (lat_no 3 n0).mono ?_
          rintro e y1 ⟨rfl, hb⟩
          have c1' := (hb.cell (cell_lt c0)).trans c0
          have n1 := n0.after hb
          have H1 : Hid (Below X2.heap.size X2 y1) := step H0.out hb
          clear hb c0 n0
          go_wp2_with fail
          refine (llen_no n1).mono ?_
          rintro e y2 ⟨rfl, hy2⟩
          rw [hy2]
          clear hy2 y2
          go_wp2_with fail
          refine (lall_no n1).mono ?_
          rintro e y3 ⟨rfl, rfl⟩
          have r1 := callsIn_wide.1 (rows_no y1.heap.size _ (Va.new y1 _ _))
          unfold itl at *
          go_wp2_with fail
          refine r1.mono ?_
          rintro e y4 ⟨rfl, hb4⟩
          have H4 : Below X2.heap.size X2 y4 := step H1.out (((Below.refl _ _).alloc (Nat.le_refl _) _).trans (hb4.mono (by simp)))
          clear r1 hb4
          go_wp2_with fail
          exact ⟨⟨i + 1, by omega, by go_num, H4⟩, by simp [intOf] <;> omega⟩
        · have hkz : ¬ (i : Int) < 2 := by omega
          obtain rfl : i = 2 := by omega
          clear hge hi HP
          have HBZ : Hid (Below w.heap.size w wr) := step HBY.out hB
          clear HBY hB
          go_wp2_with fail
          refine (new_no wr).mono ?_
          rintro e z1 ⟨p1, rfl, V1, hb1⟩
          have HBZ1 : Hid (Below w.heap.size w z1) := step HBZ.out hb1
          have N1 : NoL z1 (some ⟨p1, 0, none⟩) := .zero p1 V1
          clear HBZ hb1 V1
          go_wp2_with fail
          refine ent1 z1 _ _ (Q := fun W => Calls _ _ _ W _) ?_
          intro Z hZ hsZ VZ
          have N2 := N1.after hZ
          have HBZ2 : Hid (Below w.heap.size w Z) := step HBZ1.out hZ
          clear N1 hZ hsZ VZ HBZ1
          refine (llen_no N2).mono ?_
          rintro e y2 ⟨rfl, hy2⟩
          rw [hy2]
          clear hy2 y2
          go_wp2_with fail
          refine (lall_no N2).mono ?_
          rintro e y3 ⟨rfl, rfl⟩
          have r1 := callsIn_wide.1 (rows_no Z.heap.size _ (Va.new Z _ _))
          unfold itl at *
          go_wp2_with fail
          refine r1.mono ?_
          rintro e y4 ⟨rfl, hb4⟩
          have H4 : Below w.heap.size w y4 := step HBZ2.out (((Below.refl _ _).alloc (Nat.le_refl _) _).trans (hb4.mono (by simp)))
          clear r1 hb4
          go_wp2_with fail
          go_ret
          exact ⟨rfl, H4⟩
end Go.Proofs.Ytfkcglfaakkjcaa
