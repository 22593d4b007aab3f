/-
  tokens: the statements' awake.
-/
import Derived.Test.YtiedpclomplnmaaTc4
namespace Go.Proofs.Ytiedpclomplnmaa
open Go.RowKit Go.Shelf
set_option linter.unusedVariables false

def tk5 : List Tk := [⟨1, [114, 97, 116, 101], 1, 1⟩, ⟨1, [102, 111, 111, 100, 46, 98, 114, 101, 97, 100], 1, 6⟩, ⟨3, [55, 46, 53], 1, 17⟩, ⟨5, [37], 1, 20⟩, ⟨0, [], 1, 21⟩]
theorem cut_aw1 : cu [114, 97, 116, 101, 32, 102, 111, 111, 100, 46, 98, 114, 101, 97, 100, 32, 55, 46, 53, 37] 1 1 = .ok tk5 := by rfl
theorem cut_aw2 : cu [97, 32, 66] 1 1 = .no 1 3 := by rfl
theorem aw1 (w : World) : Calls Try.prog 14 #[sv [114, 97, 116, 101, 32, 102, 111, 111, 100, 46, 98, 114, 101, 97, 100, 32, 55, 46, 53, 37]] w fun e w' => ∃ g cap, e = .returned (.tuple #[.slice (some ⟨g, 0, none⟩) 5 cap, .agg #[.int .i64 0, .int .i64 0, .int .i64 0]]) ∧ Gt w' w.heap.size (.slice (some ⟨g, 0, none⟩) 5 cap) tk5 ∧ Below w.heap.size w w' := by
  refine (cut_any _ w (by simp)).mono ?_
  rintro e w' ⟨hb, ⟨ts, v, hT, rfl, hg⟩ | ⟨l, c, hT, -⟩⟩
  · rw [cut_aw1] at hT
    cases hT
    obtain ⟨a, cap, rfl, -, -, ⟨-, h0, -⟩ | ⟨g, rfl⟩⟩ := hg.shape
    · cases h0
    · exact ⟨g, cap, rfl, hg, hb⟩
  · rw [cut_aw1] at hT; cases hT
theorem aw2 (w : World) : Calls Try.prog 14 #[sv [97, 32, 66]] w fun e w' => e = .returned (.tuple #[.slice none 0 0, .agg #[.int .i64 120, .int .i64 1, .int .i64 3]]) ∧ Below w.heap.size w w' := by
  refine (cut_any _ w (by simp)).mono ?_
  rintro e w' ⟨hb, ⟨ts, v, hT, rfl, hg⟩ | ⟨l, c, hT, rfl⟩⟩
  · rw [cut_aw2] at hT; cases hT
  · rw [cut_aw2] at hT; cases hT
    exact ⟨rfl, hb⟩
set_option maxHeartbeats 1000000 in
set_option maxRecDepth 20000 in
theorem awake_any (w : World) : Calls Try.prog 13 #[] w fun e w' => e = .returned (.bool true) ∧ Below w.heap.size w w' := by
  go_enter Try.func13, Try.ntmps13
  go_wp2_with fail
  refine (aw1 w).mono ?_
  rintro e w1 ⟨g, cap, rfl, hg, hb1⟩
  have HG : Hid (Gt w1 w.heap.size (.slice (some ⟨g, 0, none⟩) 5 cap) tk5) := hg
  have HB1 : Hid (Below w.heap.size w w1) := hb1
  clear hg hb1
  go_wp2_with fail
  refine ent1 w1 _ _ (Q := fun W => Calls _ _ _ W _) ?_
  intro W1 hB1 hs1 V1
  have HG1 : Hid (Gt W1 w.heap.size (.slice (some ⟨g, 0, none⟩) 5 cap) tk5) := HG.out.after hB1
  have HV1 : Hid (Va W1 w1.heap.size 29 #[.int .i64 0, .int .i64 0, .int .i64 0]) := V1
  have HB2 : Hid (Below w.heap.size w W1) := step HB1.out hB1
  clear hB1 hs1 V1 HG HB1
  refine (aw2 W1).mono ?_
  rintro e w2 ⟨rfl, hb2⟩
  have HG2 : Hid (Gt w2 w.heap.size (.slice (some ⟨g, 0, none⟩) 5 cap) tk5) := HG1.out.after hb2
  have HV2 : Hid (Va w2 w1.heap.size 29 #[.int .i64 0, .int .i64 0, .int .i64 0]) := HV1.out.after hb2
  have HB3 : Hid (Below w.heap.size w w2) := step HB2.out hb2
  clear hb2 HG1 HV1 HB2
  go_upto_region 3 with fail
  refine ent1 w2 _ _ (Q := fun W => Code.wp _ _ _ _ W) ?_
  intro W3 hB3 hs3 V3
  have G := HG2.out.after hB3
  have V1 := HV2.out.after hB3
  have HB4 : Hid (Below w.heap.size w W3) := step HB3.out hB3
  have c5 : W3.cell? ⟨g, 5, none⟩ = some (sv [102, 111, 111, 100, 46, 98, 114, 101, 97, 100]) := (G.cells 1 (by decide) 1 (by omega)).1
  have c8 : W3.cell? ⟨g, 8, none⟩ = some (.int .i64 3) := (G.cells 2 (by decide) 0 (by omega)).1
  have c16 : W3.cell? ⟨g, 16, none⟩ = some (.int .i64 0) := (G.cells 4 (by decide) 0 (by omega)).1
  have c17 : W3.cell? ⟨g, 17, none⟩ = some (sv []) := (G.cells 4 (by decide) 1 (by omega)).1
  have c18 : W3.cell? ⟨g, 18, none⟩ = some (.int .i64 1) := (G.cells 4 (by decide) 2 (by omega)).1
  have c19 : W3.cell? ⟨g, 19, none⟩ = some (.int .i64 21) := (G.cells 4 (by decide) 3 (by omega)).1
  have a0 : W3.cell? ⟨w1.heap.size, 0, none⟩ = some (.int .i64 0) := V1.cellAt 0
  have a1 : W3.cell? ⟨w1.heap.size, 1, none⟩ = some (.int .i64 0) := V1.cellAt 1
  have a2 : W3.cell? ⟨w1.heap.size, 2, none⟩ = some (.int .i64 0) := V1.cellAt 2
  have d0 : W3.cell? ⟨w2.heap.size, 0, none⟩ = some (.int .i64 120) := V3.cellAt 0
  have d1 : W3.cell? ⟨w2.heap.size, 1, none⟩ = some (.int .i64 1) := V3.cellAt 1
  have d2 : W3.cell? ⟨w2.heap.size, 2, none⟩ = some (.int .i64 3) := V3.cellAt 2
  clear G V1 V3 hB3 hs3
  go_wp2_with fail
  go_ret
  exact ⟨rfl, HB4.out⟩
end Go.Proofs.Ytiedpclomplnmaa
