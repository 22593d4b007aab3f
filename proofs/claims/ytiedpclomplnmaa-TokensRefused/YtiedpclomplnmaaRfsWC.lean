/-
  tokens: the walk of TokensRefused.
-/
import Derived.Test.YtiedpclomplnmaaRmkWC
import Derived.Test.YtiedpclomplnmaaTc7
namespace Go.Proofs.Ytiedpclomplnmaa
open Go.RowKit Go.Shelf
set_option linter.unusedVariables false

theorem eol_le (d : Nat) (s : List UInt8) : eol d s ≤ s.length := by
  unfold eol
  split
  · rename_i p e
    have := st_pos s 0 p (List.mem_of_getElem? e); omega
  · exact Nat.le_refl _
theorem eol_at (L : Nat) (s : List UInt8) (h : L < (0 :: st 0 s).length) (h1 : 1 ≤ L) : ((0 :: st 0 s).getD L 0 : Int) - 1 = eol (L - 1) s ∧ 1 ≤ (0 :: st 0 s).getD L 0 ∧ (0 :: st 0 s).getD L 0 ≤ s.length := by
  obtain ⟨d, rfl⟩ : ∃ d, L = d + 1 := ⟨L - 1, by omega⟩
  simp only [List.length_cons] at h
  have hd : d < (st 0 s).length := by omega
  have hp := st_pos s 0 _ (List.getElem_mem hd)
  unfold eol
  simp only [Nat.add_sub_cancel, List.getElem?_eq_getElem hd, List.getD_eq_getElem?_getD, List.getElem?_cons_succ, Option.getD_some]
  omega
theorem eol_last (L : Nat) (s : List UInt8) (h : L = (0 :: st 0 s).length) : eol (L - 1) s = s.length := by
  subst h
  unfold eol
  simp
set_option maxHeartbeats 2000000 in
set_option maxRecDepth 20000 in
theorem rfs_walk (s m : List UInt8) (w : World) (hm : m.length ≤ 140737488351232) : Calls Try.prog 7 #[sv s, sv m] w fun e w' => e = .returned (.bool true) ∧ Below w.heap.size w w' := by
  go_enter Try.func7, Try.ntmps7
  go_wp2_with fail
  refine (awake_any w).mono ?_
  rintro e w1 ⟨rfl, hb1⟩
  have HB1 : Hid (Below w.heap.size w w1) := hb1
  clear hb1
  go_wp2_with fail
  have hcases : (∃ L C, s.length ≤ 65536 ∧ cu s 1 1 = .no L C) ∨ (Calls Try.prog 14 #[sv s] w1 fun e w' => ∃ (v : Value) (x y z : Int), x ≠ 120 ∧ e = .returned (.tuple #[v, .agg #[.int .i64 x, .int .i64 y, .int .i64 z]]) ∧ Below w1.heap.size w1 w') := by
    rcases Nat.lt_or_ge 65536 s.length with h | h
    · right
      refine (cut_long s w1 h).mono ?_
      rintro e w' ⟨rfl, hb⟩
      exact ⟨_, 3, 1, 1, by omega, rfl, hb⟩
    · cases hT : cu s 1 1 with
      | no L C => exact .inl ⟨L, C, h, rfl⟩
      | ok ts =>
        right
        refine (cut_ok s ts w1 h hT).mono ?_
        rintro e w' ⟨g, cap, rfl, -, hb⟩
        exact ⟨_, 0, 0, 0, by omega, rfl, hb⟩
  rcases hcases with ⟨L, C, hsl, hT⟩ | hc
  · have cn1 := fun W => cut_no s L C W hsl hT
    have hup : L ≤ 1 + s.length := by
      have := cu_upTo _ s 1 1 (Nat.le_refl _)
      rw [hT] at this; exact this
    obtain ⟨r1, r2, r3⟩ := refused _ s 1 L C (Nat.le_refl _) hT
    have HR : Hid (∀ m, cu (s.take (eol (L - 1) s) ++ 10 :: m) 1 1 = .no L C) := r3
    clear hT r3
    refine (cn1 _).mono ?_
    rintro e w2 ⟨rfl, hb2⟩
    have HB2 : Hid (Below w.heap.size w w2) := step HB1.out hb2
    clear hb2 HB1 cn1
    go_upto_region 4 with fail
    refine ent1 w2 _ _ (Q := fun W => Code.wp _ _ _ _ W) ?_
    intro W2 hB2 hs2 V2
    have a0 : W2.cell? ⟨w2.heap.size, 0, none⟩ = some (.int .i64 120) := V2.cellAt 0
    have HV2 : Hid (Va W2 w2.heap.size 29 #[.int .i64 120, .int .i64 L, .int .i64 C]) := V2
    have HB3 : Hid (Below w.heap.size w W2) := step HB2.out hB2
    clear hB2 hs2 V2 HB2
    go_wp2_with fail
    refine (starts_any s W2 (by omega)).mono ?_
    rintro e w3 ⟨g, cap, rfl, hg3, hb3⟩
    have V3 := HV2.out.after hb3
    have HV3 : Hid (Va w3 w2.heap.size 29 #[.int .i64 120, .int .i64 L, .int .i64 C]) := V3
    have HB4 : Hid (Below w.heap.size w w3) := step HB3.out hb3
    have a1' : w3.cell? ⟨w2.heap.size, 1, none⟩ = some (.int .i64 L) := V3.cellAt 1
    clear hb3 V3 HB3 HV2 a0
    have hEl := eol_le (L - 1) s
    have HR2 : Hid (∀ m, cu (s.take (eol (L - 1) s) ++ 10 :: m) 1 1 = .no L C) := HR.out
    have hXl : (s.take (eol (L - 1) s)).length ≤ 65536 := by rw [List.length_take]; omega
    have hL1 : (1 : Int) ≤ L := by omega
    by_cases hL : L < (0 :: st 0 s).length
    · have cL := hg3.cell L hL
      obtain ⟨p1, p2, p3⟩ := eol_at L s hL r1
      have hsl2 := slice_hi s _ (eol (L - 1) s) p1 hEl
      simp only [List.length_cons] at hL
      have hLi : (L : Int) < ((st 0 s).length.succ : Int) := by omega
      generalize (0 :: st 0 s).getD L 0 = P at *
      generalize s.take (eol (L - 1) s) = X at *
      generalize (st 0 s).length.succ = N at *
      clear hg3 p1 hEl HR r2 hup

      have k1 := catS X [10]
      have k2 := catS (X ++ [10]) m
      have hx2 : (X ++ [10]).length = X.length + 1 := by simp
      have HRM : Hid (cu (X ++ [10] ++ m) 1 1 = .no L C) := by
        have := HR2.out m
        show _ = _
        rw [← this]; simp
      have HA4 : Hid ((X ++ [10] ++ m).length = (X ++ [10]).length + m.length) := by show _ = _; rw [List.length_append]
      generalize X ++ [10] = A2 at *
      have hA2 : A2.length ≤ 65537 := by omega
      clear hx2
      generalize A2 ++ m = ALL at *
      have cL2 := cL
      rcases Nat.lt_or_ge 65536 ALL.length with hJ | hJ
      · have hJi : (65536 : Int) < ALL.length := by omega
        go_wp2_with fail
        go_ret
        exact ⟨rfl, HB4.out⟩
      · have hJi : (ALL.length : Int) ≤ 65536 := by omega
        have cn2 := fun W => cut_no ALL L C W hJ HRM.out
        go_wp2_with fail
        refine (cn2 _).mono ?_
        rintro e w4 ⟨rfl, hb4⟩
        have HV4 : Hid (Va w4 w2.heap.size 29 #[.int .i64 120, .int .i64 L, .int .i64 C]) := HV3.out.after hb4
        have HB5 : Hid (Below w.heap.size w w4) := step HB4.out hb4
        clear hb4 cn2 k1 k2 hsl2 a1' cL cL2
        go_upto_region 16 with fail
        refine ent1 w4 _ _ (Q := fun W => Code.wp _ _ _ _ W) ?_
        intro W5 hB5 hs5 V5
        have V6 := HV4.out.after hB5
        have HB6 : Hid (Below w.heap.size w W5) := step HB5.out hB5
        have a0 : W5.cell? ⟨w2.heap.size, 0, none⟩ = some (.int .i64 120) := V6.cellAt 0
        have a1 : W5.cell? ⟨w2.heap.size, 1, none⟩ = some (.int .i64 L) := V6.cellAt 1
        have a2 : W5.cell? ⟨w2.heap.size, 2, none⟩ = some (.int .i64 C) := V6.cellAt 2
        have d0 : W5.cell? ⟨w4.heap.size, 0, none⟩ = some (.int .i64 120) := V5.cellAt 0
        have d1 : W5.cell? ⟨w4.heap.size, 1, none⟩ = some (.int .i64 L) := V5.cellAt 1
        have d2 : W5.cell? ⟨w4.heap.size, 2, none⟩ = some (.int .i64 C) := V5.cellAt 2
        clear hB5 hs5 V5 V6 HB5 HV4
        go_wp2_with fail
        go_ret
        exact ⟨rfl, by first | exact HB6.out | exact below_dN HB6.out _⟩
    · have hLe : L = (st 0 s).length.succ := by simp only [List.length_cons] at hL; omega
      have hll := eol_last L s (by rw [hLe]; rfl)
      have hsl2 := slice_hi s s.length (eol (L - 1) s) (by rw [hll]) hEl
      have hLi : ¬ (L : Int) < ((st 0 s).length.succ : Int) := by omega
      have hLi2 : (L : Int) ≤ ((st 0 s).length.succ : Int) := by omega
      generalize s.take (eol (L - 1) s) = X at *
      generalize (st 0 s).length.succ = N at *
      have cL : True := trivial
      have HLe : Hid (L = N) := hLe
      clear hg3 hEl HR r2 hup hll hLe hL

      have k1 := catS X [10]
      have k2 := catS (X ++ [10]) m
      have hx2 : (X ++ [10]).length = X.length + 1 := by simp
      have HRM : Hid (cu (X ++ [10] ++ m) 1 1 = .no L C) := by
        have := HR2.out m
        show _ = _
        rw [← this]; simp
      have HA4 : Hid ((X ++ [10] ++ m).length = (X ++ [10]).length + m.length) := by show _ = _; rw [List.length_append]
      generalize X ++ [10] = A2 at *
      have hA2 : A2.length ≤ 65537 := by omega
      clear hx2
      generalize A2 ++ m = ALL at *
      rcases Nat.lt_or_ge 65536 ALL.length with hJ | hJ
      · have hJi : (65536 : Int) < ALL.length := by omega
        go_wp2_with fail
        go_ret
        exact ⟨rfl, HB4.out⟩
      · have hJi : (ALL.length : Int) ≤ 65536 := by omega
        have cn2 := fun W => cut_no ALL L C W hJ HRM.out
        go_wp2_with fail
        refine (cn2 _).mono ?_
        rintro e w4 ⟨rfl, hb4⟩
        have HV4 : Hid (Va w4 w2.heap.size 29 #[.int .i64 120, .int .i64 L, .int .i64 C]) := HV3.out.after hb4
        have HB5 : Hid (Below w.heap.size w w4) := step HB4.out hb4
        clear hb4 cn2 k1 k2 hsl2 a1' cL
        go_upto_region 16 with fail
        refine ent1 w4 _ _ (Q := fun W => Code.wp _ _ _ _ W) ?_
        intro W5 hB5 hs5 V5
        have V6 := HV4.out.after hB5
        have HB6 : Hid (Below w.heap.size w W5) := step HB5.out hB5
        have a0 : W5.cell? ⟨w2.heap.size, 0, none⟩ = some (.int .i64 120) := V6.cellAt 0
        have a1 : W5.cell? ⟨w2.heap.size, 1, none⟩ = some (.int .i64 L) := V6.cellAt 1
        have a2 : W5.cell? ⟨w2.heap.size, 2, none⟩ = some (.int .i64 C) := V6.cellAt 2
        have d0 : W5.cell? ⟨w4.heap.size, 0, none⟩ = some (.int .i64 120) := V5.cellAt 0
        have d1 : W5.cell? ⟨w4.heap.size, 1, none⟩ = some (.int .i64 L) := V5.cellAt 1
        have d2 : W5.cell? ⟨w4.heap.size, 2, none⟩ = some (.int .i64 C) := V5.cellAt 2
        clear hB5 hs5 V5 V6 HB5 HV4
        go_wp2_with fail
        go_ret
        exact ⟨rfl, by first | exact HB6.out | exact below_dN HB6.out _⟩
  · refine hc.mono ?_
    rintro e w2 ⟨v, x, y, z, hx, rfl, hb2⟩
    have hxb : (x == 120) = false := by simpa using hx
    have HB2 : Hid (Below w.heap.size w w2) := step HB1.out hb2
    clear hc hb2 HB1
    go_upto_region 4 with fail
    refine ent1 w2 _ _ (Q := fun W => Code.wp _ _ _ _ W) ?_
    intro W2 hB2 hs2 V2
    have a0 : W2.cell? ⟨w2.heap.size, 0, none⟩ = some (.int .i64 x) := V2.cellAt 0
    have HB3 : Hid (Below w.heap.size w W2) := step HB2.out hB2
    clear hB2 hs2 V2 HB2
    go_wp2_with fail
    go_ret
    exact ⟨rfl, HB3.out⟩
theorem rfs_w (s m : ByteArray) (w : World) (hs : s.data.toList.length ≤ 140737488351232) (hm : m.data.toList.length ≤ 140737488351232) : Calls Try.prog 7 #[.string s, .string m] w fun e w' => e = .returned (.bool true) ∧ Below w.heap.size w w' := by
  rw [sv_of, sv_of]; exact rfs_walk s.data.toList m.data.toList w hm
end Go.Proofs.Ytiedpclomplnmaa
