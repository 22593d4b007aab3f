/-
  DivMod of numbers.
-/
import Derived.Test.YtkfpblonjinfmaaDivide2
import Derived.Test.YtkfpblonjinfmaaVals2
namespace Go.Proofs.Ytkfpblonjinfmaa
open Go.RowKit Go.Shelf

theorem two_vars {w : World} {b c : Nat} {t : TypeId} {x y : Value} (V : Va w b t #[x]) (U : Va w c t #[y]) (hne : b ≠ c) (u v : Value) :
    Va ((w.setCell ⟨b, 0, none⟩ u).setCell ⟨c, 0, none⟩ v) b t #[u] ∧ Va ((w.setCell ⟨b, 0, none⟩ u).setCell ⟨c, 0, none⟩ v) c t #[v] :=
  ⟨(V.set u).other hne v, (U.other (p := ⟨b, 0, none⟩) hne.symm u).set v⟩
theorem Nt.store2 {w : World} {a : Option Addr} {len cap : Nat} {zs : List Int} (h : Nt w a len cap zs) {b c : Nat} {t : TypeId} {x x' : Option Addr} {y z y' z' : Nat} (V : Va w b t #[.slice x y z]) (U : Va w c t #[.slice x' y' z']) (hne : b ≠ c) (u v : Value) :
    Nt ((w.setCell ⟨b, 0, none⟩ u).setCell ⟨c, 0, none⟩ v) a len cap zs := (h.store V u).store (U.other (p := ⟨b, 0, none⟩) hne.symm u) v
theorem below_two {B : Nat} {a w : World} (h : Below B a w) {b c : Nat} (hb : B ≤ b) (hc : B ≤ c) (u v : Value) : Below B a ((w.setCell ⟨b, 0, none⟩ u).setCell ⟨c, 0, none⟩ v) :=
  (h.setCell (p := ⟨b, 0, none⟩) hb u).setCell (p := ⟨c, 0, none⟩) hc v

set_option maxHeartbeats 2000000 in
theorem ndiv_nought (a b : Option Addr) (la ca lb cb : Nat) (xs ys : List Int) (w : World) (ha : Nt w a la ca xs) (hb : Nt w b lb cb ys) (h0 : num ys = 0) :
    Calls Try.prog 50 #[.agg #[.slice a la ca], .agg #[.slice b lb cb]] w fun e w' =>
      e = .returned (.tuple #[.agg #[.slice none 0 0], .agg #[.slice none 0 0], .int .i64 4]) ∧ Below w.heap.size w w' := by
  have hlb : ((lb : Int) == 0) = true := by rw [hb.zero]; simpa using h0
  go_enter Try.func50, Try.ntmps50
  go_wp2_with fail
  refine ent4 w _ _ _ _ _ _ _ _ (Q := fun W => Calls Try.prog _ _ W _) ?_
  intro w0 B0 hs V0 V1 V2 V3
  replace ha := Nt.after B0 ha
  replace hb := Nt.after B0 hb
  refine (isZero_any b lb cb w0).mono ?_
  rintro e w1 ⟨rfl, hb1⟩
  rw [hlb]
  replace V0 := V0.kept hb1
  replace V1 := V1.kept hb1
  replace V2 := V2.kept hb1
  replace V3 := V3.kept hb1
  replace B0 := step B0 hb1
  replace ha := Nt.after hb1 ha
  replace hb := Nt.after hb1 hb
  clear hb1
  have c0 := V0.cell
  have c1 := V1.cell
  have c2 := V2.cell
  have c3 := V3.cell
  have f2 := V2.frozen 0
  have f3 := V3.frozen 0
  go_wp2_with fail
  have hne : w.heap.size + 1 + 1 ≠ w.heap.size + 1 + 1 + 1 := by omega
  obtain ⟨T2, T3⟩ := two_vars V2 V3 hne (.slice none 0 0) (.slice none 0 0)
  refine bodyPost_ret (results_cct rfl rfl T2 rfl T3) rfl ?_
  have BF := below_two B0 (b := w.heap.size + 1 + 1) (c := w.heap.size + 1 + 1 + 1) (by omega) (by omega) (.slice none 0 0) (.slice none 0 0)
  exact ⟨rfl, BF⟩

set_option maxHeartbeats 2000000 in
theorem ndiv_less (a b : Option Addr) (la ca lb cb : Nat) (xs ys : List Int) (w : World) (ha : Nt w a la ca xs) (hb : Nt w b lb cb ys) (h0 : num ys ≠ 0) (hlt : num xs < num ys) :
    Calls Try.prog 50 #[.agg #[.slice a la ca], .agg #[.slice b lb cb]] w fun e w' =>
      ∃ a1 m1 c1 a2 m2 c2 qs rs, e = .returned (.tuple #[.agg #[.slice a1 m1 c1], .agg #[.slice a2 m2 c2], .int .i64 0]) ∧ Nt w' a1 m1 c1 qs ∧ Nt w' a2 m2 c2 rs ∧ num xs = num qs * num ys + num rs ∧ num rs < num ys ∧ Below w.heap.size w w' := by
  have hlb : ((lb : Int) == 0) = false := by rw [hb.zero]; simpa using h0
  have hcmp := cmp3_lt hlt
  go_enter Try.func50, Try.ntmps50
  go_wp2_with fail
  refine ent4 w _ _ _ _ _ _ _ _ (Q := fun W => Calls Try.prog _ _ W _) ?_
  intro w0 B0 hs V0 V1 V2 V3
  replace ha := Nt.after B0 ha
  replace hb := Nt.after B0 hb
  refine (isZero_any b lb cb w0).mono ?_
  rintro e w1 ⟨rfl, hb1⟩
  rw [hlb]
  replace V0 := V0.kept hb1
  replace V1 := V1.kept hb1
  replace V2 := V2.kept hb1
  replace V3 := V3.kept hb1
  replace B0 := step B0 hb1
  replace ha := Nt.after hb1 ha
  replace hb := Nt.after hb1 hb
  clear hb1
  have c0 := V0.cell
  have c1 := V1.cell
  have c2 := V2.cell
  have c3 := V3.cell
  have f2 := V2.frozen 0
  have f3 := V3.frozen 0
  go_wp2_with fail
  refine (ncompare_any a b la ca lb cb xs ys w1 ha hb).mono ?_
  rintro e w2 ⟨rfl, hb2⟩
  rw [hcmp]
  replace V0 := V0.kept hb2
  replace V1 := V1.kept hb2
  replace V2 := V2.kept hb2
  replace V3 := V3.kept hb2
  replace B0 := step B0 hb2
  replace ha := Nt.after hb2 ha
  replace hb := Nt.after hb2 hb
  clear hb2
  replace c0 := V0.cell
  replace c1 := V1.cell
  replace c2 := V2.cell
  replace c3 := V3.cell
  replace f2 := V2.frozen 0
  replace f3 := V3.frozen 0
  go_wp2_with fail
  have hne : w.heap.size + 1 + 1 ≠ w.heap.size + 1 + 1 + 1 := by omega
  obtain ⟨T2, T3⟩ := two_vars (w := w2.drew) V2 V3 hne (.slice none 0 0) (.slice a la ca)
  have BF := below_two B0.drew (b := w.heap.size + 1 + 1) (c := w.heap.size + 1 + 1 + 1) (by omega) (by omega) (.slice none 0 0) (.slice a la ca)
  have hF := Nt.store2 (w := w2.drew) ha V2 V3 hne (.slice none 0 0) (.slice a la ca)
  go_region
  all_goals
    go_wp2_with fail
    refine bodyPost_ret (results_cct rfl rfl T2 rfl T3) rfl ?_
    exact ⟨_, _, _, _, _, _, [], xs, rfl, Nt.nil _, hF, by simp [num], hlt, BF⟩

set_option maxHeartbeats 2000000 in
theorem ndiv_small (a b : Option Addr) (la ca lb cb : Nat) (xs ys : List Int) (w : World) (ha : Nt w a la ca xs) (hb : Nt w b lb cb ys) (h0 : num ys ≠ 0) (hle : num ys ≤ num xs) (hw : num ys < 18446744073709551616) :
    Calls Try.prog 50 #[.agg #[.slice a la ca], .agg #[.slice b lb cb]] w fun e w' =>
      ∃ a1 m1 c1 a2 m2 c2 qs rs, e = .returned (.tuple #[.agg #[.slice a1 m1 c1], .agg #[.slice a2 m2 c2], .int .i64 0]) ∧ Nt w' a1 m1 c1 qs ∧ Nt w' a2 m2 c2 rs ∧ num xs = num qs * num ys + num rs ∧ num rs < num ys ∧ Below w.heap.size w w' := by
  have hlb : ((lb : Int) == 0) = false := by rw [hb.zero]; simpa using h0
  have hy0 := hb.nonneg
  have l1 := ha.2
  obtain ⟨cc, hcc⟩ : ∃ c, cmp3 (num xs) (num ys) = c := ⟨_, rfl⟩
  have hcn : ¬ cc < 0 := by rw [← hcc, cmp3_neg_iff]; omega
  have hcmp := hcc
  clear hcc
  go_enter Try.func50, Try.ntmps50
  go_wp2_with fail
  refine ent4 w _ _ _ _ _ _ _ _ (Q := fun W => Calls Try.prog _ _ W _) ?_
  intro w0 B0 hs V0 V1 V2 V3
  replace ha := Nt.after B0 ha
  replace hb := Nt.after B0 hb
  refine (isZero_any b lb cb w0).mono ?_
  rintro e w1 ⟨rfl, hb1⟩
  rw [hlb]
  replace V0 := V0.kept hb1
  replace V1 := V1.kept hb1
  replace V2 := V2.kept hb1
  replace V3 := V3.kept hb1
  replace B0 := step B0 hb1
  replace ha := Nt.after hb1 ha
  replace hb := Nt.after hb1 hb
  clear hb1
  have c0 := V0.cell
  have c1 := V1.cell
  have c2 := V2.cell
  have c3 := V3.cell
  have f2 := V2.frozen 0
  have f3 := V3.frozen 0
  go_wp2_with fail
  refine (ncompare_any a b la ca lb cb xs ys w1 ha hb).mono ?_
  rintro e w2 ⟨rfl, hb2⟩
  rw [hcmp]
  replace V0 := V0.kept hb2
  replace V1 := V1.kept hb2
  replace V2 := V2.kept hb2
  replace V3 := V3.kept hb2
  replace B0 := step B0 hb2
  replace ha := Nt.after hb2 ha
  replace hb := Nt.after hb2 hb
  clear hb2
  replace c0 := V0.cell
  replace c1 := V1.cell
  replace c2 := V2.cell
  replace c3 := V3.cell
  replace f2 := V2.frozen 0
  replace f3 := V3.frozen 0
  go_wp2_with fail
  refine (uint64_small b lb cb ys w2 hb hw).mono ?_
  rintro e w3 ⟨rfl, hb3⟩
  replace V0 := V0.kept hb3
  replace V1 := V1.kept hb3
  replace V2 := V2.kept hb3
  replace V3 := V3.kept hb3
  replace B0 := step B0 hb3
  replace ha := Nt.after hb3 ha
  replace hb := Nt.after hb3 hb
  clear hb3
  replace c0 := V0.cell
  replace c1 := V1.cell
  replace c2 := V2.cell
  replace c3 := V3.cell
  replace f2 := V2.frozen 0
  replace f3 := V3.frozen 0
  go_wp2_with fail
  obtain ⟨y, hy⟩ : ∃ y, num ys = y := ⟨_, rfl⟩
  rw [hy] at hy0 hw h0 ⊢
  have OV := over_ok a la ca xs y w3 ha.1 (by omega) ha.2.2.1 ⟨hy0, hw⟩ (by omega)
  refine OV.mono ?_
  rintro e w4 ⟨g, m, c, qs, r, rfl, hg, hmc, hml, hsl, hu, hn, r0, r1, hb4⟩
  replace V0 := V0.kept hb4
  replace V1 := V1.kept hb4
  replace V2 := V2.kept hb4
  replace V3 := V3.kept hb4
  replace B0 := step B0 hb4
  have hq : Nt w4 (some ⟨g, 0, none⟩) m c qs := ⟨hsl, hu, hmc, by omega⟩
  clear hb4 OV
  replace c2 := V2.cell
  replace c3 := V3.cell
  replace f2 := V2.frozen 0
  replace f3 := V3.frozen 0
  go_wp2_with fail
  refine (small_any r ⟨r0, by omega⟩ w4).mono ?_
  rintro e w5 ⟨a5, l5, k5, rs, rfl, h5, hn5, hb5⟩
  replace V2 := V2.kept hb5
  replace V3 := V3.kept hb5
  replace B0 := step B0 hb5
  replace hq := Nt.after hb5 hq
  clear hb5
  replace c2 := V2.cell
  replace c3 := V3.cell
  replace f2 := V2.frozen 0
  replace f3 := V3.frozen 0
  go_wp2_with fail
  have hne : w.heap.size + 1 + 1 ≠ w.heap.size + 1 + 1 + 1 := by omega
  obtain ⟨T2, T3⟩ := two_vars V2 V3 hne (.slice (some ⟨g, 0, none⟩) m c) (.slice a5 l5 k5)
  refine bodyPost_ret (results_cct rfl rfl T2 rfl T3) rfl ?_
  have BF := below_two B0 (b := w.heap.size + 1 + 1) (c := w.heap.size + 1 + 1 + 1) (by omega) (by omega) (.slice (some ⟨g, 0, none⟩) m c) (.slice a5 l5 k5)
  exact ⟨_, _, _, _, _, _, qs, rs, rfl, hq.store2 V2 V3 hne _ _, h5.store2 V2 V3 hne _ _, by rw [hn5, hy]; exact hn, by rw [hn5, hy]; exact r1, BF⟩

set_option maxHeartbeats 2000000 in
theorem ndiv_great (a b : Option Addr) (la ca lb cb : Nat) (xs ys : List Int) (w : World) (ha : Nt w a la ca xs) (hb : Nt w b lb cb ys) (hle : num ys ≤ num xs) (hw : 18446744073709551616 ≤ num ys) :
    Calls Try.prog 50 #[.agg #[.slice a la ca], .agg #[.slice b lb cb]] w fun e w' =>
      ∃ a1 m1 c1 a2 m2 c2 qs rs, e = .returned (.tuple #[.agg #[.slice a1 m1 c1], .agg #[.slice a2 m2 c2], .int .i64 0]) ∧ Nt w' a1 m1 c1 qs ∧ Nt w' a2 m2 c2 rs ∧ num xs = num qs * num ys + num rs ∧ num rs < num ys ∧ Below w.heap.size w w' := by
  have hlb : ((lb : Int) == 0) = false := by rw [hb.zero]; simp; omega
  have l1 := ha.2
  have l2 := hb.2
  have hl2 : 2 ≤ lb := by
    rcases Nat.lt_or_ge 1 lb with h | h
    · exact h
    · have := lt_of_used hb.limbs (n := 1) (by rw [hb.2.1]; exact h)
      simp [pw] at this; omega
  have hll : lb ≤ la := by
    rcases Nat.lt_or_ge la lb with h | h
    · have := num_lt_len ha.limbs hb.limbs (by rw [ha.2.1, hb.2.1]; exact h)
      omega
    · exact h
  obtain ⟨cc, hcc⟩ : ∃ c, cmp3 (num xs) (num ys) = c := ⟨_, rfl⟩
  have hcn : ¬ cc < 0 := by rw [← hcc, cmp3_neg_iff]; omega
  have hcmp := hcc
  clear hcc
  go_enter Try.func50, Try.ntmps50
  go_wp2_with fail
  refine ent4 w _ _ _ _ _ _ _ _ (Q := fun W => Calls Try.prog _ _ W _) ?_
  intro w0 B0 hs V0 V1 V2 V3
  replace ha := Nt.after B0 ha
  replace hb := Nt.after B0 hb
  refine (isZero_any b lb cb w0).mono ?_
  rintro e w1 ⟨rfl, hb1⟩
  rw [hlb]
  replace V0 := V0.kept hb1
  replace V1 := V1.kept hb1
  replace V2 := V2.kept hb1
  replace V3 := V3.kept hb1
  replace B0 := step B0 hb1
  replace ha := Nt.after hb1 ha
  replace hb := Nt.after hb1 hb
  clear hb1
  have c0 := V0.cell
  have c1 := V1.cell
  have c2 := V2.cell
  have c3 := V3.cell
  have f2 := V2.frozen 0
  have f3 := V3.frozen 0
  go_wp2_with fail
  refine (ncompare_any a b la ca lb cb xs ys w1 ha hb).mono ?_
  rintro e w2 ⟨rfl, hb2⟩
  rw [hcmp]
  replace V0 := V0.kept hb2
  replace V1 := V1.kept hb2
  replace V2 := V2.kept hb2
  replace V3 := V3.kept hb2
  replace B0 := step B0 hb2
  replace ha := Nt.after hb2 ha
  replace hb := Nt.after hb2 hb
  clear hb2
  replace c0 := V0.cell
  replace c1 := V1.cell
  replace c2 := V2.cell
  replace c3 := V3.cell
  replace f2 := V2.frozen 0
  replace f3 := V3.frozen 0
  go_wp2_with fail
  refine (uint64_great b lb cb ys w2 hb hw).mono ?_
  rintro e w3 ⟨rfl, hb3⟩
  replace V0 := V0.kept hb3
  replace V1 := V1.kept hb3
  replace V2 := V2.kept hb3
  replace V3 := V3.kept hb3
  replace B0 := step B0 hb3
  replace ha := Nt.after hb3 ha
  replace hb := Nt.after hb3 hb
  clear hb3
  replace c0 := V0.cell
  replace c1 := V1.cell
  replace c2 := V2.cell
  replace c3 := V3.cell
  replace f2 := V2.frozen 0
  replace f3 := V3.frozen 0
  go_wp2_with fail
  refine (divided_any a b la ca lb cb xs ys w3 ha.1 hb.1 ha.2.1 hb.2.1 ha.2.2.1 hb.2.2.1 (by omega) hl2 hll).mono ?_
  rintro e w4 ⟨g1, m1, k1, a2, m2, k2, qs, rs, rfl, hs1, hu1, hc1, hm1, hs2, hu2, hc2, hn, hr, hb4⟩
  replace V2 := V2.kept hb4
  replace V3 := V3.kept hb4
  replace B0 := step B0 hb4
  have hq : Nt w4 (some ⟨g1, 0, none⟩) m1 k1 qs := by
    refine ⟨hs1, hu1, hc1, ?_⟩
    rw [← hu1]
    refine used_of_lt hs1.2.1 (Int.lt_of_le_of_lt ?_ (Nt.lt ha))
    have h1 := num_nonneg hs1.2.1; have h2 := num_nonneg hs2.2.1
    have : num qs * 1 ≤ num qs * num ys := Int.mul_le_mul_of_nonneg_left (by omega) h1
    omega
  have hr2 : Nt w4 a2 m2 k2 rs := by
    refine ⟨hs2, hu2, hc2, ?_⟩
    rw [← hu2]
    exact used_of_lt hs2.2.1 (Int.lt_trans hr (Nt.lt hb))
  clear hb4
  replace c2 := V2.cell
  replace c3 := V3.cell
  replace f2 := V2.frozen 0
  replace f3 := V3.frozen 0
  go_wp2_with fail
  have hne : w.heap.size + 1 + 1 ≠ w.heap.size + 1 + 1 + 1 := by omega
  obtain ⟨T2, T3⟩ := two_vars V2 V3 hne (.slice (some ⟨g1, 0, none⟩) m1 k1) (.slice a2 m2 k2)
  refine bodyPost_ret (results_cct rfl rfl T2 rfl T3) rfl ?_
  have BF := below_two B0 (b := w.heap.size + 1 + 1) (c := w.heap.size + 1 + 1 + 1) (by omega) (by omega) (.slice (some ⟨g1, 0, none⟩) m1 k1) (.slice a2 m2 k2)
  exact ⟨_, _, _, _, _, _, qs, rs, rfl, hq.store2 V2 V3 hne _ _, hr2.store2 V2 V3 hne _ _, hn, hr, BF⟩

theorem ndiv_ok (a b : Option Addr) (la ca lb cb : Nat) (xs ys : List Int) (w : World) (ha : Nt w a la ca xs) (hb : Nt w b lb cb ys) (h0 : num ys ≠ 0) :
    Calls Try.prog 50 #[.agg #[.slice a la ca], .agg #[.slice b lb cb]] w fun e w' =>
      ∃ a1 m1 c1 a2 m2 c2 qs rs, e = .returned (.tuple #[.agg #[.slice a1 m1 c1], .agg #[.slice a2 m2 c2], .int .i64 0]) ∧ Nt w' a1 m1 c1 qs ∧ Nt w' a2 m2 c2 rs ∧ num xs = num qs * num ys + num rs ∧ num rs < num ys ∧ Below w.heap.size w w' := by
  rcases Int.lt_or_le (num xs) (num ys) with h | h
  · exact ndiv_less a b la ca lb cb xs ys w ha hb h0 h
  · rcases Int.lt_or_le (num ys) 18446744073709551616 with h' | h'
    · exact ndiv_small a b la ca lb cb xs ys w ha hb h0 h h'
    · exact ndiv_great a b la ca lb cb xs ys w ha hb h h'
end Go.Proofs.Ytkfpblonjinfmaa
