/-
  Lists of arcs that are lent with marks behind their ends.
-/
import Derived.Test.YtonhooaboieapaaOrN
namespace Go.Proofs.Ytonhooaboieapaa
open Go.RowKit Go.Shelf
set_option linter.unusedVariables false
set_option linter.unusedSimpArgs false

/-- The marks. -/
def mkS : Nat → List Pr
  | 0 => []
  | k + 1 => mkS k ++ [(8000024 + (k : Int), 0)]
theorem mkS_length : ∀ k, (mkS k).length = k
  | 0 => rfl
  | k + 1 => by simp [mkS, mkS_length k]
theorem mkS_getD : ∀ (n k : Nat), k < n → (mkS n).getD k (0, 0) = (8000024 + (k : Int), 0)
  | 0, k, h => absurd h (by omega)
  | n + 1, k, h => by
    rw [mkS, List.getD_eq_getElem?_getD]
    by_cases hk : k < n
    · rw [List.getElem?_append_left (by rw [mkS_length]; exact hk), ← List.getD_eq_getElem?_getD]; exact mkS_getD n k hk
    · obtain rfl : k = n := by omega
      rw [List.getElem?_append_right (by rw [mkS_length]; exact Nat.le_refl _), mkS_length, Nat.sub_self]; rfl
theorem mark1_any (i : Int) (h0 : 0 ≤ i) (h1 : i ≤ 100) (w : World) : Calls Try.prog 21 #[.int .i64 1, .int .i64 i] w fun e w' => e = .returned (.int .i64 (8000024 + i)) ∧ w' = w := by
  go_enter Try.func21, Try.ntmps21
  go_wp2_with fail
  go_ret
  exact ⟨rfl, rfl⟩
theorem mark2_any (i : Int) (w : World) : Calls Try.prog 21 #[.int .i64 2, .int .i64 i] w fun e w' => (∃ x : Int, e = .returned (.int .i64 x)) ∧ w' = w := by
  go_enter Try.func21, Try.ntmps21
  go_wp2_with fail
  go_ret
  exact ⟨⟨_, rfl⟩, rfl⟩
theorem results_ar {fn : Func} {j b : Nat} {x y : Value} {tmps : Array Value} {w : World} (h : fn.results = #[.cell j 38]) (hj : tmps.getD j undef = .pointer (some ⟨b, 0, none⟩)) (hv : Va w b 38 #[x, y]) :
    (results fn tmps).run Try.prog w = .ok (.agg #[x, y]) w := by
  have c0 := hv.c0
  have c1 := hv.c1
  rw [Array.getD_eq_getD_getElem?] at hj
  simp [results, h, hj, c0, c1, go_sem]
theorem mkarc1 (i : Int) (h0 : 0 ≤ i) (h1 : i ≤ 100) (w : World) : Calls Try.prog 20 #[.int .i64 1, .int .i64 i] w fun e w' => e = .returned (.agg #[.int .i64 (8000024 + i), .int .i64 0]) ∧ Below w.heap.size w w' := by
  have hm := fun W => mark1_any i h0 h1 W
  go_enter Try.func20, Try.ntmps20
  go_wp2_with fail
  refine ent1 w _ _ (Q := fun W => Calls _ _ _ W _) ?_
  intro W0 hB0 hs0 V0
  have c0 := V0.c0
  have c1 := V0.c1
  have f0 := V0.frozen 0
  have f1 := V0.frozen 1
  have HV0 : Hid (Va W0 w.heap.size 38 #[.int .i64 0, .int .i64 0]) := V0
  have HB0 : Hid (Below w.heap.size w W0) := hB0
  clear V0 hB0 hs0
  refine (hm W0).mono ?_
  rintro e w' ⟨rfl, hw'⟩
  rw [hw']; clear hw' w'
  go_wp2_with fail
  refine bodyPost_ret (results_ar rfl rfl (HV0.out.set2 _ _)) rfl ?_
  exact ⟨rfl, below_2 HB0.out (Nat.le_refl _) _ _⟩
theorem mkarc2 (i : Int) (w : World) : Calls Try.prog 20 #[.int .i64 2, .int .i64 i] w fun e w' => ∃ x : Int, e = .returned (.agg #[.int .i64 x, .int .i64 0]) ∧ Below w.heap.size w w' := by
  have hm := fun W => mark2_any i W
  go_enter Try.func20, Try.ntmps20
  go_wp2_with fail
  refine ent1 w _ _ (Q := fun W => Calls _ _ _ W _) ?_
  intro W0 hB0 hs0 V0
  have c0 := V0.c0
  have c1 := V0.c1
  have f0 := V0.frozen 0
  have f1 := V0.frozen 1
  have HV0 : Hid (Va W0 w.heap.size 38 #[.int .i64 0, .int .i64 0]) := V0
  have HB0 : Hid (Below w.heap.size w W0) := hB0
  clear V0 hB0 hs0
  refine (hm W0).mono ?_
  rintro e w' ⟨⟨x, rfl⟩, hw'⟩
  rw [hw']; clear hw' w'
  go_wp2_with fail
  refine bodyPost_ret (results_ar rfl rfl (HV0.out.set2 _ _)) rfl ?_
  exact ⟨x, rfl, below_2 HB0.out (Nat.le_refl _) _ _⟩
/-- A list's cells, one behind the other. -/
theorem ls_row {w : World} {a : Option Addr} {len : Nat} {ps : List Pr} (h : Ls w a len ps) : ∀ ad, a = some ad → ∀ (j : Nat) (u : Value), (rowS ps)[j]? = some u → w.cell? (ad.add j) = some u := by
  intro ad had j u hj
  have hj' : j < ps.length * 2 := by
    rcases Nat.lt_or_ge j (rowS ps).length with h' | h'
    · rwa [rowS_length] at h'
    · rw [List.getElem?_eq_none h'] at hj; cases hj
  obtain ⟨b, off, e, hc⟩ := h.2 (by have := h.1; omega)
  rw [had] at e
  cases e
  rw [Addr.add_lit]
  rcases Nat.mod_two_eq_zero_or_one j with e | e
  · have c0 := (hc (j / 2) (by have := h.1; omega)).1
    have r0 := rowS_get0 ps (j / 2) (by omega)
    rw [show (j / 2) * 2 = j by omega] at c0 r0
    rw [hj] at r0; cases r0; exact c0
  · have c0 := (hc (j / 2) (by have := h.1; omega)).2
    have r0 := rowS_get1 ps (j / 2) (by omega)
    rw [show (j / 2) * 2 + 1 = j by omega] at r0
    rw [show off + j / 2 * 2 + 1 = off + j by omega] at c0
    rw [hj] at r0; cases r0; exact c0
/-- A row of arcs, full. -/
theorem full_row {w : World} {B g cap : Nat} {qs : List Pr} (h : w.ownsRow B 38 2 (.slice (some ⟨g, 0, none⟩) cap cap) cap (rowS qs)) : Va w g 38 (rowS qs).toArray := by
  obtain ⟨h1, h2 | ⟨g', cap', cur, e, hB, hh, hc, hm, hs, ht⟩⟩ := h
  · cases h2.1
  · cases e
    rw [List.take_of_length_le (by simp; omega)] at ht
    unfold Va
    rw [hh, ← ht]
set_option maxHeartbeats 2000000 in
theorem lentS_any (a : Option Addr) (la ca : Nat) (ps : List Pr) (w : World) (h : Ls w a la ps) (hn : a = none → la = 0 ∧ ca = 0) (hl : la ≤ 9000000000000) :
    Calls Try.prog 6 #[.slice a la ca] w fun e w' => e = .returned (.slice (some ⟨w.heap.size, 0, none⟩) la (la + 12)) ∧ Va w' w.heap.size 38 (rowS (ps ++ mkS 12)).toArray ∧ Below w.heap.size w w' := by
  have hz := h.1
  obtain ⟨i0, hi, hz0, hz1, hz2⟩ := info_parts infoS
  have HB8 : Hid (i0.bytes * (la + 12) ≤ 281474976710656) := by show _ ≤ _; rw [hz2]; omega
  have HNN : Hid (a = none → la = 0 ∧ ca = 0) := hn
  have HSL : Hid (Ls w a la ps) := h
  have HLZ : Hid ((rowS ps).length = la * 2) := by show _ = _; rw [rowS_length]; omega
  clear hn h
  go_enter Try.func6, Try.ntmps6
  go_wp2_with (at_make; refine wpList_make_own w rfl _ _ 22 rfl w.heap.size 38 i0 (.agg #[.int .i64 0, .int .i64 0]) 2 Try.underlying22 hi hz0 hz1 .i64 .i64 _ (la + 12) rfl rfl ?c1 HB8.out ?c2 (Nat.le_refl _) ?_)
  case c1 => omega
  case c2 => unfold maxLen; omega
  intro w1 ho1 hg1
  have hb1 : Below w.heap.size w w1 := (Below.refl _ _).grown hg1 (Nat.le_refl _) (fun k hk => by cases hk)
  have HR1 : Hid (∀ ad, a = some ad → ∀ (j : Nat) (u : Value), (rowS ps)[j]? = some u → w1.cell? (ad.add j) = some u) := ls_row (HSL.out.after hb1)
  have HO1 : Hid (w1.ownsRow w.heap.size 38 2 (.slice (some ⟨w.heap.size, 0, none⟩) 0 (la + 12)) 0 []) := ho1
  have HB1 : Hid (Below w.heap.size w w1) := hb1
  have HZ : Hid (∀ u ∈ rowS ps, u.oneCell' = true) := rowS_one ps
  clear ho1 hg1 hb1
  go_wp2_with (at_builtin; refine wpList_append_fits_any w1 rfl _ _ 22 rfl w.heap.size 38 i0 2 Try.underlying22 hi hz1 w.heap.size 0 (la + 12) [] rfl HO1.out a la ca (rowS ps) rfl HLZ.out HNN.out HR1.out HZ.out (by omega) ?_; intro w2 ho2 hg2; simp only [Nat.zero_add, List.nil_append] at ho2 ⊢)
  have hb2 : Below w.heap.size w w2 := HB1.out.grown hg2 HB1.out.size (fun k hk => by cases hk; exact Nat.le_refl _)
  have HO2 : Hid (w2.ownsRow w.heap.size 38 2 (.slice (some ⟨w.heap.size, 0, none⟩) la (la + 12)) la (rowS ps)) := ho2
  have HB2 : Hid (Below w.heap.size w w2) := hb2
  clear ho2 hg2 hb2 HR1 HO1 HB1
  go_loopw [3, 4] (fun v ii wr => ∃ k : Nat, k ≤ 12 ∧ ii = .int .i64 k ∧ v = .slice (some ⟨w.heap.size, 0, none⟩) (la + k) (la + 12) ∧ Hid (wr.ownsRow w.heap.size 38 2 (.slice (some ⟨w.heap.size, 0, none⟩) (la + k) (la + 12)) (la + k) (rowS (ps ++ mkS k))) ∧ Hid (Below w.heap.size w wr)) (fun _ ii _ => 12 - (intOf ii).toNat)
  case atStart => exact ⟨0, by omega, rfl, rfl, by rw [mkS, List.append_nil]; exact HO2, HB2.out⟩
  case round =>
    clear HO2 HB2
    obtain ⟨k, hk, rfl, rfl, HO, HB⟩ := hrel
    by_cases hlt : k < 12
    · have hki : (k : Int) < 12 := by omega
      have mk := mkarc1 k (by omega) (by omega) wr
      go_wp2_with fail
      refine mk.mono ?_
      rintro e w3 ⟨rfl, hb3⟩
      have HB3 : Hid (Below w.heap.size w w3) := step HB.out hb3
      have HO3 : Hid ((w3.alloc (.cells #[.int .i64 (8000024 + (k : Int)), .int .i64 0] 38)).ownsRow w.heap.size 38 2 (.slice (some ⟨w.heap.size, 0, none⟩) (la + k) (la + 12)) (la + k) (rowS (ps ++ mkS k))) := by
        have h1 : Gs wr w.heap.size (.slice (some ⟨w.heap.size, 0, none⟩) (la + k) (la + 12)) (ps ++ mkS k) := by
          have := HO.out
          unfold Gs
          rw [show (ps ++ mkS k).length = la + k by rw [List.length_append, mkS_length]; omega]
          exact this
        have h2 := (h1.after hb3).al (.cells #[.int .i64 (8000024 + (k : Int)), .int .i64 0] 38)
        unfold Gs at h2
        rw [show (ps ++ mkS k).length = la + k by rw [List.length_append, mkS_length]; omega] at h2
        exact h2
      have HC : Hid (∀ (j : Nat) (u : Value), (rowS [(8000024 + (k : Int), (0 : Int))])[j]? = some u → (w3.alloc (.cells #[.int .i64 (8000024 + (k : Int)), .int .i64 0] 38)).cell? ((⟨w3.heap.size, 0, none⟩ : Addr).add j) = some u) := by
        intro j u hu
        match j, hu with
        | 0, hu => cases hu; exact (Va.new w3 _ _).c0
        | 1, hu => cases hu; exact (Va.new w3 _ _).c1
        | j + 2, hu => simp [rowS] at hu
      have HZ1 : Hid (∀ u ∈ rowS [(8000024 + (k : Int), (0 : Int))], u.oneCell' = true) := rowS_one _
      have hs3 := HB3.out.size
      clear hb3 HO HB mk
      go_wp2_with (at_builtin; refine wpList_append_fits _ rfl _ _ 22 rfl w.heap.size 38 i0 2 Try.underlying22 hi hz1 w.heap.size (la + k) (la + 12) (rowS (ps ++ mkS k)) rfl HO3.out ⟨w3.heap.size, 0, none⟩ 1 1 (rowS [(8000024 + (k : Int), (0 : Int))]) rfl rfl HC.out HZ1.out (by omega) ?_; intro w4 ho4 hg4)
      have hb4 : Below w.heap.size w w4 := (HB3.out.alloc hs3 _).grown hg4 (by simp; omega) (fun k hk => by cases hk; exact Nat.le_refl _)
      have HO5 : Hid (w4.ownsRow w.heap.size 38 2 (.slice (some ⟨w.heap.size, 0, none⟩) (la + (k + 1)) (la + 12)) (la + (k + 1)) (rowS (ps ++ mkS (k + 1)))) := by
        have := ho4
        rw [← rowS_append, List.append_assoc] at this
        exact this
      clear ho4 hg4 HO3 HC HZ1 HB3
      go_wp2_with fail
      go_roundw
      case rel => exact ⟨k + 1, by omega, by go_num, rfl, HO5, hb4⟩
      case measure => simp [intOf]; omega
    · obtain rfl : k = 12 := by omega
      have HV : Hid (Va wr w.heap.size 38 (rowS (ps ++ mkS 12)).toArray) := full_row HO.out
      clear HO
      go_wp2_with fail
      go_ret
      exact ⟨rfl, HV.out, HB.out⟩
end Go.Proofs.Ytonhooaboieapaa
