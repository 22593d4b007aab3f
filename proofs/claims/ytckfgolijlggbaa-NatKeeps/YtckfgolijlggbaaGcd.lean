/-
  Gcd, told by what 'later' does.
-/
import Derived.Test.YtckfgolijlggbaaMeas
import Derived.Test.YtckfgolijlggbaaDivMod
import Derived.Test.YtckfgolijlggbaaLehmer
namespace Go.Proofs.Ytckfgolijlggbaa
open Go.RowKit Go.Shelf

/-- What 'later' does, for numbers that are not above M. -/
def LaterOk (M : Int) : Prop := ∀ (a : Option Addr) (la ca : Nat) (xs : List Int) (b : Option Addr) (lb cb : Nat) (ys : List Int) (W : World), Nt W a la ca xs → Nt W b lb cb ys → num ys ≤ num xs → num xs ≤ M → 1 < lb →
  Calls Try.prog 30 #[.agg #[.slice a la ca], .agg #[.slice b lb cb]] W fun e w' => ∃ a1 l1 c1 us a2 l2 c2 vs, e = .returned (.tuple #[.agg #[.slice a1 l1 c1], .agg #[.slice a2 l2 c2]]) ∧ Nt w' a1 l1 c1 us ∧ Nt w' a2 l2 c2 vs ∧
    num vs ≤ num us ∧ num us ≤ num xs ∧ num vs < num ys ∧ Int.gcd (num us) (num vs) = Int.gcd (num xs) (num ys) ∧ Below W.heap.size W w'
theorem later_none : LaterOk 18446744073709551615 := by
  intro a la ca xs b lb cb ys W ha hb hle hM hl
  have h1 := num_ge_used hb.limbs (by rw [hb.2.1]; omega)
  rw [hb.2.1] at h1
  have h2 := pw_mono (show 1 ≤ lb - 1 by omega)
  simp only [pw] at h2
  omega
theorem gcd_zero {x y : Int} (hx : 0 ≤ x) (h : y = 0) : ((Int.gcd x y : Nat) : Int) = x := by
  subst h
  rw [Int.gcd_zero_right]; omega

set_option maxHeartbeats 4000000 in
theorem ngcd_ge (M : Int) (HL0 : LaterOk M) (a b : Option Addr) (la ca lb cb : Nat) (xs ys : List Int) (w : World) (ha : Nt w a la ca xs) (hb : Nt w b lb cb ys) (hMa : num xs ≤ M) (hle : num ys ≤ num xs) :
    Calls Try.prog 10 #[.agg #[.slice a la ca], .agg #[.slice b lb cb]] w fun e w' => ∃ a' l' c' zs, e = .returned (.agg #[.slice a' l' c']) ∧ Nt w' a' l' c' zs ∧ num zs = (Int.gcd (num xs) (num ys) : Nat) ∧ Below w.heap.size w w' := by
  have HL : Hid (LaterOk M) := HL0
  obtain ⟨G, hG⟩ : ∃ G, Int.gcd (num xs) (num ys) = G := ⟨_, rfl⟩
  rw [hG]
  clear HL0
  obtain ⟨cc, hcc⟩ : ∃ c, cmp3 (num xs) (num ys) = c := ⟨_, rfl⟩
  have hcn : ¬ cc < 0 := by rw [← hcc, cmp3_neg_iff]; omega
  have hcmp := hcc
  clear hcc
  go_enter Try.func10, Try.ntmps10
  go_wp2_with fail
  refine ent3 w _ _ _ _ _ _ (Q := fun W => Calls Try.prog _ _ W _) ?_
  intro w0 B0 hs V0 V1 V2
  replace ha := Nt.after B0 ha
  replace hb := Nt.after B0 hb
  refine (ncompare_any a b la ca lb cb xs ys w0 ha hb).mono ?_
  rintro e w1 ⟨rfl, hb1⟩
  rw [hcmp]
  replace V0 := V0.kept hb1
  replace V1 := V1.kept hb1
  replace V2 := V2.kept hb1
  replace B0 := step B0 hb1
  replace ha := Nt.after hb1 ha
  replace hb := Nt.after hb1 hb
  have c0 := V0.cell
  have c1 := V1.cell
  have f0 := V0.frozen 0
  have f1 := V1.frozen 0
  clear hb1 hs
  go_wp2_with fail
  go_loopw [] (fun wr => ∃ (a : Option Addr) (la ca : Nat) (xs : List Int) (b : Option Addr) (lb cb : Nat) (ys : List Int), Hid (Va wr w.heap.size 27 #[.slice a la ca]) ∧ Hid (Va wr (w.heap.size + 1) 27 #[.slice b lb cb]) ∧ Hid (Va wr (w.heap.size + 1 + 1) 27 #[.slice none 0 0]) ∧ Hid (Nt wr a la ca xs) ∧ Hid (Nt wr b lb cb ys) ∧ Hid (num ys ≤ num xs) ∧ Hid (num xs ≤ M) ∧ Hid (Int.gcd (num xs) (num ys) = G) ∧ Hid (Below w.heap.size w wr)) (fun wr => varNum wr (w.heap.size + 1))
  case atStart => exact ⟨a, la, ca, xs, b, lb, cb, ys, V0, V1, V2, ha, hb, hle, hMa, hG, B0⟩
  case round =>
    clear V0 V1 V2 ha hb hle hMa hG B0 c0 c1 f0 f1 hcmp hcn
    obtain ⟨a, la, ca, xs, b, lb, cb, ys, U0, U1, U2, ha, hb, hle, hM, hg, hB⟩ := hrel
    have c0 := U0.out.cell
    have c1 := U1.out.cell
    have c2 := U2.out.cell
    have f0 := U0.out.frozen 0
    have f1 := U1.out.frozen 0
    have f2 := U2.out.frozen 0
    by_cases hl : 1 < lb
    · go_wp2_with fail
      refine (HL.out a la ca xs b lb cb ys wr ha.out hb.out hle.out hM.out hl).mono ?_
      rintro e w2 ⟨a1, l1, k1, us, a2, l2, k2, vs, rfl, h1, h2, q1, q2, q3, q4, hb2⟩
      have T0 := U0.out.kept hb2
      have T1 := U1.out.kept hb2
      have T2 := U2.out.kept hb2
      have B2 := step hB.out hb2
      have hme := varNum_eq U1.out hb.out
      have hn0 := h2.nonneg
      clear c0 c1 c2 f0 f1 f2
      have c0 := T0.cell
      have c1 := T1.cell
      have f0 := T0.frozen 0
      have f1 := T1.frozen 0
      have hne : w.heap.size ≠ w.heap.size + 1 := by omega
      obtain ⟨S0, S1⟩ := two_vars T0 T1 hne (.slice a1 l1 k1) (.slice a2 l2 k2)
      have S2 := (T2.other (p := ⟨w.heap.size, 0, none⟩) (show w.heap.size + 1 + 1 ≠ w.heap.size by omega) (.slice a1 l1 k1)).other (p := ⟨w.heap.size + 1, 0, none⟩) (show w.heap.size + 1 + 1 ≠ w.heap.size + 1 by omega) (.slice a2 l2 k2)
      have N1 := h1.store2 T0 T1 hne (.slice a1 l1 k1) (.slice a2 l2 k2)
      have N2 := h2.store2 T0 T1 hne (.slice a1 l1 k1) (.slice a2 l2 k2)
      have BF := below_two B2 (b := w.heap.size) (c := w.heap.size + 1) (Nat.le_refl _) (by omega) (.slice a1 l1 k1) (.slice a2 l2 k2)
      have hme2 := varNum_eq S1 N2
      go_wp2_with fail
      go_roundw
      case rel => exact ⟨a1, l1, k1, us, a2, l2, k2, vs, S0, S1, S2, N1, N2, q1, Int.le_trans q2 hM.out, q4.trans hg.out, BF⟩
      case measure => rw [hme2, hme]; omega
    · have hw : num ys < 18446744073709551616 := by
        have := lt_of_used hb.out.limbs (n := 1) (by rw [hb.out.2.1]; omega)
        simpa [pw] using this
      have hy0 := hb.out.nonneg
      have hx0 := ha.out.nonneg
      go_wp2_with fail
      refine (uint64_small b lb cb ys wr hb.out hw).mono ?_
      rintro e w2 ⟨rfl, hb2⟩
      have T0 := U0.out.kept hb2
      have T2 := U2.out.kept hb2
      have B2 := step hB.out hb2
      have h2 := Nt.after hb2 ha.out
      have l1 := h2.2
      clear c0 c1 c2 f0 f1 f2
      have c0 := T0.cell
      have c2 := T2.cell
      have f2 := T2.frozen 0
      by_cases h0 : num ys = 0
      · have hgz := gcd_zero hx0 h0
        rw [hg.out] at hgz
        rw [h0]
        go_wp2_with fail
        refine bodyPost_ret (results_c rfl rfl (T2.set _)) rfl ?_
        exact ⟨_, _, _, xs, rfl, h2.store T2 _, hgz.symm, B2.setCell (p := ⟨w.heap.size + 1 + 1, 0, none⟩) (by show _ ≤ w.heap.size + 1 + 1; omega) _⟩
      · obtain ⟨y, hy⟩ : ∃ y, num ys = y := ⟨_, rfl⟩
        have HG : Hid (Int.gcd (num xs) y = G) := by rw [← hy]; exact hg
        rw [hy] at h0 hw hy0 ⊢
        have g1 : (y == 0) = false := by simpa using h0
        go_wp2_with fail
        refine (over_ok a la ca xs y w2 h2.1 (by omega) h2.2.2.1 ⟨hy0, hw⟩ (by omega)).mono ?_
        rintro e w3 ⟨g, m, c, qs, r, rfl, -, -, -, -, -, hn, r0, r1, hb3⟩
        have T3 := T2.kept hb3
        have B3 := step B2 hb3
        have hr : num xs % y = r := by
          rw [hn, Int.add_comm, Int.add_mul_emod_self_right]
          exact Int.emod_eq_of_lt r0 r1
        have HG3 : Hid (Int.gcd y r = G) := by
          show _ = _
          rw [← hr, ← gcd_mod]; exact HG.out
        have HY : Hid (Word y) := ⟨hy0, hw⟩
        have HR : Hid (Word r) := ⟨r0, by omega⟩
        have hyp : 0 < y := by omega
        clear c0 c2 f2 T0 T2 hr hn HG B2 h2
        go_wp2_with fail
        go_loopw [5, 8] (fun yy rr wr => (∃ q, wr = w3.drewN q) ∧ ∃ (y r : Int), yy = .int .u64 y ∧ rr = .int .u64 r ∧ Hid (Word y) ∧ Hid (Word r) ∧ 0 < y ∧ Hid (Int.gcd y r = G)) (fun _ rr _ => (intOf rr).toNat)
        case atStart => exact ⟨⟨0, rfl⟩, y, r, rfl, rfl, HY, HR, hyp, HG3⟩
        case round =>
          clear HY HR hyp HG3 hw hy0 h0 g1 r0 r1 hy
          obtain ⟨⟨q, rfl⟩, y2, r2, rfl, rfl, HY2, HR2, hp2, HG2⟩ := hrel
          have hrr := HR2.out
          by_cases hz : r2 = 0
          · subst hz
            have hgz := gcd_zero (Int.le_of_lt hp2) (rfl : (0 : Int) = 0)
            rw [HG2.out] at hgz
            go_wp2_with fail
            refine (small_any y2 HY2.out (w3.drewN q)).mono ?_
            rintro e w4 ⟨a4, l4, k4, zs, rfl, h4, hn4, hb4⟩
            have T4 := Va.kept (w := w3.drewN q) T3 hb4
            have B4 := step (below_drewN B3 q) hb4
            have c2 := T4.cell
            have f2 := T4.frozen 0
            go_wp2_with fail
            refine bodyPost_ret (results_c rfl rfl (T4.set _)) rfl ?_
            exact ⟨_, _, _, zs, rfl, h4.store T4 _, hn4.trans hgz.symm, B4.setCell (p := ⟨w.heap.size + 1 + 1, 0, none⟩) (by show _ ≤ w.heap.size + 1 + 1; omega) _⟩
          · have hr0 := hrr.1
            have hrp : 0 < r2 := by omega
            have hg2 : (r2 == 0) = false := by simpa using hz
            have hyy := HY2.out.1
            have e1 := Int.emod_nonneg y2 (show r2 ≠ 0 by omega)
            have e2 := Int.emod_lt_of_pos y2 hrp
            obtain ⟨s, hs⟩ : ∃ s, y2 % r2 = s := ⟨_, rfl⟩
            have HG4 : Hid (Int.gcd r2 s = G) := by
              show _ = _
              rw [← hs, ← gcd_mod]; exact HG2.out
            have HS : Hid (Word s) := ⟨by omega, by have := hrr.2; omega⟩
            have htm : y2.tmod r2 = s := by rw [Int.tmod_eq_emod_of_nonneg hyy]; exact hs
            go_wp2_with fail
            go_quiet (fail)
            go_wp2_with fail
            go_roundw
            case rel => exact ⟨⟨_, World.drewN_drewN _ _ _⟩, r2, s, rfl, rfl, HR2, HS, hrp, HG4⟩
            case measure => simp [intOf]; omega

set_option maxHeartbeats 4000000 in
theorem ngcd_lt (M : Int) (HL0 : LaterOk M) (a b : Option Addr) (la ca lb cb : Nat) (xs ys : List Int) (w : World) (ha : Nt w a la ca xs) (hb : Nt w b lb cb ys) (hMb : num ys ≤ M) (hlt : num xs < num ys) :
    Calls Try.prog 10 #[.agg #[.slice a la ca], .agg #[.slice b lb cb]] w fun e w' => ∃ a' l' c' zs, e = .returned (.agg #[.slice a' l' c']) ∧ Nt w' a' l' c' zs ∧ num zs = (Int.gcd (num xs) (num ys) : Nat) ∧ Below w.heap.size w w' := by
  have HL : Hid (LaterOk M) := HL0
  obtain ⟨G, hG⟩ : ∃ G, Int.gcd (num xs) (num ys) = G := ⟨_, rfl⟩
  rw [hG]
  clear HL0
  have hcmp := cmp3_lt hlt
  go_enter Try.func10, Try.ntmps10
  go_wp2_with fail
  refine ent3 w _ _ _ _ _ _ (Q := fun W => Calls Try.prog _ _ W _) ?_
  intro w0 B0 hs V0 V1 V2
  replace ha := Nt.after B0 ha
  replace hb := Nt.after B0 hb
  refine (ncompare_any a b la ca lb cb xs ys w0 ha hb).mono ?_
  rintro e w1 ⟨rfl, hb1⟩
  rw [hcmp]
  replace V0 := V0.kept hb1
  replace V1 := V1.kept hb1
  replace V2 := V2.kept hb1
  replace B0 := step B0 hb1
  replace ha := Nt.after hb1 ha
  replace hb := Nt.after hb1 hb
  have c0 := V0.cell
  have c1 := V1.cell
  have f0 := V0.frozen 0
  have f1 := V1.frozen 0
  clear hb1 hs
  go_wp2_with fail
  have hne : w.heap.size ≠ w.heap.size + 1 := by omega
  obtain ⟨S0, S1⟩ := two_vars V0 V1 hne (.slice b lb cb) (.slice a la ca)
  have S2 := (V2.other (p := ⟨w.heap.size, 0, none⟩) (show w.heap.size + 1 + 1 ≠ w.heap.size by omega) (.slice b lb cb)).other (p := ⟨w.heap.size + 1, 0, none⟩) (show w.heap.size + 1 + 1 ≠ w.heap.size + 1 by omega) (.slice a la ca)
  have N1 := ha.store2 V0 V1 hne (.slice b lb cb) (.slice a la ca)
  have N2 := hb.store2 V0 V1 hne (.slice b lb cb) (.slice a la ca)
  have BF := below_two B0 (b := w.heap.size) (c := w.heap.size + 1) (Nat.le_refl _) (by omega) (.slice b lb cb) (.slice a la ca)
  have hG2 : Int.gcd (num ys) (num xs) = G := by rw [Int.gcd_comm]; exact hG
  go_loopw [] (fun wr => ∃ (a : Option Addr) (la ca : Nat) (xs : List Int) (b : Option Addr) (lb cb : Nat) (ys : List Int), Hid (Va wr w.heap.size 27 #[.slice a la ca]) ∧ Hid (Va wr (w.heap.size + 1) 27 #[.slice b lb cb]) ∧ Hid (Va wr (w.heap.size + 1 + 1) 27 #[.slice none 0 0]) ∧ Hid (Nt wr a la ca xs) ∧ Hid (Nt wr b lb cb ys) ∧ Hid (num ys ≤ num xs) ∧ Hid (num xs ≤ M) ∧ Hid (Int.gcd (num xs) (num ys) = G) ∧ Hid (Below w.heap.size w wr)) (fun wr => varNum wr (w.heap.size + 1))
  case atStart => exact ⟨b, lb, cb, ys, a, la, ca, xs, S0, S1, S2, N2, N1, Int.le_of_lt hlt, hMb, hG2, BF⟩
  case round =>
    clear V0 V1 V2 ha hb hlt hMb hG hG2 B0 BF S0 S1 S2 N1 N2 c0 c1 f0 f1 hcmp
    obtain ⟨a, la, ca, xs, b, lb, cb, ys, U0, U1, U2, ha, hb, hle, hM, hg, hB⟩ := hrel
    have c0 := U0.out.cell
    have c1 := U1.out.cell
    have c2 := U2.out.cell
    have f0 := U0.out.frozen 0
    have f1 := U1.out.frozen 0
    have f2 := U2.out.frozen 0
    by_cases hl : 1 < lb
    · go_wp2_with fail
      refine (HL.out a la ca xs b lb cb ys wr ha.out hb.out hle.out hM.out hl).mono ?_
      rintro e w2 ⟨a1, l1, k1, us, a2, l2, k2, vs, rfl, h1, h2, q1, q2, q3, q4, hb2⟩
      have T0 := U0.out.kept hb2
      have T1 := U1.out.kept hb2
      have T2 := U2.out.kept hb2
      have B2 := step hB.out hb2
      have hme := varNum_eq U1.out hb.out
      have hn0 := h2.nonneg
      clear c0 c1 c2 f0 f1 f2
      have c0 := T0.cell
      have c1 := T1.cell
      have f0 := T0.frozen 0
      have f1 := T1.frozen 0
      have hne : w.heap.size ≠ w.heap.size + 1 := by omega
      obtain ⟨S0, S1⟩ := two_vars T0 T1 hne (.slice a1 l1 k1) (.slice a2 l2 k2)
      have S2 := (T2.other (p := ⟨w.heap.size, 0, none⟩) (show w.heap.size + 1 + 1 ≠ w.heap.size by omega) (.slice a1 l1 k1)).other (p := ⟨w.heap.size + 1, 0, none⟩) (show w.heap.size + 1 + 1 ≠ w.heap.size + 1 by omega) (.slice a2 l2 k2)
      have N1 := h1.store2 T0 T1 hne (.slice a1 l1 k1) (.slice a2 l2 k2)
      have N2 := h2.store2 T0 T1 hne (.slice a1 l1 k1) (.slice a2 l2 k2)
      have BF := below_two B2 (b := w.heap.size) (c := w.heap.size + 1) (Nat.le_refl _) (by omega) (.slice a1 l1 k1) (.slice a2 l2 k2)
      have hme2 := varNum_eq S1 N2
      go_wp2_with fail
      go_roundw
      case rel => exact ⟨a1, l1, k1, us, a2, l2, k2, vs, S0, S1, S2, N1, N2, q1, Int.le_trans q2 hM.out, q4.trans hg.out, BF⟩
      case measure => rw [hme2, hme]; omega
    · have hw : num ys < 18446744073709551616 := by
        have := lt_of_used hb.out.limbs (n := 1) (by rw [hb.out.2.1]; omega)
        simpa [pw] using this
      have hy0 := hb.out.nonneg
      have hx0 := ha.out.nonneg
      go_wp2_with fail
      refine (uint64_small b lb cb ys wr hb.out hw).mono ?_
      rintro e w2 ⟨rfl, hb2⟩
      have T0 := U0.out.kept hb2
      have T2 := U2.out.kept hb2
      have B2 := step hB.out hb2
      have h2 := Nt.after hb2 ha.out
      have l1 := h2.2
      clear c0 c1 c2 f0 f1 f2
      have c0 := T0.cell
      have c2 := T2.cell
      have f2 := T2.frozen 0
      by_cases h0 : num ys = 0
      · have hgz := gcd_zero hx0 h0
        rw [hg.out] at hgz
        rw [h0]
        go_wp2_with fail
        refine bodyPost_ret (results_c rfl rfl (T2.set _)) rfl ?_
        exact ⟨_, _, _, xs, rfl, h2.store T2 _, hgz.symm, B2.setCell (p := ⟨w.heap.size + 1 + 1, 0, none⟩) (by show _ ≤ w.heap.size + 1 + 1; omega) _⟩
      · obtain ⟨y, hy⟩ : ∃ y, num ys = y := ⟨_, rfl⟩
        have HG : Hid (Int.gcd (num xs) y = G) := by rw [← hy]; exact hg
        rw [hy] at h0 hw hy0 ⊢
        have g1 : (y == 0) = false := by simpa using h0
        go_wp2_with fail
        refine (over_ok a la ca xs y w2 h2.1 (by omega) h2.2.2.1 ⟨hy0, hw⟩ (by omega)).mono ?_
        rintro e w3 ⟨g, m, c, qs, r, rfl, -, -, -, -, -, hn, r0, r1, hb3⟩
        have T3 := T2.kept hb3
        have B3 := step B2 hb3
        have hr : num xs % y = r := by
          rw [hn, Int.add_comm, Int.add_mul_emod_self_right]
          exact Int.emod_eq_of_lt r0 r1
        have HG3 : Hid (Int.gcd y r = G) := by
          show _ = _
          rw [← hr, ← gcd_mod]; exact HG.out
        have HY : Hid (Word y) := ⟨hy0, hw⟩
        have HR : Hid (Word r) := ⟨r0, by omega⟩
        have hyp : 0 < y := by omega
        clear c0 c2 f2 T0 T2 hr hn HG B2 h2
        go_wp2_with fail
        go_loopw [5, 8] (fun yy rr wr => (∃ q, wr = w3.drewN q) ∧ ∃ (y r : Int), yy = .int .u64 y ∧ rr = .int .u64 r ∧ Hid (Word y) ∧ Hid (Word r) ∧ 0 < y ∧ Hid (Int.gcd y r = G)) (fun _ rr _ => (intOf rr).toNat)
        case atStart => exact ⟨⟨0, rfl⟩, y, r, rfl, rfl, HY, HR, hyp, HG3⟩
        case round =>
          clear HY HR hyp HG3 hw hy0 h0 g1 r0 r1 hy
          obtain ⟨⟨q, rfl⟩, y2, r2, rfl, rfl, HY2, HR2, hp2, HG2⟩ := hrel
          have hrr := HR2.out
          by_cases hz : r2 = 0
          · subst hz
            have hgz := gcd_zero (Int.le_of_lt hp2) (rfl : (0 : Int) = 0)
            rw [HG2.out] at hgz
            go_wp2_with fail
            refine (small_any y2 HY2.out (w3.drewN q)).mono ?_
            rintro e w4 ⟨a4, l4, k4, zs, rfl, h4, hn4, hb4⟩
            have T4 := Va.kept (w := w3.drewN q) T3 hb4
            have B4 := step (below_drewN B3 q) hb4
            have c2 := T4.cell
            have f2 := T4.frozen 0
            go_wp2_with fail
            refine bodyPost_ret (results_c rfl rfl (T4.set _)) rfl ?_
            exact ⟨_, _, _, zs, rfl, h4.store T4 _, hn4.trans hgz.symm, B4.setCell (p := ⟨w.heap.size + 1 + 1, 0, none⟩) (by show _ ≤ w.heap.size + 1 + 1; omega) _⟩
          · have hr0 := hrr.1
            have hrp : 0 < r2 := by omega
            have hg2 : (r2 == 0) = false := by simpa using hz
            have hyy := HY2.out.1
            have e1 := Int.emod_nonneg y2 (show r2 ≠ 0 by omega)
            have e2 := Int.emod_lt_of_pos y2 hrp
            obtain ⟨s, hs⟩ : ∃ s, y2 % r2 = s := ⟨_, rfl⟩
            have HG4 : Hid (Int.gcd r2 s = G) := by
              show _ = _
              rw [← hs, ← gcd_mod]; exact HG2.out
            have HS : Hid (Word s) := ⟨by omega, by have := hrr.2; omega⟩
            have htm : y2.tmod r2 = s := by rw [Int.tmod_eq_emod_of_nonneg hyy]; exact hs
            go_wp2_with fail
            go_quiet (fail)
            go_wp2_with fail
            go_roundw
            case rel => exact ⟨⟨_, World.drewN_drewN _ _ _⟩, r2, s, rfl, rfl, HR2, HS, hrp, HG4⟩
            case measure => simp [intOf]; omega

theorem ngcd_of (M : Int) (HL : LaterOk M) (a b : Option Addr) (la ca lb cb : Nat) (xs ys : List Int) (w : World) (ha : Nt w a la ca xs) (hb : Nt w b lb cb ys) (hMa : num xs ≤ M) (hMb : num ys ≤ M) :
    Calls Try.prog 10 #[.agg #[.slice a la ca], .agg #[.slice b lb cb]] w fun e w' => ∃ a' l' c' zs, e = .returned (.agg #[.slice a' l' c']) ∧ Nt w' a' l' c' zs ∧ num zs = (Int.gcd (num xs) (num ys) : Nat) ∧ Below w.heap.size w w' := by
  rcases Int.lt_or_le (num xs) (num ys) with h | h
  · exact ngcd_lt M HL a b la ca lb cb xs ys w ha hb hMb h
  · exact ngcd_ge M HL a b la ca lb cb xs ys w ha hb hMa h
end Go.Proofs.Ytckfgolijlggbaa
