/-
  Put together of: Gcd, LaterP, Later, GcdAny.
-/
import Derived.Test.YtblafbbnplfpjaaGreatDoorMgAk
import Derived.Test.YtblafbbnplfpjaaGreatDoorBsO
import Derived.Test.YtblafbbnplfpjaaGreatDoorBsP
import Derived.Test.YtblafbbnplfpjaaGreatDoorMgAe
namespace Go.Proofs.YtblafbbnplfpjaaGreatDoor
open Go.RowKit Go.Shelf

/-- What 'later' does, for numbers that are not above M. -/
def LaterOk (M : Int) : Prop := ∀ (a : Option Addr) (la ca : Nat) (xs : List Int) (b : Option Addr) (lb cb : Nat) (ys : List Int) (W : World), Nt W a la ca xs → Nt W b lb cb ys → num ys ≤ num xs → num xs ≤ M → 1 < lb →
  Calls Tryz.prog 158 #[.agg #[.slice a la ca], .agg #[.slice b lb cb]] W fun e w' => ∃ a1 l1 c1 us a2 l2 c2 vs, e = .returned (.tuple #[.agg #[.slice a1 l1 c1], .agg #[.slice a2 l2 c2]]) ∧ Nt w' a1 l1 c1 us ∧ Nt w' a2 l2 c2 vs ∧
    num vs ≤ num us ∧ num us ≤ num xs ∧ num vs < num ys ∧ Int.gcd (num us) (num vs) = Int.gcd (num xs) (num ys) ∧ Below W.heap.size W w'
theorem gcd_zero {x y : Int} (hx : 0 ≤ x) (h : y = 0) : ((Int.gcd x y : Nat) : Int) = x := by
  subst h
  rw [Int.gcd_zero_right]; omega

set_option maxHeartbeats 4000000 in
theorem ngcd_ge (M : Int) (HL0 : LaterOk M) (a b : Option Addr) (la ca lb cb : Nat) (xs ys : List Int) (w : World) (ha : Nt w a la ca xs) (hb : Nt w b lb cb ys) (hMa : num xs ≤ M) (hle : num ys ≤ num xs) :
    Calls Tryz.prog 134 #[.agg #[.slice a la ca], .agg #[.slice b lb cb]] w fun e w' => ∃ a' l' c' zs, e = .returned (.agg #[.slice a' l' c']) ∧ Nt w' a' l' c' zs ∧ num zs = (Int.gcd (num xs) (num ys) : Nat) ∧ Below w.heap.size w w' := by
  have HL : Hid (LaterOk M) := HL0
  obtain ⟨G, hG⟩ : ∃ G, Int.gcd (num xs) (num ys) = G := ⟨_, rfl⟩
  rw [hG]
  clear HL0
  obtain ⟨cc, hcc⟩ : ∃ c, cmp3 (num xs) (num ys) = c := ⟨_, rfl⟩
  have hcn : ¬ cc < 0 := by rw [← hcc, cmp3_neg_iff]; omega
  have hcmp := hcc
  clear hcc
  go_enter Tryz.func134, Tryz.ntmps134
  go_wp2_with fail
  refine ent3 w _ _ _ _ _ _ (Q := fun W => Calls Tryz.prog _ _ W _) ?_
  intro w0 B0 hs V0 V1 V2
  replace ha := Nt.after B0 ha
  replace hb := Nt.after B0 hb
  refine (ncompare_any a b la ca lb cb xs ys w0 ha hb).mono ?_
  rintro e w1 ⟨rfl, hb1⟩
  rw [hcmp]
  replace V0 := V0.kept hb1
  replace V1 := V1.kept hb1
  replace V2 := V2.kept hb1
  replace B0 := step B0 hb1
  replace ha := Nt.after hb1 ha
  replace hb := Nt.after hb1 hb
  have c0 := V0.cell
  have c1 := V1.cell
  have f0 := V0.frozen 0
  have f1 := V1.frozen 0
  clear hb1 hs
  go_wp2_with fail
  go_loopw [] (fun wr => ∃ (a : Option Addr) (la ca : Nat) (xs : List Int) (b : Option Addr) (lb cb : Nat) (ys : List Int), Hid (Va wr w.heap.size 62 #[.slice a la ca]) ∧ Hid (Va wr (w.heap.size + 1) 62 #[.slice b lb cb]) ∧ Hid (Va wr (w.heap.size + 1 + 1) 62 #[.slice none 0 0]) ∧ Hid (Nt wr a la ca xs) ∧ Hid (Nt wr b lb cb ys) ∧ Hid (num ys ≤ num xs) ∧ Hid (num xs ≤ M) ∧ Hid (Int.gcd (num xs) (num ys) = G) ∧ Hid (Below w.heap.size w wr)) (fun wr => varNum wr (w.heap.size + 1))
  case atStart => exact ⟨a, la, ca, xs, b, lb, cb, ys, V0, V1, V2, ha, hb, hle, hMa, hG, B0⟩
  case round =>
    clear V0 V1 V2 ha hb hle hMa hG B0 c0 c1 f0 f1 hcmp hcn
    obtain ⟨a, la, ca, xs, b, lb, cb, ys, U0, U1, U2, ha, hb, hle, hM, hg, hB⟩ := hrel
    have c0 := U0.out.cell
    have c1 := U1.out.cell
    have c2 := U2.out.cell
    have f0 := U0.out.frozen 0
    have f1 := U1.out.frozen 0
    have f2 := U2.out.frozen 0
    by_cases hl : 1 < lb
    · go_wp2_with fail
      refine (HL.out a la ca xs b lb cb ys wr ha.out hb.out hle.out hM.out hl).mono ?_
      rintro e w2 ⟨a1, l1, k1, us, a2, l2, k2, vs, rfl, h1, h2, q1, q2, q3, q4, hb2⟩
      have T0 := U0.out.kept hb2
      have T1 := U1.out.kept hb2
      have T2 := U2.out.kept hb2
      have B2 := step hB.out hb2
      have hme := varNum_eq U1.out hb.out
      have hn0 := h2.nonneg
      clear c0 c1 c2 f0 f1 f2
      have c0 := T0.cell
      have c1 := T1.cell
      have f0 := T0.frozen 0
      have f1 := T1.frozen 0
      have hne : w.heap.size ≠ w.heap.size + 1 := by omega
      obtain ⟨S0, S1⟩ := two_vars T0 T1 hne (.slice a1 l1 k1) (.slice a2 l2 k2)
      have S2 := (T2.other (p := ⟨w.heap.size, 0, none⟩) (show w.heap.size + 1 + 1 ≠ w.heap.size by omega) (.slice a1 l1 k1)).other (p := ⟨w.heap.size + 1, 0, none⟩) (show w.heap.size + 1 + 1 ≠ w.heap.size + 1 by omega) (.slice a2 l2 k2)
      have N1 := h1.store2 T0 T1 hne (.slice a1 l1 k1) (.slice a2 l2 k2)
      have N2 := h2.store2 T0 T1 hne (.slice a1 l1 k1) (.slice a2 l2 k2)
      have BF := below_two B2 (b := w.heap.size) (c := w.heap.size + 1) (Nat.le_refl _) (by omega) (.slice a1 l1 k1) (.slice a2 l2 k2)
      have hme2 := varNum_eq S1 N2
      go_wp2_with fail
      go_roundw
      case rel => exact ⟨a1, l1, k1, us, a2, l2, k2, vs, S0, S1, S2, N1, N2, q1, Int.le_trans q2 hM.out, q4.trans hg.out, BF⟩
      case measure => rw [hme2, hme]; omega
    · have hw : num ys < 18446744073709551616 := by
        have := lt_of_used hb.out.limbs (n := 1) (by rw [hb.out.2.1]; omega)
        simpa [pw] using this
      have hy0 := hb.out.nonneg
      have hx0 := ha.out.nonneg
      go_wp2_with fail
      refine (uint64_small b lb cb ys wr hb.out hw).mono ?_
      rintro e w2 ⟨rfl, hb2⟩
      have T0 := U0.out.kept hb2
      have T2 := U2.out.kept hb2
      have B2 := step hB.out hb2
      have h2 := Nt.after hb2 ha.out
      have l1 := h2.2
      clear c0 c1 c2 f0 f1 f2
      have c0 := T0.cell
      have c2 := T2.cell
      have f2 := T2.frozen 0
      by_cases h0 : num ys = 0
      · have hgz := gcd_zero hx0 h0
        rw [hg.out] at hgz
        rw [h0]
        go_wp2_with fail
        refine bodyPost_ret (results_c rfl rfl (T2.set _)) rfl ?_
        exact ⟨_, _, _, xs, rfl, h2.store T2 _, hgz.symm, B2.setCell (p := ⟨w.heap.size + 1 + 1, 0, none⟩) (by show _ ≤ w.heap.size + 1 + 1; omega) _⟩
      · obtain ⟨y, hy⟩ : ∃ y, num ys = y := ⟨_, rfl⟩
        have HG : Hid (Int.gcd (num xs) y = G) := by rw [← hy]; exact hg
        rw [hy] at h0 hw hy0 ⊢
        have g1 : (y == 0) = false := by simpa using h0
        go_wp2_with fail
        refine (over_ok a la ca xs y w2 h2.1 (by omega) h2.2.2.1 ⟨hy0, hw⟩ (by omega)).mono ?_
        rintro e w3 ⟨g, m, c, qs, r, rfl, -, -, -, -, -, hn, r0, r1, hb3⟩
        have T3 := T2.kept hb3
        have B3 := step B2 hb3
        have hr : num xs % y = r := by
          rw [hn, Int.add_comm, Int.add_mul_emod_self_right]
          exact Int.emod_eq_of_lt r0 r1
        have HG3 : Hid (Int.gcd y r = G) := by
          show _ = _
          rw [← hr, ← gcd_mod]; exact HG.out
        have HY : Hid (Word y) := ⟨hy0, hw⟩
        have HR : Hid (Word r) := ⟨r0, by omega⟩
        have hyp : 0 < y := by omega
        clear c0 c2 f2 T0 T2 hr hn HG B2 h2
        go_wp2_with fail
        go_loopw [5, 8] (fun yy rr wr => (∃ q, wr = w3.drewN q) ∧ ∃ (y r : Int), yy = .int .u64 y ∧ rr = .int .u64 r ∧ Hid (Word y) ∧ Hid (Word r) ∧ 0 < y ∧ Hid (Int.gcd y r = G)) (fun _ rr _ => (intOf rr).toNat)
        case atStart => exact ⟨⟨0, rfl⟩, y, r, rfl, rfl, HY, HR, hyp, HG3⟩
        case round =>
          clear HY HR hyp HG3 hw hy0 h0 g1 r0 r1 hy
          obtain ⟨⟨q, rfl⟩, y2, r2, rfl, rfl, HY2, HR2, hp2, HG2⟩ := hrel
          have hrr := HR2.out
          by_cases hz : r2 = 0
          · subst hz
            have hgz := gcd_zero (Int.le_of_lt hp2) (rfl : (0 : Int) = 0)
            rw [HG2.out] at hgz
            go_wp2_with fail
            refine (small_any y2 HY2.out (w3.drewN q)).mono ?_
            rintro e w4 ⟨a4, l4, k4, zs, rfl, h4, hn4, hb4⟩
            have T4 := Va.kept (w := w3.drewN q) T3 hb4
            have B4 := step (below_drewN B3 q) hb4
            have c2 := T4.cell
            have f2 := T4.frozen 0
            go_wp2_with fail
            refine bodyPost_ret (results_c rfl rfl (T4.set _)) rfl ?_
            exact ⟨_, _, _, zs, rfl, h4.store T4 _, hn4.trans hgz.symm, B4.setCell (p := ⟨w.heap.size + 1 + 1, 0, none⟩) (by show _ ≤ w.heap.size + 1 + 1; omega) _⟩
          · have hr0 := hrr.1
            have hrp : 0 < r2 := by omega
            have hg2 : (r2 == 0) = false := by simpa using hz
            have hyy := HY2.out.1
            have e1 := Int.emod_nonneg y2 (show r2 ≠ 0 by omega)
            have e2 := Int.emod_lt_of_pos y2 hrp
            obtain ⟨s, hs⟩ : ∃ s, y2 % r2 = s := ⟨_, rfl⟩
            have HG4 : Hid (Int.gcd r2 s = G) := by
              show _ = _
              rw [← hs, ← gcd_mod]; exact HG2.out
            have HS : Hid (Word s) := ⟨by omega, by have := hrr.2; omega⟩
            have htm : y2.tmod r2 = s := by rw [Int.tmod_eq_emod_of_nonneg hyy]; exact hs
            go_wp2_with fail
            go_quiet (fail)
            go_wp2_with fail
            go_roundw
            case rel => exact ⟨⟨_, World.drewN_drewN _ _ _⟩, r2, s, rfl, rfl, HR2, HS, hrp, HG4⟩
            case measure => simp [intOf]; omega

set_option maxHeartbeats 4000000 in
theorem ngcd_lt (M : Int) (HL0 : LaterOk M) (a b : Option Addr) (la ca lb cb : Nat) (xs ys : List Int) (w : World) (ha : Nt w a la ca xs) (hb : Nt w b lb cb ys) (hMb : num ys ≤ M) (hlt : num xs < num ys) :
    Calls Tryz.prog 134 #[.agg #[.slice a la ca], .agg #[.slice b lb cb]] w fun e w' => ∃ a' l' c' zs, e = .returned (.agg #[.slice a' l' c']) ∧ Nt w' a' l' c' zs ∧ num zs = (Int.gcd (num xs) (num ys) : Nat) ∧ Below w.heap.size w w' := by
  have HL : Hid (LaterOk M) := HL0
  obtain ⟨G, hG⟩ : ∃ G, Int.gcd (num xs) (num ys) = G := ⟨_, rfl⟩
  rw [hG]
  clear HL0
  have hcmp := cmp3_lt hlt
  go_enter Tryz.func134, Tryz.ntmps134
  go_wp2_with fail
  refine ent3 w _ _ _ _ _ _ (Q := fun W => Calls Tryz.prog _ _ W _) ?_
  intro w0 B0 hs V0 V1 V2
  replace ha := Nt.after B0 ha
  replace hb := Nt.after B0 hb
  refine (ncompare_any a b la ca lb cb xs ys w0 ha hb).mono ?_
  rintro e w1 ⟨rfl, hb1⟩
  rw [hcmp]
  replace V0 := V0.kept hb1
  replace V1 := V1.kept hb1
  replace V2 := V2.kept hb1
  replace B0 := step B0 hb1
  replace ha := Nt.after hb1 ha
  replace hb := Nt.after hb1 hb
  have c0 := V0.cell
  have c1 := V1.cell
  have f0 := V0.frozen 0
  have f1 := V1.frozen 0
  clear hb1 hs
  go_wp2_with fail
  have hne : w.heap.size ≠ w.heap.size + 1 := by omega
  obtain ⟨S0, S1⟩ := two_vars V0 V1 hne (.slice b lb cb) (.slice a la ca)
  have S2 := (V2.other (p := ⟨w.heap.size, 0, none⟩) (show w.heap.size + 1 + 1 ≠ w.heap.size by omega) (.slice b lb cb)).other (p := ⟨w.heap.size + 1, 0, none⟩) (show w.heap.size + 1 + 1 ≠ w.heap.size + 1 by omega) (.slice a la ca)
  have N1 := ha.store2 V0 V1 hne (.slice b lb cb) (.slice a la ca)
  have N2 := hb.store2 V0 V1 hne (.slice b lb cb) (.slice a la ca)
  have BF := below_two B0 (b := w.heap.size) (c := w.heap.size + 1) (Nat.le_refl _) (by omega) (.slice b lb cb) (.slice a la ca)
  have hG2 : Int.gcd (num ys) (num xs) = G := by rw [Int.gcd_comm]; exact hG
  go_loopw [] (fun wr => ∃ (a : Option Addr) (la ca : Nat) (xs : List Int) (b : Option Addr) (lb cb : Nat) (ys : List Int), Hid (Va wr w.heap.size 62 #[.slice a la ca]) ∧ Hid (Va wr (w.heap.size + 1) 62 #[.slice b lb cb]) ∧ Hid (Va wr (w.heap.size + 1 + 1) 62 #[.slice none 0 0]) ∧ Hid (Nt wr a la ca xs) ∧ Hid (Nt wr b lb cb ys) ∧ Hid (num ys ≤ num xs) ∧ Hid (num xs ≤ M) ∧ Hid (Int.gcd (num xs) (num ys) = G) ∧ Hid (Below w.heap.size w wr)) (fun wr => varNum wr (w.heap.size + 1))
  case atStart => exact ⟨b, lb, cb, ys, a, la, ca, xs, S0, S1, S2, N2, N1, Int.le_of_lt hlt, hMb, hG2, BF⟩
  case round =>
    clear V0 V1 V2 ha hb hlt hMb hG hG2 B0 BF S0 S1 S2 N1 N2 c0 c1 f0 f1 hcmp
    obtain ⟨a, la, ca, xs, b, lb, cb, ys, U0, U1, U2, ha, hb, hle, hM, hg, hB⟩ := hrel
    have c0 := U0.out.cell
    have c1 := U1.out.cell
    have c2 := U2.out.cell
    have f0 := U0.out.frozen 0
    have f1 := U1.out.frozen 0
    have f2 := U2.out.frozen 0
    by_cases hl : 1 < lb
    · go_wp2_with fail
      refine (HL.out a la ca xs b lb cb ys wr ha.out hb.out hle.out hM.out hl).mono ?_
      rintro e w2 ⟨a1, l1, k1, us, a2, l2, k2, vs, rfl, h1, h2, q1, q2, q3, q4, hb2⟩
      have T0 := U0.out.kept hb2
      have T1 := U1.out.kept hb2
      have T2 := U2.out.kept hb2
      have B2 := step hB.out hb2
      have hme := varNum_eq U1.out hb.out
      have hn0 := h2.nonneg
      clear c0 c1 c2 f0 f1 f2
      have c0 := T0.cell
      have c1 := T1.cell
      have f0 := T0.frozen 0
      have f1 := T1.frozen 0
      have hne : w.heap.size ≠ w.heap.size + 1 := by omega
      obtain ⟨S0, S1⟩ := two_vars T0 T1 hne (.slice a1 l1 k1) (.slice a2 l2 k2)
      have S2 := (T2.other (p := ⟨w.heap.size, 0, none⟩) (show w.heap.size + 1 + 1 ≠ w.heap.size by omega) (.slice a1 l1 k1)).other (p := ⟨w.heap.size + 1, 0, none⟩) (show w.heap.size + 1 + 1 ≠ w.heap.size + 1 by omega) (.slice a2 l2 k2)
      have N1 := h1.store2 T0 T1 hne (.slice a1 l1 k1) (.slice a2 l2 k2)
      have N2 := h2.store2 T0 T1 hne (.slice a1 l1 k1) (.slice a2 l2 k2)
      have BF := below_two B2 (b := w.heap.size) (c := w.heap.size + 1) (Nat.le_refl _) (by omega) (.slice a1 l1 k1) (.slice a2 l2 k2)
      have hme2 := varNum_eq S1 N2
      go_wp2_with fail
      go_roundw
      case rel => exact ⟨a1, l1, k1, us, a2, l2, k2, vs, S0, S1, S2, N1, N2, q1, Int.le_trans q2 hM.out, q4.trans hg.out, BF⟩
      case measure => rw [hme2, hme]; omega
    · have hw : num ys < 18446744073709551616 := by
        have := lt_of_used hb.out.limbs (n := 1) (by rw [hb.out.2.1]; omega)
        simpa [pw] using this
      have hy0 := hb.out.nonneg
      have hx0 := ha.out.nonneg
      go_wp2_with fail
      refine (uint64_small b lb cb ys wr hb.out hw).mono ?_
      rintro e w2 ⟨rfl, hb2⟩
      have T0 := U0.out.kept hb2
      have T2 := U2.out.kept hb2
      have B2 := step hB.out hb2
      have h2 := Nt.after hb2 ha.out
      have l1 := h2.2
      clear c0 c1 c2 f0 f1 f2
      have c0 := T0.cell
      have c2 := T2.cell
      have f2 := T2.frozen 0
      by_cases h0 : num ys = 0
      · have hgz := gcd_zero hx0 h0
        rw [hg.out] at hgz
        rw [h0]
        go_wp2_with fail
        refine bodyPost_ret (results_c rfl rfl (T2.set _)) rfl ?_
        exact ⟨_, _, _, xs, rfl, h2.store T2 _, hgz.symm, B2.setCell (p := ⟨w.heap.size + 1 + 1, 0, none⟩) (by show _ ≤ w.heap.size + 1 + 1; omega) _⟩
      · obtain ⟨y, hy⟩ : ∃ y, num ys = y := ⟨_, rfl⟩
        have HG : Hid (Int.gcd (num xs) y = G) := by rw [← hy]; exact hg
        rw [hy] at h0 hw hy0 ⊢
        have g1 : (y == 0) = false := by simpa using h0
        go_wp2_with fail
        refine (over_ok a la ca xs y w2 h2.1 (by omega) h2.2.2.1 ⟨hy0, hw⟩ (by omega)).mono ?_
        rintro e w3 ⟨g, m, c, qs, r, rfl, -, -, -, -, -, hn, r0, r1, hb3⟩
        have T3 := T2.kept hb3
        have B3 := step B2 hb3
        have hr : num xs % y = r := by
          rw [hn, Int.add_comm, Int.add_mul_emod_self_right]
          exact Int.emod_eq_of_lt r0 r1
        have HG3 : Hid (Int.gcd y r = G) := by
          show _ = _
          rw [← hr, ← gcd_mod]; exact HG.out
        have HY : Hid (Word y) := ⟨hy0, hw⟩
        have HR : Hid (Word r) := ⟨r0, by omega⟩
        have hyp : 0 < y := by omega
        clear c0 c2 f2 T0 T2 hr hn HG B2 h2
        go_wp2_with fail
        go_loopw [5, 8] (fun yy rr wr => (∃ q, wr = w3.drewN q) ∧ ∃ (y r : Int), yy = .int .u64 y ∧ rr = .int .u64 r ∧ Hid (Word y) ∧ Hid (Word r) ∧ 0 < y ∧ Hid (Int.gcd y r = G)) (fun _ rr _ => (intOf rr).toNat)
        case atStart => exact ⟨⟨0, rfl⟩, y, r, rfl, rfl, HY, HR, hyp, HG3⟩
        case round =>
          clear HY HR hyp HG3 hw hy0 h0 g1 r0 r1 hy
          obtain ⟨⟨q, rfl⟩, y2, r2, rfl, rfl, HY2, HR2, hp2, HG2⟩ := hrel
          have hrr := HR2.out
          by_cases hz : r2 = 0
          · subst hz
            have hgz := gcd_zero (Int.le_of_lt hp2) (rfl : (0 : Int) = 0)
            rw [HG2.out] at hgz
            go_wp2_with fail
            refine (small_any y2 HY2.out (w3.drewN q)).mono ?_
            rintro e w4 ⟨a4, l4, k4, zs, rfl, h4, hn4, hb4⟩
            have T4 := Va.kept (w := w3.drewN q) T3 hb4
            have B4 := step (below_drewN B3 q) hb4
            have c2 := T4.cell
            have f2 := T4.frozen 0
            go_wp2_with fail
            refine bodyPost_ret (results_c rfl rfl (T4.set _)) rfl ?_
            exact ⟨_, _, _, zs, rfl, h4.store T4 _, hn4.trans hgz.symm, B4.setCell (p := ⟨w.heap.size + 1 + 1, 0, none⟩) (by show _ ≤ w.heap.size + 1 + 1; omega) _⟩
          · have hr0 := hrr.1
            have hrp : 0 < r2 := by omega
            have hg2 : (r2 == 0) = false := by simpa using hz
            have hyy := HY2.out.1
            have e1 := Int.emod_nonneg y2 (show r2 ≠ 0 by omega)
            have e2 := Int.emod_lt_of_pos y2 hrp
            obtain ⟨s, hs⟩ : ∃ s, y2 % r2 = s := ⟨_, rfl⟩
            have HG4 : Hid (Int.gcd r2 s = G) := by
              show _ = _
              rw [← hs, ← gcd_mod]; exact HG2.out
            have HS : Hid (Word s) := ⟨by omega, by have := hrr.2; omega⟩
            have htm : y2.tmod r2 = s := by rw [Int.tmod_eq_emod_of_nonneg hyy]; exact hs
            go_wp2_with fail
            go_quiet (fail)
            go_wp2_with fail
            go_roundw
            case rel => exact ⟨⟨_, World.drewN_drewN _ _ _⟩, r2, s, rfl, rfl, HR2, HS, hrp, HG4⟩
            case measure => simp [intOf]; omega

theorem ngcd_of (M : Int) (HL : LaterOk M) (a b : Option Addr) (la ca lb cb : Nat) (xs ys : List Int) (w : World) (ha : Nt w a la ca xs) (hb : Nt w b lb cb ys) (hMa : num xs ≤ M) (hMb : num ys ≤ M) :
    Calls Tryz.prog 134 #[.agg #[.slice a la ca], .agg #[.slice b lb cb]] w fun e w' => ∃ a' l' c' zs, e = .returned (.agg #[.slice a' l' c']) ∧ Nt w' a' l' c' zs ∧ num zs = (Int.gcd (num xs) (num ys) : Nat) ∧ Below w.heap.size w w' := by
  rcases Int.lt_or_le (num xs) (num ys) with h | h
  · exact ngcd_lt M HL a b la ca lb cb xs ys w ha hb hMb h
  · exact ngcd_ge M HL a b la ca lb cb xs ys w ha hb hMa h
end Go.Proofs.YtblafbbnplfpjaaGreatDoor

namespace Go.Proofs.YtblafbbnplfpjaaGreatDoor
open Go.RowKit Go.Shelf

/-- So many binary digits are cut off: what is left of the greater one fills a limb. -/
theorem later_bits {w : World} {a b : Option Addr} {la ca lb cb : Nat} {xs ys : List Int} (ha : Nt w a la ca xs) (hb : Nt w b lb cb ys) (hle : num ys ≤ num xs) (hl : 1 < lb) :
    ∃ k d : Nat, bitsN xs = (k : Int) + 1 ∧ (k : Int) + 1 - 64 = d ∧ d ≤ 262144 ∧ num xs / 2 ^ d < 18446744073709551616 ∧ num ys / 2 ^ d ≤ num xs / 2 ^ d := by
  have h1 := num_ge_used hb.limbs (by rw [hb.2.1]; omega)
  rw [hb.2.1] at h1
  have h2 := pw_mono (show 1 ≤ lb - 1 by omega)
  have h3 : pw 1 = 18446744073709551616 := by decide
  have ux : 0 < usedN xs := by
    rcases Nat.eq_zero_or_pos (usedN xs) with h | h
    · have := (num_eq_zero ha.limbs).2 h; omega
    · exact h
  obtain ⟨k, ek, k1, k2⟩ := bits_spec ha.limbs ux
  have hk : 64 ≤ k := by
    rcases Nat.lt_or_ge k 64 with h | h
    · have h5 := p2_mono (show k + 1 ≤ 64 by omega)
      have h6 : (2 : Int) ^ 64 = 18446744073709551616 := by decide
      omega
    · exact h
  have hbl := bits_limbs ha.limbs
  have hla := ha.2
  refine ⟨k, k + 1 - 64, ek, by omega, by omega, ?_, ?_⟩
  · apply Int.ediv_lt_of_lt_mul (p2_pos _)
    have h6 : (2 : Int) ^ (k + 1) = 18446744073709551616 * 2 ^ (k + 1 - 64) := by
      have h7 : (2 : Int) ^ 64 = 18446744073709551616 := by decide
      rw [← h7, ← Int.pow_add]
      congr 1; omega
    omega
  · exact Int.ediv_le_ediv (p2_pos _) hle

/-- The long numbers behind the sure members. -/
theorem later_sure {A B : Int} {d : Nat} {u0 v0 u1 v1 : Int} {o : Bool} (S : Sure (A / 2 ^ d) (B / 2 ^ d) u0 v0 u1 v1 o) (hv : v0 ≠ 0) :
    ∃ p q : Int, sg (!o) * (u0 * A - v0 * B) = p ∧ sg o * (u1 * A - v1 * B) = q ∧ 0 ≤ q ∧ q < p ∧ p ≤ B ∧ Int.gcd p q = Int.gcd A B := by
  have hP := p2_pos d
  have e1 := Int.mul_ediv_add_emod A (2 ^ d)
  have e2 := Int.mul_ediv_add_emod B (2 ^ d)
  obtain ⟨r1, r2, r3, r4, r5⟩ := S.later hv (A := A) (B := B) (P := 2 ^ d) (A1 := A % 2 ^ d) (B1 := B % 2 ^ d) (by rw [Int.mul_comm (A / 2 ^ d)]; exact e1.symm) (by rw [Int.mul_comm (B / 2 ^ d)]; exact e2.symm) hP
    (Int.emod_nonneg _ (Int.ne_of_gt hP)) (Int.emod_lt_of_pos _ hP) (Int.emod_nonneg _ (Int.ne_of_gt hP)) (Int.emod_lt_of_pos _ hP) rfl rfl
  refine ⟨_, _, by rw [sg_not, Int.neg_mul], rfl, r1, r2, r3, ?_⟩
  exact (sure_gcd rfl rfl r4 r5).symm

/-- The four variables of 'later'; nothing old has turned. -/
def LV (w : World) (a : Option Addr) (la ca : Nat) (b : Option Addr) (lb cb : Nat) (W : World) : Prop :=
  Va W w.heap.size 62 #[.slice a la ca] ∧ Va W (w.heap.size + 1) 62 #[.slice b lb cb] ∧ Va W (w.heap.size + 1 + 1) 62 #[.slice none 0 0] ∧ Va W (w.heap.size + 1 + 1 + 1) 62 #[.slice none 0 0] ∧ Below w.heap.size w W
section
variable {w : World} {a : Option Addr} {la ca : Nat} {b : Option Addr} {lb cb : Nat} {W W' : World}
theorem LV.s (h : LV w a la ca b lb cb W) : W.cell? ⟨w.heap.size, 0, none⟩ = some (.slice a la ca) ∧ W.cell? ⟨w.heap.size + 1, 0, none⟩ = some (.slice b lb cb) ∧ Hid (LV w a la ca b lb cb W) := ⟨h.1.cell, h.2.1.cell, h⟩
theorem LV.call (hb : Below W.heap.size W W') (h : W.cell? ⟨w.heap.size, 0, none⟩ = some (.slice a la ca) ∧ W.cell? ⟨w.heap.size + 1, 0, none⟩ = some (.slice b lb cb) ∧ Hid (LV w a la ca b lb cb W)) :
    W'.cell? ⟨w.heap.size, 0, none⟩ = some (.slice a la ca) ∧ W'.cell? ⟨w.heap.size + 1, 0, none⟩ = some (.slice b lb cb) ∧ Hid (LV w a la ca b lb cb W') := by
  obtain ⟨-, -, h1, h2, h3, h4, h5⟩ := h
  exact LV.s ⟨Va.after hb h1, Va.after hb h2, Va.after hb h3, Va.after hb h4, step h5 hb⟩
theorem LV.alloc (h : W.cell? ⟨w.heap.size, 0, none⟩ = some (.slice a la ca) ∧ W.cell? ⟨w.heap.size + 1, 0, none⟩ = some (.slice b lb cb) ∧ Hid (LV w a la ca b lb cb W)) (o : Obj) :
    (W.alloc o).cell? ⟨w.heap.size, 0, none⟩ = some (.slice a la ca) ∧ (W.alloc o).cell? ⟨w.heap.size + 1, 0, none⟩ = some (.slice b lb cb) ∧ Hid (LV w a la ca b lb cb (W.alloc o)) := by
  obtain ⟨-, -, h1, h2, h3, h4, h5⟩ := h
  exact LV.s ⟨h1.old o, h2.old o, h3.old o, h4.old o, h5.alloc h5.size o⟩
theorem LV.dr (h : W.cell? ⟨w.heap.size, 0, none⟩ = some (.slice a la ca) ∧ W.cell? ⟨w.heap.size + 1, 0, none⟩ = some (.slice b lb cb) ∧ Hid (LV w a la ca b lb cb W)) :
    W.drew.cell? ⟨w.heap.size, 0, none⟩ = some (.slice a la ca) ∧ W.drew.cell? ⟨w.heap.size + 1, 0, none⟩ = some (.slice b lb cb) ∧ Hid (LV w a la ca b lb cb W.drew) := by
  obtain ⟨-, -, h1, h2, h3, h4, h5⟩ := h
  exact LV.s ⟨h1, h2, h3, h4, h5.drew⟩
theorem LV.size (h : W.cell? ⟨w.heap.size, 0, none⟩ = some (.slice a la ca) ∧ W.cell? ⟨w.heap.size + 1, 0, none⟩ = some (.slice b lb cb) ∧ Hid (LV w a la ca b lb cb W)) : w.heap.size + 4 ≤ W.heap.size := by
  have := h.2.2.2.2.2.1.lt; omega
theorem LV.bel (h : W.cell? ⟨w.heap.size, 0, none⟩ = some (.slice a la ca) ∧ W.cell? ⟨w.heap.size + 1, 0, none⟩ = some (.slice b lb cb) ∧ Hid (LV w a la ca b lb cb W)) : Below w.heap.size w W := h.2.2.2.2.2.2
end
/-- Old cells and marks behind a call. -/
theorem bcell {W w1 : World} (hb : Below W.heap.size W w1) : (∀ b o, b < W.heap.size → w1.cell? ⟨b, o, none⟩ = W.cell? ⟨b, o, none⟩) ∧ (∀ b o, b < W.heap.size → w1.frozen? ⟨b, o, none⟩ = W.frozen? ⟨b, o, none⟩) :=
  ⟨fun b o h => hb.cell (p := ⟨b, o, none⟩) h, fun b o h => hb.frozen (p := ⟨b, o, none⟩) h⟩
end Go.Proofs.YtblafbbnplfpjaaGreatDoor

namespace Go.Proofs.YtblafbbnplfpjaaGreatDoor
open Go.RowKit Go.Shelf
set_option linter.unusedVariables false

/-- A member of the row that lies in a variable. -/
def Mb (W : World) (b : Nat) (u v : Int) (o : Bool) : Prop := W.cell? ⟨b, 0, none⟩ = some (.int .u64 u) ∧ W.cell? ⟨b, 1, none⟩ = some (.int .u64 v) ∧ W.cell? ⟨b, 2, none⟩ = some (.bool o)
theorem Mb.lt {W : World} {b : Nat} {u v : Int} {o : Bool} (h : Mb W b u v o) : b < W.heap.size := Rd.lt (v := .int .u64 u) h.1
theorem Mb.after {W W' : World} (hb : Below W.heap.size W W') {b : Nat} {u v : Int} {o : Bool} (h : Mb W b u v o) : Mb W' b u v o := by
  have hl := h.lt
  obtain ⟨q, -⟩ := bcell hb
  exact ⟨by rw [q b 0 hl]; exact h.1, by rw [q b 1 hl]; exact h.2.1, by rw [q b 2 hl]; exact h.2.2⟩

theorem Mb.of {W : World} {b : Nat} {u v : Int} {o : Bool} (h : Va W b 206 #[.int .u64 u, .int .u64 v, .bool o]) : Mb W b u v o :=
  ⟨by rw [h.cellAt 0]; rfl, by rw [h.cellAt 1]; rfl, by rw [h.cellAt 2]; rfl⟩
theorem st3 {W : World} {b : Nat} {t : TypeId} {x y z : Value} (h : Va W b t #[x, y, z]) (x' y' z' : Value) {Q : World → Prop}
    (k : ∀ V, Va V b t #[x', y', z'] → (∀ c t cs, c ≠ b → Va W c t cs → Va V c t cs) → (∀ B v, B ≤ b → Below B v W → Below B v V) → Q V) : Q (((W.setCell ⟨b, 0, none⟩ x').setCell ⟨b, 1, none⟩ y').setCell ⟨b, 2, none⟩ z') :=
  k _ (h.set3 x' y' z') (fun c t cs hc hv => hv.other3 hc x' y' z') (fun B v hB hb => below_3 hb hB x' y' z')
theorem E8.mk {w W : World} {a : Option Addr} {la ca : Nat} {b : Option Addr} {lb cb : Nat} {b7 b8 : Nat} {u0 v0 : Int} {p : Bool} {u1 v1 : Int} {o : Bool} (h : LV w a la ca b lb cb W) (h7 : Mb W b7 u0 v0 p) (h8 : Mb W b8 u1 v1 o) : W.cell? ⟨w.heap.size, 0, none⟩ = some (.slice a la ca) ∧ W.cell? ⟨w.heap.size + 1, 0, none⟩ = some (.slice b lb cb) ∧ W.cell? ⟨b7, 0, none⟩ = some (.int .u64 u0) ∧ W.cell? ⟨b7, 1, none⟩ = some (.int .u64 v0) ∧ W.cell? ⟨b7, 2, none⟩ = some (.bool p) ∧ W.cell? ⟨b8, 0, none⟩ = some (.int .u64 u1) ∧ W.cell? ⟨b8, 1, none⟩ = some (.int .u64 v1) ∧ W.cell? ⟨b8, 2, none⟩ = some (.bool o) :=
  ⟨h.1.cell, h.2.1.cell, h7.1, h7.2.1, h7.2.2, h8.1, h8.2.1, h8.2.2⟩
theorem E8.st {w W : World} {a : Option Addr} {la ca : Nat} {b : Option Addr} {lb cb : Nat} {b7 b8 : Nat} {u0 v0 : Int} {p : Bool} {u1 v1 : Int} {o : Bool} (h : W.cell? ⟨w.heap.size, 0, none⟩ = some (.slice a la ca) ∧ W.cell? ⟨w.heap.size + 1, 0, none⟩ = some (.slice b lb cb) ∧ W.cell? ⟨b7, 0, none⟩ = some (.int .u64 u0) ∧ W.cell? ⟨b7, 1, none⟩ = some (.int .u64 v0) ∧ W.cell? ⟨b7, 2, none⟩ = some (.bool p) ∧ W.cell? ⟨b8, 0, none⟩ = some (.int .u64 u1) ∧ W.cell? ⟨b8, 1, none⟩ = some (.int .u64 v1) ∧ W.cell? ⟨b8, 2, none⟩ = some (.bool o)) {d : Nat} {v : Value} (h0 : w.heap.size + 2 ≤ d) (h7 : d < b7) (h8 : d < b8) : (W.setCell ⟨d, 0, none⟩ v).cell? ⟨w.heap.size, 0, none⟩ = some (.slice a la ca) ∧ (W.setCell ⟨d, 0, none⟩ v).cell? ⟨w.heap.size + 1, 0, none⟩ = some (.slice b lb cb) ∧ (W.setCell ⟨d, 0, none⟩ v).cell? ⟨b7, 0, none⟩ = some (.int .u64 u0) ∧ (W.setCell ⟨d, 0, none⟩ v).cell? ⟨b7, 1, none⟩ = some (.int .u64 v0) ∧ (W.setCell ⟨d, 0, none⟩ v).cell? ⟨b7, 2, none⟩ = some (.bool p) ∧ (W.setCell ⟨d, 0, none⟩ v).cell? ⟨b8, 0, none⟩ = some (.int .u64 u1) ∧ (W.setCell ⟨d, 0, none⟩ v).cell? ⟨b8, 1, none⟩ = some (.int .u64 v1) ∧ (W.setCell ⟨d, 0, none⟩ v).cell? ⟨b8, 2, none⟩ = some (.bool o) := by
  obtain ⟨r1, r2, r3, r4, r5, r6, r7, r8⟩ := h
  refine ⟨?_, ?_, ?_, ?_, ?_, ?_, ?_, ?_⟩ <;> (rw [cell_stc _ _ _ _ _ (by omega)]; assumption)
set_option maxHeartbeats 60000000 in
set_option maxRecDepth 20000 in
theorem later_cut (a : Option Addr) (la ca : Nat) (xs : List Int) (b : Option Addr) (lb cb : Nat) (ys : List Int) (w : World) (ha : Nt w a la ca xs) (hb : Nt w b lb cb ys) (hle : num ys ≤ num xs) (hl : 1 < lb) :
    Calls Tryz.prog 158 #[.agg #[.slice a la ca], .agg #[.slice b lb cb]] w fun e w' => ∃ a1 l1 c1 us a2 l2 c2 vs, e = .returned (.tuple #[.agg #[.slice a1 l1 c1], .agg #[.slice a2 l2 c2]]) ∧ Nt w' a1 l1 c1 us ∧ Nt w' a2 l2 c2 vs ∧
      num vs ≤ num us ∧ num us ≤ num xs ∧ num vs < num ys ∧ Int.gcd (num us) (num vs) = Int.gcd (num xs) (num ys) ∧ Below w.heap.size w w' := by
  obtain ⟨k, d, ek, ed, hd, hx64, hyx⟩ := later_bits ha hb hle hl
  have hx0 := ha.nonneg
  have hy0 := hb.nonneg
  have hX0 : 0 ≤ num xs / 2 ^ d := Int.ediv_nonneg hx0 (Int.le_of_lt (p2_pos d))
  have hY0 : 0 ≤ num ys / 2 ^ d := Int.ediv_nonneg hy0 (Int.le_of_lt (p2_pos d))
  obtain ⟨X, hX⟩ : ∃ X, num xs / 2 ^ d = X := ⟨_, rfl⟩
  obtain ⟨Y, hY⟩ : ∃ Y, num ys / 2 ^ d = Y := ⟨_, rfl⟩
  have CA : Hid (∀ W, Below w.heap.size w W → Calls Tryz.prog 179 #[.agg #[.slice a la ca], .int .i64 d] W fun e w' => e = .returned (.int .u64 X) ∧ Below W.heap.size W w') := by
    intro W B
    rw [← hX]
    exact highest_any a la ca xs d W (Nt.after B ha) (by omega) hx64
  have CB : Hid (∀ W, Below w.heap.size w W → Calls Tryz.prog 179 #[.agg #[.slice b lb cb], .int .i64 d] W fun e w' => e = .returned (.int .u64 Y) ∧ Below W.heap.size W w') := by
    intro W B
    rw [← hY]
    exact highest_any b lb cb ys d W (Nt.after B hb) (by omega) (by omega)
  have CF : Hid (∀ W, Calls Tryz.prog 178 #[.int .u64 X, .int .u64 Y] W fun e w' => ∃ u0 v0 p u1 v1 o, e = .returned (.tuple #[.agg #[.int .u64 u0, .int .u64 v0, .bool p], .agg #[.int .u64 u1, .int .u64 v1, .bool o]]) ∧ Word u0 ∧ Word v0 ∧ Word u1 ∧ Word v1 ∧ (v0 ≠ 0 → p = !o ∧ Sure X Y u0 v0 u1 v1 o) ∧ Below W.heap.size W w') := by
    intro W
    exact foreseen_any X Y W ⟨by omega, by omega⟩ ⟨by omega, by omega⟩ (by omega)
  have CN : Hid (bitsN xs = (k : Int) + 1) := ek
  have HA : Hid (Nt w a la ca xs) := ha
  have HB : Hid (Nt w b lb cb ys) := hb
  have HX : Hid (num xs / 2 ^ d = X) := hX
  have HY : Hid (num ys / 2 ^ d = Y) := hY
  have HL : Hid (num ys ≤ num xs ∧ 0 ≤ num ys ∧ 0 ≤ num xs ∧ 1 < lb) := ⟨hle, hy0, hx0, hl⟩
  clear ha hb hX hY hx64 hyx hX0 hY0 ek hx0 hy0 hle
  go_enter Tryz.func158, Tryz.ntmps158
  go_wp2_with fail
  refine ent4 w _ _ _ _ _ _ _ _ (Q := fun W => Calls Tryz.prog _ _ W _) ?_
  intro x1 B0 hs V0 V1 V2 V3
  refine (nbits_any a la ca xs x1 (Nt.after B0 HA.out)).mono ?_
  rintro e x2 ⟨rfl, hb1⟩
  rw [CN.out]
  have L0 : LV w a la ca b lb cb x2 := ⟨Va.after hb1 V0, Va.after hb1 V1, Va.after hb1 V2, Va.after hb1 V3, step B0 hb1⟩
  clear V0 V1 V2 V3 B0 hb1 hs
  have c0 := L0.1.cell
  have c1 := L0.2.1.cell
  go_wp2_with fail
  have hI := LV.dr (LV.s L0)
  have hI0 := LV.s L0
  have z0 : w.heap.size + 4 ≤ x2.heap.size := LV.size hI0
  go_cut [7, 8] (fun s7 s8 wx => ∃ (b7 b8 : Nat) (u0 v0 : Int) (p : Bool) (u1 v1 : Int) (o : Bool), s7 = .pointer (some ⟨b7, 0, none⟩) ∧ s8 = .pointer (some ⟨b8, 0, none⟩) ∧ Hid (Mb wx b7 u0 v0 p) ∧ Hid (Mb wx b8 u1 v1 o) ∧ Hid (LV w a la ca b lb cb wx) ∧ Hid (w.heap.size + 4 ≤ b7 ∧ w.heap.size + 4 ≤ b8) ∧ Hid (Word u0 ∧ Word v0 ∧ Word u1 ∧ Word v1 ∧ (v0 ≠ 0 → p = !o ∧ Sure X Y u0 v0 u1 v1 o)))
  case first =>
    refine wp_region_noPanic ?_
    replace L0 : LV w a la ca b lb cb x2.drew := (LV.dr (LV.s L0)).2.2.out
    have L := L0
    clear L0 hI hI0 c0 c1 z0
    refine wp_region_held_drew (S := fun W => W.cell? ⟨w.heap.size, 0, none⟩ = some (.slice a la ca) ∧ W.cell? ⟨w.heap.size + 1, 0, none⟩ = some (.slice b lb cb)) (by kernel_rfl) ⟨L.1.cell, L.2.1.cell⟩ (fun hHeld => ?_)
    obtain ⟨xd, hxd⟩ : ∃ xd, xd = x2.drew := ⟨_, rfl⟩
    rw [← hxd] at L hHeld ⊢
    clear hxd
    refine wpAnyH_take (i := 0) (v := ?_) rfl (by kernel_rfl) (by kernel_rfl) (by kernel_rfl) (fun _ _ _ h => h) (Or.inl ⟨by rfl, ?_⟩) hHeld ?_
    rotate_left
    · (intro W hSw; (try dsimp only at hSw); go_simp; all_goals (with_reducible rfl))
    simp only [List.getElem_toArray, List.getElem_cons_zero, Act.put, List.setIfInBounds_toArray, List.set_cons_zero, List.set_cons_succ]
    refine wpAnyH_take (i := 1) (v := ?_) rfl (by kernel_rfl) (by kernel_rfl) (by kernel_rfl) (fun _ _ _ h => h) (Or.inl ⟨by rfl, ?_⟩) hHeld ?_
    rotate_left
    · (intro W hSw; (try dsimp only at hSw); go_simp; all_goals (with_reducible rfl))
    simp only [List.getElem_toArray, List.getElem_cons_zero, List.getElem_cons_succ, Act.put, List.setIfInBounds_toArray, List.set_cons_zero, List.set_cons_succ]
    refine wpAnyH_take (i := 3) (v := ?_) rfl (by kernel_rfl) (by kernel_rfl) (by kernel_rfl) (fun _ _ _ h => h) (Or.inl ⟨by rfl, ?_⟩) hHeld ?_
    rotate_left
    · (intro W hSw; (try dsimp only at hSw); go_simp; all_goals (with_reducible rfl))
    simp only [List.getElem_toArray, List.getElem_cons_zero, List.getElem_cons_succ, Act.put, List.setIfInBounds_toArray, List.set_cons_zero, List.set_cons_succ]
    refine wpAnyH_take (i := 4) (v := ?_) rfl (by kernel_rfl) (by kernel_rfl) (by kernel_rfl) (fun _ _ _ h => h) (Or.inl ⟨by rfl, ?_⟩) hHeld ?_
    rotate_left
    · (intro W hSw; (try dsimp only at hSw); go_simp; all_goals (with_reducible rfl))
    simp only [List.getElem_toArray, List.getElem_cons_zero, List.getElem_cons_succ, Act.put, List.setIfInBounds_toArray, List.set_cons_zero, List.set_cons_succ]
    refine wpAnyH_ready (rs := [2, 10, 11]) (by kernel_rfl) (by simp) ?_
    refine AllReadyH.cons rfl (fun K hK => ?_) (AllReadyH.cons rfl (fun K hK => ?_) (AllReadyH.cons rfl (fun K hK => ?_) AllReadyH.nil))
    · simp only [List.getElem_toArray, List.getElem_cons_zero, List.getElem_cons_succ]
      go_simp
      refine (CA.out _ L.2.2.2.2).mono ?_
      rintro e y1 ⟨rfl, hb⟩
      replace L := (LV.call hb (LV.s L)).2.2.out
      try go_wp2_with fail
      refine hK.out _ _ ⟨L.1.cell, L.2.1.cell⟩ (fun hHeld => ?_)
      clear hK K hb
      refine wpAnyH_ready (rs := [5, 10, 11]) (by kernel_rfl) (by simp) ?_
      refine AllReadyH.cons rfl (fun K hK => ?_) (AllReadyH.cons rfl (fun K hK => ?_) (AllReadyH.cons rfl (fun K hK => ?_) AllReadyH.nil))
      · simp only [List.getElem_toArray, List.getElem_cons_zero, List.getElem_cons_succ]
        go_simp
        refine (CB.out _ L.2.2.2.2).mono ?_
        rintro e y2 ⟨rfl, hb⟩
        replace L := (LV.call hb (LV.s L)).2.2.out
        try go_wp2_with fail
        refine hK.out _ _ ⟨L.1.cell, L.2.1.cell⟩ (fun hHeld => ?_)
        clear hK K hb
        refine wpAnyH_ready (rs := [6, 10, 11]) (by kernel_rfl) (by simp) ?_
        refine AllReadyH.cons rfl (fun K hK => ?_) (AllReadyH.cons rfl (fun K hK => ?_) (AllReadyH.cons rfl (fun K hK => ?_) AllReadyH.nil))
        · simp only [List.getElem_toArray, List.getElem_cons_zero, List.getElem_cons_succ]
          go_simp
          refine (CF.out _).mono ?_
          rintro e y3 ⟨u0, v0, p, u1, v1, o, rfl, hu0, hv0, hu1, hv1, hSu, hb⟩
          have HW : Hid (Word u0 ∧ Word v0 ∧ Word u1 ∧ Word v1 ∧ (v0 ≠ 0 → p = !o ∧ Sure X Y u0 v0 u1 v1 o)) := ⟨hu0, hv0, hu1, hv1, hSu⟩
          clear hu0 hv0 hu1 hv1 hSu
          replace L := (LV.call hb (LV.s L)).2.2.out
          try go_wp2_with fail
          refine hK.out _ _ ⟨L.1.cell, L.2.1.cell⟩ (fun hHeld => ?_)
          clear hK K hb
          refine wpAnyH_take (i := 7) (v := ?_) rfl (by kernel_rfl) (by kernel_rfl) (by kernel_rfl) (fun _ _ _ h => h) (Or.inl ⟨by rfl, ?_⟩) hHeld ?_
          rotate_left
          · (intro W hSw; (try dsimp only at hSw); go_simp; all_goals (with_reducible rfl))
          simp only [List.getElem_toArray, List.getElem_cons_zero, List.getElem_cons_succ, Act.put, List.setIfInBounds_toArray, List.set_cons_zero, List.set_cons_succ]
          refine wpAnyH_take (i := 8) (v := ?_) rfl (by kernel_rfl) (by kernel_rfl) (by kernel_rfl) (fun _ _ _ h => h) (Or.inl ⟨by rfl, ?_⟩) hHeld ?_
          rotate_left
          · (intro W hSw; (try dsimp only at hSw); go_simp; all_goals (with_reducible rfl))
          simp only [List.getElem_toArray, List.getElem_cons_zero, List.getElem_cons_succ, Act.put, List.setIfInBounds_toArray, List.set_cons_zero, List.set_cons_succ]
          refine wpAnyH_take (i := 9) (v := ?_) rfl (by kernel_rfl) (by kernel_rfl) (by kernel_rfl) (fun _ _ _ h => h) (Or.inl ⟨by rfl, ?_⟩) hHeld ?_
          rotate_left
          · (intro W hSw; (try dsimp only at hSw); go_simp; all_goals (with_reducible rfl))
          simp only [List.getElem_toArray, List.getElem_cons_zero, List.getElem_cons_succ, Act.put, List.setIfInBounds_toArray, List.set_cons_zero, List.set_cons_succ]
          refine wpAnyH_ready (rs := [10, 11]) (by kernel_rfl) (by simp) ?_
          refine AllReadyH.cons rfl (fun K hK => ?_) (AllReadyH.cons rfl (fun K hK => ?_) AllReadyH.nil)
          · simp only [List.getElem_toArray, List.getElem_cons_zero, List.getElem_cons_succ]
            go_simp
            have zA := LV.size (LV.s L)
            refine ent1 _ _ _ (Q := fun V => K _ V) ?_
            intro y4 hb hs VA
            clear hs
            replace L := (LV.call hb (LV.s L)).2.2.out
            refine hK.out _ _ ⟨L.1.cell, L.2.1.cell⟩ (fun hHeld => ?_)
            clear hK K hb
            refine wpAnyH_ready (rs := [11]) (by kernel_rfl) (by simp) ?_
            refine AllReadyH.cons rfl (fun K hK => ?_) AllReadyH.nil
            · simp only [List.getElem_toArray, List.getElem_cons_zero, List.getElem_cons_succ]
              go_simp
              have zB := LV.size (LV.s L)
              have ltB := VA.lt
              refine ent1 _ _ _ (Q := fun V => K _ V) ?_
              intro y5 hb hs VB
              clear hs
              replace L := (LV.call hb (LV.s L)).2.2.out
              replace VA := Va.after hb VA
              refine hK.out _ _ ⟨L.1.cell, L.2.1.cell⟩ (fun hHeld => ?_)
              clear hK K hb
              have ne : y3.heap.size ≠ y4.heap.size := by (first | (have h := ltA; omega) | (have h := ltB; omega))
              have d0 := VA.cellAt 0
              have d1 := VA.cellAt 1
              have d2 := VA.cellAt 2
              simp at d0 d1 d2
              have f0 := VA.frozen 0
              have f1 := VA.frozen 1
              have f2 := VA.frozen 2
              refine wpAnyH_ready (rs := [12]) (by kernel_rfl) (by simp) ?_
              refine AllReadyH.cons rfl (fun K hK => ?_) AllReadyH.nil
              simp only [List.getElem_toArray, List.getElem_cons_zero, List.getElem_cons_succ]
              go_simp
              refine st3 VA (.int .u64 u0) (.int .u64 v0) (.bool p) (Q := fun V => K _ V) ?_
              intro y6 VA' oth bel
              clear d0 d1 d2 f0 f1 f2
              replace L : LV w a la ca b lb cb y6 := ⟨oth _ _ _ (by omega) L.1, oth _ _ _ (by omega) L.2.1, oth _ _ _ (by omega) L.2.2.1, oth _ _ _ (by omega) L.2.2.2.1, bel _ _ (by omega) L.2.2.2.2⟩
              replace VB := oth _ _ _ (by omega) VB
              replace VA := VA'
              clear oth bel
              refine hK.out _ _ ⟨L.1.cell, L.2.1.cell⟩ (fun hHeld => ?_)
              clear hK K
              have d0 := VB.cellAt 0
              have d1 := VB.cellAt 1
              have d2 := VB.cellAt 2
              simp at d0 d1 d2
              have f0 := VB.frozen 0
              have f1 := VB.frozen 1
              have f2 := VB.frozen 2
              refine wpAnyH_ready (rs := [13]) (by kernel_rfl) (by simp) ?_
              refine AllReadyH.cons rfl (fun K hK => ?_) AllReadyH.nil
              simp only [List.getElem_toArray, List.getElem_cons_zero, List.getElem_cons_succ]
              go_simp
              refine st3 VB (.int .u64 u1) (.int .u64 v1) (.bool o) (Q := fun V => K _ V) ?_
              intro y7 VB' oth bel
              clear d0 d1 d2 f0 f1 f2
              replace L : LV w a la ca b lb cb y7 := ⟨oth _ _ _ (by omega) L.1, oth _ _ _ (by omega) L.2.1, oth _ _ _ (by omega) L.2.2.1, oth _ _ _ (by omega) L.2.2.2.1, bel _ _ (by omega) L.2.2.2.2⟩
              replace VA := oth _ _ _ (by omega) VA
              replace VB := VB'
              clear oth bel
              refine hK.out _ _ ⟨L.1.cell, L.2.1.cell⟩ (fun hHeld => ?_)
              clear hK K
              refine wpAnyH_done (by kernel_rfl) ?_ _
              refine NoPanic.normal ?_
              go_wp2_with fail
              go_meet
              exact ⟨_, _, u0, v0, p, u1, v1, o, rfl, rfl, Mb.of VA, Mb.of VB, L, ⟨by omega, by omega⟩, HW⟩
          · simp only [List.getElem_toArray, List.getElem_cons_zero, List.getElem_cons_succ]
            go_simp
            have zB := LV.size (LV.s L)
            refine ent1 _ _ _ (Q := fun V => K _ V) ?_
            intro y8 hb hs VB
            clear hs
            replace L := (LV.call hb (LV.s L)).2.2.out
            refine hK.out _ _ ⟨L.1.cell, L.2.1.cell⟩ (fun hHeld => ?_)
            clear hK K hb
            refine wpAnyH_ready (rs := [10]) (by kernel_rfl) (by simp) ?_
            refine AllReadyH.cons rfl (fun K hK => ?_) AllReadyH.nil
            · simp only [List.getElem_toArray, List.getElem_cons_zero, List.getElem_cons_succ]
              go_simp
              have zA := LV.size (LV.s L)
              have ltA := VB.lt
              refine ent1 _ _ _ (Q := fun V => K _ V) ?_
              intro y9 hb hs VA
              clear hs
              replace L := (LV.call hb (LV.s L)).2.2.out
              replace VB := Va.after hb VB
              refine hK.out _ _ ⟨L.1.cell, L.2.1.cell⟩ (fun hHeld => ?_)
              clear hK K hb
              have ne : y8.heap.size ≠ y3.heap.size := by (first | (have h := ltA; omega) | (have h := ltB; omega))
              have d0 := VA.cellAt 0
              have d1 := VA.cellAt 1
              have d2 := VA.cellAt 2
              simp at d0 d1 d2
              have f0 := VA.frozen 0
              have f1 := VA.frozen 1
              have f2 := VA.frozen 2
              refine wpAnyH_ready (rs := [12]) (by kernel_rfl) (by simp) ?_
              refine AllReadyH.cons rfl (fun K hK => ?_) AllReadyH.nil
              simp only [List.getElem_toArray, List.getElem_cons_zero, List.getElem_cons_succ]
              go_simp
              refine st3 VA (.int .u64 u0) (.int .u64 v0) (.bool p) (Q := fun V => K _ V) ?_
              intro y10 VA' oth bel
              clear d0 d1 d2 f0 f1 f2
              replace L : LV w a la ca b lb cb y10 := ⟨oth _ _ _ (by omega) L.1, oth _ _ _ (by omega) L.2.1, oth _ _ _ (by omega) L.2.2.1, oth _ _ _ (by omega) L.2.2.2.1, bel _ _ (by omega) L.2.2.2.2⟩
              replace VB := oth _ _ _ (by omega) VB
              replace VA := VA'
              clear oth bel
              refine hK.out _ _ ⟨L.1.cell, L.2.1.cell⟩ (fun hHeld => ?_)
              clear hK K
              have d0 := VB.cellAt 0
              have d1 := VB.cellAt 1
              have d2 := VB.cellAt 2
              simp at d0 d1 d2
              have f0 := VB.frozen 0
              have f1 := VB.frozen 1
              have f2 := VB.frozen 2
              refine wpAnyH_ready (rs := [13]) (by kernel_rfl) (by simp) ?_
              refine AllReadyH.cons rfl (fun K hK => ?_) AllReadyH.nil
              simp only [List.getElem_toArray, List.getElem_cons_zero, List.getElem_cons_succ]
              go_simp
              refine st3 VB (.int .u64 u1) (.int .u64 v1) (.bool o) (Q := fun V => K _ V) ?_
              intro y11 VB' oth bel
              clear d0 d1 d2 f0 f1 f2
              replace L : LV w a la ca b lb cb y11 := ⟨oth _ _ _ (by omega) L.1, oth _ _ _ (by omega) L.2.1, oth _ _ _ (by omega) L.2.2.1, oth _ _ _ (by omega) L.2.2.2.1, bel _ _ (by omega) L.2.2.2.2⟩
              replace VA := oth _ _ _ (by omega) VA
              replace VB := VB'
              clear oth bel
              refine hK.out _ _ ⟨L.1.cell, L.2.1.cell⟩ (fun hHeld => ?_)
              clear hK K
              refine wpAnyH_done (by kernel_rfl) ?_ _
              refine NoPanic.normal ?_
              go_wp2_with fail
              go_meet
              exact ⟨_, _, u0, v0, p, u1, v1, o, rfl, rfl, Mb.of VA, Mb.of VB, L, ⟨by omega, by omega⟩, HW⟩
        · simp only [List.getElem_toArray, List.getElem_cons_zero, List.getElem_cons_succ]
          go_simp
          have zA := LV.size (LV.s L)
          refine ent1 _ _ _ (Q := fun V => K _ V) ?_
          intro y12 hb hs VA
          clear hs
          replace L := (LV.call hb (LV.s L)).2.2.out
          refine hK.out _ _ ⟨L.1.cell, L.2.1.cell⟩ (fun hHeld => ?_)
          clear hK K hb
          refine wpAnyH_ready (rs := [6, 11]) (by kernel_rfl) (by simp) ?_
          refine AllReadyH.cons rfl (fun K hK => ?_) (AllReadyH.cons rfl (fun K hK => ?_) AllReadyH.nil)
          · simp only [List.getElem_toArray, List.getElem_cons_zero, List.getElem_cons_succ]
            go_simp
            refine (CF.out _).mono ?_
            rintro e y13 ⟨u0, v0, p, u1, v1, o, rfl, hu0, hv0, hu1, hv1, hSu, hb⟩
            have HW : Hid (Word u0 ∧ Word v0 ∧ Word u1 ∧ Word v1 ∧ (v0 ≠ 0 → p = !o ∧ Sure X Y u0 v0 u1 v1 o)) := ⟨hu0, hv0, hu1, hv1, hSu⟩
            clear hu0 hv0 hu1 hv1 hSu
            replace L := (LV.call hb (LV.s L)).2.2.out
            replace VA := Va.after hb VA
            try go_wp2_with fail
            refine hK.out _ _ ⟨L.1.cell, L.2.1.cell⟩ (fun hHeld => ?_)
            clear hK K hb
            refine wpAnyH_take (i := 7) (v := ?_) rfl (by kernel_rfl) (by kernel_rfl) (by kernel_rfl) (fun _ _ _ h => h) (Or.inl ⟨by rfl, ?_⟩) hHeld ?_
            rotate_left
            · (intro W hSw; (try dsimp only at hSw); go_simp; all_goals (with_reducible rfl))
            simp only [List.getElem_toArray, List.getElem_cons_zero, List.getElem_cons_succ, Act.put, List.setIfInBounds_toArray, List.set_cons_zero, List.set_cons_succ]
            refine wpAnyH_take (i := 8) (v := ?_) rfl (by kernel_rfl) (by kernel_rfl) (by kernel_rfl) (fun _ _ _ h => h) (Or.inl ⟨by rfl, ?_⟩) hHeld ?_
            rotate_left
            · (intro W hSw; (try dsimp only at hSw); go_simp; all_goals (with_reducible rfl))
            simp only [List.getElem_toArray, List.getElem_cons_zero, List.getElem_cons_succ, Act.put, List.setIfInBounds_toArray, List.set_cons_zero, List.set_cons_succ]
            refine wpAnyH_take (i := 9) (v := ?_) rfl (by kernel_rfl) (by kernel_rfl) (by kernel_rfl) (fun _ _ _ h => h) (Or.inl ⟨by rfl, ?_⟩) hHeld ?_
            rotate_left
            · (intro W hSw; (try dsimp only at hSw); go_simp; all_goals (with_reducible rfl))
            simp only [List.getElem_toArray, List.getElem_cons_zero, List.getElem_cons_succ, Act.put, List.setIfInBounds_toArray, List.set_cons_zero, List.set_cons_succ]
            refine wpAnyH_ready (rs := [11]) (by kernel_rfl) (by simp) ?_
            refine AllReadyH.cons rfl (fun K hK => ?_) AllReadyH.nil
            · simp only [List.getElem_toArray, List.getElem_cons_zero, List.getElem_cons_succ]
              go_simp
              have zB := LV.size (LV.s L)
              have ltB := VA.lt
              refine ent1 _ _ _ (Q := fun V => K _ V) ?_
              intro y14 hb hs VB
              clear hs
              replace L := (LV.call hb (LV.s L)).2.2.out
              replace VA := Va.after hb VA
              refine hK.out _ _ ⟨L.1.cell, L.2.1.cell⟩ (fun hHeld => ?_)
              clear hK K hb
              have ne : y2.heap.size ≠ y13.heap.size := by (first | (have h := ltA; omega) | (have h := ltB; omega))
              have d0 := VA.cellAt 0
              have d1 := VA.cellAt 1
              have d2 := VA.cellAt 2
              simp at d0 d1 d2
              have f0 := VA.frozen 0
              have f1 := VA.frozen 1
              have f2 := VA.frozen 2
              refine wpAnyH_ready (rs := [12]) (by kernel_rfl) (by simp) ?_
              refine AllReadyH.cons rfl (fun K hK => ?_) AllReadyH.nil
              simp only [List.getElem_toArray, List.getElem_cons_zero, List.getElem_cons_succ]
              go_simp
              refine st3 VA (.int .u64 u0) (.int .u64 v0) (.bool p) (Q := fun V => K _ V) ?_
              intro y15 VA' oth bel
              clear d0 d1 d2 f0 f1 f2
              replace L : LV w a la ca b lb cb y15 := ⟨oth _ _ _ (by omega) L.1, oth _ _ _ (by omega) L.2.1, oth _ _ _ (by omega) L.2.2.1, oth _ _ _ (by omega) L.2.2.2.1, bel _ _ (by omega) L.2.2.2.2⟩
              replace VB := oth _ _ _ (by omega) VB
              replace VA := VA'
              clear oth bel
              refine hK.out _ _ ⟨L.1.cell, L.2.1.cell⟩ (fun hHeld => ?_)
              clear hK K
              have d0 := VB.cellAt 0
              have d1 := VB.cellAt 1
              have d2 := VB.cellAt 2
              simp at d0 d1 d2
              have f0 := VB.frozen 0
              have f1 := VB.frozen 1
              have f2 := VB.frozen 2
              refine wpAnyH_ready (rs := [13]) (by kernel_rfl) (by simp) ?_
              refine AllReadyH.cons rfl (fun K hK => ?_) AllReadyH.nil
              simp only [List.getElem_toArray, List.getElem_cons_zero, List.getElem_cons_succ]
              go_simp
              refine st3 VB (.int .u64 u1) (.int .u64 v1) (.bool o) (Q := fun V => K _ V) ?_
              intro y16 VB' oth bel
              clear d0 d1 d2 f0 f1 f2
              replace L : LV w a la ca b lb cb y16 := ⟨oth _ _ _ (by omega) L.1, oth _ _ _ (by omega) L.2.1, oth _ _ _ (by omega) L.2.2.1, oth _ _ _ (by omega) L.2.2.2.1, bel _ _ (by omega) L.2.2.2.2⟩
              replace VA := oth _ _ _ (by omega) VA
              replace VB := VB'
              clear oth bel
              refine hK.out _ _ ⟨L.1.cell, L.2.1.cell⟩ (fun hHeld => ?_)
              clear hK K
              refine wpAnyH_done (by kernel_rfl) ?_ _
              refine NoPanic.normal ?_
              go_wp2_with fail
              go_meet
              exact ⟨_, _, u0, v0, p, u1, v1, o, rfl, rfl, Mb.of VA, Mb.of VB, L, ⟨by omega, by omega⟩, HW⟩
          · simp only [List.getElem_toArray, List.getElem_cons_zero, List.getElem_cons_succ]
            go_simp
            have zB := LV.size (LV.s L)
            have ltB := VA.lt
            refine ent1 _ _ _ (Q := fun V => K _ V) ?_
            intro y17 hb hs VB
            clear hs
            replace L := (LV.call hb (LV.s L)).2.2.out
            replace VA := Va.after hb VA
            refine hK.out _ _ ⟨L.1.cell, L.2.1.cell⟩ (fun hHeld => ?_)
            clear hK K hb
            refine wpAnyH_ready (rs := [6]) (by kernel_rfl) (by simp) ?_
            refine AllReadyH.cons rfl (fun K hK => ?_) AllReadyH.nil
            · simp only [List.getElem_toArray, List.getElem_cons_zero, List.getElem_cons_succ]
              go_simp
              refine (CF.out _).mono ?_
              rintro e y18 ⟨u0, v0, p, u1, v1, o, rfl, hu0, hv0, hu1, hv1, hSu, hb⟩
              have HW : Hid (Word u0 ∧ Word v0 ∧ Word u1 ∧ Word v1 ∧ (v0 ≠ 0 → p = !o ∧ Sure X Y u0 v0 u1 v1 o)) := ⟨hu0, hv0, hu1, hv1, hSu⟩
              clear hu0 hv0 hu1 hv1 hSu
              replace L := (LV.call hb (LV.s L)).2.2.out
              replace VA := Va.after hb VA
              replace VB := Va.after hb VB
              try go_wp2_with fail
              refine hK.out _ _ ⟨L.1.cell, L.2.1.cell⟩ (fun hHeld => ?_)
              clear hK K hb
              refine wpAnyH_take (i := 7) (v := ?_) rfl (by kernel_rfl) (by kernel_rfl) (by kernel_rfl) (fun _ _ _ h => h) (Or.inl ⟨by rfl, ?_⟩) hHeld ?_
              rotate_left
              · (intro W hSw; (try dsimp only at hSw); go_simp; all_goals (with_reducible rfl))
              simp only [List.getElem_toArray, List.getElem_cons_zero, List.getElem_cons_succ, Act.put, List.setIfInBounds_toArray, List.set_cons_zero, List.set_cons_succ]
              refine wpAnyH_take (i := 8) (v := ?_) rfl (by kernel_rfl) (by kernel_rfl) (by kernel_rfl) (fun _ _ _ h => h) (Or.inl ⟨by rfl, ?_⟩) hHeld ?_
              rotate_left
              · (intro W hSw; (try dsimp only at hSw); go_simp; all_goals (with_reducible rfl))
              simp only [List.getElem_toArray, List.getElem_cons_zero, List.getElem_cons_succ, Act.put, List.setIfInBounds_toArray, List.set_cons_zero, List.set_cons_succ]
              refine wpAnyH_take (i := 9) (v := ?_) rfl (by kernel_rfl) (by kernel_rfl) (by kernel_rfl) (fun _ _ _ h => h) (Or.inl ⟨by rfl, ?_⟩) hHeld ?_
              rotate_left
              · (intro W hSw; (try dsimp only at hSw); go_simp; all_goals (with_reducible rfl))
              simp only [List.getElem_toArray, List.getElem_cons_zero, List.getElem_cons_succ, Act.put, List.setIfInBounds_toArray, List.set_cons_zero, List.set_cons_succ]
              have ne : y2.heap.size ≠ y12.heap.size := by (first | (have h := ltA; omega) | (have h := ltB; omega))
              have d0 := VA.cellAt 0
              have d1 := VA.cellAt 1
              have d2 := VA.cellAt 2
              simp at d0 d1 d2
              have f0 := VA.frozen 0
              have f1 := VA.frozen 1
              have f2 := VA.frozen 2
              refine wpAnyH_ready (rs := [12]) (by kernel_rfl) (by simp) ?_
              refine AllReadyH.cons rfl (fun K hK => ?_) AllReadyH.nil
              simp only [List.getElem_toArray, List.getElem_cons_zero, List.getElem_cons_succ]
              go_simp
              refine st3 VA (.int .u64 u0) (.int .u64 v0) (.bool p) (Q := fun V => K _ V) ?_
              intro y19 VA' oth bel
              clear d0 d1 d2 f0 f1 f2
              replace L : LV w a la ca b lb cb y19 := ⟨oth _ _ _ (by omega) L.1, oth _ _ _ (by omega) L.2.1, oth _ _ _ (by omega) L.2.2.1, oth _ _ _ (by omega) L.2.2.2.1, bel _ _ (by omega) L.2.2.2.2⟩
              replace VB := oth _ _ _ (by omega) VB
              replace VA := VA'
              clear oth bel
              refine hK.out _ _ ⟨L.1.cell, L.2.1.cell⟩ (fun hHeld => ?_)
              clear hK K
              have d0 := VB.cellAt 0
              have d1 := VB.cellAt 1
              have d2 := VB.cellAt 2
              simp at d0 d1 d2
              have f0 := VB.frozen 0
              have f1 := VB.frozen 1
              have f2 := VB.frozen 2
              refine wpAnyH_ready (rs := [13]) (by kernel_rfl) (by simp) ?_
              refine AllReadyH.cons rfl (fun K hK => ?_) AllReadyH.nil
              simp only [List.getElem_toArray, List.getElem_cons_zero, List.getElem_cons_succ]
              go_simp
              refine st3 VB (.int .u64 u1) (.int .u64 v1) (.bool o) (Q := fun V => K _ V) ?_
              intro y20 VB' oth bel
              clear d0 d1 d2 f0 f1 f2
              replace L : LV w a la ca b lb cb y20 := ⟨oth _ _ _ (by omega) L.1, oth _ _ _ (by omega) L.2.1, oth _ _ _ (by omega) L.2.2.1, oth _ _ _ (by omega) L.2.2.2.1, bel _ _ (by omega) L.2.2.2.2⟩
              replace VA := oth _ _ _ (by omega) VA
              replace VB := VB'
              clear oth bel
              refine hK.out _ _ ⟨L.1.cell, L.2.1.cell⟩ (fun hHeld => ?_)
              clear hK K
              refine wpAnyH_done (by kernel_rfl) ?_ _
              refine NoPanic.normal ?_
              go_wp2_with fail
              go_meet
              exact ⟨_, _, u0, v0, p, u1, v1, o, rfl, rfl, Mb.of VA, Mb.of VB, L, ⟨by omega, by omega⟩, HW⟩
        · simp only [List.getElem_toArray, List.getElem_cons_zero, List.getElem_cons_succ]
          go_simp
          have zB := LV.size (LV.s L)
          refine ent1 _ _ _ (Q := fun V => K _ V) ?_
          intro y21 hb hs VB
          clear hs
          replace L := (LV.call hb (LV.s L)).2.2.out
          refine hK.out _ _ ⟨L.1.cell, L.2.1.cell⟩ (fun hHeld => ?_)
          clear hK K hb
          refine wpAnyH_ready (rs := [6, 10]) (by kernel_rfl) (by simp) ?_
          refine AllReadyH.cons rfl (fun K hK => ?_) (AllReadyH.cons rfl (fun K hK => ?_) AllReadyH.nil)
          · simp only [List.getElem_toArray, List.getElem_cons_zero, List.getElem_cons_succ]
            go_simp
            refine (CF.out _).mono ?_
            rintro e y22 ⟨u0, v0, p, u1, v1, o, rfl, hu0, hv0, hu1, hv1, hSu, hb⟩
            have HW : Hid (Word u0 ∧ Word v0 ∧ Word u1 ∧ Word v1 ∧ (v0 ≠ 0 → p = !o ∧ Sure X Y u0 v0 u1 v1 o)) := ⟨hu0, hv0, hu1, hv1, hSu⟩
            clear hu0 hv0 hu1 hv1 hSu
            replace L := (LV.call hb (LV.s L)).2.2.out
            replace VB := Va.after hb VB
            try go_wp2_with fail
            refine hK.out _ _ ⟨L.1.cell, L.2.1.cell⟩ (fun hHeld => ?_)
            clear hK K hb
            refine wpAnyH_take (i := 7) (v := ?_) rfl (by kernel_rfl) (by kernel_rfl) (by kernel_rfl) (fun _ _ _ h => h) (Or.inl ⟨by rfl, ?_⟩) hHeld ?_
            rotate_left
            · (intro W hSw; (try dsimp only at hSw); go_simp; all_goals (with_reducible rfl))
            simp only [List.getElem_toArray, List.getElem_cons_zero, List.getElem_cons_succ, Act.put, List.setIfInBounds_toArray, List.set_cons_zero, List.set_cons_succ]
            refine wpAnyH_take (i := 8) (v := ?_) rfl (by kernel_rfl) (by kernel_rfl) (by kernel_rfl) (fun _ _ _ h => h) (Or.inl ⟨by rfl, ?_⟩) hHeld ?_
            rotate_left
            · (intro W hSw; (try dsimp only at hSw); go_simp; all_goals (with_reducible rfl))
            simp only [List.getElem_toArray, List.getElem_cons_zero, List.getElem_cons_succ, Act.put, List.setIfInBounds_toArray, List.set_cons_zero, List.set_cons_succ]
            refine wpAnyH_take (i := 9) (v := ?_) rfl (by kernel_rfl) (by kernel_rfl) (by kernel_rfl) (fun _ _ _ h => h) (Or.inl ⟨by rfl, ?_⟩) hHeld ?_
            rotate_left
            · (intro W hSw; (try dsimp only at hSw); go_simp; all_goals (with_reducible rfl))
            simp only [List.getElem_toArray, List.getElem_cons_zero, List.getElem_cons_succ, Act.put, List.setIfInBounds_toArray, List.set_cons_zero, List.set_cons_succ]
            refine wpAnyH_ready (rs := [10]) (by kernel_rfl) (by simp) ?_
            refine AllReadyH.cons rfl (fun K hK => ?_) AllReadyH.nil
            · simp only [List.getElem_toArray, List.getElem_cons_zero, List.getElem_cons_succ]
              go_simp
              have zA := LV.size (LV.s L)
              have ltA := VB.lt
              refine ent1 _ _ _ (Q := fun V => K _ V) ?_
              intro y23 hb hs VA
              clear hs
              replace L := (LV.call hb (LV.s L)).2.2.out
              replace VB := Va.after hb VB
              refine hK.out _ _ ⟨L.1.cell, L.2.1.cell⟩ (fun hHeld => ?_)
              clear hK K hb
              have ne : y22.heap.size ≠ y2.heap.size := by (first | (have h := ltA; omega) | (have h := ltB; omega))
              have d0 := VA.cellAt 0
              have d1 := VA.cellAt 1
              have d2 := VA.cellAt 2
              simp at d0 d1 d2
              have f0 := VA.frozen 0
              have f1 := VA.frozen 1
              have f2 := VA.frozen 2
              refine wpAnyH_ready (rs := [12]) (by kernel_rfl) (by simp) ?_
              refine AllReadyH.cons rfl (fun K hK => ?_) AllReadyH.nil
              simp only [List.getElem_toArray, List.getElem_cons_zero, List.getElem_cons_succ]
              go_simp
              refine st3 VA (.int .u64 u0) (.int .u64 v0) (.bool p) (Q := fun V => K _ V) ?_
              intro y24 VA' oth bel
              clear d0 d1 d2 f0 f1 f2
              replace L : LV w a la ca b lb cb y24 := ⟨oth _ _ _ (by omega) L.1, oth _ _ _ (by omega) L.2.1, oth _ _ _ (by omega) L.2.2.1, oth _ _ _ (by omega) L.2.2.2.1, bel _ _ (by omega) L.2.2.2.2⟩
              replace VB := oth _ _ _ (by omega) VB
              replace VA := VA'
              clear oth bel
              refine hK.out _ _ ⟨L.1.cell, L.2.1.cell⟩ (fun hHeld => ?_)
              clear hK K
              have d0 := VB.cellAt 0
              have d1 := VB.cellAt 1
              have d2 := VB.cellAt 2
              simp at d0 d1 d2
              have f0 := VB.frozen 0
              have f1 := VB.frozen 1
              have f2 := VB.frozen 2
              refine wpAnyH_ready (rs := [13]) (by kernel_rfl) (by simp) ?_
              refine AllReadyH.cons rfl (fun K hK => ?_) AllReadyH.nil
              simp only [List.getElem_toArray, List.getElem_cons_zero, List.getElem_cons_succ]
              go_simp
              refine st3 VB (.int .u64 u1) (.int .u64 v1) (.bool o) (Q := fun V => K _ V) ?_
              intro y25 VB' oth bel
              clear d0 d1 d2 f0 f1 f2
              replace L : LV w a la ca b lb cb y25 := ⟨oth _ _ _ (by omega) L.1, oth _ _ _ (by omega) L.2.1, oth _ _ _ (by omega) L.2.2.1, oth _ _ _ (by omega) L.2.2.2.1, bel _ _ (by omega) L.2.2.2.2⟩
              replace VA := oth _ _ _ (by omega) VA
              replace VB := VB'
              clear oth bel
              refine hK.out _ _ ⟨L.1.cell, L.2.1.cell⟩ (fun hHeld => ?_)
              clear hK K
              refine wpAnyH_done (by kernel_rfl) ?_ _
              refine NoPanic.normal ?_
              go_wp2_with fail
              go_meet
              exact ⟨_, _, u0, v0, p, u1, v1, o, rfl, rfl, Mb.of VA, Mb.of VB, L, ⟨by omega, by omega⟩, HW⟩
          · simp only [List.getElem_toArray, List.getElem_cons_zero, List.getElem_cons_succ]
            go_simp
            have zA := LV.size (LV.s L)
            have ltA := VB.lt
            refine ent1 _ _ _ (Q := fun V => K _ V) ?_
            intro y26 hb hs VA
            clear hs
            replace L := (LV.call hb (LV.s L)).2.2.out
            replace VB := Va.after hb VB
            refine hK.out _ _ ⟨L.1.cell, L.2.1.cell⟩ (fun hHeld => ?_)
            clear hK K hb
            refine wpAnyH_ready (rs := [6]) (by kernel_rfl) (by simp) ?_
            refine AllReadyH.cons rfl (fun K hK => ?_) AllReadyH.nil
            · simp only [List.getElem_toArray, List.getElem_cons_zero, List.getElem_cons_succ]
              go_simp
              refine (CF.out _).mono ?_
              rintro e y27 ⟨u0, v0, p, u1, v1, o, rfl, hu0, hv0, hu1, hv1, hSu, hb⟩
              have HW : Hid (Word u0 ∧ Word v0 ∧ Word u1 ∧ Word v1 ∧ (v0 ≠ 0 → p = !o ∧ Sure X Y u0 v0 u1 v1 o)) := ⟨hu0, hv0, hu1, hv1, hSu⟩
              clear hu0 hv0 hu1 hv1 hSu
              replace L := (LV.call hb (LV.s L)).2.2.out
              replace VA := Va.after hb VA
              replace VB := Va.after hb VB
              try go_wp2_with fail
              refine hK.out _ _ ⟨L.1.cell, L.2.1.cell⟩ (fun hHeld => ?_)
              clear hK K hb
              refine wpAnyH_take (i := 7) (v := ?_) rfl (by kernel_rfl) (by kernel_rfl) (by kernel_rfl) (fun _ _ _ h => h) (Or.inl ⟨by rfl, ?_⟩) hHeld ?_
              rotate_left
              · (intro W hSw; (try dsimp only at hSw); go_simp; all_goals (with_reducible rfl))
              simp only [List.getElem_toArray, List.getElem_cons_zero, List.getElem_cons_succ, Act.put, List.setIfInBounds_toArray, List.set_cons_zero, List.set_cons_succ]
              refine wpAnyH_take (i := 8) (v := ?_) rfl (by kernel_rfl) (by kernel_rfl) (by kernel_rfl) (fun _ _ _ h => h) (Or.inl ⟨by rfl, ?_⟩) hHeld ?_
              rotate_left
              · (intro W hSw; (try dsimp only at hSw); go_simp; all_goals (with_reducible rfl))
              simp only [List.getElem_toArray, List.getElem_cons_zero, List.getElem_cons_succ, Act.put, List.setIfInBounds_toArray, List.set_cons_zero, List.set_cons_succ]
              refine wpAnyH_take (i := 9) (v := ?_) rfl (by kernel_rfl) (by kernel_rfl) (by kernel_rfl) (fun _ _ _ h => h) (Or.inl ⟨by rfl, ?_⟩) hHeld ?_
              rotate_left
              · (intro W hSw; (try dsimp only at hSw); go_simp; all_goals (with_reducible rfl))
              simp only [List.getElem_toArray, List.getElem_cons_zero, List.getElem_cons_succ, Act.put, List.setIfInBounds_toArray, List.set_cons_zero, List.set_cons_succ]
              have ne : y21.heap.size ≠ y2.heap.size := by (first | (have h := ltA; omega) | (have h := ltB; omega))
              have d0 := VA.cellAt 0
              have d1 := VA.cellAt 1
              have d2 := VA.cellAt 2
              simp at d0 d1 d2
              have f0 := VA.frozen 0
              have f1 := VA.frozen 1
              have f2 := VA.frozen 2
              refine wpAnyH_ready (rs := [12]) (by kernel_rfl) (by simp) ?_
              refine AllReadyH.cons rfl (fun K hK => ?_) AllReadyH.nil
              simp only [List.getElem_toArray, List.getElem_cons_zero, List.getElem_cons_succ]
              go_simp
              refine st3 VA (.int .u64 u0) (.int .u64 v0) (.bool p) (Q := fun V => K _ V) ?_
              intro y28 VA' oth bel
              clear d0 d1 d2 f0 f1 f2
              replace L : LV w a la ca b lb cb y28 := ⟨oth _ _ _ (by omega) L.1, oth _ _ _ (by omega) L.2.1, oth _ _ _ (by omega) L.2.2.1, oth _ _ _ (by omega) L.2.2.2.1, bel _ _ (by omega) L.2.2.2.2⟩
              replace VB := oth _ _ _ (by omega) VB
              replace VA := VA'
              clear oth bel
              refine hK.out _ _ ⟨L.1.cell, L.2.1.cell⟩ (fun hHeld => ?_)
              clear hK K
              have d0 := VB.cellAt 0
              have d1 := VB.cellAt 1
              have d2 := VB.cellAt 2
              simp at d0 d1 d2
              have f0 := VB.frozen 0
              have f1 := VB.frozen 1
              have f2 := VB.frozen 2
              refine wpAnyH_ready (rs := [13]) (by kernel_rfl) (by simp) ?_
              refine AllReadyH.cons rfl (fun K hK => ?_) AllReadyH.nil
              simp only [List.getElem_toArray, List.getElem_cons_zero, List.getElem_cons_succ]
              go_simp
              refine st3 VB (.int .u64 u1) (.int .u64 v1) (.bool o) (Q := fun V => K _ V) ?_
              intro y29 VB' oth bel
              clear d0 d1 d2 f0 f1 f2
              replace L : LV w a la ca b lb cb y29 := ⟨oth _ _ _ (by omega) L.1, oth _ _ _ (by omega) L.2.1, oth _ _ _ (by omega) L.2.2.1, oth _ _ _ (by omega) L.2.2.2.1, bel _ _ (by omega) L.2.2.2.2⟩
              replace VA := oth _ _ _ (by omega) VA
              replace VB := VB'
              clear oth bel
              refine hK.out _ _ ⟨L.1.cell, L.2.1.cell⟩ (fun hHeld => ?_)
              clear hK K
              refine wpAnyH_done (by kernel_rfl) ?_ _
              refine NoPanic.normal ?_
              go_wp2_with fail
              go_meet
              exact ⟨_, _, u0, v0, p, u1, v1, o, rfl, rfl, Mb.of VA, Mb.of VB, L, ⟨by omega, by omega⟩, HW⟩
      · simp only [List.getElem_toArray, List.getElem_cons_zero, List.getElem_cons_succ]
        go_simp
        have zA := LV.size (LV.s L)
        refine ent1 _ _ _ (Q := fun V => K _ V) ?_
        intro y30 hb hs VA
        clear hs
        replace L := (LV.call hb (LV.s L)).2.2.out
        refine hK.out _ _ ⟨L.1.cell, L.2.1.cell⟩ (fun hHeld => ?_)
        clear hK K hb
        refine wpAnyH_ready (rs := [5, 11]) (by kernel_rfl) (by simp) ?_
        refine AllReadyH.cons rfl (fun K hK => ?_) (AllReadyH.cons rfl (fun K hK => ?_) AllReadyH.nil)
        · simp only [List.getElem_toArray, List.getElem_cons_zero, List.getElem_cons_succ]
          go_simp
          refine (CB.out _ L.2.2.2.2).mono ?_
          rintro e y31 ⟨rfl, hb⟩
          replace L := (LV.call hb (LV.s L)).2.2.out
          replace VA := Va.after hb VA
          try go_wp2_with fail
          refine hK.out _ _ ⟨L.1.cell, L.2.1.cell⟩ (fun hHeld => ?_)
          clear hK K hb
          refine wpAnyH_ready (rs := [6, 11]) (by kernel_rfl) (by simp) ?_
          refine AllReadyH.cons rfl (fun K hK => ?_) (AllReadyH.cons rfl (fun K hK => ?_) AllReadyH.nil)
          · simp only [List.getElem_toArray, List.getElem_cons_zero, List.getElem_cons_succ]
            go_simp
            refine (CF.out _).mono ?_
            rintro e y32 ⟨u0, v0, p, u1, v1, o, rfl, hu0, hv0, hu1, hv1, hSu, hb⟩
            have HW : Hid (Word u0 ∧ Word v0 ∧ Word u1 ∧ Word v1 ∧ (v0 ≠ 0 → p = !o ∧ Sure X Y u0 v0 u1 v1 o)) := ⟨hu0, hv0, hu1, hv1, hSu⟩
            clear hu0 hv0 hu1 hv1 hSu
            replace L := (LV.call hb (LV.s L)).2.2.out
            replace VA := Va.after hb VA
            try go_wp2_with fail
            refine hK.out _ _ ⟨L.1.cell, L.2.1.cell⟩ (fun hHeld => ?_)
            clear hK K hb
            refine wpAnyH_take (i := 7) (v := ?_) rfl (by kernel_rfl) (by kernel_rfl) (by kernel_rfl) (fun _ _ _ h => h) (Or.inl ⟨by rfl, ?_⟩) hHeld ?_
            rotate_left
            · (intro W hSw; (try dsimp only at hSw); go_simp; all_goals (with_reducible rfl))
            simp only [List.getElem_toArray, List.getElem_cons_zero, List.getElem_cons_succ, Act.put, List.setIfInBounds_toArray, List.set_cons_zero, List.set_cons_succ]
            refine wpAnyH_take (i := 8) (v := ?_) rfl (by kernel_rfl) (by kernel_rfl) (by kernel_rfl) (fun _ _ _ h => h) (Or.inl ⟨by rfl, ?_⟩) hHeld ?_
            rotate_left
            · (intro W hSw; (try dsimp only at hSw); go_simp; all_goals (with_reducible rfl))
            simp only [List.getElem_toArray, List.getElem_cons_zero, List.getElem_cons_succ, Act.put, List.setIfInBounds_toArray, List.set_cons_zero, List.set_cons_succ]
            refine wpAnyH_take (i := 9) (v := ?_) rfl (by kernel_rfl) (by kernel_rfl) (by kernel_rfl) (fun _ _ _ h => h) (Or.inl ⟨by rfl, ?_⟩) hHeld ?_
            rotate_left
            · (intro W hSw; (try dsimp only at hSw); go_simp; all_goals (with_reducible rfl))
            simp only [List.getElem_toArray, List.getElem_cons_zero, List.getElem_cons_succ, Act.put, List.setIfInBounds_toArray, List.set_cons_zero, List.set_cons_succ]
            refine wpAnyH_ready (rs := [11]) (by kernel_rfl) (by simp) ?_
            refine AllReadyH.cons rfl (fun K hK => ?_) AllReadyH.nil
            · simp only [List.getElem_toArray, List.getElem_cons_zero, List.getElem_cons_succ]
              go_simp
              have zB := LV.size (LV.s L)
              have ltB := VA.lt
              refine ent1 _ _ _ (Q := fun V => K _ V) ?_
              intro y33 hb hs VB
              clear hs
              replace L := (LV.call hb (LV.s L)).2.2.out
              replace VA := Va.after hb VA
              refine hK.out _ _ ⟨L.1.cell, L.2.1.cell⟩ (fun hHeld => ?_)
              clear hK K hb
              have ne : y1.heap.size ≠ y32.heap.size := by (first | (have h := ltA; omega) | (have h := ltB; omega))
              have d0 := VA.cellAt 0
              have d1 := VA.cellAt 1
              have d2 := VA.cellAt 2
              simp at d0 d1 d2
              have f0 := VA.frozen 0
              have f1 := VA.frozen 1
              have f2 := VA.frozen 2
              refine wpAnyH_ready (rs := [12]) (by kernel_rfl) (by simp) ?_
              refine AllReadyH.cons rfl (fun K hK => ?_) AllReadyH.nil
              simp only [List.getElem_toArray, List.getElem_cons_zero, List.getElem_cons_succ]
              go_simp
              refine st3 VA (.int .u64 u0) (.int .u64 v0) (.bool p) (Q := fun V => K _ V) ?_
              intro y34 VA' oth bel
              clear d0 d1 d2 f0 f1 f2
              replace L : LV w a la ca b lb cb y34 := ⟨oth _ _ _ (by omega) L.1, oth _ _ _ (by omega) L.2.1, oth _ _ _ (by omega) L.2.2.1, oth _ _ _ (by omega) L.2.2.2.1, bel _ _ (by omega) L.2.2.2.2⟩
              replace VB := oth _ _ _ (by omega) VB
              replace VA := VA'
              clear oth bel
              refine hK.out _ _ ⟨L.1.cell, L.2.1.cell⟩ (fun hHeld => ?_)
              clear hK K
              have d0 := VB.cellAt 0
              have d1 := VB.cellAt 1
              have d2 := VB.cellAt 2
              simp at d0 d1 d2
              have f0 := VB.frozen 0
              have f1 := VB.frozen 1
              have f2 := VB.frozen 2
              refine wpAnyH_ready (rs := [13]) (by kernel_rfl) (by simp) ?_
              refine AllReadyH.cons rfl (fun K hK => ?_) AllReadyH.nil
              simp only [List.getElem_toArray, List.getElem_cons_zero, List.getElem_cons_succ]
              go_simp
              refine st3 VB (.int .u64 u1) (.int .u64 v1) (.bool o) (Q := fun V => K _ V) ?_
              intro y35 VB' oth bel
              clear d0 d1 d2 f0 f1 f2
              replace L : LV w a la ca b lb cb y35 := ⟨oth _ _ _ (by omega) L.1, oth _ _ _ (by omega) L.2.1, oth _ _ _ (by omega) L.2.2.1, oth _ _ _ (by omega) L.2.2.2.1, bel _ _ (by omega) L.2.2.2.2⟩
              replace VA := oth _ _ _ (by omega) VA
              replace VB := VB'
              clear oth bel
              refine hK.out _ _ ⟨L.1.cell, L.2.1.cell⟩ (fun hHeld => ?_)
              clear hK K
              refine wpAnyH_done (by kernel_rfl) ?_ _
              refine NoPanic.normal ?_
              go_wp2_with fail
              go_meet
              exact ⟨_, _, u0, v0, p, u1, v1, o, rfl, rfl, Mb.of VA, Mb.of VB, L, ⟨by omega, by omega⟩, HW⟩
          · simp only [List.getElem_toArray, List.getElem_cons_zero, List.getElem_cons_succ]
            go_simp
            have zB := LV.size (LV.s L)
            have ltB := VA.lt
            refine ent1 _ _ _ (Q := fun V => K _ V) ?_
            intro y36 hb hs VB
            clear hs
            replace L := (LV.call hb (LV.s L)).2.2.out
            replace VA := Va.after hb VA
            refine hK.out _ _ ⟨L.1.cell, L.2.1.cell⟩ (fun hHeld => ?_)
            clear hK K hb
            refine wpAnyH_ready (rs := [6]) (by kernel_rfl) (by simp) ?_
            refine AllReadyH.cons rfl (fun K hK => ?_) AllReadyH.nil
            · simp only [List.getElem_toArray, List.getElem_cons_zero, List.getElem_cons_succ]
              go_simp
              refine (CF.out _).mono ?_
              rintro e y37 ⟨u0, v0, p, u1, v1, o, rfl, hu0, hv0, hu1, hv1, hSu, hb⟩
              have HW : Hid (Word u0 ∧ Word v0 ∧ Word u1 ∧ Word v1 ∧ (v0 ≠ 0 → p = !o ∧ Sure X Y u0 v0 u1 v1 o)) := ⟨hu0, hv0, hu1, hv1, hSu⟩
              clear hu0 hv0 hu1 hv1 hSu
              replace L := (LV.call hb (LV.s L)).2.2.out
              replace VA := Va.after hb VA
              replace VB := Va.after hb VB
              try go_wp2_with fail
              refine hK.out _ _ ⟨L.1.cell, L.2.1.cell⟩ (fun hHeld => ?_)
              clear hK K hb
              refine wpAnyH_take (i := 7) (v := ?_) rfl (by kernel_rfl) (by kernel_rfl) (by kernel_rfl) (fun _ _ _ h => h) (Or.inl ⟨by rfl, ?_⟩) hHeld ?_
              rotate_left
              · (intro W hSw; (try dsimp only at hSw); go_simp; all_goals (with_reducible rfl))
              simp only [List.getElem_toArray, List.getElem_cons_zero, List.getElem_cons_succ, Act.put, List.setIfInBounds_toArray, List.set_cons_zero, List.set_cons_succ]
              refine wpAnyH_take (i := 8) (v := ?_) rfl (by kernel_rfl) (by kernel_rfl) (by kernel_rfl) (fun _ _ _ h => h) (Or.inl ⟨by rfl, ?_⟩) hHeld ?_
              rotate_left
              · (intro W hSw; (try dsimp only at hSw); go_simp; all_goals (with_reducible rfl))
              simp only [List.getElem_toArray, List.getElem_cons_zero, List.getElem_cons_succ, Act.put, List.setIfInBounds_toArray, List.set_cons_zero, List.set_cons_succ]
              refine wpAnyH_take (i := 9) (v := ?_) rfl (by kernel_rfl) (by kernel_rfl) (by kernel_rfl) (fun _ _ _ h => h) (Or.inl ⟨by rfl, ?_⟩) hHeld ?_
              rotate_left
              · (intro W hSw; (try dsimp only at hSw); go_simp; all_goals (with_reducible rfl))
              simp only [List.getElem_toArray, List.getElem_cons_zero, List.getElem_cons_succ, Act.put, List.setIfInBounds_toArray, List.set_cons_zero, List.set_cons_succ]
              have ne : y1.heap.size ≠ y31.heap.size := by (first | (have h := ltA; omega) | (have h := ltB; omega))
              have d0 := VA.cellAt 0
              have d1 := VA.cellAt 1
              have d2 := VA.cellAt 2
              simp at d0 d1 d2
              have f0 := VA.frozen 0
              have f1 := VA.frozen 1
              have f2 := VA.frozen 2
              refine wpAnyH_ready (rs := [12]) (by kernel_rfl) (by simp) ?_
              refine AllReadyH.cons rfl (fun K hK => ?_) AllReadyH.nil
              simp only [List.getElem_toArray, List.getElem_cons_zero, List.getElem_cons_succ]
              go_simp
              refine st3 VA (.int .u64 u0) (.int .u64 v0) (.bool p) (Q := fun V => K _ V) ?_
              intro y38 VA' oth bel
              clear d0 d1 d2 f0 f1 f2
              replace L : LV w a la ca b lb cb y38 := ⟨oth _ _ _ (by omega) L.1, oth _ _ _ (by omega) L.2.1, oth _ _ _ (by omega) L.2.2.1, oth _ _ _ (by omega) L.2.2.2.1, bel _ _ (by omega) L.2.2.2.2⟩
              replace VB := oth _ _ _ (by omega) VB
              replace VA := VA'
              clear oth bel
              refine hK.out _ _ ⟨L.1.cell, L.2.1.cell⟩ (fun hHeld => ?_)
              clear hK K
              have d0 := VB.cellAt 0
              have d1 := VB.cellAt 1
              have d2 := VB.cellAt 2
              simp at d0 d1 d2
              have f0 := VB.frozen 0
              have f1 := VB.frozen 1
              have f2 := VB.frozen 2
              refine wpAnyH_ready (rs := [13]) (by kernel_rfl) (by simp) ?_
              refine AllReadyH.cons rfl (fun K hK => ?_) AllReadyH.nil
              simp only [List.getElem_toArray, List.getElem_cons_zero, List.getElem_cons_succ]
              go_simp
              refine st3 VB (.int .u64 u1) (.int .u64 v1) (.bool o) (Q := fun V => K _ V) ?_
              intro y39 VB' oth bel
              clear d0 d1 d2 f0 f1 f2
              replace L : LV w a la ca b lb cb y39 := ⟨oth _ _ _ (by omega) L.1, oth _ _ _ (by omega) L.2.1, oth _ _ _ (by omega) L.2.2.1, oth _ _ _ (by omega) L.2.2.2.1, bel _ _ (by omega) L.2.2.2.2⟩
              replace VA := oth _ _ _ (by omega) VA
              replace VB := VB'
              clear oth bel
              refine hK.out _ _ ⟨L.1.cell, L.2.1.cell⟩ (fun hHeld => ?_)
              clear hK K
              refine wpAnyH_done (by kernel_rfl) ?_ _
              refine NoPanic.normal ?_
              go_wp2_with fail
              go_meet
              exact ⟨_, _, u0, v0, p, u1, v1, o, rfl, rfl, Mb.of VA, Mb.of VB, L, ⟨by omega, by omega⟩, HW⟩
        · simp only [List.getElem_toArray, List.getElem_cons_zero, List.getElem_cons_succ]
          go_simp
          have zB := LV.size (LV.s L)
          have ltB := VA.lt
          refine ent1 _ _ _ (Q := fun V => K _ V) ?_
          intro y40 hb hs VB
          clear hs
          replace L := (LV.call hb (LV.s L)).2.2.out
          replace VA := Va.after hb VA
          refine hK.out _ _ ⟨L.1.cell, L.2.1.cell⟩ (fun hHeld => ?_)
          clear hK K hb
          refine wpAnyH_ready (rs := [5]) (by kernel_rfl) (by simp) ?_
          refine AllReadyH.cons rfl (fun K hK => ?_) AllReadyH.nil
          · simp only [List.getElem_toArray, List.getElem_cons_zero, List.getElem_cons_succ]
            go_simp
            refine (CB.out _ L.2.2.2.2).mono ?_
            rintro e y41 ⟨rfl, hb⟩
            replace L := (LV.call hb (LV.s L)).2.2.out
            replace VA := Va.after hb VA
            replace VB := Va.after hb VB
            try go_wp2_with fail
            refine hK.out _ _ ⟨L.1.cell, L.2.1.cell⟩ (fun hHeld => ?_)
            clear hK K hb
            refine wpAnyH_ready (rs := [6]) (by kernel_rfl) (by simp) ?_
            refine AllReadyH.cons rfl (fun K hK => ?_) AllReadyH.nil
            · simp only [List.getElem_toArray, List.getElem_cons_zero, List.getElem_cons_succ]
              go_simp
              refine (CF.out _).mono ?_
              rintro e y42 ⟨u0, v0, p, u1, v1, o, rfl, hu0, hv0, hu1, hv1, hSu, hb⟩
              have HW : Hid (Word u0 ∧ Word v0 ∧ Word u1 ∧ Word v1 ∧ (v0 ≠ 0 → p = !o ∧ Sure X Y u0 v0 u1 v1 o)) := ⟨hu0, hv0, hu1, hv1, hSu⟩
              clear hu0 hv0 hu1 hv1 hSu
              replace L := (LV.call hb (LV.s L)).2.2.out
              replace VA := Va.after hb VA
              replace VB := Va.after hb VB
              try go_wp2_with fail
              refine hK.out _ _ ⟨L.1.cell, L.2.1.cell⟩ (fun hHeld => ?_)
              clear hK K hb
              refine wpAnyH_take (i := 7) (v := ?_) rfl (by kernel_rfl) (by kernel_rfl) (by kernel_rfl) (fun _ _ _ h => h) (Or.inl ⟨by rfl, ?_⟩) hHeld ?_
              rotate_left
              · (intro W hSw; (try dsimp only at hSw); go_simp; all_goals (with_reducible rfl))
              simp only [List.getElem_toArray, List.getElem_cons_zero, List.getElem_cons_succ, Act.put, List.setIfInBounds_toArray, List.set_cons_zero, List.set_cons_succ]
              refine wpAnyH_take (i := 8) (v := ?_) rfl (by kernel_rfl) (by kernel_rfl) (by kernel_rfl) (fun _ _ _ h => h) (Or.inl ⟨by rfl, ?_⟩) hHeld ?_
              rotate_left
              · (intro W hSw; (try dsimp only at hSw); go_simp; all_goals (with_reducible rfl))
              simp only [List.getElem_toArray, List.getElem_cons_zero, List.getElem_cons_succ, Act.put, List.setIfInBounds_toArray, List.set_cons_zero, List.set_cons_succ]
              refine wpAnyH_take (i := 9) (v := ?_) rfl (by kernel_rfl) (by kernel_rfl) (by kernel_rfl) (fun _ _ _ h => h) (Or.inl ⟨by rfl, ?_⟩) hHeld ?_
              rotate_left
              · (intro W hSw; (try dsimp only at hSw); go_simp; all_goals (with_reducible rfl))
              simp only [List.getElem_toArray, List.getElem_cons_zero, List.getElem_cons_succ, Act.put, List.setIfInBounds_toArray, List.set_cons_zero, List.set_cons_succ]
              have ne : y1.heap.size ≠ y30.heap.size := by (first | (have h := ltA; omega) | (have h := ltB; omega))
              have d0 := VA.cellAt 0
              have d1 := VA.cellAt 1
              have d2 := VA.cellAt 2
              simp at d0 d1 d2
              have f0 := VA.frozen 0
              have f1 := VA.frozen 1
              have f2 := VA.frozen 2
              refine wpAnyH_ready (rs := [12]) (by kernel_rfl) (by simp) ?_
              refine AllReadyH.cons rfl (fun K hK => ?_) AllReadyH.nil
              simp only [List.getElem_toArray, List.getElem_cons_zero, List.getElem_cons_succ]
              go_simp
              refine st3 VA (.int .u64 u0) (.int .u64 v0) (.bool p) (Q := fun V => K _ V) ?_
              intro y43 VA' oth bel
              clear d0 d1 d2 f0 f1 f2
              replace L : LV w a la ca b lb cb y43 := ⟨oth _ _ _ (by omega) L.1, oth _ _ _ (by omega) L.2.1, oth _ _ _ (by omega) L.2.2.1, oth _ _ _ (by omega) L.2.2.2.1, bel _ _ (by omega) L.2.2.2.2⟩
              replace VB := oth _ _ _ (by omega) VB
              replace VA := VA'
              clear oth bel
              refine hK.out _ _ ⟨L.1.cell, L.2.1.cell⟩ (fun hHeld => ?_)
              clear hK K
              have d0 := VB.cellAt 0
              have d1 := VB.cellAt 1
              have d2 := VB.cellAt 2
              simp at d0 d1 d2
              have f0 := VB.frozen 0
              have f1 := VB.frozen 1
              have f2 := VB.frozen 2
              refine wpAnyH_ready (rs := [13]) (by kernel_rfl) (by simp) ?_
              refine AllReadyH.cons rfl (fun K hK => ?_) AllReadyH.nil
              simp only [List.getElem_toArray, List.getElem_cons_zero, List.getElem_cons_succ]
              go_simp
              refine st3 VB (.int .u64 u1) (.int .u64 v1) (.bool o) (Q := fun V => K _ V) ?_
              intro y44 VB' oth bel
              clear d0 d1 d2 f0 f1 f2
              replace L : LV w a la ca b lb cb y44 := ⟨oth _ _ _ (by omega) L.1, oth _ _ _ (by omega) L.2.1, oth _ _ _ (by omega) L.2.2.1, oth _ _ _ (by omega) L.2.2.2.1, bel _ _ (by omega) L.2.2.2.2⟩
              replace VA := oth _ _ _ (by omega) VA
              replace VB := VB'
              clear oth bel
              refine hK.out _ _ ⟨L.1.cell, L.2.1.cell⟩ (fun hHeld => ?_)
              clear hK K
              refine wpAnyH_done (by kernel_rfl) ?_ _
              refine NoPanic.normal ?_
              go_wp2_with fail
              go_meet
              exact ⟨_, _, u0, v0, p, u1, v1, o, rfl, rfl, Mb.of VA, Mb.of VB, L, ⟨by omega, by omega⟩, HW⟩
      · simp only [List.getElem_toArray, List.getElem_cons_zero, List.getElem_cons_succ]
        go_simp
        have zB := LV.size (LV.s L)
        refine ent1 _ _ _ (Q := fun V => K _ V) ?_
        intro y45 hb hs VB
        clear hs
        replace L := (LV.call hb (LV.s L)).2.2.out
        refine hK.out _ _ ⟨L.1.cell, L.2.1.cell⟩ (fun hHeld => ?_)
        clear hK K hb
        refine wpAnyH_ready (rs := [5, 10]) (by kernel_rfl) (by simp) ?_
        refine AllReadyH.cons rfl (fun K hK => ?_) (AllReadyH.cons rfl (fun K hK => ?_) AllReadyH.nil)
        · simp only [List.getElem_toArray, List.getElem_cons_zero, List.getElem_cons_succ]
          go_simp
          refine (CB.out _ L.2.2.2.2).mono ?_
          rintro e y46 ⟨rfl, hb⟩
          replace L := (LV.call hb (LV.s L)).2.2.out
          replace VB := Va.after hb VB
          try go_wp2_with fail
          refine hK.out _ _ ⟨L.1.cell, L.2.1.cell⟩ (fun hHeld => ?_)
          clear hK K hb
          refine wpAnyH_ready (rs := [6, 10]) (by kernel_rfl) (by simp) ?_
          refine AllReadyH.cons rfl (fun K hK => ?_) (AllReadyH.cons rfl (fun K hK => ?_) AllReadyH.nil)
          · simp only [List.getElem_toArray, List.getElem_cons_zero, List.getElem_cons_succ]
            go_simp
            refine (CF.out _).mono ?_
            rintro e y47 ⟨u0, v0, p, u1, v1, o, rfl, hu0, hv0, hu1, hv1, hSu, hb⟩
            have HW : Hid (Word u0 ∧ Word v0 ∧ Word u1 ∧ Word v1 ∧ (v0 ≠ 0 → p = !o ∧ Sure X Y u0 v0 u1 v1 o)) := ⟨hu0, hv0, hu1, hv1, hSu⟩
            clear hu0 hv0 hu1 hv1 hSu
            replace L := (LV.call hb (LV.s L)).2.2.out
            replace VB := Va.after hb VB
            try go_wp2_with fail
            refine hK.out _ _ ⟨L.1.cell, L.2.1.cell⟩ (fun hHeld => ?_)
            clear hK K hb
            refine wpAnyH_take (i := 7) (v := ?_) rfl (by kernel_rfl) (by kernel_rfl) (by kernel_rfl) (fun _ _ _ h => h) (Or.inl ⟨by rfl, ?_⟩) hHeld ?_
            rotate_left
            · (intro W hSw; (try dsimp only at hSw); go_simp; all_goals (with_reducible rfl))
            simp only [List.getElem_toArray, List.getElem_cons_zero, List.getElem_cons_succ, Act.put, List.setIfInBounds_toArray, List.set_cons_zero, List.set_cons_succ]
            refine wpAnyH_take (i := 8) (v := ?_) rfl (by kernel_rfl) (by kernel_rfl) (by kernel_rfl) (fun _ _ _ h => h) (Or.inl ⟨by rfl, ?_⟩) hHeld ?_
            rotate_left
            · (intro W hSw; (try dsimp only at hSw); go_simp; all_goals (with_reducible rfl))
            simp only [List.getElem_toArray, List.getElem_cons_zero, List.getElem_cons_succ, Act.put, List.setIfInBounds_toArray, List.set_cons_zero, List.set_cons_succ]
            refine wpAnyH_take (i := 9) (v := ?_) rfl (by kernel_rfl) (by kernel_rfl) (by kernel_rfl) (fun _ _ _ h => h) (Or.inl ⟨by rfl, ?_⟩) hHeld ?_
            rotate_left
            · (intro W hSw; (try dsimp only at hSw); go_simp; all_goals (with_reducible rfl))
            simp only [List.getElem_toArray, List.getElem_cons_zero, List.getElem_cons_succ, Act.put, List.setIfInBounds_toArray, List.set_cons_zero, List.set_cons_succ]
            refine wpAnyH_ready (rs := [10]) (by kernel_rfl) (by simp) ?_
            refine AllReadyH.cons rfl (fun K hK => ?_) AllReadyH.nil
            · simp only [List.getElem_toArray, List.getElem_cons_zero, List.getElem_cons_succ]
              go_simp
              have zA := LV.size (LV.s L)
              have ltA := VB.lt
              refine ent1 _ _ _ (Q := fun V => K _ V) ?_
              intro y48 hb hs VA
              clear hs
              replace L := (LV.call hb (LV.s L)).2.2.out
              replace VB := Va.after hb VB
              refine hK.out _ _ ⟨L.1.cell, L.2.1.cell⟩ (fun hHeld => ?_)
              clear hK K hb
              have ne : y47.heap.size ≠ y1.heap.size := by (first | (have h := ltA; omega) | (have h := ltB; omega))
              have d0 := VA.cellAt 0
              have d1 := VA.cellAt 1
              have d2 := VA.cellAt 2
              simp at d0 d1 d2
              have f0 := VA.frozen 0
              have f1 := VA.frozen 1
              have f2 := VA.frozen 2
              refine wpAnyH_ready (rs := [12]) (by kernel_rfl) (by simp) ?_
              refine AllReadyH.cons rfl (fun K hK => ?_) AllReadyH.nil
              simp only [List.getElem_toArray, List.getElem_cons_zero, List.getElem_cons_succ]
              go_simp
              refine st3 VA (.int .u64 u0) (.int .u64 v0) (.bool p) (Q := fun V => K _ V) ?_
              intro y49 VA' oth bel
              clear d0 d1 d2 f0 f1 f2
              replace L : LV w a la ca b lb cb y49 := ⟨oth _ _ _ (by omega) L.1, oth _ _ _ (by omega) L.2.1, oth _ _ _ (by omega) L.2.2.1, oth _ _ _ (by omega) L.2.2.2.1, bel _ _ (by omega) L.2.2.2.2⟩
              replace VB := oth _ _ _ (by omega) VB
              replace VA := VA'
              clear oth bel
              refine hK.out _ _ ⟨L.1.cell, L.2.1.cell⟩ (fun hHeld => ?_)
              clear hK K
              have d0 := VB.cellAt 0
              have d1 := VB.cellAt 1
              have d2 := VB.cellAt 2
              simp at d0 d1 d2
              have f0 := VB.frozen 0
              have f1 := VB.frozen 1
              have f2 := VB.frozen 2
              refine wpAnyH_ready (rs := [13]) (by kernel_rfl) (by simp) ?_
              refine AllReadyH.cons rfl (fun K hK => ?_) AllReadyH.nil
              simp only [List.getElem_toArray, List.getElem_cons_zero, List.getElem_cons_succ]
              go_simp
              refine st3 VB (.int .u64 u1) (.int .u64 v1) (.bool o) (Q := fun V => K _ V) ?_
              intro y50 VB' oth bel
              clear d0 d1 d2 f0 f1 f2
              replace L : LV w a la ca b lb cb y50 := ⟨oth _ _ _ (by omega) L.1, oth _ _ _ (by omega) L.2.1, oth _ _ _ (by omega) L.2.2.1, oth _ _ _ (by omega) L.2.2.2.1, bel _ _ (by omega) L.2.2.2.2⟩
              replace VA := oth _ _ _ (by omega) VA
              replace VB := VB'
              clear oth bel
              refine hK.out _ _ ⟨L.1.cell, L.2.1.cell⟩ (fun hHeld => ?_)
              clear hK K
              refine wpAnyH_done (by kernel_rfl) ?_ _
              refine NoPanic.normal ?_
              go_wp2_with fail
              go_meet
              exact ⟨_, _, u0, v0, p, u1, v1, o, rfl, rfl, Mb.of VA, Mb.of VB, L, ⟨by omega, by omega⟩, HW⟩
          · simp only [List.getElem_toArray, List.getElem_cons_zero, List.getElem_cons_succ]
            go_simp
            have zA := LV.size (LV.s L)
            have ltA := VB.lt
            refine ent1 _ _ _ (Q := fun V => K _ V) ?_
            intro y51 hb hs VA
            clear hs
            replace L := (LV.call hb (LV.s L)).2.2.out
            replace VB := Va.after hb VB
            refine hK.out _ _ ⟨L.1.cell, L.2.1.cell⟩ (fun hHeld => ?_)
            clear hK K hb
            refine wpAnyH_ready (rs := [6]) (by kernel_rfl) (by simp) ?_
            refine AllReadyH.cons rfl (fun K hK => ?_) AllReadyH.nil
            · simp only [List.getElem_toArray, List.getElem_cons_zero, List.getElem_cons_succ]
              go_simp
              refine (CF.out _).mono ?_
              rintro e y52 ⟨u0, v0, p, u1, v1, o, rfl, hu0, hv0, hu1, hv1, hSu, hb⟩
              have HW : Hid (Word u0 ∧ Word v0 ∧ Word u1 ∧ Word v1 ∧ (v0 ≠ 0 → p = !o ∧ Sure X Y u0 v0 u1 v1 o)) := ⟨hu0, hv0, hu1, hv1, hSu⟩
              clear hu0 hv0 hu1 hv1 hSu
              replace L := (LV.call hb (LV.s L)).2.2.out
              replace VA := Va.after hb VA
              replace VB := Va.after hb VB
              try go_wp2_with fail
              refine hK.out _ _ ⟨L.1.cell, L.2.1.cell⟩ (fun hHeld => ?_)
              clear hK K hb
              refine wpAnyH_take (i := 7) (v := ?_) rfl (by kernel_rfl) (by kernel_rfl) (by kernel_rfl) (fun _ _ _ h => h) (Or.inl ⟨by rfl, ?_⟩) hHeld ?_
              rotate_left
              · (intro W hSw; (try dsimp only at hSw); go_simp; all_goals (with_reducible rfl))
              simp only [List.getElem_toArray, List.getElem_cons_zero, List.getElem_cons_succ, Act.put, List.setIfInBounds_toArray, List.set_cons_zero, List.set_cons_succ]
              refine wpAnyH_take (i := 8) (v := ?_) rfl (by kernel_rfl) (by kernel_rfl) (by kernel_rfl) (fun _ _ _ h => h) (Or.inl ⟨by rfl, ?_⟩) hHeld ?_
              rotate_left
              · (intro W hSw; (try dsimp only at hSw); go_simp; all_goals (with_reducible rfl))
              simp only [List.getElem_toArray, List.getElem_cons_zero, List.getElem_cons_succ, Act.put, List.setIfInBounds_toArray, List.set_cons_zero, List.set_cons_succ]
              refine wpAnyH_take (i := 9) (v := ?_) rfl (by kernel_rfl) (by kernel_rfl) (by kernel_rfl) (fun _ _ _ h => h) (Or.inl ⟨by rfl, ?_⟩) hHeld ?_
              rotate_left
              · (intro W hSw; (try dsimp only at hSw); go_simp; all_goals (with_reducible rfl))
              simp only [List.getElem_toArray, List.getElem_cons_zero, List.getElem_cons_succ, Act.put, List.setIfInBounds_toArray, List.set_cons_zero, List.set_cons_succ]
              have ne : y46.heap.size ≠ y1.heap.size := by (first | (have h := ltA; omega) | (have h := ltB; omega))
              have d0 := VA.cellAt 0
              have d1 := VA.cellAt 1
              have d2 := VA.cellAt 2
              simp at d0 d1 d2
              have f0 := VA.frozen 0
              have f1 := VA.frozen 1
              have f2 := VA.frozen 2
              refine wpAnyH_ready (rs := [12]) (by kernel_rfl) (by simp) ?_
              refine AllReadyH.cons rfl (fun K hK => ?_) AllReadyH.nil
              simp only [List.getElem_toArray, List.getElem_cons_zero, List.getElem_cons_succ]
              go_simp
              refine st3 VA (.int .u64 u0) (.int .u64 v0) (.bool p) (Q := fun V => K _ V) ?_
              intro y53 VA' oth bel
              clear d0 d1 d2 f0 f1 f2
              replace L : LV w a la ca b lb cb y53 := ⟨oth _ _ _ (by omega) L.1, oth _ _ _ (by omega) L.2.1, oth _ _ _ (by omega) L.2.2.1, oth _ _ _ (by omega) L.2.2.2.1, bel _ _ (by omega) L.2.2.2.2⟩
              replace VB := oth _ _ _ (by omega) VB
              replace VA := VA'
              clear oth bel
              refine hK.out _ _ ⟨L.1.cell, L.2.1.cell⟩ (fun hHeld => ?_)
              clear hK K
              have d0 := VB.cellAt 0
              have d1 := VB.cellAt 1
              have d2 := VB.cellAt 2
              simp at d0 d1 d2
              have f0 := VB.frozen 0
              have f1 := VB.frozen 1
              have f2 := VB.frozen 2
              refine wpAnyH_ready (rs := [13]) (by kernel_rfl) (by simp) ?_
              refine AllReadyH.cons rfl (fun K hK => ?_) AllReadyH.nil
              simp only [List.getElem_toArray, List.getElem_cons_zero, List.getElem_cons_succ]
              go_simp
              refine st3 VB (.int .u64 u1) (.int .u64 v1) (.bool o) (Q := fun V => K _ V) ?_
              intro y54 VB' oth bel
              clear d0 d1 d2 f0 f1 f2
              replace L : LV w a la ca b lb cb y54 := ⟨oth _ _ _ (by omega) L.1, oth _ _ _ (by omega) L.2.1, oth _ _ _ (by omega) L.2.2.1, oth _ _ _ (by omega) L.2.2.2.1, bel _ _ (by omega) L.2.2.2.2⟩
              replace VA := oth _ _ _ (by omega) VA
              replace VB := VB'
              clear oth bel
              refine hK.out _ _ ⟨L.1.cell, L.2.1.cell⟩ (fun hHeld => ?_)
              clear hK K
              refine wpAnyH_done (by kernel_rfl) ?_ _
              refine NoPanic.normal ?_
              go_wp2_with fail
              go_meet
              exact ⟨_, _, u0, v0, p, u1, v1, o, rfl, rfl, Mb.of VA, Mb.of VB, L, ⟨by omega, by omega⟩, HW⟩
        · simp only [List.getElem_toArray, List.getElem_cons_zero, List.getElem_cons_succ]
          go_simp
          have zA := LV.size (LV.s L)
          have ltA := VB.lt
          refine ent1 _ _ _ (Q := fun V => K _ V) ?_
          intro y55 hb hs VA
          clear hs
          replace L := (LV.call hb (LV.s L)).2.2.out
          replace VB := Va.after hb VB
          refine hK.out _ _ ⟨L.1.cell, L.2.1.cell⟩ (fun hHeld => ?_)
          clear hK K hb
          refine wpAnyH_ready (rs := [5]) (by kernel_rfl) (by simp) ?_
          refine AllReadyH.cons rfl (fun K hK => ?_) AllReadyH.nil
          · simp only [List.getElem_toArray, List.getElem_cons_zero, List.getElem_cons_succ]
            go_simp
            refine (CB.out _ L.2.2.2.2).mono ?_
            rintro e y56 ⟨rfl, hb⟩
            replace L := (LV.call hb (LV.s L)).2.2.out
            replace VA := Va.after hb VA
            replace VB := Va.after hb VB
            try go_wp2_with fail
            refine hK.out _ _ ⟨L.1.cell, L.2.1.cell⟩ (fun hHeld => ?_)
            clear hK K hb
            refine wpAnyH_ready (rs := [6]) (by kernel_rfl) (by simp) ?_
            refine AllReadyH.cons rfl (fun K hK => ?_) AllReadyH.nil
            · simp only [List.getElem_toArray, List.getElem_cons_zero, List.getElem_cons_succ]
              go_simp
              refine (CF.out _).mono ?_
              rintro e y57 ⟨u0, v0, p, u1, v1, o, rfl, hu0, hv0, hu1, hv1, hSu, hb⟩
              have HW : Hid (Word u0 ∧ Word v0 ∧ Word u1 ∧ Word v1 ∧ (v0 ≠ 0 → p = !o ∧ Sure X Y u0 v0 u1 v1 o)) := ⟨hu0, hv0, hu1, hv1, hSu⟩
              clear hu0 hv0 hu1 hv1 hSu
              replace L := (LV.call hb (LV.s L)).2.2.out
              replace VA := Va.after hb VA
              replace VB := Va.after hb VB
              try go_wp2_with fail
              refine hK.out _ _ ⟨L.1.cell, L.2.1.cell⟩ (fun hHeld => ?_)
              clear hK K hb
              refine wpAnyH_take (i := 7) (v := ?_) rfl (by kernel_rfl) (by kernel_rfl) (by kernel_rfl) (fun _ _ _ h => h) (Or.inl ⟨by rfl, ?_⟩) hHeld ?_
              rotate_left
              · (intro W hSw; (try dsimp only at hSw); go_simp; all_goals (with_reducible rfl))
              simp only [List.getElem_toArray, List.getElem_cons_zero, List.getElem_cons_succ, Act.put, List.setIfInBounds_toArray, List.set_cons_zero, List.set_cons_succ]
              refine wpAnyH_take (i := 8) (v := ?_) rfl (by kernel_rfl) (by kernel_rfl) (by kernel_rfl) (fun _ _ _ h => h) (Or.inl ⟨by rfl, ?_⟩) hHeld ?_
              rotate_left
              · (intro W hSw; (try dsimp only at hSw); go_simp; all_goals (with_reducible rfl))
              simp only [List.getElem_toArray, List.getElem_cons_zero, List.getElem_cons_succ, Act.put, List.setIfInBounds_toArray, List.set_cons_zero, List.set_cons_succ]
              refine wpAnyH_take (i := 9) (v := ?_) rfl (by kernel_rfl) (by kernel_rfl) (by kernel_rfl) (fun _ _ _ h => h) (Or.inl ⟨by rfl, ?_⟩) hHeld ?_
              rotate_left
              · (intro W hSw; (try dsimp only at hSw); go_simp; all_goals (with_reducible rfl))
              simp only [List.getElem_toArray, List.getElem_cons_zero, List.getElem_cons_succ, Act.put, List.setIfInBounds_toArray, List.set_cons_zero, List.set_cons_succ]
              have ne : y45.heap.size ≠ y1.heap.size := by (first | (have h := ltA; omega) | (have h := ltB; omega))
              have d0 := VA.cellAt 0
              have d1 := VA.cellAt 1
              have d2 := VA.cellAt 2
              simp at d0 d1 d2
              have f0 := VA.frozen 0
              have f1 := VA.frozen 1
              have f2 := VA.frozen 2
              refine wpAnyH_ready (rs := [12]) (by kernel_rfl) (by simp) ?_
              refine AllReadyH.cons rfl (fun K hK => ?_) AllReadyH.nil
              simp only [List.getElem_toArray, List.getElem_cons_zero, List.getElem_cons_succ]
              go_simp
              refine st3 VA (.int .u64 u0) (.int .u64 v0) (.bool p) (Q := fun V => K _ V) ?_
              intro y58 VA' oth bel
              clear d0 d1 d2 f0 f1 f2
              replace L : LV w a la ca b lb cb y58 := ⟨oth _ _ _ (by omega) L.1, oth _ _ _ (by omega) L.2.1, oth _ _ _ (by omega) L.2.2.1, oth _ _ _ (by omega) L.2.2.2.1, bel _ _ (by omega) L.2.2.2.2⟩
              replace VB := oth _ _ _ (by omega) VB
              replace VA := VA'
              clear oth bel
              refine hK.out _ _ ⟨L.1.cell, L.2.1.cell⟩ (fun hHeld => ?_)
              clear hK K
              have d0 := VB.cellAt 0
              have d1 := VB.cellAt 1
              have d2 := VB.cellAt 2
              simp at d0 d1 d2
              have f0 := VB.frozen 0
              have f1 := VB.frozen 1
              have f2 := VB.frozen 2
              refine wpAnyH_ready (rs := [13]) (by kernel_rfl) (by simp) ?_
              refine AllReadyH.cons rfl (fun K hK => ?_) AllReadyH.nil
              simp only [List.getElem_toArray, List.getElem_cons_zero, List.getElem_cons_succ]
              go_simp
              refine st3 VB (.int .u64 u1) (.int .u64 v1) (.bool o) (Q := fun V => K _ V) ?_
              intro y59 VB' oth bel
              clear d0 d1 d2 f0 f1 f2
              replace L : LV w a la ca b lb cb y59 := ⟨oth _ _ _ (by omega) L.1, oth _ _ _ (by omega) L.2.1, oth _ _ _ (by omega) L.2.2.1, oth _ _ _ (by omega) L.2.2.2.1, bel _ _ (by omega) L.2.2.2.2⟩
              replace VA := oth _ _ _ (by omega) VA
              replace VB := VB'
              clear oth bel
              refine hK.out _ _ ⟨L.1.cell, L.2.1.cell⟩ (fun hHeld => ?_)
              clear hK K
              refine wpAnyH_done (by kernel_rfl) ?_ _
              refine NoPanic.normal ?_
              go_wp2_with fail
              go_meet
              exact ⟨_, _, u0, v0, p, u1, v1, o, rfl, rfl, Mb.of VA, Mb.of VB, L, ⟨by omega, by omega⟩, HW⟩
    · simp only [List.getElem_toArray, List.getElem_cons_zero, List.getElem_cons_succ]
      go_simp
      have zA := LV.size (LV.s L)
      refine ent1 _ _ _ (Q := fun V => K _ V) ?_
      intro y60 hb hs VA
      clear hs
      replace L := (LV.call hb (LV.s L)).2.2.out
      refine hK.out _ _ ⟨L.1.cell, L.2.1.cell⟩ (fun hHeld => ?_)
      clear hK K hb
      refine wpAnyH_ready (rs := [2, 11]) (by kernel_rfl) (by simp) ?_
      refine AllReadyH.cons rfl (fun K hK => ?_) (AllReadyH.cons rfl (fun K hK => ?_) AllReadyH.nil)
      · simp only [List.getElem_toArray, List.getElem_cons_zero, List.getElem_cons_succ]
        go_simp
        refine (CA.out _ L.2.2.2.2).mono ?_
        rintro e y61 ⟨rfl, hb⟩
        replace L := (LV.call hb (LV.s L)).2.2.out
        replace VA := Va.after hb VA
        try go_wp2_with fail
        refine hK.out _ _ ⟨L.1.cell, L.2.1.cell⟩ (fun hHeld => ?_)
        clear hK K hb
        refine wpAnyH_ready (rs := [5, 11]) (by kernel_rfl) (by simp) ?_
        refine AllReadyH.cons rfl (fun K hK => ?_) (AllReadyH.cons rfl (fun K hK => ?_) AllReadyH.nil)
        · simp only [List.getElem_toArray, List.getElem_cons_zero, List.getElem_cons_succ]
          go_simp
          refine (CB.out _ L.2.2.2.2).mono ?_
          rintro e y62 ⟨rfl, hb⟩
          replace L := (LV.call hb (LV.s L)).2.2.out
          replace VA := Va.after hb VA
          try go_wp2_with fail
          refine hK.out _ _ ⟨L.1.cell, L.2.1.cell⟩ (fun hHeld => ?_)
          clear hK K hb
          refine wpAnyH_ready (rs := [6, 11]) (by kernel_rfl) (by simp) ?_
          refine AllReadyH.cons rfl (fun K hK => ?_) (AllReadyH.cons rfl (fun K hK => ?_) AllReadyH.nil)
          · simp only [List.getElem_toArray, List.getElem_cons_zero, List.getElem_cons_succ]
            go_simp
            refine (CF.out _).mono ?_
            rintro e y63 ⟨u0, v0, p, u1, v1, o, rfl, hu0, hv0, hu1, hv1, hSu, hb⟩
            have HW : Hid (Word u0 ∧ Word v0 ∧ Word u1 ∧ Word v1 ∧ (v0 ≠ 0 → p = !o ∧ Sure X Y u0 v0 u1 v1 o)) := ⟨hu0, hv0, hu1, hv1, hSu⟩
            clear hu0 hv0 hu1 hv1 hSu
            replace L := (LV.call hb (LV.s L)).2.2.out
            replace VA := Va.after hb VA
            try go_wp2_with fail
            refine hK.out _ _ ⟨L.1.cell, L.2.1.cell⟩ (fun hHeld => ?_)
            clear hK K hb
            refine wpAnyH_take (i := 7) (v := ?_) rfl (by kernel_rfl) (by kernel_rfl) (by kernel_rfl) (fun _ _ _ h => h) (Or.inl ⟨by rfl, ?_⟩) hHeld ?_
            rotate_left
            · (intro W hSw; (try dsimp only at hSw); go_simp; all_goals (with_reducible rfl))
            simp only [List.getElem_toArray, List.getElem_cons_zero, List.getElem_cons_succ, Act.put, List.setIfInBounds_toArray, List.set_cons_zero, List.set_cons_succ]
            refine wpAnyH_take (i := 8) (v := ?_) rfl (by kernel_rfl) (by kernel_rfl) (by kernel_rfl) (fun _ _ _ h => h) (Or.inl ⟨by rfl, ?_⟩) hHeld ?_
            rotate_left
            · (intro W hSw; (try dsimp only at hSw); go_simp; all_goals (with_reducible rfl))
            simp only [List.getElem_toArray, List.getElem_cons_zero, List.getElem_cons_succ, Act.put, List.setIfInBounds_toArray, List.set_cons_zero, List.set_cons_succ]
            refine wpAnyH_take (i := 9) (v := ?_) rfl (by kernel_rfl) (by kernel_rfl) (by kernel_rfl) (fun _ _ _ h => h) (Or.inl ⟨by rfl, ?_⟩) hHeld ?_
            rotate_left
            · (intro W hSw; (try dsimp only at hSw); go_simp; all_goals (with_reducible rfl))
            simp only [List.getElem_toArray, List.getElem_cons_zero, List.getElem_cons_succ, Act.put, List.setIfInBounds_toArray, List.set_cons_zero, List.set_cons_succ]
            refine wpAnyH_ready (rs := [11]) (by kernel_rfl) (by simp) ?_
            refine AllReadyH.cons rfl (fun K hK => ?_) AllReadyH.nil
            · simp only [List.getElem_toArray, List.getElem_cons_zero, List.getElem_cons_succ]
              go_simp
              have zB := LV.size (LV.s L)
              have ltB := VA.lt
              refine ent1 _ _ _ (Q := fun V => K _ V) ?_
              intro y64 hb hs VB
              clear hs
              replace L := (LV.call hb (LV.s L)).2.2.out
              replace VA := Va.after hb VA
              refine hK.out _ _ ⟨L.1.cell, L.2.1.cell⟩ (fun hHeld => ?_)
              clear hK K hb
              have ne : xd.heap.size ≠ y63.heap.size := by (first | (have h := ltA; omega) | (have h := ltB; omega))
              have d0 := VA.cellAt 0
              have d1 := VA.cellAt 1
              have d2 := VA.cellAt 2
              simp at d0 d1 d2
              have f0 := VA.frozen 0
              have f1 := VA.frozen 1
              have f2 := VA.frozen 2
              refine wpAnyH_ready (rs := [12]) (by kernel_rfl) (by simp) ?_
              refine AllReadyH.cons rfl (fun K hK => ?_) AllReadyH.nil
              simp only [List.getElem_toArray, List.getElem_cons_zero, List.getElem_cons_succ]
              go_simp
              refine st3 VA (.int .u64 u0) (.int .u64 v0) (.bool p) (Q := fun V => K _ V) ?_
              intro y65 VA' oth bel
              clear d0 d1 d2 f0 f1 f2
              replace L : LV w a la ca b lb cb y65 := ⟨oth _ _ _ (by omega) L.1, oth _ _ _ (by omega) L.2.1, oth _ _ _ (by omega) L.2.2.1, oth _ _ _ (by omega) L.2.2.2.1, bel _ _ (by omega) L.2.2.2.2⟩
              replace VB := oth _ _ _ (by omega) VB
              replace VA := VA'
              clear oth bel
              refine hK.out _ _ ⟨L.1.cell, L.2.1.cell⟩ (fun hHeld => ?_)
              clear hK K
              have d0 := VB.cellAt 0
              have d1 := VB.cellAt 1
              have d2 := VB.cellAt 2
              simp at d0 d1 d2
              have f0 := VB.frozen 0
              have f1 := VB.frozen 1
              have f2 := VB.frozen 2
              refine wpAnyH_ready (rs := [13]) (by kernel_rfl) (by simp) ?_
              refine AllReadyH.cons rfl (fun K hK => ?_) AllReadyH.nil
              simp only [List.getElem_toArray, List.getElem_cons_zero, List.getElem_cons_succ]
              go_simp
              refine st3 VB (.int .u64 u1) (.int .u64 v1) (.bool o) (Q := fun V => K _ V) ?_
              intro y66 VB' oth bel
              clear d0 d1 d2 f0 f1 f2
              replace L : LV w a la ca b lb cb y66 := ⟨oth _ _ _ (by omega) L.1, oth _ _ _ (by omega) L.2.1, oth _ _ _ (by omega) L.2.2.1, oth _ _ _ (by omega) L.2.2.2.1, bel _ _ (by omega) L.2.2.2.2⟩
              replace VA := oth _ _ _ (by omega) VA
              replace VB := VB'
              clear oth bel
              refine hK.out _ _ ⟨L.1.cell, L.2.1.cell⟩ (fun hHeld => ?_)
              clear hK K
              refine wpAnyH_done (by kernel_rfl) ?_ _
              refine NoPanic.normal ?_
              go_wp2_with fail
              go_meet
              exact ⟨_, _, u0, v0, p, u1, v1, o, rfl, rfl, Mb.of VA, Mb.of VB, L, ⟨by omega, by omega⟩, HW⟩
          · simp only [List.getElem_toArray, List.getElem_cons_zero, List.getElem_cons_succ]
            go_simp
            have zB := LV.size (LV.s L)
            have ltB := VA.lt
            refine ent1 _ _ _ (Q := fun V => K _ V) ?_
            intro y67 hb hs VB
            clear hs
            replace L := (LV.call hb (LV.s L)).2.2.out
            replace VA := Va.after hb VA
            refine hK.out _ _ ⟨L.1.cell, L.2.1.cell⟩ (fun hHeld => ?_)
            clear hK K hb
            refine wpAnyH_ready (rs := [6]) (by kernel_rfl) (by simp) ?_
            refine AllReadyH.cons rfl (fun K hK => ?_) AllReadyH.nil
            · simp only [List.getElem_toArray, List.getElem_cons_zero, List.getElem_cons_succ]
              go_simp
              refine (CF.out _).mono ?_
              rintro e y68 ⟨u0, v0, p, u1, v1, o, rfl, hu0, hv0, hu1, hv1, hSu, hb⟩
              have HW : Hid (Word u0 ∧ Word v0 ∧ Word u1 ∧ Word v1 ∧ (v0 ≠ 0 → p = !o ∧ Sure X Y u0 v0 u1 v1 o)) := ⟨hu0, hv0, hu1, hv1, hSu⟩
              clear hu0 hv0 hu1 hv1 hSu
              replace L := (LV.call hb (LV.s L)).2.2.out
              replace VA := Va.after hb VA
              replace VB := Va.after hb VB
              try go_wp2_with fail
              refine hK.out _ _ ⟨L.1.cell, L.2.1.cell⟩ (fun hHeld => ?_)
              clear hK K hb
              refine wpAnyH_take (i := 7) (v := ?_) rfl (by kernel_rfl) (by kernel_rfl) (by kernel_rfl) (fun _ _ _ h => h) (Or.inl ⟨by rfl, ?_⟩) hHeld ?_
              rotate_left
              · (intro W hSw; (try dsimp only at hSw); go_simp; all_goals (with_reducible rfl))
              simp only [List.getElem_toArray, List.getElem_cons_zero, List.getElem_cons_succ, Act.put, List.setIfInBounds_toArray, List.set_cons_zero, List.set_cons_succ]
              refine wpAnyH_take (i := 8) (v := ?_) rfl (by kernel_rfl) (by kernel_rfl) (by kernel_rfl) (fun _ _ _ h => h) (Or.inl ⟨by rfl, ?_⟩) hHeld ?_
              rotate_left
              · (intro W hSw; (try dsimp only at hSw); go_simp; all_goals (with_reducible rfl))
              simp only [List.getElem_toArray, List.getElem_cons_zero, List.getElem_cons_succ, Act.put, List.setIfInBounds_toArray, List.set_cons_zero, List.set_cons_succ]
              refine wpAnyH_take (i := 9) (v := ?_) rfl (by kernel_rfl) (by kernel_rfl) (by kernel_rfl) (fun _ _ _ h => h) (Or.inl ⟨by rfl, ?_⟩) hHeld ?_
              rotate_left
              · (intro W hSw; (try dsimp only at hSw); go_simp; all_goals (with_reducible rfl))
              simp only [List.getElem_toArray, List.getElem_cons_zero, List.getElem_cons_succ, Act.put, List.setIfInBounds_toArray, List.set_cons_zero, List.set_cons_succ]
              have ne : xd.heap.size ≠ y62.heap.size := by (first | (have h := ltA; omega) | (have h := ltB; omega))
              have d0 := VA.cellAt 0
              have d1 := VA.cellAt 1
              have d2 := VA.cellAt 2
              simp at d0 d1 d2
              have f0 := VA.frozen 0
              have f1 := VA.frozen 1
              have f2 := VA.frozen 2
              refine wpAnyH_ready (rs := [12]) (by kernel_rfl) (by simp) ?_
              refine AllReadyH.cons rfl (fun K hK => ?_) AllReadyH.nil
              simp only [List.getElem_toArray, List.getElem_cons_zero, List.getElem_cons_succ]
              go_simp
              refine st3 VA (.int .u64 u0) (.int .u64 v0) (.bool p) (Q := fun V => K _ V) ?_
              intro y69 VA' oth bel
              clear d0 d1 d2 f0 f1 f2
              replace L : LV w a la ca b lb cb y69 := ⟨oth _ _ _ (by omega) L.1, oth _ _ _ (by omega) L.2.1, oth _ _ _ (by omega) L.2.2.1, oth _ _ _ (by omega) L.2.2.2.1, bel _ _ (by omega) L.2.2.2.2⟩
              replace VB := oth _ _ _ (by omega) VB
              replace VA := VA'
              clear oth bel
              refine hK.out _ _ ⟨L.1.cell, L.2.1.cell⟩ (fun hHeld => ?_)
              clear hK K
              have d0 := VB.cellAt 0
              have d1 := VB.cellAt 1
              have d2 := VB.cellAt 2
              simp at d0 d1 d2
              have f0 := VB.frozen 0
              have f1 := VB.frozen 1
              have f2 := VB.frozen 2
              refine wpAnyH_ready (rs := [13]) (by kernel_rfl) (by simp) ?_
              refine AllReadyH.cons rfl (fun K hK => ?_) AllReadyH.nil
              simp only [List.getElem_toArray, List.getElem_cons_zero, List.getElem_cons_succ]
              go_simp
              refine st3 VB (.int .u64 u1) (.int .u64 v1) (.bool o) (Q := fun V => K _ V) ?_
              intro y70 VB' oth bel
              clear d0 d1 d2 f0 f1 f2
              replace L : LV w a la ca b lb cb y70 := ⟨oth _ _ _ (by omega) L.1, oth _ _ _ (by omega) L.2.1, oth _ _ _ (by omega) L.2.2.1, oth _ _ _ (by omega) L.2.2.2.1, bel _ _ (by omega) L.2.2.2.2⟩
              replace VA := oth _ _ _ (by omega) VA
              replace VB := VB'
              clear oth bel
              refine hK.out _ _ ⟨L.1.cell, L.2.1.cell⟩ (fun hHeld => ?_)
              clear hK K
              refine wpAnyH_done (by kernel_rfl) ?_ _
              refine NoPanic.normal ?_
              go_wp2_with fail
              go_meet
              exact ⟨_, _, u0, v0, p, u1, v1, o, rfl, rfl, Mb.of VA, Mb.of VB, L, ⟨by omega, by omega⟩, HW⟩
        · simp only [List.getElem_toArray, List.getElem_cons_zero, List.getElem_cons_succ]
          go_simp
          have zB := LV.size (LV.s L)
          have ltB := VA.lt
          refine ent1 _ _ _ (Q := fun V => K _ V) ?_
          intro y71 hb hs VB
          clear hs
          replace L := (LV.call hb (LV.s L)).2.2.out
          replace VA := Va.after hb VA
          refine hK.out _ _ ⟨L.1.cell, L.2.1.cell⟩ (fun hHeld => ?_)
          clear hK K hb
          refine wpAnyH_ready (rs := [5]) (by kernel_rfl) (by simp) ?_
          refine AllReadyH.cons rfl (fun K hK => ?_) AllReadyH.nil
          · simp only [List.getElem_toArray, List.getElem_cons_zero, List.getElem_cons_succ]
            go_simp
            refine (CB.out _ L.2.2.2.2).mono ?_
            rintro e y72 ⟨rfl, hb⟩
            replace L := (LV.call hb (LV.s L)).2.2.out
            replace VA := Va.after hb VA
            replace VB := Va.after hb VB
            try go_wp2_with fail
            refine hK.out _ _ ⟨L.1.cell, L.2.1.cell⟩ (fun hHeld => ?_)
            clear hK K hb
            refine wpAnyH_ready (rs := [6]) (by kernel_rfl) (by simp) ?_
            refine AllReadyH.cons rfl (fun K hK => ?_) AllReadyH.nil
            · simp only [List.getElem_toArray, List.getElem_cons_zero, List.getElem_cons_succ]
              go_simp
              refine (CF.out _).mono ?_
              rintro e y73 ⟨u0, v0, p, u1, v1, o, rfl, hu0, hv0, hu1, hv1, hSu, hb⟩
              have HW : Hid (Word u0 ∧ Word v0 ∧ Word u1 ∧ Word v1 ∧ (v0 ≠ 0 → p = !o ∧ Sure X Y u0 v0 u1 v1 o)) := ⟨hu0, hv0, hu1, hv1, hSu⟩
              clear hu0 hv0 hu1 hv1 hSu
              replace L := (LV.call hb (LV.s L)).2.2.out
              replace VA := Va.after hb VA
              replace VB := Va.after hb VB
              try go_wp2_with fail
              refine hK.out _ _ ⟨L.1.cell, L.2.1.cell⟩ (fun hHeld => ?_)
              clear hK K hb
              refine wpAnyH_take (i := 7) (v := ?_) rfl (by kernel_rfl) (by kernel_rfl) (by kernel_rfl) (fun _ _ _ h => h) (Or.inl ⟨by rfl, ?_⟩) hHeld ?_
              rotate_left
              · (intro W hSw; (try dsimp only at hSw); go_simp; all_goals (with_reducible rfl))
              simp only [List.getElem_toArray, List.getElem_cons_zero, List.getElem_cons_succ, Act.put, List.setIfInBounds_toArray, List.set_cons_zero, List.set_cons_succ]
              refine wpAnyH_take (i := 8) (v := ?_) rfl (by kernel_rfl) (by kernel_rfl) (by kernel_rfl) (fun _ _ _ h => h) (Or.inl ⟨by rfl, ?_⟩) hHeld ?_
              rotate_left
              · (intro W hSw; (try dsimp only at hSw); go_simp; all_goals (with_reducible rfl))
              simp only [List.getElem_toArray, List.getElem_cons_zero, List.getElem_cons_succ, Act.put, List.setIfInBounds_toArray, List.set_cons_zero, List.set_cons_succ]
              refine wpAnyH_take (i := 9) (v := ?_) rfl (by kernel_rfl) (by kernel_rfl) (by kernel_rfl) (fun _ _ _ h => h) (Or.inl ⟨by rfl, ?_⟩) hHeld ?_
              rotate_left
              · (intro W hSw; (try dsimp only at hSw); go_simp; all_goals (with_reducible rfl))
              simp only [List.getElem_toArray, List.getElem_cons_zero, List.getElem_cons_succ, Act.put, List.setIfInBounds_toArray, List.set_cons_zero, List.set_cons_succ]
              have ne : xd.heap.size ≠ y61.heap.size := by (first | (have h := ltA; omega) | (have h := ltB; omega))
              have d0 := VA.cellAt 0
              have d1 := VA.cellAt 1
              have d2 := VA.cellAt 2
              simp at d0 d1 d2
              have f0 := VA.frozen 0
              have f1 := VA.frozen 1
              have f2 := VA.frozen 2
              refine wpAnyH_ready (rs := [12]) (by kernel_rfl) (by simp) ?_
              refine AllReadyH.cons rfl (fun K hK => ?_) AllReadyH.nil
              simp only [List.getElem_toArray, List.getElem_cons_zero, List.getElem_cons_succ]
              go_simp
              refine st3 VA (.int .u64 u0) (.int .u64 v0) (.bool p) (Q := fun V => K _ V) ?_
              intro y74 VA' oth bel
              clear d0 d1 d2 f0 f1 f2
              replace L : LV w a la ca b lb cb y74 := ⟨oth _ _ _ (by omega) L.1, oth _ _ _ (by omega) L.2.1, oth _ _ _ (by omega) L.2.2.1, oth _ _ _ (by omega) L.2.2.2.1, bel _ _ (by omega) L.2.2.2.2⟩
              replace VB := oth _ _ _ (by omega) VB
              replace VA := VA'
              clear oth bel
              refine hK.out _ _ ⟨L.1.cell, L.2.1.cell⟩ (fun hHeld => ?_)
              clear hK K
              have d0 := VB.cellAt 0
              have d1 := VB.cellAt 1
              have d2 := VB.cellAt 2
              simp at d0 d1 d2
              have f0 := VB.frozen 0
              have f1 := VB.frozen 1
              have f2 := VB.frozen 2
              refine wpAnyH_ready (rs := [13]) (by kernel_rfl) (by simp) ?_
              refine AllReadyH.cons rfl (fun K hK => ?_) AllReadyH.nil
              simp only [List.getElem_toArray, List.getElem_cons_zero, List.getElem_cons_succ]
              go_simp
              refine st3 VB (.int .u64 u1) (.int .u64 v1) (.bool o) (Q := fun V => K _ V) ?_
              intro y75 VB' oth bel
              clear d0 d1 d2 f0 f1 f2
              replace L : LV w a la ca b lb cb y75 := ⟨oth _ _ _ (by omega) L.1, oth _ _ _ (by omega) L.2.1, oth _ _ _ (by omega) L.2.2.1, oth _ _ _ (by omega) L.2.2.2.1, bel _ _ (by omega) L.2.2.2.2⟩
              replace VA := oth _ _ _ (by omega) VA
              replace VB := VB'
              clear oth bel
              refine hK.out _ _ ⟨L.1.cell, L.2.1.cell⟩ (fun hHeld => ?_)
              clear hK K
              refine wpAnyH_done (by kernel_rfl) ?_ _
              refine NoPanic.normal ?_
              go_wp2_with fail
              go_meet
              exact ⟨_, _, u0, v0, p, u1, v1, o, rfl, rfl, Mb.of VA, Mb.of VB, L, ⟨by omega, by omega⟩, HW⟩
      · simp only [List.getElem_toArray, List.getElem_cons_zero, List.getElem_cons_succ]
        go_simp
        have zB := LV.size (LV.s L)
        have ltB := VA.lt
        refine ent1 _ _ _ (Q := fun V => K _ V) ?_
        intro y76 hb hs VB
        clear hs
        replace L := (LV.call hb (LV.s L)).2.2.out
        replace VA := Va.after hb VA
        refine hK.out _ _ ⟨L.1.cell, L.2.1.cell⟩ (fun hHeld => ?_)
        clear hK K hb
        refine wpAnyH_ready (rs := [2]) (by kernel_rfl) (by simp) ?_
        refine AllReadyH.cons rfl (fun K hK => ?_) AllReadyH.nil
        · simp only [List.getElem_toArray, List.getElem_cons_zero, List.getElem_cons_succ]
          go_simp
          refine (CA.out _ L.2.2.2.2).mono ?_
          rintro e y77 ⟨rfl, hb⟩
          replace L := (LV.call hb (LV.s L)).2.2.out
          replace VA := Va.after hb VA
          replace VB := Va.after hb VB
          try go_wp2_with fail
          refine hK.out _ _ ⟨L.1.cell, L.2.1.cell⟩ (fun hHeld => ?_)
          clear hK K hb
          refine wpAnyH_ready (rs := [5]) (by kernel_rfl) (by simp) ?_
          refine AllReadyH.cons rfl (fun K hK => ?_) AllReadyH.nil
          · simp only [List.getElem_toArray, List.getElem_cons_zero, List.getElem_cons_succ]
            go_simp
            refine (CB.out _ L.2.2.2.2).mono ?_
            rintro e y78 ⟨rfl, hb⟩
            replace L := (LV.call hb (LV.s L)).2.2.out
            replace VA := Va.after hb VA
            replace VB := Va.after hb VB
            try go_wp2_with fail
            refine hK.out _ _ ⟨L.1.cell, L.2.1.cell⟩ (fun hHeld => ?_)
            clear hK K hb
            refine wpAnyH_ready (rs := [6]) (by kernel_rfl) (by simp) ?_
            refine AllReadyH.cons rfl (fun K hK => ?_) AllReadyH.nil
            · simp only [List.getElem_toArray, List.getElem_cons_zero, List.getElem_cons_succ]
              go_simp
              refine (CF.out _).mono ?_
              rintro e y79 ⟨u0, v0, p, u1, v1, o, rfl, hu0, hv0, hu1, hv1, hSu, hb⟩
              have HW : Hid (Word u0 ∧ Word v0 ∧ Word u1 ∧ Word v1 ∧ (v0 ≠ 0 → p = !o ∧ Sure X Y u0 v0 u1 v1 o)) := ⟨hu0, hv0, hu1, hv1, hSu⟩
              clear hu0 hv0 hu1 hv1 hSu
              replace L := (LV.call hb (LV.s L)).2.2.out
              replace VA := Va.after hb VA
              replace VB := Va.after hb VB
              try go_wp2_with fail
              refine hK.out _ _ ⟨L.1.cell, L.2.1.cell⟩ (fun hHeld => ?_)
              clear hK K hb
              refine wpAnyH_take (i := 7) (v := ?_) rfl (by kernel_rfl) (by kernel_rfl) (by kernel_rfl) (fun _ _ _ h => h) (Or.inl ⟨by rfl, ?_⟩) hHeld ?_
              rotate_left
              · (intro W hSw; (try dsimp only at hSw); go_simp; all_goals (with_reducible rfl))
              simp only [List.getElem_toArray, List.getElem_cons_zero, List.getElem_cons_succ, Act.put, List.setIfInBounds_toArray, List.set_cons_zero, List.set_cons_succ]
              refine wpAnyH_take (i := 8) (v := ?_) rfl (by kernel_rfl) (by kernel_rfl) (by kernel_rfl) (fun _ _ _ h => h) (Or.inl ⟨by rfl, ?_⟩) hHeld ?_
              rotate_left
              · (intro W hSw; (try dsimp only at hSw); go_simp; all_goals (with_reducible rfl))
              simp only [List.getElem_toArray, List.getElem_cons_zero, List.getElem_cons_succ, Act.put, List.setIfInBounds_toArray, List.set_cons_zero, List.set_cons_succ]
              refine wpAnyH_take (i := 9) (v := ?_) rfl (by kernel_rfl) (by kernel_rfl) (by kernel_rfl) (fun _ _ _ h => h) (Or.inl ⟨by rfl, ?_⟩) hHeld ?_
              rotate_left
              · (intro W hSw; (try dsimp only at hSw); go_simp; all_goals (with_reducible rfl))
              simp only [List.getElem_toArray, List.getElem_cons_zero, List.getElem_cons_succ, Act.put, List.setIfInBounds_toArray, List.set_cons_zero, List.set_cons_succ]
              have ne : xd.heap.size ≠ y60.heap.size := by (first | (have h := ltA; omega) | (have h := ltB; omega))
              have d0 := VA.cellAt 0
              have d1 := VA.cellAt 1
              have d2 := VA.cellAt 2
              simp at d0 d1 d2
              have f0 := VA.frozen 0
              have f1 := VA.frozen 1
              have f2 := VA.frozen 2
              refine wpAnyH_ready (rs := [12]) (by kernel_rfl) (by simp) ?_
              refine AllReadyH.cons rfl (fun K hK => ?_) AllReadyH.nil
              simp only [List.getElem_toArray, List.getElem_cons_zero, List.getElem_cons_succ]
              go_simp
              refine st3 VA (.int .u64 u0) (.int .u64 v0) (.bool p) (Q := fun V => K _ V) ?_
              intro y80 VA' oth bel
              clear d0 d1 d2 f0 f1 f2
              replace L : LV w a la ca b lb cb y80 := ⟨oth _ _ _ (by omega) L.1, oth _ _ _ (by omega) L.2.1, oth _ _ _ (by omega) L.2.2.1, oth _ _ _ (by omega) L.2.2.2.1, bel _ _ (by omega) L.2.2.2.2⟩
              replace VB := oth _ _ _ (by omega) VB
              replace VA := VA'
              clear oth bel
              refine hK.out _ _ ⟨L.1.cell, L.2.1.cell⟩ (fun hHeld => ?_)
              clear hK K
              have d0 := VB.cellAt 0
              have d1 := VB.cellAt 1
              have d2 := VB.cellAt 2
              simp at d0 d1 d2
              have f0 := VB.frozen 0
              have f1 := VB.frozen 1
              have f2 := VB.frozen 2
              refine wpAnyH_ready (rs := [13]) (by kernel_rfl) (by simp) ?_
              refine AllReadyH.cons rfl (fun K hK => ?_) AllReadyH.nil
              simp only [List.getElem_toArray, List.getElem_cons_zero, List.getElem_cons_succ]
              go_simp
              refine st3 VB (.int .u64 u1) (.int .u64 v1) (.bool o) (Q := fun V => K _ V) ?_
              intro y81 VB' oth bel
              clear d0 d1 d2 f0 f1 f2
              replace L : LV w a la ca b lb cb y81 := ⟨oth _ _ _ (by omega) L.1, oth _ _ _ (by omega) L.2.1, oth _ _ _ (by omega) L.2.2.1, oth _ _ _ (by omega) L.2.2.2.1, bel _ _ (by omega) L.2.2.2.2⟩
              replace VA := oth _ _ _ (by omega) VA
              replace VB := VB'
              clear oth bel
              refine hK.out _ _ ⟨L.1.cell, L.2.1.cell⟩ (fun hHeld => ?_)
              clear hK K
              refine wpAnyH_done (by kernel_rfl) ?_ _
              refine NoPanic.normal ?_
              go_wp2_with fail
              go_meet
              exact ⟨_, _, u0, v0, p, u1, v1, o, rfl, rfl, Mb.of VA, Mb.of VB, L, ⟨by omega, by omega⟩, HW⟩
    · simp only [List.getElem_toArray, List.getElem_cons_zero, List.getElem_cons_succ]
      go_simp
      have zB := LV.size (LV.s L)
      refine ent1 _ _ _ (Q := fun V => K _ V) ?_
      intro y82 hb hs VB
      clear hs
      replace L := (LV.call hb (LV.s L)).2.2.out
      refine hK.out _ _ ⟨L.1.cell, L.2.1.cell⟩ (fun hHeld => ?_)
      clear hK K hb
      refine wpAnyH_ready (rs := [2, 10]) (by kernel_rfl) (by simp) ?_
      refine AllReadyH.cons rfl (fun K hK => ?_) (AllReadyH.cons rfl (fun K hK => ?_) AllReadyH.nil)
      · simp only [List.getElem_toArray, List.getElem_cons_zero, List.getElem_cons_succ]
        go_simp
        refine (CA.out _ L.2.2.2.2).mono ?_
        rintro e y83 ⟨rfl, hb⟩
        replace L := (LV.call hb (LV.s L)).2.2.out
        replace VB := Va.after hb VB
        try go_wp2_with fail
        refine hK.out _ _ ⟨L.1.cell, L.2.1.cell⟩ (fun hHeld => ?_)
        clear hK K hb
        refine wpAnyH_ready (rs := [5, 10]) (by kernel_rfl) (by simp) ?_
        refine AllReadyH.cons rfl (fun K hK => ?_) (AllReadyH.cons rfl (fun K hK => ?_) AllReadyH.nil)
        · simp only [List.getElem_toArray, List.getElem_cons_zero, List.getElem_cons_succ]
          go_simp
          refine (CB.out _ L.2.2.2.2).mono ?_
          rintro e y84 ⟨rfl, hb⟩
          replace L := (LV.call hb (LV.s L)).2.2.out
          replace VB := Va.after hb VB
          try go_wp2_with fail
          refine hK.out _ _ ⟨L.1.cell, L.2.1.cell⟩ (fun hHeld => ?_)
          clear hK K hb
          refine wpAnyH_ready (rs := [6, 10]) (by kernel_rfl) (by simp) ?_
          refine AllReadyH.cons rfl (fun K hK => ?_) (AllReadyH.cons rfl (fun K hK => ?_) AllReadyH.nil)
          · simp only [List.getElem_toArray, List.getElem_cons_zero, List.getElem_cons_succ]
            go_simp
            refine (CF.out _).mono ?_
            rintro e y85 ⟨u0, v0, p, u1, v1, o, rfl, hu0, hv0, hu1, hv1, hSu, hb⟩
            have HW : Hid (Word u0 ∧ Word v0 ∧ Word u1 ∧ Word v1 ∧ (v0 ≠ 0 → p = !o ∧ Sure X Y u0 v0 u1 v1 o)) := ⟨hu0, hv0, hu1, hv1, hSu⟩
            clear hu0 hv0 hu1 hv1 hSu
            replace L := (LV.call hb (LV.s L)).2.2.out
            replace VB := Va.after hb VB
            try go_wp2_with fail
            refine hK.out _ _ ⟨L.1.cell, L.2.1.cell⟩ (fun hHeld => ?_)
            clear hK K hb
            refine wpAnyH_take (i := 7) (v := ?_) rfl (by kernel_rfl) (by kernel_rfl) (by kernel_rfl) (fun _ _ _ h => h) (Or.inl ⟨by rfl, ?_⟩) hHeld ?_
            rotate_left
            · (intro W hSw; (try dsimp only at hSw); go_simp; all_goals (with_reducible rfl))
            simp only [List.getElem_toArray, List.getElem_cons_zero, List.getElem_cons_succ, Act.put, List.setIfInBounds_toArray, List.set_cons_zero, List.set_cons_succ]
            refine wpAnyH_take (i := 8) (v := ?_) rfl (by kernel_rfl) (by kernel_rfl) (by kernel_rfl) (fun _ _ _ h => h) (Or.inl ⟨by rfl, ?_⟩) hHeld ?_
            rotate_left
            · (intro W hSw; (try dsimp only at hSw); go_simp; all_goals (with_reducible rfl))
            simp only [List.getElem_toArray, List.getElem_cons_zero, List.getElem_cons_succ, Act.put, List.setIfInBounds_toArray, List.set_cons_zero, List.set_cons_succ]
            refine wpAnyH_take (i := 9) (v := ?_) rfl (by kernel_rfl) (by kernel_rfl) (by kernel_rfl) (fun _ _ _ h => h) (Or.inl ⟨by rfl, ?_⟩) hHeld ?_
            rotate_left
            · (intro W hSw; (try dsimp only at hSw); go_simp; all_goals (with_reducible rfl))
            simp only [List.getElem_toArray, List.getElem_cons_zero, List.getElem_cons_succ, Act.put, List.setIfInBounds_toArray, List.set_cons_zero, List.set_cons_succ]
            refine wpAnyH_ready (rs := [10]) (by kernel_rfl) (by simp) ?_
            refine AllReadyH.cons rfl (fun K hK => ?_) AllReadyH.nil
            · simp only [List.getElem_toArray, List.getElem_cons_zero, List.getElem_cons_succ]
              go_simp
              have zA := LV.size (LV.s L)
              have ltA := VB.lt
              refine ent1 _ _ _ (Q := fun V => K _ V) ?_
              intro y86 hb hs VA
              clear hs
              replace L := (LV.call hb (LV.s L)).2.2.out
              replace VB := Va.after hb VB
              refine hK.out _ _ ⟨L.1.cell, L.2.1.cell⟩ (fun hHeld => ?_)
              clear hK K hb
              have ne : y85.heap.size ≠ xd.heap.size := by (first | (have h := ltA; omega) | (have h := ltB; omega))
              have d0 := VA.cellAt 0
              have d1 := VA.cellAt 1
              have d2 := VA.cellAt 2
              simp at d0 d1 d2
              have f0 := VA.frozen 0
              have f1 := VA.frozen 1
              have f2 := VA.frozen 2
              refine wpAnyH_ready (rs := [12]) (by kernel_rfl) (by simp) ?_
              refine AllReadyH.cons rfl (fun K hK => ?_) AllReadyH.nil
              simp only [List.getElem_toArray, List.getElem_cons_zero, List.getElem_cons_succ]
              go_simp
              refine st3 VA (.int .u64 u0) (.int .u64 v0) (.bool p) (Q := fun V => K _ V) ?_
              intro y87 VA' oth bel
              clear d0 d1 d2 f0 f1 f2
              replace L : LV w a la ca b lb cb y87 := ⟨oth _ _ _ (by omega) L.1, oth _ _ _ (by omega) L.2.1, oth _ _ _ (by omega) L.2.2.1, oth _ _ _ (by omega) L.2.2.2.1, bel _ _ (by omega) L.2.2.2.2⟩
              replace VB := oth _ _ _ (by omega) VB
              replace VA := VA'
              clear oth bel
              refine hK.out _ _ ⟨L.1.cell, L.2.1.cell⟩ (fun hHeld => ?_)
              clear hK K
              have d0 := VB.cellAt 0
              have d1 := VB.cellAt 1
              have d2 := VB.cellAt 2
              simp at d0 d1 d2
              have f0 := VB.frozen 0
              have f1 := VB.frozen 1
              have f2 := VB.frozen 2
              refine wpAnyH_ready (rs := [13]) (by kernel_rfl) (by simp) ?_
              refine AllReadyH.cons rfl (fun K hK => ?_) AllReadyH.nil
              simp only [List.getElem_toArray, List.getElem_cons_zero, List.getElem_cons_succ]
              go_simp
              refine st3 VB (.int .u64 u1) (.int .u64 v1) (.bool o) (Q := fun V => K _ V) ?_
              intro y88 VB' oth bel
              clear d0 d1 d2 f0 f1 f2
              replace L : LV w a la ca b lb cb y88 := ⟨oth _ _ _ (by omega) L.1, oth _ _ _ (by omega) L.2.1, oth _ _ _ (by omega) L.2.2.1, oth _ _ _ (by omega) L.2.2.2.1, bel _ _ (by omega) L.2.2.2.2⟩
              replace VA := oth _ _ _ (by omega) VA
              replace VB := VB'
              clear oth bel
              refine hK.out _ _ ⟨L.1.cell, L.2.1.cell⟩ (fun hHeld => ?_)
              clear hK K
              refine wpAnyH_done (by kernel_rfl) ?_ _
              refine NoPanic.normal ?_
              go_wp2_with fail
              go_meet
              exact ⟨_, _, u0, v0, p, u1, v1, o, rfl, rfl, Mb.of VA, Mb.of VB, L, ⟨by omega, by omega⟩, HW⟩
          · simp only [List.getElem_toArray, List.getElem_cons_zero, List.getElem_cons_succ]
            go_simp
            have zA := LV.size (LV.s L)
            have ltA := VB.lt
            refine ent1 _ _ _ (Q := fun V => K _ V) ?_
            intro y89 hb hs VA
            clear hs
            replace L := (LV.call hb (LV.s L)).2.2.out
            replace VB := Va.after hb VB
            refine hK.out _ _ ⟨L.1.cell, L.2.1.cell⟩ (fun hHeld => ?_)
            clear hK K hb
            refine wpAnyH_ready (rs := [6]) (by kernel_rfl) (by simp) ?_
            refine AllReadyH.cons rfl (fun K hK => ?_) AllReadyH.nil
            · simp only [List.getElem_toArray, List.getElem_cons_zero, List.getElem_cons_succ]
              go_simp
              refine (CF.out _).mono ?_
              rintro e y90 ⟨u0, v0, p, u1, v1, o, rfl, hu0, hv0, hu1, hv1, hSu, hb⟩
              have HW : Hid (Word u0 ∧ Word v0 ∧ Word u1 ∧ Word v1 ∧ (v0 ≠ 0 → p = !o ∧ Sure X Y u0 v0 u1 v1 o)) := ⟨hu0, hv0, hu1, hv1, hSu⟩
              clear hu0 hv0 hu1 hv1 hSu
              replace L := (LV.call hb (LV.s L)).2.2.out
              replace VA := Va.after hb VA
              replace VB := Va.after hb VB
              try go_wp2_with fail
              refine hK.out _ _ ⟨L.1.cell, L.2.1.cell⟩ (fun hHeld => ?_)
              clear hK K hb
              refine wpAnyH_take (i := 7) (v := ?_) rfl (by kernel_rfl) (by kernel_rfl) (by kernel_rfl) (fun _ _ _ h => h) (Or.inl ⟨by rfl, ?_⟩) hHeld ?_
              rotate_left
              · (intro W hSw; (try dsimp only at hSw); go_simp; all_goals (with_reducible rfl))
              simp only [List.getElem_toArray, List.getElem_cons_zero, List.getElem_cons_succ, Act.put, List.setIfInBounds_toArray, List.set_cons_zero, List.set_cons_succ]
              refine wpAnyH_take (i := 8) (v := ?_) rfl (by kernel_rfl) (by kernel_rfl) (by kernel_rfl) (fun _ _ _ h => h) (Or.inl ⟨by rfl, ?_⟩) hHeld ?_
              rotate_left
              · (intro W hSw; (try dsimp only at hSw); go_simp; all_goals (with_reducible rfl))
              simp only [List.getElem_toArray, List.getElem_cons_zero, List.getElem_cons_succ, Act.put, List.setIfInBounds_toArray, List.set_cons_zero, List.set_cons_succ]
              refine wpAnyH_take (i := 9) (v := ?_) rfl (by kernel_rfl) (by kernel_rfl) (by kernel_rfl) (fun _ _ _ h => h) (Or.inl ⟨by rfl, ?_⟩) hHeld ?_
              rotate_left
              · (intro W hSw; (try dsimp only at hSw); go_simp; all_goals (with_reducible rfl))
              simp only [List.getElem_toArray, List.getElem_cons_zero, List.getElem_cons_succ, Act.put, List.setIfInBounds_toArray, List.set_cons_zero, List.set_cons_succ]
              have ne : y84.heap.size ≠ xd.heap.size := by (first | (have h := ltA; omega) | (have h := ltB; omega))
              have d0 := VA.cellAt 0
              have d1 := VA.cellAt 1
              have d2 := VA.cellAt 2
              simp at d0 d1 d2
              have f0 := VA.frozen 0
              have f1 := VA.frozen 1
              have f2 := VA.frozen 2
              refine wpAnyH_ready (rs := [12]) (by kernel_rfl) (by simp) ?_
              refine AllReadyH.cons rfl (fun K hK => ?_) AllReadyH.nil
              simp only [List.getElem_toArray, List.getElem_cons_zero, List.getElem_cons_succ]
              go_simp
              refine st3 VA (.int .u64 u0) (.int .u64 v0) (.bool p) (Q := fun V => K _ V) ?_
              intro y91 VA' oth bel
              clear d0 d1 d2 f0 f1 f2
              replace L : LV w a la ca b lb cb y91 := ⟨oth _ _ _ (by omega) L.1, oth _ _ _ (by omega) L.2.1, oth _ _ _ (by omega) L.2.2.1, oth _ _ _ (by omega) L.2.2.2.1, bel _ _ (by omega) L.2.2.2.2⟩
              replace VB := oth _ _ _ (by omega) VB
              replace VA := VA'
              clear oth bel
              refine hK.out _ _ ⟨L.1.cell, L.2.1.cell⟩ (fun hHeld => ?_)
              clear hK K
              have d0 := VB.cellAt 0
              have d1 := VB.cellAt 1
              have d2 := VB.cellAt 2
              simp at d0 d1 d2
              have f0 := VB.frozen 0
              have f1 := VB.frozen 1
              have f2 := VB.frozen 2
              refine wpAnyH_ready (rs := [13]) (by kernel_rfl) (by simp) ?_
              refine AllReadyH.cons rfl (fun K hK => ?_) AllReadyH.nil
              simp only [List.getElem_toArray, List.getElem_cons_zero, List.getElem_cons_succ]
              go_simp
              refine st3 VB (.int .u64 u1) (.int .u64 v1) (.bool o) (Q := fun V => K _ V) ?_
              intro y92 VB' oth bel
              clear d0 d1 d2 f0 f1 f2
              replace L : LV w a la ca b lb cb y92 := ⟨oth _ _ _ (by omega) L.1, oth _ _ _ (by omega) L.2.1, oth _ _ _ (by omega) L.2.2.1, oth _ _ _ (by omega) L.2.2.2.1, bel _ _ (by omega) L.2.2.2.2⟩
              replace VA := oth _ _ _ (by omega) VA
              replace VB := VB'
              clear oth bel
              refine hK.out _ _ ⟨L.1.cell, L.2.1.cell⟩ (fun hHeld => ?_)
              clear hK K
              refine wpAnyH_done (by kernel_rfl) ?_ _
              refine NoPanic.normal ?_
              go_wp2_with fail
              go_meet
              exact ⟨_, _, u0, v0, p, u1, v1, o, rfl, rfl, Mb.of VA, Mb.of VB, L, ⟨by omega, by omega⟩, HW⟩
        · simp only [List.getElem_toArray, List.getElem_cons_zero, List.getElem_cons_succ]
          go_simp
          have zA := LV.size (LV.s L)
          have ltA := VB.lt
          refine ent1 _ _ _ (Q := fun V => K _ V) ?_
          intro y93 hb hs VA
          clear hs
          replace L := (LV.call hb (LV.s L)).2.2.out
          replace VB := Va.after hb VB
          refine hK.out _ _ ⟨L.1.cell, L.2.1.cell⟩ (fun hHeld => ?_)
          clear hK K hb
          refine wpAnyH_ready (rs := [5]) (by kernel_rfl) (by simp) ?_
          refine AllReadyH.cons rfl (fun K hK => ?_) AllReadyH.nil
          · simp only [List.getElem_toArray, List.getElem_cons_zero, List.getElem_cons_succ]
            go_simp
            refine (CB.out _ L.2.2.2.2).mono ?_
            rintro e y94 ⟨rfl, hb⟩
            replace L := (LV.call hb (LV.s L)).2.2.out
            replace VA := Va.after hb VA
            replace VB := Va.after hb VB
            try go_wp2_with fail
            refine hK.out _ _ ⟨L.1.cell, L.2.1.cell⟩ (fun hHeld => ?_)
            clear hK K hb
            refine wpAnyH_ready (rs := [6]) (by kernel_rfl) (by simp) ?_
            refine AllReadyH.cons rfl (fun K hK => ?_) AllReadyH.nil
            · simp only [List.getElem_toArray, List.getElem_cons_zero, List.getElem_cons_succ]
              go_simp
              refine (CF.out _).mono ?_
              rintro e y95 ⟨u0, v0, p, u1, v1, o, rfl, hu0, hv0, hu1, hv1, hSu, hb⟩
              have HW : Hid (Word u0 ∧ Word v0 ∧ Word u1 ∧ Word v1 ∧ (v0 ≠ 0 → p = !o ∧ Sure X Y u0 v0 u1 v1 o)) := ⟨hu0, hv0, hu1, hv1, hSu⟩
              clear hu0 hv0 hu1 hv1 hSu
              replace L := (LV.call hb (LV.s L)).2.2.out
              replace VA := Va.after hb VA
              replace VB := Va.after hb VB
              try go_wp2_with fail
              refine hK.out _ _ ⟨L.1.cell, L.2.1.cell⟩ (fun hHeld => ?_)
              clear hK K hb
              refine wpAnyH_take (i := 7) (v := ?_) rfl (by kernel_rfl) (by kernel_rfl) (by kernel_rfl) (fun _ _ _ h => h) (Or.inl ⟨by rfl, ?_⟩) hHeld ?_
              rotate_left
              · (intro W hSw; (try dsimp only at hSw); go_simp; all_goals (with_reducible rfl))
              simp only [List.getElem_toArray, List.getElem_cons_zero, List.getElem_cons_succ, Act.put, List.setIfInBounds_toArray, List.set_cons_zero, List.set_cons_succ]
              refine wpAnyH_take (i := 8) (v := ?_) rfl (by kernel_rfl) (by kernel_rfl) (by kernel_rfl) (fun _ _ _ h => h) (Or.inl ⟨by rfl, ?_⟩) hHeld ?_
              rotate_left
              · (intro W hSw; (try dsimp only at hSw); go_simp; all_goals (with_reducible rfl))
              simp only [List.getElem_toArray, List.getElem_cons_zero, List.getElem_cons_succ, Act.put, List.setIfInBounds_toArray, List.set_cons_zero, List.set_cons_succ]
              refine wpAnyH_take (i := 9) (v := ?_) rfl (by kernel_rfl) (by kernel_rfl) (by kernel_rfl) (fun _ _ _ h => h) (Or.inl ⟨by rfl, ?_⟩) hHeld ?_
              rotate_left
              · (intro W hSw; (try dsimp only at hSw); go_simp; all_goals (with_reducible rfl))
              simp only [List.getElem_toArray, List.getElem_cons_zero, List.getElem_cons_succ, Act.put, List.setIfInBounds_toArray, List.set_cons_zero, List.set_cons_succ]
              have ne : y83.heap.size ≠ xd.heap.size := by (first | (have h := ltA; omega) | (have h := ltB; omega))
              have d0 := VA.cellAt 0
              have d1 := VA.cellAt 1
              have d2 := VA.cellAt 2
              simp at d0 d1 d2
              have f0 := VA.frozen 0
              have f1 := VA.frozen 1
              have f2 := VA.frozen 2
              refine wpAnyH_ready (rs := [12]) (by kernel_rfl) (by simp) ?_
              refine AllReadyH.cons rfl (fun K hK => ?_) AllReadyH.nil
              simp only [List.getElem_toArray, List.getElem_cons_zero, List.getElem_cons_succ]
              go_simp
              refine st3 VA (.int .u64 u0) (.int .u64 v0) (.bool p) (Q := fun V => K _ V) ?_
              intro y96 VA' oth bel
              clear d0 d1 d2 f0 f1 f2
              replace L : LV w a la ca b lb cb y96 := ⟨oth _ _ _ (by omega) L.1, oth _ _ _ (by omega) L.2.1, oth _ _ _ (by omega) L.2.2.1, oth _ _ _ (by omega) L.2.2.2.1, bel _ _ (by omega) L.2.2.2.2⟩
              replace VB := oth _ _ _ (by omega) VB
              replace VA := VA'
              clear oth bel
              refine hK.out _ _ ⟨L.1.cell, L.2.1.cell⟩ (fun hHeld => ?_)
              clear hK K
              have d0 := VB.cellAt 0
              have d1 := VB.cellAt 1
              have d2 := VB.cellAt 2
              simp at d0 d1 d2
              have f0 := VB.frozen 0
              have f1 := VB.frozen 1
              have f2 := VB.frozen 2
              refine wpAnyH_ready (rs := [13]) (by kernel_rfl) (by simp) ?_
              refine AllReadyH.cons rfl (fun K hK => ?_) AllReadyH.nil
              simp only [List.getElem_toArray, List.getElem_cons_zero, List.getElem_cons_succ]
              go_simp
              refine st3 VB (.int .u64 u1) (.int .u64 v1) (.bool o) (Q := fun V => K _ V) ?_
              intro y97 VB' oth bel
              clear d0 d1 d2 f0 f1 f2
              replace L : LV w a la ca b lb cb y97 := ⟨oth _ _ _ (by omega) L.1, oth _ _ _ (by omega) L.2.1, oth _ _ _ (by omega) L.2.2.1, oth _ _ _ (by omega) L.2.2.2.1, bel _ _ (by omega) L.2.2.2.2⟩
              replace VA := oth _ _ _ (by omega) VA
              replace VB := VB'
              clear oth bel
              refine hK.out _ _ ⟨L.1.cell, L.2.1.cell⟩ (fun hHeld => ?_)
              clear hK K
              refine wpAnyH_done (by kernel_rfl) ?_ _
              refine NoPanic.normal ?_
              go_wp2_with fail
              go_meet
              exact ⟨_, _, u0, v0, p, u1, v1, o, rfl, rfl, Mb.of VA, Mb.of VB, L, ⟨by omega, by omega⟩, HW⟩
      · simp only [List.getElem_toArray, List.getElem_cons_zero, List.getElem_cons_succ]
        go_simp
        have zA := LV.size (LV.s L)
        have ltA := VB.lt
        refine ent1 _ _ _ (Q := fun V => K _ V) ?_
        intro y98 hb hs VA
        clear hs
        replace L := (LV.call hb (LV.s L)).2.2.out
        replace VB := Va.after hb VB
        refine hK.out _ _ ⟨L.1.cell, L.2.1.cell⟩ (fun hHeld => ?_)
        clear hK K hb
        refine wpAnyH_ready (rs := [2]) (by kernel_rfl) (by simp) ?_
        refine AllReadyH.cons rfl (fun K hK => ?_) AllReadyH.nil
        · simp only [List.getElem_toArray, List.getElem_cons_zero, List.getElem_cons_succ]
          go_simp
          refine (CA.out _ L.2.2.2.2).mono ?_
          rintro e y99 ⟨rfl, hb⟩
          replace L := (LV.call hb (LV.s L)).2.2.out
          replace VA := Va.after hb VA
          replace VB := Va.after hb VB
          try go_wp2_with fail
          refine hK.out _ _ ⟨L.1.cell, L.2.1.cell⟩ (fun hHeld => ?_)
          clear hK K hb
          refine wpAnyH_ready (rs := [5]) (by kernel_rfl) (by simp) ?_
          refine AllReadyH.cons rfl (fun K hK => ?_) AllReadyH.nil
          · simp only [List.getElem_toArray, List.getElem_cons_zero, List.getElem_cons_succ]
            go_simp
            refine (CB.out _ L.2.2.2.2).mono ?_
            rintro e y100 ⟨rfl, hb⟩
            replace L := (LV.call hb (LV.s L)).2.2.out
            replace VA := Va.after hb VA
            replace VB := Va.after hb VB
            try go_wp2_with fail
            refine hK.out _ _ ⟨L.1.cell, L.2.1.cell⟩ (fun hHeld => ?_)
            clear hK K hb
            refine wpAnyH_ready (rs := [6]) (by kernel_rfl) (by simp) ?_
            refine AllReadyH.cons rfl (fun K hK => ?_) AllReadyH.nil
            · simp only [List.getElem_toArray, List.getElem_cons_zero, List.getElem_cons_succ]
              go_simp
              refine (CF.out _).mono ?_
              rintro e y101 ⟨u0, v0, p, u1, v1, o, rfl, hu0, hv0, hu1, hv1, hSu, hb⟩
              have HW : Hid (Word u0 ∧ Word v0 ∧ Word u1 ∧ Word v1 ∧ (v0 ≠ 0 → p = !o ∧ Sure X Y u0 v0 u1 v1 o)) := ⟨hu0, hv0, hu1, hv1, hSu⟩
              clear hu0 hv0 hu1 hv1 hSu
              replace L := (LV.call hb (LV.s L)).2.2.out
              replace VA := Va.after hb VA
              replace VB := Va.after hb VB
              try go_wp2_with fail
              refine hK.out _ _ ⟨L.1.cell, L.2.1.cell⟩ (fun hHeld => ?_)
              clear hK K hb
              refine wpAnyH_take (i := 7) (v := ?_) rfl (by kernel_rfl) (by kernel_rfl) (by kernel_rfl) (fun _ _ _ h => h) (Or.inl ⟨by rfl, ?_⟩) hHeld ?_
              rotate_left
              · (intro W hSw; (try dsimp only at hSw); go_simp; all_goals (with_reducible rfl))
              simp only [List.getElem_toArray, List.getElem_cons_zero, List.getElem_cons_succ, Act.put, List.setIfInBounds_toArray, List.set_cons_zero, List.set_cons_succ]
              refine wpAnyH_take (i := 8) (v := ?_) rfl (by kernel_rfl) (by kernel_rfl) (by kernel_rfl) (fun _ _ _ h => h) (Or.inl ⟨by rfl, ?_⟩) hHeld ?_
              rotate_left
              · (intro W hSw; (try dsimp only at hSw); go_simp; all_goals (with_reducible rfl))
              simp only [List.getElem_toArray, List.getElem_cons_zero, List.getElem_cons_succ, Act.put, List.setIfInBounds_toArray, List.set_cons_zero, List.set_cons_succ]
              refine wpAnyH_take (i := 9) (v := ?_) rfl (by kernel_rfl) (by kernel_rfl) (by kernel_rfl) (fun _ _ _ h => h) (Or.inl ⟨by rfl, ?_⟩) hHeld ?_
              rotate_left
              · (intro W hSw; (try dsimp only at hSw); go_simp; all_goals (with_reducible rfl))
              simp only [List.getElem_toArray, List.getElem_cons_zero, List.getElem_cons_succ, Act.put, List.setIfInBounds_toArray, List.set_cons_zero, List.set_cons_succ]
              have ne : y82.heap.size ≠ xd.heap.size := by (first | (have h := ltA; omega) | (have h := ltB; omega))
              have d0 := VA.cellAt 0
              have d1 := VA.cellAt 1
              have d2 := VA.cellAt 2
              simp at d0 d1 d2
              have f0 := VA.frozen 0
              have f1 := VA.frozen 1
              have f2 := VA.frozen 2
              refine wpAnyH_ready (rs := [12]) (by kernel_rfl) (by simp) ?_
              refine AllReadyH.cons rfl (fun K hK => ?_) AllReadyH.nil
              simp only [List.getElem_toArray, List.getElem_cons_zero, List.getElem_cons_succ]
              go_simp
              refine st3 VA (.int .u64 u0) (.int .u64 v0) (.bool p) (Q := fun V => K _ V) ?_
              intro y102 VA' oth bel
              clear d0 d1 d2 f0 f1 f2
              replace L : LV w a la ca b lb cb y102 := ⟨oth _ _ _ (by omega) L.1, oth _ _ _ (by omega) L.2.1, oth _ _ _ (by omega) L.2.2.1, oth _ _ _ (by omega) L.2.2.2.1, bel _ _ (by omega) L.2.2.2.2⟩
              replace VB := oth _ _ _ (by omega) VB
              replace VA := VA'
              clear oth bel
              refine hK.out _ _ ⟨L.1.cell, L.2.1.cell⟩ (fun hHeld => ?_)
              clear hK K
              have d0 := VB.cellAt 0
              have d1 := VB.cellAt 1
              have d2 := VB.cellAt 2
              simp at d0 d1 d2
              have f0 := VB.frozen 0
              have f1 := VB.frozen 1
              have f2 := VB.frozen 2
              refine wpAnyH_ready (rs := [13]) (by kernel_rfl) (by simp) ?_
              refine AllReadyH.cons rfl (fun K hK => ?_) AllReadyH.nil
              simp only [List.getElem_toArray, List.getElem_cons_zero, List.getElem_cons_succ]
              go_simp
              refine st3 VB (.int .u64 u1) (.int .u64 v1) (.bool o) (Q := fun V => K _ V) ?_
              intro y103 VB' oth bel
              clear d0 d1 d2 f0 f1 f2
              replace L : LV w a la ca b lb cb y103 := ⟨oth _ _ _ (by omega) L.1, oth _ _ _ (by omega) L.2.1, oth _ _ _ (by omega) L.2.2.1, oth _ _ _ (by omega) L.2.2.2.1, bel _ _ (by omega) L.2.2.2.2⟩
              replace VA := oth _ _ _ (by omega) VA
              replace VB := VB'
              clear oth bel
              refine hK.out _ _ ⟨L.1.cell, L.2.1.cell⟩ (fun hHeld => ?_)
              clear hK K
              refine wpAnyH_done (by kernel_rfl) ?_ _
              refine NoPanic.normal ?_
              go_wp2_with fail
              go_meet
              exact ⟨_, _, u0, v0, p, u1, v1, o, rfl, rfl, Mb.of VA, Mb.of VB, L, ⟨by omega, by omega⟩, HW⟩
  case rest =>
    obtain ⟨b7, b8, u0, v0, p, u1, v1, o, rfl, rfl, M7, M8, L1, hbb, hW⟩ := hcut
    clear L0 c0 c1 hI hI0 z0
    have k2 := M7.out.2.1
    by_cases hv : v0 = 0
    · rw [hv] at k2
      have c0 := L1.out.1.cell
      have c1 := L1.out.2.1.cell
      have hyn : num ys ≠ 0 := by
        intro e
        have h1 := (num_eq_zero HB.out.limbs).1 e
        have h2 := HB.out.2.1
        have h3 := HL.out.2.2.2
        omega
      clear M8 hW hbb hv
      go_wp2_with fail
      refine (ndiv_ok a b la ca lb cb xs ys wc (Nt.after L1.out.2.2.2.2 HA.out) (Nt.after L1.out.2.2.2.2 HB.out) hyn).mono ?_
      rintro e x3 ⟨aq, lq, kq, ar, lr, kr, zq, zr, rfl, hq, hr, e1, e2, hb3⟩
      have L2 := (LV.call hb3 (LV.s L1.out)).2.2.out
      have hr0 := hr.nonneg
      have HG : Hid (Int.gcd (num ys) (num zr) = Int.gcd (num xs) (num ys)) := by
        have em : num xs % num ys = num zr := by
          rw [e1, Int.add_comm, Int.add_mul_emod_self_right]
          exact Int.emod_eq_of_lt hr0 e2
        show _ = _
        rw [gcd_mod (num xs) (num ys), em]
      have HE2 : Hid (num zr < num ys) := e2
      clear k2 M7 L1 c0 c1 e1 e2 hr0
      have c1 := L2.2.1.cell
      have c2 := L2.2.2.1.cell
      have c3 := L2.2.2.2.1.cell
      have f2 := L2.2.2.1.frozen 0
      have f3 := L2.2.2.2.1.frozen 0
      go_wp2_with fail
      refine ent2 x3 _ _ _ _ (Q := fun W => Code.wp Tryz.prog _ _ _ W) ?_
      intro x4 hb4 hs4 Vq Vr
      replace hr := Nt.after hb4 hr
      have L3 := (LV.call hb4 (LV.s L2)).2.2.out
      have hyw := Nt.after L3.2.2.2.2 HB.out
      have z4 : w.heap.size + 4 ≤ x3.heap.size := LV.size (LV.s L2)
      clear c1 c2 c3 f2 f3 L2 hb4 hs4 Vq hq hb3
      have c1 := L3.2.1.cell
      have c2 := L3.2.2.1.cell
      have c3 := L3.2.2.2.1.cell
      have f2 := L3.2.2.1.frozen 0
      have f3 := L3.2.2.2.1.frozen 0
      have cr := Vr.cell
      obtain ⟨T2v, T3v⟩ := two_vars L3.2.2.1 L3.2.2.2.1 (show w.heap.size + 1 + 1 ≠ w.heap.size + 1 + 1 + 1 by omega) (.slice b lb cb) (.slice ar lr kr)
      have N1 := hyw.store2 L3.2.2.1 L3.2.2.2.1 (show w.heap.size + 1 + 1 ≠ w.heap.size + 1 + 1 + 1 by omega) (.slice b lb cb) (.slice ar lr kr)
      have N2 := hr.store2 L3.2.2.1 L3.2.2.2.1 (show w.heap.size + 1 + 1 ≠ w.heap.size + 1 + 1 + 1 by omega) (.slice b lb cb) (.slice ar lr kr)
      have BF := below_two L3.2.2.2.2 (b := w.heap.size + 1 + 1) (c := w.heap.size + 1 + 1 + 1) (by omega) (by omega) (.slice b lb cb) (.slice ar lr kr)
      have n4 : x3.heap.size + 1 ≠ w.heap.size + 1 + 1 := by omega
      have n5 : x3.heap.size + 1 ≠ w.heap.size + 1 + 1 + 1 := by omega
      clear Vr hr hyw
      have HT2 : Hid _ := T2v
      have HT3 : Hid _ := T3v
      have HN1 : Hid _ := N1
      have HN2 : Hid _ := N2
      have HBF : Hid _ := BF
      clear T2v T3v N1 N2 BF L3
      go_region
      all_goals
        go_wp2_with fail
        refine bodyPost_ret (results_cc rfl rfl HT2.out rfl HT3.out) rfl ?_
        exact ⟨_, _, _, ys, _, _, _, zr, rfl, HN1.out, HN2.out, Int.le_of_lt HE2.out, HL.out.1, HE2.out, HG.out, by first | exact HBF.out | exact HBF.out.drew⟩
    · have g1 : (v0 == 0) = false := by simpa using hv
      obtain ⟨rfl, hSu⟩ := hW.out.2.2.2.2 hv
      have hSu2 : Sure (num xs / 2 ^ d) (num ys / 2 ^ d) u0 v0 u1 v1 o := by rw [HX.out, HY.out]; exact hSu
      obtain ⟨P, Q, eP, eQ, q0, qp, pB, eg⟩ := later_sure hSu2 hv
      have hBlt := HB.out.lt
      have HPL : Hid (∀ cs, Limbs cs → num cs = P → usedN cs ≤ 4096) := fun cs h1 h2 => used_of_lt h1 (by omega)
      have HQL : Hid (∀ cs, Limbs cs → num cs = Q → usedN cs ≤ 4096) := fun cs h1 h2 => used_of_lt h1 (by omega)
      have HEP : Hid (sg (!o) * (u0 * num xs - v0 * num ys) = P) := eP
      have HEQ : Hid (sg o * (u1 * num xs - v1 * num ys) = Q) := eQ
      have HPQ : Hid (0 ≤ Q ∧ Q < P ∧ P ≤ num ys ∧ Int.gcd P Q = Int.gcd (num xs) (num ys)) := ⟨q0, qp, pB, eg⟩
      clear hBlt eP eQ q0 qp pB eg hSu hSu2 hv
      have hb7 := hbb.out.1
      have hb8 := hbb.out.2
      have hI0 := E8.mk L1.out M7.out M8.out
      have L2 := (LV.dr (LV.s L1.out)).2.2.out
      have hI := E8.mk (W := wc.drew) L2 M7.out M8.out
      go_wp2_with fail
      go_region_held3 (fun W => W.cell? ⟨w.heap.size, 0, none⟩ = some (.slice a la ca) ∧ W.cell? ⟨w.heap.size + 1, 0, none⟩ = some (.slice b lb cb) ∧ W.cell? ⟨b7, 0, none⟩ = some (.int .u64 u0) ∧ W.cell? ⟨b7, 1, none⟩ = some (.int .u64 v0) ∧ W.cell? ⟨b7, 2, none⟩ = some (.bool (!o)) ∧ W.cell? ⟨b8, 0, none⟩ = some (.int .u64 u1) ∧ W.cell? ⟨b8, 1, none⟩ = some (.int .u64 v1) ∧ W.cell? ⟨b8, 2, none⟩ = some (.bool o))
        (first | (with_reducible assumption) | (refine E8.st (by first | (with_reducible assumption) | (refine E8.st (by with_reducible assumption) (by omega) (by omega) (by omega))) (by omega) (by omega) (by omega)))
        (first
          | (go_at_call_of 180 (Value.int .u64 u0); refine (from_any u0 v0 (!o) a b la ca lb cb xs ys wc.drew hW.out.1 hW.out.2.1 (Nt.after L2.2.2.2.2 HA.out) (Nt.after L2.2.2.2.2 HB.out) P HEP.out (by have := HPQ.out; omega) HPL.out).mono ?_; rintro e y1 ⟨ap, lp, kp, zp, rfl, hp, np, b1⟩; have L3 := (LV.call b1 (LV.s L2)).2.2.out; have M73 := Mb.after (W := wc.drew) b1 M7.out; have M83 := Mb.after (W := wc.drew) b1 M8.out; have hY1 := E8.mk L3 M73 M83)
          | (go_at_call_of 180 (Value.int .u64 u1); refine (from_any u1 v1 o a b la ca lb cb xs ys y1 hW.out.2.2.1 hW.out.2.2.2.1 (Nt.after L3.2.2.2.2 HA.out) (Nt.after L3.2.2.2.2 HB.out) Q HEQ.out HPQ.out.1 HQL.out).mono ?_; rintro e y2 ⟨aq, lq, kq, zq, rfl, hq, nq1, b2⟩; have L4 := (LV.call b2 (LV.s L3)).2.2.out; have M74 := Mb.after b2 M73; have M84 := Mb.after b2 M83; have hY2 := E8.mk L4 M74 M84; have hp2 := Nt.after b2 hp; have c2 := L4.2.2.1.cell; have c3 := L4.2.2.2.1.cell; have f2 := L4.2.2.1.frozen 0; have f3 := L4.2.2.2.1.frozen 0))
      all_goals
        have hne : w.heap.size + 1 + 1 ≠ w.heap.size + 1 + 1 + 1 := by omega
        obtain ⟨T2v, T3v⟩ := two_vars L4.2.2.1 L4.2.2.2.1 hne (.slice ap lp kp) (.slice aq lq kq)
        have N1 := hp2.store2 L4.2.2.1 L4.2.2.2.1 hne (.slice ap lp kp) (.slice aq lq kq)
        have N2 := hq.store2 L4.2.2.1 L4.2.2.2.1 hne (.slice ap lp kp) (.slice aq lq kq)
        have BF := below_two L4.2.2.2.2 (b := w.heap.size + 1 + 1) (c := w.heap.size + 1 + 1 + 1) (by omega) (by omega) (.slice ap lp kp) (.slice aq lq kq)
        go_wp2_with fail
        refine bodyPost_ret (results_cc rfl rfl T2v rfl T3v) rfl ?_
        have h5 := HPQ.out
        have h6 := HL.out.1
        exact ⟨_, _, _, zp, _, _, _, zq, rfl, N1, N2, by rw [np, nq1]; omega, by rw [np]; omega, by rw [nq1]; omega, by rw [np, nq1]; exact h5.2.2.2, BF⟩
end Go.Proofs.YtblafbbnplfpjaaGreatDoor

namespace Go.Proofs.YtblafbbnplfpjaaGreatDoor
open Go.RowKit Go.Shelf

theorem later_ok (M : Int) : LaterOk M := fun a la ca xs b lb cb ys W ha hb hle _ hl => later_cut a la ca xs b lb cb ys W ha hb hle hl
theorem ngcd_any (a b : Option Addr) (la ca lb cb : Nat) (xs ys : List Int) (w : World) (ha : Nt w a la ca xs) (hb : Nt w b lb cb ys) :
    Calls Tryz.prog 134 #[.agg #[.slice a la ca], .agg #[.slice b lb cb]] w fun e w' => ∃ a' l' c' zs, e = .returned (.agg #[.slice a' l' c']) ∧ Nt w' a' l' c' zs ∧ num zs = (Int.gcd (num xs) (num ys) : Nat) ∧ Below w.heap.size w w' :=
  ngcd_of (max (num xs) (num ys)) (later_ok _) a b la ca lb cb xs ys w ha hb (by omega) (by omega)
end Go.Proofs.YtblafbbnplfpjaaGreatDoor
