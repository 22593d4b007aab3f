/-
  RealsWhole holds: whole numbers of at most 53 bits come back from their floats, a half more is refused, and any float is a whole number of 64 bits, beyond them, or none, just as it is told; at any int64 and any 64 bits; no condition.
-/
import Derived.Test.YtogabmggdcefaabGreatRe9
import Derived.Test.YtogabmggdcefaabGreatRf4
import Derived.Test.YtogabmggdcefaabGreatRt13p
import Derived.Test.YtogabmggdcefaabGreatRt14
import Derived.Test.YtogabmggdcefaabGreatRows
import Derived.ProofKit
import Derived.OpenShut
import Derived.ShutString
import Derived.ChangeOld
import Derived.SizedLaws
namespace Go.Proofs.YtogabmggdcefaabGreat
open Go.RowKit Go.Shelf
set_option linter.unusedVariables false

/-- A sum that is a float. -/
theorem add_exact {x y r : Nat} (hx : x < 18446744073709551616) (hxr : x % 9223372036854775808 < 9218868437227405312) (hy : y < 18446744073709551616) (hyr : y % 9223372036854775808 < 9218868437227405312) (hr : r < 9218868437227405312) (h0 : fz x + fz y ≠ 0) (h : (fz x + fz y).natAbs = fi r) :
    Ieee.double.add x y = some (wd (decide (fz x + fz y < 0)) r) := by
  obtain ⟨m, p, e, v⟩ := read_fin hx hxr
  obtain ⟨n, q, e2, v2⟩ := read_fin hy hyr
  unfold Ieee.Format.add
  rw [e, e2]
  simp only [Ieee.Datum.sum, Option.map_some]
  have b1 : min ((p : Int) - 1074) ((q : Int) - 1074) = ((min p q : Nat) : Int) - 1074 := by omega
  have b2 : ((p : Int) - 1074 - (((min p q : Nat) : Int) - 1074)).toNat + min p q = p := by omega
  have b3 : ((q : Int) - 1074 - (((min p q : Nat) : Int) - 1074)).toNat + min p q = q := by omega
  rw [b1]
  have t : (Ieee.signed (fsg x) m ((p : Int) - 1074 - (((min p q : Nat) : Int) - 1074)).toNat + Ieee.signed (fsg y) n ((q : Int) - 1074 - (((min p q : Nat) : Int) - 1074)).toNat) * (2 : Int) ^ (min p q) = fz x + fz y := by
    rw [Int.add_mul, signed_mul, signed_mul, b2, b3, v, v2, ← fz_sg hx, ← fz_sg hy]
  generalize Ieee.signed (fsg x) m ((p : Int) - 1074 - (((min p q : Nat) : Int) - 1074)).toNat + Ieee.signed (fsg y) n ((q : Int) - 1074 - (((min p q : Nat) : Int) - 1074)).toNat = T at *
  have zp : (0 : Int) < 2 ^ (min p q) := Int.pow_pos (by decide)
  have T0 : T ≠ 0 := by intro g; rw [g, Int.zero_mul] at t; exact h0 t.symm
  have hs : decide (T < 0) = decide (fz x + fz y < 0) := by
    rw [decide_eq_decide, ← t]
    constructor
    · intro g; exact Int.mul_neg_of_neg_of_pos g zp
    · intro g
      rcases Int.lt_or_le T 0 with c | c
      · exact c
      · have := Int.mul_nonneg c (Int.le_of_lt zp); omega
  rw [if_neg T0, hs]
  show some (Ieee.double.nearest _ _ _) = _
  rw [nearest_exact (decide (fz x + fz y < 0)) T.natAbs (min p q) r hr]
  · rfl
  · rw [← h, ← t, Int.natAbs_mul, ← pow_cast, Int.natAbs_natCast]
theorem fv_int {x : Nat} {k : Int} (h : fz x = k * K8) : fv x = (k : Rat) := by
  unfold fv
  rw [h]
  have e : (k : Rat) = mkRat k 1 := by rw [Rat.mkRat_one]
  rw [e, Rat.mkRat_eq_iff (Nat.ne_of_gt K8_pos) (by decide)]
  omega
theorem fv_whole {x : Nat} (hd : (fv x).den = 1) : fz x = (fv x).num * K8 := by
  have := fv_num x
  rw [hd] at this
  omega
/-- The float of a whole number that a float is. -/
theorem nearest_K8 (s : Bool) (m r : Nat) (hr : r < 9218868437227405312) (h : m * K8 = fi r) : Ieee.double.nearest s m 0 = wd s r := by
  rw [K8_eq] at h
  have q := nearest_exact s m 1074 r hr h
  have e5 : ((1074 : Nat) : Int) - 1074 = 0 := rfl
  rw [e5] at q
  exact q
theorem of_whole {x : Nat} {k : Int} (hx : x < 18446744073709551616) (hr : x % 9223372036854775808 < 9218868437227405312) (h : fz x = k * K8) : floatOfInt .f64 k = wd (decide (k < 0)) (x % 9223372036854775808) ∧ fz (floatOfInt .f64 k) = fz x ∧ Fr (floatOfInt .f64 k) := by
  have ha : k.natAbs * K8 = fi (x % 9223372036854775808) := by
    have e := congrArg Int.natAbs h
    rw [Int.natAbs_mul, Int.natAbs_natCast] at e
    rw [← e, fz_sg hx]
    cases fsg x <;> simp
  have e1 : floatOfInt .f64 k = wd (decide (k < 0)) (x % 9223372036854775808) := nearest_K8 _ _ _ hr ha
  rw [e1]
  refine ⟨rfl, ?_, wd_fr (by omega)⟩
  rw [wd_fz (by omega), h, ← ha, Int.natCast_mul]
  have hk : (0 : Int) < (K8 : Int) := by have := K8_pos; omega
  by_cases g : k < 0
  · rw [decide_eq_true g, if_pos rfl, ← Int.neg_mul]; congr 1; omega
  · rw [decide_eq_false g]
    simp only [Bool.false_eq_true, if_false]
    congr 1; omega
/-- A whole number of at most 53 bits as a float. -/
theorem small_f {s : Int} (h : s.natAbs < 4503599627370496) : ∃ W r, floatOfInt .f64 s = W ∧ W = wd (decide (s < 0)) r ∧ r < 9218868437227405312 ∧ fz W = s * K8 := by
  obtain ⟨r, a, b, c⟩ := of_int s (by omega)
  refine ⟨_, r, rfl, b, a, ?_⟩
  rw [← K8_eq] at c
  have e : floatOfInt .f64 s = wd (decide (s < 0)) r := b
  rw [e]; exact c
theorem wd_mod {s : Bool} {r : Nat} (h : r < 9218868437227405312) : wd s r < 18446744073709551616 ∧ wd s r % 9223372036854775808 = r := by
  unfold wd
  cases s
  · simp only [Bool.false_eq_true, if_false]; omega
  · simp only [if_true]; omega
/-- A half more is no whole number. -/
theorem pow_prod (a b c : Nat) (h : a + b = c) : 2 ^ a * 2 ^ b = 2 ^ c := by rw [← Nat.pow_add, h]
theorem half_P : ∃ P : Nat, K8 = 2 * P ∧ 0 < P ∧ fz 4602678819172646912 = (P : Int) ∧ ∀ m : Nat, m < 9007199254740992 → ∃ r, r < 9218868437227405312 ∧ fi r = m * P := by
  obtain ⟨P, hP⟩ := K8_has 1073
  have hk := K8_at 1 1073 rfl
  rw [← hP, Nat.pow_one] at hk
  have h0 : 0 < P := by have := K8_pos; omega
  refine ⟨P, hk, h0, ?_, fun m hm => ?_⟩
  · rw [fz_half]
    have := pow_prod 52 1021 1073 rfl
    rw [← hP] at this
    have e52 : (2 : Nat) ^ 52 = 4503599627370496 := by decide
    rw [e52] at this
    rw [this]
  · obtain ⟨r, a, b⟩ := fi_has m 1073 hm (by omega)
    rw [← hP] at b
    exact ⟨r, a, b⟩
theorem half_f {s : Int} (h : s.natAbs < 4503599627370496) {W : Nat} (hW : W < 18446744073709551616) (hWr : W % 9223372036854775808 < 9218868437227405312) (hz : fz W = s * K8) : ∃ H, Ieee.double.add W 4602678819172646912 = some H ∧ H < 18446744073709551616 ∧ H % 9223372036854775808 < 9218868437227405312 ∧ (fv H).den ≠ 1 := by
  obtain ⟨P, hk, zP, hh, hfi⟩ := half_P
  obtain ⟨r, a, b⟩ := hfi (2 * s + 1).natAbs (by omega)
  have hsum : fz W + fz 4602678819172646912 = (2 * s + 1) * (P : Int) := by
    rw [hz, hh, hk, Int.natCast_mul, Int.add_mul, Int.one_mul, ← Int.mul_assoc, Int.mul_comm s]
    rfl
  have zA : (0 : Int) < (P : Int) := by omega
  have h0 : fz W + fz 4602678819172646912 ≠ 0 := by
    rw [hsum]; intro g
    rcases Int.mul_eq_zero.1 g with g | g <;> omega
  have hab : (fz W + fz 4602678819172646912).natAbs = fi r := by rw [hsum, Int.natAbs_mul, Int.natAbs_natCast, b]
  have q := add_exact hW hWr (by decide) (by decide) a h0 hab
  have hm := @wd_mod (decide (fz W + fz 4602678819172646912 < 0)) r a
  refine ⟨_, q, hm.1, by rw [hm.2]; exact a, fun hd => ?_⟩
  have e1 := fv_whole hd
  rw [wd_fz (by omega), ← hab] at e1
  have e2 : (if decide (fz W + fz 4602678819172646912 < 0) = true then -((fz W + fz 4602678819172646912).natAbs : Int) else ((fz W + fz 4602678819172646912).natAbs : Int)) = fz W + fz 4602678819172646912 := by
    by_cases g : fz W + fz 4602678819172646912 < 0
    · rw [decide_eq_true g, if_pos rfl]; omega
    · rw [decide_eq_false g]; simp only [Bool.false_eq_true, if_false]; omega
  rw [e2, hsum, hk, Int.natCast_mul, ← Int.mul_assoc] at e1
  have e3 := Int.eq_of_mul_eq_mul_right (by omega) e1
  have e4 : ((2 : Nat) : Int) = 2 := rfl
  rw [e4] at e3
  omega
theorem fz_63 : fz 4890909195324358656 = 9223372036854775808 * K8 := by
  have h := fi_at 1085 4503599627370496 (.inr (by decide)) (by decide)
  rw [show 1085 * 4503599627370496 + 4503599627370496 = 4890909195324358656 by decide] at h
  rw [fz_pos (by decide), h]
  have := pow_shift 1 (a := 52) (u := 63) (b := 1074) (c := 1085) rfl
  rw [Nat.one_mul, Nat.one_mul, ← K8_eq] at this
  have e52 : (2 : Nat) ^ 52 = 4503599627370496 := by decide
  have e63 : (2 : Nat) ^ 63 = 9223372036854775808 := by decide
  rw [e52, e63] at this
  rw [this, Int.natCast_mul]
  rfl
theorem fz_n63 : fz 14114281232179134464 = -(9223372036854775808 * (K8 : Int)) := by
  have h := @wd_fz true 4890909195324358656 (by decide)
  have e : wd true 4890909195324358656 = 14114281232179134464 := by decide
  rw [e] at h
  rw [h, if_pos rfl, ← fz_63, fz_pos (by decide)]
theorem fr_63 : Fr 4890909195324358656 := ⟨by decide, by decide⟩
theorem fr_n63 : Fr 14114281232179134464 := ⟨by decide, by decide⟩
theorem k8_le {a b : Int} : a * K8 < b * K8 ↔ a < b := by
  have hk : (0 : Int) < (K8 : Int) := by have := K8_pos; omega
  exact ⟨fun h => Int.lt_of_mul_lt_mul_right h (Int.le_of_lt hk), fun h => Int.mul_lt_mul_of_pos_right h hk⟩
theorem in_64 {x : Nat} {k : Int} (hx : Fr x) (h : fz x = k * K8) : ((-9223372036854775808 ≤ k ∧ k ≤ 9223372036854775807) → (FloatKind.f64.format.order x 14114281232179134464 == some .gt || FloatKind.f64.format.order x 14114281232179134464 == some .eq) = true ∧ (FloatKind.f64.format.order x 4890909195324358656 == some .lt) = true) ∧
    (¬ (-9223372036854775808 ≤ k ∧ k ≤ 9223372036854775807) → (FloatKind.f64.format.order x 14114281232179134464 == some .lt) = true ∨ ((FloatKind.f64.format.order x 14114281232179134464 == some .lt) = false ∧ (FloatKind.f64.format.order x 4890909195324358656 == some .gt || FloatKind.f64.format.order x 4890909195324358656 == some .eq) = true)) := by
  have n1 : fz 14114281232179134464 = -9223372036854775808 * (K8 : Int) := by rw [fz_n63, ← Int.neg_mul]
  have c1 := @k8_le k (-9223372036854775808)
  have c2 := @k8_le (-9223372036854775808) k
  have c3 := @k8_le k 9223372036854775808
  have c4 := @k8_le 9223372036854775808 k
  rw [float_gt hx fr_n63, float_eq hx fr_n63, float_lt hx fr_63, float_lt hx fr_n63, float_gt hx fr_63, float_eq hx fr_63, h, n1, fz_63]
  generalize k * (K8 : Int) = a at *
  generalize -9223372036854775808 * (K8 : Int) = b at *
  generalize 9223372036854775808 * (K8 : Int) = c at *
  constructor
  · intro hi
    simp only [Bool.or_eq_true, decide_eq_true_eq]
    omega
  · intro hi
    simp only [Bool.or_eq_true, decide_eq_true_eq, decide_eq_false_iff_not]
    omega
theorem frac_pos {v : Rat} (hd : v.den ≠ 1) : Int.sign (v - ((qfl v : Int) : Rat)).num = 1 := by
  rw [(frac_parts v).1]
  have h0 := Int.emod_nonneg v.num (show (v.den : Int) ≠ 0 by have := v.den_pos; omega)
  refine Int.sign_eq_one_of_pos ?_
  rcases Int.lt_or_eq_of_le h0 with g | g
  · exact g
  · exfalso
    apply hd
    have dv : (v.den : Int) ∣ v.num := Int.dvd_of_emod_eq_zero g.symm
    have dn : v.den ∣ v.num.natAbs := Int.ofNat_dvd_left.1 dv
    have h1 := Nat.gcd_eq_right dn
    have h2 : Nat.gcd v.num.natAbs v.den = 1 := v.reduced
    omega
end Go.Proofs.YtogabmggdcefaabGreat
namespace Go.Proofs.YtogabmggdcefaabGreat
open Go.RowKit Go.Shelf
set_option linter.unusedVariables false

theorem int64r_no_v (x : Nat) (h : x < 18446744073709551616) (hr : x % 9223372036854775808 < 9218868437227405312) (v e : Int) (hv : i8v x = v ∧ i8e x = e) (w : World) : Calls Tryz.prog 26 #[.float .f64 x] w fun z w' => z = .returned (.tuple #[.int .i64 v, .int .i64 e]) ∧ Below w.heap.size w w' := by
  rw [← hv.1, ← hv.2]; exact int64r x h hr w

set_option maxHeartbeats 8000000 in
set_option maxRecDepth 8000 in
theorem whole8_walk (n : Int) (a : Int) (w : World) (hn : (Lit.int .i64 n).wf = true) (ha : Word a) :
    Calls Tryz.prog 5 #[.int .i64 n, .int .u64 a] w fun e w' => e = .returned (.bool true) ∧ Below w.heap.size w w' := by
  clear hn
  obtain ⟨x, rfl⟩ := Int.eq_ofNat_of_zero_le ha.1
  have hx : x < 18446744073709551616 := by have := ha.2; omega
  have HX : Hid (x < 18446744073709551616) := hx
  clear ha
  have ff := ffrom x
  obtain ⟨s, hs⟩ : ∃ s, n.tmod 4503599627370496 = s := ⟨_, rfl⟩
  have hsb : s.natAbs < 4503599627370496 := by
    rw [← hs, Int.natAbs_tmod]
    exact Nat.mod_lt _ (by decide)
  obtain ⟨W, r, f1, f2, f3, f4⟩ := small_f hsb
  have hW := @wd_mod (decide (s < 0)) r f3
  rw [← f2] at hW
  obtain ⟨H, m1, g1, g2, g3⟩ := half_f hsb hW.1 (by rw [hW.2]; exact f3) f4
  have HW : Hid (W < 18446744073709551616 ∧ W % 9223372036854775808 < 9218868437227405312 ∧ i8v W = s ∧ i8e W = 0) := by
    have e1 := fv_int f4
    have e2 : (fv W).num = s := by rw [e1]; rfl
    have e3 : (fv W).den = 1 := by rw [e1]; rfl
    have := i8_in e3 (by rw [e2]; omega)
    exact ⟨hW.1, by rw [hW.2]; exact f3, by rw [this.1, e2], this.2⟩
  have HH : Hid (H < 18446744073709551616 ∧ H % 9223372036854775808 < 9218868437227405312 ∧ i8v H = 0 ∧ i8e H = 80) := ⟨g1, g2, i8_part g3⟩
  have m2 : floatBits .add .f64 W 4602678819172646912 = some H := m1
  have w1 : IntKind.i64.wrap s = s := by rw [IntKind.wrap_i64]; omega
  have c1 : s % 4503599627370496 = s % 4503599627370496 := rfl
  clear f2 f3 f4 hW m1 g1 g2 g3 hsb c1
  have B0 : Below w.heap.size w w := Below.refl _ _
  go_enter Tryz.func5, Tryz.ntmps5
  go_wp2_with fail
  refine (awake8 w).mono ?_
  rintro e x1 ⟨rfl, hb⟩
  replace B0 := step B0 hb
  clear hb
  go_wp2_with fail
  refine (int64r_no_v W HW.out.1 HW.out.2.1 s 0 HW.out.2.2 x1).mono ?_
  rintro e x2 ⟨rfl, hb⟩
  replace B0 := step B0 hb
  clear hb
  go_wp2_with (simp only [run_float_arith _ _ _ _ _ _ _ m2])
  refine (int64r_no_v H HH.out.1 HH.out.2.1 0 80 HH.out.2.2 x2).mono ?_
  rintro e x3 ⟨rfl, hb⟩
  replace B0 := step B0 hb
  clear hb
  go_wp2_with fail
  by_cases hr : x % 9223372036854775808 < 9218868437227405312
  ·
    have HR : Hid (x % 9223372036854775808 < 9218868437227405312) := hr
    have HF : Hid (Fr x) := ⟨by omega, hx⟩
    by_cases hd : (fv x).den = 1
    ·
      have e1 := fv_whole hd
      by_cases hi : -9223372036854775808 ≤ (fv x).num ∧ (fv x).num ≤ 9223372036854775807
      ·
        have HI := i8_in hd hi
        obtain ⟨o1, o2, o3⟩ := of_whole hx hr e1
        obtain ⟨q3, q4⟩ := (in_64 HF.out e1).1 hi
        obtain ⟨i, hi2⟩ : ∃ i, (fv x).num = i := ⟨_, rfl⟩
        rw [hi2] at HI o2 o3
        have HII : Hid (i8v x = i ∧ i8e x = 0) := HI
        obtain ⟨fl, hfl⟩ : ∃ fl, floatOfInt .f64 i = fl := ⟨_, rfl⟩
        rw [hfl] at o2 o3
        have q1 := feq o3 HF.out o2
        clear HI o1 o2 o3 hi2 hi e1 hd hr hx
        refine (int64r_no_v x HX.out HR.out i 0 HII.out x3).mono ?_
        rintro e x4 ⟨rfl, hb⟩
        replace B0 := step B0 hb
        clear hb
        go_wp2_with fail
        go_ret
        exact ⟨rfl, B0⟩
      ·
        have HII : Hid (i8v x = 0 ∧ i8e x = 5) := i8_out hd hi
        have q3 := (in_64 HF.out e1).2 hi
        clear hi e1 hd hr hx
        rcases q3 with q3 | ⟨q3, q4⟩
        ·
          refine (int64r_no_v x HX.out HR.out 0 5 HII.out x3).mono ?_
          rintro e x4 ⟨rfl, hb⟩
          replace B0 := step B0 hb
          clear hb
          go_wp2_with fail
          go_ret
          exact ⟨rfl, B0⟩
        ·
          refine (int64r_no_v x HX.out HR.out 0 5 HII.out x3).mono ?_
          rintro e x4 ⟨rfl, hb⟩
          replace B0 := step B0 hb
          clear hb
          go_wp2_with fail
          go_ret
          exact ⟨rfl, B0⟩
    ·
      have HII : Hid (i8v x = 0 ∧ i8e x = 80) := i8_part hd
      have HFR : Hid (Int.sign (fv x - ((qfl (fv x) : Int) : Rat)).num = 1) := frac_pos hd
      clear hd hr hx
      refine (int64r_no_v x HX.out HR.out 0 80 HII.out x3).mono ?_
      rintro e x4 ⟨rfl, hb⟩
      replace B0 := step B0 hb
      clear hb
      go_wp2_with fail
      refine (of8 x HX.out HR.out x4).mono ?_
      rintro e x5 ⟨sr, ar, lr, cr, zr, br, mr, dr, yr, rfl, hr, hb⟩
      replace B0 := step B0 hb
      clear hb
      go_wp2_with fail
      refine ent1 x5 _ _ (Q := fun W => Calls Tryz.prog _ _ W _) ?_
      intro x6 hb hs_x6 V13
      replace hr := Rt.after hb hr
      replace B0 := step B0 hb
      clear hb hs_x6
      refine (qfrac_any sr ar lr cr zr br mr dr yr (fv x) x6 hr).mono ?_
      rintro e x7 ⟨s7, a7, l7, c7, z7, rfl, h7, hb⟩
      replace V13 := Va.after hb V13
      replace hr := Rt.after hb hr
      replace B0 := step B0 hb
      clear hb
      go_wp2_with fail
      refine (qsign_any s7 a7 l7 c7 z7 br mr dr yr (fv x - ((qfl (fv x) : Int) : Rat)) x7 h7).mono ?_
      rintro e x8 ⟨rfl, hb⟩
      replace V13 := Va.after hb V13
      replace hr := Rt.after hb hr
      replace h7 := Rt.after hb h7
      replace B0 := step B0 hb
      clear hb
      rw [HFR.out]
      go_wp2_with fail
      go_ret
      exact ⟨rfl, B0⟩
  ·
    have HR : Hid (9218868437227405312 ≤ x % 9223372036854775808) := by show _ ≤ _; omega
    clear hr hx
    refine (int64r_no x HX.out HR.out x3).mono ?_
    rintro e x4 ⟨rfl, hb⟩
    replace B0 := step B0 hb
    clear hb
    go_wp2_with fail
    refine (of8_no x HX.out HR.out x4).mono ?_
    rintro e x5 ⟨rfl, hb⟩
    replace B0 := step B0 hb
    clear hb
    go_wp2_with fail
    go_ret
    exact ⟨rfl, B0.alloc B0.size _⟩
end Go.Proofs.YtogabmggdcefaabGreat
namespace Go.Proofs.YtogabmggdcefaabGreat.realsWhole
open Go.ChangeShapes Go.WideShapes Go.ChangeAt Go.RowKit
set_option linter.unusedVariables false

theorem own : ownKnob Tryz.prog.godebug = none := by kernel_rfl
theorem laidOut : laidOutB Tryz.prog = true := by kernel_rfl
theorem bytes8 : Tryz.prog.bytesOf 22 = 8 := by kernel_rfl

set_option maxRecDepth 100000 in
theorem contract (H : Type) (enc : TypeId × Value → H) (W : World) (base : Nat) (args : Array Value) (ds gs : List (DataW H)) (before : List MemPlace)
    (hval : ∀ (j : Nat) t v, Tryz.f5.params[j]? = some t → args[j]? = some v → Value.okWide Tryz.prog W .any base t v)
    (hW : DataW.Whole enc Tryz.prog Tryz.f5.params.toList Rows.realsWholeSpec.vars false W args.toList ds gs before) (hsz : (DataW.weightsEach Tryz.prog (Tryz.f5.params.toList ++ Rows.realsWholeSpec.plain.varTypes Tryz.prog) (ds ++ gs)).all (· ≤ reachBytes) = true) :
    Calls Tryz.prog 5 args W fun e W' => ∃ v, e = .returned v ∧ Rows.realsWholeSpec.post enc Tryz.prog Tryz.f5 false true false false W args v W' := by
  have hW' := hW
  obtain ⟨p, q, hA0, hV, rfl, hfz, hnd⟩ := hW
  have hA : DataW.TrodAll enc Tryz.prog W 0 (fun _ => true) true Tryz.f5.params.toList args.toList ds p := hA0
  rw [Tryz.params5] at hA hval hsz
  obtain ⟨v0, vs0, d0, ds0, p0, q0, hargs, rfl, rfl, h0, r0⟩ := trodAll_cons hA
  obtain ⟨v1, vs1, d1, ds1, p1, q1, rfl, rfl, rfl, h1, r1⟩ := trodAll_cons r0
  obtain ⟨rfl, rfl, rfl⟩ := trodAll_nil r1
  obtain rfl : args = #[v0, v1] := by cases args; simp_all
  obtain ⟨rfl, rfl⟩ := trodVars_none hV
  obtain ⟨a0, rfl, rfl, rfl, w0⟩ := open_int Tryz.underlying2 (hval 0 2 v0 rfl rfl) h0
  obtain ⟨a1, rfl, rfl, rfl, w1⟩ := open_int Tryz.underlying22 (hval 1 22 v1 rfl rfl) h1
  clear hA0
  refine (whole8_walk a0 a1 W w0 (word_of_wf w1)).mono fun e W' ⟨he, bel⟩ => ?_
  subst he
  exact ⟨_, rfl, _, _, _, [], _, [], hW', trodAll_mk1 (shut_bool Tryz.underlying4 _), (trodAll_cons_mk (shut_int Tryz.underlying2 w0) (trodAll_cons_mk (shut_int Tryz.underlying22 w1) trodAll_mk0)), rfl, bel.frame _, fun h => by cases h⟩

set_option maxRecDepth 100000 in
theorem lifted (os : Os) (started : os.Started) (H : Type) (enc : TypeId × Value → H) :
    ReturnsInHanded {} Tryz.checked os 5 .any (Rows.realsWholeSpec.pre6 enc Tryz.prog Tryz.f5 Rows.realsWholeRow.domain false) (Rows.realsWholeSpec.post enc Tryz.prog Tryz.f5 false true false false) := by
  refine returnsInHanded_of_change_sized (C := Tryz.checked) own started (by kernel_rfl) Tryz.func5
    (ChangeSpec.witness6 (enc := enc) (C := Tryz.checked) false ⟨#[], #[.int .i64 0, .int .u64 0], []⟩ 8 (by kernel_rfl) (by kernel_rfl) (by kernel_rfl) (by kernel_rfl)) ?_
  intro W base args ds gs before hval0 hW _ hsz0 _
  exact contract H enc W base args ds gs before hval0 hW hsz0

theorem over : Rows.realsWholeRow.holds Tryz.pinned (OpenSpec.ofChange Rows.realsWholeSpec) :=
  OpenClaim.holds_of_wide 5 Tryz.f5 rfl rfl rfl rfl rfl rfl rfl ⟨rfl, rfl, rfl, rfl, rfl⟩ rfl rfl rfl rfl rfl (by kernel_rfl) Tryz.func5 (by kernel_rfl)
    (of_decide_eq_true (by kernel_rfl)) (by unfold Func.isWrapper; first | (rw [if_pos (by decide +kernel)]; kernel_rfl) | (rw [if_neg (by decide +kernel)]; exact ⟨rfl, rfl⟩))
    (fun os started H enc _ => lifted os started H enc)
end Go.Proofs.YtogabmggdcefaabGreat.realsWhole
namespace Go.Proofs.YtogabmggdcefaabGreat
theorem realsWhole_holds : Rows.RealsWholeSaid := realsWhole.over
#print axioms realsWhole_holds
end Go.Proofs.YtogabmggdcefaabGreat
