/-
  NatKeeps of the document, for every two lists and every number: what is answered stays whatever is done with a copy of its limbs and whatever is reckoned later, what is handed in stays, and the number that nobody made is nought. No conditions.
-/
import Derived.Test.YtckfgolijlggbaaLater
import Derived.Test.YtckfgolijlggbaaProd
import Derived.Test.YtckfgolijlggbaaRoot
import Derived.Test.YtckfgolijlggbaaMeas
import Derived.Test.YtckfgolijlggbaaDivMod
import Derived.Test.YtckfgolijlggbaaHeld
import Derived.Test.YtckfgolijlggbaaLaw3
import Derived.Test.YtckfgolijlggbaaVals2
import Derived.Test.YtckfgolijlggbaaAwake2
import Derived.Test.YtckfgolijlggbaaRows
import Derived.ProofKit
import Derived.OpenShut
import Derived.ShutString
import Derived.ChangeOld
import Derived.SizedLaws
namespace Go.Proofs.Ytckfgolijlggbaa
open Go.RowKit Go.Shelf

theorem later_ok (M : Int) : LaterOk M := fun a la ca xs b lb cb ys W ha hb hle _ hl => later_cut a la ca xs b lb cb ys W ha hb hle hl
theorem ngcd_any (a b : Option Addr) (la ca lb cb : Nat) (xs ys : List Int) (w : World) (ha : Nt w a la ca xs) (hb : Nt w b lb cb ys) :
    Calls Try.prog 10 #[.agg #[.slice a la ca], .agg #[.slice b lb cb]] w fun e w' => ∃ a' l' c' zs, e = .returned (.agg #[.slice a' l' c']) ∧ Nt w' a' l' c' zs ∧ num zs = (Int.gcd (num xs) (num ys) : Nat) ∧ Below w.heap.size w w' :=
  ngcd_of (max (num xs) (num ys)) (later_ok _) a b la ca lb cb xs ys w ha hb (by omega) (by omega)
end Go.Proofs.Ytckfgolijlggbaa
namespace Go.Proofs.Ytckfgolijlggbaa
open Go.RowKit Go.Shelf

/-- Not long, and long. -/
structure Fit (x : Int) : Prop where
  lt : x < pw 4096
structure Big (x : Int) : Prop where
  ge : pw 4096 ≤ x
theorem fit_or_big (x : Int) : Fit x ∨ Big x := by
  rcases Int.lt_or_le x (pw 4096) with h | h
  · exact .inl ⟨h⟩
  · exact .inr ⟨h⟩
theorem pow_step (x : Int) (m b : Nat) (hb : b = 0 ∨ b = 1) : x ^ (2 * m + b) = x ^ m * x ^ m * (if b = 0 then 1 else x) := by
  rcases hb with rfl | rfl
  · rw [Nat.add_zero, Nat.two_mul, Int.pow_add]; simp
  · rw [Int.pow_add, Nat.two_mul, Int.pow_add]; simp [Int.pow_succ]

theorem bits_nat {zs : List Int} (h : Limbs zs) {n : Nat} (e : num zs = n) (hn : n ≤ 9223372036854775807) : ∃ s : Nat, bitsN zs = s ∧ n < 2 ^ s ∧ s ≤ 63 := by
  rcases Nat.eq_zero_or_pos (usedN zs) with h0 | h0
  · refine ⟨0, bits_nought h0, ?_, by omega⟩
    have := (num_eq_zero h).2 h0
    simp; omega
  · obtain ⟨k, e1, k1, k2⟩ := bits_spec h h0
    rw [e] at k1 k2
    have k3 : n < 2 ^ (k + 1) := by
      have : (n : Int) < ((2 ^ (k + 1) : Nat) : Int) := by simpa using k2
      omega
    refine ⟨k + 1, by omega, k3, ?_⟩
    rcases Nat.lt_or_ge k 63 with h' | h'
    · omega
    · have h5 : (2 : Int) ^ 63 ≤ 2 ^ k := p2_mono h'
      have h6 : (2 : Int) ^ 63 = 9223372036854775808 := by decide
      omega
theorem and_one (g : Nat) (hg : g < 9223372036854775808) : bits .and .i64 (g : Int) 1 = ((g % 2 : Nat) : Int) := by
  have h1 : (BitVec.ofInt 64 (g : Int)).toNat = g := by
    rw [BitVec.ofInt_natCast, BitVec.toNat_ofNat]; exact Nat.mod_eq_of_lt (by omega)
  have h2 : (BitVec.ofInt 64 (1 : Int)).toNat = 1 := by decide
  show IntKind.i64.wrap ((BitVec.ofInt 64 (g : Int) &&& BitVec.ofInt 64 1).toNat : Int) = _
  rw [BitVec.toNat_and, h1, h2, Nat.and_one_is_mod, IntKind.wrap_i64]
  omega
theorem shr_nat (n d : Nat) : (n : Int) / 2 ^ d = ((n / 2 ^ d : Nat) : Int) := by
  rw [Int.natCast_ediv]; simp
theorem pow_ge_one {x : Int} (hx : 1 ≤ x) : ∀ k : Nat, 1 ≤ x ^ k
  | 0 => by rw [Int.pow_zero]; omega
  | k + 1 => by
    have h := pow_ge_one hx k
    rw [Int.pow_succ]
    have : 1 * 1 ≤ x ^ k * x := Int.mul_le_mul h hx (by decide) (by omega)
    omega
theorem big_up {x : Int} {j n : Nat} (h : Big (x ^ j)) (hx : 0 ≤ x) (hjn : j ≤ n) : Big (x ^ n) := by
  obtain ⟨h⟩ := h
  have h1 := pw_mono (show 1 ≤ 4096 by decide)
  have h2 : pw 1 = 18446744073709551616 := by decide
  rcases Int.lt_or_le x 1 with h3 | h3
  · obtain rfl : x = 0 := by omega
    exfalso
    rcases Nat.eq_zero_or_pos j with h4 | h4
    · subst h4; rw [Int.pow_zero] at h; omega
    · rw [Int.zero_pow (by omega)] at h; omega
  · obtain ⟨d, rfl⟩ := Nat.exists_eq_add_of_le hjn
    refine ⟨?_⟩
    rw [Int.pow_add]
    have h4 := pow_ge_one h3 d
    have h5 := pow_ge_one h3 j
    have : x ^ j * 1 ≤ x ^ j * x ^ d := Int.mul_le_mul_of_nonneg_left h4 (by omega)
    omega
theorem pow_neg (a : Option Addr) (la ca : Nat) (t : Int) (w : World) (ht : t < 0) :
    Calls Try.prog 22 #[.agg #[.slice a la ca], .int .i64 t] w fun e w' => e = .returned (.tuple #[.agg #[.slice none 0 0], .int .i64 2]) ∧ Below w.heap.size w w' := by
  go_enter Try.func22, Try.ntmps22
  go_wp2_with fail
  refine ent2 w _ _ _ _ (Q := fun W => bodyPost Try.prog _ _ _ _ W) ?_
  intro w0 B0 hs V0 V1
  exact bodyPost_ret (results_ct rfl rfl V1) rfl ⟨rfl, B0⟩
set_option maxHeartbeats 4000000 in
theorem pow_any (a : Option Addr) (la ca : Nat) (xs : List Int) (n : Nat) (w : World) (ha : Nt w a la ca xs) (hn : n ≤ 9223372036854775807) :
    Calls Try.prog 22 #[.agg #[.slice a la ca], .int .i64 n] w fun e w' =>
      (∃ a' l' c' zs, e = .returned (.tuple #[.agg #[.slice a' l' c'], .int .i64 0]) ∧ Nt w' a' l' c' zs ∧ num zs = num xs ^ n ∧ Below w.heap.size w w') ∨ (e = .returned (.tuple #[.agg #[.slice none 0 0], .int .i64 3]) ∧ Big (num xs ^ n) ∧ Below w.heap.size w w') := by
  have ew : IntKind.u64.wrap (n : Int) = n := by rw [IntKind.wrap_u64]; omega
  go_enter Try.func22, Try.ntmps22
  go_wp2_with fail
  refine ent2 w _ _ _ _ (Q := fun W => Calls Try.prog _ _ W _) ?_
  intro w0 B0 hs V0 V1
  replace ha := Nt.after B0 ha
  refine (small_any 1 ⟨by decide, by decide⟩ w0).mono ?_
  rintro e w1 ⟨a1, l1, k1, z1, rfl, h1, n1, hb1⟩
  replace V0 := V0.kept hb1
  replace V1 := V1.kept hb1
  replace B0 := step B0 hb1
  replace ha := Nt.after hb1 ha
  go_wp2_with fail
  refine ent1 w1 _ _ (Q := fun W => Calls Try.prog _ _ W _) ?_
  intro w2 B2 hs2 Vp
  replace V0 := V0.kept B2
  replace V1 := V1.kept B2
  replace B0 := step B0 B2
  replace ha := Nt.after B2 ha
  replace h1 := Nt.after B2 h1
  refine (small_any n ⟨by omega, by omega⟩ w2).mono ?_
  rintro e w3 ⟨a3, l3, k3, z3, rfl, h3, n3, hb3⟩
  replace V0 := V0.kept hb3
  replace V1 := V1.kept hb3
  replace Vp := Vp.kept hb3
  replace B0 := step B0 hb3
  replace ha := Nt.after hb3 ha
  replace h1 := Nt.after hb3 h1
  go_wp2_with fail
  refine (nbits_any a3 l3 k3 z3 w3 h3).mono ?_
  rintro e w4 ⟨rfl, hb4⟩
  replace V0 := V0.kept hb4
  replace V1 := V1.kept hb4
  replace Vp := Vp.kept hb4
  replace B0 := step B0 hb4
  replace ha := Nt.after hb4 ha
  replace h1 := Nt.after hb4 h1
  obtain ⟨sz, hsz, hlt, hs63⟩ := bits_nat h3.limbs n3 hn
  rw [hsz]
  have hbw : w1.heap.size < w4.heap.size := Vp.lt
  have hbw1 : w.heap.size + 1 < w1.heap.size := by
    have := hb1.size
    omega
  clear hb1 B2 hs2 hb3 hb4 hs
  have HV0 : Hid (Va w4 w.heap.size 27 #[.slice a la ca]) := V0
  have HV1 : Hid (Va w4 (w.heap.size + 1) 27 #[.slice none 0 0]) := V1
  have HVp : Hid (Va w4 w1.heap.size 27 #[.slice a1 l1 k1]) := Vp
  have HA : Hid (Nt w4 a la ca xs) := ha
  have H1 : Hid (Nt w4 a1 l1 k1 z1) := h1
  have HB : Hid (Below w.heap.size w w4) := B0
  have HN1 : Hid (num z1 = num xs ^ (n / 2 ^ (sz - 0))) := by
    show _ = _
    rw [Nat.sub_zero, Nat.div_eq_of_lt hlt, n1, Int.pow_zero]
  clear V0 V1 Vp ha h1 B0 n1 n3 h3 hsz
  go_wp2_with fail
  go_loopw [19] (fun ii wr => ∃ (k : Nat) (ap : Option Addr) (lp kp : Nat) (zp : List Int), k ≤ sz ∧ ii = .int .i64 k ∧ Hid (Va wr w.heap.size 27 #[.slice a la ca]) ∧ Hid (Va wr (w.heap.size + 1) 27 #[.slice none 0 0]) ∧ Hid (Va wr w1.heap.size 27 #[.slice ap lp kp]) ∧ Hid (Nt wr a la ca xs) ∧ Hid (Nt wr ap lp kp zp) ∧ Hid (num zp = num xs ^ (n / 2 ^ (sz - k))) ∧ Hid (Below w.heap.size w wr)) (fun ii _ => sz - (intOf ii).toNat)
  case atStart => exact ⟨0, a1, l1, k1, z1, Nat.zero_le _, rfl, HV0, HV1, HVp, HA, H1, HN1, HB⟩
  case round =>
    clear HV0 HV1 HVp HA H1 HN1 HB
    obtain ⟨k, ap, lp, kp, zp, hk, rfl, U0, U1, Up, hA, hP, hN, hB⟩ := hrel
    have c0 := U0.out.cell
    have c1 := U1.out.cell
    have cp := Up.out.cell
    have f1 := U1.out.frozen 0
    have fp := Up.out.frozen 0
    have x0 := hA.out.nonneg
    by_cases hlt2 : k < sz
    · obtain ⟨d, hd⟩ : ∃ d, d = sz - 1 - k := ⟨_, rfl⟩
      have hm : n / 2 ^ (sz - k) = n / 2 ^ d / 2 := by rw [Nat.div_div_eq_div_mul, ← Nat.pow_succ]; congr 2; omega
      rw [hm] at hN
      obtain ⟨g, hg⟩ : ∃ g, n / 2 ^ d = g := ⟨_, rfl⟩
      rw [hg] at hN
      have hgn : g ≤ n := by rw [← hg]; exact Nat.div_le_self _ _
      rcases fit_or_big (num zp * num zp) with hf | hf
      · go_wp2_with fail
        refine (nmul_ok ap ap lp kp lp kp zp zp wr hP.out hP.out hf.lt).mono ?_
        rintro e w5 ⟨aq, lq, kq, zq, rfl, hq, nq, hb5⟩
        have T0 := U0.out.kept hb5
        have T1 := U1.out.kept hb5
        have Tp := Up.out.kept hb5
        have B5 := step hB.out hb5
        have hA5 := Nt.after hb5 hA.out
        clear c0 c1 cp f1 fp
        have c0 := T0.cell
        have c1 := T1.cell
        have cp := Tp.cell
        have f1 := T1.frozen 0
        have fp := Tp.frozen 0
        have hne1 : w.heap.size ≠ w1.heap.size := by omega
        have hne2 : w.heap.size + 1 ≠ w1.heap.size := by omega
        have S0 := T0.other (p := ⟨w1.heap.size, 0, none⟩) hne1 (.slice aq lq kq)
        have S1 := T1.other (p := ⟨w1.heap.size, 0, none⟩) hne2 (.slice aq lq kq)
        have Sp := Tp.set (.slice aq lq kq)
        have SA := hA5.store Tp (.slice aq lq kq)
        have SQ := hq.store Tp (.slice aq lq kq)
        have SB := B5.setCell (p := ⟨w1.heap.size, 0, none⟩) (by show _ ≤ w1.heap.size; omega) (.slice aq lq kq)
        rw [hN.out, ← Int.pow_add] at nq
        have hbit : g % 2 = 0 ∨ g % 2 = 1 := by omega
        have eb := and_one g (by omega)
        rw [← hg, ← shr_nat, hg, hd] at eb
        rcases hbit with hb0 | hb1
        · rw [hb0] at eb
          have HN2 : Hid (num zq = num xs ^ (n / 2 ^ (sz - (k + 1)))) := by
            show _ = _
            rw [nq, show sz - (k + 1) = d by omega, hg]
            congr 1; omega
          go_wp2_with fail
          go_roundw
          case rel => exact ⟨k + 1, aq, lq, kq, zq, by omega, by go_num, S0, S1, Sp, SA, SQ, HN2, SB⟩
          case measure => simp [intOf]; omega
        · rw [hb1] at eb
          go_wp2_with fail
          generalize w5.setCell ⟨w1.heap.size, 0, none⟩ (.slice aq lq kq) = w6 at *
          rcases fit_or_big (num zq * num xs) with hf2 | hf2
          · refine (nmul_ok aq a lq kq la ca zq xs w6 SQ SA hf2.lt).mono ?_
            rintro e w7 ⟨ar, lr, kr, zr, rfl, hr, nr, hb7⟩
            have R0 := S0.kept hb7
            have R1 := S1.kept hb7
            have Rp := Sp.kept hb7
            have B7 := step SB hb7
            have hA7 := Nt.after hb7 SA
            have HN2 : Hid (num zr = num xs ^ (n / 2 ^ (sz - (k + 1)))) := by
              show _ = _
              rw [nr, nq, ← Int.pow_succ, show sz - (k + 1) = d by omega, hg]
              congr 1; omega
            have Q0 := R0.other (p := ⟨w1.heap.size, 0, none⟩) hne1 (.slice ar lr kr)
            have Q1 := R1.other (p := ⟨w1.heap.size, 0, none⟩) hne2 (.slice ar lr kr)
            have Qp := Rp.set (.slice ar lr kr)
            have QA := hA7.store Rp (.slice ar lr kr)
            have QR := hr.store Rp (.slice ar lr kr)
            have QB := B7.setCell (p := ⟨w1.heap.size, 0, none⟩) (by show _ ≤ w1.heap.size; omega) (.slice ar lr kr)
            clear c0 c1 cp f1 fp
            have cp := Rp.cell
            have fp := Rp.frozen 0
            go_wp2_with fail
            go_roundw
            case rel => exact ⟨k + 1, ar, lr, kr, zr, by omega, by go_num, Q0, Q1, Qp, QA, QR, HN2, QB⟩
            case measure => simp [intOf]; omega
          · have hbig : Big (num xs ^ n) := by
              rw [nq, ← Int.pow_succ] at hf2
              exact big_up hf2 x0 (by omega)
            refine (nmul_long aq a lq kq la ca zq xs w6 SQ SA hf2.ge).mono ?_
            rintro e w7 ⟨rfl, hb7⟩
            have R1 := S1.kept hb7
            have Rp := Sp.kept hb7
            have B7 := step SB hb7
            clear c0 c1 cp f1 fp
            have c1 := R1.cell
            have cp := Rp.cell
            have f1 := R1.frozen 0
            have fp := Rp.frozen 0
            go_wp2_with fail
            refine bodyPost_ret (results_ct rfl rfl ((R1.other (p := ⟨w1.heap.size, 0, none⟩) hne2 _).set _)) rfl ?_
            exact .inr ⟨rfl, hbig, (B7.setCell (p := ⟨w1.heap.size, 0, none⟩) (by show _ ≤ w1.heap.size; omega) _).setCell (p := ⟨w.heap.size + 1, 0, none⟩) (by show _ ≤ w.heap.size + 1; omega) _⟩
      · have hbig : Big (num xs ^ n) := by
          rw [hN.out, ← Int.pow_add] at hf
          exact big_up hf x0 (by omega)
        go_wp2_with fail
        refine (nmul_long ap ap lp kp lp kp zp zp wr hP.out hP.out hf.ge).mono ?_
        rintro e w5 ⟨rfl, hb5⟩
        have T1 := U1.out.kept hb5
        have Tp := Up.out.kept hb5
        have B5 := step hB.out hb5
        clear c0 c1 cp f1 fp
        have c1 := T1.cell
        have cp := Tp.cell
        have f1 := T1.frozen 0
        have fp := Tp.frozen 0
        go_wp2_with fail
        refine bodyPost_ret (results_ct rfl rfl ((T1.other (p := ⟨w1.heap.size, 0, none⟩) (by show w.heap.size + 1 ≠ w1.heap.size; omega) _).set _)) rfl ?_
        exact .inr ⟨rfl, hbig, (B5.setCell (p := ⟨w1.heap.size, 0, none⟩) (by show _ ≤ w1.heap.size; omega) _).setCell (p := ⟨w.heap.size + 1, 0, none⟩) (by show _ ≤ w.heap.size + 1; omega) _⟩
    · obtain rfl : k = sz := by omega
      have hN2 := hN.out
      rw [Nat.sub_self, Nat.pow_zero, Nat.div_one] at hN2
      go_wp2_with fail
      refine bodyPost_ret (results_ct rfl rfl (U1.out.set _)) rfl ?_
      exact .inl ⟨_, _, _, zp, rfl, hP.out.store U1.out _, hN2, hB.out.setCell (p := ⟨w.heap.size + 1, 0, none⟩) (by show _ ≤ w.heap.size + 1; omega) _⟩
end Go.Proofs.Ytckfgolijlggbaa
namespace Go.Proofs.Ytckfgolijlggbaa
open Go.RowKit Go.Shelf

/-- The root of a number. -/
def IsRoot (x r : Int) : Prop := 0 ≤ r ∧ r * r ≤ x ∧ x < (r + 1) * (r + 1)
/-- Not above half of what may be. -/
structure Low (x : Int) : Prop where
  lt : 2 * x < pw 4096
theorem le_sq {t x : Int} (h0 : 0 ≤ t) (h : t * t ≤ x) : t ≤ x := by
  rcases Int.lt_or_le t 1 with h1 | h1
  · have : t = 0 := by omega
    subst this; omega
  · have : t * 1 ≤ t * t := Int.mul_le_mul_of_nonneg_left h1 h0
    omega
theorem bits_low {zs : List Int} (h : Limbs zs) {n : Nat} (hlt : num zs < 2 ^ n) : bitsN zs ≤ n := by
  rcases Nat.eq_zero_or_pos (usedN zs) with h0 | h0
  · rw [bits_nought h0]; omega
  · obtain ⟨k, e, k1, k2⟩ := bits_spec h h0
    rcases Nat.lt_or_ge k n with h' | h'
    · omega
    · have := p2_mono h'; omega
/-- The numbers on the way to the beginning. -/
theorem above_nums {x t : Int} {B h : Nat} (hB : B ≤ 262144) (h3 : 3 ≤ B) (hh : h = (B + 1) / 4) (hx : x < 2 ^ B) (ht : IsRoot (x / 2 ^ (2 * h)) t) :
    t + 1 ≤ 2 ^ (B - 2 * h) ∧ Low ((t + 1) * 2 ^ h) ∧ x < ((t + 1) * 2 ^ h + 1) * ((t + 1) * 2 ^ h + 1) ∧ 0 < (t + 1) * 2 ^ h ∧ Fit (t + 1) := by
  obtain ⟨t0, t1, t2⟩ := ht
  have e1 : x / 2 ^ (2 * h) < 2 ^ (B - 2 * h) := by
    apply Int.ediv_lt_of_lt_mul (p2_pos _)
    rw [← Int.pow_add, show B - 2 * h + 2 * h = B by omega]; exact hx
  have e2 := le_sq t0 t1
  have e3 : t + 1 ≤ 2 ^ (B - 2 * h) := by omega
  have e4 : (t + 1) * 2 ^ h ≤ 2 ^ (B - 2 * h) * 2 ^ h := Int.mul_le_mul_of_nonneg_right e3 (Int.le_of_lt (p2_pos h))
  rw [← Int.pow_add, show B - 2 * h + h = B - h by omega] at e4
  have e5 : (2 : Int) * 2 ^ (B - h) = 2 ^ (B - h + 1) := by rw [Int.pow_succ]; omega
  have e6 := p2_mono (show B - h + 1 ≤ 262143 by omega)
  have e7 : (2 : Int) ^ 262143 < 2 ^ (262143 + 1) := by
    rw [Int.pow_succ]; have := p2_pos 262143; omega
  have e8 := p2_pos h
  have e9 : 0 < (t + 1) * 2 ^ h := Int.mul_pos (by omega) e8
  have e10 := p2_mono (show B - 2 * h ≤ 262143 by omega)
  refine ⟨e3, ⟨?_⟩, ?_, e9, ⟨?_⟩⟩
  · rw [pw_4096]; omega
  · rcases root_start (a := x) (t := t) (p := 2 ^ h) e8 (by rw [← Int.pow_add, ← Nat.two_mul]; exact t2) with h' | h'
    · exact h'
    · omega
  · rw [pw_4096]; omega
end Go.Proofs.Ytckfgolijlggbaa
namespace Go.Proofs.Ytckfgolijlggbaa
open Go.RowKit Go.Shelf
set_option linter.unusedVariables false

/-- What Root does, for numbers below M. -/
def RootOk (M : Int) : Prop := ∀ (a : Option Addr) (la ca : Nat) (xs : List Int) (w : World), Nt w a la ca xs → num xs < M →
  Calls Try.prog 23 #[.agg #[.slice a la ca]] w fun e w' => ∃ a' l' c' zs, e = .returned (.agg #[.slice a' l' c']) ∧ Nt w' a' l' c' zs ∧ IsRoot (num xs) (num zs) ∧ Below w.heap.size w w'

set_option maxHeartbeats 4000000 in
theorem above_any (a : Option Addr) (la ca : Nat) (xs : List Int) (w : World) (hx : Nt w a la ca xs) (HR : RootOk (num xs)) (h4 : 4 ≤ num xs) :
    Calls Try.prog 43 #[.agg #[.slice a la ca]] w fun e w' => ∃ a' l' c' zs, e = .returned (.agg #[.slice a' l' c']) ∧ Nt w' a' l' c' zs ∧ Low (num zs) ∧ num xs < (num zs + 1) * (num zs + 1) ∧ 0 < num zs ∧ Below w.heap.size w w' := by
  have B0 : Below w.heap.size w w := Below.refl _ _
  have l1 := hx.2
  have ux : 0 < usedN xs := by
    rcases Nat.eq_zero_or_pos (usedN xs) with h | h
    · have := (num_eq_zero hx.limbs).2 h; omega
    · exact h
  obtain ⟨b, eb, b1, b2⟩ := bits_spec hx.limbs ux
  have hb4 := bits_limbs hx.limbs
  have hb3 : 3 ≤ b + 1 := by
    rcases Nat.lt_or_ge b 2 with h | h
    · have := p2_mono (show b + 1 ≤ 2 by omega)
      have h5 : (2 : Int) ^ 2 = 4 := by decide
      omega
    · omega
  obtain ⟨h, hh⟩ : ∃ h, h = (b + 1 + 1) / 4 := ⟨_, rfl⟩
  have eh : ((b : Int) + 1 + 1) / 4 = h := by omega
  have hbb : b + 1 ≤ 262144 := by omega
  have hhb : h ≤ 65536 := by omega
  have AN := fun t ht => above_nums (t := t) hbb hb3 hh b2 ht
  have hlt : num xs / 2 ^ (2 * h) < num xs := by
    have h5 := p2_mono (show 1 ≤ 2 * h by omega)
    apply Int.ediv_lt_of_lt_mul (p2_pos _)
    have h6 : num xs * 2 ^ 1 ≤ num xs * 2 ^ (2 * h) := Int.mul_le_mul_of_nonneg_left h5 (by omega)
    rw [show (2 : Int) ^ 1 = 2 by decide] at h6
    omega
  obtain ⟨h2, hh2⟩ : ∃ h2, 2 * h = h2 := ⟨_, rfl⟩
  have e2h : (2 : Int) * h = h2 := by omega
  rw [hh2] at hlt
  simp only [hh2] at AN
  have HH2 : Hid (2 * h = h2) := hh2
  have HH : Hid (h = (b + 1 + 1) / 4) := hh
  have h1h : 1 ≤ h := by omega
  have hb21 : h2 ≤ b + 1 := by omega
  have HHR : Hid (RootOk (num xs)) := HR
  clear b1 hb4 HR hh hh2
  go_enter Try.func43, Try.ntmps43
  go_wp2_with fail
  refine ent2 w _ _ _ _ (Q := fun W => Calls Try.prog _ _ W _) ?_
  intro x1 hb hs_x1 V0 V1
  replace hx := Nt.after hb hx
  replace B0 := step B0 hb
  clear hb hs_x1
  refine (nbits_any a la ca xs x1 hx).mono ?_
  rintro e x2 ⟨rfl, hb⟩
  replace V0 := Va.after hb V0
  replace V1 := Va.after hb V1
  replace hx := Nt.after hb hx
  replace B0 := step B0 hb
  clear hb
  rw [eb]
  have c_V0 := V0.cell
  have f_V0 := V0.frozen 0
  have l_V0 := V0.lt
  have m_V0 := Nat.le_of_lt l_V0
  have c_V1 := V1.cell
  have f_V1 := V1.frozen 0
  have l_V1 := V1.lt
  have m_V1 := Nat.le_of_lt l_V1
  go_wp2_with fail
  refine (nright_ok a la ca xs h2 x2 hx (by omega)).mono ?_
  rintro e x3 ⟨at1, lt, kt, zt, rfl, ht, nt, hb⟩
  replace V0 := Va.after hb V0
  replace V1 := Va.after hb V1
  replace hx := Nt.after hb hx
  replace B0 := step B0 hb
  clear hb
  clear c_V0 f_V0 l_V0 m_V0 c_V1 f_V1 l_V1 m_V1
  have c_V0 := V0.cell
  have f_V0 := V0.frozen 0
  have l_V0 := V0.lt
  have m_V0 := Nat.le_of_lt l_V0
  have c_V1 := V1.cell
  have f_V1 := V1.frozen 0
  have l_V1 := V1.lt
  have m_V1 := Nat.le_of_lt l_V1
  go_wp2_with fail
  refine ent1 x3 _ _ (Q := fun W => Calls Try.prog _ _ W _) ?_
  intro x4 hb hs_x4 Vt
  replace V0 := Va.after hb V0
  replace V1 := Va.after hb V1
  replace hx := Nt.after hb hx
  replace ht := Nt.after hb ht
  replace B0 := step B0 hb
  clear hb hs_x4
  refine (HHR.out at1 lt kt zt x4 ht (by rw [nt]; exact hlt)).mono ?_
  rintro e x5 ⟨ar, lr, kr, zr, rfl, hr, ir, hb⟩
  replace V0 := Va.after hb V0
  replace V1 := Va.after hb V1
  replace Vt := Va.after hb Vt
  replace hx := Nt.after hb hx
  replace ht := Nt.after hb ht
  replace B0 := step B0 hb
  clear hb
  rw [nt] at ir
  obtain ⟨g1, g2, g3, g4, g5⟩ := AN _ ir
  clear c_V0 f_V0 l_V0 m_V0 c_V1 f_V1 l_V1 m_V1
  have c_V0 := V0.cell
  have f_V0 := V0.frozen 0
  have l_V0 := V0.lt
  have m_V0 := Nat.le_of_lt l_V0
  have c_V1 := V1.cell
  have f_V1 := V1.frozen 0
  have l_V1 := V1.lt
  have m_V1 := Nat.le_of_lt l_V1
  have c_Vt := Vt.cell
  have f_Vt := Vt.frozen 0
  have l_Vt := Vt.lt
  have m_Vt := Nat.le_of_lt l_Vt
  go_wp2_with fail
  refine (small_any 1 ⟨by decide, by decide⟩ x5).mono ?_
  rintro e x6 ⟨ao, lo, ko, zo, rfl, ho, no, hb⟩
  replace V0 := Va.after hb V0
  replace V1 := Va.after hb V1
  replace Vt := Va.after hb Vt
  replace hx := Nt.after hb hx
  replace ht := Nt.after hb ht
  replace hr := Nt.after hb hr
  replace B0 := step B0 hb
  clear hb
  clear c_V0 f_V0 l_V0 m_V0 c_V1 f_V1 l_V1 m_V1 c_Vt f_Vt l_Vt m_Vt
  have c_V0 := V0.cell
  have f_V0 := V0.frozen 0
  have l_V0 := V0.lt
  have m_V0 := Nat.le_of_lt l_V0
  have c_V1 := V1.cell
  have f_V1 := V1.frozen 0
  have l_V1 := V1.lt
  have m_V1 := Nat.le_of_lt l_V1
  have c_Vt := Vt.cell
  have f_Vt := Vt.frozen 0
  have l_Vt := Vt.lt
  have m_Vt := Nat.le_of_lt l_Vt
  go_wp2_with fail
  refine (nadd_ok ar ao lr kr lo ko zr zo x6 hr ho (by rw [no]; exact g5.lt)).mono ?_
  rintro e x7 ⟨an, ln, kn, zn, rfl, hn, nn, hb⟩
  replace V0 := Va.after hb V0
  replace V1 := Va.after hb V1
  replace Vt := Va.after hb Vt
  replace hx := Nt.after hb hx
  replace ht := Nt.after hb ht
  replace hr := Nt.after hb hr
  replace ho := Nt.after hb ho
  replace B0 := step B0 hb
  clear hb
  rw [no] at nn
  clear c_V0 f_V0 l_V0 m_V0 c_V1 f_V1 l_V1 m_V1 c_Vt f_Vt l_Vt m_Vt
  have c_V0 := V0.cell
  have f_V0 := V0.frozen 0
  have l_V0 := V0.lt
  have m_V0 := Nat.le_of_lt l_V0
  have c_V1 := V1.cell
  have f_V1 := V1.frozen 0
  have l_V1 := V1.lt
  have m_V1 := Nat.le_of_lt l_V1
  have c_Vt := Vt.cell
  have f_Vt := Vt.frozen 0
  have l_Vt := Vt.lt
  have m_Vt := Nat.le_of_lt l_Vt
  go_wp2_with fail
  refine ent1 x7 _ _ (Q := fun W => Calls Try.prog _ _ W _) ?_
  intro x8 hb hs_x8 Vn
  replace V0 := Va.after hb V0
  replace V1 := Va.after hb V1
  replace Vt := Va.after hb Vt
  replace hx := Nt.after hb hx
  replace ht := Nt.after hb ht
  replace hr := Nt.after hb hr
  replace ho := Nt.after hb ho
  replace hn := Nt.after hb hn
  replace B0 := step B0 hb
  clear hb hs_x8
  have hfit : bitsN zn + h ≤ 262144 := by
    have h7 : num zn < 2 ^ (b + 1 - h2 + 1) := by
      rw [nn, Int.pow_succ]; have := p2_pos (b + 1 - h2); omega
    have := bits_low hn.limbs h7
    have := HH2.out
    have := HH.out
    omega
  refine (nleft_ok an ln kn zn h x8 hn (.inr hfit)).mono ?_
  rintro e x9 ⟨as1, ls, ks, zs, rfl, hs, ns, hb⟩
  replace V0 := Va.after hb V0
  replace V1 := Va.after hb V1
  replace Vt := Va.after hb Vt
  replace Vn := Va.after hb Vn
  replace hx := Nt.after hb hx
  replace ht := Nt.after hb ht
  replace hr := Nt.after hb hr
  replace ho := Nt.after hb ho
  replace hn := Nt.after hb hn
  replace B0 := step B0 hb
  clear hb
  rw [nn] at ns
  clear c_V0 f_V0 l_V0 m_V0 c_V1 f_V1 l_V1 m_V1 c_Vt f_Vt l_Vt m_Vt
  have c_V0 := V0.cell
  have f_V0 := V0.frozen 0
  have l_V0 := V0.lt
  have m_V0 := Nat.le_of_lt l_V0
  have c_V1 := V1.cell
  have f_V1 := V1.frozen 0
  have l_V1 := V1.lt
  have m_V1 := Nat.le_of_lt l_V1
  have c_Vt := Vt.cell
  have f_Vt := Vt.frozen 0
  have l_Vt := Vt.lt
  have m_Vt := Nat.le_of_lt l_Vt
  have c_Vn := Vn.cell
  have f_Vn := Vn.frozen 0
  have l_Vn := Vn.lt
  have m_Vn := Nat.le_of_lt l_Vn
  go_wp2_with fail
  refine bodyPost_ret (results_c rfl rfl ((V1.set _).old _)) rfl ?_
  have B9 := B0.setCell (p := ⟨w.heap.size + 1, 0, none⟩) (by show _ ≤ w.heap.size + 1; omega) (.slice as1 ls ks)
  exact ⟨_, _, _, zs, rfl, (hs.store V1 _).al _, by rw [ns]; exact g2, by rw [ns]; exact g3, by rw [ns]; exact g4, B9.alloc (by rw [size_set]; omega) _⟩

theorem two_le {x r : Int} (h4 : 4 ≤ x) (hr : 0 ≤ r) (h : x < (r + 1) * (r + 1)) : 2 ≤ r := by
  rcases Int.lt_or_le r 2 with h1 | h1
  · have : r = 0 ∨ r = 1 := by omega
    rcases this with rfl | rfl <;> omega
  · exact h1
theorem quot_of {x q r m : Int} (h : x = q * r + m) (h0 : 0 ≤ m) (h1 : m < r) : q = x / r := by
  rw [h, Int.add_comm, Int.add_mul_ediv_right _ _ (by omega), Int.ediv_eq_zero_of_lt h0 h1, Int.zero_add]
theorem fits_of {x q r m : Int} (lo : Low r) (hx : x < pw 4096) (r2 : 2 ≤ r) (q0 : 0 ≤ q) (m0 : 0 ≤ m) (h : x = q * r + m) : r + q < pw 4096 := by
  have h1 := lo.lt
  have h2 : q * 2 ≤ q * r := Int.mul_le_mul_of_nonneg_left r2 q0
  generalize pw 4096 = P at *
  omega
set_option maxHeartbeats 4000000 in
theorem root_great (a : Option Addr) (la ca : Nat) (xs : List Int) (w : World) (hx : Nt w a la ca xs) (HR : RootOk (num xs)) (h4 : 4 ≤ num xs) :
    Calls Try.prog 23 #[.agg #[.slice a la ca]] w fun e w' => ∃ a' l' c' zs, e = .returned (.agg #[.slice a' l' c']) ∧ Nt w' a' l' c' zs ∧ IsRoot (num xs) (num zs) ∧ Below w.heap.size w w' := by
  have B0 : Below w.heap.size w w := Below.refl _ _
  have hb3 : 2 < bitsN xs := by
    have ux : 0 < usedN xs := by
      rcases Nat.eq_zero_or_pos (usedN xs) with h | h
      · have := (num_eq_zero hx.limbs).2 h; omega
      · exact h
    obtain ⟨b, eb, b1, b2⟩ := bits_spec hx.limbs ux
    rcases Nat.lt_or_ge b 2 with h | h
    · have := p2_mono (show b + 1 ≤ 2 by omega)
      have h5 : (2 : Int) ^ 2 = 4 := by decide
      omega
    · omega
  have HHR : Hid (RootOk (num xs)) := HR
  obtain ⟨bb, hbb⟩ : ∃ b, bitsN xs = b := ⟨_, rfl⟩
  rw [hbb] at hb3
  clear HR
  go_enter Try.func23, Try.ntmps23
  go_wp2_with fail
  refine ent2 w _ _ _ _ (Q := fun W => Calls Try.prog _ _ W _) ?_
  intro x1 hb hs_x1 V0 V1
  replace hx := Nt.after hb hx
  replace B0 := step B0 hb
  clear hb hs_x1
  refine (nbits_any a la ca xs x1 hx).mono ?_
  rintro e x2 ⟨rfl, hb⟩
  replace V0 := Va.after hb V0
  replace V1 := Va.after hb V1
  replace hx := Nt.after hb hx
  replace B0 := step B0 hb
  clear hb
  rw [hbb]
  have c_V0 := V0.cell
  have f_V0 := V0.frozen 0
  have l_V0 := V0.lt
  have m_V0 := Nat.le_of_lt l_V0
  have c_V1 := V1.cell
  have f_V1 := V1.frozen 0
  have l_V1 := V1.lt
  have m_V1 := Nat.le_of_lt l_V1
  go_wp2_with fail
  refine (above_any a la ca xs x2 hx HHR.out h4).mono ?_
  rintro e x3 ⟨ar, lr, kr, zr, rfl, hr, lo, ab, po, hb⟩
  replace V0 := Va.after hb V0
  replace V1 := Va.after hb V1
  replace hx := Nt.after hb hx
  replace B0 := step B0 hb
  clear hb
  clear c_V0 f_V0 l_V0 m_V0 c_V1 f_V1 l_V1 m_V1
  have c_V0 := V0.cell
  have f_V0 := V0.frozen 0
  have l_V0 := V0.lt
  have m_V0 := Nat.le_of_lt l_V0
  have c_V1 := V1.cell
  have f_V1 := V1.frozen 0
  have l_V1 := V1.lt
  have m_V1 := Nat.le_of_lt l_V1
  go_wp2_with fail
  refine ent1 x3 _ _ (Q := fun W => Code.wp Try.prog _ _ _ W) ?_
  intro x4 hb hs_x4 Vr
  replace V0 := Va.after hb V0
  replace V1 := Va.after hb V1
  replace hx := Nt.after hb hx
  replace hr := Nt.after hb hr
  replace B0 := step B0 hb
  clear hb hs_x4
  have hsz1 := V1.lt
  have hsz3 := Vr.lt
  clear hbb hb3
  go_loopw [] (fun wr => ∃ (ar : Option Addr) (lr kr : Nat) (zr : List Int), Hid (Va wr w.heap.size 27 #[.slice a la ca]) ∧ Hid (Va wr (w.heap.size + 1) 27 #[.slice none 0 0]) ∧ Hid (Va wr x3.heap.size 27 #[.slice ar lr kr]) ∧ Hid (Nt wr a la ca xs) ∧ Hid (Nt wr ar lr kr zr) ∧ Low (num zr) ∧ Hid (num xs < (num zr + 1) * (num zr + 1)) ∧ Hid (0 < num zr) ∧ Hid (Below w.heap.size w wr)) (fun wr => varNum wr x3.heap.size)
  case atStart => exact ⟨ar, lr, kr, zr, V0, V1, Vr, hx, hr, lo, ab, po, B0⟩
  case round =>
    clear V0 V1 Vr hx hr lo ab po B0 hsz1 hsz3
    obtain ⟨ar, lr, kr, zr, V0, V1, Vr, hx, hr, lo, ab, po, B0⟩ := hrel
    replace V0 : Va wr w.heap.size 27 #[.slice a la ca] := V0
    replace V1 : Va wr (w.heap.size + 1) 27 #[.slice none 0 0] := V1
    replace Vr : Va wr x3.heap.size 27 #[.slice ar lr kr] := Vr
    replace hx : Nt wr a la ca xs := hx
    replace hr : Nt wr ar lr kr zr := hr
    replace B0 : Below w.heap.size w wr := B0
    have r2 := two_le h4 (Int.le_of_lt po.out) ab.out
    have xx0 := hx.nonneg
    have hme := varNum_eq Vr hr
    have c_V0 := V0.cell
    have f_V0 := V0.frozen 0
    have l_V0 := V0.lt
    have m_V0 := Nat.le_of_lt l_V0
    have c_V1 := V1.cell
    have f_V1 := V1.frozen 0
    have l_V1 := V1.lt
    have m_V1 := Nat.le_of_lt l_V1
    have c_Vr := Vr.cell
    have f_Vr := Vr.frozen 0
    have l_Vr := Vr.lt
    have m_Vr := Nat.le_of_lt l_Vr
    go_wp2_with fail
    refine (ndiv_ok a ar la ca lr kr xs zr wr hx hr (by omega)).mono ?_
    rintro e x11 ⟨ao, lo1, ko, am, lm, km, zo, zm, rfl, ho, hm, d1, d2, hb⟩
    replace V0 := Va.after hb V0
    replace V1 := Va.after hb V1
    replace Vr := Va.after hb Vr
    replace hx := Nt.after hb hx
    replace hr := Nt.after hb hr
    replace B0 := step B0 hb
    clear hb
    have m0 := hm.nonneg
    have o0 := ho.nonneg
    have hq := quot_of d1 m0 d2
    have hfit := fits_of lo hx.lt r2 o0 m0 d1
    clear hm d1 d2
    clear c_V0 f_V0 l_V0 m_V0 c_V1 f_V1 l_V1 m_V1 c_Vr f_Vr l_Vr m_Vr
    have c_V0 := V0.cell
    have f_V0 := V0.frozen 0
    have l_V0 := V0.lt
    have m_V0 := Nat.le_of_lt l_V0
    have c_V1 := V1.cell
    have f_V1 := V1.frozen 0
    have l_V1 := V1.lt
    have m_V1 := Nat.le_of_lt l_V1
    have c_Vr := Vr.cell
    have f_Vr := Vr.frozen 0
    have l_Vr := Vr.lt
    have m_Vr := Nat.le_of_lt l_Vr
    go_wp2_with fail
    refine ent2 x11 _ _ _ _ (Q := fun W => Calls Try.prog _ _ W _) ?_
    intro x12 hb hs_x12 Vo Vm
    replace V0 := Va.after hb V0
    replace V1 := Va.after hb V1
    replace Vr := Va.after hb Vr
    replace hx := Nt.after hb hx
    replace hr := Nt.after hb hr
    replace ho := Nt.after hb ho
    replace B0 := step B0 hb
    clear hb hs_x12
    refine (nadd_ok ar ao lr kr lo1 ko zr zo x12 hr ho hfit).mono ?_
    rintro e x13 ⟨as1, ls, ks, zs, rfl, hs, ns, hb⟩
    replace V0 := Va.after hb V0
    replace V1 := Va.after hb V1
    replace Vr := Va.after hb Vr
    replace Vo := Va.after hb Vo
    replace Vm := Va.after hb Vm
    replace hx := Nt.after hb hx
    replace hr := Nt.after hb hr
    replace ho := Nt.after hb ho
    replace B0 := step B0 hb
    clear hb
    rw [hq] at ns
    clear c_V0 f_V0 l_V0 m_V0 c_V1 f_V1 l_V1 m_V1 c_Vr f_Vr l_Vr m_Vr
    have c_V0 := V0.cell
    have f_V0 := V0.frozen 0
    have l_V0 := V0.lt
    have m_V0 := Nat.le_of_lt l_V0
    have c_V1 := V1.cell
    have f_V1 := V1.frozen 0
    have l_V1 := V1.lt
    have m_V1 := Nat.le_of_lt l_V1
    have c_Vr := Vr.cell
    have f_Vr := Vr.frozen 0
    have l_Vr := Vr.lt
    have m_Vr := Nat.le_of_lt l_Vr
    have c_Vo := Vo.cell
    have f_Vo := Vo.frozen 0
    have l_Vo := Vo.lt
    have m_Vo := Nat.le_of_lt l_Vo
    have c_Vm := Vm.cell
    have f_Vm := Vm.frozen 0
    have l_Vm := Vm.lt
    have m_Vm := Nat.le_of_lt l_Vm
    go_wp2_with fail
    refine ent1 x13 _ _ (Q := fun W => Calls Try.prog _ _ W _) ?_
    intro x14 hb hs_x14 Vs
    replace V0 := Va.after hb V0
    replace V1 := Va.after hb V1
    replace Vr := Va.after hb Vr
    replace Vo := Va.after hb Vo
    replace Vm := Va.after hb Vm
    replace hx := Nt.after hb hx
    replace hr := Nt.after hb hr
    replace ho := Nt.after hb ho
    replace hs := Nt.after hb hs
    replace B0 := step B0 hb
    clear hb hs_x14
    refine (nright_ok as1 ls ks zs 1 x14 hs (by decide)).mono ?_
    rintro e x15 ⟨an, ln, kn, zn, rfl, hn, nn, hb⟩
    replace V0 := Va.after hb V0
    replace V1 := Va.after hb V1
    replace Vr := Va.after hb Vr
    replace Vo := Va.after hb Vo
    replace Vm := Va.after hb Vm
    replace Vs := Va.after hb Vs
    replace hx := Nt.after hb hx
    replace hr := Nt.after hb hr
    replace ho := Nt.after hb ho
    replace hs := Nt.after hb hs
    replace B0 := step B0 hb
    clear hb
    rw [ns, show (2 : Int) ^ 1 = 2 by decide] at nn
    clear c_V0 f_V0 l_V0 m_V0 c_V1 f_V1 l_V1 m_V1 c_Vr f_Vr l_Vr m_Vr c_Vo f_Vo l_Vo m_Vo c_Vm f_Vm l_Vm m_Vm
    have c_V0 := V0.cell
    have f_V0 := V0.frozen 0
    have l_V0 := V0.lt
    have m_V0 := Nat.le_of_lt l_V0
    have c_V1 := V1.cell
    have f_V1 := V1.frozen 0
    have l_V1 := V1.lt
    have m_V1 := Nat.le_of_lt l_V1
    have c_Vr := Vr.cell
    have f_Vr := Vr.frozen 0
    have l_Vr := Vr.lt
    have m_Vr := Nat.le_of_lt l_Vr
    have c_Vo := Vo.cell
    have f_Vo := Vo.frozen 0
    have l_Vo := Vo.lt
    have m_Vo := Nat.le_of_lt l_Vo
    have c_Vm := Vm.cell
    have f_Vm := Vm.frozen 0
    have l_Vm := Vm.lt
    have m_Vm := Nat.le_of_lt l_Vm
    have c_Vs := Vs.cell
    have f_Vs := Vs.frozen 0
    have l_Vs := Vs.lt
    have m_Vs := Nat.le_of_lt l_Vs
    go_wp2_with fail
    refine ent1 x15 _ _ (Q := fun W => Calls Try.prog _ _ W _) ?_
    intro x16 hb hs_x16 Vn
    replace V0 := Va.after hb V0
    replace V1 := Va.after hb V1
    replace Vr := Va.after hb Vr
    replace Vo := Va.after hb Vo
    replace Vm := Va.after hb Vm
    replace Vs := Va.after hb Vs
    replace hx := Nt.after hb hx
    replace hr := Nt.after hb hr
    replace ho := Nt.after hb ho
    replace hs := Nt.after hb hs
    replace hn := Nt.after hb hn
    replace B0 := step B0 hb
    clear hb hs_x16
    refine (ncompare_any an ar ln kn lr kr zn zr x16 hn hr).mono ?_
    rintro e x17 ⟨rfl, hb⟩
    replace V0 := Va.after hb V0
    replace V1 := Va.after hb V1
    replace Vr := Va.after hb Vr
    replace Vo := Va.after hb Vo
    replace Vm := Va.after hb Vm
    replace Vs := Va.after hb Vs
    replace Vn := Va.after hb Vn
    replace hx := Nt.after hb hx
    replace hr := Nt.after hb hr
    replace ho := Nt.after hb ho
    replace hs := Nt.after hb hs
    replace hn := Nt.after hb hn
    replace B0 := step B0 hb
    clear hb
    clear c_V0 f_V0 l_V0 m_V0 c_V1 f_V1 l_V1 m_V1 c_Vr f_Vr l_Vr m_Vr c_Vo f_Vo l_Vo m_Vo c_Vm f_Vm l_Vm m_Vm c_Vs f_Vs l_Vs m_Vs
    have c_V0 := V0.cell
    have f_V0 := V0.frozen 0
    have l_V0 := V0.lt
    have m_V0 := Nat.le_of_lt l_V0
    have c_V1 := V1.cell
    have f_V1 := V1.frozen 0
    have l_V1 := V1.lt
    have m_V1 := Nat.le_of_lt l_V1
    have c_Vr := Vr.cell
    have f_Vr := Vr.frozen 0
    have l_Vr := Vr.lt
    have m_Vr := Nat.le_of_lt l_Vr
    have c_Vo := Vo.cell
    have f_Vo := Vo.frozen 0
    have l_Vo := Vo.lt
    have m_Vo := Nat.le_of_lt l_Vo
    have c_Vm := Vm.cell
    have f_Vm := Vm.frozen 0
    have l_Vm := Vm.lt
    have m_Vm := Nat.le_of_lt l_Vm
    have c_Vs := Vs.cell
    have f_Vs := Vs.frozen 0
    have l_Vs := Vs.lt
    have m_Vs := Nat.le_of_lt l_Vs
    have c_Vn := Vn.cell
    have f_Vn := Vn.frozen 0
    have l_Vn := Vn.lt
    have m_Vn := Nat.le_of_lt l_Vn
    clear hq hfit
    have na := newton_above po.out xx0
    have ne := fun h => newton_end (a := num xs) po.out h
    rw [← nn] at na ne
    have q0 : 0 ≤ num xs / num zr := Int.ediv_nonneg xx0 (by omega)
    have np : 0 < num zn := by rw [nn]; omega
    clear nn ns q0
    go_wp2_with fail
    · rename_i hc
      have hge : num zr ≤ num zn := by
        rcases Int.lt_or_le (num zn) (num zr) with h | h
        · rw [cmp3_lt h] at hc; omega
        · exact h
      refine bodyPost_ret (results_c rfl rfl (V1.set _)) rfl ?_
      exact ⟨_, _, _, zr, rfl, hr.store V1 _, ⟨by omega, ne hge, ab.out⟩, B0.setCell (p := ⟨w.heap.size + 1, 0, none⟩) (by show _ ≤ w.heap.size + 1; omega) _⟩
    · rename_i hc
      have hlt : num zn < num zr := by
        rcases Int.lt_trichotomy (num zn) (num zr) with h | h | h
        · exact h
        · rw [cmp3_eq h] at hc; omega
        · rw [cmp3_gt h] at hc; omega
      have S3 := Vr.set (.slice an ln kn)
      have N3 := hn.store Vr (.slice an ln kn)
      have hme2 := varNum_eq S3 N3
      have lo2 : Low (num zn) := ⟨by have h7 := lo.lt; generalize pw 4096 = P at h7 ⊢; omega⟩
      refine ⟨⟨an, ln, kn, zn, V0.other (p := ⟨x3.heap.size, 0, none⟩) (by show _ ≠ x3.heap.size; omega) _, V1.other (p := ⟨x3.heap.size, 0, none⟩) (by show _ ≠ x3.heap.size; omega) _, S3, hx.store Vr _, N3, lo2, na, np, B0.setCell (p := ⟨x3.heap.size, 0, none⟩) (by show _ ≤ x3.heap.size; omega) _⟩, ?_⟩
      rw [hme2, hme]; omega
end Go.Proofs.Ytckfgolijlggbaa
namespace Go.Proofs.Ytckfgolijlggbaa
open Go.RowKit Go.Shelf
set_option linter.unusedVariables false
theorem small_root {xs : List Int} (h : Limbs xs) (h4 : num xs < 4) : 0 ≤ bitsN xs ∧ bitsN xs ≤ 2 ∧ IsRoot (num xs) (min (bitsN xs) 1) := by
  rcases Nat.eq_zero_or_pos (usedN xs) with h0 | h0
  · rw [bits_nought h0, (num_eq_zero h).2 h0]
    refine ⟨by decide, by decide, ?_⟩
    exact ⟨by decide, by decide, by decide⟩
  · obtain ⟨k, e, k1, k2⟩ := bits_spec h h0
    have hk : k < 2 := by
      rcases Nat.lt_or_ge k 2 with h | h
      · exact h
      · have := p2_mono h
        rw [show (2 : Int) ^ 2 = 4 by decide] at this
        omega
    have p0 := p2_pos k
    rw [e]
    refine ⟨by omega, by omega, ?_⟩
    rw [show min ((k : Int) + 1) 1 = 1 by omega]
    refine ⟨by decide, by omega, by omega⟩
set_option maxHeartbeats 4000000 in
theorem root_little (a : Option Addr) (la ca : Nat) (xs : List Int) (w : World) (hx : Nt w a la ca xs) (h4 : num xs < 4) :
    Calls Try.prog 23 #[.agg #[.slice a la ca]] w fun e w' => ∃ a' l' c' zs, e = .returned (.agg #[.slice a' l' c']) ∧ Nt w' a' l' c' zs ∧ IsRoot (num xs) (num zs) ∧ Below w.heap.size w w' := by
  have B0 : Below w.heap.size w w := Below.refl _ _
  obtain ⟨s1, s2, s3⟩ := small_root hx.limbs h4
  obtain ⟨bb, hbb⟩ : ∃ b, bitsN xs = b := ⟨_, rfl⟩
  rw [hbb] at s1 s2 s3
  have wr : Word (min bb 1) := ⟨by omega, by omega⟩
  go_enter Try.func23, Try.ntmps23
  go_wp2_with fail
  refine ent2 w _ _ _ _ (Q := fun W => Calls Try.prog _ _ W _) ?_
  intro x1 hb hs_x1 V0 V1
  replace hx := Nt.after hb hx
  replace B0 := step B0 hb
  clear hb hs_x1
  refine (nbits_any a la ca xs x1 hx).mono ?_
  rintro e x2 ⟨rfl, hb⟩
  replace V0 := Va.after hb V0
  replace V1 := Va.after hb V1
  replace hx := Nt.after hb hx
  replace B0 := step B0 hb
  clear hb
  rw [hbb]
  have c_V0 := V0.cell
  have f_V0 := V0.frozen 0
  have l_V0 := V0.lt
  have m_V0 := Nat.le_of_lt l_V0
  have c_V1 := V1.cell
  have f_V1 := V1.frozen 0
  have l_V1 := V1.lt
  have m_V1 := Nat.le_of_lt l_V1
  go_wp2_with fail
  refine (nbits_any a la ca xs x2 hx).mono ?_
  rintro e x3 ⟨rfl, hb⟩
  replace V0 := Va.after hb V0
  replace V1 := Va.after hb V1
  replace hx := Nt.after hb hx
  replace B0 := step B0 hb
  clear hb
  rw [hbb]
  clear c_V0 f_V0 l_V0 m_V0 c_V1 f_V1 l_V1 m_V1
  have c_V0 := V0.cell
  have f_V0 := V0.frozen 0
  have l_V0 := V0.lt
  have m_V0 := Nat.le_of_lt l_V0
  have c_V1 := V1.cell
  have f_V1 := V1.frozen 0
  have l_V1 := V1.lt
  have m_V1 := Nat.le_of_lt l_V1
  go_wp2_with fail
  refine (small_any (min bb 1) wr x3).mono ?_
  rintro e x4 ⟨ar, lr, kr, zr, rfl, hr, nr, hb⟩
  replace V0 := Va.after hb V0
  replace V1 := Va.after hb V1
  replace hx := Nt.after hb hx
  replace B0 := step B0 hb
  clear hb
  clear c_V0 f_V0 l_V0 m_V0 c_V1 f_V1 l_V1 m_V1
  have c_V0 := V0.cell
  have f_V0 := V0.frozen 0
  have l_V0 := V0.lt
  have m_V0 := Nat.le_of_lt l_V0
  have c_V1 := V1.cell
  have f_V1 := V1.frozen 0
  have l_V1 := V1.lt
  have m_V1 := Nat.le_of_lt l_V1
  go_wp2_with fail
  refine bodyPost_ret (results_c rfl rfl (V1.set _)) rfl ?_
  exact ⟨_, _, _, zr, rfl, hr.store V1 _, by rw [nr]; exact s3, B0.setCell (p := ⟨w.heap.size + 1, 0, none⟩) (by show _ ≤ w.heap.size + 1; omega) _⟩
theorem root_below : ∀ (n : Nat), RootOk (n : Int) := by
  intro n
  induction n with
  | zero =>
    intro a la ca xs w hx h
    have := hx.nonneg
    omega
  | succ n ih =>
    intro a la ca xs w hx h
    rcases Int.lt_or_le (num xs) 4 with h4 | h4
    · exact root_little a la ca xs w hx h4
    · exact root_great a la ca xs w hx (fun b lb cb ys W hy hlt => ih b lb cb ys W hy (by omega)) h4
theorem root_any (a : Option Addr) (la ca : Nat) (xs : List Int) (w : World) (hx : Nt w a la ca xs) :
    Calls Try.prog 23 #[.agg #[.slice a la ca]] w fun e w' => ∃ a' l' c' zs, e = .returned (.agg #[.slice a' l' c']) ∧ Nt w' a' l' c' zs ∧ IsRoot (num xs) (num zs) ∧ Below w.heap.size w w' :=
  root_below ((num xs).toNat + 1) a la ca xs w hx (by have := hx.nonneg; omega)
end Go.Proofs.Ytckfgolijlggbaa
namespace Go.Proofs.Ytckfgolijlggbaa
open Go.RowKit Go.Shelf
set_option linter.unusedVariables false

/-- A number and a code are answered. -/
def Some1 (w w' : World) (e : Ending) : Prop := ∃ a l c zs k, e = .returned (.tuple #[.agg #[.slice a l c], .int .i64 k]) ∧ Nt w' a l c zs ∧ Below w.heap.size w w'
/-- A number is answered. -/
def Some0 (w w' : World) (e : Ending) : Prop := ∃ a l c zs, e = .returned (.agg #[.slice a l c]) ∧ Nt w' a l c zs ∧ Below w.heap.size w w'
/-- Two numbers and a code are answered. -/
def Some2 (w w' : World) (e : Ending) : Prop := ∃ a l c zs a' l' c' zs' k, e = .returned (.tuple #[.agg #[.slice a l c], .agg #[.slice a' l' c'], .int .i64 k]) ∧ Nt w' a l c zs ∧ Nt w' a' l' c' zs' ∧ Below w.heap.size w w'
theorem nadd_some (a b : Option Addr) (la ca lb cb : Nat) (xs ys : List Int) (w : World) (ha : Nt w a la ca xs) (hb : Nt w b lb cb ys) :
    Calls Try.prog 20 #[.agg #[.slice a la ca], .agg #[.slice b lb cb]] w fun e w' => Some1 w w' e := by
  rcases Int.lt_or_le (num xs + num ys) (pw 4096) with h | h
  · refine (nadd_ok a b la ca lb cb xs ys w ha hb h).mono ?_
    rintro e w' ⟨a1, l1, c1, z1, rfl, h1, -, b1⟩
    exact ⟨a1, l1, c1, z1, 0, rfl, h1, b1⟩
  · refine (nadd_long a b la ca lb cb xs ys w ha hb h).mono ?_
    rintro e w' ⟨rfl, b1⟩
    exact ⟨none, 0, 0, [], 3, rfl, Nt.nil _, b1⟩
theorem nmul_some (a b : Option Addr) (la ca lb cb : Nat) (xs ys : List Int) (w : World) (ha : Nt w a la ca xs) (hb : Nt w b lb cb ys) :
    Calls Try.prog 13 #[.agg #[.slice a la ca], .agg #[.slice b lb cb]] w fun e w' => Some1 w w' e := by
  rcases Int.lt_or_le (num xs * num ys) (pw 4096) with h | h
  · refine (nmul_ok a b la ca lb cb xs ys w ha hb h).mono ?_
    rintro e w' ⟨a1, l1, c1, z1, rfl, h1, -, b1⟩
    exact ⟨a1, l1, c1, z1, 0, rfl, h1, b1⟩
  · refine (nmul_long a b la ca lb cb xs ys w ha hb h).mono ?_
    rintro e w' ⟨rfl, b1⟩
    exact ⟨none, 0, 0, [], 3, rfl, Nt.nil _, b1⟩
theorem ndiv_some (a b : Option Addr) (la ca lb cb : Nat) (xs ys : List Int) (w : World) (ha : Nt w a la ca xs) (hb : Nt w b lb cb ys) :
    Calls Try.prog 21 #[.agg #[.slice a la ca], .agg #[.slice b lb cb]] w fun e w' => Some2 w w' e := by
  by_cases h0 : num ys = 0
  · refine (ndiv_nought a b la ca lb cb xs ys w ha hb h0).mono ?_
    rintro e w' ⟨rfl, b1⟩
    exact ⟨none, 0, 0, [], none, 0, 0, [], 4, rfl, Nt.nil _, Nt.nil _, b1⟩
  · refine (ndiv_ok a b la ca lb cb xs ys w ha hb h0).mono ?_
    rintro e w' ⟨a1, m1, c1, a2, m2, c2, qs, rs, rfl, h1, h2, -, -, b1⟩
    exact ⟨a1, m1, c1, qs, a2, m2, c2, rs, 0, rfl, h1, h2, b1⟩
theorem ngcd_some (a b : Option Addr) (la ca lb cb : Nat) (xs ys : List Int) (w : World) (ha : Nt w a la ca xs) (hb : Nt w b lb cb ys) :
    Calls Try.prog 10 #[.agg #[.slice a la ca], .agg #[.slice b lb cb]] w fun e w' => Some0 w w' e := by
  refine (ngcd_any a b la ca lb cb xs ys w ha hb).mono ?_
  rintro e w' ⟨a1, l1, c1, z1, rfl, h1, -, b1⟩
  exact ⟨a1, l1, c1, z1, rfl, h1, b1⟩
theorem root_some (a : Option Addr) (la ca : Nat) (xs : List Int) (w : World) (ha : Nt w a la ca xs) :
    Calls Try.prog 23 #[.agg #[.slice a la ca]] w fun e w' => Some0 w w' e := by
  refine (root_any a la ca xs w ha).mono ?_
  rintro e w' ⟨a1, l1, c1, z1, rfl, h1, -, b1⟩
  exact ⟨a1, l1, c1, z1, rfl, h1, b1⟩
theorem pow_some (a : Option Addr) (la ca : Nat) (xs : List Int) (t : Int) (w : World) (ha : Nt w a la ca xs) (ht : t ≤ 9223372036854775807) :
    Calls Try.prog 22 #[.agg #[.slice a la ca], .int .i64 t] w fun e w' => Some1 w w' e := by
  rcases Int.lt_or_le t 0 with h | h
  · refine (pow_neg a la ca t w h).mono ?_
    rintro e w' ⟨rfl, b1⟩
    exact ⟨none, 0, 0, [], 2, rfl, Nt.nil _, b1⟩
  · obtain ⟨n, rfl⟩ : ∃ n : Nat, t = n := ⟨t.toNat, by omega⟩
    refine (pow_any a la ca xs n w ha (by omega)).mono ?_
    rintro e w' (⟨a1, l1, c1, z1, rfl, h1, -, b1⟩ | ⟨rfl, -, b1⟩)
    · exact ⟨a1, l1, c1, z1, 0, rfl, h1, b1⟩
    · exact ⟨none, 0, 0, [], 3, rfl, Nt.nil _, b1⟩
theorem nleft_some (a : Option Addr) (la ca : Nat) (xs : List Int) (t : Int) (w : World) (ha : Nt w a la ca xs) :
    Calls Try.prog 14 #[.agg #[.slice a la ca], .int .i64 t] w fun e w' => Some1 w w' e := by
  rcases Int.lt_or_le t 0 with h | h
  · refine (nleft_neg a la ca xs t w ha h).mono ?_
    rintro e w' ⟨rfl, b1⟩
    exact ⟨none, 0, 0, [], 2, rfl, Nt.nil _, b1⟩
  · by_cases hf : num xs = 0 ∨ bitsN xs + t ≤ 262144
    · obtain ⟨n, rfl⟩ : ∃ n : Nat, t = n := ⟨t.toNat, by omega⟩
      refine (nleft_ok a la ca xs n w ha hf).mono ?_
      rintro e w' ⟨a1, l1, c1, z1, rfl, h1, -, b1⟩
      exact ⟨a1, l1, c1, z1, 0, rfl, h1, b1⟩
    · refine (nleft_long a la ca xs t w ha h (fun h' => hf (.inl h')) (by omega)).mono ?_
      rintro e w' ⟨rfl, b1⟩
      exact ⟨none, 0, 0, [], 3, rfl, Nt.nil _, b1⟩
theorem nright_some (a : Option Addr) (la ca : Nat) (xs : List Int) (t : Int) (w : World) (ha : Nt w a la ca xs) (ht : t ≤ 9223372036854775807) :
    Calls Try.prog 15 #[.agg #[.slice a la ca], .int .i64 t] w fun e w' => Some1 w w' e := by
  rcases Int.lt_or_le t 0 with h | h
  · refine (nright_neg a la ca xs t w ha h).mono ?_
    rintro e w' ⟨rfl, b1⟩
    exact ⟨none, 0, 0, [], 2, rfl, Nt.nil _, b1⟩
  · obtain ⟨n, rfl⟩ : ∃ n : Nat, t = n := ⟨t.toNat, by omega⟩
    refine (nright_ok a la ca xs n w ha (by omega)).mono ?_
    rintro e w' ⟨a1, l1, c1, z1, rfl, h1, -, b1⟩
    exact ⟨a1, l1, c1, z1, 0, rfl, h1, b1⟩

/-- A list of lists that grows in memory of the call's own. -/
def Grl (w : World) (B : Nat) (v : Value) (ss : List Value) : Prop := w.ownsRow B 22 1 v ss.length ss
theorem Grl.nil (w : World) (B : Nat) : Grl w B (.slice none 0 0) [] := ⟨rfl, .inl ⟨rfl, rfl⟩⟩
theorem Grl.block {w : World} {B : Nat} {v : Value} {ss : List Value} (h : Grl w B v ss) : ∀ k, v.ownBlock = some k → B ≤ k := by
  obtain ⟨h1, h2 | ⟨g, cap, cur, rfl, hB, hh, hc, hm, hs, ht⟩⟩ := h
  · obtain ⟨rfl, h0⟩ := h2
    intro k hk; cases hk
  · intro k hk; cases hk; exact hB
theorem Grl.after {w w' : World} {B : Nat} {v : Value} {ss : List Value} (hb : Below w.heap.size w w') (h : Grl w B v ss) : Grl w' B v ss := by
  obtain ⟨h1, h2 | ⟨g, cap, cur, e, hB, hh, hc, hm, hs, ht⟩⟩ := h
  · exact ⟨h1, .inl h2⟩
  · refine ⟨h1, .inr ⟨g, cap, cur, e, hB, ?_, hc, hm, hs, ht⟩⟩
    have hlt : g < w.heap.size := by
      rcases Nat.lt_or_ge g w.heap.size with h' | h'
      · exact h'
      · rw [Array.getElem?_eq_none h'] at hh; cases hh
    rw [hb.block g hlt]; exact hh
theorem info24 : (Try.prog.info? 22).map (fun i => (i.zero, i.size, i.bytes)) = some (some (.slice none 0 0), 1, 24) := by kernel_rfl
/-- append of one list to a list of lists; all blocks but its own stay. -/
theorem wpList_appl {ops : Array Oper} {rest : List Oper} {o : Oper} {a : Act} {w : World} {Q : Exit → Act → World → Prop} (hgd : o.guard = none) (s x : Operand)
    (ho : o.op = .call { callee := .builtin .append, args := #[s, x], argTypes := #[45, 45] })
    (B : Nat) (v : Value) (ss : List Value) (hs : a.eval s = v) (hg : Grl w B v ss) (b c : Nat) (p : Option Addr) (m k : Nat) (hx : a.eval x = .slice (some ⟨b, 0, none⟩) 1 c) (hn : w.cell? ⟨b, 0, none⟩ = some (.slice p m k))
    (hb : ss.length + 1 ≤ 1000000) (hB : B ≤ w.heap.size)
    (h : ∀ v' w', Hid (Grl w' B v' (ss ++ [.slice p m k])) → Below B w w' → Hid (∀ k, k < w.heap.size → some k ≠ v.ownBlock → w'.heap[k]? = w.heap[k]?) → wpList Try.prog ops Q rest (a.put o.dst v') w') : wpList Try.prog ops Q (o :: rest) a w := by
  obtain ⟨i0, hi, hz0, hz1, hz2⟩ := info_parts info24
  refine wpList_append_own w hgd s x _ ho B 22 i0 (.slice none 0 0) 1 24 Try.underlying45 hi hz0 hz1 hz2 rfl (by decide) v ss.length ss hs hg ⟨b, 0, none⟩ 1 c [.slice p m k] hx (by simp) ?_ ?_ (by unfold maxLen; omega) (by omega) hB ?_
  · intro j u hu
    cases j with
    | zero => simp at hu; subst hu; exact hn
    | succ j => simp at hu
  · intro v hv
    simp at hv; subst hv; rfl
  · intro v' w' h2 h3 _
    refine h v' w' ?_ ((Below.refl B w).grown h3 hB hg.block) (fun k hk hne => h3.block k hk hne)
    show Grl w' B v' (ss ++ [.slice p m k])
    unfold Grl
    rw [List.length_append]
    exact h2
end Go.Proofs.Ytckfgolijlggbaa
namespace Go.Proofs.Ytckfgolijlggbaa
open Go.RowKit Go.Shelf

theorem long_no (a b : Option Addr) (la ca lb cb : Nat) (xs ys : List Int) (w : World) (ha : Sl w a la xs) (hb : Sl w b lb ys) (h1 : la ≤ 40000000000000) (h2 : lb ≤ 40000000000000) (u1 : usedN xs ≤ 4096) (u2 : usedN ys ≤ 4096) :
    Calls Try.prog 7 #[.slice a la ca, .slice b lb cb] w fun e w' => e = .returned (.bool false) ∧ Below w.heap.size w w' := by
  have A := rlong_any a la ca xs w ha h1
  have B := rlong_any b lb cb ys w hb h2
  have e1 : decide ((4096 : Int) < usedN xs) = false := by simp; omega
  have e2 : decide ((4096 : Int) < usedN ys) = false := by simp; omega
  rw [e1] at A
  rw [e2] at B
  clear e1 e2
  go_enter Try.func7, Try.ntmps7
  go_wp2_with fail
  refine A.mono ?_
  rintro e w1 ⟨rfl, rfl⟩
  go_wp2_with fail
  refine B.mono ?_
  rintro e w1 ⟨rfl, rfl⟩
  go_wp2_with fail
  go_ret
  exact ⟨rfl, Below.refl _ _⟩
theorem long_yes (a b : Option Addr) (la ca lb cb : Nat) (xs ys : List Int) (w : World) (ha : Sl w a la xs) (hb : Sl w b lb ys) (h1 : la ≤ 40000000000000) (h2 : lb ≤ 40000000000000) (u : 4096 < usedN xs ∨ 4096 < usedN ys) :
    Calls Try.prog 7 #[.slice a la ca, .slice b lb cb] w fun e w' => e = .returned (.bool true) ∧ Below w.heap.size w w' := by
  have A := rlong_any a la ca xs w ha h1
  have B := rlong_any b lb cb ys w hb h2
  by_cases u1 : 4096 < usedN xs
  · have e1 : decide ((4096 : Int) < usedN xs) = true := by simp; omega
    rw [e1] at A
    clear e1
    go_enter Try.func7, Try.ntmps7
    go_wp2_with fail
    refine A.mono ?_
    rintro e w1 ⟨rfl, rfl⟩
    go_wp2_with fail
    go_ret
    exact ⟨rfl, Below.refl _ _⟩
  · have e1 : decide ((4096 : Int) < usedN xs) = false := by simp; omega
    have e2 : decide ((4096 : Int) < usedN ys) = true := by simp; omega
    rw [e1] at A
    rw [e2] at B
    clear e1 e2
    go_enter Try.func7, Try.ntmps7
    go_wp2_with fail
    refine A.mono ?_
    rintro e w1 ⟨rfl, rfl⟩
    go_wp2_with fail
    refine B.mono ?_
    rintro e w1 ⟨rfl, rfl⟩
    go_wp2_with fail
    go_ret
    exact ⟨rfl, Below.refl _ _⟩
end Go.Proofs.Ytckfgolijlggbaa
namespace Go.Proofs.Ytckfgolijlggbaa.natKeeps
open Go.RowKit Go.Shelf
set_option linter.unusedVariables false

set_option maxRecDepth 20000 in
set_option maxHeartbeats 4000000 in
theorem walk_a (a0 : Option Addr) (len0 cap0 : Nat) (z0 : List Int) (a1 : Option Addr) (len1 cap1 : Nat) (z1 : List Int) (t : Int) (w : World) (s0 : Sl w a0 len0 z0) (c0 : len0 ≤ cap0) (r0 : cap0 ≤ 17592186043904) (e0 : a0 = none → len0 = 0 ∧ cap0 = 0) (s1 : Sl w a1 len1 z1) (c1 : len1 ≤ cap1) (r1 : cap1 ≤ 17592186043904) (e1 : a1 = none → len1 = 0 ∧ cap1 = 0) (ht : (Lit.int .i64 t).wf = true) (hu : 4096 < usedN z0 ∨ 4096 < usedN z1) :
    Calls Try.prog 5 #[.slice a0 len0 cap0, .slice a1 len1 cap1, .int .i64 t] w fun e w' => e = .returned (.bool true) ∧ Below w.heap.size w w' := by
  have B0 : Below w.heap.size w w := Below.refl _ _
  go_enter Try.func5, Try.ntmps5
  go_wp2_with fail
  refine (nawake_any w).mono ?_
  rintro e x1 ⟨rfl, hb⟩
  replace s0 := s0.below hb (Nat.le_refl _)
  replace s1 := s1.below hb (Nat.le_refl _)
  replace B0 := step B0 hb
  clear hb
  go_wp2_with fail
  refine (long_yes a0 a1 len0 cap0 len1 cap1 z0 z1 x1 s0 s1 (by omega) (by omega) hu).mono ?_
  rintro e x2 ⟨rfl, hb⟩
  replace B0 := step B0 hb
  clear hb
  go_wp2_with fail
  go_ret
  exact ⟨rfl, B0⟩

set_option maxRecDepth 20000 in
set_option maxHeartbeats 4000000 in
theorem walk_b (a0 : Option Addr) (len0 cap0 : Nat) (z0 : List Int) (a1 : Option Addr) (len1 cap1 : Nat) (z1 : List Int) (t : Int) (w : World) (s0 : Sl w a0 len0 z0) (c0 : len0 ≤ cap0) (r0 : cap0 ≤ 17592186043904) (e0 : a0 = none → len0 = 0 ∧ cap0 = 0) (s1 : Sl w a1 len1 z1) (c1 : len1 ≤ cap1) (r1 : cap1 ≤ 17592186043904) (e1 : a1 = none → len1 = 0 ∧ cap1 = 0) (ht : (Lit.int .i64 t).wf = true) (u0 : usedN z0 ≤ 4096) (u1 : usedN z1 ≤ 4096) (hu : 600 < len0 + len1) :
    Calls Try.prog 5 #[.slice a0 len0 cap0, .slice a1 len1 cap1, .int .i64 t] w fun e w' => e = .returned (.bool true) ∧ Below w.heap.size w w' := by
  have B0 : Below w.heap.size w w := Below.refl _ _
  have ew : IntKind.i64.wrap ((len0 : Int) + len1) = (len0 : Int) + len1 := by rw [IntKind.wrap_i64]; omega
  have eg : (600 : Int) < (len0 : Int) + len1 := by omega
  go_enter Try.func5, Try.ntmps5
  go_wp2_with fail
  refine (nawake_any w).mono ?_
  rintro e x1 ⟨rfl, hb⟩
  replace s0 := s0.below hb (Nat.le_refl _)
  replace s1 := s1.below hb (Nat.le_refl _)
  replace B0 := step B0 hb
  clear hb
  go_wp2_with fail
  refine (long_no a0 a1 len0 cap0 len1 cap1 z0 z1 x1 s0 s1 (by omega) (by omega) u0 u1).mono ?_
  rintro e x2 ⟨rfl, hb⟩
  replace B0 := step B0 hb
  clear hb
  go_wp2_with fail
  go_ret
  exact ⟨rfl, B0⟩
end Go.Proofs.Ytckfgolijlggbaa.natKeeps
namespace Go.Proofs.Ytckfgolijlggbaa
open Go.RowKit Go.Shelf
set_option linter.unusedVariables false

abbrev N4 := Option Addr × Nat × Nat × List Int
/-- Variables with their numbers; nothing old has turned. -/
def Hd (w : World) (L : List (Nat × N4)) (W : World) : Prop := Below w.heap.size w W ∧ ∀ (i : Nat) (p : Nat × N4), L[i]? = some p → Va W p.1 27 #[.slice p.2.1 p.2.2.1 p.2.2.2.1] ∧ Nt W p.2.1 p.2.2.1 p.2.2.2.1 p.2.2.2.2
theorem Hd.after {w W W' : World} {L : List (Nat × N4)} (hb : Below W.heap.size W W') (h : Hd w L W) : Hd w L W' := ⟨step h.1 hb, fun i p hp => ⟨Va.after hb (h.2 i p hp).1, Nt.after hb (h.2 i p hp).2⟩⟩
theorem Hd.drw {w W : World} {L : List (Nat × N4)} (h : Hd w L W) : Hd w L W.drew := ⟨h.1.drew, fun i p hp => ⟨(h.2 i p hp).1, (h.2 i p hp).2⟩⟩
theorem Hd.nil {w W : World} (h : Below w.heap.size w W) : Hd w [] W := ⟨h, fun i p hp => by simp at hp⟩
theorem Hd.cons {w W : World} {L : List (Nat × N4)} (h : Hd w L W) {b : Nat} {a : Option Addr} {l c : Nat} {zs : List Int} (V : Va W b 27 #[.slice a l c]) (n : Nt W a l c zs) : Hd w ((b, a, l, c, zs) :: L) W := by
  refine ⟨h.1, fun i p hp => ?_⟩
  cases i with
  | zero => simp at hp; subst hp; exact ⟨V, n⟩
  | succ i => exact h.2 i p (by simpa using hp)
theorem Hd.at {w W : World} {L : List (Nat × N4)} (h : Hd w L W) (i : Nat) {b : Nat} {a : Option Addr} {l c : Nat} {zs : List Int} (e : L[i]? = some (b, a, l, c, zs)) : W.cell? ⟨b, 0, none⟩ = some (.slice a l c) := (h.2 i _ e).1.cell
theorem Hd.nt {w W : World} {L : List (Nat × N4)} (h : Hd w L W) (i : Nat) {b : Nat} {a : Option Addr} {l c : Nat} {zs : List Int} (e : L[i]? = some (b, a, l, c, zs)) : Nt W a l c zs := (h.2 i _ e).2
theorem Hd.lt {w W : World} {L : List (Nat × N4)} (h : Hd w L W) (i : Nat) {b : Nat} {a : Option Addr} {l c : Nat} {zs : List Int} (e : L[i]? = some (b, a, l, c, zs)) : b < W.heap.size := (h.2 i _ e).1.lt
theorem Own.aft {w w' : World} {g : Nat} {cs : List Int} (b : Below w.heap.size w w') (h : Own w g cs) : Own w' g cs := by
  refine h.below b ?_
  unfold Own at h
  rcases Nat.lt_or_ge g w.heap.size with h' | h'
  · exact h'
  · rw [Array.getElem?_eq_none h'] at h; cases h
/-- All that is held once the list of numbers is made. -/
def Kp (w : World) (L : List (Nat × N4)) (bl : Nat) (N : List N4) (g1 : Nat) (zx : List Int) (g2 : Nat) (zy : List Int) (W : World) : Prop :=
  Hd w L W ∧ Va W bl 27 (N.map fun p => Value.slice p.1 p.2.1 p.2.2.1).toArray ∧ (∀ (i : Nat) (p : N4), N[i]? = some p → Nt W p.1 p.2.1 p.2.2.1 p.2.2.2) ∧ Own W g1 zx ∧ Own W g2 zy
theorem Kp.after {w W W' : World} {L : List (Nat × N4)} {bl : Nat} {N : List N4} {g1 g2 : Nat} {zx zy : List Int} (hb : Below W.heap.size W W') (h : Kp w L bl N g1 zx g2 zy W) : Kp w L bl N g1 zx g2 zy W' :=
  ⟨h.1.after hb, Va.after hb h.2.1, fun i p e => Nt.after hb (h.2.2.1 i p e), Own.aft hb h.2.2.2.1, Own.aft hb h.2.2.2.2⟩
theorem Kp.cell {w W : World} {L : List (Nat × N4)} {bl : Nat} {N : List N4} {g1 g2 : Nat} {zx zy : List Int} (h : Kp w L bl N g1 zx g2 zy W) {i : Nat} {a : Option Addr} {l c : Nat} {zs : List Int} (e : N[i]? = some (a, l, c, zs)) : W.cell? ⟨bl, i, none⟩ = some (.slice a l c) := by
  rw [h.2.1.cellAt i]
  simp [e]
theorem Kp.nt {w W : World} {L : List (Nat × N4)} {bl : Nat} {N : List N4} {g1 g2 : Nat} {zx zy : List Int} (h : Kp w L bl N g1 zx g2 zy W) {i : Nat} {a : Option Addr} {l c : Nat} {zs : List Int} (e : N[i]? = some (a, l, c, zs)) : Nt W a l c zs := h.2.2.1 i _ e
/-- The lists that were told. -/
def Tl (W : World) (N : List N4) (ss : List Value) : Prop := ∀ (j : Nat) (v : Value), ss[j]? = some v → ∃ (p : N4) (g : Nat), N[j]? = some p ∧ v = .slice (some ⟨g, 0, none⟩) p.2.1 p.2.1 ∧ Own W g p.2.2.2
theorem Tl.keep {W W' : World} {N : List N4} {ss : List Value} (h : Tl W N ss) (f : ∀ g cs, Own W g cs → Own W' g cs) : Tl W' N ss := by
  intro j v hv
  obtain ⟨p, g, h1, h2, h3⟩ := h j v hv
  exact ⟨p, g, h1, h2, f g _ h3⟩
theorem Tl.nil (W : World) (N : List N4) : Tl W N [] := fun j v hv => by simp at hv
theorem Tl.push {W : World} {N : List N4} {ss : List Value} (h : Tl W N ss) {i : Nat} (hi : ss.length = i) {a : Option Addr} {l c : Nat} {zs : List Int} (e : N[i]? = some (a, l, c, zs)) {g : Nat} (o : Own W g zs) : Tl W N (ss ++ [.slice (some ⟨g, 0, none⟩) l l]) := by
  intro j v hv
  rcases Nat.lt_or_ge j ss.length with h' | h'
  · rw [List.getElem?_append_left h'] at hv; exact h j v hv
  · rw [List.getElem?_append_right h'] at hv
    have hj : j - ss.length = 0 := by
      rcases Nat.eq_zero_or_pos (j - ss.length) with q | q
      · exact q
      · rw [List.getElem?_eq_none (by simp; omega)] at hv; cases hv
    rw [hj] at hv
    simp at hv
    subst hv
    have ej : j = i := by omega
    exact ⟨(a, l, c, zs), g, by rw [ej]; exact e, rfl, o⟩
theorem Grl.ne {w : World} {B : Nat} {v : Value} {ss : List Value} (h : Grl w B v ss) {g : Nat} {cs : List Int} (o : Own w g cs) : some g ≠ v.ownBlock := by
  obtain ⟨h1, h2 | ⟨k, cap, cur, rfl, hB, hh, hc, hm, hs, ht⟩⟩ := h
  · obtain ⟨rfl, h0⟩ := h2
    intro hk; cases hk
  · intro hk
    have e : g = k := by simpa [Value.ownBlock] using hk
    subst e
    unfold Own at o
    rw [o] at hh
    simp at hh
theorem Grl.far {w w' : World} {B : Nat} {v : Value} {ss : List Value} (h : Grl w B v ss) (hf : ∀ k, k < w.heap.size → some k ≠ v.ownBlock → w'.heap[k]? = w.heap[k]?) (g : Nat) (cs : List Int) (o : Own w g cs) : Own w' g cs := by
  have hl := o.lt
  have hn := h.ne o
  unfold Own at *
  rw [hf g hl hn]; exact o
theorem Own.al {w : World} {g : Nat} {cs : List Int} (h : Own w g cs) (o : Obj) : Own (w.alloc o) g cs := Own.aft ((Below.refl _ _).alloc (Nat.le_refl _) o) h
theorem Grl.al {w : World} {B : Nat} {v : Value} {ss : List Value} (h : Grl w B v ss) (o : Obj) : Grl (w.alloc o) B v ss := h.after ((Below.refl _ _).alloc (Nat.le_refl _) o)
/-- Where the list of lists lies. -/
theorem Grl.lies {w : World} {B : Nat} {v : Value} {ss : List Value} (h : Grl w B v ss) (h0 : 0 < ss.length) : ∃ g cap, v = .slice (some ⟨g, 0, none⟩) ss.length cap ∧ ss.length ≤ cap ∧ ∀ i x, ss[i]? = some x → w.cell? ⟨g, i, none⟩ = some x := by
  obtain ⟨h1, h2 | ⟨g, cap, cur, rfl, hB, hh, hc, hm, hs, ht⟩⟩ := h
  · obtain ⟨rfl, h0⟩ := h2
    omega
  · refine ⟨g, cap, rfl, hc, fun i x hx => ?_⟩
    have hi : i < ss.length := by
      rcases Nat.lt_or_ge i ss.length with h' | h'
      · exact h'
      · rw [List.getElem?_eq_none h'] at hx; cases hx
    rw [← ht, Nat.mul_one, List.getElem?_take_of_lt hi] at hx
    simp only [World.cell?, hh]
    simpa using hx
theorem mul_none (b : Option Addr) (lb cb : Nat) (ys : List Int) (w : World) (hb : Nt w b lb cb ys) :
    Calls Try.prog 13 #[.agg #[.slice none 0 0], .agg #[.slice b lb cb]] w fun e w' => ∃ a c, e = .returned (.tuple #[.agg #[.slice a 0 c], .int .i64 0]) ∧ Nt w' a 0 c [] ∧ Below w.heap.size w w' := by
  refine (nmul_ok none b 0 0 lb cb [] ys w (Nt.nil w) hb (by show 0 * _ < _; rw [Int.zero_mul]; exact pw_pos _)).mono ?_
  rintro e w' ⟨a, l, c, zs, rfl, h, n, b1⟩
  have n0 : num zs = 0 := by rw [n]; show 0 * _ = _; rw [Int.zero_mul]
  have u := (num_eq_zero h.limbs).1 n0
  have q := h.2.1
  have z := h.1.1
  obtain rfl : l = 0 := by omega
  obtain rfl : zs = [] := List.eq_nil_of_length_eq_zero z
  exact ⟨a, c, rfl, h, b1⟩
theorem add_none (b : Option Addr) (lb cb : Nat) (ys : List Int) (w : World) (hb : Nt w b lb cb ys) :
    Calls Try.prog 20 #[.agg #[.slice b lb cb], .agg #[.slice none 0 0]] w fun e w' => ∃ a l c zs, e = .returned (.tuple #[.agg #[.slice a l c], .int .i64 0]) ∧ Nt w' a l c zs ∧ num zs = num ys ∧ Below w.heap.size w w' := by
  refine (nadd_ok b none lb cb 0 0 ys [] w hb (Nt.nil w) (by show _ + 0 < _; rw [Int.add_zero]; exact hb.lt)).mono ?_
  rintro e w' ⟨a, l, c, zs, rfl, h, n, b1⟩
  exact ⟨a, l, c, zs, rfl, h, by rw [n]; exact Int.add_zero _, b1⟩
theorem gcd_none (b : Option Addr) (lb cb : Nat) (ys : List Int) (w : World) (hb : Nt w b lb cb ys) :
    Calls Try.prog 10 #[.agg #[.slice none 0 0], .agg #[.slice b lb cb]] w fun e w' => ∃ a l c zs, e = .returned (.agg #[.slice a l c]) ∧ Nt w' a l c zs ∧ num zs = num ys ∧ Below w.heap.size w w' := by
  refine (ngcd_any none b 0 0 lb cb [] ys w (Nt.nil w) hb).mono ?_
  rintro e w' ⟨a, l, c, zs, rfl, h, n, b1⟩
  have h0 := hb.nonneg
  refine ⟨a, l, c, zs, rfl, h, ?_, b1⟩
  rw [n]
  show ((Int.gcd 0 (num ys) : Nat) : Int) = _
  rw [Int.gcd_zero_left]
  omega
theorem own_sl {w : World} {g l : Nat} {zs : List Int} (o : Own w g zs) {a : Option Addr} {c : Nat} {W : World} (h : Nt W a l c zs) : Sl w (some ⟨g, 0, none⟩) l zs := by
  have h5 := o.sl h.limbs
  rw [h.1.1] at h5
  exact h5
theorem isZero_nil (a : Option Addr) (cap : Nat) (w : World) :
    Calls Try.prog 16 #[.agg #[.slice a 0 cap]] w fun e w' => e = .returned (.bool true) ∧ Below w.heap.size w w' := by
  refine (isZero_any a 0 cap w).mono ?_
  rintro e w' ⟨rfl, b⟩
  exact ⟨rfl, b⟩
theorem nbits_nil (w : World) :
    Calls Try.prog 17 #[.agg #[.slice none 0 0]] w fun e w' => e = .returned (.int .i64 0) ∧ Below w.heap.size w w' := by
  refine (nbits_any none 0 0 [] w (Nt.nil w)).mono ?_
  rintro e w' ⟨rfl, b⟩
  exact ⟨by rw [bits_nought (xs := []) rfl], b⟩
theorem ncompare_one (a b : Option Addr) (la ca lb cb : Nat) (xs ys : List Int) (w : World) (ha : Nt w a la ca xs) (hb : Nt w b lb cb ys) (e : num xs = num ys) :
    Calls Try.prog 12 #[.agg #[.slice a la ca], .agg #[.slice b lb cb]] w fun e w' => e = .returned (.int .i64 0) ∧ Below w.heap.size w w' := by
  refine (ncompare_any a b la ca lb cb xs ys w ha hb).mono ?_
  rintro e w' ⟨rfl, b⟩
  refine ⟨?_, b⟩
  rw [e]
  simp [cmp3]
end Go.Proofs.Ytckfgolijlggbaa
namespace Go.Proofs.Ytckfgolijlggbaa.natKeeps
open Go.RowKit Go.Shelf
set_option linter.unusedVariables false

set_option maxRecDepth 40000 in
set_option maxHeartbeats 4000000 in
theorem walk_c (a0 : Option Addr) (len0 cap0 : Nat) (z0 : List Int) (a1 : Option Addr) (len1 cap1 : Nat) (z1 : List Int) (t : Int) (w : World) (s0 : Sl w a0 len0 z0) (c0 : len0 ≤ cap0) (r0 : cap0 ≤ 17592186043904) (e0 : a0 = none → len0 = 0 ∧ cap0 = 0) (s1 : Sl w a1 len1 z1) (c1 : len1 ≤ cap1) (r1 : cap1 ≤ 17592186043904) (e1 : a1 = none → len1 = 0 ∧ cap1 = 0) (ht : (Lit.int .i64 t).wf = true) (u0 : usedN z0 ≤ 4096) (u1 : usedN z1 ≤ 4096) (hu : len0 + len1 ≤ 600) :
    Calls Try.prog 5 #[.slice a0 len0 cap0, .slice a1 len1 cap1, .int .i64 t] w fun e w' => e = .returned (.bool true) ∧ Below w.heap.size w w' := by
  have ew : IntKind.i64.wrap ((len0 : Int) + len1) = (len0 : Int) + len1 := by rw [IntKind.wrap_i64]; omega
  have eg : ¬ (600 : Int) < (len0 : Int) + len1 := by omega
  go_enter Try.func5, Try.ntmps5
  go_wp2_with fail
  refine (nawake_any w).mono ?_
  rintro e x1 ⟨rfl, hb⟩
  replace s0 := s0.below hb (Nat.le_refl _)
  replace s1 := s1.below hb (Nat.le_refl _)
  have H : Hd w [] x1 := Hd.nil hb
  clear hb
  go_wp2_with fail
  refine (long_no a0 a1 len0 cap0 len1 cap1 z0 z1 x1 s0 s1 (by omega) (by omega) u0 u1).mono ?_
  rintro e x2 ⟨rfl, hb⟩
  replace s0 := s0.below hb (Nat.le_refl _)
  replace s1 := s1.below hb (Nat.le_refl _)
  replace H := H.after hb
  clear hb
  go_wp2_with fail
  refine (oflaw_ok a0 len0 cap0 z0 x2 s0 e0 (by omega) c0 u0).mono ?_
  rintro e x3 ⟨ax, lx, kx, zx, rfl, hx, nx, hb⟩
  replace s0 := s0.below hb (Nat.le_refl _)
  replace s1 := s1.below hb (Nat.le_refl _)
  replace H := H.after hb
  clear hb
  clear nx
  go_wp2_with fail
  refine ent1 x3 _ _ (Q := fun W => Calls Try.prog _ _ W _) ?_
  intro x4 hb hs_ V
  replace hx := Nt.after hb hx
  replace s0 := s0.below hb (Nat.le_refl _)
  replace s1 := s1.below hb (Nat.le_refl _)
  replace H := H.after hb
  replace H := H.cons V hx
  clear hb hs_ V hx
  refine (oflaw_ok a1 len1 cap1 z1 x4 s1 e1 (by omega) c1 u1).mono ?_
  rintro e x5 ⟨ay, ly, ky, zy, rfl, hy, ny, hb⟩
  replace s0 := s0.below hb (Nat.le_refl _)
  replace s1 := s1.below hb (Nat.le_refl _)
  replace H := H.after hb
  clear hb
  clear ny
  go_wp2_with fail
  refine ent1 x5 _ _ (Q := fun W => Code.wp Try.prog _ _ _ W) ?_
  intro x6 hb hs_ V
  replace hy := Nt.after hb hy
  replace s0 := s0.below hb (Nat.le_refl _)
  replace s1 := s1.below hb (Nat.le_refl _)
  replace H := H.after hb
  replace H := H.cons V hy
  clear hb hs_ V hy
  clear s0 s1 ew eg
  replace H := H.drw
  refine wp_region_noPanic ?_
  refine wp_region_held_drew (S := (fun W => W.cell? ⟨x3.heap.size, 0, none⟩ = some (.slice ax lx kx) ∧ W.cell? ⟨x5.heap.size, 0, none⟩ = some (.slice ay ly ky))) (by kernel_rfl) ⟨H.at 1 rfl, H.at 0 rfl⟩ (fun hHeld => ?_)
  refine wpAnyH_take (i := 0) (v := ?_) rfl (by kernel_rfl) (by kernel_rfl) (by kernel_rfl) (fun _ _ _ h => h) (Or.inl ⟨by rfl, ?_⟩) hHeld ?_
  rotate_left
  · (intro W hSw; (try dsimp only at hSw); go_simp; all_goals (with_reducible rfl))
  simp only [List.getElem_toArray, List.getElem_cons_zero, Act.put, List.setIfInBounds_toArray, List.set_cons_zero, List.set_cons_succ]
  refine wpAnyH_take (i := 2) (v := ?_) rfl (by kernel_rfl) (by kernel_rfl) (by kernel_rfl) (fun _ _ _ h => h) (Or.inl ⟨by rfl, ?_⟩) hHeld ?_
  rotate_left
  · (intro W hSw; (try dsimp only at hSw); go_simp; all_goals (with_reducible rfl))
  simp only [List.getElem_toArray, List.getElem_cons_zero, List.getElem_cons_succ, Act.put, List.setIfInBounds_toArray, List.set_cons_zero, List.set_cons_succ]
  refine wpAnyH_ready (rs := [1]) (by kernel_rfl) (by simp) ?_
  refine AllReadyH.cons rfl (fun K hK => ?_) AllReadyH.nil
  simp only [List.getElem_toArray, List.getElem_cons_zero, List.getElem_cons_succ]
  go_simp
  refine (limbs_any ax lx kx zx _ (H.nt 1 rfl)).mono ?_
  rintro e y1 ⟨g1, rfl, hg1, O1, hb⟩
  replace H := H.after hb
  clear hg1 hb
  try go_wp2_with fail
  refine hK.out _ _ ⟨H.at 1 rfl, H.at 0 rfl⟩ (fun hHeld => ?_)
  clear hK K
  refine wpAnyH_ready (rs := [3]) (by kernel_rfl) (by simp) ?_
  refine AllReadyH.cons rfl (fun K hK => ?_) AllReadyH.nil
  simp only [List.getElem_toArray, List.getElem_cons_zero, List.getElem_cons_succ]
  go_simp
  refine (limbs_any ay ly ky zy _ (H.nt 0 rfl)).mono ?_
  rintro e y2 ⟨g2, rfl, hg2, O2, hb⟩
  replace H := H.after hb
  replace O1 := Own.aft hb O1
  clear hg2 hb
  try go_wp2_with fail
  refine hK.out _ _ ⟨H.at 1 rfl, H.at 0 rfl⟩ (fun hHeld => ?_)
  clear hK K
  refine wpAnyH_take (i := 4) (v := ?_) rfl (by kernel_rfl) (by kernel_rfl) (by kernel_rfl) (fun _ _ _ h => h) (Or.inl ⟨by rfl, ?_⟩) hHeld ?_
  rotate_left
  · (intro W hSw; (try dsimp only at hSw); go_simp; all_goals (with_reducible rfl))
  simp only [List.getElem_toArray, List.getElem_cons_zero, List.getElem_cons_succ, Act.put, List.setIfInBounds_toArray, List.set_cons_zero, List.set_cons_succ]
  refine wpAnyH_take (i := 5) (v := ?_) rfl (by kernel_rfl) (by kernel_rfl) (by kernel_rfl) (fun _ _ _ h => h) (Or.inl ⟨by rfl, ?_⟩) hHeld ?_
  rotate_left
  · (intro W hSw; (try dsimp only at hSw); go_simp; all_goals (with_reducible rfl))
  simp only [List.getElem_toArray, List.getElem_cons_zero, List.getElem_cons_succ, Act.put, List.setIfInBounds_toArray, List.set_cons_zero, List.set_cons_succ]
  refine wpAnyH_done (by kernel_rfl) ?_ _
  refine NoPanic.normal ?_
  clear hHeld
  have c_x := H.at 1 rfl
  have l_x := H.lt 1 rfl
  have m_x := Nat.le_of_lt l_x
  have c_y := H.at 0 rfl
  have l_y := H.lt 0 rfl
  have m_y := Nat.le_of_lt l_y
  go_wp2_with fail
  have HT : t.tmod 20 ≤ 9223372036854775807 := by have := Int.tmod_lt_of_pos t (show (0 : Int) < 20 by decide); omega
  refine (nadd_some ax ay lx kx ly ky zx zy y2 (H.nt 1 rfl) (H.nt 0 rfl)).mono ?_
  rintro e x7 ⟨ao, lo, ko, zo, qo, rfl, ho, hb⟩
  replace O1 := Own.aft hb O1
  replace O2 := Own.aft hb O2
  replace H := H.after hb
  clear hb
  clear c_x l_x m_x c_y l_y m_y
  have c_x := H.at 1 rfl
  have l_x := H.lt 1 rfl
  have m_x := Nat.le_of_lt l_x
  have c_y := H.at 0 rfl
  have l_y := H.lt 0 rfl
  have m_y := Nat.le_of_lt l_y
  go_wp2_with fail
  refine ent1 x7 _ _ (Q := fun W => Calls Try.prog _ _ W _) ?_
  intro x8 hb hs_ V
  replace ho := Nt.after hb ho
  replace O1 := Own.aft hb O1
  replace O2 := Own.aft hb O2
  replace H := H.after hb
  replace H := H.cons V ho
  clear hb hs_ V ho
  refine (nmul_some ax ay lx kx ly ky zx zy x8 (H.nt 2 rfl) (H.nt 1 rfl)).mono ?_
  rintro e x9 ⟨ap, lp, kp, zp, qp, rfl, hp, hb⟩
  replace O1 := Own.aft hb O1
  replace O2 := Own.aft hb O2
  replace H := H.after hb
  clear hb
  clear c_x l_x m_x c_y l_y m_y
  have c_x := H.at 2 rfl
  have l_x := H.lt 2 rfl
  have m_x := Nat.le_of_lt l_x
  have c_y := H.at 1 rfl
  have l_y := H.lt 1 rfl
  have m_y := Nat.le_of_lt l_y
  go_wp2_with fail
  refine ent1 x9 _ _ (Q := fun W => Calls Try.prog _ _ W _) ?_
  intro x10 hb hs_ V
  replace hp := Nt.after hb hp
  replace O1 := Own.aft hb O1
  replace O2 := Own.aft hb O2
  replace H := H.after hb
  replace H := H.cons V hp
  clear hb hs_ V hp
  refine (ndiv_some ax ay lx kx ly ky zx zy x10 (H.nt 3 rfl) (H.nt 2 rfl)).mono ?_
  rintro e x11 ⟨aq, lq, kq, zq, ar, lr, kr, zr, qq, rfl, hq, hr, hb⟩
  replace O1 := Own.aft hb O1
  replace O2 := Own.aft hb O2
  replace H := H.after hb
  clear hb
  clear c_x l_x m_x c_y l_y m_y
  have c_x := H.at 3 rfl
  have l_x := H.lt 3 rfl
  have m_x := Nat.le_of_lt l_x
  go_wp2_with fail
  refine ent2 x11 _ _ _ _ (Q := fun W => Calls Try.prog _ _ W _) ?_
  intro x12 hb hs_ V V2
  replace hq := Nt.after hb hq
  replace hr := Nt.after hb hr
  replace O1 := Own.aft hb O1
  replace O2 := Own.aft hb O2
  replace H := H.after hb
  replace H := (H.cons V hq).cons V2 hr
  clear hb hs_ V V2 hq hr
  refine (pow_some ax lx kx zx _ x12 (H.nt 5 rfl) HT).mono ?_
  rintro e x13 ⟨an, ln, kn, zn, qn, rfl, hn, hb⟩
  replace O1 := Own.aft hb O1
  replace O2 := Own.aft hb O2
  replace H := H.after hb
  clear hb
  clear c_x l_x m_x
  have c_x := H.at 5 rfl
  have l_x := H.lt 5 rfl
  have m_x := Nat.le_of_lt l_x
  go_wp2_with fail
  refine ent1 x13 _ _ (Q := fun W => Calls Try.prog _ _ W _) ?_
  intro x14 hb hs_ V
  replace hn := Nt.after hb hn
  replace O1 := Own.aft hb O1
  replace O2 := Own.aft hb O2
  replace H := H.after hb
  replace H := H.cons V hn
  clear hb hs_ V hn
  refine (nleft_some ax lx kx zx _ x14 (H.nt 6 rfl)).mono ?_
  rintro e x15 ⟨au, lu, ku, zu, qu, rfl, hu, hb⟩
  replace O1 := Own.aft hb O1
  replace O2 := Own.aft hb O2
  replace H := H.after hb
  clear hb
  clear c_x l_x m_x
  have c_x := H.at 6 rfl
  have l_x := H.lt 6 rfl
  have m_x := Nat.le_of_lt l_x
  go_wp2_with fail
  refine ent1 x15 _ _ (Q := fun W => Calls Try.prog _ _ W _) ?_
  intro x16 hb hs_ V
  replace hu := Nt.after hb hu
  replace O1 := Own.aft hb O1
  replace O2 := Own.aft hb O2
  replace H := H.after hb
  replace H := H.cons V hu
  clear hb hs_ V hu
  refine (nright_some ax lx kx zx _ x16 (H.nt 7 rfl) HT).mono ?_
  rintro e x17 ⟨av, lv, kv, zv, qv, rfl, hv, hb⟩
  replace O1 := Own.aft hb O1
  replace O2 := Own.aft hb O2
  replace H := H.after hb
  clear hb
  clear c_x l_x m_x
  have c_x := H.at 7 rfl
  have l_x := H.lt 7 rfl
  have m_x := Nat.le_of_lt l_x
  go_wp2_with fail
  refine ent1 x17 _ _ (Q := fun W => Code.wp Try.prog _ _ _ W) ?_
  intro x18 hb hs_ V
  replace hv := Nt.after hb hv
  replace O1 := Own.aft hb O1
  replace O2 := Own.aft hb O2
  replace H := H.after hb
  replace H := H.cons V hv
  clear hb hs_ V hv
  replace H := H.drw
  clear c_x l_x m_x
  refine wp_region_noPanic ?_
  refine wp_region_held_drew (S := (fun W => W.cell? ⟨x7.heap.size, 0, none⟩ = some (.slice ao lo ko) ∧ W.cell? ⟨x9.heap.size, 0, none⟩ = some (.slice ap lp kp) ∧ W.cell? ⟨x11.heap.size, 0, none⟩ = some (.slice aq lq kq) ∧ W.cell? ⟨x11.heap.size + 1, 0, none⟩ = some (.slice ar lr kr) ∧ W.cell? ⟨x13.heap.size, 0, none⟩ = some (.slice an ln kn) ∧ W.cell? ⟨x15.heap.size, 0, none⟩ = some (.slice au lu ku) ∧ W.cell? ⟨x17.heap.size, 0, none⟩ = some (.slice av lv kv) ∧ W.cell? ⟨x3.heap.size, 0, none⟩ = some (.slice ax lx kx) ∧ W.cell? ⟨x5.heap.size, 0, none⟩ = some (.slice ay ly ky))) (by kernel_rfl) ⟨H.at 6 rfl, H.at 5 rfl, H.at 4 rfl, H.at 3 rfl, H.at 2 rfl, H.at 1 rfl, H.at 0 rfl, H.at 8 rfl, H.at 7 rfl⟩ (fun hHeld => ?_)
  refine wpAnyH_take (i := 0) (v := ?_) rfl (by kernel_rfl) (by kernel_rfl) (by kernel_rfl) (fun _ _ _ h => h) (Or.inl ⟨by rfl, ?_⟩) hHeld ?_
  rotate_left
  · (intro W hSw; (try dsimp only at hSw); go_simp; all_goals (with_reducible rfl))
  simp only [List.getElem_toArray, List.getElem_cons_zero, Act.put, List.setIfInBounds_toArray, List.set_cons_zero, List.set_cons_succ]
  refine wpAnyH_take (i := 1) (v := ?_) rfl (by kernel_rfl) (by kernel_rfl) (by kernel_rfl) (fun _ _ _ h => h) (Or.inl ⟨by rfl, ?_⟩) hHeld ?_
  rotate_left
  · (intro W hSw; (try dsimp only at hSw); go_simp; all_goals (with_reducible rfl))
  simp only [List.getElem_toArray, List.getElem_cons_zero, List.getElem_cons_succ, Act.put, List.setIfInBounds_toArray, List.set_cons_zero, List.set_cons_succ]
  refine wpAnyH_take (i := 2) (v := ?_) rfl (by kernel_rfl) (by kernel_rfl) (by kernel_rfl) (fun _ _ _ h => h) (Or.inl ⟨by rfl, ?_⟩) hHeld ?_
  rotate_left
  · (intro W hSw; (try dsimp only at hSw); go_simp; all_goals (with_reducible rfl))
  simp only [List.getElem_toArray, List.getElem_cons_zero, List.getElem_cons_succ, Act.put, List.setIfInBounds_toArray, List.set_cons_zero, List.set_cons_succ]
  refine wpAnyH_take (i := 3) (v := ?_) rfl (by kernel_rfl) (by kernel_rfl) (by kernel_rfl) (fun _ _ _ h => h) (Or.inl ⟨by rfl, ?_⟩) hHeld ?_
  rotate_left
  · (intro W hSw; (try dsimp only at hSw); go_simp; all_goals (with_reducible rfl))
  simp only [List.getElem_toArray, List.getElem_cons_zero, List.getElem_cons_succ, Act.put, List.setIfInBounds_toArray, List.set_cons_zero, List.set_cons_succ]
  refine wpAnyH_take (i := 4) (v := ?_) rfl (by kernel_rfl) (by kernel_rfl) (by kernel_rfl) (fun _ _ _ h => h) (Or.inl ⟨by rfl, ?_⟩) hHeld ?_
  rotate_left
  · (intro W hSw; (try dsimp only at hSw); go_simp; all_goals (with_reducible rfl))
  simp only [List.getElem_toArray, List.getElem_cons_zero, List.getElem_cons_succ, Act.put, List.setIfInBounds_toArray, List.set_cons_zero, List.set_cons_succ]
  refine wpAnyH_take (i := 5) (v := ?_) rfl (by kernel_rfl) (by kernel_rfl) (by kernel_rfl) (fun _ _ _ h => h) (Or.inl ⟨by rfl, ?_⟩) hHeld ?_
  rotate_left
  · (intro W hSw; (try dsimp only at hSw); go_simp; all_goals (with_reducible rfl))
  simp only [List.getElem_toArray, List.getElem_cons_zero, List.getElem_cons_succ, Act.put, List.setIfInBounds_toArray, List.set_cons_zero, List.set_cons_succ]
  refine wpAnyH_take (i := 6) (v := ?_) rfl (by kernel_rfl) (by kernel_rfl) (by kernel_rfl) (fun _ _ _ h => h) (Or.inl ⟨by rfl, ?_⟩) hHeld ?_
  rotate_left
  · (intro W hSw; (try dsimp only at hSw); go_simp; all_goals (with_reducible rfl))
  simp only [List.getElem_toArray, List.getElem_cons_zero, List.getElem_cons_succ, Act.put, List.setIfInBounds_toArray, List.set_cons_zero, List.set_cons_succ]
  refine wpAnyH_take (i := 7) (v := ?_) rfl (by kernel_rfl) (by kernel_rfl) (by kernel_rfl) (fun _ _ _ h => h) (Or.inl ⟨by rfl, ?_⟩) hHeld ?_
  rotate_left
  · (intro W hSw; (try dsimp only at hSw); go_simp; all_goals (with_reducible rfl))
  simp only [List.getElem_toArray, List.getElem_cons_zero, List.getElem_cons_succ, Act.put, List.setIfInBounds_toArray, List.set_cons_zero, List.set_cons_succ]
  refine wpAnyH_take (i := 8) (v := ?_) rfl (by kernel_rfl) (by kernel_rfl) (by kernel_rfl) (fun _ _ _ h => h) (Or.inl ⟨by rfl, ?_⟩) hHeld ?_
  rotate_left
  · (intro W hSw; (try dsimp only at hSw); go_simp; all_goals (with_reducible rfl))
  simp only [List.getElem_toArray, List.getElem_cons_zero, List.getElem_cons_succ, Act.put, List.setIfInBounds_toArray, List.set_cons_zero, List.set_cons_succ]
  refine wpAnyH_take (i := 10) (v := ?_) rfl (by kernel_rfl) (by kernel_rfl) (by kernel_rfl) (fun _ _ _ h => h) (Or.inl ⟨by rfl, ?_⟩) hHeld ?_
  rotate_left
  · (intro W hSw; (try dsimp only at hSw); go_simp; all_goals (with_reducible rfl))
  simp only [List.getElem_toArray, List.getElem_cons_zero, List.getElem_cons_succ, Act.put, List.setIfInBounds_toArray, List.set_cons_zero, List.set_cons_succ]
  refine wpAnyH_ready (rs := [9]) (by kernel_rfl) (by simp) ?_
  refine AllReadyH.cons rfl (fun K hK => ?_) AllReadyH.nil
  simp only [List.getElem_toArray, List.getElem_cons_zero, List.getElem_cons_succ]
  go_simp
  refine (ngcd_some ax ay lx kx ly ky zx zy _ (H.nt 8 rfl) (H.nt 7 rfl)).mono ?_
  rintro e y3 ⟨ag, lg, kg, zg, rfl, hg, hb⟩
  replace H := H.after hb
  replace O1 := Own.aft hb O1
  replace O2 := Own.aft hb O2
  clear hb
  try go_wp2_with fail
  refine hK.out _ _ ⟨H.at 6 rfl, H.at 5 rfl, H.at 4 rfl, H.at 3 rfl, H.at 2 rfl, H.at 1 rfl, H.at 0 rfl, H.at 8 rfl, H.at 7 rfl⟩ (fun hHeld => ?_)
  clear hK K
  refine wpAnyH_ready (rs := [11]) (by kernel_rfl) (by simp) ?_
  refine AllReadyH.cons rfl (fun K hK => ?_) AllReadyH.nil
  simp only [List.getElem_toArray, List.getElem_cons_zero, List.getElem_cons_succ]
  go_simp
  refine (root_some ax lx kx zx _ (H.nt 8 rfl)).mono ?_
  rintro e y4 ⟨af, lf, kf, zf, rfl, hf, hb⟩
  replace H := H.after hb
  replace hg := Nt.after hb hg
  replace O1 := Own.aft hb O1
  replace O2 := Own.aft hb O2
  clear hb
  try go_wp2_with fail
  refine hK.out _ _ ⟨H.at 6 rfl, H.at 5 rfl, H.at 4 rfl, H.at 3 rfl, H.at 2 rfl, H.at 1 rfl, H.at 0 rfl, H.at 8 rfl, H.at 7 rfl⟩ (fun hHeld => ?_)
  clear hK K
  refine wpAnyH_ready (rs := [12]) (by kernel_rfl) (by simp) ?_
  refine AllReadyH.cons rfl (fun K hK => ?_) AllReadyH.nil
  simp only [List.getElem_toArray, List.getElem_cons_zero, List.getElem_cons_succ]
  go_simp
  refine ent1 _ _ _ (Q := fun V => K _ V) ?_
  intro X hb hs_ Vl
  replace H := H.after hb
  replace hg := Nt.after hb hg
  replace hf := Nt.after hb hf
  replace O1 := Own.aft hb O1
  replace O2 := Own.aft hb O2
  refine hK.out _ _ ⟨H.at 6 rfl, H.at 5 rfl, H.at 4 rfl, H.at 3 rfl, H.at 2 rfl, H.at 1 rfl, H.at 0 rfl, H.at 8 rfl, H.at 7 rfl⟩ (fun hHeld => ?_)
  clear hK K hb hs_
  refine wpAnyH_take (i := 13) (v := ?_) rfl (by kernel_rfl) (by kernel_rfl) (by kernel_rfl) (fun _ _ _ h => h) (Or.inl ⟨by rfl, ?_⟩) hHeld ?_
  rotate_left
  · (intro W hSw; (try dsimp only at hSw); go_simp; all_goals (with_reducible rfl))
  simp only [List.getElem_toArray, List.getElem_cons_zero, List.getElem_cons_succ, Act.put, List.setIfInBounds_toArray, List.set_cons_zero, List.set_cons_succ]
  refine wpAnyH_done (by kernel_rfl) ?_ _
  refine NoPanic.normal ?_
  clear hHeld
  obtain ⟨N, hN⟩ : ∃ N : List N4, N = [(ao, lo, ko, zo), (ap, lp, kp, zp), (aq, lq, kq, zq), (ar, lr, kr, zr), (an, ln, kn, zn), (au, lu, ku, zu), (av, lv, kv, zv), (ag, lg, kg, zg), (af, lf, kf, zf)] := ⟨_, rfl⟩
  have HK : Hid (Kp w [(x17.heap.size, av, lv, kv, zv), (x15.heap.size, au, lu, ku, zu), (x13.heap.size, an, ln, kn, zn), (x11.heap.size + 1, ar, lr, kr, zr), (x11.heap.size, aq, lq, kq, zq), (x9.heap.size, ap, lp, kp, zp), (x7.heap.size, ao, lo, ko, zo), (x5.heap.size, ay, ly, ky, zy), (x3.heap.size, ax, lx, kx, zx)] y4.heap.size N g1 zx g2 zy X) := by
    refine ⟨H, by rw [hN]; exact Vl, ?_, O1, O2⟩
    intro i p e
    rw [hN] at e
    have hi : i < 9 := by
      rcases Nat.lt_or_ge i 9 with h' | h'
      · exact h'
      · rw [List.getElem?_eq_none (by simpa using h')] at e; cases e
    rcases (show i = 0 ∨ i = 1 ∨ i = 2 ∨ i = 3 ∨ i = 4 ∨ i = 5 ∨ i = 6 ∨ i = 7 ∨ i = 8 by omega) with rfl | rfl | rfl | rfl | rfl | rfl | rfl | rfl | rfl
    · cases e; exact (H.nt 6 rfl)
    · cases e; exact (H.nt 5 rfl)
    · cases e; exact (H.nt 4 rfl)
    · cases e; exact (H.nt 3 rfl)
    · cases e; exact (H.nt 2 rfl)
    · cases e; exact (H.nt 1 rfl)
    · cases e; exact (H.nt 0 rfl)
    · cases e; exact hg
    · cases e; exact hf
  have HN9 : Hid (N.length = 9) := by show _ = _; rw [hN]; rfl
  have HNIX : Hid (∀ i, i < 9 → ∃ a l c zs, N[i]? = some (a, l, c, zs)) := by
    intro i hi
    have h5 : i < N.length := by rw [HN9.out]; exact hi
    exact ⟨_, _, _, _, List.getElem?_eq_getElem h5⟩
  clear H Vl O1 O2 hg hf hN HT
  go_wp2_with fail
  go_loopw [28, 29, 30, 31] (fun tv ii _ _ wr => ∃ (i : Nat) (ss : List Value), ii = .int .i64 i ∧ i ≤ 9 ∧ Hid (Grl wr X.heap.size tv ss) ∧ Hid (Tl wr N ss) ∧ Hid (ss.length = i) ∧ Hid (Below X.heap.size X wr)) (fun _ ii _ _ _ => 9 - (intOf ii).toNat)
  case atStart => exact ⟨0, [], rfl, by omega, Grl.nil _ _, Tl.nil _ _, rfl, Below.refl _ _⟩
  case round =>
    obtain ⟨i, ss, rfl, hi, hG, hTL, hSL, hB⟩ := hrel
    have hsz := hB.out.size
    by_cases hlt : i < 9
    · have jl : (i : Int) < 9 := by omega
      obtain ⟨a, l, c, zs, hp⟩ := HNIX.out i hlt
      have HP : Hid (N[i]? = some (a, l, c, zs)) := hp
      clear hp
      have K1 : Hid (Kp w [(x17.heap.size, av, lv, kv, zv), (x15.heap.size, au, lu, ku, zu), (x13.heap.size, an, ln, kn, zn), (x11.heap.size + 1, ar, lr, kr, zr), (x11.heap.size, aq, lq, kq, zq), (x9.heap.size, ap, lp, kp, zp), (x7.heap.size, ao, lo, ko, zo), (x5.heap.size, ay, ly, ky, zy), (x3.heap.size, ax, lx, kx, zx)] y4.heap.size N g1 zx g2 zy wr) := HK.out.after hB.out
      have cc := K1.out.cell HP.out
      go_wp2_with fail
      refine (limbs_any a l c zs wr (K1.out.nt HP.out)).mono ?_
      rintro e v1 ⟨g, rfl, hgg, og, b1⟩
      have HG1 : Hid (Grl v1 X.heap.size u28 ss) := hG.out.after b1
      have HT1 : Hid (Tl v1 N ss) := hTL.out.keep (fun g cs o => Own.aft b1 o)
      have HO1 : Hid (Own v1 g zs) := og
      have HB1 : Hid (Below X.heap.size X v1) := hB.out.trans (b1.mono hsz)
      have hsz1 := b1.size
      have HSZ : Hid (X.heap.size ≤ (v1.alloc (.cells #[.slice (some ⟨g, 0, none⟩) l l] 22)).heap.size) := by show _ ≤ _; simp; omega
      have HCE : Hid ((v1.alloc (.cells #[.slice (some ⟨g, 0, none⟩) l l] 22)).cell? ⟨v1.heap.size, 0, none⟩ = some (.slice (some ⟨g, 0, none⟩) l l)) := (Va.new v1 _ _).cell
      have HSB : Hid (ss.length + 1 ≤ 1000000) := by show _ ≤ _; rw [hSL.out]; omega
      clear b1 og hgg hG hTL cc K1
      go_wp2_with (at_builtin; refine wpList_appl rfl (.tmp 126) (.tmp 132) rfl X.heap.size u28 ss rfl (HG1.out.al _) v1.heap.size 1 (some ⟨g, 0, none⟩) l l rfl HCE.out HSB.out HSZ.out ?_; intro v3 w1 hG3 hb3 hfar; have K2 : Hid (Kp w [(x17.heap.size, av, lv, kv, zv), (x15.heap.size, au, lu, ku, zu), (x13.heap.size, an, ln, kn, zn), (x11.heap.size + 1, ar, lr, kr, zr), (x11.heap.size, aq, lq, kq, zq), (x9.heap.size, ap, lp, kp, zp), (x7.heap.size, ao, lo, ko, zo), (x5.heap.size, ay, ly, ky, zy), (x3.heap.size, ax, lx, kx, zx)] y4.heap.size N g1 zx g2 zy w1) := HK.out.after ((HB1.out.alloc (by omega) _).trans hb3); have cc := K2.out.cell HP.out)
      have HT3 : Hid (Tl w1 N (ss ++ [.slice (some ⟨g, 0, none⟩) l l])) := by
        have f : ∀ k cs, Own v1 k cs → Own w1 k cs := fun k cs o => (HG1.out.al _).far hfar.out k cs (o.al _)
        exact (HT1.out.keep f).push hSL.out HP.out (f _ _ HO1.out)
      have HB3 : Hid (Below X.heap.size X w1) := (HB1.out.alloc (by omega) _).trans hb3
      clear hfar hb3 HT1 HO1 HG1 HCE HSZ
      refine (limbs_any a l c zs w1 (K2.out.nt HP.out)).mono ?_
      rintro e v4 ⟨g4, rfl, hg4, o4, b4⟩
      have hl5 : l ≤ 4096 := (K2.out.nt HP.out).2.2.2
      have hl4 : Hid (zs.length = l) := (K2.out.nt HP.out).1.1
      clear cc
      go_wp2_with fail
      go_loopw [31] (fun jj wq => ∃ (j : Nat) (cs : List Int), j ≤ l ∧ jj = .int .i64 j ∧ Hid (cs.length = l) ∧ Hid (Own wq g4 cs) ∧ Hid (Below w1.heap.size w1 wq)) (fun jj _ => l - (intOf jj).toNat)
      case atStart => exact ⟨0, zs, Nat.zero_le _, rfl, hl4, o4, b4⟩
      case round =>
        obtain ⟨j, cs, hj, rfl, hcl, hO, hW⟩ := hrel
        by_cases hjl : j < l
        · have jj : (j : Int) < l := by omega
          have hcx := hO.out.cell j (by rw [hcl.out]; exact hjl)
          have hfx := hO.out.frozen j
          go_wp2_with fail
          go_roundw
          case rel => exact ⟨j + 1, _, by omega, by go_num, by rw [List.length_set]; exact hcl.out, hO.out.set j _, hW.out.setCell (p := ⟨g4, j, none⟩) hg4 _⟩
          case measure => simp [intOf]; omega
        · have jj : ¬ (j : Int) < l := by omega
          have HB5 : Hid (Below X.heap.size X wr) := HB3.out.trans (hW.out.mono HB3.out.size)
          have HG5 : Hid (Grl wr X.heap.size v3 (ss ++ [.slice (some ⟨g, 0, none⟩) l l])) := hG3.out.after hW.out
          have HT5 : Hid (Tl wr N (ss ++ [.slice (some ⟨g, 0, none⟩) l l])) := HT3.out.keep (fun g cs o => Own.aft hW.out o)
          clear hO hcl hW HB3 hG3 HT3 K2
          go_wp2_with fail
          go_roundw
          case rel => exact ⟨i + 1, _, by go_num, by omega, HG5, HT5, by show _ = _; rw [List.length_append, hSL.out]; rfl, HB5⟩
          case measure => simp [intOf]; omega
    · have jl : ¬ (i : Int) < 9 := by omega
      obtain rfl : i = 9 := by omega
      have K1 : Hid (Kp w [(x17.heap.size, av, lv, kv, zv), (x15.heap.size, au, lu, ku, zu), (x13.heap.size, an, ln, kn, zn), (x11.heap.size + 1, ar, lr, kr, zr), (x11.heap.size, aq, lq, kq, zq), (x9.heap.size, ap, lp, kp, zp), (x7.heap.size, ao, lo, ko, zo), (x5.heap.size, ay, ly, ky, zy), (x3.heap.size, ax, lx, kx, zx)] y4.heap.size N g1 zx g2 zy wr) := HK.out.after hB.out
      clear hsz hlt HK hi
      have H := K1.out.1
      have c_o := H.at 6 rfl
      have l_o := H.lt 6 rfl
      have m_o := Nat.le_of_lt l_o
      have c_p := H.at 5 rfl
      have l_p := H.lt 5 rfl
      have m_p := Nat.le_of_lt l_p
      go_wp2_with fail
      refine (nmul_some ao ap lo ko lp kp zo zp wr (H.nt 6 rfl) (H.nt 5 rfl)).mono ?_
      rintro e x19 ⟨ai, li, ki, zi, qi, rfl, hi, hb⟩
      replace H := H.after hb
      have Bx19 : Hid (Below X.heap.size X x19) := hB.out.trans (hb.mono hB.out.size)
      replace hG : Hid (Grl x19 X.heap.size u28 ss) := hG.out.after hb
      replace hTL : Hid (Tl x19 N ss) := hTL.out.keep (fun g cs o => Own.aft hb o)
      replace K1 : Hid (Kp w [(x17.heap.size, av, lv, kv, zv), (x15.heap.size, au, lu, ku, zu), (x13.heap.size, an, ln, kn, zn), (x11.heap.size + 1, ar, lr, kr, zr), (x11.heap.size, aq, lq, kq, zq), (x9.heap.size, ap, lp, kp, zp), (x7.heap.size, ao, lo, ko, zo), (x5.heap.size, ay, ly, ky, zy), (x3.heap.size, ax, lx, kx, zx)] y4.heap.size N g1 zx g2 zy x19) := K1.out.after hb
      clear hb
      clear hi
      clear c_o l_o m_o c_p l_p m_p
      have c_o := H.at 6 rfl
      have l_o := H.lt 6 rfl
      have m_o := Nat.le_of_lt l_o
      have c_p := H.at 5 rfl
      have l_p := H.lt 5 rfl
      have m_p := Nat.le_of_lt l_p
      go_wp2_with fail
      refine (ndiv_some ap ao lp kp lo ko zp zo x19 (H.nt 5 rfl) (H.nt 6 rfl)).mono ?_
      rintro e x20 ⟨ai2, li2, ki2, zi2, aj, lj, kj, zj, qj, rfl, hi, hj, hb⟩
      replace H := H.after hb
      have Bx20 : Hid (Below X.heap.size X x20) := Bx19.out.trans (hb.mono Bx19.out.size)
      replace hG : Hid (Grl x20 X.heap.size u28 ss) := hG.out.after hb
      replace hTL : Hid (Tl x20 N ss) := hTL.out.keep (fun g cs o => Own.aft hb o)
      replace K1 : Hid (Kp w [(x17.heap.size, av, lv, kv, zv), (x15.heap.size, au, lu, ku, zu), (x13.heap.size, an, ln, kn, zn), (x11.heap.size + 1, ar, lr, kr, zr), (x11.heap.size, aq, lq, kq, zq), (x9.heap.size, ap, lp, kp, zp), (x7.heap.size, ao, lo, ko, zo), (x5.heap.size, ay, ly, ky, zy), (x3.heap.size, ax, lx, kx, zx)] y4.heap.size N g1 zx g2 zy x20) := K1.out.after hb
      clear hb
      clear hi hj
      clear c_o l_o m_o c_p l_p m_p
      have c_o := H.at 6 rfl
      have l_o := H.lt 6 rfl
      have m_o := Nat.le_of_lt l_o
      have c_p := H.at 5 rfl
      have l_p := H.lt 5 rfl
      have m_p := Nat.le_of_lt l_p
      go_wp2_with fail
      refine (ngcd_some ap ao lp kp lo ko zp zo x20 (H.nt 5 rfl) (H.nt 6 rfl)).mono ?_
      rintro e x21 ⟨ai3, li3, ki3, zi3, rfl, hi, hb⟩
      replace H := H.after hb
      have Bx21 : Hid (Below X.heap.size X x21) := Bx20.out.trans (hb.mono Bx20.out.size)
      replace hG : Hid (Grl x21 X.heap.size u28 ss) := hG.out.after hb
      replace hTL : Hid (Tl x21 N ss) := hTL.out.keep (fun g cs o => Own.aft hb o)
      replace K1 : Hid (Kp w [(x17.heap.size, av, lv, kv, zv), (x15.heap.size, au, lu, ku, zu), (x13.heap.size, an, ln, kn, zn), (x11.heap.size + 1, ar, lr, kr, zr), (x11.heap.size, aq, lq, kq, zq), (x9.heap.size, ap, lp, kp, zp), (x7.heap.size, ao, lo, ko, zo), (x5.heap.size, ay, ly, ky, zy), (x3.heap.size, ax, lx, kx, zx)] y4.heap.size N g1 zx g2 zy x21) := K1.out.after hb
      clear hb
      clear hi
      clear c_o l_o m_o c_p l_p m_p
      go_wp2_with fail
      clear H
      obtain ⟨bt, ct, rfl, hct, hce⟩ := hG.out.lies (by rw [hSL.out]; omega)
      rw [hSL.out] at hct ⊢
      have HCE : Hid (∀ i x, ss[i]? = some x → World.cell? x21 ⟨bt, i, none⟩ = some x) := hce
      have HBT : Hid (bt < x21.heap.size) := by
        have h5 : 0 < ss.length := by rw [hSL.out]; omega
        exact Rd.lt (v := ss[0]) (hce 0 _ (List.getElem?_eq_getElem h5))
      clear hce hG
      go_loopw [32] (fun ii wr => ∃ (i : Nat), ii = .int .i64 i ∧ i ≤ 9 ∧ Hid (Below x21.heap.size x21 wr)) (fun ii _ => 9 - (intOf ii).toNat)
      case atStart => exact ⟨0, rfl, by omega, Below.refl _ _⟩
      case round =>
        obtain ⟨i, rfl, hi, hB⟩ := hrel
        have K2 : Hid (Kp w [(x17.heap.size, av, lv, kv, zv), (x15.heap.size, au, lu, ku, zu), (x13.heap.size, an, ln, kn, zn), (x11.heap.size + 1, ar, lr, kr, zr), (x11.heap.size, aq, lq, kq, zq), (x9.heap.size, ap, lp, kp, zp), (x7.heap.size, ao, lo, ko, zo), (x5.heap.size, ay, ly, ky, zy), (x3.heap.size, ax, lx, kx, zx)] y4.heap.size N g1 zx g2 zy wr) := K1.out.after hB.out
        by_cases hlt : i < 9
        · have jl : (i : Int) < 9 := by omega
          obtain ⟨a, l, c, zs, hp⟩ := HNIX.out i hlt
          have HP : Hid (N[i]? = some (a, l, c, zs)) := hp
          clear hp
          have h5 : i < ss.length := by rw [hSL.out]; exact hlt
          obtain ⟨p, g, e5, e6, O5⟩ := hTL.out i _ (List.getElem?_eq_getElem h5)
          rw [HP.out] at e5
          cases e5
          have d1 : wr.cell? ⟨bt, i, none⟩ = some (.slice (some ⟨g, 0, none⟩) l l) := by rw [hB.out.cell (p := ⟨bt, i, none⟩) HBT.out]; exact HCE.out i _ (by rw [List.getElem?_eq_getElem h5, e6])
          have HO5 : Hid (Own wr g zs) := Own.aft hB.out O5
          have cc := K2.out.cell HP.out
          clear e6 O5 h5
          go_wp2_with fail
          replace hB : Hid (Below x21.heap.size x21 wr.drew) := hB.out.drew
          replace K2 : Hid (Kp w [(x17.heap.size, av, lv, kv, zv), (x15.heap.size, au, lu, ku, zu), (x13.heap.size, an, ln, kn, zn), (x11.heap.size + 1, ar, lr, kr, zr), (x11.heap.size, aq, lq, kq, zq), (x9.heap.size, ap, lp, kp, zp), (x7.heap.size, ao, lo, ko, zo), (x5.heap.size, ay, ly, ky, zy), (x3.heap.size, ax, lx, kx, zx)] y4.heap.size N g1 zx g2 zy wr.drew) := K1.out.after hB.out
          replace HO5 : Hid (Own wr.drew g zs) := HO5.out
          replace cc := K2.out.cell HP.out
          replace d1 : wr.drew.cell? ⟨bt, i, none⟩ = some (.slice (some ⟨g, 0, none⟩) l l) := d1
          refine wp_region_noPanic ?_
          refine wp_region_held_drew (S := (fun W => W.cell? ⟨y4.heap.size, i, none⟩ = some (.slice a l c) ∧ W.cell? ⟨bt, i, none⟩ = some (.slice (some ⟨g, 0, none⟩) l l))) (by kernel_rfl) ⟨cc, d1⟩ (fun hHeld => ?_)
          refine wpAnyH_take (i := 0) (v := ?_) rfl (by kernel_rfl) (by kernel_rfl) (by kernel_rfl) (fun _ _ _ h => h) (Or.inl ⟨by rfl, ?_⟩) hHeld ?_
          rotate_left
          · (intro W hSw; (try dsimp only at hSw); go_simp; all_goals (with_reducible rfl))
          simp only [List.getElem_toArray, List.getElem_cons_zero, Act.put, List.setIfInBounds_toArray, List.set_cons_zero, List.set_cons_succ]
          refine wpAnyH_take (i := 1) (v := ?_) rfl (by kernel_rfl) (by kernel_rfl) (by kernel_rfl) (fun _ _ _ h => h) (Or.inl ⟨by rfl, ?_⟩) hHeld ?_
          rotate_left
          · (intro W hSw; (try dsimp only at hSw); go_simp; all_goals (with_reducible rfl))
          simp only [List.getElem_toArray, List.getElem_cons_zero, List.getElem_cons_succ, Act.put, List.setIfInBounds_toArray, List.set_cons_zero, List.set_cons_succ]
          refine wpAnyH_take (i := 2) (v := ?_) rfl (by kernel_rfl) (by kernel_rfl) (by kernel_rfl) (fun _ _ _ h => h) (Or.inl ⟨by rfl, ?_⟩) hHeld ?_
          rotate_left
          · (intro W hSw; (try dsimp only at hSw); go_simp; all_goals (with_reducible rfl))
          simp only [List.getElem_toArray, List.getElem_cons_zero, List.getElem_cons_succ, Act.put, List.setIfInBounds_toArray, List.set_cons_zero, List.set_cons_succ]
          refine wpAnyH_take (i := 3) (v := ?_) rfl (by kernel_rfl) (by kernel_rfl) (by kernel_rfl) (fun _ _ _ h => h) (Or.inl ⟨by rfl, ?_⟩) hHeld ?_
          rotate_left
          · (intro W hSw; (try dsimp only at hSw); go_simp; all_goals (with_reducible rfl))
          simp only [List.getElem_toArray, List.getElem_cons_zero, List.getElem_cons_succ, Act.put, List.setIfInBounds_toArray, List.set_cons_zero, List.set_cons_succ]
          refine wpAnyH_take (i := 5) (v := ?_) rfl (by kernel_rfl) (by kernel_rfl) (by kernel_rfl) (fun _ _ _ h => h) (Or.inl ⟨by rfl, ?_⟩) hHeld ?_
          rotate_left
          · (intro W hSw; (try dsimp only at hSw); go_simp; all_goals (with_reducible rfl))
          simp only [List.getElem_toArray, List.getElem_cons_zero, List.getElem_cons_succ, Act.put, List.setIfInBounds_toArray, List.set_cons_zero, List.set_cons_succ]
          refine wpAnyH_take (i := 6) (v := ?_) rfl (by kernel_rfl) (by kernel_rfl) (by kernel_rfl) (fun _ _ _ h => h) (Or.inl ⟨by rfl, ?_⟩) hHeld ?_
          rotate_left
          · (intro W hSw; (try dsimp only at hSw); go_simp; all_goals (with_reducible rfl))
          simp only [List.getElem_toArray, List.getElem_cons_zero, List.getElem_cons_succ, Act.put, List.setIfInBounds_toArray, List.set_cons_zero, List.set_cons_succ]
          refine wpAnyH_take (i := 7) (v := ?_) rfl (by kernel_rfl) (by kernel_rfl) (by kernel_rfl) (fun _ _ _ h => h) (Or.inl ⟨by rfl, ?_⟩) hHeld ?_
          rotate_left
          · (intro W hSw; (try dsimp only at hSw); go_simp; all_goals (with_reducible rfl))
          simp only [List.getElem_toArray, List.getElem_cons_zero, List.getElem_cons_succ, Act.put, List.setIfInBounds_toArray, List.set_cons_zero, List.set_cons_succ]
          refine wpAnyH_take (i := 8) (v := ?_) rfl (by kernel_rfl) (by kernel_rfl) (by kernel_rfl) (fun _ _ _ h => h) (Or.inl ⟨by rfl, ?_⟩) hHeld ?_
          rotate_left
          · (intro W hSw; (try dsimp only at hSw); go_simp; all_goals (with_reducible rfl))
          simp only [List.getElem_toArray, List.getElem_cons_zero, List.getElem_cons_succ, Act.put, List.setIfInBounds_toArray, List.set_cons_zero, List.set_cons_succ]
          refine wpAnyH_ready (rs := [4]) (by kernel_rfl) (by simp) ?_
          refine AllReadyH.cons rfl (fun K hK => ?_) AllReadyH.nil
          simp only [List.getElem_toArray, List.getElem_cons_zero, List.getElem_cons_succ]
          go_simp
          refine (limbs_any a l c zs _ (K2.out.nt HP.out)).mono ?_
          rintro e t1 ⟨g6, rfl, hg6, O6, hb⟩
          have d2 : World.cell? t1 ⟨bt, i, none⟩ = some (.slice (some ⟨g, 0, none⟩) l l) := by rw [hb.cell (p := ⟨bt, i, none⟩) (Nat.lt_of_lt_of_le HBT.out hB.out.size)]; exact d1
          replace d1 := d2
          clear d2
          replace hB : Hid (Below x21.heap.size x21 t1) := hB.out.trans (hb.mono hB.out.size)
          replace K2 : Hid (Kp w [(x17.heap.size, av, lv, kv, zv), (x15.heap.size, au, lu, ku, zu), (x13.heap.size, an, ln, kn, zn), (x11.heap.size + 1, ar, lr, kr, zr), (x11.heap.size, aq, lq, kq, zq), (x9.heap.size, ap, lp, kp, zp), (x7.heap.size, ao, lo, ko, zo), (x5.heap.size, ay, ly, ky, zy), (x3.heap.size, ax, lx, kx, zx)] y4.heap.size N g1 zx g2 zy t1) := K2.out.after hb
          replace HO5 : Hid (Own t1 g zs) := Own.aft hb HO5.out
          replace cc := K2.out.cell HP.out
          clear hb hg6
          try go_wp2_with fail
          refine hK.out _ _ ⟨cc, d1⟩ (fun hHeld => ?_)
          clear hK K
          refine wpAnyH_ready (rs := [9]) (by kernel_rfl) (by simp) ?_
          refine AllReadyH.cons rfl (fun K hK => ?_) AllReadyH.nil
          simp only [List.getElem_toArray, List.getElem_cons_zero, List.getElem_cons_succ]
          go_simp
          refine (same_b (some ⟨g6, 0, none⟩) (some ⟨g, 0, none⟩) l l l zs _ (own_sl O6 (K2.out.nt HP.out)) (own_sl HO5.out (K2.out.nt HP.out)) (by have := (K2.out.nt HP.out).2.2.2; omega)).mono ?_
          rintro e t2 ⟨rfl, hb⟩
          have d2 : World.cell? t2 ⟨bt, i, none⟩ = some (.slice (some ⟨g, 0, none⟩) l l) := by rw [hb.cell (p := ⟨bt, i, none⟩) (Nat.lt_of_lt_of_le HBT.out hB.out.size)]; exact d1
          replace d1 := d2
          clear d2
          replace hB : Hid (Below x21.heap.size x21 t2) := hB.out.trans (hb.mono hB.out.size)
          replace K2 : Hid (Kp w [(x17.heap.size, av, lv, kv, zv), (x15.heap.size, au, lu, ku, zu), (x13.heap.size, an, ln, kn, zn), (x11.heap.size + 1, ar, lr, kr, zr), (x11.heap.size, aq, lq, kq, zq), (x9.heap.size, ap, lp, kp, zp), (x7.heap.size, ao, lo, ko, zo), (x5.heap.size, ay, ly, ky, zy), (x3.heap.size, ax, lx, kx, zx)] y4.heap.size N g1 zx g2 zy t2) := K2.out.after hb
          replace HO5 : Hid (Own t2 g zs) := Own.aft hb HO5.out
          replace cc := K2.out.cell HP.out
          clear hb O6
          try go_wp2_with fail
          refine hK.out _ _ ⟨cc, d1⟩ (fun hHeld => ?_)
          clear hK K
          refine wpAnyH_take (i := 10) (v := ?_) rfl (by kernel_rfl) (by kernel_rfl) (by kernel_rfl) (fun _ _ _ h => h) (Or.inl ⟨by rfl, ?_⟩) hHeld ?_
          rotate_left
          · (intro W hSw; (try dsimp only at hSw); go_simp; all_goals (with_reducible rfl))
          simp only [List.getElem_toArray, List.getElem_cons_zero, List.getElem_cons_succ, Act.put, List.setIfInBounds_toArray, List.set_cons_zero, List.set_cons_succ]
          refine wpAnyH_done (by kernel_rfl) ?_ _
          refine NoPanic.normal ?_
          clear hHeld
          go_wp2_with fail
          go_roundw
          case rel => exact ⟨i + 1, by go_num, by omega, hB⟩
          case measure => simp [intOf]; omega
        · have jl : ¬ (i : Int) < 9 := by omega
          have H := K2.out.1
          clear hlt hi K1 HCE HBT hTL HNIX HN9 hct
          have O1 := K2.out.2.2.2.1
          have O2 := K2.out.2.2.2.2
          clear K2 hB
          have c_x := H.at 8 rfl
          have l_x := H.lt 8 rfl
          have m_x := Nat.le_of_lt l_x
          go_wp2_with fail
          refine ent1 wr _ _ (Q := fun W => Calls Try.prog _ _ W _) ?_
          intro x22 hb hs_ V
          replace O1 := Own.aft hb O1
          replace O2 := Own.aft hb O2
          replace H := H.after hb
          replace H := H.cons V (Nt.nil _)
          clear hb hs_ V
          refine (mul_none ax lx kx zx x22 (H.nt 9 rfl)).mono ?_
          rintro e x23 ⟨aM, kM, rfl, hM, hb⟩
          replace O1 := Own.aft hb O1
          replace O2 := Own.aft hb O2
          replace H := H.after hb
          clear hb
          clear c_x l_x m_x
          have c_N := H.at 0 rfl
          have l_N := H.lt 0 rfl
          have m_N := Nat.le_of_lt l_N
          have c_x := H.at 9 rfl
          have l_x := H.lt 9 rfl
          have m_x := Nat.le_of_lt l_x
          go_wp2_with fail
          refine ent1 x23 _ _ (Q := fun W => Calls Try.prog _ _ W _) ?_
          intro x24 hb hs_ V
          replace hM := Nt.after hb hM
          replace O1 := Own.aft hb O1
          replace O2 := Own.aft hb O2
          replace H := H.after hb
          replace H := H.cons V hM
          clear hb hs_ V hM
          refine (add_none ax lx kx zx x24 (H.nt 10 rfl)).mono ?_
          rintro e x25 ⟨aS, lS, kS, zS, rfl, hS, nS, hb⟩
          replace O1 := Own.aft hb O1
          replace O2 := Own.aft hb O2
          replace H := H.after hb
          clear hb
          have HNS : Hid (num zS = num zx) := nS
          clear nS
          clear c_N l_N m_N c_x l_x m_x
          have c_N := H.at 1 rfl
          have l_N := H.lt 1 rfl
          have m_N := Nat.le_of_lt l_N
          have c_x := H.at 10 rfl
          have l_x := H.lt 10 rfl
          have m_x := Nat.le_of_lt l_x
          go_wp2_with fail
          refine ent1 x25 _ _ (Q := fun W => Calls Try.prog _ _ W _) ?_
          intro x26 hb hs_ V
          replace hS := Nt.after hb hS
          replace O1 := Own.aft hb O1
          replace O2 := Own.aft hb O2
          replace H := H.after hb
          replace H := H.cons V hS
          clear hb hs_ V hS
          refine (ndiv_nought ax none lx kx 0 0 zx [] x26 (H.nt 11 rfl) (Nt.nil _) rfl).mono ?_
          rintro e x27 ⟨rfl, hb⟩
          replace O1 := Own.aft hb O1
          replace O2 := Own.aft hb O2
          replace H := H.after hb
          clear hb
          clear c_N l_N m_N c_x l_x m_x
          have c_N := H.at 2 rfl
          have l_N := H.lt 2 rfl
          have m_N := Nat.le_of_lt l_N
          have c_x := H.at 11 rfl
          have l_x := H.lt 11 rfl
          have m_x := Nat.le_of_lt l_x
          go_wp2_with fail
          refine ent2 x27 _ _ _ _ (Q := fun W => Code.wp Try.prog _ _ _ W) ?_
          intro x28 hb hs_ V V2
          replace O1 := Own.aft hb O1
          replace O2 := Own.aft hb O2
          replace H := H.after hb
          clear hb hs_ V V2
          clear c_N l_N m_N c_x l_x m_x
          replace H := H.drw
          replace O1 : Own x28.drew g1 zx := O1
          replace O2 : Own x28.drew g2 zy := O2
          refine wp_region_noPanic ?_
          refine wp_region_held_drew (S := (fun W => W.cell? ⟨x3.heap.size, 0, none⟩ = some (.slice ax lx kx) ∧ W.cell? ⟨x5.heap.size, 0, none⟩ = some (.slice ay ly ky) ∧ W.cell? ⟨wr.heap.size, 0, none⟩ = some (.slice none 0 0) ∧ W.cell? ⟨x23.heap.size, 0, none⟩ = some (.slice aM 0 kM) ∧ W.cell? ⟨x25.heap.size, 0, none⟩ = some (.slice aS lS kS))) (by kernel_rfl) ⟨H.at 11 rfl, H.at 10 rfl, H.at 2 rfl, H.at 1 rfl, H.at 0 rfl⟩ (fun hHeld => ?_)
          refine wpAnyH_take (i := 0) (v := ?_) rfl (by kernel_rfl) (by kernel_rfl) (by kernel_rfl) (fun _ _ _ h => h) (Or.inl ⟨by rfl, ?_⟩) hHeld ?_
          rotate_left
          · (intro W hSw; (try dsimp only at hSw); go_simp; all_goals (with_reducible rfl))
          simp only [List.getElem_toArray, List.getElem_cons_zero, Act.put, List.setIfInBounds_toArray, List.set_cons_zero, List.set_cons_succ]
          refine wpAnyH_take (i := 1) (v := ?_) rfl (by kernel_rfl) (by kernel_rfl) (by kernel_rfl) (fun _ _ _ h => h) (Or.inl ⟨by rfl, ?_⟩) hHeld ?_
          rotate_left
          · (intro W hSw; (try dsimp only at hSw); go_simp; all_goals (with_reducible rfl))
          simp only [List.getElem_toArray, List.getElem_cons_zero, List.getElem_cons_succ, Act.put, List.setIfInBounds_toArray, List.set_cons_zero, List.set_cons_succ]
          refine wpAnyH_take (i := 2) (v := ?_) rfl (by kernel_rfl) (by kernel_rfl) (by kernel_rfl) (fun _ _ _ h => h) (Or.inl ⟨by rfl, ?_⟩) hHeld ?_
          rotate_left
          · (intro W hSw; (try dsimp only at hSw); go_simp; all_goals (with_reducible rfl))
          simp only [List.getElem_toArray, List.getElem_cons_zero, List.getElem_cons_succ, Act.put, List.setIfInBounds_toArray, List.set_cons_zero, List.set_cons_succ]
          refine wpAnyH_take (i := 4) (v := ?_) rfl (by kernel_rfl) (by kernel_rfl) (by kernel_rfl) (fun _ _ _ h => h) (Or.inl ⟨by rfl, ?_⟩) hHeld ?_
          rotate_left
          · (intro W hSw; (try dsimp only at hSw); go_simp; all_goals (with_reducible rfl))
          simp only [List.getElem_toArray, List.getElem_cons_zero, List.getElem_cons_succ, Act.put, List.setIfInBounds_toArray, List.set_cons_zero, List.set_cons_succ]
          refine wpAnyH_ready (rs := [3]) (by kernel_rfl) (by simp) ?_
          refine AllReadyH.cons rfl (fun K hK => ?_) AllReadyH.nil
          simp only [List.getElem_toArray, List.getElem_cons_zero, List.getElem_cons_succ]
          go_simp
          refine (limbs_any ax lx kx zx _ (H.nt 11 rfl)).mono ?_
          rintro e t1 ⟨gA, rfl, hg6, OA, hb⟩
          replace H := H.after hb
          replace O1 := Own.aft hb O1
          replace O2 := Own.aft hb O2
          clear hb hg6
          try go_wp2_with fail
          refine hK.out _ _ ⟨H.at 11 rfl, H.at 10 rfl, H.at 2 rfl, H.at 1 rfl, H.at 0 rfl⟩ (fun hHeld => ?_)
          clear hK K
          refine wpAnyH_ready (rs := [5]) (by kernel_rfl) (by simp) ?_
          refine AllReadyH.cons rfl (fun K hK => ?_) AllReadyH.nil
          simp only [List.getElem_toArray, List.getElem_cons_zero, List.getElem_cons_succ]
          go_simp
          refine (same_b (some ⟨gA, 0, none⟩) (some ⟨g1, 0, none⟩) lx lx lx zx _ (own_sl OA (H.nt 11 rfl)) (own_sl O1 (H.nt 11 rfl)) (by have := (H.nt 11 rfl).2.2.2; omega)).mono ?_
          rintro e sA ⟨rfl, hb⟩
          replace H := H.after hb
          replace O1 := Own.aft hb O1
          replace O2 := Own.aft hb O2
          clear hb
          try go_wp2_with fail
          refine hK.out _ _ ⟨H.at 11 rfl, H.at 10 rfl, H.at 2 rfl, H.at 1 rfl, H.at 0 rfl⟩ (fun hHeld => ?_)
          clear hK K
          refine wpAnyH_take (i := 6) (v := ?_) rfl (by kernel_rfl) (by kernel_rfl) (by kernel_rfl) (fun _ _ _ h => h) (Or.inl ⟨by rfl, ?_⟩) hHeld ?_
          rotate_left
          · (intro W hSw; (try dsimp only at hSw); go_simp; all_goals (with_reducible rfl))
          simp only [List.getElem_toArray, List.getElem_cons_zero, List.getElem_cons_succ, Act.put, List.setIfInBounds_toArray, List.set_cons_zero, List.set_cons_succ]
          refine wpAnyH_take (i := 7) (v := ?_) rfl (by kernel_rfl) (by kernel_rfl) (by kernel_rfl) (fun _ _ _ h => h) (Or.inl ⟨by rfl, ?_⟩) hHeld ?_
          rotate_left
          · (intro W hSw; (try dsimp only at hSw); go_simp; all_goals (with_reducible rfl))
          simp only [List.getElem_toArray, List.getElem_cons_zero, List.getElem_cons_succ, Act.put, List.setIfInBounds_toArray, List.set_cons_zero, List.set_cons_succ]
          refine wpAnyH_take (i := 8) (v := ?_) rfl (by kernel_rfl) (by kernel_rfl) (by kernel_rfl) (fun _ _ _ h => h) (Or.inl ⟨by rfl, ?_⟩) hHeld ?_
          rotate_left
          · (intro W hSw; (try dsimp only at hSw); go_simp; all_goals (with_reducible rfl))
          simp only [List.getElem_toArray, List.getElem_cons_zero, List.getElem_cons_succ, Act.put, List.setIfInBounds_toArray, List.set_cons_zero, List.set_cons_succ]
          refine wpAnyH_take (i := 10) (v := ?_) rfl (by kernel_rfl) (by kernel_rfl) (by kernel_rfl) (fun _ _ _ h => h) (Or.inl ⟨by rfl, ?_⟩) hHeld ?_
          rotate_left
          · (intro W hSw; (try dsimp only at hSw); go_simp; all_goals (with_reducible rfl))
          simp only [List.getElem_toArray, List.getElem_cons_zero, List.getElem_cons_succ, Act.put, List.setIfInBounds_toArray, List.set_cons_zero, List.set_cons_succ]
          refine wpAnyH_ready (rs := [9]) (by kernel_rfl) (by simp) ?_
          refine AllReadyH.cons rfl (fun K hK => ?_) AllReadyH.nil
          simp only [List.getElem_toArray, List.getElem_cons_zero, List.getElem_cons_succ]
          go_simp
          refine (limbs_any ay ly ky zy _ (H.nt 10 rfl)).mono ?_
          rintro e t2 ⟨gB, rfl, hg6, OB, hb⟩
          replace H := H.after hb
          replace O1 := Own.aft hb O1
          replace O2 := Own.aft hb O2
          clear hb hg6
          try go_wp2_with fail
          refine hK.out _ _ ⟨H.at 11 rfl, H.at 10 rfl, H.at 2 rfl, H.at 1 rfl, H.at 0 rfl⟩ (fun hHeld => ?_)
          clear hK K
          refine wpAnyH_ready (rs := [11]) (by kernel_rfl) (by simp) ?_
          refine AllReadyH.cons rfl (fun K hK => ?_) AllReadyH.nil
          simp only [List.getElem_toArray, List.getElem_cons_zero, List.getElem_cons_succ]
          go_simp
          refine (same_b (some ⟨gB, 0, none⟩) (some ⟨g2, 0, none⟩) ly ly ly zy _ (own_sl OB (H.nt 10 rfl)) (own_sl O2 (H.nt 10 rfl)) (by have := (H.nt 10 rfl).2.2.2; omega)).mono ?_
          rintro e sB ⟨rfl, hb⟩
          replace H := H.after hb
          replace O1 := Own.aft hb O1
          replace O2 := Own.aft hb O2
          clear hb
          try go_wp2_with fail
          refine hK.out _ _ ⟨H.at 11 rfl, H.at 10 rfl, H.at 2 rfl, H.at 1 rfl, H.at 0 rfl⟩ (fun hHeld => ?_)
          clear hK K
          refine wpAnyH_take (i := 12) (v := ?_) rfl (by kernel_rfl) (by kernel_rfl) (by kernel_rfl) (fun _ _ _ h => h) (Or.inl ⟨by rfl, ?_⟩) hHeld ?_
          rotate_left
          · (intro W hSw; (try dsimp only at hSw); go_simp; all_goals (with_reducible rfl))
          simp only [List.getElem_toArray, List.getElem_cons_zero, List.getElem_cons_succ, Act.put, List.setIfInBounds_toArray, List.set_cons_zero, List.set_cons_succ]
          refine wpAnyH_take (i := 13) (v := ?_) rfl (by kernel_rfl) (by kernel_rfl) (by kernel_rfl) (fun _ _ _ h => h) (Or.inl ⟨by rfl, ?_⟩) hHeld ?_
          rotate_left
          · (intro W hSw; (try dsimp only at hSw); go_simp; all_goals (with_reducible rfl))
          simp only [List.getElem_toArray, List.getElem_cons_zero, List.getElem_cons_succ, Act.put, List.setIfInBounds_toArray, List.set_cons_zero, List.set_cons_succ]
          refine wpAnyH_take (i := 14) (v := ?_) rfl (by kernel_rfl) (by kernel_rfl) (by kernel_rfl) (fun _ _ _ h => h) (Or.inl ⟨by rfl, ?_⟩) hHeld ?_
          rotate_left
          · (intro W hSw; (try dsimp only at hSw); go_simp; all_goals (with_reducible rfl))
          simp only [List.getElem_toArray, List.getElem_cons_zero, List.getElem_cons_succ, Act.put, List.setIfInBounds_toArray, List.set_cons_zero, List.set_cons_succ]
          refine wpAnyH_ready (rs := [15]) (by kernel_rfl) (by simp) ?_
          refine AllReadyH.cons rfl (fun K hK => ?_) AllReadyH.nil
          simp only [List.getElem_toArray, List.getElem_cons_zero, List.getElem_cons_succ]
          go_simp
          refine (isZero_nil none 0 _).mono ?_
          rintro e t3 ⟨rfl, hb⟩
          replace H := H.after hb
          replace O1 := Own.aft hb O1
          replace O2 := Own.aft hb O2
          clear hb
          try go_wp2_with fail
          refine hK.out _ _ ⟨H.at 11 rfl, H.at 10 rfl, H.at 2 rfl, H.at 1 rfl, H.at 0 rfl⟩ (fun hHeld => ?_)
          clear hK K
          refine wpAnyH_take (i := 16) (v := ?_) rfl (by kernel_rfl) (by kernel_rfl) (by kernel_rfl) (fun _ _ _ h => h) (Or.inl ⟨by rfl, ?_⟩) hHeld ?_
          rotate_left
          · (intro W hSw; (try dsimp only at hSw); go_simp; all_goals (with_reducible rfl))
          simp only [List.getElem_toArray, List.getElem_cons_zero, List.getElem_cons_succ, Act.put, List.setIfInBounds_toArray, List.set_cons_zero, List.set_cons_succ]
          refine wpAnyH_take (i := 17) (v := ?_) rfl (by kernel_rfl) (by kernel_rfl) (by kernel_rfl) (fun _ _ _ h => h) (Or.inl ⟨by rfl, ?_⟩) hHeld ?_
          rotate_left
          · (intro W hSw; (try dsimp only at hSw); go_simp; all_goals (with_reducible rfl))
          simp only [List.getElem_toArray, List.getElem_cons_zero, List.getElem_cons_succ, Act.put, List.setIfInBounds_toArray, List.set_cons_zero, List.set_cons_succ]
          refine wpAnyH_take (i := 18) (v := ?_) rfl (by kernel_rfl) (by kernel_rfl) (by kernel_rfl) (fun _ _ _ h => h) (Or.inl ⟨by rfl, ?_⟩) hHeld ?_
          rotate_left
          · (intro W hSw; (try dsimp only at hSw); go_simp; all_goals (with_reducible rfl))
          simp only [List.getElem_toArray, List.getElem_cons_zero, List.getElem_cons_succ, Act.put, List.setIfInBounds_toArray, List.set_cons_zero, List.set_cons_succ]
          refine wpAnyH_ready (rs := [19]) (by kernel_rfl) (by simp) ?_
          refine AllReadyH.cons rfl (fun K hK => ?_) AllReadyH.nil
          simp only [List.getElem_toArray, List.getElem_cons_zero, List.getElem_cons_succ]
          go_simp
          refine (nbits_nil _).mono ?_
          rintro e t4 ⟨rfl, hb⟩
          replace H := H.after hb
          replace O1 := Own.aft hb O1
          replace O2 := Own.aft hb O2
          clear hb
          try go_wp2_with fail
          refine hK.out _ _ ⟨H.at 11 rfl, H.at 10 rfl, H.at 2 rfl, H.at 1 rfl, H.at 0 rfl⟩ (fun hHeld => ?_)
          clear hK K
          refine wpAnyH_take (i := 20) (v := ?_) rfl (by kernel_rfl) (by kernel_rfl) (by kernel_rfl) (fun _ _ _ h => h) (Or.inl ⟨by rfl, ?_⟩) hHeld ?_
          rotate_left
          · (intro W hSw; (try dsimp only at hSw); go_simp; all_goals (with_reducible rfl))
          simp only [List.getElem_toArray, List.getElem_cons_zero, List.getElem_cons_succ, Act.put, List.setIfInBounds_toArray, List.set_cons_zero, List.set_cons_succ]
          refine wpAnyH_take (i := 21) (v := ?_) rfl (by kernel_rfl) (by kernel_rfl) (by kernel_rfl) (fun _ _ _ h => h) (Or.inl ⟨by rfl, ?_⟩) hHeld ?_
          rotate_left
          · (intro W hSw; (try dsimp only at hSw); go_simp; all_goals (with_reducible rfl))
          simp only [List.getElem_toArray, List.getElem_cons_zero, List.getElem_cons_succ, Act.put, List.setIfInBounds_toArray, List.set_cons_zero, List.set_cons_succ]
          refine wpAnyH_take (i := 22) (v := ?_) rfl (by kernel_rfl) (by kernel_rfl) (by kernel_rfl) (fun _ _ _ h => h) (Or.inl ⟨by rfl, ?_⟩) hHeld ?_
          rotate_left
          · (intro W hSw; (try dsimp only at hSw); go_simp; all_goals (with_reducible rfl))
          simp only [List.getElem_toArray, List.getElem_cons_zero, List.getElem_cons_succ, Act.put, List.setIfInBounds_toArray, List.set_cons_zero, List.set_cons_succ]
          refine wpAnyH_take (i := 23) (v := ?_) rfl (by kernel_rfl) (by kernel_rfl) (by kernel_rfl) (fun _ _ _ h => h) (Or.inl ⟨by rfl, ?_⟩) hHeld ?_
          rotate_left
          · (intro W hSw; (try dsimp only at hSw); go_simp; all_goals (with_reducible rfl))
          simp only [List.getElem_toArray, List.getElem_cons_zero, List.getElem_cons_succ, Act.put, List.setIfInBounds_toArray, List.set_cons_zero, List.set_cons_succ]
          refine wpAnyH_ready (rs := [24]) (by kernel_rfl) (by simp) ?_
          refine AllReadyH.cons rfl (fun K hK => ?_) AllReadyH.nil
          simp only [List.getElem_toArray, List.getElem_cons_zero, List.getElem_cons_succ]
          go_simp
          refine (limbs_any none 0 0 [] _ (Nt.nil _)).mono ?_
          rintro e t5 ⟨gC, rfl, hg6, OC, hb⟩
          replace H := H.after hb
          replace O1 := Own.aft hb O1
          replace O2 := Own.aft hb O2
          clear hb
          clear hg6 OC
          try go_wp2_with fail
          refine hK.out _ _ ⟨H.at 11 rfl, H.at 10 rfl, H.at 2 rfl, H.at 1 rfl, H.at 0 rfl⟩ (fun hHeld => ?_)
          clear hK K
          refine wpAnyH_take (i := 25) (v := ?_) rfl (by kernel_rfl) (by kernel_rfl) (by kernel_rfl) (fun _ _ _ h => h) (Or.inl ⟨by rfl, ?_⟩) hHeld ?_
          rotate_left
          · (intro W hSw; (try dsimp only at hSw); go_simp; all_goals (with_reducible rfl))
          simp only [List.getElem_toArray, List.getElem_cons_zero, List.getElem_cons_succ, Act.put, List.setIfInBounds_toArray, List.set_cons_zero, List.set_cons_succ]
          refine wpAnyH_take (i := 26) (v := ?_) rfl (by kernel_rfl) (by kernel_rfl) (by kernel_rfl) (fun _ _ _ h => h) (Or.inl ⟨by rfl, ?_⟩) hHeld ?_
          rotate_left
          · (intro W hSw; (try dsimp only at hSw); go_simp; all_goals (with_reducible rfl))
          simp only [List.getElem_toArray, List.getElem_cons_zero, List.getElem_cons_succ, Act.put, List.setIfInBounds_toArray, List.set_cons_zero, List.set_cons_succ]
          refine wpAnyH_take (i := 27) (v := ?_) rfl (by kernel_rfl) (by kernel_rfl) (by kernel_rfl) (fun _ _ _ h => h) (Or.inl ⟨by rfl, ?_⟩) hHeld ?_
          rotate_left
          · (intro W hSw; (try dsimp only at hSw); go_simp; all_goals (with_reducible rfl))
          simp only [List.getElem_toArray, List.getElem_cons_zero, List.getElem_cons_succ, Act.put, List.setIfInBounds_toArray, List.set_cons_zero, List.set_cons_succ]
          refine wpAnyH_take (i := 28) (v := ?_) rfl (by kernel_rfl) (by kernel_rfl) (by kernel_rfl) (fun _ _ _ h => h) (Or.inl ⟨by rfl, ?_⟩) hHeld ?_
          rotate_left
          · (intro W hSw; (try dsimp only at hSw); go_simp; all_goals (with_reducible rfl))
          simp only [List.getElem_toArray, List.getElem_cons_zero, List.getElem_cons_succ, Act.put, List.setIfInBounds_toArray, List.set_cons_zero, List.set_cons_succ]
          refine wpAnyH_take (i := 29) (v := ?_) rfl (by kernel_rfl) (by kernel_rfl) (by kernel_rfl) (fun _ _ _ h => h) (Or.inl ⟨by rfl, ?_⟩) hHeld ?_
          rotate_left
          · (intro W hSw; (try dsimp only at hSw); go_simp; all_goals (with_reducible rfl))
          simp only [List.getElem_toArray, List.getElem_cons_zero, List.getElem_cons_succ, Act.put, List.setIfInBounds_toArray, List.set_cons_zero, List.set_cons_succ]
          refine wpAnyH_take (i := 30) (v := ?_) rfl (by kernel_rfl) (by kernel_rfl) (by kernel_rfl) (fun _ _ _ h => h) (Or.inl ⟨by rfl, ?_⟩) hHeld ?_
          rotate_left
          · (intro W hSw; (try dsimp only at hSw); go_simp; all_goals (with_reducible rfl))
          simp only [List.getElem_toArray, List.getElem_cons_zero, List.getElem_cons_succ, Act.put, List.setIfInBounds_toArray, List.set_cons_zero, List.set_cons_succ]
          refine wpAnyH_take (i := 31) (v := ?_) rfl (by kernel_rfl) (by kernel_rfl) (by kernel_rfl) (fun _ _ _ h => h) (Or.inl ⟨by rfl, ?_⟩) hHeld ?_
          rotate_left
          · (intro W hSw; (try dsimp only at hSw); go_simp; all_goals (with_reducible rfl))
          simp only [List.getElem_toArray, List.getElem_cons_zero, List.getElem_cons_succ, Act.put, List.setIfInBounds_toArray, List.set_cons_zero, List.set_cons_succ]
          refine wpAnyH_take (i := 32) (v := ?_) rfl (by kernel_rfl) (by kernel_rfl) (by kernel_rfl) (fun _ _ _ h => h) (Or.inl ⟨by rfl, ?_⟩) hHeld ?_
          rotate_left
          · (intro W hSw; (try dsimp only at hSw); go_simp; all_goals (with_reducible rfl))
          simp only [List.getElem_toArray, List.getElem_cons_zero, List.getElem_cons_succ, Act.put, List.setIfInBounds_toArray, List.set_cons_zero, List.set_cons_succ]
          refine wpAnyH_take (i := 33) (v := ?_) rfl (by kernel_rfl) (by kernel_rfl) (by kernel_rfl) (fun _ _ _ h => h) (Or.inl ⟨by rfl, ?_⟩) hHeld ?_
          rotate_left
          · (intro W hSw; (try dsimp only at hSw); go_simp; all_goals (with_reducible rfl))
          simp only [List.getElem_toArray, List.getElem_cons_zero, List.getElem_cons_succ, Act.put, List.setIfInBounds_toArray, List.set_cons_zero, List.set_cons_succ]
          refine wpAnyH_take (i := 34) (v := ?_) rfl (by kernel_rfl) (by kernel_rfl) (by kernel_rfl) (fun _ _ _ h => h) (Or.inl ⟨by rfl, ?_⟩) hHeld ?_
          rotate_left
          · (intro W hSw; (try dsimp only at hSw); go_simp; all_goals (with_reducible rfl))
          simp only [List.getElem_toArray, List.getElem_cons_zero, List.getElem_cons_succ, Act.put, List.setIfInBounds_toArray, List.set_cons_zero, List.set_cons_succ]
          refine wpAnyH_take (i := 35) (v := ?_) rfl (by kernel_rfl) (by kernel_rfl) (by kernel_rfl) (fun _ _ _ h => h) (Or.inl ⟨by rfl, ?_⟩) hHeld ?_
          rotate_left
          · (intro W hSw; (try dsimp only at hSw); go_simp; all_goals (with_reducible rfl))
          simp only [List.getElem_toArray, List.getElem_cons_zero, List.getElem_cons_succ, Act.put, List.setIfInBounds_toArray, List.set_cons_zero, List.set_cons_succ]
          refine wpAnyH_take (i := 36) (v := ?_) rfl (by kernel_rfl) (by kernel_rfl) (by kernel_rfl) (fun _ _ _ h => h) (Or.inl ⟨by rfl, ?_⟩) hHeld ?_
          rotate_left
          · (intro W hSw; (try dsimp only at hSw); go_simp; all_goals (with_reducible rfl))
          simp only [List.getElem_toArray, List.getElem_cons_zero, List.getElem_cons_succ, Act.put, List.setIfInBounds_toArray, List.set_cons_zero, List.set_cons_succ]
          refine wpAnyH_take (i := 37) (v := ?_) rfl (by kernel_rfl) (by kernel_rfl) (by kernel_rfl) (fun _ _ _ h => h) (Or.inl ⟨by rfl, ?_⟩) hHeld ?_
          rotate_left
          · (intro W hSw; (try dsimp only at hSw); go_simp; all_goals (with_reducible rfl))
          simp only [List.getElem_toArray, List.getElem_cons_zero, List.getElem_cons_succ, Act.put, List.setIfInBounds_toArray, List.set_cons_zero, List.set_cons_succ]
          refine wpAnyH_take (i := 38) (v := ?_) rfl (by kernel_rfl) (by kernel_rfl) (by kernel_rfl) (fun _ _ _ h => h) (Or.inl ⟨by rfl, ?_⟩) hHeld ?_
          rotate_left
          · (intro W hSw; (try dsimp only at hSw); go_simp; all_goals (with_reducible rfl))
          simp only [List.getElem_toArray, List.getElem_cons_zero, List.getElem_cons_succ, Act.put, List.setIfInBounds_toArray, List.set_cons_zero, List.set_cons_succ]
          refine wpAnyH_take (i := 39) (v := ?_) rfl (by kernel_rfl) (by kernel_rfl) (by kernel_rfl) (fun _ _ _ h => h) (Or.inl ⟨by rfl, ?_⟩) hHeld ?_
          rotate_left
          · (intro W hSw; (try dsimp only at hSw); go_simp; all_goals (with_reducible rfl))
          simp only [List.getElem_toArray, List.getElem_cons_zero, List.getElem_cons_succ, Act.put, List.setIfInBounds_toArray, List.set_cons_zero, List.set_cons_succ]
          refine wpAnyH_take (i := 40) (v := ?_) rfl (by kernel_rfl) (by kernel_rfl) (by kernel_rfl) (fun _ _ _ h => h) (Or.inl ⟨by rfl, ?_⟩) hHeld ?_
          rotate_left
          · (intro W hSw; (try dsimp only at hSw); go_simp; all_goals (with_reducible rfl))
          simp only [List.getElem_toArray, List.getElem_cons_zero, List.getElem_cons_succ, Act.put, List.setIfInBounds_toArray, List.set_cons_zero, List.set_cons_succ]
          refine wpAnyH_take (i := 41) (v := ?_) rfl (by kernel_rfl) (by kernel_rfl) (by kernel_rfl) (fun _ _ _ h => h) (Or.inl ⟨by rfl, ?_⟩) hHeld ?_
          rotate_left
          · (intro W hSw; (try dsimp only at hSw); go_simp; all_goals (with_reducible rfl))
          simp only [List.getElem_toArray, List.getElem_cons_zero, List.getElem_cons_succ, Act.put, List.setIfInBounds_toArray, List.set_cons_zero, List.set_cons_succ]
          refine wpAnyH_ready (rs := [42]) (by kernel_rfl) (by simp) ?_
          refine AllReadyH.cons rfl (fun K hK => ?_) AllReadyH.nil
          simp only [List.getElem_toArray, List.getElem_cons_zero, List.getElem_cons_succ]
          go_simp
          refine (isZero_nil aM kM _).mono ?_
          rintro e t6 ⟨rfl, hb⟩
          replace H := H.after hb
          replace O1 := Own.aft hb O1
          replace O2 := Own.aft hb O2
          clear hb
          try go_wp2_with fail
          refine hK.out _ _ ⟨H.at 11 rfl, H.at 10 rfl, H.at 2 rfl, H.at 1 rfl, H.at 0 rfl⟩ (fun hHeld => ?_)
          clear hK K
          refine wpAnyH_take (i := 43) (v := ?_) rfl (by kernel_rfl) (by kernel_rfl) (by kernel_rfl) (fun _ _ _ h => h) (Or.inl ⟨by rfl, ?_⟩) hHeld ?_
          rotate_left
          · (intro W hSw; (try dsimp only at hSw); go_simp; all_goals (with_reducible rfl))
          simp only [List.getElem_toArray, List.getElem_cons_zero, List.getElem_cons_succ, Act.put, List.setIfInBounds_toArray, List.set_cons_zero, List.set_cons_succ]
          refine wpAnyH_take (i := 44) (v := ?_) rfl (by kernel_rfl) (by kernel_rfl) (by kernel_rfl) (fun _ _ _ h => h) (Or.inl ⟨by rfl, ?_⟩) hHeld ?_
          rotate_left
          · (intro W hSw; (try dsimp only at hSw); go_simp; all_goals (with_reducible rfl))
          simp only [List.getElem_toArray, List.getElem_cons_zero, List.getElem_cons_succ, Act.put, List.setIfInBounds_toArray, List.set_cons_zero, List.set_cons_succ]
          refine wpAnyH_take (i := 45) (v := ?_) rfl (by kernel_rfl) (by kernel_rfl) (by kernel_rfl) (fun _ _ _ h => h) (Or.inl ⟨by rfl, ?_⟩) hHeld ?_
          rotate_left
          · (intro W hSw; (try dsimp only at hSw); go_simp; all_goals (with_reducible rfl))
          simp only [List.getElem_toArray, List.getElem_cons_zero, List.getElem_cons_succ, Act.put, List.setIfInBounds_toArray, List.set_cons_zero, List.set_cons_succ]
          refine wpAnyH_take (i := 46) (v := ?_) rfl (by kernel_rfl) (by kernel_rfl) (by kernel_rfl) (fun _ _ _ h => h) (Or.inl ⟨by rfl, ?_⟩) hHeld ?_
          rotate_left
          · (intro W hSw; (try dsimp only at hSw); go_simp; all_goals (with_reducible rfl))
          simp only [List.getElem_toArray, List.getElem_cons_zero, List.getElem_cons_succ, Act.put, List.setIfInBounds_toArray, List.set_cons_zero, List.set_cons_succ]
          refine wpAnyH_ready (rs := [47]) (by kernel_rfl) (by simp) ?_
          refine AllReadyH.cons rfl (fun K hK => ?_) AllReadyH.nil
          simp only [List.getElem_toArray, List.getElem_cons_zero, List.getElem_cons_succ]
          go_simp
          refine (ncompare_one aS ax lS kS lx kx zS zx _ (H.nt 0 rfl) (H.nt 11 rfl) HNS.out).mono ?_
          rintro e t7 ⟨rfl, hb⟩
          replace H := H.after hb
          replace O1 := Own.aft hb O1
          replace O2 := Own.aft hb O2
          clear hb
          try go_wp2_with fail
          refine hK.out _ _ ⟨H.at 11 rfl, H.at 10 rfl, H.at 2 rfl, H.at 1 rfl, H.at 0 rfl⟩ (fun hHeld => ?_)
          clear hK K
          refine wpAnyH_take (i := 48) (v := ?_) rfl (by kernel_rfl) (by kernel_rfl) (by kernel_rfl) (fun _ _ _ h => h) (Or.inl ⟨by rfl, ?_⟩) hHeld ?_
          rotate_left
          · (intro W hSw; (try dsimp only at hSw); go_simp; all_goals (with_reducible rfl))
          simp only [List.getElem_toArray, List.getElem_cons_zero, List.getElem_cons_succ, Act.put, List.setIfInBounds_toArray, List.set_cons_zero, List.set_cons_succ]
          refine wpAnyH_take (i := 49) (v := ?_) rfl (by kernel_rfl) (by kernel_rfl) (by kernel_rfl) (fun _ _ _ h => h) (Or.inl ⟨by rfl, ?_⟩) hHeld ?_
          rotate_left
          · (intro W hSw; (try dsimp only at hSw); go_simp; all_goals (with_reducible rfl))
          simp only [List.getElem_toArray, List.getElem_cons_zero, List.getElem_cons_succ, Act.put, List.setIfInBounds_toArray, List.set_cons_zero, List.set_cons_succ]
          refine wpAnyH_take (i := 50) (v := ?_) rfl (by kernel_rfl) (by kernel_rfl) (by kernel_rfl) (fun _ _ _ h => h) (Or.inl ⟨by rfl, ?_⟩) hHeld ?_
          rotate_left
          · (intro W hSw; (try dsimp only at hSw); go_simp; all_goals (with_reducible rfl))
          simp only [List.getElem_toArray, List.getElem_cons_zero, List.getElem_cons_succ, Act.put, List.setIfInBounds_toArray, List.set_cons_zero, List.set_cons_succ]
          refine wpAnyH_take (i := 51) (v := ?_) rfl (by kernel_rfl) (by kernel_rfl) (by kernel_rfl) (fun _ _ _ h => h) (Or.inl ⟨by rfl, ?_⟩) hHeld ?_
          rotate_left
          · (intro W hSw; (try dsimp only at hSw); go_simp; all_goals (with_reducible rfl))
          simp only [List.getElem_toArray, List.getElem_cons_zero, List.getElem_cons_succ, Act.put, List.setIfInBounds_toArray, List.set_cons_zero, List.set_cons_succ]
          refine wpAnyH_take (i := 52) (v := ?_) rfl (by kernel_rfl) (by kernel_rfl) (by kernel_rfl) (fun _ _ _ h => h) (Or.inl ⟨by rfl, ?_⟩) hHeld ?_
          rotate_left
          · (intro W hSw; (try dsimp only at hSw); go_simp; all_goals (with_reducible rfl))
          simp only [List.getElem_toArray, List.getElem_cons_zero, List.getElem_cons_succ, Act.put, List.setIfInBounds_toArray, List.set_cons_zero, List.set_cons_succ]
          refine wpAnyH_take (i := 54) (v := ?_) rfl (by kernel_rfl) (by kernel_rfl) (by kernel_rfl) (fun _ _ _ h => h) (Or.inl ⟨by rfl, ?_⟩) hHeld ?_
          rotate_left
          · (intro W hSw; (try dsimp only at hSw); go_simp; all_goals (with_reducible rfl))
          simp only [List.getElem_toArray, List.getElem_cons_zero, List.getElem_cons_succ, Act.put, List.setIfInBounds_toArray, List.set_cons_zero, List.set_cons_succ]
          refine wpAnyH_ready (rs := [53]) (by kernel_rfl) (by simp) ?_
          refine AllReadyH.cons rfl (fun K hK => ?_) AllReadyH.nil
          simp only [List.getElem_toArray, List.getElem_cons_zero, List.getElem_cons_succ]
          go_simp
          refine (gcd_none ax lx kx zx _ (H.nt 11 rfl)).mono ?_
          rintro e t8 ⟨aG, lG, kG, zG, rfl, hG8, nG, hb⟩
          replace H := H.after hb
          replace O1 := Own.aft hb O1
          replace O2 := Own.aft hb O2
          clear hb
          try go_wp2_with fail
          refine hK.out _ _ ⟨H.at 11 rfl, H.at 10 rfl, H.at 2 rfl, H.at 1 rfl, H.at 0 rfl⟩ (fun hHeld => ?_)
          clear hK K
          refine wpAnyH_ready (rs := [55]) (by kernel_rfl) (by simp) ?_
          refine AllReadyH.cons rfl (fun K hK => ?_) AllReadyH.nil
          simp only [List.getElem_toArray, List.getElem_cons_zero, List.getElem_cons_succ]
          go_simp
          refine (ncompare_one aG ax lG kG lx kx zG zx _ hG8 (H.nt 11 rfl) nG).mono ?_
          rintro e t9 ⟨rfl, hb⟩
          replace H := H.after hb
          replace O1 := Own.aft hb O1
          replace O2 := Own.aft hb O2
          clear hb
          try go_wp2_with fail
          refine hK.out _ _ ⟨H.at 11 rfl, H.at 10 rfl, H.at 2 rfl, H.at 1 rfl, H.at 0 rfl⟩ (fun hHeld => ?_)
          clear hK K
          refine wpAnyH_take (i := 56) (v := ?_) rfl (by kernel_rfl) (by kernel_rfl) (by kernel_rfl) (fun _ _ _ h => h) (Or.inl ⟨by rfl, ?_⟩) hHeld ?_
          rotate_left
          · (intro W hSw; (try dsimp only at hSw); go_simp; all_goals (with_reducible rfl))
          simp only [List.getElem_toArray, List.getElem_cons_zero, List.getElem_cons_succ, Act.put, List.setIfInBounds_toArray, List.set_cons_zero, List.set_cons_succ]
          refine wpAnyH_take (i := 57) (v := ?_) rfl (by kernel_rfl) (by kernel_rfl) (by kernel_rfl) (fun _ _ _ h => h) (Or.inl ⟨by rfl, ?_⟩) hHeld ?_
          rotate_left
          · (intro W hSw; (try dsimp only at hSw); go_simp; all_goals (with_reducible rfl))
          simp only [List.getElem_toArray, List.getElem_cons_zero, List.getElem_cons_succ, Act.put, List.setIfInBounds_toArray, List.set_cons_zero, List.set_cons_succ]
          refine wpAnyH_take (i := 58) (v := ?_) rfl (by kernel_rfl) (by kernel_rfl) (by kernel_rfl) (fun _ _ _ h => h) (Or.inl ⟨by rfl, ?_⟩) hHeld ?_
          rotate_left
          · (intro W hSw; (try dsimp only at hSw); go_simp; all_goals (with_reducible rfl))
          simp only [List.getElem_toArray, List.getElem_cons_zero, List.getElem_cons_succ, Act.put, List.setIfInBounds_toArray, List.set_cons_zero, List.set_cons_succ]
          refine wpAnyH_done (by kernel_rfl) ?_ _
          refine NoPanic.normal ?_
          go_wp2_with fail
          go_ret
          exact ⟨rfl, H.1⟩
end Go.Proofs.Ytckfgolijlggbaa.natKeeps
namespace Go.Proofs.Ytckfgolijlggbaa.natKeeps
open Go.RowKit Go.Shelf
theorem walk (a0 : Option Addr) (len0 cap0 : Nat) (z0 : List Int) (a1 : Option Addr) (len1 cap1 : Nat) (z1 : List Int) (t : Int) (w : World) (s0 : Sl w a0 len0 z0) (c0 : len0 ≤ cap0) (r0 : cap0 ≤ 17592186043904) (e0 : a0 = none → len0 = 0 ∧ cap0 = 0) (s1 : Sl w a1 len1 z1) (c1 : len1 ≤ cap1) (r1 : cap1 ≤ 17592186043904) (e1 : a1 = none → len1 = 0 ∧ cap1 = 0) (ht : (Lit.int .i64 t).wf = true) :
    Calls Try.prog 5 #[.slice a0 len0 cap0, .slice a1 len1 cap1, .int .i64 t] w fun e w' => e = .returned (.bool true) ∧ Below w.heap.size w w' := by
  by_cases h0 : 4096 < usedN z0
  · exact walk_a a0 len0 cap0 z0 a1 len1 cap1 z1 t w s0 c0 r0 e0 s1 c1 r1 e1 ht (.inl h0)
  · by_cases h1 : 4096 < usedN z1
    · exact walk_a a0 len0 cap0 z0 a1 len1 cap1 z1 t w s0 c0 r0 e0 s1 c1 r1 e1 ht (.inr h1)
    · by_cases h2 : 600 < len0 + len1
      · exact walk_b a0 len0 cap0 z0 a1 len1 cap1 z1 t w s0 c0 r0 e0 s1 c1 r1 e1 ht (by omega) (by omega) h2
      · exact walk_c a0 len0 cap0 z0 a1 len1 cap1 z1 t w s0 c0 r0 e0 s1 c1 r1 e1 ht (by omega) (by omega) (by omega)
end Go.Proofs.Ytckfgolijlggbaa.natKeeps
namespace Go.Proofs.Ytckfgolijlggbaa.natKeeps
open Go.ChangeShapes Go.WideShapes Go.ChangeAt Go.RowKit
set_option linter.unusedVariables false

theorem own : ownKnob Try.prog.godebug = none := by kernel_rfl
theorem laidOut : laidOutB Try.prog = true := by kernel_rfl
theorem bytes8 : Try.prog.bytesOf 46 = 8 := by kernel_rfl

set_option maxRecDepth 100000 in
theorem contract (H : Type) (enc : TypeId × Value → H) (W : World) (base : Nat) (args : Array Value) (ds gs : List (DataW H)) (before : List MemPlace)
    (hval : ∀ (j : Nat) t v, Try.f5.params[j]? = some t → args[j]? = some v → Value.okWide Try.prog W .any base t v)
    (hW : DataW.Whole enc Try.prog Try.f5.params.toList Rows.natKeepsSpec.vars false W args.toList ds gs before) (hsz : (DataW.weightsEach Try.prog (Try.f5.params.toList ++ Rows.natKeepsSpec.plain.varTypes Try.prog) (ds ++ gs)).all (· ≤ reachBytes) = true) :
    Calls Try.prog 5 args W fun e W' => ∃ v, e = .returned v ∧ Rows.natKeepsSpec.post enc Try.prog Try.f5 false true false false W args v W' := by
  have hW' := hW
  obtain ⟨p, q, hA0, hV, rfl, hfz, hnd⟩ := hW
  have hA : DataW.TrodAll enc Try.prog W 0 (fun _ => true) true Try.f5.params.toList args.toList ds p := hA0
  rw [Try.params5] at hA hval hsz
  obtain ⟨v0, vs0, d0, ds0, p0, q0, hargs, rfl, rfl, h0, r0⟩ := trodAll_cons hA
  obtain ⟨v1, vs1, d1, ds1, p1, q1, rfl, rfl, rfl, h1, r1⟩ := trodAll_cons r0
  obtain ⟨v2, vs2, d2, ds2, p2, q2, rfl, rfl, rfl, h2, r2⟩ := trodAll_cons r1
  obtain ⟨rfl, rfl, rfl⟩ := trodAll_nil r2
  obtain rfl : args = #[v0, v1, v2] := by cases args; simp_all
  obtain ⟨rfl, rfl⟩ := trodVars_none hV
  obtain ⟨a0, len0, cap0, rfl⟩ := okWide_slice Try.underlying22 (hval 0 22 v0 rfl rfl)
  have k0 := h0
  have lt0 : ∀ x ∈ p0, x.block < W.heap.size := by obtain ⟨m, hm⟩ := k0; exact DataW.trod_lt m _ _ _ hm
  obtain ⟨z0, s0, c0, b0, e0⟩ : ∃ zs, Sl W a0 len0 zs ∧ len0 ≤ cap0 ∧ cap0 ≤ 17592186043904 ∧ (a0 = Option.none → len0 = 0 ∧ cap0 = 0) := by
    obtain ⟨fuel, hf⟩ := h0
    rcases open_ints Try.underlying22 Try.underlying46 (by kernel_rfl) hf with ⟨hcs, _⟩ | ⟨x, l, c, zs, hcs, _, hl, hm, hz, hx, hcell, hwz⟩
    · simp [Value.cells] at hcs
      obtain ⟨rfl, rfl, rfl⟩ := hcs
      exact ⟨[], ⟨rfl, Limbs.nil, fun h => absurd h (by decide)⟩, Nat.le_refl _, by decide, fun _ => ⟨rfl, rfl⟩⟩
    · simp [Value.cells] at hcs
      obtain ⟨rfl, rfl, rfl⟩ := hcs
      have hz' : zs.length = cap0 := by simpa using hz
      have hd : d0 = DataW.slice (lits .u64 (zs.take len0)) (lits .u64 (zs.drop len0)) := congrArg Prod.fst hx
      have hs := sized_slice hsz (j := 0) (t := 22) (e := 46) rfl (by rw [hd]; rfl) Try.underlying22
      rw [bytes8] at hs
      have hcap : cap0 ≤ 17592186043904 := by
        simp only [lits, List.length_map, List.length_take, List.length_drop, reachBytes] at hs
        omega
      refine ⟨zs.take len0, ⟨by rw [List.length_take]; omega, fun z hz2 => word_of_wf (hwz z (List.mem_of_mem_take hz2)), fun h => ?_⟩, hl, hcap, fun h => by cases h⟩
      obtain ⟨bb, off, rfl, hc⟩ := ints_at hcell (by omega)
      refine ⟨bb, off, rfl, fun j hj => ?_⟩
      rw [hc j (by omega), List.getD_eq_getElem?_getD, List.getD_eq_getElem?_getD, List.getElem?_take_of_lt hj]
  obtain ⟨a1, len1, cap1, rfl⟩ := okWide_slice Try.underlying22 (hval 1 22 v1 rfl rfl)
  have k1 := h1
  have lt1 : ∀ x ∈ p1, x.block < W.heap.size := by obtain ⟨m, hm⟩ := k1; exact DataW.trod_lt m _ _ _ hm
  obtain ⟨z1, s1, c1, b1, e1⟩ : ∃ zs, Sl W a1 len1 zs ∧ len1 ≤ cap1 ∧ cap1 ≤ 17592186043904 ∧ (a1 = Option.none → len1 = 0 ∧ cap1 = 0) := by
    obtain ⟨fuel, hf⟩ := h1
    rcases open_ints Try.underlying22 Try.underlying46 (by kernel_rfl) hf with ⟨hcs, _⟩ | ⟨x, l, c, zs, hcs, _, hl, hm, hz, hx, hcell, hwz⟩
    · simp [Value.cells] at hcs
      obtain ⟨rfl, rfl, rfl⟩ := hcs
      exact ⟨[], ⟨rfl, Limbs.nil, fun h => absurd h (by decide)⟩, Nat.le_refl _, by decide, fun _ => ⟨rfl, rfl⟩⟩
    · simp [Value.cells] at hcs
      obtain ⟨rfl, rfl, rfl⟩ := hcs
      have hz' : zs.length = cap1 := by simpa using hz
      have hd : d1 = DataW.slice (lits .u64 (zs.take len1)) (lits .u64 (zs.drop len1)) := congrArg Prod.fst hx
      have hs := sized_slice hsz (j := 1) (t := 22) (e := 46) rfl (by rw [hd]; rfl) Try.underlying22
      rw [bytes8] at hs
      have hcap : cap1 ≤ 17592186043904 := by
        simp only [lits, List.length_map, List.length_take, List.length_drop, reachBytes] at hs
        omega
      refine ⟨zs.take len1, ⟨by rw [List.length_take]; omega, fun z hz2 => word_of_wf (hwz z (List.mem_of_mem_take hz2)), fun h => ?_⟩, hl, hcap, fun h => by cases h⟩
      obtain ⟨bb, off, rfl, hc⟩ := ints_at hcell (by omega)
      refine ⟨bb, off, rfl, fun j hj => ?_⟩
      rw [hc j (by omega), List.getD_eq_getElem?_getD, List.getD_eq_getElem?_getD, List.getElem?_take_of_lt hj]
  obtain ⟨a2, rfl, rfl, rfl, w2⟩ := open_int Try.underlying3 (hval 2 3 v2 rfl rfl) h2
  clear hA0
  refine (walk a0 len0 cap0 z0 a1 len1 cap1 z1 a2 W s0 c0 b0 e0 s1 c1 b1 e1 w2).mono fun e W' ⟨he, bel⟩ => ?_
  subst he
  exact ⟨_, rfl, _, _, _, [], _, [], hW', trodAll_mk1 (shut_bool Try.underlying4 _), (trodAll_cons_mk (Below.trod laidOut (by kernel_rfl) (of_decide_eq_true (by kernel_rfl)) k0 bel lt0) (trodAll_cons_mk (Below.trod laidOut (by kernel_rfl) (of_decide_eq_true (by kernel_rfl)) k1 bel lt1) (trodAll_cons_mk (shut_int Try.underlying3 w2) trodAll_mk0))), rfl, bel.frame _, fun h => by cases h⟩

set_option maxRecDepth 100000 in
theorem lifted (os : Os) (started : os.Started) (H : Type) (enc : TypeId × Value → H) :
    ReturnsInHanded {} Try.checked os 5 .any (Rows.natKeepsSpec.pre6 enc Try.prog Try.f5 Rows.natKeepsRow.domain false) (Rows.natKeepsSpec.post enc Try.prog Try.f5 false true false false) := by
  refine returnsInHanded_of_change_sized (C := Try.checked) own started (by kernel_rfl) Try.func5
    (ChangeSpec.witness6 (enc := enc) (C := Try.checked) false ⟨#[], #[.slice none 0 0, .slice none 0 0, .int .i64 0], []⟩ 8 (by kernel_rfl) (by kernel_rfl) (by kernel_rfl) (by kernel_rfl)) ?_
  intro W base args ds gs before hval0 hW _ hsz0 _
  exact contract H enc W base args ds gs before hval0 hW hsz0

theorem over : Rows.natKeepsRow.holds Try.pinned (OpenSpec.ofChange Rows.natKeepsSpec) :=
  OpenClaim.holds_of_wide 5 Try.f5 rfl rfl rfl rfl rfl rfl rfl ⟨rfl, rfl, rfl, rfl, rfl⟩ rfl rfl rfl rfl rfl (by kernel_rfl) Try.func5 (by kernel_rfl)
    (of_decide_eq_true (by kernel_rfl)) (by unfold Func.isWrapper; first | (rw [if_pos (by decide +kernel)]; kernel_rfl) | (rw [if_neg (by decide +kernel)]; exact ⟨rfl, rfl⟩))
    (fun os started H enc _ => lifted os started H enc)
end Go.Proofs.Ytckfgolijlggbaa.natKeeps
namespace Go.Proofs.Ytckfgolijlggbaa
theorem natKeeps_holds : Rows.NatKeepsSaid := natKeeps.over
#print axioms natKeeps_holds
end Go.Proofs.Ytckfgolijlggbaa
