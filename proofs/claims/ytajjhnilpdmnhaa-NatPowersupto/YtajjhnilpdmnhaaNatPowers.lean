/-
  NatPowers, second form: for any list of limbs and any exponent, where what is read is of bulk at most 1048576, the statement's Go text returns true: Pow and Root answer as the document's own reckoning does.
-/
import Derived.Test.YtajjhnilpdmnhaaProd
import Derived.Test.YtajjhnilpdmnhaaRoot
import Derived.Test.YtajjhnilpdmnhaaMeas
import Derived.Test.YtajjhnilpdmnhaaDivMod
import Derived.Test.YtajjhnilpdmnhaaHeld
import Derived.Test.YtajjhnilpdmnhaaAwake2
import Derived.Test.YtajjhnilpdmnhaaNRef2
import Derived.Test.YtajjhnilpdmnhaaHeld3
import Derived.Test.YtajjhnilpdmnhaaOrder
import Derived.Test.YtajjhnilpdmnhaaNumsH
import Derived.Test.YtajjhnilpdmnhaaLaw3
import Derived.Test.YtajjhnilpdmnhaaRowp
import Derived.Test.YtajjhnilpdmnhaaUni
import Derived.Test.YtajjhnilpdmnhaaLehmer
import Derived.Test.YtajjhnilpdmnhaaUni2
import Derived.Test.YtajjhnilpdmnhaaRows
import Derived.ProofKit
import Derived.OpenShut
import Derived.ShutString
import Derived.ChangeOld
import Derived.SizedLaws
import Derived.JoinedCond
namespace Go.Proofs.Ytajjhnilpdmnhaa
open Go.RowKit Go.Shelf

/-- Not long, and long. -/
structure Fit (x : Int) : Prop where
  lt : x < pw 4096
structure Big (x : Int) : Prop where
  ge : pw 4096 ≤ x
theorem fit_or_big (x : Int) : Fit x ∨ Big x := by
  rcases Int.lt_or_le x (pw 4096) with h | h
  · exact .inl ⟨h⟩
  · exact .inr ⟨h⟩
theorem pow_step (x : Int) (m b : Nat) (hb : b = 0 ∨ b = 1) : x ^ (2 * m + b) = x ^ m * x ^ m * (if b = 0 then 1 else x) := by
  rcases hb with rfl | rfl
  · rw [Nat.add_zero, Nat.two_mul, Int.pow_add]; simp
  · rw [Int.pow_add, Nat.two_mul, Int.pow_add]; simp [Int.pow_succ]

theorem bits_nat {zs : List Int} (h : Limbs zs) {n : Nat} (e : num zs = n) (hn : n ≤ 9223372036854775807) : ∃ s : Nat, bitsN zs = s ∧ n < 2 ^ s ∧ s ≤ 63 := by
  rcases Nat.eq_zero_or_pos (usedN zs) with h0 | h0
  · refine ⟨0, bits_nought h0, ?_, by omega⟩
    have := (num_eq_zero h).2 h0
    simp; omega
  · obtain ⟨k, e1, k1, k2⟩ := bits_spec h h0
    rw [e] at k1 k2
    have k3 : n < 2 ^ (k + 1) := by
      have : (n : Int) < ((2 ^ (k + 1) : Nat) : Int) := by simpa using k2
      omega
    refine ⟨k + 1, by omega, k3, ?_⟩
    rcases Nat.lt_or_ge k 63 with h' | h'
    · omega
    · have h5 : (2 : Int) ^ 63 ≤ 2 ^ k := p2_mono h'
      have h6 : (2 : Int) ^ 63 = 9223372036854775808 := by decide
      omega
theorem and_one (g : Nat) (hg : g < 9223372036854775808) : bits .and .i64 (g : Int) 1 = ((g % 2 : Nat) : Int) := by
  have h1 : (BitVec.ofInt 64 (g : Int)).toNat = g := by
    rw [BitVec.ofInt_natCast, BitVec.toNat_ofNat]; exact Nat.mod_eq_of_lt (by omega)
  have h2 : (BitVec.ofInt 64 (1 : Int)).toNat = 1 := by decide
  show IntKind.i64.wrap ((BitVec.ofInt 64 (g : Int) &&& BitVec.ofInt 64 1).toNat : Int) = _
  rw [BitVec.toNat_and, h1, h2, Nat.and_one_is_mod, IntKind.wrap_i64]
  omega
theorem shr_nat (n d : Nat) : (n : Int) / 2 ^ d = ((n / 2 ^ d : Nat) : Int) := by
  rw [Int.natCast_ediv]; simp
theorem pow_ge_one {x : Int} (hx : 1 ≤ x) : ∀ k : Nat, 1 ≤ x ^ k
  | 0 => by rw [Int.pow_zero]; omega
  | k + 1 => by
    have h := pow_ge_one hx k
    rw [Int.pow_succ]
    have : 1 * 1 ≤ x ^ k * x := Int.mul_le_mul h hx (by decide) (by omega)
    omega
theorem big_up {x : Int} {j n : Nat} (h : Big (x ^ j)) (hx : 0 ≤ x) (hjn : j ≤ n) : Big (x ^ n) := by
  obtain ⟨h⟩ := h
  have h1 := pw_mono (show 1 ≤ 4096 by decide)
  have h2 : pw 1 = 18446744073709551616 := by decide
  rcases Int.lt_or_le x 1 with h3 | h3
  · obtain rfl : x = 0 := by omega
    exfalso
    rcases Nat.eq_zero_or_pos j with h4 | h4
    · subst h4; rw [Int.pow_zero] at h; omega
    · rw [Int.zero_pow (by omega)] at h; omega
  · obtain ⟨d, rfl⟩ := Nat.exists_eq_add_of_le hjn
    refine ⟨?_⟩
    rw [Int.pow_add]
    have h4 := pow_ge_one h3 d
    have h5 := pow_ge_one h3 j
    have : x ^ j * 1 ≤ x ^ j * x ^ d := Int.mul_le_mul_of_nonneg_left h4 (by omega)
    omega
theorem pow_neg (a : Option Addr) (la ca : Nat) (t : Int) (w : World) (ht : t < 0) :
    Calls Try.prog 40 #[.agg #[.slice a la ca], .int .i64 t] w fun e w' => e = .returned (.tuple #[.agg #[.slice none 0 0], .int .i64 2]) ∧ Below w.heap.size w w' := by
  go_enter Try.func40, Try.ntmps40
  go_wp2_with fail
  refine ent2 w _ _ _ _ (Q := fun W => bodyPost Try.prog _ _ _ _ W) ?_
  intro w0 B0 hs V0 V1
  exact bodyPost_ret (results_ct rfl rfl V1) rfl ⟨rfl, B0⟩
set_option maxHeartbeats 4000000 in
theorem pow_any (a : Option Addr) (la ca : Nat) (xs : List Int) (n : Nat) (w : World) (ha : Nt w a la ca xs) (hn : n ≤ 9223372036854775807) :
    Calls Try.prog 40 #[.agg #[.slice a la ca], .int .i64 n] w fun e w' =>
      (∃ a' l' c' zs, e = .returned (.tuple #[.agg #[.slice a' l' c'], .int .i64 0]) ∧ Nt w' a' l' c' zs ∧ num zs = num xs ^ n ∧ Below w.heap.size w w') ∨ (e = .returned (.tuple #[.agg #[.slice none 0 0], .int .i64 3]) ∧ Big (num xs ^ n) ∧ Below w.heap.size w w') := by
  have ew : IntKind.u64.wrap (n : Int) = n := by rw [IntKind.wrap_u64]; omega
  go_enter Try.func40, Try.ntmps40
  go_wp2_with fail
  refine ent2 w _ _ _ _ (Q := fun W => Calls Try.prog _ _ W _) ?_
  intro w0 B0 hs V0 V1
  replace ha := Nt.after B0 ha
  refine (small_any 1 ⟨by decide, by decide⟩ w0).mono ?_
  rintro e w1 ⟨a1, l1, k1, z1, rfl, h1, n1, hb1⟩
  replace V0 := V0.kept hb1
  replace V1 := V1.kept hb1
  replace B0 := step B0 hb1
  replace ha := Nt.after hb1 ha
  go_wp2_with fail
  refine ent1 w1 _ _ (Q := fun W => Calls Try.prog _ _ W _) ?_
  intro w2 B2 hs2 Vp
  replace V0 := V0.kept B2
  replace V1 := V1.kept B2
  replace B0 := step B0 B2
  replace ha := Nt.after B2 ha
  replace h1 := Nt.after B2 h1
  refine (small_any n ⟨by omega, by omega⟩ w2).mono ?_
  rintro e w3 ⟨a3, l3, k3, z3, rfl, h3, n3, hb3⟩
  replace V0 := V0.kept hb3
  replace V1 := V1.kept hb3
  replace Vp := Vp.kept hb3
  replace B0 := step B0 hb3
  replace ha := Nt.after hb3 ha
  replace h1 := Nt.after hb3 h1
  go_wp2_with fail
  refine (nbits_any a3 l3 k3 z3 w3 h3).mono ?_
  rintro e w4 ⟨rfl, hb4⟩
  replace V0 := V0.kept hb4
  replace V1 := V1.kept hb4
  replace Vp := Vp.kept hb4
  replace B0 := step B0 hb4
  replace ha := Nt.after hb4 ha
  replace h1 := Nt.after hb4 h1
  obtain ⟨sz, hsz, hlt, hs63⟩ := bits_nat h3.limbs n3 hn
  rw [hsz]
  have hbw : w1.heap.size < w4.heap.size := Vp.lt
  have hbw1 : w.heap.size + 1 < w1.heap.size := by
    have := hb1.size
    omega
  clear hb1 B2 hs2 hb3 hb4 hs
  have HV0 : Hid (Va w4 w.heap.size 27 #[.slice a la ca]) := V0
  have HV1 : Hid (Va w4 (w.heap.size + 1) 27 #[.slice none 0 0]) := V1
  have HVp : Hid (Va w4 w1.heap.size 27 #[.slice a1 l1 k1]) := Vp
  have HA : Hid (Nt w4 a la ca xs) := ha
  have H1 : Hid (Nt w4 a1 l1 k1 z1) := h1
  have HB : Hid (Below w.heap.size w w4) := B0
  have HN1 : Hid (num z1 = num xs ^ (n / 2 ^ (sz - 0))) := by
    show _ = _
    rw [Nat.sub_zero, Nat.div_eq_of_lt hlt, n1, Int.pow_zero]
  clear V0 V1 Vp ha h1 B0 n1 n3 h3 hsz
  go_wp2_with fail
  go_loopw [19] (fun ii wr => ∃ (k : Nat) (ap : Option Addr) (lp kp : Nat) (zp : List Int), k ≤ sz ∧ ii = .int .i64 k ∧ Hid (Va wr w.heap.size 27 #[.slice a la ca]) ∧ Hid (Va wr (w.heap.size + 1) 27 #[.slice none 0 0]) ∧ Hid (Va wr w1.heap.size 27 #[.slice ap lp kp]) ∧ Hid (Nt wr a la ca xs) ∧ Hid (Nt wr ap lp kp zp) ∧ Hid (num zp = num xs ^ (n / 2 ^ (sz - k))) ∧ Hid (Below w.heap.size w wr)) (fun ii _ => sz - (intOf ii).toNat)
  case atStart => exact ⟨0, a1, l1, k1, z1, Nat.zero_le _, rfl, HV0, HV1, HVp, HA, H1, HN1, HB⟩
  case round =>
    clear HV0 HV1 HVp HA H1 HN1 HB
    obtain ⟨k, ap, lp, kp, zp, hk, rfl, U0, U1, Up, hA, hP, hN, hB⟩ := hrel
    have c0 := U0.out.cell
    have c1 := U1.out.cell
    have cp := Up.out.cell
    have f1 := U1.out.frozen 0
    have fp := Up.out.frozen 0
    have x0 := hA.out.nonneg
    by_cases hlt2 : k < sz
    · obtain ⟨d, hd⟩ : ∃ d, d = sz - 1 - k := ⟨_, rfl⟩
      have hm : n / 2 ^ (sz - k) = n / 2 ^ d / 2 := by rw [Nat.div_div_eq_div_mul, ← Nat.pow_succ]; congr 2; omega
      rw [hm] at hN
      obtain ⟨g, hg⟩ : ∃ g, n / 2 ^ d = g := ⟨_, rfl⟩
      rw [hg] at hN
      have hgn : g ≤ n := by rw [← hg]; exact Nat.div_le_self _ _
      rcases fit_or_big (num zp * num zp) with hf | hf
      · go_wp2_with fail
        refine (nmul_ok ap ap lp kp lp kp zp zp wr hP.out hP.out hf.lt).mono ?_
        rintro e w5 ⟨aq, lq, kq, zq, rfl, hq, nq, hb5⟩
        have T0 := U0.out.kept hb5
        have T1 := U1.out.kept hb5
        have Tp := Up.out.kept hb5
        have B5 := step hB.out hb5
        have hA5 := Nt.after hb5 hA.out
        clear c0 c1 cp f1 fp
        have c0 := T0.cell
        have c1 := T1.cell
        have cp := Tp.cell
        have f1 := T1.frozen 0
        have fp := Tp.frozen 0
        have hne1 : w.heap.size ≠ w1.heap.size := by omega
        have hne2 : w.heap.size + 1 ≠ w1.heap.size := by omega
        have S0 := T0.other (p := ⟨w1.heap.size, 0, none⟩) hne1 (.slice aq lq kq)
        have S1 := T1.other (p := ⟨w1.heap.size, 0, none⟩) hne2 (.slice aq lq kq)
        have Sp := Tp.set (.slice aq lq kq)
        have SA := hA5.store Tp (.slice aq lq kq)
        have SQ := hq.store Tp (.slice aq lq kq)
        have SB := B5.setCell (p := ⟨w1.heap.size, 0, none⟩) (by show _ ≤ w1.heap.size; omega) (.slice aq lq kq)
        rw [hN.out, ← Int.pow_add] at nq
        have hbit : g % 2 = 0 ∨ g % 2 = 1 := by omega
        have eb := and_one g (by omega)
        rw [← hg, ← shr_nat, hg, hd] at eb
        rcases hbit with hb0 | hb1
        · rw [hb0] at eb
          have HN2 : Hid (num zq = num xs ^ (n / 2 ^ (sz - (k + 1)))) := by
            show _ = _
            rw [nq, show sz - (k + 1) = d by omega, hg]
            congr 1; omega
          go_wp2_with fail
          go_roundw
          case rel => exact ⟨k + 1, aq, lq, kq, zq, by omega, by go_num, S0, S1, Sp, SA, SQ, HN2, SB⟩
          case measure => simp [intOf]; omega
        · rw [hb1] at eb
          go_wp2_with fail
          generalize w5.setCell ⟨w1.heap.size, 0, none⟩ (.slice aq lq kq) = w6 at *
          rcases fit_or_big (num zq * num xs) with hf2 | hf2
          · refine (nmul_ok aq a lq kq la ca zq xs w6 SQ SA hf2.lt).mono ?_
            rintro e w7 ⟨ar, lr, kr, zr, rfl, hr, nr, hb7⟩
            have R0 := S0.kept hb7
            have R1 := S1.kept hb7
            have Rp := Sp.kept hb7
            have B7 := step SB hb7
            have hA7 := Nt.after hb7 SA
            have HN2 : Hid (num zr = num xs ^ (n / 2 ^ (sz - (k + 1)))) := by
              show _ = _
              rw [nr, nq, ← Int.pow_succ, show sz - (k + 1) = d by omega, hg]
              congr 1; omega
            have Q0 := R0.other (p := ⟨w1.heap.size, 0, none⟩) hne1 (.slice ar lr kr)
            have Q1 := R1.other (p := ⟨w1.heap.size, 0, none⟩) hne2 (.slice ar lr kr)
            have Qp := Rp.set (.slice ar lr kr)
            have QA := hA7.store Rp (.slice ar lr kr)
            have QR := hr.store Rp (.slice ar lr kr)
            have QB := B7.setCell (p := ⟨w1.heap.size, 0, none⟩) (by show _ ≤ w1.heap.size; omega) (.slice ar lr kr)
            clear c0 c1 cp f1 fp
            have cp := Rp.cell
            have fp := Rp.frozen 0
            go_wp2_with fail
            go_roundw
            case rel => exact ⟨k + 1, ar, lr, kr, zr, by omega, by go_num, Q0, Q1, Qp, QA, QR, HN2, QB⟩
            case measure => simp [intOf]; omega
          · have hbig : Big (num xs ^ n) := by
              rw [nq, ← Int.pow_succ] at hf2
              exact big_up hf2 x0 (by omega)
            refine (nmul_long aq a lq kq la ca zq xs w6 SQ SA hf2.ge).mono ?_
            rintro e w7 ⟨rfl, hb7⟩
            have R1 := S1.kept hb7
            have Rp := Sp.kept hb7
            have B7 := step SB hb7
            clear c0 c1 cp f1 fp
            have c1 := R1.cell
            have cp := Rp.cell
            have f1 := R1.frozen 0
            have fp := Rp.frozen 0
            go_wp2_with fail
            refine bodyPost_ret (results_ct rfl rfl ((R1.other (p := ⟨w1.heap.size, 0, none⟩) hne2 _).set _)) rfl ?_
            exact .inr ⟨rfl, hbig, (B7.setCell (p := ⟨w1.heap.size, 0, none⟩) (by show _ ≤ w1.heap.size; omega) _).setCell (p := ⟨w.heap.size + 1, 0, none⟩) (by show _ ≤ w.heap.size + 1; omega) _⟩
      · have hbig : Big (num xs ^ n) := by
          rw [hN.out, ← Int.pow_add] at hf
          exact big_up hf x0 (by omega)
        go_wp2_with fail
        refine (nmul_long ap ap lp kp lp kp zp zp wr hP.out hP.out hf.ge).mono ?_
        rintro e w5 ⟨rfl, hb5⟩
        have T1 := U1.out.kept hb5
        have Tp := Up.out.kept hb5
        have B5 := step hB.out hb5
        clear c0 c1 cp f1 fp
        have c1 := T1.cell
        have cp := Tp.cell
        have f1 := T1.frozen 0
        have fp := Tp.frozen 0
        go_wp2_with fail
        refine bodyPost_ret (results_ct rfl rfl ((T1.other (p := ⟨w1.heap.size, 0, none⟩) (by show w.heap.size + 1 ≠ w1.heap.size; omega) _).set _)) rfl ?_
        exact .inr ⟨rfl, hbig, (B5.setCell (p := ⟨w1.heap.size, 0, none⟩) (by show _ ≤ w1.heap.size; omega) _).setCell (p := ⟨w.heap.size + 1, 0, none⟩) (by show _ ≤ w.heap.size + 1; omega) _⟩
    · obtain rfl : k = sz := by omega
      have hN2 := hN.out
      rw [Nat.sub_self, Nat.pow_zero, Nat.div_one] at hN2
      go_wp2_with fail
      refine bodyPost_ret (results_ct rfl rfl (U1.out.set _)) rfl ?_
      exact .inl ⟨_, _, _, zp, rfl, hP.out.store U1.out _, hN2, hB.out.setCell (p := ⟨w.heap.size + 1, 0, none⟩) (by show _ ≤ w.heap.size + 1; omega) _⟩
end Go.Proofs.Ytajjhnilpdmnhaa
namespace Go.Proofs.Ytajjhnilpdmnhaa
open Go.RowKit Go.Shelf

/-- The root of a number. -/
def IsRoot (x r : Int) : Prop := 0 ≤ r ∧ r * r ≤ x ∧ x < (r + 1) * (r + 1)
/-- Not above half of what may be. -/
structure Low (x : Int) : Prop where
  lt : 2 * x < pw 4096
theorem le_sq {t x : Int} (h0 : 0 ≤ t) (h : t * t ≤ x) : t ≤ x := by
  rcases Int.lt_or_le t 1 with h1 | h1
  · have : t = 0 := by omega
    subst this; omega
  · have : t * 1 ≤ t * t := Int.mul_le_mul_of_nonneg_left h1 h0
    omega
theorem bits_low {zs : List Int} (h : Limbs zs) {n : Nat} (hlt : num zs < 2 ^ n) : bitsN zs ≤ n := by
  rcases Nat.eq_zero_or_pos (usedN zs) with h0 | h0
  · rw [bits_nought h0]; omega
  · obtain ⟨k, e, k1, k2⟩ := bits_spec h h0
    rcases Nat.lt_or_ge k n with h' | h'
    · omega
    · have := p2_mono h'; omega
/-- The numbers on the way to the beginning. -/
theorem above_nums {x t : Int} {B h : Nat} (hB : B ≤ 262144) (h3 : 3 ≤ B) (hh : h = (B + 1) / 4) (hx : x < 2 ^ B) (ht : IsRoot (x / 2 ^ (2 * h)) t) :
    t + 1 ≤ 2 ^ (B - 2 * h) ∧ Low ((t + 1) * 2 ^ h) ∧ x < ((t + 1) * 2 ^ h + 1) * ((t + 1) * 2 ^ h + 1) ∧ 0 < (t + 1) * 2 ^ h ∧ Fit (t + 1) := by
  obtain ⟨t0, t1, t2⟩ := ht
  have e1 : x / 2 ^ (2 * h) < 2 ^ (B - 2 * h) := by
    apply Int.ediv_lt_of_lt_mul (p2_pos _)
    rw [← Int.pow_add, show B - 2 * h + 2 * h = B by omega]; exact hx
  have e2 := le_sq t0 t1
  have e3 : t + 1 ≤ 2 ^ (B - 2 * h) := by omega
  have e4 : (t + 1) * 2 ^ h ≤ 2 ^ (B - 2 * h) * 2 ^ h := Int.mul_le_mul_of_nonneg_right e3 (Int.le_of_lt (p2_pos h))
  rw [← Int.pow_add, show B - 2 * h + h = B - h by omega] at e4
  have e5 : (2 : Int) * 2 ^ (B - h) = 2 ^ (B - h + 1) := by rw [Int.pow_succ]; omega
  have e6 := p2_mono (show B - h + 1 ≤ 262143 by omega)
  have e7 : (2 : Int) ^ 262143 < 2 ^ (262143 + 1) := by
    rw [Int.pow_succ]; have := p2_pos 262143; omega
  have e8 := p2_pos h
  have e9 : 0 < (t + 1) * 2 ^ h := Int.mul_pos (by omega) e8
  have e10 := p2_mono (show B - 2 * h ≤ 262143 by omega)
  refine ⟨e3, ⟨?_⟩, ?_, e9, ⟨?_⟩⟩
  · rw [pw_4096]; omega
  · rcases root_start (a := x) (t := t) (p := 2 ^ h) e8 (by rw [← Int.pow_add, ← Nat.two_mul]; exact t2) with h' | h'
    · exact h'
    · omega
  · rw [pw_4096]; omega
end Go.Proofs.Ytajjhnilpdmnhaa
namespace Go.Proofs.Ytajjhnilpdmnhaa
open Go.RowKit Go.Shelf
set_option linter.unusedVariables false

/-- What Root does, for numbers below M. -/
def RootOk (M : Int) : Prop := ∀ (a : Option Addr) (la ca : Nat) (xs : List Int) (w : World), Nt w a la ca xs → num xs < M →
  Calls Try.prog 41 #[.agg #[.slice a la ca]] w fun e w' => ∃ a' l' c' zs, e = .returned (.agg #[.slice a' l' c']) ∧ Nt w' a' l' c' zs ∧ IsRoot (num xs) (num zs) ∧ Below w.heap.size w w'

set_option maxHeartbeats 4000000 in
theorem above_any (a : Option Addr) (la ca : Nat) (xs : List Int) (w : World) (hx : Nt w a la ca xs) (HR : RootOk (num xs)) (h4 : 4 ≤ num xs) :
    Calls Try.prog 65 #[.agg #[.slice a la ca]] w fun e w' => ∃ a' l' c' zs, e = .returned (.agg #[.slice a' l' c']) ∧ Nt w' a' l' c' zs ∧ Low (num zs) ∧ num xs < (num zs + 1) * (num zs + 1) ∧ 0 < num zs ∧ Below w.heap.size w w' := by
  have B0 : Below w.heap.size w w := Below.refl _ _
  have l1 := hx.2
  have ux : 0 < usedN xs := by
    rcases Nat.eq_zero_or_pos (usedN xs) with h | h
    · have := (num_eq_zero hx.limbs).2 h; omega
    · exact h
  obtain ⟨b, eb, b1, b2⟩ := bits_spec hx.limbs ux
  have hb4 := bits_limbs hx.limbs
  have hb3 : 3 ≤ b + 1 := by
    rcases Nat.lt_or_ge b 2 with h | h
    · have := p2_mono (show b + 1 ≤ 2 by omega)
      have h5 : (2 : Int) ^ 2 = 4 := by decide
      omega
    · omega
  obtain ⟨h, hh⟩ : ∃ h, h = (b + 1 + 1) / 4 := ⟨_, rfl⟩
  have eh : ((b : Int) + 1 + 1) / 4 = h := by omega
  have hbb : b + 1 ≤ 262144 := by omega
  have hhb : h ≤ 65536 := by omega
  have AN := fun t ht => above_nums (t := t) hbb hb3 hh b2 ht
  have hlt : num xs / 2 ^ (2 * h) < num xs := by
    have h5 := p2_mono (show 1 ≤ 2 * h by omega)
    apply Int.ediv_lt_of_lt_mul (p2_pos _)
    have h6 : num xs * 2 ^ 1 ≤ num xs * 2 ^ (2 * h) := Int.mul_le_mul_of_nonneg_left h5 (by omega)
    rw [show (2 : Int) ^ 1 = 2 by decide] at h6
    omega
  obtain ⟨h2, hh2⟩ : ∃ h2, 2 * h = h2 := ⟨_, rfl⟩
  have e2h : (2 : Int) * h = h2 := by omega
  rw [hh2] at hlt
  simp only [hh2] at AN
  have HH2 : Hid (2 * h = h2) := hh2
  have HH : Hid (h = (b + 1 + 1) / 4) := hh
  have h1h : 1 ≤ h := by omega
  have hb21 : h2 ≤ b + 1 := by omega
  have HHR : Hid (RootOk (num xs)) := HR
  clear b1 hb4 HR hh hh2
  go_enter Try.func65, Try.ntmps65
  go_wp2_with fail
  refine ent2 w _ _ _ _ (Q := fun W => Calls Try.prog _ _ W _) ?_
  intro x1 hb hs_x1 V0 V1
  replace hx := Nt.after hb hx
  replace B0 := step B0 hb
  clear hb hs_x1
  refine (nbits_any a la ca xs x1 hx).mono ?_
  rintro e x2 ⟨rfl, hb⟩
  replace V0 := Va.after hb V0
  replace V1 := Va.after hb V1
  replace hx := Nt.after hb hx
  replace B0 := step B0 hb
  clear hb
  rw [eb]
  have c_V0 := V0.cell
  have f_V0 := V0.frozen 0
  have l_V0 := V0.lt
  have m_V0 := Nat.le_of_lt l_V0
  have c_V1 := V1.cell
  have f_V1 := V1.frozen 0
  have l_V1 := V1.lt
  have m_V1 := Nat.le_of_lt l_V1
  go_wp2_with fail
  refine (nright_ok a la ca xs h2 x2 hx (by omega)).mono ?_
  rintro e x3 ⟨at1, lt, kt, zt, rfl, ht, nt, hb⟩
  replace V0 := Va.after hb V0
  replace V1 := Va.after hb V1
  replace hx := Nt.after hb hx
  replace B0 := step B0 hb
  clear hb
  clear c_V0 f_V0 l_V0 m_V0 c_V1 f_V1 l_V1 m_V1
  have c_V0 := V0.cell
  have f_V0 := V0.frozen 0
  have l_V0 := V0.lt
  have m_V0 := Nat.le_of_lt l_V0
  have c_V1 := V1.cell
  have f_V1 := V1.frozen 0
  have l_V1 := V1.lt
  have m_V1 := Nat.le_of_lt l_V1
  go_wp2_with fail
  refine ent1 x3 _ _ (Q := fun W => Calls Try.prog _ _ W _) ?_
  intro x4 hb hs_x4 Vt
  replace V0 := Va.after hb V0
  replace V1 := Va.after hb V1
  replace hx := Nt.after hb hx
  replace ht := Nt.after hb ht
  replace B0 := step B0 hb
  clear hb hs_x4
  refine (HHR.out at1 lt kt zt x4 ht (by rw [nt]; exact hlt)).mono ?_
  rintro e x5 ⟨ar, lr, kr, zr, rfl, hr, ir, hb⟩
  replace V0 := Va.after hb V0
  replace V1 := Va.after hb V1
  replace Vt := Va.after hb Vt
  replace hx := Nt.after hb hx
  replace ht := Nt.after hb ht
  replace B0 := step B0 hb
  clear hb
  rw [nt] at ir
  obtain ⟨g1, g2, g3, g4, g5⟩ := AN _ ir
  clear c_V0 f_V0 l_V0 m_V0 c_V1 f_V1 l_V1 m_V1
  have c_V0 := V0.cell
  have f_V0 := V0.frozen 0
  have l_V0 := V0.lt
  have m_V0 := Nat.le_of_lt l_V0
  have c_V1 := V1.cell
  have f_V1 := V1.frozen 0
  have l_V1 := V1.lt
  have m_V1 := Nat.le_of_lt l_V1
  have c_Vt := Vt.cell
  have f_Vt := Vt.frozen 0
  have l_Vt := Vt.lt
  have m_Vt := Nat.le_of_lt l_Vt
  go_wp2_with fail
  refine (small_any 1 ⟨by decide, by decide⟩ x5).mono ?_
  rintro e x6 ⟨ao, lo, ko, zo, rfl, ho, no, hb⟩
  replace V0 := Va.after hb V0
  replace V1 := Va.after hb V1
  replace Vt := Va.after hb Vt
  replace hx := Nt.after hb hx
  replace ht := Nt.after hb ht
  replace hr := Nt.after hb hr
  replace B0 := step B0 hb
  clear hb
  clear c_V0 f_V0 l_V0 m_V0 c_V1 f_V1 l_V1 m_V1 c_Vt f_Vt l_Vt m_Vt
  have c_V0 := V0.cell
  have f_V0 := V0.frozen 0
  have l_V0 := V0.lt
  have m_V0 := Nat.le_of_lt l_V0
  have c_V1 := V1.cell
  have f_V1 := V1.frozen 0
  have l_V1 := V1.lt
  have m_V1 := Nat.le_of_lt l_V1
  have c_Vt := Vt.cell
  have f_Vt := Vt.frozen 0
  have l_Vt := Vt.lt
  have m_Vt := Nat.le_of_lt l_Vt
  go_wp2_with fail
  refine (nadd_ok ar ao lr kr lo ko zr zo x6 hr ho (by rw [no]; exact g5.lt)).mono ?_
  rintro e x7 ⟨an, ln, kn, zn, rfl, hn, nn, hb⟩
  replace V0 := Va.after hb V0
  replace V1 := Va.after hb V1
  replace Vt := Va.after hb Vt
  replace hx := Nt.after hb hx
  replace ht := Nt.after hb ht
  replace hr := Nt.after hb hr
  replace ho := Nt.after hb ho
  replace B0 := step B0 hb
  clear hb
  rw [no] at nn
  clear c_V0 f_V0 l_V0 m_V0 c_V1 f_V1 l_V1 m_V1 c_Vt f_Vt l_Vt m_Vt
  have c_V0 := V0.cell
  have f_V0 := V0.frozen 0
  have l_V0 := V0.lt
  have m_V0 := Nat.le_of_lt l_V0
  have c_V1 := V1.cell
  have f_V1 := V1.frozen 0
  have l_V1 := V1.lt
  have m_V1 := Nat.le_of_lt l_V1
  have c_Vt := Vt.cell
  have f_Vt := Vt.frozen 0
  have l_Vt := Vt.lt
  have m_Vt := Nat.le_of_lt l_Vt
  go_wp2_with fail
  refine ent1 x7 _ _ (Q := fun W => Calls Try.prog _ _ W _) ?_
  intro x8 hb hs_x8 Vn
  replace V0 := Va.after hb V0
  replace V1 := Va.after hb V1
  replace Vt := Va.after hb Vt
  replace hx := Nt.after hb hx
  replace ht := Nt.after hb ht
  replace hr := Nt.after hb hr
  replace ho := Nt.after hb ho
  replace hn := Nt.after hb hn
  replace B0 := step B0 hb
  clear hb hs_x8
  have hfit : bitsN zn + h ≤ 262144 := by
    have h7 : num zn < 2 ^ (b + 1 - h2 + 1) := by
      rw [nn, Int.pow_succ]; have := p2_pos (b + 1 - h2); omega
    have := bits_low hn.limbs h7
    have := HH2.out
    have := HH.out
    omega
  refine (nleft_ok an ln kn zn h x8 hn (.inr hfit)).mono ?_
  rintro e x9 ⟨as1, ls, ks, zs, rfl, hs, ns, hb⟩
  replace V0 := Va.after hb V0
  replace V1 := Va.after hb V1
  replace Vt := Va.after hb Vt
  replace Vn := Va.after hb Vn
  replace hx := Nt.after hb hx
  replace ht := Nt.after hb ht
  replace hr := Nt.after hb hr
  replace ho := Nt.after hb ho
  replace hn := Nt.after hb hn
  replace B0 := step B0 hb
  clear hb
  rw [nn] at ns
  clear c_V0 f_V0 l_V0 m_V0 c_V1 f_V1 l_V1 m_V1 c_Vt f_Vt l_Vt m_Vt
  have c_V0 := V0.cell
  have f_V0 := V0.frozen 0
  have l_V0 := V0.lt
  have m_V0 := Nat.le_of_lt l_V0
  have c_V1 := V1.cell
  have f_V1 := V1.frozen 0
  have l_V1 := V1.lt
  have m_V1 := Nat.le_of_lt l_V1
  have c_Vt := Vt.cell
  have f_Vt := Vt.frozen 0
  have l_Vt := Vt.lt
  have m_Vt := Nat.le_of_lt l_Vt
  have c_Vn := Vn.cell
  have f_Vn := Vn.frozen 0
  have l_Vn := Vn.lt
  have m_Vn := Nat.le_of_lt l_Vn
  go_wp2_with fail
  refine bodyPost_ret (results_c rfl rfl ((V1.set _).old _)) rfl ?_
  have B9 := B0.setCell (p := ⟨w.heap.size + 1, 0, none⟩) (by show _ ≤ w.heap.size + 1; omega) (.slice as1 ls ks)
  exact ⟨_, _, _, zs, rfl, (hs.store V1 _).al _, by rw [ns]; exact g2, by rw [ns]; exact g3, by rw [ns]; exact g4, B9.alloc (by rw [size_set]; omega) _⟩

theorem two_le {x r : Int} (h4 : 4 ≤ x) (hr : 0 ≤ r) (h : x < (r + 1) * (r + 1)) : 2 ≤ r := by
  rcases Int.lt_or_le r 2 with h1 | h1
  · have : r = 0 ∨ r = 1 := by omega
    rcases this with rfl | rfl <;> omega
  · exact h1
theorem quot_of {x q r m : Int} (h : x = q * r + m) (h0 : 0 ≤ m) (h1 : m < r) : q = x / r := by
  rw [h, Int.add_comm, Int.add_mul_ediv_right _ _ (by omega), Int.ediv_eq_zero_of_lt h0 h1, Int.zero_add]
theorem fits_of {x q r m : Int} (lo : Low r) (hx : x < pw 4096) (r2 : 2 ≤ r) (q0 : 0 ≤ q) (m0 : 0 ≤ m) (h : x = q * r + m) : r + q < pw 4096 := by
  have h1 := lo.lt
  have h2 : q * 2 ≤ q * r := Int.mul_le_mul_of_nonneg_left r2 q0
  generalize pw 4096 = P at *
  omega
set_option maxHeartbeats 4000000 in
theorem root_great (a : Option Addr) (la ca : Nat) (xs : List Int) (w : World) (hx : Nt w a la ca xs) (HR : RootOk (num xs)) (h4 : 4 ≤ num xs) :
    Calls Try.prog 41 #[.agg #[.slice a la ca]] w fun e w' => ∃ a' l' c' zs, e = .returned (.agg #[.slice a' l' c']) ∧ Nt w' a' l' c' zs ∧ IsRoot (num xs) (num zs) ∧ Below w.heap.size w w' := by
  have B0 : Below w.heap.size w w := Below.refl _ _
  have hb3 : 2 < bitsN xs := by
    have ux : 0 < usedN xs := by
      rcases Nat.eq_zero_or_pos (usedN xs) with h | h
      · have := (num_eq_zero hx.limbs).2 h; omega
      · exact h
    obtain ⟨b, eb, b1, b2⟩ := bits_spec hx.limbs ux
    rcases Nat.lt_or_ge b 2 with h | h
    · have := p2_mono (show b + 1 ≤ 2 by omega)
      have h5 : (2 : Int) ^ 2 = 4 := by decide
      omega
    · omega
  have HHR : Hid (RootOk (num xs)) := HR
  obtain ⟨bb, hbb⟩ : ∃ b, bitsN xs = b := ⟨_, rfl⟩
  rw [hbb] at hb3
  clear HR
  go_enter Try.func41, Try.ntmps41
  go_wp2_with fail
  refine ent2 w _ _ _ _ (Q := fun W => Calls Try.prog _ _ W _) ?_
  intro x1 hb hs_x1 V0 V1
  replace hx := Nt.after hb hx
  replace B0 := step B0 hb
  clear hb hs_x1
  refine (nbits_any a la ca xs x1 hx).mono ?_
  rintro e x2 ⟨rfl, hb⟩
  replace V0 := Va.after hb V0
  replace V1 := Va.after hb V1
  replace hx := Nt.after hb hx
  replace B0 := step B0 hb
  clear hb
  rw [hbb]
  have c_V0 := V0.cell
  have f_V0 := V0.frozen 0
  have l_V0 := V0.lt
  have m_V0 := Nat.le_of_lt l_V0
  have c_V1 := V1.cell
  have f_V1 := V1.frozen 0
  have l_V1 := V1.lt
  have m_V1 := Nat.le_of_lt l_V1
  go_wp2_with fail
  refine (above_any a la ca xs x2 hx HHR.out h4).mono ?_
  rintro e x3 ⟨ar, lr, kr, zr, rfl, hr, lo, ab, po, hb⟩
  replace V0 := Va.after hb V0
  replace V1 := Va.after hb V1
  replace hx := Nt.after hb hx
  replace B0 := step B0 hb
  clear hb
  clear c_V0 f_V0 l_V0 m_V0 c_V1 f_V1 l_V1 m_V1
  have c_V0 := V0.cell
  have f_V0 := V0.frozen 0
  have l_V0 := V0.lt
  have m_V0 := Nat.le_of_lt l_V0
  have c_V1 := V1.cell
  have f_V1 := V1.frozen 0
  have l_V1 := V1.lt
  have m_V1 := Nat.le_of_lt l_V1
  go_wp2_with fail
  refine ent1 x3 _ _ (Q := fun W => Code.wp Try.prog _ _ _ W) ?_
  intro x4 hb hs_x4 Vr
  replace V0 := Va.after hb V0
  replace V1 := Va.after hb V1
  replace hx := Nt.after hb hx
  replace hr := Nt.after hb hr
  replace B0 := step B0 hb
  clear hb hs_x4
  have hsz1 := V1.lt
  have hsz3 := Vr.lt
  clear hbb hb3
  go_loopw [] (fun wr => ∃ (ar : Option Addr) (lr kr : Nat) (zr : List Int), Hid (Va wr w.heap.size 27 #[.slice a la ca]) ∧ Hid (Va wr (w.heap.size + 1) 27 #[.slice none 0 0]) ∧ Hid (Va wr x3.heap.size 27 #[.slice ar lr kr]) ∧ Hid (Nt wr a la ca xs) ∧ Hid (Nt wr ar lr kr zr) ∧ Low (num zr) ∧ Hid (num xs < (num zr + 1) * (num zr + 1)) ∧ Hid (0 < num zr) ∧ Hid (Below w.heap.size w wr)) (fun wr => varNum wr x3.heap.size)
  case atStart => exact ⟨ar, lr, kr, zr, V0, V1, Vr, hx, hr, lo, ab, po, B0⟩
  case round =>
    clear V0 V1 Vr hx hr lo ab po B0 hsz1 hsz3
    obtain ⟨ar, lr, kr, zr, V0, V1, Vr, hx, hr, lo, ab, po, B0⟩ := hrel
    replace V0 : Va wr w.heap.size 27 #[.slice a la ca] := V0
    replace V1 : Va wr (w.heap.size + 1) 27 #[.slice none 0 0] := V1
    replace Vr : Va wr x3.heap.size 27 #[.slice ar lr kr] := Vr
    replace hx : Nt wr a la ca xs := hx
    replace hr : Nt wr ar lr kr zr := hr
    replace B0 : Below w.heap.size w wr := B0
    have r2 := two_le h4 (Int.le_of_lt po.out) ab.out
    have xx0 := hx.nonneg
    have hme := varNum_eq Vr hr
    have c_V0 := V0.cell
    have f_V0 := V0.frozen 0
    have l_V0 := V0.lt
    have m_V0 := Nat.le_of_lt l_V0
    have c_V1 := V1.cell
    have f_V1 := V1.frozen 0
    have l_V1 := V1.lt
    have m_V1 := Nat.le_of_lt l_V1
    have c_Vr := Vr.cell
    have f_Vr := Vr.frozen 0
    have l_Vr := Vr.lt
    have m_Vr := Nat.le_of_lt l_Vr
    go_wp2_with fail
    refine (ndiv_ok a ar la ca lr kr xs zr wr hx hr (by omega)).mono ?_
    rintro e x11 ⟨ao, lo1, ko, am, lm, km, zo, zm, rfl, ho, hm, d1, d2, hb⟩
    replace V0 := Va.after hb V0
    replace V1 := Va.after hb V1
    replace Vr := Va.after hb Vr
    replace hx := Nt.after hb hx
    replace hr := Nt.after hb hr
    replace B0 := step B0 hb
    clear hb
    have m0 := hm.nonneg
    have o0 := ho.nonneg
    have hq := quot_of d1 m0 d2
    have hfit := fits_of lo hx.lt r2 o0 m0 d1
    clear hm d1 d2
    clear c_V0 f_V0 l_V0 m_V0 c_V1 f_V1 l_V1 m_V1 c_Vr f_Vr l_Vr m_Vr
    have c_V0 := V0.cell
    have f_V0 := V0.frozen 0
    have l_V0 := V0.lt
    have m_V0 := Nat.le_of_lt l_V0
    have c_V1 := V1.cell
    have f_V1 := V1.frozen 0
    have l_V1 := V1.lt
    have m_V1 := Nat.le_of_lt l_V1
    have c_Vr := Vr.cell
    have f_Vr := Vr.frozen 0
    have l_Vr := Vr.lt
    have m_Vr := Nat.le_of_lt l_Vr
    go_wp2_with fail
    refine ent2 x11 _ _ _ _ (Q := fun W => Calls Try.prog _ _ W _) ?_
    intro x12 hb hs_x12 Vo Vm
    replace V0 := Va.after hb V0
    replace V1 := Va.after hb V1
    replace Vr := Va.after hb Vr
    replace hx := Nt.after hb hx
    replace hr := Nt.after hb hr
    replace ho := Nt.after hb ho
    replace B0 := step B0 hb
    clear hb hs_x12
    refine (nadd_ok ar ao lr kr lo1 ko zr zo x12 hr ho hfit).mono ?_
    rintro e x13 ⟨as1, ls, ks, zs, rfl, hs, ns, hb⟩
    replace V0 := Va.after hb V0
    replace V1 := Va.after hb V1
    replace Vr := Va.after hb Vr
    replace Vo := Va.after hb Vo
    replace Vm := Va.after hb Vm
    replace hx := Nt.after hb hx
    replace hr := Nt.after hb hr
    replace ho := Nt.after hb ho
    replace B0 := step B0 hb
    clear hb
    rw [hq] at ns
    clear c_V0 f_V0 l_V0 m_V0 c_V1 f_V1 l_V1 m_V1 c_Vr f_Vr l_Vr m_Vr
    have c_V0 := V0.cell
    have f_V0 := V0.frozen 0
    have l_V0 := V0.lt
    have m_V0 := Nat.le_of_lt l_V0
    have c_V1 := V1.cell
    have f_V1 := V1.frozen 0
    have l_V1 := V1.lt
    have m_V1 := Nat.le_of_lt l_V1
    have c_Vr := Vr.cell
    have f_Vr := Vr.frozen 0
    have l_Vr := Vr.lt
    have m_Vr := Nat.le_of_lt l_Vr
    have c_Vo := Vo.cell
    have f_Vo := Vo.frozen 0
    have l_Vo := Vo.lt
    have m_Vo := Nat.le_of_lt l_Vo
    have c_Vm := Vm.cell
    have f_Vm := Vm.frozen 0
    have l_Vm := Vm.lt
    have m_Vm := Nat.le_of_lt l_Vm
    go_wp2_with fail
    refine ent1 x13 _ _ (Q := fun W => Calls Try.prog _ _ W _) ?_
    intro x14 hb hs_x14 Vs
    replace V0 := Va.after hb V0
    replace V1 := Va.after hb V1
    replace Vr := Va.after hb Vr
    replace Vo := Va.after hb Vo
    replace Vm := Va.after hb Vm
    replace hx := Nt.after hb hx
    replace hr := Nt.after hb hr
    replace ho := Nt.after hb ho
    replace hs := Nt.after hb hs
    replace B0 := step B0 hb
    clear hb hs_x14
    refine (nright_ok as1 ls ks zs 1 x14 hs (by decide)).mono ?_
    rintro e x15 ⟨an, ln, kn, zn, rfl, hn, nn, hb⟩
    replace V0 := Va.after hb V0
    replace V1 := Va.after hb V1
    replace Vr := Va.after hb Vr
    replace Vo := Va.after hb Vo
    replace Vm := Va.after hb Vm
    replace Vs := Va.after hb Vs
    replace hx := Nt.after hb hx
    replace hr := Nt.after hb hr
    replace ho := Nt.after hb ho
    replace hs := Nt.after hb hs
    replace B0 := step B0 hb
    clear hb
    rw [ns, show (2 : Int) ^ 1 = 2 by decide] at nn
    clear c_V0 f_V0 l_V0 m_V0 c_V1 f_V1 l_V1 m_V1 c_Vr f_Vr l_Vr m_Vr c_Vo f_Vo l_Vo m_Vo c_Vm f_Vm l_Vm m_Vm
    have c_V0 := V0.cell
    have f_V0 := V0.frozen 0
    have l_V0 := V0.lt
    have m_V0 := Nat.le_of_lt l_V0
    have c_V1 := V1.cell
    have f_V1 := V1.frozen 0
    have l_V1 := V1.lt
    have m_V1 := Nat.le_of_lt l_V1
    have c_Vr := Vr.cell
    have f_Vr := Vr.frozen 0
    have l_Vr := Vr.lt
    have m_Vr := Nat.le_of_lt l_Vr
    have c_Vo := Vo.cell
    have f_Vo := Vo.frozen 0
    have l_Vo := Vo.lt
    have m_Vo := Nat.le_of_lt l_Vo
    have c_Vm := Vm.cell
    have f_Vm := Vm.frozen 0
    have l_Vm := Vm.lt
    have m_Vm := Nat.le_of_lt l_Vm
    have c_Vs := Vs.cell
    have f_Vs := Vs.frozen 0
    have l_Vs := Vs.lt
    have m_Vs := Nat.le_of_lt l_Vs
    go_wp2_with fail
    refine ent1 x15 _ _ (Q := fun W => Calls Try.prog _ _ W _) ?_
    intro x16 hb hs_x16 Vn
    replace V0 := Va.after hb V0
    replace V1 := Va.after hb V1
    replace Vr := Va.after hb Vr
    replace Vo := Va.after hb Vo
    replace Vm := Va.after hb Vm
    replace Vs := Va.after hb Vs
    replace hx := Nt.after hb hx
    replace hr := Nt.after hb hr
    replace ho := Nt.after hb ho
    replace hs := Nt.after hb hs
    replace hn := Nt.after hb hn
    replace B0 := step B0 hb
    clear hb hs_x16
    refine (ncompare_any an ar ln kn lr kr zn zr x16 hn hr).mono ?_
    rintro e x17 ⟨rfl, hb⟩
    replace V0 := Va.after hb V0
    replace V1 := Va.after hb V1
    replace Vr := Va.after hb Vr
    replace Vo := Va.after hb Vo
    replace Vm := Va.after hb Vm
    replace Vs := Va.after hb Vs
    replace Vn := Va.after hb Vn
    replace hx := Nt.after hb hx
    replace hr := Nt.after hb hr
    replace ho := Nt.after hb ho
    replace hs := Nt.after hb hs
    replace hn := Nt.after hb hn
    replace B0 := step B0 hb
    clear hb
    clear c_V0 f_V0 l_V0 m_V0 c_V1 f_V1 l_V1 m_V1 c_Vr f_Vr l_Vr m_Vr c_Vo f_Vo l_Vo m_Vo c_Vm f_Vm l_Vm m_Vm c_Vs f_Vs l_Vs m_Vs
    have c_V0 := V0.cell
    have f_V0 := V0.frozen 0
    have l_V0 := V0.lt
    have m_V0 := Nat.le_of_lt l_V0
    have c_V1 := V1.cell
    have f_V1 := V1.frozen 0
    have l_V1 := V1.lt
    have m_V1 := Nat.le_of_lt l_V1
    have c_Vr := Vr.cell
    have f_Vr := Vr.frozen 0
    have l_Vr := Vr.lt
    have m_Vr := Nat.le_of_lt l_Vr
    have c_Vo := Vo.cell
    have f_Vo := Vo.frozen 0
    have l_Vo := Vo.lt
    have m_Vo := Nat.le_of_lt l_Vo
    have c_Vm := Vm.cell
    have f_Vm := Vm.frozen 0
    have l_Vm := Vm.lt
    have m_Vm := Nat.le_of_lt l_Vm
    have c_Vs := Vs.cell
    have f_Vs := Vs.frozen 0
    have l_Vs := Vs.lt
    have m_Vs := Nat.le_of_lt l_Vs
    have c_Vn := Vn.cell
    have f_Vn := Vn.frozen 0
    have l_Vn := Vn.lt
    have m_Vn := Nat.le_of_lt l_Vn
    clear hq hfit
    have na := newton_above po.out xx0
    have ne := fun h => newton_end (a := num xs) po.out h
    rw [← nn] at na ne
    have q0 : 0 ≤ num xs / num zr := Int.ediv_nonneg xx0 (by omega)
    have np : 0 < num zn := by rw [nn]; omega
    clear nn ns q0
    go_wp2_with fail
    · rename_i hc
      have hge : num zr ≤ num zn := by
        rcases Int.lt_or_le (num zn) (num zr) with h | h
        · rw [cmp3_lt h] at hc; omega
        · exact h
      refine bodyPost_ret (results_c rfl rfl (V1.set _)) rfl ?_
      exact ⟨_, _, _, zr, rfl, hr.store V1 _, ⟨by omega, ne hge, ab.out⟩, B0.setCell (p := ⟨w.heap.size + 1, 0, none⟩) (by show _ ≤ w.heap.size + 1; omega) _⟩
    · rename_i hc
      have hlt : num zn < num zr := by
        rcases Int.lt_trichotomy (num zn) (num zr) with h | h | h
        · exact h
        · rw [cmp3_eq h] at hc; omega
        · rw [cmp3_gt h] at hc; omega
      have S3 := Vr.set (.slice an ln kn)
      have N3 := hn.store Vr (.slice an ln kn)
      have hme2 := varNum_eq S3 N3
      have lo2 : Low (num zn) := ⟨by have h7 := lo.lt; generalize pw 4096 = P at h7 ⊢; omega⟩
      refine ⟨⟨an, ln, kn, zn, V0.other (p := ⟨x3.heap.size, 0, none⟩) (by show _ ≠ x3.heap.size; omega) _, V1.other (p := ⟨x3.heap.size, 0, none⟩) (by show _ ≠ x3.heap.size; omega) _, S3, hx.store Vr _, N3, lo2, na, np, B0.setCell (p := ⟨x3.heap.size, 0, none⟩) (by show _ ≤ x3.heap.size; omega) _⟩, ?_⟩
      rw [hme2, hme]; omega
end Go.Proofs.Ytajjhnilpdmnhaa
namespace Go.Proofs.Ytajjhnilpdmnhaa
open Go.RowKit Go.Shelf
set_option linter.unusedVariables false
theorem small_root {xs : List Int} (h : Limbs xs) (h4 : num xs < 4) : 0 ≤ bitsN xs ∧ bitsN xs ≤ 2 ∧ IsRoot (num xs) (min (bitsN xs) 1) := by
  rcases Nat.eq_zero_or_pos (usedN xs) with h0 | h0
  · rw [bits_nought h0, (num_eq_zero h).2 h0]
    refine ⟨by decide, by decide, ?_⟩
    exact ⟨by decide, by decide, by decide⟩
  · obtain ⟨k, e, k1, k2⟩ := bits_spec h h0
    have hk : k < 2 := by
      rcases Nat.lt_or_ge k 2 with h | h
      · exact h
      · have := p2_mono h
        rw [show (2 : Int) ^ 2 = 4 by decide] at this
        omega
    have p0 := p2_pos k
    rw [e]
    refine ⟨by omega, by omega, ?_⟩
    rw [show min ((k : Int) + 1) 1 = 1 by omega]
    refine ⟨by decide, by omega, by omega⟩
set_option maxHeartbeats 4000000 in
theorem root_little (a : Option Addr) (la ca : Nat) (xs : List Int) (w : World) (hx : Nt w a la ca xs) (h4 : num xs < 4) :
    Calls Try.prog 41 #[.agg #[.slice a la ca]] w fun e w' => ∃ a' l' c' zs, e = .returned (.agg #[.slice a' l' c']) ∧ Nt w' a' l' c' zs ∧ IsRoot (num xs) (num zs) ∧ Below w.heap.size w w' := by
  have B0 : Below w.heap.size w w := Below.refl _ _
  obtain ⟨s1, s2, s3⟩ := small_root hx.limbs h4
  obtain ⟨bb, hbb⟩ : ∃ b, bitsN xs = b := ⟨_, rfl⟩
  rw [hbb] at s1 s2 s3
  have wr : Word (min bb 1) := ⟨by omega, by omega⟩
  go_enter Try.func41, Try.ntmps41
  go_wp2_with fail
  refine ent2 w _ _ _ _ (Q := fun W => Calls Try.prog _ _ W _) ?_
  intro x1 hb hs_x1 V0 V1
  replace hx := Nt.after hb hx
  replace B0 := step B0 hb
  clear hb hs_x1
  refine (nbits_any a la ca xs x1 hx).mono ?_
  rintro e x2 ⟨rfl, hb⟩
  replace V0 := Va.after hb V0
  replace V1 := Va.after hb V1
  replace hx := Nt.after hb hx
  replace B0 := step B0 hb
  clear hb
  rw [hbb]
  have c_V0 := V0.cell
  have f_V0 := V0.frozen 0
  have l_V0 := V0.lt
  have m_V0 := Nat.le_of_lt l_V0
  have c_V1 := V1.cell
  have f_V1 := V1.frozen 0
  have l_V1 := V1.lt
  have m_V1 := Nat.le_of_lt l_V1
  go_wp2_with fail
  refine (nbits_any a la ca xs x2 hx).mono ?_
  rintro e x3 ⟨rfl, hb⟩
  replace V0 := Va.after hb V0
  replace V1 := Va.after hb V1
  replace hx := Nt.after hb hx
  replace B0 := step B0 hb
  clear hb
  rw [hbb]
  clear c_V0 f_V0 l_V0 m_V0 c_V1 f_V1 l_V1 m_V1
  have c_V0 := V0.cell
  have f_V0 := V0.frozen 0
  have l_V0 := V0.lt
  have m_V0 := Nat.le_of_lt l_V0
  have c_V1 := V1.cell
  have f_V1 := V1.frozen 0
  have l_V1 := V1.lt
  have m_V1 := Nat.le_of_lt l_V1
  go_wp2_with fail
  refine (small_any (min bb 1) wr x3).mono ?_
  rintro e x4 ⟨ar, lr, kr, zr, rfl, hr, nr, hb⟩
  replace V0 := Va.after hb V0
  replace V1 := Va.after hb V1
  replace hx := Nt.after hb hx
  replace B0 := step B0 hb
  clear hb
  clear c_V0 f_V0 l_V0 m_V0 c_V1 f_V1 l_V1 m_V1
  have c_V0 := V0.cell
  have f_V0 := V0.frozen 0
  have l_V0 := V0.lt
  have m_V0 := Nat.le_of_lt l_V0
  have c_V1 := V1.cell
  have f_V1 := V1.frozen 0
  have l_V1 := V1.lt
  have m_V1 := Nat.le_of_lt l_V1
  go_wp2_with fail
  refine bodyPost_ret (results_c rfl rfl (V1.set _)) rfl ?_
  exact ⟨_, _, _, zr, rfl, hr.store V1 _, by rw [nr]; exact s3, B0.setCell (p := ⟨w.heap.size + 1, 0, none⟩) (by show _ ≤ w.heap.size + 1; omega) _⟩
theorem root_below : ∀ (n : Nat), RootOk (n : Int) := by
  intro n
  induction n with
  | zero =>
    intro a la ca xs w hx h
    have := hx.nonneg
    omega
  | succ n ih =>
    intro a la ca xs w hx h
    rcases Int.lt_or_le (num xs) 4 with h4 | h4
    · exact root_little a la ca xs w hx h4
    · exact root_great a la ca xs w hx (fun b lb cb ys W hy hlt => ih b lb cb ys W hy (by omega)) h4
theorem root_any (a : Option Addr) (la ca : Nat) (xs : List Int) (w : World) (hx : Nt w a la ca xs) :
    Calls Try.prog 41 #[.agg #[.slice a la ca]] w fun e w' => ∃ a' l' c' zs, e = .returned (.agg #[.slice a' l' c']) ∧ Nt w' a' l' c' zs ∧ IsRoot (num xs) (num zs) ∧ Below w.heap.size w w' :=
  root_below ((num xs).toNat + 1) a la ca xs w hx (by have := hx.nonneg; omega)
end Go.Proofs.Ytajjhnilpdmnhaa
namespace Go.Proofs.Ytajjhnilpdmnhaa
open Go.RowKit Go.Shelf

theorem long_no (a b : Option Addr) (la ca lb cb : Nat) (xs ys : List Int) (w : World) (ha : Sl w a la xs) (hb : Sl w b lb ys) (h1 : la ≤ 40000000000000) (h2 : lb ≤ 40000000000000) (u1 : usedN xs ≤ 4096) (u2 : usedN ys ≤ 4096) :
    Calls Try.prog 22 #[.slice a la ca, .slice b lb cb] w fun e w' => e = .returned (.bool false) ∧ Below w.heap.size w w' := by
  have A := rlong_any a la ca xs w ha h1
  have B := rlong_any b lb cb ys w hb h2
  have e1 : decide ((4096 : Int) < usedN xs) = false := by simp; omega
  have e2 : decide ((4096 : Int) < usedN ys) = false := by simp; omega
  rw [e1] at A
  rw [e2] at B
  clear e1 e2
  go_enter Try.func22, Try.ntmps22
  go_wp2_with fail
  refine A.mono ?_
  rintro e w1 ⟨rfl, rfl⟩
  go_wp2_with fail
  refine B.mono ?_
  rintro e w1 ⟨rfl, rfl⟩
  go_wp2_with fail
  go_ret
  exact ⟨rfl, Below.refl _ _⟩
theorem long_yes (a b : Option Addr) (la ca lb cb : Nat) (xs ys : List Int) (w : World) (ha : Sl w a la xs) (hb : Sl w b lb ys) (h1 : la ≤ 40000000000000) (h2 : lb ≤ 40000000000000) (u : 4096 < usedN xs ∨ 4096 < usedN ys) :
    Calls Try.prog 22 #[.slice a la ca, .slice b lb cb] w fun e w' => e = .returned (.bool true) ∧ Below w.heap.size w w' := by
  have A := rlong_any a la ca xs w ha h1
  have B := rlong_any b lb cb ys w hb h2
  by_cases u1 : 4096 < usedN xs
  · have e1 : decide ((4096 : Int) < usedN xs) = true := by simp; omega
    rw [e1] at A
    clear e1
    go_enter Try.func22, Try.ntmps22
    go_wp2_with fail
    refine A.mono ?_
    rintro e w1 ⟨rfl, rfl⟩
    go_wp2_with fail
    go_ret
    exact ⟨rfl, Below.refl _ _⟩
  · have e1 : decide ((4096 : Int) < usedN xs) = false := by simp; omega
    have e2 : decide ((4096 : Int) < usedN ys) = true := by simp; omega
    rw [e1] at A
    rw [e2] at B
    clear e1 e2
    go_enter Try.func22, Try.ntmps22
    go_wp2_with fail
    refine A.mono ?_
    rintro e w1 ⟨rfl, rfl⟩
    go_wp2_with fail
    refine B.mono ?_
    rintro e w1 ⟨rfl, rfl⟩
    go_wp2_with fail
    go_ret
    exact ⟨rfl, Below.refl _ _⟩
end Go.Proofs.Ytajjhnilpdmnhaa
namespace Go.Proofs.Ytajjhnilpdmnhaa
open Go.RowKit Go.Shelf

theorem fits_mul {x y : Int} {i j : Nat} (x0 : 0 ≤ x) (hx : x < pw i) (hy : y < pw j) : x * y < pw (i + j) := by
  rw [pw_add]
  have h1 : x * y ≤ x * pw j := Int.mul_le_mul_of_nonneg_left (by omega) x0
  have h2 : x * pw j < pw i * pw j := Int.mul_lt_mul_of_pos_right hx (pw_pos j)
  omega
theorem fits_add {x y : Int} {i : Nat} (hx : x < pw i) (hy : y < pw i) : x + y < pw (i + 1) := by
  have := pw_pos i
  show _ < 18446744073709551616 * pw i
  omega
theorem fits_to {x : Int} {i j : Nat} (hx : x < pw i) (h : i ≤ j) : x < pw j := Int.lt_of_lt_of_le hx (pw_mono h)
theorem fits_len {w : World} {a : Option Addr} {len n : Nat} {zs : List Int} (s : Sl w a len zs) (h : len ≤ n) : num zs < pw n := by
  have := num_lt s.2.1
  rw [s.1] at this
  exact fits_to this h
theorem rlong_no (a : Option Addr) (len cap : Nat) (zs : List Int) (w : World) (h : Sl w a len zs) (hl : len ≤ 40000000000000) (hu : usedN zs ≤ 4096) :
    Calls Try.prog 17 #[.slice a len cap] w fun e w' => e = .returned (.bool false) ∧ Below w.heap.size w w' := by
  have e1 : decide ((4096 : Int) < usedN zs) = false := by simp; omega
  refine (rlong_any a len cap zs w h hl).mono ?_
  rintro e w' ⟨rfl, rfl⟩
  rw [e1]
  exact ⟨rfl, Below.refl _ _⟩
theorem rlong_yes (a : Option Addr) (len cap : Nat) (zs : List Int) (w : World) (h : Sl w a len zs) (hl : len ≤ 40000000000000) (hu : 4096 < usedN zs) :
    Calls Try.prog 17 #[.slice a len cap] w fun e w' => e = .returned (.bool true) ∧ Below w.heap.size w w' := by
  have e1 : decide ((4096 : Int) < usedN zs) = true := by simp; omega
  refine (rlong_any a len cap zs w h hl).mono ?_
  rintro e w' ⟨rfl, rfl⟩
  rw [e1]
  exact ⟨rfl, Below.refl _ _⟩
end Go.Proofs.Ytajjhnilpdmnhaa
namespace Go.Proofs.Ytajjhnilpdmnhaa
open Go.RowKit Go.Shelf

theorem is_nil (ca cb : Nat) (a b : Option Addr) (w : World) :
    Calls Try.prog 13 #[.agg #[.slice a 0 ca], .slice b 0 cb] w fun e w' => e = .returned (.bool true) ∧ Below w.heap.size w w' :=
  is_true a b 0 ca cb [] w ⟨⟨rfl, Limbs.nil, fun h => absurd h (by decide)⟩, rfl, by omega, by omega⟩ ⟨rfl, Limbs.nil, fun h => absurd h (by decide)⟩
/-- What the document answers is the very list of the number. -/
theorem Nt.same {w w' : World} {a b : Option Addr} {l c m : Nat} {zs ds : List Int} (h : Nt w a l c zs) (s : Sl w' b m ds) (u : usedN ds = m) (e : num ds = num zs) : m = l ∧ ds = zs := by
  obtain ⟨e1, e2⟩ := one_list s.2.1 h.limbs s.1 u e
  have hz := h.1.1
  rw [h.2.1] at e1 e2
  rw [List.take_of_length_le (by omega)] at e2
  exact ⟨e1, e2⟩
theorem is_ok (a b : Option Addr) (la ca m cb : Nat) (zs ds : List Int) (w : World) (h : Nt w a la ca zs) (s : Sl w b m ds) (u : usedN ds = m) (e : num ds = num zs) :
    Calls Try.prog 13 #[.agg #[.slice a la ca], .slice b m cb] w fun e w' => e = .returned (.bool true) ∧ Below w.heap.size w w' := by
  obtain ⟨rfl, rfl⟩ := h.same s u e
  exact is_true a b m ca cb ds w h s
theorem agrees_ok (a b : Option Addr) (la ca m cb : Nat) (zs ds : List Int) (w : World) (h : Nt w a la ca zs) (s : Sl w b m ds) (u : usedN ds = m) (e : num ds = num zs) :
    Calls Try.prog 28 #[.agg #[.slice a la ca], .int .i64 0, .slice b m cb] w fun e w' => e = .returned (.bool true) ∧ Below w.heap.size w w' := by
  obtain ⟨rfl, rfl⟩ := h.same s u e
  have l1 := h.2
  have B0 : Below w.heap.size w w := Below.refl _ _
  go_enter Try.func28, Try.ntmps28
  go_wp2_with fail
  refine ent1 w _ _ (Q := fun W => Calls Try.prog _ _ W _) ?_
  intro x1 hb hs V0
  replace B0 := step B0 hb
  replace h := Nt.after hb h
  replace s := s.below hb (Nat.le_refl _)
  clear hb hs
  refine (rlong_no b m cb ds x1 s (by omega) (by omega)).mono ?_
  rintro e x2 ⟨rfl, hb⟩
  replace B0 := step B0 hb
  replace h := Nt.after hb h
  replace s := s.below hb (Nat.le_refl _)
  replace V0 := Va.after hb V0
  clear hb
  have c0 := V0.cell
  go_wp2_with fail
  refine (is_true a b m ca cb ds x2 h s).mono ?_
  rintro e x3 ⟨rfl, hb⟩
  go_wp2_with fail
  go_ret
  exact ⟨rfl, step B0 hb⟩
theorem agrees_long (b : Option Addr) (ca m cb : Nat) (ds : List Int) (w : World) (s : Sl w b m ds) (hm : m ≤ 40000000000000) (u : 4096 < usedN ds) :
    Calls Try.prog 28 #[.agg #[.slice none 0 ca], .int .i64 3, .slice b m cb] w fun e w' => e = .returned (.bool true) ∧ Below w.heap.size w w' := by
  have B0 : Below w.heap.size w w := Below.refl _ _
  go_enter Try.func28, Try.ntmps28
  go_wp2_with fail
  refine ent1 w _ _ (Q := fun W => Calls Try.prog _ _ W _) ?_
  intro x1 hb hs V0
  replace B0 := step B0 hb
  replace s := s.below hb (Nat.le_refl _)
  clear hb hs
  refine (rlong_yes b m cb ds x1 s hm u).mono ?_
  rintro e x2 ⟨rfl, hb⟩
  replace B0 := step B0 hb
  replace V0 := Va.after hb V0
  clear hb
  have c0 := V0.cell
  go_wp2_with fail
  refine (is_nil ca 0 none none x2).mono ?_
  rintro e x3 ⟨rfl, hb⟩
  go_wp2_with fail
  go_ret
  exact ⟨rfl, step B0 hb⟩
/-- A list whose number is long has more limbs than there may be. -/
theorem long_used {ds : List Int} {N : Int} (h : Limbs ds) (e0 : num ds = N) (e1 : Hid (pw 4096 ≤ N)) : 4096 < usedN ds := by
  have e : pw 4096 ≤ num ds := by rw [e0]; exact e1.out
  rcases Nat.lt_or_ge 4096 (usedN ds) with h' | h'
  · exact h'
  · have := lt_of_used h h'; omega
/-- Four variables that hold numbers. -/
def P4 (w : World) (b1 b2 b3 b4 : Nat) (a1 a2 a3 a4 : Option Addr) (l1 l2 l3 l4 c1 c2 c3 c4 : Nat) (z1 z2 z3 z4 : List Int) (W : World) : Prop :=
  HV w b1 a1 l1 c1 z1 W ∧ HV w b2 a2 l2 c2 z2 W ∧ HV w b3 a3 l3 c3 z3 W ∧ HV w b4 a4 l4 c4 z4 W
section
variable {w : World} {b1 b2 b3 b4 : Nat} {a1 a2 a3 a4 : Option Addr} {l1 l2 l3 l4 c1 c2 c3 c4 : Nat} {z1 z2 z3 z4 : List Int} {W W' : World}
theorem HV.after (hb : Below W.heap.size W W') (h : HV w b1 a1 l1 c1 z1 W) : HV w b1 a1 l1 c1 z1 W' := ⟨Va.after hb h.1, Nt.after hb h.2.1, step h.2.2 hb⟩
theorem HV.drw (h : HV w b1 a1 l1 c1 z1 W) : HV w b1 a1 l1 c1 z1 W.drew := ⟨h.1, h.2.1, h.2.2.drew⟩
theorem P4.s (h : P4 w b1 b2 b3 b4 a1 a2 a3 a4 l1 l2 l3 l4 c1 c2 c3 c4 z1 z2 z3 z4 W) :
    W.cell? ⟨b1, 0, none⟩ = some (.slice a1 l1 c1) ∧ W.cell? ⟨b2, 0, none⟩ = some (.slice a2 l2 c2) ∧ W.cell? ⟨b3, 0, none⟩ = some (.slice a3 l3 c3) ∧ Hid (P4 w b1 b2 b3 b4 a1 a2 a3 a4 l1 l2 l3 l4 c1 c2 c3 c4 z1 z2 z3 z4 W) :=
  ⟨h.1.1.cell, h.2.1.1.cell, h.2.2.1.1.cell, h⟩
theorem P4.after (hb : Below W.heap.size W W') (h : P4 w b1 b2 b3 b4 a1 a2 a3 a4 l1 l2 l3 l4 c1 c2 c3 c4 z1 z2 z3 z4 W) : P4 w b1 b2 b3 b4 a1 a2 a3 a4 l1 l2 l3 l4 c1 c2 c3 c4 z1 z2 z3 z4 W' :=
  ⟨h.1.after hb, h.2.1.after hb, h.2.2.1.after hb, h.2.2.2.after hb⟩
theorem P4.drw (h : P4 w b1 b2 b3 b4 a1 a2 a3 a4 l1 l2 l3 l4 c1 c2 c3 c4 z1 z2 z3 z4 W) : P4 w b1 b2 b3 b4 a1 a2 a3 a4 l1 l2 l3 l4 c1 c2 c3 c4 z1 z2 z3 z4 W.drew :=
  ⟨h.1.drw, h.2.1.drw, h.2.2.1.drw, h.2.2.2.drw⟩
theorem P4.call (hb : Below W.heap.size W W') (h : W.cell? ⟨b1, 0, none⟩ = some (.slice a1 l1 c1) ∧ W.cell? ⟨b2, 0, none⟩ = some (.slice a2 l2 c2) ∧ W.cell? ⟨b3, 0, none⟩ = some (.slice a3 l3 c3) ∧ Hid (P4 w b1 b2 b3 b4 a1 a2 a3 a4 l1 l2 l3 l4 c1 c2 c3 c4 z1 z2 z3 z4 W)) :
    W'.cell? ⟨b1, 0, none⟩ = some (.slice a1 l1 c1) ∧ W'.cell? ⟨b2, 0, none⟩ = some (.slice a2 l2 c2) ∧ W'.cell? ⟨b3, 0, none⟩ = some (.slice a3 l3 c3) ∧ Hid (P4 w b1 b2 b3 b4 a1 a2 a3 a4 l1 l2 l3 l4 c1 c2 c3 c4 z1 z2 z3 z4 W') := P4.s (P4.after hb h.2.2.2)
theorem P4.get (h : W.cell? ⟨b1, 0, none⟩ = some (.slice a1 l1 c1) ∧ W.cell? ⟨b2, 0, none⟩ = some (.slice a2 l2 c2) ∧ W.cell? ⟨b3, 0, none⟩ = some (.slice a3 l3 c3) ∧ Hid (P4 w b1 b2 b3 b4 a1 a2 a3 a4 l1 l2 l3 l4 c1 c2 c3 c4 z1 z2 z3 z4 W)) : P4 w b1 b2 b3 b4 a1 a2 a3 a4 l1 l2 l3 l4 c1 c2 c3 c4 z1 z2 z3 z4 W := h.2.2.2
theorem HV.get (h : W.cell? ⟨b1, 0, none⟩ = some (.slice a1 l1 c1) ∧ Hid (HV w b1 a1 l1 c1 z1 W)) : HV w b1 a1 l1 c1 z1 W := h.2
end
end Go.Proofs.Ytajjhnilpdmnhaa
namespace Go.Proofs.Ytajjhnilpdmnhaa.H
theorem num_above {a b : List Int} {t : Nat} (h : ∀ j, t ≤ j → a.getD j 0 = b.getD j 0) : ∀ k, num (a.take (t + k)) - num (a.take t) = num (b.take (t + k)) - num (b.take t)
  | 0 => by simp only [Nat.add_zero]; omega
  | k + 1 => by
    have ih := num_above h k
    rw [← Nat.add_assoc, num_take_succ, num_take_succ, h (t + k) (by omega)]; omega
theorem num_above' {a b : List Int} {t : Nat} (h : ∀ j, t ≤ j → a.getD j 0 = b.getD j 0) : num a - num (a.take t) = num b - num (b.take t) := by
  have e := num_above h (a.length + b.length)
  have e1 : a.take (t + (a.length + b.length)) = a := List.take_of_length_le (by omega)
  have e2 : b.take (t + (a.length + b.length)) = b := List.take_of_length_le (by omega)
  rw [e1, e2] at e; exact e
/-- The highest limb in which they differ decides. -/
theorem num_lt_at {a b : List Int} {t : Nat} (ha : Limbs a) (hb : Limbs b) (h : ∀ j, t < j → a.getD j 0 = b.getD j 0) (hlt : a.getD t 0 < b.getD t 0) : num a < num b := by
  have e := num_above' (t := t + 1) (fun j hj => h j (by omega))
  rw [num_take_succ, num_take_succ] at e
  have h1 := num_lt (ha.take t); have h2 := num_nonneg (hb.take t)
  have h3 : num (a.take t) < pw t := by
    refine Int.lt_of_lt_of_le h1 (pw_mono ?_)
    rw [List.length_take]; omega
  have h4 : (a.getD t 0 + 1) * pw t ≤ b.getD t 0 * pw t := Int.mul_le_mul_of_nonneg_right (by omega) (by have := pw_pos t; omega)
  rw [Int.add_mul, Int.one_mul] at h4
  omega
theorem num_lt_len {a b : List Int} (ha : Limbs a) (hb : Limbs b) (h : usedN a < usedN b) : num a < num b := by
  have h1 := num_lt_used ha; have h2 := num_ge_used hb (by omega)
  have := pw_mono (show usedN a ≤ usedN b - 1 by omega); omega
theorem num_eq_of {a b : List Int} (h : ∀ j, a.getD j 0 = b.getD j 0) : num a = num b := by
  have e := num_above' (a := a) (b := b) (t := 0) (fun j _ => h j)
  simp [num] at e; omega
theorem num_set (zs : List Int) (j : Nat) (v : Int) (h : j < zs.length) : num (zs.set j v) = num zs + (v - zs.getD j 0) * pw j := by
  have e := num_above' (a := zs.set j v) (b := zs) (t := j + 1) (fun i hi => getD_set_other zs j i v (by omega))
  rw [num_set_take _ _ _ h, num_take_succ] at e
  rw [Int.sub_mul]
  omega
theorem num_two (zs : List Int) : num zs = zs.getD 0 0 + 4294967296 * zs.getD 1 0 + 18446744073709551616 * num (zs.drop 2) := by
  match zs with
  | [] => simp [num]
  | [x] => simp [num]
  | x :: y :: r => simp [num]; omega
end Go.Proofs.Ytajjhnilpdmnhaa.H
namespace Go.Proofs.Ytajjhnilpdmnhaa
open Go.RowKit Go.Shelf

def RPrInv (xs ys cs : List Int) (n lb i : Nat) : Prop :=
  cs.length = n ∧ H.Limbs cs ∧ (∀ j, i + lb ≤ j → cs.getD j 0 = 0) ∧ H.num cs = H.num (xs.take i) * H.num ys
def InInv (ys cs : List Int) (n lb i k : Nat) (T x c : Int) : Prop :=
  cs.length = n ∧ H.Limbs cs ∧ (∀ j, i + lb ≤ j → cs.getD j 0 = 0) ∧ H.num cs + c * H.pw (i + k) = T + x * H.num (ys.take k) * H.pw i ∧ 0 ≤ c ∧ c < 4294967296

theorem in_start {xs ys cs : List Int} {n lb i : Nat} (x : Int) (I : RPrInv xs ys cs n lb i) : InInv ys cs n lb i 0 (H.num (xs.take i) * H.num ys) x 0 := by
  obtain ⟨i1, i2, i3, i4⟩ := I
  exact ⟨i1, i2, i3, by rw [i4]; simp [H.num], by omega, by omega⟩
theorem in_word {o x y c : Int} (ho : 0 ≤ o ∧ o < 4294967296) (hx : 0 ≤ x ∧ x < 4294967296) (hy : 0 ≤ y ∧ y < 4294967296) (hc : 0 ≤ c ∧ c < 4294967296) :
    0 ≤ x * y ∧ x * y ≤ 18446744065119617025 ∧ (o + x * y + c) / 4294967296 < 4294967296 := by
  have h1 : 0 ≤ x * y := Int.mul_nonneg hx.1 hy.1
  have h2 : x * y ≤ 4294967295 * y := Int.mul_le_mul_of_nonneg_right (by omega) hy.1
  generalize x * y = p at *
  omega
theorem in_step {ys cs : List Int} {n lb i k : Nat} {T x c : Int} (hx : 0 ≤ x ∧ x < 4294967296) (hy : H.Limbs ys) (hk : k < lb) (hn : i + lb ≤ n) (I : InInv ys cs n lb i k T x c) :
    InInv ys (cs.set (i + k) ((cs.getD (i + k) 0 + x * ys.getD k 0 + c) % 4294967296)) n lb i (k + 1) T x ((cs.getD (i + k) 0 + x * ys.getD k 0 + c) / 4294967296) := by
  obtain ⟨i1, i2, i3, i4, i5, i6⟩ := I
  have b1 := i2.getD (i + k); have b2 := hy.getD k
  obtain ⟨p1, p2, p3⟩ := in_word b1 hx b2 ⟨i5, i6⟩
  refine ⟨by rw [List.length_set]; exact i1, i2.set _ ⟨by omega, by omega⟩, fun j hj => by rw [getD_set_other _ _ _ _ (by omega)]; exact i3 j hj, ?_, by omega, p3⟩
  have hc := H.carry_step (v := (cs.getD (i + k) 0 + x * ys.getD k 0 + c) % 4294967296) (c' := (cs.getD (i + k) 0 + x * ys.getD k 0 + c) / 4294967296) (p := H.pw (i + k)) (s := cs.getD (i + k) 0 + x * ys.getD k 0 + c) (by omega)
  rw [Int.add_mul (cs.getD (i + k) 0 + x * ys.getD k 0), Int.add_mul (cs.getD (i + k) 0)] at hc
  rw [H.num_set _ _ _ (by omega), H.num_take_succ, ← Nat.add_assoc, H.pw, Int.sub_mul, Int.mul_add x, Int.add_mul (x * H.num (ys.take k))]
  have e : x * (ys.getD k 0 * H.pw k) * H.pw i = x * ys.getD k 0 * H.pw (i + k) := by
    rw [H.pw_add, Int.mul_comm (H.pw i), Int.mul_assoc, Int.mul_assoc, Int.mul_assoc]
  rw [e]
  omega
theorem in_end {xs ys cs : List Int} {n lb i : Nat} {c : Int} (hlb : ys.length = lb) (hn : i + lb < n) (I : InInv ys cs n lb i lb (H.num (xs.take i) * H.num ys) (xs.getD i 0) c) : RPrInv xs ys (cs.set (i + lb) c) n lb (i + 1) := by
  obtain ⟨i1, i2, i3, i4, i5, i6⟩ := I
  refine ⟨by rw [List.length_set]; exact i1, i2.set _ ⟨i5, i6⟩, fun j hj => by rw [getD_set_other _ _ _ _ (by omega)]; exact i3 j (by omega), ?_⟩
  have et : ys.take lb = ys := List.take_of_length_le (by omega)
  rw [et] at i4
  rw [H.num_set _ _ _ (by omega), i3 (i + lb) (Nat.le_refl _), Int.sub_zero, H.num_take_succ, Int.add_mul, Int.mul_right_comm (xs.getD i 0)]
  exact i4

set_option maxHeartbeats 2000000 in
theorem rproduct_any (a b : Option Addr) (la ca lb cb : Nat) (xs ys : List Int) (w : World) (ha : Sl w a la xs) (hb : Sl w b lb ys) (hx : H.Limbs xs) (hy : H.Limbs ys) (h1 : la ≤ 8000000000000) (h2 : lb ≤ 8000000000000) :
    Calls Try.prog 59 #[.slice a la ca, .slice b lb cb] w fun e w' => DRes w w' e (H.num xs * H.num ys) (la + lb) := by
  have hza := ha.1; have hzb := hb.1
  have hmk := make_row (la + lb) (by omega)
  rw [show ((la + lb : Nat) : Int) = (la : Int) + lb by omega] at hmk
  have I0 : Hid (RPrInv xs ys (List.replicate (la + lb) 0) (la + lb) lb 0) :=
    ⟨by simp, fun z hz => by rw [List.eq_of_mem_replicate hz]; decide, fun j _ => by rw [List.getD_eq_getElem?_getD, List.getElem?_replicate]; split <;> rfl, by rw [H.num_zeros]; simp [H.num]⟩
  have O0 : Hid (Own (w.alloc (.cells (row (List.replicate (la + lb) 0)).toArray 23)) w.heap.size (List.replicate (la + lb) 0)) := heap_alloc_new _ _
  go_enter Try.func59, Try.ntmps59
  go_wp2_with fail
  clear hmk
  go_loopw [6] (fun ii wr => ∃ (i : Nat) (cs : List Int), ii = .int .i64 i ∧ i ≤ la ∧ Hid (RPrInv xs ys cs (la + lb) lb i) ∧ Hid (Own wr w.heap.size cs) ∧ Below w.heap.size w wr) (fun ii _ => la - (intOf ii).toNat)
  case atStart => exact ⟨0, _, rfl, by omega, I0, O0, (Below.refl _ _).alloc (Nat.le_refl _) _⟩
  case round =>
    obtain ⟨i, cs, rfl, hi, hI, hO, hbl⟩ := hrel
    by_cases hlt : i < la
    · obtain ⟨x, hxx⟩ : ∃ x, xs.getD i 0 = x := ⟨_, rfl⟩
      have hxw := hx.getD i
      rw [hxx] at hxw
      have HXX : Hid (xs.getD i 0 = x) := hxx
      have IN0 : Hid (InInv ys cs (la + lb) lb i 0 (H.num (xs.take i) * H.num ys) x 0) := in_start x hI.out
      obtain ⟨ba, oa, rfl, hca⟩ := ha.2.2 (by omega)
      have hcax := hca i hlt
      rw [hxx] at hcax
      have hba : ba < w.heap.size := by
        rcases Nat.lt_or_ge ba w.heap.size with h' | h'
        · exact h'
        · simp [World.cell?, Array.getElem?_eq_none h'] at hcax
      obtain ⟨wo, hwo⟩ : ∃ wo : World, wo = wr := ⟨_, rfl⟩
      rw [← hwo] at hO hbl
      clear hxx hca
      go_wp2_with fail
      rw [← hwo]
      clear hwo
      go_loopw [7, 8] (fun cc kk wq => ∃ (k : Nat) (c : Int) (ds : List Int), kk = .int .i64 k ∧ cc = .int .u64 c ∧ k ≤ lb ∧ Hid (InInv ys ds (la + lb) lb i k (H.num (xs.take i) * H.num ys) x c) ∧ Hid (Own wq w.heap.size ds) ∧ Below w.heap.size w wq) (fun _ kk _ => lb - (intOf kk).toNat)
      case atStart => exact ⟨0, 0, cs, rfl, rfl, by omega, IN0, hO, hbl⟩
      case round =>
        obtain ⟨k, c, ds, rfl, rfl, hk, hJ, hP, hbq⟩ := hrel
        by_cases hkl : k < lb
        · obtain ⟨bb, ob, rfl, hcb⟩ := hb.2.2 (by omega)
          have hcbx := hcb k hkl
          have hbb : bb < w.heap.size := by
            rcases Nat.lt_or_ge bb w.heap.size with h' | h'
            · exact h'
            · simp [World.cell?, Array.getElem?_eq_none h'] at hcbx
          obtain ⟨y, hyy⟩ : ∃ y, ys.getD k 0 = y := ⟨_, rfl⟩
          have hyw := hy.getD k
          have hstep := in_step hxw hy hkl (by omega) hJ.out
          have hcx := hP.out.cell (i + k) (by rw [hJ.out.1]; omega)
          have hfx := hP.out.frozen (i + k)
          have how := hJ.out.2.1.getD (i + k)
          have hc0 := hJ.out.2.2.2.2.1
          have hc1 := hJ.out.2.2.2.2.2
          obtain ⟨o, hoo⟩ : ∃ o, ds.getD (i + k) 0 = o := ⟨_, rfl⟩
          rw [hyy] at hcbx hyw hstep
          rw [hoo] at hcx how hstep
          obtain ⟨p1, p2, p3⟩ := in_word how hxw hyw ⟨hc0, hc1⟩
          obtain ⟨p, hp⟩ : ∃ p, x * y = p := ⟨_, rfl⟩
          rw [hp] at p1 p2 p3 hstep
          obtain ⟨o1, o2⟩ := how
          have ca1 : wr.cell? ⟨ba, oa + i, none⟩ = some (.int .u64 x) := (hbq.cell (p := ⟨ba, oa + i, none⟩) hba).trans hcax
          have cb1 : wr.cell? ⟨bb, ob + k, none⟩ = some (.int .u64 y) := (hbq.cell (p := ⟨bb, ob + k, none⟩) hbb).trans hcbx
          obtain ⟨t, ht⟩ : ∃ t, o + p + c = t := ⟨_, rfl⟩
          rw [ht] at hstep p3
          have t0 : 0 ≤ t := by omega
          have t1 : t < 18446744073709551616 := by omega
          have m0 : IntKind.i64.wrap ((i : Int) + k) = i + k := by rw [IntKind.wrap_i64]; omega
          have m1 : IntKind.u64.wrap (x * y) = p := by rw [hp, IntKind.wrap_u64]; omega
          have m2 : IntKind.u64.wrap (p + o) = p + o := by rw [IntKind.wrap_u64]; omega
          have m3 : IntKind.u64.wrap (p + o + c) = t := by rw [IntKind.wrap_u64]; omega
          have m4 : ((i : Int) + k).toNat = i + k := by omega
          have m5 : (i : Int) + k < la + lb := by omega
          have HS : Hid (InInv ys (ds.set (i + k) (t % 4294967296)) (la + lb) lb i (k + 1) (H.num (xs.take i) * H.num ys) x (t / 4294967296)) := hstep
          clear hstep hyy hoo hp ht hcb hcbx hcax hyw p3
          go_wp2_with fail
          go_quiet (fail)
          clear m1 m2 m3
          go_wp2_with fail
          go_roundw
          case rel => exact ⟨k + 1, _, _, by go_num, rfl, by omega, HS, Own.set (w := wr.drewN nq) hP.out (i + k) _, (below_drewN hbq nq).setCell (Nat.le_refl _) _⟩
          case measure => simp [intOf]; omega
        · obtain rfl : k = lb := by omega
          have hJ' := hJ.out
          rw [← HXX.out] at hJ'
          have HE : Hid (RPrInv xs ys (ds.set (i + k) c) (la + k) k (i + 1)) := in_end hzb (by omega) hJ'
          have hcx := hP.out.cell (i + k) (by rw [hJ.out.1]; omega)
          have hfx := hP.out.frozen (i + k)
          have m4 : ((i : Int) + k).toNat = i + k := by omega
          have m5 : (i : Int) + k < la + k := by omega
          clear hJ' hcax
          go_wp2_with fail
          go_roundw
          case rel => exact ⟨i + 1, _, by go_num, by omega, HE, Own.set hP.out (i + k) _, hbq.setCell (Nat.le_refl _) _⟩
          case measure => simp [intOf]; omega
    · obtain rfl : i = la := by omega
      obtain ⟨i1, i2, i3, i4⟩ := hI.out
      have et : xs.take i = xs := List.take_of_length_le (by omega)
      rw [et] at i4
      have hsl := hO.out.sl i2.up
      rw [i1] at hsl
      have hu := usedN_le cs
      have hle : usedN cs ≤ i + lb := by omega
      clear i1 et
      go_wp2_with fail
      refine (cutr_any (some ⟨w.heap.size, 0, none⟩) (i + lb) (i + lb) cs _ hsl (by omega) (Nat.le_refl _)).mono ?_
      rintro e w2 ⟨rfl, rfl⟩
      go_wp2_with fail
      go_ret
      exact ⟨_, usedN cs, i + lb, cs.take (usedN cs), rfl, hle, hle, hsl.take hle, i2.take _, usedN_take cs (Nat.le_refl _), by rw [H.num_take_used cs (Nat.le_refl _)]; exact i4, hbl⟩

theorem rmul_any (a0 a1 : Option Addr) (l0 k0 l1 k1 : Nat) (z0 z1 : List Int) (w : World) (ha0 : Sl w a0 l0 z0) (hb0 : Sl w a1 l1 z1) (h1 : l0 ≤ 2000000000000) (h2 : l1 ≤ 2000000000000) :
    Calls Try.prog 33 #[.slice a0 l0 k0, .slice a1 l1 k1] w fun e w' => LRes w w' e (num z0 * num z1) (2 * l0 + 2 * l1) := by
  go_enter Try.func33, Try.ntmps33
  go_wp2_with fail
  refine (digits_any a0 l0 k0 z0 w ha0 (by omega)).mono ?_
  rintro e wa ⟨a, la, ca, xs, rfl, -, hla, ha, hx, ux, nx, ba⟩
  go_wp2_with fail
  refine (digits_any a1 l1 k1 z1 wa (hb0.below ba (Nat.le_refl _)) (by omega)).mono ?_
  rintro e wb ⟨b, lb, cb, ys, rfl, -, hlb, hb, hy, uy, ny, bb⟩
  replace ha := ha.below bb (Nat.le_refl _)
  have HB : Hid (Below w.heap.size w wb) := step ba bb
  go_wp2_with fail
  refine (rproduct_any a b la ca lb cb xs ys wb ha hb hx hy (by omega) (by omega)).mono ?_
  rintro e wd ⟨ad, md, cd, ds, rfl, -, hmd, sd, hd, ud, nd, bd⟩
  go_wp2_with fail
  refine (limbsr_any ad md cd ds wd sd hd (by omega)).mono ?_
  rintro e w4 ⟨a4, m4, c4, z4, rfl, k4, k5, s4, u4, n4, b4⟩
  go_wp2_with fail
  go_ret
  exact ⟨a4, m4, c4, z4, rfl, k4, by omega, s4, u4, by rw [n4, nd, nx, ny], step (step HB.out bd) b4⟩
end Go.Proofs.Ytajjhnilpdmnhaa
namespace Go.Proofs.Ytajjhnilpdmnhaa
open Go.RowKit Go.Shelf

set_option maxHeartbeats 2000000 in
theorem rcompare_any (a b : Option Addr) (la ca lb cb : Nat) (xs ys : List Int) (w : World) (ha : Sl w a la xs) (hb : Sl w b lb ys) (na : a = none → la = 0 ∧ ca = 0) (nb : b = none → lb = 0 ∧ cb = 0) (h1 : la ≤ 17592186044416) (h2 : lb ≤ 17592186044416) (hca : la ≤ ca) (hcb : lb ≤ cb) :
    Calls Try.prog 26 #[.slice a la ca, .slice b lb cb] w fun e w' => e = .returned (.int .i64 (cmp3 (num xs) (num ys))) ∧ Below w.heap.size w w' := by
  have hux := usedN_le xs; have huy := usedN_le ys
  have hza := ha.1; have hzb := hb.1
  have hLx := ha.2.1; have hLy := hb.2.1
  have TA := rtrim_any a la ca xs w ha na h1 hca
  have TB := fun W h => rtrim_any b lb cb ys W h nb h2 hcb
  obtain ⟨n, hn⟩ : ∃ n, usedN xs = n := ⟨_, rfl⟩
  obtain ⟨m, hm⟩ : ∃ m, usedN ys = m := ⟨_, rfl⟩
  have HXS : Hid (num (xs.take n) = num xs) := by rw [← hn]; exact num_take_used xs (Nat.le_refl _)
  have HYS : Hid (num (ys.take m) = num ys) := by rw [← hm]; exact num_take_used ys (Nat.le_refl _)
  have HUX : Hid (usedN (xs.take n) = n) := by rw [← hn]; exact usedN_take xs (Nat.le_refl _)
  have HUY : Hid (usedN (ys.take m) = m) := by rw [← hm]; exact usedN_take ys (Nat.le_refl _)
  have hLX := hLx.take n
  have hLY := hLy.take m
  rw [hn] at TA
  simp only [hm] at TB
  have hnl : n ≤ 17592186044416 := by omega
  have hml : m ≤ 17592186044416 := by omega
  rw [← HXS.out, ← HYS.out]
  obtain ⟨X, hX⟩ : ∃ X, xs.take n = X := ⟨_, rfl⟩
  obtain ⟨Y, hY⟩ : ∃ Y, ys.take m = Y := ⟨_, rfl⟩
  rw [hX] at TA HUX hLX ⊢
  rw [hY] at HUY hLY ⊢
  simp only [hY] at TB
  have HTB : Hid (∀ W, Sl W b lb ys → Calls Try.prog 16 #[.slice b lb cb] W fun e w' => ∃ a' c', e = .returned (.slice a' m c') ∧ Sl w' a' m Y ∧ m ≤ c' ∧ Below W.heap.size W w') := TB
  have HB : Hid (Sl w b lb ys) := hb
  clear TB hb ha na nb hX hY HXS HYS hn hm hux huy hza hzb hLx hLy hca hcb h1 h2
  go_enter Try.func26, Try.ntmps26
  go_wp2_with fail
  refine TA.mono ?_
  rintro e wa ⟨a1, c1, rfl, sa, hc1, ba⟩
  clear TA
  go_wp2_with fail
  refine (HTB.out wa (HB.out.below ba (Nat.le_refl _))).mono ?_
  rintro e wb ⟨b1, d1, rfl, sb, hd1, bb⟩
  replace sa := sa.below bb (Nat.le_refl _)
  have B0 := step ba bb
  have HBB : Hid (Below w.heap.size w wb) := B0
  clear ba bb B0 HTB HB
  have hzX := sa.1; have hzY := sb.1
  by_cases hne : n = m
  · subst hne
    have g1 : ((n : Int) != n) = false := by simp
    go_wp2_with fail
    go_loopw [7] (fun i wr => ∃ t : Nat, t ≤ n ∧ i = .int .i64 ((t : Int) - 1) ∧ Hid (∀ j, t ≤ j → X.getD j 0 = Y.getD j 0) ∧ ∃ q, wr = wb.drewN q) (fun i _ => (intOf i + 1).toNat)
    case atStart =>
      refine ⟨n, Nat.le_refl _, rfl, fun j hj => ?_, 0, rfl⟩
      rw [List.getD_eq_getElem?_getD, List.getD_eq_getElem?_getD, List.getElem?_eq_none (by omega), List.getElem?_eq_none (by omega)]
    case round =>
      obtain ⟨t, ht, rfl, hI, q, rfl⟩ := hrel
      by_cases hlt : 0 < t
      · obtain ⟨ba, oa, rfl, hca⟩ := sa.2.2 (by omega)
        obtain ⟨bb, ob, rfl, hcb⟩ := sb.2.2 (by omega)
        have hcx := hca (t - 1) (by omega)
        have hcy := hcb (t - 1) (by omega)
        have ex : ((t : Int) - 1).toNat = t - 1 := by omega
        have ht1 : 1 ≤ (t : Int) := by omega
        obtain ⟨x, hx⟩ : ∃ x, X.getD (t - 1) 0 = x := ⟨_, rfl⟩
        obtain ⟨y, hy⟩ : ∃ y, Y.getD (t - 1) 0 = y := ⟨_, rfl⟩
        rw [hx] at hcx
        rw [hy] at hcy
        have HX : Hid (X.getD (t - 1) 0 = x) := hx
        have HY : Hid (Y.getD (t - 1) 0 = y) := hy
        have HJ : Hid (∀ j, t - 1 < j → X.getD j 0 = Y.getD j 0) := fun j hj => hI.out j (by omega)
        clear hx hy hca hcb sa sb hI
        by_cases hxy : x < y
        · have e1 : cmp3 (num X) (num Y) = -1 := cmp3_lt (num_lt_at hLX hLY HJ.out (by rw [HX.out, HY.out]; omega))
          have E1 : Hid (cmp3 (num X) (num Y) = -1) := e1
          clear e1
          go_wp2_with fail
          go_quiet (fail)
          go_wp2_with fail
          go_ret
          exact ⟨ret_int E1.out.symm, below_drewN (below_drewN HBB.out _) _⟩
        · by_cases hyx : y < x
          · have e1 : cmp3 (num X) (num Y) = 1 := cmp3_gt (num_lt_at hLY hLX (fun j hj => (HJ.out j hj).symm) (by rw [HX.out, HY.out]; exact hyx))
            have E1 : Hid (cmp3 (num X) (num Y) = 1) := e1
            clear e1
            go_wp2_with fail
            go_quiet (fail)
            go_wp2_with fail
            go_quiet (fail)
            go_wp2_with fail
            go_ret
            exact ⟨ret_int E1.out.symm, below_drewN (below_drewN (below_drewN HBB.out _) _) _⟩
          · have HXY : Hid (x = y) := (by omega : x = y)
            go_wp2_with fail
            go_quiet (fail)
            go_wp2_with fail
            go_quiet (fail)
            go_wp2_with fail
            go_roundw
            case rel =>
              refine ⟨t - 1, by omega, by rw [show ((t - 1 : Nat) : Int) - 1 = (t : Int) - 1 - 1 by omega], ?_, _, rfl⟩
              intro j hj
              by_cases hjt : j = t - 1
              · rw [hjt, HX.out, HY.out, HXY.out]
              · exact HJ.out j (by omega)
            case measure => simp [intOf]; omega
      · obtain rfl : t = 0 := by omega
        have e1 : cmp3 (num X) (num Y) = 0 := cmp3_eq (num_eq_of fun j => hI.out j (by omega))
        have E1 : Hid (cmp3 (num X) (num Y) = 0) := e1
        clear e1
        go_wp2_with fail
        go_ret
        exact ⟨ret_int E1.out.symm, below_drewN HBB.out _⟩
  · have g1 : ((n : Int) != m) = true := by simp; omega
    by_cases hgt : m < n
    · have e1 : cmp3 (num X) (num Y) = 1 := cmp3_gt (num_lt_len hLY hLX (by rw [HUX.out, HUY.out]; exact hgt))
      have E1 : Hid (cmp3 (num X) (num Y) = 1) := e1
      clear e1
      go_wp2_with fail
      go_ret
      exact ⟨ret_int E1.out.symm, HBB.out⟩
    · have e1 : cmp3 (num X) (num Y) = -1 := cmp3_lt (num_lt_len hLX hLY (by rw [HUX.out, HUY.out]; omega))
      have E1 : Hid (cmp3 (num X) (num Y) = -1) := e1
      clear e1
      have hlt : n < m := by omega
      go_wp2_with fail
      go_ret
      exact ⟨ret_int E1.out.symm, HBB.out⟩
end Go.Proofs.Ytajjhnilpdmnhaa
namespace Go.Proofs.Ytajjhnilpdmnhaa
open Go.RowKit Go.Shelf

theorem Hnum_drop_at (zs : List Int) (t : Nat) (h : t < zs.length) : H.num (zs.drop t) = zs.getD t 0 + 4294967296 * H.num (zs.drop (t + 1)) := by
  rw [List.drop_eq_getElem_cons h, H.num, List.getD_eq_getElem?_getD, List.getElem?_eq_getElem h]; rfl
theorem Hnum_set_drop (zs : List Int) (t : Nat) (v : Int) (h : t < zs.length) : H.num ((zs.set t v).drop t) = v + 4294967296 * H.num (zs.drop (t + 1)) := by
  rw [Hnum_drop_at _ _ (by rw [List.length_set]; exact h), List.getD_eq_getElem?_getD, List.getElem?_set_self h, List.drop_set_of_lt (by omega)]; rfl
def RvInv (zs cs : List Int) (b : Int) (t : Nat) (r : Int) : Prop :=
  cs.length = zs.length ∧ H.Limbs cs ∧ H.num (zs.drop t) = H.num (cs.drop t) * b + r ∧ 0 ≤ r ∧ r < b
theorem rv_step {zs cs : List Int} {b : Int} {t : Nat} {r : Int} (hz : H.Limbs zs) (I : RvInv zs cs b (t + 1) r) (h : t < zs.length) :
    RvInv zs (cs.set t ((4294967296 * r + zs.getD t 0) / b)) b t ((4294967296 * r + zs.getD t 0) % b) := by
  obtain ⟨i1, i2, i4, i5, i6⟩ := I
  have b1 := hz.getD t
  have hm := Int.emod_nonneg (4294967296 * r + zs.getD t 0) (b := b) (by omega)
  have hml := Int.emod_lt_of_pos (4294967296 * r + zs.getD t 0) (b := b) (by omega)
  have hd0 : 0 ≤ (4294967296 * r + zs.getD t 0) / b := Int.ediv_nonneg (by omega) (by omega)
  have hd1 : (4294967296 * r + zs.getD t 0) / b < 4294967296 := Int.ediv_lt_of_lt_mul (by omega) (by omega)
  refine ⟨by rw [List.length_set]; exact i1, i2.set t ⟨hd0, hd1⟩, ?_, hm, hml⟩
  have hdm := Int.mul_ediv_add_emod (4294967296 * r + zs.getD t 0) b
  rw [Hnum_set_drop _ _ _ (by omega), Hnum_drop_at _ _ (by omega), i4, Int.add_mul, Int.mul_assoc]
  rw [Int.mul_comm b] at hdm
  omega
theorem rv_end {zs cs : List Int} {b r : Int} (I : RvInv zs cs b 0 r) : H.num cs = H.num zs / b := by
  obtain ⟨i1, i2, i4, i5, i6⟩ := I
  rw [List.drop_zero, List.drop_zero] at i4
  rw [i4, Int.add_comm, Int.add_mul_ediv_right _ _ (by omega), Int.ediv_eq_zero_of_lt i5 i6, Int.zero_add]

theorem rv_whole {zs cs : List Int} {b r : Int} (I : RvInv zs cs b 0 r) : H.num zs = H.num cs * b + r := by
  have := I.2.2.1
  rwa [List.drop_zero, List.drop_zero] at this

set_option maxHeartbeats 1000000 in
theorem rshort_any (a : Option Addr) (n ca : Nat) (D : List Int) (b : Int) (w : World) (ha : Sl w a n D) (LD : H.Limbs D) (h1 : n ≤ 16000000000000) (b0 : 0 < b) (b1 : b < 4294967296) :
    Calls Try.prog 60 #[.slice a n ca, .int .u64 b] w fun e w' =>
      ∃ a' m c ds r, e = .returned (.tuple #[.slice a' m c, .int .u64 r]) ∧ m ≤ c ∧ m ≤ n ∧ Sl w' a' m ds ∧ H.Limbs ds ∧ usedN ds = m ∧ H.num D = H.num ds * b + r ∧ 0 ≤ r ∧ r < b ∧ Below w.heap.size w w' := by
  have hmk := make_row n (by omega)
  have HLD : Hid (D.length = n) := ha.1
  have HTD : Hid (Sl w a n D) := ha
  have gb : (b == 0) = false := by simp; omega
  have I0 : Hid (RvInv D (List.replicate n 0) b n 0) := by
    refine ⟨by simp [HLD.out], H.Limbs.zeros _, ?_, by omega, b0⟩
    have e1 : D.drop n = [] := List.drop_eq_nil_of_le (by rw [HLD.out]; exact Nat.le_refl _)
    have e2 : (List.replicate n (0 : Int)).drop n = [] := List.drop_eq_nil_of_le (by simp)
    rw [e1, e2]; simp [H.num]
  have O0 : Hid (Own (w.alloc (.cells (row (List.replicate n 0)).toArray 23)) w.heap.size (List.replicate n 0)) := heap_alloc_new _ _
  clear ha
  go_enter Try.func60, Try.ntmps60
  go_wp2_with fail
  clear hmk
  have hB1 : Below w.heap.size w (w.alloc (.cells (row (List.replicate n 0)).toArray 23)) := (Below.refl _ _).alloc (Nat.le_refl _) _
  go_loopw [7, 8] (fun rr ii wr => ∃ (k : Nat) (r : Int) (cs : List Int), ii = .int .i64 ((k : Int) - 1) ∧ rr = .int .u64 r ∧ k ≤ n ∧ Hid (RvInv D cs b k r) ∧ Hid (Own wr w.heap.size cs) ∧ Below w.heap.size w wr) (fun _ ii _ => (intOf ii + 1).toNat)
  case atStart => exact ⟨n, 0, _, rfl, rfl, Nat.le_refl _, I0, O0, hB1⟩
  case round =>
    obtain ⟨k, r, cs, rfl, rfl, hk, hI, hO, hbl⟩ := hrel
    by_cases h0 : k = 0
    · subst h0
      have HE : Hid (H.num D = H.num cs * b + r) := rv_whole hI.out
      obtain ⟨i1, i2, i3, i4, i5⟩ := hI.out
      have hsl := hO.out.sl i2.up
      rw [i1, HLD.out] at hsl
      have hu := usedN_le cs
      have hle : usedN cs ≤ n := by have := HLD.out; omega
      clear i1 i3
      go_wp2_with fail
      refine (cutr_any (some ⟨w.heap.size, 0, none⟩) n n cs _ hsl (by omega) (Nat.le_refl _)).mono ?_
      rintro e w2 ⟨rfl, hw⟩
      rw [hw]
      clear hw
      have t2 := hsl.take hle
      go_wp2_with fail
      go_ret2
      exact ⟨_, usedN cs, n, cs.take (usedN cs), r, rfl, hle, hle, t2, i2.take _, usedN_take cs (Nat.le_refl _), by rw [H.num_take_used cs (Nat.le_refl _)]; exact HE.out, i4, i5, hbl⟩
    · obtain ⟨j, rfl⟩ : ∃ j, k = j + 1 := ⟨k - 1, by omega⟩
      have hs := HTD.out.below hbl (Nat.le_refl _)
      obtain ⟨ba, oa, rfl, hc⟩ := hs.2.2 (by omega)
      have hcx := hc j (by omega)
      have hxw := LD.getD j
      have hstep := rv_step LD hI.out (by rw [HLD.out]; omega)
      have hcy := hO.out.cell j (by rw [hI.out.1, HLD.out]; omega)
      have hfy := hO.out.frozen j
      have hr0 := hI.out.2.2.2.1
      have hr1 := hI.out.2.2.2.2
      obtain ⟨x, hx⟩ : ∃ x, D.getD j 0 = x := ⟨_, rfl⟩
      rw [hx] at hcx hxw hstep
      obtain ⟨x1, x2⟩ := hxw
      rw [Int.mul_comm] at hstep
      obtain ⟨y, hy⟩ : ∃ y, r * 4294967296 + x = y := ⟨_, rfl⟩
      rw [hy] at hstep
      have y1 : 0 ≤ y := by omega
      have y2 : y < 18446744073709551616 := by omega
      have r2 : r < 4294967296 := by omega
      have HS : Hid (RvInv D (cs.set j (y / b)) b j (y % b)) := hstep
      have jn : (j : Int) < n := by omega
      rw [show (((j + 1 : Nat) : Int) - 1) = (j : Int) by omega]
      clear hstep hx hs hc h0
      go_wp2_with fail
      go_roundw
      case rel => exact ⟨j, _, _, rfl, rfl, by omega, HS, Own.set hO.out j _, hbl.setCell (Nat.le_refl _) _⟩
      case measure => simp [intOf]

/-- What holds behind so many places of a product with one digit. -/
def TmInv (xs cs : List Int) (q : Int) (n i : Nat) (c : Int) : Prop :=
  cs.length = n ∧ H.Limbs cs ∧ H.num (cs.take i) + c * H.pw i = H.num (xs.take i) * q ∧ 0 ≤ c ∧ c < 4294967296
theorem tm_word {x q c : Int} (hx : 0 ≤ x ∧ x < 4294967296) (hq : 0 ≤ q ∧ q < 4294967296) (hc : 0 ≤ c ∧ c < 4294967296) : 0 ≤ x * q ∧ x * q < 18446744073709551616 ∧ x * q + c ≤ 18446744069414584320 := by
  have h0 : 0 ≤ x * q := Int.mul_nonneg hx.1 hq.1
  have h1 : x * q ≤ 4294967295 * 4294967295 := Int.mul_le_mul (by omega) (by omega) hq.1 (by omega)
  omega
theorem tm_step {xs cs : List Int} {q : Int} {n i : Nat} {c : Int} (hx : H.Limbs xs) (hq : 0 ≤ q ∧ q < 4294967296) (I : TmInv xs cs q n i c) (h : i < n) :
    TmInv xs (cs.set i ((xs.getD i 0 * q + c) % 4294967296)) q n (i + 1) ((xs.getD i 0 * q + c) / 4294967296) := by
  obtain ⟨i1, i2, i3, i4, i5⟩ := I
  have b1 := hx.getD i
  obtain ⟨p1, p2, p3⟩ := tm_word b1 hq ⟨i4, i5⟩
  refine ⟨by rw [List.length_set]; exact i1, i2.set i ⟨by omega, by omega⟩, ?_, by omega, by omega⟩
  rw [H.num_set_take _ _ _ (by omega), H.num_take_succ, H.pw]
  have hc := H.carry_step (v := (xs.getD i 0 * q + c) % 4294967296) (c' := (xs.getD i 0 * q + c) / 4294967296) (p := H.pw i) (s := xs.getD i 0 * q + c) (by omega)
  rw [Int.add_mul] at hc
  have e1 : (H.num (xs.take i) + xs.getD i 0 * H.pw i) * q = H.num (xs.take i) * q + xs.getD i 0 * q * H.pw i := by rw [Int.add_mul, Int.mul_right_comm]
  rw [e1]
  omega
/-- All of the product is there, if it has room. -/
theorem tm_end {xs cs : List Int} {q : Int} {n : Nat} {c : Int} (I : TmInv xs cs q n n c) (hf : H.num xs * q < H.pw n) (hlen : xs.length ≤ n) : H.num cs = H.num xs * q := by
  obtain ⟨i1, i2, i3, i4, i5⟩ := I
  rw [List.take_of_length_le (by omega), List.take_of_length_le hlen] at i3
  have h1 := H.num_nonneg i2
  have hp := H.pw_pos n
  rcases Int.lt_or_le 0 c with h | h
  · have : 1 * H.pw n ≤ c * H.pw n := Int.mul_le_mul_of_nonneg_right (by omega) (Int.le_of_lt hp)
    omega
  · have : c = 0 := by omega
    rw [this] at i3; omega

set_option maxHeartbeats 1000000 in
theorem rdtimes_any (a : Option Addr) (la ca : Nat) (xs : List Int) (q : Int) (n : Nat) (w : World) (ha : Sl w a la xs) (hx : H.Limbs xs) (h1 : n ≤ 16000000000000) (hq : 0 ≤ q ∧ q < 4294967296) (hlen : la ≤ n) (hf : H.num xs * q < H.pw n) :
    Calls Try.prog 80 #[.slice a la ca, .int .u64 q, .int .i64 n] w fun e w' =>
      ∃ ds, e = .returned (.slice (some ⟨w.heap.size, 0, none⟩) n n) ∧ Own w' w.heap.size ds ∧ H.Limbs ds ∧ ds.length = n ∧ H.num ds = H.num xs * q ∧ Below w.heap.size w w' := by
  have hmk := make_row n (by omega)
  have HSL : Hid (Sl w a la xs) := ha
  have hza := ha.1
  have I0 : Hid (TmInv xs (List.replicate n 0) q n 0 0) := ⟨by simp, H.Limbs.zeros _, by simp [H.num], by omega, by omega⟩
  have O0 : Hid (Own (w.alloc (.cells (row (List.replicate n 0)).toArray 23)) w.heap.size (List.replicate n 0)) := heap_alloc_new _ _
  have HF : Hid (H.num xs * q < H.pw n) := hf
  clear ha hf
  go_enter Try.func80, Try.ntmps80
  go_wp2_with fail
  clear hmk
  have hB1 : Below w.heap.size w (w.alloc (.cells (row (List.replicate n 0)).toArray 23)) := (Below.refl _ _).alloc (Nat.le_refl _) _
  go_loopw [8, 9] (fun cc ii wr => ∃ (i : Nat) (c : Int) (cs : List Int), ii = .int .i64 i ∧ cc = .int .u64 c ∧ i ≤ n ∧ Hid (TmInv xs cs q n i c) ∧ Hid (Own wr w.heap.size cs) ∧ Below w.heap.size w wr) (fun _ ii _ => n - (intOf ii).toNat)
  case atStart => exact ⟨0, 0, _, rfl, rfl, by omega, I0, O0, hB1⟩
  case round =>
    obtain ⟨i, c, cs, rfl, rfl, hi, hI, hO, hbl⟩ := hrel
    by_cases hlt : i < n
    · have hstep := tm_step hx hq hI.out hlt
      have D1 := digit_any a la ca xs i wr (HSL.out.below hbl (Nat.le_refl _)) (by omega)
      rw [Int.toNat_natCast] at D1
      have b1 := hx.getD i
      have hcy := hO.out.cell i (by rw [hI.out.1]; exact hlt)
      have hfy := hO.out.frozen i
      have hc0 := hI.out.2.2.2.1
      have hc1 := hI.out.2.2.2.2
      obtain ⟨p1, p2, p3⟩ := tm_word b1 hq ⟨hc0, hc1⟩
      obtain ⟨x, hxx⟩ : ∃ x, xs.getD i 0 = x := ⟨_, rfl⟩
      rw [hxx] at D1 hstep b1 p1 p2 p3
      obtain ⟨p, hp⟩ : ∃ p, x * q = p := ⟨_, rfl⟩
      rw [hp] at p1 p2 p3 hstep
      have m1 : IntKind.u64.wrap (x * q) = p := by rw [hp, IntKind.wrap_u64]; omega
      have HS : Hid (TmInv xs (cs.set i ((p + c) % 4294967296)) q n (i + 1) ((p + c) / 4294967296)) := hstep
      have iN : (i : Int) < n := by omega
      clear hstep hxx
      go_wp2_with fail
      refine D1.mono ?_
      rintro e w2 ⟨rfl, hw2⟩
      rw [hw2]
      clear hw2 D1
      go_wp2_with fail
      go_roundw
      case rel => exact ⟨i + 1, _, _, by go_num, rfl, by omega, HS, Own.set hO.out i _, hbl.setCell (Nat.le_refl _) _⟩
      case measure => simp [intOf]; omega
    · obtain rfl : i = n := by omega
      have HE : Hid (H.num cs = H.num xs * q) := tm_end hI.out HF.out (by omega)
      obtain ⟨i1, i2, -⟩ := hI.out
      have HL : Hid (cs.length = i) := i1
      clear i1
      go_wp2_with fail
      go_ret
      exact ⟨cs, rfl, hO.out, i2, HL.out, HE.out, hbl⟩
end Go.Proofs.Ytajjhnilpdmnhaa
namespace Go.Proofs.Ytajjhnilpdmnhaa
open Go.RowKit Go.Shelf

/-- Block g alone of the old ones may have turned. -/
structure Near (g : Nat) (w w' : World) : Prop where
  bel : Below g w w'
  oth : ∀ k, k < w.heap.size → k ≠ g → w'.heap[k]? = w.heap[k]?
theorem Near.refl (g : Nat) (w : World) : Near g w w := ⟨Below.refl _ _, fun _ _ _ => rfl⟩
theorem Near.trans {g : Nat} {a b c : World} (h : Near g a b) (k : Near g b c) : Near g a c :=
  ⟨h.bel.trans k.bel, fun i hi hg => (k.oth i (Nat.lt_of_lt_of_le hi h.bel.size) hg).trans (h.oth i hi hg)⟩
theorem Near.of {g : Nat} {w w' : World} (b : Below w.heap.size w w') (hg : g ≤ w.heap.size) : Near g w w' := ⟨b.mono hg, fun k hk _ => b.block k hk⟩
theorem Near.set {g : Nat} {a w : World} (h : Near g a w) (i : Nat) (v : Value) : Near g a (w.setCell ⟨g, i, none⟩ v) :=
  ⟨h.bel.setCell (p := ⟨g, i, none⟩) (Nat.le_refl _) v, fun k hk hg => (Below.heap_setCell _ _ _ _ hg).trans (h.oth k hk hg)⟩
theorem Near.drewN {g : Nat} {a w : World} (h : Near g a w) (n : Nat) : Near g a (w.drewN n) := ⟨below_drewN h.bel n, h.oth⟩
theorem Own.near {g b : Nat} {w w' : World} {cs : List Int} (h : Own w b cs) (o : Near g w w') (hne : b ≠ g) : Own w' b cs := by
  have hlt : b < w.heap.size := by
    unfold Own at h
    rcases Nat.lt_or_ge b w.heap.size with h' | h'
    · exact h'
    · rw [Array.getElem?_eq_none h'] at h; cases h
  unfold Own at *
  rw [o.oth b hlt hne]; exact h
theorem Sx.near {g : Nat} {w w' : World} {a : Option Addr} {len : Nat} {zs : List Int} (h : Sx g w a len zs) (o : Near g w w') : Sx g w' a len zs := by
  have hlt := fun h0 p hp => h.1.lt h0 (p := p) hp
  obtain ⟨⟨h1, h2, h3⟩, h4⟩ := h
  refine ⟨⟨h1, h2, fun h0 => ?_⟩, h4⟩
  obtain ⟨b, off, rfl, hc⟩ := h3 h0
  refine ⟨b, off, rfl, fun i hi => ?_⟩
  rw [← hc i hi]
  exact World.cell?_of_block (w := w) (o.oth b (hlt h0 _ rfl) (h4 h0 _ rfl))

namespace H
/-- A number that is short enough: its lower digits, and a piece above. -/
theorem num_seg {us : List Int} (hL : Limbs us) {a n : Nat} (hlen : a + n + 1 ≤ us.length) (hN : num us < pw (a + n + 1)) : num us = num (us.take a) + num ((us.drop a).take (n + 1)) * pw a := by
  have e1 := num_take_drop us a (by omega)
  have e2 := num_take_drop (us.drop a) (n + 1) (by rw [List.length_drop]; omega)
  have h0 := num_nonneg (hL.take a)
  have h1 := num_nonneg ((hL.drop a).take (n + 1))
  have h2 := num_nonneg ((hL.drop a).drop (n + 1))
  have hp := pw_pos a
  have hq := pw_pos (n + 1)
  have e3 : pw (a + n + 1) = pw (n + 1) * pw a := by rw [show a + n + 1 = n + 1 + a by omega, pw_add]
  rcases Int.lt_or_le 0 (num ((us.drop a).drop (n + 1))) with h | h
  · exfalso
    have h3 : 1 * pw (n + 1) ≤ num ((us.drop a).drop (n + 1)) * pw (n + 1) := Int.mul_le_mul_of_nonneg_right (by omega) (Int.le_of_lt hq)
    have h4 : (num ((us.drop a).take (n + 1)) + num ((us.drop a).drop (n + 1)) * pw (n + 1)) * pw a ≥ pw (n + 1) * pw a := Int.mul_le_mul_of_nonneg_right (by omega) (Int.le_of_lt hp)
    rw [← e2] at h4
    omega
  · have h5 : num ((us.drop a).drop (n + 1)) = 0 := by omega
    rw [h5, Int.zero_mul, Int.add_zero] at e2
    rw [e1, e2]
end H
/-- What holds behind so many places that were taken off. -/
def LsInv (us ps ds : List Int) (a i : Nat) (c : Int) : Prop :=
  ds.length = us.length ∧ H.Limbs ds ∧ (∀ j, a + i ≤ j → ds.getD j 0 = us.getD j 0) ∧ H.num ds - c * H.pw (a + i) = H.num us - H.num (ps.take i) * H.pw a ∧ 0 ≤ c ∧ c ≤ 1
theorem ls_start {us ps : List Int} {a : Nat} (h : H.Limbs us) : LsInv us ps us a 0 0 := ⟨rfl, h, fun _ _ => rfl, by simp [H.num], by omega, by omega⟩
theorem ls_ring {N N0 T v x p c c' po pi : Int} (hd : v - 4294967296 * c' = x - p - c) (i4 : N - c * (po * pi) = N0 - T * po) : N + (v - x) * (po * pi) - c' * (4294967296 * (po * pi)) = N0 - (T + p * pi) * po := by grind
theorem ls_step {us ps ds : List Int} {a i : Nat} {c : Int} (hp : H.Limbs ps) (I : LsInv us ps ds a i c) (h : a + i < us.length) :
    LsInv us ps (ds.set (a + i) ((4294967296 + us.getD (a + i) 0 - ps.getD i 0 - c) % 4294967296)) a (i + 1) (1 - (4294967296 + us.getD (a + i) 0 - ps.getD i 0 - c) / 4294967296) := by
  obtain ⟨i1, i2, i3, i4, i5, i6⟩ := I
  have b1 := i2.getD (a + i); have b2 := hp.getD i
  rw [i3 (a + i) (Nat.le_refl _)] at b1
  refine ⟨by rw [List.length_set]; exact i1, i2.set _ ⟨by omega, by omega⟩, fun j hj => ?_, ?_, by omega, by omega⟩
  · rw [List.getD_eq_getElem?_getD, List.getElem?_set_ne (by omega), ← List.getD_eq_getElem?_getD]; exact i3 j (by omega)
  · rw [H.num_set _ _ _ (by omega), i3 (a + i) (Nat.le_refl _), H.num_take_succ, show a + (i + 1) = a + i + 1 by omega, H.pw]
    have e : H.pw (a + i) = H.pw a * H.pw i := H.pw_add a i
    rw [e] at i4 ⊢
    exact ls_ring (by omega) i4
theorem ls_end {us ps ds : List Int} {a n : Nat} {c : Int} (hL : H.Limbs us) (hN : H.num us < H.pw (a + n + 1)) (hps : ps.length = n + 1) (I : LsInv us ps ds a (n + 1) c) (hle : H.num ps * H.pw a ≤ H.num us) : H.num ds = H.num us - H.num ps * H.pw a := by
  obtain ⟨i1, i2, i3, i4, i5, i6⟩ := I
  rw [List.take_of_length_le (by omega), show a + (n + 1) = a + n + 1 by omega] at i4
  have : c = 0 ∨ c = 1 := by omega
  rcases this with rfl | rfl
  · simpa using i4
  · exfalso
    -- the digits above are as they were, and were noughts
    have hz : ∀ j, a + n + 1 ≤ j → ds.getD j 0 = 0 := by
      intro j hj
      rw [i3 j (by omega)]
      rcases Nat.lt_or_ge j (usedN us) with h | h
      · exfalso
        have h1 := H.num_ge_used hL (show 0 < usedN us by omega)
        have h2 := H.pw_mono (show a + n + 1 ≤ usedN us - 1 by omega)
        omega
      · exact usedN_beyond us j h
    have hu : usedN ds ≤ a + n + 1 := by
      rcases Nat.lt_or_ge (a + n + 1) (usedN ds) with h | h
      · have := usedN_top ds (by omega)
        exact absurd (hz _ (by omega)) this
      · exact h
    have h3 := H.num_lt_used i2
    have h4 := H.pw_mono hu
    rw [Int.one_mul] at i4
    omega
/-- The highest digit in which a row and the piece above it differ decides. -/
theorem seg_beyond {us ps : List Int} {a n : Nat} (hps : ps.length = n + 1) (j : Nat) (hj : n + 1 ≤ j) : ps.getD j 0 = ((us.drop a).take (n + 1)).getD j 0 := by
  rw [List.getD_eq_getElem?_getD, List.getElem?_eq_none (by omega), List.getD_eq_getElem?_getD, List.getElem?_eq_none (by rw [List.length_take]; omega)]
theorem seg_lt {us ps : List Int} {a n k : Nat} (hL : H.Limbs us) (hp : H.Limbs ps) (hps : ps.length = n + 1) (hk : k < n + 1) (h : ∀ j, k < j → j < n + 1 → ps.getD j 0 = us.getD (a + j) 0) (hlt : ps.getD k 0 < us.getD (a + k) 0) : H.num ps < H.num ((us.drop a).take (n + 1)) := by
  refine H.num_lt_at (t := k) hp ((hL.drop a).take _) (fun j hj => ?_) (by rw [getD_seg _ _ _ _ hk]; exact hlt)
  rcases Nat.lt_or_ge j (n + 1) with h' | h'
  · rw [getD_seg _ _ _ _ h']; exact h j hj h'
  · exact seg_beyond hps j h'
theorem seg_gt {us ps : List Int} {a n k : Nat} (hL : H.Limbs us) (hp : H.Limbs ps) (hps : ps.length = n + 1) (hk : k < n + 1) (h : ∀ j, k < j → j < n + 1 → ps.getD j 0 = us.getD (a + j) 0) (hlt : us.getD (a + k) 0 < ps.getD k 0) : H.num ((us.drop a).take (n + 1)) < H.num ps := by
  refine H.num_lt_at (t := k) ((hL.drop a).take _) hp (fun j hj => ?_) (by rw [getD_seg _ _ _ _ hk]; exact hlt)
  rcases Nat.lt_or_ge j (n + 1) with h' | h'
  · rw [getD_seg _ _ _ _ h']; exact (h j hj h').symm
  · exact (seg_beyond hps j h').symm
theorem seg_eq {us ps : List Int} {a n : Nat} (hps : ps.length = n + 1) (h : ∀ j, j < n + 1 → ps.getD j 0 = us.getD (a + j) 0) : H.num ps = H.num ((us.drop a).take (n + 1)) := by
  refine H.num_eq_of fun j => ?_
  rcases Nat.lt_or_ge j (n + 1) with h' | h'
  · rw [getD_seg _ _ _ _ h']; exact h j h'
  · exact seg_beyond hps j h'
theorem seg_le {us : List Int} {a n : Nat} {T : Int} (hL : H.Limbs us) (hlen : a + n + 1 ≤ us.length) (hN : H.num us < H.pw (a + n + 1)) (h : T ≤ H.num ((us.drop a).take (n + 1))) : T * H.pw a ≤ H.num us := by
  have e := H.num_seg hL hlen hN
  have h0 := H.num_nonneg (hL.take a)
  have h1 : T * H.pw a ≤ H.num ((us.drop a).take (n + 1)) * H.pw a := Int.mul_le_mul_of_nonneg_right h (Int.le_of_lt (H.pw_pos a))
  omega
theorem seg_above {us : List Int} {a n : Nat} {T : Int} (hL : H.Limbs us) (hlen : a + n + 1 ≤ us.length) (hN : H.num us < H.pw (a + n + 1)) (h : H.num ((us.drop a).take (n + 1)) < T) : H.num us < T * H.pw a := by
  have e := H.num_seg hL hlen hN
  have h0 := H.num_lt (hL.take a)
  rw [List.length_take, Nat.min_eq_left (by omega)] at h0
  have h1 : (H.num ((us.drop a).take (n + 1)) + 1) * H.pw a ≤ T * H.pw a := Int.mul_le_mul_of_nonneg_right (by omega) (Int.le_of_lt (H.pw_pos a))
  rw [Int.add_mul, Int.one_mul] at h1
  omega
theorem mul_digit {vs : List Int} {q : Int} {n : Nat} (hv : H.Limbs vs) (hl : vs.length = n) (hq : 0 ≤ q ∧ q < 4294967296) : H.num vs * q < H.pw (n + 1) := by
  have h0 := H.num_nonneg hv
  have h1 := H.num_lt hv
  rw [hl] at h1
  have hp := H.pw_pos n
  have h2 : H.num vs * q ≤ (H.pw n - 1) * 4294967295 := Int.mul_le_mul (by omega) (by omega) hq.1 (by omega)
  rw [H.pw]
  have e : (H.pw n - 1) * 4294967295 = H.pw n * 4294967295 - 4294967295 := by rw [Int.sub_mul, Int.one_mul]
  rw [e] at h2
  omega
end Go.Proofs.Ytajjhnilpdmnhaa
namespace Go.Proofs.Ytajjhnilpdmnhaa
open Go.RowKit Go.Shelf

theorem Own.far {w : World} {g b : Nat} {cs : List Int} (h : Own w b cs) (hne : b ≠ g) (i : Nat) (v : Value) : Own (w.setCell ⟨g, i, none⟩ v) b cs := by
  unfold Own at *
  rw [Below.heap_setCell _ _ _ _ hne]; exact h

set_option maxHeartbeats 2000000 in
theorem less_no (g m cu a : Nat) (us : List Int) (va : Option Addr) (n cv : Nat) (vs : List Int) (q : Int) (w : World) (ho : Own w g us) (hL : H.Limbs us) (hm : us.length = m) (hv : Sx g w va n vs) (hvL : H.Limbs vs) (hq : 0 ≤ q ∧ q < 4294967296) (hlen : a + n + 1 ≤ m) (hb : m ≤ 8000000000000) (hN : H.num us < H.pw (a + n + 1)) (hcase : H.num us < H.num vs * q * H.pw a) :
    Calls Try.prog 81 #[.slice (some ⟨g, 0, none⟩) m cu, .int .i64 a, .slice va n cv, .int .u64 q] w fun e w' => e = .returned (.bool false) ∧ Own w' g us ∧ Below w.heap.size w w' := by
  have hg : g < w.heap.size := by
    unfold Own at ho
    rcases Nat.lt_or_ge g w.heap.size with h' | h'
    · exact h'
    · rw [Array.getElem?_eq_none h'] at ho; cases ho
  have hvl := hv.1.1
  have TT := rdtimes_any va n cv vs q (n + 1) w hv.1 hvL (by omega) hq (by omega) (mul_digit hvL hvl hq)
  rw [show ((n + 1 : Nat) : Int) = (n : Int) + 1 by omega] at TT
  have HO : Hid (Own w g us) := ho
  have HN : Hid (H.num us < H.pw (a + n + 1)) := hN
  have HKS : Hid (H.num us < H.num vs * q * H.pw a) := hcase
  have HM : Hid (us.length = m) := hm
  have HVS : Hid (Sx g w va n vs) := hv
  have hlen2 : (a : Int) + n < m := by omega
  clear ho hN hcase hm hv
  go_enter Try.func81, Try.ntmps81
  go_wp2_with fail
  refine TT.mono ?_
  rintro e w1 ⟨ps, rfl, hop, hpL, hpl, hpn, b1⟩
  clear TT
  have HO1 : Hid (Own w1 g us) := (b1.block g hg).trans HO.out
  have HOP : Hid (Own w1 w.heap.size ps) := hop
  have HPN : Hid (H.num ps = H.num vs * q) := hpn
  have HPL : Hid (ps.length = n + 1) := hpl
  have hgp : g ≠ w.heap.size := by omega
  clear hpn hpl hop
  go_wp2_with fail
  go_loopw [10] (fun i wr => ∃ t : Nat, t ≤ n + 1 ∧ i = .int .i64 ((t : Int) - 1) ∧ Hid (∀ j, t ≤ j → j < n + 1 → ps.getD j 0 = us.getD (a + j) 0) ∧ ∃ d, wr = w1.drewN d) (fun i _ => (intOf i + 1).toNat)
  case atStart => exact ⟨n + 1, Nat.le_refl _, by rw [show (((n + 1 : Nat) : Int) - 1) = (n : Int) by omega], fun j h1 h2 => absurd h1 (by omega), 0, rfl⟩
  case round =>
    obtain ⟨t, ht, rfl, hI, d, rfl⟩ := hrel
    by_cases h0 : t = 0
    · subst h0
      have hseq := seg_eq (us := us) (a := a) HPL.out (fun j hj => hI.out j (by omega) hj)
      exfalso
      have h1 := seg_le hL (by rw [HM.out]; exact hlen) HN.out (Int.le_of_eq hseq)
      rw [HPN.out] at h1
      have h2 := HKS.out
      omega
    · obtain ⟨k, rfl⟩ : ∃ k, t = k + 1 := ⟨t - 1, by omega⟩
      have hcp := HOP.out.cell k (by rw [HPL.out]; omega)
      have hcx := HO1.out.cell (a + k) (by rw [HM.out]; omega)
      have m0 : IntKind.i64.wrap ((a : Int) + k) = a + k := by rw [IntKind.wrap_i64]; omega
      have m4 : ((a : Int) + k).toNat = a + k := by omega
      have m5 : (a : Int) + k < m := by omega
      have m6 : (k : Int) < n + 1 := by omega
      obtain ⟨p, hp⟩ : ∃ p, ps.getD k 0 = p := ⟨_, rfl⟩
      obtain ⟨x, hx⟩ : ∃ x, us.getD (a + k) 0 = x := ⟨_, rfl⟩
      rw [hp] at hcp
      rw [hx] at hcx
      have HP : Hid (ps.getD k 0 = p) := hp
      have HX : Hid (us.getD (a + k) 0 = x) := hx
      have HJ : Hid (∀ j, k < j → j < n + 1 → ps.getD j 0 = us.getD (a + j) 0) := fun j h1 h2 => hI.out j (by omega) h2
      rw [show (((k + 1 : Nat) : Int) - 1) = (k : Int) by omega]
      clear hp hx hI h0
      by_cases hlt : p < x
      · have hsl := seg_lt hL hpL HPL.out (show k < n + 1 by omega) HJ.out (by rw [HP.out, HX.out]; exact hlt)
        exfalso
        have h1 := seg_le hL (by rw [HM.out]; exact hlen) HN.out (Int.le_of_lt hsl)
        rw [HPN.out] at h1
        have h2 := HKS.out
        omega
      · by_cases hgt : x < p
        · have hsg := seg_gt hL hpL HPL.out (show k < n + 1 by omega) HJ.out (by rw [HP.out, HX.out]; exact hgt)
          clear hsg
          go_wp2_with fail
          go_quiet (fail)
          go_wp2_with fail
          go_quiet (fail)
          go_wp2_with fail
          go_ret
          exact ⟨rfl, HO1.out, below_drewN (below_drewN (below_drewN b1 _) _) _⟩
        · have HXY : Hid (p = x) := (by omega : p = x)
          go_wp2_with fail
          go_quiet (fail)
          go_wp2_with fail
          go_quiet (fail)
          go_wp2_with fail
          go_roundw
          case rel =>
            refine ⟨k, by omega, rfl, ?_, _, rfl⟩
            intro j h1 h2
            by_cases hj : j = k
            · rw [hj, HP.out, HX.out, HXY.out]
            · exact HJ.out j (by omega) h2
          case measure => simp [intOf]

set_option maxHeartbeats 2000000 in
theorem less_yes (g m cu a : Nat) (us : List Int) (va : Option Addr) (n cv : Nat) (vs : List Int) (q : Int) (w : World) (ho : Own w g us) (hL : H.Limbs us) (hm : us.length = m) (hv : Sx g w va n vs) (hvL : H.Limbs vs) (hq : 0 ≤ q ∧ q < 4294967296) (hlen : a + n + 1 ≤ m) (hb : m ≤ 8000000000000) (hN : H.num us < H.pw (a + n + 1)) (hcase : H.num vs * q * H.pw a ≤ H.num us) :
    Calls Try.prog 81 #[.slice (some ⟨g, 0, none⟩) m cu, .int .i64 a, .slice va n cv, .int .u64 q] w fun e w' => e = .returned (.bool true) ∧ ∃ ds, Own w' g ds ∧ H.Limbs ds ∧ ds.length = m ∧ H.num ds = H.num us - H.num vs * q * H.pw a ∧ Near g w w' := by
  have hg : g < w.heap.size := by
    unfold Own at ho
    rcases Nat.lt_or_ge g w.heap.size with h' | h'
    · exact h'
    · rw [Array.getElem?_eq_none h'] at ho; cases ho
  have hvl := hv.1.1
  have TT := rdtimes_any va n cv vs q (n + 1) w hv.1 hvL (by omega) hq (by omega) (mul_digit hvL hvl hq)
  rw [show ((n + 1 : Nat) : Int) = (n : Int) + 1 by omega] at TT
  have HO : Hid (Own w g us) := ho
  have HN : Hid (H.num us < H.pw (a + n + 1)) := hN
  have HKS : Hid (H.num vs * q * H.pw a ≤ H.num us) := hcase
  have HM : Hid (us.length = m) := hm
  have HVS : Hid (Sx g w va n vs) := hv
  have hlen2 : (a : Int) + n < m := by omega
  clear ho hN hcase hm hv
  go_enter Try.func81, Try.ntmps81
  go_wp2_with fail
  refine TT.mono ?_
  rintro e w1 ⟨ps, rfl, hop, hpL, hpl, hpn, b1⟩
  clear TT
  have HO1 : Hid (Own w1 g us) := (b1.block g hg).trans HO.out
  have HOP : Hid (Own w1 w.heap.size ps) := hop
  have HPN : Hid (H.num ps = H.num vs * q) := hpn
  have HPL : Hid (ps.length = n + 1) := hpl
  have hgp : g ≠ w.heap.size := by omega
  clear hpn hpl hop
  go_wp2_with fail
  go_loopw [10] (fun i wr => ∃ t : Nat, t ≤ n + 1 ∧ i = .int .i64 ((t : Int) - 1) ∧ Hid (∀ j, t ≤ j → j < n + 1 → ps.getD j 0 = us.getD (a + j) 0) ∧ ∃ d, wr = w1.drewN d) (fun i _ => (intOf i + 1).toNat)
  case atStart => exact ⟨n + 1, Nat.le_refl _, by rw [show (((n + 1 : Nat) : Int) - 1) = (n : Int) by omega], fun j h1 h2 => absurd h1 (by omega), 0, rfl⟩
  case round =>
    obtain ⟨t, ht, rfl, hI, d, rfl⟩ := hrel
    by_cases h0 : t = 0
    · subst h0
      have hseq := seg_eq (us := us) (a := a) HPL.out (fun j hj => hI.out j (by omega) hj)
      have HO2 : Hid (Own (w1.drewN d) g us) := HO1.out
      have HOP2 : Hid (Own (w1.drewN d) w.heap.size ps) := HOP.out
      have HNR : Hid (Near g w (w1.drewN d)) := (Near.of b1 (Nat.le_of_lt hg)).drewN d
      have HLE : Hid (H.num ps * H.pw a ≤ H.num us) := seg_le hL (by rw [HM.out]; exact hlen) HN.out (Int.le_of_eq hseq)
      clear hseq hI
      go_wp2_with fail
      generalize World.drewN w1 d = w2 at *
      go_loopw [11, 12] (fun cc ii wr => ∃ (i : Nat) (c : Int) (ds : List Int), ii = .int .i64 i ∧ cc = .int .u64 c ∧ i ≤ n + 1 ∧ Hid (LsInv us ps ds a i c) ∧ Hid (Own wr g ds) ∧ Hid (Own wr w.heap.size ps) ∧ Hid (Near g w wr)) (fun _ ii _ => n + 1 - (intOf ii).toNat)
      case atStart => exact ⟨0, 0, us, rfl, rfl, by omega, ls_start hL, HO2, HOP2, HNR⟩
      case round =>
        clear HO2 HOP2 HNR
        obtain ⟨i, c, ds, rfl, rfl, hi, hI, hO, hP, hR⟩ := hrel
        by_cases hin : i ≤ n
        · have hstep := ls_step hpL hI.out (by rw [HM.out]; omega)
          have hcx := hO.out.cell (a + i) (by rw [hI.out.1, HM.out]; omega)
          have hfx := hO.out.frozen (a + i)
          have hcp := hP.out.cell i (by rw [HPL.out]; omega)
          rw [hI.out.2.2.1 (a + i) (Nat.le_refl _)] at hcx
          have bx := hL.getD (a + i)
          have bp := hpL.getD i
          have hc0 := hI.out.2.2.2.2.1
          have hc1 := hI.out.2.2.2.2.2
          have n0 : IntKind.i64.wrap ((a : Int) + i) = a + i := by rw [IntKind.wrap_i64]; omega
          have n4 : ((a : Int) + i).toNat = a + i := by omega
          have n5 : (a : Int) + i < m := by omega
          have n6 : (i : Int) < n + 1 := by omega
          obtain ⟨y, hy⟩ : ∃ y, us.getD (a + i) 0 = y := ⟨_, rfl⟩
          obtain ⟨r, hr⟩ : ∃ r, ps.getD i 0 = r := ⟨_, rfl⟩
          rw [hy] at hcx bx hstep
          rw [hr] at hcp bp hstep
          obtain ⟨y1, y2⟩ := bx
          obtain ⟨r1, r2⟩ := bp
          obtain ⟨s, hs⟩ : ∃ s, 4294967296 + y - r - c = s := ⟨_, rfl⟩
          rw [hs] at hstep
          have s1 : 0 ≤ s := by omega
          have s2 : s < 8589934592 := by omega
          have ew1 : IntKind.u64.wrap (4294967296 + y) = 4294967296 + y := by rw [IntKind.wrap_u64]; omega
          have ew2 : IntKind.u64.wrap (4294967296 + y - r) = 4294967296 + y - r := by rw [IntKind.wrap_u64]; omega
          have ew3 : IntKind.u64.wrap (4294967296 + y - r - c) = s := by rw [hs, IntKind.wrap_u64]; omega
          have HS : Hid (LsInv us ps (ds.set (a + i) (s % 4294967296)) a (i + 1) (1 - s / 4294967296)) := hstep
          have HHS : Hid (4294967296 + y - r - c = s) := hs
          clear hstep hy hr hs
          go_wp2_with fail
          go_quiet (fail)
          clear ew1 ew2 ew3
          go_wp2_with fail
          go_roundw
          case rel => exact ⟨i + 1, _, _, by go_num, rfl, by omega, HS, Own.set (w := wr.drewN nq) hO.out (a + i) _, Own.far (w := wr.drewN nq) hP.out hgp.symm (a + i) _, Near.set (hR.out.drewN nq) (a + i) _⟩
          case measure => simp [intOf]; omega
        · obtain rfl : i = n + 1 := by omega
          have HE : Hid (H.num ds = H.num us - H.num vs * q * H.pw a) := by
            have := ls_end hL HN.out HPL.out hI.out HLE.out
            rw [HPN.out] at this; exact this
          obtain ⟨i1, i2, -⟩ := hI.out
          have HI1 : Hid (ds.length = us.length) := i1
          have q1 : ¬ (((n + 1 : Nat) : Int)) ≤ n := by omega
          clear i1
          go_wp2_with fail
          go_ret
          exact ⟨rfl, ds, hO.out, i2, by rw [HI1.out, HM.out], HE.out, hR.out⟩
    · obtain ⟨k, rfl⟩ : ∃ k, t = k + 1 := ⟨t - 1, by omega⟩
      have hcp := HOP.out.cell k (by rw [HPL.out]; omega)
      have hcx := HO1.out.cell (a + k) (by rw [HM.out]; omega)
      have m0 : IntKind.i64.wrap ((a : Int) + k) = a + k := by rw [IntKind.wrap_i64]; omega
      have m4 : ((a : Int) + k).toNat = a + k := by omega
      have m5 : (a : Int) + k < m := by omega
      have m6 : (k : Int) < n + 1 := by omega
      obtain ⟨p, hp⟩ : ∃ p, ps.getD k 0 = p := ⟨_, rfl⟩
      obtain ⟨x, hx⟩ : ∃ x, us.getD (a + k) 0 = x := ⟨_, rfl⟩
      rw [hp] at hcp
      rw [hx] at hcx
      have HP : Hid (ps.getD k 0 = p) := hp
      have HX : Hid (us.getD (a + k) 0 = x) := hx
      have HJ : Hid (∀ j, k < j → j < n + 1 → ps.getD j 0 = us.getD (a + j) 0) := fun j h1 h2 => hI.out j (by omega) h2
      rw [show (((k + 1 : Nat) : Int) - 1) = (k : Int) by omega]
      clear hp hx hI h0
      by_cases hlt : p < x
      · have hsl := seg_lt hL hpL HPL.out (show k < n + 1 by omega) HJ.out (by rw [HP.out, HX.out]; exact hlt)
        go_wp2_with fail
        go_quiet (fail)
        have HO2 : Hid (Own ((w1.drewN d).drewN nq) g us) := HO1.out
        have HOP2 : Hid (Own ((w1.drewN d).drewN nq) w.heap.size ps) := HOP.out
        have HNR : Hid (Near g w ((w1.drewN d).drewN nq)) := ((Near.of b1 (Nat.le_of_lt hg)).drewN d).drewN nq
        have HLE : Hid (H.num ps * H.pw a ≤ H.num us) := seg_le hL (by rw [HM.out]; exact hlen) HN.out (Int.le_of_lt hsl)
        clear hsl HJ HP HX hcp hcx m0 m4 m5 m6
        go_wp2_with fail
        generalize World.drewN (World.drewN w1 d) nq = w2 at *
        go_loopw [11, 12] (fun cc ii wr => ∃ (i : Nat) (c : Int) (ds : List Int), ii = .int .i64 i ∧ cc = .int .u64 c ∧ i ≤ n + 1 ∧ Hid (LsInv us ps ds a i c) ∧ Hid (Own wr g ds) ∧ Hid (Own wr w.heap.size ps) ∧ Hid (Near g w wr)) (fun _ ii _ => n + 1 - (intOf ii).toNat)
        case atStart => exact ⟨0, 0, us, rfl, rfl, by omega, ls_start hL, HO2, HOP2, HNR⟩
        case round =>
          clear HO2 HOP2 HNR
          obtain ⟨i, c, ds, rfl, rfl, hi, hI, hO, hP, hR⟩ := hrel
          by_cases hin : i ≤ n
          · have hstep := ls_step hpL hI.out (by rw [HM.out]; omega)
            have hcx := hO.out.cell (a + i) (by rw [hI.out.1, HM.out]; omega)
            have hfx := hO.out.frozen (a + i)
            have hcp := hP.out.cell i (by rw [HPL.out]; omega)
            rw [hI.out.2.2.1 (a + i) (Nat.le_refl _)] at hcx
            have bx := hL.getD (a + i)
            have bp := hpL.getD i
            have hc0 := hI.out.2.2.2.2.1
            have hc1 := hI.out.2.2.2.2.2
            have n0 : IntKind.i64.wrap ((a : Int) + i) = a + i := by rw [IntKind.wrap_i64]; omega
            have n4 : ((a : Int) + i).toNat = a + i := by omega
            have n5 : (a : Int) + i < m := by omega
            have n6 : (i : Int) < n + 1 := by omega
            obtain ⟨y, hy⟩ : ∃ y, us.getD (a + i) 0 = y := ⟨_, rfl⟩
            obtain ⟨r, hr⟩ : ∃ r, ps.getD i 0 = r := ⟨_, rfl⟩
            rw [hy] at hcx bx hstep
            rw [hr] at hcp bp hstep
            obtain ⟨y1, y2⟩ := bx
            obtain ⟨r1, r2⟩ := bp
            obtain ⟨s, hs⟩ : ∃ s, 4294967296 + y - r - c = s := ⟨_, rfl⟩
            rw [hs] at hstep
            have s1 : 0 ≤ s := by omega
            have s2 : s < 8589934592 := by omega
            have ew1 : IntKind.u64.wrap (4294967296 + y) = 4294967296 + y := by rw [IntKind.wrap_u64]; omega
            have ew2 : IntKind.u64.wrap (4294967296 + y - r) = 4294967296 + y - r := by rw [IntKind.wrap_u64]; omega
            have ew3 : IntKind.u64.wrap (4294967296 + y - r - c) = s := by rw [hs, IntKind.wrap_u64]; omega
            have HS : Hid (LsInv us ps (ds.set (a + i) (s % 4294967296)) a (i + 1) (1 - s / 4294967296)) := hstep
            have HHS : Hid (4294967296 + y - r - c = s) := hs
            clear hstep hy hr hs
            go_wp2_with fail
            go_quiet (fail)
            clear ew1 ew2 ew3
            go_wp2_with fail
            go_roundw
            case rel => exact ⟨i + 1, _, _, by go_num, rfl, by omega, HS, Own.set (w := wr.drewN nq) hO.out (a + i) _, Own.far (w := wr.drewN nq) hP.out hgp.symm (a + i) _, Near.set (hR.out.drewN nq) (a + i) _⟩
            case measure => simp [intOf]; omega
          · obtain rfl : i = n + 1 := by omega
            have HE : Hid (H.num ds = H.num us - H.num vs * q * H.pw a) := by
              have := ls_end hL HN.out HPL.out hI.out HLE.out
              rw [HPN.out] at this; exact this
            obtain ⟨i1, i2, -⟩ := hI.out
            have HI1 : Hid (ds.length = us.length) := i1
            have q1 : ¬ (((n + 1 : Nat) : Int)) ≤ n := by omega
            clear i1
            go_wp2_with fail
            go_ret
            exact ⟨rfl, ds, hO.out, i2, by rw [HI1.out, HM.out], HE.out, hR.out⟩
      · by_cases hgt : x < p
        · have hsg := seg_gt hL hpL HPL.out (show k < n + 1 by omega) HJ.out (by rw [HP.out, HX.out]; exact hgt)
          exfalso
          have h1 := seg_above hL (by rw [HM.out]; exact hlen) HN.out hsg
          rw [HPN.out] at h1
          have h2 := HKS.out
          omega
        · have HXY : Hid (p = x) := (by omega : p = x)
          go_wp2_with fail
          go_quiet (fail)
          go_wp2_with fail
          go_quiet (fail)
          go_wp2_with fail
          go_roundw
          case rel =>
            refine ⟨k, by omega, rfl, ?_, _, rfl⟩
            intro j h1 h2
            by_cases hj : j = k
            · rw [hj, HP.out, HX.out, HXY.out]
            · exact HJ.out j (by omega) h2
          case measure => simp [intOf]
end Go.Proofs.Ytajjhnilpdmnhaa
namespace Go.Proofs.Ytajjhnilpdmnhaa
open Go.RowKit Go.Shelf

/-- The factor by which both are made greater. -/
theorem scale_facts {y s : Int} (h0 : 0 < y) (h1 : y < 4294967296) (hs : s = 4294967296 / (y + 1)) : 1 ≤ s ∧ s < 4294967296 ∧ s * (y + 1) ≤ 4294967296 := by
  have hm := Int.mul_ediv_add_emod 4294967296 (y + 1)
  have hr := Int.emod_nonneg 4294967296 (show y + 1 ≠ 0 by omega)
  have hl := Int.emod_lt_of_pos 4294967296 (show 0 < y + 1 by omega)
  rw [← hs] at hm
  have e : (y + 1) * s = s * (y + 1) := Int.mul_comm _ _
  have h2 : 1 ≤ s := by
    rcases Int.lt_or_le s 1 with h | h
    · have : s * (y + 1) ≤ 0 * (y + 1) := Int.mul_le_mul_of_nonneg_right (by omega) (by omega)
      omega
    · exact h
  have h3 : s * 2 ≤ s * (y + 1) := Int.mul_le_mul_of_nonneg_left (by omega) (by omega)
  exact ⟨h2, by omega, by omega⟩
theorem Htop (ys : List Int) (n : Nat) (h : ys.length = n + 1) : H.num ys = H.num (ys.take n) + ys.getD n 0 * H.pw n := by
  have := H.num_take_succ ys n
  rwa [List.take_of_length_le (by omega)] at this
theorem Htake_lt {cs : List Int} (h : H.Limbs cs) (n : Nat) : H.num (cs.take n) < H.pw n := by
  have h1 := H.num_lt (h.take n)
  have h2 := H.pw_mono (show (cs.take n).length ≤ n from List.length_take_le _ _)
  omega
theorem scaled_fits {ys : List Int} {n : Nat} {s : Int} (hy : H.Limbs ys) (hl : ys.length = n + 1) (hs0 : 1 ≤ s) (hs : s * (ys.getD n 0 + 1) ≤ 4294967296) : H.num ys * s < H.pw (n + 1) := by
  have e := Htop ys n hl
  have h1 := Htake_lt hy n
  have hp := H.pw_pos n
  have h2 : H.num ys < (ys.getD n 0 + 1) * H.pw n := by rw [Int.add_mul, Int.one_mul]; omega
  have h3 : H.num ys * s < (ys.getD n 0 + 1) * H.pw n * s := Int.mul_lt_mul_of_pos_right h2 (by omega)
  have h4 : (ys.getD n 0 + 1) * H.pw n * s = s * (ys.getD n 0 + 1) * H.pw n := by grind
  have h5 : s * (ys.getD n 0 + 1) * H.pw n ≤ 4294967296 * H.pw n := Int.mul_le_mul_of_nonneg_right hs (Int.le_of_lt hp)
  rw [H.pw]; omega
/-- What holds ahead of the place t - 1. -/
def LgInv (X V : Int) (us os : List Int) (l k t : Nat) : Prop :=
  us.length = l ∧ H.Limbs us ∧ os.length = k ∧ H.Limbs os ∧ H.num us + H.num (os.drop t) * H.pw t * V = X ∧ H.num us < V * H.pw t
theorem lg_start {xs ys us vs : List Int} {la n k : Nat} {s : Int} (hx : H.Limbs xs) (hy : H.Limbs ys) (hxl : xs.length = la) (hyu : usedN ys = n) (hn : 0 < n) (hk : k = la - n + 1) (hnl : n ≤ la) (hs0 : 1 ≤ s)
    (hu : H.num us = H.num xs * s) (hv : H.num vs = H.num ys * s) (hul : us.length = la + 1) (huL : H.Limbs us) : LgInv (H.num xs * s) (H.num vs) us (List.replicate k 0) (la + 1) k k := by
  have e2 : (List.replicate k (0 : Int)).drop k = [] := List.drop_eq_nil_of_le (by simp)
  refine ⟨hul, huL, by simp, H.Limbs.zeros _, by rw [e2]; simp [H.num, hu], ?_⟩
  have h1 := H.num_lt hx
  rw [hxl] at h1
  have h2 := H.num_ge_used hy (by omega)
  rw [hyu] at h2
  have e3 : H.pw la = H.pw (n - 1) * H.pw k := by rw [← H.pw_add]; congr 1; omega
  have hp := H.pw_pos k
  have h3 : H.pw (n - 1) * H.pw k ≤ H.num ys * H.pw k := Int.mul_le_mul_of_nonneg_right h2 (Int.le_of_lt hp)
  have h4 : H.num xs * s < H.num ys * H.pw k * s := Int.mul_lt_mul_of_pos_right (by omega) (by omega)
  rw [hu, hv]
  have e4 : H.num ys * s * H.pw k = H.num ys * H.pw k * s := Int.mul_right_comm _ _ _
  omega
/-- The place's digit, and that it is not above the guess. -/
theorem lg_digit {N V P : Int} (hN : 0 ≤ N) (hV : 0 < V) (hP : 0 < P) (hlt : N < V * (4294967296 * P)) :
    ∃ Q : Int, 0 ≤ Q ∧ Q < 4294967296 ∧ V * Q * P ≤ N ∧ N < V * (Q + 1) * P ∧ (∀ q : Int, V * q * P ≤ N → q ≤ Q) := by
  have hVP : 0 < V * P := Int.mul_pos hV hP
  have hm := Int.mul_ediv_add_emod N (V * P)
  have hr := Int.emod_nonneg N (show V * P ≠ 0 by omega)
  have hl := Int.emod_lt_of_pos N hVP
  have e1 : ∀ q : Int, V * q * P = V * P * q := fun q => by grind
  refine ⟨N / (V * P), Int.ediv_nonneg hN (Int.le_of_lt hVP), ?_, ?_, ?_, ?_⟩
  · apply Int.ediv_lt_of_lt_mul hVP
    have : 4294967296 * (V * P) = V * (4294967296 * P) := by grind
    omega
  · rw [e1]; omega
  · rw [e1, Int.mul_add, Int.mul_one]; omega
  · intro q hq
    rw [e1] at hq
    apply Int.le_ediv_of_mul_le hVP
    rw [Int.mul_comm]; exact hq
theorem lg_guess {us vs : List Int} {k n : Nat} {Q : Int} (hL : H.Limbs us) (hv : H.Limbs vs) (hvl : vs.length = n + 1) (hlen : k + n + 2 ≤ us.length) (hN : H.num us < H.pw (k + (n + 1) + 1)) (hQ0 : 0 ≤ Q) (hQ : H.num vs * Q * H.pw k ≤ H.num us) (htop : 0 < vs.getD n 0) :
    Q ≤ (us.getD (k + (n + 1)) 0 * 4294967296 + us.getD (k + (n + 1) - 1) 0) / vs.getD n 0 := by
  have e := H.num_seg (us := us) (a := k + n) (n := 1) hL (by omega) (by rw [show k + n + 1 + 1 = k + (n + 1) + 1 by omega]; exact hN)
  have h0 := Htake_lt hL (k + n)
  have e2 : H.num ((us.drop (k + n)).take (1 + 1)) = us.getD (k + (n + 1)) 0 * 4294967296 + us.getD (k + (n + 1) - 1) 0 := by
    have e3 := H.num_take_succ (us.drop (k + n)) 1
    have e4 := H.num_take_succ (us.drop (k + n)) 0
    rw [e3, e4, getD_drop, getD_drop]
    simp only [List.take_zero, H.num, H.pw]
    rw [show k + n + 0 = k + (n + 1) - 1 by omega, show k + n + 1 = k + (n + 1) by omega]
    omega
  rw [e2] at e
  obtain ⟨T, hT⟩ : ∃ T, us.getD (k + (n + 1)) 0 * 4294967296 + us.getD (k + (n + 1) - 1) 0 = T := ⟨_, rfl⟩
  rw [hT] at e ⊢
  have e5 := Htop vs n hvl
  have h5 := H.num_nonneg (hv.take n)
  have hpk := H.pw_pos k
  have hpn := H.pw_pos n
  have h6 : vs.getD n 0 * H.pw n * (Q * H.pw k) ≤ H.num vs * (Q * H.pw k) := Int.mul_le_mul_of_nonneg_right (by omega) (Int.mul_nonneg hQ0 (Int.le_of_lt hpk))
  have e6 : vs.getD n 0 * H.pw n * (Q * H.pw k) = Q * vs.getD n 0 * H.pw (k + n) := by rw [H.pw_add]; grind
  have e7 : H.num vs * (Q * H.pw k) = H.num vs * Q * H.pw k := by grind
  have h7 : Q * vs.getD n 0 * H.pw (k + n) < (T + 1) * H.pw (k + n) := by rw [Int.add_mul, Int.one_mul]; omega
  have h8 := Int.lt_of_mul_lt_mul_right h7 (Int.le_of_lt (H.pw_pos (k + n)))
  apply Int.le_ediv_of_mul_le htop
  omega
theorem lg_step {X V : Int} {us ds os : List Int} {l m k : Nat} {Q : Int} (I : LgInv X V us os l m (k + 1)) (hk : k < m) (hdl : ds.length = l) (hdL : H.Limbs ds) (hd : H.num ds = H.num us - V * Q * H.pw k) (hQ : 0 ≤ Q ∧ Q < 4294967296) (hlt : H.num us < V * (Q + 1) * H.pw k) :
    LgInv X V ds (os.set k Q) l m k := by
  obtain ⟨i1, i2, i3, i4, i5, i6⟩ := I
  refine ⟨hdl, hdL, by rw [List.length_set]; exact i3, i4.set k hQ, ?_, ?_⟩
  · rw [Hnum_set_drop _ _ _ (by omega), hd, ← i5, H.pw]
    grind
  · have : V * (Q + 1) * H.pw k = V * Q * H.pw k + V * H.pw k := by grind
    omega
theorem lg_end {x y s q r : Int} (hs : 1 ≤ s) (h1 : r + q * 1 * (y * s) = x * s) (h2 : r < y * s * 1) (h0 : 0 ≤ r) : x = q * y + r / s ∧ r / s < y ∧ 0 ≤ r / s ∧ r % s = 0 := by
  have e : r = (x - q * y) * s := by grind
  have e2 : r / s = x - q * y := by rw [e, Int.mul_ediv_cancel _ (by omega)]
  rw [e2]
  refine ⟨by omega, ?_, ?_, by rw [e]; exact Int.mul_emod_left _ _⟩
  · rw [e, Int.mul_one] at h2; exact Int.lt_of_mul_lt_mul_right h2 (by omega)
  · rcases Int.lt_or_le (x - q * y) 0 with h | h
    · have : (x - q * y) * s < 0 := Int.mul_neg_of_neg_of_pos h (by omega)
      omega
    · exact h
end Go.Proofs.Ytajjhnilpdmnhaa
namespace Go.Proofs.Ytajjhnilpdmnhaa
open Go.RowKit Go.Shelf
set_option linter.unusedVariables false

theorem Own.aft {w w' : World} {b : Nat} {cs : List Int} (h : Own w b cs) (hb : Below w.heap.size w w') : Own w' b cs := by
  have hlt : b < w.heap.size := by
    unfold Own at h
    rcases Nat.lt_or_ge b w.heap.size with h' | h'
    · exact h'
    · rw [Array.getElem?_eq_none h'] at h; cases h
  unfold Own at *
  rw [hb.block b hlt]; exact h
theorem Own.blt {w : World} {b : Nat} {cs : List Int} (h : Own w b cs) : b < w.heap.size := by
  unfold Own at h
  rcases Nat.lt_or_ge b w.heap.size with h' | h'
  · exact h'
  · rw [Array.getElem?_eq_none h'] at h; cases h
theorem Own.sx {w : World} {b g n : Nat} {cs : List Int} (h : Own w b cs) (hL : H.Limbs cs) (hl : cs.length = n) (hne : b ≠ g) : Sx g w (some ⟨b, 0, none⟩) n cs :=
  ⟨by rw [← hl]; exact h.sl hL.up, fun _ p hp => by cases hp; exact hne⟩

set_option maxHeartbeats 4000000 in
theorem rlongd_any (a b : Option Addr) (la ca n cb : Nat) (xs ys : List Int) (w : World) (ha : Sl w a la xs) (hb : Sl w b (n + 1) ys) (hx : H.Limbs xs) (hy : H.Limbs ys) (uy : usedN ys = n + 1) (hnl : n + 1 ≤ la) (h1 : la ≤ 4000000000000) :
    Calls Try.prog 61 #[.slice a la ca, .slice b (n + 1) cb] w fun e w' =>
      ∃ a1 m1 c1 qs a2 m2 c2 rs, e = .returned (.tuple #[.slice a1 m1 c1, .slice a2 m2 c2]) ∧ Sl w' a1 m1 qs ∧ H.Limbs qs ∧ m1 ≤ la ∧ Sl w' a2 m2 rs ∧ H.Limbs rs ∧ m2 ≤ la + 1 ∧ H.num xs = H.num qs * H.num ys + H.num rs ∧ 0 ≤ H.num rs ∧ H.num rs < H.num ys ∧ Below w.heap.size w w' := by
  have hza := ha.1; have hzb := hb.1
  have hyt := hy.getD n
  have hyt0 : ys.getD n 0 ≠ 0 := by have := usedN_top ys (by omega); rwa [uy, Nat.add_sub_cancel] at this
  obtain ⟨bb, ob, rfl, hcb⟩ := hb.2.2 (by omega)
  have hcy := hcb n (by omega)
  obtain ⟨y, hyy⟩ : ∃ y, ys.getD n 0 = y := ⟨_, rfl⟩
  rw [hyy] at hcy hyt hyt0
  obtain ⟨yt1, yt2⟩ := hyt
  have y0 : 0 < y := by omega
  obtain ⟨s, hs⟩ : ∃ s, 4294967296 / (y + 1) = s := ⟨_, rfl⟩
  obtain ⟨s1, s2, s3⟩ := scale_facts y0 yt2 hs.symm
  have gy : (y + 1 == 0) = false := by simp; omega
  have TX := rdtimes_any a la ca xs s (la + 1) w ha hx (by omega) ⟨by omega, s2⟩ (by omega) (mul_digit hx hza ⟨by omega, s2⟩)
  rw [show ((la + 1 : Nat) : Int) = (la : Int) + 1 by omega] at TX
  have HTY : Hid (∀ W, Below w.heap.size w W → Calls Try.prog 80 #[.slice (some ⟨bb, ob, none⟩) (n + 1) cb, .int .u64 s, .int .i64 ((n : Int) + 1)] W fun e w' => ∃ ds, e = .returned (.slice (some ⟨W.heap.size, 0, none⟩) (n + 1) (n + 1)) ∧ Own w' W.heap.size ds ∧ H.Limbs ds ∧ ds.length = n + 1 ∧ H.num ds = H.num ys * s ∧ Below W.heap.size W w') := by
    intro W B
    have T := rdtimes_any (some ⟨bb, ob, none⟩) (n + 1) cb ys s (n + 1) W (hb.below B (Nat.le_refl _)) hy (by omega) ⟨by omega, s2⟩ (Nat.le_refl _) (scaled_fits hy hzb s1 (by rw [hyy]; exact s3))
    rw [show ((n + 1 : Nat) : Int) = (n : Int) + 1 by omega] at T
    exact T
  have hmk := make_row (la - (n + 1) + 1) (by omega)
  have ek : ((la - (n + 1) + 1 : Nat) : Int) = (la : Int) - (n + 1) + 1 := by omega
  rw [ek] at hmk
  have HYN : Hid (H.pw n ≤ H.num ys) := by
    have := H.num_ge_used hy (by omega)
    rwa [uy, Nat.add_sub_cancel] at this
  have HST : Hid (∀ us vs, H.num us = H.num xs * s → H.num vs = H.num ys * s → us.length = la + 1 → H.Limbs us → LgInv (H.num xs * s) (H.num vs) us (List.replicate (la - (n + 1) + 1) 0) (la + 1) (la - (n + 1) + 1) (la - (n + 1) + 1)) :=
    fun us vs e1 e2 e3 e4 => lg_start hx hy hza uy (by omega) rfl hnl s1 e1 e2 e3 e4
  obtain ⟨K, hK⟩ : ∃ K, la - (n + 1) + 1 = K := ⟨_, rfl⟩
  have eK : (la : Int) - (n + 1) + 1 = K := by omega
  have eK2 : (la : Int) - (n + 1) = (K : Int) - 1 := by omega
  have hKla : K ≤ la := by omega
  have hKn : K + n = la := by omega
  rw [hK] at hmk HST
  rw [eK] at hmk
  have EYY : Hid (ys.getD n 0 = y) := hyy
  have nn : ((n : Int) + 1 - 1).toNat = n := by omega
  clear hK ek ha hb hcb hyy
  go_enter Try.func61, Try.ntmps61
  go_wp2_with fail
  refine TX.mono ?_
  rintro e w1 ⟨us0, rfl, hou, huL, hul, hun, b1⟩
  clear TX
  go_wp2_with fail
  refine (HTY.out w1 b1).mono ?_
  rintro e w2 ⟨vs, rfl, hov, hvL, hvl, hvn, b2⟩
  have LT1 := hou.blt
  have LT2 := hov.blt
  replace hou := hou.aft b2
  go_wp2_with fail
  clear hmk
  refine ent1 w2 _ _ (Q := fun W => Code.wp Try.prog _ _ _ W) ?_
  intro w3 b3 hs3 V3
  have O3 : Own w3 w2.heap.size (List.replicate K 0) := V3
  replace hou := hou.aft b3
  replace hov := hov.aft b3
  have HI0 : Hid (LgInv (H.num xs * s) (H.num vs) us0 (List.replicate K 0) (la + 1) K K) := HST.out us0 vs hun hvn hul huL
  have hV0 : H.pw n ≤ H.num vs := by
    rw [hvn]
    have h5 := HYN.out
    have h6 := H.pw_pos n
    have : H.num ys * 1 ≤ H.num ys * s := Int.mul_le_mul_of_nonneg_left s1 (by omega)
    omega
  have hvt : 0 < vs.getD n 0 := by
    have e1 := Htop vs n hvl
    have e2 := Htake_lt hvL n
    have e3 := hvL.getD n
    rcases Int.lt_or_le 0 (vs.getD n 0) with h | h
    · exact h
    · have : vs.getD n 0 = 0 := by omega
      rw [this] at e1; omega
  have HV0 : Hid (0 < H.num vs) := by show _ < _; have := H.pw_pos n; omega
  have HVP : Hid (H.num vs < H.pw (n + 1)) := by have := H.num_lt hvL; rwa [hvl] at this
  have HVN : Hid (H.num vs = H.num ys * s) := hvn
  have HVL : Hid (vs.length = n + 1) := hvl
  have hvb := hvL.getD n
  have BW : Hid (Below w.heap.size w w3) := step (step b1 b2) b3
  have HOU : Hid (Own w3 w.heap.size us0) := hou
  have HOV : Hid (Own w3 w1.heap.size vs) := hov
  have HOO : Hid (Own w3 w2.heap.size (List.replicate K 0)) := O3
  have ne1 : w1.heap.size ≠ w.heap.size := by omega
  have ne2 : w2.heap.size ≠ w.heap.size := by omega
  clear b1 b2 b3 hs3 V3 hou hov O3 hun hul huL hvn hvl hV0 HST HTY HYN
  go_loopw [10] (fun i wr => ∃ (t : Nat) (us os : List Int), i = .int .i64 ((t : Int) - 1) ∧ t ≤ K ∧ Hid (LgInv (H.num xs * s) (H.num vs) us os (la + 1) K t) ∧ Hid (Own wr w.heap.size us) ∧ Hid (Own wr w1.heap.size vs) ∧ Hid (Own wr w2.heap.size os) ∧ Hid (Below w.heap.size w wr)) (fun i _ => (intOf i + 1).toNat)
  case atStart => exact ⟨K, us0, _, rfl, Nat.le_refl _, HI0, HOU, HOV, HOO, BW⟩
  case round =>
    clear HI0 HOU HOV HOO BW
    obtain ⟨t, us, os, rfl, ht, hI, hU, hVV, hOO, hBW⟩ := hrel
    by_cases h0 : t = 0
    · subst h0
      obtain ⟨i1, i2, i3, i4, i5, i6⟩ := hI.out
      have hN0 := H.num_nonneg i2
      rw [HVN.out, List.drop_zero] at i5
      rw [HVN.out] at i6
      simp only [H.pw] at i5 i6
      obtain ⟨r1, r2, r3, r4⟩ := lg_end s1 i5 i6 hN0
      have hsu := hU.out.sl i2.up
      rw [i1] at hsu
      have hso := hOO.out.sl i4.up
      rw [i3] at hso
      have hu1 := usedN_le us
      have hu2 := usedN_le os
      have hu3 : usedN us ≤ la + 1 := by omega
      have hu4 : usedN os ≤ K := by omega
      have HR : Hid (H.num xs = H.num os * H.num ys + H.num us / s ∧ H.num us / s < H.num ys ∧ 0 ≤ H.num us / s) := ⟨r1, r2, r3⟩
      clear i1 i3 i5 i6 hN0 r1 r2 r3 r4 hI
      go_wp2_with fail
      refine (cutr_any (some ⟨w.heap.size, 0, none⟩) (la + 1) (la + 1) us _ hsu (by omega) (Nat.le_refl _)).mono ?_
      rintro e w5 ⟨rfl, hw⟩
      rw [hw]
      clear hw
      go_wp2_with fail
      refine (rshort_any (some ⟨w.heap.size, 0, none⟩) (usedN us) (la + 1) (us.take (usedN us)) s _ (hsu.take hu3) (i2.take _) (by omega) (by omega) s2).mono ?_
      rintro e w6 ⟨a6, m6, c6, d6, r6, rfl, k6, l6, t6, L6, u6, n6, p6, q6, b6⟩
      replace hso := hso.below b6 (Nat.le_refl _)
      have N6 : Hid (H.num d6 = H.num us / s) := by
        show _ = _
        rw [H.num_take_used us (Nat.le_refl _)] at n6
        rw [n6, Int.add_comm, Int.add_mul_ediv_right _ _ (by omega), Int.ediv_eq_zero_of_lt p6 q6, Int.zero_add]
      clear n6
      go_wp2_with fail
      refine (cutr_any (some ⟨w2.heap.size, 0, none⟩) K K os _ hso (by omega) (Nat.le_refl _)).mono ?_
      rintro e w7 ⟨rfl, hw⟩
      rw [hw]
      clear hw
      go_wp2_with fail
      go_ret2
      exact ⟨_, usedN os, K, os.take (usedN os), a6, m6, c6, d6, rfl, hso.take hu4, i4.take _, by omega, t6, L6, by omega, by rw [H.num_take_used os (Nat.le_refl _), N6.out]; exact HR.out.1, by rw [N6.out]; exact HR.out.2.2, by rw [N6.out]; exact HR.out.2.1, step hBW.out b6⟩
    · obtain ⟨k, rfl⟩ : ∃ k, t = k + 1 := ⟨t - 1, by omega⟩
      rw [show (((k + 1 : Nat) : Int) - 1) = (k : Int) by omega]
      have hI' := hI.out
      obtain ⟨i1, i2, i3, i4, i5, i6⟩ := hI'
      have hN0 := H.num_nonneg i2
      have hNP : H.num us < H.pw (k + (n + 1) + 1) := by
        have h5 := HVP.out
        have h6 := H.pw_pos (k + 1)
        have h7 : H.num vs * H.pw (k + 1) ≤ H.pw (n + 1) * H.pw (k + 1) := Int.mul_le_mul_of_nonneg_right (by omega) (by omega)
        rw [← H.pw_add, show n + 1 + (k + 1) = k + (n + 1) + 1 by omega] at h7
        omega
      obtain ⟨Q, Q0, Q1, Q2, Q3, Q4⟩ := lg_digit hN0 HV0.out (H.pw_pos k) (by rw [H.pw] at i6; exact i6)
      have hG := lg_guess i2 hvL HVL.out (show k + n + 2 ≤ us.length by omega) hNP Q0 Q2 hvt
      rw [show k + (n + 1) - 1 = k + n by omega] at hG
      have hc1 := hU.out.cell (k + (n + 1)) (by rw [i1]; omega)
      have hc0 := hU.out.cell (k + n) (by rw [i1]; omega)
      have bx1 := i2.getD (k + (n + 1))
      have bx0 := i2.getD (k + n)
      have hcv := hVV.out.cell n (by rw [HVL.out]; omega)
      obtain ⟨x1, hx1⟩ : ∃ x, us.getD (k + (n + 1)) 0 = x := ⟨_, rfl⟩
      obtain ⟨x0, hx0⟩ : ∃ x, us.getD (k + n) 0 = x := ⟨_, rfl⟩
      obtain ⟨vt, hvt'⟩ : ∃ v, vs.getD n 0 = v := ⟨_, rfl⟩
      rw [hx1] at hc1 bx1 hG
      rw [hx0] at hc0 bx0 hG
      rw [hvt'] at hcv hG
      have vt0 : 0 < vt := by rw [← hvt']; exact hvt
      have vt1 : vt < 4294967296 := by rw [← hvt']; exact hvb.2
      obtain ⟨T, hT⟩ : ∃ T, x1 * 4294967296 + x0 = T := ⟨_, rfl⟩
      rw [hT] at hG
      obtain ⟨f1, f2⟩ := bx1
      obtain ⟨f3, f4⟩ := bx0
      have T0 : 0 ≤ T := by omega
      have T1 : T < 18446744073709551616 := by omega
      have m0 : IntKind.i64.wrap ((k : Int) + (n + 1)) = k + (n + 1) := by rw [IntKind.wrap_i64]; omega
      have m1 : IntKind.i64.wrap ((k : Int) + (n + 1) - 1) = k + n := by rw [IntKind.wrap_i64]; omega
      have m1' : IntKind.i64.wrap ((k : Int) + n) = k + n := by rw [IntKind.wrap_i64]; omega
      have m2 : ((k : Int) + (n + 1)).toNat = k + (n + 1) := by omega
      have m3 : ((k : Int) + n).toNat = k + n := by omega
      have m4 : (k : Int) + (n + 1) < la + 1 := by omega
      have m5 : (k : Int) + n < la + 1 := by omega
      have m6 : 0 ≤ (k : Int) + n := by omega
      have w1' : IntKind.u64.wrap (x1 * 4294967296) = x1 * 4294967296 := by rw [IntKind.wrap_u64]; omega
      have w2' : IntKind.u64.wrap (x1 * 4294967296 + x0) = T := by rw [hT, IntKind.wrap_u64]; omega
      have gv : (vt == 0) = false := by simp; omega
      have HIV : Hid (LgInv (H.num xs * s) (H.num vs) us os (la + 1) K (k + 1)) := hI
      have HNP : Hid (H.num us < H.pw (k + (n + 1) + 1)) := hNP
      have HQ : Hid (H.num vs * Q * H.pw k ≤ H.num us ∧ H.num us < H.num vs * (Q + 1) * H.pw k ∧ (∀ q : Int, H.num vs * q * H.pw k ≤ H.num us → q ≤ Q)) := ⟨Q2, Q3, Q4⟩
      have HQ1 : Hid (0 ≤ Q ∧ Q < 4294967296) := ⟨Q0, Q1⟩
      have d0 : 0 ≤ T / vt := Int.ediv_nonneg T0 (by omega)
      have d1 : T / vt < 18446744073709551616 := by
        have := Int.ediv_le_self vt T0
        omega
      obtain ⟨D, hD⟩ : ∃ D, T / vt = D := ⟨_, rfl⟩
      rw [hD] at hG d0 d1
      obtain ⟨q0, hq0⟩ : ∃ q, min D 4294967295 = q := ⟨_, rfl⟩
      have HQ0 : Hid (Q ≤ q0 ∧ q0 < 4294967296) := by show _ ∧ _; omega
      have HU1 : Hid (us.length = la + 1) := i1
      have HOS : Hid (os.length = K) := i3
      clear i1 i3 i5 i6 hN0 hNP Q2 Q3 Q4 hx1 hx0 hI h0 Q0 Q1 hG
      go_wp2_with fail
      go_quiet (fail)
      clear w1' w2'
      have HU2 : Hid (Own (wr.drewN nq) w.heap.size us) := hU
      have HV2 : Hid (Own (wr.drewN nq) w1.heap.size vs) := hVV
      have HO2 : Hid (Own (wr.drewN nq) w2.heap.size os) := hOO
      have HB2 : Hid (Below w.heap.size w (wr.drewN nq)) := below_drewN hBW.out nq
      clear hU hVV hOO hBW hc1 hc0
      go_wp2_with fail
      generalize wr.drewN nq = w4 at *
      clear hcv hT hD
      go_loopw [12] (fun qq wx => ∃ q : Int, qq = .int .u64 q ∧ Hid (Q ≤ q ∧ q < 4294967296) ∧ Hid (Own wx w.heap.size us) ∧ Hid (Own wx w1.heap.size vs) ∧ Hid (Own wx w2.heap.size os) ∧ Hid (Below w.heap.size w wx)) (fun qq _ => (intOf qq).toNat)
      case atStart => exact ⟨q0, rfl, HQ0, HU2, HV2, HO2, HB2⟩
      case round =>
        clear HU2 HV2 HO2 HB2 HQ0 hq0
        obtain ⟨q, rfl, hqq, hU3, hV3, hO3, hB3⟩ := hrel
        have qq1 := hqq.out.1
        have qq2 := hqq.out.2
        have Q00 := HQ1.out.1
        by_cases hle : H.num vs * q * H.pw k ≤ H.num us
        · have hqe : q ≤ Q := HQ.out.2.2 q hle
          obtain rfl : q = Q := by omega
          have LY := less_yes w.heap.size (la + 1) (la + 1) k us (some ⟨w1.heap.size, 0, none⟩) (n + 1) (n + 1) vs q wr hU3.out i2 HU1.out (hV3.out.sx hvL HVL.out ne1) hvL ⟨by omega, by omega⟩ (by omega) (by omega) HNP.out hle
          have HLY : Hid (Calls Try.prog _ _ _ _) := LY
          clear hle LY hqe
          go_wp2_with fail
          refine HLY.out.mono ?_
          rintro e w5 ⟨rfl, ds, hD5, hdL, hdl, hdn, nr⟩
          have O5 := Own.near hO3.out nr ne2
          have V5 := Own.near hV3.out nr ne1
          have hco := O5.cell k (by rw [HOS.out]; omega)
          have hfo := O5.frozen k
          have HSTEP : Hid (LgInv (H.num xs * s) (H.num vs) ds (os.set k q) (la + 1) K k) := lg_step HIV.out (by omega) hdl hdL hdn ⟨by omega, by omega⟩ HQ.out.2.1
          have kK : (k : Int) < K := by omega
          have hB5 : Below w.heap.size w w5 := hB3.out.trans nr.bel
          have HD5 : Hid (Own w5 w.heap.size ds) := hD5
          clear hdl hdn nr HLY hU3 hV3 hO3 hB3 hD5
          go_wp2_with fail
          go_roundw
          case rel => exact ⟨k, ds, os.set k q, rfl, by omega, HSTEP, Own.far HD5.out ne2.symm k _, Own.far V5 (show w1.heap.size ≠ w2.heap.size by omega) k _, Own.set O5 k _, hB5.setCell (p := ⟨w2.heap.size, k, none⟩) (show w.heap.size ≤ w2.heap.size by omega) _⟩
          case measure => simp [intOf]
        · have hne : q ≠ Q := by
            rintro rfl
            exact hle HQ.out.1
          have LN := less_no w.heap.size (la + 1) (la + 1) k us (some ⟨w1.heap.size, 0, none⟩) (n + 1) (n + 1) vs q wr hU3.out i2 HU1.out (hV3.out.sx hvL HVL.out ne1) hvL ⟨by omega, by omega⟩ (by omega) (by omega) HNP.out (Int.not_le.1 hle)
          have HLN : Hid (Calls Try.prog _ _ _ _) := LN
          clear hle LN
          go_wp2_with fail
          refine HLN.out.mono ?_
          rintro e w5 ⟨rfl, hD5, b5⟩
          have V5 := hV3.out.aft b5
          have O5 := hO3.out.aft b5
          have B5 := step hB3.out b5
          have HQ5 : Hid (Q ≤ q - 1 ∧ q - 1 < 4294967296) := by show _ ∧ _; omega
          clear HLN hU3 hV3 hO3 hB3
          go_wp2_with fail
          go_roundw
          case rel => exact ⟨q - 1, rfl, HQ5, hD5, V5, O5, B5⟩
          case measure => simp [intOf]; omega
end Go.Proofs.Ytajjhnilpdmnhaa
namespace Go.Proofs.Ytajjhnilpdmnhaa
open Go.RowKit Go.Shelf
set_option linter.unusedVariables false

/-- A small number: one limb, or none. -/
theorem rsmall_any (x : Int) (hx : Word x) (w : World) :
    Calls Try.prog 15 #[.int .u64 x] w fun e w' => LRes w w' e x 1 := by
  go_enter Try.func15, Try.ntmps15
  go_wp2_with fail
  refine ent1 w _ _ (Q := fun W => Calls Try.prog _ _ W _) ?_
  intro w0 B0 hs V0
  have s := sl_one w x hx
  have s1 : Sl w0 (some ⟨w.heap.size, 0, none⟩) 1 [x] := by
    refine ⟨rfl, s.2.1, fun _ => ⟨w.heap.size, 0, rfl, fun i hi => ?_⟩⟩
    obtain rfl : i = 0 := by omega
    exact V0.cell
  refine (rtrim_any (some ⟨w.heap.size, 0, none⟩) 1 1 [x] w0 s1 (fun h => by cases h) (by omega) (Nat.le_refl _)).mono ?_
  rintro e w2 ⟨a2, c2, rfl, s2, hc2, b2⟩
  have hu := usedN_le [x]
  simp at hu
  go_wp2_with fail
  go_ret
  exact ⟨a2, usedN [x], c2, [x].take (usedN [x]), rfl, hc2, hu, s2, usedN_take [x] (Nat.le_refl _), by rw [num_take_used [x] (Nat.le_refl _)]; simp [num], step B0 b2⟩

set_option maxHeartbeats 2000000 in
theorem rdivmod_any (a0 a1 : Option Addr) (l0 k0 l1 k1 : Nat) (z0 z1 : List Int) (w : World) (ha0 : Sl w a0 l0 z0) (hb0 : Sl w a1 l1 z1) (e0 : a0 = none → l0 = 0 ∧ k0 = 0) (c0 : l0 ≤ k0) (h1 : l0 ≤ 1000000000000) (h2 : l1 ≤ 1000000000000) (hz : num z1 ≠ 0) :
    Calls Try.prog 35 #[.slice a0 l0 k0, .slice a1 l1 k1] w fun e w' =>
      ∃ a1 m1 c1 qs a2 m2 c2 rs, e = .returned (.tuple #[.slice a1 m1 c1, .slice a2 m2 c2]) ∧ Sl w' a1 m1 qs ∧ usedN qs = m1 ∧ m1 ≤ c1 ∧ Sl w' a2 m2 rs ∧ usedN rs = m2 ∧ m2 ≤ c2 ∧ num z0 = num qs * num z1 + num rs ∧ 0 ≤ num rs ∧ num rs < num z1 ∧ m1 ≤ 2 * l0 ∧ m2 ≤ 2 * l0 + 1 ∧ Below w.heap.size w w' := by
  have HS0 : Hid (Sl w a0 l0 z0) := ha0
  go_enter Try.func35, Try.ntmps35
  go_wp2_with fail
  refine (digits_any a0 l0 k0 z0 w ha0 (by omega)).mono ?_
  rintro e wa ⟨a, la, ca, xs, rfl, -, hla, ha, hx, ux, nx, ba⟩
  go_wp2_with fail
  refine (digits_any a1 l1 k1 z1 wa (hb0.below ba (Nat.le_refl _)) (by omega)).mono ?_
  rintro e wb ⟨b, lb, cb, ys, rfl, -, hlb, hb, hy, uy, ny, bb⟩
  replace ha := ha.below bb (Nat.le_refl _)
  have HB : Hid (Below w.heap.size w wb) := step ba bb
  have HNX : Hid (H.num xs = num z0) := nx
  have HNY : Hid (H.num ys = num z1) := ny
  have hza := ha.1; have hzb := hb.1
  have hlb0 : lb ≠ 0 := by
    intro h
    have := (H.num_eq_zero hy).2 (by omega)
    rw [ny] at this; exact hz this
  have HUX : Hid (usedN xs = la) := ux
  have HUY : Hid (usedN ys = lb) := uy
  clear ba bb ha0 hb0 nx ny ux uy hz
  by_cases hlt : la < lb
  · have HLT : Hid (num z0 < num z1) := by
      show _ < _
      rw [← HNX.out, ← HNY.out]
      exact H.num_lt_len hx hy (by rw [HUX.out, HUY.out]; exact hlt)
    have hlt' : (la : Int) < lb := by omega
    go_wp2_with fail
    refine (rtrim_any a0 l0 k0 z0 wb (HS0.out.below HB.out (Nat.le_refl _)) e0 (by omega) c0).mono ?_
    rintro e w5 ⟨a5, c5, rfl, s5, hc5, b5⟩
    have hu := usedN_le z0
    have hl0 := HS0.out.1
    have hp := num_nonneg HS0.out.2.1
    go_wp2_with fail
    go_ret2
    exact ⟨none, 0, 0, [], a5, usedN z0, c5, z0.take (usedN z0), rfl, ⟨rfl, Limbs.nil, fun h => absurd h (by decide)⟩, rfl, Nat.le_refl _, s5, usedN_take z0 (Nat.le_refl _), hc5, by rw [num_take_used z0 (Nat.le_refl _)]; simp [num], by rw [num_take_used z0 (Nat.le_refl _)]; exact hp, by rw [num_take_used z0 (Nat.le_refl _)]; exact HLT.out, by omega, by omega, step HB.out b5⟩
  · have hlt' : ¬ (la : Int) < lb := by omega
    by_cases h1' : lb = 1
    · subst h1'
      obtain ⟨bb, ob, rfl, hcb⟩ := hb.2.2 (by omega)
      have hcy := hcb 0 (by omega)
      rw [Nat.add_zero] at hcy
      have hyb := hy.getD 0
      have hyt0 : ys.getD 0 0 ≠ 0 := by have := usedN_top ys (by rw [HUY.out]; omega); rwa [HUY.out] at this
      have hyn : H.num ys = ys.getD 0 0 := by
        have := Htop ys 0 hzb
        simpa [H.num, H.pw] using this
      obtain ⟨y, hyy⟩ : ∃ y, ys.getD 0 0 = y := ⟨_, rfl⟩
      rw [hyy] at hcy hyb hyt0 hyn
      have HYN : Hid (H.num ys = y) := hyn
      clear hyn hyy hcb
      go_wp2_with fail
      refine (rshort_any a la ca xs y wb ha hx (by omega) (by omega) hyb.2).mono ?_
      rintro e w5 ⟨a5, m5, c5, d5, r, rfl, k5, l5, s5, L5, u5, n5, r0, r1, b5⟩
      have N5 : Hid (H.num xs = H.num d5 * y + r) := n5
      clear n5
      go_wp2_with fail
      refine (limbsr_any a5 m5 c5 d5 w5 s5 L5 (by omega)).mono ?_
      rintro e w6 ⟨a6, m6, c6, z6, rfl, k6, l6, s6, u6, n6, b6⟩
      go_wp2_with fail
      refine (rsmall_any r ⟨r0, by omega⟩ w6).mono ?_
      rintro e w7 ⟨a7, m7, c7, z7, rfl, k7, l7, s7, u7, n7, b7⟩
      replace s6 := s6.below b7 (Nat.le_refl _)
      go_wp2_with fail
      go_ret2
      exact ⟨a6, m6, c6, z6, a7, m7, c7, z7, rfl, s6, u6, k6, s7, u7, k7, by rw [← HNX.out, ← HNY.out, HYN.out, N5.out, n6, n7], by omega, by rw [← HNY.out, HYN.out, n7]; exact r1, by omega, by omega, step (step (step HB.out b5) b6) b7⟩
    · obtain ⟨n, rfl⟩ : ∃ n, lb = n + 1 := ⟨lb - 1, by omega⟩
      have g1 : ((n : Int) + 1 == 1) = false := by simp; omega
      have LG := rlongd_any a b la ca n cb xs ys wb ha hb hx hy HUY.out (by omega) (by omega)
      have HLG : Hid (Calls Try.prog _ _ _ _) := LG
      clear LG
      go_wp2_with fail
      refine HLG.out.mono ?_
      rintro e w5 ⟨a5, m5, c5, d5, a6, m6, c6, d6, rfl, s5, L5, l5, s6, L6, l6, n5, r0, r1, b5⟩
      clear HLG
      go_wp2_with fail
      refine (limbsr_any a5 m5 c5 d5 w5 s5 L5 (by omega)).mono ?_
      rintro e w7 ⟨a7, m7, c7, z7, rfl, k7, l7, s7, u7, n7, b7⟩
      replace s6 := s6.below b7 (Nat.le_refl _)
      go_wp2_with fail
      refine (limbsr_any a6 m6 c6 d6 w7 s6 L6 (by omega)).mono ?_
      rintro e w8 ⟨a8, m8, c8, z8, rfl, k8, l8, s8, u8, n8, b8⟩
      replace s7 := s7.below b8 (Nat.le_refl _)
      go_wp2_with fail
      go_ret2
      exact ⟨a7, m7, c7, z7, a8, m8, c8, z8, rfl, s7, u7, k7, s8, u8, k8, by rw [← HNX.out, ← HNY.out, n7, n8]; exact n5, by rw [n8]; exact r0, by rw [n8, ← HNY.out]; exact r1, by omega, by omega, step (step (step HB.out b5) b7) b8⟩
end Go.Proofs.Ytajjhnilpdmnhaa
namespace Go.Proofs.Ytajjhnilpdmnhaa
open Go.RowKit Go.Shelf

set_option maxHeartbeats 400000 in
theorem rtrim_nil (a : Option Addr) (len cap : Nat) (zs : List Int) (w : World) (h : Sl w a len zs) (hn : a = none → len = 0 ∧ cap = 0) (hl : len ≤ 17592186044416) (hcap : len ≤ cap) :
    Calls Try.prog 16 #[.slice a len cap] w fun e w' => ∃ a' c', e = .returned (.slice a' (usedN zs) c') ∧ Sl w' a' (usedN zs) (zs.take (usedN zs)) ∧ usedN zs ≤ c' ∧ (a' = none → usedN zs = 0 ∧ c' = 0) ∧ Below w.heap.size w w' := by
  have HSL : Hid (Sl w a len zs) := h
  obtain ⟨hz, hL, hc⟩ := h
  by_cases h0 : len = 0
  · subst h0
    have e0 : usedN zs = 0 := by have := usedN_le zs; omega
    rw [e0]
    cases a with
    | none =>
      obtain ⟨-, rfl⟩ := hn rfl
      go_enter Try.func16, Try.ntmps16
      go_wp2_with fail
      refine wp_loop_rounds 1 ?_
      rw [rounds_succ]
      go_wp2_with fail
      go_ret
      exact ⟨none, 0, rfl, ⟨rfl, Limbs.nil, fun h => absurd h (by decide)⟩, Nat.le_refl _, fun _ => ⟨trivial, rfl⟩, Below.refl _ _⟩
    | some ad =>
      have hsl : Sl w (some ad) 0 [] := ⟨rfl, Limbs.nil, fun h => absurd h (by decide)⟩
      go_enter Try.func16, Try.ntmps16
      go_wp2_with fail
      refine wp_loop_rounds 1 ?_
      rw [rounds_succ]
      go_wp2_with (at_builtin; refine wpList_app_some rfl (.tmp 19) (.tmp 22) rfl w.heap.size _ [] rfl (Gr.nil _ _) ad 0 cap [] rfl hsl (by simp) (Nat.le_refl _) ?_; intro v1 w1 hG hb)
      go_ret
      obtain ⟨a1, c1, gm, e1, hc1, hs1, -, hn1, -⟩ := Gr.parts (by simpa using hG.out) Limbs.nil
      exact ⟨a1, c1, congrArg _ e1, hs1, hc1, fun h => ⟨trivial, (hn1 h).2⟩, hb⟩
  · obtain ⟨b, off, rfl, hcell⟩ := hc (by omega)
    go_enter Try.func16, Try.ntmps16
    go_wp2_with fail
    go_loop [3] (fun i => ∃ k : Nat, k ≤ len ∧ i = .int .i64 k ∧ Hid (∀ j, k ≤ j → j < len → zs.getD j 0 = 0)) (fun i => (intOf i).toNat)
    case atStart => exact ⟨len, Nat.le_refl _, rfl, fun j h1 h2 => absurd h1 (by omega)⟩
    case round =>
      obtain ⟨k, hk, rfl, hI⟩ := hrel
      by_cases hlt : 0 < k
      · have hcx := hcell (k - 1) (by omega)
        have ex : ((k : Int) - 1).toNat = k - 1 := by omega
        obtain ⟨x, hx⟩ : ∃ x, zs.getD (k - 1) 0 = x := ⟨_, rfl⟩
        rw [hx] at hcx
        have HX : Hid (zs.getD (k - 1) 0 = x) := hx
        clear hx
        by_cases hx0 : x = 0
        · have g1 : (x == 0) = true := by simp [hx0]
          have HX0 : Hid (x = 0) := hx0
          clear hx0
          go_wp2_with fail
          go_round
          case rel =>
            refine ⟨k - 1, by omega, by rw [show ((k - 1 : Nat) : Int) = (k : Int) - 1 by omega], ?_⟩
            intro j h1 h2
            by_cases hj : j = k - 1
            · rw [hj, HX.out, HX0.out]
            · exact hI.out j (by omega) h2
          case measure => simp [intOf]; omega
        · have g1 : (x == 0) = false := by simp [hx0]
          have hu : usedN zs = k := usedN_eq (by omega) (fun i h1 h2 => hI.out i h1 (by omega)) (.inr (by rw [HX.out]; exact hx0))
          have HU : Hid (usedN zs = k) := hu
          clear hu hx0
          have hsl := HSL.out.take (m := k) (by omega)
          go_wp2_with (at_builtin; refine wpList_app_some rfl (.tmp 19) (.tmp 22) rfl w.heap.size _ [] rfl (Gr.nil _ _) ⟨b, off, none⟩ k cap (zs.take k) rfl hsl (by simp <;> omega) (Nat.le_refl _) ?_; intro v1 w1 hG hb)
          go_ret
          obtain ⟨a1, c1, gm, e1, hc1, hs1, -, hn1, -⟩ := Gr.parts (by simpa using hG.out) (hL.take k)
          rw [List.length_take, Nat.min_eq_left (by omega)] at e1 hc1 hs1 hn1
          exact ⟨a1, c1, by rw [HU.out]; exact congrArg _ e1, by rw [HU.out]; exact hs1, by rw [HU.out]; exact hc1, by rw [HU.out]; exact hn1, hb⟩
      · obtain rfl : k = 0 := by omega
        have hu : usedN zs = 0 := usedN_eq (by omega) (fun i h1 h2 => hI.out i (by omega) (by omega)) (.inl rfl)
        have HU : Hid (usedN zs = 0) := hu
        clear hu
        have hsl := HSL.out.take (m := 0) (by omega)
        go_wp2_with (at_builtin; refine wpList_app_some rfl (.tmp 19) (.tmp 22) rfl w.heap.size _ [] rfl (Gr.nil _ _) ⟨b, off, none⟩ 0 cap (zs.take 0) rfl hsl (by simp <;> omega) (Nat.le_refl _) ?_; intro v1 w1 hG hb)
        go_ret
        obtain ⟨a1, c1, gm, e1, hc1, hs1, -, hn1, -⟩ := Gr.parts (by simpa using hG.out) (hL.take 0)
        rw [List.length_take, Nat.min_eq_left (by omega)] at e1 hc1 hs1 hn1
        exact ⟨a1, c1, by rw [HU.out]; exact congrArg _ e1, by rw [HU.out]; exact hs1, by rw [HU.out]; exact hc1, by rw [HU.out]; exact hn1, hb⟩

/-- The number of a list, read off memory. -/
def slNum (v : Value) (w : World) : Nat :=
  match v with
  | .slice (some p) len _ => (readNum w p.block p.off len).toNat
  | _ => 0
theorem slNum_eq {w : World} {a : Option Addr} {len cap : Nat} {zs : List Int} (h : Sl w a len zs) : slNum (.slice a len cap) w = (num zs).toNat := by
  have hz := h.1
  unfold slNum
  cases a with
  | none =>
    simp only
    rcases Nat.eq_zero_or_pos len with h0 | h0
    · have : zs = [] := List.eq_nil_of_length_eq_zero (by omega)
      rw [this]; rfl
    · obtain ⟨b, off, e, -⟩ := h.2.2 h0
      cases e
  | some p =>
    simp only
    rcases Nat.eq_zero_or_pos len with h0 | h0
    · have : zs = [] := List.eq_nil_of_length_eq_zero (by omega)
      rw [this, h0]; rfl
    · obtain ⟨b, off, e, hc⟩ := h.2.2 h0
      cases e
      have := readNum_eq w b zs off (fun i hi => hc i (by omega))
      rw [hz] at this
      rw [this]

set_option maxHeartbeats 2000000 in
theorem rgcd_any (a0 a1 : Option Addr) (l0 k0 l1 k1 : Nat) (z0 z1 : List Int) (w : World) (ha0 : Sl w a0 l0 z0) (hb0 : Sl w a1 l1 z1) (e0 : a0 = none → l0 = 0 ∧ k0 = 0) (e1 : a1 = none → l1 = 0 ∧ k1 = 0) (c0 : l0 ≤ k0) (c1 : l1 ≤ k1) (h1 : l0 ≤ 17592186044416) (h2 : l1 ≤ 17592186044416) (u0 : usedN z0 ≤ 4096) (u1 : usedN z1 ≤ 4096) :
    Calls Try.prog 45 #[.slice a0 l0 k0, .slice a1 l1 k1] w fun e w' =>
      ∃ a m c zs, e = .returned (.slice a m c) ∧ m ≤ c ∧ Sl w' a m zs ∧ usedN zs = m ∧ num zs = (Int.gcd (num z0) (num z1) : Nat) ∧ Below w.heap.size w w' := by
  obtain ⟨G, hG⟩ : ∃ G, Int.gcd (num z0) (num z1) = G := ⟨_, rfl⟩
  rw [hG]
  have HG0 : Hid (Int.gcd (num z0) (num z1) = G) := hG
  clear hG
  go_enter Try.func45, Try.ntmps45
  go_wp2_with fail
  refine (rtrim_nil a0 l0 k0 z0 w ha0 e0 h1 c0).mono ?_
  rintro e wa ⟨a2, k2, rfl, s2, hk2, n2, ba⟩
  go_wp2_with fail
  refine (rtrim_nil a1 l1 k1 z1 wa (hb0.below ba (Nat.le_refl _)) e1 h2 c1).mono ?_
  rintro e wb ⟨a3, k3, rfl, s3, hk3, n3, bb⟩
  replace s2 := s2.below bb (Nat.le_refl _)
  have HB0 : Hid (Below w.heap.size w wb) := step ba bb
  have t2 := usedN_take z0 (Nat.le_refl _)
  have t3 := usedN_take z1 (Nat.le_refl _)
  have HG1 : Hid (Int.gcd (num (z0.take (usedN z0))) (num (z1.take (usedN z1))) = G) := by
    show _ = _
    rw [num_take_used z0 (Nat.le_refl _), num_take_used z1 (Nat.le_refl _)]; exact HG0.out
  have HS2 : Hid (Sl wb a2 (usedN z0) (z0.take (usedN z0))) := s2
  have HS3 : Hid (Sl wb a3 (usedN z1) (z1.take (usedN z1))) := s3
  have HN2 : Hid (a2 = none → usedN z0 = 0 ∧ k2 = 0) := n2
  have HT2 : Hid (usedN (z0.take (usedN z0)) = usedN z0) := t2
  have HT3 : Hid (usedN (z1.take (usedN z1)) = usedN z1) := t3
  clear s2 s3 n2 n3 ba bb t2 t3 ha0 hb0
  go_wp2_with fail
  go_loopw [5, 6] (fun x y wr => ∃ (a : Option Addr) (la ca : Nat) (xs : List Int) (b : Option Addr) (lb cb : Nat) (ys : List Int), x = .slice a la ca ∧ y = .slice b lb cb ∧ Hid (Sl wr a la xs) ∧ Hid (Sl wr b lb ys) ∧ la ≤ ca ∧ lb ≤ cb ∧ la ≤ 4096 ∧ lb ≤ 4096 ∧ Hid (usedN xs = la) ∧ Hid (usedN ys = lb) ∧ Hid (a = none → la = 0 ∧ ca = 0) ∧ Hid (Int.gcd (num xs) (num ys) = G) ∧ Hid (Below w.heap.size w wr)) (fun _ y wr => slNum y wr)
  case atStart => exact ⟨a2, usedN z0, k2, _, a3, usedN z1, k3, _, rfl, rfl, HS2, HS3, hk2, hk3, u0, u1, HT2, HT3, HN2, HG1, HB0⟩
  case round =>
    clear HS2 HS3 HT2 HT3 HN2 HG1 HB0
    obtain ⟨a, la, ca, xs, b, lb, cb, ys, rfl, rfl, hs, ht, hca, hcb, hla, hlb, hux, huy, hn, hg, hB⟩ := hrel
    have hx0 := num_nonneg hs.out.2.1
    have hy0 := num_nonneg ht.out.2.1
    have hzy := num_eq_zero ht.out.2.1
    rw [huy.out] at hzy
    by_cases hl : 0 < lb
    · have hyz : num ys ≠ 0 := fun h => by have := hzy.1 h; omega
      have hl' : (0 : Int) < lb := by omega
      have D := rdivmod_any a b la ca lb cb xs ys wr hs.out ht.out hn.out hca (by omega) (by omega) hyz
      have HD : Hid (Calls Try.prog _ _ _ _) := D
      have hme := slNum_eq (cap := cb) ht.out
      have HME : Hid (slNum (.slice b lb cb) wr = (num ys).toNat) := hme
      clear D hyz hzy hme
      go_wp2_with fail
      refine HD.out.mono ?_
      rintro e w5 ⟨a5, m5, c5, z5, a6, m6, c6, z6, rfl, s5, u5, k5, s6, u6, k6, n5, r0, r1, -, -, b5⟩
      have ht5 := ht.out.below b5 (Nat.le_refl _)
      have HG5 : Hid (Int.gcd (num ys) (num z6) = G) := by
        have em : num xs % num ys = num z6 := by
          rw [n5, Int.add_comm, Int.add_mul_emod_self_right]
          exact Int.emod_eq_of_lt r0 r1
        show _ = _
        rw [← em, ← gcd_mod]; exact hg.out
      have hm6 : m6 ≤ 4096 := by
        have h5 := lt_of_used ht.out.2.1 (n := 4096) (by rw [huy.out]; exact hlb)
        have := used_of_lt s6.2.1 (n := 4096) (Int.lt_trans r1 h5)
        omega
      have HNB : Hid (b = none → lb = 0 ∧ cb = 0) := fun h => by
        obtain ⟨bb, off, e, -⟩ := ht.out.2.2 hl
        rw [h] at e; cases e
      have HB5 : Hid (Below w.heap.size w w5) := step hB.out b5
      have hme6 := slNum_eq (cap := c6) s6
      have HM6 : Hid (slNum (.slice a6 m6 c6) w5 = (num z6).toNat) := hme6
      have HR1 : Hid (0 ≤ num z6 ∧ num z6 < num ys) := ⟨r0, r1⟩
      have HT5 : Hid (Sl w5 b lb ys) := ht5
      have HS6 : Hid (Sl w5 a6 m6 z6) := s6
      have HU6 : Hid (usedN z6 = m6) := u6
      clear n5 r0 r1 hme6 ht5 s5 s6 u5 u6 HD b5 hx0 hy0
      go_wp2_with fail
      go_roundw
      case rel => exact ⟨b, lb, cb, ys, a6, m6, c6, z6, rfl, rfl, HT5, HS6, hcb, k6, hlb, hm6, huy, HU6, HNB, HG5, HB5⟩
      case measure =>
        have := HR1.out
        show slNum _ _ < slNum _ _
        rw [HM6.out, HME.out]; omega
    · have hl' : ¬ (0 : Int) < lb := by omega
      have hyz : num ys = 0 := hzy.2 (by omega)
      have HE : Hid (num xs = (G : Nat)) := by
        show _ = _
        rw [← hg.out, hyz, Int.gcd_zero_right]; omega
      clear hzy hyz
      go_wp2_with fail
      go_ret
      exact ⟨a, la, ca, rfl, hca, xs, hs.out, hux.out, HE.out, hB.out⟩
end Go.Proofs.Ytajjhnilpdmnhaa
namespace Go.Proofs.Ytajjhnilpdmnhaa
open Go.RowKit Go.Shelf
set_option linter.unusedVariables false

def HvInv (d x : Int) (j : Nat) : Prop := x = d / 2 ^ j ∧ (0 < j → 2 ^ (j - 1) ≤ d)
theorem hv_step {d x : Int} {j : Nat} (hd : 0 ≤ d) (I : HvInv d x j) (hx : 0 < x) : HvInv d (x / 2) (j + 1) := by
  obtain ⟨i1, i2⟩ := I
  refine ⟨by rw [i1, Int.pow_succ, Int.ediv_ediv_of_nonneg (Int.le_of_lt (p2_pos _))], fun _ => ?_⟩
  rw [Nat.add_sub_cancel]
  rcases Int.lt_or_le d (2 ^ j) with h | h
  · rw [i1, Int.ediv_eq_zero_of_lt hd h] at hx; omega
  · exact h
theorem hv_end {d x : Int} {j : Nat} (hd : 0 < d) (I : HvInv d x j) (hx : x = 0) : 0 < j ∧ 2 ^ (j - 1) ≤ d ∧ d < 2 ^ j := by
  obtain ⟨i1, i2⟩ := I
  have h1 : d < 2 ^ j := by
    rcases Int.lt_or_le d (2 ^ j) with h | h
    · exact h
    · have := Int.le_ediv_of_mul_le (p2_pos j) (show 1 * 2 ^ j ≤ d by omega)
      omega
  have h0 : 0 < j := by
    rcases Nat.eq_zero_or_pos j with h | h
    · rw [h] at h1; simp at h1; omega
    · exact h
  exact ⟨h0, i2 h0, h1⟩

theorem top_bits {zs : List Int} (h : Limbs zs) {m j : Nat} (hl : zs.length = m + 1) (hu : usedN zs = m + 1) (h0 : 0 < j) (h1 : 2 ^ (j - 1) ≤ zs.getD m 0) (h2 : zs.getD m 0 < 2 ^ j) : bitsN zs = 64 * (m : Int) + j := by
  have e := num_take_succ zs m
  rw [List.take_of_length_le (by omega)] at e
  have t0 := num_nonneg (h.take m)
  have t1 := num_lt (h.take m)
  rw [List.length_take, Nat.min_eq_left (by omega)] at t1
  have hp := pw_pos m
  have b0 : (2 : Int) ^ (64 * m + (j - 1)) ≤ num zs := by
    rw [Int.pow_add, ← pw_eq, Int.mul_comm]
    have : 2 ^ (j - 1) * pw m ≤ zs.getD m 0 * pw m := Int.mul_le_mul_of_nonneg_right h1 (Int.le_of_lt hp)
    omega
  have b1 : num zs < 2 ^ (64 * m + (j - 1) + 1) := by
    rw [show 64 * m + (j - 1) + 1 = 64 * m + j by omega, Int.pow_add, ← pw_eq, Int.mul_comm]
    have : (zs.getD m 0 + 1) * pw m ≤ 2 ^ j * pw m := Int.mul_le_mul_of_nonneg_right (by omega) (Int.le_of_lt hp)
    rw [Int.add_mul, Int.one_mul] at this
    omega
  rw [bits_of h b0 b1]
  omega
theorem bits_same {a b : List Int} (ha : Limbs a) (hb : Limbs b) (e : num a = num b) : bitsN a = bitsN b := by
  rcases Nat.eq_zero_or_pos (usedN a) with h | h
  · rw [bits_nought h, bits_nought ((num_eq_zero hb).1 (by rw [← e]; exact (num_eq_zero ha).2 h))]
  · obtain ⟨k, e1, k1, k2⟩ := bits_spec ha h
    rw [e1, bits_of hb (k := k) (by rw [← e]; exact k1) (by rw [← e]; exact k2)]

set_option maxHeartbeats 1000000 in
theorem rbits_any (a : Option Addr) (la ca : Nat) (zs : List Int) (w : World) (h : Sl w a la zs) (hn : a = none → la = 0 ∧ ca = 0) (hl : la ≤ 17592186044416) (hc : la ≤ ca) :
    Calls Try.prog 20 #[.slice a la ca] w fun e w' => e = .returned (.int .i64 (bitsN zs)) ∧ Below w.heap.size w w' := by
  have hLz := h.2.1
  have hle := usedN_le zs
  have hz := h.1
  go_enter Try.func20, Try.ntmps20
  go_wp2_with fail
  refine (rtrim_any a la ca zs w h hn hl hc).mono ?_
  rintro e w1 ⟨a1, c1, rfl, s1, hc1, b1⟩
  obtain ⟨D, hD⟩ : ∃ D, zs.take (usedN zs) = D := ⟨_, rfl⟩
  have HBB : Hid (bitsN zs = bitsN D) := by rw [← hD]; exact bits_same hLz (hLz.take _) (num_take_used zs (Nat.le_refl _)).symm
  have HUD : Hid (usedN D = usedN zs) := by rw [← hD]; exact usedN_take zs (Nat.le_refl _)
  rw [hD] at s1
  obtain ⟨m1, hm1⟩ : ∃ m, usedN zs = m := ⟨_, rfl⟩
  rw [hm1] at s1 HUD hc1 hle
  rw [hm1]
  clear hD h
  by_cases h0 : m1 = 0
  · have e0 : Hid (bitsN zs = 0) := bits_nought (by rw [hm1]; exact h0)
    subst h0
    clear hm1
    go_wp2_with fail
    go_ret
    exact ⟨ret_int e0.out.symm, b1⟩
  · obtain ⟨m, rfl⟩ : ∃ m, m1 = m + 1 := ⟨m1 - 1, by omega⟩
    clear hm1
    obtain ⟨b, o, rfl, hc⟩ := s1.2.2 (by omega)
    have hcx := hc m (by omega)
    have hd0 := s1.2.1.getD m
    have hne := usedN_top D (by rw [HUD.out]; omega)
    rw [HUD.out, Nat.add_sub_cancel] at hne
    have g1 : ((m : Int) + 1 == 0) = false := by simp; omega
    have BD : Hid (∀ j : Nat, 0 < j → 2 ^ (j - 1) ≤ D.getD m 0 → D.getD m 0 < 2 ^ j → bitsN zs = 64 * (m : Int) + j) :=
      fun j j0 j1 j2 => by rw [HBB.out]; exact top_bits s1.2.1 s1.1 HUD.out j0 j1 j2
    obtain ⟨d, hd⟩ : ∃ d, D.getD m 0 = d := ⟨_, rfl⟩
    rw [hd] at hcx hd0 hne BD
    clear hd hc s1
    have hdp : 0 < d := by omega
    have hml : m ≤ 17592186044416 := by omega
    go_wp2_with fail
    go_loop [4, 5] (fun nn xx => ∃ (j : Nat) (x : Int), nn = .int .i64 (64 * (m : Int) + j) ∧ xx = .int .u64 x ∧ 0 ≤ x ∧ x < 18446744073709551616 ∧ j ≤ 70 ∧ Hid (HvInv d x j)) (fun _ xx => (intOf xx).toNat)
    case atStart => exact ⟨0, d, by simp, rfl, by omega, by omega, by omega, ⟨by simp, fun h => absurd h (by omega)⟩⟩
    case round =>
      obtain ⟨j, x, rfl, rfl, x1, x2, hj, hI⟩ := hrel
      by_cases hx : 0 < x
      · have hs : Hid (HvInv d (x / 2) (j + 1)) := hv_step (by omega) hI.out hx
        have hj2 : j + 1 ≤ 70 := by
          have := hs.out.2 (by omega)
          rcases Nat.lt_or_ge j 65 with h | h
          · omega
          · have h3 := p2_mono (show 65 ≤ j + 1 - 1 by omega)
            have h4 : (2 : Int) ^ 65 = 36893488147419103232 := by decide
            omega
        go_wp2_with fail
        go_round
        case rel => exact ⟨j + 1, x / 2, by rw [show 64 * (m : Int) + ((j + 1 : Nat) : Int) = 64 * (m : Int) + j + 1 by omega], rfl, by omega, by omega, hj2, hs⟩
        case measure => simp [intOf]; omega
      · obtain ⟨j0, j1, j2⟩ := hv_end hdp hI.out (by omega)
        have HE : Hid (bitsN zs = 64 * (m : Int) + j) := BD.out j j0 j1 j2
        clear j0 j1 j2
        go_wp2_with fail
        go_ret
        exact ⟨ret_int HE.out.symm, b1⟩

theorem num_one_at (p : Nat) (v : Int) : num ((List.replicate (p + 1) (0 : Int)).set p v) = v * pw p := by
  rw [num_set v (by simp), num_zeros]
  have : (List.replicate (p + 1) (0 : Int)).getD p 0 = 0 := by rw [List.getD_eq_getElem?_getD, List.getElem?_replicate]; split <;> rfl
  rw [this, Int.sub_zero, Int.zero_add]
theorem p2_word {i : Nat} (h : i ≤ 63) : (0 : Int) < 2 ^ i ∧ (2 : Int) ^ i ≤ 9223372036854775808 := by
  have := p2_mono h
  have h4 : (2 : Int) ^ 63 = 9223372036854775808 := by decide
  exact ⟨p2_pos i, by omega⟩

set_option maxHeartbeats 1000000 in
theorem power_any (n : Nat) (w : World) (hn : n ≤ 1000000000000) :
    Calls Try.prog 64 #[.int .i64 n] w fun e w' => ∃ p cs, e = .returned (.slice (some ⟨w.heap.size, 0, none⟩) p p) ∧ Own w' w.heap.size cs ∧ Limbs cs ∧ cs.length = p ∧ p ≤ n + 1 ∧ num cs = 2 ^ n ∧ Below w.heap.size w w' := by
  obtain ⟨p, hp⟩ : ∃ p, n / 64 = p := ⟨_, rfl⟩
  obtain ⟨r, hr⟩ : ∃ r, n % 64 = r := ⟨_, rfl⟩
  have ep : (n : Int) / 64 = p := by omega
  have er : (n : Int) % 64 = r := by omega
  have hr63 : r ≤ 63 := by omega
  have hnn : n = 64 * p + r := by omega
  have hpn : p ≤ n := by omega
  have hmk := make_row (p + 1) (by omega)
  rw [show ((p + 1 : Nat) : Int) = (p : Int) + 1 by omega] at hmk
  have HNN : Hid (n = 64 * p + r) := hnn
  have O0 : Own (w.alloc (.cells (row (List.replicate (p + 1) 0)).toArray 23)) w.heap.size (List.replicate (p + 1) 0) := heap_alloc_new _ _
  have cz := O0.cell p (by simp)
  have fz := O0.frozen p
  have HO0 : Hid (Own (w.alloc (.cells (row (List.replicate (p + 1) 0)).toArray 23)) w.heap.size (List.replicate (p + 1) 0)) := O0
  have hB1 : Below w.heap.size w (w.alloc (.cells (row (List.replicate (p + 1) 0)).toArray 23)) := (Below.refl _ _).alloc (Nat.le_refl _) _
  have pp1 : (p : Int) < p + 1 := by omega
  clear hp hr hnn O0
  go_enter Try.func64, Try.ntmps64
  go_wp2_with fail
  clear hmk
  have er1 : row ((List.replicate (p + 1) (0 : Int)).set p (2 ^ 0)) = (row (List.replicate (p + 1) 0)).set p (.int .u64 1) := by simp [row, List.map_set]
  have O1 : Hid (Own (w.alloc (.cells ((row (List.replicate (p + 1) 0)).set p (.int .u64 1)).toArray 23)) w.heap.size ((List.replicate (p + 1) 0).set p (2 ^ 0))) := by
    rw [← er1]; exact heap_alloc_new _ _
  have B1 : Below w.heap.size w (w.alloc (.cells ((row (List.replicate (p + 1) 0)).set p (.int .u64 1)).toArray 23)) := (Below.refl _ _).alloc (Nat.le_refl _) _
  clear er1
  go_loopw [4] (fun ii wr => ∃ i : Nat, ii = .int .i64 i ∧ i ≤ r ∧ Hid (Own wr w.heap.size ((List.replicate (p + 1) 0).set p (2 ^ i))) ∧ Hid (Below w.heap.size w wr)) (fun ii _ => r - (intOf ii).toNat)
  case atStart => exact ⟨0, rfl, by omega, O1, B1⟩
  case round =>
    clear O1 B1 cz fz hB1 HO0
    obtain ⟨i, rfl, hi, hO, hb⟩ := hrel
    by_cases hlt : i < r
    · have hc := hO.out.cell p (by simp)
      have hf := hO.out.frozen p
      have ev : ((List.replicate (p + 1) (0 : Int)).set p (2 ^ i)).getD p 0 = 2 ^ i := getD_set_self _ _ _ (by simp)
      rw [ev] at hc
      obtain ⟨v1, v2⟩ := p2_word (show i + 1 ≤ 63 by omega)
      have e2 : (2 : Int) ^ (i + 1) = 2 * 2 ^ i := by rw [Int.pow_succ, Int.mul_comm]
      rw [e2] at v1 v2
      have HO2 := fun v => Own.set hO.out p v
      simp only [List.set_set] at HO2
      have HO3 := HO2 (2 * 2 ^ i)
      rw [← e2] at HO3
      obtain ⟨v, hv⟩ : ∃ v : Int, 2 ^ i = v := ⟨_, rfl⟩
      rw [hv] at hc v1 v2 e2
      rw [e2] at HO3
      have HV : Hid (2 * v = 2 ^ (i + 1)) := by rw [← hv]; exact (by rw [Int.pow_succ, Int.mul_comm] : (2 : Int) * 2 ^ i = 2 ^ (i + 1))
      have iR : (i : Int) < r := by omega
      clear HO2 ev hv e2 HO3
      have HS := Own.set hO.out p (2 * v)
      simp only [List.set_set] at HS
      have HS2 : Hid (Own (wr.setCell ⟨w.heap.size, p, none⟩ (.int .u64 (2 * v))) w.heap.size ((List.replicate (p + 1) 0).set p (2 ^ (i + 1)))) := by rw [← HV.out]; exact HS
      clear HS
      go_wp2_with fail
      go_roundw
      case rel => exact ⟨i + 1, by go_num, by omega, HS2, hb.out.setCell (p := ⟨w.heap.size, p, none⟩) (Nat.le_refl _) _⟩
      case measure => simp [intOf]; omega
    · obtain rfl : i = r := by omega
      have iR : ¬ (i : Int) < i := by omega
      obtain ⟨v1, v2⟩ := p2_word hr63
      have HL : Hid (Limbs ((List.replicate (p + 1) (0 : Int)).set p (2 ^ i))) := (Limbs.zeros _).set p ⟨by omega, by omega⟩
      have HE : Hid (num ((List.replicate (p + 1) (0 : Int)).set p (2 ^ i)) = 2 ^ n) := by
        show _ = _
        rw [num_one_at, pw_eq, ← Int.pow_add, HNN.out, Nat.add_comm]
      go_wp2_with fail
      go_ret
      exact ⟨p + 1, rfl, _, hO.out, HL.out, by simp, by omega, HE.out, hb.out⟩
end Go.Proofs.Ytajjhnilpdmnhaa
namespace Go.Proofs.Ytajjhnilpdmnhaa
open Go.RowKit Go.Shelf
set_option linter.unusedVariables false

theorem rzero_b (a : Option Addr) (len cap : Nat) (zs : List Int) (w : World) (h : Sl w a len zs) (hn : a = none → len = 0 ∧ cap = 0) (hl : len ≤ 17592186044416) (hcap : len ≤ cap) :
    Calls Try.prog 34 #[.slice a len cap] w fun e w' => e = .returned (.bool (decide (num zs = 0))) ∧ Below w.heap.size w w' := by
  have HE : Hid (((usedN zs : Int) == 0) = decide (num zs = 0)) := by
    have h5 := num_eq_zero h.2.1
    show _ = _
    rw [Bool.eq_iff_iff]; simp; omega
  go_enter Try.func34, Try.ntmps34
  go_wp2_with fail
  refine (rtrim_any a len cap zs w h hn hl hcap).mono ?_
  rintro e w2 ⟨a2, c2, rfl, s2, hc2, b2⟩
  go_wp2_with fail
  go_ret
  exact ⟨by rw [← HE.out]; rfl, b2⟩
/-- A list that is not empty lies somewhere. -/
theorem Sl.there {w : World} {a : Option Addr} {l c : Nat} {zs : List Int} (h : Sl w a l zs) (hu : usedN zs = l) (h0 : num zs ≠ 0) : a = none → l = 0 ∧ c = 0 := by
  intro e
  have hl : 0 < l := by
    rcases Nat.eq_zero_or_pos l with h' | h'
    · exact absurd ((num_eq_zero h.2.1).2 (by omega)) h0
    · exact h'
  obtain ⟨b, off, e2, -⟩ := h.2.2 hl
  rw [e] at e2; cases e2
theorem quot_is {x q r m : Int} (h : x = q * r + m) (h0 : 0 ≤ m) (h1 : m < r) : q = x / r := by
  rw [h, Int.add_comm, Int.add_mul_ediv_right _ _ (by omega), Int.ediv_eq_zero_of_lt h0 h1, Int.zero_add]

theorem rroot_zero (a : Option Addr) (la ca : Nat) (zs : List Int) (w : World) (h : Sl w a la zs) (hn : a = none → la = 0 ∧ ca = 0) (hl : la ≤ 17592186044416) (hc : la ≤ ca) (h0 : num zs = 0) :
    Calls Try.prog 42 #[.slice a la ca] w fun e w' => ∃ a' m c, e = .returned (.slice a' m c) ∧ ∃ ds, Sl w' a' m ds ∧ usedN ds = m ∧ IsRoot (num zs) (num ds) ∧ Below w.heap.size w w' := by
  have Z := rzero_b a la ca zs w h hn hl hc
  rw [h0] at Z
  simp only [decide_true] at Z
  rw [h0]
  go_enter Try.func42, Try.ntmps42
  go_wp2_with fail
  refine Z.mono ?_
  rintro e w1 ⟨rfl, b1⟩
  go_wp2_with fail
  go_ret
  exact ⟨none, 0, 0, rfl, [], ⟨rfl, Limbs.nil, fun h => absurd h (by decide)⟩, rfl, ⟨by simp [num], by simp [num], by simp [num]⟩, b1⟩

set_option maxHeartbeats 4000000 in
theorem rroot_pos (a : Option Addr) (la ca : Nat) (zs : List Int) (w : World) (h : Sl w a la zs) (hn : a = none → la = 0 ∧ ca = 0) (hl : la ≤ 1000000000) (hc : la ≤ ca) (h0 : num zs ≠ 0) (hu : usedN zs ≤ 4096) :
    Calls Try.prog 42 #[.slice a la ca] w fun e w' => ∃ a' m c, e = .returned (.slice a' m c) ∧ ∃ ds, Sl w' a' m ds ∧ usedN ds = m ∧ IsRoot (num zs) (num ds) ∧ Below w.heap.size w w' := by
  have Z := rzero_b a la ca zs w h hn (by omega) hc
  simp only [h0, decide_false] at Z
  have RB := fun W hW => rbits_any a la ca zs W hW hn (by omega) hc
  have uz : 0 < usedN zs := by
    rcases Nat.eq_zero_or_pos (usedN zs) with h' | h'
    · exact absurd ((num_eq_zero h.2.1).2 h') h0
    · exact h'
  obtain ⟨k, ek, k1, k2⟩ := bits_spec h.2.1 uz
  have hbl := bits_limbs h.2.1
  have hk : k + 1 ≤ 262144 := by omega
  simp only [ek] at RB
  obtain ⟨hh, ehh⟩ : ∃ hh, hh = (k + 2) / 2 := ⟨_, rfl⟩
  have eh2 : (k : Int) / 2 + 1 = hh := by omega
  have hh1 : hh ≤ 131073 := by omega
  have A0 := num_nonneg h.2.1
  obtain ⟨A, hA⟩ : ∃ A, num zs = A := ⟨_, rfl⟩
  have hx0 : A < (2 ^ hh + 1) * (2 ^ hh + 1) := by
    have h5 := p2_mono (show k + 1 ≤ hh + hh by omega)
    have e5 : (2 : Int) ^ (hh + hh) = 2 ^ hh * 2 ^ hh := Int.pow_add 2 hh hh
    rw [e5] at h5
    have h6 := p2_pos hh
    have h7 := sq_mono (show 0 ≤ (2 : Int) ^ hh by omega) (show (2 : Int) ^ hh ≤ 2 ^ hh + 1 by omega)
    omega
  have hfit : (2 : Int) ^ hh < pw 4096 := by
    have h5 := p2_mono (show hh + 1 ≤ 64 * 4096 by omega)
    rw [← pw_eq, Int.pow_succ] at h5
    have h6 := p2_pos hh
    generalize pw 4096 = P at *
    omega
  have HX0 : Hid (A < (2 ^ hh + 1) * (2 ^ hh + 1)) := hx0
  have HFIT : Hid ((2 : Int) ^ hh < pw 4096) := hfit
  have HA : Hid (num zs = A) := hA
  rw [hA] at A0 h0 ⊢
  have AP : 0 < A := by omega
  have HS : Hid (Sl w a la zs) := h
  have HRB : Hid (∀ W, Sl W a la zs → Calls Try.prog 20 #[.slice a la ca] W fun e w' => e = .returned (.int .i64 ((k : Int) + 1)) ∧ Below W.heap.size W w') := RB
  clear RB hx0 hfit k1 k2 ek hbl uz hA h ehh
  go_enter Try.func42, Try.ntmps42
  go_wp2_with fail
  refine Z.mono ?_
  rintro e w1 ⟨rfl, b1⟩
  clear Z
  go_wp2_with fail
  refine (HRB.out w1 (HS.out.below b1 (Nat.le_refl _))).mono ?_
  rintro e w2 ⟨rfl, b2⟩
  clear HRB
  go_wp2_with fail
  rw [show ((k : Int) + 1 + 1) / 2 = hh by omega]
  refine (power_any hh w2 (by omega)).mono ?_
  rintro e w3 ⟨p, cs, rfl, ho, hL, hcl, hp, hnum, b3⟩
  have sc := ho.sl hL
  rw [hcl] at sc
  go_wp2_with fail
  refine (rtrim_any (some ⟨w2.heap.size, 0, none⟩) p p cs w3 sc (fun h => by cases h) (by omega) (Nat.le_refl _)).mono ?_
  rintro e w4 ⟨a4, c4, rfl, s4, hc4, b4⟩
  have HB : Hid (Below w.heap.size w w4) := step (step (step b1 b2) b3) b4
  have HN4 : Hid (num (cs.take (usedN cs)) = 2 ^ hh) := by show _ = _; rw [num_take_used cs (Nat.le_refl _)]; exact hnum
  have HU4 : Hid (usedN (cs.take (usedN cs)) = usedN cs) := usedN_take cs (Nat.le_refl _)
  have HS4 : Hid (Sl w4 a4 (usedN cs) (cs.take (usedN cs))) := s4
  have hP2 := p2_pos hh
  clear b1 b2 b3 b4 ho hL hcl hnum sc s4 hp
  go_wp2_with fail
  go_loopw [3] (fun x wr => ∃ (b : Option Addr) (lb cb : Nat) (xs : List Int), x = .slice b lb cb ∧ lb ≤ cb ∧ Hid (Sl wr b lb xs) ∧ Hid (usedN xs = lb) ∧ Hid (0 < num xs) ∧ Hid (num xs < pw 4096) ∧ Hid (A < (num xs + 1) * (num xs + 1)) ∧ Hid (Below w.heap.size w wr)) (fun x wr => slNum x wr)
  case atStart => exact ⟨a4, usedN cs, c4, _, rfl, hc4, HS4, HU4, by show _ < _; rw [HN4.out]; exact hP2, by show _ < _; rw [HN4.out]; exact HFIT.out, by show _ < _; rw [HN4.out]; exact HX0.out, HB⟩
  case round =>
    clear HS4 HU4 HN4 HB HX0 HFIT hP2
    obtain ⟨b, lb, cb, xs, rfl, hcb, hs, hux, hx0, hxf, hxa, hB⟩ := hrel
    have lb4 : lb ≤ 4096 := by have := used_of_lt hs.out.2.1 (n := 4096) hxf.out; have := hux.out; omega
    have X0 := hx0.out
    have nb := Sl.there (c := cb) hs.out hux.out (by omega)
    have D := rdivmod_any a b la ca lb cb zs xs wr (HS.out.below hB.out (Nat.le_refl _)) hs.out hn hc (by omega) (by omega) (by omega)
    have HD : Hid (Calls Try.prog _ _ _ _) := D
    have HME : Hid (slNum (.slice b lb cb) wr = (num xs).toNat) := slNum_eq hs.out
    have HNB : Hid (b = none → lb = 0 ∧ cb = 0) := nb
    obtain ⟨X, hX⟩ : ∃ X, num xs = X := ⟨_, rfl⟩
    have HXX : Hid (num xs = X) := hX
    rw [hX] at X0
    clear D nb hX
    go_wp2_with fail
    refine HD.out.mono ?_
    rintro e w5 ⟨a5, m5, c5, z5, a6, m6, c6, z6, rfl, s5, u5, k5, s6, u6, k6, n5, r0, r1, l5, -, b5⟩
    have HQ5 : Hid (num z5 = A / X) := by
      show _ = _
      rw [HA.out, HXX.out] at n5
      rw [HXX.out] at r1
      exact quot_is n5 r0 r1
    clear HD n5 r0 r1 s6
    have hs5 := hs.out.below b5 (Nat.le_refl _)
    go_wp2_with fail
    refine (radd_any b a5 lb cb m5 c5 xs z5 w5 hs5 s5 (by omega) (by omega)).mono ?_
    rintro e w7 ⟨a7, m7, c7, z7, rfl, k7, l7, s7, u7, n7, b7⟩
    have HN7 : Hid (num z7 = X + A / X) := by show _ = _; rw [n7, HXX.out, HQ5.out]
    clear n7
    go_wp2_with fail
    refine (rsmall_any 2 ⟨by decide, by decide⟩ w7).mono ?_
    rintro e w8 ⟨a8, m8, c8, z8, rfl, k8, l8, s8, u8, n8, b8⟩
    replace s7 := s7.below b8 (Nat.le_refl _)
    have q0 : 0 ≤ A / X := Int.ediv_nonneg (by omega) (by omega)
    have nb7 := Sl.there (c := c7) s7 u7 (by rw [HN7.out]; omega)
    go_wp2_with fail
    refine (rdivmod_any a7 a8 m7 c7 m8 c8 z7 z8 w8 s7 s8 nb7 k7 (by omega) (by omega) (by rw [n8]; decide)).mono ?_
    rintro e w9 ⟨a9, m9, c9, z9, aa, ma, ka, za, rfl, s9, u9, k9, sa, ua, kka, n9, r0, r1, l9, -, b9⟩
    have HN9 : Hid (num z9 = (X + A / X) / 2) := by
      show _ = _
      rw [n8, HN7.out] at n9
      rw [n8] at r1
      exact quot_is n9 r0 r1
    have hs9 := ((hs5.below b7 (Nat.le_refl _)).below b8 (Nat.le_refl _)).below b9 (Nat.le_refl _)
    have HB9 : Hid (Below w.heap.size w w9) := step (step (step (step hB.out b5) b7) b8) b9
    have yp : 0 < (X + A / X) / 2 := by
      rcases Int.lt_or_le X 2 with h5 | h5
      · have : X = 1 := by omega
        rw [this, Int.ediv_one]; omega
      · omega
    have nb9 := Sl.there (c := c9) s9 u9 (by rw [HN9.out]; omega)
    have l9b : m9 ≤ 10000000000 := by omega
    clear n9 r0 r1 sa s7 s8 s5 hs5 nb7 n8 b5 b7 b8 b9 q0
    go_wp2_with fail
    refine (rcompare_any a9 b m9 c9 lb cb z9 xs w9 s9 hs9 nb9 HNB.out (by omega) (by omega) k9 hcb).mono ?_
    rintro e w10 ⟨rfl, b10⟩
    have CM : Hid (cmp3 (num z9) (num xs) = cmp3 ((X + A / X) / 2) X) := by show _ = _; rw [HN9.out, HXX.out]
    rw [CM.out]
    have HB10 : Hid (Below w.heap.size w w10) := step HB9.out b10
    have hs10 := hs9.below b10 (Nat.le_refl _)
    replace s9 := s9.below b10 (Nat.le_refl _)
    by_cases hge : X ≤ (X + A / X) / 2
    · obtain ⟨C, hC⟩ : ∃ C, cmp3 ((X + A / X) / 2) X = C := ⟨_, rfl⟩
      have hC0 : ¬ C < 0 := by rw [← hC, cmp3_neg_iff]; omega
      have HR : Hid (IsRoot A (num xs)) := by
        show IsRoot _ _
        have h7 := hxa.out
        rw [HXX.out] at h7 ⊢
        exact ⟨by omega, newton_end X0 hge, h7⟩
      rw [hC]
      clear hC CM hge
      go_wp2_with fail
      go_ret
      exact ⟨b, lb, cb, rfl, xs, hs10, hux.out, HR.out, HB10.out⟩
    · have hlt : (X + A / X) / 2 < X := by omega
      have hC : cmp3 ((X + A / X) / 2) X = -1 := cmp3_lt hlt
      rw [hC]
      have HA9 : Hid (A < (num z9 + 1) * (num z9 + 1)) := by show _ < _; rw [HN9.out]; exact newton_above X0 (by omega)
      have HP9 : Hid (0 < num z9) := by show _ < _; rw [HN9.out]; exact yp
      have HF9 : Hid (num z9 < pw 4096) := by
        show _ < _
        have h7 := hxf.out
        rw [HXX.out] at h7
        rw [HN9.out]
        exact Int.lt_trans hlt h7
      have HM9 : Hid (slNum (.slice a9 m9 c9) w10 = (num z9).toNat) := slNum_eq s9
      have HLT : Hid (num z9 < num xs ∧ 0 < num z9) := by show _ ∧ _; rw [HN9.out, HXX.out]; exact ⟨hlt, yp⟩
      have HS9 : Hid (Sl w10 a9 m9 z9) := s9
      have HU9 : Hid (usedN z9 = m9) := u9
      clear hC CM hge hlt s9 hs10 hs9 u9
      go_wp2_with fail
      go_roundw
      case rel => exact ⟨a9, m9, c9, z9, rfl, k9, HS9, HU9, HP9, HF9, HA9, HB10⟩
      case measure =>
        have := HLT.out
        show slNum _ _ < slNum _ _
        rw [HM9.out, HME.out]; omega
end Go.Proofs.Ytajjhnilpdmnhaa
namespace Go.Proofs.Ytajjhnilpdmnhaa
open Go.RowKit Go.Shelf
set_option linter.unusedVariables false

theorem powr_le {x y : Int} (h0 : 0 ≤ x) (h : x ≤ y) : ∀ n : Nat, x ^ n ≤ y ^ n
  | 0 => by simp
  | n + 1 => by
    rw [Int.pow_succ, Int.pow_succ]
    exact Int.mul_le_mul (powr_le h0 h n) h h0 (Int.pow_nonneg (by omega))
theorem powr_ge {x : Int} (h : 1 ≤ x) : ∀ n : Nat, 1 ≤ x ^ n
  | 0 => by simp
  | n + 1 => by
    rw [Int.pow_succ]
    have h1 := powr_ge h n
    have : 1 * 1 ≤ x ^ n * x := Int.mul_le_mul h1 h (by omega) (by omega)
    omega
theorem powr_up {x : Int} (h : 1 ≤ x) {m n : Nat} (hmn : m ≤ n) : x ^ m ≤ x ^ n := by
  obtain ⟨d, rfl⟩ : ∃ d, n = m + d := ⟨n - m, by omega⟩
  rw [Int.pow_add]
  have h1 := powr_ge h m
  have h2 := powr_ge h d
  have : x ^ m * 1 ≤ x ^ m * x ^ d := Int.mul_le_mul_of_nonneg_left h2 (by omega)
  omega
theorem p2_pow (k : Nat) : ∀ n : Nat, ((2 : Int) ^ k) ^ n = 2 ^ (k * n)
  | 0 => by simp
  | n + 1 => by rw [Int.pow_succ, p2_pow k n, Nat.mul_succ, Int.pow_add]
theorem pow_half (x : Int) (m d : Nat) : x ^ (2 * m + d) = x ^ m * x ^ m * x ^ d := by
  rw [Int.pow_add, show 2 * m = m + m by omega, Int.pow_add]
def pb : Nat → Nat
  | 0 => 0
  | t + 1 => 2 ^ t
theorem pb_half (t : Nat) : pb (t + 1) / 2 = pb t := by
  cases t with
  | zero => rfl
  | succ s => simp only [pb]; rw [Nat.pow_succ]; omega
/-- The answer: the power, or that it is long. -/
def PRes (w w' : World) (e : Ending) (N : Int) : Prop :=
  ∃ a m c ds may, e = .returned (.tuple #[.slice a m c, .bool may]) ∧ Sl w' a m ds ∧ Hid ((may = true ∧ usedN ds = m ∧ num ds = N ∧ N < pw 4096) ∨ (may = false ∧ pw 4096 ≤ N)) ∧ Below w.heap.size w w'
theorem one_fits : (1 : Int) < pw 4096 := by
  have h2 : pw 1 ≤ pw 4096 := pw_mono (by decide)
  have h3 : pw 1 = 18446744073709551616 := by decide
  omega
theorem rpow_nought (a : Option Addr) (la ca : Nat) (zs : List Int) (w : World) (h : Sl w a la zs) :
    Calls Try.prog 43 #[.slice a la ca, .int .i64 0] w fun e w' => PRes w w' e (num zs ^ 0) := by
  go_enter Try.func43, Try.ntmps43
  go_wp2_with fail
  refine (rsmall_any 1 ⟨by decide, by decide⟩ w).mono ?_
  rintro e w1 ⟨a1, m1, c1, z1, rfl, k1, l1, s1, u1, n1, b1⟩
  go_wp2_with fail
  go_ret2
  exact ⟨a1, m1, c1, z1, true, rfl, s1, .inl ⟨rfl, u1, by rw [n1]; simp, by simpa using one_fits⟩, b1⟩
theorem rpow_one (a : Option Addr) (la ca : Nat) (zs : List Int) (n : Nat) (w : World) (h : Sl w a la zs) (hn : a = none → la = 0 ∧ ca = 0) (hl : la ≤ 1000000000) (hc : la ≤ ca) (h1 : num zs = 1) (hz : 0 < n) :
    Calls Try.prog 43 #[.slice a la ca, .int .i64 n] w fun e w' => PRes w w' e (num zs ^ n) := by
  have g1 : ((n : Int) == 0) = false := by simp; omega
  have HP : Hid (num zs ^ n = 1) := by show _ = _; rw [h1, Int.one_pow]
  have HS : Hid (Sl w a la zs) := h
  have H1 : Hid (num zs = 1) := h1
  clear h h1
  go_enter Try.func43, Try.ntmps43
  go_wp2_with fail
  refine (rsmall_any 1 ⟨by decide, by decide⟩ w).mono ?_
  rintro e w1 ⟨a1, m1, c1, z1, rfl, k1, l1, s1, u1, n1, b1⟩
  go_wp2_with fail
  refine (rcompare_any a a1 la ca m1 c1 zs z1 w1 (HS.out.below b1 (Nat.le_refl _)) s1 hn (Sl.there s1 u1 (by omega)) (by omega) (by omega) hc k1).mono ?_
  rintro e w2 ⟨rfl, b2⟩
  rw [cmp3_eq (show num zs = num z1 by rw [H1.out, n1])]
  clear s1 n1
  go_wp2_with fail
  refine (rsmall_any 1 ⟨by decide, by decide⟩ w2).mono ?_
  rintro e w3 ⟨a3, m3, c3, z3, rfl, k3, l3, s3, u3, n3, b3⟩
  go_wp2_with fail
  go_ret2
  exact ⟨a3, m3, c3, z3, true, rfl, s3, .inl ⟨rfl, u3, by rw [n3, HP.out], by rw [HP.out]; exact one_fits⟩, step (step b1 b2) b3⟩
/-- Up to the look at its size. -/
theorem cmp_ne {x y : Int} (h : x ≠ y) : (cmp3 x y == 0) = false := by
  rcases Int.lt_or_le x y with h' | h'
  · rw [cmp3_lt h']; decide
  · rw [cmp3_gt (show y < x by omega)]; decide
theorem rpow_zero (a : Option Addr) (la ca : Nat) (zs : List Int) (n : Nat) (w : World) (h : Sl w a la zs) (hn : a = none → la = 0 ∧ ca = 0) (hl : la ≤ 1000000000) (hc : la ≤ ca) (h1 : num zs = 0) (hz : 0 < n) :
    Calls Try.prog 43 #[.slice a la ca, .int .i64 n] w fun e w' => PRes w w' e (num zs ^ n) := by
  have g1 : ((n : Int) == 0) = false := by simp; omega
  have HP : Hid (num zs ^ n = 0) := by
    obtain ⟨m, rfl⟩ : ∃ m, n = m + 1 := ⟨n - 1, by omega⟩
    show _ = _; rw [h1, Int.pow_succ, Int.mul_zero]
  have HS : Hid (Sl w a la zs) := h
  have H1 : Hid (num zs = 0) := h1
  clear h h1
  go_enter Try.func43, Try.ntmps43
  go_wp2_with fail
  refine (rsmall_any 1 ⟨by decide, by decide⟩ w).mono ?_
  rintro e w1 ⟨a1, m1, c1, z1, rfl, k1, l1, s1, u1, n1, b1⟩
  go_wp2_with fail
  refine (rcompare_any a a1 la ca m1 c1 zs z1 w1 (HS.out.below b1 (Nat.le_refl _)) s1 hn (Sl.there s1 u1 (by omega)) (by omega) (by omega) hc k1).mono ?_
  rintro e w2 ⟨rfl, b2⟩
  have gc : (cmp3 (num zs) (num z1) == 0) = false := cmp_ne (by rw [H1.out, n1]; decide)
  generalize cmp3 (num zs) (num z1) = C at *
  clear s1 n1
  go_wp2_with fail
  refine (rzero_b a la ca zs w2 (HS.out.below (step b1 b2) (Nat.le_refl _)) hn (by omega) hc).mono ?_
  rintro e w3 ⟨rfl, b3⟩
  rw [H1.out]
  simp only [decide_true]
  go_wp2_with fail
  go_ret2
  exact ⟨none, 0, 0, [], true, rfl, ⟨rfl, Limbs.nil, fun h => absurd h (by decide)⟩, .inl ⟨rfl, rfl, by rw [HP.out]; rfl, by rw [HP.out]; exact pw_pos 4096⟩, step (step b1 b2) b3⟩
theorem rpow_big {A : Int} {k n : Nat} (hk : 2 ^ k ≤ A) (h : 262144 ≤ k * n) : pw 4096 ≤ A ^ n := by
  have h1 := powr_le (Int.le_of_lt (p2_pos k)) hk n
  rw [p2_pow] at h1
  rw [show pw 4096 = 2 ^ 262144 from pw_eq 4096]
  exact Int.le_trans (p2_mono h) h1
set_option maxHeartbeats 1000000 in
theorem rpow_long (a : Option Addr) (la ca : Nat) (zs : List Int) (n k : Nat) (w : World) (h : Sl w a la zs) (hn : a = none → la = 0 ∧ ca = 0) (hl : la ≤ 1000000000) (hc : la ≤ ca) (h2 : 2 ≤ num zs) (hz : 0 < n) (hk : k ≤ 262144) (ek : bitsN zs = (k : Int) + 1) (k1 : 2 ^ k ≤ num zs) (hlong : 262144 < n ∨ 262144 ≤ k * n) (hn63 : n ≤ 9223372036854775807) :
    Calls Try.prog 43 #[.slice a la ca, .int .i64 n] w fun e w' => PRes w w' e (num zs ^ n) := by
  have g1 : ((n : Int) == 0) = false := by simp; omega
  have HP : Hid (pw 4096 ≤ num zs ^ n) := by
    rcases hlong with h' | h'
    · exact rpow_big (k := 1) (by simpa using h2) (by omega)
    · exact rpow_big k1 h'
  have RB := fun W hW => rbits_any a la ca zs W hW hn (by omega) hc
  simp only [ek] at RB
  have HRB : Hid (∀ W, Sl W a la zs → Calls Try.prog 20 #[.slice a la ca] W fun e w' => e = .returned (.int .i64 ((k : Int) + 1)) ∧ Below W.heap.size W w') := RB
  have HS : Hid (Sl w a la zs) := h
  have H1 : Hid (2 ≤ num zs) := h2
  clear h h2 k1 ek RB
  by_cases hg : 262144 < n
  · have hg' : (262144 : Int) < n := by omega
    go_enter Try.func43, Try.ntmps43
    go_wp2_with fail
    refine (rsmall_any 1 ⟨by decide, by decide⟩ w).mono ?_
    rintro e w1 ⟨a1, m1, c1, z1, rfl, kk1, l1, s1, u1, n1, b1⟩
    go_wp2_with fail
    refine (rcompare_any a a1 la ca m1 c1 zs z1 w1 (HS.out.below b1 (Nat.le_refl _)) s1 hn (Sl.there s1 u1 (by omega)) (by omega) (by omega) hc kk1).mono ?_
    rintro e w2 ⟨rfl, b2⟩
    have gc : (cmp3 (num zs) (num z1) == 0) = false := cmp_ne (by have := H1.out; omega)
    generalize cmp3 (num zs) (num z1) = C at *
    clear s1 n1
    go_wp2_with fail
    refine (rzero_b a la ca zs w2 (HS.out.below (step b1 b2) (Nat.le_refl _)) hn (by omega) hc).mono ?_
    rintro e w3 ⟨rfl, b3⟩
    rw [show decide (num zs = 0) = false by have := H1.out; simp; omega]
    go_wp2_with fail
    go_ret2
    exact ⟨none, 0, 0, [], false, rfl, ⟨rfl, Limbs.nil, fun h => absurd h (by decide)⟩, .inr ⟨rfl, HP.out⟩, step (step b1 b2) b3⟩
  · have hkn : 262144 ≤ k * n := by omega
    have hkn2 : k * n ≤ 262144 * 262144 := Nat.mul_le_mul hk (by omega)
    have ekn : (k : Int) * n = ((k * n : Nat) : Int) := by rw [Int.natCast_mul]
    obtain ⟨M, hM⟩ : ∃ M, k * n = M := ⟨_, rfl⟩
    rw [hM] at hkn hkn2 ekn
    have hg' : ¬ (262144 : Int) < n := by omega
    clear hlong hM
    go_enter Try.func43, Try.ntmps43
    go_wp2_with fail
    refine (rsmall_any 1 ⟨by decide, by decide⟩ w).mono ?_
    rintro e w1 ⟨a1, m1, c1, z1, rfl, kk1, l1, s1, u1, n1, b1⟩
    go_wp2_with fail
    refine (rcompare_any a a1 la ca m1 c1 zs z1 w1 (HS.out.below b1 (Nat.le_refl _)) s1 hn (Sl.there s1 u1 (by omega)) (by omega) (by omega) hc kk1).mono ?_
    rintro e w2 ⟨rfl, b2⟩
    have gc : (cmp3 (num zs) (num z1) == 0) = false := cmp_ne (by have := H1.out; omega)
    generalize cmp3 (num zs) (num z1) = C at *
    clear s1 n1
    go_wp2_with fail
    refine (rzero_b a la ca zs w2 (HS.out.below (step b1 b2) (Nat.le_refl _)) hn (by omega) hc).mono ?_
    rintro e w3 ⟨rfl, b3⟩
    rw [show decide (num zs = 0) = false by have := H1.out; simp; omega]
    go_wp2_with fail
    refine (HRB.out w3 (HS.out.below (step (step b1 b2) b3) (Nat.le_refl _))).mono ?_
    rintro e w4 ⟨rfl, b4⟩
    go_wp2_with fail
    go_ret2
    exact ⟨none, 0, 0, [], false, rfl, ⟨rfl, Limbs.nil, fun h => absurd h (by decide)⟩, .inr ⟨rfl, HP.out⟩, step (step (step b1 b2) b3) b4⟩
end Go.Proofs.Ytajjhnilpdmnhaa
namespace Go.Proofs.Ytajjhnilpdmnhaa
open Go.RowKit Go.Shelf
set_option linter.unusedVariables false

theorem rpow_small {A : Int} {k n : Nat} (hA : 0 ≤ A) (hk : A < 2 ^ (k + 1)) (h : k * n < 262144) (hn : n ≤ 262144) : A ^ n < pw 8192 := by
  have h1 := powr_le hA (show A ≤ 2 ^ (k + 1) - 1 by omega) n
  have h2 := powr_le (show (0 : Int) ≤ 2 ^ (k + 1) - 1 by have := p2_pos (k + 1); omega) (show (2 : Int) ^ (k + 1) - 1 ≤ 2 ^ (k + 1) by omega) n
  rw [p2_pow] at h2
  have h3 : (k + 1) * n < 524288 := by rw [Nat.add_mul]; omega
  have h4 := p2_mono (show (k + 1) * n + 1 ≤ 64 * 8192 by omega)
  rw [← pw_eq, Int.pow_succ] at h4
  have h5 := p2_pos ((k + 1) * n)
  generalize pw 8192 = P at *
  omega
set_option maxRecDepth 20000 in
set_option maxHeartbeats 4000000 in
theorem rpow_go (a : Option Addr) (la ca : Nat) (zs : List Int) (n k : Nat) (w : World) (h : Sl w a la zs) (hn : a = none → la = 0 ∧ ca = 0) (hl : la ≤ 1000000000) (hc : la ≤ ca) (h2 : 2 ≤ num zs) (hz : 0 < n) (hk : k ≤ 262144) (ek : bitsN zs = (k : Int) + 1) (k2 : num zs < 2 ^ (k + 1)) (hn1 : n ≤ 262144) (hkn : k * n < 262144) :
    Calls Try.prog 43 #[.slice a la ca, .int .i64 n] w fun e w' => PRes w w' e (num zs ^ n) := by
  have g1 : ((n : Int) == 0) = false := by simp; omega
  have HF : Hid (num zs ^ n < pw 8192) := rpow_small (by omega) k2 hkn hn1
  have RB := fun W hW => rbits_any a la ca zs W hW hn (by omega) hc
  simp only [ek] at RB
  have HRB : Hid (∀ W, Sl W a la zs → Calls Try.prog 20 #[.slice a la ca] W fun e w' => e = .returned (.int .i64 ((k : Int) + 1)) ∧ Below W.heap.size W w') := RB
  have ekn : (k : Int) * n = ((k * n : Nat) : Int) := by rw [Int.natCast_mul]
  obtain ⟨M, hM⟩ : ∃ M, k * n = M := ⟨_, rfl⟩
  rw [hM] at hkn ekn
  have hg' : ¬ (262144 : Int) < n := by omega
  have HS : Hid (Sl w a la zs) := h
  have H1 : Hid (2 ≤ num zs) := h2
  obtain ⟨A, hA⟩ : ∃ A, num zs = A := ⟨_, rfl⟩
  have HA : Hid (num zs = A) := hA
  rw [hA] at HF ⊢
  have HA2 : Hid (2 ≤ A) := by rw [← hA]; exact h2
  clear h h2 k2 ek RB hM hA
  go_enter Try.func43, Try.ntmps43
  go_wp2_with fail
  refine (rsmall_any 1 ⟨by decide, by decide⟩ w).mono ?_
  rintro e w1 ⟨a1, m1, c1, z1, rfl, kk1, l1, s1, u1, n1, b1⟩
  go_wp2_with fail
  refine (rcompare_any a a1 la ca m1 c1 zs z1 w1 (HS.out.below b1 (Nat.le_refl _)) s1 hn (Sl.there s1 u1 (by omega)) (by omega) (by omega) hc kk1).mono ?_
  rintro e w2 ⟨rfl, b2⟩
  have gc : (cmp3 (num zs) (num z1) == 0) = false := cmp_ne (by have := H1.out; omega)
  generalize cmp3 (num zs) (num z1) = C at *
  clear s1 n1
  go_wp2_with fail
  refine (rzero_b a la ca zs w2 (HS.out.below (step b1 b2) (Nat.le_refl _)) hn (by omega) hc).mono ?_
  rintro e w3 ⟨rfl, b3⟩
  rw [show decide (num zs = 0) = false by have := H1.out; simp; omega]
  go_wp2_with fail
  refine (HRB.out w3 (HS.out.below (step (step b1 b2) b3) (Nat.le_refl _))).mono ?_
  rintro e w4 ⟨rfl, b4⟩
  clear HRB
  set_option maxRecDepth 100000 in go_wp2_with fail
  refine (rsmall_any 1 ⟨by decide, by decide⟩ w4).mono ?_
  rintro e w5 ⟨a5, m5, c5, z5, rfl, k5, l5, s5, u5, n5, b5⟩
  have HB5 : Hid (Below w.heap.size w w5) := step (step (step (step b1 b2) b3) b4) b5
  have HS5 : Hid (Sl w5 a5 m5 z5) := s5
  have HU5 : Hid (usedN z5 = m5) := u5
  have HN5 : Hid (num z5 = A ^ (n / 2 ^ 31)) := by show _ = _; rw [n5, Nat.div_eq_of_lt (by omega)]; simp
  clear b1 b2 b3 b4 b5 s5 u5 n5 gc ekn
  go_wp2_with fail
  go_loopw [6, 7] (fun x bt wr => ∃ (t : Nat) (b : Option Addr) (lb cb : Nat) (xs : List Int), x = .slice b lb cb ∧ bt = .int .i64 (pb t) ∧ t ≤ 31 ∧ lb ≤ cb ∧ Hid (Sl wr b lb xs) ∧ Hid (usedN xs = lb) ∧ Hid (num xs = A ^ (n / 2 ^ t)) ∧ Hid (Below w.heap.size w wr)) (fun _ bt _ => (intOf bt).toNat)
  case atStart => exact ⟨31, a5, m5, c5, z5, rfl, rfl, by omega, k5, HS5, HU5, HN5, HB5⟩
  case round =>
    clear HS5 HU5 HN5 HB5
    obtain ⟨t, b, lb, cb, xs, rfl, rfl, ht, hcb, hs, hu, hnx, hB⟩ := hrel
    have lb8 : lb ≤ 8192 := by
      have h5 := HF.out
      have h6 := powr_up (show 1 ≤ A by have := HA2.out; omega) (Nat.div_le_self n (2 ^ t))
      have h7 := used_of_lt hs.out.2.1 (n := 8192) (by rw [hnx.out]; exact Int.lt_of_le_of_lt h6 h5)
      have := hu.out
      omega
    cases t with
    | zero =>
      have HE : Hid (num xs = A ^ n) := by show _ = _; rw [hnx.out]; simp
      have e0 : ((pb 0 : Nat) : Int) = 0 := rfl
      rw [e0]
      by_cases hlg : 4096 < usedN xs
      · have HP : Hid (pw 4096 ≤ A ^ n) := by
          show _ ≤ _
          rw [← HE.out]
          have h5 := num_ge_used hs.out.2.1 (by omega)
          have h6 := pw_mono (show 4096 ≤ usedN xs - 1 by omega)
          exact Int.le_trans h6 h5
        go_wp2_with fail
        refine (rlong_yes b lb cb xs wr hs.out (by omega) hlg).mono ?_
        rintro e w6 ⟨rfl, b6⟩
        clear hlg
        go_wp2_with fail
        go_ret2
        exact ⟨b, lb, cb, xs, false, rfl, hs.out.below b6 (Nat.le_refl _), .inr ⟨rfl, HP.out⟩, step hB.out b6⟩
      · have hlg' : usedN xs ≤ 4096 := by omega
        have HP : Hid (A ^ n < pw 4096) := by show _ < _; rw [← HE.out]; exact lt_of_used hs.out.2.1 hlg'
        clear hlg
        go_wp2_with fail
        refine (rlong_no b lb cb xs wr hs.out (by omega) hlg').mono ?_
        rintro e w6 ⟨rfl, b6⟩
        clear hlg'
        go_wp2_with fail
        go_ret2
        exact ⟨b, lb, cb, xs, true, rfl, hs.out.below b6 (Nat.le_refl _), .inl ⟨rfl, hu.out, HE.out, HP.out⟩, step hB.out b6⟩
    | succ t =>
      have hph := pb_half t
      obtain ⟨P, hP⟩ : ∃ P, pb (t + 1) = P := ⟨_, rfl⟩
      have hP2 : 2 ^ t = P := hP
      have hPpos : 0 < P := by rw [← hP2]; exact Nat.pow_pos (by decide)
      have hPle : P ≤ 1073741824 := by
        rw [← hP2]
        have := Nat.pow_le_pow_right (n := 2) (by decide) (show t ≤ 30 by omega)
        have h5 : (2 : Nat) ^ 30 = 1073741824 := by decide
        omega
      rw [hP] at hph ⊢
      obtain ⟨D, hD⟩ : ∃ D, n / P = D := ⟨_, rfl⟩
      have eD : (n : Int) / (P : Int) = (D : Int) := by rw [← hD]; exact (Int.natCast_ediv n P).symm
      obtain ⟨R, hR⟩ : ∃ R, pb t = R := ⟨_, rfl⟩
      rw [hR] at hph
      have eR : (P : Int) / 2 = (R : Int) := by omega
      have eM : n / 2 ^ (t + 1) = D / 2 := by rw [Nat.pow_succ, ← Nat.div_div_eq_div_mul, hP2, hD]
      have HNX : Hid (num xs = A ^ (D / 2)) := by show _ = _; rw [hnx.out, eM]
      have HDT : Hid (n / 2 ^ t = D) := by show _ = _; rw [hP2]; exact hD
      have hDn : D ≤ n := by rw [← hD]; exact Nat.div_le_self n P
      have gP : ((P : Int) == 0) = false := by simp; omega
      have hPp : (0 : Int) < P := by omega
      have HRT : Hid (pb t = R) := hR
      clear hP hP2 hD hR eM hnx hph
      go_wp2_with fail
      refine (rmul_any b b lb cb lb cb xs xs wr hs.out hs.out (by omega) (by omega)).mono ?_
      rintro e w6 ⟨a6, m6, c6, z6, rfl, k6, l6, s6, u6, n6, b6⟩
      have HN6 : Hid (num z6 = A ^ (D / 2) * A ^ (D / 2)) := by show _ = _; rw [n6, HNX.out]
      have HB6 : Hid (Below w.heap.size w w6) := step hB.out b6
      clear n6 b6
      by_cases hodd : D % 2 = 1
      · have g2 : ((D : Int) % 2 == 1) = true := by simp; omega
        have HE : Hid (A ^ (D / 2) * A ^ (D / 2) * A = A ^ (n / 2 ^ t)) := by
          show _ = _
          rw [HDT.out]
          have := pow_half A (D / 2) 1
          rw [show 2 * (D / 2) + 1 = D by omega, Int.pow_succ, Int.pow_zero, Int.one_mul] at this
          exact this.symm
        go_wp2_with fail
        refine (rmul_any a6 a m6 c6 la ca z6 zs w6 s6 (HS.out.below HB6.out (Nat.le_refl _)) (by omega) (by omega)).mono ?_
        rintro e w7 ⟨a7, m7, c7, z7, rfl, k7, l7, s7, u7, n7, b7⟩
        have HN7 : Hid (num z7 = A ^ (n / 2 ^ t)) := by show _ = _; rw [n7, HN6.out, HA.out]; exact HE.out
        have HB7 : Hid (Below w.heap.size w w7) := step HB6.out b7
        have HS7 : Hid (Sl w7 a7 m7 z7) := s7
        have HU7 : Hid (usedN z7 = m7) := u7
        clear n7 s7 u7 s6 b7
        go_wp2_with fail
        go_roundw
        case rel => exact ⟨t, a7, m7, c7, z7, rfl, by rw [HRT.out], by omega, k7, HS7, HU7, HN7, HB7⟩
        case measure => simp [intOf]; omega
      · have g2 : ((D : Int) % 2 == 1) = false := by simp; omega
        have HN7 : Hid (num z6 = A ^ (n / 2 ^ t)) := by
          show _ = _
          rw [HN6.out, HDT.out]
          have := pow_half A (D / 2) 0
          rw [show 2 * (D / 2) + 0 = D by omega, Int.pow_zero, Int.mul_one] at this
          exact this.symm
        have HS7 : Hid (Sl w6 a6 m6 z6) := s6
        have HU7 : Hid (usedN z6 = m6) := u6
        clear s6 u6
        go_wp2_with fail
        go_roundw
        case rel => exact ⟨t, a6, m6, c6, z6, rfl, by rw [HRT.out], by omega, k6, HS7, HU7, HN7, HB6⟩
        case measure => simp [intOf]; omega
theorem rpow_any (a : Option Addr) (la ca : Nat) (zs : List Int) (n : Nat) (w : World) (h : Sl w a la zs) (hn : a = none → la = 0 ∧ ca = 0) (hl : la ≤ 1000000000) (hc : la ≤ ca) (hu : usedN zs ≤ 4096) (hn63 : n ≤ 9223372036854775807) :
    Calls Try.prog 43 #[.slice a la ca, .int .i64 n] w fun e w' => PRes w w' e (num zs ^ n) := by
  rcases Nat.eq_zero_or_pos n with rfl | hz
  · exact rpow_nought a la ca zs w h
  · have h0 := num_nonneg h.2.1
    by_cases h1 : num zs = 1
    · exact rpow_one a la ca zs n w h hn hl hc h1 hz
    · by_cases h2 : num zs = 0
      · exact rpow_zero a la ca zs n w h hn hl hc h2 hz
      · have uz : 0 < usedN zs := by
          rcases Nat.eq_zero_or_pos (usedN zs) with h' | h'
          · exact absurd ((num_eq_zero h.2.1).2 h') h2
          · exact h'
        obtain ⟨k, ek, k1, k2⟩ := bits_spec h.2.1 uz
        have hbl := bits_limbs h.2.1
        by_cases hlong : 262144 < n ∨ 262144 ≤ k * n
        · exact rpow_long a la ca zs n k w h hn hl hc (by omega) hz (by omega) ek k1 hlong hn63
        · exact rpow_go a la ca zs n k w h hn hl hc (by omega) hz (by omega) ek k2 (by omega) (by omega)
end Go.Proofs.Ytajjhnilpdmnhaa
namespace Go.Proofs.Ytajjhnilpdmnhaa.natPowers
open Go.RowKit Go.Shelf
set_option linter.unusedVariables false
theorem i64_le {n : Int} (h : (Lit.int .i64 n).wf = true) : n ≤ 9223372036854775807 := by
  simp [Lit.wf, IntKind.min, IntKind.max, IntKind.signed, IntKind.bits] at h
  omega
theorem rroot_any (a : Option Addr) (la ca : Nat) (zs : List Int) (w : World) (h : Sl w a la zs) (hn : a = none → la = 0 ∧ ca = 0) (hl : la ≤ 1000000000) (hc : la ≤ ca) (hu : usedN zs ≤ 4096) :
    Calls Try.prog 42 #[.slice a la ca] w fun e w' => ∃ a' m c ds, e = .returned (.slice a' m c) ∧ Sl w' a' m ds ∧ usedN ds = m ∧ IsRoot (num zs) (num ds) ∧ Below w.heap.size w w' := by
  by_cases h0 : num zs = 0
  · refine (rroot_zero a la ca zs w h hn (by omega) hc h0).mono ?_
    rintro e w' ⟨a', m, c, h1, ds, h2, h3, h4, h5⟩
    exact ⟨a', m, c, ds, h1, h2, h3, h4, h5⟩
  · refine (rroot_pos a la ca zs w h hn hl hc h0 hu).mono ?_
    rintro e w' ⟨a', m, c, h1, ds, h2, h3, h4, h5⟩
    exact ⟨a', m, c, ds, h1, h2, h3, h4, h5⟩
theorem pow_fit (a : Option Addr) (la ca : Nat) (xs : List Int) (n : Nat) (w : World) (ha : Nt w a la ca xs) (hn : n ≤ 9223372036854775807) (hf : Hid (num xs ^ n < pw 4096)) :
    Calls Try.prog 40 #[.agg #[.slice a la ca], .int .i64 n] w fun e w' => ∃ a' l' c' zs, e = .returned (.tuple #[.agg #[.slice a' l' c'], .int .i64 0]) ∧ Nt w' a' l' c' zs ∧ num zs = num xs ^ n ∧ Below w.heap.size w w' := by
  refine (pow_any a la ca xs n w ha hn).mono ?_
  rintro e w' (h | ⟨-, hb, -⟩)
  · exact h
  · exact absurd hb.ge (Int.not_le.2 hf.out)
theorem pow_big (a : Option Addr) (la ca : Nat) (xs : List Int) (n : Nat) (w : World) (ha : Nt w a la ca xs) (hn : n ≤ 9223372036854775807) (hf : Hid (pw 4096 ≤ num xs ^ n)) :
    Calls Try.prog 40 #[.agg #[.slice a la ca], .int .i64 n] w fun e w' => e = .returned (.tuple #[.agg #[.slice none 0 0], .int .i64 3]) ∧ Below w.heap.size w w' := by
  refine (pow_any a la ca xs n w ha hn).mono ?_
  rintro e w' (⟨a', l', c', zs, -, h1, h2, -⟩ | ⟨h1, -, h2⟩)
  · have h3 := h1.lt
    rw [h2] at h3
    exact absurd hf.out (Int.not_le.2 h3)
  · exact ⟨h1, h2⟩
theorem rpow_fit (a : Option Addr) (la ca : Nat) (zs : List Int) (n : Nat) (w : World) (h : Sl w a la zs) (hn : a = none → la = 0 ∧ ca = 0) (hl : la ≤ 1000000000) (hc : la ≤ ca) (hu : usedN zs ≤ 4096) (hn63 : n ≤ 9223372036854775807) (hf : Hid (num zs ^ n < pw 4096)) :
    Calls Try.prog 43 #[.slice a la ca, .int .i64 n] w fun e w' => ∃ a m c ds, e = .returned (.tuple #[.slice a m c, .bool true]) ∧ Sl w' a m ds ∧ usedN ds = m ∧ num ds = num zs ^ n ∧ Below w.heap.size w w' := by
  refine (rpow_any a la ca zs n w h hn hl hc hu hn63).mono ?_
  rintro e w' ⟨a1, m, c, ds, may, h1, h2, h3, h4⟩
  rcases h3.out with ⟨rfl, h5, h6, -⟩ | ⟨-, h5⟩
  · exact ⟨a1, m, c, ds, h1, h2, h5, h6, h4⟩
  · exact absurd h5 (Int.not_le.2 hf.out)
theorem rpow_bigr (a : Option Addr) (la ca : Nat) (zs : List Int) (n : Nat) (w : World) (h : Sl w a la zs) (hn : a = none → la = 0 ∧ ca = 0) (hl : la ≤ 1000000000) (hc : la ≤ ca) (hu : usedN zs ≤ 4096) (hn63 : n ≤ 9223372036854775807) (hf : Hid (pw 4096 ≤ num zs ^ n)) :
    Calls Try.prog 43 #[.slice a la ca, .int .i64 n] w fun e w' => ∃ a m c, e = .returned (.tuple #[.slice a m c, .bool false]) ∧ Below w.heap.size w w' := by
  refine (rpow_any a la ca zs n w h hn hl hc hu hn63).mono ?_
  rintro e w' ⟨a1, m, c, ds, may, h1, h2, h3, h4⟩
  rcases h3.out with ⟨-, -, -, h5⟩ | ⟨rfl, -⟩
  · exact absurd hf.out (Int.not_le.2 h5)
  · exact ⟨a1, m, c, h1, h4⟩

set_option maxRecDepth 20000 in
set_option maxHeartbeats 4000000 in
theorem walk_a (a0 : Option Addr) (len0 cap0 : Nat) (z0 : List Int) (t : Int) (w : World) (s0 : Sl w a0 len0 z0) (c0 : len0 ≤ cap0) (r0 : cap0 ≤ 1048576) (e0 : a0 = none → len0 = 0 ∧ cap0 = 0) (ht : (Lit.int .i64 t).wf = true) (hu : 4096 < usedN z0) :
    Calls Try.prog 7 #[.slice a0 len0 cap0, .int .i64 t] w fun e w' => e = .returned (.bool true) ∧ Below w.heap.size w w' := by
  have B0 : Below w.heap.size w w := Below.refl _ _
  go_enter Try.func7, Try.ntmps7
  go_wp2_with fail
  refine (nawake_any w).mono ?_
  rintro e x1 ⟨rfl, hb⟩
  replace s0 := s0.below hb (Nat.le_refl _)
  replace B0 := step B0 hb
  clear hb
  set_option maxRecDepth 100000 in go_wp2_with fail
  refine (rlong_yes a0 len0 cap0 z0 x1 s0 (by omega) hu).mono ?_
  rintro e x2 ⟨rfl, hb⟩
  replace s0 := s0.below hb (Nat.le_refl _)
  replace B0 := step B0 hb
  clear hb
  set_option maxRecDepth 100000 in go_wp2_with fail
  go_ret
  exact ⟨rfl, B0⟩

set_option maxRecDepth 20000 in
set_option maxHeartbeats 4000000 in
theorem walk_n (a0 : Option Addr) (len0 cap0 : Nat) (z0 : List Int) (t : Int) (w : World) (s0 : Sl w a0 len0 z0) (c0 : len0 ≤ cap0) (r0 : cap0 ≤ 1048576) (e0 : a0 = none → len0 = 0 ∧ cap0 = 0) (ht : (Lit.int .i64 t).wf = true) (u0 : usedN z0 ≤ 4096) (hn : t < 0) :
    Calls Try.prog 7 #[.slice a0 len0 cap0, .int .i64 t] w fun e w' => e = .returned (.bool true) ∧ Below w.heap.size w w' := by
  have B0 : Below w.heap.size w w := Below.refl _ _
  go_enter Try.func7, Try.ntmps7
  go_wp2_with fail
  refine (nawake_any w).mono ?_
  rintro e x1 ⟨rfl, hb⟩
  replace s0 := s0.below hb (Nat.le_refl _)
  replace B0 := step B0 hb
  clear hb
  set_option maxRecDepth 100000 in go_wp2_with fail
  refine (rlong_no a0 len0 cap0 z0 x1 s0 (by omega) u0).mono ?_
  rintro e x2 ⟨rfl, hb⟩
  replace s0 := s0.below hb (Nat.le_refl _)
  replace B0 := step B0 hb
  clear hb
  set_option maxRecDepth 100000 in go_wp2_with fail
  refine (oflaw_ok a0 len0 cap0 z0 x2 s0 e0 (by omega) c0 u0).mono ?_
  rintro e x3 ⟨ax, lx, kx, zx, rfl, hx, nx, hb⟩
  replace s0 := s0.below hb (Nat.le_refl _)
  replace B0 := step B0 hb
  clear hb
  set_option maxRecDepth 100000 in go_wp2_with fail
  refine ent1 x3 _ _ (Q := fun W => Calls Try.prog _ _ W _) ?_
  intro x4 hb hs_x4 Vx
  replace hx := Nt.after hb hx
  replace s0 := s0.below hb (Nat.le_refl _)
  replace B0 := step B0 hb
  clear hb hs_x4
  have HNX : Hid (num zx = num z0) := nx
  clear nx
  refine (pow_neg ax lx kx t x4 hn).mono ?_
  rintro e x5 ⟨rfl, hb⟩
  replace Vx := Va.after hb Vx
  replace hx := Nt.after hb hx
  replace s0 := s0.below hb (Nat.le_refl _)
  replace B0 := step B0 hb
  clear hb
  have c_Vx := Vx.cell
  have f_Vx := Vx.frozen 0
  have l_Vx := Vx.lt
  have m_Vx := Nat.le_of_lt l_Vx
  set_option maxRecDepth 100000 in go_wp2_with fail
  refine ent1 x5 _ _ (Q := fun W => Calls Try.prog _ _ W _) ?_
  intro x6 hb hs_x6 Vp
  replace Vx := Va.after hb Vx
  replace hx := Nt.after hb hx
  replace s0 := s0.below hb (Nat.le_refl _)
  replace B0 := step B0 hb
  clear hb hs_x6
  refine (root_any ax lx kx zx x6 hx).mono ?_
  rintro e x7 ⟨ag, lg, kg, zg, rfl, hg, ig, hb⟩
  replace Vx := Va.after hb Vx
  replace Vp := Va.after hb Vp
  replace hx := Nt.after hb hx
  replace s0 := s0.below hb (Nat.le_refl _)
  replace B0 := step B0 hb
  clear hb
  have HIG : Hid (IsRoot (num z0) (num zg)) := by show IsRoot _ _; rw [← HNX.out]; exact ig
  clear ig
  clear c_Vx f_Vx l_Vx m_Vx
  have c_Vx := Vx.cell
  have f_Vx := Vx.frozen 0
  have l_Vx := Vx.lt
  have m_Vx := Nat.le_of_lt l_Vx
  have c_Vp := Vp.cell
  have f_Vp := Vp.frozen 0
  have l_Vp := Vp.lt
  have m_Vp := Nat.le_of_lt l_Vp
  set_option maxRecDepth 100000 in go_wp2_with fail
  refine (rroot_any a0 len0 cap0 z0 x7 s0 e0 (by omega) c0 u0).mono ?_
  rintro e x8 ⟨a5, m5, c5, z5, rfl, s5, u5, i5, hb⟩
  replace Vx := Va.after hb Vx
  replace Vp := Va.after hb Vp
  replace hx := Nt.after hb hx
  replace hg := Nt.after hb hg
  replace s0 := s0.below hb (Nat.le_refl _)
  replace B0 := step B0 hb
  clear hb
  have HE5 : Hid (num z5 = num zg) := by show _ = _; obtain ⟨q1, q2, q3⟩ := HIG.out; obtain ⟨q4, q5, q6⟩ := i5; exact root_one q4 q1 q5 q6 q2 q3
  clear i5
  clear c_Vx f_Vx l_Vx m_Vx c_Vp f_Vp l_Vp m_Vp
  have c_Vx := Vx.cell
  have f_Vx := Vx.frozen 0
  have l_Vx := Vx.lt
  have m_Vx := Nat.le_of_lt l_Vx
  have c_Vp := Vp.cell
  have f_Vp := Vp.frozen 0
  have l_Vp := Vp.lt
  have m_Vp := Nat.le_of_lt l_Vp
  set_option maxRecDepth 100000 in go_wp2_with fail
  refine (is_ok ag a5 lg kg m5 c5 zg z5 x8 hg s5 u5 HE5.out).mono ?_
  rintro e x9 ⟨rfl, hb⟩
  replace Vx := Va.after hb Vx
  replace Vp := Va.after hb Vp
  replace hx := Nt.after hb hx
  replace hg := Nt.after hb hg
  replace s0 := s0.below hb (Nat.le_refl _)
  replace s5 := s5.below hb (Nat.le_refl _)
  replace B0 := step B0 hb
  clear hb
  clear c_Vx f_Vx l_Vx m_Vx c_Vp f_Vp l_Vp m_Vp
  have c_Vx := Vx.cell
  have f_Vx := Vx.frozen 0
  have l_Vx := Vx.lt
  have m_Vx := Nat.le_of_lt l_Vx
  have c_Vp := Vp.cell
  have f_Vp := Vp.frozen 0
  have l_Vp := Vp.lt
  have m_Vp := Nat.le_of_lt l_Vp
  set_option maxRecDepth 100000 in go_wp2_with fail
  refine (is_nil 0 0 none none x9).mono ?_
  rintro e x10 ⟨rfl, hb⟩
  replace Vx := Va.after hb Vx
  replace Vp := Va.after hb Vp
  replace hx := Nt.after hb hx
  replace hg := Nt.after hb hg
  replace s0 := s0.below hb (Nat.le_refl _)
  replace s5 := s5.below hb (Nat.le_refl _)
  replace B0 := step B0 hb
  clear hb
  clear c_Vx f_Vx l_Vx m_Vx c_Vp f_Vp l_Vp m_Vp
  have c_Vx := Vx.cell
  have f_Vx := Vx.frozen 0
  have l_Vx := Vx.lt
  have m_Vx := Nat.le_of_lt l_Vx
  have c_Vp := Vp.cell
  have f_Vp := Vp.frozen 0
  have l_Vp := Vp.lt
  have m_Vp := Nat.le_of_lt l_Vp
  set_option maxRecDepth 100000 in go_wp2_with fail
  go_ret
  exact ⟨rfl, B0⟩

set_option maxRecDepth 20000 in
set_option maxHeartbeats 4000000 in
theorem walk_f (a0 : Option Addr) (len0 cap0 : Nat) (z0 : List Int) (t : Int) (w : World) (s0 : Sl w a0 len0 z0) (c0 : len0 ≤ cap0) (r0 : cap0 ≤ 1048576) (e0 : a0 = none → len0 = 0 ∧ cap0 = 0) (ht : (Lit.int .i64 t).wf = true) (u0 : usedN z0 ≤ 4096) (hn : 0 ≤ t) (hf : Hid (num z0 ^ t.toNat < pw 4096)) :
    Calls Try.prog 7 #[.slice a0 len0 cap0, .int .i64 t] w fun e w' => e = .returned (.bool true) ∧ Below w.heap.size w w' := by
  have B0 : Below w.heap.size w w := Below.refl _ _
  go_enter Try.func7, Try.ntmps7
  go_wp2_with fail
  refine (nawake_any w).mono ?_
  rintro e x1 ⟨rfl, hb⟩
  replace s0 := s0.below hb (Nat.le_refl _)
  replace B0 := step B0 hb
  clear hb
  set_option maxRecDepth 100000 in go_wp2_with fail
  refine (rlong_no a0 len0 cap0 z0 x1 s0 (by omega) u0).mono ?_
  rintro e x2 ⟨rfl, hb⟩
  replace s0 := s0.below hb (Nat.le_refl _)
  replace B0 := step B0 hb
  clear hb
  set_option maxRecDepth 100000 in go_wp2_with fail
  refine (oflaw_ok a0 len0 cap0 z0 x2 s0 e0 (by omega) c0 u0).mono ?_
  rintro e x3 ⟨ax, lx, kx, zx, rfl, hx, nx, hb⟩
  replace s0 := s0.below hb (Nat.le_refl _)
  replace B0 := step B0 hb
  clear hb
  set_option maxRecDepth 100000 in go_wp2_with fail
  refine ent1 x3 _ _ (Q := fun W => Calls Try.prog _ _ W _) ?_
  intro x4 hb hs_x4 Vx
  replace hx := Nt.after hb hx
  replace s0 := s0.below hb (Nat.le_refl _)
  replace B0 := step B0 hb
  clear hb hs_x4
  have HNX : Hid (num zx = num z0) := nx
  clear nx
  obtain ⟨n, rfl⟩ := Int.eq_ofNat_of_zero_le hn
  have htb : n ≤ 9223372036854775807 := by have h5 := i64_le ht; omega
  rw [Int.toNat_natCast] at hf
  have HFX : Hid (num zx ^ n < pw 4096) := by rw [HNX.out]; exact hf
  refine (pow_fit ax lx kx zx n x4 hx htb HFX).mono ?_
  rintro e x5 ⟨ap, lp, kp, zp, rfl, hp, np, hb⟩
  replace Vx := Va.after hb Vx
  replace hx := Nt.after hb hx
  replace s0 := s0.below hb (Nat.le_refl _)
  replace B0 := step B0 hb
  clear hb
  have HNP : Hid (num zp = num z0 ^ n) := by show _ = _; rw [np, HNX.out]
  clear np
  have c_Vx := Vx.cell
  have f_Vx := Vx.frozen 0
  have l_Vx := Vx.lt
  have m_Vx := Nat.le_of_lt l_Vx
  set_option maxRecDepth 100000 in go_wp2_with fail
  refine ent1 x5 _ _ (Q := fun W => Calls Try.prog _ _ W _) ?_
  intro x6 hb hs_x6 Vp
  replace Vx := Va.after hb Vx
  replace hx := Nt.after hb hx
  replace hp := Nt.after hb hp
  replace s0 := s0.below hb (Nat.le_refl _)
  replace B0 := step B0 hb
  clear hb hs_x6
  refine (root_any ax lx kx zx x6 hx).mono ?_
  rintro e x7 ⟨ag, lg, kg, zg, rfl, hg, ig, hb⟩
  replace Vx := Va.after hb Vx
  replace Vp := Va.after hb Vp
  replace hx := Nt.after hb hx
  replace hp := Nt.after hb hp
  replace s0 := s0.below hb (Nat.le_refl _)
  replace B0 := step B0 hb
  clear hb
  have HIG : Hid (IsRoot (num z0) (num zg)) := by show IsRoot _ _; rw [← HNX.out]; exact ig
  clear ig
  clear c_Vx f_Vx l_Vx m_Vx
  have c_Vx := Vx.cell
  have f_Vx := Vx.frozen 0
  have l_Vx := Vx.lt
  have m_Vx := Nat.le_of_lt l_Vx
  have c_Vp := Vp.cell
  have f_Vp := Vp.frozen 0
  have l_Vp := Vp.lt
  have m_Vp := Nat.le_of_lt l_Vp
  set_option maxRecDepth 100000 in go_wp2_with fail
  refine (rroot_any a0 len0 cap0 z0 x7 s0 e0 (by omega) c0 u0).mono ?_
  rintro e x8 ⟨a5, m5, c5, z5, rfl, s5, u5, i5, hb⟩
  replace Vx := Va.after hb Vx
  replace Vp := Va.after hb Vp
  replace hx := Nt.after hb hx
  replace hp := Nt.after hb hp
  replace hg := Nt.after hb hg
  replace s0 := s0.below hb (Nat.le_refl _)
  replace B0 := step B0 hb
  clear hb
  have HE5 : Hid (num z5 = num zg) := by show _ = _; obtain ⟨q1, q2, q3⟩ := HIG.out; obtain ⟨q4, q5, q6⟩ := i5; exact root_one q4 q1 q5 q6 q2 q3
  clear i5
  clear c_Vx f_Vx l_Vx m_Vx c_Vp f_Vp l_Vp m_Vp
  have c_Vx := Vx.cell
  have f_Vx := Vx.frozen 0
  have l_Vx := Vx.lt
  have m_Vx := Nat.le_of_lt l_Vx
  have c_Vp := Vp.cell
  have f_Vp := Vp.frozen 0
  have l_Vp := Vp.lt
  have m_Vp := Nat.le_of_lt l_Vp
  set_option maxRecDepth 100000 in go_wp2_with fail
  refine (is_ok ag a5 lg kg m5 c5 zg z5 x8 hg s5 u5 HE5.out).mono ?_
  rintro e x9 ⟨rfl, hb⟩
  replace Vx := Va.after hb Vx
  replace Vp := Va.after hb Vp
  replace hx := Nt.after hb hx
  replace hp := Nt.after hb hp
  replace hg := Nt.after hb hg
  replace s0 := s0.below hb (Nat.le_refl _)
  replace s5 := s5.below hb (Nat.le_refl _)
  replace B0 := step B0 hb
  clear hb
  clear c_Vx f_Vx l_Vx m_Vx c_Vp f_Vp l_Vp m_Vp
  have c_Vx := Vx.cell
  have f_Vx := Vx.frozen 0
  have l_Vx := Vx.lt
  have m_Vx := Nat.le_of_lt l_Vx
  have c_Vp := Vp.cell
  have f_Vp := Vp.frozen 0
  have l_Vp := Vp.lt
  have m_Vp := Nat.le_of_lt l_Vp
  set_option maxRecDepth 100000 in go_wp2_with fail
  refine (rpow_fit a0 len0 cap0 z0 n x9 s0 e0 (by omega) c0 u0 htb hf).mono ?_
  rintro e x10 ⟨a6, m6, c6, z6, rfl, s6, u6, n6, hb⟩
  replace Vx := Va.after hb Vx
  replace Vp := Va.after hb Vp
  replace hx := Nt.after hb hx
  replace hp := Nt.after hb hp
  replace hg := Nt.after hb hg
  replace s0 := s0.below hb (Nat.le_refl _)
  replace s5 := s5.below hb (Nat.le_refl _)
  replace B0 := step B0 hb
  clear hb
  have HN6 : Hid (num z6 = num z0 ^ n) := n6
  clear n6
  clear c_Vx f_Vx l_Vx m_Vx c_Vp f_Vp l_Vp m_Vp
  have c_Vx := Vx.cell
  have f_Vx := Vx.frozen 0
  have l_Vx := Vx.lt
  have m_Vx := Nat.le_of_lt l_Vx
  have c_Vp := Vp.cell
  have f_Vp := Vp.frozen 0
  have l_Vp := Vp.lt
  have m_Vp := Nat.le_of_lt l_Vp
  set_option maxRecDepth 100000 in go_wp2_with fail
  refine (is_ok ap a6 lp kp m6 c6 zp z6 x10 hp s6 u6 (by rw [HN6.out, HNP.out])).mono ?_
  rintro e x11 ⟨rfl, hb⟩
  replace Vx := Va.after hb Vx
  replace Vp := Va.after hb Vp
  replace hx := Nt.after hb hx
  replace hp := Nt.after hb hp
  replace hg := Nt.after hb hg
  replace s0 := s0.below hb (Nat.le_refl _)
  replace s5 := s5.below hb (Nat.le_refl _)
  replace s6 := s6.below hb (Nat.le_refl _)
  replace B0 := step B0 hb
  clear hb
  clear c_Vx f_Vx l_Vx m_Vx c_Vp f_Vp l_Vp m_Vp
  have c_Vx := Vx.cell
  have f_Vx := Vx.frozen 0
  have l_Vx := Vx.lt
  have m_Vx := Nat.le_of_lt l_Vx
  have c_Vp := Vp.cell
  have f_Vp := Vp.frozen 0
  have l_Vp := Vp.lt
  have m_Vp := Nat.le_of_lt l_Vp
  set_option maxRecDepth 100000 in go_wp2_with fail
  go_ret
  exact ⟨rfl, B0⟩

set_option maxRecDepth 20000 in
set_option maxHeartbeats 4000000 in
theorem walk_b (a0 : Option Addr) (len0 cap0 : Nat) (z0 : List Int) (t : Int) (w : World) (s0 : Sl w a0 len0 z0) (c0 : len0 ≤ cap0) (r0 : cap0 ≤ 1048576) (e0 : a0 = none → len0 = 0 ∧ cap0 = 0) (ht : (Lit.int .i64 t).wf = true) (u0 : usedN z0 ≤ 4096) (hn : 0 ≤ t) (hf : Hid (pw 4096 ≤ num z0 ^ t.toNat)) :
    Calls Try.prog 7 #[.slice a0 len0 cap0, .int .i64 t] w fun e w' => e = .returned (.bool true) ∧ Below w.heap.size w w' := by
  have B0 : Below w.heap.size w w := Below.refl _ _
  go_enter Try.func7, Try.ntmps7
  go_wp2_with fail
  refine (nawake_any w).mono ?_
  rintro e x1 ⟨rfl, hb⟩
  replace s0 := s0.below hb (Nat.le_refl _)
  replace B0 := step B0 hb
  clear hb
  set_option maxRecDepth 100000 in go_wp2_with fail
  refine (rlong_no a0 len0 cap0 z0 x1 s0 (by omega) u0).mono ?_
  rintro e x2 ⟨rfl, hb⟩
  replace s0 := s0.below hb (Nat.le_refl _)
  replace B0 := step B0 hb
  clear hb
  set_option maxRecDepth 100000 in go_wp2_with fail
  refine (oflaw_ok a0 len0 cap0 z0 x2 s0 e0 (by omega) c0 u0).mono ?_
  rintro e x3 ⟨ax, lx, kx, zx, rfl, hx, nx, hb⟩
  replace s0 := s0.below hb (Nat.le_refl _)
  replace B0 := step B0 hb
  clear hb
  set_option maxRecDepth 100000 in go_wp2_with fail
  refine ent1 x3 _ _ (Q := fun W => Calls Try.prog _ _ W _) ?_
  intro x4 hb hs_x4 Vx
  replace hx := Nt.after hb hx
  replace s0 := s0.below hb (Nat.le_refl _)
  replace B0 := step B0 hb
  clear hb hs_x4
  have HNX : Hid (num zx = num z0) := nx
  clear nx
  obtain ⟨n, rfl⟩ := Int.eq_ofNat_of_zero_le hn
  have htb : n ≤ 9223372036854775807 := by have h5 := i64_le ht; omega
  rw [Int.toNat_natCast] at hf
  have HFX : Hid (pw 4096 ≤ num zx ^ n) := by rw [HNX.out]; exact hf
  refine (pow_big ax lx kx zx n x4 hx htb HFX).mono ?_
  rintro e x5 ⟨rfl, hb⟩
  replace Vx := Va.after hb Vx
  replace hx := Nt.after hb hx
  replace s0 := s0.below hb (Nat.le_refl _)
  replace B0 := step B0 hb
  clear hb
  have c_Vx := Vx.cell
  have f_Vx := Vx.frozen 0
  have l_Vx := Vx.lt
  have m_Vx := Nat.le_of_lt l_Vx
  set_option maxRecDepth 100000 in go_wp2_with fail
  refine ent1 x5 _ _ (Q := fun W => Calls Try.prog _ _ W _) ?_
  intro x6 hb hs_x6 Vp
  replace Vx := Va.after hb Vx
  replace hx := Nt.after hb hx
  replace s0 := s0.below hb (Nat.le_refl _)
  replace B0 := step B0 hb
  clear hb hs_x6
  refine (root_any ax lx kx zx x6 hx).mono ?_
  rintro e x7 ⟨ag, lg, kg, zg, rfl, hg, ig, hb⟩
  replace Vx := Va.after hb Vx
  replace Vp := Va.after hb Vp
  replace hx := Nt.after hb hx
  replace s0 := s0.below hb (Nat.le_refl _)
  replace B0 := step B0 hb
  clear hb
  have HIG : Hid (IsRoot (num z0) (num zg)) := by show IsRoot _ _; rw [← HNX.out]; exact ig
  clear ig
  clear c_Vx f_Vx l_Vx m_Vx
  have c_Vx := Vx.cell
  have f_Vx := Vx.frozen 0
  have l_Vx := Vx.lt
  have m_Vx := Nat.le_of_lt l_Vx
  have c_Vp := Vp.cell
  have f_Vp := Vp.frozen 0
  have l_Vp := Vp.lt
  have m_Vp := Nat.le_of_lt l_Vp
  set_option maxRecDepth 100000 in go_wp2_with fail
  refine (rroot_any a0 len0 cap0 z0 x7 s0 e0 (by omega) c0 u0).mono ?_
  rintro e x8 ⟨a5, m5, c5, z5, rfl, s5, u5, i5, hb⟩
  replace Vx := Va.after hb Vx
  replace Vp := Va.after hb Vp
  replace hx := Nt.after hb hx
  replace hg := Nt.after hb hg
  replace s0 := s0.below hb (Nat.le_refl _)
  replace B0 := step B0 hb
  clear hb
  have HE5 : Hid (num z5 = num zg) := by show _ = _; obtain ⟨q1, q2, q3⟩ := HIG.out; obtain ⟨q4, q5, q6⟩ := i5; exact root_one q4 q1 q5 q6 q2 q3
  clear i5
  clear c_Vx f_Vx l_Vx m_Vx c_Vp f_Vp l_Vp m_Vp
  have c_Vx := Vx.cell
  have f_Vx := Vx.frozen 0
  have l_Vx := Vx.lt
  have m_Vx := Nat.le_of_lt l_Vx
  have c_Vp := Vp.cell
  have f_Vp := Vp.frozen 0
  have l_Vp := Vp.lt
  have m_Vp := Nat.le_of_lt l_Vp
  set_option maxRecDepth 100000 in go_wp2_with fail
  refine (is_ok ag a5 lg kg m5 c5 zg z5 x8 hg s5 u5 HE5.out).mono ?_
  rintro e x9 ⟨rfl, hb⟩
  replace Vx := Va.after hb Vx
  replace Vp := Va.after hb Vp
  replace hx := Nt.after hb hx
  replace hg := Nt.after hb hg
  replace s0 := s0.below hb (Nat.le_refl _)
  replace s5 := s5.below hb (Nat.le_refl _)
  replace B0 := step B0 hb
  clear hb
  clear c_Vx f_Vx l_Vx m_Vx c_Vp f_Vp l_Vp m_Vp
  have c_Vx := Vx.cell
  have f_Vx := Vx.frozen 0
  have l_Vx := Vx.lt
  have m_Vx := Nat.le_of_lt l_Vx
  have c_Vp := Vp.cell
  have f_Vp := Vp.frozen 0
  have l_Vp := Vp.lt
  have m_Vp := Nat.le_of_lt l_Vp
  set_option maxRecDepth 100000 in go_wp2_with fail
  refine (rpow_bigr a0 len0 cap0 z0 n x9 s0 e0 (by omega) c0 u0 htb hf).mono ?_
  rintro e x10 ⟨a6, m6, c6, rfl, hb⟩
  replace Vx := Va.after hb Vx
  replace Vp := Va.after hb Vp
  replace hx := Nt.after hb hx
  replace hg := Nt.after hb hg
  replace s0 := s0.below hb (Nat.le_refl _)
  replace s5 := s5.below hb (Nat.le_refl _)
  replace B0 := step B0 hb
  clear hb
  clear c_Vx f_Vx l_Vx m_Vx c_Vp f_Vp l_Vp m_Vp
  have c_Vx := Vx.cell
  have f_Vx := Vx.frozen 0
  have l_Vx := Vx.lt
  have m_Vx := Nat.le_of_lt l_Vx
  have c_Vp := Vp.cell
  have f_Vp := Vp.frozen 0
  have l_Vp := Vp.lt
  have m_Vp := Nat.le_of_lt l_Vp
  set_option maxRecDepth 100000 in go_wp2_with fail
  refine (is_nil 0 0 none none x10).mono ?_
  rintro e x11 ⟨rfl, hb⟩
  replace Vx := Va.after hb Vx
  replace Vp := Va.after hb Vp
  replace hx := Nt.after hb hx
  replace hg := Nt.after hb hg
  replace s0 := s0.below hb (Nat.le_refl _)
  replace s5 := s5.below hb (Nat.le_refl _)
  replace B0 := step B0 hb
  clear hb
  clear c_Vx f_Vx l_Vx m_Vx c_Vp f_Vp l_Vp m_Vp
  have c_Vx := Vx.cell
  have f_Vx := Vx.frozen 0
  have l_Vx := Vx.lt
  have m_Vx := Nat.le_of_lt l_Vx
  have c_Vp := Vp.cell
  have f_Vp := Vp.frozen 0
  have l_Vp := Vp.lt
  have m_Vp := Nat.le_of_lt l_Vp
  set_option maxRecDepth 100000 in go_wp2_with fail
  go_ret
  exact ⟨rfl, B0⟩

theorem walk (a0 : Option Addr) (len0 cap0 : Nat) (z0 : List Int) (t : Int) (w : World) (s0 : Sl w a0 len0 z0) (c0 : len0 ≤ cap0) (r0 : cap0 ≤ 1048576) (e0 : a0 = none → len0 = 0 ∧ cap0 = 0) (ht : (Lit.int .i64 t).wf = true) :
    Calls Try.prog 7 #[.slice a0 len0 cap0, .int .i64 t] w fun e w' => e = .returned (.bool true) ∧ Below w.heap.size w w' := by
  by_cases hu : 4096 < usedN z0
  · exact walk_a a0 len0 cap0 z0 t w s0 c0 r0 e0 ht hu
  · have u0 : usedN z0 ≤ 4096 := by omega
    by_cases hn : t < 0
    · exact walk_n a0 len0 cap0 z0 t w s0 c0 r0 e0 ht u0 hn
    · rcases Int.lt_or_le (num z0 ^ t.toNat) (pw 4096) with hf | hf
      · exact walk_f a0 len0 cap0 z0 t w s0 c0 r0 e0 ht u0 (by omega) hf
      · exact walk_b a0 len0 cap0 z0 t w s0 c0 r0 e0 ht u0 (by omega) hf
end Go.Proofs.Ytajjhnilpdmnhaa.natPowers
namespace Go.Proofs.Ytajjhnilpdmnhaa
open Go.ChangeShapes

theorem bulk_lits {H : Type} : ∀ zs : List Int, Rows.uptoBulkAll (lits (H := H) .u64 zs) = zs.length
  | [] => rfl
  | z :: r => by
    have ih := bulk_lits (H := H) r
    simp only [lits, List.map_cons, Rows.uptoBulkAll, Rows.uptoBulk, List.length_cons] at ih ⊢
    omega
theorem bulk_row {H : Type} (zs : List Int) (n : Nat) : Rows.uptoBulk (DataW.slice (lits (H := H) .u64 (zs.take n)) (lits .u64 (zs.drop n))) = zs.length + 1 := by
  simp only [Rows.uptoBulk, bulk_lits, List.length_take, List.length_drop]
  omega
end Go.Proofs.Ytajjhnilpdmnhaa
namespace Go.Proofs.Ytajjhnilpdmnhaa.natPowers
open Go.ChangeShapes Go.WideShapes Go.ChangeAt Go.RowKit
set_option linter.unusedVariables false

theorem own : ownKnob Try.prog.godebug = none := by kernel_rfl
theorem laidOut : laidOutB Try.prog = true := by kernel_rfl
theorem bytes8 : Try.prog.bytesOf 23 = 8 := by kernel_rfl

set_option maxRecDepth 100000 in
theorem contract (H : Type) (enc : TypeId × Value → H) (W : World) (base : Nat) (args : Array Value) (ds gs : List (DataW H)) (before : List MemPlace)
    (hval : ∀ (j : Nat) t v, Try.f7.params[j]? = some t → args[j]? = some v → Value.okWide Try.prog W .any base t v)
    (hW : DataW.Whole enc Try.prog Try.f7.params.toList Rows.natPowersSpec.vars false W args.toList ds gs before) (hk : Rows.uptoSmall H (ds ++ gs) = true) :
    Calls Try.prog 7 args W fun e W' => ∃ v, e = .returned v ∧ Rows.natPowersSpec.post enc Try.prog Try.f7 false true false false W args v W' := by
  have hW' := hW
  obtain ⟨p, q, hA0, hV, rfl, hfz, hnd⟩ := hW
  have hA : DataW.TrodAll enc Try.prog W 0 (fun _ => true) true Try.f7.params.toList args.toList ds p := hA0
  rw [Try.params7] at hA hval
  obtain ⟨v0, vs0, d0, ds0, p0, q0, hargs, rfl, rfl, h0, r0⟩ := trodAll_cons hA
  obtain ⟨v1, vs1, d1, ds1, p1, q1, rfl, rfl, rfl, h1, r1⟩ := trodAll_cons r0
  obtain ⟨rfl, rfl, rfl⟩ := trodAll_nil r1
  obtain rfl : args = #[v0, v1] := by cases args; simp_all
  obtain ⟨rfl, rfl⟩ := trodVars_none hV
  obtain ⟨a0, len0, cap0, rfl⟩ := okWide_slice Try.underlying22 (hval 0 22 v0 rfl rfl)
  have k0 := h0
  have lt0 : ∀ x ∈ p0, x.block < W.heap.size := by obtain ⟨m, hm⟩ := k0; exact DataW.trod_lt m _ _ _ hm
  obtain ⟨z0, s0, c0, b0, e0⟩ : ∃ zs, Sl W a0 len0 zs ∧ len0 ≤ cap0 ∧ cap0 ≤ 1048576 ∧ (a0 = Option.none → len0 = 0 ∧ cap0 = 0) := by
    obtain ⟨fuel, hf⟩ := h0
    rcases open_ints Try.underlying22 Try.underlying23 (by kernel_rfl) hf with ⟨hcs, _⟩ | ⟨x, l, c, zs, hcs, _, hl, hm, hz, hx, hcell, hwz⟩
    · simp [Value.cells] at hcs
      obtain ⟨rfl, rfl, rfl⟩ := hcs
      exact ⟨[], ⟨rfl, Limbs.nil, fun h => absurd h (by decide)⟩, Nat.le_refl _, by decide, fun _ => ⟨rfl, rfl⟩⟩
    · simp [Value.cells] at hcs
      obtain ⟨rfl, rfl, rfl⟩ := hcs
      have hz' : zs.length = cap0 := by simpa using hz
      have hd : d0 = DataW.slice (lits .u64 (zs.take len0)) (lits .u64 (zs.drop len0)) := congrArg Prod.fst hx
      have hb : Rows.uptoBulkAll [d0, d1] ≤ 1048576 := of_decide_eq_true hk
      simp only [Rows.uptoBulkAll] at hb
      rw [hd, bulk_row] at hb
      have hcap : cap0 ≤ 1048576 := by omega
      refine ⟨zs.take len0, ⟨by rw [List.length_take]; omega, fun z hz2 => word_of_wf (hwz z (List.mem_of_mem_take hz2)), fun h => ?_⟩, hl, hcap, fun h => by cases h⟩
      obtain ⟨bb, off, rfl, hc⟩ := ints_at hcell (by omega)
      refine ⟨bb, off, rfl, fun j hj => ?_⟩
      rw [hc j (by omega), List.getD_eq_getElem?_getD, List.getD_eq_getElem?_getD, List.getElem?_take_of_lt hj]
  obtain ⟨a1, rfl, rfl, rfl, w1⟩ := open_int Try.underlying3 (hval 1 3 v1 rfl rfl) h1
  clear hA0
  refine (walk a0 len0 cap0 z0 a1 W s0 c0 b0 e0 w1).mono fun e W' ⟨he, bel⟩ => ?_
  subst he
  exact ⟨_, rfl, _, _, _, [], _, [], hW', trodAll_mk1 (shut_bool Try.underlying4 _), (trodAll_cons_mk (Below.trod laidOut (by kernel_rfl) (of_decide_eq_true (by kernel_rfl)) k0 bel lt0) (trodAll_cons_mk (shut_int Try.underlying3 w1) trodAll_mk0)), rfl, bel.frame _, fun h => by cases h⟩

set_option maxRecDepth 100000 in
theorem lifted (os : Os) (started : os.Started) (H : Type) (enc : TypeId × Value → H) (F : Stop.Interp) :
    ReturnsInHanded {} Try.checked os 7 .any ((Rows.OpenSpec.upto Rows.natPowersSpec).pre6 enc Try.prog Try.f7 Rows.natPowersUptoRow.domain false) (((Rows.OpenSpec.upto Rows.natPowersSpec).at F).post enc Try.prog Try.f7 false true false false) := by
  refine returnsInHanded_of_cond (C := Try.checked) (s := Rows.OpenSpec.upto Rows.natPowersSpec) (k := Rows.uptoSmall) rfl own started (by kernel_rfl) Try.func7
    (OpenSpec.witness (enc := enc) (C := Try.checked) (s := Rows.OpenSpec.upto Rows.natPowersSpec) (k := Rows.uptoSmall) rfl false ⟨#[], #[.slice none 0 0, .int .i64 0], []⟩ 8 (by kernel_rfl) (by kernel_rfl) (by kernel_rfl)
      (x := ([.nil, .lit (.int .i64 0)], [], [])) (by kernel_rfl) rfl (by kernel_rfl)) ?_
  intro W base args ds gs before hval hW _ hk _
  exact contract H enc W base args ds gs before hval hW hk

theorem over : Rows.natPowersUptoRow.holds Try.pinned (Rows.OpenSpec.upto Rows.natPowersSpec) :=
  OpenClaim.holds_of_cond 7 Try.f7 rfl rfl rfl rfl rfl rfl rfl ⟨rfl, rfl, rfl, rfl, rfl⟩ rfl rfl rfl rfl rfl (by kernel_rfl) Try.func7 (by kernel_rfl)
    (of_decide_eq_true (by kernel_rfl)) (by unfold Func.isWrapper; first | (rw [if_pos (by decide +kernel)]; kernel_rfl) | (rw [if_neg (by decide +kernel)]; exact ⟨rfl, rfl⟩))
    (fun os started H enc _ F => lifted os started H enc F)
end Go.Proofs.Ytajjhnilpdmnhaa.natPowers
namespace Go.Proofs.Ytajjhnilpdmnhaa
theorem natPowersUpto_holds : Rows.NatPowersUptoSaid := natPowers.over
#print axioms natPowersUpto_holds
end Go.Proofs.Ytajjhnilpdmnhaa
