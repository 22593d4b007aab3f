/-
  Pow of numbers.
-/
import Derived.Test.YtclefkmhchfkkaaGreatDoorBsN
namespace Go.Proofs.YtclefkmhchfkkaaGreatDoor
open Go.RowKit Go.Shelf

/-- Not long, and long. -/
structure Fit (x : Int) : Prop where
  lt : x < pw 4096
structure Big (x : Int) : Prop where
  ge : pw 4096 ≤ x
theorem fit_or_big (x : Int) : Fit x ∨ Big x := by
  rcases Int.lt_or_le x (pw 4096) with h | h
  · exact .inl ⟨h⟩
  · exact .inr ⟨h⟩
theorem pow_step (x : Int) (m b : Nat) (hb : b = 0 ∨ b = 1) : x ^ (2 * m + b) = x ^ m * x ^ m * (if b = 0 then 1 else x) := by
  rcases hb with rfl | rfl
  · rw [Nat.add_zero, Nat.two_mul, Int.pow_add]; simp
  · rw [Int.pow_add, Nat.two_mul, Int.pow_add]; simp [Int.pow_succ]

theorem bits_nat {zs : List Int} (h : Limbs zs) {n : Nat} (e : num zs = n) (hn : n ≤ 9223372036854775807) : ∃ s : Nat, bitsN zs = s ∧ n < 2 ^ s ∧ s ≤ 63 := by
  rcases Nat.eq_zero_or_pos (usedN zs) with h0 | h0
  · refine ⟨0, bits_nought h0, ?_, by omega⟩
    have := (num_eq_zero h).2 h0
    simp; omega
  · obtain ⟨k, e1, k1, k2⟩ := bits_spec h h0
    rw [e] at k1 k2
    have k3 : n < 2 ^ (k + 1) := by
      have : (n : Int) < ((2 ^ (k + 1) : Nat) : Int) := by simpa using k2
      omega
    refine ⟨k + 1, by omega, k3, ?_⟩
    rcases Nat.lt_or_ge k 63 with h' | h'
    · omega
    · have h5 : (2 : Int) ^ 63 ≤ 2 ^ k := p2_mono h'
      have h6 : (2 : Int) ^ 63 = 9223372036854775808 := by decide
      omega
theorem and_one (g : Nat) (hg : g < 9223372036854775808) : bits .and .i64 (g : Int) 1 = ((g % 2 : Nat) : Int) := by
  have h1 : (BitVec.ofInt 64 (g : Int)).toNat = g := by
    rw [BitVec.ofInt_natCast, BitVec.toNat_ofNat]; exact Nat.mod_eq_of_lt (by omega)
  have h2 : (BitVec.ofInt 64 (1 : Int)).toNat = 1 := by decide
  show IntKind.i64.wrap ((BitVec.ofInt 64 (g : Int) &&& BitVec.ofInt 64 1).toNat : Int) = _
  rw [BitVec.toNat_and, h1, h2, Nat.and_one_is_mod, IntKind.wrap_i64]
  omega
theorem shr_nat (n d : Nat) : (n : Int) / 2 ^ d = ((n / 2 ^ d : Nat) : Int) := by
  rw [Int.natCast_ediv]; simp
theorem pow_ge_one {x : Int} (hx : 1 ≤ x) : ∀ k : Nat, 1 ≤ x ^ k
  | 0 => by rw [Int.pow_zero]; omega
  | k + 1 => by
    have h := pow_ge_one hx k
    rw [Int.pow_succ]
    have : 1 * 1 ≤ x ^ k * x := Int.mul_le_mul h hx (by decide) (by omega)
    omega
theorem big_up {x : Int} {j n : Nat} (h : Big (x ^ j)) (hx : 0 ≤ x) (hjn : j ≤ n) : Big (x ^ n) := by
  obtain ⟨h⟩ := h
  have h1 := pw_mono (show 1 ≤ 4096 by decide)
  have h2 : pw 1 = 18446744073709551616 := by decide
  rcases Int.lt_or_le x 1 with h3 | h3
  · obtain rfl : x = 0 := by omega
    exfalso
    rcases Nat.eq_zero_or_pos j with h4 | h4
    · subst h4; rw [Int.pow_zero] at h; omega
    · rw [Int.zero_pow (by omega)] at h; omega
  · obtain ⟨d, rfl⟩ := Nat.exists_eq_add_of_le hjn
    refine ⟨?_⟩
    rw [Int.pow_add]
    have h4 := pow_ge_one h3 d
    have h5 := pow_ge_one h3 j
    have : x ^ j * 1 ≤ x ^ j * x ^ d := Int.mul_le_mul_of_nonneg_left h4 (by omega)
    omega
theorem pow_neg (a : Option Addr) (la ca : Nat) (t : Int) (w : World) (ht : t < 0) :
    Calls Tryz.prog 46 #[.agg #[.slice a la ca], .int .i64 t] w fun e w' => e = .returned (.tuple #[.agg #[.slice none 0 0], .int .i64 2]) ∧ Below w.heap.size w w' := by
  go_enter Tryz.func46, Tryz.ntmps46
  go_wp2_with fail
  refine ent2 w _ _ _ _ (Q := fun W => bodyPost Tryz.prog _ _ _ _ W) ?_
  intro w0 B0 hs V0 V1
  exact bodyPost_ret (results_ct rfl rfl V1) rfl ⟨rfl, B0⟩
set_option maxHeartbeats 4000000 in
theorem pow_any (a : Option Addr) (la ca : Nat) (xs : List Int) (n : Nat) (w : World) (ha : Nt w a la ca xs) (hn : n ≤ 9223372036854775807) :
    Calls Tryz.prog 46 #[.agg #[.slice a la ca], .int .i64 n] w fun e w' =>
      (∃ a' l' c' zs, e = .returned (.tuple #[.agg #[.slice a' l' c'], .int .i64 0]) ∧ Nt w' a' l' c' zs ∧ num zs = num xs ^ n ∧ Below w.heap.size w w') ∨ (e = .returned (.tuple #[.agg #[.slice none 0 0], .int .i64 3]) ∧ Big (num xs ^ n) ∧ Below w.heap.size w w') := by
  have ew : IntKind.u64.wrap (n : Int) = n := by rw [IntKind.wrap_u64]; omega
  go_enter Tryz.func46, Tryz.ntmps46
  go_wp2_with fail
  refine ent2 w _ _ _ _ (Q := fun W => Calls Tryz.prog _ _ W _) ?_
  intro w0 B0 hs V0 V1
  replace ha := Nt.after B0 ha
  refine (small_any 1 ⟨by decide, by decide⟩ w0).mono ?_
  rintro e w1 ⟨a1, l1, k1, z1, rfl, h1, n1, hb1⟩
  replace V0 := V0.kept hb1
  replace V1 := V1.kept hb1
  replace B0 := step B0 hb1
  replace ha := Nt.after hb1 ha
  go_wp2_with fail
  refine ent1 w1 _ _ (Q := fun W => Calls Tryz.prog _ _ W _) ?_
  intro w2 B2 hs2 Vp
  replace V0 := V0.kept B2
  replace V1 := V1.kept B2
  replace B0 := step B0 B2
  replace ha := Nt.after B2 ha
  replace h1 := Nt.after B2 h1
  refine (small_any n ⟨by omega, by omega⟩ w2).mono ?_
  rintro e w3 ⟨a3, l3, k3, z3, rfl, h3, n3, hb3⟩
  replace V0 := V0.kept hb3
  replace V1 := V1.kept hb3
  replace Vp := Vp.kept hb3
  replace B0 := step B0 hb3
  replace ha := Nt.after hb3 ha
  replace h1 := Nt.after hb3 h1
  go_wp2_with fail
  refine (nbits_any a3 l3 k3 z3 w3 h3).mono ?_
  rintro e w4 ⟨rfl, hb4⟩
  replace V0 := V0.kept hb4
  replace V1 := V1.kept hb4
  replace Vp := Vp.kept hb4
  replace B0 := step B0 hb4
  replace ha := Nt.after hb4 ha
  replace h1 := Nt.after hb4 h1
  obtain ⟨sz, hsz, hlt, hs63⟩ := bits_nat h3.limbs n3 hn
  rw [hsz]
  have hbw : w1.heap.size < w4.heap.size := Vp.lt
  have hbw1 : w.heap.size + 1 < w1.heap.size := by
    have := hb1.size
    omega
  clear hb1 B2 hs2 hb3 hb4 hs
  have HV0 : Hid (Va w4 w.heap.size 24 #[.slice a la ca]) := V0
  have HV1 : Hid (Va w4 (w.heap.size + 1) 24 #[.slice none 0 0]) := V1
  have HVp : Hid (Va w4 w1.heap.size 24 #[.slice a1 l1 k1]) := Vp
  have HA : Hid (Nt w4 a la ca xs) := ha
  have H1 : Hid (Nt w4 a1 l1 k1 z1) := h1
  have HB : Hid (Below w.heap.size w w4) := B0
  have HN1 : Hid (num z1 = num xs ^ (n / 2 ^ (sz - 0))) := by
    show _ = _
    rw [Nat.sub_zero, Nat.div_eq_of_lt hlt, n1, Int.pow_zero]
  clear V0 V1 Vp ha h1 B0 n1 n3 h3 hsz
  go_wp2_with fail
  go_loopw [19] (fun ii wr => ∃ (k : Nat) (ap : Option Addr) (lp kp : Nat) (zp : List Int), k ≤ sz ∧ ii = .int .i64 k ∧ Hid (Va wr w.heap.size 24 #[.slice a la ca]) ∧ Hid (Va wr (w.heap.size + 1) 24 #[.slice none 0 0]) ∧ Hid (Va wr w1.heap.size 24 #[.slice ap lp kp]) ∧ Hid (Nt wr a la ca xs) ∧ Hid (Nt wr ap lp kp zp) ∧ Hid (num zp = num xs ^ (n / 2 ^ (sz - k))) ∧ Hid (Below w.heap.size w wr)) (fun ii _ => sz - (intOf ii).toNat)
  case atStart => exact ⟨0, a1, l1, k1, z1, Nat.zero_le _, rfl, HV0, HV1, HVp, HA, H1, HN1, HB⟩
  case round =>
    clear HV0 HV1 HVp HA H1 HN1 HB
    obtain ⟨k, ap, lp, kp, zp, hk, rfl, U0, U1, Up, hA, hP, hN, hB⟩ := hrel
    have c0 := U0.out.cell
    have c1 := U1.out.cell
    have cp := Up.out.cell
    have f1 := U1.out.frozen 0
    have fp := Up.out.frozen 0
    have x0 := hA.out.nonneg
    by_cases hlt2 : k < sz
    · obtain ⟨d, hd⟩ : ∃ d, d = sz - 1 - k := ⟨_, rfl⟩
      have hm : n / 2 ^ (sz - k) = n / 2 ^ d / 2 := by rw [Nat.div_div_eq_div_mul, ← Nat.pow_succ]; congr 2; omega
      rw [hm] at hN
      obtain ⟨g, hg⟩ : ∃ g, n / 2 ^ d = g := ⟨_, rfl⟩
      rw [hg] at hN
      have hgn : g ≤ n := by rw [← hg]; exact Nat.div_le_self _ _
      rcases fit_or_big (num zp * num zp) with hf | hf
      · go_wp2_with fail
        refine (nmul_ok ap ap lp kp lp kp zp zp wr hP.out hP.out hf.lt).mono ?_
        rintro e w5 ⟨aq, lq, kq, zq, rfl, hq, nq, hb5⟩
        have T0 := U0.out.kept hb5
        have T1 := U1.out.kept hb5
        have Tp := Up.out.kept hb5
        have B5 := step hB.out hb5
        have hA5 := Nt.after hb5 hA.out
        clear c0 c1 cp f1 fp
        have c0 := T0.cell
        have c1 := T1.cell
        have cp := Tp.cell
        have f1 := T1.frozen 0
        have fp := Tp.frozen 0
        have hne1 : w.heap.size ≠ w1.heap.size := by omega
        have hne2 : w.heap.size + 1 ≠ w1.heap.size := by omega
        have S0 := T0.other (p := ⟨w1.heap.size, 0, none⟩) hne1 (.slice aq lq kq)
        have S1 := T1.other (p := ⟨w1.heap.size, 0, none⟩) hne2 (.slice aq lq kq)
        have Sp := Tp.set (.slice aq lq kq)
        have SA := hA5.store Tp (.slice aq lq kq)
        have SQ := hq.store Tp (.slice aq lq kq)
        have SB := B5.setCell (p := ⟨w1.heap.size, 0, none⟩) (by show _ ≤ w1.heap.size; omega) (.slice aq lq kq)
        rw [hN.out, ← Int.pow_add] at nq
        have hbit : g % 2 = 0 ∨ g % 2 = 1 := by omega
        have eb := and_one g (by omega)
        rw [← hg, ← shr_nat, hg, hd] at eb
        rcases hbit with hb0 | hb1
        · rw [hb0] at eb
          have HN2 : Hid (num zq = num xs ^ (n / 2 ^ (sz - (k + 1)))) := by
            show _ = _
            rw [nq, show sz - (k + 1) = d by omega, hg]
            congr 1; omega
          go_wp2_with fail
          go_roundw
          case rel => exact ⟨k + 1, aq, lq, kq, zq, by omega, by go_num, S0, S1, Sp, SA, SQ, HN2, SB⟩
          case measure => simp [intOf]; omega
        · rw [hb1] at eb
          go_wp2_with fail
          generalize w5.setCell ⟨w1.heap.size, 0, none⟩ (.slice aq lq kq) = w6 at *
          rcases fit_or_big (num zq * num xs) with hf2 | hf2
          · refine (nmul_ok aq a lq kq la ca zq xs w6 SQ SA hf2.lt).mono ?_
            rintro e w7 ⟨ar, lr, kr, zr, rfl, hr, nr, hb7⟩
            have R0 := S0.kept hb7
            have R1 := S1.kept hb7
            have Rp := Sp.kept hb7
            have B7 := step SB hb7
            have hA7 := Nt.after hb7 SA
            have HN2 : Hid (num zr = num xs ^ (n / 2 ^ (sz - (k + 1)))) := by
              show _ = _
              rw [nr, nq, ← Int.pow_succ, show sz - (k + 1) = d by omega, hg]
              congr 1; omega
            have Q0 := R0.other (p := ⟨w1.heap.size, 0, none⟩) hne1 (.slice ar lr kr)
            have Q1 := R1.other (p := ⟨w1.heap.size, 0, none⟩) hne2 (.slice ar lr kr)
            have Qp := Rp.set (.slice ar lr kr)
            have QA := hA7.store Rp (.slice ar lr kr)
            have QR := hr.store Rp (.slice ar lr kr)
            have QB := B7.setCell (p := ⟨w1.heap.size, 0, none⟩) (by show _ ≤ w1.heap.size; omega) (.slice ar lr kr)
            clear c0 c1 cp f1 fp
            have cp := Rp.cell
            have fp := Rp.frozen 0
            go_wp2_with fail
            go_roundw
            case rel => exact ⟨k + 1, ar, lr, kr, zr, by omega, by go_num, Q0, Q1, Qp, QA, QR, HN2, QB⟩
            case measure => simp [intOf]; omega
          · have hbig : Big (num xs ^ n) := by
              rw [nq, ← Int.pow_succ] at hf2
              exact big_up hf2 x0 (by omega)
            refine (nmul_long aq a lq kq la ca zq xs w6 SQ SA hf2.ge).mono ?_
            rintro e w7 ⟨rfl, hb7⟩
            have R1 := S1.kept hb7
            have Rp := Sp.kept hb7
            have B7 := step SB hb7
            clear c0 c1 cp f1 fp
            have c1 := R1.cell
            have cp := Rp.cell
            have f1 := R1.frozen 0
            have fp := Rp.frozen 0
            go_wp2_with fail
            refine bodyPost_ret (results_ct rfl rfl ((R1.other (p := ⟨w1.heap.size, 0, none⟩) hne2 _).set _)) rfl ?_
            exact .inr ⟨rfl, hbig, (B7.setCell (p := ⟨w1.heap.size, 0, none⟩) (by show _ ≤ w1.heap.size; omega) _).setCell (p := ⟨w.heap.size + 1, 0, none⟩) (by show _ ≤ w.heap.size + 1; omega) _⟩
      · have hbig : Big (num xs ^ n) := by
          rw [hN.out, ← Int.pow_add] at hf
          exact big_up hf x0 (by omega)
        go_wp2_with fail
        refine (nmul_long ap ap lp kp lp kp zp zp wr hP.out hP.out hf.ge).mono ?_
        rintro e w5 ⟨rfl, hb5⟩
        have T1 := U1.out.kept hb5
        have Tp := Up.out.kept hb5
        have B5 := step hB.out hb5
        clear c0 c1 cp f1 fp
        have c1 := T1.cell
        have cp := Tp.cell
        have f1 := T1.frozen 0
        have fp := Tp.frozen 0
        go_wp2_with fail
        refine bodyPost_ret (results_ct rfl rfl ((T1.other (p := ⟨w1.heap.size, 0, none⟩) (by show w.heap.size + 1 ≠ w1.heap.size; omega) _).set _)) rfl ?_
        exact .inr ⟨rfl, hbig, (B5.setCell (p := ⟨w1.heap.size, 0, none⟩) (by show _ ≤ w1.heap.size; omega) _).setCell (p := ⟨w.heap.size + 1, 0, none⟩) (by show _ ≤ w.heap.size + 1; omega) _⟩
    · obtain rfl : k = sz := by omega
      have hN2 := hN.out
      rw [Nat.sub_self, Nat.pow_zero, Nat.div_one] at hN2
      go_wp2_with fail
      refine bodyPost_ret (results_ct rfl rfl (U1.out.set _)) rfl ?_
      exact .inl ⟨_, _, _, zp, rfl, hP.out.store U1.out _, hN2, hB.out.setCell (p := ⟨w.heap.size + 1, 0, none⟩) (by show _ ≤ w.heap.size + 1; omega) _⟩
end Go.Proofs.YtclefkmhchfkkaaGreatDoor
