/-
  RoundNumbers holds: the numbers that the layer goes by, a number over a unit that has more limbs than there may be, and what is too long when it is rounded up; no condition.
-/
import Derived.Test.YtjaigmgbeganhaaGreatTk
import Derived.Test.YtjaigmgbeganhaaGreatRdP
import Derived.Test.YtjaigmgbeganhaaGreatBsN
import Derived.Test.YtjaigmgbeganhaaGreatRd3
import Derived.Test.YtjaigmgbeganhaaGreatAl
import Derived.Test.YtjaigmgbeganhaaGreatRl8
import Derived.Test.YtjaigmgbeganhaaGreatRi7
import Derived.Test.YtjaigmgbeganhaaGreatRows
import Derived.ProofKit
import Derived.OpenShut
import Derived.ShutString
import Derived.ChangeOld
import Derived.SizedLaws
namespace Go.Proofs.YtjaigmgbeganhaaGreat
open Go.RowKit Go.Shelf
set_option linter.unusedVariables false

/-- So many units as a number is rounded to. -/
def uv (q : Int) (v t : Rat) : Rat := ((rnd q (v.num * (t.den : Int)) ((v.den : Int) * t.num) : Int) : Rat) * t
theorem divInt_units (k : Int) (t : Rat) : Rat.divInt (k * t.num) (t.den : Int) = (k : Rat) * t := by
  rw [Rat.divInt_ofNat, Rat.mul_def]
  have e1 : ((k : Rat)).num = k := rfl
  have e2 : ((k : Rat)).den = 1 := rfl
  rw [Rat.normalize_eq_mkRat, e1, e2, Nat.one_mul]
theorem rnd_exact {q n d k : Int} (hd : 0 < d) (h : n = k * d) : rnd q n d = k := by
  subst h
  unfold rnd
  rw [if_pos (Int.mul_emod_left k d), Int.mul_ediv_cancel _ (by omega)]
theorem units_cross {x t : Rat} {k : Int} (h : x = (k : Rat) * t) : x.num * (t.den : Int) = k * ((x.den : Int) * t.num) := by
  have e : mkRat x.num x.den = mkRat (k * t.num) t.den := by rw [Rat.mkRat_self, h, ← Rat.divInt_ofNat, divInt_units]
  rw [Rat.mkRat_eq_iff x.den_nz t.den_nz] at e
  rw [e]; grind
theorem uv_self {q : Int} {x t : Rat} {k : Int} (ht : 0 < t.num) (h : x = (k : Rat) * t) : uv q x t = x := by
  have hd := x.den_pos
  unfold uv
  rw [rnd_exact (k := k) (Int.mul_pos (by omega) ht) (units_cross h), ← h]
theorem uv_one (q : Int) (v : Rat) : uv q v 1 = ((rnd q v.num v.den : Int) : Rat) := by
  unfold uv
  have e1 : (1 : Rat).num = 1 := rfl
  have e2 : (1 : Rat).den = 1 := rfl
  rw [e1, e2, Rat.mul_one]
  simp
/-- One over a power of ten. -/
def tenth (p : Nat) : Rat := mkRat 1 (10 ^ p)
theorem tenth_parts (p : Nat) : (tenth p).num = 1 ∧ (tenth p).den = 10 ^ p := by
  have h : (10 : Nat) ^ p ≠ 0 := by have := Nat.pow_pos (n := p) (show 0 < 10 by omega); omega
  unfold tenth
  exact rat_of_coprime h h (by simp) (by omega)
theorem tenth_divInt (p : Nat) : Rat.divInt 1 ((10 : Int) ^ p) = tenth p := by
  unfold tenth
  rw [show ((10 : Int) ^ p) = (((10 : Nat) ^ p : Nat) : Int) by simp, Rat.divInt_ofNat]
theorem tenth_zero : tenth 0 = 1 := by decide +kernel
theorem tenth_succ (k : Int) (p : Nat) : (k : Rat) * tenth p = ((10 * k : Int) : Rat) * tenth (p + 1) := by
  have h1 : (10 : Nat) ^ p ≠ 0 := by have := Nat.pow_pos (n := p) (show 0 < 10 by omega); omega
  have h2 : (10 : Nat) ^ (p + 1) ≠ 0 := by have := Nat.pow_pos (n := p + 1) (show 0 < 10 by omega); omega
  rw [← divInt_units, ← divInt_units, (tenth_parts p).1, (tenth_parts p).2, (tenth_parts (p + 1)).1, (tenth_parts (p + 1)).2, Rat.divInt_ofNat, Rat.divInt_ofNat, Rat.mkRat_eq_iff h1 h2]
  rw [Nat.pow_succ]
  simp
  grind
theorem ten_lt {p : Nat} (h : p ≤ 9) : (10 : Int) ^ p ≤ 1000000000 := by
  have h1 : (10 : Nat) ^ p ≤ 10 ^ 9 := Nat.pow_le_pow_right (by omega) h
  have h2 : (((10 : Nat) ^ p : Nat) : Int) ≤ ((10 ^ 9 : Nat) : Int) := Int.ofNat_le.2 h1
  simpa using h2
theorem tenth_short {p : Nat} (h : p ≤ 9) : Short (tenth p) := by
  obtain ⟨e1, e2⟩ := tenth_parts p
  refine ⟨by rw [e1]; exact one_lt_pw (by omega), ?_⟩
  rw [e2]
  have := ten_lt h
  have h1 : (((10 : Nat) ^ p : Nat) : Int) = (10 : Int) ^ p := by simp
  rw [h1]
  exact Int.lt_of_lt_of_le (show _ < pw 1 from Int.lt_of_le_of_lt this (by decide)) (pw_mono (by omega))
end Go.Proofs.YtjaigmgbeganhaaGreat
namespace Go.Proofs.YtjaigmgbeganhaaGreat
open Go.RowKit Go.Shelf
set_option linter.unusedVariables false

theorem pw_ge1 (n : Nat) : 1 ≤ pw n := pw_mono (m := 0) (n := n) (Nat.zero_le n)
/-- 2 to the power 65535, and the greatest number of n limbs. -/
def FR (n : Nat) : Int := 9223372036854775808 * pw n
theorem FR_pos (n : Nat) : 0 < FR n := by unfold FR; have := pw_ge1 n; omega
theorem pw_up (n : Nat) : pw (n + 1) = pw n * 18446744073709551616 := by rw [pw_add]; rfl
theorem FR_lt (n : Nat) : FR n < pw (n + 1) := by unfold FR; rw [pw_up]; have := pw_ge1 n; omega
theorem num_all : ∀ (zs : List Int), (∀ i, i < zs.length → zs.getD i 0 = 18446744073709551615) → num zs = pw zs.length - 1
  | [], _ => by simp [num]; rfl
  | z :: r, h => by
    have h0 := h 0 (by simp)
    have hr := num_all r (fun i hi => by have := h (i + 1) (by simpa using hi); simpa using this)
    simp only [List.getD_cons_zero] at h0
    simp only [num, List.length_cons, pw_up, hr, h0]
    omega
theorem num_zeros7 : ∀ (n : Nat) (v : Int), num ((List.replicate n (0 : Int)) ++ [v]) = v * pw n
  | 0, v => by simp [num]; show v = v * 1; omega
  | n + 1, v => by
    rw [List.replicate_succ, List.cons_append]
    simp only [num, num_zeros7 n v, pw_up]
    grind
theorem set_last (n : Nat) (v : Int) : (List.replicate (n + 1) (0 : Int)).set n v = List.replicate n 0 ++ [v] := by
  rw [List.replicate_succ', List.set_append_right _ _ (by simp)]
  simp
theorem far_num (n : Nat) : num ((List.replicate (n + 1) (0 : Int)).set n 9223372036854775808) = FR n := by
  rw [set_last, num_zeros7]; rfl
/-- One over a whole number above 0. -/
theorem over_parts {F : Int} (h : 0 < F) : (Rat.divInt 1 F).num = 1 ∧ ((Rat.divInt 1 F).den : Int) = F := by
  have e : F = ((F.toNat : Nat) : Int) := by omega
  rw [e, Rat.divInt_ofNat]
  obtain ⟨a, b⟩ := rat_of_coprime (N := 1) (D := F.toNat) (by omega) (p := 1) (q := F.toNat) (by omega) (by simp) (by omega)
  rw [a, b]
  exact ⟨rfl, rfl⟩
theorem over_units {F : Int} (h : 0 < F) : (F : Rat) = ((F * F : Int) : Rat) * Rat.divInt 1 F := by
  obtain ⟨a, b⟩ := over_parts h
  rw [← divInt_units, a, b, Int.mul_one]
  have e : F = ((F.toNat : Nat) : Int) := by omega
  rw [e, Rat.divInt_ofNat, ← Rat.mkRat_one, Rat.mkRat_eq_iff (by omega) (by omega)]
  simp
theorem odd_half (n : Nat) : (pw (n + 1) - 1) % 2 = 1 ∧ (pw (n + 1) - 1) / 2 = pw n * 9223372036854775808 - 1 := by
  rw [pw_up]; have := pw_ge1 n; omega
theorem full_up (n : Nat) : uv 3 (((pw (n + 1) - 1 : Int)) : Rat) 2 = ((pw (n + 1) : Int) : Rat) := by
  obtain ⟨h1, h2⟩ := odd_half n
  have e1 : (((pw (n + 1) - 1 : Int)) : Rat).num = pw (n + 1) - 1 := rfl
  have e2 : (((pw (n + 1) - 1 : Int)) : Rat).den = 1 := rfl
  have e3 : (2 : Rat).num = 2 := rfl
  have e4 : (2 : Rat).den = 1 := rfl
  unfold uv
  rw [e1, e2, e3, e4]
  have e5 : rnd 3 ((pw (n + 1) - 1) * ((1 : Nat) : Int)) (((1 : Nat) : Int) * 2) = pw n * 9223372036854775808 := by
    rw [show (pw (n + 1) - 1) * ((1 : Nat) : Int) = pw (n + 1) - 1 by omega, show ((1 : Nat) : Int) * 2 = 2 by omega]
    unfold rnd
    rw [h1, h2, if_neg (by omega)]
    rw [if_pos (by rfl)]
    omega
  rw [e5, show (2 : Rat) = ((2 : Int) : Rat) from rfl, ← Rat.intCast_mul, pw_up]
  congr 1; omega
theorem full_down (n : Nat) : uv 4 (((pw (n + 1) - 1 : Int)) : Rat) 2 = ((pw (n + 1) - 2 : Int) : Rat) := by
  obtain ⟨h1, h2⟩ := odd_half n
  have e1 : (((pw (n + 1) - 1 : Int)) : Rat).num = pw (n + 1) - 1 := rfl
  have e2 : (((pw (n + 1) - 1 : Int)) : Rat).den = 1 := rfl
  have e3 : (2 : Rat).num = 2 := rfl
  have e4 : (2 : Rat).den = 1 := rfl
  unfold uv
  rw [e1, e2, e3, e4]
  have e5 : rnd 4 ((pw (n + 1) - 1) * ((1 : Nat) : Int)) (((1 : Nat) : Int) * 2) = pw n * 9223372036854775808 - 1 := by
    rw [show (pw (n + 1) - 1) * ((1 : Nat) : Int) = pw (n + 1) - 1 by omega, show ((1 : Nat) : Int) * 2 = 2 by omega]
    unfold rnd
    rw [h1, h2, if_neg (by omega)]
    rw [if_neg (by rw [show rise 4 (cmp3 (2 * 1) 2) (decide ((pw n * 9223372036854775808 - 1) % 2 ≠ 0)) = false from rfl]; decide)]
  rw [e5, show (2 : Rat) = ((2 : Int) : Rat) from rfl, ← Rat.intCast_mul, pw_up]
  congr 1; omega
theorem int_short_iff (k : Int) : Short ((k : Int) : Rat) ↔ (k.natAbs : Int) < pw 1024 := ⟨fun h => h.1, fun h => ⟨h, one_lt_pw (by omega)⟩⟩
end Go.Proofs.YtjaigmgbeganhaaGreat
namespace Go.Proofs.YtjaigmgbeganhaaGreat
open Go.RowKit Go.Shelf

/-- Not long, and long. -/
structure Fit (x : Int) : Prop where
  lt : x < pw 4096
structure Big (x : Int) : Prop where
  ge : pw 4096 ≤ x
theorem fit_or_big (x : Int) : Fit x ∨ Big x := by
  rcases Int.lt_or_le x (pw 4096) with h | h
  · exact .inl ⟨h⟩
  · exact .inr ⟨h⟩
theorem pow_step (x : Int) (m b : Nat) (hb : b = 0 ∨ b = 1) : x ^ (2 * m + b) = x ^ m * x ^ m * (if b = 0 then 1 else x) := by
  rcases hb with rfl | rfl
  · rw [Nat.add_zero, Nat.two_mul, Int.pow_add]; simp
  · rw [Int.pow_add, Nat.two_mul, Int.pow_add]; simp [Int.pow_succ]

theorem bits_nat {zs : List Int} (h : Limbs zs) {n : Nat} (e : num zs = n) (hn : n ≤ 9223372036854775807) : ∃ s : Nat, bitsN zs = s ∧ n < 2 ^ s ∧ s ≤ 63 := by
  rcases Nat.eq_zero_or_pos (usedN zs) with h0 | h0
  · refine ⟨0, bits_nought h0, ?_, by omega⟩
    have := (num_eq_zero h).2 h0
    simp; omega
  · obtain ⟨k, e1, k1, k2⟩ := bits_spec h h0
    rw [e] at k1 k2
    have k3 : n < 2 ^ (k + 1) := by
      have : (n : Int) < ((2 ^ (k + 1) : Nat) : Int) := by simpa using k2
      omega
    refine ⟨k + 1, by omega, k3, ?_⟩
    rcases Nat.lt_or_ge k 63 with h' | h'
    · omega
    · have h5 : (2 : Int) ^ 63 ≤ 2 ^ k := p2_mono h'
      have h6 : (2 : Int) ^ 63 = 9223372036854775808 := by decide
      omega
theorem and_one (g : Nat) (hg : g < 9223372036854775808) : bits .and .i64 (g : Int) 1 = ((g % 2 : Nat) : Int) := by
  have h1 : (BitVec.ofInt 64 (g : Int)).toNat = g := by
    rw [BitVec.ofInt_natCast, BitVec.toNat_ofNat]; exact Nat.mod_eq_of_lt (by omega)
  have h2 : (BitVec.ofInt 64 (1 : Int)).toNat = 1 := by decide
  show IntKind.i64.wrap ((BitVec.ofInt 64 (g : Int) &&& BitVec.ofInt 64 1).toNat : Int) = _
  rw [BitVec.toNat_and, h1, h2, Nat.and_one_is_mod, IntKind.wrap_i64]
  omega
theorem shr_nat (n d : Nat) : (n : Int) / 2 ^ d = ((n / 2 ^ d : Nat) : Int) := by
  rw [Int.natCast_ediv]; simp
theorem pow_ge_one {x : Int} (hx : 1 ≤ x) : ∀ k : Nat, 1 ≤ x ^ k
  | 0 => by rw [Int.pow_zero]; omega
  | k + 1 => by
    have h := pow_ge_one hx k
    rw [Int.pow_succ]
    have : 1 * 1 ≤ x ^ k * x := Int.mul_le_mul h hx (by decide) (by omega)
    omega
theorem big_up {x : Int} {j n : Nat} (h : Big (x ^ j)) (hx : 0 ≤ x) (hjn : j ≤ n) : Big (x ^ n) := by
  obtain ⟨h⟩ := h
  have h1 := pw_mono (show 1 ≤ 4096 by decide)
  have h2 : pw 1 = 18446744073709551616 := by decide
  rcases Int.lt_or_le x 1 with h3 | h3
  · obtain rfl : x = 0 := by omega
    exfalso
    rcases Nat.eq_zero_or_pos j with h4 | h4
    · subst h4; rw [Int.pow_zero] at h; omega
    · rw [Int.zero_pow (by omega)] at h; omega
  · obtain ⟨d, rfl⟩ := Nat.exists_eq_add_of_le hjn
    refine ⟨?_⟩
    rw [Int.pow_add]
    have h4 := pow_ge_one h3 d
    have h5 := pow_ge_one h3 j
    have : x ^ j * 1 ≤ x ^ j * x ^ d := Int.mul_le_mul_of_nonneg_left h4 (by omega)
    omega
theorem pow_neg (a : Option Addr) (la ca : Nat) (t : Int) (w : World) (ht : t < 0) :
    Calls Tryz.prog 41 #[.agg #[.slice a la ca], .int .i64 t] w fun e w' => e = .returned (.tuple #[.agg #[.slice none 0 0], .int .i64 2]) ∧ Below w.heap.size w w' := by
  go_enter Tryz.func41, Tryz.ntmps41
  go_wp2_with fail
  refine ent2 w _ _ _ _ (Q := fun W => bodyPost Tryz.prog _ _ _ _ W) ?_
  intro w0 B0 hs V0 V1
  exact bodyPost_ret (results_ct rfl rfl V1) rfl ⟨rfl, B0⟩
set_option maxHeartbeats 4000000 in
theorem pow_any (a : Option Addr) (la ca : Nat) (xs : List Int) (n : Nat) (w : World) (ha : Nt w a la ca xs) (hn : n ≤ 9223372036854775807) :
    Calls Tryz.prog 41 #[.agg #[.slice a la ca], .int .i64 n] w fun e w' =>
      (∃ a' l' c' zs, e = .returned (.tuple #[.agg #[.slice a' l' c'], .int .i64 0]) ∧ Nt w' a' l' c' zs ∧ num zs = num xs ^ n ∧ Below w.heap.size w w') ∨ (e = .returned (.tuple #[.agg #[.slice none 0 0], .int .i64 3]) ∧ Big (num xs ^ n) ∧ Below w.heap.size w w') := by
  have ew : IntKind.u64.wrap (n : Int) = n := by rw [IntKind.wrap_u64]; omega
  go_enter Tryz.func41, Tryz.ntmps41
  go_wp2_with fail
  refine ent2 w _ _ _ _ (Q := fun W => Calls Tryz.prog _ _ W _) ?_
  intro w0 B0 hs V0 V1
  replace ha := Nt.after B0 ha
  refine (small_any 1 ⟨by decide, by decide⟩ w0).mono ?_
  rintro e w1 ⟨a1, l1, k1, z1, rfl, h1, n1, hb1⟩
  replace V0 := V0.kept hb1
  replace V1 := V1.kept hb1
  replace B0 := step B0 hb1
  replace ha := Nt.after hb1 ha
  go_wp2_with fail
  refine ent1 w1 _ _ (Q := fun W => Calls Tryz.prog _ _ W _) ?_
  intro w2 B2 hs2 Vp
  replace V0 := V0.kept B2
  replace V1 := V1.kept B2
  replace B0 := step B0 B2
  replace ha := Nt.after B2 ha
  replace h1 := Nt.after B2 h1
  refine (small_any n ⟨by omega, by omega⟩ w2).mono ?_
  rintro e w3 ⟨a3, l3, k3, z3, rfl, h3, n3, hb3⟩
  replace V0 := V0.kept hb3
  replace V1 := V1.kept hb3
  replace Vp := Vp.kept hb3
  replace B0 := step B0 hb3
  replace ha := Nt.after hb3 ha
  replace h1 := Nt.after hb3 h1
  go_wp2_with fail
  refine (nbits_any a3 l3 k3 z3 w3 h3).mono ?_
  rintro e w4 ⟨rfl, hb4⟩
  replace V0 := V0.kept hb4
  replace V1 := V1.kept hb4
  replace Vp := Vp.kept hb4
  replace B0 := step B0 hb4
  replace ha := Nt.after hb4 ha
  replace h1 := Nt.after hb4 h1
  obtain ⟨sz, hsz, hlt, hs63⟩ := bits_nat h3.limbs n3 hn
  rw [hsz]
  have hbw : w1.heap.size < w4.heap.size := Vp.lt
  have hbw1 : w.heap.size + 1 < w1.heap.size := by
    have := hb1.size
    omega
  clear hb1 B2 hs2 hb3 hb4 hs
  have HV0 : Hid (Va w4 w.heap.size 25 #[.slice a la ca]) := V0
  have HV1 : Hid (Va w4 (w.heap.size + 1) 25 #[.slice none 0 0]) := V1
  have HVp : Hid (Va w4 w1.heap.size 25 #[.slice a1 l1 k1]) := Vp
  have HA : Hid (Nt w4 a la ca xs) := ha
  have H1 : Hid (Nt w4 a1 l1 k1 z1) := h1
  have HB : Hid (Below w.heap.size w w4) := B0
  have HN1 : Hid (num z1 = num xs ^ (n / 2 ^ (sz - 0))) := by
    show _ = _
    rw [Nat.sub_zero, Nat.div_eq_of_lt hlt, n1, Int.pow_zero]
  clear V0 V1 Vp ha h1 B0 n1 n3 h3 hsz
  go_wp2_with fail
  go_loopw [19] (fun ii wr => ∃ (k : Nat) (ap : Option Addr) (lp kp : Nat) (zp : List Int), k ≤ sz ∧ ii = .int .i64 k ∧ Hid (Va wr w.heap.size 25 #[.slice a la ca]) ∧ Hid (Va wr (w.heap.size + 1) 25 #[.slice none 0 0]) ∧ Hid (Va wr w1.heap.size 25 #[.slice ap lp kp]) ∧ Hid (Nt wr a la ca xs) ∧ Hid (Nt wr ap lp kp zp) ∧ Hid (num zp = num xs ^ (n / 2 ^ (sz - k))) ∧ Hid (Below w.heap.size w wr)) (fun ii _ => sz - (intOf ii).toNat)
  case atStart => exact ⟨0, a1, l1, k1, z1, Nat.zero_le _, rfl, HV0, HV1, HVp, HA, H1, HN1, HB⟩
  case round =>
    clear HV0 HV1 HVp HA H1 HN1 HB
    obtain ⟨k, ap, lp, kp, zp, hk, rfl, U0, U1, Up, hA, hP, hN, hB⟩ := hrel
    have c0 := U0.out.cell
    have c1 := U1.out.cell
    have cp := Up.out.cell
    have f1 := U1.out.frozen 0
    have fp := Up.out.frozen 0
    have x0 := hA.out.nonneg
    by_cases hlt2 : k < sz
    · obtain ⟨d, hd⟩ : ∃ d, d = sz - 1 - k := ⟨_, rfl⟩
      have hm : n / 2 ^ (sz - k) = n / 2 ^ d / 2 := by rw [Nat.div_div_eq_div_mul, ← Nat.pow_succ]; congr 2; omega
      rw [hm] at hN
      obtain ⟨g, hg⟩ : ∃ g, n / 2 ^ d = g := ⟨_, rfl⟩
      rw [hg] at hN
      have hgn : g ≤ n := by rw [← hg]; exact Nat.div_le_self _ _
      rcases fit_or_big (num zp * num zp) with hf | hf
      · go_wp2_with fail
        refine (nmul_ok ap ap lp kp lp kp zp zp wr hP.out hP.out hf.lt).mono ?_
        rintro e w5 ⟨aq, lq, kq, zq, rfl, hq, nq, hb5⟩
        have T0 := U0.out.kept hb5
        have T1 := U1.out.kept hb5
        have Tp := Up.out.kept hb5
        have B5 := step hB.out hb5
        have hA5 := Nt.after hb5 hA.out
        clear c0 c1 cp f1 fp
        have c0 := T0.cell
        have c1 := T1.cell
        have cp := Tp.cell
        have f1 := T1.frozen 0
        have fp := Tp.frozen 0
        have hne1 : w.heap.size ≠ w1.heap.size := by omega
        have hne2 : w.heap.size + 1 ≠ w1.heap.size := by omega
        have S0 := T0.other (p := ⟨w1.heap.size, 0, none⟩) hne1 (.slice aq lq kq)
        have S1 := T1.other (p := ⟨w1.heap.size, 0, none⟩) hne2 (.slice aq lq kq)
        have Sp := Tp.set (.slice aq lq kq)
        have SA := hA5.store Tp (.slice aq lq kq)
        have SQ := hq.store Tp (.slice aq lq kq)
        have SB := B5.setCell (p := ⟨w1.heap.size, 0, none⟩) (by show _ ≤ w1.heap.size; omega) (.slice aq lq kq)
        rw [hN.out, ← Int.pow_add] at nq
        have hbit : g % 2 = 0 ∨ g % 2 = 1 := by omega
        have eb := and_one g (by omega)
        rw [← hg, ← shr_nat, hg, hd] at eb
        rcases hbit with hb0 | hb1
        · rw [hb0] at eb
          have HN2 : Hid (num zq = num xs ^ (n / 2 ^ (sz - (k + 1)))) := by
            show _ = _
            rw [nq, show sz - (k + 1) = d by omega, hg]
            congr 1; omega
          go_wp2_with fail
          go_roundw
          case rel => exact ⟨k + 1, aq, lq, kq, zq, by omega, by go_num, S0, S1, Sp, SA, SQ, HN2, SB⟩
          case measure => simp [intOf]; omega
        · rw [hb1] at eb
          go_wp2_with fail
          generalize w5.setCell ⟨w1.heap.size, 0, none⟩ (.slice aq lq kq) = w6 at *
          rcases fit_or_big (num zq * num xs) with hf2 | hf2
          · refine (nmul_ok aq a lq kq la ca zq xs w6 SQ SA hf2.lt).mono ?_
            rintro e w7 ⟨ar, lr, kr, zr, rfl, hr, nr, hb7⟩
            have R0 := S0.kept hb7
            have R1 := S1.kept hb7
            have Rp := Sp.kept hb7
            have B7 := step SB hb7
            have hA7 := Nt.after hb7 SA
            have HN2 : Hid (num zr = num xs ^ (n / 2 ^ (sz - (k + 1)))) := by
              show _ = _
              rw [nr, nq, ← Int.pow_succ, show sz - (k + 1) = d by omega, hg]
              congr 1; omega
            have Q0 := R0.other (p := ⟨w1.heap.size, 0, none⟩) hne1 (.slice ar lr kr)
            have Q1 := R1.other (p := ⟨w1.heap.size, 0, none⟩) hne2 (.slice ar lr kr)
            have Qp := Rp.set (.slice ar lr kr)
            have QA := hA7.store Rp (.slice ar lr kr)
            have QR := hr.store Rp (.slice ar lr kr)
            have QB := B7.setCell (p := ⟨w1.heap.size, 0, none⟩) (by show _ ≤ w1.heap.size; omega) (.slice ar lr kr)
            clear c0 c1 cp f1 fp
            have cp := Rp.cell
            have fp := Rp.frozen 0
            go_wp2_with fail
            go_roundw
            case rel => exact ⟨k + 1, ar, lr, kr, zr, by omega, by go_num, Q0, Q1, Qp, QA, QR, HN2, QB⟩
            case measure => simp [intOf]; omega
          · have hbig : Big (num xs ^ n) := by
              rw [nq, ← Int.pow_succ] at hf2
              exact big_up hf2 x0 (by omega)
            refine (nmul_long aq a lq kq la ca zq xs w6 SQ SA hf2.ge).mono ?_
            rintro e w7 ⟨rfl, hb7⟩
            have R1 := S1.kept hb7
            have Rp := Sp.kept hb7
            have B7 := step SB hb7
            clear c0 c1 cp f1 fp
            have c1 := R1.cell
            have cp := Rp.cell
            have f1 := R1.frozen 0
            have fp := Rp.frozen 0
            go_wp2_with fail
            refine bodyPost_ret (results_ct rfl rfl ((R1.other (p := ⟨w1.heap.size, 0, none⟩) hne2 _).set _)) rfl ?_
            exact .inr ⟨rfl, hbig, (B7.setCell (p := ⟨w1.heap.size, 0, none⟩) (by show _ ≤ w1.heap.size; omega) _).setCell (p := ⟨w.heap.size + 1, 0, none⟩) (by show _ ≤ w.heap.size + 1; omega) _⟩
      · have hbig : Big (num xs ^ n) := by
          rw [hN.out, ← Int.pow_add] at hf
          exact big_up hf x0 (by omega)
        go_wp2_with fail
        refine (nmul_long ap ap lp kp lp kp zp zp wr hP.out hP.out hf.ge).mono ?_
        rintro e w5 ⟨rfl, hb5⟩
        have T1 := U1.out.kept hb5
        have Tp := Up.out.kept hb5
        have B5 := step hB.out hb5
        clear c0 c1 cp f1 fp
        have c1 := T1.cell
        have cp := Tp.cell
        have f1 := T1.frozen 0
        have fp := Tp.frozen 0
        go_wp2_with fail
        refine bodyPost_ret (results_ct rfl rfl ((T1.other (p := ⟨w1.heap.size, 0, none⟩) (by show w.heap.size + 1 ≠ w1.heap.size; omega) _).set _)) rfl ?_
        exact .inr ⟨rfl, hbig, (B5.setCell (p := ⟨w1.heap.size, 0, none⟩) (by show _ ≤ w1.heap.size; omega) _).setCell (p := ⟨w.heap.size + 1, 0, none⟩) (by show _ ≤ w.heap.size + 1; omega) _⟩
    · obtain rfl : k = sz := by omega
      have hN2 := hN.out
      rw [Nat.sub_self, Nat.pow_zero, Nat.div_one] at hN2
      go_wp2_with fail
      refine bodyPost_ret (results_ct rfl rfl (U1.out.set _)) rfl ?_
      exact .inl ⟨_, _, _, zp, rfl, hP.out.store U1.out _, hN2, hB.out.setCell (p := ⟨w.heap.size + 1, 0, none⟩) (by show _ ≤ w.heap.size + 1; omega) _⟩
end Go.Proofs.YtjaigmgbeganhaaGreat
namespace Go.Proofs.YtjaigmgbeganhaaGreat
open Go.RowKit Go.Shelf
set_option linter.unusedVariables false

/-- What Units and Places answer, of a number that may be too long. -/
def UnP (w : World) (v : Rat) (e : Ending) (w' : World) : Prop := ∃ er s' a' l' c' zs' b' m' d' ds' v', e = .returned (.tuple #[.agg #[.bool s', .slice a' l' c', .slice b' m' d'], .int .i64 er]) ∧ Rt w' s' a' l' c' zs' b' m' d' ds' v' ∧ Hid (RA v er v') ∧ Below w.heap.size w w'
theorem units_num {v t : Rat} (h1 : Short v) (h2 : Short t) : ∀ n, n = 2048 → ((v.num * (t.den : Int)).natAbs : Int) < pw n := fun n e => by subst e; exact h1.mul h2
theorem units_den {v t : Rat} (h1 : Short v) (h2 : Short t) (h : 0 < t.num) : ∀ n, n = 2048 → (v.den : Int) * t.num < pw n := fun n e => by
 subst e
 refine rt_fits (by omega) (by omega) h1.2 ?_ (show 1024 + 1024 ≤ 2048 by omega)
 have := h2.1; omega
theorem units_prod {q : Int} {v t : Rat} (h1 : Short v) (h2 : Short t) (h : 0 < t.num) : ∀ n, n = 4096 → ((rnd q (v.num * (t.den : Int)) ((v.den : Int) * t.num) * t.num).natAbs : Int) < pw n := fun n e => by
 subst e
 have hd := v.den_pos
 have a := rnd_abs (m := q) (n := v.num * (t.den : Int)) (d := (v.den : Int) * t.num) (Int.mul_pos (by omega) h)
 rw [Int.natAbs_mul, Int.natCast_mul]
 exact rt_fits (by omega) (by omega) (Int.lt_of_le_of_lt a (h1.mul h2)) h2.1 (show 2048 + 1024 ≤ 4096 by omega)

set_option maxHeartbeats 16000000 in
set_option maxRecDepth 4000 in
theorem units_ok (q : Int) (q1 : 1 ≤ q) (q2 : q ≤ 5) (s1 : Bool) (a1 : Option Addr) (l1 c1 : Nat) (z1 : List Int) (b1 : Option Addr) (m1 d1 : Nat) (y1 : List Int) (v : Rat) (s2 : Bool) (a2 : Option Addr) (l2 c2 : Nat) (z2 : List Int) (b2 : Option Addr) (m2 d2 : Nat) (y2 : List Int) (t : Rat) (w : World) (hr : Rt w s1 a1 l1 c1 z1 b1 m1 d1 y1 v) (hu : Rt w s2 a2 l2 c2 z2 b2 m2 d2 y2 t) (ht : Hid (0 < t.num)) :
  Calls Tryz.prog 9 #[.agg #[.bool s1, .slice a1 l1 c1, .slice b1 m1 d1], .agg #[.bool s2, .slice a2 l2 c2, .slice b2 m2 d2], .int .i64 q] w fun e w' => UnP w (uv q v t) e w' := by
 obtain ⟨nm, Kf, C, CK, CE⟩ := wayOf_ok q q1 q2; have HC : Hid (∀ w, Calls Tryz.prog 31 #[.int .i64 q] w fun e w' => e = .returned (.tuple #[.agg #[.int .i64 q, .string nm, .func (.func Kf) #[] #[]], .bool true]) ∧ Below w.heap.size w w') := C; have HK : Hid (∀ h p w, Calls Tryz.prog Kf #[.int .i64 h, .bool p] w fun e w' => e = .returned (.bool (rise q h p)) ∧ w' = w) := CK; have HE : Hid (∀ args w, (callFunc Kf args).run Tryz.prog w = .ok (.enter Kf args) w) := CE; clear C CK CE; have F1 : Hid (∀ n, n = 2048 → ((v.num * (t.den : Int)).natAbs : Int) < pw n) := units_num hr.2.2.2.2 hu.2.2.2.2; have F2 : Hid (∀ n, n = 2048 → (v.den : Int) * t.num < pw n) := units_den hr.2.2.2.2 hu.2.2.2.2 ht.out; have F3 : Hid (∀ n, n = 4096 → ((rnd q (v.num * (t.den : Int)) ((v.den : Int) * t.num) * t.num).natAbs : Int) < pw n) := units_prod hr.2.2.2.2 hu.2.2.2.2 ht.out; have B0 : Below w.heap.size w w := Below.refl _ _
 go_enter Tryz.func9, Tryz.ntmps9
 (go_wp2_with fail); refine ent3 w _ _ _ _ _ _ (Q := fun W => Calls Tryz.prog _ _ W _) ?_; intro x1 hb hs_x1 V0 V1 V2; replace hr := Rt.after hb hr; replace hu := Rt.after hb hu; replace B0 := step B0 hb; clear hb hs_x1; refine (HC.out x1).mono ?_; rintro e x2 ⟨rfl, hb⟩; replace V0 := Va.after hb V0; replace V1 := Va.after hb V1; replace V2 := Va.after hb V2; replace hr := Rt.after hb hr; replace hu := Rt.after hb hu; replace B0 := step B0 hb; clear hb; have lw := V2.lt; have c_V1 := V1.d0; have f0_V1 := V1.frozen 0; have d_V1 := V1.d1; have f1_V1 := V1.frozen 1; have e_V1 := V1.d2; have f2_V1 := V1.frozen 2; have l_V1 := V1.lt; have m_V1 := Nat.le_of_lt l_V1; have p0_V1 := (V1.old (.cells #[.int .i64 q, .string nm, .func (.func Kf) #[] #[]] 69)).d0; have q0_V1 := (V1.old (.cells #[.int .i64 q, .string nm, .func (.func Kf) #[] #[]] 69)).frozen 0; have p1_V1 := (V1.old (.cells #[.int .i64 q, .string nm, .func (.func Kf) #[] #[]] 69)).d1; have q1_V1 := (V1.old (.cells #[.int .i64 q, .string nm, .func (.func Kf) #[] #[]] 69)).frozen 1
 have p2_V1 := (V1.old (.cells #[.int .i64 q, .string nm, .func (.func Kf) #[] #[]] 69)).d2; have q2_V1 := (V1.old (.cells #[.int .i64 q, .string nm, .func (.func Kf) #[] #[]] 69)).frozen 2; (go_wp2_with fail); refine ent1 x2 _ _ (Q := fun W => Calls Tryz.prog _ _ W _) ?_; intro x3 hb hs_x3 Vw; replace V0 := Va.after hb V0; replace V1 := Va.after hb V1; replace V2 := Va.after hb V2; replace hr := Rt.after hb hr; replace hu := Rt.after hb hu; replace B0 := step B0 hb; clear hb hs_x3; refine (qsign_any s2 a2 l2 c2 z2 b2 m2 d2 y2 t x3 hu).mono ?_; rintro e x4 ⟨rfl, hb⟩; replace V0 := Va.after hb V0; replace V1 := Va.after hb V1; replace V2 := Va.after hb V2; replace Vw := Va.after hb Vw; replace hr := Rt.after hb hr; replace hu := Rt.after hb hu; replace B0 := step B0 hb; clear hb; rw [Int.sign_eq_one_of_pos ht.out]; clear c_V1 f0_V1 d_V1 f1_V1 e_V1 f2_V1 l_V1 m_V1 p0_V1 q0_V1 p1_V1 q1_V1 p2_V1 q2_V1; (go_wp2_with fail); (have LS : Hid (∀ W, Below x4.heap.size x4 W → (fun W => W.cell? ⟨w.heap.size, 0, none⟩ = some (.bool s1) ∧ W.cell? ⟨w.heap.size, 1, none⟩ = some (.slice a1 l1 c1) ∧ W.cell? ⟨w.heap.size, 2, none⟩ = some (.slice b1 m1 d1) ∧ W.cell? ⟨w.heap.size + 1, 0, none⟩ = some (.bool s2) ∧ W.cell? ⟨w.heap.size + 1, 1, none⟩ = some (.slice a2 l2 c2) ∧ W.cell? ⟨w.heap.size + 1, 2, none⟩ = some (.slice b2 m2 d2)) W) := fun W hb => ⟨(Va.after hb V0).d0, (Va.after hb V0).d1, (Va.after hb V0).d2, (Va.after hb V1).d0, (Va.after hb V1).d1, (Va.after hb V1).d2⟩)
 have lb_V0 := V0.lt; have L_V0 : Hid (Va x4 (w.heap.size) 29 #[.bool s1, .slice a1 l1 c1, .slice b1 m1 d1]) := V0; have lb_V1 := V1.lt; have L_V1 : Hid (Va x4 (w.heap.size + 1) 29 #[.bool s2, .slice a2 l2 c2, .slice b2 m2 d2]) := V1; have lb_V2 := V2.lt; have L_V2 : Hid (Va x4 (w.heap.size + 1 + 1) 29 #[.bool false, .slice none 0 0, .slice none 0 0]) := V2; have lb_Vw := Vw.lt; have L_Vw : Hid (Va x4 (x2.heap.size) 69 #[.int .i64 q, .string nm, .func (.func Kf) #[] #[]]) := Vw; have L_hr : Hid (Rt x4 s1 a1 l1 c1 z1 b1 m1 d1 y1 v) := hr; have L_hu : Hid (Rt x4 s2 a2 l2 c2 z2 b2 m2 d2 y2 t) := hu; have L_B : Hid (Below w.heap.size w x4) := B0; clear V0 V1 V2 Vw hr hu B0; have BX := Below.refl x4.heap.size x4
 go_cut [10, 11] (fun s10 s11 wx => ∃ (b10 : Nat) (sn : Bool) (an : Option Addr) (ln cn : Nat) (zn : List Int), s10 = .pointer (some ⟨b10, 0, none⟩) ∧ s11 = .int .i64 0 ∧ Hid (Va wx b10 27 #[.bool sn, .slice an ln cn]) ∧ Hid (It wx sn an ln cn zn) ∧ Hid (iv sn zn = v.num * (t.den : Int)) ∧ Hid (Below x4.heap.size x4 wx))
 case first =>
  refine wp_region_noPanic ?_; replace BX := Below.drew BX; refine wp_region_held_drew (S := (fun W => W.cell? ⟨w.heap.size, 0, none⟩ = some (.bool s1) ∧ W.cell? ⟨w.heap.size, 1, none⟩ = some (.slice a1 l1 c1) ∧ W.cell? ⟨w.heap.size, 2, none⟩ = some (.slice b1 m1 d1) ∧ W.cell? ⟨w.heap.size + 1, 0, none⟩ = some (.bool s2) ∧ W.cell? ⟨w.heap.size + 1, 1, none⟩ = some (.slice a2 l2 c2) ∧ W.cell? ⟨w.heap.size + 1, 2, none⟩ = some (.slice b2 m2 d2))) (by kernel_rfl) (LS.out _ BX) (fun hHeld => ?_); (obtain ⟨x5, hxd⟩ : ∃ xd, xd = x4.drew := ⟨_, rfl⟩); rw [← hxd] at BX hHeld ⊢; clear hxd; refine tk 0 rfl hHeld ?_; simp only [gA, gB, Act.put, gD, gE, gF]; refine tk 2 rfl hHeld ?_; simp only [gA, gB, gC, Act.put, gD, gE, gF]; refine wpAnyH_ready (rs := [1, 9]) (by kernel_rfl) (by simp) ?_; refine AllReadyH.cons rfl (fun K hK => ?_) (AllReadyH.cons rfl (fun K hK => ?_) AllReadyH.nil)
  ·
   simp only [gA, gB, gC]; (go_simp); refine (qnum_any s1 a1 l1 c1 b1 m1 d1 _).mono ?_; rintro e x6 ⟨rfl, hb⟩; replace BX := step BX hb; clear hb; (try go_wp2_with fail); refine hK.out _ _ (LS.out _ BX) (fun hHeld => ?_); clear hK K; refine wpAnyH_ready (rs := [3, 9]) (by kernel_rfl) (by simp) ?_; refine AllReadyH.cons rfl (fun K hK => ?_) (AllReadyH.cons rfl (fun K hK => ?_) AllReadyH.nil)
   ·
    simp only [gA, gB, gC]; (go_simp); refine (rden_any s2 a2 l2 c2 b2 m2 d2 y2 _ (Rt.after BX L_hu.out).2.1).mono ?_; rintro e x7 ⟨b3, m3, d3, y3, rfl, h3, e3, hb⟩; replace BX := step BX hb; clear hb; have E3 : Hid (num y3 = (t.den : Int)) := e3.trans L_hu.out.2.2.2.1; clear e3; (try go_wp2_with fail); refine hK.out _ _ (LS.out _ BX) (fun hHeld => ?_); clear hK K; refine wpAnyH_ready (rs := [4, 9]) (by kernel_rfl) (by simp) ?_; refine AllReadyH.cons rfl (fun K hK => ?_) (AllReadyH.cons rfl (fun K hK => ?_) AllReadyH.nil)
    ·
     simp only [gA, gB, gC]; (go_simp); refine (above7 b3 m3 d3 y3 _ h3).mono ?_; rintro e x8 ⟨rfl, h4, hb⟩; replace h3 := Nt.after hb h3; replace BX := step BX hb; clear hb; (try go_wp2_with fail); refine hK.out _ _ (LS.out _ BX) (fun hHeld => ?_); clear hK K; refine wpAnyH_ready (rs := [5, 9]) (by kernel_rfl) (by simp) ?_; refine AllReadyH.cons rfl (fun K hK => ?_) (AllReadyH.cons rfl (fun K hK => ?_) AllReadyH.nil)
     ·
      simp only [gA, gB, gC]; (go_simp); refine (wmul_ok s1 false a1 b3 l1 c1 m3 d3 z1 y3 _ (Rt.after BX L_hr.out).1 h4 (by show ((iv s1 z1 * iv false y3).natAbs : Int) < _; rw [L_hr.out.2.2.1, iv_f, E3.out]; exact Int.lt_of_lt_of_le (F1.out 2048 rfl) (pw_mono (by omega)))).mono ?_; rintro e x9 ⟨sn, an, ln, cn, zn, rfl, hn, en, hb⟩; replace h3 := Nt.after hb h3; replace h4 := It.after hb h4; replace BX := step BX hb; clear hb; (replace en : iv sn zn = v.num * (t.den : Int) := by rw [en, L_hr.out.2.2.1, iv_f, E3.out]); (try go_wp2_with fail); refine hK.out _ _ (LS.out _ BX) (fun hHeld => ?_); clear hK K; refine tk 6 rfl hHeld ?_; simp only [gA, gB, gC, Act.put, gD, gE, gF]; refine tk 7 rfl hHeld ?_; simp only [gA, gB, gC, Act.put, gD, gE, gF]; refine tk 8 rfl hHeld ?_; simp only [gA, gB, gC, Act.put, gD, gE, gF]; refine wpAnyH_ready (rs := [9]) (by kernel_rfl) (by simp) ?_; refine AllReadyH.cons rfl (fun K hK => ?_) AllReadyH.nil
      ·
       simp only [gA, gB, gC]; (go_simp); have sz_Vn := BX.size; refine ent1 _ _ _ (Q := fun V => K _ V) ?_; intro x10 hb hs_ Vn; replace h3 := Nt.after hb h3; replace h4 := It.after hb h4; replace hn := It.after hb hn; replace BX := step BX hb; clear hb hs_; refine hK.out _ _ (LS.out _ BX) (fun hHeld => ?_); clear hK K; have c_Vn := Vn.c0; have f0_Vn := Vn.frozen 0; have d_Vn := Vn.c1; have f1_Vn := Vn.frozen 1; have l_Vn := Vn.lt; have m_Vn := Nat.le_of_lt l_Vn; refine wpAnyH_ready (rs := [10]) (by kernel_rfl) (by simp) ?_; refine AllReadyH.cons rfl (fun K hK => ?_) AllReadyH.nil; simp only [gA, gB, gC]; (go_simp); clear c_Vn f0_Vn d_Vn f1_Vn l_Vn m_Vn; refine st2 Vn (.bool sn) (.slice an ln cn) (Q := fun W => K _ W) ?_; intro x11 V' oth far; replace h3 := h3.far Vn (noInt2 _ _ _ _) far.1; replace h4 := h4.far Vn (noInt2 _ _ _ _) far.1; replace hn := hn.far Vn (noInt2 _ _ _ _) far.1; replace BX := far.2 _ _ (by first | omega | (simp; omega)) BX; replace Vn := V'
       clear oth far; refine hK.out _ _ (LS.out _ BX) (fun hHeld => ?_); clear hK K; refine tk 11 rfl hHeld ?_; simp only [gA, gB, gC, Act.put, gD, gE, gF]; refine wpAnyH_done (by kernel_rfl) ?_ _; refine NoPanic.normal ?_; clear hHeld; (go_wp2_with fail)
       go_meet
       exact ⟨_, sn, an, ln, cn, zn, rfl, rfl, Vn, hn, en, BX⟩
     ·
      simp only [gA, gB, gC]; (go_simp); have sz_Vn := BX.size; refine ent1 _ _ _ (Q := fun V => K _ V) ?_; intro x9 hb hs_ Vn; replace h3 := Nt.after hb h3; replace h4 := It.after hb h4; replace BX := step BX hb; clear hb hs_; refine hK.out _ _ (LS.out _ BX) (fun hHeld => ?_); clear hK K; refine wpAnyH_ready (rs := [5]) (by kernel_rfl) (by simp) ?_; refine AllReadyH.cons rfl (fun K hK => ?_) AllReadyH.nil
      ·
       simp only [gA, gB, gC]; (go_simp); refine (wmul_ok s1 false a1 b3 l1 c1 m3 d3 z1 y3 _ (Rt.after BX L_hr.out).1 h4 (by show ((iv s1 z1 * iv false y3).natAbs : Int) < _; rw [L_hr.out.2.2.1, iv_f, E3.out]; exact Int.lt_of_lt_of_le (F1.out 2048 rfl) (pw_mono (by omega)))).mono ?_; rintro e x10 ⟨sn, an, ln, cn, zn, rfl, hn, en, hb⟩; replace Vn := Va.after hb Vn; replace h3 := Nt.after hb h3; replace h4 := It.after hb h4; replace BX := step BX hb; clear hb; (replace en : iv sn zn = v.num * (t.den : Int) := by rw [en, L_hr.out.2.2.1, iv_f, E3.out]); (try go_wp2_with fail); refine hK.out _ _ (LS.out _ BX) (fun hHeld => ?_); clear hK K; refine tk 6 rfl hHeld ?_; simp only [gA, gB, gC, Act.put, gD, gE, gF]; refine tk 7 rfl hHeld ?_; simp only [gA, gB, gC, Act.put, gD, gE, gF]; refine tk 8 rfl hHeld ?_; simp only [gA, gB, gC, Act.put, gD, gE, gF]; have c_Vn := Vn.c0; have f0_Vn := Vn.frozen 0; have d_Vn := Vn.c1; have f1_Vn := Vn.frozen 1; have l_Vn := Vn.lt
       have m_Vn := Nat.le_of_lt l_Vn; refine wpAnyH_ready (rs := [10]) (by kernel_rfl) (by simp) ?_; refine AllReadyH.cons rfl (fun K hK => ?_) AllReadyH.nil; simp only [gA, gB, gC]; (go_simp); clear c_Vn f0_Vn d_Vn f1_Vn l_Vn m_Vn; refine st2 Vn (.bool sn) (.slice an ln cn) (Q := fun W => K _ W) ?_; intro x11 V' oth far; replace h3 := h3.far Vn (noInt2 _ _ _ _) far.1; replace h4 := h4.far Vn (noInt2 _ _ _ _) far.1; replace hn := hn.far Vn (noInt2 _ _ _ _) far.1; replace BX := far.2 _ _ (by first | omega | (simp; omega)) BX; replace Vn := V'; clear oth far; refine hK.out _ _ (LS.out _ BX) (fun hHeld => ?_); clear hK K; refine tk 11 rfl hHeld ?_; simp only [gA, gB, gC, Act.put, gD, gE, gF]; refine wpAnyH_done (by kernel_rfl) ?_ _; refine NoPanic.normal ?_; clear hHeld; (go_wp2_with fail)
       go_meet
       exact ⟨_, sn, an, ln, cn, zn, rfl, rfl, Vn, hn, en, BX⟩
    ·
     simp only [gA, gB, gC]; (go_simp); have sz_Vn := BX.size; refine ent1 _ _ _ (Q := fun V => K _ V) ?_; intro x8 hb hs_ Vn; replace h3 := Nt.after hb h3; replace BX := step BX hb; clear hb hs_; refine hK.out _ _ (LS.out _ BX) (fun hHeld => ?_); clear hK K; refine wpAnyH_ready (rs := [4]) (by kernel_rfl) (by simp) ?_; refine AllReadyH.cons rfl (fun K hK => ?_) AllReadyH.nil
     ·
      simp only [gA, gB, gC]; (go_simp); refine (above7 b3 m3 d3 y3 _ h3).mono ?_; rintro e x9 ⟨rfl, h4, hb⟩; replace Vn := Va.after hb Vn; replace h3 := Nt.after hb h3; replace BX := step BX hb; clear hb; (try go_wp2_with fail); refine hK.out _ _ (LS.out _ BX) (fun hHeld => ?_); clear hK K; refine wpAnyH_ready (rs := [5]) (by kernel_rfl) (by simp) ?_; refine AllReadyH.cons rfl (fun K hK => ?_) AllReadyH.nil
      ·
       simp only [gA, gB, gC]; (go_simp); refine (wmul_ok s1 false a1 b3 l1 c1 m3 d3 z1 y3 _ (Rt.after BX L_hr.out).1 h4 (by show ((iv s1 z1 * iv false y3).natAbs : Int) < _; rw [L_hr.out.2.2.1, iv_f, E3.out]; exact Int.lt_of_lt_of_le (F1.out 2048 rfl) (pw_mono (by omega)))).mono ?_; rintro e x10 ⟨sn, an, ln, cn, zn, rfl, hn, en, hb⟩; replace Vn := Va.after hb Vn; replace h3 := Nt.after hb h3; replace h4 := It.after hb h4; replace BX := step BX hb; clear hb; (replace en : iv sn zn = v.num * (t.den : Int) := by rw [en, L_hr.out.2.2.1, iv_f, E3.out]); (try go_wp2_with fail); refine hK.out _ _ (LS.out _ BX) (fun hHeld => ?_); clear hK K; refine tk 6 rfl hHeld ?_; simp only [gA, gB, gC, Act.put, gD, gE, gF]; refine tk 7 rfl hHeld ?_; simp only [gA, gB, gC, Act.put, gD, gE, gF]; refine tk 8 rfl hHeld ?_; simp only [gA, gB, gC, Act.put, gD, gE, gF]; have c_Vn := Vn.c0; have f0_Vn := Vn.frozen 0; have d_Vn := Vn.c1; have f1_Vn := Vn.frozen 1; have l_Vn := Vn.lt
       have m_Vn := Nat.le_of_lt l_Vn; refine wpAnyH_ready (rs := [10]) (by kernel_rfl) (by simp) ?_; refine AllReadyH.cons rfl (fun K hK => ?_) AllReadyH.nil; simp only [gA, gB, gC]; (go_simp); clear c_Vn f0_Vn d_Vn f1_Vn l_Vn m_Vn; refine st2 Vn (.bool sn) (.slice an ln cn) (Q := fun W => K _ W) ?_; intro x11 V' oth far; replace h3 := h3.far Vn (noInt2 _ _ _ _) far.1; replace h4 := h4.far Vn (noInt2 _ _ _ _) far.1; replace hn := hn.far Vn (noInt2 _ _ _ _) far.1; replace BX := far.2 _ _ (by first | omega | (simp; omega)) BX; replace Vn := V'; clear oth far; refine hK.out _ _ (LS.out _ BX) (fun hHeld => ?_); clear hK K; refine tk 11 rfl hHeld ?_; simp only [gA, gB, gC, Act.put, gD, gE, gF]; refine wpAnyH_done (by kernel_rfl) ?_ _; refine NoPanic.normal ?_; clear hHeld; (go_wp2_with fail)
       go_meet
       exact ⟨_, sn, an, ln, cn, zn, rfl, rfl, Vn, hn, en, BX⟩
   ·
    simp only [gA, gB, gC]; (go_simp); have sz_Vn := BX.size; refine ent1 _ _ _ (Q := fun V => K _ V) ?_; intro x7 hb hs_ Vn; replace BX := step BX hb; clear hb hs_; refine hK.out _ _ (LS.out _ BX) (fun hHeld => ?_); clear hK K; refine wpAnyH_ready (rs := [3]) (by kernel_rfl) (by simp) ?_; refine AllReadyH.cons rfl (fun K hK => ?_) AllReadyH.nil
    ·
     simp only [gA, gB, gC]; (go_simp); refine (rden_any s2 a2 l2 c2 b2 m2 d2 y2 _ (Rt.after BX L_hu.out).2.1).mono ?_; rintro e x8 ⟨b3, m3, d3, y3, rfl, h3, e3, hb⟩; replace Vn := Va.after hb Vn; replace BX := step BX hb; clear hb; have E3 : Hid (num y3 = (t.den : Int)) := e3.trans L_hu.out.2.2.2.1; clear e3; (try go_wp2_with fail); refine hK.out _ _ (LS.out _ BX) (fun hHeld => ?_); clear hK K; refine wpAnyH_ready (rs := [4]) (by kernel_rfl) (by simp) ?_; refine AllReadyH.cons rfl (fun K hK => ?_) AllReadyH.nil
     ·
      simp only [gA, gB, gC]; (go_simp); refine (above7 b3 m3 d3 y3 _ h3).mono ?_; rintro e x9 ⟨rfl, h4, hb⟩; replace Vn := Va.after hb Vn; replace h3 := Nt.after hb h3; replace BX := step BX hb; clear hb; (try go_wp2_with fail); refine hK.out _ _ (LS.out _ BX) (fun hHeld => ?_); clear hK K; refine wpAnyH_ready (rs := [5]) (by kernel_rfl) (by simp) ?_; refine AllReadyH.cons rfl (fun K hK => ?_) AllReadyH.nil
      ·
       simp only [gA, gB, gC]; (go_simp); refine (wmul_ok s1 false a1 b3 l1 c1 m3 d3 z1 y3 _ (Rt.after BX L_hr.out).1 h4 (by show ((iv s1 z1 * iv false y3).natAbs : Int) < _; rw [L_hr.out.2.2.1, iv_f, E3.out]; exact Int.lt_of_lt_of_le (F1.out 2048 rfl) (pw_mono (by omega)))).mono ?_; rintro e x10 ⟨sn, an, ln, cn, zn, rfl, hn, en, hb⟩; replace Vn := Va.after hb Vn; replace h3 := Nt.after hb h3; replace h4 := It.after hb h4; replace BX := step BX hb; clear hb; (replace en : iv sn zn = v.num * (t.den : Int) := by rw [en, L_hr.out.2.2.1, iv_f, E3.out]); (try go_wp2_with fail); refine hK.out _ _ (LS.out _ BX) (fun hHeld => ?_); clear hK K; refine tk 6 rfl hHeld ?_; simp only [gA, gB, gC, Act.put, gD, gE, gF]; refine tk 7 rfl hHeld ?_; simp only [gA, gB, gC, Act.put, gD, gE, gF]; refine tk 8 rfl hHeld ?_; simp only [gA, gB, gC, Act.put, gD, gE, gF]; have c_Vn := Vn.c0; have f0_Vn := Vn.frozen 0; have d_Vn := Vn.c1; have f1_Vn := Vn.frozen 1; have l_Vn := Vn.lt
       have m_Vn := Nat.le_of_lt l_Vn; refine wpAnyH_ready (rs := [10]) (by kernel_rfl) (by simp) ?_; refine AllReadyH.cons rfl (fun K hK => ?_) AllReadyH.nil; simp only [gA, gB, gC]; (go_simp); clear c_Vn f0_Vn d_Vn f1_Vn l_Vn m_Vn; refine st2 Vn (.bool sn) (.slice an ln cn) (Q := fun W => K _ W) ?_; intro x11 V' oth far; replace h3 := h3.far Vn (noInt2 _ _ _ _) far.1; replace h4 := h4.far Vn (noInt2 _ _ _ _) far.1; replace hn := hn.far Vn (noInt2 _ _ _ _) far.1; replace BX := far.2 _ _ (by first | omega | (simp; omega)) BX; replace Vn := V'; clear oth far; refine hK.out _ _ (LS.out _ BX) (fun hHeld => ?_); clear hK K; refine tk 11 rfl hHeld ?_; simp only [gA, gB, gC, Act.put, gD, gE, gF]; refine wpAnyH_done (by kernel_rfl) ?_ _; refine NoPanic.normal ?_; clear hHeld; (go_wp2_with fail)
       go_meet
       exact ⟨_, sn, an, ln, cn, zn, rfl, rfl, Vn, hn, en, BX⟩
  ·
   simp only [gA, gB, gC]; (go_simp); have sz_Vn := BX.size; refine ent1 _ _ _ (Q := fun V => K _ V) ?_; intro x6 hb hs_ Vn; replace BX := step BX hb; clear hb hs_; refine hK.out _ _ (LS.out _ BX) (fun hHeld => ?_); clear hK K; refine wpAnyH_ready (rs := [1]) (by kernel_rfl) (by simp) ?_; refine AllReadyH.cons rfl (fun K hK => ?_) AllReadyH.nil
   ·
    simp only [gA, gB, gC]; (go_simp); refine (qnum_any s1 a1 l1 c1 b1 m1 d1 _).mono ?_; rintro e x7 ⟨rfl, hb⟩; replace Vn := Va.after hb Vn; replace BX := step BX hb; clear hb; (try go_wp2_with fail); refine hK.out _ _ (LS.out _ BX) (fun hHeld => ?_); clear hK K; refine wpAnyH_ready (rs := [3]) (by kernel_rfl) (by simp) ?_; refine AllReadyH.cons rfl (fun K hK => ?_) AllReadyH.nil
    ·
     simp only [gA, gB, gC]; (go_simp); refine (rden_any s2 a2 l2 c2 b2 m2 d2 y2 _ (Rt.after BX L_hu.out).2.1).mono ?_; rintro e x8 ⟨b3, m3, d3, y3, rfl, h3, e3, hb⟩; replace Vn := Va.after hb Vn; replace BX := step BX hb; clear hb; have E3 : Hid (num y3 = (t.den : Int)) := e3.trans L_hu.out.2.2.2.1; clear e3; (try go_wp2_with fail); refine hK.out _ _ (LS.out _ BX) (fun hHeld => ?_); clear hK K; refine wpAnyH_ready (rs := [4]) (by kernel_rfl) (by simp) ?_; refine AllReadyH.cons rfl (fun K hK => ?_) AllReadyH.nil
     ·
      simp only [gA, gB, gC]; (go_simp); refine (above7 b3 m3 d3 y3 _ h3).mono ?_; rintro e x9 ⟨rfl, h4, hb⟩; replace Vn := Va.after hb Vn; replace h3 := Nt.after hb h3; replace BX := step BX hb; clear hb; (try go_wp2_with fail); refine hK.out _ _ (LS.out _ BX) (fun hHeld => ?_); clear hK K; refine wpAnyH_ready (rs := [5]) (by kernel_rfl) (by simp) ?_; refine AllReadyH.cons rfl (fun K hK => ?_) AllReadyH.nil
      ·
       simp only [gA, gB, gC]; (go_simp); refine (wmul_ok s1 false a1 b3 l1 c1 m3 d3 z1 y3 _ (Rt.after BX L_hr.out).1 h4 (by show ((iv s1 z1 * iv false y3).natAbs : Int) < _; rw [L_hr.out.2.2.1, iv_f, E3.out]; exact Int.lt_of_lt_of_le (F1.out 2048 rfl) (pw_mono (by omega)))).mono ?_; rintro e x10 ⟨sn, an, ln, cn, zn, rfl, hn, en, hb⟩; replace Vn := Va.after hb Vn; replace h3 := Nt.after hb h3; replace h4 := It.after hb h4; replace BX := step BX hb; clear hb; (replace en : iv sn zn = v.num * (t.den : Int) := by rw [en, L_hr.out.2.2.1, iv_f, E3.out]); (try go_wp2_with fail); refine hK.out _ _ (LS.out _ BX) (fun hHeld => ?_); clear hK K; refine tk 6 rfl hHeld ?_; simp only [gA, gB, gC, Act.put, gD, gE, gF]; refine tk 7 rfl hHeld ?_; simp only [gA, gB, gC, Act.put, gD, gE, gF]; refine tk 8 rfl hHeld ?_; simp only [gA, gB, gC, Act.put, gD, gE, gF]; have c_Vn := Vn.c0; have f0_Vn := Vn.frozen 0; have d_Vn := Vn.c1; have f1_Vn := Vn.frozen 1; have l_Vn := Vn.lt
       have m_Vn := Nat.le_of_lt l_Vn; refine wpAnyH_ready (rs := [10]) (by kernel_rfl) (by simp) ?_; refine AllReadyH.cons rfl (fun K hK => ?_) AllReadyH.nil; simp only [gA, gB, gC]; (go_simp); clear c_Vn f0_Vn d_Vn f1_Vn l_Vn m_Vn; refine st2 Vn (.bool sn) (.slice an ln cn) (Q := fun W => K _ W) ?_; intro x11 V' oth far; replace h3 := h3.far Vn (noInt2 _ _ _ _) far.1; replace h4 := h4.far Vn (noInt2 _ _ _ _) far.1; replace hn := hn.far Vn (noInt2 _ _ _ _) far.1; replace BX := far.2 _ _ (by first | omega | (simp; omega)) BX; replace Vn := V'; clear oth far; refine hK.out _ _ (LS.out _ BX) (fun hHeld => ?_); clear hK K; refine tk 11 rfl hHeld ?_; simp only [gA, gB, gC, Act.put, gD, gE, gF]; refine wpAnyH_done (by kernel_rfl) ?_ _; refine NoPanic.normal ?_; clear hHeld; (go_wp2_with fail)
       go_meet
       exact ⟨_, sn, an, ln, cn, zn, rfl, rfl, Vn, hn, en, BX⟩
 case rest =>
  clear BX; obtain ⟨b10, sn, an, ln, cn, zn, rfl, rfl, Vn', hn', en', BX'⟩ := hcut; have Vn := Vn'.out; have hn := hn'.out; have en := en'.out; have BX := BX'.out; clear Vn' hn' en' BX'; have V0 := Va.after BX L_V0.out; have V1 := Va.after BX L_V1.out; have V2 := Va.after BX L_V2.out; have Vw := Va.after BX L_Vw.out; have hr := Rt.after BX L_hr.out; have hu := Rt.after BX L_hu.out; have B0 := step L_B.out BX; have EN : Hid (iv sn zn = v.num * (t.den : Int)) := en; clear en; (go_wp2_with fail); (have LS : Hid (∀ W, Below wc.heap.size wc W → (fun W => W.cell? ⟨w.heap.size, 0, none⟩ = some (.bool s1) ∧ W.cell? ⟨w.heap.size, 1, none⟩ = some (.slice a1 l1 c1) ∧ W.cell? ⟨w.heap.size, 2, none⟩ = some (.slice b1 m1 d1) ∧ W.cell? ⟨w.heap.size + 1, 0, none⟩ = some (.bool s2) ∧ W.cell? ⟨w.heap.size + 1, 1, none⟩ = some (.slice a2 l2 c2) ∧ W.cell? ⟨w.heap.size + 1, 2, none⟩ = some (.slice b2 m2 d2)) W) := fun W hb => ⟨(Va.after hb V0).d0, (Va.after hb V0).d1, (Va.after hb V0).d2, (Va.after hb V1).d0, (Va.after hb V1).d1, (Va.after hb V1).d2⟩)
  have lb_V0 := V0.lt; have L_V0 : Hid (Va wc (w.heap.size) 29 #[.bool s1, .slice a1 l1 c1, .slice b1 m1 d1]) := V0; have lb_V1 := V1.lt; have L_V1 : Hid (Va wc (w.heap.size + 1) 29 #[.bool s2, .slice a2 l2 c2, .slice b2 m2 d2]) := V1; have lb_V2 := V2.lt; have L_V2 : Hid (Va wc (w.heap.size + 1 + 1) 29 #[.bool false, .slice none 0 0, .slice none 0 0]) := V2; have lb_Vw := Vw.lt; have L_Vw : Hid (Va wc (x2.heap.size) 69 #[.int .i64 q, .string nm, .func (.func Kf) #[] #[]]) := Vw; have lb_Vn := Vn.lt; have L_Vn : Hid (Va wc (b10) 27 #[.bool sn, .slice an ln cn]) := Vn; have L_hr : Hid (Rt wc s1 a1 l1 c1 z1 b1 m1 d1 y1 v) := hr; have L_hu : Hid (Rt wc s2 a2 l2 c2 z2 b2 m2 d2 y2 t) := hu; have L_hn : Hid (It wc sn an ln cn zn) := hn; have L_B : Hid (Below w.heap.size w wc) := B0; clear V0 V1 V2 Vw Vn hr hu hn B0; have BX := Below.refl wc.heap.size wc
  go_cut [12, 13] (fun s12 s13 wx => ∃ (b12 : Nat) (bd : Option Addr) (md dd : Nat) (yd : List Int), s12 = .pointer (some ⟨b12, 0, none⟩) ∧ s13 = .int .i64 0 ∧ Hid (Va wx b12 25 #[.slice bd md dd]) ∧ Hid (Nt wx bd md dd yd) ∧ Hid (num yd = (v.den : Int) * t.num) ∧ Hid (Below wc.heap.size wc wx))
  case first =>
   refine wp_region_noPanic ?_; replace BX := Below.drew BX; refine wp_region_held_drew (S := (fun W => W.cell? ⟨w.heap.size, 0, none⟩ = some (.bool s1) ∧ W.cell? ⟨w.heap.size, 1, none⟩ = some (.slice a1 l1 c1) ∧ W.cell? ⟨w.heap.size, 2, none⟩ = some (.slice b1 m1 d1) ∧ W.cell? ⟨w.heap.size + 1, 0, none⟩ = some (.bool s2) ∧ W.cell? ⟨w.heap.size + 1, 1, none⟩ = some (.slice a2 l2 c2) ∧ W.cell? ⟨w.heap.size + 1, 2, none⟩ = some (.slice b2 m2 d2))) (by kernel_rfl) (LS.out _ BX) (fun hHeld => ?_); (obtain ⟨x5, hxd⟩ : ∃ xd, xd = wc.drew := ⟨_, rfl⟩); rw [← hxd] at BX hHeld ⊢; clear hxd; refine tk 0 rfl hHeld ?_; simp only [gA, gB, Act.put, gD, gE, gF]; refine tk 2 rfl hHeld ?_; simp only [gA, gB, gC, Act.put, gD, gE, gF]; refine wpAnyH_ready (rs := [1, 9]) (by kernel_rfl) (by simp) ?_; refine AllReadyH.cons rfl (fun K hK => ?_) (AllReadyH.cons rfl (fun K hK => ?_) AllReadyH.nil)
   ·
    simp only [gA, gB, gC]; (go_simp); refine (rden_any s1 a1 l1 c1 b1 m1 d1 y1 _ (Rt.after BX L_hr.out).2.1).mono ?_; rintro e x6 ⟨b3, m3, d3, y3, rfl, h3, e3, hb⟩; replace BX := step BX hb; clear hb; have E3 : Hid (num y3 = (v.den : Int)) := e3.trans L_hr.out.2.2.2.1; clear e3; (try go_wp2_with fail); refine hK.out _ _ (LS.out _ BX) (fun hHeld => ?_); clear hK K; refine wpAnyH_ready (rs := [3, 9]) (by kernel_rfl) (by simp) ?_; refine AllReadyH.cons rfl (fun K hK => ?_) (AllReadyH.cons rfl (fun K hK => ?_) AllReadyH.nil)
    ·
     simp only [gA, gB, gC]; (go_simp); refine (qnum_any s2 a2 l2 c2 b2 m2 d2 _).mono ?_; rintro e x7 ⟨rfl, hb⟩; replace h3 := Nt.after hb h3; replace BX := step BX hb; clear hb; (try go_wp2_with fail); refine hK.out _ _ (LS.out _ BX) (fun hHeld => ?_); clear hK K; refine wpAnyH_ready (rs := [4, 9]) (by kernel_rfl) (by simp) ?_; refine AllReadyH.cons rfl (fun K hK => ?_) (AllReadyH.cons rfl (fun K hK => ?_) AllReadyH.nil)
     ·
      simp only [gA, gB, gC]; (go_simp); refine (wabs_any s2 a2 l2 c2 _).mono ?_; rintro e x8 ⟨rfl, hb⟩; replace h3 := Nt.after hb h3; replace BX := step BX hb; clear hb; (try go_wp2_with fail); refine hK.out _ _ (LS.out _ BX) (fun hHeld => ?_); clear hK K; refine wpAnyH_ready (rs := [5, 9]) (by kernel_rfl) (by simp) ?_; refine AllReadyH.cons rfl (fun K hK => ?_) (AllReadyH.cons rfl (fun K hK => ?_) AllReadyH.nil)
      ·
       simp only [gA, gB, gC]; (go_simp); refine (nmul_ok b3 a2 m3 d3 l2 c2 y3 z2 _ h3 (Rt.after BX L_hu.out).1.1 (by rw [E3.out, L_hu.out.1.abs, L_hu.out.2.2.1]; have h9 := ht.out; rw [show ((t.num.natAbs : Nat) : Int) = t.num by omega]; exact Int.lt_of_lt_of_le (F2.out 2048 rfl) (pw_mono (by omega)))).mono ?_; rintro e x9 ⟨bd, md, dd, yd, rfl, hd, ed, hb⟩; replace h3 := Nt.after hb h3; replace BX := step BX hb; clear hb; (replace ed : num yd = (v.den : Int) * t.num := by rw [ed, E3.out, L_hu.out.1.abs, L_hu.out.2.2.1]; have h9 := ht.out; rw [show ((t.num.natAbs : Nat) : Int) = t.num by omega]); (try go_wp2_with fail); refine hK.out _ _ (LS.out _ BX) (fun hHeld => ?_); clear hK K; refine tk 6 rfl hHeld ?_; simp only [gA, gB, gC, Act.put, gD, gE, gF]; refine tk 7 rfl hHeld ?_; simp only [gA, gB, gC, Act.put, gD, gE, gF]; refine tk 8 rfl hHeld ?_; simp only [gA, gB, gC, Act.put, gD, gE, gF]; refine wpAnyH_ready (rs := [9]) (by kernel_rfl) (by simp) ?_
       refine AllReadyH.cons rfl (fun K hK => ?_) AllReadyH.nil
       ·
        simp only [gA, gB, gC]; (go_simp); have sz_Vd := BX.size; refine ent1 _ _ _ (Q := fun V => K _ V) ?_; intro x10 hb hs_ Vd; replace h3 := Nt.after hb h3; replace hd := Nt.after hb hd; replace BX := step BX hb; clear hb hs_; refine hK.out _ _ (LS.out _ BX) (fun hHeld => ?_); clear hK K; have c_Vd := Vd.cell; have f0_Vd := Vd.frozen 0; have l_Vd := Vd.lt; have m_Vd := Nat.le_of_lt l_Vd; refine wpAnyH_ready (rs := [10]) (by kernel_rfl) (by simp) ?_; refine AllReadyH.cons rfl (fun K hK => ?_) AllReadyH.nil; simp only [gA, gB, gC]; (go_simp); clear c_Vd f0_Vd l_Vd m_Vd; refine sto1 Vd (.slice bd md dd) (Q := fun W => K _ W) ?_; intro x11 V' oth far; replace h3 := h3.far Vd (noInt1 _ _ _) far.1; replace hd := hd.far Vd (noInt1 _ _ _) far.1; replace BX := far.2 _ _ (by first | omega | (simp; omega)) BX; replace Vd := V'; clear oth far; refine hK.out _ _ (LS.out _ BX) (fun hHeld => ?_); clear hK K; refine tk 11 rfl hHeld ?_; simp only [gA, gB, gC, Act.put, gD, gE, gF]
        refine wpAnyH_done (by kernel_rfl) ?_ _; refine NoPanic.normal ?_; clear hHeld; (go_wp2_with fail)
        go_meet
        exact ⟨_, bd, md, dd, yd, rfl, rfl, Vd, hd, ed, BX⟩
      ·
       simp only [gA, gB, gC]; (go_simp); have sz_Vd := BX.size; refine ent1 _ _ _ (Q := fun V => K _ V) ?_; intro x9 hb hs_ Vd; replace h3 := Nt.after hb h3; replace BX := step BX hb; clear hb hs_; refine hK.out _ _ (LS.out _ BX) (fun hHeld => ?_); clear hK K; refine wpAnyH_ready (rs := [5]) (by kernel_rfl) (by simp) ?_; refine AllReadyH.cons rfl (fun K hK => ?_) AllReadyH.nil
       ·
        simp only [gA, gB, gC]; (go_simp); refine (nmul_ok b3 a2 m3 d3 l2 c2 y3 z2 _ h3 (Rt.after BX L_hu.out).1.1 (by rw [E3.out, L_hu.out.1.abs, L_hu.out.2.2.1]; have h9 := ht.out; rw [show ((t.num.natAbs : Nat) : Int) = t.num by omega]; exact Int.lt_of_lt_of_le (F2.out 2048 rfl) (pw_mono (by omega)))).mono ?_; rintro e x10 ⟨bd, md, dd, yd, rfl, hd, ed, hb⟩; replace Vd := Va.after hb Vd; replace h3 := Nt.after hb h3; replace BX := step BX hb; clear hb; (replace ed : num yd = (v.den : Int) * t.num := by rw [ed, E3.out, L_hu.out.1.abs, L_hu.out.2.2.1]; have h9 := ht.out; rw [show ((t.num.natAbs : Nat) : Int) = t.num by omega]); (try go_wp2_with fail); refine hK.out _ _ (LS.out _ BX) (fun hHeld => ?_); clear hK K; refine tk 6 rfl hHeld ?_; simp only [gA, gB, gC, Act.put, gD, gE, gF]; refine tk 7 rfl hHeld ?_; simp only [gA, gB, gC, Act.put, gD, gE, gF]; refine tk 8 rfl hHeld ?_; simp only [gA, gB, gC, Act.put, gD, gE, gF]; have c_Vd := Vd.cell
        have f0_Vd := Vd.frozen 0; have l_Vd := Vd.lt; have m_Vd := Nat.le_of_lt l_Vd; refine wpAnyH_ready (rs := [10]) (by kernel_rfl) (by simp) ?_; refine AllReadyH.cons rfl (fun K hK => ?_) AllReadyH.nil; simp only [gA, gB, gC]; (go_simp); clear c_Vd f0_Vd l_Vd m_Vd; refine sto1 Vd (.slice bd md dd) (Q := fun W => K _ W) ?_; intro x11 V' oth far; replace h3 := h3.far Vd (noInt1 _ _ _) far.1; replace hd := hd.far Vd (noInt1 _ _ _) far.1; replace BX := far.2 _ _ (by first | omega | (simp; omega)) BX; replace Vd := V'; clear oth far; refine hK.out _ _ (LS.out _ BX) (fun hHeld => ?_); clear hK K; refine tk 11 rfl hHeld ?_; simp only [gA, gB, gC, Act.put, gD, gE, gF]; refine wpAnyH_done (by kernel_rfl) ?_ _; refine NoPanic.normal ?_; clear hHeld; (go_wp2_with fail)
        go_meet
        exact ⟨_, bd, md, dd, yd, rfl, rfl, Vd, hd, ed, BX⟩
     ·
      simp only [gA, gB, gC]; (go_simp); have sz_Vd := BX.size; refine ent1 _ _ _ (Q := fun V => K _ V) ?_; intro x8 hb hs_ Vd; replace h3 := Nt.after hb h3; replace BX := step BX hb; clear hb hs_; refine hK.out _ _ (LS.out _ BX) (fun hHeld => ?_); clear hK K; refine wpAnyH_ready (rs := [4]) (by kernel_rfl) (by simp) ?_; refine AllReadyH.cons rfl (fun K hK => ?_) AllReadyH.nil
      ·
       simp only [gA, gB, gC]; (go_simp); refine (wabs_any s2 a2 l2 c2 _).mono ?_; rintro e x9 ⟨rfl, hb⟩; replace Vd := Va.after hb Vd; replace h3 := Nt.after hb h3; replace BX := step BX hb; clear hb; (try go_wp2_with fail); refine hK.out _ _ (LS.out _ BX) (fun hHeld => ?_); clear hK K; refine wpAnyH_ready (rs := [5]) (by kernel_rfl) (by simp) ?_; refine AllReadyH.cons rfl (fun K hK => ?_) AllReadyH.nil
       ·
        simp only [gA, gB, gC]; (go_simp); refine (nmul_ok b3 a2 m3 d3 l2 c2 y3 z2 _ h3 (Rt.after BX L_hu.out).1.1 (by rw [E3.out, L_hu.out.1.abs, L_hu.out.2.2.1]; have h9 := ht.out; rw [show ((t.num.natAbs : Nat) : Int) = t.num by omega]; exact Int.lt_of_lt_of_le (F2.out 2048 rfl) (pw_mono (by omega)))).mono ?_; rintro e x10 ⟨bd, md, dd, yd, rfl, hd, ed, hb⟩; replace Vd := Va.after hb Vd; replace h3 := Nt.after hb h3; replace BX := step BX hb; clear hb; (replace ed : num yd = (v.den : Int) * t.num := by rw [ed, E3.out, L_hu.out.1.abs, L_hu.out.2.2.1]; have h9 := ht.out; rw [show ((t.num.natAbs : Nat) : Int) = t.num by omega]); (try go_wp2_with fail); refine hK.out _ _ (LS.out _ BX) (fun hHeld => ?_); clear hK K; refine tk 6 rfl hHeld ?_; simp only [gA, gB, gC, Act.put, gD, gE, gF]; refine tk 7 rfl hHeld ?_; simp only [gA, gB, gC, Act.put, gD, gE, gF]; refine tk 8 rfl hHeld ?_; simp only [gA, gB, gC, Act.put, gD, gE, gF]; have c_Vd := Vd.cell
        have f0_Vd := Vd.frozen 0; have l_Vd := Vd.lt; have m_Vd := Nat.le_of_lt l_Vd; refine wpAnyH_ready (rs := [10]) (by kernel_rfl) (by simp) ?_; refine AllReadyH.cons rfl (fun K hK => ?_) AllReadyH.nil; simp only [gA, gB, gC]; (go_simp); clear c_Vd f0_Vd l_Vd m_Vd; refine sto1 Vd (.slice bd md dd) (Q := fun W => K _ W) ?_; intro x11 V' oth far; replace h3 := h3.far Vd (noInt1 _ _ _) far.1; replace hd := hd.far Vd (noInt1 _ _ _) far.1; replace BX := far.2 _ _ (by first | omega | (simp; omega)) BX; replace Vd := V'; clear oth far; refine hK.out _ _ (LS.out _ BX) (fun hHeld => ?_); clear hK K; refine tk 11 rfl hHeld ?_; simp only [gA, gB, gC, Act.put, gD, gE, gF]; refine wpAnyH_done (by kernel_rfl) ?_ _; refine NoPanic.normal ?_; clear hHeld; (go_wp2_with fail)
        go_meet
        exact ⟨_, bd, md, dd, yd, rfl, rfl, Vd, hd, ed, BX⟩
    ·
     simp only [gA, gB, gC]; (go_simp); have sz_Vd := BX.size; refine ent1 _ _ _ (Q := fun V => K _ V) ?_; intro x7 hb hs_ Vd; replace h3 := Nt.after hb h3; replace BX := step BX hb; clear hb hs_; refine hK.out _ _ (LS.out _ BX) (fun hHeld => ?_); clear hK K; refine wpAnyH_ready (rs := [3]) (by kernel_rfl) (by simp) ?_; refine AllReadyH.cons rfl (fun K hK => ?_) AllReadyH.nil
     ·
      simp only [gA, gB, gC]; (go_simp); refine (qnum_any s2 a2 l2 c2 b2 m2 d2 _).mono ?_; rintro e x8 ⟨rfl, hb⟩; replace Vd := Va.after hb Vd; replace h3 := Nt.after hb h3; replace BX := step BX hb; clear hb; (try go_wp2_with fail); refine hK.out _ _ (LS.out _ BX) (fun hHeld => ?_); clear hK K; refine wpAnyH_ready (rs := [4]) (by kernel_rfl) (by simp) ?_; refine AllReadyH.cons rfl (fun K hK => ?_) AllReadyH.nil
      ·
       simp only [gA, gB, gC]; (go_simp); refine (wabs_any s2 a2 l2 c2 _).mono ?_; rintro e x9 ⟨rfl, hb⟩; replace Vd := Va.after hb Vd; replace h3 := Nt.after hb h3; replace BX := step BX hb; clear hb; (try go_wp2_with fail); refine hK.out _ _ (LS.out _ BX) (fun hHeld => ?_); clear hK K; refine wpAnyH_ready (rs := [5]) (by kernel_rfl) (by simp) ?_; refine AllReadyH.cons rfl (fun K hK => ?_) AllReadyH.nil
       ·
        simp only [gA, gB, gC]; (go_simp); refine (nmul_ok b3 a2 m3 d3 l2 c2 y3 z2 _ h3 (Rt.after BX L_hu.out).1.1 (by rw [E3.out, L_hu.out.1.abs, L_hu.out.2.2.1]; have h9 := ht.out; rw [show ((t.num.natAbs : Nat) : Int) = t.num by omega]; exact Int.lt_of_lt_of_le (F2.out 2048 rfl) (pw_mono (by omega)))).mono ?_; rintro e x10 ⟨bd, md, dd, yd, rfl, hd, ed, hb⟩; replace Vd := Va.after hb Vd; replace h3 := Nt.after hb h3; replace BX := step BX hb; clear hb; (replace ed : num yd = (v.den : Int) * t.num := by rw [ed, E3.out, L_hu.out.1.abs, L_hu.out.2.2.1]; have h9 := ht.out; rw [show ((t.num.natAbs : Nat) : Int) = t.num by omega]); (try go_wp2_with fail); refine hK.out _ _ (LS.out _ BX) (fun hHeld => ?_); clear hK K; refine tk 6 rfl hHeld ?_; simp only [gA, gB, gC, Act.put, gD, gE, gF]; refine tk 7 rfl hHeld ?_; simp only [gA, gB, gC, Act.put, gD, gE, gF]; refine tk 8 rfl hHeld ?_; simp only [gA, gB, gC, Act.put, gD, gE, gF]; have c_Vd := Vd.cell
        have f0_Vd := Vd.frozen 0; have l_Vd := Vd.lt; have m_Vd := Nat.le_of_lt l_Vd; refine wpAnyH_ready (rs := [10]) (by kernel_rfl) (by simp) ?_; refine AllReadyH.cons rfl (fun K hK => ?_) AllReadyH.nil; simp only [gA, gB, gC]; (go_simp); clear c_Vd f0_Vd l_Vd m_Vd; refine sto1 Vd (.slice bd md dd) (Q := fun W => K _ W) ?_; intro x11 V' oth far; replace h3 := h3.far Vd (noInt1 _ _ _) far.1; replace hd := hd.far Vd (noInt1 _ _ _) far.1; replace BX := far.2 _ _ (by first | omega | (simp; omega)) BX; replace Vd := V'; clear oth far; refine hK.out _ _ (LS.out _ BX) (fun hHeld => ?_); clear hK K; refine tk 11 rfl hHeld ?_; simp only [gA, gB, gC, Act.put, gD, gE, gF]; refine wpAnyH_done (by kernel_rfl) ?_ _; refine NoPanic.normal ?_; clear hHeld; (go_wp2_with fail)
        go_meet
        exact ⟨_, bd, md, dd, yd, rfl, rfl, Vd, hd, ed, BX⟩
   ·
    simp only [gA, gB, gC]; (go_simp); have sz_Vd := BX.size; refine ent1 _ _ _ (Q := fun V => K _ V) ?_; intro x6 hb hs_ Vd; replace BX := step BX hb; clear hb hs_; refine hK.out _ _ (LS.out _ BX) (fun hHeld => ?_); clear hK K; refine wpAnyH_ready (rs := [1]) (by kernel_rfl) (by simp) ?_; refine AllReadyH.cons rfl (fun K hK => ?_) AllReadyH.nil
    ·
     simp only [gA, gB, gC]; (go_simp); refine (rden_any s1 a1 l1 c1 b1 m1 d1 y1 _ (Rt.after BX L_hr.out).2.1).mono ?_; rintro e x7 ⟨b3, m3, d3, y3, rfl, h3, e3, hb⟩; replace Vd := Va.after hb Vd; replace BX := step BX hb; clear hb; have E3 : Hid (num y3 = (v.den : Int)) := e3.trans L_hr.out.2.2.2.1; clear e3; (try go_wp2_with fail); refine hK.out _ _ (LS.out _ BX) (fun hHeld => ?_); clear hK K; refine wpAnyH_ready (rs := [3]) (by kernel_rfl) (by simp) ?_; refine AllReadyH.cons rfl (fun K hK => ?_) AllReadyH.nil
     ·
      simp only [gA, gB, gC]; (go_simp); refine (qnum_any s2 a2 l2 c2 b2 m2 d2 _).mono ?_; rintro e x8 ⟨rfl, hb⟩; replace Vd := Va.after hb Vd; replace h3 := Nt.after hb h3; replace BX := step BX hb; clear hb; (try go_wp2_with fail); refine hK.out _ _ (LS.out _ BX) (fun hHeld => ?_); clear hK K; refine wpAnyH_ready (rs := [4]) (by kernel_rfl) (by simp) ?_; refine AllReadyH.cons rfl (fun K hK => ?_) AllReadyH.nil
      ·
       simp only [gA, gB, gC]; (go_simp); refine (wabs_any s2 a2 l2 c2 _).mono ?_; rintro e x9 ⟨rfl, hb⟩; replace Vd := Va.after hb Vd; replace h3 := Nt.after hb h3; replace BX := step BX hb; clear hb; (try go_wp2_with fail); refine hK.out _ _ (LS.out _ BX) (fun hHeld => ?_); clear hK K; refine wpAnyH_ready (rs := [5]) (by kernel_rfl) (by simp) ?_; refine AllReadyH.cons rfl (fun K hK => ?_) AllReadyH.nil
       ·
        simp only [gA, gB, gC]; (go_simp); refine (nmul_ok b3 a2 m3 d3 l2 c2 y3 z2 _ h3 (Rt.after BX L_hu.out).1.1 (by rw [E3.out, L_hu.out.1.abs, L_hu.out.2.2.1]; have h9 := ht.out; rw [show ((t.num.natAbs : Nat) : Int) = t.num by omega]; exact Int.lt_of_lt_of_le (F2.out 2048 rfl) (pw_mono (by omega)))).mono ?_; rintro e x10 ⟨bd, md, dd, yd, rfl, hd, ed, hb⟩; replace Vd := Va.after hb Vd; replace h3 := Nt.after hb h3; replace BX := step BX hb; clear hb; (replace ed : num yd = (v.den : Int) * t.num := by rw [ed, E3.out, L_hu.out.1.abs, L_hu.out.2.2.1]; have h9 := ht.out; rw [show ((t.num.natAbs : Nat) : Int) = t.num by omega]); (try go_wp2_with fail); refine hK.out _ _ (LS.out _ BX) (fun hHeld => ?_); clear hK K; refine tk 6 rfl hHeld ?_; simp only [gA, gB, gC, Act.put, gD, gE, gF]; refine tk 7 rfl hHeld ?_; simp only [gA, gB, gC, Act.put, gD, gE, gF]; refine tk 8 rfl hHeld ?_; simp only [gA, gB, gC, Act.put, gD, gE, gF]; have c_Vd := Vd.cell
        have f0_Vd := Vd.frozen 0; have l_Vd := Vd.lt; have m_Vd := Nat.le_of_lt l_Vd; refine wpAnyH_ready (rs := [10]) (by kernel_rfl) (by simp) ?_; refine AllReadyH.cons rfl (fun K hK => ?_) AllReadyH.nil; simp only [gA, gB, gC]; (go_simp); clear c_Vd f0_Vd l_Vd m_Vd; refine sto1 Vd (.slice bd md dd) (Q := fun W => K _ W) ?_; intro x11 V' oth far; replace h3 := h3.far Vd (noInt1 _ _ _) far.1; replace hd := hd.far Vd (noInt1 _ _ _) far.1; replace BX := far.2 _ _ (by first | omega | (simp; omega)) BX; replace Vd := V'; clear oth far; refine hK.out _ _ (LS.out _ BX) (fun hHeld => ?_); clear hK K; refine tk 11 rfl hHeld ?_; simp only [gA, gB, gC, Act.put, gD, gE, gF]; refine wpAnyH_done (by kernel_rfl) ?_ _; refine NoPanic.normal ?_; clear hHeld; (go_wp2_with fail)
        go_meet
        exact ⟨_, bd, md, dd, yd, rfl, rfl, Vd, hd, ed, BX⟩
  case rest =>
   clear BX; obtain ⟨b12, bd, md, dd, yd, rfl, rfl, Vd', hd', ed', BX'⟩ := hcut; have Vd := Vd'.out; have hd := hd'.out; have ed := ed'.out; have BX := BX'.out; clear Vd' hd' ed' BX'; have V0 := Va.after BX L_V0.out; have V1 := Va.after BX L_V1.out; have V2 := Va.after BX L_V2.out; have Vw := Va.after BX L_Vw.out; have Vn := Va.after BX L_Vn.out; have hr := Rt.after BX L_hr.out; have hu := Rt.after BX L_hu.out; have hn := It.after BX L_hn.out; have B0 := step L_B.out BX; have ED : Hid (num yd = (v.den : Int) * t.num) := ed; clear ed; (go_wp2_with fail); (have LS : Hid (∀ W, Below wc.heap.size wc W → (fun W => W.cell? ⟨x2.heap.size, 0, none⟩ = some (.int .i64 q) ∧ W.cell? ⟨x2.heap.size, 1, none⟩ = some (.string nm) ∧ W.cell? ⟨x2.heap.size, 2, none⟩ = some (.func (.func Kf) #[] #[]) ∧ W.cell? ⟨b10, 0, none⟩ = some (.bool sn) ∧ W.cell? ⟨b10, 1, none⟩ = some (.slice an ln cn) ∧ W.cell? ⟨b12, 0, none⟩ = some (.slice bd md dd) ∧ W.cell? ⟨w.heap.size + 1, 0, none⟩ = some (.bool s2) ∧ W.cell? ⟨w.heap.size + 1, 1, none⟩ = some (.slice a2 l2 c2) ∧ W.cell? ⟨w.heap.size + 1, 2, none⟩ = some (.slice b2 m2 d2)) W) := fun W hb => ⟨(Va.after hb Vw).d0, (Va.after hb Vw).d1, (Va.after hb Vw).d2, (Va.after hb Vn).c0, (Va.after hb Vn).c1, (Va.after hb Vd).cell, (Va.after hb V1).d0, (Va.after hb V1).d1, (Va.after hb V1).d2⟩)
   have lb_V0 := V0.lt; have L_V0 : Hid (Va wc (w.heap.size) 29 #[.bool s1, .slice a1 l1 c1, .slice b1 m1 d1]) := V0; have lb_V1 := V1.lt; have L_V1 : Hid (Va wc (w.heap.size + 1) 29 #[.bool s2, .slice a2 l2 c2, .slice b2 m2 d2]) := V1; have lb_V2 := V2.lt; have L_V2 : Hid (Va wc (w.heap.size + 1 + 1) 29 #[.bool false, .slice none 0 0, .slice none 0 0]) := V2; have lb_Vw := Vw.lt; have L_Vw : Hid (Va wc (x2.heap.size) 69 #[.int .i64 q, .string nm, .func (.func Kf) #[] #[]]) := Vw; have lb_Vn := Vn.lt; have L_Vn : Hid (Va wc (b10) 27 #[.bool sn, .slice an ln cn]) := Vn; have lb_Vd := Vd.lt; have L_Vd : Hid (Va wc (b12) 25 #[.slice bd md dd]) := Vd; have L_hr : Hid (Rt wc s1 a1 l1 c1 z1 b1 m1 d1 y1 v) := hr; have L_hu : Hid (Rt wc s2 a2 l2 c2 z2 b2 m2 d2 y2 t) := hu; have L_hn : Hid (It wc sn an ln cn zn) := hn; have L_hd : Hid (Nt wc bd md dd yd) := hd; have L_B : Hid (Below w.heap.size w wc) := B0; clear V0 V1 V2 Vw Vn Vd hr hu hn hd B0
   have BX := Below.refl wc.heap.size wc
   go_cut [14, 15] (fun s14 s15 wx => ∃ (b14 : Nat) (sp : Bool) (ap : Option Addr) (lp cp : Nat) (zp : List Int), s14 = .pointer (some ⟨b14, 0, none⟩) ∧ s15 = .int .i64 0 ∧ Hid (Va wx b14 27 #[.bool sp, .slice ap lp cp]) ∧ Hid (It wx sp ap lp cp zp) ∧ Hid (iv sp zp = rnd q (v.num * (t.den : Int)) ((v.den : Int) * t.num) * t.num) ∧ Hid (Below wc.heap.size wc wx) ∧ Hid (w.heap.size + 3 ≤ b14))
   case first =>
    refine wp_region_noPanic ?_; replace BX := Below.drew BX; refine wp_region_held_drew (S := (fun W => W.cell? ⟨x2.heap.size, 0, none⟩ = some (.int .i64 q) ∧ W.cell? ⟨x2.heap.size, 1, none⟩ = some (.string nm) ∧ W.cell? ⟨x2.heap.size, 2, none⟩ = some (.func (.func Kf) #[] #[]) ∧ W.cell? ⟨b10, 0, none⟩ = some (.bool sn) ∧ W.cell? ⟨b10, 1, none⟩ = some (.slice an ln cn) ∧ W.cell? ⟨b12, 0, none⟩ = some (.slice bd md dd) ∧ W.cell? ⟨w.heap.size + 1, 0, none⟩ = some (.bool s2) ∧ W.cell? ⟨w.heap.size + 1, 1, none⟩ = some (.slice a2 l2 c2) ∧ W.cell? ⟨w.heap.size + 1, 2, none⟩ = some (.slice b2 m2 d2))) (by kernel_rfl) (LS.out _ BX) (fun hHeld => ?_); (obtain ⟨x5, hxd⟩ : ∃ xd, xd = wc.drew := ⟨_, rfl⟩); rw [← hxd] at BX hHeld ⊢; clear hxd; refine tk 0 rfl hHeld ?_; simp only [gA, gB, Act.put, gD, gE, gF]; refine tk 1 rfl hHeld ?_; simp only [gA, gB, gC, Act.put, gD, gE, gF]; refine tk 2 rfl hHeld ?_; simp only [gA, gB, gC, Act.put, gD, gE, gF]
    refine tk 4 rfl hHeld ?_; simp only [gA, gB, gC, Act.put, gD, gE, gF]; refine wpAnyH_ready (rs := [3, 10]) (by kernel_rfl) (by simp) ?_; refine AllReadyH.cons rfl (fun K hK => ?_) (AllReadyH.cons rfl (fun K hK => ?_) AllReadyH.nil)
    ·
     simp only [gA, gB, gC]; (go_simp); refine (rounded7 q nm Kf HK HE sn an ln cn zn bd md dd yd _ (It.after BX L_hn.out) (Nt.after BX L_hd.out) ⟨by rw [ED.out]; have := v.den_pos; exact Int.mul_pos (by omega) ht.out, fun n e => by rw [ED.out]; exact F2.out n e⟩).mono ?_; rintro e x6 ⟨sg, ag, lg, cg, zg, rfl, hg, eg, hb⟩; replace BX := step BX hb; clear hb; (have EG : Hid (iv sg zg = rnd q (v.num * (t.den : Int)) ((v.den : Int) * t.num)) := by show _ = _; rw [eg, EN.out, ED.out]); clear eg; (try go_wp2_with fail); refine hK.out _ _ (LS.out _ BX) (fun hHeld => ?_); clear hK K; refine wpAnyH_ready (rs := [5, 10]) (by kernel_rfl) (by simp) ?_; refine AllReadyH.cons rfl (fun K hK => ?_) (AllReadyH.cons rfl (fun K hK => ?_) AllReadyH.nil)
     ·
      simp only [gA, gB, gC]; (go_simp); refine (qnum_any s2 a2 l2 c2 b2 m2 d2 _).mono ?_; rintro e x7 ⟨rfl, hb⟩; replace hg := It.after hb hg; replace BX := step BX hb; clear hb; (try go_wp2_with fail); refine hK.out _ _ (LS.out _ BX) (fun hHeld => ?_); clear hK K; refine wpAnyH_ready (rs := [6, 10]) (by kernel_rfl) (by simp) ?_; refine AllReadyH.cons rfl (fun K hK => ?_) (AllReadyH.cons rfl (fun K hK => ?_) AllReadyH.nil)
      ·
       simp only [gA, gB, gC]; (go_simp); refine (wmul_ok sg s2 ag a2 lg cg l2 c2 zg z2 _ hg (Rt.after BX L_hu.out).1 (by show ((iv sg zg * iv s2 z2).natAbs : Int) < _; rw [EG.out, L_hu.out.2.2.1]; exact F3.out 4096 rfl)).mono ?_; rintro e x8 ⟨sp, ap, lp, cp, zp, rfl, hp, ep, hb⟩; replace hg := It.after hb hg; replace BX := step BX hb; clear hb; (replace ep : iv sp zp = rnd q (v.num * (t.den : Int)) ((v.den : Int) * t.num) * t.num := by rw [ep, EG.out, L_hu.out.2.2.1]); (try go_wp2_with fail); refine hK.out _ _ (LS.out _ BX) (fun hHeld => ?_); clear hK K; refine tk 7 rfl hHeld ?_; simp only [gA, gB, gC, Act.put, gD, gE, gF]; refine tk 8 rfl hHeld ?_; simp only [gA, gB, gC, Act.put, gD, gE, gF]; refine tk 9 rfl hHeld ?_; simp only [gA, gB, gC, Act.put, gD, gE, gF]; refine wpAnyH_ready (rs := [10]) (by kernel_rfl) (by simp) ?_; refine AllReadyH.cons rfl (fun K hK => ?_) AllReadyH.nil
       ·
        simp only [gA, gB, gC]; (go_simp); have sz_Vp := BX.size; refine ent1 _ _ _ (Q := fun V => K _ V) ?_; intro x9 hb hs_ Vp; replace hg := It.after hb hg; replace hp := It.after hb hp; replace BX := step BX hb; clear hb hs_; refine hK.out _ _ (LS.out _ BX) (fun hHeld => ?_); clear hK K; have c_Vp := Vp.c0; have f0_Vp := Vp.frozen 0; have d_Vp := Vp.c1; have f1_Vp := Vp.frozen 1; have l_Vp := Vp.lt; have m_Vp := Nat.le_of_lt l_Vp; refine wpAnyH_ready (rs := [11]) (by kernel_rfl) (by simp) ?_; refine AllReadyH.cons rfl (fun K hK => ?_) AllReadyH.nil; simp only [gA, gB, gC]; (go_simp); clear c_Vp f0_Vp d_Vp f1_Vp l_Vp m_Vp; refine st2 Vp (.bool sp) (.slice ap lp cp) (Q := fun W => K _ W) ?_; intro x10 V' oth far; replace hg := hg.far Vp (noInt2 _ _ _ _) far.1; replace hp := hp.far Vp (noInt2 _ _ _ _) far.1; replace BX := far.2 _ _ (by first | omega | (simp; omega)) BX; replace Vp := V'; clear oth far; refine hK.out _ _ (LS.out _ BX) (fun hHeld => ?_)
        clear hK K; refine tk 12 rfl hHeld ?_; simp only [gA, gB, gC, Act.put, gD, gE, gF]; refine wpAnyH_done (by kernel_rfl) ?_ _; refine NoPanic.normal ?_; clear hHeld; (go_wp2_with fail)
        go_meet
        exact ⟨_, sp, ap, lp, cp, zp, rfl, rfl, Vp, hp, ep, BX, by show _ ≤ _; omega⟩
      ·
       simp only [gA, gB, gC]; (go_simp); have sz_Vp := BX.size; refine ent1 _ _ _ (Q := fun V => K _ V) ?_; intro x8 hb hs_ Vp; replace hg := It.after hb hg; replace BX := step BX hb; clear hb hs_; refine hK.out _ _ (LS.out _ BX) (fun hHeld => ?_); clear hK K; refine wpAnyH_ready (rs := [6]) (by kernel_rfl) (by simp) ?_; refine AllReadyH.cons rfl (fun K hK => ?_) AllReadyH.nil
       ·
        simp only [gA, gB, gC]; (go_simp); refine (wmul_ok sg s2 ag a2 lg cg l2 c2 zg z2 _ hg (Rt.after BX L_hu.out).1 (by show ((iv sg zg * iv s2 z2).natAbs : Int) < _; rw [EG.out, L_hu.out.2.2.1]; exact F3.out 4096 rfl)).mono ?_; rintro e x9 ⟨sp, ap, lp, cp, zp, rfl, hp, ep, hb⟩; replace Vp := Va.after hb Vp; replace hg := It.after hb hg; replace BX := step BX hb; clear hb; (replace ep : iv sp zp = rnd q (v.num * (t.den : Int)) ((v.den : Int) * t.num) * t.num := by rw [ep, EG.out, L_hu.out.2.2.1]); (try go_wp2_with fail); refine hK.out _ _ (LS.out _ BX) (fun hHeld => ?_); clear hK K; refine tk 7 rfl hHeld ?_; simp only [gA, gB, gC, Act.put, gD, gE, gF]; refine tk 8 rfl hHeld ?_; simp only [gA, gB, gC, Act.put, gD, gE, gF]; refine tk 9 rfl hHeld ?_; simp only [gA, gB, gC, Act.put, gD, gE, gF]; have c_Vp := Vp.c0; have f0_Vp := Vp.frozen 0; have d_Vp := Vp.c1; have f1_Vp := Vp.frozen 1; have l_Vp := Vp.lt; have m_Vp := Nat.le_of_lt l_Vp; refine wpAnyH_ready (rs := [11]) (by kernel_rfl) (by simp) ?_
        refine AllReadyH.cons rfl (fun K hK => ?_) AllReadyH.nil; simp only [gA, gB, gC]; (go_simp); clear c_Vp f0_Vp d_Vp f1_Vp l_Vp m_Vp; refine st2 Vp (.bool sp) (.slice ap lp cp) (Q := fun W => K _ W) ?_; intro x10 V' oth far; replace hg := hg.far Vp (noInt2 _ _ _ _) far.1; replace hp := hp.far Vp (noInt2 _ _ _ _) far.1; replace BX := far.2 _ _ (by first | omega | (simp; omega)) BX; replace Vp := V'; clear oth far; refine hK.out _ _ (LS.out _ BX) (fun hHeld => ?_); clear hK K; refine tk 12 rfl hHeld ?_; simp only [gA, gB, gC, Act.put, gD, gE, gF]; refine wpAnyH_done (by kernel_rfl) ?_ _; refine NoPanic.normal ?_; clear hHeld; (go_wp2_with fail)
        go_meet
        exact ⟨_, sp, ap, lp, cp, zp, rfl, rfl, Vp, hp, ep, BX, by show _ ≤ _; omega⟩
     ·
      simp only [gA, gB, gC]; (go_simp); have sz_Vp := BX.size; refine ent1 _ _ _ (Q := fun V => K _ V) ?_; intro x7 hb hs_ Vp; replace hg := It.after hb hg; replace BX := step BX hb; clear hb hs_; refine hK.out _ _ (LS.out _ BX) (fun hHeld => ?_); clear hK K; refine wpAnyH_ready (rs := [5]) (by kernel_rfl) (by simp) ?_; refine AllReadyH.cons rfl (fun K hK => ?_) AllReadyH.nil
      ·
       simp only [gA, gB, gC]; (go_simp); refine (qnum_any s2 a2 l2 c2 b2 m2 d2 _).mono ?_; rintro e x8 ⟨rfl, hb⟩; replace Vp := Va.after hb Vp; replace hg := It.after hb hg; replace BX := step BX hb; clear hb; (try go_wp2_with fail); refine hK.out _ _ (LS.out _ BX) (fun hHeld => ?_); clear hK K; refine wpAnyH_ready (rs := [6]) (by kernel_rfl) (by simp) ?_; refine AllReadyH.cons rfl (fun K hK => ?_) AllReadyH.nil
       ·
        simp only [gA, gB, gC]; (go_simp); refine (wmul_ok sg s2 ag a2 lg cg l2 c2 zg z2 _ hg (Rt.after BX L_hu.out).1 (by show ((iv sg zg * iv s2 z2).natAbs : Int) < _; rw [EG.out, L_hu.out.2.2.1]; exact F3.out 4096 rfl)).mono ?_; rintro e x9 ⟨sp, ap, lp, cp, zp, rfl, hp, ep, hb⟩; replace Vp := Va.after hb Vp; replace hg := It.after hb hg; replace BX := step BX hb; clear hb; (replace ep : iv sp zp = rnd q (v.num * (t.den : Int)) ((v.den : Int) * t.num) * t.num := by rw [ep, EG.out, L_hu.out.2.2.1]); (try go_wp2_with fail); refine hK.out _ _ (LS.out _ BX) (fun hHeld => ?_); clear hK K; refine tk 7 rfl hHeld ?_; simp only [gA, gB, gC, Act.put, gD, gE, gF]; refine tk 8 rfl hHeld ?_; simp only [gA, gB, gC, Act.put, gD, gE, gF]; refine tk 9 rfl hHeld ?_; simp only [gA, gB, gC, Act.put, gD, gE, gF]; have c_Vp := Vp.c0; have f0_Vp := Vp.frozen 0; have d_Vp := Vp.c1; have f1_Vp := Vp.frozen 1; have l_Vp := Vp.lt; have m_Vp := Nat.le_of_lt l_Vp; refine wpAnyH_ready (rs := [11]) (by kernel_rfl) (by simp) ?_
        refine AllReadyH.cons rfl (fun K hK => ?_) AllReadyH.nil; simp only [gA, gB, gC]; (go_simp); clear c_Vp f0_Vp d_Vp f1_Vp l_Vp m_Vp; refine st2 Vp (.bool sp) (.slice ap lp cp) (Q := fun W => K _ W) ?_; intro x10 V' oth far; replace hg := hg.far Vp (noInt2 _ _ _ _) far.1; replace hp := hp.far Vp (noInt2 _ _ _ _) far.1; replace BX := far.2 _ _ (by first | omega | (simp; omega)) BX; replace Vp := V'; clear oth far; refine hK.out _ _ (LS.out _ BX) (fun hHeld => ?_); clear hK K; refine tk 12 rfl hHeld ?_; simp only [gA, gB, gC, Act.put, gD, gE, gF]; refine wpAnyH_done (by kernel_rfl) ?_ _; refine NoPanic.normal ?_; clear hHeld; (go_wp2_with fail)
        go_meet
        exact ⟨_, sp, ap, lp, cp, zp, rfl, rfl, Vp, hp, ep, BX, by show _ ≤ _; omega⟩
    ·
     simp only [gA, gB, gC]; (go_simp); have sz_Vp := BX.size; refine ent1 _ _ _ (Q := fun V => K _ V) ?_; intro x6 hb hs_ Vp; replace BX := step BX hb; clear hb hs_; refine hK.out _ _ (LS.out _ BX) (fun hHeld => ?_); clear hK K; refine wpAnyH_ready (rs := [3]) (by kernel_rfl) (by simp) ?_; refine AllReadyH.cons rfl (fun K hK => ?_) AllReadyH.nil
     ·
      simp only [gA, gB, gC]; (go_simp); refine (rounded7 q nm Kf HK HE sn an ln cn zn bd md dd yd _ (It.after BX L_hn.out) (Nt.after BX L_hd.out) ⟨by rw [ED.out]; have := v.den_pos; exact Int.mul_pos (by omega) ht.out, fun n e => by rw [ED.out]; exact F2.out n e⟩).mono ?_; rintro e x7 ⟨sg, ag, lg, cg, zg, rfl, hg, eg, hb⟩; replace Vp := Va.after hb Vp; replace BX := step BX hb; clear hb; (have EG : Hid (iv sg zg = rnd q (v.num * (t.den : Int)) ((v.den : Int) * t.num)) := by show _ = _; rw [eg, EN.out, ED.out]); clear eg; (try go_wp2_with fail); refine hK.out _ _ (LS.out _ BX) (fun hHeld => ?_); clear hK K; refine wpAnyH_ready (rs := [5]) (by kernel_rfl) (by simp) ?_; refine AllReadyH.cons rfl (fun K hK => ?_) AllReadyH.nil
      ·
       simp only [gA, gB, gC]; (go_simp); refine (qnum_any s2 a2 l2 c2 b2 m2 d2 _).mono ?_; rintro e x8 ⟨rfl, hb⟩; replace Vp := Va.after hb Vp; replace hg := It.after hb hg; replace BX := step BX hb; clear hb; (try go_wp2_with fail); refine hK.out _ _ (LS.out _ BX) (fun hHeld => ?_); clear hK K; refine wpAnyH_ready (rs := [6]) (by kernel_rfl) (by simp) ?_; refine AllReadyH.cons rfl (fun K hK => ?_) AllReadyH.nil
       ·
        simp only [gA, gB, gC]; (go_simp); refine (wmul_ok sg s2 ag a2 lg cg l2 c2 zg z2 _ hg (Rt.after BX L_hu.out).1 (by show ((iv sg zg * iv s2 z2).natAbs : Int) < _; rw [EG.out, L_hu.out.2.2.1]; exact F3.out 4096 rfl)).mono ?_; rintro e x9 ⟨sp, ap, lp, cp, zp, rfl, hp, ep, hb⟩; replace Vp := Va.after hb Vp; replace hg := It.after hb hg; replace BX := step BX hb; clear hb; (replace ep : iv sp zp = rnd q (v.num * (t.den : Int)) ((v.den : Int) * t.num) * t.num := by rw [ep, EG.out, L_hu.out.2.2.1]); (try go_wp2_with fail); refine hK.out _ _ (LS.out _ BX) (fun hHeld => ?_); clear hK K; refine tk 7 rfl hHeld ?_; simp only [gA, gB, gC, Act.put, gD, gE, gF]; refine tk 8 rfl hHeld ?_; simp only [gA, gB, gC, Act.put, gD, gE, gF]; refine tk 9 rfl hHeld ?_; simp only [gA, gB, gC, Act.put, gD, gE, gF]; have c_Vp := Vp.c0; have f0_Vp := Vp.frozen 0; have d_Vp := Vp.c1; have f1_Vp := Vp.frozen 1; have l_Vp := Vp.lt; have m_Vp := Nat.le_of_lt l_Vp; refine wpAnyH_ready (rs := [11]) (by kernel_rfl) (by simp) ?_
        refine AllReadyH.cons rfl (fun K hK => ?_) AllReadyH.nil; simp only [gA, gB, gC]; (go_simp); clear c_Vp f0_Vp d_Vp f1_Vp l_Vp m_Vp; refine st2 Vp (.bool sp) (.slice ap lp cp) (Q := fun W => K _ W) ?_; intro x10 V' oth far; replace hg := hg.far Vp (noInt2 _ _ _ _) far.1; replace hp := hp.far Vp (noInt2 _ _ _ _) far.1; replace BX := far.2 _ _ (by first | omega | (simp; omega)) BX; replace Vp := V'; clear oth far; refine hK.out _ _ (LS.out _ BX) (fun hHeld => ?_); clear hK K; refine tk 12 rfl hHeld ?_; simp only [gA, gB, gC, Act.put, gD, gE, gF]; refine wpAnyH_done (by kernel_rfl) ?_ _; refine NoPanic.normal ?_; clear hHeld; (go_wp2_with fail)
        go_meet
        exact ⟨_, sp, ap, lp, cp, zp, rfl, rfl, Vp, hp, ep, BX, by show _ ≤ _; omega⟩
   case rest =>
    clear BX; obtain ⟨b14, sp, ap, lp, cp, zp, rfl, rfl, Vp', hp', ep', BX', hineq'⟩ := hcut; have Vp := Vp'.out; have hp := hp'.out; have ep := ep'.out; have BX := BX'.out; have hineq := hineq'.out; clear Vp' hp' ep' BX' hineq'; have iq0 := hineq; clear hineq; have V1 := Va.after BX L_V1.out; have V2 := Va.after BX L_V2.out; have hu := Rt.after BX L_hu.out; have B0 := step L_B.out BX; have EP : Hid (iv sp zp = rnd q (v.num * (t.den : Int)) ((v.den : Int) * t.num) * t.num) := ep; clear ep; (go_wp2_with fail); refine wp_region_noPanic ?_; replace V1 : Va wc.drew _ _ _ := V1; replace V2 : Va wc.drew _ _ _ := V2; replace Vp : Va wc.drew _ _ _ := Vp; replace hu := hu.drw; replace hp := hp.drw; replace B0 := Below.drew B0; refine wp_region_held_drew (S := (fun W => W.cell? ⟨b14, 0, none⟩ = some (.bool sp) ∧ W.cell? ⟨b14, 1, none⟩ = some (.slice ap lp cp) ∧ W.cell? ⟨w.heap.size + 1, 0, none⟩ = some (.bool s2) ∧ W.cell? ⟨w.heap.size + 1, 1, none⟩ = some (.slice a2 l2 c2) ∧ W.cell? ⟨w.heap.size + 1, 2, none⟩ = some (.slice b2 m2 d2))) (by kernel_rfl) ⟨Vp.c0, Vp.c1, V1.d0, V1.d1, V1.d2⟩ (fun hHeld => ?_)
    (obtain ⟨x5, hxd⟩ : ∃ xd, xd = wc.drew := ⟨_, rfl⟩); rw [← hxd] at V1 V2 Vp hu hp B0 hHeld ⊢; clear hxd; refine tk 0 rfl hHeld ?_; simp only [gA, gB, Act.put, gD, gE, gF]; refine tk 1 rfl hHeld ?_; simp only [gA, gB, gC, Act.put, gD, gE, gF]; refine wpAnyH_ready (rs := [2]) (by kernel_rfl) (by simp) ?_; refine AllReadyH.cons rfl (fun K hK => ?_) AllReadyH.nil; simp only [gA, gB, gC]; (go_simp); refine (rden_any s2 a2 l2 c2 b2 m2 d2 y2 _ hu.2.1).mono ?_; rintro e x6 ⟨b3, m3, d3, y3, rfl, h3, e3, hb⟩; replace V1 := Va.after hb V1; replace V2 := Va.after hb V2; replace Vp := Va.after hb Vp; replace hu := Rt.after hb hu; replace hp := It.after hb hp; replace B0 := step B0 hb; clear hb; have E3 : Hid (num y3 = (t.den : Int)) := e3.trans hu.2.2.2.1; clear e3; (try go_wp2_with fail); refine hK.out _ _ ⟨Vp.c0, Vp.c1, V1.d0, V1.d1, V1.d2⟩ (fun hHeld => ?_); clear hK K; refine wpAnyH_ready (rs := [3]) (by kernel_rfl) (by simp) ?_; refine AllReadyH.cons rfl (fun K hK => ?_) AllReadyH.nil
    simp only [gA, gB, gC]; (go_simp); refine (above7 b3 m3 d3 y3 _ h3).mono ?_; rintro e x7 ⟨rfl, h4, hb⟩; replace V1 := Va.after hb V1; replace V2 := Va.after hb V2; replace Vp := Va.after hb Vp; replace hu := Rt.after hb hu; replace hp := It.after hb hp; replace h3 := Nt.after hb h3; replace B0 := step B0 hb; clear hb; (try go_wp2_with fail); refine hK.out _ _ ⟨Vp.c0, Vp.c1, V1.d0, V1.d1, V1.d2⟩ (fun hHeld => ?_); clear hK K; refine wpAnyH_ready (rs := [4]) (by kernel_rfl) (by simp) ?_; refine AllReadyH.cons rfl (fun K hK => ?_) AllReadyH.nil; simp only [gA, gB, gC]; (go_simp); refine (qnew_ok sp false ap b3 lp cp m3 d3 zp y3 _ hp h4 (by rw [iv_f, E3.out]; have := t.den_pos; omega)).mono ?_; rintro e x8 ⟨er, sf, af, lf, cf, zf, bf, mf, df, yf, v', rfl, h', hra, hb⟩; replace V1 := Va.after hb V1; replace V2 := Va.after hb V2; replace Vp := Va.after hb Vp; replace hu := Rt.after hb hu; replace hp := It.after hb hp; replace h3 := Nt.after hb h3
    replace h4 := It.after hb h4; replace B0 := step B0 hb; clear hb; rw [EP.out, iv_f, E3.out, divInt_units] at hra; have HRA : Hid (RA (uv q v t) er v') := hra; clear hra; (try go_wp2_with fail); refine hK.out _ _ ⟨Vp.c0, Vp.c1, V1.d0, V1.d1, V1.d2⟩ (fun hHeld => ?_); clear hK K; refine tk 5 rfl hHeld ?_; simp only [gA, gB, gC, Act.put, gD, gE, gF]; refine tk 6 rfl hHeld ?_; simp only [gA, gB, gC, Act.put, gD, gE, gF]; have c_V2 := V2.d0; have f0_V2 := V2.frozen 0; have d_V2 := V2.d1; have f1_V2 := V2.frozen 1; have e_V2 := V2.d2; have f2_V2 := V2.frozen 2; have l_V2 := V2.lt; have m_V2 := Nat.le_of_lt l_V2; refine wpAnyH_ready (rs := [7]) (by kernel_rfl) (by simp) ?_; refine AllReadyH.cons rfl (fun K hK => ?_) AllReadyH.nil; simp only [gA, gB, gC]; (go_simp); clear c_V2 f0_V2 d_V2 f1_V2 e_V2 f2_V2 l_V2 m_V2; refine sto3 V2 (.bool sf) (.slice af lf cf) (.slice bf mf df) (Q := fun W => K _ W) ?_; intro x9 V' oth far; replace V1 := oth _ _ _ (by first | omega | assumption | (simp; omega)) V1
    replace Vp := oth _ _ _ (by first | omega | assumption | (simp; omega)) Vp; replace hu := hu.far V2 (noInt3 _ _ _ _ _ _ _) far.1; replace hp := hp.far V2 (noInt3 _ _ _ _ _ _ _) far.1; replace h3 := h3.far V2 (noInt3 _ _ _ _ _ _ _) far.1; replace h4 := h4.far V2 (noInt3 _ _ _ _ _ _ _) far.1; replace h' := h'.far V2 (noInt3 _ _ _ _ _ _ _) far.1; replace B0 := far.2 _ _ (by first | omega | (simp; omega)) B0; replace V2 := V'; clear oth far; refine hK.out _ _ ⟨Vp.c0, Vp.c1, V1.d0, V1.d1, V1.d2⟩ (fun hHeld => ?_); clear hK K; refine tk 8 rfl hHeld ?_; simp only [gA, gB, gC, Act.put, gD, gE, gF]; refine wpAnyH_done (by kernel_rfl) ?_ _; refine NoPanic.normal ?_; clear hHeld; (go_wp2_with fail); refine bodyPost_ret (results_rt rfl rfl V2) rfl ?_; exact ⟨er, sf, af, lf, cf, zf, bf, mf, df, yf, v', rfl, h', HRA, B0⟩
end Go.Proofs.YtjaigmgbeganhaaGreat
namespace Go.Proofs.YtjaigmgbeganhaaGreat
open Go.RowKit Go.Shelf
set_option linter.unusedVariables false

theorem pow_ten (a : Option Addr) (la ca : Nat) (xs : List Int) (p : Nat) (w : World) (ha : Nt w a la ca xs) (hx : num xs = 10) (hp : p ≤ 9) :
    Calls Tryz.prog 41 #[.agg #[.slice a la ca], .int .i64 p] w fun e w' => ∃ a' l' c' zs, e = .returned (.tuple #[.agg #[.slice a' l' c'], .int .i64 0]) ∧ Nt w' a' l' c' zs ∧ num zs = 10 ^ p ∧ Below w.heap.size w w' := by
  refine (pow_any a la ca xs p w ha (by omega)).mono ?_
  rintro e w' (⟨a', l', c', zs, e1, h1, h2, hb⟩ | ⟨-, hb, -⟩)
  · exact ⟨a', l', c', zs, e1, h1, by rw [h2, hx], hb⟩
  · have h1 := hb.ge
    rw [hx] at h1
    have h2 := ten_lt hp
    have h3 : (1000000000 : Int) < pw 4096 := Int.lt_of_lt_of_le (show _ < pw 1 by decide) (pw_mono (by omega))
    omega

set_option maxHeartbeats 4000000 in
theorem places_ok (q : Int) (q1 : 1 ≤ q) (q2 : q ≤ 5) (s1 : Bool) (a1 : Option Addr) (l1 c1 : Nat) (z1 : List Int) (b1 : Option Addr) (m1 d1 : Nat) (y1 : List Int) (v : Rat) (B : Int) (p : Nat) (hB : B = p) (hp : p ≤ 9) (w : World) (hr : Rt w s1 a1 l1 c1 z1 b1 m1 d1 y1 v) :
    Calls Tryz.prog 11 #[.agg #[.bool s1, .slice a1 l1 c1, .slice b1 m1 d1], .int .i64 B, .int .i64 q] w fun e w' => UnP w (uv q v (tenth p)) e w' := by
  subst hB; have HQ : Hid (1 ≤ q ∧ q ≤ 5) := ⟨q1, q2⟩; clear q1 q2; (have t0 : decide ((p : Int) < 0) = false := by first | (simp; done) | (simp; omega)); (have t1 : decide (9 < (p : Int)) = false := by first | (simp; done) | (simp; omega)); have HT : Hid (Short (tenth p)) := tenth_short hp; have HP : Hid (p ≤ 9) := hp; clear hp; have B0 : Below w.heap.size w w := Below.refl _ _
  go_enter Tryz.func11, Tryz.ntmps11
  (go_wp2_with fail); refine ent2 w _ _ _ _ (Q := fun W => Calls Tryz.prog _ _ W _) ?_; intro x1 hb hs_x1 V0 V1; replace hr := Rt.after hb hr; replace B0 := step B0 hb; clear hb hs_x1; refine (small_any 10 ⟨by omega, by omega⟩ x1).mono ?_; rintro e x2 ⟨b3, m3, d3, y3, rfl, h3, e3, hb⟩; replace V0 := Va.after hb V0; replace V1 := Va.after hb V1; replace hr := Rt.after hb hr; replace B0 := step B0 hb; clear hb; (go_wp2_with fail); refine (pow_ten b3 m3 d3 y3 p x2 h3 e3 HP.out).mono ?_; rintro e x3 ⟨b4, m4, d4, y4, rfl, h4, e4, hb⟩; replace V0 := Va.after hb V0; replace V1 := Va.after hb V1; replace hr := Rt.after hb hr; replace h3 := Nt.after hb h3; replace B0 := step B0 hb; clear hb; have E4 : Hid (num y4 = 10 ^ p) := e4; clear e4; (go_wp2_with fail); clear h3; refine ent1 x3 _ _ (Q := fun W => Code.wp Tryz.prog _ _ _ W) ?_; intro x4 hb hs_x4 Vp; replace V0 := Va.after hb V0; replace V1 := Va.after hb V1; replace hr := Rt.after hb hr; replace h4 := Nt.after hb h4
  replace B0 := step B0 hb; clear hb hs_x4; (have LS : Hid (∀ W, Below x4.heap.size x4 W → (fun W => W.cell? ⟨x3.heap.size, 0, none⟩ = some (.slice b4 m4 d4)) W) := fun W hb => (Va.after hb Vp).cell); have lb_V0 := V0.lt; have L_V0 : Hid (Va x4 (w.heap.size) 29 #[.bool s1, .slice a1 l1 c1, .slice b1 m1 d1]) := V0; have lb_V1 := V1.lt; have L_V1 : Hid (Va x4 (w.heap.size + 1) 29 #[.bool false, .slice none 0 0, .slice none 0 0]) := V1; have lb_Vp := Vp.lt; have L_Vp : Hid (Va x4 (x3.heap.size) 25 #[.slice b4 m4 d4]) := Vp; have L_hr : Hid (Rt x4 s1 a1 l1 c1 z1 b1 m1 d1 y1 v) := hr; have L_h4 : Hid (Nt x4 b4 m4 d4 y4) := h4; have L_B : Hid (Below w.heap.size w x4) := B0; clear V0 V1 Vp hr h4 B0; have BX := Below.refl x4.heap.size x4
  go_cut [10, 11] (fun s10 s11 wx => ∃ (b10 : Nat) (s2 : Bool) (a2 : Option Addr) (l2 c2 : Nat) (z2 : List Int) (b2 : Option Addr) (m2 d2 : Nat) (y2 : List Int), s10 = .pointer (some ⟨b10, 0, none⟩) ∧ s11 = .int .i64 0 ∧ Hid (Va wx b10 29 #[.bool s2, .slice a2 l2 c2, .slice b2 m2 d2]) ∧ Hid (Rt wx s2 a2 l2 c2 z2 b2 m2 d2 y2 (tenth p)) ∧ Hid (Below x4.heap.size x4 wx))
  case first =>
    refine wp_region_noPanic ?_; replace BX := Below.drew BX; refine wp_region_held_drew (S := (fun W => W.cell? ⟨x3.heap.size, 0, none⟩ = some (.slice b4 m4 d4))) (by kernel_rfl) (LS.out _ BX) (fun hHeld => ?_); (obtain ⟨x5, hxd⟩ : ∃ xd, xd = x4.drew := ⟨_, rfl⟩); rw [← hxd] at BX hHeld ⊢; clear hxd; refine tk 1 rfl hHeld ?_; simp only [gA, gB, gC, Act.put, gD, gE, gF]; refine wpAnyH_ready (rs := [0, 7]) (by kernel_rfl) (by simp) ?_; refine AllReadyH.cons rfl (fun K hK => ?_) (AllReadyH.cons rfl (fun K hK => ?_) AllReadyH.nil)
    ·
      simp only [gA, gB]; (go_simp); refine (wsmall_any 1 (by omega) (by omega) _).mono ?_; rintro e x6 ⟨s5, a5, l5, c5, z5, rfl, h5, e5, hb⟩; replace BX := step BX hb; clear hb; have E5 : Hid (iv s5 z5 = 1) := e5; clear e5; (try go_wp2_with fail); refine hK.out _ _ (LS.out _ BX) (fun hHeld => ?_); clear hK K; refine wpAnyH_ready (rs := [2, 7]) (by kernel_rfl) (by simp) ?_; refine AllReadyH.cons rfl (fun K hK => ?_) (AllReadyH.cons rfl (fun K hK => ?_) AllReadyH.nil)
      ·
        simp only [gA, gB, gC]; (go_simp); refine (above7 b4 m4 d4 y4 _ (Nt.after BX L_h4.out)).mono ?_; rintro e x7 ⟨rfl, h6, hb⟩; replace h5 := It.after hb h5; replace BX := step BX hb; clear hb; (try go_wp2_with fail); refine hK.out _ _ (LS.out _ BX) (fun hHeld => ?_); clear hK K; refine wpAnyH_ready (rs := [3, 7]) (by kernel_rfl) (by simp) ?_; refine AllReadyH.cons rfl (fun K hK => ?_) (AllReadyH.cons rfl (fun K hK => ?_) AllReadyH.nil)
        ·
          simp only [gA, gB, gC]; (go_simp); refine (qnew_ok s5 false a5 b4 l5 c5 m4 d4 z5 y4 _ h5 h6 (by rw [iv_f, E4.out]; have := Int.pow_pos (n := 10) (m := p) (by omega); omega)).mono ?_; rintro e x8 ⟨er, s2, a2, l2, c2, z2, b2, m2, d2, y2, v', rfl, h2, hra, hb⟩; replace h5 := It.after hb h5; replace h6 := It.after hb h6; replace BX := step BX hb; clear hb; rw [E5.out, iv_f, E4.out, tenth_divInt] at hra
          rcases hra.out with ⟨-, e8, e9⟩ | ⟨h9, -⟩
          rotate_left
          · exact absurd HT.out h9
          subst e8; subst e9; clear hra; (try go_wp2_with fail); refine hK.out _ _ (LS.out _ BX) (fun hHeld => ?_); clear hK K; refine tk 4 rfl hHeld ?_; simp only [gA, gB, gC, Act.put, gD, gE, gF]; refine tk 5 rfl hHeld ?_; simp only [gA, gB, gC, Act.put, gD, gE, gF]; refine tk 6 rfl hHeld ?_; simp only [gA, gB, gC, Act.put, gD, gE, gF]; refine wpAnyH_ready (rs := [7]) (by kernel_rfl) (by simp) ?_; refine AllReadyH.cons rfl (fun K hK => ?_) AllReadyH.nil
          ·
            simp only [gA, gB, gC]; (go_simp); have sz_Vu := BX.size; refine ent1 _ _ _ (Q := fun V => K _ V) ?_; intro x9 hb hs_ Vu; replace h5 := It.after hb h5; replace h6 := It.after hb h6; replace h2 := Rt.after hb h2; replace BX := step BX hb; clear hb hs_; refine hK.out _ _ (LS.out _ BX) (fun hHeld => ?_); clear hK K; have c_Vu := Vu.d0; have f0_Vu := Vu.frozen 0; have d_Vu := Vu.d1; have f1_Vu := Vu.frozen 1; have e_Vu := Vu.d2; have f2_Vu := Vu.frozen 2; have l_Vu := Vu.lt; have m_Vu := Nat.le_of_lt l_Vu; refine wpAnyH_ready (rs := [8]) (by kernel_rfl) (by simp) ?_; refine AllReadyH.cons rfl (fun K hK => ?_) AllReadyH.nil; simp only [gA, gB, gC]; (go_simp); clear c_Vu f0_Vu d_Vu f1_Vu e_Vu f2_Vu l_Vu m_Vu; refine sto3 Vu (.bool s2) (.slice a2 l2 c2) (.slice b2 m2 d2) (Q := fun W => K _ W) ?_; intro x10 V' oth far; replace h5 := h5.far Vu (noInt3 _ _ _ _ _ _ _) far.1; replace h6 := h6.far Vu (noInt3 _ _ _ _ _ _ _) far.1; replace h2 := h2.far Vu (noInt3 _ _ _ _ _ _ _) far.1
            replace BX := far.2 _ _ (by first | omega | (simp; omega)) BX; replace Vu := V'; clear oth far; refine hK.out _ _ (LS.out _ BX) (fun hHeld => ?_); clear hK K; refine tk 9 rfl hHeld ?_; simp only [gA, gB, gC, Act.put, gD, gE, gF]; refine wpAnyH_done (by kernel_rfl) ?_ _; refine NoPanic.normal ?_; clear hHeld; (go_wp2_with fail)
            go_meet
            exact ⟨_, s2, a2, l2, c2, z2, b2, m2, d2, y2, rfl, rfl, Vu, h2, BX⟩
        ·
          simp only [gA, gB, gC]; (go_simp); have sz_Vu := BX.size; refine ent1 _ _ _ (Q := fun V => K _ V) ?_; intro x8 hb hs_ Vu; replace h5 := It.after hb h5; replace h6 := It.after hb h6; replace BX := step BX hb; clear hb hs_; refine hK.out _ _ (LS.out _ BX) (fun hHeld => ?_); clear hK K; refine wpAnyH_ready (rs := [3]) (by kernel_rfl) (by simp) ?_; refine AllReadyH.cons rfl (fun K hK => ?_) AllReadyH.nil
          ·
            simp only [gA, gB, gC]; (go_simp); refine (qnew_ok s5 false a5 b4 l5 c5 m4 d4 z5 y4 _ h5 h6 (by rw [iv_f, E4.out]; have := Int.pow_pos (n := 10) (m := p) (by omega); omega)).mono ?_; rintro e x9 ⟨er, s2, a2, l2, c2, z2, b2, m2, d2, y2, v', rfl, h2, hra, hb⟩; replace Vu := Va.after hb Vu; replace h5 := It.after hb h5; replace h6 := It.after hb h6; replace BX := step BX hb; clear hb; rw [E5.out, iv_f, E4.out, tenth_divInt] at hra
            rcases hra.out with ⟨-, e8, e9⟩ | ⟨h9, -⟩
            rotate_left
            · exact absurd HT.out h9
            subst e8; subst e9; clear hra; (try go_wp2_with fail); refine hK.out _ _ (LS.out _ BX) (fun hHeld => ?_); clear hK K; refine tk 4 rfl hHeld ?_; simp only [gA, gB, gC, Act.put, gD, gE, gF]; refine tk 5 rfl hHeld ?_; simp only [gA, gB, gC, Act.put, gD, gE, gF]; refine tk 6 rfl hHeld ?_; simp only [gA, gB, gC, Act.put, gD, gE, gF]; have c_Vu := Vu.d0; have f0_Vu := Vu.frozen 0; have d_Vu := Vu.d1; have f1_Vu := Vu.frozen 1; have e_Vu := Vu.d2; have f2_Vu := Vu.frozen 2; have l_Vu := Vu.lt; have m_Vu := Nat.le_of_lt l_Vu; refine wpAnyH_ready (rs := [8]) (by kernel_rfl) (by simp) ?_; refine AllReadyH.cons rfl (fun K hK => ?_) AllReadyH.nil; simp only [gA, gB, gC]; (go_simp); clear c_Vu f0_Vu d_Vu f1_Vu e_Vu f2_Vu l_Vu m_Vu; refine sto3 Vu (.bool s2) (.slice a2 l2 c2) (.slice b2 m2 d2) (Q := fun W => K _ W) ?_; intro x10 V' oth far; replace h5 := h5.far Vu (noInt3 _ _ _ _ _ _ _) far.1; replace h6 := h6.far Vu (noInt3 _ _ _ _ _ _ _) far.1; replace h2 := h2.far Vu (noInt3 _ _ _ _ _ _ _) far.1
            replace BX := far.2 _ _ (by first | omega | (simp; omega)) BX; replace Vu := V'; clear oth far; refine hK.out _ _ (LS.out _ BX) (fun hHeld => ?_); clear hK K; refine tk 9 rfl hHeld ?_; simp only [gA, gB, gC, Act.put, gD, gE, gF]; refine wpAnyH_done (by kernel_rfl) ?_ _; refine NoPanic.normal ?_; clear hHeld; (go_wp2_with fail)
            go_meet
            exact ⟨_, s2, a2, l2, c2, z2, b2, m2, d2, y2, rfl, rfl, Vu, h2, BX⟩
      ·
        simp only [gA, gB, gC]; (go_simp); have sz_Vu := BX.size; refine ent1 _ _ _ (Q := fun V => K _ V) ?_; intro x7 hb hs_ Vu; replace h5 := It.after hb h5; replace BX := step BX hb; clear hb hs_; refine hK.out _ _ (LS.out _ BX) (fun hHeld => ?_); clear hK K; refine wpAnyH_ready (rs := [2]) (by kernel_rfl) (by simp) ?_; refine AllReadyH.cons rfl (fun K hK => ?_) AllReadyH.nil
        ·
          simp only [gA, gB, gC]; (go_simp); refine (above7 b4 m4 d4 y4 _ (Nt.after BX L_h4.out)).mono ?_; rintro e x8 ⟨rfl, h6, hb⟩; replace Vu := Va.after hb Vu; replace h5 := It.after hb h5; replace BX := step BX hb; clear hb; (try go_wp2_with fail); refine hK.out _ _ (LS.out _ BX) (fun hHeld => ?_); clear hK K; refine wpAnyH_ready (rs := [3]) (by kernel_rfl) (by simp) ?_; refine AllReadyH.cons rfl (fun K hK => ?_) AllReadyH.nil
          ·
            simp only [gA, gB, gC]; (go_simp); refine (qnew_ok s5 false a5 b4 l5 c5 m4 d4 z5 y4 _ h5 h6 (by rw [iv_f, E4.out]; have := Int.pow_pos (n := 10) (m := p) (by omega); omega)).mono ?_; rintro e x9 ⟨er, s2, a2, l2, c2, z2, b2, m2, d2, y2, v', rfl, h2, hra, hb⟩; replace Vu := Va.after hb Vu; replace h5 := It.after hb h5; replace h6 := It.after hb h6; replace BX := step BX hb; clear hb; rw [E5.out, iv_f, E4.out, tenth_divInt] at hra
            rcases hra.out with ⟨-, e8, e9⟩ | ⟨h9, -⟩
            rotate_left
            · exact absurd HT.out h9
            subst e8; subst e9; clear hra; (try go_wp2_with fail); refine hK.out _ _ (LS.out _ BX) (fun hHeld => ?_); clear hK K; refine tk 4 rfl hHeld ?_; simp only [gA, gB, gC, Act.put, gD, gE, gF]; refine tk 5 rfl hHeld ?_; simp only [gA, gB, gC, Act.put, gD, gE, gF]; refine tk 6 rfl hHeld ?_; simp only [gA, gB, gC, Act.put, gD, gE, gF]; have c_Vu := Vu.d0; have f0_Vu := Vu.frozen 0; have d_Vu := Vu.d1; have f1_Vu := Vu.frozen 1; have e_Vu := Vu.d2; have f2_Vu := Vu.frozen 2; have l_Vu := Vu.lt; have m_Vu := Nat.le_of_lt l_Vu; refine wpAnyH_ready (rs := [8]) (by kernel_rfl) (by simp) ?_; refine AllReadyH.cons rfl (fun K hK => ?_) AllReadyH.nil; simp only [gA, gB, gC]; (go_simp); clear c_Vu f0_Vu d_Vu f1_Vu e_Vu f2_Vu l_Vu m_Vu; refine sto3 Vu (.bool s2) (.slice a2 l2 c2) (.slice b2 m2 d2) (Q := fun W => K _ W) ?_; intro x10 V' oth far; replace h5 := h5.far Vu (noInt3 _ _ _ _ _ _ _) far.1; replace h6 := h6.far Vu (noInt3 _ _ _ _ _ _ _) far.1; replace h2 := h2.far Vu (noInt3 _ _ _ _ _ _ _) far.1
            replace BX := far.2 _ _ (by first | omega | (simp; omega)) BX; replace Vu := V'; clear oth far; refine hK.out _ _ (LS.out _ BX) (fun hHeld => ?_); clear hK K; refine tk 9 rfl hHeld ?_; simp only [gA, gB, gC, Act.put, gD, gE, gF]; refine wpAnyH_done (by kernel_rfl) ?_ _; refine NoPanic.normal ?_; clear hHeld; (go_wp2_with fail)
            go_meet
            exact ⟨_, s2, a2, l2, c2, z2, b2, m2, d2, y2, rfl, rfl, Vu, h2, BX⟩
    ·
      simp only [gA, gB, gC]; (go_simp); have sz_Vu := BX.size; refine ent1 _ _ _ (Q := fun V => K _ V) ?_; intro x6 hb hs_ Vu; replace BX := step BX hb; clear hb hs_; refine hK.out _ _ (LS.out _ BX) (fun hHeld => ?_); clear hK K; refine wpAnyH_ready (rs := [0]) (by kernel_rfl) (by simp) ?_; refine AllReadyH.cons rfl (fun K hK => ?_) AllReadyH.nil
      ·
        simp only [gA, gB]; (go_simp); refine (wsmall_any 1 (by omega) (by omega) _).mono ?_; rintro e x7 ⟨s5, a5, l5, c5, z5, rfl, h5, e5, hb⟩; replace Vu := Va.after hb Vu; replace BX := step BX hb; clear hb; have E5 : Hid (iv s5 z5 = 1) := e5; clear e5; (try go_wp2_with fail); refine hK.out _ _ (LS.out _ BX) (fun hHeld => ?_); clear hK K; refine wpAnyH_ready (rs := [2]) (by kernel_rfl) (by simp) ?_; refine AllReadyH.cons rfl (fun K hK => ?_) AllReadyH.nil
        ·
          simp only [gA, gB, gC]; (go_simp); refine (above7 b4 m4 d4 y4 _ (Nt.after BX L_h4.out)).mono ?_; rintro e x8 ⟨rfl, h6, hb⟩; replace Vu := Va.after hb Vu; replace h5 := It.after hb h5; replace BX := step BX hb; clear hb; (try go_wp2_with fail); refine hK.out _ _ (LS.out _ BX) (fun hHeld => ?_); clear hK K; refine wpAnyH_ready (rs := [3]) (by kernel_rfl) (by simp) ?_; refine AllReadyH.cons rfl (fun K hK => ?_) AllReadyH.nil
          ·
            simp only [gA, gB, gC]; (go_simp); refine (qnew_ok s5 false a5 b4 l5 c5 m4 d4 z5 y4 _ h5 h6 (by rw [iv_f, E4.out]; have := Int.pow_pos (n := 10) (m := p) (by omega); omega)).mono ?_; rintro e x9 ⟨er, s2, a2, l2, c2, z2, b2, m2, d2, y2, v', rfl, h2, hra, hb⟩; replace Vu := Va.after hb Vu; replace h5 := It.after hb h5; replace h6 := It.after hb h6; replace BX := step BX hb; clear hb; rw [E5.out, iv_f, E4.out, tenth_divInt] at hra
            rcases hra.out with ⟨-, e8, e9⟩ | ⟨h9, -⟩
            rotate_left
            · exact absurd HT.out h9
            subst e8; subst e9; clear hra; (try go_wp2_with fail); refine hK.out _ _ (LS.out _ BX) (fun hHeld => ?_); clear hK K; refine tk 4 rfl hHeld ?_; simp only [gA, gB, gC, Act.put, gD, gE, gF]; refine tk 5 rfl hHeld ?_; simp only [gA, gB, gC, Act.put, gD, gE, gF]; refine tk 6 rfl hHeld ?_; simp only [gA, gB, gC, Act.put, gD, gE, gF]; have c_Vu := Vu.d0; have f0_Vu := Vu.frozen 0; have d_Vu := Vu.d1; have f1_Vu := Vu.frozen 1; have e_Vu := Vu.d2; have f2_Vu := Vu.frozen 2; have l_Vu := Vu.lt; have m_Vu := Nat.le_of_lt l_Vu; refine wpAnyH_ready (rs := [8]) (by kernel_rfl) (by simp) ?_; refine AllReadyH.cons rfl (fun K hK => ?_) AllReadyH.nil; simp only [gA, gB, gC]; (go_simp); clear c_Vu f0_Vu d_Vu f1_Vu e_Vu f2_Vu l_Vu m_Vu; refine sto3 Vu (.bool s2) (.slice a2 l2 c2) (.slice b2 m2 d2) (Q := fun W => K _ W) ?_; intro x10 V' oth far; replace h5 := h5.far Vu (noInt3 _ _ _ _ _ _ _) far.1; replace h6 := h6.far Vu (noInt3 _ _ _ _ _ _ _) far.1; replace h2 := h2.far Vu (noInt3 _ _ _ _ _ _ _) far.1
            replace BX := far.2 _ _ (by first | omega | (simp; omega)) BX; replace Vu := V'; clear oth far; refine hK.out _ _ (LS.out _ BX) (fun hHeld => ?_); clear hK K; refine tk 9 rfl hHeld ?_; simp only [gA, gB, gC, Act.put, gD, gE, gF]; refine wpAnyH_done (by kernel_rfl) ?_ _; refine NoPanic.normal ?_; clear hHeld; (go_wp2_with fail)
            go_meet
            exact ⟨_, s2, a2, l2, c2, z2, b2, m2, d2, y2, rfl, rfl, Vu, h2, BX⟩
  case rest =>
    clear BX; obtain ⟨b10, s2, a2, l2, c2, z2, b2, m2, d2, y2, rfl, rfl, Vu', h2', BX'⟩ := hcut; have Vu := Vu'.out; have h2 := h2'.out; have BX := BX'.out; clear Vu' h2' BX'; have V0 := Va.after BX L_V0.out; have V1 := Va.after BX L_V1.out; have Vp := Va.after BX L_Vp.out; have hr := Rt.after BX L_hr.out; have h4 := Nt.after BX L_h4.out; have B0 := step L_B.out BX; have c_V0 := V0.d0; have f0_V0 := V0.frozen 0; have d_V0 := V0.d1; have f1_V0 := V0.frozen 1; have e_V0 := V0.d2; have f2_V0 := V0.frozen 2; have l_V0 := V0.lt; have m_V0 := Nat.le_of_lt l_V0; have c_Vu := Vu.d0; have f0_Vu := Vu.frozen 0; have d_Vu := Vu.d1; have f1_Vu := Vu.frozen 1; have e_Vu := Vu.d2; have f2_Vu := Vu.frozen 2; have l_Vu := Vu.lt; have m_Vu := Nat.le_of_lt l_Vu; (go_wp2_with fail); refine (units_ok q HQ.out.1 HQ.out.2 s1 a1 l1 c1 z1 b1 m1 d1 y1 v s2 a2 l2 c2 z2 b2 m2 d2 y2 (tenth p) wc hr h2 (by show 0 < (tenth p).num; rw [(tenth_parts p).1]; omega)).mono ?_; rintro e x5 ⟨er, s7, a7, l7, c7, z7, b7, m7, d7, y7, v', rfl, h7, hra, hb⟩
    replace V0 := Va.after hb V0; replace V1 := Va.after hb V1; replace Vp := Va.after hb Vp; replace Vu := Va.after hb Vu; replace hr := Rt.after hb hr; replace h4 := Nt.after hb h4; replace h2 := Rt.after hb h2; replace B0 := step B0 hb; clear hb; clear c_V0 f0_V0 d_V0 f1_V0 e_V0 f2_V0 l_V0 m_V0 c_Vu f0_Vu d_Vu f1_Vu e_Vu f2_Vu l_Vu m_Vu; have c_V1 := V1.d0; have f0_V1 := V1.frozen 0; have d_V1 := V1.d1; have f1_V1 := V1.frozen 1; have e_V1 := V1.d2; have f2_V1 := V1.frozen 2; have l_V1 := V1.lt; have m_V1 := Nat.le_of_lt l_V1; (go_wp2_with fail); refine bodyPost_ret (results_rt rfl rfl (V1.set3 _ _ _)) rfl ?_; exact ⟨er, s7, a7, l7, c7, z7, b7, m7, d7, y7, v', rfl, h7.far V1 (noInt3 _ _ _ _ _ _ _) (fa3 _ _ _ _ _), hra, belo3 B0 (by omega) _ _ _⟩
end Go.Proofs.YtjaigmgbeganhaaGreat
namespace Go.Proofs.YtjaigmgbeganhaaGreat
open Go.RowKit Go.Shelf
set_option linter.unusedVariables false

theorem places_bad (q B : Int) (hB : 9 < B) (s : Bool) (a : Option Addr) (l c : Nat) (b : Option Addr) (m d : Nat) (w : World) :
    Calls Tryz.prog 11 #[.agg #[.bool s, .slice a l c, .slice b m d], .int .i64 B, .int .i64 q] w fun e w' => e = .returned (.tuple #[.agg #[.bool false, .slice none 0 0, .slice none 0 0], .int .i64 2]) ∧ Below w.heap.size w w' := by
  have t0 : decide (B < 0) = false := by simp; omega
  have t1 : decide (9 < B) = true := by simp; omega
  have t2 : ¬ (B < 0) := by omega
  have B0 : Below w.heap.size w w := Below.refl _ _
  go_enter Tryz.func11, Tryz.ntmps11
  go_wp2_with fail
  refine bodyPost_ret (results_rt rfl rfl (by have := Va.new (w.alloc (Obj.cells #[Value.bool s, Value.slice a l c, Value.slice b m d] 29)) 29 #[Value.bool false, Value.slice none 0 0, Value.slice none 0 0]; simp only [World.alloc, Array.size_push] at this ⊢; exact this)) rfl ?_
  exact ⟨rfl, ((Below.refl _ _).alloc (Nat.le_refl _) _).alloc (by simp) _⟩

/-- The row that make gives, and what it becomes. -/
def zrow (n : Nat) : List Int := List.replicate n 0
def zobj (n : Nat) : Obj := .cells (row (zrow n)).toArray 23
theorem zrow_len (n : Nat) : (zrow n).length = n := by simp [zrow]
theorem make_z (n : Nat) (hn : n = 1024) (w : World) : (Instr.makeSlice 22 (.int .i64 1024) (.int .i64 1024)).run Tryz.prog w = .ok (.slice (some ⟨w.heap.size, 0, none⟩) 1024 1024) (w.alloc (zobj n)) := by
  subst hn; exact make_row 1024 (by omega) w
theorem own_z (n : Nat) (w : World) : Own (w.alloc (zobj n)) w.heap.size (zrow n) := heap_alloc_new w _
theorem own_stay {w : World} {g : Nat} {cs : List Int} (h : Own w g cs) {p : Addr} (hp : g ≠ p.block) (v : Value) : Own (w.setCell p v) g cs := by
  unfold Own at *; rw [Below.heap_setCell _ _ _ _ hp]; exact h
theorem limbs_zrow (n : Nat) (k : Nat) : Limbs ((zrow n).set k 9223372036854775808) := fun z hz => by
  rcases List.mem_or_eq_of_mem_set hz with h | h
  · rw [List.eq_of_mem_replicate h]; exact ⟨by omega, by omega⟩
  · subst h; exact ⟨by omega, by omega⟩
theorem limbs_all {zs : List Int} (h : ∀ i, i < zs.length → zs.getD i 0 = 18446744073709551615) : Limbs zs := fun z hz => by
  obtain ⟨i, hi, e⟩ := List.getElem_of_mem hz
  have := h i hi
  rw [List.getD_eq_getElem?_getD, List.getElem?_eq_getElem hi] at this
  simp at this
  rw [e] at this
  rw [this]; exact ⟨by omega, by omega⟩
theorem getD_set7 {zs : List Int} {k i : Nat} (hk : k < zs.length) (v : Int) : (zs.set k v).getD i 0 = if i = k then v else zs.getD i 0 := by
  rw [List.getD_eq_getElem?_getD, List.getD_eq_getElem?_getD, List.getElem?_set]
  by_cases h : k = i
  · subst h; simp [hk]
  · rw [if_neg h, if_neg (fun e => h e.symm)]
theorem sl_nil (w : World) : Sl w none 0 [] := ⟨rfl, Limbs.nil, fun h => absurd h (by decide)⟩
theorem used_nil : usedN [] = 0 := rfl
theorem divInt_int7 (k : Int) : Rat.divInt k 1 = (k : Rat) := by rw [show (1 : Int) = ((1 : Nat) : Int) from rfl, Rat.divInt_ofNat, Rat.mkRat_one]
theorem sl_two7 {w : World} {b : Nat} {t : TypeId} (V : Va w b t #[.int .u64 2]) : Sl w (some ⟨b, 0, none⟩) 1 [2] := by
  refine ⟨rfl, fun z hz => ?_, fun _ => ⟨b, 0, rfl, fun i hi => ?_⟩⟩
  · simp at hz; subst hz; exact ⟨by omega, by omega⟩
  · obtain rfl : i = 0 := by omega
    exact V.cell
theorem big_i64e (M : Nat) : i64e (rnd 4 (((pw (M + 1) - 1 : Int) : Rat)).num ((((pw (M + 1) - 1 : Int) : Rat)).den : Int)) = 5 := by
  have e1 : (((pw (M + 1) - 1 : Int)) : Rat).num = pw (M + 1) - 1 := rfl
  have e2 : (((pw (M + 1) - 1 : Int)) : Rat).den = 1 := rfl
  rw [e1, e2, rnd_exact (k := pw (M + 1) - 1) (by omega) (by omega)]
  have := pw_ge1 M
  rw [pw_up]
  unfold i64e
  rw [if_neg (by omega)]

set_option maxHeartbeats 16000000 in
set_option maxRecDepth 8000 in
theorem numbers_walk (w : World) : Calls Tryz.prog 3 #[] w fun e w' => e = .returned (.bool true) ∧ Below w.heap.size w w' := by
  obtain ⟨T, hT⟩ : ∃ T : Nat, T = 1024 := ⟨_, rfl⟩
  have HT : Hid (T = 1024) := hT
  have mk1 := make_z T hT w
  have mk2 := make_z T hT (w.alloc (zobj T))
  have O1 : Own ((w.alloc (zobj T)).alloc (zobj T)) w.heap.size (zrow T) := by
    have := own_z T w
    unfold Own at *
    rw [Below.heap_alloc _ _ _ (by simp)]; exact this
  have O2 : Own ((w.alloc (zobj T)).alloc (zobj T)) (w.alloc (zobj T)).heap.size (zrow T) := own_z T _
  have hsz : (w.alloc (zobj T)).heap.size = w.heap.size + 1 := by simp
  rw [hsz] at O2 mk2
  have c1 := O1.cell 1023 (by rw [zrow_len, hT]; omega)
  have f1 := O1.frozen 1023
  have Z1 := Own.set (own_z T w) 1023 9223372036854775808
  have Zs : ((w.alloc (zobj T)).setCell ⟨w.heap.size, 1023, none⟩ (.int .u64 9223372036854775808)).heap.size = w.heap.size + 1 := by rw [size_set]; simp
  have O3 : Hid (Own (((w.alloc (zobj T)).setCell ⟨w.heap.size, 1023, none⟩ (.int .u64 9223372036854775808)).alloc (zobj T)) w.heap.size ((zrow T).set 1023 9223372036854775808)) := by
    unfold Own at Z1
    show Own _ _ _
    unfold Own
    rw [Below.heap_alloc _ _ _ (by rw [Zs]; omega)]; exact Z1
  have O4 : Hid (Own (((w.alloc (zobj T)).setCell ⟨w.heap.size, 1023, none⟩ (.int .u64 9223372036854775808)).alloc (zobj T)) (w.heap.size + 1) (zrow T)) := by
    have := own_z T ((w.alloc (zobj T)).setCell ⟨w.heap.size, 1023, none⟩ (.int .u64 9223372036854775808))
    rw [Zs] at this; exact this
  have B3 : Hid (Below w.heap.size w (((w.alloc (zobj T)).setCell ⟨w.heap.size, 1023, none⟩ (.int .u64 9223372036854775808)).alloc (zobj T))) := (((Below.refl _ _).alloc (Nat.le_refl _) _).setCell (p := ⟨w.heap.size, 1023, none⟩) (Nat.le_refl _) _).alloc (by rw [Zs]; omega) _
  clear Z1 Zs
  clear O1 O2 hsz hT
  go_enter Tryz.func3, Tryz.ntmps3
  go_wp2_with fail
  go_loopw [3] (fun ii wr => ∃ (k : Nat) (cs : List Int), k ≤ 1024 ∧ ii = .int .i64 k ∧ Hid (cs.length = 1024 ∧ ∀ i, i < k → cs.getD i 0 = 18446744073709551615) ∧ Hid (Own wr (w.heap.size + 1) cs) ∧ Hid (Own wr w.heap.size ((zrow T).set 1023 9223372036854775808)) ∧ Hid (Below w.heap.size w wr)) (fun ii _ => 1024 - (intOf ii).toNat)
  case atStart => exact ⟨0, zrow T, Nat.zero_le _, rfl, ⟨by rw [zrow_len]; exact HT.out, fun i hi => absurd hi (by omega)⟩, O4, O3, B3⟩
  case round =>
    clear mk1 mk2 c1 f1 O3 O4 B3
    obtain ⟨k, cs, hk, rfl, hlen, hO, hO1, hB⟩ := hrel
    by_cases hlt : k < 1024
    · have hcx := hO.out.cell k (by rw [hlen.out.1]; exact hlt)
      have hfx := hO.out.frozen k
      go_wp2_with fail
      go_roundw
      case rel =>
        refine ⟨k + 1, _, by omega, by go_num, ⟨by rw [List.length_set]; exact hlen.out.1, fun i hi => ?_⟩, Own.set hO.out k _, own_stay hO1.out (by simp) _, hB.out.setCell (p := ⟨w.heap.size + 1, k, none⟩) (by simp) _⟩
        rw [getD_set7 (by rw [hlen.out.1]; exact hlt)]
        by_cases hik : i = k
        · rw [if_pos hik]
        · rw [if_neg hik]; exact hlen.out.2 i (by omega)
      case measure => simp [intOf]; omega
    · obtain rfl : k = 1024 := by omega
      have HL := hlen.out
      have HLa : Hid (num cs = pw T - 1 ∧ Limbs cs ∧ cs.length = 1024) := by
        have h5 : ∀ i, i < cs.length → cs.getD i 0 = 18446744073709551615 := fun i hi => HL.2 i (by rw [HL.1] at hi; exact hi)
        exact ⟨by rw [num_all cs h5, HL.1, HT.out], limbs_all h5, HL.1⟩
      obtain ⟨M, hM⟩ : ∃ M : Nat, T = M + 1 := ⟨1023, HT.out⟩
      have HM : Hid (M = 1023) := by show M = 1023; have := HT.out; omega
      have HFa : Hid (num ((zrow T).set 1023 9223372036854775808) = FR M ∧ Limbs ((zrow T).set 1023 9223372036854775808) ∧ ((zrow T).set 1023 9223372036854775808).length = 1024) := ⟨by rw [hM, show (1023 : Nat) = M from HM.out.symm]; exact far_num M, limbs_zrow T 1023, by rw [List.length_set, zrow_len]; exact HT.out⟩
      have hu := hO.out
      have hf := hO1.out
      obtain ⟨fl, hfl⟩ : ∃ fl, (zrow T).set 1023 9223372036854775808 = fl := ⟨_, rfl⟩
      rw [hfl] at hf HFa
      clear hfl hlen hO hO1 HL hk hlt
      have B0 := hB.out
      clear hB
      subst hM
      have gf : Ow wr w.heap.size fl := hf
      have gu : Ow wr (w.heap.size + 1) cs := hu
      clear hf hu
      go_wp2_with fail
      refine (of7v false (some ⟨w.heap.size, 0, none⟩) 1024 1024 fl none 0 0 [] wr (gf.sl HFa.out.2.1 HFa.out.2.2) (sl_nil _) (by omega) (by omega)).mono ?_
      rintro e x1 ⟨sr, ar, lr, cr, zr, br, mr, dr, yr, sq, aq, lq, cq, zq, bq, mq, dq, yq, v, rfl, hr, hq, hpc, hb⟩
      replace gf := Ow.after hb gf
      replace gu := Ow.after hb gu
      replace B0 := step B0 hb
      clear hb
      obtain rfl : v = ((FR M : Int) : Rat) := by
        have h5 := hpc.out ⟨by omega, by omega, Or.inr (by rw [used_nil]; omega), Or.inl (by rw [used_nil]; omega)⟩
        rw [h5, iv_f, HFa.out.1, show dn [] = 1 from rfl, divInt_int7]
      clear hpc
      go_wp2_with fail
      refine ent3 x1 _ _ _ _ _ _ (Q := fun W => Calls Tryz.prog _ _ W _) ?_
      intro x2 hb hs_x2 Xr Xq Vo
      replace gf := Ow.after hb gf
      replace gu := Ow.after hb gu
      replace hr := Rt.after hb hr
      replace hq := Rr.after hb hq
      replace B0 := step B0 hb
      clear hb hs_x2
      clear hq Xq
      have ho : Sl x2 (some ⟨x1.heap.size + 1 + 1, 0, none⟩) 1 [1] := sl_one7 Vo
      clear Vo
      refine (of7v false (some ⟨x1.heap.size + 1 + 1, 0, none⟩) 1 1 [1] (some ⟨w.heap.size, 0, none⟩) 1024 1024 fl x2 ho (gf.sl HFa.out.2.1 HFa.out.2.2) (by omega) (by omega)).mono ?_
      rintro e x3 ⟨su, au, lu, cu, zu, bu, mu, du, yu, sq, aq, lq, cq, zq, bq, mq, dq, yq, v, rfl, hu, hq, hpc, hb⟩
      replace Xr := Va.after hb Xr
      replace gf := Ow.after hb gf
      replace gu := Ow.after hb gu
      replace hr := Rt.after hb hr
      replace ho := Sl.after hb ho
      replace B0 := step B0 hb
      clear hb
      obtain rfl : v = Rat.divInt 1 (FR M) := by
        have h5 := hpc.out ⟨by omega, by omega, Or.inl (by decide), Or.inr (by decide)⟩
        rw [h5, show dn fl = num fl from if_neg (by rw [HFa.out.1]; have := FR_pos M; omega), HFa.out.1]; rfl
      clear hpc
      go_wp2_with fail
      refine ent2 x3 _ _ _ _ (Q := fun W => Calls Tryz.prog _ _ W _) ?_
      intro x4 hb hs_x4 Xu Xq
      replace Xr := Va.after hb Xr
      replace gf := Ow.after hb gf
      replace gu := Ow.after hb gu
      replace hr := Rt.after hb hr
      replace ho := Sl.after hb ho
      replace hu := Rt.after hb hu
      replace hq := Rr.after hb hq
      replace B0 := step B0 hb
      clear hb hs_x4
      clear hq Xq
      clear ho
      refine (of7v false (some ⟨w.heap.size + 1, 0, none⟩) 1024 1024 cs none 0 0 [] x4 (gu.sl HLa.out.2.1 HLa.out.2.2) (sl_nil _) (by omega) (by omega)).mono ?_
      rintro e x5 ⟨sf, af, lf, cf, zf, bf, mf, df, yf, sq, aq, lq, cq, zq, bq, mq, dq, yq, v, rfl, hf, hq, hpc, hb⟩
      replace Xr := Va.after hb Xr
      replace Xu := Va.after hb Xu
      replace gf := Ow.after hb gf
      replace gu := Ow.after hb gu
      replace hr := Rt.after hb hr
      replace hu := Rt.after hb hu
      replace B0 := step B0 hb
      clear hb
      obtain rfl : v = ((pw (M + 1) - 1 : Int) : Rat) := by
        have h5 := hpc.out ⟨by omega, by omega, Or.inr (by rw [used_nil]; omega), Or.inl (by rw [used_nil]; omega)⟩
        rw [h5, iv_f, HLa.out.1, show dn [] = 1 from rfl, divInt_int7]
      clear hpc
      go_wp2_with fail
      refine ent3 x5 _ _ _ _ _ _ (Q := fun W => Calls Tryz.prog _ _ W _) ?_
      intro x6 hb hs_x6 Xf Xq Vo
      replace Xr := Va.after hb Xr
      replace Xu := Va.after hb Xu
      replace gf := Ow.after hb gf
      replace gu := Ow.after hb gu
      replace hr := Rt.after hb hr
      replace hu := Rt.after hb hu
      replace hf := Rt.after hb hf
      replace hq := Rr.after hb hq
      replace B0 := step B0 hb
      clear hb hs_x6
      clear hq Xq
      have ho : Sl x6 (some ⟨x5.heap.size + 1 + 1, 0, none⟩) 1 [2] := sl_two7 Vo
      clear Vo
      refine (of7v false (some ⟨x5.heap.size + 1 + 1, 0, none⟩) 1 1 [2] none 0 0 [] x6 ho (sl_nil _) (by omega) (by omega)).mono ?_
      rintro e x7 ⟨sp, ap, lp, cp, zp, bp, mp, dp, yp, sq, aq, lq, cq, zq, bq, mq, dq, yq, v, rfl, hp, hq, hpc, hb⟩
      replace Xr := Va.after hb Xr
      replace Xu := Va.after hb Xu
      replace Xf := Va.after hb Xf
      replace gf := Ow.after hb gf
      replace gu := Ow.after hb gu
      replace hr := Rt.after hb hr
      replace hu := Rt.after hb hu
      replace hf := Rt.after hb hf
      replace ho := Sl.after hb ho
      replace B0 := step B0 hb
      clear hb
      obtain rfl : v = 2 := by
        have h5 := hpc.out ⟨by omega, by omega, Or.inr (by rw [used_nil]; omega), Or.inl (by rw [used_nil]; omega)⟩
        rw [h5]; decide +kernel
      clear hpc
      have c_Xr := Xr.d0
      have f0_Xr := Xr.frozen 0
      have d_Xr := Xr.d1
      have f1_Xr := Xr.frozen 1
      have e_Xr := Xr.d2
      have f2_Xr := Xr.frozen 2
      have l_Xr := Xr.lt
      have m_Xr := Nat.le_of_lt l_Xr
      have c_Xu := Xu.d0
      have f0_Xu := Xu.frozen 0
      have d_Xu := Xu.d1
      have f1_Xu := Xu.frozen 1
      have e_Xu := Xu.d2
      have f2_Xu := Xu.frozen 2
      have l_Xu := Xu.lt
      have m_Xu := Nat.le_of_lt l_Xu
      have p0_Xr := ((Xr.old (.cells #[.bool sp, .slice ap lp cp, .slice bp mp dp] 29)).old (.cells #[.bool sq, .slice aq lq cq, .slice bq mq dq] 31)).d0
      have q0_Xr := ((Xr.old (.cells #[.bool sp, .slice ap lp cp, .slice bp mp dp] 29)).old (.cells #[.bool sq, .slice aq lq cq, .slice bq mq dq] 31)).frozen 0
      have p1_Xr := ((Xr.old (.cells #[.bool sp, .slice ap lp cp, .slice bp mp dp] 29)).old (.cells #[.bool sq, .slice aq lq cq, .slice bq mq dq] 31)).d1
      have q1_Xr := ((Xr.old (.cells #[.bool sp, .slice ap lp cp, .slice bp mp dp] 29)).old (.cells #[.bool sq, .slice aq lq cq, .slice bq mq dq] 31)).frozen 1
      have p2_Xr := ((Xr.old (.cells #[.bool sp, .slice ap lp cp, .slice bp mp dp] 29)).old (.cells #[.bool sq, .slice aq lq cq, .slice bq mq dq] 31)).d2
      have q2_Xr := ((Xr.old (.cells #[.bool sp, .slice ap lp cp, .slice bp mp dp] 29)).old (.cells #[.bool sq, .slice aq lq cq, .slice bq mq dq] 31)).frozen 2
      have p0_Xu := ((Xu.old (.cells #[.bool sp, .slice ap lp cp, .slice bp mp dp] 29)).old (.cells #[.bool sq, .slice aq lq cq, .slice bq mq dq] 31)).d0
      have q0_Xu := ((Xu.old (.cells #[.bool sp, .slice ap lp cp, .slice bp mp dp] 29)).old (.cells #[.bool sq, .slice aq lq cq, .slice bq mq dq] 31)).frozen 0
      have p1_Xu := ((Xu.old (.cells #[.bool sp, .slice ap lp cp, .slice bp mp dp] 29)).old (.cells #[.bool sq, .slice aq lq cq, .slice bq mq dq] 31)).d1
      have q1_Xu := ((Xu.old (.cells #[.bool sp, .slice ap lp cp, .slice bp mp dp] 29)).old (.cells #[.bool sq, .slice aq lq cq, .slice bq mq dq] 31)).frozen 1
      have p2_Xu := ((Xu.old (.cells #[.bool sp, .slice ap lp cp, .slice bp mp dp] 29)).old (.cells #[.bool sq, .slice aq lq cq, .slice bq mq dq] 31)).d2
      have q2_Xu := ((Xu.old (.cells #[.bool sp, .slice ap lp cp, .slice bp mp dp] 29)).old (.cells #[.bool sq, .slice aq lq cq, .slice bq mq dq] 31)).frozen 2
      go_wp2_with fail
      refine ent2 x7 _ _ _ _ (Q := fun W => Calls Tryz.prog _ _ W _) ?_
      intro x8 hb hs_x8 Xp Xq
      replace Xr := Va.after hb Xr
      replace Xu := Va.after hb Xu
      replace Xf := Va.after hb Xf
      replace gf := Ow.after hb gf
      replace gu := Ow.after hb gu
      replace hr := Rt.after hb hr
      replace hu := Rt.after hb hu
      replace hf := Rt.after hb hf
      replace ho := Sl.after hb ho
      replace hp := Rt.after hb hp
      replace hq := Rr.after hb hq
      replace B0 := step B0 hb
      clear hb hs_x8
      clear hq Xq
      clear ho gf gu
      refine (units_ok 3 (by omega) (by omega) sr ar lr cr zr br mr dr yr (((FR M : Int) : Rat)) su au lu cu zu bu mu du yu (Rat.divInt 1 (FR M)) x8 hr hu (by show 0 < (Rat.divInt 1 (FR M)).num; rw [(over_parts (FR_pos M)).1]; omega)).mono ?_
      rintro e x9 ⟨e1, s1, a1, l1, c1, z1, b1, m1, d1, y1, v1, rfl, h1, hra, hb⟩
      replace Xr := Va.after hb Xr
      replace Xu := Va.after hb Xu
      replace Xf := Va.after hb Xf
      replace Xp := Va.after hb Xp
      replace hr := Rt.after hb hr
      replace hu := Rt.after hb hu
      replace hf := Rt.after hb hf
      replace hp := Rt.after hb hp
      replace B0 := step B0 hb
      clear hb
      obtain ⟨e8, e9⟩ : e1 = 0 ∧ v1 = ((FR M : Int) : Rat) := by
        have h5 := hra.out
        rw [uv_self (by rw [(over_parts (FR_pos M)).1]; omega) (over_units (FR_pos M))] at h5
        rcases h5 with ⟨-, e8, e9⟩ | ⟨h5, -⟩
        · exact ⟨e8, e9⟩
        · exact absurd hr.2.2.2.2 h5
      subst e8
      subst e9
      clear hra
      clear c_Xr f0_Xr d_Xr f1_Xr e_Xr f2_Xr l_Xr m_Xr c_Xu f0_Xu d_Xu f1_Xu e_Xu f2_Xu l_Xu m_Xu p0_Xr q0_Xr p1_Xr q1_Xr p2_Xr q2_Xr p0_Xu q0_Xu p1_Xu q1_Xu p2_Xu q2_Xu
      have c_Xf := Xf.d0
      have f0_Xf := Xf.frozen 0
      have d_Xf := Xf.d1
      have f1_Xf := Xf.frozen 1
      have e_Xf := Xf.d2
      have f2_Xf := Xf.frozen 2
      have l_Xf := Xf.lt
      have m_Xf := Nat.le_of_lt l_Xf
      have c_Xp := Xp.d0
      have f0_Xp := Xp.frozen 0
      have d_Xp := Xp.d1
      have f1_Xp := Xp.frozen 1
      have e_Xp := Xp.d2
      have f2_Xp := Xp.frozen 2
      have l_Xp := Xp.lt
      have m_Xp := Nat.le_of_lt l_Xp
      have p0_Xf := (Xf.old (.cells #[.bool s1, .slice a1 l1 c1, .slice b1 m1 d1] 29)).d0
      have q0_Xf := (Xf.old (.cells #[.bool s1, .slice a1 l1 c1, .slice b1 m1 d1] 29)).frozen 0
      have p1_Xf := (Xf.old (.cells #[.bool s1, .slice a1 l1 c1, .slice b1 m1 d1] 29)).d1
      have q1_Xf := (Xf.old (.cells #[.bool s1, .slice a1 l1 c1, .slice b1 m1 d1] 29)).frozen 1
      have p2_Xf := (Xf.old (.cells #[.bool s1, .slice a1 l1 c1, .slice b1 m1 d1] 29)).d2
      have q2_Xf := (Xf.old (.cells #[.bool s1, .slice a1 l1 c1, .slice b1 m1 d1] 29)).frozen 2
      have p0_Xp := (Xp.old (.cells #[.bool s1, .slice a1 l1 c1, .slice b1 m1 d1] 29)).d0
      have q0_Xp := (Xp.old (.cells #[.bool s1, .slice a1 l1 c1, .slice b1 m1 d1] 29)).frozen 0
      have p1_Xp := (Xp.old (.cells #[.bool s1, .slice a1 l1 c1, .slice b1 m1 d1] 29)).d1
      have q1_Xp := (Xp.old (.cells #[.bool s1, .slice a1 l1 c1, .slice b1 m1 d1] 29)).frozen 1
      have p2_Xp := (Xp.old (.cells #[.bool s1, .slice a1 l1 c1, .slice b1 m1 d1] 29)).d2
      have q2_Xp := (Xp.old (.cells #[.bool s1, .slice a1 l1 c1, .slice b1 m1 d1] 29)).frozen 2
      go_wp2_with fail
      refine ent1 x9 _ _ (Q := fun W => Calls Tryz.prog _ _ W _) ?_
      intro x10 hb hs_x10 X1
      replace Xr := Va.after hb Xr
      replace Xu := Va.after hb Xu
      replace Xf := Va.after hb Xf
      replace Xp := Va.after hb Xp
      replace hr := Rt.after hb hr
      replace hu := Rt.after hb hu
      replace hf := Rt.after hb hf
      replace hp := Rt.after hb hp
      replace h1 := Rt.after hb h1
      replace B0 := step B0 hb
      clear hb hs_x10
      refine (units_ok 3 (by omega) (by omega) sf af lf cf zf bf mf df yf (((pw (M + 1) - 1 : Int) : Rat)) sp ap lp cp zp bp mp dp yp 2 x10 hf hp (by show 0 < (2 : Rat).num; decide)).mono ?_
      rintro e x11 ⟨e2, s2, a2, l2, c2, z2, b2, m2, d2, y2, v2, rfl, h2, hra, hb⟩
      replace Xr := Va.after hb Xr
      replace Xu := Va.after hb Xu
      replace Xf := Va.after hb Xf
      replace Xp := Va.after hb Xp
      replace X1 := Va.after hb X1
      replace hr := Rt.after hb hr
      replace hu := Rt.after hb hu
      replace hf := Rt.after hb hf
      replace hp := Rt.after hb hp
      replace h1 := Rt.after hb h1
      replace B0 := step B0 hb
      clear hb
      obtain rfl : e2 = 3 := by
        have h5 := hra.out
        rw [full_up] at h5
        rcases h5 with ⟨h5, -⟩ | ⟨-, e8, -⟩
        · exfalso; rw [int_short_iff, show M + 1 = 1024 by have := HM.out; omega] at h5; have := pw_ge1 1024; omega
        · exact e8
      clear hra
      clear c_Xf f0_Xf d_Xf f1_Xf e_Xf f2_Xf l_Xf m_Xf c_Xp f0_Xp d_Xp f1_Xp e_Xp f2_Xp l_Xp m_Xp p0_Xf q0_Xf p1_Xf q1_Xf p2_Xf q2_Xf p0_Xp q0_Xp p1_Xp q1_Xp p2_Xp q2_Xp
      have c_Xf := Xf.d0
      have f0_Xf := Xf.frozen 0
      have d_Xf := Xf.d1
      have f1_Xf := Xf.frozen 1
      have e_Xf := Xf.d2
      have f2_Xf := Xf.frozen 2
      have l_Xf := Xf.lt
      have m_Xf := Nat.le_of_lt l_Xf
      have c_Xp := Xp.d0
      have f0_Xp := Xp.frozen 0
      have d_Xp := Xp.d1
      have f1_Xp := Xp.frozen 1
      have e_Xp := Xp.d2
      have f2_Xp := Xp.frozen 2
      have l_Xp := Xp.lt
      have m_Xp := Nat.le_of_lt l_Xp
      have p0_Xf := (Xf.old (.cells #[.bool s2, .slice a2 l2 c2, .slice b2 m2 d2] 29)).d0
      have q0_Xf := (Xf.old (.cells #[.bool s2, .slice a2 l2 c2, .slice b2 m2 d2] 29)).frozen 0
      have p1_Xf := (Xf.old (.cells #[.bool s2, .slice a2 l2 c2, .slice b2 m2 d2] 29)).d1
      have q1_Xf := (Xf.old (.cells #[.bool s2, .slice a2 l2 c2, .slice b2 m2 d2] 29)).frozen 1
      have p2_Xf := (Xf.old (.cells #[.bool s2, .slice a2 l2 c2, .slice b2 m2 d2] 29)).d2
      have q2_Xf := (Xf.old (.cells #[.bool s2, .slice a2 l2 c2, .slice b2 m2 d2] 29)).frozen 2
      have p0_Xp := (Xp.old (.cells #[.bool s2, .slice a2 l2 c2, .slice b2 m2 d2] 29)).d0
      have q0_Xp := (Xp.old (.cells #[.bool s2, .slice a2 l2 c2, .slice b2 m2 d2] 29)).frozen 0
      have p1_Xp := (Xp.old (.cells #[.bool s2, .slice a2 l2 c2, .slice b2 m2 d2] 29)).d1
      have q1_Xp := (Xp.old (.cells #[.bool s2, .slice a2 l2 c2, .slice b2 m2 d2] 29)).frozen 1
      have p2_Xp := (Xp.old (.cells #[.bool s2, .slice a2 l2 c2, .slice b2 m2 d2] 29)).d2
      have q2_Xp := (Xp.old (.cells #[.bool s2, .slice a2 l2 c2, .slice b2 m2 d2] 29)).frozen 2
      go_wp2_with fail
      refine ent1 x11 _ _ (Q := fun W => Calls Tryz.prog _ _ W _) ?_
      intro x12 hb hs_x12 X2
      replace Xr := Va.after hb Xr
      replace Xu := Va.after hb Xu
      replace Xf := Va.after hb Xf
      replace Xp := Va.after hb Xp
      replace X1 := Va.after hb X1
      replace hr := Rt.after hb hr
      replace hu := Rt.after hb hu
      replace hf := Rt.after hb hf
      replace hp := Rt.after hb hp
      replace h1 := Rt.after hb h1
      replace h2 := Rt.after hb h2
      replace B0 := step B0 hb
      clear hb hs_x12
      clear X2 h2
      refine (units_ok 4 (by omega) (by omega) sf af lf cf zf bf mf df yf (((pw (M + 1) - 1 : Int) : Rat)) sp ap lp cp zp bp mp dp yp 2 x12 hf hp (by show 0 < (2 : Rat).num; decide)).mono ?_
      rintro e x13 ⟨e3, s3, a3, l3, c3, z3, b3, m3, d3, y3, v3, rfl, h3, hra, hb⟩
      replace Xr := Va.after hb Xr
      replace Xu := Va.after hb Xu
      replace Xf := Va.after hb Xf
      replace Xp := Va.after hb Xp
      replace X1 := Va.after hb X1
      replace hr := Rt.after hb hr
      replace hu := Rt.after hb hu
      replace hf := Rt.after hb hf
      replace hp := Rt.after hb hp
      replace h1 := Rt.after hb h1
      replace B0 := step B0 hb
      clear hb
      obtain rfl : e3 = 0 := by
        have h5 := hra.out
        rw [full_down] at h5
        rcases h5 with ⟨-, e8, -⟩ | ⟨h5, -⟩
        · exact e8
        · exfalso; apply h5; rw [int_short_iff, show M + 1 = 1024 by have := HM.out; omega]; have h6 : (18446744073709551616 : Int) ≤ pw 1024 := pw_mono (m := 1) (by omega); omega
      clear hra
      clear c_Xf f0_Xf d_Xf f1_Xf e_Xf f2_Xf l_Xf m_Xf c_Xp f0_Xp d_Xp f1_Xp e_Xp f2_Xp l_Xp m_Xp p0_Xf q0_Xf p1_Xf q1_Xf p2_Xf q2_Xf p0_Xp q0_Xp p1_Xp q1_Xp p2_Xp q2_Xp
      have c_Xf := Xf.d0
      have f0_Xf := Xf.frozen 0
      have d_Xf := Xf.d1
      have f1_Xf := Xf.frozen 1
      have e_Xf := Xf.d2
      have f2_Xf := Xf.frozen 2
      have l_Xf := Xf.lt
      have m_Xf := Nat.le_of_lt l_Xf
      have p0_Xf := (Xf.old (.cells #[.bool s3, .slice a3 l3 c3, .slice b3 m3 d3] 29)).d0
      have q0_Xf := (Xf.old (.cells #[.bool s3, .slice a3 l3 c3, .slice b3 m3 d3] 29)).frozen 0
      have p1_Xf := (Xf.old (.cells #[.bool s3, .slice a3 l3 c3, .slice b3 m3 d3] 29)).d1
      have q1_Xf := (Xf.old (.cells #[.bool s3, .slice a3 l3 c3, .slice b3 m3 d3] 29)).frozen 1
      have p2_Xf := (Xf.old (.cells #[.bool s3, .slice a3 l3 c3, .slice b3 m3 d3] 29)).d2
      have q2_Xf := (Xf.old (.cells #[.bool s3, .slice a3 l3 c3, .slice b3 m3 d3] 29)).frozen 2
      go_wp2_with fail
      refine ent1 x13 _ _ (Q := fun W => Calls Tryz.prog _ _ W _) ?_
      intro x14 hb hs_x14 X3
      replace Xr := Va.after hb Xr
      replace Xu := Va.after hb Xu
      replace Xf := Va.after hb Xf
      replace Xp := Va.after hb Xp
      replace X1 := Va.after hb X1
      replace hr := Rt.after hb hr
      replace hu := Rt.after hb hu
      replace hf := Rt.after hb hf
      replace hp := Rt.after hb hp
      replace h1 := Rt.after hb h1
      replace h3 := Rt.after hb h3
      replace B0 := step B0 hb
      clear hb hs_x14
      clear X3 h3
      refine (int64_ok 4 (by omega) (by omega) sf af lf cf zf bf mf df yf (((pw (M + 1) - 1 : Int) : Rat)) x14 hf).mono ?_
      rintro e x15 ⟨rfl, hb⟩
      replace Xr := Va.after hb Xr
      replace Xu := Va.after hb Xu
      replace Xf := Va.after hb Xf
      replace Xp := Va.after hb Xp
      replace X1 := Va.after hb X1
      replace hr := Rt.after hb hr
      replace hu := Rt.after hb hu
      replace hf := Rt.after hb hf
      replace hp := Rt.after hb hp
      replace h1 := Rt.after hb h1
      replace B0 := step B0 hb
      clear hb
      rw [big_i64e M]
      clear c_Xf f0_Xf d_Xf f1_Xf e_Xf f2_Xf l_Xf m_Xf p0_Xf q0_Xf p1_Xf q1_Xf p2_Xf q2_Xf
      have c_Xf := Xf.d0
      have f0_Xf := Xf.frozen 0
      have d_Xf := Xf.d1
      have f1_Xf := Xf.frozen 1
      have e_Xf := Xf.d2
      have f2_Xf := Xf.frozen 2
      have l_Xf := Xf.lt
      have m_Xf := Nat.le_of_lt l_Xf
      go_wp2_with fail
      refine (places_bad 3 10 (by omega) sf af lf cf bf mf df x15).mono ?_
      rintro e x16 ⟨rfl, hb⟩
      replace Xr := Va.after hb Xr
      replace Xu := Va.after hb Xu
      replace Xf := Va.after hb Xf
      replace Xp := Va.after hb Xp
      replace X1 := Va.after hb X1
      replace hr := Rt.after hb hr
      replace hu := Rt.after hb hu
      replace hf := Rt.after hb hf
      replace hp := Rt.after hb hp
      replace h1 := Rt.after hb h1
      replace B0 := step B0 hb
      clear hb
      clear c_Xf f0_Xf d_Xf f1_Xf e_Xf f2_Xf l_Xf m_Xf
      have c_X1 := X1.d0
      have f0_X1 := X1.frozen 0
      have d_X1 := X1.d1
      have f1_X1 := X1.frozen 1
      have e_X1 := X1.d2
      have f2_X1 := X1.frozen 2
      have l_X1 := X1.lt
      have m_X1 := Nat.le_of_lt l_X1
      have c_Xr := Xr.d0
      have f0_Xr := Xr.frozen 0
      have d_Xr := Xr.d1
      have f1_Xr := Xr.frozen 1
      have e_Xr := Xr.d2
      have f2_Xr := Xr.frozen 2
      have l_Xr := Xr.lt
      have m_Xr := Nat.le_of_lt l_Xr
      have p0_X1 := (X1.old (.cells #[.bool false, .slice none 0 0, .slice none 0 0] 29)).d0
      have q0_X1 := (X1.old (.cells #[.bool false, .slice none 0 0, .slice none 0 0] 29)).frozen 0
      have p1_X1 := (X1.old (.cells #[.bool false, .slice none 0 0, .slice none 0 0] 29)).d1
      have q1_X1 := (X1.old (.cells #[.bool false, .slice none 0 0, .slice none 0 0] 29)).frozen 1
      have p2_X1 := (X1.old (.cells #[.bool false, .slice none 0 0, .slice none 0 0] 29)).d2
      have q2_X1 := (X1.old (.cells #[.bool false, .slice none 0 0, .slice none 0 0] 29)).frozen 2
      have p0_Xr := (Xr.old (.cells #[.bool false, .slice none 0 0, .slice none 0 0] 29)).d0
      have q0_Xr := (Xr.old (.cells #[.bool false, .slice none 0 0, .slice none 0 0] 29)).frozen 0
      have p1_Xr := (Xr.old (.cells #[.bool false, .slice none 0 0, .slice none 0 0] 29)).d1
      have q1_Xr := (Xr.old (.cells #[.bool false, .slice none 0 0, .slice none 0 0] 29)).frozen 1
      have p2_Xr := (Xr.old (.cells #[.bool false, .slice none 0 0, .slice none 0 0] 29)).d2
      have q2_Xr := (Xr.old (.cells #[.bool false, .slice none 0 0, .slice none 0 0] 29)).frozen 2
      go_wp2_with fail
      refine ent1 x16 _ _ (Q := fun W => Calls Tryz.prog _ _ W _) ?_
      intro x17 hb hs_x17 X4
      replace Xr := Va.after hb Xr
      replace Xu := Va.after hb Xu
      replace Xf := Va.after hb Xf
      replace Xp := Va.after hb Xp
      replace X1 := Va.after hb X1
      replace hr := Rt.after hb hr
      replace hu := Rt.after hb hu
      replace hf := Rt.after hb hf
      replace hp := Rt.after hb hp
      replace h1 := Rt.after hb h1
      replace B0 := step B0 hb
      clear hb hs_x17
      clear X4
      refine (qcompare_any s1 a1 l1 c1 z1 b1 m1 d1 y1 (((FR M : Int) : Rat)) sr ar lr cr zr br mr dr yr (((FR M : Int) : Rat)) x17 h1 hr).mono ?_
      rintro e x18 ⟨rfl, hb⟩
      replace Xr := Va.after hb Xr
      replace Xu := Va.after hb Xu
      replace Xf := Va.after hb Xf
      replace Xp := Va.after hb Xp
      replace X1 := Va.after hb X1
      replace hr := Rt.after hb hr
      replace hu := Rt.after hb hu
      replace hf := Rt.after hb hf
      replace hp := Rt.after hb hp
      replace h1 := Rt.after hb h1
      replace B0 := step B0 hb
      clear hb
      rw [qcmp_eq]
      clear c_X1 f0_X1 d_X1 f1_X1 e_X1 f2_X1 l_X1 m_X1 c_Xr f0_Xr d_Xr f1_Xr e_Xr f2_Xr l_Xr m_Xr p0_X1 q0_X1 p1_X1 q1_X1 p2_X1 q2_X1 p0_Xr q0_Xr p1_Xr q1_Xr p2_Xr q2_Xr
      go_wp2_with fail
      go_ret
      exact ⟨rfl, B0⟩
end Go.Proofs.YtjaigmgbeganhaaGreat
namespace Go.Proofs.YtjaigmgbeganhaaGreat.roundNumbers
open Go.ChangeShapes Go.WideShapes Go.ChangeAt Go.RowKit
set_option linter.unusedVariables false

theorem own : ownKnob Tryz.prog.godebug = none := by kernel_rfl
theorem laidOut : laidOutB Tryz.prog = true := by kernel_rfl
theorem bytes8 : Tryz.prog.bytesOf 23 = 8 := by kernel_rfl

set_option maxRecDepth 100000 in
theorem contract (H : Type) (enc : TypeId × Value → H) (W : World) (base : Nat) (args : Array Value) (ds gs : List (DataW H)) (before : List MemPlace)
    (hval : ∀ (j : Nat) t v, Tryz.f3.params[j]? = some t → args[j]? = some v → Value.okWide Tryz.prog W .any base t v)
    (hW : DataW.Whole enc Tryz.prog Tryz.f3.params.toList Rows.roundNumbersSpec.vars false W args.toList ds gs before) (hsz : (DataW.weightsEach Tryz.prog (Tryz.f3.params.toList ++ Rows.roundNumbersSpec.plain.varTypes Tryz.prog) (ds ++ gs)).all (· ≤ reachBytes) = true) :
    Calls Tryz.prog 3 args W fun e W' => ∃ v, e = .returned v ∧ Rows.roundNumbersSpec.post enc Tryz.prog Tryz.f3 false true false false W args v W' := by
  have hW' := hW
  obtain ⟨p, q, hA0, hV, rfl, hfz, hnd⟩ := hW
  have hA : DataW.TrodAll enc Tryz.prog W 0 (fun _ => true) true Tryz.f3.params.toList args.toList ds p := hA0
  rw [Tryz.params3] at hA hval hsz
  obtain ⟨hargs, rfl, rfl⟩ := trodAll_none hA
  obtain rfl : args = #[] := by cases args; simp_all
  obtain ⟨rfl, rfl⟩ := trodVars_none hV
  clear hA0
  refine (numbers_walk W).mono fun e W' ⟨he, bel⟩ => ?_
  subst he
  exact ⟨_, rfl, _, _, _, [], _, [], hW', trodAll_mk1 (shut_bool Tryz.underlying4 _), rfl, rfl, bel.frame _, fun h => by cases h⟩

set_option maxRecDepth 100000 in
theorem lifted (os : Os) (started : os.Started) (H : Type) (enc : TypeId × Value → H) :
    ReturnsInHanded {} Tryz.checked os 3 .any (Rows.roundNumbersSpec.pre6 enc Tryz.prog Tryz.f3 Rows.roundNumbersRow.domain false) (Rows.roundNumbersSpec.post enc Tryz.prog Tryz.f3 false true false false) := by
  refine returnsInHanded_of_change_sized (C := Tryz.checked) own started (by kernel_rfl) Tryz.func3
    (ChangeSpec.witness6 (enc := enc) (C := Tryz.checked) false ⟨#[], #[], []⟩ 8 (by kernel_rfl) (by kernel_rfl) (by kernel_rfl) (by kernel_rfl)) ?_
  intro W base args ds gs before hval0 hW _ hsz0 _
  exact contract H enc W base args ds gs before hval0 hW hsz0

theorem over : Rows.roundNumbersRow.holds Tryz.pinned (OpenSpec.ofChange Rows.roundNumbersSpec) :=
  OpenClaim.holds_of_wide 3 Tryz.f3 rfl rfl rfl rfl rfl rfl rfl ⟨rfl, rfl, rfl, rfl, rfl⟩ rfl rfl rfl rfl rfl (by kernel_rfl) Tryz.func3 (by kernel_rfl)
    (of_decide_eq_true (by kernel_rfl)) (by unfold Func.isWrapper; first | (rw [if_pos (by decide +kernel)]; kernel_rfl) | (rw [if_neg (by decide +kernel)]; exact ⟨rfl, rfl⟩))
    (fun os started H enc _ => lifted os started H enc)
end Go.Proofs.YtjaigmgbeganhaaGreat.roundNumbers
namespace Go.Proofs.YtjaigmgbeganhaaGreat
theorem roundNumbers_holds : Rows.RoundNumbersSaid := roundNumbers.over
#print axioms roundNumbers_holds
end Go.Proofs.YtjaigmgbeganhaaGreat
