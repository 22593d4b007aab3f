/-
  Put together of: DivPlain, DivCore, Div, Lists3.
-/
import Init.Omega
import Derived.Lib.BitFns
import Derived.Test.YtblafbbnplfpjaaGreatDoorBsA
import Derived.BigQuiet
import Derived.Deep.QuietTactic
import Derived.Deep.DeepCutAuto
import Derived.Below
import Derived.Deep.CutBlock
import Derived.Test.YtblafbbnplfpjaaGreatDoorMgAa
import Derived.Deep.RegionLaw
import Derived.Deep.AppendLies
namespace Go.Proofs.YtblafbbnplfpjaaGreatDoor

/-- What holds of the guess a and what it leaves, b: the place is Q. -/
def DInv (yn1 u Q a b : Int) : Prop := 0 ≤ a ∧ a ≤ 4294967297 ∧ 0 ≤ b ∧ b < 4294967296 ∧ a * yn1 + b = u ∧ Q ≤ a ∧ 0 ≤ Q

/-- The divisor, cut in two, and what is divided. -/
def DSet (Y yn1 yn0 u u1 Q : Int) : Prop :=
  Y = yn1 * 4294967296 + yn0 ∧ 2147483648 ≤ yn1 ∧ yn1 < 4294967296 ∧ 0 ≤ yn0 ∧ yn0 < 4294967296 ∧ 0 ≤ u1 ∧ u1 < 4294967296 ∧ 0 ≤ u ∧ u < Y ∧ Q = (u * 4294967296 + u1) / Y

theorem dset_q {Y yn1 yn0 u u1 Q : Int} (S : DSet Y yn1 yn0 u u1 Q) : 0 ≤ Q ∧ Q < 4294967296 := by
  obtain ⟨e, c1, c2, c3, c4, c5, c6, c7, c8, hq⟩ := S
  subst hq
  refine ⟨Int.ediv_nonneg (by omega) (by omega), Int.ediv_lt_of_lt_mul (by omega) ?_⟩
  omega

theorem dset_lt {Y yn1 yn0 u u1 Q a b : Int} (S : DSet Y yn1 yn0 u u1 Q) (I : a * yn1 + b = u) (h : 4294967296 * b + u1 < a * yn0) : Q < a := by
  obtain ⟨e, c1, c2, c3, c4, c5, c6, c7, c8, hq⟩ := S
  subst hq
  refine Int.ediv_lt_of_lt_mul (by omega) ?_
  have : a * Y = a * yn1 * 4294967296 + a * yn0 := by rw [e, Int.mul_add, Int.mul_assoc]
  rw [this]
  generalize a * yn1 = p at *
  generalize a * yn0 = t at *
  omega

theorem dset_ge {Y yn1 yn0 u u1 Q a b : Int} (S : DSet Y yn1 yn0 u u1 Q) (I : a * yn1 + b = u) (h : a * yn0 ≤ 4294967296 * b + u1) : a ≤ Q := by
  obtain ⟨e, c1, c2, c3, c4, c5, c6, c7, c8, hq⟩ := S
  subst hq
  refine Int.le_ediv_of_mul_le (by omega) ?_
  have : a * Y = a * yn1 * 4294967296 + a * yn0 := by rw [e, Int.mul_add, Int.mul_assoc]
  rw [this]
  generalize a * yn1 = p at *
  generalize a * yn0 = t at *
  omega

theorem dinv_start {Y yn1 yn0 u u1 Q : Int} (S : DSet Y yn1 yn0 u u1 Q) : DInv yn1 u Q (u / yn1) (u - u / yn1 * yn1) := by
  obtain ⟨q0, q1⟩ := dset_q S
  have S' := S
  obtain ⟨e, c1, c2, c3, c4, c5, c6, c7, c8, hq⟩ := S
  have hm := Int.emod_nonneg u (b := yn1) (by omega)
  have hl := Int.emod_lt_of_pos u (b := yn1) (by omega)
  have he := Int.mul_ediv_add_emod u yn1
  have hc : u / yn1 * yn1 = yn1 * (u / yn1) := Int.mul_comm _ _
  have hle : u / yn1 ≤ 4294967297 := by
    have : u / yn1 < 4294967298 := Int.ediv_lt_of_lt_mul (by omega) (by omega)
    omega
  have h0 : 0 ≤ u / yn1 := Int.ediv_nonneg c7 (by omega)
  refine ⟨h0, hle, by omega, by omega, by omega, ?_, q0⟩
  rcases Int.lt_or_le (u / yn1) Q with h | h
  · exfalso
    -- the next one up is too great already without the lower half
    have h1 : Q * yn1 > u := by
      have : (u / yn1 + 1) * yn1 ≤ Q * yn1 := Int.mul_le_mul_of_nonneg_right (by omega) (by omega)
      rw [Int.add_mul, Int.one_mul] at this
      omega
    have h2 : Q * Y ≤ u * 4294967296 + u1 := by
      have := Int.ediv_mul_le (u * 4294967296 + u1) (b := Y) (by omega)
      rw [← hq] at this; exact this
    have h3 : Q * Y = Q * yn1 * 4294967296 + Q * yn0 := by rw [e, Int.mul_add, Int.mul_assoc]
    have h4 : 0 ≤ Q * yn0 := Int.mul_nonneg q0 c3
    rw [h3] at h2
    generalize Q * yn1 = p at *
    generalize Q * yn0 = t at *
    omega
  · exact h

theorem dinv_low {Y yn1 yn0 u u1 Q a b : Int} (S : DSet Y yn1 yn0 u u1 Q) (I : DInv yn1 u Q a b) (h : 4294967296 ≤ a ∨ 4294967296 * b + u1 < a * yn0) : Q < a := by
  obtain ⟨q0, q1⟩ := dset_q S
  rcases h with h | h
  · omega
  · exact dset_lt S I.2.2.2.2.1 h

theorem dinv_step {Y yn1 yn0 u u1 Q a b : Int} (S : DSet Y yn1 yn0 u u1 Q) (I : DInv yn1 u Q a b) (h : 4294967296 ≤ a ∨ 4294967296 * b + u1 < a * yn0) (hb : b + yn1 < 4294967296) :
    DInv yn1 u Q (a - 1) (b + yn1) := by
  have hl := dinv_low S I h
  obtain ⟨i1, i2, i3, i4, i5, i6, i7⟩ := I
  obtain ⟨e, c1, c2, c3, c4, c5, c6, c7, c8, hq⟩ := S
  refine ⟨by omega, by omega, by omega, hb, ?_, by omega, i7⟩
  rw [Int.sub_mul, Int.one_mul]
  omega

theorem dinv_break {Y yn1 yn0 u u1 Q a b : Int} (S : DSet Y yn1 yn0 u u1 Q) (I : DInv yn1 u Q a b) (h : 4294967296 ≤ a ∨ 4294967296 * b + u1 < a * yn0) (hb : 4294967296 ≤ b + yn1) :
    a - 1 = Q := by
  have hl := dinv_low S I h
  obtain ⟨i1, i2, i3, i4, i5, i6, i7⟩ := I
  have hge : a - 1 ≤ Q := by
    refine dset_ge S (b := b + yn1) (by rw [Int.sub_mul, Int.one_mul]; omega) ?_
    obtain ⟨e, c1, c2, c3, c4, c5, c6, c7, c8, hq⟩ := S
    have : (a - 1) * yn0 ≤ 4294967296 * yn0 := Int.mul_le_mul_of_nonneg_right (by omega) c3
    omega
  omega

theorem dinv_done {Y yn1 yn0 u u1 Q a b : Int} (S : DSet Y yn1 yn0 u u1 Q) (I : DInv yn1 u Q a b) (h : a * yn0 ≤ 4294967296 * b + u1) : a = Q := by
  have h1 := dset_ge S I.2.2.2.2.1 h
  have h2 := I.2.2.2.2.2.1
  omega

theorem half_mul {a b : Int} (h0 : 0 ≤ a) (h1 : a < 4294967296) (h2 : 0 ≤ b) (h3 : b < 4294967296) : 0 ≤ a * b ∧ a * b < 18446744073709551616 := by
  refine ⟨Int.mul_nonneg h0 h2, ?_⟩
  have : a * b ≤ 4294967295 * b := Int.mul_le_mul_of_nonneg_right (by omega) h2
  omega

/-- What is left behind a place, as words wrap it. -/
theorem dset_rest {Y yn1 yn0 u u1 Q : Int} (S : DSet Y yn1 yn0 u u1 Q) :
    (((u * 4294967296) % 18446744073709551616 + u1) % 18446744073709551616 - (Q * Y) % 18446744073709551616) % 18446744073709551616 = (u * 4294967296 + u1) % Y := by
  obtain ⟨e, c1, c2, c3, c4, c5, c6, c7, c8, hq⟩ := S
  have hm := Int.emod_nonneg (u * 4294967296 + u1) (b := Y) (by omega)
  have hl := Int.emod_lt_of_pos (u * 4294967296 + u1) (b := Y) (by omega)
  have he := Int.mul_ediv_add_emod (u * 4294967296 + u1) Y
  rw [← hq, Int.mul_comm] at he
  generalize Q * Y = p at *
  generalize (u * 4294967296 + u1) % Y = r at *
  omega
end Go.Proofs.YtblafbbnplfpjaaGreatDoor

namespace Go.Proofs.YtblafbbnplfpjaaGreatDoor
open Go.RowKit Go.Shelf
set_option maxHeartbeats 1000000 in
theorem div64_core (hi lo y : Int) (h1 : Word hi) (h2 : Word lo) (h3 : Word y) (hlt : hi < y) (w : World) (h0 : ¬ hi = 0)
    (s : Nat) (hs : s ≤ 63) (hlz : 64 - (Lib.bitLen y.toNat : Int) = (s : Int)) (Y yn1 yn0 un32 un10 un1 un0 Q1 : Int)
    (eY : IntKind.u64.wrap (y * 2 ^ s) = Y) (eyn1 : Y / 4294967296 = yn1) (eyn0 : bits .and .u64 Y 4294967295 = yn0)
    (eun32 : bits .or .u64 (IntKind.u64.wrap (hi * 2 ^ s)) (lo / 2 ^ (64 - s)) = un32) (eun10 : IntKind.u64.wrap (lo * 2 ^ s) = un10)
    (eun1 : un10 / 4294967296 = un1) (eun0 : bits .and .u64 un10 4294967295 = un0)
    (S1 : DSet Y yn1 yn0 un32 un1 Q1) (un21 Q0 : Int) (S0 : DSet Y yn1 yn0 un21 un0 Q0) (eun21 : un21 = (un32 * 4294967296 + un1) % Y) (q' r' : Int) (eq : Q1 * 4294967296 + Q0 = q') (er : IntKind.u64.wrap (IntKind.u64.wrap (IntKind.u64.wrap (un21 * 4294967296) + un0) - IntKind.u64.wrap (Q0 * Y)) / 2 ^ s = r')
    (b1 : 2147483648 ≤ yn1) (b1' : yn1 < 4294967296) (b2 : 0 ≤ yn0) (b2' : yn0 < 4294967296) (b3 : 0 ≤ un1) (b3' : un1 < 4294967296) (b4 : 0 ≤ un0) (b4' : un0 < 4294967296) (b5 : 0 ≤ un32) (b5' : un32 < 18446744073709551616) :
    Calls Tryz.prog 198 #[.int .u64 hi, .int .u64 lo, .int .u64 y] w fun e w' =>
      e = .returned (.tuple #[.int .u64 q', .int .u64 r']) ∧ w' = w := by
  obtain ⟨a1, a2⟩ := h1; obtain ⟨c1, c2⟩ := h2; obtain ⟨d1, d2⟩ := h3
  have g1 : (y == 0) = false := by simp; omega
  have g2 : (hi == 0) = false := by simp [h0]
  have g3 : ¬ y ≤ hi := by omega
  have m1 : min s 64 = s := by omega
  have m2 : min (64 - s) 64 = 64 - s := by omega
  have m3 : ((64 : Int) - s).toNat = 64 - s := by omega
  have I0 := dinv_start S1
  have eq0 : IntKind.u64.wrap (un32 / yn1 * yn1) = un32 / yn1 * yn1 := by
    have := I0.2.2.2.2.1
    have := I0.2.2.1
    have := I0.1
    have : 0 ≤ un32 / yn1 * yn1 := Int.mul_nonneg (by omega) (by omega)
    rw [IntKind.wrap_u64]; omega
  have er0 : IntKind.u64.wrap (un32 - un32 / yn1 * yn1) = un32 - un32 / yn1 * yn1 := by
    have := I0.2.2.1
    have := I0.2.2.2.1
    rw [IntKind.wrap_u64]; omega
  have J0 := dinv_start S0
  obtain ⟨r1, r2⟩ := dset_q S1
  obtain ⟨r3, r4⟩ := dset_q S0
  have p21 : 0 ≤ un21 := S0.2.2.2.2.2.2.2.1
  have p22 : un21 < Y := S0.2.2.2.2.2.2.2.2.1
  have eY' := S1.1
  have fq0 : IntKind.u64.wrap (un21 / yn1 * yn1) = un21 / yn1 * yn1 := by
    have := J0.2.2.2.2.1
    have := J0.2.2.1
    have := J0.1
    have : 0 ≤ un21 / yn1 * yn1 := Int.mul_nonneg (by omega) (by omega)
    rw [IntKind.wrap_u64]; omega
  have fr0 : IntKind.u64.wrap (un21 - un21 / yn1 * yn1) = un21 - un21 / yn1 * yn1 := by
    have := J0.2.2.1
    have := J0.2.2.2.1
    rw [IntKind.wrap_u64]; omega
  have e21 : IntKind.u64.wrap (IntKind.u64.wrap (IntKind.u64.wrap (un32 * 4294967296) + un1) - IntKind.u64.wrap (Q1 * Y)) = un21 := by
    rw [IntKind.wrap_u64, IntKind.wrap_u64, IntKind.wrap_u64, IntKind.wrap_u64, dset_rest S1, eun21]
  have p23 : un21 < 18446744073709551616 := by omega
  clear eun21 eY' p22
  have SH : Hid (DSet Y yn1 yn0 un32 un1 Q1) := S1
  have IH : Hid (DInv yn1 un32 Q1 (un32 / yn1) (un32 - un32 / yn1 * yn1)) := I0
  have SG : Hid (DSet Y yn1 yn0 un21 un0 Q0) := S0
  have IG : Hid (DInv yn1 un21 Q0 (un21 / yn1) (un21 - un21 / yn1 * yn1)) := J0
  clear S1 I0 S0 J0
  go_enter Tryz.func198, Tryz.ntmps198
  go_wp2_with fail
  refine (Tryz.bits_LeadingZeros64 y _ (by omega) (by omega)).mono ?_
  rintro e w' ⟨rfl, rfl⟩
  rw [hlz]
  go_upto_block 0 with fail
  go_cut [15] (fun q wx => q = .int .u64 Q1 ∧ wx = w')
  case first =>
    go_wp2_with fail
    go_loop [15, 16] (fun q r => ∃ a b : Int, q = .int .u64 a ∧ r = .int .u64 b ∧ Hid (DInv yn1 un32 Q1 a b)) (fun q _ => (intOf q).toNat)
    case atStart => exact ⟨_, _, rfl, rfl, IH⟩
    case round =>
      obtain ⟨a, b, rfl, rfl, hI⟩ := hrel
      obtain ⟨i1, i2, i3, i4, -, -, -⟩ := hI.out
      by_cases t1 : 4294967296 ≤ a
      · by_cases t2 : 4294967296 ≤ b + yn1
        · have hz := dinv_break SH.out hI.out (.inl t1) t2
          have HZ : Hid (a - 1 = Q1) := hz
          clear hz
          go_wp2_with fail
          go_meet
          exact ⟨by rw [HZ.out], rfl⟩
        · have hz := dinv_step SH.out hI.out (.inl t1) (by omega)
          have HZ : Hid (DInv yn1 un32 Q1 (a - 1) (b + yn1)) := hz
          clear hz
          go_wp2_with fail
          go_round
          case rel => exact ⟨_, _, rfl, rfl, HZ⟩
          case measure => simp [intOf]; omega
      · obtain ⟨t3, t4⟩ := half_mul i1 (by omega) b2 b2'
        by_cases t5 : 4294967296 * b + un1 < a * yn0
        · by_cases t2 : 4294967296 ≤ b + yn1
          · have hz := dinv_break SH.out hI.out (.inr t5) t2
            have hp := dinv_low SH.out hI.out (.inr t5)
            have hq := hI.out.2.2.2.2.2.2
            have HZ : Hid (a - 1 = Q1) := hz
            clear hz
            have e1 : IntKind.u64.wrap (a * yn0) = a * yn0 := by rw [IntKind.wrap_u64]; omega
            go_wp2_with fail
            go_meet
            exact ⟨by rw [HZ.out], rfl⟩
          · have hz := dinv_step SH.out hI.out (.inr t5) (by omega)
            have hp := dinv_low SH.out hI.out (.inr t5)
            have hq := hI.out.2.2.2.2.2.2
            have HZ : Hid (DInv yn1 un32 Q1 (a - 1) (b + yn1)) := hz
            clear hz
            have e1 : IntKind.u64.wrap (a * yn0) = a * yn0 := by rw [IntKind.wrap_u64]; omega
            go_wp2_with fail
            go_round
            case rel => exact ⟨_, _, rfl, rfl, HZ⟩
            case measure => simp [intOf]; omega
        · have hz := dinv_done SH.out hI.out (by omega)
          have HZ : Hid (a = Q1) := hz
          clear hz
          have e1 : IntKind.u64.wrap (a * yn0) = a * yn0 := by rw [IntKind.wrap_u64]; omega
          go_wp2_with fail
          go_meet
          exact ⟨by rw [HZ.out], rfl⟩
  case rest =>
    obtain ⟨rfl, rfl⟩ := hcut
    go_upto_block 2 with fail
    go_cut [18] (fun q wx => q = .int .u64 Q0 ∧ wx = wc)
    case first =>
      go_wp2_with fail
      go_loop [18, 16] (fun q r => ∃ a b : Int, q = .int .u64 a ∧ r = .int .u64 b ∧ Hid (DInv yn1 un21 Q0 a b)) (fun q _ => (intOf q).toNat)
      case atStart => exact ⟨_, _, rfl, rfl, IG⟩
      case round =>
        obtain ⟨a, b, rfl, rfl, hI⟩ := hrel
        obtain ⟨i1, i2, i3, i4, -, -, -⟩ := hI.out
        by_cases t1 : 4294967296 ≤ a
        · by_cases t2 : 4294967296 ≤ b + yn1
          · have hz := dinv_break SG.out hI.out (.inl t1) t2
            have HZ : Hid (a - 1 = Q0) := hz
            clear hz
            go_wp2_with fail
            go_meet
            exact ⟨by rw [HZ.out], rfl⟩
          · have hz := dinv_step SG.out hI.out (.inl t1) (by omega)
            have HZ : Hid (DInv yn1 un21 Q0 (a - 1) (b + yn1)) := hz
            clear hz
            go_wp2_with fail
            go_round
            case rel => exact ⟨_, _, rfl, rfl, HZ⟩
            case measure => simp [intOf]; omega
        · obtain ⟨t3, t4⟩ := half_mul i1 (by omega) b2 b2'
          by_cases t5 : 4294967296 * b + un0 < a * yn0
          · by_cases t2 : 4294967296 ≤ b + yn1
            · have hz := dinv_break SG.out hI.out (.inr t5) t2
              have hp := dinv_low SG.out hI.out (.inr t5)
              have hq := hI.out.2.2.2.2.2.2
              have HZ : Hid (a - 1 = Q0) := hz
              clear hz
              have e1 : IntKind.u64.wrap (a * yn0) = a * yn0 := by rw [IntKind.wrap_u64]; omega
              go_wp2_with fail
              go_meet
              exact ⟨by rw [HZ.out], rfl⟩
            · have hz := dinv_step SG.out hI.out (.inr t5) (by omega)
              have hp := dinv_low SG.out hI.out (.inr t5)
              have hq := hI.out.2.2.2.2.2.2
              have HZ : Hid (DInv yn1 un21 Q0 (a - 1) (b + yn1)) := hz
              clear hz
              have e1 : IntKind.u64.wrap (a * yn0) = a * yn0 := by rw [IntKind.wrap_u64]; omega
              go_wp2_with fail
              go_round
              case rel => exact ⟨_, _, rfl, rfl, HZ⟩
              case measure => simp [intOf]; omega
          · have hz := dinv_done SG.out hI.out (by omega)
            have HZ : Hid (a = Q0) := hz
            clear hz
            have e1 : IntKind.u64.wrap (a * yn0) = a * yn0 := by rw [IntKind.wrap_u64]; omega
            go_wp2_with fail
            go_meet
            exact ⟨by rw [HZ.out], rfl⟩
    case rest =>
      obtain ⟨rfl, rfl⟩ := hcut
      go_wp2_with fail
      go_ret2
      exact ⟨rfl, rfl⟩
end Go.Proofs.YtblafbbnplfpjaaGreatDoor

namespace Go.Proofs.YtblafbbnplfpjaaGreatDoor
open Go.RowKit Go.Shelf

theorem bitLen_spec : ∀ (n x : Nat), x < 2 ^ n → n ≤ 64 → x < 2 ^ Lib.bitLen x ∧ (x ≠ 0 → 2 ^ Lib.bitLen x ≤ 2 * x)
  | 0, x, h, _ => by
    have : x = 0 := by simpa using h
    subst this; exact ⟨by decide, fun h => absurd rfl h⟩
  | n + 1, x, h, hn => by
    by_cases h0 : x = 0
    · subst h0; exact ⟨by decide, fun h => absurd rfl h⟩
    · have hx : x < 2 ^ 64 := Nat.lt_of_lt_of_le h (Nat.pow_le_pow_right (by omega) hn)
      have ih := bitLen_spec n (x / 2) (by rw [Nat.pow_succ] at h; omega) (by omega)
      rw [Lib.bitLen_half x h0 hx, Nat.add_comm, Nat.pow_succ]
      refine ⟨by omega, fun _ => ?_⟩
      by_cases h2 : x / 2 = 0
      · have : Lib.bitLen (x / 2) = 0 := by rw [h2]; decide
        rw [this]; omega
      · have := ih.2 h2; omega

theorem or_word (a b s : Nat) (hs : s ≤ 63) (ha : a * 2 ^ s < 18446744073709551616) (hb : b < 2 ^ s) : bits .or .u64 ((a * 2 ^ s : Nat) : Int) (b : Int) = ((a * 2 ^ s + b : Nat) : Int) := by
  have h2 : 2 ^ s ≤ 2 ^ 63 := Nat.pow_le_pow_right (by omega) hs
  rw [bits_or_u64_nat _ _ ha (by omega)]
  have := Nat.shiftLeft_add_eq_or_of_lt hb a
  rw [Nat.shiftLeft_eq] at this
  rw [← this]

/-- A quotient by the school method, place by place. -/
theorem two_places (Y u u1 u0 : Int) (hY : 0 < Y) (_h0 : 0 ≤ u0) : (u * 4294967296 + u1) / Y * 4294967296 + ((u * 4294967296 + u1) % Y * 4294967296 + u0) / Y = (u * 18446744073709551616 + (u1 * 4294967296 + u0)) / Y ∧
    ((u * 4294967296 + u1) % Y * 4294967296 + u0) % Y = (u * 18446744073709551616 + (u1 * 4294967296 + u0)) % Y := by
  have e : u * 18446744073709551616 + (u1 * 4294967296 + u0) = ((u * 4294967296 + u1) % Y * 4294967296 + u0) + Y * ((u * 4294967296 + u1) / Y * 4294967296) := by
    have := Int.mul_ediv_add_emod (u * 4294967296 + u1) Y
    rw [← Int.mul_assoc]
    generalize Y * ((u * 4294967296 + u1) / Y) = p at *
    omega
  rw [e, Int.add_mul_ediv_left _ _ (by omega), Int.add_mul_emod_self_left]
  omega

set_option maxHeartbeats 1000000 in
theorem div64_hi (hi lo y : Int) (h1 : Word hi) (h2 : Word lo) (h3 : Word y) (hlt : hi < y) (h0 : ¬ hi = 0) (w : World) :
    Calls Tryz.prog 198 #[.int .u64 hi, .int .u64 lo, .int .u64 y] w fun e w' =>
      e = .returned (.tuple #[.int .u64 ((hi * 18446744073709551616 + lo) / y), .int .u64 ((hi * 18446744073709551616 + lo) % y)]) ∧ w' = w := by
  obtain ⟨a1, a2⟩ := h1; obtain ⟨c1, c2⟩ := h2; obtain ⟨d1, d2⟩ := h3
  obtain ⟨H, rfl⟩ := Int.eq_ofNat_of_zero_le a1
  obtain ⟨L, rfl⟩ := Int.eq_ofNat_of_zero_le c1
  obtain ⟨D, rfl⟩ := Int.eq_ofNat_of_zero_le d1
  obtain ⟨p1, p2⟩ := bitLen_spec 64 D (by omega) (by omega)
  have p3 := p2 (by omega)
  have p4 : Lib.bitLen D ≤ 64 := Lib.bitLen_le D 64 (by omega) (by omega)
  have p5 : 1 ≤ Lib.bitLen D := by
    rcases Nat.eq_zero_or_pos (Lib.bitLen D) with h | h
    · rw [h] at p1; omega
    · exact h
  obtain ⟨s, hs⟩ : ∃ s, s = 64 - Lib.bitLen D := ⟨_, rfl⟩
  have hs1 : s ≤ 63 := by omega
  have hpow : 2 ^ Lib.bitLen D * 2 ^ s = 18446744073709551616 := by
    rw [← Nat.pow_add, show Lib.bitLen D + s = 64 by omega]
  have hpos : 0 < 2 ^ s := Nat.pow_pos (by omega)
  have hY1 : D * 2 ^ s < 18446744073709551616 := by
    rw [← hpow]; exact Nat.mul_lt_mul_of_pos_right p1 hpos
  have hY2 : 9223372036854775808 ≤ D * 2 ^ s := by
    have : 2 ^ Lib.bitLen D * 2 ^ s ≤ 2 * D * 2 ^ s := Nat.mul_le_mul_right _ p3
    rw [hpow, Nat.mul_assoc] at this; omega
  have hH : H * 2 ^ s < D * 2 ^ s := Nat.mul_lt_mul_of_pos_right (by omega) hpos
  -- the low word, cut where it is moved
  have hp64 : 2 ^ (64 - s) * 2 ^ s = 18446744073709551616 := by rw [← Nat.pow_add, show 64 - s + s = 64 by omega]
  have hl1 : L / 2 ^ (64 - s) < 2 ^ s := by
    rw [Nat.div_lt_iff_lt_mul (Nat.pow_pos (by omega)), Nat.mul_comm, hp64]; omega
  have hl2 : L * 2 ^ s = L / 2 ^ (64 - s) * 18446744073709551616 + (L * 2 ^ s) % 18446744073709551616 := by
    have := Nat.div_add_mod (L * 2 ^ s) 18446744073709551616
    rw [← hp64, Nat.mul_div_mul_right _ _ hpos, hp64] at this
    omega
  have hor := or_word H (L / 2 ^ (64 - s)) s hs1 (by omega) hl1
  obtain ⟨Y, hY⟩ : ∃ Y, Y = D * 2 ^ s := ⟨_, rfl⟩
  obtain ⟨U, hU⟩ : ∃ U, U = H * 2 ^ s + L / 2 ^ (64 - s) := ⟨_, rfl⟩
  obtain ⟨V, hV⟩ : ∃ V, V = (L * 2 ^ s) % 18446744073709551616 := ⟨_, rfl⟩
  have hV1 : V < 18446744073709551616 := by omega
  have hU1 : U < Y := by
    rw [hU, hY]
    have : (H + 1) * 2 ^ s ≤ D * 2 ^ s := Nat.mul_le_mul_right _ (by omega)
    rw [Nat.add_mul] at this; omega
  have hall : (H * 18446744073709551616 + L) * 2 ^ s = U * 18446744073709551616 + V := by
    rw [hU, hV, Nat.add_mul, Nat.mul_right_comm]; omega
  have S1 : DSet (Y : Int) ((Y / 4294967296 : Nat) : Int) ((Y % 4294967296 : Nat) : Int) (U : Int) ((V / 4294967296 : Nat) : Int) (((U : Int) * 4294967296 + ((V / 4294967296 : Nat) : Int)) / (Y : Int)) :=
    ⟨by omega, by omega, by omega, by omega, by omega, by omega, by omega, by omega, by omega, rfl⟩
  have hYp : 0 < (Y : Int) := by omega
  have hm := Int.emod_nonneg ((U : Int) * 4294967296 + ((V / 4294967296 : Nat) : Int)) (b := (Y : Int)) (by omega)
  have hml := Int.emod_lt_of_pos ((U : Int) * 4294967296 + ((V / 4294967296 : Nat) : Int)) hYp
  have S0 : DSet (Y : Int) ((Y / 4294967296 : Nat) : Int) ((Y % 4294967296 : Nat) : Int) (((U : Int) * 4294967296 + ((V / 4294967296 : Nat) : Int)) % (Y : Int)) ((V % 4294967296 : Nat) : Int) (((((U : Int) * 4294967296 + ((V / 4294967296 : Nat) : Int)) % (Y : Int)) * 4294967296 + ((V % 4294967296 : Nat) : Int)) / (Y : Int)) :=
    ⟨by omega, by omega, by omega, by omega, by omega, by omega, by omega, hm, hml, rfl⟩
  obtain ⟨t1, t2⟩ := two_places (Y : Int) (U : Int) ((V / 4294967296 : Nat) : Int) ((V % 4294967296 : Nat) : Int) hYp (by omega)
  have eV : ((V / 4294967296 : Nat) : Int) * 4294967296 + ((V % 4294967296 : Nat) : Int) = (V : Int) := by omega
  have hall' : (U : Int) * 18446744073709551616 + (V : Int) = ((H : Int) * 18446744073709551616 + L) * (2 ^ s : Nat) := by
    have := congrArg (Nat.cast (R := Int)) hall
    simp only [Int.natCast_add, Int.natCast_mul] at this
    exact this.symm
  have eYD : (Y : Int) = (D : Int) * (2 ^ s : Nat) := by rw [hY, Int.natCast_mul]
  have hps : (0 : Int) < ((2 ^ s : Nat) : Int) := by omega
  have c64 : ((2 ^ s : Nat) : Int) = 2 ^ s := by simp
  have c64' : ((2 ^ (64 - s) : Nat) : Int) = 2 ^ (64 - s) := by simp
  refine div64_core H L D ⟨a1, a2⟩ ⟨c1, c2⟩ ⟨d1, d2⟩ hlt w h0 s hs1 (by simp only [Int.toNat_natCast]; omega) Y ((Y / 4294967296 : Nat) : Int) ((Y % 4294967296 : Nat) : Int) U V ((V / 4294967296 : Nat) : Int) ((V % 4294967296 : Nat) : Int) _
    ?_ (by omega) (Mul64.maskN Y (by omega)) ?_ ?_ (by omega) (Mul64.maskN V (by omega)) S1 _ _ S0 rfl _ _ ?_ ?_ (by omega) (by omega) (by omega) (by omega) (by omega) (by omega) (by omega) (by omega) (by omega) (by omega)
  · rw [← c64, ← Int.natCast_mul, IntKind.wrap_u64]; omega
  · rw [← c64, ← c64', ← Int.natCast_mul, ← Int.natCast_ediv, IntKind.wrap_u64, Int.emod_eq_of_lt (by omega) (by omega), hor, hU]
  · rw [← c64, ← Int.natCast_mul, IntKind.wrap_u64]; omega
  · rw [t1, eV, hall', eYD, Int.mul_ediv_mul_of_pos_left _ _ hps]
  · rw [IntKind.wrap_u64, IntKind.wrap_u64, IntKind.wrap_u64, IntKind.wrap_u64, dset_rest S0, t2, eV, hall', eYD, ← c64, Int.mul_comm _ ((2 ^ s : Nat) : Int), Int.mul_comm _ ((2 ^ s : Nat) : Int), Int.mul_emod_mul_of_pos _ _ hps, Int.mul_ediv_cancel_left _ (by omega)]

set_option maxHeartbeats 1000000 in
theorem div64_lo (lo y : Int) (h2 : Word lo) (h3 : Word y) (hlt : 0 < y) (w : World) :
    Calls Tryz.prog 198 #[.int .u64 0, .int .u64 lo, .int .u64 y] w fun e w' =>
      e = .returned (.tuple #[.int .u64 (lo / y), .int .u64 (lo % y)]) ∧ ∃ n, w' = w.drewN n := by
  obtain ⟨c1, c2⟩ := h2; obtain ⟨d1, d2⟩ := h3
  have g1 : (y == 0) = false := by simp; omega
  have g3 : ¬ y ≤ 0 := by omega
  go_enter Tryz.func198, Tryz.ntmps198
  go_wp2_with fail
  go_quiet (fail)
  go_wp2_with fail
  go_ret2
  exact ⟨rfl, nq, rfl⟩

theorem div64_any (hi lo y : Int) (h1 : Word hi) (h2 : Word lo) (h3 : Word y) (hlt : hi < y) (w : World) :
    Calls Tryz.prog 198 #[.int .u64 hi, .int .u64 lo, .int .u64 y] w fun e w' =>
      e = .returned (.tuple #[.int .u64 ((hi * 18446744073709551616 + lo) / y), .int .u64 ((hi * 18446744073709551616 + lo) % y)]) ∧ ∃ n, w' = w.drewN n := by
  by_cases h0 : hi = 0
  · subst h0
    refine (div64_lo lo y h2 h3 hlt w).mono ?_
    rintro e w' ⟨rfl, n, rfl⟩
    exact ⟨by simp, n, rfl⟩
  · refine (div64_hi hi lo y h1 h2 h3 hlt h0 w).mono ?_
    rintro e w' ⟨rfl, rfl⟩
    exact ⟨rfl, 0, rfl⟩

theorem div_ok (hi lo y : Int) (h1 : Word hi) (h2 : Word lo) (h3 : Word y) (hlt : hi < y) (w : World) :
    Calls Tryz.prog 182 #[.int .u64 hi, .int .u64 lo, .int .u64 y] w fun e w' =>
      e = .returned (.tuple #[.int .u64 ((hi * 18446744073709551616 + lo) / y), .int .u64 ((hi * 18446744073709551616 + lo) % y), .int .i64 0]) ∧ ∃ n, w' = w.drewN n := by
  have g1 : (y == 0) = false := by have := h1.1; simp; omega
  have g3 : ¬ y ≤ hi := by omega
  go_enter Tryz.func182, Tryz.ntmps182
  go_wp2_with fail
  refine (div64_any hi lo y h1 h2 h3 hlt _).mono ?_
  rintro e w' ⟨rfl, n, rfl⟩
  go_wp2_with fail
  go_ret3
  exact ⟨rfl, n, rfl⟩

end Go.Proofs.YtblafbbnplfpjaaGreatDoor

namespace Go.Proofs.YtblafbbnplfpjaaGreatDoor
open Go.RowKit Go.Shelf

/-- How many binary digits a number has. -/
def bitsN (zs : List Int) : Int := if usedN zs = 0 then 0 else 64 * ((usedN zs : Int) - 1) + (Lib.bitLen (zs.getD (usedN zs - 1) 0).toNat : Int)

theorem bits_any (a : Option Addr) (len cap : Nat) (zs : List Int) (w : World) (h : Sl w a len zs) (hl : len ≤ 40000000000000) :
    Calls Tryz.prog 186 #[.slice a len cap] w fun e w' => e = .returned (.int .i64 (bitsN zs)) ∧ w' = w := by
  have hu := usedN_le zs
  have hz := h.1
  have U := used_any a len cap zs w h hl
  by_cases h0 : usedN zs = 0
  · have e0 : bitsN zs = 0 := by simp [bitsN, h0]
    rw [e0]
    rw [h0] at U
    go_enter Tryz.func186, Tryz.ntmps186
    go_wp2_with fail
    refine U.mono ?_
    rintro e w' ⟨rfl, rfl⟩
    go_wp2_with fail
    go_ret
    exact ⟨rfl, rfl⟩
  · obtain ⟨b, off, rfl, hc⟩ := h.2.2 (by omega)
    have hcx := hc (usedN zs - 1) (by omega)
    have hw := h.2.1.getD (usedN zs - 1)
    have hB : bitsN zs = 64 * ((usedN zs : Int) - 1) + (Lib.bitLen (zs.getD (usedN zs - 1) 0).toNat : Int) := by simp [bitsN, h0]
    obtain ⟨x, hx⟩ : ∃ x, zs.getD (usedN zs - 1) 0 = x := ⟨_, rfl⟩
    rw [hx] at hcx hw hB
    rw [hB]
    have hbl : Lib.bitLen x.toNat ≤ 64 := Lib.bitLen_le x.toNat 64 (by omega) (by omega)
    obtain ⟨u, hu1⟩ : ∃ u, usedN zs = u := ⟨_, rfl⟩
    rw [hu1] at U hcx h0 hu ⊢
    have g1 : ((u : Int) == 0) = false := by simp; omega
    have ex : ((u : Int) - 1).toNat = u - 1 := by omega
    clear hx h hc hu1 hB
    go_enter Tryz.func186, Tryz.ntmps186
    go_wp2_with fail
    refine U.mono ?_
    rintro e w' ⟨rfl, rfl⟩
    go_wp2_with fail
    refine (Tryz.bits_Len64 x _ hw.1 (by omega)).mono ?_
    rintro e w' ⟨rfl, rfl⟩
    go_wp2_with fail
    go_ret
    exact ⟨rfl, rfl⟩
end Go.Proofs.YtblafbbnplfpjaaGreatDoor
namespace Go.Proofs.YtblafbbnplfpjaaGreatDoor
open Go.RowKit Go.Shelf

/-- A list that grows in memory of the call's own. -/
def Gr (w : World) (B : Nat) (v : Value) (cs : List Int) : Prop := w.ownsRow B 124 1 v cs.length (row cs)

theorem Gr.sl {w : World} {B : Nat} {v : Value} {cs : List Int} (h : Gr w B v cs) (hL : Limbs cs) : ∃ a cap, v = .slice a cs.length cap ∧ cs.length ≤ cap ∧ Sl w a cs.length cs := by
  obtain ⟨h1, h2 | ⟨g, cap, cur, rfl, hB, hh, hc, hm, hs, ht⟩⟩ := h
  · obtain ⟨rfl, h0⟩ := h2
    refine ⟨none, 0, by rw [h0], by omega, rfl, hL, fun h => ?_⟩
    omega
  · refine ⟨_, cap, rfl, hc, rfl, hL, fun _ => ⟨g, 0, rfl, fun i hi => ?_⟩⟩
    have hr := row_getElem? cs i hi
    rw [← ht, Nat.mul_one, List.getElem?_take_of_lt hi] at hr
    rw [Nat.zero_add]
    simp only [World.cell?, hh]
    simpa using hr
theorem Gr.nil (w : World) (B : Nat) : Gr w B (.slice none 0 0) [] := ⟨rfl, .inl ⟨rfl, rfl⟩⟩
theorem Gr.block {w : World} {B : Nat} {v : Value} {cs : List Int} (h : Gr w B v cs) : ∀ k, v.ownBlock = some k → B ≤ k := by
  obtain ⟨h1, h2 | ⟨g, cap, cur, rfl, hB, hh, hc, hm, hs, ht⟩⟩ := h
  · obtain ⟨rfl, h0⟩ := h2
    intro k hk; cases hk
  · intro k hk; cases hk; exact hB
/-- append, at a plain statement. -/
theorem row_one (cs : List Int) : ∀ v ∈ row cs, v.oneCell' = true := by
  intro v hv
  simp only [row, List.mem_map] at hv
  obtain ⟨x, -, rfl⟩ := hv
  rfl
theorem src_row {W : World} {b o la n : Nat} {xs : List Int} (ha : Sl W (some ⟨b, o, none⟩) la xs) (hn : n ≤ la) : ∀ j v, (row (xs.take n))[j]? = some v → W.cell? ((⟨b, o, none⟩ : Addr).add j) = some v := by
  intro j v hj
  have hj' : j < (row (xs.take n)).length := by
    rcases Nat.lt_or_ge j (row (xs.take n)).length with h' | h'
    · exact h'
    · rw [List.getElem?_eq_none h'] at hj; cases hj
  rw [row_length, List.length_take] at hj'
  have hz := ha.1
  rw [row_getElem? _ _ (by rw [List.length_take]; omega), getD_take_lt _ _ _ (by omega)] at hj
  cases hj
  obtain ⟨b', o', e, hc⟩ := ha.2.2 (by omega)
  cases e
  rw [addr_add]
  exact hc j (by omega)
end Go.Proofs.YtblafbbnplfpjaaGreatDoor
namespace Go.Proofs.YtblafbbnplfpjaaGreatDoor
set_option linter.unusedVariables false
/-- What a byte is worth as a digit; 36: it is none. -/
def wv (c : UInt8) : Nat := if 48 ≤ c.toNat ∧ c.toNat ≤ 57 then c.toNat - 48 else if 97 ≤ c.toNat ∧ c.toNat ≤ 122 then c.toNat - 87 else 36
theorem wv_inj {c d : UInt8} (hc : wv c < 36) (h : wv c = wv d) : c = d := by
  have : c.toNat = d.toNat := by
    unfold wv at hc h
    repeat' split at hc
    all_goals (repeat' split at h)
    all_goals omega
  exact UInt8.toNat_inj.1 this
theorem wv_nought : wv 48 = 0 := by decide
theorem wv_zero {c : UInt8} (h : wv c = 0) : c = 48 := wv_inj (d := 48) (by omega) (by rw [h]; rfl)
/-- What digits say, to the base b. -/
def tv (b : Nat) (l : List UInt8) : Nat := l.foldl (fun s c => s * b + wv c) 0
theorem tv_fold (b : Nat) (m : List UInt8) : ∀ s, m.foldl (fun s c => s * b + wv c) s = s * b ^ m.length + tv b m := by
  induction m with
  | nil => intro s; simp [tv]
  | cons c m ih =>
    intro s
    have e : tv b (c :: m) = (0 * b + wv c) * b ^ m.length + tv b m := ih _
    rw [List.foldl_cons, ih, e, List.length_cons, Nat.pow_succ]
    grind
theorem tv_append (b : Nat) (l m : List UInt8) : tv b (l ++ m) = tv b l * b ^ m.length + tv b m := by
  rw [tv, List.foldl_append, tv_fold]; rfl
theorem tv_cons (b : Nat) (c : UInt8) (m : List UInt8) : tv b (c :: m) = wv c * b ^ m.length + tv b m := by
  rw [tv, List.foldl_cons, tv_fold]; simp
/-- All of them are digits to the base b. -/
def Dig (b : Nat) (l : List UInt8) : Prop := ∀ c ∈ l, wv c < b
theorem Dig.nil (b : Nat) : Dig b [] := fun c h => by simp at h
theorem Dig.cons {b : Nat} {c : UInt8} {l : List UInt8} (h : Dig b (c :: l)) : wv c < b ∧ Dig b l := ⟨h c (by simp), fun d hd => h d (by simp [hd])⟩
theorem Dig.append {b : Nat} {l m : List UInt8} (h : Dig b l) (k : Dig b m) : Dig b (l ++ m) := fun c hc => by
  rcases List.mem_append.1 hc with h' | h'
  · exact h c h'
  · exact k c h'
theorem tv_lt {b : Nat} : ∀ {l : List UInt8}, Dig b l → tv b l < b ^ l.length
  | [], _ => by simp [tv]
  | c :: l, h => by
    have h1 := h.cons.1
    have h2 := tv_lt h.cons.2
    rw [tv_cons, List.length_cons, Nat.pow_succ]
    have : (wv c + 1) * b ^ l.length ≤ b * b ^ l.length := Nat.mul_le_mul_right _ h1
    grind
/-- The text of a number: its digits, with no nought ahead. -/
structure Tx (b : Nat) (l : List UInt8) (v : Nat) : Prop where
  ne : l ≠ []
  dig : Dig b l
  val : tv b l = v
  nz : l.head? = some 48 → l.length = 1
theorem Tx.low {b : Nat} {l : List UInt8} {v : Nat} (h : Tx b l v) (h2 : 2 ≤ l.length) : b ^ (l.length - 1) ≤ v := by
  obtain ⟨ne, dig, val, nz⟩ := h
  match l, ne with
  | c :: l, _ =>
    have hc : wv c ≠ 0 := fun h0 => by
      have := nz (by rw [wv_zero h0]; rfl)
      omega
    rw [← val, tv_cons, List.length_cons, Nat.add_sub_cancel]
    have : 1 * b ^ l.length ≤ wv c * b ^ l.length := Nat.mul_le_mul_right _ (by omega)
    omega
theorem Tx.lt {b : Nat} {l : List UInt8} {v : Nat} (h : Tx b l v) : v < b ^ l.length := h.val ▸ tv_lt h.dig
theorem Tx.pos {b : Nat} {l : List UInt8} {v : Nat} (h : Tx b l v) : 0 < l.length := List.length_pos_iff.2 h.ne
theorem Tx.le {b : Nat} (hb : 2 ≤ b) {l : List UInt8} {v k : Nat} (h : Tx b l v) (hv : v < b ^ k) (hk : 1 ≤ k) : l.length ≤ k := by
  rcases Nat.lt_or_ge k l.length with h' | h'
  · have := h.low (by omega)
    have := Nat.pow_le_pow_right (show 0 < b by omega) (show k ≤ l.length - 1 by omega)
    omega
  · exact h'
/-- More digits behind a number that is not 0. -/
theorem Tx.more {b : Nat} {l m : List UInt8} {v : Nat} (h : Tx b l v) (hv : v ≠ 0) (hm : Dig b m) : Tx b (l ++ m) (v * b ^ m.length + tv b m) := by
  refine ⟨by simp [h.ne], h.dig.append hm, by rw [tv_append, h.val], fun e => ?_⟩
  exfalso
  match l, h with
  | [], h => exact h.ne rfl
  | c :: l, h =>
    have h1 := h.nz (by simpa using e)
    have hl : l = [] := by simpa using h1
    subst hl
    have : c = 48 := by simpa using e
    subst this
    exact hv (by rw [← h.val, tv_cons, wv_nought]; simp [tv])
theorem Tx.zero {b : Nat} (hb : 2 ≤ b) : Tx b [48] 0 := ⟨by simp, fun c hc => by simp at hc; subst hc; rw [wv_nought]; omega, by rw [tv_cons, wv_nought]; simp [tv], fun _ => rfl⟩
end Go.Proofs.YtblafbbnplfpjaaGreatDoor
