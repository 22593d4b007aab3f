/-
  math/bits.Div64 where the high word is not 0: two places of the quotient, each guessed and lowered; over names for what the text reckons.
-/
import Derived.Test.YtopmbfiepheepaaWords
import Derived.Test.YtopmbfiepheepaaDivPlain
import Derived.BigQuiet
import Derived.Deep.QuietTactic
import Derived.Deep.DeepCutAuto
import Derived.Below
import Derived.Deep.CutBlock
namespace Go.Proofs.Ytopmbfiepheepaa
open Go.RowKit Go.Shelf
set_option maxHeartbeats 1000000 in
theorem div64_core (hi lo y : Int) (h1 : Word hi) (h2 : Word lo) (h3 : Word y) (hlt : hi < y) (w : World) (h0 : ¬ hi = 0)
    (s : Nat) (hs : s ≤ 63) (hlz : 64 - (Lib.bitLen y.toNat : Int) = (s : Int)) (Y yn1 yn0 un32 un10 un1 un0 Q1 : Int)
    (eY : IntKind.u64.wrap (y * 2 ^ s) = Y) (eyn1 : Y / 4294967296 = yn1) (eyn0 : bits .and .u64 Y 4294967295 = yn0)
    (eun32 : bits .or .u64 (IntKind.u64.wrap (hi * 2 ^ s)) (lo / 2 ^ (64 - s)) = un32) (eun10 : IntKind.u64.wrap (lo * 2 ^ s) = un10)
    (eun1 : un10 / 4294967296 = un1) (eun0 : bits .and .u64 un10 4294967295 = un0)
    (S1 : DSet Y yn1 yn0 un32 un1 Q1) (un21 Q0 : Int) (S0 : DSet Y yn1 yn0 un21 un0 Q0) (eun21 : un21 = (un32 * 4294967296 + un1) % Y) (q' r' : Int) (eq : Q1 * 4294967296 + Q0 = q') (er : IntKind.u64.wrap (IntKind.u64.wrap (IntKind.u64.wrap (un21 * 4294967296) + un0) - IntKind.u64.wrap (Q0 * Y)) / 2 ^ s = r')
    (b1 : 2147483648 ≤ yn1) (b1' : yn1 < 4294967296) (b2 : 0 ≤ yn0) (b2' : yn0 < 4294967296) (b3 : 0 ≤ un1) (b3' : un1 < 4294967296) (b4 : 0 ≤ un0) (b4' : un0 < 4294967296) (b5 : 0 ≤ un32) (b5' : un32 < 18446744073709551616) :
    Calls Try.prog 92 #[.int .u64 hi, .int .u64 lo, .int .u64 y] w fun e w' =>
      e = .returned (.tuple #[.int .u64 q', .int .u64 r']) ∧ w' = w := by
  obtain ⟨a1, a2⟩ := h1; obtain ⟨c1, c2⟩ := h2; obtain ⟨d1, d2⟩ := h3
  have g1 : (y == 0) = false := by simp; omega
  have g2 : (hi == 0) = false := by simp [h0]
  have g3 : ¬ y ≤ hi := by omega
  have m1 : min s 64 = s := by omega
  have m2 : min (64 - s) 64 = 64 - s := by omega
  have m3 : ((64 : Int) - s).toNat = 64 - s := by omega
  have I0 := dinv_start S1
  have eq0 : IntKind.u64.wrap (un32 / yn1 * yn1) = un32 / yn1 * yn1 := by
    have := I0.2.2.2.2.1
    have := I0.2.2.1
    have := I0.1
    have : 0 ≤ un32 / yn1 * yn1 := Int.mul_nonneg (by omega) (by omega)
    rw [IntKind.wrap_u64]; omega
  have er0 : IntKind.u64.wrap (un32 - un32 / yn1 * yn1) = un32 - un32 / yn1 * yn1 := by
    have := I0.2.2.1
    have := I0.2.2.2.1
    rw [IntKind.wrap_u64]; omega
  have J0 := dinv_start S0
  obtain ⟨r1, r2⟩ := dset_q S1
  obtain ⟨r3, r4⟩ := dset_q S0
  have p21 : 0 ≤ un21 := S0.2.2.2.2.2.2.2.1
  have p22 : un21 < Y := S0.2.2.2.2.2.2.2.2.1
  have eY' := S1.1
  have fq0 : IntKind.u64.wrap (un21 / yn1 * yn1) = un21 / yn1 * yn1 := by
    have := J0.2.2.2.2.1
    have := J0.2.2.1
    have := J0.1
    have : 0 ≤ un21 / yn1 * yn1 := Int.mul_nonneg (by omega) (by omega)
    rw [IntKind.wrap_u64]; omega
  have fr0 : IntKind.u64.wrap (un21 - un21 / yn1 * yn1) = un21 - un21 / yn1 * yn1 := by
    have := J0.2.2.1
    have := J0.2.2.2.1
    rw [IntKind.wrap_u64]; omega
  have e21 : IntKind.u64.wrap (IntKind.u64.wrap (IntKind.u64.wrap (un32 * 4294967296) + un1) - IntKind.u64.wrap (Q1 * Y)) = un21 := by
    rw [IntKind.wrap_u64, IntKind.wrap_u64, IntKind.wrap_u64, IntKind.wrap_u64, dset_rest S1, eun21]
  have p23 : un21 < 18446744073709551616 := by omega
  clear eun21 eY' p22
  have SH : Hid (DSet Y yn1 yn0 un32 un1 Q1) := S1
  have IH : Hid (DInv yn1 un32 Q1 (un32 / yn1) (un32 - un32 / yn1 * yn1)) := I0
  have SG : Hid (DSet Y yn1 yn0 un21 un0 Q0) := S0
  have IG : Hid (DInv yn1 un21 Q0 (un21 / yn1) (un21 - un21 / yn1 * yn1)) := J0
  clear S1 I0 S0 J0
  go_enter Try.func92, Try.ntmps92
  go_wp2_with fail
  refine (Try.bits_LeadingZeros64 y _ (by omega) (by omega)).mono ?_
  rintro e w' ⟨rfl, rfl⟩
  rw [hlz]
  go_upto_block 0 with fail
  go_cut [15] (fun q wx => q = .int .u64 Q1 ∧ wx = w')
  case first =>
    go_wp2_with fail
    go_loop [15, 16] (fun q r => ∃ a b : Int, q = .int .u64 a ∧ r = .int .u64 b ∧ Hid (DInv yn1 un32 Q1 a b)) (fun q _ => (intOf q).toNat)
    case atStart => exact ⟨_, _, rfl, rfl, IH⟩
    case round =>
      obtain ⟨a, b, rfl, rfl, hI⟩ := hrel
      obtain ⟨i1, i2, i3, i4, -, -, -⟩ := hI.out
      by_cases t1 : 4294967296 ≤ a
      · by_cases t2 : 4294967296 ≤ b + yn1
        · have hz := dinv_break SH.out hI.out (.inl t1) t2
          have HZ : Hid (a - 1 = Q1) := hz
          clear hz
          go_wp2_with fail
          go_meet
          exact ⟨by rw [HZ.out], rfl⟩
        · have hz := dinv_step SH.out hI.out (.inl t1) (by omega)
          have HZ : Hid (DInv yn1 un32 Q1 (a - 1) (b + yn1)) := hz
          clear hz
          go_wp2_with fail
          go_round
          case rel => exact ⟨_, _, rfl, rfl, HZ⟩
          case measure => simp [intOf]; omega
      · obtain ⟨t3, t4⟩ := half_mul i1 (by omega) b2 b2'
        by_cases t5 : 4294967296 * b + un1 < a * yn0
        · by_cases t2 : 4294967296 ≤ b + yn1
          · have hz := dinv_break SH.out hI.out (.inr t5) t2
            have hp := dinv_low SH.out hI.out (.inr t5)
            have hq := hI.out.2.2.2.2.2.2
            have HZ : Hid (a - 1 = Q1) := hz
            clear hz
            have e1 : IntKind.u64.wrap (a * yn0) = a * yn0 := by rw [IntKind.wrap_u64]; omega
            go_wp2_with fail
            go_meet
            exact ⟨by rw [HZ.out], rfl⟩
          · have hz := dinv_step SH.out hI.out (.inr t5) (by omega)
            have hp := dinv_low SH.out hI.out (.inr t5)
            have hq := hI.out.2.2.2.2.2.2
            have HZ : Hid (DInv yn1 un32 Q1 (a - 1) (b + yn1)) := hz
            clear hz
            have e1 : IntKind.u64.wrap (a * yn0) = a * yn0 := by rw [IntKind.wrap_u64]; omega
            go_wp2_with fail
            go_round
            case rel => exact ⟨_, _, rfl, rfl, HZ⟩
            case measure => simp [intOf]; omega
        · have hz := dinv_done SH.out hI.out (by omega)
          have HZ : Hid (a = Q1) := hz
          clear hz
          have e1 : IntKind.u64.wrap (a * yn0) = a * yn0 := by rw [IntKind.wrap_u64]; omega
          go_wp2_with fail
          go_meet
          exact ⟨by rw [HZ.out], rfl⟩
  case rest =>
    obtain ⟨rfl, rfl⟩ := hcut
    go_upto_block 2 with fail
    go_cut [18] (fun q wx => q = .int .u64 Q0 ∧ wx = wc)
    case first =>
      go_wp2_with fail
      go_loop [18, 16] (fun q r => ∃ a b : Int, q = .int .u64 a ∧ r = .int .u64 b ∧ Hid (DInv yn1 un21 Q0 a b)) (fun q _ => (intOf q).toNat)
      case atStart => exact ⟨_, _, rfl, rfl, IG⟩
      case round =>
        obtain ⟨a, b, rfl, rfl, hI⟩ := hrel
        obtain ⟨i1, i2, i3, i4, -, -, -⟩ := hI.out
        by_cases t1 : 4294967296 ≤ a
        · by_cases t2 : 4294967296 ≤ b + yn1
          · have hz := dinv_break SG.out hI.out (.inl t1) t2
            have HZ : Hid (a - 1 = Q0) := hz
            clear hz
            go_wp2_with fail
            go_meet
            exact ⟨by rw [HZ.out], rfl⟩
          · have hz := dinv_step SG.out hI.out (.inl t1) (by omega)
            have HZ : Hid (DInv yn1 un21 Q0 (a - 1) (b + yn1)) := hz
            clear hz
            go_wp2_with fail
            go_round
            case rel => exact ⟨_, _, rfl, rfl, HZ⟩
            case measure => simp [intOf]; omega
        · obtain ⟨t3, t4⟩ := half_mul i1 (by omega) b2 b2'
          by_cases t5 : 4294967296 * b + un0 < a * yn0
          · by_cases t2 : 4294967296 ≤ b + yn1
            · have hz := dinv_break SG.out hI.out (.inr t5) t2
              have hp := dinv_low SG.out hI.out (.inr t5)
              have hq := hI.out.2.2.2.2.2.2
              have HZ : Hid (a - 1 = Q0) := hz
              clear hz
              have e1 : IntKind.u64.wrap (a * yn0) = a * yn0 := by rw [IntKind.wrap_u64]; omega
              go_wp2_with fail
              go_meet
              exact ⟨by rw [HZ.out], rfl⟩
            · have hz := dinv_step SG.out hI.out (.inr t5) (by omega)
              have hp := dinv_low SG.out hI.out (.inr t5)
              have hq := hI.out.2.2.2.2.2.2
              have HZ : Hid (DInv yn1 un21 Q0 (a - 1) (b + yn1)) := hz
              clear hz
              have e1 : IntKind.u64.wrap (a * yn0) = a * yn0 := by rw [IntKind.wrap_u64]; omega
              go_wp2_with fail
              go_round
              case rel => exact ⟨_, _, rfl, rfl, HZ⟩
              case measure => simp [intOf]; omega
          · have hz := dinv_done SG.out hI.out (by omega)
            have HZ : Hid (a = Q0) := hz
            clear hz
            have e1 : IntKind.u64.wrap (a * yn0) = a * yn0 := by rw [IntKind.wrap_u64]; omega
            go_wp2_with fail
            go_meet
            exact ⟨by rw [HZ.out], rfl⟩
    case rest =>
      obtain ⟨rfl, rfl⟩ := hcut
      go_wp2_with fail
      go_ret2
      exact ⟨rfl, rfl⟩
end Go.Proofs.Ytopmbfiepheepaa
