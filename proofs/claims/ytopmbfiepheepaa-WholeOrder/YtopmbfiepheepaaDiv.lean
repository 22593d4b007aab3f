/-
  math/bits.Div64 and limb.Div: quotient and rest of two words by one, for every input that is not refused; the refusals.
-/
import Derived.Test.YtopmbfiepheepaaDivCore
namespace Go.Proofs.Ytopmbfiepheepaa
open Go.RowKit Go.Shelf

theorem bitLen_spec : ∀ (n x : Nat), x < 2 ^ n → n ≤ 64 → x < 2 ^ Lib.bitLen x ∧ (x ≠ 0 → 2 ^ Lib.bitLen x ≤ 2 * x)
  | 0, x, h, _ => by
    have : x = 0 := by simpa using h
    subst this; exact ⟨by decide, fun h => absurd rfl h⟩
  | n + 1, x, h, hn => by
    by_cases h0 : x = 0
    · subst h0; exact ⟨by decide, fun h => absurd rfl h⟩
    · have hx : x < 2 ^ 64 := Nat.lt_of_lt_of_le h (Nat.pow_le_pow_right (by omega) hn)
      have ih := bitLen_spec n (x / 2) (by rw [Nat.pow_succ] at h; omega) (by omega)
      rw [Lib.bitLen_half x h0 hx, Nat.add_comm, Nat.pow_succ]
      refine ⟨by omega, fun _ => ?_⟩
      by_cases h2 : x / 2 = 0
      · have : Lib.bitLen (x / 2) = 0 := by rw [h2]; decide
        rw [this]; omega
      · have := ih.2 h2; omega

theorem or_word (a b s : Nat) (hs : s ≤ 63) (ha : a * 2 ^ s < 18446744073709551616) (hb : b < 2 ^ s) : bits .or .u64 ((a * 2 ^ s : Nat) : Int) (b : Int) = ((a * 2 ^ s + b : Nat) : Int) := by
  have h2 : 2 ^ s ≤ 2 ^ 63 := Nat.pow_le_pow_right (by omega) hs
  rw [bits_or_u64_nat _ _ ha (by omega)]
  have := Nat.shiftLeft_add_eq_or_of_lt hb a
  rw [Nat.shiftLeft_eq] at this
  rw [← this]

/-- A quotient by the school method, place by place. -/
theorem two_places (Y u u1 u0 : Int) (hY : 0 < Y) (_h0 : 0 ≤ u0) : (u * 4294967296 + u1) / Y * 4294967296 + ((u * 4294967296 + u1) % Y * 4294967296 + u0) / Y = (u * 18446744073709551616 + (u1 * 4294967296 + u0)) / Y ∧
    ((u * 4294967296 + u1) % Y * 4294967296 + u0) % Y = (u * 18446744073709551616 + (u1 * 4294967296 + u0)) % Y := by
  have e : u * 18446744073709551616 + (u1 * 4294967296 + u0) = ((u * 4294967296 + u1) % Y * 4294967296 + u0) + Y * ((u * 4294967296 + u1) / Y * 4294967296) := by
    have := Int.mul_ediv_add_emod (u * 4294967296 + u1) Y
    rw [← Int.mul_assoc]
    generalize Y * ((u * 4294967296 + u1) / Y) = p at *
    omega
  rw [e, Int.add_mul_ediv_left _ _ (by omega), Int.add_mul_emod_self_left]
  omega

set_option maxHeartbeats 1000000 in
theorem div64_hi (hi lo y : Int) (h1 : Word hi) (h2 : Word lo) (h3 : Word y) (hlt : hi < y) (h0 : ¬ hi = 0) (w : World) :
    Calls Try.prog 92 #[.int .u64 hi, .int .u64 lo, .int .u64 y] w fun e w' =>
      e = .returned (.tuple #[.int .u64 ((hi * 18446744073709551616 + lo) / y), .int .u64 ((hi * 18446744073709551616 + lo) % y)]) ∧ w' = w := by
  obtain ⟨a1, a2⟩ := h1; obtain ⟨c1, c2⟩ := h2; obtain ⟨d1, d2⟩ := h3
  obtain ⟨H, rfl⟩ := Int.eq_ofNat_of_zero_le a1
  obtain ⟨L, rfl⟩ := Int.eq_ofNat_of_zero_le c1
  obtain ⟨D, rfl⟩ := Int.eq_ofNat_of_zero_le d1
  obtain ⟨p1, p2⟩ := bitLen_spec 64 D (by omega) (by omega)
  have p3 := p2 (by omega)
  have p4 : Lib.bitLen D ≤ 64 := Lib.bitLen_le D 64 (by omega) (by omega)
  have p5 : 1 ≤ Lib.bitLen D := by
    rcases Nat.eq_zero_or_pos (Lib.bitLen D) with h | h
    · rw [h] at p1; omega
    · exact h
  obtain ⟨s, hs⟩ : ∃ s, s = 64 - Lib.bitLen D := ⟨_, rfl⟩
  have hs1 : s ≤ 63 := by omega
  have hpow : 2 ^ Lib.bitLen D * 2 ^ s = 18446744073709551616 := by
    rw [← Nat.pow_add, show Lib.bitLen D + s = 64 by omega]
  have hpos : 0 < 2 ^ s := Nat.pow_pos (by omega)
  have hY1 : D * 2 ^ s < 18446744073709551616 := by
    rw [← hpow]; exact Nat.mul_lt_mul_of_pos_right p1 hpos
  have hY2 : 9223372036854775808 ≤ D * 2 ^ s := by
    have : 2 ^ Lib.bitLen D * 2 ^ s ≤ 2 * D * 2 ^ s := Nat.mul_le_mul_right _ p3
    rw [hpow, Nat.mul_assoc] at this; omega
  have hH : H * 2 ^ s < D * 2 ^ s := Nat.mul_lt_mul_of_pos_right (by omega) hpos
  -- the low word, cut where it is moved
  have hp64 : 2 ^ (64 - s) * 2 ^ s = 18446744073709551616 := by rw [← Nat.pow_add, show 64 - s + s = 64 by omega]
  have hl1 : L / 2 ^ (64 - s) < 2 ^ s := by
    rw [Nat.div_lt_iff_lt_mul (Nat.pow_pos (by omega)), Nat.mul_comm, hp64]; omega
  have hl2 : L * 2 ^ s = L / 2 ^ (64 - s) * 18446744073709551616 + (L * 2 ^ s) % 18446744073709551616 := by
    have := Nat.div_add_mod (L * 2 ^ s) 18446744073709551616
    rw [← hp64, Nat.mul_div_mul_right _ _ hpos, hp64] at this
    omega
  have hor := or_word H (L / 2 ^ (64 - s)) s hs1 (by omega) hl1
  obtain ⟨Y, hY⟩ : ∃ Y, Y = D * 2 ^ s := ⟨_, rfl⟩
  obtain ⟨U, hU⟩ : ∃ U, U = H * 2 ^ s + L / 2 ^ (64 - s) := ⟨_, rfl⟩
  obtain ⟨V, hV⟩ : ∃ V, V = (L * 2 ^ s) % 18446744073709551616 := ⟨_, rfl⟩
  have hV1 : V < 18446744073709551616 := by omega
  have hU1 : U < Y := by
    rw [hU, hY]
    have : (H + 1) * 2 ^ s ≤ D * 2 ^ s := Nat.mul_le_mul_right _ (by omega)
    rw [Nat.add_mul] at this; omega
  have hall : (H * 18446744073709551616 + L) * 2 ^ s = U * 18446744073709551616 + V := by
    rw [hU, hV, Nat.add_mul, Nat.mul_right_comm]; omega
  have S1 : DSet (Y : Int) ((Y / 4294967296 : Nat) : Int) ((Y % 4294967296 : Nat) : Int) (U : Int) ((V / 4294967296 : Nat) : Int) (((U : Int) * 4294967296 + ((V / 4294967296 : Nat) : Int)) / (Y : Int)) :=
    ⟨by omega, by omega, by omega, by omega, by omega, by omega, by omega, by omega, by omega, rfl⟩
  have hYp : 0 < (Y : Int) := by omega
  have hm := Int.emod_nonneg ((U : Int) * 4294967296 + ((V / 4294967296 : Nat) : Int)) (b := (Y : Int)) (by omega)
  have hml := Int.emod_lt_of_pos ((U : Int) * 4294967296 + ((V / 4294967296 : Nat) : Int)) hYp
  have S0 : DSet (Y : Int) ((Y / 4294967296 : Nat) : Int) ((Y % 4294967296 : Nat) : Int) (((U : Int) * 4294967296 + ((V / 4294967296 : Nat) : Int)) % (Y : Int)) ((V % 4294967296 : Nat) : Int) (((((U : Int) * 4294967296 + ((V / 4294967296 : Nat) : Int)) % (Y : Int)) * 4294967296 + ((V % 4294967296 : Nat) : Int)) / (Y : Int)) :=
    ⟨by omega, by omega, by omega, by omega, by omega, by omega, by omega, hm, hml, rfl⟩
  obtain ⟨t1, t2⟩ := two_places (Y : Int) (U : Int) ((V / 4294967296 : Nat) : Int) ((V % 4294967296 : Nat) : Int) hYp (by omega)
  have eV : ((V / 4294967296 : Nat) : Int) * 4294967296 + ((V % 4294967296 : Nat) : Int) = (V : Int) := by omega
  have hall' : (U : Int) * 18446744073709551616 + (V : Int) = ((H : Int) * 18446744073709551616 + L) * (2 ^ s : Nat) := by
    have := congrArg (Nat.cast (R := Int)) hall
    simp only [Int.natCast_add, Int.natCast_mul] at this
    exact this.symm
  have eYD : (Y : Int) = (D : Int) * (2 ^ s : Nat) := by rw [hY, Int.natCast_mul]
  have hps : (0 : Int) < ((2 ^ s : Nat) : Int) := by omega
  have c64 : ((2 ^ s : Nat) : Int) = 2 ^ s := by simp
  have c64' : ((2 ^ (64 - s) : Nat) : Int) = 2 ^ (64 - s) := by simp
  refine div64_core H L D ⟨a1, a2⟩ ⟨c1, c2⟩ ⟨d1, d2⟩ hlt w h0 s hs1 (by simp only [Int.toNat_natCast]; omega) Y ((Y / 4294967296 : Nat) : Int) ((Y % 4294967296 : Nat) : Int) U V ((V / 4294967296 : Nat) : Int) ((V % 4294967296 : Nat) : Int) _
    ?_ (by omega) (Mul64.maskN Y (by omega)) ?_ ?_ (by omega) (Mul64.maskN V (by omega)) S1 _ _ S0 rfl _ _ ?_ ?_ (by omega) (by omega) (by omega) (by omega) (by omega) (by omega) (by omega) (by omega) (by omega) (by omega)
  · rw [← c64, ← Int.natCast_mul, IntKind.wrap_u64]; omega
  · rw [← c64, ← c64', ← Int.natCast_mul, ← Int.natCast_ediv, IntKind.wrap_u64, Int.emod_eq_of_lt (by omega) (by omega), hor, hU]
  · rw [← c64, ← Int.natCast_mul, IntKind.wrap_u64]; omega
  · rw [t1, eV, hall', eYD, Int.mul_ediv_mul_of_pos_left _ _ hps]
  · rw [IntKind.wrap_u64, IntKind.wrap_u64, IntKind.wrap_u64, IntKind.wrap_u64, dset_rest S0, t2, eV, hall', eYD, ← c64, Int.mul_comm _ ((2 ^ s : Nat) : Int), Int.mul_comm _ ((2 ^ s : Nat) : Int), Int.mul_emod_mul_of_pos _ _ hps, Int.mul_ediv_cancel_left _ (by omega)]

set_option maxHeartbeats 1000000 in
theorem div64_lo (lo y : Int) (h2 : Word lo) (h3 : Word y) (hlt : 0 < y) (w : World) :
    Calls Try.prog 92 #[.int .u64 0, .int .u64 lo, .int .u64 y] w fun e w' =>
      e = .returned (.tuple #[.int .u64 (lo / y), .int .u64 (lo % y)]) ∧ ∃ n, w' = w.drewN n := by
  obtain ⟨c1, c2⟩ := h2; obtain ⟨d1, d2⟩ := h3
  have g1 : (y == 0) = false := by simp; omega
  have g3 : ¬ y ≤ 0 := by omega
  go_enter Try.func92, Try.ntmps92
  go_wp2_with fail
  go_quiet (fail)
  go_wp2_with fail
  go_ret2
  exact ⟨rfl, nq, rfl⟩

theorem div64_any (hi lo y : Int) (h1 : Word hi) (h2 : Word lo) (h3 : Word y) (hlt : hi < y) (w : World) :
    Calls Try.prog 92 #[.int .u64 hi, .int .u64 lo, .int .u64 y] w fun e w' =>
      e = .returned (.tuple #[.int .u64 ((hi * 18446744073709551616 + lo) / y), .int .u64 ((hi * 18446744073709551616 + lo) % y)]) ∧ ∃ n, w' = w.drewN n := by
  by_cases h0 : hi = 0
  · subst h0
    refine (div64_lo lo y h2 h3 hlt w).mono ?_
    rintro e w' ⟨rfl, n, rfl⟩
    exact ⟨by simp, n, rfl⟩
  · refine (div64_hi hi lo y h1 h2 h3 hlt h0 w).mono ?_
    rintro e w' ⟨rfl, rfl⟩
    exact ⟨rfl, 0, rfl⟩

theorem div_ok (hi lo y : Int) (h1 : Word hi) (h2 : Word lo) (h3 : Word y) (hlt : hi < y) (w : World) :
    Calls Try.prog 78 #[.int .u64 hi, .int .u64 lo, .int .u64 y] w fun e w' =>
      e = .returned (.tuple #[.int .u64 ((hi * 18446744073709551616 + lo) / y), .int .u64 ((hi * 18446744073709551616 + lo) % y), .int .i64 0]) ∧ ∃ n, w' = w.drewN n := by
  have g1 : (y == 0) = false := by have := h1.1; simp; omega
  have g3 : ¬ y ≤ hi := by omega
  go_enter Try.func78, Try.ntmps78
  go_wp2_with fail
  refine (div64_any hi lo y h1 h2 h3 hlt _).mono ?_
  rintro e w' ⟨rfl, n, rfl⟩
  go_wp2_with fail
  go_ret3
  exact ⟨rfl, n, rfl⟩

theorem div_nought (hi lo : Int) (w : World) :
    Calls Try.prog 78 #[.int .u64 hi, .int .u64 lo, .int .u64 0] w fun e w' => e = .returned (.tuple #[.int .u64 0, .int .u64 0, .int .i64 4]) ∧ w' = w := by
  go_enter Try.func78, Try.ntmps78
  go_wp2_with fail
  go_ret3
  exact ⟨rfl, rfl⟩

theorem div_over (hi lo y : Int) (h3 : 0 < y) (hlt : y ≤ hi) (w : World) :
    Calls Try.prog 78 #[.int .u64 hi, .int .u64 lo, .int .u64 y] w fun e w' => e = .returned (.tuple #[.int .u64 0, .int .u64 0, .int .i64 5]) ∧ w' = w := by
  have g1 : (y == 0) = false := by simp; omega
  go_enter Try.func78, Try.ntmps78
  go_wp2_with fail
  go_ret3
  exact ⟨rfl, rfl⟩
end Go.Proofs.Ytopmbfiepheepaa
