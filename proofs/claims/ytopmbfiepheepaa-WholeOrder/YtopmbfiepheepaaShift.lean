/-
  shiftUp and shiftDown: a row of limbs that the call made itself, moved by fewer than 64 binary digits in its own memory.
-/
import Derived.Test.YtopmbfiepheepaaLists
import Derived.Test.YtopmbfiepheepaaShiftPlain
import Derived.Test.YtopmbfiepheepaaDiv
import Derived.Deep.RegionWith
namespace Go.Proofs.Ytopmbfiepheepaa
open Go.RowKit Go.Shelf

theorem or_two (a b s : Nat) (ha : a * 2 ^ s < 18446744073709551616) (hb : b < 2 ^ s) (hb' : b < 18446744073709551616) :
    bits .or .u64 ((a * 2 ^ s : Nat) : Int) (b : Int) = ((a * 2 ^ s + b : Nat) : Int) ∧ bits .or .u64 (b : Int) ((a * 2 ^ s : Nat) : Int) = ((a * 2 ^ s + b : Nat) : Int) := by
  have := Nat.shiftLeft_add_eq_or_of_lt hb a
  rw [Nat.shiftLeft_eq] at this
  rw [bits_or_u64_nat _ _ ha hb', bits_or_u64_nat _ _ hb' ha, Nat.or_comm b, ← this]
  exact ⟨rfl, rfl⟩
theorem two_parts (s : Nat) (hs : s ≤ 63) : (2 : Int) ^ s * 2 ^ (64 - s) = 18446744073709551616 ∧ (0 : Int) < 2 ^ s ∧ (0 : Int) < 2 ^ (64 - s) := by
  refine ⟨?_, Int.pow_pos (by decide), Int.pow_pos (by decide)⟩
  rw [← Int.pow_add, show s + (64 - s) = 64 by omega]; rfl
theorem up_or (x c : Int) (s : Nat) (hs : s ≤ 63) (hx : 0 ≤ x ∧ x < 18446744073709551616) (hc : 0 ≤ c ∧ c < 2 ^ s) :
    bits .or .u64 (IntKind.u64.wrap (x * 2 ^ s)) c = (x * 2 ^ s) % 18446744073709551616 + c := by
  obtain ⟨hPD, hP, hD⟩ := two_parts s hs
  obtain ⟨-, p2, p3, -, -, p6⟩ := up_word hPD hP hD hx hc
  have h1 := Int.emod_nonneg x (b := (2 : Int) ^ (64 - s)) (by omega)
  obtain ⟨a, ha⟩ := Int.eq_ofNat_of_zero_le h1
  obtain ⟨b, rfl⟩ := Int.eq_ofNat_of_zero_le hc.1
  have c64 : ((2 ^ s : Nat) : Int) = 2 ^ s := by simp
  rw [IntKind.wrap_u64, p6, ha, ← c64, ← Int.natCast_mul]
  rw [p6, ha, ← c64, ← Int.natCast_mul] at p3
  rw [(or_two a b s (by omega) (by omega) (by omega)).1, Int.natCast_add]
theorem down_or (x y : Int) (s : Nat) (hs : s ≤ 63) (hx : 0 ≤ x ∧ x < 18446744073709551616) :
    bits .or .u64 (x / 2 ^ s) (IntKind.u64.wrap (y * 2 ^ (64 - s))) = x / 2 ^ s + (y * 2 ^ (64 - s)) % 18446744073709551616 := by
  obtain ⟨hPD, hP, hD⟩ := two_parts s hs
  obtain ⟨-, p2, p3, p4, p5, p6⟩ := down_word (y := y) hPD hP hD hx
  have h1 := Int.emod_nonneg y (b := (2 : Int) ^ s) (by omega)
  obtain ⟨a, ha⟩ := Int.eq_ofNat_of_zero_le h1
  obtain ⟨b, hb⟩ := Int.eq_ofNat_of_zero_le p2
  have c64 : ((2 ^ (64 - s) : Nat) : Int) = 2 ^ (64 - s) := by simp
  rw [IntKind.wrap_u64, p4, ha, hb, ← c64, ← Int.natCast_mul]
  rw [p4, ha, hb, ← c64, ← Int.natCast_mul] at p6
  rw [hb, ← c64] at p3
  rw [(or_two a b (64 - s) (by omega) (by omega) (by omega)).2, Int.natCast_add, Int.add_comm]

set_option maxHeartbeats 1000000 in
theorem shiftDown_any (g n c s : Nat) (xs : List Int) (w : World) (ho : Own w g xs) (hx : Limbs xs) (hn : n = xs.length) (hnb : xs.length ≤ 20000000000000) (hs : s ≤ 63) :
    Calls Try.prog 96 #[.slice (some ⟨g, 0, none⟩) n c, .int .i64 s] w fun e w' =>
      e = .returned (.tuple #[]) ∧ ∃ cs, Own w' g cs ∧ cs.length = xs.length ∧ Limbs cs ∧ num cs = num xs / 2 ^ s ∧ Below g w w' := by
  obtain ⟨hPD, hP, hD⟩ := two_parts s hs
  have m1 : min s 64 = s := by omega
  have m2 : min (64 - s) 64 = 64 - s := by omega
  have m3 : ((64 : Int) - s).toNat = 64 - s := by omega
  have HI0 : Hid (DnInv xs xs (2 ^ s) 0) := dninv_start hx
  have HO : Hid (Own w g xs) := ho
  have HP : Hid ((2 : Int) ^ s * 2 ^ (64 - s) = 18446744073709551616) := hPD
  have HN : Hid (n = xs.length) := hn
  have hnb' : n ≤ 20000000000000 := by omega
  clear ho hPD hn hnb
  go_enter Try.func96, Try.ntmps96
  go_wp2_with fail
  go_loopw [7] (fun i wr => ∃ (k : Nat) (cs : List Int), k ≤ n ∧ i = .int .i64 k ∧ Hid (DnInv xs cs (2 ^ s) k) ∧ Hid (Own wr g cs) ∧ Below g w wr) (fun i _ => n - (intOf i).toNat)
  case atStart => exact ⟨0, xs, Nat.zero_le _, rfl, HI0, HO, Below.refl _ _⟩
  case round =>
    obtain ⟨k, cs, hk, rfl, hI, ho, hbl⟩ := hrel
    by_cases hlt : k < n
    · have hlen := hI.out.1
      rw [← HN.out] at hlen
      have hcx := ho.out.cell k (by omega)
      have hfx := ho.out.frozen k
      have hw1 := hI.out.2.1.getD k
      have hstep := dninv_step HP.out hP hD hI.out (by rw [← HN.out]; omega)
      have hsl := ho.out.sl hI.out.2.1
      rw [hlen] at hsl
      obtain ⟨x, hxx⟩ : ∃ x, cs.getD k 0 = x := ⟨_, rfl⟩
      obtain ⟨y, hyy⟩ : ∃ y, cs.getD (k + 1) 0 = y := ⟨_, rfl⟩
      have ek : ((k : Int) + 1).toNat = k + 1 := by omega
      have L : ∀ W0, Sl W0 (some ⟨g, 0, none⟩) n cs → Calls Try.prog 74 #[.slice (some ⟨g, 0, none⟩) n c, .int .i64 (k + 1)] W0 fun e w' => e = .returned (.int .u64 y) ∧ w' = W0 := by
        intro W0 hW0
        have := limbAt_any (some ⟨g, 0, none⟩) n c cs (k + 1) W0 hW0 (by omega)
        rw [ek, hyy] at this; exact this
      have LH : Hid (∀ W0, Sl W0 (some ⟨g, 0, none⟩) n cs → Calls Try.prog 74 #[.slice (some ⟨g, 0, none⟩) n c, .int .i64 (k + 1)] W0 fun e w' => e = .returned (.int .u64 y) ∧ w' = W0) := L
      rw [hxx] at hcx hw1
      rw [hxx, hyy] at hstep
      have e1 := down_or x y s hs hw1
      obtain ⟨v, hv⟩ : ∃ v, x / 2 ^ s + (y * 2 ^ (64 - s)) % 18446744073709551616 = v := ⟨_, rfl⟩
      rw [hv] at e1 hstep
      have HS : Hid (DnInv xs (cs.set k v) (2 ^ s) (k + 1)) := hstep
      clear hstep hxx hyy hv L ek hlen
      have LD : Hid (Calls Try.prog 74 #[.slice (some ⟨g, 0, none⟩) n c, .int .i64 (k + 1)] wr.drew fun e w' => e = .returned (.int .u64 y) ∧ w' = wr.drew) := LH.out wr.drew (hsl.drewN 1)
      clear hsl LH
      have ew1 : IntKind.i64.wrap ((k : Int) + 1) = k + 1 := by rw [IntKind.wrap_i64]; omega
      have ew2 : IntKind.i64.wrap (64 - (s : Int)) = 64 - s := by rw [IntKind.wrap_i64]; omega
      go_wp2_with fail
      go_region_with (go_at_call 74; refine LD.out.mono ?_; rintro e w2 ⟨rfl, rfl⟩)
      all_goals
        go_wp2_with fail
        go_roundw
        case rel => exact ⟨k + 1, _, by omega, by go_num, HS, Own.set (w := wr.drew) ho.out k _, hbl.drew.setCell (Nat.le_refl _) _⟩
        case measure => simp [intOf]; omega
    · obtain rfl : k = n := by omega
      have hI' := hI.out
      rw [HN.out] at hI'
      have HE : Hid (num cs = num xs / 2 ^ s) := dninv_end hP hI'
      have hlen : Hid (cs.length = xs.length) := hI'.1
      have HL : Hid (Limbs cs) := hI'.2.1
      clear hI'
      go_wp2_with fail
      go_end0
      exact ⟨rfl, cs, ho.out, hlen.out, HL.out, HE.out, hbl⟩
end Go.Proofs.Ytopmbfiepheepaa
