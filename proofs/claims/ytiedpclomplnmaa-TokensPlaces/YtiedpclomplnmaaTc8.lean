/-
  tokens: the statements' blank and between.
-/
import Derived.Test.YtiedpclomplnmaaTcS
import Derived.Test.YtiedpclomplnmaaTc1
namespace Go.Proofs.Ytiedpclomplnmaa
open Go.RowKit Go.Shelf
set_option linter.unusedVariables false

theorem blank_any (c : UInt8) (w : World) : Calls Try.prog 16 #[.int .u8 c.toNat] w fun e w' => e = .returned (.bool (blk c)) ∧ w' = w := by
  have e32 : ((c.toNat : Int) = 32) ↔ c = 32 := u8_eq c 32 (by omega)
  have e9 : ((c.toNat : Int) = 9) ↔ c = 9 := u8_eq c 9 (by omega)
  have e10 : ((c.toNat : Int) = 10) ↔ c = 10 := u8_eq c 10 (by omega)
  have e13 : ((c.toNat : Int) = 13) ↔ c = 13 := u8_eq c 13 (by omega)
  have HS : Hid (blk c = (c == 32 || c == 9 || c == 10 || c == 13)) := rfl
  by_cases h32 : (c.toNat : Int) = 32
  · have HE : Hid (blk c = true) := by show _ = _; rw [HS.out]; simp [e32.1 h32]
    have b32 : ((c.toNat : Int) == 32) = true := by simpa using h32
    clear HS e32 e9 e10 e13 h32
    go_enter Try.func16, Try.ntmps16
    go_wp2_with fail
    go_ret
    exact ⟨by rw [HE.out]; rfl, rfl⟩
  · have b32 : ((c.toNat : Int) == 32) = false := by simpa using h32
    by_cases h9 : (c.toNat : Int) = 9
    · have HE : Hid (blk c = true) := by show _ = _; rw [HS.out]; simp [e9.1 h9]
      have b9 : ((c.toNat : Int) == 9) = true := by simpa using h9
      clear HS e32 e9 e10 e13 h32 h9
      go_enter Try.func16, Try.ntmps16
      go_wp2_with fail
      go_ret
      exact ⟨by rw [HE.out]; rfl, rfl⟩
    · have b9 : ((c.toNat : Int) == 9) = false := by simpa using h9
      by_cases h10 : (c.toNat : Int) = 10
      · have HE : Hid (blk c = true) := by show _ = _; rw [HS.out]; simp [e10.1 h10]
        have b10 : ((c.toNat : Int) == 10) = true := by simpa using h10
        clear HS e32 e9 e10 e13 h32 h9 h10
        go_enter Try.func16, Try.ntmps16
        go_wp2_with fail
        go_ret
        exact ⟨by rw [HE.out]; rfl, rfl⟩
      · have b10 : ((c.toNat : Int) == 10) = false := by simpa using h10
        by_cases h13 : (c.toNat : Int) = 13
        · have HE : Hid (blk c = true) := by show _ = _; rw [HS.out]; simp [e13.1 h13]
          have b13 : ((c.toNat : Int) == 13) = true := by simpa using h13
          clear HS e32 e9 e10 e13 h32 h9 h10 h13
          go_enter Try.func16, Try.ntmps16
          go_wp2_with fail
          go_ret
          exact ⟨by rw [HE.out]; rfl, rfl⟩
        · have HE : Hid (blk c = false) := by
            have g1 : ¬ c = 32 := fun h => h32 (e32.2 h)
            have g2 : ¬ c = 9 := fun h => h9 (e9.2 h)
            have g3 : ¬ c = 10 := fun h => h10 (e10.2 h)
            have g4 : ¬ c = 13 := fun h => h13 (e13.2 h)
            show _ = _; rw [HS.out]; simp [g1, g2, g3, g4]
          have b13 : ((c.toNat : Int) == 13) = false := by simpa using h13
          clear HS e32 e9 e10 e13 h32 h9 h10 h13
          go_enter Try.func16, Try.ntmps16
          go_wp2_with fail
          go_ret
          exact ⟨by rw [HE.out]; rfl, rfl⟩
set_option maxHeartbeats 1000000 in
theorem between_any (s : List UInt8) (w : World) (hl : s.length ≤ 140737488355328) : Calls Try.prog 17 #[sv s] w fun e w' => e = .returned (.bool (bws false s).isSome) ∧ w' = w := by
  obtain ⟨R, hR⟩ : ∃ R, (bws false s).isSome = R := ⟨_, rfl⟩
  rw [hR]
  have HR : Hid ((bws false s).isSome = R) := hR
  clear hR
  go_enter Try.func17, Try.ntmps17
  go_wp2_with fail
  go_loopw [3, 4] (fun b i wr => ∃ (k : Nat) (r : Bool), i = .int .i64 k ∧ b = .bool r ∧ k ≤ s.length ∧ Hid ((bws r (s.drop k)).isSome = R) ∧ wr = w) (fun _ i _ => (s.length - (intOf i).toNat : Nat))
  case atStart => exact ⟨0, false, rfl, rfl, Nat.zero_le _, HR.out, rfl⟩
  case round =>
    clear HR
    obtain ⟨k, r, rfl, rfl, hk, HR, hw⟩ := hrel
    subst hw
    rcases Nat.lt_or_ge k s.length with hlt | hge
    · obtain ⟨c, hc, hcd⟩ := byte_at s k hlt
      have hat := str_at s k c hc
      have hki : (k : Int) < s.length := by omega
      have hbl := blank_any c
      have HE : Hid ((if (if c = 35 then true else if c = 10 then false else r) = false ∧ blk c = false then none else bws (if c = 35 then true else if c = 10 then false else r) (s.drop (k + 1))).isSome = R) := by
        have := HR.out
        rw [hcd, bws] at this
        exact this
      have e10 : ((c.toNat : Int) = 10) ↔ c = 10 := u8_eq c 10 (by omega)
      have e35 : ((c.toNat : Int) = 35) ↔ c = 35 := u8_eq c 35 (by omega)
      clear hc hcd HR
      by_cases h35 : (c.toNat : Int) = 35
      · have HE2 : Hid ((bws true (s.drop (k + 1))).isSome = R) := by
          have := HE.out
          rw [if_pos (e35.1 h35), if_neg (by simp)] at this; exact this
        have b35 : ((c.toNat : Int) == 35) = true := by simpa using h35
        have b10 : ((c.toNat : Int) == 10) = false := by simp; omega
        clear HE e10 e35 h35
        go_wp2_with fail
        go_roundw
        case rel => exact ⟨k + 1, true, rfl, rfl, by omega, HE2.out, trivial⟩
        case measure => simp [intOf]; omega
      · have b35 : ((c.toNat : Int) == 35) = false := by simpa using h35
        have HE3 : Hid ((if (if c = 10 then false else r) = false ∧ blk c = false then none else bws (if c = 10 then false else r) (s.drop (k + 1))).isSome = R) := by
          have := HE.out
          rw [if_neg (fun h => h35 (e35.2 h))] at this; exact this
        by_cases h10 : (c.toNat : Int) = 10
        · have b10 : ((c.toNat : Int) == 10) = true := by simpa using h10
          have hb1 : blk c = true := by rw [e10.1 h10]; rfl
          rw [hb1] at hbl
          have HE2 : Hid ((bws false (s.drop (k + 1))).isSome = R) := by
            have := HE3.out
            rw [if_pos (e10.1 h10), if_neg (by simp [hb1])] at this; exact this
          clear HE HE3 e10 e35 h35 h10 hb1
          go_wp2_with fail
          refine (hbl _).mono ?_
          rintro e w' ⟨rfl, hw'⟩
          rw [hw']; clear hw' w'
          go_wp2_with fail
          go_roundw
          case rel => exact ⟨k + 1, false, rfl, rfl, by omega, HE2.out, trivial⟩
          case measure => simp [intOf]; omega
        · have b10 : ((c.toNat : Int) == 10) = false := by simpa using h10
          have HE4 : Hid ((if r = false ∧ blk c = false then none else bws r (s.drop (k + 1))).isSome = R) := by
            have := HE3.out
            rw [if_neg (fun h => h10 (e10.2 h))] at this; exact this
          clear HE HE3 e10 e35 h35 h10
          cases r with
          | true =>
            have HE2 : Hid ((bws true (s.drop (k + 1))).isSome = R) := by
              have := HE4.out
              rw [if_neg (by simp)] at this; exact this
            clear HE4
            go_wp2_with fail
            go_roundw
            case rel => exact ⟨k + 1, true, rfl, rfl, by omega, HE2.out, trivial⟩
            case measure => simp [intOf]; omega
          | false =>
            cases hb : blk c with
            | true =>
              have HE2 : Hid ((bws false (s.drop (k + 1))).isSome = R) := by
                have := HE4.out
                rw [if_neg (by simp [hb])] at this; exact this
              rw [hb] at hbl
              clear HE4 hb
              go_wp2_with fail
              refine (hbl _).mono ?_
              rintro e w' ⟨rfl, hw'⟩
              rw [hw']; clear hw' w'
              go_wp2_with fail
              go_roundw
              case rel => exact ⟨k + 1, false, rfl, rfl, by omega, HE2.out, trivial⟩
              case measure => simp [intOf]; omega
            | false =>
              have HE2 : Hid (R = false) := by
                have := HE4.out
                rw [if_pos ⟨rfl, hb⟩] at this; exact this.symm
              rw [hb] at hbl
              clear HE4 hb
              go_wp2_with fail
              refine (hbl _).mono ?_
              rintro e w' ⟨rfl, hw'⟩
              rw [hw']; clear hw' w'
              go_wp2_with fail
              go_ret
              exact ⟨by rw [HE2.out]; rfl, rfl⟩
    · obtain rfl : k = s.length := by omega
      have HE2 : Hid (R = true) := by
        have := HR.out
        rw [List.drop_length] at this; exact this.symm
      clear hge HR
      go_wp2_with fail
      go_ret
      exact ⟨by rw [HE2.out]; rfl, rfl⟩
end Go.Proofs.Ytiedpclomplnmaa
