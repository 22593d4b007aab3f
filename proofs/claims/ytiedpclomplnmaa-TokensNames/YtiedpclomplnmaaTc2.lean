/-
  tokens: wordLength, numberLength, markLength, beginsDate, Code, goesOn, remark.
-/
import Derived.Test.YtiedpclomplnmaaTc1
namespace Go.Proofs.Ytiedpclomplnmaa
open Go.RowKit Go.Shelf
set_option linter.unusedVariables false

theorem drop1 {s t : List UInt8} {n : Nat} {c : UInt8} (h : s.drop n = c :: t) : t = s.drop (n + 1) := by
  have := congrArg (List.drop 1) h
  simpa using this.symm
theorem word_any (s : List UInt8) (w : World) (hl : s.length ≤ 140737488355328) :
    Calls Try.prog 35 #[sv s] w fun e w' => e = .returned (.int .i64 (wl s)) ∧ w' = w := by
  have hp0 := fun W => part_any s W hl
  have hpl := pt_le s
  have HW : Hid (pt s + wq (s.drop (pt s)) = wl s) := rfl
  generalize pt s = q at *
  generalize wl s = R at *
  have hp1 := fun (n : Nat) (W : World) (hn : n ≤ s.length) => part_any (s.drop n) W (by simp; omega)
  go_enter Try.func35, Try.ntmps35
  go_wp2_with fail
  refine (hp0 _).mono ?_
  rintro e w' ⟨rfl, hw'⟩
  rw [hw']; clear hw' w' hp0
  go_wp2_with fail
  go_loopw [3] (fun i wr => ∃ n : Nat, i = .int .i64 n ∧ n ≤ s.length ∧ Hid (n + wq (s.drop n) = R) ∧ wr = w) (fun i _ => (s.length - (intOf i).toNat : Nat))
  case atStart => exact ⟨q, rfl, hpl, HW.out, rfl⟩
  case round =>
    clear HW hpl
    obtain ⟨n, rfl, hn, HN, hw⟩ := hrel
    subst hw
    rcases Nat.lt_or_ge n s.length with hlt | hge
    · obtain ⟨c, hc, hcd⟩ := byte_at s n hlt
      have hat := str_at s n c hc
      have hi : (n : Int) < s.length := by omega
      have hce := u8_eq c 46 (by omega)
      have hq := hp1 (n + 1)
      have hql := pt_le (s.drop (n + 1))
      have HN2 : Hid ((if c = 46 ∧ pt (s.drop (n + 1)) ≠ 0 then 1 + pt (s.drop (n + 1)) + wq ((s.drop (n + 1)).drop (pt (s.drop (n + 1)))) else 0) + n = R) := by
        have := HN.out
        rw [hcd, wq_cons] at this
        show _ = _
        omega
      have hsl := slice_lo s (n + 1) (n + 1) (by omega) (by omega)
      simp only [List.length_drop] at hql
      have hdd : (s.drop (n + 1)).drop (pt (s.drop (n + 1))) = s.drop (n + 1 + pt (s.drop (n + 1))) := by rw [List.drop_drop]
      rw [hdd] at HN2
      clear hp1 hc hcd HN hdd
      generalize hZ : s.drop (n + 1) = Z at *
      clear hZ
      generalize pt Z = z at *
      by_cases h46 : (c.toNat : Int) = 46
      · have hc46 : c = 46 := hce.1 h46
        have hb : ((c.toNat : Int) == 46) = true := by simpa using h46
        cases z with
        | zero =>
          have HE : Hid (R = n) := by have := HN2.out; simp at this; exact this.symm
          clear HN2 hce hc46 h46
          go_wp2_with fail
          refine (hq _ (by omega)).mono ?_
          rintro e w' ⟨rfl, hw'⟩
          rw [hw']; clear hw' w'
          go_wp2_with fail
          go_ret
          exact ⟨by rw [HE.out]; rfl, rfl⟩
        | succ z =>
          have HE : Hid ((n + 1 + (z + 1)) + wq (s.drop (n + 1 + (z + 1))) = R) := by
            have := HN2.out
            rw [if_pos ⟨hc46, by omega⟩] at this
            show _ = _
            omega
          have hz0 : ((z + 1 : Nat) : Int) ≠ 0 := by omega
          have hzb : (((z + 1 : Nat) : Int) == 0) = false := by simpa using hz0
          have hql' : n + 1 + (z + 1) ≤ s.length := by omega
          clear HN2 hce hc46 h46 hql
          generalize z + 1 = y at *
          go_wp2_with fail
          refine (hq _ (by omega)).mono ?_
          rintro e w' ⟨rfl, hw'⟩
          rw [hw']; clear hw' w'
          go_wp2_with fail
          go_roundw
          case rel => exact ⟨n + 1 + y, by simp; omega, by omega, HE.out, trivial⟩
          case measure => simp [intOf]; omega
      · have hc46 : ¬ c = 46 := fun h => h46 (hce.2 h)
        have hb : ((c.toNat : Int) == 46) = false := by simpa using h46
        have HE : Hid (R = n) := by
          have := HN2.out; rw [if_neg (fun h => hc46 h.1)] at this; show _ = _; omega
        clear HN2 hce hc46 h46
        go_wp2_with fail
        go_ret
        exact ⟨by rw [HE.out]; rfl, rfl⟩
    · obtain rfl : n = s.length := by omega
      have HE : Hid (R = s.length) := by
        have := HN.out
        rw [List.drop_length] at this
        show _ = _
        rw [← this]; rfl
      clear HN hge hp1
      go_wp2_with fail
      go_ret
      exact ⟨by rw [HE.out]; rfl, rfl⟩
theorem number_any (s : List UInt8) (w : World) (hl : s.length ≤ 140737488355328) :
    Calls Try.prog 38 #[sv s] w fun e w' => e = .returned (.int .i64 (nl s)) ∧ w' = w := by
  have hp0 := fun W => runD s W hl
  have hpl := rn_le dg s
  have HW : Hid (nl s = match s.drop (rn dg s) with | [] => rn dg s | c :: t => if c = 46 ∧ rn dg t ≠ 0 then rn dg s + 1 + rn dg t else rn dg s) := rfl
  have hp1 := fun (n : Nat) (W : World) (hn : n ≤ s.length) => runD (s.drop n) W (by simp; omega)
  generalize rn dg s = n at *
  generalize nl s = R at *
  rcases Nat.lt_or_ge n s.length with hlt | hge
  · obtain ⟨c, hc, hcd⟩ := byte_at s n hlt
    have hat := str_at s n c hc
    have hi : (n : Int) < s.length := by omega
    have hne : ((n : Int) == s.length) = false := by simp; omega
    have hce := u8_eq c 46 (by omega)
    have hq := fun W => hp1 (n + 1) W (by omega)
    have hql := rn_le dg (s.drop (n + 1))
    have HN2 : Hid ((if c = 46 ∧ rn dg (s.drop (n + 1)) ≠ 0 then n + 1 + rn dg (s.drop (n + 1)) else n) = R) := by
      have := HW.out
      rw [hcd] at this
      exact this.symm
    have hsl := slice_lo s (n + 1) (n + 1) (by omega) (by omega)
    simp only [List.length_drop] at hql
    clear hp1 hc hcd HW
    generalize hZ : s.drop (n + 1) = Z at *
    clear hZ
    generalize rn dg Z = z at *
    by_cases h46 : (c.toNat : Int) = 46
    · have hc46 : c = 46 := hce.1 h46
      have hb : ((c.toNat : Int) == 46) = true := by simpa using h46
      cases z with
      | zero =>
        have HE : Hid (R = n) := by have := HN2.out; simp at this; exact this.symm
        clear HN2 hce hc46 h46
        go_enter Try.func38, Try.ntmps38
        go_wp2_with fail
        refine (hp0 _).mono ?_
        rintro e w' ⟨rfl, hw'⟩
        rw [hw']; clear hw' w' hp0
        go_wp2_with fail
        refine (hq _).mono ?_
        rintro e w' ⟨rfl, hw'⟩
        rw [hw']; clear hw' w'
        go_wp2_with fail
        go_ret
        exact ⟨by rw [HE.out]; rfl, rfl⟩
      | succ z =>
        have HE : Hid ((R : Int) = (n : Int) + 1 + ((z + 1 : Nat) : Int)) := by
          have := HN2.out
          rw [if_pos ⟨hc46, by omega⟩] at this
          show _ = _
          omega
        have hz0 : ((z + 1 : Nat) : Int) ≠ 0 := by omega
        have hzb : (((z + 1 : Nat) : Int) == 0) = false := by simpa using hz0
        clear HN2 hce hc46 h46
        generalize z + 1 = y at *
        go_enter Try.func38, Try.ntmps38
        go_wp2_with fail
        refine (hp0 _).mono ?_
        rintro e w' ⟨rfl, hw'⟩
        rw [hw']; clear hw' w' hp0
        go_wp2_with fail
        refine (hq _).mono ?_
        rintro e w' ⟨rfl, hw'⟩
        rw [hw']; clear hw' w'
        go_wp2_with fail
        go_ret
        exact ⟨by rw [HE.out]; rfl, rfl⟩
    · have hc46 : ¬ c = 46 := fun h => h46 (hce.2 h)
      have hb : ((c.toNat : Int) == 46) = false := by simpa using h46
      have HE : Hid (R = n) := by
        have := HN2.out; rw [if_neg (fun h => hc46 h.1)] at this; show _ = _; omega
      clear HN2 hce hc46 h46
      go_enter Try.func38, Try.ntmps38
      go_wp2_with fail
      refine (hp0 _).mono ?_
      rintro e w' ⟨rfl, hw'⟩
      rw [hw']; clear hw' w' hp0
      go_wp2_with fail
      go_ret
      exact ⟨by rw [HE.out]; rfl, rfl⟩
  · obtain rfl : n = s.length := by omega
    have HE : Hid (R = s.length) := by
      have := HW.out
      rw [List.drop_length] at this
      exact this
    clear HW hge hp1
    go_enter Try.func38, Try.ntmps38
    go_wp2_with fail
    refine (hp0 _).mono ?_
    rintro e w' ⟨rfl, hw'⟩
    rw [hw']; clear hw' w' hp0
    go_wp2_with fail
    go_ret
    exact ⟨by rw [HE.out]; rfl, rfl⟩
end Go.Proofs.Ytiedpclomplnmaa
