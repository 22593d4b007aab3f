/-
  The document's reading of a decimal: digit, behind, shape, units, Parse.
-/
import Derived.Test.YtebbblhafjaaiaaGreatDoorDpP
import Derived.Test.YtebbblhafjaaiaaGreatDoorStrP
import Derived.Test.YtebbblhafjaaiaaGreatDoorBsM
import Derived.Test.YtebbblhafjaaiaaGreatDoorDec6
import Derived.Test.YtebbblhafjaaiaaGreatDoorBsK
namespace Go.Proofs.YtebbblhafjaaiaaGreatDoor
open Go.RowKit Go.Shelf
set_option linter.unusedVariables false
theorem byte6 (s : List UInt8) (p : Nat) (h : p < s.length) : (ByteArray.mk s.toArray)[p]'(by rw [bsize]; exact h) = s.getD p 0 := by
  rw [List.getD_eq_getElem?_getD, List.getElem?_eq_getElem h]; rfl
theorem rdigit6 (c : UInt8) (w : World) : Calls Tryz.prog 59 #[.int .u8 (c.toNat : Int)] w fun e w' => e = .returned (.bool (isD c)) ∧ w' = w := by
  have hi := isD_iff c
  obtain ⟨q, hq⟩ : ∃ q, isD c = q := ⟨_, rfl⟩
  rw [hq] at hi ⊢
  by_cases h1 : 48 ≤ c.toNat
  · by_cases h2 : c.toNat ≤ 57
    · obtain rfl : q = true := hi.2 ⟨h1, h2⟩
      have i1 : (48 : Int) ≤ c.toNat := by omega
      have i2 : (c.toNat : Int) ≤ 57 := by omega
      clear hi hq
      go_enter Tryz.func59, Tryz.ntmps59
      go_wp2_with fail
      go_ret
      exact ⟨by first | rfl | (congr 2; simp; omega), rfl⟩
    · obtain rfl : q = false := by
        cases q
        · rfl
        · exact absurd (hi.1 rfl).2 h2
      have i1 : (48 : Int) ≤ c.toNat := by omega
      have i2 : ¬ (c.toNat : Int) ≤ 57 := by omega
      clear hi hq
      go_enter Tryz.func59, Tryz.ntmps59
      go_wp2_with fail
      go_ret
      exact ⟨by first | rfl | (congr 2; simp; omega), rfl⟩
  · obtain rfl : q = false := by
      cases q
      · rfl
      · exact absurd (hi.1 rfl).1 h1
    have i1 : ¬ (48 : Int) ≤ c.toNat := by omega
    clear hi hq
    go_enter Tryz.func59, Tryz.ntmps59
    go_wp2_with fail
    go_ret
    exact ⟨by first | rfl | (congr 2; simp; omega), rfl⟩
set_option maxHeartbeats 1000000 in
theorem rbehind6 (s : List UInt8) (p : Nat) (hs : s.length ≤ 140737488355328) (hp : p ≤ s.length) (w : World) :
    Calls Tryz.prog 106 #[.string ⟨s.toArray⟩, .int .i64 p] w fun e w' => e = .returned (.int .i64 (bhL s p)) ∧ w' = w := by
  obtain ⟨B, hB⟩ : ∃ B, bhL s p = B := ⟨_, rfl⟩
  rw [hB]
  have S0 : Hid (bhL s p = B) := hB
  clear hB
  go_enter Tryz.func106, Tryz.ntmps106
  go_wp2_with fail
  go_loopw [1] (fun i W => ∃ k : Nat, i = .int .i64 k ∧ k ≤ s.length ∧ Hid (bhL s k = B) ∧ Hid (W = w)) (fun i _ => ((s.length : Int) - intOf i).toNat)
  case atStart => exact ⟨p, rfl, hp, S0, rfl⟩
  case round =>
    obtain ⟨k, rfl, hk, HK, HW⟩ := hrel
    clear S0
    by_cases hlt : k < s.length
    · have hki : (k : Int) < s.length := by omega
      have hby := byte6 s k hlt
      have hst := bhL_step s hlt
      have hsp := bhL_stop s hlt
      obtain ⟨c, hc⟩ : ∃ c, s.getD k 0 = c := ⟨_, rfl⟩
      rw [hc] at hby hst hsp
      have hdg := rdigit6 c wr
      cases hd : isD c
      · rw [hd] at hdg
        have HE : Hid (B = k) := HK.out.symm.trans (hsp hd)
        clear hc hst hsp hd HK
        go_wp2_with fail
        go_at_call 59
        refine hdg.mono ?_
        rintro e w3 ⟨rfl, hw3⟩
        rw [hw3]
        clear hw3 hdg
        go_wp2_with fail
        go_ret
        have hh := HE.out
        subst hh
        exact ⟨rfl, HW.out⟩
      · rw [hd] at hdg
        have HE : Hid (bhL s (k + 1) = B) := (hst hd).trans HK.out
        clear hc hst hsp hd HK
        go_wp2_with fail
        go_at_call 59
        refine hdg.mono ?_
        rintro e w3 ⟨rfl, hw3⟩
        rw [hw3]
        clear hw3 hdg
        go_wp2_with fail
        go_roundw
        case rel => exact ⟨k + 1, by go_num, by omega, HE, HW⟩
        case measure => simp [intOf]; omega
    · have hki : ¬ (k : Int) < s.length := by omega
      have HE : Hid (B = k) := by show _ = _; rw [← HK.out]; exact bhL_end s (by omega)
      clear HK
      go_wp2_with fail
      go_ret
      have hh := HE.out
      subst hh
      exact ⟨rfl, HW.out⟩

set_option maxHeartbeats 2000000 in
theorem rshape6 (s : List UInt8) (hs : s.length ≤ 140737488355328) (w : World) :
    Calls Tryz.prog 58 #[.string ⟨s.toArray⟩] w fun e w' => e = .returned (.tuple #[.int .i64 (shL s).1, .int .i64 ((shL s).2 : Int)]) ∧ w' = w := by
  have hal := ahL_le s
  have hbe := rbehind6 s (ahL s) hs hal
  have hb1 := bhL_le s hal
  have hnot := bhL_not s hal
  obtain ⟨sh, hsh⟩ : ∃ sh, shL s = sh := ⟨_, rfl⟩
  rw [hsh]
  have HS : Hid (shL s = sh) := hsh
  clear hsh
  unfold shL at HS
  dsimp only at HS
  obtain ⟨p, hp⟩ : ∃ p, bhL s (ahL s) = p := ⟨_, rfl⟩
  rw [hp] at hbe hb1 HS hnot
  have HA : Hid ((s = [] ∧ ahL s = 0) ∨ (∃ t, s = 45 :: t ∧ ahL s = 1) ∨ (∃ c t, s = c :: t ∧ c ≠ 45 ∧ ahL s = 0)) := by
    unfold ahL
    cases s with
    | nil => exact .inl ⟨rfl, by simp⟩
    | cons c t =>
      by_cases h : c = 45
      · subst h; exact .inr (.inl ⟨t, rfl, by simp⟩)
      · exact .inr (.inr ⟨c, t, rfl, h, by simp [h]⟩)
  obtain ⟨q, hq⟩ : ∃ q, ahL s = q := ⟨_, rfl⟩
  rw [hq] at hbe hb1 HS HA
  clear hp hq hal
  have hb2 := fun h => rbehind6 s (p + 1) hs h
  have hb3 := bhL_le s (p := p + 1)
  have key : ∀ W : World, W = w → True := fun _ _ => trivial
  rcases HA.out with ⟨e1, e2⟩ | ⟨t, e1, e2⟩ | ⟨c, t, e1, hc, e2⟩
  ·
    subst e1
    subst e2
    obtain rfl : p = 0 := by simp at hb1; omega
    have HE : Hid (sh = (0, 0)) := by show _ = _; rw [← HS.out]; simp
    clear HS HA hb2 hb3 hnot key
    go_enter Tryz.func58, Tryz.ntmps58
    go_wp2_with fail
    go_at_call 106
    refine (hbe w).mono ?_
    rintro e w3 ⟨rfl, hw3⟩
    rw [hw3]
    clear hw3 hbe
    go_wp2_with fail
    go_ret2
    exact ⟨by rw [HE.out]; rfl, rfl⟩
  ·
    subst e2
    have hl0 : 0 < s.length := by rw [e1]; simp
    have hl0i : (0 : Int) < s.length := by omega
    have hby := byte6 s 0 hl0
    rw [show s.getD 0 0 = 45 from by rw [e1]; rfl] at hby
    clear e1 HA key
    by_cases h1 : p = 1
    · subst h1
      have HE : Hid (sh = (1, 0)) := by show _ = _; rw [← HS.out, if_pos (Or.inl rfl)]; rfl
      clear HS hnot hb2 hb3
      go_enter Tryz.func58, Tryz.ntmps58
      go_wp2_with fail
      go_at_call 106
      refine (hbe w).mono ?_
      rintro e w3 ⟨rfl, hw3⟩
      rw [hw3]
      clear hw3 hbe
      go_wp2_with fail
      go_ret2
      exact ⟨by rw [HE.out]; rfl, rfl⟩
    · have h1b : ((p : Int) == 1) = false := by simp; omega
      have h1i : ¬ (p : Int) = 1 := by omega
      by_cases h2 : p < s.length
      · have h2i : (p : Int) < s.length := by omega
        have h2n : decide (p < s.length) = true := decide_eq_true h2
        have hbp := byte6 s p h2
        obtain ⟨d, hd⟩ : ∃ d, s.getD p 0 = d := ⟨_, rfl⟩
        rw [hd] at hbp HS
        by_cases h3 : d = 46
        · subst h3
          have h4 : ¬ p = s.length := by omega
          have h4i : ¬ (p : Int) = s.length := by omega
          have h4b : ((p : Int) == s.length) = false := by simp; omega
          replace hb2 := hb2 (by omega)
          replace hb3 := hb3 (by omega)
          obtain ⟨r, hr⟩ : ∃ r, bhL s (p + 1) = r := ⟨_, rfl⟩
          have HE1 : Hid (sh = if bhL s (p + 1) = p + 1 ∨ bhL s (p + 1) < s.length then ((bhL s (p + 1) : Int), 0) else (-1, p)) := by show _ = _; rw [← HS.out, if_neg (by rintro (h | ⟨_, h⟩); exact h1 h; exact h rfl), if_neg h4]
          rw [hr] at HE1 hb2 hb3
          clear HS hr hd hnot
          by_cases h5 : r = p + 1
          · subst h5
            have h5i : ((p + 1 : Nat) : Int) = (p : Int) + 1 := by omega
            rw [h5i] at hb2
            have HE : Hid (sh = ((p : Int) + 1, 0)) := by show _ = _; rw [HE1.out, if_pos (Or.inl rfl)]; rfl
            clear HE1 h5i
            go_enter Tryz.func58, Tryz.ntmps58
            go_wp2_with fail
            go_at_call 106
            refine (hbe w).mono ?_
            rintro e w3 ⟨rfl, hw3⟩
            rw [hw3]
            clear hw3 hbe
            go_wp2_with fail
            go_at_call 106
            refine (hb2 w).mono ?_
            rintro e w3 ⟨rfl, hw3⟩
            rw [hw3]
            clear hw3 hb2
            go_wp2_with fail
            go_ret2
            exact ⟨by rw [HE.out]; rfl, rfl⟩
          · have h5b : ((r : Int) == (p : Int) + 1) = false := by simp; omega
            have h5i : ¬ (r : Int) = (p : Int) + 1 := by omega
            rw [show ((p + 1 : Nat) : Int) = (p : Int) + 1 from by omega] at hb2
            by_cases h6 : r < s.length
            · have h6i : (r : Int) < s.length := by omega
              have h6n : decide (r < s.length) = true := decide_eq_true h6
              have HE : Hid (sh = ((r : Int), 0)) := by show _ = _; rw [HE1.out, if_pos (Or.inr h6)]
              clear HE1
              go_enter Tryz.func58, Tryz.ntmps58
              go_wp2_with fail
              go_at_call 106
              refine (hbe w).mono ?_
              rintro e w3 ⟨rfl, hw3⟩
              rw [hw3]
              clear hw3 hbe
              go_wp2_with fail
              go_at_call 106
              refine (hb2 w).mono ?_
              rintro e w3 ⟨rfl, hw3⟩
              rw [hw3]
              clear hw3 hb2
              go_wp2_with fail
              go_ret2
              exact ⟨by rw [HE.out]; rfl, rfl⟩
            · have h6i : ¬ (r : Int) < s.length := by omega
              have h6n : decide (r < s.length) = false := decide_eq_false h6
              have HE : Hid (sh = (-1, p)) := by show _ = _; rw [HE1.out, if_neg (by omega)]
              clear HE1
              go_enter Tryz.func58, Tryz.ntmps58
              go_wp2_with fail
              go_at_call 106
              refine (hbe w).mono ?_
              rintro e w3 ⟨rfl, hw3⟩
              rw [hw3]
              clear hw3 hbe
              go_wp2_with fail
              go_at_call 106
              refine (hb2 w).mono ?_
              rintro e w3 ⟨rfl, hw3⟩
              rw [hw3]
              clear hw3 hb2
              go_wp2_with fail
              go_ret2
              exact ⟨by rw [HE.out]; rfl, rfl⟩
        · have hdn : ((d.toNat : Int) == 46) = false := by simp; intro h; exact h3 (UInt8.toNat_inj.1 (by simpa using (by omega : d.toNat = 46)))
          have hdm : ¬ (d.toNat : Int) = 46 := by simpa using hdn
          have HE : Hid (sh = ((p : Int), 0)) := by show _ = _; rw [← HS.out, if_pos (Or.inr ⟨h2, h3⟩)]
          clear HS hd hnot hb2 hb3
          go_enter Tryz.func58, Tryz.ntmps58
          go_wp2_with fail
          go_at_call 106
          refine (hbe w).mono ?_
          rintro e w3 ⟨rfl, hw3⟩
          rw [hw3]
          clear hw3 hbe
          go_wp2_with fail
          go_ret2
          exact ⟨by rw [HE.out]; rfl, rfl⟩
      · have h2i : ¬ (p : Int) < s.length := by omega
        have h2n : decide (p < s.length) = false := decide_eq_false h2
        obtain rfl : p = s.length := by omega
        have HE : Hid (sh = (-1, s.length)) := by show _ = _; rw [← HS.out, if_neg (by omega), if_pos rfl]
        clear HS hnot hb2 hb3
        go_enter Tryz.func58, Tryz.ntmps58
        go_wp2_with fail
        go_at_call 106
        refine (hbe w).mono ?_
        rintro e w3 ⟨rfl, hw3⟩
        rw [hw3]
        clear hw3 hbe
        go_wp2_with fail
        go_ret2
        exact ⟨by rw [HE.out]; rfl, rfl⟩
  ·
    subst e2
    have hl0 : 0 < s.length := by rw [e1]; simp
    have hl0i : (0 : Int) < s.length := by omega
    have hby := byte6 s 0 hl0
    rw [show s.getD 0 0 = c from by rw [e1]; rfl] at hby
    have hcn : ((c.toNat : Int) == 45) = false := by simp; intro h; exact hc (UInt8.toNat_inj.1 (by simpa using (by omega : c.toNat = 45)))
    have hcm : ¬ (c.toNat : Int) = 45 := by simpa using hcn
    clear e1 HA key
    by_cases h1 : p = 0
    · subst h1
      have HE : Hid (sh = (0, 0)) := by show _ = _; rw [← HS.out, if_pos (Or.inl rfl)]; rfl
      clear HS hnot hb2 hb3
      go_enter Tryz.func58, Tryz.ntmps58
      go_wp2_with fail
      go_at_call 106
      refine (hbe w).mono ?_
      rintro e w3 ⟨rfl, hw3⟩
      rw [hw3]
      clear hw3 hbe
      go_wp2_with fail
      go_ret2
      exact ⟨by rw [HE.out]; rfl, rfl⟩
    · have h1b : ((p : Int) == 0) = false := by simp; omega
      have h1i : ¬ (p : Int) = 0 := by omega
      by_cases h2 : p < s.length
      · have h2i : (p : Int) < s.length := by omega
        have h2n : decide (p < s.length) = true := decide_eq_true h2
        have hbp := byte6 s p h2
        obtain ⟨d, hd⟩ : ∃ d, s.getD p 0 = d := ⟨_, rfl⟩
        rw [hd] at hbp HS
        by_cases h3 : d = 46
        · subst h3
          have h4 : ¬ p = s.length := by omega
          have h4i : ¬ (p : Int) = s.length := by omega
          have h4b : ((p : Int) == s.length) = false := by simp; omega
          replace hb2 := hb2 (by omega)
          replace hb3 := hb3 (by omega)
          obtain ⟨r, hr⟩ : ∃ r, bhL s (p + 1) = r := ⟨_, rfl⟩
          have HE1 : Hid (sh = if bhL s (p + 1) = p + 1 ∨ bhL s (p + 1) < s.length then ((bhL s (p + 1) : Int), 0) else (-1, p)) := by show _ = _; rw [← HS.out, if_neg (by rintro (h | ⟨_, h⟩); exact h1 h; exact h rfl), if_neg h4]
          rw [hr] at HE1 hb2 hb3
          clear HS hr hd hnot
          by_cases h5 : r = p + 1
          · subst h5
            have h5i : ((p + 1 : Nat) : Int) = (p : Int) + 1 := by omega
            rw [h5i] at hb2
            have HE : Hid (sh = ((p : Int) + 1, 0)) := by show _ = _; rw [HE1.out, if_pos (Or.inl rfl)]; rfl
            clear HE1 h5i
            go_enter Tryz.func58, Tryz.ntmps58
            go_wp2_with fail
            go_at_call 106
            refine (hbe w).mono ?_
            rintro e w3 ⟨rfl, hw3⟩
            rw [hw3]
            clear hw3 hbe
            go_wp2_with fail
            go_at_call 106
            refine (hb2 w).mono ?_
            rintro e w3 ⟨rfl, hw3⟩
            rw [hw3]
            clear hw3 hb2
            go_wp2_with fail
            go_ret2
            exact ⟨by rw [HE.out]; rfl, rfl⟩
          · have h5b : ((r : Int) == (p : Int) + 1) = false := by simp; omega
            have h5i : ¬ (r : Int) = (p : Int) + 1 := by omega
            rw [show ((p + 1 : Nat) : Int) = (p : Int) + 1 from by omega] at hb2
            by_cases h6 : r < s.length
            · have h6i : (r : Int) < s.length := by omega
              have h6n : decide (r < s.length) = true := decide_eq_true h6
              have HE : Hid (sh = ((r : Int), 0)) := by show _ = _; rw [HE1.out, if_pos (Or.inr h6)]
              clear HE1
              go_enter Tryz.func58, Tryz.ntmps58
              go_wp2_with fail
              go_at_call 106
              refine (hbe w).mono ?_
              rintro e w3 ⟨rfl, hw3⟩
              rw [hw3]
              clear hw3 hbe
              go_wp2_with fail
              go_at_call 106
              refine (hb2 w).mono ?_
              rintro e w3 ⟨rfl, hw3⟩
              rw [hw3]
              clear hw3 hb2
              go_wp2_with fail
              go_ret2
              exact ⟨by rw [HE.out]; rfl, rfl⟩
            · have h6i : ¬ (r : Int) < s.length := by omega
              have h6n : decide (r < s.length) = false := decide_eq_false h6
              have HE : Hid (sh = (-1, p)) := by show _ = _; rw [HE1.out, if_neg (by omega)]
              clear HE1
              go_enter Tryz.func58, Tryz.ntmps58
              go_wp2_with fail
              go_at_call 106
              refine (hbe w).mono ?_
              rintro e w3 ⟨rfl, hw3⟩
              rw [hw3]
              clear hw3 hbe
              go_wp2_with fail
              go_at_call 106
              refine (hb2 w).mono ?_
              rintro e w3 ⟨rfl, hw3⟩
              rw [hw3]
              clear hw3 hb2
              go_wp2_with fail
              go_ret2
              exact ⟨by rw [HE.out]; rfl, rfl⟩
        · have hdn : ((d.toNat : Int) == 46) = false := by simp; intro h; exact h3 (UInt8.toNat_inj.1 (by simpa using (by omega : d.toNat = 46)))
          have hdm : ¬ (d.toNat : Int) = 46 := by simpa using hdn
          have HE : Hid (sh = ((p : Int), 0)) := by show _ = _; rw [← HS.out, if_pos (Or.inr ⟨h2, h3⟩)]
          clear HS hd hnot hb2 hb3
          go_enter Tryz.func58, Tryz.ntmps58
          go_wp2_with fail
          go_at_call 106
          refine (hbe w).mono ?_
          rintro e w3 ⟨rfl, hw3⟩
          rw [hw3]
          clear hw3 hbe
          go_wp2_with fail
          go_ret2
          exact ⟨by rw [HE.out]; rfl, rfl⟩
      · have h2i : ¬ (p : Int) < s.length := by omega
        have h2n : decide (p < s.length) = false := decide_eq_false h2
        obtain rfl : p = s.length := by omega
        have HE : Hid (sh = (-1, s.length)) := by show _ = _; rw [← HS.out, if_neg (by omega), if_pos rfl]
        clear HS hnot hb2 hb3
        go_enter Tryz.func58, Tryz.ntmps58
        go_wp2_with fail
        go_at_call 106
        refine (hbe w).mono ?_
        rintro e w3 ⟨rfl, hw3⟩
        rw [hw3]
        clear hw3 hbe
        go_wp2_with fail
        go_ret2
        exact ⟨by rw [HE.out]; rfl, rfl⟩
theorem fits_zero (neg : Bool) : fits (sgn neg 0) = true ∧ sgn neg 0 = 0 := by cases neg <;> exact ⟨rfl, rfl⟩
theorem runits6_nil (a : Option Addr) (c : Nat) (neg : Bool) (w : World) :
    Calls Tryz.prog 60 #[.slice a 0 c, .bool neg] w fun e w' => e = .returned (.tuple #[.int .i64 0, .bool true]) ∧ w' = w := by
  go_enter Tryz.func60, Tryz.ntmps60
  go_wp2_with fail
  go_ret2
  exact ⟨rfl, rfl⟩
theorem runits6_two (a : Option Addr) (m c : Nat) (hm : 2 ≤ m) (neg : Bool) (w : World) :
    Calls Tryz.prog 60 #[.slice a m c, .bool neg] w fun e w' => e = .returned (.tuple #[.int .i64 0, .bool false]) ∧ w' = w := by
  have h1 : ((m : Int) == 0) = false := by simp; omega
  have h2 : ¬ (m : Int) = 0 := by omega
  have h3 : (1 : Int) < m := by omega
  have h4 : decide (1 < m) = true := by simp; omega
  go_enter Tryz.func60, Tryz.ntmps60
  go_wp2_with fail
  go_ret2
  exact ⟨rfl, rfl⟩
set_option maxHeartbeats 1000000 in
theorem runits6_one (g : Nat) (k : Nat) (c : Nat) (z : Int) (hz0 : 0 ≤ z) (hz1 : z < 18446744073709551616) (neg : Bool) (w : World) (hc : w.cell? ⟨g, k, none⟩ = some (.int .u64 z)) (h1c : 1 ≤ c) :
    Calls Tryz.prog 60 #[.slice (some ⟨g, k, none⟩) 1 c, .bool neg] w fun e w' => e = .returned (.tuple #[.int .i64 (if fits (sgn neg z.toNat) then sgn neg z.toNat else 0), .bool (fits (sgn neg z.toNat))]) ∧ w' = w := by
  obtain ⟨n, rfl⟩ := Int.eq_ofNat_of_zero_le hz0
  simp only [Int.toNat_natCast]
  obtain ⟨F, hF⟩ : ∃ F, fits (sgn neg n) = F := ⟨_, rfl⟩
  obtain ⟨V, hV⟩ : ∃ V, (if F then sgn neg n else 0) = V := ⟨_, rfl⟩
  rw [hF, hV]
  cases neg
  · by_cases h : 9223372036854775808 ≤ n
    · have hi : (9223372036854775808 : Int) ≤ n := by omega
      have hn : decide (9223372036854775808 ≤ n) = true := decide_eq_true h
      obtain rfl : F = false := by rw [← hF]; unfold fits sgn; simp; omega
      obtain rfl : V = 0 := by rw [← hV]; rfl
      clear hF hV
      go_enter Tryz.func60, Tryz.ntmps60
      go_wp2_with fail
      go_ret2
      exact ⟨rfl, rfl⟩
    · have hi : ¬ (9223372036854775808 : Int) ≤ n := by omega
      have hn : decide (9223372036854775808 ≤ n) = false := decide_eq_false h
      obtain rfl : F = true := by rw [← hF]; unfold fits sgn; simp; omega
      obtain rfl : V = n := by rw [← hV]; rfl
      have wv1 : IntKind.i64.wrap (n : Int) = n := by rw [IntKind.wrap_i64]; omega
      clear hF hV
      go_enter Tryz.func60, Tryz.ntmps60
      go_wp2_with fail
      go_ret2
      exact ⟨rfl, rfl⟩
  · by_cases h : 9223372036854775808 < n
    · have hi : (9223372036854775808 : Int) < n := by omega
      have hn : decide (9223372036854775808 < n) = true := decide_eq_true h
      obtain rfl : F = false := by rw [← hF]; unfold fits sgn; simp; omega
      obtain rfl : V = 0 := by rw [← hV]; rfl
      clear hF hV
      go_enter Tryz.func60, Tryz.ntmps60
      go_wp2_with fail
      go_ret2
      exact ⟨rfl, rfl⟩
    · have hi : ¬ (9223372036854775808 : Int) < n := by omega
      have hn : decide (9223372036854775808 < n) = false := decide_eq_false h
      obtain rfl : F = true := by rw [← hF]; unfold fits sgn; simp; omega
      obtain rfl : V = -(n : Int) := by rw [← hV]; rfl
      obtain ⟨y, hy⟩ : ∃ y, IntKind.u64.wrap (-(n : Int)) = y := ⟨_, rfl⟩
      have wv1 : IntKind.i64.wrap y = -(n : Int) := by rw [← hy, IntKind.wrap_i64, IntKind.wrap_u64]; omega
      clear hF hV
      go_enter Tryz.func60, Tryz.ntmps60
      go_wp2_with fail
      go_ret2
      exact ⟨rfl, rfl⟩

theorem shL_cases (s : List UInt8) : (∃ k : Nat, (shL s).1 = (k : Int)) ∨ (∃ p, shL s = (-1, p)) := by
  unfold shL
  dsimp only
  split
  · exact .inl ⟨_, rfl⟩
  · split
    · exact .inr ⟨_, rfl⟩
    · split
      · exact .inl ⟨_, rfl⟩
      · exact .inr ⟨_, rfl⟩
theorem minus_first (s : List UInt8) (h : 0 < s.length) : (((s.getD 0 0).toNat : Int) == 45) = decide (s.head? = some 45) := by
  cases s with
  | nil => simp at h
  | cons c t =>
    simp only [List.getD_cons_zero, List.head?_cons, Option.some.injEq]
    rw [Bool.eq_iff_iff, beq_iff_eq, decide_eq_true_iff, ← UInt8.toNat_inj]
    show _ ↔ c.toNat = 45
    omega

end Go.Proofs.YtebbblhafjaaiaaGreatDoor
