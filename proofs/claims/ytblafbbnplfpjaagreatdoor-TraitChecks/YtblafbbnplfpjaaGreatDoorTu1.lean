/-
  tokens: the kinds of bytes, run, partLength.
-/
import Derived.Test.YtblafbbnplfpjaaGreatDoorTuV
namespace Go.Proofs.YtblafbbnplfpjaaGreatDoor
open Go.RowKit Go.Shelf
set_option linter.unusedVariables false
set_option maxRecDepth 20000

theorem u8_cases (c : UInt8) (n : Nat) : ((c.toNat : Int) < n ∧ c.toNat < n ∧ decide ((c.toNat : Int) < n) = true) ∨ (¬ (c.toNat : Int) < n) := by
  by_cases h : c.toNat < n
  · left; exact ⟨by omega, h, by simp; omega⟩
  · right; omega
theorem isSmall_any (c : UInt8) (w : World) : Calls Tryz.prog 90 #[.int .u8 c.toNat] w fun e w' => e = .returned (.bool (sm c)) ∧ w' = w := by
  have hs : sm c = (decide ((97 : Int) ≤ c.toNat) && decide ((c.toNat : Int) ≤ 122)) := by
    unfold sm; rw [Bool.eq_iff_iff]; simp; omega
  have HS : Hid (sm c = (decide ((97 : Int) ≤ c.toNat) && decide ((c.toNat : Int) ≤ 122))) := hs
  clear hs
  by_cases h1 : (97 : Int) ≤ c.toNat
  · by_cases h2 : (c.toNat : Int) ≤ 122
    · go_enter Tryz.func90, Tryz.ntmps90
      go_wp2_with fail
      go_ret
      exact ⟨by rw [HS.out]; simp [h1, h2], rfl⟩
    · go_enter Tryz.func90, Tryz.ntmps90
      go_wp2_with fail
      go_ret
      exact ⟨by rw [HS.out]; simp [h1, h2], rfl⟩
  · go_enter Tryz.func90, Tryz.ntmps90
    go_wp2_with fail
    go_ret
    exact ⟨by rw [HS.out]; simp; omega, rfl⟩
theorem isDigit_any (c : UInt8) (w : World) : Calls Tryz.prog 127 #[.int .u8 c.toNat] w fun e w' => e = .returned (.bool (dg c)) ∧ w' = w := by
  have hs : dg c = (decide ((48 : Int) ≤ c.toNat) && decide ((c.toNat : Int) ≤ 57)) := by
    unfold dg; rw [Bool.eq_iff_iff]; simp; omega
  have HS : Hid (dg c = (decide ((48 : Int) ≤ c.toNat) && decide ((c.toNat : Int) ≤ 57))) := hs
  clear hs
  by_cases h1 : (48 : Int) ≤ c.toNat
  · by_cases h2 : (c.toNat : Int) ≤ 57
    · go_enter Tryz.func127, Tryz.ntmps127
      go_wp2_with fail
      go_ret
      exact ⟨by rw [HS.out]; simp [h1, h2], rfl⟩
    · go_enter Tryz.func127, Tryz.ntmps127
      go_wp2_with fail
      go_ret
      exact ⟨by rw [HS.out]; simp [h1, h2], rfl⟩
  · go_enter Tryz.func127, Tryz.ntmps127
    go_wp2_with fail
    go_ret
    exact ⟨by rw [HS.out]; simp; omega, rfl⟩
theorem u8_eq (c : UInt8) (n : Nat) (hn : n < 256) : ((c.toNat : Int) = n) ↔ c = UInt8.ofNat n := by
  constructor
  · intro h
    have : c.toNat = n := by omega
    rw [← this]; simp
  · rintro rfl
    have : (UInt8.ofNat n).toNat = n := by simp [UInt8.toNat_ofNat']; omega
    omega
theorem isInPart_any (c : UInt8) (w : World) : Calls Tryz.prog 92 #[.int .u8 c.toNat] w fun e w' => e = .returned (.bool (ip c)) ∧ w' = w := by
  have c1 := fun W => isSmall_any c W
  have c2 := fun W => isDigit_any c W
  have he := u8_eq c 95 (by omega)
  have HS : Hid (ip c = (sm c || dg c || c == 95)) := rfl
  cases h1 : sm c
  · cases h2 : dg c
    · rw [h1] at c1; rw [h2] at c2
      by_cases h3 : (c.toNat : Int) = 95
      · have HE : Hid (ip c = true) := by
          have : c = 95 := he.1 h3
          show _ = _
          rw [HS.out]; simp [this]
        clear HS h1 h2 he
        have hb : ((c.toNat : Int) == 95) = true := by simpa using h3
        clear h3
        go_enter Tryz.func92, Tryz.ntmps92
        go_wp2_with (first | (go_at_call 90; refine (c1 _).mono ?_; rintro e w' ⟨rfl, rfl⟩) | (go_at_call 127; refine (c2 _).mono ?_; rintro e w' ⟨rfl, rfl⟩))
        go_ret
        exact ⟨by rw [HE.out]; rfl, rfl⟩
      · have HE : Hid (ip c = false) := by
          have : ¬ c = 95 := fun h => h3 (he.2 h)
          show _ = _
          rw [HS.out]; simp [this, h1, h2]
        clear HS h1 h2 he
        have hb : ((c.toNat : Int) == 95) = false := by simpa using h3
        clear h3
        go_enter Tryz.func92, Tryz.ntmps92
        go_wp2_with (first | (go_at_call 90; refine (c1 _).mono ?_; rintro e w' ⟨rfl, rfl⟩) | (go_at_call 127; refine (c2 _).mono ?_; rintro e w' ⟨rfl, rfl⟩))
        go_ret
        exact ⟨by rw [HE.out]; rfl, rfl⟩
    · have HE : Hid (ip c = true) := by show _ = _; rw [HS.out]; simp [h2]
      rw [h1] at c1; rw [h2] at c2
      clear HS h1 h2 he
      go_enter Tryz.func92, Tryz.ntmps92
      go_wp2_with (first | (go_at_call 90; refine (c1 _).mono ?_; rintro e w' ⟨rfl, rfl⟩) | (go_at_call 127; refine (c2 _).mono ?_; rintro e w' ⟨rfl, rfl⟩))
      go_ret
      exact ⟨by rw [HE.out]; rfl, rfl⟩
  · have HE : Hid (ip c = true) := by show _ = _; rw [HS.out]; simp [h1]
    rw [h1] at c1
    clear HS h1 he c2
    go_enter Tryz.func92, Tryz.ntmps92
    go_wp2_with (go_at_call 90; refine (c1 _).mono ?_; rintro e w' ⟨rfl, rfl⟩)
    go_ret
    exact ⟨by rw [HE.out]; rfl, rfl⟩
theorem byte_at (s : List UInt8) (k : Nat) (h : k < s.length) : ∃ c, s[k]? = some c ∧ s.drop k = c :: s.drop (k + 1) := ⟨s[k], List.getElem?_eq_getElem h, List.drop_eq_getElem_cons h⟩
theorem str_at (s : List UInt8) (k : Nat) (c : UInt8) (h : s[k]? = some c) : ∀ hh, (ByteArray.mk s.toArray)[k]'hh = c := by
  intro hh
  obtain ⟨hk, e⟩ := List.getElem?_eq_some_iff.1 h
  exact e
/-- run: how many bytes at the beginning are of a kind. -/
theorem run_any (k : Nat) (he : ∀ args w, (callFunc k args).run Tryz.prog w = .ok (.enter k args) w) (p : UInt8 → Bool) (hk : ∀ (c : UInt8) (W : World), Calls Tryz.prog k #[.int .u8 c.toNat] W fun e w' => e = .returned (.bool (p c)) ∧ w' = W) (s : List UInt8) (w : World) (hl : s.length ≤ 140737488355328) :
    Calls Tryz.prog 91 #[sv s, .func (.func k) #[] #[]] w fun e w' => e = .returned (.int .i64 (rn p s)) ∧ w' = w := by
  have HE0 : Hid (∀ args w, (callFunc k args).run Tryz.prog w = .ok (.enter k args) w) := he
  clear he
  go_enter Tryz.func91, Tryz.ntmps91
  go_wp2_with fail
  go_loopw [5] (fun i wr => ∃ n : Nat, i = .int .i64 n ∧ n ≤ s.length ∧ Hid (n + rn p (s.drop n) = rn p s) ∧ wr = w) (fun i _ => (s.length - (intOf i).toNat : Nat))
  case atStart => exact ⟨0, rfl, Nat.zero_le _, by show _ = _; simp, rfl⟩
  case round =>
    obtain ⟨n, rfl, hn, HN, hw⟩ := hrel
    subst hw
    rcases Nat.lt_or_ge n s.length with hlt | hge
    · obtain ⟨c, hc, hcd⟩ := byte_at s n hlt
      have hat := str_at s n c hc
      have hi : (n : Int) < s.length := by omega
      have hkc := hk c
      clear hk hc
      cases hp : p c
      · have HE : Hid ((n : Int) = rn p s) := by
          have := HN.out
          rw [hcd, rn, hp] at this
          show _ = _
          simp at this
          omega
        rw [hp] at hkc
        clear hcd hp HN
        go_wp2_with fail
        rw [HE0.out, Oper.upon_enter]
        refine (hkc _).mono ?_
        rintro e w' ⟨rfl, hw'⟩
        rw [hw']; clear hw' w'
        go_wp2_with fail
        go_ret
        exact ⟨by rw [← HE.out]; rfl, rfl⟩
      · have HE : Hid ((n + 1) + rn p (s.drop (n + 1)) = rn p s) := by
          have := HN.out
          rw [hcd, rn, hp] at this
          show _ = _
          simp at this
          omega
        rw [hp] at hkc
        clear hcd hp HN
        go_wp2_with fail
        rw [HE0.out, Oper.upon_enter]
        refine (hkc _).mono ?_
        rintro e w' ⟨rfl, hw'⟩
        rw [hw']; clear hw' w'
        go_wp2_with fail
        go_roundw
        case rel => exact ⟨n + 1, rfl, by omega, HE.out, trivial⟩
        case measure => simp [intOf]; omega
    · obtain rfl : n = s.length := by omega
      have HE : Hid (rn p s = s.length) := by
        have := HN.out
        rw [List.drop_length] at this
        show _ = _
        simp [rn] at this
        omega
      clear HN hge
      go_wp2_with fail
      go_ret
      exact ⟨by rw [HE.out]; rfl, rfl⟩
theorem runI (s : List UInt8) (w : World) (hl : s.length ≤ 140737488355328) : Calls Tryz.prog 91 #[sv s, .func (.func 92) #[] #[]] w fun e w' => e = .returned (.int .i64 (rn ip s)) ∧ w' = w :=
  run_any _ (enters_of Tryz.func92 (by kernel_rfl) rfl) ip isInPart_any s w hl
theorem runD (s : List UInt8) (w : World) (hl : s.length ≤ 140737488355328) : Calls Tryz.prog 91 #[sv s, .func (.func 127) #[] #[]] w fun e w' => e = .returned (.int .i64 (rn dg s)) ∧ w' = w :=
  run_any _ (enters_of Tryz.func127 (by kernel_rfl) rfl) dg isDigit_any s w hl
/-- partLength. -/
theorem part_any (s : List UInt8) (w : World) (hl : s.length ≤ 140737488355328) :
    Calls Tryz.prog 72 #[sv s] w fun e w' => e = .returned (.int .i64 (pt s)) ∧ w' = w := by
  cases s with
  | nil =>
    go_enter Tryz.func72, Tryz.ntmps72
    go_wp2_with fail
    go_ret
    exact ⟨rfl, rfl⟩
  | cons c t =>
    have c1 := fun W => isSmall_any c W
    have c2 := fun W => runI (c :: t) W hl
    have HP : Hid (pt (c :: t) = if sm c then rn ip (c :: t) else 0) := rfl
    have hat := str_at (c :: t) 0 c rfl
    have hne : (c :: t == []) = false := rfl
    have hne2 : ([] == c :: t) = false := rfl
    have hi : (0 : Int) < (c :: t).length := by simp
    generalize hs : c :: t = s at *
    clear hs
    cases hp : sm c
    · rw [hp] at c1
      have HE : Hid (pt s = 0) := by show _ = _; rw [HP.out, hp]; rfl
      clear HP hp
      go_enter Tryz.func72, Tryz.ntmps72
      go_wp2_with (go_at_call 90; refine (c1 _).mono ?_; rintro e w' ⟨rfl, rfl⟩)
      go_ret
      exact ⟨by rw [HE.out]; rfl, rfl⟩
    · rw [hp] at c1
      have HE : Hid (pt s = rn ip s) := by show _ = _; rw [HP.out, hp]; rfl
      clear HP hp
      go_enter Tryz.func72, Tryz.ntmps72
      go_wp2_with (first | (go_at_call 90; refine (c1 _).mono ?_; rintro e w' ⟨rfl, rfl⟩) | (go_at_call 91; refine (c2 _).mono ?_; rintro e w' ⟨rfl, rfl⟩))
      go_ret
      exact ⟨by rw [HE.out]; rfl, rfl⟩
end Go.Proofs.YtblafbbnplfpjaaGreatDoor
