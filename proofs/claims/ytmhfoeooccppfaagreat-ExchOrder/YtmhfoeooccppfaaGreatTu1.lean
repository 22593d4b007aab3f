/-
  tokens: the kinds of bytes, run, partLength.
-/
import Derived.Test.YtmhfoeooccppfaaGreatTuV
namespace Go.Proofs.YtmhfoeooccppfaaGreat
open Go.RowKit Go.Shelf
set_option linter.unusedVariables false
set_option maxRecDepth 20000

theorem u8_cases (c : UInt8) (n : Nat) : ((c.toNat : Int) < n ∧ c.toNat < n ∧ decide ((c.toNat : Int) < n) = true) ∨ (¬ (c.toNat : Int) < n) := by
  by_cases h : c.toNat < n
  · left; exact ⟨by omega, h, by simp; omega⟩
  · right; omega
theorem isCapital_any (c : UInt8) (w : World) : Calls Tryz.prog 63 #[.int .u8 c.toNat] w fun e w' => e = .returned (.bool (cp c)) ∧ w' = w := by
  have hs : cp c = (decide ((65 : Int) ≤ c.toNat) && decide ((c.toNat : Int) ≤ 90)) := by
    unfold cp; rw [Bool.eq_iff_iff]; simp; omega
  have HS : Hid (cp c = (decide ((65 : Int) ≤ c.toNat) && decide ((c.toNat : Int) ≤ 90))) := hs
  clear hs
  by_cases h1 : (65 : Int) ≤ c.toNat
  · by_cases h2 : (c.toNat : Int) ≤ 90
    · go_enter Tryz.func63, Tryz.ntmps63
      go_wp2_with fail
      go_ret
      exact ⟨by rw [HS.out]; simp [h1, h2], rfl⟩
    · go_enter Tryz.func63, Tryz.ntmps63
      go_wp2_with fail
      go_ret
      exact ⟨by rw [HS.out]; simp [h1, h2], rfl⟩
  · go_enter Tryz.func63, Tryz.ntmps63
    go_wp2_with fail
    go_ret
    exact ⟨by rw [HS.out]; simp; omega, rfl⟩
theorem u8_eq (c : UInt8) (n : Nat) (hn : n < 256) : ((c.toNat : Int) = n) ↔ c = UInt8.ofNat n := by
  constructor
  · intro h
    have : c.toNat = n := by omega
    rw [← this]; simp
  · rintro rfl
    have : (UInt8.ofNat n).toNat = n := by simp [UInt8.toNat_ofNat']; omega
    omega
theorem byte_at (s : List UInt8) (k : Nat) (h : k < s.length) : ∃ c, s[k]? = some c ∧ s.drop k = c :: s.drop (k + 1) := ⟨s[k], List.getElem?_eq_getElem h, List.drop_eq_getElem_cons h⟩
theorem str_at (s : List UInt8) (k : Nat) (c : UInt8) (h : s[k]? = some c) : ∀ hh, (ByteArray.mk s.toArray)[k]'hh = c := by
  intro hh
  obtain ⟨hk, e⟩ := List.getElem?_eq_some_iff.1 h
  exact e
/-- run: how many bytes at the beginning are of a kind. -/
theorem run_any (k : Nat) (he : ∀ args w, (callFunc k args).run Tryz.prog w = .ok (.enter k args) w) (p : UInt8 → Bool) (hk : ∀ (c : UInt8) (W : World), Calls Tryz.prog k #[.int .u8 c.toNat] W fun e w' => e = .returned (.bool (p c)) ∧ w' = W) (s : List UInt8) (w : World) (hl : s.length ≤ 140737488355328) :
    Calls Tryz.prog 62 #[sv s, .func (.func k) #[] #[]] w fun e w' => e = .returned (.int .i64 (rn p s)) ∧ w' = w := by
  have HE0 : Hid (∀ args w, (callFunc k args).run Tryz.prog w = .ok (.enter k args) w) := he
  clear he
  go_enter Tryz.func62, Tryz.ntmps62
  go_wp2_with fail
  go_loopw [5] (fun i wr => ∃ n : Nat, i = .int .i64 n ∧ n ≤ s.length ∧ Hid (n + rn p (s.drop n) = rn p s) ∧ wr = w) (fun i _ => (s.length - (intOf i).toNat : Nat))
  case atStart => exact ⟨0, rfl, Nat.zero_le _, by show _ = _; simp, rfl⟩
  case round =>
    obtain ⟨n, rfl, hn, HN, hw⟩ := hrel
    subst hw
    rcases Nat.lt_or_ge n s.length with hlt | hge
    · obtain ⟨c, hc, hcd⟩ := byte_at s n hlt
      have hat := str_at s n c hc
      have hi : (n : Int) < s.length := by omega
      have hkc := hk c
      clear hk hc
      cases hp : p c
      · have HE : Hid ((n : Int) = rn p s) := by
          have := HN.out
          rw [hcd, rn, hp] at this
          show _ = _
          simp at this
          omega
        rw [hp] at hkc
        clear hcd hp HN
        go_wp2_with fail
        rw [HE0.out, Oper.upon_enter]
        refine (hkc _).mono ?_
        rintro e w' ⟨rfl, hw'⟩
        rw [hw']; clear hw' w'
        go_wp2_with fail
        go_ret
        exact ⟨by rw [← HE.out]; rfl, rfl⟩
      · have HE : Hid ((n + 1) + rn p (s.drop (n + 1)) = rn p s) := by
          have := HN.out
          rw [hcd, rn, hp] at this
          show _ = _
          simp at this
          omega
        rw [hp] at hkc
        clear hcd hp HN
        go_wp2_with fail
        rw [HE0.out, Oper.upon_enter]
        refine (hkc _).mono ?_
        rintro e w' ⟨rfl, hw'⟩
        rw [hw']; clear hw' w'
        go_wp2_with fail
        go_roundw
        case rel => exact ⟨n + 1, rfl, by omega, HE.out, trivial⟩
        case measure => simp [intOf]; omega
    · obtain rfl : n = s.length := by omega
      have HE : Hid (rn p s = s.length) := by
        have := HN.out
        rw [List.drop_length] at this
        show _ = _
        simp [rn] at this
        omega
      clear HN hge
      go_wp2_with fail
      go_ret
      exact ⟨by rw [HE.out]; rfl, rfl⟩
theorem runC (s : List UInt8) (w : World) (hl : s.length ≤ 140737488355328) : Calls Tryz.prog 62 #[sv s, .func (.func 63) #[] #[]] w fun e w' => e = .returned (.int .i64 (rn cp s)) ∧ w' = w :=
  run_any _ (enters_of Tryz.func63 (by kernel_rfl) rfl) cp isCapital_any s w hl
end Go.Proofs.YtmhfoeooccppfaaGreat
