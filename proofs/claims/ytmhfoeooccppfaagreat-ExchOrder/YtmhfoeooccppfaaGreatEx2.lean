/-
  exchange: check; slices.BinarySearchFunc of a pair's quotes.
-/
import Derived.Test.YtmhfoeooccppfaaGreatEx1
namespace Go.Proofs.YtmhfoeooccppfaaGreat
open Go.RowKit Go.Shelf
set_option linter.unusedVariables false
set_option maxRecDepth 20000

set_option maxHeartbeats 4000000 in
theorem check_any (q : Qe) (hr : q.rate < 18446744073709551616) (b m : Nat) (n : Int) (w : World) (h : Tb0 w b m n) :
    Calls Tryz.prog 25 #[.pointer (some ⟨b, 0, none⟩), qv q] w fun e w' => e = .returned (.int .i64 (ckE q)) ∧ Below w.heap.size w w' := by
  obtain ⟨f, t, d, x⟩ := q
  obtain ⟨r1, r2⟩ := rate_cmp hr
  have hI := inf_one x hr
  have hF := code_any f
  have hT := code_any t
  have hD := isDay_any d
  have hY := fun o => isTable_yes b m n (w.alloc o) (Va.old h o)
  rw [cdF_eq'] at hF hT
  have HB : Hid (∀ o, Below w.heap.size w (w.alloc o)) := fun o => (Below.refl _ _).alloc (Nat.le_refl _) o
  show Calls _ _ #[_, .agg #[sv f, sv t, .int .i64 d, .float .f64 x]] _ _
  have hck : ckE ⟨f, t, d, x⟩ = if cdF' f = false ∨ cdF' t = false ∨ f = t then 90 else if 0 ≤ d ∧ d ≤ 3652058 then ckR x else 100 := rfl
  simp only at hr r1 r2 hI
  obtain ⟨E, hE⟩ : ∃ E, ckE ⟨f, t, d, x⟩ = E := ⟨_, rfl⟩
  rw [hE]
  rw [hck] at hE
  clear hck h hr
  generalize cdF' f = bf at *
  generalize cdF' t = bt at *
  cases bf with
  | false =>
    have HE : Hid (E = 90) := by show _ = _; rw [← hE]; simp
    clear hE
    go_enter Tryz.func25, Tryz.ntmps25
    go_wp2_with (first | (go_at_call 30; refine (hY _).mono ?_; rintro e w' ⟨rfl, rfl⟩) | (go_at_call 32; refine (hF _).mono ?_; rintro e w' ⟨rfl, rfl⟩))
    go_ret
    exact ⟨by rw [HE.out]; rfl, HB.out _⟩
  | true =>
    cases bt with
    | false =>
      have HE : Hid (E = 90) := by show _ = _; rw [← hE]; simp
      clear hE
      go_enter Tryz.func25, Tryz.ntmps25
      go_wp2_with (first | (go_at_call 30; refine (hY _).mono ?_; rintro e w' ⟨rfl, rfl⟩))
      go_at_call 32
      refine (hF _).mono ?_
      rintro e w' ⟨rfl, rfl⟩
      go_wp2_with fail
      go_at_call 32
      refine (hT _).mono ?_
      rintro e w' ⟨rfl, rfl⟩
      go_wp2_with (first | fail)
      go_ret
      exact ⟨by rw [HE.out]; rfl, HB.out _⟩
    | true =>
      by_cases hft : f = t
      · subst hft
        have HE : Hid (E = 90) := by show _ = _; rw [← hE]; simp
        clear hE
        go_enter Tryz.func25, Tryz.ntmps25
        go_wp2_with (first | (go_at_call 30; refine (hY _).mono ?_; rintro e w' ⟨rfl, rfl⟩))
        go_at_call 32
        refine (hF _).mono ?_
        rintro e w' ⟨rfl, rfl⟩
        go_wp2_with fail
        go_at_call 32
        refine (hT _).mono ?_
        rintro e w' ⟨rfl, rfl⟩
        go_wp2_with (first | fail)
        go_ret
        exact ⟨by rw [HE.out]; rfl, HB.out _⟩
      · have hfb : (f == t) = false := by simpa using hft
        cases hd : dyB d with
        | false =>
          rw [hd] at hD
          have HE : Hid (E = 100) := by show _ = _; rw [← hE]; rw [if_neg (by simpa using hft), if_neg (by simpa [dyB] using hd)]
          clear hE hd hft r1 r2 hI
          go_enter Tryz.func25, Tryz.ntmps25
          go_wp2_with (first | (go_at_call 30; refine (hY _).mono ?_; rintro e w' ⟨rfl, rfl⟩))
          go_at_call 32
          refine (hF _).mono ?_
          rintro e w' ⟨rfl, rfl⟩
          go_wp2_with fail
          go_at_call 32
          refine (hT _).mono ?_
          rintro e w' ⟨rfl, rfl⟩
          go_wp2_with (first | fail | (go_at_call 33; refine (hD _).mono ?_; rintro e w' ⟨rfl, rfl⟩))
          go_ret
          exact ⟨by rw [HE.out]; rfl, HB.out _⟩
        | true =>
          rw [hd] at hD
          have hdd : 0 ≤ d ∧ d ≤ 3652058 := by simpa [dyB] using hd
          clear hd
          by_cases h1 : 0 < x ∧ x ≤ 9218868437227405312
          · obtain ⟨r3, r4, r5⟩ := r2 h1
            rw [decide_eq_true h1] at r1
            by_cases h2 : x = 9218868437227405312
            · rw [decide_eq_true h2] at r3
              rw [r3] at hI
              have HE : Hid (E = 80) := by show _ = _; rw [← hE]; rw [if_neg (by simpa using hft), if_pos hdd]; unfold ckR; rw [if_neg (by omega)]
              clear hE hft hdd h1 h2 r2 r4 r5 r3
              go_enter Tryz.func25, Tryz.ntmps25
              go_wp2_with (first | (go_at_call 30; refine (hY _).mono ?_; rintro e w' ⟨rfl, rfl⟩))
              go_at_call 32
              refine (hF _).mono ?_
              rintro e w' ⟨rfl, rfl⟩
              go_wp2_with fail
              go_at_call 32
              refine (hT _).mono ?_
              rintro e w' ⟨rfl, rfl⟩
              go_wp2_with (first | fail | (go_at_call 33; refine (hD _).mono ?_; rintro e w' ⟨rfl, rfl⟩) | (go_at_call 57; refine (hI _).mono ?_; rintro e w' ⟨rfl, rfl⟩))
              go_ret
              exact ⟨by rw [HE.out]; rfl, HB.out _⟩
            · rw [decide_eq_false h2] at r3
              rw [r3] at hI
              by_cases h3 : x < 4517110426252607488
              · rw [decide_eq_true h3] at r4
                have HE : Hid (E = 160) := by show _ = _; rw [← hE]; rw [if_neg (by simpa using hft), if_pos hdd]; unfold ckR; rw [if_pos (by omega), if_neg (by unfold Rok; omega)]
                clear hE hft hdd h1 h2 h3 r2 r5 r3
                go_enter Tryz.func25, Tryz.ntmps25
                go_wp2_with (first | (go_at_call 30; refine (hY _).mono ?_; rintro e w' ⟨rfl, rfl⟩))
                go_at_call 32
                refine (hF _).mono ?_
                rintro e w' ⟨rfl, rfl⟩
                go_wp2_with fail
                go_at_call 32
                refine (hT _).mono ?_
                rintro e w' ⟨rfl, rfl⟩
                go_wp2_with (first | fail | (go_at_call 33; refine (hD _).mono ?_; rintro e w' ⟨rfl, rfl⟩) | (go_at_call 57; refine (hI _).mono ?_; rintro e w' ⟨rfl, rfl⟩))
                go_ret
                exact ⟨by rw [HE.out]; rfl, HB.out _⟩
              · rw [decide_eq_false h3] at r4
                by_cases h4 : 4697254411347427328 < x
                · rw [decide_eq_true h4] at r5
                  have HE : Hid (E = 160) := by show _ = _; rw [← hE]; rw [if_neg (by simpa using hft), if_pos hdd]; unfold ckR; rw [if_pos (by omega), if_neg (by unfold Rok; omega)]
                  clear hE hft hdd h1 h2 h3 h4 r2 r3
                  go_enter Tryz.func25, Tryz.ntmps25
                  go_wp2_with (first | (go_at_call 30; refine (hY _).mono ?_; rintro e w' ⟨rfl, rfl⟩))
                  go_at_call 32
                  refine (hF _).mono ?_
                  rintro e w' ⟨rfl, rfl⟩
                  go_wp2_with fail
                  go_at_call 32
                  refine (hT _).mono ?_
                  rintro e w' ⟨rfl, rfl⟩
                  go_wp2_with (first | fail | (go_at_call 33; refine (hD _).mono ?_; rintro e w' ⟨rfl, rfl⟩) | (go_at_call 57; refine (hI _).mono ?_; rintro e w' ⟨rfl, rfl⟩))
                  go_ret
                  exact ⟨by rw [HE.out]; rfl, HB.out _⟩
                · rw [decide_eq_false h4] at r5
                  have HE : Hid (E = 0) := by show _ = _; rw [← hE]; rw [if_neg (by simpa using hft), if_pos hdd]; unfold ckR; rw [if_pos (by omega), if_pos (by unfold Rok; omega)]
                  clear hE hft hdd h1 h2 h3 h4 r2 r3
                  go_enter Tryz.func25, Tryz.ntmps25
                  go_wp2_with (first | (go_at_call 30; refine (hY _).mono ?_; rintro e w' ⟨rfl, rfl⟩))
                  go_at_call 32
                  refine (hF _).mono ?_
                  rintro e w' ⟨rfl, rfl⟩
                  go_wp2_with fail
                  go_at_call 32
                  refine (hT _).mono ?_
                  rintro e w' ⟨rfl, rfl⟩
                  go_wp2_with (first | fail | (go_at_call 33; refine (hD _).mono ?_; rintro e w' ⟨rfl, rfl⟩) | (go_at_call 57; refine (hI _).mono ?_; rintro e w' ⟨rfl, rfl⟩))
                  go_ret
                  exact ⟨by rw [HE.out]; rfl, HB.out _⟩
          · rw [decide_eq_false h1] at r1
            have HE : Hid (E = 80) := by show _ = _; rw [← hE]; rw [if_neg (by simpa using hft), if_pos hdd]; unfold ckR; rw [if_neg (by omega)]
            clear hE hft hdd h1 r2 hI
            go_enter Tryz.func25, Tryz.ntmps25
            go_wp2_with (first | (go_at_call 30; refine (hY _).mono ?_; rintro e w' ⟨rfl, rfl⟩))
            go_at_call 32
            refine (hF _).mono ?_
            rintro e w' ⟨rfl, rfl⟩
            go_wp2_with fail
            go_at_call 32
            refine (hT _).mono ?_
            rintro e w' ⟨rfl, rfl⟩
            go_wp2_with (first | fail | (go_at_call 33; refine (hD _).mono ?_; rintro e w' ⟨rfl, rfl⟩))
            go_ret
            exact ⟨by rw [HE.out]; rfl, HB.out _⟩
theorem check_nil (q : Value) (w : World) (fr t : List UInt8) (d : Int) (x : Nat) (hq : q = .agg #[sv fr, sv t, .int .i64 d, .float .f64 x]) :
    Calls Tryz.prog 25 #[.pointer none, q] w fun e w' => e = .returned (.int .i64 1) ∧ Below w.heap.size w w' := by
  subst hq
  have hY := isTable_nil
  go_enter Tryz.func25, Tryz.ntmps25
  go_wp2_with (first | (go_at_call 30; refine (hY _).mono ?_; rintro e w' ⟨rfl, rfl⟩))
  go_ret
  exact ⟨rfl, (Below.refl _ _).alloc (Nat.le_refl _) _⟩
theorem check_no (q : Value) (w : World) (fr t : List UInt8) (d : Int) (x : Nat) (hq : q = .agg #[sv fr, sv t, .int .i64 d, .float .f64 x]) (b : Nat) (y z : Value) (h : Va w b 32 #[.pointer none, y, z]) :
    Calls Tryz.prog 25 #[.pointer (some ⟨b, 0, none⟩), q] w fun e w' => e = .returned (.int .i64 1) ∧ Below w.heap.size w w' := by
  subst hq
  have hY := fun o => isTable_no b y z (w.alloc o) (Va.old h o)
  clear h
  go_enter Tryz.func25, Tryz.ntmps25
  go_wp2_with (first | (go_at_call 30; refine (hY _).mono ?_; rintro e w' ⟨rfl, rfl⟩))
  go_ret
  exact ⟨rfl, (Below.refl _ _).alloc (Nat.le_refl _) _⟩
end Go.Proofs.YtmhfoeooccppfaaGreat
