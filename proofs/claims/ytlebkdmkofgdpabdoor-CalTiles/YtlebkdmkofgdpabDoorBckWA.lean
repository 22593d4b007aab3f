/-
  What the statements of calendar share (Pick, day, awake); the walk of CalBack.
-/
import Derived.Test.YtlebkdmkofgdpabDoorCa5
namespace Go.Proofs.YtlebkdmkofgdpabDoor
open Go.RowKit Go.Shelf
set_option linter.unusedVariables false

theorem pick_any (x : Int) (n : Int) (h1 : -9223372036854775808 ≤ x) (h2 : x ≤ 9223372036854775807) (hn : 1 ≤ n) (hn2 : n ≤ 1000000000) (w : World) :
    Calls Tryd.prog 14 #[.int .i64 x, .int .i64 n] w fun e w' => e = .returned (.int .i64 (x % n)) ∧ w' = w := by
  have g1 : ¬ (n < 1) := by omega
  have hd : ¬ (n = 0) := by omega
  have ht := Int.tmod_lt_of_pos x (show 0 < n by omega)
  have he : x % n = if x.tmod n < 0 then x.tmod n + n else x.tmod n := by
    rw [Int.tmod_eq_emod]
    have := Int.emod_nonneg x (show n ≠ 0 by omega)
    have := Int.emod_lt_of_pos x (show 0 < n by omega)
    grind
  have ht2 : - n ≤ x.tmod n := by
    have := Int.emod_nonneg x (show n ≠ 0 by omega)
    split at he <;> omega
  have w1 : IntKind.i64.wrap (x.tmod n) = x.tmod n := by rw [IntKind.wrap_i64]; omega
  by_cases hx : x.tmod n < 0
  · rw [if_pos hx] at he
    have w2 : IntKind.i64.wrap (x.tmod n + n) = x.tmod n + n := by rw [IntKind.wrap_i64]; omega
    have HE : Hid (x % n = x.tmod n + n) := he
    clear he
    go_enter Tryd.func14, Tryd.ntmps14
    go_wp2_with fail
    go_ret
    exact ⟨by rw [HE.out]; rfl, rfl⟩
  · rw [if_neg hx] at he
    have HE : Hid (x % n = x.tmod n) := he
    clear he
    go_enter Tryd.func14, Tryd.ntmps14
    go_wp2_with fail
    go_ret
    exact ⟨by rw [HE.out]; rfl, rfl⟩
theorem day_any (x : Int) (w : World) (h1 : -9223372036854775808 ≤ x) (h2 : x ≤ 9223372036854775807) :
    Calls Tryd.prog 7 #[.int .i64 x] w fun e w' => e = .returned (.int .i64 (x % 3652059)) ∧ w' = w := by
  have pk := pick_any x 3652059 h1 h2 (by omega) (by omega) w
  go_enter Tryd.func7, Tryd.ntmps7
  go_wp2_with (go_at_call 14; refine pk.mono ?_; rintro e w2 ⟨rfl, rfl⟩)
  go_ret
  exact ⟨rfl, rfl⟩
theorem awake_any (w : World) (hT : Tl w) : Calls Tryd.prog 12 #[] w fun e w' => e = .returned (.bool true) ∧ w' = w := by
  have oy := of_yes 2024 1 31 w ⟨by omega, by omega, by omega, by omega, by omega, by decide⟩ hT
  rw [show ahd 2024 1 + (31 - 1) = 738915 by decide] at oy
  go_enter Tryd.func12, Tryd.ntmps12
  go_wp2_with (go_at_call 9; refine oy.mono ?_; rintro e w2 ⟨rfl, rfl⟩)
  go_ret
  exact ⟨rfl, rfl⟩
set_option maxHeartbeats 1000000 in
theorem back_walk (n : Int) (s : List UInt8) (w : World) (h1 : -9223372036854775808 ≤ n) (h2 : n ≤ 9223372036854775807) (hT : Tl w) (hP : Pt w) :
    Calls Tryd.prog 3 #[.int .i64 n, .string ⟨s.toArray⟩] w fun e w' => e = .returned (.bool true) ∧ Below w.heap.size w w' := by
  have dy := day_any n w h1 h2
  have d0 : 0 ≤ n % 3652059 := by omega
  have d1 : n % 3652059 ≤ 3652058 := by omega
  generalize n % 3652059 = d at *
  obtain ⟨y, m, k, hD⟩ := dt_any d0 d1
  have pa := parts_at hD w hT
  have oy := of_yes y m k w hD.ok hT
  rw [hD.at_] at oy
  have tx := text_yes hD w hT hP
  have pr := fun W a b => parse_yes hD W a b
  have hl := txt_len y m k
  generalize txt y m k = T at *
  have hli : (T.length : Int) = 10 := by omega
  have HT : Hid (Tl w) := hT
  have HP : Hid (Pt w) := hP
  clear hl hT hP
  go_enter Tryd.func3, Tryd.ntmps3
  go_wp2_with (first
    | (go_at_call 7; refine dy.mono ?_; rintro e w2 ⟨rfl, rfl⟩)
    | (go_at_call 8; refine pa.mono ?_; rintro e w2 ⟨rfl, rfl⟩)
    | (go_at_call 9; refine oy.mono ?_; rintro e w2 ⟨rfl, rfl⟩))
  go_at_call 10
  refine tx.mono ?_
  rintro e w3 ⟨rfl, hb3⟩
  go_wp2_with fail
  go_at_call 11
  refine (pr _ (HT.out.to hb3) (HP.out.to hb3)).mono ?_
  rintro e w4 ⟨rfl, hb4⟩
  have HB : Hid (Below _ _ _) := step hb3 hb4
  clear hb3 hb4 pr tx oy pa dy
  go_wp2_with fail
  by_cases hx : ∃ x a b c, Dt x a b c ∧ s = txt a b c
  · obtain ⟨x, a, b, c, hE, rfl⟩ := hx
    refine (parse_yes hE _ (HT.out.to HB.out) (HP.out.to HB.out)).mono ?_
    rintro e w5 ⟨rfl, hb5⟩
    replace HB : Hid (Below _ _ _) := step HB.out hb5
    clear hb5
    have tx := text_yes hE _ (HT.out.to HB.out) (HP.out.to HB.out)
    generalize txt a b c = S at *
    go_wp2_with fail
    go_at_call 10
    refine tx.mono ?_
    rintro e w6 ⟨rfl, hb6⟩
    go_wp2_with fail
    go_ret
    exact ⟨ret_bool (by simp), step HB.out hb6⟩
  · refine (parse_no s _ (fun d' y' m' k' h e => hx ⟨d', y', m', k', h, e⟩) (HT.out.to HB.out) (HP.out.to HB.out)).mono ?_
    rintro e w5 ⟨rfl, hb5⟩
    go_wp2_with fail
    go_ret
    exact ⟨rfl, step HB.out hb5⟩
end Go.Proofs.YtlebkdmkofgdpabDoor
