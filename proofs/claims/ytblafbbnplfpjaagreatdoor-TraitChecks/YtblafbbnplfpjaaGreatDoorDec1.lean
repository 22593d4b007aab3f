/-
  decimal.isPlaces, Check, Make.
-/
import Derived.Test.YtblafbbnplfpjaaGreatDoorDecM
import Derived.Test.YtblafbbnplfpjaaGreatDoorBsM
namespace Go.Proofs.YtblafbbnplfpjaaGreatDoor
open Go.RowKit Go.Shelf
set_option linter.unusedVariables false

theorem isPlaces_yes (P : Int) (h0 : 0 ≤ P) (h9 : P ≤ 9) (w : World) : Calls Tryz.prog 79 #[.int .i64 P] w fun e w' => e = .returned (.bool true) ∧ w' = w := by
  go_enter Tryz.func79, Tryz.ntmps79
  go_wp2_with fail
  go_ret
  exact ⟨rfl, rfl⟩
theorem isPlaces_no (P : Int) (h : ¬ (0 ≤ P ∧ P ≤ 9)) (w : World) : Calls Tryz.prog 79 #[.int .i64 P] w fun e w' => e = .returned (.bool false) ∧ w' = w := by
  by_cases h0 : 0 ≤ P
  · have h9 : ¬ P ≤ 9 := fun h9 => h ⟨h0, h9⟩
    go_enter Tryz.func79, Tryz.ntmps79
    go_wp2_with fail
    go_ret
    exact ⟨rfl, rfl⟩
  · go_enter Tryz.func79, Tryz.ntmps79
    go_wp2_with fail
    go_ret
    exact ⟨rfl, rfl⟩
/-- A decimal that may be, its places being any int. -/
def CanI (U P : Int) : Prop := 0 ≤ P ∧ P ≤ 9 ∧ (0 < P → U.tmod 10 ≠ 0)
theorem canI_iff (U : Int) (P : Nat) : CanI U P ↔ Can U P := by
  unfold CanI Can
  constructor
  · rintro ⟨h1, h2, h3⟩
    exact ⟨by omega, fun h => by have := h3 (by omega); rwa [Ne, tmod_iff] at this⟩
  · rintro ⟨h1, h2⟩
    exact ⟨by omega, by omega, fun h => by rw [Ne, tmod_iff]; exact h2 (by omega)⟩
set_option maxHeartbeats 1000000 in
theorem check_ok (U P : Int) (h : CanI U P) (w : World) : Calls Tryz.prog 74 #[.agg #[.int .i64 U, .int .i64 P]] w fun e w' => e = .returned (.int .i64 0) ∧ Below w.heap.size w w' := by
  obtain ⟨h0, h9, h3⟩ := h
  by_cases hp : 0 < P
  · obtain ⟨m, hm⟩ : ∃ m, U.tmod 10 = m := ⟨_, rfl⟩
    have hm0 : (m == 0) = false := by have := h3 hp; rw [hm] at this; simpa using this
    go_enter Tryz.func74, Tryz.ntmps74
    go_wp2_with (go_at_call 79; refine (isPlaces_yes P h0 h9 _).mono ?_; rintro e w' ⟨rfl, rfl⟩)
    go_ret
    exact ⟨rfl, (Below.refl _ _).alloc (Nat.le_refl _) _⟩
  · go_enter Tryz.func74, Tryz.ntmps74
    go_wp2_with (go_at_call 79; refine (isPlaces_yes P h0 h9 _).mono ?_; rintro e w' ⟨rfl, rfl⟩)
    go_ret
    exact ⟨rfl, (Below.refl _ _).alloc (Nat.le_refl _) _⟩
set_option maxHeartbeats 1000000 in
theorem check_no (U P : Int) (h : ¬ CanI U P) (w : World) : Calls Tryz.prog 74 #[.agg #[.int .i64 U, .int .i64 P]] w fun e w' => e = .returned (.int .i64 60) ∧ Below w.heap.size w w' := by
  by_cases h1 : 0 ≤ P ∧ P ≤ 9
  · have hp : 0 < P := by
      rcases Int.lt_or_le 0 P with h' | h'
      · exact h'
      · exact absurd ⟨h1.1, h1.2, fun hh => by omega⟩ h
    have hm : U.tmod 10 = 0 := by
      rcases Decidable.em (U.tmod 10 = 0) with h' | h'
      · exact h'
      · exact absurd ⟨h1.1, h1.2, fun _ => h'⟩ h
    go_enter Tryz.func74, Tryz.ntmps74
    go_wp2_with (go_at_call 79; refine (isPlaces_yes P h1.1 h1.2 _).mono ?_; rintro e w' ⟨rfl, rfl⟩)
    go_ret
    exact ⟨rfl, (Below.refl _ _).alloc (Nat.le_refl _) _⟩
  · go_enter Tryz.func74, Tryz.ntmps74
    go_wp2_with (go_at_call 79; refine (isPlaces_no P h1 _).mono ?_; rintro e w' ⟨rfl, rfl⟩)
    go_ret
    exact ⟨rfl, (Below.refl _ _).alloc (Nat.le_refl _) _⟩
theorem results_dt {fn : Func} {i j b : Nat} {v u : Value} {tmps : Array Value} {w : World} (h : fn.results = #[.cell i 46, .tmp j]) (hi : tmps.getD i undef = .pointer (some ⟨b, 0, none⟩)) (hv : Va w b 46 #[v, u]) :
    (results fn tmps).run Tryz.prog w = .ok (.tuple #[.agg #[v, u], tmps.getD j undef]) w := by
  have c := hv.c0; have d := hv.c1
  rw [Array.getD_eq_getD_getElem?] at hi
  simp [results, h, hi, c, d, go_sem]
set_option maxHeartbeats 2000000 in
theorem make_ok (U : Int) (P : Nat) (hP : P ≤ 9) (h1 : -9223372036854775808 ≤ U) (h2 : U ≤ 9223372036854775807) (w : World) :
    Calls Tryz.prog 56 #[.int .i64 U, .int .i64 P] w fun e w' => e = .returned (.tuple #[.agg #[.int .i64 (mkd U P).1, .int .i64 (mkd U P).2], .int .i64 0]) ∧ Below w.heap.size w w' := by
  go_enter Tryz.func56, Tryz.ntmps56
  go_wp2_with (go_at_call 79; refine (isPlaces_yes P (by omega) (by omega) _).mono ?_; rintro e w' ⟨rfl, rfl⟩)
  go_loop [0, 1] (fun x p => ∃ (V : Int) (q : Nat), x = .int .i64 V ∧ p = .int .i64 q ∧ q ≤ 9 ∧ -9223372036854775808 ≤ V ∧ V ≤ 9223372036854775807 ∧ Hid (mkd V q = mkd U P)) (fun _ p => (intOf p).toNat)
  case atStart => exact ⟨U, P, rfl, rfl, hP, h1, h2, rfl⟩
  case round =>
    obtain ⟨V, q, rfl, rfl, hq, hV1, hV2, HM⟩ := hrel
    have FIN : Hid (mkd V q = (V, q) → (mkd U P).1 = V ∧ (mkd U P).2 = q) := fun e => ⟨by rw [← HM.out, e], by rw [← HM.out, e]⟩
    cases q with
    | zero =>
      have hq0 : ¬ (0 : Int) < ((0 : Nat) : Int) := by omega
      go_wp2_with fail
      refine bodyPost_ret (results_dt rfl rfl (Va.new w _ _)) rfl ?_
      obtain ⟨g2, g3⟩ := FIN.out rfl
      rw [g2, g3]
      exact ⟨rfl, (Below.refl _ _).alloc (Nat.le_refl _) _⟩
    | succ p =>
      have hq0 : (0 : Int) < ((p + 1 : Nat) : Int) := by omega
      by_cases hm : V.tmod 10 = 0
      · have hb := tdiv_ten hm
        obtain ⟨Y, hY⟩ : ∃ Y, V.tdiv 10 = Y := ⟨_, rfl⟩
        have HE : Hid (mkd Y p = mkd U P) := by
          have h' := HM.out
          have e : mkd V (p + 1) = if V.tmod 10 = 0 then mkd (V.tdiv 10) p else (V, p + 1) := rfl
          rw [e, if_pos hm, hY] at h'
          exact h'
        rw [hY] at hb
        have y1 : -9223372036854775808 ≤ Y := by omega
        have y2 : Y ≤ 9223372036854775807 := by omega
        have eY : IntKind.i64.wrap Y = Y := by rw [IntKind.wrap_i64]; omega
        clear hb FIN
        go_wp2_with fail
        go_round
        case rel => exact ⟨Y, p, rfl, by go_num, by omega, y1, y2, HE⟩
        case measure => simp [intOf]
      · obtain ⟨m, hm'⟩ : ∃ m, V.tmod 10 = m := ⟨_, rfl⟩
        have hm0 : (m == 0) = false := by rw [hm'] at hm; simpa using hm
        have HN : Hid (mkd V (p + 1) = (V, p + 1)) := by show mkd V (p + 1) = _; unfold mkd; rw [if_neg hm]
        clear hm
        go_wp2_with fail
        refine bodyPost_ret (results_dt rfl rfl (Va.new w _ _)) rfl ?_
        obtain ⟨g2, g3⟩ := FIN.out HN.out
        rw [g2, g3]
        exact ⟨rfl, (Below.refl _ _).alloc (Nat.le_refl _) _⟩
set_option maxHeartbeats 2000000 in
theorem make_no (U P : Int) (h : ¬ (0 ≤ P ∧ P ≤ 9)) (w : World) :
    Calls Tryz.prog 56 #[.int .i64 U, .int .i64 P] w fun e w' => e = .returned (.tuple #[.agg #[.int .i64 0, .int .i64 0], .int .i64 60]) ∧ Below w.heap.size w w' := by
  go_enter Tryz.func56, Tryz.ntmps56
  go_wp2_with (go_at_call 79; refine (isPlaces_no P h _).mono ?_; rintro e w' ⟨rfl, rfl⟩)
  refine bodyPost_ret (results_dt rfl rfl (Va.new w _ _)) rfl ?_
  exact ⟨rfl, (Below.refl _ _).alloc (Nat.le_refl _) _⟩
end Go.Proofs.YtblafbbnplfpjaaGreatDoor
