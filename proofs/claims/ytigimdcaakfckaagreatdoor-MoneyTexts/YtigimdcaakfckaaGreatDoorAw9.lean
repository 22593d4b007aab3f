/-
  The statements' own look at answers that the document names (layer 9).
-/
import Derived.Test.YtigimdcaakfckaaGreatDoorMy7
import Derived.Test.YtigimdcaakfckaaGreatDoorMy8
import Derived.Test.YtigimdcaakfckaaGreatDoorMy9
namespace Go.Proofs.YtigimdcaakfckaaGreatDoor
open Go.RowKit Go.Shelf
set_option linter.unusedVariables false

theorem results_cu {fn : Func} {i b : Nat} {v u : Value} {tmps : Array Value} {w : World} (h : fn.results = #[.cell i 47]) (hi : tmps.getD i undef = .pointer (some ⟨b, 0, none⟩)) (hv : Va w b 47 #[v, u]) :
    (results fn tmps).run Tryz.prog w = .ok (.agg #[v, u]) w := by
  have c := hv.c0; have d := hv.c1
  rw [Array.getD_eq_getD_getElem?] at hi
  simp [results, h, hi, c, d, go_sem]
theorem euro9 (w : World) : Calls Tryz.prog 43 #[] w fun e w' => e = .returned (.agg #[.string ⟨#[69, 85, 82]⟩, .int .i64 2]) ∧ Below w.heap.size w w' := by
  go_enter Tryz.func43, Tryz.ntmps43
  go_wp2_with fail
  refine bodyPost_ret (results_cu rfl rfl (Va.new w _ _)) rfl ?_
  exact ⟨rfl, (Below.refl _ _).alloc (Nat.le_refl _) _⟩
theorem curE : Cur [69, 85, 82] (2 : Nat) := ⟨rfl, by decide, by omega, by omega⟩
theorem textE (w : World) (hP : Pt w) : Calls Tryz.prog 35 #[.agg #[.string ⟨#[69, 85, 82]⟩, .int .i64 2], .int .i64 (-5)] w fun e w' => e = .returned (.tuple #[.string ⟨#[45, 48, 46, 48, 53, 32, 69, 85, 82]⟩, .int .i64 0]) ∧ Below w.heap.size w w' := by
  refine Calls.mono (text9 [69, 85, 82] 2 (-5) w curE (by omega) (by omega) hP) ?_
  rintro e w' ⟨t, rfl, ht, hb⟩
  have h5 : Tx 10 [53] (-5 : Int).natAbs := ⟨by simp, fun c hc => by simp at hc; subst hc; decide, by decide, fun h => rfl⟩
  have e : t = [53] := ht.unique (by omega) (by omega) h5
  subst e
  exact ⟨rfl, hb⟩
theorem parseE1 (w : World) (hT : Tm w) : Calls Tryz.prog 37 #[.agg #[.string ⟨#[69, 85, 82]⟩, .int .i64 2], .string ⟨#[49, 50, 46, 51, 52, 32, 69, 85, 82]⟩] w fun e w' => e = .returned (.tuple #[.int .i64 1234, .int .i64 0, .int .i64 0]) ∧ Below w.heap.size w w' := by
  have h := parse9 [69, 85, 82] [49, 50, 46, 51, 52, 32, 69, 85, 82] 2 w curE (by decide) hT
  have e : out9 (parR [69, 85, 82] 2 [49, 50, 46, 51, 52, 32, 69, 85, 82]) = (1234, 0, 0) := by decide
  rw [e] at h
  exact h
theorem parseE2 (w : World) (hT : Tm w) : Calls Tryz.prog 37 #[.agg #[.string ⟨#[69, 85, 82]⟩, .int .i64 2], .string ⟨#[45, 48, 46, 48, 48]⟩] w fun e w' => e = .returned (.tuple #[.int .i64 0, .int .i64 4, .int .i64 91]) ∧ Below w.heap.size w w' := by
  have h := parse9 [69, 85, 82] [45, 48, 46, 48, 48] 2 w curE (by decide) hT
  have e : out9 (parR [69, 85, 82] 2 [45, 48, 46, 48, 48]) = (0, 4, 91) := by decide
  rw [e] at h
  exact h
theorem li_va {w : World} {b : Nat} {zs : List Int} (h : Va w b 2 (zs.map (Value.int .i64)).toArray) (hz : ∀ z ∈ zs, b64 z) : Li w (some ⟨b, 0, none⟩) zs.length zs := by
  refine ⟨rfl, hz, fun _ => ⟨b, 0, rfl, fun i hi => ?_⟩⟩
  rw [Nat.zero_add, h.cellAt i]
  simp [List.getD_eq_getElem?_getD, hi]
theorem sumE (b : Nat) (w : World) (h : Va w b 2 #[.int .i64 9223372036854775807, .int .i64 1, .int .i64 (-1)]) : Calls Tryz.prog 15 #[.slice (some ⟨b, 0, none⟩) 3 3] w fun e w' => e = .returned (.tuple #[.int .i64 9223372036854775807, .int .i64 0]) ∧ w' = w := by
  have hL : Li w (some ⟨b, 0, none⟩) 3 [9223372036854775807, 1, -1] := li_va (zs := [9223372036854775807, 1, -1]) h (by intro z hz; simp at hz; rcases hz with rfl | rfl | rfl <;> exact ⟨by omega, by omega⟩)
  have h := sum9 (some ⟨b, 0, none⟩) 3 3 _ w hL (by omega)
  exact h
set_option maxHeartbeats 1000000 in
theorem awake9 (w : World) (hP : Pt w) (hT : Tm w) : Calls Tryz.prog 17 #[] w fun e w' => e = .returned (.bool true) ∧ Below w.heap.size w w' := by
  have HP : Hid (Pt w) := hP
  have HT : Hid (Tm w) := hT
  clear hP hT
  have B0 : Below w.heap.size w w := Below.refl _ _
  go_enter Tryz.func17, Tryz.ntmps17
  go_wp2_with fail
  refine (euro9 _).mono ?_
  rintro e x1 ⟨rfl, hb⟩
  replace B0 := step B0 hb
  clear hb
  go_wp2_with fail
  refine (textE _ (HP.out.to B0)).mono ?_
  rintro e x2 ⟨rfl, hb⟩
  replace B0 := step B0 hb
  clear hb
  go_wp2_with fail
  refine (euro9 _).mono ?_
  rintro e x3 ⟨rfl, hb⟩
  replace B0 := step B0 hb
  clear hb
  go_wp2_with fail
  refine (parseE1 _ (HT.out.to B0)).mono ?_
  rintro e x4 ⟨rfl, hb⟩
  replace B0 := step B0 hb
  clear hb
  go_wp2_with fail
  refine (euro9 _).mono ?_
  rintro e x5 ⟨rfl, hb⟩
  replace B0 := step B0 hb
  clear hb
  go_wp2_with fail
  refine (parseE2 _ (HT.out.to B0)).mono ?_
  rintro e x6 ⟨rfl, hb⟩
  replace B0 := step B0 hb
  clear hb
  go_wp2_with fail
  refine ent1 x6 _ _ (Q := fun W => Calls Tryz.prog _ _ W _) ?_
  intro x7 hb hs_x7 Vl
  replace B0 := step B0 hb
  clear hb hs_x7
  refine (sumE _ _ Vl).mono ?_
  rintro e w' ⟨rfl, hw⟩
  rw [hw]
  clear hw
  go_wp2_with fail
  go_ret
  exact ⟨rfl, B0⟩
end Go.Proofs.YtigimdcaakfckaaGreatDoor
