/-
  calendar: Parse.
-/
import Derived.Test.YtlebkdmkofgdpaaDoorCa4
namespace Go.Proofs.YtlebkdmkofgdpaaDoor
open Go.RowKit Go.Shelf
set_option linter.unusedVariables false

theorem Below.drN (w : World) (n : Nat) : Below w.heap.size w (w.drewN n) := ⟨rfl, rfl, rfl, Nat.le_refl _, fun _ _ => rfl⟩
theorem Tl.dr {w : World} (h : Tl w) (n : Nat) : Tl (w.drewN n) := h.to (Below.drN w n)
theorem Pt.dr {w : World} (h : Pt w) (n : Nat) : Pt (w.drewN n) := h.to (Below.drN w n)
theorem slice_hi (l : List UInt8) (h : Int) (n : Nat) (e : h = n) (hn : n ≤ l.length) (W : World) : (Instr.sliceAt 9 (.string ⟨l.toArray⟩) none (some (.int .i64 h)) none).run Tryd.prog W = .ok (.string ⟨(l.take n).toArray⟩) W := by
  subst e
  have hb := bsize l
  have h1 : (n : Int) ≤ ((ByteArray.mk l.toArray).size : Int) := by omega
  rw [run_sliceAt_string _ _ _ _ _ _ Tryd.underlying9]
  simp [Instr.slice, run_underlying Tryd.underlying9, Instr.sliceBounds, run_sliceBound, h1, Go.Lib.extract_eq]
theorem slice_lo (l : List UInt8) (h : Int) (n : Nat) (e : h = n) (hn : n ≤ l.length) (W : World) : (Instr.sliceAt 9 (.string ⟨l.toArray⟩) (some (.int .i64 h)) none none).run Tryd.prog W = .ok (.string ⟨(l.drop n).toArray⟩) W := by
  subst e
  have hb := bsize l
  have h1 : (n : Int) ≤ ((ByteArray.mk l.toArray).size : Int) := by omega
  rw [run_sliceAt_string _ _ _ _ _ _ Tryd.underlying9]
  simp [Instr.slice, run_underlying Tryd.underlying9, Instr.sliceBounds, run_sliceBound, h1, Go.Lib.extract_eq]
  rw [hb, List.take_of_length_le (by simp)]
theorem slice_mid (l : List UInt8) (g h : Int) (a n : Nat) (e1 : g = a) (e : h = n) (ha : a ≤ n) (hn : n ≤ l.length) (W : World) : (Instr.sliceAt 9 (.string ⟨l.toArray⟩) (some (.int .i64 g)) (some (.int .i64 h)) none).run Tryd.prog W = .ok (.string ⟨((l.drop a).take (n - a)).toArray⟩) W := by
  subst e e1
  have hb := bsize l
  have h1 : (n : Int) ≤ ((ByteArray.mk l.toArray).size : Int) := by omega
  have h2 : (a : Int) ≤ (n : Int) := by omega
  rw [run_sliceAt_string _ _ _ _ _ _ Tryd.underlying9]
  simp [Instr.slice, run_underlying Tryd.underlying9, Instr.sliceBounds, run_sliceBound, h1, h2, Go.Lib.extract_eq]
set_option maxHeartbeats 200000 in
theorem parse_yes {d y m k : Int} (hD : Dt d y m k) (w : World) (hT : Tl w) (hP : Pt w) :
    Calls Tryd.prog 19 #[.string ⟨(txt y m k).toArray⟩] w fun e w' => e = .returned (.tuple #[.int .i64 d, .int .i64 0]) ∧ Below w.heap.size w w' := by
  have y1 := hD.y1; have y2 := hD.y2; have m1 := hD.m1; have m2 := hD.m2; have k1 := hD.k1; have k2 := hD.k2
  have kb := dim_bd y m
  have tx := fun n => text_yes hD (w.drewN n) (hT.dr n) (hP.dr n)
  have oy := fun n => of_yes y m k (w.drewN n) hD.ok (hT.dr n)
  rw [hD.at_] at oy
  have n1 := fun W => number_any (tx4 y) W (by show 4 ≤ 4; omega)
  have n2 := fun W => number_any (tx2 m) W (by show 2 ≤ 4; omega)
  have n3 := fun W => number_any (tx2 k) W (by show 2 ≤ 4; omega)
  rw [numL_tx4 (by omega) (by omega)] at n1
  rw [numL_tx2 (by omega) (by omega)] at n2
  rw [numL_tx2 (by omega) (by omega)] at n3
  obtain ⟨c1, c2, c3, -, -⟩ := cut_txt y m k
  have hlen := txt_len y m k
  have s1 := fun W => slice_hi (txt y m k) 4 4 rfl (by omega) W
  have s2 := fun W => slice_mid (txt y m k) 5 7 5 7 rfl rfl (by omega) (by omega) W
  have s3 := fun W => slice_lo (txt y m k) 8 8 rfl (by omega) W
  rw [c1] at s1; rw [show 7 - 5 = 2 from rfl, c2] at s2; rw [c3] at s3
  clear c1 c2 c3
  generalize txt y m k = T at *
  generalize tx4 y = A at *
  generalize tx2 m = B at *
  generalize tx2 k = C at *
  clear hT hP
  have hli : (T.length : Int) = 10 := by omega
  go_enter Tryd.func19, Tryd.ntmps19
  go_wp2_with fail
  refine wp_region_quiet_lit (by kernel_rfl) (by kernel_rfl) ?_
  repeat (go_big_quiet_step (fail))
  go_big_quiet_step ((refine (n1 (w.drewN _)).mono ?_; rintro e w2 ⟨rfl, rfl⟩; exact ⟨rfl, _, rfl⟩))
  repeat (go_big_quiet_step (fail))
  go_big_quiet_step ((refine (n2 (w.drewN _)).mono ?_; rintro e w2 ⟨rfl, rfl⟩; exact ⟨rfl, _, rfl⟩))
  repeat (go_big_quiet_step (fail))
  go_big_quiet_step ((refine (n3 (w.drewN _)).mono ?_; rintro e w2 ⟨rfl, rfl⟩; exact ⟨rfl, _, rfl⟩))
  repeat (go_big_quiet_step (fail))
  go_big_quiet_step ((refine (oy _).mono ?_; rintro e w2 ⟨rfl, rfl⟩; exact ⟨rfl, _, rfl⟩))
  repeat (go_big_quiet_step (fail))
  refine wpQuiet_nil ?_
  intro _ hw'
  obtain ⟨nq, hw''⟩ := hw'
  subst hw''
  go_wp2_with fail
  go_at_call 10
  refine (tx _).mono ?_
  rintro e w2 ⟨rfl, hb⟩
  go_wp2_with fail
  go_ret2
  exact ⟨rfl, step (Below.drN _ _) hb⟩
set_option maxHeartbeats 400000 in
theorem parse_no (s : List UInt8) (w : World) (h : ∀ d y m k, Dt d y m k → s ≠ txt y m k) (hT : Tl w) (hP : Pt w) :
    Calls Tryd.prog 19 #[.string ⟨s.toArray⟩] w fun e w' => e = .returned (.tuple #[.int .i64 0, .int .i64 100]) ∧ Below w.heap.size w w' := by
  by_cases hlen : s.length = 10
  · have hli : (s.length : Int) = 10 := by omega
    have s1 := fun W => slice_hi s 4 4 rfl (by omega) W
    have s2 := fun W => slice_mid s 5 7 5 7 rfl rfl (by omega) (by omega) W
    have s3 := fun W => slice_lo s 8 8 rfl (by omega) W
    rw [show 7 - 5 = 2 from rfl] at s2
    have n1 := fun W => number_any (s.take 4) W (by simp; omega)
    have n2 := fun W => number_any ((s.drop 5).take 2) W (by simp; omega)
    have n3 := fun W => number_any (s.drop 8) W (by simp; omega)
    generalize s.take 4 = A at *
    generalize (s.drop 5).take 2 = B at *
    generalize s.drop 8 = C at *
    generalize numL A = y at *
    generalize numL B = m at *
    generalize numL C = k at *
    by_cases ho : Ok3 y m k
    · have hD := ho.dt
      have oy := fun n => of_yes y m k (w.drewN n) ho (hT.dr n)
      have tx := fun n => text_yes hD (w.drewN n) (hT.dr n) (hP.dr n)
      have hne := h _ _ _ _ hD
      generalize ahd y m + (k - 1) = d at *
      generalize txt y m k = T at *
      have hb1 : (T == s) = false := by simpa using fun e => hne e.symm
      have hb2 : (s == T) = false := by simpa using hne
      clear hT hP h hlen
      go_enter Tryd.func19, Tryd.ntmps19
      go_wp2_with fail
      refine wp_region_quiet_lit (by kernel_rfl) (by kernel_rfl) ?_
      repeat (go_big_quiet_step (fail))
      go_big_quiet_step ((refine (n1 (w.drewN _)).mono ?_; rintro e w2 ⟨rfl, rfl⟩; exact ⟨rfl, _, rfl⟩))
      repeat (go_big_quiet_step (fail))
      go_big_quiet_step ((refine (n2 (w.drewN _)).mono ?_; rintro e w2 ⟨rfl, rfl⟩; exact ⟨rfl, _, rfl⟩))
      repeat (go_big_quiet_step (fail))
      go_big_quiet_step ((refine (n3 (w.drewN _)).mono ?_; rintro e w2 ⟨rfl, rfl⟩; exact ⟨rfl, _, rfl⟩))
      repeat (go_big_quiet_step (fail))
      go_big_quiet_step ((refine (oy _).mono ?_; rintro e w2 ⟨rfl, rfl⟩; exact ⟨rfl, _, rfl⟩))
      repeat (go_big_quiet_step (fail))
      refine wpQuiet_nil ?_
      intro _ hw'
      obtain ⟨nq, hw''⟩ := hw'
      subst hw''
      go_wp2_with fail
      go_at_call 10
      refine (tx _).mono ?_
      rintro e w2 ⟨rfl, hb⟩
      go_wp2_with fail
      go_ret2
      exact ⟨rfl, step (Below.drN _ _) hb⟩
    · have oy := fun n => of_no y m k (w.drewN n) ho (hT.dr n)
      clear hT hP h hlen
      go_enter Tryd.func19, Tryd.ntmps19
      go_wp2_with fail
      refine wp_region_quiet_lit (by kernel_rfl) (by kernel_rfl) ?_
      repeat (go_big_quiet_step (fail))
      go_big_quiet_step ((refine (n1 (w.drewN _)).mono ?_; rintro e w2 ⟨rfl, rfl⟩; exact ⟨rfl, _, rfl⟩))
      repeat (go_big_quiet_step (fail))
      go_big_quiet_step ((refine (n2 (w.drewN _)).mono ?_; rintro e w2 ⟨rfl, rfl⟩; exact ⟨rfl, _, rfl⟩))
      repeat (go_big_quiet_step (fail))
      go_big_quiet_step ((refine (n3 (w.drewN _)).mono ?_; rintro e w2 ⟨rfl, rfl⟩; exact ⟨rfl, _, rfl⟩))
      repeat (go_big_quiet_step (fail))
      go_big_quiet_step ((refine (oy _).mono ?_; rintro e w2 ⟨rfl, rfl⟩; exact ⟨rfl, _, rfl⟩))
      repeat (go_big_quiet_step (fail))
      refine wpQuiet_nil ?_
      intro _ hw'
      obtain ⟨nq, hw''⟩ := hw'
      subst hw''
      go_wp2_with fail
      go_ret2
      exact ⟨rfl, Below.drN _ _⟩
  · have hli : ¬ (s.length : Int) = 10 := by omega
    have hlb : ((s.length : Int) == 10) = false := by simpa using hli
    clear hT hP h
    go_enter Tryd.func19, Tryd.ntmps19
    go_wp2_with fail
    go_ret2
    exact ⟨rfl, Below.refl _ _⟩
end Go.Proofs.YtlebkdmkofgdpaaDoor
