/-
  What the statements of span share: awake.
-/
import Derived.Test.YtiabjlaganmloaaSp8
namespace Go.Proofs.Ytiabjlaganmloaa
open Go.RowKit Go.Shelf
set_option linter.unusedVariables false

theorem is_ok (p : Nat) (b : Option Addr) (cb : Nat) (ps : List Pr) (w : World) (h : St w p ps) (hb : Ls w b ps.length ps) :
    Calls Try.prog 19 #[.pointer (some ⟨p, 0, none⟩), .slice b ps.length cb] w fun e w' => e = .returned (.bool true) ∧ Below w.heap.size w w' := by
  have hS := h
  obtain ⟨h1, h2, a, cap, h3, h4, h5, h6⟩ := h
  exact callsIn_wide.1 (is_gen _ a b ps.length cap cb ps (by omega) h1.dn w h5 hb (fun W hB => spans_any p a ps.length cap true W (h3.after hB)) (fun W hB => days_any p ps W (hS.after hB)))
theorem ls_new3 (w : World) (x0 y0 x1 y1 x2 y2 : Int) : Ls (w.alloc (.cells #[.int .i64 x0, .int .i64 y0, .int .i64 x1, .int .i64 y1, .int .i64 x2, .int .i64 y2] 24)) (some ⟨w.heap.size, 0, none⟩) 3 [(x0, y0), (x1, y1), (x2, y2)] := by
  have V := Va.new w 24 #[.int .i64 x0, .int .i64 y0, .int .i64 x1, .int .i64 y1, .int .i64 x2, .int .i64 y2]
  refine ⟨rfl, fun _ => ⟨w.heap.size, 0, rfl, fun i hi => ?_⟩⟩
  rw [V.cellAt, V.cellAt]
  match i, hi with
  | 0, _ => exact ⟨rfl, rfl⟩
  | 1, _ => exact ⟨rfl, rfl⟩
  | 2, _ => exact ⟨rfl, rfl⟩
theorem ls_new2 (w : World) (x0 y0 x1 y1 : Int) : Ls (w.alloc (.cells #[.int .i64 x0, .int .i64 y0, .int .i64 x1, .int .i64 y1] 24)) (some ⟨w.heap.size, 0, none⟩) 2 [(x0, y0), (x1, y1)] := by
  have V := Va.new w 24 #[.int .i64 x0, .int .i64 y0, .int .i64 x1, .int .i64 y1]
  refine ⟨rfl, fun _ => ⟨w.heap.size, 0, rfl, fun i hi => ?_⟩⟩
  rw [V.cellAt, V.cellAt]
  match i, hi with
  | 0, _ => exact ⟨rfl, rfl⟩
  | 1, _ => exact ⟨rfl, rfl⟩
theorem awake_set {cs : List Pr} (h : Few cs) (e : ∀ d, inS cs d ↔ inS [(7, 9), (1, 3), (3, 4)] d) : cs = [(1, 4), (7, 9)] := by
  refine few_unique h ⟨fun p hp => ?_, ?_⟩ (fun d => ?_)
  · simp at hp
    rcases hp with rfl | rfl <;> (unfold May; omega)
  · simp
  · rw [e]
    simp only [inS_cons, inS_nil, or_false]
    omega
set_option maxRecDepth 20000 in
set_option maxHeartbeats 2000000 in
theorem awake_any (w : World) : Calls Try.prog 11 #[] w fun e w' => e = .returned (.bool true) ∧ Below w.heap.size w w' := by
  have ho := of_ok (some ⟨w.heap.size, 0, none⟩) 3 3 _ _ (ls_new3 w 7 9 1 3 3 4) (fun p hp => by simp at hp; rcases hp with rfl | rfl | rfl <;> (unfold May; omega)) (by omega)
  go_enter Try.func11, Try.ntmps11
  go_wp2_with (go_at_call 15; refine ho.mono ?_; rintro e w1 ⟨p, cs, rfl, hst, he, hb1⟩)
  have ec := awake_set hst.1 he.out
  subst ec
  have HB1 : Hid (Below w.heap.size w w1) := ((Below.refl _ _).alloc (Nat.le_refl _) _).trans (hb1.mono (by simp))
  have hst2 : St (w1.alloc (.cells #[.int .i64 1, .int .i64 4, .int .i64 7, .int .i64 9] 24)) p [(1, 4), (7, 9)] := hst.after ((Below.refl _ _).alloc (Nat.le_refl _) _)
  have hi := is_ok p (some ⟨w1.heap.size, 0, none⟩) 2 [(1, 4), (7, 9)] _ hst2 (ls_new2 w1 1 4 7 9)
  have h3 : inB [(1, 4), (7, 9)] 3 = true := inB_true ⟨(1, 4), by simp, by omega, by omega⟩
  have h4 : inB [(1, 4), (7, 9)] 4 = false := inB_false (fun h => by simp only [inS_cons, inS_nil, or_false] at h; omega)
  have HB2 : Hid (Below w.heap.size w (w1.alloc (.cells #[.int .i64 1, .int .i64 4, .int .i64 7, .int .i64 9] 24))) := HB1.out.alloc HB1.out.size _
  have HS : Hid _ := hst2
  simp only [List.length_cons, List.length_nil, Nat.reduceAdd] at hi
  clear ho he hb1 hst hst2
  go_wp2_with (go_at_call 19; refine hi.mono ?_; rintro e w2 ⟨rfl, hb2⟩)
  have hs2 : St w2 p [(1, 4), (7, 9)] := St.after hb2 HS.out
  have hh3 := has_any p _ 3 w2 hs2
  rw [h3] at hh3
  have HB3 : Hid (Below w.heap.size w w2) := step HB2.out hb2
  refine hh3.mono ?_
  rintro e w3 ⟨rfl, hb3⟩
  have hh4 := has_any p _ 4 w3 (hs2.after hb3)
  rw [h4] at hh4
  have HB4 : Hid (Below w.heap.size w w3) := step HB3.out hb3
  clear hs2 hh3 hi HS hb2 hb3
  go_wp2_with fail
  refine hh4.mono ?_
  rintro e w4 ⟨rfl, hb4⟩
  go_wp2_with fail
  go_ret
  exact ⟨rfl, step HB4.out hb4⟩
end Go.Proofs.Ytiabjlaganmloaa
