/-
  The document's Parse of amounts.
-/
import Derived.Test.YtigimdcaakfckaaGreatDoorRp9d
namespace Go.Proofs.YtigimdcaakfckaaGreatDoor
open Go.RowKit Go.Shelf
set_option linter.unusedVariables false

theorem rtx_any (s t : List UInt8) (p far : Nat) (neg wr : Bool) (w : World) (hp : p ≤ s.length) (hs : s.length ≤ 140737488355328) (ht : t.length ≤ 1000) (hf : far ≤ mostU neg) (K : List UInt8 → R9) (T : R9) (h0 : wr = false → plus p (fixC t K (s.drop p)) = T) (h1 : wr = true → T = (p, none)) : Calls Tryz.prog 71 #[rdv p far neg wr, .string ⟨s.toArray⟩, .string ⟨t.toArray⟩] w fun e w' => RpP s (fun p n f => n = neg ∧ f = far ∧ plus p (K (s.drop p)) = T) T w e w' := by
  cases wr with
  | false => exact rtext9 s t p far neg w hp hs ht hf K T (h0 rfl)
  | true =>
    refine Calls.mono (rtext_wr ⟨s.toArray⟩ ⟨t.toArray⟩ p far neg w) ?_
    rintro e w' ⟨rfl, hb⟩
    exact ⟨true, neg, p, far, rfl, hp, hf, (fun h => by cases h), h1, hb⟩
theorem rdg_any (s nm : List UInt8) (p far left : Nat) (neg wr : Bool) (w : World) (hp : p ≤ s.length) (hs : s.length ≤ 140737488355328) (hl : left ≤ 4) (hf : far ≤ mostU neg) (T : R9) (h0 : wr = false → plus p (behR neg nm (left + 1) far (s.drop p)) = T) (h1 : wr = true → T = (p, none)) : Calls Tryz.prog 72 #[rdv p far neg wr, .string ⟨s.toArray⟩, .int .i64 left] w fun e w' => RpP s (fun p n f => plus p (behR n nm left f (s.drop p)) = T) T w e w' := by
  cases wr with
  | false =>
    have e := h0 rfl
    rcases rdigit_any s p far left neg w hp hs hf hl with ⟨c, hcd, hp1, hok, hd⟩ | ⟨hno, hd⟩
    · refine hd.mono ?_
      rintro e' w' ⟨rfl, hb⟩
      refine ⟨false, neg, p + 1, _, rfl, hp1, Nat.le_trans ((okD_iff _ _ _ _).1 hok).2.1 (Nat.div_le_self _ _), fun _ => ?_, (fun h => by cases h), hb⟩
      rw [hcd] at e
      have e1 : behR neg nm (left + 1) far (c :: s.drop (p + 1)) = if okD neg far left c then one (behR neg nm left (far * 10 + wv c) (s.drop (p + 1))) else (0, none) := rfl
      rw [e1, if_pos hok, plus_one] at e
      exact e
    · refine hd.mono ?_
      rintro e' w' ⟨rfl, hb⟩
      refine ⟨true, neg, p, far, rfl, hp, hf, (fun h => by cases h), fun _ => ?_, hb⟩
      rcases hno with h0 | ⟨c, l, hcd, hok⟩
      · rw [h0] at e; exact e.symm
      · rw [hcd] at e
        have e1 : behR neg nm (left + 1) far (c :: l) = if okD neg far left c then one (behR neg nm left (far * 10 + wv c) l) else (0, none) := rfl
        rw [e1, hok] at e
        exact e.symm
  | true =>
    refine Calls.mono (rdigit_wr ⟨s.toArray⟩ p far left neg w) ?_
    rintro e w' ⟨rfl, hb⟩
    exact ⟨true, neg, p, far, rfl, hp, hf, (fun h => by cases h), h1, hb⟩
set_option maxHeartbeats 8000000 in
theorem rparse9_0 (nm s : List UInt8) (w : World) (hC : Cur nm (0 : Nat)) (hs : s.length ≤ 140737488355328) (T : R9) (hT : parR nm 0 s = T) :
    Calls Tryz.prog 36 #[.agg #[.string ⟨nm.toArray⟩, .int .i64 (0 : Nat)], .string ⟨s.toArray⟩] w fun e w' => e = .returned (.tuple #[.int .i64 (out9 T).1, .int .i64 (out9 T).2.1, .int .i64 (out9 T).2.2]) ∧ Below w.heap.size w w' := by
  have HT : Hid (parR nm 0 s = T) := hT
  clear hT
  go_enter Tryz.func36, Tryz.ntmps36
  go_wp2_with fail
  refine ent1 w _ _ (Q := fun W => Calls Tryz.prog _ _ W _) ?_
  intro x1 B0 hs1 V0
  clear hs1
  refine (rcheck9_ok nm _ hC x1).mono ?_
  rintro e x2 ⟨rfl, hb⟩
  replace V0 := Va.after hb V0
  replace B0 := step B0 hb
  clear hb
  have hl0 := V0.lt
  have a0 : x2.cell? ⟨w.heap.size, 0, none⟩ = some (.string ⟨nm.toArray⟩) := V0.cellAt 0
  have a1 : x2.cell? ⟨w.heap.size, 1, none⟩ = some (.int .i64 (0 : Nat)) := V0.cellAt 1
  go_wp2_with fail
  clear a0 a1
  refine ent1 x2 _ _ (Q := fun W => Calls Tryz.prog _ _ W _) ?_
  intro x3 hb hs1 Vp
  clear hs1
  replace V0 := Va.after hb V0
  replace B0 := step B0 hb
  clear hb
  obtain ⟨bp, hbp⟩ : ∃ bp, x2.heap.size = bp := ⟨_, rfl⟩
  have hbw : w.heap.size ≤ bp := by omega
  have hne : w.heap.size ≠ bp := by omega
  have hne' : bp ≠ w.heap.size := by omega
  rw [hbp] at Vp ⊢
  clear hbp hl0
  refine (rsign9 s x3 nm 0 T HT.out).mono ?_
  rintro e y0 ⟨n0, p0, rfl, hp, hR, hb⟩
  replace V0 := Va.after hb V0
  replace Vp := Va.after hb Vp
  replace B0 := step B0 hb
  clear hb
  have c0 : y0.cell? ⟨bp, 0, none⟩ = some (.int .i64 (0 : Nat)) := Vp.cellAt 0
  have f0 := Vp.frozen 0
  have c1 : y0.cell? ⟨bp, 1, none⟩ = some (.int .u64 (0 : Nat)) := Vp.cellAt 1
  have f1 := Vp.frozen 1
  have c2 : y0.cell? ⟨bp, 2, none⟩ = some (.bool false) := Vp.cellAt 2
  have f2 := Vp.frozen 2
  have c3 : y0.cell? ⟨bp, 3, none⟩ = some (.bool false) := Vp.cellAt 3
  have f3 := Vp.frozen 3
  have a0 : y0.cell? ⟨w.heap.size, 0, none⟩ = some (.string ⟨nm.toArray⟩) := V0.cellAt 0
  have a1 : y0.cell? ⟨w.heap.size, 1, none⟩ = some (.int .i64 (0 : Nat)) := V0.cellAt 1
  go_wp2_with fail
  clear c0 c1 c2 c3 f0 f1 f2 f3 a0 a1
  refine sto4 Vp _ _ _ _ (Q := fun W => Calls Tryz.prog _ _ W _) ?_
  intro z0 Vp' oth far'
  replace V0 := oth _ _ _ hne V0
  replace B0 := far' _ _ hbw B0
  clear Vp oth far'
  have Vp := Vp'
  clear Vp'
  refine (rahead9 s nm p0 0 n0 z0 hp hs (by omega) T hR).mono ?_
  rintro e y1 ⟨w1, n1, p1, q1, rfl, hp1, hf1, hR1, hN1, hb⟩
  replace V0 := Va.after hb V0
  replace Vp := Va.after hb Vp
  replace B0 := step B0 hb
  clear hb
  have c0 : y1.cell? ⟨bp, 0, none⟩ = some (.int .i64 (p0 : Nat)) := Vp.cellAt 0
  have f0 := Vp.frozen 0
  have c1 : y1.cell? ⟨bp, 1, none⟩ = some (.int .u64 (0 : Nat)) := Vp.cellAt 1
  have f1 := Vp.frozen 1
  have c2 : y1.cell? ⟨bp, 2, none⟩ = some (.bool n0) := Vp.cellAt 2
  have f2 := Vp.frozen 2
  have c3 : y1.cell? ⟨bp, 3, none⟩ = some (.bool false) := Vp.cellAt 3
  have f3 := Vp.frozen 3
  have a0 : y1.cell? ⟨w.heap.size, 0, none⟩ = some (.string ⟨nm.toArray⟩) := V0.cellAt 0
  have a1 : y1.cell? ⟨w.heap.size, 1, none⟩ = some (.int .i64 (0 : Nat)) := V0.cellAt 1
  go_wp2_with fail
  clear c0 c1 c2 c3 f0 f1 f2 f3 a0 a1
  refine sto4 Vp _ _ _ _ (Q := fun W => Calls Tryz.prog _ _ W _) ?_
  intro z1 Vp' oth far'
  replace V0 := oth _ _ _ hne V0
  replace B0 := far' _ _ hbw B0
  clear Vp oth far'
  have Vp := Vp'
  clear Vp'
  have hR1' : w1 = false → plus p1 (behR n1 nm 0 q1 (s.drop p1)) = T := fun h => by obtain ⟨e, h⟩ := hR1 h; rw [← e] at h; exact h
  refine (rtx_any s [32] p1 q1 n1 w1 z1 hp1 hs (by simp) hf1 (fixC nm (finR (sgn n1 q1))) T (fun h => by exact hR1' h) hN1).mono ?_
  rintro e y2 ⟨w2, n2, p2, q2, rfl, hp2, hf2, hR2, hN2, hb⟩
  replace V0 := Va.after hb V0
  replace Vp := Va.after hb Vp
  replace B0 := step B0 hb
  clear hb
  have c0 : y2.cell? ⟨bp, 0, none⟩ = some (.int .i64 (p1 : Nat)) := Vp.cellAt 0
  have f0 := Vp.frozen 0
  have c1 : y2.cell? ⟨bp, 1, none⟩ = some (.int .u64 (q1 : Nat)) := Vp.cellAt 1
  have f1 := Vp.frozen 1
  have c2 : y2.cell? ⟨bp, 2, none⟩ = some (.bool n1) := Vp.cellAt 2
  have f2 := Vp.frozen 2
  have c3 : y2.cell? ⟨bp, 3, none⟩ = some (.bool w1) := Vp.cellAt 3
  have f3 := Vp.frozen 3
  have a0 : y2.cell? ⟨w.heap.size, 0, none⟩ = some (.string ⟨nm.toArray⟩) := V0.cellAt 0
  have a1 : y2.cell? ⟨w.heap.size, 1, none⟩ = some (.int .i64 (0 : Nat)) := V0.cellAt 1
  go_wp2_with fail
  clear c0 c1 c2 c3 f0 f1 f2 f3 a0 a1
  refine sto4 Vp _ _ _ _ (Q := fun W => Calls Tryz.prog _ _ W _) ?_
  intro z2 Vp' oth far'
  replace V0 := oth _ _ _ hne V0
  replace B0 := far' _ _ hbw B0
  clear Vp oth far'
  have Vp := Vp'
  clear Vp'
  refine (rtx_any s nm p2 q2 n2 w2 z2 hp2 hs (by rw [hC.1]; omega) hf2 (finR (sgn n2 q2)) T (fun h => by obtain ⟨e1, e2, h⟩ := hR2 h; rw [e1, e2]; exact h) hN2).mono ?_
  rintro e y3 ⟨wf, nf, pf, qf, rfl, hpf, hff, hRf, hNf, hb⟩
  replace V0 := Va.after hb V0
  replace Vp := Va.after hb Vp
  replace B0 := step B0 hb
  clear hb
  have HR : Hid (wf = false → plus pf (finR (sgn nf qf) (s.drop pf)) = T) := fun h => by obtain ⟨e1, e2, h⟩ := hRf h; rw [e1, e2]; exact h
  clear hRf
  have c0 : y3.cell? ⟨bp, 0, none⟩ = some (.int .i64 (p2 : Nat)) := Vp.cellAt 0
  have f0 := Vp.frozen 0
  have c1 : y3.cell? ⟨bp, 1, none⟩ = some (.int .u64 (q2 : Nat)) := Vp.cellAt 1
  have f1 := Vp.frozen 1
  have c2 : y3.cell? ⟨bp, 2, none⟩ = some (.bool n2) := Vp.cellAt 2
  have f2 := Vp.frozen 2
  have c3 : y3.cell? ⟨bp, 3, none⟩ = some (.bool w2) := Vp.cellAt 3
  have f3 := Vp.frozen 3
  have a0 : y3.cell? ⟨w.heap.size, 0, none⟩ = some (.string ⟨nm.toArray⟩) := V0.cellAt 0
  have a1 : y3.cell? ⟨w.heap.size, 1, none⟩ = some (.int .i64 (0 : Nat)) := V0.cellAt 1
  cases wf with
  | true =>
    have HE : Hid (T = (pf, none)) := hNf rfl
    go_wp2_with fail
    go_quiet (fail)
    go_wp2_with fail
    (try simp only [Exit.inBlock, Exit.then])
    refine bodyPost_ret (results_tmp3 rfl _ _ _) rfl ?_
    exact ⟨by rw [HE.out]; rfl, below_drewN (belo4 B0 hbw _ _ _ _) _⟩
  | false =>
    by_cases hl : pf < s.length
    · have HE : Hid (T = (pf, none)) := by
        obtain ⟨c, -, hcd⟩ := byte_at s pf hl
        have h := HR.out rfl
        rw [hcd] at h; exact h.symm
      have hli : (pf : Int) < s.length := by omega
      go_wp2_with fail
      go_quiet (fail)
      go_wp2_with fail
      (try simp only [Exit.inBlock, Exit.then])
      refine bodyPost_ret (results_tmp3 rfl _ _ _) rfl ?_
      exact ⟨by rw [HE.out]; rfl, below_drewN (belo4 B0 hbw _ _ _ _) _⟩
    · have HE : Hid (T = (pf, some (sgn nf qf))) := by
        have h := HR.out rfl
        rw [show s.drop pf = [] by rw [show pf = s.length by omega]; simp] at h; exact h.symm
      have hli : ¬ (pf : Int) < s.length := by omega
      have hq9 : qf ≤ 9223372036854775808 := Nat.le_trans hff (by cases nf <;> decide)
      cases nf with
      | true =>
        obtain ⟨Y, hy1⟩ : ∃ Y, IntKind.u64.wrap (-(qf : Int)) = Y := ⟨_, rfl⟩
        have hy2 : wrap64 Y = -(qf : Int) := by
          have : (-(qf : Int)) % 18446744073709551616 = Y := hy1
          unfold wrap64; omega
        go_wp2_with fail
        (try simp only [Exit.inBlock, Exit.then])
        refine bodyPost_ret (results_tmp3 rfl _ _ _) rfl ?_
        exact ⟨by rw [HE.out]; show Ending.returned (.tuple #[.int .i64 (wrap64 Y), .int .i64 0, .int .i64 0]) = _; rw [hy2]; rfl, belo4 B0 hbw _ _ _ _⟩
      | false =>
        have hy2 : wrap64 (qf : Int) = qf := by have := hff; simp [mostU] at this; unfold wrap64; omega
        go_wp2_with fail
        (try simp only [Exit.inBlock, Exit.then])
        refine bodyPost_ret (results_tmp3 rfl _ _ _) rfl ?_
        exact ⟨by rw [HE.out]; show Ending.returned (.tuple #[.int .i64 (wrap64 (qf : Int)), .int .i64 0, .int .i64 0]) = _; rw [hy2]; rfl, belo4 B0 hbw _ _ _ _⟩
set_option maxHeartbeats 8000000 in
theorem rparse9_1 (nm s : List UInt8) (w : World) (hC : Cur nm (1 : Nat)) (hs : s.length ≤ 140737488355328) (T : R9) (hT : parR nm 1 s = T) :
    Calls Tryz.prog 36 #[.agg #[.string ⟨nm.toArray⟩, .int .i64 (1 : Nat)], .string ⟨s.toArray⟩] w fun e w' => e = .returned (.tuple #[.int .i64 (out9 T).1, .int .i64 (out9 T).2.1, .int .i64 (out9 T).2.2]) ∧ Below w.heap.size w w' := by
  have HT : Hid (parR nm 1 s = T) := hT
  clear hT
  go_enter Tryz.func36, Tryz.ntmps36
  go_wp2_with fail
  refine ent1 w _ _ (Q := fun W => Calls Tryz.prog _ _ W _) ?_
  intro x1 B0 hs1 V0
  clear hs1
  refine (rcheck9_ok nm _ hC x1).mono ?_
  rintro e x2 ⟨rfl, hb⟩
  replace V0 := Va.after hb V0
  replace B0 := step B0 hb
  clear hb
  have hl0 := V0.lt
  have a0 : x2.cell? ⟨w.heap.size, 0, none⟩ = some (.string ⟨nm.toArray⟩) := V0.cellAt 0
  have a1 : x2.cell? ⟨w.heap.size, 1, none⟩ = some (.int .i64 (1 : Nat)) := V0.cellAt 1
  go_wp2_with fail
  clear a0 a1
  refine ent1 x2 _ _ (Q := fun W => Calls Tryz.prog _ _ W _) ?_
  intro x3 hb hs1 Vp
  clear hs1
  replace V0 := Va.after hb V0
  replace B0 := step B0 hb
  clear hb
  obtain ⟨bp, hbp⟩ : ∃ bp, x2.heap.size = bp := ⟨_, rfl⟩
  have hbw : w.heap.size ≤ bp := by omega
  have hne : w.heap.size ≠ bp := by omega
  have hne' : bp ≠ w.heap.size := by omega
  rw [hbp] at Vp ⊢
  clear hbp hl0
  refine (rsign9 s x3 nm 1 T HT.out).mono ?_
  rintro e y0 ⟨n0, p0, rfl, hp, hR, hb⟩
  replace V0 := Va.after hb V0
  replace Vp := Va.after hb Vp
  replace B0 := step B0 hb
  clear hb
  have c0 : y0.cell? ⟨bp, 0, none⟩ = some (.int .i64 (0 : Nat)) := Vp.cellAt 0
  have f0 := Vp.frozen 0
  have c1 : y0.cell? ⟨bp, 1, none⟩ = some (.int .u64 (0 : Nat)) := Vp.cellAt 1
  have f1 := Vp.frozen 1
  have c2 : y0.cell? ⟨bp, 2, none⟩ = some (.bool false) := Vp.cellAt 2
  have f2 := Vp.frozen 2
  have c3 : y0.cell? ⟨bp, 3, none⟩ = some (.bool false) := Vp.cellAt 3
  have f3 := Vp.frozen 3
  have a0 : y0.cell? ⟨w.heap.size, 0, none⟩ = some (.string ⟨nm.toArray⟩) := V0.cellAt 0
  have a1 : y0.cell? ⟨w.heap.size, 1, none⟩ = some (.int .i64 (1 : Nat)) := V0.cellAt 1
  go_wp2_with fail
  clear c0 c1 c2 c3 f0 f1 f2 f3 a0 a1
  refine sto4 Vp _ _ _ _ (Q := fun W => Calls Tryz.prog _ _ W _) ?_
  intro z0 Vp' oth far'
  replace V0 := oth _ _ _ hne V0
  replace B0 := far' _ _ hbw B0
  clear Vp oth far'
  have Vp := Vp'
  clear Vp'
  refine (rahead9 s nm p0 1 n0 z0 hp hs (by omega) T hR).mono ?_
  rintro e y1 ⟨w1, n1, p1, q1, rfl, hp1, hf1, hR1, hN1, hb⟩
  replace V0 := Va.after hb V0
  replace Vp := Va.after hb Vp
  replace B0 := step B0 hb
  clear hb
  have c0 : y1.cell? ⟨bp, 0, none⟩ = some (.int .i64 (p0 : Nat)) := Vp.cellAt 0
  have f0 := Vp.frozen 0
  have c1 : y1.cell? ⟨bp, 1, none⟩ = some (.int .u64 (0 : Nat)) := Vp.cellAt 1
  have f1 := Vp.frozen 1
  have c2 : y1.cell? ⟨bp, 2, none⟩ = some (.bool n0) := Vp.cellAt 2
  have f2 := Vp.frozen 2
  have c3 : y1.cell? ⟨bp, 3, none⟩ = some (.bool false) := Vp.cellAt 3
  have f3 := Vp.frozen 3
  have a0 : y1.cell? ⟨w.heap.size, 0, none⟩ = some (.string ⟨nm.toArray⟩) := V0.cellAt 0
  have a1 : y1.cell? ⟨w.heap.size, 1, none⟩ = some (.int .i64 (1 : Nat)) := V0.cellAt 1
  go_wp2_with fail
  clear c0 c1 c2 c3 f0 f1 f2 f3 a0 a1
  refine sto4 Vp _ _ _ _ (Q := fun W => Calls Tryz.prog _ _ W _) ?_
  intro z1 Vp' oth far'
  replace V0 := oth _ _ _ hne V0
  replace B0 := far' _ _ hbw B0
  clear Vp oth far'
  have Vp := Vp'
  clear Vp'
  refine (rtx_any s [46] p1 q1 n1 w1 z1 hp1 hs (by simp) hf1 (behR n1 nm 1 q1) T (fun h => by obtain ⟨e, h⟩ := hR1 h; rw [← e] at h; exact h) hN1).mono ?_
  rintro e y2 ⟨w2, n2, p2, q2, rfl, hp2, hf2, hR2, hN2, hb⟩
  replace V0 := Va.after hb V0
  replace Vp := Va.after hb Vp
  replace B0 := step B0 hb
  clear hb
  have c0 : y2.cell? ⟨bp, 0, none⟩ = some (.int .i64 (p1 : Nat)) := Vp.cellAt 0
  have f0 := Vp.frozen 0
  have c1 : y2.cell? ⟨bp, 1, none⟩ = some (.int .u64 (q1 : Nat)) := Vp.cellAt 1
  have f1 := Vp.frozen 1
  have c2 : y2.cell? ⟨bp, 2, none⟩ = some (.bool n1) := Vp.cellAt 2
  have f2 := Vp.frozen 2
  have c3 : y2.cell? ⟨bp, 3, none⟩ = some (.bool w1) := Vp.cellAt 3
  have f3 := Vp.frozen 3
  have a0 : y2.cell? ⟨w.heap.size, 0, none⟩ = some (.string ⟨nm.toArray⟩) := V0.cellAt 0
  have a1 : y2.cell? ⟨w.heap.size, 1, none⟩ = some (.int .i64 (1 : Nat)) := V0.cellAt 1
  go_wp2_with fail
  clear c0 c1 c2 c3 f0 f1 f2 f3 a0 a1
  refine sto4 Vp _ _ _ _ (Q := fun W => Code.wp Tryz.prog _ _ _ W) ?_
  intro z2 Vp' oth far'
  replace V0 := oth _ _ _ hne V0
  replace B0 := far' _ _ hbw B0
  clear Vp oth far'
  have Vp := Vp'
  clear Vp'
  have hR2' : w2 = false → plus p2 (behR n2 nm 1 q2 (s.drop p2)) = T := fun h => by obtain ⟨e1, e2, h⟩ := hR2 h; rw [e1, e2]; exact h
  refine wp_loop_rounds 2 ?_
  rw [rounds_succ]
  have c0 : z2.cell? ⟨bp, 0, none⟩ = some (.int .i64 (p2 : Nat)) := Vp.cellAt 0
  have f0 := Vp.frozen 0
  have c1 : z2.cell? ⟨bp, 1, none⟩ = some (.int .u64 (q2 : Nat)) := Vp.cellAt 1
  have f1 := Vp.frozen 1
  have c2 : z2.cell? ⟨bp, 2, none⟩ = some (.bool n2) := Vp.cellAt 2
  have f2 := Vp.frozen 2
  have c3 : z2.cell? ⟨bp, 3, none⟩ = some (.bool w2) := Vp.cellAt 3
  have f3 := Vp.frozen 3
  have a0 : z2.cell? ⟨w.heap.size, 0, none⟩ = some (.string ⟨nm.toArray⟩) := V0.cellAt 0
  have a1 : z2.cell? ⟨w.heap.size, 1, none⟩ = some (.int .i64 (1 : Nat)) := V0.cellAt 1
  go_wp2_with fail
  clear c0 c1 c2 c3 f0 f1 f2 f3 a0 a1
  refine (rdg_any s nm p2 q2 0 n2 w2 z2 hp2 hs (by omega) hf2 T hR2' hN2).mono ?_
  rintro e y3 ⟨w3, n3, p3, q3, rfl, hp3, hf3, hR3, hN3, hb⟩
  replace V0 := Va.after hb V0
  replace Vp := Va.after hb Vp
  replace B0 := step B0 hb
  clear hb
  have c0 : y3.cell? ⟨bp, 0, none⟩ = some (.int .i64 (p2 : Nat)) := Vp.cellAt 0
  have f0 := Vp.frozen 0
  have c1 : y3.cell? ⟨bp, 1, none⟩ = some (.int .u64 (q2 : Nat)) := Vp.cellAt 1
  have f1 := Vp.frozen 1
  have c2 : y3.cell? ⟨bp, 2, none⟩ = some (.bool n2) := Vp.cellAt 2
  have f2 := Vp.frozen 2
  have c3 : y3.cell? ⟨bp, 3, none⟩ = some (.bool w2) := Vp.cellAt 3
  have f3 := Vp.frozen 3
  have a0 : y3.cell? ⟨w.heap.size, 0, none⟩ = some (.string ⟨nm.toArray⟩) := V0.cellAt 0
  have a1 : y3.cell? ⟨w.heap.size, 1, none⟩ = some (.int .i64 (1 : Nat)) := V0.cellAt 1
  go_wp2_with fail
  clear c0 c1 c2 c3 f0 f1 f2 f3 a0 a1
  refine sto4 Vp _ _ _ _ (Q := fun W => Code.rounds Tryz.prog _ _ _ _ W) ?_
  intro z3 Vp' oth far'
  replace V0 := oth _ _ _ hne V0
  replace B0 := far' _ _ hbw B0
  clear Vp oth far'
  have Vp := Vp'
  clear Vp'
  rw [rounds_succ]
  have c0 : z3.cell? ⟨bp, 0, none⟩ = some (.int .i64 (p3 : Nat)) := Vp.cellAt 0
  have f0 := Vp.frozen 0
  have c1 : z3.cell? ⟨bp, 1, none⟩ = some (.int .u64 (q3 : Nat)) := Vp.cellAt 1
  have f1 := Vp.frozen 1
  have c2 : z3.cell? ⟨bp, 2, none⟩ = some (.bool n3) := Vp.cellAt 2
  have f2 := Vp.frozen 2
  have c3 : z3.cell? ⟨bp, 3, none⟩ = some (.bool w3) := Vp.cellAt 3
  have f3 := Vp.frozen 3
  have a0 : z3.cell? ⟨w.heap.size, 0, none⟩ = some (.string ⟨nm.toArray⟩) := V0.cellAt 0
  have a1 : z3.cell? ⟨w.heap.size, 1, none⟩ = some (.int .i64 (1 : Nat)) := V0.cellAt 1
  go_wp2_with fail
  clear c0 c1 c2 c3 f0 f1 f2 f3 a0 a1
  refine (rtx_any s [32] p3 q3 n3 w3 z3 hp3 hs (by simp) hf3 (fixC nm (finR (sgn n3 q3))) T (fun h => by exact hR3 h) hN3).mono ?_
  rintro e y4 ⟨w4, n4, p4, q4, rfl, hp4, hf4, hR4, hN4, hb⟩
  replace V0 := Va.after hb V0
  replace Vp := Va.after hb Vp
  replace B0 := step B0 hb
  clear hb
  have c0 : y4.cell? ⟨bp, 0, none⟩ = some (.int .i64 (p3 : Nat)) := Vp.cellAt 0
  have f0 := Vp.frozen 0
  have c1 : y4.cell? ⟨bp, 1, none⟩ = some (.int .u64 (q3 : Nat)) := Vp.cellAt 1
  have f1 := Vp.frozen 1
  have c2 : y4.cell? ⟨bp, 2, none⟩ = some (.bool n3) := Vp.cellAt 2
  have f2 := Vp.frozen 2
  have c3 : y4.cell? ⟨bp, 3, none⟩ = some (.bool w3) := Vp.cellAt 3
  have f3 := Vp.frozen 3
  have a0 : y4.cell? ⟨w.heap.size, 0, none⟩ = some (.string ⟨nm.toArray⟩) := V0.cellAt 0
  have a1 : y4.cell? ⟨w.heap.size, 1, none⟩ = some (.int .i64 (1 : Nat)) := V0.cellAt 1
  go_wp2_with fail
  clear c0 c1 c2 c3 f0 f1 f2 f3 a0 a1
  refine sto4 Vp _ _ _ _ (Q := fun W => Calls Tryz.prog _ _ W _) ?_
  intro z4 Vp' oth far'
  replace V0 := oth _ _ _ hne V0
  replace B0 := far' _ _ hbw B0
  clear Vp oth far'
  have Vp := Vp'
  clear Vp'
  refine (rtx_any s nm p4 q4 n4 w4 z4 hp4 hs (by rw [hC.1]; omega) hf4 (finR (sgn n4 q4)) T (fun h => by obtain ⟨e1, e2, h⟩ := hR4 h; rw [e1, e2]; exact h) hN4).mono ?_
  rintro e y5 ⟨wf, nf, pf, qf, rfl, hpf, hff, hRf, hNf, hb⟩
  replace V0 := Va.after hb V0
  replace Vp := Va.after hb Vp
  replace B0 := step B0 hb
  clear hb
  have HR : Hid (wf = false → plus pf (finR (sgn nf qf) (s.drop pf)) = T) := fun h => by obtain ⟨e1, e2, h⟩ := hRf h; rw [e1, e2]; exact h
  clear hRf
  have c0 : y5.cell? ⟨bp, 0, none⟩ = some (.int .i64 (p4 : Nat)) := Vp.cellAt 0
  have f0 := Vp.frozen 0
  have c1 : y5.cell? ⟨bp, 1, none⟩ = some (.int .u64 (q4 : Nat)) := Vp.cellAt 1
  have f1 := Vp.frozen 1
  have c2 : y5.cell? ⟨bp, 2, none⟩ = some (.bool n4) := Vp.cellAt 2
  have f2 := Vp.frozen 2
  have c3 : y5.cell? ⟨bp, 3, none⟩ = some (.bool w4) := Vp.cellAt 3
  have f3 := Vp.frozen 3
  have a0 : y5.cell? ⟨w.heap.size, 0, none⟩ = some (.string ⟨nm.toArray⟩) := V0.cellAt 0
  have a1 : y5.cell? ⟨w.heap.size, 1, none⟩ = some (.int .i64 (1 : Nat)) := V0.cellAt 1
  cases wf with
  | true =>
    have HE : Hid (T = (pf, none)) := hNf rfl
    go_wp2_with fail
    go_quiet (fail)
    go_wp2_with fail
    (try simp only [Exit.inBlock, Exit.then])
    refine bodyPost_ret (results_tmp3 rfl _ _ _) rfl ?_
    exact ⟨by rw [HE.out]; rfl, below_drewN (belo4 B0 hbw _ _ _ _) _⟩
  | false =>
    by_cases hl : pf < s.length
    · have HE : Hid (T = (pf, none)) := by
        obtain ⟨c, -, hcd⟩ := byte_at s pf hl
        have h := HR.out rfl
        rw [hcd] at h; exact h.symm
      have hli : (pf : Int) < s.length := by omega
      go_wp2_with fail
      go_quiet (fail)
      go_wp2_with fail
      (try simp only [Exit.inBlock, Exit.then])
      refine bodyPost_ret (results_tmp3 rfl _ _ _) rfl ?_
      exact ⟨by rw [HE.out]; rfl, below_drewN (belo4 B0 hbw _ _ _ _) _⟩
    · have HE : Hid (T = (pf, some (sgn nf qf))) := by
        have h := HR.out rfl
        rw [show s.drop pf = [] by rw [show pf = s.length by omega]; simp] at h; exact h.symm
      have hli : ¬ (pf : Int) < s.length := by omega
      have hq9 : qf ≤ 9223372036854775808 := Nat.le_trans hff (by cases nf <;> decide)
      cases nf with
      | true =>
        obtain ⟨Y, hy1⟩ : ∃ Y, IntKind.u64.wrap (-(qf : Int)) = Y := ⟨_, rfl⟩
        have hy2 : wrap64 Y = -(qf : Int) := by
          have : (-(qf : Int)) % 18446744073709551616 = Y := hy1
          unfold wrap64; omega
        go_wp2_with fail
        (try simp only [Exit.inBlock, Exit.then])
        refine bodyPost_ret (results_tmp3 rfl _ _ _) rfl ?_
        exact ⟨by rw [HE.out]; show Ending.returned (.tuple #[.int .i64 (wrap64 Y), .int .i64 0, .int .i64 0]) = _; rw [hy2]; rfl, belo4 B0 hbw _ _ _ _⟩
      | false =>
        have hy2 : wrap64 (qf : Int) = qf := by have := hff; simp [mostU] at this; unfold wrap64; omega
        go_wp2_with fail
        (try simp only [Exit.inBlock, Exit.then])
        refine bodyPost_ret (results_tmp3 rfl _ _ _) rfl ?_
        exact ⟨by rw [HE.out]; show Ending.returned (.tuple #[.int .i64 (wrap64 (qf : Int)), .int .i64 0, .int .i64 0]) = _; rw [hy2]; rfl, belo4 B0 hbw _ _ _ _⟩
set_option maxHeartbeats 8000000 in
theorem rparse9_2 (nm s : List UInt8) (w : World) (hC : Cur nm (2 : Nat)) (hs : s.length ≤ 140737488355328) (T : R9) (hT : parR nm 2 s = T) :
    Calls Tryz.prog 36 #[.agg #[.string ⟨nm.toArray⟩, .int .i64 (2 : Nat)], .string ⟨s.toArray⟩] w fun e w' => e = .returned (.tuple #[.int .i64 (out9 T).1, .int .i64 (out9 T).2.1, .int .i64 (out9 T).2.2]) ∧ Below w.heap.size w w' := by
  have HT : Hid (parR nm 2 s = T) := hT
  clear hT
  go_enter Tryz.func36, Tryz.ntmps36
  go_wp2_with fail
  refine ent1 w _ _ (Q := fun W => Calls Tryz.prog _ _ W _) ?_
  intro x1 B0 hs1 V0
  clear hs1
  refine (rcheck9_ok nm _ hC x1).mono ?_
  rintro e x2 ⟨rfl, hb⟩
  replace V0 := Va.after hb V0
  replace B0 := step B0 hb
  clear hb
  have hl0 := V0.lt
  have a0 : x2.cell? ⟨w.heap.size, 0, none⟩ = some (.string ⟨nm.toArray⟩) := V0.cellAt 0
  have a1 : x2.cell? ⟨w.heap.size, 1, none⟩ = some (.int .i64 (2 : Nat)) := V0.cellAt 1
  go_wp2_with fail
  clear a0 a1
  refine ent1 x2 _ _ (Q := fun W => Calls Tryz.prog _ _ W _) ?_
  intro x3 hb hs1 Vp
  clear hs1
  replace V0 := Va.after hb V0
  replace B0 := step B0 hb
  clear hb
  obtain ⟨bp, hbp⟩ : ∃ bp, x2.heap.size = bp := ⟨_, rfl⟩
  have hbw : w.heap.size ≤ bp := by omega
  have hne : w.heap.size ≠ bp := by omega
  have hne' : bp ≠ w.heap.size := by omega
  rw [hbp] at Vp ⊢
  clear hbp hl0
  refine (rsign9 s x3 nm 2 T HT.out).mono ?_
  rintro e y0 ⟨n0, p0, rfl, hp, hR, hb⟩
  replace V0 := Va.after hb V0
  replace Vp := Va.after hb Vp
  replace B0 := step B0 hb
  clear hb
  have c0 : y0.cell? ⟨bp, 0, none⟩ = some (.int .i64 (0 : Nat)) := Vp.cellAt 0
  have f0 := Vp.frozen 0
  have c1 : y0.cell? ⟨bp, 1, none⟩ = some (.int .u64 (0 : Nat)) := Vp.cellAt 1
  have f1 := Vp.frozen 1
  have c2 : y0.cell? ⟨bp, 2, none⟩ = some (.bool false) := Vp.cellAt 2
  have f2 := Vp.frozen 2
  have c3 : y0.cell? ⟨bp, 3, none⟩ = some (.bool false) := Vp.cellAt 3
  have f3 := Vp.frozen 3
  have a0 : y0.cell? ⟨w.heap.size, 0, none⟩ = some (.string ⟨nm.toArray⟩) := V0.cellAt 0
  have a1 : y0.cell? ⟨w.heap.size, 1, none⟩ = some (.int .i64 (2 : Nat)) := V0.cellAt 1
  go_wp2_with fail
  clear c0 c1 c2 c3 f0 f1 f2 f3 a0 a1
  refine sto4 Vp _ _ _ _ (Q := fun W => Calls Tryz.prog _ _ W _) ?_
  intro z0 Vp' oth far'
  replace V0 := oth _ _ _ hne V0
  replace B0 := far' _ _ hbw B0
  clear Vp oth far'
  have Vp := Vp'
  clear Vp'
  refine (rahead9 s nm p0 2 n0 z0 hp hs (by omega) T hR).mono ?_
  rintro e y1 ⟨w1, n1, p1, q1, rfl, hp1, hf1, hR1, hN1, hb⟩
  replace V0 := Va.after hb V0
  replace Vp := Va.after hb Vp
  replace B0 := step B0 hb
  clear hb
  have c0 : y1.cell? ⟨bp, 0, none⟩ = some (.int .i64 (p0 : Nat)) := Vp.cellAt 0
  have f0 := Vp.frozen 0
  have c1 : y1.cell? ⟨bp, 1, none⟩ = some (.int .u64 (0 : Nat)) := Vp.cellAt 1
  have f1 := Vp.frozen 1
  have c2 : y1.cell? ⟨bp, 2, none⟩ = some (.bool n0) := Vp.cellAt 2
  have f2 := Vp.frozen 2
  have c3 : y1.cell? ⟨bp, 3, none⟩ = some (.bool false) := Vp.cellAt 3
  have f3 := Vp.frozen 3
  have a0 : y1.cell? ⟨w.heap.size, 0, none⟩ = some (.string ⟨nm.toArray⟩) := V0.cellAt 0
  have a1 : y1.cell? ⟨w.heap.size, 1, none⟩ = some (.int .i64 (2 : Nat)) := V0.cellAt 1
  go_wp2_with fail
  clear c0 c1 c2 c3 f0 f1 f2 f3 a0 a1
  refine sto4 Vp _ _ _ _ (Q := fun W => Calls Tryz.prog _ _ W _) ?_
  intro z1 Vp' oth far'
  replace V0 := oth _ _ _ hne V0
  replace B0 := far' _ _ hbw B0
  clear Vp oth far'
  have Vp := Vp'
  clear Vp'
  refine (rtx_any s [46] p1 q1 n1 w1 z1 hp1 hs (by simp) hf1 (behR n1 nm 2 q1) T (fun h => by obtain ⟨e, h⟩ := hR1 h; rw [← e] at h; exact h) hN1).mono ?_
  rintro e y2 ⟨w2, n2, p2, q2, rfl, hp2, hf2, hR2, hN2, hb⟩
  replace V0 := Va.after hb V0
  replace Vp := Va.after hb Vp
  replace B0 := step B0 hb
  clear hb
  have c0 : y2.cell? ⟨bp, 0, none⟩ = some (.int .i64 (p1 : Nat)) := Vp.cellAt 0
  have f0 := Vp.frozen 0
  have c1 : y2.cell? ⟨bp, 1, none⟩ = some (.int .u64 (q1 : Nat)) := Vp.cellAt 1
  have f1 := Vp.frozen 1
  have c2 : y2.cell? ⟨bp, 2, none⟩ = some (.bool n1) := Vp.cellAt 2
  have f2 := Vp.frozen 2
  have c3 : y2.cell? ⟨bp, 3, none⟩ = some (.bool w1) := Vp.cellAt 3
  have f3 := Vp.frozen 3
  have a0 : y2.cell? ⟨w.heap.size, 0, none⟩ = some (.string ⟨nm.toArray⟩) := V0.cellAt 0
  have a1 : y2.cell? ⟨w.heap.size, 1, none⟩ = some (.int .i64 (2 : Nat)) := V0.cellAt 1
  go_wp2_with fail
  clear c0 c1 c2 c3 f0 f1 f2 f3 a0 a1
  refine sto4 Vp _ _ _ _ (Q := fun W => Code.wp Tryz.prog _ _ _ W) ?_
  intro z2 Vp' oth far'
  replace V0 := oth _ _ _ hne V0
  replace B0 := far' _ _ hbw B0
  clear Vp oth far'
  have Vp := Vp'
  clear Vp'
  have hR2' : w2 = false → plus p2 (behR n2 nm 2 q2 (s.drop p2)) = T := fun h => by obtain ⟨e1, e2, h⟩ := hR2 h; rw [e1, e2]; exact h
  refine wp_loop_rounds 3 ?_
  rw [rounds_succ]
  have c0 : z2.cell? ⟨bp, 0, none⟩ = some (.int .i64 (p2 : Nat)) := Vp.cellAt 0
  have f0 := Vp.frozen 0
  have c1 : z2.cell? ⟨bp, 1, none⟩ = some (.int .u64 (q2 : Nat)) := Vp.cellAt 1
  have f1 := Vp.frozen 1
  have c2 : z2.cell? ⟨bp, 2, none⟩ = some (.bool n2) := Vp.cellAt 2
  have f2 := Vp.frozen 2
  have c3 : z2.cell? ⟨bp, 3, none⟩ = some (.bool w2) := Vp.cellAt 3
  have f3 := Vp.frozen 3
  have a0 : z2.cell? ⟨w.heap.size, 0, none⟩ = some (.string ⟨nm.toArray⟩) := V0.cellAt 0
  have a1 : z2.cell? ⟨w.heap.size, 1, none⟩ = some (.int .i64 (2 : Nat)) := V0.cellAt 1
  go_wp2_with fail
  clear c0 c1 c2 c3 f0 f1 f2 f3 a0 a1
  refine (rdg_any s nm p2 q2 1 n2 w2 z2 hp2 hs (by omega) hf2 T hR2' hN2).mono ?_
  rintro e y3 ⟨w3, n3, p3, q3, rfl, hp3, hf3, hR3, hN3, hb⟩
  replace V0 := Va.after hb V0
  replace Vp := Va.after hb Vp
  replace B0 := step B0 hb
  clear hb
  have c0 : y3.cell? ⟨bp, 0, none⟩ = some (.int .i64 (p2 : Nat)) := Vp.cellAt 0
  have f0 := Vp.frozen 0
  have c1 : y3.cell? ⟨bp, 1, none⟩ = some (.int .u64 (q2 : Nat)) := Vp.cellAt 1
  have f1 := Vp.frozen 1
  have c2 : y3.cell? ⟨bp, 2, none⟩ = some (.bool n2) := Vp.cellAt 2
  have f2 := Vp.frozen 2
  have c3 : y3.cell? ⟨bp, 3, none⟩ = some (.bool w2) := Vp.cellAt 3
  have f3 := Vp.frozen 3
  have a0 : y3.cell? ⟨w.heap.size, 0, none⟩ = some (.string ⟨nm.toArray⟩) := V0.cellAt 0
  have a1 : y3.cell? ⟨w.heap.size, 1, none⟩ = some (.int .i64 (2 : Nat)) := V0.cellAt 1
  go_wp2_with fail
  clear c0 c1 c2 c3 f0 f1 f2 f3 a0 a1
  refine sto4 Vp _ _ _ _ (Q := fun W => Code.rounds Tryz.prog _ _ _ _ W) ?_
  intro z3 Vp' oth far'
  replace V0 := oth _ _ _ hne V0
  replace B0 := far' _ _ hbw B0
  clear Vp oth far'
  have Vp := Vp'
  clear Vp'
  rw [rounds_succ]
  have c0 : z3.cell? ⟨bp, 0, none⟩ = some (.int .i64 (p3 : Nat)) := Vp.cellAt 0
  have f0 := Vp.frozen 0
  have c1 : z3.cell? ⟨bp, 1, none⟩ = some (.int .u64 (q3 : Nat)) := Vp.cellAt 1
  have f1 := Vp.frozen 1
  have c2 : z3.cell? ⟨bp, 2, none⟩ = some (.bool n3) := Vp.cellAt 2
  have f2 := Vp.frozen 2
  have c3 : z3.cell? ⟨bp, 3, none⟩ = some (.bool w3) := Vp.cellAt 3
  have f3 := Vp.frozen 3
  have a0 : z3.cell? ⟨w.heap.size, 0, none⟩ = some (.string ⟨nm.toArray⟩) := V0.cellAt 0
  have a1 : z3.cell? ⟨w.heap.size, 1, none⟩ = some (.int .i64 (2 : Nat)) := V0.cellAt 1
  go_wp2_with fail
  clear c0 c1 c2 c3 f0 f1 f2 f3 a0 a1
  refine (rdg_any s nm p3 q3 0 n3 w3 z3 hp3 hs (by omega) hf3 T hR3 hN3).mono ?_
  rintro e y4 ⟨w4, n4, p4, q4, rfl, hp4, hf4, hR4, hN4, hb⟩
  replace V0 := Va.after hb V0
  replace Vp := Va.after hb Vp
  replace B0 := step B0 hb
  clear hb
  have c0 : y4.cell? ⟨bp, 0, none⟩ = some (.int .i64 (p3 : Nat)) := Vp.cellAt 0
  have f0 := Vp.frozen 0
  have c1 : y4.cell? ⟨bp, 1, none⟩ = some (.int .u64 (q3 : Nat)) := Vp.cellAt 1
  have f1 := Vp.frozen 1
  have c2 : y4.cell? ⟨bp, 2, none⟩ = some (.bool n3) := Vp.cellAt 2
  have f2 := Vp.frozen 2
  have c3 : y4.cell? ⟨bp, 3, none⟩ = some (.bool w3) := Vp.cellAt 3
  have f3 := Vp.frozen 3
  have a0 : y4.cell? ⟨w.heap.size, 0, none⟩ = some (.string ⟨nm.toArray⟩) := V0.cellAt 0
  have a1 : y4.cell? ⟨w.heap.size, 1, none⟩ = some (.int .i64 (2 : Nat)) := V0.cellAt 1
  go_wp2_with fail
  clear c0 c1 c2 c3 f0 f1 f2 f3 a0 a1
  refine sto4 Vp _ _ _ _ (Q := fun W => Code.rounds Tryz.prog _ _ _ _ W) ?_
  intro z4 Vp' oth far'
  replace V0 := oth _ _ _ hne V0
  replace B0 := far' _ _ hbw B0
  clear Vp oth far'
  have Vp := Vp'
  clear Vp'
  rw [rounds_succ]
  have c0 : z4.cell? ⟨bp, 0, none⟩ = some (.int .i64 (p4 : Nat)) := Vp.cellAt 0
  have f0 := Vp.frozen 0
  have c1 : z4.cell? ⟨bp, 1, none⟩ = some (.int .u64 (q4 : Nat)) := Vp.cellAt 1
  have f1 := Vp.frozen 1
  have c2 : z4.cell? ⟨bp, 2, none⟩ = some (.bool n4) := Vp.cellAt 2
  have f2 := Vp.frozen 2
  have c3 : z4.cell? ⟨bp, 3, none⟩ = some (.bool w4) := Vp.cellAt 3
  have f3 := Vp.frozen 3
  have a0 : z4.cell? ⟨w.heap.size, 0, none⟩ = some (.string ⟨nm.toArray⟩) := V0.cellAt 0
  have a1 : z4.cell? ⟨w.heap.size, 1, none⟩ = some (.int .i64 (2 : Nat)) := V0.cellAt 1
  go_wp2_with fail
  clear c0 c1 c2 c3 f0 f1 f2 f3 a0 a1
  refine (rtx_any s [32] p4 q4 n4 w4 z4 hp4 hs (by simp) hf4 (fixC nm (finR (sgn n4 q4))) T (fun h => by exact hR4 h) hN4).mono ?_
  rintro e y5 ⟨w5, n5, p5, q5, rfl, hp5, hf5, hR5, hN5, hb⟩
  replace V0 := Va.after hb V0
  replace Vp := Va.after hb Vp
  replace B0 := step B0 hb
  clear hb
  have c0 : y5.cell? ⟨bp, 0, none⟩ = some (.int .i64 (p4 : Nat)) := Vp.cellAt 0
  have f0 := Vp.frozen 0
  have c1 : y5.cell? ⟨bp, 1, none⟩ = some (.int .u64 (q4 : Nat)) := Vp.cellAt 1
  have f1 := Vp.frozen 1
  have c2 : y5.cell? ⟨bp, 2, none⟩ = some (.bool n4) := Vp.cellAt 2
  have f2 := Vp.frozen 2
  have c3 : y5.cell? ⟨bp, 3, none⟩ = some (.bool w4) := Vp.cellAt 3
  have f3 := Vp.frozen 3
  have a0 : y5.cell? ⟨w.heap.size, 0, none⟩ = some (.string ⟨nm.toArray⟩) := V0.cellAt 0
  have a1 : y5.cell? ⟨w.heap.size, 1, none⟩ = some (.int .i64 (2 : Nat)) := V0.cellAt 1
  go_wp2_with fail
  clear c0 c1 c2 c3 f0 f1 f2 f3 a0 a1
  refine sto4 Vp _ _ _ _ (Q := fun W => Calls Tryz.prog _ _ W _) ?_
  intro z5 Vp' oth far'
  replace V0 := oth _ _ _ hne V0
  replace B0 := far' _ _ hbw B0
  clear Vp oth far'
  have Vp := Vp'
  clear Vp'
  refine (rtx_any s nm p5 q5 n5 w5 z5 hp5 hs (by rw [hC.1]; omega) hf5 (finR (sgn n5 q5)) T (fun h => by obtain ⟨e1, e2, h⟩ := hR5 h; rw [e1, e2]; exact h) hN5).mono ?_
  rintro e y6 ⟨wf, nf, pf, qf, rfl, hpf, hff, hRf, hNf, hb⟩
  replace V0 := Va.after hb V0
  replace Vp := Va.after hb Vp
  replace B0 := step B0 hb
  clear hb
  have HR : Hid (wf = false → plus pf (finR (sgn nf qf) (s.drop pf)) = T) := fun h => by obtain ⟨e1, e2, h⟩ := hRf h; rw [e1, e2]; exact h
  clear hRf
  have c0 : y6.cell? ⟨bp, 0, none⟩ = some (.int .i64 (p5 : Nat)) := Vp.cellAt 0
  have f0 := Vp.frozen 0
  have c1 : y6.cell? ⟨bp, 1, none⟩ = some (.int .u64 (q5 : Nat)) := Vp.cellAt 1
  have f1 := Vp.frozen 1
  have c2 : y6.cell? ⟨bp, 2, none⟩ = some (.bool n5) := Vp.cellAt 2
  have f2 := Vp.frozen 2
  have c3 : y6.cell? ⟨bp, 3, none⟩ = some (.bool w5) := Vp.cellAt 3
  have f3 := Vp.frozen 3
  have a0 : y6.cell? ⟨w.heap.size, 0, none⟩ = some (.string ⟨nm.toArray⟩) := V0.cellAt 0
  have a1 : y6.cell? ⟨w.heap.size, 1, none⟩ = some (.int .i64 (2 : Nat)) := V0.cellAt 1
  cases wf with
  | true =>
    have HE : Hid (T = (pf, none)) := hNf rfl
    go_wp2_with fail
    go_quiet (fail)
    go_wp2_with fail
    (try simp only [Exit.inBlock, Exit.then])
    refine bodyPost_ret (results_tmp3 rfl _ _ _) rfl ?_
    exact ⟨by rw [HE.out]; rfl, below_drewN (belo4 B0 hbw _ _ _ _) _⟩
  | false =>
    by_cases hl : pf < s.length
    · have HE : Hid (T = (pf, none)) := by
        obtain ⟨c, -, hcd⟩ := byte_at s pf hl
        have h := HR.out rfl
        rw [hcd] at h; exact h.symm
      have hli : (pf : Int) < s.length := by omega
      go_wp2_with fail
      go_quiet (fail)
      go_wp2_with fail
      (try simp only [Exit.inBlock, Exit.then])
      refine bodyPost_ret (results_tmp3 rfl _ _ _) rfl ?_
      exact ⟨by rw [HE.out]; rfl, below_drewN (belo4 B0 hbw _ _ _ _) _⟩
    · have HE : Hid (T = (pf, some (sgn nf qf))) := by
        have h := HR.out rfl
        rw [show s.drop pf = [] by rw [show pf = s.length by omega]; simp] at h; exact h.symm
      have hli : ¬ (pf : Int) < s.length := by omega
      have hq9 : qf ≤ 9223372036854775808 := Nat.le_trans hff (by cases nf <;> decide)
      cases nf with
      | true =>
        obtain ⟨Y, hy1⟩ : ∃ Y, IntKind.u64.wrap (-(qf : Int)) = Y := ⟨_, rfl⟩
        have hy2 : wrap64 Y = -(qf : Int) := by
          have : (-(qf : Int)) % 18446744073709551616 = Y := hy1
          unfold wrap64; omega
        go_wp2_with fail
        (try simp only [Exit.inBlock, Exit.then])
        refine bodyPost_ret (results_tmp3 rfl _ _ _) rfl ?_
        exact ⟨by rw [HE.out]; show Ending.returned (.tuple #[.int .i64 (wrap64 Y), .int .i64 0, .int .i64 0]) = _; rw [hy2]; rfl, belo4 B0 hbw _ _ _ _⟩
      | false =>
        have hy2 : wrap64 (qf : Int) = qf := by have := hff; simp [mostU] at this; unfold wrap64; omega
        go_wp2_with fail
        (try simp only [Exit.inBlock, Exit.then])
        refine bodyPost_ret (results_tmp3 rfl _ _ _) rfl ?_
        exact ⟨by rw [HE.out]; show Ending.returned (.tuple #[.int .i64 (wrap64 (qf : Int)), .int .i64 0, .int .i64 0]) = _; rw [hy2]; rfl, belo4 B0 hbw _ _ _ _⟩
set_option maxHeartbeats 8000000 in
theorem rparse9_3 (nm s : List UInt8) (w : World) (hC : Cur nm (3 : Nat)) (hs : s.length ≤ 140737488355328) (T : R9) (hT : parR nm 3 s = T) :
    Calls Tryz.prog 36 #[.agg #[.string ⟨nm.toArray⟩, .int .i64 (3 : Nat)], .string ⟨s.toArray⟩] w fun e w' => e = .returned (.tuple #[.int .i64 (out9 T).1, .int .i64 (out9 T).2.1, .int .i64 (out9 T).2.2]) ∧ Below w.heap.size w w' := by
  have HT : Hid (parR nm 3 s = T) := hT
  clear hT
  go_enter Tryz.func36, Tryz.ntmps36
  go_wp2_with fail
  refine ent1 w _ _ (Q := fun W => Calls Tryz.prog _ _ W _) ?_
  intro x1 B0 hs1 V0
  clear hs1
  refine (rcheck9_ok nm _ hC x1).mono ?_
  rintro e x2 ⟨rfl, hb⟩
  replace V0 := Va.after hb V0
  replace B0 := step B0 hb
  clear hb
  have hl0 := V0.lt
  have a0 : x2.cell? ⟨w.heap.size, 0, none⟩ = some (.string ⟨nm.toArray⟩) := V0.cellAt 0
  have a1 : x2.cell? ⟨w.heap.size, 1, none⟩ = some (.int .i64 (3 : Nat)) := V0.cellAt 1
  go_wp2_with fail
  clear a0 a1
  refine ent1 x2 _ _ (Q := fun W => Calls Tryz.prog _ _ W _) ?_
  intro x3 hb hs1 Vp
  clear hs1
  replace V0 := Va.after hb V0
  replace B0 := step B0 hb
  clear hb
  obtain ⟨bp, hbp⟩ : ∃ bp, x2.heap.size = bp := ⟨_, rfl⟩
  have hbw : w.heap.size ≤ bp := by omega
  have hne : w.heap.size ≠ bp := by omega
  have hne' : bp ≠ w.heap.size := by omega
  rw [hbp] at Vp ⊢
  clear hbp hl0
  refine (rsign9 s x3 nm 3 T HT.out).mono ?_
  rintro e y0 ⟨n0, p0, rfl, hp, hR, hb⟩
  replace V0 := Va.after hb V0
  replace Vp := Va.after hb Vp
  replace B0 := step B0 hb
  clear hb
  have c0 : y0.cell? ⟨bp, 0, none⟩ = some (.int .i64 (0 : Nat)) := Vp.cellAt 0
  have f0 := Vp.frozen 0
  have c1 : y0.cell? ⟨bp, 1, none⟩ = some (.int .u64 (0 : Nat)) := Vp.cellAt 1
  have f1 := Vp.frozen 1
  have c2 : y0.cell? ⟨bp, 2, none⟩ = some (.bool false) := Vp.cellAt 2
  have f2 := Vp.frozen 2
  have c3 : y0.cell? ⟨bp, 3, none⟩ = some (.bool false) := Vp.cellAt 3
  have f3 := Vp.frozen 3
  have a0 : y0.cell? ⟨w.heap.size, 0, none⟩ = some (.string ⟨nm.toArray⟩) := V0.cellAt 0
  have a1 : y0.cell? ⟨w.heap.size, 1, none⟩ = some (.int .i64 (3 : Nat)) := V0.cellAt 1
  go_wp2_with fail
  clear c0 c1 c2 c3 f0 f1 f2 f3 a0 a1
  refine sto4 Vp _ _ _ _ (Q := fun W => Calls Tryz.prog _ _ W _) ?_
  intro z0 Vp' oth far'
  replace V0 := oth _ _ _ hne V0
  replace B0 := far' _ _ hbw B0
  clear Vp oth far'
  have Vp := Vp'
  clear Vp'
  refine (rahead9 s nm p0 3 n0 z0 hp hs (by omega) T hR).mono ?_
  rintro e y1 ⟨w1, n1, p1, q1, rfl, hp1, hf1, hR1, hN1, hb⟩
  replace V0 := Va.after hb V0
  replace Vp := Va.after hb Vp
  replace B0 := step B0 hb
  clear hb
  have c0 : y1.cell? ⟨bp, 0, none⟩ = some (.int .i64 (p0 : Nat)) := Vp.cellAt 0
  have f0 := Vp.frozen 0
  have c1 : y1.cell? ⟨bp, 1, none⟩ = some (.int .u64 (0 : Nat)) := Vp.cellAt 1
  have f1 := Vp.frozen 1
  have c2 : y1.cell? ⟨bp, 2, none⟩ = some (.bool n0) := Vp.cellAt 2
  have f2 := Vp.frozen 2
  have c3 : y1.cell? ⟨bp, 3, none⟩ = some (.bool false) := Vp.cellAt 3
  have f3 := Vp.frozen 3
  have a0 : y1.cell? ⟨w.heap.size, 0, none⟩ = some (.string ⟨nm.toArray⟩) := V0.cellAt 0
  have a1 : y1.cell? ⟨w.heap.size, 1, none⟩ = some (.int .i64 (3 : Nat)) := V0.cellAt 1
  go_wp2_with fail
  clear c0 c1 c2 c3 f0 f1 f2 f3 a0 a1
  refine sto4 Vp _ _ _ _ (Q := fun W => Calls Tryz.prog _ _ W _) ?_
  intro z1 Vp' oth far'
  replace V0 := oth _ _ _ hne V0
  replace B0 := far' _ _ hbw B0
  clear Vp oth far'
  have Vp := Vp'
  clear Vp'
  refine (rtx_any s [46] p1 q1 n1 w1 z1 hp1 hs (by simp) hf1 (behR n1 nm 3 q1) T (fun h => by obtain ⟨e, h⟩ := hR1 h; rw [← e] at h; exact h) hN1).mono ?_
  rintro e y2 ⟨w2, n2, p2, q2, rfl, hp2, hf2, hR2, hN2, hb⟩
  replace V0 := Va.after hb V0
  replace Vp := Va.after hb Vp
  replace B0 := step B0 hb
  clear hb
  have c0 : y2.cell? ⟨bp, 0, none⟩ = some (.int .i64 (p1 : Nat)) := Vp.cellAt 0
  have f0 := Vp.frozen 0
  have c1 : y2.cell? ⟨bp, 1, none⟩ = some (.int .u64 (q1 : Nat)) := Vp.cellAt 1
  have f1 := Vp.frozen 1
  have c2 : y2.cell? ⟨bp, 2, none⟩ = some (.bool n1) := Vp.cellAt 2
  have f2 := Vp.frozen 2
  have c3 : y2.cell? ⟨bp, 3, none⟩ = some (.bool w1) := Vp.cellAt 3
  have f3 := Vp.frozen 3
  have a0 : y2.cell? ⟨w.heap.size, 0, none⟩ = some (.string ⟨nm.toArray⟩) := V0.cellAt 0
  have a1 : y2.cell? ⟨w.heap.size, 1, none⟩ = some (.int .i64 (3 : Nat)) := V0.cellAt 1
  go_wp2_with fail
  clear c0 c1 c2 c3 f0 f1 f2 f3 a0 a1
  refine sto4 Vp _ _ _ _ (Q := fun W => Code.wp Tryz.prog _ _ _ W) ?_
  intro z2 Vp' oth far'
  replace V0 := oth _ _ _ hne V0
  replace B0 := far' _ _ hbw B0
  clear Vp oth far'
  have Vp := Vp'
  clear Vp'
  have hR2' : w2 = false → plus p2 (behR n2 nm 3 q2 (s.drop p2)) = T := fun h => by obtain ⟨e1, e2, h⟩ := hR2 h; rw [e1, e2]; exact h
  refine wp_loop_rounds 4 ?_
  rw [rounds_succ]
  have c0 : z2.cell? ⟨bp, 0, none⟩ = some (.int .i64 (p2 : Nat)) := Vp.cellAt 0
  have f0 := Vp.frozen 0
  have c1 : z2.cell? ⟨bp, 1, none⟩ = some (.int .u64 (q2 : Nat)) := Vp.cellAt 1
  have f1 := Vp.frozen 1
  have c2 : z2.cell? ⟨bp, 2, none⟩ = some (.bool n2) := Vp.cellAt 2
  have f2 := Vp.frozen 2
  have c3 : z2.cell? ⟨bp, 3, none⟩ = some (.bool w2) := Vp.cellAt 3
  have f3 := Vp.frozen 3
  have a0 : z2.cell? ⟨w.heap.size, 0, none⟩ = some (.string ⟨nm.toArray⟩) := V0.cellAt 0
  have a1 : z2.cell? ⟨w.heap.size, 1, none⟩ = some (.int .i64 (3 : Nat)) := V0.cellAt 1
  go_wp2_with fail
  clear c0 c1 c2 c3 f0 f1 f2 f3 a0 a1
  refine (rdg_any s nm p2 q2 2 n2 w2 z2 hp2 hs (by omega) hf2 T hR2' hN2).mono ?_
  rintro e y3 ⟨w3, n3, p3, q3, rfl, hp3, hf3, hR3, hN3, hb⟩
  replace V0 := Va.after hb V0
  replace Vp := Va.after hb Vp
  replace B0 := step B0 hb
  clear hb
  have c0 : y3.cell? ⟨bp, 0, none⟩ = some (.int .i64 (p2 : Nat)) := Vp.cellAt 0
  have f0 := Vp.frozen 0
  have c1 : y3.cell? ⟨bp, 1, none⟩ = some (.int .u64 (q2 : Nat)) := Vp.cellAt 1
  have f1 := Vp.frozen 1
  have c2 : y3.cell? ⟨bp, 2, none⟩ = some (.bool n2) := Vp.cellAt 2
  have f2 := Vp.frozen 2
  have c3 : y3.cell? ⟨bp, 3, none⟩ = some (.bool w2) := Vp.cellAt 3
  have f3 := Vp.frozen 3
  have a0 : y3.cell? ⟨w.heap.size, 0, none⟩ = some (.string ⟨nm.toArray⟩) := V0.cellAt 0
  have a1 : y3.cell? ⟨w.heap.size, 1, none⟩ = some (.int .i64 (3 : Nat)) := V0.cellAt 1
  go_wp2_with fail
  clear c0 c1 c2 c3 f0 f1 f2 f3 a0 a1
  refine sto4 Vp _ _ _ _ (Q := fun W => Code.rounds Tryz.prog _ _ _ _ W) ?_
  intro z3 Vp' oth far'
  replace V0 := oth _ _ _ hne V0
  replace B0 := far' _ _ hbw B0
  clear Vp oth far'
  have Vp := Vp'
  clear Vp'
  rw [rounds_succ]
  have c0 : z3.cell? ⟨bp, 0, none⟩ = some (.int .i64 (p3 : Nat)) := Vp.cellAt 0
  have f0 := Vp.frozen 0
  have c1 : z3.cell? ⟨bp, 1, none⟩ = some (.int .u64 (q3 : Nat)) := Vp.cellAt 1
  have f1 := Vp.frozen 1
  have c2 : z3.cell? ⟨bp, 2, none⟩ = some (.bool n3) := Vp.cellAt 2
  have f2 := Vp.frozen 2
  have c3 : z3.cell? ⟨bp, 3, none⟩ = some (.bool w3) := Vp.cellAt 3
  have f3 := Vp.frozen 3
  have a0 : z3.cell? ⟨w.heap.size, 0, none⟩ = some (.string ⟨nm.toArray⟩) := V0.cellAt 0
  have a1 : z3.cell? ⟨w.heap.size, 1, none⟩ = some (.int .i64 (3 : Nat)) := V0.cellAt 1
  go_wp2_with fail
  clear c0 c1 c2 c3 f0 f1 f2 f3 a0 a1
  refine (rdg_any s nm p3 q3 1 n3 w3 z3 hp3 hs (by omega) hf3 T hR3 hN3).mono ?_
  rintro e y4 ⟨w4, n4, p4, q4, rfl, hp4, hf4, hR4, hN4, hb⟩
  replace V0 := Va.after hb V0
  replace Vp := Va.after hb Vp
  replace B0 := step B0 hb
  clear hb
  have c0 : y4.cell? ⟨bp, 0, none⟩ = some (.int .i64 (p3 : Nat)) := Vp.cellAt 0
  have f0 := Vp.frozen 0
  have c1 : y4.cell? ⟨bp, 1, none⟩ = some (.int .u64 (q3 : Nat)) := Vp.cellAt 1
  have f1 := Vp.frozen 1
  have c2 : y4.cell? ⟨bp, 2, none⟩ = some (.bool n3) := Vp.cellAt 2
  have f2 := Vp.frozen 2
  have c3 : y4.cell? ⟨bp, 3, none⟩ = some (.bool w3) := Vp.cellAt 3
  have f3 := Vp.frozen 3
  have a0 : y4.cell? ⟨w.heap.size, 0, none⟩ = some (.string ⟨nm.toArray⟩) := V0.cellAt 0
  have a1 : y4.cell? ⟨w.heap.size, 1, none⟩ = some (.int .i64 (3 : Nat)) := V0.cellAt 1
  go_wp2_with fail
  clear c0 c1 c2 c3 f0 f1 f2 f3 a0 a1
  refine sto4 Vp _ _ _ _ (Q := fun W => Code.rounds Tryz.prog _ _ _ _ W) ?_
  intro z4 Vp' oth far'
  replace V0 := oth _ _ _ hne V0
  replace B0 := far' _ _ hbw B0
  clear Vp oth far'
  have Vp := Vp'
  clear Vp'
  rw [rounds_succ]
  have c0 : z4.cell? ⟨bp, 0, none⟩ = some (.int .i64 (p4 : Nat)) := Vp.cellAt 0
  have f0 := Vp.frozen 0
  have c1 : z4.cell? ⟨bp, 1, none⟩ = some (.int .u64 (q4 : Nat)) := Vp.cellAt 1
  have f1 := Vp.frozen 1
  have c2 : z4.cell? ⟨bp, 2, none⟩ = some (.bool n4) := Vp.cellAt 2
  have f2 := Vp.frozen 2
  have c3 : z4.cell? ⟨bp, 3, none⟩ = some (.bool w4) := Vp.cellAt 3
  have f3 := Vp.frozen 3
  have a0 : z4.cell? ⟨w.heap.size, 0, none⟩ = some (.string ⟨nm.toArray⟩) := V0.cellAt 0
  have a1 : z4.cell? ⟨w.heap.size, 1, none⟩ = some (.int .i64 (3 : Nat)) := V0.cellAt 1
  go_wp2_with fail
  clear c0 c1 c2 c3 f0 f1 f2 f3 a0 a1
  refine (rdg_any s nm p4 q4 0 n4 w4 z4 hp4 hs (by omega) hf4 T hR4 hN4).mono ?_
  rintro e y5 ⟨w5, n5, p5, q5, rfl, hp5, hf5, hR5, hN5, hb⟩
  replace V0 := Va.after hb V0
  replace Vp := Va.after hb Vp
  replace B0 := step B0 hb
  clear hb
  have c0 : y5.cell? ⟨bp, 0, none⟩ = some (.int .i64 (p4 : Nat)) := Vp.cellAt 0
  have f0 := Vp.frozen 0
  have c1 : y5.cell? ⟨bp, 1, none⟩ = some (.int .u64 (q4 : Nat)) := Vp.cellAt 1
  have f1 := Vp.frozen 1
  have c2 : y5.cell? ⟨bp, 2, none⟩ = some (.bool n4) := Vp.cellAt 2
  have f2 := Vp.frozen 2
  have c3 : y5.cell? ⟨bp, 3, none⟩ = some (.bool w4) := Vp.cellAt 3
  have f3 := Vp.frozen 3
  have a0 : y5.cell? ⟨w.heap.size, 0, none⟩ = some (.string ⟨nm.toArray⟩) := V0.cellAt 0
  have a1 : y5.cell? ⟨w.heap.size, 1, none⟩ = some (.int .i64 (3 : Nat)) := V0.cellAt 1
  go_wp2_with fail
  clear c0 c1 c2 c3 f0 f1 f2 f3 a0 a1
  refine sto4 Vp _ _ _ _ (Q := fun W => Code.rounds Tryz.prog _ _ _ _ W) ?_
  intro z5 Vp' oth far'
  replace V0 := oth _ _ _ hne V0
  replace B0 := far' _ _ hbw B0
  clear Vp oth far'
  have Vp := Vp'
  clear Vp'
  rw [rounds_succ]
  have c0 : z5.cell? ⟨bp, 0, none⟩ = some (.int .i64 (p5 : Nat)) := Vp.cellAt 0
  have f0 := Vp.frozen 0
  have c1 : z5.cell? ⟨bp, 1, none⟩ = some (.int .u64 (q5 : Nat)) := Vp.cellAt 1
  have f1 := Vp.frozen 1
  have c2 : z5.cell? ⟨bp, 2, none⟩ = some (.bool n5) := Vp.cellAt 2
  have f2 := Vp.frozen 2
  have c3 : z5.cell? ⟨bp, 3, none⟩ = some (.bool w5) := Vp.cellAt 3
  have f3 := Vp.frozen 3
  have a0 : z5.cell? ⟨w.heap.size, 0, none⟩ = some (.string ⟨nm.toArray⟩) := V0.cellAt 0
  have a1 : z5.cell? ⟨w.heap.size, 1, none⟩ = some (.int .i64 (3 : Nat)) := V0.cellAt 1
  go_wp2_with fail
  clear c0 c1 c2 c3 f0 f1 f2 f3 a0 a1
  refine (rtx_any s [32] p5 q5 n5 w5 z5 hp5 hs (by simp) hf5 (fixC nm (finR (sgn n5 q5))) T (fun h => by exact hR5 h) hN5).mono ?_
  rintro e y6 ⟨w6, n6, p6, q6, rfl, hp6, hf6, hR6, hN6, hb⟩
  replace V0 := Va.after hb V0
  replace Vp := Va.after hb Vp
  replace B0 := step B0 hb
  clear hb
  have c0 : y6.cell? ⟨bp, 0, none⟩ = some (.int .i64 (p5 : Nat)) := Vp.cellAt 0
  have f0 := Vp.frozen 0
  have c1 : y6.cell? ⟨bp, 1, none⟩ = some (.int .u64 (q5 : Nat)) := Vp.cellAt 1
  have f1 := Vp.frozen 1
  have c2 : y6.cell? ⟨bp, 2, none⟩ = some (.bool n5) := Vp.cellAt 2
  have f2 := Vp.frozen 2
  have c3 : y6.cell? ⟨bp, 3, none⟩ = some (.bool w5) := Vp.cellAt 3
  have f3 := Vp.frozen 3
  have a0 : y6.cell? ⟨w.heap.size, 0, none⟩ = some (.string ⟨nm.toArray⟩) := V0.cellAt 0
  have a1 : y6.cell? ⟨w.heap.size, 1, none⟩ = some (.int .i64 (3 : Nat)) := V0.cellAt 1
  go_wp2_with fail
  clear c0 c1 c2 c3 f0 f1 f2 f3 a0 a1
  refine sto4 Vp _ _ _ _ (Q := fun W => Calls Tryz.prog _ _ W _) ?_
  intro z6 Vp' oth far'
  replace V0 := oth _ _ _ hne V0
  replace B0 := far' _ _ hbw B0
  clear Vp oth far'
  have Vp := Vp'
  clear Vp'
  refine (rtx_any s nm p6 q6 n6 w6 z6 hp6 hs (by rw [hC.1]; omega) hf6 (finR (sgn n6 q6)) T (fun h => by obtain ⟨e1, e2, h⟩ := hR6 h; rw [e1, e2]; exact h) hN6).mono ?_
  rintro e y7 ⟨wf, nf, pf, qf, rfl, hpf, hff, hRf, hNf, hb⟩
  replace V0 := Va.after hb V0
  replace Vp := Va.after hb Vp
  replace B0 := step B0 hb
  clear hb
  have HR : Hid (wf = false → plus pf (finR (sgn nf qf) (s.drop pf)) = T) := fun h => by obtain ⟨e1, e2, h⟩ := hRf h; rw [e1, e2]; exact h
  clear hRf
  have c0 : y7.cell? ⟨bp, 0, none⟩ = some (.int .i64 (p6 : Nat)) := Vp.cellAt 0
  have f0 := Vp.frozen 0
  have c1 : y7.cell? ⟨bp, 1, none⟩ = some (.int .u64 (q6 : Nat)) := Vp.cellAt 1
  have f1 := Vp.frozen 1
  have c2 : y7.cell? ⟨bp, 2, none⟩ = some (.bool n6) := Vp.cellAt 2
  have f2 := Vp.frozen 2
  have c3 : y7.cell? ⟨bp, 3, none⟩ = some (.bool w6) := Vp.cellAt 3
  have f3 := Vp.frozen 3
  have a0 : y7.cell? ⟨w.heap.size, 0, none⟩ = some (.string ⟨nm.toArray⟩) := V0.cellAt 0
  have a1 : y7.cell? ⟨w.heap.size, 1, none⟩ = some (.int .i64 (3 : Nat)) := V0.cellAt 1
  cases wf with
  | true =>
    have HE : Hid (T = (pf, none)) := hNf rfl
    go_wp2_with fail
    go_quiet (fail)
    go_wp2_with fail
    (try simp only [Exit.inBlock, Exit.then])
    refine bodyPost_ret (results_tmp3 rfl _ _ _) rfl ?_
    exact ⟨by rw [HE.out]; rfl, below_drewN (belo4 B0 hbw _ _ _ _) _⟩
  | false =>
    by_cases hl : pf < s.length
    · have HE : Hid (T = (pf, none)) := by
        obtain ⟨c, -, hcd⟩ := byte_at s pf hl
        have h := HR.out rfl
        rw [hcd] at h; exact h.symm
      have hli : (pf : Int) < s.length := by omega
      go_wp2_with fail
      go_quiet (fail)
      go_wp2_with fail
      (try simp only [Exit.inBlock, Exit.then])
      refine bodyPost_ret (results_tmp3 rfl _ _ _) rfl ?_
      exact ⟨by rw [HE.out]; rfl, below_drewN (belo4 B0 hbw _ _ _ _) _⟩
    · have HE : Hid (T = (pf, some (sgn nf qf))) := by
        have h := HR.out rfl
        rw [show s.drop pf = [] by rw [show pf = s.length by omega]; simp] at h; exact h.symm
      have hli : ¬ (pf : Int) < s.length := by omega
      have hq9 : qf ≤ 9223372036854775808 := Nat.le_trans hff (by cases nf <;> decide)
      cases nf with
      | true =>
        obtain ⟨Y, hy1⟩ : ∃ Y, IntKind.u64.wrap (-(qf : Int)) = Y := ⟨_, rfl⟩
        have hy2 : wrap64 Y = -(qf : Int) := by
          have : (-(qf : Int)) % 18446744073709551616 = Y := hy1
          unfold wrap64; omega
        go_wp2_with fail
        (try simp only [Exit.inBlock, Exit.then])
        refine bodyPost_ret (results_tmp3 rfl _ _ _) rfl ?_
        exact ⟨by rw [HE.out]; show Ending.returned (.tuple #[.int .i64 (wrap64 Y), .int .i64 0, .int .i64 0]) = _; rw [hy2]; rfl, belo4 B0 hbw _ _ _ _⟩
      | false =>
        have hy2 : wrap64 (qf : Int) = qf := by have := hff; simp [mostU] at this; unfold wrap64; omega
        go_wp2_with fail
        (try simp only [Exit.inBlock, Exit.then])
        refine bodyPost_ret (results_tmp3 rfl _ _ _) rfl ?_
        exact ⟨by rw [HE.out]; show Ending.returned (.tuple #[.int .i64 (wrap64 (qf : Int)), .int .i64 0, .int .i64 0]) = _; rw [hy2]; rfl, belo4 B0 hbw _ _ _ _⟩
set_option maxHeartbeats 8000000 in
theorem rparse9_4 (nm s : List UInt8) (w : World) (hC : Cur nm (4 : Nat)) (hs : s.length ≤ 140737488355328) (T : R9) (hT : parR nm 4 s = T) :
    Calls Tryz.prog 36 #[.agg #[.string ⟨nm.toArray⟩, .int .i64 (4 : Nat)], .string ⟨s.toArray⟩] w fun e w' => e = .returned (.tuple #[.int .i64 (out9 T).1, .int .i64 (out9 T).2.1, .int .i64 (out9 T).2.2]) ∧ Below w.heap.size w w' := by
  have HT : Hid (parR nm 4 s = T) := hT
  clear hT
  go_enter Tryz.func36, Tryz.ntmps36
  go_wp2_with fail
  refine ent1 w _ _ (Q := fun W => Calls Tryz.prog _ _ W _) ?_
  intro x1 B0 hs1 V0
  clear hs1
  refine (rcheck9_ok nm _ hC x1).mono ?_
  rintro e x2 ⟨rfl, hb⟩
  replace V0 := Va.after hb V0
  replace B0 := step B0 hb
  clear hb
  have hl0 := V0.lt
  have a0 : x2.cell? ⟨w.heap.size, 0, none⟩ = some (.string ⟨nm.toArray⟩) := V0.cellAt 0
  have a1 : x2.cell? ⟨w.heap.size, 1, none⟩ = some (.int .i64 (4 : Nat)) := V0.cellAt 1
  go_wp2_with fail
  clear a0 a1
  refine ent1 x2 _ _ (Q := fun W => Calls Tryz.prog _ _ W _) ?_
  intro x3 hb hs1 Vp
  clear hs1
  replace V0 := Va.after hb V0
  replace B0 := step B0 hb
  clear hb
  obtain ⟨bp, hbp⟩ : ∃ bp, x2.heap.size = bp := ⟨_, rfl⟩
  have hbw : w.heap.size ≤ bp := by omega
  have hne : w.heap.size ≠ bp := by omega
  have hne' : bp ≠ w.heap.size := by omega
  rw [hbp] at Vp ⊢
  clear hbp hl0
  refine (rsign9 s x3 nm 4 T HT.out).mono ?_
  rintro e y0 ⟨n0, p0, rfl, hp, hR, hb⟩
  replace V0 := Va.after hb V0
  replace Vp := Va.after hb Vp
  replace B0 := step B0 hb
  clear hb
  have c0 : y0.cell? ⟨bp, 0, none⟩ = some (.int .i64 (0 : Nat)) := Vp.cellAt 0
  have f0 := Vp.frozen 0
  have c1 : y0.cell? ⟨bp, 1, none⟩ = some (.int .u64 (0 : Nat)) := Vp.cellAt 1
  have f1 := Vp.frozen 1
  have c2 : y0.cell? ⟨bp, 2, none⟩ = some (.bool false) := Vp.cellAt 2
  have f2 := Vp.frozen 2
  have c3 : y0.cell? ⟨bp, 3, none⟩ = some (.bool false) := Vp.cellAt 3
  have f3 := Vp.frozen 3
  have a0 : y0.cell? ⟨w.heap.size, 0, none⟩ = some (.string ⟨nm.toArray⟩) := V0.cellAt 0
  have a1 : y0.cell? ⟨w.heap.size, 1, none⟩ = some (.int .i64 (4 : Nat)) := V0.cellAt 1
  go_wp2_with fail
  clear c0 c1 c2 c3 f0 f1 f2 f3 a0 a1
  refine sto4 Vp _ _ _ _ (Q := fun W => Calls Tryz.prog _ _ W _) ?_
  intro z0 Vp' oth far'
  replace V0 := oth _ _ _ hne V0
  replace B0 := far' _ _ hbw B0
  clear Vp oth far'
  have Vp := Vp'
  clear Vp'
  refine (rahead9 s nm p0 4 n0 z0 hp hs (by omega) T hR).mono ?_
  rintro e y1 ⟨w1, n1, p1, q1, rfl, hp1, hf1, hR1, hN1, hb⟩
  replace V0 := Va.after hb V0
  replace Vp := Va.after hb Vp
  replace B0 := step B0 hb
  clear hb
  have c0 : y1.cell? ⟨bp, 0, none⟩ = some (.int .i64 (p0 : Nat)) := Vp.cellAt 0
  have f0 := Vp.frozen 0
  have c1 : y1.cell? ⟨bp, 1, none⟩ = some (.int .u64 (0 : Nat)) := Vp.cellAt 1
  have f1 := Vp.frozen 1
  have c2 : y1.cell? ⟨bp, 2, none⟩ = some (.bool n0) := Vp.cellAt 2
  have f2 := Vp.frozen 2
  have c3 : y1.cell? ⟨bp, 3, none⟩ = some (.bool false) := Vp.cellAt 3
  have f3 := Vp.frozen 3
  have a0 : y1.cell? ⟨w.heap.size, 0, none⟩ = some (.string ⟨nm.toArray⟩) := V0.cellAt 0
  have a1 : y1.cell? ⟨w.heap.size, 1, none⟩ = some (.int .i64 (4 : Nat)) := V0.cellAt 1
  go_wp2_with fail
  clear c0 c1 c2 c3 f0 f1 f2 f3 a0 a1
  refine sto4 Vp _ _ _ _ (Q := fun W => Calls Tryz.prog _ _ W _) ?_
  intro z1 Vp' oth far'
  replace V0 := oth _ _ _ hne V0
  replace B0 := far' _ _ hbw B0
  clear Vp oth far'
  have Vp := Vp'
  clear Vp'
  refine (rtx_any s [46] p1 q1 n1 w1 z1 hp1 hs (by simp) hf1 (behR n1 nm 4 q1) T (fun h => by obtain ⟨e, h⟩ := hR1 h; rw [← e] at h; exact h) hN1).mono ?_
  rintro e y2 ⟨w2, n2, p2, q2, rfl, hp2, hf2, hR2, hN2, hb⟩
  replace V0 := Va.after hb V0
  replace Vp := Va.after hb Vp
  replace B0 := step B0 hb
  clear hb
  have c0 : y2.cell? ⟨bp, 0, none⟩ = some (.int .i64 (p1 : Nat)) := Vp.cellAt 0
  have f0 := Vp.frozen 0
  have c1 : y2.cell? ⟨bp, 1, none⟩ = some (.int .u64 (q1 : Nat)) := Vp.cellAt 1
  have f1 := Vp.frozen 1
  have c2 : y2.cell? ⟨bp, 2, none⟩ = some (.bool n1) := Vp.cellAt 2
  have f2 := Vp.frozen 2
  have c3 : y2.cell? ⟨bp, 3, none⟩ = some (.bool w1) := Vp.cellAt 3
  have f3 := Vp.frozen 3
  have a0 : y2.cell? ⟨w.heap.size, 0, none⟩ = some (.string ⟨nm.toArray⟩) := V0.cellAt 0
  have a1 : y2.cell? ⟨w.heap.size, 1, none⟩ = some (.int .i64 (4 : Nat)) := V0.cellAt 1
  go_wp2_with fail
  clear c0 c1 c2 c3 f0 f1 f2 f3 a0 a1
  refine sto4 Vp _ _ _ _ (Q := fun W => Code.wp Tryz.prog _ _ _ W) ?_
  intro z2 Vp' oth far'
  replace V0 := oth _ _ _ hne V0
  replace B0 := far' _ _ hbw B0
  clear Vp oth far'
  have Vp := Vp'
  clear Vp'
  have hR2' : w2 = false → plus p2 (behR n2 nm 4 q2 (s.drop p2)) = T := fun h => by obtain ⟨e1, e2, h⟩ := hR2 h; rw [e1, e2]; exact h
  refine wp_loop_rounds 5 ?_
  rw [rounds_succ]
  have c0 : z2.cell? ⟨bp, 0, none⟩ = some (.int .i64 (p2 : Nat)) := Vp.cellAt 0
  have f0 := Vp.frozen 0
  have c1 : z2.cell? ⟨bp, 1, none⟩ = some (.int .u64 (q2 : Nat)) := Vp.cellAt 1
  have f1 := Vp.frozen 1
  have c2 : z2.cell? ⟨bp, 2, none⟩ = some (.bool n2) := Vp.cellAt 2
  have f2 := Vp.frozen 2
  have c3 : z2.cell? ⟨bp, 3, none⟩ = some (.bool w2) := Vp.cellAt 3
  have f3 := Vp.frozen 3
  have a0 : z2.cell? ⟨w.heap.size, 0, none⟩ = some (.string ⟨nm.toArray⟩) := V0.cellAt 0
  have a1 : z2.cell? ⟨w.heap.size, 1, none⟩ = some (.int .i64 (4 : Nat)) := V0.cellAt 1
  go_wp2_with fail
  clear c0 c1 c2 c3 f0 f1 f2 f3 a0 a1
  refine (rdg_any s nm p2 q2 3 n2 w2 z2 hp2 hs (by omega) hf2 T hR2' hN2).mono ?_
  rintro e y3 ⟨w3, n3, p3, q3, rfl, hp3, hf3, hR3, hN3, hb⟩
  replace V0 := Va.after hb V0
  replace Vp := Va.after hb Vp
  replace B0 := step B0 hb
  clear hb
  have c0 : y3.cell? ⟨bp, 0, none⟩ = some (.int .i64 (p2 : Nat)) := Vp.cellAt 0
  have f0 := Vp.frozen 0
  have c1 : y3.cell? ⟨bp, 1, none⟩ = some (.int .u64 (q2 : Nat)) := Vp.cellAt 1
  have f1 := Vp.frozen 1
  have c2 : y3.cell? ⟨bp, 2, none⟩ = some (.bool n2) := Vp.cellAt 2
  have f2 := Vp.frozen 2
  have c3 : y3.cell? ⟨bp, 3, none⟩ = some (.bool w2) := Vp.cellAt 3
  have f3 := Vp.frozen 3
  have a0 : y3.cell? ⟨w.heap.size, 0, none⟩ = some (.string ⟨nm.toArray⟩) := V0.cellAt 0
  have a1 : y3.cell? ⟨w.heap.size, 1, none⟩ = some (.int .i64 (4 : Nat)) := V0.cellAt 1
  go_wp2_with fail
  clear c0 c1 c2 c3 f0 f1 f2 f3 a0 a1
  refine sto4 Vp _ _ _ _ (Q := fun W => Code.rounds Tryz.prog _ _ _ _ W) ?_
  intro z3 Vp' oth far'
  replace V0 := oth _ _ _ hne V0
  replace B0 := far' _ _ hbw B0
  clear Vp oth far'
  have Vp := Vp'
  clear Vp'
  rw [rounds_succ]
  have c0 : z3.cell? ⟨bp, 0, none⟩ = some (.int .i64 (p3 : Nat)) := Vp.cellAt 0
  have f0 := Vp.frozen 0
  have c1 : z3.cell? ⟨bp, 1, none⟩ = some (.int .u64 (q3 : Nat)) := Vp.cellAt 1
  have f1 := Vp.frozen 1
  have c2 : z3.cell? ⟨bp, 2, none⟩ = some (.bool n3) := Vp.cellAt 2
  have f2 := Vp.frozen 2
  have c3 : z3.cell? ⟨bp, 3, none⟩ = some (.bool w3) := Vp.cellAt 3
  have f3 := Vp.frozen 3
  have a0 : z3.cell? ⟨w.heap.size, 0, none⟩ = some (.string ⟨nm.toArray⟩) := V0.cellAt 0
  have a1 : z3.cell? ⟨w.heap.size, 1, none⟩ = some (.int .i64 (4 : Nat)) := V0.cellAt 1
  go_wp2_with fail
  clear c0 c1 c2 c3 f0 f1 f2 f3 a0 a1
  refine (rdg_any s nm p3 q3 2 n3 w3 z3 hp3 hs (by omega) hf3 T hR3 hN3).mono ?_
  rintro e y4 ⟨w4, n4, p4, q4, rfl, hp4, hf4, hR4, hN4, hb⟩
  replace V0 := Va.after hb V0
  replace Vp := Va.after hb Vp
  replace B0 := step B0 hb
  clear hb
  have c0 : y4.cell? ⟨bp, 0, none⟩ = some (.int .i64 (p3 : Nat)) := Vp.cellAt 0
  have f0 := Vp.frozen 0
  have c1 : y4.cell? ⟨bp, 1, none⟩ = some (.int .u64 (q3 : Nat)) := Vp.cellAt 1
  have f1 := Vp.frozen 1
  have c2 : y4.cell? ⟨bp, 2, none⟩ = some (.bool n3) := Vp.cellAt 2
  have f2 := Vp.frozen 2
  have c3 : y4.cell? ⟨bp, 3, none⟩ = some (.bool w3) := Vp.cellAt 3
  have f3 := Vp.frozen 3
  have a0 : y4.cell? ⟨w.heap.size, 0, none⟩ = some (.string ⟨nm.toArray⟩) := V0.cellAt 0
  have a1 : y4.cell? ⟨w.heap.size, 1, none⟩ = some (.int .i64 (4 : Nat)) := V0.cellAt 1
  go_wp2_with fail
  clear c0 c1 c2 c3 f0 f1 f2 f3 a0 a1
  refine sto4 Vp _ _ _ _ (Q := fun W => Code.rounds Tryz.prog _ _ _ _ W) ?_
  intro z4 Vp' oth far'
  replace V0 := oth _ _ _ hne V0
  replace B0 := far' _ _ hbw B0
  clear Vp oth far'
  have Vp := Vp'
  clear Vp'
  rw [rounds_succ]
  have c0 : z4.cell? ⟨bp, 0, none⟩ = some (.int .i64 (p4 : Nat)) := Vp.cellAt 0
  have f0 := Vp.frozen 0
  have c1 : z4.cell? ⟨bp, 1, none⟩ = some (.int .u64 (q4 : Nat)) := Vp.cellAt 1
  have f1 := Vp.frozen 1
  have c2 : z4.cell? ⟨bp, 2, none⟩ = some (.bool n4) := Vp.cellAt 2
  have f2 := Vp.frozen 2
  have c3 : z4.cell? ⟨bp, 3, none⟩ = some (.bool w4) := Vp.cellAt 3
  have f3 := Vp.frozen 3
  have a0 : z4.cell? ⟨w.heap.size, 0, none⟩ = some (.string ⟨nm.toArray⟩) := V0.cellAt 0
  have a1 : z4.cell? ⟨w.heap.size, 1, none⟩ = some (.int .i64 (4 : Nat)) := V0.cellAt 1
  go_wp2_with fail
  clear c0 c1 c2 c3 f0 f1 f2 f3 a0 a1
  refine (rdg_any s nm p4 q4 1 n4 w4 z4 hp4 hs (by omega) hf4 T hR4 hN4).mono ?_
  rintro e y5 ⟨w5, n5, p5, q5, rfl, hp5, hf5, hR5, hN5, hb⟩
  replace V0 := Va.after hb V0
  replace Vp := Va.after hb Vp
  replace B0 := step B0 hb
  clear hb
  have c0 : y5.cell? ⟨bp, 0, none⟩ = some (.int .i64 (p4 : Nat)) := Vp.cellAt 0
  have f0 := Vp.frozen 0
  have c1 : y5.cell? ⟨bp, 1, none⟩ = some (.int .u64 (q4 : Nat)) := Vp.cellAt 1
  have f1 := Vp.frozen 1
  have c2 : y5.cell? ⟨bp, 2, none⟩ = some (.bool n4) := Vp.cellAt 2
  have f2 := Vp.frozen 2
  have c3 : y5.cell? ⟨bp, 3, none⟩ = some (.bool w4) := Vp.cellAt 3
  have f3 := Vp.frozen 3
  have a0 : y5.cell? ⟨w.heap.size, 0, none⟩ = some (.string ⟨nm.toArray⟩) := V0.cellAt 0
  have a1 : y5.cell? ⟨w.heap.size, 1, none⟩ = some (.int .i64 (4 : Nat)) := V0.cellAt 1
  go_wp2_with fail
  clear c0 c1 c2 c3 f0 f1 f2 f3 a0 a1
  refine sto4 Vp _ _ _ _ (Q := fun W => Code.rounds Tryz.prog _ _ _ _ W) ?_
  intro z5 Vp' oth far'
  replace V0 := oth _ _ _ hne V0
  replace B0 := far' _ _ hbw B0
  clear Vp oth far'
  have Vp := Vp'
  clear Vp'
  rw [rounds_succ]
  have c0 : z5.cell? ⟨bp, 0, none⟩ = some (.int .i64 (p5 : Nat)) := Vp.cellAt 0
  have f0 := Vp.frozen 0
  have c1 : z5.cell? ⟨bp, 1, none⟩ = some (.int .u64 (q5 : Nat)) := Vp.cellAt 1
  have f1 := Vp.frozen 1
  have c2 : z5.cell? ⟨bp, 2, none⟩ = some (.bool n5) := Vp.cellAt 2
  have f2 := Vp.frozen 2
  have c3 : z5.cell? ⟨bp, 3, none⟩ = some (.bool w5) := Vp.cellAt 3
  have f3 := Vp.frozen 3
  have a0 : z5.cell? ⟨w.heap.size, 0, none⟩ = some (.string ⟨nm.toArray⟩) := V0.cellAt 0
  have a1 : z5.cell? ⟨w.heap.size, 1, none⟩ = some (.int .i64 (4 : Nat)) := V0.cellAt 1
  go_wp2_with fail
  clear c0 c1 c2 c3 f0 f1 f2 f3 a0 a1
  refine (rdg_any s nm p5 q5 0 n5 w5 z5 hp5 hs (by omega) hf5 T hR5 hN5).mono ?_
  rintro e y6 ⟨w6, n6, p6, q6, rfl, hp6, hf6, hR6, hN6, hb⟩
  replace V0 := Va.after hb V0
  replace Vp := Va.after hb Vp
  replace B0 := step B0 hb
  clear hb
  have c0 : y6.cell? ⟨bp, 0, none⟩ = some (.int .i64 (p5 : Nat)) := Vp.cellAt 0
  have f0 := Vp.frozen 0
  have c1 : y6.cell? ⟨bp, 1, none⟩ = some (.int .u64 (q5 : Nat)) := Vp.cellAt 1
  have f1 := Vp.frozen 1
  have c2 : y6.cell? ⟨bp, 2, none⟩ = some (.bool n5) := Vp.cellAt 2
  have f2 := Vp.frozen 2
  have c3 : y6.cell? ⟨bp, 3, none⟩ = some (.bool w5) := Vp.cellAt 3
  have f3 := Vp.frozen 3
  have a0 : y6.cell? ⟨w.heap.size, 0, none⟩ = some (.string ⟨nm.toArray⟩) := V0.cellAt 0
  have a1 : y6.cell? ⟨w.heap.size, 1, none⟩ = some (.int .i64 (4 : Nat)) := V0.cellAt 1
  go_wp2_with fail
  clear c0 c1 c2 c3 f0 f1 f2 f3 a0 a1
  refine sto4 Vp _ _ _ _ (Q := fun W => Code.rounds Tryz.prog _ _ _ _ W) ?_
  intro z6 Vp' oth far'
  replace V0 := oth _ _ _ hne V0
  replace B0 := far' _ _ hbw B0
  clear Vp oth far'
  have Vp := Vp'
  clear Vp'
  rw [rounds_succ]
  have c0 : z6.cell? ⟨bp, 0, none⟩ = some (.int .i64 (p6 : Nat)) := Vp.cellAt 0
  have f0 := Vp.frozen 0
  have c1 : z6.cell? ⟨bp, 1, none⟩ = some (.int .u64 (q6 : Nat)) := Vp.cellAt 1
  have f1 := Vp.frozen 1
  have c2 : z6.cell? ⟨bp, 2, none⟩ = some (.bool n6) := Vp.cellAt 2
  have f2 := Vp.frozen 2
  have c3 : z6.cell? ⟨bp, 3, none⟩ = some (.bool w6) := Vp.cellAt 3
  have f3 := Vp.frozen 3
  have a0 : z6.cell? ⟨w.heap.size, 0, none⟩ = some (.string ⟨nm.toArray⟩) := V0.cellAt 0
  have a1 : z6.cell? ⟨w.heap.size, 1, none⟩ = some (.int .i64 (4 : Nat)) := V0.cellAt 1
  go_wp2_with fail
  clear c0 c1 c2 c3 f0 f1 f2 f3 a0 a1
  refine (rtx_any s [32] p6 q6 n6 w6 z6 hp6 hs (by simp) hf6 (fixC nm (finR (sgn n6 q6))) T (fun h => by exact hR6 h) hN6).mono ?_
  rintro e y7 ⟨w7, n7, p7, q7, rfl, hp7, hf7, hR7, hN7, hb⟩
  replace V0 := Va.after hb V0
  replace Vp := Va.after hb Vp
  replace B0 := step B0 hb
  clear hb
  have c0 : y7.cell? ⟨bp, 0, none⟩ = some (.int .i64 (p6 : Nat)) := Vp.cellAt 0
  have f0 := Vp.frozen 0
  have c1 : y7.cell? ⟨bp, 1, none⟩ = some (.int .u64 (q6 : Nat)) := Vp.cellAt 1
  have f1 := Vp.frozen 1
  have c2 : y7.cell? ⟨bp, 2, none⟩ = some (.bool n6) := Vp.cellAt 2
  have f2 := Vp.frozen 2
  have c3 : y7.cell? ⟨bp, 3, none⟩ = some (.bool w6) := Vp.cellAt 3
  have f3 := Vp.frozen 3
  have a0 : y7.cell? ⟨w.heap.size, 0, none⟩ = some (.string ⟨nm.toArray⟩) := V0.cellAt 0
  have a1 : y7.cell? ⟨w.heap.size, 1, none⟩ = some (.int .i64 (4 : Nat)) := V0.cellAt 1
  go_wp2_with fail
  clear c0 c1 c2 c3 f0 f1 f2 f3 a0 a1
  refine sto4 Vp _ _ _ _ (Q := fun W => Calls Tryz.prog _ _ W _) ?_
  intro z7 Vp' oth far'
  replace V0 := oth _ _ _ hne V0
  replace B0 := far' _ _ hbw B0
  clear Vp oth far'
  have Vp := Vp'
  clear Vp'
  refine (rtx_any s nm p7 q7 n7 w7 z7 hp7 hs (by rw [hC.1]; omega) hf7 (finR (sgn n7 q7)) T (fun h => by obtain ⟨e1, e2, h⟩ := hR7 h; rw [e1, e2]; exact h) hN7).mono ?_
  rintro e y8 ⟨wf, nf, pf, qf, rfl, hpf, hff, hRf, hNf, hb⟩
  replace V0 := Va.after hb V0
  replace Vp := Va.after hb Vp
  replace B0 := step B0 hb
  clear hb
  have HR : Hid (wf = false → plus pf (finR (sgn nf qf) (s.drop pf)) = T) := fun h => by obtain ⟨e1, e2, h⟩ := hRf h; rw [e1, e2]; exact h
  clear hRf
  have c0 : y8.cell? ⟨bp, 0, none⟩ = some (.int .i64 (p7 : Nat)) := Vp.cellAt 0
  have f0 := Vp.frozen 0
  have c1 : y8.cell? ⟨bp, 1, none⟩ = some (.int .u64 (q7 : Nat)) := Vp.cellAt 1
  have f1 := Vp.frozen 1
  have c2 : y8.cell? ⟨bp, 2, none⟩ = some (.bool n7) := Vp.cellAt 2
  have f2 := Vp.frozen 2
  have c3 : y8.cell? ⟨bp, 3, none⟩ = some (.bool w7) := Vp.cellAt 3
  have f3 := Vp.frozen 3
  have a0 : y8.cell? ⟨w.heap.size, 0, none⟩ = some (.string ⟨nm.toArray⟩) := V0.cellAt 0
  have a1 : y8.cell? ⟨w.heap.size, 1, none⟩ = some (.int .i64 (4 : Nat)) := V0.cellAt 1
  cases wf with
  | true =>
    have HE : Hid (T = (pf, none)) := hNf rfl
    go_wp2_with fail
    go_quiet (fail)
    go_wp2_with fail
    (try simp only [Exit.inBlock, Exit.then])
    refine bodyPost_ret (results_tmp3 rfl _ _ _) rfl ?_
    exact ⟨by rw [HE.out]; rfl, below_drewN (belo4 B0 hbw _ _ _ _) _⟩
  | false =>
    by_cases hl : pf < s.length
    · have HE : Hid (T = (pf, none)) := by
        obtain ⟨c, -, hcd⟩ := byte_at s pf hl
        have h := HR.out rfl
        rw [hcd] at h; exact h.symm
      have hli : (pf : Int) < s.length := by omega
      go_wp2_with fail
      go_quiet (fail)
      go_wp2_with fail
      (try simp only [Exit.inBlock, Exit.then])
      refine bodyPost_ret (results_tmp3 rfl _ _ _) rfl ?_
      exact ⟨by rw [HE.out]; rfl, below_drewN (belo4 B0 hbw _ _ _ _) _⟩
    · have HE : Hid (T = (pf, some (sgn nf qf))) := by
        have h := HR.out rfl
        rw [show s.drop pf = [] by rw [show pf = s.length by omega]; simp] at h; exact h.symm
      have hli : ¬ (pf : Int) < s.length := by omega
      have hq9 : qf ≤ 9223372036854775808 := Nat.le_trans hff (by cases nf <;> decide)
      cases nf with
      | true =>
        obtain ⟨Y, hy1⟩ : ∃ Y, IntKind.u64.wrap (-(qf : Int)) = Y := ⟨_, rfl⟩
        have hy2 : wrap64 Y = -(qf : Int) := by
          have : (-(qf : Int)) % 18446744073709551616 = Y := hy1
          unfold wrap64; omega
        go_wp2_with fail
        (try simp only [Exit.inBlock, Exit.then])
        refine bodyPost_ret (results_tmp3 rfl _ _ _) rfl ?_
        exact ⟨by rw [HE.out]; show Ending.returned (.tuple #[.int .i64 (wrap64 Y), .int .i64 0, .int .i64 0]) = _; rw [hy2]; rfl, belo4 B0 hbw _ _ _ _⟩
      | false =>
        have hy2 : wrap64 (qf : Int) = qf := by have := hff; simp [mostU] at this; unfold wrap64; omega
        go_wp2_with fail
        (try simp only [Exit.inBlock, Exit.then])
        refine bodyPost_ret (results_tmp3 rfl _ _ _) rfl ?_
        exact ⟨by rw [HE.out]; show Ending.returned (.tuple #[.int .i64 (wrap64 (qf : Int)), .int .i64 0, .int .i64 0]) = _; rw [hy2]; rfl, belo4 B0 hbw _ _ _ _⟩
end Go.Proofs.YtigimdcaakfckaaGreatDoor
