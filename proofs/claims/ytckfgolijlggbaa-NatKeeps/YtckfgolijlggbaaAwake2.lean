/-
  The answers that are fixed.
-/
import Derived.Test.YtckfgolijlggbaaHeld
import Derived.Test.YtckfgolijlggbaaProd
import Derived.Test.YtckfgolijlggbaaGcd
namespace Go.Proofs.Ytckfgolijlggbaa
open Go.RowKit Go.Shelf

theorem fits3 {x : Int} (h : x < 6277101735386680763835789423207666416102355444464034512896) : x < pw 4096 := by
  have h1 : pw 3 = 6277101735386680763835789423207666416102355444464034512896 := by decide
  have h2 := pw_mono (show 3 ≤ 4096 by decide)
  omega
theorem sl_lit (w : World) (cs : List Int) (hL : Limbs cs) : Sl (w.alloc (.cells (row cs).toArray 46)) (some ⟨w.heap.size, 0, none⟩) cs.length cs := Own.sl (heap_alloc_new w _) hL
theorem limbs_lit (cs : List Int) (h : cs.all (fun z => decide (0 ≤ z ∧ z < 18446744073709551616)) = true) : Limbs cs := fun z hz => of_decide_eq_true (List.all_eq_true.1 h z hz)
/-- A number whose limbs are told. -/
theorem Nt.lit {w : World} {a : Option Addr} {l c : Nat} {zs cs : List Int} (h : Nt w a l c zs) (hL : Limbs cs) (e : num zs = num cs) {m : Nat} (hm : usedN cs = m) (hml : cs.length = m) : l = m ∧ zs = cs := by
  obtain ⟨e1, e2⟩ := one_list h.limbs hL h.1.1 h.2.1 e
  rw [hm] at e1 e2
  rw [List.take_of_length_le (by omega)] at e2
  exact ⟨e1, e2⟩

set_option maxHeartbeats 4000000 in
theorem nawake_any (w : World) : Calls Try.prog 6 #[] w fun e w' => e = .returned (.bool true) ∧ Below w.heap.size w w' := by
  have B0 : Below w.heap.size w w := Below.refl _ _
  go_enter Try.func6, Try.ntmps6
  go_wp2_with fail
  refine ent1 w _ _ (Q := fun W => Calls Try.prog _ _ W _) ?_
  intro x1 hb hs_x1 V0
  replace B0 := step B0 hb
  clear hb hs_x1
  refine (isZero_any none 0 0 x1).mono ?_
  rintro e x2 ⟨rfl, hb⟩
  replace V0 := Va.after hb V0
  replace B0 := step B0 hb
  clear hb
  have c_V0 := V0.cell
  have f_V0 := V0.frozen 0
  go_wp2_with fail
  refine (small_any 0 ⟨by decide, by decide⟩ x2).mono ?_
  rintro e x3 ⟨a2, l2, k2, z2, rfl, h2, n2, hb⟩
  replace V0 := Va.after hb V0
  replace B0 := step B0 hb
  clear hb
  clear c_V0 f_V0
  have c_V0 := V0.cell
  have f_V0 := V0.frozen 0
  go_wp2_with fail
  refine (isZero_any a2 l2 k2 x3).mono ?_
  rintro e x4 ⟨rfl, hb⟩
  replace V0 := Va.after hb V0
  replace B0 := step B0 hb
  clear hb
  rw [h2.zero, n2]
  clear n2 h2
  clear c_V0 f_V0
  have c_V0 := V0.cell
  have f_V0 := V0.frozen 0
  go_wp2_with fail
  refine (small_any 1 ⟨by decide, by decide⟩ x4).mono ?_
  rintro e x5 ⟨a3, l3, k3, z3, rfl, h3, n3, hb⟩
  replace V0 := Va.after hb V0
  replace B0 := step B0 hb
  clear hb
  clear c_V0 f_V0
  have c_V0 := V0.cell
  have f_V0 := V0.frozen 0
  go_wp2_with fail
  refine (isZero_any a3 l3 k3 x5).mono ?_
  rintro e x6 ⟨rfl, hb⟩
  replace V0 := Va.after hb V0
  replace B0 := step B0 hb
  clear hb
  rw [h3.zero, n3]
  clear n3 h3
  clear c_V0 f_V0
  have c_V0 := V0.cell
  have f_V0 := V0.frozen 0
  go_wp2_with fail
  refine (small_any 9223372036854775808 ⟨by decide, by decide⟩ x6).mono ?_
  rintro e x7 ⟨a4, l4, k4, z4, rfl, h4, n4, hb⟩
  replace V0 := Va.after hb V0
  replace B0 := step B0 hb
  clear hb
  clear c_V0 f_V0
  have c_V0 := V0.cell
  have f_V0 := V0.frozen 0
  go_wp2_with fail
  refine (small_any 6 ⟨by decide, by decide⟩ x7).mono ?_
  rintro e x8 ⟨a5, l5, k5, z5, rfl, h5, n5, hb⟩
  replace V0 := Va.after hb V0
  replace h4 := Nt.after hb h4
  replace B0 := step B0 hb
  clear hb
  clear c_V0 f_V0
  have c_V0 := V0.cell
  have f_V0 := V0.frozen 0
  go_wp2_with fail
  refine (nmul_ok a4 a5 l4 k4 l5 k5 z4 z5 x8 h4 h5 (by rw [n4, n5]; exact fits3 (by decide))).mono ?_
  rintro e x9 ⟨a6, l6, k6, z6, rfl, h6, n6, hb⟩
  replace V0 := Va.after hb V0
  replace h4 := Nt.after hb h4
  replace h5 := Nt.after hb h5
  replace B0 := step B0 hb
  clear hb
  rw [n4, n5] at n6
  obtain ⟨e1, e2⟩ := h6.lit (cs := [0, 3]) (limbs_lit _ (by decide)) (by rw [n6]; decide) (m := 2) (by decide) rfl
  subst e1 e2
  clear n4 n5 h4 h5 n6
  go_wp2_with fail
  refine ent1 x9 _ _ (Q := fun W => Code.wp Try.prog _ _ _ W) ?_
  intro x10 hb hs_x10 V1
  replace V0 := Va.after hb V0
  replace h6 := Nt.after hb h6
  replace B0 := step B0 hb
  clear hb hs_x10
  clear c_V0 f_V0
  have c_V0 := V0.cell
  have f_V0 := V0.frozen 0
  have c_V1 := V1.cell
  have f_V1 := V1.frozen 0
  have hI := HV.drew V1 h6 B0
  have hI0 := HV.mk' V1 h6 B0
  have hx10 : x9.heap.size < x10.heap.size := V1.lt
  have hw10 : w.heap.size ≤ x10.heap.size := B0.size
  go_cut [4, 5, 6] (fun s4 s5 s6 wx => ∃ (b4 b5 : Nat) (aq : Option Addr) (kq : Nat) (ar : Option Addr) (kr : Nat), s4 = .pointer (some ⟨b4, 0, none⟩) ∧ s5 = .pointer (some ⟨b5, 0, none⟩) ∧ s6 = .int .i64 0 ∧ Hid (Rd wx b4 (.slice aq 1 kq)) ∧ Hid (Rd wx b5 (.slice ar 1 kr)) ∧ Hid (Nt wx aq 1 kq [11068046444225730969]) ∧ Hid (Nt wx ar 1 kr [3]) ∧ Hid (HV w x9.heap.size a6 2 k6 [0, 3] wx))
  case first =>
    go_region_held3 (fun W => W.cell? ⟨x9.heap.size, 0, none⟩ = some (.slice a6 2 k6) ∧ Hid (HV w x9.heap.size a6 2 k6 [0, 3] W))
      (first | assumption | exact HV.call (by assumption) (by assumption) | (repeat (first | assumption | refine HV.alloc ?_ _ | refine HV.dr ?_ | refine HV.stc ?_ ?_ (by omega) (by omega) _ | (simp [*, go_sem]; done))))
      (first
        | (go_at_call 25; refine (small_any 5 ⟨by decide, by decide⟩ _).mono ?_; rintro e y1 ⟨a7, l7, k7, z7, rfl, h7, n7, b7⟩; have hY := HV.call (w := w) (b := x9.heap.size) (a := a6) (l := 2) (c := k6) (zs := [0, 3]) b7 (by assumption); have qb7 := fun k hk => b7.cell (p := ⟨k, 0, none⟩) hk; have ub7 := fun k hk => b7.frozen (p := ⟨k, 0, none⟩) hk; have sb7 := b7.size; (try simp at sb7); (try (have zx10_y1_0 : x10.heap.size < y1.heap.size := by omega)); (try (have zx10_y1_1 : x10.heap.size + 1 < y1.heap.size := by omega)); (try (have zx10_y1_2 : x10.heap.size ≤ y1.heap.size := by omega)); (try (have zx10_y1_3 : x10.heap.size + 1 ≤ y1.heap.size := by omega)); (try (have zx10_y1_4 : x10.heap.size ≠ y1.heap.size := by omega)); (try (have zx10_y1_5 : x10.heap.size + 1 ≠ y1.heap.size := by omega)); (try (have cA0 : y1.cell? ⟨x10.heap.size, 0, none⟩ = some (.slice none 0 0) := by (first | (rw [b7.cell (p := ⟨x10.heap.size, 0, none⟩) (by first | assumption | (simp; done) | (simp; omega))]; first | assumption | (simp [go_sem]; done) | (simp [*, go_sem]; done))))); (try (have fA0 : y1.frozen? ⟨x10.heap.size, 0, none⟩ = false := by (first | (rw [b7.frozen (p := ⟨x10.heap.size, 0, none⟩) (by first | assumption | (simp; done) | (simp; omega))]; first | assumption | (simp [go_sem]; done) | (simp [*, go_sem]; done))))); (try (have cA1 : y1.cell? ⟨x10.heap.size + 1, 0, none⟩ = some (.slice none 0 0) := by (first | (rw [b7.cell (p := ⟨x10.heap.size + 1, 0, none⟩) (by first | assumption | (simp; done) | (simp; omega))]; first | assumption | (simp [go_sem]; done) | (simp [*, go_sem]; done))))); (try (have fA1 : y1.frozen? ⟨x10.heap.size + 1, 0, none⟩ = false := by (first | (rw [b7.frozen (p := ⟨x10.heap.size + 1, 0, none⟩) (by first | assumption | (simp; done) | (simp; omega))]; first | assumption | (simp [go_sem]; done) | (simp [*, go_sem]; done))))))
        | (go_at_call 21; refine (ndiv_ok a6 a7 2 k6 l7 k7 [0, 3] z7 _ (HV.nt (w := w) (b := x9.heap.size) (by assumption)) (by first | exact h7 | exact h7.al _ | exact (h7.al _).al _) (by rw [n7]; decide)).mono ?_; rintro e y2 ⟨aq, lq, kq, ar, lr, kr, zq, zr, rfl, hq, hr, e1, e2, b8⟩; have zr0 := hr.nonneg; have e0 : num [0, 3] = 55340232221128654848 := (by decide); rw [n7] at e1 e2; rw [e0] at e1; have nq0 : num zq = 11068046444225730969 := (by omega); have nr0 : num zr = 3 := (by omega); have nq : num zq = num [11068046444225730969] := nq0.trans (by decide); have nr : num zr = num [3] := nr0.trans (by decide); obtain ⟨g1, g2⟩ := hq.lit (limbs_lit _ (by decide)) nq (m := 1) (by decide) rfl; obtain ⟨g3, g4⟩ := hr.lit (limbs_lit _ (by decide)) nr (m := 1) (by decide) rfl; subst g1 g2 g3 g4; have hX := HV.call (w := w) (b := x9.heap.size) (a := a6) (l := 2) (c := k6) (zs := [0, 3]) b8 (by assumption); have qb8 := fun k hk => b8.cell (p := ⟨k, 0, none⟩) hk; have ub8 := fun k hk => b8.frozen (p := ⟨k, 0, none⟩) hk; have sb8 := b8.size; (try simp at sb8); (try (have zy1_y2_0 : y1.heap.size < y2.heap.size := by omega)); (try (have zy1_y2_1 : y1.heap.size + 1 < y2.heap.size := by omega)); (try (have zy1_y2_2 : y1.heap.size ≤ y2.heap.size := by omega)); (try (have zy1_y2_3 : y1.heap.size + 1 ≤ y2.heap.size := by omega)); (try (have zy1_y2_4 : y1.heap.size ≠ y2.heap.size := by omega)); (try (have zy1_y2_5 : y1.heap.size + 1 ≠ y2.heap.size := by omega)); (try (have zx10_y2_0 : x10.heap.size < y2.heap.size := by omega)); (try (have zx10_y2_1 : x10.heap.size + 1 < y2.heap.size := by omega)); (try (have zx10_y2_2 : x10.heap.size ≤ y2.heap.size := by omega)); (try (have zx10_y2_3 : x10.heap.size + 1 ≤ y2.heap.size := by omega)); (try (have zx10_y2_4 : x10.heap.size ≠ y2.heap.size := by omega)); (try (have zx10_y2_5 : x10.heap.size + 1 ≠ y2.heap.size := by omega)); (try (have cB0 : y2.cell? ⟨x10.heap.size, 0, none⟩ = some (.slice none 0 0) := by (first | (rw [b8.cell (p := ⟨x10.heap.size, 0, none⟩) (by first | assumption | (simp; done) | (simp; omega))]; first | assumption | (simp [go_sem]; done) | (simp [*, go_sem]; done))))); (try (have fB0 : y2.frozen? ⟨x10.heap.size, 0, none⟩ = false := by (first | (rw [b8.frozen (p := ⟨x10.heap.size, 0, none⟩) (by first | assumption | (simp; done) | (simp; omega))]; first | assumption | (simp [go_sem]; done) | (simp [*, go_sem]; done))))); (try (have cB1 : y2.cell? ⟨x10.heap.size + 1, 0, none⟩ = some (.slice none 0 0) := by (first | (rw [b8.cell (p := ⟨x10.heap.size + 1, 0, none⟩) (by first | assumption | (simp; done) | (simp; omega))]; first | assumption | (simp [go_sem]; done) | (simp [*, go_sem]; done))))); (try (have fB1 : y2.frozen? ⟨x10.heap.size + 1, 0, none⟩ = false := by (first | (rw [b8.frozen (p := ⟨x10.heap.size + 1, 0, none⟩) (by first | assumption | (simp; done) | (simp; omega))]; first | assumption | (simp [go_sem]; done) | (simp [*, go_sem]; done))))); (try (have cB2 : y2.cell? ⟨y1.heap.size, 0, none⟩ = some (.slice none 0 0) := by (first | (rw [b8.cell (p := ⟨y1.heap.size, 0, none⟩) (by first | assumption | (simp; done) | (simp; omega))]; first | assumption | (simp [go_sem]; done) | (simp [*, go_sem]; done))))); (try (have fB2 : y2.frozen? ⟨y1.heap.size, 0, none⟩ = false := by (first | (rw [b8.frozen (p := ⟨y1.heap.size, 0, none⟩) (by first | assumption | (simp; done) | (simp; omega))]; first | assumption | (simp [go_sem]; done) | (simp [*, go_sem]; done))))); (try (have cB3 : y2.cell? ⟨y1.heap.size + 1, 0, none⟩ = some (.slice none 0 0) := by (first | (rw [b8.cell (p := ⟨y1.heap.size + 1, 0, none⟩) (by first | assumption | (simp; done) | (simp; omega))]; first | assumption | (simp [go_sem]; done) | (simp [*, go_sem]; done))))); (try (have fB3 : y2.frozen? ⟨y1.heap.size + 1, 0, none⟩ = false := by (first | (rw [b8.frozen (p := ⟨y1.heap.size + 1, 0, none⟩) (by first | assumption | (simp; done) | (simp; omega))]; first | assumption | (simp [go_sem]; done) | (simp [*, go_sem]; done)))))))
    all_goals
      go_wp2_with fail
      go_meet
      refine ⟨_, _, aq, kq, ar, kr, rfl, rfl, rfl, ?_, ?_, ?_, ?_, And.right (by assumption)⟩
      · show World.cell? _ _ = _
        simp [*, go_sem]
      · show World.cell? _ _ = _
        simp [*, go_sem]
      · show Nt _ _ _ _ _
        repeat (first | assumption | refine Nt.al ?_ _ | refine Nt.stc (x := none) (y := 0) (z := 0) ?_ ?_ _ | (simp [*, go_sem]; done))
      · show Nt _ _ _ _ _
        repeat (first | assumption | refine Nt.al ?_ _ | refine Nt.stc (x := none) (y := 0) (z := 0) ?_ ?_ _ | (simp [*, go_sem]; done))
  case rest =>
    obtain ⟨b4, b5, aq, kq, ar, kr, rfl, rfl, rfl, R4, R5, hq, hr, hH⟩ := hcut
    clear V1 V0 h6 B0 c_V0 f_V0 c_V1 f_V1 hI hI0 hx10 hw10
    obtain ⟨V1, h6, B0⟩ := hH
    replace R4 : Rd wc b4 (.slice aq 1 kq) := R4
    replace R5 : Rd wc b5 (.slice ar 1 kr) := R5
    replace hq : Nt wc aq 1 kq [11068046444225730969] := hq
    replace hr : Nt wc ar 1 kr [3] := hr
    have c_V1 := V1.cell
    have f_V1 := V1.frozen 0
    have c_R4 : World.cell? _ _ = some _ := R4
    have c_R5 : World.cell? _ _ = some _ := R5
    go_wp2_with fail
    have hb := (Below.refl wc.heap.size wc).alloc (Nat.le_refl _) (.cells (row [0, 3]).toArray 46)
    have t1 := sl_lit wc [0, 3] (limbs_lit _ (by decide))
    replace V1 := Va.after hb V1
    replace R4 := Rd.after hb R4
    replace R5 := Rd.after hb R5
    replace h6 := Nt.after hb h6
    replace hq := Nt.after hb hq
    replace hr := Nt.after hb hr
    replace B0 := step B0 hb
    clear hb
    refine (is_true a6 (some ⟨wc.heap.size, 0, none⟩) 2 k6 2 [0, 3] _ h6 t1).mono ?_
    rintro e x21 ⟨rfl, hb⟩
    replace V1 := Va.after hb V1
    replace R4 := Rd.after hb R4
    replace R5 := Rd.after hb R5
    replace h6 := Nt.after hb h6
    replace hq := Nt.after hb hq
    replace hr := Nt.after hb hr
    replace B0 := step B0 hb
    clear hb
    clear c_V1 f_V1 c_R4 c_R5
    have c_V1 := V1.cell
    have f_V1 := V1.frozen 0
    have c_R4 : World.cell? _ _ = some _ := R4
    have c_R5 : World.cell? _ _ = some _ := R5
    go_wp2_with fail
    have hb := (Below.refl x21.heap.size x21).alloc (Nat.le_refl _) (.cells (row [11068046444225730969]).toArray 46)
    have t2 := sl_lit x21 [11068046444225730969] (limbs_lit _ (by decide))
    replace V1 := Va.after hb V1
    replace R4 := Rd.after hb R4
    replace R5 := Rd.after hb R5
    replace h6 := Nt.after hb h6
    replace hq := Nt.after hb hq
    replace hr := Nt.after hb hr
    replace B0 := step B0 hb
    clear hb
    refine (is_true aq (some ⟨x21.heap.size, 0, none⟩) 1 kq 1 [11068046444225730969] _ hq t2).mono ?_
    rintro e x22 ⟨rfl, hb⟩
    replace V1 := Va.after hb V1
    replace R4 := Rd.after hb R4
    replace R5 := Rd.after hb R5
    replace h6 := Nt.after hb h6
    replace hq := Nt.after hb hq
    replace hr := Nt.after hb hr
    replace B0 := step B0 hb
    clear hb
    clear c_V1 f_V1 c_R4 c_R5
    have c_V1 := V1.cell
    have f_V1 := V1.frozen 0
    have c_R4 : World.cell? _ _ = some _ := R4
    have c_R5 : World.cell? _ _ = some _ := R5
    go_wp2_with fail
    have hb := (Below.refl x22.heap.size x22).alloc (Nat.le_refl _) (.cells (row [3]).toArray 46)
    have t3 := sl_lit x22 [3] (limbs_lit _ (by decide))
    replace V1 := Va.after hb V1
    replace R4 := Rd.after hb R4
    replace R5 := Rd.after hb R5
    replace h6 := Nt.after hb h6
    replace hq := Nt.after hb hq
    replace hr := Nt.after hb hr
    replace B0 := step B0 hb
    clear hb
    refine (is_true ar (some ⟨x22.heap.size, 0, none⟩) 1 kr 1 [3] _ hr t3).mono ?_
    rintro e x23 ⟨rfl, hb⟩
    replace V1 := Va.after hb V1
    replace R4 := Rd.after hb R4
    replace R5 := Rd.after hb R5
    replace h6 := Nt.after hb h6
    replace hq := Nt.after hb hq
    replace hr := Nt.after hb hr
    replace B0 := step B0 hb
    clear hb
    clear c_V1 f_V1 c_R4 c_R5
    have c_V1 := V1.cell
    have f_V1 := V1.frozen 0
    have c_R4 : World.cell? _ _ = some _ := R4
    have c_R5 : World.cell? _ _ = some _ := R5
    go_wp2_with fail
    refine (small_any 12 ⟨by decide, by decide⟩ x23).mono ?_
    rintro e x24 ⟨a8, l8, k8, z8, rfl, h8, n8, hb⟩
    replace V1 := Va.after hb V1
    replace R4 := Rd.after hb R4
    replace R5 := Rd.after hb R5
    replace h6 := Nt.after hb h6
    replace hq := Nt.after hb hq
    replace hr := Nt.after hb hr
    replace B0 := step B0 hb
    clear hb
    clear c_V1 f_V1 c_R4 c_R5
    have c_V1 := V1.cell
    have f_V1 := V1.frozen 0
    have c_R4 : World.cell? _ _ = some _ := R4
    have c_R5 : World.cell? _ _ = some _ := R5
    go_wp2_with fail
    refine (small_any 18 ⟨by decide, by decide⟩ x24).mono ?_
    rintro e x25 ⟨a9, l9, k9, z9, rfl, h9, n9, hb⟩
    replace V1 := Va.after hb V1
    replace R4 := Rd.after hb R4
    replace R5 := Rd.after hb R5
    replace h6 := Nt.after hb h6
    replace hq := Nt.after hb hq
    replace hr := Nt.after hb hr
    replace h8 := Nt.after hb h8
    replace B0 := step B0 hb
    clear hb
    clear c_V1 f_V1 c_R4 c_R5
    have c_V1 := V1.cell
    have f_V1 := V1.frozen 0
    have c_R4 : World.cell? _ _ = some _ := R4
    have c_R5 : World.cell? _ _ = some _ := R5
    go_wp2_with fail
    refine (ngcd_of 18446744073709551615 later_none a8 a9 l8 k8 l9 k9 z8 z9 x25 h8 h9 (by rw [n8]; decide) (by rw [n9]; decide)).mono ?_
    rintro e x26 ⟨a10, l10, k10, z10, rfl, h10, n10, hb⟩
    replace V1 := Va.after hb V1
    replace R4 := Rd.after hb R4
    replace R5 := Rd.after hb R5
    replace h6 := Nt.after hb h6
    replace hq := Nt.after hb hq
    replace hr := Nt.after hb hr
    replace h8 := Nt.after hb h8
    replace h9 := Nt.after hb h9
    replace B0 := step B0 hb
    clear hb
    rw [n8, n9] at n10
    obtain ⟨e1, e2⟩ := h10.lit (cs := [6]) (limbs_lit _ (by decide)) (by rw [n10]; decide) (m := 1) (by decide) rfl
    subst e1 e2
    clear c_V1 f_V1 c_R4 c_R5
    have c_V1 := V1.cell
    have f_V1 := V1.frozen 0
    have c_R4 : World.cell? _ _ = some _ := R4
    have c_R5 : World.cell? _ _ = some _ := R5
    go_wp2_with fail
    have hb := (Below.refl x26.heap.size x26).alloc (Nat.le_refl _) (.cells (row [6]).toArray 46)
    have t4 := sl_lit x26 [6] (limbs_lit _ (by decide))
    replace V1 := Va.after hb V1
    replace R4 := Rd.after hb R4
    replace R5 := Rd.after hb R5
    replace h6 := Nt.after hb h6
    replace hq := Nt.after hb hq
    replace hr := Nt.after hb hr
    replace h8 := Nt.after hb h8
    replace h9 := Nt.after hb h9
    replace h10 := Nt.after hb h10
    replace B0 := step B0 hb
    clear hb
    refine (is_true a10 (some ⟨x26.heap.size, 0, none⟩) 1 k10 1 [6] _ h10 t4).mono ?_
    rintro e x27 ⟨rfl, hb⟩
    replace V1 := Va.after hb V1
    replace R4 := Rd.after hb R4
    replace R5 := Rd.after hb R5
    replace h6 := Nt.after hb h6
    replace hq := Nt.after hb hq
    replace hr := Nt.after hb hr
    replace h8 := Nt.after hb h8
    replace h9 := Nt.after hb h9
    replace h10 := Nt.after hb h10
    replace B0 := step B0 hb
    clear hb
    clear c_V1 f_V1 c_R4 c_R5
    have c_V1 := V1.cell
    have f_V1 := V1.frozen 0
    have c_R4 : World.cell? _ _ = some _ := R4
    have c_R5 : World.cell? _ _ = some _ := R5
    go_wp2_with fail
    go_ret
    exact ⟨rfl, B0⟩
end Go.Proofs.Ytckfgolijlggbaa
