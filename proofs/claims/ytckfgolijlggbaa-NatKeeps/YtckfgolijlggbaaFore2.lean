/-
  foreseen: Euclid's steps on the highest bits, as long as they are sure.
-/
import Derived.Test.YtckfgolijlggbaaMember
namespace Go.Proofs.Ytckfgolijlggbaa
open Go.RowKit Go.Shelf

theorem Va.set3 {w : World} {b : Nat} {t : TypeId} {x y z : Value} (h : Va w b t #[x, y, z]) (x' y' z' : Value) : Va (((w.setCell ⟨b, 0, none⟩ x').setCell ⟨b, 1, none⟩ y').setCell ⟨b, 2, none⟩ z') b t #[x', y', z'] := by
  unfold Va at *
  simp only [World.setCell]
  rw [Array.getElem?_modify, if_pos rfl, Array.getElem?_modify, if_pos rfl, Array.getElem?_modify, if_pos rfl, h]
  simp
theorem Va.other3 {w : World} {b c : Nat} {t : TypeId} {cs : Array Value} (h : Va w b t cs) (hne : b ≠ c) (x' y' z' : Value) : Va (((w.setCell ⟨c, 0, none⟩ x').setCell ⟨c, 1, none⟩ y').setCell ⟨c, 2, none⟩ z') b t cs :=
  ((h.other (p := ⟨c, 0, none⟩) hne x').other (p := ⟨c, 1, none⟩) hne y').other (p := ⟨c, 2, none⟩) hne z'
theorem below_3 {B : Nat} {a w : World} (h : Below B a w) {c : Nat} (hc : B ≤ c) (x y z : Value) : Below B a (((w.setCell ⟨c, 0, none⟩ x).setCell ⟨c, 1, none⟩ y).setCell ⟨c, 2, none⟩ z) :=
  ((h.setCell (p := ⟨c, 0, none⟩) hc x).setCell (p := ⟨c, 1, none⟩) hc y).setCell (p := ⟨c, 2, none⟩) hc z
theorem results_mm {fn : Func} {i j b c : Nat} {x y z x' y' z' : Value} {tmps : Array Value} {w : World} (h : fn.results = #[.cell i 67, .cell j 67]) (hi : tmps.getD i undef = .pointer (some ⟨b, 0, none⟩)) (hv : Va w b 67 #[x, y, z])
    (hj : tmps.getD j undef = .pointer (some ⟨c, 0, none⟩)) (hu : Va w c 67 #[x', y', z']) :
    (results fn tmps).run Try.prog w = .ok (.tuple #[.agg #[x, y, z], .agg #[x', y', z']]) w := by
  have c0 := hv.cellAt 0
  have c1 := hv.cellAt 1
  have c2 := hv.cellAt 2
  have d0 := hu.cellAt 0
  have d1 := hu.cellAt 1
  have d2 := hu.cellAt 2
  simp at c0 c1 c2 d0 d1 d2
  rw [Array.getD_eq_getD_getElem?] at hi hj
  simp [results, h, hi, hj, c0, c1, c2, d0, d1, d2, go_sem]
/-- The five variables: the results, and three members. -/
def Five (w W : World) (u0 v0 : Int) (p : Bool) (u1 v1 : Int) (o : Bool) (u2 v2 : Int) (o2 : Bool) : Prop :=
  Va W w.heap.size 67 #[.int .u64 0, .int .u64 0, .bool false] ∧ Va W (w.heap.size + 1) 67 #[.int .u64 0, .int .u64 0, .bool false] ∧
  Va W (w.heap.size + 1 + 1) 67 #[.int .u64 u0, .int .u64 v0, .bool p] ∧ Va W (w.heap.size + 1 + 1 + 1) 67 #[.int .u64 u1, .int .u64 v1, .bool o] ∧ Va W (w.heap.size + 1 + 1 + 1 + 1) 67 #[.int .u64 u2, .int .u64 v2, .bool o2] ∧ Below w.heap.size w W
theorem Five.after {w W W' : World} {u0 v0 : Int} {p : Bool} {u1 v1 : Int} {o : Bool} {u2 v2 : Int} {o2 : Bool} (hb : Below W.heap.size W W') (h : Five w W u0 v0 p u1 v1 o u2 v2 o2) : Five w W' u0 v0 p u1 v1 o u2 v2 o2 :=
  ⟨Va.after hb h.1, Va.after hb h.2.1, Va.after hb h.2.2.1, Va.after hb h.2.2.2.1, Va.after hb h.2.2.2.2.1, step h.2.2.2.2.2 hb⟩

theorem Va.drw {w : World} {b : Nat} {t : TypeId} {cs : Array Value} (h : Va w b t cs) : Va w.drew b t cs := h
theorem Five.put {w W : World} {u0 v0 : Int} {p : Bool} {u1 v1 : Int} {o : Bool} {u2 v2 : Int} {o2 : Bool} (h : Five w W u0 v0 p u1 v1 o u2 v2 o2) (a b : Int) (c : Bool) :
    Five w (((((((((W.setCell ⟨w.heap.size + 1 + 1, 0, none⟩ (.int .u64 u1)).setCell ⟨w.heap.size + 1 + 1, 1, none⟩ (.int .u64 v1)).setCell ⟨w.heap.size + 1 + 1, 2, none⟩ (.bool o)).setCell ⟨w.heap.size + 1 + 1 + 1, 0, none⟩ (.int .u64 u2)).setCell ⟨w.heap.size + 1 + 1 + 1, 1, none⟩ (.int .u64 v2)).setCell ⟨w.heap.size + 1 + 1 + 1, 2, none⟩ (.bool o2)).setCell ⟨w.heap.size + 1 + 1 + 1 + 1, 0, none⟩ (.int .u64 a)).setCell ⟨w.heap.size + 1 + 1 + 1 + 1, 1, none⟩ (.int .u64 b)).setCell ⟨w.heap.size + 1 + 1 + 1 + 1, 2, none⟩ (.bool c)) u1 v1 o u2 v2 o2 a b c :=
  ⟨((h.1.other3 (by omega) _ _ _).other3 (by omega) _ _ _).other3 (by omega) _ _ _, ((h.2.1.other3 (by omega) _ _ _).other3 (by omega) _ _ _).other3 (by omega) _ _ _,
   ((h.2.2.1.set3 _ _ _).other3 (by omega) _ _ _).other3 (by omega) _ _ _, ((h.2.2.2.1.other3 (by omega) _ _ _).set3 _ _ _).other3 (by omega) _ _ _, ((h.2.2.2.2.1.other3 (by omega) _ _ _).other3 (by omega) _ _ _).set3 _ _ _,
   below_3 (below_3 (below_3 h.2.2.2.2.2 (by omega) _ _ _) (by omega) _ _ _) (by omega) _ _ _⟩
theorem Five.drewN {w W : World} {u0 v0 : Int} {p : Bool} {u1 v1 : Int} {o : Bool} {u2 v2 : Int} {o2 : Bool} (h : Five w W u0 v0 p u1 v1 o u2 v2 o2) (n : Nat) : Five w (W.drewN n) u0 v0 p u1 v1 o u2 v2 o2 :=
  ⟨h.1, h.2.1, h.2.2.1, h.2.2.2.1, h.2.2.2.2.1, below_drewN h.2.2.2.2.2 n⟩

set_option maxHeartbeats 4000000 in
theorem foreseen_any (x0 y0 : Int) (w : World) (hx : Word x0) (hy : Word y0) (hle : y0 ≤ x0) :
    Calls Try.prog 44 #[.int .u64 x0, .int .u64 y0] w fun e w' =>
      ∃ u0 v0 p u1 v1 o, e = .returned (.tuple #[.agg #[.int .u64 u0, .int .u64 v0, .bool p], .agg #[.int .u64 u1, .int .u64 v1, .bool o]]) ∧ Word u0 ∧ Word v0 ∧ Word u1 ∧ Word v1 ∧ (v0 ≠ 0 → p = !o ∧ Sure x0 y0 u0 v0 u1 v1 o) ∧ Below w.heap.size w w' := by
  go_enter Try.func44, Try.ntmps44
  go_wp2_with fail
  refine ent5 w _ _ _ _ _ _ _ _ _ _ (Q := fun W => Code.wp Try.prog _ _ _ W) ?_
  intro w0 B0 hs V0 V1 V2 V3 V4
  have HF0 : Hid (Five w w0 0 0 false 1 0 false 0 1 true) := ⟨V0, V1, V2, V3, V4, B0⟩
  have HE0 : Hid (EInv x0 y0 x0 y0 1 0 0 1 false) := EInv.start hy.1 hle
  clear V0 V1 V2 V3 V4 B0 hs
  go_loopw [0, 1] (fun sx sy wr => ∃ (x y u0 v0 : Int) (p : Bool) (u1 v1 : Int) (o : Bool) (u2 v2 : Int), sx = .int .u64 x ∧ sy = .int .u64 y ∧ Hid (Word x) ∧ Hid (Word u0) ∧ Hid (Word v0) ∧ Hid (Word u1) ∧ Hid (Word v1) ∧ Hid (Word u2) ∧ Hid (Word v2) ∧ Hid (EInv x0 y0 x y u1 v1 u2 v2 o) ∧ Hid (v0 ≠ 0 → p = !o ∧ Sure x0 y0 u0 v0 u1 v1 o) ∧ Hid (Five w wr u0 v0 p u1 v1 o u2 v2 (!o))) (fun _ sy _ => (intOf sy).toNat)
  case atStart => exact ⟨x0, y0, 0, 0, false, 1, 0, false, 0, 1, rfl, rfl, hx, ⟨by decide, by decide⟩, ⟨by decide, by decide⟩, ⟨by decide, by decide⟩, ⟨by decide, by decide⟩, ⟨by decide, by decide⟩, ⟨by decide, by decide⟩, HE0, fun h => absurd rfl h, HF0⟩
  case round =>
    clear HF0 HE0
    obtain ⟨x, y, u0, v0, p, u1, v1, o, u2, v2, rfl, rfl, hwx, hu0, hv0, hu1, hv1, hu2, hv2, hE, hS, hF⟩ := hrel
    have k2 := hF.out.2.2.1
    have k3 := hF.out.2.2.2.1
    have k4 := hF.out.2.2.2.2.1
    have c30 := k3.cellAt 0
    have c31 := k3.cellAt 1
    have c32 := k3.cellAt 2
    have c40 := k4.cellAt 0
    have c41 := k4.cellAt 1
    have c42 := k4.cellAt 2
    simp at c30 c31 c32 c40 c41 c42
    have y0' := hE.out.y0
    have yx := hE.out.yx
    have pv2 := hE.out.pv2
    have nv1 := hE.out.nv1
    have hx2 := hwx.out.2
    by_cases hc1 : v2 ≤ y
    · obtain ⟨ft1, ft2⟩ := hE.out.fits (by omega)
      have hx02 := hx.2
      have ew1 : IntKind.u64.wrap (x - y) = x - y := by rw [IntKind.wrap_u64]; omega
      have ew2 : IntKind.u64.wrap (v1 + v2) = v1 + v2 := by rw [IntKind.wrap_u64]; omega
      by_cases hc2 : v1 + v2 ≤ x - y
      · have HE2 : Hid (EInv x0 y0 y (x % y) u2 v2 (u1 + x / y * u2) (v1 + x / y * v2) (!o)) := hE.out.step (by omega)
        have HSU : Hid (Sure x0 y0 u1 v1 u2 v2 (!o)) := hE.out.sure hc1 hc2
        have huv := HE2.out.uv2
        have nu1 := hE.out.nu1
        have nu2 := hE.out.nu2
        have hyw : Word y := ⟨y0', by omega⟩
        have hq0 : 0 ≤ x / y := Int.ediv_nonneg (by omega) y0'
        have gy : (y == 0) = false := by simp; omega
        have hm1 := Int.emod_nonneg x (show y ≠ 0 by omega)
        have hm2 := Int.emod_lt_of_pos x (show 0 < y by omega)
        obtain ⟨s, hs⟩ : ∃ s, x % y = s := ⟨_, rfl⟩
        obtain ⟨q, hq⟩ : ∃ q, x / y = q := ⟨_, rfl⟩
        rw [hs] at HE2 hm1 hm2
        rw [hq] at HE2 ft2 huv hq0
        have htm : x.tmod y = s := by rw [Int.tmod_eq_emod_of_nonneg (by omega)]; exact hs
        have hyp : 0 < y := by omega
        go_wp2_with fail
        go_quiet (fail)
        have hF5 := hF.out.drewN nq
        go_wp2_with fail
        generalize wr.drewN nq = w5 at *
        clear hF k2 k3 k4 c30 c31 c32 c40 c41 c42
        have k2 := hF5.2.2.1
        have k3 := hF5.2.2.2.1
        have k4 := hF5.2.2.2.2.1
        have c30 := k3.cellAt 0
        have c31 := k3.cellAt 1
        have c32 := k3.cellAt 2
        have c40 := k4.cellAt 0
        have c41 := k4.cellAt 1
        have c42 := k4.cellAt 2
        simp at c30 c31 c32 c40 c41 c42
        have k0 := hF5.1
        have k1 := hF5.2.1
        have f20 := k2.frozen 0
        have f21 := k2.frozen 1
        have f22 := k2.frozen 2
        have f30 := k3.frozen 0
        have f31 := k3.frozen 1
        have f32 := k3.frozen 2
        have f40 := k4.frozen 0
        have f41 := k4.frozen 1
        have f42 := k4.frozen 2
        have HF5 : Hid (Five w w5 u0 v0 p u1 v1 o u2 v2 (!o)) := hF5
        have NX := next_any u1 v1 u2 v2 q o (!o) w5.drew nu1 nv1 nu2 (by omega) hq0 (by omega) (by omega)
        clear hF5 k0 k1 k2 k3 k4
        have hSu : v1 ≠ 0 → o = !(!o) ∧ Sure x0 y0 u1 v1 u2 v2 (!o) := fun _ => ⟨by simp, HSU.out⟩
        have HSu : Hid (v1 ≠ 0 → o = !(!o) ∧ Sure x0 y0 u1 v1 u2 v2 (!o)) := hSu
        have HW1 : Hid (Word (u1 + q * u2)) := ⟨HE2.out.nu2, by omega⟩
        have HW2 : Hid (Word (v1 + q * v2)) := ⟨by have := HE2.out.pv2; omega, by omega⟩
        clear hSu
        go_region_with (go_at_call 61; refine NX.mono ?_; rintro e y1 ⟨rfl, b10⟩; have b1 : Below w5.heap.size w5 y1 := ⟨b10.os, b10.tape, b10.output, b10.size, b10.block⟩; clear b10; have G5 := HF5.out.after b1; have P5 := G5.put (u1 + q * u2) (v1 + q * v2) o; have HP5 : Hid _ := P5; clear P5; have m2 := G5.2.2.1; have m3 := G5.2.2.2.1; have m4 := G5.2.2.2.2.1; have d20 := m2.cellAt 0; have d21 := m2.cellAt 1; have d22 := m2.cellAt 2; have d30 := m3.cellAt 0; have d31 := m3.cellAt 1; have d32 := m3.cellAt 2; have d40 := m4.cellAt 0; have d41 := m4.cellAt 1; have d42 := m4.cellAt 2; simp at d20 d21 d22 d30 d31 d32 d40 d41 d42; have g20 := m2.frozen 0; have g21 := m2.frozen 1; have g22 := m2.frozen 2; have g30 := m3.frozen 0; have g31 := m3.frozen 1; have g32 := m3.frozen 2; have g40 := m4.frozen 0; have g41 := m4.frozen 1; have g42 := m4.frozen 2)
        all_goals
          go_wp2_with fail
          go_roundw
          case rel => exact ⟨y, s, u1, v1, o, u2, v2, !o, u1 + q * u2, v1 + q * v2, rfl, rfl, hyw, hu1, hv1, hu2, hv2, HW1, HW2, HE2, HSu, by rw [Bool.not_not]; exact HP5⟩
          case measure => simp [intOf]; omega
      · have k0 := hF.out.1
        have k1 := hF.out.2.1
        have c20 := k2.cellAt 0
        have c21 := k2.cellAt 1
        have c22 := k2.cellAt 2
        have c00 := k0.cellAt 0
        have c01 := k0.cellAt 1
        have c02 := k0.cellAt 2
        have c10 := k1.cellAt 0
        have c11 := k1.cellAt 1
        have c12 := k1.cellAt 2
        simp at c20 c21 c22 c00 c01 c02 c10 c11 c12
        have f00 := k0.frozen 0
        have f01 := k0.frozen 1
        have f02 := k0.frozen 2
        have f10 := k1.frozen 0
        have f11 := k1.frozen 1
        have f12 := k1.frozen 2
        have T0 := (Va.set3 (w := wr) k0 (.int .u64 u0) (.int .u64 v0) (.bool p)).other3 (c := w.heap.size + 1) (by omega) (.int .u64 u1) (.int .u64 v1) (.bool o)
        have T1 := (Va.other3 (w := wr) (c := w.heap.size) k1 (by omega) (.int .u64 u0) (.int .u64 v0) (.bool p)).set3 (.int .u64 u1) (.int .u64 v1) (.bool o)
        have BF := below_3 (below_3 hF.out.2.2.2.2.2 (c := w.heap.size) (Nat.le_refl _) (.int .u64 u0) (.int .u64 v0) (.bool p)) (c := w.heap.size + 1) (by omega) (.int .u64 u1) (.int .u64 v1) (.bool o)
        go_wp2_with fail
        go_region
        all_goals
          go_wp2_with fail
          refine bodyPost_ret (results_mm rfl rfl T0.drw rfl T1.drw) rfl ?_
          exact ⟨u0, v0, p, u1, v1, o, rfl, hu0.out, hv0.out, hu1.out, hv1.out, hS.out, BF.drew⟩
    · have k0 := hF.out.1
      have k1 := hF.out.2.1
      have c20 := k2.cellAt 0
      have c21 := k2.cellAt 1
      have c22 := k2.cellAt 2
      have c00 := k0.cellAt 0
      have c01 := k0.cellAt 1
      have c02 := k0.cellAt 2
      have c10 := k1.cellAt 0
      have c11 := k1.cellAt 1
      have c12 := k1.cellAt 2
      simp at c20 c21 c22 c00 c01 c02 c10 c11 c12
      have f00 := k0.frozen 0
      have f01 := k0.frozen 1
      have f02 := k0.frozen 2
      have f10 := k1.frozen 0
      have f11 := k1.frozen 1
      have f12 := k1.frozen 2
      have T0 := (Va.set3 (w := wr) k0 (.int .u64 u0) (.int .u64 v0) (.bool p)).other3 (c := w.heap.size + 1) (by omega) (.int .u64 u1) (.int .u64 v1) (.bool o)
      have T1 := (Va.other3 (w := wr) (c := w.heap.size) k1 (by omega) (.int .u64 u0) (.int .u64 v0) (.bool p)).set3 (.int .u64 u1) (.int .u64 v1) (.bool o)
      have BF := below_3 (below_3 hF.out.2.2.2.2.2 (c := w.heap.size) (Nat.le_refl _) (.int .u64 u0) (.int .u64 v0) (.bool p)) (c := w.heap.size + 1) (by omega) (.int .u64 u1) (.int .u64 v1) (.bool o)
      go_wp2_with fail
      go_region
      all_goals
        go_wp2_with fail
        refine bodyPost_ret (results_mm rfl rfl T0.drw rfl T1.drw) rfl ?_
        exact ⟨u0, v0, p, u1, v1, o, rfl, hu0.out, hv0.out, hu1.out, hv1.out, hS.out, BF.drew⟩
end Go.Proofs.Ytckfgolijlggbaa
