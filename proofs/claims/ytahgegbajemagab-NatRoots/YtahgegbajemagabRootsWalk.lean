/-
  The walk of NatRoots: each call by its contract.
-/
import Derived.Test.YtahgegbajemagabFits
import Derived.Test.YtahgegbajemagabRootY
import Derived.Test.YtahgegbajemagabPow
namespace Go.Proofs.Ytahgegbajemagab.natRoots
open Go.RowKit Go.Shelf
set_option linter.unusedVariables false
/-- Two variables with their numbers; nothing old has turned. -/
def HX (w : World) (b b2 : Nat) (a : Option Addr) (l c : Nat) (zs : List Int) (a2 : Option Addr) (l2 c2 : Nat) (zs2 : List Int) (W : World) : Prop := HV w b a l c zs W ∧ HV w b2 a2 l2 c2 zs2 W
abbrev HY (w : World) (b b2 : Nat) (a : Option Addr) (l c : Nat) (zs : List Int) (a2 : Option Addr) (l2 c2 : Nat) (zs2 : List Int) (W : World) : Prop := W.cell? ⟨b, 0, none⟩ = some (.slice a l c) ∧ Hid (HX w b b2 a l c zs a2 l2 c2 zs2 W)
section
variable {w : World} {b b2 : Nat} {a : Option Addr} {l c : Nat} {zs : List Int} {a2 : Option Addr} {l2 c2 : Nat} {zs2 : List Int} {W W' : World}
theorem hy1 (h : W.cell? ⟨b, 0, none⟩ = some (.slice a l c) ∧ Hid (HX w b b2 a l c zs a2 l2 c2 zs2 W)) : W.cell? ⟨b, 0, none⟩ = some (.slice a l c) ∧ Hid (HV w b a l c zs W) := ⟨h.1, h.2.1⟩
theorem hy2 (h : W.cell? ⟨b, 0, none⟩ = some (.slice a l c) ∧ Hid (HX w b b2 a l c zs a2 l2 c2 zs2 W)) : W.cell? ⟨b2, 0, none⟩ = some (.slice a2 l2 c2) ∧ Hid (HV w b2 a2 l2 c2 zs2 W) := ⟨h.2.2.1.cell, h.2.2⟩
theorem hymk (h : W.cell? ⟨b, 0, none⟩ = some (.slice a l c) ∧ Hid (HV w b a l c zs W)) (h2 : W.cell? ⟨b2, 0, none⟩ = some (.slice a2 l2 c2) ∧ Hid (HV w b2 a2 l2 c2 zs2 W)) : W.cell? ⟨b, 0, none⟩ = some (.slice a l c) ∧ Hid (HX w b b2 a l c zs a2 l2 c2 zs2 W) := ⟨h.1, h.2, h2.2⟩
theorem HX.alloc (h : W.cell? ⟨b, 0, none⟩ = some (.slice a l c) ∧ Hid (HX w b b2 a l c zs a2 l2 c2 zs2 W)) (o : Obj) : (W.alloc o).cell? ⟨b, 0, none⟩ = some (.slice a l c) ∧ Hid (HX w b b2 a l c zs a2 l2 c2 zs2 (W.alloc o)) := hymk (HV.alloc (hy1 h) o) (HV.alloc (hy2 h) o)
theorem HX.call (hb : Below W.heap.size W W') (h : W.cell? ⟨b, 0, none⟩ = some (.slice a l c) ∧ Hid (HX w b b2 a l c zs a2 l2 c2 zs2 W)) : W'.cell? ⟨b, 0, none⟩ = some (.slice a l c) ∧ Hid (HX w b b2 a l c zs a2 l2 c2 zs2 W') := hymk (HV.call hb (hy1 h)) (HV.call hb (hy2 h))
theorem HX.dr (h : W.cell? ⟨b, 0, none⟩ = some (.slice a l c) ∧ Hid (HX w b b2 a l c zs a2 l2 c2 zs2 W)) : W.drew.cell? ⟨b, 0, none⟩ = some (.slice a l c) ∧ Hid (HX w b b2 a l c zs a2 l2 c2 zs2 W.drew) := hymk (HV.dr (hy1 h)) (HV.dr (hy2 h))
theorem HX.stc {d : Nat} (h : W.cell? ⟨b, 0, none⟩ = some (.slice a l c) ∧ Hid (HX w b b2 a l c zs a2 l2 c2 zs2 W)) (hd : ∃ x y z, W.cell? ⟨d, 0, none⟩ = some (.slice x y z)) (h1 : b ≠ d) (h1' : b2 ≠ d) (h2 : w.heap.size ≤ d) (v : Value) : (W.setCell ⟨d, 0, none⟩ v).cell? ⟨b, 0, none⟩ = some (.slice a l c) ∧ Hid (HX w b b2 a l c zs a2 l2 c2 zs2 (W.setCell ⟨d, 0, none⟩ v)) := hymk (HV.stc (hy1 h) hd h1 h2 v) (HV.stc (hy2 h) hd h1' h2 v)
theorem HX.nt (h : W.cell? ⟨b, 0, none⟩ = some (.slice a l c) ∧ Hid (HX w b b2 a l c zs a2 l2 c2 zs2 W)) : Nt W a l c zs := HV.nt (hy1 h)
end
theorem pow_pw {x : Int} {l : Nat} (x0 : 0 ≤ x) (hx : x < pw l) : ∀ k : Nat, x ^ (k + 1) < pw (l * (k + 1))
  | 0 => by
    rw [Int.pow_succ, Int.pow_zero, Int.one_mul, Nat.mul_one]
    exact hx
  | k + 1 => by
    rw [Int.pow_succ, Nat.mul_succ]
    exact fits_mul (Int.pow_nonneg x0) (pow_pw x0 hx k) hx
theorem pow_len {x : Int} {l k : Nat} (x0 : 0 ≤ x) (hx : x < pw l) (hb : Big (x ^ k)) : 4096 < l * k := by
  rcases Nat.lt_or_ge 4096 (l * k) with h | h
  · exact h
  · exfalso
    have h1 := hb.ge
    cases k with
    | zero =>
      have h2 : pw 1 ≤ pw 4096 := pw_mono (by decide)
      have h3 : pw 1 = 18446744073709551616 := by decide
      rw [Int.pow_zero] at h1
      omega
    | succ k => have := fits_to (pow_pw x0 hx k) h; omega
theorem pow_part {x : Int} {i j : Nat} (x0 : 0 ≤ x) (hf : x ^ (i + j) < pw 4096) : ¬ Big (x ^ i) := by
  intro hb
  have h1 := hb.ge
  have h2 : pw 1 ≤ pw 4096 := pw_mono (by decide)
  have h3 : pw 1 = 18446744073709551616 := by decide
  rcases Int.lt_or_le 0 x with h | h
  · have p1 : 0 < x ^ i := Int.pow_pos h
    have p2 : 0 < x ^ j := Int.pow_pos h
    rw [Int.pow_add] at hf
    have : x ^ i * 1 ≤ x ^ i * x ^ j := Int.mul_le_mul_of_nonneg_left (by omega) (by omega)
    omega
  · obtain rfl : x = 0 := by omega
    cases i with
    | zero => rw [Int.pow_zero] at h1; omega
    | succ i => rw [Int.pow_succ, Int.mul_zero] at h1; omega
theorem cmp3_le {x y : Int} (h : x ≤ y) : cmp3 x y ≤ 0 := by
  rcases Int.lt_or_eq_of_le h with h | h
  · rw [cmp3_lt h]; decide
  · rw [cmp3_eq h]; decide
theorem pow_tot (a : Option Addr) (la ca : Nat) (xs : List Int) (t : Int) (n : Nat) (w : World) (ha : Nt w a la ca xs) (ht : t = n) (hn : n ≤ 9223372036854775807) :
    Calls Try.prog 21 #[.agg #[.slice a la ca], .int .i64 t] w fun e w' =>
      ∃ a' l' c' zs ee, e = .returned (.tuple #[.agg #[.slice a' l' c'], .int .i64 ee]) ∧ Nt w' a' l' c' zs ∧ Hid ((ee = 0 ∧ num zs = num xs ^ n) ∨ (ee = 3 ∧ Big (num xs ^ n) ∧ l' = 0)) ∧ Below w.heap.size w w' := by
  subst ht
  refine (pow_any a la ca xs n w ha hn).mono ?_
  rintro e w' (⟨a', l', c', zs, rfl, h1, h2, h3⟩ | ⟨rfl, h1, h2⟩)
  · exact ⟨_, _, _, zs, _, rfl, h1, .inl ⟨rfl, h2⟩, h3⟩
  · exact ⟨_, _, _, [], _, rfl, Nt.nil _, .inr ⟨rfl, h1, rfl⟩, h2⟩

set_option maxRecDepth 20000 in
set_option maxHeartbeats 4000000 in
theorem walk_a (a0 : Option Addr) (len0 cap0 : Nat) (z0 : List Int) (m n : Int) (w : World) (s0 : Sl w a0 len0 z0) (c0 : len0 ≤ cap0) (r0 : cap0 ≤ 17592186043904) (u0 : 4096 < usedN z0) :
    Calls Try.prog 5 #[.slice a0 len0 cap0, .int .i64 m, .int .i64 n] w fun e w' => e = .returned (.bool true) ∧ Below w.heap.size w w' := by
  have B0 : Below w.heap.size w w := Below.refl _ _
  go_enter Try.func5, Try.ntmps5
  go_wp2_with fail
  refine (nawake_any w).mono ?_
  rintro e x1 ⟨rfl, hb⟩
  replace s0 := s0.below hb (Nat.le_refl _)
  replace B0 := step B0 hb
  clear hb
  go_wp2_with fail
  refine (rlong_yes a0 len0 cap0 z0 x1 s0 (by omega) u0).mono ?_
  rintro e x2 ⟨rfl, hb⟩
  replace s0 := s0.below hb (Nat.le_refl _)
  replace B0 := step B0 hb
  clear hb
  go_wp2_with fail
  go_ret
  exact ⟨rfl, B0⟩

set_option maxRecDepth 20000 in
set_option maxHeartbeats 4000000 in
theorem walk_b (a0 : Option Addr) (len0 cap0 : Nat) (z0 : List Int) (m n : Int) (w : World) (s0 : Sl w a0 len0 z0) (c0 : len0 ≤ cap0) (r0 : cap0 ≤ 17592186043904) (u0 : usedN z0 ≤ 4096) (hl : 2000 < len0 ∨ m < 0 ∨ n < 0 ∨ 40 < m ∨ 40 < n) :
    Calls Try.prog 5 #[.slice a0 len0 cap0, .int .i64 m, .int .i64 n] w fun e w' => e = .returned (.bool true) ∧ Below w.heap.size w w' := by
  have B0 : Below w.heap.size w w := Below.refl _ _
  go_enter Try.func5, Try.ntmps5
  go_wp2_with fail
  refine (nawake_any w).mono ?_
  rintro e x1 ⟨rfl, hb⟩
  replace s0 := s0.below hb (Nat.le_refl _)
  replace B0 := step B0 hb
  clear hb
  go_wp2_with fail
  refine (rlong_no a0 len0 cap0 z0 x1 s0 (by omega) u0).mono ?_
  rintro e x2 ⟨rfl, hb⟩
  replace s0 := s0.below hb (Nat.le_refl _)
  replace B0 := step B0 hb
  clear hb
  go_wp2_with fail
  all_goals first | (go_ret; exact ⟨rfl, B0⟩) | (exfalso; omega)

set_option maxRecDepth 20000 in
set_option maxHeartbeats 4000000 in
theorem walk_c (a0 : Option Addr) (len0 cap0 : Nat) (z0 : List Int) (m n : Int) (w : World) (s0 : Sl w a0 len0 z0) (c0 : len0 ≤ cap0) (r0 : cap0 ≤ 17592186043904) (e0 : a0 = none → len0 = 0 ∧ cap0 = 0) (u0 : usedN z0 ≤ 4096) (hl : len0 ≤ 2000) (m0 : 0 ≤ m) (n0 : 0 ≤ n) (m1 : m ≤ 40) (n1 : n ≤ 40) :
    Calls Try.prog 5 #[.slice a0 len0 cap0, .int .i64 m, .int .i64 n] w fun e w' => e = .returned (.bool true) ∧ Below w.heap.size w w' := by
  have B0 : Below w.heap.size w w := Below.refl _ _
  go_enter Try.func5, Try.ntmps5
  go_wp2_with fail
  refine (nawake_any w).mono ?_
  rintro e x1 ⟨rfl, hb⟩
  replace s0 := s0.below hb (Nat.le_refl _)
  replace B0 := step B0 hb
  clear hb
  go_wp2_with fail
  obtain ⟨i, rfl⟩ := Int.eq_ofNat_of_zero_le m0
  obtain ⟨j, rfl⟩ := Int.eq_ofNat_of_zero_le n0
  refine (rlong_no a0 len0 cap0 z0 x1 s0 (by omega) u0).mono ?_
  rintro e x2 ⟨rfl, hb⟩
  replace s0 := s0.below hb (Nat.le_refl _)
  replace B0 := step B0 hb
  clear hb
  go_wp2_with fail
  refine (oflaw_ok a0 len0 cap0 z0 x2 s0 e0 (by omega) c0 u0).mono ?_
  rintro e x3 ⟨ax, lx, kx, zx, rfl, hx, nx, hb⟩
  replace s0 := s0.below hb (Nat.le_refl _)
  replace B0 := step B0 hb
  clear hb
  go_wp2_with fail
  refine ent1 x3 _ _ (Q := fun W => Calls Try.prog _ _ W _) ?_
  intro x4 hb hs_x4 Vx
  replace hx := Nt.after hb hx
  replace s0 := s0.below hb (Nat.le_refl _)
  replace B0 := step B0 hb
  clear hb hs_x4
  refine (root_any ax lx kx zx x4 hx).mono ?_
  rintro e x5 ⟨ar, lr, kr, zr, rfl, hr, ir, hb⟩
  replace Vx := Va.after hb Vx
  replace hx := Nt.after hb hx
  replace s0 := s0.below hb (Nat.le_refl _)
  replace B0 := step B0 hb
  clear hb
  have c_Vx := Vx.cell
  have f_Vx := Vx.frozen 0
  have l_Vx := Vx.lt
  have m_Vx := Nat.le_of_lt l_Vx
  go_wp2_with fail
  refine ent1 x5 _ _ (Q := fun W => Code.wp Try.prog _ _ _ W) ?_
  intro x6 hb hs_x6 Vr
  replace Vx := Va.after hb Vx
  replace hx := Nt.after hb hx
  replace hr := Nt.after hb hr
  replace s0 := s0.below hb (Nat.le_refl _)
  replace B0 := step B0 hb
  clear hb hs_x6
  have fx := fits_len (n := 2000) s0 (by omega)
  rw [← nx] at fx
  obtain ⟨t, ht⟩ : ∃ t, t = 2000 := ⟨_, rfl⟩
  rw [← ht] at fx
  have xx0 := hx.nonneg
  have rr0 := hr.nonneg
  have hrx := le_sq rr0 ir.2.1
  have f1 : num zr + 1 < pw (t + 1) := by
    have := pw_pos t
    show _ < 18446744073709551616 * pw t
    omega
  have f2 := fits_mul (by omega) f1 f1
  have T1 : t + 1 ≤ 4096 := by omega
  have T2 : t + 1 + (t + 1) ≤ 4096 := by omega
  have f3 := fits_to f1 T1
  have HF2 : Hid ((num zr + 1) * (num zr + 1) < pw 4096) := fits_to f2 T2
  have HFX : Hid (num zx < pw 4096) := fits_to fx (by omega)
  have HIR : Hid (IsRoot (num zx) (num zr)) := ir
  have HNX : Hid (num zx = num z0) := nx
  have HSZ : Hid (num z0 < pw len0) := fits_len s0 (Nat.le_refl _)
  clear f1 f2 fx ir hrx ht T1 T2 s0 e0 nx
  have V1 := Vr
  have hI := HX.dr (hymk (HV.mk' Vr hr B0) (HV.mk' Vx hx B0))
  have hI0 := hymk (HV.mk' Vr hr B0) (HV.mk' Vx hx B0)
  have hx56 : x5.heap.size < x6.heap.size := Vr.lt
  have hx36 : x3.heap.size < x6.heap.size := Vx.lt
  have hw6 : w.heap.size ≤ x6.heap.size := B0.size
  go_cut [10, 11] (fun s10 s11 wx => ∃ (bm : Nat) (am : Option Addr) (lm km : Nat) (zm : List Int), s10 = .pointer (some ⟨bm, 0, none⟩) ∧ s11 = .int .i64 0 ∧ Hid (Rd wx bm (.slice am lm km)) ∧ Hid (Nt wx am lm km zm) ∧ Hid (num zm = num zr + 1) ∧ Hid (HX w x5.heap.size x3.heap.size ar lr kr zr ax lx kx zx wx))
  case first =>
    go_region_held3 (fun W => W.cell? ⟨x5.heap.size, 0, none⟩ = some (.slice ar lr kr) ∧ Hid (HX w x5.heap.size x3.heap.size ar lr kr zr ax lx kx zx W))
      (first | assumption | exact HX.call (by assumption) (by assumption) | (repeat (first | assumption | refine HX.alloc ?_ _ | refine HX.dr ?_ | refine HX.stc ?_ ?_ (by omega) (by omega) (by omega) _ | (simp [*, go_sem]; done))))
      (first
        | (go_at_call 20; refine (small_any 1 ⟨by decide, by decide⟩ _).mono ?_; rintro e y1 ⟨a7, l7, k7, z7, rfl, h7, n7, b7⟩; have hY := HX.call (w := w) (b := x5.heap.size) (b2 := x3.heap.size) (a := ar) (l := lr) (c := kr) (zs := zr) (a2 := ax) (l2 := lx) (c2 := kx) (zs2 := zx) b7 (by assumption); have qb7 := fun k hk => b7.cell (p := ⟨k, 0, none⟩) hk; have ub7 := fun k hk => b7.frozen (p := ⟨k, 0, none⟩) hk; have sb7 := b7.size; (try simp at sb7); (try (have zx6_y1_0 : x6.heap.size < y1.heap.size := by omega)); (try (have zx6_y1_1 : x6.heap.size ≤ y1.heap.size := by omega)); (try (have zx6_y1_2 : x6.heap.size ≠ y1.heap.size := by omega)); (try (have cA0 : y1.cell? ⟨x6.heap.size, 0, none⟩ = some (.slice none 0 0) := by (first | (rw [b7.cell (p := ⟨x6.heap.size, 0, none⟩) (by first | assumption | (simp; done) | (simp; omega))]; first | assumption | (simp [go_sem]; done) | (simp [*, go_sem]; done))))); (try (have fA0 : y1.frozen? ⟨x6.heap.size, 0, none⟩ = false := by (first | (rw [b7.frozen (p := ⟨x6.heap.size, 0, none⟩) (by first | assumption | (simp; done) | (simp; omega))]; first | assumption | (simp [go_sem]; done) | (simp [*, go_sem]; done))))))
        | (go_at_call 15; refine (nadd_ok ar a7 lr kr l7 k7 zr z7 _ (HX.nt (w := w) (b := x5.heap.size) (b2 := x3.heap.size) (a := ar) (l := lr) (c := kr) (zs := zr) (a2 := ax) (l2 := lx) (c2 := kx) (zs2 := zx) (by assumption)) (by first | exact h7 | exact h7.al _ | exact (h7.al _).al _) (by rw [n7]; exact f3)).mono ?_; rintro e y2 ⟨am, lm, km, zm, rfl, hm, nm, b8⟩; rw [n7] at nm; have hX := HX.call (w := w) (b := x5.heap.size) (b2 := x3.heap.size) (a := ar) (l := lr) (c := kr) (zs := zr) (a2 := ax) (l2 := lx) (c2 := kx) (zs2 := zx) b8 (by assumption); have qb8 := fun k hk => b8.cell (p := ⟨k, 0, none⟩) hk; have ub8 := fun k hk => b8.frozen (p := ⟨k, 0, none⟩) hk; have sb8 := b8.size; (try simp at sb8); (try (have zy1_y2_0 : y1.heap.size < y2.heap.size := by omega)); (try (have zy1_y2_1 : y1.heap.size ≤ y2.heap.size := by omega)); (try (have zy1_y2_2 : y1.heap.size ≠ y2.heap.size := by omega)); (try (have zx6_y2_0 : x6.heap.size < y2.heap.size := by omega)); (try (have zx6_y2_1 : x6.heap.size ≤ y2.heap.size := by omega)); (try (have zx6_y2_2 : x6.heap.size ≠ y2.heap.size := by omega)); (try (have cB0 : y2.cell? ⟨x6.heap.size, 0, none⟩ = some (.slice none 0 0) := by (first | (rw [b8.cell (p := ⟨x6.heap.size, 0, none⟩) (by first | assumption | (simp; done) | (simp; omega))]; first | assumption | (simp [go_sem]; done) | (simp [*, go_sem]; done))))); (try (have fB0 : y2.frozen? ⟨x6.heap.size, 0, none⟩ = false := by (first | (rw [b8.frozen (p := ⟨x6.heap.size, 0, none⟩) (by first | assumption | (simp; done) | (simp; omega))]; first | assumption | (simp [go_sem]; done) | (simp [*, go_sem]; done))))); (try (have cB2 : y2.cell? ⟨y1.heap.size, 0, none⟩ = some (.slice none 0 0) := by (first | (rw [b8.cell (p := ⟨y1.heap.size, 0, none⟩) (by first | assumption | (simp; done) | (simp; omega))]; first | assumption | (simp [go_sem]; done) | (simp [*, go_sem]; done))))); (try (have fB2 : y2.frozen? ⟨y1.heap.size, 0, none⟩ = false := by (first | (rw [b8.frozen (p := ⟨y1.heap.size, 0, none⟩) (by first | assumption | (simp; done) | (simp; omega))]; first | assumption | (simp [go_sem]; done) | (simp [*, go_sem]; done)))))))
    all_goals
      go_wp2_with fail
      go_meet
      refine ⟨_, am, lm, km, zm, rfl, rfl, ?_, ?_, nm, And.right (by assumption)⟩
      · show World.cell? _ _ = _
        simp [*, go_sem]
      · show Nt _ _ _ _ _
        repeat (first | assumption | refine Nt.al ?_ _ | refine Nt.stc (x := none) (y := 0) (z := 0) ?_ ?_ _ | (simp [*, go_sem]; done))
  case rest =>
    obtain ⟨bm, am, lm, km, zm, rfl, rfl, Rm, hm, nm, hH⟩ := hcut
    clear V1 Vr Vx hr hx B0 hI hI0 hx56 hx36 hw6
    obtain ⟨⟨Vr, hr, B0⟩, Vx, hx, -⟩ := hH
    replace Rm : Rd wc bm (.slice am lm km) := Rm
    replace hm : Nt wc am lm km zm := hm
    replace nm : num zm = num zr + 1 := nm
    have c_Vx := Vx.cell
    have f_Vx := Vx.frozen 0
    have l_Vx := Vx.lt
    have m_Vx := Nat.le_of_lt l_Vx
    have c_Vr := Vr.cell
    have f_Vr := Vr.frozen 0
    have l_Vr := Vr.lt
    have m_Vr := Nat.le_of_lt l_Vr
    have c_Rm : World.cell? _ _ = some _ := Rm
    have l_Rm := Rm.lt
    have m_Rm := Nat.le_of_lt l_Rm
    go_wp2_with fail
    obtain ⟨ir0, ir1, ir2⟩ := HIR.out
    refine (nmul_ok ar ar lr kr lr kr zr zr wc hr hr (Int.lt_of_le_of_lt ir1 HFX.out)).mono ?_
    rintro e x21 ⟨al, ll, kl, zl, rfl, hl, nl, hb⟩
    replace Vx := Va.after hb Vx
    replace Vr := Va.after hb Vr
    replace Rm := Rd.after hb Rm
    replace hx := Nt.after hb hx
    replace hr := Nt.after hb hr
    replace hm := Nt.after hb hm
    replace B0 := step B0 hb
    clear hb
    clear c_Vx f_Vx l_Vx m_Vx c_Vr f_Vr l_Vr m_Vr c_Rm l_Rm m_Rm
    have c_Vx := Vx.cell
    have f_Vx := Vx.frozen 0
    have l_Vx := Vx.lt
    have m_Vx := Nat.le_of_lt l_Vx
    have c_Vr := Vr.cell
    have f_Vr := Vr.frozen 0
    have l_Vr := Vr.lt
    have m_Vr := Nat.le_of_lt l_Vr
    have c_Rm : World.cell? _ _ = some _ := Rm
    have l_Rm := Rm.lt
    have m_Rm := Nat.le_of_lt l_Rm
    go_wp2_with fail
    refine ent1 x21 _ _ (Q := fun W => Calls Try.prog _ _ W _) ?_
    intro x22 hb hs_x22 Vl
    replace Vx := Va.after hb Vx
    replace Vr := Va.after hb Vr
    replace Rm := Rd.after hb Rm
    replace hx := Nt.after hb hx
    replace hr := Nt.after hb hr
    replace hm := Nt.after hb hm
    replace hl := Nt.after hb hl
    replace B0 := step B0 hb
    clear hb hs_x22
    refine (nmul_ok am am lm km lm km zm zm x22 hm hm (by rw [nm]; exact HF2.out)).mono ?_
    rintro e x23 ⟨ah, lh, kh, zh, rfl, hh, nh, hb⟩
    replace Vx := Va.after hb Vx
    replace Vr := Va.after hb Vr
    replace Vl := Va.after hb Vl
    replace Rm := Rd.after hb Rm
    replace hx := Nt.after hb hx
    replace hr := Nt.after hb hr
    replace hm := Nt.after hb hm
    replace hl := Nt.after hb hl
    replace B0 := step B0 hb
    clear hb
    rw [nm] at nh
    clear c_Vx f_Vx l_Vx m_Vx c_Vr f_Vr l_Vr m_Vr c_Rm l_Rm m_Rm
    have c_Vx := Vx.cell
    have f_Vx := Vx.frozen 0
    have l_Vx := Vx.lt
    have m_Vx := Nat.le_of_lt l_Vx
    have c_Vr := Vr.cell
    have f_Vr := Vr.frozen 0
    have l_Vr := Vr.lt
    have m_Vr := Nat.le_of_lt l_Vr
    have c_Vl := Vl.cell
    have f_Vl := Vl.frozen 0
    have l_Vl := Vl.lt
    have m_Vl := Nat.le_of_lt l_Vl
    have c_Rm : World.cell? _ _ = some _ := Rm
    have l_Rm := Rm.lt
    have m_Rm := Nat.le_of_lt l_Rm
    go_wp2_with fail
    refine ent1 x23 _ _ (Q := fun W => Calls Try.prog _ _ W _) ?_
    intro x24 hb hs_x24 Vh
    replace Vx := Va.after hb Vx
    replace Vr := Va.after hb Vr
    replace Vl := Va.after hb Vl
    replace Rm := Rd.after hb Rm
    replace hx := Nt.after hb hx
    replace hr := Nt.after hb hr
    replace hm := Nt.after hb hm
    replace hl := Nt.after hb hl
    replace hh := Nt.after hb hh
    replace B0 := step B0 hb
    clear hb hs_x24
    refine (ncompare_any al ax ll kl lx kx zl zx x24 hl hx).mono ?_
    rintro e x25 ⟨rfl, hb⟩
    replace Vx := Va.after hb Vx
    replace Vr := Va.after hb Vr
    replace Vl := Va.after hb Vl
    replace Vh := Va.after hb Vh
    replace Rm := Rd.after hb Rm
    replace hx := Nt.after hb hx
    replace hr := Nt.after hb hr
    replace hm := Nt.after hb hm
    replace hl := Nt.after hb hl
    replace hh := Nt.after hb hh
    replace B0 := step B0 hb
    clear hb
    obtain ⟨v1, hv1, hv1'⟩ : ∃ v, cmp3 (num zl) (num zx) = v ∧ v ≤ 0 := ⟨_, rfl, cmp3_le (by rw [nl]; exact ir1)⟩
    rw [hv1]
    clear hv1
    clear c_Vx f_Vx l_Vx m_Vx c_Vr f_Vr l_Vr m_Vr c_Vl f_Vl l_Vl m_Vl c_Rm l_Rm m_Rm
    have c_Vx := Vx.cell
    have f_Vx := Vx.frozen 0
    have l_Vx := Vx.lt
    have m_Vx := Nat.le_of_lt l_Vx
    have c_Vr := Vr.cell
    have f_Vr := Vr.frozen 0
    have l_Vr := Vr.lt
    have m_Vr := Nat.le_of_lt l_Vr
    have c_Vl := Vl.cell
    have f_Vl := Vl.frozen 0
    have l_Vl := Vl.lt
    have m_Vl := Nat.le_of_lt l_Vl
    have c_Vh := Vh.cell
    have f_Vh := Vh.frozen 0
    have l_Vh := Vh.lt
    have m_Vh := Nat.le_of_lt l_Vh
    have c_Rm : World.cell? _ _ = some _ := Rm
    have l_Rm := Rm.lt
    have m_Rm := Nat.le_of_lt l_Rm
    go_wp2_with fail
    refine (ncompare_any ah ax lh kh lx kx zh zx x25 hh hx).mono ?_
    rintro e x26 ⟨rfl, hb⟩
    replace Vx := Va.after hb Vx
    replace Vr := Va.after hb Vr
    replace Vl := Va.after hb Vl
    replace Vh := Va.after hb Vh
    replace Rm := Rd.after hb Rm
    replace hx := Nt.after hb hx
    replace hr := Nt.after hb hr
    replace hm := Nt.after hb hm
    replace hl := Nt.after hb hl
    replace hh := Nt.after hb hh
    replace B0 := step B0 hb
    clear hb
    rw [cmp3_gt (show num zx < num zh by rw [nh]; exact ir2)]
    clear nl nh nm ir0 ir1 ir2 f3 hl hh hm
    clear c_Vx f_Vx l_Vx m_Vx c_Vr f_Vr l_Vr m_Vr c_Vl f_Vl l_Vl m_Vl c_Vh f_Vh l_Vh m_Vh c_Rm l_Rm m_Rm
    have c_Vx := Vx.cell
    have f_Vx := Vx.frozen 0
    have l_Vx := Vx.lt
    have m_Vx := Nat.le_of_lt l_Vx
    have c_Vr := Vr.cell
    have f_Vr := Vr.frozen 0
    have l_Vr := Vr.lt
    have m_Vr := Nat.le_of_lt l_Vr
    have c_Vl := Vl.cell
    have f_Vl := Vl.frozen 0
    have l_Vl := Vl.lt
    have m_Vl := Nat.le_of_lt l_Vl
    have c_Vh := Vh.cell
    have f_Vh := Vh.frozen 0
    have l_Vh := Vh.lt
    have m_Vh := Nat.le_of_lt l_Vh
    have c_Rm : World.cell? _ _ = some _ := Rm
    have l_Rm := Rm.lt
    have m_Rm := Nat.le_of_lt l_Rm
    clear Vl Vh Rm hr Vr xx0 rr0 HF2 HIR HFX
    set_option maxRecDepth 60000 in go_wp2_with fail
    refine (pow_tot ax lx kx zx i i x26 hx rfl (by omega)).mono ?_
    rintro e x27 ⟨ap, lp, kp, zp, ep, rfl, hp, np, hb⟩
    replace Vx := Va.after hb Vx
    replace hx := Nt.after hb hx
    replace B0 := step B0 hb
    clear hb
    clear c_Vx f_Vx l_Vx m_Vx
    have c_Vx := Vx.cell
    have f_Vx := Vx.frozen 0
    have l_Vx := Vx.lt
    have m_Vx := Nat.le_of_lt l_Vx
    go_wp2_with fail
    refine ent1 x27 _ _ (Q := fun W => Calls Try.prog _ _ W _) ?_
    intro x28 hb hs_x28 Vp
    replace Vx := Va.after hb Vx
    replace hx := Nt.after hb hx
    replace hp := Nt.after hb hp
    replace B0 := step B0 hb
    clear hb hs_x28
    refine (pow_tot ax lx kx zx j j x28 hx rfl (by omega)).mono ?_
    rintro e x29 ⟨aq, lq, kq, zq, eq, rfl, hq, nq, hb⟩
    replace Vx := Va.after hb Vx
    replace Vp := Va.after hb Vp
    replace hx := Nt.after hb hx
    replace hp := Nt.after hb hp
    replace B0 := step B0 hb
    clear hb
    clear c_Vx f_Vx l_Vx m_Vx
    have c_Vx := Vx.cell
    have f_Vx := Vx.frozen 0
    have l_Vx := Vx.lt
    have m_Vx := Nat.le_of_lt l_Vx
    have c_Vp := Vp.cell
    have f_Vp := Vp.frozen 0
    have l_Vp := Vp.lt
    have m_Vp := Nat.le_of_lt l_Vp
    go_wp2_with fail
    refine ent1 x29 _ _ (Q := fun W => Calls Try.prog _ _ W _) ?_
    intro x30 hb hs_x30 Vq
    replace Vx := Va.after hb Vx
    replace Vp := Va.after hb Vp
    replace hx := Nt.after hb hx
    replace hp := Nt.after hb hp
    replace hq := Nt.after hb hq
    replace B0 := step B0 hb
    clear hb hs_x30
    refine (pow_tot ax lx kx zx (i + j) (i + j) x30 hx (by omega) (by omega)).mono ?_
    rintro e x31 ⟨ab, lb, kb, zb, eb, rfl, hb1, nb, hb⟩
    replace Vx := Va.after hb Vx
    replace Vp := Va.after hb Vp
    replace Vq := Va.after hb Vq
    replace hx := Nt.after hb hx
    replace hp := Nt.after hb hp
    replace hq := Nt.after hb hq
    replace B0 := step B0 hb
    clear hb
    have xx0 := hx.nonneg
    rcases nb.out with ⟨rfl, nb1⟩ | ⟨rfl, big, rfl⟩
    ·
      have hF : num zx ^ (i + j) < pw 4096 := by rw [← nb1]; exact hb1.lt
      obtain ⟨rfl, np1⟩ : ep = 0 ∧ num zp = num zx ^ i := by
        rcases np.out with h | h
        · exact h
        · exact absurd h.2.1 (pow_part xx0 hF)
      obtain ⟨rfl, nq1⟩ : eq = 0 ∧ num zq = num zx ^ j := by
        rcases nq.out with h | h
        · exact h
        · exact absurd h.2.1 (pow_part (j := i) xx0 (by rw [Nat.add_comm]; exact hF))
      have HFF : Hid (num zx ^ (i + j) < pw 4096) := hF
      have HP : Hid (num zp = num zx ^ i) := np1
      have HQ : Hid (num zq = num zx ^ j) := nq1
      have HB : Hid (num zb = num zx ^ (i + j)) := nb1
      clear hF np1 nq1 nb1 np nq nb
      clear c_Vx f_Vx l_Vx m_Vx c_Vp f_Vp l_Vp m_Vp
      have c_Vx := Vx.cell
      have f_Vx := Vx.frozen 0
      have l_Vx := Vx.lt
      have m_Vx := Nat.le_of_lt l_Vx
      have c_Vp := Vp.cell
      have f_Vp := Vp.frozen 0
      have l_Vp := Vp.lt
      have m_Vp := Nat.le_of_lt l_Vp
      have c_Vq := Vq.cell
      have f_Vq := Vq.frozen 0
      have l_Vq := Vq.lt
      have m_Vq := Nat.le_of_lt l_Vq
      go_wp2_with fail
      refine ent1 x31 _ _ (Q := fun W => Calls Try.prog _ _ W _) ?_
      intro x32 hb hs_x32 Vb
      replace Vx := Va.after hb Vx
      replace Vp := Va.after hb Vp
      replace Vq := Va.after hb Vq
      replace hx := Nt.after hb hx
      replace hp := Nt.after hb hp
      replace hq := Nt.after hb hq
      replace hb1 := Nt.after hb hb1
      replace B0 := step B0 hb
      clear hb hs_x32
      refine (nmul_ok ap aq lp kp lq kq zp zq x32 hp hq (by rw [HP.out, HQ.out, ← Int.pow_add]; exact HFF.out)).mono ?_
      rintro e x33 ⟨am2, lm2, km2, zm2, rfl, hm2, nm2, hb⟩
      replace Vx := Va.after hb Vx
      replace Vp := Va.after hb Vp
      replace Vq := Va.after hb Vq
      replace Vb := Va.after hb Vb
      replace hx := Nt.after hb hx
      replace hp := Nt.after hb hp
      replace hq := Nt.after hb hq
      replace hb1 := Nt.after hb hb1
      replace B0 := step B0 hb
      clear hb
      have HM : Hid (num zm2 = num zp * num zq) := nm2
      clear nm2
      clear c_Vx f_Vx l_Vx m_Vx c_Vp f_Vp l_Vp m_Vp c_Vq f_Vq l_Vq m_Vq
      have c_Vx := Vx.cell
      have f_Vx := Vx.frozen 0
      have l_Vx := Vx.lt
      have m_Vx := Nat.le_of_lt l_Vx
      have c_Vp := Vp.cell
      have f_Vp := Vp.frozen 0
      have l_Vp := Vp.lt
      have m_Vp := Nat.le_of_lt l_Vp
      have c_Vq := Vq.cell
      have f_Vq := Vq.frozen 0
      have l_Vq := Vq.lt
      have m_Vq := Nat.le_of_lt l_Vq
      have c_Vb := Vb.cell
      have f_Vb := Vb.frozen 0
      have l_Vb := Vb.lt
      have m_Vb := Nat.le_of_lt l_Vb
      go_wp2_with fail
      refine ent1 x33 _ _ (Q := fun W => Calls Try.prog _ _ W _) ?_
      intro x34 hb hs_x34 Vm2
      replace Vx := Va.after hb Vx
      replace Vp := Va.after hb Vp
      replace Vq := Va.after hb Vq
      replace Vb := Va.after hb Vb
      replace hx := Nt.after hb hx
      replace hp := Nt.after hb hp
      replace hq := Nt.after hb hq
      replace hb1 := Nt.after hb hb1
      replace hm2 := Nt.after hb hm2
      replace B0 := step B0 hb
      clear hb hs_x34
      refine (ncompare_any am2 ab lm2 km2 lb kb zm2 zb x34 hm2 hb1).mono ?_
      rintro e x35 ⟨rfl, hb⟩
      replace Vx := Va.after hb Vx
      replace Vp := Va.after hb Vp
      replace Vq := Va.after hb Vq
      replace Vb := Va.after hb Vb
      replace Vm2 := Va.after hb Vm2
      replace hx := Nt.after hb hx
      replace hp := Nt.after hb hp
      replace hq := Nt.after hb hq
      replace hb1 := Nt.after hb hb1
      replace hm2 := Nt.after hb hm2
      replace B0 := step B0 hb
      clear hb
      rw [cmp3_eq (show num zm2 = num zb by rw [HM.out, HP.out, HQ.out, HB.out, Int.pow_add])]
      clear c_Vx f_Vx l_Vx m_Vx c_Vp f_Vp l_Vp m_Vp c_Vq f_Vq l_Vq m_Vq c_Vb f_Vb l_Vb m_Vb
      have c_Vx := Vx.cell
      have f_Vx := Vx.frozen 0
      have l_Vx := Vx.lt
      have m_Vx := Nat.le_of_lt l_Vx
      have c_Vp := Vp.cell
      have f_Vp := Vp.frozen 0
      have l_Vp := Vp.lt
      have m_Vp := Nat.le_of_lt l_Vp
      have c_Vq := Vq.cell
      have f_Vq := Vq.frozen 0
      have l_Vq := Vq.lt
      have m_Vq := Nat.le_of_lt l_Vq
      have c_Vb := Vb.cell
      have f_Vb := Vb.frozen 0
      have l_Vb := Vb.lt
      have m_Vb := Nat.le_of_lt l_Vb
      have c_Vm2 := Vm2.cell
      have f_Vm2 := Vm2.frozen 0
      have l_Vm2 := Vm2.lt
      have m_Vm2 := Nat.le_of_lt l_Vm2
      go_wp2_with fail
      go_ret
      exact ⟨rfl, B0⟩
    ·
      have hlen := pow_len (l := len0) xx0 (by rw [HNX.out]; exact HSZ.out) big
      have hub : len0 * (i + j) ≤ 2000 * 80 := Nat.mul_le_mul (by omega) (by omega)
      have e1 : ((len0 * (i + j) : Nat) : Int) = (len0 : Int) * (i + j) := by rw [Int.natCast_mul, Int.natCast_add]
      have hl1 : (4096 : Int) < (len0 : Int) * (i + j) := by rw [← e1]; clear e1 hub; generalize len0 * (i + j) = P at hlen ⊢; omega
      have hl2 : (len0 : Int) * (i + j) ≤ 160000 := by rw [← e1]; clear e1 hlen hl1; generalize len0 * (i + j) = P at hub ⊢; omega
      clear hlen hub big np nq nb e1
      clear c_Vx f_Vx l_Vx m_Vx c_Vp f_Vp l_Vp m_Vp
      have c_Vx := Vx.cell
      have f_Vx := Vx.frozen 0
      have l_Vx := Vx.lt
      have m_Vx := Nat.le_of_lt l_Vx
      have c_Vp := Vp.cell
      have f_Vp := Vp.frozen 0
      have l_Vp := Vp.lt
      have m_Vp := Nat.le_of_lt l_Vp
      have c_Vq := Vq.cell
      have f_Vq := Vq.frozen 0
      have l_Vq := Vq.lt
      have m_Vq := Nat.le_of_lt l_Vq
      go_wp2_with fail
      refine ent1 x31 _ _ (Q := fun W => Calls Try.prog _ _ W _) ?_
      intro x32 hb hs_x32 Vb
      replace Vx := Va.after hb Vx
      replace Vp := Va.after hb Vp
      replace Vq := Va.after hb Vq
      replace hx := Nt.after hb hx
      replace hp := Nt.after hb hp
      replace hq := Nt.after hb hq
      replace hb1 := Nt.after hb hb1
      replace B0 := step B0 hb
      clear hb hs_x32
      refine (isZero_any ab 0 kb x32).mono ?_
      rintro e x33 ⟨rfl, hb⟩
      replace Vx := Va.after hb Vx
      replace Vp := Va.after hb Vp
      replace Vq := Va.after hb Vq
      replace Vb := Va.after hb Vb
      replace hx := Nt.after hb hx
      replace hp := Nt.after hb hp
      replace hq := Nt.after hb hq
      replace hb1 := Nt.after hb hb1
      replace B0 := step B0 hb
      clear hb
      clear c_Vx f_Vx l_Vx m_Vx c_Vp f_Vp l_Vp m_Vp c_Vq f_Vq l_Vq m_Vq
      have c_Vx := Vx.cell
      have f_Vx := Vx.frozen 0
      have l_Vx := Vx.lt
      have m_Vx := Nat.le_of_lt l_Vx
      have c_Vp := Vp.cell
      have f_Vp := Vp.frozen 0
      have l_Vp := Vp.lt
      have m_Vp := Nat.le_of_lt l_Vp
      have c_Vq := Vq.cell
      have f_Vq := Vq.frozen 0
      have l_Vq := Vq.lt
      have m_Vq := Nat.le_of_lt l_Vq
      have c_Vb := Vb.cell
      have f_Vb := Vb.frozen 0
      have l_Vb := Vb.lt
      have m_Vb := Nat.le_of_lt l_Vb
      go_wp2_with fail
      go_ret
      exact ⟨rfl, B0⟩

theorem walk (a0 : Option Addr) (len0 cap0 : Nat) (z0 : List Int) (m n : Int) (w : World) (s0 : Sl w a0 len0 z0) (c0 : len0 ≤ cap0) (r0 : cap0 ≤ 17592186043904) (e0 : a0 = none → len0 = 0 ∧ cap0 = 0) {P Q : Prop} (p1 : P) (p2 : Q) :
    Calls Try.prog 5 #[.slice a0 len0 cap0, .int .i64 m, .int .i64 n] w fun e w' => e = .returned (.bool true) ∧ Below w.heap.size w w' := by
  by_cases h1 : 4096 < usedN z0
  · exact walk_a a0 len0 cap0 z0 m n w s0 c0 r0 h1
  · by_cases h2 : 2000 < len0 ∨ m < 0 ∨ n < 0 ∨ 40 < m ∨ 40 < n
    · exact walk_b a0 len0 cap0 z0 m n w s0 c0 r0 (by omega) h2
    · exact walk_c a0 len0 cap0 z0 m n w s0 c0 r0 e0 (by omega) (by omega) (by omega) (by omega) (by omega) (by omega)
end Go.Proofs.Ytahgegbajemagab.natRoots
