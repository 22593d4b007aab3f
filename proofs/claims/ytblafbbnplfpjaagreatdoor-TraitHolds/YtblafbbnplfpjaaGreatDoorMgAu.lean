import Derived.Test.YtblafbbnplfpjaaGreatDoorMgAa
import Derived.Test.YtblafbbnplfpjaaGreatDoorMgAt
import Derived.Test.YtblafbbnplfpjaaGreatDoorMgAs
import Derived.Test.YtblafbbnplfpjaaGreatDoorBsL
import Derived.Test.YtblafbbnplfpjaaGreatDoorMgAl
import Derived.Test.YtblafbbnplfpjaaGreatDoorMgAq
namespace Go.Proofs.YtblafbbnplfpjaaGreatDoor
open Go.RowKit Go.Shelf
set_option linter.unusedVariables false

theorem sign_mul_pos {x d : Int} (h : 0 < d) : Int.sign (x * d) = Int.sign x := by rw [Int.sign_mul, Int.sign_eq_one_of_pos h, Int.mul_one]
theorem cmp_signs {x y : Int} (h : Int.sign x ≠ Int.sign y) : cmp3 x y = if Int.sign x < Int.sign y then -1 else 1 := by
  rcases Int.lt_trichotomy x 0 with a | a | a <;> rcases Int.lt_trichotomy y 0 with b | b | b <;> (try subst a) <;> (try subst b) <;> (try rw [Int.sign_eq_neg_one_of_neg a]) <;> (try rw [Int.sign_eq_neg_one_of_neg b]) <;> (try rw [Int.sign_eq_one_of_pos a]) <;> (try rw [Int.sign_eq_one_of_pos b]) <;> (try simp only [Int.sign_zero]) <;> first | (rw [cmp3_lt (by omega)]; rfl) | (rw [cmp3_gt (by omega)]; rfl) | (exfalso; apply h; first | rfl | (rw [Int.sign_eq_neg_one_of_neg a, Int.sign_eq_neg_one_of_neg b]) | (rw [Int.sign_eq_one_of_pos a, Int.sign_eq_one_of_pos b]))
theorem qcmp_signs {u v : Rat} (h : Int.sign u.num ≠ Int.sign v.num) : qcmp u v = if Int.sign u.num < Int.sign v.num then -1 else 1 := by
  have h1 := u.den_pos
  have h2 := v.den_pos
  unfold qcmp
  rw [cmp_signs (by rw [sign_mul_pos (by omega), sign_mul_pos (by omega)]; exact h), sign_mul_pos (by omega), sign_mul_pos (by omega)]
theorem cmp3_anti (x y : Int) : cmp3 (-x) (-y) = - cmp3 x y := by
  rcases Int.lt_trichotomy x y with h | h | h
  · rw [cmp3_lt h, cmp3_gt (by omega)]; rfl
  · rw [cmp3_eq h, cmp3_eq (by omega)]; rfl
  · rw [cmp3_gt h, cmp3_lt (by omega)]
theorem cmp3_vals7 (x y : Int) : cmp3 x y = -1 ∨ cmp3 x y = 0 ∨ cmp3 x y = 1 := by unfold cmp3; grind
theorem qcmp_side {s1 s2 : Bool} {z1 z2 y1 y2 : List Int} {u v : Rat} (e1 : iv s1 z1 = u.num) (f1 : num y1 = u.den) (e2 : iv s2 z2 = v.num) (f2 : num y2 = v.den) (p1 : 0 ≤ num z1) (p2 : 0 ≤ num z2) (n1 : s1 = true → num z1 ≠ 0) (n2 : s2 = true → num z2 ≠ 0) (h : Int.sign u.num = Int.sign v.num) :
    qcmp u v = if Int.sign u.num < 0 then - cmp3 (num z1 * num y2) (num z2 * num y1) else cmp3 (num z1 * num y2) (num z2 * num y1) := by
  have sg : ∀ x : Int, 0 ≤ x → ¬ Int.sign x < 0 := fun x hx => by
    rcases Int.lt_trichotomy x 0 with a | a | a
    · omega
    · rw [a]; decide
    · rw [Int.sign_eq_one_of_pos a]; decide
  have key : (0 ≤ u.num ∧ u.num = num z1 ∧ v.num = num z2) ∨ (u.num < 0 ∧ u.num = - num z1 ∧ v.num = - num z2) := by
    cases s1
    · rw [iv_f] at e1
      cases s2
      · rw [iv_f] at e2; exact Or.inl ⟨by omega, e1.symm, e2.symm⟩
      · rw [iv_t] at e2
        have := n2 rfl
        have h3 := sg u.num (by omega)
        rw [h, Int.sign_eq_neg_one_of_neg (show v.num < 0 by omega)] at h3
        exact absurd (by decide) h3
    · rw [iv_t] at e1
      have := n1 rfl
      cases s2
      · rw [iv_f] at e2
        have h3 := sg v.num (by omega)
        rw [← h, Int.sign_eq_neg_one_of_neg (show u.num < 0 by omega)] at h3
        exact absurd (by decide) h3
      · rw [iv_t] at e2; exact Or.inr ⟨by omega, e1.symm, e2.symm⟩
  have e5 : qcmp u v = cmp3 (u.num * num y2) (v.num * num y1) := by unfold qcmp; rw [f1, f2]
  rw [e5]
  rcases key with ⟨k0, k1, k2⟩ | ⟨k0, k1, k2⟩
  · rw [if_neg (sg _ k0), k1, k2]
  · rw [if_pos (by rw [Int.sign_eq_neg_one_of_neg k0]; decide), k1, k2, Int.neg_mul, Int.neg_mul, cmp3_anti]

set_option maxHeartbeats 4000000 in
theorem rcompare7 (s1 : Bool) (a1 : Option Addr) (l1 c1 : Nat) (z1 : List Int) (b1 : Option Addr) (m1 d1 : Nat) (y1 : List Int) (u : Rat) (s2 : Bool) (a2 : Option Addr) (l2 c2 : Nat) (z2 : List Int) (b2 : Option Addr) (m2 d2 : Nat) (y2 : List Int) (v : Rat) (w : World) (h1 : Rr w s1 a1 l1 c1 z1 b1 m1 d1 y1 u) (h2 : Rr w s2 a2 l2 c2 z2 b2 m2 d2 y2 v) (t1 : Short u) (t2 : Short v) :
  Calls Tryz.prog 85 #[.agg #[.bool s1, .slice a1 l1 c1, .slice b1 m1 d1], .agg #[.bool s2, .slice a2 l2 c2, .slice b2 m2 d2]] w fun e w' => e = .returned (.int .i64 (qcmp u v)) ∧ Below w.heap.size w w' := by
 obtain ⟨u1, u2⟩ := h1.len t1; obtain ⟨u3, u4⟩ := h2.len t2; have HL : Hid (l1 ≤ 1024 ∧ m1 ≤ 1024 ∧ l2 ≤ 1024 ∧ m2 ≤ 1024) := ⟨u1, u2, u3, u4⟩; clear t1 t2 u1 u2 u3 u4; have HD : Hid (Int.sign u.num ≠ Int.sign v.num → qcmp u v = if Int.sign u.num < Int.sign v.num then -1 else 1) := qcmp_signs; have HE : Hid (Int.sign u.num = Int.sign v.num → qcmp u v = if Int.sign u.num < 0 then - cmp3 (num z1 * num y2) (num z2 * num y1) else cmp3 (num z1 * num y2) (num z2 * num y1)) := qcmp_side h1.2.2.2.2.2.1 h1.2.2.2.2.2.2.1 h2.2.2.2.2.2.1 h2.2.2.2.2.2.2.1 (num_nonneg h1.1.2.1) (num_nonneg h2.1.2.1) h1.2.2.2.2.2.2.2 h2.2.2.2.2.2.2.2; (obtain ⟨x, hx⟩ : ∃ x, Int.sign u.num = x := ⟨_, rfl⟩); (obtain ⟨y, hy⟩ : ∃ y, Int.sign v.num = y := ⟨_, rfl⟩); rw [hx, hy] at HD; rw [hx, hy] at HE; have EX : Hid (Int.sign u.num = x) := hx; have EY : Hid (Int.sign v.num = y) := hy; clear hx hy; have B0 : Below w.heap.size w w := Below.refl _ _
 go_enter Tryz.func85, Tryz.ntmps85
 (go_wp2_with fail); refine ent2 w _ _ _ _ (Q := fun W => Code.wp Tryz.prog _ _ _ W) ?_; intro x1 hb hs_x1 V0 V1; replace h1 := Rr.after hb h1; replace h2 := Rr.after hb h2; replace B0 := step B0 hb; clear hb hs_x1; refine wp_region_noPanic ?_; replace V0 : Va x1.drew _ _ _ := V0; replace V1 : Va x1.drew _ _ _ := V1; replace h1 := h1.drw; replace h2 := h2.drw; replace B0 := Below.drew B0; refine wp_region_held_drew (S := (fun W => W.cell? ⟨w.heap.size, 0, none⟩ = some (.bool s1) ∧ W.cell? ⟨w.heap.size, 1, none⟩ = some (.slice a1 l1 c1) ∧ W.cell? ⟨w.heap.size, 2, none⟩ = some (.slice b1 m1 d1) ∧ W.cell? ⟨w.heap.size + 1, 0, none⟩ = some (.bool s2) ∧ W.cell? ⟨w.heap.size + 1, 1, none⟩ = some (.slice a2 l2 c2) ∧ W.cell? ⟨w.heap.size + 1, 2, none⟩ = some (.slice b2 m2 d2))) (by kernel_rfl) ⟨V0.d0, V0.d1, V0.d2, V1.d0, V1.d1, V1.d2⟩ (fun hHeld => ?_); (obtain ⟨x2, hxd⟩ : ∃ xd, xd = x1.drew := ⟨_, rfl⟩); rw [← hxd] at V0 V1 h1 h2 B0 hHeld ⊢
 clear hxd; refine tjz 0 hHeld ?_; refine tjz 2 hHeld ?_; refine ryz 1 (fun K hK => ?_); simp only [gA, gB, gC]; (go_simp); refine (rsign5 s1 a1 l1 c1 z1 b1 m1 d1 y1 u _ h1).mono ?_; rintro e x3 ⟨rfl, hb⟩; replace V0 := V0.a hb; replace V1 := V1.a hb; replace h1 := Rr.after hb h1; replace h2 := Rr.after hb h2; replace B0 := step B0 hb; clear hb; rw [EX.out]; (try go_wp2_with fail); refine hK.out _ _ ⟨V0.d0, V0.d1, V0.d2, V1.d0, V1.d1, V1.d2⟩ (fun hHeld => ?_); clear hK K; refine ryz 3 (fun K hK => ?_); simp only [gA, gB, gC]; (go_simp); refine (rsign5 s2 a2 l2 c2 z2 b2 m2 d2 y2 v _ h2).mono ?_; rintro e x4 ⟨rfl, hb⟩; replace V0 := V0.a hb; replace V1 := V1.a hb
 replace h1 := Rr.after hb h1; replace h2 := Rr.after hb h2; replace B0 := step B0 hb; clear hb; rw [EY.out]; (try go_wp2_with fail); refine hK.out _ _ ⟨V0.d0, V0.d1, V0.d2, V1.d0, V1.d1, V1.d2⟩ (fun hHeld => ?_); clear hK K; refine tjz 4 hHeld ?_; refine tjz 5 hHeld ?_; refine dnz ?_; clear hHeld
 by_cases hs : x = y
 ·
  subst hs; (go_wp2_with fail); refine wp_region_noPanic ?_; replace V0 : Va x4.drew _ _ _ := V0; replace V1 : Va x4.drew _ _ _ := V1; replace h1 := h1.drw; replace h2 := h2.drw; replace B0 := Below.drew B0; refine wp_region_held_drew (S := (fun W => W.cell? ⟨w.heap.size, 0, none⟩ = some (.bool s1) ∧ W.cell? ⟨w.heap.size, 1, none⟩ = some (.slice a1 l1 c1) ∧ W.cell? ⟨w.heap.size, 2, none⟩ = some (.slice b1 m1 d1) ∧ W.cell? ⟨w.heap.size + 1, 0, none⟩ = some (.bool s2) ∧ W.cell? ⟨w.heap.size + 1, 1, none⟩ = some (.slice a2 l2 c2) ∧ W.cell? ⟨w.heap.size + 1, 2, none⟩ = some (.slice b2 m2 d2))) (by kernel_rfl) ⟨V0.d0, V0.d1, V0.d2, V1.d0, V1.d1, V1.d2⟩ (fun hHeld => ?_); (obtain ⟨x5, hxd⟩ : ∃ xd, xd = x4.drew := ⟨_, rfl⟩); rw [← hxd] at V0 V1 h1 h2 B0 hHeld ⊢; clear hxd; refine tjz 0 hHeld ?_; refine tjz 1 hHeld ?_; refine tk 2 rfl hHeld ?_
  simp only [gA, gB, gC, Act.put, gD, gE, gF]; refine tjz 3 hHeld ?_; refine tjz 5 hHeld ?_; refine tjz 6 hHeld ?_; refine tjz 7 hHeld ?_; refine tjz 8 hHeld ?_; refine ryz 4 (fun K hK => ?_); simp only [gA, gB, gC]; (go_simp); refine (rmul_any a1 b2 l1 c1 m2 d2 z1 y2 _ h1.1 h2.2.1 (by have := HL.out; omega) (by have := HL.out; omega)).mono ?_; rintro e x6 ⟨a5, l5, c5, z5, rfl, k5, t5, h5, u5, e5, hb⟩; replace V0 := V0.a hb; replace V1 := V1.a hb; replace h1 := Rr.after hb h1; replace h2 := Rr.after hb h2; replace B0 := step B0 hb; clear hb; (try go_wp2_with fail); refine hK.out _ _ ⟨V0.d0, V0.d1, V0.d2, V1.d0, V1.d1, V1.d2⟩ (fun hHeld => ?_)
  clear hK K; refine ryz 9 (fun K hK => ?_); simp only [gA, gB, gC]; (go_simp); refine (rmul_any a2 b1 l2 c2 m1 d1 z2 y1 _ h2.1 h1.2.1 (by have := HL.out; omega) (by have := HL.out; omega)).mono ?_; rintro e x7 ⟨a6, l6, c6, z6, rfl, k6, t6, h6, u6, e6, hb⟩; replace V0 := V0.a hb; replace V1 := V1.a hb; replace h1 := Rr.after hb h1; replace h2 := Rr.after hb h2; replace h5 := Sl.after hb h5; replace B0 := step B0 hb; clear hb; (try go_wp2_with fail); refine hK.out _ _ ⟨V0.d0, V0.d1, V0.d2, V1.d0, V1.d1, V1.d2⟩ (fun hHeld => ?_); clear hK K; refine ryz 10 (fun K hK => ?_); simp only [gA, gB, gC]; (go_simp); refine (rcompare_n a5 a6 l5 c5 l6 c6 z5 z6 _ h5 h6 (by have := HL.out; omega) (by have := HL.out; omega) k5 k6).mono ?_; rintro e x8 ⟨rfl, hb⟩
  replace V0 := V0.a hb; replace V1 := V1.a hb; replace h1 := Rr.after hb h1; replace h2 := Rr.after hb h2; replace h5 := Sl.after hb h5; replace h6 := Sl.after hb h6; replace B0 := step B0 hb; clear hb; rw [e5, e6]; (obtain ⟨c, hc⟩ : ∃ c, cmp3 (num z1 * num y2) (num z2 * num y1) = c := ⟨_, rfl⟩); rw [hc]; have HC := HE.out (by first | rfl | trivial); rw [hc] at HC; have hcv := cmp3_vals7 (num z1 * num y2) (num z2 * num y1); rw [hc] at hcv; have HV : Hid (c = -1 ∨ c = 0 ∨ c = 1) := hcv; have HCC : Hid (qcmp u v = if x < 0 then -c else c) := HC; clear hc HC hcv e5 e6 u5 u6 t5 t6; (try go_wp2_with fail); refine hK.out _ _ ⟨V0.d0, V0.d1, V0.d2, V1.d0, V1.d1, V1.d2⟩ (fun hHeld => ?_); clear hK K; refine tjz 11 hHeld ?_; refine dnz ?_; clear hHeld
  by_cases hn : x < 0
  ·
   have hv : Hid (qcmp u v = -c) := HCC.out.trans (if_pos hn); (have nl : decide (x < 0) = true := by simpa using hn); (have nw : IntKind.i64.wrap (-c) = -c := by rw [IntKind.wrap_i64]; have := HV.out; omega); (go_wp2_with fail)
   go_ret
   exact ⟨by rw [hv.out]; rfl, B0⟩
  ·
   have hv : Hid (qcmp u v = c) := HCC.out.trans (if_neg hn); (have nl : decide (x < 0) = false := by simpa using hn); (have nw : IntKind.i64.wrap (-c) = -c := by rw [IntKind.wrap_i64]; have := HV.out; omega); (go_wp2_with fail)
   go_ret
   exact ⟨by rw [hv.out]; rfl, B0⟩
 ·
  (have ns : (x == y) = false := by simpa using hs); (have nt : (x != y) = true := by simpa using hs)
  by_cases hl : x < y
  ·
   have hv : Hid (qcmp u v = -1) := (HD.out hs).trans (if_pos hl); (have nl : decide (x < y) = true := by simpa using hl); (go_wp2_with fail)
   go_ret
   exact ⟨by rw [hv.out]; rfl, B0⟩
  ·
   have hv : Hid (qcmp u v = 1) := (HD.out hs).trans (if_neg hl); (have nl : decide (x < y) = false := by simpa using hl); (go_wp2_with fail)
   go_ret
   exact ⟨by rw [hv.out]; rfl, B0⟩

end Go.Proofs.YtblafbbnplfpjaaGreatDoor
namespace Go.Proofs.YtblafbbnplfpjaaGreatDoor
open Go.RowKit Go.Shelf
set_option linter.unusedVariables false

theorem rzero_b (a : Option Addr) (len cap : Nat) (zs : List Int) (w : World) (h : Sl w a len zs) (hn : a = none → len = 0 ∧ cap = 0) (hl : len ≤ 17592186044416) (hcap : len ≤ cap) :
    Calls Tryz.prog 106 #[.slice a len cap] w fun e w' => e = .returned (.bool (decide (num zs = 0))) ∧ Below w.heap.size w w' := by
  have HE : Hid (((usedN zs : Int) == 0) = decide (num zs = 0)) := by
    have h5 := num_eq_zero h.2.1
    show _ = _
    rw [Bool.eq_iff_iff]; simp; omega
  go_enter Tryz.func106, Tryz.ntmps106
  go_wp2_with fail
  refine (rtrim_any a len cap zs w h hn hl hcap).mono ?_
  rintro e w2 ⟨a2, c2, rfl, s2, hc2, b2⟩
  go_wp2_with fail
  go_ret
  exact ⟨by rw [← HE.out]; rfl, b2⟩
theorem Sl.there {w : World} {a : Option Addr} {l c : Nat} {zs : List Int} (h : Sl w a l zs) (hu : usedN zs = l) (h0 : num zs ≠ 0) : a = none → l = 0 ∧ c = 0 := by
  intro e
  have hl : 0 < l := by
    rcases Nat.eq_zero_or_pos l with h' | h'
    · exact absurd ((num_eq_zero h.2.1).2 (by omega)) h0
    · exact h'
  obtain ⟨b, off, e2, -⟩ := h.2.2 hl
  rw [e] at e2; cases e2
end Go.Proofs.YtblafbbnplfpjaaGreatDoor
namespace Go.Proofs.YtblafbbnplfpjaaGreatDoor
open Go.RowKit Go.Shelf
set_option linter.unusedVariables false

theorem powr_le {x y : Int} (h0 : 0 ≤ x) (h : x ≤ y) : ∀ n : Nat, x ^ n ≤ y ^ n
  | 0 => by simp
  | n + 1 => by
    rw [Int.pow_succ, Int.pow_succ]
    exact Int.mul_le_mul (powr_le h0 h n) h h0 (Int.pow_nonneg (by omega))
theorem powr_ge {x : Int} (h : 1 ≤ x) : ∀ n : Nat, 1 ≤ x ^ n
  | 0 => by simp
  | n + 1 => by
    rw [Int.pow_succ]
    have h1 := powr_ge h n
    have : 1 * 1 ≤ x ^ n * x := Int.mul_le_mul h1 h (by omega) (by omega)
    omega
theorem powr_up {x : Int} (h : 1 ≤ x) {m n : Nat} (hmn : m ≤ n) : x ^ m ≤ x ^ n := by
  obtain ⟨d, rfl⟩ : ∃ d, n = m + d := ⟨n - m, by omega⟩
  rw [Int.pow_add]
  have h1 := powr_ge h m
  have h2 := powr_ge h d
  have : x ^ m * 1 ≤ x ^ m * x ^ d := Int.mul_le_mul_of_nonneg_left h2 (by omega)
  omega
theorem p2_pow (k : Nat) : ∀ n : Nat, ((2 : Int) ^ k) ^ n = 2 ^ (k * n)
  | 0 => by simp
  | n + 1 => by rw [Int.pow_succ, p2_pow k n, Nat.mul_succ, Int.pow_add]
theorem pow_half (x : Int) (m d : Nat) : x ^ (2 * m + d) = x ^ m * x ^ m * x ^ d := by
  rw [Int.pow_add, show 2 * m = m + m by omega, Int.pow_add]
def pb : Nat → Nat
  | 0 => 0
  | t + 1 => 2 ^ t
theorem pb_half (t : Nat) : pb (t + 1) / 2 = pb t := by
  cases t with
  | zero => rfl
  | succ s => simp only [pb]; rw [Nat.pow_succ]; omega
theorem one_fits : (1 : Int) < pw 4096 := by
  have h2 : pw 1 ≤ pw 4096 := pw_mono (by decide)
  have h3 : pw 1 = 18446744073709551616 := by decide
  omega
theorem cmp_ne {x y : Int} (h : x ≠ y) : (cmp3 x y == 0) = false := by
  rcases Int.lt_or_le x y with h' | h'
  · rw [cmp3_lt h']; decide
  · rw [cmp3_gt (show y < x by omega)]; decide
end Go.Proofs.YtblafbbnplfpjaaGreatDoor
namespace Go.Proofs.YtblafbbnplfpjaaGreatDoor
open Go.RowKit Go.Shelf
set_option linter.unusedVariables false

end Go.Proofs.YtblafbbnplfpjaaGreatDoor
namespace Go.Proofs.YtblafbbnplfpjaaGreatDoor
open Go.RowKit Go.Shelf
set_option linter.unusedVariables false

def PRes9 (w w' : World) (e : Ending) (N : Int) : Prop :=
  ∃ a m c ds may, e = .returned (.tuple #[.slice a m c, .bool may]) ∧ Sl w' a m ds ∧ Hid ((may = true ∧ usedN ds = m ∧ num ds = N ∧ N < pw 4096 ∧ m ≤ c) ∨ (may = false ∧ pw 4096 ≤ N)) ∧ Below w.heap.size w w'
theorem rpow_nought9 (a : Option Addr) (la ca : Nat) (zs : List Int) (w : World) (h : Sl w a la zs) :
    Calls Tryz.prog 84 #[.slice a la ca, .int .i64 0] w fun e w' => PRes9 w w' e (num zs ^ 0) := by
  go_enter Tryz.func84, Tryz.ntmps84
  go_wp2_with fail
  refine (rsmall_any 1 ⟨by decide, by decide⟩ w).mono ?_
  rintro e w1 ⟨a1, m1, c1, z1, rfl, k1, l1, s1, u1, n1, b1⟩
  go_wp2_with fail
  go_ret2
  exact ⟨a1, m1, c1, z1, true, rfl, s1, .inl ⟨rfl, u1, by rw [n1]; simp, by simpa using one_fits, k1⟩, b1⟩
theorem rpow_one9 (a : Option Addr) (la ca : Nat) (zs : List Int) (n : Nat) (w : World) (h : Sl w a la zs) (hn : a = none → la = 0 ∧ ca = 0) (hl : la ≤ 1000000000) (hc : la ≤ ca) (h1 : num zs = 1) (hz : 0 < n) :
    Calls Tryz.prog 84 #[.slice a la ca, .int .i64 n] w fun e w' => PRes9 w w' e (num zs ^ n) := by
  have g1 : ((n : Int) == 0) = false := by simp; omega
  have HP : Hid (num zs ^ n = 1) := by show _ = _; rw [h1, Int.one_pow]
  have HS : Hid (Sl w a la zs) := h
  have H1 : Hid (num zs = 1) := h1
  clear h h1
  go_enter Tryz.func84, Tryz.ntmps84
  go_wp2_with fail
  refine (rsmall_any 1 ⟨by decide, by decide⟩ w).mono ?_
  rintro e w1 ⟨a1, m1, c1, z1, rfl, k1, l1, s1, u1, n1, b1⟩
  go_wp2_with fail
  refine (rcompare_any a a1 la ca m1 c1 zs z1 w1 (HS.out.below b1 (Nat.le_refl _)) s1 hn (Sl.there s1 u1 (by omega)) (by omega) (by omega) hc k1).mono ?_
  rintro e w2 ⟨rfl, b2⟩
  rw [cmp3_eq (show num zs = num z1 by rw [H1.out, n1])]
  clear s1 n1
  go_wp2_with fail
  refine (rsmall_any 1 ⟨by decide, by decide⟩ w2).mono ?_
  rintro e w3 ⟨a3, m3, c3, z3, rfl, k3, l3, s3, u3, n3, b3⟩
  go_wp2_with fail
  go_ret2
  exact ⟨a3, m3, c3, z3, true, rfl, s3, .inl ⟨rfl, u3, by rw [n3, HP.out], by rw [HP.out]; exact one_fits, k3⟩, step (step b1 b2) b3⟩
theorem rpow_zero9 (a : Option Addr) (la ca : Nat) (zs : List Int) (n : Nat) (w : World) (h : Sl w a la zs) (hn : a = none → la = 0 ∧ ca = 0) (hl : la ≤ 1000000000) (hc : la ≤ ca) (h1 : num zs = 0) (hz : 0 < n) :
    Calls Tryz.prog 84 #[.slice a la ca, .int .i64 n] w fun e w' => PRes9 w w' e (num zs ^ n) := by
  have g1 : ((n : Int) == 0) = false := by simp; omega
  have HP : Hid (num zs ^ n = 0) := by
    obtain ⟨m, rfl⟩ : ∃ m, n = m + 1 := ⟨n - 1, by omega⟩
    show _ = _; rw [h1, Int.pow_succ, Int.mul_zero]
  have HS : Hid (Sl w a la zs) := h
  have H1 : Hid (num zs = 0) := h1
  clear h h1
  go_enter Tryz.func84, Tryz.ntmps84
  go_wp2_with fail
  refine (rsmall_any 1 ⟨by decide, by decide⟩ w).mono ?_
  rintro e w1 ⟨a1, m1, c1, z1, rfl, k1, l1, s1, u1, n1, b1⟩
  go_wp2_with fail
  refine (rcompare_any a a1 la ca m1 c1 zs z1 w1 (HS.out.below b1 (Nat.le_refl _)) s1 hn (Sl.there s1 u1 (by omega)) (by omega) (by omega) hc k1).mono ?_
  rintro e w2 ⟨rfl, b2⟩
  have gc : (cmp3 (num zs) (num z1) == 0) = false := cmp_ne (by rw [H1.out, n1]; decide)
  generalize cmp3 (num zs) (num z1) = C at *
  clear s1 n1
  go_wp2_with fail
  refine (rzero_b a la ca zs w2 (HS.out.below (step b1 b2) (Nat.le_refl _)) hn (by omega) hc).mono ?_
  rintro e w3 ⟨rfl, b3⟩
  rw [H1.out]
  simp only [decide_true]
  go_wp2_with fail
  go_ret2
  exact ⟨none, 0, 0, [], true, rfl, ⟨rfl, Limbs.nil, fun h => absurd h (by decide)⟩, .inl ⟨rfl, rfl, by rw [HP.out]; rfl, by rw [HP.out]; exact pw_pos 4096, Nat.le_refl _⟩, step (step b1 b2) b3⟩
theorem rpow_big9 {A : Int} {k n : Nat} (hk : 2 ^ k ≤ A) (h : 262144 ≤ k * n) : pw 4096 ≤ A ^ n := by
  have h1 := powr_le (Int.le_of_lt (p2_pos k)) hk n
  rw [p2_pow] at h1
  rw [show pw 4096 = 2 ^ 262144 from pw_eq 4096]
  exact Int.le_trans (p2_mono h) h1
set_option maxHeartbeats 1000000 in
theorem rpow_long9 (a : Option Addr) (la ca : Nat) (zs : List Int) (n k : Nat) (w : World) (h : Sl w a la zs) (hn : a = none → la = 0 ∧ ca = 0) (hl : la ≤ 1000000000) (hc : la ≤ ca) (h2 : 2 ≤ num zs) (hz : 0 < n) (hk : k ≤ 262144) (ek : bitsN zs = (k : Int) + 1) (k1 : 2 ^ k ≤ num zs) (hlong : 262144 < n ∨ 262144 ≤ k * n) (hn63 : n ≤ 9223372036854775807) :
    Calls Tryz.prog 84 #[.slice a la ca, .int .i64 n] w fun e w' => PRes9 w w' e (num zs ^ n) := by
  have g1 : ((n : Int) == 0) = false := by simp; omega
  have HP : Hid (pw 4096 ≤ num zs ^ n) := by
    rcases hlong with h' | h'
    · exact rpow_big9 (k := 1) (by simpa using h2) (by omega)
    · exact rpow_big9 k1 h'
  have RB := fun W hW => rbits_any a la ca zs W hW hn (by omega) hc
  simp only [ek] at RB
  have HRB : Hid (∀ W, Sl W a la zs → Calls Tryz.prog 107 #[.slice a la ca] W fun e w' => e = .returned (.int .i64 ((k : Int) + 1)) ∧ Below W.heap.size W w') := RB
  have HS : Hid (Sl w a la zs) := h
  have H1 : Hid (2 ≤ num zs) := h2
  clear h h2 k1 ek RB
  by_cases hg : 262144 < n
  · have hg' : (262144 : Int) < n := by omega
    go_enter Tryz.func84, Tryz.ntmps84
    go_wp2_with fail
    refine (rsmall_any 1 ⟨by decide, by decide⟩ w).mono ?_
    rintro e w1 ⟨a1, m1, c1, z1, rfl, kk1, l1, s1, u1, n1, b1⟩
    go_wp2_with fail
    refine (rcompare_any a a1 la ca m1 c1 zs z1 w1 (HS.out.below b1 (Nat.le_refl _)) s1 hn (Sl.there s1 u1 (by omega)) (by omega) (by omega) hc kk1).mono ?_
    rintro e w2 ⟨rfl, b2⟩
    have gc : (cmp3 (num zs) (num z1) == 0) = false := cmp_ne (by have := H1.out; omega)
    generalize cmp3 (num zs) (num z1) = C at *
    clear s1 n1
    go_wp2_with fail
    refine (rzero_b a la ca zs w2 (HS.out.below (step b1 b2) (Nat.le_refl _)) hn (by omega) hc).mono ?_
    rintro e w3 ⟨rfl, b3⟩
    rw [show decide (num zs = 0) = false by have := H1.out; simp; omega]
    go_wp2_with fail
    go_ret2
    exact ⟨none, 0, 0, [], false, rfl, ⟨rfl, Limbs.nil, fun h => absurd h (by decide)⟩, .inr ⟨rfl, HP.out⟩, step (step b1 b2) b3⟩
  · have hkn : 262144 ≤ k * n := by omega
    have hkn2 : k * n ≤ 262144 * 262144 := Nat.mul_le_mul hk (by omega)
    have ekn : (k : Int) * n = ((k * n : Nat) : Int) := by rw [Int.natCast_mul]
    obtain ⟨M, hM⟩ : ∃ M, k * n = M := ⟨_, rfl⟩
    rw [hM] at hkn hkn2 ekn
    have hg' : ¬ (262144 : Int) < n := by omega
    clear hlong hM
    go_enter Tryz.func84, Tryz.ntmps84
    go_wp2_with fail
    refine (rsmall_any 1 ⟨by decide, by decide⟩ w).mono ?_
    rintro e w1 ⟨a1, m1, c1, z1, rfl, kk1, l1, s1, u1, n1, b1⟩
    go_wp2_with fail
    refine (rcompare_any a a1 la ca m1 c1 zs z1 w1 (HS.out.below b1 (Nat.le_refl _)) s1 hn (Sl.there s1 u1 (by omega)) (by omega) (by omega) hc kk1).mono ?_
    rintro e w2 ⟨rfl, b2⟩
    have gc : (cmp3 (num zs) (num z1) == 0) = false := cmp_ne (by have := H1.out; omega)
    generalize cmp3 (num zs) (num z1) = C at *
    clear s1 n1
    go_wp2_with fail
    refine (rzero_b a la ca zs w2 (HS.out.below (step b1 b2) (Nat.le_refl _)) hn (by omega) hc).mono ?_
    rintro e w3 ⟨rfl, b3⟩
    rw [show decide (num zs = 0) = false by have := H1.out; simp; omega]
    go_wp2_with fail
    refine (HRB.out w3 (HS.out.below (step (step b1 b2) b3) (Nat.le_refl _))).mono ?_
    rintro e w4 ⟨rfl, b4⟩
    go_wp2_with fail
    go_ret2
    exact ⟨none, 0, 0, [], false, rfl, ⟨rfl, Limbs.nil, fun h => absurd h (by decide)⟩, .inr ⟨rfl, HP.out⟩, step (step (step b1 b2) b3) b4⟩
theorem rpow_small9 {A : Int} {k n : Nat} (hA : 0 ≤ A) (hk : A < 2 ^ (k + 1)) (h : k * n < 262144) (hn : n ≤ 262144) : A ^ n < pw 8192 := by
  have h1 := powr_le hA (show A ≤ 2 ^ (k + 1) - 1 by omega) n
  have h2 := powr_le (show (0 : Int) ≤ 2 ^ (k + 1) - 1 by have := p2_pos (k + 1); omega) (show (2 : Int) ^ (k + 1) - 1 ≤ 2 ^ (k + 1) by omega) n
  rw [p2_pow] at h2
  have h3 : (k + 1) * n < 524288 := by rw [Nat.add_mul]; omega
  have h4 := p2_mono (show (k + 1) * n + 1 ≤ 64 * 8192 by omega)
  rw [← pw_eq, Int.pow_succ] at h4
  have h5 := p2_pos ((k + 1) * n)
  generalize pw 8192 = P at *
  omega
set_option maxRecDepth 20000 in
set_option maxHeartbeats 4000000 in
theorem rpow_go9 (a : Option Addr) (la ca : Nat) (zs : List Int) (n k : Nat) (w : World) (h : Sl w a la zs) (hn : a = none → la = 0 ∧ ca = 0) (hl : la ≤ 1000000000) (hc : la ≤ ca) (h2 : 2 ≤ num zs) (hz : 0 < n) (hk : k ≤ 262144) (ek : bitsN zs = (k : Int) + 1) (k2 : num zs < 2 ^ (k + 1)) (hn1 : n ≤ 262144) (hkn : k * n < 262144) :
    Calls Tryz.prog 84 #[.slice a la ca, .int .i64 n] w fun e w' => PRes9 w w' e (num zs ^ n) := by
  have g1 : ((n : Int) == 0) = false := by simp; omega
  have HF : Hid (num zs ^ n < pw 8192) := rpow_small9 (by omega) k2 hkn hn1
  have RB := fun W hW => rbits_any a la ca zs W hW hn (by omega) hc
  simp only [ek] at RB
  have HRB : Hid (∀ W, Sl W a la zs → Calls Tryz.prog 107 #[.slice a la ca] W fun e w' => e = .returned (.int .i64 ((k : Int) + 1)) ∧ Below W.heap.size W w') := RB
  have ekn : (k : Int) * n = ((k * n : Nat) : Int) := by rw [Int.natCast_mul]
  obtain ⟨M, hM⟩ : ∃ M, k * n = M := ⟨_, rfl⟩
  rw [hM] at hkn ekn
  have hg' : ¬ (262144 : Int) < n := by omega
  have HS : Hid (Sl w a la zs) := h
  have H1 : Hid (2 ≤ num zs) := h2
  obtain ⟨A, hA⟩ : ∃ A, num zs = A := ⟨_, rfl⟩
  have HA : Hid (num zs = A) := hA
  rw [hA] at HF ⊢
  have HA2 : Hid (2 ≤ A) := by rw [← hA]; exact h2
  clear h h2 k2 ek RB hM hA
  go_enter Tryz.func84, Tryz.ntmps84
  go_wp2_with fail
  refine (rsmall_any 1 ⟨by decide, by decide⟩ w).mono ?_
  rintro e w1 ⟨a1, m1, c1, z1, rfl, kk1, l1, s1, u1, n1, b1⟩
  go_wp2_with fail
  refine (rcompare_any a a1 la ca m1 c1 zs z1 w1 (HS.out.below b1 (Nat.le_refl _)) s1 hn (Sl.there s1 u1 (by omega)) (by omega) (by omega) hc kk1).mono ?_
  rintro e w2 ⟨rfl, b2⟩
  have gc : (cmp3 (num zs) (num z1) == 0) = false := cmp_ne (by have := H1.out; omega)
  generalize cmp3 (num zs) (num z1) = C at *
  clear s1 n1
  go_wp2_with fail
  refine (rzero_b a la ca zs w2 (HS.out.below (step b1 b2) (Nat.le_refl _)) hn (by omega) hc).mono ?_
  rintro e w3 ⟨rfl, b3⟩
  rw [show decide (num zs = 0) = false by have := H1.out; simp; omega]
  go_wp2_with fail
  refine (HRB.out w3 (HS.out.below (step (step b1 b2) b3) (Nat.le_refl _))).mono ?_
  rintro e w4 ⟨rfl, b4⟩
  clear HRB
  set_option maxRecDepth 100000 in go_wp2_with fail
  refine (rsmall_any 1 ⟨by decide, by decide⟩ w4).mono ?_
  rintro e w5 ⟨a5, m5, c5, z5, rfl, k5, l5, s5, u5, n5, b5⟩
  have HB5 : Hid (Below w.heap.size w w5) := step (step (step (step b1 b2) b3) b4) b5
  have HS5 : Hid (Sl w5 a5 m5 z5) := s5
  have HU5 : Hid (usedN z5 = m5) := u5
  have HN5 : Hid (num z5 = A ^ (n / 2 ^ 31)) := by show _ = _; rw [n5, Nat.div_eq_of_lt (by omega)]; simp
  clear b1 b2 b3 b4 b5 s5 u5 n5 gc ekn
  go_wp2_with fail
  go_loopw [6, 7] (fun x bt wr => ∃ (t : Nat) (b : Option Addr) (lb cb : Nat) (xs : List Int), x = .slice b lb cb ∧ bt = .int .i64 (pb t) ∧ t ≤ 31 ∧ lb ≤ cb ∧ Hid (Sl wr b lb xs) ∧ Hid (usedN xs = lb) ∧ Hid (num xs = A ^ (n / 2 ^ t)) ∧ Hid (Below w.heap.size w wr)) (fun _ bt _ => (intOf bt).toNat)
  case atStart => exact ⟨31, a5, m5, c5, z5, rfl, rfl, by omega, k5, HS5, HU5, HN5, HB5⟩
  case round =>
    clear HS5 HU5 HN5 HB5
    obtain ⟨t, b, lb, cb, xs, rfl, rfl, ht, hcb, hs, hu, hnx, hB⟩ := hrel
    have lb8 : lb ≤ 8192 := by
      have h5 := HF.out
      have h6 := powr_up (show 1 ≤ A by have := HA2.out; omega) (Nat.div_le_self n (2 ^ t))
      have h7 := used_of_lt hs.out.2.1 (n := 8192) (by rw [hnx.out]; exact Int.lt_of_le_of_lt h6 h5)
      have := hu.out
      omega
    cases t with
    | zero =>
      have HE : Hid (num xs = A ^ n) := by show _ = _; rw [hnx.out]; simp
      have e0 : ((pb 0 : Nat) : Int) = 0 := rfl
      rw [e0]
      by_cases hlg : 4096 < usedN xs
      · have HP : Hid (pw 4096 ≤ A ^ n) := by
          show _ ≤ _
          rw [← HE.out]
          have h5 := num_ge_used hs.out.2.1 (by omega)
          have h6 := pw_mono (show 4096 ≤ usedN xs - 1 by omega)
          exact Int.le_trans h6 h5
        go_wp2_with fail
        refine (rlong_yes b lb cb xs wr hs.out (by omega) hlg).mono ?_
        rintro e w6 ⟨rfl, b6⟩
        clear hlg
        go_wp2_with fail
        go_ret2
        exact ⟨b, lb, cb, xs, false, rfl, hs.out.below b6 (Nat.le_refl _), .inr ⟨rfl, HP.out⟩, step hB.out b6⟩
      · have hlg' : usedN xs ≤ 4096 := by omega
        have HP : Hid (A ^ n < pw 4096) := by show _ < _; rw [← HE.out]; exact lt_of_used hs.out.2.1 hlg'
        clear hlg
        go_wp2_with fail
        refine (rlong_no b lb cb xs wr hs.out (by omega) hlg').mono ?_
        rintro e w6 ⟨rfl, b6⟩
        clear hlg'
        go_wp2_with fail
        go_ret2
        exact ⟨b, lb, cb, xs, true, rfl, hs.out.below b6 (Nat.le_refl _), .inl ⟨rfl, hu.out, HE.out, HP.out, hcb⟩, step hB.out b6⟩
    | succ t =>
      have hph := pb_half t
      obtain ⟨P, hP⟩ : ∃ P, pb (t + 1) = P := ⟨_, rfl⟩
      have hP2 : 2 ^ t = P := hP
      have hPpos : 0 < P := by rw [← hP2]; exact Nat.pow_pos (by decide)
      have hPle : P ≤ 1073741824 := by
        rw [← hP2]
        have := Nat.pow_le_pow_right (n := 2) (by decide) (show t ≤ 30 by omega)
        have h5 : (2 : Nat) ^ 30 = 1073741824 := by decide
        omega
      rw [hP] at hph ⊢
      obtain ⟨D, hD⟩ : ∃ D, n / P = D := ⟨_, rfl⟩
      have eD : (n : Int) / (P : Int) = (D : Int) := by rw [← hD]; exact (Int.natCast_ediv n P).symm
      obtain ⟨R, hR⟩ : ∃ R, pb t = R := ⟨_, rfl⟩
      rw [hR] at hph
      have eR : (P : Int) / 2 = (R : Int) := by omega
      have eM : n / 2 ^ (t + 1) = D / 2 := by rw [Nat.pow_succ, ← Nat.div_div_eq_div_mul, hP2, hD]
      have HNX : Hid (num xs = A ^ (D / 2)) := by show _ = _; rw [hnx.out, eM]
      have HDT : Hid (n / 2 ^ t = D) := by show _ = _; rw [hP2]; exact hD
      have hDn : D ≤ n := by rw [← hD]; exact Nat.div_le_self n P
      have gP : ((P : Int) == 0) = false := by simp; omega
      have hPp : (0 : Int) < P := by omega
      have HRT : Hid (pb t = R) := hR
      clear hP hP2 hD hR eM hnx hph
      go_wp2_with fail
      refine (rmul_any b b lb cb lb cb xs xs wr hs.out hs.out (by omega) (by omega)).mono ?_
      rintro e w6 ⟨a6, m6, c6, z6, rfl, k6, l6, s6, u6, n6, b6⟩
      have HN6 : Hid (num z6 = A ^ (D / 2) * A ^ (D / 2)) := by show _ = _; rw [n6, HNX.out]
      have HB6 : Hid (Below w.heap.size w w6) := step hB.out b6
      clear n6 b6
      by_cases hodd : D % 2 = 1
      · have g2 : ((D : Int) % 2 == 1) = true := by simp; omega
        have HE : Hid (A ^ (D / 2) * A ^ (D / 2) * A = A ^ (n / 2 ^ t)) := by
          show _ = _
          rw [HDT.out]
          have := pow_half A (D / 2) 1
          rw [show 2 * (D / 2) + 1 = D by omega, Int.pow_succ, Int.pow_zero, Int.one_mul] at this
          exact this.symm
        go_wp2_with fail
        refine (rmul_any a6 a m6 c6 la ca z6 zs w6 s6 (HS.out.below HB6.out (Nat.le_refl _)) (by omega) (by omega)).mono ?_
        rintro e w7 ⟨a7, m7, c7, z7, rfl, k7, l7, s7, u7, n7, b7⟩
        have HN7 : Hid (num z7 = A ^ (n / 2 ^ t)) := by show _ = _; rw [n7, HN6.out, HA.out]; exact HE.out
        have HB7 : Hid (Below w.heap.size w w7) := step HB6.out b7
        have HS7 : Hid (Sl w7 a7 m7 z7) := s7
        have HU7 : Hid (usedN z7 = m7) := u7
        clear n7 s7 u7 s6 b7
        go_wp2_with fail
        go_roundw
        case rel => exact ⟨t, a7, m7, c7, z7, rfl, by rw [HRT.out], by omega, k7, HS7, HU7, HN7, HB7⟩
        case measure => simp [intOf]; omega
      · have g2 : ((D : Int) % 2 == 1) = false := by simp; omega
        have HN7 : Hid (num z6 = A ^ (n / 2 ^ t)) := by
          show _ = _
          rw [HN6.out, HDT.out]
          have := pow_half A (D / 2) 0
          rw [show 2 * (D / 2) + 0 = D by omega, Int.pow_zero, Int.mul_one] at this
          exact this.symm
        have HS7 : Hid (Sl w6 a6 m6 z6) := s6
        have HU7 : Hid (usedN z6 = m6) := u6
        clear s6 u6
        go_wp2_with fail
        go_roundw
        case rel => exact ⟨t, a6, m6, c6, z6, rfl, by rw [HRT.out], by omega, k6, HS7, HU7, HN7, HB6⟩
        case measure => simp [intOf]; omega
theorem rpow_any9 (a : Option Addr) (la ca : Nat) (zs : List Int) (n : Nat) (w : World) (h : Sl w a la zs) (hn : a = none → la = 0 ∧ ca = 0) (hl : la ≤ 1000000000) (hc : la ≤ ca) (hu : usedN zs ≤ 4096) (hn63 : n ≤ 9223372036854775807) :
    Calls Tryz.prog 84 #[.slice a la ca, .int .i64 n] w fun e w' => PRes9 w w' e (num zs ^ n) := by
  rcases Nat.eq_zero_or_pos n with rfl | hz
  · exact rpow_nought9 a la ca zs w h
  · have h0 := num_nonneg h.2.1
    by_cases h1 : num zs = 1
    · exact rpow_one9 a la ca zs n w h hn hl hc h1 hz
    · by_cases h2 : num zs = 0
      · exact rpow_zero9 a la ca zs n w h hn hl hc h2 hz
      · have uz : 0 < usedN zs := by
          rcases Nat.eq_zero_or_pos (usedN zs) with h' | h'
          · exact absurd ((num_eq_zero h.2.1).2 h') h2
          · exact h'
        obtain ⟨k, ek, k1, k2⟩ := bits_spec h.2.1 uz
        have hbl := bits_limbs h.2.1
        by_cases hlong : 262144 < n ∨ 262144 ≤ k * n
        · exact rpow_long9 a la ca zs n k w h hn hl hc (by omega) hz (by omega) ek k1 hlong hn63
        · exact rpow_go9 a la ca zs n k w h hn hl hc (by omega) hz (by omega) ek k2 (by omega) (by omega)
end Go.Proofs.YtblafbbnplfpjaaGreatDoor
namespace Go.Proofs.YtblafbbnplfpjaaGreatDoor
open Go.RowKit Go.Shelf
set_option linter.unusedVariables false

end Go.Proofs.YtblafbbnplfpjaaGreatDoor
namespace Go.Proofs.YtblafbbnplfpjaaGreatDoor
open Go.RowKit Go.Shelf
set_option linter.unusedVariables false

end Go.Proofs.YtblafbbnplfpjaaGreatDoor
