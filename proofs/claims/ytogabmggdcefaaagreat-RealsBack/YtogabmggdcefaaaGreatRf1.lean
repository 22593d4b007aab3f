/-
  RatioOf; of, one of the statements.
-/
import Derived.Test.YtogabmggdcefaaaGreatTk
import Derived.Test.YtogabmggdcefaaaGreatAl
import Derived.Test.YtogabmggdcefaaaGreatRe8
import Derived.Test.YtogabmggdcefaaaGreatRl7
import Derived.Test.YtogabmggdcefaaaGreatRt11
import Derived.Test.YtogabmggdcefaaaGreatBsQ
import Derived.BigRegion
namespace Go.Proofs.YtogabmggdcefaaaGreat
open Go.RowKit Go.Shelf
set_option linter.unusedVariables false

theorem size8 (x : Int) (h1 : -9223372036854775808 ≤ x) (h2 : x ≤ 9223372036854775807) (w : World) : Calls Tryz.prog 95 #[.int .i64 x] w fun e w' => e = .returned (.int .u64 (x.natAbs : Int)) ∧ w' = w := by
  obtain ⟨y, hy⟩ : ∃ y, x.natAbs = y := ⟨_, rfl⟩
  rw [hy]
  by_cases g : x < 0
  · have g1 : decide (x < 0) = true := decide_eq_true g
    have e1 : IntKind.u64.wrap x = x + 18446744073709551616 := by rw [IntKind.wrap_u64]; omega
    have e2 : IntKind.u64.wrap (-(x + 18446744073709551616)) = (y : Int) := by rw [IntKind.wrap_u64]; omega
    clear hy h1 h2
    go_enter Tryz.func95, Tryz.ntmps95
    go_wp2_with fail
    go_ret
    exact ⟨rfl, rfl⟩
  · have g1 : decide (x < 0) = false := decide_eq_false g
    have e1 : IntKind.u64.wrap x = (y : Int) := by rw [IntKind.wrap_u64]; omega
    clear hy h1 h2
    go_enter Tryz.func95, Tryz.ntmps95
    go_wp2_with fail
    go_ret
    exact ⟨rfl, rfl⟩
theorem common8 (x y : Nat) (hx : x < 18446744073709551616) (hy : y < 18446744073709551616) (w : World) : Calls Tryz.prog 96 #[.int .u64 (x : Int), .int .u64 (y : Int)] w fun e w' => e = .returned (.int .u64 (Nat.gcd x y : Int)) ∧ Below w.heap.size w w' := by
  obtain ⟨G, hG⟩ : ∃ G, Nat.gcd x y = G := ⟨_, rfl⟩
  rw [hG]
  have HG : Hid (Nat.gcd x y = G) := hG
  have HX : Hid (x < 18446744073709551616 ∧ y < 18446744073709551616) := ⟨hx, hy⟩
  clear hG hx hy
  go_enter Tryz.func96, Tryz.ntmps96
  go_wp2_with fail
  go_loopw [0, 1] (fun a b wr => (∃ q, wr = w.drewN q) ∧ ∃ (i j : Nat), a = .int .u64 (i : Int) ∧ b = .int .u64 (j : Int) ∧ Hid (i < 18446744073709551616 ∧ j < 18446744073709551616) ∧ Hid (Nat.gcd i j = G)) (fun _ b _ => (intOf b).toNat)
  case atStart => exact ⟨⟨0, rfl⟩, x, y, rfl, rfl, HX, HG⟩
  case round =>
    clear HX HG
    obtain ⟨⟨q, rfl⟩, i, j, rfl, rfl, HX, HG⟩ := hrel
    by_cases hz : j = 0
    · subst hz
      have hG : i = G := by rw [← HG.out, Nat.gcd_zero_right]
      subst hG
      go_wp2_with fail
      go_ret
      exact ⟨rfl, below_drewN (Below.refl _ _) q⟩
    · have g1 : decide (0 < (j : Int)) = true := by rw [decide_eq_true_iff]; omega
      have g2 : ((j : Int) == 0) = false := by rw [beq_eq_false_iff_ne]; omega
      have g3 : ¬ ((j : Int) = 0) := by omega
      have g4 : 0 < j := by omega
      obtain ⟨r, hr⟩ : ∃ r, i % j = r := ⟨_, rfl⟩
      have htm : (i : Int).tmod (j : Int) = (r : Int) := by rw [Int.tmod_eq_emod_of_nonneg (by omega), ← hr]; rfl
      have hlt : r < j := by rw [← hr]; exact Nat.mod_lt _ g4
      have HG2 : Hid (Nat.gcd j r = G) := by
        show _ = _
        rw [← hr, ← HG.out, Nat.gcd_comm i j, Nat.gcd_rec j i, Nat.gcd_comm]
      have HX2 : Hid (j < 18446744073709551616 ∧ r < 18446744073709551616) := ⟨HX.out.2, by have := HX.out.2; omega⟩
      clear hr hz
      go_wp2_with fail
      go_quiet (fail)
      go_wp2_with fail
      go_roundw
      case rel => exact ⟨⟨_, World.drewN_drewN _ _ _⟩, j, r, rfl, rfl, HX2, HG2⟩
      case measure => simp [intOf]; omega

theorem Va.limb {w : World} {b : Nat} {t : TypeId} {x : Int} (h : Va w b t #[.int .u64 x]) (hx : Word x) : Sl w (some ⟨b, 0, none⟩) 1 [x] := by
  refine ⟨rfl, ?_, fun _ => ⟨b, 0, rfl, fun i hi => ?_⟩⟩
  · intro z hz
    simp at hz; subst hz; exact hx
  · obtain rfl : i = 0 := by omega
    exact h.cell
/-- A ratio as it is told. -/
def Rq (w : World) (v : Rat) (e : Ending) (w' : World) : Prop := ∃ s a l c zs b m d ys, e = .returned (.agg #[.bool s, .slice a l c, .slice b m d]) ∧ Rr w' s a l c zs b m d ys v ∧ Hid (Norm s zs ys ∧ l ≤ 1024 ∧ m ≤ 1024) ∧ Below w.heap.size w w'
theorem ratio_num {x y : Int} (x0 : x ≠ 0) (y0 : 0 < y) {n e : Nat} (hn : x.natAbs / Nat.gcd x.natAbs y.natAbs = n) (he : y.natAbs / Nat.gcd x.natAbs y.natAbs = e) :
    iv (decide (x < 0)) [(n : Int)] = (Rat.divInt x y).num ∧ num [(e : Int)] = (Rat.divInt x y).den ∧ n ≠ 0 ∧ e ≠ 0 ∧ Nat.gcd n e = 1 := by
  have g0 : 0 < Nat.gcd x.natAbs y.natAbs := Nat.gcd_pos_of_pos_left _ (by omega)
  have q1 : n * Nat.gcd x.natAbs y.natAbs = x.natAbs := by rw [← hn]; exact Nat.div_mul_cancel (Nat.gcd_dvd_left _ _)
  have q2 : e * Nat.gcd x.natAbs y.natAbs = y.natAbs := by rw [← he]; exact Nat.div_mul_cancel (Nat.gcd_dvd_right _ _)
  obtain ⟨r1, r2⟩ := rat_new x y (by omega) rfl q1 q2
  have n0 : n ≠ 0 := by intro h; rw [h, Nat.zero_mul] at q1; omega
  have e0 : e ≠ 0 := by intro h; rw [h, Nat.zero_mul] at q2; omega
  refine ⟨?_, ?_, n0, e0, ?_⟩
  · rw [r1, Int.sign_eq_one_of_pos y0, Int.one_mul]
    unfold iv
    by_cases g : x < 0
    · simp [g, num]
    · simp [g, num]
  · rw [r2]; simp [num]
  · rw [← hn, ← he]; exact Nat.gcd_div_gcd_div_gcd_of_pos_left (by omega)

theorem ratio_norm {s : Bool} {n d : Nat} {v : Rat} (h : iv s [(n : Int)] = v.num ∧ num [(d : Int)] = v.den ∧ n ≠ 0 ∧ d ≠ 0 ∧ Nat.gcd n d = 1) : Hid (Norm s [(n : Int)] [(d : Int)] ∧ 1 ≤ 1024 ∧ 1 ≤ 1024) := by
  obtain ⟨-, -, n0, d0, hg⟩ := h
  refine ⟨⟨?_, ?_, by simp, by simp, ?_⟩, by omega, by omega⟩
  · simp [usedN]; omega
  · simp [usedN]; omega
  · simp only [num, Int.mul_zero, Int.add_zero]
    exact hg
theorem ratio_rr {w : World} {s : Bool} {a b : Option Addr} {n d : Nat} {v : Rat} (h : iv s [(n : Int)] = v.num ∧ num [(d : Int)] = v.den ∧ n ≠ 0 ∧ d ≠ 0 ∧ Nat.gcd n d = 1) (h1 : Sl w a 1 [(n : Int)]) (h2 : Sl w b 1 [(d : Int)]) : Rr w s a 1 1 [(n : Int)] b 1 1 [(d : Int)] v := by
  obtain ⟨e1, e2, n0, d0, hg⟩ := h
  refine ⟨h1, h2, ?_, ?_, ⟨Nat.le_refl _, Nat.le_refl _⟩, e1, e2, fun _ => ?_⟩
  · simp [usedN]; omega
  · simp [usedN]; omega
  · simp [num]; omega

set_option maxHeartbeats 2000000 in
theorem ratioOf8 (x y : Int) (x0 : x ≠ 0) (x1 : -9223372036854775808 ≤ x) (x2 : x ≤ 9223372036854775807) (y0 : 0 < y) (y2 : y ≤ 9223372036854775807) (w : World) :
    Calls Tryz.prog 52 #[.int .i64 x, .int .i64 y] w fun e w' => Rq w (Rat.divInt x y) e w' := by
  (obtain ⟨n, hn⟩ : ∃ n, x.natAbs / Nat.gcd x.natAbs y.natAbs = n := ⟨_, rfl⟩); (obtain ⟨d, hd⟩ : ∃ d, y.natAbs / Nat.gcd x.natAbs y.natAbs = d := ⟨_, rfl⟩); have HR := ratio_num x0 y0 hn hd; have g0 : 0 < Nat.gcd x.natAbs y.natAbs := Nat.gcd_pos_of_pos_left _ (by omega); (have nb : n ≤ x.natAbs := by rw [← hn]; exact Nat.div_le_self _ _); (have db : d ≤ y.natAbs := by rw [← hd]; exact Nat.div_le_self _ _); (have HD1 : Hid (IntKind.u64.wrap ((x.natAbs : Int) / (Nat.gcd x.natAbs y.natAbs : Int)) = (n : Int)) := by show _ = _; rw [show ((x.natAbs : Int) / (Nat.gcd x.natAbs y.natAbs : Int)) = (n : Int) by rw [← hn]; rfl, IntKind.wrap_u64]; omega); (have HD2 : Hid (IntKind.u64.wrap ((y.natAbs : Int) / (Nat.gcd x.natAbs y.natAbs : Int)) = (d : Int)) := by show _ = _; rw [show ((y.natAbs : Int) / (Nat.gcd x.natAbs y.natAbs : Int)) = (d : Int) by rw [← hd]; rfl, IntKind.wrap_u64]; omega); have HS := size8 x x1 x2
  have HS2 := size8 y (by omega) y2; have HC := common8 x.natAbs y.natAbs (by omega) (by omega); (obtain ⟨X, hX⟩ : ∃ X, x.natAbs = X := ⟨_, rfl⟩); (obtain ⟨Y, hY⟩ : ∃ Y, y.natAbs = Y := ⟨_, rfl⟩); (obtain ⟨G, hG⟩ : ∃ G, Nat.gcd x.natAbs y.natAbs = G := ⟨_, rfl⟩); rw [hG] at HD1 HD2 HC g0; rw [hX] at HD1 HS HC; rw [hY] at HD2 HS2 HC; have HB : Hid (Word (n : Int) ∧ Word (d : Int)) := ⟨⟨by omega, by omega⟩, ⟨by omega, by omega⟩⟩; (have g1 : (y == 0) = false := by rw [beq_eq_false_iff_ne]; omega); (have g2 : (x == 0) = false := by rw [beq_eq_false_iff_ne]; omega); (have g3 : ¬ (y = 0) := by omega); (have g4 : decide (y < 0) = false := by rw [decide_eq_false_iff_not]; omega); (have g7 : ¬ (y < 0) := by omega); (have g5 : ¬ ((G : Int) = 0) := by omega); (have HG0 : Hid (¬ G = 0) := by show ¬ _; omega); (have g6 : ((G : Int) == 0) = false := by rw [beq_eq_false_iff_ne]; omega); have HSx : Hid (∀ w, Calls Tryz.prog 95 #[.int .i64 x] w fun e w' => e = .returned (.int .u64 (X : Int)) ∧ w' = w) := HS
  have HSy : Hid (∀ w, Calls Tryz.prog 95 #[.int .i64 y] w fun e w' => e = .returned (.int .u64 (Y : Int)) ∧ w' = w) := HS2; have HCo : Hid (∀ w, Calls Tryz.prog 96 #[.int .u64 (X : Int), .int .u64 (Y : Int)] w fun e w' => e = .returned (.int .u64 (G : Int)) ∧ Below w.heap.size w w') := HC; have HRR : Hid (iv (decide (x < 0)) [(n : Int)] = (Rat.divInt x y).num ∧ num [(d : Int)] = (Rat.divInt x y).den ∧ n ≠ 0 ∧ d ≠ 0 ∧ Nat.gcd n d = 1) := HR; (obtain ⟨sb, hsb⟩ : ∃ sb, decide (x < 0) = sb := ⟨_, rfl⟩); rw [hsb] at HRR; clear hX hY hG hn hd x1 x2 y0 y2 nb db HS HS2 HC HR g0; have B0 : Below w.heap.size w w := Below.refl _ _
  go_enter Tryz.func52, Tryz.ntmps52
  (go_wp2_with fail); refine ent1 w _ _ (Q := fun W => Calls Tryz.prog _ _ W _) ?_; intro x1 hb hs_x1 V4; replace B0 := step B0 hb; clear hb hs_x1; refine (HSx.out _).mono ?_; rintro e x2 ⟨rfl, hw⟩; rw [hw]; clear hw; (go_wp2_with fail); refine (HSy.out _).mono ?_; rintro e x3 ⟨rfl, hw⟩; rw [hw]; clear hw; (go_wp2_with fail); refine (HCo.out x1).mono ?_; rintro e x4 ⟨rfl, hb⟩; replace V4 := Va.after hb V4; replace B0 := step B0 hb; clear hb; (go_wp2_with fail); refine wp_region_noPanic ?_; replace V4 : Va x4.drew _ _ _ := V4; replace B0 := Below.drew B0; refine wp_region_held_drew (S := (fun W => True)) (by kernel_rfl) trivial (fun hHeld => ?_); (obtain ⟨x5, hxd⟩ : ∃ xd, xd = x4.drew := ⟨_, rfl⟩); rw [← hxd] at V4 B0 ⊢; clear hxd; refine tk 0 rfl hHeld ?_; simp only [gA, gB, Act.put, gD, gE, gF]; refine wpAnyH_take (i := 1) (v := .bool sb) rfl (by kernel_rfl) (by kernel_rfl) (by kernel_rfl) (fun _ _ _ h => h) (Or.inl ⟨by rfl, ?_⟩) hHeld ?_
  · (intro W hSw; (try dsimp only at hSw); go_simp; first | rfl | (rw [hsb]) | skip)
  simp only [gA, gB, gC, Act.put, gD, gE, gF]; refine tk 2 rfl hHeld ?_; simp only [gA, gB, gC, Act.put, gD, gE, gF]; refine wpAnyH_take (i := 3) (v := .bool false) rfl (by kernel_rfl) (by kernel_rfl) (by kernel_rfl) (fun _ _ _ h => h) (Or.inl ⟨by rfl, ?_⟩) hHeld ?_
  · (intro W hSw; (try dsimp only at hSw); go_simp; first | rfl | (rw [g4]) | (simp; omega) | skip)
  simp only [gA, gB, gC, Act.put, gD, gE, gF]; refine wpAnyH_take (i := 4) (v := .bool sb) rfl (by kernel_rfl) (by kernel_rfl) (by kernel_rfl) (fun _ _ _ h => h) (Or.inl ⟨by rfl, ?_⟩) hHeld ?_
  · (intro W hSw; (try dsimp only at hSw); go_simp; first | rfl | (cases sb <;> rfl) | skip)
  simp only [gA, gB, gC, Act.put, gD, gE, gF]; refine tk 5 rfl hHeld ?_; simp only [gA, gB, gC, Act.put, gD, gE, gF]; refine tk 6 rfl hHeld ?_; simp only [gA, gB, gC, Act.put, gD, gE, gF]; refine wpAnyH_take (i := 7) (v := .int .u64 (n : Int)) rfl (by kernel_rfl) (by kernel_rfl) (by kernel_rfl) (fun _ _ _ h => h) (Or.inl ⟨by rfl, ?_⟩) hHeld ?_
  · (intro W hSw; (try dsimp only at hSw); go_simp; first | rfl | (rw [if_neg HG0.out, HD1.out]) | skip)
  simp only [gA, gB, gC, Act.put, gD, gE, gF]; refine tk 9 rfl hHeld ?_; simp only [gA, gB, gC, Act.put, gD, gE, gF]; refine tk 10 rfl hHeld ?_; simp only [gA, gB, gC, Act.put, gD, gE, gF]; refine wpAnyH_take (i := 11) (v := .int .u64 (d : Int)) rfl (by kernel_rfl) (by kernel_rfl) (by kernel_rfl) (fun _ _ _ h => h) (Or.inl ⟨by rfl, ?_⟩) hHeld ?_
  · (intro W hSw; (try dsimp only at hSw); go_simp; first | rfl | (rw [if_neg HG0.out, HD2.out]) | skip)
  simp only [gA, gB, gC, Act.put, gD, gE, gF]; refine wpAnyH_ready (rs := [8, 12]) (by kernel_rfl) (by simp) ?_; refine AllReadyH.cons rfl (fun K hK => ?_) (AllReadyH.cons rfl (fun K hK => ?_) AllReadyH.nil)
  ·
    simp only [gA, gB, gC]; (go_simp); have lt_Vn_V4 := V4.lt; have sz_Vn := B0.size; refine ent1 _ _ _ (Q := fun V => K _ V) ?_; intro x6 hb hs_ Vn; replace V4 := Va.after hb V4; replace B0 := step B0 hb; clear hb hs_; refine hK.out _ _ trivial (fun hHeld => ?_); clear hK K; refine wpAnyH_ready (rs := [12]) (by kernel_rfl) (by simp) ?_; refine AllReadyH.cons rfl (fun K hK => ?_) AllReadyH.nil
    ·
      simp only [gA, gB, gC]; (go_simp); have lt_Vd_V4 := V4.lt; have lt_Vd_Vn := Vn.lt; have sz_Vd := B0.size; refine ent1 _ _ _ (Q := fun V => K _ V) ?_; intro x7 hb hs_ Vd; replace V4 := Va.after hb V4; replace Vn := Va.after hb Vn; replace B0 := step B0 hb; clear hb hs_; refine hK.out _ _ trivial (fun hHeld => ?_); clear hK K; refine tk 13 rfl hHeld ?_; simp only [gA, gB, gC, Act.put, gD, gE, gF]; have hzn := Vn.limb HB.out.1; have hzd := Vd.limb HB.out.2; clear Vn Vd; have c_V4 := V4.d0; have f0_V4 := V4.frozen 0; have d_V4 := V4.d1; have f1_V4 := V4.frozen 1; have e_V4 := V4.d2; have f2_V4 := V4.frozen 2; have l_V4 := V4.lt; have m_V4 := Nat.le_of_lt l_V4; refine wpAnyH_ready (rs := [14]) (by kernel_rfl) (by simp) ?_; refine AllReadyH.cons rfl (fun K hK => ?_) AllReadyH.nil; simp only [gA, gB, gC]; (go_simp); clear c_V4 f0_V4 d_V4 f1_V4 e_V4 f2_V4 l_V4 m_V4; refine sto3 V4 (.bool sb) (.slice (some ⟨x5.heap.size, 0, none⟩) 1 1) (.slice (some ⟨x6.heap.size, 0, none⟩) 1 1) (Q := fun W => K _ W) ?_
      intro x8 V' oth far; replace hzn := hzn.far V4 (noInt3 _ _ _ _ _ _ _) far.1; replace hzd := hzd.far V4 (noInt3 _ _ _ _ _ _ _) far.1; replace B0 := far.2 _ _ (by first | omega | (simp; omega)) B0; replace V4 := V'; clear oth far; refine hK.out _ _ trivial (fun hHeld => ?_); clear hK K; refine wpAnyH_done (by kernel_rfl) ?_ _; refine NoPanic.normal ?_; clear hHeld; (go_wp2_with fail); refine bodyPost_ret (results_ra rfl rfl V4) rfl ?_; refine ⟨sb, _, 1, 1, [(n : Int)], _, 1, 1, [(d : Int)], rfl, ratio_rr HRR.out hzn hzd, ratio_norm HRR.out, B0⟩
  ·
    simp only [gA, gB, gC]; (go_simp); have lt_Vd_V4 := V4.lt; have sz_Vd := B0.size; refine ent1 _ _ _ (Q := fun V => K _ V) ?_; intro x6 hb hs_ Vd; replace V4 := Va.after hb V4; replace B0 := step B0 hb; clear hb hs_; refine hK.out _ _ trivial (fun hHeld => ?_); clear hK K; refine wpAnyH_ready (rs := [8]) (by kernel_rfl) (by simp) ?_; refine AllReadyH.cons rfl (fun K hK => ?_) AllReadyH.nil
    ·
      simp only [gA, gB, gC]; (go_simp); have lt_Vn_V4 := V4.lt; have lt_Vn_Vd := Vd.lt; have sz_Vn := B0.size; refine ent1 _ _ _ (Q := fun V => K _ V) ?_; intro x7 hb hs_ Vn; replace V4 := Va.after hb V4; replace Vd := Va.after hb Vd; replace B0 := step B0 hb; clear hb hs_; refine hK.out _ _ trivial (fun hHeld => ?_); clear hK K; refine tk 13 rfl hHeld ?_; simp only [gA, gB, gC, Act.put, gD, gE, gF]; have hzn := Vn.limb HB.out.1; have hzd := Vd.limb HB.out.2; clear Vn Vd; have c_V4 := V4.d0; have f0_V4 := V4.frozen 0; have d_V4 := V4.d1; have f1_V4 := V4.frozen 1; have e_V4 := V4.d2; have f2_V4 := V4.frozen 2; have l_V4 := V4.lt; have m_V4 := Nat.le_of_lt l_V4; refine wpAnyH_ready (rs := [14]) (by kernel_rfl) (by simp) ?_; refine AllReadyH.cons rfl (fun K hK => ?_) AllReadyH.nil; simp only [gA, gB, gC]; (go_simp); clear c_V4 f0_V4 d_V4 f1_V4 e_V4 f2_V4 l_V4 m_V4; refine sto3 V4 (.bool sb) (.slice (some ⟨x6.heap.size, 0, none⟩) 1 1) (.slice (some ⟨x5.heap.size, 0, none⟩) 1 1) (Q := fun W => K _ W) ?_
      intro x8 V' oth far; replace hzn := hzn.far V4 (noInt3 _ _ _ _ _ _ _) far.1; replace hzd := hzd.far V4 (noInt3 _ _ _ _ _ _ _) far.1; replace B0 := far.2 _ _ (by first | omega | (simp; omega)) B0; replace V4 := V'; clear oth far; refine hK.out _ _ trivial (fun hHeld => ?_); clear hK K; refine wpAnyH_done (by kernel_rfl) ?_ _; refine NoPanic.normal ?_; clear hHeld; (go_wp2_with fail); refine bodyPost_ret (results_ra rfl rfl V4) rfl ?_; refine ⟨sb, _, 1, 1, [(n : Int)], _, 1, 1, [(d : Int)], rfl, ratio_rr HRR.out hzn hzd, ratio_norm HRR.out, B0⟩

set_option maxHeartbeats 2000000 in
theorem oflaw8 (s : Bool) (a : Option Addr) (l c : Nat) (zs : List Int) (b : Option Addr) (m d : Nat) (ys : List Int) (v : Rat) (w : World) (hr : Rr w s a l c zs b m d ys v) (hN : Hid (Norm s zs ys ∧ l ≤ 1024 ∧ m ≤ 1024)) :
    Calls Tryz.prog 18 #[.agg #[.bool s, .slice a l c, .slice b m d]] w fun e w' => ∃ s' a' l' c' zs' b' m' d' ds', e = .returned (.agg #[.bool s', .slice a' l' c', .slice b' m' d']) ∧ Rt w' s' a' l' c' zs' b' m' d' ds' v ∧ Below w.heap.size w w' := by
  have B0 : Below w.heap.size w w := Below.refl _ _
  go_enter Tryz.func18, Tryz.ntmps18
  go_wp2_with fail
  refine ent2 w _ _ _ _ (Q := fun W => Calls Tryz.prog _ _ W _) ?_
  intro x1 hb hs_x1 V1 V2
  replace hr := Rr.after hb hr
  replace B0 := step B0 hb
  clear hb hs_x1
  refine (copyr7 s a l c zs b m d ys v x1 hr (by have h5 := hN.out.2.1; omega) (by have h5 := hN.out.2.2; omega)).mono ?_
  rintro e x2 ⟨a2, c2, b2, d2, rfl, h2, hb⟩
  replace V1 := Va.after hb V1
  replace V2 := Va.after hb V2
  replace hr := Rr.after hb hr
  replace B0 := step B0 hb
  clear hb
  have c_V2 := V2.d0
  have f0_V2 := V2.frozen 0
  have d_V2 := V2.d1
  have f1_V2 := V2.frozen 1
  have e_V2 := V2.d2
  have f2_V2 := V2.frozen 2
  have l_V2 := V2.lt
  have m_V2 := Nat.le_of_lt l_V2
  go_wp2_with fail
  refine (qof_ok s a2 l c2 zs b2 m d2 ys v x2 ⟨h2.1, h2.2.1, h2.2.2.2.2.1⟩ hN.out.2.1 hN.out.2.2 hN.out.1 h2.2.2.2.2.2.1 h2.2.2.2.2.2.2.1).mono ?_
  rintro e x3 ⟨s3, a3, l3, c3, z3, b3, m3, d3, y3, rfl, h3, -, hb⟩
  replace V1 := Va.after hb V1
  replace V2 := Va.after hb V2
  replace hr := Rr.after hb hr
  replace h2 := Rr.after hb h2
  replace B0 := step B0 hb
  clear hb
  clear c_V2 f0_V2 d_V2 f1_V2 e_V2 f2_V2 l_V2 m_V2
  have c_V2 := V2.d0
  have f0_V2 := V2.frozen 0
  have d_V2 := V2.d1
  have f1_V2 := V2.frozen 1
  have e_V2 := V2.d2
  have f2_V2 := V2.frozen 2
  have l_V2 := V2.lt
  have m_V2 := Nat.le_of_lt l_V2
  have p0_V2 := (V2.old (.cells #[.bool s3, .slice a3 l3 c3, .slice b3 m3 d3] 31)).d0
  have q0_V2 := (V2.old (.cells #[.bool s3, .slice a3 l3 c3, .slice b3 m3 d3] 31)).frozen 0
  have p1_V2 := (V2.old (.cells #[.bool s3, .slice a3 l3 c3, .slice b3 m3 d3] 31)).d1
  have q1_V2 := (V2.old (.cells #[.bool s3, .slice a3 l3 c3, .slice b3 m3 d3] 31)).frozen 1
  have p2_V2 := (V2.old (.cells #[.bool s3, .slice a3 l3 c3, .slice b3 m3 d3] 31)).d2
  have q2_V2 := (V2.old (.cells #[.bool s3, .slice a3 l3 c3, .slice b3 m3 d3] 31)).frozen 2
  go_wp2_with fail
  refine bodyPost_ret (results_r rfl rfl ((V2.set3 _ _ _).old _)) rfl ?_
  exact ⟨s3, a3, l3, c3, z3, b3, m3, d3, y3, rfl, Rt.after ((Below.refl _ _).alloc (Nat.le_refl _) _) (h3.far V2 (noInt3 _ _ _ _ _ _ _) (fa3 _ _ _ _ _)), (belo3 B0 (by omega) _ _ _).alloc (belo3 B0 (by omega) _ _ _).size _⟩

theorem one_same (x : Nat) (w : World) : Calls Tryz.prog 21 #[.float .f64 x, .float .f64 x] w fun e w' => e = .returned (.bool true) ∧ w' = w := by
  have f1 := fbits x
  go_enter Tryz.func21, Tryz.ntmps21
  go_wp2_with fail
  go_ret
  exact ⟨rfl, rfl⟩
end Go.Proofs.YtogabmggdcefaaaGreat
