/-
  Put together of: Rf1, Rf2.
-/
import Derived.Test.YtjlodljgfjjclaaGreatTk
import Derived.Test.YtjlodljgfjjclaaGreatAl
import Derived.Test.YtjlodljgfjjclaaGreatRe8
import Derived.Test.YtjlodljgfjjclaaGreatBtB
import Derived.Test.YtjlodljgfjjclaaGreatBsQ
import Derived.BigRegion
namespace Go.Proofs.YtjlodljgfjjclaaGreat
open Go.RowKit Go.Shelf
set_option linter.unusedVariables false

theorem size8 (x : Int) (h1 : -9223372036854775808 ≤ x) (h2 : x ≤ 9223372036854775807) (w : World) : Calls Tryz.prog 87 #[.int .i64 x] w fun e w' => e = .returned (.int .u64 (x.natAbs : Int)) ∧ w' = w := by
  obtain ⟨y, hy⟩ : ∃ y, x.natAbs = y := ⟨_, rfl⟩
  rw [hy]
  by_cases g : x < 0
  · have g1 : decide (x < 0) = true := decide_eq_true g
    have e1 : IntKind.u64.wrap x = x + 18446744073709551616 := by rw [IntKind.wrap_u64]; omega
    have e2 : IntKind.u64.wrap (-(x + 18446744073709551616)) = (y : Int) := by rw [IntKind.wrap_u64]; omega
    clear hy h1 h2
    go_enter Tryz.func87, Tryz.ntmps87
    go_wp2_with fail
    go_ret
    exact ⟨rfl, rfl⟩
  · have g1 : decide (x < 0) = false := decide_eq_false g
    have e1 : IntKind.u64.wrap x = (y : Int) := by rw [IntKind.wrap_u64]; omega
    clear hy h1 h2
    go_enter Tryz.func87, Tryz.ntmps87
    go_wp2_with fail
    go_ret
    exact ⟨rfl, rfl⟩
theorem common8 (x y : Nat) (hx : x < 18446744073709551616) (hy : y < 18446744073709551616) (w : World) : Calls Tryz.prog 88 #[.int .u64 (x : Int), .int .u64 (y : Int)] w fun e w' => e = .returned (.int .u64 (Nat.gcd x y : Int)) ∧ Below w.heap.size w w' := by
  obtain ⟨G, hG⟩ : ∃ G, Nat.gcd x y = G := ⟨_, rfl⟩
  rw [hG]
  have HG : Hid (Nat.gcd x y = G) := hG
  have HX : Hid (x < 18446744073709551616 ∧ y < 18446744073709551616) := ⟨hx, hy⟩
  clear hG hx hy
  go_enter Tryz.func88, Tryz.ntmps88
  go_wp2_with fail
  go_loopw [0, 1] (fun a b wr => (∃ q, wr = w.drewN q) ∧ ∃ (i j : Nat), a = .int .u64 (i : Int) ∧ b = .int .u64 (j : Int) ∧ Hid (i < 18446744073709551616 ∧ j < 18446744073709551616) ∧ Hid (Nat.gcd i j = G)) (fun _ b _ => (intOf b).toNat)
  case atStart => exact ⟨⟨0, rfl⟩, x, y, rfl, rfl, HX, HG⟩
  case round =>
    clear HX HG
    obtain ⟨⟨q, rfl⟩, i, j, rfl, rfl, HX, HG⟩ := hrel
    by_cases hz : j = 0
    · subst hz
      have hG : i = G := by rw [← HG.out, Nat.gcd_zero_right]
      subst hG
      go_wp2_with fail
      go_ret
      exact ⟨rfl, below_drewN (Below.refl _ _) q⟩
    · have g1 : decide (0 < (j : Int)) = true := by rw [decide_eq_true_iff]; omega
      have g2 : ((j : Int) == 0) = false := by rw [beq_eq_false_iff_ne]; omega
      have g3 : ¬ ((j : Int) = 0) := by omega
      have g4 : 0 < j := by omega
      obtain ⟨r, hr⟩ : ∃ r, i % j = r := ⟨_, rfl⟩
      have htm : (i : Int).tmod (j : Int) = (r : Int) := by rw [Int.tmod_eq_emod_of_nonneg (by omega), ← hr]; rfl
      have hlt : r < j := by rw [← hr]; exact Nat.mod_lt _ g4
      have HG2 : Hid (Nat.gcd j r = G) := by
        show _ = _
        rw [← hr, ← HG.out, Nat.gcd_comm i j, Nat.gcd_rec j i, Nat.gcd_comm]
      have HX2 : Hid (j < 18446744073709551616 ∧ r < 18446744073709551616) := ⟨HX.out.2, by have := HX.out.2; omega⟩
      clear hr hz
      go_wp2_with fail
      go_quiet (fail)
      go_wp2_with fail
      go_roundw
      case rel => exact ⟨⟨_, World.drewN_drewN _ _ _⟩, j, r, rfl, rfl, HX2, HG2⟩
      case measure => simp [intOf]; omega

theorem Va.limb {w : World} {b : Nat} {t : TypeId} {x : Int} (h : Va w b t #[.int .u64 x]) (hx : Word x) : Sl w (some ⟨b, 0, none⟩) 1 [x] := by
  refine ⟨rfl, ?_, fun _ => ⟨b, 0, rfl, fun i hi => ?_⟩⟩
  · intro z hz
    simp at hz; subst hz; exact hx
  · obtain rfl : i = 0 := by omega
    exact h.cell
/-- A ratio as it is told. -/
def Rq (w : World) (v : Rat) (e : Ending) (w' : World) : Prop := ∃ s a l c zs b m d ys, e = .returned (.agg #[.bool s, .slice a l c, .slice b m d]) ∧ Rr w' s a l c zs b m d ys v ∧ Hid (Norm s zs ys ∧ l ≤ 1024 ∧ m ≤ 1024) ∧ Below w.heap.size w w'
theorem ratio_num {x y : Int} (x0 : x ≠ 0) (y0 : 0 < y) {n e : Nat} (hn : x.natAbs / Nat.gcd x.natAbs y.natAbs = n) (he : y.natAbs / Nat.gcd x.natAbs y.natAbs = e) :
    iv (decide (x < 0)) [(n : Int)] = (Rat.divInt x y).num ∧ num [(e : Int)] = (Rat.divInt x y).den ∧ n ≠ 0 ∧ e ≠ 0 ∧ Nat.gcd n e = 1 := by
  have g0 : 0 < Nat.gcd x.natAbs y.natAbs := Nat.gcd_pos_of_pos_left _ (by omega)
  have q1 : n * Nat.gcd x.natAbs y.natAbs = x.natAbs := by rw [← hn]; exact Nat.div_mul_cancel (Nat.gcd_dvd_left _ _)
  have q2 : e * Nat.gcd x.natAbs y.natAbs = y.natAbs := by rw [← he]; exact Nat.div_mul_cancel (Nat.gcd_dvd_right _ _)
  obtain ⟨r1, r2⟩ := rat_new x y (by omega) rfl q1 q2
  have n0 : n ≠ 0 := by intro h; rw [h, Nat.zero_mul] at q1; omega
  have e0 : e ≠ 0 := by intro h; rw [h, Nat.zero_mul] at q2; omega
  refine ⟨?_, ?_, n0, e0, ?_⟩
  · rw [r1, Int.sign_eq_one_of_pos y0, Int.one_mul]
    unfold iv
    by_cases g : x < 0
    · simp [g, num]
    · simp [g, num]
  · rw [r2]; simp [num]
  · rw [← hn, ← he]; exact Nat.gcd_div_gcd_div_gcd_of_pos_left (by omega)

theorem ratio_norm {s : Bool} {n d : Nat} {v : Rat} (h : iv s [(n : Int)] = v.num ∧ num [(d : Int)] = v.den ∧ n ≠ 0 ∧ d ≠ 0 ∧ Nat.gcd n d = 1) : Hid (Norm s [(n : Int)] [(d : Int)] ∧ 1 ≤ 1024 ∧ 1 ≤ 1024) := by
  obtain ⟨-, -, n0, d0, hg⟩ := h
  refine ⟨⟨?_, ?_, by simp, by simp, ?_⟩, by omega, by omega⟩
  · simp [usedN]; omega
  · simp [usedN]; omega
  · simp only [num, Int.mul_zero, Int.add_zero]
    exact hg
theorem ratio_rr {w : World} {s : Bool} {a b : Option Addr} {n d : Nat} {v : Rat} (h : iv s [(n : Int)] = v.num ∧ num [(d : Int)] = v.den ∧ n ≠ 0 ∧ d ≠ 0 ∧ Nat.gcd n d = 1) (h1 : Sl w a 1 [(n : Int)]) (h2 : Sl w b 1 [(d : Int)]) : Rr w s a 1 1 [(n : Int)] b 1 1 [(d : Int)] v := by
  obtain ⟨e1, e2, n0, d0, hg⟩ := h
  refine ⟨h1, h2, ?_, ?_, ⟨Nat.le_refl _, Nat.le_refl _⟩, e1, e2, fun _ => ?_⟩
  · simp [usedN]; omega
  · simp [usedN]; omega
  · simp [num]; omega

set_option maxHeartbeats 2000000 in
theorem ratioOf8 (x y : Int) (x0 : x ≠ 0) (x1 : -9223372036854775808 ≤ x) (x2 : x ≤ 9223372036854775807) (y0 : 0 < y) (y2 : y ≤ 9223372036854775807) (w : World) :
    Calls Tryz.prog 46 #[.int .i64 x, .int .i64 y] w fun e w' => Rq w (Rat.divInt x y) e w' := by
  (obtain ⟨n, hn⟩ : ∃ n, x.natAbs / Nat.gcd x.natAbs y.natAbs = n := ⟨_, rfl⟩); (obtain ⟨d, hd⟩ : ∃ d, y.natAbs / Nat.gcd x.natAbs y.natAbs = d := ⟨_, rfl⟩); have HR := ratio_num x0 y0 hn hd; have g0 : 0 < Nat.gcd x.natAbs y.natAbs := Nat.gcd_pos_of_pos_left _ (by omega); (have nb : n ≤ x.natAbs := by rw [← hn]; exact Nat.div_le_self _ _); (have db : d ≤ y.natAbs := by rw [← hd]; exact Nat.div_le_self _ _); (have HD1 : Hid (IntKind.u64.wrap ((x.natAbs : Int) / (Nat.gcd x.natAbs y.natAbs : Int)) = (n : Int)) := by show _ = _; rw [show ((x.natAbs : Int) / (Nat.gcd x.natAbs y.natAbs : Int)) = (n : Int) by rw [← hn]; rfl, IntKind.wrap_u64]; omega); (have HD2 : Hid (IntKind.u64.wrap ((y.natAbs : Int) / (Nat.gcd x.natAbs y.natAbs : Int)) = (d : Int)) := by show _ = _; rw [show ((y.natAbs : Int) / (Nat.gcd x.natAbs y.natAbs : Int)) = (d : Int) by rw [← hd]; rfl, IntKind.wrap_u64]; omega); have HS := size8 x x1 x2
  have HS2 := size8 y (by omega) y2; have HC := common8 x.natAbs y.natAbs (by omega) (by omega); (obtain ⟨X, hX⟩ : ∃ X, x.natAbs = X := ⟨_, rfl⟩); (obtain ⟨Y, hY⟩ : ∃ Y, y.natAbs = Y := ⟨_, rfl⟩); (obtain ⟨G, hG⟩ : ∃ G, Nat.gcd x.natAbs y.natAbs = G := ⟨_, rfl⟩); rw [hG] at HD1 HD2 HC g0; rw [hX] at HD1 HS HC; rw [hY] at HD2 HS2 HC; have HB : Hid (Word (n : Int) ∧ Word (d : Int)) := ⟨⟨by omega, by omega⟩, ⟨by omega, by omega⟩⟩; (have g1 : (y == 0) = false := by rw [beq_eq_false_iff_ne]; omega); (have g2 : (x == 0) = false := by rw [beq_eq_false_iff_ne]; omega); (have g3 : ¬ (y = 0) := by omega); (have g4 : decide (y < 0) = false := by rw [decide_eq_false_iff_not]; omega); (have g7 : ¬ (y < 0) := by omega); (have g5 : ¬ ((G : Int) = 0) := by omega); (have HG0 : Hid (¬ G = 0) := by show ¬ _; omega); (have g6 : ((G : Int) == 0) = false := by rw [beq_eq_false_iff_ne]; omega); have HSx : Hid (∀ w, Calls Tryz.prog 87 #[.int .i64 x] w fun e w' => e = .returned (.int .u64 (X : Int)) ∧ w' = w) := HS
  have HSy : Hid (∀ w, Calls Tryz.prog 87 #[.int .i64 y] w fun e w' => e = .returned (.int .u64 (Y : Int)) ∧ w' = w) := HS2; have HCo : Hid (∀ w, Calls Tryz.prog 88 #[.int .u64 (X : Int), .int .u64 (Y : Int)] w fun e w' => e = .returned (.int .u64 (G : Int)) ∧ Below w.heap.size w w') := HC; have HRR : Hid (iv (decide (x < 0)) [(n : Int)] = (Rat.divInt x y).num ∧ num [(d : Int)] = (Rat.divInt x y).den ∧ n ≠ 0 ∧ d ≠ 0 ∧ Nat.gcd n d = 1) := HR; (obtain ⟨sb, hsb⟩ : ∃ sb, decide (x < 0) = sb := ⟨_, rfl⟩); rw [hsb] at HRR; clear hX hY hG hn hd x1 x2 y0 y2 nb db HS HS2 HC HR g0; have B0 : Below w.heap.size w w := Below.refl _ _
  go_enter Tryz.func46, Tryz.ntmps46
  (go_wp2_with fail); refine ent1 w _ _ (Q := fun W => Calls Tryz.prog _ _ W _) ?_; intro x1 hb hs_x1 V4; replace B0 := step B0 hb; clear hb hs_x1; refine (HSx.out _).mono ?_; rintro e x2 ⟨rfl, hw⟩; rw [hw]; clear hw; (go_wp2_with fail); refine (HSy.out _).mono ?_; rintro e x3 ⟨rfl, hw⟩; rw [hw]; clear hw; (go_wp2_with fail); refine (HCo.out x1).mono ?_; rintro e x4 ⟨rfl, hb⟩; replace V4 := Va.after hb V4; replace B0 := step B0 hb; clear hb; (go_wp2_with fail); refine wp_region_noPanic ?_; replace V4 : Va x4.drew _ _ _ := V4; replace B0 := Below.drew B0; refine wp_region_held_drew (S := (fun W => True)) (by kernel_rfl) trivial (fun hHeld => ?_); (obtain ⟨x5, hxd⟩ : ∃ xd, xd = x4.drew := ⟨_, rfl⟩); rw [← hxd] at V4 B0 ⊢; clear hxd; refine tk 0 rfl hHeld ?_; simp only [gA, gB, Act.put, gD, gE, gF]; refine wpAnyH_take (i := 1) (v := .bool sb) rfl (by kernel_rfl) (by kernel_rfl) (by kernel_rfl) (fun _ _ _ h => h) (Or.inl ⟨by rfl, ?_⟩) hHeld ?_
  · (intro W hSw; (try dsimp only at hSw); go_simp; first | rfl | (rw [hsb]) | skip)
  simp only [gA, gB, gC, Act.put, gD, gE, gF]; refine tk 2 rfl hHeld ?_; simp only [gA, gB, gC, Act.put, gD, gE, gF]; refine wpAnyH_take (i := 3) (v := .bool false) rfl (by kernel_rfl) (by kernel_rfl) (by kernel_rfl) (fun _ _ _ h => h) (Or.inl ⟨by rfl, ?_⟩) hHeld ?_
  · (intro W hSw; (try dsimp only at hSw); go_simp; first | rfl | (rw [g4]) | (simp; omega) | skip)
  simp only [gA, gB, gC, Act.put, gD, gE, gF]; refine wpAnyH_take (i := 4) (v := .bool sb) rfl (by kernel_rfl) (by kernel_rfl) (by kernel_rfl) (fun _ _ _ h => h) (Or.inl ⟨by rfl, ?_⟩) hHeld ?_
  · (intro W hSw; (try dsimp only at hSw); go_simp; first | rfl | (cases sb <;> rfl) | skip)
  simp only [gA, gB, gC, Act.put, gD, gE, gF]; refine tk 5 rfl hHeld ?_; simp only [gA, gB, gC, Act.put, gD, gE, gF]; refine tk 6 rfl hHeld ?_; simp only [gA, gB, gC, Act.put, gD, gE, gF]; refine wpAnyH_take (i := 7) (v := .int .u64 (n : Int)) rfl (by kernel_rfl) (by kernel_rfl) (by kernel_rfl) (fun _ _ _ h => h) (Or.inl ⟨by rfl, ?_⟩) hHeld ?_
  · (intro W hSw; (try dsimp only at hSw); go_simp; first | rfl | (rw [if_neg HG0.out, HD1.out]) | skip)
  simp only [gA, gB, gC, Act.put, gD, gE, gF]; refine tk 9 rfl hHeld ?_; simp only [gA, gB, gC, Act.put, gD, gE, gF]; refine tk 10 rfl hHeld ?_; simp only [gA, gB, gC, Act.put, gD, gE, gF]; refine wpAnyH_take (i := 11) (v := .int .u64 (d : Int)) rfl (by kernel_rfl) (by kernel_rfl) (by kernel_rfl) (fun _ _ _ h => h) (Or.inl ⟨by rfl, ?_⟩) hHeld ?_
  · (intro W hSw; (try dsimp only at hSw); go_simp; first | rfl | (rw [if_neg HG0.out, HD2.out]) | skip)
  simp only [gA, gB, gC, Act.put, gD, gE, gF]; refine wpAnyH_ready (rs := [8, 12]) (by kernel_rfl) (by simp) ?_; refine AllReadyH.cons rfl (fun K hK => ?_) (AllReadyH.cons rfl (fun K hK => ?_) AllReadyH.nil)
  ·
    simp only [gA, gB, gC]; (go_simp); have lt_Vn_V4 := V4.lt; have sz_Vn := B0.size; refine ent1 _ _ _ (Q := fun V => K _ V) ?_; intro x6 hb hs_ Vn; replace V4 := Va.after hb V4; replace B0 := step B0 hb; clear hb hs_; refine hK.out _ _ trivial (fun hHeld => ?_); clear hK K; refine wpAnyH_ready (rs := [12]) (by kernel_rfl) (by simp) ?_; refine AllReadyH.cons rfl (fun K hK => ?_) AllReadyH.nil
    ·
      simp only [gA, gB, gC]; (go_simp); have lt_Vd_V4 := V4.lt; have lt_Vd_Vn := Vn.lt; have sz_Vd := B0.size; refine ent1 _ _ _ (Q := fun V => K _ V) ?_; intro x7 hb hs_ Vd; replace V4 := Va.after hb V4; replace Vn := Va.after hb Vn; replace B0 := step B0 hb; clear hb hs_; refine hK.out _ _ trivial (fun hHeld => ?_); clear hK K; refine tk 13 rfl hHeld ?_; simp only [gA, gB, gC, Act.put, gD, gE, gF]; have hzn := Vn.limb HB.out.1; have hzd := Vd.limb HB.out.2; clear Vn Vd; have c_V4 := V4.d0; have f0_V4 := V4.frozen 0; have d_V4 := V4.d1; have f1_V4 := V4.frozen 1; have e_V4 := V4.d2; have f2_V4 := V4.frozen 2; have l_V4 := V4.lt; have m_V4 := Nat.le_of_lt l_V4; refine wpAnyH_ready (rs := [14]) (by kernel_rfl) (by simp) ?_; refine AllReadyH.cons rfl (fun K hK => ?_) AllReadyH.nil; simp only [gA, gB, gC]; (go_simp); clear c_V4 f0_V4 d_V4 f1_V4 e_V4 f2_V4 l_V4 m_V4; refine sto3 V4 (.bool sb) (.slice (some ⟨x5.heap.size, 0, none⟩) 1 1) (.slice (some ⟨x6.heap.size, 0, none⟩) 1 1) (Q := fun W => K _ W) ?_
      intro x8 V' oth far; replace hzn := hzn.far V4 (noInt3 _ _ _ _ _ _ _) far.1; replace hzd := hzd.far V4 (noInt3 _ _ _ _ _ _ _) far.1; replace B0 := far.2 _ _ (by first | omega | (simp; omega)) B0; replace V4 := V'; clear oth far; refine hK.out _ _ trivial (fun hHeld => ?_); clear hK K; refine wpAnyH_done (by kernel_rfl) ?_ _; refine NoPanic.normal ?_; clear hHeld; (go_wp2_with fail); refine bodyPost_ret (results_ra rfl rfl V4) rfl ?_; refine ⟨sb, _, 1, 1, [(n : Int)], _, 1, 1, [(d : Int)], rfl, ratio_rr HRR.out hzn hzd, ratio_norm HRR.out, B0⟩
  ·
    simp only [gA, gB, gC]; (go_simp); have lt_Vd_V4 := V4.lt; have sz_Vd := B0.size; refine ent1 _ _ _ (Q := fun V => K _ V) ?_; intro x6 hb hs_ Vd; replace V4 := Va.after hb V4; replace B0 := step B0 hb; clear hb hs_; refine hK.out _ _ trivial (fun hHeld => ?_); clear hK K; refine wpAnyH_ready (rs := [8]) (by kernel_rfl) (by simp) ?_; refine AllReadyH.cons rfl (fun K hK => ?_) AllReadyH.nil
    ·
      simp only [gA, gB, gC]; (go_simp); have lt_Vn_V4 := V4.lt; have lt_Vn_Vd := Vd.lt; have sz_Vn := B0.size; refine ent1 _ _ _ (Q := fun V => K _ V) ?_; intro x7 hb hs_ Vn; replace V4 := Va.after hb V4; replace Vd := Va.after hb Vd; replace B0 := step B0 hb; clear hb hs_; refine hK.out _ _ trivial (fun hHeld => ?_); clear hK K; refine tk 13 rfl hHeld ?_; simp only [gA, gB, gC, Act.put, gD, gE, gF]; have hzn := Vn.limb HB.out.1; have hzd := Vd.limb HB.out.2; clear Vn Vd; have c_V4 := V4.d0; have f0_V4 := V4.frozen 0; have d_V4 := V4.d1; have f1_V4 := V4.frozen 1; have e_V4 := V4.d2; have f2_V4 := V4.frozen 2; have l_V4 := V4.lt; have m_V4 := Nat.le_of_lt l_V4; refine wpAnyH_ready (rs := [14]) (by kernel_rfl) (by simp) ?_; refine AllReadyH.cons rfl (fun K hK => ?_) AllReadyH.nil; simp only [gA, gB, gC]; (go_simp); clear c_V4 f0_V4 d_V4 f1_V4 e_V4 f2_V4 l_V4 m_V4; refine sto3 V4 (.bool sb) (.slice (some ⟨x6.heap.size, 0, none⟩) 1 1) (.slice (some ⟨x5.heap.size, 0, none⟩) 1 1) (Q := fun W => K _ W) ?_
      intro x8 V' oth far; replace hzn := hzn.far V4 (noInt3 _ _ _ _ _ _ _) far.1; replace hzd := hzd.far V4 (noInt3 _ _ _ _ _ _ _) far.1; replace B0 := far.2 _ _ (by first | omega | (simp; omega)) B0; replace V4 := V'; clear oth far; refine hK.out _ _ trivial (fun hHeld => ?_); clear hK K; refine wpAnyH_done (by kernel_rfl) ?_ _; refine NoPanic.normal ?_; clear hHeld; (go_wp2_with fail); refine bodyPost_ret (results_ra rfl rfl V4) rfl ?_; refine ⟨sb, _, 1, 1, [(n : Int)], _, 1, 1, [(d : Int)], rfl, ratio_rr HRR.out hzn hzd, ratio_norm HRR.out, B0⟩

set_option maxHeartbeats 2000000 in
theorem oflaw8 (s : Bool) (a : Option Addr) (l c : Nat) (zs : List Int) (b : Option Addr) (m d : Nat) (ys : List Int) (v : Rat) (w : World) (hr : Rr w s a l c zs b m d ys v) (hN : Hid (Norm s zs ys ∧ l ≤ 1024 ∧ m ≤ 1024)) :
    Calls Tryz.prog 16 #[.agg #[.bool s, .slice a l c, .slice b m d]] w fun e w' => ∃ s' a' l' c' zs' b' m' d' ds', e = .returned (.agg #[.bool s', .slice a' l' c', .slice b' m' d']) ∧ Rt w' s' a' l' c' zs' b' m' d' ds' v ∧ Below w.heap.size w w' := by
  have B0 : Below w.heap.size w w := Below.refl _ _
  go_enter Tryz.func16, Tryz.ntmps16
  go_wp2_with fail
  refine ent2 w _ _ _ _ (Q := fun W => Calls Tryz.prog _ _ W _) ?_
  intro x1 hb hs_x1 V1 V2
  replace hr := Rr.after hb hr
  replace B0 := step B0 hb
  clear hb hs_x1
  refine (copyr7 s a l c zs b m d ys v x1 hr (by have h5 := hN.out.2.1; omega) (by have h5 := hN.out.2.2; omega)).mono ?_
  rintro e x2 ⟨a2, c2, b2, d2, rfl, h2, hb⟩
  replace V1 := Va.after hb V1
  replace V2 := Va.after hb V2
  replace hr := Rr.after hb hr
  replace B0 := step B0 hb
  clear hb
  have c_V2 := V2.d0
  have f0_V2 := V2.frozen 0
  have d_V2 := V2.d1
  have f1_V2 := V2.frozen 1
  have e_V2 := V2.d2
  have f2_V2 := V2.frozen 2
  have l_V2 := V2.lt
  have m_V2 := Nat.le_of_lt l_V2
  go_wp2_with fail
  refine (qof_ok s a2 l c2 zs b2 m d2 ys v x2 ⟨h2.1, h2.2.1, h2.2.2.2.2.1⟩ hN.out.2.1 hN.out.2.2 hN.out.1 h2.2.2.2.2.2.1 h2.2.2.2.2.2.2.1).mono ?_
  rintro e x3 ⟨s3, a3, l3, c3, z3, b3, m3, d3, y3, rfl, h3, -, hb⟩
  replace V1 := Va.after hb V1
  replace V2 := Va.after hb V2
  replace hr := Rr.after hb hr
  replace h2 := Rr.after hb h2
  replace B0 := step B0 hb
  clear hb
  clear c_V2 f0_V2 d_V2 f1_V2 e_V2 f2_V2 l_V2 m_V2
  have c_V2 := V2.d0
  have f0_V2 := V2.frozen 0
  have d_V2 := V2.d1
  have f1_V2 := V2.frozen 1
  have e_V2 := V2.d2
  have f2_V2 := V2.frozen 2
  have l_V2 := V2.lt
  have m_V2 := Nat.le_of_lt l_V2
  have p0_V2 := (V2.old (.cells #[.bool s3, .slice a3 l3 c3, .slice b3 m3 d3] 31)).d0
  have q0_V2 := (V2.old (.cells #[.bool s3, .slice a3 l3 c3, .slice b3 m3 d3] 31)).frozen 0
  have p1_V2 := (V2.old (.cells #[.bool s3, .slice a3 l3 c3, .slice b3 m3 d3] 31)).d1
  have q1_V2 := (V2.old (.cells #[.bool s3, .slice a3 l3 c3, .slice b3 m3 d3] 31)).frozen 1
  have p2_V2 := (V2.old (.cells #[.bool s3, .slice a3 l3 c3, .slice b3 m3 d3] 31)).d2
  have q2_V2 := (V2.old (.cells #[.bool s3, .slice a3 l3 c3, .slice b3 m3 d3] 31)).frozen 2
  go_wp2_with fail
  refine bodyPost_ret (results_r rfl rfl ((V2.set3 _ _ _).old _)) rfl ?_
  exact ⟨s3, a3, l3, c3, z3, b3, m3, d3, y3, rfl, Rt.after ((Below.refl _ _).alloc (Nat.le_refl _) _) (h3.far V2 (noInt3 _ _ _ _ _ _ _) (fa3 _ _ _ _ _)), (belo3 B0 (by omega) _ _ _).alloc (belo3 B0 (by omega) _ _ _).size _⟩

theorem rnan8 (x : Nat) (h : x < 18446744073709551616) (w : World) : Calls Tryz.prog 64 #[.float .f64 x] w fun e w' => e = .returned (.bool (decide (9218868437227405312 < x % 9223372036854775808))) ∧ w' = w := by
  rw [← order_not h]
  go_enter Tryz.func64, Tryz.ntmps64
  go_wp2_with fail
  go_ret
  exact ⟨rfl, rfl⟩
theorem one_same (x : Nat) (w : World) : Calls Tryz.prog 19 #[.float .f64 x, .float .f64 x] w fun e w' => e = .returned (.bool true) ∧ w' = w := by
  have f1 := fbits x
  go_enter Tryz.func19, Tryz.ntmps19
  go_wp2_with fail
  go_ret
  exact ⟨rfl, rfl⟩
end Go.Proofs.YtjlodljgfjjclaaGreat

namespace Go.Proofs.YtjlodljgfjjclaaGreat
open Go.RowKit Go.Shelf
set_option linter.unusedVariables false

theorem K8_at (a b : Nat) (h : a + b = 1074) : K8 = 2 ^ a * 2 ^ b := by
  have := pow_shift 1 (a := 0) (u := a) (b := b) (c := 1074) (by omega)
  rw [← K8_eq, Nat.pow_zero, Nat.one_mul, Nat.one_mul] at this
  exact this
theorem pv_at {v : Rat} {N D : Nat} (hN : v.num.natAbs = N) (hD : v.den = D) (e q rest b k p : Nat) (h1 : b + e = 1074) (h2 : N * 2 ^ b = q * D + rest) (hr : rest < D) (hq : e = 0 ∨ 4503599627370496 ≤ q) (hq2 : q < 9007199254740992) (he : e ≤ 2045) (hk : e * 4503599627370496 + q = k)
    (hp : (p = 0 ∧ rest = 0) ∨ (p = 3 ∧ D < 2 * rest)) : Pv v k p := by
  unfold Pv
  rw [hN, hD, K8_at b e h1, ← hk]
  have := @pl_of (N * (2 ^ b * 2 ^ e)) D e q rest e D (by omega) hq hq2 he rfl (by rw [← Nat.mul_assoc, h2]) hr
  rcases hp with ⟨rfl, h⟩ | ⟨rfl, h⟩
  · exact this.1 h
  · exact this.2.2.2 h
theorem pv_34 : Pv (Rat.divInt (-3) 4) 4604930618986332160 0 :=
  pv_at (N := 3) (D := 4) (by decide +kernel) (by decide +kernel) 1021 6755399441055744 0 53 _ _ rfl (by decide +kernel) (by decide) (by decide) (by decide) (by decide) (by decide +kernel) (.inl ⟨rfl, rfl⟩)
theorem pv_10 : Pv (Rat.divInt 1 10) 4591870180066957721 3 :=
  pv_at (N := 1) (D := 10) (by decide +kernel) (by decide +kernel) 1018 7205759403792793 6 56 _ _ rfl (by decide +kernel) (by decide) (by decide) (by decide) (by decide) (by decide +kernel) (.inr ⟨rfl, by decide⟩)
theorem fz_half : fz 4602678819172646912 = ((4503599627370496 * 2 ^ 1021 : Nat) : Int) := by
  have h := fi_at 1021 4503599627370496 (.inr (by decide)) (by decide)
  rw [show 1021 * 4503599627370496 + 4503599627370496 = 4602678819172646912 by decide] at h
  rw [fz_pos (by decide), h]
theorem half_cmp : qcmp (fv 4602678819172646912) (Rat.divInt 1 2) = 0 := by
  rw [qcmp_fv, fz_half]
  have n1 : (Rat.divInt 1 2).num = 1 := by decide +kernel
  have n2 : (Rat.divInt 1 2).den = 2 := by decide +kernel
  have hk := K8_at 53 1021 rfl
  rw [n1, n2, hk]
  refine cmp3_eq ?_
  generalize (2 : Nat) ^ 1021 = A
  rw [show (2 : Nat) ^ 53 = 9007199254740992 by decide, Int.natCast_mul, Int.natCast_mul]
  generalize (A : Int) = B
  show (4503599627370496 : Int) * B * 2 = 1 * (9007199254740992 * B)
  omega
set_option maxHeartbeats 4000000 in
theorem awake8 (w : World) :
    Calls Tryz.prog 12 #[] w fun e w' => e = .returned (.bool true) ∧ Below w.heap.size w w' := by
  (have q1 : (FloatKind.f64.format.order 13828302655841107968 13828302655841107968 == some .eq) = true := by rw [order_self (by decide)]; decide); (have q2 : (FloatKind.f64.format.order 4591870180066957722 4591870180066957722 == some .eq) = true := by rw [order_self (by decide)]; decide); (have HE : Hid (exw (Rat.divInt (-3) 4) 4604930618986332160 0 = 13828302655841107968 ∧ exb 0 = true ∧ nrw (Rat.divInt 1 10) 4591870180066957721 3 = 4591870180066957722) := by show _ ∧ _; decide +kernel); have B0 : Below w.heap.size w w := Below.refl _ _
  go_enter Tryz.func12, Tryz.ntmps12
  (go_wp2_with fail); refine (of8 4602678819172646912 (by decide) (by decide) w).mono ?_; rintro e x1 ⟨s1, a1, l1, c1, z1, b1, m1, d1, y1, rfl, h1, hb⟩; replace B0 := step B0 hb; clear hb; (go_wp2_with fail); refine ent1 x1 _ _ (Q := fun W => Calls Tryz.prog _ _ W _) ?_; intro x2 hb hs_x2 V1; replace h1 := Rt.after hb h1; replace B0 := step B0 hb; clear hb hs_x2; refine (ratioOf8 (-3) 4 (by decide) (by decide) (by decide) (by decide) (by decide) x2).mono ?_; rintro e x3 ⟨spa, apa, lpa, cpa, zpa, bpa, mpa, dpa, ypa, rfl, hpa, hNa, hb⟩; replace V1 := Va.after hb V1; replace h1 := Rt.after hb h1; replace B0 := step B0 hb; clear hb; (go_wp2_with fail); refine (oflaw8 spa apa lpa cpa zpa bpa mpa dpa ypa (Rat.divInt (-3) 4) x3 hpa hNa).mono ?_; rintro e x4 ⟨sra, ara, lra, cra, zra, bra, mra, dra, yra, rfl, hra, hb⟩; replace V1 := Va.after hb V1; replace h1 := Rt.after hb h1; replace hpa := Rr.after hb hpa; replace B0 := step B0 hb; clear hb; (go_wp2_with fail)
  clear hpa; refine (exact8 sra ara lra cra zra bra mra dra yra (Rat.divInt (-3) 4) 4604930618986332160 0 pv_34 x4 hra).mono ?_; rintro e x5 ⟨rfl, hb⟩; replace V1 := Va.after hb V1; replace h1 := Rt.after hb h1; replace hra := Rt.after hb hra; replace B0 := step B0 hb; clear hb; rw [HE.out.1, HE.out.2.1]; (go_wp2_with fail); clear hra; refine wp_region_noPanic ?_; replace V1 : Va x5.drew _ _ _ := V1; replace h1 := h1.drw; replace B0 := Below.drew B0; refine wp_region_held_drew (S := (fun W => W.cell? ⟨x1.heap.size, 0, none⟩ = some (.bool s1) ∧ W.cell? ⟨x1.heap.size, 1, none⟩ = some (.slice a1 l1 c1) ∧ W.cell? ⟨x1.heap.size, 2, none⟩ = some (.slice b1 m1 d1))) (by kernel_rfl) ⟨V1.d0, V1.d1, V1.d2⟩ (fun hHeld => ?_); (obtain ⟨x6, hxd⟩ : ∃ xd, xd = x5.drew := ⟨_, rfl⟩); rw [← hxd] at V1 h1 B0 hHeld ⊢; clear hxd; refine tk 0 rfl hHeld ?_; simp only [gA, gB, Act.put, gD, gE, gF]; refine tk 1 rfl hHeld ?_; simp only [gA, gB, gC, Act.put, gD, gE, gF]
  refine tk 2 rfl hHeld ?_; simp only [gA, gB, gC, Act.put, gD, gE, gF]; refine tk 3 rfl hHeld ?_; simp only [gA, gB, gC, Act.put, gD, gE, gF]; refine wpAnyH_ready (rs := [4]) (by kernel_rfl) (by simp) ?_; refine AllReadyH.cons rfl (fun K hK => ?_) AllReadyH.nil; simp only [gA, gB, gC]; (go_simp); refine (ratioOf8 1 2 (by decide) (by decide) (by decide) (by decide) (by decide) _).mono ?_; rintro e x7 ⟨spb, apb, lpb, cpb, zpb, bpb, mpb, dpb, ypb, rfl, hpb, hNb, hb⟩; replace V1 := Va.after hb V1; replace h1 := Rt.after hb h1; replace B0 := step B0 hb; clear hb; (try go_wp2_with fail); refine hK.out _ _ ⟨V1.d0, V1.d1, V1.d2⟩ (fun hHeld => ?_); clear hK K; refine wpAnyH_ready (rs := [5]) (by kernel_rfl) (by simp) ?_; refine AllReadyH.cons rfl (fun K hK => ?_) AllReadyH.nil; simp only [gA, gB, gC]; (go_simp); refine (oflaw8 spb apb lpb cpb zpb bpb mpb dpb ypb (Rat.divInt 1 2) _ hpb hNb).mono ?_; rintro e x8 ⟨srb, arb, lrb, crb, zrb, brb, mrb, drb, yrb, rfl, hrb, hb⟩
  replace V1 := Va.after hb V1; replace h1 := Rt.after hb h1; replace hpb := Rr.after hb hpb; replace B0 := step B0 hb; clear hb; (try go_wp2_with fail); refine hK.out _ _ ⟨V1.d0, V1.d1, V1.d2⟩ (fun hHeld => ?_); clear hK K; refine wpAnyH_ready (rs := [6]) (by kernel_rfl) (by simp) ?_; refine AllReadyH.cons rfl (fun K hK => ?_) AllReadyH.nil; simp only [gA, gB, gC]; (go_simp); refine (qcompare_any s1 a1 l1 c1 z1 b1 m1 d1 y1 (fv 4602678819172646912) srb arb lrb crb zrb brb mrb drb yrb (Rat.divInt 1 2) _ h1 hrb).mono ?_; rintro e x9 ⟨rfl, hb⟩; replace V1 := Va.after hb V1; replace h1 := Rt.after hb h1; replace hrb := Rt.after hb hrb; replace B0 := step B0 hb; clear hb; rw [half_cmp]; (try go_wp2_with fail); refine hK.out _ _ ⟨V1.d0, V1.d1, V1.d2⟩ (fun hHeld => ?_); clear hK K; refine tk 7 rfl hHeld ?_; simp only [gA, gB, gC, Act.put, gD, gE, gF]; refine tk 8 rfl hHeld ?_; simp only [gA, gB, gC, Act.put, gD, gE, gF]; refine tk 9 rfl hHeld ?_; simp only [gA, gB, gC, Act.put, gD, gE, gF]
  refine tk 10 rfl hHeld ?_; simp only [gA, gB, gC, Act.put, gD, gE, gF]; refine tk 11 rfl hHeld ?_; simp only [gA, gB, gC, Act.put, gD, gE, gF]; refine tk 12 rfl hHeld ?_; simp only [gA, gB, gC, Act.put, gD, gE, gF]; refine tk 13 rfl hHeld ?_; simp only [gA, gB, gC, Act.put, gD, gE, gF]; refine wpAnyH_take (i := 14) (v := .bool true) rfl (by kernel_rfl) (by kernel_rfl) (by kernel_rfl) (fun _ _ _ h => h) (Or.inl ⟨by rfl, ?_⟩) hHeld ?_
  · (intro W hSw; (try dsimp only at hSw); go_simp; first | rfl | (rw [q1]) | skip)
  simp only [gA, gB, gC, Act.put, gD, gE, gF]; refine tk 15 rfl hHeld ?_; simp only [gA, gB, gC, Act.put, gD, gE, gF]; refine tk 16 rfl hHeld ?_; simp only [gA, gB, gC, Act.put, gD, gE, gF]; refine wpAnyH_ready (rs := [17]) (by kernel_rfl) (by simp) ?_; refine AllReadyH.cons rfl (fun K hK => ?_) AllReadyH.nil; simp only [gA, gB, gC]; (go_simp); refine (ratioOf8 1 10 (by decide) (by decide) (by decide) (by decide) (by decide) _).mono ?_; rintro e x10 ⟨spg, apg, lpg, cpg, zpg, bpg, mpg, dpg, ypg, rfl, hpg, hNg, hb⟩; replace V1 := Va.after hb V1; replace h1 := Rt.after hb h1; replace hrb := Rt.after hb hrb; replace B0 := step B0 hb; clear hb; (try go_wp2_with fail); refine hK.out _ _ ⟨V1.d0, V1.d1, V1.d2⟩ (fun hHeld => ?_); clear hK K; refine wpAnyH_ready (rs := [18]) (by kernel_rfl) (by simp) ?_; refine AllReadyH.cons rfl (fun K hK => ?_) AllReadyH.nil; simp only [gA, gB, gC]; (go_simp); refine (oflaw8 spg apg lpg cpg zpg bpg mpg dpg ypg (Rat.divInt 1 10) _ hpg hNg).mono ?_
  rintro e x11 ⟨srg, arg, lrg, crg, zrg, brg, mrg, drg, yrg, rfl, hrg, hb⟩; replace V1 := Va.after hb V1; replace h1 := Rt.after hb h1; replace hrb := Rt.after hb hrb; replace hpg := Rr.after hb hpg; replace B0 := step B0 hb; clear hb; (try go_wp2_with fail); refine hK.out _ _ ⟨V1.d0, V1.d1, V1.d2⟩ (fun hHeld => ?_); clear hK K; refine wpAnyH_ready (rs := [19]) (by kernel_rfl) (by simp) ?_; refine AllReadyH.cons rfl (fun K hK => ?_) AllReadyH.nil; simp only [gA, gB, gC]; (go_simp); refine (nearest8 srg arg lrg crg zrg brg mrg drg yrg (Rat.divInt 1 10) 4591870180066957721 3 pv_10 _ hrg).mono ?_; rintro e x12 ⟨rfl, hb⟩; replace V1 := Va.after hb V1; replace h1 := Rt.after hb h1; replace hrb := Rt.after hb hrb; replace hrg := Rt.after hb hrg; replace B0 := step B0 hb; clear hb; rw [HE.out.2.2]; (try go_wp2_with fail); refine hK.out _ _ ⟨V1.d0, V1.d1, V1.d2⟩ (fun hHeld => ?_); clear hK K; refine wpAnyH_take (i := 20) (v := .bool true) rfl (by kernel_rfl) (by kernel_rfl) (by kernel_rfl) (fun _ _ _ h => h) (Or.inl ⟨by rfl, ?_⟩) hHeld ?_
  · (intro W hSw; (try dsimp only at hSw); go_simp; first | rfl | (rw [q2]) | skip)
  simp only [gA, gB, gC, Act.put, gD, gE, gF]; refine tk 21 rfl hHeld ?_; simp only [gA, gB, gC, Act.put, gD, gE, gF]; refine tk 22 rfl hHeld ?_; simp only [gA, gB, gC, Act.put, gD, gE]; refine wpAnyH_done (by kernel_rfl) ?_ _; refine NoPanic.normal ?_; clear hHeld; (go_wp2_with fail)
  go_ret
  exact ⟨rfl, B0⟩
end Go.Proofs.YtjlodljgfjjclaaGreat
