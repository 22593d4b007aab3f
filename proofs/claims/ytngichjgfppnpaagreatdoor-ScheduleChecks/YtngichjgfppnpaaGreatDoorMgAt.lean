import Derived.Test.YtngichjgfppnpaaGreatDoorMgAa
import Derived.Test.YtngichjgfppnpaaGreatDoorMgAo
import Derived.Test.YtngichjgfppnpaaGreatDoorMgAi
import Derived.Test.YtngichjgfppnpaaGreatDoorMgAr
import Derived.Test.YtngichjgfppnpaaGreatDoorMgAh
import Derived.Test.YtngichjgfppnpaaGreatDoorMgAs
import Derived.Test.YtngichjgfppnpaaGreatDoorCards
import Derived.Lib.LaidTab
import Derived.Stop.LaidErr
namespace Go.Proofs.YtngichjgfppnpaaGreatDoor
open Go.RowKit Go.Shelf
set_option linter.unusedVariables false

theorem rside6 (x : Int) (w : World) : Calls Tryz.prog 42 #[.int .i64 x] w fun e w' => e = .returned (.int .i64 (side9 x)) ∧ w' = w := by
  unfold side9
  by_cases h1 : x < 0
  · rw [if_pos h1]
    go_enter Tryz.func42, Tryz.ntmps42
    go_wp2_with fail
    go_ret
    exact ⟨rfl, rfl⟩
  · rw [if_neg h1]
    by_cases h2 : 0 < x
    · rw [if_pos h2]
      go_enter Tryz.func42, Tryz.ntmps42
      go_wp2_with fail
      go_ret
      exact ⟨rfl, rfl⟩
    · rw [if_neg h2]
      go_enter Tryz.func42, Tryz.ntmps42
      go_wp2_with fail
      go_ret
      exact ⟨rfl, rfl⟩
theorem rsize6 (x : Int) (h1 : -9223372036854775808 ≤ x) (h2 : x ≤ 9223372036854775807) (w : World) : Calls Tryz.prog 45 #[.int .i64 x] w fun e w' => e = .returned (.int .u64 (x.natAbs : Int)) ∧ w' = w := by
  obtain ⟨y, hy⟩ : ∃ y, x.natAbs = y := ⟨_, rfl⟩
  rw [hy]
  by_cases g : x < 0
  · have g1 : decide (x < 0) = true := decide_eq_true g
    have e1 : IntKind.u64.wrap x = x + 18446744073709551616 := by rw [IntKind.wrap_u64]; omega
    have e2 : IntKind.u64.wrap (-(x + 18446744073709551616)) = (y : Int) := by rw [IntKind.wrap_u64]; omega
    clear hy h1 h2
    go_enter Tryz.func45, Tryz.ntmps45
    go_wp2_with fail
    go_ret
    exact ⟨rfl, rfl⟩
  · have g1 : decide (x < 0) = false := decide_eq_false g
    have e1 : IntKind.u64.wrap x = (y : Int) := by rw [IntKind.wrap_u64]; omega
    clear hy h1 h2
    go_enter Tryz.func45, Tryz.ntmps45
    go_wp2_with fail
    go_ret
    exact ⟨rfl, rfl⟩
theorem rten6 (k : Nat) (hk : k ≤ 9) (w : World) :
    Calls Tryz.prog 46 #[.int .i64 k] w fun e w' => ∃ a' m c zs, e = .returned (.slice a' m c) ∧ m ≤ c ∧ m ≤ 1 ∧ Sl w' a' m zs ∧ usedN zs = m ∧ num zs = 10 ^ k ∧ Below w.heap.size w w' := by
  go_enter Tryz.func46, Tryz.ntmps46
  go_wp2_with fail
  refine (ten3 k hk _).mono ?_
  rintro e x1 ⟨a2, m2, c2, zs, rfl, hc2, hm2, hs2, hu2, hn2, hb2⟩
  go_wp2_with fail
  go_ret
  exact ⟨a2, m2, c2, zs, rfl, hc2, hm2, hs2, hu2, hn2, hb2⟩
theorem rcheck6_ok (U P : Int) (h : CanI U P) (w : World) : Calls Tryz.prog 13 #[.agg #[.int .i64 U, .int .i64 P]] w fun e w' => e = .returned (.int .i64 0) ∧ Below w.heap.size w w' := by
  obtain ⟨h0, h9, h3⟩ := h
  have g1 : decide (P < 0) = false := decide_eq_false (by omega)
  have g2 : decide (9 < P) = false := decide_eq_false (by omega)
  by_cases hp : 0 < P
  ·
    obtain ⟨m, hm⟩ : ∃ m, U.tmod 10 = m := ⟨_, rfl⟩
    have hm0 : (m == 0) = false := by have := h3 hp; rw [hm] at this; simpa using this
    have g3 : decide (0 < P) = true := decide_eq_true hp
    go_enter Tryz.func13, Tryz.ntmps13
    go_wp2_with fail
    go_ret
    exact ⟨rfl, (Below.refl _ _).alloc (Nat.le_refl _) _⟩
  ·
    have g3 : decide (0 < P) = false := decide_eq_false hp
    go_enter Tryz.func13, Tryz.ntmps13
    go_wp2_with fail
    go_ret
    exact ⟨rfl, (Below.refl _ _).alloc (Nat.le_refl _) _⟩
theorem rcheck6_no (U P : Int) (h : ¬ CanI U P) (w : World) : Calls Tryz.prog 13 #[.agg #[.int .i64 U, .int .i64 P]] w fun e w' => e = .returned (.int .i64 60) ∧ Below w.heap.size w w' := by
  by_cases a1 : P < 0
  ·
    have g1 : decide (P < 0) = true := decide_eq_true a1
    go_enter Tryz.func13, Tryz.ntmps13
    go_wp2_with fail
    go_ret
    exact ⟨rfl, (Below.refl _ _).alloc (Nat.le_refl _) _⟩
  ·
    have g1 : decide (P < 0) = false := decide_eq_false a1
    by_cases a2 : 9 < P
    ·
      have g2 : decide (9 < P) = true := decide_eq_true a2
      go_enter Tryz.func13, Tryz.ntmps13
      go_wp2_with fail
      go_ret
      exact ⟨rfl, (Below.refl _ _).alloc (Nat.le_refl _) _⟩
    ·
      have g2 : decide (9 < P) = false := decide_eq_false a2
      have hp : 0 < P := by
        rcases Int.lt_or_le 0 P with h' | h'
        · exact h'
        · exact absurd ⟨by omega, by omega, fun hh => by omega⟩ h
      have hm : U.tmod 10 = 0 := by
        rcases Decidable.em (U.tmod 10 = 0) with h' | h'
        · exact h'
        · exact absurd ⟨by omega, by omega, fun _ => h'⟩ h
      have g3 : decide (0 < P) = true := decide_eq_true hp
      go_enter Tryz.func13, Tryz.ntmps13
      go_wp2_with fail
      go_ret
      exact ⟨rfl, (Below.refl _ _).alloc (Nat.le_refl _) _⟩
set_option maxHeartbeats 4000000 in
theorem rcmp6_ok (U V : Int) (P Q : Nat) (h1 : -9223372036854775808 ≤ U) (h2 : U ≤ 9223372036854775807) (hc : Can U P) (g1 : -9223372036854775808 ≤ V) (g2 : V ≤ 9223372036854775807) (hd : Can V Q) (w : World) :
  Calls Tryz.prog 14 #[.agg #[.int .i64 U, .int .i64 P], .agg #[.int .i64 V, .int .i64 Q]] w fun e W' => e = .returned (.tuple #[.int .i64 (dcw U P V Q), .int .i64 0]) ∧ Below w.heap.size w W' := by
 have HC : Hid (CanI U P ∧ CanI V Q) := ⟨(canI_iff U P).2 hc, (canI_iff V Q).2 hd⟩; have HPQ : Hid (P ≤ 9 ∧ Q ≤ 9) := ⟨hc.1, hd.1⟩; have HB : Hid ((-9223372036854775808 ≤ U ∧ U ≤ 9223372036854775807) ∧ (-9223372036854775808 ≤ V ∧ V ≤ 9223372036854775807)) := ⟨⟨h1, h2⟩, g1, g2⟩; clear hc hd h1 h2 g1 g2; (obtain ⟨su, hsu⟩ : ∃ su, side9 U = su := ⟨_, rfl⟩); (obtain ⟨sv, hsv⟩ : ∃ sv, side9 V = sv := ⟨_, rfl⟩); (obtain ⟨cc, hcc⟩ : ∃ cc, cmp3 ((U.natAbs : Int) * 10 ^ Q) ((V.natAbs : Int) * 10 ^ P) = cc := ⟨_, rfl⟩); have hbd := cmp3_bd ((U.natAbs : Int) * 10 ^ Q) ((V.natAbs : Int) * 10 ^ P); rw [hcc] at hbd; have HS : Hid (side9 U = su ∧ side9 V = sv) := ⟨hsu, hsv⟩; have HCC : Hid (cmp3 ((U.natAbs : Int) * 10 ^ Q) ((V.natAbs : Int) * 10 ^ P) = cc) := hcc; (have hE : dcw U P V Q = if su = sv then (if U < 0 then -cc else cc) else if su < sv then -1 else 1 := by unfold dcw; rw [hsu, hsv, hcc]); (obtain ⟨dd, hdd⟩ : ∃ dd, dcw U P V Q = dd := ⟨_, rfl⟩)
 rw [hdd] at hE; rw [hdd]; have HE : Hid (dd = if su = sv then (if U < 0 then -cc else cc) else if su < sv then -1 else 1) := hE; (have wn : IntKind.i64.wrap (-cc) = -cc := by rw [IntKind.wrap_i64]; omega); clear hsu hsv hcc hbd hE hdd; have B0 : Below w.heap.size w w := Below.refl _ _
 go_enter Tryz.func14, Tryz.ntmps14
 (go_wp2_with fail); refine ent2 w _ _ _ _ (Q := fun W => Calls Tryz.prog _ _ W _) ?_; intro x1 hb hs_x1 V0 V1; replace B0 := step B0 hb; clear hb hs_x1; refine (rcheck6_ok U P HC.out.1 _).mono ?_; rintro e x2 ⟨rfl, hb⟩; replace V0 := V0.a hb; replace V1 := V1.a hb; replace B0 := step B0 hb; clear hb; have c_V0 := V0.c0; have f0_V0 := V0.frozen 0; have d_V0 := V0.c1; have f1_V0 := V0.frozen 1; have l_V0 := V0.lt; have m_V0 := Nat.le_of_lt l_V0; have c_V1 := V1.c0; have f0_V1 := V1.frozen 0; have d_V1 := V1.c1; have f1_V1 := V1.frozen 1; have l_V1 := V1.lt; have m_V1 := Nat.le_of_lt l_V1; (go_wp2_with fail); refine (rcheck6_ok V Q HC.out.2 _).mono ?_; rintro e x3 ⟨rfl, hb⟩; replace V0 := V0.a hb; replace V1 := V1.a hb; replace B0 := step B0 hb; clear hb; clear c_V0 f0_V0 d_V0 f1_V0 l_V0 m_V0 c_V1 f0_V1 d_V1 f1_V1 l_V1 m_V1; have c_V0 := V0.c0; have f0_V0 := V0.frozen 0; have d_V0 := V0.c1; have f1_V0 := V0.frozen 1; have l_V0 := V0.lt
 have m_V0 := Nat.le_of_lt l_V0; have c_V1 := V1.c0; have f0_V1 := V1.frozen 0; have d_V1 := V1.c1; have f1_V1 := V1.frozen 1; have l_V1 := V1.lt; have m_V1 := Nat.le_of_lt l_V1; (go_wp2_with fail)
 by_cases hs : su = sv
 ·
  (have q1 : (su == sv) = true := by rw [beq_iff_eq]; exact hs); (have q2 : (su != sv) = false := by rw [hs]; simp); (have HE2 : Hid (dd = if U < 0 then -cc else cc) := by show _ = _; rw [HE.out, if_pos hs]); clear hs HE; clear c_V0 f0_V0 d_V0 f1_V0 l_V0 m_V0 c_V1 f0_V1 d_V1 f1_V1 l_V1 m_V1; refine wp_region_noPanic ?_; replace V0 : Va x3.drew _ _ _ := V0; replace V1 : Va x3.drew _ _ _ := V1; replace B0 := Below.drew B0; refine wp_region_held_drew (S := (fun W => W.cell? ⟨w.heap.size, 0, none⟩ = some (.int .i64 U) ∧ W.cell? ⟨w.heap.size, 1, none⟩ = some (.int .i64 P) ∧ W.cell? ⟨w.heap.size + 1, 0, none⟩ = some (.int .i64 V) ∧ W.cell? ⟨w.heap.size + 1, 1, none⟩ = some (.int .i64 Q))) (by kernel_rfl) ⟨V0.c0, V0.c1, V1.c0, V1.c1⟩ (fun hHeld => ?_); (obtain ⟨x4, hxd⟩ : ∃ xd, xd = x3.drew := ⟨_, rfl⟩); rw [← hxd] at V0 V1 B0 hHeld ⊢; clear hxd; refine tjz 0 hHeld ?_; refine tk 1 rfl hHeld ?_
  simp only [gA, gB, gC, Act.put, gD, gE, gF]; refine tjz 3 hHeld ?_; refine tjz 4 hHeld ?_; refine ryz 2 (fun K hK => ?_); simp only [gA, gB, gC]; (go_simp); refine (rside6 U _).mono ?_; rintro e xw ⟨rfl, hw⟩; rw [hw]; clear hw; rw [HS.out.1]; (try go_wp2_with fail); refine hK.out _ _ ⟨V0.c0, V0.c1, V1.c0, V1.c1⟩ (fun hHeld => ?_); clear hK K; refine ryz 5 (fun K hK => ?_); simp only [gA, gB, gC]; (go_simp); refine (rside6 V _).mono ?_; rintro e xw ⟨rfl, hw⟩; rw [hw]; clear hw; rw [HS.out.2]; (try go_wp2_with fail); refine hK.out _ _ ⟨V0.c0, V0.c1, V1.c0, V1.c1⟩ (fun hHeld => ?_); clear hK K; refine tjz 6 hHeld ?_; refine wpAnyH_done (by kernel_rfl) ?_ _
  refine NoPanic.normal ?_; clear hHeld; have c_V0 := V0.c0; have f0_V0 := V0.frozen 0; have d_V0 := V0.c1; have f1_V0 := V0.frozen 1; have l_V0 := V0.lt; have m_V0 := Nat.le_of_lt l_V0; have c_V1 := V1.c0; have f0_V1 := V1.frozen 0; have d_V1 := V1.c1; have f1_V1 := V1.frozen 1; have l_V1 := V1.lt; have m_V1 := Nat.le_of_lt l_V1; (go_wp2_with fail); clear c_V0 f0_V0 d_V0 f1_V0 l_V0 m_V0 c_V1 f0_V1 d_V1 f1_V1 l_V1 m_V1; refine wp_region_noPanic ?_; replace V0 : Va x4.drew _ _ _ := V0; replace V1 : Va x4.drew _ _ _ := V1; replace B0 := Below.drew B0; refine wp_region_held_drew (S := (fun W => W.cell? ⟨w.heap.size, 0, none⟩ = some (.int .i64 U) ∧ W.cell? ⟨w.heap.size, 1, none⟩ = some (.int .i64 P) ∧ W.cell? ⟨w.heap.size + 1, 0, none⟩ = some (.int .i64 V) ∧ W.cell? ⟨w.heap.size + 1, 1, none⟩ = some (.int .i64 Q))) (by kernel_rfl) ⟨V0.c0, V0.c1, V1.c0, V1.c1⟩ (fun hHeld => ?_); (obtain ⟨x5, hxd⟩ : ∃ xd, xd = x4.drew := ⟨_, rfl⟩); rw [← hxd] at V0 V1 B0 hHeld ⊢
  clear hxd; refine tjz 0 hHeld ?_; refine tjz 1 hHeld ?_; refine tjz 4 hHeld ?_; refine tjz 5 hHeld ?_; refine ryz 2 (fun K hK => ?_); simp only [gA, gB, gC]; (go_simp); refine (rsize6 U HB.out.1.1 HB.out.1.2 _).mono ?_; rintro e xw ⟨rfl, hw⟩; rw [hw]; clear hw; (try go_wp2_with fail); refine hK.out _ _ ⟨V0.c0, V0.c1, V1.c0, V1.c1⟩ (fun hHeld => ?_); clear hK K; refine ryz 3 (fun K hK => ?_); simp only [gA, gB, gC]; (go_simp); refine (rsmall_any (U.natAbs : Int) ⟨by omega, by have h5 := HB.out.1; omega⟩ _).mono ?_; rintro e x6 ⟨a1, m1, c1, z1, rfl, hc1, hm1, h1, hu1, hn1, hb⟩; replace V0 := V0.a hb
  replace V1 := V1.a hb; replace B0 := step B0 hb; clear hb; (try go_wp2_with fail); refine hK.out _ _ ⟨V0.c0, V0.c1, V1.c0, V1.c1⟩ (fun hHeld => ?_); clear hK K; refine ryz 6 (fun K hK => ?_); simp only [gA, gB, gC]; (go_simp); refine (rten6 Q HPQ.out.2 _).mono ?_; rintro e x7 ⟨a2, m2, c2, z2, rfl, hc2, hm2, h2, hu2, hn2, hb⟩; replace V0 := V0.a hb; replace V1 := V1.a hb; replace h1 := Sl.after hb h1; replace B0 := step B0 hb; clear hb; (try go_wp2_with fail); refine hK.out _ _ ⟨V0.c0, V0.c1, V1.c0, V1.c1⟩ (fun hHeld => ?_); clear hK K; refine ryz 7 (fun K hK => ?_); simp only [gA, gB, gC]; (go_simp); refine (rmul_any a1 a2 m1 c1 m2 c2 z1 z2 _ h1 h2 (by omega) (by omega)).mono ?_; rintro e x8 ⟨ax, mx, cx, zx, rfl, hcx, hmx, hx, hux, hnx, hb⟩; replace V0 := V0.a hb
  replace V1 := V1.a hb; replace h1 := Sl.after hb h1; replace h2 := Sl.after hb h2; replace B0 := step B0 hb; clear hb; rw [hn1, hn2] at hnx; have HNx : Hid (num zx = (U.natAbs : Int) * 10 ^ Q) := hnx; have HMx : Hid (mx ≤ cx ∧ mx ≤ 100) := ⟨hcx, by omega⟩; clear hn1 hn2 hnx hc1 hc2 hm1 hm2 hu1 hu2 hux hcx hmx; (try go_wp2_with fail); refine hK.out _ _ ⟨V0.c0, V0.c1, V1.c0, V1.c1⟩ (fun hHeld => ?_); clear hK K; refine tjz 8 hHeld ?_; refine dnz ?_; clear hHeld; clear h1 h2; clear z1 z2; have c_V0 := V0.c0; have f0_V0 := V0.frozen 0; have d_V0 := V0.c1; have f1_V0 := V0.frozen 1; have l_V0 := V0.lt; have m_V0 := Nat.le_of_lt l_V0; have c_V1 := V1.c0; have f0_V1 := V1.frozen 0; have d_V1 := V1.c1; have f1_V1 := V1.frozen 1; have l_V1 := V1.lt; have m_V1 := Nat.le_of_lt l_V1; (go_wp2_with fail); clear c_V0 f0_V0 d_V0 f1_V0 l_V0 m_V0 c_V1 f0_V1 d_V1 f1_V1 l_V1 m_V1
  refine wp_region_noPanic ?_; replace V0 : Va x8.drew _ _ _ := V0; replace V1 : Va x8.drew _ _ _ := V1; replace hx := hx.drw; replace B0 := Below.drew B0; refine wp_region_held_drew (S := (fun W => W.cell? ⟨w.heap.size, 0, none⟩ = some (.int .i64 U) ∧ W.cell? ⟨w.heap.size, 1, none⟩ = some (.int .i64 P) ∧ W.cell? ⟨w.heap.size + 1, 0, none⟩ = some (.int .i64 V) ∧ W.cell? ⟨w.heap.size + 1, 1, none⟩ = some (.int .i64 Q))) (by kernel_rfl) ⟨V0.c0, V0.c1, V1.c0, V1.c1⟩ (fun hHeld => ?_); (obtain ⟨x9, hxd⟩ : ∃ xd, xd = x8.drew := ⟨_, rfl⟩); rw [← hxd] at V0 V1 hx B0 hHeld ⊢; clear hxd; refine tjz 0 hHeld ?_; refine tjz 1 hHeld ?_; refine tjz 4 hHeld ?_; refine tjz 5 hHeld ?_; refine ryz 2 (fun K hK => ?_)
  simp only [gA, gB, gC]; (go_simp); refine (rsize6 V HB.out.2.1 HB.out.2.2 _).mono ?_; rintro e xw ⟨rfl, hw⟩; rw [hw]; clear hw; (try go_wp2_with fail); refine hK.out _ _ ⟨V0.c0, V0.c1, V1.c0, V1.c1⟩ (fun hHeld => ?_); clear hK K; refine ryz 3 (fun K hK => ?_); simp only [gA, gB, gC]; (go_simp); refine (rsmall_any (V.natAbs : Int) ⟨by omega, by have h5 := HB.out.2; omega⟩ _).mono ?_; rintro e x10 ⟨a1, m1, c1, z1, rfl, hc1, hm1, h1, hu1, hn1, hb⟩; replace V0 := V0.a hb; replace V1 := V1.a hb; replace hx := Sl.after hb hx; replace B0 := step B0 hb; clear hb; (try go_wp2_with fail); refine hK.out _ _ ⟨V0.c0, V0.c1, V1.c0, V1.c1⟩ (fun hHeld => ?_); clear hK K; refine ryz 6 (fun K hK => ?_); simp only [gA, gB, gC]; (go_simp); refine (rten6 P HPQ.out.1 _).mono ?_
  rintro e x11 ⟨a2, m2, c2, z2, rfl, hc2, hm2, h2, hu2, hn2, hb⟩; replace V0 := V0.a hb; replace V1 := V1.a hb; replace hx := Sl.after hb hx; replace h1 := Sl.after hb h1; replace B0 := step B0 hb; clear hb; (try go_wp2_with fail); refine hK.out _ _ ⟨V0.c0, V0.c1, V1.c0, V1.c1⟩ (fun hHeld => ?_); clear hK K; refine ryz 7 (fun K hK => ?_); simp only [gA, gB, gC]; (go_simp); refine (rmul_any a1 a2 m1 c1 m2 c2 z1 z2 _ h1 h2 (by omega) (by omega)).mono ?_; rintro e x12 ⟨aw, mw, cw, zw, rfl, hcw, hmw, hw, huw, hnw, hb⟩; replace V0 := V0.a hb; replace V1 := V1.a hb; replace hx := Sl.after hb hx; replace h1 := Sl.after hb h1; replace h2 := Sl.after hb h2; replace B0 := step B0 hb; clear hb; rw [hn1, hn2] at hnw; have HNw : Hid (num zw = (V.natAbs : Int) * 10 ^ P) := hnw; have HMw : Hid (mw ≤ cw ∧ mw ≤ 100) := ⟨hcw, by omega⟩; clear hn1 hn2 hnw hc1 hc2 hm1 hm2 hu1 hu2 huw hcw hmw
  (try go_wp2_with fail); refine hK.out _ _ ⟨V0.c0, V0.c1, V1.c0, V1.c1⟩ (fun hHeld => ?_); clear hK K; refine tjz 8 hHeld ?_; refine dnz ?_; clear hHeld; clear h1 h2; clear z1 z2; have c_V0 := V0.c0; have f0_V0 := V0.frozen 0; have d_V0 := V0.c1; have f1_V0 := V0.frozen 1; have l_V0 := V0.lt; have m_V0 := Nat.le_of_lt l_V0; (go_wp2_with fail); refine (rcompare_n ax aw mx cx mw cw zx zw _ hx hw (by have h5 := HMx.out; omega) (by have h5 := HMw.out; omega) HMx.out.1 HMw.out.1).mono ?_; rintro e x13 ⟨rfl, hb⟩; replace V0 := V0.a hb; replace V1 := V1.a hb; replace hx := Sl.after hb hx; replace hw := Sl.after hb hw; replace B0 := step B0 hb; clear hb; rw [HNx.out, HNw.out, HCC.out]
  by_cases un : U < 0
  ·
   have g5 : decide (U < 0) = true := decide_eq_true un; (have HE3 : Hid (dd = -cc) := by show _ = _; rw [HE2.out, if_pos un]); clear un; clear c_V0 f0_V0 d_V0 f1_V0 l_V0 m_V0; have c_V0 := V0.c0; have f0_V0 := V0.frozen 0; have d_V0 := V0.c1; have f1_V0 := V0.frozen 1; have l_V0 := V0.lt; have m_V0 := Nat.le_of_lt l_V0; (go_wp2_with fail)
   go_ret2
   exact ⟨by rw [HE3.out]; rfl, B0⟩
  ·
   have g5 : decide (U < 0) = false := decide_eq_false un; (have HE3 : Hid (dd = cc) := by show _ = _; rw [HE2.out, if_neg un]); clear un; clear c_V0 f0_V0 d_V0 f1_V0 l_V0 m_V0; have c_V0 := V0.c0; have f0_V0 := V0.frozen 0; have d_V0 := V0.c1; have f1_V0 := V0.frozen 1; have l_V0 := V0.lt; have m_V0 := Nat.le_of_lt l_V0; (go_wp2_with fail)
   go_ret2
   exact ⟨by rw [HE3.out]; rfl, B0⟩
 ·
  (have q1 : (su == sv) = false := by rw [beq_eq_false_iff_ne]; exact hs); (have q2 : (su != sv) = true := by rw [bne_iff_ne]; exact hs)
  by_cases hl : su < sv
  ·
   have q3 : decide (su < sv) = true := decide_eq_true hl; (have HE3 : Hid (dd = -1) := by show _ = _; rw [HE.out, if_neg hs, if_pos hl]); clear hs hl HE; clear c_V0 f0_V0 d_V0 f1_V0 l_V0 m_V0 c_V1 f0_V1 d_V1 f1_V1 l_V1 m_V1; refine wp_region_noPanic ?_; replace V0 : Va x3.drew _ _ _ := V0; replace V1 : Va x3.drew _ _ _ := V1; replace B0 := Below.drew B0; refine wp_region_held_drew (S := (fun W => W.cell? ⟨w.heap.size, 0, none⟩ = some (.int .i64 U) ∧ W.cell? ⟨w.heap.size, 1, none⟩ = some (.int .i64 P) ∧ W.cell? ⟨w.heap.size + 1, 0, none⟩ = some (.int .i64 V) ∧ W.cell? ⟨w.heap.size + 1, 1, none⟩ = some (.int .i64 Q))) (by kernel_rfl) ⟨V0.c0, V0.c1, V1.c0, V1.c1⟩ (fun hHeld => ?_); (obtain ⟨x4, hxd⟩ : ∃ xd, xd = x3.drew := ⟨_, rfl⟩); rw [← hxd] at V0 V1 B0 hHeld ⊢; clear hxd; refine tjz 0 hHeld ?_; refine tjz 1 hHeld ?_; refine tk 3 rfl hHeld ?_
   simp only [gA, gB, gC, Act.put, gD, gE, gF]; refine tjz 4 hHeld ?_; refine ryz 2 (fun K hK => ?_); simp only [gA, gB, gC]; (go_simp); refine (rside6 U _).mono ?_; rintro e xw ⟨rfl, hw⟩; rw [hw]; clear hw; rw [HS.out.1]; (try go_wp2_with fail); refine hK.out _ _ ⟨V0.c0, V0.c1, V1.c0, V1.c1⟩ (fun hHeld => ?_); clear hK K; refine ryz 5 (fun K hK => ?_); simp only [gA, gB, gC]; (go_simp); refine (rside6 V _).mono ?_; rintro e xw ⟨rfl, hw⟩; rw [hw]; clear hw; rw [HS.out.2]; (try go_wp2_with fail); refine hK.out _ _ ⟨V0.c0, V0.c1, V1.c0, V1.c1⟩ (fun hHeld => ?_); clear hK K; refine tjz 6 hHeld ?_; refine dnz ?_; clear hHeld; have c_V0 := V0.c0
   have f0_V0 := V0.frozen 0; have d_V0 := V0.c1; have f1_V0 := V0.frozen 1; have l_V0 := V0.lt; have m_V0 := Nat.le_of_lt l_V0; have c_V1 := V1.c0; have f0_V1 := V1.frozen 0; have d_V1 := V1.c1; have f1_V1 := V1.frozen 1; have l_V1 := V1.lt; have m_V1 := Nat.le_of_lt l_V1; (go_wp2_with fail); clear c_V0 f0_V0 d_V0 f1_V0 l_V0 m_V0 c_V1 f0_V1 d_V1 f1_V1 l_V1 m_V1; refine wp_region_noPanic ?_; replace V0 : Va x4.drew _ _ _ := V0; replace V1 : Va x4.drew _ _ _ := V1; replace B0 := Below.drew B0; refine wp_region_held_drew (S := (fun W => W.cell? ⟨w.heap.size, 0, none⟩ = some (.int .i64 U) ∧ W.cell? ⟨w.heap.size, 1, none⟩ = some (.int .i64 P) ∧ W.cell? ⟨w.heap.size + 1, 0, none⟩ = some (.int .i64 V) ∧ W.cell? ⟨w.heap.size + 1, 1, none⟩ = some (.int .i64 Q))) (by kernel_rfl) ⟨V0.c0, V0.c1, V1.c0, V1.c1⟩ (fun hHeld => ?_); (obtain ⟨x5, hxd⟩ : ∃ xd, xd = x4.drew := ⟨_, rfl⟩); rw [← hxd] at V0 V1 B0 hHeld ⊢; clear hxd; refine tk 0 rfl hHeld ?_
   simp only [gA, gB, Act.put, gD, gE, gF]; refine tjz 1 hHeld ?_; refine tjz 3 hHeld ?_; refine tjz 4 hHeld ?_; refine ryz 2 (fun K hK => ?_); simp only [gA, gB, gC]; (go_simp); refine (rside6 U _).mono ?_; rintro e xw ⟨rfl, hw⟩; rw [hw]; clear hw; rw [HS.out.1]; (try go_wp2_with fail); refine hK.out _ _ ⟨V0.c0, V0.c1, V1.c0, V1.c1⟩ (fun hHeld => ?_); clear hK K; refine ryz 5 (fun K hK => ?_); simp only [gA, gB, gC]; (go_simp); refine (rside6 V _).mono ?_; rintro e xw ⟨rfl, hw⟩; rw [hw]; clear hw; rw [HS.out.2]; (try go_wp2_with fail); refine hK.out _ _ ⟨V0.c0, V0.c1, V1.c0, V1.c1⟩ (fun hHeld => ?_); clear hK K; refine tk 6 rfl hHeld ?_
   simp only [gA, gB, gC, Act.put, gD, gE, gF]; refine dnz ?_; clear hHeld; (go_wp2_with fail)
   go_ret2
   exact ⟨by rw [HE3.out]; rfl, B0⟩
  ·
   have q3 : decide (su < sv) = false := decide_eq_false hl; (have HE3 : Hid (dd = 1) := by show _ = _; rw [HE.out, if_neg hs, if_neg hl]); clear hs hl HE; clear c_V0 f0_V0 d_V0 f1_V0 l_V0 m_V0 c_V1 f0_V1 d_V1 f1_V1 l_V1 m_V1; refine wp_region_noPanic ?_; replace V0 : Va x3.drew _ _ _ := V0; replace V1 : Va x3.drew _ _ _ := V1; replace B0 := Below.drew B0; refine wp_region_held_drew (S := (fun W => W.cell? ⟨w.heap.size, 0, none⟩ = some (.int .i64 U) ∧ W.cell? ⟨w.heap.size, 1, none⟩ = some (.int .i64 P) ∧ W.cell? ⟨w.heap.size + 1, 0, none⟩ = some (.int .i64 V) ∧ W.cell? ⟨w.heap.size + 1, 1, none⟩ = some (.int .i64 Q))) (by kernel_rfl) ⟨V0.c0, V0.c1, V1.c0, V1.c1⟩ (fun hHeld => ?_); (obtain ⟨x4, hxd⟩ : ∃ xd, xd = x3.drew := ⟨_, rfl⟩); rw [← hxd] at V0 V1 B0 hHeld ⊢; clear hxd; refine tjz 0 hHeld ?_; refine tjz 1 hHeld ?_; refine tk 3 rfl hHeld ?_
   simp only [gA, gB, gC, Act.put, gD, gE, gF]; refine tjz 4 hHeld ?_; refine ryz 2 (fun K hK => ?_); simp only [gA, gB, gC]; (go_simp); refine (rside6 U _).mono ?_; rintro e xw ⟨rfl, hw⟩; rw [hw]; clear hw; rw [HS.out.1]; (try go_wp2_with fail); refine hK.out _ _ ⟨V0.c0, V0.c1, V1.c0, V1.c1⟩ (fun hHeld => ?_); clear hK K; refine ryz 5 (fun K hK => ?_); simp only [gA, gB, gC]; (go_simp); refine (rside6 V _).mono ?_; rintro e xw ⟨rfl, hw⟩; rw [hw]; clear hw; rw [HS.out.2]; (try go_wp2_with fail); refine hK.out _ _ ⟨V0.c0, V0.c1, V1.c0, V1.c1⟩ (fun hHeld => ?_); clear hK K; refine tjz 6 hHeld ?_; refine dnz ?_; clear hHeld; have c_V0 := V0.c0
   have f0_V0 := V0.frozen 0; have d_V0 := V0.c1; have f1_V0 := V0.frozen 1; have l_V0 := V0.lt; have m_V0 := Nat.le_of_lt l_V0; have c_V1 := V1.c0; have f0_V1 := V1.frozen 0; have d_V1 := V1.c1; have f1_V1 := V1.frozen 1; have l_V1 := V1.lt; have m_V1 := Nat.le_of_lt l_V1; (go_wp2_with fail); clear c_V0 f0_V0 d_V0 f1_V0 l_V0 m_V0 c_V1 f0_V1 d_V1 f1_V1 l_V1 m_V1; refine wp_region_noPanic ?_; replace V0 : Va x4.drew _ _ _ := V0; replace V1 : Va x4.drew _ _ _ := V1; replace B0 := Below.drew B0; refine wp_region_held_drew (S := (fun W => W.cell? ⟨w.heap.size, 0, none⟩ = some (.int .i64 U) ∧ W.cell? ⟨w.heap.size, 1, none⟩ = some (.int .i64 P) ∧ W.cell? ⟨w.heap.size + 1, 0, none⟩ = some (.int .i64 V) ∧ W.cell? ⟨w.heap.size + 1, 1, none⟩ = some (.int .i64 Q))) (by kernel_rfl) ⟨V0.c0, V0.c1, V1.c0, V1.c1⟩ (fun hHeld => ?_); (obtain ⟨x5, hxd⟩ : ∃ xd, xd = x4.drew := ⟨_, rfl⟩); rw [← hxd] at V0 V1 B0 hHeld ⊢; clear hxd; refine tk 0 rfl hHeld ?_
   simp only [gA, gB, Act.put, gD, gE, gF]; refine tjz 1 hHeld ?_; refine tjz 3 hHeld ?_; refine tjz 4 hHeld ?_; refine ryz 2 (fun K hK => ?_); simp only [gA, gB, gC]; (go_simp); refine (rside6 U _).mono ?_; rintro e xw ⟨rfl, hw⟩; rw [hw]; clear hw; rw [HS.out.1]; (try go_wp2_with fail); refine hK.out _ _ ⟨V0.c0, V0.c1, V1.c0, V1.c1⟩ (fun hHeld => ?_); clear hK K; refine ryz 5 (fun K hK => ?_); simp only [gA, gB, gC]; (go_simp); refine (rside6 V _).mono ?_; rintro e xw ⟨rfl, hw⟩; rw [hw]; clear hw; rw [HS.out.2]; (try go_wp2_with fail); refine hK.out _ _ ⟨V0.c0, V0.c1, V1.c0, V1.c1⟩ (fun hHeld => ?_); clear hK K; refine tk 6 rfl hHeld ?_
   simp only [gA, gB, gC, Act.put, gD, gE, gF]; refine dnz ?_; clear hHeld; (go_wp2_with fail)
   go_ret2
   exact ⟨by rw [HE3.out]; rfl, B0⟩
end Go.Proofs.YtngichjgfppnpaaGreatDoor
namespace Go.Proofs.YtngichjgfppnpaaGreatDoor
open Go.RowKit Go.Shelf
set_option linter.unusedVariables false
set_option maxRecDepth 20000

theorem Ps.far9 {w w' : World} {ps : List Pc} {l : List Pq} {n : Nat} (h : Ps w ps l n) {b' : Nat} {t : TypeId} {cs : Array Value} (V : Va w b' t cs) (hn : NoInt cs) (k : ∀ c, c ≠ b' → w'.heap[c]? = w.heap[c]?) : Ps w' ps l n := fun i hi => ⟨(h i hi).1.far V hn k, (h i hi).2.far V hn k⟩
theorem long_sz {w : World} {r : Rc} {v : Rat} (h : Rn w r v) (k : Nat) : max (r.l : Int) (r.m : Int) ≤ k ↔ Sz k v := by
  constructor
  · intro hl
    obtain ⟨h1, h2, u1, u2, -, e1, e2, -⟩ := h
    have z0 := num_nonneg h1.2.1
    have hab : (v.num.natAbs : Int) = num r.z := by rw [← e1]; generalize r.s = s; cases s <;> simp only [iv_t, iv_f] <;> omega
    exact ⟨by rw [hab]; exact (sz_used h1.2.1 u1).1 (by omega), by rw [← e2]; exact (sz_used h2.2.1 u2).1 (by omega)⟩
  · intro hs
    have := rn_len h hs
    omega
theorem rlong_rc (r : Rc) (w : World) : Calls Tryz.prog 32 #[.agg #[.bool r.s, .slice r.a r.l r.c, .slice r.b r.m r.d]] w fun e w' => e = .returned (.int .i64 (max (r.l : Int) (r.m : Int))) ∧ Below w.heap.size w w' := rlong5 r.s r.a r.l r.c r.b r.m r.d w
theorem rmul_rc (p q : Rc) (x y v : Rat) (w : World) (h1 : Rn w p x) (h2 : Rn w q y) (he : x * y = v) {i j : Nat} (t1 : Sz i x) (t2 : Sz j y) (hij : i + j ≤ 4000) :
    Calls Tryz.prog 28 #[.agg #[.bool p.s, .slice p.a p.l p.c, .slice p.b p.m p.d], .agg #[.bool q.s, .slice q.a q.l q.c, .slice q.b q.m q.d]] w fun e w' => ∃ r : Rc, e = .returned (.agg #[.bool r.s, .slice r.a r.l r.c, .slice r.b r.m r.d]) ∧ Rn w' r v ∧ Below w.heap.size w w' := by
  subst he
  refine (rmul9 p.s p.a p.l p.c p.z p.b p.m p.d p.y x q.s q.a q.l q.c q.z q.b q.m q.d q.y y w h1 h2 (t1.mono (by omega)) (t2.mono (by omega)) (fun n hn => ⟨rt_fits (by omega) (by omega) t1.1 t2.1 (by omega), rt_fits (by omega) (by omega) t1.2 t2.2 (by omega)⟩)).mono ?_
  rintro e w' ⟨s, a, l, c, z, b, m, d, t, rfl, h, hb⟩
  exact ⟨⟨s, a, l, c, z, b, m, d, t⟩, rfl, h, hb⟩
def NrR (w : World) (q : Rc) (t : Bool) (l : List Pq) (n : Nat) (v : Rat) : Prop := (t = true ∧ ∃ k, Bg l v k ∧ k < n ∧ Rn w q (aq l k)) ∨ (t = false ∧ Bg l v n ∧ q = Rc.nil)
theorem NrR.after {w w' : World} (hb : Below w.heap.size w w') {q : Rc} {t : Bool} {l : List Pq} {n : Nat} {v : Rat} (h : NrR w q t l n v) : NrR w' q t l n v := by
  rcases h with ⟨h0, k, h1, h2, h3⟩ | h
  · exact .inl ⟨h0, k, h1, h2, h3.after hb⟩
  · exact .inr h
def SrR (w : World) (q : Rc) (er : Int) (l : List Pq) (v : Rat) : Prop := (er = 2 ∧ v < 0 ∧ q = Rc.nil) ∨ (er = 0 ∧ 0 ≤ v ∧ ∃ k, Bg l v (k + 1) ∧ Rn w q (rq l k))
theorem SrR.after {w w' : World} (hb : Below w.heap.size w w') {q : Rc} {er : Int} {l : List Pq} {v : Rat} (h : SrR w q er l v) : SrR w' q er l v := by
  rcases h with h | ⟨h0, h1, k, h2, h3⟩
  · exact .inl h
  · exact .inr ⟨h0, h1, k, h2, h3.after hb⟩
def ArR (w : World) (q : Rc) (er : Int) (l : List Pq) (v : Rat) : Prop := (er = 2 ∧ v < 0 ∧ q = Rc.nil) ∨ (er = 3 ∧ 0 ≤ v ∧ ¬ Sz 512 v ∧ q = Rc.nil) ∨ (er = 0 ∧ 0 ≤ v ∧ Sz 512 v ∧ ∃ a, Ata l v a ∧ Rn w q a)
theorem ArR.after {w w' : World} (hb : Below w.heap.size w w') {q : Rc} {er : Int} {l : List Pq} {v : Rat} (h : ArR w q er l v) : ArR w' q er l v := by
  rcases h with h | h | ⟨h0, h1, h2, a, h3, h4⟩
  · exact .inl h
  · exact .inr (.inl h)
  · exact .inr (.inr ⟨h0, h1, h2, a, h3, h4.after hb⟩)
end Go.Proofs.YtngichjgfppnpaaGreatDoor
namespace Go.Proofs.YtngichjgfppnpaaGreatDoor
open Go.RowKit Go.Shelf
set_option linter.unusedVariables false
theorem short_sz {v : Rat} (h : Short v) : Sz 4000 v := (show Sz 1024 v from ⟨h.1, h.2⟩).mono (by omega)
def qv (v t : Rat) : Rat := Rat.divInt (v.num * (t.den : Int)) ((v.den : Int) * t.num)
theorem qv_val {s1 : Bool} {z1 zA : List Int} {v t : Rat} {D y : Int} (e1 : iv s1 z1 = v.num) (ey : y = (t.den : Int)) (eA : num zA = num z1 * y) (hD : D = (v.den : Int) * t.num) : Rat.divInt (iv s1 zA) D = qv v t := by
  have e : iv s1 zA = v.num * (t.den : Int) := by
    rw [← e1, ← ey]
    cases s1
    · rw [iv_f, iv_f, eA]
    · rw [iv_t, iv_t, eA]; grind
  rw [e, hD]; rfl
set_option maxHeartbeats 4000000 in
theorem rquo9 (s1 : Bool) (a1 : Option Addr) (l1 c1 : Nat) (z1 : List Int) (b1 : Option Addr) (m1 d1 : Nat) (y1 : List Int) (u : Rat) (s2 : Bool) (a2 : Option Addr) (l2 c2 : Nat) (z2 : List Int) (b2 : Option Addr) (m2 d2 : Nat) (y2 : List Int) (v : Rat) (w : World) (h1 : Rr w s1 a1 l1 c1 z1 b1 m1 d1 y1 u) (h2 : Rr w s2 a2 l2 c2 z2 b2 m2 d2 y2 v) (t1 : Short u) (t2 : Short v) (t3 : 0 < v.num) :
    Calls Tryz.prog 30 #[.agg #[.bool s1, .slice a1 l1 c1, .slice b1 m1 d1], .agg #[.bool s2, .slice a2 l2 c2, .slice b2 m2 d2]] w fun e w' => RrP w (qv u v) e w' := by
  obtain ⟨u1, u2⟩ := h1.len9 (short_sz t1); obtain ⟨u3, u4⟩ := h2.len9 (short_sz t2); have HL : Hid (l1 ≤ 4000 ∧ m1 ≤ 4000 ∧ l2 ≤ 4000 ∧ m2 ≤ 4000) := ⟨u1, u2, u3, u4⟩; have n1 := num_nonneg h1.1.2.1; have n2 := num_nonneg h2.1.2.1; have HV : Hid (iv s1 z1 = u.num ∧ iv s2 z2 = v.num ∧ num y1 = u.den ∧ num y2 = v.den) := ⟨h1.2.2.2.2.2.1, h2.2.2.2.2.2.1, h1.2.2.2.2.2.2.1, h2.2.2.2.2.2.2.1⟩
  have hs2 : s2 = false := by
    have h5 := HV.out.2.1
    cases s2
    · rfl
    · rw [iv_t] at h5; omega
  subst hs2; have e2 : num z2 = v.num := HV.out.2.1
  have HF : Hid (∀ n, n = 4000 → num z1 * num y2 < pw n ∧ num y1 * num z2 < pw n ∧ num y1 * num z2 ≠ 0) := fun n e => by
    subst e; rw [natAbs_iv HV.out.1 n1, e2, HV.out.2.2.1, HV.out.2.2.2]; have p1 := u.den_pos; have p2 := v.den_pos; refine ⟨rt_fits (by omega) (by omega) t1.1 t2.2 (by omega), rt_fits (by omega) (by omega) t1.2 (show v.num < pw 1024 by have := t2.1; omega) (by omega), Int.mul_ne_zero (by omega) (by omega)⟩
  have HZ : Hid (num z2 = v.num) := e2; clear t1 t2 t3 u1 u2 u3 u4 n1 n2 e2; have B0 : Below w.heap.size w w := Below.refl _ _
  go_enter Tryz.func30, Tryz.ntmps30
  (go_wp2_with fail); refine ent3 w _ _ _ _ _ _ (Q := fun W => Code.wp Tryz.prog _ _ _ W) ?_; intro x1 hb hs_x1 V0 V1 V2; replace h1 := Rr.after hb h1; replace h2 := Rr.after hb h2; replace B0 := step B0 hb; clear hb hs_x1; refine wp_region_noPanic ?_; replace V0 : Va x1.drew _ _ _ := V0; replace V1 : Va x1.drew _ _ _ := V1; replace V2 : Va x1.drew _ _ _ := V2; replace h1 := h1.drw; replace h2 := h2.drw; replace B0 := Below.drew B0; refine wp_region_held_drew (S := (fun W => W.cell? ⟨w.heap.size, 0, none⟩ = some (.bool s1) ∧ W.cell? ⟨w.heap.size, 1, none⟩ = some (.slice a1 l1 c1) ∧ W.cell? ⟨w.heap.size, 2, none⟩ = some (.slice b1 m1 d1) ∧ W.cell? ⟨w.heap.size + 1, 0, none⟩ = some (.bool false) ∧ W.cell? ⟨w.heap.size + 1, 1, none⟩ = some (.slice a2 l2 c2) ∧ W.cell? ⟨w.heap.size + 1, 2, none⟩ = some (.slice b2 m2 d2))) (by kernel_rfl) ⟨V0.d0, V0.d1, V0.d2, V1.d0, V1.d1, V1.d2⟩ (fun hHeld => ?_); (obtain ⟨x2, hxd⟩ : ∃ xd, xd = x1.drew := ⟨_, rfl⟩)
  rw [← hxd] at V0 V1 V2 h1 h2 B0 hHeld ⊢; clear hxd; refine tjz 0 hHeld ?_; refine tjz 1 hHeld ?_; refine tjz 2 hHeld ?_; refine tjz 3 hHeld ?_; refine tjz 4 hHeld ?_; refine tjz 5 hHeld ?_; refine tjz 6 hHeld ?_; refine tjz 7 hHeld ?_; refine tjz 8 hHeld ?_; refine tjz 10 hHeld ?_; refine tjz 11 hHeld ?_; refine tjz 12 hHeld ?_; refine tjz 13 hHeld ?_
  refine ryz 9 (fun K hK => ?_); simp only [gA, gB, gC]; (go_simp); refine (rmul_any a1 b2 l1 c1 m2 d2 z1 y2 _ h1.1 h2.2.1 (by have := HL.out; omega) (by have := HL.out; omega)).mono ?_; rintro e x3 ⟨a5, l5, c5, z5, rfl, k5, t5, h5, u5, e5, hb⟩; replace V0 := V0.a hb; replace V1 := V1.a hb; replace V2 := V2.a hb; replace h1 := Rr.after hb h1; replace h2 := Rr.after hb h2; replace B0 := step B0 hb; clear hb; (try go_wp2_with fail); refine hK.out _ _ ⟨V0.d0, V0.d1, V0.d2, V1.d0, V1.d1, V1.d2⟩ (fun hHeld => ?_); clear hK K; refine ryz 14 (fun K hK => ?_); simp only [gA, gB, gC]; (go_simp); refine (rmul_any b1 a2 m1 d1 l2 c2 y1 z2 _ h1.2.1 h2.1 (by have := HL.out; omega) (by have := HL.out; omega)).mono ?_; rintro e x4 ⟨a6, l6, c6, z6, rfl, k6, t6, h6, u6, e6, hb⟩
  replace V0 := V0.a hb; replace V1 := V1.a hb; replace V2 := V2.a hb; replace h1 := Rr.after hb h1; replace h2 := Rr.after hb h2; replace h5 := Sl.after hb h5; replace B0 := step B0 hb; clear hb; (try go_wp2_with fail); refine hK.out _ _ ⟨V0.d0, V0.d1, V0.d2, V1.d0, V1.d1, V1.d2⟩ (fun hHeld => ?_); clear hK K; refine ryz 15 (fun K hK => ?_); simp only [gA, gB, gC]; (go_simp); refine (rmake5 _ a5 a6 l5 c5 l6 c6 z5 z6 _ h5 h6 k5 k6 (by have := HL.out; omega) (by have := HL.out; omega) (used_of_lt h5.2.1 (by rw [e5]; exact Int.lt_of_lt_of_le (HF.out 4000 rfl).1 (pw_mono (by omega)))) (used_of_lt h6.2.1 (by rw [e6]; exact Int.lt_of_lt_of_le (HF.out 4000 rfl).2.1 (pw_mono (by omega)))) (by rw [e6]; exact (HF.out 4000 rfl).2.2)).mono ?_; rintro e x5 ⟨s7, a7, l7, c7, z7, b7, m7, d7, y7, rfl, h7, -, -, hb⟩; replace V0 := V0.a hb
  replace V1 := V1.a hb; replace V2 := V2.a hb; replace h1 := Rr.after hb h1; replace h2 := Rr.after hb h2; replace h5 := Sl.after hb h5; replace h6 := Sl.after hb h6; replace B0 := step B0 hb; clear hb; rw [qv_val HV.out.1 HV.out.2.2.2 e5 (by rw [e6, HV.out.2.2.1, HZ.out])] at h7; (try go_wp2_with fail); refine hK.out _ _ ⟨V0.d0, V0.d1, V0.d2, V1.d0, V1.d1, V1.d2⟩ (fun hHeld => ?_); clear hK K; have c_V2 := V2.d0; have f0_V2 := V2.frozen 0; have d_V2 := V2.d1; have f1_V2 := V2.frozen 1; have e_V2 := V2.d2; have f2_V2 := V2.frozen 2; have l_V2 := V2.lt; have m_V2 := Nat.le_of_lt l_V2; refine ryz 16 (fun K hK => ?_); simp only [gA, gB, gC]; (go_simp); clear c_V2 f0_V2 d_V2 f1_V2 e_V2 f2_V2 l_V2 m_V2; refine sto3 V2 (.bool s7) (.slice a7 l7 c7) (.slice b7 m7 d7) (Q := fun W => K _ W) ?_; intro x6 V' oth far; replace V0 := apz (oth _ _ _) V0
  replace V1 := apz (oth _ _ _) V1; replace h1 := h1.far V2 (noInt3 _ _ _ _ _ _ _) far.1; replace h2 := h2.far V2 (noInt3 _ _ _ _ _ _ _) far.1; replace h5 := h5.far V2 (noInt3 _ _ _ _ _ _ _) far.1; replace h6 := h6.far V2 (noInt3 _ _ _ _ _ _ _) far.1; replace h7 := h7.far V2 (noInt3 _ _ _ _ _ _ _) far.1; replace B0 := apz (far.2 _ _) B0; replace V2 := V'; clear oth far; refine hK.out _ _ ⟨V0.d0, V0.d1, V0.d2, V1.d0, V1.d1, V1.d2⟩ (fun hHeld => ?_); clear hK K; refine dnz ?_; clear hHeld; (go_wp2_with fail); refine bodyPost_ret (results_ra rfl rfl V2) rfl ?_; exact ⟨s7, a7, l7, c7, z7, b7, m7, d7, y7, rfl, h7, B0⟩

end Go.Proofs.YtngichjgfppnpaaGreatDoor
namespace Go.Proofs.YtngichjgfppnpaaGreatDoor
open Go.RowKit Go.Shelf
set_option linter.unusedVariables false

theorem gTens : Tryz.prog.globalNamed "tollbook/decimal.tens" = some 0 := by kernel_rfl
theorem gTensT : (Tryz.prog.globals[0]?).map (·.type) = some 123 := by kernel_rfl
theorem cTens : Tryz.prog.cellsOf 123 = 10 := by kernel_rfl
theorem cI64 : Tryz.prog.cellsOf 2 = 1 := by kernel_rfl
theorem tnOf {W : World} {rest : List (String × DataW Unit)} (h : laidMet Tryz.prog (("tollbook/decimal.tens", Rows.laid_tollbook_decimal_tens) :: rest) W) : Tn W :=
  Go.Lib.tabIs_of_head (zs := [1, 10, 100, 1000, 10000, 100000, 1000000, 10000000, 100000000, 1000000000]) gTens gTensT Tryz.underlying123 Tryz.underlying2 cI64 cTens h
theorem mem_getD {α : Type} {l : List α} {n i : Nat} (d : α) (hl : l.length = n) (hi : i < n) : l.getD i d ∈ l := by
  rw [List.getD_eq_getElem?_getD, List.getElem?_eq_getElem (by omega)]
  exact List.getElem_mem _
end Go.Proofs.YtngichjgfppnpaaGreatDoor
