/-
  The walk of CalTiles.
-/
import Derived.Test.YtlebkdmkofgdpabDoorBckWA
import Derived.Test.YtlebkdmkofgdpabDoorTilPA
import Derived.Deep.RegionHeld3
namespace Go.Proofs.YtlebkdmkofgdpabDoor
open Go.RowKit Go.Shelf
set_option linter.unusedVariables false

theorem Va.below {B : Nat} {w w' : World} {b : Nat} {t : TypeId} {cs : Array Value} (h : Va w b t cs) (hb : Below B w w') (hB : b < B) : Va w' b t cs := by
  unfold Va at *; rw [hb.block b hB]; exact h
/-- What holds of memory on the way: the span and the list of three days stay. -/
def TiH (w : World) (b g : Nat) (F T x y z : Int) (W : World) : Prop := Below w.heap.size w W ∧ Va W b 40 #[.int .i64 F, .int .i64 T] ∧ ∃ t, Va W g t #[.int .i64 x, .int .i64 y, .int .i64 z]
theorem TiH.to {w : World} {b g : Nat} {F T x y z : Int} {W W' : World} (h : TiH w b g F T x y z W) (hb : Below W.heap.size W W') : TiH w b g F T x y z W' := by
  obtain ⟨h1, h2, t, h3⟩ := h
  exact ⟨step h1 hb, Va.after hb h2, t, Va.after hb h3⟩
theorem TiH.elem {w : World} {b g : Nat} {F T x y z : Int} {W : World} (h : TiH w b g F T x y z W) (hx : F ≤ x ∧ x < T) (hy : F ≤ y ∧ y < T) (hz : F ≤ z ∧ z < T) (j : Nat) (hj : j < 3) : ∃ v, W.cell? ⟨g, j, none⟩ = some (.int .i64 v) ∧ F ≤ v ∧ v < T := by
  obtain ⟨h1, h2, t, h3⟩ := h
  obtain rfl | rfl | rfl : j = 0 ∨ j = 1 ∨ j = 2 := by omega
  · exact ⟨x, h3.cellAt 0, hx⟩
  · exact ⟨y, h3.cellAt 1, hy⟩
  · exact ⟨z, h3.cellAt 2, hz⟩
set_option maxHeartbeats 2000000 in
set_option maxRecDepth 20000 in
theorem tiles_walk (n o p : Int) (w : World) (h1 : -9223372036854775808 ≤ n) (h2 : n ≤ 9223372036854775807) (o1 : -9223372036854775808 ≤ o) (o2 : o ≤ 9223372036854775807) (p1 : -9223372036854775808 ≤ p) (p2 : p ≤ 9223372036854775807) (hT : Tl w) :
    Calls Tryd.prog 5 #[.int .i64 n, .int .i64 o, .int .i64 p] w fun e w' => e = .returned (.bool true) ∧ Below w.heap.size w w' := by
  obtain ⟨y, m, k, hD⟩ := dt_any (d := n % 3652059) (by omega) (by omega)
  have dy := day_any n w h1 h2
  have pk1 := pick_any p 3 p1 p2 (by omega) (by omega) w
  have d0 : 0 ≤ n % 3652059 := by omega
  have d1 : n % 3652059 ≤ 3652058 := by omega
  generalize n % 3652059 = d at *
  have P1 : 0 ≤ p % 3 := by omega
  have P2 : p % 3 < 3 := by omega
  generalize p % 3 = P at *
  obtain ⟨H, hH⟩ : ∃ H, 1 + P = H := ⟨_, rfl⟩
  have hH3 : H = 1 ∨ H = 2 ∨ H = 3 := by omega
  obtain ⟨hPer, hma, hmb⟩ := per_of hH3 hD.m1 hD.m2
  have pr := period_yes hD H w hT hH3
  generalize pFrom H m = a at *
  generalize pTo H m = b at *
  have y1 := hD.y1; have y2 := hD.y2
  have hin : ∀ x, ahd y a ≤ x → x < ahd y b → ∀ W, Tl W → Calls Tryd.prog 15 #[.int .i64 x, .int .i64 H] W fun e w' => e = .returned (.tuple #[.agg #[.int .i64 (ahd y a), .int .i64 (ahd y b)], .int .i64 0]) ∧ Below W.heap.size W w' := by
    intro x g1 g2 W hW
    obtain ⟨m', k', hE, e1, e2⟩ := per_in hPer y1 y2 g1 g2
    have := period_yes hE H W hW hH3
    rw [e1, e2] at this
    exact this
  have hnx : ahd y b ≤ 3652058 → ∃ T', ∀ W, Tl W → Calls Tryd.prog 15 #[.int .i64 (ahd y b), .int .i64 H] W fun e w' => e = .returned (.tuple #[.agg #[.int .i64 (ahd y b), .int .i64 T'], .int .i64 0]) ∧ Below W.heap.size W w' := by
    intro g
    obtain ⟨y', m', k', hE, e1⟩ := per_next hPer y1 y2 g
    refine ⟨ahd y' (pTo H m'), fun W hW => ?_⟩
    have := period_yes hE H W hW hH3
    rw [e1] at this
    exact this
  have hmo : ∀ j, a ≤ j → j < b → ∀ W, Tl W → Calls Tryd.prog 15 #[.int .i64 (ahd y j), .int .i64 3] W fun e w' => e = .returned (.tuple #[.agg #[.int .i64 (ahd y j), .int .i64 (ahd y (j + 1))], .int .i64 0]) ∧ Below W.heap.size W w' := by
    intro j g1 g2 W hW
    have a1 := hPer.a1; have b13 := hPer.b13
    exact period_yes (dt_first y1 y2 (by omega) (by omega)) 3 W hW (by omega)
  have hdays := per_days (y := y) hPer
  have a1 := hPer.a1; have b13 := hPer.b13; have ab := hPer.ab
  have hfd : ahd y a ≤ d := by
    have e := hD.at_; have := hD.k1; have := ahd_mono (y := y) hPer.a1 hma (by omega); omega
  have htd : d < ahd y b := by
    have e := hD.at_; have := hD.k2; have := ahd_mono (y := y) (a := m + 1) (b := b) (by have := hD.m1; omega) (by omega) b13
    rw [ahd_succ y m hD.m1 hD.m2] at this
    omega
  have hbd : 0 ≤ ahd y b ∧ ahd y b ≤ 3652059 := ahd_bd y1 y2 (by omega) b13
  have had : 0 ≤ ahd y a ∧ ahd y a ≤ 3652059 := ahd_bd y1 y2 a1 (by omega)
  obtain ⟨F, hF⟩ : ∃ F, ahd y a = F := ⟨_, rfl⟩
  obtain ⟨T, hTT⟩ : ∃ T, ahd y b = T := ⟨_, rfl⟩
  rw [hF] at pr hin hdays hfd had
  rw [hTT] at pr hin hdays htd hbd hnx
  have pk2 := fun W => pick_any o (T - F) o1 o2 (by omega) (by omega) W
  have R1 := Int.emod_nonneg o (b := T - F) (by omega)
  have R2 := Int.emod_lt_of_pos o (b := T - F) (by omega)
  generalize o % (T - F) = R at *
  have HF : Hid (ahd y a = F) := hF
  have HTT : Hid (ahd y b = T) := hTT
  have HD : Hid (Dt d y m k) := hD
  have HDY : Hid ((H = 1 ∧ b - a = 12 ∧ (T - F = 365 ∨ T - F = 366)) ∨ (H = 2 ∧ b - a = 3 ∧ 90 ≤ T - F ∧ T - F ≤ 92) ∨ (H = 3 ∧ b - a = 1 ∧ 28 ≤ T - F ∧ T - F ≤ 31)) := hdays
  have HI : Hid (∀ x, F ≤ x → x < T → ∀ W, Tl W → Calls Tryd.prog 15 #[.int .i64 x, .int .i64 H] W fun e w' => e = .returned (.tuple #[.agg #[.int .i64 F, .int .i64 T], .int .i64 0]) ∧ Below W.heap.size W w') := hin
  have HX : Hid (T ≤ 3652058 → ∃ T', ∀ W, Tl W → Calls Tryd.prog 15 #[.int .i64 T, .int .i64 H] W fun e w' => e = .returned (.tuple #[.agg #[.int .i64 T, .int .i64 T'], .int .i64 0]) ∧ Below W.heap.size W w') := hnx
  have HM : Hid (∀ j, a ≤ j → j < b → ∀ W, Tl W → Calls Tryd.prog 15 #[.int .i64 (ahd y j), .int .i64 3] W fun e w' => e = .returned (.tuple #[.agg #[.int .i64 (ahd y j), .int .i64 (ahd y (j + 1))], .int .i64 0]) ∧ Below W.heap.size W w') := hmo
  have HT : Hid (Tl w) := hT
  clear hF hTT hD hdays hin hnx hmo hPer hma hmb hT hH3
  go_enter Tryd.func5, Tryd.ntmps5
  go_wp2_with fail
  go_at_call 7
  refine dy.mono ?_
  rintro e w2 ⟨rfl, hw2⟩
  rw [hw2]
  clear hw2
  go_wp2_with fail
  go_at_call 14
  refine pk1.mono ?_
  rintro e w2 ⟨rfl, hw2⟩
  rw [hw2]
  clear hw2
  go_wp2_with fail
  go_at_call 15
  refine pr.mono ?_
  rintro e w3 ⟨rfl, hb3⟩
  have HB : Hid (Below w.heap.size w w3) := hb3
  have HS : Hid (w.heap.size ≤ w3.heap.size) := hb3.size
  clear hb3 dy pk1 pr
  go_wp2_with fail
  refine ent1 w3 _ _ (Q := fun W => Code.wp Tryd.prog _ _ _ W) ?_
  intro x0 B0 hs0 V0
  have HB0 : Hid (Below w.heap.size w x0) := step HB.out B0
  obtain ⟨b0, hb0⟩ : ∃ b0, w3.heap.size = b0 := ⟨_, rfl⟩
  have HS0 : Hid (w.heap.size ≤ b0) := by show _ ≤ _; rw [← hb0]; exact HS.out
  rw [hb0] at V0 ⊢
  have V1 : Va x0.drew b0 40 #[.int .i64 F, .int .i64 T] := V0
  have c0 : x0.drew.cell? ⟨b0, 0, none⟩ = some (.int .i64 F) := V1.cellAt 0
  have c1 : x0.drew.cell? ⟨b0, 1, none⟩ = some (.int .i64 T) := V1.cellAt 1
  clear B0 hs0 hb0 HB HS V0
  have wr1 : IntKind.i64.wrap (T - F) = T - F := by rw [IntKind.wrap_i64]; omega
  have wr2 : IntKind.i64.wrap (T - 1) = T - 1 := by rw [IntKind.wrap_i64]; omega
  have wr3 : IntKind.i64.wrap (F + R) = F + R := by rw [IntKind.wrap_i64]; omega
  refine wp_region_noPanic ?_
  refine wp_region_held_drew (S := fun W => W.cell? ⟨b0, 0, none⟩ = some (.int .i64 F) ∧ W.cell? ⟨b0, 1, none⟩ = some (.int .i64 T)) (by kernel_rfl) ⟨c0, c1⟩ (fun hHeld => ?_)
  refine wpAnyH_take (i := 0) (v := ?_) rfl (by kernel_rfl) (by kernel_rfl) (by kernel_rfl) (fun _ _ _ h => h) (Or.inl ⟨by rfl, ?_⟩) hHeld ?_
  rotate_left
  · (intro W hSw; (try dsimp only at hSw); go_simp; all_goals (with_reducible rfl))
  simp only [List.getElem_toArray, List.getElem_cons_zero, Act.put, List.setIfInBounds_toArray, List.set_cons_zero, List.set_cons_succ]
  refine wpAnyH_take (i := 1) (v := ?_) rfl (by kernel_rfl) (by kernel_rfl) (by kernel_rfl) (fun _ _ _ h => h) (Or.inl ⟨by rfl, ?_⟩) hHeld ?_
  rotate_left
  · (intro W hSw; (try dsimp only at hSw); go_simp; all_goals (with_reducible rfl))
  simp only [List.getElem_toArray, List.getElem_cons_zero, List.getElem_cons_succ, Act.put, List.setIfInBounds_toArray, List.set_cons_zero, List.set_cons_succ]
  refine wpAnyH_take (i := 2) (v := ?_) rfl (by kernel_rfl) (by kernel_rfl) (by kernel_rfl) (fun _ _ _ h => h) (Or.inl ⟨by rfl, ?_⟩) hHeld ?_
  rotate_left
  · (intro W hSw; (try dsimp only at hSw); go_simp; all_goals (with_reducible rfl))
  simp only [List.getElem_toArray, List.getElem_cons_zero, List.getElem_cons_succ, Act.put, List.setIfInBounds_toArray, List.set_cons_zero, List.set_cons_succ]
  refine wpAnyH_take (i := 3) (v := ?_) rfl (by kernel_rfl) (by kernel_rfl) (by kernel_rfl) (fun _ _ _ h => h) (Or.inl ⟨by rfl, ?_⟩) hHeld ?_
  rotate_left
  · (intro W hSw; (try dsimp only at hSw); go_simp; all_goals (with_reducible rfl))
  simp only [List.getElem_toArray, List.getElem_cons_zero, List.getElem_cons_succ, Act.put, List.setIfInBounds_toArray, List.set_cons_zero, List.set_cons_succ]
  refine wpAnyH_take (i := 4) (v := ?_) rfl (by kernel_rfl) (by kernel_rfl) (by kernel_rfl) (fun _ _ _ h => h) (Or.inl ⟨by rfl, ?_⟩) hHeld ?_
  rotate_left
  · (intro W hSw; (try dsimp only at hSw); go_simp; all_goals (with_reducible rfl))
  simp only [List.getElem_toArray, List.getElem_cons_zero, List.getElem_cons_succ, Act.put, List.setIfInBounds_toArray, List.set_cons_zero, List.set_cons_succ]
  refine wpAnyH_take (i := 5) (v := ?_) rfl (by kernel_rfl) (by kernel_rfl) (by kernel_rfl) (fun _ _ _ h => h) (Or.inl ⟨by rfl, ?_⟩) hHeld ?_
  rotate_left
  · (intro W hSw; (try dsimp only at hSw); go_simp; all_goals (with_reducible rfl))
  simp only [List.getElem_toArray, List.getElem_cons_zero, List.getElem_cons_succ, Act.put, List.setIfInBounds_toArray, List.set_cons_zero, List.set_cons_succ]
  refine wpAnyH_take (i := 6) (v := ?_) rfl (by kernel_rfl) (by kernel_rfl) (by kernel_rfl) (fun _ _ _ h => h) (Or.inl ⟨by rfl, ?_⟩) hHeld ?_
  rotate_left
  · (intro W hSw; (try dsimp only at hSw); go_simp; all_goals (with_reducible rfl))
  simp only [List.getElem_toArray, List.getElem_cons_zero, List.getElem_cons_succ, Act.put, List.setIfInBounds_toArray, List.set_cons_zero, List.set_cons_succ]
  refine wpAnyH_take (i := 7) (v := ?_) rfl (by kernel_rfl) (by kernel_rfl) (by kernel_rfl) (fun _ _ _ h => h) (Or.inl ⟨by rfl, ?_⟩) hHeld ?_
  rotate_left
  · (intro W hSw; (try dsimp only at hSw); go_simp; all_goals (with_reducible rfl))
  simp only [List.getElem_toArray, List.getElem_cons_zero, List.getElem_cons_succ, Act.put, List.setIfInBounds_toArray, List.set_cons_zero, List.set_cons_succ]
  refine wpAnyH_take (i := 8) (v := ?_) rfl (by kernel_rfl) (by kernel_rfl) (by kernel_rfl) (fun _ _ _ h => h) (Or.inl ⟨by rfl, ?_⟩) hHeld ?_
  rotate_left
  · (intro W hSw; (try dsimp only at hSw); go_simp; all_goals (with_reducible rfl))
  simp only [List.getElem_toArray, List.getElem_cons_zero, List.getElem_cons_succ, Act.put, List.setIfInBounds_toArray, List.set_cons_zero, List.set_cons_succ]
  refine wpAnyH_take (i := 9) (v := ?_) rfl (by kernel_rfl) (by kernel_rfl) (by kernel_rfl) (fun _ _ _ h => h) (Or.inl ⟨by rfl, ?_⟩) hHeld ?_
  rotate_left
  · (intro W hSw; (try dsimp only at hSw); go_simp; all_goals (with_reducible rfl))
  simp only [List.getElem_toArray, List.getElem_cons_zero, List.getElem_cons_succ, Act.put, List.setIfInBounds_toArray, List.set_cons_zero, List.set_cons_succ]
  refine wpAnyH_take (i := 10) (v := ?_) rfl (by kernel_rfl) (by kernel_rfl) (by kernel_rfl) (fun _ _ _ h => h) (Or.inl ⟨by rfl, ?_⟩) hHeld ?_
  rotate_left
  · (intro W hSw; (try dsimp only at hSw); go_simp; all_goals (with_reducible rfl))
  simp only [List.getElem_toArray, List.getElem_cons_zero, List.getElem_cons_succ, Act.put, List.setIfInBounds_toArray, List.set_cons_zero, List.set_cons_succ]
  refine wpAnyH_take (i := 11) (v := ?_) rfl (by kernel_rfl) (by kernel_rfl) (by kernel_rfl) (fun _ _ _ h => h) (Or.inl ⟨by rfl, ?_⟩) hHeld ?_
  rotate_left
  · (intro W hSw; (try dsimp only at hSw); go_simp; all_goals (with_reducible rfl))
  simp only [List.getElem_toArray, List.getElem_cons_zero, List.getElem_cons_succ, Act.put, List.setIfInBounds_toArray, List.set_cons_zero, List.set_cons_succ]
  refine wpAnyH_take (i := 12) (v := ?_) rfl (by kernel_rfl) (by kernel_rfl) (by kernel_rfl) (fun _ _ _ h => h) (Or.inl ⟨by rfl, ?_⟩) hHeld ?_
  rotate_left
  · (intro W hSw; (try dsimp only at hSw); go_simp; all_goals (with_reducible rfl))
  simp only [List.getElem_toArray, List.getElem_cons_zero, List.getElem_cons_succ, Act.put, List.setIfInBounds_toArray, List.set_cons_zero, List.set_cons_succ]
  refine wpAnyH_take (i := 17) (v := ?_) rfl (by kernel_rfl) (by kernel_rfl) (by kernel_rfl) (fun _ _ _ h => h) (Or.inl ⟨by rfl, ?_⟩) hHeld ?_
  rotate_left
  · (intro W hSw; (try dsimp only at hSw); go_simp; all_goals (with_reducible rfl))
  simp only [List.getElem_toArray, List.getElem_cons_zero, List.getElem_cons_succ, Act.put, List.setIfInBounds_toArray, List.set_cons_zero, List.set_cons_succ]
  refine wpAnyH_ready (rs := [13]) (by kernel_rfl) (by simp) ?_
  refine AllReadyH.cons rfl (fun K hK => ?_) AllReadyH.nil
  simp only [List.getElem_toArray, List.getElem_cons_zero, List.getElem_cons_succ]
  go_simp
  refine (pk2 _).mono ?_
  rintro e x1 ⟨rfl, hx1⟩
  rw [hx1]
  clear hx1
  try go_wp2_with fail
  refine hK.out _ _ ⟨c0, c1⟩ (fun hHeld => ?_)
  clear hK K
  refine wpAnyH_take (i := 14) (v := ?_) rfl (by kernel_rfl) (by kernel_rfl) (by kernel_rfl) (fun _ _ _ h => h) (Or.inl ⟨by rfl, ?_⟩) hHeld ?_
  rotate_left
  · (intro W hSw; (try dsimp only at hSw); go_simp; all_goals (with_reducible rfl))
  simp only [List.getElem_toArray, List.getElem_cons_zero, List.getElem_cons_succ, Act.put, List.setIfInBounds_toArray, List.set_cons_zero, List.set_cons_succ]
  refine wpAnyH_ready (rs := [15]) (by kernel_rfl) (by simp) ?_
  refine AllReadyH.cons rfl (fun K hK => ?_) AllReadyH.nil
  simp only [List.getElem_toArray, List.getElem_cons_zero, List.getElem_cons_succ]
  go_simp
  obtain ⟨g0, hg0⟩ : ∃ g0, x0.heap.size = g0 := ⟨_, rfl⟩
  refine ent1 x0 _ _ (Q := fun V => K _ V.drew) ?_
  intro x2 hb2 hs2 VG
  rw [hg0] at VG ⊢
  have HB2 : Hid (Below w.heap.size w x2.drew) := (step HB0.out hb2).drew
  have V2 : Va x2.drew b0 40 #[.int .i64 F, .int .i64 T] := Va.after (w := x0) (w' := x2) hb2 V1
  have VG2 : Va x2.drew g0 _ _ := VG
  have c2 : x2.drew.cell? ⟨b0, 0, none⟩ = some (.int .i64 F) := V2.cellAt 0
  have c3 : x2.drew.cell? ⟨b0, 1, none⟩ = some (.int .i64 T) := V2.cellAt 1
  clear hb2 hs2 hg0 VG V1 c0 c1 HB0
  refine hK.out _ _ ⟨c2, c3⟩ (fun hHeld => ?_)
  clear hK K
  refine wpAnyH_take (i := 16) (v := ?_) rfl (by kernel_rfl) (by kernel_rfl) (by kernel_rfl) (fun _ _ _ h => h) (Or.inl ⟨by rfl, ?_⟩) hHeld ?_
  rotate_left
  · (intro W hSw; (try dsimp only at hSw); go_simp; all_goals (with_reducible rfl))
  simp only [List.getElem_toArray, List.getElem_cons_zero, List.getElem_cons_succ, Act.put, List.setIfInBounds_toArray, List.set_cons_zero, List.set_cons_succ]
  refine wpAnyH_done (by kernel_rfl) ?_ _
  refine NoPanic.normal ?_
  obtain ⟨x3, hx3⟩ : ∃ x3, x3 = x2.drew := ⟨_, rfl⟩
  rw [← hx3] at HB2 V2 VG2 ⊢
  clear hx3 hHeld c2 c3
  clear wr1 wr2 wr3 pk2
  go_wp2_with fail
  have HI0 : Hid (TiH w b0 g0 F T F (T - 1) (F + R) x3) := ⟨HB2.out, V2, _, VG2⟩
  clear V2 VG2 HB2
  go_loopw [64] (fun i W => ∃ j : Nat, i = .int .i64 j ∧ j ≤ 3 ∧ Hid (TiH w b0 g0 F T F (T - 1) (F + R) W)) (fun i _ => (3 - intOf i).toNat)
  case atStart => exact ⟨0, rfl, by omega, HI0⟩
  case round =>
    obtain ⟨j, rfl, hj, HJ⟩ := hrel
    clear HI0
    by_cases hlt : j < 3
    · have hji : (j : Int) < 3 := by omega
      obtain ⟨x, cx, hx1, hx2⟩ := HJ.out.elem ⟨by omega, by omega⟩ ⟨by omega, by omega⟩ ⟨by omega, by omega⟩ j hlt
      have pr := HI.out x hx1 hx2
      go_wp2_with fail
      go_at_call 15
      refine (pr _ (HT.out.to HJ.out.1)).mono ?_
      rintro e w5 ⟨rfl, hb5⟩
      have HJ2 : Hid (TiH w b0 g0 F T F (T - 1) (F + R) w5) := HJ.out.to hb5
      have c0 : w5.cell? ⟨b0, 0, none⟩ = some (.int .i64 F) := HJ2.out.2.1.cellAt 0
      have c1 : w5.cell? ⟨b0, 1, none⟩ = some (.int .i64 T) := HJ2.out.2.1.cellAt 1
      have lt0 : b0 < w5.heap.size := HJ2.out.2.1.lt
      clear hb5 pr HJ cx
      go_wp2_with fail
      go_roundw
      case rel => exact ⟨j + 1, by go_num, by omega, HJ2.out.to ((Below.refl _ _).alloc (Nat.le_refl _) _)⟩
      case measure => simp [intOf]; omega
    · have hji : ¬ (j : Int) < 3 := by omega
      have c0 : wr.cell? ⟨b0, 0, none⟩ = some (.int .i64 F) := HJ.out.2.1.cellAt 0
      have c1 : wr.cell? ⟨b0, 1, none⟩ = some (.int .i64 T) := HJ.out.2.1.cellAt 1
      have lt0 : b0 < wr.heap.size := HJ.out.2.1.lt
      by_cases hmax : T ≤ 3652058
      · obtain ⟨T', pn⟩ := HX.out hmax
        go_wp2_with fail
        go_at_call 15
        refine (pn _ (HT.out.to HJ.out.1)).mono ?_
        rintro e w5 ⟨rfl, hb5⟩
        have HJ2 : Hid (TiH w b0 g0 F T F (T - 1) (F + R) w5) := HJ.out.to hb5
        have c0' : w5.cell? ⟨b0, 0, none⟩ = some (.int .i64 F) := HJ2.out.2.1.cellAt 0
        have c1' : w5.cell? ⟨b0, 1, none⟩ = some (.int .i64 T) := HJ2.out.2.1.cellAt 1
        have lt0' : b0 < w5.heap.size := HJ2.out.2.1.lt
        clear hb5 pn c0 c1 lt0 HJ
        go_wp2_with fail
        have HJ3 : Hid (TiH w b0 g0 F T F (T - 1) (F + R) (w5.alloc (.cells #[.int .i64 T, .int .i64 T'] 40))) := HJ2.out.to ((Below.refl _ _).alloc (Nat.le_refl _) _)
        clear c0' c1' lt0' HJ2
        go_loopw [18, 19] (fun c x W => ∃ j : Int, a ≤ j ∧ j ≤ b ∧ c = .int .i64 (j - a) ∧ x = .int .i64 (ahd y j) ∧ Hid (TiH w b0 g0 F T F (T - 1) (F + R) W)) (fun c _ _ => (13 - intOf c).toNat)
        case atStart => exact ⟨a, by omega, by omega, int_of (by omega), int_of HF.out.symm, HJ3.out⟩
        case round =>
          obtain ⟨i, hi1, hi2, rfl, rfl, HQ⟩ := hrel
          clear HJ3
          by_cases hib : i < b
          · have l1 := ahd_lt (y := y) (a := i) (b := b) (by omega) hib b13
            rw [HTT.out] at l1
            have l2 := ahd_lt (y := y) (a := i) (b := i + 1) (by omega) (by omega) (by omega)
            have l3 := ahd_bd (m := i) y1 y2 (by omega) (by omega)
            have pm := HM.out i hi1 hib
            obtain ⟨X, hX⟩ : ∃ X, ahd y i = X := ⟨_, rfl⟩
            obtain ⟨Z, hZ⟩ : ∃ Z, ahd y (i + 1) = Z := ⟨_, rfl⟩
            have HZ : Hid (ahd y (i + 1) = Z) := hZ
            rw [hX] at l1 l2 l3 pm ⊢
            rw [hZ] at l2 pm
            have c0 := HQ.out.2.1.cellAt 0
            have c1 : wr.cell? ⟨b0, 1, none⟩ = some (.int .i64 T) := HQ.out.2.1.cellAt 1
            clear hX hZ c0
            go_wp2_with fail
            go_at_call 15
            refine (pm _ (HT.out.to HQ.out.1)).mono ?_
            rintro e w7 ⟨rfl, hb7⟩
            have HQ2 : Hid (TiH w b0 g0 F T F (T - 1) (F + R) w7) := HQ.out.to hb7
            clear hb7 pm c1 HQ
            go_wp2_with fail
            go_roundw
            case rel => exact ⟨i + 1, by omega, by omega, int_of (by omega), int_of HZ.out.symm, HQ2.out.to ((Below.refl _ _).alloc (Nat.le_refl _) _)⟩
            case measure => simp [intOf]; omega
          · have hib2 : i = b := by omega
            subst hib2
            rw [HTT.out]
            have c1 : wr.cell? ⟨b0, 1, none⟩ = some (.int .i64 T) := HQ.out.2.1.cellAt 1
            have hdy := HDY.out
            rcases hdy with ⟨rfl, e1, e2⟩ | ⟨rfl, e1, e2, e3⟩ | ⟨rfl, e1, e2, e3⟩
            · rcases e2 with e2 | e2
              · go_wp2_with fail
                go_ret
                exact ⟨rfl, HQ.out.1⟩
              · go_wp2_with fail
                go_ret
                exact ⟨rfl, HQ.out.1⟩
            · go_wp2_with fail
              go_ret
              exact ⟨rfl, HQ.out.1⟩
            · go_wp2_with fail
              go_ret
              exact ⟨rfl, HQ.out.1⟩
      · go_wp2_with fail
        have HJ3 : Hid (TiH w b0 g0 F T F (T - 1) (F + R) wr) := HJ.out
        clear c0 c1 lt0 HJ
        go_loopw [18, 19] (fun c x W => ∃ j : Int, a ≤ j ∧ j ≤ b ∧ c = .int .i64 (j - a) ∧ x = .int .i64 (ahd y j) ∧ Hid (TiH w b0 g0 F T F (T - 1) (F + R) W)) (fun c _ _ => (13 - intOf c).toNat)
        case atStart => exact ⟨a, by omega, by omega, int_of (by omega), int_of HF.out.symm, HJ3.out⟩
        case round =>
          obtain ⟨i, hi1, hi2, rfl, rfl, HQ⟩ := hrel
          clear HJ3
          by_cases hib : i < b
          · have l1 := ahd_lt (y := y) (a := i) (b := b) (by omega) hib b13
            rw [HTT.out] at l1
            have l2 := ahd_lt (y := y) (a := i) (b := i + 1) (by omega) (by omega) (by omega)
            have l3 := ahd_bd (m := i) y1 y2 (by omega) (by omega)
            have pm := HM.out i hi1 hib
            obtain ⟨X, hX⟩ : ∃ X, ahd y i = X := ⟨_, rfl⟩
            obtain ⟨Z, hZ⟩ : ∃ Z, ahd y (i + 1) = Z := ⟨_, rfl⟩
            have HZ : Hid (ahd y (i + 1) = Z) := hZ
            rw [hX] at l1 l2 l3 pm ⊢
            rw [hZ] at l2 pm
            have c0 := HQ.out.2.1.cellAt 0
            have c1 : wr.cell? ⟨b0, 1, none⟩ = some (.int .i64 T) := HQ.out.2.1.cellAt 1
            clear hX hZ c0
            go_wp2_with fail
            go_at_call 15
            refine (pm _ (HT.out.to HQ.out.1)).mono ?_
            rintro e w7 ⟨rfl, hb7⟩
            have HQ2 : Hid (TiH w b0 g0 F T F (T - 1) (F + R) w7) := HQ.out.to hb7
            clear hb7 pm c1 HQ
            go_wp2_with fail
            go_roundw
            case rel => exact ⟨i + 1, by omega, by omega, int_of (by omega), int_of HZ.out.symm, HQ2.out.to ((Below.refl _ _).alloc (Nat.le_refl _) _)⟩
            case measure => simp [intOf]; omega
          · have hib2 : i = b := by omega
            subst hib2
            rw [HTT.out]
            have c1 : wr.cell? ⟨b0, 1, none⟩ = some (.int .i64 T) := HQ.out.2.1.cellAt 1
            have hdy := HDY.out
            rcases hdy with ⟨rfl, e1, e2⟩ | ⟨rfl, e1, e2, e3⟩ | ⟨rfl, e1, e2, e3⟩
            · rcases e2 with e2 | e2
              · go_wp2_with fail
                go_ret
                exact ⟨rfl, HQ.out.1⟩
              · go_wp2_with fail
                go_ret
                exact ⟨rfl, HQ.out.1⟩
            · go_wp2_with fail
              go_ret
              exact ⟨rfl, HQ.out.1⟩
            · go_wp2_with fail
              go_ret
              exact ⟨rfl, HQ.out.1⟩
end Go.Proofs.YtlebkdmkofgdpabDoor
