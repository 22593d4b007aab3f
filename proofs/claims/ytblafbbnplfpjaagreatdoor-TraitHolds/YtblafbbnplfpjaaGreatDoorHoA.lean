import Derived.Test.YtblafbbnplfpjaaGreatDoorMgAa
import Derived.Test.YtblafbbnplfpjaaGreatDoorTr9
import Derived.Test.YtblafbbnplfpjaaGreatDoorMgAt
import Derived.Test.YtblafbbnplfpjaaGreatDoorMgAu
namespace Go.Proofs.YtblafbbnplfpjaaGreatDoor
open Go.RowKit Go.Shelf
set_option linter.unusedVariables false
set_option linter.unusedSimpArgs false

theorem short_two {x y : Int} (h1 : (x.natAbs : Int) < pw 1024) (h2 : (y.natAbs : Int) < pw 1024) (h0 : y ≠ 0) : Short (Rat.divInt x y) := by
  unfold Short
  rw [Rat.num_divInt, Rat.den_divInt, if_neg h0]
  have g1 : ((y.sign * x) / (y.gcd x : Nat)).natAbs ≤ x.natAbs := by
    have hd : ((y.gcd x : Nat) : Int) ∣ y.sign * x := Int.dvd_mul_of_dvd_right (Int.gcd_dvd_right ..)
    rw [Int.natAbs_ediv_of_dvd hd, Int.natAbs_mul, Int.natAbs_sign_of_ne_zero h0, Nat.one_mul]
    exact Nat.div_le_self _ _
  have g2 := Nat.div_le_self y.natAbs (y.gcd x)
  exact ⟨Int.lt_of_le_of_lt (by omega) h1, Int.lt_of_le_of_lt (by omega) h2⟩
theorem ten_le {p : Nat} (h : p ≤ 9) : (10 : Int) ^ p ≤ 1000000000 ∧ 1 ≤ (10 : Int) ^ p := by
  have : p = 0 ∨ p = 1 ∨ p = 2 ∨ p = 3 ∨ p = 4 ∨ p = 5 ∨ p = 6 ∨ p = 7 ∨ p = 8 ∨ p = 9 := by omega
  rcases this with rfl | rfl | rfl | rfl | rfl | rfl | rfl | rfl | rfl | rfl <;> exact ⟨by decide, by decide⟩
theorem short_ten {x : Int} {p : Nat} (h : p ≤ 9) (h1 : -9223372036854775808 ≤ x) (h2 : x ≤ 9223372036854775807) : Short (Rat.divInt x (10 ^ p)) := by
  have b1 : (9223372036854775808 : Int) < pw 1024 := Int.lt_of_lt_of_le (by decide : (9223372036854775808 : Int) < pw 1) (pw_mono (by omega))
  obtain ⟨t1, t2⟩ := ten_le h
  generalize (10 : Int) ^ p = T at *
  exact short_two (Int.lt_of_le_of_lt (by omega) b1) (Int.lt_of_le_of_lt (by omega) b1) (by omega)
theorem sl_va {w : World} {b : Nat} {t : TypeId} {m : Int} (hm : Word m) (V : Va w b t #[.int .u64 m]) : Sl w (some ⟨b, 0, none⟩) 1 [m] := by
  refine ⟨rfl, fun z hz => by rw [List.mem_singleton.1 hz]; exact hm, fun _ => ⟨_, _, rfl, fun i hi => ?_⟩⟩
  obtain rfl : i = 0 := by omega
  rw [V.cellAt 0]; rfl
set_option maxHeartbeats 4000000 in
theorem ramong_any (l : List (List UInt8)) (s : List UInt8) (a : Option Addr) (cap : Nat) (w : World) (h1 : Le elS w a l.length l) (hl : l.length ≤ 9000000000000) :
    Calls Tryz.prog 62 #[.slice a l.length cap, sv s] w fun e w' => e = .returned (.bool (l.contains s)) ∧ Below w.heap.size w w' := by
  have H1 : Hid (Le elS w a l.length l) := h1
  obtain ⟨R, hR⟩ : ∃ R, l.contains s = R := ⟨_, rfl⟩
  have HR : Hid (l.contains s = R) := hR
  rw [hR]
  clear h1 hR
  go_enter Tryz.func62, Tryz.ntmps62
  go_wp2_with fail
  go_loopw [5] (fun j wr => ∃ i : Nat, j = .int .i64 i ∧ i ≤ l.length ∧ Hid (∀ x ∈ l.take i, x ≠ s) ∧ Hid (Below w.heap.size w wr)) (fun j _ => (l.length - (intOf j).toNat : Nat))
  case atStart => exact ⟨0, rfl, Nat.zero_le _, (fun x hx => by simp at hx), Below.refl _ _⟩
  case round =>
    obtain ⟨i, rfl, hi, HN, HB⟩ := hrel
    rcases Nat.lt_or_ge i l.length with hlt | hge
    · have hii : (i : Int) < l.length := by omega
      obtain ⟨b1, o1, rfl⟩ := H1.out.ex (by omega)
      have k1 : wr.cell? ⟨b1, o1 + i, none⟩ = some (sv (l.getD i [])) := by have := (H1.out.after HB.out).at i hlt 0 (sv (l.getD i [])) rfl; simpa [elS] using this
      obtain ⟨x, hx⟩ : ∃ x, l.getD i [] = x := ⟨_, rfl⟩
      have hxe : l[i] = x := by rw [← hx, List.getD_eq_getElem?_getD, List.getElem?_eq_getElem hlt]; rfl
      rw [hx] at k1
      by_cases e : x = s
      · have HF : Hid (true = R) := by
          show _ = _
          rw [← HR.out, eq_comm, List.contains_iff_mem, ← e, ← hxe]
          exact List.getElem_mem hlt
        subst e
        clear hx hxe HN
        go_wp2_with fail
        go_ret
        exact ⟨by rw [← HF.out]; rfl, HB.out⟩
      · have q1 : (x == s) = false := by rw [beq_eq_false_iff_ne]; exact e
        have HN2 : Hid (∀ y ∈ l.take (i + 1), y ≠ s) := fun y hy => by
          rw [List.take_succ_eq_append_getElem hlt] at hy
          rcases List.mem_append.1 hy with hy | hy
          · exact HN.out y hy
          · rw [List.mem_singleton] at hy; rw [hy, hxe]; exact e
        clear hx hxe HN e
        go_wp2_with fail
        go_roundw
        case rel => exact ⟨i + 1, by go_num, by omega, HN2.out, HB.out⟩
        case measure => simp [intOf]; omega
    · obtain rfl : i = l.length := by omega
      have HF : Hid (false = R) := by
        show _ = _
        have h9 := HN.out
        rw [List.take_length] at h9
        rw [← HR.out, eq_comm, ← Bool.not_eq_true, List.contains_iff_mem]
        exact fun h => h9 s h rfl
      clear hge hi HN
      go_wp2_with fail
      go_ret
      exact ⟨by rw [← HF.out]; rfl, HB.out⟩
set_option maxHeartbeats 4000000 in
theorem rby_any (op c : Int) (w : World) :
    Calls Tryz.prog 63 #[.int .i64 op, .int .i64 c] w fun e w' => e = .returned (.bool (bySo op c)) ∧ Below w.heap.size w w' := by
  obtain ⟨R, hR⟩ : ∃ R, bySo op c = R := ⟨_, rfl⟩
  have HR : Hid (bySo op c = R) := hR
  have HB : Hid (Below w.heap.size w w) := Below.refl _ _
  rw [hR]
  clear hR
  go_enter Tryz.func63, Tryz.ntmps63
  by_cases o1 : op = 1
  · subst o1
    have HR2 : Hid (R = decide (c < 0)) := by show _ = _; rw [← HR.out]; simp [bySo]
    clear HR
    go_wp2_with fail
    go_ret
    exact ⟨by rw [HR2.out]; rfl, HB.out⟩
  · by_cases o2 : op = 2
    · subst o2
      have HR2 : Hid (R = decide (c ≤ 0)) := by show _ = _; rw [← HR.out]; simp [bySo]
      clear HR o1
      go_wp2_with fail
      go_ret
      exact ⟨by rw [HR2.out]; rfl, HB.out⟩
    · by_cases o3 : op = 3
      · subst o3
        have HR2 : Hid (R = decide (0 < c)) := by show _ = _; rw [← HR.out]; simp [bySo]
        clear HR o1 o2
        go_wp2_with fail
        go_ret
        exact ⟨by rw [HR2.out]; rfl, HB.out⟩
      · have HR2 : Hid (R = decide (0 ≤ c)) := by show _ = _; rw [← HR.out]; simp [bySo, o1, o2, o3]
        clear HR
        go_wp2_with fail
        go_ret
        exact ⟨by rw [HR2.out]; rfl, HB.out⟩
set_option maxRecDepth 20000 in
set_option maxHeartbeats 8000000 in
theorem ragainst_any (X : Int) (D : Nat) (U : Int) (P : Nat) (hD : D ≤ 9) (hP : P ≤ 9) (x0 : 0 ≤ X) (x1 : X ≤ 9223372036854775807) (u1 : -9223372036854775808 ≤ U) (u2 : U ≤ 9223372036854775807) (w : World) :
    Calls Tryz.prog 64 #[.int .i64 X, .int .i64 D, .agg #[.int .i64 U, .int .i64 P]] w fun e w' => e = .returned (.int .i64 (qcmp (Rat.divInt X (10 ^ D)) (Rat.divInt U (10 ^ P)))) ∧ Below w.heap.size w w' := by
  have HQ : Hid (D ≤ 9 ∧ P ≤ 9) := ⟨hD, hP⟩; have HU : Hid (-9223372036854775808 ≤ U ∧ U ≤ 9223372036854775807) := ⟨u1, u2⟩; have HS1 : Hid (Short (Rat.divInt X (10 ^ D))) := short_ten hD (by omega) x1; have HS2 : Hid (Short (Rat.divInt U (10 ^ P))) := short_ten hP u1 u2; have HX : Hid (Word X) := ⟨by omega, by omega⟩; (have xu : IntKind.u64.wrap X = X := by rw [IntKind.wrap_u64]; omega); have HC : Hid (IntKind.u64.wrap X = X) := xu; (obtain ⟨Z1, hZ1⟩ : ∃ z, Rat.divInt X (10 ^ D) = z := ⟨_, rfl⟩); (obtain ⟨Z2, hZ2⟩ : ∃ z, Rat.divInt U (10 ^ P) = z := ⟨_, rfl⟩); have HZ : Hid (Rat.divInt X (10 ^ D) = Z1 ∧ Rat.divInt U (10 ^ P) = Z2) := ⟨hZ1, hZ2⟩; rw [hZ1, hZ2]; rw [hZ1] at HS1; rw [hZ2] at HS2; clear hD hP x0 x1 u1 u2 hZ1 hZ2; have B0 : Below w.heap.size w w := Below.refl _ _
  go_enter Tryz.func64, Tryz.ntmps64
  (go_wp2_with fail); refine ent2 w _ _ _ _ (Q := fun W => Calls Tryz.prog _ _ W _) ?_; intro x1 hb hs_x1 V5 Vt; replace B0 := step B0 hb; clear hb hs_x1; have ht : Sl x1 (some ⟨w.heap.size + 1, 0, none⟩) 1 [10] := sl_va ⟨by decide, by decide⟩ Vt; clear Vt; refine (rpow_any9 (some ⟨w.heap.size + 1, 0, none⟩) 1 1 [10] D x1 ht (fun h => by cases h) (by omega) (by omega) (by decide) (by have := HQ.out.1; omega)).mono ?_; rintro e x2 ⟨a5, m5, c5, z5, may, rfl, h5, hp5, hb⟩; replace V5 := V5.a hb; replace B0 := step B0 hb; clear hb ht
  have HP5 : Hid (may = true ∧ usedN z5 = m5 ∧ num z5 = 10 ^ D ∧ m5 ≤ c5) := by
    have h9 := hp5.out; rw [show num [10] = 10 from rfl] at h9
    have hf : (10 : Int) ^ D < pw 4096 := by
      have b1 : (1000000000 : Int) < pw 4096 := Int.lt_of_lt_of_le (by decide : (1000000000 : Int) < pw 1) (pw_mono (by omega)); exact Int.lt_of_le_of_lt (ten_le HQ.out.1).1 b1
    rcases h9 with ⟨x1, x2, x3, -, x5⟩ | ⟨-, x2⟩
    · exact ⟨x1, x2, x3, x5⟩
    · exact absurd x2 (Int.not_le.2 hf)
  obtain rfl : may = true := HP5.out.1
  have HM5 : Hid (m5 ≤ 1) := by
    have h9 := used_of_lt (n := 1) h5.2.1 (by rw [HP5.out.2.2.1]; exact Int.lt_of_le_of_lt (ten_le HQ.out.1).1 (by decide))
    show m5 ≤ 1
    rw [← HP5.out.2.1]; exact h9
  have HN5 : Hid (num z5 ≠ 0) := by
    show num z5 ≠ 0
    rw [HP5.out.2.2.1]; have := (ten_le HQ.out.1).2; omega
  have HRV : Hid (Rat.divInt (iv false [X]) (num z5) = Z1) := by
    show _ = _
    rw [HP5.out.2.2.1, iv_f, ← HZ.out.1, show num [X] = X by simp [num]]
  clear hp5; (go_wp2_with fail); refine wp_region_noPanic ?_; replace V5 : Va x2.drew _ _ _ := V5; replace h5 := h5.drw; replace B0 := Below.drew B0; refine wp_region_held_drew (S := (fun W => W.cell? ⟨w.heap.size, 0, none⟩ = some (.int .i64 U) ∧ W.cell? ⟨w.heap.size, 1, none⟩ = some (.int .i64 P))) (by kernel_rfl) ⟨V5.c0, V5.c1⟩ (fun hHeld => ?_); (obtain ⟨x11, hxd⟩ : ∃ xd, xd = x2.drew := ⟨_, rfl⟩); rw [← hxd] at V5 h5 B0 hHeld ⊢; clear hxd; refine tjz 0 hHeld ?_; refine wpAnyH_take (i := 1) (v := .int .u64 X) rfl (by kernel_rfl) (by kernel_rfl) (by kernel_rfl) (fun _ _ _ h => h) (Or.inl ⟨by rfl, ?_⟩) hHeld ?_
  · (intro W hSw; (try dsimp only at hSw); go_simp; done)
  simp only [gA, gB, gC, Act.put, gD, gE, gF]; refine tjz 3 hHeld ?_; refine tjz 5 hHeld ?_; refine ryz 2 (fun K hK => ?_); simp only [gA, gB, gC]; (go_simp); have lt_Vx_V5 := V5.lt; have sz_Vx := B0.size; refine ent1 _ _ _ (Q := fun V => K _ V) ?_; intro x12 hb hs_ Vx; replace V5 := V5.a hb; replace h5 := Sl.after hb h5; replace B0 := step B0 hb; clear hb hs_; refine hK.out _ _ ⟨V5.c0, V5.c1⟩ (fun hHeld => ?_); clear hK K; have hx : Sl x12 _ 1 [X] := sl_va HX.out Vx; clear Vx; refine ryz 4 (fun K hK => ?_); simp only [gA, gB, gC]; (go_simp); refine (rmake5 false _ a5 1 1 m5 c5 [X] z5 _ hx h5 (Nat.le_refl _) HP5.out.2.2.2 (by omega) (by have := HM5.out; omega) (Nat.le_trans (usedN_le [X]) (by simp)) (by have := HP5.out.2.1; have := HM5.out; omega) HN5.out).mono ?_
  rintro e x13 ⟨s6, a6, l6, c6, z6, b6, m6, d6, y6, rfl, r6, -, -, hb⟩; replace V5 := V5.a hb; replace h5 := Sl.after hb h5; replace hx := Sl.after hb hx; replace B0 := step B0 hb; clear hb; rw [HRV.out] at r6; (try go_wp2_with fail); refine hK.out _ _ ⟨V5.c0, V5.c1⟩ (fun hHeld => ?_); clear hK K; refine ryz 6 (fun K hK => ?_); simp only [gA, gB, gC]; (go_simp); refine (rworth6 U P HQ.out.2 HU.out.1 HU.out.2 _).mono ?_; rintro e x14 ⟨s7, a7, l7, c7, z7, b7, m7, d7, y7, rfl, r7, hb⟩; replace V5 := V5.a hb; replace h5 := Sl.after hb h5; replace hx := Sl.after hb hx; replace r6 := Rr.after hb r6; replace B0 := step B0 hb; clear hb; rw [HZ.out.2] at r7; (try go_wp2_with fail); refine hK.out _ _ ⟨V5.c0, V5.c1⟩ (fun hHeld => ?_); clear hK K; refine ryz 7 (fun K hK => ?_)
  simp only [gA, gB, gC]; (go_simp); refine (rcompare7 s6 a6 l6 c6 z6 b6 m6 d6 y6 Z1 s7 a7 l7 c7 z7 b7 m7 d7 y7 Z2 _ r6 r7 HS1.out HS2.out).mono ?_; rintro e x15 ⟨rfl, hb⟩; replace V5 := V5.a hb; replace h5 := Sl.after hb h5; replace hx := Sl.after hb hx; replace r6 := Rr.after hb r6; replace r7 := Rr.after hb r7; replace B0 := step B0 hb; clear hb; (try go_wp2_with fail); refine hK.out _ _ ⟨V5.c0, V5.c1⟩ (fun hHeld => ?_); clear hK K; refine tjz 8 hHeld ?_; refine dnz ?_; clear hHeld; (go_wp2_with fail)
  go_ret
  exact ⟨rfl, B0⟩
end Go.Proofs.YtblafbbnplfpjaaGreatDoor
