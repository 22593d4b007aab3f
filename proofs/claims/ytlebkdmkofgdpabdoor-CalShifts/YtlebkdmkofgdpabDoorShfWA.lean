/-
  The walk of CalShifts.
-/
import Derived.Test.YtlebkdmkofgdpabDoorBckWA
namespace Go.Proofs.YtlebkdmkofgdpabDoor
open Go.RowKit Go.Shelf
set_option linter.unusedVariables false

theorem cutD_le (s k : Int) : cutD s k ≤ k := by unfold cutD; split <;> omega
theorem cutD_mono (s : Int) {a b : Int} (h : a ≤ b) : cutD s a ≤ cutD s b := by unfold cutD; split <;> split <;> omega
theorem moD_mono (s : Int) {a b : Int} (h : a ≤ b) : moD s a ≤ moD s b := by unfold moD; have := cutD_mono s h; omega
theorem moD_self {d y m k : Int} (h : Dt d y m k) : moD (ser y m) k = d := by
  obtain ⟨e1, e2⟩ := ser_back h
  have := h.k2; have := h.at_
  unfold moD cutD
  rw [e1, e2, if_pos h.k2]
  exact h.at_
theorem ser_fwd {s : Int} : ser (1 + s / 12) (1 + s % 12) = s := by unfold ser; omega
theorem cutD_last {s k : Int} (h : cutD s k < k) : cutD s k = dim (1 + s / 12) (1 + s % 12) := by unfold cutD at *; split at h <;> first | omega | rfl
set_option maxHeartbeats 2000000 in
set_option maxRecDepth 20000 in
theorem shifts_out (n a b : Int) (w : World) (h1 : -9223372036854775808 ≤ n) (h2 : n ≤ 9223372036854775807) (a1 : -9223372036854775808 ≤ a) (a2 : a ≤ 9223372036854775807) (b1 : -9223372036854775808 ≤ b) (b2 : b ≤ 9223372036854775807) (hT : Tl w)
    {y m k : Int} (hD : Dt (n % 3652059) y m k) (hr : ¬ (0 ≤ ser y m + (a % 2400 - 1200) ∧ ser y m + (a % 2400 - 1200) ≤ 119987)) :
    Calls Tryd.prog 6 #[.int .i64 n, .int .i64 a, .int .i64 b] w fun e w' => e = .returned (.bool true) ∧ Below w.heap.size w w' := by
  have dy := day_any n w h1 h2
  have pk1 := pick_any a 2400 a1 a2 (by omega) (by omega) w
  have pk2 := pick_any b 2400 b1 b2 (by omega) (by omega) w
  obtain ⟨sb0, sb1⟩ := ser_bd hD
  have A1 : 0 ≤ a % 2400 := by omega
  have A2 : a % 2400 < 2400 := by omega
  have B1 : 0 ≤ b % 2400 := by omega
  have B2 : b % 2400 < 2400 := by omega
  generalize n % 3652059 = d at *
  generalize a % 2400 = A at *
  generalize b % 2400 = B at *
  have m0 := months_ok hD 0 w hT (by omega) (by omega)
  rw [show ser y m + 0 = ser y m by omega, moD_self hD] at m0
  have pa := parts_at hD w hT
  have mo := months_out hD (A - 1200) w hT (by omega) (by omega) hr
  have y1 := hD.y1; have y2 := hD.y2; have q1 := hD.m1; have q2 := hD.m2
  unfold ser at hr
  clear hT sb0 sb1 hD
  by_cases hlo : 12 * y + m - 1 + (A - 1200) < 12
  · clear hr
    go_enter Tryd.func6, Tryd.ntmps6
    go_wp2_with (go_at_call 7; refine dy.mono ?_; rintro e w2 ⟨rfl, rfl⟩)
    go_at_call 14
    refine pk1.mono ?_
    rintro e w2 ⟨rfl, rfl⟩
    go_wp2_with fail
    go_at_call 14
    refine pk2.mono ?_
    rintro e w2 ⟨rfl, rfl⟩
    go_wp2_with fail
    go_at_call 16
    refine m0.mono ?_
    rintro e w2 ⟨rfl, rfl⟩
    go_wp2_with fail
    go_at_call 8
    refine pa.mono ?_
    rintro e w2 ⟨rfl, rfl⟩
    go_wp2_with fail
    go_at_call 16
    refine mo.mono ?_
    rintro e w2 ⟨rfl, rfl⟩
    go_wp2_with fail
    go_ret
    exact ⟨rfl, Below.refl _ _⟩
  · have hhi : 120000 ≤ 12 * y + m - 1 + (A - 1200) := by omega
    clear hr
    go_enter Tryd.func6, Tryd.ntmps6
    go_wp2_with (go_at_call 7; refine dy.mono ?_; rintro e w2 ⟨rfl, rfl⟩)
    go_at_call 14
    refine pk1.mono ?_
    rintro e w2 ⟨rfl, rfl⟩
    go_wp2_with fail
    go_at_call 14
    refine pk2.mono ?_
    rintro e w2 ⟨rfl, rfl⟩
    go_wp2_with fail
    go_at_call 16
    refine m0.mono ?_
    rintro e w2 ⟨rfl, rfl⟩
    go_wp2_with fail
    go_at_call 8
    refine pa.mono ?_
    rintro e w2 ⟨rfl, rfl⟩
    go_wp2_with fail
    go_at_call 16
    refine mo.mono ?_
    rintro e w2 ⟨rfl, rfl⟩
    go_wp2_with fail
    go_ret
    exact ⟨rfl, Below.refl _ _⟩
set_option maxHeartbeats 2000000 in
set_option maxRecDepth 20000 in
theorem shifts_in (n a b : Int) (w : World) (h1 : -9223372036854775808 ≤ n) (h2 : n ≤ 9223372036854775807) (a1 : -9223372036854775808 ≤ a) (a2 : a ≤ 9223372036854775807) (b1 : -9223372036854775808 ≤ b) (b2 : b ≤ 9223372036854775807) (hT : Tl w)
    {y m k : Int} (hD : Dt (n % 3652059) y m k) (hr : 0 ≤ ser y m + (a % 2400 - 1200)) (hr2 : ser y m + (a % 2400 - 1200) ≤ 119987) :
    Calls Tryd.prog 6 #[.int .i64 n, .int .i64 a, .int .i64 b] w fun e w' => e = .returned (.bool true) ∧ Below w.heap.size w w' := by
  have dy := day_any n w h1 h2
  have pk1 := pick_any a 2400 a1 a2 (by omega) (by omega) w
  have pk2 := pick_any b 2400 b1 b2 (by omega) (by omega) w
  obtain ⟨sb0, sb1⟩ := ser_bd hD
  have A1 : 0 ≤ a % 2400 := by omega
  have A2 : a % 2400 < 2400 := by omega
  have B1 : 0 ≤ b % 2400 := by omega
  have B2 : b % 2400 < 2400 := by omega
  generalize n % 3652059 = d at *
  generalize a % 2400 = A at *
  generalize b % 2400 = B at *
  have m0 := months_ok hD 0 w hT (by omega) (by omega)
  rw [show ser y m + 0 = ser y m by omega, moD_self hD] at m0
  have pa := parts_at hD w hT
  have mo := months_ok hD (A - 1200) w hT hr hr2
  obtain ⟨s, hs⟩ : ∃ s, ser y m + (A - 1200) = s := ⟨_, rfl⟩
  rw [hs] at mo hr hr2
  have y1 := hD.y1; have y2 := hD.y2; have q1 := hD.m1; have q2 := hD.m2; have k1 := hD.k1
  have hE := moD_dt (k := k) hr hr2 k1
  have hle := cutD_le s k
  have hla : cutD s k < k → cutD s k = dim (1 + s / 12) (1 + s % 12) := cutD_last
  have hsb := ser_fwd (s := s)
  have hat : 12 * (1 + s / 12) + (1 + s % 12) - 1 = 12 * y + m - 1 + (A - 1200) := by unfold ser at hs; omega
  generalize moD s k = X at *
  generalize 1 + s / 12 = Y at *
  generalize 1 + s % 12 = M at *
  generalize cutD s k = L at *
  have Y1 := hE.y1; have Y2 := hE.y2; have Q1 := hE.m1; have Q2 := hE.m2; have L1 := hE.k1
  have pe := parts_at hE w hT
  have pr := period_yes hE 3 w hT (by omega)
  have e3 : ahd Y (pTo 3 M) = ahd Y M + dim Y M := ahd_succ Y M Q1 Q2
  rw [e3, show pFrom 3 M = M from rfl] at pr
  have hat2 := hE.at_
  obtain ⟨E, hEE⟩ : ∃ E, ahd Y M + dim Y M = E := ⟨_, rfl⟩
  have eb := ahd_bd (m := M + 1) Y1 Y2 (by omega) (by omega)
  rw [ahd_succ Y M Q1 Q2, hEE] at eb
  have hX : L < k → X = E - 1 := fun h => by have := hla h; omega
  rw [hEE] at pr
  generalize ahd Y M = F at *
  have mb := fun W h => months_ok hE (-(A - 1200)) W h (by omega) (by omega)
  rw [show ser Y M + -(A - 1200) = ser y m by omega] at mb
  have hK : L = k → moD (ser y m) L = d := fun h => by rw [h]; exact moD_self hD
  generalize moD (ser y m) L = K at *
  have HT : Hid (Tl w) := hT
  have xb := hE.there
  have HX : Hid (L < k → X = E - 1) := hX
  have HK : Hid (L = k → K = d) := hK
  clear hX hK hla hEE e3 hat2 hT
  have hlo : ¬ 12 * y + m - 1 + (A - 1200) < 12 := by unfold ser at hs; omega
  have hhi : ¬ 120000 ≤ 12 * y + m - 1 + (A - 1200) := by unfold ser at hs; omega
  have HS : Hid (ser y m + (A - 1200) = s) := hs
  have HSB : Hid (ser Y M = s) := hsb
  clear hs hsb
  have mt : ∃ (one two ez : Int), (∀ W, Tl W → Calls Tryd.prog 16 #[.int .i64 X, .int .i64 (B - 1200)] W fun e w' => e = .returned (.tuple #[.int .i64 one, .int .i64 ez]) ∧ w' = W) ∧ (∀ W, Tl W → Calls Tryd.prog 16 #[.int .i64 d, .int .i64 (A - 1200 + (B - 1200))] W fun e w' => e = .returned (.tuple #[.int .i64 two, .int .i64 ez]) ∧ w' = W) ∧ one ≤ two ∧ (L = k → one = two) ∧ (ez = 0 ∨ ez = 100) := by
    have e1 := HS.out; have e2 := HSB.out
    by_cases hq : 0 ≤ s + (B - 1200) ∧ s + (B - 1200) ≤ 119987
    · refine ⟨moD (s + (B - 1200)) L, moD (s + (B - 1200)) k, 0, fun W h => ?_, fun W h => ?_, moD_mono _ (by omega), fun h => by rw [h], Or.inl rfl⟩
      · have := months_ok hE (B - 1200) W h (by omega) (by omega)
        rw [e2] at this
        exact this
      · have := months_ok hD (A - 1200 + (B - 1200)) W h (by omega) (by omega)
        rw [show ser y m + (A - 1200 + (B - 1200)) = s + (B - 1200) by omega] at this
        exact this
    · refine ⟨0, 0, 100, fun W h => ?_, fun W h => ?_, Int.le_refl _, fun _ => rfl, Or.inr rfl⟩
      · exact months_out hE (B - 1200) W h (by omega) (by omega) (by omega)
      · exact months_out hD (A - 1200 + (B - 1200)) W h (by omega) (by omega) (by omega)
  obtain ⟨one, two, ez, mt1, mt2, hot, hoe, hez⟩ := mt
  have HO : Hid (L = k → one = two) := hoe
  clear hoe hE hD sb0 sb1 hr hr2 HS HSB
  rcases hez with rfl | rfl <;> by_cases hLk : L < k
  · have hX := HX.out hLk
    have hXb : (X == E - 1) = true := by simpa using hX
    have hXn : (X != E - 1) = false := by simpa using hX
    have hne : ¬ L = k := by omega
    have hnb : (L == k) = false := by simpa using hne
    clear HX HK HO hX
    go_enter Tryd.func6, Tryd.ntmps6
    go_wp2_with (go_at_call 7; refine dy.mono ?_; rintro e w2 ⟨rfl, rfl⟩)
    go_at_call 14
    refine pk1.mono ?_
    rintro e w2 ⟨rfl, rfl⟩
    go_wp2_with fail
    go_at_call 14
    refine pk2.mono ?_
    rintro e w2 ⟨rfl, rfl⟩
    go_wp2_with fail
    go_at_call 16
    refine m0.mono ?_
    rintro e w2 ⟨rfl, rfl⟩
    go_wp2_with fail
    go_at_call 8
    refine pa.mono ?_
    rintro e w2 ⟨rfl, rfl⟩
    go_wp2_with fail
    go_at_call 16
    refine mo.mono ?_
    rintro e w2 ⟨rfl, rfl⟩
    go_wp2_with fail
    go_at_call 8
    refine pe.mono ?_
    rintro e w2 ⟨rfl, rfl⟩
    go_wp2_with fail
    go_at_call 15
    refine pr.mono ?_
    rintro e w3 ⟨rfl, hb3⟩
    have HB : Hid (Below _ _ _) := hb3
    clear hb3 dy pk1 pk2 m0 pa mo pe pr
    go_wp2_with fail
    have HB2 : Hid (Below _ _ _) := HB.out.alloc HB.out.size (Obj.cells #[.int .i64 F, .int .i64 E] 40)
    clear HB
    go_at_call 16
    refine (mb _ (HT.out.to HB2.out)).mono ?_
    rintro e w4 ⟨rfl, rfl⟩
    go_wp2_with fail
    go_at_call 16
    refine (mt1 _ (HT.out.to HB2.out)).mono ?_
    rintro e w4 ⟨rfl, rfl⟩
    go_wp2_with fail
    go_at_call 16
    refine (mt2 _ (HT.out.to HB2.out)).mono ?_
    rintro e w4 ⟨rfl, rfl⟩
    go_wp2_with fail
    go_ret
    exact ⟨ret_bool (by simp), HB2.out⟩
  · have hek : L = k := by omega
    have hK := HK.out hek
    have hO := HO.out hek
    have hKb : (K == d) = true := by simpa using hK
    have hKn : (K != d) = false := by simpa using hK
    have hOb : (one == two) = true := by simpa using hO
    have hlb : (L == k) = true := by simpa using hek
    have hlk : ¬ L < k := hLk
    clear HX HK HO hK hO hek
    go_enter Tryd.func6, Tryd.ntmps6
    go_wp2_with (go_at_call 7; refine dy.mono ?_; rintro e w2 ⟨rfl, rfl⟩)
    go_at_call 14
    refine pk1.mono ?_
    rintro e w2 ⟨rfl, rfl⟩
    go_wp2_with fail
    go_at_call 14
    refine pk2.mono ?_
    rintro e w2 ⟨rfl, rfl⟩
    go_wp2_with fail
    go_at_call 16
    refine m0.mono ?_
    rintro e w2 ⟨rfl, rfl⟩
    go_wp2_with fail
    go_at_call 8
    refine pa.mono ?_
    rintro e w2 ⟨rfl, rfl⟩
    go_wp2_with fail
    go_at_call 16
    refine mo.mono ?_
    rintro e w2 ⟨rfl, rfl⟩
    go_wp2_with fail
    go_at_call 8
    refine pe.mono ?_
    rintro e w2 ⟨rfl, rfl⟩
    go_wp2_with fail
    go_at_call 15
    refine pr.mono ?_
    rintro e w3 ⟨rfl, hb3⟩
    have HB : Hid (Below _ _ _) := hb3
    clear hb3 dy pk1 pk2 m0 pa mo pe pr
    go_wp2_with fail
    have HB2 : Hid (Below _ _ _) := HB.out.alloc HB.out.size (Obj.cells #[.int .i64 F, .int .i64 E] 40)
    clear HB
    go_at_call 16
    refine (mb _ (HT.out.to HB2.out)).mono ?_
    rintro e w4 ⟨rfl, rfl⟩
    go_wp2_with fail
    go_at_call 16
    refine (mt1 _ (HT.out.to HB2.out)).mono ?_
    rintro e w4 ⟨rfl, rfl⟩
    go_wp2_with fail
    go_at_call 16
    refine (mt2 _ (HT.out.to HB2.out)).mono ?_
    rintro e w4 ⟨rfl, rfl⟩
    go_wp2_with fail
    go_ret
    exact ⟨ret_bool (by simp), HB2.out⟩
  · have hX := HX.out hLk
    have hXb : (X == E - 1) = true := by simpa using hX
    have hXn : (X != E - 1) = false := by simpa using hX
    have hne : ¬ L = k := by omega
    have hnb : (L == k) = false := by simpa using hne
    clear HX HK HO hX
    go_enter Tryd.func6, Tryd.ntmps6
    go_wp2_with (go_at_call 7; refine dy.mono ?_; rintro e w2 ⟨rfl, rfl⟩)
    go_at_call 14
    refine pk1.mono ?_
    rintro e w2 ⟨rfl, rfl⟩
    go_wp2_with fail
    go_at_call 14
    refine pk2.mono ?_
    rintro e w2 ⟨rfl, rfl⟩
    go_wp2_with fail
    go_at_call 16
    refine m0.mono ?_
    rintro e w2 ⟨rfl, rfl⟩
    go_wp2_with fail
    go_at_call 8
    refine pa.mono ?_
    rintro e w2 ⟨rfl, rfl⟩
    go_wp2_with fail
    go_at_call 16
    refine mo.mono ?_
    rintro e w2 ⟨rfl, rfl⟩
    go_wp2_with fail
    go_at_call 8
    refine pe.mono ?_
    rintro e w2 ⟨rfl, rfl⟩
    go_wp2_with fail
    go_at_call 15
    refine pr.mono ?_
    rintro e w3 ⟨rfl, hb3⟩
    have HB : Hid (Below _ _ _) := hb3
    clear hb3 dy pk1 pk2 m0 pa mo pe pr
    go_wp2_with fail
    have HB2 : Hid (Below _ _ _) := HB.out.alloc HB.out.size (Obj.cells #[.int .i64 F, .int .i64 E] 40)
    clear HB
    go_at_call 16
    refine (mb _ (HT.out.to HB2.out)).mono ?_
    rintro e w4 ⟨rfl, rfl⟩
    go_wp2_with fail
    go_at_call 16
    refine (mt1 _ (HT.out.to HB2.out)).mono ?_
    rintro e w4 ⟨rfl, rfl⟩
    go_wp2_with fail
    go_at_call 16
    refine (mt2 _ (HT.out.to HB2.out)).mono ?_
    rintro e w4 ⟨rfl, rfl⟩
    go_wp2_with fail
    go_ret
    exact ⟨ret_bool (by simp), HB2.out⟩
  · have hek : L = k := by omega
    have hK := HK.out hek
    have hO := HO.out hek
    have hKb : (K == d) = true := by simpa using hK
    have hKn : (K != d) = false := by simpa using hK
    have hOb : (one == two) = true := by simpa using hO
    have hlb : (L == k) = true := by simpa using hek
    have hlk : ¬ L < k := hLk
    clear HX HK HO hK hO hek
    go_enter Tryd.func6, Tryd.ntmps6
    go_wp2_with (go_at_call 7; refine dy.mono ?_; rintro e w2 ⟨rfl, rfl⟩)
    go_at_call 14
    refine pk1.mono ?_
    rintro e w2 ⟨rfl, rfl⟩
    go_wp2_with fail
    go_at_call 14
    refine pk2.mono ?_
    rintro e w2 ⟨rfl, rfl⟩
    go_wp2_with fail
    go_at_call 16
    refine m0.mono ?_
    rintro e w2 ⟨rfl, rfl⟩
    go_wp2_with fail
    go_at_call 8
    refine pa.mono ?_
    rintro e w2 ⟨rfl, rfl⟩
    go_wp2_with fail
    go_at_call 16
    refine mo.mono ?_
    rintro e w2 ⟨rfl, rfl⟩
    go_wp2_with fail
    go_at_call 8
    refine pe.mono ?_
    rintro e w2 ⟨rfl, rfl⟩
    go_wp2_with fail
    go_at_call 15
    refine pr.mono ?_
    rintro e w3 ⟨rfl, hb3⟩
    have HB : Hid (Below _ _ _) := hb3
    clear hb3 dy pk1 pk2 m0 pa mo pe pr
    go_wp2_with fail
    have HB2 : Hid (Below _ _ _) := HB.out.alloc HB.out.size (Obj.cells #[.int .i64 F, .int .i64 E] 40)
    clear HB
    go_at_call 16
    refine (mb _ (HT.out.to HB2.out)).mono ?_
    rintro e w4 ⟨rfl, rfl⟩
    go_wp2_with fail
    go_at_call 16
    refine (mt1 _ (HT.out.to HB2.out)).mono ?_
    rintro e w4 ⟨rfl, rfl⟩
    go_wp2_with fail
    go_at_call 16
    refine (mt2 _ (HT.out.to HB2.out)).mono ?_
    rintro e w4 ⟨rfl, rfl⟩
    go_wp2_with fail
    go_ret
    exact ⟨ret_bool (by simp), HB2.out⟩
theorem shifts_walk (n a b : Int) (w : World) (h1 : -9223372036854775808 ≤ n) (h2 : n ≤ 9223372036854775807) (a1 : -9223372036854775808 ≤ a) (a2 : a ≤ 9223372036854775807) (b1 : -9223372036854775808 ≤ b) (b2 : b ≤ 9223372036854775807) (hT : Tl w) :
    Calls Tryd.prog 6 #[.int .i64 n, .int .i64 a, .int .i64 b] w fun e w' => e = .returned (.bool true) ∧ Below w.heap.size w w' := by
  obtain ⟨y, m, k, hD⟩ := dt_any (d := n % 3652059) (by omega) (by omega)
  by_cases hr : 0 ≤ ser y m + (a % 2400 - 1200) ∧ ser y m + (a % 2400 - 1200) ≤ 119987
  · exact shifts_in n a b w h1 h2 a1 a2 b1 b2 hT hD hr.1 hr.2
  · exact shifts_out n a b w h1 h2 a1 a2 b1 b2 hT hD hr
end Go.Proofs.YtlebkdmkofgdpabDoor
