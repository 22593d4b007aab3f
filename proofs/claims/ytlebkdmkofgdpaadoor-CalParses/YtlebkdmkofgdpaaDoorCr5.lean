/-
  The document's Parse; the walks of CalParts and CalParses.
-/
import Derived.Test.YtlebkdmkofgdpaaDoorCr4
import Derived.Test.YtlebkdmkofgdpaaDoorBckWA
namespace Go.Proofs.YtlebkdmkofgdpaaDoor
open Go.RowKit Go.Shelf
set_option linter.unusedVariables false

theorem rnum_pos {l : List UInt8} (h : 1 ≤ rnum l) : l.all isDg = true ∧ rnum l = numL l := by
  unfold rnum at *
  by_cases hl : l.all isDg = true
  · rw [if_pos hl]; exact ⟨hl, rfl⟩
  · rw [if_neg hl] at h; omega
theorem rnum_of {l : List UInt8} (h : l.all isDg = true) : rnum l = numL l := by unfold rnum; rw [if_pos h]
theorem getD_byte (s : List UInt8) (p : Nat) (h : p < s.length) : (ByteArray.mk s.toArray)[p]'(by rw [bsize]; exact h) = s.getD p 0 := by
  rw [List.getD_eq_getElem?_getD, List.getElem?_eq_getElem h]; rfl
/-- Numbers that may be, of a text's pieces with two strokes between, make a day whose text it is. -/
theorem text_of_parts {s : List UInt8} (hl : s.length = 10) (h4 : s.getD 4 0 = 45) (h7 : s.getD 7 0 = 45) (ho : Ok3 (rnum (s.take 4)) (rnum ((s.drop 5).take 2)) (rnum (s.drop 8))) :
    s = txt (rnum (s.take 4)) (rnum ((s.drop 5).take 2)) (rnum (s.drop 8)) := by
  obtain ⟨y1, y2, m1, m2, k1, k2⟩ := ho
  obtain ⟨a1, a2⟩ := rnum_pos y1
  obtain ⟨b1, b2⟩ := rnum_pos m1
  obtain ⟨c1, c2⟩ := rnum_pos k1
  have e := ten_cut hl
  rw [h4, h7] at e
  rw [a2, b2, c2]
  unfold txt
  rw [(tx4_of (by simp; omega) a1).1, (tx2_of (by simp; omega) b1).1, (tx2_of (by simp; omega) c1).1]
  exact e
set_option maxHeartbeats 1000000 in
theorem rparse_at (s : List UInt8) (w : World) (hlen : s.length = 10) (h4 : s.getD 4 0 = 45) (h7 : s.getD 7 0 = 45) (d e : Int)
    (oy : ∀ n, Calls Tryd.prog 12 #[.int .i64 (rnum (s.take 4)), .int .i64 (rnum ((s.drop 5).take 2)), .int .i64 (rnum (s.drop 8))] (w.drewN n) fun e' w' => e' = .returned (.tuple #[.int .i64 d, .int .i64 e]) ∧ w' = w.drewN n) :
    Calls Tryd.prog 20 #[.string ⟨s.toArray⟩] w fun e' w' => e' = .returned (.tuple #[.int .i64 d, .int .i64 e]) ∧ Below w.heap.size w w' := by
  have hli : (s.length : Int) = 10 := by omega
  have s1 := fun W => slice_hi s 4 4 rfl (by omega) W
  have s2 := fun W => slice_mid s 5 7 5 7 rfl rfl (by omega) (by omega) W
  have s3 := fun W => slice_lo s 8 8 rfl (by omega) W
  rw [show 7 - 5 = 2 from rfl] at s2
  have n1 := fun W => rnumber_any (s.take 4) W (by simp; omega)
  have n2 := fun W => rnumber_any ((s.drop 5).take 2) W (by simp; omega)
  have n3 := fun W => rnumber_any (s.drop 8) W (by simp; omega)
  have c4 := getD_byte s 4 (by omega)
  have c7 := getD_byte s 7 (by omega)
  rw [h4] at c4; rw [h7] at c7
  generalize s.take 4 = A at *
  generalize (s.drop 5).take 2 = B at *
  generalize s.drop 8 = C at *
  generalize rnum A = y at *
  generalize rnum B = m at *
  generalize rnum C = k at *
  clear h4 h7
  go_enter Tryd.func20, Tryd.ntmps20
  go_wp2_with fail
  refine wp_region_quiet_lit (by kernel_rfl) (by kernel_rfl) ?_
  repeat (go_big_quiet_step (fail))
  go_big_quiet_step ((refine (n1 (w.drewN _)).mono ?_; rintro e w2 ⟨rfl, rfl⟩; exact ⟨rfl, _, rfl⟩))
  repeat (go_big_quiet_step (fail))
  go_big_quiet_step ((refine (n2 (w.drewN _)).mono ?_; rintro e w2 ⟨rfl, rfl⟩; exact ⟨rfl, _, rfl⟩))
  repeat (go_big_quiet_step (fail))
  go_big_quiet_step ((refine (n3 (w.drewN _)).mono ?_; rintro e w2 ⟨rfl, rfl⟩; exact ⟨rfl, _, rfl⟩))
  repeat (go_big_quiet_step (fail))
  go_big_quiet_step ((refine (oy _).mono ?_; rintro e w2 ⟨rfl, rfl⟩; exact ⟨rfl, _, rfl⟩))
  repeat (go_big_quiet_step (fail))
  refine wpQuiet_nil ?_
  intro _ hw'
  obtain ⟨nq, hw''⟩ := hw'
  subst hw''
  go_wp2_with fail
  go_ret2
  exact ⟨rfl, Below.drN _ _⟩
theorem rparse_yes {d y m k : Int} (hD : Dt d y m k) (w : World) :
    Calls Tryd.prog 20 #[.string ⟨(txt y m k).toArray⟩] w fun e w' => e = .returned (.tuple #[.int .i64 d, .int .i64 0]) ∧ Below w.heap.size w w' := by
  have y1 := hD.y1; have y2 := hD.y2; have m1 := hD.m1; have m2 := hD.m2; have k1 := hD.k1; have k2 := hD.k2
  have kb := dim_bd y m
  obtain ⟨c1, c2, c3, c4, c5⟩ := cut_txt y m k
  refine rparse_at (txt y m k) w (txt_len y m k) c4 c5 d 0 (fun n => ?_)
  rw [c1, c2, c3, rnum_of (tx4_dg (by omega) (by omega)), rnum_of (tx2_dg (by omega) (by omega)), rnum_of (tx2_dg (by omega) (by omega)), numL_tx4 (by omega) (by omega), numL_tx2 (by omega) (by omega), numL_tx2 (by omega) (by omega)]
  have := rof_yes y m k (w.drewN n) hD.ok
  rw [hD.at_] at this
  exact this
set_option maxHeartbeats 1000000 in
theorem rparse_no (s : List UInt8) (w : World) (h : ∀ d y m k, Dt d y m k → s ≠ txt y m k) :
    Calls Tryd.prog 20 #[.string ⟨s.toArray⟩] w fun e w' => e = .returned (.tuple #[.int .i64 0, .int .i64 100]) ∧ Below w.heap.size w w' := by
  by_cases hlen : s.length = 10
  · by_cases h4 : s.getD 4 0 = 45
    · by_cases h7 : s.getD 7 0 = 45
      · refine rparse_at s w hlen h4 h7 0 100 (fun n => ?_)
        exact rof_no _ _ _ _ (fun ho => h _ _ _ _ ho.dt (text_of_parts hlen h4 h7 ho))
      · have hli : (s.length : Int) = 10 := by omega
        have c4 := getD_byte s 4 (by omega)
        have c7 := getD_byte s 7 (by omega)
        rw [h4] at c4
        obtain ⟨c, hc⟩ : ∃ c, s.getD 7 0 = c := ⟨_, rfl⟩
        rw [hc] at c7 h7
        have e7 : ((c.toNat : Int) == 45) = false := by
          have : ¬ c.toNat = 45 := fun e => h7 (UInt8.toNat_inj.1 e)
          simp; omega
        have n7 : ((c.toNat : Int) != 45) = true := by
          have : ¬ c.toNat = 45 := fun e => h7 (UInt8.toNat_inj.1 e)
          simp; omega
        have u7 : ¬ (c.toNat : Int) = 45 := by simpa using e7
        clear h hc h7 h4
        go_enter Tryd.func20, Tryd.ntmps20
        go_wp2_with fail
        go_ret2
        exact ⟨rfl, Below.refl _ _⟩
    · have hli : (s.length : Int) = 10 := by omega
      have c4 := getD_byte s 4 (by omega)
      obtain ⟨c, hc⟩ : ∃ c, s.getD 4 0 = c := ⟨_, rfl⟩
      rw [hc] at c4 h4
      have e4 : ((c.toNat : Int) == 45) = false := by
        have : ¬ c.toNat = 45 := fun e => h4 (UInt8.toNat_inj.1 e)
        simp; omega
      have n4 : ((c.toNat : Int) != 45) = true := by
        have : ¬ c.toNat = 45 := fun e => h4 (UInt8.toNat_inj.1 e)
        simp; omega
      have u4 : ¬ (c.toNat : Int) = 45 := by simpa using e4
      clear h hc h4
      go_enter Tryd.func20, Tryd.ntmps20
      go_wp2_with fail
      go_ret2
      exact ⟨rfl, Below.refl _ _⟩
  · have hli : ¬ (s.length : Int) = 10 := by omega
    have hlb : ((s.length : Int) == 10) = false := by simpa using hli
    clear h
    go_enter Tryd.func20, Tryd.ntmps20
    go_wp2_with fail
    go_ret2
    exact ⟨rfl, Below.refl _ _⟩
set_option maxHeartbeats 1000000 in
theorem parses_walk (s : List UInt8) (w : World) (hT : Tl w) (hP : Pt w) :
    Calls Tryd.prog 6 #[.string ⟨s.toArray⟩] w fun e w' => e = .returned (.bool true) ∧ Below w.heap.size w w' := by
  have hab : ∃ a b : Int, (Calls Tryd.prog 19 #[.string ⟨s.toArray⟩] w fun e w' => e = .returned (.tuple #[.int .i64 a, .int .i64 b]) ∧ Below w.heap.size w w') ∧ (∀ W, Calls Tryd.prog 20 #[.string ⟨s.toArray⟩] W fun e w' => e = .returned (.tuple #[.int .i64 a, .int .i64 b]) ∧ Below W.heap.size W w') := by
    by_cases hx : ∃ x a b c, Dt x a b c ∧ s = txt a b c
    · obtain ⟨x, a, b, c, hE, rfl⟩ := hx
      exact ⟨_, _, parse_yes hE w hT hP, fun W => rparse_yes hE W⟩
    · have h := fun d' y' m' k' h e => hx ⟨d', y', m', k', h, e⟩
      exact ⟨_, _, parse_no s w h hT hP, fun W => rparse_no s W h⟩
  obtain ⟨a, b, c1, c2⟩ := hab
  have aw := fun W h => awake_any W h
  have HT : Hid (Tl w) := hT
  clear hT hP
  go_enter Tryd.func6, Tryd.ntmps6
  go_wp2_with fail
  go_at_call 19
  refine c1.mono ?_
  rintro e w3 ⟨rfl, hb3⟩
  have HB3 : Hid (Below _ _ _) := hb3
  clear hb3 c1
  go_wp2_with fail
  go_at_call 20
  refine (c2 _).mono ?_
  rintro e w5 ⟨rfl, hb5⟩
  have HB5 : Hid (Below _ _ _) := step HB3.out hb5
  clear hb5 HB3 c2
  go_wp2_with fail
  go_at_call 13
  refine (aw _ (HT.out.to HB5.out)).mono ?_
  rintro e w6 ⟨rfl, rfl⟩
  go_wp2_with fail
  go_ret
  exact ⟨rfl, HB5.out⟩
set_option maxHeartbeats 1000000 in
theorem parts_walk (n : Int) (w : World) (n1 : -9223372036854775808 ≤ n) (n2 : n ≤ 9223372036854775807) (hT : Tl w) (hP : Pt w) :
    Calls Tryd.prog 5 #[.int .i64 n] w fun e w' => e = .returned (.bool true) ∧ Below w.heap.size w w' := by
  have hab : ∃ (a b c e f g : Int) (T : List UInt8), (∀ W, Tl W → Calls Tryd.prog 14 #[.int .i64 n] W fun e' w' => e' = .returned (.tuple #[.int .i64 a, .int .i64 b, .int .i64 c, .int .i64 e]) ∧ w' = W) ∧ (∀ W, Calls Tryd.prog 15 #[.int .i64 n] W fun e' w' => e' = .returned (.tuple #[.int .i64 a, .int .i64 b, .int .i64 c, .int .i64 e]) ∧ w' = W)
      ∧ (Calls Tryd.prog 10 #[.int .i64 n] w fun e' w' => e' = .returned (.tuple #[.string ⟨T.toArray⟩, .int .i64 f]) ∧ Below w.heap.size w w') ∧ (∀ W, Calls Tryd.prog 16 #[.int .i64 n] W fun e' w' => e' = .returned (.tuple #[.string ⟨T.toArray⟩, .int .i64 f]) ∧ Below W.heap.size W w')
      ∧ (∀ W, Calls Tryd.prog 17 #[.int .i64 n] W fun e' w' => e' = .returned (.tuple #[.int .i64 g, .int .i64 e]) ∧ w' = W) ∧ (∀ W, Calls Tryd.prog 18 #[.int .i64 n] W fun e' w' => e' = .returned (.tuple #[.int .i64 g, .int .i64 e]) ∧ w' = W) := by
    by_cases h : 0 ≤ n ∧ n ≤ 3652058
    · obtain ⟨y, m, k, hD⟩ := dt_any h.1 h.2
      exact ⟨_, _, _, _, _, _, _, fun W hW => parts_at hD W hW, fun W => rparts_at hD W, text_yes hD w hT hP, fun W => rtext_yes hD W, fun W => weekday_yes n W h.1 h.2, fun W => rweekday_yes n W h.1 h.2⟩
    · refine ⟨0, 0, 0, 100, 100, 0, [], fun W hW => parts_no n W h, fun W => rparts_no n W h, (text_no n w h).mono ?_, fun W => (rtext_no n W h).mono ?_, fun W => weekday_no n W h, fun W => rweekday_no n W h⟩
      · rintro e w' ⟨rfl, rfl⟩; exact ⟨rfl, Below.refl _ _⟩
      · rintro e w' ⟨rfl, rfl⟩; exact ⟨rfl, Below.refl _ _⟩
  obtain ⟨a, b, c, e, f, g, T, p1, p2, t1, t2, k1, k2⟩ := hab
  have aw := fun W h => awake_any W h
  have HT : Hid (Tl w) := hT
  clear hT hP
  go_enter Tryd.func5, Tryd.ntmps5
  go_wp2_with fail
  go_at_call 14
  refine (p1 _ HT.out).mono ?_
  rintro e' w2 ⟨rfl, rfl⟩
  go_wp2_with fail
  go_at_call 15
  refine (p2 _).mono ?_
  rintro e' w3 ⟨rfl, rfl⟩
  go_wp2_with fail
  go_at_call 10
  refine t1.mono ?_
  rintro e' w4 ⟨rfl, hb4⟩
  have HB4 : Hid (Below _ _ _) := hb4
  clear hb4
  go_wp2_with fail
  go_at_call 16
  refine (t2 _).mono ?_
  rintro e' w5 ⟨rfl, hb5⟩
  have HB5 : Hid (Below _ _ _) := step HB4.out hb5
  clear hb5 HB4 t1 t2 p1 p2
  go_wp2_with fail
  go_at_call 17
  refine (k1 _).mono ?_
  rintro e' w6 ⟨rfl, rfl⟩
  go_wp2_with fail
  go_at_call 18
  refine (k2 _).mono ?_
  rintro e' w7 ⟨rfl, rfl⟩
  go_wp2_with fail
  go_at_call 13
  refine (aw _ (HT.out.to HB5.out)).mono ?_
  rintro e' w8 ⟨rfl, rfl⟩
  go_wp2_with fail
  go_ret
  exact ⟨rfl, HB5.out⟩
end Go.Proofs.YtlebkdmkofgdpaaDoor
