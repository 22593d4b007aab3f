/-
  The walk of CalNext.
-/
import Derived.Test.YtlebkdmkofgdpabDoorBckWA
namespace Go.Proofs.YtlebkdmkofgdpabDoor
open Go.RowKit Go.Shelf
set_option linter.unusedVariables false

theorem string_geq (t : TypeId) (a b : ByteArray) : binOp .geq t (.string a) (.string b) = pure (.bool !(Op.bytesLess a.toList b.toList)) := by simp [binOp, Op.stringOp]
/-- What the statement asks of two days, one behind the other. -/
def NxOk (y m k y' m' k' : Int) : Prop := (y' = y ∧ m' = m ∧ k' = k + 1 ∧ k' ≤ 31) ∨ (y' = y ∧ m' = m + 1 ∧ k' = 1 ∧ 28 ≤ k) ∨ (y' = y + 1 ∧ m' = 1 ∧ m = 12 ∧ k' = 1 ∧ 28 ≤ k)
theorem nx_ok {d y m k y' m' k' : Int} (h : Dt d y m k) (h' : Dt (d + 1) y' m' k') : NxOk y m k y' m' k' := by
  have ht := h'.there
  have hk := dim_bd y m
  have hq := h.k2
  rcases h.next (by omega) with ⟨h1, h2⟩ | ⟨h1, h3, h2⟩ | ⟨h1, h3, h2⟩
  · obtain ⟨rfl, rfl, rfl⟩ := h2.unique h'
    exact Or.inl ⟨rfl, rfl, rfl, by omega⟩
  · obtain ⟨rfl, rfl, rfl⟩ := h2.unique h'
    exact Or.inr (Or.inl ⟨rfl, rfl, rfl, by omega⟩)
  · obtain ⟨rfl, rfl, rfl⟩ := h2.unique h'
    exact Or.inr (Or.inr ⟨rfl, rfl, h3, rfl, by omega⟩)
set_option maxHeartbeats 1000000 in
set_option maxRecDepth 20000 in
theorem next_walk (n : Int) (w : World) (h1 : -9223372036854775808 ≤ n) (h2 : n ≤ 9223372036854775807) (hT : Tl w) (hP : Pt w) :
    Calls Tryd.prog 4 #[.int .i64 n] w fun e w' => e = .returned (.bool true) ∧ Below w.heap.size w w' := by
  have dy := day_any n w h1 h2
  have d0 : 0 ≤ n % 3652059 := by omega
  have d1 : n % 3652059 ≤ 3652058 := by omega
  generalize n % 3652059 = d at *
  by_cases hd : d = 3652058
  · subst hd
    have pn := parts_no 3652059 w (by omega)
    have aw := awake_any w hT
    clear hT hP
    go_enter Tryd.func4, Tryd.ntmps4
    go_wp2_with (first
      | (go_at_call 7; refine dy.mono ?_; rintro e w2 ⟨rfl, rfl⟩)
      | (go_at_call 8; refine pn.mono ?_; rintro e w2 ⟨rfl, rfl⟩)
      | (go_at_call 12; refine aw.mono ?_; rintro e w2 ⟨rfl, rfl⟩))
    go_ret
    exact ⟨rfl, Below.refl _ _⟩
  · obtain ⟨y, m, k, hD⟩ := dt_any d0 d1
    obtain ⟨y', m', k', hE⟩ := dt_any (d := d + 1) (by omega) (by omega)
    have hdb : (d == 3652058) = false := by simpa using hd
    have w1 := weekday_yes d w (by omega) (by omega)
    have w2 := weekday_yes (d + 1) w (by omega) (by omega)
    obtain ⟨A, hA⟩ : ∃ A, d % 7 + 1 = A := ⟨_, rfl⟩
    obtain ⟨B, hB⟩ : ∃ B, (d + 1) % 7 + 1 = B := ⟨_, rfl⟩
    have hAB : A % 7 + 1 = B := by omega
    have hA1 : 1 ≤ A := by omega
    have hA7 : A ≤ 7 := by omega
    rw [hA] at w1; rw [hB] at w2
    clear hA hB
    have t1 := text_yes hD w hT hP
    have t2 := fun W a b => text_yes hE W a b
    have hl := less_txt hD hE
    have p1 := fun W a => parts_at hD W a
    have p2 := fun W a => parts_at hE W a
    have ho := nx_ok hD hE
    have hy := hD.y2; have hm := hD.m2; have hk := hD.k2; have hkb := dim_bd y m
    have hy1 := hD.y1; have hm1 := hD.m1; have hk1 := hD.k1
    generalize txt y m k = S at *
    generalize txt y' m' k' = T at *
    have HT : Hid (Tl w) := hT
    have HP : Hid (Pt w) := hP
    clear hT hP hd hk
    have sg := string_geq
    have HO : Hid (NxOk y m k y' m' k') := ho
    clear ho
    go_enter Tryd.func4, Tryd.ntmps4
    go_wp2_with (go_at_call 7; refine dy.mono ?_; rintro e w2 ⟨rfl, rfl⟩)
    go_at_call 13
    refine w1.mono ?_
    rintro e w3 ⟨rfl, rfl⟩
    go_wp2_with fail
    go_at_call 13
    refine w2.mono ?_
    rintro e w3 ⟨rfl, rfl⟩
    go_wp2_with fail
    go_at_call 10
    refine t1.mono ?_
    rintro e w4 ⟨rfl, hb4⟩
    go_wp2_with fail
    go_at_call 10
    refine (t2 _ (HT.out.to hb4) (HP.out.to hb4)).mono ?_
    rintro e w5 ⟨rfl, hb5⟩
    have HB : Hid (Below _ _ _) := step hb4 hb5
    clear hb4 hb5 t1 t2 w1 w2 dy
    go_wp2_with fail
    go_at_call 8
    refine (p1 _ (HT.out.to HB.out)).mono ?_
    rintro e w6 ⟨rfl, rfl⟩
    go_wp2_with fail
    go_at_call 8
    refine (p2 _ (HT.out.to HB.out)).mono ?_
    rintro e w7 ⟨rfl, rfl⟩
    clear p1 p2 hE hD
    have ho := HO.out
    unfold NxOk at ho
    clear HO
    rcases ho with ⟨rfl, rfl, rfl, h31⟩ | ⟨rfl, rfl, rfl, h28⟩ | ⟨rfl, rfl, rfl, rfl, h28⟩
    · go_wp2_with fail
      go_ret
      exact ⟨rfl, HB.out⟩
    · go_wp2_with fail
      go_ret
      exact ⟨rfl, HB.out⟩
    · go_wp2_with fail
      go_ret
      exact ⟨rfl, HB.out⟩
end Go.Proofs.YtlebkdmkofgdpabDoor
