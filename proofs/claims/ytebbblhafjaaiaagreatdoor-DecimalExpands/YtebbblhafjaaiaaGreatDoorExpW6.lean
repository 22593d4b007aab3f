/-
  The walk of DecimalExpands.
-/
import Derived.Test.YtebbblhafjaaiaaGreatDoorRa6
import Derived.Test.YtebbblhafjaaiaaGreatDoorMgAq
import Derived.Test.YtebbblhafjaaiaaGreatDoorExq6
import Derived.Test.YtebbblhafjaaiaaGreatDoorDecA
namespace Go.Proofs.YtebbblhafjaaiaaGreatDoor
open Go.RowKit Go.Shelf
set_option linter.unusedVariables false
/-- What both Expands answer. -/
theorem expands_both (Q : Int) (v : Rat) (neg s : Bool) (a b an ad : Option Addr) (l c m d ln cn ld cd : Nat) (zs ds xs ys : List Int) (hxc : ln ≤ cn) (hyc : ld ≤ cd) (hl : ln ≤ 1024) (hm : ld ≤ 1024) (h0 : num ys ≠ 0) (hv : v = Rat.divInt (iv neg xs) (num ys)) : ∃ (T : List UInt8) (X : Bool) (E : Int),
    (∀ w, Sl w an ln xs → Sl w ad ld ys → Calls Tryz.prog 27 #[.agg #[.bool neg, .slice an ln cn, .slice ad ld cd], .int .i64 Q] w fun e w' => e = .returned (.tuple #[.string ⟨T.toArray⟩, .bool X, .int .i64 E]) ∧ Below w.heap.size w w') ∧
    (∀ w, Rt w s a l c zs b m d ds v → Pt w → Calls Tryz.prog 28 #[.agg #[.bool s, .slice a l c, .slice b m d], .int .i64 Q] w fun e w' => e = .returned (.tuple #[.string ⟨T.toArray⟩, .bool X, .int .i64 E]) ∧ Below w.heap.size w w') := by
  by_cases hQ : 0 ≤ Q ∧ Q ≤ 4096
  · obtain ⟨q, rfl⟩ := Int.eq_ofNat_of_zero_le hQ.1
    exact ⟨exT v q, exB v q, 0, fun w h1 h2 => rexpand6 neg an ad ln cn ld cd xs ys v q (by omega) w h1 h2 hxc hyc hl hm h0 hv, fun w h1 h2 => expand_ok s a l c zs b m d ds v q (by omega) w h1 h2⟩
  · exact ⟨[], false, 2, fun w _ _ => rexpand6_no neg an ad ln cn ld cd Q hQ w, fun w _ _ => expand_no s a b l c m d Q hQ w⟩
set_option maxHeartbeats 4000000 in
set_option maxRecDepth 8000 in
theorem dexpands_walk (neg : Bool) (a0 a1 : Option Addr) (l0 k0 l1 k1 : Nat) (z0 z1 : List Int) (Q : Int) (w : World) (h0 : Sl w a0 l0 z0) (h1 : Sl w a1 l1 z1) (c0 : l0 ≤ k0) (c1 : l1 ≤ k1) (t0 : l0 ≤ 17592186044416) (t1 : l1 ≤ 17592186044416) (hP : Pt w) :
    Calls Tryz.prog 6 #[.agg #[.bool neg, .slice a0 l0 k0, .slice a1 l1 k1], .int .i64 Q] w fun e w' => e = .returned (.bool true) ∧ Below w.heap.size w w' := by
  have HP : Hid (Pt w) := hP
  clear hP
  have B0 : Below w.heap.size w w := Below.refl _ _
  go_enter Tryz.func6, Tryz.ntmps6
  go_wp2_with fail
  refine ent1 w _ _ (Q := fun W => Calls Tryz.prog _ _ W _) ?_
  intro x1 hb hs_x1 V1
  replace h0 := Sl.after hb h0
  replace h1 := Sl.after hb h1
  replace B0 := step B0 hb
  clear hb hs_x1 V1
  refine (ratio6 neg a0 a1 l0 k0 l1 k1 z0 z1 _ h0 h1 c0 c1 t0 t1).mono ?_
  rintro e x2 ⟨hR, hb⟩
  replace B0 := step B0 hb
  clear hb h0 h1
  rcases hR with ⟨hno, rfl⟩ | ⟨hok, s, a, l, c, zs, b, m, d, ds, v, an, ln, cn, xs, ad, ld, cd, ys, rfl, hr, hx, hy, hxc, hyc, hx1, hy1, hy0, hv⟩
  · clear hno
    go_wp2_with fail
    go_ret
    exact ⟨rfl, (B0.alloc B0.size _).alloc (B0.alloc B0.size _).size _⟩
  · obtain ⟨T, X, E, ex1, ex2⟩ := expands_both Q v neg s a b an ad l c m d ln cn ld cd zs ds xs ys hxc hyc (by omega) (by omega) hy0 hv
    clear hv hy0 hok hx1 hy1 hxc hyc
    have b1 : (T == T) = true := beq_self_eq_true _
    have b2 : (X == X) = true := beq_self_eq_true _
    have b3 : (E == E) = true := beq_self_eq_true _
    go_wp2_with fail
    refine ent2 x2 _ _ _ _ (Q := fun W => Calls Tryz.prog _ _ W _) ?_
    intro x3 hb hs3 VR VP
    replace hr := Rt.after hb hr
    replace hx := Sl.after hb hx
    replace hy := Sl.after hb hy
    replace B0 := step B0 hb
    clear hb hs3
    refine (ex1 _ hx hy).mono ?_
    rintro e x4 ⟨rfl, hb⟩
    replace VR := Va.after hb VR
    replace hr := Rt.after hb hr
    replace B0 := step B0 hb
    clear hb hx hy VP ex1
    have c_VR := VR.d0
    have f0_VR := VR.frozen 0
    have d_VR := VR.d1
    have f1_VR := VR.frozen 1
    have e_VR := VR.d2
    have f2_VR := VR.frozen 2
    have l_VR := VR.lt
    have m_VR := Nat.le_of_lt l_VR
    go_wp2_with fail
    clear c_VR f0_VR d_VR f1_VR e_VR f2_VR l_VR m_VR
    refine (ex2 _ hr (HP.out.to B0)).mono ?_
    rintro e x5 ⟨rfl, hb⟩
    replace VR := Va.after hb VR
    replace B0 := step B0 hb
    clear hb ex2 hr
    go_wp2_with fail
    refine (awake6 _ (HP.out.to B0)).mono ?_
    rintro e x6 ⟨rfl, hb⟩
    replace B0 := step B0 hb
    clear hb
    go_wp2_with fail
    go_ret
    exact ⟨rfl, B0⟩
end Go.Proofs.YtebbblhafjaaiaaGreatDoor
