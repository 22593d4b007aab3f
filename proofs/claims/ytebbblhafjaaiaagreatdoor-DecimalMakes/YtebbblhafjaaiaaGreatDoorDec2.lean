/-
  decimal.written.
-/
import Derived.Test.YtebbblhafjaaiaaGreatDoorDec1
import Derived.Test.YtebbblhafjaaiaaGreatDoorDecT
import Derived.Test.YtebbblhafjaaiaaGreatDoorStrP
import Derived.Test.YtebbblhafjaaiaaGreatDoorTextS
import Derived.Deep.QuietTactic
import Derived.BigQuiet
namespace Go.Proofs.YtebbblhafjaaiaaGreatDoor
open Go.RowKit Go.Shelf
set_option linter.unusedVariables false

theorem below_dN {B : Nat} {a w : World} (h : Below B a w) (n : Nat) : Below B a (w.drewN n) := below_drewN h n
set_option maxHeartbeats 4000000 in
theorem written_a (neg : Bool) (P : Nat) (hP : P ≤ 4096) (a : Option Addr) (l c : Nat) (w : World) (t : List UInt8) (hl : t.length ≤ 1000000) (hl1 : 0 < t.length)
    (hX : ∀ W, Below w.heap.size w W → Calls Tryz.prog 103 #[.agg #[.slice a l c], .int .i64 10] W fun e W' => e = .returned (.tuple #[.string ⟨List.toArray t⟩, .int .i64 0]) ∧ Below W.heap.size W W') :
    Calls Tryz.prog 50 #[.bool neg, .agg #[.slice a l c], .int .i64 P] w fun e W' => e = .returned (.string ⟨(textL neg P t).toArray⟩) ∧ Below w.heap.size w W' := by
  have HX : Hid _ := hX
  clear hX
  go_enter Tryz.func50, Tryz.ntmps50
  go_wp2_with fail
  refine ent1 w _ _ (Q := fun W => Calls Tryz.prog _ _ W _) ?_
  intro w0 B0 hs V0
  refine (HX.out w0 B0).mono ?_
  rintro e w1 ⟨rfl, hb1⟩
  replace B0 := step B0 hb1
  clear hb1 V0 hs HX
  have hct := cat
  by_cases hz : (0 : Int) < (P : Int) + 1 - t.length
  · obtain ⟨Z, hZ⟩ : ∃ Z : Nat, (P : Int) + 1 - t.length = Z := ⟨P + 1 - t.length, by omega⟩
    have HZ : Hid (Z = P + 1 - t.length) := by show Z = _; omega
    have hz6 : Z ≤ 5000 := by omega
    have hzp : (0 : Int) < Z := by omega
    have HPD : Hid (padL P t = List.replicate Z 48 ++ t) := by show padL P t = _; unfold padL; rw [HZ.out]
    have hL : Hid ((List.replicate Z (48 : UInt8) ++ t).length = P + 1) := by have := HZ.out; show _ = _; simp; omega
    have hL2 : (List.replicate Z (48 : UInt8) ++ t).length ≤ 1000000 := by rw [hL.out]; omega
    have c0 := cat (List.replicate Z 48) t
    clear hz
    go_wp2_with fail
    refine (zrep Z (by omega) _).mono ?_
    rintro e w2 ⟨rfl, hb2⟩
    replace B0 := step B0 hb2
    clear hb2 hZ hzp
    generalize hTT : List.replicate Z (48 : UInt8) ++ t = T at *
    by_cases hp : 0 < P
    · have hpi : (0 : Int) < P := by omega
      have hlT : P < (T).length := by have := hL.out; omega
      have s1 := slice_hi (T) (((T).length : Int) - P) ((T).length - P) (by omega) (by omega)
      have s2 := slice_lo (T) (((T).length : Int) - P) ((T).length - P) (by omega) (by omega)
      have c1 := cat ((T).take ((T).length - P)) [46]
      have c2 := cat ((T).take ((T).length - P) ++ [46]) ((T).drop ((T).length - P))
      have c3 := cat [45] ((T).take ((T).length - P) ++ [46] ++ (T).drop ((T).length - P))
      have HE : Hid (ptL P (T) = (T).take ((T).length - P) ++ 46 :: (T).drop ((T).length - P)) := by show ptL P _ = _; unfold ptL; rw [if_neg (by omega)]
      cases neg
      · go_wp2_with fail
        go_quiet (fail)
        go_wp2_with fail
        go_ret
        refine ⟨?_, below_dN B0 _⟩
        have e : textL false P t = ((T).take ((T).length - P) ++ 46 :: (T).drop ((T).length - P)) := by unfold textL sgL; rw [HPD.out, HE.out]; rfl
        rw [e]
        rfl
      · go_wp2_with fail
        go_quiet (fail)
        go_wp2_with fail
        go_ret
        refine ⟨?_, below_dN B0 _⟩
        have e : textL true P t = 45 :: ((T).take ((T).length - P) ++ 46 :: (T).drop ((T).length - P)) := by unfold textL sgL; rw [HPD.out, HE.out]; rfl
        rw [e]
        rfl
    · have hpi : ¬ (0 : Int) < P := by omega
      have HP0 : Hid (P = 0) := by show P = 0; omega
      have c3 := cat [45] (T)
      cases neg
      · go_wp2_with fail
        go_ret
        refine ⟨?_, B0⟩
        have e : textL false P t = (T) := by unfold textL sgL; rw [HPD.out]; unfold ptL; rw [if_pos HP0.out]; rfl
        rw [e]
        rfl
      · go_wp2_with fail
        go_ret
        refine ⟨?_, B0⟩
        have e : textL true P t = 45 :: (T) := by unfold textL sgL; rw [HPD.out]; unfold ptL; rw [if_pos HP0.out]; rfl
        rw [e]
        rfl
  · have HPD : Hid (padL P t = t) := by show padL P t = _; unfold padL; rw [show P + 1 - t.length = 0 by omega]; rfl
    have hL : Hid (P + 1 ≤ t.length) := by show P + 1 ≤ _; omega
    by_cases hp : 0 < P
    · have hpi : (0 : Int) < P := by omega
      have hlT : P < (t).length := by have := hL.out; omega
      have s1 := slice_hi (t) (((t).length : Int) - P) ((t).length - P) (by omega) (by omega)
      have s2 := slice_lo (t) (((t).length : Int) - P) ((t).length - P) (by omega) (by omega)
      have c1 := cat ((t).take ((t).length - P)) [46]
      have c2 := cat ((t).take ((t).length - P) ++ [46]) ((t).drop ((t).length - P))
      have c3 := cat [45] ((t).take ((t).length - P) ++ [46] ++ (t).drop ((t).length - P))
      have HE : Hid (ptL P (t) = (t).take ((t).length - P) ++ 46 :: (t).drop ((t).length - P)) := by show ptL P _ = _; unfold ptL; rw [if_neg (by omega)]
      cases neg
      · go_wp2_with fail
        go_quiet (fail)
        go_wp2_with fail
        go_ret
        refine ⟨?_, below_dN B0 _⟩
        have e : textL false P t = ((t).take ((t).length - P) ++ 46 :: (t).drop ((t).length - P)) := by unfold textL sgL; rw [HPD.out, HE.out]; rfl
        rw [e]
        rfl
      · go_wp2_with fail
        go_quiet (fail)
        go_wp2_with fail
        go_ret
        refine ⟨?_, below_dN B0 _⟩
        have e : textL true P t = 45 :: ((t).take ((t).length - P) ++ 46 :: (t).drop ((t).length - P)) := by unfold textL sgL; rw [HPD.out, HE.out]; rfl
        rw [e]
        rfl
    · have hpi : ¬ (0 : Int) < P := by omega
      have HP0 : Hid (P = 0) := by show P = 0; omega
      have c3 := cat [45] (t)
      cases neg
      · go_wp2_with fail
        go_ret
        refine ⟨?_, B0⟩
        have e : textL false P t = (t) := by unfold textL sgL; rw [HPD.out]; unfold ptL; rw [if_pos HP0.out]; rfl
        rw [e]
        rfl
      · go_wp2_with fail
        go_ret
        refine ⟨?_, B0⟩
        have e : textL true P t = 45 :: (t) := by unfold textL sgL; rw [HPD.out]; unfold ptL; rw [if_pos HP0.out]; rfl
        rw [e]
        rfl
end Go.Proofs.YtebbblhafjaaiaaGreatDoor
