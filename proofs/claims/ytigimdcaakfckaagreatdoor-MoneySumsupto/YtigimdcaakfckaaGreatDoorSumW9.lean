/-
  MoneySums: the walk, for lists of at most 2 ^ 30 numbers.
-/
import Derived.Test.YtigimdcaakfckaaGreatDoorSm9
namespace Go.Proofs.YtigimdcaakfckaaGreatDoor
open Go.RowKit Go.Shelf
set_option linter.unusedVariables false

set_option maxHeartbeats 2000000 in
theorem sums_walk (x y : Int) (hx : b64 x) (hy : b64 y) (a : Option Addr) (len cap : Nat) (zs : List Int) (w : World) (h : Li w a len zs) (hl : len ≤ 1073741824) (hn : a = none → len = 0 ∧ cap = 0) (hP : Pt w) (hT : Tm w) :
    Calls Tryz.prog 3 #[.int .i64 x, .int .i64 y, .slice a len cap] w fun e w' => e = .returned (.bool true) ∧ Below w.heap.size w w' := by
  have HP : Hid (Pt w) := hP
  have HT : Hid (Tm w) := hT
  have hl20 : len ≤ 20000000000000 := by omega
  have HZ : Hid (∀ z ∈ zs, b64 z) := h.2.1
  have hlz : zs.length = len := h.1
  obtain ⟨⟨X1, E1⟩, f1⟩ : ∃ r, fit9 (x + y) = r := ⟨_, rfl⟩
  obtain ⟨⟨X2, E2⟩, f2⟩ : ∃ r, fit9 (x - y) = r := ⟨_, rfl⟩
  obtain ⟨⟨X3, E3⟩, f3⟩ : ∃ r, fit9 (lsum zs) = r := ⟨_, rfl⟩
  have p1 := fun W => below_of (add9 x y hx hy W)
  have p2 := fun W => below_of (sub9 x y hx hy W)
  have p3 := fun W hL => below_of (rsum9 a len cap zs W hL hl)
  have p4 := fun g c W hL => below_of (sum9 (some ⟨g, 0, none⟩) len c zs W hL hl20)
  have q1 := fun W => radd9 x y hx hy W f1
  have q2 := fun W => rsub9 x y hx hy W f2
  rw [f1] at p1
  rw [f2] at p2
  rw [f3] at p3 p4
  simp only at p1 p2 p3 p4
  clear hP hT hl f1 f2 f3 hx hy
  have B0 : Below w.heap.size w w := Below.refl _ _
  go_enter Tryz.func3, Tryz.ntmps3
  go_wp2_with fail
  refine (q1 _).mono ?_
  rintro e x1 ⟨rfl, hb⟩
  replace h := Li.after hb h
  replace B0 := step B0 hb
  clear hb
  go_wp2_with fail
  refine (q2 _).mono ?_
  rintro e x2 ⟨rfl, hb⟩
  replace h := Li.after hb h
  replace B0 := step B0 hb
  clear hb
  go_wp2_with fail
  refine (p3 _ h).mono ?_
  rintro e x3 ⟨rfl, hb⟩
  replace h := Li.after hb h
  replace B0 := step B0 hb
  clear hb
  go_wp2_with fail
  refine (lentI a len cap zs _ h hn hl20).mono ?_
  rintro e x4 ⟨g, rfl, hg, ho, hb⟩
  replace h := Li.after hb h
  replace B0 := step B0 hb
  clear hb
  clear hg
  go_wp2_with fail
  refine (p1 _).mono ?_
  rintro e x5 ⟨rfl, hb⟩
  replace h := Li.after hb h
  replace ho := OwI.after hb ho
  replace B0 := step B0 hb
  clear hb
  go_wp2_with fail
  refine (p2 _).mono ?_
  rintro e x6 ⟨rfl, hb⟩
  replace h := Li.after hb h
  replace ho := OwI.after hb ho
  replace B0 := step B0 hb
  clear hb
  go_wp2_with fail
  have hL4 : Li x6 (some ⟨g, 0, none⟩) len zs := by have := ho.li HZ.out; rwa [hlz] at this
  refine (p4 g _ _ hL4).mono ?_
  rintro e x7 ⟨rfl, hb⟩
  replace h := Li.after hb h
  replace ho := OwI.after hb ho
  replace B0 := step B0 hb
  clear hb
  clear hL4
  go_wp2_with fail
  refine (keptI a len cap g zs _ h ho hl20).mono ?_
  rintro e x8 ⟨rfl, hb⟩
  replace h := Li.after hb h
  replace ho := OwI.after hb ho
  replace B0 := step B0 hb
  clear hb
  go_wp2_with fail
  refine (awake9 _ (HP.out.to B0) (HT.out.to B0)).mono ?_
  rintro e x9 ⟨rfl, hb⟩
  replace h := Li.after hb h
  replace ho := OwI.after hb ho
  replace B0 := step B0 hb
  clear hb
  go_wp2_with fail
  go_ret
  exact ⟨by simp, B0⟩
end Go.Proofs.YtigimdcaakfckaaGreatDoor
