/-
  Whether what was lent is still as it was.
-/
import Derived.Test.YtigimdcaakfckaaGreatDoorLentI
namespace Go.Proofs.YtigimdcaakfckaaGreatDoor
open Go.RowKit Go.Shelf

set_option maxHeartbeats 400000 in
theorem keptI (a : Option Addr) (la ca g : Nat) (zs : List Int) (w : World) (h : Li w a la zs) (ho : OwI w g (zs ++ marks 12)) (hl : la ≤ 20000000000000) :
    Calls Tryz.prog 16 #[.slice (some ⟨g, 0, none⟩) la (la + 12), .slice a la ca] w fun e w' => e = .returned (.bool true) ∧ Below w.heap.size w w' := by
  have hz := h.1
  have g1 : ((la : Int) != la) = false := by simp
  have HO : Hid (OwI w g (zs ++ marks 12)) := ho
  have HSL : Hid (Li w a la zs) := h
  have hlen : (zs ++ marks 12).length = la + 12 := by rw [List.length_append, marks_length]; omega
  have HLEN : Hid ((zs ++ marks 12).length = la + 12) := hlen
  clear ho h hlen
  go_enter Tryz.func16, Tryz.ntmps16
  go_wp2_with fail
  go_loopw [6] (fun ii wr => ∃ k : Nat, k ≤ la + 12 ∧ ii = .int .i64 k ∧ ∃ q, wr = w.drewN q) (fun ii _ => la + 12 - (intOf ii).toNat)
  case atStart => exact ⟨0, by omega, rfl, 0, rfl⟩
  case round =>
    obtain ⟨k, hk, rfl, q, rfl⟩ := hrel
    by_cases hlt : k < la + 12
    · have hcx := HO.out.cell k (by rw [HLEN.out]; exact hlt)
      by_cases hkl : k < la
      · obtain ⟨b, o, rfl, hc⟩ := HSL.out.2.2 (by omega)
        have hcy := hc k hkl
        have ez : (zs ++ marks 12).getD k 0 = zs.getD k 0 := by rw [List.getD_eq_getElem?_getD, List.getElem?_append_left (by omega), ← List.getD_eq_getElem?_getD]
        rw [ez] at hcx
        obtain ⟨x, hx⟩ : ∃ x, zs.getD k 0 = x := ⟨_, rfl⟩
        rw [hx] at hcx hcy
        clear hx hc ez
        have g2 : (x == x) = true := by simp
        have q1 : decide (k < la) = true := by simp; omega
        have q2 : decide (la ≤ k) = false := by simp; omega
        go_wp2_with fail
        go_quiet (fail)
        go_wp2_with fail
        go_roundw
        case rel => exact ⟨k + 1, by omega, by go_num, q + nq, rfl⟩
        case measure => simp [intOf]; omega
      · have ez : (zs ++ marks 12).getD k 0 = 8000024 + ((k : Int) - la) := by
          rw [List.getD_eq_getElem?_getD, List.getElem?_append_right (by omega), ← List.getD_eq_getElem?_getD, hz, marks_getD 12 (k - la) (by omega)]
          omega
        rw [ez] at hcx
        obtain ⟨x, hx⟩ : ∃ x, 8000024 + ((k : Int) - la) = x := ⟨_, rfl⟩
        rw [hx] at hcx
        have M := fun W => mark_any ((k : Int) - la) (by omega) (by omega) W
        simp only [hx] at M
        have x1 : 0 ≤ x := by omega
        have x2 : x ≤ 8000100 := by omega
        have g2 : (x == x) = true := by simp
        have ew : IntKind.i64.wrap ((k : Int) - la) = k - la := by rw [IntKind.wrap_i64]; omega
        have ew2 : IntKind.i64.wrap x = x := by rw [IntKind.wrap_i64]; omega
        have HM : Hid (∀ W, Calls Tryz.prog 41 #[.int .i64 1, .int .i64 ((k : Int) - la)] W fun e w' => e = .returned (.int .i64 x) ∧ w' = W) := M
        have q1 : decide (k < la) = false := by simp; omega
        have q2 : decide (la ≤ k) = true := by simp; omega
        clear M hx ez
        go_wp2_with fail
        go_quiet ((go_at_call 41; refine (HM.out _).mono ?_; rintro e w2 ⟨rfl, rfl⟩; exact ⟨rfl, _, rfl⟩))
        go_wp2_with fail
        go_roundw
        case rel => exact ⟨k + 1, by omega, by go_num, q + nq, rfl⟩
        case measure => simp [intOf]; omega
    · go_wp2_with fail
      go_ret
      exact ⟨rfl, below_drewN (Below.refl _ _) q⟩
end Go.Proofs.YtigimdcaakfckaaGreatDoor
