/-
  money's reader: fixed.
-/
import Derived.Test.YtigimdcaakfckaaGreatDoorMy2
import Derived.Test.YtigimdcaakfckaaGreatDoorBsH
namespace Go.Proofs.YtigimdcaakfckaaGreatDoor
open Go.RowKit Go.Shelf
set_option linter.unusedVariables false

theorem byte_at (s : List UInt8) (p : Nat) (h : p < s.length) : ∃ c, (ByteArray.mk s.toArray)[p]'(by rw [bsize]; exact h) = c ∧ s.drop p = c :: s.drop (p + 1) := by
  refine ⟨s[p], rfl, ?_⟩
  rw [List.drop_eq_getElem_cons h]
theorem Va.drN {w : World} {b : Nat} {t : TypeId} {cs : Array Value} (h : Va w b t cs) (n : Nat) : Va (w.drewN n) b t cs := h
/-- What a piece leaves: it is read, and what follows is what is left; or it is not, and the place is told. -/
def PcP (b : Nat) (s : List UInt8) (d : Value) (R : Nat → Bool → Nat → Prop) (T : R9) (w : World) (e : Ending) (w' : World) : Prop :=
  ∃ (ok neg : Bool) (p far : Nat), e = .returned (.bool ok) ∧ p ≤ s.length ∧ Va w' b 126 #[.string ⟨s.toArray⟩, .int .i64 p, d, .bool neg, .int .u64 far] ∧ (ok = true → R p neg far) ∧ (ok = false → T = (p, none)) ∧ Only b w w'
def FxP (b : Nat) (s : List UInt8) (d n f : Value) (K : List UInt8 → R9) (T : R9) (w : World) (e : Ending) (w' : World) : Prop :=
  ∃ (ok : Bool) (p : Nat), e = .returned (.bool ok) ∧ p ≤ s.length ∧ Va w' b 126 #[.string ⟨s.toArray⟩, .int .i64 p, d, n, f] ∧ (ok = true → plus p (K (s.drop p)) = T) ∧ (ok = false → T = (p, none)) ∧ Only b w w'
set_option maxHeartbeats 2000000 in
theorem fixed9 (b : Nat) (t s : List UInt8) (at0 : Nat) (d n f : Value) (w : World) (h : Va w b 126 #[.string ⟨s.toArray⟩, .int .i64 at0, d, n, f]) (hat : at0 ≤ s.length) (hs : s.length ≤ 140737488355328) (ht : t.length ≤ 140737488355328) (K : List UInt8 → R9) (T : R9) (hT : plus at0 (fixC t K (s.drop at0)) = T) :
    Calls Tryz.prog 105 #[.pointer (some ⟨b, 0, none⟩), .string ⟨t.toArray⟩] w fun e w' => FxP b s d n f K T w e w' := by
  have HV0 : Hid (Va w b 126 #[.string ⟨s.toArray⟩, .int .i64 at0, d, n, f]) := h
  have HT0 : Hid (plus at0 (fixC t K (s.drop at0)) = T) := hT
  clear h hT
  go_enter Tryz.func105, Tryz.ntmps105
  go_wp2_with fail
  go_loopw [8] (fun i wr => ∃ (j p : Nat), i = .int .i64 j ∧ j ≤ t.length ∧ p ≤ s.length ∧ Hid (Va wr b 126 #[.string ⟨s.toArray⟩, .int .i64 p, d, n, f]) ∧ Hid (plus p (fixC (t.drop j) K (s.drop p)) = T) ∧ Hid (Only b w wr)) (fun i _ => ((t.length : Int) - intOf i).toNat)
  case atStart => exact ⟨0, at0, rfl, by omega, hat, HV0.out, HT0.out, Only.refl _ _⟩
  case round =>
    obtain ⟨j, p, rfl, hj, hp, HV, HT, HO⟩ := hrel
    clear HV0 HT0
    have V := HV.out
    have c0 : wr.cell? ⟨b, 0, none⟩ = some (.string ⟨s.toArray⟩) := V.cellAt 0
    have c1 : wr.cell? ⟨b, 1, none⟩ = some (.int .i64 p) := V.cellAt 1
    have fz : wr.frozen? ⟨b, 1, none⟩ = false := V.frozen 1
    by_cases hjl : j < t.length
    · have hji : (j : Int) < t.length := by omega
      obtain ⟨x, hx, hxd⟩ := byte_at t j hjl
      have HX : Hid (t.drop j = x :: t.drop (j + 1)) := hxd
      clear hxd
      by_cases hpl : p = s.length
      · have hpe : ((p : Int) == s.length) = true := by simp [hpl]
        have HP : Hid (s.drop p = []) := by show s.drop p = []; rw [hpl]; simp
        clear hpl
        go_wp2_with fail
        go_quiet (fail)
        go_wp2_with fail
        go_ret
        refine ⟨false, p, rfl, hp, HV.out.drN _, (fun h => by cases h), fun _ => ?_, HO.out.drewN _⟩
        have e := HT.out
        rw [HX.out, HP.out] at e
        exact e.symm
      · have hpe : ((p : Int) == s.length) = false := by simp; omega
        have hp2 : p < s.length := by omega
        obtain ⟨c, hc, hcd⟩ := byte_at s p hp2
        have HC : Hid (s.drop p = c :: s.drop (p + 1)) := hcd
        have hp1 : p + 1 ≤ s.length := by omega
        clear hcd hpl
        by_cases hcx : c = x
        · have hcx2 : ((c.toNat : Int) == (x.toNat : Int)) = true := by rw [hcx]; simp
          have hcx3 : (c.toNat : Int) = (x.toNat : Int) := by rw [hcx]
          have HCX : Hid (c = x) := hcx
          clear hcx
          go_wp2_with fail
          go_quiet (fail)
          go_wp2_with fail
          go_roundw
          case rel =>
            have e := HT.out
            rw [HX.out, HC.out, HCX.out] at e
            refine ⟨j + 1, p + 1, by simp, by omega, hp1, ?_, ?_, (HO.out.drewN _).set _ _⟩
            · exact (HV.out.drN _).seti 1 _
            · show plus (p + 1) _ = T
              rw [← e]
              show _ = plus p (if x = x then one (fixC (t.drop (j + 1)) K (s.drop (p + 1))) else (0, none))
              rw [if_pos rfl, plus_one]
          case measure => simp [intOf]; omega
        · have hcx2 : ((c.toNat : Int) == (x.toNat : Int)) = false := by
            have : ¬ (c.toNat : Int) = x.toNat := fun h => hcx (UInt8.toNat_inj.1 (by omega))
            simpa using this
          have hcx3 : ¬ (c.toNat : Int) = (x.toNat : Int) := by simpa using hcx2
          have HCX : Hid (¬ c = x) := hcx
          clear hcx
          go_wp2_with fail
          go_quiet (fail)
          go_wp2_with fail
          go_ret
          refine ⟨false, p, rfl, hp, HV.out.drN _, (fun h => by cases h), fun _ => ?_, HO.out.drewN _⟩
          have e := HT.out
          rw [HX.out, HC.out] at e
          rw [← e]
          show plus p (if c = x then _ else _) = _
          rw [if_neg HCX.out]; rfl
    · have hji : ¬ (j : Int) < t.length := by omega
      have HJ : Hid (t.drop j = []) := by show t.drop j = []; rw [show j = t.length by omega]; simp
      go_wp2_with fail
      go_ret
      refine ⟨true, p, rfl, hp, HV.out, fun _ => ?_, (fun h => by cases h), HO.out⟩
      have e := HT.out
      rw [HJ.out] at e
      exact e
end Go.Proofs.YtigimdcaakfckaaGreatDoor
