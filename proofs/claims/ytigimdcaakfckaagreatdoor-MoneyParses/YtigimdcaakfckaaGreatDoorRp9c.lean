/-
  The document's reader of amounts: sign, text, ahead, Parse.
-/
import Derived.Test.YtigimdcaakfckaaGreatDoorRp9b
import Derived.Test.YtigimdcaakfckaaGreatDoorMy5
namespace Go.Proofs.YtigimdcaakfckaaGreatDoor
open Go.RowKit Go.Shelf
set_option linter.unusedVariables false

abbrev rdv (p : Nat) (far : Nat) (neg wr : Bool) : Value := .agg #[.int .i64 p, .int .u64 far, .bool neg, .bool wr]
/-- What a piece of the document's reader answers. -/
def RpP (s : List UInt8) (R : Nat → Bool → Nat → Prop) (T : R9) (w : World) (e : Ending) (w' : World) : Prop :=
  ∃ (wr neg : Bool) (p far : Nat), e = .returned (rdv p far neg wr) ∧ p ≤ s.length ∧ far ≤ mostU neg ∧ (wr = false → R p neg far) ∧ (wr = true → T = (p, none)) ∧ Below w.heap.size w w'
theorem rdigit_any (s : List UInt8) (p far left : Nat) (neg : Bool) (w : World) (hp : p ≤ s.length) (hs : s.length ≤ 140737488355328) (hf : far ≤ mostU neg) (hl : left ≤ 4) :
    (∃ c, s.drop p = c :: s.drop (p + 1) ∧ p + 1 ≤ s.length ∧ okD neg far left c = true ∧ Calls Tryz.prog 72 #[rdv p far neg false, .string ⟨s.toArray⟩, .int .i64 left] w fun e w' => e = .returned (rdv (p + 1) (far * 10 + wv c) neg false) ∧ Below w.heap.size w w') ∨
    ((s.drop p = [] ∨ ∃ c l, s.drop p = c :: l ∧ okD neg far left c = false) ∧ Calls Tryz.prog 72 #[rdv p far neg false, .string ⟨s.toArray⟩, .int .i64 left] w fun e w' => e = .returned (rdv p far neg true) ∧ Below w.heap.size w w') := by
  rcases Nat.lt_or_ge p s.length with h | h
  · obtain ⟨c, hc, hcd⟩ := byte_at s p h
    cases hok : okD neg far left c
    · exact .inr ⟨.inr ⟨c, _, hcd, hok⟩, rdigit_no s p far left neg w h hs hf hl c hc hok⟩
    · exact .inl ⟨c, hcd, by omega, hok, rdigit_ok s p far left neg w h hs hf hl c hc hok⟩
  · obtain rfl : p = s.length := by omega
    refine .inr ⟨.inl (by simp), ?_⟩
    have hpi : (s.length : Int) ≤ s.length := Int.le_refl _
    go_enter Tryz.func72, Tryz.ntmps72
    go_wp2_with fail
    refine ent2 w _ _ _ _ (Q := fun W => bodyPost Tryz.prog _ _ _ _ W) ?_
    intro x1 B0 hs1 V0 V1
    refine bodyPost_ret (results_rd rfl rfl V1) rfl ?_
    exact ⟨rfl, B0⟩
theorem rdigit_wr (s : ByteArray) (p far left : Int) (neg : Bool) (w : World) : Calls Tryz.prog 72 #[.agg #[.int .i64 p, .int .u64 far, .bool neg, .bool true], .string s, .int .i64 left] w fun e w' => e = .returned (.agg #[.int .i64 p, .int .u64 far, .bool neg, .bool true]) ∧ Below w.heap.size w w' := by
  go_enter Tryz.func72, Tryz.ntmps72
  go_wp2_with fail
  refine ent2 w _ _ _ _ (Q := fun W => bodyPost Tryz.prog _ _ _ _ W) ?_
  intro x1 B0 hs1 V0 V1
  refine bodyPost_ret (results_rd rfl rfl V1) rfl ?_
  exact ⟨rfl, B0⟩
def SgP (s nm : List UInt8) (D : Nat) (T : R9) (w : World) (e : Ending) (w' : World) : Prop := ∃ (neg : Bool) (p : Nat), e = .returned (rdv p 0 neg false) ∧ p ≤ s.length ∧ plus p (firR neg nm D (s.drop p)) = T ∧ Below w.heap.size w w'
theorem rsign9 (s : List UInt8) (w : World) (nm : List UInt8) (D : Nat) (T : R9) (hT : parR nm D s = T) : Calls Tryz.prog 69 #[rdv 0 0 false false, .string ⟨s.toArray⟩] w fun e w' => SgP s nm D T w e w' := by
  have HT : Hid (parR nm D s = T) := hT
  clear hT
  have fin : ∀ (neg : Bool) (p : Nat), p ≤ s.length → plus p (firR neg nm D (s.drop p)) = T → ∀ w', Below w.heap.size w w' → SgP s nm D T w (.returned (rdv p 0 neg false)) w' := fun neg p h1 h2 w' hb => ⟨neg, p, rfl, h1, h2, hb⟩
  have FIN : Hid _ := fin
  clear fin
  cases s with
  | nil =>
    go_enter Tryz.func69, Tryz.ntmps69
    go_wp2_with fail
    refine ent2 w _ _ _ _ (Q := fun W => bodyPost Tryz.prog _ _ _ _ W) ?_
    intro x1 B0 hs1 V0 V1
    refine bodyPost_ret (results_rd rfl rfl V1) rfl ?_
    exact FIN.out false 0 (Nat.zero_le _) (by rw [← HT.out]; rfl) _ B0
  | cons c l =>
    obtain ⟨x, hx, hxd⟩ := byte_at (c :: l) 0 (by simp)
    have hxc : c = x := by simpa using hxd
    subst hxc
    clear hxd
    have hl0 : (0 : Int) < ((c :: l).length : Int) := by rw [List.length_cons]; omega
    by_cases hc : c = 45
    · have hc1 : ((c.toNat : Int) == 45) = true := by rw [hc]; rfl
      have HC : Hid (c = 45) := hc
      clear hc
      go_enter Tryz.func69, Tryz.ntmps69
      go_wp2_with fail
      refine ent2 w _ _ _ _ (Q := fun W => bodyPost Tryz.prog _ _ _ _ W) ?_
      intro x1 B0 hs1 V0 V1
      refine bodyPost_ret (results_rd rfl rfl V1) rfl ?_
      refine FIN.out true 1 (by simp) ?_ _ B0
      rw [← HT.out]
      show plus 1 (firR true nm D l) = if c = 45 then one (firR true nm D l) else firR false nm D (c :: l)
      rw [if_pos HC.out]
      simp [plus, one]; omega
    · have hc1 : ((c.toNat : Int) == 45) = false := by
        have : ¬ (c.toNat : Int) = 45 := fun h => hc (UInt8.toNat_inj.1 (by show c.toNat = 45; omega))
        simpa using this
      have hc2 : ¬ (c.toNat : Int) = 45 := by simpa using hc1
      have HC : Hid (¬ c = 45) := hc
      clear hc
      go_enter Tryz.func69, Tryz.ntmps69
      go_wp2_with fail
      refine ent2 w _ _ _ _ (Q := fun W => bodyPost Tryz.prog _ _ _ _ W) ?_
      intro x1 B0 hs1 V0 V1
      refine bodyPost_ret (results_rd rfl rfl V1) rfl ?_
      refine FIN.out false 0 (Nat.zero_le _) ?_ _ B0
      rw [← HT.out, List.drop_zero, plus_zero]
      show _ = if c = 45 then one (firR true nm D l) else firR false nm D (c :: l)
      rw [if_neg HC.out]
set_option maxHeartbeats 4000000 in
theorem rtext9 (s t : List UInt8) (p far : Nat) (neg : Bool) (w : World) (hp : p ≤ s.length) (hs : s.length ≤ 140737488355328) (ht : t.length ≤ 1000) (hf : far ≤ mostU neg) (K : List UInt8 → R9) (T : R9) (hT : plus p (fixC t K (s.drop p)) = T) : Calls Tryz.prog 71 #[rdv p far neg false, .string ⟨s.toArray⟩, .string ⟨t.toArray⟩] w fun e w' => RpP s (fun p n f => n = neg ∧ f = far ∧ plus p (K (s.drop p)) = T) T w e w' := by
  have HT0 : Hid (plus p (fixC t K (s.drop p)) = T) := hT
  have HF : Hid (far ≤ mostU neg) := hf
  clear hT hf
  go_enter Tryz.func71, Tryz.ntmps71
  go_wp2_with fail
  refine ent2 w _ _ _ _ (Q := fun W => Code.wp Tryz.prog _ _ _ W) ?_
  intro x1 B0 hs1 V0 V1
  have HV0 : Hid (Va x1 w.heap.size 121 #[.int .i64 p, .int .u64 far, .bool neg, .bool false]) := V0
  have HV1 : Hid (Va x1 (w.heap.size + 1) 121 #[.int .i64 0, .int .u64 0, .bool false, .bool false]) := V1
  have HB0 : Hid (Below w.heap.size w x1) := B0
  clear V0 V1 B0 hs1
  go_loopw [7] (fun i wr => ∃ (j q : Nat), i = .int .i64 j ∧ j ≤ t.length ∧ q ≤ s.length ∧ Hid (Va wr w.heap.size 121 #[.int .i64 q, .int .u64 far, .bool neg, .bool false]) ∧ Hid (Va wr (w.heap.size + 1) 121 #[.int .i64 0, .int .u64 0, .bool false, .bool false]) ∧ Hid (plus q (fixC (t.drop j) K (s.drop q)) = T) ∧ Hid (Below w.heap.size w wr)) (fun i _ => ((t.length : Int) - intOf i).toNat)
  case atStart => exact ⟨0, p, rfl, by omega, hp, HV0.out, HV1.out, HT0.out, HB0.out⟩
  case round =>
    clear HV0 HV1 HB0 HT0 hp
    obtain ⟨j, q, rfl, hj, hq, HV0, HV1, HT, HB⟩ := hrel
    have V0 := HV0.out
    have V1 := HV1.out
    have B0 := HB.out
    have hlt := V1.lt
    have c0 : wr.cell? ⟨w.heap.size, 0, none⟩ = some (.int .i64 q) := V0.cellAt 0
    have c1 : wr.cell? ⟨w.heap.size, 1, none⟩ = some (.int .u64 far) := V0.cellAt 1
    have c2 : wr.cell? ⟨w.heap.size, 2, none⟩ = some (.bool neg) := V0.cellAt 2
    have c3 : wr.cell? ⟨w.heap.size, 3, none⟩ = some (.bool false) := V0.cellAt 3
    have f0 := V0.frozen 0
    have f3 := V0.frozen 3
    have d0 := V1.frozen 0
    have d1 := V1.frozen 1
    have d2 := V1.frozen 2
    have d3 := V1.frozen 3
    have e0 : wr.cell? ⟨w.heap.size + 1, 0, none⟩ = some (.int .i64 0) := V1.cellAt 0
    have e1 : wr.cell? ⟨w.heap.size + 1, 1, none⟩ = some (.int .u64 0) := V1.cellAt 1
    have e2 : wr.cell? ⟨w.heap.size + 1, 2, none⟩ = some (.bool false) := V1.cellAt 2
    have e3 : wr.cell? ⟨w.heap.size + 1, 3, none⟩ = some (.bool false) := V1.cellAt 3
    by_cases hjl : j < t.length
    · have hji : (j : Int) < t.length := by omega
      obtain ⟨x, hx, hxd⟩ := byte_at t j hjl
      have HX : Hid (t.drop j = x :: t.drop (j + 1)) := hxd
      clear hxd
      by_cases hql : q < s.length
      · have hqi : ¬ (s.length : Int) ≤ q := by omega
        have hqn : decide (s.length ≤ q) = false := by simp; omega
        obtain ⟨c, hc, hcd⟩ := byte_at s q hql
        have HC : Hid (s.drop q = c :: s.drop (q + 1)) := hcd
        clear hcd
        by_cases hcx : c = x
        · have hcx2 : ((c.toNat : Int) == (x.toNat : Int)) = true := by rw [hcx]; simp
          have hcx3 : (c.toNat : Int) = (x.toNat : Int) := by rw [hcx]
          have HCX : Hid (c = x) := hcx
          clear hcx
          go_wp2_with fail
          go_quiet (fail)
          replace V0 := V0.drN nq
          replace V1 := V1.drN nq
          replace B0 := below_drewN B0 nq
          go_wp2_with fail
          go_roundw
          case rel =>
            refine ⟨j + 1, q + 1, by simp, by omega, hql, V0.seti 0 (.int .i64 ((q + 1 : Nat) : Int)), V1.other (p := ⟨w.heap.size, 0, none⟩) (by show w.heap.size + 1 ≠ w.heap.size; omega) _, ?_, B0.setCell (p := ⟨w.heap.size, 0, none⟩) (Nat.le_refl _) _⟩
            have e := HT.out
            rw [HX.out, HC.out, HCX.out] at e
            show plus (q + 1) _ = T
            rw [← e]
            show _ = plus q (if x = x then one (fixC (t.drop (j + 1)) K (s.drop (q + 1))) else (0, none))
            rw [if_pos rfl, plus_one]
          case measure => simp [intOf]; omega
        · have hcx2 : ((c.toNat : Int) == (x.toNat : Int)) = false := by
            have : ¬ (c.toNat : Int) = x.toNat := fun h => hcx (UInt8.toNat_inj.1 (by omega))
            simpa using this
          have hcx3 : ¬ (c.toNat : Int) = (x.toNat : Int) := by simpa using hcx2
          have HE : Hid (T = (q, none)) := by
            have e := HT.out
            rw [HX.out, HC.out] at e
            rw [← e]
            show plus q (if c = x then _ else _) = _
            rw [if_neg hcx]; rfl
          clear hcx
          go_wp2_with fail
          go_quiet (fail)
          replace V0 := V0.drN nq
          replace V1 := V1.drN nq
          replace B0 := below_drewN B0 nq
          go_wp2_with fail
          refine bodyPost_ret (results_rd rfl rfl ((V1.other (p := ⟨w.heap.size, 3, none⟩) (by show w.heap.size + 1 ≠ w.heap.size; omega) _).set4 _ _ _ _)) rfl ?_
          exact ⟨true, neg, q, far, rfl, hq, HF.out, (fun h => by cases h), fun _ => HE.out, belo4 (B0.setCell (p := ⟨w.heap.size, 3, none⟩) (Nat.le_refl _) _) (by omega) _ _ _ _⟩
      · have hqi : (s.length : Int) ≤ q := by omega
        have hqn : decide (s.length ≤ q) = true := by simp; omega
        have HE : Hid (T = (q, none)) := by
          have e := HT.out
          rw [HX.out, show s.drop q = [] by rw [show q = s.length by omega]; simp] at e
          exact e.symm
        go_wp2_with fail
        go_quiet (fail)
        replace V0 := V0.drN nq
        replace V1 := V1.drN nq
        replace B0 := below_drewN B0 nq
        go_wp2_with fail
        refine bodyPost_ret (results_rd rfl rfl ((V1.other (p := ⟨w.heap.size, 3, none⟩) (by show w.heap.size + 1 ≠ w.heap.size; omega) _).set4 _ _ _ _)) rfl ?_
        exact ⟨true, neg, q, far, rfl, hq, HF.out, (fun h => by cases h), fun _ => HE.out, belo4 (B0.setCell (p := ⟨w.heap.size, 3, none⟩) (Nat.le_refl _) _) (by omega) _ _ _ _⟩
    · have hji : ¬ (j : Int) < t.length := by omega
      have HE : Hid (plus q (K (s.drop q)) = T) := by
        have e := HT.out
        rw [show t.drop j = [] by rw [show j = t.length by omega]; simp] at e
        exact e
      go_wp2_with fail
      refine bodyPost_ret (results_rd rfl rfl (V1.set4 _ _ _ _)) rfl ?_
      exact ⟨false, neg, q, far, rfl, hq, HF.out, fun _ => ⟨rfl, rfl, HE.out⟩, (fun h => by cases h), belo4 B0 (by omega) _ _ _ _⟩
theorem rtext_wr (s t : ByteArray) (p far : Int) (neg : Bool) (w : World) : Calls Tryz.prog 71 #[.agg #[.int .i64 p, .int .u64 far, .bool neg, .bool true], .string s, .string t] w fun e w' => e = .returned (.agg #[.int .i64 p, .int .u64 far, .bool neg, .bool true]) ∧ Below w.heap.size w w' := by
  go_enter Tryz.func71, Tryz.ntmps71
  go_wp2_with fail
  refine wp_loop_rounds 1 ?_
  rw [rounds_succ]
  by_cases h0 : (0 : Int) < (t.size : Int)
  · go_wp2_with fail
    refine ent2 w _ _ _ _ (Q := fun W => bodyPost Tryz.prog _ _ _ _ W) ?_
    intro x1 B0 hs1 V0 V1
    refine bodyPost_ret (results_rd rfl rfl V1) rfl ?_
    exact ⟨rfl, B0⟩
  · go_wp2_with fail
    refine ent2 w _ _ _ _ (Q := fun W => bodyPost Tryz.prog _ _ _ _ W) ?_
    intro x1 B0 hs1 V0 V1
    refine bodyPost_ret (results_rd rfl rfl V1) rfl ?_
    exact ⟨rfl, B0⟩
end Go.Proofs.YtigimdcaakfckaaGreatDoor
