/-
  money's table of powers of ten; its reader: digit.
-/
import Derived.Test.YtebbblhafjaaiaaGreatDoorMgAx
import Derived.Lib.AppendIntMem
import Derived.Test.YtebbblhafjaaiaaGreatDoorRt6
namespace Go.Proofs.YtebbblhafjaaiaaGreatDoor
open Go.RowKit Go.Shelf
set_option linter.unusedVariables false

def Tm (w : World) : Prop := Go.Lib.TabIs Tryz.prog w "tollbook/money.tens" .i64 [1, 10, 100, 1000, 10000]
theorem Tm.to {w w' : World} (h : Tm w) (hb : Below w.heap.size w w') : Tm w' := Go.Lib.tabBelow_of_tabIs h w' hb
theorem gTm : Tryz.prog.globalNamed "tollbook/money.tens" = some 1 := by kernel_rfl
theorem Tm.of {w w' : World} (h : Tm w) (hb : w'.heap[1]? = w.heap[1]?) : Tm w' := by
  unfold Tm Go.Lib.TabIs World.var? at *
  simp only [gTm, Option.bind_some] at h ⊢
  rw [hb]
  exact h
theorem Tm.lt {w : World} (h : Tm w) : 1 < w.heap.size := by
  unfold Tm Go.Lib.TabIs World.var? at h
  simp only [gTm, Option.bind_some] at h
  rcases Nat.lt_or_ge 1 w.heap.size with h' | h'
  · exact h'
  · rw [Array.getElem?_eq_none h'] at h; simp at h
theorem Tm.only {b : Nat} {w w' : World} (h : Tm w) (o : Only b w w') (hb : b ≠ 1) : Tm w' := h.of (o.oth _ (Ne.symm hb))
theorem Tm.cell {w : World} (h : Tm w) (P : Nat) (hP : P ≤ 4) : w.cell? ⟨1, P, none⟩ = some (.int .i64 ((10 ^ P : Nat) : Int)) := by
  have := Go.Lib.TabIs.cell (g := 1) h gTm P (by simp; omega)
  rw [this]
  obtain rfl | rfl | rfl | rfl | rfl : P = 0 ∨ P = 1 ∨ P = 2 ∨ P = 3 ∨ P = 4 := by omega
  all_goals rfl
def DgP (b : Nat) (s : List UInt8) (p : Nat) (d : Value) (neg : Bool) (far rest : Nat) (w : World) (e : Ending) (w' : World) (ok : Bool) : Prop :=
  e = .returned (.bool ok) ∧ Va w' b 196 #[.string ⟨s.toArray⟩, .int .i64 (if ok then p + 1 else p : Nat), d, .bool neg, .int .u64 (if ok then far * 10 + wv (s.getD p 0) else far : Nat)] ∧ Only b w w'
theorem digit_end (b : Nat) (s : List UInt8) (d : Value) (neg : Bool) (far rest : Nat) (w : World) (h : Va w b 196 #[.string ⟨s.toArray⟩, .int .i64 (s.length : Nat), d, .bool neg, .int .u64 far]) :
    Calls Tryz.prog 215 #[.pointer (some ⟨b, 0, none⟩), .int .i64 rest] w fun e w' => DgP b s s.length d neg far rest w e w' false := by
  have c0 : w.cell? ⟨b, 0, none⟩ = some (.string ⟨s.toArray⟩) := h.cellAt 0
  have c1 : w.cell? ⟨b, 1, none⟩ = some (.int .i64 s.length) := h.cellAt 1
  have HV : Hid (Va w b 196 _) := h
  clear h
  go_enter Tryz.func215, Tryz.ntmps215
  go_wp2_with fail
  go_quiet (fail)
  go_wp2_with fail
  go_ret
  exact ⟨rfl, HV.out.drN _, (Only.refl _ _).drewN _⟩
theorem wv_of {c : UInt8} (h1 : 48 ≤ c.toNat) (h2 : c.toNat ≤ 57) : wv c = c.toNat - 48 := by unfold wv; rw [if_pos ⟨h1, h2⟩]
theorem pow_few {r : Nat} (h : r ≤ 4) : 1 ≤ 10 ^ r ∧ 10 ^ r ≤ 10000 := by
  obtain rfl | rfl | rfl | rfl | rfl : r = 0 ∨ r = 1 ∨ r = 2 ∨ r = 3 ∨ r = 4 := by omega
  all_goals decide
set_option maxHeartbeats 2000000 in
theorem digit_at (b : Nat) (s : List UInt8) (p : Nat) (d : Value) (neg : Bool) (far rest : Nat) (w : World) (h : Va w b 196 #[.string ⟨s.toArray⟩, .int .i64 p, d, .bool neg, .int .u64 far]) (hp : p < s.length) (hs : s.length ≤ 140737488355328) (hr : rest ≤ 4) (hf : far ≤ mostU neg) (hT : Tm w) :
    Calls Tryz.prog 215 #[.pointer (some ⟨b, 0, none⟩), .int .i64 rest] w fun e w' => DgP b s p d neg far rest w e w' (okD neg far rest (s.getD p 0)) := by
  obtain ⟨c, hc, hcd⟩ := byte_at s p hp
  have hgc : s.getD p 0 = c := by
    have : s.getD p 0 = (s.drop p).getD 0 0 := by simp
    rw [this, hcd]; rfl
  rw [hgc]
  have HGC : Hid (s.getD p 0 = c) := hgc
  clear hcd hgc
  have c0 : w.cell? ⟨b, 0, none⟩ = some (.string ⟨s.toArray⟩) := h.cellAt 0
  have c1 : w.cell? ⟨b, 1, none⟩ = some (.int .i64 p) := h.cellAt 1
  have c3 : w.cell? ⟨b, 3, none⟩ = some (.bool neg) := h.cellAt 3
  have c4 : w.cell? ⟨b, 4, none⟩ = some (.int .u64 far) := h.cellAt 4
  have f1 : w.frozen? ⟨b, 1, none⟩ = false := h.frozen 1
  have f4 : w.frozen? ⟨b, 4, none⟩ = false := h.frozen 4
  have HV : Hid (Va w b 196 _) := h
  have hpi : ((p : Int) == s.length) = false := by simp; omega
  clear h
  by_cases h1 : 48 ≤ c.toNat
  · by_cases h2 : c.toNat ≤ 57
    · obtain ⟨m, hm⟩ : ∃ m, 10 ^ rest = m := ⟨_, rfl⟩
      have tc : w.cell? ⟨1, rest, none⟩ = some (.int .i64 (m : Int)) := by rw [← hm]; exact hT.cell rest hr
      obtain ⟨M, hM⟩ : ∃ M, mostU neg = M := ⟨_, rfl⟩
      have hf9 := far9 b (.string ⟨s.toArray⟩) (.int .i64 p) d (.int .u64 far) neg
      rw [hM] at hf9
      have n1 : decide (c.toNat < 48) = false := by simp; omega
      have n2 : decide (57 < c.toNat) = false := by simp; omega
      have i1 : decide ((c.toNat : Int) < 48) = false := by simp; omega
      have i2 : decide ((57 : Int) < c.toNat) = false := by simp; omega
      have hm1 : 1 ≤ m ∧ m ≤ 10000 := by rw [← hm]; exact pow_few hr
      have hr5 : (rest : Int) < 5 := by omega
      have hrn : rest < 5 := by omega
      have hm0 : ((m : Int) == 0) = false := by simp; omega
      have hm0' : ¬ (m : Int) = 0 := by omega
      have hmw : IntKind.u64.wrap (m : Int) = m := by show (m : Int) % 18446744073709551616 = m; omega
      obtain ⟨Q, hQ⟩ : ∃ Q, M / m = Q := ⟨_, rfl⟩
      have hQ1 : (M : Int) / (m : Int) = Q := by rw [← hQ]; simp
      have hQ2 : (M : Int).tdiv (m : Int) = Q := by rw [Int.tdiv_eq_ediv_of_nonneg (by omega), hQ1]
      have HQ : Hid (mostU neg / 10 ^ rest = Q) := by show _ = _; rw [hm, hM, hQ]
      obtain ⟨q, hq⟩ : ∃ q, wv c = q := ⟨_, rfl⟩
      have hq9 : q ≤ 9 := by rw [← hq, wv_of h1 h2]; omega
      have hq1 : (c.toNat : Int) - 48 = (q : Int) := by rw [← hq, wv_of h1 h2]; omega
      have hQb : 922337203685477 ≤ Q ∧ Q ≤ 9223372036854775808 := by
        rw [← hQ]
        have hMb : 9223372036854775807 ≤ M ∧ M ≤ 9223372036854775808 := by rw [← hM]; cases neg <;> decide
        constructor
        · exact (Nat.le_div_iff_mul_le (by omega)).2 (by omega)
        · exact Nat.le_trans (Nat.div_le_self _ _) hMb.2
      obtain ⟨R, hR⟩ : ∃ R, Q - q = R := ⟨_, rfl⟩
      obtain ⟨E, hE⟩ : ∃ E, R / 10 = E := ⟨_, rfl⟩
      have wQ : IntKind.u64.wrap (Q : Int) = Q := by show (Q : Int) % 18446744073709551616 = Q; omega
      have wR : (Q : Int) - q = R := by omega
      have wR2 : IntKind.u64.wrap (R : Int) = R := by show (R : Int) % 18446744073709551616 = R; omega
      have wE : (R : Int).tdiv 10 = E := by rw [Int.tdiv_eq_ediv_of_nonneg (by omega)]; omega
      have wE2 : IntKind.u64.wrap (E : Int) = E := by show (E : Int) % 18446744073709551616 = E; omega
      obtain ⟨V, hVV⟩ : ∃ V, far * 10 + q = V := ⟨_, rfl⟩
      have HVV : Hid (far * 10 + q = V) := hVV
      have HOK : Hid (okD neg far rest c = (decide (V ≤ Q) && !(neg && decide (V = 0) && decide (rest = 0)))) := by
        show _ = _
        unfold okD
        rw [(isD_iff c).2 ⟨h1, h2⟩, hq, hVV, HQ.out]; rfl
      by_cases hfe : far ≤ E
      · have hfi : (far : Int) ≤ E := by omega
        have wF : IntKind.u64.wrap ((far : Int) * 10) = (far : Int) * 10 := by show ((far : Int) * 10) % 18446744073709551616 = _; omega
        have wV : (far : Int) * 10 + q = V := by omega
        have wV2 : IntKind.u64.wrap (V : Int) = V := by show (V : Int) % 18446744073709551616 = V; omega
        have hVQ : decide (V ≤ Q) = true := by simp; omega
        rw [hVQ, Bool.true_and] at HOK
        clear hQ hQ1 hR hE hVV hVQ hM hm hf
        cases neg with
        | false =>
          rw [show okD false far rest c = true from HOK.out]
          go_enter Tryz.func215, Tryz.ntmps215
          go_wp2_with fail
          go_quiet (fail)
          go_wp2_with fail
          go_quiet (fail)
          go_wp2_with fail
          go_quiet ((refine (hf9 (w.drewN _) (HV.out.drN _)).mono ?_; rintro e w2 ⟨rfl, rfl⟩; exact ⟨rfl, _, rfl⟩))
          go_wp2_with fail
          go_ret
          refine ⟨rfl, ?_, (((Only.refl _ _).drewN _).set _ _).set _ _⟩
          rw [HGC.out, hq, HVV.out]
          exact ((HV.out.drN _).seti 4 (.int .u64 (V : Nat))).seti 1 (.int .i64 ((p + 1 : Nat) : Int))
        | true =>
          by_cases hV0 : V = 0
          · by_cases hr0 : rest = 0
            · rw [show okD true far rest c = false by rw [HOK.out]; simp [hV0, hr0]]
              have v0 : ((V : Int) == 0) = true := by simp [hV0]
              subst hr0
              clear hV0 HOK HQ
              go_enter Tryz.func215, Tryz.ntmps215
              go_wp2_with fail
              go_quiet (fail)
              go_wp2_with fail
              go_quiet (fail)
              go_wp2_with fail
              go_quiet ((refine (hf9 (w.drewN _) (HV.out.drN _)).mono ?_; rintro e w2 ⟨rfl, rfl⟩; exact ⟨rfl, _, rfl⟩))
              go_wp2_with fail
              go_ret
              exact ⟨rfl, HV.out.drN _, (Only.refl _ _).drewN _⟩
            · rw [show okD true far rest c = true by rw [HOK.out]; simp [hV0, hr0]]
              have v0 : ((V : Int) == 0) = true := by simp [hV0]
              have r0 : ((rest : Int) == 0) = false := by simp [hr0]
              have r1 : ¬ (rest : Int) = 0 := by omega
              clear hV0 hr0
              go_enter Tryz.func215, Tryz.ntmps215
              go_wp2_with fail
              go_quiet (fail)
              go_wp2_with fail
              go_quiet (fail)
              go_wp2_with fail
              go_quiet ((refine (hf9 (w.drewN _) (HV.out.drN _)).mono ?_; rintro e w2 ⟨rfl, rfl⟩; exact ⟨rfl, _, rfl⟩))
              go_wp2_with fail
              go_ret
              refine ⟨rfl, ?_, (((Only.refl _ _).drewN _).set _ _).set _ _⟩
              rw [HGC.out, hq, HVV.out]
              exact ((HV.out.drN _).seti 4 (.int .u64 (V : Nat))).seti 1 (.int .i64 ((p + 1 : Nat) : Int))
          · rw [show okD true far rest c = true by rw [HOK.out]; simp [hV0]]
            have v0 : ((V : Int) == 0) = false := by simp [hV0]
            have v1 : ¬ (V : Int) = 0 := by omega
            clear hV0
            go_enter Tryz.func215, Tryz.ntmps215
            go_wp2_with fail
            go_quiet (fail)
            go_wp2_with fail
            go_quiet (fail)
            go_wp2_with fail
            go_quiet ((refine (hf9 (w.drewN _) (HV.out.drN _)).mono ?_; rintro e w2 ⟨rfl, rfl⟩; exact ⟨rfl, _, rfl⟩))
            go_wp2_with fail
            go_ret
            refine ⟨rfl, ?_, (((Only.refl _ _).drewN _).set _ _).set _ _⟩
            rw [HGC.out, hq, HVV.out]
            exact ((HV.out.drN _).seti 4 (.int .u64 (V : Nat))).seti 1 (.int .i64 ((p + 1 : Nat) : Int))
      · have hfi : ¬ (far : Int) ≤ E := by omega
        have hfl : (E : Int) < far := by omega
        rw [show okD neg far rest c = false by rw [HOK.out, show decide (V ≤ Q) = false by simp; omega]; rfl]
        clear hQ hQ1 hR hE hVV hM hm hf
        go_enter Tryz.func215, Tryz.ntmps215
        go_wp2_with fail
        go_quiet (fail)
        go_wp2_with fail
        go_quiet (fail)
        go_wp2_with fail
        go_quiet ((refine (hf9 (w.drewN _) (HV.out.drN _)).mono ?_; rintro e w2 ⟨rfl, rfl⟩; exact ⟨rfl, _, rfl⟩))
        go_wp2_with fail
        go_ret
        exact ⟨rfl, HV.out.drN _, (Only.refl _ _).drewN _⟩
    · have n1 : decide (c.toNat < 48) = false := by simp; omega
      have n2 : decide (57 < c.toNat) = true := by simp; omega
      have i1 : decide ((c.toNat : Int) < 48) = false := by simp; omega
      have i2 : decide ((57 : Int) < c.toNat) = true := by simp; omega
      have HO : Hid (okD neg far rest c = false) := by
        show _ = _
        have := isD_iff c
        cases hd : isD c
        · unfold okD; rw [hd]; rfl
        · exact absurd (this.1 hd) (by omega)
      rw [HO.out]
      go_enter Tryz.func215, Tryz.ntmps215
      go_wp2_with fail
      go_quiet (fail)
      go_wp2_with fail
      go_ret
      exact ⟨rfl, HV.out.drN _, (Only.refl _ _).drewN _⟩
  · have h1i : (c.toNat : Int) < 48 := by omega
    have n1 : decide (c.toNat < 48) = true := by simp; omega
    have i1 : decide ((c.toNat : Int) < 48) = true := by simp; omega
    have HO : Hid (okD neg far rest c = false) := by
      show _ = _
      have := isD_iff c
      cases hd : isD c
      · unfold okD; rw [hd]; rfl
      · exact absurd (this.1 hd) (by omega)
    rw [HO.out]
    go_enter Tryz.func215, Tryz.ntmps215
    go_wp2_with fail
    go_quiet (fail)
    go_wp2_with fail
    go_ret
    exact ⟨rfl, HV.out.drN _, (Only.refl _ _).drewN _⟩
end Go.Proofs.YtebbblhafjaaiaaGreatDoor
namespace Go.Proofs.YtebbblhafjaaiaaGreatDoor
open Go.RowKit Go.Shelf
set_option linter.unusedVariables false

theorem qsmall_to9 (x y : Int) (h1 : -9223372036854775808 ≤ x) (h2 : x ≤ 9223372036854775807) (h3 : -9223372036854775808 ≤ y) (h4 : y ≤ 9223372036854775807) (h0 : y ≠ 0) (v : Rat) (w : World) (he : Rat.divInt x y = v) (hs : Short v) :
    Calls Tryz.prog 53 #[.int .i64 x, .int .i64 y] w fun e w' => ∃ s' a' l' c' zs' b' m' d' ds', e = .returned (.tuple #[.agg #[.bool s', .slice a' l' c', .slice b' m' d'], .int .i64 0]) ∧ Rt w' s' a' l' c' zs' b' m' d' ds' v ∧ Below w.heap.size w w' := by
  refine (qsmall_ok x y h1 h2 h3 h4 h0 w).mono ?_
  rintro e w' ⟨er, s', a', l', c', zs', b', m', d', ds', v', rfl, h', hra, hb⟩
  rw [he] at hra
  rcases hra.out with ⟨-, rfl, rfl⟩ | ⟨hn, -⟩
  · exact ⟨s', a', l', c', zs', b', m', d', ds', rfl, h', hb⟩
  · exact absurd hs hn
theorem short649 {x y : Int} (h1 : -9223372036854775808 ≤ x) (h2 : x ≤ 9223372036854775807) (h3 : -9223372036854775808 ≤ y) (h4 : y ≤ 9223372036854775807) (h0 : y ≠ 0) : Short (Rat.divInt x y) := by
  have b1 : (9223372036854775808 : Int) < pw 1024 := Int.lt_of_lt_of_le (by decide : (9223372036854775808 : Int) < pw 1) (pw_mono (by omega))
  unfold Short
  rw [Rat.num_divInt, Rat.den_divInt, if_neg h0]
  have g1 : ((y.sign * x) / (y.gcd x : Nat)).natAbs ≤ x.natAbs := by
    have hd : ((y.gcd x : Nat) : Int) ∣ y.sign * x := Int.dvd_mul_of_dvd_right (Int.gcd_dvd_right ..)
    rw [Int.natAbs_ediv_of_dvd hd, Int.natAbs_mul, Int.natAbs_sign_of_ne_zero h0, Nat.one_mul]
    exact Nat.div_le_self _ _
  have g2 := Nat.div_le_self y.natAbs (y.gcd x)
  exact ⟨Int.lt_of_le_of_lt (by omega) b1, Int.lt_of_le_of_lt (by omega) b1⟩
set_option maxHeartbeats 2000000 in
theorem major9 (nm : List UInt8) (D : Nat) (u : Int) (w : World) (hC : Cur nm D) (h1 : -9223372036854775808 ≤ u) (h2 : u ≤ 9223372036854775807) (hT : Tm w) :
    Calls Tryz.prog 38 #[.agg #[.string ⟨nm.toArray⟩, .int .i64 D], .int .i64 u] w fun e w' => ∃ s a l c zs b m d ds, e = .returned (.tuple #[.agg #[.bool s, .slice a l c, .slice b m d], .int .i64 0]) ∧ Rt w' s a l c zs b m d ds (Rat.divInt u ((10 ^ D : Nat) : Int)) ∧ Below w.heap.size w w' := by
  have HT : Hid (Tm w) := hT
  have hD : D ≤ 4 := by have := hC.2.2.2; omega
  clear hT
  obtain ⟨m, hm⟩ : ∃ m, 10 ^ D = m := ⟨_, rfl⟩
  have hm1 : 1 ≤ m ∧ m ≤ 10000 := by rw [← hm]; exact pow_few hD
  have HTC : Hid (∀ W, Below w.heap.size w W → W.cell? ⟨1, D, none⟩ = some (.int .i64 (m : Int))) := fun W hb => by rw [← hm]; exact (HT.out.to hb).cell D hD
  rw [hm]
  clear hm
  have hDi : (D : Int) < 5 := by omega
  have B0 : Below w.heap.size w w := Below.refl _ _
  go_enter Tryz.func38, Tryz.ntmps38
  go_wp2_with fail
  refine ent2 w _ _ _ _ (Q := fun W => Calls Tryz.prog _ _ W _) ?_
  intro x1 hb hs_x1 V0 V1
  replace B0 := step B0 hb
  clear hb hs_x1
  refine (check9_ok nm D hC _).mono ?_
  rintro e x2 ⟨rfl, hb⟩
  replace V0 := Va.after hb V0
  replace V1 := Va.after hb V1
  replace B0 := step B0 hb
  clear hb
  have tc := HTC.out _ B0
  have c_V0 := V0.c0
  have f0_V0 := V0.frozen 0
  have d_V0 := V0.c1
  have f1_V0 := V0.frozen 1
  have l_V0 := V0.lt
  have m_V0 := Nat.le_of_lt l_V0
  go_wp2_with fail
  clear tc
  refine (qsmall_to9 u (m : Int) h1 h2 (by omega) (by omega) (by omega) (Rat.divInt u (m : Int)) _ rfl (short649 h1 h2 (by omega) (by omega) (by omega))).mono ?_
  rintro e x3 ⟨s', a', l', c', zs', b', m', d', ds', rfl, h', hb⟩
  replace V0 := Va.after hb V0
  replace V1 := Va.after hb V1
  replace B0 := step B0 hb
  clear hb
  clear c_V0 f0_V0 d_V0 f1_V0 l_V0 m_V0
  have c_V1 := V1.d0
  have f0_V1 := V1.frozen 0
  have d_V1 := V1.d1
  have f1_V1 := V1.frozen 1
  have e_V1 := V1.d2
  have f2_V1 := V1.frozen 2
  have l_V1 := V1.lt
  have m_V1 := Nat.le_of_lt l_V1
  go_wp2_with fail
  refine bodyPost_ret (results_rt rfl rfl (V1.set3 _ _ _)) rfl ?_
  exact ⟨s', a', l', c', zs', b', m', d', ds', rfl, h'.far V1 (noInt3 _ _ _ _ _ _ _) (fa3 _ _ _ _ _), belo3 B0 (by omega) _ _ _⟩
theorem major9_no (nm : List UInt8) (D u : Int) (w : World) (hC : ¬ Cur nm D) :
    Calls Tryz.prog 38 #[.agg #[.string ⟨nm.toArray⟩, .int .i64 D], .int .i64 u] w fun e w' => e = .returned (.tuple #[.agg #[.bool false, .slice none 0 0, .slice none 0 0], .int .i64 90]) ∧ Below w.heap.size w w' := by
  have B0 : Below w.heap.size w w := Below.refl _ _
  go_enter Tryz.func38, Tryz.ntmps38
  go_wp2_with fail
  refine ent2 w _ _ _ _ (Q := fun W => Calls Tryz.prog _ _ W _) ?_
  intro x1 hb hs_x1 V0 V1
  replace B0 := step B0 hb
  clear hb hs_x1
  refine (check9_no nm D hC _).mono ?_
  rintro e x2 ⟨rfl, hb⟩
  replace V0 := Va.after hb V0
  replace V1 := Va.after hb V1
  replace B0 := step B0 hb
  clear hb
  have c_V0 := V0.c0
  have f0_V0 := V0.frozen 0
  have d_V0 := V0.c1
  have f1_V0 := V0.frozen 1
  have l_V0 := V0.lt
  have m_V0 := Nat.le_of_lt l_V0
  have c_V1 := V1.d0
  have f0_V1 := V1.frozen 0
  have d_V1 := V1.d1
  have f1_V1 := V1.frozen 1
  have e_V1 := V1.d2
  have f2_V1 := V1.frozen 2
  have l_V1 := V1.lt
  have m_V1 := Nat.le_of_lt l_V1
  go_wp2_with fail
  refine bodyPost_ret (results_rt rfl rfl (V1.set3 _ _ _)) rfl ?_
  exact ⟨rfl, belo3 B0 (by omega) _ _ _⟩
set_option maxHeartbeats 2000000 in
theorem minor9 (nm : List UInt8) (D : Nat) (s : Bool) (a : Option Addr) (l c : Nat) (zs : List Int) (b : Option Addr) (m0 d : Nat) (ds : List Int) (v : Rat) (w : World) (hC : Cur nm D) (hr : Rt w s a l c zs b m0 d ds v) (hT : Tm w) :
    Calls Tryz.prog 44 #[.agg #[.string ⟨nm.toArray⟩, .int .i64 D], .agg #[.bool s, .slice a l c, .slice b m0 d]] w fun e w' => ∃ er s' a' l' c' zs' b' m' d' ds' v', e = .returned (.tuple #[.agg #[.bool s', .slice a' l' c', .slice b' m' d'], .int .i64 er]) ∧ Rt w' s' a' l' c' zs' b' m' d' ds' v' ∧ Hid (RA (v * Rat.divInt ((10 ^ D : Nat) : Int) 1) er v') ∧ Below w.heap.size w w' := by
  have HT : Hid (Tm w) := hT
  have hD : D ≤ 4 := by have := hC.2.2.2; omega
  clear hT
  obtain ⟨m, hm⟩ : ∃ m, 10 ^ D = m := ⟨_, rfl⟩
  have hm1 : 1 ≤ m ∧ m ≤ 10000 := by rw [← hm]; exact pow_few hD
  have HTC : Hid (∀ W, Below w.heap.size w W → W.cell? ⟨1, D, none⟩ = some (.int .i64 (m : Int))) := fun W hb => by rw [← hm]; exact (HT.out.to hb).cell D hD
  rw [hm]
  clear hm
  have hDi : (D : Int) < 5 := by omega
  have B0 : Below w.heap.size w w := Below.refl _ _
  go_enter Tryz.func44, Tryz.ntmps44
  go_wp2_with fail
  refine ent3 w _ _ _ _ _ _ (Q := fun W => Calls Tryz.prog _ _ W _) ?_
  intro x1 hb hs_x1 V0 V2 V1
  replace hr := Rt.after hb hr
  replace B0 := step B0 hb
  clear hb hs_x1
  refine (check9_ok nm D hC _).mono ?_
  rintro e x2 ⟨rfl, hb⟩
  replace V0 := Va.after hb V0
  replace V2 := Va.after hb V2
  replace V1 := Va.after hb V1
  replace hr := Rt.after hb hr
  replace B0 := step B0 hb
  clear hb
  have tc := HTC.out _ B0
  have c_V0 := V0.c0
  have f0_V0 := V0.frozen 0
  have d_V0 := V0.c1
  have f1_V0 := V0.frozen 1
  have l_V0 := V0.lt
  have m_V0 := Nat.le_of_lt l_V0
  go_wp2_with fail
  clear tc
  refine (qsmall_to9 (m : Int) 1 (by omega) (by omega) (by omega) (by omega) (by omega) (Rat.divInt (m : Int) 1) _ rfl (short649 (by omega) (by omega) (by omega) (by omega) (by omega))).mono ?_
  rintro e x3 ⟨s2, a2, l2, c2, z2, b2, m2, d2, y2, rfl, h2, hb⟩
  replace V0 := Va.after hb V0
  replace V2 := Va.after hb V2
  replace V1 := Va.after hb V1
  replace hr := Rt.after hb hr
  replace B0 := step B0 hb
  clear hb
  clear c_V0 f0_V0 d_V0 f1_V0 l_V0 m_V0
  have c_V1 := V1.d0
  have f0_V1 := V1.frozen 0
  have d_V1 := V1.d1
  have f1_V1 := V1.frozen 1
  have e_V1 := V1.d2
  have f2_V1 := V1.frozen 2
  have l_V1 := V1.lt
  have m_V1 := Nat.le_of_lt l_V1
  have c_V2 := V2.d0
  have f0_V2 := V2.frozen 0
  have d_V2 := V2.d1
  have f1_V2 := V2.frozen 1
  have e_V2 := V2.d2
  have f2_V2 := V2.frozen 2
  have l_V2 := V2.lt
  have m_V2 := Nat.le_of_lt l_V2
  go_wp2_with fail
  refine ent1 x3 _ _ (Q := fun W => Calls Tryz.prog _ _ W _) ?_
  intro x4 hb hs_x4 V3
  replace V0 := Va.after hb V0
  replace V2 := Va.after hb V2
  replace V1 := Va.after hb V1
  replace hr := Rt.after hb hr
  replace h2 := Rt.after hb h2
  replace B0 := step B0 hb
  clear hb hs_x4
  refine (qmul_any s a l c zs b m0 d ds v s2 a2 l2 c2 z2 b2 m2 d2 y2 (Rat.divInt (m : Int) 1) _ hr h2).mono ?_
  rintro e x5 ⟨er, s', a', l', c', zs', b', m', d', ds', v', rfl, h', hra, hb⟩
  replace V0 := Va.after hb V0
  replace V2 := Va.after hb V2
  replace V1 := Va.after hb V1
  replace V3 := Va.after hb V3
  replace hr := Rt.after hb hr
  replace h2 := Rt.after hb h2
  replace B0 := step B0 hb
  clear hb
  clear c_V1 f0_V1 d_V1 f1_V1 e_V1 f2_V1 l_V1 m_V1 c_V2 f0_V2 d_V2 f1_V2 e_V2 f2_V2 l_V2 m_V2
  have c_V1 := V1.d0
  have f0_V1 := V1.frozen 0
  have d_V1 := V1.d1
  have f1_V1 := V1.frozen 1
  have e_V1 := V1.d2
  have f2_V1 := V1.frozen 2
  have l_V1 := V1.lt
  have m_V1 := Nat.le_of_lt l_V1
  go_wp2_with fail
  refine bodyPost_ret (results_rt rfl rfl (V1.set3 _ _ _)) rfl ?_
  exact ⟨er, s', a', l', c', zs', b', m', d', ds', v', rfl, h'.far V1 (noInt3 _ _ _ _ _ _ _) (fa3 _ _ _ _ _), hra, belo3 B0 (by omega) _ _ _⟩
theorem minor9_no (nm : List UInt8) (D : Int) (s : Bool) (a : Option Addr) (l c : Nat) (b : Option Addr) (m0 d : Nat) (w : World) (hC : ¬ Cur nm D) :
    Calls Tryz.prog 44 #[.agg #[.string ⟨nm.toArray⟩, .int .i64 D], .agg #[.bool s, .slice a l c, .slice b m0 d]] w fun e w' => e = .returned (.tuple #[.agg #[.bool false, .slice none 0 0, .slice none 0 0], .int .i64 90]) ∧ Below w.heap.size w w' := by
  have B0 : Below w.heap.size w w := Below.refl _ _
  go_enter Tryz.func44, Tryz.ntmps44
  go_wp2_with fail
  refine ent3 w _ _ _ _ _ _ (Q := fun W => Calls Tryz.prog _ _ W _) ?_
  intro x1 hb hs_x1 V0 V2 V1
  replace B0 := step B0 hb
  clear hb hs_x1
  refine (check9_no nm D hC _).mono ?_
  rintro e x2 ⟨rfl, hb⟩
  replace V0 := Va.after hb V0
  replace V2 := Va.after hb V2
  replace V1 := Va.after hb V1
  replace B0 := step B0 hb
  clear hb
  have c_V0 := V0.c0
  have f0_V0 := V0.frozen 0
  have d_V0 := V0.c1
  have f1_V0 := V0.frozen 1
  have l_V0 := V0.lt
  have m_V0 := Nat.le_of_lt l_V0
  have c_V1 := V1.d0
  have f0_V1 := V1.frozen 0
  have d_V1 := V1.d1
  have f1_V1 := V1.frozen 1
  have e_V1 := V1.d2
  have f2_V1 := V1.frozen 2
  have l_V1 := V1.lt
  have m_V1 := Nat.le_of_lt l_V1
  go_wp2_with fail
  refine bodyPost_ret (results_rt rfl rfl (V1.set3 _ _ _)) rfl ?_
  exact ⟨rfl, belo3 B0 (by omega) _ _ _⟩
end Go.Proofs.YtebbblhafjaaiaaGreatDoor
