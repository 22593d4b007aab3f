/-
  t
-/
import Derived.Test.YtkfpblonjinfmaaGuess
import Derived.Test.YtkfpblonjinfmaaKnuth
import Derived.Deep.RegionWith
namespace Go.Proofs.Ytkfpblonjinfmaa
open Go.RowKit Go.Shelf
set_option maxHeartbeats 1000000 in
theorem guess_any (pb po vb vo n k cp cv : Nat) (us vs : List Int) (w : World) (hk : k = n + 1) (hu : Sl w (some ⟨pb, po, none⟩) k us) (hv : Sl w (some ⟨vb, vo, none⟩) n vs) (hm : n ≤ 10000000000000) (hn2 : 2 ≤ n)
    (hlt : num us < num vs * 18446744073709551616) (htop : 0 < vs.getD (n - 1) 0) :
    Calls Try.prog 89 #[.slice (some ⟨pb, po, none⟩) k cp, .slice (some ⟨vb, vo, none⟩) n cv] w fun e w' => ∃ t, e = .returned (.int .u64 t) ∧ Word t ∧ num us / num vs ≤ t ∧ ∃ n, w' = w.drewN n := by
  have cu : ∀ i, i < k → w.cell? ⟨pb, po + i, none⟩ = some (.int .u64 (us.getD i 0)) := by
    obtain ⟨b, o, e, h⟩ := hu.2.2 (by omega)
    cases e; exact h
  have cv' : ∀ i, i < n → w.cell? ⟨vb, vo + i, none⟩ = some (.int .u64 (vs.getD i 0)) := by
    obtain ⟨b, o, e, h⟩ := hv.2.2 (by omega)
    cases e; exact h
  have cu2 := cu n (by omega)
  have cu1 := cu (n - 1) (by omega)
  have cu0 := cu (n - 2) (by omega)
  have cv1 := cv' (n - 1) (by omega)
  have cv0 := cv' (n - 2) (by omega)
  have wu2 := hu.2.1.getD n; have wu1 := hu.2.1.getD (n - 1); have wu0 := hu.2.1.getD (n - 2)
  have wv1 := hv.2.1.getD (n - 1); have wv0 := hv.2.1.getD (n - 2)
  obtain ⟨u2, hu2⟩ : ∃ x, us.getD n 0 = x := ⟨_, rfl⟩
  obtain ⟨u1, hu1⟩ : ∃ x, us.getD (n - 1) 0 = x := ⟨_, rfl⟩
  obtain ⟨u0, hu0⟩ : ∃ x, us.getD (n - 2) 0 = x := ⟨_, rfl⟩
  obtain ⟨v1, hv1⟩ : ∃ x, vs.getD (n - 1) 0 = x := ⟨_, rfl⟩
  obtain ⟨v0, hv0⟩ : ∃ x, vs.getD (n - 2) 0 = x := ⟨_, rfl⟩
  rw [hu2] at cu2 wu2
  rw [hu1] at cu1 wu1
  rw [hu0] at cu0 wu0
  rw [hv1] at cv1 wv1 htop
  rw [hv0] at cv0 wv0
  clear cu cv'
  have e1 : ((n : Int) - 1).toNat = n - 1 := by omega
  have e2 : ((n : Int) - 2).toNat = n - 2 := by omega
  have ew1 : IntKind.i64.wrap ((n : Int) - 1) = n - 1 := by rw [IntKind.wrap_i64]; omega
  have ew2 : IntKind.i64.wrap ((n : Int) - 2) = n - 2 := by rw [IntKind.wrap_i64]; omega
  have hz := hu.1
  have hzv := hv.1
  have hpos : 0 < num vs := by
    have e := num_top vs (n - 1) (by omega)
    have h1 := num_take_nonneg hv.2.1 (n - 1)
    have h2 := pw_pos (n - 1)
    rw [hv1] at e
    have : 1 * pw (n - 1) ≤ v1 * pw (n - 1) := mul_le (by omega) (by omega)
    omega
  obtain ⟨q0, q1, q2⟩ := quot_facts hpos (num_nonneg hu.2.1)
  have hG := guess_of (n := n - 2) hu.2.1 hv.2.1 (by omega) (by omega) q0 q1 hpos
  have hle := top_le (n := n - 1) hu.2.1 hv.2.1 (by omega) (by omega) hlt
  rw [show n - 2 + 2 = n by omega, show n - 2 + 1 = n - 1 by omega] at hG
  rw [show n - 1 + 1 = n by omega] at hle
  rw [hu2, hu1, hu0, hv1, hv0] at hG
  rw [hu2, hv1] at hle
  obtain ⟨Q, hQ⟩ : ∃ Q, num us / num vs = Q := ⟨_, rfl⟩
  rw [hQ] at hG q0 q1 q2 ⊢
  have hQB : Q < 18446744073709551616 := by
    have : Q * num vs < 18446744073709551616 * num vs := by rw [Int.mul_comm 18446744073709551616]; omega
    exact lt_cancel hpos this
  have GU : Hid (Guess (num us) (num vs) Q u2 u1 u0 v1 v0 (n - 2)) := hG
  have hk1 : n < k := by omega
  have hk2 : n - 1 < k := by omega
  have hk3 : n - 2 < k := by omega
  have hk4 : k ≤ 10000000000001 := by omega
  have q3 : decide (n < k) = true := by simp; omega
  have q4 : decide (k ≤ n) = false := by simp; omega
  have q5 : decide ((n : Int) < k) = true := by simp; omega
  have q6 : decide ((k : Int) ≤ n) = false := by simp; omega
  have q7 : (n : Int) - 1 < k := by omega
  have q8 : 0 ≤ (n : Int) - 1 := by omega
  have q9 : n - 1 < k := by omega
  have q10 : 1 ≤ (n : Int) := by omega
  have q11 : 2 ≤ (n : Int) := by omega
  have HQ00 : Hid (0 ≤ Q) := q0
  clear hk hu hv hz hzv hpos q0 q1 q2 hG hQ hlt hu2 hu1 hu0 hv1 hv0
  by_cases hc : u2 < v1
  · obtain ⟨tt, htt⟩ : ∃ t, (u2 * 18446744073709551616 + u1) / v1 = t := ⟨_, rfl⟩
    obtain ⟨rr, hrr⟩ : ∃ r, (u2 * 18446744073709551616 + u1) % v1 = r := ⟨_, rfl⟩
    have d1 := Int.mul_ediv_add_emod (u2 * 18446744073709551616 + u1) v1
    have d2 := Int.emod_nonneg (u2 * 18446744073709551616 + u1) (show v1 ≠ 0 by omega)
    have d3 := Int.emod_lt_of_pos (u2 * 18446744073709551616 + u1) (show 0 < v1 by omega)
    have d4 : 0 ≤ (u2 * 18446744073709551616 + u1) / v1 := Int.ediv_nonneg (by omega) (by omega)
    have D := fun W => div_ok u2 u1 v1 wu2 wu1 wv1 hc W
    simp only [htt, hrr] at D
    rw [htt] at d1 d4
    rw [hrr] at d1 d2 d3
    have e7 : tt * v1 + rr = u2 * 18446744073709551616 + u1 := by rw [Int.mul_comm]; omega
    have d5 : tt < 18446744073709551616 := by
      have h1 : (u2 + 1) * 18446744073709551616 ≤ v1 * 18446744073709551616 := mul_le (by decide) (by omega)
      have : tt * v1 < 18446744073709551616 * v1 := by rw [Int.mul_comm 18446744073709551616]; omega
      exact lt_cancel (show 0 < v1 by omega) this
    have hqt : Q ≤ tt := GU.out.start (by omega) wv0.1 wu0.1 wu0.2 d3 e7
    have HT0 : Hid (Word tt) := ⟨d4, d5⟩
    have HR0 : Hid (Word rr) := ⟨d2, by omega⟩
    have HE0 : Hid (tt * v1 + (0 * 18446744073709551616 + rr) = u2 * 18446744073709551616 + u1) := by show _ = _; omega
    have HQ0 : Hid (Q ≤ tt) := hqt
    have HD : Hid (∀ W, Calls Try.prog 78 #[.int .u64 u2, .int .u64 u1, .int .u64 v1] W fun e w' => e = .returned (.tuple #[.int .u64 tt, .int .u64 rr, .int .i64 0]) ∧ ∃ n, w' = W.drewN n) := D
    clear d1 d2 d3 d4 d5 D htt hrr e7 hqt
    go_enter Try.func89, Try.ntmps89
    go_wp2_with fail
    go_quiet (fail)
    go_wp2_with fail
    go_quiet ((go_at_call 78; refine (HD.out _).mono ?_; rintro e w2 ⟨rfl, x, rfl⟩; exact ⟨rfl, _, by rw [World.drewN_drewN, Nat.add_assoc]⟩))
    go_wp2_with fail
    go_loopw [8, 9, 10] (fun tt rr oo wr => ∃ (t r o : Int) (q : Nat), tt = .int .u64 t ∧ rr = .int .u64 r ∧ oo = .int .u64 o ∧ wr = w.drewN q ∧ Hid (Word t) ∧ Hid (Word r) ∧ 0 ≤ o ∧ o ≤ 1 ∧ Hid (t * v1 + (o * 18446744073709551616 + r) = u2 * 18446744073709551616 + u1) ∧ Hid (Q ≤ t)) (fun tt _ _ _ => (intOf tt).toNat)
    case atStart => exact ⟨_, _, _, _, rfl, rfl, rfl, by first | rfl | rw [World.drewN_drewN], HT0, HR0, by decide, by decide, HE0, HQ0⟩
    case round =>
      obtain ⟨t, r, o, k, rfl, rfl, rfl, rfl, ht, hr, ho0, ho1, he, hq⟩ := hrel
      have ho : o = 0 ∨ o = 1 := by omega
      clear ho0 ho1
      rcases ho with rfl | rfl
      · have T := tooMuch_any t v0 r u0 ht.out wv0 hr.out wu0
        by_cases hab : above2 t v0 r u0 = true
        · rw [hab] at T
          have h1 : Q + 1 ≤ t := GU.out.less ht.out.1 (by have := he.out; omega) (by simpa [above2] using hab)
          have HT : Hid (∀ W, Calls Try.prog 94 #[.int .u64 t, .int .u64 v0, .int .u64 r, .int .u64 u0] W fun e w' => e = .returned (.bool true) ∧ ∃ n, w' = W.drewN n) := T
          clear T hab
          go_wp2_with fail
          refine (HT.out _).mono ?_
          rintro e w2 ⟨rfl, x, rfl⟩
          go_wp2_with fail
          have A := fun W => add_any r v1 0 hr.out wv1 ⟨by decide, by decide⟩ W
          obtain ⟨r2, hr2⟩ : ∃ x, (r + v1 + 0) % 18446744073709551616 = x := ⟨_, rfl⟩
          obtain ⟨o2, ho2⟩ : ∃ x, (r + v1 + 0) / 18446744073709551616 = x := ⟨_, rfl⟩
          simp only [hr2, ho2] at A
          have hrw := hr.out
          have htw := ht.out
          have hrw1 := hrw.1; have hrw2 := hrw.2; have htw1 := htw.1; have htw2 := htw.2
          have Wv1 := wv1
          have HR2 : Hid (Word r2) := ⟨by omega, by omega⟩
          have p0 : 0 ≤ o2 := by omega
          have p1 : o2 ≤ 1 := by omega
          have HE2 : Hid ((t - 1) * v1 + (o2 * 18446744073709551616 + r2) = u2 * 18446744073709551616 + u1) := by
            show _ = _
            have := he.out
            rw [Int.sub_mul, Int.one_mul]; omega
          have hq00 := HQ00.out
          have HT2 : Hid (Word (t - 1)) := ⟨by omega, by omega⟩
          have HQ2 : Hid (Q ≤ t - 1) := by show _ ≤ _; omega
          have ewt : IntKind.u64.wrap (t - 1) = t - 1 := by rw [IntKind.wrap_u64]; omega
          clear hr2 ho2 hrw htw
          refine (A _).mono ?_
          rintro e w3 ⟨rfl, rfl⟩
          go_wp2_with fail
          go_roundw
          case rel => exact ⟨t - 1, r2, o2, _, rfl, rfl, rfl, rfl, HT2, HR2, p0, p1, HE2, HQ2⟩
          case measure => simp [intOf]; omega
        · have hab' : above2 t v0 r u0 = false := by simpa using hab
          rw [hab'] at T
          clear hab hab'
          go_wp2_with fail
          refine (T _).mono ?_
          rintro e w2 ⟨rfl, x, rfl⟩
          go_wp2_with fail
          go_ret
          exact ⟨t, rfl, ht.out, hq.out, _, rfl⟩
      · go_wp2_with fail
        go_ret
        exact ⟨t, rfl, ht.out, hq.out, k, rfl⟩
  · obtain rfl : u2 = v1 := by omega
    have A := fun W => add_any u1 u2 0 wu1 wu2 ⟨by decide, by decide⟩ W
    obtain ⟨rr, hrr⟩ : ∃ r, (u1 + u2 + 0) % 18446744073709551616 = r := ⟨_, rfl⟩
    obtain ⟨oo, hoo⟩ : ∃ o, (u1 + u2 + 0) / 18446744073709551616 = o := ⟨_, rfl⟩
    simp only [hrr, hoo] at A
    have HT0 : Hid (Word 18446744073709551615) := ⟨by decide, by decide⟩
    have HR0 : Hid (Word rr) := ⟨by omega, by omega⟩
    have o0 : 0 ≤ oo := by omega
    have o1 : oo ≤ 1 := by omega
    have HE0 : Hid (18446744073709551615 * u2 + (oo * 18446744073709551616 + rr) = u2 * 18446744073709551616 + u1) := by show _ = _; omega
    have HQ0 : Hid (Q ≤ 18446744073709551615) := by show _ ≤ _; omega
    have HA : Hid (∀ W, Calls Try.prog 73 #[.int .u64 u1, .int .u64 u2, .int .u64 0] W fun e w' => e = .returned (.tuple #[.int .u64 rr, .int .u64 oo]) ∧ w' = W) := A
    clear A hrr hoo
    go_enter Try.func89, Try.ntmps89
    go_wp2_with fail
    go_quiet (fail)
    go_wp2_with fail
    refine (HA.out _).mono ?_
    rintro e w2 ⟨rfl, hw2⟩
    rw [hw2]
    clear hw2
    go_wp2_with fail
    go_loopw [8, 9, 10] (fun tt rr oo wr => ∃ (t r o : Int) (q : Nat), tt = .int .u64 t ∧ rr = .int .u64 r ∧ oo = .int .u64 o ∧ wr = w.drewN q ∧ Hid (Word t) ∧ Hid (Word r) ∧ 0 ≤ o ∧ o ≤ 1 ∧ Hid (t * u2 + (o * 18446744073709551616 + r) = u2 * 18446744073709551616 + u1) ∧ Hid (Q ≤ t)) (fun tt _ _ _ => (intOf tt).toNat)
    case atStart => exact ⟨_, _, _, _, rfl, rfl, rfl, by first | rfl | rw [World.drewN_drewN], HT0, HR0, o0, o1, HE0, HQ0⟩
    case round =>
      obtain ⟨t, r, o, k, rfl, rfl, rfl, rfl, ht, hr, ho0, ho1, he, hq⟩ := hrel
      have ho : o = 0 ∨ o = 1 := by omega
      clear ho0 ho1
      rcases ho with rfl | rfl
      · have T := tooMuch_any t v0 r u0 ht.out wv0 hr.out wu0
        by_cases hab : above2 t v0 r u0 = true
        · rw [hab] at T
          have h1 : Q + 1 ≤ t := GU.out.less ht.out.1 (by have := he.out; omega) (by simpa [above2] using hab)
          have HT : Hid (∀ W, Calls Try.prog 94 #[.int .u64 t, .int .u64 v0, .int .u64 r, .int .u64 u0] W fun e w' => e = .returned (.bool true) ∧ ∃ n, w' = W.drewN n) := T
          clear T hab
          go_wp2_with fail
          refine (HT.out _).mono ?_
          rintro e w2 ⟨rfl, x, rfl⟩
          go_wp2_with fail
          have A := fun W => add_any r u2 0 hr.out wv1 ⟨by decide, by decide⟩ W
          obtain ⟨r2, hr2⟩ : ∃ x, (r + u2 + 0) % 18446744073709551616 = x := ⟨_, rfl⟩
          obtain ⟨o2, ho2⟩ : ∃ x, (r + u2 + 0) / 18446744073709551616 = x := ⟨_, rfl⟩
          simp only [hr2, ho2] at A
          have hrw := hr.out
          have htw := ht.out
          have hrw1 := hrw.1; have hrw2 := hrw.2; have htw1 := htw.1; have htw2 := htw.2
          have Wu2 := wv1
          have HR2 : Hid (Word r2) := ⟨by omega, by omega⟩
          have p0 : 0 ≤ o2 := by omega
          have p1 : o2 ≤ 1 := by omega
          have HE2 : Hid ((t - 1) * u2 + (o2 * 18446744073709551616 + r2) = u2 * 18446744073709551616 + u1) := by
            show _ = _
            have := he.out
            rw [Int.sub_mul, Int.one_mul]; omega
          have hq00 := HQ00.out
          have HT2 : Hid (Word (t - 1)) := ⟨by omega, by omega⟩
          have HQ2 : Hid (Q ≤ t - 1) := by show _ ≤ _; omega
          have ewt : IntKind.u64.wrap (t - 1) = t - 1 := by rw [IntKind.wrap_u64]; omega
          clear hr2 ho2 hrw htw
          refine (A _).mono ?_
          rintro e w3 ⟨rfl, rfl⟩
          go_wp2_with fail
          go_roundw
          case rel => exact ⟨t - 1, r2, o2, _, rfl, rfl, rfl, rfl, HT2, HR2, p0, p1, HE2, HQ2⟩
          case measure => simp [intOf]; omega
        · have hab' : above2 t v0 r u0 = false := by simpa using hab
          rw [hab'] at T
          clear hab hab'
          go_wp2_with fail
          refine (T _).mono ?_
          rintro e w2 ⟨rfl, x, rfl⟩
          go_wp2_with fail
          go_ret
          exact ⟨t, rfl, ht.out, hq.out, _, rfl⟩
      · go_wp2_with fail
        go_ret
        exact ⟨t, rfl, ht.out, hq.out, k, rfl⟩
end Go.Proofs.Ytkfpblonjinfmaa
