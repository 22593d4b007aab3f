/-
  LimbRounds: for any three words the statement's Go text returns true: what was added is subtracted again, with as much borrowed as was carried, and a product with less than a factor more is divided again. No condition.
-/
import Derived.Test.YtkgbhiccjbnldabRows
import Derived.Test.YtkgbhiccjbnldabDiv
import Derived.WalkKit
import Derived.ProofKit
import Derived.OpenShut
import Derived.ShutString
namespace Go.Proofs.Ytkgbhiccjbnldab.limbRounds
open Go.ChangeShapes Go.WideShapes Go.ChangeAt Go.RowKit
open Go.ChangeMaps (open_string shut_string)
set_option linter.unusedVariables false

theorem own : ownKnob Try.prog.godebug = none := by kernel_rfl

theorem more_lt {c b : Int} (hc : Word c) (hb : Word b) (h : ¬ b = 0) : Word (c % b) ∧ c % b < b := by
  obtain ⟨c1, c2⟩ := hc; obtain ⟨b1, b2⟩ := hb
  have h1 := Int.emod_nonneg c h
  have h2 := Int.emod_lt_of_pos c (b := b) (by omega)
  exact ⟨⟨h1, by omega⟩, h2⟩

/-- A product and less than a factor more: its two words, divided again. -/
theorem prod_back {a b m : Int} (ha : Word a) (hb : Word b) (hm : 0 ≤ m) (hmb : m < b) :
    a * b / 18446744073709551616 + (a * b % 18446744073709551616 + m) / 18446744073709551616 < b ∧ a * b / 18446744073709551616 < b ∧ 0 ≤ a * b / 18446744073709551616 ∧
    (a * b / 18446744073709551616 + (a * b % 18446744073709551616 + m) / 18446744073709551616) * 18446744073709551616 + (a * b % 18446744073709551616 + m) % 18446744073709551616 = a * b + m := by
  obtain ⟨a1, a2⟩ := ha; obtain ⟨b1, b2⟩ := hb
  have h1 : 0 ≤ a * b := Int.mul_nonneg a1 b1
  have h2 : a * b ≤ 18446744073709551615 * b := Int.mul_le_mul_of_nonneg_right (by omega) b1
  generalize a * b = p at *
  omega

theorem walk (a0 : Int) (a1 : Int) (a2 : Int) (w0 : (Lit.int .u64 a0).wf = true) (w1 : (Lit.int .u64 a1).wf = true) (w2 : (Lit.int .u64 a2).wf = true) (w : World) :
    Calls Try.prog 3 #[.int .u64 a0, .int .u64 a1, .int .u64 a2] w fun e w' => e = .returned (.bool true) ∧ Grown w w' := by
  have ha := word_of_wf w0; have hb := word_of_wf w1; have hc := word_of_wf w2
  have ha' := ha; have hb' := hb; have hc' := hc
  obtain ⟨x1, x2⟩ := ha'; obtain ⟨y1, y2⟩ := hb'; obtain ⟨z1, z2⟩ := hc'
  have e1 : ((a0 + a1 + a2) % 18446744073709551616 - a1 - a2) % 18446744073709551616 = a0 := by omega
  have e2 : -(((a0 + a1 + a2) % 18446744073709551616 - a1 - a2) / 18446744073709551616) = (a0 + a1 + a2) / 18446744073709551616 := by omega
  have e3 : ¬ (2 < (a0 + a1 + a2) / 18446744073709551616) := by omega
  clear w0 w1 w2
  obtain ⟨n, hn⟩ : ∃ n, (a0 + a1 + a2) / 18446744073709551616 = n := ⟨_, rfl⟩
  obtain ⟨s, hs⟩ : ∃ s, (a0 + a1 + a2) % 18446744073709551616 = s := ⟨_, rfl⟩
  have hsw : Word s := by rw [← hs]; exact word_mod _
  rw [hn, hs] at e2
  rw [hs] at e1
  rw [hn] at e3
  have A := add_any a0 a1 a2 ha hb hc w
  have B := sub_any s a1 a2 hsw hb hc w
  rw [hs, hn] at A
  rw [e1, e2] at B
  clear hn hs e1 e2
  have g0 : (a0 != a0) = false := by simp
  have g1 : (n != n) = false := by simp
  by_cases h0 : a1 = 0
  · subst h0
    go_enter Try.func3, Try.ntmps3
    go_wp2_with fail
    refine A.mono ?_
    rintro e w' ⟨rfl, rfl⟩
    go_wp2_with fail
    refine B.mono ?_
    rintro e w' ⟨rfl, rfl⟩
    go_wp2_with fail
    refine (mul_any a0 0 ha hb _).mono ?_
    rintro e w' ⟨rfl, rfl⟩
    go_wp2_with fail
    go_ret
    exact ⟨rfl, Grown.refl _⟩
  · obtain ⟨m1, m2⟩ := more_lt hc hb h0
    have g2 : (a1 == 0) = false := by simp [h0]
    obtain ⟨m, hm⟩ : ∃ m, a2 % a1 = m := ⟨_, rfl⟩
    rw [hm] at m1 m2
    have m1' := m1
    obtain ⟨m3, m4⟩ := m1'
    obtain ⟨p1, p2, p3, p4⟩ := prod_back ha hb m3 m2
    have Z : Word 0 := ⟨by omega, by omega⟩
    have M := mul_any a0 a1 ha hb w
    obtain ⟨hh, hh1⟩ : ∃ h, a0 * a1 / 18446744073709551616 = h := ⟨_, rfl⟩
    obtain ⟨ll, ll1⟩ : ∃ l, a0 * a1 % 18446744073709551616 = l := ⟨_, rfl⟩
    have hlw : Word ll := by rw [← ll1]; exact word_mod _
    have C := add_any ll m 0 hlw m1 Z w
    rw [Int.add_zero] at C
    rw [hh1, ll1] at M p1 p4
    rw [hh1] at p2 p3
    obtain ⟨up, up1⟩ : ∃ u, (ll + m) / 18446744073709551616 = u := ⟨_, rfl⟩
    obtain ⟨lo, lo1⟩ : ∃ u, (ll + m) % 18446744073709551616 = u := ⟨_, rfl⟩
    have hlo : Word lo := by rw [← lo1]; exact word_mod _
    have hup : 0 ≤ up := by obtain ⟨_, _⟩ := hlw; omega
    rw [up1, lo1] at C p4
    rw [up1] at p1
    have D := div_ok (hh + up) lo a1 ⟨by omega, by omega⟩ hlo hb p1 w
    rw [p4, Int.add_comm (a0 * a1) m, Int.mul_comm a0 a1, Int.add_mul_ediv_left _ _ h0, Int.add_mul_emod_self_left, Int.ediv_eq_zero_of_lt m3 m2, Int.emod_eq_of_lt m3 m2, Int.zero_add] at D
    clear p4 hh1 ll1 up1 lo1
    have q1 : hh + up < 18446744073709551616 := by omega
    have g3 : (m == m) = true := by simp
    have g4 : (a0 == a0) = true := by simp
    have hmt : a2.tmod a1 = m := by rw [← hm, Int.tmod_eq_emod_of_nonneg z1]
    go_enter Try.func3, Try.ntmps3
    go_wp2_with fail
    refine A.mono ?_
    rintro e w' ⟨rfl, rfl⟩
    go_wp2_with fail
    refine B.mono ?_
    rintro e w' ⟨rfl, rfl⟩
    go_wp2_with fail
    refine M.mono ?_
    rintro e w' ⟨rfl, rfl⟩
    go_wp2_with fail
    refine C.mono ?_
    rintro e w' ⟨rfl, rfl⟩
    go_wp2_with fail
    refine D.mono ?_
    rintro e w' ⟨rfl, nn, rfl⟩
    go_wp2_with fail
    go_ret
    exact ⟨rfl, by repeat (first | exact Grown.refl _ | apply Grown.drew)⟩

set_option maxRecDepth 100000 in
theorem lifted (os : Os) (started : os.Started) (H : Type) (enc : TypeId × Value → H) :
    ReturnsInHanded {} Try.checked os 3 .any (Rows.limbRoundsSpec.pre6 enc Try.prog Try.f3 Rows.limbRoundsRow.domain false) (Rows.limbRoundsSpec.post enc Try.prog Try.f3 false true false false) := by
  refine returnsInHanded_of_change (C := Try.checked) own started (by kernel_rfl) Try.func3
    (ChangeSpec.witness6 (enc := enc) (C := Try.checked) false ⟨#[], #[.int .u64 0, .int .u64 0, .int .u64 0], []⟩ 8 (by kernel_rfl) (by kernel_rfl) (by kernel_rfl) (by kernel_rfl)) ?_
  intro W base args ds gs before hval0 hW hcnd _
  have hval : ∀ (j : Nat) t v, Try.f3.params[j]? = some t → args[j]? = some v → Value.okWide Try.prog W .any base t v := hval0
  have hW' := hW
  obtain ⟨p, q, hA0, hV, rfl, hfz, hnd⟩ := hW
  have hA : DataW.TrodAll enc Try.prog W 0 (fun _ => true) true Try.f3.params.toList args.toList ds p := hA0
  rw [Try.params3] at hA hval
  obtain ⟨v0, vs0, d0, ds0, p0, q0, hargs, rfl, rfl, h0, r0⟩ := trodAll_cons hA
  obtain ⟨v1, vs1, d1, ds1, p1, q1, rfl, rfl, rfl, h1, r1⟩ := trodAll_cons r0
  obtain ⟨v2, vs2, d2, ds2, p2, q2, rfl, rfl, rfl, h2, r2⟩ := trodAll_cons r1
  obtain ⟨rfl, rfl, rfl⟩ := trodAll_nil r2
  obtain rfl : args = #[v0, v1, v2] := by cases args; simp_all
  obtain ⟨rfl, rfl⟩ := trodVars_none hV
  obtain ⟨a0, rfl, rfl, rfl, w0⟩ := open_int Try.underlying22 (hval 0 22 v0 rfl rfl) h0
  obtain ⟨a1, rfl, rfl, rfl, w1⟩ := open_int Try.underlying22 (hval 1 22 v1 rfl rfl) h1
  obtain ⟨a2, rfl, rfl, rfl, w2⟩ := open_int Try.underlying22 (hval 2 22 v2 rfl rfl) h2
  clear hA0 hval0
  simp only [List.append_nil] at hW'
  refine (walk a0 a1 a2 w0 w1 w2 W).mono fun e W' ⟨he, hg⟩ => ?_
  subst he
  exact ⟨_, rfl, post_of_same (pa := []) (pv := []) hW' (fun _ _ _ => (trodAll_cons_mk (shut_bool Try.underlying4 _) trodAll_mk0)) (fun sp _ => (trodAll_cons_mk (shut_int Try.underlying22 w0) (trodAll_cons_mk (shut_int Try.underlying22 w1) (trodAll_cons_mk (shut_int Try.underlying22 w2) trodAll_mk0)))) (fun _ _ => rfl) rfl
    (hg.frame _) hg.2.1 (ok_one (by kernel_rfl) rfl (okWide_bool_mk Try.underlying4 _))⟩

theorem over : Rows.limbRoundsRow.holds Try.pinned (OpenSpec.ofChange Rows.limbRoundsSpec) :=
  OpenClaim.holds_of_wide 3 Try.f3 rfl rfl rfl rfl rfl rfl rfl ⟨rfl, rfl, rfl, rfl, rfl⟩ rfl rfl rfl rfl rfl (by kernel_rfl) Try.func3 (by kernel_rfl)
    (of_decide_eq_true (by kernel_rfl)) (by unfold Func.isWrapper; first | (rw [if_pos (by decide +kernel)]; kernel_rfl) | (rw [if_neg (by decide +kernel)]; exact ⟨rfl, rfl⟩))
    (fun os started H enc _ => lifted os started H enc)

end Go.Proofs.Ytkgbhiccjbnldab.limbRounds
namespace Go.Proofs.Ytkgbhiccjbnldab
theorem limbRounds_holds : Rows.LimbRoundsSaid := limbRounds.over
#print axioms limbRounds_holds
end Go.Proofs.Ytkgbhiccjbnldab
