/-
  For every two whole numbers as plain data WholeOrder answers true, and leaves its arguments as they were; no condition.
-/
import Derived.Test.YtopmbfiepheepaaRows
import Derived.Test.YtopmbfiepheepaaOrderW4
import Derived.ProofKit
import Derived.OpenShut
import Derived.ShutString
import Derived.ChangeOld
import Derived.SizedLaws
import Derived.Lib.SmallJoins
namespace Go.Proofs.Ytopmbfiepheepaa.wholeOrder
open Go.ChangeShapes Go.WideShapes Go.ChangeAt Go.RowKit
set_option linter.unusedVariables false

theorem own : ownKnob Try.prog.godebug = none := by kernel_rfl
theorem laidOut : laidOutB Try.prog = true := by kernel_rfl
theorem bytes8 : Try.prog.bytesOf 23 = 8 := by kernel_rfl

set_option maxRecDepth 100000 in
theorem contract (H : Type) (enc : TypeId × Value → H) (W : World) (base : Nat) (args : Array Value) (ds gs : List (DataW H)) (before : List MemPlace)
    (hval : ∀ (j : Nat) t v, Try.f6.params[j]? = some t → args[j]? = some v → Value.okWide Try.prog W .any base t v)
    (hW : DataW.Whole enc Try.prog Try.f6.params.toList Rows.wholeOrderSpec.vars false W args.toList ds gs before) (hsz : (DataW.weightsEach Try.prog (Try.f6.params.toList ++ Rows.wholeOrderSpec.plain.varTypes Try.prog) (ds ++ gs)).all (· ≤ reachBytes) = true) :
    Calls Try.prog 6 args W fun e W' => ∃ v, e = .returned v ∧ Rows.wholeOrderSpec.post enc Try.prog Try.f6 false true false false W args v W' := by
  have hW' := hW
  obtain ⟨p, q, hA0, hV, rfl, hfz, hnd⟩ := hW
  have hA : DataW.TrodAll enc Try.prog W 0 (fun _ => true) true Try.f6.params.toList args.toList ds p := hA0
  rw [Try.params6] at hA hval hsz
  obtain ⟨v0, vs0, d0, ds0, p0, q0, hargs, rfl, rfl, h0, r0⟩ := trodAll_cons hA
  obtain ⟨v1, vs1, d1, ds1, p1, q1, rfl, rfl, rfl, h1, r1⟩ := trodAll_cons r0
  obtain ⟨rfl, rfl, rfl⟩ := trodAll_nil r1
  obtain rfl : args = #[v0, v1] := by cases args; simp_all
  obtain ⟨rfl, rfl⟩ := trodVars_none hV
  have k0 := h0
  have lt0 : ∀ x ∈ p0, x.block < W.heap.size := by obtain ⟨m, hm⟩ := k0; exact DataW.trod_lt m _ _ _ hm
  obtain ⟨u0, x0, y00, y01, m0, rfl, rfl, rfl, hy00, hy01⟩ := Go.Joins.open_agg2 Try.underlying32 (by kernel_rfl) (by kernel_rfl) (hval 0 32 v0 rfl rfl) h0
  obtain ⟨n0, hn0, -⟩ := DataW.trod_bool Try.underlying4 hy00
  obtain rfl : u0 = .bool n0 := by simpa using hn0
  obtain ⟨a0, len0, cap0, z0, hv0, s0, c0, e0⟩ : ∃ a len cap zs, x0 = .slice a len cap ∧ Sl W a len zs ∧ len ≤ cap ∧ (a = Option.none → len = 0 ∧ cap = 0) := by
    rcases open_ints Try.underlying22 Try.underlying23 (by kernel_rfl) hy01 with ⟨hcs, _⟩ | ⟨x, l, c, zs, hcs, _, hl, hm, hz, hx, hcell, hwz⟩
    · exact ⟨Option.none, 0, 0, [], by simpa using hcs, ⟨rfl, Limbs.nil, fun h => absurd h (by decide)⟩, Nat.le_refl _, fun _ => ⟨rfl, rfl⟩⟩
    · have hz' : zs.length = c := by simpa using hz
      refine ⟨some x, l, c, zs.take l, by simpa using hcs, ⟨by rw [List.length_take]; omega, fun z hz2 => word_of_wf (hwz z (List.mem_of_mem_take hz2)), fun h => ?_⟩, hl, fun h => by cases h⟩
      obtain ⟨bb, off, rfl, hc⟩ := ints_at hcell (by omega)
      refine ⟨bb, off, rfl, fun j hj => ?_⟩
      rw [hc j (by omega), List.getD_eq_getElem?_getD, List.getD_eq_getElem?_getD, List.getElem?_take_of_lt hj]
  subst hv0
  clear hn0
  have k1 := h1
  have lt1 : ∀ x ∈ p1, x.block < W.heap.size := by obtain ⟨m, hm⟩ := k1; exact DataW.trod_lt m _ _ _ hm
  obtain ⟨u1, x1, y10, y11, m1, rfl, rfl, rfl, hy10, hy11⟩ := Go.Joins.open_agg2 Try.underlying32 (by kernel_rfl) (by kernel_rfl) (hval 1 32 v1 rfl rfl) h1
  obtain ⟨n1, hn1, -⟩ := DataW.trod_bool Try.underlying4 hy10
  obtain rfl : u1 = .bool n1 := by simpa using hn1
  obtain ⟨a1, len1, cap1, z1, hv1, s1, c1, e1⟩ : ∃ a len cap zs, x1 = .slice a len cap ∧ Sl W a len zs ∧ len ≤ cap ∧ (a = Option.none → len = 0 ∧ cap = 0) := by
    rcases open_ints Try.underlying22 Try.underlying23 (by kernel_rfl) hy11 with ⟨hcs, _⟩ | ⟨x, l, c, zs, hcs, _, hl, hm, hz, hx, hcell, hwz⟩
    · exact ⟨Option.none, 0, 0, [], by simpa using hcs, ⟨rfl, Limbs.nil, fun h => absurd h (by decide)⟩, Nat.le_refl _, fun _ => ⟨rfl, rfl⟩⟩
    · have hz' : zs.length = c := by simpa using hz
      refine ⟨some x, l, c, zs.take l, by simpa using hcs, ⟨by rw [List.length_take]; omega, fun z hz2 => word_of_wf (hwz z (List.mem_of_mem_take hz2)), fun h => ?_⟩, hl, fun h => by cases h⟩
      obtain ⟨bb, off, rfl, hc⟩ := ints_at hcell (by omega)
      refine ⟨bb, off, rfl, fun j hj => ?_⟩
      rw [hc j (by omega), List.getD_eq_getElem?_getD, List.getD_eq_getElem?_getD, List.getElem?_take_of_lt hj]
  subst hv1
  clear hn1
  clear hA0
  refine (order4_walk n0 a0 len0 cap0 z0 n1 a1 len1 cap1 z1 W s0 c0 e0 s1 c1 e1).mono fun e W' ⟨he, bel⟩ => ?_
  subst he
  exact ⟨_, rfl, _, _, _, [], _, [], hW', trodAll_mk1 (shut_bool Try.underlying4 _), (trodAll_cons_mk (Below.trod laidOut (by kernel_rfl) (of_decide_eq_true (by kernel_rfl)) k0 bel lt0) (trodAll_cons_mk (Below.trod laidOut (by kernel_rfl) (of_decide_eq_true (by kernel_rfl)) k1 bel lt1) trodAll_mk0)), rfl, bel.frame _, fun h => by cases h⟩

set_option maxRecDepth 100000 in
theorem lifted (os : Os) (started : os.Started) (H : Type) (enc : TypeId × Value → H) :
    ReturnsInHanded {} Try.checked os 6 .any (Rows.wholeOrderSpec.pre6 enc Try.prog Try.f6 Rows.wholeOrderRow.domain false) (Rows.wholeOrderSpec.post enc Try.prog Try.f6 false true false false) := by
  refine returnsInHanded_of_change_sized (C := Try.checked) own started (by kernel_rfl) Try.func6
    (ChangeSpec.witness6 (enc := enc) (C := Try.checked) false ⟨#[], #[.agg #[.bool false, .slice none 0 0], .agg #[.bool false, .slice none 0 0]], []⟩ 8 (by kernel_rfl) (by kernel_rfl) (by kernel_rfl) (by kernel_rfl)) ?_
  intro W base args ds gs before hval0 hW _ hsz0 _
  exact contract H enc W base args ds gs before hval0 hW hsz0

theorem over : Rows.wholeOrderRow.holds Try.pinned (OpenSpec.ofChange Rows.wholeOrderSpec) :=
  OpenClaim.holds_of_wide 6 Try.f6 rfl rfl rfl rfl rfl rfl rfl ⟨rfl, rfl, rfl, rfl, rfl⟩ rfl rfl rfl rfl rfl (by kernel_rfl) Try.func6 (by kernel_rfl)
    (of_decide_eq_true (by kernel_rfl)) (by unfold Func.isWrapper; first | (rw [if_pos (by decide +kernel)]; kernel_rfl) | (rw [if_neg (by decide +kernel)]; exact ⟨rfl, rfl⟩))
    (fun os started H enc _ => lifted os started H enc)
end Go.Proofs.Ytopmbfiepheepaa.wholeOrder
namespace Go.Proofs.Ytopmbfiepheepaa
theorem wholeOrder_holds : Rows.WholeOrderSaid := wholeOrder.over
#print axioms wholeOrder_holds
end Go.Proofs.Ytopmbfiepheepaa
