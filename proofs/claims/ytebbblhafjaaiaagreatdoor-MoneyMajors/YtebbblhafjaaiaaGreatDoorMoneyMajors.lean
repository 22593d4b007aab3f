/-
  For every currency, all units and every ratio that is said MoneyMajors returns true; what is handed in reads as before. Conditions: the listed variables hold what the program's text lays.
-/
import Derived.Test.YtebbblhafjaaiaaGreatDoorCards
import Derived.Test.YtebbblhafjaaiaaGreatDoorTie
import Derived.Lay
import Derived.LaidLaws
import Derived.MakeChecks
import Derived.SevenTiedAt
import Derived.WalkKit
import Derived.Test.YtebbblhafjaaiaaGreatDoorMajN9
import Derived.Test.YtebbblhafjaaiaaGreatDoorMgBb
import Derived.ProofKit
import Derived.OpenShut
import Derived.ShutString
import Derived.ChangeOld
import Derived.SizedLaws
import Derived.Lib.SmallJoins
namespace Go.Proofs.YtebbblhafjaaiaaGreatDoor
set_option linter.unusedVariables false
theorem moneyMajors_walk0 (s0 : ByteArray) (q0 u : Int) (n2 : Bool) (a2 : Option Addr) (len2 cap2 : Nat) (z2 : List Int) (ab2 : Option Addr) (lenb2 capb2 : Nat) (zb2 : List Int) (W : World) (wq : (Lit.int .i64 q0).wf = true) (wu : (Lit.int .i64 u).wf = true) (s2 : Sl W a2 len2 z2) (sb2 : Sl W ab2 lenb2 zb2) (c2 : len2 ≤ cap2) (cb2 : lenb2 ≤ capb2) (b2 : cap2 ≤ 17592186043904) (bb2 : capb2 ≤ 17592186043904) (hP : Pt W) (hT : Tm W) :
    Calls Tryz.prog 8 #[.agg #[.string s0, .int .i64 q0], .int .i64 u, .agg #[.bool n2, .slice a2 len2 cap2, .slice ab2 lenb2 capb2]] W fun e W' => e = .returned (.bool true) ∧ Go.RowKit.Below W.heap.size W W' := by
  have h := majors_walk s0.data.toList q0 u n2 a2 ab2 len2 cap2 lenb2 capb2 z2 zb2 W (b64_of_wf wu).1 (b64_of_wf wu).2 s2 sb2 c2 cb2 (by omega) (by omega) hP hT
  rw [ba_eta] at h
  exact h
end Go.Proofs.YtebbblhafjaaiaaGreatDoor
namespace Go.Proofs.YtebbblhafjaaiaaGreatDoor.moneyMajors
open Go.ChangeShapes Go.WideShapes Go.ChangeAt Go.RowKit
set_option linter.unusedVariables false

theorem own : ownKnob Tryz.prog.godebug = none := by kernel_rfl
theorem laidOut : laidOutB Tryz.prog = true := by kernel_rfl
theorem bytes8 : Tryz.prog.bytesOf 94 = 8 := by kernel_rfl

set_option maxRecDepth 100000 in
theorem contract (H : Type) (enc : TypeId × Value → H) (W : World) (base : Nat) (args : Array Value) (ds gs : List (DataW H)) (before : List MemPlace)
    (hval : ∀ (j : Nat) t v, Tryz.f8.params[j]? = some t → args[j]? = some v → Value.okWide Tryz.prog W .any base t v)
    (hW : DataW.Whole enc Tryz.prog Tryz.f8.params.toList Rows.moneyMajorsSpec.vars false W args.toList ds gs before) (hsz : (DataW.weightsEach Tryz.prog (Tryz.f8.params.toList ++ Rows.moneyMajorsSpec.plain.varTypes Tryz.prog) (ds ++ gs)).all (· ≤ reachBytes) = true) (hL0 : laidMetH Tryz.prog Rows.moneyMajorsRow.laid W) :
    Calls Tryz.prog 8 args W fun e W' => ∃ v, e = .returned v ∧ Rows.moneyMajorsSpec.post enc Tryz.prog Tryz.f8 false true false false W args v W' := by
  rw [MakeChecks.laidMetH_plain _ _ _ (by kernel_rfl)] at hL0
  have tb0 := by first | exact ptOf hL0 | exact ptOf hL0.tail | exact ptOf hL0.tail.tail | exact ptOf hL0.tail.tail.tail | exact ptOf hL0.tail.tail.tail.tail | exact ptOf hL0.tail.tail.tail.tail.tail | exact ptOf hL0.tail.tail.tail.tail.tail.tail | exact ptOf hL0.tail.tail.tail.tail.tail.tail.tail
  have tb1 := by first | exact tmOf hL0 | exact tmOf hL0.tail | exact tmOf hL0.tail.tail | exact tmOf hL0.tail.tail.tail | exact tmOf hL0.tail.tail.tail.tail | exact tmOf hL0.tail.tail.tail.tail.tail | exact tmOf hL0.tail.tail.tail.tail.tail.tail | exact tmOf hL0.tail.tail.tail.tail.tail.tail.tail
  have hW' := hW
  obtain ⟨p, q, hA0, hV, rfl, hfz, hnd⟩ := hW
  have hA : DataW.TrodAll enc Tryz.prog W 0 (fun _ => true) true Tryz.f8.params.toList args.toList ds p := hA0
  rw [Tryz.params8] at hA hval hsz
  obtain ⟨v0, vs0, d0, ds0, p0, q0, hargs, rfl, rfl, h0, r0⟩ := trodAll_cons hA
  obtain ⟨v1, vs1, d1, ds1, p1, q1, rfl, rfl, rfl, h1, r1⟩ := trodAll_cons r0
  obtain ⟨v2, vs2, d2, ds2, p2, q2, rfl, rfl, rfl, h2, r2⟩ := trodAll_cons r1
  obtain ⟨rfl, rfl, rfl⟩ := trodAll_nil r2
  obtain rfl : args = #[v0, v1, v2] := by cases args; simp_all
  obtain ⟨rfl, rfl⟩ := trodVars_none hV
  have k0 := h0
  have lt0 : ∀ x ∈ p0, x.block < W.heap.size := by obtain ⟨m, hm⟩ := k0; exact DataW.trod_lt m _ _ _ hm
  obtain ⟨u0, x0, y00, y01, m0, rfl, rfl, rfl, hy00, hy01⟩ := Go.Joins.open_agg2 Tryz.underlying81 (by kernel_rfl) (by kernel_rfl) (hval 0 81 v0 rfl rfl) h0
  obtain ⟨s0, ha0, hd0, wa0⟩ := DataW.trod_string Tryz.underlying9 hy00
  obtain ⟨q0, hq0, he0, wq0⟩ := DataW.trod_int Tryz.underlying3 hy01
  obtain rfl : u0 = .string s0 := by simpa using ha0
  obtain rfl : x0 = .int .i64 q0 := by simpa using hq0
  obtain ⟨a1, rfl, rfl, rfl, w1⟩ := open_int Tryz.underlying2 (hval 1 2 v1 rfl rfl) h1
  have k2 := h2
  have lt2 : ∀ x ∈ p2, x.block < W.heap.size := by obtain ⟨m, hm⟩ := k2; exact DataW.trod_lt m _ _ _ hm
  obtain ⟨u2, x2, t2, y20, y21, y22, m2, rfl, rfl, rfl, hy20, hy21, hy22⟩ := Go.Joins.open_agg3 Tryz.underlying82 (by kernel_rfl) (by kernel_rfl) (hval 2 82 v2 rfl rfl) h2
  obtain ⟨n2, hn2, -⟩ := DataW.trod_bool Tryz.underlying4 hy20
  obtain rfl : u2 = .bool n2 := by simpa using hn2
  obtain ⟨a2, len2, cap2, z2, hv2, s2, c2, e2, b2⟩ : ∃ a len cap zs, x2 = .slice a len cap ∧ Sl W a len zs ∧ len ≤ cap ∧ (a = Option.none → len = 0 ∧ cap = 0) ∧ cap ≤ 17592186043904 := by
    rcases open_ints Tryz.underlying35 Tryz.underlying94 (by kernel_rfl) hy21 with ⟨hcs, _⟩ | ⟨x, l, c, zs, hcs, _, hl, hm, hz, hx, hcell, hwz⟩
    · exact ⟨Option.none, 0, 0, [], by simpa using hcs, ⟨rfl, Limbs.nil, fun h => absurd h (by decide)⟩, Nat.le_refl _, fun _ => ⟨rfl, rfl⟩, by decide⟩
    · have hz' : zs.length = c := by simpa using hz
      have hd : y21.1 = DataW.slice (lits .u64 (zs.take l)) (lits .u64 (zs.drop l)) := congrArg Prod.fst hx
      have hw1 : ((lits (H := H) .u64 (zs.take l)).length + (lits (H := H) .u64 (zs.drop l)).length) * Tryz.prog.bytesOf 94 ∈ DataW.weightsEach Tryz.prog [4, 35, 35] [y20.1, y21.1, y22.1] :=
        DataW.weights_mem_each (j := 1) (t := 35) (d := y21.1) rfl rfl _ (by rw [hd]; simp [DataW.weights, Tryz.underlying35])
      have hw2 : ((lits (H := H) .u64 (zs.take l)).length + (lits (H := H) .u64 (zs.drop l)).length) * Tryz.prog.bytesOf 94 ∈ DataW.weights Tryz.prog 82 (DataW.agg [y20.1, y21.1, y22.1]) := by
        simp only [DataW.weights, Tryz.underlying82]
        exact hw1
      have hs := List.all_eq_true.1 hsz _ (DataW.weights_mem_each (j := 2) (t := 82) (d := DataW.agg [y20.1, y21.1, y22.1]) rfl rfl _ hw2)
      rw [bytes8] at hs
      have hcap : c ≤ 17592186043904 := by
        simp only [lits, List.length_map, List.length_take, List.length_drop, reachBytes, decide_eq_true_eq] at hs
        omega
      refine ⟨some x, l, c, zs.take l, by simpa using hcs, ⟨by rw [List.length_take]; omega, fun z hz2 => word_of_wf (hwz z (List.mem_of_mem_take hz2)), fun h => ?_⟩, hl, (fun h => by cases h), hcap⟩
      obtain ⟨bb, off, rfl, hc⟩ := ints_at hcell (by omega)
      refine ⟨bb, off, rfl, fun j hj => ?_⟩
      rw [hc j (by omega), List.getD_eq_getElem?_getD, List.getD_eq_getElem?_getD, List.getElem?_take_of_lt hj]
  subst hv2
  obtain ⟨ab2, lenb2, capb2, zb2, hvb2, sb2, cb2, eb2, bb2⟩ : ∃ a len cap zs, t2 = .slice a len cap ∧ Sl W a len zs ∧ len ≤ cap ∧ (a = Option.none → len = 0 ∧ cap = 0) ∧ cap ≤ 17592186043904 := by
    rcases open_ints Tryz.underlying35 Tryz.underlying94 (by kernel_rfl) hy22 with ⟨hcs, _⟩ | ⟨x, l, c, zs, hcs, _, hl, hm, hz, hx, hcell, hwz⟩
    · exact ⟨Option.none, 0, 0, [], by simpa using hcs, ⟨rfl, Limbs.nil, fun h => absurd h (by decide)⟩, Nat.le_refl _, fun _ => ⟨rfl, rfl⟩, by decide⟩
    · have hz' : zs.length = c := by simpa using hz
      have hd : y22.1 = DataW.slice (lits .u64 (zs.take l)) (lits .u64 (zs.drop l)) := congrArg Prod.fst hx
      have hw1 : ((lits (H := H) .u64 (zs.take l)).length + (lits (H := H) .u64 (zs.drop l)).length) * Tryz.prog.bytesOf 94 ∈ DataW.weightsEach Tryz.prog [4, 35, 35] [y20.1, y21.1, y22.1] :=
        DataW.weights_mem_each (j := 2) (t := 35) (d := y22.1) rfl rfl _ (by rw [hd]; simp [DataW.weights, Tryz.underlying35])
      have hw2 : ((lits (H := H) .u64 (zs.take l)).length + (lits (H := H) .u64 (zs.drop l)).length) * Tryz.prog.bytesOf 94 ∈ DataW.weights Tryz.prog 82 (DataW.agg [y20.1, y21.1, y22.1]) := by
        simp only [DataW.weights, Tryz.underlying82]
        exact hw1
      have hs := List.all_eq_true.1 hsz _ (DataW.weights_mem_each (j := 2) (t := 82) (d := DataW.agg [y20.1, y21.1, y22.1]) rfl rfl _ hw2)
      rw [bytes8] at hs
      have hcap : c ≤ 17592186043904 := by
        simp only [lits, List.length_map, List.length_take, List.length_drop, reachBytes, decide_eq_true_eq] at hs
        omega
      refine ⟨some x, l, c, zs.take l, by simpa using hcs, ⟨by rw [List.length_take]; omega, fun z hz2 => word_of_wf (hwz z (List.mem_of_mem_take hz2)), fun h => ?_⟩, hl, (fun h => by cases h), hcap⟩
      obtain ⟨bb, off, rfl, hc⟩ := ints_at hcell (by omega)
      refine ⟨bb, off, rfl, fun j hj => ?_⟩
      rw [hc j (by omega), List.getD_eq_getElem?_getD, List.getD_eq_getElem?_getD, List.getElem?_take_of_lt hj]
  subst hvb2
  clear hn2
  clear hA0
  refine (moneyMajors_walk0 s0 q0 a1 n2 a2 len2 cap2 z2 ab2 lenb2 capb2 zb2 W wq0 w1 s2 sb2 c2 cb2 b2 bb2 tb0 tb1).mono fun e W' ⟨he, bel⟩ => ?_
  subst he
  exact ⟨_, rfl, _, _, _, [], _, [], hW', trodAll_mk1 (shut_bool Tryz.underlying4 _), (trodAll_cons_mk (Below.trod laidOut (by kernel_rfl) (of_decide_eq_true (by kernel_rfl)) k0 bel lt0) (trodAll_cons_mk (shut_int Tryz.underlying2 w1) (trodAll_cons_mk (Below.trod laidOut (by kernel_rfl) (of_decide_eq_true (by kernel_rfl)) k2 bel lt2) trodAll_mk0))), rfl, bel.frame _, fun h => by cases h⟩

set_option maxRecDepth 100000 in
theorem lifted (os : Os) (started : os.Started) (H : Type) (enc : TypeId × Value → H) :
    ReturnsInHanded {} Tryz.checked os 8 .any (fun w args => (Rows.moneyMajorsSpec.pre enc Tryz.prog Tryz.f8 [] false w args ∧ laidMetH Tryz.prog Rows.moneyMajorsRow.laid w) ∧ sizedMet enc Tryz.prog Tryz.f8 (OpenSpec.ofChange Rows.moneyMajorsSpec) false w args)
      (Rows.moneyMajorsSpec.post enc Tryz.prog Tryz.f8 false true false false) := by
  refine returnsInHanded_of_change_and (C := Tryz.checked) (X := fun w _ => laidMetH Tryz.prog Rows.moneyMajorsRow.laid w) (fun _ _ _ hh h => h.of_heap hh) own started (by kernel_rfl) Tryz.func8
    (ChangeSpec.witness_shaped (enc := enc) (C := Tryz.checked) (os := os) (X := fun w _ => laidMetH Tryz.prog Rows.moneyMajorsRow.laid w) false (World.laidAll Tryz.prog os Rows.moneyMajorsRow.laid) #[.agg #[.string ⟨#[]⟩, .int .i64 0], .int .i64 0, .agg #[.bool false, .slice none 0 0, .slice none 0 0]] 8 (World.laidAll_os _ _ _)
      (World.shaped_of_ZipB (by kernel_rfl) (by kernel_rfl)) (by kernel_rfl) (by kernel_rfl) (by kernel_rfl)
      (by rw [MakeChecks.laidMetH_plain _ _ _ (by kernel_rfl)]; exact laidMet_laidAll _ (by kernel_rfl) (by kernel_rfl))) ?_
  intro W base args ds gs before hval0 hW _ hsz0 hL _
  exact contract H enc W base args ds gs before hval0 hW hsz0 hL

theorem over : Rows.moneyMajorsRow.holds Tryz.pinned (OpenSpec.ofChange Rows.moneyMajorsSpec) :=
  OpenClaim.holds_of_wide 8 Tryz.f8 rfl rfl rfl rfl rfl rfl rfl ⟨rfl, rfl, rfl, rfl, rfl⟩ rfl rfl rfl rfl rfl (by kernel_rfl) Tryz.func8 (by kernel_rfl)
    (of_decide_eq_true (by kernel_rfl)) (by unfold Func.isWrapper; first | (rw [if_pos (by decide +kernel)]; kernel_rfl) | (rw [if_neg (by decide +kernel)]; exact ⟨rfl, rfl⟩))
    (fun os started H enc _ => lifted os started H enc)
end Go.Proofs.YtebbblhafjaaiaaGreatDoor.moneyMajors
namespace Go.Proofs.YtebbblhafjaaiaaGreatDoor
theorem moneyMajors_plain (f : FuncId) (fn : Func) (hf : Tryz.pinned.checked.prog.funcNamed "tollbook/tollbooklaw09.MoneyMajors" = some f) (hfn : Tryz.pinned.checked.prog.funcs[f]? = some fn) :
    false = Tryz.pinned.checked.prog.looks [] ∧ ∀ (j : Nat) t, fn.params[j]? = some t → Tryz.pinned.checked.prog.wantsStandIn t = false := by
  obtain rfl : f = 8 := Option.some.inj ((show Tryz.prog.funcNamed "tollbook/tollbooklaw09.MoneyMajors" = some 8 by kernel_rfl).symm.trans hf) |>.symm
  obtain rfl : fn = Tryz.f8 := (Option.some.inj (Tryz.func8.symm.trans hfn)).symm
  refine ⟨by kernel_rfl, fun j t ht => ?_⟩
  rw [Tryz.params8] at ht
  have hm : t ∈ [81, 2, 82] := by have := Array.mem_of_getElem? ht; simp at this; simp; omega
  have hall : ([81, 2, 82].all fun u => !Tryz.prog.wantsStandIn u) = true := by kernel_rfl
  exact (show Tryz.prog.wantsStandIn t = false by simpa using List.all_eq_true.1 hall t hm)
theorem moneyMajorsCard_holds : Rows.MoneyMajorsCardSaid :=
  Claim7.holds_tied_plain_at .later [] _ _ _ _ moneyMajors.over (fun _ h => by cases h) (by kernel_rfl) (fun _ h => by cases h) moneyMajors_row_tie rfl ⟨rfl, rfl⟩ (by kernel_rfl) rfl moneyMajors_plain (by kernel_rfl)
#print axioms moneyMajorsCard_holds
end Go.Proofs.YtebbblhafjaaiaaGreatDoor
