/-
  ScheduleNil (DOC.md, R4): of no schedule, and of one that Of did not make, nothing comes: At and Slope answer ErrNil, Next none, Pieces none. For any ratio.
-/
import Derived.Test.YtenmkbofpmbedaaGreatDoorCards
import Derived.Test.YtenmkbofpmbedaaGreatDoorTie
import Derived.Lay
import Derived.LaidLaws
import Derived.MakeChecks
import Derived.SevenTiedAt
import Derived.WalkKit
import Derived.Test.YtenmkbofpmbedaaGreatDoorScG
import Derived.Test.YtenmkbofpmbedaaGreatDoorMgAm
import Derived.ProofKit
import Derived.OpenShut
import Derived.ShutString
import Derived.ChangeOld
import Derived.SizedLaws
import Derived.Lib.SmallJoins
namespace Go.Proofs.YtenmkbofpmbedaaGreatDoor
set_option linter.unusedVariables false
theorem scheduleNil_walk0 (n0 : Bool) (a0 : Option Addr) (len0 cap0 : Nat) (z0 : List Int) (ab0 : Option Addr) (lenb0 capb0 : Nat) (zb0 : List Int) (W : World) (h0 : Ri W a0 len0 cap0 z0 ab0 lenb0 capb0 zb0) (e0 : a0 = none → len0 = 0 ∧ cap0 = 0) (eb0 : ab0 = none → lenb0 = 0 ∧ capb0 = 0) (l0 : len0 ≤ 17592186043904) (m0 : lenb0 ≤ 17592186043904) (hT : Tn W) :
    Calls Tryz.prog 6 #[.agg #[.bool n0, .slice a0 len0 cap0, .slice ab0 lenb0 capb0]] W fun e W' => e = .returned (.bool true) ∧ Go.RowKit.Below W.heap.size W W' :=
  nil_walk ⟨n0, a0, len0, cap0, z0, ab0, lenb0, capb0, zb0⟩ W hT h0 ⟨l0, m0⟩
end Go.Proofs.YtenmkbofpmbedaaGreatDoor
namespace Go.Proofs.YtenmkbofpmbedaaGreatDoor.scheduleNil
open Go.ChangeShapes Go.WideShapes Go.ChangeAt Go.RowKit
set_option linter.unusedVariables false

theorem own : ownKnob Tryz.prog.godebug = none := by kernel_rfl
theorem laidOut : laidOutB Tryz.prog = true := by kernel_rfl
theorem bytes8 : Tryz.prog.bytesOf 125 = 8 := by kernel_rfl

set_option maxRecDepth 100000 in
theorem contract (H : Type) (enc : TypeId × Value → H) (W : World) (base : Nat) (args : Array Value) (ds gs : List (DataW H)) (before : List MemPlace)
    (hval : ∀ (j : Nat) t v, Tryz.f6.params[j]? = some t → args[j]? = some v → Value.okWide Tryz.prog W .any base t v)
    (hW : DataW.Whole enc Tryz.prog Tryz.f6.params.toList Rows.scheduleNilSpec.vars false W args.toList ds gs before) (hsz : (DataW.weightsEach Tryz.prog (Tryz.f6.params.toList ++ Rows.scheduleNilSpec.plain.varTypes Tryz.prog) (ds ++ gs)).all (· ≤ reachBytes) = true) (hL0 : laidMetH Tryz.prog Rows.scheduleNilRow.laid W) :
    Calls Tryz.prog 6 args W fun e W' => ∃ v, e = .returned v ∧ Rows.scheduleNilSpec.post enc Tryz.prog Tryz.f6 false true false false W args v W' := by
  rw [MakeChecks.laidMetH_plain _ _ _ (by kernel_rfl)] at hL0
  have tb0 := by first | exact tnOf hL0 | exact tnOf hL0.tail | exact tnOf hL0.tail.tail | exact tnOf hL0.tail.tail.tail | exact tnOf hL0.tail.tail.tail.tail | exact tnOf hL0.tail.tail.tail.tail.tail | exact tnOf hL0.tail.tail.tail.tail.tail.tail | exact tnOf hL0.tail.tail.tail.tail.tail.tail.tail
  have hW' := hW
  obtain ⟨p, q, hA0, hV, rfl, hfz, hnd⟩ := hW
  have hA : DataW.TrodAll enc Tryz.prog W 0 (fun _ => true) true Tryz.f6.params.toList args.toList ds p := hA0
  rw [Tryz.params6] at hA hval hsz
  obtain ⟨v0, vs0, d0, ds0, p0, q0, hargs, rfl, rfl, h0, r0⟩ := trodAll_cons hA
  obtain ⟨rfl, rfl, rfl⟩ := trodAll_nil r0
  obtain rfl : args = #[v0] := by cases args; simp_all
  obtain ⟨rfl, rfl⟩ := trodVars_none hV
  have k0 := h0
  have lt0 : ∀ x ∈ p0, x.block < W.heap.size := by obtain ⟨m, hm⟩ := k0; exact DataW.trod_lt m _ _ _ hm
  obtain ⟨u0, x0, t0, y00, y01, y02, m0, rfl, rfl, rfl, hy00, hy01, hy02⟩ := Go.Joins.open_agg3 Tryz.underlying25 (by kernel_rfl) (by kernel_rfl) (hval 0 25 v0 rfl rfl) h0
  obtain ⟨n0, hn0, -⟩ := DataW.trod_bool Tryz.underlying4 hy00
  obtain rfl : u0 = .bool n0 := by simpa using hn0
  obtain ⟨a0, len0, cap0, z0, hv0, s0, c0, e0, b0⟩ : ∃ a len cap zs, x0 = .slice a len cap ∧ Sl W a len zs ∧ len ≤ cap ∧ (a = Option.none → len = 0 ∧ cap = 0) ∧ cap ≤ 17592186043904 := by
    rcases open_ints Tryz.underlying23 Tryz.underlying125 (by kernel_rfl) hy01 with ⟨hcs, _⟩ | ⟨x, l, c, zs, hcs, _, hl, hm, hz, hx, hcell, hwz⟩
    · exact ⟨Option.none, 0, 0, [], by simpa using hcs, ⟨rfl, Limbs.nil, fun h => absurd h (by decide)⟩, Nat.le_refl _, fun _ => ⟨rfl, rfl⟩, by decide⟩
    · have hz' : zs.length = c := by simpa using hz
      have hd : y01.1 = DataW.slice (lits .u64 (zs.take l)) (lits .u64 (zs.drop l)) := congrArg Prod.fst hx
      have hw1 : ((lits (H := H) .u64 (zs.take l)).length + (lits (H := H) .u64 (zs.drop l)).length) * Tryz.prog.bytesOf 125 ∈ DataW.weightsEach Tryz.prog [4, 23, 23] [y00.1, y01.1, y02.1] :=
        DataW.weights_mem_each (j := 1) (t := 23) (d := y01.1) rfl rfl _ (by rw [hd]; simp [DataW.weights, Tryz.underlying23])
      have hw2 : ((lits (H := H) .u64 (zs.take l)).length + (lits (H := H) .u64 (zs.drop l)).length) * Tryz.prog.bytesOf 125 ∈ DataW.weights Tryz.prog 25 (DataW.agg [y00.1, y01.1, y02.1]) := by
        simp only [DataW.weights, Tryz.underlying25]
        exact hw1
      have hs := List.all_eq_true.1 hsz _ (DataW.weights_mem_each (j := 0) (t := 25) (d := DataW.agg [y00.1, y01.1, y02.1]) rfl rfl _ hw2)
      rw [bytes8] at hs
      have hcap : c ≤ 17592186043904 := by
        simp only [lits, List.length_map, List.length_take, List.length_drop, reachBytes, decide_eq_true_eq] at hs
        omega
      refine ⟨some x, l, c, zs.take l, by simpa using hcs, ⟨by rw [List.length_take]; omega, fun z hz2 => word_of_wf (hwz z (List.mem_of_mem_take hz2)), fun h => ?_⟩, hl, (fun h => by cases h), hcap⟩
      obtain ⟨bb, off, rfl, hc⟩ := ints_at hcell (by omega)
      refine ⟨bb, off, rfl, fun j hj => ?_⟩
      rw [hc j (by omega), List.getD_eq_getElem?_getD, List.getD_eq_getElem?_getD, List.getElem?_take_of_lt hj]
  subst hv0
  obtain ⟨ab0, lenb0, capb0, zb0, hvb0, sb0, cb0, eb0, bb0⟩ : ∃ a len cap zs, t0 = .slice a len cap ∧ Sl W a len zs ∧ len ≤ cap ∧ (a = Option.none → len = 0 ∧ cap = 0) ∧ cap ≤ 17592186043904 := by
    rcases open_ints Tryz.underlying23 Tryz.underlying125 (by kernel_rfl) hy02 with ⟨hcs, _⟩ | ⟨x, l, c, zs, hcs, _, hl, hm, hz, hx, hcell, hwz⟩
    · exact ⟨Option.none, 0, 0, [], by simpa using hcs, ⟨rfl, Limbs.nil, fun h => absurd h (by decide)⟩, Nat.le_refl _, fun _ => ⟨rfl, rfl⟩, by decide⟩
    · have hz' : zs.length = c := by simpa using hz
      have hd : y02.1 = DataW.slice (lits .u64 (zs.take l)) (lits .u64 (zs.drop l)) := congrArg Prod.fst hx
      have hw1 : ((lits (H := H) .u64 (zs.take l)).length + (lits (H := H) .u64 (zs.drop l)).length) * Tryz.prog.bytesOf 125 ∈ DataW.weightsEach Tryz.prog [4, 23, 23] [y00.1, y01.1, y02.1] :=
        DataW.weights_mem_each (j := 2) (t := 23) (d := y02.1) rfl rfl _ (by rw [hd]; simp [DataW.weights, Tryz.underlying23])
      have hw2 : ((lits (H := H) .u64 (zs.take l)).length + (lits (H := H) .u64 (zs.drop l)).length) * Tryz.prog.bytesOf 125 ∈ DataW.weights Tryz.prog 25 (DataW.agg [y00.1, y01.1, y02.1]) := by
        simp only [DataW.weights, Tryz.underlying25]
        exact hw1
      have hs := List.all_eq_true.1 hsz _ (DataW.weights_mem_each (j := 0) (t := 25) (d := DataW.agg [y00.1, y01.1, y02.1]) rfl rfl _ hw2)
      rw [bytes8] at hs
      have hcap : c ≤ 17592186043904 := by
        simp only [lits, List.length_map, List.length_take, List.length_drop, reachBytes, decide_eq_true_eq] at hs
        omega
      refine ⟨some x, l, c, zs.take l, by simpa using hcs, ⟨by rw [List.length_take]; omega, fun z hz2 => word_of_wf (hwz z (List.mem_of_mem_take hz2)), fun h => ?_⟩, hl, (fun h => by cases h), hcap⟩
      obtain ⟨bb, off, rfl, hc⟩ := ints_at hcell (by omega)
      refine ⟨bb, off, rfl, fun j hj => ?_⟩
      rw [hc j (by omega), List.getD_eq_getElem?_getD, List.getD_eq_getElem?_getD, List.getElem?_take_of_lt hj]
  subst hvb0
  clear hn0
  clear hA0
  refine (scheduleNil_walk0 n0 a0 len0 cap0 z0 ab0 lenb0 capb0 zb0 W ⟨s0, sb0, c0, cb0⟩ e0 eb0 (by omega) (by omega) tb0).mono fun e W' ⟨he, bel⟩ => ?_
  subst he
  exact ⟨_, rfl, _, _, _, [], _, [], hW', trodAll_mk1 (shut_bool Tryz.underlying4 _), (trodAll_cons_mk (Below.trod laidOut (by kernel_rfl) (of_decide_eq_true (by kernel_rfl)) k0 bel lt0) trodAll_mk0), rfl, bel.frame _, fun h => by cases h⟩

set_option maxRecDepth 100000 in
theorem lifted (os : Os) (started : os.Started) (H : Type) (enc : TypeId × Value → H) :
    ReturnsInHanded {} Tryz.checked os 6 .any (fun w args => (Rows.scheduleNilSpec.pre enc Tryz.prog Tryz.f6 [] false w args ∧ laidMetH Tryz.prog Rows.scheduleNilRow.laid w) ∧ sizedMet enc Tryz.prog Tryz.f6 (OpenSpec.ofChange Rows.scheduleNilSpec) false w args)
      (Rows.scheduleNilSpec.post enc Tryz.prog Tryz.f6 false true false false) := by
  refine returnsInHanded_of_change_and (C := Tryz.checked) (X := fun w _ => laidMetH Tryz.prog Rows.scheduleNilRow.laid w) (fun _ _ _ hh h => h.of_heap hh) own started (by kernel_rfl) Tryz.func6
    (ChangeSpec.witness_shaped (enc := enc) (C := Tryz.checked) (os := os) (X := fun w _ => laidMetH Tryz.prog Rows.scheduleNilRow.laid w) false (World.laidAll Tryz.prog os Rows.scheduleNilRow.laid) #[.agg #[.bool false, .slice none 0 0, .slice none 0 0]] 8 (World.laidAll_os _ _ _)
      (World.shaped_of_ZipB (by kernel_rfl) (by kernel_rfl)) (by kernel_rfl) (by kernel_rfl) (by kernel_rfl)
      (by rw [MakeChecks.laidMetH_plain _ _ _ (by kernel_rfl)]; exact laidMet_laidAll _ (by kernel_rfl) (by kernel_rfl))) ?_
  intro W base args ds gs before hval0 hW _ hsz0 hL _
  exact contract H enc W base args ds gs before hval0 hW hsz0 hL

theorem over : Rows.scheduleNilRow.holds Tryz.pinned (OpenSpec.ofChange Rows.scheduleNilSpec) :=
  OpenClaim.holds_of_wide 6 Tryz.f6 rfl rfl rfl rfl rfl rfl rfl ⟨rfl, rfl, rfl, rfl, rfl⟩ rfl rfl rfl rfl rfl (by kernel_rfl) Tryz.func6 (by kernel_rfl)
    (of_decide_eq_true (by kernel_rfl)) (by unfold Func.isWrapper; first | (rw [if_pos (by decide +kernel)]; kernel_rfl) | (rw [if_neg (by decide +kernel)]; exact ⟨rfl, rfl⟩))
    (fun os started H enc _ => lifted os started H enc)
end Go.Proofs.YtenmkbofpmbedaaGreatDoor.scheduleNil
namespace Go.Proofs.YtenmkbofpmbedaaGreatDoor
theorem scheduleNil_plain (f : FuncId) (fn : Func) (hf : Tryz.pinned.checked.prog.funcNamed "tollbook/tollbooklaw18.ScheduleNil" = some f) (hfn : Tryz.pinned.checked.prog.funcs[f]? = some fn) :
    false = Tryz.pinned.checked.prog.looks [] ∧ ∀ (j : Nat) t, fn.params[j]? = some t → Tryz.pinned.checked.prog.wantsStandIn t = false := by
  obtain rfl : f = 6 := Option.some.inj ((show Tryz.prog.funcNamed "tollbook/tollbooklaw18.ScheduleNil" = some 6 by kernel_rfl).symm.trans hf) |>.symm
  obtain rfl : fn = Tryz.f6 := (Option.some.inj (Tryz.func6.symm.trans hfn)).symm
  refine ⟨by kernel_rfl, fun j t ht => ?_⟩
  rw [Tryz.params6] at ht
  have hm : t ∈ [25] := by have := Array.mem_of_getElem? ht; simp at this; simp; omega
  have hall : ([25].all fun u => !Tryz.prog.wantsStandIn u) = true := by kernel_rfl
  exact (show Tryz.prog.wantsStandIn t = false by simpa using List.all_eq_true.1 hall t hm)
theorem scheduleNilCard_holds : Rows.ScheduleNilCardSaid :=
  Claim7.holds_tied_plain_at .later [] _ _ _ _ scheduleNil.over (fun _ h => by cases h) (by kernel_rfl) (fun _ h => by cases h) scheduleNil_row_tie rfl ⟨rfl, rfl⟩ (by kernel_rfl) rfl scheduleNil_plain (by kernel_rfl)
#print axioms scheduleNilCard_holds
end Go.Proofs.YtenmkbofpmbedaaGreatDoor
