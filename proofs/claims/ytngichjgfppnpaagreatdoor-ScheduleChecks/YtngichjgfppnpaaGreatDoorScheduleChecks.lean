/-
  ScheduleChecks (P18.1): of any brackets Check answers what the document's Check answers, and Pieces, in any unit, tells the pieces that the document's Pieces tells, or refuses them with the same error (a unit that is no ratio that may be is passed by).
-/
import Derived.Test.YtngichjgfppnpaaGreatDoorCards
import Derived.Test.YtngichjgfppnpaaGreatDoorTie
import Derived.Lay
import Derived.LaidLaws
import Derived.MakeChecks
import Derived.SevenTiedAt
import Derived.WalkKit
import Derived.Test.YtngichjgfppnpaaGreatDoorScW
import Derived.Test.YtngichjgfppnpaaGreatDoorMgAt
import Derived.Test.YtngichjgfppnpaaGreatDoorMgAv
import Derived.ProofKit
import Derived.OpenShut
import Derived.ShutString
import Derived.ChangeOld
import Derived.SizedLaws
import Derived.Lib.SmallJoins
namespace Go.Proofs.YtngichjgfppnpaaGreatDoor
set_option linter.unusedVariables false
theorem scheduleChecks_walk0 (a0 : Option Addr) (len0 cap0 : Nat) (z0 : List Br) (n1 : Bool) (a1 : Option Addr) (len1 cap1 : Nat) (z1 : List Int) (ab1 : Option Addr) (lenb1 capb1 : Nat) (zb1 : List Int) (W : World) (s0 : Le elB W a0 len0 z0) (c0 : len0 ≤ cap0) (b0 : cap0 ≤ 4398046511104) (e0 : a0 = none → len0 = 0 ∧ cap0 = 0) (g0 : ∀ q ∈ z0, q.ok) (h1 : Ri W a1 len1 cap1 z1 ab1 lenb1 capb1 zb1) (e1 : a1 = none → len1 = 0 ∧ cap1 = 0) (eb1 : ab1 = none → lenb1 = 0 ∧ capb1 = 0) (l1 : len1 ≤ 17592186043904) (m1 : lenb1 ≤ 17592186043904) (hT : Tn W) :
    Calls Tryz.prog 3 #[.slice a0 len0 cap0, .agg #[.bool n1, .slice a1 len1 cap1, .slice ab1 lenb1 capb1]] W fun e W' => e = .returned (.bool true) ∧ Go.RowKit.Below W.heap.size W W' :=
  checks_walk a0 len0 cap0 z0 ⟨n1, a1, len1, cap1, z1, ab1, lenb1, capb1, zb1⟩ W hT s0 e0 (Nat.le_trans c0 b0) (fun i hi => g0 _ (mem_getD bz s0.1 hi)) h1 ⟨l1, m1⟩
end Go.Proofs.YtngichjgfppnpaaGreatDoor
namespace Go.Proofs.YtngichjgfppnpaaGreatDoor.scheduleChecks
open Go.ChangeShapes Go.WideShapes Go.ChangeAt Go.RowKit
set_option linter.unusedVariables false

theorem own : ownKnob Tryz.prog.godebug = none := by kernel_rfl
theorem laidOut : laidOutB Tryz.prog = true := by kernel_rfl
theorem bytes8 : Tryz.prog.bytesOf 89 = 8 := by kernel_rfl

set_option maxRecDepth 100000 in
theorem contract (H : Type) (enc : TypeId × Value → H) (W : World) (base : Nat) (args : Array Value) (ds gs : List (DataW H)) (before : List MemPlace)
    (hval : ∀ (j : Nat) t v, Tryz.f3.params[j]? = some t → args[j]? = some v → Value.okWide Tryz.prog W .any base t v)
    (hW : DataW.Whole enc Tryz.prog Tryz.f3.params.toList Rows.scheduleChecksSpec.vars false W args.toList ds gs before) (hsz : (DataW.weightsEach Tryz.prog (Tryz.f3.params.toList ++ Rows.scheduleChecksSpec.plain.varTypes Tryz.prog) (ds ++ gs)).all (· ≤ reachBytes) = true) (hL0 : laidMetH Tryz.prog Rows.scheduleChecksRow.laid W) :
    Calls Tryz.prog 3 args W fun e W' => ∃ v, e = .returned v ∧ Rows.scheduleChecksSpec.post enc Tryz.prog Tryz.f3 false true false false W args v W' := by
  rw [MakeChecks.laidMetH_plain _ _ _ (by kernel_rfl)] at hL0
  have tb0 := by first | exact tnOf hL0 | exact tnOf hL0.tail | exact tnOf hL0.tail.tail | exact tnOf hL0.tail.tail.tail | exact tnOf hL0.tail.tail.tail.tail | exact tnOf hL0.tail.tail.tail.tail.tail | exact tnOf hL0.tail.tail.tail.tail.tail.tail | exact tnOf hL0.tail.tail.tail.tail.tail.tail.tail
  have hW' := hW
  obtain ⟨p, q, hA0, hV, rfl, hfz, hnd⟩ := hW
  have hA : DataW.TrodAll enc Tryz.prog W 0 (fun _ => true) true Tryz.f3.params.toList args.toList ds p := hA0
  rw [Tryz.params3] at hA hval hsz
  obtain ⟨v0, vs0, d0, ds0, p0, q0, hargs, rfl, rfl, h0, r0⟩ := trodAll_cons hA
  obtain ⟨v1, vs1, d1, ds1, p1, q1, rfl, rfl, rfl, h1, r1⟩ := trodAll_cons r0
  obtain ⟨rfl, rfl, rfl⟩ := trodAll_nil r1
  obtain rfl : args = #[v0, v1] := by cases args; simp_all
  obtain ⟨rfl, rfl⟩ := trodVars_none hV
  obtain ⟨a0, len0, cap0, rfl⟩ := okWide_slice Tryz.underlying22 (hval 0 22 v0 rfl rfl)
  have k0 := h0
  have lt0 : ∀ x ∈ p0, x.block < W.heap.size := by obtain ⟨m, hm⟩ := k0; exact DataW.trod_lt m _ _ _ hm
  obtain ⟨z0, s0, c0, b0, e0, g0⟩ := open_brackets h0 (fun x hx => by have := List.all_eq_true.1 hsz x (DataW.weights_mem_each (j := 0) (t := 22) (d := d0) rfl rfl x hx); simpa using this)
  have k1 := h1
  have lt1 : ∀ x ∈ p1, x.block < W.heap.size := by obtain ⟨m, hm⟩ := k1; exact DataW.trod_lt m _ _ _ hm
  obtain ⟨u1, x1, t1, y10, y11, y12, m1, rfl, rfl, rfl, hy10, hy11, hy12⟩ := Go.Joins.open_agg3 Tryz.underlying25 (by kernel_rfl) (by kernel_rfl) (hval 1 25 v1 rfl rfl) h1
  obtain ⟨n1, hn1, -⟩ := DataW.trod_bool Tryz.underlying4 hy10
  obtain rfl : u1 = .bool n1 := by simpa using hn1
  obtain ⟨a1, len1, cap1, z1, hv1, s1, c1, e1, b1⟩ : ∃ a len cap zs, x1 = .slice a len cap ∧ Sl W a len zs ∧ len ≤ cap ∧ (a = Option.none → len = 0 ∧ cap = 0) ∧ cap ≤ 17592186043904 := by
    rcases open_ints Tryz.underlying23 Tryz.underlying89 (by kernel_rfl) hy11 with ⟨hcs, _⟩ | ⟨x, l, c, zs, hcs, _, hl, hm, hz, hx, hcell, hwz⟩
    · exact ⟨Option.none, 0, 0, [], by simpa using hcs, ⟨rfl, Limbs.nil, fun h => absurd h (by decide)⟩, Nat.le_refl _, fun _ => ⟨rfl, rfl⟩, by decide⟩
    · have hz' : zs.length = c := by simpa using hz
      have hd : y11.1 = DataW.slice (lits .u64 (zs.take l)) (lits .u64 (zs.drop l)) := congrArg Prod.fst hx
      have hw1 : ((lits (H := H) .u64 (zs.take l)).length + (lits (H := H) .u64 (zs.drop l)).length) * Tryz.prog.bytesOf 89 ∈ DataW.weightsEach Tryz.prog [4, 23, 23] [y10.1, y11.1, y12.1] :=
        DataW.weights_mem_each (j := 1) (t := 23) (d := y11.1) rfl rfl _ (by rw [hd]; simp [DataW.weights, Tryz.underlying23])
      have hw2 : ((lits (H := H) .u64 (zs.take l)).length + (lits (H := H) .u64 (zs.drop l)).length) * Tryz.prog.bytesOf 89 ∈ DataW.weights Tryz.prog 25 (DataW.agg [y10.1, y11.1, y12.1]) := by
        simp only [DataW.weights, Tryz.underlying25]
        exact hw1
      have hs := List.all_eq_true.1 hsz _ (DataW.weights_mem_each (j := 1) (t := 25) (d := DataW.agg [y10.1, y11.1, y12.1]) rfl rfl _ hw2)
      rw [bytes8] at hs
      have hcap : c ≤ 17592186043904 := by
        simp only [lits, List.length_map, List.length_take, List.length_drop, reachBytes, decide_eq_true_eq] at hs
        omega
      refine ⟨some x, l, c, zs.take l, by simpa using hcs, ⟨by rw [List.length_take]; omega, fun z hz2 => word_of_wf (hwz z (List.mem_of_mem_take hz2)), fun h => ?_⟩, hl, (fun h => by cases h), hcap⟩
      obtain ⟨bb, off, rfl, hc⟩ := ints_at hcell (by omega)
      refine ⟨bb, off, rfl, fun j hj => ?_⟩
      rw [hc j (by omega), List.getD_eq_getElem?_getD, List.getD_eq_getElem?_getD, List.getElem?_take_of_lt hj]
  subst hv1
  obtain ⟨ab1, lenb1, capb1, zb1, hvb1, sb1, cb1, eb1, bb1⟩ : ∃ a len cap zs, t1 = .slice a len cap ∧ Sl W a len zs ∧ len ≤ cap ∧ (a = Option.none → len = 0 ∧ cap = 0) ∧ cap ≤ 17592186043904 := by
    rcases open_ints Tryz.underlying23 Tryz.underlying89 (by kernel_rfl) hy12 with ⟨hcs, _⟩ | ⟨x, l, c, zs, hcs, _, hl, hm, hz, hx, hcell, hwz⟩
    · exact ⟨Option.none, 0, 0, [], by simpa using hcs, ⟨rfl, Limbs.nil, fun h => absurd h (by decide)⟩, Nat.le_refl _, fun _ => ⟨rfl, rfl⟩, by decide⟩
    · have hz' : zs.length = c := by simpa using hz
      have hd : y12.1 = DataW.slice (lits .u64 (zs.take l)) (lits .u64 (zs.drop l)) := congrArg Prod.fst hx
      have hw1 : ((lits (H := H) .u64 (zs.take l)).length + (lits (H := H) .u64 (zs.drop l)).length) * Tryz.prog.bytesOf 89 ∈ DataW.weightsEach Tryz.prog [4, 23, 23] [y10.1, y11.1, y12.1] :=
        DataW.weights_mem_each (j := 2) (t := 23) (d := y12.1) rfl rfl _ (by rw [hd]; simp [DataW.weights, Tryz.underlying23])
      have hw2 : ((lits (H := H) .u64 (zs.take l)).length + (lits (H := H) .u64 (zs.drop l)).length) * Tryz.prog.bytesOf 89 ∈ DataW.weights Tryz.prog 25 (DataW.agg [y10.1, y11.1, y12.1]) := by
        simp only [DataW.weights, Tryz.underlying25]
        exact hw1
      have hs := List.all_eq_true.1 hsz _ (DataW.weights_mem_each (j := 1) (t := 25) (d := DataW.agg [y10.1, y11.1, y12.1]) rfl rfl _ hw2)
      rw [bytes8] at hs
      have hcap : c ≤ 17592186043904 := by
        simp only [lits, List.length_map, List.length_take, List.length_drop, reachBytes, decide_eq_true_eq] at hs
        omega
      refine ⟨some x, l, c, zs.take l, by simpa using hcs, ⟨by rw [List.length_take]; omega, fun z hz2 => word_of_wf (hwz z (List.mem_of_mem_take hz2)), fun h => ?_⟩, hl, (fun h => by cases h), hcap⟩
      obtain ⟨bb, off, rfl, hc⟩ := ints_at hcell (by omega)
      refine ⟨bb, off, rfl, fun j hj => ?_⟩
      rw [hc j (by omega), List.getD_eq_getElem?_getD, List.getD_eq_getElem?_getD, List.getElem?_take_of_lt hj]
  subst hvb1
  clear hn1
  clear hA0
  refine (scheduleChecks_walk0 a0 len0 cap0 z0 n1 a1 len1 cap1 z1 ab1 lenb1 capb1 zb1 W s0 c0 b0 e0 g0 ⟨s1, sb1, c1, cb1⟩ e1 eb1 (by omega) (by omega) tb0).mono fun e W' ⟨he, bel⟩ => ?_
  subst he
  exact ⟨_, rfl, _, _, _, [], _, [], hW', trodAll_mk1 (shut_bool Tryz.underlying4 _), (trodAll_cons_mk (Below.trod laidOut (by kernel_rfl) (of_decide_eq_true (by kernel_rfl)) k0 bel lt0) (trodAll_cons_mk (Below.trod laidOut (by kernel_rfl) (of_decide_eq_true (by kernel_rfl)) k1 bel lt1) trodAll_mk0)), rfl, bel.frame _, fun h => by cases h⟩

set_option maxRecDepth 100000 in
theorem lifted (os : Os) (started : os.Started) (H : Type) (enc : TypeId × Value → H) :
    ReturnsInHanded {} Tryz.checked os 3 .any (fun w args => (Rows.scheduleChecksSpec.pre enc Tryz.prog Tryz.f3 [] false w args ∧ laidMetH Tryz.prog Rows.scheduleChecksRow.laid w) ∧ sizedMet enc Tryz.prog Tryz.f3 (OpenSpec.ofChange Rows.scheduleChecksSpec) false w args)
      (Rows.scheduleChecksSpec.post enc Tryz.prog Tryz.f3 false true false false) := by
  refine returnsInHanded_of_change_and (C := Tryz.checked) (X := fun w _ => laidMetH Tryz.prog Rows.scheduleChecksRow.laid w) (fun _ _ _ hh h => h.of_heap hh) own started (by kernel_rfl) Tryz.func3
    (ChangeSpec.witness_shaped (enc := enc) (C := Tryz.checked) (os := os) (X := fun w _ => laidMetH Tryz.prog Rows.scheduleChecksRow.laid w) false (World.laidAll Tryz.prog os Rows.scheduleChecksRow.laid) #[.slice none 0 0, .agg #[.bool false, .slice none 0 0, .slice none 0 0]] 8 (World.laidAll_os _ _ _)
      (World.shaped_of_ZipB (by kernel_rfl) (by kernel_rfl)) (by kernel_rfl) (by kernel_rfl) (by kernel_rfl)
      (by rw [MakeChecks.laidMetH_plain _ _ _ (by kernel_rfl)]; exact laidMet_laidAll _ (by kernel_rfl) (by kernel_rfl))) ?_
  intro W base args ds gs before hval0 hW _ hsz0 hL _
  exact contract H enc W base args ds gs before hval0 hW hsz0 hL

theorem over : Rows.scheduleChecksRow.holds Tryz.pinned (OpenSpec.ofChange Rows.scheduleChecksSpec) :=
  OpenClaim.holds_of_wide 3 Tryz.f3 rfl rfl rfl rfl rfl rfl rfl ⟨rfl, rfl, rfl, rfl, rfl⟩ rfl rfl rfl rfl rfl (by kernel_rfl) Tryz.func3 (by kernel_rfl)
    (of_decide_eq_true (by kernel_rfl)) (by unfold Func.isWrapper; first | (rw [if_pos (by decide +kernel)]; kernel_rfl) | (rw [if_neg (by decide +kernel)]; exact ⟨rfl, rfl⟩))
    (fun os started H enc _ => lifted os started H enc)
end Go.Proofs.YtngichjgfppnpaaGreatDoor.scheduleChecks
namespace Go.Proofs.YtngichjgfppnpaaGreatDoor
theorem scheduleChecks_plain (f : FuncId) (fn : Func) (hf : Tryz.pinned.checked.prog.funcNamed "tollbook/tollbooklaw18.ScheduleChecks" = some f) (hfn : Tryz.pinned.checked.prog.funcs[f]? = some fn) :
    false = Tryz.pinned.checked.prog.looks [] ∧ ∀ (j : Nat) t, fn.params[j]? = some t → Tryz.pinned.checked.prog.wantsStandIn t = false := by
  obtain rfl : f = 3 := Option.some.inj ((show Tryz.prog.funcNamed "tollbook/tollbooklaw18.ScheduleChecks" = some 3 by kernel_rfl).symm.trans hf) |>.symm
  obtain rfl : fn = Tryz.f3 := (Option.some.inj (Tryz.func3.symm.trans hfn)).symm
  refine ⟨by kernel_rfl, fun j t ht => ?_⟩
  rw [Tryz.params3] at ht
  have hm : t ∈ [22, 25] := by have := Array.mem_of_getElem? ht; simp at this; simp; omega
  have hall : ([22, 25].all fun u => !Tryz.prog.wantsStandIn u) = true := by kernel_rfl
  exact (show Tryz.prog.wantsStandIn t = false by simpa using List.all_eq_true.1 hall t hm)
theorem scheduleChecksCard_holds : Rows.ScheduleChecksCardSaid :=
  Claim7.holds_tied_plain_at .later [] _ _ _ _ scheduleChecks.over (fun _ h => by cases h) (by kernel_rfl) (fun _ h => by cases h) scheduleChecks_row_tie rfl ⟨rfl, rfl⟩ (by kernel_rfl) rfl scheduleChecks_plain (by kernel_rfl)
#print axioms scheduleChecksCard_holds
end Go.Proofs.YtngichjgfppnpaaGreatDoor
