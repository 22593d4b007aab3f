/-
  ScheduleOfs (P18.2): of any pieces a schedule is made, or the error answered, that the document asks, and a schedule's Pieces are the pieces that it was made of. For any list of pieces.
-/
import Derived.Test.YtenmkbofpmbedaaGreatDoorCards
import Derived.Test.YtenmkbofpmbedaaGreatDoorTie
import Derived.Lay
import Derived.LaidLaws
import Derived.MakeChecks
import Derived.SevenTiedAt
import Derived.WalkKit
import Derived.Test.YtenmkbofpmbedaaGreatDoorScJ
import Derived.Test.YtenmkbofpmbedaaGreatDoorMgAm
import Derived.ProofKit
import Derived.OpenShut
import Derived.ShutString
import Derived.ChangeOld
import Derived.SizedLaws
namespace Go.Proofs.YtenmkbofpmbedaaGreatDoor
set_option linter.unusedVariables false
theorem scheduleOfs_walk0 (a0 : Option Addr) (len0 cap0 : Nat) (z0 : List Pc) (W : World) (s0 : Le elP W a0 len0 z0) (c0 : len0 ≤ cap0) (b0 : cap0 ≤ 1256584717423) (e0 : a0 = none → len0 = 0 ∧ cap0 = 0) (g0 : ∀ q ∈ z0, (Rd2 W q.1 ∧ Lng q.1) ∧ (Rd2 W q.2 ∧ Lng q.2)) (hT : Tn W) :
    Calls Tryz.prog 4 #[.slice a0 len0 cap0] W fun e W' => e = .returned (.bool true) ∧ Go.RowKit.Below W.heap.size W W' :=
  ofs_walk a0 len0 cap0 z0 W hT s0 (rpOf s0 g0).1 (rpOf s0 g0).2 (Nat.le_trans c0 b0)
end Go.Proofs.YtenmkbofpmbedaaGreatDoor
namespace Go.Proofs.YtenmkbofpmbedaaGreatDoor.scheduleOfs
open Go.ChangeShapes Go.WideShapes Go.ChangeAt Go.RowKit
set_option linter.unusedVariables false

theorem own : ownKnob Tryz.prog.godebug = none := by kernel_rfl
theorem laidOut : laidOutB Tryz.prog = true := by kernel_rfl
theorem bytes8 : Tryz.prog.bytesOf 125 = 8 := by kernel_rfl

set_option maxRecDepth 100000 in
theorem contract (H : Type) (enc : TypeId × Value → H) (W : World) (base : Nat) (args : Array Value) (ds gs : List (DataW H)) (before : List MemPlace)
    (hval : ∀ (j : Nat) t v, Tryz.f4.params[j]? = some t → args[j]? = some v → Value.okWide Tryz.prog W .any base t v)
    (hW : DataW.Whole enc Tryz.prog Tryz.f4.params.toList Rows.scheduleOfsSpec.vars false W args.toList ds gs before) (hsz : (DataW.weightsEach Tryz.prog (Tryz.f4.params.toList ++ Rows.scheduleOfsSpec.plain.varTypes Tryz.prog) (ds ++ gs)).all (· ≤ reachBytes) = true) (hL0 : laidMetH Tryz.prog Rows.scheduleOfsRow.laid W) :
    Calls Tryz.prog 4 args W fun e W' => ∃ v, e = .returned v ∧ Rows.scheduleOfsSpec.post enc Tryz.prog Tryz.f4 false true false false W args v W' := by
  rw [MakeChecks.laidMetH_plain _ _ _ (by kernel_rfl)] at hL0
  have tb0 := by first | exact tnOf hL0 | exact tnOf hL0.tail | exact tnOf hL0.tail.tail | exact tnOf hL0.tail.tail.tail | exact tnOf hL0.tail.tail.tail.tail | exact tnOf hL0.tail.tail.tail.tail.tail | exact tnOf hL0.tail.tail.tail.tail.tail.tail | exact tnOf hL0.tail.tail.tail.tail.tail.tail.tail
  have hW' := hW
  obtain ⟨p, q, hA0, hV, rfl, hfz, hnd⟩ := hW
  have hA : DataW.TrodAll enc Tryz.prog W 0 (fun _ => true) true Tryz.f4.params.toList args.toList ds p := hA0
  rw [Tryz.params4] at hA hval hsz
  obtain ⟨v0, vs0, d0, ds0, p0, q0, hargs, rfl, rfl, h0, r0⟩ := trodAll_cons hA
  obtain ⟨rfl, rfl, rfl⟩ := trodAll_nil r0
  obtain rfl : args = #[v0] := by cases args; simp_all
  obtain ⟨rfl, rfl⟩ := trodVars_none hV
  obtain ⟨a0, len0, cap0, rfl⟩ := okWide_slice Tryz.underlying39 (hval 0 39 v0 rfl rfl)
  have k0 := h0
  have lt0 : ∀ x ∈ p0, x.block < W.heap.size := by obtain ⟨m, hm⟩ := k0; exact DataW.trod_lt m _ _ _ hm
  obtain ⟨z0, s0, c0, b0, e0, g0⟩ := open_pieces h0 (fun x hx => by have := List.all_eq_true.1 hsz x (DataW.weights_mem_each (j := 0) (t := 39) (d := d0) rfl rfl x hx); simpa using this)
  clear hA0
  refine (scheduleOfs_walk0 a0 len0 cap0 z0 W s0 c0 b0 e0 g0 tb0).mono fun e W' ⟨he, bel⟩ => ?_
  subst he
  exact ⟨_, rfl, _, _, _, [], _, [], hW', trodAll_mk1 (shut_bool Tryz.underlying4 _), (trodAll_cons_mk (Below.trod laidOut (by kernel_rfl) (of_decide_eq_true (by kernel_rfl)) k0 bel lt0) trodAll_mk0), rfl, bel.frame _, fun h => by cases h⟩

set_option maxRecDepth 100000 in
theorem lifted (os : Os) (started : os.Started) (H : Type) (enc : TypeId × Value → H) :
    ReturnsInHanded {} Tryz.checked os 4 .any (fun w args => (Rows.scheduleOfsSpec.pre enc Tryz.prog Tryz.f4 [] false w args ∧ laidMetH Tryz.prog Rows.scheduleOfsRow.laid w) ∧ sizedMet enc Tryz.prog Tryz.f4 (OpenSpec.ofChange Rows.scheduleOfsSpec) false w args)
      (Rows.scheduleOfsSpec.post enc Tryz.prog Tryz.f4 false true false false) := by
  refine returnsInHanded_of_change_and (C := Tryz.checked) (X := fun w _ => laidMetH Tryz.prog Rows.scheduleOfsRow.laid w) (fun _ _ _ hh h => h.of_heap hh) own started (by kernel_rfl) Tryz.func4
    (ChangeSpec.witness_shaped (enc := enc) (C := Tryz.checked) (os := os) (X := fun w _ => laidMetH Tryz.prog Rows.scheduleOfsRow.laid w) false (World.laidAll Tryz.prog os Rows.scheduleOfsRow.laid) #[.slice none 0 0] 8 (World.laidAll_os _ _ _)
      (World.shaped_of_ZipB (by kernel_rfl) (by kernel_rfl)) (by kernel_rfl) (by kernel_rfl) (by kernel_rfl)
      (by rw [MakeChecks.laidMetH_plain _ _ _ (by kernel_rfl)]; exact laidMet_laidAll _ (by kernel_rfl) (by kernel_rfl))) ?_
  intro W base args ds gs before hval0 hW _ hsz0 hL _
  exact contract H enc W base args ds gs before hval0 hW hsz0 hL

theorem over : Rows.scheduleOfsRow.holds Tryz.pinned (OpenSpec.ofChange Rows.scheduleOfsSpec) :=
  OpenClaim.holds_of_wide 4 Tryz.f4 rfl rfl rfl rfl rfl rfl rfl ⟨rfl, rfl, rfl, rfl, rfl⟩ rfl rfl rfl rfl rfl (by kernel_rfl) Tryz.func4 (by kernel_rfl)
    (of_decide_eq_true (by kernel_rfl)) (by unfold Func.isWrapper; first | (rw [if_pos (by decide +kernel)]; kernel_rfl) | (rw [if_neg (by decide +kernel)]; exact ⟨rfl, rfl⟩))
    (fun os started H enc _ => lifted os started H enc)
end Go.Proofs.YtenmkbofpmbedaaGreatDoor.scheduleOfs
namespace Go.Proofs.YtenmkbofpmbedaaGreatDoor
theorem scheduleOfs_plain (f : FuncId) (fn : Func) (hf : Tryz.pinned.checked.prog.funcNamed "tollbook/tollbooklaw18.ScheduleOfs" = some f) (hfn : Tryz.pinned.checked.prog.funcs[f]? = some fn) :
    false = Tryz.pinned.checked.prog.looks [] ∧ ∀ (j : Nat) t, fn.params[j]? = some t → Tryz.pinned.checked.prog.wantsStandIn t = false := by
  obtain rfl : f = 4 := Option.some.inj ((show Tryz.prog.funcNamed "tollbook/tollbooklaw18.ScheduleOfs" = some 4 by kernel_rfl).symm.trans hf) |>.symm
  obtain rfl : fn = Tryz.f4 := (Option.some.inj (Tryz.func4.symm.trans hfn)).symm
  refine ⟨by kernel_rfl, fun j t ht => ?_⟩
  rw [Tryz.params4] at ht
  have hm : t ∈ [39] := by have := Array.mem_of_getElem? ht; simp at this; simp; omega
  have hall : ([39].all fun u => !Tryz.prog.wantsStandIn u) = true := by kernel_rfl
  exact (show Tryz.prog.wantsStandIn t = false by simpa using List.all_eq_true.1 hall t hm)
theorem scheduleOfsCard_holds : Rows.ScheduleOfsCardSaid :=
  Claim7.holds_tied_plain_at .later [] _ _ _ _ scheduleOfs.over (fun _ h => by cases h) (by kernel_rfl) (fun _ h => by cases h) scheduleOfs_row_tie rfl ⟨rfl, rfl⟩ (by kernel_rfl) rfl scheduleOfs_plain (by kernel_rfl)
#print axioms scheduleOfsCard_holds
end Go.Proofs.YtenmkbofpmbedaaGreatDoor
