/-
  MoneySums (P9.1): of any two numbers of units and of any list, Add, Sub and Sum tell what the document tells; the list stays. The second form: where what is read is of bulk at most 1048576; under the condition that the listed variables (the powers of ten of strconv and of money, among others) hold what the program's text lays.
-/
import Derived.Test.YtigimdcaakfckaaGreatDoorCards
import Derived.Test.YtigimdcaakfckaaGreatDoorTie
import Derived.Lay
import Derived.LaidLaws
import Derived.MakeChecks
import Derived.SevenTiedAt
import Derived.WalkKit
import Derived.Deep.DeepHandedRow
import Derived.SizedLaws
import Derived.Test.YtigimdcaakfckaaGreatDoorSumW9
import Derived.Test.YtigimdcaakfckaaGreatDoorLaidM
import Derived.ProofKit
import Derived.OpenShut
import Derived.ShutString
import Derived.ChangeOld
import Derived.Test.YtigimdcaakfckaaGreatDoorBulk
namespace Go.Proofs.YtigimdcaakfckaaGreatDoor
set_option linter.unusedVariables false
theorem bulk_litsI {H : Type} : ∀ zs : List Int, Rows.uptoBulkAll (Go.ChangeShapes.lits (H := H) .i64 zs) = zs.length
  | [] => rfl
  | z :: r => by
    have ih := bulk_litsI (H := H) r
    simp only [Go.ChangeShapes.lits, List.map_cons, Rows.uptoBulkAll, Rows.uptoBulk, List.length_cons] at ih ⊢
    omega
theorem bulk_rowI {H : Type} (zs : List Int) (n : Nat) : Rows.uptoBulk (DataW.slice (Go.ChangeShapes.lits (H := H) .i64 (zs.take n)) (Go.ChangeShapes.lits .i64 (zs.drop n))) = zs.length + 1 := by
  simp only [Rows.uptoBulk, bulk_litsI, List.length_take, List.length_drop]
  omega
theorem moneySums_walk0 (x y : Int) (a : Option Addr) (len cap : Nat) (zs : List Int) (w : World) (hx : (Lit.int .i64 x).wf = true) (hy : (Lit.int .i64 y).wf = true) (h : Li w a len zs) (hc : len ≤ cap) (hl : cap ≤ 1048576) (hn : a = none → len = 0 ∧ cap = 0) (hP : Pt w) (hT : Tm w) :
    Calls Tryz.prog 3 #[.int .i64 x, .int .i64 y, .slice a len cap] w fun e w' => e = .returned (.bool true) ∧ Go.RowKit.Below w.heap.size w w' :=
  sums_walk x y (b64_of_wf hx) (b64_of_wf hy) a len cap zs w h (by omega) hn hP hT
end Go.Proofs.YtigimdcaakfckaaGreatDoor
namespace Go.Proofs.YtigimdcaakfckaaGreatDoor.moneySums
open Go.ChangeShapes Go.WideShapes Go.ChangeAt Go.RowKit
set_option linter.unusedVariables false

theorem own : ownKnob Tryz.prog.godebug = none := by kernel_rfl
theorem laidOut : laidOutB Tryz.prog = true := by kernel_rfl
theorem bytes8 : Tryz.prog.bytesOf 77 = 8 := by kernel_rfl

set_option maxRecDepth 100000 in
theorem contract (H : Type) (enc : TypeId × Value → H) (W : World) (base : Nat) (args : Array Value) (ds gs : List (DataW H)) (before : List MemPlace)
    (hval : ∀ (j : Nat) t v, Tryz.f3.params[j]? = some t → args[j]? = some v → Value.okWide Tryz.prog W .any base t v)
    (hW : DataW.Whole enc Tryz.prog Tryz.f3.params.toList Rows.moneySumsSpec.vars false W args.toList ds gs before) (hk : Rows.uptoSmall H (ds ++ gs) = true) (hL0 : laidMetH Tryz.prog Rows.moneySumsUptoRow.laid W) :
    Calls Tryz.prog 3 args W fun e W' => ∃ v, e = .returned v ∧ Rows.moneySumsSpec.post enc Tryz.prog Tryz.f3 false true false false W args v W' := by
  rw [MakeChecks.laidMetH_plain _ _ _ (by kernel_rfl)] at hL0
  have tb0 := by first | exact ptOf hL0 | exact ptOf hL0.tail | exact ptOf hL0.tail.tail | exact ptOf hL0.tail.tail.tail | exact ptOf hL0.tail.tail.tail.tail | exact ptOf hL0.tail.tail.tail.tail.tail | exact ptOf hL0.tail.tail.tail.tail.tail.tail | exact ptOf hL0.tail.tail.tail.tail.tail.tail.tail
  have tb1 := by first | exact tmOf hL0 | exact tmOf hL0.tail | exact tmOf hL0.tail.tail | exact tmOf hL0.tail.tail.tail | exact tmOf hL0.tail.tail.tail.tail | exact tmOf hL0.tail.tail.tail.tail.tail | exact tmOf hL0.tail.tail.tail.tail.tail.tail | exact tmOf hL0.tail.tail.tail.tail.tail.tail.tail
  have hW' := hW
  obtain ⟨p, q, hA0, hV, rfl, hfz, hnd⟩ := hW
  have hA : DataW.TrodAll enc Tryz.prog W 0 (fun _ => true) true Tryz.f3.params.toList args.toList ds p := hA0
  rw [Tryz.params3] at hA hval
  obtain ⟨v0, vs0, d0, ds0, p0, q0, hargs, rfl, rfl, h0, r0⟩ := trodAll_cons hA
  obtain ⟨v1, vs1, d1, ds1, p1, q1, rfl, rfl, rfl, h1, r1⟩ := trodAll_cons r0
  obtain ⟨v2, vs2, d2, ds2, p2, q2, rfl, rfl, rfl, h2, r2⟩ := trodAll_cons r1
  obtain ⟨rfl, rfl, rfl⟩ := trodAll_nil r2
  obtain rfl : args = #[v0, v1, v2] := by cases args; simp_all
  obtain ⟨rfl, rfl⟩ := trodVars_none hV
  obtain ⟨a0, rfl, rfl, rfl, w0⟩ := open_int Tryz.underlying2 (hval 0 2 v0 rfl rfl) h0
  obtain ⟨a1, rfl, rfl, rfl, w1⟩ := open_int Tryz.underlying2 (hval 1 2 v1 rfl rfl) h1
  obtain ⟨a2, len2, cap2, rfl⟩ := okWide_slice Tryz.underlying22 (hval 2 22 v2 rfl rfl)
  have k2 := h2
  have lt2 : ∀ x ∈ p2, x.block < W.heap.size := by obtain ⟨m, hm⟩ := k2; exact DataW.trod_lt m _ _ _ hm
  obtain ⟨z2, s2, c2, b2, e2⟩ : ∃ zs, Li W a2 len2 zs ∧ len2 ≤ cap2 ∧ cap2 ≤ 1048576 ∧ (a2 = Option.none → len2 = 0 ∧ cap2 = 0) := by
    obtain ⟨fuel, hf⟩ := h2
    rcases open_ints Tryz.underlying22 Tryz.underlying2 (by kernel_rfl) hf with ⟨hcs, _⟩ | ⟨x, l, c, zs, hcs, _, hl, hm, hz, hx, hcell, hwz⟩
    · simp [Value.cells] at hcs
      obtain ⟨rfl, rfl, rfl⟩ := hcs
      exact ⟨[], ⟨rfl, (fun z hz => by cases hz), fun h => absurd h (by decide)⟩, Nat.le_refl _, by decide, fun _ => ⟨rfl, rfl⟩⟩
    · simp [Value.cells] at hcs
      obtain ⟨rfl, rfl, rfl⟩ := hcs
      have hz' : zs.length = cap2 := by simpa using hz
      have hd : d2 = DataW.slice (lits .i64 (zs.take len2)) (lits .i64 (zs.drop len2)) := congrArg Prod.fst hx
      have hb : Rows.uptoBulkAll [DataW.lit (.int .i64 a0), DataW.lit (.int .i64 a1), d2] ≤ 1048576 := of_decide_eq_true hk
      simp only [Rows.uptoBulkAll] at hb
      rw [hd, bulk_rowI] at hb
      have hcap : cap2 ≤ 1048576 := by omega
      refine ⟨zs.take len2, ⟨by rw [List.length_take]; omega, fun z hz2 => b64_of_wf (hwz z (List.mem_of_mem_take hz2)), fun h => ?_⟩, hl, hcap, fun h => by cases h⟩
      obtain ⟨bb, off, rfl, hc⟩ := ints_at hcell (by omega)
      refine ⟨bb, off, rfl, fun j hj => ?_⟩
      rw [hc j (by omega), List.getD_eq_getElem?_getD, List.getD_eq_getElem?_getD, List.getElem?_take_of_lt hj]
  clear hA0
  refine (moneySums_walk0 a0 a1 a2 len2 cap2 z2 W w0 w1 s2 c2 b2 e2 tb0 tb1).mono fun e W' ⟨he, bel⟩ => ?_
  subst he
  exact ⟨_, rfl, _, _, _, [], _, [], hW', trodAll_mk1 (shut_bool Tryz.underlying4 _), (trodAll_cons_mk (shut_int Tryz.underlying2 w0) (trodAll_cons_mk (shut_int Tryz.underlying2 w1) (trodAll_cons_mk (Below.trod laidOut (by kernel_rfl) (of_decide_eq_true (by kernel_rfl)) k2 bel lt2) trodAll_mk0))), rfl, bel.frame _, fun h => by cases h⟩

set_option maxRecDepth 100000 in
theorem reads (os : Os) {H : Type} (enc : TypeId × Value → H) : DataW.whole enc Tryz.prog ((World.laidAll Tryz.prog os Rows.moneySumsUptoRow.laid).forCall (fun _ _ => 0) ⟨#[], #[.int .i64 0, .int .i64 0, .slice none 0 0], []⟩).memory Tryz.f3.params.toList Rows.moneySumsSpec.vars false #[.int .i64 0, .int .i64 0, .slice none 0 0].toList 8 = some ([.lit (.int .i64 0), .lit (.int .i64 0), .nil], [], []) := by kernel_rfl
set_option maxRecDepth 100000 in
theorem lifted (os : Os) (started : os.Started) (H : Type) (enc : TypeId × Value → H) (F : Stop.Interp) :
    ReturnsInHanded {} Tryz.checked os 3 .any ((Rows.OpenSpec.upto Rows.moneySumsSpec).preRow enc Tryz.prog Tryz.f3 Rows.moneySumsUptoRow.domain false Rows.moneySumsUptoRow.laid) (((Rows.OpenSpec.upto Rows.moneySumsSpec).at F).post enc Tryz.prog Tryz.f3 false true false false) := by
  refine returnsInHanded_of_row (C := Tryz.checked) (s := Rows.OpenSpec.upto Rows.moneySumsSpec) own started (by kernel_rfl) Tryz.func3
    (witness_row_at (enc := enc) (C := Tryz.checked) false (World.laidAll Tryz.prog os Rows.moneySumsUptoRow.laid) #[.int .i64 0, .int .i64 0, .slice none 0 0] (World.laidAll_os _ _ _) (by kernel_rfl) (by kernel_rfl) (by kernel_rfl)
      (OpenSpec.preRow_of_cond 8 (reads os enc) (by kernel_rfl) (fun k hk => by cases hk; kernel_rfl) (by kernel_rfl)
        (by rw [MakeChecks.laidMetH_plain _ _ _ (by kernel_rfl)]; exact laidMet_laidAll _ (by kernel_rfl) (by kernel_rfl)))) ?_
  intro W base args ds gs before hval hW _ hcond _ hL _ _
  exact contract H enc W base args ds gs before hval hW (hcond _ rfl) hL

theorem over : Rows.moneySumsUptoRow.holds Tryz.pinned (Rows.OpenSpec.upto Rows.moneySumsSpec) :=
  OpenClaim.holds_of_cond 3 Tryz.f3 rfl rfl rfl rfl rfl rfl rfl ⟨rfl, rfl, rfl, rfl, rfl⟩ rfl rfl rfl rfl rfl (by kernel_rfl) Tryz.func3 (by kernel_rfl)
    (of_decide_eq_true (by kernel_rfl)) (by unfold Func.isWrapper; first | (rw [if_pos (by decide +kernel)]; kernel_rfl) | (rw [if_neg (by decide +kernel)]; exact ⟨rfl, rfl⟩))
    (fun os started H enc _ F => by rw [OpenClaim.pre_eq_preRow]; exact lifted os started H enc F)
end Go.Proofs.YtigimdcaakfckaaGreatDoor.moneySums
namespace Go.Proofs.YtigimdcaakfckaaGreatDoor
theorem moneySums_plain (f : FuncId) (fn : Func) (hf : Tryz.pinned.checked.prog.funcNamed "tollbook/tollbooklaw09.MoneySums" = some f) (hfn : Tryz.pinned.checked.prog.funcs[f]? = some fn) :
    false = Tryz.pinned.checked.prog.looks [] ∧ ∀ (j : Nat) t, fn.params[j]? = some t → Tryz.pinned.checked.prog.wantsStandIn t = false := by
  obtain rfl : f = 3 := Option.some.inj ((show Tryz.prog.funcNamed "tollbook/tollbooklaw09.MoneySums" = some 3 by kernel_rfl).symm.trans hf) |>.symm
  obtain rfl : fn = Tryz.f3 := (Option.some.inj (Tryz.func3.symm.trans hfn)).symm
  refine ⟨by kernel_rfl, fun j t ht => ?_⟩
  rw [Tryz.params3] at ht
  have hm : t ∈ [2, 22] := by have := Array.mem_of_getElem? ht; simp at this; simp; omega
  have hall : ([2, 22].all fun u => !Tryz.prog.wantsStandIn u) = true := by kernel_rfl
  exact (show Tryz.prog.wantsStandIn t = false by simpa using List.all_eq_true.1 hall t hm)
theorem moneySumsUptoCard_holds : Rows.MoneySumsUptoCardSaid :=
  Claim7.holds_tied_plain_at .later [] _ _ _ _ moneySums.over (fun _ h => by cases h) (by kernel_rfl) (fun _ h => by cases h) moneySumsUpto_row_tie rfl ⟨rfl, rfl⟩ (by kernel_rfl) rfl moneySums_plain (by kernel_rfl)
#print axioms moneySumsUptoCard_holds
end Go.Proofs.YtigimdcaakfckaaGreatDoor
