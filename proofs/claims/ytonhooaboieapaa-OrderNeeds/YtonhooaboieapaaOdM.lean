/-
  order: which function a call through the heap's interface comes to.
-/
import Derived.Test.YtonhooaboieapaaOdG
import Derived.ChangeKeysEq
namespace Go.Proofs.Ytonhooaboieapaa
open Go.RowKit Go.Shelf
set_option linter.unusedVariables false

theorem me_push (b : Nat) (W : World) : Sem.run Try.prog (method 220 54 (.pointer (some ⟨b, 0, none⟩)) "Push") W = .ok (96, .pointer (some ⟨b, 0, none⟩)) W := by kernel_rfl
theorem me_pop (b : Nat) (W : World) : Sem.run Try.prog (method 220 54 (.pointer (some ⟨b, 0, none⟩)) "Pop") W = .ok (95, .pointer (some ⟨b, 0, none⟩)) W := by kernel_rfl
theorem wrapchk (ts : Array TypeId) (ty : TypeId) (p : Addr) (s t : String) (W : World) : Sem.run Try.prog (Builtin.ssaWrapNilChk_ ts ty #[.pointer (some p), strVal s, strVal t]) W = .ok (.pointer (some p)) W := rfl
/-- A method with a receiver that is no pointer, reached through a pointer: the receiver is loaded. -/
theorem me_val {name : String} {f : FuncId} {sig : TypeId} (hm : (Try.prog.info? 54).map (fun i => (i.methods.find? (fun m => m.name == name)).map (fun m => (m.path.toList, m.func))) = some (some ([], some (f, false)))) {b : Nat} {W : World} {a : Option Addr} {n c : Nat} (h : W.cell? ⟨b, 0, none⟩ = some (.slice a n c)) : Sem.run Try.prog (method 220 54 (.pointer (some ⟨b, 0, none⟩)) name) W = .ok (f, .slice a n c) W := by
  have hu := Try.underlying54
  have h2 := Try.isAgg52
  cases hi : Try.prog.info? 54 with
  | none => rw [hi] at hm; cases hm
  | some i =>
    rw [hi] at hm
    simp only [Option.map_some, Option.some.injEq] at hm
    cases hf : i.methods.find? (fun m => m.name == name) with
    | none => rw [hf] at hm; cases hm
    | some m =>
      rw [hf] at hm
      simp only [Option.map_some, Option.some.injEq, Prod.mk.injEq] at hm
      obtain ⟨hp, hfn⟩ := hm
      rw [show (220 : Nat) = (220 - 1) + 1 from rfl, method]
      simp only [Sem.run_bind, run_typeInfo W hi, Result.andThen_ok, hf, hp, follow, Sem.run_pure, hfn, receiverAt, run_underlying hu, Place.get]
      have hpe : m.path.isEmpty = true := by
        have : m.path = #[] := by apply Array.ext'; exact hp
        rw [this]; rfl
      rw [hpe]
      simp [wrapchk, asAddr, loadVar, h, h2, go_sem]
theorem me_less {b : Nat} {W : World} {a : Option Addr} {n c : Nat} (h : W.cell? ⟨b, 0, none⟩ = some (.slice a n c)) : Sem.run Try.prog (method 220 54 (.pointer (some ⟨b, 0, none⟩)) "Less") W = .ok (93, .slice a n c) W := me_val (sig := 0) (by kernel_rfl) h
theorem me_swap {b : Nat} {W : World} {a : Option Addr} {n c : Nat} (h : W.cell? ⟨b, 0, none⟩ = some (.slice a n c)) : Sem.run Try.prog (method 220 54 (.pointer (some ⟨b, 0, none⟩)) "Swap") W = .ok (94, .slice a n c) W := me_val (sig := 0) (by kernel_rfl) h
theorem me_len {b : Nat} {W : World} {a : Option Addr} {n c : Nat} (h : W.cell? ⟨b, 0, none⟩ = some (.slice a n c)) : Sem.run Try.prog (method 220 54 (.pointer (some ⟨b, 0, none⟩)) "Len") W = .ok (92, .slice a n c) W := me_val (sig := 0) (by kernel_rfl) h
end Go.Proofs.Ytonhooaboieapaa
