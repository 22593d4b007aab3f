/-
  traits: fold at forms, Plain.
-/
import Derived.Test.YtcfjgebfjgkmnaaGreatDoorTrc
namespace Go.Proofs.YtcfjgebfjgkmnaaGreatDoor
open Go.RowKit Go.Shelf
set_option linter.unusedVariables false

theorem ent4f (w : World) (t0 : TypeId) (c0 : Array Value) (t1 : TypeId) (c1 : Array Value) (t2 : TypeId) (c2 : Array Value) (t3 : TypeId) (c3 : Array Value) {Q : World → Prop}
    (h : ∀ w0, Below w.heap.size w w0 → w0.heap.size = w.heap.size + 4 → Va w0 (w.heap.size) t0 c0 → Va w0 (w.heap.size + 1) t1 c1 → Va w0 (w.heap.size + 2) t2 c2 → Va w0 (w.heap.size + 3) t3 c3 → Q w0) : Q ((((w.alloc (.cells c0 t0)).alloc (.cells c1 t1)).alloc (.cells c2 t2)).alloc (.cells c3 t3)) := by
  refine ent3 w t0 c0 t1 c1 t2 c2 (Q := fun W => Q (W.alloc (.cells c3 t3))) ?_
  intro w0 hb hs V0 V1 V2
  refine ent1 w0 t3 c3 ?_
  intro w1 hb1 hs1 V3
  exact h w1 (step hb hb1) (by omega) (V0.after hb1) (V1.after hb1) (V2.after hb1) (by rw [hs] at V3; exact V3)
/-- How fold at forms ends. -/
def FdE (y : List Nd) (w : World) (e : Ending) (w' : World) : Prop := ∃ x : Fm, e = .returned (fmv x) ∧ Ge elN w' w.heap.size (.slice x.ya x.yl x.yc) y ∧ Below w.heap.size w w'
/-- What Plain answers. -/
def PlR (ns out : List Nd) (er : Int) : Prop := (¬ Cond wdB ns ∧ out = [] ∧ er = 131) ∨ (ns = [] ∧ out = [] ∧ er = 0) ∨
  ∃ n k, ns = (Fo.cons n k .nil).flat ∧ (Fo.cons n k .nil).Ok wdB 0 1 ∧ ns.length ≤ 64 ∧ ((64 < ((Fo.cons n k .nil).plain false).flat.length ∧ out = [] ∧ er = 3) ∨ (((Fo.cons n k .nil).plain false).flat.length ≤ 64 ∧ out = ((Fo.cons n k .nil).plain false).flat ∧ er = 0))
def PlE (ns : List Nd) (w : World) (e : Ending) (w' : World) : Prop := ∃ out a' c' er, e = .returned (.tuple #[.slice a' out.length c', .int .i64 er]) ∧ Ge elN w' w.heap.size (.slice a' out.length c') out ∧ PlR ns out er ∧ Below w.heap.size w w'
end Go.Proofs.YtcfjgebfjgkmnaaGreatDoor
