/-
  traits: forms, asIs, turned, gather.
-/
import Derived.Test.YtcfjgebfjgkmnaaGreatDoorTr9
namespace Go.Proofs.YtcfjgebfjgkmnaaGreatDoor
open Go.RowKit Go.Shelf
set_option linter.unusedVariables false

/-- A tree's two forms, as two lists. -/
structure Fm where
  ya : Option Addr
  yl : Nat
  yc : Nat
  na : Option Addr
  nl : Nat
  nc : Nat
def fm0 : Fm := ⟨none, 0, 0, none, 0, 0⟩
abbrev fmv (x : Fm) : Value := .agg #[.slice x.ya x.yl x.yc, .slice x.na x.nl x.nc]
/-- The plain form, or that of the Not. -/
def Fm.ad (x : Fm) (neg : Bool) : Option Addr := if neg then x.na else x.ya
def Fm.ln (x : Fm) (neg : Bool) : Nat := if neg then x.nl else x.yl
def Fm.cp (x : Fm) (neg : Bool) : Nat := if neg then x.nc else x.yc
theorem take_one {α : Type} {l : List α} {i : Nat} {d : α} (h : i < l.length) : l.take (i + 1) = l.take i ++ [l.getD i d] := by
  rw [List.take_add_one, List.getD_eq_getElem?_getD, List.getElem?_eq_getElem h]; rfl
/-- What gather is told of each kid. -/
def KdR (w : World) (neg : Bool) (c : Int) (x : Fm) (t : List Nd) : Prop :=
  x.ln neg = t.length ∧ t.length ≤ x.cp neg ∧ x.cp neg ≤ maxLen ∧ Le elN w (x.ad neg) t.length t ∧ t ≠ [] ∧ t.length ≤ 200 ∧ ((t.headD nd0).kd = c → 2 ≤ t.length ∧ 0 ≤ (t.headD nd0).ks ∧ (t.headD nd0).ks ≤ 200)
def gN (c : Int) (ls : List (List Nd)) : Nd := ⟨c, gatN c ls, [], 0, 0, 0⟩

end Go.Proofs.YtcfjgebfjgkmnaaGreatDoor
